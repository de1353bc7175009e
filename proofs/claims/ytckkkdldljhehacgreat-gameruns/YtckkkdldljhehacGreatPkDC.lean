/- Part of the proofs of GamePlays and GameRuns (package ninepinslaw): contracts of the functions that they call. -/
import Derived.Test.YtckkkdldljhehacGreatPkRA
import Derived.Test.YtckkkdldljhehacGreatPkDA
namespace Go.Proofs.YtckkkdldljhehacGreat
namespace Rf
open Num St Mp Th Wd Gm Ws
open Go.ChangeShapes Go.WideShapes Go.ChangeAt Go.RowKit
attribute [local go_sem ↓] Go.wp_at_zero Go.wp_at_succ
theorem mask_in2 {m : Int} {r : R8} (h : goodRowB m r = true) : 0 ≤ m ∧ m ≤ 31 := by have := goodRow_mask h; omega
theorem putM_del (k : Int) (t : Th) (l : Mth) : putM k t (delM k l) = putM k t l := by
 unfold putM
 rw [show delM k (delM k l) = delM k l from by unfold delM; rw [List.filter_filter]; congr 1; funext p; simp]
theorem good_kick {m : Int} {q r : R8} (h : goodRowB m q = true) (hm : hasB m 2 = true) : goodRowB m (kickR q r) = true := by
 have h1 := ad_le q.px r.px 16777216 (by omega)
 have h2 := ad_le q.py r.py 16777216 (by omega)
 obtain ⟨x, y, px, py, wd, ht, ms, rr⟩ := q
 simp only at h1 h2
 show goodRowB m ⟨x, y, ad px r.px 16777216, ad py r.py 16777216, wd, ht, ms, rr⟩ = true
 simp only [goodRowB, Bool.and_eq_true] at h ⊢
 obtain ⟨g1, g2, g3⟩ := h
 refine ⟨g1, ?_, ?_⟩
 ·simp [eqR, onlyR, layR, zeroR, hm] at g2 ⊢
  exact g2
 ·simp only [goodPartsB] at g3 ⊢
  split at g3
  ·exact absurd g3 (by simp)
  ·rename_i c1
   rw [if_neg c1]
   split at g3
   ·exact absurd g3 (by simp)
   ·rename_i c2
    rw [if_neg c2]
    simp only [btw, Bool.and_eq_true, decide_eq_true_eq] at g3 ⊢
    exact ⟨⟨⟨g3.1.1.1, h1⟩, h2⟩, g3.2⟩
set_option maxHeartbeats 16000000 in
set_option maxRecDepth 100000 in
theorem rdo_kick {F : Nat → Prop} {b : Nat} {s : Gp} {w : World} {id n mask : Int} {row : R8} {box : Sw.B5} (hR : RIn F b s w id mask) (hin : id ∈ allL s.now.L) : RDone F b s w ⟨5, id, n, mask, row, box⟩ := by
 obtain ⟨t, ht, hin, hmk, hrw, hat, hgr⟩ := there_of hR.g hin
 have hgl := hR.g.now.l
 have hmm := mask_in2 hgr
 cases h2 : hasB t.m 2
 ·unfold RDone
  rw [do_act (r := (s.now, no 1)) hR.a (by simp) (by simp) (by simp [actW, kickW, hin, hmk, h2])]
  have HHS : Hid (∀ W, Calls Tryz.prog 54 #[.int .i64 t.m, .int .i64 2] W fun e w' => e = .returned (.bool (hasB t.m 2)) ∧ w' = W) := St.hid (fun W => by rw [← (hasR_eq hmm).2.1]; exact Th.has_any t.m 2 ⟨by omega, by omega⟩ ⟨by omega, by omega⟩ W)
  rw [h2] at HHS
  clear hgl hin hmk hrw hat hgr hmm
  refine (rdoT 5 hR (some t) ht _).2 ?_
  intro c vs ms f tb W5 h5
  have H5 := St.hid h5
  have HL := St.hid hR.len
  have HGD := St.hid hR.g
  have HIW := hR.i
  have HA := hR.a
  dsimp only [rdoT]
  intro K1 k1
  obtain ⟨hbz, htn, htl, hcl, hz0, hz1, hz2⟩ := h5.lts
  obtain ⟨a0, a1, a2, a3, a4, a5, a6, a7, a8, a9, a10, a11, a12, a13, a14, a15, a16⟩ := acells h5.ac
  clear h5 hR
  simp only [Option.isSome, Option.getD] at H5 ⊢
  clear ht h2
  obtain ⟨x0, x1, x2, x3, x4, x5, x6, -⟩ := H5.out.gcs
  go_wp2_with fail
  refine (wcopy_any c _ s.now.next s.now.fall s.now.wide s.now.high _ H5.out.gw.now (by have := HL.out; simp only; omega)).mono ?_
  rintro e w6 ⟨⟨c2, rfl, hc2, hm2⟩, hb6⟩
  have HB6 := St.hid hb6
  have HM2 := St.hid hm2
  clear x0 x1 x2 x3 x4 x5 x6
  obtain ⟨x0, x1, x2, x3, x4, x5, x6, xf0, xf1, xf2, xf3, xf4⟩ := (H5.out.below hb6).gcs
  have hz6 := hb6.size
  have hbz6 : b < w6.heap.size := by omega
  clear hb6 hm2
  go_upto_region 48 with fail
  refine wp_world ?_
  intro W7 hW7
  have H7 := St.hid (H5.out.copied HB6.out hc2 HM2.out hW7)
  clear x0 x1 x2 x3 x4 x5 x6 xf0 xf1 xf2 xf3 xf4 HB6 HM2 hz6 hbz6 hW7 a0 a1 a2 a3 a4 a5 a6 a7 a8 a9 a10 a11 a12 a13 a14 a15 a16
  obtain ⟨-, -, htl7, hcl7, hz07, hz17, hz27⟩ := H7.out.lts
  obtain ⟨a0, a1, a2, a3, a4, a5, a6, a7, a8, a9, a10, a11, a12, a13, a14, a15, a16⟩ := acells H7.out.ac
  obtain ⟨t0, t1, t2, t3, t4, t5, t6, t7, t8⟩ := th9 H7.out.th
  go_upto_region 75 with (first | (go_at_call 54; refine (HHS.out _).mono ?_; rintro e w' ⟨rfl, hw'⟩; replace hw' := hw'.symm; subst hw'))
  go_wp2_with fail
  refine (rno_any 1 _).mono ?_
  rintro e w9 ⟨rfl, hb9⟩
  have H9 := St.hid (H7.out.below hb9)
  clear hb9
  obtain ⟨p0, p1, p2, p3, p4, p5, p6, p7⟩ := H9.out.rcs
  have hpl := H9.out.rp.lt
  go_wp2_with fail
  obtain ⟨q0, q1, q2, q3⟩ := four (put4 H9.out.rp (.int .i64 1) (.int .i64 0) (.slice none 0 0) (.slice none 0 0))
  exact bodyPost_ret (v := .agg #[.int .i64 1, .int .i64 0, .slice none 0 0, .slice none 0 0]) (by simp [results, Tryz.results27, go_sem, q0, q1, q2, q3]) rfl (H9.out.no 0 1 _ _ _ _)
 ·have hgk := good_kick (r := row) hgr h2
  unfold RDone
  rw [do_act (r := ({ s.now with L := setL id (kickR t.r row) s.now.L }, no 0)) hR.a (by simp) (by simp) (by simp [actW, kickW, setW, setS, hin, hmk, hrw, h2, hgk])]
  have HTK : Hid (putM id ⟨t.m, kickR t.r row⟩ (thM s.now.L) = thM (setL id (kickR t.r row) s.now.L)) := St.hid (by rw [(thM_set hgl hat hgk).2, putM_del])
  have HHS : Hid (∀ W, Calls Tryz.prog 54 #[.int .i64 t.m, .int .i64 2] W fun e w' => e = .returned (.bool (hasB t.m 2)) ∧ w' = W) := St.hid (fun W => by rw [← (hasR_eq hmm).2.1]; exact Th.has_any t.m 2 ⟨by omega, by omega⟩ ⟨by omega, by omega⟩ W)
  rw [h2] at HHS
  clear hgl hin hmk hrw hat hgr hmm
  clear hgk
  refine (rdoT 5 hR (some t) ht _).2 ?_
  intro c vs ms f tb W5 h5
  have H5 := St.hid h5
  have HL := St.hid hR.len
  have HGD := St.hid hR.g
  have HIW := hR.i
  have HA := hR.a
  dsimp only [rdoT]
  intro K1 k1
  obtain ⟨hbz, htn, htl, hcl, hz0, hz1, hz2⟩ := h5.lts
  obtain ⟨a0, a1, a2, a3, a4, a5, a6, a7, a8, a9, a10, a11, a12, a13, a14, a15, a16⟩ := acells h5.ac
  clear h5 hR
  simp only [Option.isSome, Option.getD] at H5 ⊢
  clear ht h2
  obtain ⟨x0, x1, x2, x3, x4, x5, x6, -⟩ := H5.out.gcs
  go_wp2_with fail
  refine (wcopy_any c _ s.now.next s.now.fall s.now.wide s.now.high _ H5.out.gw.now (by have := HL.out; simp only; omega)).mono ?_
  rintro e w6 ⟨⟨c2, rfl, hc2, hm2⟩, hb6⟩
  have HB6 := St.hid hb6
  have HM2 := St.hid hm2
  clear x0 x1 x2 x3 x4 x5 x6
  obtain ⟨x0, x1, x2, x3, x4, x5, x6, xf0, xf1, xf2, xf3, xf4⟩ := (H5.out.below hb6).gcs
  have hz6 := hb6.size
  have hbz6 : b < w6.heap.size := by omega
  clear hb6 hm2
  go_upto_region 48 with fail
  refine wp_world ?_
  intro W7 hW7
  have H7 := St.hid (H5.out.copied HB6.out hc2 HM2.out hW7)
  clear x0 x1 x2 x3 x4 x5 x6 xf0 xf1 xf2 xf3 xf4 HB6 HM2 hz6 hbz6 hW7 a0 a1 a2 a3 a4 a5 a6 a7 a8 a9 a10 a11 a12 a13 a14 a15 a16
  obtain ⟨-, -, htl7, hcl7, hz07, hz17, hz27⟩ := H7.out.lts
  obtain ⟨a0, a1, a2, a3, a4, a5, a6, a7, a8, a9, a10, a11, a12, a13, a14, a15, a16⟩ := acells H7.out.ac
  obtain ⟨t0, t1, t2, t3, t4, t5, t6, t7, t8⟩ := th9 H7.out.th
  go_upto_region 76 with (first | (go_at_call 54; refine (HHS.out _).mono ?_; rintro e w' ⟨rfl, hw'⟩; replace hw' := hw'.symm; subst hw'))
  refine Rh.wp_act ?_
  intro A hA
  refine rreg76_wp _ A w.heap.size tb t row W7 (by rw [hA]; rfl) (by rw [hA]; rfl) (by rw [hA]; exact Nat.le_of_ble_eq_true rfl) (fun W hg => ⟨(acells (rowIs_grown H7.out.ac hg (by simp; omega))).2.2.2.2.2.2.1, (acells (rowIs_grown H7.out.ac hg (by simp; omega))).2.2.2.2.2.2.2.1⟩) H7.out.th ?_
  intro f1 W8 hg8 htb8
  subst hA
  simp only [Rh.puts, Act.put]
  go_simp
  have H6 := St.hid (H7.out.thing hg8 htb8)
  clear t0 t1 t2 t3 t4 t5 t6 t7 t8 htb8 hg8 a0 a1 a2 a3 a4 a5 a6 a7 a8 a9 a10 a11 a12 a13 a14 a15 a16 htl7 hcl7 hz07 hz17 hz27
  obtain ⟨-, -, htl7, hcl7, hz07, hz17, hz27⟩ := H6.out.lts
  obtain ⟨a0, a1, a2, a3, a4, a5, a6, a7, a8, a9, a10, a11, a12, a13, a14, a15, a16⟩ := acells H6.out.ac
  obtain ⟨wu, hru, hmu, htu⟩ := H6.out.drew.gw.now.store HIW ⟨t.m, kickR t.r row⟩ (by have := HL.out; unfold maxLen; simp only; omega)
  have HD := St.hid H6.out.drew
  go_upto_region 77 with fail
  refine Rh.wp_act ?_
  intro A hA
  refine rreg77_wp _ A b c2 w.heap.size tb id ⟨t.m, kickR t.r row⟩ W8 wu (by rw [hA]; rfl) (by rw [hA]; rfl) (by rw [hA]; rfl) (by rw [hA]; exact Nat.le_of_ble_eq_true rfl) ⟨(rgcells HD.out.gw.row).1, (acells HD.out.ac).2.1, th9 HD.out.th⟩ hru ?_
  intro f2
  subst hA
  try simp only at hmu
  rw [HTK.out] at hmu
  have H8 := St.hid (H6.out.turned htu hmu)
  clear hru hmu htu HD
  simp only [Rh.puts, Act.put]
  go_simp
  go_wp2_with fail
  refine (rno_any 0 _).mono ?_
  rintro e w9 ⟨rfl, hb9⟩
  have H9 := St.hid (H8.out.below hb9)
  clear hb9
  obtain ⟨p0, p1, p2, p3, p4, p5, p6, p7⟩ := H9.out.rcs
  have hpl := H9.out.rp.lt
  go_wp2_with fail
  obtain ⟨q0, q1, q2, q3⟩ := four (put4 H9.out.rp (.int .i64 0) (.int .i64 0) (.slice none 0 0) (.slice none 0 0))
  exact bodyPost_ret (v := .agg #[.int .i64 0, .int .i64 0, .slice none 0 0, .slice none 0 0]) (by simp [results, Tryz.results27, go_sem, q0, q1, q2, q3]) rfl (H9.out.no 0 0 _ _ _ _)
end Rf
namespace Rf
open Num St Mp Th Wd Gm Ws
open Go.ChangeShapes Go.WideShapes Go.ChangeAt Go.RowKit
attribute [local go_sem ↓] Go.wp_at_zero Go.wp_at_succ
theorem wf_small {n : Int} (h : 0 ≤ n) (h' : n ≤ 1048576) : (Lit.int .i64 n).wf = true := by
 have h1 : IntKind.i64.min = -9223372036854775808 := by decide
 have h2 : IntKind.i64.max = 9223372036854775807 := by decide
 simp [Lit.wf, h1, h2]
 omega
theorem row_cells8 {W : World} {a : Nat} {x : Ac} (h : W.rowIs a 38 17 (fun i => (actCells x).getD i undef)) : W.cell? ⟨a, 4, none⟩ = some (.int .i64 x.row.x) ∧ W.cell? ⟨a, 5, none⟩ = some (.int .i64 x.row.y) ∧ W.cell? ⟨a, 6, none⟩ = some (.int .i64 x.row.px) ∧ W.cell? ⟨a, 7, none⟩ = some (.int .i64 x.row.py) ∧ W.cell? ⟨a, 8, none⟩ = some (.int .i64 x.row.wd) ∧ W.cell? ⟨a, 9, none⟩ = some (.int .i64 x.row.ht) ∧ W.cell? ⟨a, 10, none⟩ = some (.int .i64 x.row.ms) ∧ W.cell? ⟨a, 11, none⟩ = some (.int .i64 x.row.rr) :=
 ⟨h.cell (i := 4) (by omega), h.cell (i := 5) (by omega), h.cell (i := 6) (by omega), h.cell (i := 7) (by omega), h.cell (i := 8) (by omega), h.cell (i := 9) (by omega), h.cell (i := 10) (by omega), h.cell (i := 11) (by omega)⟩
theorem S5.next {w W : World} {F G : Nat → Prop} {b : Nat} {s : Gp} {x : Ac} {t : Th} {c : Nat} {vs : Value} {ms : List Nat} {tb : Nat} (h : S5 w F G b s x t c vs ms tb W) : S5 w F G b { s with now := { s.now with next := s.now.next + 1 } } x t c vs ms tb (W.setCell ⟨b, 1, none⟩ (.int .i64 (s.now.next + 1))) := by
 have hg := grown_set W b 1 (.int .i64 (s.now.next + 1))
 obtain ⟨z0, z1, -⟩ := h.lts
 exact ⟨rowIs_grown h.ac hg (fun e => by cases e; omega), rowIs_grown h.rp hg (fun e => by cases e; omega), h.gw.grown hg ((h.gw.row.set 1 _).congr (fun i hi => by
  match i, hi with
  | 0, _ => rfl
  | 1, _ => rfl
  | 2, _ => rfl
  | 3, _ => rfl
  | 4, _ => rfl
  | 5, _ => rfl
  | 6, _ => rfl)) rfl rfl, h.kw.set (Or.inl h.ow) 1 _, rowIs_grown h.th hg (fun e => by cases e; omega), h.tn, h.tg, h.cn, h.ow, h.fl, h.fn⟩
set_option maxHeartbeats 16000000 in
set_option maxRecDepth 100000 in
theorem rdo_spawn {F : Nat → Prop} {b : Nat} {s : Gp} {w : World} {id n mask : Int} {row : R8} {box : Sw.B5} (hR : RIn F b s w id mask) : RDone F b s w ⟨1, id, n, mask, row, box⟩ := by
 have HIR : Hid (∀ W, Calls Tryz.prog 49 #[.int .i64 mask, .agg #[.int .i64 row.x, .int .i64 row.y, .int .i64 row.px, .int .i64 row.py, .int .i64 row.wd, .int .i64 row.ht, .int .i64 row.ms, .int .i64 row.rr]] W fun e w' => e = .returned (.bool (goodRowB mask row)) ∧ Below W.heap.size W w') := St.hid (fun W => by have h1 := isRow_any mask row W; rw [isRow_good] at h1; exact h1)
 cases hgr : goodRowB mask row
 ·unfold RDone
  rw [do_act (r := (s.now, no 2)) hR.a (by simp) (by simp) (by simp [actW, spawnW, spawnS, hgr, no])]
  obtain ⟨o, ho⟩ : ∃ o, getM id (thM s.now.L) = o := ⟨_, rfl⟩
  refine (rdoT 1 hR o ho _).2 ?_
  intro c vs ms f tb W5 h5
  have H5 := St.hid h5
  have HL := St.hid hR.len
  have HGD := St.hid hR.g
  have HIW := hR.i
  have HA := hR.a
  dsimp only [rdoT]
  intro K1 k1
  obtain ⟨hbz, htn, htl, hcl, hz0, hz1, hz2⟩ := h5.lts
  obtain ⟨a0, a1, a2, a3, a4, a5, a6, a7, a8, a9, a10, a11, a12, a13, a14, a15, a16⟩ := acells h5.ac
  clear h5 hR
  rw [hgr] at HIR
  clear hgr
  go_wp2_with fail
  refine (HIR.out _).mono ?_
  rintro e w51 ⟨rfl, hb51⟩
  replace H5 := St.hid (H5.out.below hb51)
  clear hb51 htl hcl hz0 hz1 hz2 a0 a1 a2 a3 a4 a5 a6 a7 a8 a9 a10 a11 a12 a13 a14 a15 a16
  obtain ⟨-, -, htl, hcl, hz0, hz1, hz2⟩ := H5.out.lts
  obtain ⟨a0, a1, a2, a3, a4, a5, a6, a7, a8, a9, a10, a11, a12, a13, a14, a15, a16⟩ := acells H5.out.ac
  go_wp2_with fail
  refine (rno_any 2 _).mono ?_
  rintro e w9 ⟨rfl, hb9⟩
  have H9 := St.hid (H5.out.below hb9)
  clear hb9
  obtain ⟨p0, p1, p2, p3, p4, p5, p6, p7⟩ := H9.out.rcs
  have hpl := H9.out.rp.lt
  go_wp2_with fail
  obtain ⟨q0, q1, q2, q3⟩ := four (put4 H9.out.rp (.int .i64 2) (.int .i64 0) (.slice none 0 0) (.slice none 0 0))
  exact bodyPost_ret (v := .agg #[.int .i64 2, .int .i64 0, .slice none 0 0, .slice none 0 0]) (by simp [results, Tryz.results27, go_sem, q0, q1, q2, q3]) rfl (H9.out.no 0 2 _ _ _ _)
 ·by_cases hfull : (allL s.now.L).length = 10 ∨ s.now.next = 1048576
  ·unfold RDone
   rw [do_act (r := (s.now, no 5)) hR.a (by simp) (by simp) (by simp [actW, spawnW, spawnS, hgr, hfull, no])]
   obtain ⟨o, ho⟩ : ∃ o, getM id (thM s.now.L) = o := ⟨_, rfl⟩
   refine (rdoT 1 hR o ho _).2 ?_
   intro c vs ms f tb W5 h5
   have H5 := St.hid h5
   have HL := St.hid hR.len
   have HGD := St.hid hR.g
   have HIW := hR.i
   have HA := hR.a
   dsimp only [rdoT]
   intro K1 k1
   obtain ⟨hbz, htn, htl, hcl, hz0, hz1, hz2⟩ := h5.lts
   obtain ⟨a0, a1, a2, a3, a4, a5, a6, a7, a8, a9, a10, a11, a12, a13, a14, a15, a16⟩ := acells h5.ac
   clear h5 hR
   rw [hgr] at HIR
   clear hgr
   go_wp2_with fail
   refine (HIR.out _).mono ?_
   rintro e w51 ⟨rfl, hb51⟩
   replace H5 := St.hid (H5.out.below hb51)
   clear hb51 htl hcl hz0 hz1 hz2 a0 a1 a2 a3 a4 a5 a6 a7 a8 a9 a10 a11 a12 a13 a14 a15 a16
   obtain ⟨-, -, htl, hcl, hz0, hz1, hz2⟩ := H5.out.lts
   obtain ⟨a0, a1, a2, a3, a4, a5, a6, a7, a8, a9, a10, a11, a12, a13, a14, a15, a16⟩ := acells H5.out.ac
   have HLN : Hid ((thM s.now.L).length = (allL s.now.L).length) := St.hid (thM_len HGD.out.now.l.even HGD.out.now.l.2.2.2.2.2)
   have hln := H5.out.gw.now.len
   simp only at hln
   rw [HLN.out] at hln
   obtain ⟨x0, x1, x2, x3, x4, x5, x6, -⟩ := H5.out.gcs
   simp only at x0 x1 x2 x3 x4
   have hor : (((allL s.now.L).length : Int) == 10) = true ∨ (((allL s.now.L).length : Int) == 10) = false ∧ (s.now.next == 1048576) = true := by
    cases h10 : (((allL s.now.L).length : Int) == 10)
    ·exact Or.inr ⟨rfl, by rcases hfull with h | h; (simp [h] at h10); simp [h]⟩
    ·exact Or.inl rfl
   clear hfull
   rcases hor with h10 | ⟨h10, h11⟩
   all_goals
    go_wp2_with fail
    refine (rno_any 5 _).mono ?_
    rintro e w9 ⟨rfl, hb9⟩
    have H9 := St.hid (H5.out.below hb9)
    clear hb9
    obtain ⟨p0, p1, p2, p3, p4, p5, p6, p7⟩ := H9.out.rcs
    have hpl := H9.out.rp.lt
    go_wp2_with fail
    obtain ⟨q0, q1, q2, q3⟩ := four (put4 H9.out.rp (.int .i64 5) (.int .i64 0) (.slice none 0 0) (.slice none 0 0))
    exact bodyPost_ret (v := .agg #[.int .i64 5, .int .i64 0, .slice none 0 0, .slice none 0 0]) (by simp [results, Tryz.results27, go_sem, q0, q1, q2, q3]) rfl (H9.out.no 0 5 _ _ _ _)
  ·unfold RDone
   rw [do_act (r := ({ s.now with L := putT mask s.now.next row s.now.L, next := s.now.next + 1 }, (⟨0, s.now.next, [], []⟩ : Rep))) hR.a (by simp) (by simp) (by simp [actW, spawnW, spawnS, hgr, hfull])]
   have hgl := hR.g.now.l
   have hnx := hgl.1
   simp [btw] at hnx
   have hwfn : (Lit.int .i64 s.now.next).wf = true := wf_small (by omega) (by omega)
   have HTK := St.hid (thM_spawned hgl hgr (by have := hgl.2.1; omega) (by omega))
   clear hgl
   obtain ⟨o, ho⟩ : ∃ o, getM id (thM s.now.L) = o := ⟨_, rfl⟩
   refine (rdoT 1 hR o ho _).2 ?_
   intro c vs ms f tb W5 h5
   have H5 := St.hid h5
   have HL := St.hid hR.len
   have HGD := St.hid hR.g
   have HIW := hR.i
   have HA := hR.a
   dsimp only [rdoT]
   intro K1 k1
   obtain ⟨hbz, htn, htl, hcl, hz0, hz1, hz2⟩ := h5.lts
   obtain ⟨a0, a1, a2, a3, a4, a5, a6, a7, a8, a9, a10, a11, a12, a13, a14, a15, a16⟩ := acells h5.ac
   clear h5 hR
   rw [hgr] at HIR
   clear hgr
   go_wp2_with fail
   refine (HIR.out _).mono ?_
   rintro e w51 ⟨rfl, hb51⟩
   replace H5 := St.hid (H5.out.below hb51)
   clear hb51 htl hcl hz0 hz1 hz2 a0 a1 a2 a3 a4 a5 a6 a7 a8 a9 a10 a11 a12 a13 a14 a15 a16
   obtain ⟨-, -, htl, hcl, hz0, hz1, hz2⟩ := H5.out.lts
   obtain ⟨a0, a1, a2, a3, a4, a5, a6, a7, a8, a9, a10, a11, a12, a13, a14, a15, a16⟩ := acells H5.out.ac
   have HLN : Hid ((thM s.now.L).length = (allL s.now.L).length) := St.hid (thM_len HGD.out.now.l.even HGD.out.now.l.2.2.2.2.2)
   have hln := H5.out.gw.now.len
   simp only at hln
   rw [HLN.out] at hln
   have h10 : (((allL s.now.L).length : Int) == 10) = false := by simp; omega
   have h11 : (s.now.next == 1048576) = false := by simp; omega
   obtain ⟨x0, x1, x2, x3, x4, x5, x6, -⟩ := H5.out.gcs
   go_wp2_with fail
   refine (wcopy_any c _ s.now.next s.now.fall s.now.wide s.now.high _ H5.out.gw.now (by have := HL.out; simp only; omega)).mono ?_
   rintro e w6 ⟨⟨c2, rfl, hc2, hm2⟩, hb6⟩
   have HB6 := St.hid hb6
   have HM2 := St.hid hm2
   clear x0 x1 x2 x3 x4 x5 x6
   obtain ⟨x0, x1, x2, x3, x4, x5, x6, xf0, xf1, xf2, xf3, xf4⟩ := (H5.out.below hb6).gcs
   have hz6 := hb6.size
   have hbz6 : b < w6.heap.size := by omega
   clear hb6 hm2
   go_upto_region 14 with fail
   refine wp_world ?_
   intro W7 hW7
   have H7 := St.hid (H5.out.copied HB6.out hc2 HM2.out hW7)
   clear x0 x1 x2 x3 x4 x5 x6 xf0 xf1 xf2 xf3 xf4 HB6 HM2 hz6 hbz6 hW7 a0 a1 a2 a3 a4 a5 a6 a7 a8 a9 a10 a11 a12 a13 a14 a15 a16
   obtain ⟨-, -, htl7, hcl7, hz07, hz17, hz27⟩ := H7.out.lts
   obtain ⟨a0, a1, a2, a3, a4, a5, a6, a7, a8, a9, a10, a11, a12, a13, a14, a15, a16⟩ := acells H7.out.ac
   obtain ⟨wu, hru, hmu, htu⟩ := H7.out.drew.gw.now.store hwfn ⟨mask, row⟩ (by have := HL.out; unfold maxLen; simp only; omega)
   have HD := St.hid H7.out.drew
   go_upto_region 14 with fail
   refine Rh.wp_act ?_
   intro A hA
   refine rreg14_wp _ A b c2 w.heap.size s.now.next mask row W7 wu (by rw [hA]; rfl) (by rw [hA]; rfl) (by rw [hA]; exact Nat.le_of_ble_eq_true rfl) ⟨(rgcells HD.out.gw.row).1, (rgcells HD.out.gw.row).2.1, (acells HD.out.ac).2.2.2.1, row_cells8 HD.out.ac⟩ hru ?_
   intro f2
   subst hA
   try simp only at hmu
   rw [← HTK.out] at hmu
   have H8 := St.hid (H7.out.turned htu hmu)
   clear hru hmu htu HD
   simp only [Rh.puts, Act.put]
   go_simp
   obtain ⟨x0, x1, x2, x3, x4, x5, x6, -, xf1, -⟩ := H8.out.gcs
   simp only at x0 x1 x2 x3 x4
   obtain ⟨p0, p1, p2, p3, p4, p5, p6, p7⟩ := H8.out.rcs
   obtain ⟨-, -, -, -, -, hpl, hbu⟩ := H8.out.lts
   have HX := St.hid (H8.out.next)
   go_wp2_with fail
   obtain ⟨q0, q1, q2, q3⟩ := four (put4 HX.out.rp (.int .i64 0) (.int .i64 s.now.next) (.slice none 0 0) (.slice none 0 0))
   exact bodyPost_ret (v := .agg #[.int .i64 0, .int .i64 s.now.next, .slice none 0 0, .slice none 0 0]) (by simp [results, Tryz.results27, go_sem, q0, q1, q2, q3]) rfl (HX.out.no s.now.next 0 _ _ _ _)
end Rf
end Go.Proofs.YtckkkdldljhehacGreat
