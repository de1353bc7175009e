/- Part of the proofs of GamePlays and GameRuns (package ninepinslaw): contracts of the functions that they call. -/
import Derived.Test.YtckkkdldljhehacGreatPkDA
namespace Go.Proofs.YtckkkdldljhehacGreat
namespace Rf
open Num St Mp Th Wd Gm Ws
open Go.ChangeShapes Go.WideShapes Go.ChangeAt Go.RowKit
attribute [local go_sem ↓] Go.wp_at_zero Go.wp_at_succ
theorem RGamP.save_at {W : World} {F : Nat → Prop} {b : Nat} {s : Gp} {c : Nat} {vs : Value} {ms : List Nat} (h : RGamP W F b s c vs ms) {k : Nat} (hk : k < s.saves.length) :
  ∃ g cc m x, vs = .slice (some ⟨g, 0, none⟩) s.saves.length cc ∧ s.saves[k]? = some x ∧ Mp W m (thM x.L) ∧ g < W.heap.size ∧
   W.cell? ⟨g, k * 5, none⟩ = some (.map (some m)) ∧ W.cell? ⟨g, k * 5 + 1, none⟩ = some (.int .i64 x.next) ∧ W.cell? ⟨g, k * 5 + 2, none⟩ = some (.int .i64 x.fall) ∧ W.cell? ⟨g, k * 5 + 3, none⟩ = some (.int .i64 x.wide) ∧ W.cell? ⟨g, k * 5 + 4, none⟩ = some (.int .i64 x.high) := by
 obtain ⟨g, cc, hv⟩ : ∃ g cc, vs = .slice (some ⟨g, 0, none⟩) s.saves.length cc := by
  rcases h.svs.2 with ⟨_, h0⟩ | ⟨g, cc, _, e, _⟩
  ·omega
  ·exact ⟨g, cc, e⟩
 subst hv
 have hx := List.getElem?_eq_getElem hk
 have hm := List.getElem?_eq_getElem (show k < ms.length by rw [h.len]; exact hk)
 have hu : (mvs ms)[k]? = some (.map (some (ms[k]'(by rw [h.len]; exact hk)))) := by unfold mvs; rw [List.getElem?_map, hm]; rfl
 have hz : ((mvs ms).zip s.saves)[k]? = some (.map (some (ms[k]'(by rw [h.len]; exact hk))), s.saves[k]) := by
  rw [List.getElem?_zip_eq_some]; exact ⟨hu, hx⟩
 have cell : ∀ i, i < 5 → W.cell? ⟨g, k * 5 + i, none⟩ = (saveCells ((mvs ms).zip s.saves))[k * 5 + i]? := fun i hi => h.svs.cellAt _ (by omega)
 have get : ∀ (l : List (Value × Wp)) (k i : Nat) (p : Value × Wp), l[k]? = some p → i < 5 → (saveCells l)[k * 5 + i]? = [p.1, .int .i64 p.2.next, .int .i64 p.2.fall, .int .i64 p.2.wide, .int .i64 p.2.high][i]? := by
  intro l
  induction l with
  | nil => intro k i p h; simp at h
  | cons q l ih =>
   intro k i p h hi
   have e : saveCells (q :: l) = [q.1, .int .i64 q.2.next, .int .i64 q.2.fall, .int .i64 q.2.wide, .int .i64 q.2.high] ++ saveCells l := by simp [saveCells]
   rw [e]
   cases k with
   | zero =>
    simp at h
    subst h
    rw [Nat.zero_mul, Nat.zero_add, List.getElem?_append_left (by simpa using hi)]
   | succ k =>
    have e2 : (k + 1) * 5 + i = 5 + (k * 5 + i) := by omega
    rw [e2, List.getElem?_append_right (by simp)]
    simpa using ih k i p (by simpa using h) hi
 refine ⟨g, cc, _, _, rfl, hx, h.all k _ _ hm hx, (h.svs.lt g rfl).2, ?_, ?_, ?_, ?_, ?_⟩
 ·have e := cell 0 (by omega); rw [get _ k 0 _ hz (by omega)] at e; exact e
 ·have e := cell 1 (by omega); rw [get _ k 1 _ hz (by omega)] at e; exact e
 ·have e := cell 2 (by omega); rw [get _ k 2 _ hz (by omega)] at e; exact e
 ·have e := cell 3 (by omega); rw [get _ k 3 _ hz (by omega)] at e; exact e
 ·have e := cell 4 (by omega); rw [get _ k 4 _ hz (by omega)] at e; exact e
set_option maxHeartbeats 16000000 in
set_option maxRecDepth 100000 in
theorem rdo_load {F : Nat → Prop} {b : Nat} {s : Gp} {w : World} {id n mask : Int} {row : R8} {box : Sw.B5} (hR : RIn F b s w id mask) : RDone F b s w ⟨8, id, n, mask, row, box⟩ := by
 by_cases hin : 0 ≤ n ∧ n < s.saves.length
 rotate_left
 ·have hdo : doG s ⟨8, id, n, mask, row, box⟩ = ({ s with acts := s.acts + 1 }, no 3) := by
   unfold doG
   rw [if_neg (by show ¬ 150 ≤ s.acts; have := hR.a; omega), if_neg (by simp), if_pos rfl, if_neg hin]
  unfold RDone
  rw [hdo]
  clear hdo
  obtain ⟨o, ho⟩ : ∃ o, getM id (thM s.now.L) = o := ⟨_, rfl⟩
  refine (rdoT 8 hR o ho _).2 ?_
  intro c vs ms f tb W5 h5
  have H5 := St.hid h5
  have HL := St.hid hR.len
  have HGD := St.hid hR.g
  have HIW := hR.i
  have HA := hR.a
  dsimp only [rdoT]
  intro K1 k1
  obtain ⟨hbz, htn, htl, hcl, hz0, hz1, hz2⟩ := h5.lts
  obtain ⟨a0, a1, a2, a3, a4, a5, a6, a7, a8, a9, a10, a11, a12, a13, a14, a15, a16⟩ := acells h5.ac
  clear h5 hR
  obtain ⟨av, cv, rfl, -⟩ := Sw.owns_slice H5.out.gw.svs
  simp only at H5
  obtain ⟨x0, x1, x2, x3, x4, x5, x6, -⟩ := H5.out.gcs
  simp only at x0 x1 x2 x3 x4
  have hfew := HGD.out.few
  have hwl : wrap64 ((s.saves.length : Int) - 1) = (s.saves.length : Int) - 1 := by unfold wrap64; omega
  have hq : btw n 0 ((s.saves.length : Int) - 1) = false := by
   cases h : btw n 0 ((s.saves.length : Int) - 1) with
   | false => rfl
   | true => exact absurd (by simp [btw] at h; omega) hin
  go_wp2_with fail
  go_quiet ((go_at_call 47; exact Calls.quiet_of_same (Th.within_any _ _ _ _)))
  replace H5 := St.hid (H5.out.below (below_drewN (Below.refl _ W5) nq))
  go_wp2_with fail
  refine (rno_any 3 _).mono ?_
  rintro e w9 ⟨rfl, hb9⟩
  have H9 := St.hid (H5.out.below hb9)
  clear hb9
  obtain ⟨p0, p1, p2, p3, p4, p5, p6, p7⟩ := H9.out.rcs
  have hpl := H9.out.rp.lt
  go_wp2_with fail
  obtain ⟨q0, q1, q2, q3⟩ := four (put4 H9.out.rp (.int .i64 3) (.int .i64 0) (.slice none 0 0) (.slice none 0 0))
  exact bodyPost_ret (v := .agg #[.int .i64 3, .int .i64 0, .slice none 0 0, .slice none 0 0]) (by simp [results, Tryz.results27, go_sem, q0, q1, q2, q3]) rfl (H9.out.no 0 3 _ _ _ _)
 ·obtain ⟨k, rfl⟩ : ∃ k : Nat, n = k := ⟨n.toNat, by omega⟩
  have hkl : k < s.saves.length := by omega
  obtain ⟨x, hsx0⟩ : ∃ x, s.saves[k]? = some x := ⟨_, List.getElem?_eq_getElem hkl⟩
  have hdo : doG s ⟨8, id, k, mask, row, box⟩ = ({ s with now := x, acts := s.acts + 1 }, no 0) := by
   unfold doG
   rw [if_neg (by show ¬ 150 ≤ s.acts; have := hR.a; omega), if_neg (by simp), if_pos rfl, if_pos hin]
   simp [hsx0]
  unfold RDone
  rw [hdo]
  clear hdo
  obtain ⟨o, ho⟩ : ∃ o, getM id (thM s.now.L) = o := ⟨_, rfl⟩
  refine (rdoT 8 hR o ho _).2 ?_
  intro c vs ms f tb W5 h5
  have H5 := St.hid h5
  have HL := St.hid hR.len
  have HGD := St.hid hR.g
  have HIW := hR.i
  have HA := hR.a
  dsimp only [rdoT]
  intro K1 k1
  obtain ⟨hbz, htn, htl, hcl, hz0, hz1, hz2⟩ := h5.lts
  obtain ⟨a0, a1, a2, a3, a4, a5, a6, a7, a8, a9, a10, a11, a12, a13, a14, a15, a16⟩ := acells h5.ac
  clear h5 hR
  obtain ⟨g, cc, m, x', rfl, hsx, hmx, hgz, s0, s1, s2, s3, s4⟩ := H5.out.gw.save_at (k := k) hkl
  simp only at hsx
  have hxx : x = x' := Option.some.inj (hsx0.symm.trans hsx)
  subst hxx
  have HGX : Hid (GoodW x) := St.hid (HGD.out.saves x (List.mem_of_getElem? hsx))
  have HMX := St.hid hmx
  simp only at H5
  obtain ⟨x0, x1, x2, x3, x4, x5, x6, -⟩ := H5.out.gcs
  simp only at x0 x1 x2 x3 x4
  have hfew := HGD.out.few
  have hwl : wrap64 ((s.saves.length : Int) - 1) = (s.saves.length : Int) - 1 := by unfold wrap64; omega
  have hq : btw (k : Int) 0 ((s.saves.length : Int) - 1) = true := by simp [btw]; omega
  have hkl' : (k : Int) < (s.saves.length : Int) := by omega
  go_wp2_with fail
  go_quiet ((go_at_call 47; exact Calls.quiet_of_same (Th.within_any _ _ _ _)))
  generalize hWQ : W5.drewN nq = W6
  have hbq : Below W5.heap.size W5 W6 := by rw [← hWQ]; exact below_drewN (Below.refl _ W5) nq
  have hgz6 : g < W6.heap.size := Nat.lt_of_lt_of_le hgz hbq.size
  rw [← hbq.cell (by exact hgz)] at s0 s1 s2 s3 s4
  replace H5 := St.hid (H5.out.below hbq)
  have HMX := St.hid (HMX.out.below hbq)
  clear hWQ hbq hmx hsx hsx0 x0 x1 x2 x3 x4 x5 x6 htl hcl hz0 hz1 hz2 a0 a1 a2 a3 a4 a5 a6 a7 a8 a9 a10 a11 a12 a13 a14 a15 a16
  obtain ⟨-, -, htl, hcl, hz0, hz1, hz2⟩ := H5.out.lts
  obtain ⟨a0, a1, a2, a3, a4, a5, a6, a7, a8, a9, a10, a11, a12, a13, a14, a15, a16⟩ := acells H5.out.ac
  obtain ⟨x0, x1, x2, x3, x4, x5, x6, xf0, xf1, xf2, xf3, xf4⟩ := H5.out.gcs
  simp only at x0 x1 x2 x3 x4
  have HWC : Hid (∀ W, Below W6.heap.size W6 W → Calls Tryz.prog 50 #[.agg #[.map (some m), .int .i64 x.next, .int .i64 x.fall, .int .i64 x.wide, .int .i64 x.high]] W fun e w' => (∃ c, e = .returned (.agg #[.map (some c), .int .i64 x.next, .int .i64 x.fall, .int .i64 x.wide, .int .i64 x.high]) ∧ W.heap.size ≤ c ∧ Mp w' c (thM x.L)) ∧ Below W.heap.size W w') := St.hid (fun W hb => wcopy_any m _ _ _ _ _ W (HMX.out.below hb) (by rw [thM_len HGX.out.l.even HGX.out.l.2.2.2.2.2]; have := HGX.out.l.2.1; omega))
  go_wp2_with fail
  go_cut [] (fun wx => ∃ W' c2, W' = wx ∧ S5 w F (fun z => F z ∨ z = c2) b { s with now := x, acts := s.acts + 1 } ⟨8, id, k, mask, row, box⟩ (o.getD zTh) c2 (.slice (some ⟨g, 0, none⟩) s.saves.length cc) ms tb W')
  case first =>
   go_region_with (go_at_call 50; go_fit (HWC.out _ (by repeat (first | with_reducible exact Below.refl _ _ | with_reducible refine Below.drew ?_))); rintro e w7 ⟨⟨c2, rfl, hc2, hm2⟩, hb7⟩; have HQ7 := St.hid (bcall (by repeat (first | with_reducible exact Below.refl _ W6 | with_reducible refine Below.drew ?_)) hb7 : Below W6.heap.size W6 w7); have HM7 := St.hid hm2; have hc26 : W6.heap.size ≤ c2 := hc2; clear hb7 hm2 hc2 x0 x1 x2 x3 x4 x5 x6 xf0 xf1 xf2 xf3 xf4; obtain ⟨x0, x1, x2, x3, x4, x5, x6, xf0, xf1, xf2, xf3, xf4⟩ := (H5.out.below HQ7.out).gcs; simp only at x0 x1 x2 x3 x4; have hbz7 : b < w7.heap.size := by have := HQ7.out.size; omega)
   all_goals
    go_wp2_with fail
    go_meet
    exact ⟨_, c2, rfl, H5.out.loaded HQ7.out hc26 HM7.out rfl⟩
  case rest =>
  obtain ⟨W7, c2, rfl, h7⟩ := hcut
  have H7 := St.hid h7
  clear h7 x0 x1 x2 x3 x4 x5 x6 xf0 xf1 xf2 xf3 xf4 s0 s1 s2 s3 s4 a0 a1 a2 a3 a4 a5 a6 a7 a8 a9 a10 a11 a12 a13 a14 a15 a16
  go_wp2_with fail
  refine (rno_any 0 _).mono ?_
  rintro e w9 ⟨rfl, hb9⟩
  have H9 := St.hid (H7.out.below hb9)
  clear hb9
  obtain ⟨p0, p1, p2, p3, p4, p5, p6, p7⟩ := H9.out.rcs
  have hpl := H9.out.rp.lt
  go_wp2_with fail
  obtain ⟨q0, q1, q2, q3⟩ := four (put4 H9.out.rp (.int .i64 0) (.int .i64 0) (.slice none 0 0) (.slice none 0 0))
  exact bodyPost_ret (v := .agg #[.int .i64 0, .int .i64 0, .slice none 0 0, .slice none 0 0]) (by simp [results, Tryz.results27, go_sem, q0, q1, q2, q3]) rfl (H9.out.no 0 0 _ _ _ _)
end Rf
end Go.Proofs.YtckkkdldljhehacGreat
