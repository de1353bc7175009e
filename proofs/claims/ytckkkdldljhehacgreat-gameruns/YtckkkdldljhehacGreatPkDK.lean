/- Part of the proofs of GamePlays and GameRuns (package ninepinslaw): contracts of the functions that they call. -/
import Derived.Test.YtckkkdldljhehacGreatPkDI
namespace Go.Proofs.YtckkkdldljhehacGreat
namespace Rf
open Num St Mp Th Wd Gm Ws
open Go.ChangeShapes Go.WideShapes Go.ChangeAt Go.RowKit
attribute [local go_sem ↓] Go.wp_at_zero Go.wp_at_succ
set_option maxHeartbeats 16000000 in
set_option maxRecDepth 100000 in
theorem rdo_give_ok {F : Nat → Prop} {b : Nat} {s : Gp} {w : World} {id n mask : Int} {row : R8} {box : Sw.B5} (hR : RIn F b s w id mask) (t : Th) (hT : There s id t) (h2 : hasB t.m mask = false) (hpp : mask ∈ parts) : RDone F b s w ⟨3, id, n, mask, row, box⟩ := by
 have hmm := mask_in2 hT.good
 have h1 := parts_one mask hpp
 obtain ⟨mr, hmr⟩ : ∃ mr, mr = onlyH mask row := ⟨_, rfl⟩
 obtain ⟨rn, hrn⟩ : ∃ rn : R8, rn = withP mask t.r mr := ⟨_, rfl⟩
 have HPL := St.hid (plan_of (k := 3) (n := n) (row := row) (box := box) (zr := row) hR hT hpp h2 (by decide) (by decide) (show chR (t.m + mask) t.m t.r row = rn by rw [give_row hT.good hpp h2, ← hmr, hrn]) (by simp only [actW]; simp [giveW, hT.inn, hT.msk, h1, h2, (or_all t.m (mem_masks hmm) mask hpp h2).1]))
 have HON : Hid (∀ W, Calls Tryz.prog 55 #[.int .i64 mask, .agg #[.int .i64 row.x, .int .i64 row.y, .int .i64 row.px, .int .i64 row.py, .int .i64 row.wd, .int .i64 row.ht, .int .i64 row.ms, .int .i64 row.rr]] W fun e w' => e = .returned (.agg #[.int .i64 mr.x, .int .i64 mr.y, .int .i64 mr.px, .int .i64 mr.py, .int .i64 mr.wd, .int .i64 mr.ht, .int .i64 mr.ms, .int .i64 mr.rr]) ∧ Below W.heap.size W w') := St.hid (fun W => by have h := onlyOf_any mask (by have := part_in hpp; omega) row.x row.y row.px row.py row.wd row.ht row.ms row.rr W; rw [hmr]; exact h)
 obtain ⟨gb, hgb⟩ : ∃ gb, goodRowB (t.m + mask) rn = gb := ⟨_, rfl⟩
 have HGB := St.hid hgb
 have HIR := St.hid HPL.out.row
 rw [hgb] at HIR
 have HHS := St.hid HPL.out.has
 have hpi := part_in hpp
 have hwa : wrap64 (t.m + mask) = t.m + mask := by unfold wrap64; omega
 have HRN := St.hid hrn
 have ho := hT.get
 have HPP := St.hid hpp
 clear hpp hgb hrn hmr h1 h2 hT
 unfold RDone
 refine (rdoT 3 hR (some t) ho _).2 ?_
 intro c vs ms f tb W5 h5
 have H5 := St.hid h5
 have HL := St.hid hR.len
 have HGD := St.hid hR.g
 have HIW := hR.i
 have HA := hR.a
 dsimp only [rdoT]
 intro K1 k1
 obtain ⟨hbz, htn, htl, hcl, hz0, hz1, hz2⟩ := h5.lts
 obtain ⟨a0, a1, a2, a3, a4, a5, a6, a7, a8, a9, a10, a11, a12, a13, a14, a15, a16⟩ := acells h5.ac
 clear h5 hR
 simp only [Option.isSome, Option.getD] at H5 ⊢
 clear ho
 obtain ⟨x0, x1, x2, x3, x4, x5, x6, -⟩ := H5.out.gcs
 go_wp2_with fail
 refine (wcopy_any c _ s.now.next s.now.fall s.now.wide s.now.high _ H5.out.gw.now (by have := HL.out; simp only; omega)).mono ?_
 rintro e w6 ⟨⟨c2, rfl, hc2, hm2⟩, hb6⟩
 have HB6 := St.hid hb6
 have HM2 := St.hid hm2
 clear x0 x1 x2 x3 x4 x5 x6
 obtain ⟨x0, x1, x2, x3, x4, x5, x6, xf0, xf1, xf2, xf3, xf4⟩ := (H5.out.below hb6).gcs
 have hz6 := hb6.size
 have hbz6 : b < w6.heap.size := by omega
 clear hb6 hm2
 go_upto_region 48 with fail
 refine wp_world ?_
 intro W7 hW7
 have H7 := St.hid (H5.out.copied HB6.out hc2 HM2.out hW7)
 clear x0 x1 x2 x3 x4 x5 x6 xf0 xf1 xf2 xf3 xf4 HB6 HM2 hz6 hbz6 hW7 a0 a1 a2 a3 a4 a5 a6 a7 a8 a9 a10 a11 a12 a13 a14 a15 a16
 obtain ⟨-, -, htl7, hcl7, hz07, hz17, hz27⟩ := H7.out.lts
 obtain ⟨a0, a1, a2, a3, a4, a5, a6, a7, a8, a9, a10, a11, a12, a13, a14, a15, a16⟩ := acells H7.out.ac
 obtain ⟨t0, t1, t2, t3, t4, t5, t6, t7, t8⟩ := th9 H7.out.th
 rcases part_cases HPP.out with ⟨e1, e2, e4, e8, e16⟩ | ⟨e1, e2, e4, e8, e16⟩ | ⟨e1, e2, e4, e8, e16⟩ | ⟨e1, e2, e4, e8, e16⟩ | ⟨e1, e2, e4, e8, e16⟩
 all_goals
  go_wp2_with fail
  go_quiet ((go_at_call 54; exact Calls.quiet_of_same (HHS.out _)))
  generalize hWQ : W7.drewN nq = W8
  have hbq : Below W7.heap.size W7 W8 := by rw [← hWQ]; exact below_drewN (Below.refl _ W7) nq
  replace H7 := St.hid (H7.out.below hbq)
  clear hWQ hbq t0 t1 t2 t3 t4 t5 t6 t7 t8 htl7 hcl7 hz07 hz17 hz27 a0 a1 a2 a3 a4 a5 a6 a7 a8 a9 a10 a11 a12 a13 a14 a15 a16
  obtain ⟨-, -, htl7, hcl7, hz07, hz17, hz27⟩ := H7.out.lts
  obtain ⟨a0, a1, a2, a3, a4, a5, a6, a7, a8, a9, a10, a11, a12, a13, a14, a15, a16⟩ := acells H7.out.ac
  obtain ⟨t0, t1, t2, t3, t4, t5, t6, t7, t8⟩ := th9 H7.out.th
  have HN8 : Hid (¬ (F W8.heap.size ∨ W8.heap.size = c2)) := St.hid (fun h => Nat.lt_irrefl _ (H7.out.gw.lt W8.heap.size h))
  go_wp2_with fail
  refine (HON.out _).mono ?_
  rintro e w9 ⟨rfl, hb9⟩
  have hA9 : Below W8.heap.size W8 w9 := bcall (bal (Below.refl _ W8) (.cells #[.int .i64 (t.m + mask), .int .i64 t.r.x, .int .i64 t.r.y, .int .i64 t.r.px, .int .i64 t.r.py, .int .i64 t.r.wd, .int .i64 t.r.ht, .int .i64 t.r.ms, .int .i64 t.r.rr] 105)) hb9
  have HNB : Hid (w9.rowIs W8.heap.size 105 9 (fun i => (thCells ⟨t.m + mask, t.r⟩).getD i undef)) := St.hid (rowIs_below (rowIsL W8 (thCells ⟨t.m + mask, t.r⟩) 105) hb9)
  replace H7 := St.hid (H7.out.below hA9)
  have hz9 := HNB.out.lt
  have hgt8 := htl7
  clear hA9 hb9 t0 t1 t2 t3 t4 t5 t6 t7 t8 htl7 hcl7 hz07 hz17 hz27 a0 a1 a2 a3 a4 a5 a6 a7 a8 a9 a10 a11 a12 a13 a14 a15 a16
  obtain ⟨-, -, htl7, hcl7, hz07, hz17, hz27⟩ := H7.out.lts
  obtain ⟨a0, a1, a2, a3, a4, a5, a6, a7, a8, a9, a10, a11, a12, a13, a14, a15, a16⟩ := acells H7.out.ac
  have HMB : Hid ((w9.alloc (.cells #[.int .i64 mr.x, .int .i64 mr.y, .int .i64 mr.px, .int .i64 mr.py, .int .i64 mr.wd, .int .i64 mr.ht, .int .i64 mr.ms, .int .i64 mr.rr] 34)).rowIs w9.heap.size 34 8 (fun i => (rowCells mr).getD i undef)) := St.hid (rowIsL w9 (rowCells mr) 34)
  have hA10 := bal (Below.refl _ w9) (.cells #[.int .i64 mr.x, .int .i64 mr.y, .int .i64 mr.px, .int .i64 mr.py, .int .i64 mr.wd, .int .i64 mr.ht, .int .i64 mr.ms, .int .i64 mr.rr] 34)
  replace H7 := St.hid (H7.out.below hA10)
  have HNB := St.hid (rowIs_below HNB.out hA10)
  try rw [show t.r = rn from by rw [HRN.out, eq_of_beq e16]; rfl] at HNB
  obtain ⟨n0, n1, n2, n3, n4, n5, n6, n7, n8⟩ := th9 HNB.out
  simp only at n0 n1 n2 n3 n4 n5 n6 n7 n8
  clear a0 a1 a2 a3 a4 a5 a6 a7 a8 a9 a10 a11 a12 a13 a14 a15 a16
  obtain ⟨a0, a1, a2, a3, a4, a5, a6, a7, a8, a9, a10, a11, a12, a13, a14, a15, a16⟩ := acells H7.out.ac
  have hz10 := HNB.out.lt
  go_wp2_with fail
  generalize w9.alloc (.cells #[.int .i64 mr.x, .int .i64 mr.y, .int .i64 mr.px, .int .i64 mr.py, .int .i64 mr.wd, .int .i64 mr.ht, .int .i64 mr.ms, .int .i64 mr.rr] 34) = W10 at hA10 H7 HNB HMB n0 n1 n2 n3 n4 n5 n6 n7 n8 a0 a1 a2 a3 a4 a5 a6 a7 a8 a9 a10 a11 a12 a13 a14 a15 a16 hz10 ⊢
  clear hA10
  try
   refine Rh.wp_act ?_
   intro A hA
   first
    | refine rreg63_wp _ A w9.heap.size W8.heap.size mr.x mr.y _ W10 (by rw [hA]; rfl) (by rw [hA]; rfl) (by rw [hA]; exact Nat.le_of_ble_eq_true rfl) (fun W hg => ⟨(rowIs_grown HMB.out hg (by simp; omega)).cell (i := 0) (by omega), (rowIs_grown HMB.out hg (by simp; omega)).cell (i := 1) (by omega)⟩) HNB.out ?_
    | refine rreg65_wp _ A w9.heap.size W8.heap.size mr.px mr.py _ W10 (by rw [hA]; rfl) (by rw [hA]; rfl) (by rw [hA]; exact Nat.le_of_ble_eq_true rfl) (fun W hg => ⟨(rowIs_grown HMB.out hg (by simp; omega)).cell (i := 2) (by omega), (rowIs_grown HMB.out hg (by simp; omega)).cell (i := 3) (by omega)⟩) HNB.out ?_
    | refine rreg67_wp _ A w9.heap.size W8.heap.size mr.wd mr.ht _ W10 (by rw [hA]; rfl) (by rw [hA]; rfl) (by rw [hA]; exact Nat.le_of_ble_eq_true rfl) (fun W hg => ⟨(rowIs_grown HMB.out hg (by simp; omega)).cell (i := 4) (by omega), (rowIs_grown HMB.out hg (by simp; omega)).cell (i := 5) (by omega)⟩) HNB.out ?_
    | refine rreg69_wp _ A w9.heap.size W8.heap.size mr.ms mr.rr _ W10 (by rw [hA]; rfl) (by rw [hA]; rfl) (by rw [hA]; exact Nat.le_of_ble_eq_true rfl) (fun W hg => ⟨(rowIs_grown HMB.out hg (by simp; omega)).cell (i := 6) (by omega), (rowIs_grown HMB.out hg (by simp; omega)).cell (i := 7) (by omega)⟩) HNB.out ?_
   intro f1 W11 hg11 hnb
   subst hA
   simp only [Rh.puts, Act.put]
   go_simp
   replace H7 := St.hid (H7.out.grown hg11 (by omega) (by omega) HN8.out)
   have HNX : Hid (W11.rowIs W8.heap.size 105 9 (fun i => (thCells ⟨t.m + mask, rn⟩).getD i undef)) := St.hid (hnb.congr (fun i hi => by
    first | rw [HRN.out, eq_of_beq e1] | rw [HRN.out, eq_of_beq e2] | rw [HRN.out, eq_of_beq e4] | rw [HRN.out, eq_of_beq e8]
    match i, hi with
    | 0, _ => rfl
    | 1, _ => rfl
    | 2, _ => rfl
    | 3, _ => rfl
    | 4, _ => rfl
    | 5, _ => rfl
    | 6, _ => rfl
    | 7, _ => rfl
    | 8, _ => rfl))
   have HNB := HNX
   clear hnb hg11 HNX a0 a1 a2 a3 a4 a5 a6 a7 a8 a9 a10 a11 a12 a13 a14 a15 a16 n0 n1 n2 n3 n4 n5 n6 n7 n8
   obtain ⟨a0, a1, a2, a3, a4, a5, a6, a7, a8, a9, a10, a11, a12, a13, a14, a15, a16⟩ := acells H7.out.ac
   obtain ⟨n0, n1, n2, n3, n4, n5, n6, n7, n8⟩ := th9 HNB.out
   simp only at n0 n1 n2 n3 n4 n5 n6 n7 n8
   have hz11 := HNB.out.lt
   go_wp2_with fail
  refine (HIR.out _).mono ?_
  rintro e w12 ⟨rfl, hb12⟩
  replace H7 := St.hid (H7.out.below hb12)
  have HNB := St.hid (rowIs_below HNB.out hb12)
  clear hb12 n0 n1 n2 n3 n4 n5 n6 n7 n8 a0 a1 a2 a3 a4 a5 a6 a7 a8 a9 a10 a11 a12 a13 a14 a15 a16
  cases gb
  ·go_wp2_with fail
   refine (rno_any 2 _).mono ?_
   rintro e w9 ⟨rfl, hb9⟩
   have H9 := St.hid (H7.out.below hb9)
   clear hb9
   obtain ⟨p0, p1, p2, p3, p4, p5, p6, p7⟩ := H9.out.rcs
   have hpl := H9.out.rp.lt
   go_wp2_with fail
   obtain ⟨q0, q1, q2, q3⟩ := four (put4 H9.out.rp (.int .i64 2) (.int .i64 0) (.slice none 0 0) (.slice none 0 0))
   exact bodyPost_ret (v := .agg #[.int .i64 2, .int .i64 0, .slice none 0 0, .slice none 0 0]) (by simp [results, Tryz.results27, go_sem, q0, q1, q2, q3]) rfl (HPL.out.p2 HGB.out (H9.out.no 0 2 _ _ _ _))
  ·obtain ⟨wu, hru, hmu, htu⟩ := H7.out.drew.gw.now.store HIW ⟨t.m + mask, rn⟩ (by have := HL.out; unfold maxLen; simp only; omega)
   have HD := St.hid H7.out.drew
   go_upto_region 72 with fail
   refine Rh.wp_act ?_
   intro A hA
   refine rreg72_wp _ A b c2 w.heap.size W8.heap.size id ⟨t.m + mask, rn⟩ w12 wu (by rw [hA]; rfl) (by rw [hA]; rfl) (by rw [hA]; rfl) (by rw [hA]; exact Nat.le_of_ble_eq_true rfl) ⟨(rgcells HD.out.gw.row).1, (acells HD.out.ac).2.1, th9 (rowIs_below HNB.out (Below.drew (Below.refl _ _)))⟩ hru ?_
   intro f2
   subst hA
   try simp only at hmu
   rw [HPL.out.put HGB.out] at hmu
   have H8 := St.hid (H7.out.turned htu hmu)
   clear hru hmu htu HD
   simp only [Rh.puts, Act.put]
   go_simp
   go_wp2_with fail
   refine (rno_any 0 _).mono ?_
   rintro e w9 ⟨rfl, hb9⟩
   have H9 := St.hid (H8.out.below hb9)
   clear hb9
   obtain ⟨p0, p1, p2, p3, p4, p5, p6, p7⟩ := H9.out.rcs
   have hpl := H9.out.rp.lt
   go_wp2_with fail
   obtain ⟨q0, q1, q2, q3⟩ := four (put4 H9.out.rp (.int .i64 0) (.int .i64 0) (.slice none 0 0) (.slice none 0 0))
   exact bodyPost_ret (v := .agg #[.int .i64 0, .int .i64 0, .slice none 0 0, .slice none 0 0]) (by simp [results, Tryz.results27, go_sem, q0, q1, q2, q3]) rfl (HPL.out.p3 HGB.out (H9.out.no 0 0 _ _ _ _))
end Rf
end Go.Proofs.YtckkkdldljhehacGreat
