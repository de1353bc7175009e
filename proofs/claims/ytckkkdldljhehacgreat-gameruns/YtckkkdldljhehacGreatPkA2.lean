/- Part of the proofs of GamePlays and GameRuns (package ninepinslaw): contracts of the functions that they call. -/
import Derived.Test.YtckkkdldljhehacGreatPkA1
namespace Go.Proofs.YtckkkdldljhehacGreat
section
open Go.ChangeShapes Go.WideShapes Go.ChangeAt Go.RowKit
open Num
set_option maxHeartbeats 16000000 in
theorem meetX (a b : R8) (ga : GoodP a) (gb : GoodP b) (hx : 1 ≤ depthOf a.x b.x a.wd b.wd) (hy : 1 ≤ depthOf a.y b.y a.ht b.ht) (hl : depthOf a.x b.x a.wd b.wd < depthOf a.y b.y a.ht b.ht) (hm : a.ms = 0 → b.ms ≠ 0) (w : World) :
  Calls Tryz.prog 117 #[rowV a, rowV b] w fun e w' => e = .returned (retV (metX a b).1 (metX a b).2 true) ∧ Below w.heap.size w w' := by
 have kd : depthOf a.x b.x a.wd b.wd ≤ 8192 := by have := ga.wd; have := gb.wd; unfold depthOf ab; omega
 have ke : depthOf a.y b.y a.ht b.ht ≤ 8192 := by have := ga.ht; have := gb.ht; unfold depthOf ab; omega
 have c1 := good_yes a ((goodB_iff a).2 ga)
 have c2 := good_yes b ((goodB_iff b).2 gb)
 have c3 := depth_any a b ga gb
 have c4 := fixed_any a
 have c5 := fixed_any b
 have hwy := way_or a.x b.x
 obtain ⟨-, -, -, gpx, gpy, -, -, gms, grr⟩ := ga
 obtain ⟨-, -, -, gpx', gpy', -, -, gms', grr'⟩ := gb
 have hrr : (min a.rr b.rr = a.rr ∧ a.rr ≤ b.rr) ∨ (min a.rr b.rr = b.rr ∧ b.rr < a.rr) := by omega
 have hc : ((a.ms == 0) = false) ∨ ((a.ms == 0) = true ∧ (b.ms == 0) = false) := by
  cases h : (a.ms == 0)
  ·exact Or.inl rfl
  ·exact Or.inr ⟨rfl, by simpa using hm (by simpa using h)⟩
 clear hm
 rcases hc with e4 | ⟨e4, e5⟩ <;> rcases hrr with ⟨em, hr⟩ | ⟨em, hr⟩
 all_goals
  unfold retV metX
  simp only
  rw [em]
  simp only [e4] at c4
  try simp only [e5] at c5
  clear em
  unfold rowV at *
  go_enter Tryz.func117, Tryz.ntmps117
  go_wp2_with fail
  refine (c1 _).mono ?_
  rintro e w1 ⟨rfl, hb⟩
  obtain ⟨hc, hf⟩ := bcell hb
  have hz := hb.size
  simp at hz
  have h0 : Hid (Below w.heap.size w w1) := bcall (bal (bal (bal (bal (Below.refl _ _) _) _) _) _) hb
  have h4 : Hid (Four w1 w.heap.size a b) := (Four.made w a b).below hb
  clear hb
  go_wp2_with fail
  refine (c2 _).mono ?_
  rintro e w2 ⟨rfl, hb⟩
  obtain ⟨hc', hf'⟩ := bcell hb
  replace hc : ∀ b o, b < w.heap.size + 1 + 1 + 1 + 1 → w2.cell? ⟨b, o, none⟩ = _ := fun b o hl => (hc' b o (by omega)).trans (hc b o (by simpa using hl))
  replace hf : ∀ b o, b < w.heap.size + 1 + 1 + 1 + 1 → w2.frozen? ⟨b, o, none⟩ = _ := fun b o hl => (hf' b o (by omega)).trans (hf b o (by simpa using hl))
  have hz' := hb.size
  replace hz := Nat.le_trans hz hz'
  replace h0 : Hid (Below w.heap.size w w2) := bcall h0.out hb
  replace h4 : Hid (Four w2 w.heap.size a b) := h4.out.below hb
  clear hb hc' hf' hz'
  go_wp2_with fail
  refine (c3 _).mono ?_
  rintro e w3 ⟨rfl, hb⟩
  obtain ⟨hc', hf'⟩ := bcell hb
  replace hc : ∀ b o, b < w.heap.size + 1 + 1 + 1 + 1 → w3.cell? ⟨b, o, none⟩ = _ := fun b o hl => (hc' b o (by omega)).trans (hc b o (by simpa using hl))
  replace hf : ∀ b o, b < w.heap.size + 1 + 1 + 1 + 1 → w3.frozen? ⟨b, o, none⟩ = _ := fun b o hl => (hf' b o (by omega)).trans (hf b o (by simpa using hl))
  have hz' := hb.size
  replace hz := Nat.le_trans hz hz'
  replace h0 : Hid (Below w.heap.size w w3) := bcall h0.out hb
  replace h4 : Hid (Four w3 w.heap.size a b) := h4.out.below hb
  clear hb hc' hf' hz'
  go_wp2_with fail
  refine (c4 _).mono ?_
  rintro e w4 ⟨rfl, hb⟩
  obtain ⟨hc', hf'⟩ := bcell hb
  replace hc : ∀ b o, b < w.heap.size + 1 + 1 + 1 + 1 → w4.cell? ⟨b, o, none⟩ = _ := fun b o hl => (hc' b o (by omega)).trans (hc b o (by simpa using hl))
  replace hf : ∀ b o, b < w.heap.size + 1 + 1 + 1 + 1 → w4.frozen? ⟨b, o, none⟩ = _ := fun b o hl => (hf' b o (by omega)).trans (hf b o (by simpa using hl))
  have hz' := hb.size
  replace hz := Nat.le_trans hz hz'
  replace h0 : Hid (Below w.heap.size w w4) := bcall h0.out hb
  replace h4 : Hid (Four w4 w.heap.size a b) := h4.out.below hb
  clear hb hc' hf' hz'
  first
   | (have h5 := e5; go_wp2_with fail; refine (c5 _).mono ?_; rintro e w5 ⟨rfl, hb⟩; obtain ⟨hc', hf'⟩ := bcell hb; replace hc : ∀ b o, b < w.heap.size + 1 + 1 + 1 + 1 → w5.cell? ⟨b, o, none⟩ = _ := fun b o hl => (hc' b o (by omega)).trans (hc b o (by simpa using hl)); replace hf : ∀ b o, b < w.heap.size + 1 + 1 + 1 + 1 → w5.frozen? ⟨b, o, none⟩ = _ := fun b o hl => (hf' b o (by omega)).trans (hf b o (by simpa using hl)); have hz' := hb.size; replace hz := Nat.le_trans hz hz'; replace h0 : Hid (Below w.heap.size w w5) := bcall h0.out hb; replace h4 : Hid (Four w5 w.heap.size a b) := h4.out.below hb; clear hb hc' hf' hz'; clear h5)
   | (obtain ⟨w5, hw5⟩ : ∃ w5, w5 = w4 := ⟨_, rfl⟩; subst hw5)
  clear c1 c2 c3 c4 c5
  have n0 : w.heap.size < w5.heap.size := by omega
  have n1 : w.heap.size + 1 < w5.heap.size := by omega
  have n2 : w.heap.size + 1 + 1 < w5.heap.size := by omega
  have n3 : w.heap.size + 1 + 1 + 1 < w5.heap.size := by omega
  go_wp2_with (first | (go_at_call 146; refine (wayTo_any _ _ _).mono ?_; rintro e w' ⟨rfl, rfl⟩))
  refine (passOn_any a.ms b.ms a.px b.px _ (wayOf a.x b.x) w.heap.size (w.heap.size + 1) 2 (fld a) (fld b) _ gms gms' gpx gpx' (by assumption) hwy (h4.out.a.alloc _) (h4.out.b.alloc _) (by omega) rfl rfl (by omega)).mono ?_
  rintro e w6 ⟨rfl, ra, rb, k⟩
  have m0 : w6.cell? ⟨w5.heap.size, 0, none⟩ = some (.int .i64 a.ms) := (World.cell?_of_block (k.block w5.heap.size (by simp) (by omega) (by omega))).trans (by simp)
  have m1 : w6.cell? ⟨w5.heap.size, 1, none⟩ = some (.int .i64 b.ms) := (World.cell?_of_block (k.block w5.heap.size (by simp) (by omega) (by omega))).trans (by simp)
  replace h0 : Hid (Below w.heap.size w w6) := (bal h0.out _).trans (k.below (by omega) (by omega) (by simp; omega))
  have rx : Hid (w6.rowIs (w.heap.size + 1 + 1) 34 8 (fld ⟨0, 0, 0, 0, 0, 0, 0, 0⟩)) := (h4.out.x.alloc _).of_block (k.block _ (by simp; omega) (by omega) (by omega))
  have ry : Hid (w6.rowIs (w.heap.size + 1 + 1 + 1) 34 8 (fld ⟨0, 0, 0, 0, 0, 0, 0, 0⟩)) := (h4.out.y.alloc _).of_block (k.block _ (by simp; omega) (by omega) (by omega))
  have hz6 := k.size
  simp at hz6
  clear hc hf h4 k
  go_wp2_with fail
  refine (moveApart_any a.ms b.ms a.x b.x (depthOf a.x b.x a.wd b.wd) (wayOf a.x b.x) w.heap.size (w.heap.size + 1) 0 _ _ _ (by omega) hwy ra rb (by omega) rfl rfl (by omega)).mono ?_
  rintro e w7 ⟨rfl, ra7, rb7, k7⟩
  obtain ⟨a0, a1, a2, a3, a4, a5, a6, a7⟩ := eight ra7
  obtain ⟨b0, b1, b2, b3, b4, b5, b6, b7⟩ := eight rb7
  simp [fld] at a0 a1 a2 a3 a4 a5 a6 a7 b0 b1 b2 b3 b4 b5 b6 b7
  replace h0 : Hid (Below w.heap.size w w7) := h0.out.trans (k7.below (by omega) (by omega) (by omega))
  replace rx := rx.out.of_block (k7.block _ (by omega) (by omega) (by omega))
  replace ry := ry.out.of_block (k7.block _ (by omega) (by omega) (by omega))
  have xc : ∀ o, o < 8 → w7.cell? ⟨w.heap.size + 1 + 1, o, none⟩ = some _ := fun o ho => rx.cell ho
  have yc : ∀ o, o < 8 → w7.cell? ⟨w.heap.size + 1 + 1 + 1, o, none⟩ = some _ := fun o ho => ry.cell ho
  have xf := rx.frozen
  have yf := ry.frozen
  have hz7 := k7.size
  clear k7 ra7 rb7 rx ry ra rb m0 m1
  go_wp2
  go_region
  go_wp2
  refine bodyPost_ret (by simp [results, Tryz.results117, go_sem, xc, yc]) rfl ⟨rfl, ?_⟩
  refine Below.drew ?_
  iterate 16 refine Below.setCell ?_ (by simp; omega) _
  exact h0.out
end
section
open Go.ChangeShapes Go.WideShapes Go.ChangeAt Go.RowKit
open Num
set_option maxHeartbeats 16000000 in
theorem meetY (a b : R8) (ga : GoodP a) (gb : GoodP b) (hx : 1 ≤ depthOf a.x b.x a.wd b.wd) (hy : 1 ≤ depthOf a.y b.y a.ht b.ht) (hl : depthOf a.y b.y a.ht b.ht ≤ depthOf a.x b.x a.wd b.wd) (hm : a.ms = 0 → b.ms ≠ 0) (w : World) :
  Calls Tryz.prog 117 #[rowV a, rowV b] w fun e w' => e = .returned (retV (metY a b).1 (metY a b).2 true) ∧ Below w.heap.size w w' := by
 have kd : depthOf a.x b.x a.wd b.wd ≤ 8192 := by have := ga.wd; have := gb.wd; unfold depthOf ab; omega
 have ke : depthOf a.y b.y a.ht b.ht ≤ 8192 := by have := ga.ht; have := gb.ht; unfold depthOf ab; omega
 have c1 := good_yes a ((goodB_iff a).2 ga)
 have c2 := good_yes b ((goodB_iff b).2 gb)
 have c3 := depth_any a b ga gb
 have c4 := fixed_any a
 have c5 := fixed_any b
 have hwy := way_or a.y b.y
 obtain ⟨-, -, -, gpx, gpy, -, -, gms, grr⟩ := ga
 obtain ⟨-, -, -, gpx', gpy', -, -, gms', grr'⟩ := gb
 have hrr : (min a.rr b.rr = a.rr ∧ a.rr ≤ b.rr) ∨ (min a.rr b.rr = b.rr ∧ b.rr < a.rr) := by omega
 have hc : ((a.ms == 0) = false) ∨ ((a.ms == 0) = true ∧ (b.ms == 0) = false) := by
  cases h : (a.ms == 0)
  ·exact Or.inl rfl
  ·exact Or.inr ⟨rfl, by simpa using hm (by simpa using h)⟩
 clear hm
 rcases hc with e4 | ⟨e4, e5⟩ <;> rcases hrr with ⟨em, hr⟩ | ⟨em, hr⟩
 all_goals
  unfold retV metY
  simp only
  rw [em]
  simp only [e4] at c4
  try simp only [e5] at c5
  clear em
  unfold rowV at *
  go_enter Tryz.func117, Tryz.ntmps117
  go_wp2_with fail
  refine (c1 _).mono ?_
  rintro e w1 ⟨rfl, hb⟩
  obtain ⟨hc, hf⟩ := bcell hb
  have hz := hb.size
  simp at hz
  have h0 : Hid (Below w.heap.size w w1) := bcall (bal (bal (bal (bal (Below.refl _ _) _) _) _) _) hb
  have h4 : Hid (Four w1 w.heap.size a b) := (Four.made w a b).below hb
  clear hb
  go_wp2_with fail
  refine (c2 _).mono ?_
  rintro e w2 ⟨rfl, hb⟩
  obtain ⟨hc', hf'⟩ := bcell hb
  replace hc : ∀ b o, b < w.heap.size + 1 + 1 + 1 + 1 → w2.cell? ⟨b, o, none⟩ = _ := fun b o hl => (hc' b o (by omega)).trans (hc b o (by simpa using hl))
  replace hf : ∀ b o, b < w.heap.size + 1 + 1 + 1 + 1 → w2.frozen? ⟨b, o, none⟩ = _ := fun b o hl => (hf' b o (by omega)).trans (hf b o (by simpa using hl))
  have hz' := hb.size
  replace hz := Nat.le_trans hz hz'
  replace h0 : Hid (Below w.heap.size w w2) := bcall h0.out hb
  replace h4 : Hid (Four w2 w.heap.size a b) := h4.out.below hb
  clear hb hc' hf' hz'
  go_wp2_with fail
  refine (c3 _).mono ?_
  rintro e w3 ⟨rfl, hb⟩
  obtain ⟨hc', hf'⟩ := bcell hb
  replace hc : ∀ b o, b < w.heap.size + 1 + 1 + 1 + 1 → w3.cell? ⟨b, o, none⟩ = _ := fun b o hl => (hc' b o (by omega)).trans (hc b o (by simpa using hl))
  replace hf : ∀ b o, b < w.heap.size + 1 + 1 + 1 + 1 → w3.frozen? ⟨b, o, none⟩ = _ := fun b o hl => (hf' b o (by omega)).trans (hf b o (by simpa using hl))
  have hz' := hb.size
  replace hz := Nat.le_trans hz hz'
  replace h0 : Hid (Below w.heap.size w w3) := bcall h0.out hb
  replace h4 : Hid (Four w3 w.heap.size a b) := h4.out.below hb
  clear hb hc' hf' hz'
  go_wp2_with fail
  refine (c4 _).mono ?_
  rintro e w4 ⟨rfl, hb⟩
  obtain ⟨hc', hf'⟩ := bcell hb
  replace hc : ∀ b o, b < w.heap.size + 1 + 1 + 1 + 1 → w4.cell? ⟨b, o, none⟩ = _ := fun b o hl => (hc' b o (by omega)).trans (hc b o (by simpa using hl))
  replace hf : ∀ b o, b < w.heap.size + 1 + 1 + 1 + 1 → w4.frozen? ⟨b, o, none⟩ = _ := fun b o hl => (hf' b o (by omega)).trans (hf b o (by simpa using hl))
  have hz' := hb.size
  replace hz := Nat.le_trans hz hz'
  replace h0 : Hid (Below w.heap.size w w4) := bcall h0.out hb
  replace h4 : Hid (Four w4 w.heap.size a b) := h4.out.below hb
  clear hb hc' hf' hz'
  first
   | (have h5 := e5; go_wp2_with fail; refine (c5 _).mono ?_; rintro e w5 ⟨rfl, hb⟩; obtain ⟨hc', hf'⟩ := bcell hb; replace hc : ∀ b o, b < w.heap.size + 1 + 1 + 1 + 1 → w5.cell? ⟨b, o, none⟩ = _ := fun b o hl => (hc' b o (by omega)).trans (hc b o (by simpa using hl)); replace hf : ∀ b o, b < w.heap.size + 1 + 1 + 1 + 1 → w5.frozen? ⟨b, o, none⟩ = _ := fun b o hl => (hf' b o (by omega)).trans (hf b o (by simpa using hl)); have hz' := hb.size; replace hz := Nat.le_trans hz hz'; replace h0 : Hid (Below w.heap.size w w5) := bcall h0.out hb; replace h4 : Hid (Four w5 w.heap.size a b) := h4.out.below hb; clear hb hc' hf' hz'; clear h5)
   | (obtain ⟨w5, hw5⟩ : ∃ w5, w5 = w4 := ⟨_, rfl⟩; subst hw5)
  clear c1 c2 c3 c4 c5
  have n0 : w.heap.size < w5.heap.size := by omega
  have n1 : w.heap.size + 1 < w5.heap.size := by omega
  have n2 : w.heap.size + 1 + 1 < w5.heap.size := by omega
  have n3 : w.heap.size + 1 + 1 + 1 < w5.heap.size := by omega
  go_wp2_with (first | (go_at_call 146; refine (wayTo_any _ _ _).mono ?_; rintro e w' ⟨rfl, rfl⟩))
  refine (passOn_any a.ms b.ms a.py b.py _ (wayOf a.y b.y) w.heap.size (w.heap.size + 1) 3 (fld a) (fld b) _ gms gms' gpy gpy' (by assumption) hwy (h4.out.a.alloc _) (h4.out.b.alloc _) (by omega) rfl rfl (by omega)).mono ?_
  rintro e w6 ⟨rfl, ra, rb, k⟩
  have m0 : w6.cell? ⟨w5.heap.size, 0, none⟩ = some (.int .i64 a.ms) := (World.cell?_of_block (k.block w5.heap.size (by simp) (by omega) (by omega))).trans (by simp)
  have m1 : w6.cell? ⟨w5.heap.size, 1, none⟩ = some (.int .i64 b.ms) := (World.cell?_of_block (k.block w5.heap.size (by simp) (by omega) (by omega))).trans (by simp)
  replace h0 : Hid (Below w.heap.size w w6) := (bal h0.out _).trans (k.below (by omega) (by omega) (by simp; omega))
  have rx : Hid (w6.rowIs (w.heap.size + 1 + 1) 34 8 (fld ⟨0, 0, 0, 0, 0, 0, 0, 0⟩)) := (h4.out.x.alloc _).of_block (k.block _ (by simp; omega) (by omega) (by omega))
  have ry : Hid (w6.rowIs (w.heap.size + 1 + 1 + 1) 34 8 (fld ⟨0, 0, 0, 0, 0, 0, 0, 0⟩)) := (h4.out.y.alloc _).of_block (k.block _ (by simp; omega) (by omega) (by omega))
  have hz6 := k.size
  simp at hz6
  clear hc hf h4 k
  go_wp2_with fail
  refine (moveApart_any a.ms b.ms a.y b.y (depthOf a.y b.y a.ht b.ht) (wayOf a.y b.y) w.heap.size (w.heap.size + 1) 1 _ _ _ (by omega) hwy ra rb (by omega) rfl rfl (by omega)).mono ?_
  rintro e w7 ⟨rfl, ra7, rb7, k7⟩
  obtain ⟨a0, a1, a2, a3, a4, a5, a6, a7⟩ := eight ra7
  obtain ⟨b0, b1, b2, b3, b4, b5, b6, b7⟩ := eight rb7
  simp [fld] at a0 a1 a2 a3 a4 a5 a6 a7 b0 b1 b2 b3 b4 b5 b6 b7
  replace h0 : Hid (Below w.heap.size w w7) := h0.out.trans (k7.below (by omega) (by omega) (by omega))
  replace rx := rx.out.of_block (k7.block _ (by omega) (by omega) (by omega))
  replace ry := ry.out.of_block (k7.block _ (by omega) (by omega) (by omega))
  have xc : ∀ o, o < 8 → w7.cell? ⟨w.heap.size + 1 + 1, o, none⟩ = some _ := fun o ho => rx.cell ho
  have yc : ∀ o, o < 8 → w7.cell? ⟨w.heap.size + 1 + 1 + 1, o, none⟩ = some _ := fun o ho => ry.cell ho
  have xf := rx.frozen
  have yf := ry.frozen
  have hz7 := k7.size
  clear k7 ra7 rb7 rx ry ra rb m0 m1
  go_wp2
  go_region
  go_wp2
  refine bodyPost_ret (by simp [results, Tryz.results117, go_sem, xc, yc]) rfl ⟨rfl, ?_⟩
  refine Below.drew ?_
  iterate 16 refine Below.setCell ?_ (by simp; omega) _
  exact h0.out
end
section
open Go.ChangeShapes Go.WideShapes Go.ChangeAt Go.RowKit
open Num
theorem meet_any (a b : R8) (w : World) :
  Calls Tryz.prog 117 #[rowV a, rowV b] w fun e w' => e = .returned (retV (met a b).1 (met a b).2 (overB a b)) ∧ Below w.heap.size w w' := by
 by_cases ga : GoodP a
 case neg =>
  have e := goodB_false ga
  have o : overB a b = false := by simp [overB, e]
  rw [show met a b = (a, b) from by simp [met, o], o]
  exact meet_no1 a b e w
 by_cases gb : GoodP b
 case neg =>
  have e := goodB_false gb
  have o : overB a b = false := by simp [overB, e]
  rw [show met a b = (a, b) from by simp [met, o], o]
  exact meet_no2 a b ((goodB_iff a).2 ga) e w
 by_cases hx : 1 ≤ depthOf a.x b.x a.wd b.wd
 case neg =>
  have o : overB a b = false := by simp [overB, hx]
  rw [show met a b = (a, b) from by simp [met, o], o]
  exact meet_no3 a b ga gb (by omega) w
 by_cases hy : 1 ≤ depthOf a.y b.y a.ht b.ht
 case neg =>
  have o : overB a b = false := by simp [overB, hy]
  rw [show met a b = (a, b) from by simp [met, o], o]
  exact meet_no4 a b ga gb hx (by omega) w
 have o : overB a b = true := by simp [overB, hx, hy, (goodB_iff a).2 ga, (goodB_iff b).2 gb]
 by_cases h0 : a.ms = 0 ∧ b.ms = 0
 ·rw [show met a b = (a, b) from by rw [met, if_pos o, if_pos h0], o]
  exact meet_fix a b ga gb hx hy h0.1 h0.2 w
 rw [show met a b = if depthOf a.x b.x a.wd b.wd < depthOf a.y b.y a.ht b.ht then metX a b else metY a b from by rw [met, if_pos o, if_neg h0], o]
 by_cases hl : depthOf a.x b.x a.wd b.wd < depthOf a.y b.y a.ht b.ht
 ·rw [if_pos hl]
  exact meetX a b ga gb hx hy hl (fun fa e => h0 ⟨fa, e⟩) w
 ·rw [if_neg hl]
  exact meetY a b ga gb hx hy (by omega) (fun fa e => h0 ⟨fa, e⟩) w
end
section
open Go.ChangeShapes Go.WideShapes Go.ChangeAt Go.RowKit
open Num
set_option maxHeartbeats 1000000 in
theorem Speed_any (a : R8) (w : World) :
  Calls Tryz.prog 114 #[rowV a] w fun e w' => e = .returned (.tuple #[.int .i64 (spd a.px a.ms), .int .i64 (spd a.py a.ms)]) ∧ Below w.heap.size w w' := by
 obtain ⟨x, y, px, py, wd, ht, ms, rr⟩ := a
 unfold rowV
 go_enter Tryz.func114, Tryz.ntmps114
 go_wp2
 go_quiet (first | (go_at_call 135; exact Calls.quiet_of_same (speed_any _ _ _)))
 go_wp2
 exact bodyPost_ret (by simp [results, Tryz.results114, go_sem] <;> first | exact ⟨rfl, rfl⟩ | rfl) rfl ⟨rfl, by repeat (first | exact Below.refl _ _ | refine Below.drew ?_ | refine bdrewN ?_ _ | refine bal ?_ _)⟩
end
end Go.Proofs.YtckkkdldljhehacGreat
