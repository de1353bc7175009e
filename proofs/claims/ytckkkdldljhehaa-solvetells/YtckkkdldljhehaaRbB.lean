/- What MeetRows of package ninepinsref answers when called, in whatever world, at two rows that do not meet, or are both fixed: both as they were; nothing that was in memory before has changed. No other conditions. -/
import Derived.Test.YtckkkdldljhehaaRbA
namespace Go.Proofs.Ytckkkdldljhehaa
open Go.ChangeShapes Go.WideShapes Go.ChangeAt Go.RowKit
open Num

theorem body_no (a : R8) (h : goodB a = false) (w : World) :
    Calls Try.prog 62 #[rowV a] w fun e w' => e = .returned (.bool false) ∧ Below w.heap.size w w' := by
  have := isBody_any a w
  rw [h] at this
  exact this
theorem body_yes (a : R8) (h : goodB a = true) (w : World) :
    Calls Try.prog 62 #[rowV a] w fun e w' => e = .returned (.bool true) ∧ Below w.heap.size w w' := by
  have := isBody_any a w
  rw [h] at this
  exact this

set_option maxRecDepth 10000 in
set_option maxHeartbeats 4000000 in
theorem rows_no1 (a b : R8) (h : goodB a = false) (w : World) :
    Calls Try.prog 60 #[rowV a, rowV b] w fun e w' => e = .returned (retV a b false) ∧ Below w.heap.size w w' := by
  have c1 := body_no a h
  obtain ⟨x, y, px, py, wd, ht, ms, rr⟩ := a
  obtain ⟨x', y', px', py', wd', ht', ms', rr'⟩ := b
  unfold retV
  unfold rowV at *
  go_enter Try.func60, Try.ntmps60
  go_wp2_with fail
  refine (c1 _).mono ?_
  rintro e w1 ⟨rfl, hb⟩
  obtain ⟨hc, hf⟩ := bcell hb
  have hz := hb.size
  simp at hz
  have h0 : Hid (Below w.heap.size w w1) := bcall (bal (bal (bal (bal (Below.refl _ _) _) _) _) _) hb
  clear hb
  go_wp2
  go_region
  go_wp2
  refine bodyPost_ret (by simp [results, Try.results60, go_sem, hc]) rfl ⟨rfl, ?_⟩
  refine Below.drew ?_
  iterate 16 refine Below.setCell ?_ (by simp; omega) _
  exact h0.out

set_option maxRecDepth 10000 in
set_option maxHeartbeats 4000000 in
theorem rows_no2 (a b : R8) (h : goodB a = true) (h' : goodB b = false) (w : World) :
    Calls Try.prog 60 #[rowV a, rowV b] w fun e w' => e = .returned (retV a b false) ∧ Below w.heap.size w w' := by
  have c1 := body_yes a h
  have c2 := body_no b h'
  obtain ⟨x, y, px, py, wd, ht, ms, rr⟩ := a
  obtain ⟨x', y', px', py', wd', ht', ms', rr'⟩ := b
  unfold retV
  unfold rowV at *
  go_enter Try.func60, Try.ntmps60
  go_wp2_with fail
  refine (c1 _).mono ?_
  rintro e w1 ⟨rfl, hb⟩
  obtain ⟨hc, hf⟩ := bcell hb
  have hz := hb.size
  simp at hz
  have h0 : Hid (Below w.heap.size w w1) := bcall (bal (bal (bal (bal (Below.refl _ _) _) _) _) _) hb
  clear hb
  go_wp2_with fail
  refine (c2 _).mono ?_
  rintro e w2 ⟨rfl, hb⟩
  obtain ⟨hc', hf'⟩ := bcell hb
  replace hc : ∀ b o, b < w.heap.size + 1 + 1 + 1 + 1 → w2.cell? ⟨b, o, none⟩ = _ := fun b o hl => (hc' b o (by omega)).trans (hc b o (by simpa using hl))
  replace hf : ∀ b o, b < w.heap.size + 1 + 1 + 1 + 1 → w2.frozen? ⟨b, o, none⟩ = _ := fun b o hl => (hf' b o (by omega)).trans (hf b o (by simpa using hl))
  have hz' := hb.size
  replace hz := Nat.le_trans hz hz'
  replace h0 : Hid (Below w.heap.size w w2) := bcall h0.out hb
  clear hb hc' hf' hz'
  go_wp2
  go_region
  go_wp2
  refine bodyPost_ret (by simp [results, Try.results60, go_sem, hc]) rfl ⟨rfl, ?_⟩
  refine Below.drew ?_
  iterate 16 refine Below.setCell ?_ (by simp; omega) _
  exact h0.out
set_option maxRecDepth 10000 in
set_option maxHeartbeats 4000000 in
theorem rows_no3 (a b : R8) (ga : GoodP a) (gb : GoodP b) (hd : depthOf a.x b.x a.wd b.wd < 1) (w : World) :
    Calls Try.prog 60 #[rowV a, rowV b] w fun e w' => e = .returned (retV a b false) ∧ Below w.heap.size w w' := by
  have c1 := body_yes a ((goodB_iff a).2 ga)
  have c2 := body_yes b ((goodB_iff b).2 gb)
  have c3 := depthOf_any a b ga gb
  obtain ⟨x, y, px, py, wd, ht, ms, rr⟩ := a
  obtain ⟨x', y', px', py', wd', ht', ms', rr'⟩ := b
  clear ga gb
  simp only at *
  unfold retV
  unfold rowV at *
  go_enter Try.func60, Try.ntmps60
  go_wp2_with fail
  refine (c1 _).mono ?_
  rintro e w1 ⟨rfl, hb⟩
  obtain ⟨hc, hf⟩ := bcell hb
  have hz := hb.size
  simp at hz
  have h0 : Hid (Below w.heap.size w w1) := bcall (bal (bal (bal (bal (Below.refl _ _) _) _) _) _) hb
  clear hb
  go_wp2_with fail
  refine (c2 _).mono ?_
  rintro e w2 ⟨rfl, hb⟩
  obtain ⟨hc', hf'⟩ := bcell hb
  replace hc : ∀ b o, b < w.heap.size + 1 + 1 + 1 + 1 → w2.cell? ⟨b, o, none⟩ = _ := fun b o hl => (hc' b o (by omega)).trans (hc b o (by simpa using hl))
  replace hf : ∀ b o, b < w.heap.size + 1 + 1 + 1 + 1 → w2.frozen? ⟨b, o, none⟩ = _ := fun b o hl => (hf' b o (by omega)).trans (hf b o (by simpa using hl))
  have hz' := hb.size
  replace hz := Nat.le_trans hz hz'
  replace h0 : Hid (Below w.heap.size w w2) := bcall h0.out hb
  clear hb hc' hf' hz'
  go_wp2_with fail
  refine (c3 _).mono ?_
  rintro e w3 ⟨rfl, hb⟩
  obtain ⟨hc', hf'⟩ := bcell hb
  replace hc : ∀ b o, b < w.heap.size + 1 + 1 + 1 + 1 → w3.cell? ⟨b, o, none⟩ = _ := fun b o hl => (hc' b o (by omega)).trans (hc b o (by simpa using hl))
  replace hf : ∀ b o, b < w.heap.size + 1 + 1 + 1 + 1 → w3.frozen? ⟨b, o, none⟩ = _ := fun b o hl => (hf' b o (by omega)).trans (hf b o (by simpa using hl))
  have hz' := hb.size
  replace hz := Nat.le_trans hz hz'
  replace h0 : Hid (Below w.heap.size w w3) := bcall h0.out hb
  clear hb hc' hf' hz'
  go_wp2
  go_region
  go_wp2
  refine bodyPost_ret (by simp [results, Try.results60, go_sem, hc]) rfl ⟨rfl, ?_⟩
  refine Below.drew ?_
  iterate 16 refine Below.setCell ?_ (by simp; omega) _
  exact h0.out

set_option maxRecDepth 10000 in
set_option maxHeartbeats 4000000 in
theorem rows_no4 (a b : R8) (ga : GoodP a) (gb : GoodP b) (hx : 1 ≤ depthOf a.x b.x a.wd b.wd) (hd : depthOf a.y b.y a.ht b.ht < 1) (w : World) :
    Calls Try.prog 60 #[rowV a, rowV b] w fun e w' => e = .returned (retV a b false) ∧ Below w.heap.size w w' := by
  have c1 := body_yes a ((goodB_iff a).2 ga)
  have c2 := body_yes b ((goodB_iff b).2 gb)
  have c3 := depthOf_any a b ga gb
  obtain ⟨x, y, px, py, wd, ht, ms, rr⟩ := a
  obtain ⟨x', y', px', py', wd', ht', ms', rr'⟩ := b
  clear ga gb
  simp only at *
  unfold retV
  unfold rowV at *
  go_enter Try.func60, Try.ntmps60
  go_wp2_with fail
  refine (c1 _).mono ?_
  rintro e w1 ⟨rfl, hb⟩
  obtain ⟨hc, hf⟩ := bcell hb
  have hz := hb.size
  simp at hz
  have h0 : Hid (Below w.heap.size w w1) := bcall (bal (bal (bal (bal (Below.refl _ _) _) _) _) _) hb
  clear hb
  go_wp2_with fail
  refine (c2 _).mono ?_
  rintro e w2 ⟨rfl, hb⟩
  obtain ⟨hc', hf'⟩ := bcell hb
  replace hc : ∀ b o, b < w.heap.size + 1 + 1 + 1 + 1 → w2.cell? ⟨b, o, none⟩ = _ := fun b o hl => (hc' b o (by omega)).trans (hc b o (by simpa using hl))
  replace hf : ∀ b o, b < w.heap.size + 1 + 1 + 1 + 1 → w2.frozen? ⟨b, o, none⟩ = _ := fun b o hl => (hf' b o (by omega)).trans (hf b o (by simpa using hl))
  have hz' := hb.size
  replace hz := Nat.le_trans hz hz'
  replace h0 : Hid (Below w.heap.size w w2) := bcall h0.out hb
  clear hb hc' hf' hz'
  go_wp2_with fail
  refine (c3 _).mono ?_
  rintro e w3 ⟨rfl, hb⟩
  obtain ⟨hc', hf'⟩ := bcell hb
  replace hc : ∀ b o, b < w.heap.size + 1 + 1 + 1 + 1 → w3.cell? ⟨b, o, none⟩ = _ := fun b o hl => (hc' b o (by omega)).trans (hc b o (by simpa using hl))
  replace hf : ∀ b o, b < w.heap.size + 1 + 1 + 1 + 1 → w3.frozen? ⟨b, o, none⟩ = _ := fun b o hl => (hf' b o (by omega)).trans (hf b o (by simpa using hl))
  have hz' := hb.size
  replace hz := Nat.le_trans hz hz'
  replace h0 : Hid (Below w.heap.size w w3) := bcall h0.out hb
  clear hb hc' hf' hz'
  go_wp2
  go_region
  go_wp2
  refine bodyPost_ret (by simp [results, Try.results60, go_sem, hc]) rfl ⟨rfl, ?_⟩
  refine Below.drew ?_
  iterate 16 refine Below.setCell ?_ (by simp; omega) _
  exact h0.out

set_option maxRecDepth 10000 in
set_option maxHeartbeats 4000000 in
theorem rows_fix (a b : R8) (ga : GoodP a) (gb : GoodP b) (hx : 1 ≤ depthOf a.x b.x a.wd b.wd) (hy : 1 ≤ depthOf a.y b.y a.ht b.ht) (fa : a.ms = 0) (fb : b.ms = 0) (w : World) :
    Calls Try.prog 60 #[rowV a, rowV b] w fun e w' => e = .returned (retV a b true) ∧ Below w.heap.size w w' := by
  have c1 := body_yes a ((goodB_iff a).2 ga)
  have c2 := body_yes b ((goodB_iff b).2 gb)
  have c3 := depthOf_any a b ga gb
  have es : (a.ms + b.ms == 0) = true := by simp [fa, fb]
  have g1 := ga.ms
  have g2 := gb.ms
  obtain ⟨x, y, px, py, wd, ht, ms, rr⟩ := a
  obtain ⟨x', y', px', py', wd', ht', ms', rr'⟩ := b
  clear ga gb fa fb
  simp only at *
  unfold retV
  unfold rowV at *
  go_enter Try.func60, Try.ntmps60
  go_wp2_with fail
  refine (c1 _).mono ?_
  rintro e w1 ⟨rfl, hb⟩
  obtain ⟨hc, hf⟩ := bcell hb
  have hz := hb.size
  simp at hz
  have h0 : Hid (Below w.heap.size w w1) := bcall (bal (bal (bal (bal (Below.refl _ _) _) _) _) _) hb
  clear hb
  go_wp2_with fail
  refine (c2 _).mono ?_
  rintro e w2 ⟨rfl, hb⟩
  obtain ⟨hc', hf'⟩ := bcell hb
  replace hc : ∀ b o, b < w.heap.size + 1 + 1 + 1 + 1 → w2.cell? ⟨b, o, none⟩ = _ := fun b o hl => (hc' b o (by omega)).trans (hc b o (by simpa using hl))
  replace hf : ∀ b o, b < w.heap.size + 1 + 1 + 1 + 1 → w2.frozen? ⟨b, o, none⟩ = _ := fun b o hl => (hf' b o (by omega)).trans (hf b o (by simpa using hl))
  have hz' := hb.size
  replace hz := Nat.le_trans hz hz'
  replace h0 : Hid (Below w.heap.size w w2) := bcall h0.out hb
  clear hb hc' hf' hz'
  go_wp2_with fail
  refine (c3 _).mono ?_
  rintro e w3 ⟨rfl, hb⟩
  obtain ⟨hc', hf'⟩ := bcell hb
  replace hc : ∀ b o, b < w.heap.size + 1 + 1 + 1 + 1 → w3.cell? ⟨b, o, none⟩ = _ := fun b o hl => (hc' b o (by omega)).trans (hc b o (by simpa using hl))
  replace hf : ∀ b o, b < w.heap.size + 1 + 1 + 1 + 1 → w3.frozen? ⟨b, o, none⟩ = _ := fun b o hl => (hf' b o (by omega)).trans (hf b o (by simpa using hl))
  have hz' := hb.size
  replace hz := Nat.le_trans hz hz'
  replace h0 : Hid (Below w.heap.size w w3) := bcall h0.out hb
  clear hb hc' hf' hz'
  go_wp2
  go_region
  go_wp2
  refine bodyPost_ret (by simp [results, Try.results60, go_sem, hc]) rfl ⟨rfl, ?_⟩
  refine Below.drew ?_
  iterate 16 refine Below.setCell ?_ (by simp; omega) _
  exact h0.out
end Go.Proofs.Ytckkkdldljhehaa
