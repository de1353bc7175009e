/- Proved: for every two rows, SolveParts returns true, and its arguments read as before. No conditions. -/
import Derived.Test.YtckkkdldljhehabSoH
import Derived.Test.YtckkkdldljhehabSoI
import Derived.Test.YtckkkdldljhehabSoJ
import Derived.WalkKit
import Derived.ProofKit
import Derived.OpenShut
import Derived.SizedLaws
namespace Go.Proofs.Ytckkkdldljhehab.solveParts
open Go.ChangeShapes Go.WideShapes Go.ChangeAt Go.RowKit
open Num

theorem own : ownKnob Try.prog.godebug = none := by kernel_rfl

set_option maxHeartbeats 4000000 in
theorem walk1 (a b : R8) (ho : overB a b = false) (w : World) :
    Calls Try.prog 4 #[rowV a, rowV b] w fun e w' => e = .returned (.bool true) ∧ Below w.heap.size w w' := by
  have c1 := meet_any a b
  rw [ho] at c1
  rw [show met a b = (a, b) from by simp [met, ho]] at c1
  have e1 := eqRow a a
  have e2 := eqRow b b
  rw [eqR_self] at e1 e2
  clear ho
  obtain ⟨x, y, px, py, wd, ht, ms, rr⟩ := a
  obtain ⟨x', y', px', py', wd', ht', ms', rr'⟩ := b
  unfold retV at *
  unfold rowV at *
  go_enter Try.func4, Try.ntmps4
  go_wp2_with fail
  refine (c1 _).mono ?_
  rintro e w1 ⟨rfl, hb⟩
  obtain ⟨hc1, hf1⟩ := bcell hb
  have hz1 := hb.size
  simp at hz1
  have n0 : w.heap.size < w1.heap.size := by omega
  have n1 : w.heap.size + 1 < w1.heap.size := by omega
  have n2 : w.heap.size < w1.heap.size + 1 := by omega
  have n3 : w.heap.size + 1 < w1.heap.size + 1 := by omega
  have n4 : w.heap.size < w1.heap.size + 1 + 1 := by omega
  have n5 : w.heap.size + 1 < w1.heap.size + 1 + 1 := by omega
  have h0 : Hid (Below w.heap.size w w1) := bcall (bal (bal (Below.refl _ _) _) _) hb
  clear hb
  go_wp2_with fail
  refine (solves_any _).mono ?_
  rintro e w2 ⟨rfl, hb⟩
  obtain ⟨hc, hf⟩ := bcell hb
  have hz := hb.size
  simp at hz
  replace h0 : Hid (Below w.heap.size w w2) := bcall (bal (bal h0.out _) _) hb
  clear hb
  go_wp2
  go_ret
  exact ⟨rfl, h0.out⟩

set_option maxHeartbeats 4000000 in
theorem walk2 (a b : R8) (ho : overB a b = true) (k_a : calmB a = false) (w : World) :
    Calls Try.prog 4 #[rowV a, rowV b] w fun e w' => e = .returned (.bool true) ∧ Below w.heap.size w w' := by
  have c1 := meet_any a b
  rw [ho] at c1
  have c_a : ∀ w, Calls Try.prog 8 #[rowV a] w fun e w' => e = .returned (.bool false) ∧ Below w.heap.size w w' := fun w => by
    have := calm_any a w
    rwa [k_a] at this
  clear ho k_a
  generalize (met a b).1 = p at *
  generalize (met a b).2 = q at *
  obtain ⟨x, y, px, py, wd, ht, ms, rr⟩ := a
  obtain ⟨x', y', px', py', wd', ht', ms', rr'⟩ := b
  obtain ⟨X, Y, PX, PY, WD, HT, MS, RR⟩ := p
  obtain ⟨X', Y', PX', PY', WD', HT', MS', RR'⟩ := q
  unfold retV at *
  unfold rowV at *
  go_enter Try.func4, Try.ntmps4
  go_wp2_with fail
  refine (c1 _).mono ?_
  rintro e w1 ⟨rfl, hb⟩
  obtain ⟨hc1, hf1⟩ := bcell hb
  have hz1 := hb.size
  simp at hz1
  have n0 : w.heap.size < w1.heap.size := by omega
  have n1 : w.heap.size + 1 < w1.heap.size := by omega
  have n2 : w.heap.size < w1.heap.size + 1 := by omega
  have n3 : w.heap.size + 1 < w1.heap.size + 1 := by omega
  have n4 : w.heap.size < w1.heap.size + 1 + 1 := by omega
  have n5 : w.heap.size + 1 < w1.heap.size + 1 + 1 := by omega
  have h0 : Hid (Below w.heap.size w w1) := bcall (bal (bal (Below.refl _ _) _) _) hb
  clear hb
  go_wp2_with fail
  refine (c_a _).mono ?_
  rintro e w2 ⟨rfl, hb⟩
  obtain ⟨hc, hf⟩ := bcell hb
  have hz := hb.size
  simp at hz
  replace h0 : Hid (Below w.heap.size w w2) := bcall (bal (bal h0.out _) _) hb
  clear hb
  go_wp2_with fail
  refine (solves_any _).mono ?_
  rintro e w3 ⟨rfl, hb⟩
  obtain ⟨hc', hf'⟩ := bcell hb
  replace hc : ∀ b o, b < w1.heap.size + 1 + 1 → w3.cell? ⟨b, o, none⟩ = _ := fun b o hl => (hc' b o (by omega)).trans (hc b o (by simpa using hl))
  replace hf : ∀ b o, b < w1.heap.size + 1 + 1 → w3.frozen? ⟨b, o, none⟩ = _ := fun b o hl => (hf' b o (by omega)).trans (hf b o (by simpa using hl))
  have hz' := hb.size
  replace hz := Nat.le_trans hz hz'
  replace h0 : Hid (Below w.heap.size w w3) := bcall h0.out hb
  clear hb hc' hf' hz'
  go_wp2
  go_ret
  exact ⟨rfl, h0.out⟩

set_option maxHeartbeats 4000000 in
theorem walk3 (a b : R8) (ho : overB a b = true) (k_a : calmB a = true) (k_b : calmB b = false) (w : World) :
    Calls Try.prog 4 #[rowV a, rowV b] w fun e w' => e = .returned (.bool true) ∧ Below w.heap.size w w' := by
  have c1 := meet_any a b
  rw [ho] at c1
  have c_a : ∀ w, Calls Try.prog 8 #[rowV a] w fun e w' => e = .returned (.bool true) ∧ Below w.heap.size w w' := fun w => by
    have := calm_any a w
    rwa [k_a] at this
  have c_b : ∀ w, Calls Try.prog 8 #[rowV b] w fun e w' => e = .returned (.bool false) ∧ Below w.heap.size w w' := fun w => by
    have := calm_any b w
    rwa [k_b] at this
  clear ho k_a k_b
  generalize (met a b).1 = p at *
  generalize (met a b).2 = q at *
  obtain ⟨x, y, px, py, wd, ht, ms, rr⟩ := a
  obtain ⟨x', y', px', py', wd', ht', ms', rr'⟩ := b
  obtain ⟨X, Y, PX, PY, WD, HT, MS, RR⟩ := p
  obtain ⟨X', Y', PX', PY', WD', HT', MS', RR'⟩ := q
  unfold retV at *
  unfold rowV at *
  go_enter Try.func4, Try.ntmps4
  go_wp2_with fail
  refine (c1 _).mono ?_
  rintro e w1 ⟨rfl, hb⟩
  obtain ⟨hc1, hf1⟩ := bcell hb
  have hz1 := hb.size
  simp at hz1
  have n0 : w.heap.size < w1.heap.size := by omega
  have n1 : w.heap.size + 1 < w1.heap.size := by omega
  have n2 : w.heap.size < w1.heap.size + 1 := by omega
  have n3 : w.heap.size + 1 < w1.heap.size + 1 := by omega
  have n4 : w.heap.size < w1.heap.size + 1 + 1 := by omega
  have n5 : w.heap.size + 1 < w1.heap.size + 1 + 1 := by omega
  have h0 : Hid (Below w.heap.size w w1) := bcall (bal (bal (Below.refl _ _) _) _) hb
  clear hb
  go_wp2_with fail
  refine (c_a _).mono ?_
  rintro e w2 ⟨rfl, hb⟩
  obtain ⟨hc, hf⟩ := bcell hb
  have hz := hb.size
  simp at hz
  replace h0 : Hid (Below w.heap.size w w2) := bcall (bal (bal h0.out _) _) hb
  clear hb
  go_wp2_with fail
  refine (c_b _).mono ?_
  rintro e w3 ⟨rfl, hb⟩
  obtain ⟨hc', hf'⟩ := bcell hb
  replace hc : ∀ b o, b < w1.heap.size + 1 + 1 → w3.cell? ⟨b, o, none⟩ = _ := fun b o hl => (hc' b o (by omega)).trans (hc b o (by simpa using hl))
  replace hf : ∀ b o, b < w1.heap.size + 1 + 1 → w3.frozen? ⟨b, o, none⟩ = _ := fun b o hl => (hf' b o (by omega)).trans (hf b o (by simpa using hl))
  have hz' := hb.size
  replace hz := Nat.le_trans hz hz'
  replace h0 : Hid (Below w.heap.size w w3) := bcall h0.out hb
  clear hb hc' hf' hz'
  go_wp2_with fail
  refine (solves_any _).mono ?_
  rintro e w4 ⟨rfl, hb⟩
  obtain ⟨hc', hf'⟩ := bcell hb
  replace hc : ∀ b o, b < w1.heap.size + 1 + 1 → w4.cell? ⟨b, o, none⟩ = _ := fun b o hl => (hc' b o (by omega)).trans (hc b o (by simpa using hl))
  replace hf : ∀ b o, b < w1.heap.size + 1 + 1 → w4.frozen? ⟨b, o, none⟩ = _ := fun b o hl => (hf' b o (by omega)).trans (hf b o (by simpa using hl))
  have hz' := hb.size
  replace hz := Nat.le_trans hz hz'
  replace h0 : Hid (Below w.heap.size w w4) := bcall h0.out hb
  clear hb hc' hf' hz'
  go_wp2
  go_ret
  exact ⟨rfl, h0.out⟩

set_option maxHeartbeats 4000000 in
theorem walk4 (a b : R8) (ho : overB a b = true) (k_a : calmB a = true) (k_b : calmB b = true) (k0 : a.ms = 0) (k1 : b.ms = 0) (w : World) :
    Calls Try.prog 4 #[rowV a, rowV b] w fun e w' => e = .returned (.bool true) ∧ Below w.heap.size w w' := by
  have c1 := meet_any a b
  rw [ho] at c1
  have c_a : ∀ w, Calls Try.prog 8 #[rowV a] w fun e w' => e = .returned (.bool true) ∧ Below w.heap.size w w' := fun w => by
    have := calm_any a w
    rwa [k_a] at this
  have c_b : ∀ w, Calls Try.prog 8 #[rowV b] w fun e w' => e = .returned (.bool true) ∧ Below w.heap.size w w' := fun w => by
    have := calm_any b w
    rwa [k_b] at this
  clear ho k_a k_b
  generalize (met a b).1 = p at *
  generalize (met a b).2 = q at *
  obtain ⟨x, y, px, py, wd, ht, ms, rr⟩ := a
  obtain ⟨x', y', px', py', wd', ht', ms', rr'⟩ := b
  obtain ⟨X, Y, PX, PY, WD, HT, MS, RR⟩ := p
  obtain ⟨X', Y', PX', PY', WD', HT', MS', RR'⟩ := q
  have e0 : (ms == 0) = true := by simpa using k0
  have e1 : (ms' == 0) = true := by simpa using k1
  clear k0 k1
  unfold retV at *
  unfold rowV at *
  go_enter Try.func4, Try.ntmps4
  go_wp2_with fail
  refine (c1 _).mono ?_
  rintro e w1 ⟨rfl, hb⟩
  obtain ⟨hc1, hf1⟩ := bcell hb
  have hz1 := hb.size
  simp at hz1
  have n0 : w.heap.size < w1.heap.size := by omega
  have n1 : w.heap.size + 1 < w1.heap.size := by omega
  have n2 : w.heap.size < w1.heap.size + 1 := by omega
  have n3 : w.heap.size + 1 < w1.heap.size + 1 := by omega
  have n4 : w.heap.size < w1.heap.size + 1 + 1 := by omega
  have n5 : w.heap.size + 1 < w1.heap.size + 1 + 1 := by omega
  have h0 : Hid (Below w.heap.size w w1) := bcall (bal (bal (Below.refl _ _) _) _) hb
  clear hb
  go_wp2_with fail
  refine (c_a _).mono ?_
  rintro e w2 ⟨rfl, hb⟩
  obtain ⟨hc, hf⟩ := bcell hb
  have hz := hb.size
  simp at hz
  replace h0 : Hid (Below w.heap.size w w2) := bcall (bal (bal h0.out _) _) hb
  clear hb
  go_wp2_with fail
  refine (c_b _).mono ?_
  rintro e w3 ⟨rfl, hb⟩
  obtain ⟨hc', hf'⟩ := bcell hb
  replace hc : ∀ b o, b < w1.heap.size + 1 + 1 → w3.cell? ⟨b, o, none⟩ = _ := fun b o hl => (hc' b o (by omega)).trans (hc b o (by simpa using hl))
  replace hf : ∀ b o, b < w1.heap.size + 1 + 1 → w3.frozen? ⟨b, o, none⟩ = _ := fun b o hl => (hf' b o (by omega)).trans (hf b o (by simpa using hl))
  have hz' := hb.size
  replace hz := Nat.le_trans hz hz'
  replace h0 : Hid (Below w.heap.size w w3) := bcall h0.out hb
  clear hb hc' hf' hz'
  go_wp2_with fail
  refine (solves_any _).mono ?_
  rintro e w4 ⟨rfl, hb⟩
  obtain ⟨hc', hf'⟩ := bcell hb
  replace hc : ∀ b o, b < w1.heap.size + 1 + 1 → w4.cell? ⟨b, o, none⟩ = _ := fun b o hl => (hc' b o (by omega)).trans (hc b o (by simpa using hl))
  replace hf : ∀ b o, b < w1.heap.size + 1 + 1 → w4.frozen? ⟨b, o, none⟩ = _ := fun b o hl => (hf' b o (by omega)).trans (hf b o (by simpa using hl))
  have hz' := hb.size
  replace hz := Nat.le_trans hz hz'
  replace h0 : Hid (Below w.heap.size w w4) := bcall h0.out hb
  clear hb hc' hf' hz'
  go_wp2
  go_ret
  exact ⟨rfl, h0.out⟩

set_option maxHeartbeats 4000000 in
theorem walk5 (a b : R8) (ho : overB a b = true) (k_a : calmB a = true) (k_b : calmB b = true) (m0 : a.ms ≠ 0) (m1 : b.ms ≠ 0) (w : World) :
    Calls Try.prog 4 #[rowV a, rowV b] w fun e w' => e = .returned (.bool true) ∧ Below w.heap.size w w' := by
  have c1 := meet_any a b
  rw [ho] at c1
  obtain ⟨ga, gb, -, -⟩ := over_of ho
  obtain ⟨gp, gq⟩ := met_good a b ga gb
  have hd := met_apart a b ho (calm_of k_a) (calm_of k_b) (by omega)
  obtain ⟨t1, t2, t3, t4, t5, t6, t7, t8⟩ := met_kept a b
  have c_a : ∀ w, Calls Try.prog 8 #[rowV a] w fun e w' => e = .returned (.bool true) ∧ Below w.heap.size w w' := fun w => by
    have := calm_any a w
    rwa [k_a] at this
  have c_b : ∀ w, Calls Try.prog 8 #[rowV b] w fun e w' => e = .returned (.bool true) ∧ Below w.heap.size w w' := fun w => by
    have := calm_any b w
    rwa [k_b] at this
  have c_d := depth_any (met a b).1 (met a b).2 gp gq
  have c_p := good_yes (met a b).1 ((goodB_iff _).2 gp)
  have c_q := good_yes (met a b).2 ((goodB_iff _).2 gq)
  clear ho k_a k_b ga gb gp gq
  generalize (met a b).1 = p at *
  generalize (met a b).2 = q at *
  obtain ⟨x, y, px, py, wd, ht, ms, rr⟩ := a
  obtain ⟨x', y', px', py', wd', ht', ms', rr'⟩ := b
  obtain ⟨X, Y, PX, PY, WD, HT, MS, RR⟩ := p
  obtain ⟨X', Y', PX', PY', WD', HT', MS', RR'⟩ := q
  simp only at *
  subst t1 t2 t3 t4 t5 t6 t7 t8
  have e0 : (MS == 0) = false := by simp [m0]
  have e1 : (MS' == 0) = false := by simp [m1]
  have e2 : (MS != 0) = true := by simp [m0]
  have e3 : (MS' != 0) = true := by simp [m1]
  clear m0 m1
  generalize depthOf X X' WD WD' = dx at *
  generalize depthOf Y Y' HT HT' = dy at *
  have hd' : (dx == 0) = true ∨ ((dx == 0) = false ∧ (dy == 0) = true) := by simp; omega
  clear hd
  rcases hd' with d0 | ⟨d0, d1⟩
  all_goals
    unfold retV at *
    unfold rowV at *
    go_enter Try.func4, Try.ntmps4
    go_wp2_with fail
    refine (c1 _).mono ?_
    rintro e w1 ⟨rfl, hb⟩
    have hz1 := hb.size
    simp at hz1
    have ha : Hid (Two w1 w.heap.size ⟨x, y, px, py, WD, HT, MS, RR⟩ ⟨x', y', px', py', WD', HT', MS', RR'⟩) := (Two.made w ⟨x, y, px, py, WD, HT, MS, RR⟩ ⟨x', y', px', py', WD', HT', MS', RR'⟩).below hb
    have h0 : Hid (Below w.heap.size w w1) := bcall (bal (bal (Below.refl _ _) _) _) hb
    clear hb
    have n0 : w.heap.size < w1.heap.size := by omega
    have n1 : w.heap.size + 1 < w1.heap.size := by omega
    have n2 : w.heap.size < w1.heap.size + 1 := by omega
    have n3 : w.heap.size + 1 < w1.heap.size + 1 := by omega
    obtain ⟨a0, a1, a2, a3, a4, a5, a6, a7, b0, b1, b2, b3, b4, b5, b6, b7⟩ := ha.out.cells
    go_wp2_with fail
    refine (c_a _).mono ?_
    rintro e w2 ⟨rfl, hb⟩
    clear a0 a1 a2 a3 a4 a5 a6 a7 b0 b1 b2 b3 b4 b5 b6 b7
    replace ha : Hid (Two w2 w.heap.size ⟨x, y, px, py, WD, HT, MS, RR⟩ ⟨x', y', px', py', WD', HT', MS', RR'⟩) := ((ha.out.alloc _).alloc _).below hb
    have hp : Hid (Two w2 w1.heap.size ⟨X, Y, PX, PY, WD, HT, MS, RR⟩ ⟨X', Y', PX', PY', WD', HT', MS', RR'⟩) := (Two.made w1 ⟨X, Y, PX, PY, WD, HT, MS, RR⟩ ⟨X', Y', PX', PY', WD', HT', MS', RR'⟩).below hb
    replace h0 : Hid (Below w.heap.size w w2) := bcall (bal (bal h0.out _) _) hb
    clear hb
    obtain ⟨a0, a1, a2, a3, a4, a5, a6, a7, b0, b1, b2, b3, b4, b5, b6, b7⟩ := ha.out.cells
    obtain ⟨p0, p1, p2, p3, p4, p5, p6, p7, q0, q1, q2, q3, q4, q5, q6, q7⟩ := hp.out.cells
    go_wp2_with fail
    refine (c_b _).mono ?_
    rintro e w3 ⟨rfl, hb⟩
    clear a0 a1 a2 a3 a4 a5 a6 a7 b0 b1 b2 b3 b4 b5 b6 b7 p0 p1 p2 p3 p4 p5 p6 p7 q0 q1 q2 q3 q4 q5 q6 q7
    replace ha : Hid (Two w3 w.heap.size ⟨x, y, px, py, WD, HT, MS, RR⟩ ⟨x', y', px', py', WD', HT', MS', RR'⟩) := ha.out.below hb
    replace hp : Hid (Two w3 w1.heap.size ⟨X, Y, PX, PY, WD, HT, MS, RR⟩ ⟨X', Y', PX', PY', WD', HT', MS', RR'⟩) := hp.out.below hb
    replace h0 : Hid (Below w.heap.size w w3) := bcall h0.out hb
    clear hb
    obtain ⟨a0, a1, a2, a3, a4, a5, a6, a7, b0, b1, b2, b3, b4, b5, b6, b7⟩ := ha.out.cells
    obtain ⟨p0, p1, p2, p3, p4, p5, p6, p7, q0, q1, q2, q3, q4, q5, q6, q7⟩ := hp.out.cells
    go_wp2_with fail
    refine (c_d _).mono ?_
    rintro e w4 ⟨rfl, hb⟩
    clear a0 a1 a2 a3 a4 a5 a6 a7 b0 b1 b2 b3 b4 b5 b6 b7 p0 p1 p2 p3 p4 p5 p6 p7 q0 q1 q2 q3 q4 q5 q6 q7
    replace ha : Hid (Two w4 w.heap.size ⟨x, y, px, py, WD, HT, MS, RR⟩ ⟨x', y', px', py', WD', HT', MS', RR'⟩) := ha.out.below hb
    replace hp : Hid (Two w4 w1.heap.size ⟨X, Y, PX, PY, WD, HT, MS, RR⟩ ⟨X', Y', PX', PY', WD', HT', MS', RR'⟩) := hp.out.below hb
    replace h0 : Hid (Below w.heap.size w w4) := bcall h0.out hb
    clear hb
    obtain ⟨a0, a1, a2, a3, a4, a5, a6, a7, b0, b1, b2, b3, b4, b5, b6, b7⟩ := ha.out.cells
    obtain ⟨p0, p1, p2, p3, p4, p5, p6, p7, q0, q1, q2, q3, q4, q5, q6, q7⟩ := hp.out.cells
    go_wp2_with fail
    refine (c_p _).mono ?_
    rintro e w5 ⟨rfl, hb⟩
    clear a0 a1 a2 a3 a4 a5 a6 a7 b0 b1 b2 b3 b4 b5 b6 b7 p0 p1 p2 p3 p4 p5 p6 p7 q0 q1 q2 q3 q4 q5 q6 q7
    replace ha : Hid (Two w5 w.heap.size ⟨x, y, px, py, WD, HT, MS, RR⟩ ⟨x', y', px', py', WD', HT', MS', RR'⟩) := ha.out.below hb
    replace hp : Hid (Two w5 w1.heap.size ⟨X, Y, PX, PY, WD, HT, MS, RR⟩ ⟨X', Y', PX', PY', WD', HT', MS', RR'⟩) := hp.out.below hb
    replace h0 : Hid (Below w.heap.size w w5) := bcall h0.out hb
    clear hb
    obtain ⟨a0, a1, a2, a3, a4, a5, a6, a7, b0, b1, b2, b3, b4, b5, b6, b7⟩ := ha.out.cells
    obtain ⟨p0, p1, p2, p3, p4, p5, p6, p7, q0, q1, q2, q3, q4, q5, q6, q7⟩ := hp.out.cells
    go_wp2_with fail
    refine (c_q _).mono ?_
    rintro e w6 ⟨rfl, hb⟩
    clear a0 a1 a2 a3 a4 a5 a6 a7 b0 b1 b2 b3 b4 b5 b6 b7 p0 p1 p2 p3 p4 p5 p6 p7 q0 q1 q2 q3 q4 q5 q6 q7
    replace ha : Hid (Two w6 w.heap.size ⟨x, y, px, py, WD, HT, MS, RR⟩ ⟨x', y', px', py', WD', HT', MS', RR'⟩) := ha.out.below hb
    replace hp : Hid (Two w6 w1.heap.size ⟨X, Y, PX, PY, WD, HT, MS, RR⟩ ⟨X', Y', PX', PY', WD', HT', MS', RR'⟩) := hp.out.below hb
    replace h0 : Hid (Below w.heap.size w w6) := bcall h0.out hb
    clear hb
    obtain ⟨a0, a1, a2, a3, a4, a5, a6, a7, b0, b1, b2, b3, b4, b5, b6, b7⟩ := ha.out.cells
    obtain ⟨p0, p1, p2, p3, p4, p5, p6, p7, q0, q1, q2, q3, q4, q5, q6, q7⟩ := hp.out.cells
    go_wp2_with fail
    refine (solves_any _).mono ?_
    rintro e w7 ⟨rfl, hb⟩
    clear a0 a1 a2 a3 a4 a5 a6 a7 b0 b1 b2 b3 b4 b5 b6 b7 p0 p1 p2 p3 p4 p5 p6 p7 q0 q1 q2 q3 q4 q5 q6 q7
    replace ha : Hid (Two w7 w.heap.size ⟨x, y, px, py, WD, HT, MS, RR⟩ ⟨x', y', px', py', WD', HT', MS', RR'⟩) := ha.out.below hb
    replace hp : Hid (Two w7 w1.heap.size ⟨X, Y, PX, PY, WD, HT, MS, RR⟩ ⟨X', Y', PX', PY', WD', HT', MS', RR'⟩) := hp.out.below hb
    replace h0 : Hid (Below w.heap.size w w7) := bcall h0.out hb
    clear hb
    obtain ⟨a0, a1, a2, a3, a4, a5, a6, a7, b0, b1, b2, b3, b4, b5, b6, b7⟩ := ha.out.cells
    obtain ⟨p0, p1, p2, p3, p4, p5, p6, p7, q0, q1, q2, q3, q4, q5, q6, q7⟩ := hp.out.cells
    go_wp2
    go_ret
    exact ⟨rfl, h0.out⟩

set_option maxHeartbeats 4000000 in
theorem walk6 (a b : R8) (ho : overB a b = true) (k_a : calmB a = true) (k_b : calmB b = true) (m0 : a.ms = 0) (m1 : b.ms ≠ 0) (w : World) :
    Calls Try.prog 4 #[rowV a, rowV b] w fun e w' => e = .returned (.bool true) ∧ Below w.heap.size w w' := by
  have c1 := meet_any a b
  rw [ho] at c1
  obtain ⟨ga, gb, -, -⟩ := over_of ho
  obtain ⟨gp, gq⟩ := met_good a b ga gb
  have hd := met_apart a b ho (calm_of k_a) (calm_of k_b) (by omega)
  obtain ⟨t1, t2, t3, t4, t5, t6, t7, t8⟩ := met_kept a b
  have f1 : ∀ w, (binOp .eql 23 (rowV (met a b).1) (rowV a)).run Try.prog w = .ok (.bool true) w := fun w => by
    rw [met_fixA a b m0, eqRow, eqR_self]
  have c_a : ∀ w, Calls Try.prog 8 #[rowV a] w fun e w' => e = .returned (.bool true) ∧ Below w.heap.size w w' := fun w => by
    have := calm_any a w
    rwa [k_a] at this
  have c_b : ∀ w, Calls Try.prog 8 #[rowV b] w fun e w' => e = .returned (.bool true) ∧ Below w.heap.size w w' := fun w => by
    have := calm_any b w
    rwa [k_b] at this
  have c_d := depth_any (met a b).1 (met a b).2 gp gq
  have c_p := good_yes (met a b).1 ((goodB_iff _).2 gp)
  have c_q := good_yes (met a b).2 ((goodB_iff _).2 gq)
  clear ho k_a k_b ga gb gp gq
  generalize (met a b).1 = p at *
  generalize (met a b).2 = q at *
  obtain ⟨x, y, px, py, wd, ht, ms, rr⟩ := a
  obtain ⟨x', y', px', py', wd', ht', ms', rr'⟩ := b
  obtain ⟨X, Y, PX, PY, WD, HT, MS, RR⟩ := p
  obtain ⟨X', Y', PX', PY', WD', HT', MS', RR'⟩ := q
  simp only at *
  subst t1 t2 t3 t4 t5 t6 t7 t8
  have e0 : (MS == 0) = true := by simp [m0]
  have e1 : (MS' == 0) = false := by simp [m1]
  have e2 : (MS != 0) = false := by simp [m0]
  have e3 : (MS' != 0) = true := by simp [m1]
  clear m0 m1
  generalize depthOf X X' WD WD' = dx at *
  generalize depthOf Y Y' HT HT' = dy at *
  have hd' : (dx == 0) = true ∨ ((dx == 0) = false ∧ (dy == 0) = true) := by simp; omega
  clear hd
  rcases hd' with d0 | ⟨d0, d1⟩
  all_goals
    unfold retV at *
    unfold rowV at *
    go_enter Try.func4, Try.ntmps4
    go_wp2_with fail
    refine (c1 _).mono ?_
    rintro e w1 ⟨rfl, hb⟩
    have hz1 := hb.size
    simp at hz1
    have ha : Hid (Two w1 w.heap.size ⟨x, y, px, py, WD, HT, MS, RR⟩ ⟨x', y', px', py', WD', HT', MS', RR'⟩) := (Two.made w ⟨x, y, px, py, WD, HT, MS, RR⟩ ⟨x', y', px', py', WD', HT', MS', RR'⟩).below hb
    have h0 : Hid (Below w.heap.size w w1) := bcall (bal (bal (Below.refl _ _) _) _) hb
    clear hb
    have n0 : w.heap.size < w1.heap.size := by omega
    have n1 : w.heap.size + 1 < w1.heap.size := by omega
    have n2 : w.heap.size < w1.heap.size + 1 := by omega
    have n3 : w.heap.size + 1 < w1.heap.size + 1 := by omega
    obtain ⟨a0, a1, a2, a3, a4, a5, a6, a7, b0, b1, b2, b3, b4, b5, b6, b7⟩ := ha.out.cells
    go_wp2_with fail
    refine (c_a _).mono ?_
    rintro e w2 ⟨rfl, hb⟩
    clear a0 a1 a2 a3 a4 a5 a6 a7 b0 b1 b2 b3 b4 b5 b6 b7
    replace ha : Hid (Two w2 w.heap.size ⟨x, y, px, py, WD, HT, MS, RR⟩ ⟨x', y', px', py', WD', HT', MS', RR'⟩) := ((ha.out.alloc _).alloc _).below hb
    have hp : Hid (Two w2 w1.heap.size ⟨X, Y, PX, PY, WD, HT, MS, RR⟩ ⟨X', Y', PX', PY', WD', HT', MS', RR'⟩) := (Two.made w1 ⟨X, Y, PX, PY, WD, HT, MS, RR⟩ ⟨X', Y', PX', PY', WD', HT', MS', RR'⟩).below hb
    replace h0 : Hid (Below w.heap.size w w2) := bcall (bal (bal h0.out _) _) hb
    clear hb
    obtain ⟨a0, a1, a2, a3, a4, a5, a6, a7, b0, b1, b2, b3, b4, b5, b6, b7⟩ := ha.out.cells
    obtain ⟨p0, p1, p2, p3, p4, p5, p6, p7, q0, q1, q2, q3, q4, q5, q6, q7⟩ := hp.out.cells
    go_wp2_with fail
    refine (c_b _).mono ?_
    rintro e w3 ⟨rfl, hb⟩
    clear a0 a1 a2 a3 a4 a5 a6 a7 b0 b1 b2 b3 b4 b5 b6 b7 p0 p1 p2 p3 p4 p5 p6 p7 q0 q1 q2 q3 q4 q5 q6 q7
    replace ha : Hid (Two w3 w.heap.size ⟨x, y, px, py, WD, HT, MS, RR⟩ ⟨x', y', px', py', WD', HT', MS', RR'⟩) := ha.out.below hb
    replace hp : Hid (Two w3 w1.heap.size ⟨X, Y, PX, PY, WD, HT, MS, RR⟩ ⟨X', Y', PX', PY', WD', HT', MS', RR'⟩) := hp.out.below hb
    replace h0 : Hid (Below w.heap.size w w3) := bcall h0.out hb
    clear hb
    obtain ⟨a0, a1, a2, a3, a4, a5, a6, a7, b0, b1, b2, b3, b4, b5, b6, b7⟩ := ha.out.cells
    obtain ⟨p0, p1, p2, p3, p4, p5, p6, p7, q0, q1, q2, q3, q4, q5, q6, q7⟩ := hp.out.cells
    go_wp2_with fail
    refine (c_d _).mono ?_
    rintro e w4 ⟨rfl, hb⟩
    clear a0 a1 a2 a3 a4 a5 a6 a7 b0 b1 b2 b3 b4 b5 b6 b7 p0 p1 p2 p3 p4 p5 p6 p7 q0 q1 q2 q3 q4 q5 q6 q7
    replace ha : Hid (Two w4 w.heap.size ⟨x, y, px, py, WD, HT, MS, RR⟩ ⟨x', y', px', py', WD', HT', MS', RR'⟩) := ha.out.below hb
    replace hp : Hid (Two w4 w1.heap.size ⟨X, Y, PX, PY, WD, HT, MS, RR⟩ ⟨X', Y', PX', PY', WD', HT', MS', RR'⟩) := hp.out.below hb
    replace h0 : Hid (Below w.heap.size w w4) := bcall h0.out hb
    clear hb
    obtain ⟨a0, a1, a2, a3, a4, a5, a6, a7, b0, b1, b2, b3, b4, b5, b6, b7⟩ := ha.out.cells
    obtain ⟨p0, p1, p2, p3, p4, p5, p6, p7, q0, q1, q2, q3, q4, q5, q6, q7⟩ := hp.out.cells
    go_wp2_with fail
    refine (c_p _).mono ?_
    rintro e w5 ⟨rfl, hb⟩
    clear a0 a1 a2 a3 a4 a5 a6 a7 b0 b1 b2 b3 b4 b5 b6 b7 p0 p1 p2 p3 p4 p5 p6 p7 q0 q1 q2 q3 q4 q5 q6 q7
    replace ha : Hid (Two w5 w.heap.size ⟨x, y, px, py, WD, HT, MS, RR⟩ ⟨x', y', px', py', WD', HT', MS', RR'⟩) := ha.out.below hb
    replace hp : Hid (Two w5 w1.heap.size ⟨X, Y, PX, PY, WD, HT, MS, RR⟩ ⟨X', Y', PX', PY', WD', HT', MS', RR'⟩) := hp.out.below hb
    replace h0 : Hid (Below w.heap.size w w5) := bcall h0.out hb
    clear hb
    obtain ⟨a0, a1, a2, a3, a4, a5, a6, a7, b0, b1, b2, b3, b4, b5, b6, b7⟩ := ha.out.cells
    obtain ⟨p0, p1, p2, p3, p4, p5, p6, p7, q0, q1, q2, q3, q4, q5, q6, q7⟩ := hp.out.cells
    go_wp2_with fail
    refine (c_q _).mono ?_
    rintro e w6 ⟨rfl, hb⟩
    clear a0 a1 a2 a3 a4 a5 a6 a7 b0 b1 b2 b3 b4 b5 b6 b7 p0 p1 p2 p3 p4 p5 p6 p7 q0 q1 q2 q3 q4 q5 q6 q7
    replace ha : Hid (Two w6 w.heap.size ⟨x, y, px, py, WD, HT, MS, RR⟩ ⟨x', y', px', py', WD', HT', MS', RR'⟩) := ha.out.below hb
    replace hp : Hid (Two w6 w1.heap.size ⟨X, Y, PX, PY, WD, HT, MS, RR⟩ ⟨X', Y', PX', PY', WD', HT', MS', RR'⟩) := hp.out.below hb
    replace h0 : Hid (Below w.heap.size w w6) := bcall h0.out hb
    clear hb
    obtain ⟨a0, a1, a2, a3, a4, a5, a6, a7, b0, b1, b2, b3, b4, b5, b6, b7⟩ := ha.out.cells
    obtain ⟨p0, p1, p2, p3, p4, p5, p6, p7, q0, q1, q2, q3, q4, q5, q6, q7⟩ := hp.out.cells
    go_wp2_with fail
    refine (solves_any _).mono ?_
    rintro e w7 ⟨rfl, hb⟩
    clear a0 a1 a2 a3 a4 a5 a6 a7 b0 b1 b2 b3 b4 b5 b6 b7 p0 p1 p2 p3 p4 p5 p6 p7 q0 q1 q2 q3 q4 q5 q6 q7
    replace ha : Hid (Two w7 w.heap.size ⟨x, y, px, py, WD, HT, MS, RR⟩ ⟨x', y', px', py', WD', HT', MS', RR'⟩) := ha.out.below hb
    replace hp : Hid (Two w7 w1.heap.size ⟨X, Y, PX, PY, WD, HT, MS, RR⟩ ⟨X', Y', PX', PY', WD', HT', MS', RR'⟩) := hp.out.below hb
    replace h0 : Hid (Below w.heap.size w w7) := bcall h0.out hb
    clear hb
    obtain ⟨a0, a1, a2, a3, a4, a5, a6, a7, b0, b1, b2, b3, b4, b5, b6, b7⟩ := ha.out.cells
    obtain ⟨p0, p1, p2, p3, p4, p5, p6, p7, q0, q1, q2, q3, q4, q5, q6, q7⟩ := hp.out.cells
    go_wp2
    go_ret
    exact ⟨rfl, h0.out⟩

set_option maxHeartbeats 4000000 in
theorem walk7 (a b : R8) (ho : overB a b = true) (k_a : calmB a = true) (k_b : calmB b = true) (m0 : a.ms ≠ 0) (m1 : b.ms = 0) (w : World) :
    Calls Try.prog 4 #[rowV a, rowV b] w fun e w' => e = .returned (.bool true) ∧ Below w.heap.size w w' := by
  have c1 := meet_any a b
  rw [ho] at c1
  obtain ⟨ga, gb, -, -⟩ := over_of ho
  obtain ⟨gp, gq⟩ := met_good a b ga gb
  have hd := met_apart a b ho (calm_of k_a) (calm_of k_b) (by omega)
  obtain ⟨t1, t2, t3, t4, t5, t6, t7, t8⟩ := met_kept a b
  have f2 : ∀ w, (binOp .eql 23 (rowV (met a b).2) (rowV b)).run Try.prog w = .ok (.bool true) w := fun w => by
    rw [met_fixB a b m1, eqRow, eqR_self]
  have c_a : ∀ w, Calls Try.prog 8 #[rowV a] w fun e w' => e = .returned (.bool true) ∧ Below w.heap.size w w' := fun w => by
    have := calm_any a w
    rwa [k_a] at this
  have c_b : ∀ w, Calls Try.prog 8 #[rowV b] w fun e w' => e = .returned (.bool true) ∧ Below w.heap.size w w' := fun w => by
    have := calm_any b w
    rwa [k_b] at this
  have c_d := depth_any (met a b).1 (met a b).2 gp gq
  have c_p := good_yes (met a b).1 ((goodB_iff _).2 gp)
  have c_q := good_yes (met a b).2 ((goodB_iff _).2 gq)
  clear ho k_a k_b ga gb gp gq
  generalize (met a b).1 = p at *
  generalize (met a b).2 = q at *
  obtain ⟨x, y, px, py, wd, ht, ms, rr⟩ := a
  obtain ⟨x', y', px', py', wd', ht', ms', rr'⟩ := b
  obtain ⟨X, Y, PX, PY, WD, HT, MS, RR⟩ := p
  obtain ⟨X', Y', PX', PY', WD', HT', MS', RR'⟩ := q
  simp only at *
  subst t1 t2 t3 t4 t5 t6 t7 t8
  have e0 : (MS == 0) = false := by simp [m0]
  have e1 : (MS' == 0) = true := by simp [m1]
  have e2 : (MS != 0) = true := by simp [m0]
  have e3 : (MS' != 0) = false := by simp [m1]
  clear m0 m1
  generalize depthOf X X' WD WD' = dx at *
  generalize depthOf Y Y' HT HT' = dy at *
  have hd' : (dx == 0) = true ∨ ((dx == 0) = false ∧ (dy == 0) = true) := by simp; omega
  clear hd
  rcases hd' with d0 | ⟨d0, d1⟩
  all_goals
    unfold retV at *
    unfold rowV at *
    go_enter Try.func4, Try.ntmps4
    go_wp2_with fail
    refine (c1 _).mono ?_
    rintro e w1 ⟨rfl, hb⟩
    have hz1 := hb.size
    simp at hz1
    have ha : Hid (Two w1 w.heap.size ⟨x, y, px, py, WD, HT, MS, RR⟩ ⟨x', y', px', py', WD', HT', MS', RR'⟩) := (Two.made w ⟨x, y, px, py, WD, HT, MS, RR⟩ ⟨x', y', px', py', WD', HT', MS', RR'⟩).below hb
    have h0 : Hid (Below w.heap.size w w1) := bcall (bal (bal (Below.refl _ _) _) _) hb
    clear hb
    have n0 : w.heap.size < w1.heap.size := by omega
    have n1 : w.heap.size + 1 < w1.heap.size := by omega
    have n2 : w.heap.size < w1.heap.size + 1 := by omega
    have n3 : w.heap.size + 1 < w1.heap.size + 1 := by omega
    obtain ⟨a0, a1, a2, a3, a4, a5, a6, a7, b0, b1, b2, b3, b4, b5, b6, b7⟩ := ha.out.cells
    go_wp2_with fail
    refine (c_a _).mono ?_
    rintro e w2 ⟨rfl, hb⟩
    clear a0 a1 a2 a3 a4 a5 a6 a7 b0 b1 b2 b3 b4 b5 b6 b7
    replace ha : Hid (Two w2 w.heap.size ⟨x, y, px, py, WD, HT, MS, RR⟩ ⟨x', y', px', py', WD', HT', MS', RR'⟩) := ((ha.out.alloc _).alloc _).below hb
    have hp : Hid (Two w2 w1.heap.size ⟨X, Y, PX, PY, WD, HT, MS, RR⟩ ⟨X', Y', PX', PY', WD', HT', MS', RR'⟩) := (Two.made w1 ⟨X, Y, PX, PY, WD, HT, MS, RR⟩ ⟨X', Y', PX', PY', WD', HT', MS', RR'⟩).below hb
    replace h0 : Hid (Below w.heap.size w w2) := bcall (bal (bal h0.out _) _) hb
    clear hb
    obtain ⟨a0, a1, a2, a3, a4, a5, a6, a7, b0, b1, b2, b3, b4, b5, b6, b7⟩ := ha.out.cells
    obtain ⟨p0, p1, p2, p3, p4, p5, p6, p7, q0, q1, q2, q3, q4, q5, q6, q7⟩ := hp.out.cells
    go_wp2_with fail
    refine (c_b _).mono ?_
    rintro e w3 ⟨rfl, hb⟩
    clear a0 a1 a2 a3 a4 a5 a6 a7 b0 b1 b2 b3 b4 b5 b6 b7 p0 p1 p2 p3 p4 p5 p6 p7 q0 q1 q2 q3 q4 q5 q6 q7
    replace ha : Hid (Two w3 w.heap.size ⟨x, y, px, py, WD, HT, MS, RR⟩ ⟨x', y', px', py', WD', HT', MS', RR'⟩) := ha.out.below hb
    replace hp : Hid (Two w3 w1.heap.size ⟨X, Y, PX, PY, WD, HT, MS, RR⟩ ⟨X', Y', PX', PY', WD', HT', MS', RR'⟩) := hp.out.below hb
    replace h0 : Hid (Below w.heap.size w w3) := bcall h0.out hb
    clear hb
    obtain ⟨a0, a1, a2, a3, a4, a5, a6, a7, b0, b1, b2, b3, b4, b5, b6, b7⟩ := ha.out.cells
    obtain ⟨p0, p1, p2, p3, p4, p5, p6, p7, q0, q1, q2, q3, q4, q5, q6, q7⟩ := hp.out.cells
    go_wp2_with fail
    refine (c_d _).mono ?_
    rintro e w4 ⟨rfl, hb⟩
    clear a0 a1 a2 a3 a4 a5 a6 a7 b0 b1 b2 b3 b4 b5 b6 b7 p0 p1 p2 p3 p4 p5 p6 p7 q0 q1 q2 q3 q4 q5 q6 q7
    replace ha : Hid (Two w4 w.heap.size ⟨x, y, px, py, WD, HT, MS, RR⟩ ⟨x', y', px', py', WD', HT', MS', RR'⟩) := ha.out.below hb
    replace hp : Hid (Two w4 w1.heap.size ⟨X, Y, PX, PY, WD, HT, MS, RR⟩ ⟨X', Y', PX', PY', WD', HT', MS', RR'⟩) := hp.out.below hb
    replace h0 : Hid (Below w.heap.size w w4) := bcall h0.out hb
    clear hb
    obtain ⟨a0, a1, a2, a3, a4, a5, a6, a7, b0, b1, b2, b3, b4, b5, b6, b7⟩ := ha.out.cells
    obtain ⟨p0, p1, p2, p3, p4, p5, p6, p7, q0, q1, q2, q3, q4, q5, q6, q7⟩ := hp.out.cells
    go_wp2_with fail
    refine (c_p _).mono ?_
    rintro e w5 ⟨rfl, hb⟩
    clear a0 a1 a2 a3 a4 a5 a6 a7 b0 b1 b2 b3 b4 b5 b6 b7 p0 p1 p2 p3 p4 p5 p6 p7 q0 q1 q2 q3 q4 q5 q6 q7
    replace ha : Hid (Two w5 w.heap.size ⟨x, y, px, py, WD, HT, MS, RR⟩ ⟨x', y', px', py', WD', HT', MS', RR'⟩) := ha.out.below hb
    replace hp : Hid (Two w5 w1.heap.size ⟨X, Y, PX, PY, WD, HT, MS, RR⟩ ⟨X', Y', PX', PY', WD', HT', MS', RR'⟩) := hp.out.below hb
    replace h0 : Hid (Below w.heap.size w w5) := bcall h0.out hb
    clear hb
    obtain ⟨a0, a1, a2, a3, a4, a5, a6, a7, b0, b1, b2, b3, b4, b5, b6, b7⟩ := ha.out.cells
    obtain ⟨p0, p1, p2, p3, p4, p5, p6, p7, q0, q1, q2, q3, q4, q5, q6, q7⟩ := hp.out.cells
    go_wp2_with fail
    refine (c_q _).mono ?_
    rintro e w6 ⟨rfl, hb⟩
    clear a0 a1 a2 a3 a4 a5 a6 a7 b0 b1 b2 b3 b4 b5 b6 b7 p0 p1 p2 p3 p4 p5 p6 p7 q0 q1 q2 q3 q4 q5 q6 q7
    replace ha : Hid (Two w6 w.heap.size ⟨x, y, px, py, WD, HT, MS, RR⟩ ⟨x', y', px', py', WD', HT', MS', RR'⟩) := ha.out.below hb
    replace hp : Hid (Two w6 w1.heap.size ⟨X, Y, PX, PY, WD, HT, MS, RR⟩ ⟨X', Y', PX', PY', WD', HT', MS', RR'⟩) := hp.out.below hb
    replace h0 : Hid (Below w.heap.size w w6) := bcall h0.out hb
    clear hb
    obtain ⟨a0, a1, a2, a3, a4, a5, a6, a7, b0, b1, b2, b3, b4, b5, b6, b7⟩ := ha.out.cells
    obtain ⟨p0, p1, p2, p3, p4, p5, p6, p7, q0, q1, q2, q3, q4, q5, q6, q7⟩ := hp.out.cells
    go_wp2_with fail
    refine (solves_any _).mono ?_
    rintro e w7 ⟨rfl, hb⟩
    clear a0 a1 a2 a3 a4 a5 a6 a7 b0 b1 b2 b3 b4 b5 b6 b7 p0 p1 p2 p3 p4 p5 p6 p7 q0 q1 q2 q3 q4 q5 q6 q7
    replace ha : Hid (Two w7 w.heap.size ⟨x, y, px, py, WD, HT, MS, RR⟩ ⟨x', y', px', py', WD', HT', MS', RR'⟩) := ha.out.below hb
    replace hp : Hid (Two w7 w1.heap.size ⟨X, Y, PX, PY, WD, HT, MS, RR⟩ ⟨X', Y', PX', PY', WD', HT', MS', RR'⟩) := hp.out.below hb
    replace h0 : Hid (Below w.heap.size w w7) := bcall h0.out hb
    clear hb
    obtain ⟨a0, a1, a2, a3, a4, a5, a6, a7, b0, b1, b2, b3, b4, b5, b6, b7⟩ := ha.out.cells
    obtain ⟨p0, p1, p2, p3, p4, p5, p6, p7, q0, q1, q2, q3, q4, q5, q6, q7⟩ := hp.out.cells
    go_wp2
    go_ret
    exact ⟨rfl, h0.out⟩

theorem walk (a b : R8) (w : World) : Calls Try.prog 4 #[rowV a, rowV b] w fun e w' => e = .returned (.bool true) ∧ Below w.heap.size w w' := by
  cases ho : overB a b
  · exact walk1 a b ho w
  cases ka : calmB a
  · exact walk2 a b ho ka w
  cases kb : calmB b
  · exact walk3 a b ho ka kb w
  by_cases m0 : a.ms = 0
  · by_cases m1 : b.ms = 0
    · exact walk4 a b ho ka kb m0 m1 w
    · exact walk6 a b ho ka kb m0 m1 w
  · by_cases m1 : b.ms = 0
    · exact walk7 a b ho ka kb m0 m1 w
    · exact walk5 a b ho ka kb m0 m1 w
theorem laidOut : laidOutB Try.prog = true := by kernel_rfl

set_option maxRecDepth 100000 in
theorem lifted (os : Os) (started : os.Started) (H : Type) (enc : TypeId × Value → H) :
    ReturnsInHanded {} Try.checked os 4 .any (Rows.solvePartsSpec.pre6 enc Try.prog Try.f4 Rows.solvePartsRow.domain false) (Rows.solvePartsSpec.post enc Try.prog Try.f4 false true false false) := by
  refine returnsInHanded_of_change (C := Try.checked) own started (by kernel_rfl) Try.func4
    (ChangeSpec.witness6 (enc := enc) (C := Try.checked) false ⟨#[], #[.agg #[.int .i64 0, .int .i64 0, .int .i64 0, .int .i64 0, .int .i64 0, .int .i64 0, .int .i64 0, .int .i64 0], .agg #[.int .i64 0, .int .i64 0, .int .i64 0, .int .i64 0, .int .i64 0, .int .i64 0, .int .i64 0, .int .i64 0]], []⟩ 8 (by kernel_rfl) (by kernel_rfl) (by kernel_rfl) (by kernel_rfl)) ?_
  intro W base args ds gs before hval0 hW _ _
  have hval : ∀ (j : Nat) t v, Try.f4.params[j]? = some t → args[j]? = some v → Value.okWide Try.prog W .any base t v := hval0
  have hW' := hW
  obtain ⟨p, q, hA0, hV, rfl, _, _⟩ := hW
  have hA : DataW.TrodAll enc Try.prog W 0 (fun _ => true) true Try.f4.params.toList args.toList ds p := hA0
  rw [Try.params4] at hA hval
  obtain ⟨v0, vs0, d0, ds0, p0, q0, hargs, rfl, rfl, h0, r0⟩ := trodAll_cons hA
  obtain ⟨v1, vs1, d1, ds1, p1, q1, rfl, rfl, rfl, h1, r1⟩ := trodAll_cons r0
  obtain ⟨rfl, rfl, rfl⟩ := trodAll_nil r1
  obtain rfl : args = #[v0, v1] := by cases args; simp_all
  obtain ⟨rfl, rfl⟩ := trodVars_none hV
  have hlt : ∀ x ∈ p0 ++ (p1 ++ []), x.block < W.heap.size := fun x hx => by simpa using hW'.lt x (by simpa using hx)
  have hk0 : ∀ (W' : World), Below W.heap.size W W' → DataW.Trod enc Try.prog W' 0 (fun b => decide (b < W.heap.size)) true 23 v0 d0 p0 :=
    fun W' hn => Below.trod laidOut (by kernel_rfl) (of_decide_eq_true (by kernel_rfl)) h0 hn (fun x hx => hlt x (List.mem_append.2 (Or.inl hx)))
  have hk1 : ∀ (W' : World), Below W.heap.size W W' → DataW.Trod enc Try.prog W' 0 (fun b => decide (b < W.heap.size)) true 23 v1 d1 p1 :=
    fun W' hn => Below.trod laidOut (by kernel_rfl) (of_decide_eq_true (by kernel_rfl)) h1 hn (fun x hx => hlt x (List.mem_append.2 (Or.inr (List.mem_append.2 (Or.inl hx)))))
  obtain ⟨a, rfl⟩ := open_row (hval 0 23 v0 rfl rfl) h0
  obtain ⟨b, rfl⟩ := open_row (hval 1 23 v1 rfl rfl) h1
  simp only [List.append_nil] at hW'
  refine (walk a b W).mono fun e W' ⟨he, hb⟩ => ?_
  subst he
  refine ⟨_, rfl, _, _, _, [], p0 ++ (p1 ++ []), [], hW', ?_, ?_, rfl, hb.frame _, fun h => by cases h⟩
  · exact trodAll_cons_mk (shut_bool Try.underlying4 _) trodAll_mk0
  · exact trodAll_cons_mk (hk0 _ hb) (trodAll_cons_mk (hk1 _ hb) trodAll_mk0)

theorem over : Rows.solvePartsRow.holds Try.pinned (OpenSpec.ofChange Rows.solvePartsSpec) :=
  OpenClaim.holds_of_wide 4 Try.f4 rfl rfl rfl rfl rfl rfl rfl ⟨rfl, rfl, rfl, rfl, rfl⟩ rfl rfl rfl rfl rfl (by kernel_rfl) Try.func4 (by kernel_rfl)
    (of_decide_eq_true (by kernel_rfl)) (by unfold Func.isWrapper; first | (rw [if_pos (by decide +kernel)]; kernel_rfl) | (rw [if_neg (by decide +kernel)]; exact ⟨rfl, rfl⟩))
    (fun os started H enc _ => lifted os started H enc)

theorem proved : Rows.SolvePartsSaid :=
  over
#print axioms proved
end Go.Proofs.Ytckkkdldljhehab.solveParts
namespace Go.Proofs.Ytckkkdldljhehab
theorem solveParts_holds : Rows.SolvePartsSaid := solveParts.proved
end Go.Proofs.Ytckkkdldljhehab
