/- Proved: for every two rows, SolveSums returns true, and its arguments read as before. No conditions. -/
import Derived.Test.YtckkkdldljhehabSoH
import Derived.Test.YtckkkdldljhehabSoI
import Derived.WalkKit
import Derived.ProofKit
import Derived.OpenShut
import Derived.SizedLaws
namespace Go.Proofs.Ytckkkdldljhehab.solveSums
open Go.ChangeShapes Go.WideShapes Go.ChangeAt Go.RowKit
open Num

theorem own : ownKnob Try.prog.godebug = none := by kernel_rfl

set_option maxHeartbeats 4000000 in
theorem walk1 (a b : R8) (ho : overB a b = false) (w : World) :
    Calls Try.prog 3 #[rowV a, rowV b] w fun e w' => e = .returned (.bool true) ∧ Below w.heap.size w w' := by
  have c1 := meet_any a b
  rw [ho] at c1
  clear ho
  generalize (met a b).1 = p at *
  generalize (met a b).2 = q at *
  obtain ⟨x, y, px, py, wd, ht, ms, rr⟩ := a
  obtain ⟨x', y', px', py', wd', ht', ms', rr'⟩ := b
  obtain ⟨X, Y, PX, PY, WD, HT, MS, RR⟩ := p
  obtain ⟨X', Y', PX', PY', WD', HT', MS', RR'⟩ := q
  unfold retV at *
  unfold rowV at *
  simp only at *
  go_enter Try.func3, Try.ntmps3
  go_wp2_with fail
  refine (c1 _).mono ?_
  rintro e w1 ⟨rfl, hb⟩
  obtain ⟨hc1, hf1⟩ := bcell hb
  have hz1 := hb.size
  simp at hz1
  have n0 : w.heap.size < w1.heap.size := by omega
  have n1 : w.heap.size + 1 < w1.heap.size := by omega
  have n2 : w.heap.size < w1.heap.size + 1 := by omega
  have n3 : w.heap.size + 1 < w1.heap.size + 1 := by omega
  have n4 : w.heap.size < w1.heap.size + 1 + 1 := by omega
  have n5 : w.heap.size + 1 < w1.heap.size + 1 + 1 := by omega
  have h0 : Hid (Below w.heap.size w w1) := bcall (bal (bal (Below.refl _ _) _) _) hb
  clear hb
  go_wp2_with fail
  refine (solves_any _).mono ?_
  rintro e w2 ⟨rfl, hb⟩
  obtain ⟨hc, hf⟩ := bcell hb
  have hz := hb.size
  simp at hz
  replace h0 : Hid (Below w.heap.size w w2) := bcall (bal (bal h0.out _) _) hb
  clear hb
  go_wp2
  go_ret
  exact ⟨rfl, h0.out⟩

set_option maxHeartbeats 4000000 in
theorem walk2 (a b : R8) (ho : overB a b = true) (k_a : calmB a = false) (w : World) :
    Calls Try.prog 3 #[rowV a, rowV b] w fun e w' => e = .returned (.bool true) ∧ Below w.heap.size w w' := by
  have c1 := meet_any a b
  rw [ho] at c1
  have c_a : ∀ w, Calls Try.prog 8 #[rowV a] w fun e w' => e = .returned (.bool false) ∧ Below w.heap.size w w' := fun w => by
    have := calm_any a w
    rwa [k_a] at this
  clear ho k_a
  generalize (met a b).1 = p at *
  generalize (met a b).2 = q at *
  obtain ⟨x, y, px, py, wd, ht, ms, rr⟩ := a
  obtain ⟨x', y', px', py', wd', ht', ms', rr'⟩ := b
  obtain ⟨X, Y, PX, PY, WD, HT, MS, RR⟩ := p
  obtain ⟨X', Y', PX', PY', WD', HT', MS', RR'⟩ := q
  unfold retV at *
  unfold rowV at *
  simp only at *
  go_enter Try.func3, Try.ntmps3
  go_wp2_with fail
  refine (c1 _).mono ?_
  rintro e w1 ⟨rfl, hb⟩
  obtain ⟨hc1, hf1⟩ := bcell hb
  have hz1 := hb.size
  simp at hz1
  have n0 : w.heap.size < w1.heap.size := by omega
  have n1 : w.heap.size + 1 < w1.heap.size := by omega
  have n2 : w.heap.size < w1.heap.size + 1 := by omega
  have n3 : w.heap.size + 1 < w1.heap.size + 1 := by omega
  have n4 : w.heap.size < w1.heap.size + 1 + 1 := by omega
  have n5 : w.heap.size + 1 < w1.heap.size + 1 + 1 := by omega
  have h0 : Hid (Below w.heap.size w w1) := bcall (bal (bal (Below.refl _ _) _) _) hb
  clear hb
  go_wp2_with fail
  refine (c_a _).mono ?_
  rintro e w2 ⟨rfl, hb⟩
  obtain ⟨hc, hf⟩ := bcell hb
  have hz := hb.size
  simp at hz
  replace h0 : Hid (Below w.heap.size w w2) := bcall (bal (bal h0.out _) _) hb
  clear hb
  go_wp2_with fail
  refine (solves_any _).mono ?_
  rintro e w3 ⟨rfl, hb⟩
  obtain ⟨hc', hf'⟩ := bcell hb
  replace hc : ∀ b o, b < w1.heap.size + 1 + 1 → w3.cell? ⟨b, o, none⟩ = _ := fun b o hl => (hc' b o (by omega)).trans (hc b o (by simpa using hl))
  replace hf : ∀ b o, b < w1.heap.size + 1 + 1 → w3.frozen? ⟨b, o, none⟩ = _ := fun b o hl => (hf' b o (by omega)).trans (hf b o (by simpa using hl))
  have hz' := hb.size
  replace hz := Nat.le_trans hz hz'
  replace h0 : Hid (Below w.heap.size w w3) := bcall h0.out hb
  clear hb hc' hf' hz'
  go_wp2
  go_ret
  exact ⟨rfl, h0.out⟩

set_option maxHeartbeats 4000000 in
theorem walk3 (a b : R8) (ho : overB a b = true) (k_a : calmB a = true) (k_b : calmB b = false) (w : World) :
    Calls Try.prog 3 #[rowV a, rowV b] w fun e w' => e = .returned (.bool true) ∧ Below w.heap.size w w' := by
  have c1 := meet_any a b
  rw [ho] at c1
  have c_a : ∀ w, Calls Try.prog 8 #[rowV a] w fun e w' => e = .returned (.bool true) ∧ Below w.heap.size w w' := fun w => by
    have := calm_any a w
    rwa [k_a] at this
  have c_b : ∀ w, Calls Try.prog 8 #[rowV b] w fun e w' => e = .returned (.bool false) ∧ Below w.heap.size w w' := fun w => by
    have := calm_any b w
    rwa [k_b] at this
  clear ho k_a k_b
  generalize (met a b).1 = p at *
  generalize (met a b).2 = q at *
  obtain ⟨x, y, px, py, wd, ht, ms, rr⟩ := a
  obtain ⟨x', y', px', py', wd', ht', ms', rr'⟩ := b
  obtain ⟨X, Y, PX, PY, WD, HT, MS, RR⟩ := p
  obtain ⟨X', Y', PX', PY', WD', HT', MS', RR'⟩ := q
  unfold retV at *
  unfold rowV at *
  simp only at *
  go_enter Try.func3, Try.ntmps3
  go_wp2_with fail
  refine (c1 _).mono ?_
  rintro e w1 ⟨rfl, hb⟩
  obtain ⟨hc1, hf1⟩ := bcell hb
  have hz1 := hb.size
  simp at hz1
  have n0 : w.heap.size < w1.heap.size := by omega
  have n1 : w.heap.size + 1 < w1.heap.size := by omega
  have n2 : w.heap.size < w1.heap.size + 1 := by omega
  have n3 : w.heap.size + 1 < w1.heap.size + 1 := by omega
  have n4 : w.heap.size < w1.heap.size + 1 + 1 := by omega
  have n5 : w.heap.size + 1 < w1.heap.size + 1 + 1 := by omega
  have h0 : Hid (Below w.heap.size w w1) := bcall (bal (bal (Below.refl _ _) _) _) hb
  clear hb
  go_wp2_with fail
  refine (c_a _).mono ?_
  rintro e w2 ⟨rfl, hb⟩
  obtain ⟨hc, hf⟩ := bcell hb
  have hz := hb.size
  simp at hz
  replace h0 : Hid (Below w.heap.size w w2) := bcall (bal (bal h0.out _) _) hb
  clear hb
  go_wp2_with fail
  refine (c_b _).mono ?_
  rintro e w3 ⟨rfl, hb⟩
  obtain ⟨hc', hf'⟩ := bcell hb
  replace hc : ∀ b o, b < w1.heap.size + 1 + 1 → w3.cell? ⟨b, o, none⟩ = _ := fun b o hl => (hc' b o (by omega)).trans (hc b o (by simpa using hl))
  replace hf : ∀ b o, b < w1.heap.size + 1 + 1 → w3.frozen? ⟨b, o, none⟩ = _ := fun b o hl => (hf' b o (by omega)).trans (hf b o (by simpa using hl))
  have hz' := hb.size
  replace hz := Nat.le_trans hz hz'
  replace h0 : Hid (Below w.heap.size w w3) := bcall h0.out hb
  clear hb hc' hf' hz'
  go_wp2_with fail
  refine (solves_any _).mono ?_
  rintro e w4 ⟨rfl, hb⟩
  obtain ⟨hc', hf'⟩ := bcell hb
  replace hc : ∀ b o, b < w1.heap.size + 1 + 1 → w4.cell? ⟨b, o, none⟩ = _ := fun b o hl => (hc' b o (by omega)).trans (hc b o (by simpa using hl))
  replace hf : ∀ b o, b < w1.heap.size + 1 + 1 → w4.frozen? ⟨b, o, none⟩ = _ := fun b o hl => (hf' b o (by omega)).trans (hf b o (by simpa using hl))
  have hz' := hb.size
  replace hz := Nat.le_trans hz hz'
  replace h0 : Hid (Below w.heap.size w w4) := bcall h0.out hb
  clear hb hc' hf' hz'
  go_wp2
  go_ret
  exact ⟨rfl, h0.out⟩

set_option maxHeartbeats 4000000 in
theorem walk4 (a b : R8) (ho : overB a b = true) (k_a : calmB a = true) (k_b : calmB b = true) (k0 : a.ms = 0 ∨ b.ms = 0) (w : World) :
    Calls Try.prog 3 #[rowV a, rowV b] w fun e w' => e = .returned (.bool true) ∧ Below w.heap.size w w' := by
  have c1 := meet_any a b
  rw [ho] at c1
  have c_a : ∀ w, Calls Try.prog 8 #[rowV a] w fun e w' => e = .returned (.bool true) ∧ Below w.heap.size w w' := fun w => by
    have := calm_any a w
    rwa [k_a] at this
  have c_b : ∀ w, Calls Try.prog 8 #[rowV b] w fun e w' => e = .returned (.bool true) ∧ Below w.heap.size w w' := fun w => by
    have := calm_any b w
    rwa [k_b] at this
  clear ho k_a k_b
  generalize (met a b).1 = p at *
  generalize (met a b).2 = q at *
  obtain ⟨x, y, px, py, wd, ht, ms, rr⟩ := a
  obtain ⟨x', y', px', py', wd', ht', ms', rr'⟩ := b
  obtain ⟨X, Y, PX, PY, WD, HT, MS, RR⟩ := p
  obtain ⟨X', Y', PX', PY', WD', HT', MS', RR'⟩ := q
  have e0 : (ms == 0) = true ∨ ((ms == 0) = false ∧ (ms' == 0) = true) := by simp at k0 ⊢; omega
  clear k0
  unfold retV at *
  unfold rowV at *
  simp only at *
  rcases e0 with e0 | ⟨e0, e1⟩
  all_goals
    go_enter Try.func3, Try.ntmps3
    go_wp2_with fail
    refine (c1 _).mono ?_
    rintro e w1 ⟨rfl, hb⟩
    obtain ⟨hc1, hf1⟩ := bcell hb
    have hz1 := hb.size
    simp at hz1
    have n0 : w.heap.size < w1.heap.size := by omega
    have n1 : w.heap.size + 1 < w1.heap.size := by omega
    have n2 : w.heap.size < w1.heap.size + 1 := by omega
    have n3 : w.heap.size + 1 < w1.heap.size + 1 := by omega
    have n4 : w.heap.size < w1.heap.size + 1 + 1 := by omega
    have n5 : w.heap.size + 1 < w1.heap.size + 1 + 1 := by omega
    have h0 : Hid (Below w.heap.size w w1) := bcall (bal (bal (Below.refl _ _) _) _) hb
    clear hb
    go_wp2_with fail
    refine (c_a _).mono ?_
    rintro e w2 ⟨rfl, hb⟩
    obtain ⟨hc, hf⟩ := bcell hb
    have hz := hb.size
    simp at hz
    replace h0 : Hid (Below w.heap.size w w2) := bcall (bal (bal h0.out _) _) hb
    clear hb
    go_wp2_with fail
    refine (c_b _).mono ?_
    rintro e w3 ⟨rfl, hb⟩
    obtain ⟨hc', hf'⟩ := bcell hb
    replace hc : ∀ b o, b < w1.heap.size + 1 + 1 → w3.cell? ⟨b, o, none⟩ = _ := fun b o hl => (hc' b o (by omega)).trans (hc b o (by simpa using hl))
    replace hf : ∀ b o, b < w1.heap.size + 1 + 1 → w3.frozen? ⟨b, o, none⟩ = _ := fun b o hl => (hf' b o (by omega)).trans (hf b o (by simpa using hl))
    have hz' := hb.size
    replace hz := Nat.le_trans hz hz'
    replace h0 : Hid (Below w.heap.size w w3) := bcall h0.out hb
    clear hb hc' hf' hz'
    go_wp2_with fail
    refine (solves_any _).mono ?_
    rintro e w4 ⟨rfl, hb⟩
    obtain ⟨hc', hf'⟩ := bcell hb
    replace hc : ∀ b o, b < w1.heap.size + 1 + 1 → w4.cell? ⟨b, o, none⟩ = _ := fun b o hl => (hc' b o (by omega)).trans (hc b o (by simpa using hl))
    replace hf : ∀ b o, b < w1.heap.size + 1 + 1 → w4.frozen? ⟨b, o, none⟩ = _ := fun b o hl => (hf' b o (by omega)).trans (hf b o (by simpa using hl))
    have hz' := hb.size
    replace hz := Nat.le_trans hz hz'
    replace h0 : Hid (Below w.heap.size w w4) := bcall h0.out hb
    clear hb hc' hf' hz'
    go_wp2
    go_ret
    exact ⟨rfl, h0.out⟩

set_option maxHeartbeats 4000000 in
theorem walk5 (a b : R8) (ho : overB a b = true) (k_a : calmB a = true) (k_b : calmB b = true) (m0 : a.ms ≠ 0) (m1 : b.ms ≠ 0) (w : World) :
    Calls Try.prog 3 #[rowV a, rowV b] w fun e w' => e = .returned (.bool true) ∧ Below w.heap.size w w' := by
  have c1 := meet_any a b
  rw [ho] at c1
  obtain ⟨s1, s2⟩ := met_sums a b ho (calm_of k_a) (calm_of k_b) m0 m1
  obtain ⟨ga, gb, -, -⟩ := over_of ho
  obtain ⟨gp, gq⟩ := met_good a b ga gb
  obtain ⟨-, -, -, gpx, gpy, -, -, -, -⟩ := ga
  obtain ⟨-, -, -, gpx', gpy', -, -, -, -⟩ := gb
  obtain ⟨-, -, -, hpx, hpy, -, -, -, -⟩ := gp
  obtain ⟨-, -, -, hpx', hpy', -, -, -, -⟩ := gq
  have c_a : ∀ w, Calls Try.prog 8 #[rowV a] w fun e w' => e = .returned (.bool true) ∧ Below w.heap.size w w' := fun w => by
    have := calm_any a w
    rwa [k_a] at this
  have c_b : ∀ w, Calls Try.prog 8 #[rowV b] w fun e w' => e = .returned (.bool true) ∧ Below w.heap.size w w' := fun w => by
    have := calm_any b w
    rwa [k_b] at this
  clear ho k_a k_b
  generalize (met a b).1 = p at *
  generalize (met a b).2 = q at *
  obtain ⟨x, y, px, py, wd, ht, ms, rr⟩ := a
  obtain ⟨x', y', px', py', wd', ht', ms', rr'⟩ := b
  obtain ⟨X, Y, PX, PY, WD, HT, MS, RR⟩ := p
  obtain ⟨X', Y', PX', PY', WD', HT', MS', RR'⟩ := q
  simp only at *
  have e0 : (ms == 0) = false := by simp [m0]
  have e1 : (ms' == 0) = false := by simp [m1]
  have e2 : (PX + PX' == px + px') = true := by simp [s1]
  have e3 : (PY + PY' == py + py') = true := by simp [s2]
  clear m0 m1 s1 s2
  unfold retV at *
  unfold rowV at *
  go_enter Try.func3, Try.ntmps3
  go_wp2_with fail
  refine (c1 _).mono ?_
  rintro e w1 ⟨rfl, hb⟩
  obtain ⟨hc1, hf1⟩ := bcell hb
  have hz1 := hb.size
  simp at hz1
  have n0 : w.heap.size < w1.heap.size := by omega
  have n1 : w.heap.size + 1 < w1.heap.size := by omega
  have n2 : w.heap.size < w1.heap.size + 1 := by omega
  have n3 : w.heap.size + 1 < w1.heap.size + 1 := by omega
  have n4 : w.heap.size < w1.heap.size + 1 + 1 := by omega
  have n5 : w.heap.size + 1 < w1.heap.size + 1 + 1 := by omega
  have h0 : Hid (Below w.heap.size w w1) := bcall (bal (bal (Below.refl _ _) _) _) hb
  clear hb
  go_wp2_with fail
  refine (c_a _).mono ?_
  rintro e w2 ⟨rfl, hb⟩
  obtain ⟨hc, hf⟩ := bcell hb
  have hz := hb.size
  simp at hz
  replace h0 : Hid (Below w.heap.size w w2) := bcall (bal (bal h0.out _) _) hb
  clear hb
  go_wp2_with fail
  refine (c_b _).mono ?_
  rintro e w3 ⟨rfl, hb⟩
  obtain ⟨hc', hf'⟩ := bcell hb
  replace hc : ∀ b o, b < w1.heap.size + 1 + 1 → w3.cell? ⟨b, o, none⟩ = _ := fun b o hl => (hc' b o (by omega)).trans (hc b o (by simpa using hl))
  replace hf : ∀ b o, b < w1.heap.size + 1 + 1 → w3.frozen? ⟨b, o, none⟩ = _ := fun b o hl => (hf' b o (by omega)).trans (hf b o (by simpa using hl))
  have hz' := hb.size
  replace hz := Nat.le_trans hz hz'
  replace h0 : Hid (Below w.heap.size w w3) := bcall h0.out hb
  clear hb hc' hf' hz'
  go_wp2_with fail
  refine (solves_any _).mono ?_
  rintro e w4 ⟨rfl, hb⟩
  obtain ⟨hc', hf'⟩ := bcell hb
  replace hc : ∀ b o, b < w1.heap.size + 1 + 1 → w4.cell? ⟨b, o, none⟩ = _ := fun b o hl => (hc' b o (by omega)).trans (hc b o (by simpa using hl))
  replace hf : ∀ b o, b < w1.heap.size + 1 + 1 → w4.frozen? ⟨b, o, none⟩ = _ := fun b o hl => (hf' b o (by omega)).trans (hf b o (by simpa using hl))
  have hz' := hb.size
  replace hz := Nat.le_trans hz hz'
  replace h0 : Hid (Below w.heap.size w w4) := bcall h0.out hb
  clear hb hc' hf' hz'
  go_wp2
  go_ret
  exact ⟨rfl, h0.out⟩

theorem walk (a b : R8) (w : World) : Calls Try.prog 3 #[rowV a, rowV b] w fun e w' => e = .returned (.bool true) ∧ Below w.heap.size w w' := by
  cases ho : overB a b
  · exact walk1 a b ho w
  cases ka : calmB a
  · exact walk2 a b ho ka w
  cases kb : calmB b
  · exact walk3 a b ho ka kb w
  by_cases k0 : a.ms = 0 ∨ b.ms = 0
  · exact walk4 a b ho ka kb k0 w
  · exact walk5 a b ho ka kb (fun e => k0 (.inl e)) (fun e => k0 (.inr e)) w
theorem laidOut : laidOutB Try.prog = true := by kernel_rfl

set_option maxRecDepth 100000 in
theorem lifted (os : Os) (started : os.Started) (H : Type) (enc : TypeId × Value → H) :
    ReturnsInHanded {} Try.checked os 3 .any (Rows.solveSumsSpec.pre6 enc Try.prog Try.f3 Rows.solveSumsRow.domain false) (Rows.solveSumsSpec.post enc Try.prog Try.f3 false true false false) := by
  refine returnsInHanded_of_change (C := Try.checked) own started (by kernel_rfl) Try.func3
    (ChangeSpec.witness6 (enc := enc) (C := Try.checked) false ⟨#[], #[.agg #[.int .i64 0, .int .i64 0, .int .i64 0, .int .i64 0, .int .i64 0, .int .i64 0, .int .i64 0, .int .i64 0], .agg #[.int .i64 0, .int .i64 0, .int .i64 0, .int .i64 0, .int .i64 0, .int .i64 0, .int .i64 0, .int .i64 0]], []⟩ 8 (by kernel_rfl) (by kernel_rfl) (by kernel_rfl) (by kernel_rfl)) ?_
  intro W base args ds gs before hval0 hW _ _
  have hval : ∀ (j : Nat) t v, Try.f3.params[j]? = some t → args[j]? = some v → Value.okWide Try.prog W .any base t v := hval0
  have hW' := hW
  obtain ⟨p, q, hA0, hV, rfl, _, _⟩ := hW
  have hA : DataW.TrodAll enc Try.prog W 0 (fun _ => true) true Try.f3.params.toList args.toList ds p := hA0
  rw [Try.params3] at hA hval
  obtain ⟨v0, vs0, d0, ds0, p0, q0, hargs, rfl, rfl, h0, r0⟩ := trodAll_cons hA
  obtain ⟨v1, vs1, d1, ds1, p1, q1, rfl, rfl, rfl, h1, r1⟩ := trodAll_cons r0
  obtain ⟨rfl, rfl, rfl⟩ := trodAll_nil r1
  obtain rfl : args = #[v0, v1] := by cases args; simp_all
  obtain ⟨rfl, rfl⟩ := trodVars_none hV
  have hlt : ∀ x ∈ p0 ++ (p1 ++ []), x.block < W.heap.size := fun x hx => by simpa using hW'.lt x (by simpa using hx)
  have hk0 : ∀ (W' : World), Below W.heap.size W W' → DataW.Trod enc Try.prog W' 0 (fun b => decide (b < W.heap.size)) true 23 v0 d0 p0 :=
    fun W' hn => Below.trod laidOut (by kernel_rfl) (of_decide_eq_true (by kernel_rfl)) h0 hn (fun x hx => hlt x (List.mem_append.2 (Or.inl hx)))
  have hk1 : ∀ (W' : World), Below W.heap.size W W' → DataW.Trod enc Try.prog W' 0 (fun b => decide (b < W.heap.size)) true 23 v1 d1 p1 :=
    fun W' hn => Below.trod laidOut (by kernel_rfl) (of_decide_eq_true (by kernel_rfl)) h1 hn (fun x hx => hlt x (List.mem_append.2 (Or.inr (List.mem_append.2 (Or.inl hx)))))
  obtain ⟨a, rfl⟩ := open_row (hval 0 23 v0 rfl rfl) h0
  obtain ⟨b, rfl⟩ := open_row (hval 1 23 v1 rfl rfl) h1
  simp only [List.append_nil] at hW'
  refine (walk a b W).mono fun e W' ⟨he, hb⟩ => ?_
  subst he
  refine ⟨_, rfl, _, _, _, [], p0 ++ (p1 ++ []), [], hW', ?_, ?_, rfl, hb.frame _, fun h => by cases h⟩
  · exact trodAll_cons_mk (shut_bool Try.underlying4 _) trodAll_mk0
  · exact trodAll_cons_mk (hk0 _ hb) (trodAll_cons_mk (hk1 _ hb) trodAll_mk0)

theorem over : Rows.solveSumsRow.holds Try.pinned (OpenSpec.ofChange Rows.solveSumsSpec) :=
  OpenClaim.holds_of_wide 3 Try.f3 rfl rfl rfl rfl rfl rfl rfl ⟨rfl, rfl, rfl, rfl, rfl⟩ rfl rfl rfl rfl rfl (by kernel_rfl) Try.func3 (by kernel_rfl)
    (of_decide_eq_true (by kernel_rfl)) (by unfold Func.isWrapper; first | (rw [if_pos (by decide +kernel)]; kernel_rfl) | (rw [if_neg (by decide +kernel)]; exact ⟨rfl, rfl⟩))
    (fun os started H enc _ => lifted os started H enc)

theorem proved : Rows.SolveSumsSaid :=
  over
#print axioms proved
end Go.Proofs.Ytckkkdldljhehab.solveSums
namespace Go.Proofs.Ytckkkdldljhehab
theorem solveSums_holds : Rows.SolveSumsSaid := solveSums.proved
end Go.Proofs.Ytckkkdldljhehab
