/- Proved: for every two rows, SolveTells returns true, and its arguments read as before. No conditions. -/
import Derived.Test.YtckkkdldljhehaaRbJ
import Derived.Test.YtckkkdldljhehaaSoI
import Derived.Test.YtckkkdldljhehaaSoJ
import Derived.Deep.RegionHeld3
import Derived.WalkKit
import Derived.ProofKit
import Derived.OpenShut
import Derived.SizedLaws
namespace Go.Proofs.Ytckkkdldljhehaa.solveTells
open Go.ChangeShapes Go.WideShapes Go.ChangeAt Go.RowKit
open Num

theorem own : ownKnob Try.prog.godebug = none := by kernel_rfl

theorem drew2 {W : World} {N : Nat} {a b : R8} (h : Two W N a b) : Two W.drew N a b := ⟨h.a, h.b⟩
theorem neqOf {n : Nat} {P : Program} {w : World} {t : TypeId} {xs ys : Array Value} (h : n = 10000) {v : Bool} (e : (Op.equalIn n t (.agg xs) (.agg ys)).run P w = .ok v w) :
    (binOp .neq t (.agg xs) (.agg ys)).run P w = .ok (.bool (!v)) w := by
  subst h
  rw [run_neq_struct, e]
  rfl
theorem neqRow (r s : R8) (w : World) : (binOp .neq 30 (rowV r) (rowV s)).run Try.prog w = .ok (.bool (!(eqR r s))) w :=
  neqOf (n := 9998 + 2) rfl (eqRow_n 9998 _ _ _ _ _ _ _ _ _ _ _ _ _ _ _ _ w)

set_option maxRecDepth 4000 in
set_option maxHeartbeats 4000000 in
theorem walk1 (a b : R8) (ka : goodB a = false) (w : World) :
    Calls Try.prog 13 #[rowV a, rowV b] w fun e w' => e = .returned (.bool true) ∧ Below w.heap.size w w' := by
  have c1 := Speed_any a
  have c2 := speedOf_any a
  have c3 := meet_any a b
  have c4 := meetRows_any a b
  have c5 := good_no a ka
  have c6 := body_no a ka
  have e1 : ∀ w, (binOp .neq 30 (rowV (met a b).1) (rowV (met a b).1)).run Try.prog w = .ok (.bool false) w := fun w => by rw [neqRow, eqR_self]; rfl
  have e2 : ∀ w, (binOp .neq 30 (rowV (met a b).2) (rowV (met a b).2)).run Try.prog w = .ok (.bool false) w := fun w => by rw [neqRow, eqR_self]; rfl
  clear ka
  generalize overB a b = ok at *
  generalize (met a b).1 = p at *
  generalize (met a b).2 = q at *
  obtain ⟨x, y, px, py, wd, ht, ms, rr⟩ := a
  obtain ⟨x', y', px', py', wd', ht', ms', rr'⟩ := b
  obtain ⟨X, Y, PX, PY, WD, HT, MS, RR⟩ := p
  obtain ⟨X', Y', PX', PY', WD', HT', MS', RR'⟩ := q
  simp only at *
  generalize spd px ms = v1 at *
  generalize spd py ms = v2 at *
  have eo : (ok != ok) = false := by simp
  unfold retV at *
  unfold rowV at *
  go_enter Try.func13, Try.ntmps13
  go_wp2_with fail
  refine (c1 _).mono ?_
  rintro e w1 ⟨rfl, hb⟩
  have ha : Hid (Two w1 w.heap.size ⟨x, y, px, py, wd, ht, ms, rr⟩ ⟨x', y', px', py', wd', ht', ms', rr'⟩) := (Two.made w ⟨x, y, px, py, wd, ht, ms, rr⟩ ⟨x', y', px', py', wd', ht', ms', rr'⟩).below hb
  have h0 : Hid (Below w.heap.size w w1) := bcall (bal (bal (Below.refl _ _) _) _) hb
  have hz := hb.size
  simp at hz
  clear hb
  obtain ⟨a0, a1, a2, a3, a4, a5, a6, a7, b0, b1, b2, b3, b4, b5, b6, b7⟩ := ha.out.cells
  go_wp2_with fail
  refine (c2 _).mono ?_
  rintro e w2 ⟨rfl, hb⟩
  clear a0 a1 a2 a3 a4 a5 a6 a7 b0 b1 b2 b3 b4 b5 b6 b7
  replace ha : Hid (Two w2 w.heap.size ⟨x, y, px, py, wd, ht, ms, rr⟩ ⟨x', y', px', py', wd', ht', ms', rr'⟩) := ha.out.below hb
  replace h0 : Hid (Below w.heap.size w w2) := bcall h0.out hb
  replace hz := Nat.le_trans hz hb.size
  clear hb
  obtain ⟨a0, a1, a2, a3, a4, a5, a6, a7, b0, b1, b2, b3, b4, b5, b6, b7⟩ := ha.out.cells
  go_wp2_with fail
  refine (c3 _).mono ?_
  rintro e w3 ⟨rfl, hb⟩
  clear a0 a1 a2 a3 a4 a5 a6 a7 b0 b1 b2 b3 b4 b5 b6 b7
  replace ha : Hid (Two w3 w.heap.size ⟨x, y, px, py, wd, ht, ms, rr⟩ ⟨x', y', px', py', wd', ht', ms', rr'⟩) := ha.out.below hb
  replace h0 : Hid (Below w.heap.size w w3) := bcall h0.out hb
  replace hz := Nat.le_trans hz hb.size
  clear hb
  obtain ⟨a0, a1, a2, a3, a4, a5, a6, a7, b0, b1, b2, b3, b4, b5, b6, b7⟩ := ha.out.cells
  have n0 : w.heap.size < w3.heap.size := by omega
  have n1 : w.heap.size + 1 < w3.heap.size := by omega
  have n2 : w.heap.size < w3.heap.size + 1 := by omega
  have n3 : w.heap.size + 1 < w3.heap.size + 1 := by omega
  go_wp2_with fail
  refine (c4 _).mono ?_
  rintro e w4 ⟨rfl, hb⟩
  clear a0 a1 a2 a3 a4 a5 a6 a7 b0 b1 b2 b3 b4 b5 b6 b7
  replace ha : Hid (Two w4 w.heap.size ⟨x, y, px, py, wd, ht, ms, rr⟩ ⟨x', y', px', py', wd', ht', ms', rr'⟩) := ((ha.out.alloc _).alloc _).below hb
  have hp : Hid (Two w4 w3.heap.size ⟨X, Y, PX, PY, WD, HT, MS, RR⟩ ⟨X', Y', PX', PY', WD', HT', MS', RR'⟩) := (Two.made w3 ⟨X, Y, PX, PY, WD, HT, MS, RR⟩ ⟨X', Y', PX', PY', WD', HT', MS', RR'⟩).below hb
  replace h0 : Hid (Below w.heap.size w w4) := bcall (bal (bal h0.out _) _) hb
  clear hb
  go_wp2_with fail
  obtain ⟨a0, a1, a2, a3, a4, a5, a6, a7, b0, b1, b2, b3, b4, b5, b6, b7⟩ := (drew2 ((ha.out.alloc (rc ⟨X, Y, PX, PY, WD, HT, MS, RR⟩)).alloc (rc ⟨X', Y', PX', PY', WD', HT', MS', RR'⟩))).cells
  obtain ⟨p0, p1, p2, p3, p4, p5, p6, p7, q0, q1, q2, q3, q4, q5, q6, q7⟩ := (drew2 ((hp.out.alloc (rc ⟨X, Y, PX, PY, WD, HT, MS, RR⟩)).alloc (rc ⟨X', Y', PX', PY', WD', HT', MS', RR'⟩))).cells
  obtain ⟨s0, s1, s2, s3, s4, s5, s6, s7, t0, t1, t2, t3, t4, t5, t6, t7⟩ := (drew2 (Two.made w4 ⟨X, Y, PX, PY, WD, HT, MS, RR⟩ ⟨X', Y', PX', PY', WD', HT', MS', RR'⟩)).cells
  go_region_held3 (fun W => W.cell? ⟨w.heap.size, 0, none⟩ = some (.int .i64 x) ∧ W.cell? ⟨w.heap.size, 1, none⟩ = some (.int .i64 y) ∧ W.cell? ⟨w.heap.size, 2, none⟩ = some (.int .i64 px) ∧ W.cell? ⟨w.heap.size, 3, none⟩ = some (.int .i64 py) ∧ W.cell? ⟨w.heap.size, 4, none⟩ = some (.int .i64 wd) ∧ W.cell? ⟨w.heap.size, 5, none⟩ = some (.int .i64 ht) ∧ W.cell? ⟨w.heap.size, 6, none⟩ = some (.int .i64 ms) ∧ W.cell? ⟨w.heap.size, 7, none⟩ = some (.int .i64 rr) ∧ W.cell? ⟨w3.heap.size, 0, none⟩ = some (.int .i64 X) ∧ W.cell? ⟨w3.heap.size, 1, none⟩ = some (.int .i64 Y) ∧ W.cell? ⟨w3.heap.size, 2, none⟩ = some (.int .i64 PX) ∧ W.cell? ⟨w3.heap.size, 3, none⟩ = some (.int .i64 PY) ∧ W.cell? ⟨w3.heap.size, 4, none⟩ = some (.int .i64 WD) ∧ W.cell? ⟨w3.heap.size, 5, none⟩ = some (.int .i64 HT) ∧ W.cell? ⟨w3.heap.size, 6, none⟩ = some (.int .i64 MS) ∧ W.cell? ⟨w3.heap.size, 7, none⟩ = some (.int .i64 RR) ∧ W.cell? ⟨w3.heap.size + 1, 0, none⟩ = some (.int .i64 X') ∧ W.cell? ⟨w3.heap.size + 1, 1, none⟩ = some (.int .i64 Y') ∧ W.cell? ⟨w3.heap.size + 1, 2, none⟩ = some (.int .i64 PX') ∧ W.cell? ⟨w3.heap.size + 1, 3, none⟩ = some (.int .i64 PY') ∧ W.cell? ⟨w3.heap.size + 1, 4, none⟩ = some (.int .i64 WD') ∧ W.cell? ⟨w3.heap.size + 1, 5, none⟩ = some (.int .i64 HT') ∧ W.cell? ⟨w3.heap.size + 1, 6, none⟩ = some (.int .i64 MS') ∧ W.cell? ⟨w3.heap.size + 1, 7, none⟩ = some (.int .i64 RR') ∧ W.cell? ⟨w4.heap.size, 0, none⟩ = some (.int .i64 X) ∧ W.cell? ⟨w4.heap.size, 1, none⟩ = some (.int .i64 Y) ∧ W.cell? ⟨w4.heap.size, 2, none⟩ = some (.int .i64 PX) ∧ W.cell? ⟨w4.heap.size, 3, none⟩ = some (.int .i64 PY) ∧ W.cell? ⟨w4.heap.size, 4, none⟩ = some (.int .i64 WD) ∧ W.cell? ⟨w4.heap.size, 5, none⟩ = some (.int .i64 HT) ∧ W.cell? ⟨w4.heap.size, 6, none⟩ = some (.int .i64 MS) ∧ W.cell? ⟨w4.heap.size, 7, none⟩ = some (.int .i64 RR) ∧ W.cell? ⟨w4.heap.size + 1, 0, none⟩ = some (.int .i64 X') ∧ W.cell? ⟨w4.heap.size + 1, 1, none⟩ = some (.int .i64 Y') ∧ W.cell? ⟨w4.heap.size + 1, 2, none⟩ = some (.int .i64 PX') ∧ W.cell? ⟨w4.heap.size + 1, 3, none⟩ = some (.int .i64 PY') ∧ W.cell? ⟨w4.heap.size + 1, 4, none⟩ = some (.int .i64 WD') ∧ W.cell? ⟨w4.heap.size + 1, 5, none⟩ = some (.int .i64 HT') ∧ W.cell? ⟨w4.heap.size + 1, 6, none⟩ = some (.int .i64 MS') ∧ W.cell? ⟨w4.heap.size + 1, 7, none⟩ = some (.int .i64 RR')) (exact ⟨a0, a1, a2, a3, a4, a5, a6, a7, p0, p1, p2, p3, p4, p5, p6, p7, q0, q1, q2, q3, q4, q5, q6, q7, s0, s1, s2, s3, s4, s5, s6, s7, t0, t1, t2, t3, t4, t5, t6, t7⟩) (first | (go_at_call 61; refine (c5 _).mono ?_; rintro e w5 ⟨rfl, hb⟩; have ha5 : Hid (Two w5 w.heap.size ⟨x, y, px, py, wd, ht, ms, rr⟩ ⟨x', y', px', py', wd', ht', ms', rr'⟩) := (drew2 ((ha.out.alloc _).alloc _)).below hb; have hp5 : Hid (Two w5 w3.heap.size ⟨X, Y, PX, PY, WD, HT, MS, RR⟩ ⟨X', Y', PX', PY', WD', HT', MS', RR'⟩) := (drew2 ((hp.out.alloc _).alloc _)).below hb; have hs5 : Hid (Two w5 w4.heap.size ⟨X, Y, PX, PY, WD, HT, MS, RR⟩ ⟨X', Y', PX', PY', WD', HT', MS', RR'⟩) := (drew2 (Two.made w4 ⟨X, Y, PX, PY, WD, HT, MS, RR⟩ ⟨X', Y', PX', PY', WD', HT', MS', RR'⟩)).below hb; have h5 : Hid (Below w.heap.size w w5) := bcall (Below.drew (bal (bal h0.out _) _)) hb; clear hb; obtain ⟨a0, a1, a2, a3, a4, a5, a6, a7, b0, b1, b2, b3, b4, b5, b6, b7⟩ := ha5.out.cells; obtain ⟨p0, p1, p2, p3, p4, p5, p6, p7, q0, q1, q2, q3, q4, q5, q6, q7⟩ := hp5.out.cells; obtain ⟨s0, s1, s2, s3, s4, s5, s6, s7, t0, t1, t2, t3, t4, t5, t6, t7⟩ := hs5.out.cells) | (go_at_call 62; refine (c6 _).mono ?_; rintro e w6 ⟨rfl, hb⟩; have ha6 : Hid (Two w6 w.heap.size ⟨x, y, px, py, wd, ht, ms, rr⟩ ⟨x', y', px', py', wd', ht', ms', rr'⟩) := ha5.out.below hb; have hp6 : Hid (Two w6 w3.heap.size ⟨X, Y, PX, PY, WD, HT, MS, RR⟩ ⟨X', Y', PX', PY', WD', HT', MS', RR'⟩) := hp5.out.below hb; have hs6 : Hid (Two w6 w4.heap.size ⟨X, Y, PX, PY, WD, HT, MS, RR⟩ ⟨X', Y', PX', PY', WD', HT', MS', RR'⟩) := hs5.out.below hb; have h6 : Hid (Below w.heap.size w w6) := bcall h5.out hb; clear hb; obtain ⟨a0, a1, a2, a3, a4, a5, a6, a7, b0, b1, b2, b3, b4, b5, b6, b7⟩ := ha6.out.cells; obtain ⟨p0, p1, p2, p3, p4, p5, p6, p7, q0, q1, q2, q3, q4, q5, q6, q7⟩ := hp6.out.cells; obtain ⟨s0, s1, s2, s3, s4, s5, s6, s7, t0, t1, t2, t3, t4, t5, t6, t7⟩ := hs6.out.cells))
  go_wp2_with fail
  clear p0 p1 p2 p3 p4 p5 p6 p7 q0 q1 q2 q3 q4 q5 q6 q7 s0 s1 s2 s3 s4 s5 s6 s7 t0 t1 t2 t3 t4 t5 t6 t7
  refine (c6 _).mono ?_
  rintro e w7 ⟨rfl, hb⟩
  clear a0 a1 a2 a3 a4 a5 a6 a7 b0 b1 b2 b3 b4 b5 b6 b7
  have ha7 : Hid (Two w7 w.heap.size ⟨x, y, px, py, wd, ht, ms, rr⟩ ⟨x', y', px', py', wd', ht', ms', rr'⟩) := ha6.out.below hb
  have h7 : Hid (Below w.heap.size w w7) := bcall h6.out hb
  clear hb
  obtain ⟨a0, a1, a2, a3, a4, a5, a6, a7, b0, b1, b2, b3, b4, b5, b6, b7⟩ := ha7.out.cells
  go_wp2_with fail
  refine (solves_any _).mono ?_
  rintro e w8 ⟨rfl, hb⟩
  clear a0 a1 a2 a3 a4 a5 a6 a7 b0 b1 b2 b3 b4 b5 b6 b7
  have ha8 : Hid (Two w8 w.heap.size ⟨x, y, px, py, wd, ht, ms, rr⟩ ⟨x', y', px', py', wd', ht', ms', rr'⟩) := ha7.out.below hb
  have h8 : Hid (Below w.heap.size w w8) := bcall h7.out hb
  clear hb
  obtain ⟨a0, a1, a2, a3, a4, a5, a6, a7, b0, b1, b2, b3, b4, b5, b6, b7⟩ := ha8.out.cells
  go_wp2
  go_ret
  exact ⟨rfl, h8.out⟩

set_option maxRecDepth 4000 in
set_option maxHeartbeats 4000000 in
theorem walk2 (a b : R8) (ka : goodB a = true) (kb : goodB b = false) (w : World) :
    Calls Try.prog 13 #[rowV a, rowV b] w fun e w' => e = .returned (.bool true) ∧ Below w.heap.size w w' := by
  have c1 := Speed_any a
  have c2 := speedOf_any a
  have c3 := meet_any a b
  have c4 := meetRows_any a b
  have c5 := good_yes a ka
  have c6 := body_yes a ka
  have c7 := body_no b kb
  have e1 : ∀ w, (binOp .neq 30 (rowV (met a b).1) (rowV (met a b).1)).run Try.prog w = .ok (.bool false) w := fun w => by rw [neqRow, eqR_self]; rfl
  have e2 : ∀ w, (binOp .neq 30 (rowV (met a b).2) (rowV (met a b).2)).run Try.prog w = .ok (.bool false) w := fun w => by rw [neqRow, eqR_self]; rfl
  clear ka kb
  generalize overB a b = ok at *
  generalize (met a b).1 = p at *
  generalize (met a b).2 = q at *
  obtain ⟨x, y, px, py, wd, ht, ms, rr⟩ := a
  obtain ⟨x', y', px', py', wd', ht', ms', rr'⟩ := b
  obtain ⟨X, Y, PX, PY, WD, HT, MS, RR⟩ := p
  obtain ⟨X', Y', PX', PY', WD', HT', MS', RR'⟩ := q
  simp only at *
  generalize spd px ms = v1 at *
  generalize spd py ms = v2 at *
  have eo : (ok != ok) = false := by simp
  unfold retV at *
  unfold rowV at *
  go_enter Try.func13, Try.ntmps13
  go_wp2_with fail
  refine (c1 _).mono ?_
  rintro e w1 ⟨rfl, hb⟩
  have ha : Hid (Two w1 w.heap.size ⟨x, y, px, py, wd, ht, ms, rr⟩ ⟨x', y', px', py', wd', ht', ms', rr'⟩) := (Two.made w ⟨x, y, px, py, wd, ht, ms, rr⟩ ⟨x', y', px', py', wd', ht', ms', rr'⟩).below hb
  have h0 : Hid (Below w.heap.size w w1) := bcall (bal (bal (Below.refl _ _) _) _) hb
  have hz := hb.size
  simp at hz
  clear hb
  obtain ⟨a0, a1, a2, a3, a4, a5, a6, a7, b0, b1, b2, b3, b4, b5, b6, b7⟩ := ha.out.cells
  go_wp2_with fail
  refine (c2 _).mono ?_
  rintro e w2 ⟨rfl, hb⟩
  clear a0 a1 a2 a3 a4 a5 a6 a7 b0 b1 b2 b3 b4 b5 b6 b7
  replace ha : Hid (Two w2 w.heap.size ⟨x, y, px, py, wd, ht, ms, rr⟩ ⟨x', y', px', py', wd', ht', ms', rr'⟩) := ha.out.below hb
  replace h0 : Hid (Below w.heap.size w w2) := bcall h0.out hb
  replace hz := Nat.le_trans hz hb.size
  clear hb
  obtain ⟨a0, a1, a2, a3, a4, a5, a6, a7, b0, b1, b2, b3, b4, b5, b6, b7⟩ := ha.out.cells
  go_wp2_with fail
  refine (c3 _).mono ?_
  rintro e w3 ⟨rfl, hb⟩
  clear a0 a1 a2 a3 a4 a5 a6 a7 b0 b1 b2 b3 b4 b5 b6 b7
  replace ha : Hid (Two w3 w.heap.size ⟨x, y, px, py, wd, ht, ms, rr⟩ ⟨x', y', px', py', wd', ht', ms', rr'⟩) := ha.out.below hb
  replace h0 : Hid (Below w.heap.size w w3) := bcall h0.out hb
  replace hz := Nat.le_trans hz hb.size
  clear hb
  obtain ⟨a0, a1, a2, a3, a4, a5, a6, a7, b0, b1, b2, b3, b4, b5, b6, b7⟩ := ha.out.cells
  have n0 : w.heap.size < w3.heap.size := by omega
  have n1 : w.heap.size + 1 < w3.heap.size := by omega
  have n2 : w.heap.size < w3.heap.size + 1 := by omega
  have n3 : w.heap.size + 1 < w3.heap.size + 1 := by omega
  go_wp2_with fail
  refine (c4 _).mono ?_
  rintro e w4 ⟨rfl, hb⟩
  clear a0 a1 a2 a3 a4 a5 a6 a7 b0 b1 b2 b3 b4 b5 b6 b7
  replace ha : Hid (Two w4 w.heap.size ⟨x, y, px, py, wd, ht, ms, rr⟩ ⟨x', y', px', py', wd', ht', ms', rr'⟩) := ((ha.out.alloc _).alloc _).below hb
  have hp : Hid (Two w4 w3.heap.size ⟨X, Y, PX, PY, WD, HT, MS, RR⟩ ⟨X', Y', PX', PY', WD', HT', MS', RR'⟩) := (Two.made w3 ⟨X, Y, PX, PY, WD, HT, MS, RR⟩ ⟨X', Y', PX', PY', WD', HT', MS', RR'⟩).below hb
  replace h0 : Hid (Below w.heap.size w w4) := bcall (bal (bal h0.out _) _) hb
  clear hb
  go_wp2_with fail
  obtain ⟨a0, a1, a2, a3, a4, a5, a6, a7, b0, b1, b2, b3, b4, b5, b6, b7⟩ := (drew2 ((ha.out.alloc (rc ⟨X, Y, PX, PY, WD, HT, MS, RR⟩)).alloc (rc ⟨X', Y', PX', PY', WD', HT', MS', RR'⟩))).cells
  obtain ⟨p0, p1, p2, p3, p4, p5, p6, p7, q0, q1, q2, q3, q4, q5, q6, q7⟩ := (drew2 ((hp.out.alloc (rc ⟨X, Y, PX, PY, WD, HT, MS, RR⟩)).alloc (rc ⟨X', Y', PX', PY', WD', HT', MS', RR'⟩))).cells
  obtain ⟨s0, s1, s2, s3, s4, s5, s6, s7, t0, t1, t2, t3, t4, t5, t6, t7⟩ := (drew2 (Two.made w4 ⟨X, Y, PX, PY, WD, HT, MS, RR⟩ ⟨X', Y', PX', PY', WD', HT', MS', RR'⟩)).cells
  go_region_held3 (fun W => W.cell? ⟨w.heap.size, 0, none⟩ = some (.int .i64 x) ∧ W.cell? ⟨w.heap.size, 1, none⟩ = some (.int .i64 y) ∧ W.cell? ⟨w.heap.size, 2, none⟩ = some (.int .i64 px) ∧ W.cell? ⟨w.heap.size, 3, none⟩ = some (.int .i64 py) ∧ W.cell? ⟨w.heap.size, 4, none⟩ = some (.int .i64 wd) ∧ W.cell? ⟨w.heap.size, 5, none⟩ = some (.int .i64 ht) ∧ W.cell? ⟨w.heap.size, 6, none⟩ = some (.int .i64 ms) ∧ W.cell? ⟨w.heap.size, 7, none⟩ = some (.int .i64 rr) ∧ W.cell? ⟨w3.heap.size, 0, none⟩ = some (.int .i64 X) ∧ W.cell? ⟨w3.heap.size, 1, none⟩ = some (.int .i64 Y) ∧ W.cell? ⟨w3.heap.size, 2, none⟩ = some (.int .i64 PX) ∧ W.cell? ⟨w3.heap.size, 3, none⟩ = some (.int .i64 PY) ∧ W.cell? ⟨w3.heap.size, 4, none⟩ = some (.int .i64 WD) ∧ W.cell? ⟨w3.heap.size, 5, none⟩ = some (.int .i64 HT) ∧ W.cell? ⟨w3.heap.size, 6, none⟩ = some (.int .i64 MS) ∧ W.cell? ⟨w3.heap.size, 7, none⟩ = some (.int .i64 RR) ∧ W.cell? ⟨w3.heap.size + 1, 0, none⟩ = some (.int .i64 X') ∧ W.cell? ⟨w3.heap.size + 1, 1, none⟩ = some (.int .i64 Y') ∧ W.cell? ⟨w3.heap.size + 1, 2, none⟩ = some (.int .i64 PX') ∧ W.cell? ⟨w3.heap.size + 1, 3, none⟩ = some (.int .i64 PY') ∧ W.cell? ⟨w3.heap.size + 1, 4, none⟩ = some (.int .i64 WD') ∧ W.cell? ⟨w3.heap.size + 1, 5, none⟩ = some (.int .i64 HT') ∧ W.cell? ⟨w3.heap.size + 1, 6, none⟩ = some (.int .i64 MS') ∧ W.cell? ⟨w3.heap.size + 1, 7, none⟩ = some (.int .i64 RR') ∧ W.cell? ⟨w4.heap.size, 0, none⟩ = some (.int .i64 X) ∧ W.cell? ⟨w4.heap.size, 1, none⟩ = some (.int .i64 Y) ∧ W.cell? ⟨w4.heap.size, 2, none⟩ = some (.int .i64 PX) ∧ W.cell? ⟨w4.heap.size, 3, none⟩ = some (.int .i64 PY) ∧ W.cell? ⟨w4.heap.size, 4, none⟩ = some (.int .i64 WD) ∧ W.cell? ⟨w4.heap.size, 5, none⟩ = some (.int .i64 HT) ∧ W.cell? ⟨w4.heap.size, 6, none⟩ = some (.int .i64 MS) ∧ W.cell? ⟨w4.heap.size, 7, none⟩ = some (.int .i64 RR) ∧ W.cell? ⟨w4.heap.size + 1, 0, none⟩ = some (.int .i64 X') ∧ W.cell? ⟨w4.heap.size + 1, 1, none⟩ = some (.int .i64 Y') ∧ W.cell? ⟨w4.heap.size + 1, 2, none⟩ = some (.int .i64 PX') ∧ W.cell? ⟨w4.heap.size + 1, 3, none⟩ = some (.int .i64 PY') ∧ W.cell? ⟨w4.heap.size + 1, 4, none⟩ = some (.int .i64 WD') ∧ W.cell? ⟨w4.heap.size + 1, 5, none⟩ = some (.int .i64 HT') ∧ W.cell? ⟨w4.heap.size + 1, 6, none⟩ = some (.int .i64 MS') ∧ W.cell? ⟨w4.heap.size + 1, 7, none⟩ = some (.int .i64 RR')) (exact ⟨a0, a1, a2, a3, a4, a5, a6, a7, p0, p1, p2, p3, p4, p5, p6, p7, q0, q1, q2, q3, q4, q5, q6, q7, s0, s1, s2, s3, s4, s5, s6, s7, t0, t1, t2, t3, t4, t5, t6, t7⟩) (first | (go_at_call 61; refine (c5 _).mono ?_; rintro e w5 ⟨rfl, hb⟩; have ha5 : Hid (Two w5 w.heap.size ⟨x, y, px, py, wd, ht, ms, rr⟩ ⟨x', y', px', py', wd', ht', ms', rr'⟩) := (drew2 ((ha.out.alloc _).alloc _)).below hb; have hp5 : Hid (Two w5 w3.heap.size ⟨X, Y, PX, PY, WD, HT, MS, RR⟩ ⟨X', Y', PX', PY', WD', HT', MS', RR'⟩) := (drew2 ((hp.out.alloc _).alloc _)).below hb; have hs5 : Hid (Two w5 w4.heap.size ⟨X, Y, PX, PY, WD, HT, MS, RR⟩ ⟨X', Y', PX', PY', WD', HT', MS', RR'⟩) := (drew2 (Two.made w4 ⟨X, Y, PX, PY, WD, HT, MS, RR⟩ ⟨X', Y', PX', PY', WD', HT', MS', RR'⟩)).below hb; have h5 : Hid (Below w.heap.size w w5) := bcall (Below.drew (bal (bal h0.out _) _)) hb; clear hb; obtain ⟨a0, a1, a2, a3, a4, a5, a6, a7, b0, b1, b2, b3, b4, b5, b6, b7⟩ := ha5.out.cells; obtain ⟨p0, p1, p2, p3, p4, p5, p6, p7, q0, q1, q2, q3, q4, q5, q6, q7⟩ := hp5.out.cells; obtain ⟨s0, s1, s2, s3, s4, s5, s6, s7, t0, t1, t2, t3, t4, t5, t6, t7⟩ := hs5.out.cells) | (go_at_call 62; refine (c6 _).mono ?_; rintro e w6 ⟨rfl, hb⟩; have ha6 : Hid (Two w6 w.heap.size ⟨x, y, px, py, wd, ht, ms, rr⟩ ⟨x', y', px', py', wd', ht', ms', rr'⟩) := ha5.out.below hb; have hp6 : Hid (Two w6 w3.heap.size ⟨X, Y, PX, PY, WD, HT, MS, RR⟩ ⟨X', Y', PX', PY', WD', HT', MS', RR'⟩) := hp5.out.below hb; have hs6 : Hid (Two w6 w4.heap.size ⟨X, Y, PX, PY, WD, HT, MS, RR⟩ ⟨X', Y', PX', PY', WD', HT', MS', RR'⟩) := hs5.out.below hb; have h6 : Hid (Below w.heap.size w w6) := bcall h5.out hb; clear hb; obtain ⟨a0, a1, a2, a3, a4, a5, a6, a7, b0, b1, b2, b3, b4, b5, b6, b7⟩ := ha6.out.cells; obtain ⟨p0, p1, p2, p3, p4, p5, p6, p7, q0, q1, q2, q3, q4, q5, q6, q7⟩ := hp6.out.cells; obtain ⟨s0, s1, s2, s3, s4, s5, s6, s7, t0, t1, t2, t3, t4, t5, t6, t7⟩ := hs6.out.cells))
  go_wp2_with fail
  clear p0 p1 p2 p3 p4 p5 p6 p7 q0 q1 q2 q3 q4 q5 q6 q7 s0 s1 s2 s3 s4 s5 s6 s7 t0 t1 t2 t3 t4 t5 t6 t7
  refine (c6 _).mono ?_
  rintro e w7 ⟨rfl, hb⟩
  clear a0 a1 a2 a3 a4 a5 a6 a7 b0 b1 b2 b3 b4 b5 b6 b7
  have ha7 : Hid (Two w7 w.heap.size ⟨x, y, px, py, wd, ht, ms, rr⟩ ⟨x', y', px', py', wd', ht', ms', rr'⟩) := ha6.out.below hb
  have h7 : Hid (Below w.heap.size w w7) := bcall h6.out hb
  clear hb
  obtain ⟨a0, a1, a2, a3, a4, a5, a6, a7, b0, b1, b2, b3, b4, b5, b6, b7⟩ := ha7.out.cells
  go_wp2_with fail
  refine (c7 _).mono ?_
  rintro e w8 ⟨rfl, hb⟩
  clear a0 a1 a2 a3 a4 a5 a6 a7 b0 b1 b2 b3 b4 b5 b6 b7
  have ha8 : Hid (Two w8 w.heap.size ⟨x, y, px, py, wd, ht, ms, rr⟩ ⟨x', y', px', py', wd', ht', ms', rr'⟩) := ha7.out.below hb
  have h8 : Hid (Below w.heap.size w w8) := bcall h7.out hb
  clear hb
  obtain ⟨a0, a1, a2, a3, a4, a5, a6, a7, b0, b1, b2, b3, b4, b5, b6, b7⟩ := ha8.out.cells
  go_wp2_with fail
  refine (solves_any _).mono ?_
  rintro e w9 ⟨rfl, hb⟩
  clear a0 a1 a2 a3 a4 a5 a6 a7 b0 b1 b2 b3 b4 b5 b6 b7
  have ha9 : Hid (Two w9 w.heap.size ⟨x, y, px, py, wd, ht, ms, rr⟩ ⟨x', y', px', py', wd', ht', ms', rr'⟩) := ha8.out.below hb
  have h9 : Hid (Below w.heap.size w w9) := bcall h8.out hb
  clear hb
  obtain ⟨a0, a1, a2, a3, a4, a5, a6, a7, b0, b1, b2, b3, b4, b5, b6, b7⟩ := ha9.out.cells
  go_wp2
  go_ret
  exact ⟨rfl, h9.out⟩

set_option maxRecDepth 4000 in
set_option maxHeartbeats 4000000 in
theorem walk3 (a b : R8) (ka : goodB a = true) (kb : goodB b = true) (w : World) :
    Calls Try.prog 13 #[rowV a, rowV b] w fun e w' => e = .returned (.bool true) ∧ Below w.heap.size w w' := by
  have c1 := Speed_any a
  have c2 := speedOf_any a
  have c3 := meet_any a b
  have c4 := meetRows_any a b
  have c5 := good_yes a ka
  have c6 := body_yes a ka
  have c7 := body_yes b kb
  have c8 := depth_any a b ((goodB_iff a).1 ka) ((goodB_iff b).1 kb)
  have c9 := depthOf_any a b ((goodB_iff a).1 ka) ((goodB_iff b).1 kb)
  have e1 : ∀ w, (binOp .neq 30 (rowV (met a b).1) (rowV (met a b).1)).run Try.prog w = .ok (.bool false) w := fun w => by rw [neqRow, eqR_self]; rfl
  have e2 : ∀ w, (binOp .neq 30 (rowV (met a b).2) (rowV (met a b).2)).run Try.prog w = .ok (.bool false) w := fun w => by rw [neqRow, eqR_self]; rfl
  clear ka kb
  generalize overB a b = ok at *
  generalize (met a b).1 = p at *
  generalize (met a b).2 = q at *
  obtain ⟨x, y, px, py, wd, ht, ms, rr⟩ := a
  obtain ⟨x', y', px', py', wd', ht', ms', rr'⟩ := b
  obtain ⟨X, Y, PX, PY, WD, HT, MS, RR⟩ := p
  obtain ⟨X', Y', PX', PY', WD', HT', MS', RR'⟩ := q
  simp only at *
  generalize spd px ms = v1 at *
  generalize spd py ms = v2 at *
  generalize depthOf x x' wd wd' = d1 at *
  generalize depthOf y y' ht ht' = d2 at *
  have eo : (ok != ok) = false := by simp
  unfold retV at *
  unfold rowV at *
  go_enter Try.func13, Try.ntmps13
  go_wp2_with fail
  refine (c1 _).mono ?_
  rintro e w1 ⟨rfl, hb⟩
  have ha : Hid (Two w1 w.heap.size ⟨x, y, px, py, wd, ht, ms, rr⟩ ⟨x', y', px', py', wd', ht', ms', rr'⟩) := (Two.made w ⟨x, y, px, py, wd, ht, ms, rr⟩ ⟨x', y', px', py', wd', ht', ms', rr'⟩).below hb
  have h0 : Hid (Below w.heap.size w w1) := bcall (bal (bal (Below.refl _ _) _) _) hb
  have hz := hb.size
  simp at hz
  clear hb
  obtain ⟨a0, a1, a2, a3, a4, a5, a6, a7, b0, b1, b2, b3, b4, b5, b6, b7⟩ := ha.out.cells
  go_wp2_with fail
  refine (c2 _).mono ?_
  rintro e w2 ⟨rfl, hb⟩
  clear a0 a1 a2 a3 a4 a5 a6 a7 b0 b1 b2 b3 b4 b5 b6 b7
  replace ha : Hid (Two w2 w.heap.size ⟨x, y, px, py, wd, ht, ms, rr⟩ ⟨x', y', px', py', wd', ht', ms', rr'⟩) := ha.out.below hb
  replace h0 : Hid (Below w.heap.size w w2) := bcall h0.out hb
  replace hz := Nat.le_trans hz hb.size
  clear hb
  obtain ⟨a0, a1, a2, a3, a4, a5, a6, a7, b0, b1, b2, b3, b4, b5, b6, b7⟩ := ha.out.cells
  go_wp2_with fail
  refine (c3 _).mono ?_
  rintro e w3 ⟨rfl, hb⟩
  clear a0 a1 a2 a3 a4 a5 a6 a7 b0 b1 b2 b3 b4 b5 b6 b7
  replace ha : Hid (Two w3 w.heap.size ⟨x, y, px, py, wd, ht, ms, rr⟩ ⟨x', y', px', py', wd', ht', ms', rr'⟩) := ha.out.below hb
  replace h0 : Hid (Below w.heap.size w w3) := bcall h0.out hb
  replace hz := Nat.le_trans hz hb.size
  clear hb
  obtain ⟨a0, a1, a2, a3, a4, a5, a6, a7, b0, b1, b2, b3, b4, b5, b6, b7⟩ := ha.out.cells
  have n0 : w.heap.size < w3.heap.size := by omega
  have n1 : w.heap.size + 1 < w3.heap.size := by omega
  have n2 : w.heap.size < w3.heap.size + 1 := by omega
  have n3 : w.heap.size + 1 < w3.heap.size + 1 := by omega
  go_wp2_with fail
  refine (c4 _).mono ?_
  rintro e w4 ⟨rfl, hb⟩
  clear a0 a1 a2 a3 a4 a5 a6 a7 b0 b1 b2 b3 b4 b5 b6 b7
  replace ha : Hid (Two w4 w.heap.size ⟨x, y, px, py, wd, ht, ms, rr⟩ ⟨x', y', px', py', wd', ht', ms', rr'⟩) := ((ha.out.alloc _).alloc _).below hb
  have hp : Hid (Two w4 w3.heap.size ⟨X, Y, PX, PY, WD, HT, MS, RR⟩ ⟨X', Y', PX', PY', WD', HT', MS', RR'⟩) := (Two.made w3 ⟨X, Y, PX, PY, WD, HT, MS, RR⟩ ⟨X', Y', PX', PY', WD', HT', MS', RR'⟩).below hb
  replace h0 : Hid (Below w.heap.size w w4) := bcall (bal (bal h0.out _) _) hb
  clear hb
  go_wp2_with fail
  obtain ⟨a0, a1, a2, a3, a4, a5, a6, a7, b0, b1, b2, b3, b4, b5, b6, b7⟩ := (drew2 ((ha.out.alloc (rc ⟨X, Y, PX, PY, WD, HT, MS, RR⟩)).alloc (rc ⟨X', Y', PX', PY', WD', HT', MS', RR'⟩))).cells
  obtain ⟨p0, p1, p2, p3, p4, p5, p6, p7, q0, q1, q2, q3, q4, q5, q6, q7⟩ := (drew2 ((hp.out.alloc (rc ⟨X, Y, PX, PY, WD, HT, MS, RR⟩)).alloc (rc ⟨X', Y', PX', PY', WD', HT', MS', RR'⟩))).cells
  obtain ⟨s0, s1, s2, s3, s4, s5, s6, s7, t0, t1, t2, t3, t4, t5, t6, t7⟩ := (drew2 (Two.made w4 ⟨X, Y, PX, PY, WD, HT, MS, RR⟩ ⟨X', Y', PX', PY', WD', HT', MS', RR'⟩)).cells
  go_region_held3 (fun W => W.cell? ⟨w.heap.size, 0, none⟩ = some (.int .i64 x) ∧ W.cell? ⟨w.heap.size, 1, none⟩ = some (.int .i64 y) ∧ W.cell? ⟨w.heap.size, 2, none⟩ = some (.int .i64 px) ∧ W.cell? ⟨w.heap.size, 3, none⟩ = some (.int .i64 py) ∧ W.cell? ⟨w.heap.size, 4, none⟩ = some (.int .i64 wd) ∧ W.cell? ⟨w.heap.size, 5, none⟩ = some (.int .i64 ht) ∧ W.cell? ⟨w.heap.size, 6, none⟩ = some (.int .i64 ms) ∧ W.cell? ⟨w.heap.size, 7, none⟩ = some (.int .i64 rr) ∧ W.cell? ⟨w3.heap.size, 0, none⟩ = some (.int .i64 X) ∧ W.cell? ⟨w3.heap.size, 1, none⟩ = some (.int .i64 Y) ∧ W.cell? ⟨w3.heap.size, 2, none⟩ = some (.int .i64 PX) ∧ W.cell? ⟨w3.heap.size, 3, none⟩ = some (.int .i64 PY) ∧ W.cell? ⟨w3.heap.size, 4, none⟩ = some (.int .i64 WD) ∧ W.cell? ⟨w3.heap.size, 5, none⟩ = some (.int .i64 HT) ∧ W.cell? ⟨w3.heap.size, 6, none⟩ = some (.int .i64 MS) ∧ W.cell? ⟨w3.heap.size, 7, none⟩ = some (.int .i64 RR) ∧ W.cell? ⟨w3.heap.size + 1, 0, none⟩ = some (.int .i64 X') ∧ W.cell? ⟨w3.heap.size + 1, 1, none⟩ = some (.int .i64 Y') ∧ W.cell? ⟨w3.heap.size + 1, 2, none⟩ = some (.int .i64 PX') ∧ W.cell? ⟨w3.heap.size + 1, 3, none⟩ = some (.int .i64 PY') ∧ W.cell? ⟨w3.heap.size + 1, 4, none⟩ = some (.int .i64 WD') ∧ W.cell? ⟨w3.heap.size + 1, 5, none⟩ = some (.int .i64 HT') ∧ W.cell? ⟨w3.heap.size + 1, 6, none⟩ = some (.int .i64 MS') ∧ W.cell? ⟨w3.heap.size + 1, 7, none⟩ = some (.int .i64 RR') ∧ W.cell? ⟨w4.heap.size, 0, none⟩ = some (.int .i64 X) ∧ W.cell? ⟨w4.heap.size, 1, none⟩ = some (.int .i64 Y) ∧ W.cell? ⟨w4.heap.size, 2, none⟩ = some (.int .i64 PX) ∧ W.cell? ⟨w4.heap.size, 3, none⟩ = some (.int .i64 PY) ∧ W.cell? ⟨w4.heap.size, 4, none⟩ = some (.int .i64 WD) ∧ W.cell? ⟨w4.heap.size, 5, none⟩ = some (.int .i64 HT) ∧ W.cell? ⟨w4.heap.size, 6, none⟩ = some (.int .i64 MS) ∧ W.cell? ⟨w4.heap.size, 7, none⟩ = some (.int .i64 RR) ∧ W.cell? ⟨w4.heap.size + 1, 0, none⟩ = some (.int .i64 X') ∧ W.cell? ⟨w4.heap.size + 1, 1, none⟩ = some (.int .i64 Y') ∧ W.cell? ⟨w4.heap.size + 1, 2, none⟩ = some (.int .i64 PX') ∧ W.cell? ⟨w4.heap.size + 1, 3, none⟩ = some (.int .i64 PY') ∧ W.cell? ⟨w4.heap.size + 1, 4, none⟩ = some (.int .i64 WD') ∧ W.cell? ⟨w4.heap.size + 1, 5, none⟩ = some (.int .i64 HT') ∧ W.cell? ⟨w4.heap.size + 1, 6, none⟩ = some (.int .i64 MS') ∧ W.cell? ⟨w4.heap.size + 1, 7, none⟩ = some (.int .i64 RR')) (exact ⟨a0, a1, a2, a3, a4, a5, a6, a7, p0, p1, p2, p3, p4, p5, p6, p7, q0, q1, q2, q3, q4, q5, q6, q7, s0, s1, s2, s3, s4, s5, s6, s7, t0, t1, t2, t3, t4, t5, t6, t7⟩) (first | (go_at_call 61; refine (c5 _).mono ?_; rintro e w5 ⟨rfl, hb⟩; have ha5 : Hid (Two w5 w.heap.size ⟨x, y, px, py, wd, ht, ms, rr⟩ ⟨x', y', px', py', wd', ht', ms', rr'⟩) := (drew2 ((ha.out.alloc _).alloc _)).below hb; have hp5 : Hid (Two w5 w3.heap.size ⟨X, Y, PX, PY, WD, HT, MS, RR⟩ ⟨X', Y', PX', PY', WD', HT', MS', RR'⟩) := (drew2 ((hp.out.alloc _).alloc _)).below hb; have hs5 : Hid (Two w5 w4.heap.size ⟨X, Y, PX, PY, WD, HT, MS, RR⟩ ⟨X', Y', PX', PY', WD', HT', MS', RR'⟩) := (drew2 (Two.made w4 ⟨X, Y, PX, PY, WD, HT, MS, RR⟩ ⟨X', Y', PX', PY', WD', HT', MS', RR'⟩)).below hb; have h5 : Hid (Below w.heap.size w w5) := bcall (Below.drew (bal (bal h0.out _) _)) hb; clear hb; obtain ⟨a0, a1, a2, a3, a4, a5, a6, a7, b0, b1, b2, b3, b4, b5, b6, b7⟩ := ha5.out.cells; obtain ⟨p0, p1, p2, p3, p4, p5, p6, p7, q0, q1, q2, q3, q4, q5, q6, q7⟩ := hp5.out.cells; obtain ⟨s0, s1, s2, s3, s4, s5, s6, s7, t0, t1, t2, t3, t4, t5, t6, t7⟩ := hs5.out.cells) | (go_at_call 62; refine (c6 _).mono ?_; rintro e w6 ⟨rfl, hb⟩; have ha6 : Hid (Two w6 w.heap.size ⟨x, y, px, py, wd, ht, ms, rr⟩ ⟨x', y', px', py', wd', ht', ms', rr'⟩) := ha5.out.below hb; have hp6 : Hid (Two w6 w3.heap.size ⟨X, Y, PX, PY, WD, HT, MS, RR⟩ ⟨X', Y', PX', PY', WD', HT', MS', RR'⟩) := hp5.out.below hb; have hs6 : Hid (Two w6 w4.heap.size ⟨X, Y, PX, PY, WD, HT, MS, RR⟩ ⟨X', Y', PX', PY', WD', HT', MS', RR'⟩) := hs5.out.below hb; have h6 : Hid (Below w.heap.size w w6) := bcall h5.out hb; clear hb; obtain ⟨a0, a1, a2, a3, a4, a5, a6, a7, b0, b1, b2, b3, b4, b5, b6, b7⟩ := ha6.out.cells; obtain ⟨p0, p1, p2, p3, p4, p5, p6, p7, q0, q1, q2, q3, q4, q5, q6, q7⟩ := hp6.out.cells; obtain ⟨s0, s1, s2, s3, s4, s5, s6, s7, t0, t1, t2, t3, t4, t5, t6, t7⟩ := hs6.out.cells))
  go_wp2_with fail
  clear p0 p1 p2 p3 p4 p5 p6 p7 q0 q1 q2 q3 q4 q5 q6 q7 s0 s1 s2 s3 s4 s5 s6 s7 t0 t1 t2 t3 t4 t5 t6 t7
  refine (c6 _).mono ?_
  rintro e w7 ⟨rfl, hb⟩
  clear a0 a1 a2 a3 a4 a5 a6 a7 b0 b1 b2 b3 b4 b5 b6 b7
  have ha7 : Hid (Two w7 w.heap.size ⟨x, y, px, py, wd, ht, ms, rr⟩ ⟨x', y', px', py', wd', ht', ms', rr'⟩) := ha6.out.below hb
  have h7 : Hid (Below w.heap.size w w7) := bcall h6.out hb
  clear hb
  obtain ⟨a0, a1, a2, a3, a4, a5, a6, a7, b0, b1, b2, b3, b4, b5, b6, b7⟩ := ha7.out.cells
  go_wp2_with fail
  refine (c7 _).mono ?_
  rintro e w8 ⟨rfl, hb⟩
  clear a0 a1 a2 a3 a4 a5 a6 a7 b0 b1 b2 b3 b4 b5 b6 b7
  have ha8 : Hid (Two w8 w.heap.size ⟨x, y, px, py, wd, ht, ms, rr⟩ ⟨x', y', px', py', wd', ht', ms', rr'⟩) := ha7.out.below hb
  have h8 : Hid (Below w.heap.size w w8) := bcall h7.out hb
  clear hb
  obtain ⟨a0, a1, a2, a3, a4, a5, a6, a7, b0, b1, b2, b3, b4, b5, b6, b7⟩ := ha8.out.cells
  go_wp2_with fail
  refine (c8 _).mono ?_
  rintro e w9 ⟨rfl, hb⟩
  clear a0 a1 a2 a3 a4 a5 a6 a7 b0 b1 b2 b3 b4 b5 b6 b7
  have ha9 : Hid (Two w9 w.heap.size ⟨x, y, px, py, wd, ht, ms, rr⟩ ⟨x', y', px', py', wd', ht', ms', rr'⟩) := ha8.out.below hb
  have h9 : Hid (Below w.heap.size w w9) := bcall h8.out hb
  clear hb
  obtain ⟨a0, a1, a2, a3, a4, a5, a6, a7, b0, b1, b2, b3, b4, b5, b6, b7⟩ := ha9.out.cells
  go_wp2_with fail
  refine (c9 _).mono ?_
  rintro e w10 ⟨rfl, hb⟩
  clear a0 a1 a2 a3 a4 a5 a6 a7 b0 b1 b2 b3 b4 b5 b6 b7
  have ha10 : Hid (Two w10 w.heap.size ⟨x, y, px, py, wd, ht, ms, rr⟩ ⟨x', y', px', py', wd', ht', ms', rr'⟩) := ha9.out.below hb
  have h10 : Hid (Below w.heap.size w w10) := bcall h9.out hb
  clear hb
  obtain ⟨a0, a1, a2, a3, a4, a5, a6, a7, b0, b1, b2, b3, b4, b5, b6, b7⟩ := ha10.out.cells
  go_wp2_with fail
  refine (solves_any _).mono ?_
  rintro e w11 ⟨rfl, hb⟩
  clear a0 a1 a2 a3 a4 a5 a6 a7 b0 b1 b2 b3 b4 b5 b6 b7
  have ha11 : Hid (Two w11 w.heap.size ⟨x, y, px, py, wd, ht, ms, rr⟩ ⟨x', y', px', py', wd', ht', ms', rr'⟩) := ha10.out.below hb
  have h11 : Hid (Below w.heap.size w w11) := bcall h10.out hb
  clear hb
  obtain ⟨a0, a1, a2, a3, a4, a5, a6, a7, b0, b1, b2, b3, b4, b5, b6, b7⟩ := ha11.out.cells
  go_wp2
  go_ret
  exact ⟨rfl, h11.out⟩

theorem walk (a b : R8) (w : World) : Calls Try.prog 13 #[rowV a, rowV b] w fun e w' => e = .returned (.bool true) ∧ Below w.heap.size w w' := by
  cases ka : goodB a
  · exact walk1 a b ka w
  cases kb : goodB b
  · exact walk2 a b ka kb w
  · exact walk3 a b ka kb w
theorem laidOut : laidOutB Try.prog = true := by kernel_rfl

set_option maxRecDepth 100000 in
theorem lifted (os : Os) (started : os.Started) (H : Type) (enc : TypeId × Value → H) :
    ReturnsInHanded {} Try.checked os 13 .any (Rows.solveTellsSpec.pre6 enc Try.prog Try.f13 Rows.solveTellsRow.domain false) (Rows.solveTellsSpec.post enc Try.prog Try.f13 false true false false) := by
  refine returnsInHanded_of_change (C := Try.checked) own started (by kernel_rfl) Try.func13
    (ChangeSpec.witness6 (enc := enc) (C := Try.checked) false ⟨#[], #[.agg #[.int .i64 0, .int .i64 0, .int .i64 0, .int .i64 0, .int .i64 0, .int .i64 0, .int .i64 0, .int .i64 0], .agg #[.int .i64 0, .int .i64 0, .int .i64 0, .int .i64 0, .int .i64 0, .int .i64 0, .int .i64 0, .int .i64 0]], []⟩ 8 (by kernel_rfl) (by kernel_rfl) (by kernel_rfl) (by kernel_rfl)) ?_
  intro W base args ds gs before hval0 hW _ _
  have hval : ∀ (j : Nat) t v, Try.f13.params[j]? = some t → args[j]? = some v → Value.okWide Try.prog W .any base t v := hval0
  have hW' := hW
  obtain ⟨p, q, hA0, hV, rfl, _, _⟩ := hW
  have hA : DataW.TrodAll enc Try.prog W 0 (fun _ => true) true Try.f13.params.toList args.toList ds p := hA0
  rw [Try.params13] at hA hval
  obtain ⟨v0, vs0, d0, ds0, p0, q0, hargs, rfl, rfl, h0, r0⟩ := trodAll_cons hA
  obtain ⟨v1, vs1, d1, ds1, p1, q1, rfl, rfl, rfl, h1, r1⟩ := trodAll_cons r0
  obtain ⟨rfl, rfl, rfl⟩ := trodAll_nil r1
  obtain rfl : args = #[v0, v1] := by cases args; simp_all
  obtain ⟨rfl, rfl⟩ := trodVars_none hV
  have hlt : ∀ x ∈ p0 ++ (p1 ++ []), x.block < W.heap.size := fun x hx => by simpa using hW'.lt x (by simpa using hx)
  have hk0 : ∀ (W' : World), Below W.heap.size W W' → DataW.Trod enc Try.prog W' 0 (fun b => decide (b < W.heap.size)) true 30 v0 d0 p0 :=
    fun W' hn => Below.trod laidOut (by kernel_rfl) (of_decide_eq_true (by kernel_rfl)) h0 hn (fun x hx => hlt x (List.mem_append.2 (Or.inl hx)))
  have hk1 : ∀ (W' : World), Below W.heap.size W W' → DataW.Trod enc Try.prog W' 0 (fun b => decide (b < W.heap.size)) true 30 v1 d1 p1 :=
    fun W' hn => Below.trod laidOut (by kernel_rfl) (of_decide_eq_true (by kernel_rfl)) h1 hn (fun x hx => hlt x (List.mem_append.2 (Or.inr (List.mem_append.2 (Or.inl hx)))))
  obtain ⟨a, rfl⟩ := open_row (hval 0 30 v0 rfl rfl) h0
  obtain ⟨b, rfl⟩ := open_row (hval 1 30 v1 rfl rfl) h1
  simp only [List.append_nil] at hW'
  refine (walk a b W).mono fun e W' ⟨he, hb⟩ => ?_
  subst he
  refine ⟨_, rfl, _, _, _, [], p0 ++ (p1 ++ []), [], hW', ?_, ?_, rfl, hb.frame _, fun h => by cases h⟩
  · exact trodAll_cons_mk (shut_bool Try.underlying4 _) trodAll_mk0
  · exact trodAll_cons_mk (hk0 _ hb) (trodAll_cons_mk (hk1 _ hb) trodAll_mk0)

theorem over : Rows.solveTellsRow.holds Try.pinned (OpenSpec.ofChange Rows.solveTellsSpec) :=
  OpenClaim.holds_of_wide 13 Try.f13 rfl rfl rfl rfl rfl rfl rfl ⟨rfl, rfl, rfl, rfl, rfl⟩ rfl rfl rfl rfl rfl (by kernel_rfl) Try.func13 (by kernel_rfl)
    (of_decide_eq_true (by kernel_rfl)) (by unfold Func.isWrapper; first | (rw [if_pos (by decide +kernel)]; kernel_rfl) | (rw [if_neg (by decide +kernel)]; exact ⟨rfl, rfl⟩))
    (fun os started H enc _ => lifted os started H enc)

theorem proved : Rows.SolveTellsSaid :=
  over
#print axioms proved
end Go.Proofs.Ytckkkdldljhehaa.solveTells
namespace Go.Proofs.Ytckkkdldljhehaa
theorem solveTells_holds : Rows.SolveTellsSaid := solveTells.proved
end Go.Proofs.Ytckkkdldljhehaa
