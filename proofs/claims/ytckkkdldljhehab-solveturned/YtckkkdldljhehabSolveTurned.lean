/- Proved: for every two rows, SolveTurned returns true, and its arguments read as before. No conditions. -/
import Derived.Test.YtckkkdldljhehabSoI
import Derived.Test.YtckkkdldljhehabSoJ
import Derived.WalkKit
import Derived.Deep.RegionHeld3
import Derived.Deep.DeepCutAuto
import Derived.Deep.DeepFit
import Derived.ProofKit
import Derived.OpenShut
import Derived.SizedLaws
namespace Go.Proofs.Ytckkkdldljhehab.solveTurned
open Go.ChangeShapes Go.WideShapes Go.ChangeAt Go.RowKit
open Num

theorem own : ownKnob Try.prog.godebug = none := by kernel_rfl

theorem set2 {W : World} {N : Nat} {a b : R8} (h : Two W N a b) {x q : Nat} {v : Value} (h1 : x ≠ N) (h2 : x ≠ N + 1) : Two (W.setCell ⟨x, q, none⟩ v) N a b := ⟨h.a.setOther (Ne.symm h1) v, h.b.setOther (Ne.symm h2) v⟩
def Row8 (W : World) (g : Nat) (r : R8) : Prop := W.cell? ⟨g, 0, none⟩ = some (.int .i64 r.x) ∧ W.cell? ⟨g, 1, none⟩ = some (.int .i64 r.y) ∧ W.cell? ⟨g, 2, none⟩ = some (.int .i64 r.px) ∧ W.cell? ⟨g, 3, none⟩ = some (.int .i64 r.py) ∧ W.cell? ⟨g, 4, none⟩ = some (.int .i64 r.wd) ∧ W.cell? ⟨g, 5, none⟩ = some (.int .i64 r.ht) ∧ W.cell? ⟨g, 6, none⟩ = some (.int .i64 r.ms) ∧ W.cell? ⟨g, 7, none⟩ = some (.int .i64 r.rr)
theorem Row8.below {W W' : World} {g : Nat} {r : R8} (h : Row8 W g r) (hg : g < W.heap.size) (hb : Below W.heap.size W W') : Row8 W' g r := by
  unfold Row8 at *
  refine ⟨?_, ?_, ?_, ?_, ?_, ?_, ?_, ?_⟩
  all_goals rw [hb.cell (p := ⟨g, _, none⟩) hg]
  · exact h.1
  · exact h.2.1
  · exact h.2.2.1
  · exact h.2.2.2.1
  · exact h.2.2.2.2.1
  · exact h.2.2.2.2.2.1
  · exact h.2.2.2.2.2.2.1
  · exact h.2.2.2.2.2.2.2
abbrev rc (r : R8) : Obj := .cells #[.int .i64 r.x, .int .i64 r.y, .int .i64 r.px, .int .i64 r.py, .int .i64 r.wd, .int .i64 r.ht, .int .i64 r.ms, .int .i64 r.rr] 23
theorem drew2 {W : World} {N : Nat} {a b : R8} (h : Two W N a b) : Two W.drew N a b := ⟨h.a, h.b⟩

set_option maxHeartbeats 1000000 in
theorem turn_any (a : R8) (h : GoodP a) (w : World) : Calls Try.prog 12 #[rowV a] w fun e w' => e = .returned (rowV (turnR a)) ∧ Below w.heap.size w w' := by
  obtain ⟨-, h1, h2, h3, h4, -, -, -, -⟩ := h
  obtain ⟨x, y, px, py, wd, ht, ms, rr⟩ := a
  simp only [turnR] at *
  unfold rowV
  go_enter Try.func12, Try.ntmps12
  go_wp2
  exact bodyPost_ret (by simp [results, Try.results12, go_sem] <;> rfl) rfl ⟨rfl, by repeat (first | exact Below.refl _ _ | refine Below.drew ?_ | refine bdrewN ?_ _ | refine bal ?_ _)⟩

set_option maxHeartbeats 4000000 in
theorem walk1 (a b : R8) (hx : (a.x == b.x) = true) (w : World) :
    Calls Try.prog 5 #[rowV a, rowV b] w fun e w' => e = .returned (.bool true) ∧ Below w.heap.size w w' := by
  obtain ⟨x, y, px, py, wd, ht, ms, rr⟩ := a
  obtain ⟨x', y', px', py', wd', ht', ms', rr'⟩ := b
  unfold rowV at *
  go_enter Try.func5, Try.ntmps5
  go_wp2_with fail
  refine (solves_any _).mono ?_
  rintro e w1 ⟨rfl, hb⟩
  obtain ⟨hc1, hf1⟩ := bcell hb
  have hz1 := hb.size
  simp at hz1
  have n0 : w.heap.size < w1.heap.size := by omega
  have n1 : w.heap.size + 1 < w1.heap.size := by omega
  have n2 : w.heap.size < w1.heap.size + 1 := by omega
  have n3 : w.heap.size + 1 < w1.heap.size + 1 := by omega
  have n4 : w.heap.size < w1.heap.size + 1 + 1 := by omega
  have n5 : w.heap.size + 1 < w1.heap.size + 1 + 1 := by omega
  have h0 : Hid (Below w.heap.size w w1) := bcall (bal (bal (Below.refl _ _) _) _) hb
  clear hb
  go_wp2
  go_ret
  exact ⟨rfl, h0.out⟩

set_option maxHeartbeats 4000000 in
theorem walk2 (a b : R8) (hx : (a.x == b.x) = false) (hy : (a.y == b.y) = true) (w : World) :
    Calls Try.prog 5 #[rowV a, rowV b] w fun e w' => e = .returned (.bool true) ∧ Below w.heap.size w w' := by
  obtain ⟨x, y, px, py, wd, ht, ms, rr⟩ := a
  obtain ⟨x', y', px', py', wd', ht', ms', rr'⟩ := b
  unfold rowV at *
  go_enter Try.func5, Try.ntmps5
  go_wp2_with fail
  refine (solves_any _).mono ?_
  rintro e w1 ⟨rfl, hb⟩
  obtain ⟨hc1, hf1⟩ := bcell hb
  have hz1 := hb.size
  simp at hz1
  have n0 : w.heap.size < w1.heap.size := by omega
  have n1 : w.heap.size + 1 < w1.heap.size := by omega
  have n2 : w.heap.size < w1.heap.size + 1 := by omega
  have n3 : w.heap.size + 1 < w1.heap.size + 1 := by omega
  have n4 : w.heap.size < w1.heap.size + 1 + 1 := by omega
  have n5 : w.heap.size + 1 < w1.heap.size + 1 + 1 := by omega
  have h0 : Hid (Below w.heap.size w w1) := bcall (bal (bal (Below.refl _ _) _) _) hb
  clear hb
  go_wp2
  go_ret
  exact ⟨rfl, h0.out⟩

set_option maxHeartbeats 4000000 in
theorem walk3 (a b : R8) (hx : (a.x == b.x) = false) (hy : (a.y == b.y) = false) (ga : goodB a = false) (w : World) :
    Calls Try.prog 5 #[rowV a, rowV b] w fun e w' => e = .returned (.bool true) ∧ Below w.heap.size w w' := by
  have c1 := good_no a ga
  clear ga
  obtain ⟨x, y, px, py, wd, ht, ms, rr⟩ := a
  obtain ⟨x', y', px', py', wd', ht', ms', rr'⟩ := b
  unfold rowV at *
  go_enter Try.func5, Try.ntmps5
  go_wp2_with fail
  refine (c1 _).mono ?_
  rintro e w1 ⟨rfl, hb⟩
  obtain ⟨hc1, hf1⟩ := bcell hb
  have hz1 := hb.size
  simp at hz1
  have n0 : w.heap.size < w1.heap.size := by omega
  have n1 : w.heap.size + 1 < w1.heap.size := by omega
  have n2 : w.heap.size < w1.heap.size + 1 := by omega
  have n3 : w.heap.size + 1 < w1.heap.size + 1 := by omega
  have n4 : w.heap.size < w1.heap.size + 1 + 1 := by omega
  have n5 : w.heap.size + 1 < w1.heap.size + 1 + 1 := by omega
  have h0 : Hid (Below w.heap.size w w1) := bcall (bal (bal (Below.refl _ _) _) _) hb
  clear hb
  go_wp2_with fail
  refine (solves_any _).mono ?_
  rintro e w2 ⟨rfl, hb⟩
  obtain ⟨hc, hf⟩ := bcell hb
  have hz := hb.size
  try simp at hz
  replace h0 : Hid (Below w.heap.size w w2) := bcall (h0.out) hb
  clear hb
  go_wp2
  go_ret
  exact ⟨rfl, h0.out⟩

set_option maxHeartbeats 4000000 in
theorem walk4 (a b : R8) (hx : (a.x == b.x) = false) (hy : (a.y == b.y) = false) (ga : goodB a = true) (gb : goodB b = false) (w : World) :
    Calls Try.prog 5 #[rowV a, rowV b] w fun e w' => e = .returned (.bool true) ∧ Below w.heap.size w w' := by
  have c1 := good_yes a ga
  have c2 := good_no b gb
  clear ga gb
  obtain ⟨x, y, px, py, wd, ht, ms, rr⟩ := a
  obtain ⟨x', y', px', py', wd', ht', ms', rr'⟩ := b
  unfold rowV at *
  go_enter Try.func5, Try.ntmps5
  go_wp2_with fail
  refine (c1 _).mono ?_
  rintro e w1 ⟨rfl, hb⟩
  obtain ⟨hc1, hf1⟩ := bcell hb
  have hz1 := hb.size
  simp at hz1
  have n0 : w.heap.size < w1.heap.size := by omega
  have n1 : w.heap.size + 1 < w1.heap.size := by omega
  have n2 : w.heap.size < w1.heap.size + 1 := by omega
  have n3 : w.heap.size + 1 < w1.heap.size + 1 := by omega
  have n4 : w.heap.size < w1.heap.size + 1 + 1 := by omega
  have n5 : w.heap.size + 1 < w1.heap.size + 1 + 1 := by omega
  have h0 : Hid (Below w.heap.size w w1) := bcall (bal (bal (Below.refl _ _) _) _) hb
  clear hb
  go_wp2_with fail
  refine (c2 _).mono ?_
  rintro e w2 ⟨rfl, hb⟩
  obtain ⟨hc, hf⟩ := bcell hb
  have hz := hb.size
  try simp at hz
  replace h0 : Hid (Below w.heap.size w w2) := bcall (h0.out) hb
  clear hb
  go_wp2_with fail
  refine (solves_any _).mono ?_
  rintro e w3 ⟨rfl, hb⟩
  obtain ⟨hc', hf'⟩ := bcell hb
  replace hc : ∀ b o, b < w1.heap.size → w3.cell? ⟨b, o, none⟩ = _ := fun b o hl => (hc' b o (by omega)).trans (hc b o (by simpa using hl))
  replace hf : ∀ b o, b < w1.heap.size → w3.frozen? ⟨b, o, none⟩ = _ := fun b o hl => (hf' b o (by omega)).trans (hf b o (by simpa using hl))
  have hz' := hb.size
  replace hz := Nat.le_trans hz hz'
  replace h0 : Hid (Below w.heap.size w w3) := bcall h0.out hb
  clear hb hc' hf' hz'
  go_wp2
  go_ret
  exact ⟨rfl, h0.out⟩

set_option maxHeartbeats 40000000 in
theorem walk5 (a b : R8) (hx : (a.x == b.x) = false) (hy : (a.y == b.y) = false) (ga : goodB a = true) (gb : goodB b = true) (w : World) :
    Calls Try.prog 5 #[rowV a, rowV b] w fun e w' => e = .returned (.bool true) ∧ Below w.heap.size w w' := by
  have c1 := good_yes a ga
  have c2 := good_yes b gb
  have c3 := meet_any a b
  have gA := (goodB_iff a).1 ga
  have gB := (goodB_iff b).1 gb
  obtain ⟨gP, gQ⟩ := met_good a b gA gB
  have c4 := turn_any a gA
  have c5 := turn_any b gB
  have c6 := meet_any (turnR a) (turnR b)
  rw [over_turn, met_turn a b (by simpa using hx) (by simpa using hy)] at c6
  have c7 := turn_any _ gP
  have c8 := turn_any _ gQ
  have e7 : ∀ w, (binOp .eql 23 (rowV (turnR (met a b).1)) (rowV (turnR (met a b).1))).run Try.prog w = .ok (.bool true) w := fun w => by rw [eqRow, eqR_self]
  have e8 : ∀ w, (binOp .eql 23 (rowV (turnR (met a b).2)) (rowV (turnR (met a b).2))).run Try.prog w = .ok (.bool true) w := fun w => by rw [eqRow, eqR_self]
  clear ga gb gA gB gP gQ
  generalize overB a b = ok at *
  generalize turnR (met a b).1 = tp at *
  generalize turnR (met a b).2 = tq at *
  generalize (met a b).1 = p at *
  generalize (met a b).2 = q at *
  generalize turnR a = ta at *
  generalize turnR b = tb at *
  obtain ⟨x, y, px, py, wd, ht, ms, rr⟩ := a
  obtain ⟨x', y', px', py', wd', ht', ms', rr'⟩ := b
  obtain ⟨X, Y, PX, PY, WD, HT, MS, RR⟩ := p
  obtain ⟨X', Y', PX', PY', WD', HT', MS', RR'⟩ := q
  obtain ⟨x1, y1, px1, py1, wd1, ht1, ms1, rr1⟩ := ta
  obtain ⟨x2, y2, px2, py2, wd2, ht2, ms2, rr2⟩ := tb
  obtain ⟨x3, y3, px3, py3, wd3, ht3, ms3, rr3⟩ := tp
  obtain ⟨x4, y4, px4, py4, wd4, ht4, ms4, rr4⟩ := tq
  simp only at *
  unfold retV at *
  unfold rowV at *
  go_enter Try.func5, Try.ntmps5
  go_wp2_with fail
  refine (c1 _).mono ?_
  rintro e w1 ⟨rfl, hb⟩
  have ha : Hid (Two w1 w.heap.size ⟨x, y, px, py, wd, ht, ms, rr⟩ ⟨x', y', px', py', wd', ht', ms', rr'⟩) := (Two.made w ⟨x, y, px, py, wd, ht, ms, rr⟩ ⟨x', y', px', py', wd', ht', ms', rr'⟩).below hb
  have h0 : Hid (Below w.heap.size w w1) := bcall (bal (bal (Below.refl _ _) _) _) hb
  have hz := hb.size
  simp at hz
  clear hb
  obtain ⟨a0, a1, a2, a3, a4, a5, a6, a7, b0, b1, b2, b3, b4, b5, b6, b7⟩ := ha.out.cells
  go_wp2_with fail
  refine (c2 _).mono ?_
  rintro e w2 ⟨rfl, hb⟩
  clear a0 a1 a2 a3 a4 a5 a6 a7 b0 b1 b2 b3 b4 b5 b6 b7
  replace ha : Hid (Two w2 w.heap.size ⟨x, y, px, py, wd, ht, ms, rr⟩ ⟨x', y', px', py', wd', ht', ms', rr'⟩) := ha.out.below hb
  replace h0 : Hid (Below w.heap.size w w2) := bcall h0.out hb
  replace hz := Nat.le_trans hz hb.size
  clear hb
  obtain ⟨a0, a1, a2, a3, a4, a5, a6, a7, b0, b1, b2, b3, b4, b5, b6, b7⟩ := ha.out.cells
  go_wp2_with fail
  refine (c3 _).mono ?_
  rintro e w3 ⟨rfl, hb⟩
  clear a0 a1 a2 a3 a4 a5 a6 a7 b0 b1 b2 b3 b4 b5 b6 b7
  replace ha : Hid (Two w3 w.heap.size ⟨x, y, px, py, wd, ht, ms, rr⟩ ⟨x', y', px', py', wd', ht', ms', rr'⟩) := ha.out.below hb
  replace h0 : Hid (Below w.heap.size w w3) := bcall h0.out hb
  replace hz := Nat.le_trans hz hb.size
  clear hb
  obtain ⟨a0, a1, a2, a3, a4, a5, a6, a7, b0, b1, b2, b3, b4, b5, b6, b7⟩ := ha.out.cells
  have n0 : w.heap.size < w3.heap.size := by omega
  have n1 : w.heap.size + 1 < w3.heap.size := by omega
  have n2 : w.heap.size < w3.heap.size + 1 := by omega
  have n3 : w.heap.size + 1 < w3.heap.size + 1 := by omega
  have eo : (ok == ok) = true := by simp
  go_wp2_with fail
  have HA : Hid (Two ((w3.alloc (rc ⟨X, Y, PX, PY, WD, HT, MS, RR⟩)).alloc (rc ⟨X', Y', PX', PY', WD', HT', MS', RR'⟩)) w.heap.size ⟨x, y, px, py, wd, ht, ms, rr⟩ ⟨x', y', px', py', wd', ht', ms', rr'⟩) := (ha.out.alloc _).alloc _
  have HP : Hid (Two ((w3.alloc (rc ⟨X, Y, PX, PY, WD, HT, MS, RR⟩)).alloc (rc ⟨X', Y', PX', PY', WD', HT', MS', RR'⟩)) w3.heap.size ⟨X, Y, PX, PY, WD, HT, MS, RR⟩ ⟨X', Y', PX', PY', WD', HT', MS', RR'⟩) := Two.made w3 ⟨X, Y, PX, PY, WD, HT, MS, RR⟩ ⟨X', Y', PX', PY', WD', HT', MS', RR'⟩
  have H0 : Hid (Below w.heap.size w ((w3.alloc (rc ⟨X, Y, PX, PY, WD, HT, MS, RR⟩)).alloc (rc ⟨X', Y', PX', PY', WD', HT', MS', RR'⟩))) := bal (bal h0.out _) _
  have HZ : w3.heap.size + 1 + 1 ≤ ((w3.alloc (rc ⟨X, Y, PX, PY, WD, HT, MS, RR⟩)).alloc (rc ⟨X', Y', PX', PY', WD', HT', MS', RR'⟩)).heap.size := by simp
  clear ha h0 a0 a1 a2 a3 a4 a5 a6 a7 b0 b1 b2 b3 b4 b5 b6 b7 n2 n3
  generalize w3.heap.size = m3 at *
  generalize (w3.alloc (rc ⟨X, Y, PX, PY, WD, HT, MS, RR⟩)).alloc (rc ⟨X', Y', PX', PY', WD', HT', MS', RR'⟩) = v0 at *
  obtain ⟨a0, a1, a2, a3, a4, a5, a6, a7, b0, b1, b2, b3, b4, b5, b6, b7⟩ := HA.out.cells
  have hn := HA.out.b.lt
  have hm := HP.out.b.lt
  have yn01 : v0.heap.size ≠ w.heap.size + 1 := Nat.ne_of_gt hn
  have yn02 : v0.heap.size ≠ w.heap.size := Nat.ne_of_gt (Nat.lt_of_succ_lt hn)
  have yn03 : v0.heap.size + 1 ≠ w.heap.size + 1 := Nat.ne_of_gt (Nat.lt_succ_of_lt hn)
  have yn04 : v0.heap.size + 1 ≠ w.heap.size := Nat.ne_of_gt (Nat.lt_succ_of_lt (Nat.lt_of_succ_lt hn))
  have ym01 : v0.heap.size ≠ m3 + 1 := Nat.ne_of_gt hm
  have ym02 : v0.heap.size ≠ m3 := Nat.ne_of_gt (Nat.lt_of_succ_lt hm)
  have ym03 : v0.heap.size + 1 ≠ m3 + 1 := Nat.ne_of_gt (Nat.lt_succ_of_lt hm)
  have ym04 : v0.heap.size + 1 ≠ m3 := Nat.ne_of_gt (Nat.lt_succ_of_lt (Nat.lt_of_succ_lt hm))
  have yl0a : w.heap.size ≤ v0.heap.size := Nat.le_of_lt (Nat.lt_of_succ_lt hn)
  have yl0b : w.heap.size ≤ v0.heap.size + 1 := Nat.le_succ_of_le yl0a
  go_upto_region 7 with fail
  go_cut [9, 10, 11] (fun s9 s10 s11 wx => ∃ g h, s9 = .pointer (some ⟨g, 0, none⟩) ∧ s10 = .pointer (some ⟨h, 0, none⟩) ∧ s11 = .bool ok ∧ Row8 wx g ⟨x3, y3, px3, py3, wd3, ht3, ms3, rr3⟩ ∧ Row8 wx h ⟨x4, y4, px4, py4, wd4, ht4, ms4, rr4⟩ ∧ Two wx m3 ⟨X, Y, PX, PY, WD, HT, MS, RR⟩ ⟨X', Y', PX', PY', WD', HT', MS', RR'⟩ ∧ Below w.heap.size w wx ∧ g < wx.heap.size ∧ h < wx.heap.size)
  case first =>
    go_region_held3 (fun W => W.cell? ⟨w.heap.size, 0, none⟩ = some (.int .i64 x) ∧ W.cell? ⟨w.heap.size, 1, none⟩ = some (.int .i64 y) ∧ W.cell? ⟨w.heap.size, 2, none⟩ = some (.int .i64 px) ∧ W.cell? ⟨w.heap.size, 3, none⟩ = some (.int .i64 py) ∧ W.cell? ⟨w.heap.size, 4, none⟩ = some (.int .i64 wd) ∧ W.cell? ⟨w.heap.size, 5, none⟩ = some (.int .i64 ht) ∧ W.cell? ⟨w.heap.size, 6, none⟩ = some (.int .i64 ms) ∧ W.cell? ⟨w.heap.size, 7, none⟩ = some (.int .i64 rr) ∧ W.cell? ⟨w.heap.size + 1, 0, none⟩ = some (.int .i64 x') ∧ W.cell? ⟨w.heap.size + 1, 1, none⟩ = some (.int .i64 y') ∧ W.cell? ⟨w.heap.size + 1, 2, none⟩ = some (.int .i64 px') ∧ W.cell? ⟨w.heap.size + 1, 3, none⟩ = some (.int .i64 py') ∧ W.cell? ⟨w.heap.size + 1, 4, none⟩ = some (.int .i64 wd') ∧ W.cell? ⟨w.heap.size + 1, 5, none⟩ = some (.int .i64 ht') ∧ W.cell? ⟨w.heap.size + 1, 6, none⟩ = some (.int .i64 ms') ∧ W.cell? ⟨w.heap.size + 1, 7, none⟩ = some (.int .i64 rr')) (go_keep) (first | (go_at_call 12; go_fit (c4 _); rintro e w4 ⟨rfl, hb⟩; have ha4 : Hid (Two w4 w.heap.size ⟨x, y, px, py, wd, ht, ms, rr⟩ ⟨x', y', px', py', wd', ht', ms', rr'⟩) := (by refine Two.below ?_ hb; repeat (first | with_reducible exact HA.out | with_reducible refine drew2 ?_ | with_reducible refine Two.alloc ?_ _)); have hp4 : Hid (Two w4 m3 ⟨X, Y, PX, PY, WD, HT, MS, RR⟩ ⟨X', Y', PX', PY', WD', HT', MS', RR'⟩) := (by refine Two.below ?_ hb; repeat (first | with_reducible exact HP.out | with_reducible refine drew2 ?_ | with_reducible refine Two.alloc ?_ _)); have hq4 : Hid (Below w.heap.size w w4) := (by refine bcall ?_ hb; repeat (first | with_reducible exact H0.out | with_reducible refine Below.drew ?_ | with_reducible refine bal ?_ _)); obtain ⟨hc4, hf4⟩ := bcell hb; have z4 := hb.size; (try simp at z4); clear hb; (try simp at hc4); (try simp at hf4);  obtain ⟨a0, a1, a2, a3, a4, a5, a6, a7, b0, b1, b2, b3, b4, b5, b6, b7⟩ := ha4.out.cells; have l4 := ha4.out.b.lt; have k4 := hp4.out.b.lt; have yn41 : w4.heap.size ≠ w.heap.size + 1 := Nat.ne_of_gt l4; have yn42 : w4.heap.size ≠ w.heap.size := Nat.ne_of_gt (Nat.lt_of_succ_lt l4); have yn43 : w4.heap.size + 1 ≠ w.heap.size + 1 := Nat.ne_of_gt (Nat.lt_succ_of_lt l4); have yn44 : w4.heap.size + 1 ≠ w.heap.size := Nat.ne_of_gt (Nat.lt_succ_of_lt (Nat.lt_of_succ_lt l4)); have ym41 : w4.heap.size ≠ m3 + 1 := Nat.ne_of_gt k4; have ym42 : w4.heap.size ≠ m3 := Nat.ne_of_gt (Nat.lt_of_succ_lt k4); have ym43 : w4.heap.size + 1 ≠ m3 + 1 := Nat.ne_of_gt (Nat.lt_succ_of_lt k4); have ym44 : w4.heap.size + 1 ≠ m3 := Nat.ne_of_gt (Nat.lt_succ_of_lt (Nat.lt_of_succ_lt k4)); have yl4a : w.heap.size ≤ w4.heap.size := Nat.le_of_lt (Nat.lt_of_succ_lt l4); have yl4b : w.heap.size ≤ w4.heap.size + 1 := Nat.le_succ_of_le yl4a; have r4 : v0.heap.size ≤ w4.heap.size := (by omega); (try (have yv04a : v0.heap.size < w4.heap.size := (by omega))); (try (have yv04b : v0.heap.size + 1 < w4.heap.size := (by omega))); skip) | (go_at_call 12; go_fit (c5 _); rintro e w5 ⟨rfl, hb⟩; have ha5 : Hid (Two w5 w.heap.size ⟨x, y, px, py, wd, ht, ms, rr⟩ ⟨x', y', px', py', wd', ht', ms', rr'⟩) := (by refine Two.below ?_ hb; repeat (first | with_reducible exact ha4.out | with_reducible refine drew2 ?_ | with_reducible refine Two.alloc ?_ _)); have hp5 : Hid (Two w5 m3 ⟨X, Y, PX, PY, WD, HT, MS, RR⟩ ⟨X', Y', PX', PY', WD', HT', MS', RR'⟩) := (by refine Two.below ?_ hb; repeat (first | with_reducible exact hp4.out | with_reducible refine drew2 ?_ | with_reducible refine Two.alloc ?_ _)); have hq5 : Hid (Below w.heap.size w w5) := (by refine bcall ?_ hb; repeat (first | with_reducible exact hq4.out | with_reducible refine Below.drew ?_ | with_reducible refine bal ?_ _)); obtain ⟨hc5, hf5⟩ := bcell hb; have z5 := hb.size; (try simp at z5); clear hb; (try simp at hc5); (try simp at hf5);  obtain ⟨a0, a1, a2, a3, a4, a5, a6, a7, b0, b1, b2, b3, b4, b5, b6, b7⟩ := ha5.out.cells; have l5 := ha5.out.b.lt; have k5 := hp5.out.b.lt; have yn51 : w5.heap.size ≠ w.heap.size + 1 := Nat.ne_of_gt l5; have yn52 : w5.heap.size ≠ w.heap.size := Nat.ne_of_gt (Nat.lt_of_succ_lt l5); have yn53 : w5.heap.size + 1 ≠ w.heap.size + 1 := Nat.ne_of_gt (Nat.lt_succ_of_lt l5); have yn54 : w5.heap.size + 1 ≠ w.heap.size := Nat.ne_of_gt (Nat.lt_succ_of_lt (Nat.lt_of_succ_lt l5)); have ym51 : w5.heap.size ≠ m3 + 1 := Nat.ne_of_gt k5; have ym52 : w5.heap.size ≠ m3 := Nat.ne_of_gt (Nat.lt_of_succ_lt k5); have ym53 : w5.heap.size + 1 ≠ m3 + 1 := Nat.ne_of_gt (Nat.lt_succ_of_lt k5); have ym54 : w5.heap.size + 1 ≠ m3 := Nat.ne_of_gt (Nat.lt_succ_of_lt (Nat.lt_of_succ_lt k5)); have yl5a : w.heap.size ≤ w5.heap.size := Nat.le_of_lt (Nat.lt_of_succ_lt l5); have yl5b : w.heap.size ≤ w5.heap.size + 1 := Nat.le_succ_of_le yl5a; have r5 : w4.heap.size ≤ w5.heap.size := (by omega); (try (have yw45a : w4.heap.size < w5.heap.size := (by omega))); (try (have yw45b : w4.heap.size + 1 < w5.heap.size := (by omega))); (try (have yv05a : v0.heap.size < w5.heap.size := Nat.lt_of_lt_of_le yv04a r5)); (try (have yv05b : v0.heap.size + 1 < w5.heap.size := Nat.lt_of_lt_of_le yv04b r5)); skip) | (go_at_call 7; go_fit (c6 _); rintro e w6 ⟨rfl, hb⟩; have ha6 : Hid (Two w6 w.heap.size ⟨x, y, px, py, wd, ht, ms, rr⟩ ⟨x', y', px', py', wd', ht', ms', rr'⟩) := (by refine Two.below ?_ hb; repeat (first | with_reducible exact ha5.out | with_reducible refine drew2 ?_ | with_reducible refine Two.alloc ?_ _)); have hp6 : Hid (Two w6 m3 ⟨X, Y, PX, PY, WD, HT, MS, RR⟩ ⟨X', Y', PX', PY', WD', HT', MS', RR'⟩) := (by refine Two.below ?_ hb; repeat (first | with_reducible exact hp5.out | with_reducible refine drew2 ?_ | with_reducible refine Two.alloc ?_ _)); have hq6 : Hid (Below w.heap.size w w6) := (by refine bcall ?_ hb; repeat (first | with_reducible exact hq5.out | with_reducible refine Below.drew ?_ | with_reducible refine bal ?_ _)); obtain ⟨hc6, hf6⟩ := bcell hb; have z6 := hb.size; (try simp at z6); clear hb; (try simp at hc6); (try simp at hf6);  obtain ⟨a0, a1, a2, a3, a4, a5, a6, a7, b0, b1, b2, b3, b4, b5, b6, b7⟩ := ha6.out.cells; have l6 := ha6.out.b.lt; have k6 := hp6.out.b.lt; have yn61 : w6.heap.size ≠ w.heap.size + 1 := Nat.ne_of_gt l6; have yn62 : w6.heap.size ≠ w.heap.size := Nat.ne_of_gt (Nat.lt_of_succ_lt l6); have yn63 : w6.heap.size + 1 ≠ w.heap.size + 1 := Nat.ne_of_gt (Nat.lt_succ_of_lt l6); have yn64 : w6.heap.size + 1 ≠ w.heap.size := Nat.ne_of_gt (Nat.lt_succ_of_lt (Nat.lt_of_succ_lt l6)); have ym61 : w6.heap.size ≠ m3 + 1 := Nat.ne_of_gt k6; have ym62 : w6.heap.size ≠ m3 := Nat.ne_of_gt (Nat.lt_of_succ_lt k6); have ym63 : w6.heap.size + 1 ≠ m3 + 1 := Nat.ne_of_gt (Nat.lt_succ_of_lt k6); have ym64 : w6.heap.size + 1 ≠ m3 := Nat.ne_of_gt (Nat.lt_succ_of_lt (Nat.lt_of_succ_lt k6)); have yl6a : w.heap.size ≤ w6.heap.size := Nat.le_of_lt (Nat.lt_of_succ_lt l6); have yl6b : w.heap.size ≤ w6.heap.size + 1 := Nat.le_succ_of_le yl6a; have r6 : w5.heap.size ≤ w6.heap.size := (by omega); (try (have yw56a : w5.heap.size < w6.heap.size := (by omega))); (try (have yw56b : w5.heap.size + 1 < w6.heap.size := (by omega))); (try (have yv06a : v0.heap.size < w6.heap.size := Nat.lt_of_lt_of_le yv05a r6)); (try (have yv06b : v0.heap.size + 1 < w6.heap.size := Nat.lt_of_lt_of_le yv05b r6)); (try (have yw46a : w4.heap.size < w6.heap.size := Nat.lt_of_lt_of_le yw45a r6)); (try (have yw46b : w4.heap.size + 1 < w6.heap.size := Nat.lt_of_lt_of_le yw45b r6)); skip))
    all_goals
      go_wp2_with fail
      go_meet
      refine ⟨_, _, rfl, rfl, rfl, ?_, ?_, ?_, ?_, ?_, ?_⟩
      · unfold Row8
        have xsv0 : v0.heap.size < v0.heap.size + 1 + 1 := Nat.lt_succ_of_lt (Nat.lt_succ_self _); have xsw4 : w4.heap.size < w4.heap.size + 1 + 1 := Nat.lt_succ_of_lt (Nat.lt_succ_self _); have xsw5 : w5.heap.size < w5.heap.size + 1 + 1 := Nat.lt_succ_of_lt (Nat.lt_succ_self _); (try (have xv04a1 : w4.heap.size ≠ v0.heap.size := Nat.ne_of_gt yv04a)); (try (have xv04a2 : v0.heap.size ≠ w4.heap.size := Nat.ne_of_lt yv04a)); (try (have xv04a3 : w4.heap.size + 1 ≠ v0.heap.size := Nat.ne_of_gt (Nat.lt_succ_of_lt yv04a))); (try (have xv04a4 : v0.heap.size ≠ w4.heap.size + 1 := Nat.ne_of_lt (Nat.lt_succ_of_lt yv04a))); (try (have xv04a5 : v0.heap.size < w4.heap.size + 1 := Nat.lt_succ_of_lt yv04a)); (try (have xv04a6 : v0.heap.size < w4.heap.size + 1 + 1 := Nat.lt_succ_of_lt (Nat.lt_succ_of_lt yv04a))); (try (have xv04b1 : w4.heap.size ≠ v0.heap.size + 1 := Nat.ne_of_gt yv04b)); (try (have xv04b2 : v0.heap.size + 1 ≠ w4.heap.size := Nat.ne_of_lt yv04b)); (try (have xv04b3 : w4.heap.size + 1 ≠ v0.heap.size + 1 := Nat.ne_of_gt (Nat.lt_succ_of_lt yv04b))); (try (have xv04b4 : v0.heap.size + 1 ≠ w4.heap.size + 1 := Nat.ne_of_lt (Nat.lt_succ_of_lt yv04b))); (try (have xv04b5 : v0.heap.size + 1 < w4.heap.size + 1 := Nat.lt_succ_of_lt yv04b)); (try (have xv04b6 : v0.heap.size + 1 < w4.heap.size + 1 + 1 := Nat.lt_succ_of_lt (Nat.lt_succ_of_lt yv04b))); (try (have xv05a1 : w5.heap.size ≠ v0.heap.size := Nat.ne_of_gt yv05a)); (try (have xv05a2 : v0.heap.size ≠ w5.heap.size := Nat.ne_of_lt yv05a)); (try (have xv05a3 : w5.heap.size + 1 ≠ v0.heap.size := Nat.ne_of_gt (Nat.lt_succ_of_lt yv05a))); (try (have xv05a4 : v0.heap.size ≠ w5.heap.size + 1 := Nat.ne_of_lt (Nat.lt_succ_of_lt yv05a))); (try (have xv05a5 : v0.heap.size < w5.heap.size + 1 := Nat.lt_succ_of_lt yv05a)); (try (have xv05a6 : v0.heap.size < w5.heap.size + 1 + 1 := Nat.lt_succ_of_lt (Nat.lt_succ_of_lt yv05a))); (try (have xv05b1 : w5.heap.size ≠ v0.heap.size + 1 := Nat.ne_of_gt yv05b)); (try (have xv05b2 : v0.heap.size + 1 ≠ w5.heap.size := Nat.ne_of_lt yv05b)); (try (have xv05b3 : w5.heap.size + 1 ≠ v0.heap.size + 1 := Nat.ne_of_gt (Nat.lt_succ_of_lt yv05b))); (try (have xv05b4 : v0.heap.size + 1 ≠ w5.heap.size + 1 := Nat.ne_of_lt (Nat.lt_succ_of_lt yv05b))); (try (have xv05b5 : v0.heap.size + 1 < w5.heap.size + 1 := Nat.lt_succ_of_lt yv05b)); (try (have xv05b6 : v0.heap.size + 1 < w5.heap.size + 1 + 1 := Nat.lt_succ_of_lt (Nat.lt_succ_of_lt yv05b))); (try (have xv06a1 : w6.heap.size ≠ v0.heap.size := Nat.ne_of_gt yv06a)); (try (have xv06a2 : v0.heap.size ≠ w6.heap.size := Nat.ne_of_lt yv06a)); (try (have xv06a3 : w6.heap.size + 1 ≠ v0.heap.size := Nat.ne_of_gt (Nat.lt_succ_of_lt yv06a))); (try (have xv06a4 : v0.heap.size ≠ w6.heap.size + 1 := Nat.ne_of_lt (Nat.lt_succ_of_lt yv06a))); (try (have xv06a5 : v0.heap.size < w6.heap.size + 1 := Nat.lt_succ_of_lt yv06a)); (try (have xv06a6 : v0.heap.size < w6.heap.size + 1 + 1 := Nat.lt_succ_of_lt (Nat.lt_succ_of_lt yv06a))); (try (have xv06b1 : w6.heap.size ≠ v0.heap.size + 1 := Nat.ne_of_gt yv06b)); (try (have xv06b2 : v0.heap.size + 1 ≠ w6.heap.size := Nat.ne_of_lt yv06b)); (try (have xv06b3 : w6.heap.size + 1 ≠ v0.heap.size + 1 := Nat.ne_of_gt (Nat.lt_succ_of_lt yv06b))); (try (have xv06b4 : v0.heap.size + 1 ≠ w6.heap.size + 1 := Nat.ne_of_lt (Nat.lt_succ_of_lt yv06b))); (try (have xv06b5 : v0.heap.size + 1 < w6.heap.size + 1 := Nat.lt_succ_of_lt yv06b)); (try (have xv06b6 : v0.heap.size + 1 < w6.heap.size + 1 + 1 := Nat.lt_succ_of_lt (Nat.lt_succ_of_lt yv06b))); (try (have xw45a1 : w5.heap.size ≠ w4.heap.size := Nat.ne_of_gt yw45a)); (try (have xw45a2 : w4.heap.size ≠ w5.heap.size := Nat.ne_of_lt yw45a)); (try (have xw45a3 : w5.heap.size + 1 ≠ w4.heap.size := Nat.ne_of_gt (Nat.lt_succ_of_lt yw45a))); (try (have xw45a4 : w4.heap.size ≠ w5.heap.size + 1 := Nat.ne_of_lt (Nat.lt_succ_of_lt yw45a))); (try (have xw45a5 : w4.heap.size < w5.heap.size + 1 := Nat.lt_succ_of_lt yw45a)); (try (have xw45a6 : w4.heap.size < w5.heap.size + 1 + 1 := Nat.lt_succ_of_lt (Nat.lt_succ_of_lt yw45a))); (try (have xw45b1 : w5.heap.size ≠ w4.heap.size + 1 := Nat.ne_of_gt yw45b)); (try (have xw45b2 : w4.heap.size + 1 ≠ w5.heap.size := Nat.ne_of_lt yw45b)); (try (have xw45b3 : w5.heap.size + 1 ≠ w4.heap.size + 1 := Nat.ne_of_gt (Nat.lt_succ_of_lt yw45b))); (try (have xw45b4 : w4.heap.size + 1 ≠ w5.heap.size + 1 := Nat.ne_of_lt (Nat.lt_succ_of_lt yw45b))); (try (have xw45b5 : w4.heap.size + 1 < w5.heap.size + 1 := Nat.lt_succ_of_lt yw45b)); (try (have xw45b6 : w4.heap.size + 1 < w5.heap.size + 1 + 1 := Nat.lt_succ_of_lt (Nat.lt_succ_of_lt yw45b))); (try (have xw46a1 : w6.heap.size ≠ w4.heap.size := Nat.ne_of_gt yw46a)); (try (have xw46a2 : w4.heap.size ≠ w6.heap.size := Nat.ne_of_lt yw46a)); (try (have xw46a3 : w6.heap.size + 1 ≠ w4.heap.size := Nat.ne_of_gt (Nat.lt_succ_of_lt yw46a))); (try (have xw46a4 : w4.heap.size ≠ w6.heap.size + 1 := Nat.ne_of_lt (Nat.lt_succ_of_lt yw46a))); (try (have xw46a5 : w4.heap.size < w6.heap.size + 1 := Nat.lt_succ_of_lt yw46a)); (try (have xw46a6 : w4.heap.size < w6.heap.size + 1 + 1 := Nat.lt_succ_of_lt (Nat.lt_succ_of_lt yw46a))); (try (have xw46b1 : w6.heap.size ≠ w4.heap.size + 1 := Nat.ne_of_gt yw46b)); (try (have xw46b2 : w4.heap.size + 1 ≠ w6.heap.size := Nat.ne_of_lt yw46b)); (try (have xw46b3 : w6.heap.size + 1 ≠ w4.heap.size + 1 := Nat.ne_of_gt (Nat.lt_succ_of_lt yw46b))); (try (have xw46b4 : w4.heap.size + 1 ≠ w6.heap.size + 1 := Nat.ne_of_lt (Nat.lt_succ_of_lt yw46b))); (try (have xw46b5 : w4.heap.size + 1 < w6.heap.size + 1 := Nat.lt_succ_of_lt yw46b)); (try (have xw46b6 : w4.heap.size + 1 < w6.heap.size + 1 + 1 := Nat.lt_succ_of_lt (Nat.lt_succ_of_lt yw46b))); (try (have xw56a1 : w6.heap.size ≠ w5.heap.size := Nat.ne_of_gt yw56a)); (try (have xw56a2 : w5.heap.size ≠ w6.heap.size := Nat.ne_of_lt yw56a)); (try (have xw56a3 : w6.heap.size + 1 ≠ w5.heap.size := Nat.ne_of_gt (Nat.lt_succ_of_lt yw56a))); (try (have xw56a4 : w5.heap.size ≠ w6.heap.size + 1 := Nat.ne_of_lt (Nat.lt_succ_of_lt yw56a))); (try (have xw56a5 : w5.heap.size < w6.heap.size + 1 := Nat.lt_succ_of_lt yw56a)); (try (have xw56a6 : w5.heap.size < w6.heap.size + 1 + 1 := Nat.lt_succ_of_lt (Nat.lt_succ_of_lt yw56a))); (try (have xw56b1 : w6.heap.size ≠ w5.heap.size + 1 := Nat.ne_of_gt yw56b)); (try (have xw56b2 : w5.heap.size + 1 ≠ w6.heap.size := Nat.ne_of_lt yw56b)); (try (have xw56b3 : w6.heap.size + 1 ≠ w5.heap.size + 1 := Nat.ne_of_gt (Nat.lt_succ_of_lt yw56b))); (try (have xw56b4 : w5.heap.size + 1 ≠ w6.heap.size + 1 := Nat.ne_of_lt (Nat.lt_succ_of_lt yw56b))); (try (have xw56b5 : w5.heap.size + 1 < w6.heap.size + 1 := Nat.lt_succ_of_lt yw56b)); (try (have xw56b6 : w5.heap.size + 1 < w6.heap.size + 1 + 1 := Nat.lt_succ_of_lt (Nat.lt_succ_of_lt yw56b)));  skip
        first | (simp [go_sem, *]; done) | (go_simp; done) | (go_keep; done)
      · unfold Row8
        have xsv0 : v0.heap.size < v0.heap.size + 1 + 1 := Nat.lt_succ_of_lt (Nat.lt_succ_self _); have xsw4 : w4.heap.size < w4.heap.size + 1 + 1 := Nat.lt_succ_of_lt (Nat.lt_succ_self _); have xsw5 : w5.heap.size < w5.heap.size + 1 + 1 := Nat.lt_succ_of_lt (Nat.lt_succ_self _); (try (have xv04a1 : w4.heap.size ≠ v0.heap.size := Nat.ne_of_gt yv04a)); (try (have xv04a2 : v0.heap.size ≠ w4.heap.size := Nat.ne_of_lt yv04a)); (try (have xv04a3 : w4.heap.size + 1 ≠ v0.heap.size := Nat.ne_of_gt (Nat.lt_succ_of_lt yv04a))); (try (have xv04a4 : v0.heap.size ≠ w4.heap.size + 1 := Nat.ne_of_lt (Nat.lt_succ_of_lt yv04a))); (try (have xv04a5 : v0.heap.size < w4.heap.size + 1 := Nat.lt_succ_of_lt yv04a)); (try (have xv04a6 : v0.heap.size < w4.heap.size + 1 + 1 := Nat.lt_succ_of_lt (Nat.lt_succ_of_lt yv04a))); (try (have xv04b1 : w4.heap.size ≠ v0.heap.size + 1 := Nat.ne_of_gt yv04b)); (try (have xv04b2 : v0.heap.size + 1 ≠ w4.heap.size := Nat.ne_of_lt yv04b)); (try (have xv04b3 : w4.heap.size + 1 ≠ v0.heap.size + 1 := Nat.ne_of_gt (Nat.lt_succ_of_lt yv04b))); (try (have xv04b4 : v0.heap.size + 1 ≠ w4.heap.size + 1 := Nat.ne_of_lt (Nat.lt_succ_of_lt yv04b))); (try (have xv04b5 : v0.heap.size + 1 < w4.heap.size + 1 := Nat.lt_succ_of_lt yv04b)); (try (have xv04b6 : v0.heap.size + 1 < w4.heap.size + 1 + 1 := Nat.lt_succ_of_lt (Nat.lt_succ_of_lt yv04b))); (try (have xv05a1 : w5.heap.size ≠ v0.heap.size := Nat.ne_of_gt yv05a)); (try (have xv05a2 : v0.heap.size ≠ w5.heap.size := Nat.ne_of_lt yv05a)); (try (have xv05a3 : w5.heap.size + 1 ≠ v0.heap.size := Nat.ne_of_gt (Nat.lt_succ_of_lt yv05a))); (try (have xv05a4 : v0.heap.size ≠ w5.heap.size + 1 := Nat.ne_of_lt (Nat.lt_succ_of_lt yv05a))); (try (have xv05a5 : v0.heap.size < w5.heap.size + 1 := Nat.lt_succ_of_lt yv05a)); (try (have xv05a6 : v0.heap.size < w5.heap.size + 1 + 1 := Nat.lt_succ_of_lt (Nat.lt_succ_of_lt yv05a))); (try (have xv05b1 : w5.heap.size ≠ v0.heap.size + 1 := Nat.ne_of_gt yv05b)); (try (have xv05b2 : v0.heap.size + 1 ≠ w5.heap.size := Nat.ne_of_lt yv05b)); (try (have xv05b3 : w5.heap.size + 1 ≠ v0.heap.size + 1 := Nat.ne_of_gt (Nat.lt_succ_of_lt yv05b))); (try (have xv05b4 : v0.heap.size + 1 ≠ w5.heap.size + 1 := Nat.ne_of_lt (Nat.lt_succ_of_lt yv05b))); (try (have xv05b5 : v0.heap.size + 1 < w5.heap.size + 1 := Nat.lt_succ_of_lt yv05b)); (try (have xv05b6 : v0.heap.size + 1 < w5.heap.size + 1 + 1 := Nat.lt_succ_of_lt (Nat.lt_succ_of_lt yv05b))); (try (have xv06a1 : w6.heap.size ≠ v0.heap.size := Nat.ne_of_gt yv06a)); (try (have xv06a2 : v0.heap.size ≠ w6.heap.size := Nat.ne_of_lt yv06a)); (try (have xv06a3 : w6.heap.size + 1 ≠ v0.heap.size := Nat.ne_of_gt (Nat.lt_succ_of_lt yv06a))); (try (have xv06a4 : v0.heap.size ≠ w6.heap.size + 1 := Nat.ne_of_lt (Nat.lt_succ_of_lt yv06a))); (try (have xv06a5 : v0.heap.size < w6.heap.size + 1 := Nat.lt_succ_of_lt yv06a)); (try (have xv06a6 : v0.heap.size < w6.heap.size + 1 + 1 := Nat.lt_succ_of_lt (Nat.lt_succ_of_lt yv06a))); (try (have xv06b1 : w6.heap.size ≠ v0.heap.size + 1 := Nat.ne_of_gt yv06b)); (try (have xv06b2 : v0.heap.size + 1 ≠ w6.heap.size := Nat.ne_of_lt yv06b)); (try (have xv06b3 : w6.heap.size + 1 ≠ v0.heap.size + 1 := Nat.ne_of_gt (Nat.lt_succ_of_lt yv06b))); (try (have xv06b4 : v0.heap.size + 1 ≠ w6.heap.size + 1 := Nat.ne_of_lt (Nat.lt_succ_of_lt yv06b))); (try (have xv06b5 : v0.heap.size + 1 < w6.heap.size + 1 := Nat.lt_succ_of_lt yv06b)); (try (have xv06b6 : v0.heap.size + 1 < w6.heap.size + 1 + 1 := Nat.lt_succ_of_lt (Nat.lt_succ_of_lt yv06b))); (try (have xw45a1 : w5.heap.size ≠ w4.heap.size := Nat.ne_of_gt yw45a)); (try (have xw45a2 : w4.heap.size ≠ w5.heap.size := Nat.ne_of_lt yw45a)); (try (have xw45a3 : w5.heap.size + 1 ≠ w4.heap.size := Nat.ne_of_gt (Nat.lt_succ_of_lt yw45a))); (try (have xw45a4 : w4.heap.size ≠ w5.heap.size + 1 := Nat.ne_of_lt (Nat.lt_succ_of_lt yw45a))); (try (have xw45a5 : w4.heap.size < w5.heap.size + 1 := Nat.lt_succ_of_lt yw45a)); (try (have xw45a6 : w4.heap.size < w5.heap.size + 1 + 1 := Nat.lt_succ_of_lt (Nat.lt_succ_of_lt yw45a))); (try (have xw45b1 : w5.heap.size ≠ w4.heap.size + 1 := Nat.ne_of_gt yw45b)); (try (have xw45b2 : w4.heap.size + 1 ≠ w5.heap.size := Nat.ne_of_lt yw45b)); (try (have xw45b3 : w5.heap.size + 1 ≠ w4.heap.size + 1 := Nat.ne_of_gt (Nat.lt_succ_of_lt yw45b))); (try (have xw45b4 : w4.heap.size + 1 ≠ w5.heap.size + 1 := Nat.ne_of_lt (Nat.lt_succ_of_lt yw45b))); (try (have xw45b5 : w4.heap.size + 1 < w5.heap.size + 1 := Nat.lt_succ_of_lt yw45b)); (try (have xw45b6 : w4.heap.size + 1 < w5.heap.size + 1 + 1 := Nat.lt_succ_of_lt (Nat.lt_succ_of_lt yw45b))); (try (have xw46a1 : w6.heap.size ≠ w4.heap.size := Nat.ne_of_gt yw46a)); (try (have xw46a2 : w4.heap.size ≠ w6.heap.size := Nat.ne_of_lt yw46a)); (try (have xw46a3 : w6.heap.size + 1 ≠ w4.heap.size := Nat.ne_of_gt (Nat.lt_succ_of_lt yw46a))); (try (have xw46a4 : w4.heap.size ≠ w6.heap.size + 1 := Nat.ne_of_lt (Nat.lt_succ_of_lt yw46a))); (try (have xw46a5 : w4.heap.size < w6.heap.size + 1 := Nat.lt_succ_of_lt yw46a)); (try (have xw46a6 : w4.heap.size < w6.heap.size + 1 + 1 := Nat.lt_succ_of_lt (Nat.lt_succ_of_lt yw46a))); (try (have xw46b1 : w6.heap.size ≠ w4.heap.size + 1 := Nat.ne_of_gt yw46b)); (try (have xw46b2 : w4.heap.size + 1 ≠ w6.heap.size := Nat.ne_of_lt yw46b)); (try (have xw46b3 : w6.heap.size + 1 ≠ w4.heap.size + 1 := Nat.ne_of_gt (Nat.lt_succ_of_lt yw46b))); (try (have xw46b4 : w4.heap.size + 1 ≠ w6.heap.size + 1 := Nat.ne_of_lt (Nat.lt_succ_of_lt yw46b))); (try (have xw46b5 : w4.heap.size + 1 < w6.heap.size + 1 := Nat.lt_succ_of_lt yw46b)); (try (have xw46b6 : w4.heap.size + 1 < w6.heap.size + 1 + 1 := Nat.lt_succ_of_lt (Nat.lt_succ_of_lt yw46b))); (try (have xw56a1 : w6.heap.size ≠ w5.heap.size := Nat.ne_of_gt yw56a)); (try (have xw56a2 : w5.heap.size ≠ w6.heap.size := Nat.ne_of_lt yw56a)); (try (have xw56a3 : w6.heap.size + 1 ≠ w5.heap.size := Nat.ne_of_gt (Nat.lt_succ_of_lt yw56a))); (try (have xw56a4 : w5.heap.size ≠ w6.heap.size + 1 := Nat.ne_of_lt (Nat.lt_succ_of_lt yw56a))); (try (have xw56a5 : w5.heap.size < w6.heap.size + 1 := Nat.lt_succ_of_lt yw56a)); (try (have xw56a6 : w5.heap.size < w6.heap.size + 1 + 1 := Nat.lt_succ_of_lt (Nat.lt_succ_of_lt yw56a))); (try (have xw56b1 : w6.heap.size ≠ w5.heap.size + 1 := Nat.ne_of_gt yw56b)); (try (have xw56b2 : w5.heap.size + 1 ≠ w6.heap.size := Nat.ne_of_lt yw56b)); (try (have xw56b3 : w6.heap.size + 1 ≠ w5.heap.size + 1 := Nat.ne_of_gt (Nat.lt_succ_of_lt yw56b))); (try (have xw56b4 : w5.heap.size + 1 ≠ w6.heap.size + 1 := Nat.ne_of_lt (Nat.lt_succ_of_lt yw56b))); (try (have xw56b5 : w5.heap.size + 1 < w6.heap.size + 1 := Nat.lt_succ_of_lt yw56b)); (try (have xw56b6 : w5.heap.size + 1 < w6.heap.size + 1 + 1 := Nat.lt_succ_of_lt (Nat.lt_succ_of_lt yw56b)));  skip
        first | (simp [go_sem, *]; done) | (go_simp; done) | (go_keep; done)
      · repeat (first | with_reducible exact hp6.out | with_reducible refine set2 ?_ (by assumption) (by assumption) | with_reducible refine Two.alloc ?_ _ | with_reducible refine drew2 ?_)
      · repeat (first | with_reducible exact hq6.out | with_reducible refine Below.setCell ?_ (by assumption) _ | with_reducible refine bal ?_ _ | with_reducible refine Below.drew ?_)
      · first | omega | (simp; omega) | simp
      · first | omega | (simp; omega) | simp
  case rest =>
  obtain ⟨g, h, rfl, rfl, rfl, hg, hh, hp, hq, lg, lh⟩ := hcut
  have HP8 : Hid (Two wc m3 ⟨X, Y, PX, PY, WD, HT, MS, RR⟩ ⟨X', Y', PX', PY', WD', HT', MS', RR'⟩) := hp
  have HG8 : Hid (Row8 wc g ⟨x3, y3, px3, py3, wd3, ht3, ms3, rr3⟩) := hg
  have HH8 : Hid (Row8 wc h ⟨x4, y4, px4, py4, wd4, ht4, ms4, rr4⟩) := hh
  have HQ8 : Hid (Below w.heap.size w wc) := hq
  unfold Row8 at hg hh
  obtain ⟨p0, p1, p2, p3, p4, p5, p6, p7, q0, q1, q2, q3, q4, q5, q6, q7⟩ := hp.cells
  obtain ⟨s0, s1, s2, s3, s4, s5, s6, s7⟩ := hg
  obtain ⟨t0, t1, t2, t3, t4, t5, t6, t7⟩ := hh
  clear hp hq a0 a1 a2 a3 a4 a5 a6 a7 b0 b1 b2 b3 b4 b5 b6 b7 HA HP H0 c1 c2 c3 c4 c5 c6
  go_wp2_with fail
  go_region_held3 (fun W => W.cell? ⟨m3, 0, none⟩ = some (.int .i64 X) ∧ W.cell? ⟨m3, 1, none⟩ = some (.int .i64 Y) ∧ W.cell? ⟨m3, 2, none⟩ = some (.int .i64 PX) ∧ W.cell? ⟨m3, 3, none⟩ = some (.int .i64 PY) ∧ W.cell? ⟨m3, 4, none⟩ = some (.int .i64 WD) ∧ W.cell? ⟨m3, 5, none⟩ = some (.int .i64 HT) ∧ W.cell? ⟨m3, 6, none⟩ = some (.int .i64 MS) ∧ W.cell? ⟨m3, 7, none⟩ = some (.int .i64 RR) ∧ W.cell? ⟨m3 + 1, 0, none⟩ = some (.int .i64 X') ∧ W.cell? ⟨m3 + 1, 1, none⟩ = some (.int .i64 Y') ∧ W.cell? ⟨m3 + 1, 2, none⟩ = some (.int .i64 PX') ∧ W.cell? ⟨m3 + 1, 3, none⟩ = some (.int .i64 PY') ∧ W.cell? ⟨m3 + 1, 4, none⟩ = some (.int .i64 WD') ∧ W.cell? ⟨m3 + 1, 5, none⟩ = some (.int .i64 HT') ∧ W.cell? ⟨m3 + 1, 6, none⟩ = some (.int .i64 MS') ∧ W.cell? ⟨m3 + 1, 7, none⟩ = some (.int .i64 RR') ∧ W.cell? ⟨g, 0, none⟩ = some (.int .i64 x3) ∧ W.cell? ⟨g, 1, none⟩ = some (.int .i64 y3) ∧ W.cell? ⟨g, 2, none⟩ = some (.int .i64 px3) ∧ W.cell? ⟨g, 3, none⟩ = some (.int .i64 py3) ∧ W.cell? ⟨g, 4, none⟩ = some (.int .i64 wd3) ∧ W.cell? ⟨g, 5, none⟩ = some (.int .i64 ht3) ∧ W.cell? ⟨g, 6, none⟩ = some (.int .i64 ms3) ∧ W.cell? ⟨g, 7, none⟩ = some (.int .i64 rr3) ∧ W.cell? ⟨h, 0, none⟩ = some (.int .i64 x4) ∧ W.cell? ⟨h, 1, none⟩ = some (.int .i64 y4) ∧ W.cell? ⟨h, 2, none⟩ = some (.int .i64 px4) ∧ W.cell? ⟨h, 3, none⟩ = some (.int .i64 py4) ∧ W.cell? ⟨h, 4, none⟩ = some (.int .i64 wd4) ∧ W.cell? ⟨h, 5, none⟩ = some (.int .i64 ht4) ∧ W.cell? ⟨h, 6, none⟩ = some (.int .i64 ms4) ∧ W.cell? ⟨h, 7, none⟩ = some (.int .i64 rr4)) (exact ⟨p0, p1, p2, p3, p4, p5, p6, p7, q0, q1, q2, q3, q4, q5, q6, q7, s0, s1, s2, s3, s4, s5, s6, s7, t0, t1, t2, t3, t4, t5, t6, t7⟩) (first | (go_at_call 12; go_fit (c7 _); rintro e w7 ⟨rfl, hb⟩; have hp7 : Hid (Two w7 m3 ⟨X, Y, PX, PY, WD, HT, MS, RR⟩ ⟨X', Y', PX', PY', WD', HT', MS', RR'⟩) := (drew2 HP8.out).below hb; have hg7 : Hid (Row8 w7 g ⟨x3, y3, px3, py3, wd3, ht3, ms3, rr3⟩) := Row8.below (show Row8 wc.drew g _ from HG8.out) lg hb; have hh7 : Hid (Row8 w7 h ⟨x4, y4, px4, py4, wd4, ht4, ms4, rr4⟩) := Row8.below (show Row8 wc.drew h _ from HH8.out) lh hb; have h7 : Hid (Below w.heap.size w w7) := bcall (Below.drew HQ8.out) hb; have lg7 : g < w7.heap.size := Nat.lt_of_lt_of_le lg hb.size; have lh7 : h < w7.heap.size := Nat.lt_of_lt_of_le lh hb.size; clear hb; obtain ⟨p0, p1, p2, p3, p4, p5, p6, p7, q0, q1, q2, q3, q4, q5, q6, q7⟩ := hp7.out.cells; have rg7 := hg7.out; unfold Row8 at rg7; obtain ⟨s0, s1, s2, s3, s4, s5, s6, s7⟩ := rg7; have rh7 := hh7.out; unfold Row8 at rh7; obtain ⟨t0, t1, t2, t3, t4, t5, t6, t7⟩ := rh7) | (go_at_call 12; go_fit (c8 _); rintro e w8 ⟨rfl, hb⟩; have hp8 : Hid (Two w8 m3 ⟨X, Y, PX, PY, WD, HT, MS, RR⟩ ⟨X', Y', PX', PY', WD', HT', MS', RR'⟩) := hp7.out.below hb; have hg8 : Hid (Row8 w8 g ⟨x3, y3, px3, py3, wd3, ht3, ms3, rr3⟩) := Row8.below hg7.out lg7 hb; have hh8 : Hid (Row8 w8 h ⟨x4, y4, px4, py4, wd4, ht4, ms4, rr4⟩) := Row8.below hh7.out lh7 hb; have h8 : Hid (Below w.heap.size w w8) := bcall h7.out hb; have lg8 : g < w8.heap.size := Nat.lt_of_lt_of_le lg7 hb.size; have lh8 : h < w8.heap.size := Nat.lt_of_lt_of_le lh7 hb.size; clear hb; obtain ⟨p0, p1, p2, p3, p4, p5, p6, p7, q0, q1, q2, q3, q4, q5, q6, q7⟩ := hp8.out.cells; have rg8 := hg8.out; unfold Row8 at rg8; obtain ⟨s0, s1, s2, s3, s4, s5, s6, s7⟩ := rg8; have rh8 := hh8.out; unfold Row8 at rh8; obtain ⟨t0, t1, t2, t3, t4, t5, t6, t7⟩ := rh8) | (go_at_call 9; refine (solves_any _).mono ?_; rintro e w9 ⟨rfl, hb⟩; have hp9 : Hid (Two w9 m3 ⟨X, Y, PX, PY, WD, HT, MS, RR⟩ ⟨X', Y', PX', PY', WD', HT', MS', RR'⟩) := hp8.out.below hb; have hg9 : Hid (Row8 w9 g ⟨x3, y3, px3, py3, wd3, ht3, ms3, rr3⟩) := Row8.below hg8.out lg8 hb; have hh9 : Hid (Row8 w9 h ⟨x4, y4, px4, py4, wd4, ht4, ms4, rr4⟩) := Row8.below hh8.out lh8 hb; have h9 : Hid (Below w.heap.size w w9) := bcall h8.out hb; have lg9 : g < w9.heap.size := Nat.lt_of_lt_of_le lg8 hb.size; have lh9 : h < w9.heap.size := Nat.lt_of_lt_of_le lh8 hb.size; clear hb; obtain ⟨p0, p1, p2, p3, p4, p5, p6, p7, q0, q1, q2, q3, q4, q5, q6, q7⟩ := hp9.out.cells; have rg9 := hg9.out; unfold Row8 at rg9; obtain ⟨s0, s1, s2, s3, s4, s5, s6, s7⟩ := rg9; have rh9 := hh9.out; unfold Row8 at rh9; obtain ⟨t0, t1, t2, t3, t4, t5, t6, t7⟩ := rh9))
  go_wp2
  go_ret
  exact ⟨rfl, h9.out⟩

theorem walk (a b : R8) (w : World) : Calls Try.prog 5 #[rowV a, rowV b] w fun e w' => e = .returned (.bool true) ∧ Below w.heap.size w w' := by
  cases hx : (a.x == b.x)
  · cases hy : (a.y == b.y)
    · cases ga : goodB a
      · exact walk3 a b hx hy ga w
      · cases gb : goodB b
        · exact walk4 a b hx hy ga gb w
        · exact walk5 a b hx hy ga gb w
    · exact walk2 a b hx hy w
  · exact walk1 a b hx w
theorem laidOut : laidOutB Try.prog = true := by kernel_rfl

set_option maxRecDepth 100000 in
theorem lifted (os : Os) (started : os.Started) (H : Type) (enc : TypeId × Value → H) :
    ReturnsInHanded {} Try.checked os 5 .any (Rows.solveTurnedSpec.pre6 enc Try.prog Try.f5 Rows.solveTurnedRow.domain false) (Rows.solveTurnedSpec.post enc Try.prog Try.f5 false true false false) := by
  refine returnsInHanded_of_change (C := Try.checked) own started (by kernel_rfl) Try.func5
    (ChangeSpec.witness6 (enc := enc) (C := Try.checked) false ⟨#[], #[.agg #[.int .i64 0, .int .i64 0, .int .i64 0, .int .i64 0, .int .i64 0, .int .i64 0, .int .i64 0, .int .i64 0], .agg #[.int .i64 0, .int .i64 0, .int .i64 0, .int .i64 0, .int .i64 0, .int .i64 0, .int .i64 0, .int .i64 0]], []⟩ 8 (by kernel_rfl) (by kernel_rfl) (by kernel_rfl) (by kernel_rfl)) ?_
  intro W base args ds gs before hval0 hW _ _
  have hval : ∀ (j : Nat) t v, Try.f5.params[j]? = some t → args[j]? = some v → Value.okWide Try.prog W .any base t v := hval0
  have hW' := hW
  obtain ⟨p, q, hA0, hV, rfl, _, _⟩ := hW
  have hA : DataW.TrodAll enc Try.prog W 0 (fun _ => true) true Try.f5.params.toList args.toList ds p := hA0
  rw [Try.params5] at hA hval
  obtain ⟨v0, vs0, d0, ds0, p0, q0, hargs, rfl, rfl, h0, r0⟩ := trodAll_cons hA
  obtain ⟨v1, vs1, d1, ds1, p1, q1, rfl, rfl, rfl, h1, r1⟩ := trodAll_cons r0
  obtain ⟨rfl, rfl, rfl⟩ := trodAll_nil r1
  obtain rfl : args = #[v0, v1] := by cases args; simp_all
  obtain ⟨rfl, rfl⟩ := trodVars_none hV
  have hlt : ∀ x ∈ p0 ++ (p1 ++ []), x.block < W.heap.size := fun x hx => by simpa using hW'.lt x (by simpa using hx)
  have hk0 : ∀ (W' : World), Below W.heap.size W W' → DataW.Trod enc Try.prog W' 0 (fun b => decide (b < W.heap.size)) true 23 v0 d0 p0 :=
    fun W' hn => Below.trod laidOut (by kernel_rfl) (of_decide_eq_true (by kernel_rfl)) h0 hn (fun x hx => hlt x (List.mem_append.2 (Or.inl hx)))
  have hk1 : ∀ (W' : World), Below W.heap.size W W' → DataW.Trod enc Try.prog W' 0 (fun b => decide (b < W.heap.size)) true 23 v1 d1 p1 :=
    fun W' hn => Below.trod laidOut (by kernel_rfl) (of_decide_eq_true (by kernel_rfl)) h1 hn (fun x hx => hlt x (List.mem_append.2 (Or.inr (List.mem_append.2 (Or.inl hx)))))
  obtain ⟨a, rfl⟩ := open_row (hval 0 23 v0 rfl rfl) h0
  obtain ⟨b, rfl⟩ := open_row (hval 1 23 v1 rfl rfl) h1
  simp only [List.append_nil] at hW'
  refine (walk a b W).mono fun e W' ⟨he, hb⟩ => ?_
  subst he
  refine ⟨_, rfl, _, _, _, [], p0 ++ (p1 ++ []), [], hW', ?_, ?_, rfl, hb.frame _, fun h => by cases h⟩
  · exact trodAll_cons_mk (shut_bool Try.underlying4 _) trodAll_mk0
  · exact trodAll_cons_mk (hk0 _ hb) (trodAll_cons_mk (hk1 _ hb) trodAll_mk0)

theorem over : Rows.solveTurnedRow.holds Try.pinned (OpenSpec.ofChange Rows.solveTurnedSpec) :=
  OpenClaim.holds_of_wide 5 Try.f5 rfl rfl rfl rfl rfl rfl rfl ⟨rfl, rfl, rfl, rfl, rfl⟩ rfl rfl rfl rfl rfl (by kernel_rfl) Try.func5 (by kernel_rfl)
    (of_decide_eq_true (by kernel_rfl)) (by unfold Func.isWrapper; first | (rw [if_pos (by decide +kernel)]; kernel_rfl) | (rw [if_neg (by decide +kernel)]; exact ⟨rfl, rfl⟩))
    (fun os started H enc _ => lifted os started H enc)

theorem proved : Rows.SolveTurnedSaid :=
  over
#print axioms proved
end Go.Proofs.Ytckkkdldljhehab.solveTurned
namespace Go.Proofs.Ytckkkdldljhehab
theorem solveTurned_holds : Rows.SolveTurnedSaid := solveTurned.proved
end Go.Proofs.Ytckkkdldljhehab
