/- An act that came in as an argument, opened: seventeen numbers. No walk. -/
import Derived.Test.YtckkkdldljhehacGreatRows
import Derived.WalkKit
import Derived.ProofKit
import Derived.OpenShut
import Derived.Deep.Slices
import Derived.Deep.Strs
import Derived.SizedLaws
import Derived.Lib.SmallJoins
namespace Go.Proofs.YtckkkdldljhehacGreat.Gm
open Go.ChangeShapes Go.WideShapes Go.ChangeAt Go.RowKit Go.Deep Go.Joins

theorem cellsA : Tryz.prog.cellsOf 38 = 17 := by kernel_rfl
theorem cellsI : Tryz.prog.cellsOf 3 = 1 := by kernel_rfl
theorem cellsR : Tryz.prog.cellsOf 34 = 8 := by kernel_rfl
theorem cellsB : Tryz.prog.cellsOf 36 = 5 := by kernel_rfl
section
variable {H : Type} {enc : TypeId × Value → H} {W : World}

set_option maxRecDepth 100000 in
theorem row_fields {fuel : Nat} {cs : List Value} {x : DataW H × List MemPlace} (h : DataW.trod enc Tryz.prog W 0 (fun _ => true) true fuel 34 cs = some x) : ∃ x y px py wd ht ms rr : Int, cs = [.int .i64 x, .int .i64 y, .int .i64 px, .int .i64 py, .int .i64 wd, .int .i64 ht, .int .i64 ms, .int .i64 rr] := by
  obtain ⟨xs, n, _, rfl, hl, hlen, hf⟩ := DataW.trod_struct Tryz.underlying34 h
  rw [cellsR] at hl
  match cs, hl with
  | [c0, c1, c2, c3, c4, c5, c6, c7], _ =>
    match xs, hlen with
    | [y0, y1, y2, y3, y4, y5, y6, y7], _ =>
      have k : ∀ {c : Value} {y : DataW H × List MemPlace}, DataW.trod enc Tryz.prog W 0 (fun _ => true) true n 3 [c] = some y → ∃ q, c = .int .i64 q := fun hq => by
        obtain ⟨q, e, _⟩ := DataW.trod_int Tryz.underlying3 hq
        exact ⟨q, by simpa using e⟩
      have g0 := hf 0 _ rfl
      have g1 := hf 1 _ rfl
      have g2 := hf 2 _ rfl
      have g3 := hf 3 _ rfl
      have g4 := hf 4 _ rfl
      have g5 := hf 5 _ rfl
      have g6 := hf 6 _ rfl
      have g7 := hf 7 _ rfl
      simp [cellsI] at g0 g1 g2 g3 g4 g5 g6 g7
      obtain ⟨q0, rfl⟩ := k g0
      obtain ⟨q1, rfl⟩ := k g1
      obtain ⟨q2, rfl⟩ := k g2
      obtain ⟨q3, rfl⟩ := k g3
      obtain ⟨q4, rfl⟩ := k g4
      obtain ⟨q5, rfl⟩ := k g5
      obtain ⟨q6, rfl⟩ := k g6
      obtain ⟨q7, rfl⟩ := k g7
      exact ⟨q0, q1, q2, q3, q4, q5, q6, q7, rfl⟩
set_option maxRecDepth 100000 in
theorem box_fields {fuel : Nat} {cs : List Value} {x : DataW H × List MemPlace} (h : DataW.trod enc Tryz.prog W 0 (fun _ => true) true fuel 36 cs = some x) : ∃ bi bx1 by1 bx2 by2 : Int, cs = [.int .i64 bi, .int .i64 bx1, .int .i64 by1, .int .i64 bx2, .int .i64 by2] := by
  obtain ⟨xs, n, _, rfl, hl, hlen, hf⟩ := DataW.trod_struct Tryz.underlying36 h
  rw [cellsB] at hl
  match cs, hl with
  | [c0, c1, c2, c3, c4], _ =>
    match xs, hlen with
    | [y0, y1, y2, y3, y4], _ =>
      have k : ∀ {c : Value} {y : DataW H × List MemPlace}, DataW.trod enc Tryz.prog W 0 (fun _ => true) true n 3 [c] = some y → ∃ q, c = .int .i64 q := fun hq => by
        obtain ⟨q, e, _⟩ := DataW.trod_int Tryz.underlying3 hq
        exact ⟨q, by simpa using e⟩
      have g0 := hf 0 _ rfl
      have g1 := hf 1 _ rfl
      have g2 := hf 2 _ rfl
      have g3 := hf 3 _ rfl
      have g4 := hf 4 _ rfl
      simp [cellsI] at g0 g1 g2 g3 g4
      obtain ⟨q0, rfl⟩ := k g0
      obtain ⟨q1, rfl⟩ := k g1
      obtain ⟨q2, rfl⟩ := k g2
      obtain ⟨q3, rfl⟩ := k g3
      obtain ⟨q4, rfl⟩ := k g4
      exact ⟨q0, q1, q2, q3, q4, rfl⟩
set_option maxRecDepth 100000 in
theorem act_fields {fuel : Nat} {cs : List Value} {x : DataW H × List MemPlace} (h : DataW.trod enc Tryz.prog W 0 (fun _ => true) true fuel 38 cs = some x) : ∃ k i n m x y px py wd ht ms rr bi bx1 by1 bx2 by2 : Int, cs = [.int .i64 k, .int .i64 i, .int .i64 n, .int .i64 m, .int .i64 x, .int .i64 y, .int .i64 px, .int .i64 py, .int .i64 wd, .int .i64 ht, .int .i64 ms, .int .i64 rr, .int .i64 bi, .int .i64 bx1, .int .i64 by1, .int .i64 bx2, .int .i64 by2] := by
  obtain ⟨xs, n, _, rfl, hl, hlen, hf⟩ := DataW.trod_struct Tryz.underlying38 h
  rw [cellsA] at hl
  match cs, hl with
  | [c0, c1, c2, c3, c4, c5, c6, c7, c8, c9, c10, c11, c12, c13, c14, c15, c16], _ =>
    match xs, hlen with
    | [y0, y1, y2, y3, y4, y5], _ =>
      have k : ∀ {c : Value} {y : DataW H × List MemPlace}, DataW.trod enc Tryz.prog W 0 (fun _ => true) true n 3 [c] = some y → ∃ q, c = .int .i64 q := fun hq => by
        obtain ⟨q, e, _⟩ := DataW.trod_int Tryz.underlying3 hq
        exact ⟨q, by simpa using e⟩
      have g0 := hf 0 _ rfl
      have g1 := hf 1 _ rfl
      have g2 := hf 2 _ rfl
      have g3 := hf 3 _ rfl
      have g4 := hf 4 _ rfl
      have g5 := hf 5 _ rfl
      simp [cellsI, cellsR, cellsB] at g0 g1 g2 g3 g4 g5
      obtain ⟨q0, rfl⟩ := k g0
      obtain ⟨q1, rfl⟩ := k g1
      obtain ⟨q2, rfl⟩ := k g2
      obtain ⟨q3, rfl⟩ := k g3
      obtain ⟨r0, r1, r2, r3, r4, r5, r6, r7, e4⟩ := row_fields g4
      obtain ⟨b0, b1, b2, b3, b4, e5⟩ := box_fields g5
      simp at e4 e5
      obtain ⟨rfl, rfl, rfl, rfl, rfl, rfl, rfl, rfl⟩ := e4
      obtain ⟨rfl, rfl, rfl, rfl, rfl⟩ := e5
      exact ⟨q0, q1, q2, q3, r0, r1, r2, r3, r4, r5, r6, r7, b0, b1, b2, b3, b4, rfl⟩
set_option maxRecDepth 100000 in
/-- An act that came in. -/
theorem open_act {r : Reach} {b0 : Nat} {v : Value} {d : DataW H} {p : List MemPlace} (hv : Value.okWide Tryz.prog W r b0 38 v) (h : DataW.Trod enc Tryz.prog W 0 (fun _ => true) true 38 v d p) :
    ∃ k i n m x y px py wd ht ms rr bi bx1 by1 bx2 by2 : Int, v = .agg #[.int .i64 k, .int .i64 i, .int .i64 n, .int .i64 m, .int .i64 x, .int .i64 y, .int .i64 px, .int .i64 py, .int .i64 wd, .int .i64 ht, .int .i64 ms, .int .i64 rr, .int .i64 bi, .int .i64 bx1, .int .i64 by1, .int .i64 bx2, .int .i64 by2] := by
  obtain ⟨cs, rfl, _⟩ := okWide_struct Tryz.underlying38 hv
  obtain ⟨fuel, hf⟩ := h
  obtain ⟨k, i, n, m, x, y, px, py, wd, ht, ms, rr, bi, bx1, by1, bx2, by2, hx⟩ := act_fields hf
  refine ⟨k, i, n, m, x, y, px, py, wd, ht, ms, rr, bi, bx1, by1, bx2, by2, ?_⟩
  have : cs.toList = [.int .i64 k, .int .i64 i, .int .i64 n, .int .i64 m, .int .i64 x, .int .i64 y, .int .i64 px, .int .i64 py, .int .i64 wd, .int .i64 ht, .int .i64 ms, .int .i64 rr, .int .i64 bi, .int .i64 bx1, .int .i64 by1, .int .i64 bx2, .int .i64 by2] := by simpa [Value.cells] using hx
  rw [← Array.toArray_toList (xs := cs), this]
end
end Go.Proofs.YtckkkdldljhehacGreat.Gm
