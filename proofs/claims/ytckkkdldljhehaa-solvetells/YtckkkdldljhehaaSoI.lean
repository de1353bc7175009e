/- What solves of package ninepinskeep answers when called: true; a row that came in as an argument, opened; two rows held against each other. No conditions. -/
import Derived.Test.YtckkkdldljhehaaSoG
import Derived.Deep.Slices
import Derived.Deep.Strs
import Derived.SizedLaws
import Derived.Lib.SmallJoins
namespace Go.Proofs.Ytckkkdldljhehaa
open Go.ChangeShapes Go.WideShapes Go.ChangeAt Go.RowKit Go.Deep Go.Joins
open Num

theorem solves_met : met ⟨0, 0, 90, 0, 10, 10, 1, 256⟩ ⟨15, 0, 0, 0, 10, 10, 1, 256⟩ = (⟨-2, 0, 0, 0, 10, 10, 1, 256⟩, ⟨18, 0, 90, 0, 10, 10, 1, 256⟩) := by decide +kernel
theorem solves_over : overB ⟨0, 0, 90, 0, 10, 10, 1, 256⟩ ⟨15, 0, 0, 0, 10, 10, 1, 256⟩ = true := by decide +kernel

set_option maxHeartbeats 1000000 in
theorem solves_any (w : World) : Calls Try.prog 63 #[] w fun e w' => e = .returned (.bool true) ∧ Below w.heap.size w w' := by
  have c1 := meet_any ⟨0, 0, 90, 0, 10, 10, 1, 256⟩ ⟨15, 0, 0, 0, 10, 10, 1, 256⟩
  rw [solves_met, solves_over] at c1
  unfold retV rowV at c1
  go_enter Try.func63, Try.ntmps63
  go_wp2_with fail
  refine (c1 _).mono ?_
  rintro e w1 ⟨rfl, hb⟩
  have h0 : Hid (Below w.heap.size w w1) := hb
  clear hb c1
  go_wp2
  go_ret
  exact ⟨rfl, bal (bal h0.out _) _⟩

theorem cellsI : Try.prog.cellsOf 3 = 1 := by kernel_rfl
theorem cellsR : Try.prog.cellsOf 30 = 8 := by kernel_rfl
def rowCells (r : R8) : List Value := [.int .i64 r.x, .int .i64 r.y, .int .i64 r.px, .int .i64 r.py, .int .i64 r.wd, .int .i64 r.ht, .int .i64 r.ms, .int .i64 r.rr]

section
variable {H : Type} {enc : TypeId × Value → H} {W : World}
set_option maxRecDepth 100000 in
theorem row_fields {fuel : Nat} {cs : List Value} {x : DataW H × List MemPlace} (h : DataW.trod enc Try.prog W 0 (fun _ => true) true fuel 30 cs = some x) : ∃ r : R8, cs = rowCells r := by
  obtain ⟨xs, n, _, rfl, hl, hlen, hf⟩ := DataW.trod_struct Try.underlying30 h
  rw [cellsR] at hl
  match cs, hl with
  | [c0, c1, c2, c3, c4, c5, c6, c7], _ =>
    match xs, hlen with
    | [y0, y1, y2, y3, y4, y5, y6, y7], _ =>
      have k : ∀ {c : Value} {y : DataW H × List MemPlace}, DataW.trod enc Try.prog W 0 (fun _ => true) true n 3 [c] = some y → ∃ q, c = .int .i64 q := fun hq => by
        obtain ⟨q, e, _⟩ := DataW.trod_int Try.underlying3 hq
        exact ⟨q, by simpa using e⟩
      have g0 := hf 0 _ rfl
      have g1 := hf 1 _ rfl
      have g2 := hf 2 _ rfl
      have g3 := hf 3 _ rfl
      have g4 := hf 4 _ rfl
      have g5 := hf 5 _ rfl
      have g6 := hf 6 _ rfl
      have g7 := hf 7 _ rfl
      simp [cellsI] at g0 g1 g2 g3 g4 g5 g6 g7
      obtain ⟨q0, rfl⟩ := k g0
      obtain ⟨q1, rfl⟩ := k g1
      obtain ⟨q2, rfl⟩ := k g2
      obtain ⟨q3, rfl⟩ := k g3
      obtain ⟨q4, rfl⟩ := k g4
      obtain ⟨q5, rfl⟩ := k g5
      obtain ⟨q6, rfl⟩ := k g6
      obtain ⟨q7, rfl⟩ := k g7
      exact ⟨⟨q0, q1, q2, q3, q4, q5, q6, q7⟩, rfl⟩
set_option maxRecDepth 100000 in
/-- A row that came in. -/
theorem open_row {r : Reach} {b0 : Nat} {v : Value} {d : DataW H} {p : List MemPlace} (hv : Value.okWide Try.prog W r b0 30 v) (h : DataW.Trod enc Try.prog W 0 (fun _ => true) true 30 v d p) :
    ∃ x : R8, v = rowV x := by
  obtain ⟨cs, rfl, _⟩ := okWide_struct Try.underlying30 hv
  obtain ⟨fuel, hf⟩ := h
  obtain ⟨x, hx⟩ := row_fields hf
  refine ⟨x, ?_⟩
  have : cs.toList = rowCells x := by simpa [Value.cells] using hx
  rw [← Array.toArray_toList (xs := cs), this]
  rfl
end

def eqR (r s : R8) : Bool := r.x == s.x && r.y == s.y && r.px == s.px && r.py == s.py && r.wd == s.wd && r.ht == s.ht && r.ms == s.ms && r.rr == s.rr
theorem eqR_self (r : R8) : eqR r r = true := by simp [eqR]
theorem eqRow_n (d : Nat) (x y px py wd ht ms rr x' y' px' py' wd' ht' ms' rr' : Int) (w : World) :
    (Op.equalIn (d + 2) 30 (.agg #[.int .i64 x, .int .i64 y, .int .i64 px, .int .i64 py, .int .i64 wd, .int .i64 ht, .int .i64 ms, .int .i64 rr]) (.agg #[.int .i64 x', .int .i64 y', .int .i64 px', .int .i64 py', .int .i64 wd', .int .i64 ht', .int .i64 ms', .int .i64 rr'])).run Try.prog w = .ok (eqR ⟨x, y, px, py, wd, ht, ms, rr⟩ ⟨x', y', px', py', wd', ht', ms', rr'⟩) w := by
  have h1 : Try.prog.underlying 30 = some (.struct (Try.prog.fieldsOf 30)) := by kernel_rfl
  have h2 : Try.prog.stoodInHeld 30 = false := by kernel_rfl
  rw [run_equalIn_struct w (d + 1) 30 _ _ h1 h2]
  simp [go_sem, Try.underlying30, Try.underlying3]
  unfold eqR
  by_cases a1 : x = x' <;> by_cases a2 : y = y' <;> by_cases a3 : px = px' <;> by_cases a4 : py = py' <;> by_cases a5 : wd = wd' <;> by_cases a6 : ht = ht' <;> by_cases a7 : ms = ms' <;> by_cases a8 : rr = rr' <;> simp [a1, a2, a3, a4, a5, a6, a7, a8]
theorem eqlOf {n : Nat} {P : Program} {w : World} {t : TypeId} {xs ys : Array Value} (h : n = 10000) {v : Bool} (e : (Op.equalIn n t (.agg xs) (.agg ys)).run P w = .ok v w) :
    (binOp .eql t (.agg xs) (.agg ys)).run P w = .ok (.bool v) w := by
  subst h
  rw [run_eql_struct, e]
  rfl
/-- Two rows held against each other. -/
theorem eqRow (r s : R8) (w : World) : (binOp .eql 30 (rowV r) (rowV s)).run Try.prog w = .ok (.bool (eqR r s)) w :=
  eqlOf (n := 9998 + 2) rfl (eqRow_n 9998 _ _ _ _ _ _ _ _ _ _ _ _ _ _ _ _ w)
end Go.Proofs.Ytckkkdldljhehaa
