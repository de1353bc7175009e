/- What Only, goodParts and GoodRow of package store answer when called, in whatever world: each returns the plain answer named here; nothing that was in memory before has changed. No conditions. -/
import Derived.Test.YtckkkdldljhehaaStRow
namespace Go.Proofs.Ytckkkdldljhehaa.St
open Go.Proofs.Ytckkkdldljhehaa.Num
open Go.ChangeShapes Go.WideShapes Go.ChangeAt Go.RowKit

set_option maxHeartbeats 400000 in
theorem only_any (m : Int) (x y px py wd ht ms rr : Int) (w : World) :
    Calls Try.prog 28 #[.int .i64 m, .agg #[.int .i64 x, .int .i64 y, .int .i64 px, .int .i64 py, .int .i64 wd, .int .i64 ht, .int .i64 ms, .int .i64 rr]] w
      fun e w' => e = .returned (rowV (onlyR m ⟨x, y, px, py, wd, ht, ms, rr⟩)) ∧ Below w.heap.size w w' := by
  go_enter Try.func28, Try.ntmps28
  go_wp2_with fail
  refine (lay_any _ _ _ _ _ _ _ _ _ _ _ _ _ _ _ _ _ _).mono ?_
  rintro e w1 ⟨rfl, hb⟩
  obtain ⟨hc, hf⟩ := bcell hb
  have hz := hb.size
  simp at hz
  unfold rowV
  go_wp2
  refine bodyPost_ret (by simp [results, Try.results28, go_sem, hc]; rfl) rfl ⟨rfl, ?_⟩
  have h0 : Below w.heap.size w w1 := bcall (bal (bal (Below.refl _ _) _) _) hb
  iterate 8 refine Below.setCell ?_ (by simp) _
  exact h0

def goodPartsB (m : Int) (r : R8) : Bool :=
  if hasB m 4 && !(btw r.wd 1 4096 && btw r.ht 1 4096) then false else
  if hasB m 8 && !(btw r.ms 1 9) then false else
  btw r.x (-1048576) 1048576 && btw r.y (-1048576) 1048576 && btw r.px (-16777216) 16777216 && btw r.py (-16777216) 16777216 && btw r.rr 0 256

set_option maxHeartbeats 400000 in
theorem goodParts_any (m : Int) (x y px py wd ht ms rr : Int) (w : World) :
    Calls Try.prog 72 #[.int .i64 m, .agg #[.int .i64 x, .int .i64 y, .int .i64 px, .int .i64 py, .int .i64 wd, .int .i64 ht, .int .i64 ms, .int .i64 rr]] w
      fun e w' => e = .returned (.bool (goodPartsB m ⟨x, y, px, py, wd, ht, ms, rr⟩)) ∧ Below w.heap.size w w' := by
  go_enter Try.func72, Try.ntmps72
  go_wp2_with (first | (go_at_call 77; refine (has_any _ _ _).mono ?_; rintro e w' ⟨rfl, rfl⟩) | (go_at_call 70; refine (between_any _ _ _ _).mono ?_; rintro e w' ⟨rfl, rfl⟩))
  all_goals
    go_ret
    exact ⟨ret_bool (by simp_all [goodPartsB]), bal (Below.refl _ _) _⟩

def eqR (r s : R8) : Bool := r.x == s.x && r.y == s.y && r.px == s.px && r.py == s.py && r.wd == s.wd && r.ht == s.ht && r.ms == s.ms && r.rr == s.rr
def goodRowB (m : Int) (r : R8) : Bool := btw m 1 31 && (eqR r (onlyR m r) && goodPartsB m r)

theorem eq30n (d : Nat) (x y px py wd ht ms rr x' y' px' py' wd' ht' ms' rr' : Int) (w : World) :
    (Op.equalIn (d + 2) 30 (.agg #[.int .i64 x, .int .i64 y, .int .i64 px, .int .i64 py, .int .i64 wd, .int .i64 ht, .int .i64 ms, .int .i64 rr]) (.agg #[.int .i64 x', .int .i64 y', .int .i64 px', .int .i64 py', .int .i64 wd', .int .i64 ht', .int .i64 ms', .int .i64 rr'])).run Try.prog w = .ok (eqR ⟨x, y, px, py, wd, ht, ms, rr⟩ ⟨x', y', px', py', wd', ht', ms', rr'⟩) w := by
  have h1 : Try.prog.underlying 30 = some (.struct (Try.prog.fieldsOf 30)) := by kernel_rfl
  have h2 : Try.prog.stoodInHeld 30 = false := by kernel_rfl
  rw [run_equalIn_struct w (d + 1) 30 _ _ h1 h2]
  simp [go_sem, Try.underlying30, Try.underlying3]
  unfold eqR
  by_cases a1 : x = x' <;> by_cases a2 : y = y' <;> by_cases a3 : px = px' <;> by_cases a4 : py = py' <;> by_cases a5 : wd = wd' <;> by_cases a6 : ht = ht' <;> by_cases a7 : ms = ms' <;> by_cases a8 : rr = rr' <;> simp [a1, a2, a3, a4, a5, a6, a7, a8]
theorem eqlOf {n : Nat} {P : Program} {w : World} {t : TypeId} {xs ys : Array Value} (h : n = 10000) {v : Bool} (e : (Op.equalIn n t (.agg xs) (.agg ys)).run P w = .ok v w) :
    (binOp .eql t (.agg xs) (.agg ys)).run P w = .ok (.bool v) w := by
  subst h
  rw [run_eql_struct, e]
  rfl
/-- Two rows held against each other. -/
theorem eq30 (x y px py wd ht ms rr x' y' px' py' wd' ht' ms' rr' : Int) (w : World) :
    (binOp .eql 30 (.agg #[.int .i64 x, .int .i64 y, .int .i64 px, .int .i64 py, .int .i64 wd, .int .i64 ht, .int .i64 ms, .int .i64 rr]) (.agg #[.int .i64 x', .int .i64 y', .int .i64 px', .int .i64 py', .int .i64 wd', .int .i64 ht', .int .i64 ms', .int .i64 rr'])).run Try.prog w = .ok (.bool (eqR ⟨x, y, px, py, wd, ht, ms, rr⟩ ⟨x', y', px', py', wd', ht', ms', rr'⟩)) w :=
  eqlOf (n := 9998 + 2) rfl (eq30n 9998 _ _ _ _ _ _ _ _ _ _ _ _ _ _ _ _ w)
end Go.Proofs.Ytckkkdldljhehaa.St
