/- What sweeps of package ninepinskeep answers when called: true; nothing that was in memory before has changed. Pairs held against each other. -/
import Derived.Test.YtckkkdldljhehaaKtSwJ
import Derived.WalkSmall
namespace Go.Proofs.Ytckkkdldljhehaa.Sw
open Go.ChangeShapes Go.WideShapes Go.ChangeAt Go.RowKit Go.Sort Go.Shelf Go.Lib

theorem eq79n (d : Nat) (x y x' y' : Int) (w : World) :
    (Op.equalIn (d + 2) 79 (.agg #[.int .i64 x, .int .i64 y]) (.agg #[.int .i64 x', .int .i64 y'])).run Try.prog w = .ok (x == x' && y == y') w := by
  have h1 : Try.prog.underlying 79 = some (.struct (Try.prog.fieldsOf 79)) := by kernel_rfl
  have h2 : Try.prog.stoodInHeld 79 = false := by kernel_rfl
  rw [run_equalIn_struct w (d + 1) 79 _ _ h1 h2]
  simp [go_sem, Try.underlying79, Try.underlying3]
  by_cases a1 : x = x' <;> by_cases a2 : y = y' <;> simp [a1, a2]
theorem eqlOf {n : Nat} {P : Program} {w : World} {t : TypeId} {xs ys : Array Value} (h : n = 10000) {v : Bool} (e : (Op.equalIn n t (.agg xs) (.agg ys)).run P w = .ok v w) :
    (binOp .eql t (.agg xs) (.agg ys)).run P w = .ok (.bool v) w := by
  subst h
  rw [run_eql_struct, e]
  rfl
/-- Two pairs held against each other. -/
theorem eq79 (x y x' y' : Int) (w : World) :
    (binOp .eql 79 (.agg #[.int .i64 x, .int .i64 y]) (.agg #[.int .i64 x', .int .i64 y'])).run Try.prog w = .ok (.bool (x == x' && y == y')) w :=
  eqlOf (n := 9998 + 2) rfl (eq79n 9998 _ _ _ _ w)

def two : List B5 := [⟨4, 0, 0, 9, 9⟩, ⟨2, 5, 5, 20, 20⟩]
theorem sortI_two : sortI [4, 2] = [2, 4] := by
  simp [sortI, List.mergeSort, List.MergeSort.Internal.splitInTwo]
theorem two_pairs : pairsG two = [(2, 4)] := by
  have h1 : goodB two = true := by
    unfold goodB oneB two
    simp only [List.map_cons, List.map_nil]
    rw [sortI_two]
    decide
  have h2 : pairsOf two = [(2, 4)] := by decide
  unfold pairsG
  rw [h1, h2]
  simp [sortP]

set_option maxHeartbeats 1000000 in
set_option maxRecDepth 100000 in
theorem sweeps_any (w : World) : Calls Try.prog 56 #[] w fun e w' => e = .returned (.bool true) ∧ RowKit.Below w.heap.size w w' := by
  have e79 := eq79
  have HP := hid (pairs_any (some ⟨w.heap.size, 0, none⟩) 2 2 two (w.alloc (.cells #[.int .i64 4, .int .i64 0, .int .i64 0, .int .i64 9, .int .i64 9, .int .i64 2, .int .i64 5, .int .i64 5, .int .i64 20, .int .i64 20] 70)) rfl (by omega) (fun h => by cases h) (fun _ => ⟨w.heap.size, 0, rfl, by simp, fun i x hi => by
    match i, hi with
    | 0, hi => cases hi; simp
    | 1, hi => cases hi; simp⟩))
  rw [two_pairs] at HP
  go_enter Try.func56, Try.ntmps56
  go_wp2_with fail
  refine HP.out.mono ?_
  rintro e w1 ⟨⟨v, rfl, h1⟩, h2⟩
  have H2 := hid (bcall (bal (Below.refl _ w) _) h2)
  obtain ⟨a, c, rfl, ha⟩ := owns_slice h1
  obtain ⟨g, rfl⟩ := ha (by decide)
  obtain ⟨c0, c1⟩ := pair_at h1 (i := 0) rfl
  simp only [List.length_cons, List.length_nil] at *
  clear h1 h2 ha
  go_wp2_with fail
  go_ret
  exact ⟨rfl, H2.out⟩
end Go.Proofs.Ytckkkdldljhehaa.Sw
