/- What Meet and pair of package sweep, cmp.Compare and cmp.Or over numbers, and sweep's three comparisons made on the spot answer when called, in whatever world: the plain answers named here; nothing that was in memory before has changed. No conditions. -/
import Derived.Test.YtckkkdldljhehaaRows
import Derived.Test.YtckkkdldljhehaaKtSwPlain
import Derived.WalkKit
import Derived.ProofKit
import Derived.OpenShut
import Derived.RegionTactic
import Derived.BigRegion
import Derived.BigQuiet
import Derived.Deep.QuietTactic
import Derived.Deep.RegionWith
namespace Go.Proofs.Ytckkkdldljhehaa.Sw
open Go.ChangeShapes Go.WideShapes Go.ChangeAt Go.RowKit

theorem hid {p : Prop} (h : p) : Hid p := h
theorem ret_bool {a b : Bool} (h : a = b) : Ending.returned (.bool a) = .returned (.bool b) := by rw [h]
theorem ret_int {k : IntKind} {a b : Int} (h : a = b) : Ending.returned (.int k a) = .returned (.int k b) := by rw [h]
theorem bal {a w : World} (h : Below a.heap.size a w) (o : Obj) : Below a.heap.size a (w.alloc o) := h.alloc h.size o
theorem bcall {a w w' : World} (h : Below a.heap.size a w) (h' : Below w.heap.size w w') : Below a.heap.size a w' := h.trans (h'.mono h.size)

set_option maxHeartbeats 1000000 in
theorem meet_any (i x1 y1 x2 y2 i' x1' y1' x2' y2' : Int) (w : World) :
    Calls Try.prog 46 #[.agg #[.int .i64 i, .int .i64 x1, .int .i64 y1, .int .i64 x2, .int .i64 y2], .agg #[.int .i64 i', .int .i64 x1', .int .i64 y1', .int .i64 x2', .int .i64 y2']] w fun e w' => e = .returned (.bool (meetB ⟨i, x1, y1, x2, y2⟩ ⟨i', x1', y1', x2', y2'⟩)) ∧ Below w.heap.size w w' := by
  go_enter Try.func46, Try.ntmps46
  go_wp2
  all_goals
    go_ret
    exact ⟨ret_bool (by simp_all [meetB]; try (intros; omega)), bal (bal (Below.refl _ _) _) _⟩

set_option maxHeartbeats 1000000 in
theorem pair_any (a b : Int) (w : World) :
    Calls Try.prog 88 #[.int .i64 a, .int .i64 b] w fun e w' => e = .returned (.agg #[.int .i64 (if a ≤ b then a else b), .int .i64 (if a ≤ b then b else a)]) ∧ Below w.heap.size w w' := by
  by_cases h : a ≤ b
  · by_cases h' : b ≤ a
    · have e : a = b := by omega
      subst e
      go_enter Try.func88, Try.ntmps88
      go_wp2
      all_goals exact bodyPost_ret (v := .agg #[.int .i64 a, .int .i64 a]) (by simp [results, Try.results88, go_sem]) rfl ⟨by simp, bal (Below.refl _ _) _⟩
    · go_enter Try.func88, Try.ntmps88
      go_wp2
      all_goals exact bodyPost_ret (v := .agg #[.int .i64 a, .int .i64 b]) (by simp [results, Try.results88, go_sem]) rfl ⟨rfl, bal (Below.refl _ _) _⟩
  · have h' : b ≤ a := by omega
    go_enter Try.func88, Try.ntmps88
    go_wp2
    all_goals exact bodyPost_ret (v := .agg #[.int .i64 b, .int .i64 a]) (by simp [results, Try.results88, go_sem]) rfl ⟨rfl, bal (Below.refl _ _) _⟩

theorem isNaN_any (a : Int) (w : World) : Calls Try.prog 116 #[.int .i64 a] w fun e w' => e = .returned (.bool false) ∧ w' = w := by
  go_enter Try.func116, Try.ntmps116
  go_wp2
  all_goals (go_ret; exact ⟨by simp_all, rfl⟩)

theorem compare_any (a b : Int) (w : World) : Calls Try.prog 92 #[.int .i64 a, .int .i64 b] w fun e w' => e = .returned (.int .i64 (cmpI a b)) ∧ w' = w := by
  go_enter Try.func92, Try.ntmps92
  go_wp2_with (go_at_call 116; refine (isNaN_any _ _).mono ?_; rintro e w' ⟨rfl, rfl⟩)
  all_goals
    go_ret
    exact ⟨ret_int (by unfold cmpI; first | (rw [if_pos (by omega)]) | (rw [if_neg (by omega), if_pos (by omega)]) | (rw [if_neg (by omega), if_neg (by omega)])), rfl⟩

set_option maxHeartbeats 1000000 in
theorem or2_any (b off c : Nat) (x y : Int) (w : World) (h0 : w.cell? ⟨b, off, none⟩ = some (.int .i64 x)) (h1 : w.cell? ⟨b, off + 1, none⟩ = some (.int .i64 y)) :
    Calls Try.prog 91 #[.slice (some ⟨b, off, none⟩) 2 c] w fun e w' => e = .returned (.int .i64 (if x ≠ 0 then x else y)) ∧ w' = w := by
  by_cases hx : x = 0
  · subst hx
    go_enter Try.func91, Try.ntmps91
    go_wp2
    go_loop [8] (fun i => i = .int .i64 0 ∨ i = .int .i64 1 ∨ (i = .int .i64 2 ∧ y = 0)) (fun i => 2 - (intOf i).toNat)
    case atStart => exact Or.inl rfl
    case round =>
      rcases hrel with rfl | rfl | ⟨rfl, hy⟩
      · go_wp2
        go_round
        case rel => exact Or.inr (Or.inl rfl)
        case measure => simp [intOf]
      · by_cases hy : y = 0
        · go_wp2
          go_round
          case rel => exact Or.inr (Or.inr ⟨rfl, hy⟩)
          case measure => simp [intOf]
        · go_wp2
          go_ret
          exact ⟨by simp, rfl⟩
      · go_wp2
        go_ret
        exact ⟨by simp, rfl⟩
  · go_enter Try.func91, Try.ntmps91
    go_wp2
    go_loop [8] (fun i => i = .int .i64 0) (fun i => 2 - (intOf i).toNat)
    case atStart => rfl
    case round =>
      subst hrel
      go_wp2
      go_ret
      exact ⟨by simp, rfl⟩
end Go.Proofs.Ytckkkdldljhehaa.Sw
