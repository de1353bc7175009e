/- What Within, Add and Part of package fix answer when called, in whatever world: each returns the plain number of the text before, and the world stands. Conditions: the numbers fit 64 bits; the bound is not below 0. -/
import Derived.Test.YtckkkdldljhehaaRows
import Derived.Test.YtckkkdldljhehaaNum
import Derived.WalkKit
import Derived.ProofKit
import Derived.OpenShut
namespace Go.Proofs.Ytckkkdldljhehaa
open Go.ChangeShapes Go.WideShapes Go.ChangeAt Go.RowKit
open Num (wi ad pa)

theorem wrap_id (x : Int) (h1 : -9223372036854775808 ≤ x) (h2 : x ≤ 9223372036854775807) : wrap64 x = x := by unfold wrap64; omega
theorem ret_int {k : IntKind} {a b : Int} (h : a = b) : Ending.returned (.int k a) = .returned (.int k b) := by rw [h]

set_option maxHeartbeats 400000 in
theorem within_any (n m : Int) (h0 : 0 ≤ m) (h1 : m ≤ 9223372036854775807) (w : World) :
    Calls Try.prog 16 #[.int .i64 n, .int .i64 m] w fun e w' => e = .returned (.int .i64 (wi n m)) ∧ w' = w := by
  go_enter Try.func16, Try.ntmps16
  go_wp2
  all_goals
    go_ret
    exact ⟨ret_int (by unfold wi; omega), rfl⟩

set_option maxHeartbeats 400000 in
theorem add_any (a b m : Int) (h0 : 0 ≤ m) (h1 : m ≤ 9223372036854775807) (w : World) :
    Calls Try.prog 18 #[.int .i64 a, .int .i64 b, .int .i64 m] w fun e w' => e = .returned (.int .i64 (ad a b m)) ∧ w' = w := by
  by_cases hm : m ≤ 1099511627776
  · have ha := Num.wi_le a m h0
    have hb := Num.wi_le b m h0
    go_enter Try.func18, Try.ntmps18
    go_wp2_with (go_at_call 16; refine (within_any _ _ (by omega) (by omega) _).mono ?_; rintro e w' ⟨rfl, rfl⟩)
    all_goals
      go_ret
      exact ⟨ret_int (by unfold ad; rw [Int.min_eq_left hm]), rfl⟩
  · have ha := Num.wi_le a 1099511627776 (by omega)
    have hb := Num.wi_le b 1099511627776 (by omega)
    go_enter Try.func18, Try.ntmps18
    go_wp2_with (go_at_call 16; refine (within_any _ _ (by omega) (by omega) _).mono ?_; rintro e w' ⟨rfl, rfl⟩)
    all_goals
      go_ret
      exact ⟨ret_int (by unfold ad; rw [Int.min_eq_right (by omega)]), rfl⟩

set_option maxHeartbeats 400000 in
theorem part_any (n a b : Int) (w : World) :
    Calls Try.prog 20 #[.int .i64 n, .int .i64 a, .int .i64 b] w fun e w' => e = .returned (.int .i64 (pa n a b)) ∧ w' = w := by
  by_cases hb : b = 0
  · go_enter Try.func20, Try.ntmps20
    go_wp2
    go_ret
    exact ⟨ret_int (by unfold pa; rw [if_pos hb]), rfl⟩
  · have hp := Num.prod_le n a
    have hz := Num.wi_ne b 268435456 (by omega) hb
    have hw := Num.wi_le b 268435456 (by omega)
    go_enter Try.func20, Try.ntmps20
    go_wp2_with (go_at_call 16; refine (within_any _ _ (by omega) (by omega) _).mono ?_; rintro e w' ⟨rfl, rfl⟩)
    go_ret
    exact ⟨ret_int (by have hq := Num.pa_le n a b; unfold pa at hq ⊢; rw [if_neg hb] at hq ⊢; exact wrap_id _ (by omega) (by omega)), rfl⟩

end Go.Proofs.Ytckkkdldljhehaa
