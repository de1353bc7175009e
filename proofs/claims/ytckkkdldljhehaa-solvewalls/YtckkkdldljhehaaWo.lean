/- What WallOf of package ninepinsref answers when called, in whatever world: the same plain numbers as Wall of package solve. Conditions: each number is within 2^28. -/
import Derived.Test.YtckkkdldljhehaaRef
import Derived.Test.YtckkkdldljhehaaSoA
namespace Go.Proofs.Ytckkkdldljhehaa
open Go.ChangeShapes Go.WideShapes Go.ChangeAt Go.RowKit
open Num

set_option maxHeartbeats 1000000 in
theorem wallOf_any (at' push half wide back : Int) (h2 : -268435456 ≤ push ∧ push ≤ 268435456) (h3 : -268435456 ≤ half ∧ half ≤ 268435456) (h4 : -268435456 ≤ wide ∧ wide ≤ 268435456) (w : World) :
    Calls Try.prog 67 #[.int .i64 at', .int .i64 push, .int .i64 half, .int .i64 wide, .int .i64 back] w fun e w' => e = .returned (.tuple #[.int .i64 (wallAt at' half wide), .int .i64 (wallPush at' push half wide back)]) ∧ w' = w := by
  have k := left_le push back h2
  have k1 : 0 ≤ ab push ∧ ab push ≤ 268435456 := by unfold ab; omega
  have hs : (0 ≤ push ∧ ab push = push) ∨ (push < 0 ∧ ab push = -push) := by unfold ab; omega
  have hf : (wide - half < half) ∨ (half ≤ wide - half) := by omega
  unfold wallAt wallPush
  rcases hs with ⟨s1, s2⟩ | ⟨s1, s2⟩ <;> rw [s2] at k k1 ⊢ <;> rcases hf with hf | hf
  all_goals
    by_cases c1 : at' < half
    · rw [if_pos c1, if_pos c1]
      clear s2
      go_enter Try.func67, Try.ntmps67
      go_wp2_with (first | (go_at_call 17; refine (withinOf_any _ _ (by omega) (by omega) _).mono ?_; rintro e w' ⟨rfl, rfl⟩) | (go_at_call 21; refine (partOf_any _ _ _ _).mono ?_; rintro e w' ⟨rfl, rfl⟩))
      exact bodyPost_ret (by simp [results, Try.results67, go_sem] <;> first | exact ⟨rfl, rfl⟩ | rfl) rfl ⟨rfl, rfl⟩
    rw [if_neg c1, if_neg c1]
    by_cases c2 : max (wide - half) half < at'
    · rw [if_pos c2, if_pos c2]
      clear s2
      go_enter Try.func67, Try.ntmps67
      go_wp2_with (first | (go_at_call 17; refine (withinOf_any _ _ (by omega) (by omega) _).mono ?_; rintro e w' ⟨rfl, rfl⟩) | (go_at_call 21; refine (partOf_any _ _ _ _).mono ?_; rintro e w' ⟨rfl, rfl⟩))
      exact bodyPost_ret (by simp [results, Try.results67, go_sem] <;> first | exact ⟨rfl, rfl⟩ | rfl) rfl ⟨ret2 (by omega) rfl, rfl⟩
    · rw [if_neg c2, if_neg c2]
      clear s2
      go_enter Try.func67, Try.ntmps67
      go_wp2_with (first | (go_at_call 17; refine (withinOf_any _ _ (by omega) (by omega) _).mono ?_; rintro e w' ⟨rfl, rfl⟩) | (go_at_call 21; refine (partOf_any _ _ _ _).mono ?_; rintro e w' ⟨rfl, rfl⟩))
      exact bodyPost_ret (by simp [results, Try.results67, go_sem] <;> first | exact ⟨rfl, rfl⟩ | rfl) rfl ⟨rfl, rfl⟩
end Go.Proofs.Ytckkkdldljhehaa
