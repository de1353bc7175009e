/- What the two functions fixes of packages ninepinslaw and ninepinskeep answer when called: true; memory is as it was. No conditions. -/
import Derived.Test.YtckkkdldljhehaaFix
import Derived.WalkKit
import Derived.ProofKit
import Derived.OpenShut
namespace Go.Proofs.Ytckkkdldljhehaa
open Go.ChangeShapes Go.WideShapes Go.ChangeAt Go.RowKit
open Num (wi ad pa)

set_option maxHeartbeats 400000 in
theorem fixes12 (w : World) : Calls Try.prog 22 #[] w fun e w' => e = .returned (.bool true) ∧ w' = w := by
  have e1 : (ad 7 9 10 == 10) = true := by decide +kernel
  have e2 : (pa (-7) 3 2 == -10) = true := by decide +kernel
  go_enter Try.func22, Try.ntmps22
  go_wp2_with (first | (go_at_call 18; refine (add_any _ _ _ (by omega) (by omega) _).mono ?_; rintro e w' ⟨rfl, rfl⟩) | (go_at_call 20; refine (part_any _ _ _ _).mono ?_; rintro e w' ⟨rfl, rfl⟩))
  go_ret
  exact ⟨rfl, rfl⟩

set_option maxHeartbeats 400000 in
theorem fixes5 (w : World) : Calls Try.prog 15 #[] w fun e w' => e = .returned (.bool true) ∧ w' = w := by
  have e1 : (ad 7 9 10 == 10) = true := by decide +kernel
  have e2 : (pa (-7) 3 2 == -10) = true := by decide +kernel
  go_enter Try.func15, Try.ntmps15
  go_wp2_with (first | (go_at_call 18; refine (add_any _ _ _ (by omega) (by omega) _).mono ?_; rintro e w' ⟨rfl, rfl⟩) | (go_at_call 20; refine (part_any _ _ _ _).mono ?_; rintro e w' ⟨rfl, rfl⟩))
  go_ret
  exact ⟨rfl, rfl⟩
end Go.Proofs.Ytckkkdldljhehaa
