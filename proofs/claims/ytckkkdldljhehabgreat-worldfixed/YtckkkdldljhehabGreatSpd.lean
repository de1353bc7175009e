/- What Speed of package solve answers when called: how far a thing comes in one step; nothing that was in memory before has changed. -/
import Derived.Test.YtckkkdldljhehabGreatSoG
namespace Go.Proofs.YtckkkdldljhehabGreat
open Go.ChangeShapes Go.WideShapes Go.ChangeAt Go.RowKit
open Num
set_option maxHeartbeats 1000000 in
theorem Speed_any (a : R8) (w : World) :
    Calls Tryz.prog 83 #[rowV a] w fun e w' => e = .returned (.tuple #[.int .i64 (spd a.px a.ms), .int .i64 (spd a.py a.ms)]) ∧ Below w.heap.size w w' := by
  obtain ⟨x, y, px, py, wd, ht, ms, rr⟩ := a
  unfold rowV
  go_enter Tryz.func83, Tryz.ntmps83
  go_wp2
  go_quiet (first | (go_at_call 113; exact Calls.quiet_of_same (speed_any _ _ _)))
  go_wp2
  exact bodyPost_ret (by simp [results, Tryz.results83, go_sem] <;> first | exact ⟨rfl, rfl⟩ | rfl) rfl ⟨rfl, by repeat (first | exact Below.refl _ _ | refine Below.drew ?_ | refine bdrewN ?_ _ | refine bal ?_ _)⟩
end Go.Proofs.YtckkkdldljhehabGreat
