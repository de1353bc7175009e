/- Part of the proofs of GamePlays and GameRuns (package ninepinslaw): contracts of the functions that they call. -/
import Derived.Deep.DrawnRows
import Derived.Test.YtckkkdldljhehacGreatPkR
import Derived.Test.YtckkkdldljhehacGreatPkM
import Derived.Test.YtckkkdldljhehacGreatPkQ
import Derived.Test.YtckkkdldljhehacGreatPkT
import Derived.Test.YtckkkdldljhehacGreatPkY
import Derived.Test.YtckkkdldljhehacGreatPkZ1
import Derived.Test.YtckkkdldljhehacGreatPkRA
import Derived.Test.YtckkkdldljhehacGreatPkDQ
namespace Go.Proofs.YtckkkdldljhehacGreat
namespace Rf
open Num St Mp Th Wd Gm Ws
open Go.ChangeShapes Go.WideShapes Go.ChangeAt Go.RowKit
theorem rep_short {s : Gp} (h : GoodG s) (a : Ac) : (doG s a).2.ids.length ≤ 10 ∧ (doG s a).2.met.length ≤ 800 := by
 unfold doG
 split
 ·exact ⟨by simp [no], by simp [no]⟩
 ·split
  ·split
   ·exact ⟨by simp [no], by simp [no]⟩
   ·exact ⟨by simp, by simp⟩
  ·split
   ·split
    ·exact ⟨by simp [no], by simp [no]⟩
    ·exact ⟨by simp [no], by simp [no]⟩
   ·exact rep_len h.now a
attribute [local go_sem ↓] Go.wp_at_zero Go.wp_at_succ
end Rf
end Go.Proofs.YtckkkdldljhehacGreat
