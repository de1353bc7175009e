/- One thing that moves in a world, and where it is a step later: plain numbers, no program. -/
import Derived.Test.YtckkkdldljhehacGreatPkJ
namespace Go.Proofs.YtckkkdldljhehacGreat.Wd
open Go.Proofs.YtckkkdldljhehacGreat.Num Go.Proofs.YtckkkdldljhehacGreat.St
open Go.ChangeShapes Go.WideShapes Go.ChangeAt Go.RowKit

def r500 : R8 := ⟨500, 500, 14, 0, 0, 0, 2, 0⟩
def r507 : R8 := ⟨507, 500, 14, 0, 0, 0, 2, 0⟩
def one500 : List Tab := [⟨11, [0], [r500]⟩]
theorem spawn500 : spawnS 0 [] 11 r500 = (one500, 1, 0, 0) := by
  have h : goodRowB 11 r500 = true := by decide
  unfold spawnS
  rw [if_neg (by simp [h]), if_neg (by simp [allL])]
  rfl
theorem good500 : GoodL 1 one500 := by
  have := good_spawn good_nil 11 r500
  rw [spawn500] at this
  exact this
theorem ids500 : idsOf 11 one500 = [0] := by
  have h : gathR 11 one500 = [0] := by decide
  unfold idsOf
  rw [h]
  simp
theorem ids5 : idsOf 5 one500 = [] := by
  have h : gathR 5 one500 = [] := by decide
  unfold idsOf
  rw [h]
  simp
theorem pairs_none : Sw.pairsG [] = [] := by
  unfold Sw.pairsG
  rw [Sw.good_nil]
  simp [Sw.pairsOf, Sw.pairsFrom, Sw.sortP]
theorem mk500 : mk one500 0 = 11 := by decide
theorem rw500 : rw0 one500 0 = r500 := by decide
theorem step500 : (stepG one500 0 1000 1000).1 0 = r507 ∧ (stepG one500 0 1000 1000).2 = [] := by
  unfold stepG boxG
  rw [ids500, ids5]
  simp only [List.map_nil, pairs_none]
  unfold meetG goOnG wallG
  simp only [List.foldl_cons, List.foldl_nil]
  refine ⟨?_, trivial⟩
  unfold wall1 go1
  rw [putG_at, putG_at, mk500, rw500]
  decide
end Go.Proofs.YtckkkdldljhehacGreat.Wd
