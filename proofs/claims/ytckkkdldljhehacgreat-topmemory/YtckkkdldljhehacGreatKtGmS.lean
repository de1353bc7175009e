/- What play of package ninepinstop leads to, as a plain game; that it is good. Plain lists, no program. -/
import Derived.Test.YtckkkdldljhehacGreatKtGmM
namespace Go.Proofs.YtckkkdldljhehacGreat.Gm
open Go.Proofs.YtckkkdldljhehacGreat.Num Go.Proofs.YtckkkdldljhehacGreat.St Go.Proofs.YtckkkdldljhehacGreat.Wd
open Go.ChangeShapes Go.WideShapes Go.ChangeAt Go.RowKit

theorem size_in (size : Int) : 0 ≤ (wrap64 (size.tmod 1048576 + 1048576)).tmod 1048576 ∧ (wrap64 (size.tmod 1048576 + 1048576)).tmod 1048576 < 1048576 := by
  have h1 := Int.tmod_lt_of_pos size (show (0 : Int) < 1048576 by decide)
  have h2 : -1048576 < size.tmod 1048576 := by
    exact Int.lt_tmod_of_pos size (by decide)
  have e : wrap64 (size.tmod 1048576 + 1048576) = size.tmod 1048576 + 1048576 := by unfold wrap64; omega
  rw [e]
  exact ⟨Int.tmod_nonneg _ (by omega), Int.tmod_lt_of_pos _ (by decide)⟩
theorem fall_in (fall : Int) : -64 ≤ fall.tmod 65 ∧ fall.tmod 65 ≤ 64 := by
  have h1 := Int.tmod_lt_of_pos fall (show (0 : Int) < 65 by decide)
  have h2 := Int.lt_tmod_of_pos fall (show (0 : Int) < 65 by decide)
  omega
/-- How large a world play makes. -/
def szP (size : Int) : Int := (wrap64 (size.tmod 1048576 + 1048576)).tmod 1048576
def flP (fall : Int) : Int := fall.tmod 65
def doAll (s : Gp) (l : List Ac) : Gp := l.foldl (fun s a => (doG s a).1) s
/-- What play leads to. -/
def playP (size fall : Int) (l : List Ac) : Gp := doAll (newG (szP size + 1) (1048576 - szP size) (flP fall)) (l.take 60)
theorem GoodG.doAll {s : Gp} (h : GoodG s) (l : List Ac) : GoodG (doAll s l) := by
  induction l generalizing s with
  | nil => exact h
  | cons a l ih => exact ih (h.do a)
theorem take_snocA {l : List Ac} {k : Nat} {x : Ac} (hx : l[k]? = some x) : l.take (k + 1) = l.take k ++ [x] := by rw [List.take_add_one, hx]; rfl
theorem doAll_snoc (s : Gp) (l : List Ac) (a : Ac) : doAll s (l ++ [a]) = (doG (doAll s l) a).1 := by simp [doAll]
theorem newP_good (size fall : Int) : GoodG (newG (szP size + 1) (1048576 - szP size) (flP fall)) := by
  have h1 := size_in size
  have h2 := fall_in fall
  exact newGood ⟨good_nil, h2, by unfold szP; omega, by unfold szP; omega⟩
theorem playP_good (size fall : Int) (l : List Ac) : GoodG (playP size fall l) := (newP_good size fall).doAll _
end Go.Proofs.YtckkkdldljhehacGreat.Gm
