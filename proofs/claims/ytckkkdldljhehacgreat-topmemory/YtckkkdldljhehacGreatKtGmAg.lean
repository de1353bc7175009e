/- What was done since a save, done again, leads to the same: plain games, no program. -/
import Derived.Test.YtckkkdldljhehacGreatKtGmT
namespace Go.Proofs.YtckkkdldljhehacGreat.Gm
open Go.Proofs.YtckkkdldljhehacGreat.Num Go.Proofs.YtckkkdldljhehacGreat.St Go.Proofs.YtckkkdldljhehacGreat.Wd
open Go.ChangeShapes Go.WideShapes Go.ChangeAt Go.RowKit

def saveA : Ac := ⟨7, 0, 0, 0, ⟨0, 0, 0, 0, 0, 0, 0, 0⟩, ⟨0, 0, 0, 0, 0⟩⟩
def loadA (n : Int) : Ac := ⟨8, 0, n, 0, ⟨0, 0, 0, 0, 0, 0, 0, 0⟩, ⟨0, 0, 0, 0, 0⟩⟩
/-- An act, a step in the place of a save or a load. -/
def fixA (a : Ac) : Ac := if a.kind = 7 ∨ a.kind = 8 then { a with kind := 6 } else a
theorem fixA_kind (a : Ac) : (fixA a).kind ≠ 7 ∧ (fixA a).kind ≠ 8 := by
  unfold fixA
  split
  · exact ⟨by simp, by simp⟩
  · rename_i h; omega
theorem do_fix {s : Gp} (a : Ac) (h : s.acts < 150) : doG s (fixA a) = ({ s with now := (actW s.now (fixA a)).1, acts := s.acts + 1 }, (actW s.now (fixA a)).2) := by
  have hk := fixA_kind a
  unfold doG
  rw [if_neg (by omega), if_neg hk.1, if_neg hk.2]
def runW (x : Wp) (l : List Ac) : Wp := l.foldl (fun x a => (actW x (fixA a)).1) x
def repAt (x : Wp) (l : List Ac) (i : Nat) : Rep := (actW (runW x (l.take i)) (fixA (l.getD i zeroA))).2
def repsP (x : Wp) (l : List Ac) (k : Nat) : List Rep := (List.range k).map (repAt x l)
theorem repsP_len (x : Wp) (l : List Ac) (k : Nat) : (repsP x l k).length = k := by simp [repsP]
theorem repsP_at (x : Wp) (l : List Ac) {k i : Nat} (h : i < k) : (repsP x l k)[i]? = some (repAt x l i) := by simp [repsP, h]
theorem repsP_succ (x : Wp) (l : List Ac) (k : Nat) : repsP x l (k + 1) = repsP x l k ++ [repAt x l k] := by simp [repsP, List.range_succ]
theorem take_snocB {l : List Ac} {k : Nat} {a : Ac} (hx : l[k]? = some a) : l.take (k + 1) = l.take k ++ [a] := by rw [List.take_add_one, hx]; rfl
theorem runW_succ (x : Wp) {l : List Ac} {k : Nat} {a : Ac} (hx : l[k]? = some a) : runW x (l.take (k + 1)) = (actW (runW x (l.take k)) (fixA a)).1 := by
  rw [take_snocB hx]
  simp [runW]
theorem repAt_eq (x : Wp) {l : List Ac} {k : Nat} {a : Ac} (hx : l[k]? = some a) : repAt x l k = (actW (runW x (l.take k)) (fixA a)).2 := by
  unfold repAt
  rw [List.getD_eq_getElem?_getD, hx]
  rfl
theorem GoodW.runW {x : Wp} (h : GoodW x) (l : List Ac) : GoodW (runW x l) := by
  induction l generalizing x with
  | nil => exact h
  | cons a l ih => exact ih (h.act _)
/-- How long a reply's lists are. -/
theorem rep_len {x : Wp} (h : GoodW x) (a : Ac) : (actW x a).2.ids.length ≤ 10 ∧ (actW x a).2.met.length ≤ 800 := by
  have h0 : ∀ c, (no c).ids.length ≤ 10 ∧ (no c).met.length ≤ 800 := fun c => ⟨by simp [no], by simp [no]⟩
  unfold actW
  split
  · exact ⟨by simp [spawnW], by simp [spawnW]⟩
  · split
    · exact h0 _
    · split
      · unfold giveW
        split
        · split
          · exact h0 _
          · exact h0 _
        · exact h0 _
      · split
        · unfold takeW
          split
          · split
            · exact h0 _
            · exact h0 _
          · exact h0 _
        · split
          · unfold kickW
            split
            · split
              · exact h0 _
              · exact h0 _
            · exact h0 _
          · split
            · unfold goW
              split
              · exact h0 _
              · rename_i hn
                have hl := stepsM_len h a.n.toNat
                exact ⟨by simp, by show (stepsM a.n.toNat x).length ≤ 800; omega⟩
            · split
              · refine ⟨?_, by simp⟩
                show (Sw.lookP (boxG x.L (rw0 x.L)) a.box).length ≤ 10
                unfold Sw.lookP
                split
                · unfold Sw.sortI
                  rw [List.length_mergeSort]
                  refine Nat.le_trans (Sw.lookL_len _ _) ?_
                  unfold boxG
                  rw [List.length_map]
                  exact ids_len h.l
                · simp
              · exact h0 _
/-- A save: refused, or the world as it is is among those that are saved. -/
theorem do_saveA {s : Gp} (h : s.acts < 150) : (doG s saveA).2.code ≠ 0 ∨ doG s saveA = (⟨s.now, s.saves ++ [s.now], s.acts + 1⟩, ⟨0, (s.saves.length : Int), [], []⟩) := by
  unfold doG
  rw [if_neg (by omega), if_pos (show saveA.kind = 7 from rfl)]
  split
  · exact Or.inl (by simp [no])
  · exact Or.inr rfl
theorem do_loadA {s : Gp} (h : s.acts < 150) {S : List Wp} {x : Wp} (hs : s.saves = S ++ [x]) : doG s (loadA (S.length : Int)) = ({ s with now := x, acts := s.acts + 1 }, no 0) := by
  unfold doG
  rw [if_neg (by omega), if_neg (by simp [loadA]), if_pos (show (loadA (S.length : Int)).kind = 8 from rfl), if_pos (by rw [hs]; simp [loadA]; omega)]
  have e : s.saves.getD (loadA (S.length : Int)).n.toNat s.now = x := by
    rw [hs]
    simp [loadA]
  rw [e]
end Go.Proofs.YtckkkdldljhehacGreat.Gm
