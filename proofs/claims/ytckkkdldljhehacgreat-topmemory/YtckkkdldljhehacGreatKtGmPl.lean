/- A game as plain tables and numbers: what comes of an act; that its worlds stay good. Plain lists, no program. -/
import Derived.Test.YtckkkdldljhehacGreatPkG
import Derived.Test.YtckkkdldljhehacGreatPkJ
import Derived.Test.YtckkkdldljhehacGreatPkL
namespace Go.Proofs.YtckkkdldljhehacGreat.Gm
open Go.RowKit (wrap64)
open Go.Proofs.YtckkkdldljhehacGreat.Num Go.Proofs.YtckkkdldljhehacGreat.St Go.Proofs.YtckkkdldljhehacGreat.Wd

/-- A world: its tables, the next number, how it falls, how wide and high it is. -/
structure Wp where
  L : List Tab
  next : Int
  fall : Int
  wide : Int
  high : Int
structure GoodW (x : Wp) : Prop where
  l : GoodL x.next x.L
  fall : -64 ≤ x.fall ∧ x.fall ≤ 64
  wide : 1 ≤ x.wide ∧ x.wide ≤ 1048576
  high : 1 ≤ x.high ∧ x.high ≤ 1048576
/-- A reply's four parts. -/
structure Rep where
  code : Int
  n : Int
  ids : List Int
  met : List (Int × Int)
def no (e : Int) : Rep := ⟨e, 0, [], []⟩
/-- An act. -/
structure Ac where
  kind : Int
  id : Int
  n : Int
  mask : Int
  row : R8
  box : Sw.B5
/-- A game: the world, those that are saved, how many acts were done. -/
structure Gp where
  now : Wp
  saves : List Wp
  acts : Nat

def stepW (x : Wp) : Wp := { x with L := withRows x.L (Wd.stepG x.L x.fall x.wide x.high).1 }
def stepM (x : Wp) : List (Int × Int) := (Wd.stepG x.L x.fall x.wide x.high).2
def stepsW : Nat → Wp → Wp
  | 0, x => x
  | k + 1, x => stepW (stepsW k x)
def stepsM : Nat → Wp → List (Int × Int)
  | 0, _ => []
  | k + 1, x => stepsM k x ++ stepM (stepsW k x)
def spawnW (x : Wp) (mask : Int) (r : R8) : Wp × Rep := ({ x with L := (spawnS x.next x.L mask r).1, next := (spawnS x.next x.L mask r).2.1 }, ⟨(spawnS x.next x.L mask r).2.2.2, (spawnS x.next x.L mask r).2.2.1, [], []⟩)
def killW (x : Wp) (id : Int) : Wp × Rep := ({ x with L := (killS x.L id).1 }, no (killS x.L id).2)
def changeW (x : Wp) (id mask : Int) (r : R8) : Wp × Rep := ({ x with L := (changeS x.L id mask r).1 }, no (changeS x.L id mask r).2)
def setW (x : Wp) (id : Int) (r : R8) : Wp × Rep := ({ x with L := (setS x.L id r).1 }, no (setS x.L id r).2)
def oneB (m : Int) : Bool := decide (0 < m) && (decide (m ≤ 31) && (bits .and .i64 m (wrap64 (m - 1)) == 0))
def giveW (x : Wp) (id part : Int) (r : R8) : Wp × Rep :=
  if id ∈ allL x.L then (if oneB part = false ∨ hasB (mk x.L id) part = true then (x, no 1) else changeW x id (bits .or .i64 (mk x.L id) part) r) else (x, no 3)
def takeW (x : Wp) (id part : Int) : Wp × Rep :=
  if id ∈ allL x.L then (if oneB part = false ∨ hasB (mk x.L id) part = false then (x, no 1) else changeW x id (bits .andNot .i64 (mk x.L id) part) zeroR) else (x, no 3)
def kickR (q by' : R8) : R8 := { q with px := ad q.px by'.px 16777216, py := ad q.py by'.py 16777216 }
def kickW (x : Wp) (id : Int) (r : R8) : Wp × Rep :=
  if id ∈ allL x.L then (if hasB (mk x.L id) 2 = false then (x, no 1) else setW x id (kickR (rw0 x.L id) r)) else (x, no 3)
def goW (x : Wp) (n : Int) : Wp × Rep := if n < 1 ∨ 8 < n then (x, no 2) else (stepsW n.toNat x, ⟨0, (stepsM n.toNat x).length, [], stepsM n.toNat x⟩)
/-- What comes of an act that is no save and no load. -/
def actW (x : Wp) (a : Ac) : Wp × Rep :=
  if a.kind = 1 then spawnW x a.mask a.row else if a.kind = 2 then killW x a.id else if a.kind = 3 then giveW x a.id a.mask a.row else if a.kind = 4 then takeW x a.id a.mask else
  if a.kind = 5 then kickW x a.id a.row else if a.kind = 6 then goW x a.n else if a.kind = 9 then (x, ⟨0, 0, Sw.lookP (boxG x.L (rw0 x.L)) a.box, []⟩) else (x, no 4)
def doG (s : Gp) (a : Ac) : Gp × Rep :=
  if 150 ≤ s.acts then (s, no 5) else
  if a.kind = 7 then (if 3 ≤ s.saves.length then ({ s with acts := s.acts + 1 }, no 5) else (⟨s.now, s.saves ++ [s.now], s.acts + 1⟩, ⟨0, s.saves.length, [], []⟩)) else
  if a.kind = 8 then (if 0 ≤ a.n ∧ a.n < s.saves.length then ({ s with now := s.saves.getD a.n.toNat s.now, acts := s.acts + 1 }, no 0) else ({ s with acts := s.acts + 1 }, no 3)) else
  ({ s with now := (actW s.now a).1, acts := s.acts + 1 }, (actW s.now a).2)

/-! Worlds stay good. -/
theorem GoodW.step {x : Wp} (h : GoodW x) : GoodW (stepW x) := ⟨step_good h.l _ _ _, h.fall, h.wide, h.high⟩
theorem GoodW.steps {x : Wp} (h : GoodW x) (k : Nat) : GoodW (stepsW k x) := by
  induction k with
  | zero => exact h
  | succ k ih => exact ih.step
theorem GoodW.spawn {x : Wp} (h : GoodW x) (mask : Int) (r : R8) : GoodW (spawnW x mask r).1 := ⟨good_spawn h.l mask r, h.fall, h.wide, h.high⟩
theorem GoodW.kill {x : Wp} (h : GoodW x) (id : Int) : GoodW (killW x id).1 := ⟨good_kill h.l id, h.fall, h.wide, h.high⟩
theorem GoodW.change {x : Wp} (h : GoodW x) (id mask : Int) (r : R8) : GoodW (changeW x id mask r).1 := ⟨good_change' h.l id mask r, h.fall, h.wide, h.high⟩
theorem GoodW.set {x : Wp} (h : GoodW x) (id : Int) (r : R8) : GoodW (setW x id r).1 := ⟨good_setS h.l id r, h.fall, h.wide, h.high⟩
theorem GoodW.give {x : Wp} (h : GoodW x) (id part : Int) (r : R8) : GoodW (giveW x id part r).1 := by
  unfold giveW
  split
  · split
    · exact h
    · exact h.change _ _ _
  · exact h
theorem GoodW.take {x : Wp} (h : GoodW x) (id part : Int) : GoodW (takeW x id part).1 := by
  unfold takeW
  split
  · split
    · exact h
    · exact h.change _ _ _
  · exact h
theorem GoodW.kick {x : Wp} (h : GoodW x) (id : Int) (r : R8) : GoodW (kickW x id r).1 := by
  unfold kickW
  split
  · split
    · exact h
    · exact h.set _ _
  · exact h
theorem GoodW.go {x : Wp} (h : GoodW x) (n : Int) : GoodW (goW x n).1 := by
  unfold goW
  split
  · exact h
  · exact h.steps _
theorem GoodW.act {x : Wp} (h : GoodW x) (a : Ac) : GoodW (actW x a).1 := by
  unfold actW
  split
  · exact h.spawn _ _
  · split
    · exact h.kill _
    · split
      · exact h.give _ _ _
      · split
        · exact h.take _ _
        · split
          · exact h.kick _ _
          · split
            · exact h.go _
            · split <;> exact h
structure GoodG (s : Gp) : Prop where
  now : GoodW s.now
  saves : ∀ x ∈ s.saves, GoodW x
  few : s.saves.length ≤ 3
  acts : s.acts ≤ 150
theorem GoodG.do {s : Gp} (h : GoodG s) (a : Ac) : GoodG (doG s a).1 := by
  unfold doG
  split
  · exact h
  · rename_i h0
    split
    · split
      · exact ⟨h.now, h.saves, h.few, by show s.acts + 1 ≤ 150; omega⟩
      · refine ⟨h.now, fun x hx => ?_, by simp; omega, by show s.acts + 1 ≤ 150; omega⟩
        rcases List.mem_append.1 hx with hx | hx
        · exact h.saves x hx
        · simp at hx; rw [hx]; exact h.now
    · split
      · split
        · rename_i hn
          refine ⟨?_, h.saves, h.few, by show s.acts + 1 ≤ 150; omega⟩
          have hlt : a.n.toNat < s.saves.length := by omega
          show GoodW (s.saves.getD a.n.toNat s.now)
          rw [List.getD_eq_getElem?_getD, List.getElem?_eq_getElem hlt]
          exact h.saves _ (List.getElem_mem hlt)
        · exact ⟨h.now, h.saves, h.few, by show s.acts + 1 ≤ 150; omega⟩
      · exact ⟨h.now.act a, h.saves, h.few, by show s.acts + 1 ≤ 150; omega⟩
def newG (wide high fall : Int) : Gp := ⟨⟨[], 0, fall, wide, high⟩, [], 0⟩
end Go.Proofs.YtckkkdldljhehacGreat.Gm
