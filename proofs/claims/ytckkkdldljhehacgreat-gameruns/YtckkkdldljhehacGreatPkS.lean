/- Part of the proofs of GamePlays and GameRuns (package ninepinslaw): contracts of the functions that they call. -/
import Derived.Test.YtckkkdldljhehacGreatRows
import Derived.WalkKit
import Derived.ProofKit
import Derived.OpenShut
import Derived.Deep.Slices
import Derived.Deep.Strs
import Derived.SizedLaws
import Derived.Lib.SmallJoins
import Derived.Deep.RegionHeld3
import Derived.Deep.DeepFit
import Derived.Test.YtckkkdldljhehacGreatPkB
import Derived.Test.YtckkkdldljhehacGreatPkL
import Derived.Test.YtckkkdldljhehacGreatPkG
import Derived.Test.YtckkkdldljhehacGreatPkJ
import Derived.Test.YtckkkdldljhehacGreatPkQ
namespace Go.Proofs.YtckkkdldljhehacGreat
namespace Gm
open Num St
open Go.ChangeShapes Go.WideShapes Go.ChangeAt Go.RowKit
theorem refused_any (c : Int) (w : World) : Calls Tryz.prog 30 #[.int .i64 c] w fun e w' => e = .returned (.agg #[.int .i64 c, .int .i64 0, .slice none 0 0, .slice none 0 0]) ∧ Below w.heap.size w w' := by
 go_enter Tryz.func30, Tryz.ntmps30
 go_wp2
 refine bodyPost_ret (v := .agg #[.int .i64 c, .int .i64 0, .slice none 0 0, .slice none 0 0]) (by simp [results, Tryz.results30, go_sem]) rfl ⟨rfl, ?_⟩
 exact bal (Below.refl _ _) _
theorem rowIsL (w : World) (cs : List Value) (t : TypeId) : (w.alloc (.cells cs.toArray t)).rowIs w.heap.size t cs.length (fun i => cs.getD i undef) :=
 ⟨cs.toArray, (MapKept.heap_alloc w _).1, by simp, fun i hi => by simp [List.getD, hi]⟩
abbrev actV (k i n m x y px py wd ht ms rr bi bx1 by1 bx2 by2 : Int) : Value := .agg #[.int .i64 k, .int .i64 i, .int .i64 n, .int .i64 m, .int .i64 x, .int .i64 y, .int .i64 px, .int .i64 py, .int .i64 wd, .int .i64 ht, .int .i64 ms, .int .i64 rr, .int .i64 bi, .int .i64 bx1, .int .i64 by1, .int .i64 bx2, .int .i64 by2]
theorem acells {W : World} {b : Nat} {t : TypeId} {k i n m x y px py wd ht ms rr bi bx1 by1 bx2 by2 : Int} (h : W.rowIs b t 17 (fun q => ([.int .i64 k, .int .i64 i, .int .i64 n, .int .i64 m, .int .i64 x, .int .i64 y, .int .i64 px, .int .i64 py, .int .i64 wd, .int .i64 ht, .int .i64 ms, .int .i64 rr, .int .i64 bi, .int .i64 bx1, .int .i64 by1, .int .i64 bx2, .int .i64 by2] : List Value).getD q undef)) : W.cell? ⟨b, 0, none⟩ = some (.int .i64 k) ∧ W.cell? ⟨b, 1, none⟩ = some (.int .i64 i) ∧ W.cell? ⟨b, 2, none⟩ = some (.int .i64 n) ∧ W.cell? ⟨b, 3, none⟩ = some (.int .i64 m) ∧ W.cell? ⟨b, 4, none⟩ = some (.int .i64 x) ∧ W.cell? ⟨b, 5, none⟩ = some (.int .i64 y) ∧ W.cell? ⟨b, 6, none⟩ = some (.int .i64 px) ∧ W.cell? ⟨b, 7, none⟩ = some (.int .i64 py) ∧ W.cell? ⟨b, 8, none⟩ = some (.int .i64 wd) ∧ W.cell? ⟨b, 9, none⟩ = some (.int .i64 ht) ∧ W.cell? ⟨b, 10, none⟩ = some (.int .i64 ms) ∧ W.cell? ⟨b, 11, none⟩ = some (.int .i64 rr) ∧ W.cell? ⟨b, 12, none⟩ = some (.int .i64 bi) ∧ W.cell? ⟨b, 13, none⟩ = some (.int .i64 bx1) ∧ W.cell? ⟨b, 14, none⟩ = some (.int .i64 by1) ∧ W.cell? ⟨b, 15, none⟩ = some (.int .i64 bx2) ∧ W.cell? ⟨b, 16, none⟩ = some (.int .i64 by2) :=
 ⟨h.cell (i := 0) (by omega), h.cell (i := 1) (by omega), h.cell (i := 2) (by omega), h.cell (i := 3) (by omega), h.cell (i := 4) (by omega), h.cell (i := 5) (by omega), h.cell (i := 6) (by omega), h.cell (i := 7) (by omega), h.cell (i := 8) (by omega), h.cell (i := 9) (by omega), h.cell (i := 10) (by omega), h.cell (i := 11) (by omega), h.cell (i := 12) (by omega), h.cell (i := 13) (by omega), h.cell (i := 14) (by omega), h.cell (i := 15) (by omega), h.cell (i := 16) (by omega)⟩
end Gm
namespace Gm
open Go.ChangeShapes Go.WideShapes Go.ChangeAt Go.RowKit Go.Deep Go.Joins
theorem cellsA : Tryz.prog.cellsOf 38 = 17 := by kernel_rfl
theorem cellsI : Tryz.prog.cellsOf 3 = 1 := by kernel_rfl
theorem cellsR : Tryz.prog.cellsOf 34 = 8 := by kernel_rfl
theorem cellsB : Tryz.prog.cellsOf 36 = 5 := by kernel_rfl
section
variable {H : Type} {enc : TypeId × Value → H} {W : World}
set_option maxRecDepth 100000 in
theorem row_fields {fuel : Nat} {cs : List Value} {x : DataW H × List MemPlace} (h : DataW.trod enc Tryz.prog W 0 (fun _ => true) true fuel 34 cs = some x) : ∃ x y px py wd ht ms rr : Int, cs = [.int .i64 x, .int .i64 y, .int .i64 px, .int .i64 py, .int .i64 wd, .int .i64 ht, .int .i64 ms, .int .i64 rr] := by
 obtain ⟨xs, n, _, rfl, hl, hlen, hf⟩ := DataW.trod_struct Tryz.underlying34 h
 rw [cellsR] at hl
 match cs, hl with
 | [c0, c1, c2, c3, c4, c5, c6, c7], _ =>
  match xs, hlen with
  | [y0, y1, y2, y3, y4, y5, y6, y7], _ =>
   have k : ∀ {c : Value} {y : DataW H × List MemPlace}, DataW.trod enc Tryz.prog W 0 (fun _ => true) true n 3 [c] = some y → ∃ q, c = .int .i64 q := fun hq => by
    obtain ⟨q, e, _⟩ := DataW.trod_int Tryz.underlying3 hq
    exact ⟨q, by simpa using e⟩
   have g0 := hf 0 _ rfl
   have g1 := hf 1 _ rfl
   have g2 := hf 2 _ rfl
   have g3 := hf 3 _ rfl
   have g4 := hf 4 _ rfl
   have g5 := hf 5 _ rfl
   have g6 := hf 6 _ rfl
   have g7 := hf 7 _ rfl
   simp [cellsI] at g0 g1 g2 g3 g4 g5 g6 g7
   obtain ⟨q0, rfl⟩ := k g0
   obtain ⟨q1, rfl⟩ := k g1
   obtain ⟨q2, rfl⟩ := k g2
   obtain ⟨q3, rfl⟩ := k g3
   obtain ⟨q4, rfl⟩ := k g4
   obtain ⟨q5, rfl⟩ := k g5
   obtain ⟨q6, rfl⟩ := k g6
   obtain ⟨q7, rfl⟩ := k g7
   exact ⟨q0, q1, q2, q3, q4, q5, q6, q7, rfl⟩
set_option maxRecDepth 100000 in
theorem box_fields {fuel : Nat} {cs : List Value} {x : DataW H × List MemPlace} (h : DataW.trod enc Tryz.prog W 0 (fun _ => true) true fuel 36 cs = some x) : ∃ bi bx1 by1 bx2 by2 : Int, cs = [.int .i64 bi, .int .i64 bx1, .int .i64 by1, .int .i64 bx2, .int .i64 by2] := by
 obtain ⟨xs, n, _, rfl, hl, hlen, hf⟩ := DataW.trod_struct Tryz.underlying36 h
 rw [cellsB] at hl
 match cs, hl with
 | [c0, c1, c2, c3, c4], _ =>
  match xs, hlen with
  | [y0, y1, y2, y3, y4], _ =>
   have k : ∀ {c : Value} {y : DataW H × List MemPlace}, DataW.trod enc Tryz.prog W 0 (fun _ => true) true n 3 [c] = some y → ∃ q, c = .int .i64 q := fun hq => by
    obtain ⟨q, e, _⟩ := DataW.trod_int Tryz.underlying3 hq
    exact ⟨q, by simpa using e⟩
   have g0 := hf 0 _ rfl
   have g1 := hf 1 _ rfl
   have g2 := hf 2 _ rfl
   have g3 := hf 3 _ rfl
   have g4 := hf 4 _ rfl
   simp [cellsI] at g0 g1 g2 g3 g4
   obtain ⟨q0, rfl⟩ := k g0
   obtain ⟨q1, rfl⟩ := k g1
   obtain ⟨q2, rfl⟩ := k g2
   obtain ⟨q3, rfl⟩ := k g3
   obtain ⟨q4, rfl⟩ := k g4
   exact ⟨q0, q1, q2, q3, q4, rfl⟩
end
end Gm
namespace Gm
open Go.RowKit (wrap64)
open Num St Wd
structure Wp where
 L : List Tab
 next : Int
 fall : Int
 wide : Int
 high : Int
structure GoodW (x : Wp) : Prop where
 l : GoodL x.next x.L
 fall : -64 ≤ x.fall ∧ x.fall ≤ 64
 wide : 1 ≤ x.wide ∧ x.wide ≤ 1048576
 high : 1 ≤ x.high ∧ x.high ≤ 1048576
structure Rep where
 code : Int
 n : Int
 ids : List Int
 met : List (Int × Int)
def no (e : Int) : Rep := ⟨e, 0, [], []⟩
structure Ac where
 kind : Int
 id : Int
 n : Int
 mask : Int
 row : R8
 box : Sw.B5
structure Gp where
 now : Wp
 saves : List Wp
 acts : Nat
def stepW (x : Wp) : Wp := { x with L := withRows x.L (Wd.stepG x.L x.fall x.wide x.high).1 }
def stepM (x : Wp) : List (Int × Int) := (Wd.stepG x.L x.fall x.wide x.high).2
def stepsW : Nat → Wp → Wp
 | 0, x => x
 | k + 1, x => stepW (stepsW k x)
def stepsM : Nat → Wp → List (Int × Int)
 | 0, _ => []
 | k + 1, x => stepsM k x ++ stepM (stepsW k x)
def spawnW (x : Wp) (mask : Int) (r : R8) : Wp × Rep := ({ x with L := (spawnS x.next x.L mask r).1, next := (spawnS x.next x.L mask r).2.1 }, ⟨(spawnS x.next x.L mask r).2.2.2, (spawnS x.next x.L mask r).2.2.1, [], []⟩)
def killW (x : Wp) (id : Int) : Wp × Rep := ({ x with L := (killS x.L id).1 }, no (killS x.L id).2)
def changeW (x : Wp) (id mask : Int) (r : R8) : Wp × Rep := ({ x with L := (changeS x.L id mask r).1 }, no (changeS x.L id mask r).2)
def setW (x : Wp) (id : Int) (r : R8) : Wp × Rep := ({ x with L := (setS x.L id r).1 }, no (setS x.L id r).2)
def oneB (m : Int) : Bool := decide (0 < m) && (decide (m ≤ 31) && (bits .and .i64 m (wrap64 (m - 1)) == 0))
def giveW (x : Wp) (id part : Int) (r : R8) : Wp × Rep :=
 if id ∈ allL x.L then (if oneB part = false ∨ hasB (mk x.L id) part = true then (x, no 1) else changeW x id (bits .or .i64 (mk x.L id) part) r) else (x, no 3)
def takeW (x : Wp) (id part : Int) : Wp × Rep :=
 if id ∈ allL x.L then (if oneB part = false ∨ hasB (mk x.L id) part = false then (x, no 1) else changeW x id (bits .andNot .i64 (mk x.L id) part) zeroR) else (x, no 3)
def kickR (q by' : R8) : R8 := { q with px := ad q.px by'.px 16777216, py := ad q.py by'.py 16777216 }
def kickW (x : Wp) (id : Int) (r : R8) : Wp × Rep :=
 if id ∈ allL x.L then (if hasB (mk x.L id) 2 = false then (x, no 1) else setW x id (kickR (rw0 x.L id) r)) else (x, no 3)
def goW (x : Wp) (n : Int) : Wp × Rep := if n < 1 ∨ 8 < n then (x, no 2) else (stepsW n.toNat x, ⟨0, (stepsM n.toNat x).length, [], stepsM n.toNat x⟩)
def actW (x : Wp) (a : Ac) : Wp × Rep :=
 if a.kind = 1 then spawnW x a.mask a.row else if a.kind = 2 then killW x a.id else if a.kind = 3 then giveW x a.id a.mask a.row else if a.kind = 4 then takeW x a.id a.mask else
 if a.kind = 5 then kickW x a.id a.row else if a.kind = 6 then goW x a.n else if a.kind = 9 then (x, ⟨0, 0, Sw.lookP (boxG x.L (rw0 x.L)) a.box, []⟩) else (x, no 4)
def doG (s : Gp) (a : Ac) : Gp × Rep :=
 if 150 ≤ s.acts then (s, no 5) else
 if a.kind = 7 then (if 3 ≤ s.saves.length then ({ s with acts := s.acts + 1 }, no 5) else (⟨s.now, s.saves ++ [s.now], s.acts + 1⟩, ⟨0, s.saves.length, [], []⟩)) else
 if a.kind = 8 then (if 0 ≤ a.n ∧ a.n < s.saves.length then ({ s with now := s.saves.getD a.n.toNat s.now, acts := s.acts + 1 }, no 0) else ({ s with acts := s.acts + 1 }, no 3)) else
 ({ s with now := (actW s.now a).1, acts := s.acts + 1 }, (actW s.now a).2)
theorem GoodW.step {x : Wp} (h : GoodW x) : GoodW (stepW x) := ⟨step_good h.l _ _ _, h.fall, h.wide, h.high⟩
theorem GoodW.steps {x : Wp} (h : GoodW x) (k : Nat) : GoodW (stepsW k x) := by
 induction k with
 | zero => exact h
 | succ k ih => exact ih.step
theorem GoodW.spawn {x : Wp} (h : GoodW x) (mask : Int) (r : R8) : GoodW (spawnW x mask r).1 := ⟨good_spawn h.l mask r, h.fall, h.wide, h.high⟩
theorem GoodW.kill {x : Wp} (h : GoodW x) (id : Int) : GoodW (killW x id).1 := ⟨good_kill h.l id, h.fall, h.wide, h.high⟩
theorem GoodW.change {x : Wp} (h : GoodW x) (id mask : Int) (r : R8) : GoodW (changeW x id mask r).1 := ⟨good_change' h.l id mask r, h.fall, h.wide, h.high⟩
theorem GoodW.set {x : Wp} (h : GoodW x) (id : Int) (r : R8) : GoodW (setW x id r).1 := ⟨good_setS h.l id r, h.fall, h.wide, h.high⟩
theorem GoodW.give {x : Wp} (h : GoodW x) (id part : Int) (r : R8) : GoodW (giveW x id part r).1 := by
 unfold giveW
 split
 ·split
  ·exact h
  ·exact h.change _ _ _
 ·exact h
theorem GoodW.take {x : Wp} (h : GoodW x) (id part : Int) : GoodW (takeW x id part).1 := by
 unfold takeW
 split
 ·split
  ·exact h
  ·exact h.change _ _ _
 ·exact h
theorem GoodW.kick {x : Wp} (h : GoodW x) (id : Int) (r : R8) : GoodW (kickW x id r).1 := by
 unfold kickW
 split
 ·split
  ·exact h
  ·exact h.set _ _
 ·exact h
theorem GoodW.go {x : Wp} (h : GoodW x) (n : Int) : GoodW (goW x n).1 := by
 unfold goW
 split
 ·exact h
 ·exact h.steps _
theorem GoodW.act {x : Wp} (h : GoodW x) (a : Ac) : GoodW (actW x a).1 := by
 unfold actW
 split
 ·exact h.spawn _ _
 ·split
  ·exact h.kill _
  ·split
   ·exact h.give _ _ _
   ·split
    ·exact h.take _ _
    ·split
     ·exact h.kick _ _
     ·split
      ·exact h.go _
      ·split <;> exact h
structure GoodG (s : Gp) : Prop where
 now : GoodW s.now
 saves : ∀ x ∈ s.saves, GoodW x
 few : s.saves.length ≤ 3
 acts : s.acts ≤ 150
theorem GoodG.do {s : Gp} (h : GoodG s) (a : Ac) : GoodG (doG s a).1 := by
 unfold doG
 split
 ·exact h
 ·rename_i h0
  split
  ·split
   ·exact ⟨h.now, h.saves, h.few, by show s.acts + 1 ≤ 150; omega⟩
   ·refine ⟨h.now, fun x hx => ?_, by simp; omega, by show s.acts + 1 ≤ 150; omega⟩
    rcases List.mem_append.1 hx with hx | hx
    ·exact h.saves x hx
    ·simp at hx; rw [hx]; exact h.now
  ·split
   ·split
    ·rename_i hn
     refine ⟨?_, h.saves, h.few, by show s.acts + 1 ≤ 150; omega⟩
     have hlt : a.n.toNat < s.saves.length := by omega
     show GoodW (s.saves.getD a.n.toNat s.now)
     rw [List.getD_eq_getElem?_getD, List.getElem?_eq_getElem hlt]
     exact h.saves _ (List.getElem_mem hlt)
    ·exact ⟨h.now, h.saves, h.few, by show s.acts + 1 ≤ 150; omega⟩
   ·exact ⟨h.now.act a, h.saves, h.few, by show s.acts + 1 ≤ 150; omega⟩
def newG (wide high fall : Int) : Gp := ⟨⟨[], 0, fall, wide, high⟩, [], 0⟩
end Gm
namespace Gm
open Num St Wd
open Go.ChangeShapes Go.WideShapes Go.ChangeAt Go.RowKit Go.Deep Go.Joins
abbrev actA (a : Ac) : Value := actV a.kind a.id a.n a.mask a.row.x a.row.y a.row.px a.row.py a.row.wd a.row.ht a.row.ms a.row.rr a.box.id a.box.x1 a.box.y1 a.box.x2 a.box.y2
def actCells (x : Ac) : List Value := [.int .i64 x.kind, .int .i64 x.id, .int .i64 x.n, .int .i64 x.mask, .int .i64 x.row.x, .int .i64 x.row.y, .int .i64 x.row.px, .int .i64 x.row.py, .int .i64 x.row.wd, .int .i64 x.row.ht, .int .i64 x.row.ms, .int .i64 x.row.rr, .int .i64 x.box.id, .int .i64 x.box.x1, .int .i64 x.box.y1, .int .i64 x.box.x2, .int .i64 x.box.y2]
def ActL (w : World) (a : Option Addr) (l : List Ac) : Prop :=
 0 < l.length → ∃ b off, a = some ⟨b, off, none⟩ ∧ b < w.heap.size ∧ ∀ i x, l[i]? = some x → ∀ j u, (actCells x)[j]? = some u → w.cell? ⟨b, off + i * 17 + j, none⟩ = some u
theorem ActL.below {w w' : World} {a : Option Addr} {l : List Ac} (h : ActL w a l) (hb : Below w.heap.size w w') : ActL w' a l := fun hl => by
 obtain ⟨b, off, e, h1, h2⟩ := h hl
 exact ⟨b, off, e, Nat.lt_of_lt_of_le h1 hb.size, fun i x hi j u hj => (hb.cell (p := ⟨b, off + i * 17 + j, none⟩) h1).trans (h2 i x hi j u hj)⟩
theorem act_at {w : World} {b off i : Nat} {x : Ac} (h : ∀ j u, (actCells x)[j]? = some u → w.cell? ⟨b, off + i * 17 + j, none⟩ = some u) :
  w.cell? ⟨b, off + i * 17, none⟩ = some (.int .i64 x.kind) ∧ w.cell? ⟨b, off + i * 17 + 1, none⟩ = some (.int .i64 x.id) ∧ w.cell? ⟨b, off + i * 17 + 2, none⟩ = some (.int .i64 x.n) ∧ w.cell? ⟨b, off + i * 17 + 3, none⟩ = some (.int .i64 x.mask) ∧
  w.cell? ⟨b, off + i * 17 + 4, none⟩ = some (.int .i64 x.row.x) ∧ w.cell? ⟨b, off + i * 17 + 5, none⟩ = some (.int .i64 x.row.y) ∧ w.cell? ⟨b, off + i * 17 + 6, none⟩ = some (.int .i64 x.row.px) ∧ w.cell? ⟨b, off + i * 17 + 7, none⟩ = some (.int .i64 x.row.py) ∧
  w.cell? ⟨b, off + i * 17 + 8, none⟩ = some (.int .i64 x.row.wd) ∧ w.cell? ⟨b, off + i * 17 + 9, none⟩ = some (.int .i64 x.row.ht) ∧ w.cell? ⟨b, off + i * 17 + 10, none⟩ = some (.int .i64 x.row.ms) ∧ w.cell? ⟨b, off + i * 17 + 11, none⟩ = some (.int .i64 x.row.rr) ∧
  w.cell? ⟨b, off + i * 17 + 12, none⟩ = some (.int .i64 x.box.id) ∧ w.cell? ⟨b, off + i * 17 + 13, none⟩ = some (.int .i64 x.box.x1) ∧ w.cell? ⟨b, off + i * 17 + 14, none⟩ = some (.int .i64 x.box.y1) ∧ w.cell? ⟨b, off + i * 17 + 15, none⟩ = some (.int .i64 x.box.x2) ∧ w.cell? ⟨b, off + i * 17 + 16, none⟩ = some (.int .i64 x.box.y2) :=
 ⟨h 0 _ rfl, h 1 _ rfl, h 2 _ rfl, h 3 _ rfl, h 4 _ rfl, h 5 _ rfl, h 6 _ rfl, h 7 _ rfl, h 8 _ rfl, h 9 _ rfl, h 10 _ rfl, h 11 _ rfl, h 12 _ rfl, h 13 _ rfl, h 14 _ rfl, h 15 _ rfl, h 16 _ rfl⟩
theorem bytesA : Tryz.prog.bytesOf 38 = 136 := by kernel_rfl
section
variable {H : Type} {enc : TypeId × Value → H} {W : World}
theorem addr_plainA {a : Addr} {v : Value} (h : W.cell? (a.add 0) = some v) : ∃ b off, a = ⟨b, off, none⟩ ∧ b < W.heap.size := by
 obtain ⟨b, off, spot⟩ := a
 have hspot : spot = none := by simpa [Addr.add] using World.cell?_spot h
 subst hspot
 exact ⟨b, off, rfl, by simpa [Addr.add] using World.block_lt_of_cell? _ _ h⟩
end
end Gm
namespace Wd
open Num St
open Go.ChangeShapes Go.WideShapes Go.ChangeAt Go.RowKit
theorem neqOf {n : Nat} {P : Program} {w : World} {t : TypeId} {xs ys : Array Value} (h : n = 10000) {v : Bool} (e : (Op.equalIn n t (.agg xs) (.agg ys)).run P w = .ok v w) :
  (binOp .neq t (.agg xs) (.agg ys)).run P w = .ok (.bool (!v)) w := by
 subst h
 rw [run_neq_struct, e]
 rfl
end Wd
namespace Wd
open Num St
open Go.ChangeShapes Go.WideShapes Go.ChangeAt Go.RowKit
def r500 : R8 := ⟨500, 500, 14, 0, 0, 0, 2, 0⟩
def r507 : R8 := ⟨507, 500, 14, 0, 0, 0, 2, 0⟩
def one500 : List Tab := [⟨11, [0], [r500]⟩]
theorem spawn500 : spawnS 0 [] 11 r500 = (one500, 1, 0, 0) := by
 have h : goodRowB 11 r500 = true := by decide
 unfold spawnS
 rw [if_neg (by simp [h]), if_neg (by simp [allL])]
 rfl
theorem ids500 : idsOf 11 one500 = [0] := by
 have h : gathR 11 one500 = [0] := by decide
 unfold idsOf
 rw [h]
 simp
theorem ids5 : idsOf 5 one500 = [] := by
 have h : gathR 5 one500 = [] := by decide
 unfold idsOf
 rw [h]
 simp
theorem pairs_none : Sw.pairsG [] = [] := by
 unfold Sw.pairsG
 rw [Sw.good_nil]
 simp [Sw.pairsOf, Sw.pairsFrom, Sw.sortP]
theorem mk500 : mk one500 0 = 11 := by decide
theorem rw500 : rw0 one500 0 = r500 := by decide
theorem step500 : (stepG one500 0 1000 1000).1 0 = r507 ∧ (stepG one500 0 1000 1000).2 = [] := by
 unfold stepG boxG
 rw [ids500, ids5]
 simp only [List.map_nil, pairs_none]
 unfold meetG goOnG wallG
 simp only [List.foldl_cons, List.foldl_nil]
 refine ⟨?_, trivial⟩
 unfold wall1 go1
 rw [putG_at, putG_at, mk500, rw500]
 decide
end Wd
end Go.Proofs.YtckkkdldljhehacGreat
