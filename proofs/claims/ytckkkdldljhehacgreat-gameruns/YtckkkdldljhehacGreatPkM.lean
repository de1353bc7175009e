/- Part of the proofs of GamePlays and GameRuns (package ninepinslaw): contracts of the functions that they call. -/
import Derived.Test.YtckkkdldljhehacGreatProg
import Derived.WalkKit
import Derived.Below
import Derived.Maps.RangeWalk
import Derived.Deep.DeepCutAuto
import Derived.WalkSmall
import Derived.Maps.AppendAt
import Derived.Laws.OwnMore
import Derived.Lib.SmallJoins
import Derived.Deep.OwnRows
import Derived.Test.YtckkkdldljhehacGreatPkA1
import Derived.Test.YtckkkdldljhehacGreatPkB
import Derived.Test.YtckkkdldljhehacGreatPkC
namespace Go.Proofs.YtckkkdldljhehacGreat
namespace Mp
open Num
structure Th where
 m : Int
 r : R8
abbrev Mth := List (Int × Th)
def insM (x : Int × Th) : Mth → Mth
 | [] => [x]
 | y :: l => if x.1 < y.1 then x :: y :: l else y :: insM x l
def delM (k : Int) (l : Mth) : Mth := l.filter (fun p => !decide (p.1 = k))
def putM (k : Int) (t : Th) (l : Mth) : Mth := insM (k, t) (delM k l)
def getM (k : Int) (l : Mth) : Option Th := (l.find? (fun p => decide (p.1 = k))).map (·.2)
def Up (l : Mth) : Prop := l.Pairwise (fun a b => a.1 < b.1)
theorem getM_nil (k : Int) : getM k [] = none := rfl
theorem getM_cons (k : Int) (x : Int × Th) (l : Mth) : getM k (x :: l) = if x.1 = k then some x.2 else getM k l := by
 unfold getM
 rw [List.find?_cons]
 by_cases h : x.1 = k <;> simp [h]
theorem mem_insM {x p : Int × Th} {l : Mth} : p ∈ insM x l ↔ p = x ∨ p ∈ l := by
 induction l with
 | nil => simp [insM]
 | cons y l ih =>
  unfold insM
  split
  ·simp
  ·simp only [List.mem_cons, ih]
   constructor
   ·rintro (h | h | h)
    ·exact Or.inr (Or.inl h)
    ·exact Or.inl h
    ·exact Or.inr (Or.inr h)
   ·rintro (h | h | h)
    ·exact Or.inr (Or.inl h)
    ·exact Or.inl h
    ·exact Or.inr (Or.inr h)
theorem mem_delM {k : Int} {p : Int × Th} {l : Mth} : p ∈ delM k l ↔ p ∈ l ∧ p.1 ≠ k := by simp [delM]
theorem mem_putM {k : Int} {t : Th} {p : Int × Th} {l : Mth} : p ∈ putM k t l ↔ p = (k, t) ∨ (p ∈ l ∧ p.1 ≠ k) := by rw [putM, mem_insM, mem_delM]
theorem Up.del {l : Mth} (h : Up l) (k : Int) : Up (delM k l) := List.Pairwise.filter _ h
theorem Up.ins {l : Mth} (h : Up l) {x : Int × Th} (hx : ∀ p ∈ l, p.1 ≠ x.1) : Up (insM x l) := by
 induction l with
 | nil => exact List.pairwise_singleton _ _
 | cons y l ih =>
  have h' := List.pairwise_cons.1 h
  unfold insM
  split
  ·rename_i hlt
   refine List.pairwise_cons.2 ⟨fun q hq => ?_, h⟩
   rcases List.mem_cons.1 hq with rfl | hq
   ·exact hlt
   ·have := h'.1 q hq; omega
  ·rename_i hlt
   refine List.pairwise_cons.2 ⟨fun q hq => ?_, ih h'.2 (fun p hp => hx p (List.mem_cons_of_mem _ hp))⟩
   rcases mem_insM.1 hq with rfl | hq
   ·have := hx y (List.mem_cons_self ..); omega
   ·exact h'.1 q hq
theorem Up.put {l : Mth} (h : Up l) (k : Int) (t : Th) : Up (putM k t l) := (h.del k).ins (fun _ hp => (mem_delM.1 hp).2)
theorem up_nil : Up [] := List.Pairwise.nil
theorem getM_mem {l : Mth} {k : Int} {t : Th} (h : getM k l = some t) : (k, t) ∈ l := by
 induction l with
 | nil => simp [getM_nil] at h
 | cons x l ih =>
  rw [getM_cons] at h
  split at h
  ·rename_i e
   cases h
   rw [← e]
   exact List.mem_cons_self ..
  ·exact List.mem_cons_of_mem _ (ih h)
theorem getM_of_mem {l : Mth} (hu : Up l) {k : Int} {t : Th} (h : (k, t) ∈ l) : getM k l = some t := by
 induction l with
 | nil => cases h
 | cons x l ih =>
  have h' := List.pairwise_cons.1 hu
  rw [getM_cons]
  rcases List.mem_cons.1 h with rfl | h
  ·rw [if_pos rfl]
  ·have := h'.1 _ h
   rw [if_neg (by simp only at this; omega), ih h'.2 h]
theorem getM_iff {l : Mth} (hu : Up l) {k : Int} {t : Th} : getM k l = some t ↔ (k, t) ∈ l := ⟨getM_mem, getM_of_mem hu⟩
theorem getM_none {l : Mth} {k : Int} : getM k l = none ↔ ∀ p ∈ l, p.1 ≠ k := by
 unfold getM
 simp
theorem getM_some_iff {l : Mth} {k : Int} : (getM k l).isSome = true ↔ k ∈ l.map (·.1) := by
 cases h : getM k l with
 | none =>
  have := getM_none.1 h
  simp
  intro t ht
  exact this _ ht rfl
 | some t =>
  simp
  exact ⟨t, getM_mem h⟩
theorem option_ext {α : Type} {a b : Option α} (h : ∀ t, a = some t ↔ b = some t) : a = b := by
 cases a with
 | none => cases b with
  | none => rfl
  | some t => exact ((h t).2 rfl)
 | some t => exact ((h t).1 rfl).symm
theorem getM_put {l : Mth} (hu : Up l) (k j : Int) (t : Th) : getM j (putM k t l) = if j = k then some t else getM j l := by
 apply option_ext
 intro s
 rw [getM_iff (hu.put k t), mem_putM]
 by_cases hj : j = k
 ·subst hj
  simp only [if_true]
  constructor
  ·rintro (h | h)
   ·cases h; rfl
   ·exact absurd rfl h.2
  ·intro h; cases h; exact Or.inl rfl
 ·rw [if_neg hj, getM_iff hu]
  constructor
  ·rintro (h | h)
   ·cases h; exact absurd rfl hj
   ·exact h.1
  ·intro h; exact Or.inr ⟨h, hj⟩
theorem getM_del {l : Mth} (hu : Up l) (k j : Int) : getM j (delM k l) = if j = k then none else getM j l := by
 apply option_ext
 intro s
 rw [getM_iff (hu.del k), mem_delM]
 by_cases hj : j = k
 ·subst hj
  simp
 ·rw [if_neg hj, getM_iff hu]
  exact ⟨fun h => h.1, fun h => ⟨h, hj⟩⟩
theorem Up.ext {a b : Mth} (ha : Up a) (hb : Up b) (h : ∀ k, getM k a = getM k b) : a = b := by
 have hm : ∀ p, p ∈ a ↔ p ∈ b := fun p => by
  obtain ⟨k, t⟩ := p
  rw [← getM_iff ha, ← getM_iff hb, h k]
 induction a generalizing b with
 | nil =>
  cases b with
  | nil => rfl
  | cons y b => exact absurd ((hm y).2 (List.mem_cons_self ..)) (by simp)
 | cons x a ih =>
  cases b with
  | nil => exact absurd ((hm x).1 (List.mem_cons_self ..)) (by simp)
  | cons y b =>
   have ha' := List.pairwise_cons.1 ha
   have hb' := List.pairwise_cons.1 hb
   have hxy : x = y := by
    rcases List.mem_cons.1 ((hm x).1 (List.mem_cons_self ..)) with h1 | h1
    ·exact h1
    ·rcases List.mem_cons.1 ((hm y).2 (List.mem_cons_self ..)) with h2 | h2
     ·exact h2.symm
     ·have := hb'.1 x h1
      have := ha'.1 y h2
      omega
   subst hxy
   have hm' : ∀ p, p ∈ a ↔ p ∈ b := fun p => by
    constructor
    ·intro hp
     rcases List.mem_cons.1 ((hm p).1 (List.mem_cons_of_mem _ hp)) with h1 | h1
     ·subst h1; have := ha'.1 p hp; omega
     ·exact h1
    ·intro hp
     rcases List.mem_cons.1 ((hm p).2 (List.mem_cons_of_mem _ hp)) with h1 | h1
     ·subst h1; have := hb'.1 p hp; omega
     ·exact h1
   rw [ih ha'.2 hb'.2 (fun k => option_ext (fun t => by rw [getM_iff ha'.2, getM_iff hb'.2, hm'])) hm']
theorem insM_len (x : Int × Th) (l : Mth) : (insM x l).length = l.length + 1 := by
 induction l with
 | nil => rfl
 | cons y l ih =>
  unfold insM
  split
  ·rfl
  ·simp [ih]
theorem delM_len (k : Int) {l : Mth} (hu : Up l) : (delM k l).length + (if (getM k l).isSome then 1 else 0) = l.length := by
 induction l with
 | nil => rfl
 | cons x l ih =>
  have h' := List.pairwise_cons.1 hu
  have := ih h'.2
  rw [getM_cons]
  unfold delM at *
  by_cases hx : x.1 = k
  ·rw [List.filter_cons_of_neg (by simp [hx]), if_pos hx]
   have hn : getM k l = none := getM_none.2 (fun p hp => by have := h'.1 p hp; omega)
   rw [hn] at this
   simp at this ⊢
   omega
  ·rw [List.filter_cons_of_pos (by simp [hx]), if_neg hx, List.length_cons, List.length_cons]
   omega
theorem putM_len (k : Int) (t : Th) {l : Mth} (hu : Up l) : (putM k t l).length = l.length + (if (getM k l).isSome then 0 else 1) := by
 have := delM_len k hu
 rw [putM, insM_len]
 cases h : (getM k l).isSome <;> rw [h] at this <;> simp at this ⊢ <;> omega
end Mp
namespace Mp
open Num
open Go.ChangeMaps Go.MapKept Go.RowKit
open Go.Maps (Keyed)
def thV (t : Th) : Value := .agg #[.int .i64 t.m, .int .i64 t.r.x, .int .i64 t.r.y, .int .i64 t.r.px, .int .i64 t.r.py, .int .i64 t.r.wd, .int .i64 t.r.ht, .int .i64 t.r.ms, .int .i64 t.r.rr]
def thD (t : Th) : DataW Unit := .agg [.lit (.int .i64 t.m), .lit (.int .i64 t.r.x), .lit (.int .i64 t.r.y), .lit (.int .i64 t.r.px), .lit (.int .i64 t.r.py), .lit (.int .i64 t.r.wd), .lit (.int .i64 t.r.ht), .lit (.int .i64 t.r.ms), .lit (.int .i64 t.r.rr)]
def zTh : Th := ⟨0, ⟨0, 0, 0, 0, 0, 0, 0, 0⟩⟩
def thElem : Value → Option (DataW Unit × List MemPlace)
 | .agg ⟨[.int .i64 m, .int .i64 a, .int .i64 b, .int .i64 c, .int .i64 d, .int .i64 e, .int .i64 f, .int .i64 g, .int .i64 h]⟩ => some (thD ⟨m, ⟨a, b, c, d, e, f, g, h⟩⟩, [])
 | _ => none
theorem thElem_mk (t : Th) : thElem (thV t) = some (thD t, []) := rfl
theorem thElem_inv {v : Value} {z : DataW Unit × List MemPlace} (h : thElem v = some z) : ∃ t, v = thV t ∧ z = (thD t, []) := by
 unfold thElem at h
 split at h
 ·cases h; exact ⟨⟨_, ⟨_, _, _, _, _, _, _, _⟩⟩, rfl, rfl⟩
 ·cases h
theorem thD_inj {s t : Th} (h : thD s = thD t) : s = t := by
 obtain ⟨m, r⟩ := s
 obtain ⟨n, q⟩ := t
 obtain ⟨⟩ := r
 obtain ⟨⟩ := q
 simp [thD] at h
 simp [h]
def toE (l : Mth) : List (Lit × DataW Unit) := l.map (fun p => (Lit.int .i64 p.1, thD p.2))
def toD (l : Mth) : DataW Unit := .map (toE l)
theorem same_int (a b : Int) : (Lit.int .i64 a).sameKey (.int .i64 b) = decide (a = b) := by simp [Lit.sameKey]
theorem toE_ins (x : Int × Th) (l : Mth) : toE (insM x l) = DataW.insert (Lit.int .i64 x.1, thD x.2) (toE l) := by
 induction l with
 | nil => rfl
 | cons y l ih =>
  unfold insM
  by_cases h : x.1 < y.1
  ·simp [toE, DataW.insert, Lit.before, h]
  ·rw [if_neg h]
   simp only [toE, List.map_cons, DataW.insert, Lit.before, decide_eq_true_eq, if_neg h] at ih ⊢
   rw [ih]
theorem toE_del (k : Int) (l : Mth) : toE (delM k l) = (toE l).filter (fun p => !p.1.sameKey (.int .i64 k)) := by
 unfold toE delM
 rw [List.filter_map]
 congr 1
 apply List.filter_congr
 intro p _
 simp [same_int]
theorem toD_put (k : Int) (t : Th) (l : Mth) : (toD l).put (.int .i64 k) (thD t) = toD (putM k t l) := by
 simp only [toD, DataW.put, putM, toE_ins, toE_del]
theorem toD_del (k : Int) (l : Mth) : (toD l).del (.int .i64 k) = toD (delM k l) := by
 simp only [toD, DataW.del, toE_del]
theorem toE_find (k : Int) (l : Mth) : (toE l).find? (fun p => p.1.sameKey (.int .i64 k)) = (getM k l).map (fun t => (Lit.int .i64 k, thD t)) := by
 induction l with
 | nil => rfl
 | cons x l ih =>
  rw [getM_cons]
  simp only [toE, List.map_cons, List.find?_cons, same_int] at ih ⊢
  by_cases h : x.1 = k
  ·simp [h]
  ·simp only [h, decide_false, if_false]
   exact ih
theorem toD_at (k : Int) (l : Mth) (z : DataW Unit) : (toD l).atKey (.int .i64 k) z = ((getM k l).map thD).getD z := by
 simp only [toD, DataW.atKey, toE_find]
 cases getM k l <;> rfl
theorem toD_has (k : Int) (l : Mth) : Maps.has (toD l) (.int .i64 k) = (getM k l).isSome := by
 rw [toD, Maps.has_eq]
 induction l with
 | nil => rfl
 | cons x l ih =>
  rw [getM_cons]
  simp only [toE, List.map_cons, List.any_cons, same_int] at ih ⊢
  rw [ih]
  by_cases h : x.1 = k <;> simp [h]
theorem toD_size (l : Mth) : Maps.size (toD l) = l.length := by simp [toD, Maps.size_eq, toE]
theorem ownsMap_tight {w : World} {P : Program} {k : TypeId} {R : Value → Option (DataW Unit × List MemPlace)} {b n : Nat} {D : DataW Unit} (h : w.ownsMap P k R b n D) : w.ownsMap P k R b (Maps.size D) D := by
 obtain ⟨es, clock, hb, F, hs, hD⟩ := h
 refine ⟨es, clock, hb, F, ?_, hD⟩
 rw [hD]
 simp [Maps.size, length_sorted]
def Mp (w : World) (b : Nat) (l : Mth) : Prop := Up l ∧ (∀ p ∈ l, (Lit.int .i64 p.1).wf = true) ∧ w.ownsMap Tryz.prog 3 thElem b l.length (toD l)
theorem keyed3 : Keyed Tryz.prog 3 := Maps.int_keyed Tryz.underlying3
theorem zeroTh (w : World) : (zeroValue 105).run Tryz.prog w = .ok (thV zTh) w := by kernel_rfl
theorem undTh : Tryz.prog.underlying 71 = some (.map 3 105) := Tryz.underlying71
theorem Mp.up {w : World} {b : Nat} {l : Mth} (h : Mp w b l) : Up l := h.1
theorem Mp.wf {w : World} {b : Nat} {l : Mth} (h : Mp w b l) {k : Int} {t : Th} (hk : getM k l = some t) : (Lit.int .i64 k).wf = true := h.2.1 _ (getM_mem hk)
theorem Mp.lt {w : World} {b : Nat} {l : Mth} (h : Mp w b l) : b < w.heap.size := h.2.2.lt
theorem Mp.made (w : World) : Mp (w.alloc (.map #[] 0)) w.heap.size [] := ⟨up_nil, by simp, World.ownsMap_made _ _ _ _⟩
theorem Mp.kept {w w' : World} {b : Nat} {l : Mth} {row : Option Nat} (h : Mp w b l) (hg : w.grownBy w' row) (hne : some b ≠ row) : Mp w' b l := ⟨h.1, h.2.1, h.2.2.kept hg hne⟩
theorem Mp.block {w w' : World} {b : Nat} {l : Mth} (h : Mp w b l) (hb : w'.heap[b]? = w.heap[b]?) : Mp w' b l := by
 obtain ⟨h1, h2, es, clock, h3, h4⟩ := h
 exact ⟨h1, h2, es, clock, hb.trans h3, h4⟩
theorem Mp.below {w w' : World} {b : Nat} {l : Mth} (h : Mp w b l) (hb : Below w.heap.size w w') : Mp w' b l := h.block (hb.block b h.lt)
theorem Mp.look_ok {w : World} {b : Nat} {l : Mth} (h : Mp w b l) {k : Int} (hk : (Lit.int .i64 k).wf = true) :
  (Instr.lookup 71 (.map (some b)) (.int .i64 k) true).run Tryz.prog w = .ok (.tuple #[thV ((getM k l).getD zTh), .bool (getM k l).isSome]) w := by
 obtain ⟨v, ps, hrun, hv⟩ := h.2.2.look_ok keyed3 undTh (zeroTh w) (thElem_mk zTh) (Maps.keyOf_int_mk Tryz.underlying3 hk)
 rw [hrun, toD_has]
 obtain ⟨t, rfl, hz⟩ := thElem_inv hv
 rw [toD_at] at hz
 have e : (((getM k l).map thD).getD (thD zTh)) = thD t := congrArg Prod.fst hz
 have e2 : t = (getM k l).getD zTh := by
  cases hg : getM k l with
  | none => rw [hg] at e; exact (thD_inj e).symm
  | some s => rw [hg] at e; exact (thD_inj e).symm
 rw [e2]
theorem Mp.look {w : World} {b : Nat} {l : Mth} (h : Mp w b l) {k : Int} (hk : (Lit.int .i64 k).wf = true) :
  (Instr.lookup 71 (.map (some b)) (.int .i64 k) false).run Tryz.prog w = .ok (thV ((getM k l).getD zTh)) w := by
 obtain ⟨v, ps, hrun, hv⟩ := h.2.2.lookup keyed3 undTh (zeroTh w) (thElem_mk zTh) (Maps.keyOf_int_mk Tryz.underlying3 hk)
 rw [hrun]
 obtain ⟨t, rfl, hz⟩ := thElem_inv hv
 rw [toD_at] at hz
 have e : (((getM k l).map thD).getD (thD zTh)) = thD t := congrArg Prod.fst hz
 have e2 : t = (getM k l).getD zTh := by
  cases hg : getM k l with
  | none => rw [hg] at e; exact (thD_inj e).symm
  | some s => rw [hg] at e; exact (thD_inj e).symm
 rw [e2]
theorem Mp.len {w : World} {b : Nat} {l : Mth} (h : Mp w b l) (ty : TypeId) : (Builtin.len_ #[71] ty #[.map (some b)]).run Tryz.prog w = .ok (.int .i64 l.length) w := by
 rw [h.2.2.len undTh ty, toD_size]
theorem Mp.store {w : World} {b : Nat} {l : Mth} (h : Mp w b l) {k : Int} (hk : (Lit.int .i64 k).wf = true) (t : Th) (hn : l.length < maxLen) :
  ∃ w', (Instr.mapUpdate 71 (.map (some b)) (.int .i64 k) (thV t)).run Tryz.prog w = .ok () w' ∧ Mp w' b (putM k t l) ∧ w.mapTurned w' b := by
 obtain ⟨w', hrun, ho, ht⟩ := h.2.2.store keyed3 undTh hn (Maps.keyOf_int_mk Tryz.underlying3 hk) (thElem_mk t)
 refine ⟨w', hrun, ⟨h.1.put k t, fun p hp => ?_, ?_⟩, ht⟩
 ·rcases mem_putM.1 hp with rfl | hp
  ·exact hk
  ·exact h.2.1 p hp.1
 ·rw [toD_put] at ho
  have := ownsMap_tight ho
  rw [toD_size] at this
  exact this
theorem Mp.drop {w : World} {b : Nat} {l : Mth} (h : Mp w b l) {k : Int} (hk : (Lit.int .i64 k).wf = true) (ty : TypeId) :
  ∃ w', (Builtin.delete_ #[71, 3] ty #[.map (some b), .int .i64 k]).run Tryz.prog w = .ok (.tuple #[]) w' ∧ Mp w' b (delM k l) ∧ w.mapTurned w' b := by
 obtain ⟨w', hrun, ho, ht⟩ := h.2.2.drop keyed3 undTh (Maps.keyOf_int_mk Tryz.underlying3 hk) ty
 refine ⟨w', hrun, ⟨h.1.del k, fun p hp => h.2.1 p (mem_delM.1 hp).1, ?_⟩, ht⟩
 rw [toD_del] at ho
 have := ownsMap_tight ho
 rw [toD_size] at this
 exact this
def Rng (w : World) (b r : Nat) (l todo : Mth) (cnt : Nat) : Prop :=
 Mp w b l ∧ Up todo ∧ (∀ p ∈ todo, p ∈ l) ∧ ∃ left, w.ranges Tryz.prog 3 thElem b r l.length (toD l) left cnt ∧ (∀ p ∈ l, left (.int .i64 p.1) = (getM p.1 todo).isSome)
theorem Rng.left_eq {w : World} {b r : Nat} {l todo : Mth} {cnt : Nat} (h : Rng w b r l todo cnt) : w.rangeLeft b r = cnt := by
 obtain ⟨_, _, _, left, h4, _⟩ := h
 exact h4.left_eq
theorem Rng.lt {w : World} {b r : Nat} {l todo : Mth} {cnt : Nat} (h : Rng w b r l todo cnt) : r < w.heap.size := by
 obtain ⟨_, _, _, left, h4, _⟩ := h
 exact h4.lt
theorem Rng.ne {w : World} {b r : Nat} {l todo : Mth} {cnt : Nat} (h : Rng w b r l todo cnt) : r ≠ b := by
 obtain ⟨_, _, _, left, h4, _⟩ := h
 exact h4.ne
theorem Rng.sub {w : World} {b r : Nat} {l todo : Mth} {cnt : Nat} (h : Rng w b r l todo cnt) : Up todo ∧ ∀ p ∈ todo, p ∈ l := ⟨h.2.1, h.2.2.1⟩
theorem Rng.kept {w w' : World} {b r : Nat} {l todo : Mth} {cnt : Nat} {row : Option Nat} (h : Rng w b r l todo cnt) (hg : w.grownBy w' row) (hb : some b ≠ row) (hr : some r ≠ row) : Rng w' b r l todo cnt := by
 obtain ⟨h1, h2, h3, left, h4, h5⟩ := h
 exact ⟨h1.kept hg hb, h2, h3, left, h4.kept hg hb hr, h5⟩
theorem Rng.blocks {w w' : World} {b r : Nat} {l todo : Mth} {cnt : Nat} (h : Rng w b r l todo cnt) (hb : w'.heap[b]? = w.heap[b]?) (hr : w'.heap[r]? = w.heap[r]?) : Rng w' b r l todo cnt := by
 obtain ⟨h1, h2, h3, left, ⟨es, clock, since, seen, c0, e1, e2, e3, e4, e5, e6⟩, h5⟩ := h
 exact ⟨h1.block hb, h2, h3, left, ⟨es, clock, since, seen, c0, hb.trans e1, e2, e3, e4, hr.trans e5, e6⟩, h5⟩
theorem Rng.below {w w' : World} {b r : Nat} {l todo : Mth} {cnt : Nat} (h : Rng w b r l todo cnt) (hb : Below w.heap.size w w') : Rng w' b r l todo cnt := h.blocks (hb.block b h.1.lt) (hb.block r h.lt)
theorem Mp.range {w : World} {b : Nat} {l : Mth} (h : Mp w b l) :
  ∃ w', (Instr.range 71 (.map (some b))).run Tryz.prog w = .ok (.pointer (some ⟨w.heap.size, 0, none⟩)) w' ∧ Rng w' b w.heap.size l l l.length ∧ w.grownBy w' none ∧ w'.heap.size = w.heap.size + 1 := by
 obtain ⟨w', hrun, hr, hg, hs⟩ := h.2.2.range keyed3 undTh
 rw [toD_size] at hr
 refine ⟨w', hrun, ⟨h.kept hg (by simp), h.1, fun p hp => hp, _, hr, fun p hp => toD_has _ _⟩, hg, hs⟩
theorem Rng.next {w : World} {b r : Nat} {l todo : Mth} {cnt : Nat} (h : Rng w b r l todo cnt) (ty : TypeId) :
  (todo = [] ∧ (Instr.next (.pointer (some ⟨r, 0, none⟩)) false ty).run Tryz.prog w = .ok (.tuple #[.bool false]) w) ∨
  ∃ k t w' cnt', getM k todo = some t ∧ (Instr.next (.pointer (some ⟨r, 0, none⟩)) false ty).run Tryz.prog w = .ok (.tuple #[.bool true, .int .i64 k, thV t]) w' ∧ Rng w' b r l (delM k todo) cnt' ∧ cnt' < cnt ∧ w.grownBy w' (some r) ∧ w'.heap.size = w.heap.size ∧
   (Instr.entry (.pointer (some ⟨r, 0, none⟩))).run Tryz.prog w' = .ok (.tuple #[.int .i64 k, thV t]) w' := by
 have hne := h.ne
 obtain ⟨h1, h2, h3, left, h4, h5⟩ := h
 rcases h4.next keyed3 ty with ⟨-, hl, hrun⟩ | ⟨key, v, kl, y, w', cnt', hkey, hlk, hv, hat, hrun, hrg, hlt, hgr, hsz, hen⟩
 ·refine Or.inl ⟨?_, hrun⟩
  cases todo with
  | nil => rfl
  | cons p todo =>
   have e1 := h5 p (h3 p (List.mem_cons_self ..))
   rw [hl, getM_cons, if_pos rfl] at e1
   cases e1
 ·obtain ⟨k, rfl, rfl, hw⟩ := Maps.keyOf_int_inv Tryz.underlying3 hkey
  obtain ⟨t, rfl, rfl⟩ := thElem_inv hv
  have hg : getM k l = some t := by
   have e1 := hat .nil
   rw [toD_at] at e1
   cases hq : getM k l with
   | none => rw [hq] at e1; cases e1
   | some s => rw [hq] at e1; rw [thD_inj e1]
  have hm := getM_mem hg
  have e2 := h5 _ hm
  rw [hlk] at e2
  obtain ⟨t', ht'⟩ := Option.isSome_iff_exists.1 e2.symm
  have : t' = t := by
   have := getM_of_mem h1.1 (h3 _ (getM_mem ht'))
   rw [hg] at this
   exact (Option.some.inj this).symm
  subst this
  refine Or.inr ⟨k, t', w', cnt', ht', hrun, ⟨h1.kept hgr (fun e => hne (Option.some.inj e).symm), h2.del k, fun p hp => h3 p (mem_delM.1 hp).1, _, hrg, fun p hp => ?_⟩, hlt, hgr, hsz, hen⟩
  show (left (.int .i64 p.1) && !(Lit.int .i64 p.1).sameKey (.int .i64 k)) = _
  rw [h5 p hp, same_int, getM_del h2]
  by_cases e : p.1 = k <;> simp [e]
section
variable (w : World) {ops : Array Oper} {rest : List Oper} {o : Oper} {a : Act} {Q : Exit → Act → World → Prop}
theorem wp_range (hg : o.guard = none) (m : Operand) (hop : o.op = Op.range 71 m) (b : Nat) (l : Mth) (hm : a.eval m = .map (some b)) (h : Mp w b l)
  (hK : ∀ w', Rng w' b w.heap.size l l l.length → w.grownBy w' none → w'.heap.size = w.heap.size + 1 → wpList Tryz.prog ops Q rest (a.put o.dst (.pointer (some ⟨w.heap.size, 0, none⟩))) w') :
  wpList Tryz.prog ops Q (o :: rest) a w := by
 refine wpList_plain hg fun K' hK' => ?_
 obtain ⟨w', hrun, r1, r2, r3⟩ := h.range
 unfold Oper.wp
 simp [execOp, hop, hm, hrun, Result.andThen]
 exact hK' _ _ (hK w' r1 r2 r3)
theorem wp_next (hg : o.guard = none) (it : Operand) (hop : o.op = Op.next it false) (b r : Nat) (l todo : Mth) (cnt : Nat) (hit : a.eval it = .pointer (some ⟨r, 0, none⟩)) (h : Rng w b r l todo cnt)
  (hDone : todo = [] → wpList Tryz.prog ops Q rest (a.put o.dst (.tuple #[.bool false])) w)
  (hMore : ∀ (k : Int) (t : Th) (w' : World) (cnt' : Nat), getM k todo = some t → Rng w' b r l (delM k todo) cnt' → cnt' < cnt → w.grownBy w' (some r) → w'.heap.size = w.heap.size →
   (Instr.entry (.pointer (some ⟨r, 0, none⟩))).run Tryz.prog w' = .ok (.tuple #[.int .i64 k, .agg #[.int .i64 t.m, .int .i64 t.r.x, .int .i64 t.r.y, .int .i64 t.r.px, .int .i64 t.r.py, .int .i64 t.r.wd, .int .i64 t.r.ht, .int .i64 t.r.ms, .int .i64 t.r.rr]]) w' → wpList Tryz.prog ops Q rest (a.put o.dst (.tuple #[.bool true, .int .i64 k, .agg #[.int .i64 t.m, .int .i64 t.r.x, .int .i64 t.r.y, .int .i64 t.r.px, .int .i64 t.r.py, .int .i64 t.r.wd, .int .i64 t.r.ht, .int .i64 t.r.ms, .int .i64 t.r.rr]])) w') :
  wpList Tryz.prog ops Q (o :: rest) a w := by
 refine wpList_plain hg fun K' hK' => ?_
 unfold Oper.wp
 rcases h.next o.type with ⟨h0, hrun⟩ | ⟨k, t, w', cnt', hk, hrun, hr, hlt, hgr, hsz, hen⟩
 ·simp [execOp, hop, hit, hrun, Result.andThen]
  exact hK' _ _ (hDone h0)
 ·simp [execOp, hop, hit, hrun, Result.andThen]
  exact hK' _ _ (hMore k t w' cnt' hk hr hlt hgr hsz hen)
theorem wp_store (hg : o.guard = none) (m x v : Operand) (hop : o.op = Op.mapUpdate 71 m x v) (b : Nat) (l : Mth) (hm : a.eval m = .map (some b)) (h : Mp w b l) (hn : l.length < maxLen) (k : Int) (hx : a.eval x = .int .i64 k) (hk : (Lit.int .i64 k).wf = true)
  (t : Th) (hv : a.eval v = .agg #[.int .i64 t.m, .int .i64 t.r.x, .int .i64 t.r.y, .int .i64 t.r.px, .int .i64 t.r.py, .int .i64 t.r.wd, .int .i64 t.r.ht, .int .i64 t.r.ms, .int .i64 t.r.rr]) (hK : ∀ w', Mp w' b (putM k t l) → w.mapTurned w' b → wpList Tryz.prog ops Q rest (a.put o.dst undef) w') : wpList Tryz.prog ops Q (o :: rest) a w := by
 refine wpList_plain hg fun K' hK' => ?_
 obtain ⟨w', hrun, r1, r2⟩ := h.store hk t hn
 have hv' : a.eval v = thV t := hv
 unfold Oper.wp
 simp [execOp, hop, hm, hx, hv', hrun, Result.andThen]
 exact hK' _ _ (hK w' r1 r2)
end
theorem Mp.below_turn {w0 w w' : World} {b : Nat} (hb : Below w0.heap.size w0 w) (h : w.mapTurned w' b) (hle : w0.heap.size ≤ b) : Below w0.heap.size w0 w' := hb.grown h.grown hb.size (fun q hq => by cases hq; exact hle)
theorem turned_size {w w' : World} {b : Nat} (h : w.mapTurned w' b) : w'.heap.size = w.heap.size := by
 obtain ⟨es, clock, es', clock', hb, rfl⟩ := h
 simp [setBlock]
theorem turned_block {w w' : World} {b : Nat} (h : w.mapTurned w' b) {i : Nat} (hi : i ≠ b) : w'.heap[i]? = w.heap[i]? := by
 obtain ⟨es, clock, es', clock', hb, rfl⟩ := h
 exact heap_setBlock_other hb _ hi
end Mp
namespace Th
open Num St
open Go.ChangeShapes Go.WideShapes Go.ChangeAt Go.RowKit
theorem hidT {p : Prop} (h : p) : Hid p := h
theorem within_any (n a b : Int) (w : World) :
  Calls Tryz.prog 47 #[.int .i64 n, .int .i64 a, .int .i64 b] w fun e w' => e = .returned (.bool (btw n a b)) ∧ w' = w := by
 go_enter Tryz.func47, Tryz.ntmps47
 go_wp2
 ·go_ret
  exact ⟨ret_bool (by simp [btw]; omega), rfl⟩
 ·go_ret
  exact ⟨ret_bool (by simp [btw]; omega), rfl⟩
def hasR (m p : Int) : Bool := (m.tdiv p).tmod 2 == 1
def masks : List Int := [0, 1, 2, 3, 4, 5, 6, 7, 8, 9, 10, 11, 12, 13, 14, 15, 16, 17, 18, 19, 20, 21, 22, 23, 24, 25, 26, 27, 28, 29, 30, 31]
theorem mem_masks {m : Int} (h : 0 ≤ m ∧ m ≤ 31) : m ∈ masks := by
 simp only [masks, List.mem_cons, List.not_mem_nil, or_false]
 omega
theorem hasR_all : ∀ m ∈ masks, (hasR m 1 = hasB m 1 ∧ hasR m 2 = hasB m 2 ∧ hasR m 4 = hasB m 4 ∧ hasR m 8 = hasB m 8 ∧ hasR m 16 = hasB m 16) := by decide +kernel
theorem hasR_eq {m : Int} (h : 0 ≤ m ∧ m ≤ 31) : hasR m 1 = hasB m 1 ∧ hasR m 2 = hasB m 2 ∧ hasR m 4 = hasB m 4 ∧ hasR m 8 = hasB m 8 ∧ hasR m 16 = hasB m 16 := hasR_all m (mem_masks h)
theorem has_any (m p : Int) (hm : -9223372036854775808 ≤ m ∧ m ≤ 9223372036854775807) (hp : 1 ≤ p ∧ p ≤ 16) (w : World) :
  Calls Tryz.prog 54 #[.int .i64 m, .int .i64 p] w fun e w' => e = .returned (.bool (hasR m p)) ∧ w' = w := by
 have h0 : (p == 0) = false := by simp; omega
 have h1 : p ≠ 0 := by omega
 have hq : -9223372036854775808 ≤ m.tdiv p ∧ m.tdiv p ≤ 9223372036854775807 := by
  have h2 := Int.natAbs_tdiv_le_natAbs m p
  have h3 : m = -9223372036854775808 ∨ m.natAbs ≤ 9223372036854775807 := by omega
  rcases h3 with rfl | h3
  ·have : ((-9223372036854775808 : Int).tdiv p) ≤ 0 := by
    have := Int.tdiv_nonneg (a := 9223372036854775808) (b := p) (by omega) (by omega)
    rw [show (-9223372036854775808 : Int) = -(9223372036854775808) by rfl, Int.neg_tdiv]
    omega
   omega
  ·omega
 go_enter Tryz.func54, Tryz.ntmps54
 go_wp2
 go_ret
 refine ⟨ret_bool ?_, rfl⟩
 unfold hasR
 congr 1
def onlyH (m : Int) (f : R8) : R8 :=
 ⟨if hasR m 1 then f.x else 0, if hasR m 1 then f.y else 0, if hasR m 2 then f.px else 0, if hasR m 2 then f.py else 0,
  if hasR m 4 then f.wd else 0, if hasR m 4 then f.ht else 0, if hasR m 8 then f.ms else 0, if hasR m 8 then f.rr else 0⟩
theorem onlyH_eq {m : Int} (h : 0 ≤ m ∧ m ≤ 31) (f : R8) : onlyH m f = onlyR m f := by
 obtain ⟨h1, h2, h4, h8, _⟩ := hasR_eq h
 simp only [onlyH, onlyR, layR, zeroR, h1, h2, h4, h8]
set_option maxHeartbeats 4000000 in
theorem onlyOf_any (m : Int) (hm : -9223372036854775808 ≤ m ∧ m ≤ 9223372036854775807) (x y px py wd ht ms rr : Int) (w : World) :
  Calls Tryz.prog 55 #[.int .i64 m, .agg #[.int .i64 x, .int .i64 y, .int .i64 px, .int .i64 py, .int .i64 wd, .int .i64 ht, .int .i64 ms, .int .i64 rr]] w
   fun e w' => e = .returned (rowV (onlyH m ⟨x, y, px, py, wd, ht, ms, rr⟩)) ∧ Below w.heap.size w w' := by
 have HM := hidT hm
 clear hm
 unfold onlyH rowV
 cases h1 : hasR m 1 <;> cases h2 : hasR m 2 <;> cases h4 : hasR m 4 <;> cases h8 : hasR m 8
 all_goals
  simp only [if_true, if_false, Bool.false_eq_true]
  go_enter Tryz.func55, Tryz.ntmps55
  go_wp2_with (go_at_call 54; refine (has_any _ _ HM.out (by decide) _).mono ?_; rintro e w' ⟨rfl, rfl⟩)
  refine bodyPost_ret (by simp [results, Tryz.results55, go_sem]) rfl ⟨rfl, ?_⟩
  repeat (first | exact Below.refl _ _ | refine bal ?_ _ | refine Below.setCell ?_ (by simp) _)
end Th
namespace Th
open Num St
open Go.ChangeShapes Go.WideShapes Go.ChangeAt Go.RowKit
def p1B (m : Int) (r : R8) : Bool := !hasR m 1 || (btw r.x (-1048576) 1048576 && btw r.y (-1048576) 1048576)
def p2B (m : Int) (r : R8) : Bool := !hasR m 2 || (btw r.px (-16777216) 16777216 && btw r.py (-16777216) 16777216)
def p4B (m : Int) (r : R8) : Bool := !hasR m 4 || (btw r.wd 1 4096 && btw r.ht 1 4096)
def p8B (m : Int) (r : R8) : Bool := !hasR m 8 || (btw r.ms 1 9 && btw r.rr 0 256)
def isRowH (m : Int) (r : R8) : Bool := btw m 1 31 && (((p1B m r && p2B m r) && p4B m r) && p8B m r && eqR r (onlyH m r))
theorem eqR_iff (a b : R8) : eqR a b = true ↔ a = b := by
 obtain ⟨⟩ := a
 obtain ⟨⟩ := b
 simp [eqR, and_assoc]
theorem isRow_good (m : Int) (r : R8) : isRowH m r = goodRowB m r := by
 unfold isRowH goodRowB
 cases hb : btw m 1 31
 ·rfl
 ·have hm : 0 ≤ m ∧ m ≤ 31 := by simp [btw] at hb; omega
  rw [onlyH_eq hm]
  obtain ⟨h1, h2, h4, h8, _⟩ := hasR_eq hm
  unfold p1B p2B p4B p8B goodPartsB
  rw [h1, h2, h4, h8]
  simp only [Bool.true_and]
  cases he : eqR r (onlyR m r)
  ·simp
  ·have e := (eqR_iff _ _).1 he
   have ex : r.x = if hasB m 1 then r.x else 0 := congrArg R8.x e
   have ey : r.y = if hasB m 1 then r.y else 0 := congrArg R8.y e
   have epx : r.px = if hasB m 2 then r.px else 0 := congrArg R8.px e
   have epy : r.py = if hasB m 2 then r.py else 0 := congrArg R8.py e
   have err : r.rr = if hasB m 8 then r.rr else 0 := congrArg R8.rr e
   clear e he hb hm
   cases g1 : hasB m 1 <;> cases g2 : hasB m 2 <;> cases g4 : hasB m 4 <;> cases g8 : hasB m 8 <;> rw [g1] at ex ey <;> rw [g2] at epx epy <;> rw [g8] at err <;> simp only [Bool.false_eq_true, if_false, if_true] at ex ey epx epy err <;>
    (rw [Bool.eq_iff_iff]; simp [btw]; try omega)
set_option maxHeartbeats 4000000 in
set_option maxRecDepth 10000 in
theorem isRow_any (m : Int) (r : R8) (w : World) :
  Calls Tryz.prog 49 #[.int .i64 m, .agg #[.int .i64 r.x, .int .i64 r.y, .int .i64 r.px, .int .i64 r.py, .int .i64 r.wd, .int .i64 r.ht, .int .i64 r.ms, .int .i64 r.rr]] w
   fun e w' => e = .returned (.bool (isRowH m r)) ∧ Below w.heap.size w w' := by
 cases hb : btw m 1 31
 ·go_enter Tryz.func49, Tryz.ntmps49
  go_wp2_with (go_at_call 47; refine (within_any _ _ _ _).mono ?_; rintro e w' ⟨rfl, rfl⟩)
  go_ret
  exact ⟨ret_bool (by simp [isRowH, hb]), bal (Below.refl _ _) _⟩
 ·have HM : Hid (-9223372036854775808 ≤ m ∧ m ≤ 9223372036854775807) := hidT (by simp [btw] at hb; omega)
  have HBI : Hid (isRowH m r = (((p1B m r && p2B m r) && p4B m r) && p8B m r && eqR r (onlyH m r))) := hidT (by simp [isRowH, hb])
  have e30 := eq30
  have hO0 := onlyOf_any m HM.out r.x r.y r.px r.py r.wd r.ht r.ms r.rr
  have hOr : (⟨r.x, r.y, r.px, r.py, r.wd, r.ht, r.ms, r.rr⟩ : R8) = r := rfl
  rw [hOr] at hO0
  clear hOr
  generalize onlyH m r = ro at hO0 HBI
  obtain ⟨x', y', px', py', wd', ht', ms', rr'⟩ := ro
  have hO : Hid _ := hO0
  clear hO0
  unfold rowV at hO
  go_enter Tryz.func49, Tryz.ntmps49
  go_upto_if 10 with (first | (go_at_call 47; refine (within_any _ _ _ _).mono ?_; rintro e w' ⟨rfl, rfl⟩) | (go_at_call 54; refine (has_any _ _ HM.out (by decide) _).mono ?_; rintro e w' ⟨rfl, rfl⟩))
  go_cut [5] (fun s wx => s = .bool (p1B m r) ∧ wx = w.alloc (.cells #[.int .i64 r.x, .int .i64 r.y, .int .i64 r.px, .int .i64 r.py, .int .i64 r.wd, .int .i64 r.ht, .int .i64 r.ms, .int .i64 r.rr] 34))
  case first =>
   cases h : hasR m 1
   ·go_wp2_with fail
    go_meet
    exact ⟨by simp [p1B, h], rfl⟩
   ·go_wp2_with (go_at_call 47; refine (within_any _ _ _ _).mono ?_; rintro e w' ⟨rfl, rfl⟩)
    all_goals
     go_meet
     exact ⟨by simp_all [p1B], rfl⟩
  case rest =>
  obtain ⟨rfl, rfl⟩ := hcut
  go_upto_if 23 with (first | (go_at_call 54; refine (has_any _ _ HM.out (by decide) _).mono ?_; rintro e w' ⟨rfl, rfl⟩))
  go_cut [5] (fun s wx => s = .bool (p1B m r && p2B m r) ∧ wx = w.alloc (.cells #[.int .i64 r.x, .int .i64 r.y, .int .i64 r.px, .int .i64 r.py, .int .i64 r.wd, .int .i64 r.ht, .int .i64 r.ms, .int .i64 r.rr] 34))
  case first =>
   cases h : hasR m 2
   ·go_wp2_with fail
    go_meet
    exact ⟨by simp [p2B, h], rfl⟩
   ·go_wp2_with (go_at_call 47; refine (within_any _ _ _ _).mono ?_; rintro e w' ⟨rfl, rfl⟩)
    all_goals
     go_meet
     exact ⟨by simp_all [p2B], rfl⟩
  case rest =>
  obtain ⟨rfl, rfl⟩ := hcut
  go_upto_if 36 with (first | (go_at_call 54; refine (has_any _ _ HM.out (by decide) _).mono ?_; rintro e w' ⟨rfl, rfl⟩))
  go_cut [5] (fun s wx => s = .bool ((p1B m r && p2B m r) && p4B m r) ∧ wx = w.alloc (.cells #[.int .i64 r.x, .int .i64 r.y, .int .i64 r.px, .int .i64 r.py, .int .i64 r.wd, .int .i64 r.ht, .int .i64 r.ms, .int .i64 r.rr] 34))
  case first =>
   cases h : hasR m 4
   ·go_wp2_with fail
    go_meet
    exact ⟨by simp [p4B, h], rfl⟩
   ·go_wp2_with (go_at_call 47; refine (within_any _ _ _ _).mono ?_; rintro e w' ⟨rfl, rfl⟩)
    all_goals
     go_meet
     exact ⟨by simp_all [p4B], rfl⟩
  case rest =>
  obtain ⟨rfl, rfl⟩ := hcut
  go_upto_if 49 with (first | (go_at_call 54; refine (has_any _ _ HM.out (by decide) _).mono ?_; rintro e w' ⟨rfl, rfl⟩))
  go_cut [5] (fun s wx => s = .bool (((p1B m r && p2B m r) && p4B m r) && p8B m r) ∧ wx = w.alloc (.cells #[.int .i64 r.x, .int .i64 r.y, .int .i64 r.px, .int .i64 r.py, .int .i64 r.wd, .int .i64 r.ht, .int .i64 r.ms, .int .i64 r.rr] 34))
  case first =>
   cases h : hasR m 8
   ·go_wp2_with fail
    go_meet
    exact ⟨by simp [p8B, h], rfl⟩
   ·go_wp2_with (go_at_call 47; refine (within_any _ _ _ _).mono ?_; rintro e w' ⟨rfl, rfl⟩)
    all_goals
     go_meet
     exact ⟨by simp_all [p8B], rfl⟩
  case rest =>
  obtain ⟨rfl, rfl⟩ := hcut
  generalize (((p1B m r && p2B m r) && p4B m r) && p8B m r) = q at HBI ⊢
  cases q
  ·go_wp2_with fail
   go_quiet (fail)
   go_wp2_with fail
   go_ret
   exact ⟨ret_bool (by rw [HBI.out]; rfl), below_drewN (bal (Below.refl _ _) _) _⟩
  ·go_wp2_with fail
   first | go_region_with (first | (go_at_call 55; refine (hO.out _).mono ?_; rintro e w' ⟨rfl, hb⟩; obtain ⟨hc, hf⟩ := bcell hb; clear hf; have HB : Hid _ := hb; clear hb)) | fail
   all_goals
    go_wp2
    go_ret
    exact ⟨ret_bool (by rw [HBI.out]; rfl), bcall (Below.drew (bal (Below.refl _ _) _)) HB.out⟩
end Th
namespace Th
open Num St Mp
open Go.ChangeShapes Go.WideShapes Go.ChangeAt Go.RowKit
def doneM (l todo : Mth) : Mth := l.filter (fun p => (getM p.1 todo).isNone)
theorem doneM_all {l : Mth} (hu : Up l) : doneM l l = [] := by
 unfold doneM
 rw [List.filter_eq_nil_iff]
 intro p hp
 rw [getM_of_mem hu (k := p.1) (t := p.2) hp]
 simp
theorem doneM_nil (l : Mth) : doneM l [] = l := by
 unfold doneM
 rw [List.filter_eq_self]
 intro p hp
 rfl
theorem mem_doneM {l todo : Mth} {p : Int × Th} : p ∈ doneM l todo ↔ p ∈ l ∧ getM p.1 todo = none := by
 unfold doneM
 rw [List.mem_filter, Option.isNone_iff_eq_none]
theorem keys_up {l : Mth} (h : Up l) : (l.map (·.1)).Pairwise (· < ·) := by
 rw [List.pairwise_map]
 exact h
theorem up_ext {a b : List Int} (ha : a.Pairwise (· < ·)) (hb : b.Pairwise (· < ·)) (h : ∀ x, x ∈ a ↔ x ∈ b) : a = b := by
 induction a generalizing b with
 | nil =>
  cases b with
  | nil => rfl
  | cons y b => exact absurd ((h y).2 (List.mem_cons_self ..)) (by simp)
 | cons x a ih =>
  cases b with
  | nil => exact absurd ((h x).1 (List.mem_cons_self ..)) (by simp)
  | cons y b =>
   have ha' := List.pairwise_cons.1 ha
   have hb' := List.pairwise_cons.1 hb
   have e : x = y := by
    rcases List.mem_cons.1 ((h x).1 (List.mem_cons_self ..)) with h1 | h1
    ·exact h1
    ·rcases List.mem_cons.1 ((h y).2 (List.mem_cons_self ..)) with h2 | h2
     ·exact h2.symm
     ·have := hb'.1 x h1
      have := ha'.1 y h2
      omega
   subst e
   rw [ih ha'.2 hb'.2 (fun z => ?_)]
   constructor
   ·intro hz
    rcases List.mem_cons.1 ((h z).1 (List.mem_cons_of_mem _ hz)) with h1 | h1
    ·subst h1; have := ha'.1 z hz; omega
    ·exact h1
   ·intro hz
    rcases List.mem_cons.1 ((h z).2 (List.mem_cons_of_mem _ hz)) with h1 | h1
    ·subst h1; have := hb'.1 z hz; omega
    ·exact h1
theorem done_ins {l todo : Mth} {out : List Int} {k : Int} {t : Th} {q : Nat} (hl : Up l) (hu : Up todo) (hs : ∀ p ∈ todo, p ∈ l) (hk : getM k todo = some t) (ho : out = (doneM l todo).map (·.1))
  (h1 : q = 0 ∨ ∃ y, out[q - 1]? = some y ∧ ¬ y > k) (h2 : ∀ y ∈ out.drop q, k < y) : out.take q ++ k :: out.drop q = (doneM l (delM k todo)).map (·.1) := by
 have hso : out.Pairwise (· < ·) := by rw [ho]; exact keys_up (List.Pairwise.filter _ hl)
 have hno : k ∉ out := by
  rw [ho]
  intro h
  obtain ⟨p, hp, e⟩ := List.mem_map.1 h
  have := (mem_doneM.1 hp).2
  rw [e, hk] at this
  cases this
 have hp : (out.take q ++ out.drop q).Pairwise (· < ·) := by rw [List.take_append_drop]; exact hso
 rw [List.pairwise_append] at hp
 refine up_ext ?_ (keys_up (List.Pairwise.filter _ hl)) (fun x => ?_)
 ·have hle : ∀ y ∈ out.take q, y < k := by
   intro y hy
   have hyo : y ≠ k := fun e => hno (e ▸ List.mem_of_mem_take hy)
   rcases h1 with h1 | ⟨z, hz, hzx⟩
   ·subst h1; simp at hy
   ·obtain ⟨j, hj⟩ := List.getElem?_of_mem hy
    have hjl : j < q := by have := (List.getElem?_eq_some_iff.1 hj).1; rw [List.length_take] at this; omega
    rw [List.getElem?_take_of_lt hjl] at hj
    have e1 := List.getElem?_eq_some_iff.1 hj
    have e2 := List.getElem?_eq_some_iff.1 hz
    rcases Nat.lt_or_ge j (q - 1) with h3 | h3
    ·have := List.pairwise_iff_getElem.1 hso j (q - 1) e1.1 e2.1 h3
     rw [e1.2, e2.2] at this
     omega
    ·have : j = q - 1 := by omega
     subst this
     rw [hz] at hj
     cases hj
     omega
  rw [List.pairwise_append]
  refine ⟨hp.1, List.pairwise_cons.2 ⟨h2, hp.2.1⟩, fun a ha c hc => ?_⟩
  rcases List.mem_cons.1 hc with rfl | hc
  ·exact hle a ha
  ·exact hp.2.2 a ha c hc
 ·have e1 : x ∈ out.take q ++ k :: out.drop q ↔ x = k ∨ x ∈ out := by
   rw [List.mem_append, List.mem_cons]
   conv => rhs; rw [← List.take_append_drop q out, List.mem_append]
   constructor
   ·rintro (h | h | h)
    ·exact Or.inr (Or.inl h)
    ·exact Or.inl h
    ·exact Or.inr (Or.inr h)
   ·rintro (h | h | h)
    ·exact Or.inr (Or.inl h)
    ·exact Or.inl h
    ·exact Or.inr (Or.inr h)
  rw [e1, ho, List.mem_map, List.mem_map]
  constructor
  ·rintro (h | ⟨p, hp, e⟩)
   ·exact ⟨(k, t), mem_doneM.2 ⟨hs _ (getM_mem hk), by rw [getM_del hu]; simp⟩, h.symm⟩
   ·refine ⟨p, mem_doneM.2 ⟨(mem_doneM.1 hp).1, ?_⟩, e⟩
    rw [getM_del hu, (mem_doneM.1 hp).2]
    simp
  ·rintro ⟨p, hp, e⟩
   obtain ⟨h3, h4⟩ := mem_doneM.1 hp
   rw [getM_del hu] at h4
   by_cases h5 : p.1 = k
   ·exact Or.inl (e.symm.trans h5)
   ·rw [if_neg h5] at h4
    exact Or.inr ⟨p, mem_doneM.2 ⟨h3, h4⟩, e⟩
end Th
namespace Th
open Num St Mp
open Go.ChangeShapes Go.WideShapes Go.ChangeAt Go.RowKit
def prT (t : Tab) : Mth := (t.ids.zip t.rows).map (fun p => (p.1, (⟨t.mask, p.2⟩ : Th)))
def prs (L : List Tab) : Mth := L.flatMap prT
def ofP (ps : Mth) : Mth := ps.foldl (fun M p => putM p.1 p.2 M) []
def thM (L : List Tab) : Mth := ofP (prs L)
theorem snoc_ind {α : Type} {P : List α → Prop} (h0 : P []) (h1 : ∀ l a, P l → P (l ++ [a])) : ∀ l, P l := by
 intro l
 rw [← List.reverse_reverse l]
 induction l.reverse with
 | nil => exact h0
 | cons a r ih => rw [List.reverse_cons]; exact h1 _ _ ih
theorem ofP_snoc (ps : Mth) (p : Int × Th) : ofP (ps ++ [p]) = putM p.1 p.2 (ofP ps) := by simp [ofP]
theorem ofP_up (ps : Mth) : Up (ofP ps) := by
 induction ps using snoc_ind with
 | h0 => exact up_nil
 | h1 l a ih => rw [ofP_snoc]; exact ih.put _ _
theorem ofP_has (ps : Mth) (k : Int) : (getM k (ofP ps)).isSome = decide (k ∈ ps.map (·.1)) := by
 induction ps using snoc_ind with
 | h0 => simp [ofP, getM_nil]
 | h1 l a ih =>
  rw [ofP_snoc, getM_put (ofP_up _), List.map_append]
  by_cases h : k = a.1
  ·simp [h]
  ·rw [if_neg h, ih]
   simp [h]
theorem ofP_get {ps : Mth} (hn : (ps.map (·.1)).Nodup) {k : Int} {t : Th} : getM k (ofP ps) = some t ↔ (k, t) ∈ ps := by
 induction ps using snoc_ind with
 | h0 => simp [ofP, getM_nil]
 | h1 l a ih =>
  rw [List.map_append, List.nodup_append] at hn
  rw [ofP_snoc, getM_put (ofP_up _), List.mem_append]
  by_cases h : k = a.1
  ·rw [if_pos h]
   constructor
   ·intro e
    cases e
    refine Or.inr ?_
    rw [h]
    exact List.mem_singleton.2 rfl
   ·rintro (e | e)
    ·exact absurd h (hn.2.2 k (List.mem_map.2 ⟨_, e, rfl⟩) a.1 (by simp))
    ·rw [List.mem_singleton] at e
     rw [← e]
  ·rw [if_neg h, ih hn.1]
   constructor
   ·exact Or.inl
   ·rintro (e | e)
    ·exact e
    ·rw [List.mem_singleton] at e
     exact absurd (by rw [← e]) h
theorem ofP_len {ps : Mth} (hn : (ps.map (·.1)).Nodup) : (ofP ps).length = ps.length := by
 induction ps using snoc_ind with
 | h0 => rfl
 | h1 l a ih =>
  rw [List.map_append, List.nodup_append] at hn
  have hno : (getM a.1 (ofP l)).isSome = false := by
   rw [ofP_has]
   simp only [decide_eq_false_iff_not]
   intro h
   exact hn.2.2 _ h a.1 (by simp) rfl
  rw [ofP_snoc, putM_len _ _ (ofP_up _), hno, ih hn.1]
  simp
theorem mem_prT {tb : Tab} {k : Int} {t : Th} : (k, t) ∈ prT tb ↔ tb.mask = t.m ∧ ∃ j : Nat, tb.ids[j]? = some k ∧ tb.rows[j]? = some t.r := by
 unfold prT
 rw [List.mem_map]
 constructor
 ·rintro ⟨p, hp, e⟩
  cases e
  obtain ⟨j, hj⟩ := List.getElem?_of_mem hp
  rw [List.getElem?_zip_eq_some] at hj
  exact ⟨rfl, j, hj.1, hj.2⟩
 ·rintro ⟨h1, j, h2, h3⟩
  refine ⟨(k, t.r), List.mem_of_getElem? (i := j) ?_, ?_⟩
  ·rw [List.getElem?_zip_eq_some]; exact ⟨h2, h3⟩
  ·rw [h1]
theorem mem_prs {L : List Tab} {k : Int} {t : Th} : (k, t) ∈ prs L ↔ At L k t.m t.r := by
 unfold prs At
 rw [List.mem_flatMap]
 constructor
 ·rintro ⟨tb, h1, h2⟩
  obtain ⟨h3, h4⟩ := mem_prT.1 h2
  exact ⟨tb, h1, h3, h4⟩
 ·rintro ⟨tb, h1, h3, h4⟩
  exact ⟨tb, h1, mem_prT.2 ⟨h3, h4⟩⟩
theorem keys_prT {tb : Tab} (h : tb.ids.length = tb.rows.length) : (prT tb).map (·.1) = tb.ids := by
 unfold prT
 rw [List.map_map]
 exact List.map_fst_zip (Nat.le_of_eq h)
theorem keys_prs {L : List Tab} (he : Even L) : (prs L).map (·.1) = allL L := by
 induction L with
 | nil => rfl
 | cons t L ih =>
  have h1 := he t (List.mem_cons_self ..)
  have h2 := ih (fun x hx => he x (List.mem_cons_of_mem _ hx))
  simp only [prs, List.flatMap_cons, List.map_append, allL] at h2 ⊢
  rw [h2, keys_prT h1]
theorem thM_up (L : List Tab) : Up (thM L) := ofP_up _
theorem thM_get {L : List Tab} (he : Even L) (hn : (allL L).Nodup) {k : Int} {t : Th} : getM k (thM L) = some t ↔ At L k t.m t.r := by
 rw [thM, ofP_get (by rw [keys_prs he]; exact hn), mem_prs]
theorem thM_has {L : List Tab} (he : Even L) (k : Int) : (getM k (thM L)).isSome = decide (k ∈ allL L) := by
 rw [thM, ofP_has, keys_prs he]
theorem thM_none {L : List Tab} (he : Even L) {k : Int} : getM k (thM L) = none ↔ k ∉ allL L := by
 have := thM_has he k
 cases h : getM k (thM L) <;> rw [h] at this <;> simp at this ⊢ <;> exact this
theorem thM_len {L : List Tab} (he : Even L) (hn : (allL L).Nodup) : (thM L).length = (allL L).length := by
 rw [thM, ofP_len (by rw [keys_prs he]; exact hn), ← keys_prs he, List.length_map]
theorem thM_ext {L : List Tab} {M : Mth} (he : Even L) (hn : (allL L).Nodup) (hu : Up M) (h : ∀ k t, getM k M = some t ↔ At L k t.m t.r) : thM L = M :=
 (thM_up L).ext hu (fun k => option_ext (fun t => by rw [thM_get he hn, h]))
variable {T : Nat → TabV} {I : Nat → Nat → Int} {R : Nat → Nat → R8}
end Th
end Go.Proofs.YtckkkdldljhehacGreat
