/- Put together: Things by number as plain lists that rise by number: put, taken away, looked up; and that such a list is told by what is looked up in it. No program. A map of things by number in memory, read as a plain list that rises by number: looked up, stored into, struck, counted, ranged over. What within, has, OnlyOf and IsRow of package ninepinsref answer when called, in whatever world: the same plain answers as package store's. Conditions: of has, a part's number; of OnlyOf, a mask from 0 to 31. What IsRow of package ninepinsref answers when called, in whatever world: whether the row is good for the mask, as package store's GoodRow says. No conditions. What sorted and Having of things by number (package ninepinsref) answer when called over a map in memory: all numbers, or those of the things that have all parts of a mask, rising, in memory of their own. Nothing that was in memory before has changed. The things of a store's tables as a plain list that rises by number; when a store is good, in the words of ThingsOf of package ninepinsref. No program. What ThingsOf of package ninepinsref answers when called over a store in memory: its things by number, in a map of their own, and true, just if the store is good; else false; nothing that was in memory before has changed. -/
import Derived.Test.YtckkkdldljhehabGreatPkA
import Derived.Test.YtckkkdldljhehabGreatProg
import Derived.WalkKit
import Derived.Below
import Derived.Maps.RangeWalk
import Derived.Test.YtckkkdldljhehabGreatPkB
import Derived.Deep.DeepCutAuto
import Derived.WalkSmall
import Derived.Maps.AppendAt
import Derived.Laws.OwnMore
import Derived.Lib.SmallJoins
import Derived.Deep.OwnRows
import Derived.Test.YtckkkdldljhehabGreatPkC
import Derived.Deep.DrawnRows
namespace Go.Proofs.YtckkkdldljhehabGreat.Mp
open Go.Proofs.YtckkkdldljhehabGreat.Num

/-- A thing: its mask and its row. -/
structure Th where
  m : Int
  r : R8
abbrev Mth := List (Int × Th)
def insM (x : Int × Th) : Mth → Mth
  | [] => [x]
  | y :: l => if x.1 < y.1 then x :: y :: l else y :: insM x l
def delM (k : Int) (l : Mth) : Mth := l.filter (fun p => !decide (p.1 = k))
def putM (k : Int) (t : Th) (l : Mth) : Mth := insM (k, t) (delM k l)
def getM (k : Int) (l : Mth) : Option Th := (l.find? (fun p => decide (p.1 = k))).map (·.2)
def Up (l : Mth) : Prop := l.Pairwise (fun a b => a.1 < b.1)

theorem getM_nil (k : Int) : getM k [] = none := rfl
theorem getM_cons (k : Int) (x : Int × Th) (l : Mth) : getM k (x :: l) = if x.1 = k then some x.2 else getM k l := by
  unfold getM
  rw [List.find?_cons]
  by_cases h : x.1 = k <;> simp [h]
theorem mem_insM {x p : Int × Th} {l : Mth} : p ∈ insM x l ↔ p = x ∨ p ∈ l := by
  induction l with
  | nil => simp [insM]
  | cons y l ih =>
    unfold insM
    split
    · simp
    · simp only [List.mem_cons, ih]
      constructor
      · rintro (h | h | h)
        · exact Or.inr (Or.inl h)
        · exact Or.inl h
        · exact Or.inr (Or.inr h)
      · rintro (h | h | h)
        · exact Or.inr (Or.inl h)
        · exact Or.inl h
        · exact Or.inr (Or.inr h)
theorem mem_delM {k : Int} {p : Int × Th} {l : Mth} : p ∈ delM k l ↔ p ∈ l ∧ p.1 ≠ k := by simp [delM]
theorem mem_putM {k : Int} {t : Th} {p : Int × Th} {l : Mth} : p ∈ putM k t l ↔ p = (k, t) ∨ (p ∈ l ∧ p.1 ≠ k) := by rw [putM, mem_insM, mem_delM]
theorem Up.del {l : Mth} (h : Up l) (k : Int) : Up (delM k l) := List.Pairwise.filter _ h
theorem Up.ins {l : Mth} (h : Up l) {x : Int × Th} (hx : ∀ p ∈ l, p.1 ≠ x.1) : Up (insM x l) := by
  induction l with
  | nil => exact List.pairwise_singleton _ _
  | cons y l ih =>
    have h' := List.pairwise_cons.1 h
    unfold insM
    split
    · rename_i hlt
      refine List.pairwise_cons.2 ⟨fun q hq => ?_, h⟩
      rcases List.mem_cons.1 hq with rfl | hq
      · exact hlt
      · have := h'.1 q hq; omega
    · rename_i hlt
      refine List.pairwise_cons.2 ⟨fun q hq => ?_, ih h'.2 (fun p hp => hx p (List.mem_cons_of_mem _ hp))⟩
      rcases mem_insM.1 hq with rfl | hq
      · have := hx y (List.mem_cons_self ..); omega
      · exact h'.1 q hq
theorem Up.put {l : Mth} (h : Up l) (k : Int) (t : Th) : Up (putM k t l) := (h.del k).ins (fun _ hp => (mem_delM.1 hp).2)
theorem up_nil : Up [] := List.Pairwise.nil
theorem getM_mem {l : Mth} {k : Int} {t : Th} (h : getM k l = some t) : (k, t) ∈ l := by
  induction l with
  | nil => simp [getM_nil] at h
  | cons x l ih =>
    rw [getM_cons] at h
    split at h
    · rename_i e
      cases h
      rw [← e]
      exact List.mem_cons_self ..
    · exact List.mem_cons_of_mem _ (ih h)
theorem getM_of_mem {l : Mth} (hu : Up l) {k : Int} {t : Th} (h : (k, t) ∈ l) : getM k l = some t := by
  induction l with
  | nil => cases h
  | cons x l ih =>
    have h' := List.pairwise_cons.1 hu
    rw [getM_cons]
    rcases List.mem_cons.1 h with rfl | h
    · rw [if_pos rfl]
    · have := h'.1 _ h
      rw [if_neg (by simp only at this; omega), ih h'.2 h]
theorem getM_iff {l : Mth} (hu : Up l) {k : Int} {t : Th} : getM k l = some t ↔ (k, t) ∈ l := ⟨getM_mem, getM_of_mem hu⟩
theorem getM_none {l : Mth} {k : Int} : getM k l = none ↔ ∀ p ∈ l, p.1 ≠ k := by
  unfold getM
  simp
theorem getM_some_iff {l : Mth} {k : Int} : (getM k l).isSome = true ↔ k ∈ l.map (·.1) := by
  cases h : getM k l with
  | none =>
    have := getM_none.1 h
    simp
    intro t ht
    exact this _ ht rfl
  | some t =>
    simp
    exact ⟨t, getM_mem h⟩
theorem option_ext {α : Type} {a b : Option α} (h : ∀ t, a = some t ↔ b = some t) : a = b := by
  cases a with
  | none => cases b with
    | none => rfl
    | some t => exact ((h t).2 rfl)
  | some t => exact ((h t).1 rfl).symm
theorem getM_put {l : Mth} (hu : Up l) (k j : Int) (t : Th) : getM j (putM k t l) = if j = k then some t else getM j l := by
  apply option_ext
  intro s
  rw [getM_iff (hu.put k t), mem_putM]
  by_cases hj : j = k
  · subst hj
    simp only [if_true]
    constructor
    · rintro (h | h)
      · cases h; rfl
      · exact absurd rfl h.2
    · intro h; cases h; exact Or.inl rfl
  · rw [if_neg hj, getM_iff hu]
    constructor
    · rintro (h | h)
      · cases h; exact absurd rfl hj
      · exact h.1
    · intro h; exact Or.inr ⟨h, hj⟩
theorem getM_del {l : Mth} (hu : Up l) (k j : Int) : getM j (delM k l) = if j = k then none else getM j l := by
  apply option_ext
  intro s
  rw [getM_iff (hu.del k), mem_delM]
  by_cases hj : j = k
  · subst hj
    simp
  · rw [if_neg hj, getM_iff hu]
    exact ⟨fun h => h.1, fun h => ⟨h, hj⟩⟩
theorem Up.ext {a b : Mth} (ha : Up a) (hb : Up b) (h : ∀ k, getM k a = getM k b) : a = b := by
  have hm : ∀ p, p ∈ a ↔ p ∈ b := fun p => by
    obtain ⟨k, t⟩ := p
    rw [← getM_iff ha, ← getM_iff hb, h k]
  induction a generalizing b with
  | nil =>
    cases b with
    | nil => rfl
    | cons y b => exact absurd ((hm y).2 (List.mem_cons_self ..)) (by simp)
  | cons x a ih =>
    cases b with
    | nil => exact absurd ((hm x).1 (List.mem_cons_self ..)) (by simp)
    | cons y b =>
      have ha' := List.pairwise_cons.1 ha
      have hb' := List.pairwise_cons.1 hb
      have hxy : x = y := by
        rcases List.mem_cons.1 ((hm x).1 (List.mem_cons_self ..)) with h1 | h1
        · exact h1
        · rcases List.mem_cons.1 ((hm y).2 (List.mem_cons_self ..)) with h2 | h2
          · exact h2.symm
          · have := hb'.1 x h1
            have := ha'.1 y h2
            omega
      subst hxy
      have hm' : ∀ p, p ∈ a ↔ p ∈ b := fun p => by
        constructor
        · intro hp
          rcases List.mem_cons.1 ((hm p).1 (List.mem_cons_of_mem _ hp)) with h1 | h1
          · subst h1; have := ha'.1 p hp; omega
          · exact h1
        · intro hp
          rcases List.mem_cons.1 ((hm p).2 (List.mem_cons_of_mem _ hp)) with h1 | h1
          · subst h1; have := hb'.1 p hp; omega
          · exact h1
      rw [ih ha'.2 hb'.2 (fun k => option_ext (fun t => by rw [getM_iff ha'.2, getM_iff hb'.2, hm'])) hm']
theorem insM_len (x : Int × Th) (l : Mth) : (insM x l).length = l.length + 1 := by
  induction l with
  | nil => rfl
  | cons y l ih =>
    unfold insM
    split
    · rfl
    · simp [ih]
theorem delM_len (k : Int) {l : Mth} (hu : Up l) : (delM k l).length + (if (getM k l).isSome then 1 else 0) = l.length := by
  induction l with
  | nil => rfl
  | cons x l ih =>
    have h' := List.pairwise_cons.1 hu
    have := ih h'.2
    rw [getM_cons]
    unfold delM at *
    by_cases hx : x.1 = k
    · rw [List.filter_cons_of_neg (by simp [hx]), if_pos hx]
      have hn : getM k l = none := getM_none.2 (fun p hp => by have := h'.1 p hp; omega)
      rw [hn] at this
      simp at this ⊢
      omega
    · rw [List.filter_cons_of_pos (by simp [hx]), if_neg hx, List.length_cons, List.length_cons]
      omega
theorem delM_none {k : Int} {l : Mth} (h : getM k l = none) : delM k l = l := by
  unfold delM
  rw [List.filter_eq_self]
  intro p hp
  simp [getM_none.1 h p hp]
theorem putM_len (k : Int) (t : Th) {l : Mth} (hu : Up l) : (putM k t l).length = l.length + (if (getM k l).isSome then 0 else 1) := by
  have := delM_len k hu
  rw [putM, insM_len]
  cases h : (getM k l).isSome <;> rw [h] at this <;> simp at this ⊢ <;> omega
end Go.Proofs.YtckkkdldljhehabGreat.Mp
namespace Go.Proofs.YtckkkdldljhehabGreat.Mp
open Go.Proofs.YtckkkdldljhehabGreat.Num
open Go.ChangeMaps Go.MapKept Go.RowKit
open Go.Maps (Keyed)

def thV (t : Th) : Value := .agg #[.int .i64 t.m, .int .i64 t.r.x, .int .i64 t.r.y, .int .i64 t.r.px, .int .i64 t.r.py, .int .i64 t.r.wd, .int .i64 t.r.ht, .int .i64 t.r.ms, .int .i64 t.r.rr]
def thD (t : Th) : DataW Unit := .agg [.lit (.int .i64 t.m), .lit (.int .i64 t.r.x), .lit (.int .i64 t.r.y), .lit (.int .i64 t.r.px), .lit (.int .i64 t.r.py), .lit (.int .i64 t.r.wd), .lit (.int .i64 t.r.ht), .lit (.int .i64 t.r.ms), .lit (.int .i64 t.r.rr)]
def zTh : Th := ⟨0, ⟨0, 0, 0, 0, 0, 0, 0, 0⟩⟩
def thElem : Value → Option (DataW Unit × List MemPlace)
  | .agg ⟨[.int .i64 m, .int .i64 a, .int .i64 b, .int .i64 c, .int .i64 d, .int .i64 e, .int .i64 f, .int .i64 g, .int .i64 h]⟩ => some (thD ⟨m, ⟨a, b, c, d, e, f, g, h⟩⟩, [])
  | _ => none
theorem thElem_mk (t : Th) : thElem (thV t) = some (thD t, []) := rfl
theorem thElem_inv {v : Value} {z : DataW Unit × List MemPlace} (h : thElem v = some z) : ∃ t, v = thV t ∧ z = (thD t, []) := by
  unfold thElem at h
  split at h
  · cases h; exact ⟨⟨_, ⟨_, _, _, _, _, _, _, _⟩⟩, rfl, rfl⟩
  · cases h
theorem thD_inj {s t : Th} (h : thD s = thD t) : s = t := by
  obtain ⟨m, r⟩ := s
  obtain ⟨n, q⟩ := t
  obtain ⟨⟩ := r
  obtain ⟨⟩ := q
  simp [thD] at h
  simp [h]
def toE (l : Mth) : List (Lit × DataW Unit) := l.map (fun p => (Lit.int .i64 p.1, thD p.2))
def toD (l : Mth) : DataW Unit := .map (toE l)
theorem same_int (a b : Int) : (Lit.int .i64 a).sameKey (.int .i64 b) = decide (a = b) := by simp [Lit.sameKey]
theorem toE_ins (x : Int × Th) (l : Mth) : toE (insM x l) = DataW.insert (Lit.int .i64 x.1, thD x.2) (toE l) := by
  induction l with
  | nil => rfl
  | cons y l ih =>
    unfold insM
    by_cases h : x.1 < y.1
    · simp [toE, DataW.insert, Lit.before, h]
    · rw [if_neg h]
      simp only [toE, List.map_cons, DataW.insert, Lit.before, decide_eq_true_eq, if_neg h] at ih ⊢
      rw [ih]
theorem toE_del (k : Int) (l : Mth) : toE (delM k l) = (toE l).filter (fun p => !p.1.sameKey (.int .i64 k)) := by
  unfold toE delM
  rw [List.filter_map]
  congr 1
  apply List.filter_congr
  intro p _
  simp [same_int]
theorem toD_put (k : Int) (t : Th) (l : Mth) : (toD l).put (.int .i64 k) (thD t) = toD (putM k t l) := by
  simp only [toD, DataW.put, putM, toE_ins, toE_del]
theorem toD_del (k : Int) (l : Mth) : (toD l).del (.int .i64 k) = toD (delM k l) := by
  simp only [toD, DataW.del, toE_del]
theorem toE_find (k : Int) (l : Mth) : (toE l).find? (fun p => p.1.sameKey (.int .i64 k)) = (getM k l).map (fun t => (Lit.int .i64 k, thD t)) := by
  induction l with
  | nil => rfl
  | cons x l ih =>
    rw [getM_cons]
    simp only [toE, List.map_cons, List.find?_cons, same_int] at ih ⊢
    by_cases h : x.1 = k
    · simp [h]
    · simp only [h, decide_false, if_false]
      exact ih
theorem toD_at (k : Int) (l : Mth) (z : DataW Unit) : (toD l).atKey (.int .i64 k) z = ((getM k l).map thD).getD z := by
  simp only [toD, DataW.atKey, toE_find]
  cases getM k l <;> rfl
theorem toD_has (k : Int) (l : Mth) : Maps.has (toD l) (.int .i64 k) = (getM k l).isSome := by
  rw [toD, Maps.has_eq]
  induction l with
  | nil => rfl
  | cons x l ih =>
    rw [getM_cons]
    simp only [toE, List.map_cons, List.any_cons, same_int] at ih ⊢
    rw [ih]
    by_cases h : x.1 = k <;> simp [h]
theorem toD_size (l : Mth) : Maps.size (toD l) = l.length := by simp [toD, Maps.size_eq, toE]
theorem toD_inj_len {a b : Mth} (h : toD a = toD b) : a.length = b.length := by rw [← toD_size, ← toD_size, h]

theorem ownsMap_tight {w : World} {P : Program} {k : TypeId} {R : Value → Option (DataW Unit × List MemPlace)} {b n : Nat} {D : DataW Unit} (h : w.ownsMap P k R b n D) : w.ownsMap P k R b (Maps.size D) D := by
  obtain ⟨es, clock, hb, F, hs, hD⟩ := h
  refine ⟨es, clock, hb, F, ?_, hD⟩
  rw [hD]
  simp [Maps.size, length_sorted]

/-- Block b is a map of things that reads as that list. -/
def Mp (w : World) (b : Nat) (l : Mth) : Prop := Up l ∧ (∀ p ∈ l, (Lit.int .i64 p.1).wf = true) ∧ w.ownsMap Tryz.prog 3 thElem b l.length (toD l)
theorem keyed3 : Keyed Tryz.prog 3 := Maps.int_keyed Tryz.underlying3
theorem zeroTh (w : World) : (zeroValue 93).run Tryz.prog w = .ok (thV zTh) w := by kernel_rfl
theorem undTh : Tryz.prog.underlying 29 = some (.map 3 93) := Tryz.underlying29

theorem Mp.up {w : World} {b : Nat} {l : Mth} (h : Mp w b l) : Up l := h.1
theorem Mp.wf {w : World} {b : Nat} {l : Mth} (h : Mp w b l) {k : Int} {t : Th} (hk : getM k l = some t) : (Lit.int .i64 k).wf = true := h.2.1 _ (getM_mem hk)
theorem Mp.lt {w : World} {b : Nat} {l : Mth} (h : Mp w b l) : b < w.heap.size := h.2.2.lt
theorem Mp.made (w : World) : Mp (w.alloc (.map #[] 0)) w.heap.size [] := ⟨up_nil, by simp, World.ownsMap_made _ _ _ _⟩
theorem Mp.kept {w w' : World} {b : Nat} {l : Mth} {row : Option Nat} (h : Mp w b l) (hg : w.grownBy w' row) (hne : some b ≠ row) : Mp w' b l := ⟨h.1, h.2.1, h.2.2.kept hg hne⟩
theorem Mp.block {w w' : World} {b : Nat} {l : Mth} (h : Mp w b l) (hb : w'.heap[b]? = w.heap[b]?) : Mp w' b l := by
  obtain ⟨h1, h2, es, clock, h3, h4⟩ := h
  exact ⟨h1, h2, es, clock, hb.trans h3, h4⟩
theorem Mp.below {w w' : World} {b : Nat} {l : Mth} (h : Mp w b l) (hb : Below w.heap.size w w') : Mp w' b l := h.block (hb.block b h.lt)

theorem Mp.look_ok {w : World} {b : Nat} {l : Mth} (h : Mp w b l) {k : Int} (hk : (Lit.int .i64 k).wf = true) :
    (Instr.lookup 29 (.map (some b)) (.int .i64 k) true).run Tryz.prog w = .ok (.tuple #[thV ((getM k l).getD zTh), .bool (getM k l).isSome]) w := by
  obtain ⟨v, ps, hrun, hv⟩ := h.2.2.look_ok keyed3 undTh (zeroTh w) (thElem_mk zTh) (Maps.keyOf_int_mk Tryz.underlying3 hk)
  rw [hrun, toD_has]
  obtain ⟨t, rfl, hz⟩ := thElem_inv hv
  rw [toD_at] at hz
  have e : (((getM k l).map thD).getD (thD zTh)) = thD t := congrArg Prod.fst hz
  have e2 : t = (getM k l).getD zTh := by
    cases hg : getM k l with
    | none => rw [hg] at e; exact (thD_inj e).symm
    | some s => rw [hg] at e; exact (thD_inj e).symm
  rw [e2]
theorem Mp.look {w : World} {b : Nat} {l : Mth} (h : Mp w b l) {k : Int} (hk : (Lit.int .i64 k).wf = true) :
    (Instr.lookup 29 (.map (some b)) (.int .i64 k) false).run Tryz.prog w = .ok (thV ((getM k l).getD zTh)) w := by
  obtain ⟨v, ps, hrun, hv⟩ := h.2.2.lookup keyed3 undTh (zeroTh w) (thElem_mk zTh) (Maps.keyOf_int_mk Tryz.underlying3 hk)
  rw [hrun]
  obtain ⟨t, rfl, hz⟩ := thElem_inv hv
  rw [toD_at] at hz
  have e : (((getM k l).map thD).getD (thD zTh)) = thD t := congrArg Prod.fst hz
  have e2 : t = (getM k l).getD zTh := by
    cases hg : getM k l with
    | none => rw [hg] at e; exact (thD_inj e).symm
    | some s => rw [hg] at e; exact (thD_inj e).symm
  rw [e2]
theorem Mp.len {w : World} {b : Nat} {l : Mth} (h : Mp w b l) (ty : TypeId) : (Builtin.len_ #[29] ty #[.map (some b)]).run Tryz.prog w = .ok (.int .i64 l.length) w := by
  rw [h.2.2.len undTh ty, toD_size]
theorem Mp.store {w : World} {b : Nat} {l : Mth} (h : Mp w b l) {k : Int} (hk : (Lit.int .i64 k).wf = true) (t : Th) (hn : l.length < maxLen) :
    ∃ w', (Instr.mapUpdate 29 (.map (some b)) (.int .i64 k) (thV t)).run Tryz.prog w = .ok () w' ∧ Mp w' b (putM k t l) ∧ w.mapTurned w' b := by
  obtain ⟨w', hrun, ho, ht⟩ := h.2.2.store keyed3 undTh hn (Maps.keyOf_int_mk Tryz.underlying3 hk) (thElem_mk t)
  refine ⟨w', hrun, ⟨h.1.put k t, fun p hp => ?_, ?_⟩, ht⟩
  · rcases mem_putM.1 hp with rfl | hp
    · exact hk
    · exact h.2.1 p hp.1
  · rw [toD_put] at ho
    have := ownsMap_tight ho
    rw [toD_size] at this
    exact this
theorem Mp.drop {w : World} {b : Nat} {l : Mth} (h : Mp w b l) {k : Int} (hk : (Lit.int .i64 k).wf = true) (ty : TypeId) :
    ∃ w', (Builtin.delete_ #[29, 3] ty #[.map (some b), .int .i64 k]).run Tryz.prog w = .ok (.tuple #[]) w' ∧ Mp w' b (delM k l) ∧ w.mapTurned w' b := by
  obtain ⟨w', hrun, ho, ht⟩ := h.2.2.drop keyed3 undTh (Maps.keyOf_int_mk Tryz.underlying3 hk) ty
  refine ⟨w', hrun, ⟨h.1.del k, fun p hp => h.2.1 p (mem_delM.1 hp).1, ?_⟩, ht⟩
  rw [toD_del] at ho
  have := ownsMap_tight ho
  rw [toD_size] at this
  exact this

/-! ### ranged over -/
/-- A range over the map in block b under way at block r: these are still to come. -/
def Rng (w : World) (b r : Nat) (l todo : Mth) (cnt : Nat) : Prop :=
  Mp w b l ∧ Up todo ∧ (∀ p ∈ todo, p ∈ l) ∧ ∃ left, w.ranges Tryz.prog 3 thElem b r l.length (toD l) left cnt ∧ (∀ p ∈ l, left (.int .i64 p.1) = (getM p.1 todo).isSome)
theorem Rng.mp {w : World} {b r : Nat} {l todo : Mth} {cnt : Nat} (h : Rng w b r l todo cnt) : Mp w b l := h.1
theorem Rng.left_eq {w : World} {b r : Nat} {l todo : Mth} {cnt : Nat} (h : Rng w b r l todo cnt) : w.rangeLeft b r = cnt := by
  obtain ⟨_, _, _, left, h4, _⟩ := h
  exact h4.left_eq
theorem Rng.lt {w : World} {b r : Nat} {l todo : Mth} {cnt : Nat} (h : Rng w b r l todo cnt) : r < w.heap.size := by
  obtain ⟨_, _, _, left, h4, _⟩ := h
  exact h4.lt
theorem Rng.ne {w : World} {b r : Nat} {l todo : Mth} {cnt : Nat} (h : Rng w b r l todo cnt) : r ≠ b := by
  obtain ⟨_, _, _, left, h4, _⟩ := h
  exact h4.ne
theorem Rng.sub {w : World} {b r : Nat} {l todo : Mth} {cnt : Nat} (h : Rng w b r l todo cnt) : Up todo ∧ ∀ p ∈ todo, p ∈ l := ⟨h.2.1, h.2.2.1⟩
theorem Rng.kept {w w' : World} {b r : Nat} {l todo : Mth} {cnt : Nat} {row : Option Nat} (h : Rng w b r l todo cnt) (hg : w.grownBy w' row) (hb : some b ≠ row) (hr : some r ≠ row) : Rng w' b r l todo cnt := by
  obtain ⟨h1, h2, h3, left, h4, h5⟩ := h
  exact ⟨h1.kept hg hb, h2, h3, left, h4.kept hg hb hr, h5⟩
theorem Rng.blocks {w w' : World} {b r : Nat} {l todo : Mth} {cnt : Nat} (h : Rng w b r l todo cnt) (hb : w'.heap[b]? = w.heap[b]?) (hr : w'.heap[r]? = w.heap[r]?) : Rng w' b r l todo cnt := by
  obtain ⟨h1, h2, h3, left, ⟨es, clock, since, seen, c0, e1, e2, e3, e4, e5, e6⟩, h5⟩ := h
  exact ⟨h1.block hb, h2, h3, left, ⟨es, clock, since, seen, c0, hb.trans e1, e2, e3, e4, hr.trans e5, e6⟩, h5⟩
theorem Rng.below {w w' : World} {b r : Nat} {l todo : Mth} {cnt : Nat} (h : Rng w b r l todo cnt) (hb : Below w.heap.size w w') : Rng w' b r l todo cnt := h.blocks (hb.block b h.1.lt) (hb.block r h.lt)
theorem Mp.range {w : World} {b : Nat} {l : Mth} (h : Mp w b l) :
    ∃ w', (Instr.range 29 (.map (some b))).run Tryz.prog w = .ok (.pointer (some ⟨w.heap.size, 0, none⟩)) w' ∧ Rng w' b w.heap.size l l l.length ∧ w.grownBy w' none ∧ w'.heap.size = w.heap.size + 1 := by
  obtain ⟨w', hrun, hr, hg, hs⟩ := h.2.2.range keyed3 undTh
  rw [toD_size] at hr
  refine ⟨w', hrun, ⟨h.kept hg (by simp), h.1, fun p hp => hp, _, hr, fun p hp => toD_has _ _⟩, hg, hs⟩
theorem Rng.next {w : World} {b r : Nat} {l todo : Mth} {cnt : Nat} (h : Rng w b r l todo cnt) (ty : TypeId) :
    (todo = [] ∧ (Instr.next (.pointer (some ⟨r, 0, none⟩)) false ty).run Tryz.prog w = .ok (.tuple #[.bool false]) w) ∨
    ∃ k t w' cnt', getM k todo = some t ∧ (Instr.next (.pointer (some ⟨r, 0, none⟩)) false ty).run Tryz.prog w = .ok (.tuple #[.bool true, .int .i64 k, thV t]) w' ∧ Rng w' b r l (delM k todo) cnt' ∧ cnt' < cnt ∧ w.grownBy w' (some r) ∧ w'.heap.size = w.heap.size ∧
      (Instr.entry (.pointer (some ⟨r, 0, none⟩))).run Tryz.prog w' = .ok (.tuple #[.int .i64 k, thV t]) w' := by
  have hne := h.ne
  obtain ⟨h1, h2, h3, left, h4, h5⟩ := h
  rcases h4.next keyed3 ty with ⟨-, hl, hrun⟩ | ⟨key, v, kl, y, w', cnt', hkey, hlk, hv, hat, hrun, hrg, hlt, hgr, hsz, hen⟩
  · refine Or.inl ⟨?_, hrun⟩
    cases todo with
    | nil => rfl
    | cons p todo =>
      have e1 := h5 p (h3 p (List.mem_cons_self ..))
      rw [hl, getM_cons, if_pos rfl] at e1
      cases e1
  · obtain ⟨k, rfl, rfl, hw⟩ := Maps.keyOf_int_inv Tryz.underlying3 hkey
    obtain ⟨t, rfl, rfl⟩ := thElem_inv hv
    have hg : getM k l = some t := by
      have e1 := hat .nil
      rw [toD_at] at e1
      cases hq : getM k l with
      | none => rw [hq] at e1; cases e1
      | some s => rw [hq] at e1; rw [thD_inj e1]
    have hm := getM_mem hg
    have e2 := h5 _ hm
    rw [hlk] at e2
    obtain ⟨t', ht'⟩ := Option.isSome_iff_exists.1 e2.symm
    have : t' = t := by
      have := getM_of_mem h1.1 (h3 _ (getM_mem ht'))
      rw [hg] at this
      exact (Option.some.inj this).symm
    subst this
    refine Or.inr ⟨k, t', w', cnt', ht', hrun, ⟨h1.kept hgr (fun e => hne (Option.some.inj e).symm), h2.del k, fun p hp => h3 p (mem_delM.1 hp).1, _, hrg, fun p hp => ?_⟩, hlt, hgr, hsz, hen⟩
    show (left (.int .i64 p.1) && !(Lit.int .i64 p.1).sameKey (.int .i64 k)) = _
    rw [h5 p hp, same_int, getM_del h2]
    by_cases e : p.1 = k <;> simp [e]

/-! ### at the operation, for the walk -/
section
variable (w : World) {ops : Array Oper} {rest : List Oper} {o : Oper} {a : Act} {Q : Exit → Act → World → Prop}
theorem wp_range (hg : o.guard = none) (m : Operand) (hop : o.op = Op.range 29 m) (b : Nat) (l : Mth) (hm : a.eval m = .map (some b)) (h : Mp w b l)
    (hK : ∀ w', Rng w' b w.heap.size l l l.length → w.grownBy w' none → w'.heap.size = w.heap.size + 1 → wpList Tryz.prog ops Q rest (a.put o.dst (.pointer (some ⟨w.heap.size, 0, none⟩))) w') :
    wpList Tryz.prog ops Q (o :: rest) a w := by
  refine wpList_plain hg fun K' hK' => ?_
  obtain ⟨w', hrun, r1, r2, r3⟩ := h.range
  unfold Oper.wp
  simp [execOp, hop, hm, hrun, Result.andThen]
  exact hK' _ _ (hK w' r1 r2 r3)
theorem wp_next (hg : o.guard = none) (it : Operand) (hop : o.op = Op.next it false) (b r : Nat) (l todo : Mth) (cnt : Nat) (hit : a.eval it = .pointer (some ⟨r, 0, none⟩)) (h : Rng w b r l todo cnt)
    (hDone : todo = [] → wpList Tryz.prog ops Q rest (a.put o.dst (.tuple #[.bool false])) w)
    (hMore : ∀ (k : Int) (t : Th) (w' : World) (cnt' : Nat), getM k todo = some t → Rng w' b r l (delM k todo) cnt' → cnt' < cnt → w.grownBy w' (some r) → w'.heap.size = w.heap.size →
      (Instr.entry (.pointer (some ⟨r, 0, none⟩))).run Tryz.prog w' = .ok (.tuple #[.int .i64 k, .agg #[.int .i64 t.m, .int .i64 t.r.x, .int .i64 t.r.y, .int .i64 t.r.px, .int .i64 t.r.py, .int .i64 t.r.wd, .int .i64 t.r.ht, .int .i64 t.r.ms, .int .i64 t.r.rr]]) w' → wpList Tryz.prog ops Q rest (a.put o.dst (.tuple #[.bool true, .int .i64 k, .agg #[.int .i64 t.m, .int .i64 t.r.x, .int .i64 t.r.y, .int .i64 t.r.px, .int .i64 t.r.py, .int .i64 t.r.wd, .int .i64 t.r.ht, .int .i64 t.r.ms, .int .i64 t.r.rr]])) w') :
    wpList Tryz.prog ops Q (o :: rest) a w := by
  refine wpList_plain hg fun K' hK' => ?_
  unfold Oper.wp
  rcases h.next o.type with ⟨h0, hrun⟩ | ⟨k, t, w', cnt', hk, hrun, hr, hlt, hgr, hsz, hen⟩
  · simp [execOp, hop, hit, hrun, Result.andThen]
    exact hK' _ _ (hDone h0)
  · simp [execOp, hop, hit, hrun, Result.andThen]
    exact hK' _ _ (hMore k t w' cnt' hk hr hlt hgr hsz hen)
theorem wp_look_ok (hg : o.guard = none) (m x : Operand) (hop : o.op = Op.lookup 29 m x true) (b : Nat) (l : Mth) (hm : a.eval m = .map (some b)) (h : Mp w b l) (k : Int) (hx : a.eval x = .int .i64 k) (hk : (Lit.int .i64 k).wf = true)
    (hK : ∀ t : Th, t = (getM k l).getD zTh → wpList Tryz.prog ops Q rest (a.put o.dst (.tuple #[.agg #[.int .i64 t.m, .int .i64 t.r.x, .int .i64 t.r.y, .int .i64 t.r.px, .int .i64 t.r.py, .int .i64 t.r.wd, .int .i64 t.r.ht, .int .i64 t.r.ms, .int .i64 t.r.rr], .bool (getM k l).isSome])) w) :
    wpList Tryz.prog ops Q (o :: rest) a w := by
  refine wpList_plain hg fun K' hK' => ?_
  unfold Oper.wp
  simp [execOp, hop, hm, hx, h.look_ok hk, Result.andThen]
  exact hK' _ _ (hK _ rfl)
theorem wp_look (hg : o.guard = none) (m x : Operand) (hop : o.op = Op.lookup 29 m x false) (b : Nat) (l : Mth) (hm : a.eval m = .map (some b)) (h : Mp w b l) (k : Int) (hx : a.eval x = .int .i64 k) (hk : (Lit.int .i64 k).wf = true)
    (hK : ∀ t : Th, t = (getM k l).getD zTh → wpList Tryz.prog ops Q rest (a.put o.dst (.agg #[.int .i64 t.m, .int .i64 t.r.x, .int .i64 t.r.y, .int .i64 t.r.px, .int .i64 t.r.py, .int .i64 t.r.wd, .int .i64 t.r.ht, .int .i64 t.r.ms, .int .i64 t.r.rr])) w) :
    wpList Tryz.prog ops Q (o :: rest) a w := by
  refine wpList_plain hg fun K' hK' => ?_
  unfold Oper.wp
  simp [execOp, hop, hm, hx, h.look hk, Result.andThen]
  exact hK' _ _ (hK _ rfl)
theorem wp_len (hg : o.guard = none) (m : Operand) (hop : o.op = Op.call { callee := Callee.builtin Builtin.len, args := #[m], argTypes := #[29] }) (b : Nat) (l : Mth) (hm : a.eval m = .map (some b)) (h : Mp w b l)
    (hK : wpList Tryz.prog ops Q rest (a.put o.dst (.int .i64 l.length)) w) : wpList Tryz.prog ops Q (o :: rest) a w := by
  refine wpList_plain hg fun K' hK' => ?_
  unfold Oper.wp
  simp [execOp, hop, resolve, invoke, builtin, hm, h.len, Result.andThen]
  exact hK' _ _ hK
theorem wp_store (hg : o.guard = none) (m x v : Operand) (hop : o.op = Op.mapUpdate 29 m x v) (b : Nat) (l : Mth) (hm : a.eval m = .map (some b)) (h : Mp w b l) (hn : l.length < maxLen) (k : Int) (hx : a.eval x = .int .i64 k) (hk : (Lit.int .i64 k).wf = true)
    (t : Th) (hv : a.eval v = .agg #[.int .i64 t.m, .int .i64 t.r.x, .int .i64 t.r.y, .int .i64 t.r.px, .int .i64 t.r.py, .int .i64 t.r.wd, .int .i64 t.r.ht, .int .i64 t.r.ms, .int .i64 t.r.rr]) (hK : ∀ w', Mp w' b (putM k t l) → w.mapTurned w' b → wpList Tryz.prog ops Q rest (a.put o.dst undef) w') : wpList Tryz.prog ops Q (o :: rest) a w := by
  refine wpList_plain hg fun K' hK' => ?_
  obtain ⟨w', hrun, r1, r2⟩ := h.store hk t hn
  have hv' : a.eval v = thV t := hv
  unfold Oper.wp
  simp [execOp, hop, hm, hx, hv', hrun, Result.andThen]
  exact hK' _ _ (hK w' r1 r2)
theorem wp_drop (hg : o.guard = none) (m x : Operand) (hop : o.op = Op.call { callee := Callee.builtin Builtin.delete, args := #[m, x], argTypes := #[29, 3] }) (b : Nat) (l : Mth) (hm : a.eval m = .map (some b)) (h : Mp w b l) (k : Int) (hx : a.eval x = .int .i64 k) (hk : (Lit.int .i64 k).wf = true)
    (hK : ∀ w', Mp w' b (delM k l) → w.mapTurned w' b → wpList Tryz.prog ops Q rest (a.put o.dst (.tuple #[])) w') : wpList Tryz.prog ops Q (o :: rest) a w := by
  refine wpList_plain hg fun K' hK' => ?_
  obtain ⟨w', hrun, r1, r2⟩ := h.drop hk o.type
  unfold Oper.wp
  simp [execOp, hop, resolve, invoke, builtin, hm, hx, hrun, Result.andThen]
  exact hK' _ _ (hK w' r1 r2)
end
/-- What was there is as it was, while the map in a block of one's own turns. -/
theorem Mp.below_turn {w0 w w' : World} {b : Nat} (hb : Below w0.heap.size w0 w) (h : w.mapTurned w' b) (hle : w0.heap.size ≤ b) : Below w0.heap.size w0 w' := hb.grown h.grown hb.size (fun q hq => by cases hq; exact hle)
theorem turned_size {w w' : World} {b : Nat} (h : w.mapTurned w' b) : w'.heap.size = w.heap.size := by
  obtain ⟨es, clock, es', clock', hb, rfl⟩ := h
  simp [setBlock]
theorem turned_block {w w' : World} {b : Nat} (h : w.mapTurned w' b) {i : Nat} (hi : i ≠ b) : w'.heap[i]? = w.heap[i]? := by
  obtain ⟨es, clock, es', clock', hb, rfl⟩ := h
  exact heap_setBlock_other hb _ hi
end Go.Proofs.YtckkkdldljhehabGreat.Mp
namespace Go.Proofs.YtckkkdldljhehabGreat.Th
open Go.Proofs.YtckkkdldljhehabGreat.Num Go.Proofs.YtckkkdldljhehabGreat.St
open Go.ChangeShapes Go.WideShapes Go.ChangeAt Go.RowKit

theorem hidT {p : Prop} (h : p) : Hid p := h
theorem within_any (n a b : Int) (w : World) :
    Calls Tryz.prog 39 #[.int .i64 n, .int .i64 a, .int .i64 b] w fun e w' => e = .returned (.bool (btw n a b)) ∧ w' = w := by
  go_enter Tryz.func39, Tryz.ntmps39
  go_wp2
  · go_ret
    exact ⟨ret_bool (by simp [btw]; omega), rfl⟩
  · go_ret
    exact ⟨ret_bool (by simp [btw]; omega), rfl⟩

/-- 'has': by halves. -/
def hasR (m p : Int) : Bool := (m.tdiv p).tmod 2 == 1
def masks : List Int := [0, 1, 2, 3, 4, 5, 6, 7, 8, 9, 10, 11, 12, 13, 14, 15, 16, 17, 18, 19, 20, 21, 22, 23, 24, 25, 26, 27, 28, 29, 30, 31]
theorem mem_masks {m : Int} (h : 0 ≤ m ∧ m ≤ 31) : m ∈ masks := by
  simp only [masks, List.mem_cons, List.not_mem_nil, or_false]
  omega
theorem hasR_all : ∀ m ∈ masks, (hasR m 1 = hasB m 1 ∧ hasR m 2 = hasB m 2 ∧ hasR m 4 = hasB m 4 ∧ hasR m 8 = hasB m 8 ∧ hasR m 16 = hasB m 16) := by decide +kernel
theorem hasR_eq {m : Int} (h : 0 ≤ m ∧ m ≤ 31) : hasR m 1 = hasB m 1 ∧ hasR m 2 = hasB m 2 ∧ hasR m 4 = hasB m 4 ∧ hasR m 8 = hasB m 8 ∧ hasR m 16 = hasB m 16 := hasR_all m (mem_masks h)
theorem has_any (m p : Int) (hm : -9223372036854775808 ≤ m ∧ m ≤ 9223372036854775807) (hp : 1 ≤ p ∧ p ≤ 16) (w : World) :
    Calls Tryz.prog 51 #[.int .i64 m, .int .i64 p] w fun e w' => e = .returned (.bool (hasR m p)) ∧ w' = w := by
  have h0 : (p == 0) = false := by simp; omega
  have h1 : p ≠ 0 := by omega
  have hq : -9223372036854775808 ≤ m.tdiv p ∧ m.tdiv p ≤ 9223372036854775807 := by
    have h2 := Int.natAbs_tdiv_le_natAbs m p
    have h3 : m = -9223372036854775808 ∨ m.natAbs ≤ 9223372036854775807 := by omega
    rcases h3 with rfl | h3
    · have : ((-9223372036854775808 : Int).tdiv p) ≤ 0 := by
        have := Int.tdiv_nonneg (a := 9223372036854775808) (b := p) (by omega) (by omega)
        rw [show (-9223372036854775808 : Int) = -(9223372036854775808) by rfl, Int.neg_tdiv]
        omega
      omega
    · omega
  go_enter Tryz.func51, Tryz.ntmps51
  go_wp2
  go_ret
  refine ⟨ret_bool ?_, rfl⟩
  unfold hasR
  congr 1

/-- What the mask has of a row, by halves. -/
def onlyH (m : Int) (f : R8) : R8 :=
  ⟨if hasR m 1 then f.x else 0, if hasR m 1 then f.y else 0, if hasR m 2 then f.px else 0, if hasR m 2 then f.py else 0,
   if hasR m 4 then f.wd else 0, if hasR m 4 then f.ht else 0, if hasR m 8 then f.ms else 0, if hasR m 8 then f.rr else 0⟩
theorem onlyH_eq {m : Int} (h : 0 ≤ m ∧ m ≤ 31) (f : R8) : onlyH m f = onlyR m f := by
  obtain ⟨h1, h2, h4, h8, _⟩ := hasR_eq h
  simp only [onlyH, onlyR, layR, zeroR, h1, h2, h4, h8]

set_option maxHeartbeats 4000000 in
theorem onlyOf_any (m : Int) (hm : -9223372036854775808 ≤ m ∧ m ≤ 9223372036854775807) (x y px py wd ht ms rr : Int) (w : World) :
    Calls Tryz.prog 112 #[.int .i64 m, .agg #[.int .i64 x, .int .i64 y, .int .i64 px, .int .i64 py, .int .i64 wd, .int .i64 ht, .int .i64 ms, .int .i64 rr]] w
      fun e w' => e = .returned (rowV (onlyH m ⟨x, y, px, py, wd, ht, ms, rr⟩)) ∧ Below w.heap.size w w' := by
  have HM := hidT hm
  clear hm
  unfold onlyH rowV
  cases h1 : hasR m 1 <;> cases h2 : hasR m 2 <;> cases h4 : hasR m 4 <;> cases h8 : hasR m 8
  all_goals
    simp only [if_true, if_false, Bool.false_eq_true]
    go_enter Tryz.func112, Tryz.ntmps112
    go_wp2_with (go_at_call 51; refine (has_any _ _ HM.out (by decide) _).mono ?_; rintro e w' ⟨rfl, rfl⟩)
    refine bodyPost_ret (by simp [results, Tryz.results112, go_sem]) rfl ⟨rfl, ?_⟩
    repeat (first | exact Below.refl _ _ | refine bal ?_ _ | refine Below.setCell ?_ (by simp) _)
end Go.Proofs.YtckkkdldljhehabGreat.Th
namespace Go.Proofs.YtckkkdldljhehabGreat.Th
open Go.Proofs.YtckkkdldljhehabGreat.Num Go.Proofs.YtckkkdldljhehabGreat.St
open Go.ChangeShapes Go.WideShapes Go.ChangeAt Go.RowKit

def p1B (m : Int) (r : R8) : Bool := !hasR m 1 || (btw r.x (-1048576) 1048576 && btw r.y (-1048576) 1048576)
def p2B (m : Int) (r : R8) : Bool := !hasR m 2 || (btw r.px (-16777216) 16777216 && btw r.py (-16777216) 16777216)
def p4B (m : Int) (r : R8) : Bool := !hasR m 4 || (btw r.wd 1 4096 && btw r.ht 1 4096)
def p8B (m : Int) (r : R8) : Bool := !hasR m 8 || (btw r.ms 1 9 && btw r.rr 0 256)
def isRowH (m : Int) (r : R8) : Bool := btw m 1 31 && (((p1B m r && p2B m r) && p4B m r) && p8B m r && eqR r (onlyH m r))
theorem eqR_iff (a b : R8) : eqR a b = true ↔ a = b := by
  obtain ⟨⟩ := a
  obtain ⟨⟩ := b
  simp [eqR, and_assoc]
theorem isRow_good (m : Int) (r : R8) : isRowH m r = goodRowB m r := by
  unfold isRowH goodRowB
  cases hb : btw m 1 31
  · rfl
  · have hm : 0 ≤ m ∧ m ≤ 31 := by simp [btw] at hb; omega
    rw [onlyH_eq hm]
    obtain ⟨h1, h2, h4, h8, _⟩ := hasR_eq hm
    unfold p1B p2B p4B p8B goodPartsB
    rw [h1, h2, h4, h8]
    simp only [Bool.true_and]
    cases he : eqR r (onlyR m r)
    · simp
    · have e := (eqR_iff _ _).1 he
      have ex : r.x = if hasB m 1 then r.x else 0 := congrArg R8.x e
      have ey : r.y = if hasB m 1 then r.y else 0 := congrArg R8.y e
      have epx : r.px = if hasB m 2 then r.px else 0 := congrArg R8.px e
      have epy : r.py = if hasB m 2 then r.py else 0 := congrArg R8.py e
      have err : r.rr = if hasB m 8 then r.rr else 0 := congrArg R8.rr e
      clear e he hb hm
      cases g1 : hasB m 1 <;> cases g2 : hasB m 2 <;> cases g4 : hasB m 4 <;> cases g8 : hasB m 8 <;> rw [g1] at ex ey <;> rw [g2] at epx epy <;> rw [g8] at err <;> simp only [Bool.false_eq_true, if_false, if_true] at ex ey epx epy err <;>
        (rw [Bool.eq_iff_iff]; simp [btw]; try omega)

set_option maxHeartbeats 4000000 in
set_option maxRecDepth 10000 in
theorem isRow_any (m : Int) (r : R8) (w : World) :
    Calls Tryz.prog 77 #[.int .i64 m, .agg #[.int .i64 r.x, .int .i64 r.y, .int .i64 r.px, .int .i64 r.py, .int .i64 r.wd, .int .i64 r.ht, .int .i64 r.ms, .int .i64 r.rr]] w
      fun e w' => e = .returned (.bool (isRowH m r)) ∧ Below w.heap.size w w' := by
  cases hb : btw m 1 31
  · go_enter Tryz.func77, Tryz.ntmps77
    go_wp2_with (go_at_call 39; refine (within_any _ _ _ _).mono ?_; rintro e w' ⟨rfl, rfl⟩)
    go_ret
    exact ⟨ret_bool (by simp [isRowH, hb]), bal (Below.refl _ _) _⟩
  · have HM : Hid (-9223372036854775808 ≤ m ∧ m ≤ 9223372036854775807) := hidT (by simp [btw] at hb; omega)
    have HBI : Hid (isRowH m r = (((p1B m r && p2B m r) && p4B m r) && p8B m r && eqR r (onlyH m r))) := hidT (by simp [isRowH, hb])
    have e30 := eq30
    have hO0 := onlyOf_any m HM.out r.x r.y r.px r.py r.wd r.ht r.ms r.rr
    have hOr : (⟨r.x, r.y, r.px, r.py, r.wd, r.ht, r.ms, r.rr⟩ : R8) = r := rfl
    rw [hOr] at hO0
    clear hOr
    generalize onlyH m r = ro at hO0 HBI
    obtain ⟨x', y', px', py', wd', ht', ms', rr'⟩ := ro
    have hO : Hid _ := hO0
    clear hO0
    unfold rowV at hO
    go_enter Tryz.func77, Tryz.ntmps77
    go_upto_if 10 with (first | (go_at_call 39; refine (within_any _ _ _ _).mono ?_; rintro e w' ⟨rfl, rfl⟩) | (go_at_call 51; refine (has_any _ _ HM.out (by decide) _).mono ?_; rintro e w' ⟨rfl, rfl⟩))
    go_cut [5] (fun s wx => s = .bool (p1B m r) ∧ wx = w.alloc (.cells #[.int .i64 r.x, .int .i64 r.y, .int .i64 r.px, .int .i64 r.py, .int .i64 r.wd, .int .i64 r.ht, .int .i64 r.ms, .int .i64 r.rr] 56))
    case first =>
      cases h : hasR m 1
      · go_wp2_with fail
        go_meet
        exact ⟨by simp [p1B, h], rfl⟩
      · go_wp2_with (go_at_call 39; refine (within_any _ _ _ _).mono ?_; rintro e w' ⟨rfl, rfl⟩)
        all_goals
          go_meet
          exact ⟨by simp_all [p1B], rfl⟩
    case rest =>
    obtain ⟨rfl, rfl⟩ := hcut
    go_upto_if 23 with (first | (go_at_call 51; refine (has_any _ _ HM.out (by decide) _).mono ?_; rintro e w' ⟨rfl, rfl⟩))
    go_cut [5] (fun s wx => s = .bool (p1B m r && p2B m r) ∧ wx = w.alloc (.cells #[.int .i64 r.x, .int .i64 r.y, .int .i64 r.px, .int .i64 r.py, .int .i64 r.wd, .int .i64 r.ht, .int .i64 r.ms, .int .i64 r.rr] 56))
    case first =>
      cases h : hasR m 2
      · go_wp2_with fail
        go_meet
        exact ⟨by simp [p2B, h], rfl⟩
      · go_wp2_with (go_at_call 39; refine (within_any _ _ _ _).mono ?_; rintro e w' ⟨rfl, rfl⟩)
        all_goals
          go_meet
          exact ⟨by simp_all [p2B], rfl⟩
    case rest =>
    obtain ⟨rfl, rfl⟩ := hcut
    go_upto_if 36 with (first | (go_at_call 51; refine (has_any _ _ HM.out (by decide) _).mono ?_; rintro e w' ⟨rfl, rfl⟩))
    go_cut [5] (fun s wx => s = .bool ((p1B m r && p2B m r) && p4B m r) ∧ wx = w.alloc (.cells #[.int .i64 r.x, .int .i64 r.y, .int .i64 r.px, .int .i64 r.py, .int .i64 r.wd, .int .i64 r.ht, .int .i64 r.ms, .int .i64 r.rr] 56))
    case first =>
      cases h : hasR m 4
      · go_wp2_with fail
        go_meet
        exact ⟨by simp [p4B, h], rfl⟩
      · go_wp2_with (go_at_call 39; refine (within_any _ _ _ _).mono ?_; rintro e w' ⟨rfl, rfl⟩)
        all_goals
          go_meet
          exact ⟨by simp_all [p4B], rfl⟩
    case rest =>
    obtain ⟨rfl, rfl⟩ := hcut
    go_upto_if 49 with (first | (go_at_call 51; refine (has_any _ _ HM.out (by decide) _).mono ?_; rintro e w' ⟨rfl, rfl⟩))
    go_cut [5] (fun s wx => s = .bool (((p1B m r && p2B m r) && p4B m r) && p8B m r) ∧ wx = w.alloc (.cells #[.int .i64 r.x, .int .i64 r.y, .int .i64 r.px, .int .i64 r.py, .int .i64 r.wd, .int .i64 r.ht, .int .i64 r.ms, .int .i64 r.rr] 56))
    case first =>
      cases h : hasR m 8
      · go_wp2_with fail
        go_meet
        exact ⟨by simp [p8B, h], rfl⟩
      · go_wp2_with (go_at_call 39; refine (within_any _ _ _ _).mono ?_; rintro e w' ⟨rfl, rfl⟩)
        all_goals
          go_meet
          exact ⟨by simp_all [p8B], rfl⟩
    case rest =>
    obtain ⟨rfl, rfl⟩ := hcut
    generalize (((p1B m r && p2B m r) && p4B m r) && p8B m r) = q at HBI ⊢
    cases q
    · go_wp2_with fail
      go_quiet (fail)
      go_wp2_with fail
      go_ret
      exact ⟨ret_bool (by rw [HBI.out]; rfl), below_drewN (bal (Below.refl _ _) _) _⟩
    · go_wp2_with fail
      first | go_region_with (first | (go_at_call 112; refine (hO.out _).mono ?_; rintro e w' ⟨rfl, hb⟩; obtain ⟨hc, hf⟩ := bcell hb; clear hf; have HB : Hid _ := hb; clear hb)) | fail
      all_goals
        go_wp2
        go_ret
        exact ⟨ret_bool (by rw [HBI.out]; rfl), bcall (Below.drew (bal (Below.refl _ _) _)) HB.out⟩
end Go.Proofs.YtckkkdldljhehabGreat.Th
namespace Go.Proofs.YtckkkdldljhehabGreat.Th
open Go.Proofs.YtckkkdldljhehabGreat.Num Go.Proofs.YtckkkdldljhehabGreat.St Go.Proofs.YtckkkdldljhehabGreat.Mp
open Go.ChangeShapes Go.WideShapes Go.ChangeAt Go.RowKit

/-- Those that have come. -/
def doneM (l todo : Mth) : Mth := l.filter (fun p => (getM p.1 todo).isNone)
theorem doneM_all {l : Mth} (hu : Up l) : doneM l l = [] := by
  unfold doneM
  rw [List.filter_eq_nil_iff]
  intro p hp
  rw [getM_of_mem hu (k := p.1) (t := p.2) hp]
  simp
theorem doneM_nil (l : Mth) : doneM l [] = l := by
  unfold doneM
  rw [List.filter_eq_self]
  intro p hp
  rfl
theorem mem_doneM {l todo : Mth} {p : Int × Th} : p ∈ doneM l todo ↔ p ∈ l ∧ getM p.1 todo = none := by
  unfold doneM
  rw [List.mem_filter, Option.isNone_iff_eq_none]
theorem keys_up {l : Mth} (h : Up l) : (l.map (·.1)).Pairwise (· < ·) := by
  rw [List.pairwise_map]
  exact h
theorem up_ext {a b : List Int} (ha : a.Pairwise (· < ·)) (hb : b.Pairwise (· < ·)) (h : ∀ x, x ∈ a ↔ x ∈ b) : a = b := by
  induction a generalizing b with
  | nil =>
    cases b with
    | nil => rfl
    | cons y b => exact absurd ((h y).2 (List.mem_cons_self ..)) (by simp)
  | cons x a ih =>
    cases b with
    | nil => exact absurd ((h x).1 (List.mem_cons_self ..)) (by simp)
    | cons y b =>
      have ha' := List.pairwise_cons.1 ha
      have hb' := List.pairwise_cons.1 hb
      have e : x = y := by
        rcases List.mem_cons.1 ((h x).1 (List.mem_cons_self ..)) with h1 | h1
        · exact h1
        · rcases List.mem_cons.1 ((h y).2 (List.mem_cons_self ..)) with h2 | h2
          · exact h2.symm
          · have := hb'.1 x h1
            have := ha'.1 y h2
            omega
      subst e
      rw [ih ha'.2 hb'.2 (fun z => ?_)]
      constructor
      · intro hz
        rcases List.mem_cons.1 ((h z).1 (List.mem_cons_of_mem _ hz)) with h1 | h1
        · subst h1; have := ha'.1 z hz; omega
        · exact h1
      · intro hz
        rcases List.mem_cons.1 ((h z).2 (List.mem_cons_of_mem _ hz)) with h1 | h1
        · subst h1; have := hb'.1 z hz; omega
        · exact h1
/-- One more that has come, put into its place. -/
theorem done_ins {l todo : Mth} {out : List Int} {k : Int} {t : Th} {q : Nat} (hl : Up l) (hu : Up todo) (hs : ∀ p ∈ todo, p ∈ l) (hk : getM k todo = some t) (ho : out = (doneM l todo).map (·.1))
    (h1 : q = 0 ∨ ∃ y, out[q - 1]? = some y ∧ ¬ y > k) (h2 : ∀ y ∈ out.drop q, k < y) : out.take q ++ k :: out.drop q = (doneM l (delM k todo)).map (·.1) := by
  have hso : out.Pairwise (· < ·) := by rw [ho]; exact keys_up (List.Pairwise.filter _ hl)
  have hno : k ∉ out := by
    rw [ho]
    intro h
    obtain ⟨p, hp, e⟩ := List.mem_map.1 h
    have := (mem_doneM.1 hp).2
    rw [e, hk] at this
    cases this
  have hp : (out.take q ++ out.drop q).Pairwise (· < ·) := by rw [List.take_append_drop]; exact hso
  rw [List.pairwise_append] at hp
  refine up_ext ?_ (keys_up (List.Pairwise.filter _ hl)) (fun x => ?_)
  · have hle : ∀ y ∈ out.take q, y < k := by
      intro y hy
      have hyo : y ≠ k := fun e => hno (e ▸ List.mem_of_mem_take hy)
      rcases h1 with h1 | ⟨z, hz, hzx⟩
      · subst h1; simp at hy
      · obtain ⟨j, hj⟩ := List.getElem?_of_mem hy
        have hjl : j < q := by have := (List.getElem?_eq_some_iff.1 hj).1; rw [List.length_take] at this; omega
        rw [List.getElem?_take_of_lt hjl] at hj
        have e1 := List.getElem?_eq_some_iff.1 hj
        have e2 := List.getElem?_eq_some_iff.1 hz
        rcases Nat.lt_or_ge j (q - 1) with h3 | h3
        · have := List.pairwise_iff_getElem.1 hso j (q - 1) e1.1 e2.1 h3
          rw [e1.2, e2.2] at this
          omega
        · have : j = q - 1 := by omega
          subst this
          rw [hz] at hj
          cases hj
          omega
    rw [List.pairwise_append]
    refine ⟨hp.1, List.pairwise_cons.2 ⟨h2, hp.2.1⟩, fun a ha c hc => ?_⟩
    rcases List.mem_cons.1 hc with rfl | hc
    · exact hle a ha
    · exact hp.2.2 a ha c hc
  · have e1 : x ∈ out.take q ++ k :: out.drop q ↔ x = k ∨ x ∈ out := by
      rw [List.mem_append, List.mem_cons]
      conv => rhs; rw [← List.take_append_drop q out, List.mem_append]
      constructor
      · rintro (h | h | h)
        · exact Or.inr (Or.inl h)
        · exact Or.inl h
        · exact Or.inr (Or.inr h)
      · rintro (h | h | h)
        · exact Or.inr (Or.inl h)
        · exact Or.inl h
        · exact Or.inr (Or.inr h)
    rw [e1, ho, List.mem_map, List.mem_map]
    constructor
    · rintro (h | ⟨p, hp, e⟩)
      · exact ⟨(k, t), mem_doneM.2 ⟨hs _ (getM_mem hk), by rw [getM_del hu]; simp⟩, h.symm⟩
      · refine ⟨p, mem_doneM.2 ⟨(mem_doneM.1 hp).1, ?_⟩, e⟩
        rw [getM_del hu, (mem_doneM.1 hp).2]
        simp
    · rintro ⟨p, hp, e⟩
      obtain ⟨h3, h4⟩ := mem_doneM.1 hp
      rw [getM_del hu] at h4
      by_cases h5 : p.1 = k
      · exact Or.inl (e.symm.trans h5)
      · rw [if_neg h5] at h4
        exact Or.inr ⟨p, mem_doneM.2 ⟨h3, h4⟩, e⟩
end Go.Proofs.YtckkkdldljhehabGreat.Th
namespace Go.Proofs.YtckkkdldljhehabGreat.Th
open Go.Proofs.YtckkkdldljhehabGreat.Num Go.Proofs.YtckkkdldljhehabGreat.St Go.Proofs.YtckkkdldljhehabGreat.Mp
open Go.ChangeShapes Go.WideShapes Go.ChangeAt Go.RowKit

def prT (t : Tab) : Mth := (t.ids.zip t.rows).map (fun p => (p.1, (⟨t.mask, p.2⟩ : Th)))
def prs (L : List Tab) : Mth := L.flatMap prT
def ofP (ps : Mth) : Mth := ps.foldl (fun M p => putM p.1 p.2 M) []
/-- The things of tables. -/
def thM (L : List Tab) : Mth := ofP (prs L)
theorem snoc_ind {α : Type} {P : List α → Prop} (h0 : P []) (h1 : ∀ l a, P l → P (l ++ [a])) : ∀ l, P l := by
  intro l
  rw [← List.reverse_reverse l]
  induction l.reverse with
  | nil => exact h0
  | cons a r ih => rw [List.reverse_cons]; exact h1 _ _ ih
theorem ofP_snoc (ps : Mth) (p : Int × Th) : ofP (ps ++ [p]) = putM p.1 p.2 (ofP ps) := by simp [ofP]
theorem ofP_up (ps : Mth) : Up (ofP ps) := by
  induction ps using snoc_ind with
  | h0 => exact up_nil
  | h1 l a ih => rw [ofP_snoc]; exact ih.put _ _
theorem ofP_has (ps : Mth) (k : Int) : (getM k (ofP ps)).isSome = decide (k ∈ ps.map (·.1)) := by
  induction ps using snoc_ind with
  | h0 => simp [ofP, getM_nil]
  | h1 l a ih =>
    rw [ofP_snoc, getM_put (ofP_up _), List.map_append]
    by_cases h : k = a.1
    · simp [h]
    · rw [if_neg h, ih]
      simp [h]
theorem ofP_get {ps : Mth} (hn : (ps.map (·.1)).Nodup) {k : Int} {t : Th} : getM k (ofP ps) = some t ↔ (k, t) ∈ ps := by
  induction ps using snoc_ind with
  | h0 => simp [ofP, getM_nil]
  | h1 l a ih =>
    rw [List.map_append, List.nodup_append] at hn
    rw [ofP_snoc, getM_put (ofP_up _), List.mem_append]
    by_cases h : k = a.1
    · rw [if_pos h]
      constructor
      · intro e
        cases e
        refine Or.inr ?_
        rw [h]
        exact List.mem_singleton.2 rfl
      · rintro (e | e)
        · exact absurd h (hn.2.2 k (List.mem_map.2 ⟨_, e, rfl⟩) a.1 (by simp))
        · rw [List.mem_singleton] at e
          rw [← e]
    · rw [if_neg h, ih hn.1]
      constructor
      · exact Or.inl
      · rintro (e | e)
        · exact e
        · rw [List.mem_singleton] at e
          exact absurd (by rw [← e]) h
theorem ofP_len {ps : Mth} (hn : (ps.map (·.1)).Nodup) : (ofP ps).length = ps.length := by
  induction ps using snoc_ind with
  | h0 => rfl
  | h1 l a ih =>
    rw [List.map_append, List.nodup_append] at hn
    have hno : (getM a.1 (ofP l)).isSome = false := by
      rw [ofP_has]
      simp only [decide_eq_false_iff_not]
      intro h
      exact hn.2.2 _ h a.1 (by simp) rfl
    rw [ofP_snoc, putM_len _ _ (ofP_up _), hno, ih hn.1]
    simp
theorem mem_prT {tb : Tab} {k : Int} {t : Th} : (k, t) ∈ prT tb ↔ tb.mask = t.m ∧ ∃ j : Nat, tb.ids[j]? = some k ∧ tb.rows[j]? = some t.r := by
  unfold prT
  rw [List.mem_map]
  constructor
  · rintro ⟨p, hp, e⟩
    cases e
    obtain ⟨j, hj⟩ := List.getElem?_of_mem hp
    rw [List.getElem?_zip_eq_some] at hj
    exact ⟨rfl, j, hj.1, hj.2⟩
  · rintro ⟨h1, j, h2, h3⟩
    refine ⟨(k, t.r), List.mem_of_getElem? (i := j) ?_, ?_⟩
    · rw [List.getElem?_zip_eq_some]; exact ⟨h2, h3⟩
    · rw [h1]
theorem mem_prs {L : List Tab} {k : Int} {t : Th} : (k, t) ∈ prs L ↔ At L k t.m t.r := by
  unfold prs At
  rw [List.mem_flatMap]
  constructor
  · rintro ⟨tb, h1, h2⟩
    obtain ⟨h3, h4⟩ := mem_prT.1 h2
    exact ⟨tb, h1, h3, h4⟩
  · rintro ⟨tb, h1, h3, h4⟩
    exact ⟨tb, h1, mem_prT.2 ⟨h3, h4⟩⟩
theorem keys_prT {tb : Tab} (h : tb.ids.length = tb.rows.length) : (prT tb).map (·.1) = tb.ids := by
  unfold prT
  rw [List.map_map]
  exact List.map_fst_zip (Nat.le_of_eq h)
theorem keys_prs {L : List Tab} (he : Even L) : (prs L).map (·.1) = allL L := by
  induction L with
  | nil => rfl
  | cons t L ih =>
    have h1 := he t (List.mem_cons_self ..)
    have h2 := ih (fun x hx => he x (List.mem_cons_of_mem _ hx))
    simp only [prs, List.flatMap_cons, List.map_append, allL] at h2 ⊢
    rw [h2, keys_prT h1]
theorem thM_up (L : List Tab) : Up (thM L) := ofP_up _
theorem thM_get {L : List Tab} (he : Even L) (hn : (allL L).Nodup) {k : Int} {t : Th} : getM k (thM L) = some t ↔ At L k t.m t.r := by
  rw [thM, ofP_get (by rw [keys_prs he]; exact hn), mem_prs]
theorem thM_has {L : List Tab} (he : Even L) (k : Int) : (getM k (thM L)).isSome = decide (k ∈ allL L) := by
  rw [thM, ofP_has, keys_prs he]
theorem thM_none {L : List Tab} (he : Even L) {k : Int} : getM k (thM L) = none ↔ k ∉ allL L := by
  have := thM_has he k
  cases h : getM k (thM L) <;> rw [h] at this <;> simp at this ⊢ <;> exact this
theorem thM_len {L : List Tab} (he : Even L) (hn : (allL L).Nodup) : (thM L).length = (allL L).length := by
  rw [thM, ofP_len (by rw [keys_prs he]; exact hn), ← keys_prs he, List.length_map]
/-- Tables that hold the same things give one list. -/
theorem thM_ext {L : List Tab} {M : Mth} (he : Even L) (hn : (allL L).Nodup) (hu : Up M) (h : ∀ k t, getM k M = some t ↔ At L k t.m t.r) : thM L = M :=
  (thM_up L).ext hu (fun k => option_ext (fun t => by rw [thM_get he hn, h]))

/-! ### as the walk meets them -/
variable {T : Nat → TabV} {I : Nat → Nat → Int} {R : Nat → Nat → R8}
def psTo (T : Nat → TabV) (I : Nat → Nat → Int) (R : Nat → Nat → R8) (k j : Nat) : Mth := prs (plainOf T I R k) ++ (List.range j).map (fun q => (I k q, (⟨(T k).mask, R k q⟩ : Th)))
theorem plainOf_succ (k : Nat) : plainOf T I R (k + 1) = plainOf T I R k ++ [tabOf T I R k] := by simp [plainOf, List.range_succ]
theorem psTo_zero (k : Nat) : psTo T I R k 0 = prs (plainOf T I R k) := by simp [psTo]
theorem psTo_succ (k j : Nat) : psTo T I R k (j + 1) = psTo T I R k j ++ [(I k j, ⟨(T k).mask, R k j⟩)] := by simp [psTo, List.range_succ]
theorem psTo_end {k : Nat} (h : (T k).il = (T k).rl) : psTo T I R k (T k).il = prs (plainOf T I R (k + 1)) := by
  rw [plainOf_succ]
  unfold psTo prs
  rw [List.flatMap_append]
  congr 1
  simp only [List.flatMap_cons, List.flatMap_nil, List.append_nil, prT, tabOf]
  rw [← h]
  apply List.ext_getElem?
  intro i
  by_cases hi : i < (T k).il
  · simp [hi]
  · simp [hi]
theorem prs_pre {k n : Nat} (h : k ≤ n) : ∃ r, prs (plainOf T I R n) = prs (plainOf T I R k) ++ r := by
  obtain ⟨d, rfl⟩ := Nat.exists_eq_add_of_le h
  clear h
  induction d with
  | zero => exact ⟨[], by simp⟩
  | succ d ih =>
    obtain ⟨r, hr⟩ := ih
    refine ⟨r ++ prT (tabOf T I R (k + d)), ?_⟩
    rw [← Nat.add_assoc, plainOf_succ]
    unfold prs at *
    rw [List.flatMap_append, hr]
    simp
theorem psTo_pre {k j : Nat} (hj : j ≤ (T k).il) (h : (T k).il = (T k).rl) : ∃ r, prs (plainOf T I R (k + 1)) = psTo T I R k j ++ r := by
  rw [← psTo_end h]
  unfold psTo
  obtain ⟨d, hd⟩ := Nat.exists_eq_add_of_le hj
  rw [hd]
  refine ⟨(List.range' j d).map (fun q => (I k q, (⟨(T k).mask, R k q⟩ : Th))), ?_⟩
  rw [List.append_assoc, ← List.map_append, List.range_eq_range', List.range_eq_range']
  congr 2
  have := List.range'_append (s := 0) (m := j) (n := d) (step := 1)
  simpa using this.symm
theorem tabsTo_iff {next : Int} (n : Nat) : TabsTo next T I R n ↔ ((∀ t ∈ plainOf T I R n, 0 < t.mask) ∧ (plainOf T I R n).Pairwise (fun a b => a.mask < b.mask)) ∧ ∀ t ∈ plainOf T I R n, GoodT next t := by
  rw [← lastM_pair (T := T) (I := I) (R := R) n]
  constructor
  · intro h
    refine ⟨fun i hi => (h i hi).1, fun t ht => ?_⟩
    obtain ⟨i, hi, rfl⟩ := mem_plain.1 ht
    exact (goodTab_iff i).1 (h i hi).2
  · rintro ⟨h1, h2⟩ i hi
    exact ⟨h1 i hi, (goodTab_iff i).2 (h2 _ (mem_plain.2 ⟨i, hi, rfl⟩))⟩
theorem tabsTo_even {next : Int} {n : Nat} (h : TabsTo next T I R n) : Even (plainOf T I R n) := fun t ht => (((tabsTo_iff n).1 h).2 t ht).2.1
theorem goodL_iff {next : Int} {n : Nat} : GoodL next (plainOf T I R n) ↔ btw next 0 1048576 = true ∧ (allL (plainOf T I R n)).length ≤ 10 ∧ TabsTo next T I R n ∧ (allL (plainOf T I R n)).Nodup := by
  unfold GoodL
  rw [tabsTo_iff]
  constructor
  · rintro ⟨h1, h2, h3, h4, h5, h6⟩; exact ⟨h1, h2, ⟨⟨h3, h4⟩, h5⟩, h6⟩
  · rintro ⟨h1, h2, ⟨⟨h3, h4⟩, h5⟩, h6⟩; exact ⟨h1, h2, h3, h4, h5, h6⟩
/-- 'Next - 1' as 64 bits hold it. -/
def nxW (next : Int) : Int := wrap64 (next - 1)
theorem nxW_eq {next : Int} (h : btw next 0 1048576 = true) : nxW next + 1 = next := by
  simp [btw] at h
  unfold nxW wrap64
  omega
theorem bad_tab {next : Int} {n k : Nat} (hk : k < n) (h : ¬ (lastM T k < (T k).mask ∧ GoodTab (T k).mask (nxW next + 1) (T k).il (T k).rl (I k) (R k))) : ¬ GoodL next (plainOf T I R n) := by
  intro hg
  obtain ⟨h1, _, h3, _⟩ := goodL_iff.1 hg
  have := h3 k hk
  rw [← nxW_eq h1] at this
  rw [nxW_eq h1] at this
  rw [nxW_eq h1] at h
  exact h this
theorem bad_twice {next : Int} {n k j : Nat} (hk : k < n) (hj : j < (T k).il) (h : I k j ∈ (psTo T I R k j).map (·.1)) : ¬ GoodL next (plainOf T I R n) := by
  intro hg
  obtain ⟨h1, _, h3, h4⟩ := goodL_iff.1 hg
  have hev := (h3 k hk).2.2.1
  obtain ⟨r1, e1⟩ := psTo_pre (T := T) (I := I) (R := R) (k := k) (j := j + 1) (by omega) hev
  obtain ⟨r2, e2⟩ := prs_pre (T := T) (I := I) (R := R) (k := k + 1) (n := n) (by omega)
  rw [← keys_prs (tabsTo_even h3), e2, e1, psTo_succ, List.append_assoc, List.append_assoc, List.map_append, List.nodup_append] at h4
  exact h4.2.2 _ h (I k j) (by simp) rfl
theorem psTo_len {next : Int} {k j : Nat} (h : TabsTo next T I R k) (hz : ∀ i, i < k → (T i).il ≤ 140737488355328) : (psTo T I R k j).length ≤ 4362862139015168 + j := by
  have h1 := tabsTo_len h hz
  rw [allIds_eq T I R k, List.length_reverse, ← keys_prs (tabsTo_even h), List.length_map] at h1
  unfold psTo
  rw [List.length_append, List.length_map, List.length_range]
  omega
theorem ofP_le (ps : Mth) : (ofP ps).length ≤ ps.length := by
  induction ps using snoc_ind with
  | h0 => simp [ofP]
  | h1 l a ih =>
    rw [ofP_snoc, putM_len _ _ (ofP_up _), List.length_append]
    split <;> simp <;> omega
end Go.Proofs.YtckkkdldljhehabGreat.Th
namespace Go.Proofs.YtckkkdldljhehabGreat.Th
open Go.Proofs.YtckkkdldljhehabGreat.Num Go.Proofs.YtckkkdldljhehabGreat.St Go.Proofs.YtckkkdldljhehabGreat.Mp
open Go.ChangeShapes Go.WideShapes Go.ChangeAt Go.RowKit

theorem tab_box (w : World) (m : Int) (u v : Value) (t : TypeId) : (w.alloc (.cells #[.int .i64 m, u, v] t)).cell? ⟨w.heap.size, 0, none⟩ = some (.int .i64 m) ∧ (w.alloc (.cells #[.int .i64 m, u, v] t)).cell? ⟨w.heap.size, 1, none⟩ = some u ∧ (w.alloc (.cells #[.int .i64 m, u, v] t)).cell? ⟨w.heap.size, 2, none⟩ = some v := by
  have h : (w.alloc (.cells #[.int .i64 m, u, v] t)).rowIs w.heap.size t 3 (fun i => if i = 0 then .int .i64 m else if i = 1 then u else v) := ⟨_, (MapKept.heap_alloc w _).1, rfl, fun i hi => by
    match i, hi with
    | 0, _ => rfl
    | 1, _ => rfl
    | 2, _ => rfl⟩
  exact ⟨h.cell (i := 0) (by omega), h.cell (i := 1) (by omega), h.cell (i := 2) (by omega)⟩
attribute [local go_sem ↓] Go.wp_at_zero Go.wp_at_succ
set_option maxHeartbeats 8000000 in
set_option maxRecDepth 100000 in
theorem thingsOf_any (a : Option Addr) (n cap : Nat) (next : Int) (T : Nat → TabV) (I : Nat → Nat → Int) (R : Nat → Nat → R8) (w : World) (hin : StoreIn w a n T I R) :
    Calls Tryz.prog 38 #[.agg #[.slice a n cap, .int .i64 next]] w fun e w' =>
      ((GoodL next (plainOf T I R n) ∧ ∃ b, e = .returned (.tuple #[.map (some b), .bool true]) ∧ w.heap.size ≤ b ∧ Mp w' b (thM (plainOf T I R n))) ∨
       (¬ GoodL next (plainOf T I R n) ∧ ∃ m, e = .returned (.tuple #[.map m, .bool false]))) ∧ Below w.heap.size w w' := by
  have hn : n ≤ 9223372036854775807 := by have := hin.fits.1; omega
  have HT : Hid _ := hin.tabs
  have HI : Hid _ := hin.ids
  have HR : Hid _ := hin.rows
  have HZ : Hid _ := hin.hz
  have HW : Hid _ := hin.wf
  clear hin
  have hmm := @run_makeMap Tryz.prog
  have HB0 : Hid (Below (w.heap.size + 1) (w.alloc (.cells #[.slice a n cap, .int .i64 next] 24)) ((w.alloc (.cells #[.slice a n cap, .int .i64 next] 24)).alloc (.map #[] 0))) := hid (by
    have := bal (Below.refl _ (w.alloc (.cells #[.slice a n cap, .int .i64 next] 24))) (.map #[] 0)
    rw [World.size_alloc] at this
    exact this)
  have HM0 : Hid (Mp ((w.alloc (.cells #[.slice a n cap, .int .i64 next] 24)).alloc (.map #[] 0)) (w.heap.size + 1) []) := hid (by
    have := Mp.made (w.alloc (.cells #[.slice a n cap, .int .i64 next] 24))
    rw [World.size_alloc] at this
    exact this)
  have HX0 : Hid ((w.alloc (.cells #[.slice a n cap, .int .i64 next] 24)).cell? ⟨w.heap.size, 1, none⟩ = some (.int .i64 next)) := hid (by simp)
  have HBW : Hid (∀ wr, Below (w.heap.size + 1) (w.alloc (.cells #[.slice a n cap, .int .i64 next] 24)) wr → Below w.heap.size w wr) := hid (fun wr h => bcall (bal (Below.refl _ _) (.cells #[.slice a n cap, .int .i64 next] 24)) (by rw [World.size_alloc]; exact h))
  go_enter Tryz.func38, Tryz.ntmps38
  go_wp2_with fail
  generalize w.alloc (.cells #[.slice a n cap, .int .i64 next] 24) = V0 at HB0 HM0 HX0 HBW ⊢
  go_loopw [5, 16] (fun la i wr => ∃ k : Nat, k ≤ n ∧ i = .int .i64 k ∧ la = .int .i64 (lastM T k) ∧ Hid (TabsTo (nxW next + 1) T I R k) ∧ Hid ((prs (plainOf T I R k)).map (·.1)).Nodup ∧ Hid (Mp wr (w.heap.size + 1) (ofP (prs (plainOf T I R k)))) ∧ Hid (Below (w.heap.size + 1) V0 wr) ∧ w.heap.size + 1 < wr.heap.size) (fun _ i _ => n - (intOf i).toNat)
  case atStart => exact ⟨0, Nat.zero_le _, rfl, rfl, hid (fun i hi => absurd hi (Nat.not_lt_zero _)), hid List.nodup_nil, HM0, HB0, HM0.out.lt⟩
  case round =>
    obtain ⟨k, hk, rfl, rfl, HTT, HND, HMP, HBL, hzr⟩ := hrel
    have hzr0 : w.heap.size < wr.heap.size := by omega
    by_cases hlt : k < n
    · obtain ⟨b, off, rfl, hb, hc⟩ := HT.out (by omega)
      obtain ⟨c0, c1, c2⟩ := hc k hlt
      have HBR := hid (HBW.out _ HBL.out)
      rw [← HBR.out.cell (by exact hb)] at c0 c1 c2
      clear hc
      obtain ⟨s1, s2⟩ := HZ.out k hlt
      have hbz : b < wr.heap.size := by omega
      by_cases hm : (T k).mask ≤ lastM T k
      · go_wp2_with fail
        exact bodyPost_ret (by simp [results, Tryz.results38, go_sem]; rfl) rfl ⟨Or.inr ⟨bad_tab hlt (fun h => by omega), _, rfl⟩, bal HBR.out _⟩
      by_cases hi0 : (T k).il = 0
      · have e0 : (((T k).il : Int) == 0) = true := by simp [hi0]
        go_wp2_with fail
        exact bodyPost_ret (by simp [results, Tryz.results38, go_sem]; rfl) rfl ⟨Or.inr ⟨bad_tab hlt (fun h => by have := h.2.1; omega), _, rfl⟩, bal HBR.out _⟩
      have e0 : (((T k).il : Int) == 0) = false := by simp; omega
      by_cases hir : (T k).rl = (T k).il
      rotate_left
      · have e1 : (((T k).rl : Int) != ((T k).il : Int)) = true := by simp; omega
        go_wp2_with fail
        exact bodyPost_ret (by simp [results, Tryz.results38, go_sem]; rfl) rfl ⟨Or.inr ⟨bad_tab hlt (fun h => by have := h.2.2.1; omega), _, rfl⟩, bal HBR.out _⟩
      have e1 : (((T k).rl : Int) != ((T k).il : Int)) = false := by simp; omega
      have HIR := hid hir
      clear hir
      obtain ⟨bi, oi, hia, hbi, hci⟩ := HI.out k hlt (by omega)
      obtain ⟨br, ro, hra, hbr, hcr⟩ := HR.out k hlt (by have := HIR.out; omega)
      have HCI := hid hci
      have HCR := hid hcr
      clear hci hcr
      rw [hia] at c1
      rw [hra] at c2
      have HTB := hid (tab_box wr (T k).mask (.slice (some ⟨bi, oi, none⟩) (T k).il (T k).ic) (.slice (some ⟨br, ro, none⟩) (T k).rl (T k).rc) 53)
      have HA := hid (bal (Below.refl _ wr) (.cells #[.int .i64 (T k).mask, .slice (some ⟨bi, oi, none⟩) (T k).il (T k).ic, .slice (some ⟨br, ro, none⟩) (T k).rl (T k).rc] 53))
      have HM1 := hid (HMP.out.below HA.out)
      have HB1 : Hid (Below (w.heap.size + 1) V0 (wr.alloc (.cells #[.int .i64 (T k).mask, .slice (some ⟨bi, oi, none⟩) (T k).il (T k).ic, .slice (some ⟨br, ro, none⟩) (T k).rl (T k).rc] 53))) := hid (HBL.out.trans (HA.out.mono (by omega)))
      have hz1 : wr.heap.size < (wr.alloc (.cells #[.int .i64 (T k).mask, .slice (some ⟨bi, oi, none⟩) (T k).il (T k).ic, .slice (some ⟨br, ro, none⟩) (T k).rl (T k).rc] 53)).heap.size := by simp
      go_wp2_with fail
      clear c0 c1 c2 hbz
      generalize wr.alloc (.cells #[.int .i64 (T k).mask, .slice (some ⟨bi, oi, none⟩) (T k).il (T k).ic, .slice (some ⟨br, ro, none⟩) (T k).rl (T k).rc] 53) = W1 at HTB HM1 HB1 hz1 ⊢
      clear HA HMP HBL HBR
      generalize wr.heap.size = tb at HTB hz1 hzr hzr0 ⊢
      clear wr
      go_loopw [44] (fun i wv => ∃ j : Nat, j ≤ (T k).il ∧ i = .int .i64 j ∧ Hid (GoodTo (T k).mask (nxW next + 1) (I k) (R k) j) ∧ Hid ((psTo T I R k j).map (·.1)).Nodup ∧ Hid (Mp wv (w.heap.size + 1) (ofP (psTo T I R k j))) ∧ Hid (Below (w.heap.size + 1) V0 wv) ∧ Hid (wv.cell? ⟨tb, 0, none⟩ = some (.int .i64 (T k).mask) ∧ wv.cell? ⟨tb, 1, none⟩ = some (.slice (some ⟨bi, oi, none⟩) (T k).il (T k).ic) ∧ wv.cell? ⟨tb, 2, none⟩ = some (.slice (some ⟨br, ro, none⟩) (T k).rl (T k).rc)) ∧ tb < wv.heap.size) (fun i _ => (T k).il - (intOf i).toNat)
      case atStart => exact ⟨0, Nat.zero_le _, rfl, hid (fun i hi => absurd hi (Nat.not_lt_zero _)), by rw [psTo_zero]; exact HND, by rw [psTo_zero]; exact HM1, HB1, HTB, hz1⟩
      case round =>
        obtain ⟨j, hj, rfl, HGT, HNJ, HMJ, HBJ, HTJ, hzj⟩ := hrel
        by_cases hjl : j < (T k).il
        · have cj := HCI.out j hjl
          have HBRJ := hid (HBW.out _ HBJ.out)
          rw [← HBRJ.out.cell (by exact hbi)] at cj
          have hx1 := (HBJ.out.cell (p := ⟨w.heap.size, 1, none⟩) (by simp)).trans HX0.out
          obtain ⟨r0, r1, r2, r3, r4, r5, r6, r7⟩ := HCR.out j (by have := HIR.out; omega)
          rw [← HBRJ.out.cell (by exact hbr)] at r0 r1 r2 r3 r4 r5 r6 r7
          obtain ⟨t0, t1, t2⟩ := HTJ.out
          have hwf := HW.out k hlt j hjl
          have hlk := HMJ.out.look_ok hwf
          have hsz := HBRJ.out.size
          have hbiz : bi < wr.heap.size := by omega
          have hbrz : br < wr.heap.size := by omega
          have hxz : w.heap.size < wr.heap.size := by omega
          have hlr : (j : Int) < ((T k).rl : Int) := by have := HIR.out; omega
          rw [ofP_has] at hlk
          obtain ⟨t, ht⟩ : ∃ t, (getM (I k j) (ofP (psTo T I R k j))).getD zTh = t := ⟨_, rfl⟩
          rw [ht] at hlk
          clear ht
          unfold thV at hlk
          by_cases hd : I k j ∈ (psTo T I R k j).map (·.1)
          · rw [decide_eq_true hd] at hlk
            have HD := hid hd
            clear hd
            go_wp2_with fail
            go_quiet (fail)
            go_wp2_with fail
            exact bodyPost_ret (by simp [results, Tryz.results38, go_sem]; rfl) rfl ⟨Or.inr ⟨bad_twice hlt hjl HD.out, _, rfl⟩, below_drewN (bal HBRJ.out _) _⟩
          rw [decide_eq_false hd] at hlk
          have HD := hid hd
          clear hd
          cases hq : btw (I k j) 0 (nxW next)
          · have hq' := hq
            unfold nxW at hq'
            go_wp2_with fail
            go_quiet ((go_at_call 39; exact Calls.quiet_of_same (within_any _ _ _ _)))
            go_wp2_with fail
            exact bodyPost_ret (by simp [results, Tryz.results38, go_sem]; rfl) rfl ⟨Or.inr ⟨bad_tab hlt (fun h => by have h1 := (h.2.2.2 j hjl).1; rw [Int.add_sub_cancel, hq] at h1; cases h1), _, rfl⟩, below_drewN (bal HBRJ.out _) _⟩
          · have hq' := hq
            unfold nxW at hq'
            have hqw : btw (I k j) 0 (IntKind.i64.wrap (next - 1)) = true := by rw [IntKind.wrap_i64]; unfold wrap64 at hq'; exact hq'
            cases hg : isRowH (T k).mask (R k j)
            · go_wp2_with fail
              go_region_with (first | (go_at_call 39; refine (within_any _ _ _ _).mono ?_; rintro e w' ⟨rfl, rfl⟩) | (go_at_call 77; refine (isRow_any _ (R k j) _).mono ?_; rintro e w2 ⟨rfl, hb2⟩; have HB2 : Hid _ := hb2; clear hb2))
              all_goals
                go_wp2_with fail
                exact bodyPost_ret (by simp [results, Tryz.results38, go_sem]; rfl) rfl ⟨Or.inr ⟨bad_tab hlt (fun h => by have h1 := (h.2.2.2 j hjl).2; rw [← isRow_good, hg] at h1; cases h1), _, rfl⟩, bcall (bal HBRJ.out _).drew HB2.out⟩
            · go_upto_region 13 with fail
              go_cut [74] (fun s wx => s = .bool false ∧ ∃ W, W = wx ∧ Hid (Below wr.heap.size wr W))
              case first =>
                go_region_with (first | (go_at_call 39; refine (within_any _ _ _ _).mono ?_; rintro e w' ⟨rfl, rfl⟩) | (go_at_call 77; refine (isRow_any _ (R k j) _).mono ?_; rintro e w2 ⟨rfl, hb2⟩; have HB2 : Hid _ := hb2; clear hb2))
                all_goals
                  go_wp2_with fail
                  go_meet
                  exact ⟨rfl, _, rfl, hid (bcall (bal (Below.refl _ _) _).drew HB2.out)⟩
              case rest =>
              obtain ⟨rfl, W, rfl, HBW2⟩ := hcut
              have HMW := hid (HMJ.out.below HBW2.out)
              have HBJ2 : Hid (Below (w.heap.size + 1) V0 W) := hid (HBJ.out.trans (HBW2.out.mono (by omega)))
              have hzW : tb < W.heap.size := by have := HBW2.out.size; omega
              have hbrW : br < W.heap.size := by have := HBW2.out.size; omega
              rw [← HBW2.out.cell (by exact hzj)] at t0 t1 t2
              rw [← HBW2.out.cell (by exact hbrz)] at r0 r1 r2 r3 r4 r5 r6 r7
              have HTW := hid (And.intro t0 (And.intro t1 t2))
              have hlen : (ofP (psTo T I R k j)).length < maxLen := by
                have h1 := ofP_le (psTo T I R k j)
                have h2 := psTo_len (T := T) (I := I) (R := R) (j := j) HTT.out (fun i hi => (HZ.out i (by omega)).1)
                unfold maxLen
                omega
              obtain ⟨W6, hrun6, hM6, ht6⟩ := (HMW.out.block (w' := W.drew) rfl).store hwf ⟨(T k).mask, R k j⟩ hlen
              simp only [thV] at hrun6
              have HM6 := hid hM6
              have HT6 := hid ht6
              clear hM6 ht6 hlk cj hlen hx1 t1
              clear HMJ HBJ HTJ
              go_wp2_with fail
              go_region
              all_goals
                go_wp2_with fail
                go_roundw
                case rel =>
                  have hblk : ∀ i, i ≠ w.heap.size + 1 → W6.heap[i]? = W.heap[i]? := fun i hi => turned_block HT6.out hi
                  refine ⟨j + 1, by omega, by go_num, hid (fun i hi => ?_), hid ?_, hid ?_, hid ?_, hid ⟨?_, ?_, ?_⟩, ?_⟩
                  · by_cases e : i = j
                    · subst e
                      exact ⟨by rw [Int.add_sub_cancel]; exact hq, by rw [← isRow_good]; exact hg⟩
                    · exact HGT.out i (by omega)
                  · rw [psTo_succ, List.map_append, List.nodup_append]
                    refine ⟨HNJ.out, by simp, fun x hx y hy => ?_⟩
                    simp at hy
                    subst hy
                    intro e
                    exact HD.out (e ▸ hx)
                  · rw [psTo_succ, ofP_snoc]
                    exact HM6.out
                  · exact HBJ2.out.drew.grown HT6.out.grown (by simp; omega) (fun q hq => by cases hq; exact Nat.le_refl _)
                  · exact (World.cell?_of_block (a := ⟨tb, 0, none⟩) (hblk tb (by omega))).trans HTW.out.1
                  · exact (World.cell?_of_block (a := ⟨tb, 1, none⟩) (hblk tb (by omega))).trans HTW.out.2.1
                  · exact (World.cell?_of_block (a := ⟨tb, 2, none⟩) (hblk tb (by omega))).trans HTW.out.2.2
                  · rw [turned_size HT6.out]
                    exact hzW
                case measure => simp [intOf]; omega
        · have hje : j = (T k).il := by omega
          subst hje
          go_wp2_with fail
          go_roundw
          case rel =>
            have hev : (T k).il = (T k).rl := HIR.out.symm
            refine ⟨k + 1, by omega, by go_num, rfl, hid (fun i hi => ?_), hid ?_, hid ?_, HBJ, HMJ.out.lt⟩
            · by_cases e : i = k
              · subst e
                exact ⟨by omega, by omega, hev, HGT.out⟩
              · exact HTT.out i (by omega)
            · rw [← psTo_end hev]
              exact HNJ.out
            · rw [← psTo_end hev]
              exact HMJ.out
          case measure => simp [intOf]; omega
    · have hke : k = n := by omega
      subst hke
      have hx1 := (HBL.out.cell (p := ⟨w.heap.size, 1, none⟩) (by simp)).trans HX0.out
      have hln := HMP.out.len
      have hev := tabsTo_even HTT.out
      have hkl : (allL (plainOf T I R k)).Nodup := by rw [← keys_prs hev]; exact HND.out
      have hle : (ofP (prs (plainOf T I R k))).length = (allL (plainOf T I R k)).length := thM_len hev hkl
      rw [hle] at hln
      have HE := hid hle
      have HKL := hid hkl
      clear hle hkl hev
      by_cases h10 : (allL (plainOf T I R k)).length ≤ 10
      · have h10' : (((allL (plainOf T I R k)).length : Nat) : Int) ≤ 10 := by omega
        cases hq : btw next 0 1048576
        · go_wp2_with (go_at_call 39; refine (within_any _ _ _ _).mono ?_; rintro e w' ⟨rfl, rfl⟩)
          exact bodyPost_ret (by simp [results, Tryz.results38, go_sem]; rfl) rfl ⟨Or.inr ⟨fun h => (by have := h.1; rw [hq] at this; cases this), _, rfl⟩, HBW.out _ HBL.out⟩
        · go_wp2_with (go_at_call 39; refine (within_any _ _ _ _).mono ?_; rintro e w' ⟨rfl, rfl⟩)
          refine bodyPost_ret (v := .tuple #[.map (some (w.heap.size + 1)), .bool true]) (by simp [results, Tryz.results38, go_sem]) rfl ⟨Or.inl ⟨?_, _, rfl, Nat.le_succ _, HMP.out⟩, HBW.out _ HBL.out⟩
          have h1 := HTT.out
          rw [nxW_eq hq] at h1
          exact goodL_iff.2 ⟨hq, h10, h1, HKL.out⟩
      · have h10' : ¬ (((allL (plainOf T I R k)).length : Nat) : Int) ≤ 10 := by omega
        go_wp2_with fail
        exact bodyPost_ret (by simp [results, Tryz.results38, go_sem]; rfl) rfl ⟨Or.inr ⟨fun h => h10 h.2.1, _, rfl⟩, HBW.out _ HBL.out⟩
end Go.Proofs.YtckkkdldljhehabGreat.Th
