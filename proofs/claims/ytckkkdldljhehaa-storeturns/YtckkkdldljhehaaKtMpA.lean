/- Things by number as plain lists that rise by number: put, taken away, looked up; and that such a list is told by what is looked up in it. No program. -/
import Derived.Test.YtckkkdldljhehaaKtPl
namespace Go.Proofs.Ytckkkdldljhehaa.Mp
open Go.Proofs.Ytckkkdldljhehaa.Num

/-- A thing: its mask and its row. -/
structure Th where
  m : Int
  r : R8
abbrev Mth := List (Int × Th)
def insM (x : Int × Th) : Mth → Mth
  | [] => [x]
  | y :: l => if x.1 < y.1 then x :: y :: l else y :: insM x l
def delM (k : Int) (l : Mth) : Mth := l.filter (fun p => !decide (p.1 = k))
def putM (k : Int) (t : Th) (l : Mth) : Mth := insM (k, t) (delM k l)
def getM (k : Int) (l : Mth) : Option Th := (l.find? (fun p => decide (p.1 = k))).map (·.2)
def Up (l : Mth) : Prop := l.Pairwise (fun a b => a.1 < b.1)

theorem getM_nil (k : Int) : getM k [] = none := rfl
theorem getM_cons (k : Int) (x : Int × Th) (l : Mth) : getM k (x :: l) = if x.1 = k then some x.2 else getM k l := by
  unfold getM
  rw [List.find?_cons]
  by_cases h : x.1 = k <;> simp [h]
theorem mem_insM {x p : Int × Th} {l : Mth} : p ∈ insM x l ↔ p = x ∨ p ∈ l := by
  induction l with
  | nil => simp [insM]
  | cons y l ih =>
    unfold insM
    split
    · simp
    · simp only [List.mem_cons, ih]
      constructor
      · rintro (h | h | h)
        · exact Or.inr (Or.inl h)
        · exact Or.inl h
        · exact Or.inr (Or.inr h)
      · rintro (h | h | h)
        · exact Or.inr (Or.inl h)
        · exact Or.inl h
        · exact Or.inr (Or.inr h)
theorem mem_delM {k : Int} {p : Int × Th} {l : Mth} : p ∈ delM k l ↔ p ∈ l ∧ p.1 ≠ k := by simp [delM]
theorem mem_putM {k : Int} {t : Th} {p : Int × Th} {l : Mth} : p ∈ putM k t l ↔ p = (k, t) ∨ (p ∈ l ∧ p.1 ≠ k) := by rw [putM, mem_insM, mem_delM]
theorem Up.del {l : Mth} (h : Up l) (k : Int) : Up (delM k l) := List.Pairwise.filter _ h
theorem Up.ins {l : Mth} (h : Up l) {x : Int × Th} (hx : ∀ p ∈ l, p.1 ≠ x.1) : Up (insM x l) := by
  induction l with
  | nil => exact List.pairwise_singleton _ _
  | cons y l ih =>
    have h' := List.pairwise_cons.1 h
    unfold insM
    split
    · rename_i hlt
      refine List.pairwise_cons.2 ⟨fun q hq => ?_, h⟩
      rcases List.mem_cons.1 hq with rfl | hq
      · exact hlt
      · have := h'.1 q hq; omega
    · rename_i hlt
      refine List.pairwise_cons.2 ⟨fun q hq => ?_, ih h'.2 (fun p hp => hx p (List.mem_cons_of_mem _ hp))⟩
      rcases mem_insM.1 hq with rfl | hq
      · have := hx y (List.mem_cons_self ..); omega
      · exact h'.1 q hq
theorem Up.put {l : Mth} (h : Up l) (k : Int) (t : Th) : Up (putM k t l) := (h.del k).ins (fun _ hp => (mem_delM.1 hp).2)
theorem up_nil : Up [] := List.Pairwise.nil
theorem getM_mem {l : Mth} {k : Int} {t : Th} (h : getM k l = some t) : (k, t) ∈ l := by
  induction l with
  | nil => simp [getM_nil] at h
  | cons x l ih =>
    rw [getM_cons] at h
    split at h
    · rename_i e
      cases h
      rw [← e]
      exact List.mem_cons_self ..
    · exact List.mem_cons_of_mem _ (ih h)
theorem getM_of_mem {l : Mth} (hu : Up l) {k : Int} {t : Th} (h : (k, t) ∈ l) : getM k l = some t := by
  induction l with
  | nil => cases h
  | cons x l ih =>
    have h' := List.pairwise_cons.1 hu
    rw [getM_cons]
    rcases List.mem_cons.1 h with rfl | h
    · rw [if_pos rfl]
    · have := h'.1 _ h
      rw [if_neg (by simp only at this; omega), ih h'.2 h]
theorem getM_iff {l : Mth} (hu : Up l) {k : Int} {t : Th} : getM k l = some t ↔ (k, t) ∈ l := ⟨getM_mem, getM_of_mem hu⟩
theorem getM_none {l : Mth} {k : Int} : getM k l = none ↔ ∀ p ∈ l, p.1 ≠ k := by
  unfold getM
  simp
theorem getM_some_iff {l : Mth} {k : Int} : (getM k l).isSome = true ↔ k ∈ l.map (·.1) := by
  cases h : getM k l with
  | none =>
    have := getM_none.1 h
    simp
    intro t ht
    exact this _ ht rfl
  | some t =>
    simp
    exact ⟨t, getM_mem h⟩
theorem option_ext {α : Type} {a b : Option α} (h : ∀ t, a = some t ↔ b = some t) : a = b := by
  cases a with
  | none => cases b with
    | none => rfl
    | some t => exact ((h t).2 rfl)
  | some t => exact ((h t).1 rfl).symm
theorem getM_put {l : Mth} (hu : Up l) (k j : Int) (t : Th) : getM j (putM k t l) = if j = k then some t else getM j l := by
  apply option_ext
  intro s
  rw [getM_iff (hu.put k t), mem_putM]
  by_cases hj : j = k
  · subst hj
    simp only [if_true]
    constructor
    · rintro (h | h)
      · cases h; rfl
      · exact absurd rfl h.2
    · intro h; cases h; exact Or.inl rfl
  · rw [if_neg hj, getM_iff hu]
    constructor
    · rintro (h | h)
      · cases h; exact absurd rfl hj
      · exact h.1
    · intro h; exact Or.inr ⟨h, hj⟩
theorem getM_del {l : Mth} (hu : Up l) (k j : Int) : getM j (delM k l) = if j = k then none else getM j l := by
  apply option_ext
  intro s
  rw [getM_iff (hu.del k), mem_delM]
  by_cases hj : j = k
  · subst hj
    simp
  · rw [if_neg hj, getM_iff hu]
    exact ⟨fun h => h.1, fun h => ⟨h, hj⟩⟩
theorem Up.ext {a b : Mth} (ha : Up a) (hb : Up b) (h : ∀ k, getM k a = getM k b) : a = b := by
  have hm : ∀ p, p ∈ a ↔ p ∈ b := fun p => by
    obtain ⟨k, t⟩ := p
    rw [← getM_iff ha, ← getM_iff hb, h k]
  induction a generalizing b with
  | nil =>
    cases b with
    | nil => rfl
    | cons y b => exact absurd ((hm y).2 (List.mem_cons_self ..)) (by simp)
  | cons x a ih =>
    cases b with
    | nil => exact absurd ((hm x).1 (List.mem_cons_self ..)) (by simp)
    | cons y b =>
      have ha' := List.pairwise_cons.1 ha
      have hb' := List.pairwise_cons.1 hb
      have hxy : x = y := by
        rcases List.mem_cons.1 ((hm x).1 (List.mem_cons_self ..)) with h1 | h1
        · exact h1
        · rcases List.mem_cons.1 ((hm y).2 (List.mem_cons_self ..)) with h2 | h2
          · exact h2.symm
          · have := hb'.1 x h1
            have := ha'.1 y h2
            omega
      subst hxy
      have hm' : ∀ p, p ∈ a ↔ p ∈ b := fun p => by
        constructor
        · intro hp
          rcases List.mem_cons.1 ((hm p).1 (List.mem_cons_of_mem _ hp)) with h1 | h1
          · subst h1; have := ha'.1 p hp; omega
          · exact h1
        · intro hp
          rcases List.mem_cons.1 ((hm p).2 (List.mem_cons_of_mem _ hp)) with h1 | h1
          · subst h1; have := hb'.1 p hp; omega
          · exact h1
      rw [ih ha'.2 hb'.2 (fun k => option_ext (fun t => by rw [getM_iff ha'.2, getM_iff hb'.2, hm'])) hm']
theorem insM_len (x : Int × Th) (l : Mth) : (insM x l).length = l.length + 1 := by
  induction l with
  | nil => rfl
  | cons y l ih =>
    unfold insM
    split
    · rfl
    · simp [ih]
theorem delM_len (k : Int) {l : Mth} (hu : Up l) : (delM k l).length + (if (getM k l).isSome then 1 else 0) = l.length := by
  induction l with
  | nil => rfl
  | cons x l ih =>
    have h' := List.pairwise_cons.1 hu
    have := ih h'.2
    rw [getM_cons]
    unfold delM at *
    by_cases hx : x.1 = k
    · rw [List.filter_cons_of_neg (by simp [hx]), if_pos hx]
      have hn : getM k l = none := getM_none.2 (fun p hp => by have := h'.1 p hp; omega)
      rw [hn] at this
      simp at this ⊢
      omega
    · rw [List.filter_cons_of_pos (by simp [hx]), if_neg hx, List.length_cons, List.length_cons]
      omega
theorem delM_none {k : Int} {l : Mth} (h : getM k l = none) : delM k l = l := by
  unfold delM
  rw [List.filter_eq_self]
  intro p hp
  simp [getM_none.1 h p hp]
theorem putM_len (k : Int) (t : Th) {l : Mth} (hu : Up l) : (putM k t l).length = l.length + (if (getM k l).isSome then 0 else 1) := by
  have := delM_len k hu
  rw [putM, insM_len]
  cases h : (getM k l).isSome <;> rw [h] at this <;> simp at this ⊢ <;> omega
end Go.Proofs.Ytckkkdldljhehaa.Mp
