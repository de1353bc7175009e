/- What sorted and Having of things by number (package ninepinsref) answer when called over a map in memory: all numbers, or those of the things that have all parts of a mask, rising, in memory of their own. Nothing that was in memory before has changed. -/
import Derived.Test.YtckkkdldljhehaaKtMpB
import Derived.Test.YtckkkdldljhehaaPkB
import Derived.Maps.AppendAt
import Derived.Laws.OwnMore
import Derived.Lib.SmallJoins
import Derived.Deep.OwnRows
namespace Go.Proofs.Ytckkkdldljhehaa.Th
open Go.Proofs.Ytckkkdldljhehaa.Num Go.Proofs.Ytckkkdldljhehaa.St Go.Proofs.Ytckkkdldljhehaa.Mp
open Go.ChangeShapes Go.WideShapes Go.ChangeAt Go.RowKit

/-- Those that have come. -/
def doneM (l todo : Mth) : Mth := l.filter (fun p => (getM p.1 todo).isNone)
theorem doneM_all {l : Mth} (hu : Up l) : doneM l l = [] := by
  unfold doneM
  rw [List.filter_eq_nil_iff]
  intro p hp
  rw [getM_of_mem hu (k := p.1) (t := p.2) hp]
  simp
theorem doneM_nil (l : Mth) : doneM l [] = l := by
  unfold doneM
  rw [List.filter_eq_self]
  intro p hp
  rfl
theorem mem_doneM {l todo : Mth} {p : Int × Th} : p ∈ doneM l todo ↔ p ∈ l ∧ getM p.1 todo = none := by
  unfold doneM
  rw [List.mem_filter, Option.isNone_iff_eq_none]
theorem keys_up {l : Mth} (h : Up l) : (l.map (·.1)).Pairwise (· < ·) := by
  rw [List.pairwise_map]
  exact h
theorem up_ext {a b : List Int} (ha : a.Pairwise (· < ·)) (hb : b.Pairwise (· < ·)) (h : ∀ x, x ∈ a ↔ x ∈ b) : a = b := by
  induction a generalizing b with
  | nil =>
    cases b with
    | nil => rfl
    | cons y b => exact absurd ((h y).2 (List.mem_cons_self ..)) (by simp)
  | cons x a ih =>
    cases b with
    | nil => exact absurd ((h x).1 (List.mem_cons_self ..)) (by simp)
    | cons y b =>
      have ha' := List.pairwise_cons.1 ha
      have hb' := List.pairwise_cons.1 hb
      have e : x = y := by
        rcases List.mem_cons.1 ((h x).1 (List.mem_cons_self ..)) with h1 | h1
        · exact h1
        · rcases List.mem_cons.1 ((h y).2 (List.mem_cons_self ..)) with h2 | h2
          · exact h2.symm
          · have := hb'.1 x h1
            have := ha'.1 y h2
            omega
      subst e
      rw [ih ha'.2 hb'.2 (fun z => ?_)]
      constructor
      · intro hz
        rcases List.mem_cons.1 ((h z).1 (List.mem_cons_of_mem _ hz)) with h1 | h1
        · subst h1; have := ha'.1 z hz; omega
        · exact h1
      · intro hz
        rcases List.mem_cons.1 ((h z).2 (List.mem_cons_of_mem _ hz)) with h1 | h1
        · subst h1; have := hb'.1 z hz; omega
        · exact h1
/-- One more that has come, put into its place. -/
theorem done_ins {l todo : Mth} {out : List Int} {k : Int} {t : Th} {q : Nat} (hl : Up l) (hu : Up todo) (hs : ∀ p ∈ todo, p ∈ l) (hk : getM k todo = some t) (ho : out = (doneM l todo).map (·.1))
    (h1 : q = 0 ∨ ∃ y, out[q - 1]? = some y ∧ ¬ y > k) (h2 : ∀ y ∈ out.drop q, k < y) : out.take q ++ k :: out.drop q = (doneM l (delM k todo)).map (·.1) := by
  have hso : out.Pairwise (· < ·) := by rw [ho]; exact keys_up (List.Pairwise.filter _ hl)
  have hno : k ∉ out := by
    rw [ho]
    intro h
    obtain ⟨p, hp, e⟩ := List.mem_map.1 h
    have := (mem_doneM.1 hp).2
    rw [e, hk] at this
    cases this
  have hp : (out.take q ++ out.drop q).Pairwise (· < ·) := by rw [List.take_append_drop]; exact hso
  rw [List.pairwise_append] at hp
  refine up_ext ?_ (keys_up (List.Pairwise.filter _ hl)) (fun x => ?_)
  · have hle : ∀ y ∈ out.take q, y < k := by
      intro y hy
      have hyo : y ≠ k := fun e => hno (e ▸ List.mem_of_mem_take hy)
      rcases h1 with h1 | ⟨z, hz, hzx⟩
      · subst h1; simp at hy
      · obtain ⟨j, hj⟩ := List.getElem?_of_mem hy
        have hjl : j < q := by have := (List.getElem?_eq_some_iff.1 hj).1; rw [List.length_take] at this; omega
        rw [List.getElem?_take_of_lt hjl] at hj
        have e1 := List.getElem?_eq_some_iff.1 hj
        have e2 := List.getElem?_eq_some_iff.1 hz
        rcases Nat.lt_or_ge j (q - 1) with h3 | h3
        · have := List.pairwise_iff_getElem.1 hso j (q - 1) e1.1 e2.1 h3
          rw [e1.2, e2.2] at this
          omega
        · have : j = q - 1 := by omega
          subst this
          rw [hz] at hj
          cases hj
          omega
    rw [List.pairwise_append]
    refine ⟨hp.1, List.pairwise_cons.2 ⟨h2, hp.2.1⟩, fun a ha c hc => ?_⟩
    rcases List.mem_cons.1 hc with rfl | hc
    · exact hle a ha
    · exact hp.2.2 a ha c hc
  · have e1 : x ∈ out.take q ++ k :: out.drop q ↔ x = k ∨ x ∈ out := by
      rw [List.mem_append, List.mem_cons]
      conv => rhs; rw [← List.take_append_drop q out, List.mem_append]
      constructor
      · rintro (h | h | h)
        · exact Or.inr (Or.inl h)
        · exact Or.inl h
        · exact Or.inr (Or.inr h)
      · rintro (h | h | h)
        · exact Or.inr (Or.inl h)
        · exact Or.inl h
        · exact Or.inr (Or.inr h)
    rw [e1, ho, List.mem_map, List.mem_map]
    constructor
    · rintro (h | ⟨p, hp, e⟩)
      · exact ⟨(k, t), mem_doneM.2 ⟨hs _ (getM_mem hk), by rw [getM_del hu]; simp⟩, h.symm⟩
      · refine ⟨p, mem_doneM.2 ⟨(mem_doneM.1 hp).1, ?_⟩, e⟩
        rw [getM_del hu, (mem_doneM.1 hp).2]
        simp
    · rintro ⟨p, hp, e⟩
      obtain ⟨h3, h4⟩ := mem_doneM.1 hp
      rw [getM_del hu] at h4
      by_cases h5 : p.1 = k
      · exact Or.inl (e.symm.trans h5)
      · rw [if_neg h5] at h4
        exact Or.inr ⟨p, mem_doneM.2 ⟨h3, h4⟩, e⟩
end Go.Proofs.Ytckkkdldljhehaa.Th
