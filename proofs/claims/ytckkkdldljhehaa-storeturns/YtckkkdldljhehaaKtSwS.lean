/- A number put into its place among sorted ones: what LookOf of package ninepinsref does, as plain lists. No program. -/
import Derived.Test.YtckkkdldljhehaaKtSwR
namespace Go.Proofs.Ytckkkdldljhehaa.Sw

def insAt (l : List Int) (k : Nat) (x : Int) : List Int := l.take k ++ x :: l.drop k
theorem insAt_perm (l : List Int) (k : Nat) (x : Int) : (insAt l k x).Perm (l ++ [x]) := by
  unfold insAt
  refine List.perm_middle.trans ?_
  rw [List.take_append_drop]
  exact (List.perm_append_singleton x l).symm
theorem insAt_sorted {l : List Int} {k : Nat} {x : Int} (hs : l.Pairwise (fun a b => a ≤ b)) (h1 : ∀ y ∈ l.take k, y ≤ x) (h2 : ∀ y ∈ l.drop k, x < y) : (insAt l k x).Pairwise (fun a b => a ≤ b) := by
  unfold insAt
  have hp : (l.take k ++ l.drop k).Pairwise (fun a b => a ≤ b) := by rw [List.take_append_drop]; exact hs
  rw [List.pairwise_append] at hp ⊢
  refine ⟨hp.1, List.pairwise_cons.2 ⟨fun y hy => by have := h2 y hy; omega, hp.2.1⟩, fun a ha b hb => ?_⟩
  rcases List.mem_cons.1 hb with rfl | hb
  · exact h1 a ha
  · exact hp.2.2 a ha b hb
theorem sortI_is {l l' : List Int} (hp : l.Perm l') (hs : l.Pairwise (fun a b => a ≤ b)) : l = sortI l' := by
  have h1 := sortI_sorted l'
  have h2 : l.Perm (sortI l') := hp.trans (by unfold sortI; exact (List.mergeSort_perm _ _).symm)
  exact List.Perm.eq_of_pairwise (fun a b _ _ h1 h2 => Int.le_antisymm h1 h2) hs h1 h2
/-- The place is found from the right: all behind it are greater, and the one before it is not. -/
theorem ins_here {l0 l : List Int} {k : Nat} {x : Int} (hl : l = sortI l0) (hk : k ≤ l.length) (h1 : k = 0 ∨ ∃ y, l[k - 1]? = some y ∧ y ≤ x) (h2 : ∀ y ∈ l.drop k, x < y) : insAt l k x = sortI (l0 ++ [x]) := by
  have hs : l.Pairwise (fun a b => a ≤ b) := by rw [hl]; exact sortI_sorted l0
  refine sortI_is ((insAt_perm l k x).trans ?_) (insAt_sorted hs (fun y hy => ?_) h2)
  · rw [hl]
    exact List.Perm.append (by unfold sortI; exact List.mergeSort_perm _ _) (List.Perm.refl _)
  · rcases h1 with h1 | ⟨z, hz, hzx⟩
    · subst h1; simp at hy
    · obtain ⟨j, hj⟩ := List.getElem?_of_mem hy
      have hjl : j < k := by have := (List.getElem?_eq_some_iff.1 hj).1; rw [List.length_take] at this; omega
      rw [List.getElem?_take_of_lt hjl] at hj
      have e1 := List.getElem?_eq_some_iff.1 hj
      have e2 := List.getElem?_eq_some_iff.1 hz
      rcases Nat.lt_or_ge j (k - 1) with h3 | h3
      · have := List.pairwise_iff_getElem.1 hs j (k - 1) e1.1 e2.1 h3
        rw [e1.2, e2.2] at this
        omega
      · have : j = k - 1 := by omega
        subst this
        rw [hz] at hj
        cases hj
        exact hzx
/-- One moved up: the hole is one further left. -/
theorem hole_step {l : List Int} {k : Nat} {h y : Int} (hy : l[k]? = some y) : (l.take (k + 1) ++ h :: l.drop (k + 1)).set (k + 1) y = l.take k ++ y :: l.drop k := by
  have hk := (List.getElem?_eq_some_iff.1 hy).1
  rw [List.set_append_right _ _ (by rw [List.length_take]; omega), List.length_take, Nat.min_eq_left (by omega), Nat.sub_self, List.take_succ_eq_append_getElem hk, (List.getElem?_eq_some_iff.1 hy).2, List.drop_eq_getElem_cons hk, (List.getElem?_eq_some_iff.1 hy).2]
  simp
theorem hole_end {l : List Int} {k : Nat} {h x : Int} (hk : k ≤ l.length) : (l.take k ++ h :: l.drop k).set k x = insAt l k x := by
  rw [List.set_append_right _ _ (by rw [List.length_take]; omega), List.length_take, Nat.min_eq_left hk, Nat.sub_self]
  rfl
end Go.Proofs.Ytckkkdldljhehaa.Sw
