/- A pair put into its place among sorted ones: what PairsOf of package ninepinsref does, as plain lists. No program. -/
import Derived.Test.YtckkkdldljhehaaKtSwTo
namespace Go.Proofs.Ytckkkdldljhehaa.Sw
open Go.Sort Go.Shelf Go.Lib

theorem hole_stepP {α : Type} {l : List α} {k : Nat} {h y : α} (hy : l[k]? = some y) : (l.take (k + 1) ++ h :: l.drop (k + 1)).set (k + 1) y = l.take k ++ y :: l.drop k := by
  have hk := (List.getElem?_eq_some_iff.1 hy).1
  rw [List.set_append_right _ _ (by rw [List.length_take]; omega), List.length_take, Nat.min_eq_left (by omega), Nat.sub_self, List.take_succ_eq_append_getElem hk, (List.getElem?_eq_some_iff.1 hy).2, List.drop_eq_getElem_cons hk, (List.getElem?_eq_some_iff.1 hy).2]
  simp
theorem hole_endP {α : Type} {l : List α} {k : Nat} {h x : α} (hk : k ≤ l.length) : (l.take k ++ h :: l.drop k).set k x = l.take k ++ x :: l.drop k := by
  rw [List.set_append_right _ _ (by rw [List.length_take]; omega), List.length_take, Nat.min_eq_left hk, Nat.sub_self]
  rfl
theorem leP_total (a b : Int × Int) : leP a b ∨ leP b a := by unfold leP; omega
theorem leP_trans {a b c : Int × Int} (h1 : leP a b) (h2 : leP b c) : leP a c := by unfold leP at *; omega
theorem sortP_sorted (l : List (Int × Int)) : (sortP l).Pairwise leP := by
  have key : ∀ x y : Int × Int, (!(ltOf cmpP) y x) = true ↔ leP x y := by
    intro x y
    have h := cmpP_lt y x
    unfold ltOf
    unfold leP
    rw [Bool.not_eq_true', h, decide_eq_false_iff_not]
    omega
  unfold sortP
  have h := List.pairwise_mergeSort (le := fun x y : Int × Int => !(ltOf cmpP) y x) (fun a b c h1 h2 => (key a c).2 (leP_trans ((key a b).1 h1) ((key b c).1 h2))) (fun a b => by
    rw [Bool.or_eq_true]
    exact (leP_total a b).imp (fun h => (key a b).2 h) (fun h => (key b a).2 h)) l
  exact h.imp (fun {a b} h => (key a b).1 h)
theorem insP_here {l0 l : List (Int × Int)} {k : Nat} {x : Int × Int} (hl : l = sortP l0) (h1 : k = 0 ∨ ∃ y, l[k - 1]? = some y ∧ leP y x) (h2 : ∀ y ∈ l.drop k, ¬ leP y x) : l.take k ++ x :: l.drop k = sortP (l0 ++ [x]) := by
  have hs : l.Pairwise leP := by rw [hl]; exact sortP_sorted l0
  have hp : (l.take k ++ l.drop k).Pairwise leP := by rw [List.take_append_drop]; exact hs
  refine sorted_unique ?_ ?_ (sortP_sorted _)
  · refine (List.perm_middle.trans ?_).trans (sortP_perm _).symm
    rw [List.take_append_drop, hl]
    refine ((List.perm_append_singleton x (sortP l0)).symm).trans ?_
    exact List.Perm.append (sortP_perm _) (List.Perm.refl _)
  · rw [List.pairwise_append] at hp ⊢
    have hle : ∀ y ∈ l.take k, leP y x := by
      intro y hy
      rcases h1 with h1 | ⟨z, hz, hzx⟩
      · subst h1; simp at hy
      · obtain ⟨j, hj⟩ := List.getElem?_of_mem hy
        have hjl : j < k := by have := (List.getElem?_eq_some_iff.1 hj).1; rw [List.length_take] at this; omega
        rw [List.getElem?_take_of_lt hjl] at hj
        have e1 := List.getElem?_eq_some_iff.1 hj
        have e2 := List.getElem?_eq_some_iff.1 hz
        rcases Nat.lt_or_ge j (k - 1) with h3 | h3
        · have := List.pairwise_iff_getElem.1 hs j (k - 1) e1.1 e2.1 h3
          rw [e1.2, e2.2] at this
          exact leP_trans this hzx
        · have : j = k - 1 := by omega
          subst this
          rw [hz] at hj
          cases hj
          exact hzx
    refine ⟨hp.1, List.pairwise_cons.2 ⟨fun y hy => (leP_total x y).resolve_right (h2 y hy), hp.2.1⟩, fun a ha c hc => ?_⟩
    rcases List.mem_cons.1 hc with rfl | hc
    · exact hle a ha
    · exact hp.2.2 a ha c hc
/-- One more that is met, or is not. -/
theorem sw_met {l : List B5} {k : Nat} {x b : B5} (hx : l[k]? = some x) : sw (l.take (k + 1)) b = sw (l.take k) b ++ (if meetB x b then [pr x b] else []) := by
  have hlt := (List.getElem?_eq_some_iff.1 hx).1
  rw [List.take_succ_eq_append_getElem hlt, (List.getElem?_eq_some_iff.1 hx).2]
  unfold sw
  cases h : meetB x b <;> simp [h]
theorem pairs_next {l : List B5} {k : Nat} {x : B5} (hx : l[k]? = some x) : pairsOf (l.take (k + 1)) = pairsOf (l.take k) ++ sw (l.take k) x := by
  have hlt := (List.getElem?_eq_some_iff.1 hx).1
  rw [List.take_succ_eq_append_getElem hlt, (List.getElem?_eq_some_iff.1 hx).2, pairsOf_snoc]
end Go.Proofs.Ytckkkdldljhehaa.Sw
