/- A list of tables out of which a thing is taken, and into which one is put: who is there, that it stays good. Plain lists, no program. -/
import Derived.Test.YtckkkdldljhehaaPkC
namespace Go.Proofs.Ytckkkdldljhehaa.St
open Go.Proofs.Ytckkkdldljhehaa.Num

/-- A table without one of its things. -/
def cutT (j k : Nat) (id : Int) (r : R8) (t : Tab) : Tab := ⟨t.mask, (t.ids.set j id).take k, (t.rows.set j r).take k⟩
/-- Tables without the thing at j of the table behind A, which has k others. -/
def takeL (A C : List Tab) (t : Tab) (j k : Nat) (lst : Int) (r : R8) : List Tab := if k = 0 then A ++ C else A ++ cutT j k lst r t :: C

theorem cut_at {ids : List Int} {rows : List R8} {j k : Nat} (hi : ids.length = k + 1) (hr : rows.length = k + 1) (hj : j ≤ k) {id lst : Int} {r : R8} (h1 : ids[j]? = some id) (h2 : ids[k]? = some lst) (h3 : rows[k]? = some r) {v : Int} (hv : v ≠ id) (q : R8) :
    (∃ p : Nat, ids[p]? = some v ∧ rows[p]? = some q) ↔ ∃ p : Nat, ((ids.set j lst).take k)[p]? = some v ∧ ((rows.set j r).take k)[p]? = some q := by
  constructor
  · rintro ⟨p, a, b⟩
    have hp : p < k + 1 := by rw [← hi]; exact (List.getElem?_eq_some_iff.1 a).1
    have hpj : p ≠ j := fun e => by rw [e, h1] at a; exact hv (Option.some.inj a).symm
    by_cases hpk : p = k
    · subst hpk
      refine ⟨j, ?_, ?_⟩
      · rw [List.getElem?_take, if_pos (by omega), List.getElem?_set, if_pos rfl, if_pos (by omega), ← a, h2]
      · rw [List.getElem?_take, if_pos (by omega), List.getElem?_set, if_pos rfl, if_pos (by omega), ← b, h3]
    · refine ⟨p, ?_, ?_⟩
      · rw [List.getElem?_take, if_pos (by omega), List.getElem?_set, if_neg (Ne.symm hpj)]; exact a
      · rw [List.getElem?_take, if_pos (by omega), List.getElem?_set, if_neg (Ne.symm hpj)]; exact b
  · rintro ⟨p, a, b⟩
    have hp : p < k := by
      have := (List.getElem?_eq_some_iff.1 a).1
      rw [List.length_take] at this
      omega
    rw [List.getElem?_take, if_pos hp, List.getElem?_set] at a b
    by_cases hpj : j = p
    · rw [if_pos hpj, if_pos (by omega)] at a b
      exact ⟨k, by rw [h2]; exact a, by rw [h3]; exact b⟩
    · rw [if_neg hpj] at a b
      exact ⟨p, a, b⟩

theorem cut_perm {ids : List Int} {j k : Nat} (hi : ids.length = k + 1) (hj : j ≤ k) {id lst : Int} (h1 : ids[j]? = some id) (h2 : ids[k]? = some lst) : (id :: (ids.set j lst).take k).Perm ids := by
  have hlast : ids = ids.take k ++ [lst] := by
    have e := List.take_append_drop k ids
    rw [List.drop_eq_getElem_cons (by omega), (List.getElem?_eq_some_iff.1 h2).2, List.drop_eq_nil_of_le (by omega)] at e
    exact e.symm
  have hl : (ids.take k).length = k := by rw [List.length_take]; omega
  by_cases hjk : j = k
  · subst hjk
    have : id = lst := by rw [h1] at h2; exact Option.some.inj h2
    subst this
    have e : (ids.set j id).take j = ids.take j := by
      apply List.ext_getElem?
      intro p
      rw [List.getElem?_take, List.getElem?_take]
      by_cases hp : p < j
      · rw [if_pos hp, if_pos hp, List.getElem?_set, if_neg (by omega)]
      · rw [if_neg hp, if_neg hp]
    rw [e]
    conv => rhs; rw [hlast]
    exact (List.perm_append_singleton id (ids.take j)).symm
  · have hlt : j < k := by omega
    have hsp : ids.take k = (ids.take k).take j ++ id :: (ids.take k).drop (j + 1) := by
      have e := List.take_append_drop j (ids.take k)
      rw [List.drop_eq_getElem_cons (by omega)] at e
      have : (ids.take k)[j]'(by omega) = id := by
        have := (List.getElem?_eq_some_iff.1 h1).2
        simpa using this
      rw [this] at e
      exact e.symm
    have hset : (ids.set j lst).take k = (ids.take k).take j ++ lst :: (ids.take k).drop (j + 1) := by
      have e1 : (ids.set j lst).take k = (ids.take k).set j lst := by
        apply List.ext_getElem?
        intro p
        rw [List.getElem?_take, List.getElem?_set, List.getElem?_set, List.getElem?_take, hl]
        by_cases hp : p < k
        · rw [if_pos hp, if_pos hp]
          by_cases hq : j = p
          · rw [if_pos hq, if_pos hq, if_pos (by omega), if_pos (by omega)]
          · rw [if_neg hq, if_neg hq]
        · rw [if_neg hp, if_neg hp, if_neg (by omega)]
      rw [e1]
      conv => lhs; rw [hsp]
      rw [List.set_append_right _ _ (by rw [List.length_take]; omega)]
      simp [List.length_take, hl, Nat.min_eq_left (by omega : j ≤ k)]
    rw [hset]
    conv => rhs; rw [hlast, hsp]
    generalize (ids.take k).take j = P
    generalize (ids.take k).drop (j + 1) = Q
    calc (id :: (P ++ lst :: Q)).Perm (id :: (lst :: (P ++ Q))) := List.Perm.cons _ List.perm_middle
      _ |>.Perm (lst :: (id :: (P ++ Q))) := List.Perm.swap _ _ _
      _ |>.Perm (lst :: (P ++ id :: Q)) := List.Perm.cons _ List.perm_middle.symm
      _ |>.Perm (P ++ id :: Q ++ [lst]) := (List.perm_append_singleton lst _).symm
end Go.Proofs.Ytckkkdldljhehaa.St
