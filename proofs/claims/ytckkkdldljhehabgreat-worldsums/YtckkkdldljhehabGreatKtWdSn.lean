/- The rows of all that moves, table by table, and their pushes together. Plain lists, no walk. -/
import Derived.Test.YtckkkdldljhehabGreatKtWdSm
import Derived.Test.YtckkkdldljhehabGreatPkG
namespace Go.Proofs.YtckkkdldljhehabGreat.Wd
open Go.Proofs.YtckkkdldljhehabGreat.Num Go.Proofs.YtckkkdldljhehabGreat.St

def movR (L : List Tab) : List R8 := L.flatMap fun t => if hasB t.mask 11 then t.rows else []
theorem mov_with (L : List Tab) (g : Int → R8) : movR (withRows L g) = (gathR 11 L).map g := by
  induction L with
  | nil => rfl
  | cons t L ih =>
    simp only [movR, withRows, gathR, List.map_cons, List.flatMap_cons, List.map_append] at ih ⊢
    rw [ih]
    split <;> simp
def sumP (f : R8 → Int) (l : List R8) : Int := (l.map f).sum
theorem perm_sum {l l' : List Int} (h : l.Perm l') : l.sum = l'.sum := by
  induction h with
  | nil => rfl
  | cons x _ ih => simp [ih]
  | swap x y l => simp; omega
  | trans _ _ h1 h2 => exact h1.trans h2
theorem sum_mov {L : List Tab} (g : Int → R8) (f : R8 → Int) : sumP f (movR (withRows L g)) = sumOver (fun v => f (g v)) (idsOf 11 L) := by
  unfold sumP sumOver idsOf
  rw [mov_with, List.map_map]
  exact (perm_sum ((List.mergeSort_perm _ _).map _)).symm
theorem sumP_snoc (f : R8 → Int) (l : List R8) (r : R8) : sumP f (l ++ [r]) = sumP f l + f r := by simp [sumP]
theorem sumP_le {f : R8 → Int} {l : List R8} {k : Int} (hk : 0 ≤ k) (h : ∀ r ∈ l, -k ≤ f r ∧ f r ≤ k) (hl : l.length ≤ 10) : -(10 * k) ≤ sumP f l ∧ sumP f l ≤ 10 * k := by
  have key : ∀ l : List R8, (∀ r ∈ l, -k ≤ f r ∧ f r ≤ k) → -((l.length : Int) * k) ≤ sumP f l ∧ sumP f l ≤ (l.length : Int) * k := by
    intro l
    induction l with
    | nil => intro _; simp [sumP]
    | cons r l ih =>
      intro h
      have h1 := h r (List.mem_cons_self ..)
      have h2 := ih (fun q hq => h q (List.mem_cons_of_mem _ hq))
      have e : sumP f (r :: l) = f r + sumP f l := by simp [sumP]
      have e2 : (((r :: l).length : Nat) : Int) * k = (l.length : Int) * k + k := by simp [Int.add_mul]
      rw [e, e2]
      omega
  have h1 := key l h
  have h2 : (l.length : Int) * k ≤ 10 * k := Int.mul_le_mul_of_nonneg_right (by omega) hk
  omega
/-- The rows of all that moves of the first tables, and of the first rows of one more. -/
def movTo (T : Nat → TabV) (I : Nat → Nat → Int) (R : Nat → Nat → R8) (k j : Nat) : List R8 := movR (plainOf T I R k) ++ (if hasB (T k).mask 11 then (List.range j).map (R k) else [])
theorem movTo_zero (T : Nat → TabV) (I : Nat → Nat → Int) (R : Nat → Nat → R8) (k : Nat) : movTo T I R k 0 = movR (plainOf T I R k) := by
  unfold movTo
  split <;> simp
theorem movTo_snoc {T : Nat → TabV} {I : Nat → Nat → Int} {R : Nat → Nat → R8} {k : Nat} (h : hasB (T k).mask 11 = true) (j : Nat) : movTo T I R k (j + 1) = movTo T I R k j ++ [R k j] := by
  unfold movTo
  rw [if_pos h, if_pos h, List.range_succ, List.map_append, List.append_assoc]
  rfl
theorem movTo_same {T : Nat → TabV} {I : Nat → Nat → Int} {R : Nat → Nat → R8} {k : Nat} (h : hasB (T k).mask 11 = false) (j : Nat) : movTo T I R k (j + 1) = movTo T I R k j := by
  unfold movTo
  rw [if_neg (by simp [h]), if_neg (by simp [h])]
theorem plain_succ (T : Nat → TabV) (I : Nat → Nat → Int) (R : Nat → Nat → R8) (k : Nat) : plainOf T I R (k + 1) = plainOf T I R k ++ [tabOf T I R k] := by simp [plainOf, List.range_succ]
theorem movTo_full (T : Nat → TabV) (I : Nat → Nat → Int) (R : Nat → Nat → R8) (k : Nat) : movTo T I R k (T k).rl = movR (plainOf T I R (k + 1)) := by
  rw [plain_succ]
  simp only [movTo, movR, List.flatMap_append, List.flatMap_cons, List.flatMap_nil, List.append_nil, tabOf]
theorem mov_sub {T : Nat → TabV} {I : Nat → Nat → Int} {R : Nat → Nat → R8} {k n : Nat} (h : k ≤ n) : (movR (plainOf T I R k)).Sublist (movR (plainOf T I R n)) := by
  induction n with
  | zero => have : k = 0 := by omega
            subst this; exact List.Sublist.refl _
  | succ n ih =>
    by_cases e : k = n + 1
    · subst e; exact List.Sublist.refl _
    · refine (ih (by omega)).trans ?_
      rw [plain_succ]
      simp only [movR, List.flatMap_append]
      exact List.sublist_append_left _ _
theorem movTo_sub {T : Nat → TabV} {I : Nat → Nat → Int} {R : Nat → Nat → R8} {k n j : Nat} (h : k < n) (hj : j ≤ (T k).rl) : (movTo T I R k j).Sublist (movR (plainOf T I R n)) := by
  refine List.Sublist.trans ?_ (mov_sub (T := T) (I := I) (R := R) (show k + 1 ≤ n by omega))
  rw [← movTo_full]
  unfold movTo
  refine List.Sublist.append (List.Sublist.refl _) ?_
  split
  · refine List.Sublist.map _ ?_
    rw [List.range_eq_range', List.range_eq_range']
    exact List.range'_sublist_right.2 hj
  · exact List.nil_sublist _
theorem mov_len {next : Int} {L : List Tab} (hg : GoodL next L) : (movR L).length ≤ 10 := by
  have key : ∀ L : List Tab, Even L → (movR L).length ≤ (allL L).length := by
    intro L
    induction L with
    | nil => intro _; simp [movR]
    | cons t L ih =>
      intro he
      have h1 := ih (fun t ht => he t (List.mem_cons_of_mem _ ht))
      have h2 := he t (List.mem_cons_self ..)
      simp only [movR, allL, List.flatMap_cons, List.length_append] at h1 ⊢
      split
      · omega
      · rw [List.length_nil]; omega
  exact Nat.le_trans (key L hg.even) hg.2.1
theorem mov_bound {next : Int} {L : List Tab} (hg : GoodL next L) {r : R8} (h : r ∈ movR L) : (-16777216 ≤ r.px ∧ r.px ≤ 16777216) ∧ (-16777216 ≤ r.py ∧ r.py ≤ 16777216) := by
  obtain ⟨t, ht, hr⟩ := List.mem_flatMap.1 h
  split at hr
  · have := row_bounds ((hg.2.2.2.2.1 t ht).2.2.2 r hr)
    exact ⟨this.2.2.1, this.2.2.2.1⟩
  · cases hr
/-- All sums on the way are small. -/
theorem movTo_le {next : Int} {T : Nat → TabV} {I : Nat → Nat → Int} {R : Nat → Nat → R8} {k n j : Nat} (hg : GoodL next (plainOf T I R n)) (h : k < n) (hj : j ≤ (T k).rl) :
    (-167772160 ≤ sumP (·.px) (movTo T I R k j) ∧ sumP (·.px) (movTo T I R k j) ≤ 167772160) ∧ (-167772160 ≤ sumP (·.py) (movTo T I R k j) ∧ sumP (·.py) (movTo T I R k j) ≤ 167772160) := by
  have hs := movTo_sub (I := I) (R := R) h hj
  have hl := Nat.le_trans hs.length_le (mov_len hg)
  have h1 := sumP_le (f := (·.px)) (k := 16777216) (by omega) (fun r hr => (mov_bound hg (hs.subset hr)).1) hl
  have h2 := sumP_le (f := (·.py)) (k := 16777216) (by omega) (fun r hr => (mov_bound hg (hs.subset hr)).2) hl
  omega
/-- A row of a world in which nothing falls, and nothing is fixed or near an edge. -/
def FreeRow (wide high m : Int) (r : R8) : Prop := (hasB m 11 = false → hasB m 4 = false) ∧ hasB m 16 = false ∧ CalmP r ∧ (hasB m 11 = true → (110000 ≤ r.x ∧ r.x ≤ wide - 110000) ∧ (110000 ≤ r.y ∧ r.y ≤ high - 110000))
theorem free_of {T : Nat → TabV} {I : Nat → Nat → Int} {R : Nat → Nat → R8} {n : Nat} {wide high : Int} (h : ∀ i, i < n → ∀ j, j < (T i).rl → FreeRow wide high (T i).mask (R i j)) : Free (plainOf T I R n) wide high := by
  rintro v m r ⟨t, ht, rfl, j, h1, h2⟩
  obtain ⟨i, hi, rfl⟩ := mem_plain.1 ht
  have hj := (List.getElem?_eq_some_iff.1 h2).1
  simp [tabOf] at hj
  simp [tabOf, hj] at h2
  rw [← h2]
  exact h i hi j hj
theorem bit4 {m : Int} (hm : 1 ≤ m ∧ m ≤ 31) : (bits .and .i64 m 4 != 0) = hasB m 4 := by
  have key : ∀ k : Fin 32, (bits .and .i64 (k.val : Int) 4 != 0) = hasB (k.val : Int) 4 := by decide
  have e : m = ((⟨m.toNat, by omega⟩ : Fin 32).val : Int) := by simp; omega
  rw [e]
  exact key _
theorem bit16 {m : Int} (hm : 1 ≤ m ∧ m ≤ 31) : (bits .and .i64 m 16 != 0) = hasB m 16 := by
  have key : ∀ k : Fin 32, (bits .and .i64 (k.val : Int) 16 != 0) = hasB (k.val : Int) 16 := by decide
  have e : m = ((⟨m.toNat, by omega⟩ : Fin 32).val : Int) := by simp; omega
  rw [e]
  exact key _
end Go.Proofs.YtckkkdldljhehabGreat.Wd
