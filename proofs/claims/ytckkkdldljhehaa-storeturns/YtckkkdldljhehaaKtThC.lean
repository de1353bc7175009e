/- The things of a store's tables as a plain list that rises by number; when a store is good, in the words of ThingsOf of package ninepinsref. No program. -/
import Derived.Test.YtckkkdldljhehaaPkC
import Derived.Test.YtckkkdldljhehaaKtMpA
namespace Go.Proofs.Ytckkkdldljhehaa.Th
open Go.Proofs.Ytckkkdldljhehaa.Num Go.Proofs.Ytckkkdldljhehaa.St Go.Proofs.Ytckkkdldljhehaa.Mp
open Go.ChangeShapes Go.WideShapes Go.ChangeAt Go.RowKit

def prT (t : Tab) : Mth := (t.ids.zip t.rows).map (fun p => (p.1, (⟨t.mask, p.2⟩ : Th)))
def prs (L : List Tab) : Mth := L.flatMap prT
def ofP (ps : Mth) : Mth := ps.foldl (fun M p => putM p.1 p.2 M) []
/-- The things of tables. -/
def thM (L : List Tab) : Mth := ofP (prs L)
theorem snoc_ind {α : Type} {P : List α → Prop} (h0 : P []) (h1 : ∀ l a, P l → P (l ++ [a])) : ∀ l, P l := by
  intro l
  rw [← List.reverse_reverse l]
  induction l.reverse with
  | nil => exact h0
  | cons a r ih => rw [List.reverse_cons]; exact h1 _ _ ih
theorem ofP_snoc (ps : Mth) (p : Int × Th) : ofP (ps ++ [p]) = putM p.1 p.2 (ofP ps) := by simp [ofP]
theorem ofP_up (ps : Mth) : Up (ofP ps) := by
  induction ps using snoc_ind with
  | h0 => exact up_nil
  | h1 l a ih => rw [ofP_snoc]; exact ih.put _ _
theorem ofP_has (ps : Mth) (k : Int) : (getM k (ofP ps)).isSome = decide (k ∈ ps.map (·.1)) := by
  induction ps using snoc_ind with
  | h0 => simp [ofP, getM_nil]
  | h1 l a ih =>
    rw [ofP_snoc, getM_put (ofP_up _), List.map_append]
    by_cases h : k = a.1
    · simp [h]
    · rw [if_neg h, ih]
      simp [h]
theorem ofP_get {ps : Mth} (hn : (ps.map (·.1)).Nodup) {k : Int} {t : Th} : getM k (ofP ps) = some t ↔ (k, t) ∈ ps := by
  induction ps using snoc_ind with
  | h0 => simp [ofP, getM_nil]
  | h1 l a ih =>
    rw [List.map_append, List.nodup_append] at hn
    rw [ofP_snoc, getM_put (ofP_up _), List.mem_append]
    by_cases h : k = a.1
    · rw [if_pos h]
      constructor
      · intro e
        cases e
        refine Or.inr ?_
        rw [h]
        exact List.mem_singleton.2 rfl
      · rintro (e | e)
        · exact absurd h (hn.2.2 k (List.mem_map.2 ⟨_, e, rfl⟩) a.1 (by simp))
        · rw [List.mem_singleton] at e
          rw [← e]
    · rw [if_neg h, ih hn.1]
      constructor
      · exact Or.inl
      · rintro (e | e)
        · exact e
        · rw [List.mem_singleton] at e
          exact absurd (by rw [← e]) h
theorem ofP_len {ps : Mth} (hn : (ps.map (·.1)).Nodup) : (ofP ps).length = ps.length := by
  induction ps using snoc_ind with
  | h0 => rfl
  | h1 l a ih =>
    rw [List.map_append, List.nodup_append] at hn
    have hno : (getM a.1 (ofP l)).isSome = false := by
      rw [ofP_has]
      simp only [decide_eq_false_iff_not]
      intro h
      exact hn.2.2 _ h a.1 (by simp) rfl
    rw [ofP_snoc, putM_len _ _ (ofP_up _), hno, ih hn.1]
    simp
theorem mem_prT {tb : Tab} {k : Int} {t : Th} : (k, t) ∈ prT tb ↔ tb.mask = t.m ∧ ∃ j : Nat, tb.ids[j]? = some k ∧ tb.rows[j]? = some t.r := by
  unfold prT
  rw [List.mem_map]
  constructor
  · rintro ⟨p, hp, e⟩
    cases e
    obtain ⟨j, hj⟩ := List.getElem?_of_mem hp
    rw [List.getElem?_zip_eq_some] at hj
    exact ⟨rfl, j, hj.1, hj.2⟩
  · rintro ⟨h1, j, h2, h3⟩
    refine ⟨(k, t.r), List.mem_of_getElem? (i := j) ?_, ?_⟩
    · rw [List.getElem?_zip_eq_some]; exact ⟨h2, h3⟩
    · rw [h1]
theorem mem_prs {L : List Tab} {k : Int} {t : Th} : (k, t) ∈ prs L ↔ At L k t.m t.r := by
  unfold prs At
  rw [List.mem_flatMap]
  constructor
  · rintro ⟨tb, h1, h2⟩
    obtain ⟨h3, h4⟩ := mem_prT.1 h2
    exact ⟨tb, h1, h3, h4⟩
  · rintro ⟨tb, h1, h3, h4⟩
    exact ⟨tb, h1, mem_prT.2 ⟨h3, h4⟩⟩
theorem keys_prT {tb : Tab} (h : tb.ids.length = tb.rows.length) : (prT tb).map (·.1) = tb.ids := by
  unfold prT
  rw [List.map_map]
  exact List.map_fst_zip (Nat.le_of_eq h)
theorem keys_prs {L : List Tab} (he : Even L) : (prs L).map (·.1) = allL L := by
  induction L with
  | nil => rfl
  | cons t L ih =>
    have h1 := he t (List.mem_cons_self ..)
    have h2 := ih (fun x hx => he x (List.mem_cons_of_mem _ hx))
    simp only [prs, List.flatMap_cons, List.map_append, allL] at h2 ⊢
    rw [h2, keys_prT h1]
theorem thM_up (L : List Tab) : Up (thM L) := ofP_up _
theorem thM_get {L : List Tab} (he : Even L) (hn : (allL L).Nodup) {k : Int} {t : Th} : getM k (thM L) = some t ↔ At L k t.m t.r := by
  rw [thM, ofP_get (by rw [keys_prs he]; exact hn), mem_prs]
theorem thM_has {L : List Tab} (he : Even L) (k : Int) : (getM k (thM L)).isSome = decide (k ∈ allL L) := by
  rw [thM, ofP_has, keys_prs he]
theorem thM_none {L : List Tab} (he : Even L) {k : Int} : getM k (thM L) = none ↔ k ∉ allL L := by
  have := thM_has he k
  cases h : getM k (thM L) <;> rw [h] at this <;> simp at this ⊢ <;> exact this
theorem thM_len {L : List Tab} (he : Even L) (hn : (allL L).Nodup) : (thM L).length = (allL L).length := by
  rw [thM, ofP_len (by rw [keys_prs he]; exact hn), ← keys_prs he, List.length_map]
/-- Tables that hold the same things give one list. -/
theorem thM_ext {L : List Tab} {M : Mth} (he : Even L) (hn : (allL L).Nodup) (hu : Up M) (h : ∀ k t, getM k M = some t ↔ At L k t.m t.r) : thM L = M :=
  (thM_up L).ext hu (fun k => option_ext (fun t => by rw [thM_get he hn, h]))

/-! ### as the walk meets them -/
variable {T : Nat → TabV} {I : Nat → Nat → Int} {R : Nat → Nat → R8}
def psTo (T : Nat → TabV) (I : Nat → Nat → Int) (R : Nat → Nat → R8) (k j : Nat) : Mth := prs (plainOf T I R k) ++ (List.range j).map (fun q => (I k q, (⟨(T k).mask, R k q⟩ : Th)))
theorem plainOf_succ (k : Nat) : plainOf T I R (k + 1) = plainOf T I R k ++ [tabOf T I R k] := by simp [plainOf, List.range_succ]
theorem psTo_zero (k : Nat) : psTo T I R k 0 = prs (plainOf T I R k) := by simp [psTo]
theorem psTo_succ (k j : Nat) : psTo T I R k (j + 1) = psTo T I R k j ++ [(I k j, ⟨(T k).mask, R k j⟩)] := by simp [psTo, List.range_succ]
theorem psTo_end {k : Nat} (h : (T k).il = (T k).rl) : psTo T I R k (T k).il = prs (plainOf T I R (k + 1)) := by
  rw [plainOf_succ]
  unfold psTo prs
  rw [List.flatMap_append]
  congr 1
  simp only [List.flatMap_cons, List.flatMap_nil, List.append_nil, prT, tabOf]
  rw [← h]
  apply List.ext_getElem?
  intro i
  by_cases hi : i < (T k).il
  · simp [hi]
  · simp [hi]
theorem prs_pre {k n : Nat} (h : k ≤ n) : ∃ r, prs (plainOf T I R n) = prs (plainOf T I R k) ++ r := by
  obtain ⟨d, rfl⟩ := Nat.exists_eq_add_of_le h
  clear h
  induction d with
  | zero => exact ⟨[], by simp⟩
  | succ d ih =>
    obtain ⟨r, hr⟩ := ih
    refine ⟨r ++ prT (tabOf T I R (k + d)), ?_⟩
    rw [← Nat.add_assoc, plainOf_succ]
    unfold prs at *
    rw [List.flatMap_append, hr]
    simp
theorem psTo_pre {k j : Nat} (hj : j ≤ (T k).il) (h : (T k).il = (T k).rl) : ∃ r, prs (plainOf T I R (k + 1)) = psTo T I R k j ++ r := by
  rw [← psTo_end h]
  unfold psTo
  obtain ⟨d, hd⟩ := Nat.exists_eq_add_of_le hj
  rw [hd]
  refine ⟨(List.range' j d).map (fun q => (I k q, (⟨(T k).mask, R k q⟩ : Th))), ?_⟩
  rw [List.append_assoc, ← List.map_append, List.range_eq_range', List.range_eq_range']
  congr 2
  have := List.range'_append (s := 0) (m := j) (n := d) (step := 1)
  simpa using this.symm
theorem tabsTo_iff {next : Int} (n : Nat) : TabsTo next T I R n ↔ ((∀ t ∈ plainOf T I R n, 0 < t.mask) ∧ (plainOf T I R n).Pairwise (fun a b => a.mask < b.mask)) ∧ ∀ t ∈ plainOf T I R n, GoodT next t := by
  rw [← lastM_pair (T := T) (I := I) (R := R) n]
  constructor
  · intro h
    refine ⟨fun i hi => (h i hi).1, fun t ht => ?_⟩
    obtain ⟨i, hi, rfl⟩ := mem_plain.1 ht
    exact (goodTab_iff i).1 (h i hi).2
  · rintro ⟨h1, h2⟩ i hi
    exact ⟨h1 i hi, (goodTab_iff i).2 (h2 _ (mem_plain.2 ⟨i, hi, rfl⟩))⟩
theorem tabsTo_even {next : Int} {n : Nat} (h : TabsTo next T I R n) : Even (plainOf T I R n) := fun t ht => (((tabsTo_iff n).1 h).2 t ht).2.1
theorem goodL_iff {next : Int} {n : Nat} : GoodL next (plainOf T I R n) ↔ btw next 0 1048576 = true ∧ (allL (plainOf T I R n)).length ≤ 10 ∧ TabsTo next T I R n ∧ (allL (plainOf T I R n)).Nodup := by
  unfold GoodL
  rw [tabsTo_iff]
  constructor
  · rintro ⟨h1, h2, h3, h4, h5, h6⟩; exact ⟨h1, h2, ⟨⟨h3, h4⟩, h5⟩, h6⟩
  · rintro ⟨h1, h2, ⟨⟨h3, h4⟩, h5⟩, h6⟩; exact ⟨h1, h2, h3, h4, h5, h6⟩
/-- 'Next - 1' as 64 bits hold it. -/
def nxW (next : Int) : Int := wrap64 (next - 1)
theorem nxW_eq {next : Int} (h : btw next 0 1048576 = true) : nxW next + 1 = next := by
  simp [btw] at h
  unfold nxW wrap64
  omega
theorem bad_tab {next : Int} {n k : Nat} (hk : k < n) (h : ¬ (lastM T k < (T k).mask ∧ GoodTab (T k).mask (nxW next + 1) (T k).il (T k).rl (I k) (R k))) : ¬ GoodL next (plainOf T I R n) := by
  intro hg
  obtain ⟨h1, _, h3, _⟩ := goodL_iff.1 hg
  have := h3 k hk
  rw [← nxW_eq h1] at this
  rw [nxW_eq h1] at this
  rw [nxW_eq h1] at h
  exact h this
theorem bad_twice {next : Int} {n k j : Nat} (hk : k < n) (hj : j < (T k).il) (h : I k j ∈ (psTo T I R k j).map (·.1)) : ¬ GoodL next (plainOf T I R n) := by
  intro hg
  obtain ⟨h1, _, h3, h4⟩ := goodL_iff.1 hg
  have hev := (h3 k hk).2.2.1
  obtain ⟨r1, e1⟩ := psTo_pre (T := T) (I := I) (R := R) (k := k) (j := j + 1) (by omega) hev
  obtain ⟨r2, e2⟩ := prs_pre (T := T) (I := I) (R := R) (k := k + 1) (n := n) (by omega)
  rw [← keys_prs (tabsTo_even h3), e2, e1, psTo_succ, List.append_assoc, List.append_assoc, List.map_append, List.nodup_append] at h4
  exact h4.2.2 _ h (I k j) (by simp) rfl
theorem psTo_len {next : Int} {k j : Nat} (h : TabsTo next T I R k) (hz : ∀ i, i < k → (T i).il ≤ 140737488355328) : (psTo T I R k j).length ≤ 4362862139015168 + j := by
  have h1 := tabsTo_len h hz
  rw [allIds_eq T I R k, List.length_reverse, ← keys_prs (tabsTo_even h), List.length_map] at h1
  unfold psTo
  rw [List.length_append, List.length_map, List.length_range]
  omega
theorem ofP_le (ps : Mth) : (ofP ps).length ≤ ps.length := by
  induction ps using snoc_ind with
  | h0 => simp [ofP]
  | h1 l a ih =>
    rw [ofP_snoc, putM_len _ _ (ofP_up _), List.length_append]
    split <;> simp <;> omega
end Go.Proofs.Ytckkkdldljhehaa.Th
