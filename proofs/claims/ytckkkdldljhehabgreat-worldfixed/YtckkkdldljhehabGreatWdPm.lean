/- A world's step as plain tables: what it keeps of each row, that what does not move stays, that it does not hang on the order in tables, that what moves ends within the world. Plain lists, no program. -/
import Derived.Test.YtckkkdldljhehabGreatWdPl
namespace Go.Proofs.YtckkkdldljhehabGreat.Wd
open Go.Proofs.YtckkkdldljhehabGreat.Num Go.Proofs.YtckkkdldljhehabGreat.St

theorem putG_other {M : Int → Int} {g : Int → R8} {id v : Int} {r : R8} (h : v ≠ id ∨ hasB (M v) 11 = false) : putG M g id r v = g v := by
  unfold putG
  split
  · rename_i hb
    simp only [Bool.and_eq_true] at hb
    unfold upd
    split
    · rename_i e
      subst e
      rcases h with h | h
      · exact absurd rfl h
      · rw [h] at hb; exact absurd hb.1 (by simp)
    · rfl
  · rfl
theorem putG_at {M : Int → Int} {g : Int → R8} {id : Int} {r : R8} : putG M g id r id = if hasB (M id) 11 && goodRowB (M id) r then r else g id := by
  unfold putG
  split
  · simp [upd]
  · rfl
/-- What is kept of rows: what does not move is as it was; shapes and masses are. -/
def Keep (M : Int → Int) (g g' : Int → R8) : Prop := ∀ v, (hasB (M v) 11 = false → g' v = g v) ∧ (g' v).wd = (g v).wd ∧ (g' v).ht = (g v).ht ∧ (g' v).ms = (g v).ms ∧ (g' v).rr = (g v).rr
theorem Keep.refl (M : Int → Int) (g : Int → R8) : Keep M g g := fun _ => ⟨fun _ => rfl, rfl, rfl, rfl, rfl⟩
theorem Keep.trans {M : Int → Int} {g g' g'' : Int → R8} (h : Keep M g g') (h' : Keep M g' g'') : Keep M g g'' := fun v =>
  ⟨fun hm => ((h' v).1 hm).trans ((h v).1 hm), (h' v).2.1.trans (h v).2.1, (h' v).2.2.1.trans (h v).2.2.1, (h' v).2.2.2.1.trans (h v).2.2.2.1, (h' v).2.2.2.2.trans (h v).2.2.2.2⟩
theorem Keep.put {M : Int → Int} {g g1 : Int → R8} (h : Keep M g g1) (id : Int) (r : R8) (hr : hasB (M id) 11 = true → r.wd = (g id).wd ∧ r.ht = (g id).ht ∧ r.ms = (g id).ms ∧ r.rr = (g id).rr) : Keep M g (putG M g1 id r) := by
  intro v
  by_cases hv : v = id
  · subst hv
    rw [putG_at]
    split
    · rename_i hb
      simp only [Bool.and_eq_true] at hb
      obtain ⟨h1, h2, h3, h4⟩ := hr hb.1
      exact ⟨fun hm => (by rw [hb.1] at hm; exact absurd hm (by simp)), h1, h2, h3, h4⟩
    · exact h v
  · rw [putG_other (Or.inl hv)]
    exact h v
theorem Keep.go {M : Int → Int} {g g1 : Int → R8} (fall : Int) (l : List Int) (h : Keep M g g1) : Keep M g (goOnG M fall l g1) := by
  unfold goOnG
  induction l generalizing g1 with
  | nil => exact h
  | cons x l ih =>
    refine ih ?_
    refine h.put x _ (fun _ => ?_)
    have := h x
    simp only [goRow, fallR]
    split <;> exact this.2
theorem Keep.meet1 {M : Int → Int} {g : Int → R8} {s : (Int → R8) × List (Int × Int)} (p : Int × Int) (h : Keep M g s.1) : Keep M g (meet1 M s p).1 := by
  unfold Wd.meet1
  split
  · have hk := met_kept (bodyR (M p.1) (s.1 p.1)) (bodyR (M p.2) (s.1 p.2))
    refine (h.put p.1 _ (fun hb => ?_)).put p.2 _ (fun hb => ?_)
    · rw [hk.1, hk.2.1, hk.2.2.1, hk.2.2.2.1]
      simp only [bodyR, hb]
      exact (h p.1).2
    · rw [hk.2.2.2.2.1, hk.2.2.2.2.2.1, hk.2.2.2.2.2.2.1, hk.2.2.2.2.2.2.2]
      simp only [bodyR, hb]
      exact (h p.2).2
  · exact h
theorem Keep.meet {M : Int → Int} {g g1 : Int → R8} (l : List (Int × Int)) (h : Keep M g g1) : Keep M g (meetG M l g1).1 := by
  unfold meetG
  have key : ∀ (l : List (Int × Int)) (s : (Int → R8) × List (Int × Int)), Keep M g s.1 → Keep M g (l.foldl (Wd.meet1 M) s).1 := by
    intro l
    induction l with
    | nil => intro s hs; exact hs
    | cons p l ih => intro s hs; exact ih _ (hs.meet1 p)
  exact key l (g1, []) h
theorem Keep.wall {M : Int → Int} {g g1 : Int → R8} (wide high : Int) (l : List Int) (h : Keep M g g1) : Keep M g (wallG M wide high l g1) := by
  unfold wallG
  induction l generalizing g1 with
  | nil => exact h
  | cons x l ih => exact ih (h.put x _ (fun _ => (h x).2))
theorem step_keep (L : List Tab) (fall wide high : Int) : Keep (mk L) (rw0 L) (stepG L fall wide high).1 :=
  Keep.wall wide high _ (Keep.meet _ (Keep.go fall _ (Keep.refl _ _)))
theorem step_ok {next : Int} {L : List Tab} (hg : GoodL next L) (fall wide high : Int) : RowsOk L (stepG L fall wide high).1 :=
  RowsOk.wall hg.2.2.2.2.2 (RowsOk.meet hg.2.2.2.2.2 (RowsOk.go hg.2.2.2.2.2 (rows_ok hg) _ _) _) _ _ _
theorem step_good {next : Int} {L : List Tab} (hg : GoodL next L) (fall wide high : Int) : GoodL next (withRows L (stepG L fall wide high).1) := good_with hg (step_ok hg fall wide high)
/-- Which pairs have met: some of those that are told. -/
theorem met_sub (M : Int → Int) (l : List (Int × Int)) (g : Int → R8) : ∀ p ∈ (meetG M l g).2, p ∈ l := by
  unfold meetG
  have key : ∀ (l : List (Int × Int)) (s : (Int → R8) × List (Int × Int)), ∀ p ∈ (l.foldl (Wd.meet1 M) s).2, p ∈ s.2 ∨ p ∈ l := by
    intro l
    induction l with
    | nil => intro s p hp; exact Or.inl hp
    | cons q l ih =>
      intro s p hp
      rcases ih _ p hp with h | h
      · unfold Wd.meet1 at h
        split at h
        · rcases List.mem_append.1 h with h | h
          · exact Or.inl h
          · exact Or.inr (by simp at h; rw [h]; exact List.mem_cons_self ..)
        · exact Or.inl h
      · exact Or.inr (List.mem_cons_of_mem _ h)
  intro p hp
  rcases key l (g, []) p hp with h | h
  · cases h
  · exact h
theorem met_len (M : Int → Int) (l : List (Int × Int)) (g : Int → R8) : (meetG M l g).2.length ≤ l.length := by
  unfold meetG
  have key : ∀ (l : List (Int × Int)) (s : (Int → R8) × List (Int × Int)), (l.foldl (Wd.meet1 M) s).2.length ≤ s.2.length + l.length := by
    intro l
    induction l with
    | nil => intro s; simp
    | cons q l ih =>
      intro s
      refine Nat.le_trans (ih _) ?_
      unfold Wd.meet1
      split <;> simp <;> omega
  simpa using key l (g, [])

/-! The order in tables. -/
theorem look_none {L : List Tab} (he : Even L) {v : Int} (h : ∀ m r, ¬ At L v m r) : lookT L v = none := by
  induction L with
  | nil => rfl
  | cons t L ih =>
    have hno : v ∉ t.ids := fun hc => by
      obtain ⟨j, hj, e⟩ := List.getElem_of_mem hc
      have hl := he t (List.mem_cons_self ..)
      exact h t.mask (t.rows[j]'(by omega)) (at_cons.2 (Or.inl ⟨rfl, j, by rw [List.getElem?_eq_getElem hj, e], List.getElem?_eq_getElem (by omega)⟩))
    rw [lookT, if_neg hno]
    exact ih (fun t ht => he t (List.mem_cons_of_mem _ ht)) (fun m r hat => h m r (at_cons.2 (Or.inr hat)))
/-- The same things. -/
def SameAt (L L' : List Tab) : Prop := ∀ v m r, At L v m r ↔ At L' v m r
theorem look_same {next next' : Int} {L L' : List Tab} (hg : GoodL next L) (hg' : GoodL next' L') (h : SameAt L L') (v : Int) : lookT L v = lookT L' v := by
  by_cases hex : ∃ m r, At L v m r
  · obtain ⟨m, r, hat⟩ := hex
    rw [look_at hg.2.2.2.2.2 hat, look_at hg'.2.2.2.2.2 ((h v m r).1 hat)]
  · rw [look_none hg.even (fun m r hat => hex ⟨m, r, hat⟩), look_none hg'.even (fun m r hat => hex ⟨m, r, (h v m r).2 hat⟩)]
theorem mk_same {next next' : Int} {L L' : List Tab} (hg : GoodL next L) (hg' : GoodL next' L') (h : SameAt L L') : mk L = mk L' := by
  funext v; unfold mk; rw [look_same hg hg' h]
theorem rw_same {next next' : Int} {L L' : List Tab} (hg : GoodL next L) (hg' : GoodL next' L') (h : SameAt L L') : rw0 L = rw0 L' := by
  funext v; unfold rw0; rw [look_same hg hg' h]
theorem nodup_perm {l l' : List Int} (h1 : l.Nodup) (h2 : l'.Nodup) (h : ∀ x, x ∈ l ↔ x ∈ l') : l.Perm l' := (List.perm_ext_iff_of_nodup h1 h2).2 h
theorem sort_same {l l' : List Int} (h : l.Perm l') : (l.mergeSort fun x y => decide (x ≤ y)) = l'.mergeSort fun x y => decide (x ≤ y) := by
  refine List.Perm.eq_of_pairwise (le := fun x y : Int => x ≤ y) (fun a b _ _ h1 h2 => by omega) ?_ ?_ ((List.mergeSort_perm _ _).trans (h.trans (List.mergeSort_perm _ _).symm))
  · have := List.pairwise_mergeSort (le := fun x y : Int => decide (x ≤ y)) (fun a b c h1 h2 => by simp at *; omega) (fun a b => by simp; omega) l
    exact this.imp (by simp)
  · have := List.pairwise_mergeSort (le := fun x y : Int => decide (x ≤ y)) (fun a b c h1 h2 => by simp at *; omega) (fun a b => by simp; omega) l'
    exact this.imp (by simp)
theorem ids_same {next next' : Int} {L L' : List Tab} (hg : GoodL next L) (hg' : GoodL next' L') (h : SameAt L L') (m : Int) : idsOf m L = idsOf m L' := by
  unfold idsOf
  refine sort_same (nodup_perm ((gath_sub m L).nodup hg.2.2.2.2.2) ((gath_sub m L').nodup hg'.2.2.2.2.2) (fun x => ?_))
  rw [mem_gath hg.even, mem_gath hg'.even]
  constructor
  · rintro ⟨q, r, h1, h2⟩; exact ⟨q, r, (h x q r).1 h1, h2⟩
  · rintro ⟨q, r, h1, h2⟩; exact ⟨q, r, (h x q r).2 h1, h2⟩
theorem step_same {next next' : Int} {L L' : List Tab} (hg : GoodL next L) (hg' : GoodL next' L') (h : SameAt L L') (fall wide high : Int) : stepG L fall wide high = stepG L' fall wide high := by
  unfold stepG boxG
  rw [mk_same hg hg' h, rw_same hg hg' h, ids_same hg hg' h 11, ids_same hg hg' h 5]
theorem with_same {next next' : Int} {L L' : List Tab} (hg : GoodL next L) (hg' : GoodL next' L') (h : SameAt L L') (g : Int → R8) : SameAt (withRows L g) (withRows L' g) := by
  intro v m r
  rw [at_with hg.even, at_with hg'.even]
  constructor
  · rintro ⟨⟨q, hq⟩, e⟩; exact ⟨⟨q, (h v m q).1 hq⟩, e⟩
  · rintro ⟨⟨q, hq⟩, e⟩; exact ⟨⟨q, (h v m q).2 hq⟩, e⟩
theorem ids_nodup {next : Int} {L : List Tab} (hg : GoodL next L) (m : Int) : (idsOf m L).Nodup := by
  unfold idsOf
  exact (List.mergeSort_perm _ _).nodup_iff.2 ((gath_sub m L).nodup hg.2.2.2.2.2)
theorem ids_sorted (m : Int) (L : List Tab) : (idsOf m L).Pairwise (fun x y => x ≤ y) := by
  have := List.pairwise_mergeSort (le := fun x y : Int => decide (x ≤ y)) (fun a b c h1 h2 => by simp at *; omega) (fun a b => by simp; omega) (gathR m L)
  exact this.imp (by simp)

/-! Thing by thing. -/
/-- Each thing of a list by itself. -/
def eachG (M : Int → Int) (f : Int → R8 → R8) (l : List Int) (g : Int → R8) : Int → R8 := l.foldl (fun g id => putG M g id (f id (g id))) g
theorem go_each (M : Int → Int) (fall : Int) (l : List Int) (g : Int → R8) : goOnG M fall l g = eachG M (fun id r => goRow (fallR fall (M id) r)) l g := rfl
theorem wall_each (M : Int → Int) (wide high : Int) (l : List Int) (g : Int → R8) : wallG M wide high l g = eachG M (fun _ r => wallY high (wallX wide r)) l g := rfl
theorem each_at {M : Int → Int} {f : Int → R8 → R8} {l : List Int} (hn : l.Nodup) (g : Int → R8) (v : Int) : eachG M f l g v = if v ∈ l then (if hasB (M v) 11 && goodRowB (M v) (f v (g v)) then f v (g v) else g v) else g v := by
  unfold eachG
  induction l generalizing g with
  | nil => simp
  | cons x l ih =>
    have hx := List.nodup_cons.1 hn
    rw [List.foldl_cons, ih hx.2]
    by_cases hv : v = x
    · subst hv
      rw [if_neg hx.1, putG_at, if_pos (List.mem_cons_self ..)]
    · rw [putG_other (Or.inl hv)]
      have : (v ∈ x :: l) = (v ∈ l) := by simp [hv]
      simp only [this]

/-! Rows that a mask may have. -/
theorem has_parts {m : Int} (hm : 1 ≤ m ∧ m ≤ 31) (h : hasB m 11 = true) : hasB m 1 = true ∧ hasB m 2 = true ∧ hasB m 8 = true := by
  have key : ∀ k : Fin 32, hasB (k.val : Int) 11 = true → hasB (k.val : Int) 1 = true ∧ hasB (k.val : Int) 2 = true ∧ hasB (k.val : Int) 8 = true := by decide
  have e : m = ((⟨m.toNat, by omega⟩ : Fin 32).val : Int) := by simp; omega
  rw [e] at h ⊢
  exact key _ h
theorem good_change {m : Int} {r r' : R8} (h : goodRowB m r = true) (hm : hasB m 11 = true) (h1 : r'.wd = r.wd) (h2 : r'.ht = r.ht) (h3 : r'.ms = r.ms) (h4 : r'.rr = r.rr)
    (hx : -1048576 ≤ r'.x ∧ r'.x ≤ 1048576) (hy : -1048576 ≤ r'.y ∧ r'.y ≤ 1048576) (hpx : -16777216 ≤ r'.px ∧ r'.px ≤ 16777216) (hpy : -16777216 ≤ r'.py ∧ r'.py ≤ 16777216) : goodRowB m r' = true := by
  have hmm := goodRow_mask h
  obtain ⟨b1, b2, b8⟩ := has_parts hmm hm
  simp only [goodRowB, Bool.and_eq_true] at h ⊢
  obtain ⟨g1, g2, g3⟩ := h
  refine ⟨g1, ?_, ?_⟩
  · simp [eqR, onlyR, layR, zeroR, b1, b2, b8, h1, h2] at g2 ⊢
    exact g2
  · simp only [goodPartsB, h1, h2, h3, h4] at g3 ⊢
    split at g3
    · exact absurd g3 (by simp)
    · rename_i c1
      rw [if_neg c1]
      split at g3
      · exact absurd g3 (by simp)
      · rename_i c2
        rw [if_neg c2]
        simp only [btw, Bool.and_eq_true, decide_eq_true_eq] at g3 ⊢
        exact ⟨⟨⟨⟨hx, hy⟩, hpx⟩, hpy⟩, g3.2⟩
/-! Pairs and the boxes that they are of. -/
theorem qs_mem {l : List Sw.B5} {p : Int × Int} (h : p ∈ Sw.qs l) : ∃ a b, a ∈ l ∧ b ∈ l ∧ p.1 = a.id ∧ p.2 = b.id := by
  induction l with
  | nil => simp [Sw.qs] at h
  | cons x l ih =>
    rw [Sw.qs] at h
    rcases List.mem_append.1 h with h | h
    · unfold Sw.q1 at h
      obtain ⟨o, ho, rfl⟩ := List.mem_map.1 h
      have ho' := (List.mem_filter.1 ho).1
      unfold Sw.pr
      by_cases hle : x.id ≤ o.id
      · exact ⟨x, o, List.mem_cons_self .., List.mem_cons_of_mem _ ho', by simp [hle], by simp [hle]⟩
      · exact ⟨o, x, List.mem_cons_of_mem _ ho', List.mem_cons_self .., by simp [hle], by simp [hle]⟩
    · obtain ⟨a, b, ha, hb, h1, h2⟩ := ih h
      exact ⟨a, b, List.mem_cons_of_mem _ ha, List.mem_cons_of_mem _ hb, h1, h2⟩
theorem pair_mem {l : List Sw.B5} {p : Int × Int} (h : p ∈ Sw.pairsG l) : ∃ a b, a ∈ l ∧ b ∈ l ∧ p.1 = a.id ∧ p.2 = b.id := by
  unfold Sw.pairsG at h
  split at h
  · exact qs_mem ((Sw.pairsOf_qs l).mem_iff.1 ((Sw.sortP_perm _).mem_iff.1 h))
  · cases h
theorem pairs_len (l : List Sw.B5) (h : l.length ≤ 10) : (Sw.pairsG l).length ≤ 100 := by
  unfold Sw.pairsG
  split
  · rw [Sw.sortP_len]
    have h1 := Sw.pairsOf_len l
    have h2 : l.length * l.length ≤ 10 * 10 := Nat.mul_le_mul h h
    omega
  · simp
theorem box_mem {L : List Tab} {g : Int → R8} {b : Sw.B5} (h : b ∈ boxG L g) : b.id ∈ idsOf 5 L := by
  obtain ⟨x, hx, rfl⟩ := List.mem_map.1 h
  exact hx
end Go.Proofs.YtckkkdldljhehabGreat.Wd
