/- Stores as plain lists of tables: a thing taken out, put in, written anew: who is there behind it, and that it stays good. Plain lists, no program. -/
import Derived.Test.YtckkkdldljhehaaKtStCut
import Derived.Test.YtckkkdldljhehaaPkC
namespace Go.Proofs.Ytckkkdldljhehaa.St
open Go.Proofs.Ytckkkdldljhehaa.Num

/-- Where a number stands first. -/
def posOf (v : Int) : List Int → Nat
  | [] => 0
  | x :: l => if x = v then 0 else posOf v l + 1
theorem posOf_get {l : List Int} (hn : l.Nodup) {j : Nat} {v : Int} (h : l[j]? = some v) : posOf v l = j := by
  induction l generalizing j with
  | nil => simp at h
  | cons x l ih =>
    have hn' := List.nodup_cons.1 hn
    cases j with
    | zero => simp at h; simp [posOf, h]
    | succ j =>
      simp at h
      have : x ≠ v := fun e => hn'.1 (e ▸ List.mem_of_getElem? h)
      simp [posOf, this, ih hn'.2 h]
/-- Tables without a thing: the last of its table comes to its place; a table without things goes. -/
def killT (v : Int) : List Tab → List Tab
  | [] => []
  | t :: L => if v ∈ t.ids then (if t.ids.length ≤ 1 then L else cutT (posOf v t.ids) (t.ids.length - 1) (t.ids.getLastD 0) (t.rows.getLastD zeroR) t :: L) else t :: killT v L
theorem allL_mid (A C : List Tab) (t : Tab) : allL (A ++ t :: C) = allL A ++ (t.ids ++ allL C) := by simp [allL]
theorem allL_app (A C : List Tab) : allL (A ++ C) = allL A ++ allL C := by simp [allL]
theorem nodup_mid {A C : List Tab} {t : Tab} (h : (allL (A ++ t :: C)).Nodup) : t.ids.Nodup ∧ (∀ x ∈ t.ids, x ∉ allL A ∧ x ∉ allL C) := by
  rw [allL_mid, List.nodup_append] at h
  obtain ⟨_, h2, h3⟩ := h
  rw [List.nodup_append] at h2
  exact ⟨h2.1, fun x hx => ⟨fun hc => h3 x hc x (List.mem_append.2 (Or.inl hx)) rfl, fun hc => h2.2.2 x hx x hc rfl⟩⟩
theorem lastD {α : Type} {l : List α} {k : Nat} {x d : α} (hl : l.length = k + 1) (h : l[k]? = some x) : l.getLastD d = x := by
  rw [List.getLastD_eq_getLast?, List.getLast?_eq_getElem?, hl, show k + 1 - 1 = k by omega, h]
  rfl
theorem killT_eq {A C : List Tab} {t : Tab} {j k : Nat} {v lst : Int} {r : R8} (hn : (allL (A ++ t :: C)).Nodup) (hv : t.ids[j]? = some v) (hi : t.ids.length = k + 1) (hr : t.rows.length = k + 1) (h1 : t.ids[k]? = some lst) (h2 : t.rows[k]? = some r) :
    killT v (A ++ t :: C) = takeL A C t j k lst r := by
  have hm : v ∈ t.ids := List.mem_of_getElem? hv
  obtain ⟨hnt, hnv⟩ := nodup_mid hn
  have hnA := (hnv v hm).1
  clear hnv hn
  induction A with
  | nil =>
    simp only [List.nil_append, killT, if_pos hm, takeL]
    by_cases hk : k = 0
    · rw [if_pos (by omega), if_pos hk]
    · rw [if_neg (by omega), if_neg hk, posOf_get hnt hv, hi, lastD hi h1, lastD hr h2]
      rfl
  | cons a A ih =>
    have ha : v ∉ a.ids := fun hc => hnA (by simp only [allL, List.flatMap_cons]; exact List.mem_append.2 (Or.inl hc))
    have hA : v ∉ allL A := fun hc => hnA (by simp only [allL, List.flatMap_cons]; exact List.mem_append.2 (Or.inr hc))
    simp only [List.cons_append, killT, if_neg ha]
    rw [ih hA]
    unfold takeL
    split <;> simp
/-- A thing of a table. -/
def AtT (t : Tab) (u m : Int) (q : R8) : Prop := t.mask = m ∧ ∃ j : Nat, t.ids[j]? = some u ∧ t.rows[j]? = some q
theorem at_cons {t : Tab} {L : List Tab} {u m : Int} {q : R8} : At (t :: L) u m q ↔ AtT t u m q ∨ At L u m q := by
  constructor
  · rintro ⟨x, hx, h⟩
    rcases List.mem_cons.1 hx with rfl | hx
    · exact Or.inl h
    · exact Or.inr ⟨x, hx, h⟩
  · rintro (h | ⟨x, hx, h⟩)
    · exact ⟨t, List.mem_cons_self .., h⟩
    · exact ⟨x, List.mem_cons_of_mem _ hx, h⟩
theorem at_app {A C : List Tab} {u m : Int} {q : R8} : At (A ++ C) u m q ↔ At A u m q ∨ At C u m q := by
  constructor
  · rintro ⟨x, hx, h⟩
    rcases List.mem_append.1 hx with hx | hx
    · exact Or.inl ⟨x, hx, h⟩
    · exact Or.inr ⟨x, hx, h⟩
  · rintro (⟨x, hx, h⟩ | ⟨x, hx, h⟩)
    · exact ⟨x, List.mem_append.2 (Or.inl hx), h⟩
    · exact ⟨x, List.mem_append.2 (Or.inr hx), h⟩
theorem at_mid {A C : List Tab} {t : Tab} {u m : Int} {q : R8} : At (A ++ t :: C) u m q ↔ At A u m q ∨ AtT t u m q ∨ At C u m q := by rw [at_app, at_cons]
/-- Where a number of tables stands. -/
theorem split_at {L : List Tab} {v : Int} (h : v ∈ allL L) : ∃ A t C, L = A ++ t :: C ∧ ∃ j : Nat, t.ids[j]? = some v := by
  obtain ⟨t, ht, hx⟩ := List.mem_flatMap.1 h
  obtain ⟨A, C, rfl⟩ := List.append_of_mem ht
  obtain ⟨j, hj, e⟩ := List.getElem_of_mem hx
  exact ⟨A, t, C, rfl, j, by rw [List.getElem?_eq_getElem hj, e]⟩
/-- The same, with all that stands beside it. -/
structure Spot (L A C : List Tab) (t : Tab) (j k : Nat) (v lst : Int) (q r : R8) : Prop where
  eq : L = A ++ t :: C
  at' : t.ids[j]? = some v
  row : t.rows[j]? = some q
  il : t.ids.length = k + 1
  rl : t.rows.length = k + 1
  li : t.ids[k]? = some lst
  lr : t.rows[k]? = some r
theorem spot_of {L A C : List Tab} {t : Tab} {j : Nat} {v : Int} (he : Even L) (hL : L = A ++ t :: C) (hv : t.ids[j]? = some v) : ∃ k lst q r, Spot L A C t j k v lst q r := by
  have hj := (List.getElem?_eq_some_iff.1 hv).1
  have hr := he t (by rw [hL]; simp)
  exact ⟨t.ids.length - 1, t.ids[t.ids.length - 1], t.rows[j], t.rows[t.ids.length - 1], hL, hv, List.getElem?_eq_getElem (by omega), by omega, by omega, List.getElem?_eq_getElem (by omega), List.getElem?_eq_getElem (by omega)⟩
theorem Spot.at_ {L A C : List Tab} {t : Tab} {j k : Nat} {v lst : Int} {q r : R8} (h : Spot L A C t j k v lst q r) : At L v t.mask q := by
  rw [h.eq]
  exact at_mid.2 (Or.inr (Or.inl ⟨rfl, j, h.at', h.row⟩))
theorem Spot.lt {L A C : List Tab} {t : Tab} {j k : Nat} {v lst : Int} {q r : R8} (h : Spot L A C t j k v lst q r) : j ≤ k := by
  have := (List.getElem?_eq_some_iff.1 h.at').1
  have := h.il
  omega
theorem perm_take {L A C : List Tab} {t : Tab} {j k : Nat} {v lst : Int} {q r : R8} (h : Spot L A C t j k v lst q r) : (v :: allL (takeL A C t j k lst r)).Perm (allL L) := by
  rw [h.eq, allL_mid]
  unfold takeL
  have hp := cut_perm h.il h.lt h.at' h.li
  by_cases hk : k = 0
  · rw [if_pos hk, allL_app]
    subst hk
    have e : t.ids = [v] := by
      have := hp.symm.length_eq
      have h0 : ((t.ids.set j lst).take 0) = [] := rfl
      rw [h0] at hp
      exact List.perm_singleton.1 hp.symm
    rw [e]
    exact (List.perm_middle (a := v) (l₁ := allL A) (l₂ := allL C)).symm
  · rw [if_neg hk, allL_mid]
    refine List.perm_middle.symm.trans ?_
    refine List.Perm.append_left _ ?_
    exact hp.append_right _
theorem at_take {L A C : List Tab} {t : Tab} {j k : Nat} {v lst : Int} {q r : R8} (h : Spot L A C t j k v lst q r) (hn : (allL L).Nodup) {u m : Int} {p : R8} : At (takeL A C t j k lst r) u m p ↔ u ≠ v ∧ At L u m p := by
  have hnot : v ∉ allL (takeL A C t j k lst r) := by
    have := (perm_take h).nodup_iff.2 hn
    exact (List.nodup_cons.1 this).1
  by_cases huv : u = v
  · subst huv
    constructor
    · intro hc; exact absurd (at_mem hc) hnot
    · intro hc; exact absurd rfl hc.1
  · rw [h.eq, at_mid]
    unfold takeL
    by_cases hk : k = 0
    · rw [if_pos hk, at_app]
      have hno : ¬ AtT t u m p := by
        rintro ⟨_, j', h1, _⟩
        have h2 := (List.getElem?_eq_some_iff.1 h1).1
        have h3 := h.il
        have h4 := h.lt
        have : j' = j := by omega
        rw [this, h.at'] at h1
        exact huv (Option.some.inj h1).symm
      constructor
      · rintro (h1 | h1)
        · exact ⟨huv, Or.inl h1⟩
        · exact ⟨huv, Or.inr (Or.inr h1)⟩
      · rintro ⟨_, h1 | h1 | h1⟩
        · exact Or.inl h1
        · exact absurd h1 hno
        · exact Or.inr h1
    · rw [if_neg hk, at_mid]
      have hc := cut_at h.il h.rl h.lt h.at' h.li h.lr huv p
      have ht : AtT (cutT j k lst r t) u m p ↔ AtT t u m p := by
        unfold AtT cutT
        exact and_congr_right (fun _ => hc.symm)
      rw [ht]
      exact ⟨fun x => ⟨huv, x⟩, fun x => x.2⟩
theorem mem_cut {α : Type} {l : List α} {j k : Nat} {x y : α} (hy : y ∈ l) (h : x ∈ (l.set j y).take k) : x ∈ l := by
  have := List.mem_of_mem_take h
  rcases List.mem_or_eq_of_mem_set this with h | h
  · exact h
  · rw [h]; exact hy
theorem good_take {next : Int} {L A C : List Tab} {t : Tab} {j k : Nat} {v lst : Int} {q r : R8} (h : Spot L A C t j k v lst q r) (hg : GoodL next L) : GoodL next (takeL A C t j k lst r) := by
  obtain ⟨g1, g2, g3, g4, g5, g6⟩ := hg
  have hp := perm_take h
  have hl := hp.length_eq
  have hnd := (List.nodup_cons.1 (hp.nodup_iff.2 g6)).2
  simp only [List.length_cons] at hl
  have hmem : ∀ x ∈ takeL A C t j k lst r, x ∈ L ∨ (x = cutT j k lst r t ∧ k ≠ 0) := by
    intro x hx
    rw [h.eq]
    unfold takeL at hx
    by_cases hk : k = 0
    · rw [if_pos hk] at hx
      rcases List.mem_append.1 hx with hx | hx
      · exact Or.inl (List.mem_append.2 (Or.inl hx))
      · exact Or.inl (List.mem_append.2 (Or.inr (List.mem_cons_of_mem _ hx)))
    · rw [if_neg hk] at hx
      rcases List.mem_append.1 hx with hx | hx
      · exact Or.inl (List.mem_append.2 (Or.inl hx))
      · rcases List.mem_cons.1 hx with rfl | hx
        · exact Or.inr ⟨rfl, hk⟩
        · exact Or.inl (List.mem_append.2 (Or.inr (List.mem_cons_of_mem _ hx)))
  have htm : t ∈ L := by rw [h.eq]; simp
  have hgt := g5 t htm
  have hcut : k ≠ 0 → GoodT next (cutT j k lst r t) := by
    intro hk
    have l1 : ((t.ids.set j lst).take k).length = k := by rw [List.length_take, List.length_set, h.il]; omega
    have l2 : ((t.rows.set j r).take k).length = k := by rw [List.length_take, List.length_set, h.rl]; omega
    refine ⟨?_, by show ((t.ids.set j lst).take k).length = ((t.rows.set j r).take k).length; omega, ?_, ?_⟩
    · intro e
      have : ((t.ids.set j lst).take k).length = 0 := by rw [show (t.ids.set j lst).take k = [] from e]; rfl
      omega
    · intro x hx
      exact hgt.2.2.1 x (mem_cut (List.mem_of_getElem? h.li) hx)
    · intro x hx
      exact hgt.2.2.2 x (mem_cut (List.mem_of_getElem? h.lr) hx)
  refine ⟨g1, by omega, ?_, ?_, ?_, hnd⟩
  · intro x hx
    rcases hmem x hx with hx | ⟨rfl, _⟩
    · exact g3 x hx
    · exact g3 t htm
  · rw [h.eq] at g4
    unfold takeL
    by_cases hk : k = 0
    · rw [if_pos hk]
      exact g4.sublist ((List.Sublist.refl A).append (List.sublist_cons_self t C))
    · rw [if_neg hk]
      rw [List.pairwise_append] at g4 ⊢
      obtain ⟨p1, p2, p3⟩ := g4
      rw [List.pairwise_cons] at p2 ⊢
      refine ⟨p1, ⟨fun x hx => p2.1 x hx, p2.2⟩, fun x hx y hy => ?_⟩
      rcases List.mem_cons.1 hy with rfl | hy
      · exact p3 x hx t (List.mem_cons_self ..)
      · exact p3 x hx y (List.mem_cons_of_mem _ hy)
  · intro x hx
    rcases hmem x hx with hx | ⟨rfl, hk⟩
    · exact g5 x hx
    · exact hcut hk
/-- Taken out: it is gone, all others are as they were, it stays good. -/
theorem kill_all {next : Int} {L : List Tab} {v : Int} (hg : GoodL next L) (hv : v ∈ allL L) :
    GoodL next (killT v L) ∧ (v :: allL (killT v L)).Perm (allL L) ∧ ∀ u m p, At (killT v L) u m p ↔ u ≠ v ∧ At L u m p := by
  obtain ⟨A, t, C, hL, j, hj⟩ := split_at hv
  obtain ⟨k, lst, q, r, h⟩ := spot_of hg.even hL hj
  have e := killT_eq (by rw [← h.eq]; exact hg.2.2.2.2.2) h.at' h.il h.rl h.li h.lr
  rw [← h.eq] at e
  rw [e]
  exact ⟨good_take h hg, perm_take h, fun u m p => at_take h hg.2.2.2.2.2⟩

theorem perm_put (m id : Int) (r : R8) (L : List Tab) : (allL (putT m id r L)).Perm (id :: allL L) := by
  induction L with
  | nil => simp [putT, allL]
  | cons t L ih =>
    have e : allL (t :: L) = t.ids ++ allL L := by simp [allL]
    unfold putT
    by_cases h1 : t.mask < m
    · rw [if_pos h1, e]
      have e2 : allL (t :: putT m id r L) = t.ids ++ allL (putT m id r L) := by simp [allL]
      rw [e2]
      exact (List.Perm.append_left _ ih).trans List.perm_middle
    · rw [if_neg h1]
      by_cases h2 : t.mask = m
      · rw [if_pos h2, e]
        have e2 : allL ((⟨m, t.ids ++ [id], t.rows ++ [r]⟩ : Tab) :: L) = t.ids ++ id :: allL L := by simp [allL]
        rw [e2]
        exact List.perm_middle
      · rw [if_neg h2, e]
        have e2 : allL ((⟨m, [id], [r]⟩ : Tab) :: t :: L) = id :: (t.ids ++ allL L) := by simp [allL]
        rw [e2]
theorem at_put (m id : Int) (r : R8) (L : List Tab) (he : Even L) {u p : Int} {q : R8} : At (putT m id r L) u p q ↔ (u = id ∧ p = m ∧ q = r) ∨ At L u p q := by
  have one : AtT ⟨m, [id], [r]⟩ u p q ↔ u = id ∧ p = m ∧ q = r := by
    constructor
    · rintro ⟨h0, j, h1, h2⟩
      cases j with
      | zero => simp at h1 h2; exact ⟨h1.symm, h0.symm, h2.symm⟩
      | succ j => simp at h1
    · rintro ⟨rfl, rfl, rfl⟩; exact ⟨rfl, 0, rfl, rfl⟩
  induction L with
  | nil =>
    rw [show putT m id r [] = [⟨m, [id], [r]⟩] from rfl, at_cons, one]
  | cons t L ih =>
    have heL : Even L := fun x hx => he x (List.mem_cons_of_mem _ hx)
    have het := he t (List.mem_cons_self ..)
    unfold putT
    by_cases h1 : t.mask < m
    · have ih' : At (putT m id r L) u p q ↔ (u = id ∧ p = m ∧ q = r) ∨ At L u p q := ih heL
      rw [if_pos h1, at_cons, at_cons, ih']
      constructor
      · rintro (h | h | h)
        · exact Or.inr (Or.inl h)
        · exact Or.inl h
        · exact Or.inr (Or.inr h)
      · rintro (h | h | h)
        · exact Or.inr (Or.inl h)
        · exact Or.inl h
        · exact Or.inr (Or.inr h)
    · rw [if_neg h1]
      by_cases h2 : t.mask = m
      · rw [if_pos h2, at_cons, at_cons]
        have hT : AtT ⟨m, t.ids ++ [id], t.rows ++ [r]⟩ u p q ↔ (u = id ∧ p = m ∧ q = r) ∨ AtT t u p q := by
          constructor
          · rintro ⟨h0, j, h3, h4⟩
            by_cases hj : j < t.ids.length
            · rw [List.getElem?_append_left hj] at h3
              rw [List.getElem?_append_left (by omega)] at h4
              exact Or.inr ⟨h2.trans h0, j, h3, h4⟩
            · rw [List.getElem?_append_right (by omega)] at h3 h4
              have hjj : j - t.ids.length = 0 := by
                have := (List.getElem?_eq_some_iff.1 h3).1
                simpa using this
              rw [hjj] at h3
              rw [← het, hjj] at h4
              simp at h3 h4
              exact Or.inl ⟨h3.symm, h0.symm, h4.symm⟩
          · rintro (⟨rfl, rfl, rfl⟩ | ⟨h0, j, h3, h4⟩)
            · exact ⟨rfl, t.ids.length, by simp, by simp [het]⟩
            · have hj := (List.getElem?_eq_some_iff.1 h3).1
              exact ⟨h2.symm.trans h0, j, by rw [List.getElem?_append_left hj]; exact h3, by rw [List.getElem?_append_left (by omega)]; exact h4⟩
        rw [hT]
        exact or_assoc
      · rw [if_neg h2, at_cons, one]
theorem mask_put {m id : Int} {r : R8} {L : List Tab} {t : Tab} (h : t ∈ putT m id r L) : t.mask = m ∨ ∃ x ∈ L, x.mask = t.mask := by
  induction L with
  | nil => simp [putT] at h; exact Or.inl (by rw [h])
  | cons a L ih =>
    unfold putT at h
    by_cases h1 : a.mask < m
    · rw [if_pos h1] at h
      rcases List.mem_cons.1 h with rfl | h
      · exact Or.inr ⟨t, List.mem_cons_self .., rfl⟩
      · rcases ih h with h | ⟨x, hx, e⟩
        · exact Or.inl h
        · exact Or.inr ⟨x, List.mem_cons_of_mem _ hx, e⟩
    · rw [if_neg h1] at h
      by_cases h2 : a.mask = m
      · rw [if_pos h2] at h
        rcases List.mem_cons.1 h with rfl | h
        · exact Or.inl rfl
        · exact Or.inr ⟨t, List.mem_cons_of_mem _ h, rfl⟩
      · rw [if_neg h2] at h
        rcases List.mem_cons.1 h with rfl | h
        · exact Or.inl rfl
        · exact Or.inr ⟨t, h, rfl⟩
theorem pair_put {m id : Int} {r : R8} {L : List Tab} (h : L.Pairwise (fun a b => a.mask < b.mask)) : (putT m id r L).Pairwise (fun a b => a.mask < b.mask) := by
  induction L with
  | nil => simp [putT]
  | cons a L ih =>
    have hp := List.pairwise_cons.1 h
    unfold putT
    by_cases h1 : a.mask < m
    · rw [if_pos h1, List.pairwise_cons]
      refine ⟨fun x hx => ?_, ih hp.2⟩
      rcases mask_put hx with e | ⟨y, hy, e⟩
      · rw [e]; exact h1
      · rw [← e]; exact hp.1 y hy
    · rw [if_neg h1]
      by_cases h2 : a.mask = m
      · rw [if_pos h2, List.pairwise_cons]
        exact ⟨fun x hx => by show m < x.mask; rw [← h2]; exact hp.1 x hx, hp.2⟩
      · rw [if_neg h2, List.pairwise_cons]
        refine ⟨fun x hx => ?_, h⟩
        show m < x.mask
        rcases List.mem_cons.1 hx with rfl | hx
        · omega
        · have := hp.1 x hx; omega
theorem goodT_mono {next next' : Int} {t : Tab} (h : GoodT next t) (hle : next ≤ next') : GoodT next' t := by
  refine ⟨h.1, h.2.1, fun x hx => ?_, h.2.2.2⟩
  have := h.2.2.1 x hx
  simp [btw] at this ⊢
  omega
theorem tabs_put {next : Int} {m id : Int} {r : R8} {L : List Tab} (h : ∀ t ∈ L, GoodT next t) (hid : btw id 0 (next - 1) = true) (hr : goodRowB m r = true) : ∀ t ∈ putT m id r L, GoodT next t := by
  have one : GoodT next ⟨m, [id], [r]⟩ := ⟨by simp, rfl, fun x hx => by simp at hx; rw [hx]; exact hid, fun x hx => by simp at hx; rw [hx]; exact hr⟩
  induction L with
  | nil => intro t ht; simp [putT] at ht; rw [ht]; exact one
  | cons a L ih =>
    intro t ht
    unfold putT at ht
    by_cases h1 : a.mask < m
    · rw [if_pos h1] at ht
      rcases List.mem_cons.1 ht with rfl | ht
      · exact h t (List.mem_cons_self ..)
      · exact ih (fun x hx => h x (List.mem_cons_of_mem _ hx)) t ht
    · rw [if_neg h1] at ht
      by_cases h2 : a.mask = m
      · rw [if_pos h2] at ht
        rcases List.mem_cons.1 ht with rfl | ht
        · have ha := h a (List.mem_cons_self ..)
          refine ⟨by simp, by simp [ha.2.1], fun x hx => ?_, fun x hx => ?_⟩
          · rcases List.mem_append.1 hx with hx | hx
            · exact ha.2.2.1 x hx
            · simp at hx; rw [hx]; exact hid
          · rcases List.mem_append.1 hx with hx | hx
            · have := ha.2.2.2 x hx; rwa [h2] at this
            · simp at hx; rw [hx]; exact hr
        · exact h t (List.mem_cons_of_mem _ ht)
      · rw [if_neg h2] at ht
        rcases List.mem_cons.1 ht with rfl | ht
        · exact one
        · exact h t ht
theorem goodRow_mask {m : Int} {r : R8} (h : goodRowB m r = true) : 1 ≤ m ∧ m ≤ 31 := by
  simp [goodRowB, btw] at h
  omega
/-- Put in: it is there, all others are as they were, it stays good. -/
theorem put_all {next next' m id : Int} {r : R8} {L : List Tab} (hg : GoodL next L) (hle : next ≤ next') (hnx : next' ≤ 1048576) (hl : (allL L).length ≤ 9) (hid : 0 ≤ id ∧ id < next') (hnew : id ∉ allL L) (hr : goodRowB m r = true) : GoodL next' (putT m id r L) := by
  obtain ⟨g1, g2, g3, g4, g5, g6⟩ := hg
  have hp := perm_put m id r L
  have h0 : 0 ≤ next := by simp [btw] at g1; omega
  refine ⟨by simp [btw]; omega, by rw [hp.length_eq, List.length_cons]; omega, ?_, pair_put g4, tabs_put (fun t ht => goodT_mono (g5 t ht) hle) (by simp [btw]; omega) hr, hp.nodup_iff.2 (List.nodup_cons.2 ⟨hnew, g6⟩)⟩
  intro t ht
  rcases mask_put ht with e | ⟨x, hx, e⟩
  · have := goodRow_mask hr; omega
  · have := g3 x hx; omega

/-- Tables with another row of a thing. -/
def setL (v : Int) (r : R8) (L : List Tab) : List Tab := L.map fun t => ⟨t.mask, t.ids, List.zipWith (fun x q => if x = v then r else q) t.ids t.rows⟩
theorem allL_set (v : Int) (r : R8) (L : List Tab) : allL (setL v r L) = allL L := by
  induction L with
  | nil => rfl
  | cons t L ih => simp only [setL, allL, List.map_cons, List.flatMap_cons] at ih ⊢; rw [ih]
theorem zip_same {v : Int} {r : R8} {ids : List Int} {rows : List R8} (h : v ∉ ids) (hl : ids.length = rows.length) : List.zipWith (fun x q => if x = v then r else q) ids rows = rows := by
  induction ids generalizing rows with
  | nil => cases rows with
    | nil => rfl
    | cons a l => simp at hl
  | cons x ids ih =>
    cases rows with
    | nil => simp at hl
    | cons q rows =>
      have h1 : x ≠ v := fun e => h (by rw [e]; exact List.mem_cons_self ..)
      simp only [List.zipWith_cons_cons, if_neg h1]
      rw [ih (fun hc => h (List.mem_cons_of_mem _ hc)) (by simpa using hl)]
theorem zip_set {v : Int} {r : R8} {ids : List Int} {rows : List R8} {j : Nat} (hn : ids.Nodup) (hj : ids[j]? = some v) (hl : ids.length = rows.length) : List.zipWith (fun x q => if x = v then r else q) ids rows = rows.set j r := by
  apply List.ext_getElem?
  intro i
  rw [List.getElem?_zipWith, List.getElem?_set]
  by_cases hi : i < ids.length
  · rw [List.getElem?_eq_getElem hi, List.getElem?_eq_getElem (show i < rows.length by omega)]
    by_cases hij : j = i
    · subst hij
      have : ids[j] = v := (List.getElem?_eq_some_iff.1 hj).2
      simp [this, show j < rows.length by omega]
    · have : ids[i] ≠ v := fun e => hij (nodup_get hn hj (by rw [List.getElem?_eq_getElem hi, e]))
      simp [this, hij]
  · have h2 := (List.getElem?_eq_some_iff.1 hj).1
    rw [List.getElem?_eq_none (by omega), List.getElem?_eq_none (by omega), if_neg (by omega)]
theorem setL_app (v : Int) (r : R8) (A C : List Tab) : setL v r (A ++ C) = setL v r A ++ setL v r C := by simp [setL]
theorem setL_same {v : Int} {r : R8} {L : List Tab} (h : v ∉ allL L) (he : Even L) : setL v r L = L := by
  induction L with
  | nil => rfl
  | cons t L ih =>
    have h1 : v ∉ t.ids := fun hc => h (by simp only [allL, List.flatMap_cons]; exact List.mem_append.2 (Or.inl hc))
    have h2 : v ∉ allL L := fun hc => h (by simp only [allL, List.flatMap_cons]; exact List.mem_append.2 (Or.inr hc))
    have := ih h2 (fun x hx => he x (List.mem_cons_of_mem _ hx))
    simp only [setL, List.map_cons] at this ⊢
    rw [this, zip_same h1 (he t (List.mem_cons_self ..))]
theorem setL_eq {A C : List Tab} {t : Tab} {j : Nat} {v : Int} {r : R8} (hn : (allL (A ++ t :: C)).Nodup) (he : Even (A ++ t :: C)) (hv : t.ids[j]? = some v) : setL v r (A ++ t :: C) = A ++ ⟨t.mask, t.ids, t.rows.set j r⟩ :: C := by
  obtain ⟨h1, h2⟩ := nodup_mid hn
  have hm := h2 v (List.mem_of_getElem? hv)
  have e1 := setL_same (r := r) hm.1 (fun x hx => he x (List.mem_append.2 (Or.inl hx)))
  have e2 := setL_same (r := r) hm.2 (fun x hx => he x (List.mem_append.2 (Or.inr (List.mem_cons_of_mem _ hx))))
  rw [setL_app, e1]
  congr 1
  simp only [setL, List.map_cons] at e2 ⊢
  rw [e2, zip_set h1 hv (he t (by simp))]
theorem at_set {v : Int} {r : R8} {L : List Tab} (he : Even L) {u m : Int} {q : R8} : At (setL v r L) u m q ↔ (u ≠ v ∧ At L u m q) ∨ (u = v ∧ q = r ∧ ∃ p, At L v m p) := by
  constructor
  · rintro ⟨t', ht', rfl, j, h1, h2⟩
    obtain ⟨t, ht, rfl⟩ := List.mem_map.1 ht'
    have hj := (List.getElem?_eq_some_iff.1 h1).1
    have hl := he t ht
    simp only at h1 h2 hj
    have hj' : j < t.rows.length := by rw [← hl]; exact hj
    rw [List.getElem?_zipWith, h1, List.getElem?_eq_getElem hj'] at h2
    simp only [Option.some.injEq] at h2
    by_cases e : u = v
    · rw [if_pos e] at h2
      exact Or.inr ⟨e, h2.symm, t.rows[j], t, ht, rfl, j, by rw [← e]; exact h1, List.getElem?_eq_getElem hj'⟩
    · rw [if_neg e] at h2
      exact Or.inl ⟨e, t, ht, rfl, j, h1, by rw [List.getElem?_eq_getElem hj', h2]⟩
  · have key : ∀ {p}, At L u m p → At (setL v r L) u m (if u = v then r else p) := by
      rintro p ⟨t, ht, rfl, j, h1, h2⟩
      refine ⟨_, List.mem_map.2 ⟨t, ht, rfl⟩, rfl, j, h1, ?_⟩
      rw [List.getElem?_zipWith, h1, h2]
    rintro (⟨e, h⟩ | ⟨rfl, rfl, p, h⟩)
    · have := key h; rwa [if_neg e] at this
    · have := key h; rwa [if_pos rfl] at this
theorem len_set {v : Int} {r : R8} {L : List Tab} {t : Tab} (ht : t ∈ setL v r L) : ∃ x ∈ L, t.mask = x.mask ∧ t.ids = x.ids := by
  obtain ⟨x, hx, rfl⟩ := List.mem_map.1 ht
  exact ⟨x, hx, rfl, rfl⟩
theorem good_set {next v : Int} {r : R8} {L : List Tab} (hg : GoodL next L) (hr : ∀ m q, At L v m q → goodRowB m r = true) : GoodL next (setL v r L) := by
  obtain ⟨g1, g2, g3, g4, g5, g6⟩ := hg
  have he : Even L := fun t ht => (g5 t ht).2.1
  refine ⟨g1, by rw [allL_set]; exact g2, ?_, ?_, ?_, by rw [allL_set]; exact g6⟩
  · intro t ht
    obtain ⟨x, hx, e, _⟩ := len_set ht
    rw [e]; exact g3 x hx
  · exact List.Pairwise.map _ (fun a b h => h) g4
  · intro t ht
    obtain ⟨x, hx, rfl⟩ := List.mem_map.1 ht
    have hx' := g5 x hx
    refine ⟨hx'.1, by simp [hx'.2.1], hx'.2.2.1, fun q hq => ?_⟩
    obtain ⟨j, hj⟩ := List.getElem?_of_mem hq
    rw [List.getElem?_zipWith] at hj
    cases h1 : x.ids[j]? with
    | none => rw [h1] at hj; simp at hj
    | some y =>
      cases h2 : x.rows[j]? with
      | none => rw [h1, h2] at hj; simp at hj
      | some p =>
        rw [h1, h2] at hj
        simp only [Option.some.injEq] at hj
        by_cases e : y = v
        · rw [if_pos e] at hj
          rw [← hj]
          exact hr x.mask p ⟨x, hx, rfl, j, by rw [h1, e], h2⟩
        · rw [if_neg e] at hj
          rw [← hj]
          exact hx'.2.2.2 p (List.mem_of_getElem? h2)
/-- A good store has at most 31 tables. -/
theorem rise_len {L : List Tab} {m : Int} (h : L.Pairwise (fun a b => a.mask < b.mask)) (hm : ∀ t ∈ L, m < t.mask ∧ t.mask ≤ 31) : (L.length : Int) ≤ max 0 (31 - m) := by
  induction L generalizing m with
  | nil => simp; omega
  | cons t L ih =>
    have hp := List.pairwise_cons.1 h
    have ht := hm t (List.mem_cons_self ..)
    have := ih hp.2 (m := t.mask) (fun x hx => ⟨hp.1 x hx, (hm x (List.mem_cons_of_mem _ hx)).2⟩)
    simp only [List.length_cons]
    omega
theorem goodL_len {next : Int} {L : List Tab} (h : GoodL next L) : L.length ≤ 31 := by
  have := rise_len (m := 0) h.2.2.2.1 (fun t ht => ⟨h.2.2.1 t ht, by
    have hx := h.2.2.2.2.1 t ht
    have h0 : 0 < t.rows.length := by rw [← hx.2.1]; exact List.length_pos_iff.2 hx.1
    exact (goodRow_mask (hx.2.2.2 _ (List.getElem_mem h0))).2⟩)
  omega
/-- The row of a number of a good store. -/
theorem At.good {next : Int} {L : List Tab} (hg : GoodL next L) {v m : Int} {q : R8} (h : At L v m q) : goodRowB m q = true ∧ 0 ≤ v ∧ v < next := by
  obtain ⟨t, ht, rfl, j, h1, h2⟩ := h
  have hx := hg.2.2.2.2.1 t ht
  have := hx.2.2.1 v (List.mem_of_getElem? h1)
  simp [btw] at this
  exact ⟨hx.2.2.2 q (List.mem_of_getElem? h2), by omega, by omega⟩
/-- A thing found among tables of one's own that are like those in memory. -/
theorem split_own {S : List OT} {T : Nat → TabV} {I : Nat → Nat → Int} {R : Nat → Nat → R8} {n i j : Nat} {v : Int} (hpl : S.map (·.t) = plainOf T I R n) (hi : i < n) (hj : j < (T i).il) (hv : I i j = v) :
    ∃ A o C, S = A ++ o :: C ∧ A.length = i ∧ o.t.ids[j]? = some v ∧ o.t = tabOf T I R i := by
  have hl : S.length = n := by have := congrArg List.length hpl; simpa [plainOf] using this
  have hlt : i < S.length := by omega
  have e : S = S.take i ++ S[i] :: S.drop (i + 1) := by
    have h1 : S.take i ++ S.drop i = S := List.take_append_drop i S
    rw [List.drop_eq_getElem_cons hlt] at h1
    exact h1.symm
  have ht : S[i].t = tabOf T I R i := by
    have h1 : (S.map (·.t))[i]? = some S[i].t := by rw [List.getElem?_map, List.getElem?_eq_getElem hlt]; rfl
    have h2 : (plainOf T I R n)[i]? = some (tabOf T I R i) := by simp [plainOf, hi]
    rw [hpl, h2] at h1
    exact (Option.some.inj h1).symm
  refine ⟨S.take i, S[i], S.drop (i + 1), e, by rw [List.length_take]; omega, ?_, ht⟩
  rw [ht]
  simp [tabOf, hj, hv]
end Go.Proofs.Ytckkkdldljhehaa.St
