/- Tables whose first thing and another have changed places: the same things, and a good store still. Plain lists, no program. -/
import Derived.Test.YtckkkdldljhehabGreatPkG
namespace Go.Proofs.YtckkkdldljhehabGreat.Wd
open Go.Proofs.YtckkkdldljhehabGreat.Num Go.Proofs.YtckkkdldljhehabGreat.St

def sg (n j : Nat) : Nat := if j = 0 then n else if j = n then 0 else j
theorem sg_sg (n j : Nat) : sg n (sg n j) = j := by
  unfold sg
  split
  · rename_i h; subst h
    split
    · omega
    · simp
  · split
    · rename_i h1 h2; subst h2; simp
    · rfl
theorem sg_inj {n i j : Nat} (h : sg n i = sg n j) : i = j := by rw [← sg_sg n i, ← sg_sg n j, h]
theorem sg_lt {n j k : Nat} (hn : n < k) (hj : j < k) : sg n j < k := by
  unfold sg
  split
  · exact hn
  · split <;> omega
/-- The first and the n-th change places. -/
def swp {α : Type} (l : List α) (n : Nat) : List α := if h : n < l.length then (l.set 0 l[n]).set n (l[0]'(by omega)) else l
theorem swp_len {α : Type} (l : List α) (n : Nat) : (swp l n).length = l.length := by
  unfold swp
  split <;> simp
theorem swp_get {α : Type} {l : List α} {n : Nat} (hn : n < l.length) (j : Nat) : (swp l n)[j]? = l[sg n j]? := by
  unfold swp sg
  rw [dif_pos hn]
  by_cases h1 : j = n
  · subst h1
    rw [List.getElem?_set_self (by simpa using hn)]
    by_cases h0 : j = 0
    · subst h0; simp [List.getElem?_eq_getElem hn]
    · rw [if_neg h0, if_pos rfl, List.getElem?_eq_getElem (by omega)]
  · rw [List.getElem?_set_ne (by omega)]
    by_cases h0 : j = 0
    · subst h0
      rw [List.getElem?_set_self (by omega), if_pos rfl, List.getElem?_eq_getElem hn]
    · rw [List.getElem?_set_ne (by omega), if_neg h0, if_neg h1]
theorem swp_mem {α : Type} {l : List α} {n : Nat} (hn : n < l.length) {x : α} : x ∈ swp l n ↔ x ∈ l := by
  rw [List.mem_iff_getElem?, List.mem_iff_getElem?]
  constructor
  · rintro ⟨j, hj⟩
    exact ⟨_, (swp_get hn j).symm.trans hj⟩
  · rintro ⟨j, hj⟩
    exact ⟨sg n j, by rw [swp_get hn, sg_sg]; exact hj⟩
theorem swp_nodup {l : List Int} {n : Nat} (hn : n < l.length) (h : l.Nodup) : (swp l n).Nodup := by
  have inj : ∀ i j : Nat, i < l.length → l[i]? = l[j]? → i = j := by
    intro i j hi e
    have hj : j < l.length := by
      rcases Nat.lt_or_ge j l.length with h1 | h1
      · exact h1
      · rw [List.getElem?_eq_none h1, List.getElem?_eq_getElem hi] at e; cases e
    rw [List.getElem?_eq_getElem hi, List.getElem?_eq_getElem hj] at e
    have e := Option.some.inj e
    rcases Nat.lt_trichotomy i j with h1 | h1 | h1
    · exact absurd e (List.pairwise_iff_getElem.1 h i j hi hj h1)
    · exact h1
    · exact absurd e.symm (List.pairwise_iff_getElem.1 h j i hj hi h1)
  refine List.pairwise_iff_getElem.2 (fun i j hi hj hij e => ?_)
  have hi' : i < l.length := by rw [swp_len] at hi; exact hi
  have e2 : l[sg n i]? = l[sg n j]? := by rw [← swp_get hn, ← swp_get hn, List.getElem?_eq_getElem hi, List.getElem?_eq_getElem hj, e]
  have := sg_inj (inj _ _ (sg_lt hn hi') e2)
  omega
/-- A table in another order. -/
def swT (f : Nat → Nat) (t : Tab) : Tab := ⟨t.mask, swp t.ids (f t.ids.length), swp t.rows (f t.ids.length)⟩
def swL (f : Nat → Nat) (L : List Tab) : List Tab := L.map (swT f)
theorem swT_at {f : Nat → Nat} {t : Tab} (hl : t.ids.length = t.rows.length) (hf : f t.ids.length < t.ids.length) {v m : Int} {r : R8} : AtT (swT f t) v m r ↔ AtT t v m r := by
  unfold AtT swT
  simp only
  constructor
  · rintro ⟨hm, j, h1, h2⟩
    exact ⟨hm, _, (swp_get hf j).symm.trans h1, (swp_get (by omega) j).symm.trans h2⟩
  · rintro ⟨hm, j, h1, h2⟩
    exact ⟨hm, sg (f t.ids.length) j, by rw [swp_get hf, sg_sg]; exact h1, by rw [swp_get (by omega), sg_sg]; exact h2⟩
theorem sw_same {f : Nat → Nat} {L : List Tab} (hl : ∀ t ∈ L, t.ids.length = t.rows.length ∧ f t.ids.length < t.ids.length) : SameAt L (swL f L) := by
  intro v m r
  induction L with
  | nil => exact Iff.rfl
  | cons t L ih =>
    show At (t :: L) v m r ↔ At (swT f t :: swL f L) v m r
    rw [at_cons, at_cons, swT_at (hl t (List.mem_cons_self ..)).1 (hl t (List.mem_cons_self ..)).2, ih (fun x hx => hl x (List.mem_cons_of_mem _ hx))]
theorem sw_all {f : Nat → Nat} {L : List Tab} (hl : ∀ t ∈ L, f t.ids.length < t.ids.length) (hn : ∀ t ∈ L, t.ids.Nodup) : (allL (swL f L)).Perm (allL L) := by
  induction L with
  | nil => exact List.Perm.refl _
  | cons t L ih =>
    have h0 := hl t (List.mem_cons_self ..)
    have h1 := hn t (List.mem_cons_self ..)
    exact (nodup_perm (swp_nodup h0 h1) h1 (fun x => swp_mem h0)).append (ih (fun x hx => hl x (List.mem_cons_of_mem _ hx)) (fun x hx => hn x (List.mem_cons_of_mem _ hx)))
theorem ids_nd {L : List Tab} (h : (allL L).Nodup) {t : Tab} (ht : t ∈ L) : t.ids.Nodup := by
  obtain ⟨A, C, rfl⟩ := List.append_of_mem ht
  exact (nodup_mid h).1
/-- Good in whatever order. -/
theorem sw_good {next : Int} {f : Nat → Nat} {L : List Tab} (hg : GoodL next L) (hf : ∀ n, 0 < n → f n < n) : GoodL next (swL f L) ∧ SameAt L (swL f L) := by
  have hlt : ∀ t ∈ L, f t.ids.length < t.ids.length := fun t ht => hf _ (List.length_pos_iff.2 (hg.2.2.2.2.1 t ht).1)
  have hp := sw_all hlt (fun t ht => ids_nd hg.2.2.2.2.2 ht)
  refine ⟨⟨hg.1, by rw [hp.length_eq]; exact hg.2.1, ?_, ?_, ?_, hp.nodup_iff.2 hg.2.2.2.2.2⟩, sw_same (fun t ht => ⟨hg.even t ht, hlt t ht⟩)⟩
  · intro t ht
    obtain ⟨x, hx, rfl⟩ := List.mem_map.1 ht
    exact hg.2.2.1 x hx
  · exact List.Pairwise.map _ (fun a b h => h) hg.2.2.2.1
  · intro t ht
    obtain ⟨x, hx, rfl⟩ := List.mem_map.1 ht
    obtain ⟨g1, g2, g3, g4⟩ := hg.2.2.2.2.1 x hx
    have h0 := hlt x hx
    refine ⟨fun e => ?_, by simp [swT, swp_len, g2], fun v hv => g3 v ((swp_mem h0).1 hv), fun q hq => g4 q ((swp_mem (by omega)).1 hq)⟩
    have : (swp x.ids (f x.ids.length)).length = 0 := by rw [show swp x.ids (f x.ids.length) = [] from e]; rfl
    rw [swp_len] at this
    omega
end Go.Proofs.YtckkkdldljhehabGreat.Wd
