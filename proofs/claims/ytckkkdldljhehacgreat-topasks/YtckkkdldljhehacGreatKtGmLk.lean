/- Who looks is told all that overlap, and no others, in the order of the boxes. Plain lists, no program. -/
import Derived.Test.YtckkkdldljhehacGreatKtGmT
import Derived.Test.YtckkkdldljhehacGreatPkG
namespace Go.Proofs.YtckkkdldljhehacGreat.Gm
open Go.Proofs.YtckkkdldljhehacGreat.Num Go.Proofs.YtckkkdldljhehacGreat.St Go.Proofs.YtckkkdldljhehacGreat.Wd
open Go.ChangeShapes Go.WideShapes Go.ChangeAt Go.RowKit

theorem has5 {m : Int} (hm : 1 ≤ m ∧ m ≤ 31) (h : hasB m 5 = true) : hasB m 4 = true := by
  have key : ∀ k : Fin 32, hasB (k.val : Int) 5 = true → hasB (k.val : Int) 4 = true := by decide
  have := key ⟨m.toNat, by omega⟩
  simp only [Int.toNat_of_nonneg (show 0 ≤ m by omega)] at this
  exact this h
theorem shape_pos {m : Int} {r : R8} (h : goodRowB m r = true) (h5 : hasB m 5 = true) : 1 ≤ r.wd ∧ 1 ≤ r.ht := by
  have h4 := has5 (goodRow_mask h) h5
  simp only [goodRowB, Bool.and_eq_true] at h
  have hp := h.2.2
  unfold goodPartsB at hp
  rw [h4] at hp
  simp only [Bool.true_and] at hp
  split at hp
  · cases hp
  · rename_i hc
    simp [btw] at hc
    omega
theorem keeps_nodup {l : List Int} (hn : l.Nodup) (j : Nat) (hj : j < l.length) : Go.Lib.keeps l.toArray j = true := by
  unfold Go.Lib.keeps
  rw [decide_eq_true_eq]
  rcases Nat.eq_zero_or_pos j with h0 | h0
  · exact Or.inl h0
  · refine Or.inr (fun e => ?_)
    have h1 : l.toArray[j]! = l[j] := by simp [getElem!_pos, hj]
    have h2 : l.toArray[j - 1]! = l[j - 1]'(by omega) := by
      rw [getElem!_pos _ _ (by simp; omega)]
      simp
    rw [h1, h2] at e
    have hp := List.pairwise_iff_getElem.1 hn (j - 1) j (by omega) hj (by omega)
    exact hp e.symm
theorem boxes_good {next : Int} {L : List Tab} (hg : GoodL next L) : Sw.goodB (boxG L (rw0 L)) = true := by
  unfold Sw.goodB
  rw [Bool.and_eq_true]
  constructor
  · rw [List.all_eq_true]
    intro b hb
    obtain ⟨v, hv, rfl⟩ := List.mem_map.1 hb
    obtain ⟨m, r, hat, hm⟩ := (mem_ids hg.even).1 hv
    have hr := (At.good hg hat).1
    have hp := shape_pos hr hm
    have e := (at_mk hg.2.2.2.2.2 hat).2
    simp only [Sw.okB, boxOf, e, Bool.and_eq_true, decide_eq_true_eq]
    omega
  · unfold Sw.oneB
    have e : (boxG L (rw0 L)).map (·.id) = idsOf 5 L := by
      unfold boxG
      rw [List.map_map]
      conv => rhs; rw [← List.map_id (idsOf 5 L)]
      rfl
    rw [e, decide_eq_true_eq]
    have hn : (Sw.sortI (idsOf 5 L)).Nodup := (List.mergeSort_perm _ _).nodup_iff.2 (ids_nodup hg 5)
    rw [Go.Lib.compact_all _ (fun j hj => keeps_nodup hn j hj)]
    unfold Sw.sortI boxG
    rw [List.length_mergeSort, List.length_map]
theorem map_filter_sub {α β : Type} (f : α → β) (p : α → Bool) (l : List α) : ((l.filter p).map f).Sublist (l.map f) := List.Sublist.map f List.filter_sublist
theorem look_boxes {next : Int} {L : List Tab} (hg : GoodL next L) (b : Sw.B5) : Sw.lookP (boxG L (rw0 L)) b = Sw.lookL (boxG L (rw0 L)) b := by
  unfold Sw.lookP
  rw [if_pos (boxes_good hg)]
  unfold Sw.sortI
  refine List.mergeSort_of_pairwise ?_
  have e : (boxG L (rw0 L)).map (·.id) = idsOf 5 L := by
    unfold boxG
    rw [List.map_map]
    conv => rhs; rw [← List.map_id (idsOf 5 L)]
    rfl
  have h1 : (Sw.lookL (boxG L (rw0 L)) b).Sublist (idsOf 5 L) := by rw [← e]; exact map_filter_sub _ _ _
  exact ((ids_sorted 5 L).sublist h1).imp (fun h => by simpa using h)
def lookA (b : Sw.B5) : Ac := ⟨9, 0, 0, 0, ⟨0, 0, 0, 0, 0, 0, 0, 0⟩, b⟩
theorem do_lookA {s : Gp} (hg : GoodG s) (h : s.acts < 150) (b : Sw.B5) : doG s (lookA b) = ({ s with acts := s.acts + 1 }, ⟨0, 0, Sw.lookL (boxG s.now.L (rw0 s.now.L)) b, []⟩) := by
  have ea : actW s.now (lookA b) = (s.now, ⟨0, 0, Sw.lookL (boxG s.now.L (rw0 s.now.L)) b, []⟩) := by
    simp [actW, lookA, look_boxes hg.now.l]
  unfold doG
  rw [if_neg (by omega), if_neg (by simp [lookA]), if_neg (by simp [lookA]), ea]
end Go.Proofs.YtckkkdldljhehacGreat.Gm
