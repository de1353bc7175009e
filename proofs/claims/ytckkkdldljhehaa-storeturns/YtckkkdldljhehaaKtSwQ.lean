/- What MeetBoxes and AreBoxes of package ninepinsref answer when called, in whatever world; that AreBoxes tells what Good of package sweep tells. Conditions: the room of the list that comes in is at least its length. -/
import Derived.Test.YtckkkdldljhehaaKtSwP
namespace Go.Proofs.Ytckkkdldljhehaa.Sw
open Go.ChangeShapes Go.WideShapes Go.ChangeAt Go.RowKit Go.Sort Go.Shelf Go.Lib

set_option maxHeartbeats 1000000 in
theorem meetBoxes_any (a b : B5) (w : World) :
    Calls Try.prog 47 #[.agg #[.int .i64 a.id, .int .i64 a.x1, .int .i64 a.y1, .int .i64 a.x2, .int .i64 a.y2], .agg #[.int .i64 b.id, .int .i64 b.x1, .int .i64 b.y1, .int .i64 b.x2, .int .i64 b.y2]] w fun e w' => e = .returned (.bool (meetB a b)) ∧ RowKit.Below w.heap.size w w' := by
  have hw : RowKit.Below w.heap.size w ((w.alloc (.cells #[.int .i64 a.id, .int .i64 a.x1, .int .i64 a.y1, .int .i64 a.x2, .int .i64 a.y2] 70)).alloc (.cells #[.int .i64 b.id, .int .i64 b.x1, .int .i64 b.y1, .int .i64 b.x2, .int .i64 b.y2] 70)) := bal (bal (Below.refl _ w) _) _
  have HB := hid hw
  clear hw
  by_cases c1 : a.x2 ≤ b.x1
  · have HM : Hid (meetB a b = false) := hid (by simp [meetB]; omega)
    go_enter Try.func47, Try.ntmps47
    go_wp2_with fail
    go_ret
    exact ⟨by rw [HM.out]; first | rfl | (simp; omega) | simp_all, HB.out⟩
  by_cases c2 : b.x2 ≤ a.x1
  · have HM : Hid (meetB a b = false) := hid (by simp [meetB]; omega)
    go_enter Try.func47, Try.ntmps47
    go_wp2_with fail
    go_ret
    exact ⟨by rw [HM.out]; first | rfl | (simp; omega) | simp_all, HB.out⟩
  by_cases c3 : a.y2 ≤ b.y1
  · have HM : Hid (meetB a b = false) := hid (by simp [meetB]; omega)
    go_enter Try.func47, Try.ntmps47
    go_wp2_with fail
    go_ret
    exact ⟨by rw [HM.out]; first | rfl | (simp; omega) | simp_all, HB.out⟩
  by_cases c4 : b.y2 ≤ a.y1
  · have HM : Hid (meetB a b = false) := hid (by simp [meetB]; omega)
    go_enter Try.func47, Try.ntmps47
    go_wp2_with fail
    go_ret
    exact ⟨by rw [HM.out]; first | rfl | (simp; omega) | simp_all, HB.out⟩
  · have HM : Hid (meetB a b = true) := hid (by simp [meetB]; omega)
    go_enter Try.func47, Try.ntmps47
    go_wp2_with fail
    go_ret
    exact ⟨by rw [HM.out]; first | rfl | (simp; omega) | simp_all, HB.out⟩
def areB (l : List B5) : Bool := l.all okB && decide (l.map (·.id)).Nodup
theorem compact_len {zs : List Int} (hs : zs.Pairwise (fun x y => x ≤ y)) : (Lib.compact zs).length = zs.length ↔ zs.Nodup := by
  unfold Lib.compact compactUpTo
  rw [List.length_map]
  constructor
  · intro h
    have h1 : ((List.range zs.length).filter (keeps zs.toArray)).length = (List.range zs.length).length := by rw [h, List.length_range]
    rw [List.length_filter_eq_length_iff] at h1
    refine List.pairwise_iff_getElem.2 (fun i j hi hj hij e => ?_)
    have hk := h1 j (List.mem_range.2 hj)
    unfold keeps at hk
    rw [decide_eq_true_eq] at hk
    rcases hk with hk | hk
    · omega
    · apply hk
      have e1 : zs.toArray[j]! = zs[j] := by rw [getElem!_pos _ _ (by simpa using hj)]; simp
      have e2 : zs.toArray[j - 1]! = zs[j - 1]'(by omega) := by rw [getElem!_pos _ _ (by simp; omega)]; simp
      rw [e1, e2]
      have h3 : zs[j - 1]'(by omega) ≤ zs[j] := List.pairwise_iff_getElem.1 hs (j - 1) j (by omega) hj (by omega)
      have h4 : zs[i] ≤ zs[j - 1]'(by omega) := by
        rcases Nat.lt_or_ge i (j - 1) with h5 | h5
        · exact List.pairwise_iff_getElem.1 hs i (j - 1) hi (by omega) h5
        · have h6 : i = j - 1 := by omega
          subst h6
          exact Int.le_refl _
      omega
  · intro hn
    rw [List.filter_eq_self.2 (fun j hj => ?_), List.length_range]
    have hj := List.mem_range.1 hj
    unfold keeps
    rw [decide_eq_true_eq]
    rcases Nat.eq_zero_or_pos j with h0 | h0
    · exact Or.inl h0
    · refine Or.inr (fun e => ?_)
      have e1 : zs.toArray[j]! = zs[j] := by rw [getElem!_pos _ _ (by simpa using hj)]; simp
      have e2 : zs.toArray[j - 1]! = zs[j - 1]'(by omega) := by rw [getElem!_pos _ _ (by simp; omega)]; simp
      rw [e1, e2] at e
      exact List.pairwise_iff_getElem.1 hn (j - 1) j (by omega) hj (by omega) e.symm
theorem sortI_sorted (l : List Int) : (sortI l).Pairwise (fun x y => x ≤ y) := by
  unfold sortI
  have h := List.pairwise_mergeSort (le := fun x y : Int => decide (x ≤ y)) (fun a b c h1 h2 => by simp at h1 h2 ⊢; omega) (fun a b => by simp; omega) l
  exact h.imp (fun h => by simpa using h)
theorem good_are (l : List B5) : goodB l = areB l := by
  unfold goodB areB oneB
  have e : (Lib.compact (sortI (l.map (·.id)))).length = l.length ↔ (l.map (·.id)).Nodup := by
    have h1 := compact_len (sortI_sorted (l.map (·.id)))
    have h2 : (sortI (l.map (·.id))).length = l.length := by unfold sortI; rw [List.length_mergeSort, List.length_map]
    rw [h2] at h1
    rw [h1]
    exact (List.mergeSort_perm _ _).nodup_iff
  rw [decide_eq_decide.2 e]
end Go.Proofs.Ytckkkdldljhehaa.Sw
