/- What AreBoxes of package ninepinsref answers when called over boxes in memory: whether they are boxes and no number comes twice; nothing that was in memory before has changed. Condition: the room of the list is at least its length. -/
import Derived.Test.YtckkkdldljhehaaKtSwQ
namespace Go.Proofs.Ytckkkdldljhehaa.Sw
open Go.ChangeShapes Go.WideShapes Go.ChangeAt Go.RowKit Go.Sort Go.Shelf Go.Lib

theorem BoxL.below' {w w' : World} {a : Option Addr} {l : List B5} (h : BoxL w a l) (hb : RowKit.Below w.heap.size w w') : BoxL w' a l := fun hp => by
  obtain ⟨b, off, e, hl, hc⟩ := h hp
  refine ⟨b, off, e, Nat.lt_of_lt_of_le hl hb.size, fun i x hx => ?_⟩
  have k := fun o => hb.cell (p := ⟨b, o, none⟩) hl
  simp only [k]
  exact hc i x hx
theorem bxCells (w : World) (x : B5) : (w.alloc (.cells #[.int .i64 x.id, .int .i64 x.x1, .int .i64 x.y1, .int .i64 x.x2, .int .i64 x.y2] 70)).cell? ⟨w.heap.size, 0, none⟩ = some (.int .i64 x.id) ∧ w.heap.size < (w.alloc (.cells #[.int .i64 x.id, .int .i64 x.x1, .int .i64 x.y1, .int .i64 x.x2, .int .i64 x.y2] 70)).heap.size := by
  constructor
  · have h := (owns_box w x w.heap.size (Nat.le_refl _)).cellAt 0 (by omega)
    exact h
  · simp
theorem are_not {l : List B5} {k : Nat} {x : B5} (hx : l[k]? = some x) (h : okB x = false) : areB l = false := by
  have : l.all okB = false := List.all_eq_false.2 ⟨x, List.mem_of_getElem? hx, by simp [h]⟩
  simp [areB, this]
theorem are_twice {l : List B5} {k q : Nat} {x y : B5} (hx : l[k]? = some x) (hq : q < k) (hy : l[q]? = some y) (e : y.id = x.id) : areB l = false := by
  have hn : ¬ (l.map (·.id)).Nodup := fun hn => by
    have hk := (List.getElem?_eq_some_iff.1 hx)
    have hq' := (List.getElem?_eq_some_iff.1 hy)
    have := List.pairwise_iff_getElem.1 hn q k (by simpa using hq'.1) (by simpa using hk.1) hq
    simp only [List.getElem_map, hk.2, hq'.2] at this
    exact this e
  simp [areB, hn]
theorem snoc_ids {l : List B5} {k : Nat} {x : B5} (hx : l[k]? = some x) (h1 : (l.take k).all okB = true) (h2 : ((l.take k).map (·.id)).Nodup) (ho : okB x = true) (hn : ∀ q y, q < k → l[q]? = some y → y.id ≠ x.id) : (l.take (k + 1)).all okB = true ∧ ((l.take (k + 1)).map (·.id)).Nodup := by
  have hlt := (List.getElem?_eq_some_iff.1 hx).1
  rw [List.take_succ_eq_append_getElem hlt, (List.getElem?_eq_some_iff.1 hx).2]
  refine ⟨by simp only [List.all_append, h1, List.all_cons, ho, List.all_nil, Bool.and_self], ?_⟩
  rw [List.map_append, List.nodup_append]
  refine ⟨h2, by simp, fun a ha b hb e => ?_⟩
  simp at hb
  subst hb
  obtain ⟨y, hy, rfl⟩ := List.mem_map.1 ha
  obtain ⟨q, hq⟩ := List.getElem?_of_mem hy
  have hql : q < k := by have := (List.getElem?_eq_some_iff.1 hq).1; rw [List.length_take] at this; omega
  rw [List.getElem?_take_of_lt hql] at hq
  exact hn q y hql hq e
set_option maxHeartbeats 4000000 in
set_option maxRecDepth 100000 in
theorem areBoxes_any (a : Option Addr) (n cap : Nat) (l : List B5) (w : World) (hn : n = l.length) (hz : n ≤ 1000000000) (hcap : n ≤ cap) (hB : BoxL w a l) :
    Calls Try.prog 49 #[.slice a n cap] w fun e w' => e = .returned (.bool (areB l)) ∧ RowKit.Below w.heap.size w w' := by
  have HB := hid hB
  have HN := hid hn
  obtain ⟨bb, HBB⟩ : ∃ q, Hid (q = areB l) := ⟨_, rfl⟩
  rw [← HBB.out]
  clear hB hn
  go_enter Try.func49, Try.ntmps49
  go_wp2_with fail
  go_loopw [9] (fun i wr => ∃ k : Nat, k ≤ n ∧ i = .int .i64 k ∧ Hid ((l.take k).all okB = true ∧ ((l.take k).map (·.id)).Nodup) ∧ Hid (RowKit.Below w.heap.size w wr)) (fun i _ => n - (intOf i).toNat)
  case atStart => exact ⟨0, Nat.zero_le _, rfl, hid ⟨by simp, by simp⟩, hid (Below.refl _ _)⟩
  case round =>
    obtain ⟨k, hk, rfl, HOK, HBR⟩ := hrel
    by_cases hlt : k < n
    · have hlt' : (k : Int) < (n : Int) := by omega
      obtain ⟨x, hx⟩ : ∃ x, l[k]? = some x := ⟨_, List.getElem?_eq_getElem (by have := HN.out; omega)⟩
      obtain ⟨b, off, rfl, hbl, hc⟩ := (HB.out.below' HBR.out) (by have := HN.out; omega)
      obtain ⟨c0, c1, c2, c3, c4⟩ := hc k x hx
      have HX := hid hx
      clear hc hx
      by_cases e1 : x.x2 ≤ x.x1
      · have HF : Hid (areB l = false) := hid (are_not HX.out (by simp [okB]; omega))
        go_wp2_with fail
        go_ret
        exact ⟨by rw [HBB.out, HF.out]; first | rfl | simp, bal HBR.out _⟩
      by_cases e2 : x.y2 ≤ x.y1
      · have HF : Hid (areB l = false) := hid (are_not HX.out (by simp [okB]; omega))
        go_wp2_with fail
        go_ret
        exact ⟨by rw [HBB.out, HF.out]; first | rfl | simp, bal HBR.out _⟩
      have HO : Hid (okB x = true) := hid (by simp [okB]; omega)
      have hkc : (k : Int) ≤ (cap : Int) := by omega
      go_wp2_with fail
      have HQ := hid (bxCells wr x)
      have HB4 := hid (bal HBR.out (.cells #[.int .i64 x.id, .int .i64 x.x1, .int .i64 x.y1, .int .i64 x.x2, .int .i64 x.y2] 70))
      generalize htb : wr.heap.size = tb at HQ ⊢
      generalize wr.alloc (.cells #[.int .i64 x.id, .int .i64 x.x1, .int .i64 x.y1, .int .i64 x.x2, .int .i64 x.y2] 70) = W4 at HQ HB4 ⊢
      clear c0 c1 c2 c3 c4
      go_loopw [30] (fun i ws => ∃ q : Nat, q ≤ k ∧ i = .int .i64 q ∧ Hid (∀ p y, p < q → l[p]? = some y → y.id ≠ x.id) ∧ Hid (RowKit.Below W4.heap.size W4 ws)) (fun i _ => k - (intOf i).toNat)
      case atStart => exact ⟨0, Nat.zero_le _, rfl, hid (fun p y hp => by omega), hid (Below.refl _ _)⟩
      case round =>
        obtain ⟨q, hq, rfl, HNE, HBS⟩ := hrel
        by_cases hql : q < k
        · have hql' : (q : Int) < (k : Int) := by omega
          obtain ⟨y, hy⟩ : ∃ x, l[q]? = some x := ⟨_, List.getElem?_eq_getElem (by have := HN.out; omega)⟩
          obtain ⟨b', off', e', hbl', hc'⟩ := (HB.out.below' (bcall HB4.out HBS.out)) (by have := HN.out; omega)
          simp only [Option.some.injEq, Addr.mk.injEq] at e'
          obtain ⟨rfl, rfl, -⟩ := e'
          obtain ⟨d0, d1, d2, d3, d4⟩ := hc' q y hy
          have HY := hid hy
          have t0 := (HBS.out.cell (p := ⟨tb, 0, none⟩) HQ.out.2).trans HQ.out.1
          have htl : tb < wr.heap.size := Nat.lt_of_lt_of_le HQ.out.2 HBS.out.size
          clear hc' hy
          by_cases e : y.id = x.id
          · have HF : Hid (areB l = false) := hid (are_twice HX.out hql HY.out e)
            have b0 : (y.id == x.id) = true := by simpa using e
            go_wp2_with fail
            go_ret
            exact ⟨by rw [HBB.out, HF.out]; first | rfl | simp, bal (bcall HB4.out HBS.out) _⟩
          · have b0 : (y.id == x.id) = false := by simpa using e
            have HN2 : Hid (∀ p z, p < q + 1 → l[p]? = some z → z.id ≠ x.id) := hid (fun p z hp hz => by
              rcases Nat.lt_or_ge p q with h1 | h1
              · exact HNE.out p z h1 hz
              · have : p = q := by omega
                subst this
                rw [HY.out] at hz
                cases hz
                exact e)
            clear e
            go_wp2_with fail
            go_roundw
            case rel => exact ⟨q + 1, by omega, by go_num, HN2, hid (bal HBS.out _)⟩
            case measure => simp [intOf]; omega
        · have hqk : q = k := by omega
          subst hqk
          have HS := hid (snoc_ids HX.out HOK.out.1 HOK.out.2 HO.out HNE.out)
          go_wp2_with fail
          go_roundw
          case rel => exact ⟨q + 1, by omega, by go_num, HS, hid (bcall HB4.out HBS.out)⟩
          case measure => simp [intOf]; omega
    · have hkn : k = n := by omega
      subst hkn
      have HT : Hid (areB l = true) := hid (by
        have h1 := HOK.out
        rw [List.take_of_length_le (by have := HN.out; omega)] at h1
        simp only [areB, h1.1, Bool.true_and, decide_eq_true_eq]
        exact h1.2)
      go_wp2_with fail
      go_ret
      exact ⟨by rw [HBB.out, HT.out]; first | rfl | simp, HBR.out⟩
end Go.Proofs.Ytckkkdldljhehaa.Sw
