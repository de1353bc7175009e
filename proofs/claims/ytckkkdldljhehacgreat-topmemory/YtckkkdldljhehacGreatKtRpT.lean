/- What sameReply of package ninepinstop answers of two replies whose lists lie in memory: whether they are alike; nothing that was in memory before has changed. -/
import Derived.Test.YtckkkdldljhehacGreatKtRpP
import Derived.Deep.DeepCutAuto
namespace Go.Proofs.YtckkkdldljhehacGreat.Rp
open Go.Proofs.YtckkkdldljhehacGreat.Num Go.Proofs.YtckkkdldljhehacGreat.St
open Go.ChangeShapes Go.WideShapes Go.ChangeAt Go.RowKit

attribute [local go_sem ↓] Go.wp_at_zero Go.wp_at_succ
set_option maxHeartbeats 4000000 in
set_option maxRecDepth 100000 in
theorem tsameReply_any (c n c' n' : Int) (ua ma ub mb : Value) (la lb : List Int) (ka kb : List (Int × Int)) (w : World) (h1 : IntsR w ua la) (h2 : PairsR w ma ka) (h3 : IntsR w ub lb) (h4 : PairsR w mb kb) (z1 : la.length ≤ 1000000) (z2 : ka.length ≤ 1000000) :
    Calls Tryz.prog 15 #[.agg #[.int .i64 c, .int .i64 n, ua, ma], .agg #[.int .i64 c', .int .i64 n', ub, mb]] w fun e w' => e = .returned (.bool (decide (c = c' ∧ n = n' ∧ la = lb ∧ ka = kb))) ∧ Below w.heap.size w w' := by
  have H1 := hid h1
  have H2 := hid h2
  have H3 := hid h3
  have H4 := hid h4
  obtain ⟨a1, c1, rfl, -⟩ := h1
  obtain ⟨a2, c2, rfl, -⟩ := h2
  obtain ⟨a3, c3, rfl, -⟩ := h3
  obtain ⟨a4, c4, rfl, -⟩ := h4
  obtain ⟨N, hN⟩ : ∃ N, N = la.length := ⟨_, rfl⟩
  obtain ⟨N', hN'⟩ : ∃ N, N = lb.length := ⟨_, rfl⟩
  obtain ⟨K, hK⟩ : ∃ N, N = ka.length := ⟨_, rfl⟩
  obtain ⟨K', hK'⟩ : ∃ N, N = kb.length := ⟨_, rfl⟩
  rw [← hN] at H1 ⊢ z1
  rw [← hN'] at H3 ⊢
  rw [← hK] at H2 ⊢ z2
  rw [← hK'] at H4 ⊢
  have HN := hid hN
  have HN' := hid hN'
  have HK := hid hK
  have HK' := hid hK'
  clear hN hN' hK hK'
  go_enter Tryz.func15, Tryz.ntmps15
  have HB0 := hid (bal (bal (Below.refl _ w) (.cells #[.int .i64 c, .int .i64 n, .slice a1 N c1, .slice a2 K c2] 31)) (.cells #[.int .i64 c', .int .i64 n', .slice a3 N' c3, .slice a4 K' c4] 31))
  by_cases e1 : c = c'
  case neg =>
    have b1 : (c != c') = true := by simpa using e1
    have HF : Hid (decide (c = c' ∧ n = n' ∧ la = lb ∧ ka = kb) = false) := hid (by simp [e1])
    go_wp2
    go_ret
    exact ⟨ret_bool HF.out.symm, HB0.out⟩
  case pos =>
  have b1 : (c != c') = false := by simpa using e1
  by_cases e2 : n = n'
  case neg =>
    have b2 : (n != n') = true := by simpa using e2
    have HF : Hid (decide (c = c' ∧ n = n' ∧ la = lb ∧ ka = kb) = false) := hid (by simp [e2])
    clear e1
    go_wp2
    go_ret
    exact ⟨ret_bool HF.out.symm, HB0.out⟩
  case pos =>
  have b2 : (n != n') = false := by simpa using e2
  by_cases e3 : N = N'
  case neg =>
    have b3 : ((N : Int) != (N' : Int)) = true := by rw [bne_iff_ne]; omega
    have HF : Hid (decide (c = c' ∧ n = n' ∧ la = lb ∧ ka = kb) = false) := hid (by
      have : la ≠ lb := fun e => e3 (by rw [HN.out, HN'.out, e])
      simp [this])
    clear e1 e2
    go_wp2
    go_ret
    exact ⟨ret_bool HF.out.symm, HB0.out⟩
  case pos =>
  by_cases e4 : K = K'
  case neg =>
    have b3 : ((N : Int) != (N' : Int)) = false := by rw [bne_eq_false_iff_eq]; omega
    have b4 : ((K : Int) != (K' : Int)) = true := by rw [bne_iff_ne]; omega
    have HF : Hid (decide (c = c' ∧ n = n' ∧ la = lb ∧ ka = kb) = false) := hid (by
      have : ka ≠ kb := fun e => e4 (by rw [HK.out, HK'.out, e])
      simp [this])
    clear e1 e2 e3
    go_wp2
    go_ret
    exact ⟨ret_bool HF.out.symm, HB0.out⟩
  case pos =>
  subst e3 e4
  have HE : Hid (decide (c = c' ∧ n = n' ∧ la = lb ∧ ka = kb) = (decide (la = lb) && decide (ka = kb))) := hid (by simp [e1, e2])
  clear e1 e2
  go_wp2_with fail
  have hA0 := hid ((rowIs4 w c n (.slice a1 N c1) (.slice a2 K c2) 31).alloc (.cells #[.int .i64 c', .int .i64 n', .slice a3 N c3, .slice a4 K c4] 31))
  have hB1 := hid (rowIs4 (w.alloc (.cells #[.int .i64 c, .int .i64 n, .slice a1 N c1, .slice a2 K c2] 31)) c' n' (.slice a3 N c3) (.slice a4 K c4) 31)
  rw [World.size_alloc] at hB1
  have hz0 : ((w.alloc (.cells #[.int .i64 c, .int .i64 n, .slice a1 N c1, .slice a2 K c2] 31)).alloc (.cells #[.int .i64 c', .int .i64 n', .slice a3 N c3, .slice a4 K c4] 31)).heap.size = w.heap.size + 1 + 1 := by simp
  generalize (w.alloc (.cells #[.int .i64 c, .int .i64 n, .slice a1 N c1, .slice a2 K c2] 31)).alloc (.cells #[.int .i64 c', .int .i64 n', .slice a3 N c3, .slice a4 K c4] 31) = W at hA0 hB1 HB0 hz0 ⊢
  have HZ := hid hz0
  clear hz0
  go_loopw [40] (fun i wr => ∃ k : Nat, k ≤ N ∧ i = .int .i64 k ∧ Hid (la.take k = lb.take k) ∧ Hid (Below W.heap.size W wr)) (fun i _ => N - (intOf i).toNat)
  case atStart => exact ⟨0, Nat.zero_le _, rfl, rfl, Below.refl _ _⟩
  case round =>
    obtain ⟨k, hk, rfl, ht, hb⟩ := hrel
    obtain ⟨x0, x1, x2, x3⟩ := rcells (rowBelow hA0.out hb.out)
    obtain ⟨y0, y1, y2, y3⟩ := rcells (rowBelow hB1.out hb.out)
    by_cases hlt : k < N
    · obtain ⟨x, hx⟩ : ∃ x, la[k]? = some x := ⟨_, List.getElem?_eq_getElem (by have := HN.out; omega)⟩
      obtain ⟨y, hy⟩ : ∃ x, lb[k]? = some x := ⟨_, List.getElem?_eq_getElem (by have := HN'.out; omega)⟩
      obtain ⟨_, _, ea, ra⟩ := H1.out.below (bcall HB0.out hb.out)
      obtain ⟨_, _, eb, rb⟩ := H3.out.below (bcall HB0.out hb.out)
      obtain ⟨ba, oa, rfl, la1, hca⟩ := ra (by have := HN.out; omega)
      obtain ⟨bb, ob, rfl, lb1, hcb⟩ := rb (by have := HN'.out; omega)
      simp only [Value.slice.injEq] at ea eb
      obtain ⟨rfl, -, -⟩ := ea
      obtain ⟨rfl, -, -⟩ := eb
      have cx := hca k x hx
      have cy := hcb k y hy
      have HX := hid hx
      have HY := hid hy
      clear hca hcb hx hy
      have hlt' : (k : Int) < (N : Int) := by omega
      by_cases e : x = y
      · have b : (x != y) = false := by simpa using e
        have HT := hid (take_eq ht.out HX.out HY.out e)
        clear e
        go_wp2_with fail
        go_region
        all_goals
          go_wp2_with fail
          exact ⟨⟨k + 1, by omega, by go_num, HT.out, hb.out.drew⟩, by simp [intOf]; omega⟩
      · have b : (x != y) = true := by simpa using e
        have HF : Hid (decide (c = c' ∧ n = n' ∧ la = lb ∧ ka = kb) = false) := hid (by rw [HE.out]; simp [take_ne HX.out HY.out e])
        clear e
        go_wp2_with fail
        go_region
        all_goals
          go_wp2_with fail
          go_ret
          exact ⟨ret_bool HF.out.symm, bcall HB0.out hb.out.drew⟩
    · have hke : k = N := by omega
      have HLE : Hid (la = lb) := hid (by
        have := ht.out
        rw [List.take_of_length_le (by have := HN.out; omega), List.take_of_length_le (by have := HN'.out; omega)] at this
        exact this)
      go_wp2_with fail
      have HBw := hid hb.out
      generalize wr = w1 at x0 x1 x2 x3 y0 y1 y2 y3 HBw ⊢
      clear hb
      go_loopw [58] (fun i wr => ∃ k : Nat, k ≤ K ∧ i = .int .i64 k ∧ Hid (ka.take k = kb.take k) ∧ Hid (Below W.heap.size W wr)) (fun i _ => K - (intOf i).toNat)
      case atStart => exact ⟨0, Nat.zero_le _, rfl, rfl, HBw.out⟩
      case round =>
        obtain ⟨j, hj, rfl, htj, hb⟩ := hrel
        clear x0 x1 x2 x3 y0 y1 y2 y3
        obtain ⟨x0, x1, x2, x3⟩ := rcells (rowBelow hA0.out hb.out)
        obtain ⟨y0, y1, y2, y3⟩ := rcells (rowBelow hB1.out hb.out)
        by_cases hjt : j < K
        · obtain ⟨x, hx⟩ : ∃ x, ka[j]? = some x := ⟨_, List.getElem?_eq_getElem (by have := HK.out; omega)⟩
          obtain ⟨y, hy⟩ : ∃ x, kb[j]? = some x := ⟨_, List.getElem?_eq_getElem (by have := HK'.out; omega)⟩
          obtain ⟨_, _, ea, ra⟩ := H2.out.below (bcall HB0.out hb.out)
          obtain ⟨_, _, eb, rb⟩ := H4.out.below (bcall HB0.out hb.out)
          obtain ⟨ba, oa, rfl, la1, hca⟩ := ra (by have := HK.out; omega)
          obtain ⟨bb, ob, rfl, lb1, hcb⟩ := rb (by have := HK'.out; omega)
          simp only [Value.slice.injEq] at ea eb
          obtain ⟨rfl, -, -⟩ := ea
          obtain ⟨rfl, -, -⟩ := eb
          obtain ⟨p0, p1⟩ := hca j x hx
          obtain ⟨q0, q1⟩ := hcb j y hy
          have HX := hid hx
          have HY := hid hy
          clear hca hcb hx hy
          obtain ⟨xa, xb⟩ := x
          obtain ⟨ya, yb⟩ := y
          simp only at p0 p1 q0 q1
          have hlt' : (j : Int) < (K : Int) := by omega
          have hq := neqP xa xb ya yb
          by_cases e : xa = ya ∧ xb = yb
          · have b : (!(xa == ya && xb == yb)) = false := by simp [e.1, e.2]
            rw [b] at hq
            have HT := hid (take_eq htj.out HX.out HY.out (by rw [e.1, e.2]))
            clear e b
            go_wp2_with fail
            go_region
            all_goals
              go_wp2_with fail
              exact ⟨⟨j + 1, by omega, by go_num, HT.out, hb.out.drew⟩, by simp [intOf]; omega⟩
          · have b : (!(xa == ya && xb == yb)) = true := by
              cases h : (xa == ya && xb == yb)
              · rfl
              · simp at h; exact absurd h e
            rw [b] at hq
            have HF : Hid (decide (c = c' ∧ n = n' ∧ la = lb ∧ ka = kb) = false) := hid (by rw [HE.out]; simp [take_ne HX.out HY.out (fun h => e (by cases h; exact ⟨rfl, rfl⟩))])
            clear e b
            go_wp2_with fail
            go_region
            all_goals
              go_wp2_with fail
              go_ret
              exact ⟨ret_bool HF.out.symm, bcall HB0.out hb.out.drew⟩
        · have HKE : Hid (ka = kb) := hid (by
            have := htj.out
            rw [List.take_of_length_le (by have := HK.out; omega), List.take_of_length_le (by have := HK'.out; omega)] at this
            exact this)
          go_wp2_with fail
          go_ret
          exact ⟨ret_bool (by rw [HE.out, HLE.out, HKE.out]; simp), bcall HB0.out hb.out⟩
end Go.Proofs.YtckkkdldljhehacGreat.Rp
