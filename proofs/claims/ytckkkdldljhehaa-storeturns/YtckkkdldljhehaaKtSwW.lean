/- What SamePairs and SameIds of package ninepinsref and sweeps of package ninepinslaw answer when called: whether two lists in memory are alike; true. Nothing that was in memory before has changed. -/
import Derived.Test.YtckkkdldljhehaaKtSwV
import Derived.Test.YtckkkdldljhehaaKtSwT
import Derived.Test.YtckkkdldljhehaaKtSwK
import Derived.Test.YtckkkdldljhehaaKtRpL
namespace Go.Proofs.Ytckkkdldljhehaa.Sw
open Go.ChangeShapes Go.WideShapes Go.ChangeAt Go.RowKit Go.Sort Go.Shelf Go.Lib

theorem samePairs_any (ma mb : Value) (ka kb : List (Int × Int)) (w : World) (h1 : Rp.PairsR w ma ka) (h2 : Rp.PairsR w mb kb) (z : ka.length ≤ 1000000000000) :
    Calls Try.prog 50 #[ma, mb] w fun e w' => e = .returned (.bool (decide (ka = kb))) ∧ RowKit.Below w.heap.size w w' := by
  have H := hid (Rp.sameReply_any 0 0 0 0 (.slice none 0 0) ma (.slice none 0 0) mb [] [] ka kb w (Rp.ints_nil _ _ _) h1 (Rp.ints_nil _ _ _) h2 (by simp) z)
  obtain ⟨a1, c1, rfl, -⟩ := h1
  obtain ⟨a2, c2, rfl, -⟩ := h2
  go_enter Try.func50, Try.ntmps50
  go_wp2_with (go_at_call 76; refine H.out.mono ?_; rintro e w' ⟨rfl, hb⟩)
  go_ret
  exact ⟨by simp, hb⟩
theorem sameIds_any (ua ub : Value) (la lb : List Int) (w : World) (h1 : Rp.IntsR w ua la) (h2 : Rp.IntsR w ub lb) (z : la.length ≤ 1000000000000) :
    Calls Try.prog 34 #[ua, ub] w fun e w' => e = .returned (.bool (decide (la = lb))) ∧ RowKit.Below w.heap.size w w' := by
  have H := hid (Rp.sameReply_any 0 0 0 0 ua (.slice none 0 0) ub (.slice none 0 0) la lb [] [] w h1 (Rp.pairs_nil _ _ _) h2 (Rp.pairs_nil _ _ _) z (by simp))
  obtain ⟨a1, c1, rfl, -⟩ := h1
  obtain ⟨a2, c2, rfl, -⟩ := h2
  go_enter Try.func34, Try.ntmps34
  go_wp2_with (go_at_call 76; refine H.out.mono ?_; rintro e w' ⟨rfl, hb⟩)
  go_ret
  exact ⟨by simp, hb⟩
set_option maxHeartbeats 1000000 in
set_option maxRecDepth 100000 in
theorem lsweeps_any (w : World) : Calls Try.prog 55 #[] w fun e w' => e = .returned (.bool true) ∧ RowKit.Below w.heap.size w w' := by
  have e79 := eq79
  have HP := hid (pairs_any (some ⟨w.heap.size, 0, none⟩) 2 2 two (w.alloc (.cells #[.int .i64 4, .int .i64 0, .int .i64 0, .int .i64 9, .int .i64 9, .int .i64 2, .int .i64 5, .int .i64 5, .int .i64 20, .int .i64 20] 70)) rfl (by omega) (fun h => by cases h) (fun _ => ⟨w.heap.size, 0, rfl, by simp, fun i x hi => by
    match i, hi with
    | 0, hi => cases hi; simp
    | 1, hi => cases hi; simp⟩))
  rw [two_pairs] at HP
  go_enter Try.func55, Try.ntmps55
  go_wp2_with fail
  refine HP.out.mono ?_
  rintro e w1 ⟨⟨v, rfl, h1⟩, h2⟩
  have H2 := hid (bcall (bal (Below.refl _ w) _) h2)
  obtain ⟨a, c, rfl, ha⟩ := owns_slice h1
  obtain ⟨g, rfl⟩ := ha (by decide)
  obtain ⟨c0, c1⟩ := pair_at h1 (i := 0) rfl
  simp only [List.length_cons, List.length_nil] at *
  clear h1 h2 ha
  go_wp2_with fail
  go_ret
  exact ⟨rfl, H2.out⟩
end Go.Proofs.Ytckkkdldljhehaa.Sw
