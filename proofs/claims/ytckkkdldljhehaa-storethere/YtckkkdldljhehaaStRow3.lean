/- What GoodRow of package store answers when called, in whatever world: it returns the plain answer named in the text before; nothing that was in memory before has changed. No conditions. -/
import Derived.Test.YtckkkdldljhehaaStRow2
import Derived.WalkSmall
namespace Go.Proofs.Ytckkkdldljhehaa.St
open Go.Proofs.Ytckkkdldljhehaa.Num
open Go.ChangeShapes Go.WideShapes Go.ChangeAt Go.RowKit

set_option maxHeartbeats 1000000 in
set_option maxRecDepth 10000 in
theorem goodRow_any (m : Int) (x y px py wd ht ms rr : Int) (w : World) :
    Calls Try.prog 26 #[.int .i64 m, .agg #[.int .i64 x, .int .i64 y, .int .i64 px, .int .i64 py, .int .i64 wd, .int .i64 ht, .int .i64 ms, .int .i64 rr]] w
      fun e w' => e = .returned (.bool (goodRowB m ⟨x, y, px, py, wd, ht, ms, rr⟩)) ∧ Below w.heap.size w w' := by
  have e30 := eq30
  have hO0 := only_any m x y px py wd ht ms rr
  have hG : Hid (goodRowB m ⟨x, y, px, py, wd, ht, ms, rr⟩ = (btw m 1 31 && (eqR ⟨x, y, px, py, wd, ht, ms, rr⟩ (onlyR m ⟨x, y, px, py, wd, ht, ms, rr⟩) && goodPartsB m ⟨x, y, px, py, wd, ht, ms, rr⟩))) := rfl
  generalize onlyR m ⟨x, y, px, py, wd, ht, ms, rr⟩ = r at hO0 hG
  obtain ⟨x', y', px', py', wd', ht', ms', rr'⟩ := r
  have hO : Hid _ := hO0
  clear hO0
  unfold rowV at hO
  cases h : btw m 1 31
  · go_enter Try.func26, Try.ntmps26
    go_wp2_with fail
    go_quiet ((go_at_call 70; exact Calls.quiet_of_same (between_any _ _ _ _)))
    go_wp2
    go_ret
    exact ⟨ret_bool (by rw [hG.out, h]; rfl), below_drewN (bal (Below.refl _ _) _) _⟩
  · cases h2 : eqR ⟨x, y, px, py, wd, ht, ms, rr⟩ ⟨x', y', px', py', wd', ht', ms', rr'⟩
    · go_enter Try.func26, Try.ntmps26
      go_wp2_with fail
      first | go_region_with (first | (go_at_call 70; refine (between_any _ _ _ _).mono ?_; rintro e w' ⟨rfl, rfl⟩) | (go_at_call 28; refine (hO.out _).mono ?_; rintro e w' ⟨rfl, hb⟩; obtain ⟨hc, hf⟩ := bcell hb; clear hf; have HB : Hid _ := hb; clear hb)) | fail
      all_goals
        go_wp2
        go_ret
        exact ⟨ret_bool (by rw [hG.out, h, h2]; rfl), bcall (Below.drew (bal (Below.refl _ _) _)) HB.out⟩
    · go_enter Try.func26, Try.ntmps26
      go_wp2_with fail
      first | go_region_with (first | (go_at_call 70; refine (between_any _ _ _ _).mono ?_; rintro e w' ⟨rfl, rfl⟩) | (go_at_call 28; refine (hO.out _).mono ?_; rintro e w' ⟨rfl, hb⟩; obtain ⟨hc, hf⟩ := bcell hb; clear hf; have HB : Hid _ := hb; clear hb) | (go_at_call 72; refine (goodParts_any _ _ _ _ _ _ _ _ _ _).mono ?_; rintro e w' ⟨rfl, hb2⟩; have HB2 : Hid _ := hb2; clear hb2)) | fail
      all_goals
        go_wp2
        go_ret
        exact ⟨ret_bool (by rw [hG.out, h, h2]; rfl), bcall (bcall (Below.drew (bal (Below.refl _ _) _)) HB.out) HB2.out⟩
end Go.Proofs.Ytckkkdldljhehaa.St
