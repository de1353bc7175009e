/- What within, IsBody, SpeedOf and DepthOf of package ninepinsref and Speed of package solve answer when called, in whatever world: the plain answers of the texts before; nothing that was in memory before has changed. Conditions: of DepthOf the rows are good. -/
import Derived.Test.YtckkkdldljhehaaRef
import Derived.Test.YtckkkdldljhehaaSoG
namespace Go.Proofs.Ytckkkdldljhehaa
open Go.ChangeShapes Go.WideShapes Go.ChangeAt Go.RowKit
open Num

theorem refwithin_any (n a b : Int) (w : World) :
    Calls Try.prog 69 #[.int .i64 n, .int .i64 a, .int .i64 b] w fun e w' => e = .returned (.bool (btw n a b)) ∧ w' = w := by
  go_enter Try.func69, Try.ntmps69
  go_wp2
  all_goals
    go_ret
    exact ⟨ret_bool (by simp [btw]; omega), rfl⟩

set_option maxHeartbeats 2000000 in
theorem isBody_any (a : R8) (w : World) :
    Calls Try.prog 62 #[rowV a] w fun e w' => e = .returned (.bool (goodB a)) ∧ Below w.heap.size w w' := by
  obtain ⟨x, y, px, py, wd, ht, ms, rr⟩ := a
  unfold rowV
  go_enter Try.func62, Try.ntmps62
  go_wp2_with (go_at_call 69; refine (refwithin_any _ _ _ _).mono ?_; rintro e w' ⟨rfl, rfl⟩)
  all_goals
    go_ret
    exact ⟨ret_bool (by simp_all [goodB] <;> rfl), bal (Below.refl _ _) _⟩

set_option maxHeartbeats 1000000 in
theorem speedOf_any (a : R8) (w : World) :
    Calls Try.prog 58 #[rowV a] w fun e w' => e = .returned (.tuple #[.int .i64 (spd a.px a.ms), .int .i64 (spd a.py a.ms)]) ∧ Below w.heap.size w w' := by
  obtain ⟨x, y, px, py, wd, ht, ms, rr⟩ := a
  unfold rowV spd
  go_enter Try.func58, Try.ntmps58
  go_wp2
  go_quiet (first | (go_at_call 21; exact Calls.quiet_of_same (partOf_any _ _ _ _)))
  go_wp2
  exact bodyPost_ret (by simp [results, Try.results58, go_sem] <;> first | exact ⟨rfl, rfl⟩ | rfl) rfl ⟨rfl, by repeat (first | exact Below.refl _ _ | refine Below.drew ?_ | refine bdrewN ?_ _ | refine bal ?_ _)⟩

set_option maxHeartbeats 1000000 in
theorem Speed_any (a : R8) (w : World) :
    Calls Try.prog 57 #[rowV a] w fun e w' => e = .returned (.tuple #[.int .i64 (spd a.px a.ms), .int .i64 (spd a.py a.ms)]) ∧ Below w.heap.size w w' := by
  obtain ⟨x, y, px, py, wd, ht, ms, rr⟩ := a
  unfold rowV
  go_enter Try.func57, Try.ntmps57
  go_wp2
  go_quiet (first | (go_at_call 93; exact Calls.quiet_of_same (speed_any _ _ _)))
  go_wp2
  exact bodyPost_ret (by simp [results, Try.results57, go_sem] <;> first | exact ⟨rfl, rfl⟩ | rfl) rfl ⟨rfl, by repeat (first | exact Below.refl _ _ | refine Below.drew ?_ | refine bdrewN ?_ _ | refine bal ?_ _)⟩

theorem ab_pos {x : Int} (h : -x ≤ x) : ab x = x := by unfold ab; omega
theorem ab_neg' {x : Int} (h : x < -x) : ab x = -x := by unfold ab; omega
set_option maxHeartbeats 2000000 in
theorem depthOf_any (a b : R8) (ga : GoodP a) (gb : GoodP b) (w : World) :
    Calls Try.prog 65 #[rowV a, rowV b] w fun e w' => e = .returned (.tuple #[.int .i64 (depthOf a.x b.x a.wd b.wd), .int .i64 (depthOf a.y b.y a.ht b.ht)]) ∧ Below w.heap.size w w' := by
  obtain ⟨x, y, px, py, wd, ht, ms, rr⟩ := a
  obtain ⟨x', y', px', py', wd', ht', ms', rr'⟩ := b
  obtain ⟨-, h1, h2, -, -, h3, h4, -, -⟩ := ga
  obtain ⟨-, h1', h2', -, -, h3', h4', -, -⟩ := gb
  simp only at h1 h2 h3 h4 h1' h2' h3' h4'
  unfold rowV depthOf
  have k1 : -(x - x') ≤ x - x' ∨ x - x' < -(x - x') := by omega
  have k2 : -(y - y') ≤ y - y' ∨ y - y' < -(y - y') := by omega
  rcases k1 with k1 | k1 <;> rcases k2 with k2 | k2 <;> first | rw [ab_pos k1] | rw [ab_neg' k1]
  all_goals first | rw [ab_pos k2] | rw [ab_neg' k2]
  all_goals
    go_enter Try.func65, Try.ntmps65
    go_wp2
    go_quiet (fail)
    go_wp2
    go_region
    go_wp2
    exact bodyPost_ret (by simp [results, Try.results65, go_sem] <;> first | exact ⟨rfl, rfl⟩ | rfl) rfl ⟨rfl, by repeat (first | exact Below.refl _ _ | refine Below.drew ?_ | refine bdrewN ?_ _ | refine bal ?_ _)⟩
end Go.Proofs.Ytckkkdldljhehaa
