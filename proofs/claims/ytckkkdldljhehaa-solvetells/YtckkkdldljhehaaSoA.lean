/- What between, fixed, size, wayTo, speed, weigh, Good, Depth and Wall of package solve answer when called, in whatever world: each returns the plain answer of the texts before; nothing that was in memory before has changed. Conditions: of Depth the rows' numbers are within bounds, of Wall each number is within 2^28. -/
import Derived.Test.YtckkkdldljhehaaFix
import Derived.Test.YtckkkdldljhehaaPl
import Derived.RegionTactic
import Derived.BigRegion
import Derived.BigQuiet
import Derived.Deep.QuietTactic
import Derived.Deep.RegionWith
namespace Go.Proofs.Ytckkkdldljhehaa
open Go.ChangeShapes Go.WideShapes Go.ChangeAt Go.RowKit
open Num

def rowV (r : R8) : Value := .agg #[.int .i64 r.x, .int .i64 r.y, .int .i64 r.px, .int .i64 r.py, .int .i64 r.wd, .int .i64 r.ht, .int .i64 r.ms, .int .i64 r.rr]
theorem ret_bool {a b : Bool} (h : a = b) : Ending.returned (.bool a) = .returned (.bool b) := by rw [h]
theorem ret2 {a b c d : Int} (h : a = c) (g : b = d) : Ending.returned (.tuple #[.int .i64 a, .int .i64 b]) = .returned (.tuple #[.int .i64 c, .int .i64 d]) := by rw [h, g]
theorem bal {a w : World} (h : Below a.heap.size a w) (o : Obj) : Below a.heap.size a (w.alloc o) := h.alloc h.size o
theorem bcall {a w w' : World} (h : Below a.heap.size a w) (h' : Below w.heap.size w w') : Below a.heap.size a w' := h.trans (h'.mono h.size)
theorem bcell {W w1 : World} (hb : Below W.heap.size W w1) : (∀ b o, b < W.heap.size → w1.cell? ⟨b, o, none⟩ = W.cell? ⟨b, o, none⟩) ∧ (∀ b o, b < W.heap.size → w1.frozen? ⟨b, o, none⟩ = W.frozen? ⟨b, o, none⟩) :=
  ⟨fun b o h => hb.cell (p := ⟨b, o, none⟩) h, fun b o h => hb.frozen (p := ⟨b, o, none⟩) h⟩

theorem bdrewN {B : Nat} {a w : World} (h : Below B a w) (n : Nat) : Below B a (w.drewN n) := ⟨h.os, h.tape, h.output, h.size, h.block⟩

theorem between_any (n a b : Int) (w : World) :
    Calls Try.prog 99 #[.int .i64 n, .int .i64 a, .int .i64 b] w fun e w' => e = .returned (.bool (btw n a b)) ∧ w' = w := by
  go_enter Try.func99, Try.ntmps99
  go_wp2
  · go_ret
    exact ⟨ret_bool (by simp [btw]; omega), rfl⟩
  · go_ret
    exact ⟨ret_bool (by simp [btw]; omega), rfl⟩

theorem fixed_any (a : R8) (w : World) :
    Calls Try.prog 94 #[rowV a] w fun e w' => e = .returned (.bool (a.ms == 0)) ∧ Below w.heap.size w w' := by
  unfold rowV
  go_enter Try.func94, Try.ntmps94
  go_wp2
  go_ret
  exact ⟨rfl, bal (Below.refl _ _) _⟩

theorem size_any (x : Int) (h : -9223372036854775807 ≤ x ∧ x ≤ 9223372036854775807) (w : World) :
    Calls Try.prog 100 #[.int .i64 x] w fun e w' => e = .returned (.int .i64 (ab x)) ∧ w' = w := by
  go_enter Try.func100, Try.ntmps100
  go_wp2
  all_goals
    go_ret
    exact ⟨ret_int (by unfold ab; omega), rfl⟩

theorem wayTo_any (a b : Int) (w : World) :
    Calls Try.prog 95 #[.int .i64 a, .int .i64 b] w fun e w' => e = .returned (.int .i64 (wayOf a b)) ∧ w' = w := by
  by_cases h : b < a
  all_goals
    go_enter Try.func95, Try.ntmps95
    go_wp2
    go_ret
    exact ⟨ret_int (by simp [wayOf, h]), rfl⟩

theorem speed_any (p m : Int) (w : World) :
    Calls Try.prog 93 #[.int .i64 p, .int .i64 m] w fun e w' => e = .returned (.int .i64 (spd p m)) ∧ w' = w := by
  go_enter Try.func93, Try.ntmps93
  go_wp2_with (go_at_call 20; refine (part_any _ _ _ _).mono ?_; rintro e w' ⟨rfl, rfl⟩)
  go_ret
  exact ⟨rfl, rfl⟩

theorem weigh_any (m n : Int) (hm : 0 ≤ m ∧ m ≤ 9) (hn : 0 ≤ n ∧ n ≤ 9) (w : World) :
    Calls Try.prog 117 #[.agg #[.int .i64 m, .int .i64 n]] w fun e w' => e = .returned (.tuple #[.int .i64 (timesOf m n), .int .i64 (sumOf m n)]) ∧ Below w.heap.size w w' := by
  have hmn := mul_le' m n 9 9 (by omega) hn
  by_cases h : m = 0
  · go_enter Try.func117, Try.ntmps117
    go_wp2
    exact bodyPost_ret (by simp [results, Try.results117, go_sem] <;> first | exact ⟨rfl, rfl⟩ | rfl) rfl ⟨by simp [timesOf, sumOf, h], bal (Below.refl _ _) _⟩
  by_cases h2 : n = 0
  · go_enter Try.func117, Try.ntmps117
    go_wp2
    exact bodyPost_ret (by simp [results, Try.results117, go_sem] <;> first | exact ⟨rfl, rfl⟩ | rfl) rfl ⟨by simp [timesOf, sumOf, h2], bal (Below.refl _ _) _⟩
  have e1 : (m == 0) = false := by simp [h]
  have e2 : (n == 0) = false := by simp [h2]
  go_enter Try.func117, Try.ntmps117
  go_wp2
  go_quiet (fail)
  go_wp2
  exact bodyPost_ret (by simp [results, Try.results117, go_sem] <;> first | exact ⟨rfl, rfl⟩ | rfl) rfl ⟨by simp [timesOf, sumOf, h, h2], by repeat (first | exact Below.refl _ _ | refine Below.drew ?_ | refine bdrewN ?_ _ | refine bal ?_ _)⟩

set_option maxHeartbeats 1000000 in
theorem good_any (a : R8) (w : World) :
    Calls Try.prog 61 #[rowV a] w fun e w' => e = .returned (.bool (goodB a)) ∧ Below w.heap.size w w' := by
  obtain ⟨x, y, px, py, wd, ht, ms, rr⟩ := a
  unfold rowV
  go_enter Try.func61, Try.ntmps61
  go_wp2_with fail
  refine (fixed_any ⟨x, y, px, py, wd, ht, ms, rr⟩ _).mono ?_
  rintro e w1 ⟨rfl, hb⟩
  obtain ⟨hc, hf⟩ := bcell hb
  have hz := hb.size
  simp at hz
  have h0 : Below w.heap.size w w1 := bcall (bal (Below.refl _ _) _) hb
  clear hb
  go_wp2_with (go_at_call 99; refine (between_any _ _ _ _).mono ?_; rintro e w' ⟨rfl, rfl⟩)
  all_goals
    go_ret
    exact ⟨ret_bool (by simp_all [goodB]), h0⟩

set_option maxHeartbeats 1000000 in
theorem depth_any (a b : R8) (ga : GoodP a) (gb : GoodP b) (w : World) :
    Calls Try.prog 64 #[rowV a, rowV b] w fun e w' => e = .returned (.tuple #[.int .i64 (depthOf a.x b.x a.wd b.wd), .int .i64 (depthOf a.y b.y a.ht b.ht)]) ∧ Below w.heap.size w w' := by
  obtain ⟨x, y, px, py, wd, ht, ms, rr⟩ := a
  obtain ⟨x', y', px', py', wd', ht', ms', rr'⟩ := b
  obtain ⟨-, h1, h2, -, -, h3, h4, -, -⟩ := ga
  obtain ⟨-, h1', h2', -, -, h3', h4', -, -⟩ := gb
  simp only at h1 h2 h3 h4 h1' h2' h3' h4'
  have k1 : 0 ≤ ab (x - x') ∧ ab (x - x') ≤ 2097152 := by unfold ab; omega
  have k2 : 0 ≤ ab (y - y') ∧ ab (y - y') ≤ 2097152 := by unfold ab; omega
  unfold rowV depthOf
  go_enter Try.func64, Try.ntmps64
  go_wp2
  go_quiet (first | (go_at_call 100; exact Calls.quiet_of_same (size_any _ (by omega) _)))
  go_wp2
  exact bodyPost_ret (by simp [results, Try.results64, go_sem] <;> first | exact ⟨rfl, rfl⟩ | rfl) rfl ⟨rfl, by repeat (first | exact Below.refl _ _ | refine Below.drew ?_ | refine bdrewN ?_ _ | refine bal ?_ _)⟩

set_option maxHeartbeats 1000000 in
theorem wall_any (at' push half wide back : Int) (h1 : -268435456 ≤ at' ∧ at' ≤ 268435456) (h2 : -268435456 ≤ push ∧ push ≤ 268435456) (h3 : -268435456 ≤ half ∧ half ≤ 268435456) (h4 : -268435456 ≤ wide ∧ wide ≤ 268435456) (w : World) :
    Calls Try.prog 66 #[.int .i64 at', .int .i64 push, .int .i64 half, .int .i64 wide, .int .i64 back] w fun e w' => e = .returned (.tuple #[.int .i64 (wallAt at' half wide), .int .i64 (wallPush at' push half wide back)]) ∧ w' = w := by
  have k := left_le push back h2
  have k1 : 0 ≤ ab push ∧ ab push ≤ 268435456 := by unfold ab; omega
  by_cases c1 : at' < half
  · go_enter Try.func66, Try.ntmps66
    go_wp2_with (first | (go_at_call 100; refine (size_any _ (by omega) _).mono ?_; rintro e w' ⟨rfl, rfl⟩) | (go_at_call 16; refine (within_any _ _ (by omega) (by omega) _).mono ?_; rintro e w' ⟨rfl, rfl⟩) | (go_at_call 20; refine (part_any _ _ _ _).mono ?_; rintro e w' ⟨rfl, rfl⟩))
    all_goals
      exact bodyPost_ret (by simp [results, Try.results66, go_sem] <;> first | exact ⟨rfl, rfl⟩ | rfl) rfl ⟨ret2 (by unfold wallAt; rw [if_pos c1]) (by unfold wallPush; rw [if_pos c1]), rfl⟩
  by_cases c2 : max (wide - half) half < at'
  · go_enter Try.func66, Try.ntmps66
    go_wp2_with (first | (go_at_call 100; refine (size_any _ (by omega) _).mono ?_; rintro e w' ⟨rfl, rfl⟩) | (go_at_call 16; refine (within_any _ _ (by omega) (by omega) _).mono ?_; rintro e w' ⟨rfl, rfl⟩) | (go_at_call 20; refine (part_any _ _ _ _).mono ?_; rintro e w' ⟨rfl, rfl⟩))
    all_goals
      exact bodyPost_ret (by simp [results, Try.results66, go_sem] <;> first | exact ⟨rfl, rfl⟩ | rfl) rfl ⟨ret2 (by unfold wallAt; rw [if_neg (by omega), if_pos (by omega)]; omega) (by unfold wallPush; rw [if_neg (by omega), if_pos (by omega)]), rfl⟩
  · go_enter Try.func66, Try.ntmps66
    go_wp2_with (first | (go_at_call 100; refine (size_any _ (by omega) _).mono ?_; rintro e w' ⟨rfl, rfl⟩) | (go_at_call 16; refine (within_any _ _ (by omega) (by omega) _).mono ?_; rintro e w' ⟨rfl, rfl⟩) | (go_at_call 20; refine (part_any _ _ _ _).mono ?_; rintro e w' ⟨rfl, rfl⟩))
    all_goals
      exact bodyPost_ret (by simp [results, Try.results66, go_sem] <;> first | exact ⟨rfl, rfl⟩ | rfl) rfl ⟨ret2 (by unfold wallAt; rw [if_neg (by omega), if_neg (by omega)]) (by unfold wallPush; rw [if_neg (by omega), if_neg (by omega)]), rfl⟩
end Go.Proofs.Ytckkkdldljhehaa
