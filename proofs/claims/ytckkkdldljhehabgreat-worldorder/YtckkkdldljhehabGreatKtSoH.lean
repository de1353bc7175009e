/- What calm and pick of package ninepinskeep answer when called, in whatever world; Wall of package solve by cases. Conditions: of pick the second number is above 0; of Wall all numbers are within 2^28. -/
import Derived.Test.YtckkkdldljhehabGreatPkA
namespace Go.Proofs.YtckkkdldljhehabGreat
open Go.ChangeShapes Go.WideShapes Go.ChangeAt Go.RowKit
open Num

set_option maxHeartbeats 2000000 in
theorem calm_any (a : R8) (w : World) :
    Calls Tryz.prog 27 #[rowV a] w fun e w' => e = .returned (.bool (calmB a)) ∧ Below w.heap.size w w' := by
  obtain ⟨x, y, px, py, wd, ht, ms, rr⟩ := a
  unfold rowV calmB
  cases e1 : (wi x 524288 == x)
  case false =>
    go_enter Tryz.func27, Tryz.ntmps27
    go_wp2
    go_quiet (first | (go_at_call 60; exact Calls.quiet_of_same (within_any _ _ (by omega) (by omega) _)))
    go_wp2
    go_ret
    exact ⟨rfl, bdrewN (bal (Below.refl _ _) _) _⟩
  cases e2 : (wi y 524288 == y)
  case false =>
    go_enter Tryz.func27, Tryz.ntmps27
    go_wp2
    go_quiet (first | (go_at_call 60; exact Calls.quiet_of_same (within_any _ _ (by omega) (by omega) _)))
    go_wp2
    go_ret
    exact ⟨rfl, bdrewN (bal (Below.refl _ _) _) _⟩
  cases e3 : (wi px 16384 == px)
  case false =>
    go_enter Tryz.func27, Tryz.ntmps27
    go_wp2
    go_quiet (first | (go_at_call 60; exact Calls.quiet_of_same (within_any _ _ (by omega) (by omega) _)))
    go_wp2
    go_ret
    exact ⟨rfl, bdrewN (bal (Below.refl _ _) _) _⟩
  cases e4 : (wi py 16384 == py)
  all_goals
    go_enter Tryz.func27, Tryz.ntmps27
    go_wp2
    go_quiet (first | (go_at_call 60; exact Calls.quiet_of_same (within_any _ _ (by omega) (by omega) _)))
    go_wp2
    go_ret
    exact ⟨rfl, bdrewN (bal (Below.refl _ _) _) _⟩

def pk (k n : Int) : Int := if k.tmod n < 0 then k.tmod n + n else k.tmod n
theorem pk_le (k n : Int) (hn : 0 < n) : 0 ≤ pk k n ∧ pk k n < n := by
  have h1 := Int.lt_tmod_of_pos k hn
  have h2 := Int.tmod_lt_of_pos k hn
  unfold pk; split <;> omega
theorem pick_any (k n : Int) (hn : 0 < n) (hn2 : n ≤ 1048576) (w : World) :
    Calls Tryz.prog 23 #[.int .i64 k, .int .i64 n] w fun e w' => e = .returned (.int .i64 (pk k n)) ∧ w' = w := by
  have h1 := Int.lt_tmod_of_pos k hn
  have h2 := Int.tmod_lt_of_pos k hn
  by_cases h : k.tmod n < 0
  all_goals
    go_enter Tryz.func23, Tryz.ntmps23
    go_wp2
    go_ret
    exact ⟨ret_int (by unfold pk; first | rw [if_pos h] | rw [if_neg (by omega)]), rfl⟩

theorem wall_in (at' push half wide back : Int) (h1 : -268435456 ≤ at' ∧ at' ≤ 268435456) (h2 : -268435456 ≤ push ∧ push ≤ 268435456) (h3 : -268435456 ≤ half ∧ half ≤ 268435456) (h4 : -268435456 ≤ wide ∧ wide ≤ 268435456)
    (k1 : half ≤ at') (k2 : at' ≤ max (wide - half) half) (w : World) :
    Calls Tryz.prog 88 #[.int .i64 at', .int .i64 push, .int .i64 half, .int .i64 wide, .int .i64 back] w fun e w' => e = .returned (.tuple #[.int .i64 at', .int .i64 push]) ∧ w' = w := by
  have := wall_any at' push half wide back h1 h2 h3 h4 w
  rwa [show wallAt at' half wide = at' from by unfold wallAt; rw [if_neg (by omega), if_neg (by omega)], show wallPush at' push half wide back = push from by unfold wallPush; rw [if_neg (by omega), if_neg (by omega)]] at this
theorem wall_lo (at' push half wide back : Int) (h1 : -268435456 ≤ at' ∧ at' ≤ 268435456) (h2 : -268435456 ≤ push ∧ push ≤ 268435456) (h3 : -268435456 ≤ half ∧ half ≤ 268435456) (h4 : -268435456 ≤ wide ∧ wide ≤ 268435456)
    (k1 : at' < half) (w : World) :
    Calls Tryz.prog 88 #[.int .i64 at', .int .i64 push, .int .i64 half, .int .i64 wide, .int .i64 back] w fun e w' => e = .returned (.tuple #[.int .i64 half, .int .i64 (pa (ab push) (wi back 256) 256)]) ∧ w' = w := by
  have := wall_any at' push half wide back h1 h2 h3 h4 w
  rwa [show wallAt at' half wide = half from by unfold wallAt; rw [if_pos k1], show wallPush at' push half wide back = pa (ab push) (wi back 256) 256 from by unfold wallPush; rw [if_pos k1]] at this
theorem wall_hi (at' push half wide back far : Int) (h1 : -268435456 ≤ at' ∧ at' ≤ 268435456) (h2 : -268435456 ≤ push ∧ push ≤ 268435456) (h3 : -268435456 ≤ half ∧ half ≤ 268435456) (h4 : -268435456 ≤ wide ∧ wide ≤ 268435456)
    (k0 : max (wide - half) half = far) (k1 : far < at') (w : World) :
    Calls Tryz.prog 88 #[.int .i64 at', .int .i64 push, .int .i64 half, .int .i64 wide, .int .i64 back] w fun e w' => e = .returned (.tuple #[.int .i64 far, .int .i64 (-(pa (ab push) (wi back 256) 256))]) ∧ w' = w := by
  have := wall_any at' push half wide back h1 h2 h3 h4 w
  rwa [show wallAt at' half wide = far from by unfold wallAt; rw [if_neg (by omega), if_pos (by omega), k0], show wallPush at' push half wide back = -(pa (ab push) (wi back 256) 256) from by unfold wallPush; rw [if_neg (by omega), if_pos (by omega)]] at this
end Go.Proofs.YtckkkdldljhehabGreat
