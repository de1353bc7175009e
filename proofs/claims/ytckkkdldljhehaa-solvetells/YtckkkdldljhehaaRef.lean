/- What WithinOf, AddOf and PartOf of package ninepinsref answer when called, in whatever world: the same plain numbers as Within, Add and Part of package fix. Conditions: the numbers fit 64 bits; the bound is not below 0. -/
import Derived.Test.YtckkkdldljhehaaFix
import Derived.Test.YtckkkdldljhehaaPl
namespace Go.Proofs.Ytckkkdldljhehaa
open Go.ChangeShapes Go.WideShapes Go.ChangeAt Go.RowKit
open Num (wi ad pa)

namespace Num
def sg (x : Int) : Int := if x < 0 then -1 else 1
theorem ab_le (x m : Int) (h : -m ≤ x ∧ x ≤ m) : 0 ≤ ab x ∧ ab x ≤ m := by unfold ab; omega
theorem sg_or (x : Int) : sg x = 1 ∨ sg x = -1 := by unfold sg; split <;> simp
theorem sg_pos (x : Int) (h : ¬ x < 0) : sg x = 1 := by unfold sg; rw [if_neg h]
theorem sg_neg (x : Int) (h : x < 0) : sg x = -1 := by unfold sg; rw [if_pos h]
theorem sg_le (x : Int) : -1 ≤ sg x ∧ sg x ≤ 1 := by unfold sg; split <;> omega
theorem sg2_le (x y : Int) : -1 ≤ sg x * sg y ∧ sg x * sg y ≤ 1 := by rcases sg_or x with h | h <;> rcases sg_or y with g | g <;> rw [h, g] <;> decide
theorem sg3_or (x y z : Int) : sg x * sg y * sg z = 1 ∨ sg x * sg y * sg z = -1 := by rcases sg_or x with h | h <;> rcases sg_or y with g | g <;> rcases sg_or z with f | f <;> rw [h, g, f] <;> decide
theorem sg_ab (x : Int) : sg x * ab x = x := by unfold sg ab; split <;> omega
theorem turn3 (s t u x y z : Int) (hs : s = 1 ∨ s = -1) (ht : t = 1 ∨ t = -1) (hu : u = 1 ∨ u = -1) : s * t * u * (x * y).tdiv z = ((s * x) * (t * y)).tdiv (u * z) := by
  rcases hs with rfl | rfl <;> rcases ht with rfl | rfl <;> rcases hu with rfl | rfl <;> simp [Int.mul_neg, Int.neg_mul, Int.neg_tdiv]
theorem part_eq (n a b : Int) : sg n * sg a * sg b * (ab n * ab a / ab b) = (n * a).tdiv b := by
  rw [← Int.tdiv_eq_ediv_of_nonneg (Int.mul_nonneg (by unfold ab; omega) (by unfold ab; omega)), turn3 _ _ _ _ _ _ (sg_or n) (sg_or a) (sg_or b), sg_ab, sg_ab, sg_ab]
end Num

set_option maxHeartbeats 400000 in
theorem withinOf_any (n m : Int) (h0 : 0 ≤ m) (h1 : m ≤ 9223372036854775807) (w : World) :
    Calls Try.prog 17 #[.int .i64 n, .int .i64 m] w fun e w' => e = .returned (.int .i64 (wi n m)) ∧ w' = w := by
  by_cases h2 : m < n
  · go_enter Try.func17, Try.ntmps17
    go_wp2
    all_goals
      go_ret
      exact ⟨ret_int (by unfold wi; omega), rfl⟩
  · go_enter Try.func17, Try.ntmps17
    go_wp2
    all_goals
      go_ret
      exact ⟨ret_int (by unfold wi; omega), rfl⟩

set_option maxHeartbeats 400000 in
theorem addOf_any (a b m : Int) (h0 : 0 ≤ m) (h1 : m ≤ 9223372036854775807) (w : World) :
    Calls Try.prog 19 #[.int .i64 a, .int .i64 b, .int .i64 m] w fun e w' => e = .returned (.int .i64 (ad a b m)) ∧ w' = w := by
  by_cases hm : m ≤ 1099511627776
  · have ha := Num.wi_le a m h0
    have hb := Num.wi_le b m h0
    go_enter Try.func19, Try.ntmps19
    go_wp2_with (go_at_call 17; refine (withinOf_any _ _ (by omega) (by omega) _).mono ?_; rintro e w' ⟨rfl, rfl⟩)
    all_goals
      go_ret
      exact ⟨ret_int (by unfold ad; rw [Int.min_eq_left hm]), rfl⟩
  · have ha := Num.wi_le a 1099511627776 (by omega)
    have hb := Num.wi_le b 1099511627776 (by omega)
    go_enter Try.func19, Try.ntmps19
    go_wp2_with (go_at_call 17; refine (withinOf_any _ _ (by omega) (by omega) _).mono ?_; rintro e w' ⟨rfl, rfl⟩)
    all_goals
      go_ret
      exact ⟨ret_int (by unfold ad; rw [Int.min_eq_right (by omega)]), rfl⟩

set_option maxHeartbeats 400000 in
theorem refsize_any (x : Int) (h : -268435456 ≤ x ∧ x ≤ 268435456) (w : World) :
    Calls Try.prog 68 #[.int .i64 x] w fun e w' => e = .returned (.int .i64 (Num.ab x)) ∧ w' = w := by
  go_enter Try.func68, Try.ntmps68
  go_wp2
  all_goals
    go_ret
    exact ⟨ret_int (by unfold Num.ab; omega), rfl⟩

set_option maxHeartbeats 400000 in
theorem partOf_any (n a b : Int) (w : World) :
    Calls Try.prog 21 #[.int .i64 n, .int .i64 a, .int .i64 b] w fun e w' => e = .returned (.int .i64 (pa n a b)) ∧ w' = w := by
  have hn := Num.wi_le n 268435456 (by omega)
  have ha := Num.wi_le a 268435456 (by omega)
  have hw := Num.wi_le b 268435456 (by omega)
  by_cases hb : b = 0
  · have hz := Num.wi_zero 268435456 (by omega)
    subst hb
    go_enter Try.func21, Try.ntmps21
    go_wp2_with (go_at_call 17; refine (withinOf_any _ _ (by omega) (by omega) _).mono ?_; rintro e w' ⟨rfl, rfl⟩)
    go_ret
    exact ⟨ret_int (by unfold pa; rw [if_pos rfl]), rfl⟩
  · have hz := Num.wi_ne b 268435456 (by omega) hb
    have HE : pa n a b = Num.sg (wi n 268435456) * Num.sg (wi a 268435456) * Num.sg (wi b 268435456) * (Num.ab (wi n 268435456) * Num.ab (wi a 268435456) / Num.ab (wi b 268435456)) := by
      have := Num.part_eq (wi n 268435456) (wi a 268435456) (wi b 268435456)
      unfold pa; rw [if_neg hb, this]
    have HE' : Hid (pa n a b = Num.sg (wi n 268435456) * Num.sg (wi a 268435456) * Num.sg (wi b 268435456) * (Num.ab (wi n 268435456) * Num.ab (wi a 268435456) / Num.ab (wi b 268435456))) := HE
    clear HE
    have hpa := Num.pa_le n a b
    clear hb
    go_enter Try.func21, Try.ntmps21
    go_wp2_with (go_at_call 17; refine (withinOf_any _ _ (by omega) (by omega) _).mono ?_; rintro e w' ⟨rfl, rfl⟩)
    generalize wi n 268435456 = x at *
    generalize wi a 268435456 = y at *
    generalize wi b 268435456 = z at *
    have x0 : ∀ w : World, (Instr.index 90 (.agg #[.int .i64 x, .int .i64 y, .int .i64 z]) (.int .i64 0)).run Try.prog w = .ok (.int .i64 x) w := fun _ => by kernel_rfl
    have x1 : ∀ w : World, (Instr.index 90 (.agg #[.int .i64 x, .int .i64 y, .int .i64 z]) (.int .i64 1)).run Try.prog w = .ok (.int .i64 y) w := fun _ => by kernel_rfl
    have x2 : ∀ w : World, (Instr.index 90 (.agg #[.int .i64 x, .int .i64 y, .int .i64 z]) (.int .i64 2)).run Try.prog w = .ok (.int .i64 z) w := fun _ => by kernel_rfl
    go_loop [7, 23] (fun s i => (i = .int .i64 0 ∧ s = .int .i64 1) ∨ (i = .int .i64 1 ∧ s = .int .i64 (Num.sg x)) ∨ (i = .int .i64 2 ∧ s = .int .i64 (Num.sg x * Num.sg y)) ∨ (i = .int .i64 3 ∧ s = .int .i64 (Num.sg x * Num.sg y * Num.sg z))) (fun _ i => (3 - intOf i).toNat)
    case atStart => exact .inl ⟨rfl, rfl⟩
    case round =>
      have hs1 := Num.sg_le x
      have hs2 := Num.sg2_le x y
      rcases hrel with ⟨rfl, rfl⟩ | ⟨rfl, rfl⟩ | ⟨rfl, rfl⟩ | ⟨rfl, rfl⟩
      · by_cases hx : x < 0
        · go_wp2
          go_round
          case rel => exact .inr (.inl ⟨rfl, by rw [Num.sg_neg x hx]⟩)
          case measure => simp [intOf]
        · go_wp2
          go_round
          case rel => exact .inr (.inl ⟨rfl, by rw [Num.sg_pos x (by omega)]⟩)
          case measure => simp [intOf]
      · by_cases hx : y < 0
        · go_wp2
          go_round
          case rel => exact .inr (.inr (.inl ⟨rfl, by rw [Num.sg_neg y hx]; go_num⟩))
          case measure => simp [intOf]
        · go_wp2
          go_round
          case rel => exact .inr (.inr (.inl ⟨rfl, by rw [Num.sg_pos y (by omega)]; go_num⟩))
          case measure => simp [intOf]
      · by_cases hx : z < 0
        · go_wp2
          go_round
          case rel => exact .inr (.inr (.inr ⟨rfl, by rw [Num.sg_neg z hx]; go_num⟩))
          case measure => simp [intOf]
        · go_wp2
          go_round
          case rel => exact .inr (.inr (.inr ⟨rfl, by rw [Num.sg_pos z (by omega)]; go_num⟩))
          case measure => simp [intOf]
      · have hor := Num.sg3_or x y z
        have hx := Num.ab_le x _ hn
        have hy := Num.ab_le y _ ha
        have hzz := Num.ab_le z _ hw
        have hz1 : 0 < Num.ab z := by unfold Num.ab; omega
        have hxy := Num.mul_le (Num.ab x) (Num.ab y) 268435456 (by omega) (by omega)
        have hq := Int.ediv_le_self (Num.ab z) (Int.mul_nonneg hx.1 hy.1)
        have hq0 := Int.ediv_nonneg (Int.mul_nonneg hx.1 hy.1) hzz.1
        have hp0 := Int.mul_nonneg hx.1 hy.1
        rw [show (268435456 : Int) * 268435456 = 72057594037927936 from by decide] at hxy
        generalize Num.sg x * Num.sg y * Num.sg z = sn at *
        rcases hor with rfl | rfl
        · go_wp2_with (go_at_call 68; refine (refsize_any _ (by omega) _).mono ?_; rintro e w' ⟨rfl, rfl⟩)
          go_ret
          exact ⟨ret_int (by rw [HE'.out]; omega), rfl⟩
        · go_wp2_with (go_at_call 68; refine (refsize_any _ (by omega) _).mono ?_; rintro e w' ⟨rfl, rfl⟩)
          go_ret
          exact ⟨ret_int (by rw [HE'.out]; omega), rfl⟩
end Go.Proofs.Ytckkkdldljhehaa
