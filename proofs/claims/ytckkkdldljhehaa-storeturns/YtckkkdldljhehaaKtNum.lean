/- Plain numbers, without the program: a number within bounds, two together within bounds, a part of a number; what holds of them. No conditions but those that each theorem names. -/
namespace Go.Proofs.Ytckkkdldljhehaa.Num

def wi (n m : Int) : Int := min (max n (-m)) m
def ad (a b m : Int) : Int := wi (wi a (min m 1099511627776) + wi b (min m 1099511627776)) (min m 1099511627776)
def pa (n a b : Int) : Int := if b = 0 then 0 else (wi n 268435456 * wi a 268435456).tdiv (wi b 268435456)

theorem wi_le (n m : Int) (h : 0 ≤ m) : -m ≤ wi n m ∧ wi n m ≤ m := by unfold wi; omega
theorem wi_ne (b m : Int) (h : 0 < m) : b ≠ 0 → wi b m ≠ 0 := by unfold wi; omega
theorem wi_zero (m : Int) (h : 0 ≤ m) : wi 0 m = 0 := by unfold wi; omega
theorem wi_neg (n m : Int) (h : 0 ≤ m) : wi (-n) m = - wi n m := by unfold wi; omega
theorem wi_wi (n m : Int) : wi (wi n m) m = wi n m := by unfold wi; omega
theorem wi_self (n m : Int) (h1 : -m ≤ n) (h2 : n ≤ m) : wi n m = n := by unfold wi; omega

theorem ad_le (a b m : Int) (h : 0 ≤ m) : -m ≤ ad a b m ∧ ad a b m ≤ m := by
  have := wi_le (wi a (min m 1099511627776) + wi b (min m 1099511627776)) (min m 1099511627776) (by omega)
  unfold ad; omega
theorem ad_comm (a b m : Int) : ad b a m = ad a b m := by unfold ad; rw [Int.add_comm]

theorem mul_le (x y m : Int) (hx : -m ≤ x ∧ x ≤ m) (hy : -m ≤ y ∧ y ≤ m) : -(m * m) ≤ x * y ∧ x * y ≤ m * m := by
  have h1 : x.natAbs ≤ m.natAbs := by omega
  have h2 : y.natAbs ≤ m.natAbs := by omega
  have h3 := Nat.mul_le_mul h1 h2
  rw [← Int.natAbs_mul, ← Int.natAbs_mul] at h3
  have h4 : 0 ≤ m * m := Int.mul_nonneg (by omega) (by omega)
  omega

theorem prod_le (n a : Int) : -72057594037927936 ≤ wi n 268435456 * wi a 268435456 ∧ wi n 268435456 * wi a 268435456 ≤ 72057594037927936 := by
  have := mul_le _ _ _ (wi_le n 268435456 (by omega)) (wi_le a 268435456 (by omega))
  omega

theorem pa_neg (n a b : Int) : pa (-n) a b = - pa n a b := by
  unfold pa; rw [wi_neg _ _ (by omega), Int.neg_mul, Int.neg_tdiv]; split <;> rfl
theorem pa_neg' (n a b : Int) : pa n (-a) b = - pa n a b := by
  unfold pa; rw [wi_neg a _ (by omega), Int.mul_neg, Int.neg_tdiv]; split <;> rfl
theorem pa_self (n b : Int) (h : b ≠ 0) : pa n b b = wi n 268435456 := by
  unfold pa; rw [if_neg h, Int.mul_tdiv_cancel _ (wi_ne b _ (by omega) h)]
theorem pa_le (n a b : Int) : -72057594037927936 ≤ pa n a b ∧ pa n a b ≤ 72057594037927936 := by
  have h := prod_le n a
  unfold pa; split
  · omega
  · have h2 := Int.natAbs_tdiv_le_natAbs (wi n 268435456 * wi a 268435456) (wi b 268435456)
    omega
end Go.Proofs.Ytckkkdldljhehaa.Num
