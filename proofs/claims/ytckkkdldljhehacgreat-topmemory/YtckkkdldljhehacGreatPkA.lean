/- Put together: Plain numbers, without the program: a number within bounds, two together within bounds, a part of a number; what holds of them. No conditions but those that each theorem names. Plain numbers, without the program: a row's eight numbers; what comes of two things that meet (depth, way, near, what is passed on, the places behind it); what holds of them. No conditions but those that each theorem names. What Within, Add and Part of package fix answer when called, in whatever world: each returns the plain number of the text before, and the world stands. Conditions: the numbers fit 64 bits; the bound is not below 0. What between, fixed, size, wayTo, speed, weigh, Good, Depth and Wall of package solve answer when called, in whatever world: each returns the plain answer of the texts before; nothing that was in memory before has changed. Conditions: of Depth the rows' numbers are within bounds, of Wall each number is within 2^28. What passOn and moveApart of package solve do when called with two pointers: the two cells hold the plain numbers of the texts before, and no other cell that was in memory before has changed. Conditions: the two cells are of two rows, are not frozen, and hold numbers within bounds; the masses are from 0 to 9; the way is 1 or -1. What Meet of package solve answers when called, in whatever world, at two rows that do not meet, or are both fixed: both as they were; nothing that was in memory before has changed. No other conditions. What Meet of package solve answers when called, in whatever world, at two good rows with a Depth below 1, or that are both fixed: both as they were; nothing that was in memory before has changed. No other conditions. What Meet of package solve answers when called, in whatever world, at two good rows that overlap and are not both fixed, across: the plain rows of the texts before; nothing that was in memory before has changed. No other conditions. What Meet of package solve answers when called, in whatever world, at two good rows that overlap and are not both fixed, up and down: the plain rows of the texts before; nothing that was in memory before has changed. No other conditions. What Meet of package solve answers when called, in whatever world: for every two rows the plain answer of the texts before; nothing that was in memory before has changed. No conditions. What Speed of package solve answers when called: how far a thing comes in one step; nothing that was in memory before has changed. -/
import Derived.Test.YtckkkdldljhehacGreatRows
import Derived.WalkKit
import Derived.ProofKit
import Derived.OpenShut
import Derived.RegionTactic
import Derived.BigRegion
import Derived.BigQuiet
import Derived.Deep.QuietTactic
import Derived.Deep.RegionWith
import Derived.Deep.OwnRows
namespace Go.Proofs.YtckkkdldljhehacGreat.Num

def wi (n m : Int) : Int := min (max n (-m)) m
def ad (a b m : Int) : Int := wi (wi a (min m 1099511627776) + wi b (min m 1099511627776)) (min m 1099511627776)
def pa (n a b : Int) : Int := if b = 0 then 0 else (wi n 268435456 * wi a 268435456).tdiv (wi b 268435456)

theorem wi_le (n m : Int) (h : 0 ≤ m) : -m ≤ wi n m ∧ wi n m ≤ m := by unfold wi; omega
theorem wi_ne (b m : Int) (h : 0 < m) : b ≠ 0 → wi b m ≠ 0 := by unfold wi; omega
theorem wi_zero (m : Int) (h : 0 ≤ m) : wi 0 m = 0 := by unfold wi; omega
theorem wi_neg (n m : Int) (h : 0 ≤ m) : wi (-n) m = - wi n m := by unfold wi; omega
theorem wi_wi (n m : Int) : wi (wi n m) m = wi n m := by unfold wi; omega
theorem wi_self (n m : Int) (h1 : -m ≤ n) (h2 : n ≤ m) : wi n m = n := by unfold wi; omega

theorem ad_le (a b m : Int) (h : 0 ≤ m) : -m ≤ ad a b m ∧ ad a b m ≤ m := by
  have := wi_le (wi a (min m 1099511627776) + wi b (min m 1099511627776)) (min m 1099511627776) (by omega)
  unfold ad; omega
theorem ad_comm (a b m : Int) : ad b a m = ad a b m := by unfold ad; rw [Int.add_comm]

theorem mul_le (x y m : Int) (hx : -m ≤ x ∧ x ≤ m) (hy : -m ≤ y ∧ y ≤ m) : -(m * m) ≤ x * y ∧ x * y ≤ m * m := by
  have h1 : x.natAbs ≤ m.natAbs := by omega
  have h2 : y.natAbs ≤ m.natAbs := by omega
  have h3 := Nat.mul_le_mul h1 h2
  rw [← Int.natAbs_mul, ← Int.natAbs_mul] at h3
  have h4 : 0 ≤ m * m := Int.mul_nonneg (by omega) (by omega)
  omega

theorem prod_le (n a : Int) : -72057594037927936 ≤ wi n 268435456 * wi a 268435456 ∧ wi n 268435456 * wi a 268435456 ≤ 72057594037927936 := by
  have := mul_le _ _ _ (wi_le n 268435456 (by omega)) (wi_le a 268435456 (by omega))
  omega

theorem pa_neg (n a b : Int) : pa (-n) a b = - pa n a b := by
  unfold pa; rw [wi_neg _ _ (by omega), Int.neg_mul, Int.neg_tdiv]; split <;> rfl
theorem pa_neg' (n a b : Int) : pa n (-a) b = - pa n a b := by
  unfold pa; rw [wi_neg a _ (by omega), Int.mul_neg, Int.neg_tdiv]; split <;> rfl
theorem pa_self (n b : Int) (h : b ≠ 0) : pa n b b = wi n 268435456 := by
  unfold pa; rw [if_neg h, Int.mul_tdiv_cancel _ (wi_ne b _ (by omega) h)]
theorem pa_le (n a b : Int) : -72057594037927936 ≤ pa n a b ∧ pa n a b ≤ 72057594037927936 := by
  have h := prod_le n a
  unfold pa; split
  · omega
  · have h2 := Int.natAbs_tdiv_le_natAbs (wi n 268435456 * wi a 268435456) (wi b 268435456)
    omega
end Go.Proofs.YtckkkdldljhehacGreat.Num
namespace Go.Proofs.YtckkkdldljhehacGreat.Num

/-- A row's eight numbers. -/
structure R8 where
  x : Int
  y : Int
  px : Int
  py : Int
  wd : Int
  ht : Int
  ms : Int
  rr : Int
deriving DecidableEq

def ab (x : Int) : Int := max x (-x)
def btw (n a b : Int) : Bool := decide (a ≤ n) && decide (n ≤ b)
def goodB (a : R8) : Bool :=
  (!decide (a.ms = 0) || (decide (a.px = 0) && decide (a.py = 0))) && btw a.x (-1048576) 1048576 && btw a.y (-1048576) 1048576 && btw a.px (-16777216) 16777216 && btw a.py (-16777216) 16777216 && btw a.wd 1 4096 && btw a.ht 1 4096 && btw a.ms 0 9 && btw a.rr 0 256
structure GoodP (a : R8) : Prop where
  fx : a.ms = 0 → a.px = 0 ∧ a.py = 0
  x : -1048576 ≤ a.x ∧ a.x ≤ 1048576
  y : -1048576 ≤ a.y ∧ a.y ≤ 1048576
  px : -16777216 ≤ a.px ∧ a.px ≤ 16777216
  py : -16777216 ≤ a.py ∧ a.py ≤ 16777216
  wd : 1 ≤ a.wd ∧ a.wd ≤ 4096
  ht : 1 ≤ a.ht ∧ a.ht ≤ 4096
  ms : 0 ≤ a.ms ∧ a.ms ≤ 9
  rr : 0 ≤ a.rr ∧ a.rr ≤ 256
theorem goodB_iff (a : R8) : goodB a = true ↔ GoodP a := by
  constructor
  · intro h
    simp only [goodB, btw, Bool.and_eq_true, Bool.or_eq_true, Bool.not_eq_true', decide_eq_true_eq, decide_eq_false_iff_not] at h
    obtain ⟨⟨⟨⟨⟨⟨⟨⟨h0, h1⟩, h2⟩, h3⟩, h4⟩, h5⟩, h6⟩, h7⟩, h8⟩ := h
    exact ⟨fun e => h0.resolve_left (fun f => f e), h1, h2, h3, h4, h5, h6, h7, h8⟩
  · rintro ⟨h0, h1, h2, h3, h4, h5, h6, h7, h8⟩
    simp only [goodB, btw, Bool.and_eq_true, Bool.or_eq_true, Bool.not_eq_true', decide_eq_true_eq, decide_eq_false_iff_not]
    refine ⟨⟨⟨⟨⟨⟨⟨⟨?_, h1⟩, h2⟩, h3⟩, h4⟩, h5⟩, h6⟩, h7⟩, h8⟩
    by_cases e : a.ms = 0
    · exact .inr (h0 e)
    · exact .inl e
theorem goodB_false {a : R8} (h : ¬ GoodP a) : goodB a = false := by
  cases e : goodB a
  · rfl
  · exact absurd ((goodB_iff a).1 e) h

def depthOf (a b u v : Int) : Int := u + v - ab (a - b)
def wayOf (a b : Int) : Int := if b < a then -1 else 1
def spd (p m : Int) : Int := pa p 1 m
def nearOf (p q m n way : Int) : Int := (spd p m - spd q n) * way
def timesOf (m n : Int) : Int := if m = 0 ∨ n = 0 then m + n else m * n
def sumOf (m n : Int) : Int := if m = 0 ∨ n = 0 then 1 else m + n
def passed (p q m n back way : Int) : Int := pa (nearOf p q m n way * timesOf m n) (256 + back) (sumOf m n * 256) * way
def pushA (p q m n back way : Int) : Int := if nearOf p q m n way ≤ 0 ∨ m = 0 then p else ad p (-(passed p q m n back way)) 16777216
def pushB (p q m n back way : Int) : Int := if nearOf p q m n way ≤ 0 ∨ n = 0 then q else ad q (passed p q m n back way) 16777216
def shareOf (m n d : Int) : Int := if m = 0 then 0 else if n = 0 then d else d.tdiv 2
def atA (a m n d way : Int) : Int := ad a (-way * shareOf m n d) 1048576
def atB (b m n d way : Int) : Int := ad b (way * (d - shareOf m n d)) 1048576

/-- Two things behind they met. -/
def metX (a b : R8) : R8 × R8 :=
  ({ a with x := atA a.x a.ms b.ms (depthOf a.x b.x a.wd b.wd) (wayOf a.x b.x), px := pushA a.px b.px a.ms b.ms (min a.rr b.rr) (wayOf a.x b.x) },
   { b with x := atB b.x a.ms b.ms (depthOf a.x b.x a.wd b.wd) (wayOf a.x b.x), px := pushB a.px b.px a.ms b.ms (min a.rr b.rr) (wayOf a.x b.x) })
def metY (a b : R8) : R8 × R8 :=
  ({ a with y := atA a.y a.ms b.ms (depthOf a.y b.y a.ht b.ht) (wayOf a.y b.y), py := pushA a.py b.py a.ms b.ms (min a.rr b.rr) (wayOf a.y b.y) },
   { b with y := atB b.y a.ms b.ms (depthOf a.y b.y a.ht b.ht) (wayOf a.y b.y), py := pushB a.py b.py a.ms b.ms (min a.rr b.rr) (wayOf a.y b.y) })
def overB (a b : R8) : Bool := goodB a && goodB b && decide (1 ≤ depthOf a.x b.x a.wd b.wd) && decide (1 ≤ depthOf a.y b.y a.ht b.ht)
def met (a b : R8) : R8 × R8 :=
  if overB a b then
    if a.ms = 0 ∧ b.ms = 0 then (a, b)
    else if depthOf a.x b.x a.wd b.wd < depthOf a.y b.y a.ht b.ht then metX a b else metY a b
  else (a, b)

theorem ab_neg (x : Int) : ab (-x) = ab x := by unfold ab; omega
theorem way_or (a b : Int) : wayOf a b = 1 ∨ wayOf a b = -1 := by unfold wayOf; split <;> simp
theorem way_neg (a b : Int) (h : a ≠ b) : wayOf (-a) (-b) = - wayOf a b := by
  unfold wayOf; by_cases h1 : b < a
  · rw [if_pos h1, if_neg (by omega)]; rfl
  · rw [if_neg h1, if_pos (by omega)]
theorem ad_neg (a b m : Int) (h : 0 ≤ m) : ad (-a) (-b) m = - ad a b m := by
  unfold ad; rw [wi_neg _ _ (by omega), wi_neg _ _ (by omega), ← Int.neg_add, wi_neg _ _ (by omega)]
theorem ad_zero (a m : Int) (h : -m ≤ a ∧ a ≤ m) (hm : m ≤ 1099511627776) : ad a 0 m = a := by
  unfold ad; rw [Int.min_eq_left hm, wi_zero _ (by omega), wi_self a m h.1 h.2, Int.add_zero, wi_self a m h.1 h.2]
theorem ad_self (a b m : Int) (h : -m ≤ a ∧ a ≤ m) (hb : -m ≤ b ∧ b ≤ m) (hm : m ≤ 1099511627776) (hs : -m ≤ a + b ∧ a + b ≤ m) : ad a b m = a + b := by
  unfold ad; rw [Int.min_eq_left hm, wi_self b m hb.1 hb.2, wi_self a m h.1 h.2, wi_self _ m hs.1 hs.2]
theorem spd_neg (p m : Int) : spd (-p) m = - spd p m := pa_neg p 1 m
theorem near_neg (p q m n way : Int) : nearOf (-p) (-q) m n (-way) = nearOf p q m n way := by
  unfold nearOf; rw [spd_neg, spd_neg, Int.mul_neg, ← Int.neg_mul]; congr 1; omega
theorem passed_neg (p q m n back way : Int) : passed (-p) (-q) m n back (-way) = - passed p q m n back way := by
  unfold passed; rw [near_neg, Int.mul_neg]
theorem pushA_neg (p q m n back way : Int) : pushA (-p) (-q) m n back (-way) = - pushA p q m n back way := by
  unfold pushA; rw [near_neg, passed_neg]; split
  · rfl
  · rw [ad_neg _ _ _ (by omega)]
theorem pushB_neg (p q m n back way : Int) : pushB (-p) (-q) m n back (-way) = - pushB p q m n back way := by
  unfold pushB; rw [near_neg, passed_neg]; split
  · rfl
  · rw [ad_neg _ _ _ (by omega)]
theorem atA_neg (a m n d way : Int) : atA (-a) m n d (-way) = - atA a m n d way := by
  unfold atA; rw [show - -way * shareOf m n d = -(-way * shareOf m n d) from by rw [Int.neg_mul, Int.neg_mul], ad_neg _ _ _ (by omega)]
theorem atB_neg (a m n d way : Int) : atB (-a) m n d (-way) = - atB a m n d way := by
  unfold atB; rw [Int.neg_mul, ad_neg _ _ _ (by omega)]
theorem depth_neg (a b u v : Int) : depthOf (-a) (-b) u v = depthOf a b u v := by
  unfold depthOf; rw [show -a - -b = -(a - b) from by omega, ab_neg]

/-- A thing turned round. -/
def turnR (r : R8) : R8 := { r with x := -r.x, y := -r.y, px := -r.px, py := -r.py }
theorem good_turn (a : R8) : goodB (turnR a) = goodB a := by
  rw [Bool.eq_iff_iff, goodB_iff, goodB_iff]
  constructor
  · rintro ⟨h0, h1, h2, h3, h4, h5, h6, h7, h8⟩
    simp only [turnR] at *
    exact ⟨by omega, by omega, by omega, by omega, by omega, h5, h6, h7, h8⟩
  · rintro ⟨h0, h1, h2, h3, h4, h5, h6, h7, h8⟩
    exact ⟨by simp only [turnR]; omega, by simp only [turnR]; omega, by simp only [turnR]; omega, by simp only [turnR]; omega, by simp only [turnR]; omega, h5, h6, h7, h8⟩
theorem over_turn (a b : R8) : overB (turnR a) (turnR b) = overB a b := by
  unfold overB; rw [good_turn, good_turn]; simp only [turnR, depth_neg]
theorem met_turn (a b : R8) (hx : a.x ≠ b.x) (hy : a.y ≠ b.y) : met (turnR a) (turnR b) = (turnR (met a b).1, turnR (met a b).2) := by
  unfold met
  rw [over_turn]
  by_cases h : overB a b = true
  · rw [if_pos h, if_pos h]
    by_cases h0 : a.ms = 0 ∧ b.ms = 0
    · rw [if_pos h0, if_pos (show (turnR a).ms = 0 ∧ (turnR b).ms = 0 from h0)]
    · rw [if_neg h0, if_neg (show ¬ ((turnR a).ms = 0 ∧ (turnR b).ms = 0) from h0)]
      by_cases h1 : depthOf a.x b.x a.wd b.wd < depthOf a.y b.y a.ht b.ht
      · rw [if_pos h1, if_pos (show depthOf (turnR a).x (turnR b).x (turnR a).wd (turnR b).wd < depthOf (turnR a).y (turnR b).y (turnR a).ht (turnR b).ht from by simp only [turnR, depth_neg]; exact h1)]
        simp only [metX, turnR, depth_neg, way_neg _ _ hx, pushA_neg, pushB_neg, atA_neg, atB_neg]
      · rw [if_neg h1, if_neg (show ¬ depthOf (turnR a).x (turnR b).x (turnR a).wd (turnR b).wd < depthOf (turnR a).y (turnR b).y (turnR a).ht (turnR b).ht from by simp only [turnR, depth_neg]; exact h1)]
        simp only [metY, turnR, depth_neg, way_neg _ _ hy, pushA_neg, pushB_neg, atA_neg, atB_neg]
  · rw [if_neg h, if_neg h]

/-! What is passed on, its bounds. -/
theorem pa_abs (n a b k : Int) (hn : -k ≤ n * a ∧ n * a ≤ k) (h1 : -268435456 ≤ n ∧ n ≤ 268435456) (h2 : -268435456 ≤ a ∧ a ≤ 268435456) : -k ≤ pa n a b ∧ pa n a b ≤ k := by
  unfold pa; split
  · omega
  · rw [wi_self n _ h1.1 h1.2, wi_self a _ h2.1 h2.2]
    have h := Int.natAbs_tdiv_le_natAbs (n * a) (wi b 268435456)
    omega
theorem spd_le (p m : Int) (k : Int) (hk : k ≤ 268435456) (hp : -k ≤ p ∧ p ≤ k) : -k ≤ spd p m ∧ spd p m ≤ k :=
  pa_abs p 1 m k (by omega) (by omega) (by omega)
theorem near_le (p q m n way k : Int) (hk : k ≤ 268435456) (hp : -k ≤ p ∧ p ≤ k) (hq : -k ≤ q ∧ q ≤ k) (hw : way = 1 ∨ way = -1) : -(2 * k) ≤ nearOf p q m n way ∧ nearOf p q m n way ≤ 2 * k := by
  have h1 := spd_le p m k hk hp
  have h2 := spd_le q n k hk hq
  unfold nearOf
  rcases hw with rfl | rfl <;> omega
theorem times_le (m n : Int) (hm : 0 ≤ m ∧ m ≤ 9) (hn : 0 ≤ n ∧ n ≤ 9) : 0 ≤ timesOf m n ∧ timesOf m n ≤ 81 := by
  unfold timesOf; split
  · omega
  · have := mul_le m n 9 (by omega) (by omega)
    have := Int.mul_nonneg hm.1 hn.1
    omega
theorem sum_le (m n : Int) (hm : 0 ≤ m ∧ m ≤ 9) (hn : 0 ≤ n ∧ n ≤ 9) : 1 ≤ sumOf m n ∧ sumOf m n ≤ 18 := by
  unfold sumOf; split <;> omega
theorem sum_two (m n : Int) (hm : 0 < m) (hn : 0 < n) : 2 ≤ sumOf m n := by
  unfold sumOf; split <;> omega
theorem mul_le' (x y k l : Int) (hx : -k ≤ x ∧ x ≤ k) (hy : 0 ≤ y ∧ y ≤ l) : -(k * l) ≤ x * y ∧ x * y ≤ k * l := by
  have h1 : x.natAbs ≤ k.natAbs := by omega
  have h2 : y.natAbs ≤ l.natAbs := by omega
  have h3 := Nat.mul_le_mul h1 h2
  rw [← Int.natAbs_mul, ← Int.natAbs_mul] at h3
  have h4 : 0 ≤ k * l := Int.mul_nonneg (by omega) (by omega)
  omega
/-- Of small pushes of two that move less than 2^24 is passed on. -/
theorem passed_le (p q m n back way : Int) (hp : -16384 ≤ p ∧ p ≤ 16384) (hq : -16384 ≤ q ∧ q ≤ 16384) (hm : 0 < m ∧ m ≤ 9) (hn : 0 < n ∧ n ≤ 9) (hb : 0 ≤ back ∧ back ≤ 256) (hw : way = 1 ∨ way = -1) :
    -2654208 ≤ passed p q m n back way ∧ passed p q m n back way ≤ 2654208 := by
  have h1 := near_le p q m n way 16384 (by omega) hp hq hw
  have h2 := times_le m n (by omega) (by omega)
  have h3 := sum_le m n (by omega) (by omega)
  have h4 := sum_two m n hm.1 hn.1
  have h5 := mul_le' _ _ _ _ h1 h2
  have h6 : -2654208 ≤ pa (nearOf p q m n way * timesOf m n) (256 + back) (sumOf m n * 256) ∧ pa (nearOf p q m n way * timesOf m n) (256 + back) (sumOf m n * 256) ≤ 2654208 := by
    generalize nearOf p q m n way * timesOf m n = z at *
    generalize sumOf m n = s at *
    unfold pa
    rw [if_neg (by omega), wi_self z _ (by omega) (by omega), wi_self _ _ (by omega) (by omega), wi_self _ _ (by omega) (by omega)]
    have h7 : (z * (256 + back)).natAbs ≤ 2654208 * (s * 256).natAbs := by
      rw [Int.natAbs_mul]
      exact Nat.mul_le_mul (by omega) (by omega)
    have h8 : ((z * (256 + back)).tdiv (s * 256)).natAbs ≤ 2654208 := by
      rw [Int.natAbs_tdiv]
      exact Nat.div_le_of_le_mul (by rw [Nat.mul_comm]; exact h7)
    omega
  unfold passed
  rcases hw with rfl | rfl <;> omega
theorem push_sum (p q m n back way : Int) (hp : -16384 ≤ p ∧ p ≤ 16384) (hq : -16384 ≤ q ∧ q ≤ 16384) (hm : 0 < m ∧ m ≤ 9) (hn : 0 < n ∧ n ≤ 9) (hb : 0 ≤ back ∧ back ≤ 256) (hw : way = 1 ∨ way = -1) :
    pushA p q m n back way + pushB p q m n back way = p + q := by
  have h := passed_le p q m n back way hp hq hm hn hb hw
  unfold pushA pushB
  by_cases h0 : nearOf p q m n way ≤ 0
  · rw [if_pos (.inl h0), if_pos (.inl h0)]
  · rw [if_neg (by omega), if_neg (by omega), ad_self _ _ _ (by omega) (by omega) (by omega) (by omega), ad_self _ _ _ (by omega) (by omega) (by omega) (by omega)]
    omega
theorem pushA_le (p q m n back way : Int) (hp : -16777216 ≤ p ∧ p ≤ 16777216) : -16777216 ≤ pushA p q m n back way ∧ pushA p q m n back way ≤ 16777216 := by
  unfold pushA; split
  · exact hp
  · exact ad_le _ _ _ (by omega)
theorem pushB_le (p q m n back way : Int) (hq : -16777216 ≤ q ∧ q ≤ 16777216) : -16777216 ≤ pushB p q m n back way ∧ pushB p q m n back way ≤ 16777216 := by
  unfold pushB; split
  · exact hq
  · exact ad_le _ _ _ (by omega)
theorem pushA_fix (p q n back way : Int) : pushA p q 0 n back way = p := by unfold pushA; rw [if_pos (.inr rfl)]
theorem pushB_fix (p q m back way : Int) : pushB p q m 0 back way = q := by unfold pushB; rw [if_pos (.inr rfl)]
theorem share_le (m n d : Int) (hd : 0 ≤ d) : 0 ≤ shareOf m n d ∧ shareOf m n d ≤ d := by
  unfold shareOf; split
  · omega
  · split
    · omega
    · rw [Int.tdiv_eq_ediv_of_nonneg hd]; omega
theorem atA_fix (a n d way : Int) (ha : -1048576 ≤ a ∧ a ≤ 1048576) : atA a 0 n d way = a := by
  unfold atA shareOf; rw [if_pos rfl, Int.mul_zero, ad_zero _ _ ha (by omega)]
theorem atB_fix (b m d way : Int) (hm : m ≠ 0) (hb : -1048576 ≤ b ∧ b ≤ 1048576) : atB b m 0 d way = b := by
  unfold atB shareOf; rw [if_neg hm, if_pos rfl, Int.sub_self, Int.mul_zero, ad_zero _ _ hb (by omega)]
theorem atA_self (a m n d way : Int) (ha : -524288 ≤ a ∧ a ≤ 524288) (hd : 0 ≤ d ∧ d ≤ 8192) (hw : way = 1 ∨ way = -1) : atA a m n d way = a - way * shareOf m n d := by
  have h := share_le m n d hd.1
  unfold atA
  generalize shareOf m n d = s at *
  rcases hw with rfl | rfl <;> rw [ad_self _ _ _ (by omega) (by omega) (by omega) (by omega)] <;> omega
theorem atB_self (b m n d way : Int) (hb : -524288 ≤ b ∧ b ≤ 524288) (hd : 0 ≤ d ∧ d ≤ 8192) (hw : way = 1 ∨ way = -1) : atB b m n d way = b + way * (d - shareOf m n d) := by
  have h := share_le m n d hd.1
  unfold atB
  generalize shareOf m n d = s at *
  rcases hw with rfl | rfl <;> rw [ad_self _ _ _ (by omega) (by omega) (by omega) (by omega)]
/-- Who has met does not overlap any more. -/
theorem apart (a b u v m n : Int) (ha : -524288 ≤ a ∧ a ≤ 524288) (hb : -524288 ≤ b ∧ b ≤ 524288) (hu : 1 ≤ u ∧ u ≤ 4096) (hv : 1 ≤ v ∧ v ≤ 4096) (hd : 1 ≤ depthOf a b u v) :
    depthOf (atA a m n (depthOf a b u v) (wayOf a b)) (atB b m n (depthOf a b u v) (wayOf a b)) u v = 0 := by
  have hle : depthOf a b u v ≤ 8192 := by unfold depthOf ab; omega
  rw [atA_self _ _ _ _ _ ha ⟨by omega, hle⟩ (way_or a b), atB_self _ _ _ _ _ hb ⟨by omega, hle⟩ (way_or a b)]
  generalize hD : depthOf a b u v = d at *
  generalize shareOf m n d = s at *
  unfold depthOf ab at *
  unfold wayOf
  split <;> omega

/-- Far from the bounds. -/
def calmB (r : R8) : Bool := (wi r.x 524288 == r.x) && (wi r.y 524288 == r.y) && (wi r.px 16384 == r.px) && (wi r.py 16384 == r.py)
structure CalmP (r : R8) : Prop where
  x : -524288 ≤ r.x ∧ r.x ≤ 524288
  y : -524288 ≤ r.y ∧ r.y ≤ 524288
  px : -16384 ≤ r.px ∧ r.px ≤ 16384
  py : -16384 ≤ r.py ∧ r.py ≤ 16384
theorem wi_eq {n m : Int} (hm : 0 ≤ m) (h : wi n m = n) : -m ≤ n ∧ n ≤ m := by
  have := wi_le n m hm; omega
theorem calm_of {r : R8} (h : calmB r = true) : CalmP r := by
  simp only [calmB, Bool.and_eq_true, beq_iff_eq] at h
  obtain ⟨⟨⟨h1, h2⟩, h3⟩, h4⟩ := h
  exact ⟨wi_eq (by omega) h1, wi_eq (by omega) h2, wi_eq (by omega) h3, wi_eq (by omega) h4⟩

theorem over_of {a b : R8} (h : overB a b = true) : GoodP a ∧ GoodP b ∧ 1 ≤ depthOf a.x b.x a.wd b.wd ∧ 1 ≤ depthOf a.y b.y a.ht b.ht := by
  simp only [overB, Bool.and_eq_true, decide_eq_true_eq] at h
  exact ⟨(goodB_iff a).1 h.1.1.1, (goodB_iff b).1 h.1.1.2, h.1.2, h.2⟩
/-- What the one loses the other one has. -/
theorem met_sums (a b : R8) (h : overB a b = true) (ca : CalmP a) (cb : CalmP b) (ha : a.ms ≠ 0) (hb : b.ms ≠ 0) :
    (met a b).1.px + (met a b).2.px = a.px + b.px ∧ (met a b).1.py + (met a b).2.py = a.py + b.py := by
  obtain ⟨ga, gb, -, -⟩ := over_of h
  have := ga.ms; have := gb.ms; have := ga.rr; have := gb.rr
  unfold met
  rw [if_pos h, if_neg (fun e => ha e.1)]
  split
  · exact ⟨push_sum _ _ _ _ _ _ ca.px cb.px (by omega) (by omega) (by omega) (way_or _ _), rfl⟩
  · exact ⟨rfl, push_sum _ _ _ _ _ _ ca.py cb.py (by omega) (by omega) (by omega) (way_or _ _)⟩
theorem met_good (a b : R8) (ga : GoodP a) (gb : GoodP b) : GoodP (met a b).1 ∧ GoodP (met a b).2 := by
  unfold met
  split
  · split
    · exact ⟨ga, gb⟩
    · split
      · exact ⟨⟨fun e => ⟨by have e : a.ms = 0 := e
                             show pushA _ _ a.ms _ _ _ = 0
                             rw [e, pushA_fix]; exact (ga.fx e).1, (ga.fx e).2⟩, ad_le _ _ _ (by omega), ga.y, pushA_le _ _ _ _ _ _ ga.px, ga.py, ga.wd, ga.ht, ga.ms, ga.rr⟩,
          ⟨fun e => ⟨by have e : b.ms = 0 := e
                        show pushB _ _ _ b.ms _ _ = 0
                        rw [e, pushB_fix]; exact (gb.fx e).1, (gb.fx e).2⟩, ad_le _ _ _ (by omega), gb.y, pushB_le _ _ _ _ _ _ gb.px, gb.py, gb.wd, gb.ht, gb.ms, gb.rr⟩⟩
      · exact ⟨⟨fun e => ⟨(ga.fx e).1, by have e : a.ms = 0 := e
                                          show pushA _ _ a.ms _ _ _ = 0
                                          rw [e, pushA_fix]; exact (ga.fx e).2⟩, ga.x, ad_le _ _ _ (by omega), ga.px, pushA_le _ _ _ _ _ _ ga.py, ga.wd, ga.ht, ga.ms, ga.rr⟩,
          ⟨fun e => ⟨(gb.fx e).1, by have e : b.ms = 0 := e
                                     show pushB _ _ _ b.ms _ _ = 0
                                     rw [e, pushB_fix]; exact (gb.fx e).2⟩, gb.x, ad_le _ _ _ (by omega), gb.px, pushB_le _ _ _ _ _ _ gb.py, gb.wd, gb.ht, gb.ms, gb.rr⟩⟩
  · exact ⟨ga, gb⟩
theorem met_kept (a b : R8) : (met a b).1.wd = a.wd ∧ (met a b).1.ht = a.ht ∧ (met a b).1.ms = a.ms ∧ (met a b).1.rr = a.rr ∧ (met a b).2.wd = b.wd ∧ (met a b).2.ht = b.ht ∧ (met a b).2.ms = b.ms ∧ (met a b).2.rr = b.rr := by
  unfold met
  split
  · split
    · exact ⟨rfl, rfl, rfl, rfl, rfl, rfl, rfl, rfl⟩
    · split <;> exact ⟨rfl, rfl, rfl, rfl, rfl, rfl, rfl, rfl⟩
  · exact ⟨rfl, rfl, rfl, rfl, rfl, rfl, rfl, rfl⟩
theorem met_fixA (a b : R8) (ha : a.ms = 0) : (met a b).1 = a := by
  unfold met
  split
  · rename_i h
    obtain ⟨ga, gb, -, -⟩ := over_of h
    obtain ⟨x, y, px, py, wd, ht, ms, rr⟩ := a
    obtain rfl : ms = 0 := ha
    split
    · rfl
    · split
      · simp only [metX, pushA_fix, atA_fix _ _ _ _ ga.x]
      · simp only [metY, pushA_fix, atA_fix _ _ _ _ ga.y]
  · rfl
theorem met_fixB (a b : R8) (hb : b.ms = 0) : (met a b).2 = b := by
  unfold met
  split
  · rename_i h
    obtain ⟨ga, gb, -, -⟩ := over_of h
    obtain ⟨x, y, px, py, wd, ht, ms, rr⟩ := b
    obtain rfl : ms = 0 := hb
    split
    · rfl
    · rename_i h0
      have ha : a.ms ≠ 0 := fun e => h0 ⟨e, rfl⟩
      split
      · simp only [metX, pushB_fix, atB_fix _ _ _ _ ha gb.x]
      · simp only [metY, pushB_fix, atB_fix _ _ _ _ ha gb.y]
  · rfl
theorem met_apart (a b : R8) (h : overB a b = true) (ca : CalmP a) (cb : CalmP b) (h0 : ¬ (a.ms = 0 ∧ b.ms = 0)) :
    depthOf (met a b).1.x (met a b).2.x (met a b).1.wd (met a b).2.wd = 0 ∨ depthOf (met a b).1.y (met a b).2.y (met a b).1.ht (met a b).2.ht = 0 := by
  obtain ⟨ga, gb, hx, hy⟩ := over_of h
  unfold met
  rw [if_pos h, if_neg h0]
  split
  · exact .inl (apart _ _ _ _ _ _ ca.x cb.x ga.wd gb.wd hx)
  · exact .inr (apart _ _ _ _ _ _ ca.y cb.y ga.ht gb.ht hy)

/-! A wall. -/
def wallAt (at' half wide : Int) : Int := if at' < half then half else if max (wide - half) half < at' then max (wide - half) half else at'
def wallPush (at' push half wide back : Int) : Int := if at' < half then pa (ab push) (wi back 256) 256 else if max (wide - half) half < at' then -(pa (ab push) (wi back 256) 256) else push
theorem left_le (push back : Int) (hp : -268435456 ≤ push ∧ push ≤ 268435456) : -(ab push) ≤ pa (ab push) (wi back 256) 256 ∧ pa (ab push) (wi back 256) 256 ≤ ab push := by
  have h1 : 0 ≤ ab push ∧ ab push ≤ 268435456 := by unfold ab; omega
  have h2 := wi_le back 256 (by omega)
  generalize ab push = z at *
  generalize wi back 256 = s at *
  unfold pa
  rw [if_neg (by omega), wi_self z _ (by omega) (by omega), wi_self _ _ (by omega) (by omega), wi_self _ _ (by omega) (by omega)]
  have h7 : (z * s).natAbs ≤ z.natAbs * 256 := by
    rw [Int.natAbs_mul]
    exact Nat.mul_le_mul (Nat.le_refl _) (by omega)
  have h8 : ((z * s).tdiv 256).natAbs ≤ z.natAbs := by
    rw [Int.natAbs_tdiv]
    exact Nat.div_le_of_le_mul (by rw [Nat.mul_comm]; exact h7)
  omega
end Go.Proofs.YtckkkdldljhehacGreat.Num
namespace Go.Proofs.YtckkkdldljhehacGreat
open Go.ChangeShapes Go.WideShapes Go.ChangeAt Go.RowKit
open Num (wi ad pa)

theorem wrap_id (x : Int) (h1 : -9223372036854775808 ≤ x) (h2 : x ≤ 9223372036854775807) : wrap64 x = x := by unfold wrap64; omega
theorem ret_int {k : IntKind} {a b : Int} (h : a = b) : Ending.returned (.int k a) = .returned (.int k b) := by rw [h]

set_option maxHeartbeats 400000 in
theorem within_any (n m : Int) (h0 : 0 ≤ m) (h1 : m ≤ 9223372036854775807) (w : World) :
    Calls Tryz.prog 96 #[.int .i64 n, .int .i64 m] w fun e w' => e = .returned (.int .i64 (wi n m)) ∧ w' = w := by
  go_enter Tryz.func96, Tryz.ntmps96
  go_wp2
  all_goals
    go_ret
    exact ⟨ret_int (by unfold wi; omega), rfl⟩

set_option maxHeartbeats 400000 in
theorem add_any (a b m : Int) (h0 : 0 ≤ m) (h1 : m ≤ 9223372036854775807) (w : World) :
    Calls Tryz.prog 66 #[.int .i64 a, .int .i64 b, .int .i64 m] w fun e w' => e = .returned (.int .i64 (ad a b m)) ∧ w' = w := by
  by_cases hm : m ≤ 1099511627776
  · have ha := Num.wi_le a m h0
    have hb := Num.wi_le b m h0
    go_enter Tryz.func66, Tryz.ntmps66
    go_wp2_with (go_at_call 96; refine (within_any _ _ (by omega) (by omega) _).mono ?_; rintro e w' ⟨rfl, rfl⟩)
    all_goals
      go_ret
      exact ⟨ret_int (by unfold ad; rw [Int.min_eq_left hm]), rfl⟩
  · have ha := Num.wi_le a 1099511627776 (by omega)
    have hb := Num.wi_le b 1099511627776 (by omega)
    go_enter Tryz.func66, Tryz.ntmps66
    go_wp2_with (go_at_call 96; refine (within_any _ _ (by omega) (by omega) _).mono ?_; rintro e w' ⟨rfl, rfl⟩)
    all_goals
      go_ret
      exact ⟨ret_int (by unfold ad; rw [Int.min_eq_right (by omega)]), rfl⟩

set_option maxHeartbeats 400000 in
theorem part_any (n a b : Int) (w : World) :
    Calls Tryz.prog 149 #[.int .i64 n, .int .i64 a, .int .i64 b] w fun e w' => e = .returned (.int .i64 (pa n a b)) ∧ w' = w := by
  by_cases hb : b = 0
  · go_enter Tryz.func149, Tryz.ntmps149
    go_wp2
    go_ret
    exact ⟨ret_int (by unfold pa; rw [if_pos hb]), rfl⟩
  · have hp := Num.prod_le n a
    have hz := Num.wi_ne b 268435456 (by omega) hb
    have hw := Num.wi_le b 268435456 (by omega)
    go_enter Tryz.func149, Tryz.ntmps149
    go_wp2_with (go_at_call 96; refine (within_any _ _ (by omega) (by omega) _).mono ?_; rintro e w' ⟨rfl, rfl⟩)
    go_ret
    exact ⟨ret_int (by have hq := Num.pa_le n a b; unfold pa at hq ⊢; rw [if_neg hb] at hq ⊢; exact wrap_id _ (by omega) (by omega)), rfl⟩

end Go.Proofs.YtckkkdldljhehacGreat
namespace Go.Proofs.YtckkkdldljhehacGreat
open Go.ChangeShapes Go.WideShapes Go.ChangeAt Go.RowKit
open Num

def rowV (r : R8) : Value := .agg #[.int .i64 r.x, .int .i64 r.y, .int .i64 r.px, .int .i64 r.py, .int .i64 r.wd, .int .i64 r.ht, .int .i64 r.ms, .int .i64 r.rr]
theorem ret_bool {a b : Bool} (h : a = b) : Ending.returned (.bool a) = .returned (.bool b) := by rw [h]
theorem ret2 {a b c d : Int} (h : a = c) (g : b = d) : Ending.returned (.tuple #[.int .i64 a, .int .i64 b]) = .returned (.tuple #[.int .i64 c, .int .i64 d]) := by rw [h, g]
theorem bal {a w : World} (h : Below a.heap.size a w) (o : Obj) : Below a.heap.size a (w.alloc o) := h.alloc h.size o
theorem bcall {a w w' : World} (h : Below a.heap.size a w) (h' : Below w.heap.size w w') : Below a.heap.size a w' := h.trans (h'.mono h.size)
theorem bcell {W w1 : World} (hb : Below W.heap.size W w1) : (∀ b o, b < W.heap.size → w1.cell? ⟨b, o, none⟩ = W.cell? ⟨b, o, none⟩) ∧ (∀ b o, b < W.heap.size → w1.frozen? ⟨b, o, none⟩ = W.frozen? ⟨b, o, none⟩) :=
  ⟨fun b o h => hb.cell (p := ⟨b, o, none⟩) h, fun b o h => hb.frozen (p := ⟨b, o, none⟩) h⟩

theorem bdrewN {B : Nat} {a w : World} (h : Below B a w) (n : Nat) : Below B a (w.drewN n) := ⟨h.os, h.tape, h.output, h.size, h.block⟩

theorem between_any (n a b : Int) (w : World) :
    Calls Tryz.prog 162 #[.int .i64 n, .int .i64 a, .int .i64 b] w fun e w' => e = .returned (.bool (btw n a b)) ∧ w' = w := by
  go_enter Tryz.func162, Tryz.ntmps162
  go_wp2
  · go_ret
    exact ⟨ret_bool (by simp [btw]; omega), rfl⟩
  · go_ret
    exact ⟨ret_bool (by simp [btw]; omega), rfl⟩

theorem fixed_any (a : R8) (w : World) :
    Calls Tryz.prog 145 #[rowV a] w fun e w' => e = .returned (.bool (a.ms == 0)) ∧ Below w.heap.size w w' := by
  unfold rowV
  go_enter Tryz.func145, Tryz.ntmps145
  go_wp2
  go_ret
  exact ⟨rfl, bal (Below.refl _ _) _⟩

theorem size_any (x : Int) (h : -9223372036854775807 ≤ x ∧ x ≤ 9223372036854775807) (w : World) :
    Calls Tryz.prog 150 #[.int .i64 x] w fun e w' => e = .returned (.int .i64 (ab x)) ∧ w' = w := by
  go_enter Tryz.func150, Tryz.ntmps150
  go_wp2
  all_goals
    go_ret
    exact ⟨ret_int (by unfold ab; omega), rfl⟩

theorem wayTo_any (a b : Int) (w : World) :
    Calls Tryz.prog 146 #[.int .i64 a, .int .i64 b] w fun e w' => e = .returned (.int .i64 (wayOf a b)) ∧ w' = w := by
  by_cases h : b < a
  all_goals
    go_enter Tryz.func146, Tryz.ntmps146
    go_wp2
    go_ret
    exact ⟨ret_int (by simp [wayOf, h]), rfl⟩

theorem speed_any (p m : Int) (w : World) :
    Calls Tryz.prog 135 #[.int .i64 p, .int .i64 m] w fun e w' => e = .returned (.int .i64 (spd p m)) ∧ w' = w := by
  go_enter Tryz.func135, Tryz.ntmps135
  go_wp2_with (go_at_call 149; refine (part_any _ _ _ _).mono ?_; rintro e w' ⟨rfl, rfl⟩)
  go_ret
  exact ⟨rfl, rfl⟩

theorem weigh_any (m n : Int) (hm : 0 ≤ m ∧ m ≤ 9) (hn : 0 ≤ n ∧ n ≤ 9) (w : World) :
    Calls Tryz.prog 163 #[.agg #[.int .i64 m, .int .i64 n]] w fun e w' => e = .returned (.tuple #[.int .i64 (timesOf m n), .int .i64 (sumOf m n)]) ∧ Below w.heap.size w w' := by
  have hmn := mul_le' m n 9 9 (by omega) hn
  by_cases h : m = 0
  · go_enter Tryz.func163, Tryz.ntmps163
    go_wp2
    exact bodyPost_ret (by simp [results, Tryz.results163, go_sem] <;> first | exact ⟨rfl, rfl⟩ | rfl) rfl ⟨by simp [timesOf, sumOf, h], bal (Below.refl _ _) _⟩
  by_cases h2 : n = 0
  · go_enter Tryz.func163, Tryz.ntmps163
    go_wp2
    exact bodyPost_ret (by simp [results, Tryz.results163, go_sem] <;> first | exact ⟨rfl, rfl⟩ | rfl) rfl ⟨by simp [timesOf, sumOf, h2], bal (Below.refl _ _) _⟩
  have e1 : (m == 0) = false := by simp [h]
  have e2 : (n == 0) = false := by simp [h2]
  go_enter Tryz.func163, Tryz.ntmps163
  go_wp2
  go_quiet (fail)
  go_wp2
  exact bodyPost_ret (by simp [results, Tryz.results163, go_sem] <;> first | exact ⟨rfl, rfl⟩ | rfl) rfl ⟨by simp [timesOf, sumOf, h, h2], by repeat (first | exact Below.refl _ _ | refine Below.drew ?_ | refine bdrewN ?_ _ | refine bal ?_ _)⟩

set_option maxHeartbeats 1000000 in
theorem good_any (a : R8) (w : World) :
    Calls Tryz.prog 143 #[rowV a] w fun e w' => e = .returned (.bool (goodB a)) ∧ Below w.heap.size w w' := by
  obtain ⟨x, y, px, py, wd, ht, ms, rr⟩ := a
  unfold rowV
  go_enter Tryz.func143, Tryz.ntmps143
  go_wp2_with fail
  refine (fixed_any ⟨x, y, px, py, wd, ht, ms, rr⟩ _).mono ?_
  rintro e w1 ⟨rfl, hb⟩
  obtain ⟨hc, hf⟩ := bcell hb
  have hz := hb.size
  simp at hz
  have h0 : Below w.heap.size w w1 := bcall (bal (Below.refl _ _) _) hb
  clear hb
  go_wp2_with (go_at_call 162; refine (between_any _ _ _ _).mono ?_; rintro e w' ⟨rfl, rfl⟩)
  all_goals
    go_ret
    exact ⟨ret_bool (by simp_all [goodB]), h0⟩

set_option maxHeartbeats 1000000 in
theorem depth_any (a b : R8) (ga : GoodP a) (gb : GoodP b) (w : World) :
    Calls Tryz.prog 144 #[rowV a, rowV b] w fun e w' => e = .returned (.tuple #[.int .i64 (depthOf a.x b.x a.wd b.wd), .int .i64 (depthOf a.y b.y a.ht b.ht)]) ∧ Below w.heap.size w w' := by
  obtain ⟨x, y, px, py, wd, ht, ms, rr⟩ := a
  obtain ⟨x', y', px', py', wd', ht', ms', rr'⟩ := b
  obtain ⟨-, h1, h2, -, -, h3, h4, -, -⟩ := ga
  obtain ⟨-, h1', h2', -, -, h3', h4', -, -⟩ := gb
  simp only at h1 h2 h3 h4 h1' h2' h3' h4'
  have k1 : 0 ≤ ab (x - x') ∧ ab (x - x') ≤ 2097152 := by unfold ab; omega
  have k2 : 0 ≤ ab (y - y') ∧ ab (y - y') ≤ 2097152 := by unfold ab; omega
  unfold rowV depthOf
  go_enter Tryz.func144, Tryz.ntmps144
  go_wp2
  go_quiet (first | (go_at_call 150; exact Calls.quiet_of_same (size_any _ (by omega) _)))
  go_wp2
  exact bodyPost_ret (by simp [results, Tryz.results144, go_sem] <;> first | exact ⟨rfl, rfl⟩ | rfl) rfl ⟨rfl, by repeat (first | exact Below.refl _ _ | refine Below.drew ?_ | refine bdrewN ?_ _ | refine bal ?_ _)⟩

set_option maxHeartbeats 1000000 in
theorem wall_any (at' push half wide back : Int) (h1 : -268435456 ≤ at' ∧ at' ≤ 268435456) (h2 : -268435456 ≤ push ∧ push ≤ 268435456) (h3 : -268435456 ≤ half ∧ half ≤ 268435456) (h4 : -268435456 ≤ wide ∧ wide ≤ 268435456) (w : World) :
    Calls Tryz.prog 119 #[.int .i64 at', .int .i64 push, .int .i64 half, .int .i64 wide, .int .i64 back] w fun e w' => e = .returned (.tuple #[.int .i64 (wallAt at' half wide), .int .i64 (wallPush at' push half wide back)]) ∧ w' = w := by
  have k := left_le push back h2
  have k1 : 0 ≤ ab push ∧ ab push ≤ 268435456 := by unfold ab; omega
  by_cases c1 : at' < half
  · go_enter Tryz.func119, Tryz.ntmps119
    go_wp2_with (first | (go_at_call 150; refine (size_any _ (by omega) _).mono ?_; rintro e w' ⟨rfl, rfl⟩) | (go_at_call 96; refine (within_any _ _ (by omega) (by omega) _).mono ?_; rintro e w' ⟨rfl, rfl⟩) | (go_at_call 149; refine (part_any _ _ _ _).mono ?_; rintro e w' ⟨rfl, rfl⟩))
    all_goals
      exact bodyPost_ret (by simp [results, Tryz.results119, go_sem] <;> first | exact ⟨rfl, rfl⟩ | rfl) rfl ⟨ret2 (by unfold wallAt; rw [if_pos c1]) (by unfold wallPush; rw [if_pos c1]), rfl⟩
  by_cases c2 : max (wide - half) half < at'
  · go_enter Tryz.func119, Tryz.ntmps119
    go_wp2_with (first | (go_at_call 150; refine (size_any _ (by omega) _).mono ?_; rintro e w' ⟨rfl, rfl⟩) | (go_at_call 96; refine (within_any _ _ (by omega) (by omega) _).mono ?_; rintro e w' ⟨rfl, rfl⟩) | (go_at_call 149; refine (part_any _ _ _ _).mono ?_; rintro e w' ⟨rfl, rfl⟩))
    all_goals
      exact bodyPost_ret (by simp [results, Tryz.results119, go_sem] <;> first | exact ⟨rfl, rfl⟩ | rfl) rfl ⟨ret2 (by unfold wallAt; rw [if_neg (by omega), if_pos (by omega)]; omega) (by unfold wallPush; rw [if_neg (by omega), if_pos (by omega)]), rfl⟩
  · go_enter Tryz.func119, Tryz.ntmps119
    go_wp2_with (first | (go_at_call 150; refine (size_any _ (by omega) _).mono ?_; rintro e w' ⟨rfl, rfl⟩) | (go_at_call 96; refine (within_any _ _ (by omega) (by omega) _).mono ?_; rintro e w' ⟨rfl, rfl⟩) | (go_at_call 149; refine (part_any _ _ _ _).mono ?_; rintro e w' ⟨rfl, rfl⟩))
    all_goals
      exact bodyPost_ret (by simp [results, Tryz.results119, go_sem] <;> first | exact ⟨rfl, rfl⟩ | rfl) rfl ⟨ret2 (by unfold wallAt; rw [if_neg (by omega), if_neg (by omega)]) (by unfold wallPush; rw [if_neg (by omega), if_neg (by omega)]), rfl⟩
end Go.Proofs.YtckkkdldljhehacGreat
namespace Go.Proofs.YtckkkdldljhehacGreat
open Go.ChangeShapes Go.WideShapes Go.ChangeAt Go.RowKit
open Num

/-- All blocks but two are as they were. -/
structure Kept (ga gb : Nat) (w w' : World) : Prop where
  os : w'.os = w.os
  tape : w'.tape = w.tape
  output : w'.output = w.output
  size : w.heap.size ≤ w'.heap.size
  block : ∀ k, k < w.heap.size → k ≠ ga → k ≠ gb → w'.heap[k]? = w.heap[k]?
theorem Kept.of {ga gb : Nat} {w w' : World} (h : Below w.heap.size w w') : Kept ga gb w w' := ⟨h.os, h.tape, h.output, h.size, fun k hk _ _ => h.block k hk⟩
theorem Kept.trans {ga gb : Nat} {a b c : World} (h : Kept ga gb a b) (k : Kept ga gb b c) : Kept ga gb a c :=
  ⟨k.os.trans h.os, k.tape.trans h.tape, k.output.trans h.output, Nat.le_trans h.size k.size, fun i hi h1 h2 => (k.block i (Nat.lt_of_lt_of_le hi h.size) h1 h2).trans (h.block i hi h1 h2)⟩
theorem Kept.setA {ga gb : Nat} {a w : World} (h : Kept ga gb a w) (i : Nat) (v : Value) : Kept ga gb a (w.setCell ⟨ga, i, none⟩ v) :=
  ⟨h.os, h.tape, h.output, by simpa using h.size, fun k hk h1 h2 => (Below.heap_setCell w _ v k h1).trans (h.block k hk h1 h2)⟩
theorem Kept.setB {ga gb : Nat} {a w : World} (h : Kept ga gb a w) (i : Nat) (v : Value) : Kept ga gb a (w.setCell ⟨gb, i, none⟩ v) :=
  ⟨h.os, h.tape, h.output, by simpa using h.size, fun k hk h1 h2 => (Below.heap_setCell w _ v k h2).trans (h.block k hk h1 h2)⟩
theorem Kept.below {ga gb B : Nat} {w w' : World} (h : Kept ga gb w w') (h1 : B ≤ ga) (h2 : B ≤ gb) (h3 : B ≤ w.heap.size) : Below B w w' :=
  ⟨h.os, h.tape, h.output, h.size, fun k hk => h.block k (by omega) (by omega) (by omega)⟩

theorem Kept.alloc {ga gb : Nat} {a w : World} (h : Kept ga gb a w) (o : Obj) : Kept ga gb a (w.alloc o) :=
  ⟨h.os, h.tape, h.output, by have := h.size; rw [World.size_alloc]; omega, fun k hk h1 h2 => (Below.heap_alloc w o k (Nat.lt_of_lt_of_le hk h.size)).trans (h.block k hk h1 h2)⟩
theorem Kept.refl (ga gb : Nat) (w : World) : Kept ga gb w w := ⟨rfl, rfl, rfl, Nat.le_refl _, fun _ _ _ _ => rfl⟩
theorem row_fin {W : World} {b t n i : Nat} {f : Nat → Value} {v v' : Int} (h : W.rowIs b t n (fun j => if j = i then .int .i64 v else f j)) (e : v = v') : W.rowIs b t n (fun j => if j = i then .int .i64 v' else f j) := e ▸ h

theorem near_zero (p q way : Int) : nearOf p q 0 0 way = 0 := by simp [nearOf, spd, pa]

set_option maxHeartbeats 1000000 in
theorem passOn_any (m n p q back way : Int) (ga gb i : Nat) (f g : Nat → Value) (w : World) (hm : 0 ≤ m ∧ m ≤ 9) (hn : 0 ≤ n ∧ n ≤ 9) (hp : -16777216 ≤ p ∧ p ≤ 16777216) (hq : -16777216 ≤ q ∧ q ≤ 16777216)
    (hb : 0 ≤ back ∧ back ≤ 256) (hw : way = 1 ∨ way = -1) (ra : w.rowIs ga 34 8 f) (rb : w.rowIs gb 34 8 g) (hi : i < 8) (fi : f i = .int .i64 p) (gi : g i = .int .i64 q) (hne : ga ≠ gb) :
    Calls Tryz.prog 147 #[.agg #[.int .i64 m, .int .i64 n], .pointer (some ⟨ga, i, none⟩), .pointer (some ⟨gb, i, none⟩), .int .i64 back, .int .i64 way] w
      fun e w' => e = .returned (.tuple #[]) ∧ w'.rowIs ga 34 8 (fun k => if k = i then .int .i64 (pushA p q m n back way) else f k) ∧ w'.rowIs gb 34 8 (fun k => if k = i then .int .i64 (pushB p q m n back way) else g k) ∧ Kept ga gb w w' := by
  have h1 := spd_le p m 16777216 (by omega) hp
  have h2 := spd_le q n 16777216 (by omega) hq
  have h3 := near_le p q m n way 16777216 (by omega) hp hq hw
  have h4 := times_le m n hm hn
  have h5 := sum_le m n hm hn
  have h6 := mul_le' _ _ _ _ h3 h4
  have h7 := pa_le (nearOf p q m n way * timesOf m n) (256 + back) (sumOf m n * 256)
  have h8 : -72057594037927936 ≤ passed p q m n back way ∧ passed p q m n back way ≤ 72057594037927936 := by
    unfold passed; rcases hw with rfl | rfl <;> omega
  have ca := ra.cell hi
  have cb := rb.cell hi
  have fa := ra.frozen i
  have fb := rb.frozen i
  have la := ra.lt
  have lb := rb.lt
  rw [fi] at ca
  rw [gi] at cb
  have en : (spd p m - spd q n) * way = nearOf p q m n way := rfl
  have ep : pa (nearOf p q m n way * timesOf m n) (256 + back) (sumOf m n * 256) * way = passed p q m n back way := rfl
  by_cases c1 : nearOf p q m n way ≤ 0
  · have eA : pushA p q m n back way = p := by unfold pushA; rw [if_pos (.inl c1)]
    have eB : pushB p q m n back way = q := by unfold pushB; rw [if_pos (.inl c1)]
    rw [eA, eB]
    have HA : Hid (w.rowIs ga 34 8 (fun k => if k = i then .int .i64 p else f k)) := ra.congr (fun k _ => by split <;> simp_all)
    have HB : Hid (w.rowIs gb 34 8 (fun k => if k = i then .int .i64 q else g k)) := rb.congr (fun k _ => by split <;> simp_all)
    clear ra rb h6 h7 h8 ep h4 h5 eA eB fi gi
    unfold nearOf at *
    go_enter Tryz.func147, Tryz.ntmps147
    go_wp2
    go_quiet (first | (go_at_call 135; exact Calls.quiet_of_same (speed_any _ _ _)))
    go_wp2
    have hbl : ∀ N : Nat, Below w.heap.size w ((w.alloc (Obj.cells #[Value.int IntKind.i64 m, Value.int IntKind.i64 n] 191)).drewN N) := fun N => bdrewN (bal (Below.refl _ _) _) N
    exact bodyPost_ret (by simp [results, Tryz.results147, go_sem]) rfl ⟨rfl, HA.out.of_block ((hbl _).block _ la), HB.out.of_block ((hbl _).block _ lb), Kept.of (hbl _)⟩
  by_cases c2 : m = 0
  · by_cases c3 : n = 0
    · subst c2 c3; rw [near_zero] at c1; omega
    · have eA : pushA p q m n back way = p := by unfold pushA; rw [if_pos (.inr (by omega))]
      have eB : pushB p q m n back way = ad q (passed p q m n back way) 16777216 := by unfold pushB; rw [if_neg (by omega)]
      rw [eA, eB]
      have HA : Hid (w.rowIs ga 34 8 f) := ra
      have HB : Hid (w.rowIs gb 34 8 g) := rb
      have e1 : (m == 0) = true := by simp; omega
      have e2 : (n == 0) = false := by simp; omega
      clear ra rb ep en eA eB c2 c3
      unfold passed nearOf at *
      go_enter Tryz.func147, Tryz.ntmps147
      go_wp2
      go_quiet (first | (go_at_call 135; exact Calls.quiet_of_same (speed_any _ _ _)))
      go_wp2_with fail
      refine (weigh_any m n hm hn _).mono ?_
      rintro e w1 ⟨rfl, hb1⟩
      obtain ⟨hc, hf⟩ := bcell hb1
      have hz := hb1.size
      simp at hz hc hf
      have hbl : Hid (Below w.heap.size w w1) := bcall (bdrewN (bal (Below.refl _ _) _) _) hb1
      clear hb1
      go_wp2_with (first | (go_at_call 149; refine (part_any _ _ _ _).mono ?_; rintro e w' ⟨rfl, rfl⟩) | (go_at_call 66; refine (add_any _ _ _ (by omega) (by omega) _).mono ?_; rintro e w' ⟨rfl, rfl⟩))
      exact bodyPost_end (by simp [results, Tryz.results147, go_sem]) rfl ⟨rfl, ((HA.out.of_block (hbl.out.block _ la)).setOther hne _).congr (fun k _ => by split <;> simp_all), (HB.out.of_block (hbl.out.block _ lb)).set i _, (Kept.of hbl.out).setB i _⟩
  by_cases c3 : n = 0
  · have eA : pushA p q m n back way = ad p (-(passed p q m n back way)) 16777216 := by unfold pushA; rw [if_neg (by omega)]
    have eB : pushB p q m n back way = q := by unfold pushB; rw [if_pos (.inr (by omega))]
    rw [eA, eB]
    have HA : Hid (w.rowIs ga 34 8 f) := ra
    have HB : Hid (w.rowIs gb 34 8 g) := rb
    have e1 : (m == 0) = false := by simp; omega
    have e2 : (n == 0) = true := by simp; omega
    clear ra rb ep en eA eB c2 c3
    unfold passed nearOf at *
    go_enter Tryz.func147, Tryz.ntmps147
    go_wp2
    go_quiet (first | (go_at_call 135; exact Calls.quiet_of_same (speed_any _ _ _)))
    go_wp2_with fail
    refine (weigh_any m n hm hn _).mono ?_
    rintro e w1 ⟨rfl, hb1⟩
    obtain ⟨hc, hf⟩ := bcell hb1
    have hz := hb1.size
    simp at hz hc hf
    have hbl : Hid (Below w.heap.size w w1) := bcall (bdrewN (bal (Below.refl _ _) _) _) hb1
    clear hb1
    go_wp2_with (first | (go_at_call 149; refine (part_any _ _ _ _).mono ?_; rintro e w' ⟨rfl, rfl⟩) | (go_at_call 66; refine (add_any _ _ _ (by omega) (by omega) _).mono ?_; rintro e w' ⟨rfl, rfl⟩))
    exact bodyPost_end (by simp [results, Tryz.results147, go_sem]) rfl ⟨rfl, (HA.out.of_block (hbl.out.block _ la)).set i _, ((HB.out.of_block (hbl.out.block _ lb)).setOther hne.symm _).congr (fun k _ => by split <;> simp_all), (Kept.of hbl.out).setA i _⟩
  · have eA : pushA p q m n back way = ad p (-(passed p q m n back way)) 16777216 := by unfold pushA; rw [if_neg (by omega)]
    have eB : pushB p q m n back way = ad q (passed p q m n back way) 16777216 := by unfold pushB; rw [if_neg (by omega)]
    rw [eA, eB]
    have HA : Hid (w.rowIs ga 34 8 f) := ra
    have HB : Hid (w.rowIs gb 34 8 g) := rb
    have e1 : (m == 0) = false := by simp; omega
    have e2 : (n == 0) = false := by simp; omega
    clear ra rb ep en eA eB c2 c3
    unfold passed nearOf at *
    go_enter Tryz.func147, Tryz.ntmps147
    go_wp2
    go_quiet (first | (go_at_call 135; exact Calls.quiet_of_same (speed_any _ _ _)))
    go_wp2_with fail
    refine (weigh_any m n hm hn _).mono ?_
    rintro e w1 ⟨rfl, hb1⟩
    obtain ⟨hc, hf⟩ := bcell hb1
    have hz := hb1.size
    simp at hz hc hf
    have hbl : Hid (Below w.heap.size w w1) := bcall (bdrewN (bal (Below.refl _ _) _) _) hb1
    clear hb1
    go_wp2_with (first | (go_at_call 149; refine (part_any _ _ _ _).mono ?_; rintro e w' ⟨rfl, rfl⟩) | (go_at_call 66; refine (add_any _ _ _ (by omega) (by omega) _).mono ?_; rintro e w' ⟨rfl, rfl⟩))
    exact bodyPost_end (by simp [results, Tryz.results147, go_sem]) rfl ⟨rfl, ((HA.out.of_block (hbl.out.block _ la)).set i _).setOther hne _, ((HB.out.of_block (hbl.out.block _ lb)).setOther hne.symm _).set i _, ((Kept.of hbl.out).setA i _).setB i _⟩

set_option maxHeartbeats 1000000 in
theorem moveApart_any (m n a b d way : Int) (ga gb i : Nat) (f g : Nat → Value) (w : World) (hd : 0 ≤ d ∧ d ≤ 8192)
    (hw : way = 1 ∨ way = -1) (ra : w.rowIs ga 34 8 f) (rb : w.rowIs gb 34 8 g) (hi : i < 8) (fi : f i = .int .i64 a) (gi : g i = .int .i64 b) (hne : ga ≠ gb) :
    Calls Tryz.prog 148 #[.agg #[.int .i64 m, .int .i64 n], .pointer (some ⟨ga, i, none⟩), .pointer (some ⟨gb, i, none⟩), .int .i64 d, .int .i64 way] w
      fun e w' => e = .returned (.tuple #[]) ∧ w'.rowIs ga 34 8 (fun k => if k = i then .int .i64 (atA a m n d way) else f k) ∧ w'.rowIs gb 34 8 (fun k => if k = i then .int .i64 (atB b m n d way) else g k) ∧ Kept ga gb w w' := by
  have h1 := share_le m n d hd.1
  have ca := ra.cell hi
  have cb := rb.cell hi
  have fa := ra.frozen i
  have fb := rb.frozen i
  have la := ra.lt
  have lb := rb.lt
  rw [fi] at ca
  rw [gi] at cb
  have HA : Hid (w.rowIs ga 34 8 f) := ra
  have HB : Hid (w.rowIs gb 34 8 g) := rb
  clear ra rb fi gi
  unfold atA atB
  by_cases c2 : m = 0
  · have e1 : (m == 0) = true := by simp [c2]
    have h2 : shareOf m n d = 0 := by unfold shareOf; rw [if_pos c2]
    rw [h2] at h1 ⊢
    clear h2 c2
    rcases hw with rfl | rfl
    all_goals
      go_enter Tryz.func148, Tryz.ntmps148
      go_wp2_with (first | (go_at_call 66; refine (add_any _ _ _ (by omega) (by omega) _).mono ?_; rintro e w' ⟨rfl, rfl⟩))
      exact bodyPost_end (by simp [results, Tryz.results148, go_sem]) rfl ⟨rfl, row_fin (((HA.out.set i _).setOther hne _).alloc _) (by congr 1 <;> omega), row_fin (((HB.out.setOther hne.symm _).set i _).alloc _) (by congr 1 <;> omega), (((Kept.refl ga gb w).setA i _).setB i _).alloc _⟩
  by_cases c3 : n = 0
  · have e1 : (m == 0) = false := by simp [c2]
    have e2 : (n == 0) = true := by simp [c3]
    have h2 : shareOf m n d = d := by unfold shareOf; rw [if_neg c2, if_pos c3]
    rw [h2] at h1 ⊢
    clear h2 c2 c3
    rcases hw with rfl | rfl
    all_goals
      go_enter Tryz.func148, Tryz.ntmps148
      go_wp2_with (first | (go_at_call 66; refine (add_any _ _ _ (by omega) (by omega) _).mono ?_; rintro e w' ⟨rfl, rfl⟩))
      exact bodyPost_end (by simp [results, Tryz.results148, go_sem]) rfl ⟨rfl, row_fin (((HA.out.set i _).setOther hne _).alloc _) (by congr 1 <;> omega), row_fin (((HB.out.setOther hne.symm _).set i _).alloc _) (by congr 1 <;> omega), (((Kept.refl ga gb w).setA i _).setB i _).alloc _⟩
  · have e1 : (m == 0) = false := by simp [c2]
    have e2 : (n == 0) = false := by simp [c3]
    have h2 : shareOf m n d = d / 2 := by unfold shareOf; rw [if_neg c2, if_neg c3, Int.tdiv_eq_ediv_of_nonneg hd.1]
    rw [h2] at h1 ⊢
    clear h2 c2 c3
    rcases hw with rfl | rfl
    all_goals
      go_enter Tryz.func148, Tryz.ntmps148
      go_wp2_with (first | (go_at_call 66; refine (add_any _ _ _ (by omega) (by omega) _).mono ?_; rintro e w' ⟨rfl, rfl⟩))
      exact bodyPost_end (by simp [results, Tryz.results148, go_sem]) rfl ⟨rfl, row_fin (((HA.out.set i _).setOther hne _).alloc _) (by congr 1 <;> omega), row_fin (((HB.out.setOther hne.symm _).set i _).alloc _) (by congr 1 <;> omega), (((Kept.refl ga gb w).setA i _).setB i _).alloc _⟩
end Go.Proofs.YtckkkdldljhehacGreat
namespace Go.Proofs.YtckkkdldljhehacGreat
open Go.ChangeShapes Go.WideShapes Go.ChangeAt Go.RowKit
open Num

def retV (a b : R8) (ok : Bool) : Value := .tuple #[rowV a, rowV b, .bool ok]

/-- A row's numbers, one by one. -/
def fld (r : R8) (k : Nat) : Value :=
  match k with
  | 0 => .int .i64 r.x
  | 1 => .int .i64 r.y
  | 2 => .int .i64 r.px
  | 3 => .int .i64 r.py
  | 4 => .int .i64 r.wd
  | 5 => .int .i64 r.ht
  | 6 => .int .i64 r.ms
  | _ => .int .i64 r.rr
theorem rowIs8 (w : World) (r : R8) (t : TypeId) : (w.alloc (.cells #[.int .i64 r.x, .int .i64 r.y, .int .i64 r.px, .int .i64 r.py, .int .i64 r.wd, .int .i64 r.ht, .int .i64 r.ms, .int .i64 r.rr] t)).rowIs w.heap.size t 8 (fld r) :=
  World.rowIs_alloc w #[.int .i64 r.x, .int .i64 r.y, .int .i64 r.px, .int .i64 r.py, .int .i64 r.wd, .int .i64 r.ht, .int .i64 r.ms, .int .i64 r.rr] t (fld r) (fun i hi => by
    match i, hi with
    | 0, _ => rfl
    | 1, _ => rfl
    | 2, _ => rfl
    | 3, _ => rfl
    | 4, _ => rfl
    | 5, _ => rfl
    | 6, _ => rfl
    | 7, _ => rfl)
/-- Meet's four boxes: both rows, both answers. -/
structure Four (W : World) (N : Nat) (a b : R8) : Prop where
  a : W.rowIs N 34 8 (fld a)
  b : W.rowIs (N + 1) 34 8 (fld b)
  x : W.rowIs (N + 1 + 1) 34 8 (fld ⟨0, 0, 0, 0, 0, 0, 0, 0⟩)
  y : W.rowIs (N + 1 + 1 + 1) 34 8 (fld ⟨0, 0, 0, 0, 0, 0, 0, 0⟩)
theorem Four.below {W W' : World} {N : Nat} {a b : R8} (h : Four W N a b) (hb : Below W.heap.size W W') : Four W' N a b :=
  ⟨h.a.of_block (hb.block _ h.a.lt), h.b.of_block (hb.block _ h.b.lt), h.x.of_block (hb.block _ h.x.lt), h.y.of_block (hb.block _ h.y.lt)⟩
theorem Four.made (w : World) (a b : R8) : Four ((((w.alloc (.cells #[.int .i64 a.x, .int .i64 a.y, .int .i64 a.px, .int .i64 a.py, .int .i64 a.wd, .int .i64 a.ht, .int .i64 a.ms, .int .i64 a.rr] 34)).alloc (.cells #[.int .i64 b.x, .int .i64 b.y, .int .i64 b.px, .int .i64 b.py, .int .i64 b.wd, .int .i64 b.ht, .int .i64 b.ms, .int .i64 b.rr] 34)).alloc (.cells #[.int .i64 0, .int .i64 0, .int .i64 0, .int .i64 0, .int .i64 0, .int .i64 0, .int .i64 0, .int .i64 0] 34)).alloc (.cells #[.int .i64 0, .int .i64 0, .int .i64 0, .int .i64 0, .int .i64 0, .int .i64 0, .int .i64 0, .int .i64 0] 34)) w.heap.size a b := by
  refine ⟨(((rowIs8 w a _).alloc _).alloc _).alloc _, ?_, ?_, ?_⟩
  · have := rowIs8 (w.alloc (.cells #[.int .i64 a.x, .int .i64 a.y, .int .i64 a.px, .int .i64 a.py, .int .i64 a.wd, .int .i64 a.ht, .int .i64 a.ms, .int .i64 a.rr] 34)) b 34
    rw [World.size_alloc] at this
    exact (this.alloc _).alloc _
  · have := rowIs8 ((w.alloc (.cells #[.int .i64 a.x, .int .i64 a.y, .int .i64 a.px, .int .i64 a.py, .int .i64 a.wd, .int .i64 a.ht, .int .i64 a.ms, .int .i64 a.rr] 34)).alloc (.cells #[.int .i64 b.x, .int .i64 b.y, .int .i64 b.px, .int .i64 b.py, .int .i64 b.wd, .int .i64 b.ht, .int .i64 b.ms, .int .i64 b.rr] 34)) ⟨0, 0, 0, 0, 0, 0, 0, 0⟩ 34
    rw [World.size_alloc, World.size_alloc] at this
    exact this.alloc _
  · have := rowIs8 (((w.alloc (.cells #[.int .i64 a.x, .int .i64 a.y, .int .i64 a.px, .int .i64 a.py, .int .i64 a.wd, .int .i64 a.ht, .int .i64 a.ms, .int .i64 a.rr] 34)).alloc (.cells #[.int .i64 b.x, .int .i64 b.y, .int .i64 b.px, .int .i64 b.py, .int .i64 b.wd, .int .i64 b.ht, .int .i64 b.ms, .int .i64 b.rr] 34)).alloc (.cells #[.int .i64 0, .int .i64 0, .int .i64 0, .int .i64 0, .int .i64 0, .int .i64 0, .int .i64 0, .int .i64 0] 34)) ⟨0, 0, 0, 0, 0, 0, 0, 0⟩ 34
    rw [World.size_alloc, World.size_alloc, World.size_alloc] at this
    exact this

theorem good_no (a : R8) (h : goodB a = false) (w : World) :
    Calls Tryz.prog 143 #[rowV a] w fun e w' => e = .returned (.bool false) ∧ Below w.heap.size w w' := by
  have := good_any a w
  rw [h] at this
  exact this
theorem good_yes (a : R8) (h : goodB a = true) (w : World) :
    Calls Tryz.prog 143 #[rowV a] w fun e w' => e = .returned (.bool true) ∧ Below w.heap.size w w' := by
  have := good_any a w
  rw [h] at this
  exact this

set_option maxHeartbeats 4000000 in
theorem meet_no1 (a b : R8) (h : goodB a = false) (w : World) :
    Calls Tryz.prog 117 #[rowV a, rowV b] w fun e w' => e = .returned (retV a b false) ∧ Below w.heap.size w w' := by
  have c1 := good_no a h
  obtain ⟨x, y, px, py, wd, ht, ms, rr⟩ := a
  obtain ⟨x', y', px', py', wd', ht', ms', rr'⟩ := b
  unfold retV
  unfold rowV at *
  go_enter Tryz.func117, Tryz.ntmps117
  go_wp2_with fail
  refine (c1 _).mono ?_
  rintro e w1 ⟨rfl, hb⟩
  obtain ⟨hc, hf⟩ := bcell hb
  have hz := hb.size
  simp at hz
  have h0 : Hid (Below w.heap.size w w1) := bcall (bal (bal (bal (bal (Below.refl _ _) _) _) _) _) hb
  clear hb
  go_wp2
  go_region
  go_wp2
  refine bodyPost_ret (by simp [results, Tryz.results117, go_sem, hc]) rfl ⟨rfl, ?_⟩
  refine Below.drew ?_
  iterate 16 refine Below.setCell ?_ (by simp; omega) _
  exact h0.out

set_option maxHeartbeats 4000000 in
theorem meet_no2 (a b : R8) (h : goodB a = true) (h' : goodB b = false) (w : World) :
    Calls Tryz.prog 117 #[rowV a, rowV b] w fun e w' => e = .returned (retV a b false) ∧ Below w.heap.size w w' := by
  have c1 := good_yes a h
  have c2 := good_no b h'
  obtain ⟨x, y, px, py, wd, ht, ms, rr⟩ := a
  obtain ⟨x', y', px', py', wd', ht', ms', rr'⟩ := b
  unfold retV
  unfold rowV at *
  go_enter Tryz.func117, Tryz.ntmps117
  go_wp2_with fail
  refine (c1 _).mono ?_
  rintro e w1 ⟨rfl, hb⟩
  obtain ⟨hc, hf⟩ := bcell hb
  have hz := hb.size
  simp at hz
  have h0 : Hid (Below w.heap.size w w1) := bcall (bal (bal (bal (bal (Below.refl _ _) _) _) _) _) hb
  clear hb
  go_wp2_with fail
  refine (c2 _).mono ?_
  rintro e w2 ⟨rfl, hb⟩
  obtain ⟨hc', hf'⟩ := bcell hb
  replace hc : ∀ b o, b < w.heap.size + 1 + 1 + 1 + 1 → w2.cell? ⟨b, o, none⟩ = _ := fun b o hl => (hc' b o (by omega)).trans (hc b o (by simpa using hl))
  replace hf : ∀ b o, b < w.heap.size + 1 + 1 + 1 + 1 → w2.frozen? ⟨b, o, none⟩ = _ := fun b o hl => (hf' b o (by omega)).trans (hf b o (by simpa using hl))
  have hz' := hb.size
  replace hz := Nat.le_trans hz hz'
  replace h0 : Hid (Below w.heap.size w w2) := bcall h0.out hb
  clear hb hc' hf' hz'
  go_wp2
  go_region
  go_wp2
  refine bodyPost_ret (by simp [results, Tryz.results117, go_sem, hc]) rfl ⟨rfl, ?_⟩
  refine Below.drew ?_
  iterate 16 refine Below.setCell ?_ (by simp; omega) _
  exact h0.out
end Go.Proofs.YtckkkdldljhehacGreat
namespace Go.Proofs.YtckkkdldljhehacGreat
open Go.ChangeShapes Go.WideShapes Go.ChangeAt Go.RowKit
open Num

set_option maxHeartbeats 4000000 in
theorem meet_no3 (a b : R8) (ga : GoodP a) (gb : GoodP b) (hd : depthOf a.x b.x a.wd b.wd < 1) (w : World) :
    Calls Tryz.prog 117 #[rowV a, rowV b] w fun e w' => e = .returned (retV a b false) ∧ Below w.heap.size w w' := by
  have c1 := good_yes a ((goodB_iff a).2 ga)
  have c2 := good_yes b ((goodB_iff b).2 gb)
  have c3 := depth_any a b ga gb
  obtain ⟨x, y, px, py, wd, ht, ms, rr⟩ := a
  obtain ⟨x', y', px', py', wd', ht', ms', rr'⟩ := b
  clear ga gb
  simp only at *
  unfold retV
  unfold rowV at *
  go_enter Tryz.func117, Tryz.ntmps117
  go_wp2_with fail
  refine (c1 _).mono ?_
  rintro e w1 ⟨rfl, hb⟩
  obtain ⟨hc, hf⟩ := bcell hb
  have hz := hb.size
  simp at hz
  have h0 : Hid (Below w.heap.size w w1) := bcall (bal (bal (bal (bal (Below.refl _ _) _) _) _) _) hb
  clear hb
  go_wp2_with fail
  refine (c2 _).mono ?_
  rintro e w2 ⟨rfl, hb⟩
  obtain ⟨hc', hf'⟩ := bcell hb
  replace hc : ∀ b o, b < w.heap.size + 1 + 1 + 1 + 1 → w2.cell? ⟨b, o, none⟩ = _ := fun b o hl => (hc' b o (by omega)).trans (hc b o (by simpa using hl))
  replace hf : ∀ b o, b < w.heap.size + 1 + 1 + 1 + 1 → w2.frozen? ⟨b, o, none⟩ = _ := fun b o hl => (hf' b o (by omega)).trans (hf b o (by simpa using hl))
  have hz' := hb.size
  replace hz := Nat.le_trans hz hz'
  replace h0 : Hid (Below w.heap.size w w2) := bcall h0.out hb
  clear hb hc' hf' hz'
  go_wp2_with fail
  refine (c3 _).mono ?_
  rintro e w3 ⟨rfl, hb⟩
  obtain ⟨hc', hf'⟩ := bcell hb
  replace hc : ∀ b o, b < w.heap.size + 1 + 1 + 1 + 1 → w3.cell? ⟨b, o, none⟩ = _ := fun b o hl => (hc' b o (by omega)).trans (hc b o (by simpa using hl))
  replace hf : ∀ b o, b < w.heap.size + 1 + 1 + 1 + 1 → w3.frozen? ⟨b, o, none⟩ = _ := fun b o hl => (hf' b o (by omega)).trans (hf b o (by simpa using hl))
  have hz' := hb.size
  replace hz := Nat.le_trans hz hz'
  replace h0 : Hid (Below w.heap.size w w3) := bcall h0.out hb
  clear hb hc' hf' hz'
  go_wp2
  go_region
  go_wp2
  refine bodyPost_ret (by simp [results, Tryz.results117, go_sem, hc]) rfl ⟨rfl, ?_⟩
  refine Below.drew ?_
  iterate 16 refine Below.setCell ?_ (by simp; omega) _
  exact h0.out

set_option maxHeartbeats 4000000 in
theorem meet_no4 (a b : R8) (ga : GoodP a) (gb : GoodP b) (hx : 1 ≤ depthOf a.x b.x a.wd b.wd) (hd : depthOf a.y b.y a.ht b.ht < 1) (w : World) :
    Calls Tryz.prog 117 #[rowV a, rowV b] w fun e w' => e = .returned (retV a b false) ∧ Below w.heap.size w w' := by
  have c1 := good_yes a ((goodB_iff a).2 ga)
  have c2 := good_yes b ((goodB_iff b).2 gb)
  have c3 := depth_any a b ga gb
  obtain ⟨x, y, px, py, wd, ht, ms, rr⟩ := a
  obtain ⟨x', y', px', py', wd', ht', ms', rr'⟩ := b
  clear ga gb
  simp only at *
  unfold retV
  unfold rowV at *
  go_enter Tryz.func117, Tryz.ntmps117
  go_wp2_with fail
  refine (c1 _).mono ?_
  rintro e w1 ⟨rfl, hb⟩
  obtain ⟨hc, hf⟩ := bcell hb
  have hz := hb.size
  simp at hz
  have h0 : Hid (Below w.heap.size w w1) := bcall (bal (bal (bal (bal (Below.refl _ _) _) _) _) _) hb
  clear hb
  go_wp2_with fail
  refine (c2 _).mono ?_
  rintro e w2 ⟨rfl, hb⟩
  obtain ⟨hc', hf'⟩ := bcell hb
  replace hc : ∀ b o, b < w.heap.size + 1 + 1 + 1 + 1 → w2.cell? ⟨b, o, none⟩ = _ := fun b o hl => (hc' b o (by omega)).trans (hc b o (by simpa using hl))
  replace hf : ∀ b o, b < w.heap.size + 1 + 1 + 1 + 1 → w2.frozen? ⟨b, o, none⟩ = _ := fun b o hl => (hf' b o (by omega)).trans (hf b o (by simpa using hl))
  have hz' := hb.size
  replace hz := Nat.le_trans hz hz'
  replace h0 : Hid (Below w.heap.size w w2) := bcall h0.out hb
  clear hb hc' hf' hz'
  go_wp2_with fail
  refine (c3 _).mono ?_
  rintro e w3 ⟨rfl, hb⟩
  obtain ⟨hc', hf'⟩ := bcell hb
  replace hc : ∀ b o, b < w.heap.size + 1 + 1 + 1 + 1 → w3.cell? ⟨b, o, none⟩ = _ := fun b o hl => (hc' b o (by omega)).trans (hc b o (by simpa using hl))
  replace hf : ∀ b o, b < w.heap.size + 1 + 1 + 1 + 1 → w3.frozen? ⟨b, o, none⟩ = _ := fun b o hl => (hf' b o (by omega)).trans (hf b o (by simpa using hl))
  have hz' := hb.size
  replace hz := Nat.le_trans hz hz'
  replace h0 : Hid (Below w.heap.size w w3) := bcall h0.out hb
  clear hb hc' hf' hz'
  go_wp2
  go_region
  go_wp2
  refine bodyPost_ret (by simp [results, Tryz.results117, go_sem, hc]) rfl ⟨rfl, ?_⟩
  refine Below.drew ?_
  iterate 16 refine Below.setCell ?_ (by simp; omega) _
  exact h0.out

set_option maxHeartbeats 4000000 in
theorem meet_fix (a b : R8) (ga : GoodP a) (gb : GoodP b) (hx : 1 ≤ depthOf a.x b.x a.wd b.wd) (hy : 1 ≤ depthOf a.y b.y a.ht b.ht) (fa : a.ms = 0) (fb : b.ms = 0) (w : World) :
    Calls Tryz.prog 117 #[rowV a, rowV b] w fun e w' => e = .returned (retV a b true) ∧ Below w.heap.size w w' := by
  have c1 := good_yes a ((goodB_iff a).2 ga)
  have c2 := good_yes b ((goodB_iff b).2 gb)
  have c3 := depth_any a b ga gb
  have c4 : ∀ w, Calls Tryz.prog 145 #[rowV a] w fun e w' => e = .returned (.bool true) ∧ Below w.heap.size w w' := fun w => by
    have := fixed_any a w
    rwa [show (a.ms == 0) = true from by simp [fa]] at this
  have c5 : ∀ w, Calls Tryz.prog 145 #[rowV b] w fun e w' => e = .returned (.bool true) ∧ Below w.heap.size w w' := fun w => by
    have := fixed_any b w
    rwa [show (b.ms == 0) = true from by simp [fb]] at this
  obtain ⟨x, y, px, py, wd, ht, ms, rr⟩ := a
  obtain ⟨x', y', px', py', wd', ht', ms', rr'⟩ := b
  clear ga gb fa fb
  simp only at *
  unfold retV
  unfold rowV at *
  go_enter Tryz.func117, Tryz.ntmps117
  go_wp2_with fail
  refine (c1 _).mono ?_
  rintro e w1 ⟨rfl, hb⟩
  obtain ⟨hc, hf⟩ := bcell hb
  have hz := hb.size
  simp at hz
  have h0 : Hid (Below w.heap.size w w1) := bcall (bal (bal (bal (bal (Below.refl _ _) _) _) _) _) hb
  clear hb
  go_wp2_with fail
  refine (c2 _).mono ?_
  rintro e w2 ⟨rfl, hb⟩
  obtain ⟨hc', hf'⟩ := bcell hb
  replace hc : ∀ b o, b < w.heap.size + 1 + 1 + 1 + 1 → w2.cell? ⟨b, o, none⟩ = _ := fun b o hl => (hc' b o (by omega)).trans (hc b o (by simpa using hl))
  replace hf : ∀ b o, b < w.heap.size + 1 + 1 + 1 + 1 → w2.frozen? ⟨b, o, none⟩ = _ := fun b o hl => (hf' b o (by omega)).trans (hf b o (by simpa using hl))
  have hz' := hb.size
  replace hz := Nat.le_trans hz hz'
  replace h0 : Hid (Below w.heap.size w w2) := bcall h0.out hb
  clear hb hc' hf' hz'
  go_wp2_with fail
  refine (c3 _).mono ?_
  rintro e w3 ⟨rfl, hb⟩
  obtain ⟨hc', hf'⟩ := bcell hb
  replace hc : ∀ b o, b < w.heap.size + 1 + 1 + 1 + 1 → w3.cell? ⟨b, o, none⟩ = _ := fun b o hl => (hc' b o (by omega)).trans (hc b o (by simpa using hl))
  replace hf : ∀ b o, b < w.heap.size + 1 + 1 + 1 + 1 → w3.frozen? ⟨b, o, none⟩ = _ := fun b o hl => (hf' b o (by omega)).trans (hf b o (by simpa using hl))
  have hz' := hb.size
  replace hz := Nat.le_trans hz hz'
  replace h0 : Hid (Below w.heap.size w w3) := bcall h0.out hb
  clear hb hc' hf' hz'
  go_wp2_with fail
  refine (c4 _).mono ?_
  rintro e w4 ⟨rfl, hb⟩
  obtain ⟨hc', hf'⟩ := bcell hb
  replace hc : ∀ b o, b < w.heap.size + 1 + 1 + 1 + 1 → w4.cell? ⟨b, o, none⟩ = _ := fun b o hl => (hc' b o (by omega)).trans (hc b o (by simpa using hl))
  replace hf : ∀ b o, b < w.heap.size + 1 + 1 + 1 + 1 → w4.frozen? ⟨b, o, none⟩ = _ := fun b o hl => (hf' b o (by omega)).trans (hf b o (by simpa using hl))
  have hz' := hb.size
  replace hz := Nat.le_trans hz hz'
  replace h0 : Hid (Below w.heap.size w w4) := bcall h0.out hb
  clear hb hc' hf' hz'
  go_wp2_with fail
  refine (c5 _).mono ?_
  rintro e w5 ⟨rfl, hb⟩
  obtain ⟨hc', hf'⟩ := bcell hb
  replace hc : ∀ b o, b < w.heap.size + 1 + 1 + 1 + 1 → w5.cell? ⟨b, o, none⟩ = _ := fun b o hl => (hc' b o (by omega)).trans (hc b o (by simpa using hl))
  replace hf : ∀ b o, b < w.heap.size + 1 + 1 + 1 + 1 → w5.frozen? ⟨b, o, none⟩ = _ := fun b o hl => (hf' b o (by omega)).trans (hf b o (by simpa using hl))
  have hz' := hb.size
  replace hz := Nat.le_trans hz hz'
  replace h0 : Hid (Below w.heap.size w w5) := bcall h0.out hb
  clear hb hc' hf' hz'
  go_wp2
  go_region
  go_wp2
  refine bodyPost_ret (by simp [results, Tryz.results117, go_sem, hc]) rfl ⟨rfl, ?_⟩
  refine Below.drew ?_
  iterate 16 refine Below.setCell ?_ (by simp; omega) _
  exact h0.out
end Go.Proofs.YtckkkdldljhehacGreat
namespace Go.Proofs.YtckkkdldljhehacGreat
open Go.ChangeShapes Go.WideShapes Go.ChangeAt Go.RowKit
open Num

set_option maxHeartbeats 8000000 in
theorem meetX_free_lo (a b : R8) (ga : GoodP a) (gb : GoodP b) (hx : 1 ≤ depthOf a.x b.x a.wd b.wd) (hy : 1 ≤ depthOf a.y b.y a.ht b.ht) (hl : depthOf a.x b.x a.wd b.wd < depthOf a.y b.y a.ht b.ht) (fa : a.ms ≠ 0) (hr : a.rr ≤ b.rr) (w : World) :
    Calls Tryz.prog 117 #[rowV a, rowV b] w fun e w' => e = .returned (retV (metX a b).1 (metX a b).2 true) ∧ Below w.heap.size w w' := by
  have kd : depthOf a.x b.x a.wd b.wd ≤ 8192 := by have := ga.wd; have := gb.wd; unfold depthOf ab; omega
  have ke : depthOf a.y b.y a.ht b.ht ≤ 8192 := by have := ga.ht; have := gb.ht; unfold depthOf ab; omega
  have em : min a.rr b.rr = a.rr := by omega
  have c1 := good_yes a ((goodB_iff a).2 ga)
  have c2 := good_yes b ((goodB_iff b).2 gb)
  have c3 := depth_any a b ga gb
  have c4 : ∀ w, Calls Tryz.prog 145 #[rowV a] w fun e w' => e = .returned (.bool false) ∧ Below w.heap.size w w' := fun w => by
    have := fixed_any a w
    rwa [show (a.ms == 0) = false from by simp [fa]] at this
  have hwy := way_or a.x b.x
  obtain ⟨-, -, -, gpx, gpy, -, -, gms, grr⟩ := ga
  obtain ⟨-, -, -, gpx', gpy', -, -, gms', grr'⟩ := gb
  obtain ⟨x, y, px, py, wd, ht, ms, rr⟩ := a
  obtain ⟨x', y', px', py', wd', ht', ms', rr'⟩ := b
  simp only [metX] at *
  rw [em]
  clear em fa
  unfold retV
  unfold rowV at *
  go_enter Tryz.func117, Tryz.ntmps117
  go_wp2_with fail
  refine (c1 _).mono ?_
  rintro e w1 ⟨rfl, hb⟩
  obtain ⟨hc, hf⟩ := bcell hb
  have hz := hb.size
  simp at hz
  have h0 : Hid (Below w.heap.size w w1) := bcall (bal (bal (bal (bal (Below.refl _ _) _) _) _) _) hb
  have h4 : Hid (Four w1 w.heap.size ⟨x, y, px, py, wd, ht, ms, rr⟩ ⟨x', y', px', py', wd', ht', ms', rr'⟩) := (Four.made w ⟨x, y, px, py, wd, ht, ms, rr⟩ ⟨x', y', px', py', wd', ht', ms', rr'⟩).below hb
  clear hb
  go_wp2_with fail
  refine (c2 _).mono ?_
  rintro e w2 ⟨rfl, hb⟩
  obtain ⟨hc', hf'⟩ := bcell hb
  replace hc : ∀ b o, b < w.heap.size + 1 + 1 + 1 + 1 → w2.cell? ⟨b, o, none⟩ = _ := fun b o hl => (hc' b o (by omega)).trans (hc b o (by simpa using hl))
  replace hf : ∀ b o, b < w.heap.size + 1 + 1 + 1 + 1 → w2.frozen? ⟨b, o, none⟩ = _ := fun b o hl => (hf' b o (by omega)).trans (hf b o (by simpa using hl))
  have hz' := hb.size
  replace hz := Nat.le_trans hz hz'
  replace h0 : Hid (Below w.heap.size w w2) := bcall h0.out hb
  replace h4 : Hid (Four w2 w.heap.size ⟨x, y, px, py, wd, ht, ms, rr⟩ ⟨x', y', px', py', wd', ht', ms', rr'⟩) := h4.out.below hb
  clear hb hc' hf' hz'
  go_wp2_with fail
  refine (c3 _).mono ?_
  rintro e w3 ⟨rfl, hb⟩
  obtain ⟨hc', hf'⟩ := bcell hb
  replace hc : ∀ b o, b < w.heap.size + 1 + 1 + 1 + 1 → w3.cell? ⟨b, o, none⟩ = _ := fun b o hl => (hc' b o (by omega)).trans (hc b o (by simpa using hl))
  replace hf : ∀ b o, b < w.heap.size + 1 + 1 + 1 + 1 → w3.frozen? ⟨b, o, none⟩ = _ := fun b o hl => (hf' b o (by omega)).trans (hf b o (by simpa using hl))
  have hz' := hb.size
  replace hz := Nat.le_trans hz hz'
  replace h0 : Hid (Below w.heap.size w w3) := bcall h0.out hb
  replace h4 : Hid (Four w3 w.heap.size ⟨x, y, px, py, wd, ht, ms, rr⟩ ⟨x', y', px', py', wd', ht', ms', rr'⟩) := h4.out.below hb
  clear hb hc' hf' hz'
  go_wp2_with fail
  refine (c4 _).mono ?_
  rintro e w4 ⟨rfl, hb⟩
  obtain ⟨hc', hf'⟩ := bcell hb
  replace hc : ∀ b o, b < w.heap.size + 1 + 1 + 1 + 1 → w4.cell? ⟨b, o, none⟩ = _ := fun b o hl => (hc' b o (by omega)).trans (hc b o (by simpa using hl))
  replace hf : ∀ b o, b < w.heap.size + 1 + 1 + 1 + 1 → w4.frozen? ⟨b, o, none⟩ = _ := fun b o hl => (hf' b o (by omega)).trans (hf b o (by simpa using hl))
  have hz' := hb.size
  replace hz := Nat.le_trans hz hz'
  replace h0 : Hid (Below w.heap.size w w4) := bcall h0.out hb
  replace h4 : Hid (Four w4 w.heap.size ⟨x, y, px, py, wd, ht, ms, rr⟩ ⟨x', y', px', py', wd', ht', ms', rr'⟩) := h4.out.below hb
  clear hb hc' hf' hz'
  clear c1 c2 c3 c4
  have n0 : w.heap.size < w4.heap.size := by omega
  have n1 : w.heap.size + 1 < w4.heap.size := by omega
  have n2 : w.heap.size + 1 + 1 < w4.heap.size := by omega
  have n3 : w.heap.size + 1 + 1 + 1 < w4.heap.size := by omega
  go_wp2_with (first | (go_at_call 146; refine (wayTo_any _ _ _).mono ?_; rintro e w' ⟨rfl, rfl⟩))
  refine (passOn_any ms ms' px px' rr (wayOf x x') w.heap.size (w.heap.size + 1) 2 (fld ⟨x, y, px, py, wd, ht, ms, rr⟩) (fld ⟨x', y', px', py', wd', ht', ms', rr'⟩) _ gms gms' gpx gpx' grr hwy (h4.out.a.alloc _) (h4.out.b.alloc _) (by omega) rfl rfl (by omega)).mono ?_
  rintro e w6 ⟨rfl, ra, rb, k⟩
  have m0 : w6.cell? ⟨w4.heap.size, 0, none⟩ = some (.int .i64 ms) := (World.cell?_of_block (k.block w4.heap.size (by simp) (by omega) (by omega))).trans (by simp)
  have m1 : w6.cell? ⟨w4.heap.size, 1, none⟩ = some (.int .i64 ms') := (World.cell?_of_block (k.block w4.heap.size (by simp) (by omega) (by omega))).trans (by simp)
  replace h0 : Hid (Below w.heap.size w w6) := (bal h0.out _).trans (k.below (by omega) (by omega) (by simp; omega))
  have rx : Hid (w6.rowIs (w.heap.size + 1 + 1) 34 8 (fld ⟨0, 0, 0, 0, 0, 0, 0, 0⟩)) := (h4.out.x.alloc _).of_block (k.block _ (by simp; omega) (by omega) (by omega))
  have ry : Hid (w6.rowIs (w.heap.size + 1 + 1 + 1) 34 8 (fld ⟨0, 0, 0, 0, 0, 0, 0, 0⟩)) := (h4.out.y.alloc _).of_block (k.block _ (by simp; omega) (by omega) (by omega))
  have hz6 := k.size
  simp at hz6
  clear hc hf h4 k
  go_wp2_with fail
  refine (moveApart_any ms ms' x x' (depthOf x x' wd wd') (wayOf x x') w.heap.size (w.heap.size + 1) 0 _ _ _ (by omega) hwy ra rb (by omega) rfl rfl (by omega)).mono ?_
  rintro e w7 ⟨rfl, ra7, rb7, k7⟩
  have a0 : w7.cell? ⟨w.heap.size, 0, none⟩ = some (.int .i64 (atA x ms ms' (depthOf x x' wd wd') (wayOf x x'))) := ra7.cell (i := 0) (by omega)
  have a1 : w7.cell? ⟨w.heap.size, 1, none⟩ = some (.int .i64 y) := ra7.cell (i := 1) (by omega)
  have a2 : w7.cell? ⟨w.heap.size, 2, none⟩ = some (.int .i64 (pushA px px' ms ms' rr (wayOf x x'))) := ra7.cell (i := 2) (by omega)
  have a3 : w7.cell? ⟨w.heap.size, 3, none⟩ = some (.int .i64 py) := ra7.cell (i := 3) (by omega)
  have a4 : w7.cell? ⟨w.heap.size, 4, none⟩ = some (.int .i64 wd) := ra7.cell (i := 4) (by omega)
  have a5 : w7.cell? ⟨w.heap.size, 5, none⟩ = some (.int .i64 ht) := ra7.cell (i := 5) (by omega)
  have a6 : w7.cell? ⟨w.heap.size, 6, none⟩ = some (.int .i64 ms) := ra7.cell (i := 6) (by omega)
  have a7 : w7.cell? ⟨w.heap.size, 7, none⟩ = some (.int .i64 rr) := ra7.cell (i := 7) (by omega)
  have b0 : w7.cell? ⟨w.heap.size + 1, 0, none⟩ = some (.int .i64 (atB x' ms ms' (depthOf x x' wd wd') (wayOf x x'))) := rb7.cell (i := 0) (by omega)
  have b1 : w7.cell? ⟨w.heap.size + 1, 1, none⟩ = some (.int .i64 y') := rb7.cell (i := 1) (by omega)
  have b2 : w7.cell? ⟨w.heap.size + 1, 2, none⟩ = some (.int .i64 (pushB px px' ms ms' rr (wayOf x x'))) := rb7.cell (i := 2) (by omega)
  have b3 : w7.cell? ⟨w.heap.size + 1, 3, none⟩ = some (.int .i64 py') := rb7.cell (i := 3) (by omega)
  have b4 : w7.cell? ⟨w.heap.size + 1, 4, none⟩ = some (.int .i64 wd') := rb7.cell (i := 4) (by omega)
  have b5 : w7.cell? ⟨w.heap.size + 1, 5, none⟩ = some (.int .i64 ht') := rb7.cell (i := 5) (by omega)
  have b6 : w7.cell? ⟨w.heap.size + 1, 6, none⟩ = some (.int .i64 ms') := rb7.cell (i := 6) (by omega)
  have b7 : w7.cell? ⟨w.heap.size + 1, 7, none⟩ = some (.int .i64 rr') := rb7.cell (i := 7) (by omega)
  replace h0 : Hid (Below w.heap.size w w7) := h0.out.trans (k7.below (by omega) (by omega) (by omega))
  replace rx := rx.out.of_block (k7.block _ (by omega) (by omega) (by omega))
  replace ry := ry.out.of_block (k7.block _ (by omega) (by omega) (by omega))
  have xc : ∀ o, o < 8 → w7.cell? ⟨w.heap.size + 1 + 1, o, none⟩ = some _ := fun o ho => rx.cell ho
  have yc : ∀ o, o < 8 → w7.cell? ⟨w.heap.size + 1 + 1 + 1, o, none⟩ = some _ := fun o ho => ry.cell ho
  have xf := rx.frozen
  have yf := ry.frozen
  have hz7 := k7.size
  clear k7 ra7 rb7 rx ry ra rb m0 m1
  go_wp2
  go_region
  go_wp2
  refine bodyPost_ret (by simp [results, Tryz.results117, go_sem, xc, yc]) rfl ⟨rfl, ?_⟩
  refine Below.drew ?_
  iterate 16 refine Below.setCell ?_ (by simp; omega) _
  exact h0.out

set_option maxHeartbeats 8000000 in
theorem meetX_free_hi (a b : R8) (ga : GoodP a) (gb : GoodP b) (hx : 1 ≤ depthOf a.x b.x a.wd b.wd) (hy : 1 ≤ depthOf a.y b.y a.ht b.ht) (hl : depthOf a.x b.x a.wd b.wd < depthOf a.y b.y a.ht b.ht) (fa : a.ms ≠ 0) (hr : b.rr < a.rr) (w : World) :
    Calls Tryz.prog 117 #[rowV a, rowV b] w fun e w' => e = .returned (retV (metX a b).1 (metX a b).2 true) ∧ Below w.heap.size w w' := by
  have kd : depthOf a.x b.x a.wd b.wd ≤ 8192 := by have := ga.wd; have := gb.wd; unfold depthOf ab; omega
  have ke : depthOf a.y b.y a.ht b.ht ≤ 8192 := by have := ga.ht; have := gb.ht; unfold depthOf ab; omega
  have em : min a.rr b.rr = b.rr := by omega
  have c1 := good_yes a ((goodB_iff a).2 ga)
  have c2 := good_yes b ((goodB_iff b).2 gb)
  have c3 := depth_any a b ga gb
  have c4 : ∀ w, Calls Tryz.prog 145 #[rowV a] w fun e w' => e = .returned (.bool false) ∧ Below w.heap.size w w' := fun w => by
    have := fixed_any a w
    rwa [show (a.ms == 0) = false from by simp [fa]] at this
  have hwy := way_or a.x b.x
  obtain ⟨-, -, -, gpx, gpy, -, -, gms, grr⟩ := ga
  obtain ⟨-, -, -, gpx', gpy', -, -, gms', grr'⟩ := gb
  obtain ⟨x, y, px, py, wd, ht, ms, rr⟩ := a
  obtain ⟨x', y', px', py', wd', ht', ms', rr'⟩ := b
  simp only [metX] at *
  rw [em]
  clear em fa
  unfold retV
  unfold rowV at *
  go_enter Tryz.func117, Tryz.ntmps117
  go_wp2_with fail
  refine (c1 _).mono ?_
  rintro e w1 ⟨rfl, hb⟩
  obtain ⟨hc, hf⟩ := bcell hb
  have hz := hb.size
  simp at hz
  have h0 : Hid (Below w.heap.size w w1) := bcall (bal (bal (bal (bal (Below.refl _ _) _) _) _) _) hb
  have h4 : Hid (Four w1 w.heap.size ⟨x, y, px, py, wd, ht, ms, rr⟩ ⟨x', y', px', py', wd', ht', ms', rr'⟩) := (Four.made w ⟨x, y, px, py, wd, ht, ms, rr⟩ ⟨x', y', px', py', wd', ht', ms', rr'⟩).below hb
  clear hb
  go_wp2_with fail
  refine (c2 _).mono ?_
  rintro e w2 ⟨rfl, hb⟩
  obtain ⟨hc', hf'⟩ := bcell hb
  replace hc : ∀ b o, b < w.heap.size + 1 + 1 + 1 + 1 → w2.cell? ⟨b, o, none⟩ = _ := fun b o hl => (hc' b o (by omega)).trans (hc b o (by simpa using hl))
  replace hf : ∀ b o, b < w.heap.size + 1 + 1 + 1 + 1 → w2.frozen? ⟨b, o, none⟩ = _ := fun b o hl => (hf' b o (by omega)).trans (hf b o (by simpa using hl))
  have hz' := hb.size
  replace hz := Nat.le_trans hz hz'
  replace h0 : Hid (Below w.heap.size w w2) := bcall h0.out hb
  replace h4 : Hid (Four w2 w.heap.size ⟨x, y, px, py, wd, ht, ms, rr⟩ ⟨x', y', px', py', wd', ht', ms', rr'⟩) := h4.out.below hb
  clear hb hc' hf' hz'
  go_wp2_with fail
  refine (c3 _).mono ?_
  rintro e w3 ⟨rfl, hb⟩
  obtain ⟨hc', hf'⟩ := bcell hb
  replace hc : ∀ b o, b < w.heap.size + 1 + 1 + 1 + 1 → w3.cell? ⟨b, o, none⟩ = _ := fun b o hl => (hc' b o (by omega)).trans (hc b o (by simpa using hl))
  replace hf : ∀ b o, b < w.heap.size + 1 + 1 + 1 + 1 → w3.frozen? ⟨b, o, none⟩ = _ := fun b o hl => (hf' b o (by omega)).trans (hf b o (by simpa using hl))
  have hz' := hb.size
  replace hz := Nat.le_trans hz hz'
  replace h0 : Hid (Below w.heap.size w w3) := bcall h0.out hb
  replace h4 : Hid (Four w3 w.heap.size ⟨x, y, px, py, wd, ht, ms, rr⟩ ⟨x', y', px', py', wd', ht', ms', rr'⟩) := h4.out.below hb
  clear hb hc' hf' hz'
  go_wp2_with fail
  refine (c4 _).mono ?_
  rintro e w4 ⟨rfl, hb⟩
  obtain ⟨hc', hf'⟩ := bcell hb
  replace hc : ∀ b o, b < w.heap.size + 1 + 1 + 1 + 1 → w4.cell? ⟨b, o, none⟩ = _ := fun b o hl => (hc' b o (by omega)).trans (hc b o (by simpa using hl))
  replace hf : ∀ b o, b < w.heap.size + 1 + 1 + 1 + 1 → w4.frozen? ⟨b, o, none⟩ = _ := fun b o hl => (hf' b o (by omega)).trans (hf b o (by simpa using hl))
  have hz' := hb.size
  replace hz := Nat.le_trans hz hz'
  replace h0 : Hid (Below w.heap.size w w4) := bcall h0.out hb
  replace h4 : Hid (Four w4 w.heap.size ⟨x, y, px, py, wd, ht, ms, rr⟩ ⟨x', y', px', py', wd', ht', ms', rr'⟩) := h4.out.below hb
  clear hb hc' hf' hz'
  clear c1 c2 c3 c4
  have n0 : w.heap.size < w4.heap.size := by omega
  have n1 : w.heap.size + 1 < w4.heap.size := by omega
  have n2 : w.heap.size + 1 + 1 < w4.heap.size := by omega
  have n3 : w.heap.size + 1 + 1 + 1 < w4.heap.size := by omega
  go_wp2_with (first | (go_at_call 146; refine (wayTo_any _ _ _).mono ?_; rintro e w' ⟨rfl, rfl⟩))
  refine (passOn_any ms ms' px px' rr' (wayOf x x') w.heap.size (w.heap.size + 1) 2 (fld ⟨x, y, px, py, wd, ht, ms, rr⟩) (fld ⟨x', y', px', py', wd', ht', ms', rr'⟩) _ gms gms' gpx gpx' grr' hwy (h4.out.a.alloc _) (h4.out.b.alloc _) (by omega) rfl rfl (by omega)).mono ?_
  rintro e w6 ⟨rfl, ra, rb, k⟩
  have m0 : w6.cell? ⟨w4.heap.size, 0, none⟩ = some (.int .i64 ms) := (World.cell?_of_block (k.block w4.heap.size (by simp) (by omega) (by omega))).trans (by simp)
  have m1 : w6.cell? ⟨w4.heap.size, 1, none⟩ = some (.int .i64 ms') := (World.cell?_of_block (k.block w4.heap.size (by simp) (by omega) (by omega))).trans (by simp)
  replace h0 : Hid (Below w.heap.size w w6) := (bal h0.out _).trans (k.below (by omega) (by omega) (by simp; omega))
  have rx : Hid (w6.rowIs (w.heap.size + 1 + 1) 34 8 (fld ⟨0, 0, 0, 0, 0, 0, 0, 0⟩)) := (h4.out.x.alloc _).of_block (k.block _ (by simp; omega) (by omega) (by omega))
  have ry : Hid (w6.rowIs (w.heap.size + 1 + 1 + 1) 34 8 (fld ⟨0, 0, 0, 0, 0, 0, 0, 0⟩)) := (h4.out.y.alloc _).of_block (k.block _ (by simp; omega) (by omega) (by omega))
  have hz6 := k.size
  simp at hz6
  clear hc hf h4 k
  go_wp2_with fail
  refine (moveApart_any ms ms' x x' (depthOf x x' wd wd') (wayOf x x') w.heap.size (w.heap.size + 1) 0 _ _ _ (by omega) hwy ra rb (by omega) rfl rfl (by omega)).mono ?_
  rintro e w7 ⟨rfl, ra7, rb7, k7⟩
  have a0 : w7.cell? ⟨w.heap.size, 0, none⟩ = some (.int .i64 (atA x ms ms' (depthOf x x' wd wd') (wayOf x x'))) := ra7.cell (i := 0) (by omega)
  have a1 : w7.cell? ⟨w.heap.size, 1, none⟩ = some (.int .i64 y) := ra7.cell (i := 1) (by omega)
  have a2 : w7.cell? ⟨w.heap.size, 2, none⟩ = some (.int .i64 (pushA px px' ms ms' rr' (wayOf x x'))) := ra7.cell (i := 2) (by omega)
  have a3 : w7.cell? ⟨w.heap.size, 3, none⟩ = some (.int .i64 py) := ra7.cell (i := 3) (by omega)
  have a4 : w7.cell? ⟨w.heap.size, 4, none⟩ = some (.int .i64 wd) := ra7.cell (i := 4) (by omega)
  have a5 : w7.cell? ⟨w.heap.size, 5, none⟩ = some (.int .i64 ht) := ra7.cell (i := 5) (by omega)
  have a6 : w7.cell? ⟨w.heap.size, 6, none⟩ = some (.int .i64 ms) := ra7.cell (i := 6) (by omega)
  have a7 : w7.cell? ⟨w.heap.size, 7, none⟩ = some (.int .i64 rr) := ra7.cell (i := 7) (by omega)
  have b0 : w7.cell? ⟨w.heap.size + 1, 0, none⟩ = some (.int .i64 (atB x' ms ms' (depthOf x x' wd wd') (wayOf x x'))) := rb7.cell (i := 0) (by omega)
  have b1 : w7.cell? ⟨w.heap.size + 1, 1, none⟩ = some (.int .i64 y') := rb7.cell (i := 1) (by omega)
  have b2 : w7.cell? ⟨w.heap.size + 1, 2, none⟩ = some (.int .i64 (pushB px px' ms ms' rr' (wayOf x x'))) := rb7.cell (i := 2) (by omega)
  have b3 : w7.cell? ⟨w.heap.size + 1, 3, none⟩ = some (.int .i64 py') := rb7.cell (i := 3) (by omega)
  have b4 : w7.cell? ⟨w.heap.size + 1, 4, none⟩ = some (.int .i64 wd') := rb7.cell (i := 4) (by omega)
  have b5 : w7.cell? ⟨w.heap.size + 1, 5, none⟩ = some (.int .i64 ht') := rb7.cell (i := 5) (by omega)
  have b6 : w7.cell? ⟨w.heap.size + 1, 6, none⟩ = some (.int .i64 ms') := rb7.cell (i := 6) (by omega)
  have b7 : w7.cell? ⟨w.heap.size + 1, 7, none⟩ = some (.int .i64 rr') := rb7.cell (i := 7) (by omega)
  replace h0 : Hid (Below w.heap.size w w7) := h0.out.trans (k7.below (by omega) (by omega) (by omega))
  replace rx := rx.out.of_block (k7.block _ (by omega) (by omega) (by omega))
  replace ry := ry.out.of_block (k7.block _ (by omega) (by omega) (by omega))
  have xc : ∀ o, o < 8 → w7.cell? ⟨w.heap.size + 1 + 1, o, none⟩ = some _ := fun o ho => rx.cell ho
  have yc : ∀ o, o < 8 → w7.cell? ⟨w.heap.size + 1 + 1 + 1, o, none⟩ = some _ := fun o ho => ry.cell ho
  have xf := rx.frozen
  have yf := ry.frozen
  have hz7 := k7.size
  clear k7 ra7 rb7 rx ry ra rb m0 m1
  go_wp2
  go_region
  go_wp2
  refine bodyPost_ret (by simp [results, Tryz.results117, go_sem, xc, yc]) rfl ⟨rfl, ?_⟩
  refine Below.drew ?_
  iterate 16 refine Below.setCell ?_ (by simp; omega) _
  exact h0.out

set_option maxHeartbeats 8000000 in
theorem meetX_fixed_lo (a b : R8) (ga : GoodP a) (gb : GoodP b) (hx : 1 ≤ depthOf a.x b.x a.wd b.wd) (hy : 1 ≤ depthOf a.y b.y a.ht b.ht) (hl : depthOf a.x b.x a.wd b.wd < depthOf a.y b.y a.ht b.ht) (fa : a.ms = 0) (fb : b.ms ≠ 0) (hr : a.rr ≤ b.rr) (w : World) :
    Calls Tryz.prog 117 #[rowV a, rowV b] w fun e w' => e = .returned (retV (metX a b).1 (metX a b).2 true) ∧ Below w.heap.size w w' := by
  have kd : depthOf a.x b.x a.wd b.wd ≤ 8192 := by have := ga.wd; have := gb.wd; unfold depthOf ab; omega
  have ke : depthOf a.y b.y a.ht b.ht ≤ 8192 := by have := ga.ht; have := gb.ht; unfold depthOf ab; omega
  have em : min a.rr b.rr = a.rr := by omega
  have c1 := good_yes a ((goodB_iff a).2 ga)
  have c2 := good_yes b ((goodB_iff b).2 gb)
  have c3 := depth_any a b ga gb
  have c4 : ∀ w, Calls Tryz.prog 145 #[rowV a] w fun e w' => e = .returned (.bool true) ∧ Below w.heap.size w w' := fun w => by
    have := fixed_any a w
    rwa [show (a.ms == 0) = true from by simp [fa]] at this
  have c5 : ∀ w, Calls Tryz.prog 145 #[rowV b] w fun e w' => e = .returned (.bool false) ∧ Below w.heap.size w w' := fun w => by
    have := fixed_any b w
    rwa [show (b.ms == 0) = false from by simp [fb]] at this
  have hwy := way_or a.x b.x
  obtain ⟨-, -, -, gpx, gpy, -, -, gms, grr⟩ := ga
  obtain ⟨-, -, -, gpx', gpy', -, -, gms', grr'⟩ := gb
  obtain ⟨x, y, px, py, wd, ht, ms, rr⟩ := a
  obtain ⟨x', y', px', py', wd', ht', ms', rr'⟩ := b
  simp only [metX] at *
  rw [em]
  clear em fa fb
  unfold retV
  unfold rowV at *
  go_enter Tryz.func117, Tryz.ntmps117
  go_wp2_with fail
  refine (c1 _).mono ?_
  rintro e w1 ⟨rfl, hb⟩
  obtain ⟨hc, hf⟩ := bcell hb
  have hz := hb.size
  simp at hz
  have h0 : Hid (Below w.heap.size w w1) := bcall (bal (bal (bal (bal (Below.refl _ _) _) _) _) _) hb
  have h4 : Hid (Four w1 w.heap.size ⟨x, y, px, py, wd, ht, ms, rr⟩ ⟨x', y', px', py', wd', ht', ms', rr'⟩) := (Four.made w ⟨x, y, px, py, wd, ht, ms, rr⟩ ⟨x', y', px', py', wd', ht', ms', rr'⟩).below hb
  clear hb
  go_wp2_with fail
  refine (c2 _).mono ?_
  rintro e w2 ⟨rfl, hb⟩
  obtain ⟨hc', hf'⟩ := bcell hb
  replace hc : ∀ b o, b < w.heap.size + 1 + 1 + 1 + 1 → w2.cell? ⟨b, o, none⟩ = _ := fun b o hl => (hc' b o (by omega)).trans (hc b o (by simpa using hl))
  replace hf : ∀ b o, b < w.heap.size + 1 + 1 + 1 + 1 → w2.frozen? ⟨b, o, none⟩ = _ := fun b o hl => (hf' b o (by omega)).trans (hf b o (by simpa using hl))
  have hz' := hb.size
  replace hz := Nat.le_trans hz hz'
  replace h0 : Hid (Below w.heap.size w w2) := bcall h0.out hb
  replace h4 : Hid (Four w2 w.heap.size ⟨x, y, px, py, wd, ht, ms, rr⟩ ⟨x', y', px', py', wd', ht', ms', rr'⟩) := h4.out.below hb
  clear hb hc' hf' hz'
  go_wp2_with fail
  refine (c3 _).mono ?_
  rintro e w3 ⟨rfl, hb⟩
  obtain ⟨hc', hf'⟩ := bcell hb
  replace hc : ∀ b o, b < w.heap.size + 1 + 1 + 1 + 1 → w3.cell? ⟨b, o, none⟩ = _ := fun b o hl => (hc' b o (by omega)).trans (hc b o (by simpa using hl))
  replace hf : ∀ b o, b < w.heap.size + 1 + 1 + 1 + 1 → w3.frozen? ⟨b, o, none⟩ = _ := fun b o hl => (hf' b o (by omega)).trans (hf b o (by simpa using hl))
  have hz' := hb.size
  replace hz := Nat.le_trans hz hz'
  replace h0 : Hid (Below w.heap.size w w3) := bcall h0.out hb
  replace h4 : Hid (Four w3 w.heap.size ⟨x, y, px, py, wd, ht, ms, rr⟩ ⟨x', y', px', py', wd', ht', ms', rr'⟩) := h4.out.below hb
  clear hb hc' hf' hz'
  go_wp2_with fail
  refine (c4 _).mono ?_
  rintro e w4 ⟨rfl, hb⟩
  obtain ⟨hc', hf'⟩ := bcell hb
  replace hc : ∀ b o, b < w.heap.size + 1 + 1 + 1 + 1 → w4.cell? ⟨b, o, none⟩ = _ := fun b o hl => (hc' b o (by omega)).trans (hc b o (by simpa using hl))
  replace hf : ∀ b o, b < w.heap.size + 1 + 1 + 1 + 1 → w4.frozen? ⟨b, o, none⟩ = _ := fun b o hl => (hf' b o (by omega)).trans (hf b o (by simpa using hl))
  have hz' := hb.size
  replace hz := Nat.le_trans hz hz'
  replace h0 : Hid (Below w.heap.size w w4) := bcall h0.out hb
  replace h4 : Hid (Four w4 w.heap.size ⟨x, y, px, py, wd, ht, ms, rr⟩ ⟨x', y', px', py', wd', ht', ms', rr'⟩) := h4.out.below hb
  clear hb hc' hf' hz'
  go_wp2_with fail
  refine (c5 _).mono ?_
  rintro e w5 ⟨rfl, hb⟩
  obtain ⟨hc', hf'⟩ := bcell hb
  replace hc : ∀ b o, b < w.heap.size + 1 + 1 + 1 + 1 → w5.cell? ⟨b, o, none⟩ = _ := fun b o hl => (hc' b o (by omega)).trans (hc b o (by simpa using hl))
  replace hf : ∀ b o, b < w.heap.size + 1 + 1 + 1 + 1 → w5.frozen? ⟨b, o, none⟩ = _ := fun b o hl => (hf' b o (by omega)).trans (hf b o (by simpa using hl))
  have hz' := hb.size
  replace hz := Nat.le_trans hz hz'
  replace h0 : Hid (Below w.heap.size w w5) := bcall h0.out hb
  replace h4 : Hid (Four w5 w.heap.size ⟨x, y, px, py, wd, ht, ms, rr⟩ ⟨x', y', px', py', wd', ht', ms', rr'⟩) := h4.out.below hb
  clear hb hc' hf' hz'
  clear c1 c2 c3 c4 c5
  have n0 : w.heap.size < w5.heap.size := by omega
  have n1 : w.heap.size + 1 < w5.heap.size := by omega
  have n2 : w.heap.size + 1 + 1 < w5.heap.size := by omega
  have n3 : w.heap.size + 1 + 1 + 1 < w5.heap.size := by omega
  go_wp2_with (first | (go_at_call 146; refine (wayTo_any _ _ _).mono ?_; rintro e w' ⟨rfl, rfl⟩))
  refine (passOn_any ms ms' px px' rr (wayOf x x') w.heap.size (w.heap.size + 1) 2 (fld ⟨x, y, px, py, wd, ht, ms, rr⟩) (fld ⟨x', y', px', py', wd', ht', ms', rr'⟩) _ gms gms' gpx gpx' grr hwy (h4.out.a.alloc _) (h4.out.b.alloc _) (by omega) rfl rfl (by omega)).mono ?_
  rintro e w6 ⟨rfl, ra, rb, k⟩
  have m0 : w6.cell? ⟨w5.heap.size, 0, none⟩ = some (.int .i64 ms) := (World.cell?_of_block (k.block w5.heap.size (by simp) (by omega) (by omega))).trans (by simp)
  have m1 : w6.cell? ⟨w5.heap.size, 1, none⟩ = some (.int .i64 ms') := (World.cell?_of_block (k.block w5.heap.size (by simp) (by omega) (by omega))).trans (by simp)
  replace h0 : Hid (Below w.heap.size w w6) := (bal h0.out _).trans (k.below (by omega) (by omega) (by simp; omega))
  have rx : Hid (w6.rowIs (w.heap.size + 1 + 1) 34 8 (fld ⟨0, 0, 0, 0, 0, 0, 0, 0⟩)) := (h4.out.x.alloc _).of_block (k.block _ (by simp; omega) (by omega) (by omega))
  have ry : Hid (w6.rowIs (w.heap.size + 1 + 1 + 1) 34 8 (fld ⟨0, 0, 0, 0, 0, 0, 0, 0⟩)) := (h4.out.y.alloc _).of_block (k.block _ (by simp; omega) (by omega) (by omega))
  have hz6 := k.size
  simp at hz6
  clear hc hf h4 k
  go_wp2_with fail
  refine (moveApart_any ms ms' x x' (depthOf x x' wd wd') (wayOf x x') w.heap.size (w.heap.size + 1) 0 _ _ _ (by omega) hwy ra rb (by omega) rfl rfl (by omega)).mono ?_
  rintro e w7 ⟨rfl, ra7, rb7, k7⟩
  have a0 : w7.cell? ⟨w.heap.size, 0, none⟩ = some (.int .i64 (atA x ms ms' (depthOf x x' wd wd') (wayOf x x'))) := ra7.cell (i := 0) (by omega)
  have a1 : w7.cell? ⟨w.heap.size, 1, none⟩ = some (.int .i64 y) := ra7.cell (i := 1) (by omega)
  have a2 : w7.cell? ⟨w.heap.size, 2, none⟩ = some (.int .i64 (pushA px px' ms ms' rr (wayOf x x'))) := ra7.cell (i := 2) (by omega)
  have a3 : w7.cell? ⟨w.heap.size, 3, none⟩ = some (.int .i64 py) := ra7.cell (i := 3) (by omega)
  have a4 : w7.cell? ⟨w.heap.size, 4, none⟩ = some (.int .i64 wd) := ra7.cell (i := 4) (by omega)
  have a5 : w7.cell? ⟨w.heap.size, 5, none⟩ = some (.int .i64 ht) := ra7.cell (i := 5) (by omega)
  have a6 : w7.cell? ⟨w.heap.size, 6, none⟩ = some (.int .i64 ms) := ra7.cell (i := 6) (by omega)
  have a7 : w7.cell? ⟨w.heap.size, 7, none⟩ = some (.int .i64 rr) := ra7.cell (i := 7) (by omega)
  have b0 : w7.cell? ⟨w.heap.size + 1, 0, none⟩ = some (.int .i64 (atB x' ms ms' (depthOf x x' wd wd') (wayOf x x'))) := rb7.cell (i := 0) (by omega)
  have b1 : w7.cell? ⟨w.heap.size + 1, 1, none⟩ = some (.int .i64 y') := rb7.cell (i := 1) (by omega)
  have b2 : w7.cell? ⟨w.heap.size + 1, 2, none⟩ = some (.int .i64 (pushB px px' ms ms' rr (wayOf x x'))) := rb7.cell (i := 2) (by omega)
  have b3 : w7.cell? ⟨w.heap.size + 1, 3, none⟩ = some (.int .i64 py') := rb7.cell (i := 3) (by omega)
  have b4 : w7.cell? ⟨w.heap.size + 1, 4, none⟩ = some (.int .i64 wd') := rb7.cell (i := 4) (by omega)
  have b5 : w7.cell? ⟨w.heap.size + 1, 5, none⟩ = some (.int .i64 ht') := rb7.cell (i := 5) (by omega)
  have b6 : w7.cell? ⟨w.heap.size + 1, 6, none⟩ = some (.int .i64 ms') := rb7.cell (i := 6) (by omega)
  have b7 : w7.cell? ⟨w.heap.size + 1, 7, none⟩ = some (.int .i64 rr') := rb7.cell (i := 7) (by omega)
  replace h0 : Hid (Below w.heap.size w w7) := h0.out.trans (k7.below (by omega) (by omega) (by omega))
  replace rx := rx.out.of_block (k7.block _ (by omega) (by omega) (by omega))
  replace ry := ry.out.of_block (k7.block _ (by omega) (by omega) (by omega))
  have xc : ∀ o, o < 8 → w7.cell? ⟨w.heap.size + 1 + 1, o, none⟩ = some _ := fun o ho => rx.cell ho
  have yc : ∀ o, o < 8 → w7.cell? ⟨w.heap.size + 1 + 1 + 1, o, none⟩ = some _ := fun o ho => ry.cell ho
  have xf := rx.frozen
  have yf := ry.frozen
  have hz7 := k7.size
  clear k7 ra7 rb7 rx ry ra rb m0 m1
  go_wp2
  go_region
  go_wp2
  refine bodyPost_ret (by simp [results, Tryz.results117, go_sem, xc, yc]) rfl ⟨rfl, ?_⟩
  refine Below.drew ?_
  iterate 16 refine Below.setCell ?_ (by simp; omega) _
  exact h0.out

set_option maxHeartbeats 8000000 in
theorem meetX_fixed_hi (a b : R8) (ga : GoodP a) (gb : GoodP b) (hx : 1 ≤ depthOf a.x b.x a.wd b.wd) (hy : 1 ≤ depthOf a.y b.y a.ht b.ht) (hl : depthOf a.x b.x a.wd b.wd < depthOf a.y b.y a.ht b.ht) (fa : a.ms = 0) (fb : b.ms ≠ 0) (hr : b.rr < a.rr) (w : World) :
    Calls Tryz.prog 117 #[rowV a, rowV b] w fun e w' => e = .returned (retV (metX a b).1 (metX a b).2 true) ∧ Below w.heap.size w w' := by
  have kd : depthOf a.x b.x a.wd b.wd ≤ 8192 := by have := ga.wd; have := gb.wd; unfold depthOf ab; omega
  have ke : depthOf a.y b.y a.ht b.ht ≤ 8192 := by have := ga.ht; have := gb.ht; unfold depthOf ab; omega
  have em : min a.rr b.rr = b.rr := by omega
  have c1 := good_yes a ((goodB_iff a).2 ga)
  have c2 := good_yes b ((goodB_iff b).2 gb)
  have c3 := depth_any a b ga gb
  have c4 : ∀ w, Calls Tryz.prog 145 #[rowV a] w fun e w' => e = .returned (.bool true) ∧ Below w.heap.size w w' := fun w => by
    have := fixed_any a w
    rwa [show (a.ms == 0) = true from by simp [fa]] at this
  have c5 : ∀ w, Calls Tryz.prog 145 #[rowV b] w fun e w' => e = .returned (.bool false) ∧ Below w.heap.size w w' := fun w => by
    have := fixed_any b w
    rwa [show (b.ms == 0) = false from by simp [fb]] at this
  have hwy := way_or a.x b.x
  obtain ⟨-, -, -, gpx, gpy, -, -, gms, grr⟩ := ga
  obtain ⟨-, -, -, gpx', gpy', -, -, gms', grr'⟩ := gb
  obtain ⟨x, y, px, py, wd, ht, ms, rr⟩ := a
  obtain ⟨x', y', px', py', wd', ht', ms', rr'⟩ := b
  simp only [metX] at *
  rw [em]
  clear em fa fb
  unfold retV
  unfold rowV at *
  go_enter Tryz.func117, Tryz.ntmps117
  go_wp2_with fail
  refine (c1 _).mono ?_
  rintro e w1 ⟨rfl, hb⟩
  obtain ⟨hc, hf⟩ := bcell hb
  have hz := hb.size
  simp at hz
  have h0 : Hid (Below w.heap.size w w1) := bcall (bal (bal (bal (bal (Below.refl _ _) _) _) _) _) hb
  have h4 : Hid (Four w1 w.heap.size ⟨x, y, px, py, wd, ht, ms, rr⟩ ⟨x', y', px', py', wd', ht', ms', rr'⟩) := (Four.made w ⟨x, y, px, py, wd, ht, ms, rr⟩ ⟨x', y', px', py', wd', ht', ms', rr'⟩).below hb
  clear hb
  go_wp2_with fail
  refine (c2 _).mono ?_
  rintro e w2 ⟨rfl, hb⟩
  obtain ⟨hc', hf'⟩ := bcell hb
  replace hc : ∀ b o, b < w.heap.size + 1 + 1 + 1 + 1 → w2.cell? ⟨b, o, none⟩ = _ := fun b o hl => (hc' b o (by omega)).trans (hc b o (by simpa using hl))
  replace hf : ∀ b o, b < w.heap.size + 1 + 1 + 1 + 1 → w2.frozen? ⟨b, o, none⟩ = _ := fun b o hl => (hf' b o (by omega)).trans (hf b o (by simpa using hl))
  have hz' := hb.size
  replace hz := Nat.le_trans hz hz'
  replace h0 : Hid (Below w.heap.size w w2) := bcall h0.out hb
  replace h4 : Hid (Four w2 w.heap.size ⟨x, y, px, py, wd, ht, ms, rr⟩ ⟨x', y', px', py', wd', ht', ms', rr'⟩) := h4.out.below hb
  clear hb hc' hf' hz'
  go_wp2_with fail
  refine (c3 _).mono ?_
  rintro e w3 ⟨rfl, hb⟩
  obtain ⟨hc', hf'⟩ := bcell hb
  replace hc : ∀ b o, b < w.heap.size + 1 + 1 + 1 + 1 → w3.cell? ⟨b, o, none⟩ = _ := fun b o hl => (hc' b o (by omega)).trans (hc b o (by simpa using hl))
  replace hf : ∀ b o, b < w.heap.size + 1 + 1 + 1 + 1 → w3.frozen? ⟨b, o, none⟩ = _ := fun b o hl => (hf' b o (by omega)).trans (hf b o (by simpa using hl))
  have hz' := hb.size
  replace hz := Nat.le_trans hz hz'
  replace h0 : Hid (Below w.heap.size w w3) := bcall h0.out hb
  replace h4 : Hid (Four w3 w.heap.size ⟨x, y, px, py, wd, ht, ms, rr⟩ ⟨x', y', px', py', wd', ht', ms', rr'⟩) := h4.out.below hb
  clear hb hc' hf' hz'
  go_wp2_with fail
  refine (c4 _).mono ?_
  rintro e w4 ⟨rfl, hb⟩
  obtain ⟨hc', hf'⟩ := bcell hb
  replace hc : ∀ b o, b < w.heap.size + 1 + 1 + 1 + 1 → w4.cell? ⟨b, o, none⟩ = _ := fun b o hl => (hc' b o (by omega)).trans (hc b o (by simpa using hl))
  replace hf : ∀ b o, b < w.heap.size + 1 + 1 + 1 + 1 → w4.frozen? ⟨b, o, none⟩ = _ := fun b o hl => (hf' b o (by omega)).trans (hf b o (by simpa using hl))
  have hz' := hb.size
  replace hz := Nat.le_trans hz hz'
  replace h0 : Hid (Below w.heap.size w w4) := bcall h0.out hb
  replace h4 : Hid (Four w4 w.heap.size ⟨x, y, px, py, wd, ht, ms, rr⟩ ⟨x', y', px', py', wd', ht', ms', rr'⟩) := h4.out.below hb
  clear hb hc' hf' hz'
  go_wp2_with fail
  refine (c5 _).mono ?_
  rintro e w5 ⟨rfl, hb⟩
  obtain ⟨hc', hf'⟩ := bcell hb
  replace hc : ∀ b o, b < w.heap.size + 1 + 1 + 1 + 1 → w5.cell? ⟨b, o, none⟩ = _ := fun b o hl => (hc' b o (by omega)).trans (hc b o (by simpa using hl))
  replace hf : ∀ b o, b < w.heap.size + 1 + 1 + 1 + 1 → w5.frozen? ⟨b, o, none⟩ = _ := fun b o hl => (hf' b o (by omega)).trans (hf b o (by simpa using hl))
  have hz' := hb.size
  replace hz := Nat.le_trans hz hz'
  replace h0 : Hid (Below w.heap.size w w5) := bcall h0.out hb
  replace h4 : Hid (Four w5 w.heap.size ⟨x, y, px, py, wd, ht, ms, rr⟩ ⟨x', y', px', py', wd', ht', ms', rr'⟩) := h4.out.below hb
  clear hb hc' hf' hz'
  clear c1 c2 c3 c4 c5
  have n0 : w.heap.size < w5.heap.size := by omega
  have n1 : w.heap.size + 1 < w5.heap.size := by omega
  have n2 : w.heap.size + 1 + 1 < w5.heap.size := by omega
  have n3 : w.heap.size + 1 + 1 + 1 < w5.heap.size := by omega
  go_wp2_with (first | (go_at_call 146; refine (wayTo_any _ _ _).mono ?_; rintro e w' ⟨rfl, rfl⟩))
  refine (passOn_any ms ms' px px' rr' (wayOf x x') w.heap.size (w.heap.size + 1) 2 (fld ⟨x, y, px, py, wd, ht, ms, rr⟩) (fld ⟨x', y', px', py', wd', ht', ms', rr'⟩) _ gms gms' gpx gpx' grr' hwy (h4.out.a.alloc _) (h4.out.b.alloc _) (by omega) rfl rfl (by omega)).mono ?_
  rintro e w6 ⟨rfl, ra, rb, k⟩
  have m0 : w6.cell? ⟨w5.heap.size, 0, none⟩ = some (.int .i64 ms) := (World.cell?_of_block (k.block w5.heap.size (by simp) (by omega) (by omega))).trans (by simp)
  have m1 : w6.cell? ⟨w5.heap.size, 1, none⟩ = some (.int .i64 ms') := (World.cell?_of_block (k.block w5.heap.size (by simp) (by omega) (by omega))).trans (by simp)
  replace h0 : Hid (Below w.heap.size w w6) := (bal h0.out _).trans (k.below (by omega) (by omega) (by simp; omega))
  have rx : Hid (w6.rowIs (w.heap.size + 1 + 1) 34 8 (fld ⟨0, 0, 0, 0, 0, 0, 0, 0⟩)) := (h4.out.x.alloc _).of_block (k.block _ (by simp; omega) (by omega) (by omega))
  have ry : Hid (w6.rowIs (w.heap.size + 1 + 1 + 1) 34 8 (fld ⟨0, 0, 0, 0, 0, 0, 0, 0⟩)) := (h4.out.y.alloc _).of_block (k.block _ (by simp; omega) (by omega) (by omega))
  have hz6 := k.size
  simp at hz6
  clear hc hf h4 k
  go_wp2_with fail
  refine (moveApart_any ms ms' x x' (depthOf x x' wd wd') (wayOf x x') w.heap.size (w.heap.size + 1) 0 _ _ _ (by omega) hwy ra rb (by omega) rfl rfl (by omega)).mono ?_
  rintro e w7 ⟨rfl, ra7, rb7, k7⟩
  have a0 : w7.cell? ⟨w.heap.size, 0, none⟩ = some (.int .i64 (atA x ms ms' (depthOf x x' wd wd') (wayOf x x'))) := ra7.cell (i := 0) (by omega)
  have a1 : w7.cell? ⟨w.heap.size, 1, none⟩ = some (.int .i64 y) := ra7.cell (i := 1) (by omega)
  have a2 : w7.cell? ⟨w.heap.size, 2, none⟩ = some (.int .i64 (pushA px px' ms ms' rr' (wayOf x x'))) := ra7.cell (i := 2) (by omega)
  have a3 : w7.cell? ⟨w.heap.size, 3, none⟩ = some (.int .i64 py) := ra7.cell (i := 3) (by omega)
  have a4 : w7.cell? ⟨w.heap.size, 4, none⟩ = some (.int .i64 wd) := ra7.cell (i := 4) (by omega)
  have a5 : w7.cell? ⟨w.heap.size, 5, none⟩ = some (.int .i64 ht) := ra7.cell (i := 5) (by omega)
  have a6 : w7.cell? ⟨w.heap.size, 6, none⟩ = some (.int .i64 ms) := ra7.cell (i := 6) (by omega)
  have a7 : w7.cell? ⟨w.heap.size, 7, none⟩ = some (.int .i64 rr) := ra7.cell (i := 7) (by omega)
  have b0 : w7.cell? ⟨w.heap.size + 1, 0, none⟩ = some (.int .i64 (atB x' ms ms' (depthOf x x' wd wd') (wayOf x x'))) := rb7.cell (i := 0) (by omega)
  have b1 : w7.cell? ⟨w.heap.size + 1, 1, none⟩ = some (.int .i64 y') := rb7.cell (i := 1) (by omega)
  have b2 : w7.cell? ⟨w.heap.size + 1, 2, none⟩ = some (.int .i64 (pushB px px' ms ms' rr' (wayOf x x'))) := rb7.cell (i := 2) (by omega)
  have b3 : w7.cell? ⟨w.heap.size + 1, 3, none⟩ = some (.int .i64 py') := rb7.cell (i := 3) (by omega)
  have b4 : w7.cell? ⟨w.heap.size + 1, 4, none⟩ = some (.int .i64 wd') := rb7.cell (i := 4) (by omega)
  have b5 : w7.cell? ⟨w.heap.size + 1, 5, none⟩ = some (.int .i64 ht') := rb7.cell (i := 5) (by omega)
  have b6 : w7.cell? ⟨w.heap.size + 1, 6, none⟩ = some (.int .i64 ms') := rb7.cell (i := 6) (by omega)
  have b7 : w7.cell? ⟨w.heap.size + 1, 7, none⟩ = some (.int .i64 rr') := rb7.cell (i := 7) (by omega)
  replace h0 : Hid (Below w.heap.size w w7) := h0.out.trans (k7.below (by omega) (by omega) (by omega))
  replace rx := rx.out.of_block (k7.block _ (by omega) (by omega) (by omega))
  replace ry := ry.out.of_block (k7.block _ (by omega) (by omega) (by omega))
  have xc : ∀ o, o < 8 → w7.cell? ⟨w.heap.size + 1 + 1, o, none⟩ = some _ := fun o ho => rx.cell ho
  have yc : ∀ o, o < 8 → w7.cell? ⟨w.heap.size + 1 + 1 + 1, o, none⟩ = some _ := fun o ho => ry.cell ho
  have xf := rx.frozen
  have yf := ry.frozen
  have hz7 := k7.size
  clear k7 ra7 rb7 rx ry ra rb m0 m1
  go_wp2
  go_region
  go_wp2
  refine bodyPost_ret (by simp [results, Tryz.results117, go_sem, xc, yc]) rfl ⟨rfl, ?_⟩
  refine Below.drew ?_
  iterate 16 refine Below.setCell ?_ (by simp; omega) _
  exact h0.out
end Go.Proofs.YtckkkdldljhehacGreat
namespace Go.Proofs.YtckkkdldljhehacGreat
open Go.ChangeShapes Go.WideShapes Go.ChangeAt Go.RowKit
open Num

set_option maxHeartbeats 8000000 in
theorem meetY_free_lo (a b : R8) (ga : GoodP a) (gb : GoodP b) (hx : 1 ≤ depthOf a.x b.x a.wd b.wd) (hy : 1 ≤ depthOf a.y b.y a.ht b.ht) (hl : depthOf a.y b.y a.ht b.ht ≤ depthOf a.x b.x a.wd b.wd) (fa : a.ms ≠ 0) (hr : a.rr ≤ b.rr) (w : World) :
    Calls Tryz.prog 117 #[rowV a, rowV b] w fun e w' => e = .returned (retV (metY a b).1 (metY a b).2 true) ∧ Below w.heap.size w w' := by
  have kd : depthOf a.x b.x a.wd b.wd ≤ 8192 := by have := ga.wd; have := gb.wd; unfold depthOf ab; omega
  have ke : depthOf a.y b.y a.ht b.ht ≤ 8192 := by have := ga.ht; have := gb.ht; unfold depthOf ab; omega
  have em : min a.rr b.rr = a.rr := by omega
  have c1 := good_yes a ((goodB_iff a).2 ga)
  have c2 := good_yes b ((goodB_iff b).2 gb)
  have c3 := depth_any a b ga gb
  have c4 : ∀ w, Calls Tryz.prog 145 #[rowV a] w fun e w' => e = .returned (.bool false) ∧ Below w.heap.size w w' := fun w => by
    have := fixed_any a w
    rwa [show (a.ms == 0) = false from by simp [fa]] at this
  have hwy := way_or a.y b.y
  obtain ⟨-, -, -, gpx, gpy, -, -, gms, grr⟩ := ga
  obtain ⟨-, -, -, gpx', gpy', -, -, gms', grr'⟩ := gb
  obtain ⟨x, y, px, py, wd, ht, ms, rr⟩ := a
  obtain ⟨x', y', px', py', wd', ht', ms', rr'⟩ := b
  simp only [metY] at *
  rw [em]
  clear em fa
  unfold retV
  unfold rowV at *
  go_enter Tryz.func117, Tryz.ntmps117
  go_wp2_with fail
  refine (c1 _).mono ?_
  rintro e w1 ⟨rfl, hb⟩
  obtain ⟨hc, hf⟩ := bcell hb
  have hz := hb.size
  simp at hz
  have h0 : Hid (Below w.heap.size w w1) := bcall (bal (bal (bal (bal (Below.refl _ _) _) _) _) _) hb
  have h4 : Hid (Four w1 w.heap.size ⟨x, y, px, py, wd, ht, ms, rr⟩ ⟨x', y', px', py', wd', ht', ms', rr'⟩) := (Four.made w ⟨x, y, px, py, wd, ht, ms, rr⟩ ⟨x', y', px', py', wd', ht', ms', rr'⟩).below hb
  clear hb
  go_wp2_with fail
  refine (c2 _).mono ?_
  rintro e w2 ⟨rfl, hb⟩
  obtain ⟨hc', hf'⟩ := bcell hb
  replace hc : ∀ b o, b < w.heap.size + 1 + 1 + 1 + 1 → w2.cell? ⟨b, o, none⟩ = _ := fun b o hl => (hc' b o (by omega)).trans (hc b o (by simpa using hl))
  replace hf : ∀ b o, b < w.heap.size + 1 + 1 + 1 + 1 → w2.frozen? ⟨b, o, none⟩ = _ := fun b o hl => (hf' b o (by omega)).trans (hf b o (by simpa using hl))
  have hz' := hb.size
  replace hz := Nat.le_trans hz hz'
  replace h0 : Hid (Below w.heap.size w w2) := bcall h0.out hb
  replace h4 : Hid (Four w2 w.heap.size ⟨x, y, px, py, wd, ht, ms, rr⟩ ⟨x', y', px', py', wd', ht', ms', rr'⟩) := h4.out.below hb
  clear hb hc' hf' hz'
  go_wp2_with fail
  refine (c3 _).mono ?_
  rintro e w3 ⟨rfl, hb⟩
  obtain ⟨hc', hf'⟩ := bcell hb
  replace hc : ∀ b o, b < w.heap.size + 1 + 1 + 1 + 1 → w3.cell? ⟨b, o, none⟩ = _ := fun b o hl => (hc' b o (by omega)).trans (hc b o (by simpa using hl))
  replace hf : ∀ b o, b < w.heap.size + 1 + 1 + 1 + 1 → w3.frozen? ⟨b, o, none⟩ = _ := fun b o hl => (hf' b o (by omega)).trans (hf b o (by simpa using hl))
  have hz' := hb.size
  replace hz := Nat.le_trans hz hz'
  replace h0 : Hid (Below w.heap.size w w3) := bcall h0.out hb
  replace h4 : Hid (Four w3 w.heap.size ⟨x, y, px, py, wd, ht, ms, rr⟩ ⟨x', y', px', py', wd', ht', ms', rr'⟩) := h4.out.below hb
  clear hb hc' hf' hz'
  go_wp2_with fail
  refine (c4 _).mono ?_
  rintro e w4 ⟨rfl, hb⟩
  obtain ⟨hc', hf'⟩ := bcell hb
  replace hc : ∀ b o, b < w.heap.size + 1 + 1 + 1 + 1 → w4.cell? ⟨b, o, none⟩ = _ := fun b o hl => (hc' b o (by omega)).trans (hc b o (by simpa using hl))
  replace hf : ∀ b o, b < w.heap.size + 1 + 1 + 1 + 1 → w4.frozen? ⟨b, o, none⟩ = _ := fun b o hl => (hf' b o (by omega)).trans (hf b o (by simpa using hl))
  have hz' := hb.size
  replace hz := Nat.le_trans hz hz'
  replace h0 : Hid (Below w.heap.size w w4) := bcall h0.out hb
  replace h4 : Hid (Four w4 w.heap.size ⟨x, y, px, py, wd, ht, ms, rr⟩ ⟨x', y', px', py', wd', ht', ms', rr'⟩) := h4.out.below hb
  clear hb hc' hf' hz'
  clear c1 c2 c3 c4
  have n0 : w.heap.size < w4.heap.size := by omega
  have n1 : w.heap.size + 1 < w4.heap.size := by omega
  have n2 : w.heap.size + 1 + 1 < w4.heap.size := by omega
  have n3 : w.heap.size + 1 + 1 + 1 < w4.heap.size := by omega
  go_wp2_with (first | (go_at_call 146; refine (wayTo_any _ _ _).mono ?_; rintro e w' ⟨rfl, rfl⟩))
  refine (passOn_any ms ms' py py' rr (wayOf y y') w.heap.size (w.heap.size + 1) 3 (fld ⟨x, y, px, py, wd, ht, ms, rr⟩) (fld ⟨x', y', px', py', wd', ht', ms', rr'⟩) _ gms gms' gpy gpy' grr hwy (h4.out.a.alloc _) (h4.out.b.alloc _) (by omega) rfl rfl (by omega)).mono ?_
  rintro e w6 ⟨rfl, ra, rb, k⟩
  have m0 : w6.cell? ⟨w4.heap.size, 0, none⟩ = some (.int .i64 ms) := (World.cell?_of_block (k.block w4.heap.size (by simp) (by omega) (by omega))).trans (by simp)
  have m1 : w6.cell? ⟨w4.heap.size, 1, none⟩ = some (.int .i64 ms') := (World.cell?_of_block (k.block w4.heap.size (by simp) (by omega) (by omega))).trans (by simp)
  replace h0 : Hid (Below w.heap.size w w6) := (bal h0.out _).trans (k.below (by omega) (by omega) (by simp; omega))
  have rx : Hid (w6.rowIs (w.heap.size + 1 + 1) 34 8 (fld ⟨0, 0, 0, 0, 0, 0, 0, 0⟩)) := (h4.out.x.alloc _).of_block (k.block _ (by simp; omega) (by omega) (by omega))
  have ry : Hid (w6.rowIs (w.heap.size + 1 + 1 + 1) 34 8 (fld ⟨0, 0, 0, 0, 0, 0, 0, 0⟩)) := (h4.out.y.alloc _).of_block (k.block _ (by simp; omega) (by omega) (by omega))
  have hz6 := k.size
  simp at hz6
  clear hc hf h4 k
  go_wp2_with fail
  refine (moveApart_any ms ms' y y' (depthOf y y' ht ht') (wayOf y y') w.heap.size (w.heap.size + 1) 1 _ _ _ (by omega) hwy ra rb (by omega) rfl rfl (by omega)).mono ?_
  rintro e w7 ⟨rfl, ra7, rb7, k7⟩
  have a0 : w7.cell? ⟨w.heap.size, 0, none⟩ = some (.int .i64 x) := ra7.cell (i := 0) (by omega)
  have a1 : w7.cell? ⟨w.heap.size, 1, none⟩ = some (.int .i64 (atA y ms ms' (depthOf y y' ht ht') (wayOf y y'))) := ra7.cell (i := 1) (by omega)
  have a2 : w7.cell? ⟨w.heap.size, 2, none⟩ = some (.int .i64 px) := ra7.cell (i := 2) (by omega)
  have a3 : w7.cell? ⟨w.heap.size, 3, none⟩ = some (.int .i64 (pushA py py' ms ms' rr (wayOf y y'))) := ra7.cell (i := 3) (by omega)
  have a4 : w7.cell? ⟨w.heap.size, 4, none⟩ = some (.int .i64 wd) := ra7.cell (i := 4) (by omega)
  have a5 : w7.cell? ⟨w.heap.size, 5, none⟩ = some (.int .i64 ht) := ra7.cell (i := 5) (by omega)
  have a6 : w7.cell? ⟨w.heap.size, 6, none⟩ = some (.int .i64 ms) := ra7.cell (i := 6) (by omega)
  have a7 : w7.cell? ⟨w.heap.size, 7, none⟩ = some (.int .i64 rr) := ra7.cell (i := 7) (by omega)
  have b0 : w7.cell? ⟨w.heap.size + 1, 0, none⟩ = some (.int .i64 x') := rb7.cell (i := 0) (by omega)
  have b1 : w7.cell? ⟨w.heap.size + 1, 1, none⟩ = some (.int .i64 (atB y' ms ms' (depthOf y y' ht ht') (wayOf y y'))) := rb7.cell (i := 1) (by omega)
  have b2 : w7.cell? ⟨w.heap.size + 1, 2, none⟩ = some (.int .i64 px') := rb7.cell (i := 2) (by omega)
  have b3 : w7.cell? ⟨w.heap.size + 1, 3, none⟩ = some (.int .i64 (pushB py py' ms ms' rr (wayOf y y'))) := rb7.cell (i := 3) (by omega)
  have b4 : w7.cell? ⟨w.heap.size + 1, 4, none⟩ = some (.int .i64 wd') := rb7.cell (i := 4) (by omega)
  have b5 : w7.cell? ⟨w.heap.size + 1, 5, none⟩ = some (.int .i64 ht') := rb7.cell (i := 5) (by omega)
  have b6 : w7.cell? ⟨w.heap.size + 1, 6, none⟩ = some (.int .i64 ms') := rb7.cell (i := 6) (by omega)
  have b7 : w7.cell? ⟨w.heap.size + 1, 7, none⟩ = some (.int .i64 rr') := rb7.cell (i := 7) (by omega)
  replace h0 : Hid (Below w.heap.size w w7) := h0.out.trans (k7.below (by omega) (by omega) (by omega))
  replace rx := rx.out.of_block (k7.block _ (by omega) (by omega) (by omega))
  replace ry := ry.out.of_block (k7.block _ (by omega) (by omega) (by omega))
  have xc : ∀ o, o < 8 → w7.cell? ⟨w.heap.size + 1 + 1, o, none⟩ = some _ := fun o ho => rx.cell ho
  have yc : ∀ o, o < 8 → w7.cell? ⟨w.heap.size + 1 + 1 + 1, o, none⟩ = some _ := fun o ho => ry.cell ho
  have xf := rx.frozen
  have yf := ry.frozen
  have hz7 := k7.size
  clear k7 ra7 rb7 rx ry ra rb m0 m1
  go_wp2
  go_region
  go_wp2
  refine bodyPost_ret (by simp [results, Tryz.results117, go_sem, xc, yc]) rfl ⟨rfl, ?_⟩
  refine Below.drew ?_
  iterate 16 refine Below.setCell ?_ (by simp; omega) _
  exact h0.out

set_option maxHeartbeats 8000000 in
theorem meetY_free_hi (a b : R8) (ga : GoodP a) (gb : GoodP b) (hx : 1 ≤ depthOf a.x b.x a.wd b.wd) (hy : 1 ≤ depthOf a.y b.y a.ht b.ht) (hl : depthOf a.y b.y a.ht b.ht ≤ depthOf a.x b.x a.wd b.wd) (fa : a.ms ≠ 0) (hr : b.rr < a.rr) (w : World) :
    Calls Tryz.prog 117 #[rowV a, rowV b] w fun e w' => e = .returned (retV (metY a b).1 (metY a b).2 true) ∧ Below w.heap.size w w' := by
  have kd : depthOf a.x b.x a.wd b.wd ≤ 8192 := by have := ga.wd; have := gb.wd; unfold depthOf ab; omega
  have ke : depthOf a.y b.y a.ht b.ht ≤ 8192 := by have := ga.ht; have := gb.ht; unfold depthOf ab; omega
  have em : min a.rr b.rr = b.rr := by omega
  have c1 := good_yes a ((goodB_iff a).2 ga)
  have c2 := good_yes b ((goodB_iff b).2 gb)
  have c3 := depth_any a b ga gb
  have c4 : ∀ w, Calls Tryz.prog 145 #[rowV a] w fun e w' => e = .returned (.bool false) ∧ Below w.heap.size w w' := fun w => by
    have := fixed_any a w
    rwa [show (a.ms == 0) = false from by simp [fa]] at this
  have hwy := way_or a.y b.y
  obtain ⟨-, -, -, gpx, gpy, -, -, gms, grr⟩ := ga
  obtain ⟨-, -, -, gpx', gpy', -, -, gms', grr'⟩ := gb
  obtain ⟨x, y, px, py, wd, ht, ms, rr⟩ := a
  obtain ⟨x', y', px', py', wd', ht', ms', rr'⟩ := b
  simp only [metY] at *
  rw [em]
  clear em fa
  unfold retV
  unfold rowV at *
  go_enter Tryz.func117, Tryz.ntmps117
  go_wp2_with fail
  refine (c1 _).mono ?_
  rintro e w1 ⟨rfl, hb⟩
  obtain ⟨hc, hf⟩ := bcell hb
  have hz := hb.size
  simp at hz
  have h0 : Hid (Below w.heap.size w w1) := bcall (bal (bal (bal (bal (Below.refl _ _) _) _) _) _) hb
  have h4 : Hid (Four w1 w.heap.size ⟨x, y, px, py, wd, ht, ms, rr⟩ ⟨x', y', px', py', wd', ht', ms', rr'⟩) := (Four.made w ⟨x, y, px, py, wd, ht, ms, rr⟩ ⟨x', y', px', py', wd', ht', ms', rr'⟩).below hb
  clear hb
  go_wp2_with fail
  refine (c2 _).mono ?_
  rintro e w2 ⟨rfl, hb⟩
  obtain ⟨hc', hf'⟩ := bcell hb
  replace hc : ∀ b o, b < w.heap.size + 1 + 1 + 1 + 1 → w2.cell? ⟨b, o, none⟩ = _ := fun b o hl => (hc' b o (by omega)).trans (hc b o (by simpa using hl))
  replace hf : ∀ b o, b < w.heap.size + 1 + 1 + 1 + 1 → w2.frozen? ⟨b, o, none⟩ = _ := fun b o hl => (hf' b o (by omega)).trans (hf b o (by simpa using hl))
  have hz' := hb.size
  replace hz := Nat.le_trans hz hz'
  replace h0 : Hid (Below w.heap.size w w2) := bcall h0.out hb
  replace h4 : Hid (Four w2 w.heap.size ⟨x, y, px, py, wd, ht, ms, rr⟩ ⟨x', y', px', py', wd', ht', ms', rr'⟩) := h4.out.below hb
  clear hb hc' hf' hz'
  go_wp2_with fail
  refine (c3 _).mono ?_
  rintro e w3 ⟨rfl, hb⟩
  obtain ⟨hc', hf'⟩ := bcell hb
  replace hc : ∀ b o, b < w.heap.size + 1 + 1 + 1 + 1 → w3.cell? ⟨b, o, none⟩ = _ := fun b o hl => (hc' b o (by omega)).trans (hc b o (by simpa using hl))
  replace hf : ∀ b o, b < w.heap.size + 1 + 1 + 1 + 1 → w3.frozen? ⟨b, o, none⟩ = _ := fun b o hl => (hf' b o (by omega)).trans (hf b o (by simpa using hl))
  have hz' := hb.size
  replace hz := Nat.le_trans hz hz'
  replace h0 : Hid (Below w.heap.size w w3) := bcall h0.out hb
  replace h4 : Hid (Four w3 w.heap.size ⟨x, y, px, py, wd, ht, ms, rr⟩ ⟨x', y', px', py', wd', ht', ms', rr'⟩) := h4.out.below hb
  clear hb hc' hf' hz'
  go_wp2_with fail
  refine (c4 _).mono ?_
  rintro e w4 ⟨rfl, hb⟩
  obtain ⟨hc', hf'⟩ := bcell hb
  replace hc : ∀ b o, b < w.heap.size + 1 + 1 + 1 + 1 → w4.cell? ⟨b, o, none⟩ = _ := fun b o hl => (hc' b o (by omega)).trans (hc b o (by simpa using hl))
  replace hf : ∀ b o, b < w.heap.size + 1 + 1 + 1 + 1 → w4.frozen? ⟨b, o, none⟩ = _ := fun b o hl => (hf' b o (by omega)).trans (hf b o (by simpa using hl))
  have hz' := hb.size
  replace hz := Nat.le_trans hz hz'
  replace h0 : Hid (Below w.heap.size w w4) := bcall h0.out hb
  replace h4 : Hid (Four w4 w.heap.size ⟨x, y, px, py, wd, ht, ms, rr⟩ ⟨x', y', px', py', wd', ht', ms', rr'⟩) := h4.out.below hb
  clear hb hc' hf' hz'
  clear c1 c2 c3 c4
  have n0 : w.heap.size < w4.heap.size := by omega
  have n1 : w.heap.size + 1 < w4.heap.size := by omega
  have n2 : w.heap.size + 1 + 1 < w4.heap.size := by omega
  have n3 : w.heap.size + 1 + 1 + 1 < w4.heap.size := by omega
  go_wp2_with (first | (go_at_call 146; refine (wayTo_any _ _ _).mono ?_; rintro e w' ⟨rfl, rfl⟩))
  refine (passOn_any ms ms' py py' rr' (wayOf y y') w.heap.size (w.heap.size + 1) 3 (fld ⟨x, y, px, py, wd, ht, ms, rr⟩) (fld ⟨x', y', px', py', wd', ht', ms', rr'⟩) _ gms gms' gpy gpy' grr' hwy (h4.out.a.alloc _) (h4.out.b.alloc _) (by omega) rfl rfl (by omega)).mono ?_
  rintro e w6 ⟨rfl, ra, rb, k⟩
  have m0 : w6.cell? ⟨w4.heap.size, 0, none⟩ = some (.int .i64 ms) := (World.cell?_of_block (k.block w4.heap.size (by simp) (by omega) (by omega))).trans (by simp)
  have m1 : w6.cell? ⟨w4.heap.size, 1, none⟩ = some (.int .i64 ms') := (World.cell?_of_block (k.block w4.heap.size (by simp) (by omega) (by omega))).trans (by simp)
  replace h0 : Hid (Below w.heap.size w w6) := (bal h0.out _).trans (k.below (by omega) (by omega) (by simp; omega))
  have rx : Hid (w6.rowIs (w.heap.size + 1 + 1) 34 8 (fld ⟨0, 0, 0, 0, 0, 0, 0, 0⟩)) := (h4.out.x.alloc _).of_block (k.block _ (by simp; omega) (by omega) (by omega))
  have ry : Hid (w6.rowIs (w.heap.size + 1 + 1 + 1) 34 8 (fld ⟨0, 0, 0, 0, 0, 0, 0, 0⟩)) := (h4.out.y.alloc _).of_block (k.block _ (by simp; omega) (by omega) (by omega))
  have hz6 := k.size
  simp at hz6
  clear hc hf h4 k
  go_wp2_with fail
  refine (moveApart_any ms ms' y y' (depthOf y y' ht ht') (wayOf y y') w.heap.size (w.heap.size + 1) 1 _ _ _ (by omega) hwy ra rb (by omega) rfl rfl (by omega)).mono ?_
  rintro e w7 ⟨rfl, ra7, rb7, k7⟩
  have a0 : w7.cell? ⟨w.heap.size, 0, none⟩ = some (.int .i64 x) := ra7.cell (i := 0) (by omega)
  have a1 : w7.cell? ⟨w.heap.size, 1, none⟩ = some (.int .i64 (atA y ms ms' (depthOf y y' ht ht') (wayOf y y'))) := ra7.cell (i := 1) (by omega)
  have a2 : w7.cell? ⟨w.heap.size, 2, none⟩ = some (.int .i64 px) := ra7.cell (i := 2) (by omega)
  have a3 : w7.cell? ⟨w.heap.size, 3, none⟩ = some (.int .i64 (pushA py py' ms ms' rr' (wayOf y y'))) := ra7.cell (i := 3) (by omega)
  have a4 : w7.cell? ⟨w.heap.size, 4, none⟩ = some (.int .i64 wd) := ra7.cell (i := 4) (by omega)
  have a5 : w7.cell? ⟨w.heap.size, 5, none⟩ = some (.int .i64 ht) := ra7.cell (i := 5) (by omega)
  have a6 : w7.cell? ⟨w.heap.size, 6, none⟩ = some (.int .i64 ms) := ra7.cell (i := 6) (by omega)
  have a7 : w7.cell? ⟨w.heap.size, 7, none⟩ = some (.int .i64 rr) := ra7.cell (i := 7) (by omega)
  have b0 : w7.cell? ⟨w.heap.size + 1, 0, none⟩ = some (.int .i64 x') := rb7.cell (i := 0) (by omega)
  have b1 : w7.cell? ⟨w.heap.size + 1, 1, none⟩ = some (.int .i64 (atB y' ms ms' (depthOf y y' ht ht') (wayOf y y'))) := rb7.cell (i := 1) (by omega)
  have b2 : w7.cell? ⟨w.heap.size + 1, 2, none⟩ = some (.int .i64 px') := rb7.cell (i := 2) (by omega)
  have b3 : w7.cell? ⟨w.heap.size + 1, 3, none⟩ = some (.int .i64 (pushB py py' ms ms' rr' (wayOf y y'))) := rb7.cell (i := 3) (by omega)
  have b4 : w7.cell? ⟨w.heap.size + 1, 4, none⟩ = some (.int .i64 wd') := rb7.cell (i := 4) (by omega)
  have b5 : w7.cell? ⟨w.heap.size + 1, 5, none⟩ = some (.int .i64 ht') := rb7.cell (i := 5) (by omega)
  have b6 : w7.cell? ⟨w.heap.size + 1, 6, none⟩ = some (.int .i64 ms') := rb7.cell (i := 6) (by omega)
  have b7 : w7.cell? ⟨w.heap.size + 1, 7, none⟩ = some (.int .i64 rr') := rb7.cell (i := 7) (by omega)
  replace h0 : Hid (Below w.heap.size w w7) := h0.out.trans (k7.below (by omega) (by omega) (by omega))
  replace rx := rx.out.of_block (k7.block _ (by omega) (by omega) (by omega))
  replace ry := ry.out.of_block (k7.block _ (by omega) (by omega) (by omega))
  have xc : ∀ o, o < 8 → w7.cell? ⟨w.heap.size + 1 + 1, o, none⟩ = some _ := fun o ho => rx.cell ho
  have yc : ∀ o, o < 8 → w7.cell? ⟨w.heap.size + 1 + 1 + 1, o, none⟩ = some _ := fun o ho => ry.cell ho
  have xf := rx.frozen
  have yf := ry.frozen
  have hz7 := k7.size
  clear k7 ra7 rb7 rx ry ra rb m0 m1
  go_wp2
  go_region
  go_wp2
  refine bodyPost_ret (by simp [results, Tryz.results117, go_sem, xc, yc]) rfl ⟨rfl, ?_⟩
  refine Below.drew ?_
  iterate 16 refine Below.setCell ?_ (by simp; omega) _
  exact h0.out

set_option maxHeartbeats 8000000 in
theorem meetY_fixed_lo (a b : R8) (ga : GoodP a) (gb : GoodP b) (hx : 1 ≤ depthOf a.x b.x a.wd b.wd) (hy : 1 ≤ depthOf a.y b.y a.ht b.ht) (hl : depthOf a.y b.y a.ht b.ht ≤ depthOf a.x b.x a.wd b.wd) (fa : a.ms = 0) (fb : b.ms ≠ 0) (hr : a.rr ≤ b.rr) (w : World) :
    Calls Tryz.prog 117 #[rowV a, rowV b] w fun e w' => e = .returned (retV (metY a b).1 (metY a b).2 true) ∧ Below w.heap.size w w' := by
  have kd : depthOf a.x b.x a.wd b.wd ≤ 8192 := by have := ga.wd; have := gb.wd; unfold depthOf ab; omega
  have ke : depthOf a.y b.y a.ht b.ht ≤ 8192 := by have := ga.ht; have := gb.ht; unfold depthOf ab; omega
  have em : min a.rr b.rr = a.rr := by omega
  have c1 := good_yes a ((goodB_iff a).2 ga)
  have c2 := good_yes b ((goodB_iff b).2 gb)
  have c3 := depth_any a b ga gb
  have c4 : ∀ w, Calls Tryz.prog 145 #[rowV a] w fun e w' => e = .returned (.bool true) ∧ Below w.heap.size w w' := fun w => by
    have := fixed_any a w
    rwa [show (a.ms == 0) = true from by simp [fa]] at this
  have c5 : ∀ w, Calls Tryz.prog 145 #[rowV b] w fun e w' => e = .returned (.bool false) ∧ Below w.heap.size w w' := fun w => by
    have := fixed_any b w
    rwa [show (b.ms == 0) = false from by simp [fb]] at this
  have hwy := way_or a.y b.y
  obtain ⟨-, -, -, gpx, gpy, -, -, gms, grr⟩ := ga
  obtain ⟨-, -, -, gpx', gpy', -, -, gms', grr'⟩ := gb
  obtain ⟨x, y, px, py, wd, ht, ms, rr⟩ := a
  obtain ⟨x', y', px', py', wd', ht', ms', rr'⟩ := b
  simp only [metY] at *
  rw [em]
  clear em fa fb
  unfold retV
  unfold rowV at *
  go_enter Tryz.func117, Tryz.ntmps117
  go_wp2_with fail
  refine (c1 _).mono ?_
  rintro e w1 ⟨rfl, hb⟩
  obtain ⟨hc, hf⟩ := bcell hb
  have hz := hb.size
  simp at hz
  have h0 : Hid (Below w.heap.size w w1) := bcall (bal (bal (bal (bal (Below.refl _ _) _) _) _) _) hb
  have h4 : Hid (Four w1 w.heap.size ⟨x, y, px, py, wd, ht, ms, rr⟩ ⟨x', y', px', py', wd', ht', ms', rr'⟩) := (Four.made w ⟨x, y, px, py, wd, ht, ms, rr⟩ ⟨x', y', px', py', wd', ht', ms', rr'⟩).below hb
  clear hb
  go_wp2_with fail
  refine (c2 _).mono ?_
  rintro e w2 ⟨rfl, hb⟩
  obtain ⟨hc', hf'⟩ := bcell hb
  replace hc : ∀ b o, b < w.heap.size + 1 + 1 + 1 + 1 → w2.cell? ⟨b, o, none⟩ = _ := fun b o hl => (hc' b o (by omega)).trans (hc b o (by simpa using hl))
  replace hf : ∀ b o, b < w.heap.size + 1 + 1 + 1 + 1 → w2.frozen? ⟨b, o, none⟩ = _ := fun b o hl => (hf' b o (by omega)).trans (hf b o (by simpa using hl))
  have hz' := hb.size
  replace hz := Nat.le_trans hz hz'
  replace h0 : Hid (Below w.heap.size w w2) := bcall h0.out hb
  replace h4 : Hid (Four w2 w.heap.size ⟨x, y, px, py, wd, ht, ms, rr⟩ ⟨x', y', px', py', wd', ht', ms', rr'⟩) := h4.out.below hb
  clear hb hc' hf' hz'
  go_wp2_with fail
  refine (c3 _).mono ?_
  rintro e w3 ⟨rfl, hb⟩
  obtain ⟨hc', hf'⟩ := bcell hb
  replace hc : ∀ b o, b < w.heap.size + 1 + 1 + 1 + 1 → w3.cell? ⟨b, o, none⟩ = _ := fun b o hl => (hc' b o (by omega)).trans (hc b o (by simpa using hl))
  replace hf : ∀ b o, b < w.heap.size + 1 + 1 + 1 + 1 → w3.frozen? ⟨b, o, none⟩ = _ := fun b o hl => (hf' b o (by omega)).trans (hf b o (by simpa using hl))
  have hz' := hb.size
  replace hz := Nat.le_trans hz hz'
  replace h0 : Hid (Below w.heap.size w w3) := bcall h0.out hb
  replace h4 : Hid (Four w3 w.heap.size ⟨x, y, px, py, wd, ht, ms, rr⟩ ⟨x', y', px', py', wd', ht', ms', rr'⟩) := h4.out.below hb
  clear hb hc' hf' hz'
  go_wp2_with fail
  refine (c4 _).mono ?_
  rintro e w4 ⟨rfl, hb⟩
  obtain ⟨hc', hf'⟩ := bcell hb
  replace hc : ∀ b o, b < w.heap.size + 1 + 1 + 1 + 1 → w4.cell? ⟨b, o, none⟩ = _ := fun b o hl => (hc' b o (by omega)).trans (hc b o (by simpa using hl))
  replace hf : ∀ b o, b < w.heap.size + 1 + 1 + 1 + 1 → w4.frozen? ⟨b, o, none⟩ = _ := fun b o hl => (hf' b o (by omega)).trans (hf b o (by simpa using hl))
  have hz' := hb.size
  replace hz := Nat.le_trans hz hz'
  replace h0 : Hid (Below w.heap.size w w4) := bcall h0.out hb
  replace h4 : Hid (Four w4 w.heap.size ⟨x, y, px, py, wd, ht, ms, rr⟩ ⟨x', y', px', py', wd', ht', ms', rr'⟩) := h4.out.below hb
  clear hb hc' hf' hz'
  go_wp2_with fail
  refine (c5 _).mono ?_
  rintro e w5 ⟨rfl, hb⟩
  obtain ⟨hc', hf'⟩ := bcell hb
  replace hc : ∀ b o, b < w.heap.size + 1 + 1 + 1 + 1 → w5.cell? ⟨b, o, none⟩ = _ := fun b o hl => (hc' b o (by omega)).trans (hc b o (by simpa using hl))
  replace hf : ∀ b o, b < w.heap.size + 1 + 1 + 1 + 1 → w5.frozen? ⟨b, o, none⟩ = _ := fun b o hl => (hf' b o (by omega)).trans (hf b o (by simpa using hl))
  have hz' := hb.size
  replace hz := Nat.le_trans hz hz'
  replace h0 : Hid (Below w.heap.size w w5) := bcall h0.out hb
  replace h4 : Hid (Four w5 w.heap.size ⟨x, y, px, py, wd, ht, ms, rr⟩ ⟨x', y', px', py', wd', ht', ms', rr'⟩) := h4.out.below hb
  clear hb hc' hf' hz'
  clear c1 c2 c3 c4 c5
  have n0 : w.heap.size < w5.heap.size := by omega
  have n1 : w.heap.size + 1 < w5.heap.size := by omega
  have n2 : w.heap.size + 1 + 1 < w5.heap.size := by omega
  have n3 : w.heap.size + 1 + 1 + 1 < w5.heap.size := by omega
  go_wp2_with (first | (go_at_call 146; refine (wayTo_any _ _ _).mono ?_; rintro e w' ⟨rfl, rfl⟩))
  refine (passOn_any ms ms' py py' rr (wayOf y y') w.heap.size (w.heap.size + 1) 3 (fld ⟨x, y, px, py, wd, ht, ms, rr⟩) (fld ⟨x', y', px', py', wd', ht', ms', rr'⟩) _ gms gms' gpy gpy' grr hwy (h4.out.a.alloc _) (h4.out.b.alloc _) (by omega) rfl rfl (by omega)).mono ?_
  rintro e w6 ⟨rfl, ra, rb, k⟩
  have m0 : w6.cell? ⟨w5.heap.size, 0, none⟩ = some (.int .i64 ms) := (World.cell?_of_block (k.block w5.heap.size (by simp) (by omega) (by omega))).trans (by simp)
  have m1 : w6.cell? ⟨w5.heap.size, 1, none⟩ = some (.int .i64 ms') := (World.cell?_of_block (k.block w5.heap.size (by simp) (by omega) (by omega))).trans (by simp)
  replace h0 : Hid (Below w.heap.size w w6) := (bal h0.out _).trans (k.below (by omega) (by omega) (by simp; omega))
  have rx : Hid (w6.rowIs (w.heap.size + 1 + 1) 34 8 (fld ⟨0, 0, 0, 0, 0, 0, 0, 0⟩)) := (h4.out.x.alloc _).of_block (k.block _ (by simp; omega) (by omega) (by omega))
  have ry : Hid (w6.rowIs (w.heap.size + 1 + 1 + 1) 34 8 (fld ⟨0, 0, 0, 0, 0, 0, 0, 0⟩)) := (h4.out.y.alloc _).of_block (k.block _ (by simp; omega) (by omega) (by omega))
  have hz6 := k.size
  simp at hz6
  clear hc hf h4 k
  go_wp2_with fail
  refine (moveApart_any ms ms' y y' (depthOf y y' ht ht') (wayOf y y') w.heap.size (w.heap.size + 1) 1 _ _ _ (by omega) hwy ra rb (by omega) rfl rfl (by omega)).mono ?_
  rintro e w7 ⟨rfl, ra7, rb7, k7⟩
  have a0 : w7.cell? ⟨w.heap.size, 0, none⟩ = some (.int .i64 x) := ra7.cell (i := 0) (by omega)
  have a1 : w7.cell? ⟨w.heap.size, 1, none⟩ = some (.int .i64 (atA y ms ms' (depthOf y y' ht ht') (wayOf y y'))) := ra7.cell (i := 1) (by omega)
  have a2 : w7.cell? ⟨w.heap.size, 2, none⟩ = some (.int .i64 px) := ra7.cell (i := 2) (by omega)
  have a3 : w7.cell? ⟨w.heap.size, 3, none⟩ = some (.int .i64 (pushA py py' ms ms' rr (wayOf y y'))) := ra7.cell (i := 3) (by omega)
  have a4 : w7.cell? ⟨w.heap.size, 4, none⟩ = some (.int .i64 wd) := ra7.cell (i := 4) (by omega)
  have a5 : w7.cell? ⟨w.heap.size, 5, none⟩ = some (.int .i64 ht) := ra7.cell (i := 5) (by omega)
  have a6 : w7.cell? ⟨w.heap.size, 6, none⟩ = some (.int .i64 ms) := ra7.cell (i := 6) (by omega)
  have a7 : w7.cell? ⟨w.heap.size, 7, none⟩ = some (.int .i64 rr) := ra7.cell (i := 7) (by omega)
  have b0 : w7.cell? ⟨w.heap.size + 1, 0, none⟩ = some (.int .i64 x') := rb7.cell (i := 0) (by omega)
  have b1 : w7.cell? ⟨w.heap.size + 1, 1, none⟩ = some (.int .i64 (atB y' ms ms' (depthOf y y' ht ht') (wayOf y y'))) := rb7.cell (i := 1) (by omega)
  have b2 : w7.cell? ⟨w.heap.size + 1, 2, none⟩ = some (.int .i64 px') := rb7.cell (i := 2) (by omega)
  have b3 : w7.cell? ⟨w.heap.size + 1, 3, none⟩ = some (.int .i64 (pushB py py' ms ms' rr (wayOf y y'))) := rb7.cell (i := 3) (by omega)
  have b4 : w7.cell? ⟨w.heap.size + 1, 4, none⟩ = some (.int .i64 wd') := rb7.cell (i := 4) (by omega)
  have b5 : w7.cell? ⟨w.heap.size + 1, 5, none⟩ = some (.int .i64 ht') := rb7.cell (i := 5) (by omega)
  have b6 : w7.cell? ⟨w.heap.size + 1, 6, none⟩ = some (.int .i64 ms') := rb7.cell (i := 6) (by omega)
  have b7 : w7.cell? ⟨w.heap.size + 1, 7, none⟩ = some (.int .i64 rr') := rb7.cell (i := 7) (by omega)
  replace h0 : Hid (Below w.heap.size w w7) := h0.out.trans (k7.below (by omega) (by omega) (by omega))
  replace rx := rx.out.of_block (k7.block _ (by omega) (by omega) (by omega))
  replace ry := ry.out.of_block (k7.block _ (by omega) (by omega) (by omega))
  have xc : ∀ o, o < 8 → w7.cell? ⟨w.heap.size + 1 + 1, o, none⟩ = some _ := fun o ho => rx.cell ho
  have yc : ∀ o, o < 8 → w7.cell? ⟨w.heap.size + 1 + 1 + 1, o, none⟩ = some _ := fun o ho => ry.cell ho
  have xf := rx.frozen
  have yf := ry.frozen
  have hz7 := k7.size
  clear k7 ra7 rb7 rx ry ra rb m0 m1
  go_wp2
  go_region
  go_wp2
  refine bodyPost_ret (by simp [results, Tryz.results117, go_sem, xc, yc]) rfl ⟨rfl, ?_⟩
  refine Below.drew ?_
  iterate 16 refine Below.setCell ?_ (by simp; omega) _
  exact h0.out

set_option maxHeartbeats 8000000 in
theorem meetY_fixed_hi (a b : R8) (ga : GoodP a) (gb : GoodP b) (hx : 1 ≤ depthOf a.x b.x a.wd b.wd) (hy : 1 ≤ depthOf a.y b.y a.ht b.ht) (hl : depthOf a.y b.y a.ht b.ht ≤ depthOf a.x b.x a.wd b.wd) (fa : a.ms = 0) (fb : b.ms ≠ 0) (hr : b.rr < a.rr) (w : World) :
    Calls Tryz.prog 117 #[rowV a, rowV b] w fun e w' => e = .returned (retV (metY a b).1 (metY a b).2 true) ∧ Below w.heap.size w w' := by
  have kd : depthOf a.x b.x a.wd b.wd ≤ 8192 := by have := ga.wd; have := gb.wd; unfold depthOf ab; omega
  have ke : depthOf a.y b.y a.ht b.ht ≤ 8192 := by have := ga.ht; have := gb.ht; unfold depthOf ab; omega
  have em : min a.rr b.rr = b.rr := by omega
  have c1 := good_yes a ((goodB_iff a).2 ga)
  have c2 := good_yes b ((goodB_iff b).2 gb)
  have c3 := depth_any a b ga gb
  have c4 : ∀ w, Calls Tryz.prog 145 #[rowV a] w fun e w' => e = .returned (.bool true) ∧ Below w.heap.size w w' := fun w => by
    have := fixed_any a w
    rwa [show (a.ms == 0) = true from by simp [fa]] at this
  have c5 : ∀ w, Calls Tryz.prog 145 #[rowV b] w fun e w' => e = .returned (.bool false) ∧ Below w.heap.size w w' := fun w => by
    have := fixed_any b w
    rwa [show (b.ms == 0) = false from by simp [fb]] at this
  have hwy := way_or a.y b.y
  obtain ⟨-, -, -, gpx, gpy, -, -, gms, grr⟩ := ga
  obtain ⟨-, -, -, gpx', gpy', -, -, gms', grr'⟩ := gb
  obtain ⟨x, y, px, py, wd, ht, ms, rr⟩ := a
  obtain ⟨x', y', px', py', wd', ht', ms', rr'⟩ := b
  simp only [metY] at *
  rw [em]
  clear em fa fb
  unfold retV
  unfold rowV at *
  go_enter Tryz.func117, Tryz.ntmps117
  go_wp2_with fail
  refine (c1 _).mono ?_
  rintro e w1 ⟨rfl, hb⟩
  obtain ⟨hc, hf⟩ := bcell hb
  have hz := hb.size
  simp at hz
  have h0 : Hid (Below w.heap.size w w1) := bcall (bal (bal (bal (bal (Below.refl _ _) _) _) _) _) hb
  have h4 : Hid (Four w1 w.heap.size ⟨x, y, px, py, wd, ht, ms, rr⟩ ⟨x', y', px', py', wd', ht', ms', rr'⟩) := (Four.made w ⟨x, y, px, py, wd, ht, ms, rr⟩ ⟨x', y', px', py', wd', ht', ms', rr'⟩).below hb
  clear hb
  go_wp2_with fail
  refine (c2 _).mono ?_
  rintro e w2 ⟨rfl, hb⟩
  obtain ⟨hc', hf'⟩ := bcell hb
  replace hc : ∀ b o, b < w.heap.size + 1 + 1 + 1 + 1 → w2.cell? ⟨b, o, none⟩ = _ := fun b o hl => (hc' b o (by omega)).trans (hc b o (by simpa using hl))
  replace hf : ∀ b o, b < w.heap.size + 1 + 1 + 1 + 1 → w2.frozen? ⟨b, o, none⟩ = _ := fun b o hl => (hf' b o (by omega)).trans (hf b o (by simpa using hl))
  have hz' := hb.size
  replace hz := Nat.le_trans hz hz'
  replace h0 : Hid (Below w.heap.size w w2) := bcall h0.out hb
  replace h4 : Hid (Four w2 w.heap.size ⟨x, y, px, py, wd, ht, ms, rr⟩ ⟨x', y', px', py', wd', ht', ms', rr'⟩) := h4.out.below hb
  clear hb hc' hf' hz'
  go_wp2_with fail
  refine (c3 _).mono ?_
  rintro e w3 ⟨rfl, hb⟩
  obtain ⟨hc', hf'⟩ := bcell hb
  replace hc : ∀ b o, b < w.heap.size + 1 + 1 + 1 + 1 → w3.cell? ⟨b, o, none⟩ = _ := fun b o hl => (hc' b o (by omega)).trans (hc b o (by simpa using hl))
  replace hf : ∀ b o, b < w.heap.size + 1 + 1 + 1 + 1 → w3.frozen? ⟨b, o, none⟩ = _ := fun b o hl => (hf' b o (by omega)).trans (hf b o (by simpa using hl))
  have hz' := hb.size
  replace hz := Nat.le_trans hz hz'
  replace h0 : Hid (Below w.heap.size w w3) := bcall h0.out hb
  replace h4 : Hid (Four w3 w.heap.size ⟨x, y, px, py, wd, ht, ms, rr⟩ ⟨x', y', px', py', wd', ht', ms', rr'⟩) := h4.out.below hb
  clear hb hc' hf' hz'
  go_wp2_with fail
  refine (c4 _).mono ?_
  rintro e w4 ⟨rfl, hb⟩
  obtain ⟨hc', hf'⟩ := bcell hb
  replace hc : ∀ b o, b < w.heap.size + 1 + 1 + 1 + 1 → w4.cell? ⟨b, o, none⟩ = _ := fun b o hl => (hc' b o (by omega)).trans (hc b o (by simpa using hl))
  replace hf : ∀ b o, b < w.heap.size + 1 + 1 + 1 + 1 → w4.frozen? ⟨b, o, none⟩ = _ := fun b o hl => (hf' b o (by omega)).trans (hf b o (by simpa using hl))
  have hz' := hb.size
  replace hz := Nat.le_trans hz hz'
  replace h0 : Hid (Below w.heap.size w w4) := bcall h0.out hb
  replace h4 : Hid (Four w4 w.heap.size ⟨x, y, px, py, wd, ht, ms, rr⟩ ⟨x', y', px', py', wd', ht', ms', rr'⟩) := h4.out.below hb
  clear hb hc' hf' hz'
  go_wp2_with fail
  refine (c5 _).mono ?_
  rintro e w5 ⟨rfl, hb⟩
  obtain ⟨hc', hf'⟩ := bcell hb
  replace hc : ∀ b o, b < w.heap.size + 1 + 1 + 1 + 1 → w5.cell? ⟨b, o, none⟩ = _ := fun b o hl => (hc' b o (by omega)).trans (hc b o (by simpa using hl))
  replace hf : ∀ b o, b < w.heap.size + 1 + 1 + 1 + 1 → w5.frozen? ⟨b, o, none⟩ = _ := fun b o hl => (hf' b o (by omega)).trans (hf b o (by simpa using hl))
  have hz' := hb.size
  replace hz := Nat.le_trans hz hz'
  replace h0 : Hid (Below w.heap.size w w5) := bcall h0.out hb
  replace h4 : Hid (Four w5 w.heap.size ⟨x, y, px, py, wd, ht, ms, rr⟩ ⟨x', y', px', py', wd', ht', ms', rr'⟩) := h4.out.below hb
  clear hb hc' hf' hz'
  clear c1 c2 c3 c4 c5
  have n0 : w.heap.size < w5.heap.size := by omega
  have n1 : w.heap.size + 1 < w5.heap.size := by omega
  have n2 : w.heap.size + 1 + 1 < w5.heap.size := by omega
  have n3 : w.heap.size + 1 + 1 + 1 < w5.heap.size := by omega
  go_wp2_with (first | (go_at_call 146; refine (wayTo_any _ _ _).mono ?_; rintro e w' ⟨rfl, rfl⟩))
  refine (passOn_any ms ms' py py' rr' (wayOf y y') w.heap.size (w.heap.size + 1) 3 (fld ⟨x, y, px, py, wd, ht, ms, rr⟩) (fld ⟨x', y', px', py', wd', ht', ms', rr'⟩) _ gms gms' gpy gpy' grr' hwy (h4.out.a.alloc _) (h4.out.b.alloc _) (by omega) rfl rfl (by omega)).mono ?_
  rintro e w6 ⟨rfl, ra, rb, k⟩
  have m0 : w6.cell? ⟨w5.heap.size, 0, none⟩ = some (.int .i64 ms) := (World.cell?_of_block (k.block w5.heap.size (by simp) (by omega) (by omega))).trans (by simp)
  have m1 : w6.cell? ⟨w5.heap.size, 1, none⟩ = some (.int .i64 ms') := (World.cell?_of_block (k.block w5.heap.size (by simp) (by omega) (by omega))).trans (by simp)
  replace h0 : Hid (Below w.heap.size w w6) := (bal h0.out _).trans (k.below (by omega) (by omega) (by simp; omega))
  have rx : Hid (w6.rowIs (w.heap.size + 1 + 1) 34 8 (fld ⟨0, 0, 0, 0, 0, 0, 0, 0⟩)) := (h4.out.x.alloc _).of_block (k.block _ (by simp; omega) (by omega) (by omega))
  have ry : Hid (w6.rowIs (w.heap.size + 1 + 1 + 1) 34 8 (fld ⟨0, 0, 0, 0, 0, 0, 0, 0⟩)) := (h4.out.y.alloc _).of_block (k.block _ (by simp; omega) (by omega) (by omega))
  have hz6 := k.size
  simp at hz6
  clear hc hf h4 k
  go_wp2_with fail
  refine (moveApart_any ms ms' y y' (depthOf y y' ht ht') (wayOf y y') w.heap.size (w.heap.size + 1) 1 _ _ _ (by omega) hwy ra rb (by omega) rfl rfl (by omega)).mono ?_
  rintro e w7 ⟨rfl, ra7, rb7, k7⟩
  have a0 : w7.cell? ⟨w.heap.size, 0, none⟩ = some (.int .i64 x) := ra7.cell (i := 0) (by omega)
  have a1 : w7.cell? ⟨w.heap.size, 1, none⟩ = some (.int .i64 (atA y ms ms' (depthOf y y' ht ht') (wayOf y y'))) := ra7.cell (i := 1) (by omega)
  have a2 : w7.cell? ⟨w.heap.size, 2, none⟩ = some (.int .i64 px) := ra7.cell (i := 2) (by omega)
  have a3 : w7.cell? ⟨w.heap.size, 3, none⟩ = some (.int .i64 (pushA py py' ms ms' rr' (wayOf y y'))) := ra7.cell (i := 3) (by omega)
  have a4 : w7.cell? ⟨w.heap.size, 4, none⟩ = some (.int .i64 wd) := ra7.cell (i := 4) (by omega)
  have a5 : w7.cell? ⟨w.heap.size, 5, none⟩ = some (.int .i64 ht) := ra7.cell (i := 5) (by omega)
  have a6 : w7.cell? ⟨w.heap.size, 6, none⟩ = some (.int .i64 ms) := ra7.cell (i := 6) (by omega)
  have a7 : w7.cell? ⟨w.heap.size, 7, none⟩ = some (.int .i64 rr) := ra7.cell (i := 7) (by omega)
  have b0 : w7.cell? ⟨w.heap.size + 1, 0, none⟩ = some (.int .i64 x') := rb7.cell (i := 0) (by omega)
  have b1 : w7.cell? ⟨w.heap.size + 1, 1, none⟩ = some (.int .i64 (atB y' ms ms' (depthOf y y' ht ht') (wayOf y y'))) := rb7.cell (i := 1) (by omega)
  have b2 : w7.cell? ⟨w.heap.size + 1, 2, none⟩ = some (.int .i64 px') := rb7.cell (i := 2) (by omega)
  have b3 : w7.cell? ⟨w.heap.size + 1, 3, none⟩ = some (.int .i64 (pushB py py' ms ms' rr' (wayOf y y'))) := rb7.cell (i := 3) (by omega)
  have b4 : w7.cell? ⟨w.heap.size + 1, 4, none⟩ = some (.int .i64 wd') := rb7.cell (i := 4) (by omega)
  have b5 : w7.cell? ⟨w.heap.size + 1, 5, none⟩ = some (.int .i64 ht') := rb7.cell (i := 5) (by omega)
  have b6 : w7.cell? ⟨w.heap.size + 1, 6, none⟩ = some (.int .i64 ms') := rb7.cell (i := 6) (by omega)
  have b7 : w7.cell? ⟨w.heap.size + 1, 7, none⟩ = some (.int .i64 rr') := rb7.cell (i := 7) (by omega)
  replace h0 : Hid (Below w.heap.size w w7) := h0.out.trans (k7.below (by omega) (by omega) (by omega))
  replace rx := rx.out.of_block (k7.block _ (by omega) (by omega) (by omega))
  replace ry := ry.out.of_block (k7.block _ (by omega) (by omega) (by omega))
  have xc : ∀ o, o < 8 → w7.cell? ⟨w.heap.size + 1 + 1, o, none⟩ = some _ := fun o ho => rx.cell ho
  have yc : ∀ o, o < 8 → w7.cell? ⟨w.heap.size + 1 + 1 + 1, o, none⟩ = some _ := fun o ho => ry.cell ho
  have xf := rx.frozen
  have yf := ry.frozen
  have hz7 := k7.size
  clear k7 ra7 rb7 rx ry ra rb m0 m1
  go_wp2
  go_region
  go_wp2
  refine bodyPost_ret (by simp [results, Tryz.results117, go_sem, xc, yc]) rfl ⟨rfl, ?_⟩
  refine Below.drew ?_
  iterate 16 refine Below.setCell ?_ (by simp; omega) _
  exact h0.out
end Go.Proofs.YtckkkdldljhehacGreat
namespace Go.Proofs.YtckkkdldljhehacGreat
open Go.ChangeShapes Go.WideShapes Go.ChangeAt Go.RowKit
open Num

theorem meet_any (a b : R8) (w : World) :
    Calls Tryz.prog 117 #[rowV a, rowV b] w fun e w' => e = .returned (retV (met a b).1 (met a b).2 (overB a b)) ∧ Below w.heap.size w w' := by
  by_cases ga : GoodP a
  case neg =>
    have e := goodB_false ga
    have o : overB a b = false := by simp [overB, e]
    rw [show met a b = (a, b) from by simp [met, o], o]
    exact meet_no1 a b e w
  by_cases gb : GoodP b
  case neg =>
    have e := goodB_false gb
    have o : overB a b = false := by simp [overB, e]
    rw [show met a b = (a, b) from by simp [met, o], o]
    exact meet_no2 a b ((goodB_iff a).2 ga) e w
  by_cases hx : 1 ≤ depthOf a.x b.x a.wd b.wd
  case neg =>
    have o : overB a b = false := by simp [overB, hx]
    rw [show met a b = (a, b) from by simp [met, o], o]
    exact meet_no3 a b ga gb (by omega) w
  by_cases hy : 1 ≤ depthOf a.y b.y a.ht b.ht
  case neg =>
    have o : overB a b = false := by simp [overB, hy]
    rw [show met a b = (a, b) from by simp [met, o], o]
    exact meet_no4 a b ga gb hx (by omega) w
  have o : overB a b = true := by simp [overB, hx, hy, (goodB_iff a).2 ga, (goodB_iff b).2 gb]
  by_cases h0 : a.ms = 0 ∧ b.ms = 0
  · rw [show met a b = (a, b) from by rw [met, if_pos o, if_pos h0], o]
    exact meet_fix a b ga gb hx hy h0.1 h0.2 w
  rw [show met a b = if depthOf a.x b.x a.wd b.wd < depthOf a.y b.y a.ht b.ht then metX a b else metY a b from by rw [met, if_pos o, if_neg h0], o]
  by_cases hl : depthOf a.x b.x a.wd b.wd < depthOf a.y b.y a.ht b.ht
  · rw [if_pos hl]
    by_cases fa : a.ms = 0
    · by_cases hr : a.rr ≤ b.rr
      · exact meetX_fixed_lo a b ga gb hx hy hl fa (fun e => h0 ⟨fa, e⟩) hr w
      · exact meetX_fixed_hi a b ga gb hx hy hl fa (fun e => h0 ⟨fa, e⟩) (by omega) w
    · by_cases hr : a.rr ≤ b.rr
      · exact meetX_free_lo a b ga gb hx hy hl fa hr w
      · exact meetX_free_hi a b ga gb hx hy hl fa (by omega) w
  · rw [if_neg hl]
    by_cases fa : a.ms = 0
    · by_cases hr : a.rr ≤ b.rr
      · exact meetY_fixed_lo a b ga gb hx hy (by omega) fa (fun e => h0 ⟨fa, e⟩) hr w
      · exact meetY_fixed_hi a b ga gb hx hy (by omega) fa (fun e => h0 ⟨fa, e⟩) (by omega) w
    · by_cases hr : a.rr ≤ b.rr
      · exact meetY_free_lo a b ga gb hx hy (by omega) fa hr w
      · exact meetY_free_hi a b ga gb hx hy (by omega) fa (by omega) w
end Go.Proofs.YtckkkdldljhehacGreat
namespace Go.Proofs.YtckkkdldljhehacGreat
open Go.ChangeShapes Go.WideShapes Go.ChangeAt Go.RowKit
open Num
set_option maxHeartbeats 1000000 in
theorem Speed_any (a : R8) (w : World) :
    Calls Tryz.prog 114 #[rowV a] w fun e w' => e = .returned (.tuple #[.int .i64 (spd a.px a.ms), .int .i64 (spd a.py a.ms)]) ∧ Below w.heap.size w w' := by
  obtain ⟨x, y, px, py, wd, ht, ms, rr⟩ := a
  unfold rowV
  go_enter Tryz.func114, Tryz.ntmps114
  go_wp2
  go_quiet (first | (go_at_call 135; exact Calls.quiet_of_same (speed_any _ _ _)))
  go_wp2
  exact bodyPost_ret (by simp [results, Tryz.results114, go_sem] <;> first | exact ⟨rfl, rfl⟩ | rfl) rfl ⟨rfl, by repeat (first | exact Below.refl _ _ | refine Below.drew ?_ | refine bdrewN ?_ _ | refine bal ?_ _)⟩
end Go.Proofs.YtckkkdldljhehacGreat
