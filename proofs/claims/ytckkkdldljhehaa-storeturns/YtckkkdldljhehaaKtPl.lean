/- Plain numbers, without the program: a row's eight numbers; what comes of two things that meet (depth, way, near, what is passed on, the places behind it); what holds of them. No conditions but those that each theorem names. -/
import Derived.Test.YtckkkdldljhehaaKtNum
namespace Go.Proofs.Ytckkkdldljhehaa.Num

/-- A row's eight numbers. -/
structure R8 where
  x : Int
  y : Int
  px : Int
  py : Int
  wd : Int
  ht : Int
  ms : Int
  rr : Int
deriving DecidableEq

def ab (x : Int) : Int := max x (-x)
def btw (n a b : Int) : Bool := decide (a ≤ n) && decide (n ≤ b)
def goodB (a : R8) : Bool :=
  (!decide (a.ms = 0) || (decide (a.px = 0) && decide (a.py = 0))) && btw a.x (-1048576) 1048576 && btw a.y (-1048576) 1048576 && btw a.px (-16777216) 16777216 && btw a.py (-16777216) 16777216 && btw a.wd 1 4096 && btw a.ht 1 4096 && btw a.ms 0 9 && btw a.rr 0 256
structure GoodP (a : R8) : Prop where
  fx : a.ms = 0 → a.px = 0 ∧ a.py = 0
  x : -1048576 ≤ a.x ∧ a.x ≤ 1048576
  y : -1048576 ≤ a.y ∧ a.y ≤ 1048576
  px : -16777216 ≤ a.px ∧ a.px ≤ 16777216
  py : -16777216 ≤ a.py ∧ a.py ≤ 16777216
  wd : 1 ≤ a.wd ∧ a.wd ≤ 4096
  ht : 1 ≤ a.ht ∧ a.ht ≤ 4096
  ms : 0 ≤ a.ms ∧ a.ms ≤ 9
  rr : 0 ≤ a.rr ∧ a.rr ≤ 256
theorem goodB_iff (a : R8) : goodB a = true ↔ GoodP a := by
  constructor
  · intro h
    simp only [goodB, btw, Bool.and_eq_true, Bool.or_eq_true, Bool.not_eq_true', decide_eq_true_eq, decide_eq_false_iff_not] at h
    obtain ⟨⟨⟨⟨⟨⟨⟨⟨h0, h1⟩, h2⟩, h3⟩, h4⟩, h5⟩, h6⟩, h7⟩, h8⟩ := h
    exact ⟨fun e => h0.resolve_left (fun f => f e), h1, h2, h3, h4, h5, h6, h7, h8⟩
  · rintro ⟨h0, h1, h2, h3, h4, h5, h6, h7, h8⟩
    simp only [goodB, btw, Bool.and_eq_true, Bool.or_eq_true, Bool.not_eq_true', decide_eq_true_eq, decide_eq_false_iff_not]
    refine ⟨⟨⟨⟨⟨⟨⟨⟨?_, h1⟩, h2⟩, h3⟩, h4⟩, h5⟩, h6⟩, h7⟩, h8⟩
    by_cases e : a.ms = 0
    · exact .inr (h0 e)
    · exact .inl e
theorem goodB_false {a : R8} (h : ¬ GoodP a) : goodB a = false := by
  cases e : goodB a
  · rfl
  · exact absurd ((goodB_iff a).1 e) h

def depthOf (a b u v : Int) : Int := u + v - ab (a - b)
def wayOf (a b : Int) : Int := if b < a then -1 else 1
def spd (p m : Int) : Int := pa p 1 m
def nearOf (p q m n way : Int) : Int := (spd p m - spd q n) * way
def timesOf (m n : Int) : Int := if m = 0 ∨ n = 0 then m + n else m * n
def sumOf (m n : Int) : Int := if m = 0 ∨ n = 0 then 1 else m + n
def passed (p q m n back way : Int) : Int := pa (nearOf p q m n way * timesOf m n) (256 + back) (sumOf m n * 256) * way
def pushA (p q m n back way : Int) : Int := if nearOf p q m n way ≤ 0 ∨ m = 0 then p else ad p (-(passed p q m n back way)) 16777216
def pushB (p q m n back way : Int) : Int := if nearOf p q m n way ≤ 0 ∨ n = 0 then q else ad q (passed p q m n back way) 16777216
def shareOf (m n d : Int) : Int := if m = 0 then 0 else if n = 0 then d else d.tdiv 2
def atA (a m n d way : Int) : Int := ad a (-way * shareOf m n d) 1048576
def atB (b m n d way : Int) : Int := ad b (way * (d - shareOf m n d)) 1048576

/-- Two things behind they met. -/
def metX (a b : R8) : R8 × R8 :=
  ({ a with x := atA a.x a.ms b.ms (depthOf a.x b.x a.wd b.wd) (wayOf a.x b.x), px := pushA a.px b.px a.ms b.ms (min a.rr b.rr) (wayOf a.x b.x) },
   { b with x := atB b.x a.ms b.ms (depthOf a.x b.x a.wd b.wd) (wayOf a.x b.x), px := pushB a.px b.px a.ms b.ms (min a.rr b.rr) (wayOf a.x b.x) })
def metY (a b : R8) : R8 × R8 :=
  ({ a with y := atA a.y a.ms b.ms (depthOf a.y b.y a.ht b.ht) (wayOf a.y b.y), py := pushA a.py b.py a.ms b.ms (min a.rr b.rr) (wayOf a.y b.y) },
   { b with y := atB b.y a.ms b.ms (depthOf a.y b.y a.ht b.ht) (wayOf a.y b.y), py := pushB a.py b.py a.ms b.ms (min a.rr b.rr) (wayOf a.y b.y) })
def overB (a b : R8) : Bool := goodB a && goodB b && decide (1 ≤ depthOf a.x b.x a.wd b.wd) && decide (1 ≤ depthOf a.y b.y a.ht b.ht)
def met (a b : R8) : R8 × R8 :=
  if overB a b then
    if a.ms = 0 ∧ b.ms = 0 then (a, b)
    else if depthOf a.x b.x a.wd b.wd < depthOf a.y b.y a.ht b.ht then metX a b else metY a b
  else (a, b)

theorem ab_neg (x : Int) : ab (-x) = ab x := by unfold ab; omega
theorem way_or (a b : Int) : wayOf a b = 1 ∨ wayOf a b = -1 := by unfold wayOf; split <;> simp
theorem way_neg (a b : Int) (h : a ≠ b) : wayOf (-a) (-b) = - wayOf a b := by
  unfold wayOf; by_cases h1 : b < a
  · rw [if_pos h1, if_neg (by omega)]; rfl
  · rw [if_neg h1, if_pos (by omega)]
theorem ad_neg (a b m : Int) (h : 0 ≤ m) : ad (-a) (-b) m = - ad a b m := by
  unfold ad; rw [wi_neg _ _ (by omega), wi_neg _ _ (by omega), ← Int.neg_add, wi_neg _ _ (by omega)]
theorem ad_zero (a m : Int) (h : -m ≤ a ∧ a ≤ m) (hm : m ≤ 1099511627776) : ad a 0 m = a := by
  unfold ad; rw [Int.min_eq_left hm, wi_zero _ (by omega), wi_self a m h.1 h.2, Int.add_zero, wi_self a m h.1 h.2]
theorem ad_self (a b m : Int) (h : -m ≤ a ∧ a ≤ m) (hb : -m ≤ b ∧ b ≤ m) (hm : m ≤ 1099511627776) (hs : -m ≤ a + b ∧ a + b ≤ m) : ad a b m = a + b := by
  unfold ad; rw [Int.min_eq_left hm, wi_self b m hb.1 hb.2, wi_self a m h.1 h.2, wi_self _ m hs.1 hs.2]
theorem spd_neg (p m : Int) : spd (-p) m = - spd p m := pa_neg p 1 m
theorem near_neg (p q m n way : Int) : nearOf (-p) (-q) m n (-way) = nearOf p q m n way := by
  unfold nearOf; rw [spd_neg, spd_neg, Int.mul_neg, ← Int.neg_mul]; congr 1; omega
theorem passed_neg (p q m n back way : Int) : passed (-p) (-q) m n back (-way) = - passed p q m n back way := by
  unfold passed; rw [near_neg, Int.mul_neg]
theorem pushA_neg (p q m n back way : Int) : pushA (-p) (-q) m n back (-way) = - pushA p q m n back way := by
  unfold pushA; rw [near_neg, passed_neg]; split
  · rfl
  · rw [ad_neg _ _ _ (by omega)]
theorem pushB_neg (p q m n back way : Int) : pushB (-p) (-q) m n back (-way) = - pushB p q m n back way := by
  unfold pushB; rw [near_neg, passed_neg]; split
  · rfl
  · rw [ad_neg _ _ _ (by omega)]
theorem atA_neg (a m n d way : Int) : atA (-a) m n d (-way) = - atA a m n d way := by
  unfold atA; rw [show - -way * shareOf m n d = -(-way * shareOf m n d) from by rw [Int.neg_mul, Int.neg_mul], ad_neg _ _ _ (by omega)]
theorem atB_neg (a m n d way : Int) : atB (-a) m n d (-way) = - atB a m n d way := by
  unfold atB; rw [Int.neg_mul, ad_neg _ _ _ (by omega)]
theorem depth_neg (a b u v : Int) : depthOf (-a) (-b) u v = depthOf a b u v := by
  unfold depthOf; rw [show -a - -b = -(a - b) from by omega, ab_neg]

/-- A thing turned round. -/
def turnR (r : R8) : R8 := { r with x := -r.x, y := -r.y, px := -r.px, py := -r.py }
theorem good_turn (a : R8) : goodB (turnR a) = goodB a := by
  rw [Bool.eq_iff_iff, goodB_iff, goodB_iff]
  constructor
  · rintro ⟨h0, h1, h2, h3, h4, h5, h6, h7, h8⟩
    simp only [turnR] at *
    exact ⟨by omega, by omega, by omega, by omega, by omega, h5, h6, h7, h8⟩
  · rintro ⟨h0, h1, h2, h3, h4, h5, h6, h7, h8⟩
    exact ⟨by simp only [turnR]; omega, by simp only [turnR]; omega, by simp only [turnR]; omega, by simp only [turnR]; omega, by simp only [turnR]; omega, h5, h6, h7, h8⟩
theorem over_turn (a b : R8) : overB (turnR a) (turnR b) = overB a b := by
  unfold overB; rw [good_turn, good_turn]; simp only [turnR, depth_neg]
theorem met_turn (a b : R8) (hx : a.x ≠ b.x) (hy : a.y ≠ b.y) : met (turnR a) (turnR b) = (turnR (met a b).1, turnR (met a b).2) := by
  unfold met
  rw [over_turn]
  by_cases h : overB a b = true
  · rw [if_pos h, if_pos h]
    by_cases h0 : a.ms = 0 ∧ b.ms = 0
    · rw [if_pos h0, if_pos (show (turnR a).ms = 0 ∧ (turnR b).ms = 0 from h0)]
    · rw [if_neg h0, if_neg (show ¬ ((turnR a).ms = 0 ∧ (turnR b).ms = 0) from h0)]
      by_cases h1 : depthOf a.x b.x a.wd b.wd < depthOf a.y b.y a.ht b.ht
      · rw [if_pos h1, if_pos (show depthOf (turnR a).x (turnR b).x (turnR a).wd (turnR b).wd < depthOf (turnR a).y (turnR b).y (turnR a).ht (turnR b).ht from by simp only [turnR, depth_neg]; exact h1)]
        simp only [metX, turnR, depth_neg, way_neg _ _ hx, pushA_neg, pushB_neg, atA_neg, atB_neg]
      · rw [if_neg h1, if_neg (show ¬ depthOf (turnR a).x (turnR b).x (turnR a).wd (turnR b).wd < depthOf (turnR a).y (turnR b).y (turnR a).ht (turnR b).ht from by simp only [turnR, depth_neg]; exact h1)]
        simp only [metY, turnR, depth_neg, way_neg _ _ hy, pushA_neg, pushB_neg, atA_neg, atB_neg]
  · rw [if_neg h, if_neg h]

/-! What is passed on, its bounds. -/
theorem pa_abs (n a b k : Int) (hn : -k ≤ n * a ∧ n * a ≤ k) (h1 : -268435456 ≤ n ∧ n ≤ 268435456) (h2 : -268435456 ≤ a ∧ a ≤ 268435456) : -k ≤ pa n a b ∧ pa n a b ≤ k := by
  unfold pa; split
  · omega
  · rw [wi_self n _ h1.1 h1.2, wi_self a _ h2.1 h2.2]
    have h := Int.natAbs_tdiv_le_natAbs (n * a) (wi b 268435456)
    omega
theorem spd_le (p m : Int) (k : Int) (hk : k ≤ 268435456) (hp : -k ≤ p ∧ p ≤ k) : -k ≤ spd p m ∧ spd p m ≤ k :=
  pa_abs p 1 m k (by omega) (by omega) (by omega)
theorem near_le (p q m n way k : Int) (hk : k ≤ 268435456) (hp : -k ≤ p ∧ p ≤ k) (hq : -k ≤ q ∧ q ≤ k) (hw : way = 1 ∨ way = -1) : -(2 * k) ≤ nearOf p q m n way ∧ nearOf p q m n way ≤ 2 * k := by
  have h1 := spd_le p m k hk hp
  have h2 := spd_le q n k hk hq
  unfold nearOf
  rcases hw with rfl | rfl <;> omega
theorem times_le (m n : Int) (hm : 0 ≤ m ∧ m ≤ 9) (hn : 0 ≤ n ∧ n ≤ 9) : 0 ≤ timesOf m n ∧ timesOf m n ≤ 81 := by
  unfold timesOf; split
  · omega
  · have := mul_le m n 9 (by omega) (by omega)
    have := Int.mul_nonneg hm.1 hn.1
    omega
theorem sum_le (m n : Int) (hm : 0 ≤ m ∧ m ≤ 9) (hn : 0 ≤ n ∧ n ≤ 9) : 1 ≤ sumOf m n ∧ sumOf m n ≤ 18 := by
  unfold sumOf; split <;> omega
theorem sum_two (m n : Int) (hm : 0 < m) (hn : 0 < n) : 2 ≤ sumOf m n := by
  unfold sumOf; split <;> omega
theorem mul_le' (x y k l : Int) (hx : -k ≤ x ∧ x ≤ k) (hy : 0 ≤ y ∧ y ≤ l) : -(k * l) ≤ x * y ∧ x * y ≤ k * l := by
  have h1 : x.natAbs ≤ k.natAbs := by omega
  have h2 : y.natAbs ≤ l.natAbs := by omega
  have h3 := Nat.mul_le_mul h1 h2
  rw [← Int.natAbs_mul, ← Int.natAbs_mul] at h3
  have h4 : 0 ≤ k * l := Int.mul_nonneg (by omega) (by omega)
  omega
/-- Of small pushes of two that move less than 2^24 is passed on. -/
theorem passed_le (p q m n back way : Int) (hp : -16384 ≤ p ∧ p ≤ 16384) (hq : -16384 ≤ q ∧ q ≤ 16384) (hm : 0 < m ∧ m ≤ 9) (hn : 0 < n ∧ n ≤ 9) (hb : 0 ≤ back ∧ back ≤ 256) (hw : way = 1 ∨ way = -1) :
    -2654208 ≤ passed p q m n back way ∧ passed p q m n back way ≤ 2654208 := by
  have h1 := near_le p q m n way 16384 (by omega) hp hq hw
  have h2 := times_le m n (by omega) (by omega)
  have h3 := sum_le m n (by omega) (by omega)
  have h4 := sum_two m n hm.1 hn.1
  have h5 := mul_le' _ _ _ _ h1 h2
  have h6 : -2654208 ≤ pa (nearOf p q m n way * timesOf m n) (256 + back) (sumOf m n * 256) ∧ pa (nearOf p q m n way * timesOf m n) (256 + back) (sumOf m n * 256) ≤ 2654208 := by
    generalize nearOf p q m n way * timesOf m n = z at *
    generalize sumOf m n = s at *
    unfold pa
    rw [if_neg (by omega), wi_self z _ (by omega) (by omega), wi_self _ _ (by omega) (by omega), wi_self _ _ (by omega) (by omega)]
    have h7 : (z * (256 + back)).natAbs ≤ 2654208 * (s * 256).natAbs := by
      rw [Int.natAbs_mul]
      exact Nat.mul_le_mul (by omega) (by omega)
    have h8 : ((z * (256 + back)).tdiv (s * 256)).natAbs ≤ 2654208 := by
      rw [Int.natAbs_tdiv]
      exact Nat.div_le_of_le_mul (by rw [Nat.mul_comm]; exact h7)
    omega
  unfold passed
  rcases hw with rfl | rfl <;> omega
theorem push_sum (p q m n back way : Int) (hp : -16384 ≤ p ∧ p ≤ 16384) (hq : -16384 ≤ q ∧ q ≤ 16384) (hm : 0 < m ∧ m ≤ 9) (hn : 0 < n ∧ n ≤ 9) (hb : 0 ≤ back ∧ back ≤ 256) (hw : way = 1 ∨ way = -1) :
    pushA p q m n back way + pushB p q m n back way = p + q := by
  have h := passed_le p q m n back way hp hq hm hn hb hw
  unfold pushA pushB
  by_cases h0 : nearOf p q m n way ≤ 0
  · rw [if_pos (.inl h0), if_pos (.inl h0)]
  · rw [if_neg (by omega), if_neg (by omega), ad_self _ _ _ (by omega) (by omega) (by omega) (by omega), ad_self _ _ _ (by omega) (by omega) (by omega) (by omega)]
    omega
theorem pushA_le (p q m n back way : Int) (hp : -16777216 ≤ p ∧ p ≤ 16777216) : -16777216 ≤ pushA p q m n back way ∧ pushA p q m n back way ≤ 16777216 := by
  unfold pushA; split
  · exact hp
  · exact ad_le _ _ _ (by omega)
theorem pushB_le (p q m n back way : Int) (hq : -16777216 ≤ q ∧ q ≤ 16777216) : -16777216 ≤ pushB p q m n back way ∧ pushB p q m n back way ≤ 16777216 := by
  unfold pushB; split
  · exact hq
  · exact ad_le _ _ _ (by omega)
theorem pushA_fix (p q n back way : Int) : pushA p q 0 n back way = p := by unfold pushA; rw [if_pos (.inr rfl)]
theorem pushB_fix (p q m back way : Int) : pushB p q m 0 back way = q := by unfold pushB; rw [if_pos (.inr rfl)]
theorem share_le (m n d : Int) (hd : 0 ≤ d) : 0 ≤ shareOf m n d ∧ shareOf m n d ≤ d := by
  unfold shareOf; split
  · omega
  · split
    · omega
    · rw [Int.tdiv_eq_ediv_of_nonneg hd]; omega
theorem atA_fix (a n d way : Int) (ha : -1048576 ≤ a ∧ a ≤ 1048576) : atA a 0 n d way = a := by
  unfold atA shareOf; rw [if_pos rfl, Int.mul_zero, ad_zero _ _ ha (by omega)]
theorem atB_fix (b m d way : Int) (hm : m ≠ 0) (hb : -1048576 ≤ b ∧ b ≤ 1048576) : atB b m 0 d way = b := by
  unfold atB shareOf; rw [if_neg hm, if_pos rfl, Int.sub_self, Int.mul_zero, ad_zero _ _ hb (by omega)]
theorem atA_self (a m n d way : Int) (ha : -524288 ≤ a ∧ a ≤ 524288) (hd : 0 ≤ d ∧ d ≤ 8192) (hw : way = 1 ∨ way = -1) : atA a m n d way = a - way * shareOf m n d := by
  have h := share_le m n d hd.1
  unfold atA
  generalize shareOf m n d = s at *
  rcases hw with rfl | rfl <;> rw [ad_self _ _ _ (by omega) (by omega) (by omega) (by omega)] <;> omega
theorem atB_self (b m n d way : Int) (hb : -524288 ≤ b ∧ b ≤ 524288) (hd : 0 ≤ d ∧ d ≤ 8192) (hw : way = 1 ∨ way = -1) : atB b m n d way = b + way * (d - shareOf m n d) := by
  have h := share_le m n d hd.1
  unfold atB
  generalize shareOf m n d = s at *
  rcases hw with rfl | rfl <;> rw [ad_self _ _ _ (by omega) (by omega) (by omega) (by omega)]
/-- Who has met does not overlap any more. -/
theorem apart (a b u v m n : Int) (ha : -524288 ≤ a ∧ a ≤ 524288) (hb : -524288 ≤ b ∧ b ≤ 524288) (hu : 1 ≤ u ∧ u ≤ 4096) (hv : 1 ≤ v ∧ v ≤ 4096) (hd : 1 ≤ depthOf a b u v) :
    depthOf (atA a m n (depthOf a b u v) (wayOf a b)) (atB b m n (depthOf a b u v) (wayOf a b)) u v = 0 := by
  have hle : depthOf a b u v ≤ 8192 := by unfold depthOf ab; omega
  rw [atA_self _ _ _ _ _ ha ⟨by omega, hle⟩ (way_or a b), atB_self _ _ _ _ _ hb ⟨by omega, hle⟩ (way_or a b)]
  generalize hD : depthOf a b u v = d at *
  generalize shareOf m n d = s at *
  unfold depthOf ab at *
  unfold wayOf
  split <;> omega

/-- Far from the bounds. -/
def calmB (r : R8) : Bool := (wi r.x 524288 == r.x) && (wi r.y 524288 == r.y) && (wi r.px 16384 == r.px) && (wi r.py 16384 == r.py)
structure CalmP (r : R8) : Prop where
  x : -524288 ≤ r.x ∧ r.x ≤ 524288
  y : -524288 ≤ r.y ∧ r.y ≤ 524288
  px : -16384 ≤ r.px ∧ r.px ≤ 16384
  py : -16384 ≤ r.py ∧ r.py ≤ 16384
theorem wi_eq {n m : Int} (hm : 0 ≤ m) (h : wi n m = n) : -m ≤ n ∧ n ≤ m := by
  have := wi_le n m hm; omega
theorem calm_of {r : R8} (h : calmB r = true) : CalmP r := by
  simp only [calmB, Bool.and_eq_true, beq_iff_eq] at h
  obtain ⟨⟨⟨h1, h2⟩, h3⟩, h4⟩ := h
  exact ⟨wi_eq (by omega) h1, wi_eq (by omega) h2, wi_eq (by omega) h3, wi_eq (by omega) h4⟩

theorem over_of {a b : R8} (h : overB a b = true) : GoodP a ∧ GoodP b ∧ 1 ≤ depthOf a.x b.x a.wd b.wd ∧ 1 ≤ depthOf a.y b.y a.ht b.ht := by
  simp only [overB, Bool.and_eq_true, decide_eq_true_eq] at h
  exact ⟨(goodB_iff a).1 h.1.1.1, (goodB_iff b).1 h.1.1.2, h.1.2, h.2⟩
/-- What the one loses the other one has. -/
theorem met_sums (a b : R8) (h : overB a b = true) (ca : CalmP a) (cb : CalmP b) (ha : a.ms ≠ 0) (hb : b.ms ≠ 0) :
    (met a b).1.px + (met a b).2.px = a.px + b.px ∧ (met a b).1.py + (met a b).2.py = a.py + b.py := by
  obtain ⟨ga, gb, -, -⟩ := over_of h
  have := ga.ms; have := gb.ms; have := ga.rr; have := gb.rr
  unfold met
  rw [if_pos h, if_neg (fun e => ha e.1)]
  split
  · exact ⟨push_sum _ _ _ _ _ _ ca.px cb.px (by omega) (by omega) (by omega) (way_or _ _), rfl⟩
  · exact ⟨rfl, push_sum _ _ _ _ _ _ ca.py cb.py (by omega) (by omega) (by omega) (way_or _ _)⟩
theorem met_good (a b : R8) (ga : GoodP a) (gb : GoodP b) : GoodP (met a b).1 ∧ GoodP (met a b).2 := by
  unfold met
  split
  · split
    · exact ⟨ga, gb⟩
    · split
      · exact ⟨⟨fun e => ⟨by have e : a.ms = 0 := e
                             show pushA _ _ a.ms _ _ _ = 0
                             rw [e, pushA_fix]; exact (ga.fx e).1, (ga.fx e).2⟩, ad_le _ _ _ (by omega), ga.y, pushA_le _ _ _ _ _ _ ga.px, ga.py, ga.wd, ga.ht, ga.ms, ga.rr⟩,
          ⟨fun e => ⟨by have e : b.ms = 0 := e
                        show pushB _ _ _ b.ms _ _ = 0
                        rw [e, pushB_fix]; exact (gb.fx e).1, (gb.fx e).2⟩, ad_le _ _ _ (by omega), gb.y, pushB_le _ _ _ _ _ _ gb.px, gb.py, gb.wd, gb.ht, gb.ms, gb.rr⟩⟩
      · exact ⟨⟨fun e => ⟨(ga.fx e).1, by have e : a.ms = 0 := e
                                          show pushA _ _ a.ms _ _ _ = 0
                                          rw [e, pushA_fix]; exact (ga.fx e).2⟩, ga.x, ad_le _ _ _ (by omega), ga.px, pushA_le _ _ _ _ _ _ ga.py, ga.wd, ga.ht, ga.ms, ga.rr⟩,
          ⟨fun e => ⟨(gb.fx e).1, by have e : b.ms = 0 := e
                                     show pushB _ _ _ b.ms _ _ = 0
                                     rw [e, pushB_fix]; exact (gb.fx e).2⟩, gb.x, ad_le _ _ _ (by omega), gb.px, pushB_le _ _ _ _ _ _ gb.py, gb.wd, gb.ht, gb.ms, gb.rr⟩⟩
  · exact ⟨ga, gb⟩
theorem met_kept (a b : R8) : (met a b).1.wd = a.wd ∧ (met a b).1.ht = a.ht ∧ (met a b).1.ms = a.ms ∧ (met a b).1.rr = a.rr ∧ (met a b).2.wd = b.wd ∧ (met a b).2.ht = b.ht ∧ (met a b).2.ms = b.ms ∧ (met a b).2.rr = b.rr := by
  unfold met
  split
  · split
    · exact ⟨rfl, rfl, rfl, rfl, rfl, rfl, rfl, rfl⟩
    · split <;> exact ⟨rfl, rfl, rfl, rfl, rfl, rfl, rfl, rfl⟩
  · exact ⟨rfl, rfl, rfl, rfl, rfl, rfl, rfl, rfl⟩
theorem met_fixA (a b : R8) (ha : a.ms = 0) : (met a b).1 = a := by
  unfold met
  split
  · rename_i h
    obtain ⟨ga, gb, -, -⟩ := over_of h
    obtain ⟨x, y, px, py, wd, ht, ms, rr⟩ := a
    obtain rfl : ms = 0 := ha
    split
    · rfl
    · split
      · simp only [metX, pushA_fix, atA_fix _ _ _ _ ga.x]
      · simp only [metY, pushA_fix, atA_fix _ _ _ _ ga.y]
  · rfl
theorem met_fixB (a b : R8) (hb : b.ms = 0) : (met a b).2 = b := by
  unfold met
  split
  · rename_i h
    obtain ⟨ga, gb, -, -⟩ := over_of h
    obtain ⟨x, y, px, py, wd, ht, ms, rr⟩ := b
    obtain rfl : ms = 0 := hb
    split
    · rfl
    · rename_i h0
      have ha : a.ms ≠ 0 := fun e => h0 ⟨e, rfl⟩
      split
      · simp only [metX, pushB_fix, atB_fix _ _ _ _ ha gb.x]
      · simp only [metY, pushB_fix, atB_fix _ _ _ _ ha gb.y]
  · rfl
theorem met_apart (a b : R8) (h : overB a b = true) (ca : CalmP a) (cb : CalmP b) (h0 : ¬ (a.ms = 0 ∧ b.ms = 0)) :
    depthOf (met a b).1.x (met a b).2.x (met a b).1.wd (met a b).2.wd = 0 ∨ depthOf (met a b).1.y (met a b).2.y (met a b).1.ht (met a b).2.ht = 0 := by
  obtain ⟨ga, gb, hx, hy⟩ := over_of h
  unfold met
  rw [if_pos h, if_neg h0]
  split
  · exact .inl (apart _ _ _ _ _ _ ca.x cb.x ga.wd gb.wd hx)
  · exact .inr (apart _ _ _ _ _ _ ca.y cb.y ga.ht gb.ht hy)

/-! A wall. -/
def wallAt (at' half wide : Int) : Int := if at' < half then half else if max (wide - half) half < at' then max (wide - half) half else at'
def wallPush (at' push half wide back : Int) : Int := if at' < half then pa (ab push) (wi back 256) 256 else if max (wide - half) half < at' then -(pa (ab push) (wi back 256) 256) else push
theorem left_le (push back : Int) (hp : -268435456 ≤ push ∧ push ≤ 268435456) : -(ab push) ≤ pa (ab push) (wi back 256) 256 ∧ pa (ab push) (wi back 256) 256 ≤ ab push := by
  have h1 : 0 ≤ ab push ∧ ab push ≤ 268435456 := by unfold ab; omega
  have h2 := wi_le back 256 (by omega)
  generalize ab push = z at *
  generalize wi back 256 = s at *
  unfold pa
  rw [if_neg (by omega), wi_self z _ (by omega) (by omega), wi_self _ _ (by omega) (by omega), wi_self _ _ (by omega) (by omega)]
  have h7 : (z * s).natAbs ≤ z.natAbs * 256 := by
    rw [Int.natAbs_mul]
    exact Nat.mul_le_mul (Nat.le_refl _) (by omega)
  have h8 : ((z * s).tdiv 256).natAbs ≤ z.natAbs := by
    rw [Int.natAbs_tdiv]
    exact Nat.div_le_of_le_mul (by rw [Nat.mul_comm]; exact h7)
  omega
end Go.Proofs.Ytckkkdldljhehaa.Num
