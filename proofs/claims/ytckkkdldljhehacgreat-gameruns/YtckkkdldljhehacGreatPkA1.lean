/- Part of the proofs of GamePlays and GameRuns (package ninepinslaw): contracts of the functions that they call. -/
import Derived.Test.YtckkkdldljhehacGreatRows
import Derived.WalkKit
import Derived.ProofKit
import Derived.OpenShut
import Derived.RegionTactic
import Derived.BigRegion
import Derived.BigQuiet
import Derived.Deep.QuietTactic
import Derived.Deep.RegionWith
import Derived.Deep.OwnRows
namespace Go.Proofs.YtckkkdldljhehacGreat
namespace Num
def wi (n m : Int) : Int := min (max n (-m)) m
def ad (a b m : Int) : Int := wi (wi a (min m 1099511627776) + wi b (min m 1099511627776)) (min m 1099511627776)
def pa (n a b : Int) : Int := if b = 0 then 0 else (wi n 268435456 * wi a 268435456).tdiv (wi b 268435456)
theorem wi_le (n m : Int) (h : 0 ≤ m) : -m ≤ wi n m ∧ wi n m ≤ m := by unfold wi; omega
theorem wi_ne (b m : Int) (h : 0 < m) : b ≠ 0 → wi b m ≠ 0 := by unfold wi; omega
theorem wi_zero (m : Int) (h : 0 ≤ m) : wi 0 m = 0 := by unfold wi; omega
theorem wi_self (n m : Int) (h1 : -m ≤ n) (h2 : n ≤ m) : wi n m = n := by unfold wi; omega
theorem ad_le (a b m : Int) (h : 0 ≤ m) : -m ≤ ad a b m ∧ ad a b m ≤ m := by
 have := wi_le (wi a (min m 1099511627776) + wi b (min m 1099511627776)) (min m 1099511627776) (by omega)
 unfold ad; omega
theorem mul_le (x y m : Int) (hx : -m ≤ x ∧ x ≤ m) (hy : -m ≤ y ∧ y ≤ m) : -(m * m) ≤ x * y ∧ x * y ≤ m * m := by
 have h1 : x.natAbs ≤ m.natAbs := by omega
 have h2 : y.natAbs ≤ m.natAbs := by omega
 have h3 := Nat.mul_le_mul h1 h2
 rw [← Int.natAbs_mul, ← Int.natAbs_mul] at h3
 have h4 : 0 ≤ m * m := Int.mul_nonneg (by omega) (by omega)
 omega
theorem prod_le (n a : Int) : -72057594037927936 ≤ wi n 268435456 * wi a 268435456 ∧ wi n 268435456 * wi a 268435456 ≤ 72057594037927936 := by
 have := mul_le _ _ _ (wi_le n 268435456 (by omega)) (wi_le a 268435456 (by omega))
 omega
theorem pa_le (n a b : Int) : -72057594037927936 ≤ pa n a b ∧ pa n a b ≤ 72057594037927936 := by
 have h := prod_le n a
 unfold pa; split
 ·omega
 ·have h2 := Int.natAbs_tdiv_le_natAbs (wi n 268435456 * wi a 268435456) (wi b 268435456)
  omega
end Num
namespace Num
structure R8 where
 x : Int
 y : Int
 px : Int
 py : Int
 wd : Int
 ht : Int
 ms : Int
 rr : Int
deriving DecidableEq
def ab (x : Int) : Int := max x (-x)
def btw (n a b : Int) : Bool := decide (a ≤ n) && decide (n ≤ b)
def goodB (a : R8) : Bool :=
 (!decide (a.ms = 0) || (decide (a.px = 0) && decide (a.py = 0))) && btw a.x (-1048576) 1048576 && btw a.y (-1048576) 1048576 && btw a.px (-16777216) 16777216 && btw a.py (-16777216) 16777216 && btw a.wd 1 4096 && btw a.ht 1 4096 && btw a.ms 0 9 && btw a.rr 0 256
structure GoodP (a : R8) : Prop where
 fx : a.ms = 0 → a.px = 0 ∧ a.py = 0
 x : -1048576 ≤ a.x ∧ a.x ≤ 1048576
 y : -1048576 ≤ a.y ∧ a.y ≤ 1048576
 px : -16777216 ≤ a.px ∧ a.px ≤ 16777216
 py : -16777216 ≤ a.py ∧ a.py ≤ 16777216
 wd : 1 ≤ a.wd ∧ a.wd ≤ 4096
 ht : 1 ≤ a.ht ∧ a.ht ≤ 4096
 ms : 0 ≤ a.ms ∧ a.ms ≤ 9
 rr : 0 ≤ a.rr ∧ a.rr ≤ 256
theorem goodB_iff (a : R8) : goodB a = true ↔ GoodP a := by
 constructor
 ·intro h
  simp only [goodB, btw, Bool.and_eq_true, Bool.or_eq_true, Bool.not_eq_true', decide_eq_true_eq, decide_eq_false_iff_not] at h
  obtain ⟨⟨⟨⟨⟨⟨⟨⟨h0, h1⟩, h2⟩, h3⟩, h4⟩, h5⟩, h6⟩, h7⟩, h8⟩ := h
  exact ⟨fun e => h0.resolve_left (fun f => f e), h1, h2, h3, h4, h5, h6, h7, h8⟩
 ·rintro ⟨h0, h1, h2, h3, h4, h5, h6, h7, h8⟩
  simp only [goodB, btw, Bool.and_eq_true, Bool.or_eq_true, Bool.not_eq_true', decide_eq_true_eq, decide_eq_false_iff_not]
  refine ⟨⟨⟨⟨⟨⟨⟨⟨?_, h1⟩, h2⟩, h3⟩, h4⟩, h5⟩, h6⟩, h7⟩, h8⟩
  by_cases e : a.ms = 0
  ·exact .inr (h0 e)
  ·exact .inl e
theorem goodB_false {a : R8} (h : ¬ GoodP a) : goodB a = false := by
 cases e : goodB a
 ·rfl
 ·exact absurd ((goodB_iff a).1 e) h
def depthOf (a b u v : Int) : Int := u + v - ab (a - b)
def wayOf (a b : Int) : Int := if b < a then -1 else 1
def spd (p m : Int) : Int := pa p 1 m
def nearOf (p q m n way : Int) : Int := (spd p m - spd q n) * way
def timesOf (m n : Int) : Int := if m = 0 ∨ n = 0 then m + n else m * n
def sumOf (m n : Int) : Int := if m = 0 ∨ n = 0 then 1 else m + n
def passed (p q m n back way : Int) : Int := pa (nearOf p q m n way * timesOf m n) (256 + back) (sumOf m n * 256) * way
def pushA (p q m n back way : Int) : Int := if nearOf p q m n way ≤ 0 ∨ m = 0 then p else ad p (-(passed p q m n back way)) 16777216
def pushB (p q m n back way : Int) : Int := if nearOf p q m n way ≤ 0 ∨ n = 0 then q else ad q (passed p q m n back way) 16777216
def shareOf (m n d : Int) : Int := if m = 0 then 0 else if n = 0 then d else d.tdiv 2
def atA (a m n d way : Int) : Int := ad a (-way * shareOf m n d) 1048576
def atB (b m n d way : Int) : Int := ad b (way * (d - shareOf m n d)) 1048576
def metX (a b : R8) : R8 × R8 :=
 ({ a with x := atA a.x a.ms b.ms (depthOf a.x b.x a.wd b.wd) (wayOf a.x b.x), px := pushA a.px b.px a.ms b.ms (min a.rr b.rr) (wayOf a.x b.x) },
  { b with x := atB b.x a.ms b.ms (depthOf a.x b.x a.wd b.wd) (wayOf a.x b.x), px := pushB a.px b.px a.ms b.ms (min a.rr b.rr) (wayOf a.x b.x) })
def metY (a b : R8) : R8 × R8 :=
 ({ a with y := atA a.y a.ms b.ms (depthOf a.y b.y a.ht b.ht) (wayOf a.y b.y), py := pushA a.py b.py a.ms b.ms (min a.rr b.rr) (wayOf a.y b.y) },
  { b with y := atB b.y a.ms b.ms (depthOf a.y b.y a.ht b.ht) (wayOf a.y b.y), py := pushB a.py b.py a.ms b.ms (min a.rr b.rr) (wayOf a.y b.y) })
def overB (a b : R8) : Bool := goodB a && goodB b && decide (1 ≤ depthOf a.x b.x a.wd b.wd) && decide (1 ≤ depthOf a.y b.y a.ht b.ht)
def met (a b : R8) : R8 × R8 :=
 if overB a b then
  if a.ms = 0 ∧ b.ms = 0 then (a, b)
  else if depthOf a.x b.x a.wd b.wd < depthOf a.y b.y a.ht b.ht then metX a b else metY a b
 else (a, b)
theorem way_or (a b : Int) : wayOf a b = 1 ∨ wayOf a b = -1 := by unfold wayOf; split <;> simp
theorem ad_zero (a m : Int) (h : -m ≤ a ∧ a ≤ m) (hm : m ≤ 1099511627776) : ad a 0 m = a := by
 unfold ad; rw [Int.min_eq_left hm, wi_zero _ (by omega), wi_self a m h.1 h.2, Int.add_zero, wi_self a m h.1 h.2]
theorem ad_self (a b m : Int) (h : -m ≤ a ∧ a ≤ m) (hb : -m ≤ b ∧ b ≤ m) (hm : m ≤ 1099511627776) (hs : -m ≤ a + b ∧ a + b ≤ m) : ad a b m = a + b := by
 unfold ad; rw [Int.min_eq_left hm, wi_self b m hb.1 hb.2, wi_self a m h.1 h.2, wi_self _ m hs.1 hs.2]
theorem pa_abs (n a b k : Int) (hn : -k ≤ n * a ∧ n * a ≤ k) (h1 : -268435456 ≤ n ∧ n ≤ 268435456) (h2 : -268435456 ≤ a ∧ a ≤ 268435456) : -k ≤ pa n a b ∧ pa n a b ≤ k := by
 unfold pa; split
 ·omega
 ·rw [wi_self n _ h1.1 h1.2, wi_self a _ h2.1 h2.2]
  have h := Int.natAbs_tdiv_le_natAbs (n * a) (wi b 268435456)
  omega
theorem spd_le (p m : Int) (k : Int) (hk : k ≤ 268435456) (hp : -k ≤ p ∧ p ≤ k) : -k ≤ spd p m ∧ spd p m ≤ k :=
 pa_abs p 1 m k (by omega) (by omega) (by omega)
theorem near_le (p q m n way k : Int) (hk : k ≤ 268435456) (hp : -k ≤ p ∧ p ≤ k) (hq : -k ≤ q ∧ q ≤ k) (hw : way = 1 ∨ way = -1) : -(2 * k) ≤ nearOf p q m n way ∧ nearOf p q m n way ≤ 2 * k := by
 have h1 := spd_le p m k hk hp
 have h2 := spd_le q n k hk hq
 unfold nearOf
 rcases hw with rfl | rfl <;> omega
theorem times_le (m n : Int) (hm : 0 ≤ m ∧ m ≤ 9) (hn : 0 ≤ n ∧ n ≤ 9) : 0 ≤ timesOf m n ∧ timesOf m n ≤ 81 := by
 unfold timesOf; split
 ·omega
 ·have := mul_le m n 9 (by omega) (by omega)
  have := Int.mul_nonneg hm.1 hn.1
  omega
theorem sum_le (m n : Int) (hm : 0 ≤ m ∧ m ≤ 9) (hn : 0 ≤ n ∧ n ≤ 9) : 1 ≤ sumOf m n ∧ sumOf m n ≤ 18 := by
 unfold sumOf; split <;> omega
theorem mul_le' (x y k l : Int) (hx : -k ≤ x ∧ x ≤ k) (hy : 0 ≤ y ∧ y ≤ l) : -(k * l) ≤ x * y ∧ x * y ≤ k * l := by
 have h1 : x.natAbs ≤ k.natAbs := by omega
 have h2 : y.natAbs ≤ l.natAbs := by omega
 have h3 := Nat.mul_le_mul h1 h2
 rw [← Int.natAbs_mul, ← Int.natAbs_mul] at h3
 have h4 : 0 ≤ k * l := Int.mul_nonneg (by omega) (by omega)
 omega
theorem pushA_le (p q m n back way : Int) (hp : -16777216 ≤ p ∧ p ≤ 16777216) : -16777216 ≤ pushA p q m n back way ∧ pushA p q m n back way ≤ 16777216 := by
 unfold pushA; split
 ·exact hp
 ·exact ad_le _ _ _ (by omega)
theorem pushB_le (p q m n back way : Int) (hq : -16777216 ≤ q ∧ q ≤ 16777216) : -16777216 ≤ pushB p q m n back way ∧ pushB p q m n back way ≤ 16777216 := by
 unfold pushB; split
 ·exact hq
 ·exact ad_le _ _ _ (by omega)
theorem pushA_fix (p q n back way : Int) : pushA p q 0 n back way = p := by unfold pushA; rw [if_pos (.inr rfl)]
theorem pushB_fix (p q m back way : Int) : pushB p q m 0 back way = q := by unfold pushB; rw [if_pos (.inr rfl)]
theorem share_le (m n d : Int) (hd : 0 ≤ d) : 0 ≤ shareOf m n d ∧ shareOf m n d ≤ d := by
 unfold shareOf; split
 ·omega
 ·split
  ·omega
  ·rw [Int.tdiv_eq_ediv_of_nonneg hd]; omega
theorem atA_fix (a n d way : Int) (ha : -1048576 ≤ a ∧ a ≤ 1048576) : atA a 0 n d way = a := by
 unfold atA shareOf; rw [if_pos rfl, Int.mul_zero, ad_zero _ _ ha (by omega)]
theorem atB_fix (b m d way : Int) (hm : m ≠ 0) (hb : -1048576 ≤ b ∧ b ≤ 1048576) : atB b m 0 d way = b := by
 unfold atB shareOf; rw [if_neg hm, if_pos rfl, Int.sub_self, Int.mul_zero, ad_zero _ _ hb (by omega)]
theorem atA_self (a m n d way : Int) (ha : -524288 ≤ a ∧ a ≤ 524288) (hd : 0 ≤ d ∧ d ≤ 8192) (hw : way = 1 ∨ way = -1) : atA a m n d way = a - way * shareOf m n d := by
 have h := share_le m n d hd.1
 unfold atA
 generalize shareOf m n d = s at *
 rcases hw with rfl | rfl <;> rw [ad_self _ _ _ (by omega) (by omega) (by omega) (by omega)] <;> omega
theorem atB_self (b m n d way : Int) (hb : -524288 ≤ b ∧ b ≤ 524288) (hd : 0 ≤ d ∧ d ≤ 8192) (hw : way = 1 ∨ way = -1) : atB b m n d way = b + way * (d - shareOf m n d) := by
 have h := share_le m n d hd.1
 unfold atB
 generalize shareOf m n d = s at *
 rcases hw with rfl | rfl <;> rw [ad_self _ _ _ (by omega) (by omega) (by omega) (by omega)]
theorem apart (a b u v m n : Int) (ha : -524288 ≤ a ∧ a ≤ 524288) (hb : -524288 ≤ b ∧ b ≤ 524288) (hu : 1 ≤ u ∧ u ≤ 4096) (hv : 1 ≤ v ∧ v ≤ 4096) (hd : 1 ≤ depthOf a b u v) :
  depthOf (atA a m n (depthOf a b u v) (wayOf a b)) (atB b m n (depthOf a b u v) (wayOf a b)) u v = 0 := by
 have hle : depthOf a b u v ≤ 8192 := by unfold depthOf ab; omega
 rw [atA_self _ _ _ _ _ ha ⟨by omega, hle⟩ (way_or a b), atB_self _ _ _ _ _ hb ⟨by omega, hle⟩ (way_or a b)]
 generalize hD : depthOf a b u v = d at *
 generalize shareOf m n d = s at *
 unfold depthOf ab at *
 unfold wayOf
 split <;> omega
theorem met_good (a b : R8) (ga : GoodP a) (gb : GoodP b) : GoodP (met a b).1 ∧ GoodP (met a b).2 := by
 unfold met
 split
 ·split
  ·exact ⟨ga, gb⟩
  ·split
   ·exact ⟨⟨fun e => ⟨by have e : a.ms = 0 := e
                         show pushA _ _ a.ms _ _ _ = 0
                         rw [e, pushA_fix]; exact (ga.fx e).1, (ga.fx e).2⟩, ad_le _ _ _ (by omega), ga.y, pushA_le _ _ _ _ _ _ ga.px, ga.py, ga.wd, ga.ht, ga.ms, ga.rr⟩,
     ⟨fun e => ⟨by have e : b.ms = 0 := e
                   show pushB _ _ _ b.ms _ _ = 0
                   rw [e, pushB_fix]; exact (gb.fx e).1, (gb.fx e).2⟩, ad_le _ _ _ (by omega), gb.y, pushB_le _ _ _ _ _ _ gb.px, gb.py, gb.wd, gb.ht, gb.ms, gb.rr⟩⟩
   ·exact ⟨⟨fun e => ⟨(ga.fx e).1, by have e : a.ms = 0 := e
                                      show pushA _ _ a.ms _ _ _ = 0
                                      rw [e, pushA_fix]; exact (ga.fx e).2⟩, ga.x, ad_le _ _ _ (by omega), ga.px, pushA_le _ _ _ _ _ _ ga.py, ga.wd, ga.ht, ga.ms, ga.rr⟩,
     ⟨fun e => ⟨(gb.fx e).1, by have e : b.ms = 0 := e
                                show pushB _ _ _ b.ms _ _ = 0
                                rw [e, pushB_fix]; exact (gb.fx e).2⟩, gb.x, ad_le _ _ _ (by omega), gb.px, pushB_le _ _ _ _ _ _ gb.py, gb.wd, gb.ht, gb.ms, gb.rr⟩⟩
 ·exact ⟨ga, gb⟩
theorem met_kept (a b : R8) : (met a b).1.wd = a.wd ∧ (met a b).1.ht = a.ht ∧ (met a b).1.ms = a.ms ∧ (met a b).1.rr = a.rr ∧ (met a b).2.wd = b.wd ∧ (met a b).2.ht = b.ht ∧ (met a b).2.ms = b.ms ∧ (met a b).2.rr = b.rr := by
 unfold met
 split
 ·split
  ·exact ⟨rfl, rfl, rfl, rfl, rfl, rfl, rfl, rfl⟩
  ·split <;> exact ⟨rfl, rfl, rfl, rfl, rfl, rfl, rfl, rfl⟩
 ·exact ⟨rfl, rfl, rfl, rfl, rfl, rfl, rfl, rfl⟩
def wallAt (at' half wide : Int) : Int := if at' < half then half else if max (wide - half) half < at' then max (wide - half) half else at'
def wallPush (at' push half wide back : Int) : Int := if at' < half then pa (ab push) (wi back 256) 256 else if max (wide - half) half < at' then -(pa (ab push) (wi back 256) 256) else push
theorem left_le (push back : Int) (hp : -268435456 ≤ push ∧ push ≤ 268435456) : -(ab push) ≤ pa (ab push) (wi back 256) 256 ∧ pa (ab push) (wi back 256) 256 ≤ ab push := by
 have h1 : 0 ≤ ab push ∧ ab push ≤ 268435456 := by unfold ab; omega
 have h2 := wi_le back 256 (by omega)
 generalize ab push = z at *
 generalize wi back 256 = s at *
 unfold pa
 rw [if_neg (by omega), wi_self z _ (by omega) (by omega), wi_self _ _ (by omega) (by omega), wi_self _ _ (by omega) (by omega)]
 have h7 : (z * s).natAbs ≤ z.natAbs * 256 := by
  rw [Int.natAbs_mul]
  exact Nat.mul_le_mul (Nat.le_refl _) (by omega)
 have h8 : ((z * s).tdiv 256).natAbs ≤ z.natAbs := by
  rw [Int.natAbs_tdiv]
  exact Nat.div_le_of_le_mul (by rw [Nat.mul_comm]; exact h7)
 omega
end Num
section
open Go.ChangeShapes Go.WideShapes Go.ChangeAt Go.RowKit
open Num (wi ad pa)
theorem wrap_id (x : Int) (h1 : -9223372036854775808 ≤ x) (h2 : x ≤ 9223372036854775807) : wrap64 x = x := by unfold wrap64; omega
theorem ret_int {k : IntKind} {a b : Int} (h : a = b) : Ending.returned (.int k a) = .returned (.int k b) := by rw [h]
set_option maxHeartbeats 400000 in
theorem within_any (n m : Int) (h0 : 0 ≤ m) (h1 : m ≤ 9223372036854775807) (w : World) :
  Calls Tryz.prog 96 #[.int .i64 n, .int .i64 m] w fun e w' => e = .returned (.int .i64 (wi n m)) ∧ w' = w := by
 go_enter Tryz.func96, Tryz.ntmps96
 go_wp2
 all_goals
  go_ret
  exact ⟨ret_int (by unfold wi; omega), rfl⟩
set_option maxHeartbeats 400000 in
theorem add_any (a b m : Int) (h0 : 0 ≤ m) (h1 : m ≤ 9223372036854775807) (w : World) :
  Calls Tryz.prog 66 #[.int .i64 a, .int .i64 b, .int .i64 m] w fun e w' => e = .returned (.int .i64 (ad a b m)) ∧ w' = w := by
 by_cases hm : m ≤ 1099511627776
 ·have ha := Num.wi_le a m h0
  have hb := Num.wi_le b m h0
  go_enter Tryz.func66, Tryz.ntmps66
  go_wp2_with (go_at_call 96; refine (within_any _ _ (by omega) (by omega) _).mono ?_; rintro e w' ⟨rfl, rfl⟩)
  all_goals
   go_ret
   exact ⟨ret_int (by unfold ad; rw [Int.min_eq_left hm]), rfl⟩
 ·have ha := Num.wi_le a 1099511627776 (by omega)
  have hb := Num.wi_le b 1099511627776 (by omega)
  go_enter Tryz.func66, Tryz.ntmps66
  go_wp2_with (go_at_call 96; refine (within_any _ _ (by omega) (by omega) _).mono ?_; rintro e w' ⟨rfl, rfl⟩)
  all_goals
   go_ret
   exact ⟨ret_int (by unfold ad; rw [Int.min_eq_right (by omega)]), rfl⟩
set_option maxHeartbeats 400000 in
theorem part_any (n a b : Int) (w : World) :
  Calls Tryz.prog 149 #[.int .i64 n, .int .i64 a, .int .i64 b] w fun e w' => e = .returned (.int .i64 (pa n a b)) ∧ w' = w := by
 by_cases hb : b = 0
 ·go_enter Tryz.func149, Tryz.ntmps149
  go_wp2
  go_ret
  exact ⟨ret_int (by unfold pa; rw [if_pos hb]), rfl⟩
 ·have hp := Num.prod_le n a
  have hz := Num.wi_ne b 268435456 (by omega) hb
  have hw := Num.wi_le b 268435456 (by omega)
  go_enter Tryz.func149, Tryz.ntmps149
  go_wp2_with (go_at_call 96; refine (within_any _ _ (by omega) (by omega) _).mono ?_; rintro e w' ⟨rfl, rfl⟩)
  go_ret
  exact ⟨ret_int (by have hq := Num.pa_le n a b; unfold pa at hq ⊢; rw [if_neg hb] at hq ⊢; exact wrap_id _ (by omega) (by omega)), rfl⟩
end
section
open Go.ChangeShapes Go.WideShapes Go.ChangeAt Go.RowKit
open Num
def rowV (r : R8) : Value := .agg #[.int .i64 r.x, .int .i64 r.y, .int .i64 r.px, .int .i64 r.py, .int .i64 r.wd, .int .i64 r.ht, .int .i64 r.ms, .int .i64 r.rr]
theorem ret_bool {a b : Bool} (h : a = b) : Ending.returned (.bool a) = .returned (.bool b) := by rw [h]
theorem ret2 {a b c d : Int} (h : a = c) (g : b = d) : Ending.returned (.tuple #[.int .i64 a, .int .i64 b]) = .returned (.tuple #[.int .i64 c, .int .i64 d]) := by rw [h, g]
theorem bal {a w : World} (h : Below a.heap.size a w) (o : Obj) : Below a.heap.size a (w.alloc o) := h.alloc h.size o
theorem bcall {a w w' : World} (h : Below a.heap.size a w) (h' : Below w.heap.size w w') : Below a.heap.size a w' := h.trans (h'.mono h.size)
theorem bcell {W w1 : World} (hb : Below W.heap.size W w1) : (∀ b o, b < W.heap.size → w1.cell? ⟨b, o, none⟩ = W.cell? ⟨b, o, none⟩) ∧ (∀ b o, b < W.heap.size → w1.frozen? ⟨b, o, none⟩ = W.frozen? ⟨b, o, none⟩) :=
 ⟨fun b o h => hb.cell (p := ⟨b, o, none⟩) h, fun b o h => hb.frozen (p := ⟨b, o, none⟩) h⟩
theorem bdrewN {B : Nat} {a w : World} (h : Below B a w) (n : Nat) : Below B a (w.drewN n) := ⟨h.os, h.tape, h.output, h.size, h.block⟩
theorem between_any (n a b : Int) (w : World) :
  Calls Tryz.prog 162 #[.int .i64 n, .int .i64 a, .int .i64 b] w fun e w' => e = .returned (.bool (btw n a b)) ∧ w' = w := by
 go_enter Tryz.func162, Tryz.ntmps162
 go_wp2
 ·go_ret
  exact ⟨ret_bool (by simp [btw]; omega), rfl⟩
 ·go_ret
  exact ⟨ret_bool (by simp [btw]; omega), rfl⟩
theorem fixed_any (a : R8) (w : World) :
  Calls Tryz.prog 145 #[rowV a] w fun e w' => e = .returned (.bool (a.ms == 0)) ∧ Below w.heap.size w w' := by
 unfold rowV
 go_enter Tryz.func145, Tryz.ntmps145
 go_wp2
 go_ret
 exact ⟨rfl, bal (Below.refl _ _) _⟩
theorem size_any (x : Int) (h : -9223372036854775807 ≤ x ∧ x ≤ 9223372036854775807) (w : World) :
  Calls Tryz.prog 150 #[.int .i64 x] w fun e w' => e = .returned (.int .i64 (ab x)) ∧ w' = w := by
 go_enter Tryz.func150, Tryz.ntmps150
 go_wp2
 all_goals
  go_ret
  exact ⟨ret_int (by unfold ab; omega), rfl⟩
theorem wayTo_any (a b : Int) (w : World) :
  Calls Tryz.prog 146 #[.int .i64 a, .int .i64 b] w fun e w' => e = .returned (.int .i64 (wayOf a b)) ∧ w' = w := by
 by_cases h : b < a
 all_goals
  go_enter Tryz.func146, Tryz.ntmps146
  go_wp2
  go_ret
  exact ⟨ret_int (by simp [wayOf, h]), rfl⟩
theorem speed_any (p m : Int) (w : World) :
  Calls Tryz.prog 135 #[.int .i64 p, .int .i64 m] w fun e w' => e = .returned (.int .i64 (spd p m)) ∧ w' = w := by
 go_enter Tryz.func135, Tryz.ntmps135
 go_wp2_with (go_at_call 149; refine (part_any _ _ _ _).mono ?_; rintro e w' ⟨rfl, rfl⟩)
 go_ret
 exact ⟨rfl, rfl⟩
theorem weigh_any (m n : Int) (hm : 0 ≤ m ∧ m ≤ 9) (hn : 0 ≤ n ∧ n ≤ 9) (w : World) :
  Calls Tryz.prog 163 #[.agg #[.int .i64 m, .int .i64 n]] w fun e w' => e = .returned (.tuple #[.int .i64 (timesOf m n), .int .i64 (sumOf m n)]) ∧ Below w.heap.size w w' := by
 have hmn := mul_le' m n 9 9 (by omega) hn
 by_cases h : m = 0
 ·go_enter Tryz.func163, Tryz.ntmps163
  go_wp2
  exact bodyPost_ret (by simp [results, Tryz.results163, go_sem] <;> first | exact ⟨rfl, rfl⟩ | rfl) rfl ⟨by simp [timesOf, sumOf, h], bal (Below.refl _ _) _⟩
 by_cases h2 : n = 0
 ·go_enter Tryz.func163, Tryz.ntmps163
  go_wp2
  exact bodyPost_ret (by simp [results, Tryz.results163, go_sem] <;> first | exact ⟨rfl, rfl⟩ | rfl) rfl ⟨by simp [timesOf, sumOf, h2], bal (Below.refl _ _) _⟩
 have e1 : (m == 0) = false := by simp [h]
 have e2 : (n == 0) = false := by simp [h2]
 go_enter Tryz.func163, Tryz.ntmps163
 go_wp2
 go_quiet (fail)
 go_wp2
 exact bodyPost_ret (by simp [results, Tryz.results163, go_sem] <;> first | exact ⟨rfl, rfl⟩ | rfl) rfl ⟨by simp [timesOf, sumOf, h, h2], by repeat (first | exact Below.refl _ _ | refine Below.drew ?_ | refine bdrewN ?_ _ | refine bal ?_ _)⟩
set_option maxHeartbeats 1000000 in
theorem good_any (a : R8) (w : World) :
  Calls Tryz.prog 143 #[rowV a] w fun e w' => e = .returned (.bool (goodB a)) ∧ Below w.heap.size w w' := by
 obtain ⟨x, y, px, py, wd, ht, ms, rr⟩ := a
 unfold rowV
 go_enter Tryz.func143, Tryz.ntmps143
 go_wp2_with fail
 refine (fixed_any ⟨x, y, px, py, wd, ht, ms, rr⟩ _).mono ?_
 rintro e w1 ⟨rfl, hb⟩
 obtain ⟨hc, hf⟩ := bcell hb
 have hz := hb.size
 simp at hz
 have h0 : Below w.heap.size w w1 := bcall (bal (Below.refl _ _) _) hb
 clear hb
 go_wp2_with (go_at_call 162; refine (between_any _ _ _ _).mono ?_; rintro e w' ⟨rfl, rfl⟩)
 all_goals
  go_ret
  exact ⟨ret_bool (by simp_all [goodB]), h0⟩
set_option maxHeartbeats 1000000 in
theorem depth_any (a b : R8) (ga : GoodP a) (gb : GoodP b) (w : World) :
  Calls Tryz.prog 144 #[rowV a, rowV b] w fun e w' => e = .returned (.tuple #[.int .i64 (depthOf a.x b.x a.wd b.wd), .int .i64 (depthOf a.y b.y a.ht b.ht)]) ∧ Below w.heap.size w w' := by
 obtain ⟨x, y, px, py, wd, ht, ms, rr⟩ := a
 obtain ⟨x', y', px', py', wd', ht', ms', rr'⟩ := b
 obtain ⟨-, h1, h2, -, -, h3, h4, -, -⟩ := ga
 obtain ⟨-, h1', h2', -, -, h3', h4', -, -⟩ := gb
 simp only at h1 h2 h3 h4 h1' h2' h3' h4'
 have k1 : 0 ≤ ab (x - x') ∧ ab (x - x') ≤ 2097152 := by unfold ab; omega
 have k2 : 0 ≤ ab (y - y') ∧ ab (y - y') ≤ 2097152 := by unfold ab; omega
 unfold rowV depthOf
 go_enter Tryz.func144, Tryz.ntmps144
 go_wp2
 go_quiet (first | (go_at_call 150; exact Calls.quiet_of_same (size_any _ (by omega) _)))
 go_wp2
 exact bodyPost_ret (by simp [results, Tryz.results144, go_sem] <;> first | exact ⟨rfl, rfl⟩ | rfl) rfl ⟨rfl, by repeat (first | exact Below.refl _ _ | refine Below.drew ?_ | refine bdrewN ?_ _ | refine bal ?_ _)⟩
set_option maxHeartbeats 1000000 in
theorem wall_any (at' push half wide back : Int) (h1 : -268435456 ≤ at' ∧ at' ≤ 268435456) (h2 : -268435456 ≤ push ∧ push ≤ 268435456) (h3 : -268435456 ≤ half ∧ half ≤ 268435456) (h4 : -268435456 ≤ wide ∧ wide ≤ 268435456) (w : World) :
  Calls Tryz.prog 119 #[.int .i64 at', .int .i64 push, .int .i64 half, .int .i64 wide, .int .i64 back] w fun e w' => e = .returned (.tuple #[.int .i64 (wallAt at' half wide), .int .i64 (wallPush at' push half wide back)]) ∧ w' = w := by
 have k := left_le push back h2
 have k1 : 0 ≤ ab push ∧ ab push ≤ 268435456 := by unfold ab; omega
 by_cases c1 : at' < half
 ·go_enter Tryz.func119, Tryz.ntmps119
  go_wp2_with (first | (go_at_call 150; refine (size_any _ (by omega) _).mono ?_; rintro e w' ⟨rfl, rfl⟩) | (go_at_call 96; refine (within_any _ _ (by omega) (by omega) _).mono ?_; rintro e w' ⟨rfl, rfl⟩) | (go_at_call 149; refine (part_any _ _ _ _).mono ?_; rintro e w' ⟨rfl, rfl⟩))
  all_goals
   exact bodyPost_ret (by simp [results, Tryz.results119, go_sem] <;> first | exact ⟨rfl, rfl⟩ | rfl) rfl ⟨ret2 (by unfold wallAt; rw [if_pos c1]) (by unfold wallPush; rw [if_pos c1]), rfl⟩
 by_cases c2 : max (wide - half) half < at'
 ·go_enter Tryz.func119, Tryz.ntmps119
  go_wp2_with (first | (go_at_call 150; refine (size_any _ (by omega) _).mono ?_; rintro e w' ⟨rfl, rfl⟩) | (go_at_call 96; refine (within_any _ _ (by omega) (by omega) _).mono ?_; rintro e w' ⟨rfl, rfl⟩) | (go_at_call 149; refine (part_any _ _ _ _).mono ?_; rintro e w' ⟨rfl, rfl⟩))
  all_goals
   exact bodyPost_ret (by simp [results, Tryz.results119, go_sem] <;> first | exact ⟨rfl, rfl⟩ | rfl) rfl ⟨ret2 (by unfold wallAt; rw [if_neg (by omega), if_pos (by omega)]; omega) (by unfold wallPush; rw [if_neg (by omega), if_pos (by omega)]), rfl⟩
 ·go_enter Tryz.func119, Tryz.ntmps119
  go_wp2_with (first | (go_at_call 150; refine (size_any _ (by omega) _).mono ?_; rintro e w' ⟨rfl, rfl⟩) | (go_at_call 96; refine (within_any _ _ (by omega) (by omega) _).mono ?_; rintro e w' ⟨rfl, rfl⟩) | (go_at_call 149; refine (part_any _ _ _ _).mono ?_; rintro e w' ⟨rfl, rfl⟩))
  all_goals
   exact bodyPost_ret (by simp [results, Tryz.results119, go_sem] <;> first | exact ⟨rfl, rfl⟩ | rfl) rfl ⟨ret2 (by unfold wallAt; rw [if_neg (by omega), if_neg (by omega)]) (by unfold wallPush; rw [if_neg (by omega), if_neg (by omega)]), rfl⟩
end
section
open Go.ChangeShapes Go.WideShapes Go.ChangeAt Go.RowKit
open Num
structure Kept (ga gb : Nat) (w w' : World) : Prop where
 os : w'.os = w.os
 tape : w'.tape = w.tape
 output : w'.output = w.output
 size : w.heap.size ≤ w'.heap.size
 block : ∀ k, k < w.heap.size → k ≠ ga → k ≠ gb → w'.heap[k]? = w.heap[k]?
theorem Kept.of {ga gb : Nat} {w w' : World} (h : Below w.heap.size w w') : Kept ga gb w w' := ⟨h.os, h.tape, h.output, h.size, fun k hk _ _ => h.block k hk⟩
theorem Kept.trans {ga gb : Nat} {a b c : World} (h : Kept ga gb a b) (k : Kept ga gb b c) : Kept ga gb a c :=
 ⟨k.os.trans h.os, k.tape.trans h.tape, k.output.trans h.output, Nat.le_trans h.size k.size, fun i hi h1 h2 => (k.block i (Nat.lt_of_lt_of_le hi h.size) h1 h2).trans (h.block i hi h1 h2)⟩
theorem Kept.setA {ga gb : Nat} {a w : World} (h : Kept ga gb a w) (i : Nat) (v : Value) : Kept ga gb a (w.setCell ⟨ga, i, none⟩ v) :=
 ⟨h.os, h.tape, h.output, by simpa using h.size, fun k hk h1 h2 => (Below.heap_setCell w _ v k h1).trans (h.block k hk h1 h2)⟩
theorem Kept.setB {ga gb : Nat} {a w : World} (h : Kept ga gb a w) (i : Nat) (v : Value) : Kept ga gb a (w.setCell ⟨gb, i, none⟩ v) :=
 ⟨h.os, h.tape, h.output, by simpa using h.size, fun k hk h1 h2 => (Below.heap_setCell w _ v k h2).trans (h.block k hk h1 h2)⟩
theorem Kept.below {ga gb B : Nat} {w w' : World} (h : Kept ga gb w w') (h1 : B ≤ ga) (h2 : B ≤ gb) (h3 : B ≤ w.heap.size) : Below B w w' :=
 ⟨h.os, h.tape, h.output, h.size, fun k hk => h.block k (by omega) (by omega) (by omega)⟩
theorem Kept.alloc {ga gb : Nat} {a w : World} (h : Kept ga gb a w) (o : Obj) : Kept ga gb a (w.alloc o) :=
 ⟨h.os, h.tape, h.output, by have := h.size; rw [World.size_alloc]; omega, fun k hk h1 h2 => (Below.heap_alloc w o k (Nat.lt_of_lt_of_le hk h.size)).trans (h.block k hk h1 h2)⟩
theorem Kept.refl (ga gb : Nat) (w : World) : Kept ga gb w w := ⟨rfl, rfl, rfl, Nat.le_refl _, fun _ _ _ _ => rfl⟩
theorem row_fin {W : World} {b t n i : Nat} {f : Nat → Value} {v v' : Int} (h : W.rowIs b t n (fun j => if j = i then .int .i64 v else f j)) (e : v = v') : W.rowIs b t n (fun j => if j = i then .int .i64 v' else f j) := e ▸ h
theorem near_zero (p q way : Int) : nearOf p q 0 0 way = 0 := by simp [nearOf, spd, pa]
set_option maxHeartbeats 1000000 in
theorem passOn_any (m n p q back way : Int) (ga gb i : Nat) (f g : Nat → Value) (w : World) (hm : 0 ≤ m ∧ m ≤ 9) (hn : 0 ≤ n ∧ n ≤ 9) (hp : -16777216 ≤ p ∧ p ≤ 16777216) (hq : -16777216 ≤ q ∧ q ≤ 16777216)
  (hb : 0 ≤ back ∧ back ≤ 256) (hw : way = 1 ∨ way = -1) (ra : w.rowIs ga 34 8 f) (rb : w.rowIs gb 34 8 g) (hi : i < 8) (fi : f i = .int .i64 p) (gi : g i = .int .i64 q) (hne : ga ≠ gb) :
  Calls Tryz.prog 147 #[.agg #[.int .i64 m, .int .i64 n], .pointer (some ⟨ga, i, none⟩), .pointer (some ⟨gb, i, none⟩), .int .i64 back, .int .i64 way] w
   fun e w' => e = .returned (.tuple #[]) ∧ w'.rowIs ga 34 8 (fun k => if k = i then .int .i64 (pushA p q m n back way) else f k) ∧ w'.rowIs gb 34 8 (fun k => if k = i then .int .i64 (pushB p q m n back way) else g k) ∧ Kept ga gb w w' := by
 have h1 := spd_le p m 16777216 (by omega) hp
 have h2 := spd_le q n 16777216 (by omega) hq
 have h3 := near_le p q m n way 16777216 (by omega) hp hq hw
 have h4 := times_le m n hm hn
 have h5 := sum_le m n hm hn
 have h6 := mul_le' _ _ _ _ h3 h4
 have h7 := pa_le (nearOf p q m n way * timesOf m n) (256 + back) (sumOf m n * 256)
 have h8 : -72057594037927936 ≤ passed p q m n back way ∧ passed p q m n back way ≤ 72057594037927936 := by
  unfold passed; rcases hw with rfl | rfl <;> omega
 have ca := ra.cell hi
 have cb := rb.cell hi
 have fa := ra.frozen i
 have fb := rb.frozen i
 have la := ra.lt
 have lb := rb.lt
 rw [fi] at ca
 rw [gi] at cb
 have en : (spd p m - spd q n) * way = nearOf p q m n way := rfl
 have ep : pa (nearOf p q m n way * timesOf m n) (256 + back) (sumOf m n * 256) * way = passed p q m n back way := rfl
 by_cases c1 : nearOf p q m n way ≤ 0
 ·have eA : pushA p q m n back way = p := by unfold pushA; rw [if_pos (.inl c1)]
  have eB : pushB p q m n back way = q := by unfold pushB; rw [if_pos (.inl c1)]
  rw [eA, eB]
  have HA : Hid (w.rowIs ga 34 8 (fun k => if k = i then .int .i64 p else f k)) := ra.congr (fun k _ => by split <;> simp_all)
  have HB : Hid (w.rowIs gb 34 8 (fun k => if k = i then .int .i64 q else g k)) := rb.congr (fun k _ => by split <;> simp_all)
  clear ra rb h6 h7 h8 ep h4 h5 eA eB fi gi
  unfold nearOf at *
  go_enter Tryz.func147, Tryz.ntmps147
  go_wp2
  go_quiet (first | (go_at_call 135; exact Calls.quiet_of_same (speed_any _ _ _)))
  go_wp2
  have hbl : ∀ N : Nat, Below w.heap.size w ((w.alloc (Obj.cells #[Value.int IntKind.i64 m, Value.int IntKind.i64 n] 191)).drewN N) := fun N => bdrewN (bal (Below.refl _ _) _) N
  exact bodyPost_ret (by simp [results, Tryz.results147, go_sem]) rfl ⟨rfl, HA.out.of_block ((hbl _).block _ la), HB.out.of_block ((hbl _).block _ lb), Kept.of (hbl _)⟩
 by_cases c2 : m = 0
 ·by_cases c3 : n = 0
  ·subst c2 c3; rw [near_zero] at c1; omega
  ·have eA : pushA p q m n back way = p := by unfold pushA; rw [if_pos (.inr (by omega))]
   have eB : pushB p q m n back way = ad q (passed p q m n back way) 16777216 := by unfold pushB; rw [if_neg (by omega)]
   rw [eA, eB]
   have HA : Hid (w.rowIs ga 34 8 f) := ra
   have HB : Hid (w.rowIs gb 34 8 g) := rb
   have e1 : (m == 0) = true := by simp; omega
   have e2 : (n == 0) = false := by simp; omega
   clear ra rb ep en eA eB c2 c3
   unfold passed nearOf at *
   go_enter Tryz.func147, Tryz.ntmps147
   go_wp2
   go_quiet (first | (go_at_call 135; exact Calls.quiet_of_same (speed_any _ _ _)))
   go_wp2_with fail
   refine (weigh_any m n hm hn _).mono ?_
   rintro e w1 ⟨rfl, hb1⟩
   obtain ⟨hc, hf⟩ := bcell hb1
   have hz := hb1.size
   simp at hz hc hf
   have hbl : Hid (Below w.heap.size w w1) := bcall (bdrewN (bal (Below.refl _ _) _) _) hb1
   clear hb1
   go_wp2_with (first | (go_at_call 149; refine (part_any _ _ _ _).mono ?_; rintro e w' ⟨rfl, rfl⟩) | (go_at_call 66; refine (add_any _ _ _ (by omega) (by omega) _).mono ?_; rintro e w' ⟨rfl, rfl⟩))
   exact bodyPost_end (by simp [results, Tryz.results147, go_sem]) rfl ⟨rfl, ((HA.out.of_block (hbl.out.block _ la)).setOther hne _).congr (fun k _ => by split <;> simp_all), (HB.out.of_block (hbl.out.block _ lb)).set i _, (Kept.of hbl.out).setB i _⟩
 by_cases c3 : n = 0
 ·have eA : pushA p q m n back way = ad p (-(passed p q m n back way)) 16777216 := by unfold pushA; rw [if_neg (by omega)]
  have eB : pushB p q m n back way = q := by unfold pushB; rw [if_pos (.inr (by omega))]
  rw [eA, eB]
  have HA : Hid (w.rowIs ga 34 8 f) := ra
  have HB : Hid (w.rowIs gb 34 8 g) := rb
  have e1 : (m == 0) = false := by simp; omega
  have e2 : (n == 0) = true := by simp; omega
  clear ra rb ep en eA eB c2 c3
  unfold passed nearOf at *
  go_enter Tryz.func147, Tryz.ntmps147
  go_wp2
  go_quiet (first | (go_at_call 135; exact Calls.quiet_of_same (speed_any _ _ _)))
  go_wp2_with fail
  refine (weigh_any m n hm hn _).mono ?_
  rintro e w1 ⟨rfl, hb1⟩
  obtain ⟨hc, hf⟩ := bcell hb1
  have hz := hb1.size
  simp at hz hc hf
  have hbl : Hid (Below w.heap.size w w1) := bcall (bdrewN (bal (Below.refl _ _) _) _) hb1
  clear hb1
  go_wp2_with (first | (go_at_call 149; refine (part_any _ _ _ _).mono ?_; rintro e w' ⟨rfl, rfl⟩) | (go_at_call 66; refine (add_any _ _ _ (by omega) (by omega) _).mono ?_; rintro e w' ⟨rfl, rfl⟩))
  exact bodyPost_end (by simp [results, Tryz.results147, go_sem]) rfl ⟨rfl, (HA.out.of_block (hbl.out.block _ la)).set i _, ((HB.out.of_block (hbl.out.block _ lb)).setOther hne.symm _).congr (fun k _ => by split <;> simp_all), (Kept.of hbl.out).setA i _⟩
 ·have eA : pushA p q m n back way = ad p (-(passed p q m n back way)) 16777216 := by unfold pushA; rw [if_neg (by omega)]
  have eB : pushB p q m n back way = ad q (passed p q m n back way) 16777216 := by unfold pushB; rw [if_neg (by omega)]
  rw [eA, eB]
  have HA : Hid (w.rowIs ga 34 8 f) := ra
  have HB : Hid (w.rowIs gb 34 8 g) := rb
  have e1 : (m == 0) = false := by simp; omega
  have e2 : (n == 0) = false := by simp; omega
  clear ra rb ep en eA eB c2 c3
  unfold passed nearOf at *
  go_enter Tryz.func147, Tryz.ntmps147
  go_wp2
  go_quiet (first | (go_at_call 135; exact Calls.quiet_of_same (speed_any _ _ _)))
  go_wp2_with fail
  refine (weigh_any m n hm hn _).mono ?_
  rintro e w1 ⟨rfl, hb1⟩
  obtain ⟨hc, hf⟩ := bcell hb1
  have hz := hb1.size
  simp at hz hc hf
  have hbl : Hid (Below w.heap.size w w1) := bcall (bdrewN (bal (Below.refl _ _) _) _) hb1
  clear hb1
  go_wp2_with (first | (go_at_call 149; refine (part_any _ _ _ _).mono ?_; rintro e w' ⟨rfl, rfl⟩) | (go_at_call 66; refine (add_any _ _ _ (by omega) (by omega) _).mono ?_; rintro e w' ⟨rfl, rfl⟩))
  exact bodyPost_end (by simp [results, Tryz.results147, go_sem]) rfl ⟨rfl, ((HA.out.of_block (hbl.out.block _ la)).set i _).setOther hne _, ((HB.out.of_block (hbl.out.block _ lb)).setOther hne.symm _).set i _, ((Kept.of hbl.out).setA i _).setB i _⟩
set_option maxHeartbeats 1000000 in
theorem moveApart_any (m n a b d way : Int) (ga gb i : Nat) (f g : Nat → Value) (w : World) (hd : 0 ≤ d ∧ d ≤ 8192)
  (hw : way = 1 ∨ way = -1) (ra : w.rowIs ga 34 8 f) (rb : w.rowIs gb 34 8 g) (hi : i < 8) (fi : f i = .int .i64 a) (gi : g i = .int .i64 b) (hne : ga ≠ gb) :
  Calls Tryz.prog 148 #[.agg #[.int .i64 m, .int .i64 n], .pointer (some ⟨ga, i, none⟩), .pointer (some ⟨gb, i, none⟩), .int .i64 d, .int .i64 way] w
   fun e w' => e = .returned (.tuple #[]) ∧ w'.rowIs ga 34 8 (fun k => if k = i then .int .i64 (atA a m n d way) else f k) ∧ w'.rowIs gb 34 8 (fun k => if k = i then .int .i64 (atB b m n d way) else g k) ∧ Kept ga gb w w' := by
 have h1 := share_le m n d hd.1
 have ca := ra.cell hi
 have cb := rb.cell hi
 have fa := ra.frozen i
 have fb := rb.frozen i
 have la := ra.lt
 have lb := rb.lt
 rw [fi] at ca
 rw [gi] at cb
 have HA : Hid (w.rowIs ga 34 8 f) := ra
 have HB : Hid (w.rowIs gb 34 8 g) := rb
 clear ra rb fi gi
 unfold atA atB
 by_cases c2 : m = 0
 ·have e1 : (m == 0) = true := by simp [c2]
  have h2 : shareOf m n d = 0 := by unfold shareOf; rw [if_pos c2]
  rw [h2] at h1 ⊢
  clear h2 c2
  rcases hw with rfl | rfl
  all_goals
   go_enter Tryz.func148, Tryz.ntmps148
   go_wp2_with (first | (go_at_call 66; refine (add_any _ _ _ (by omega) (by omega) _).mono ?_; rintro e w' ⟨rfl, rfl⟩))
   exact bodyPost_end (by simp [results, Tryz.results148, go_sem]) rfl ⟨rfl, row_fin (((HA.out.set i _).setOther hne _).alloc _) (by congr 1 <;> omega), row_fin (((HB.out.setOther hne.symm _).set i _).alloc _) (by congr 1 <;> omega), (((Kept.refl ga gb w).setA i _).setB i _).alloc _⟩
 by_cases c3 : n = 0
 ·have e1 : (m == 0) = false := by simp [c2]
  have e2 : (n == 0) = true := by simp [c3]
  have h2 : shareOf m n d = d := by unfold shareOf; rw [if_neg c2, if_pos c3]
  rw [h2] at h1 ⊢
  clear h2 c2 c3
  rcases hw with rfl | rfl
  all_goals
   go_enter Tryz.func148, Tryz.ntmps148
   go_wp2_with (first | (go_at_call 66; refine (add_any _ _ _ (by omega) (by omega) _).mono ?_; rintro e w' ⟨rfl, rfl⟩))
   exact bodyPost_end (by simp [results, Tryz.results148, go_sem]) rfl ⟨rfl, row_fin (((HA.out.set i _).setOther hne _).alloc _) (by congr 1 <;> omega), row_fin (((HB.out.setOther hne.symm _).set i _).alloc _) (by congr 1 <;> omega), (((Kept.refl ga gb w).setA i _).setB i _).alloc _⟩
 ·have e1 : (m == 0) = false := by simp [c2]
  have e2 : (n == 0) = false := by simp [c3]
  have h2 : shareOf m n d = d / 2 := by unfold shareOf; rw [if_neg c2, if_neg c3, Int.tdiv_eq_ediv_of_nonneg hd.1]
  rw [h2] at h1 ⊢
  clear h2 c2 c3
  rcases hw with rfl | rfl
  all_goals
   go_enter Tryz.func148, Tryz.ntmps148
   go_wp2_with (first | (go_at_call 66; refine (add_any _ _ _ (by omega) (by omega) _).mono ?_; rintro e w' ⟨rfl, rfl⟩))
   exact bodyPost_end (by simp [results, Tryz.results148, go_sem]) rfl ⟨rfl, row_fin (((HA.out.set i _).setOther hne _).alloc _) (by congr 1 <;> omega), row_fin (((HB.out.setOther hne.symm _).set i _).alloc _) (by congr 1 <;> omega), (((Kept.refl ga gb w).setA i _).setB i _).alloc _⟩
end
section
open Go.ChangeShapes Go.WideShapes Go.ChangeAt Go.RowKit
open Num
def retV (a b : R8) (ok : Bool) : Value := .tuple #[rowV a, rowV b, .bool ok]
def fld (r : R8) (k : Nat) : Value :=
 match k with
 | 0 => .int .i64 r.x
 | 1 => .int .i64 r.y
 | 2 => .int .i64 r.px
 | 3 => .int .i64 r.py
 | 4 => .int .i64 r.wd
 | 5 => .int .i64 r.ht
 | 6 => .int .i64 r.ms
 | _ => .int .i64 r.rr
theorem rowIs8 (w : World) (r : R8) (t : TypeId) : (w.alloc (.cells #[.int .i64 r.x, .int .i64 r.y, .int .i64 r.px, .int .i64 r.py, .int .i64 r.wd, .int .i64 r.ht, .int .i64 r.ms, .int .i64 r.rr] t)).rowIs w.heap.size t 8 (fld r) :=
 World.rowIs_alloc w #[.int .i64 r.x, .int .i64 r.y, .int .i64 r.px, .int .i64 r.py, .int .i64 r.wd, .int .i64 r.ht, .int .i64 r.ms, .int .i64 r.rr] t (fld r) (fun i hi => by
  match i, hi with
  | 0, _ => rfl
  | 1, _ => rfl
  | 2, _ => rfl
  | 3, _ => rfl
  | 4, _ => rfl
  | 5, _ => rfl
  | 6, _ => rfl
  | 7, _ => rfl)
structure Four (W : World) (N : Nat) (a b : R8) : Prop where
 a : W.rowIs N 34 8 (fld a)
 b : W.rowIs (N + 1) 34 8 (fld b)
 x : W.rowIs (N + 1 + 1) 34 8 (fld ⟨0, 0, 0, 0, 0, 0, 0, 0⟩)
 y : W.rowIs (N + 1 + 1 + 1) 34 8 (fld ⟨0, 0, 0, 0, 0, 0, 0, 0⟩)
theorem Four.below {W W' : World} {N : Nat} {a b : R8} (h : Four W N a b) (hb : Below W.heap.size W W') : Four W' N a b :=
 ⟨h.a.of_block (hb.block _ h.a.lt), h.b.of_block (hb.block _ h.b.lt), h.x.of_block (hb.block _ h.x.lt), h.y.of_block (hb.block _ h.y.lt)⟩
theorem Four.made (w : World) (a b : R8) : Four ((((w.alloc (.cells #[.int .i64 a.x, .int .i64 a.y, .int .i64 a.px, .int .i64 a.py, .int .i64 a.wd, .int .i64 a.ht, .int .i64 a.ms, .int .i64 a.rr] 34)).alloc (.cells #[.int .i64 b.x, .int .i64 b.y, .int .i64 b.px, .int .i64 b.py, .int .i64 b.wd, .int .i64 b.ht, .int .i64 b.ms, .int .i64 b.rr] 34)).alloc (.cells #[.int .i64 0, .int .i64 0, .int .i64 0, .int .i64 0, .int .i64 0, .int .i64 0, .int .i64 0, .int .i64 0] 34)).alloc (.cells #[.int .i64 0, .int .i64 0, .int .i64 0, .int .i64 0, .int .i64 0, .int .i64 0, .int .i64 0, .int .i64 0] 34)) w.heap.size a b := by
 refine ⟨(((rowIs8 w a _).alloc _).alloc _).alloc _, ?_, ?_, ?_⟩
 ·have := rowIs8 (w.alloc (.cells #[.int .i64 a.x, .int .i64 a.y, .int .i64 a.px, .int .i64 a.py, .int .i64 a.wd, .int .i64 a.ht, .int .i64 a.ms, .int .i64 a.rr] 34)) b 34
  rw [World.size_alloc] at this
  exact (this.alloc _).alloc _
 ·have := rowIs8 ((w.alloc (.cells #[.int .i64 a.x, .int .i64 a.y, .int .i64 a.px, .int .i64 a.py, .int .i64 a.wd, .int .i64 a.ht, .int .i64 a.ms, .int .i64 a.rr] 34)).alloc (.cells #[.int .i64 b.x, .int .i64 b.y, .int .i64 b.px, .int .i64 b.py, .int .i64 b.wd, .int .i64 b.ht, .int .i64 b.ms, .int .i64 b.rr] 34)) ⟨0, 0, 0, 0, 0, 0, 0, 0⟩ 34
  rw [World.size_alloc, World.size_alloc] at this
  exact this.alloc _
 ·have := rowIs8 (((w.alloc (.cells #[.int .i64 a.x, .int .i64 a.y, .int .i64 a.px, .int .i64 a.py, .int .i64 a.wd, .int .i64 a.ht, .int .i64 a.ms, .int .i64 a.rr] 34)).alloc (.cells #[.int .i64 b.x, .int .i64 b.y, .int .i64 b.px, .int .i64 b.py, .int .i64 b.wd, .int .i64 b.ht, .int .i64 b.ms, .int .i64 b.rr] 34)).alloc (.cells #[.int .i64 0, .int .i64 0, .int .i64 0, .int .i64 0, .int .i64 0, .int .i64 0, .int .i64 0, .int .i64 0] 34)) ⟨0, 0, 0, 0, 0, 0, 0, 0⟩ 34
  rw [World.size_alloc, World.size_alloc, World.size_alloc] at this
  exact this
theorem good_no (a : R8) (h : goodB a = false) (w : World) :
  Calls Tryz.prog 143 #[rowV a] w fun e w' => e = .returned (.bool false) ∧ Below w.heap.size w w' := by
 have := good_any a w
 rw [h] at this
 exact this
theorem good_yes (a : R8) (h : goodB a = true) (w : World) :
  Calls Tryz.prog 143 #[rowV a] w fun e w' => e = .returned (.bool true) ∧ Below w.heap.size w w' := by
 have := good_any a w
 rw [h] at this
 exact this
set_option maxHeartbeats 4000000 in
theorem meet_no1 (a b : R8) (h : goodB a = false) (w : World) :
  Calls Tryz.prog 117 #[rowV a, rowV b] w fun e w' => e = .returned (retV a b false) ∧ Below w.heap.size w w' := by
 have c1 := good_no a h
 obtain ⟨x, y, px, py, wd, ht, ms, rr⟩ := a
 obtain ⟨x', y', px', py', wd', ht', ms', rr'⟩ := b
 unfold retV
 unfold rowV at *
 go_enter Tryz.func117, Tryz.ntmps117
 go_wp2_with fail
 refine (c1 _).mono ?_
 rintro e w1 ⟨rfl, hb⟩
 obtain ⟨hc, hf⟩ := bcell hb
 have hz := hb.size
 simp at hz
 have h0 : Hid (Below w.heap.size w w1) := bcall (bal (bal (bal (bal (Below.refl _ _) _) _) _) _) hb
 clear hb
 go_wp2
 go_region
 go_wp2
 refine bodyPost_ret (by simp [results, Tryz.results117, go_sem, hc]) rfl ⟨rfl, ?_⟩
 refine Below.drew ?_
 iterate 16 refine Below.setCell ?_ (by simp; omega) _
 exact h0.out
set_option maxHeartbeats 4000000 in
theorem meet_no2 (a b : R8) (h : goodB a = true) (h' : goodB b = false) (w : World) :
  Calls Tryz.prog 117 #[rowV a, rowV b] w fun e w' => e = .returned (retV a b false) ∧ Below w.heap.size w w' := by
 have c1 := good_yes a h
 have c2 := good_no b h'
 obtain ⟨x, y, px, py, wd, ht, ms, rr⟩ := a
 obtain ⟨x', y', px', py', wd', ht', ms', rr'⟩ := b
 unfold retV
 unfold rowV at *
 go_enter Tryz.func117, Tryz.ntmps117
 go_wp2_with fail
 refine (c1 _).mono ?_
 rintro e w1 ⟨rfl, hb⟩
 obtain ⟨hc, hf⟩ := bcell hb
 have hz := hb.size
 simp at hz
 have h0 : Hid (Below w.heap.size w w1) := bcall (bal (bal (bal (bal (Below.refl _ _) _) _) _) _) hb
 clear hb
 go_wp2_with fail
 refine (c2 _).mono ?_
 rintro e w2 ⟨rfl, hb⟩
 obtain ⟨hc', hf'⟩ := bcell hb
 replace hc : ∀ b o, b < w.heap.size + 1 + 1 + 1 + 1 → w2.cell? ⟨b, o, none⟩ = _ := fun b o hl => (hc' b o (by omega)).trans (hc b o (by simpa using hl))
 replace hf : ∀ b o, b < w.heap.size + 1 + 1 + 1 + 1 → w2.frozen? ⟨b, o, none⟩ = _ := fun b o hl => (hf' b o (by omega)).trans (hf b o (by simpa using hl))
 have hz' := hb.size
 replace hz := Nat.le_trans hz hz'
 replace h0 : Hid (Below w.heap.size w w2) := bcall h0.out hb
 clear hb hc' hf' hz'
 go_wp2
 go_region
 go_wp2
 refine bodyPost_ret (by simp [results, Tryz.results117, go_sem, hc]) rfl ⟨rfl, ?_⟩
 refine Below.drew ?_
 iterate 16 refine Below.setCell ?_ (by simp; omega) _
 exact h0.out
end
section
open Go.ChangeShapes Go.WideShapes Go.ChangeAt Go.RowKit
open Num
set_option maxHeartbeats 4000000 in
theorem meet_no3 (a b : R8) (ga : GoodP a) (gb : GoodP b) (hd : depthOf a.x b.x a.wd b.wd < 1) (w : World) :
  Calls Tryz.prog 117 #[rowV a, rowV b] w fun e w' => e = .returned (retV a b false) ∧ Below w.heap.size w w' := by
 have c1 := good_yes a ((goodB_iff a).2 ga)
 have c2 := good_yes b ((goodB_iff b).2 gb)
 have c3 := depth_any a b ga gb
 obtain ⟨x, y, px, py, wd, ht, ms, rr⟩ := a
 obtain ⟨x', y', px', py', wd', ht', ms', rr'⟩ := b
 clear ga gb
 simp only at *
 unfold retV
 unfold rowV at *
 go_enter Tryz.func117, Tryz.ntmps117
 go_wp2_with fail
 refine (c1 _).mono ?_
 rintro e w1 ⟨rfl, hb⟩
 obtain ⟨hc, hf⟩ := bcell hb
 have hz := hb.size
 simp at hz
 have h0 : Hid (Below w.heap.size w w1) := bcall (bal (bal (bal (bal (Below.refl _ _) _) _) _) _) hb
 clear hb
 go_wp2_with fail
 refine (c2 _).mono ?_
 rintro e w2 ⟨rfl, hb⟩
 obtain ⟨hc', hf'⟩ := bcell hb
 replace hc : ∀ b o, b < w.heap.size + 1 + 1 + 1 + 1 → w2.cell? ⟨b, o, none⟩ = _ := fun b o hl => (hc' b o (by omega)).trans (hc b o (by simpa using hl))
 replace hf : ∀ b o, b < w.heap.size + 1 + 1 + 1 + 1 → w2.frozen? ⟨b, o, none⟩ = _ := fun b o hl => (hf' b o (by omega)).trans (hf b o (by simpa using hl))
 have hz' := hb.size
 replace hz := Nat.le_trans hz hz'
 replace h0 : Hid (Below w.heap.size w w2) := bcall h0.out hb
 clear hb hc' hf' hz'
 go_wp2_with fail
 refine (c3 _).mono ?_
 rintro e w3 ⟨rfl, hb⟩
 obtain ⟨hc', hf'⟩ := bcell hb
 replace hc : ∀ b o, b < w.heap.size + 1 + 1 + 1 + 1 → w3.cell? ⟨b, o, none⟩ = _ := fun b o hl => (hc' b o (by omega)).trans (hc b o (by simpa using hl))
 replace hf : ∀ b o, b < w.heap.size + 1 + 1 + 1 + 1 → w3.frozen? ⟨b, o, none⟩ = _ := fun b o hl => (hf' b o (by omega)).trans (hf b o (by simpa using hl))
 have hz' := hb.size
 replace hz := Nat.le_trans hz hz'
 replace h0 : Hid (Below w.heap.size w w3) := bcall h0.out hb
 clear hb hc' hf' hz'
 go_wp2
 go_region
 go_wp2
 refine bodyPost_ret (by simp [results, Tryz.results117, go_sem, hc]) rfl ⟨rfl, ?_⟩
 refine Below.drew ?_
 iterate 16 refine Below.setCell ?_ (by simp; omega) _
 exact h0.out
set_option maxHeartbeats 4000000 in
theorem meet_no4 (a b : R8) (ga : GoodP a) (gb : GoodP b) (hx : 1 ≤ depthOf a.x b.x a.wd b.wd) (hd : depthOf a.y b.y a.ht b.ht < 1) (w : World) :
  Calls Tryz.prog 117 #[rowV a, rowV b] w fun e w' => e = .returned (retV a b false) ∧ Below w.heap.size w w' := by
 have c1 := good_yes a ((goodB_iff a).2 ga)
 have c2 := good_yes b ((goodB_iff b).2 gb)
 have c3 := depth_any a b ga gb
 obtain ⟨x, y, px, py, wd, ht, ms, rr⟩ := a
 obtain ⟨x', y', px', py', wd', ht', ms', rr'⟩ := b
 clear ga gb
 simp only at *
 unfold retV
 unfold rowV at *
 go_enter Tryz.func117, Tryz.ntmps117
 go_wp2_with fail
 refine (c1 _).mono ?_
 rintro e w1 ⟨rfl, hb⟩
 obtain ⟨hc, hf⟩ := bcell hb
 have hz := hb.size
 simp at hz
 have h0 : Hid (Below w.heap.size w w1) := bcall (bal (bal (bal (bal (Below.refl _ _) _) _) _) _) hb
 clear hb
 go_wp2_with fail
 refine (c2 _).mono ?_
 rintro e w2 ⟨rfl, hb⟩
 obtain ⟨hc', hf'⟩ := bcell hb
 replace hc : ∀ b o, b < w.heap.size + 1 + 1 + 1 + 1 → w2.cell? ⟨b, o, none⟩ = _ := fun b o hl => (hc' b o (by omega)).trans (hc b o (by simpa using hl))
 replace hf : ∀ b o, b < w.heap.size + 1 + 1 + 1 + 1 → w2.frozen? ⟨b, o, none⟩ = _ := fun b o hl => (hf' b o (by omega)).trans (hf b o (by simpa using hl))
 have hz' := hb.size
 replace hz := Nat.le_trans hz hz'
 replace h0 : Hid (Below w.heap.size w w2) := bcall h0.out hb
 clear hb hc' hf' hz'
 go_wp2_with fail
 refine (c3 _).mono ?_
 rintro e w3 ⟨rfl, hb⟩
 obtain ⟨hc', hf'⟩ := bcell hb
 replace hc : ∀ b o, b < w.heap.size + 1 + 1 + 1 + 1 → w3.cell? ⟨b, o, none⟩ = _ := fun b o hl => (hc' b o (by omega)).trans (hc b o (by simpa using hl))
 replace hf : ∀ b o, b < w.heap.size + 1 + 1 + 1 + 1 → w3.frozen? ⟨b, o, none⟩ = _ := fun b o hl => (hf' b o (by omega)).trans (hf b o (by simpa using hl))
 have hz' := hb.size
 replace hz := Nat.le_trans hz hz'
 replace h0 : Hid (Below w.heap.size w w3) := bcall h0.out hb
 clear hb hc' hf' hz'
 go_wp2
 go_region
 go_wp2
 refine bodyPost_ret (by simp [results, Tryz.results117, go_sem, hc]) rfl ⟨rfl, ?_⟩
 refine Below.drew ?_
 iterate 16 refine Below.setCell ?_ (by simp; omega) _
 exact h0.out
set_option maxHeartbeats 4000000 in
theorem meet_fix (a b : R8) (ga : GoodP a) (gb : GoodP b) (hx : 1 ≤ depthOf a.x b.x a.wd b.wd) (hy : 1 ≤ depthOf a.y b.y a.ht b.ht) (fa : a.ms = 0) (fb : b.ms = 0) (w : World) :
  Calls Tryz.prog 117 #[rowV a, rowV b] w fun e w' => e = .returned (retV a b true) ∧ Below w.heap.size w w' := by
 have c1 := good_yes a ((goodB_iff a).2 ga)
 have c2 := good_yes b ((goodB_iff b).2 gb)
 have c3 := depth_any a b ga gb
 have c4 : ∀ w, Calls Tryz.prog 145 #[rowV a] w fun e w' => e = .returned (.bool true) ∧ Below w.heap.size w w' := fun w => by
  have := fixed_any a w
  rwa [show (a.ms == 0) = true from by simp [fa]] at this
 have c5 : ∀ w, Calls Tryz.prog 145 #[rowV b] w fun e w' => e = .returned (.bool true) ∧ Below w.heap.size w w' := fun w => by
  have := fixed_any b w
  rwa [show (b.ms == 0) = true from by simp [fb]] at this
 obtain ⟨x, y, px, py, wd, ht, ms, rr⟩ := a
 obtain ⟨x', y', px', py', wd', ht', ms', rr'⟩ := b
 clear ga gb fa fb
 simp only at *
 unfold retV
 unfold rowV at *
 go_enter Tryz.func117, Tryz.ntmps117
 go_wp2_with fail
 refine (c1 _).mono ?_
 rintro e w1 ⟨rfl, hb⟩
 obtain ⟨hc, hf⟩ := bcell hb
 have hz := hb.size
 simp at hz
 have h0 : Hid (Below w.heap.size w w1) := bcall (bal (bal (bal (bal (Below.refl _ _) _) _) _) _) hb
 clear hb
 go_wp2_with fail
 refine (c2 _).mono ?_
 rintro e w2 ⟨rfl, hb⟩
 obtain ⟨hc', hf'⟩ := bcell hb
 replace hc : ∀ b o, b < w.heap.size + 1 + 1 + 1 + 1 → w2.cell? ⟨b, o, none⟩ = _ := fun b o hl => (hc' b o (by omega)).trans (hc b o (by simpa using hl))
 replace hf : ∀ b o, b < w.heap.size + 1 + 1 + 1 + 1 → w2.frozen? ⟨b, o, none⟩ = _ := fun b o hl => (hf' b o (by omega)).trans (hf b o (by simpa using hl))
 have hz' := hb.size
 replace hz := Nat.le_trans hz hz'
 replace h0 : Hid (Below w.heap.size w w2) := bcall h0.out hb
 clear hb hc' hf' hz'
 go_wp2_with fail
 refine (c3 _).mono ?_
 rintro e w3 ⟨rfl, hb⟩
 obtain ⟨hc', hf'⟩ := bcell hb
 replace hc : ∀ b o, b < w.heap.size + 1 + 1 + 1 + 1 → w3.cell? ⟨b, o, none⟩ = _ := fun b o hl => (hc' b o (by omega)).trans (hc b o (by simpa using hl))
 replace hf : ∀ b o, b < w.heap.size + 1 + 1 + 1 + 1 → w3.frozen? ⟨b, o, none⟩ = _ := fun b o hl => (hf' b o (by omega)).trans (hf b o (by simpa using hl))
 have hz' := hb.size
 replace hz := Nat.le_trans hz hz'
 replace h0 : Hid (Below w.heap.size w w3) := bcall h0.out hb
 clear hb hc' hf' hz'
 go_wp2_with fail
 refine (c4 _).mono ?_
 rintro e w4 ⟨rfl, hb⟩
 obtain ⟨hc', hf'⟩ := bcell hb
 replace hc : ∀ b o, b < w.heap.size + 1 + 1 + 1 + 1 → w4.cell? ⟨b, o, none⟩ = _ := fun b o hl => (hc' b o (by omega)).trans (hc b o (by simpa using hl))
 replace hf : ∀ b o, b < w.heap.size + 1 + 1 + 1 + 1 → w4.frozen? ⟨b, o, none⟩ = _ := fun b o hl => (hf' b o (by omega)).trans (hf b o (by simpa using hl))
 have hz' := hb.size
 replace hz := Nat.le_trans hz hz'
 replace h0 : Hid (Below w.heap.size w w4) := bcall h0.out hb
 clear hb hc' hf' hz'
 go_wp2_with fail
 refine (c5 _).mono ?_
 rintro e w5 ⟨rfl, hb⟩
 obtain ⟨hc', hf'⟩ := bcell hb
 replace hc : ∀ b o, b < w.heap.size + 1 + 1 + 1 + 1 → w5.cell? ⟨b, o, none⟩ = _ := fun b o hl => (hc' b o (by omega)).trans (hc b o (by simpa using hl))
 replace hf : ∀ b o, b < w.heap.size + 1 + 1 + 1 + 1 → w5.frozen? ⟨b, o, none⟩ = _ := fun b o hl => (hf' b o (by omega)).trans (hf b o (by simpa using hl))
 have hz' := hb.size
 replace hz := Nat.le_trans hz hz'
 replace h0 : Hid (Below w.heap.size w w5) := bcall h0.out hb
 clear hb hc' hf' hz'
 go_wp2
 go_region
 go_wp2
 refine bodyPost_ret (by simp [results, Tryz.results117, go_sem, hc]) rfl ⟨rfl, ?_⟩
 refine Below.drew ?_
 iterate 16 refine Below.setCell ?_ (by simp; omega) _
 exact h0.out
theorem eight {W : World} {b : Nat} {t : TypeId} {f : Nat → Value} (h : W.rowIs b t 8 f) : W.cell? ⟨b, 0, none⟩ = some (f 0) ∧ W.cell? ⟨b, 1, none⟩ = some (f 1) ∧ W.cell? ⟨b, 2, none⟩ = some (f 2) ∧ W.cell? ⟨b, 3, none⟩ = some (f 3) ∧ W.cell? ⟨b, 4, none⟩ = some (f 4) ∧ W.cell? ⟨b, 5, none⟩ = some (f 5) ∧ W.cell? ⟨b, 6, none⟩ = some (f 6) ∧ W.cell? ⟨b, 7, none⟩ = some (f 7) :=
 ⟨h.cell (by omega), h.cell (by omega), h.cell (by omega), h.cell (by omega), h.cell (by omega), h.cell (by omega), h.cell (by omega), h.cell (by omega)⟩
end
end Go.Proofs.YtckkkdldljhehacGreat
