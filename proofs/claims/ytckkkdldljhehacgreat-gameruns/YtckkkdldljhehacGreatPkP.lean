/- Part of the proofs of GamePlays and GameRuns (package ninepinslaw): contracts of the functions that they call. -/
import Derived.Deep.DeepCutAuto
import Derived.Deep.RegionHeld3
import Derived.Test.YtckkkdldljhehacGreatPkA1
import Derived.Test.YtckkkdldljhehacGreatPkA2
namespace Go.Proofs.YtckkkdldljhehacGreat
section
open Go.ChangeShapes Go.WideShapes Go.ChangeAt Go.RowKit
open Num (wi ad pa)
namespace Num
def sg (x : Int) : Int := if x < 0 then -1 else 1
theorem ab_le (x m : Int) (h : -m ≤ x ∧ x ≤ m) : 0 ≤ ab x ∧ ab x ≤ m := by unfold ab; omega
theorem sg_or (x : Int) : sg x = 1 ∨ sg x = -1 := by unfold sg; split <;> simp
theorem sg_pos (x : Int) (h : ¬ x < 0) : sg x = 1 := by unfold sg; rw [if_neg h]
theorem sg_neg (x : Int) (h : x < 0) : sg x = -1 := by unfold sg; rw [if_pos h]
theorem sg_le (x : Int) : -1 ≤ sg x ∧ sg x ≤ 1 := by unfold sg; split <;> omega
theorem sg2_le (x y : Int) : -1 ≤ sg x * sg y ∧ sg x * sg y ≤ 1 := by rcases sg_or x with h | h <;> rcases sg_or y with g | g <;> rw [h, g] <;> decide
theorem sg3_or (x y z : Int) : sg x * sg y * sg z = 1 ∨ sg x * sg y * sg z = -1 := by rcases sg_or x with h | h <;> rcases sg_or y with g | g <;> rcases sg_or z with f | f <;> rw [h, g, f] <;> decide
theorem sg_ab (x : Int) : sg x * ab x = x := by unfold sg ab; split <;> omega
theorem turn3 (s t u x y z : Int) (hs : s = 1 ∨ s = -1) (ht : t = 1 ∨ t = -1) (hu : u = 1 ∨ u = -1) : s * t * u * (x * y).tdiv z = ((s * x) * (t * y)).tdiv (u * z) := by
 rcases hs with rfl | rfl <;> rcases ht with rfl | rfl <;> rcases hu with rfl | rfl <;> simp [Int.mul_neg, Int.neg_mul, Int.neg_tdiv]
theorem part_eq (n a b : Int) : sg n * sg a * sg b * (ab n * ab a / ab b) = (n * a).tdiv b := by
 rw [← Int.tdiv_eq_ediv_of_nonneg (Int.mul_nonneg (by unfold ab; omega) (by unfold ab; omega)), turn3 _ _ _ _ _ _ (sg_or n) (sg_or a) (sg_or b), sg_ab, sg_ab, sg_ab]
end Num
set_option maxHeartbeats 400000 in
theorem withinOf_any (n m : Int) (h0 : 0 ≤ m) (h1 : m ≤ 9223372036854775807) (w : World) :
  Calls Tryz.prog 87 #[.int .i64 n, .int .i64 m] w fun e w' => e = .returned (.int .i64 (wi n m)) ∧ w' = w := by
 by_cases h2 : m < n
 ·go_enter Tryz.func87, Tryz.ntmps87
  go_wp2
  all_goals
   go_ret
   exact ⟨ret_int (by unfold wi; omega), rfl⟩
 ·go_enter Tryz.func87, Tryz.ntmps87
  go_wp2
  all_goals
   go_ret
   exact ⟨ret_int (by unfold wi; omega), rfl⟩
set_option maxHeartbeats 400000 in
theorem addOf_any (a b m : Int) (h0 : 0 ≤ m) (h1 : m ≤ 9223372036854775807) (w : World) :
  Calls Tryz.prog 56 #[.int .i64 a, .int .i64 b, .int .i64 m] w fun e w' => e = .returned (.int .i64 (ad a b m)) ∧ w' = w := by
 by_cases hm : m ≤ 1099511627776
 ·have ha := Num.wi_le a m h0
  have hb := Num.wi_le b m h0
  go_enter Tryz.func56, Tryz.ntmps56
  go_wp2_with (go_at_call 87; refine (withinOf_any _ _ (by omega) (by omega) _).mono ?_; rintro e w' ⟨rfl, rfl⟩)
  all_goals
   go_ret
   exact ⟨ret_int (by unfold ad; rw [Int.min_eq_left hm]), rfl⟩
 ·have ha := Num.wi_le a 1099511627776 (by omega)
  have hb := Num.wi_le b 1099511627776 (by omega)
  go_enter Tryz.func56, Tryz.ntmps56
  go_wp2_with (go_at_call 87; refine (withinOf_any _ _ (by omega) (by omega) _).mono ?_; rintro e w' ⟨rfl, rfl⟩)
  all_goals
   go_ret
   exact ⟨ret_int (by unfold ad; rw [Int.min_eq_right (by omega)]), rfl⟩
set_option maxHeartbeats 400000 in
theorem refsize_any (x : Int) (h : -268435456 ≤ x ∧ x ≤ 268435456) (w : World) :
  Calls Tryz.prog 131 #[.int .i64 x] w fun e w' => e = .returned (.int .i64 (Num.ab x)) ∧ w' = w := by
 go_enter Tryz.func131, Tryz.ntmps131
 go_wp2
 all_goals
  go_ret
  exact ⟨ret_int (by unfold Num.ab; omega), rfl⟩
set_option maxHeartbeats 400000 in
theorem partOf_any (n a b : Int) (w : World) :
  Calls Tryz.prog 103 #[.int .i64 n, .int .i64 a, .int .i64 b] w fun e w' => e = .returned (.int .i64 (pa n a b)) ∧ w' = w := by
 have hn := Num.wi_le n 268435456 (by omega)
 have ha := Num.wi_le a 268435456 (by omega)
 have hw := Num.wi_le b 268435456 (by omega)
 by_cases hb : b = 0
 ·have hz := Num.wi_zero 268435456 (by omega)
  subst hb
  go_enter Tryz.func103, Tryz.ntmps103
  go_wp2_with (go_at_call 87; refine (withinOf_any _ _ (by omega) (by omega) _).mono ?_; rintro e w' ⟨rfl, rfl⟩)
  go_ret
  exact ⟨ret_int (by unfold pa; rw [if_pos rfl]), rfl⟩
 ·have hz := Num.wi_ne b 268435456 (by omega) hb
  have HE : pa n a b = Num.sg (wi n 268435456) * Num.sg (wi a 268435456) * Num.sg (wi b 268435456) * (Num.ab (wi n 268435456) * Num.ab (wi a 268435456) / Num.ab (wi b 268435456)) := by
   have := Num.part_eq (wi n 268435456) (wi a 268435456) (wi b 268435456)
   unfold pa; rw [if_neg hb, this]
  have HE' : Hid (pa n a b = Num.sg (wi n 268435456) * Num.sg (wi a 268435456) * Num.sg (wi b 268435456) * (Num.ab (wi n 268435456) * Num.ab (wi a 268435456) / Num.ab (wi b 268435456))) := HE
  clear HE
  have hpa := Num.pa_le n a b
  clear hb
  go_enter Tryz.func103, Tryz.ntmps103
  go_wp2_with (go_at_call 87; refine (withinOf_any _ _ (by omega) (by omega) _).mono ?_; rintro e w' ⟨rfl, rfl⟩)
  generalize wi n 268435456 = x at *
  generalize wi a 268435456 = y at *
  generalize wi b 268435456 = z at *
  have x0 : ∀ w : World, (Instr.index 179 (.agg #[.int .i64 x, .int .i64 y, .int .i64 z]) (.int .i64 0)).run Tryz.prog w = .ok (.int .i64 x) w := fun _ => by kernel_rfl
  have x1 : ∀ w : World, (Instr.index 179 (.agg #[.int .i64 x, .int .i64 y, .int .i64 z]) (.int .i64 1)).run Tryz.prog w = .ok (.int .i64 y) w := fun _ => by kernel_rfl
  have x2 : ∀ w : World, (Instr.index 179 (.agg #[.int .i64 x, .int .i64 y, .int .i64 z]) (.int .i64 2)).run Tryz.prog w = .ok (.int .i64 z) w := fun _ => by kernel_rfl
  go_loop [7, 23] (fun s i => (i = .int .i64 0 ∧ s = .int .i64 1) ∨ (i = .int .i64 1 ∧ s = .int .i64 (Num.sg x)) ∨ (i = .int .i64 2 ∧ s = .int .i64 (Num.sg x * Num.sg y)) ∨ (i = .int .i64 3 ∧ s = .int .i64 (Num.sg x * Num.sg y * Num.sg z))) (fun _ i => (3 - intOf i).toNat)
  case atStart => exact .inl ⟨rfl, rfl⟩
  case round =>
   have hs1 := Num.sg_le x
   have hs2 := Num.sg2_le x y
   rcases hrel with ⟨rfl, rfl⟩ | ⟨rfl, rfl⟩ | ⟨rfl, rfl⟩ | ⟨rfl, rfl⟩
   ·by_cases hx : x < 0
    ·go_wp2
     go_round
     case rel => exact .inr (.inl ⟨rfl, by rw [Num.sg_neg x hx]⟩)
     case measure => simp [intOf]
    ·go_wp2
     go_round
     case rel => exact .inr (.inl ⟨rfl, by rw [Num.sg_pos x (by omega)]⟩)
     case measure => simp [intOf]
   ·by_cases hx : y < 0
    ·go_wp2
     go_round
     case rel => exact .inr (.inr (.inl ⟨rfl, by rw [Num.sg_neg y hx]; go_num⟩))
     case measure => simp [intOf]
    ·go_wp2
     go_round
     case rel => exact .inr (.inr (.inl ⟨rfl, by rw [Num.sg_pos y (by omega)]; go_num⟩))
     case measure => simp [intOf]
   ·by_cases hx : z < 0
    ·go_wp2
     go_round
     case rel => exact .inr (.inr (.inr ⟨rfl, by rw [Num.sg_neg z hx]; go_num⟩))
     case measure => simp [intOf]
    ·go_wp2
     go_round
     case rel => exact .inr (.inr (.inr ⟨rfl, by rw [Num.sg_pos z (by omega)]; go_num⟩))
     case measure => simp [intOf]
   ·have hor := Num.sg3_or x y z
    have hx := Num.ab_le x _ hn
    have hy := Num.ab_le y _ ha
    have hzz := Num.ab_le z _ hw
    have hz1 : 0 < Num.ab z := by unfold Num.ab; omega
    have hxy := Num.mul_le (Num.ab x) (Num.ab y) 268435456 (by omega) (by omega)
    have hq := Int.ediv_le_self (Num.ab z) (Int.mul_nonneg hx.1 hy.1)
    have hq0 := Int.ediv_nonneg (Int.mul_nonneg hx.1 hy.1) hzz.1
    have hp0 := Int.mul_nonneg hx.1 hy.1
    rw [show (268435456 : Int) * 268435456 = 72057594037927936 from by decide] at hxy
    generalize Num.sg x * Num.sg y * Num.sg z = sn at *
    rcases hor with rfl | rfl
    ·go_wp2_with (go_at_call 131; refine (refsize_any _ (by omega) _).mono ?_; rintro e w' ⟨rfl, rfl⟩)
     go_ret
     exact ⟨ret_int (by rw [HE'.out]; omega), rfl⟩
    ·go_wp2_with (go_at_call 131; refine (refsize_any _ (by omega) _).mono ?_; rintro e w' ⟨rfl, rfl⟩)
     go_ret
     exact ⟨ret_int (by rw [HE'.out]; omega), rfl⟩
end
section
open Go.ChangeShapes Go.WideShapes Go.ChangeAt Go.RowKit
open Num
set_option maxHeartbeats 1000000 in
theorem wallOf_any (at' push half wide back : Int) (h2 : -268435456 ≤ push ∧ push ≤ 268435456) (h3 : -268435456 ≤ half ∧ half ≤ 268435456) (h4 : -268435456 ≤ wide ∧ wide ≤ 268435456) (w : World) :
  Calls Tryz.prog 84 #[.int .i64 at', .int .i64 push, .int .i64 half, .int .i64 wide, .int .i64 back] w fun e w' => e = .returned (.tuple #[.int .i64 (wallAt at' half wide), .int .i64 (wallPush at' push half wide back)]) ∧ w' = w := by
 have k := left_le push back h2
 have k1 : 0 ≤ ab push ∧ ab push ≤ 268435456 := by unfold ab; omega
 have hs : (0 ≤ push ∧ ab push = push) ∨ (push < 0 ∧ ab push = -push) := by unfold ab; omega
 have hf : (wide - half < half) ∨ (half ≤ wide - half) := by omega
 unfold wallAt wallPush
 rcases hs with ⟨s1, s2⟩ | ⟨s1, s2⟩ <;> rw [s2] at k k1 ⊢ <;> rcases hf with hf | hf
 all_goals
  by_cases c1 : at' < half
  ·rw [if_pos c1, if_pos c1]
   clear s2
   go_enter Tryz.func84, Tryz.ntmps84
   go_wp2_with (first | (go_at_call 87; refine (withinOf_any _ _ (by omega) (by omega) _).mono ?_; rintro e w' ⟨rfl, rfl⟩) | (go_at_call 103; refine (partOf_any _ _ _ _).mono ?_; rintro e w' ⟨rfl, rfl⟩))
   exact bodyPost_ret (by simp [results, Tryz.results84, go_sem] <;> first | exact ⟨rfl, rfl⟩ | rfl) rfl ⟨rfl, rfl⟩
  rw [if_neg c1, if_neg c1]
  by_cases c2 : max (wide - half) half < at'
  ·rw [if_pos c2, if_pos c2]
   clear s2
   go_enter Tryz.func84, Tryz.ntmps84
   go_wp2_with (first | (go_at_call 87; refine (withinOf_any _ _ (by omega) (by omega) _).mono ?_; rintro e w' ⟨rfl, rfl⟩) | (go_at_call 103; refine (partOf_any _ _ _ _).mono ?_; rintro e w' ⟨rfl, rfl⟩))
   exact bodyPost_ret (by simp [results, Tryz.results84, go_sem] <;> first | exact ⟨rfl, rfl⟩ | rfl) rfl ⟨ret2 (by omega) rfl, rfl⟩
  ·rw [if_neg c2, if_neg c2]
   clear s2
   go_enter Tryz.func84, Tryz.ntmps84
   go_wp2_with (first | (go_at_call 87; refine (withinOf_any _ _ (by omega) (by omega) _).mono ?_; rintro e w' ⟨rfl, rfl⟩) | (go_at_call 103; refine (partOf_any _ _ _ _).mono ?_; rintro e w' ⟨rfl, rfl⟩))
   exact bodyPost_ret (by simp [results, Tryz.results84, go_sem] <;> first | exact ⟨rfl, rfl⟩ | rfl) rfl ⟨rfl, rfl⟩
end
section
open Go.ChangeShapes Go.WideShapes Go.ChangeAt Go.RowKit
open Num
theorem refwithin_any (n a b : Int) (w : World) :
  Calls Tryz.prog 47 #[.int .i64 n, .int .i64 a, .int .i64 b] w fun e w' => e = .returned (.bool (btw n a b)) ∧ w' = w := by
 go_enter Tryz.func47, Tryz.ntmps47
 go_wp2
 all_goals
  go_ret
  exact ⟨ret_bool (by simp [btw]; omega), rfl⟩
set_option maxHeartbeats 2000000 in
theorem isBody_any (a : R8) (w : World) :
  Calls Tryz.prog 105 #[rowV a] w fun e w' => e = .returned (.bool (goodB a)) ∧ Below w.heap.size w w' := by
 obtain ⟨x, y, px, py, wd, ht, ms, rr⟩ := a
 unfold rowV
 go_enter Tryz.func105, Tryz.ntmps105
 go_wp2_with (go_at_call 47; refine (refwithin_any _ _ _ _).mono ?_; rintro e w' ⟨rfl, rfl⟩)
 all_goals
  go_ret
  exact ⟨ret_bool (by simp_all [goodB] <;> rfl), bal (Below.refl _ _) _⟩
set_option maxHeartbeats 1000000 in
theorem speedOf_any (a : R8) (w : World) :
  Calls Tryz.prog 80 #[rowV a] w fun e w' => e = .returned (.tuple #[.int .i64 (spd a.px a.ms), .int .i64 (spd a.py a.ms)]) ∧ Below w.heap.size w w' := by
 obtain ⟨x, y, px, py, wd, ht, ms, rr⟩ := a
 unfold rowV spd
 go_enter Tryz.func80, Tryz.ntmps80
 go_wp2
 go_quiet (first | (go_at_call 103; exact Calls.quiet_of_same (partOf_any _ _ _ _)))
 go_wp2
 exact bodyPost_ret (by simp [results, Tryz.results80, go_sem] <;> first | exact ⟨rfl, rfl⟩ | rfl) rfl ⟨rfl, by repeat (first | exact Below.refl _ _ | refine Below.drew ?_ | refine bdrewN ?_ _ | refine bal ?_ _)⟩
theorem ab_pos {x : Int} (h : -x ≤ x) : ab x = x := by unfold ab; omega
theorem ab_neg' {x : Int} (h : x < -x) : ab x = -x := by unfold ab; omega
set_option maxHeartbeats 2000000 in
theorem depthOf_any (a b : R8) (ga : GoodP a) (gb : GoodP b) (w : World) :
  Calls Tryz.prog 106 #[rowV a, rowV b] w fun e w' => e = .returned (.tuple #[.int .i64 (depthOf a.x b.x a.wd b.wd), .int .i64 (depthOf a.y b.y a.ht b.ht)]) ∧ Below w.heap.size w w' := by
 obtain ⟨x, y, px, py, wd, ht, ms, rr⟩ := a
 obtain ⟨x', y', px', py', wd', ht', ms', rr'⟩ := b
 obtain ⟨-, h1, h2, -, -, h3, h4, -, -⟩ := ga
 obtain ⟨-, h1', h2', -, -, h3', h4', -, -⟩ := gb
 simp only at h1 h2 h3 h4 h1' h2' h3' h4'
 unfold rowV depthOf
 have k1 : -(x - x') ≤ x - x' ∨ x - x' < -(x - x') := by omega
 have k2 : -(y - y') ≤ y - y' ∨ y - y' < -(y - y') := by omega
 rcases k1 with k1 | k1 <;> rcases k2 with k2 | k2 <;> first | rw [ab_pos k1] | rw [ab_neg' k1]
 all_goals first | rw [ab_pos k2] | rw [ab_neg' k2]
 all_goals
  go_enter Tryz.func106, Tryz.ntmps106
  go_wp2
  go_quiet (fail)
  go_wp2
  go_region
  go_wp2
  exact bodyPost_ret (by simp [results, Tryz.results106, go_sem] <;> first | exact ⟨rfl, rfl⟩ | rfl) rfl ⟨rfl, by repeat (first | exact Below.refl _ _ | refine Below.drew ?_ | refine bdrewN ?_ _ | refine bal ?_ _)⟩
end
section
open Go.ChangeShapes Go.WideShapes Go.ChangeAt Go.RowKit
open Num
theorem body_no (a : R8) (h : goodB a = false) (w : World) :
  Calls Tryz.prog 105 #[rowV a] w fun e w' => e = .returned (.bool false) ∧ Below w.heap.size w w' := by
 have := isBody_any a w
 rw [h] at this
 exact this
theorem body_yes (a : R8) (h : goodB a = true) (w : World) :
  Calls Tryz.prog 105 #[rowV a] w fun e w' => e = .returned (.bool true) ∧ Below w.heap.size w w' := by
 have := isBody_any a w
 rw [h] at this
 exact this
set_option maxRecDepth 10000 in
set_option maxHeartbeats 4000000 in
theorem rows_no1 (a b : R8) (h : goodB a = false) (w : World) :
  Calls Tryz.prog 83 #[rowV a, rowV b] w fun e w' => e = .returned (retV a b false) ∧ Below w.heap.size w w' := by
 have c1 := body_no a h
 obtain ⟨x, y, px, py, wd, ht, ms, rr⟩ := a
 obtain ⟨x', y', px', py', wd', ht', ms', rr'⟩ := b
 unfold retV
 unfold rowV at *
 go_enter Tryz.func83, Tryz.ntmps83
 go_wp2_with fail
 refine (c1 _).mono ?_
 rintro e w1 ⟨rfl, hb⟩
 obtain ⟨hc, hf⟩ := bcell hb
 have hz := hb.size
 simp at hz
 have h0 : Hid (Below w.heap.size w w1) := bcall (bal (bal (bal (bal (Below.refl _ _) _) _) _) _) hb
 clear hb
 go_wp2
 go_region
 go_wp2
 refine bodyPost_ret (by simp [results, Tryz.results83, go_sem, hc]) rfl ⟨rfl, ?_⟩
 refine Below.drew ?_
 iterate 16 refine Below.setCell ?_ (by simp; omega) _
 exact h0.out
set_option maxRecDepth 10000 in
set_option maxHeartbeats 4000000 in
theorem rows_no2 (a b : R8) (h : goodB a = true) (h' : goodB b = false) (w : World) :
  Calls Tryz.prog 83 #[rowV a, rowV b] w fun e w' => e = .returned (retV a b false) ∧ Below w.heap.size w w' := by
 have c1 := body_yes a h
 have c2 := body_no b h'
 obtain ⟨x, y, px, py, wd, ht, ms, rr⟩ := a
 obtain ⟨x', y', px', py', wd', ht', ms', rr'⟩ := b
 unfold retV
 unfold rowV at *
 go_enter Tryz.func83, Tryz.ntmps83
 go_wp2_with fail
 refine (c1 _).mono ?_
 rintro e w1 ⟨rfl, hb⟩
 obtain ⟨hc, hf⟩ := bcell hb
 have hz := hb.size
 simp at hz
 have h0 : Hid (Below w.heap.size w w1) := bcall (bal (bal (bal (bal (Below.refl _ _) _) _) _) _) hb
 clear hb
 go_wp2_with fail
 refine (c2 _).mono ?_
 rintro e w2 ⟨rfl, hb⟩
 obtain ⟨hc', hf'⟩ := bcell hb
 replace hc : ∀ b o, b < w.heap.size + 1 + 1 + 1 + 1 → w2.cell? ⟨b, o, none⟩ = _ := fun b o hl => (hc' b o (by omega)).trans (hc b o (by simpa using hl))
 replace hf : ∀ b o, b < w.heap.size + 1 + 1 + 1 + 1 → w2.frozen? ⟨b, o, none⟩ = _ := fun b o hl => (hf' b o (by omega)).trans (hf b o (by simpa using hl))
 have hz' := hb.size
 replace hz := Nat.le_trans hz hz'
 replace h0 : Hid (Below w.heap.size w w2) := bcall h0.out hb
 clear hb hc' hf' hz'
 go_wp2
 go_region
 go_wp2
 refine bodyPost_ret (by simp [results, Tryz.results83, go_sem, hc]) rfl ⟨rfl, ?_⟩
 refine Below.drew ?_
 iterate 16 refine Below.setCell ?_ (by simp; omega) _
 exact h0.out
set_option maxRecDepth 10000 in
set_option maxHeartbeats 4000000 in
theorem rows_no3 (a b : R8) (ga : GoodP a) (gb : GoodP b) (hd : depthOf a.x b.x a.wd b.wd < 1) (w : World) :
  Calls Tryz.prog 83 #[rowV a, rowV b] w fun e w' => e = .returned (retV a b false) ∧ Below w.heap.size w w' := by
 have c1 := body_yes a ((goodB_iff a).2 ga)
 have c2 := body_yes b ((goodB_iff b).2 gb)
 have c3 := depthOf_any a b ga gb
 obtain ⟨x, y, px, py, wd, ht, ms, rr⟩ := a
 obtain ⟨x', y', px', py', wd', ht', ms', rr'⟩ := b
 clear ga gb
 simp only at *
 unfold retV
 unfold rowV at *
 go_enter Tryz.func83, Tryz.ntmps83
 go_wp2_with fail
 refine (c1 _).mono ?_
 rintro e w1 ⟨rfl, hb⟩
 obtain ⟨hc, hf⟩ := bcell hb
 have hz := hb.size
 simp at hz
 have h0 : Hid (Below w.heap.size w w1) := bcall (bal (bal (bal (bal (Below.refl _ _) _) _) _) _) hb
 clear hb
 go_wp2_with fail
 refine (c2 _).mono ?_
 rintro e w2 ⟨rfl, hb⟩
 obtain ⟨hc', hf'⟩ := bcell hb
 replace hc : ∀ b o, b < w.heap.size + 1 + 1 + 1 + 1 → w2.cell? ⟨b, o, none⟩ = _ := fun b o hl => (hc' b o (by omega)).trans (hc b o (by simpa using hl))
 replace hf : ∀ b o, b < w.heap.size + 1 + 1 + 1 + 1 → w2.frozen? ⟨b, o, none⟩ = _ := fun b o hl => (hf' b o (by omega)).trans (hf b o (by simpa using hl))
 have hz' := hb.size
 replace hz := Nat.le_trans hz hz'
 replace h0 : Hid (Below w.heap.size w w2) := bcall h0.out hb
 clear hb hc' hf' hz'
 go_wp2_with fail
 refine (c3 _).mono ?_
 rintro e w3 ⟨rfl, hb⟩
 obtain ⟨hc', hf'⟩ := bcell hb
 replace hc : ∀ b o, b < w.heap.size + 1 + 1 + 1 + 1 → w3.cell? ⟨b, o, none⟩ = _ := fun b o hl => (hc' b o (by omega)).trans (hc b o (by simpa using hl))
 replace hf : ∀ b o, b < w.heap.size + 1 + 1 + 1 + 1 → w3.frozen? ⟨b, o, none⟩ = _ := fun b o hl => (hf' b o (by omega)).trans (hf b o (by simpa using hl))
 have hz' := hb.size
 replace hz := Nat.le_trans hz hz'
 replace h0 : Hid (Below w.heap.size w w3) := bcall h0.out hb
 clear hb hc' hf' hz'
 go_wp2
 go_region
 go_wp2
 refine bodyPost_ret (by simp [results, Tryz.results83, go_sem, hc]) rfl ⟨rfl, ?_⟩
 refine Below.drew ?_
 iterate 16 refine Below.setCell ?_ (by simp; omega) _
 exact h0.out
set_option maxRecDepth 10000 in
set_option maxHeartbeats 4000000 in
theorem rows_no4 (a b : R8) (ga : GoodP a) (gb : GoodP b) (hx : 1 ≤ depthOf a.x b.x a.wd b.wd) (hd : depthOf a.y b.y a.ht b.ht < 1) (w : World) :
  Calls Tryz.prog 83 #[rowV a, rowV b] w fun e w' => e = .returned (retV a b false) ∧ Below w.heap.size w w' := by
 have c1 := body_yes a ((goodB_iff a).2 ga)
 have c2 := body_yes b ((goodB_iff b).2 gb)
 have c3 := depthOf_any a b ga gb
 obtain ⟨x, y, px, py, wd, ht, ms, rr⟩ := a
 obtain ⟨x', y', px', py', wd', ht', ms', rr'⟩ := b
 clear ga gb
 simp only at *
 unfold retV
 unfold rowV at *
 go_enter Tryz.func83, Tryz.ntmps83
 go_wp2_with fail
 refine (c1 _).mono ?_
 rintro e w1 ⟨rfl, hb⟩
 obtain ⟨hc, hf⟩ := bcell hb
 have hz := hb.size
 simp at hz
 have h0 : Hid (Below w.heap.size w w1) := bcall (bal (bal (bal (bal (Below.refl _ _) _) _) _) _) hb
 clear hb
 go_wp2_with fail
 refine (c2 _).mono ?_
 rintro e w2 ⟨rfl, hb⟩
 obtain ⟨hc', hf'⟩ := bcell hb
 replace hc : ∀ b o, b < w.heap.size + 1 + 1 + 1 + 1 → w2.cell? ⟨b, o, none⟩ = _ := fun b o hl => (hc' b o (by omega)).trans (hc b o (by simpa using hl))
 replace hf : ∀ b o, b < w.heap.size + 1 + 1 + 1 + 1 → w2.frozen? ⟨b, o, none⟩ = _ := fun b o hl => (hf' b o (by omega)).trans (hf b o (by simpa using hl))
 have hz' := hb.size
 replace hz := Nat.le_trans hz hz'
 replace h0 : Hid (Below w.heap.size w w2) := bcall h0.out hb
 clear hb hc' hf' hz'
 go_wp2_with fail
 refine (c3 _).mono ?_
 rintro e w3 ⟨rfl, hb⟩
 obtain ⟨hc', hf'⟩ := bcell hb
 replace hc : ∀ b o, b < w.heap.size + 1 + 1 + 1 + 1 → w3.cell? ⟨b, o, none⟩ = _ := fun b o hl => (hc' b o (by omega)).trans (hc b o (by simpa using hl))
 replace hf : ∀ b o, b < w.heap.size + 1 + 1 + 1 + 1 → w3.frozen? ⟨b, o, none⟩ = _ := fun b o hl => (hf' b o (by omega)).trans (hf b o (by simpa using hl))
 have hz' := hb.size
 replace hz := Nat.le_trans hz hz'
 replace h0 : Hid (Below w.heap.size w w3) := bcall h0.out hb
 clear hb hc' hf' hz'
 go_wp2
 go_region
 go_wp2
 refine bodyPost_ret (by simp [results, Tryz.results83, go_sem, hc]) rfl ⟨rfl, ?_⟩
 refine Below.drew ?_
 iterate 16 refine Below.setCell ?_ (by simp; omega) _
 exact h0.out
set_option maxRecDepth 10000 in
set_option maxHeartbeats 4000000 in
theorem rows_fix (a b : R8) (ga : GoodP a) (gb : GoodP b) (hx : 1 ≤ depthOf a.x b.x a.wd b.wd) (hy : 1 ≤ depthOf a.y b.y a.ht b.ht) (fa : a.ms = 0) (fb : b.ms = 0) (w : World) :
  Calls Tryz.prog 83 #[rowV a, rowV b] w fun e w' => e = .returned (retV a b true) ∧ Below w.heap.size w w' := by
 have c1 := body_yes a ((goodB_iff a).2 ga)
 have c2 := body_yes b ((goodB_iff b).2 gb)
 have c3 := depthOf_any a b ga gb
 have es : (a.ms + b.ms == 0) = true := by simp [fa, fb]
 have g1 := ga.ms
 have g2 := gb.ms
 obtain ⟨x, y, px, py, wd, ht, ms, rr⟩ := a
 obtain ⟨x', y', px', py', wd', ht', ms', rr'⟩ := b
 clear ga gb fa fb
 simp only at *
 unfold retV
 unfold rowV at *
 go_enter Tryz.func83, Tryz.ntmps83
 go_wp2_with fail
 refine (c1 _).mono ?_
 rintro e w1 ⟨rfl, hb⟩
 obtain ⟨hc, hf⟩ := bcell hb
 have hz := hb.size
 simp at hz
 have h0 : Hid (Below w.heap.size w w1) := bcall (bal (bal (bal (bal (Below.refl _ _) _) _) _) _) hb
 clear hb
 go_wp2_with fail
 refine (c2 _).mono ?_
 rintro e w2 ⟨rfl, hb⟩
 obtain ⟨hc', hf'⟩ := bcell hb
 replace hc : ∀ b o, b < w.heap.size + 1 + 1 + 1 + 1 → w2.cell? ⟨b, o, none⟩ = _ := fun b o hl => (hc' b o (by omega)).trans (hc b o (by simpa using hl))
 replace hf : ∀ b o, b < w.heap.size + 1 + 1 + 1 + 1 → w2.frozen? ⟨b, o, none⟩ = _ := fun b o hl => (hf' b o (by omega)).trans (hf b o (by simpa using hl))
 have hz' := hb.size
 replace hz := Nat.le_trans hz hz'
 replace h0 : Hid (Below w.heap.size w w2) := bcall h0.out hb
 clear hb hc' hf' hz'
 go_wp2_with fail
 refine (c3 _).mono ?_
 rintro e w3 ⟨rfl, hb⟩
 obtain ⟨hc', hf'⟩ := bcell hb
 replace hc : ∀ b o, b < w.heap.size + 1 + 1 + 1 + 1 → w3.cell? ⟨b, o, none⟩ = _ := fun b o hl => (hc' b o (by omega)).trans (hc b o (by simpa using hl))
 replace hf : ∀ b o, b < w.heap.size + 1 + 1 + 1 + 1 → w3.frozen? ⟨b, o, none⟩ = _ := fun b o hl => (hf' b o (by omega)).trans (hf b o (by simpa using hl))
 have hz' := hb.size
 replace hz := Nat.le_trans hz hz'
 replace h0 : Hid (Below w.heap.size w w3) := bcall h0.out hb
 clear hb hc' hf' hz'
 go_wp2
 go_region
 go_wp2
 refine bodyPost_ret (by simp [results, Tryz.results83, go_sem, hc]) rfl ⟨rfl, ?_⟩
 refine Below.drew ?_
 iterate 16 refine Below.setCell ?_ (by simp; omega) _
 exact h0.out
end
section
open Go.ChangeShapes Go.WideShapes Go.ChangeAt Go.RowKit
open Num
set_option maxHeartbeats 2000000 in
theorem moveX_any (u p far kick way : Int) (g gw : Nat) (f : Nat → Value) (w : World) (hf : -8192 ≤ far ∧ far ≤ 8192) (hw : way = 1 ∨ way = -1)
  (r : w.rowIs g 34 8 f) (fi : f 0 = .int .i64 u) (fj : f 2 = .int .i64 p) (hc : w.cell? ⟨gw, 0, none⟩ = some (.int .i64 way)) :
  Calls Tryz.prog 107 #[.pointer (some ⟨g, 0, none⟩), .pointer (some ⟨g, 2, none⟩), .int .i64 far, .int .i64 kick, .pointer (some ⟨gw, 0, none⟩)] w
   fun e w' => e = .returned (.tuple #[]) ∧ w'.rowIs g 34 8 (fun k => if k = 2 then .int .i64 (ad p kick 16777216) else if k = 0 then .int .i64 (ad u (far * way) 1048576) else f k) ∧ Kept g g w w' := by
 have ci := r.cell (i := 0) (by omega)
 have qi := r.frozen 0
 have cj := r.cell (i := 2) (by omega)
 have lg := r.lt
 rw [fi] at ci
 rw [fj] at cj
 have R : Hid (w.rowIs g 34 8 f) := r
 have hm : -8192 ≤ far * way ∧ far * way ≤ 8192 := by rcases hw with rfl | rfl <;> omega
 clear r fi hw
 have R1 : Hid (((w.setCell ⟨g, 0, none⟩ (.int .i64 (ad u (far * way) 1048576))).drew).rowIs g 34 8 (fun k => if k = 0 then .int .i64 (ad u (far * way) 1048576) else f k)) := (R.out.set 0 _).drew
 have K1 : Hid (Kept g g w ((w.setCell ⟨g, 0, none⟩ (.int .i64 (ad u (far * way) 1048576))).drew)) := ((Kept.refl g g w).setA 0 _).trans (Kept.of (Below.drew (Below.refl _ _)))
 have FJ : Hid (f 2 = .int .i64 p) := fj
 clear fj
 go_enter Tryz.func107, Tryz.ntmps107
 go_wp2_with fail
 go_region_with (first | (go_at_call 56; refine (addOf_any _ _ _ (by decide) (by decide) _).mono ?_; rintro e w' ⟨rfl, rfl⟩))
 all_goals
  go_wp2_with fail
  generalize (w.setCell ⟨g, 0, none⟩ (.int .i64 (ad u (far * way) 1048576))).drew = W at *
  have qj := R1.out.frozen 2
  have cj' := R1.out.cell (i := 2) (by omega)
  simp only [show ¬ (2 : Nat) = 0 from by decide, if_false, FJ.out] at cj'
  clear ci qi cj hc
  refine (addOf_any p kick 16777216 (by decide) (by decide) _).mono ?_
  rintro e w' ⟨rfl, rfl⟩
  go_wp2
  exact bodyPost_end (by simp [results, Tryz.results107, go_sem]) rfl ⟨rfl, R1.out.set 2 _, K1.out.setA 2 _⟩
set_option maxHeartbeats 2000000 in
theorem moveY_any (u p far kick way : Int) (g gw : Nat) (f : Nat → Value) (w : World) (hf : -8192 ≤ far ∧ far ≤ 8192) (hw : way = 1 ∨ way = -1)
  (r : w.rowIs g 34 8 f) (fi : f 1 = .int .i64 u) (fj : f 3 = .int .i64 p) (hc : w.cell? ⟨gw, 0, none⟩ = some (.int .i64 way)) :
  Calls Tryz.prog 107 #[.pointer (some ⟨g, 1, none⟩), .pointer (some ⟨g, 3, none⟩), .int .i64 far, .int .i64 kick, .pointer (some ⟨gw, 0, none⟩)] w
   fun e w' => e = .returned (.tuple #[]) ∧ w'.rowIs g 34 8 (fun k => if k = 3 then .int .i64 (ad p kick 16777216) else if k = 1 then .int .i64 (ad u (far * way) 1048576) else f k) ∧ Kept g g w w' := by
 have ci := r.cell (i := 1) (by omega)
 have qi := r.frozen 1
 have cj := r.cell (i := 3) (by omega)
 have lg := r.lt
 rw [fi] at ci
 rw [fj] at cj
 have R : Hid (w.rowIs g 34 8 f) := r
 have hm : -8192 ≤ far * way ∧ far * way ≤ 8192 := by rcases hw with rfl | rfl <;> omega
 clear r fi hw
 have R1 : Hid (((w.setCell ⟨g, 1, none⟩ (.int .i64 (ad u (far * way) 1048576))).drew).rowIs g 34 8 (fun k => if k = 1 then .int .i64 (ad u (far * way) 1048576) else f k)) := (R.out.set 1 _).drew
 have K1 : Hid (Kept g g w ((w.setCell ⟨g, 1, none⟩ (.int .i64 (ad u (far * way) 1048576))).drew)) := ((Kept.refl g g w).setA 1 _).trans (Kept.of (Below.drew (Below.refl _ _)))
 have FJ : Hid (f 3 = .int .i64 p) := fj
 clear fj
 go_enter Tryz.func107, Tryz.ntmps107
 go_wp2_with fail
 go_region_with (first | (go_at_call 56; refine (addOf_any _ _ _ (by decide) (by decide) _).mono ?_; rintro e w' ⟨rfl, rfl⟩))
 all_goals
  go_wp2_with fail
  generalize (w.setCell ⟨g, 1, none⟩ (.int .i64 (ad u (far * way) 1048576))).drew = W at *
  have qj := R1.out.frozen 3
  have cj' := R1.out.cell (i := 3) (by omega)
  simp only [show ¬ (3 : Nat) = 1 from by decide, if_false, FJ.out] at cj'
  clear ci qi cj hc
  refine (addOf_any p kick 16777216 (by decide) (by decide) _).mono ?_
  rintro e w' ⟨rfl, rfl⟩
  go_wp2
  exact bodyPost_end (by simp [results, Tryz.results107, go_sem]) rfl ⟨rfl, R1.out.set 3 _, K1.out.setA 3 _⟩
end
section
open Go.ChangeShapes Go.WideShapes Go.ChangeAt Go.RowKit
open Num
structure Mid (w W : World) (gw g h : Nat) (way : Int) (a b p q : R8) : Prop where
 four : Four W w.heap.size a b
 rg : W.rowIs g 34 8 (fld p)
 rh : W.rowIs h 34 8 (fld q)
 cw : W.cell? ⟨gw, 0, none⟩ = some (.int .i64 way)
 lw : gw < W.heap.size
 bel : Below w.heap.size w W
 sep : g ≠ h ∧ gw ≠ g ∧ gw ≠ h ∧ w.heap.size + 1 + 1 + 1 < g ∧ w.heap.size + 1 + 1 + 1 < h
theorem Mid.drewN {w W : World} {gw g h : Nat} {way : Int} {a b p q : R8} (m : Mid w W gw g h way a b p q) (n : Nat) : Mid w (W.drewN n) gw g h way a b p q :=
 ⟨⟨m.four.a, m.four.b, m.four.x, m.four.y⟩, m.rg, m.rh, m.cw, m.lw, bdrewN m.bel n, m.sep⟩
theorem Mid.keptG {w W W' : World} {gw g h : Nat} {way : Int} {a b p q p' : R8} (m : Mid w W gw g h way a b p q) (k : Kept g g W W') (r : W'.rowIs g 34 8 (fld p')) : Mid w W' gw g h way a b p' q := by
 obtain ⟨s1, s2, s3, s4, s5⟩ := m.sep
 refine ⟨⟨m.four.a.of_block (k.block _ m.four.a.lt ?_ ?_), m.four.b.of_block (k.block _ m.four.b.lt ?_ ?_), m.four.x.of_block (k.block _ m.four.x.lt ?_ ?_), m.four.y.of_block (k.block _ m.four.y.lt ?_ ?_)⟩, r, m.rh.of_block (k.block _ m.rh.lt (Ne.symm s1) (Ne.symm s1)), (World.cell?_of_block (k.block gw m.lw s2 s2)).trans m.cw, Nat.lt_of_lt_of_le m.lw k.size, m.bel.trans (k.below ?_ ?_ m.bel.size), m.sep⟩
 all_goals omega
theorem Mid.keptH {w W W' : World} {gw g h : Nat} {way : Int} {a b p q q' : R8} (m : Mid w W gw g h way a b p q) (k : Kept h h W W') (r : W'.rowIs h 34 8 (fld q')) : Mid w W' gw g h way a b p q' := by
 obtain ⟨s1, s2, s3, s4, s5⟩ := m.sep
 refine ⟨⟨m.four.a.of_block (k.block _ m.four.a.lt ?_ ?_), m.four.b.of_block (k.block _ m.four.b.lt ?_ ?_), m.four.x.of_block (k.block _ m.four.x.lt ?_ ?_), m.four.y.of_block (k.block _ m.four.y.lt ?_ ?_)⟩, m.rg.of_block (k.block _ m.rg.lt s1 s1), r, (World.cell?_of_block (k.block gw m.lw s3 s3)).trans m.cw, Nat.lt_of_lt_of_le m.lw k.size, m.bel.trans (k.below ?_ ?_ m.bel.size), m.sep⟩
 all_goals omega
abbrev rc (r : R8) : Obj := .cells #[.int .i64 r.x, .int .i64 r.y, .int .i64 r.px, .int .i64 r.py, .int .i64 r.wd, .int .i64 r.ht, .int .i64 r.ms, .int .i64 r.rr] 34
theorem Mid.made1 {w W : World} {way : Int} {a b : R8} (f : Four W w.heap.size a b) (hb : Below w.heap.size w W) :
  Mid w (((W.alloc (.cells #[.int .i64 way] 3)).alloc (rc a)).alloc (rc b)) W.heap.size (W.heap.size + 1) (W.heap.size + 1 + 1) way a b a b := by
 have l4 := f.y.lt
 have r0 : (W.alloc (.cells #[.int .i64 way] 3)).rowIs W.heap.size 3 1 (fun _ => .int .i64 way) := World.rowIs_alloc W #[.int .i64 way] 3 (fun _ => .int .i64 way) (fun i hi => by
  match i, hi with
  | 0, _ => rfl)
 have r1 := rowIs8 (W.alloc (.cells #[.int .i64 way] 3)) a 34
 have r2 := rowIs8 ((W.alloc (.cells #[.int .i64 way] 3)).alloc (rc a)) b 34
 rw [World.size_alloc] at r1
 rw [World.size_alloc, World.size_alloc] at r2
 exact ⟨⟨((f.a.alloc _).alloc _).alloc _, ((f.b.alloc _).alloc _).alloc _, ((f.x.alloc _).alloc _).alloc _, ((f.y.alloc _).alloc _).alloc _⟩, r1.alloc _, r2, ((r0.alloc _).alloc _).cell (i := 0) (by omega), ((r0.alloc _).alloc _).lt, bal (bal (bal hb _) _) _, by omega⟩
theorem Mid.made2 {w W : World} {way : Int} {a b : R8} (f : Four W w.heap.size a b) (hb : Below w.heap.size w W) :
  Mid w (((W.alloc (.cells #[.int .i64 way] 3)).alloc (rc b)).alloc (rc a)) W.heap.size (W.heap.size + 1 + 1) (W.heap.size + 1) way a b a b := by
 have l4 := f.y.lt
 have r0 : (W.alloc (.cells #[.int .i64 way] 3)).rowIs W.heap.size 3 1 (fun _ => .int .i64 way) := World.rowIs_alloc W #[.int .i64 way] 3 (fun _ => .int .i64 way) (fun i hi => by
  match i, hi with
  | 0, _ => rfl)
 have r1 := rowIs8 (W.alloc (.cells #[.int .i64 way] 3)) b 34
 have r2 := rowIs8 ((W.alloc (.cells #[.int .i64 way] 3)).alloc (rc b)) a 34
 rw [World.size_alloc] at r1
 rw [World.size_alloc, World.size_alloc] at r2
 exact ⟨⟨((f.a.alloc _).alloc _).alloc _, ((f.b.alloc _).alloc _).alloc _, ((f.x.alloc _).alloc _).alloc _, ((f.y.alloc _).alloc _).alloc _⟩, r2, r1.alloc _, ((r0.alloc _).alloc _).cell (i := 0) (by omega), ((r0.alloc _).alloc _).lt, bal (bal (bal hb _) _) _, by omega⟩
def jOf (p q m n back way : Int) : Int := if nearOf p q m n way ≤ 0 then 0 else passed p q m n back way
theorem jOf_le (p q m n back way : Int) (hw : way = 1 ∨ way = -1) : -72057594037927936 ≤ jOf p q m n back way ∧ jOf p q m n back way ≤ 72057594037927936 := by
 have h := pa_le (nearOf p q m n way * timesOf m n) (256 + back) (sumOf m n * 256)
 unfold jOf passed; split
 ·omega
 ·rcases hw with rfl | rfl <;> omega
theorem pushA_j (p q m n back way : Int) (hp : -16777216 ≤ p ∧ p ≤ 16777216) (hm : m ≠ 0) : pushA p q m n back way = ad p (-(jOf p q m n back way)) 16777216 := by
 unfold pushA jOf
 by_cases h : nearOf p q m n way ≤ 0
 ·rw [if_pos (.inl h), if_pos h, Int.neg_zero, ad_zero _ _ hp (by omega)]
 ·rw [if_neg (by omega), if_neg h]
theorem pushB_j (p q m n back way : Int) (hq : -16777216 ≤ q ∧ q ≤ 16777216) (hn : n ≠ 0) : pushB p q m n back way = ad q (jOf p q m n back way) 16777216 := by
 unfold pushB jOf
 by_cases h : nearOf p q m n way ≤ 0
 ·rw [if_pos (.inl h), if_pos h, ad_zero _ _ hq (by omega)]
 ·rw [if_neg (by omega), if_neg h]
theorem atA_go (a m n d way g : Int) (h : shareOf m n d = g) : atA a m n d way = ad a (-g * way) 1048576 := by
 unfold atA; rw [h, Int.neg_mul, Int.neg_mul, Int.mul_comm]
theorem atB_go (b m n d way g : Int) (h : d - shareOf m n d = g) : atB b m n d way = ad b (g * way) 1048576 := by
 unfold atB; rw [h, Int.mul_comm]
theorem Four.cells {W : World} {N : Nat} {x y px py wd ht ms rr x' y' px' py' wd' ht' ms' rr' : Int} (h : Four W N ⟨x, y, px, py, wd, ht, ms, rr⟩ ⟨x', y', px', py', wd', ht', ms', rr'⟩) :
  W.cell? ⟨N, 0, none⟩ = some (.int .i64 x) ∧ W.cell? ⟨N, 1, none⟩ = some (.int .i64 y) ∧ W.cell? ⟨N, 2, none⟩ = some (.int .i64 px) ∧ W.cell? ⟨N, 3, none⟩ = some (.int .i64 py) ∧ W.cell? ⟨N, 4, none⟩ = some (.int .i64 wd) ∧ W.cell? ⟨N, 5, none⟩ = some (.int .i64 ht) ∧ W.cell? ⟨N, 6, none⟩ = some (.int .i64 ms) ∧ W.cell? ⟨N, 7, none⟩ = some (.int .i64 rr) ∧ W.cell? ⟨N + 1, 0, none⟩ = some (.int .i64 x') ∧ W.cell? ⟨N + 1, 1, none⟩ = some (.int .i64 y') ∧ W.cell? ⟨N + 1, 2, none⟩ = some (.int .i64 px') ∧ W.cell? ⟨N + 1, 3, none⟩ = some (.int .i64 py') ∧ W.cell? ⟨N + 1, 4, none⟩ = some (.int .i64 wd') ∧ W.cell? ⟨N + 1, 5, none⟩ = some (.int .i64 ht') ∧ W.cell? ⟨N + 1, 6, none⟩ = some (.int .i64 ms') ∧ W.cell? ⟨N + 1, 7, none⟩ = some (.int .i64 rr') :=
 ⟨h.a.cell (i := 0) (by omega), h.a.cell (i := 1) (by omega), h.a.cell (i := 2) (by omega), h.a.cell (i := 3) (by omega), h.a.cell (i := 4) (by omega), h.a.cell (i := 5) (by omega), h.a.cell (i := 6) (by omega), h.a.cell (i := 7) (by omega), h.b.cell (i := 0) (by omega), h.b.cell (i := 1) (by omega), h.b.cell (i := 2) (by omega), h.b.cell (i := 3) (by omega), h.b.cell (i := 4) (by omega), h.b.cell (i := 5) (by omega), h.b.cell (i := 6) (by omega), h.b.cell (i := 7) (by omega)⟩
theorem row_cells {W : World} {N : Nat} {x y px py wd ht ms rr : Int} (h : W.rowIs N 34 8 (fld ⟨x, y, px, py, wd, ht, ms, rr⟩)) :
  W.cell? ⟨N, 0, none⟩ = some (.int .i64 x) ∧ W.cell? ⟨N, 1, none⟩ = some (.int .i64 y) ∧ W.cell? ⟨N, 2, none⟩ = some (.int .i64 px) ∧ W.cell? ⟨N, 3, none⟩ = some (.int .i64 py) ∧ W.cell? ⟨N, 4, none⟩ = some (.int .i64 wd) ∧ W.cell? ⟨N, 5, none⟩ = some (.int .i64 ht) ∧ W.cell? ⟨N, 6, none⟩ = some (.int .i64 ms) ∧ W.cell? ⟨N, 7, none⟩ = some (.int .i64 rr) :=
 ⟨h.cell (i := 0) (by omega), h.cell (i := 1) (by omega), h.cell (i := 2) (by omega), h.cell (i := 3) (by omega), h.cell (i := 4) (by omega), h.cell (i := 5) (by omega), h.cell (i := 6) (by omega), h.cell (i := 7) (by omega)⟩
end
section
open Go.ChangeShapes Go.WideShapes Go.ChangeAt Go.RowKit
open Num
theorem rng {f g : Nat → Value} {n : Nat} (h : (List.range n).map f = (List.range n).map g) (i : Nat) (hi : i < n) : f i = g i := by
 have := congrArg (fun l => l[i]?) h
 simpa [hi] using this
theorem jl_of {way r r' R : Int} (hw : way = 1 ∨ way = -1) (_ : min r r' = R) (A C : Int) : -72057594037927936 ≤ way * pa A (256 + R) C ∧ way * pa A (256 + R) C ≤ 72057594037927936 := by
 have ql := pa_le A (256 + R) C
 rcases hw with e | e <;> rw [e] <;> omega
set_option maxRecDepth 10000 in
set_option maxHeartbeats 8000000 in
noncomputable def rowsT (a b : R8) (ga : GoodP a) (gb : GoodP b) (w : World) (hx : 1 ≤ depthOf a.x b.x a.wd b.wd) (hy : 1 ≤ depthOf a.y b.y a.ht b.ht) (es : (a.ms + b.ms == 0) = false) (PX : Ending → World → Prop) : { T : World → Prop // (∀ w5, Below w.heap.size w w5 → Four w5 w.heap.size a b → w.heap.size + 4 ≤ w5.heap.size → T w5) → Calls Tryz.prog 83 #[rowV a, rowV b] w PX } := by
 apply Subtype.mk
 ·intro hT
  have HT := (show Hid _ from hT)
  have c1 := body_yes a ((goodB_iff a).2 ga)
  have c2 := body_yes b ((goodB_iff b).2 gb)
  have c3 := depthOf_any a b ga gb
  have c4 := speedOf_any a
  have c5 := speedOf_any b
  have gms := ga.ms
  have gms' := gb.ms
  have s1 := spd_le a.px a.ms 16777216 (by omega) ga.px
  have s2 := spd_le a.py a.ms 16777216 (by omega) ga.py
  have s3 := spd_le b.px b.ms 16777216 (by omega) gb.px
  have s4 := spd_le b.py b.ms 16777216 (by omega) gb.py
  clear hT
  unfold rowV at *
  go_enter Tryz.func83, Tryz.ntmps83
  go_wp2_with fail
  refine (c1 _).mono ?_
  rintro e w1 ⟨rfl, hb⟩
  have hz := hb.size
  simp at hz
  have h0 : Hid (Below w.heap.size w w1) := bcall (bal (bal (bal (bal (Below.refl _ _) _) _) _) _) hb
  have h4 : Hid (Four w1 w.heap.size a b) := (Four.made w a b).below hb
  clear hb
  obtain ⟨a0, a1, a2, a3, a4, a5, a6, a7, b0, b1, b2, b3, b4, b5, b6, b7⟩ := h4.out.cells
  go_wp2_with fail
  refine (c2 _).mono ?_
  rintro e w2 ⟨rfl, hb⟩
  clear a0 a1 a2 a3 a4 a5 a6 a7 b0 b1 b2 b3 b4 b5 b6 b7
  replace hz := Nat.le_trans hz hb.size
  replace h0 : Hid (Below w.heap.size w w2) := bcall h0.out hb
  replace h4 : Hid (Four w2 w.heap.size a b) := h4.out.below hb
  clear hb
  obtain ⟨a0, a1, a2, a3, a4, a5, a6, a7, b0, b1, b2, b3, b4, b5, b6, b7⟩ := h4.out.cells
  go_wp2_with fail
  refine (c3 _).mono ?_
  rintro e w3 ⟨rfl, hb⟩
  clear a0 a1 a2 a3 a4 a5 a6 a7 b0 b1 b2 b3 b4 b5 b6 b7
  replace hz := Nat.le_trans hz hb.size
  replace h0 : Hid (Below w.heap.size w w3) := bcall h0.out hb
  replace h4 : Hid (Four w3 w.heap.size a b) := h4.out.below hb
  clear hb
  obtain ⟨a0, a1, a2, a3, a4, a5, a6, a7, b0, b1, b2, b3, b4, b5, b6, b7⟩ := h4.out.cells
  go_wp2_with fail
  refine (c4 _).mono ?_
  rintro e w4 ⟨rfl, hb⟩
  clear a0 a1 a2 a3 a4 a5 a6 a7 b0 b1 b2 b3 b4 b5 b6 b7
  replace hz := Nat.le_trans hz hb.size
  replace h0 : Hid (Below w.heap.size w w4) := bcall h0.out hb
  replace h4 : Hid (Four w4 w.heap.size a b) := h4.out.below hb
  clear hb
  obtain ⟨a0, a1, a2, a3, a4, a5, a6, a7, b0, b1, b2, b3, b4, b5, b6, b7⟩ := h4.out.cells
  go_wp2_with fail
  refine (c5 _).mono ?_
  rintro e w5 ⟨rfl, hb⟩
  clear a0 a1 a2 a3 a4 a5 a6 a7 b0 b1 b2 b3 b4 b5 b6 b7
  replace hz := Nat.le_trans hz hb.size
  replace h0 : Hid (Below w.heap.size w w5) := bcall h0.out hb
  replace h4 : Hid (Four w5 w.heap.size a b) := h4.out.below hb
  clear hb
  obtain ⟨a0, a1, a2, a3, a4, a5, a6, a7, b0, b1, b2, b3, b4, b5, b6, b7⟩ := h4.out.cells
  rename_i K1 k1 K2 k2
  revert K1 k1 K2 k2
  exact HT.out w5 h0.out h4.out (by omega)
end
end Go.Proofs.YtckkkdldljhehacGreat
