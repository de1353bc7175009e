/- Part of the proofs of GamePlays and GameRuns (package ninepinslaw): contracts of the functions that they call. -/
import Derived.Deep.DeepCutAuto
import Derived.Deep.RegionHeld3
import Derived.Test.YtckkkdldljhehacGreatPkP
import Derived.Test.YtckkkdldljhehacGreatPkP1
import Derived.Test.YtckkkdldljhehacGreatPkP2
namespace Go.Proofs.YtckkkdldljhehacGreat
section
open Go.ChangeShapes Go.WideShapes Go.ChangeAt Go.RowKit
open Num
set_option maxRecDepth 10000 in
set_option maxHeartbeats 8000000 in
theorem rowsY_fa (a b : R8) (ga : GoodP a) (gb : GoodP b) (hx : 1 ≤ depthOf a.x b.x a.wd b.wd) (hy : 1 ≤ depthOf a.y b.y a.ht b.ht) (hl : depthOf a.y b.y a.ht b.ht ≤ depthOf a.x b.x a.wd b.wd) (fa : a.ms = 0) (fb : b.ms ≠ 0) (w : World) :
  Calls Tryz.prog 83 #[rowV a, rowV b] w fun e w' => e = .returned (retV (metY a b).1 (metY a b).2 true) ∧ Below w.heap.size w w' := by
 have kd : depthOf a.x b.x a.wd b.wd ≤ 8192 := by have := ga.wd; have := gb.wd; unfold depthOf ab; omega
 have ke : depthOf a.y b.y a.ht b.ht ≤ 8192 := by have := ga.ht; have := gb.ht; unfold depthOf ab; omega
 have gA := ga
 have gB := gb
 obtain ⟨-, gx, gy, gpx, gpy, -, -, gms, grr⟩ := ga
 obtain ⟨-, gx', gy', gpx', gpy', -, -, gms', grr'⟩ := gb
 unfold retV metY
 simp only
 have hsh : shareOf a.ms b.ms (depthOf a.y b.y a.ht b.ht) = 0 := by unfold shareOf; rw [if_pos fa]
 rw [show atA a.y a.ms b.ms (depthOf a.y b.y a.ht b.ht) (wayOf a.y b.y) = a.y from by rw [fa]; exact atA_fix _ _ _ _ gy, show pushA a.py b.py a.ms b.ms (min a.rr b.rr) (wayOf a.y b.y) = a.py from by rw [fa]; exact pushA_fix _ _ _ _ _, atB_go b.y a.ms b.ms (depthOf a.y b.y a.ht b.ht) (wayOf a.y b.y) (depthOf a.y b.y a.ht b.ht) (by rw [hsh, Int.sub_zero]), pushB_j a.py b.py a.ms b.ms (min a.rr b.rr) (wayOf a.y b.y) gpy' fb]
 clear hsh
 have es : (a.ms + b.ms == 0) = false := by simp; omega
 have ea : (a.ms == 0) = true := by simp [fa]
 have eb : (b.ms == 0) = false := by simp [fb]
 have s1 := spd_le a.px a.ms 16777216 (by omega) gpx
 have s2 := spd_le a.py a.ms 16777216 (by omega) gpy
 have s3 := spd_le b.px b.ms 16777216 (by omega) gpx'
 have s4 := spd_le b.py b.ms 16777216 (by omega) gpy'
 have FX : Hid (a.ms = 0) := fa
 clear fa
 refine (rowsT a b gA gB w hx hy es _).2 ?_
 intro w5 hbel hf hz
 dsimp only [rowsT]
 intro K1 k1 K2 k2
 have h0 := (show Hid _ from hbel)
 have h4 := (show Hid _ from hf)
 clear hbel hf gA gB
 obtain ⟨a0, a1, a2, a3, a4, a5, a6, a7, b0, b1, b2, b3, b4, b5, b6, b7⟩ := h4.out.cells
 have n0 : w.heap.size < w5.heap.size := by omega
 have n1 : w.heap.size + 1 < w5.heap.size := by omega
 have n2 : w.heap.size < w5.heap.size + 1 := by omega
 have n3 : w.heap.size + 1 < w5.heap.size + 1 := by omega
 have n4 : w.heap.size < w5.heap.size + 1 + 1 := by omega
 have n5 : w.heap.size + 1 < w5.heap.size + 1 + 1 := by omega
 have hw1 := way_or a.y b.y
 have nl := near_le a.py b.py a.ms b.ms (wayOf a.y b.y) 16777216 (by omega) gpy gpy' hw1
 have tl := times_le a.ms b.ms gms gms'
 have sl := sum_le a.ms b.ms gms gms'
 have pl := mul_le' _ _ _ _ nl tl
 have et : timesOf a.ms b.ms = a.ms + b.ms := by have fx := FX.out; unfold timesOf; rw [if_pos (by omega)]
 have en : sumOf a.ms b.ms = 1 := by have fx := FX.out; unfold sumOf; rw [if_pos (by omega)]
 have mm := mul_le' a.ms b.ms 9 9 (by omega) gms'
 have em : (a.ms * b.ms == 0) = true := by have fx := FX.out; simp [fx]
 rw [et] at pl
 unfold nearOf at nl pl
 have HW : Hid (wayOf a.y b.y = 1 ∨ wayOf a.y b.y = -1) := hw1
 have ET : Hid (timesOf a.ms b.ms = a.ms + b.ms) := et
 have EN : Hid (sumOf a.ms b.ms = 1) := en
 clear hw1 et en tl sl
 go_upto_if 78 with fail
 go_cut [] (fun wx => wx = w5.alloc (.cells #[.int .i64 (wayOf a.y b.y)] 3))
 case first =>
  by_cases hh : b.y < a.y
  ·go_wp2_with fail
   go_meet
   rw [show wayOf a.y b.y = -1 from by unfold wayOf; rw [if_pos hh]]
  ·go_wp2_with fail
   go_meet
   rw [show wayOf a.y b.y = 1 from by unfold wayOf; rw [if_neg (by omega)]]
 case rest =>
 obtain rfl := hcut
 go_upto_if 93 with fail
 go_cut [17] (fun s17 wx => s17 = .int .i64 (jOf a.py b.py a.ms b.ms (min a.rr b.rr) (wayOf a.y b.y)) ∧ ∃ n, wx = (w5.alloc (.cells #[.int .i64 (wayOf a.y b.y)] 3)).drewN n)
 case first =>
  by_cases hn : (spd a.py a.ms - spd b.py b.ms) * wayOf a.y b.y ≤ 0
  ·go_wp2_with fail
   go_meet
   exact ⟨by unfold jOf; rw [if_pos (show nearOf a.py b.py a.ms b.ms (wayOf a.y b.y) ≤ 0 from hn)], 0, rfl⟩
  ·have hr : (a.rr ≤ b.rr ∧ min a.rr b.rr = a.rr) ∨ (b.rr < a.rr ∧ min a.rr b.rr = b.rr) := by omega
   rcases hr with ⟨hr, hm⟩ | ⟨hr, hm⟩
   all_goals
    have HM := (show Hid _ from hm)
    have ql := pa_le ((spd a.py a.ms - spd b.py b.ms) * wayOf a.y b.y * (a.ms + b.ms)) (256 + min a.rr b.rr) 256
    rw [hm] at ql
    have jl2 := jl_of HW.out hm ((spd a.py a.ms - spd b.py b.ms) * wayOf a.y b.y * (a.ms + b.ms)) 256
    clear hm
    go_wp2_with fail
    go_quiet (fail)
    go_wp2_with fail
    go_region_held3 (fun W => W.cell? ⟨w5.heap.size, 0, none⟩ = some (.int .i64 (wayOf a.y b.y)) ∧ W.cell? ⟨w.heap.size, 7, none⟩ = some (.int .i64 a.rr) ∧ W.cell? ⟨w.heap.size + 1, 7, none⟩ = some (.int .i64 b.rr)) (go_keep) (first | (go_at_call 103; with_reducible refine (partOf_any _ _ _ _).mono ?_; rintro e w' ⟨rfl, rfl⟩))
    go_wp2_with fail
    go_meet
    refine ⟨?_, _, rfl⟩
    rw [IntWalk.i64_in ((spd a.py a.ms - spd b.py b.ms) * wayOf a.y b.y * (a.ms + b.ms)) ⟨by omega, by omega⟩, IntWalk.i64_in (256 + _) ⟨by omega, by omega⟩, IntWalk.i64_in 256 ⟨by omega, by omega⟩]
    rw [IntWalk.i64_in _ ⟨by omega, by omega⟩]
    unfold jOf
    rw [if_neg (show ¬ nearOf a.py b.py a.ms b.ms (wayOf a.y b.y) ≤ 0 from by unfold nearOf; omega)]
    unfold passed
    rw [ET.out, EN.out, HM.out, Int.one_mul, Int.mul_comm (pa _ _ _)]
    rfl
 case rest =>
 obtain ⟨rfl, nn, rfl⟩ := hcut
 clear pl nl mm em
 go_upto_region 33 with fail
 go_cut [22, 23] (fun s22 s23 wx => ∃ g h, s22 = .pointer (some ⟨g, 0, none⟩) ∧ s23 = .pointer (some ⟨h, 0, none⟩) ∧ Mid w wx w5.heap.size g h (wayOf a.y b.y) a b a b)
 case first =>
  have M1 : Hid (Mid w _ w5.heap.size (w5.heap.size + 1) (w5.heap.size + 1 + 1) (wayOf a.y b.y) a b a b) := Mid.made1 h4.out h0.out
  have M2 : Hid (Mid w _ w5.heap.size (w5.heap.size + 1 + 1) (w5.heap.size + 1) (wayOf a.y b.y) a b a b) := Mid.made2 h4.out h0.out
  go_region
  all_goals
   go_wp2_with fail
   go_meet
   first | exact ⟨_, _, rfl, rfl, M1.out.drewN _⟩ | exact ⟨_, _, rfl, rfl, M2.out.drewN _⟩
 case rest =>
 obtain ⟨g, h, rfl, rfl, mid⟩ := hcut
 clear a0 a1 a2 a3 a4 a5 a6 a7 b0 b1 b2 b3 b4 b5 b6 b7 h0 h4
 have jb := jOf_le a.py b.py a.ms b.ms (min a.rr b.rr) (wayOf a.y b.y) HW.out
 have M0 : Hid (Mid w _ w5.heap.size g h (wayOf a.y b.y) a b a b) := mid
 obtain ⟨-, rg, -, cw, -, -, -⟩ := mid
 go_wp2_with fail
 refine (moveY_any a.y a.py 0 (-(jOf a.py b.py a.ms b.ms (min a.rr b.rr) (wayOf a.y b.y))) (wayOf a.y b.y) g w5.heap.size (fld a) _ (by omega) HW.out rg rfl rfl cw).mono ?_
 rintro e w6 ⟨rfl, r6, k6⟩
 have M6 : Hid (Mid w w6 w5.heap.size g h (wayOf a.y b.y) a b ⟨a.x, ad a.y (0 * wayOf a.y b.y) 1048576, a.px, ad a.py (-(jOf a.py b.py a.ms b.ms (min a.rr b.rr) (wayOf a.y b.y))) 16777216, a.wd, a.ht, a.ms, a.rr⟩ b) := M0.out.keptG k6 (r6.congr (rng rfl))
 clear r6 k6 rg cw M0
 obtain ⟨-, -, rh, cw, -, -, -⟩ := M6.out
 go_wp2_with fail
 refine (moveY_any b.y b.py (depthOf a.y b.y a.ht b.ht) (jOf a.py b.py a.ms b.ms (min a.rr b.rr) (wayOf a.y b.y)) (wayOf a.y b.y) h w5.heap.size (fld b) _ (by omega) HW.out rh rfl rfl cw).mono ?_
 rintro e w7 ⟨rfl, r7, k7⟩
 have M7 : Hid (Mid w w7 w5.heap.size g h (wayOf a.y b.y) a b _ ⟨b.x, ad b.y ((depthOf a.y b.y a.ht b.ht) * wayOf a.y b.y) 1048576, b.px, ad b.py (jOf a.py b.py a.ms b.ms (min a.rr b.rr) (wayOf a.y b.y)) 16777216, b.wd, b.ht, b.ms, b.rr⟩) := M6.out.keptH k7 (r7.congr (rng rfl))
 clear r7 k7 rh cw M6
 obtain ⟨f7, rg7, rh7, -, -, -, z1, -, -, z4, z5⟩ := M7.out
 obtain ⟨a0, a1, a2, a3, a4, a5, a6, a7, b0, b1, b2, b3, b4, b5, b6, b7⟩ := f7.cells
 have fg7 := rg7.frozen
 obtain ⟨p0, p1, p2, p3, p4, p5, p6, p7⟩ := row_cells rg7
 have z6 : w.heap.size ≠ g := by omega
 have z7 : w.heap.size + 1 ≠ g := by omega
 clear f7 rg7 rh7
 go_upto_if 175 with fail
 have M8 : Hid (Mid w ((((((((w7.setCell ⟨g, 0, none⟩ (.int .i64 a.x)).setCell ⟨g, 1, none⟩ (.int .i64 a.y)).setCell ⟨g, 2, none⟩ (.int .i64 a.px)).setCell ⟨g, 3, none⟩ (.int .i64 a.py)).setCell ⟨g, 4, none⟩ (.int .i64 a.wd)).setCell ⟨g, 5, none⟩ (.int .i64 a.ht)).setCell ⟨g, 6, none⟩ (.int .i64 a.ms)).setCell ⟨g, 7, none⟩ (.int .i64 a.rr)) w5.heap.size g h (wayOf a.y b.y) a b a ⟨b.x, ad b.y ((depthOf a.y b.y a.ht b.ht) * wayOf a.y b.y) 1048576, b.px, ad b.py (jOf a.py b.py a.ms b.ms (min a.rr b.rr) (wayOf a.y b.y)) 16777216, b.wd, b.ht, b.ms, b.rr⟩) := M7.out.keptG (((((((((Kept.refl _ _ _).setA 0 _).setA 1 _).setA 2 _).setA 3 _).setA 4 _).setA 5 _).setA 6 _).setA 7 _) (((((((((M7.out.rg.set 0 _).set 1 _).set 2 _).set 3 _).set 4 _).set 5 _).set 6 _).set 7 _).congr (rng rfl))
 generalize ((((((((w7.setCell ⟨g, 0, none⟩ (.int .i64 a.x)).setCell ⟨g, 1, none⟩ (.int .i64 a.y)).setCell ⟨g, 2, none⟩ (.int .i64 a.px)).setCell ⟨g, 3, none⟩ (.int .i64 a.py)).setCell ⟨g, 4, none⟩ (.int .i64 a.wd)).setCell ⟨g, 5, none⟩ (.int .i64 a.ht)).setCell ⟨g, 6, none⟩ (.int .i64 a.ms)).setCell ⟨g, 7, none⟩ (.int .i64 a.rr)) = w8 at *
 clear a0 a1 a2 a3 a4 a5 a6 a7 b0 b1 b2 b3 b4 b5 b6 b7 p0 p1 p2 p3 p4 p5 p6 p7 fg7 z1 z4 z5 z6 z7 M7
 obtain ⟨f4, rg, rh, -, -, hbel, s1, -, -, s4, s5⟩ := M8.out
 have h0 : Hid (Below w.heap.size w w8) := hbel
 obtain ⟨a0, a1, a2, a3, a4, a5, a6, a7, b0, b1, b2, b3, b4, b5, b6, b7⟩ := f4.cells
 obtain ⟨p0, p1, p2, p3, p4, p5, p6, p7⟩ := row_cells rg
 obtain ⟨q0, q1, q2, q3, q4, q5, q6, q7⟩ := row_cells rh
 have fg := rg.frozen
 have fh := rh.frozen
 have xc : ∀ o, o < 8 → w8.cell? ⟨w.heap.size + 1 + 1, o, none⟩ = some _ := fun o ho => f4.x.cell ho
 have yc : ∀ o, o < 8 → w8.cell? ⟨w.heap.size + 1 + 1 + 1, o, none⟩ = some _ := fun o ho => f4.y.cell ho
 have xf := f4.x.frozen
 have yf := f4.y.frozen
 have s6 : h ≠ g := fun e => s1 e.symm
 clear hbel M8 f4 rg rh
 go_wp2
 go_region
 go_wp2
 refine bodyPost_ret (by simp [results, Tryz.results83, go_sem, rowV, xc, yc]) rfl ⟨rfl, ?_⟩
 refine Below.drew ?_
 iterate 16 refine Below.setCell ?_ (by simp; omega) _
 exact h0.out
end
section
open Go.ChangeShapes Go.WideShapes Go.ChangeAt Go.RowKit
open Num
set_option maxRecDepth 10000 in
set_option maxHeartbeats 8000000 in
theorem rowsY_fb (a b : R8) (ga : GoodP a) (gb : GoodP b) (hx : 1 ≤ depthOf a.x b.x a.wd b.wd) (hy : 1 ≤ depthOf a.y b.y a.ht b.ht) (hl : depthOf a.y b.y a.ht b.ht ≤ depthOf a.x b.x a.wd b.wd) (fa : a.ms ≠ 0) (fb : b.ms = 0) (w : World) :
  Calls Tryz.prog 83 #[rowV a, rowV b] w fun e w' => e = .returned (retV (metY a b).1 (metY a b).2 true) ∧ Below w.heap.size w w' := by
 have kd : depthOf a.x b.x a.wd b.wd ≤ 8192 := by have := ga.wd; have := gb.wd; unfold depthOf ab; omega
 have ke : depthOf a.y b.y a.ht b.ht ≤ 8192 := by have := ga.ht; have := gb.ht; unfold depthOf ab; omega
 have gA := ga
 have gB := gb
 obtain ⟨-, gx, gy, gpx, gpy, -, -, gms, grr⟩ := ga
 obtain ⟨-, gx', gy', gpx', gpy', -, -, gms', grr'⟩ := gb
 unfold retV metY
 simp only
 have hsh : shareOf a.ms b.ms (depthOf a.y b.y a.ht b.ht) = (depthOf a.y b.y a.ht b.ht) := by unfold shareOf; rw [if_neg fa, if_pos fb]
 rw [show atB b.y a.ms b.ms (depthOf a.y b.y a.ht b.ht) (wayOf a.y b.y) = b.y from by rw [fb]; exact atB_fix _ _ _ _ fa gy', show pushB a.py b.py a.ms b.ms (min a.rr b.rr) (wayOf a.y b.y) = b.py from by rw [fb]; exact pushB_fix _ _ _ _ _, atA_go a.y a.ms b.ms (depthOf a.y b.y a.ht b.ht) (wayOf a.y b.y) (depthOf a.y b.y a.ht b.ht) hsh, pushA_j a.py b.py a.ms b.ms (min a.rr b.rr) (wayOf a.y b.y) gpy fa]
 clear hsh
 have es : (a.ms + b.ms == 0) = false := by simp; omega
 have ea : (a.ms == 0) = false := by simp [fa]
 have eb : (b.ms == 0) = true := by simp [fb]
 have s1 := spd_le a.px a.ms 16777216 (by omega) gpx
 have s2 := spd_le a.py a.ms 16777216 (by omega) gpy
 have s3 := spd_le b.px b.ms 16777216 (by omega) gpx'
 have s4 := spd_le b.py b.ms 16777216 (by omega) gpy'
 have FX : Hid (b.ms = 0) := fb
 clear fb
 refine (rowsT a b gA gB w hx hy es _).2 ?_
 intro w5 hbel hf hz
 dsimp only [rowsT]
 intro K1 k1 K2 k2
 have h0 := (show Hid _ from hbel)
 have h4 := (show Hid _ from hf)
 clear hbel hf gA gB
 obtain ⟨a0, a1, a2, a3, a4, a5, a6, a7, b0, b1, b2, b3, b4, b5, b6, b7⟩ := h4.out.cells
 have n0 : w.heap.size < w5.heap.size := by omega
 have n1 : w.heap.size + 1 < w5.heap.size := by omega
 have n2 : w.heap.size < w5.heap.size + 1 := by omega
 have n3 : w.heap.size + 1 < w5.heap.size + 1 := by omega
 have n4 : w.heap.size < w5.heap.size + 1 + 1 := by omega
 have n5 : w.heap.size + 1 < w5.heap.size + 1 + 1 := by omega
 have hw1 := way_or a.y b.y
 have nl := near_le a.py b.py a.ms b.ms (wayOf a.y b.y) 16777216 (by omega) gpy gpy' hw1
 have tl := times_le a.ms b.ms gms gms'
 have sl := sum_le a.ms b.ms gms gms'
 have pl := mul_le' _ _ _ _ nl tl
 have et : timesOf a.ms b.ms = a.ms + b.ms := by have fx := FX.out; unfold timesOf; rw [if_pos (by omega)]
 have en : sumOf a.ms b.ms = 1 := by have fx := FX.out; unfold sumOf; rw [if_pos (by omega)]
 have mm := mul_le' a.ms b.ms 9 9 (by omega) gms'
 have em : (a.ms * b.ms == 0) = true := by have fx := FX.out; simp [fx]
 rw [et] at pl
 unfold nearOf at nl pl
 have HW : Hid (wayOf a.y b.y = 1 ∨ wayOf a.y b.y = -1) := hw1
 have ET : Hid (timesOf a.ms b.ms = a.ms + b.ms) := et
 have EN : Hid (sumOf a.ms b.ms = 1) := en
 clear hw1 et en tl sl
 go_upto_if 78 with fail
 go_cut [] (fun wx => wx = w5.alloc (.cells #[.int .i64 (wayOf a.y b.y)] 3))
 case first =>
  by_cases hh : b.y < a.y
  ·go_wp2_with fail
   go_meet
   rw [show wayOf a.y b.y = -1 from by unfold wayOf; rw [if_pos hh]]
  ·go_wp2_with fail
   go_meet
   rw [show wayOf a.y b.y = 1 from by unfold wayOf; rw [if_neg (by omega)]]
 case rest =>
 obtain rfl := hcut
 go_upto_if 93 with fail
 go_cut [17] (fun s17 wx => s17 = .int .i64 (jOf a.py b.py a.ms b.ms (min a.rr b.rr) (wayOf a.y b.y)) ∧ ∃ n, wx = (w5.alloc (.cells #[.int .i64 (wayOf a.y b.y)] 3)).drewN n)
 case first =>
  by_cases hn : (spd a.py a.ms - spd b.py b.ms) * wayOf a.y b.y ≤ 0
  ·go_wp2_with fail
   go_meet
   exact ⟨by unfold jOf; rw [if_pos (show nearOf a.py b.py a.ms b.ms (wayOf a.y b.y) ≤ 0 from hn)], 0, rfl⟩
  ·have hr : (a.rr ≤ b.rr ∧ min a.rr b.rr = a.rr) ∨ (b.rr < a.rr ∧ min a.rr b.rr = b.rr) := by omega
   rcases hr with ⟨hr, hm⟩ | ⟨hr, hm⟩
   all_goals
    have HM := (show Hid _ from hm)
    have ql := pa_le ((spd a.py a.ms - spd b.py b.ms) * wayOf a.y b.y * (a.ms + b.ms)) (256 + min a.rr b.rr) 256
    rw [hm] at ql
    have jl2 := jl_of HW.out hm ((spd a.py a.ms - spd b.py b.ms) * wayOf a.y b.y * (a.ms + b.ms)) 256
    clear hm
    go_wp2_with fail
    go_quiet (fail)
    go_wp2_with fail
    go_region_held3 (fun W => W.cell? ⟨w5.heap.size, 0, none⟩ = some (.int .i64 (wayOf a.y b.y)) ∧ W.cell? ⟨w.heap.size, 7, none⟩ = some (.int .i64 a.rr) ∧ W.cell? ⟨w.heap.size + 1, 7, none⟩ = some (.int .i64 b.rr)) (go_keep) (first | (go_at_call 103; with_reducible refine (partOf_any _ _ _ _).mono ?_; rintro e w' ⟨rfl, rfl⟩))
    go_wp2_with fail
    go_meet
    refine ⟨?_, _, rfl⟩
    rw [IntWalk.i64_in ((spd a.py a.ms - spd b.py b.ms) * wayOf a.y b.y * (a.ms + b.ms)) ⟨by omega, by omega⟩, IntWalk.i64_in (256 + _) ⟨by omega, by omega⟩, IntWalk.i64_in 256 ⟨by omega, by omega⟩]
    rw [IntWalk.i64_in _ ⟨by omega, by omega⟩]
    unfold jOf
    rw [if_neg (show ¬ nearOf a.py b.py a.ms b.ms (wayOf a.y b.y) ≤ 0 from by unfold nearOf; omega)]
    unfold passed
    rw [ET.out, EN.out, HM.out, Int.one_mul, Int.mul_comm (pa _ _ _)]
    rfl
 case rest =>
 obtain ⟨rfl, nn, rfl⟩ := hcut
 clear pl nl mm em
 go_upto_region 33 with fail
 go_cut [22, 23] (fun s22 s23 wx => ∃ g h, s22 = .pointer (some ⟨g, 0, none⟩) ∧ s23 = .pointer (some ⟨h, 0, none⟩) ∧ Mid w wx w5.heap.size g h (wayOf a.y b.y) a b a b)
 case first =>
  have M1 : Hid (Mid w _ w5.heap.size (w5.heap.size + 1) (w5.heap.size + 1 + 1) (wayOf a.y b.y) a b a b) := Mid.made1 h4.out h0.out
  have M2 : Hid (Mid w _ w5.heap.size (w5.heap.size + 1 + 1) (w5.heap.size + 1) (wayOf a.y b.y) a b a b) := Mid.made2 h4.out h0.out
  go_region
  all_goals
   go_wp2_with fail
   go_meet
   first | exact ⟨_, _, rfl, rfl, M1.out.drewN _⟩ | exact ⟨_, _, rfl, rfl, M2.out.drewN _⟩
 case rest =>
 obtain ⟨g, h, rfl, rfl, mid⟩ := hcut
 clear a0 a1 a2 a3 a4 a5 a6 a7 b0 b1 b2 b3 b4 b5 b6 b7 h0 h4
 have jb := jOf_le a.py b.py a.ms b.ms (min a.rr b.rr) (wayOf a.y b.y) HW.out
 have M0 : Hid (Mid w _ w5.heap.size g h (wayOf a.y b.y) a b a b) := mid
 obtain ⟨-, rg, -, cw, -, -, -⟩ := mid
 go_wp2_with fail
 refine (moveY_any a.y a.py (-(depthOf a.y b.y a.ht b.ht)) (-(jOf a.py b.py a.ms b.ms (min a.rr b.rr) (wayOf a.y b.y))) (wayOf a.y b.y) g w5.heap.size (fld a) _ (by omega) HW.out rg rfl rfl cw).mono ?_
 rintro e w6 ⟨rfl, r6, k6⟩
 have M6 : Hid (Mid w w6 w5.heap.size g h (wayOf a.y b.y) a b ⟨a.x, ad a.y ((-(depthOf a.y b.y a.ht b.ht)) * wayOf a.y b.y) 1048576, a.px, ad a.py (-(jOf a.py b.py a.ms b.ms (min a.rr b.rr) (wayOf a.y b.y))) 16777216, a.wd, a.ht, a.ms, a.rr⟩ b) := M0.out.keptG k6 (r6.congr (rng rfl))
 clear r6 k6 rg cw M0
 obtain ⟨-, -, rh, cw, -, -, -⟩ := M6.out
 go_wp2_with fail
 refine (moveY_any b.y b.py 0 (jOf a.py b.py a.ms b.ms (min a.rr b.rr) (wayOf a.y b.y)) (wayOf a.y b.y) h w5.heap.size (fld b) _ (by omega) HW.out rh rfl rfl cw).mono ?_
 rintro e w7 ⟨rfl, r7, k7⟩
 have M7 : Hid (Mid w w7 w5.heap.size g h (wayOf a.y b.y) a b _ ⟨b.x, ad b.y (0 * wayOf a.y b.y) 1048576, b.px, ad b.py (jOf a.py b.py a.ms b.ms (min a.rr b.rr) (wayOf a.y b.y)) 16777216, b.wd, b.ht, b.ms, b.rr⟩) := M6.out.keptH k7 (r7.congr (rng rfl))
 clear r7 k7 rh cw M6
 obtain ⟨f7, rg7, rh7, -, -, -, z1, -, -, z4, z5⟩ := M7.out
 obtain ⟨a0, a1, a2, a3, a4, a5, a6, a7, b0, b1, b2, b3, b4, b5, b6, b7⟩ := f7.cells
 have fg7 := rh7.frozen
 obtain ⟨p0, p1, p2, p3, p4, p5, p6, p7⟩ := row_cells rh7
 have z6 : w.heap.size ≠ h := by omega
 have z7 : w.heap.size + 1 ≠ h := by omega
 clear f7 rg7 rh7
 go_upto_region 44 with fail
 have M8 : Hid (Mid w ((((((((w7.setCell ⟨h, 0, none⟩ (.int .i64 b.x)).setCell ⟨h, 1, none⟩ (.int .i64 b.y)).setCell ⟨h, 2, none⟩ (.int .i64 b.px)).setCell ⟨h, 3, none⟩ (.int .i64 b.py)).setCell ⟨h, 4, none⟩ (.int .i64 b.wd)).setCell ⟨h, 5, none⟩ (.int .i64 b.ht)).setCell ⟨h, 6, none⟩ (.int .i64 b.ms)).setCell ⟨h, 7, none⟩ (.int .i64 b.rr)) w5.heap.size g h (wayOf a.y b.y) a b ⟨a.x, ad a.y ((-(depthOf a.y b.y a.ht b.ht)) * wayOf a.y b.y) 1048576, a.px, ad a.py (-(jOf a.py b.py a.ms b.ms (min a.rr b.rr) (wayOf a.y b.y))) 16777216, a.wd, a.ht, a.ms, a.rr⟩ b) := M7.out.keptH (((((((((Kept.refl _ _ _).setA 0 _).setA 1 _).setA 2 _).setA 3 _).setA 4 _).setA 5 _).setA 6 _).setA 7 _) (((((((((M7.out.rh.set 0 _).set 1 _).set 2 _).set 3 _).set 4 _).set 5 _).set 6 _).set 7 _).congr (rng rfl))
 generalize ((((((((w7.setCell ⟨h, 0, none⟩ (.int .i64 b.x)).setCell ⟨h, 1, none⟩ (.int .i64 b.y)).setCell ⟨h, 2, none⟩ (.int .i64 b.px)).setCell ⟨h, 3, none⟩ (.int .i64 b.py)).setCell ⟨h, 4, none⟩ (.int .i64 b.wd)).setCell ⟨h, 5, none⟩ (.int .i64 b.ht)).setCell ⟨h, 6, none⟩ (.int .i64 b.ms)).setCell ⟨h, 7, none⟩ (.int .i64 b.rr)) = w8 at *
 clear a0 a1 a2 a3 a4 a5 a6 a7 b0 b1 b2 b3 b4 b5 b6 b7 p0 p1 p2 p3 p4 p5 p6 p7 fg7 z1 z4 z5 z6 z7 M7
 obtain ⟨f4, rg, rh, -, -, hbel, s1, -, -, s4, s5⟩ := M8.out
 have h0 : Hid (Below w.heap.size w w8) := hbel
 obtain ⟨a0, a1, a2, a3, a4, a5, a6, a7, b0, b1, b2, b3, b4, b5, b6, b7⟩ := f4.cells
 obtain ⟨p0, p1, p2, p3, p4, p5, p6, p7⟩ := row_cells rg
 obtain ⟨q0, q1, q2, q3, q4, q5, q6, q7⟩ := row_cells rh
 have fg := rg.frozen
 have fh := rh.frozen
 have xc : ∀ o, o < 8 → w8.cell? ⟨w.heap.size + 1 + 1, o, none⟩ = some _ := fun o ho => f4.x.cell ho
 have yc : ∀ o, o < 8 → w8.cell? ⟨w.heap.size + 1 + 1 + 1, o, none⟩ = some _ := fun o ho => f4.y.cell ho
 have xf := f4.x.frozen
 have yf := f4.y.frozen
 have s6 : h ≠ g := fun e => s1 e.symm
 clear hbel M8 f4 rg rh
 go_wp2
 go_region
 go_wp2
 refine bodyPost_ret (by simp [results, Tryz.results83, go_sem, rowV, xc, yc]) rfl ⟨rfl, ?_⟩
 refine Below.drew ?_
 iterate 16 refine Below.setCell ?_ (by simp; omega) _
 exact h0.out
end
section
open Go.ChangeShapes Go.WideShapes Go.ChangeAt Go.RowKit
open Num
theorem meetRows_any (a b : R8) (w : World) :
  Calls Tryz.prog 83 #[rowV a, rowV b] w fun e w' => e = .returned (retV (met a b).1 (met a b).2 (overB a b)) ∧ Below w.heap.size w w' := by
 by_cases ga : GoodP a
 case neg =>
  have e := goodB_false ga
  have o : overB a b = false := by simp [overB, e]
  rw [show met a b = (a, b) from by simp [met, o], o]
  exact rows_no1 a b e w
 by_cases gb : GoodP b
 case neg =>
  have e := goodB_false gb
  have o : overB a b = false := by simp [overB, e]
  rw [show met a b = (a, b) from by simp [met, o], o]
  exact rows_no2 a b ((goodB_iff a).2 ga) e w
 by_cases hx : 1 ≤ depthOf a.x b.x a.wd b.wd
 case neg =>
  have o : overB a b = false := by simp [overB, hx]
  rw [show met a b = (a, b) from by simp [met, o], o]
  exact rows_no3 a b ga gb (by omega) w
 by_cases hy : 1 ≤ depthOf a.y b.y a.ht b.ht
 case neg =>
  have o : overB a b = false := by simp [overB, hy]
  rw [show met a b = (a, b) from by simp [met, o], o]
  exact rows_no4 a b ga gb hx (by omega) w
 have o : overB a b = true := by simp [overB, hx, hy, (goodB_iff a).2 ga, (goodB_iff b).2 gb]
 by_cases h0 : a.ms = 0 ∧ b.ms = 0
 ·rw [show met a b = (a, b) from by rw [met, if_pos o, if_pos h0], o]
  exact rows_fix a b ga gb hx hy h0.1 h0.2 w
 rw [show met a b = if depthOf a.x b.x a.wd b.wd < depthOf a.y b.y a.ht b.ht then metX a b else metY a b from by rw [met, if_pos o, if_neg h0], o]
 by_cases hl : depthOf a.x b.x a.wd b.wd < depthOf a.y b.y a.ht b.ht
 ·rw [if_pos hl]
  by_cases fa : a.ms = 0
  ·exact rowsX_fa a b ga gb hx hy hl fa (fun e => h0 ⟨fa, e⟩) w
  ·by_cases fb : b.ms = 0
   ·exact rowsX_fb a b ga gb hx hy hl fa fb w
   ·exact rowsX_free a b ga gb hx hy hl fa fb w
 ·rw [if_neg hl]
  by_cases fa : a.ms = 0
  ·exact rowsY_fa a b ga gb hx hy (by omega) fa (fun e => h0 ⟨fa, e⟩) w
  ·by_cases fb : b.ms = 0
   ·exact rowsY_fb a b ga gb hx hy (by omega) fa fb w
   ·exact rowsY_free a b ga gb hx hy (by omega) fa fb w
end
end Go.Proofs.YtckkkdldljhehacGreat
