/- What MeetRows of package ninepinsref answers when called, in whatever world, at two good rows that overlap and are not both fixed, across, both free: the plain rows of the texts before; nothing that was in memory before has changed. No other conditions. -/
import Derived.Test.YtckkkdldljhehabGreatPkP
import Derived.Deep.DeepCutAuto
import Derived.Deep.RegionHeld3
namespace Go.Proofs.YtckkkdldljhehabGreat
open Go.ChangeShapes Go.WideShapes Go.ChangeAt Go.RowKit
open Num

set_option maxRecDepth 10000 in
set_option maxHeartbeats 8000000 in
theorem rowsX_free (a b : R8) (ga : GoodP a) (gb : GoodP b) (hx : 1 ≤ depthOf a.x b.x a.wd b.wd) (hy : 1 ≤ depthOf a.y b.y a.ht b.ht) (hl : depthOf a.x b.x a.wd b.wd < depthOf a.y b.y a.ht b.ht) (fa : a.ms ≠ 0) (fb : b.ms ≠ 0) (w : World) :
    Calls Tryz.prog 56 #[rowV a, rowV b] w fun e w' => e = .returned (retV (metX a b).1 (metX a b).2 true) ∧ Below w.heap.size w w' := by
  have kd : depthOf a.x b.x a.wd b.wd ≤ 8192 := by have := ga.wd; have := gb.wd; unfold depthOf ab; omega
  have ke : depthOf a.y b.y a.ht b.ht ≤ 8192 := by have := ga.ht; have := gb.ht; unfold depthOf ab; omega
  have c1 := body_yes a ((goodB_iff a).2 ga)
  have c2 := body_yes b ((goodB_iff b).2 gb)
  have c3 := depthOf_any a b ga gb
  have c4 := speedOf_any a
  have c5 := speedOf_any b
  obtain ⟨-, gx, gy, gpx, gpy, -, -, gms, grr⟩ := ga
  obtain ⟨-, gx', gy', gpx', gpy', -, -, gms', grr'⟩ := gb
  obtain ⟨x, y, px, py, wd, ht, ms, rr⟩ := a
  obtain ⟨x', y', px', py', wd', ht', ms', rr'⟩ := b
  simp only [metX] at *
  have hsh : shareOf ms ms' (depthOf x x' wd wd') = (depthOf x x' wd wd') / 2 := by unfold shareOf; rw [if_neg fa, if_neg fb, Int.tdiv_eq_ediv_of_nonneg (by omega)]
  rw [atA_go x ms ms' (depthOf x x' wd wd') (wayOf x x') ((depthOf x x' wd wd') / 2) hsh, atB_go x' ms ms' (depthOf x x' wd wd') (wayOf x x') ((depthOf x x' wd wd') - (depthOf x x' wd wd') / 2) (by rw [hsh]), pushA_j px px' ms ms' (min rr rr') (wayOf x x') gpx fa, pushB_j px px' ms ms' (min rr rr') (wayOf x x') gpx' fb]
  clear hsh
  have es : (ms + ms' == 0) = false := by simp; omega
  have ea : (ms == 0) = false := by simp [fa]
  have eb : (ms' == 0) = false := by simp [fb]
  have s1 := spd_le px ms 16777216 (by omega) gpx
  have s2 := spd_le py ms 16777216 (by omega) gpy
  have s3 := spd_le px' ms' 16777216 (by omega) gpx'
  have s4 := spd_le py' ms' 16777216 (by omega) gpy'
  unfold retV
  unfold rowV at *
  go_enter Tryz.func56, Tryz.ntmps56
  go_wp2_with fail
  refine (c1 _).mono ?_
  rintro e w1 ⟨rfl, hb⟩
  have hz := hb.size
  simp at hz
  have h0 : Hid (Below w.heap.size w w1) := bcall (bal (bal (bal (bal (Below.refl _ _) _) _) _) _) hb
  have h4 : Hid (Four w1 w.heap.size ⟨x, y, px, py, wd, ht, ms, rr⟩ ⟨x', y', px', py', wd', ht', ms', rr'⟩) := (Four.made w ⟨x, y, px, py, wd, ht, ms, rr⟩ ⟨x', y', px', py', wd', ht', ms', rr'⟩).below hb
  clear hb
  obtain ⟨a0, a1, a2, a3, a4, a5, a6, a7, b0, b1, b2, b3, b4, b5, b6, b7⟩ := h4.out.cells
  go_wp2_with fail
  refine (c2 _).mono ?_
  rintro e w2 ⟨rfl, hb⟩
  clear a0 a1 a2 a3 a4 a5 a6 a7 b0 b1 b2 b3 b4 b5 b6 b7
  replace hz := Nat.le_trans hz hb.size
  replace h0 : Hid (Below w.heap.size w w2) := bcall h0.out hb
  replace h4 : Hid (Four w2 w.heap.size ⟨x, y, px, py, wd, ht, ms, rr⟩ ⟨x', y', px', py', wd', ht', ms', rr'⟩) := h4.out.below hb
  clear hb
  obtain ⟨a0, a1, a2, a3, a4, a5, a6, a7, b0, b1, b2, b3, b4, b5, b6, b7⟩ := h4.out.cells
  go_wp2_with fail
  refine (c3 _).mono ?_
  rintro e w3 ⟨rfl, hb⟩
  clear a0 a1 a2 a3 a4 a5 a6 a7 b0 b1 b2 b3 b4 b5 b6 b7
  replace hz := Nat.le_trans hz hb.size
  replace h0 : Hid (Below w.heap.size w w3) := bcall h0.out hb
  replace h4 : Hid (Four w3 w.heap.size ⟨x, y, px, py, wd, ht, ms, rr⟩ ⟨x', y', px', py', wd', ht', ms', rr'⟩) := h4.out.below hb
  clear hb
  obtain ⟨a0, a1, a2, a3, a4, a5, a6, a7, b0, b1, b2, b3, b4, b5, b6, b7⟩ := h4.out.cells
  go_wp2_with fail
  refine (c4 _).mono ?_
  rintro e w4 ⟨rfl, hb⟩
  clear a0 a1 a2 a3 a4 a5 a6 a7 b0 b1 b2 b3 b4 b5 b6 b7
  replace hz := Nat.le_trans hz hb.size
  replace h0 : Hid (Below w.heap.size w w4) := bcall h0.out hb
  replace h4 : Hid (Four w4 w.heap.size ⟨x, y, px, py, wd, ht, ms, rr⟩ ⟨x', y', px', py', wd', ht', ms', rr'⟩) := h4.out.below hb
  clear hb
  obtain ⟨a0, a1, a2, a3, a4, a5, a6, a7, b0, b1, b2, b3, b4, b5, b6, b7⟩ := h4.out.cells
  go_wp2_with fail
  refine (c5 _).mono ?_
  rintro e w5 ⟨rfl, hb⟩
  clear a0 a1 a2 a3 a4 a5 a6 a7 b0 b1 b2 b3 b4 b5 b6 b7
  replace hz := Nat.le_trans hz hb.size
  replace h0 : Hid (Below w.heap.size w w5) := bcall h0.out hb
  replace h4 : Hid (Four w5 w.heap.size ⟨x, y, px, py, wd, ht, ms, rr⟩ ⟨x', y', px', py', wd', ht', ms', rr'⟩) := h4.out.below hb
  clear hb
  obtain ⟨a0, a1, a2, a3, a4, a5, a6, a7, b0, b1, b2, b3, b4, b5, b6, b7⟩ := h4.out.cells
  clear c1 c2 c3 c4 c5
  have n0 : w.heap.size < w5.heap.size := by omega
  have n1 : w.heap.size + 1 < w5.heap.size := by omega
  have n2 : w.heap.size < w5.heap.size + 1 := by omega
  have n3 : w.heap.size + 1 < w5.heap.size + 1 := by omega
  have n4 : w.heap.size < w5.heap.size + 1 + 1 := by omega
  have n5 : w.heap.size + 1 < w5.heap.size + 1 + 1 := by omega
  have hw1 := way_or x x'
  have nl := near_le px px' ms ms' (wayOf x x') 16777216 (by omega) gpx gpx' hw1
  have tl := times_le ms ms' gms gms'
  have sl := sum_le ms ms' gms gms'
  have pl := mul_le' _ _ _ _ nl tl
  have et : timesOf ms ms' = ms * ms' := by unfold timesOf; rw [if_neg (by omega)]
  have en : sumOf ms ms' = ms + ms' := by unfold sumOf; rw [if_neg (by omega)]
  have mm := mul_le' ms ms' 9 9 (by omega) gms'
  have em : (ms * ms' == 0) = false := by simp [fa, fb]
  rw [et] at pl
  unfold nearOf at nl pl
  have HW : Hid (wayOf x x' = 1 ∨ wayOf x x' = -1) := hw1
  have ET : Hid (timesOf ms ms' = ms * ms') := et
  have EN : Hid (sumOf ms ms' = ms + ms') := en
  clear hw1 et en tl sl
  go_upto_if 78 with fail
  go_cut [] (fun wx => wx = w5.alloc (.cells #[.int .i64 (wayOf y y')] 3))
  case first =>
    by_cases hh : y' < y
    · go_wp2_with fail
      go_meet
      rw [show wayOf y y' = -1 from by unfold wayOf; rw [if_pos hh]]
    · go_wp2_with fail
      go_meet
      rw [show wayOf y y' = 1 from by unfold wayOf; rw [if_neg (by omega)]]
  case rest =>
  obtain rfl := hcut
  go_upto_if 88 with fail
  go_cut [] (fun wx => wx = w5.alloc (.cells #[.int .i64 (wayOf x x')] 3))
  case first =>
    by_cases hh : x' < x
    · go_wp2_with fail
      go_meet
      rw [show wayOf x x' = -1 from by unfold wayOf; rw [if_pos hh]]
    · go_wp2_with fail
      go_meet
      rw [show wayOf x x' = 1 from by unfold wayOf; rw [if_neg (by omega)]]
  case rest =>
  obtain rfl := hcut
  go_upto_if 93 with fail
  go_cut [17] (fun s17 wx => s17 = .int .i64 (jOf px px' ms ms' (min rr rr') (wayOf x x')) ∧ ∃ n, wx = (w5.alloc (.cells #[.int .i64 (wayOf x x')] 3)).drewN n)
  case first =>
    by_cases hn : (spd px ms - spd px' ms') * wayOf x x' ≤ 0
    · go_wp2_with fail
      go_meet
      exact ⟨by unfold jOf; rw [if_pos (show nearOf px px' ms ms' (wayOf x x') ≤ 0 from hn)], 0, rfl⟩
    · have hr : (rr ≤ rr' ∧ min rr rr' = rr) ∨ (rr' < rr ∧ min rr rr' = rr') := by omega
      rcases hr with ⟨hr, hm⟩ | ⟨hr, hm⟩
      · have HM := (show Hid _ from hm)
        have ql := pa_le ((spd px ms - spd px' ms') * wayOf x x' * (ms * ms')) (256 + min rr rr') (256 * (ms + ms'))
        rw [hm] at ql
        have jl := mul_le' _ _ _ _ ql (show 0 ≤ (1 : Int) ∧ (1 : Int) ≤ 1 by omega)
        have jl2 : -72057594037927936 ≤ wayOf x x' * pa ((spd px ms - spd px' ms') * wayOf x x' * (ms * ms')) (256 + rr) (256 * (ms + ms')) ∧ wayOf x x' * pa ((spd px ms - spd px' ms') * wayOf x x' * (ms * ms')) (256 + rr) (256 * (ms + ms')) ≤ 72057594037927936 := by
          rcases HW.out with e | e <;> rw [e] at ql ⊢ <;> omega
        clear hm jl
        go_wp2_with fail
        go_quiet (fail)
        go_wp2_with fail
        go_region_held3 (fun W => W.cell? ⟨w5.heap.size, 0, none⟩ = some (.int .i64 (wayOf x x')) ∧ W.cell? ⟨w.heap.size, 7, none⟩ = some (.int .i64 rr) ∧ W.cell? ⟨w.heap.size + 1, 7, none⟩ = some (.int .i64 rr')) (go_keep) (first | (go_at_call 95; with_reducible refine (partOf_any _ _ _ _).mono ?_; rintro e w' ⟨rfl, rfl⟩))
        go_wp2_with fail
        go_meet
        refine ⟨?_, _, rfl⟩
        rw [IntWalk.i64_in ((spd px ms - spd px' ms') * wayOf x x' * (ms * ms')) ⟨by omega, by omega⟩, IntWalk.i64_in (256 + rr) ⟨by omega, by omega⟩, IntWalk.i64_in (256 * (ms + ms')) ⟨by omega, by omega⟩]
        rw [IntWalk.i64_in _ ⟨by omega, by omega⟩]
        unfold jOf
        rw [if_neg (show ¬ nearOf px px' ms ms' (wayOf x x') ≤ 0 from by unfold nearOf; omega)]
        unfold passed
        rw [ET.out, EN.out, HM.out, Int.mul_comm (ms + ms') 256, Int.mul_comm (pa _ _ _)]
        rfl
      · have HM := (show Hid _ from hm)
        have ql := pa_le ((spd px ms - spd px' ms') * wayOf x x' * (ms * ms')) (256 + min rr rr') (256 * (ms + ms'))
        rw [hm] at ql
        have jl := mul_le' _ _ _ _ ql (show 0 ≤ (1 : Int) ∧ (1 : Int) ≤ 1 by omega)
        have jl2 : -72057594037927936 ≤ wayOf x x' * pa ((spd px ms - spd px' ms') * wayOf x x' * (ms * ms')) (256 + rr') (256 * (ms + ms')) ∧ wayOf x x' * pa ((spd px ms - spd px' ms') * wayOf x x' * (ms * ms')) (256 + rr') (256 * (ms + ms')) ≤ 72057594037927936 := by
          rcases HW.out with e | e <;> rw [e] at ql ⊢ <;> omega
        clear hm jl
        go_wp2_with fail
        go_quiet (fail)
        go_wp2_with fail
        go_region_held3 (fun W => W.cell? ⟨w5.heap.size, 0, none⟩ = some (.int .i64 (wayOf x x')) ∧ W.cell? ⟨w.heap.size, 7, none⟩ = some (.int .i64 rr) ∧ W.cell? ⟨w.heap.size + 1, 7, none⟩ = some (.int .i64 rr')) (go_keep) (first | (go_at_call 95; with_reducible refine (partOf_any _ _ _ _).mono ?_; rintro e w' ⟨rfl, rfl⟩))
        go_wp2_with fail
        go_meet
        refine ⟨?_, _, rfl⟩
        rw [IntWalk.i64_in ((spd px ms - spd px' ms') * wayOf x x' * (ms * ms')) ⟨by omega, by omega⟩, IntWalk.i64_in (256 + rr') ⟨by omega, by omega⟩, IntWalk.i64_in (256 * (ms + ms')) ⟨by omega, by omega⟩]
        rw [IntWalk.i64_in _ ⟨by omega, by omega⟩]
        unfold jOf
        rw [if_neg (show ¬ nearOf px px' ms ms' (wayOf x x') ≤ 0 from by unfold nearOf; omega)]
        unfold passed
        rw [ET.out, EN.out, HM.out, Int.mul_comm (ms + ms') 256, Int.mul_comm (pa _ _ _)]
        rfl
  case rest =>
  obtain ⟨rfl, nn, rfl⟩ := hcut
  clear pl nl mm em
  go_upto_region 33 with fail
  go_cut [22, 23] (fun s22 s23 wx => ∃ g h, s22 = .pointer (some ⟨g, 0, none⟩) ∧ s23 = .pointer (some ⟨h, 0, none⟩) ∧ Mid w wx w5.heap.size g h (wayOf x x') ⟨x, y, px, py, wd, ht, ms, rr⟩ ⟨x', y', px', py', wd', ht', ms', rr'⟩ ⟨x, y, px, py, wd, ht, ms, rr⟩ ⟨x', y', px', py', wd', ht', ms', rr'⟩)
  case first =>
    have M1 : Hid (Mid w _ w5.heap.size (w5.heap.size + 1) (w5.heap.size + 1 + 1) (wayOf x x') ⟨x, y, px, py, wd, ht, ms, rr⟩ ⟨x', y', px', py', wd', ht', ms', rr'⟩ ⟨x, y, px, py, wd, ht, ms, rr⟩ ⟨x', y', px', py', wd', ht', ms', rr'⟩) := Mid.made1 h4.out h0.out
    have M2 : Hid (Mid w _ w5.heap.size (w5.heap.size + 1 + 1) (w5.heap.size + 1) (wayOf x x') ⟨x, y, px, py, wd, ht, ms, rr⟩ ⟨x', y', px', py', wd', ht', ms', rr'⟩ ⟨x, y, px, py, wd, ht, ms, rr⟩ ⟨x', y', px', py', wd', ht', ms', rr'⟩) := Mid.made2 h4.out h0.out
    go_region
    all_goals
      go_wp2_with fail
      go_meet
      first | exact ⟨_, _, rfl, rfl, M1.out.drewN _⟩ | exact ⟨_, _, rfl, rfl, M2.out.drewN _⟩
  case rest =>
  obtain ⟨g, h, rfl, rfl, mid⟩ := hcut
  clear a0 a1 a2 a3 a4 a5 a6 a7 b0 b1 b2 b3 b4 b5 b6 b7 h0 h4
  have jb := jOf_le px px' ms ms' (min rr rr') (wayOf x x') HW.out
  have M0 : Hid (Mid w _ w5.heap.size g h (wayOf x x') ⟨x, y, px, py, wd, ht, ms, rr⟩ ⟨x', y', px', py', wd', ht', ms', rr'⟩ ⟨x, y, px, py, wd, ht, ms, rr⟩ ⟨x', y', px', py', wd', ht', ms', rr'⟩) := mid
  obtain ⟨-, rg, -, cw, -, -, -⟩ := mid
  go_wp2_with fail
  refine (moveX_any x px (-((depthOf x x' wd wd') / 2)) (-(jOf px px' ms ms' (min rr rr') (wayOf x x'))) (wayOf x x') g w5.heap.size (fld ⟨x, y, px, py, wd, ht, ms, rr⟩) _ (by omega) HW.out rg rfl rfl cw).mono ?_
  rintro e w6 ⟨rfl, r6, k6⟩
  have M6 : Hid (Mid w w6 w5.heap.size g h (wayOf x x') ⟨x, y, px, py, wd, ht, ms, rr⟩ ⟨x', y', px', py', wd', ht', ms', rr'⟩ ⟨ad x ((-((depthOf x x' wd wd') / 2)) * wayOf x x') 1048576, y, ad px (-(jOf px px' ms ms' (min rr rr') (wayOf x x'))) 16777216, py, wd, ht, ms, rr⟩ ⟨x', y', px', py', wd', ht', ms', rr'⟩) := M0.out.keptG k6 (r6.congr (fun i hi => by
    match i, hi with
    | 0, _ => rfl
    | 1, _ => rfl
    | 2, _ => rfl
    | 3, _ => rfl
    | 4, _ => rfl
    | 5, _ => rfl
    | 6, _ => rfl
    | 7, _ => rfl))
  clear r6 k6 rg cw M0
  obtain ⟨-, -, rh, cw, -, -, -⟩ := M6.out
  go_wp2_with fail
  refine (moveX_any x' px' ((depthOf x x' wd wd') - (depthOf x x' wd wd') / 2) (jOf px px' ms ms' (min rr rr') (wayOf x x')) (wayOf x x') h w5.heap.size (fld ⟨x', y', px', py', wd', ht', ms', rr'⟩) _ (by omega) HW.out rh rfl rfl cw).mono ?_
  rintro e w7 ⟨rfl, r7, k7⟩
  have M7 : Hid (Mid w w7 w5.heap.size g h (wayOf x x') ⟨x, y, px, py, wd, ht, ms, rr⟩ ⟨x', y', px', py', wd', ht', ms', rr'⟩ ⟨ad x ((-((depthOf x x' wd wd') / 2)) * wayOf x x') 1048576, y, ad px (-(jOf px px' ms ms' (min rr rr') (wayOf x x'))) 16777216, py, wd, ht, ms, rr⟩ ⟨ad x' (((depthOf x x' wd wd') - (depthOf x x' wd wd') / 2) * wayOf x x') 1048576, y', ad px' (jOf px px' ms ms' (min rr rr') (wayOf x x')) 16777216, py', wd', ht', ms', rr'⟩) := M6.out.keptH k7 (r7.congr (fun i hi => by
    match i, hi with
    | 0, _ => rfl
    | 1, _ => rfl
    | 2, _ => rfl
    | 3, _ => rfl
    | 4, _ => rfl
    | 5, _ => rfl
    | 6, _ => rfl
    | 7, _ => rfl))
  clear r7 k7 rh cw M6
  obtain ⟨f4, rg, rh, -, -, hbel, s1, -, -, s4, s5⟩ := M7.out
  have h0 : Hid (Below w.heap.size w w7) := hbel
  obtain ⟨a0, a1, a2, a3, a4, a5, a6, a7, b0, b1, b2, b3, b4, b5, b6, b7⟩ := f4.cells
  obtain ⟨p0, p1, p2, p3, p4, p5, p6, p7⟩ := row_cells rg
  obtain ⟨q0, q1, q2, q3, q4, q5, q6, q7⟩ := row_cells rh
  have fg := rg.frozen
  have fh := rh.frozen
  have xc : ∀ o, o < 8 → w7.cell? ⟨w.heap.size + 1 + 1, o, none⟩ = some _ := fun o ho => f4.x.cell ho
  have yc : ∀ o, o < 8 → w7.cell? ⟨w.heap.size + 1 + 1 + 1, o, none⟩ = some _ := fun o ho => f4.y.cell ho
  have xf := f4.x.frozen
  have yf := f4.y.frozen
  have s6 : h ≠ g := fun e => s1 e.symm
  clear hbel M7 f4 rg rh
  go_wp2
  go_region
  go_wp2
  refine bodyPost_ret (by simp [results, Tryz.results56, go_sem, xc, yc]) rfl ⟨rfl, ?_⟩
  refine Below.drew ?_
  iterate 16 refine Below.setCell ?_ (by simp; omega) _
  exact h0.out
end Go.Proofs.YtckkkdldljhehabGreat
