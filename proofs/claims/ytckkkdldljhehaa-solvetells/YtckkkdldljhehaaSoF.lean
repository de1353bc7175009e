/- What Meet of package solve answers when called, in whatever world, at two good rows that overlap and are not both fixed, up and down: the plain rows of the texts before; nothing that was in memory before has changed. No other conditions. -/
import Derived.Test.YtckkkdldljhehaaSoD
namespace Go.Proofs.Ytckkkdldljhehaa
open Go.ChangeShapes Go.WideShapes Go.ChangeAt Go.RowKit
open Num

set_option maxHeartbeats 8000000 in
theorem meetY_free_lo (a b : R8) (ga : GoodP a) (gb : GoodP b) (hx : 1 ≤ depthOf a.x b.x a.wd b.wd) (hy : 1 ≤ depthOf a.y b.y a.ht b.ht) (hl : depthOf a.y b.y a.ht b.ht ≤ depthOf a.x b.x a.wd b.wd) (fa : a.ms ≠ 0) (hr : a.rr ≤ b.rr) (w : World) :
    Calls Try.prog 59 #[rowV a, rowV b] w fun e w' => e = .returned (retV (metY a b).1 (metY a b).2 true) ∧ Below w.heap.size w w' := by
  have kd : depthOf a.x b.x a.wd b.wd ≤ 8192 := by have := ga.wd; have := gb.wd; unfold depthOf ab; omega
  have ke : depthOf a.y b.y a.ht b.ht ≤ 8192 := by have := ga.ht; have := gb.ht; unfold depthOf ab; omega
  have em : min a.rr b.rr = a.rr := by omega
  have c1 := good_yes a ((goodB_iff a).2 ga)
  have c2 := good_yes b ((goodB_iff b).2 gb)
  have c3 := depth_any a b ga gb
  have c4 : ∀ w, Calls Try.prog 94 #[rowV a] w fun e w' => e = .returned (.bool false) ∧ Below w.heap.size w w' := fun w => by
    have := fixed_any a w
    rwa [show (a.ms == 0) = false from by simp [fa]] at this
  have hwy := way_or a.y b.y
  obtain ⟨-, -, -, gpx, gpy, -, -, gms, grr⟩ := ga
  obtain ⟨-, -, -, gpx', gpy', -, -, gms', grr'⟩ := gb
  obtain ⟨x, y, px, py, wd, ht, ms, rr⟩ := a
  obtain ⟨x', y', px', py', wd', ht', ms', rr'⟩ := b
  simp only [metY] at *
  rw [em]
  clear em fa
  unfold retV
  unfold rowV at *
  go_enter Try.func59, Try.ntmps59
  go_wp2_with fail
  refine (c1 _).mono ?_
  rintro e w1 ⟨rfl, hb⟩
  obtain ⟨hc, hf⟩ := bcell hb
  have hz := hb.size
  simp at hz
  have h0 : Hid (Below w.heap.size w w1) := bcall (bal (bal (bal (bal (Below.refl _ _) _) _) _) _) hb
  have h4 : Hid (Four w1 w.heap.size ⟨x, y, px, py, wd, ht, ms, rr⟩ ⟨x', y', px', py', wd', ht', ms', rr'⟩) := (Four.made w ⟨x, y, px, py, wd, ht, ms, rr⟩ ⟨x', y', px', py', wd', ht', ms', rr'⟩).below hb
  clear hb
  go_wp2_with fail
  refine (c2 _).mono ?_
  rintro e w2 ⟨rfl, hb⟩
  obtain ⟨hc', hf'⟩ := bcell hb
  replace hc : ∀ b o, b < w.heap.size + 1 + 1 + 1 + 1 → w2.cell? ⟨b, o, none⟩ = _ := fun b o hl => (hc' b o (by omega)).trans (hc b o (by simpa using hl))
  replace hf : ∀ b o, b < w.heap.size + 1 + 1 + 1 + 1 → w2.frozen? ⟨b, o, none⟩ = _ := fun b o hl => (hf' b o (by omega)).trans (hf b o (by simpa using hl))
  have hz' := hb.size
  replace hz := Nat.le_trans hz hz'
  replace h0 : Hid (Below w.heap.size w w2) := bcall h0.out hb
  replace h4 : Hid (Four w2 w.heap.size ⟨x, y, px, py, wd, ht, ms, rr⟩ ⟨x', y', px', py', wd', ht', ms', rr'⟩) := h4.out.below hb
  clear hb hc' hf' hz'
  go_wp2_with fail
  refine (c3 _).mono ?_
  rintro e w3 ⟨rfl, hb⟩
  obtain ⟨hc', hf'⟩ := bcell hb
  replace hc : ∀ b o, b < w.heap.size + 1 + 1 + 1 + 1 → w3.cell? ⟨b, o, none⟩ = _ := fun b o hl => (hc' b o (by omega)).trans (hc b o (by simpa using hl))
  replace hf : ∀ b o, b < w.heap.size + 1 + 1 + 1 + 1 → w3.frozen? ⟨b, o, none⟩ = _ := fun b o hl => (hf' b o (by omega)).trans (hf b o (by simpa using hl))
  have hz' := hb.size
  replace hz := Nat.le_trans hz hz'
  replace h0 : Hid (Below w.heap.size w w3) := bcall h0.out hb
  replace h4 : Hid (Four w3 w.heap.size ⟨x, y, px, py, wd, ht, ms, rr⟩ ⟨x', y', px', py', wd', ht', ms', rr'⟩) := h4.out.below hb
  clear hb hc' hf' hz'
  go_wp2_with fail
  refine (c4 _).mono ?_
  rintro e w4 ⟨rfl, hb⟩
  obtain ⟨hc', hf'⟩ := bcell hb
  replace hc : ∀ b o, b < w.heap.size + 1 + 1 + 1 + 1 → w4.cell? ⟨b, o, none⟩ = _ := fun b o hl => (hc' b o (by omega)).trans (hc b o (by simpa using hl))
  replace hf : ∀ b o, b < w.heap.size + 1 + 1 + 1 + 1 → w4.frozen? ⟨b, o, none⟩ = _ := fun b o hl => (hf' b o (by omega)).trans (hf b o (by simpa using hl))
  have hz' := hb.size
  replace hz := Nat.le_trans hz hz'
  replace h0 : Hid (Below w.heap.size w w4) := bcall h0.out hb
  replace h4 : Hid (Four w4 w.heap.size ⟨x, y, px, py, wd, ht, ms, rr⟩ ⟨x', y', px', py', wd', ht', ms', rr'⟩) := h4.out.below hb
  clear hb hc' hf' hz'
  clear c1 c2 c3 c4
  have n0 : w.heap.size < w4.heap.size := by omega
  have n1 : w.heap.size + 1 < w4.heap.size := by omega
  have n2 : w.heap.size + 1 + 1 < w4.heap.size := by omega
  have n3 : w.heap.size + 1 + 1 + 1 < w4.heap.size := by omega
  go_wp2_with (first | (go_at_call 95; refine (wayTo_any _ _ _).mono ?_; rintro e w' ⟨rfl, rfl⟩))
  refine (passOn_any ms ms' py py' rr (wayOf y y') w.heap.size (w.heap.size + 1) 3 (fld ⟨x, y, px, py, wd, ht, ms, rr⟩) (fld ⟨x', y', px', py', wd', ht', ms', rr'⟩) _ gms gms' gpy gpy' grr hwy (h4.out.a.alloc _) (h4.out.b.alloc _) (by omega) rfl rfl (by omega)).mono ?_
  rintro e w6 ⟨rfl, ra, rb, k⟩
  have m0 : w6.cell? ⟨w4.heap.size, 0, none⟩ = some (.int .i64 ms) := (World.cell?_of_block (k.block w4.heap.size (by simp) (by omega) (by omega))).trans (by simp)
  have m1 : w6.cell? ⟨w4.heap.size, 1, none⟩ = some (.int .i64 ms') := (World.cell?_of_block (k.block w4.heap.size (by simp) (by omega) (by omega))).trans (by simp)
  replace h0 : Hid (Below w.heap.size w w6) := (bal h0.out _).trans (k.below (by omega) (by omega) (by simp; omega))
  have rx : Hid (w6.rowIs (w.heap.size + 1 + 1) 30 8 (fld ⟨0, 0, 0, 0, 0, 0, 0, 0⟩)) := (h4.out.x.alloc _).of_block (k.block _ (by simp; omega) (by omega) (by omega))
  have ry : Hid (w6.rowIs (w.heap.size + 1 + 1 + 1) 30 8 (fld ⟨0, 0, 0, 0, 0, 0, 0, 0⟩)) := (h4.out.y.alloc _).of_block (k.block _ (by simp; omega) (by omega) (by omega))
  have hz6 := k.size
  simp at hz6
  clear hc hf h4 k
  go_wp2_with fail
  refine (moveApart_any ms ms' y y' (depthOf y y' ht ht') (wayOf y y') w.heap.size (w.heap.size + 1) 1 _ _ _ (by omega) hwy ra rb (by omega) rfl rfl (by omega)).mono ?_
  rintro e w7 ⟨rfl, ra7, rb7, k7⟩
  have a0 : w7.cell? ⟨w.heap.size, 0, none⟩ = some (.int .i64 x) := ra7.cell (i := 0) (by omega)
  have a1 : w7.cell? ⟨w.heap.size, 1, none⟩ = some (.int .i64 (atA y ms ms' (depthOf y y' ht ht') (wayOf y y'))) := ra7.cell (i := 1) (by omega)
  have a2 : w7.cell? ⟨w.heap.size, 2, none⟩ = some (.int .i64 px) := ra7.cell (i := 2) (by omega)
  have a3 : w7.cell? ⟨w.heap.size, 3, none⟩ = some (.int .i64 (pushA py py' ms ms' rr (wayOf y y'))) := ra7.cell (i := 3) (by omega)
  have a4 : w7.cell? ⟨w.heap.size, 4, none⟩ = some (.int .i64 wd) := ra7.cell (i := 4) (by omega)
  have a5 : w7.cell? ⟨w.heap.size, 5, none⟩ = some (.int .i64 ht) := ra7.cell (i := 5) (by omega)
  have a6 : w7.cell? ⟨w.heap.size, 6, none⟩ = some (.int .i64 ms) := ra7.cell (i := 6) (by omega)
  have a7 : w7.cell? ⟨w.heap.size, 7, none⟩ = some (.int .i64 rr) := ra7.cell (i := 7) (by omega)
  have b0 : w7.cell? ⟨w.heap.size + 1, 0, none⟩ = some (.int .i64 x') := rb7.cell (i := 0) (by omega)
  have b1 : w7.cell? ⟨w.heap.size + 1, 1, none⟩ = some (.int .i64 (atB y' ms ms' (depthOf y y' ht ht') (wayOf y y'))) := rb7.cell (i := 1) (by omega)
  have b2 : w7.cell? ⟨w.heap.size + 1, 2, none⟩ = some (.int .i64 px') := rb7.cell (i := 2) (by omega)
  have b3 : w7.cell? ⟨w.heap.size + 1, 3, none⟩ = some (.int .i64 (pushB py py' ms ms' rr (wayOf y y'))) := rb7.cell (i := 3) (by omega)
  have b4 : w7.cell? ⟨w.heap.size + 1, 4, none⟩ = some (.int .i64 wd') := rb7.cell (i := 4) (by omega)
  have b5 : w7.cell? ⟨w.heap.size + 1, 5, none⟩ = some (.int .i64 ht') := rb7.cell (i := 5) (by omega)
  have b6 : w7.cell? ⟨w.heap.size + 1, 6, none⟩ = some (.int .i64 ms') := rb7.cell (i := 6) (by omega)
  have b7 : w7.cell? ⟨w.heap.size + 1, 7, none⟩ = some (.int .i64 rr') := rb7.cell (i := 7) (by omega)
  replace h0 : Hid (Below w.heap.size w w7) := h0.out.trans (k7.below (by omega) (by omega) (by omega))
  replace rx := rx.out.of_block (k7.block _ (by omega) (by omega) (by omega))
  replace ry := ry.out.of_block (k7.block _ (by omega) (by omega) (by omega))
  have xc : ∀ o, o < 8 → w7.cell? ⟨w.heap.size + 1 + 1, o, none⟩ = some _ := fun o ho => rx.cell ho
  have yc : ∀ o, o < 8 → w7.cell? ⟨w.heap.size + 1 + 1 + 1, o, none⟩ = some _ := fun o ho => ry.cell ho
  have xf := rx.frozen
  have yf := ry.frozen
  have hz7 := k7.size
  clear k7 ra7 rb7 rx ry ra rb m0 m1
  go_wp2
  go_region
  go_wp2
  refine bodyPost_ret (by simp [results, Try.results59, go_sem, xc, yc]) rfl ⟨rfl, ?_⟩
  refine Below.drew ?_
  iterate 16 refine Below.setCell ?_ (by simp; omega) _
  exact h0.out

set_option maxHeartbeats 8000000 in
theorem meetY_free_hi (a b : R8) (ga : GoodP a) (gb : GoodP b) (hx : 1 ≤ depthOf a.x b.x a.wd b.wd) (hy : 1 ≤ depthOf a.y b.y a.ht b.ht) (hl : depthOf a.y b.y a.ht b.ht ≤ depthOf a.x b.x a.wd b.wd) (fa : a.ms ≠ 0) (hr : b.rr < a.rr) (w : World) :
    Calls Try.prog 59 #[rowV a, rowV b] w fun e w' => e = .returned (retV (metY a b).1 (metY a b).2 true) ∧ Below w.heap.size w w' := by
  have kd : depthOf a.x b.x a.wd b.wd ≤ 8192 := by have := ga.wd; have := gb.wd; unfold depthOf ab; omega
  have ke : depthOf a.y b.y a.ht b.ht ≤ 8192 := by have := ga.ht; have := gb.ht; unfold depthOf ab; omega
  have em : min a.rr b.rr = b.rr := by omega
  have c1 := good_yes a ((goodB_iff a).2 ga)
  have c2 := good_yes b ((goodB_iff b).2 gb)
  have c3 := depth_any a b ga gb
  have c4 : ∀ w, Calls Try.prog 94 #[rowV a] w fun e w' => e = .returned (.bool false) ∧ Below w.heap.size w w' := fun w => by
    have := fixed_any a w
    rwa [show (a.ms == 0) = false from by simp [fa]] at this
  have hwy := way_or a.y b.y
  obtain ⟨-, -, -, gpx, gpy, -, -, gms, grr⟩ := ga
  obtain ⟨-, -, -, gpx', gpy', -, -, gms', grr'⟩ := gb
  obtain ⟨x, y, px, py, wd, ht, ms, rr⟩ := a
  obtain ⟨x', y', px', py', wd', ht', ms', rr'⟩ := b
  simp only [metY] at *
  rw [em]
  clear em fa
  unfold retV
  unfold rowV at *
  go_enter Try.func59, Try.ntmps59
  go_wp2_with fail
  refine (c1 _).mono ?_
  rintro e w1 ⟨rfl, hb⟩
  obtain ⟨hc, hf⟩ := bcell hb
  have hz := hb.size
  simp at hz
  have h0 : Hid (Below w.heap.size w w1) := bcall (bal (bal (bal (bal (Below.refl _ _) _) _) _) _) hb
  have h4 : Hid (Four w1 w.heap.size ⟨x, y, px, py, wd, ht, ms, rr⟩ ⟨x', y', px', py', wd', ht', ms', rr'⟩) := (Four.made w ⟨x, y, px, py, wd, ht, ms, rr⟩ ⟨x', y', px', py', wd', ht', ms', rr'⟩).below hb
  clear hb
  go_wp2_with fail
  refine (c2 _).mono ?_
  rintro e w2 ⟨rfl, hb⟩
  obtain ⟨hc', hf'⟩ := bcell hb
  replace hc : ∀ b o, b < w.heap.size + 1 + 1 + 1 + 1 → w2.cell? ⟨b, o, none⟩ = _ := fun b o hl => (hc' b o (by omega)).trans (hc b o (by simpa using hl))
  replace hf : ∀ b o, b < w.heap.size + 1 + 1 + 1 + 1 → w2.frozen? ⟨b, o, none⟩ = _ := fun b o hl => (hf' b o (by omega)).trans (hf b o (by simpa using hl))
  have hz' := hb.size
  replace hz := Nat.le_trans hz hz'
  replace h0 : Hid (Below w.heap.size w w2) := bcall h0.out hb
  replace h4 : Hid (Four w2 w.heap.size ⟨x, y, px, py, wd, ht, ms, rr⟩ ⟨x', y', px', py', wd', ht', ms', rr'⟩) := h4.out.below hb
  clear hb hc' hf' hz'
  go_wp2_with fail
  refine (c3 _).mono ?_
  rintro e w3 ⟨rfl, hb⟩
  obtain ⟨hc', hf'⟩ := bcell hb
  replace hc : ∀ b o, b < w.heap.size + 1 + 1 + 1 + 1 → w3.cell? ⟨b, o, none⟩ = _ := fun b o hl => (hc' b o (by omega)).trans (hc b o (by simpa using hl))
  replace hf : ∀ b o, b < w.heap.size + 1 + 1 + 1 + 1 → w3.frozen? ⟨b, o, none⟩ = _ := fun b o hl => (hf' b o (by omega)).trans (hf b o (by simpa using hl))
  have hz' := hb.size
  replace hz := Nat.le_trans hz hz'
  replace h0 : Hid (Below w.heap.size w w3) := bcall h0.out hb
  replace h4 : Hid (Four w3 w.heap.size ⟨x, y, px, py, wd, ht, ms, rr⟩ ⟨x', y', px', py', wd', ht', ms', rr'⟩) := h4.out.below hb
  clear hb hc' hf' hz'
  go_wp2_with fail
  refine (c4 _).mono ?_
  rintro e w4 ⟨rfl, hb⟩
  obtain ⟨hc', hf'⟩ := bcell hb
  replace hc : ∀ b o, b < w.heap.size + 1 + 1 + 1 + 1 → w4.cell? ⟨b, o, none⟩ = _ := fun b o hl => (hc' b o (by omega)).trans (hc b o (by simpa using hl))
  replace hf : ∀ b o, b < w.heap.size + 1 + 1 + 1 + 1 → w4.frozen? ⟨b, o, none⟩ = _ := fun b o hl => (hf' b o (by omega)).trans (hf b o (by simpa using hl))
  have hz' := hb.size
  replace hz := Nat.le_trans hz hz'
  replace h0 : Hid (Below w.heap.size w w4) := bcall h0.out hb
  replace h4 : Hid (Four w4 w.heap.size ⟨x, y, px, py, wd, ht, ms, rr⟩ ⟨x', y', px', py', wd', ht', ms', rr'⟩) := h4.out.below hb
  clear hb hc' hf' hz'
  clear c1 c2 c3 c4
  have n0 : w.heap.size < w4.heap.size := by omega
  have n1 : w.heap.size + 1 < w4.heap.size := by omega
  have n2 : w.heap.size + 1 + 1 < w4.heap.size := by omega
  have n3 : w.heap.size + 1 + 1 + 1 < w4.heap.size := by omega
  go_wp2_with (first | (go_at_call 95; refine (wayTo_any _ _ _).mono ?_; rintro e w' ⟨rfl, rfl⟩))
  refine (passOn_any ms ms' py py' rr' (wayOf y y') w.heap.size (w.heap.size + 1) 3 (fld ⟨x, y, px, py, wd, ht, ms, rr⟩) (fld ⟨x', y', px', py', wd', ht', ms', rr'⟩) _ gms gms' gpy gpy' grr' hwy (h4.out.a.alloc _) (h4.out.b.alloc _) (by omega) rfl rfl (by omega)).mono ?_
  rintro e w6 ⟨rfl, ra, rb, k⟩
  have m0 : w6.cell? ⟨w4.heap.size, 0, none⟩ = some (.int .i64 ms) := (World.cell?_of_block (k.block w4.heap.size (by simp) (by omega) (by omega))).trans (by simp)
  have m1 : w6.cell? ⟨w4.heap.size, 1, none⟩ = some (.int .i64 ms') := (World.cell?_of_block (k.block w4.heap.size (by simp) (by omega) (by omega))).trans (by simp)
  replace h0 : Hid (Below w.heap.size w w6) := (bal h0.out _).trans (k.below (by omega) (by omega) (by simp; omega))
  have rx : Hid (w6.rowIs (w.heap.size + 1 + 1) 30 8 (fld ⟨0, 0, 0, 0, 0, 0, 0, 0⟩)) := (h4.out.x.alloc _).of_block (k.block _ (by simp; omega) (by omega) (by omega))
  have ry : Hid (w6.rowIs (w.heap.size + 1 + 1 + 1) 30 8 (fld ⟨0, 0, 0, 0, 0, 0, 0, 0⟩)) := (h4.out.y.alloc _).of_block (k.block _ (by simp; omega) (by omega) (by omega))
  have hz6 := k.size
  simp at hz6
  clear hc hf h4 k
  go_wp2_with fail
  refine (moveApart_any ms ms' y y' (depthOf y y' ht ht') (wayOf y y') w.heap.size (w.heap.size + 1) 1 _ _ _ (by omega) hwy ra rb (by omega) rfl rfl (by omega)).mono ?_
  rintro e w7 ⟨rfl, ra7, rb7, k7⟩
  have a0 : w7.cell? ⟨w.heap.size, 0, none⟩ = some (.int .i64 x) := ra7.cell (i := 0) (by omega)
  have a1 : w7.cell? ⟨w.heap.size, 1, none⟩ = some (.int .i64 (atA y ms ms' (depthOf y y' ht ht') (wayOf y y'))) := ra7.cell (i := 1) (by omega)
  have a2 : w7.cell? ⟨w.heap.size, 2, none⟩ = some (.int .i64 px) := ra7.cell (i := 2) (by omega)
  have a3 : w7.cell? ⟨w.heap.size, 3, none⟩ = some (.int .i64 (pushA py py' ms ms' rr' (wayOf y y'))) := ra7.cell (i := 3) (by omega)
  have a4 : w7.cell? ⟨w.heap.size, 4, none⟩ = some (.int .i64 wd) := ra7.cell (i := 4) (by omega)
  have a5 : w7.cell? ⟨w.heap.size, 5, none⟩ = some (.int .i64 ht) := ra7.cell (i := 5) (by omega)
  have a6 : w7.cell? ⟨w.heap.size, 6, none⟩ = some (.int .i64 ms) := ra7.cell (i := 6) (by omega)
  have a7 : w7.cell? ⟨w.heap.size, 7, none⟩ = some (.int .i64 rr) := ra7.cell (i := 7) (by omega)
  have b0 : w7.cell? ⟨w.heap.size + 1, 0, none⟩ = some (.int .i64 x') := rb7.cell (i := 0) (by omega)
  have b1 : w7.cell? ⟨w.heap.size + 1, 1, none⟩ = some (.int .i64 (atB y' ms ms' (depthOf y y' ht ht') (wayOf y y'))) := rb7.cell (i := 1) (by omega)
  have b2 : w7.cell? ⟨w.heap.size + 1, 2, none⟩ = some (.int .i64 px') := rb7.cell (i := 2) (by omega)
  have b3 : w7.cell? ⟨w.heap.size + 1, 3, none⟩ = some (.int .i64 (pushB py py' ms ms' rr' (wayOf y y'))) := rb7.cell (i := 3) (by omega)
  have b4 : w7.cell? ⟨w.heap.size + 1, 4, none⟩ = some (.int .i64 wd') := rb7.cell (i := 4) (by omega)
  have b5 : w7.cell? ⟨w.heap.size + 1, 5, none⟩ = some (.int .i64 ht') := rb7.cell (i := 5) (by omega)
  have b6 : w7.cell? ⟨w.heap.size + 1, 6, none⟩ = some (.int .i64 ms') := rb7.cell (i := 6) (by omega)
  have b7 : w7.cell? ⟨w.heap.size + 1, 7, none⟩ = some (.int .i64 rr') := rb7.cell (i := 7) (by omega)
  replace h0 : Hid (Below w.heap.size w w7) := h0.out.trans (k7.below (by omega) (by omega) (by omega))
  replace rx := rx.out.of_block (k7.block _ (by omega) (by omega) (by omega))
  replace ry := ry.out.of_block (k7.block _ (by omega) (by omega) (by omega))
  have xc : ∀ o, o < 8 → w7.cell? ⟨w.heap.size + 1 + 1, o, none⟩ = some _ := fun o ho => rx.cell ho
  have yc : ∀ o, o < 8 → w7.cell? ⟨w.heap.size + 1 + 1 + 1, o, none⟩ = some _ := fun o ho => ry.cell ho
  have xf := rx.frozen
  have yf := ry.frozen
  have hz7 := k7.size
  clear k7 ra7 rb7 rx ry ra rb m0 m1
  go_wp2
  go_region
  go_wp2
  refine bodyPost_ret (by simp [results, Try.results59, go_sem, xc, yc]) rfl ⟨rfl, ?_⟩
  refine Below.drew ?_
  iterate 16 refine Below.setCell ?_ (by simp; omega) _
  exact h0.out

set_option maxHeartbeats 8000000 in
theorem meetY_fixed_lo (a b : R8) (ga : GoodP a) (gb : GoodP b) (hx : 1 ≤ depthOf a.x b.x a.wd b.wd) (hy : 1 ≤ depthOf a.y b.y a.ht b.ht) (hl : depthOf a.y b.y a.ht b.ht ≤ depthOf a.x b.x a.wd b.wd) (fa : a.ms = 0) (fb : b.ms ≠ 0) (hr : a.rr ≤ b.rr) (w : World) :
    Calls Try.prog 59 #[rowV a, rowV b] w fun e w' => e = .returned (retV (metY a b).1 (metY a b).2 true) ∧ Below w.heap.size w w' := by
  have kd : depthOf a.x b.x a.wd b.wd ≤ 8192 := by have := ga.wd; have := gb.wd; unfold depthOf ab; omega
  have ke : depthOf a.y b.y a.ht b.ht ≤ 8192 := by have := ga.ht; have := gb.ht; unfold depthOf ab; omega
  have em : min a.rr b.rr = a.rr := by omega
  have c1 := good_yes a ((goodB_iff a).2 ga)
  have c2 := good_yes b ((goodB_iff b).2 gb)
  have c3 := depth_any a b ga gb
  have c4 : ∀ w, Calls Try.prog 94 #[rowV a] w fun e w' => e = .returned (.bool true) ∧ Below w.heap.size w w' := fun w => by
    have := fixed_any a w
    rwa [show (a.ms == 0) = true from by simp [fa]] at this
  have c5 : ∀ w, Calls Try.prog 94 #[rowV b] w fun e w' => e = .returned (.bool false) ∧ Below w.heap.size w w' := fun w => by
    have := fixed_any b w
    rwa [show (b.ms == 0) = false from by simp [fb]] at this
  have hwy := way_or a.y b.y
  obtain ⟨-, -, -, gpx, gpy, -, -, gms, grr⟩ := ga
  obtain ⟨-, -, -, gpx', gpy', -, -, gms', grr'⟩ := gb
  obtain ⟨x, y, px, py, wd, ht, ms, rr⟩ := a
  obtain ⟨x', y', px', py', wd', ht', ms', rr'⟩ := b
  simp only [metY] at *
  rw [em]
  clear em fa fb
  unfold retV
  unfold rowV at *
  go_enter Try.func59, Try.ntmps59
  go_wp2_with fail
  refine (c1 _).mono ?_
  rintro e w1 ⟨rfl, hb⟩
  obtain ⟨hc, hf⟩ := bcell hb
  have hz := hb.size
  simp at hz
  have h0 : Hid (Below w.heap.size w w1) := bcall (bal (bal (bal (bal (Below.refl _ _) _) _) _) _) hb
  have h4 : Hid (Four w1 w.heap.size ⟨x, y, px, py, wd, ht, ms, rr⟩ ⟨x', y', px', py', wd', ht', ms', rr'⟩) := (Four.made w ⟨x, y, px, py, wd, ht, ms, rr⟩ ⟨x', y', px', py', wd', ht', ms', rr'⟩).below hb
  clear hb
  go_wp2_with fail
  refine (c2 _).mono ?_
  rintro e w2 ⟨rfl, hb⟩
  obtain ⟨hc', hf'⟩ := bcell hb
  replace hc : ∀ b o, b < w.heap.size + 1 + 1 + 1 + 1 → w2.cell? ⟨b, o, none⟩ = _ := fun b o hl => (hc' b o (by omega)).trans (hc b o (by simpa using hl))
  replace hf : ∀ b o, b < w.heap.size + 1 + 1 + 1 + 1 → w2.frozen? ⟨b, o, none⟩ = _ := fun b o hl => (hf' b o (by omega)).trans (hf b o (by simpa using hl))
  have hz' := hb.size
  replace hz := Nat.le_trans hz hz'
  replace h0 : Hid (Below w.heap.size w w2) := bcall h0.out hb
  replace h4 : Hid (Four w2 w.heap.size ⟨x, y, px, py, wd, ht, ms, rr⟩ ⟨x', y', px', py', wd', ht', ms', rr'⟩) := h4.out.below hb
  clear hb hc' hf' hz'
  go_wp2_with fail
  refine (c3 _).mono ?_
  rintro e w3 ⟨rfl, hb⟩
  obtain ⟨hc', hf'⟩ := bcell hb
  replace hc : ∀ b o, b < w.heap.size + 1 + 1 + 1 + 1 → w3.cell? ⟨b, o, none⟩ = _ := fun b o hl => (hc' b o (by omega)).trans (hc b o (by simpa using hl))
  replace hf : ∀ b o, b < w.heap.size + 1 + 1 + 1 + 1 → w3.frozen? ⟨b, o, none⟩ = _ := fun b o hl => (hf' b o (by omega)).trans (hf b o (by simpa using hl))
  have hz' := hb.size
  replace hz := Nat.le_trans hz hz'
  replace h0 : Hid (Below w.heap.size w w3) := bcall h0.out hb
  replace h4 : Hid (Four w3 w.heap.size ⟨x, y, px, py, wd, ht, ms, rr⟩ ⟨x', y', px', py', wd', ht', ms', rr'⟩) := h4.out.below hb
  clear hb hc' hf' hz'
  go_wp2_with fail
  refine (c4 _).mono ?_
  rintro e w4 ⟨rfl, hb⟩
  obtain ⟨hc', hf'⟩ := bcell hb
  replace hc : ∀ b o, b < w.heap.size + 1 + 1 + 1 + 1 → w4.cell? ⟨b, o, none⟩ = _ := fun b o hl => (hc' b o (by omega)).trans (hc b o (by simpa using hl))
  replace hf : ∀ b o, b < w.heap.size + 1 + 1 + 1 + 1 → w4.frozen? ⟨b, o, none⟩ = _ := fun b o hl => (hf' b o (by omega)).trans (hf b o (by simpa using hl))
  have hz' := hb.size
  replace hz := Nat.le_trans hz hz'
  replace h0 : Hid (Below w.heap.size w w4) := bcall h0.out hb
  replace h4 : Hid (Four w4 w.heap.size ⟨x, y, px, py, wd, ht, ms, rr⟩ ⟨x', y', px', py', wd', ht', ms', rr'⟩) := h4.out.below hb
  clear hb hc' hf' hz'
  go_wp2_with fail
  refine (c5 _).mono ?_
  rintro e w5 ⟨rfl, hb⟩
  obtain ⟨hc', hf'⟩ := bcell hb
  replace hc : ∀ b o, b < w.heap.size + 1 + 1 + 1 + 1 → w5.cell? ⟨b, o, none⟩ = _ := fun b o hl => (hc' b o (by omega)).trans (hc b o (by simpa using hl))
  replace hf : ∀ b o, b < w.heap.size + 1 + 1 + 1 + 1 → w5.frozen? ⟨b, o, none⟩ = _ := fun b o hl => (hf' b o (by omega)).trans (hf b o (by simpa using hl))
  have hz' := hb.size
  replace hz := Nat.le_trans hz hz'
  replace h0 : Hid (Below w.heap.size w w5) := bcall h0.out hb
  replace h4 : Hid (Four w5 w.heap.size ⟨x, y, px, py, wd, ht, ms, rr⟩ ⟨x', y', px', py', wd', ht', ms', rr'⟩) := h4.out.below hb
  clear hb hc' hf' hz'
  clear c1 c2 c3 c4 c5
  have n0 : w.heap.size < w5.heap.size := by omega
  have n1 : w.heap.size + 1 < w5.heap.size := by omega
  have n2 : w.heap.size + 1 + 1 < w5.heap.size := by omega
  have n3 : w.heap.size + 1 + 1 + 1 < w5.heap.size := by omega
  go_wp2_with (first | (go_at_call 95; refine (wayTo_any _ _ _).mono ?_; rintro e w' ⟨rfl, rfl⟩))
  refine (passOn_any ms ms' py py' rr (wayOf y y') w.heap.size (w.heap.size + 1) 3 (fld ⟨x, y, px, py, wd, ht, ms, rr⟩) (fld ⟨x', y', px', py', wd', ht', ms', rr'⟩) _ gms gms' gpy gpy' grr hwy (h4.out.a.alloc _) (h4.out.b.alloc _) (by omega) rfl rfl (by omega)).mono ?_
  rintro e w6 ⟨rfl, ra, rb, k⟩
  have m0 : w6.cell? ⟨w5.heap.size, 0, none⟩ = some (.int .i64 ms) := (World.cell?_of_block (k.block w5.heap.size (by simp) (by omega) (by omega))).trans (by simp)
  have m1 : w6.cell? ⟨w5.heap.size, 1, none⟩ = some (.int .i64 ms') := (World.cell?_of_block (k.block w5.heap.size (by simp) (by omega) (by omega))).trans (by simp)
  replace h0 : Hid (Below w.heap.size w w6) := (bal h0.out _).trans (k.below (by omega) (by omega) (by simp; omega))
  have rx : Hid (w6.rowIs (w.heap.size + 1 + 1) 30 8 (fld ⟨0, 0, 0, 0, 0, 0, 0, 0⟩)) := (h4.out.x.alloc _).of_block (k.block _ (by simp; omega) (by omega) (by omega))
  have ry : Hid (w6.rowIs (w.heap.size + 1 + 1 + 1) 30 8 (fld ⟨0, 0, 0, 0, 0, 0, 0, 0⟩)) := (h4.out.y.alloc _).of_block (k.block _ (by simp; omega) (by omega) (by omega))
  have hz6 := k.size
  simp at hz6
  clear hc hf h4 k
  go_wp2_with fail
  refine (moveApart_any ms ms' y y' (depthOf y y' ht ht') (wayOf y y') w.heap.size (w.heap.size + 1) 1 _ _ _ (by omega) hwy ra rb (by omega) rfl rfl (by omega)).mono ?_
  rintro e w7 ⟨rfl, ra7, rb7, k7⟩
  have a0 : w7.cell? ⟨w.heap.size, 0, none⟩ = some (.int .i64 x) := ra7.cell (i := 0) (by omega)
  have a1 : w7.cell? ⟨w.heap.size, 1, none⟩ = some (.int .i64 (atA y ms ms' (depthOf y y' ht ht') (wayOf y y'))) := ra7.cell (i := 1) (by omega)
  have a2 : w7.cell? ⟨w.heap.size, 2, none⟩ = some (.int .i64 px) := ra7.cell (i := 2) (by omega)
  have a3 : w7.cell? ⟨w.heap.size, 3, none⟩ = some (.int .i64 (pushA py py' ms ms' rr (wayOf y y'))) := ra7.cell (i := 3) (by omega)
  have a4 : w7.cell? ⟨w.heap.size, 4, none⟩ = some (.int .i64 wd) := ra7.cell (i := 4) (by omega)
  have a5 : w7.cell? ⟨w.heap.size, 5, none⟩ = some (.int .i64 ht) := ra7.cell (i := 5) (by omega)
  have a6 : w7.cell? ⟨w.heap.size, 6, none⟩ = some (.int .i64 ms) := ra7.cell (i := 6) (by omega)
  have a7 : w7.cell? ⟨w.heap.size, 7, none⟩ = some (.int .i64 rr) := ra7.cell (i := 7) (by omega)
  have b0 : w7.cell? ⟨w.heap.size + 1, 0, none⟩ = some (.int .i64 x') := rb7.cell (i := 0) (by omega)
  have b1 : w7.cell? ⟨w.heap.size + 1, 1, none⟩ = some (.int .i64 (atB y' ms ms' (depthOf y y' ht ht') (wayOf y y'))) := rb7.cell (i := 1) (by omega)
  have b2 : w7.cell? ⟨w.heap.size + 1, 2, none⟩ = some (.int .i64 px') := rb7.cell (i := 2) (by omega)
  have b3 : w7.cell? ⟨w.heap.size + 1, 3, none⟩ = some (.int .i64 (pushB py py' ms ms' rr (wayOf y y'))) := rb7.cell (i := 3) (by omega)
  have b4 : w7.cell? ⟨w.heap.size + 1, 4, none⟩ = some (.int .i64 wd') := rb7.cell (i := 4) (by omega)
  have b5 : w7.cell? ⟨w.heap.size + 1, 5, none⟩ = some (.int .i64 ht') := rb7.cell (i := 5) (by omega)
  have b6 : w7.cell? ⟨w.heap.size + 1, 6, none⟩ = some (.int .i64 ms') := rb7.cell (i := 6) (by omega)
  have b7 : w7.cell? ⟨w.heap.size + 1, 7, none⟩ = some (.int .i64 rr') := rb7.cell (i := 7) (by omega)
  replace h0 : Hid (Below w.heap.size w w7) := h0.out.trans (k7.below (by omega) (by omega) (by omega))
  replace rx := rx.out.of_block (k7.block _ (by omega) (by omega) (by omega))
  replace ry := ry.out.of_block (k7.block _ (by omega) (by omega) (by omega))
  have xc : ∀ o, o < 8 → w7.cell? ⟨w.heap.size + 1 + 1, o, none⟩ = some _ := fun o ho => rx.cell ho
  have yc : ∀ o, o < 8 → w7.cell? ⟨w.heap.size + 1 + 1 + 1, o, none⟩ = some _ := fun o ho => ry.cell ho
  have xf := rx.frozen
  have yf := ry.frozen
  have hz7 := k7.size
  clear k7 ra7 rb7 rx ry ra rb m0 m1
  go_wp2
  go_region
  go_wp2
  refine bodyPost_ret (by simp [results, Try.results59, go_sem, xc, yc]) rfl ⟨rfl, ?_⟩
  refine Below.drew ?_
  iterate 16 refine Below.setCell ?_ (by simp; omega) _
  exact h0.out

set_option maxHeartbeats 8000000 in
theorem meetY_fixed_hi (a b : R8) (ga : GoodP a) (gb : GoodP b) (hx : 1 ≤ depthOf a.x b.x a.wd b.wd) (hy : 1 ≤ depthOf a.y b.y a.ht b.ht) (hl : depthOf a.y b.y a.ht b.ht ≤ depthOf a.x b.x a.wd b.wd) (fa : a.ms = 0) (fb : b.ms ≠ 0) (hr : b.rr < a.rr) (w : World) :
    Calls Try.prog 59 #[rowV a, rowV b] w fun e w' => e = .returned (retV (metY a b).1 (metY a b).2 true) ∧ Below w.heap.size w w' := by
  have kd : depthOf a.x b.x a.wd b.wd ≤ 8192 := by have := ga.wd; have := gb.wd; unfold depthOf ab; omega
  have ke : depthOf a.y b.y a.ht b.ht ≤ 8192 := by have := ga.ht; have := gb.ht; unfold depthOf ab; omega
  have em : min a.rr b.rr = b.rr := by omega
  have c1 := good_yes a ((goodB_iff a).2 ga)
  have c2 := good_yes b ((goodB_iff b).2 gb)
  have c3 := depth_any a b ga gb
  have c4 : ∀ w, Calls Try.prog 94 #[rowV a] w fun e w' => e = .returned (.bool true) ∧ Below w.heap.size w w' := fun w => by
    have := fixed_any a w
    rwa [show (a.ms == 0) = true from by simp [fa]] at this
  have c5 : ∀ w, Calls Try.prog 94 #[rowV b] w fun e w' => e = .returned (.bool false) ∧ Below w.heap.size w w' := fun w => by
    have := fixed_any b w
    rwa [show (b.ms == 0) = false from by simp [fb]] at this
  have hwy := way_or a.y b.y
  obtain ⟨-, -, -, gpx, gpy, -, -, gms, grr⟩ := ga
  obtain ⟨-, -, -, gpx', gpy', -, -, gms', grr'⟩ := gb
  obtain ⟨x, y, px, py, wd, ht, ms, rr⟩ := a
  obtain ⟨x', y', px', py', wd', ht', ms', rr'⟩ := b
  simp only [metY] at *
  rw [em]
  clear em fa fb
  unfold retV
  unfold rowV at *
  go_enter Try.func59, Try.ntmps59
  go_wp2_with fail
  refine (c1 _).mono ?_
  rintro e w1 ⟨rfl, hb⟩
  obtain ⟨hc, hf⟩ := bcell hb
  have hz := hb.size
  simp at hz
  have h0 : Hid (Below w.heap.size w w1) := bcall (bal (bal (bal (bal (Below.refl _ _) _) _) _) _) hb
  have h4 : Hid (Four w1 w.heap.size ⟨x, y, px, py, wd, ht, ms, rr⟩ ⟨x', y', px', py', wd', ht', ms', rr'⟩) := (Four.made w ⟨x, y, px, py, wd, ht, ms, rr⟩ ⟨x', y', px', py', wd', ht', ms', rr'⟩).below hb
  clear hb
  go_wp2_with fail
  refine (c2 _).mono ?_
  rintro e w2 ⟨rfl, hb⟩
  obtain ⟨hc', hf'⟩ := bcell hb
  replace hc : ∀ b o, b < w.heap.size + 1 + 1 + 1 + 1 → w2.cell? ⟨b, o, none⟩ = _ := fun b o hl => (hc' b o (by omega)).trans (hc b o (by simpa using hl))
  replace hf : ∀ b o, b < w.heap.size + 1 + 1 + 1 + 1 → w2.frozen? ⟨b, o, none⟩ = _ := fun b o hl => (hf' b o (by omega)).trans (hf b o (by simpa using hl))
  have hz' := hb.size
  replace hz := Nat.le_trans hz hz'
  replace h0 : Hid (Below w.heap.size w w2) := bcall h0.out hb
  replace h4 : Hid (Four w2 w.heap.size ⟨x, y, px, py, wd, ht, ms, rr⟩ ⟨x', y', px', py', wd', ht', ms', rr'⟩) := h4.out.below hb
  clear hb hc' hf' hz'
  go_wp2_with fail
  refine (c3 _).mono ?_
  rintro e w3 ⟨rfl, hb⟩
  obtain ⟨hc', hf'⟩ := bcell hb
  replace hc : ∀ b o, b < w.heap.size + 1 + 1 + 1 + 1 → w3.cell? ⟨b, o, none⟩ = _ := fun b o hl => (hc' b o (by omega)).trans (hc b o (by simpa using hl))
  replace hf : ∀ b o, b < w.heap.size + 1 + 1 + 1 + 1 → w3.frozen? ⟨b, o, none⟩ = _ := fun b o hl => (hf' b o (by omega)).trans (hf b o (by simpa using hl))
  have hz' := hb.size
  replace hz := Nat.le_trans hz hz'
  replace h0 : Hid (Below w.heap.size w w3) := bcall h0.out hb
  replace h4 : Hid (Four w3 w.heap.size ⟨x, y, px, py, wd, ht, ms, rr⟩ ⟨x', y', px', py', wd', ht', ms', rr'⟩) := h4.out.below hb
  clear hb hc' hf' hz'
  go_wp2_with fail
  refine (c4 _).mono ?_
  rintro e w4 ⟨rfl, hb⟩
  obtain ⟨hc', hf'⟩ := bcell hb
  replace hc : ∀ b o, b < w.heap.size + 1 + 1 + 1 + 1 → w4.cell? ⟨b, o, none⟩ = _ := fun b o hl => (hc' b o (by omega)).trans (hc b o (by simpa using hl))
  replace hf : ∀ b o, b < w.heap.size + 1 + 1 + 1 + 1 → w4.frozen? ⟨b, o, none⟩ = _ := fun b o hl => (hf' b o (by omega)).trans (hf b o (by simpa using hl))
  have hz' := hb.size
  replace hz := Nat.le_trans hz hz'
  replace h0 : Hid (Below w.heap.size w w4) := bcall h0.out hb
  replace h4 : Hid (Four w4 w.heap.size ⟨x, y, px, py, wd, ht, ms, rr⟩ ⟨x', y', px', py', wd', ht', ms', rr'⟩) := h4.out.below hb
  clear hb hc' hf' hz'
  go_wp2_with fail
  refine (c5 _).mono ?_
  rintro e w5 ⟨rfl, hb⟩
  obtain ⟨hc', hf'⟩ := bcell hb
  replace hc : ∀ b o, b < w.heap.size + 1 + 1 + 1 + 1 → w5.cell? ⟨b, o, none⟩ = _ := fun b o hl => (hc' b o (by omega)).trans (hc b o (by simpa using hl))
  replace hf : ∀ b o, b < w.heap.size + 1 + 1 + 1 + 1 → w5.frozen? ⟨b, o, none⟩ = _ := fun b o hl => (hf' b o (by omega)).trans (hf b o (by simpa using hl))
  have hz' := hb.size
  replace hz := Nat.le_trans hz hz'
  replace h0 : Hid (Below w.heap.size w w5) := bcall h0.out hb
  replace h4 : Hid (Four w5 w.heap.size ⟨x, y, px, py, wd, ht, ms, rr⟩ ⟨x', y', px', py', wd', ht', ms', rr'⟩) := h4.out.below hb
  clear hb hc' hf' hz'
  clear c1 c2 c3 c4 c5
  have n0 : w.heap.size < w5.heap.size := by omega
  have n1 : w.heap.size + 1 < w5.heap.size := by omega
  have n2 : w.heap.size + 1 + 1 < w5.heap.size := by omega
  have n3 : w.heap.size + 1 + 1 + 1 < w5.heap.size := by omega
  go_wp2_with (first | (go_at_call 95; refine (wayTo_any _ _ _).mono ?_; rintro e w' ⟨rfl, rfl⟩))
  refine (passOn_any ms ms' py py' rr' (wayOf y y') w.heap.size (w.heap.size + 1) 3 (fld ⟨x, y, px, py, wd, ht, ms, rr⟩) (fld ⟨x', y', px', py', wd', ht', ms', rr'⟩) _ gms gms' gpy gpy' grr' hwy (h4.out.a.alloc _) (h4.out.b.alloc _) (by omega) rfl rfl (by omega)).mono ?_
  rintro e w6 ⟨rfl, ra, rb, k⟩
  have m0 : w6.cell? ⟨w5.heap.size, 0, none⟩ = some (.int .i64 ms) := (World.cell?_of_block (k.block w5.heap.size (by simp) (by omega) (by omega))).trans (by simp)
  have m1 : w6.cell? ⟨w5.heap.size, 1, none⟩ = some (.int .i64 ms') := (World.cell?_of_block (k.block w5.heap.size (by simp) (by omega) (by omega))).trans (by simp)
  replace h0 : Hid (Below w.heap.size w w6) := (bal h0.out _).trans (k.below (by omega) (by omega) (by simp; omega))
  have rx : Hid (w6.rowIs (w.heap.size + 1 + 1) 30 8 (fld ⟨0, 0, 0, 0, 0, 0, 0, 0⟩)) := (h4.out.x.alloc _).of_block (k.block _ (by simp; omega) (by omega) (by omega))
  have ry : Hid (w6.rowIs (w.heap.size + 1 + 1 + 1) 30 8 (fld ⟨0, 0, 0, 0, 0, 0, 0, 0⟩)) := (h4.out.y.alloc _).of_block (k.block _ (by simp; omega) (by omega) (by omega))
  have hz6 := k.size
  simp at hz6
  clear hc hf h4 k
  go_wp2_with fail
  refine (moveApart_any ms ms' y y' (depthOf y y' ht ht') (wayOf y y') w.heap.size (w.heap.size + 1) 1 _ _ _ (by omega) hwy ra rb (by omega) rfl rfl (by omega)).mono ?_
  rintro e w7 ⟨rfl, ra7, rb7, k7⟩
  have a0 : w7.cell? ⟨w.heap.size, 0, none⟩ = some (.int .i64 x) := ra7.cell (i := 0) (by omega)
  have a1 : w7.cell? ⟨w.heap.size, 1, none⟩ = some (.int .i64 (atA y ms ms' (depthOf y y' ht ht') (wayOf y y'))) := ra7.cell (i := 1) (by omega)
  have a2 : w7.cell? ⟨w.heap.size, 2, none⟩ = some (.int .i64 px) := ra7.cell (i := 2) (by omega)
  have a3 : w7.cell? ⟨w.heap.size, 3, none⟩ = some (.int .i64 (pushA py py' ms ms' rr' (wayOf y y'))) := ra7.cell (i := 3) (by omega)
  have a4 : w7.cell? ⟨w.heap.size, 4, none⟩ = some (.int .i64 wd) := ra7.cell (i := 4) (by omega)
  have a5 : w7.cell? ⟨w.heap.size, 5, none⟩ = some (.int .i64 ht) := ra7.cell (i := 5) (by omega)
  have a6 : w7.cell? ⟨w.heap.size, 6, none⟩ = some (.int .i64 ms) := ra7.cell (i := 6) (by omega)
  have a7 : w7.cell? ⟨w.heap.size, 7, none⟩ = some (.int .i64 rr) := ra7.cell (i := 7) (by omega)
  have b0 : w7.cell? ⟨w.heap.size + 1, 0, none⟩ = some (.int .i64 x') := rb7.cell (i := 0) (by omega)
  have b1 : w7.cell? ⟨w.heap.size + 1, 1, none⟩ = some (.int .i64 (atB y' ms ms' (depthOf y y' ht ht') (wayOf y y'))) := rb7.cell (i := 1) (by omega)
  have b2 : w7.cell? ⟨w.heap.size + 1, 2, none⟩ = some (.int .i64 px') := rb7.cell (i := 2) (by omega)
  have b3 : w7.cell? ⟨w.heap.size + 1, 3, none⟩ = some (.int .i64 (pushB py py' ms ms' rr' (wayOf y y'))) := rb7.cell (i := 3) (by omega)
  have b4 : w7.cell? ⟨w.heap.size + 1, 4, none⟩ = some (.int .i64 wd') := rb7.cell (i := 4) (by omega)
  have b5 : w7.cell? ⟨w.heap.size + 1, 5, none⟩ = some (.int .i64 ht') := rb7.cell (i := 5) (by omega)
  have b6 : w7.cell? ⟨w.heap.size + 1, 6, none⟩ = some (.int .i64 ms') := rb7.cell (i := 6) (by omega)
  have b7 : w7.cell? ⟨w.heap.size + 1, 7, none⟩ = some (.int .i64 rr') := rb7.cell (i := 7) (by omega)
  replace h0 : Hid (Below w.heap.size w w7) := h0.out.trans (k7.below (by omega) (by omega) (by omega))
  replace rx := rx.out.of_block (k7.block _ (by omega) (by omega) (by omega))
  replace ry := ry.out.of_block (k7.block _ (by omega) (by omega) (by omega))
  have xc : ∀ o, o < 8 → w7.cell? ⟨w.heap.size + 1 + 1, o, none⟩ = some _ := fun o ho => rx.cell ho
  have yc : ∀ o, o < 8 → w7.cell? ⟨w.heap.size + 1 + 1 + 1, o, none⟩ = some _ := fun o ho => ry.cell ho
  have xf := rx.frozen
  have yf := ry.frozen
  have hz7 := k7.size
  clear k7 ra7 rb7 rx ry ra rb m0 m1
  go_wp2
  go_region
  go_wp2
  refine bodyPost_ret (by simp [results, Try.results59, go_sem, xc, yc]) rfl ⟨rfl, ?_⟩
  refine Below.drew ?_
  iterate 16 refine Below.setCell ?_ (by simp; omega) _
  exact h0.out
end Go.Proofs.Ytckkkdldljhehaa
