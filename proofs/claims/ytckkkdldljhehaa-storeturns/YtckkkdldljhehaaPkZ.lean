/- Put together: What StoreTurns of package ninepinslaw answers when called over a store in memory: true; nothing that was in memory before has changed. What StoreTurns of package ninepinslaw answers when called over a store in memory: true; nothing that was in memory before has changed. -/
import Derived.Test.YtckkkdldljhehaaPkX
namespace Go.Proofs.Ytckkkdldljhehaa.Te
open Go.Proofs.Ytckkkdldljhehaa.Num Go.Proofs.Ytckkkdldljhehaa.St Go.Proofs.Ytckkkdldljhehaa.Mp Go.Proofs.Ytckkkdldljhehaa.Th
open Go.ChangeShapes Go.WideShapes Go.ChangeAt Go.RowKit

attribute [local go_sem ↓] Go.wp_at_zero Go.wp_at_succ
set_option maxHeartbeats 16000000 in
set_option maxRecDepth 100000 in
theorem storeTurns_T (a : Option Addr) (n cap : Nat) (next id mask : Int) (r : R8) (T : Nat → TabV) (I : Nat → Nat → Int) (R : Nat → Nat → R8) (w : World) (hin : StoreIn w a n T I R) (hidw : (Lit.int .i64 id).wf = true) (hr64 : In64 r) (hcase : goodRowB mask r = true ∧ (allL (plainOf T I R n)).length ≠ 10 ∧ next = 1048576) :
    Calls Try.prog 6 #[.agg #[.slice a n cap, .int .i64 next], .int .i64 id, .int .i64 mask, .agg #[.int .i64 r.x, .int .i64 r.y, .int .i64 r.px, .int .i64 r.py, .int .i64 r.wd, .int .i64 r.ht, .int .i64 r.ms, .int .i64 r.rr]] w fun e w' => e = .returned (.bool true) ∧ Below w.heap.size w w' := by
  have HST := hid hin
  have HCASE' := hid hcase
  have HR64 := hid hr64
  clear hcase hr64
  have HA0 := hid (bal (bal (Below.refl _ w) (.cells #[.slice a n cap, .int .i64 next] 28)) (.cells #[.int .i64 r.x, .int .i64 r.y, .int .i64 r.px, .int .i64 r.py, .int .i64 r.wd, .int .i64 r.ht, .int .i64 r.ms, .int .i64 r.rr] 30))
  have HSB : Hid (((w.alloc (.cells #[.slice a n cap, .int .i64 next] 28)).alloc (.cells #[.int .i64 r.x, .int .i64 r.y, .int .i64 r.px, .int .i64 r.py, .int .i64 r.wd, .int .i64 r.ht, .int .i64 r.ms, .int .i64 r.rr] 30)).rowIs w.heap.size 28 2 (fun i => if i = 0 then .slice a n cap else .int .i64 next)) := hid (rowIs_below (rowIs2 w (.slice a n cap) (.int .i64 next) 28) (bal (Below.refl _ _) _))
  have HRB : Hid (((w.alloc (.cells #[.slice a n cap, .int .i64 next] 28)).alloc (.cells #[.int .i64 r.x, .int .i64 r.y, .int .i64 r.px, .int .i64 r.py, .int .i64 r.wd, .int .i64 r.ht, .int .i64 r.ms, .int .i64 r.rr] 30)).rowIs (w.heap.size + 1) 30 8 (fun i => (rowCells r).getD i undef)) := hid (by
    have h := World.rowIs_alloc (w.alloc (.cells #[.slice a n cap, .int .i64 next] 28)) #[.int .i64 r.x, .int .i64 r.y, .int .i64 r.px, .int .i64 r.py, .int .i64 r.wd, .int .i64 r.ht, .int .i64 r.ms, .int .i64 r.rr] 30 (fun i => (rowCells r).getD i undef) (fun i hi => by
      match i, hi with
      | 0, _ => rfl
      | 1, _ => rfl
      | 2, _ => rfl
      | 3, _ => rfl
      | 4, _ => rfl
      | 5, _ => rfl
      | 6, _ => rfl
      | 7, _ => rfl)
    rw [World.size_alloc] at h
    exact h)
  have HCP := hid (Cp.copied_any a n cap next T I R _ (hin.below HA0.out))
  clear hin
  go_enter Try.func6, Try.ntmps6
  go_wp2_with fail
  refine HCP.out.mono ?_
  rintro e w1 ⟨⟨a', c', rfl, S, hown, hsp⟩, hb1⟩
  obtain ⟨T2, I2, R2, hin2, hpl2⟩ := copy_in hown hsp HST.out
  have HIN2 := hid hin2
  have HPL := hid hpl2
  have HSB1 := hid (rowIs_below HSB.out hb1)
  have HRB1 := hid (rowIs_below HRB.out hb1)
  obtain ⟨y0, y1⟩ := cells2 HSB1.out
  have hyz := HSB1.out.lt
  have HA1 := hid (bal (Below.refl _ w1) (.cells #[.slice a' n c', .int .i64 next] 28))
  have HCB := hid (rowIs2 w1 (.slice a' n c') (.int .i64 next) 28)
  have HWC := hid (bcall (bcall HA0.out hb1) HA1.out)
  have HTO := hid (thingsOf_any a n cap next T I R _ (HST.out.below HWC.out))
  have HSB2 := hid (rowIs_below HSB1.out HA1.out)
  have HRB2 := hid (rowIs_below HRB1.out HA1.out)
  have HIN3 := hid (HIN2.out.below HA1.out)
  clear hown hsp hb1 hin2 hpl2 HCP
  go_wp2_with fail
  refine HTO.out.mono ?_
  rintro e w2 ⟨he, hb2⟩
  have HIS2 := hid ((HST.out.below HWC.out).below hb2)
  have HIC2 := hid (HIN3.out.below hb2)
  have HSB2' := hid (rowIs_below HSB2.out hb2)
  have HRB2' := hid (rowIs_below HRB2.out hb2)
  have HCB2 := hid (rowIs_below HCB.out hb2)
  have HW2 := hid (bcall HWC.out hb2)
  generalize w1.heap.size = cb at HCB2 ⊢
  have HE : Hid (∃ lv ok, e = .returned (.tuple #[lv, .bool ok]) ∧ ((GoodL next (plainOf T I R n) ∧ ok = true ∧ ∃ bm, lv = .map (some bm) ∧ Mp w2 bm (thM (plainOf T I R n))) ∨ (¬ GoodL next (plainOf T I R n) ∧ ok = false))) := hid (by
    rcases he with ⟨hgl, bm, rfl, _, hmp⟩ | ⟨hng, v, rfl⟩
    · exact ⟨_, _, rfl, Or.inl ⟨hgl, rfl, bm, rfl, hmp⟩⟩
    · exact ⟨_, _, rfl, Or.inr ⟨hng, rfl⟩⟩)
  clear he
  obtain ⟨lv, ok, rfl, HLV⟩ := HE.out
  have HLV := hid HLV
  clear hb2 HE HTO HSB HRB HSB1 HRB1 HSB2 HRB2 HIN2 HIN3 HCB HA1 HWC y0 y1 hyz HA0
  have hcz := HCB2.out.lt
  have hrz := HRB2'.out.lt
  obtain ⟨k0, k1⟩ := cells2 HCB2.out
  obtain ⟨j0, j1, j2, j3, j4, j5, j6, j7⟩ := rowCell8 HRB2'.out
  have HC := hid (spawn_out HIC2.out c' next mask r)
  rw [HPL.out] at HC
  go_wp2_with fail
  refine HC.out.mono ?_
  rintro e w3 ⟨⟨v, nx, ni, ec1, Ln1, rfl, ho, hs1⟩, h⟩
  obtain ⟨a1, n1, c1, Tn1, In1, Rn1, rfl, hi, hp⟩ := ho
  have HOn1 : Hid (Out (w3.alloc (.cells #[.slice a1 n1 c1, .int .i64 nx] 28)) (.slice a1 n1 c1) Ln1) := hid (Out.below ⟨_, _, _, _, _, _, rfl, hi, hp⟩ (bal (Below.refl _ _) _))
  have HBn1 := hid (bal h (.cells #[.slice a1 n1 c1, .int .i64 nx] 28))
  have HXn1 := hid (rowIs2 w3 (.slice a1 n1 c1) (.int .i64 nx) 28)
  have HSn1 := hid hs1
  clear HC hi hp h hs1 k0 k1 j0 j1 j2 j3 j4 j5 j6 j7 hcz hrz
  have HCBx := hid (rowIs_below HCB2.out HBn1.out)
  have HRBx := hid (rowIs_below HRB2'.out HBn1.out)
  have HICx := hid (HIC2.out.below HBn1.out)
  have HBx : Hid (Below w2.heap.size w2 (w3.alloc (.cells #[.slice a1 n1 c1, .int .i64 nx] 28))) := hid (HBn1.out)
  obtain ⟨k0, k1⟩ := cells2 HCBx.out
  obtain ⟨j0, j1, j2, j3, j4, j5, j6, j7⟩ := rowCell8 HRBx.out
  have hcz := HCBx.out.lt
  have hrz := HRBx.out.lt
  have HC := hid (kill_out HICx.out c' next id)
  rw [HPL.out] at HC
  go_wp2_with fail
  refine HC.out.mono ?_
  rintro e w4 ⟨⟨v, ec2, Ln2, rfl, ho, hs2⟩, h⟩
  obtain ⟨a2, n2, c2, Tn2, In2, Rn2, rfl, hi, hp⟩ := ho
  have HOn2 : Hid (Out (w4.alloc (.cells #[.slice a2 n2 c2, .int .i64 next] 28)) (.slice a2 n2 c2) Ln2) := hid (Out.below ⟨_, _, _, _, _, _, rfl, hi, hp⟩ (bal (Below.refl _ _) _))
  have HBn2 := hid (bal h (.cells #[.slice a2 n2 c2, .int .i64 next] 28))
  have HXn2 := hid (rowIs2 w4 (.slice a2 n2 c2) (.int .i64 next) 28)
  have HSn2 := hid hs2
  clear HC hi hp h hs2 k0 k1 j0 j1 j2 j3 j4 j5 j6 j7 hcz hrz
  have HCBx := hid (rowIs_below HCB2.out (bcall HBx.out HBn2.out))
  have HRBx := hid (rowIs_below HRB2'.out (bcall HBx.out HBn2.out))
  have HICx := hid (HIC2.out.below (bcall HBx.out HBn2.out))
  have HBx : Hid (Below w2.heap.size w2 (w4.alloc (.cells #[.slice a2 n2 c2, .int .i64 next] 28))) := hid ((bcall HBx.out HBn2.out))
  obtain ⟨k0, k1⟩ := cells2 HCBx.out
  obtain ⟨j0, j1, j2, j3, j4, j5, j6, j7⟩ := rowCell8 HRBx.out
  have hcz := HCBx.out.lt
  have hrz := HRBx.out.lt
  have HC := hid (set_out HICx.out c' next id r)
  rw [HPL.out] at HC
  go_wp2_with fail
  refine HC.out.mono ?_
  rintro e w5 ⟨⟨v, ec3, Ln3, rfl, ho, hs3⟩, h⟩
  obtain ⟨a3, n3, c3, Tn3, In3, Rn3, rfl, hi, hp⟩ := ho
  have HOn3 : Hid (Out (w5.alloc (.cells #[.slice a3 n3 c3, .int .i64 next] 28)) (.slice a3 n3 c3) Ln3) := hid (Out.below ⟨_, _, _, _, _, _, rfl, hi, hp⟩ (bal (Below.refl _ _) _))
  have HBn3 := hid (bal h (.cells #[.slice a3 n3 c3, .int .i64 next] 28))
  have HXn3 := hid (rowIs2 w5 (.slice a3 n3 c3) (.int .i64 next) 28)
  have HSn3 := hid hs3
  clear HC hi hp h hs3 k0 k1 j0 j1 j2 j3 j4 j5 j6 j7 hcz hrz
  have HCBx := hid (rowIs_below HCB2.out (bcall HBx.out HBn3.out))
  have HRBx := hid (rowIs_below HRB2'.out (bcall HBx.out HBn3.out))
  have HICx := hid (HIC2.out.below (bcall HBx.out HBn3.out))
  have HBx : Hid (Below w2.heap.size w2 (w5.alloc (.cells #[.slice a3 n3 c3, .int .i64 next] 28))) := hid ((bcall HBx.out HBn3.out))
  obtain ⟨k0, k1⟩ := cells2 HCBx.out
  obtain ⟨j0, j1, j2, j3, j4, j5, j6, j7⟩ := rowCell8 HRBx.out
  have hcz := HCBx.out.lt
  have hrz := HRBx.out.lt
  have HC := hid (change_out HICx.out c' next id mask r)
  rw [HPL.out] at HC
  go_wp2_with fail
  refine HC.out.mono ?_
  rintro e w6 ⟨⟨v, ec4, Ln4, rfl, ho, hs4⟩, h⟩
  obtain ⟨a4, n4, c4, Tn4, In4, Rn4, rfl, hi, hp⟩ := ho
  have HOn4 : Hid (Out (w6.alloc (.cells #[.slice a4 n4 c4, .int .i64 next] 28)) (.slice a4 n4 c4) Ln4) := hid (Out.below ⟨_, _, _, _, _, _, rfl, hi, hp⟩ (bal (Below.refl _ _) _))
  have HBn4 := hid (bal h (.cells #[.slice a4 n4 c4, .int .i64 next] 28))
  have HXn4 := hid (rowIs2 w6 (.slice a4 n4 c4) (.int .i64 next) 28)
  have HSn4 := hid hs4
  clear HC hi hp h hs4 k0 k1 j0 j1 j2 j3 j4 j5 j6 j7 hcz hrz
  have HCBx := hid (rowIs_below HCB2.out (bcall HBx.out HBn4.out))
  have HRBx := hid (rowIs_below HRB2'.out (bcall HBx.out HBn4.out))
  have HICx := hid (HIC2.out.below (bcall HBx.out HBn4.out))
  have HBx : Hid (Below w2.heap.size w2 (w6.alloc (.cells #[.slice a4 n4 c4, .int .i64 next] 28))) := hid ((bcall HBx.out HBn4.out))
  obtain ⟨k0, k1⟩ := cells2 HCBx.out
  obtain ⟨j0, j1, j2, j3, j4, j5, j6, j7⟩ := rowCell8 HRBx.out
  have hcz := HCBx.out.lt
  have hrz := HRBx.out.lt
  skip
  go_upto_region 7 with fail
  have HX1 := hid (rowIs_below HXn1.out (bcall (bcall HBn2.out HBn3.out) HBn4.out))
  have HX2 := hid (rowIs_below HXn2.out (bcall HBn3.out HBn4.out))
  have HX3 := hid (rowIs_below HXn3.out HBn4.out)
  have HX4 := hid HXn4.out
  have HOA := hid (HOn1.out.below (bcall (bcall HBn2.out HBn3.out) HBn4.out))
  have HOB := hid (HOn2.out.below (bcall HBn3.out HBn4.out))
  have HOD := hid (HOn3.out.below HBn4.out)
  have HOX := hid HOn4.out
  have HSX := hid (rowIs_below HSB2'.out HBx.out)
  have HIS := hid (HIS2.out.below HBx.out)
  have HOC : Hid (Out (w6.alloc (.cells #[.slice a4 n4 c4, .int .i64 next] 28)) (.slice a' n c') (plainOf T I R n)) := hid ⟨_, _, _, _, _, _, rfl, HICx.out, HPL.out⟩
  have HWW := hid (bcall HW2.out HBx.out)
  have HLW : Hid ((GoodL next (plainOf T I R n) ∧ ok = true ∧ ∃ bm, lv = .map (some bm) ∧ Mp (w6.alloc (.cells #[.slice a4 n4 c4, .int .i64 next] 28)) bm (thM (plainOf T I R n))) ∨ (¬ GoodL next (plainOf T I R n) ∧ ok = false)) := hid (by
    rcases HLV.out with ⟨h1, h2, bm, h3, h4⟩ | h
    · exact Or.inl ⟨h1, h2, bm, h3, h4.below HBx.out⟩
    · exact Or.inr h)
  clear k0 k1 j0 j1 j2 j3 j4 j5 j6 j7 hcz hrz
  clear HBn1 HBn2 HBn3 HOn1 HOn2 HOn3 HXn1 HXn2 HXn3 HLV HSB2' HRB2' HCB2 HIS2 HIC2 HW2
  clear HBn4 HXn4 HOn4 HBx HICx HPL HST
  generalize w3.heap.size = ab at HX1 ⊢
  generalize w4.heap.size = bb at HX2 ⊢
  generalize w5.heap.size = db at HX3 ⊢
  generalize w6.heap.size = xb at HX4 ⊢
  generalize w6.alloc (.cells #[.slice a4 n4 c4, .int .i64 next] 28) = W7 at HX1 HX2 HX3 HX4 HOA HOB HOD HOX HSX HIS HOC HWW HLW HCBx HRBx ⊢
  have HCL : Hid (∀ W, Below W7.heap.size W7 W → W.cell? ⟨w.heap.size, 0, none⟩ = some (.slice a n cap) ∧ W.cell? ⟨w.heap.size, 1, none⟩ = some (.int .i64 next) ∧ W.cell? ⟨w.heap.size + 1, 0, none⟩ = some (.int .i64 r.x) ∧ W.cell? ⟨w.heap.size + 1, 1, none⟩ = some (.int .i64 r.y) ∧ W.cell? ⟨w.heap.size + 1, 2, none⟩ = some (.int .i64 r.px) ∧ W.cell? ⟨w.heap.size + 1, 3, none⟩ = some (.int .i64 r.py) ∧ W.cell? ⟨w.heap.size + 1, 4, none⟩ = some (.int .i64 r.wd) ∧ W.cell? ⟨w.heap.size + 1, 5, none⟩ = some (.int .i64 r.ht) ∧ W.cell? ⟨w.heap.size + 1, 6, none⟩ = some (.int .i64 r.ms) ∧ W.cell? ⟨w.heap.size + 1, 7, none⟩ = some (.int .i64 r.rr) ∧ W.cell? ⟨ab, 0, none⟩ = some (.slice a1 n1 c1) ∧ W.cell? ⟨ab, 1, none⟩ = some (.int .i64 nx) ∧ W.cell? ⟨bb, 0, none⟩ = some (.slice a2 n2 c2) ∧ W.cell? ⟨bb, 1, none⟩ = some (.int .i64 next) ∧ W.cell? ⟨db, 0, none⟩ = some (.slice a3 n3 c3) ∧ W.cell? ⟨db, 1, none⟩ = some (.int .i64 next) ∧ W.cell? ⟨xb, 0, none⟩ = some (.slice a4 n4 c4) ∧ W.cell? ⟨xb, 1, none⟩ = some (.int .i64 next) ∧ w.heap.size < W.heap.size ∧ w.heap.size + 1 < W.heap.size ∧ ab < W.heap.size ∧ bb < W.heap.size ∧ db < W.heap.size ∧ xb < W.heap.size) := hid (fun W hb => by
    have e1 := rowIs_below HSX.out hb
    have e2 := rowIs_below HRBx.out hb
    have e3 := rowIs_below HX1.out hb
    have e4 := rowIs_below HX2.out hb
    have e5 := rowIs_below HX3.out hb
    have e6 := rowIs_below HX4.out hb
    obtain ⟨g0, g1, g2, g3, g4, g5, g6, g7⟩ := rowCell8 e2
    exact ⟨(cells2 e1).1, (cells2 e1).2, g0, g1, g2, g3, g4, g5, g6, g7, (cells2 e3).1, (cells2 e3).2, (cells2 e4).1, (cells2 e4).2, (cells2 e5).1, (cells2 e5).2, (cells2 e6).1, (cells2 e6).2, e1.lt, e2.lt, e3.lt, e4.lt, e5.lt, e6.lt⟩)
  have HSM : Hid (∀ (v : Value) (W : World), Below W7.heap.size W7 W → Out W7 v (plainOf T I R n) → Calls Try.prog 30 #[.agg #[v, .int .i64 next], .agg #[.slice a n cap, .int .i64 next]] W fun e w' => e = .returned (.bool true) ∧ Below W.heap.size W w') := hid (fun v W hb ho => same_out (ho.below hb) (HIS.out.below hb))
  have HIR : Hid (∀ (m : Int) (W : World), Calls Try.prog 27 #[.int .i64 m, .agg #[.int .i64 r.x, .int .i64 r.y, .int .i64 r.px, .int .i64 r.py, .int .i64 r.wd, .int .i64 r.ht, .int .i64 r.ms, .int .i64 r.rr]] W fun e w' => e = .returned (.bool (goodRowB m r)) ∧ Below W.heap.size W w') := hid (fun m W => by rw [← isRow_good]; exact isRow_any m r W)
  obtain ⟨k0, k1⟩ := cells2 HCBx.out
  have kz := HCBx.out.lt
  have HBZ : Hid (Below W7.heap.size W7 W7) := hid (Below.refl _ _)
  obtain ⟨s0, s1, r0, r1, r2, r3, r4, r5, r6, r7, a0, a1, b0, b1, d0, d1, x0, x1, zs, zr, za, zb, zd, zx⟩ := HCL.out _ HBZ.out
  clear HX1 HX2 HX3 HX4 HSX HRBx
  go_upto_region 9 with (first | (go_at_call 30; refine (HSM.out _ _ HBZ.out (by first | exact HOC.out | exact HOA.out | exact HOB.out | exact HOD.out | exact HOX.out)).mono ?_; rintro e wz ⟨rfl, h⟩; have HBZ := hid (bcall HBZ.out h); clear h; clear s0 s1 r0 r1 r2 r3 r4 r5 r6 r7 a0 a1 b0 b1 d0 d1 x0 x1 zs zr za zb zd zx; obtain ⟨s0, s1, r0, r1, r2, r3, r4, r5, r6, r7, a0, a1, b0, b1, d0, d1, x0, x1, zs, zr, za, zb, zd, zx⟩ := HCL.out _ HBZ.out) | (go_at_call 31; refine (thingsL_any _).mono ?_; rintro e wz ⟨rfl, h⟩; have HBZ := hid (bcall HBZ.out h); clear h; clear s0 s1 r0 r1 r2 r3 r4 r5 r6 r7 a0 a1 b0 b1 d0 d1 x0 x1 zs zr za zb zd zx; obtain ⟨s0, s1, r0, r1, r2, r3, r4, r5, r6, r7, a0, a1, b0, b1, d0, d1, x0, x1, zs, zr, za, zb, zd, zx⟩ := HCL.out _ HBZ.out))
  clear k0 k1 kz HCBx
  rcases HLW.out with ⟨hgl, rfl, bm, rfl, hmp⟩ | ⟨hng, rfl⟩
  rotate_left
  · have HN1 := HSn1.out
    have HN2 := HSn2.out
    have HN3 := HSn3.out
    have HN4 := HSn4.out
    clear HSn1 HSn2 HSn3 HSn4
    rcases HN1 with ⟨rfl, rfl, rfl, ⟨rfl, -⟩ | ⟨-, hg, -⟩ | ⟨-, hg, -⟩⟩ | ⟨-, -, -, hg, -⟩
    rotate_left
    · exact absurd hg hng
    · exact absurd hg hng
    · exact absurd hg hng
    rcases HN2 with ⟨rfl, -, rfl⟩ | ⟨-, hg, -⟩ | ⟨-, hg, -⟩
    rotate_left
    · exact absurd hg hng
    · exact absurd hg hng
    rcases HN3 with ⟨rfl, -, rfl⟩ | ⟨-, hg, -⟩ | ⟨-, hg, -⟩ | ⟨-, hg, -⟩
    rotate_left
    · exact absurd hg hng
    · exact absurd hg hng
    · exact absurd hg hng
    rcases HN4 with ⟨rfl, -, rfl⟩ | ⟨-, hg, -⟩ | ⟨-, hg, -⟩ | ⟨-, hg, -⟩
    rotate_left
    · exact absurd hg hng
    · exact absurd hg hng
    · exact absurd hg hng
    go_wp2_with (first | (go_at_call 30; refine (HSM.out _ _ HBZ.out (by first | exact HOC.out | exact HOA.out | exact HOB.out | exact HOD.out | exact HOX.out)).mono ?_; rintro e wz ⟨rfl, h⟩; have HBZ := hid (bcall HBZ.out h); clear h; clear s0 s1 r0 r1 r2 r3 r4 r5 r6 r7 a0 a1 b0 b1 d0 d1 x0 x1 zs zr za zb zd zx; obtain ⟨s0, s1, r0, r1, r2, r3, r4, r5, r6, r7, a0, a1, b0, b1, d0, d1, x0, x1, zs, zr, za, zb, zd, zx⟩ := HCL.out _ HBZ.out))
    go_ret
    exact ⟨rfl, bcall HWW.out HBZ.out⟩
  have HGL := hid hgl
  have HMP := hid hmp
  have HCO : Hid (∀ W, Below W7.heap.size W7 W → Calls Try.prog 41 #[.map (some bm)] W fun e w' => (∃ c, e = .returned (.map (some c)) ∧ W.heap.size ≤ c ∧ Mp w' c (thM (plainOf T I R n))) ∧ Below W.heap.size W w') := hid (fun W hb => copy_any bm _ W (HMP.out.below hb) (by rw [thM_len HGL.out.even HGL.out.2.2.2.2.2]; exact Nat.le_trans HGL.out.2.1 (by decide)))
  have HLEN : Hid ((thM (plainOf T I R n)).length = (allL (plainOf T I R n)).length) := hid (thM_len HGL.out.even HGL.out.2.2.2.2.2)
  have hnx0 : 0 ≤ next ∧ next ≤ 1048576 := by have := HGL.out.1; simp [btw] at this; exact this
  obtain ⟨hn0, hn1⟩ := hnx0
  have hall : (allL (plainOf T I R n)).length ≤ 10 := HGL.out.2.1
  clear hgl hmp HLW
  have HN1 := HSn1.out
  clear HSn1
  rcases HN1 with ⟨e1, rfl, rfl, ⟨-, hg⟩ | ⟨rfl, -, hr⟩ | ⟨rfl, -, hr, hfull⟩⟩ | ⟨rfl, e1, e2, -, hr, hl10, hx, rfl⟩
  rotate_left
  rotate_left
  rotate_left
  · have hx10 := HCASE'.out.2.2; omega
  · exact absurd HGL.out hg
  · rw [HCASE'.out.1] at hr; cases hr
  have e1' := e1.symm
  subst e1'
  have hge' : ¬ ((allL (plainOf T I R n)).length : Int) ≥ 10 := by have := HCASE'.out.2.1; omega
  have hnx : next ≥ 1048576 := by have := HCASE'.out.2.2; omega
  go_upto_region 22 with (first | (go_at_call 41; refine (HCO.out _ HBZ.out).mono ?_; rintro e wz ⟨⟨wb, rfl, hwb, hm⟩, h⟩; have HM1 := hid hm; have HWB := hid (Nat.le_trans HBZ.out.size hwb); clear hm hwb; have HBZ := hid (bcall HBZ.out h); clear h; clear s0 s1 r0 r1 r2 r3 r4 r5 r6 r7 a0 a1 b0 b1 d0 d1 x0 x1 zs zr za zb zd zx; obtain ⟨s0, s1, r0, r1, r2, r3, r4, r5, r6, r7, a0, a1, b0, b1, d0, d1, x0, x1, zs, zr, za, zb, zd, zx⟩ := HCL.out _ HBZ.out) | (go_at_call 27; refine (HIR.out _ _).mono ?_; rintro e wz ⟨rfl, h⟩; have HM1 := hid (HM1.out.below h); have HBZ := hid (bcall HBZ.out h); clear h; clear s0 s1 r0 r1 r2 r3 r4 r5 r6 r7 a0 a1 b0 b1 d0 d1 x0 x1 zs zr za zb zd zx; obtain ⟨s0, s1, r0, r1, r2, r3, r4, r5, r6, r7, a0, a1, b0, b1, d0, d1, x0, x1, zs, zr, za, zb, zd, zx⟩ := HCL.out _ HBZ.out; have hln := (HMP.out.below HBZ.out).len; rw [HLEN.out] at hln) | (go_at_call 30; refine (HSM.out _ _ HBZ.out (by first | exact HOC.out | exact HOA.out | exact HOB.out | exact HOD.out | exact HOX.out)).mono ?_; rintro e wz ⟨rfl, h⟩; have HM1 := hid (HM1.out.below h); have HBZ := hid (bcall HBZ.out h); clear h; clear s0 s1 r0 r1 r2 r3 r4 r5 r6 r7 a0 a1 b0 b1 d0 d1 x0 x1 zs zr za zb zd zx; obtain ⟨s0, s1, r0, r1, r2, r3, r4, r5, r6, r7, a0, a1, b0, b1, d0, d1, x0, x1, zs, zr, za, zb, zd, zx⟩ := HCL.out _ HBZ.out))
  have HLK := hid ((HMP.out.below HBZ.out).look_ok hidw)
  obtain ⟨og, hog⟩ : ∃ o, getM id (thM (plainOf T I R n)) = o := ⟨_, rfl⟩
  rw [hog] at HLK
  have HOG := hid hog
  clear hog
  have HN2 := HSn2.out
  have HN3 := HSn3.out
  have HN4 := HSn4.out
  clear HSn2 HSn3 HSn4
  cases og with
  | none =>
    have hno : id ∉ allL (plainOf T I R n) := (thM_none HGL.out.even).1 HOG.out
    have hlk := HLK.out
    simp only [Option.getD_none, Option.isSome_none, thV] at hlk
    rcases HN2 with ⟨-, hg, -⟩ | ⟨rfl, -, -, rfl⟩ | ⟨-, -, hv, -⟩
    · exact absurd HGL.out hg
    rotate_left
    · exact absurd hv hno
    rcases HN3 with ⟨-, hg, -⟩ | ⟨rfl, -, -, rfl⟩ | ⟨-, -, ⟨m, q, hv, -⟩, -⟩ | ⟨-, -, ⟨m, q, hv, -⟩, -⟩
    · exact absurd HGL.out hg
    rotate_left
    · exact absurd (at_mem hv) hno
    · exact absurd (at_mem hv) hno
    rcases HN4 with ⟨-, hg, -⟩ | ⟨rfl, -, -, rfl⟩ | ⟨-, -, ⟨m, q, hv, -⟩, -⟩ | ⟨-, -, m, q, hv, -, -⟩
    · exact absurd HGL.out hg
    rotate_left
    · exact absurd (at_mem hv) hno
    · exact absurd (at_mem hv) hno
    have HBY := hid (bal HBZ.out (.cells #[.int .i64 zTh.m, .int .i64 zTh.r.x, .int .i64 zTh.r.y, .int .i64 zTh.r.px, .int .i64 zTh.r.py, .int .i64 zTh.r.wd, .int .i64 zTh.r.ht, .int .i64 zTh.r.ms, .int .i64 zTh.r.rr] 43))
    go_upto_region 23 with fail
    have HBZ := HBY
    clear s0 s1 r0 r1 r2 r3 r4 r5 r6 r7 a0 a1 b0 b1 d0 d1 x0 x1 zs zr za zb zd zx; obtain ⟨s0, s1, r0, r1, r2, r3, r4, r5, r6, r7, a0, a1, b0, b1, d0, d1, x0, x1, zs, zr, za, zb, zd, zx⟩ := HCL.out _ HBZ.out
    go_wp2_with (first | (go_at_call 30; refine (HSM.out _ _ HBZ.out (by first | exact HOC.out | exact HOA.out | exact HOB.out | exact HOD.out | exact HOX.out)).mono ?_; rintro e wz ⟨rfl, h⟩; have HBZ := hid (bcall HBZ.out h); clear h; clear s0 s1 r0 r1 r2 r3 r4 r5 r6 r7 a0 a1 b0 b1 d0 d1 x0 x1 zs zr za zb zd zx; obtain ⟨s0, s1, r0, r1, r2, r3, r4, r5, r6, r7, a0, a1, b0, b1, d0, d1, x0, x1, zs, zr, za, zb, zd, zx⟩ := HCL.out _ HBZ.out))
    go_ret
    exact ⟨rfl, bcall HWW.out HBZ.out⟩
  | some t =>
    have hat : At (plainOf T I R n) id t.m t.r := (thM_get HGL.out.even HGL.out.2.2.2.2.2).1 HOG.out
    have HAT := hid hat
    have hlk := HLK.out
    simp only [Option.getD_some, Option.isSome_some, thV] at hlk
    rcases HN2 with ⟨-, hg, -⟩ | ⟨-, -, hv, -⟩ | ⟨rfl, -, -, rfl⟩
    · exact absurd HGL.out hg
    · exact absurd (at_mem hat) hv
    have HBY := hid (bal HBZ.out (.cells #[.int .i64 t.m, .int .i64 t.r.x, .int .i64 t.r.y, .int .i64 t.r.px, .int .i64 t.r.py, .int .i64 t.r.wd, .int .i64 t.r.ht, .int .i64 t.r.ms, .int .i64 t.r.rr] 43))
    have HTH0 := hid (rowIs9 wz t)
    go_upto_region 23 with fail
    clear hlk
    generalize wz.heap.size = tb at HTH0 ⊢
    generalize wz.alloc (.cells #[.int .i64 t.m, .int .i64 t.r.x, .int .i64 t.r.y, .int .i64 t.r.px, .int .i64 t.r.py, .int .i64 t.r.wd, .int .i64 t.r.ht, .int .i64 t.r.ms, .int .i64 t.r.rr] 43) = W8 at HBY HTH0 ⊢
    have HCL8 : Hid (∀ W, Below W8.heap.size W8 W → Below W7.heap.size W7 W) := hid (fun W hb => bcall HBY.out hb)
    have HBZ := HBY
    clear s0 s1 r0 r1 r2 r3 r4 r5 r6 r7 a0 a1 b0 b1 d0 d1 x0 x1 zs zr za zb zd zx; obtain ⟨s0, s1, r0, r1, r2, r3, r4, r5, r6, r7, a0, a1, b0, b1, d0, d1, x0, x1, zs, zr, za, zb, zd, zx⟩ := HCL.out _ HBZ.out
    have HTC : Hid (∀ W, Below W8.heap.size W8 W → W.cell? ⟨tb, 0, none⟩ = some (.int .i64 t.m) ∧ W.cell? ⟨tb, 1, none⟩ = some (.int .i64 t.r.x) ∧ W.cell? ⟨tb, 2, none⟩ = some (.int .i64 t.r.y) ∧ W.cell? ⟨tb, 3, none⟩ = some (.int .i64 t.r.px) ∧ W.cell? ⟨tb, 4, none⟩ = some (.int .i64 t.r.py) ∧ W.cell? ⟨tb, 5, none⟩ = some (.int .i64 t.r.wd) ∧ W.cell? ⟨tb, 6, none⟩ = some (.int .i64 t.r.ht) ∧ W.cell? ⟨tb, 7, none⟩ = some (.int .i64 t.r.ms) ∧ W.cell? ⟨tb, 8, none⟩ = some (.int .i64 t.r.rr) ∧ tb < W.heap.size) := hid (fun W hb => by
      have e := rowIs_below HTH0.out hb
      exact ⟨e.cell (i := 0) (by omega), e.cell (i := 1) (by omega), e.cell (i := 2) (by omega), e.cell (i := 3) (by omega), e.cell (i := 4) (by omega), e.cell (i := 5) (by omega), e.cell (i := 6) (by omega), e.cell (i := 7) (by omega), e.cell (i := 8) (by omega), e.lt⟩)
    have HB8 : Hid (Below W8.heap.size W8 W8) := hid (Below.refl _ _)
    obtain ⟨t0, t1, t2, t3, t4, t5, t6, t7, t8, zt⟩ := HTC.out _ HB8.out
    have HBZ := HBY
    rcases HN3 with ⟨-, hg, -⟩ | ⟨-, -, hv, -⟩ | ⟨rfl, -, ⟨m, q, hv, hr3⟩, rfl⟩ | ⟨rfl, -, ⟨m, q, hv, hr3⟩, rfl⟩
    · exact absurd HGL.out hg
    · exact absurd (at_mem hat) hv
    · obtain ⟨rfl, rfl⟩ := at_unique HGL.out.2.2.2.2.2 hv hat
      clear hv
      go_upto_region 37 with (first | (go_at_call 41; refine (HCO.out _ HBZ.out).mono ?_; rintro e wz ⟨⟨wb, rfl, hwb, hm⟩, h⟩; have HM1 := hid hm; have HWB := hid (Nat.le_trans HBZ.out.size hwb); have HWB8 := hid (Nat.le_trans HB8.out.size hwb); clear hm hwb; have HBZ := hid (bcall HBZ.out h); have HB8 := hid (bcall HB8.out h); clear h; clear s0 s1 r0 r1 r2 r3 r4 r5 r6 r7 a0 a1 b0 b1 d0 d1 x0 x1 zs zr za zb zd zx; obtain ⟨s0, s1, r0, r1, r2, r3, r4, r5, r6, r7, a0, a1, b0, b1, d0, d1, x0, x1, zs, zr, za, zb, zd, zx⟩ := HCL.out _ HBZ.out; clear t0 t1 t2 t3 t4 t5 t6 t7 t8 zt; obtain ⟨t0, t1, t2, t3, t4, t5, t6, t7, t8, zt⟩ := HTC.out _ HB8.out) | (at_delete; refine wp_drop _ rfl _ _ rfl wb _ rfl HM1.out id rfl hidw ?_; intro wz hm ht; have HM1 := hid hm; have HBZ := hid (Mp.below_turn HBZ.out ht HWB.out); have HB8 := hid (Mp.below_turn HB8.out ht HWB8.out); clear hm ht; clear s0 s1 r0 r1 r2 r3 r4 r5 r6 r7 a0 a1 b0 b1 d0 d1 x0 x1 zs zr za zb zd zx; obtain ⟨s0, s1, r0, r1, r2, r3, r4, r5, r6, r7, a0, a1, b0, b1, d0, d1, x0, x1, zs, zr, za, zb, zd, zx⟩ := HCL.out _ HBZ.out; clear t0 t1 t2 t3 t4 t5 t6 t7 t8 zt; obtain ⟨t0, t1, t2, t3, t4, t5, t6, t7, t8, zt⟩ := HTC.out _ HB8.out) | (go_at_call 42; refine (stored_out (HOB.out.below HBZ.out) ((kill_all HGL.out (at_mem HAT.out)).1)).mono ?_; rintro e wz ⟨⟨sb, rfl, hsb, hms⟩, h⟩; have HM1 := hid (HM1.out.below h); have HMS := hid hms; clear hms hsb; have HBZ := hid (bcall HBZ.out h); have HB8 := hid (bcall HB8.out h); clear h; clear s0 s1 r0 r1 r2 r3 r4 r5 r6 r7 a0 a1 b0 b1 d0 d1 x0 x1 zs zr za zb zd zx; obtain ⟨s0, s1, r0, r1, r2, r3, r4, r5, r6, r7, a0, a1, b0, b1, d0, d1, x0, x1, zs, zr, za, zb, zd, zx⟩ := HCL.out _ HBZ.out; clear t0 t1 t2 t3 t4 t5 t6 t7 t8 zt; obtain ⟨t0, t1, t2, t3, t4, t5, t6, t7, t8, zt⟩ := HTC.out _ HB8.out) | (go_at_call 43; refine (sameThings_any sb wb _ _ _ HMS.out HM1.out).mono ?_; rintro e wz ⟨⟨g, rfl, hg⟩, h⟩; have HM1 := hid (HM1.out.below h); obtain rfl : g = true := hg.2 (thM_killed HGL.out (at_mem HAT.out)); clear hg; have HBZ := hid (bcall HBZ.out h); have HB8 := hid (bcall HB8.out h); clear h; clear s0 s1 r0 r1 r2 r3 r4 r5 r6 r7 a0 a1 b0 b1 d0 d1 x0 x1 zs zr za zb zd zx; obtain ⟨s0, s1, r0, r1, r2, r3, r4, r5, r6, r7, a0, a1, b0, b1, d0, d1, x0, x1, zs, zr, za, zb, zd, zx⟩ := HCL.out _ HBZ.out; clear t0 t1 t2 t3 t4 t5 t6 t7 t8 zt; obtain ⟨t0, t1, t2, t3, t4, t5, t6, t7, t8, zt⟩ := HTC.out _ HB8.out) | (go_at_call 27; refine (HIR.out _ _).mono ?_; rintro e wz ⟨rfl, h⟩; have HM1 := hid (HM1.out.below h); have HBZ := hid (bcall HBZ.out h); have HB8 := hid (bcall HB8.out h); clear h; clear s0 s1 r0 r1 r2 r3 r4 r5 r6 r7 a0 a1 b0 b1 d0 d1 x0 x1 zs zr za zb zd zx; obtain ⟨s0, s1, r0, r1, r2, r3, r4, r5, r6, r7, a0, a1, b0, b1, d0, d1, x0, x1, zs, zr, za, zb, zd, zx⟩ := HCL.out _ HBZ.out; clear t0 t1 t2 t3 t4 t5 t6 t7 t8 zt; obtain ⟨t0, t1, t2, t3, t4, t5, t6, t7, t8, zt⟩ := HTC.out _ HB8.out) | (go_at_call 30; refine (HSM.out _ _ HBZ.out (by first | exact HOC.out | exact HOA.out | exact HOD.out | exact HOX.out)).mono ?_; rintro e wz ⟨rfl, h⟩; have HM1 := hid (HM1.out.below h); have HBZ := hid (bcall HBZ.out h); have HB8 := hid (bcall HB8.out h); clear h; clear s0 s1 r0 r1 r2 r3 r4 r5 r6 r7 a0 a1 b0 b1 d0 d1 x0 x1 zs zr za zb zd zx; obtain ⟨s0, s1, r0, r1, r2, r3, r4, r5, r6, r7, a0, a1, b0, b1, d0, d1, x0, x1, zs, zr, za, zb, zd, zx⟩ := HCL.out _ HBZ.out; clear t0 t1 t2 t3 t4 t5 t6 t7 t8 zt; obtain ⟨t0, t1, t2, t3, t4, t5, t6, t7, t8, zt⟩ := HTC.out _ HB8.out))
      have HM2 : Hid (Up (delM id (thM (plainOf T I R n))) ∧ (∀ u, u ≠ id → getM u (delM id (thM (plainOf T I R n))) = getM u (thM (plainOf T I R n))) ∧ (delM id (thM (plainOf T I R n))).length ≤ 10) := hid ⟨(thM_up _).del id, fun u hu => (by rw [getM_del (thM_up _), if_neg hu]), by have h1 := delM_len id (thM_up (plainOf T I R n)); rw [HLEN.out] at h1; omega⟩
      generalize delM id (thM (plainOf T I R n)) = M2 at HM1 HM2
      have hmr : ∀ q', goodRowB mask q' = true → 1 ≤ mask ∧ mask ≤ 31 := fun q' h => by simp [goodRowB, btw] at h; omega
      by_cases hm0 : mask < 0
      · rcases HN4 with ⟨-, hg, -⟩ | ⟨-, -, hv, -⟩ | ⟨rfl, -, -, rfl⟩ | ⟨-, -, m, q, hv, hr4, -⟩
        · exact absurd HGL.out hg
        · exact absurd (at_mem HAT.out) hv
        rotate_left
        · have := hmr _ hr4; omega
        go_wp2_with (first | (go_at_call 30; refine (HSM.out _ _ HBZ.out (by first | exact HOC.out | exact HOA.out | exact HOD.out | exact HOX.out)).mono ?_; rintro e wz ⟨rfl, h⟩; have HM1 := hid (HM1.out.below h); have HBZ := hid (bcall HBZ.out h); have HB8 := hid (bcall HB8.out h); clear h; clear s0 s1 r0 r1 r2 r3 r4 r5 r6 r7 a0 a1 b0 b1 d0 d1 x0 x1 zs zr za zb zd zx; obtain ⟨s0, s1, r0, r1, r2, r3, r4, r5, r6, r7, a0, a1, b0, b1, d0, d1, x0, x1, zs, zr, za, zb, zd, zx⟩ := HCL.out _ HBZ.out; clear t0 t1 t2 t3 t4 t5 t6 t7 t8 zt; obtain ⟨t0, t1, t2, t3, t4, t5, t6, t7, t8, zt⟩ := HTC.out _ HB8.out))
        go_ret
        exact ⟨rfl, bcall HWW.out HBZ.out⟩
      by_cases hm1 : mask > 31
      · rcases HN4 with ⟨-, hg, -⟩ | ⟨-, -, hv, -⟩ | ⟨rfl, -, -, rfl⟩ | ⟨-, -, m, q, hv, hr4, -⟩
        · exact absurd HGL.out hg
        · exact absurd (at_mem HAT.out) hv
        rotate_left
        · have := hmr _ hr4; omega
        go_wp2_with (first | (go_at_call 30; refine (HSM.out _ _ HBZ.out (by first | exact HOC.out | exact HOA.out | exact HOD.out | exact HOX.out)).mono ?_; rintro e wz ⟨rfl, h⟩; have HM1 := hid (HM1.out.below h); have HBZ := hid (bcall HBZ.out h); have HB8 := hid (bcall HB8.out h); clear h; clear s0 s1 r0 r1 r2 r3 r4 r5 r6 r7 a0 a1 b0 b1 d0 d1 x0 x1 zs zr za zb zd zx; obtain ⟨s0, s1, r0, r1, r2, r3, r4, r5, r6, r7, a0, a1, b0, b1, d0, d1, x0, x1, zs, zr, za, zb, zd, zx⟩ := HCL.out _ HBZ.out; clear t0 t1 t2 t3 t4 t5 t6 t7 t8 zt; obtain ⟨t0, t1, t2, t3, t4, t5, t6, t7, t8, zt⟩ := HTC.out _ HB8.out))
        go_ret
        exact ⟨rfl, bcall HWW.out HBZ.out⟩
      have hmk : 0 ≤ mask ∧ mask ≤ 31 := ⟨by omega, by omega⟩
      have hgq : goodRowB t.m t.r = true := by
        obtain ⟨tt, htt, hm', j, hj1, hj2⟩ := HAT.out
        have h1 := (HGL.out.2.2.2.2.1 tt htt).2.2.2 t.r (List.mem_of_getElem? hj2)
        rw [hm'] at h1
        exact h1
      have htm : 0 ≤ t.m ∧ t.m ≤ 31 := by simp [goodRowB, btw] at hgq; omega
      have HCH := hid (ch_sum hmk htm (good_in64 hgq) HR64.out)
      obtain ⟨b1, b2, b3, b4, -⟩ := bits_all mask (mem_masks hmk) t.m (mem_masks htm)
      have HKO : Hid (∀ W, Calls Try.prog 29 #[.int .i64 (bits .and .i64 mask t.m), .agg #[.int .i64 t.r.x, .int .i64 t.r.y, .int .i64 t.r.px, .int .i64 t.r.py, .int .i64 t.r.wd, .int .i64 t.r.ht, .int .i64 t.r.ms, .int .i64 t.r.rr]] W fun e w' => e = .returned (rowV (onlyH (bits .and .i64 mask t.m) t.r)) ∧ Below W.heap.size W w') := hid (fun W => onlyOf_any _ ⟨by omega, by omega⟩ t.r.x t.r.y t.r.px t.r.py t.r.wd t.r.ht t.r.ms t.r.rr W)
      have HKM : Hid (∀ W, Calls Try.prog 29 #[.int .i64 (bits .andNot .i64 mask t.m), .agg #[.int .i64 r.x, .int .i64 r.y, .int .i64 r.px, .int .i64 r.py, .int .i64 r.wd, .int .i64 r.ht, .int .i64 r.ms, .int .i64 r.rr]] W fun e w' => e = .returned (rowV (onlyH (bits .andNot .i64 mask t.m) r)) ∧ Below W.heap.size W w') := hid (fun W => onlyOf_any _ ⟨by omega, by omega⟩ r.x r.y r.px r.py r.wd r.ht r.ms r.rr W)
      generalize onlyH (bits .and .i64 mask t.m) t.r = qo at HKO HCH
      generalize onlyH (bits .andNot .i64 mask t.m) r = qm at HKM HCH
      unfold rowV at HKO HKM
      clear b1 b2 b3 b4 hgq htm hmk
      have HSK : Hid (∀ W, Below wz.heap.size wz W → W.cell? ⟨tb, 0, none⟩ = some (.int .i64 t.m) ∧ W.cell? ⟨tb, 1, none⟩ = some (.int .i64 t.r.x) ∧ W.cell? ⟨tb, 2, none⟩ = some (.int .i64 t.r.y) ∧ W.cell? ⟨tb, 3, none⟩ = some (.int .i64 t.r.px) ∧ W.cell? ⟨tb, 4, none⟩ = some (.int .i64 t.r.py) ∧ W.cell? ⟨tb, 5, none⟩ = some (.int .i64 t.r.wd) ∧ W.cell? ⟨tb, 6, none⟩ = some (.int .i64 t.r.ht) ∧ W.cell? ⟨tb, 7, none⟩ = some (.int .i64 t.r.ms) ∧ W.cell? ⟨tb, 8, none⟩ = some (.int .i64 t.r.rr) ∧ W.cell? ⟨w.heap.size + 1, 0, none⟩ = some (.int .i64 r.x) ∧ W.cell? ⟨w.heap.size + 1, 1, none⟩ = some (.int .i64 r.y) ∧ W.cell? ⟨w.heap.size + 1, 2, none⟩ = some (.int .i64 r.px) ∧ W.cell? ⟨w.heap.size + 1, 3, none⟩ = some (.int .i64 r.py) ∧ W.cell? ⟨w.heap.size + 1, 4, none⟩ = some (.int .i64 r.wd) ∧ W.cell? ⟨w.heap.size + 1, 5, none⟩ = some (.int .i64 r.ht) ∧ W.cell? ⟨w.heap.size + 1, 6, none⟩ = some (.int .i64 r.ms) ∧ W.cell? ⟨w.heap.size + 1, 7, none⟩ = some (.int .i64 r.rr)) := hid (fun W hb => by
        obtain ⟨s0u, s1u, r0u, r1u, r2u, r3u, r4u, r5u, r6u, r7u, a0u, a1u, b0u, b1u, d0u, d1u, x0u, x1u, zsu, zru, zau, zbu, zdu, zxu⟩ := HCL.out _ (bcall HBZ.out hb)
        obtain ⟨tu0, tu1, tu2, tu3, tu4, tu5, tu6, tu7, tu8, zu⟩ := HTC.out _ (bcall HB8.out hb)
        exact ⟨tu0, tu1, tu2, tu3, tu4, tu5, tu6, tu7, tu8, r0u, r1u, r2u, r3u, r4u, r5u, r6u, r7u⟩)
      go_upto_region 39 with fail
      refine Rh.wp_act ?_
      intro A hA
      refine reg39_wp _ _ A mask t r qo qm tb (w.heap.size + 1) wz (by rw [hA]; rfl) (by rw [hA]; rfl) (by rw [hA]; rfl) (by rw [hA]; exact Nat.le_of_ble_eq_true rfl) HKO.out HKM.out HSK.out ?_
      intro f ob mb W hf1 hf2 h1 h2 hb
      subst hA
      have HBZ := hid (bcall HBZ.out hb)
      have HB8 := hid (bcall HB8.out hb)
      have HM1 := hid (HM1.out.below hb)
      clear s0 s1 r0 r1 r2 r3 r4 r5 r6 r7 a0 a1 b0 b1 d0 d1 x0 x1 zs zr za zb zd zx
      obtain ⟨s0, s1, r0, r1, r2, r3, r4, r5, r6, r7, a0, a1, b0, b1, d0, d1, x0, x1, zs, zr, za, zb, zd, zx⟩ := HCL.out _ HBZ.out
      clear t0 t1 t2 t3 t4 t5 t6 t7 t8 zt
      obtain ⟨t0, t1, t2, t3, t4, t5, t6, t7, t8, zt⟩ := HTC.out _ HB8.out
      obtain ⟨o0, o1, o2, o3, o4, o5, o6, o7⟩ := rowCell8 h1
      obtain ⟨g0, g1, g2, g3, g4, g5, g6, g7⟩ := rowCell8 h2
      have zo := h1.lt
      have zm := h2.lt
      clear hb h1 h2
      simp only [Rh.puts, Act.put, hf1, hf2]
      go_simp
      go_upto_region 41 with fail
      clear o0 o1 o2 o3 o4 o5 o6 o7 g0 g1 g2 g3 g4 g5 g6 g7 zo zm
      obtain ⟨rn, hrn⟩ : ∃ q, q = chR mask t.m t.r r := ⟨_, rfl⟩
      have HCR := hid hrn
      have hc := hrn.trans HCH.out
      have ex0 : wrap64 (qo.x + qm.x) = rn.x := by rw [hc]
      have ex1 : wrap64 (qo.y + qm.y) = rn.y := by rw [hc]
      have ex2 : wrap64 (qo.px + qm.px) = rn.px := by rw [hc]
      have ex3 : wrap64 (qo.py + qm.py) = rn.py := by rw [hc]
      have ex4 : wrap64 (qo.wd + qm.wd) = rn.wd := by rw [hc]
      have ex5 : wrap64 (qo.ht + qm.ht) = rn.ht := by rw [hc]
      have ex6 : wrap64 (qo.ms + qm.ms) = rn.ms := by rw [hc]
      have ex7 : wrap64 (qo.rr + qm.rr) = rn.rr := by rw [hc]
      simp only [ex0, ex1, ex2, ex3, ex4, ex5, ex6, ex7]
      clear hrn hc ex0 ex1 ex2 ex3 ex4 ex5 ex6 ex7
      have HR0 := hid (rowIs8 W rn 30)
      have hal := bal (Below.refl _ W) (.cells #[.int .i64 rn.x, .int .i64 rn.y, .int .i64 rn.px, .int .i64 rn.py, .int .i64 rn.wd, .int .i64 rn.ht, .int .i64 rn.ms, .int .i64 rn.rr] 30)
      have HBZ := hid (bcall HBZ.out hal)
      have HB8 := hid (bcall HB8.out hal)
      have HM1 := hid (HM1.out.below hal)
      clear hal
      generalize W.heap.size = nb at HR0 ⊢
      generalize W.alloc (.cells #[.int .i64 rn.x, .int .i64 rn.y, .int .i64 rn.px, .int .i64 rn.py, .int .i64 rn.wd, .int .i64 rn.ht, .int .i64 rn.ms, .int .i64 rn.rr] 30) = W9 at HR0 HBZ HB8 HM1 ⊢
      have HRN : Hid (∀ W', Below W9.heap.size W9 W' → W'.cell? ⟨nb, 0, none⟩ = some (.int .i64 rn.x) ∧ W'.cell? ⟨nb, 1, none⟩ = some (.int .i64 rn.y) ∧ W'.cell? ⟨nb, 2, none⟩ = some (.int .i64 rn.px) ∧ W'.cell? ⟨nb, 3, none⟩ = some (.int .i64 rn.py) ∧ W'.cell? ⟨nb, 4, none⟩ = some (.int .i64 rn.wd) ∧ W'.cell? ⟨nb, 5, none⟩ = some (.int .i64 rn.ht) ∧ W'.cell? ⟨nb, 6, none⟩ = some (.int .i64 rn.ms) ∧ W'.cell? ⟨nb, 7, none⟩ = some (.int .i64 rn.rr) ∧ nb < W'.heap.size) := hid (fun W' hb => by
        have e := rowIs_below HR0.out hb
        exact ⟨e.cell (i := 0) (by omega), e.cell (i := 1) (by omega), e.cell (i := 2) (by omega), e.cell (i := 3) (by omega), e.cell (i := 4) (by omega), e.cell (i := 5) (by omega), e.cell (i := 6) (by omega), e.cell (i := 7) (by omega), e.lt⟩)
      have HB9 : Hid (Below W9.heap.size W9 W9) := hid (Below.refl _ _)
      clear s0 s1 r0 r1 r2 r3 r4 r5 r6 r7 a0 a1 b0 b1 d0 d1 x0 x1 zs zr za zb zd zx
      obtain ⟨s0, s1, r0, r1, r2, r3, r4, r5, r6, r7, a0, a1, b0, b1, d0, d1, x0, x1, zs, zr, za, zb, zd, zx⟩ := HCL.out _ HBZ.out
      clear t0 t1 t2 t3 t4 t5 t6 t7 t8 zt
      obtain ⟨t0, t1, t2, t3, t4, t5, t6, t7, t8, zt⟩ := HTC.out _ HB8.out
      obtain ⟨n0', n1', n2', n3', n4', n5', n6', n7', zn⟩ := HRN.out _ HB9.out
      have HIRN : Hid (∀ W', Calls Try.prog 27 #[.int .i64 mask, .agg #[.int .i64 rn.x, .int .i64 rn.y, .int .i64 rn.px, .int .i64 rn.py, .int .i64 rn.wd, .int .i64 rn.ht, .int .i64 rn.ms, .int .i64 rn.rr]] W' fun e w' => e = .returned (.bool (goodRowB mask rn)) ∧ Below W'.heap.size W' w') := hid (fun W' => by rw [← isRow_good]; exact isRow_any mask rn W')
      rcases HN4 with ⟨-, hg, -⟩ | ⟨-, -, hv, -⟩ | ⟨rfl, -, ⟨m, q, hv, hr4⟩, rfl⟩ | ⟨rfl, -, m, q, hv, hr4, rfl⟩
      · exact absurd HGL.out hg
      · exact absurd (at_mem HAT.out) hv
      · obtain ⟨rfl, rfl⟩ := at_unique HGL.out.2.2.2.2.2 hv HAT.out
        rw [← HCR.out] at hr4
        rw [hr4] at HIRN
        clear hv
        go_wp2_with (first | (go_at_call 27; refine (HIRN.out _).mono ?_; rintro e wz ⟨rfl, h⟩; have HM1 := hid (HM1.out.below h); have HBZ := hid (bcall HBZ.out h); have HB8 := hid (bcall HB8.out h); have HB9 := hid (bcall HB9.out h); clear h; clear s0 s1 r0 r1 r2 r3 r4 r5 r6 r7 a0 a1 b0 b1 d0 d1 x0 x1 zs zr za zb zd zx; obtain ⟨s0, s1, r0, r1, r2, r3, r4, r5, r6, r7, a0, a1, b0, b1, d0, d1, x0, x1, zs, zr, za, zb, zd, zx⟩ := HCL.out _ HBZ.out; clear t0 t1 t2 t3 t4 t5 t6 t7 t8 zt; obtain ⟨t0, t1, t2, t3, t4, t5, t6, t7, t8, zt⟩ := HTC.out _ HB8.out; clear n0' n1' n2' n3' n4' n5' n6' n7' zn; obtain ⟨n0', n1', n2', n3', n4', n5', n6', n7', zn⟩ := HRN.out _ HB9.out) | (go_at_call 30; refine (HSM.out _ _ HBZ.out (by first | exact HOC.out | exact HOA.out | exact HOD.out | exact HOX.out)).mono ?_; rintro e wz ⟨rfl, h⟩; have HM1 := hid (HM1.out.below h); have HBZ := hid (bcall HBZ.out h); have HB8 := hid (bcall HB8.out h); have HB9 := hid (bcall HB9.out h); clear h; clear s0 s1 r0 r1 r2 r3 r4 r5 r6 r7 a0 a1 b0 b1 d0 d1 x0 x1 zs zr za zb zd zx; obtain ⟨s0, s1, r0, r1, r2, r3, r4, r5, r6, r7, a0, a1, b0, b1, d0, d1, x0, x1, zs, zr, za, zb, zd, zx⟩ := HCL.out _ HBZ.out; clear t0 t1 t2 t3 t4 t5 t6 t7 t8 zt; obtain ⟨t0, t1, t2, t3, t4, t5, t6, t7, t8, zt⟩ := HTC.out _ HB8.out; clear n0' n1' n2' n3' n4' n5' n6' n7' zn; obtain ⟨n0', n1', n2', n3', n4', n5', n6', n7', zn⟩ := HRN.out _ HB9.out))
        go_ret
        exact ⟨rfl, bcall HWW.out HBZ.out⟩
      · obtain ⟨rfl, rfl⟩ := at_unique HGL.out.2.2.2.2.2 hv HAT.out
        rw [← HCR.out] at hr4 HOX
        rw [hr4] at HIRN
        have HR4 := hid hr4
        clear hv hr4
        go_upto_region 43 with (first | (go_at_call 27; refine (HIRN.out _).mono ?_; rintro e wz ⟨rfl, h⟩; have HM1 := hid (HM1.out.below h); have HBZ := hid (bcall HBZ.out h); have HB8 := hid (bcall HB8.out h); have HB9 := hid (bcall HB9.out h); clear h; clear s0 s1 r0 r1 r2 r3 r4 r5 r6 r7 a0 a1 b0 b1 d0 d1 x0 x1 zs zr za zb zd zx; obtain ⟨s0, s1, r0, r1, r2, r3, r4, r5, r6, r7, a0, a1, b0, b1, d0, d1, x0, x1, zs, zr, za, zb, zd, zx⟩ := HCL.out _ HBZ.out; clear t0 t1 t2 t3 t4 t5 t6 t7 t8 zt; obtain ⟨t0, t1, t2, t3, t4, t5, t6, t7, t8, zt⟩ := HTC.out _ HB8.out; clear n0' n1' n2' n3' n4' n5' n6' n7' zn; obtain ⟨n0', n1', n2', n3', n4', n5', n6', n7', zn⟩ := HRN.out _ HB9.out))
        have HM1LEN := hid HM2.out.2.2
        obtain ⟨wu, hru, hmu, htu⟩ := HM1.out.store hidw ⟨mask, rn⟩ (by have := HM1LEN.out; unfold maxLen; omega)
        simp only [thV] at hru
        have HBZ := hid (Mp.below_turn HBZ.out htu HWB.out)
        have HB8 := hid (Mp.below_turn HB8.out htu HWB8.out)
        have HM1 := hid hmu
        clear hmu htu
        obtain ⟨s0u, s1u, r0u, r1u, r2u, r3u, r4u, r5u, r6u, r7u, a0u, a1u, b0u, b1u, d0u, d1u, x0u, x1u, zsu, zru, zau, zbu, zdu, zxu⟩ := HCL.out _ HBZ.out
        obtain ⟨tu0, tu1, tu2, tu3, tu4, tu5, tu6, tu7, tu8, zu⟩ := HTC.out _ HB8.out
        go_upto_region 44 with fail
        clear s0 s1 r0 r1 r2 r3 r4 r5 r6 r7 a0 a1 b0 b1 d0 d1 x0 x1 zs zr za zb zd zx t0 t1 t2 t3 t4 t5 t6 t7 t8 zt n0' n1' n2' n3' n4' n5' n6' n7' zn hru
        obtain ⟨s0, s1, r0, r1, r2, r3, r4, r5, r6, r7, a0, a1, b0, b1, d0, d1, x0, x1, zs, zr, za, zb, zd, zx⟩ := HCL.out _ HBZ.out
        obtain ⟨t0, t1, t2, t3, t4, t5, t6, t7, t8, zt⟩ := HTC.out _ HB8.out
        clear s0u s1u r0u r1u r2u r3u r4u r5u r6u r7u a0u a1u b0u b1u d0u d1u x0u x1u zsu zru zau zbu zdu zxu tu0 tu1 tu2 tu3 tu4 tu5 tu6 tu7 tu8 zu
        go_wp2_with (first | (go_at_call 42; refine (stored_out (HOX.out.below HBZ.out) (good_changed HGL.out HAT.out HR4.out)).mono ?_; rintro e wz ⟨⟨sb, rfl, hsb, hms⟩, h⟩; have HM1 := hid (HM1.out.below h); have HMS := hid hms; clear hms hsb; have HBZ := hid (bcall HBZ.out h); have HB8 := hid (bcall HB8.out h); clear h; clear s0 s1 r0 r1 r2 r3 r4 r5 r6 r7 a0 a1 b0 b1 d0 d1 x0 x1 zs zr za zb zd zx; obtain ⟨s0, s1, r0, r1, r2, r3, r4, r5, r6, r7, a0, a1, b0, b1, d0, d1, x0, x1, zs, zr, za, zb, zd, zx⟩ := HCL.out _ HBZ.out; clear t0 t1 t2 t3 t4 t5 t6 t7 t8 zt; obtain ⟨t0, t1, t2, t3, t4, t5, t6, t7, t8, zt⟩ := HTC.out _ HB8.out) | (go_at_call 43; refine (sameThings_any sb wb _ _ _ HMS.out HM1.out).mono ?_; rintro e wz ⟨⟨g, rfl, hg⟩, h⟩; have HM1 := hid (HM1.out.below h); obtain rfl : g = true := hg.2 (thM_changed HGL.out HAT.out HR4.out HM2.out.1 HM2.out.2.1); clear hg; have HBZ := hid (bcall HBZ.out h); have HB8 := hid (bcall HB8.out h); clear h; clear s0 s1 r0 r1 r2 r3 r4 r5 r6 r7 a0 a1 b0 b1 d0 d1 x0 x1 zs zr za zb zd zx; obtain ⟨s0, s1, r0, r1, r2, r3, r4, r5, r6, r7, a0, a1, b0, b1, d0, d1, x0, x1, zs, zr, za, zb, zd, zx⟩ := HCL.out _ HBZ.out; clear t0 t1 t2 t3 t4 t5 t6 t7 t8 zt; obtain ⟨t0, t1, t2, t3, t4, t5, t6, t7, t8, zt⟩ := HTC.out _ HB8.out))
        go_ret
        exact ⟨rfl, bcall HWW.out HBZ.out⟩
    · obtain ⟨rfl, rfl⟩ := at_unique HGL.out.2.2.2.2.2 hv hat
      clear hv
      go_upto_region 33 with (first | (go_at_call 41; refine (HCO.out _ HBZ.out).mono ?_; rintro e wz ⟨⟨wb, rfl, hwb, hm⟩, h⟩; have HM1 := hid hm; have HWB := hid (Nat.le_trans HBZ.out.size hwb); have HWB8 := hid (Nat.le_trans HB8.out.size hwb); clear hm hwb; have HBZ := hid (bcall HBZ.out h); have HB8 := hid (bcall HB8.out h); clear h; clear s0 s1 r0 r1 r2 r3 r4 r5 r6 r7 a0 a1 b0 b1 d0 d1 x0 x1 zs zr za zb zd zx; obtain ⟨s0, s1, r0, r1, r2, r3, r4, r5, r6, r7, a0, a1, b0, b1, d0, d1, x0, x1, zs, zr, za, zb, zd, zx⟩ := HCL.out _ HBZ.out; clear t0 t1 t2 t3 t4 t5 t6 t7 t8 zt; obtain ⟨t0, t1, t2, t3, t4, t5, t6, t7, t8, zt⟩ := HTC.out _ HB8.out) | (at_delete; refine wp_drop _ rfl _ _ rfl wb _ rfl HM1.out id rfl hidw ?_; intro wz hm ht; have HM1 := hid hm; have HBZ := hid (Mp.below_turn HBZ.out ht HWB.out); have HB8 := hid (Mp.below_turn HB8.out ht HWB8.out); clear hm ht; clear s0 s1 r0 r1 r2 r3 r4 r5 r6 r7 a0 a1 b0 b1 d0 d1 x0 x1 zs zr za zb zd zx; obtain ⟨s0, s1, r0, r1, r2, r3, r4, r5, r6, r7, a0, a1, b0, b1, d0, d1, x0, x1, zs, zr, za, zb, zd, zx⟩ := HCL.out _ HBZ.out; clear t0 t1 t2 t3 t4 t5 t6 t7 t8 zt; obtain ⟨t0, t1, t2, t3, t4, t5, t6, t7, t8, zt⟩ := HTC.out _ HB8.out) | (go_at_call 42; refine (stored_out (HOB.out.below HBZ.out) ((kill_all HGL.out (at_mem HAT.out)).1)).mono ?_; rintro e wz ⟨⟨sb, rfl, hsb, hms⟩, h⟩; have HM1 := hid (HM1.out.below h); have HMS := hid hms; clear hms hsb; have HBZ := hid (bcall HBZ.out h); have HB8 := hid (bcall HB8.out h); clear h; clear s0 s1 r0 r1 r2 r3 r4 r5 r6 r7 a0 a1 b0 b1 d0 d1 x0 x1 zs zr za zb zd zx; obtain ⟨s0, s1, r0, r1, r2, r3, r4, r5, r6, r7, a0, a1, b0, b1, d0, d1, x0, x1, zs, zr, za, zb, zd, zx⟩ := HCL.out _ HBZ.out; clear t0 t1 t2 t3 t4 t5 t6 t7 t8 zt; obtain ⟨t0, t1, t2, t3, t4, t5, t6, t7, t8, zt⟩ := HTC.out _ HB8.out) | (go_at_call 43; refine (sameThings_any sb wb _ _ _ HMS.out HM1.out).mono ?_; rintro e wz ⟨⟨g, rfl, hg⟩, h⟩; have HM1 := hid (HM1.out.below h); obtain rfl : g = true := hg.2 (thM_killed HGL.out (at_mem HAT.out)); clear hg; have HBZ := hid (bcall HBZ.out h); have HB8 := hid (bcall HB8.out h); clear h; clear s0 s1 r0 r1 r2 r3 r4 r5 r6 r7 a0 a1 b0 b1 d0 d1 x0 x1 zs zr za zb zd zx; obtain ⟨s0, s1, r0, r1, r2, r3, r4, r5, r6, r7, a0, a1, b0, b1, d0, d1, x0, x1, zs, zr, za, zb, zd, zx⟩ := HCL.out _ HBZ.out; clear t0 t1 t2 t3 t4 t5 t6 t7 t8 zt; obtain ⟨t0, t1, t2, t3, t4, t5, t6, t7, t8, zt⟩ := HTC.out _ HB8.out) | (go_at_call 27; refine (HIR.out _ _).mono ?_; rintro e wz ⟨rfl, h⟩; have HM1 := hid (HM1.out.below h); have HBZ := hid (bcall HBZ.out h); have HB8 := hid (bcall HB8.out h); clear h; clear s0 s1 r0 r1 r2 r3 r4 r5 r6 r7 a0 a1 b0 b1 d0 d1 x0 x1 zs zr za zb zd zx; obtain ⟨s0, s1, r0, r1, r2, r3, r4, r5, r6, r7, a0, a1, b0, b1, d0, d1, x0, x1, zs, zr, za, zb, zd, zx⟩ := HCL.out _ HBZ.out; clear t0 t1 t2 t3 t4 t5 t6 t7 t8 zt; obtain ⟨t0, t1, t2, t3, t4, t5, t6, t7, t8, zt⟩ := HTC.out _ HB8.out) | (go_at_call 30; refine (HSM.out _ _ HBZ.out (by first | exact HOC.out | exact HOA.out | exact HOD.out | exact HOX.out)).mono ?_; rintro e wz ⟨rfl, h⟩; have HM1 := hid (HM1.out.below h); have HBZ := hid (bcall HBZ.out h); have HB8 := hid (bcall HB8.out h); clear h; clear s0 s1 r0 r1 r2 r3 r4 r5 r6 r7 a0 a1 b0 b1 d0 d1 x0 x1 zs zr za zb zd zx; obtain ⟨s0, s1, r0, r1, r2, r3, r4, r5, r6, r7, a0, a1, b0, b1, d0, d1, x0, x1, zs, zr, za, zb, zd, zx⟩ := HCL.out _ HBZ.out; clear t0 t1 t2 t3 t4 t5 t6 t7 t8 zt; obtain ⟨t0, t1, t2, t3, t4, t5, t6, t7, t8, zt⟩ := HTC.out _ HB8.out))
      have HM1LEN : Hid ((delM id (thM (plainOf T I R n))).length ≤ 10) := hid (by have h1 := delM_len id (thM_up (plainOf T I R n)); rw [HLEN.out] at h1; omega)
      obtain ⟨wu, hru, hmu, htu⟩ := HM1.out.store hidw ⟨t.m, r⟩ (by have := HM1LEN.out; unfold maxLen; omega)
      simp only [thV] at hru
      have HBZ := hid (Mp.below_turn HBZ.out htu HWB.out)
      have HB8 := hid (Mp.below_turn HB8.out htu HWB8.out)
      have HM1 := hid hmu
      clear hmu htu
      obtain ⟨s0u, s1u, r0u, r1u, r2u, r3u, r4u, r5u, r6u, r7u, a0u, a1u, b0u, b1u, d0u, d1u, x0u, x1u, zsu, zru, zau, zbu, zdu, zxu⟩ := HCL.out _ HBZ.out
      obtain ⟨tu0, tu1, tu2, tu3, tu4, tu5, tu6, tu7, tu8, zu⟩ := HTC.out _ HB8.out
      go_upto_region 34 with fail
      clear s0 s1 r0 r1 r2 r3 r4 r5 r6 r7 a0 a1 b0 b1 d0 d1 x0 x1 zs zr za zb zd zx t0 t1 t2 t3 t4 t5 t6 t7 t8 zt hru
      obtain ⟨s0, s1, r0, r1, r2, r3, r4, r5, r6, r7, a0, a1, b0, b1, d0, d1, x0, x1, zs, zr, za, zb, zd, zx⟩ := HCL.out _ HBZ.out
      obtain ⟨t0, t1, t2, t3, t4, t5, t6, t7, t8, zt⟩ := HTC.out _ HB8.out
      clear s0u s1u r0u r1u r2u r3u r4u r5u r6u r7u a0u a1u b0u b1u d0u d1u x0u x1u zsu zru zau zbu zdu zxu tu0 tu1 tu2 tu3 tu4 tu5 tu6 tu7 tu8 zu
      go_upto_region 37 with (first | (go_at_call 42; refine (stored_out (HOD.out.below HBZ.out) ((thM_set HGL.out HAT.out hr3).1)).mono ?_; rintro e wz ⟨⟨sb, rfl, hsb, hms⟩, h⟩; have HM1 := hid (HM1.out.below h); have HMS := hid hms; clear hms hsb; have HBZ := hid (bcall HBZ.out h); have HB8 := hid (bcall HB8.out h); clear h; clear s0 s1 r0 r1 r2 r3 r4 r5 r6 r7 a0 a1 b0 b1 d0 d1 x0 x1 zs zr za zb zd zx; obtain ⟨s0, s1, r0, r1, r2, r3, r4, r5, r6, r7, a0, a1, b0, b1, d0, d1, x0, x1, zs, zr, za, zb, zd, zx⟩ := HCL.out _ HBZ.out; clear t0 t1 t2 t3 t4 t5 t6 t7 t8 zt; obtain ⟨t0, t1, t2, t3, t4, t5, t6, t7, t8, zt⟩ := HTC.out _ HB8.out) | (go_at_call 43; refine (sameThings_any sb wb _ _ _ HMS.out HM1.out).mono ?_; rintro e wz ⟨⟨g, rfl, hg⟩, h⟩; have HM1 := hid (HM1.out.below h); obtain rfl : g = true := hg.2 ((thM_set HGL.out HAT.out hr3).2); clear hg; have HBZ := hid (bcall HBZ.out h); have HB8 := hid (bcall HB8.out h); clear h; clear s0 s1 r0 r1 r2 r3 r4 r5 r6 r7 a0 a1 b0 b1 d0 d1 x0 x1 zs zr za zb zd zx; obtain ⟨s0, s1, r0, r1, r2, r3, r4, r5, r6, r7, a0, a1, b0, b1, d0, d1, x0, x1, zs, zr, za, zb, zd, zx⟩ := HCL.out _ HBZ.out; clear t0 t1 t2 t3 t4 t5 t6 t7 t8 zt; obtain ⟨t0, t1, t2, t3, t4, t5, t6, t7, t8, zt⟩ := HTC.out _ HB8.out))
      have HM2 : Hid (Up (putM id ⟨t.m, r⟩ (delM id (thM (plainOf T I R n)))) ∧ (∀ u, u ≠ id → getM u (putM id ⟨t.m, r⟩ (delM id (thM (plainOf T I R n)))) = getM u (thM (plainOf T I R n))) ∧ (putM id ⟨t.m, r⟩ (delM id (thM (plainOf T I R n)))).length ≤ 11) := hid ⟨((thM_up _).del id).put _ _, fun u hu => (by rw [getM_put ((thM_up _).del id), if_neg hu, getM_del (thM_up _), if_neg hu]), by have h1 := putM_len id ⟨t.m, r⟩ ((thM_up (plainOf T I R n)).del id); have h2 := HM1LEN.out; split at h1 <;> omega⟩
      generalize putM id ⟨t.m, r⟩ (delM id (thM (plainOf T I R n))) = M2 at HM1 HM2
      have hmr : ∀ q', goodRowB mask q' = true → 1 ≤ mask ∧ mask ≤ 31 := fun q' h => by simp [goodRowB, btw] at h; omega
      by_cases hm0 : mask < 0
      · rcases HN4 with ⟨-, hg, -⟩ | ⟨-, -, hv, -⟩ | ⟨rfl, -, -, rfl⟩ | ⟨-, -, m, q, hv, hr4, -⟩
        · exact absurd HGL.out hg
        · exact absurd (at_mem HAT.out) hv
        rotate_left
        · have := hmr _ hr4; omega
        go_wp2_with (first | (go_at_call 30; refine (HSM.out _ _ HBZ.out (by first | exact HOC.out | exact HOA.out | exact HOD.out | exact HOX.out)).mono ?_; rintro e wz ⟨rfl, h⟩; have HM1 := hid (HM1.out.below h); have HBZ := hid (bcall HBZ.out h); have HB8 := hid (bcall HB8.out h); clear h; clear s0 s1 r0 r1 r2 r3 r4 r5 r6 r7 a0 a1 b0 b1 d0 d1 x0 x1 zs zr za zb zd zx; obtain ⟨s0, s1, r0, r1, r2, r3, r4, r5, r6, r7, a0, a1, b0, b1, d0, d1, x0, x1, zs, zr, za, zb, zd, zx⟩ := HCL.out _ HBZ.out; clear t0 t1 t2 t3 t4 t5 t6 t7 t8 zt; obtain ⟨t0, t1, t2, t3, t4, t5, t6, t7, t8, zt⟩ := HTC.out _ HB8.out))
        go_ret
        exact ⟨rfl, bcall HWW.out HBZ.out⟩
      by_cases hm1 : mask > 31
      · rcases HN4 with ⟨-, hg, -⟩ | ⟨-, -, hv, -⟩ | ⟨rfl, -, -, rfl⟩ | ⟨-, -, m, q, hv, hr4, -⟩
        · exact absurd HGL.out hg
        · exact absurd (at_mem HAT.out) hv
        rotate_left
        · have := hmr _ hr4; omega
        go_wp2_with (first | (go_at_call 30; refine (HSM.out _ _ HBZ.out (by first | exact HOC.out | exact HOA.out | exact HOD.out | exact HOX.out)).mono ?_; rintro e wz ⟨rfl, h⟩; have HM1 := hid (HM1.out.below h); have HBZ := hid (bcall HBZ.out h); have HB8 := hid (bcall HB8.out h); clear h; clear s0 s1 r0 r1 r2 r3 r4 r5 r6 r7 a0 a1 b0 b1 d0 d1 x0 x1 zs zr za zb zd zx; obtain ⟨s0, s1, r0, r1, r2, r3, r4, r5, r6, r7, a0, a1, b0, b1, d0, d1, x0, x1, zs, zr, za, zb, zd, zx⟩ := HCL.out _ HBZ.out; clear t0 t1 t2 t3 t4 t5 t6 t7 t8 zt; obtain ⟨t0, t1, t2, t3, t4, t5, t6, t7, t8, zt⟩ := HTC.out _ HB8.out))
        go_ret
        exact ⟨rfl, bcall HWW.out HBZ.out⟩
      have hmk : 0 ≤ mask ∧ mask ≤ 31 := ⟨by omega, by omega⟩
      have hgq : goodRowB t.m t.r = true := by
        obtain ⟨tt, htt, hm', j, hj1, hj2⟩ := HAT.out
        have h1 := (HGL.out.2.2.2.2.1 tt htt).2.2.2 t.r (List.mem_of_getElem? hj2)
        rw [hm'] at h1
        exact h1
      have htm : 0 ≤ t.m ∧ t.m ≤ 31 := by simp [goodRowB, btw] at hgq; omega
      have HCH := hid (ch_sum hmk htm (good_in64 hgq) HR64.out)
      obtain ⟨b1, b2, b3, b4, -⟩ := bits_all mask (mem_masks hmk) t.m (mem_masks htm)
      have HKO : Hid (∀ W, Calls Try.prog 29 #[.int .i64 (bits .and .i64 mask t.m), .agg #[.int .i64 t.r.x, .int .i64 t.r.y, .int .i64 t.r.px, .int .i64 t.r.py, .int .i64 t.r.wd, .int .i64 t.r.ht, .int .i64 t.r.ms, .int .i64 t.r.rr]] W fun e w' => e = .returned (rowV (onlyH (bits .and .i64 mask t.m) t.r)) ∧ Below W.heap.size W w') := hid (fun W => onlyOf_any _ ⟨by omega, by omega⟩ t.r.x t.r.y t.r.px t.r.py t.r.wd t.r.ht t.r.ms t.r.rr W)
      have HKM : Hid (∀ W, Calls Try.prog 29 #[.int .i64 (bits .andNot .i64 mask t.m), .agg #[.int .i64 r.x, .int .i64 r.y, .int .i64 r.px, .int .i64 r.py, .int .i64 r.wd, .int .i64 r.ht, .int .i64 r.ms, .int .i64 r.rr]] W fun e w' => e = .returned (rowV (onlyH (bits .andNot .i64 mask t.m) r)) ∧ Below W.heap.size W w') := hid (fun W => onlyOf_any _ ⟨by omega, by omega⟩ r.x r.y r.px r.py r.wd r.ht r.ms r.rr W)
      generalize onlyH (bits .and .i64 mask t.m) t.r = qo at HKO HCH
      generalize onlyH (bits .andNot .i64 mask t.m) r = qm at HKM HCH
      unfold rowV at HKO HKM
      clear b1 b2 b3 b4 hgq htm hmk
      have HSK : Hid (∀ W, Below wz.heap.size wz W → W.cell? ⟨tb, 0, none⟩ = some (.int .i64 t.m) ∧ W.cell? ⟨tb, 1, none⟩ = some (.int .i64 t.r.x) ∧ W.cell? ⟨tb, 2, none⟩ = some (.int .i64 t.r.y) ∧ W.cell? ⟨tb, 3, none⟩ = some (.int .i64 t.r.px) ∧ W.cell? ⟨tb, 4, none⟩ = some (.int .i64 t.r.py) ∧ W.cell? ⟨tb, 5, none⟩ = some (.int .i64 t.r.wd) ∧ W.cell? ⟨tb, 6, none⟩ = some (.int .i64 t.r.ht) ∧ W.cell? ⟨tb, 7, none⟩ = some (.int .i64 t.r.ms) ∧ W.cell? ⟨tb, 8, none⟩ = some (.int .i64 t.r.rr) ∧ W.cell? ⟨w.heap.size + 1, 0, none⟩ = some (.int .i64 r.x) ∧ W.cell? ⟨w.heap.size + 1, 1, none⟩ = some (.int .i64 r.y) ∧ W.cell? ⟨w.heap.size + 1, 2, none⟩ = some (.int .i64 r.px) ∧ W.cell? ⟨w.heap.size + 1, 3, none⟩ = some (.int .i64 r.py) ∧ W.cell? ⟨w.heap.size + 1, 4, none⟩ = some (.int .i64 r.wd) ∧ W.cell? ⟨w.heap.size + 1, 5, none⟩ = some (.int .i64 r.ht) ∧ W.cell? ⟨w.heap.size + 1, 6, none⟩ = some (.int .i64 r.ms) ∧ W.cell? ⟨w.heap.size + 1, 7, none⟩ = some (.int .i64 r.rr)) := hid (fun W hb => by
        obtain ⟨s0u, s1u, r0u, r1u, r2u, r3u, r4u, r5u, r6u, r7u, a0u, a1u, b0u, b1u, d0u, d1u, x0u, x1u, zsu, zru, zau, zbu, zdu, zxu⟩ := HCL.out _ (bcall HBZ.out hb)
        obtain ⟨tu0, tu1, tu2, tu3, tu4, tu5, tu6, tu7, tu8, zu⟩ := HTC.out _ (bcall HB8.out hb)
        exact ⟨tu0, tu1, tu2, tu3, tu4, tu5, tu6, tu7, tu8, r0u, r1u, r2u, r3u, r4u, r5u, r6u, r7u⟩)
      go_upto_region 39 with fail
      refine Rh.wp_act ?_
      intro A hA
      refine reg39_wp _ _ A mask t r qo qm tb (w.heap.size + 1) wz (by rw [hA]; rfl) (by rw [hA]; rfl) (by rw [hA]; rfl) (by rw [hA]; exact Nat.le_of_ble_eq_true rfl) HKO.out HKM.out HSK.out ?_
      intro f ob mb W hf1 hf2 h1 h2 hb
      subst hA
      have HBZ := hid (bcall HBZ.out hb)
      have HB8 := hid (bcall HB8.out hb)
      have HM1 := hid (HM1.out.below hb)
      clear s0 s1 r0 r1 r2 r3 r4 r5 r6 r7 a0 a1 b0 b1 d0 d1 x0 x1 zs zr za zb zd zx
      obtain ⟨s0, s1, r0, r1, r2, r3, r4, r5, r6, r7, a0, a1, b0, b1, d0, d1, x0, x1, zs, zr, za, zb, zd, zx⟩ := HCL.out _ HBZ.out
      clear t0 t1 t2 t3 t4 t5 t6 t7 t8 zt
      obtain ⟨t0, t1, t2, t3, t4, t5, t6, t7, t8, zt⟩ := HTC.out _ HB8.out
      obtain ⟨o0, o1, o2, o3, o4, o5, o6, o7⟩ := rowCell8 h1
      obtain ⟨g0, g1, g2, g3, g4, g5, g6, g7⟩ := rowCell8 h2
      have zo := h1.lt
      have zm := h2.lt
      clear hb h1 h2
      simp only [Rh.puts, Act.put, hf1, hf2]
      go_simp
      go_upto_region 41 with fail
      clear o0 o1 o2 o3 o4 o5 o6 o7 g0 g1 g2 g3 g4 g5 g6 g7 zo zm
      obtain ⟨rn, hrn⟩ : ∃ q, q = chR mask t.m t.r r := ⟨_, rfl⟩
      have HCR := hid hrn
      have hc := hrn.trans HCH.out
      have ex0 : wrap64 (qo.x + qm.x) = rn.x := by rw [hc]
      have ex1 : wrap64 (qo.y + qm.y) = rn.y := by rw [hc]
      have ex2 : wrap64 (qo.px + qm.px) = rn.px := by rw [hc]
      have ex3 : wrap64 (qo.py + qm.py) = rn.py := by rw [hc]
      have ex4 : wrap64 (qo.wd + qm.wd) = rn.wd := by rw [hc]
      have ex5 : wrap64 (qo.ht + qm.ht) = rn.ht := by rw [hc]
      have ex6 : wrap64 (qo.ms + qm.ms) = rn.ms := by rw [hc]
      have ex7 : wrap64 (qo.rr + qm.rr) = rn.rr := by rw [hc]
      simp only [ex0, ex1, ex2, ex3, ex4, ex5, ex6, ex7]
      clear hrn hc ex0 ex1 ex2 ex3 ex4 ex5 ex6 ex7
      have HR0 := hid (rowIs8 W rn 30)
      have hal := bal (Below.refl _ W) (.cells #[.int .i64 rn.x, .int .i64 rn.y, .int .i64 rn.px, .int .i64 rn.py, .int .i64 rn.wd, .int .i64 rn.ht, .int .i64 rn.ms, .int .i64 rn.rr] 30)
      have HBZ := hid (bcall HBZ.out hal)
      have HB8 := hid (bcall HB8.out hal)
      have HM1 := hid (HM1.out.below hal)
      clear hal
      generalize W.heap.size = nb at HR0 ⊢
      generalize W.alloc (.cells #[.int .i64 rn.x, .int .i64 rn.y, .int .i64 rn.px, .int .i64 rn.py, .int .i64 rn.wd, .int .i64 rn.ht, .int .i64 rn.ms, .int .i64 rn.rr] 30) = W9 at HR0 HBZ HB8 HM1 ⊢
      have HRN : Hid (∀ W', Below W9.heap.size W9 W' → W'.cell? ⟨nb, 0, none⟩ = some (.int .i64 rn.x) ∧ W'.cell? ⟨nb, 1, none⟩ = some (.int .i64 rn.y) ∧ W'.cell? ⟨nb, 2, none⟩ = some (.int .i64 rn.px) ∧ W'.cell? ⟨nb, 3, none⟩ = some (.int .i64 rn.py) ∧ W'.cell? ⟨nb, 4, none⟩ = some (.int .i64 rn.wd) ∧ W'.cell? ⟨nb, 5, none⟩ = some (.int .i64 rn.ht) ∧ W'.cell? ⟨nb, 6, none⟩ = some (.int .i64 rn.ms) ∧ W'.cell? ⟨nb, 7, none⟩ = some (.int .i64 rn.rr) ∧ nb < W'.heap.size) := hid (fun W' hb => by
        have e := rowIs_below HR0.out hb
        exact ⟨e.cell (i := 0) (by omega), e.cell (i := 1) (by omega), e.cell (i := 2) (by omega), e.cell (i := 3) (by omega), e.cell (i := 4) (by omega), e.cell (i := 5) (by omega), e.cell (i := 6) (by omega), e.cell (i := 7) (by omega), e.lt⟩)
      have HB9 : Hid (Below W9.heap.size W9 W9) := hid (Below.refl _ _)
      clear s0 s1 r0 r1 r2 r3 r4 r5 r6 r7 a0 a1 b0 b1 d0 d1 x0 x1 zs zr za zb zd zx
      obtain ⟨s0, s1, r0, r1, r2, r3, r4, r5, r6, r7, a0, a1, b0, b1, d0, d1, x0, x1, zs, zr, za, zb, zd, zx⟩ := HCL.out _ HBZ.out
      clear t0 t1 t2 t3 t4 t5 t6 t7 t8 zt
      obtain ⟨t0, t1, t2, t3, t4, t5, t6, t7, t8, zt⟩ := HTC.out _ HB8.out
      obtain ⟨n0', n1', n2', n3', n4', n5', n6', n7', zn⟩ := HRN.out _ HB9.out
      have HIRN : Hid (∀ W', Calls Try.prog 27 #[.int .i64 mask, .agg #[.int .i64 rn.x, .int .i64 rn.y, .int .i64 rn.px, .int .i64 rn.py, .int .i64 rn.wd, .int .i64 rn.ht, .int .i64 rn.ms, .int .i64 rn.rr]] W' fun e w' => e = .returned (.bool (goodRowB mask rn)) ∧ Below W'.heap.size W' w') := hid (fun W' => by rw [← isRow_good]; exact isRow_any mask rn W')
      rcases HN4 with ⟨-, hg, -⟩ | ⟨-, -, hv, -⟩ | ⟨rfl, -, ⟨m, q, hv, hr4⟩, rfl⟩ | ⟨rfl, -, m, q, hv, hr4, rfl⟩
      · exact absurd HGL.out hg
      · exact absurd (at_mem HAT.out) hv
      · obtain ⟨rfl, rfl⟩ := at_unique HGL.out.2.2.2.2.2 hv HAT.out
        rw [← HCR.out] at hr4
        rw [hr4] at HIRN
        clear hv
        go_wp2_with (first | (go_at_call 27; refine (HIRN.out _).mono ?_; rintro e wz ⟨rfl, h⟩; have HM1 := hid (HM1.out.below h); have HBZ := hid (bcall HBZ.out h); have HB8 := hid (bcall HB8.out h); have HB9 := hid (bcall HB9.out h); clear h; clear s0 s1 r0 r1 r2 r3 r4 r5 r6 r7 a0 a1 b0 b1 d0 d1 x0 x1 zs zr za zb zd zx; obtain ⟨s0, s1, r0, r1, r2, r3, r4, r5, r6, r7, a0, a1, b0, b1, d0, d1, x0, x1, zs, zr, za, zb, zd, zx⟩ := HCL.out _ HBZ.out; clear t0 t1 t2 t3 t4 t5 t6 t7 t8 zt; obtain ⟨t0, t1, t2, t3, t4, t5, t6, t7, t8, zt⟩ := HTC.out _ HB8.out; clear n0' n1' n2' n3' n4' n5' n6' n7' zn; obtain ⟨n0', n1', n2', n3', n4', n5', n6', n7', zn⟩ := HRN.out _ HB9.out) | (go_at_call 30; refine (HSM.out _ _ HBZ.out (by first | exact HOC.out | exact HOA.out | exact HOD.out | exact HOX.out)).mono ?_; rintro e wz ⟨rfl, h⟩; have HM1 := hid (HM1.out.below h); have HBZ := hid (bcall HBZ.out h); have HB8 := hid (bcall HB8.out h); have HB9 := hid (bcall HB9.out h); clear h; clear s0 s1 r0 r1 r2 r3 r4 r5 r6 r7 a0 a1 b0 b1 d0 d1 x0 x1 zs zr za zb zd zx; obtain ⟨s0, s1, r0, r1, r2, r3, r4, r5, r6, r7, a0, a1, b0, b1, d0, d1, x0, x1, zs, zr, za, zb, zd, zx⟩ := HCL.out _ HBZ.out; clear t0 t1 t2 t3 t4 t5 t6 t7 t8 zt; obtain ⟨t0, t1, t2, t3, t4, t5, t6, t7, t8, zt⟩ := HTC.out _ HB8.out; clear n0' n1' n2' n3' n4' n5' n6' n7' zn; obtain ⟨n0', n1', n2', n3', n4', n5', n6', n7', zn⟩ := HRN.out _ HB9.out))
        go_ret
        exact ⟨rfl, bcall HWW.out HBZ.out⟩
      · obtain ⟨rfl, rfl⟩ := at_unique HGL.out.2.2.2.2.2 hv HAT.out
        rw [← HCR.out] at hr4 HOX
        rw [hr4] at HIRN
        have HR4 := hid hr4
        clear hv hr4
        go_upto_region 43 with (first | (go_at_call 27; refine (HIRN.out _).mono ?_; rintro e wz ⟨rfl, h⟩; have HM1 := hid (HM1.out.below h); have HBZ := hid (bcall HBZ.out h); have HB8 := hid (bcall HB8.out h); have HB9 := hid (bcall HB9.out h); clear h; clear s0 s1 r0 r1 r2 r3 r4 r5 r6 r7 a0 a1 b0 b1 d0 d1 x0 x1 zs zr za zb zd zx; obtain ⟨s0, s1, r0, r1, r2, r3, r4, r5, r6, r7, a0, a1, b0, b1, d0, d1, x0, x1, zs, zr, za, zb, zd, zx⟩ := HCL.out _ HBZ.out; clear t0 t1 t2 t3 t4 t5 t6 t7 t8 zt; obtain ⟨t0, t1, t2, t3, t4, t5, t6, t7, t8, zt⟩ := HTC.out _ HB8.out; clear n0' n1' n2' n3' n4' n5' n6' n7' zn; obtain ⟨n0', n1', n2', n3', n4', n5', n6', n7', zn⟩ := HRN.out _ HB9.out))
        have HM1LEN := hid HM2.out.2.2
        obtain ⟨wu, hru, hmu, htu⟩ := HM1.out.store hidw ⟨mask, rn⟩ (by have := HM1LEN.out; unfold maxLen; omega)
        simp only [thV] at hru
        have HBZ := hid (Mp.below_turn HBZ.out htu HWB.out)
        have HB8 := hid (Mp.below_turn HB8.out htu HWB8.out)
        have HM1 := hid hmu
        clear hmu htu
        obtain ⟨s0u, s1u, r0u, r1u, r2u, r3u, r4u, r5u, r6u, r7u, a0u, a1u, b0u, b1u, d0u, d1u, x0u, x1u, zsu, zru, zau, zbu, zdu, zxu⟩ := HCL.out _ HBZ.out
        obtain ⟨tu0, tu1, tu2, tu3, tu4, tu5, tu6, tu7, tu8, zu⟩ := HTC.out _ HB8.out
        go_upto_region 44 with fail
        clear s0 s1 r0 r1 r2 r3 r4 r5 r6 r7 a0 a1 b0 b1 d0 d1 x0 x1 zs zr za zb zd zx t0 t1 t2 t3 t4 t5 t6 t7 t8 zt n0' n1' n2' n3' n4' n5' n6' n7' zn hru
        obtain ⟨s0, s1, r0, r1, r2, r3, r4, r5, r6, r7, a0, a1, b0, b1, d0, d1, x0, x1, zs, zr, za, zb, zd, zx⟩ := HCL.out _ HBZ.out
        obtain ⟨t0, t1, t2, t3, t4, t5, t6, t7, t8, zt⟩ := HTC.out _ HB8.out
        clear s0u s1u r0u r1u r2u r3u r4u r5u r6u r7u a0u a1u b0u b1u d0u d1u x0u x1u zsu zru zau zbu zdu zxu tu0 tu1 tu2 tu3 tu4 tu5 tu6 tu7 tu8 zu
        go_wp2_with (first | (go_at_call 42; refine (stored_out (HOX.out.below HBZ.out) (good_changed HGL.out HAT.out HR4.out)).mono ?_; rintro e wz ⟨⟨sb, rfl, hsb, hms⟩, h⟩; have HM1 := hid (HM1.out.below h); have HMS := hid hms; clear hms hsb; have HBZ := hid (bcall HBZ.out h); have HB8 := hid (bcall HB8.out h); clear h; clear s0 s1 r0 r1 r2 r3 r4 r5 r6 r7 a0 a1 b0 b1 d0 d1 x0 x1 zs zr za zb zd zx; obtain ⟨s0, s1, r0, r1, r2, r3, r4, r5, r6, r7, a0, a1, b0, b1, d0, d1, x0, x1, zs, zr, za, zb, zd, zx⟩ := HCL.out _ HBZ.out; clear t0 t1 t2 t3 t4 t5 t6 t7 t8 zt; obtain ⟨t0, t1, t2, t3, t4, t5, t6, t7, t8, zt⟩ := HTC.out _ HB8.out) | (go_at_call 43; refine (sameThings_any sb wb _ _ _ HMS.out HM1.out).mono ?_; rintro e wz ⟨⟨g, rfl, hg⟩, h⟩; have HM1 := hid (HM1.out.below h); obtain rfl : g = true := hg.2 (thM_changed HGL.out HAT.out HR4.out HM2.out.1 HM2.out.2.1); clear hg; have HBZ := hid (bcall HBZ.out h); have HB8 := hid (bcall HB8.out h); clear h; clear s0 s1 r0 r1 r2 r3 r4 r5 r6 r7 a0 a1 b0 b1 d0 d1 x0 x1 zs zr za zb zd zx; obtain ⟨s0, s1, r0, r1, r2, r3, r4, r5, r6, r7, a0, a1, b0, b1, d0, d1, x0, x1, zs, zr, za, zb, zd, zx⟩ := HCL.out _ HBZ.out; clear t0 t1 t2 t3 t4 t5 t6 t7 t8 zt; obtain ⟨t0, t1, t2, t3, t4, t5, t6, t7, t8, zt⟩ := HTC.out _ HB8.out))
        go_ret
        exact ⟨rfl, bcall HWW.out HBZ.out⟩
end Go.Proofs.Ytckkkdldljhehaa.Te
namespace Go.Proofs.Ytckkkdldljhehaa.Te
open Go.Proofs.Ytckkkdldljhehaa.Num Go.Proofs.Ytckkkdldljhehaa.St Go.Proofs.Ytckkkdldljhehaa.Mp Go.Proofs.Ytckkkdldljhehaa.Th
open Go.ChangeShapes Go.WideShapes Go.ChangeAt Go.RowKit

attribute [local go_sem ↓] Go.wp_at_zero Go.wp_at_succ
set_option maxHeartbeats 16000000 in
set_option maxRecDepth 100000 in
theorem storeTurns_S (a : Option Addr) (n cap : Nat) (next id mask : Int) (r : R8) (T : Nat → TabV) (I : Nat → Nat → Int) (R : Nat → Nat → R8) (w : World) (hin : StoreIn w a n T I R) (hidw : (Lit.int .i64 id).wf = true) (hr64 : In64 r) (hcase : goodRowB mask r = true ∧ (allL (plainOf T I R n)).length ≠ 10 ∧ next ≠ 1048576) :
    Calls Try.prog 6 #[.agg #[.slice a n cap, .int .i64 next], .int .i64 id, .int .i64 mask, .agg #[.int .i64 r.x, .int .i64 r.y, .int .i64 r.px, .int .i64 r.py, .int .i64 r.wd, .int .i64 r.ht, .int .i64 r.ms, .int .i64 r.rr]] w fun e w' => e = .returned (.bool true) ∧ Below w.heap.size w w' := by
  have HST := hid hin
  have HCASE' := hid hcase
  have HR64 := hid hr64
  clear hcase hr64
  have HA0 := hid (bal (bal (Below.refl _ w) (.cells #[.slice a n cap, .int .i64 next] 28)) (.cells #[.int .i64 r.x, .int .i64 r.y, .int .i64 r.px, .int .i64 r.py, .int .i64 r.wd, .int .i64 r.ht, .int .i64 r.ms, .int .i64 r.rr] 30))
  have HSB : Hid (((w.alloc (.cells #[.slice a n cap, .int .i64 next] 28)).alloc (.cells #[.int .i64 r.x, .int .i64 r.y, .int .i64 r.px, .int .i64 r.py, .int .i64 r.wd, .int .i64 r.ht, .int .i64 r.ms, .int .i64 r.rr] 30)).rowIs w.heap.size 28 2 (fun i => if i = 0 then .slice a n cap else .int .i64 next)) := hid (rowIs_below (rowIs2 w (.slice a n cap) (.int .i64 next) 28) (bal (Below.refl _ _) _))
  have HRB : Hid (((w.alloc (.cells #[.slice a n cap, .int .i64 next] 28)).alloc (.cells #[.int .i64 r.x, .int .i64 r.y, .int .i64 r.px, .int .i64 r.py, .int .i64 r.wd, .int .i64 r.ht, .int .i64 r.ms, .int .i64 r.rr] 30)).rowIs (w.heap.size + 1) 30 8 (fun i => (rowCells r).getD i undef)) := hid (by
    have h := World.rowIs_alloc (w.alloc (.cells #[.slice a n cap, .int .i64 next] 28)) #[.int .i64 r.x, .int .i64 r.y, .int .i64 r.px, .int .i64 r.py, .int .i64 r.wd, .int .i64 r.ht, .int .i64 r.ms, .int .i64 r.rr] 30 (fun i => (rowCells r).getD i undef) (fun i hi => by
      match i, hi with
      | 0, _ => rfl
      | 1, _ => rfl
      | 2, _ => rfl
      | 3, _ => rfl
      | 4, _ => rfl
      | 5, _ => rfl
      | 6, _ => rfl
      | 7, _ => rfl)
    rw [World.size_alloc] at h
    exact h)
  have HCP := hid (Cp.copied_any a n cap next T I R _ (hin.below HA0.out))
  clear hin
  go_enter Try.func6, Try.ntmps6
  go_wp2_with fail
  refine HCP.out.mono ?_
  rintro e w1 ⟨⟨a', c', rfl, S, hown, hsp⟩, hb1⟩
  obtain ⟨T2, I2, R2, hin2, hpl2⟩ := copy_in hown hsp HST.out
  have HIN2 := hid hin2
  have HPL := hid hpl2
  have HSB1 := hid (rowIs_below HSB.out hb1)
  have HRB1 := hid (rowIs_below HRB.out hb1)
  obtain ⟨y0, y1⟩ := cells2 HSB1.out
  have hyz := HSB1.out.lt
  have HA1 := hid (bal (Below.refl _ w1) (.cells #[.slice a' n c', .int .i64 next] 28))
  have HCB := hid (rowIs2 w1 (.slice a' n c') (.int .i64 next) 28)
  have HWC := hid (bcall (bcall HA0.out hb1) HA1.out)
  have HTO := hid (thingsOf_any a n cap next T I R _ (HST.out.below HWC.out))
  have HSB2 := hid (rowIs_below HSB1.out HA1.out)
  have HRB2 := hid (rowIs_below HRB1.out HA1.out)
  have HIN3 := hid (HIN2.out.below HA1.out)
  clear hown hsp hb1 hin2 hpl2 HCP
  go_wp2_with fail
  refine HTO.out.mono ?_
  rintro e w2 ⟨he, hb2⟩
  have HIS2 := hid ((HST.out.below HWC.out).below hb2)
  have HIC2 := hid (HIN3.out.below hb2)
  have HSB2' := hid (rowIs_below HSB2.out hb2)
  have HRB2' := hid (rowIs_below HRB2.out hb2)
  have HCB2 := hid (rowIs_below HCB.out hb2)
  have HW2 := hid (bcall HWC.out hb2)
  generalize w1.heap.size = cb at HCB2 ⊢
  have HE : Hid (∃ lv ok, e = .returned (.tuple #[lv, .bool ok]) ∧ ((GoodL next (plainOf T I R n) ∧ ok = true ∧ ∃ bm, lv = .map (some bm) ∧ Mp w2 bm (thM (plainOf T I R n))) ∨ (¬ GoodL next (plainOf T I R n) ∧ ok = false))) := hid (by
    rcases he with ⟨hgl, bm, rfl, _, hmp⟩ | ⟨hng, v, rfl⟩
    · exact ⟨_, _, rfl, Or.inl ⟨hgl, rfl, bm, rfl, hmp⟩⟩
    · exact ⟨_, _, rfl, Or.inr ⟨hng, rfl⟩⟩)
  clear he
  obtain ⟨lv, ok, rfl, HLV⟩ := HE.out
  have HLV := hid HLV
  clear hb2 HE HTO HSB HRB HSB1 HRB1 HSB2 HRB2 HIN2 HIN3 HCB HA1 HWC y0 y1 hyz HA0
  have hcz := HCB2.out.lt
  have hrz := HRB2'.out.lt
  obtain ⟨k0, k1⟩ := cells2 HCB2.out
  obtain ⟨j0, j1, j2, j3, j4, j5, j6, j7⟩ := rowCell8 HRB2'.out
  have HC := hid (spawn_out HIC2.out c' next mask r)
  rw [HPL.out] at HC
  go_wp2_with fail
  refine HC.out.mono ?_
  rintro e w3 ⟨⟨v, nx, ni, ec1, Ln1, rfl, ho, hs1⟩, h⟩
  obtain ⟨a1, n1, c1, Tn1, In1, Rn1, rfl, hi, hp⟩ := ho
  have HOn1 : Hid (Out (w3.alloc (.cells #[.slice a1 n1 c1, .int .i64 nx] 28)) (.slice a1 n1 c1) Ln1) := hid (Out.below ⟨_, _, _, _, _, _, rfl, hi, hp⟩ (bal (Below.refl _ _) _))
  have HBn1 := hid (bal h (.cells #[.slice a1 n1 c1, .int .i64 nx] 28))
  have HXn1 := hid (rowIs2 w3 (.slice a1 n1 c1) (.int .i64 nx) 28)
  have HSn1 := hid hs1
  clear HC hi hp h hs1 k0 k1 j0 j1 j2 j3 j4 j5 j6 j7 hcz hrz
  have HCBx := hid (rowIs_below HCB2.out HBn1.out)
  have HRBx := hid (rowIs_below HRB2'.out HBn1.out)
  have HICx := hid (HIC2.out.below HBn1.out)
  have HBx : Hid (Below w2.heap.size w2 (w3.alloc (.cells #[.slice a1 n1 c1, .int .i64 nx] 28))) := hid (HBn1.out)
  obtain ⟨k0, k1⟩ := cells2 HCBx.out
  obtain ⟨j0, j1, j2, j3, j4, j5, j6, j7⟩ := rowCell8 HRBx.out
  have hcz := HCBx.out.lt
  have hrz := HRBx.out.lt
  have HC := hid (kill_out HICx.out c' next id)
  rw [HPL.out] at HC
  go_wp2_with fail
  refine HC.out.mono ?_
  rintro e w4 ⟨⟨v, ec2, Ln2, rfl, ho, hs2⟩, h⟩
  obtain ⟨a2, n2, c2, Tn2, In2, Rn2, rfl, hi, hp⟩ := ho
  have HOn2 : Hid (Out (w4.alloc (.cells #[.slice a2 n2 c2, .int .i64 next] 28)) (.slice a2 n2 c2) Ln2) := hid (Out.below ⟨_, _, _, _, _, _, rfl, hi, hp⟩ (bal (Below.refl _ _) _))
  have HBn2 := hid (bal h (.cells #[.slice a2 n2 c2, .int .i64 next] 28))
  have HXn2 := hid (rowIs2 w4 (.slice a2 n2 c2) (.int .i64 next) 28)
  have HSn2 := hid hs2
  clear HC hi hp h hs2 k0 k1 j0 j1 j2 j3 j4 j5 j6 j7 hcz hrz
  have HCBx := hid (rowIs_below HCB2.out (bcall HBx.out HBn2.out))
  have HRBx := hid (rowIs_below HRB2'.out (bcall HBx.out HBn2.out))
  have HICx := hid (HIC2.out.below (bcall HBx.out HBn2.out))
  have HBx : Hid (Below w2.heap.size w2 (w4.alloc (.cells #[.slice a2 n2 c2, .int .i64 next] 28))) := hid ((bcall HBx.out HBn2.out))
  obtain ⟨k0, k1⟩ := cells2 HCBx.out
  obtain ⟨j0, j1, j2, j3, j4, j5, j6, j7⟩ := rowCell8 HRBx.out
  have hcz := HCBx.out.lt
  have hrz := HRBx.out.lt
  have HC := hid (set_out HICx.out c' next id r)
  rw [HPL.out] at HC
  go_wp2_with fail
  refine HC.out.mono ?_
  rintro e w5 ⟨⟨v, ec3, Ln3, rfl, ho, hs3⟩, h⟩
  obtain ⟨a3, n3, c3, Tn3, In3, Rn3, rfl, hi, hp⟩ := ho
  have HOn3 : Hid (Out (w5.alloc (.cells #[.slice a3 n3 c3, .int .i64 next] 28)) (.slice a3 n3 c3) Ln3) := hid (Out.below ⟨_, _, _, _, _, _, rfl, hi, hp⟩ (bal (Below.refl _ _) _))
  have HBn3 := hid (bal h (.cells #[.slice a3 n3 c3, .int .i64 next] 28))
  have HXn3 := hid (rowIs2 w5 (.slice a3 n3 c3) (.int .i64 next) 28)
  have HSn3 := hid hs3
  clear HC hi hp h hs3 k0 k1 j0 j1 j2 j3 j4 j5 j6 j7 hcz hrz
  have HCBx := hid (rowIs_below HCB2.out (bcall HBx.out HBn3.out))
  have HRBx := hid (rowIs_below HRB2'.out (bcall HBx.out HBn3.out))
  have HICx := hid (HIC2.out.below (bcall HBx.out HBn3.out))
  have HBx : Hid (Below w2.heap.size w2 (w5.alloc (.cells #[.slice a3 n3 c3, .int .i64 next] 28))) := hid ((bcall HBx.out HBn3.out))
  obtain ⟨k0, k1⟩ := cells2 HCBx.out
  obtain ⟨j0, j1, j2, j3, j4, j5, j6, j7⟩ := rowCell8 HRBx.out
  have hcz := HCBx.out.lt
  have hrz := HRBx.out.lt
  have HC := hid (change_out HICx.out c' next id mask r)
  rw [HPL.out] at HC
  go_wp2_with fail
  refine HC.out.mono ?_
  rintro e w6 ⟨⟨v, ec4, Ln4, rfl, ho, hs4⟩, h⟩
  obtain ⟨a4, n4, c4, Tn4, In4, Rn4, rfl, hi, hp⟩ := ho
  have HOn4 : Hid (Out (w6.alloc (.cells #[.slice a4 n4 c4, .int .i64 next] 28)) (.slice a4 n4 c4) Ln4) := hid (Out.below ⟨_, _, _, _, _, _, rfl, hi, hp⟩ (bal (Below.refl _ _) _))
  have HBn4 := hid (bal h (.cells #[.slice a4 n4 c4, .int .i64 next] 28))
  have HXn4 := hid (rowIs2 w6 (.slice a4 n4 c4) (.int .i64 next) 28)
  have HSn4 := hid hs4
  clear HC hi hp h hs4 k0 k1 j0 j1 j2 j3 j4 j5 j6 j7 hcz hrz
  have HCBx := hid (rowIs_below HCB2.out (bcall HBx.out HBn4.out))
  have HRBx := hid (rowIs_below HRB2'.out (bcall HBx.out HBn4.out))
  have HICx := hid (HIC2.out.below (bcall HBx.out HBn4.out))
  have HBx : Hid (Below w2.heap.size w2 (w6.alloc (.cells #[.slice a4 n4 c4, .int .i64 next] 28))) := hid ((bcall HBx.out HBn4.out))
  obtain ⟨k0, k1⟩ := cells2 HCBx.out
  obtain ⟨j0, j1, j2, j3, j4, j5, j6, j7⟩ := rowCell8 HRBx.out
  have hcz := HCBx.out.lt
  have hrz := HRBx.out.lt
  skip
  go_upto_region 7 with fail
  have HX1 := hid (rowIs_below HXn1.out (bcall (bcall HBn2.out HBn3.out) HBn4.out))
  have HX2 := hid (rowIs_below HXn2.out (bcall HBn3.out HBn4.out))
  have HX3 := hid (rowIs_below HXn3.out HBn4.out)
  have HX4 := hid HXn4.out
  have HOA := hid (HOn1.out.below (bcall (bcall HBn2.out HBn3.out) HBn4.out))
  have HOB := hid (HOn2.out.below (bcall HBn3.out HBn4.out))
  have HOD := hid (HOn3.out.below HBn4.out)
  have HOX := hid HOn4.out
  have HSX := hid (rowIs_below HSB2'.out HBx.out)
  have HIS := hid (HIS2.out.below HBx.out)
  have HOC : Hid (Out (w6.alloc (.cells #[.slice a4 n4 c4, .int .i64 next] 28)) (.slice a' n c') (plainOf T I R n)) := hid ⟨_, _, _, _, _, _, rfl, HICx.out, HPL.out⟩
  have HWW := hid (bcall HW2.out HBx.out)
  have HLW : Hid ((GoodL next (plainOf T I R n) ∧ ok = true ∧ ∃ bm, lv = .map (some bm) ∧ Mp (w6.alloc (.cells #[.slice a4 n4 c4, .int .i64 next] 28)) bm (thM (plainOf T I R n))) ∨ (¬ GoodL next (plainOf T I R n) ∧ ok = false)) := hid (by
    rcases HLV.out with ⟨h1, h2, bm, h3, h4⟩ | h
    · exact Or.inl ⟨h1, h2, bm, h3, h4.below HBx.out⟩
    · exact Or.inr h)
  clear k0 k1 j0 j1 j2 j3 j4 j5 j6 j7 hcz hrz
  clear HBn1 HBn2 HBn3 HOn1 HOn2 HOn3 HXn1 HXn2 HXn3 HLV HSB2' HRB2' HCB2 HIS2 HIC2 HW2
  clear HBn4 HXn4 HOn4 HBx HICx HPL HST
  generalize w3.heap.size = ab at HX1 ⊢
  generalize w4.heap.size = bb at HX2 ⊢
  generalize w5.heap.size = db at HX3 ⊢
  generalize w6.heap.size = xb at HX4 ⊢
  generalize w6.alloc (.cells #[.slice a4 n4 c4, .int .i64 next] 28) = W7 at HX1 HX2 HX3 HX4 HOA HOB HOD HOX HSX HIS HOC HWW HLW HCBx HRBx ⊢
  have HCL : Hid (∀ W, Below W7.heap.size W7 W → W.cell? ⟨w.heap.size, 0, none⟩ = some (.slice a n cap) ∧ W.cell? ⟨w.heap.size, 1, none⟩ = some (.int .i64 next) ∧ W.cell? ⟨w.heap.size + 1, 0, none⟩ = some (.int .i64 r.x) ∧ W.cell? ⟨w.heap.size + 1, 1, none⟩ = some (.int .i64 r.y) ∧ W.cell? ⟨w.heap.size + 1, 2, none⟩ = some (.int .i64 r.px) ∧ W.cell? ⟨w.heap.size + 1, 3, none⟩ = some (.int .i64 r.py) ∧ W.cell? ⟨w.heap.size + 1, 4, none⟩ = some (.int .i64 r.wd) ∧ W.cell? ⟨w.heap.size + 1, 5, none⟩ = some (.int .i64 r.ht) ∧ W.cell? ⟨w.heap.size + 1, 6, none⟩ = some (.int .i64 r.ms) ∧ W.cell? ⟨w.heap.size + 1, 7, none⟩ = some (.int .i64 r.rr) ∧ W.cell? ⟨ab, 0, none⟩ = some (.slice a1 n1 c1) ∧ W.cell? ⟨ab, 1, none⟩ = some (.int .i64 nx) ∧ W.cell? ⟨bb, 0, none⟩ = some (.slice a2 n2 c2) ∧ W.cell? ⟨bb, 1, none⟩ = some (.int .i64 next) ∧ W.cell? ⟨db, 0, none⟩ = some (.slice a3 n3 c3) ∧ W.cell? ⟨db, 1, none⟩ = some (.int .i64 next) ∧ W.cell? ⟨xb, 0, none⟩ = some (.slice a4 n4 c4) ∧ W.cell? ⟨xb, 1, none⟩ = some (.int .i64 next) ∧ w.heap.size < W.heap.size ∧ w.heap.size + 1 < W.heap.size ∧ ab < W.heap.size ∧ bb < W.heap.size ∧ db < W.heap.size ∧ xb < W.heap.size) := hid (fun W hb => by
    have e1 := rowIs_below HSX.out hb
    have e2 := rowIs_below HRBx.out hb
    have e3 := rowIs_below HX1.out hb
    have e4 := rowIs_below HX2.out hb
    have e5 := rowIs_below HX3.out hb
    have e6 := rowIs_below HX4.out hb
    obtain ⟨g0, g1, g2, g3, g4, g5, g6, g7⟩ := rowCell8 e2
    exact ⟨(cells2 e1).1, (cells2 e1).2, g0, g1, g2, g3, g4, g5, g6, g7, (cells2 e3).1, (cells2 e3).2, (cells2 e4).1, (cells2 e4).2, (cells2 e5).1, (cells2 e5).2, (cells2 e6).1, (cells2 e6).2, e1.lt, e2.lt, e3.lt, e4.lt, e5.lt, e6.lt⟩)
  have HSM : Hid (∀ (v : Value) (W : World), Below W7.heap.size W7 W → Out W7 v (plainOf T I R n) → Calls Try.prog 30 #[.agg #[v, .int .i64 next], .agg #[.slice a n cap, .int .i64 next]] W fun e w' => e = .returned (.bool true) ∧ Below W.heap.size W w') := hid (fun v W hb ho => same_out (ho.below hb) (HIS.out.below hb))
  have HIR : Hid (∀ (m : Int) (W : World), Calls Try.prog 27 #[.int .i64 m, .agg #[.int .i64 r.x, .int .i64 r.y, .int .i64 r.px, .int .i64 r.py, .int .i64 r.wd, .int .i64 r.ht, .int .i64 r.ms, .int .i64 r.rr]] W fun e w' => e = .returned (.bool (goodRowB m r)) ∧ Below W.heap.size W w') := hid (fun m W => by rw [← isRow_good]; exact isRow_any m r W)
  obtain ⟨k0, k1⟩ := cells2 HCBx.out
  have kz := HCBx.out.lt
  have HBZ : Hid (Below W7.heap.size W7 W7) := hid (Below.refl _ _)
  obtain ⟨s0, s1, r0, r1, r2, r3, r4, r5, r6, r7, a0, a1, b0, b1, d0, d1, x0, x1, zs, zr, za, zb, zd, zx⟩ := HCL.out _ HBZ.out
  clear HX1 HX2 HX3 HX4 HSX HRBx
  go_upto_region 9 with (first | (go_at_call 30; refine (HSM.out _ _ HBZ.out (by first | exact HOC.out | exact HOA.out | exact HOB.out | exact HOD.out | exact HOX.out)).mono ?_; rintro e wz ⟨rfl, h⟩; have HBZ := hid (bcall HBZ.out h); clear h; clear s0 s1 r0 r1 r2 r3 r4 r5 r6 r7 a0 a1 b0 b1 d0 d1 x0 x1 zs zr za zb zd zx; obtain ⟨s0, s1, r0, r1, r2, r3, r4, r5, r6, r7, a0, a1, b0, b1, d0, d1, x0, x1, zs, zr, za, zb, zd, zx⟩ := HCL.out _ HBZ.out) | (go_at_call 31; refine (thingsL_any _).mono ?_; rintro e wz ⟨rfl, h⟩; have HBZ := hid (bcall HBZ.out h); clear h; clear s0 s1 r0 r1 r2 r3 r4 r5 r6 r7 a0 a1 b0 b1 d0 d1 x0 x1 zs zr za zb zd zx; obtain ⟨s0, s1, r0, r1, r2, r3, r4, r5, r6, r7, a0, a1, b0, b1, d0, d1, x0, x1, zs, zr, za, zb, zd, zx⟩ := HCL.out _ HBZ.out))
  clear k0 k1 kz HCBx
  rcases HLW.out with ⟨hgl, rfl, bm, rfl, hmp⟩ | ⟨hng, rfl⟩
  rotate_left
  · have HN1 := HSn1.out
    have HN2 := HSn2.out
    have HN3 := HSn3.out
    have HN4 := HSn4.out
    clear HSn1 HSn2 HSn3 HSn4
    rcases HN1 with ⟨rfl, rfl, rfl, ⟨rfl, -⟩ | ⟨-, hg, -⟩ | ⟨-, hg, -⟩⟩ | ⟨-, -, -, hg, -⟩
    rotate_left
    · exact absurd hg hng
    · exact absurd hg hng
    · exact absurd hg hng
    rcases HN2 with ⟨rfl, -, rfl⟩ | ⟨-, hg, -⟩ | ⟨-, hg, -⟩
    rotate_left
    · exact absurd hg hng
    · exact absurd hg hng
    rcases HN3 with ⟨rfl, -, rfl⟩ | ⟨-, hg, -⟩ | ⟨-, hg, -⟩ | ⟨-, hg, -⟩
    rotate_left
    · exact absurd hg hng
    · exact absurd hg hng
    · exact absurd hg hng
    rcases HN4 with ⟨rfl, -, rfl⟩ | ⟨-, hg, -⟩ | ⟨-, hg, -⟩ | ⟨-, hg, -⟩
    rotate_left
    · exact absurd hg hng
    · exact absurd hg hng
    · exact absurd hg hng
    go_wp2_with (first | (go_at_call 30; refine (HSM.out _ _ HBZ.out (by first | exact HOC.out | exact HOA.out | exact HOB.out | exact HOD.out | exact HOX.out)).mono ?_; rintro e wz ⟨rfl, h⟩; have HBZ := hid (bcall HBZ.out h); clear h; clear s0 s1 r0 r1 r2 r3 r4 r5 r6 r7 a0 a1 b0 b1 d0 d1 x0 x1 zs zr za zb zd zx; obtain ⟨s0, s1, r0, r1, r2, r3, r4, r5, r6, r7, a0, a1, b0, b1, d0, d1, x0, x1, zs, zr, za, zb, zd, zx⟩ := HCL.out _ HBZ.out))
    go_ret
    exact ⟨rfl, bcall HWW.out HBZ.out⟩
  have HGL := hid hgl
  have HMP := hid hmp
  have HCO : Hid (∀ W, Below W7.heap.size W7 W → Calls Try.prog 41 #[.map (some bm)] W fun e w' => (∃ c, e = .returned (.map (some c)) ∧ W.heap.size ≤ c ∧ Mp w' c (thM (plainOf T I R n))) ∧ Below W.heap.size W w') := hid (fun W hb => copy_any bm _ W (HMP.out.below hb) (by rw [thM_len HGL.out.even HGL.out.2.2.2.2.2]; exact Nat.le_trans HGL.out.2.1 (by decide)))
  have HLEN : Hid ((thM (plainOf T I R n)).length = (allL (plainOf T I R n)).length) := hid (thM_len HGL.out.even HGL.out.2.2.2.2.2)
  have hnx0 : 0 ≤ next ∧ next ≤ 1048576 := by have := HGL.out.1; simp [btw] at this; exact this
  obtain ⟨hn0, hn1⟩ := hnx0
  have hall : (allL (plainOf T I R n)).length ≤ 10 := HGL.out.2.1
  clear hgl hmp HLW
  have HN1 := HSn1.out
  clear HSn1
  rcases HN1 with ⟨e1, rfl, rfl, ⟨-, hg⟩ | ⟨rfl, -, hr⟩ | ⟨rfl, -, hr, hfull⟩⟩ | ⟨rfl, e1, e2, -, hr, hl10, hx, rfl⟩
  · exact absurd HGL.out hg
  · rw [HCASE'.out.1] at hr; cases hr
  · have h1 := HCASE'.out.2.1
    have h2 := HCASE'.out.2.2
    omega
  have e2' := e2.symm
  subst e2'
  subst e1
  have hge' : ¬ ((allL (plainOf T I R n)).length : Int) ≥ 10 := by omega
  have hnx : ¬ next ≥ 1048576 := by omega
  have hw1 : wrap64 (next + 1) = next + 1 := by unfold wrap64; omega
  have hnwf : (Lit.int .i64 next).wf = true := Go.WalkArith.wf_i64 ⟨by omega, by omega⟩
  have HM1LEN : Hid ((thM (plainOf T I R n)).length ≤ 10) := hid (by rw [HLEN.out]; exact hall)
  go_upto_region 12 with (first | (go_at_call 41; refine (HCO.out _ HBZ.out).mono ?_; rintro e wz ⟨⟨wb, rfl, hwb, hm⟩, h⟩; have HM1 := hid hm; have HWB := hid (Nat.le_trans HBZ.out.size hwb); clear hm hwb; have HBZ := hid (bcall HBZ.out h); clear h; clear s0 s1 r0 r1 r2 r3 r4 r5 r6 r7 a0 a1 b0 b1 d0 d1 x0 x1 zs zr za zb zd zx; obtain ⟨s0, s1, r0, r1, r2, r3, r4, r5, r6, r7, a0, a1, b0, b1, d0, d1, x0, x1, zs, zr, za, zb, zd, zx⟩ := HCL.out _ HBZ.out) | (go_at_call 27; refine (HIR.out _ _).mono ?_; rintro e wz ⟨rfl, h⟩; have HM1 := hid (HM1.out.below h); have HBZ := hid (bcall HBZ.out h); clear h; clear s0 s1 r0 r1 r2 r3 r4 r5 r6 r7 a0 a1 b0 b1 d0 d1 x0 x1 zs zr za zb zd zx; obtain ⟨s0, s1, r0, r1, r2, r3, r4, r5, r6, r7, a0, a1, b0, b1, d0, d1, x0, x1, zs, zr, za, zb, zd, zx⟩ := HCL.out _ HBZ.out; have hln := (HMP.out.below HBZ.out).len; rw [HLEN.out] at hln))
  obtain ⟨wu, hru, hmu, htu⟩ := HM1.out.store hnwf ⟨mask, r⟩ (by have := HM1LEN.out; unfold maxLen; omega)
  simp only [thV] at hru
  have HBU := hid (Mp.below_turn HBZ.out htu HWB.out)
  have HM1 := hid hmu
  clear hmu htu
  have HBZo := HBZ
  have HBZ := HBU
  obtain ⟨s0u, s1u, r0u, r1u, r2u, r3u, r4u, r5u, r6u, r7u, a0u, a1u, b0u, b1u, d0u, d1u, x0u, x1u, zsu, zru, zau, zbu, zdu, zxu⟩ := HCL.out _ HBZ.out
  go_upto_region 13 with fail
  clear s0 s1 r0 r1 r2 r3 r4 r5 r6 r7 a0 a1 b0 b1 d0 d1 x0 x1 zs zr za zb zd zx hru
  obtain ⟨s0, s1, r0, r1, r2, r3, r4, r5, r6, r7, a0, a1, b0, b1, d0, d1, x0, x1, zs, zr, za, zb, zd, zx⟩ := HCL.out _ HBZ.out
  clear s0u s1u r0u r1u r2u r3u r4u r5u r6u r7u a0u a1u b0u b1u d0u d1u x0u x1u zsu zru zau zbu zdu zxu
  go_upto_region 22 with (first | (go_at_call 42; refine (stored_out (HOA.out.below HBZ.out) (good_spawned HGL.out hr hl10 hx)).mono ?_; rintro e wz ⟨⟨sb, rfl, hsb, hms⟩, h⟩; have HM1 := hid (HM1.out.below h); have HMS := hid hms; clear hms hsb; have HBZ := hid (bcall HBZ.out h); clear h; clear s0 s1 r0 r1 r2 r3 r4 r5 r6 r7 a0 a1 b0 b1 d0 d1 x0 x1 zs zr za zb zd zx; obtain ⟨s0, s1, r0, r1, r2, r3, r4, r5, r6, r7, a0, a1, b0, b1, d0, d1, x0, x1, zs, zr, za, zb, zd, zx⟩ := HCL.out _ HBZ.out) | (go_at_call 43; refine (sameThings_any sb wb _ _ _ HMS.out HM1.out).mono ?_; rintro e wz ⟨⟨g, rfl, hg⟩, h⟩; have HM1 := hid (HM1.out.below h); obtain rfl : g = true := hg.2 (thM_spawned HGL.out hr hl10 hx); clear hg; have HBZ := hid (bcall HBZ.out h); clear h; clear s0 s1 r0 r1 r2 r3 r4 r5 r6 r7 a0 a1 b0 b1 d0 d1 x0 x1 zs zr za zb zd zx; obtain ⟨s0, s1, r0, r1, r2, r3, r4, r5, r6, r7, a0, a1, b0, b1, d0, d1, x0, x1, zs, zr, za, zb, zd, zx⟩ := HCL.out _ HBZ.out))
  have HLK := hid ((HMP.out.below HBZ.out).look_ok hidw)
  obtain ⟨og, hog⟩ : ∃ o, getM id (thM (plainOf T I R n)) = o := ⟨_, rfl⟩
  rw [hog] at HLK
  have HOG := hid hog
  clear hog
  have HN2 := HSn2.out
  have HN3 := HSn3.out
  have HN4 := HSn4.out
  clear HSn2 HSn3 HSn4
  cases og with
  | none =>
    have hno : id ∉ allL (plainOf T I R n) := (thM_none HGL.out.even).1 HOG.out
    have hlk := HLK.out
    simp only [Option.getD_none, Option.isSome_none, thV] at hlk
    rcases HN2 with ⟨-, hg, -⟩ | ⟨rfl, -, -, rfl⟩ | ⟨-, -, hv, -⟩
    · exact absurd HGL.out hg
    rotate_left
    · exact absurd hv hno
    rcases HN3 with ⟨-, hg, -⟩ | ⟨rfl, -, -, rfl⟩ | ⟨-, -, ⟨m, q, hv, -⟩, -⟩ | ⟨-, -, ⟨m, q, hv, -⟩, -⟩
    · exact absurd HGL.out hg
    rotate_left
    · exact absurd (at_mem hv) hno
    · exact absurd (at_mem hv) hno
    rcases HN4 with ⟨-, hg, -⟩ | ⟨rfl, -, -, rfl⟩ | ⟨-, -, ⟨m, q, hv, -⟩, -⟩ | ⟨-, -, m, q, hv, -, -⟩
    · exact absurd HGL.out hg
    rotate_left
    · exact absurd (at_mem hv) hno
    · exact absurd (at_mem hv) hno
    have HBY := hid (bal HBZ.out (.cells #[.int .i64 zTh.m, .int .i64 zTh.r.x, .int .i64 zTh.r.y, .int .i64 zTh.r.px, .int .i64 zTh.r.py, .int .i64 zTh.r.wd, .int .i64 zTh.r.ht, .int .i64 zTh.r.ms, .int .i64 zTh.r.rr] 43))
    go_upto_region 23 with fail
    have HBZ := HBY
    clear s0 s1 r0 r1 r2 r3 r4 r5 r6 r7 a0 a1 b0 b1 d0 d1 x0 x1 zs zr za zb zd zx; obtain ⟨s0, s1, r0, r1, r2, r3, r4, r5, r6, r7, a0, a1, b0, b1, d0, d1, x0, x1, zs, zr, za, zb, zd, zx⟩ := HCL.out _ HBZ.out
    go_wp2_with (first | (go_at_call 30; refine (HSM.out _ _ HBZ.out (by first | exact HOC.out | exact HOA.out | exact HOB.out | exact HOD.out | exact HOX.out)).mono ?_; rintro e wz ⟨rfl, h⟩; have HBZ := hid (bcall HBZ.out h); clear h; clear s0 s1 r0 r1 r2 r3 r4 r5 r6 r7 a0 a1 b0 b1 d0 d1 x0 x1 zs zr za zb zd zx; obtain ⟨s0, s1, r0, r1, r2, r3, r4, r5, r6, r7, a0, a1, b0, b1, d0, d1, x0, x1, zs, zr, za, zb, zd, zx⟩ := HCL.out _ HBZ.out))
    go_ret
    exact ⟨rfl, bcall HWW.out HBZ.out⟩
  | some t =>
    have hat : At (plainOf T I R n) id t.m t.r := (thM_get HGL.out.even HGL.out.2.2.2.2.2).1 HOG.out
    have HAT := hid hat
    have hlk := HLK.out
    simp only [Option.getD_some, Option.isSome_some, thV] at hlk
    rcases HN2 with ⟨-, hg, -⟩ | ⟨-, -, hv, -⟩ | ⟨rfl, -, -, rfl⟩
    · exact absurd HGL.out hg
    · exact absurd (at_mem hat) hv
    have HBY := hid (bal HBZ.out (.cells #[.int .i64 t.m, .int .i64 t.r.x, .int .i64 t.r.y, .int .i64 t.r.px, .int .i64 t.r.py, .int .i64 t.r.wd, .int .i64 t.r.ht, .int .i64 t.r.ms, .int .i64 t.r.rr] 43))
    have HTH0 := hid (rowIs9 wz t)
    go_upto_region 23 with fail
    clear hlk
    generalize wz.heap.size = tb at HTH0 ⊢
    generalize wz.alloc (.cells #[.int .i64 t.m, .int .i64 t.r.x, .int .i64 t.r.y, .int .i64 t.r.px, .int .i64 t.r.py, .int .i64 t.r.wd, .int .i64 t.r.ht, .int .i64 t.r.ms, .int .i64 t.r.rr] 43) = W8 at HBY HTH0 ⊢
    have HCL8 : Hid (∀ W, Below W8.heap.size W8 W → Below W7.heap.size W7 W) := hid (fun W hb => bcall HBY.out hb)
    have HBZ := HBY
    clear s0 s1 r0 r1 r2 r3 r4 r5 r6 r7 a0 a1 b0 b1 d0 d1 x0 x1 zs zr za zb zd zx; obtain ⟨s0, s1, r0, r1, r2, r3, r4, r5, r6, r7, a0, a1, b0, b1, d0, d1, x0, x1, zs, zr, za, zb, zd, zx⟩ := HCL.out _ HBZ.out
    have HTC : Hid (∀ W, Below W8.heap.size W8 W → W.cell? ⟨tb, 0, none⟩ = some (.int .i64 t.m) ∧ W.cell? ⟨tb, 1, none⟩ = some (.int .i64 t.r.x) ∧ W.cell? ⟨tb, 2, none⟩ = some (.int .i64 t.r.y) ∧ W.cell? ⟨tb, 3, none⟩ = some (.int .i64 t.r.px) ∧ W.cell? ⟨tb, 4, none⟩ = some (.int .i64 t.r.py) ∧ W.cell? ⟨tb, 5, none⟩ = some (.int .i64 t.r.wd) ∧ W.cell? ⟨tb, 6, none⟩ = some (.int .i64 t.r.ht) ∧ W.cell? ⟨tb, 7, none⟩ = some (.int .i64 t.r.ms) ∧ W.cell? ⟨tb, 8, none⟩ = some (.int .i64 t.r.rr) ∧ tb < W.heap.size) := hid (fun W hb => by
      have e := rowIs_below HTH0.out hb
      exact ⟨e.cell (i := 0) (by omega), e.cell (i := 1) (by omega), e.cell (i := 2) (by omega), e.cell (i := 3) (by omega), e.cell (i := 4) (by omega), e.cell (i := 5) (by omega), e.cell (i := 6) (by omega), e.cell (i := 7) (by omega), e.cell (i := 8) (by omega), e.lt⟩)
    have HB8 : Hid (Below W8.heap.size W8 W8) := hid (Below.refl _ _)
    obtain ⟨t0, t1, t2, t3, t4, t5, t6, t7, t8, zt⟩ := HTC.out _ HB8.out
    have HBZ := HBY
    rcases HN3 with ⟨-, hg, -⟩ | ⟨-, -, hv, -⟩ | ⟨rfl, -, ⟨m, q, hv, hr3⟩, rfl⟩ | ⟨rfl, -, ⟨m, q, hv, hr3⟩, rfl⟩
    · exact absurd HGL.out hg
    · exact absurd (at_mem hat) hv
    · obtain ⟨rfl, rfl⟩ := at_unique HGL.out.2.2.2.2.2 hv hat
      clear hv
      go_upto_region 37 with (first | (go_at_call 41; refine (HCO.out _ HBZ.out).mono ?_; rintro e wz ⟨⟨wb, rfl, hwb, hm⟩, h⟩; have HM1 := hid hm; have HWB := hid (Nat.le_trans HBZ.out.size hwb); have HWB8 := hid (Nat.le_trans HB8.out.size hwb); clear hm hwb; have HBZ := hid (bcall HBZ.out h); have HB8 := hid (bcall HB8.out h); clear h; clear s0 s1 r0 r1 r2 r3 r4 r5 r6 r7 a0 a1 b0 b1 d0 d1 x0 x1 zs zr za zb zd zx; obtain ⟨s0, s1, r0, r1, r2, r3, r4, r5, r6, r7, a0, a1, b0, b1, d0, d1, x0, x1, zs, zr, za, zb, zd, zx⟩ := HCL.out _ HBZ.out; clear t0 t1 t2 t3 t4 t5 t6 t7 t8 zt; obtain ⟨t0, t1, t2, t3, t4, t5, t6, t7, t8, zt⟩ := HTC.out _ HB8.out) | (at_delete; refine wp_drop _ rfl _ _ rfl wb _ rfl HM1.out id rfl hidw ?_; intro wz hm ht; have HM1 := hid hm; have HBZ := hid (Mp.below_turn HBZ.out ht HWB.out); have HB8 := hid (Mp.below_turn HB8.out ht HWB8.out); clear hm ht; clear s0 s1 r0 r1 r2 r3 r4 r5 r6 r7 a0 a1 b0 b1 d0 d1 x0 x1 zs zr za zb zd zx; obtain ⟨s0, s1, r0, r1, r2, r3, r4, r5, r6, r7, a0, a1, b0, b1, d0, d1, x0, x1, zs, zr, za, zb, zd, zx⟩ := HCL.out _ HBZ.out; clear t0 t1 t2 t3 t4 t5 t6 t7 t8 zt; obtain ⟨t0, t1, t2, t3, t4, t5, t6, t7, t8, zt⟩ := HTC.out _ HB8.out) | (go_at_call 42; refine (stored_out (HOB.out.below HBZ.out) ((kill_all HGL.out (at_mem HAT.out)).1)).mono ?_; rintro e wz ⟨⟨sb, rfl, hsb, hms⟩, h⟩; have HM1 := hid (HM1.out.below h); have HMS := hid hms; clear hms hsb; have HBZ := hid (bcall HBZ.out h); have HB8 := hid (bcall HB8.out h); clear h; clear s0 s1 r0 r1 r2 r3 r4 r5 r6 r7 a0 a1 b0 b1 d0 d1 x0 x1 zs zr za zb zd zx; obtain ⟨s0, s1, r0, r1, r2, r3, r4, r5, r6, r7, a0, a1, b0, b1, d0, d1, x0, x1, zs, zr, za, zb, zd, zx⟩ := HCL.out _ HBZ.out; clear t0 t1 t2 t3 t4 t5 t6 t7 t8 zt; obtain ⟨t0, t1, t2, t3, t4, t5, t6, t7, t8, zt⟩ := HTC.out _ HB8.out) | (go_at_call 43; refine (sameThings_any sb wb _ _ _ HMS.out HM1.out).mono ?_; rintro e wz ⟨⟨g, rfl, hg⟩, h⟩; have HM1 := hid (HM1.out.below h); obtain rfl : g = true := hg.2 (thM_killed HGL.out (at_mem HAT.out)); clear hg; have HBZ := hid (bcall HBZ.out h); have HB8 := hid (bcall HB8.out h); clear h; clear s0 s1 r0 r1 r2 r3 r4 r5 r6 r7 a0 a1 b0 b1 d0 d1 x0 x1 zs zr za zb zd zx; obtain ⟨s0, s1, r0, r1, r2, r3, r4, r5, r6, r7, a0, a1, b0, b1, d0, d1, x0, x1, zs, zr, za, zb, zd, zx⟩ := HCL.out _ HBZ.out; clear t0 t1 t2 t3 t4 t5 t6 t7 t8 zt; obtain ⟨t0, t1, t2, t3, t4, t5, t6, t7, t8, zt⟩ := HTC.out _ HB8.out) | (go_at_call 27; refine (HIR.out _ _).mono ?_; rintro e wz ⟨rfl, h⟩; have HM1 := hid (HM1.out.below h); have HBZ := hid (bcall HBZ.out h); have HB8 := hid (bcall HB8.out h); clear h; clear s0 s1 r0 r1 r2 r3 r4 r5 r6 r7 a0 a1 b0 b1 d0 d1 x0 x1 zs zr za zb zd zx; obtain ⟨s0, s1, r0, r1, r2, r3, r4, r5, r6, r7, a0, a1, b0, b1, d0, d1, x0, x1, zs, zr, za, zb, zd, zx⟩ := HCL.out _ HBZ.out; clear t0 t1 t2 t3 t4 t5 t6 t7 t8 zt; obtain ⟨t0, t1, t2, t3, t4, t5, t6, t7, t8, zt⟩ := HTC.out _ HB8.out) | (go_at_call 30; refine (HSM.out _ _ HBZ.out (by first | exact HOC.out | exact HOA.out | exact HOD.out | exact HOX.out)).mono ?_; rintro e wz ⟨rfl, h⟩; have HM1 := hid (HM1.out.below h); have HBZ := hid (bcall HBZ.out h); have HB8 := hid (bcall HB8.out h); clear h; clear s0 s1 r0 r1 r2 r3 r4 r5 r6 r7 a0 a1 b0 b1 d0 d1 x0 x1 zs zr za zb zd zx; obtain ⟨s0, s1, r0, r1, r2, r3, r4, r5, r6, r7, a0, a1, b0, b1, d0, d1, x0, x1, zs, zr, za, zb, zd, zx⟩ := HCL.out _ HBZ.out; clear t0 t1 t2 t3 t4 t5 t6 t7 t8 zt; obtain ⟨t0, t1, t2, t3, t4, t5, t6, t7, t8, zt⟩ := HTC.out _ HB8.out))
      have HM2 : Hid (Up (delM id (thM (plainOf T I R n))) ∧ (∀ u, u ≠ id → getM u (delM id (thM (plainOf T I R n))) = getM u (thM (plainOf T I R n))) ∧ (delM id (thM (plainOf T I R n))).length ≤ 10) := hid ⟨(thM_up _).del id, fun u hu => (by rw [getM_del (thM_up _), if_neg hu]), by have h1 := delM_len id (thM_up (plainOf T I R n)); rw [HLEN.out] at h1; omega⟩
      generalize delM id (thM (plainOf T I R n)) = M2 at HM1 HM2
      have hmr : ∀ q', goodRowB mask q' = true → 1 ≤ mask ∧ mask ≤ 31 := fun q' h => by simp [goodRowB, btw] at h; omega
      by_cases hm0 : mask < 0
      · rcases HN4 with ⟨-, hg, -⟩ | ⟨-, -, hv, -⟩ | ⟨rfl, -, -, rfl⟩ | ⟨-, -, m, q, hv, hr4, -⟩
        · exact absurd HGL.out hg
        · exact absurd (at_mem HAT.out) hv
        rotate_left
        · have := hmr _ hr4; omega
        go_wp2_with (first | (go_at_call 30; refine (HSM.out _ _ HBZ.out (by first | exact HOC.out | exact HOA.out | exact HOD.out | exact HOX.out)).mono ?_; rintro e wz ⟨rfl, h⟩; have HM1 := hid (HM1.out.below h); have HBZ := hid (bcall HBZ.out h); have HB8 := hid (bcall HB8.out h); clear h; clear s0 s1 r0 r1 r2 r3 r4 r5 r6 r7 a0 a1 b0 b1 d0 d1 x0 x1 zs zr za zb zd zx; obtain ⟨s0, s1, r0, r1, r2, r3, r4, r5, r6, r7, a0, a1, b0, b1, d0, d1, x0, x1, zs, zr, za, zb, zd, zx⟩ := HCL.out _ HBZ.out; clear t0 t1 t2 t3 t4 t5 t6 t7 t8 zt; obtain ⟨t0, t1, t2, t3, t4, t5, t6, t7, t8, zt⟩ := HTC.out _ HB8.out))
        go_ret
        exact ⟨rfl, bcall HWW.out HBZ.out⟩
      by_cases hm1 : mask > 31
      · rcases HN4 with ⟨-, hg, -⟩ | ⟨-, -, hv, -⟩ | ⟨rfl, -, -, rfl⟩ | ⟨-, -, m, q, hv, hr4, -⟩
        · exact absurd HGL.out hg
        · exact absurd (at_mem HAT.out) hv
        rotate_left
        · have := hmr _ hr4; omega
        go_wp2_with (first | (go_at_call 30; refine (HSM.out _ _ HBZ.out (by first | exact HOC.out | exact HOA.out | exact HOD.out | exact HOX.out)).mono ?_; rintro e wz ⟨rfl, h⟩; have HM1 := hid (HM1.out.below h); have HBZ := hid (bcall HBZ.out h); have HB8 := hid (bcall HB8.out h); clear h; clear s0 s1 r0 r1 r2 r3 r4 r5 r6 r7 a0 a1 b0 b1 d0 d1 x0 x1 zs zr za zb zd zx; obtain ⟨s0, s1, r0, r1, r2, r3, r4, r5, r6, r7, a0, a1, b0, b1, d0, d1, x0, x1, zs, zr, za, zb, zd, zx⟩ := HCL.out _ HBZ.out; clear t0 t1 t2 t3 t4 t5 t6 t7 t8 zt; obtain ⟨t0, t1, t2, t3, t4, t5, t6, t7, t8, zt⟩ := HTC.out _ HB8.out))
        go_ret
        exact ⟨rfl, bcall HWW.out HBZ.out⟩
      have hmk : 0 ≤ mask ∧ mask ≤ 31 := ⟨by omega, by omega⟩
      have hgq : goodRowB t.m t.r = true := by
        obtain ⟨tt, htt, hm', j, hj1, hj2⟩ := HAT.out
        have h1 := (HGL.out.2.2.2.2.1 tt htt).2.2.2 t.r (List.mem_of_getElem? hj2)
        rw [hm'] at h1
        exact h1
      have htm : 0 ≤ t.m ∧ t.m ≤ 31 := by simp [goodRowB, btw] at hgq; omega
      have HCH := hid (ch_sum hmk htm (good_in64 hgq) HR64.out)
      obtain ⟨b1, b2, b3, b4, -⟩ := bits_all mask (mem_masks hmk) t.m (mem_masks htm)
      have HKO : Hid (∀ W, Calls Try.prog 29 #[.int .i64 (bits .and .i64 mask t.m), .agg #[.int .i64 t.r.x, .int .i64 t.r.y, .int .i64 t.r.px, .int .i64 t.r.py, .int .i64 t.r.wd, .int .i64 t.r.ht, .int .i64 t.r.ms, .int .i64 t.r.rr]] W fun e w' => e = .returned (rowV (onlyH (bits .and .i64 mask t.m) t.r)) ∧ Below W.heap.size W w') := hid (fun W => onlyOf_any _ ⟨by omega, by omega⟩ t.r.x t.r.y t.r.px t.r.py t.r.wd t.r.ht t.r.ms t.r.rr W)
      have HKM : Hid (∀ W, Calls Try.prog 29 #[.int .i64 (bits .andNot .i64 mask t.m), .agg #[.int .i64 r.x, .int .i64 r.y, .int .i64 r.px, .int .i64 r.py, .int .i64 r.wd, .int .i64 r.ht, .int .i64 r.ms, .int .i64 r.rr]] W fun e w' => e = .returned (rowV (onlyH (bits .andNot .i64 mask t.m) r)) ∧ Below W.heap.size W w') := hid (fun W => onlyOf_any _ ⟨by omega, by omega⟩ r.x r.y r.px r.py r.wd r.ht r.ms r.rr W)
      generalize onlyH (bits .and .i64 mask t.m) t.r = qo at HKO HCH
      generalize onlyH (bits .andNot .i64 mask t.m) r = qm at HKM HCH
      unfold rowV at HKO HKM
      clear b1 b2 b3 b4 hgq htm hmk
      have HSK : Hid (∀ W, Below wz.heap.size wz W → W.cell? ⟨tb, 0, none⟩ = some (.int .i64 t.m) ∧ W.cell? ⟨tb, 1, none⟩ = some (.int .i64 t.r.x) ∧ W.cell? ⟨tb, 2, none⟩ = some (.int .i64 t.r.y) ∧ W.cell? ⟨tb, 3, none⟩ = some (.int .i64 t.r.px) ∧ W.cell? ⟨tb, 4, none⟩ = some (.int .i64 t.r.py) ∧ W.cell? ⟨tb, 5, none⟩ = some (.int .i64 t.r.wd) ∧ W.cell? ⟨tb, 6, none⟩ = some (.int .i64 t.r.ht) ∧ W.cell? ⟨tb, 7, none⟩ = some (.int .i64 t.r.ms) ∧ W.cell? ⟨tb, 8, none⟩ = some (.int .i64 t.r.rr) ∧ W.cell? ⟨w.heap.size + 1, 0, none⟩ = some (.int .i64 r.x) ∧ W.cell? ⟨w.heap.size + 1, 1, none⟩ = some (.int .i64 r.y) ∧ W.cell? ⟨w.heap.size + 1, 2, none⟩ = some (.int .i64 r.px) ∧ W.cell? ⟨w.heap.size + 1, 3, none⟩ = some (.int .i64 r.py) ∧ W.cell? ⟨w.heap.size + 1, 4, none⟩ = some (.int .i64 r.wd) ∧ W.cell? ⟨w.heap.size + 1, 5, none⟩ = some (.int .i64 r.ht) ∧ W.cell? ⟨w.heap.size + 1, 6, none⟩ = some (.int .i64 r.ms) ∧ W.cell? ⟨w.heap.size + 1, 7, none⟩ = some (.int .i64 r.rr)) := hid (fun W hb => by
        obtain ⟨s0u, s1u, r0u, r1u, r2u, r3u, r4u, r5u, r6u, r7u, a0u, a1u, b0u, b1u, d0u, d1u, x0u, x1u, zsu, zru, zau, zbu, zdu, zxu⟩ := HCL.out _ (bcall HBZ.out hb)
        obtain ⟨tu0, tu1, tu2, tu3, tu4, tu5, tu6, tu7, tu8, zu⟩ := HTC.out _ (bcall HB8.out hb)
        exact ⟨tu0, tu1, tu2, tu3, tu4, tu5, tu6, tu7, tu8, r0u, r1u, r2u, r3u, r4u, r5u, r6u, r7u⟩)
      go_upto_region 39 with fail
      refine Rh.wp_act ?_
      intro A hA
      refine reg39_wp _ _ A mask t r qo qm tb (w.heap.size + 1) wz (by rw [hA]; rfl) (by rw [hA]; rfl) (by rw [hA]; rfl) (by rw [hA]; exact Nat.le_of_ble_eq_true rfl) HKO.out HKM.out HSK.out ?_
      intro f ob mb W hf1 hf2 h1 h2 hb
      subst hA
      have HBZ := hid (bcall HBZ.out hb)
      have HB8 := hid (bcall HB8.out hb)
      have HM1 := hid (HM1.out.below hb)
      clear s0 s1 r0 r1 r2 r3 r4 r5 r6 r7 a0 a1 b0 b1 d0 d1 x0 x1 zs zr za zb zd zx
      obtain ⟨s0, s1, r0, r1, r2, r3, r4, r5, r6, r7, a0, a1, b0, b1, d0, d1, x0, x1, zs, zr, za, zb, zd, zx⟩ := HCL.out _ HBZ.out
      clear t0 t1 t2 t3 t4 t5 t6 t7 t8 zt
      obtain ⟨t0, t1, t2, t3, t4, t5, t6, t7, t8, zt⟩ := HTC.out _ HB8.out
      obtain ⟨o0, o1, o2, o3, o4, o5, o6, o7⟩ := rowCell8 h1
      obtain ⟨g0, g1, g2, g3, g4, g5, g6, g7⟩ := rowCell8 h2
      have zo := h1.lt
      have zm := h2.lt
      clear hb h1 h2
      simp only [Rh.puts, Act.put, hf1, hf2]
      go_simp
      go_upto_region 41 with fail
      clear o0 o1 o2 o3 o4 o5 o6 o7 g0 g1 g2 g3 g4 g5 g6 g7 zo zm
      obtain ⟨rn, hrn⟩ : ∃ q, q = chR mask t.m t.r r := ⟨_, rfl⟩
      have HCR := hid hrn
      have hc := hrn.trans HCH.out
      have ex0 : wrap64 (qo.x + qm.x) = rn.x := by rw [hc]
      have ex1 : wrap64 (qo.y + qm.y) = rn.y := by rw [hc]
      have ex2 : wrap64 (qo.px + qm.px) = rn.px := by rw [hc]
      have ex3 : wrap64 (qo.py + qm.py) = rn.py := by rw [hc]
      have ex4 : wrap64 (qo.wd + qm.wd) = rn.wd := by rw [hc]
      have ex5 : wrap64 (qo.ht + qm.ht) = rn.ht := by rw [hc]
      have ex6 : wrap64 (qo.ms + qm.ms) = rn.ms := by rw [hc]
      have ex7 : wrap64 (qo.rr + qm.rr) = rn.rr := by rw [hc]
      simp only [ex0, ex1, ex2, ex3, ex4, ex5, ex6, ex7]
      clear hrn hc ex0 ex1 ex2 ex3 ex4 ex5 ex6 ex7
      have HR0 := hid (rowIs8 W rn 30)
      have hal := bal (Below.refl _ W) (.cells #[.int .i64 rn.x, .int .i64 rn.y, .int .i64 rn.px, .int .i64 rn.py, .int .i64 rn.wd, .int .i64 rn.ht, .int .i64 rn.ms, .int .i64 rn.rr] 30)
      have HBZ := hid (bcall HBZ.out hal)
      have HB8 := hid (bcall HB8.out hal)
      have HM1 := hid (HM1.out.below hal)
      clear hal
      generalize W.heap.size = nb at HR0 ⊢
      generalize W.alloc (.cells #[.int .i64 rn.x, .int .i64 rn.y, .int .i64 rn.px, .int .i64 rn.py, .int .i64 rn.wd, .int .i64 rn.ht, .int .i64 rn.ms, .int .i64 rn.rr] 30) = W9 at HR0 HBZ HB8 HM1 ⊢
      have HRN : Hid (∀ W', Below W9.heap.size W9 W' → W'.cell? ⟨nb, 0, none⟩ = some (.int .i64 rn.x) ∧ W'.cell? ⟨nb, 1, none⟩ = some (.int .i64 rn.y) ∧ W'.cell? ⟨nb, 2, none⟩ = some (.int .i64 rn.px) ∧ W'.cell? ⟨nb, 3, none⟩ = some (.int .i64 rn.py) ∧ W'.cell? ⟨nb, 4, none⟩ = some (.int .i64 rn.wd) ∧ W'.cell? ⟨nb, 5, none⟩ = some (.int .i64 rn.ht) ∧ W'.cell? ⟨nb, 6, none⟩ = some (.int .i64 rn.ms) ∧ W'.cell? ⟨nb, 7, none⟩ = some (.int .i64 rn.rr) ∧ nb < W'.heap.size) := hid (fun W' hb => by
        have e := rowIs_below HR0.out hb
        exact ⟨e.cell (i := 0) (by omega), e.cell (i := 1) (by omega), e.cell (i := 2) (by omega), e.cell (i := 3) (by omega), e.cell (i := 4) (by omega), e.cell (i := 5) (by omega), e.cell (i := 6) (by omega), e.cell (i := 7) (by omega), e.lt⟩)
      have HB9 : Hid (Below W9.heap.size W9 W9) := hid (Below.refl _ _)
      clear s0 s1 r0 r1 r2 r3 r4 r5 r6 r7 a0 a1 b0 b1 d0 d1 x0 x1 zs zr za zb zd zx
      obtain ⟨s0, s1, r0, r1, r2, r3, r4, r5, r6, r7, a0, a1, b0, b1, d0, d1, x0, x1, zs, zr, za, zb, zd, zx⟩ := HCL.out _ HBZ.out
      clear t0 t1 t2 t3 t4 t5 t6 t7 t8 zt
      obtain ⟨t0, t1, t2, t3, t4, t5, t6, t7, t8, zt⟩ := HTC.out _ HB8.out
      obtain ⟨n0', n1', n2', n3', n4', n5', n6', n7', zn⟩ := HRN.out _ HB9.out
      have HIRN : Hid (∀ W', Calls Try.prog 27 #[.int .i64 mask, .agg #[.int .i64 rn.x, .int .i64 rn.y, .int .i64 rn.px, .int .i64 rn.py, .int .i64 rn.wd, .int .i64 rn.ht, .int .i64 rn.ms, .int .i64 rn.rr]] W' fun e w' => e = .returned (.bool (goodRowB mask rn)) ∧ Below W'.heap.size W' w') := hid (fun W' => by rw [← isRow_good]; exact isRow_any mask rn W')
      rcases HN4 with ⟨-, hg, -⟩ | ⟨-, -, hv, -⟩ | ⟨rfl, -, ⟨m, q, hv, hr4⟩, rfl⟩ | ⟨rfl, -, m, q, hv, hr4, rfl⟩
      · exact absurd HGL.out hg
      · exact absurd (at_mem HAT.out) hv
      · obtain ⟨rfl, rfl⟩ := at_unique HGL.out.2.2.2.2.2 hv HAT.out
        rw [← HCR.out] at hr4
        rw [hr4] at HIRN
        clear hv
        go_wp2_with (first | (go_at_call 27; refine (HIRN.out _).mono ?_; rintro e wz ⟨rfl, h⟩; have HM1 := hid (HM1.out.below h); have HBZ := hid (bcall HBZ.out h); have HB8 := hid (bcall HB8.out h); have HB9 := hid (bcall HB9.out h); clear h; clear s0 s1 r0 r1 r2 r3 r4 r5 r6 r7 a0 a1 b0 b1 d0 d1 x0 x1 zs zr za zb zd zx; obtain ⟨s0, s1, r0, r1, r2, r3, r4, r5, r6, r7, a0, a1, b0, b1, d0, d1, x0, x1, zs, zr, za, zb, zd, zx⟩ := HCL.out _ HBZ.out; clear t0 t1 t2 t3 t4 t5 t6 t7 t8 zt; obtain ⟨t0, t1, t2, t3, t4, t5, t6, t7, t8, zt⟩ := HTC.out _ HB8.out; clear n0' n1' n2' n3' n4' n5' n6' n7' zn; obtain ⟨n0', n1', n2', n3', n4', n5', n6', n7', zn⟩ := HRN.out _ HB9.out) | (go_at_call 30; refine (HSM.out _ _ HBZ.out (by first | exact HOC.out | exact HOA.out | exact HOD.out | exact HOX.out)).mono ?_; rintro e wz ⟨rfl, h⟩; have HM1 := hid (HM1.out.below h); have HBZ := hid (bcall HBZ.out h); have HB8 := hid (bcall HB8.out h); have HB9 := hid (bcall HB9.out h); clear h; clear s0 s1 r0 r1 r2 r3 r4 r5 r6 r7 a0 a1 b0 b1 d0 d1 x0 x1 zs zr za zb zd zx; obtain ⟨s0, s1, r0, r1, r2, r3, r4, r5, r6, r7, a0, a1, b0, b1, d0, d1, x0, x1, zs, zr, za, zb, zd, zx⟩ := HCL.out _ HBZ.out; clear t0 t1 t2 t3 t4 t5 t6 t7 t8 zt; obtain ⟨t0, t1, t2, t3, t4, t5, t6, t7, t8, zt⟩ := HTC.out _ HB8.out; clear n0' n1' n2' n3' n4' n5' n6' n7' zn; obtain ⟨n0', n1', n2', n3', n4', n5', n6', n7', zn⟩ := HRN.out _ HB9.out))
        go_ret
        exact ⟨rfl, bcall HWW.out HBZ.out⟩
      · obtain ⟨rfl, rfl⟩ := at_unique HGL.out.2.2.2.2.2 hv HAT.out
        rw [← HCR.out] at hr4 HOX
        rw [hr4] at HIRN
        have HR4 := hid hr4
        clear hv hr4
        go_upto_region 43 with (first | (go_at_call 27; refine (HIRN.out _).mono ?_; rintro e wz ⟨rfl, h⟩; have HM1 := hid (HM1.out.below h); have HBZ := hid (bcall HBZ.out h); have HB8 := hid (bcall HB8.out h); have HB9 := hid (bcall HB9.out h); clear h; clear s0 s1 r0 r1 r2 r3 r4 r5 r6 r7 a0 a1 b0 b1 d0 d1 x0 x1 zs zr za zb zd zx; obtain ⟨s0, s1, r0, r1, r2, r3, r4, r5, r6, r7, a0, a1, b0, b1, d0, d1, x0, x1, zs, zr, za, zb, zd, zx⟩ := HCL.out _ HBZ.out; clear t0 t1 t2 t3 t4 t5 t6 t7 t8 zt; obtain ⟨t0, t1, t2, t3, t4, t5, t6, t7, t8, zt⟩ := HTC.out _ HB8.out; clear n0' n1' n2' n3' n4' n5' n6' n7' zn; obtain ⟨n0', n1', n2', n3', n4', n5', n6', n7', zn⟩ := HRN.out _ HB9.out))
        have HM1LEN := hid HM2.out.2.2
        obtain ⟨wu, hru, hmu, htu⟩ := HM1.out.store hidw ⟨mask, rn⟩ (by have := HM1LEN.out; unfold maxLen; omega)
        simp only [thV] at hru
        have HBZ := hid (Mp.below_turn HBZ.out htu HWB.out)
        have HB8 := hid (Mp.below_turn HB8.out htu HWB8.out)
        have HM1 := hid hmu
        clear hmu htu
        obtain ⟨s0u, s1u, r0u, r1u, r2u, r3u, r4u, r5u, r6u, r7u, a0u, a1u, b0u, b1u, d0u, d1u, x0u, x1u, zsu, zru, zau, zbu, zdu, zxu⟩ := HCL.out _ HBZ.out
        obtain ⟨tu0, tu1, tu2, tu3, tu4, tu5, tu6, tu7, tu8, zu⟩ := HTC.out _ HB8.out
        go_upto_region 44 with fail
        clear s0 s1 r0 r1 r2 r3 r4 r5 r6 r7 a0 a1 b0 b1 d0 d1 x0 x1 zs zr za zb zd zx t0 t1 t2 t3 t4 t5 t6 t7 t8 zt n0' n1' n2' n3' n4' n5' n6' n7' zn hru
        obtain ⟨s0, s1, r0, r1, r2, r3, r4, r5, r6, r7, a0, a1, b0, b1, d0, d1, x0, x1, zs, zr, za, zb, zd, zx⟩ := HCL.out _ HBZ.out
        obtain ⟨t0, t1, t2, t3, t4, t5, t6, t7, t8, zt⟩ := HTC.out _ HB8.out
        clear s0u s1u r0u r1u r2u r3u r4u r5u r6u r7u a0u a1u b0u b1u d0u d1u x0u x1u zsu zru zau zbu zdu zxu tu0 tu1 tu2 tu3 tu4 tu5 tu6 tu7 tu8 zu
        go_wp2_with (first | (go_at_call 42; refine (stored_out (HOX.out.below HBZ.out) (good_changed HGL.out HAT.out HR4.out)).mono ?_; rintro e wz ⟨⟨sb, rfl, hsb, hms⟩, h⟩; have HM1 := hid (HM1.out.below h); have HMS := hid hms; clear hms hsb; have HBZ := hid (bcall HBZ.out h); have HB8 := hid (bcall HB8.out h); clear h; clear s0 s1 r0 r1 r2 r3 r4 r5 r6 r7 a0 a1 b0 b1 d0 d1 x0 x1 zs zr za zb zd zx; obtain ⟨s0, s1, r0, r1, r2, r3, r4, r5, r6, r7, a0, a1, b0, b1, d0, d1, x0, x1, zs, zr, za, zb, zd, zx⟩ := HCL.out _ HBZ.out; clear t0 t1 t2 t3 t4 t5 t6 t7 t8 zt; obtain ⟨t0, t1, t2, t3, t4, t5, t6, t7, t8, zt⟩ := HTC.out _ HB8.out) | (go_at_call 43; refine (sameThings_any sb wb _ _ _ HMS.out HM1.out).mono ?_; rintro e wz ⟨⟨g, rfl, hg⟩, h⟩; have HM1 := hid (HM1.out.below h); obtain rfl : g = true := hg.2 (thM_changed HGL.out HAT.out HR4.out HM2.out.1 HM2.out.2.1); clear hg; have HBZ := hid (bcall HBZ.out h); have HB8 := hid (bcall HB8.out h); clear h; clear s0 s1 r0 r1 r2 r3 r4 r5 r6 r7 a0 a1 b0 b1 d0 d1 x0 x1 zs zr za zb zd zx; obtain ⟨s0, s1, r0, r1, r2, r3, r4, r5, r6, r7, a0, a1, b0, b1, d0, d1, x0, x1, zs, zr, za, zb, zd, zx⟩ := HCL.out _ HBZ.out; clear t0 t1 t2 t3 t4 t5 t6 t7 t8 zt; obtain ⟨t0, t1, t2, t3, t4, t5, t6, t7, t8, zt⟩ := HTC.out _ HB8.out))
        go_ret
        exact ⟨rfl, bcall HWW.out HBZ.out⟩
    · obtain ⟨rfl, rfl⟩ := at_unique HGL.out.2.2.2.2.2 hv hat
      clear hv
      go_upto_region 33 with (first | (go_at_call 41; refine (HCO.out _ HBZ.out).mono ?_; rintro e wz ⟨⟨wb, rfl, hwb, hm⟩, h⟩; have HM1 := hid hm; have HWB := hid (Nat.le_trans HBZ.out.size hwb); have HWB8 := hid (Nat.le_trans HB8.out.size hwb); clear hm hwb; have HBZ := hid (bcall HBZ.out h); have HB8 := hid (bcall HB8.out h); clear h; clear s0 s1 r0 r1 r2 r3 r4 r5 r6 r7 a0 a1 b0 b1 d0 d1 x0 x1 zs zr za zb zd zx; obtain ⟨s0, s1, r0, r1, r2, r3, r4, r5, r6, r7, a0, a1, b0, b1, d0, d1, x0, x1, zs, zr, za, zb, zd, zx⟩ := HCL.out _ HBZ.out; clear t0 t1 t2 t3 t4 t5 t6 t7 t8 zt; obtain ⟨t0, t1, t2, t3, t4, t5, t6, t7, t8, zt⟩ := HTC.out _ HB8.out) | (at_delete; refine wp_drop _ rfl _ _ rfl wb _ rfl HM1.out id rfl hidw ?_; intro wz hm ht; have HM1 := hid hm; have HBZ := hid (Mp.below_turn HBZ.out ht HWB.out); have HB8 := hid (Mp.below_turn HB8.out ht HWB8.out); clear hm ht; clear s0 s1 r0 r1 r2 r3 r4 r5 r6 r7 a0 a1 b0 b1 d0 d1 x0 x1 zs zr za zb zd zx; obtain ⟨s0, s1, r0, r1, r2, r3, r4, r5, r6, r7, a0, a1, b0, b1, d0, d1, x0, x1, zs, zr, za, zb, zd, zx⟩ := HCL.out _ HBZ.out; clear t0 t1 t2 t3 t4 t5 t6 t7 t8 zt; obtain ⟨t0, t1, t2, t3, t4, t5, t6, t7, t8, zt⟩ := HTC.out _ HB8.out) | (go_at_call 42; refine (stored_out (HOB.out.below HBZ.out) ((kill_all HGL.out (at_mem HAT.out)).1)).mono ?_; rintro e wz ⟨⟨sb, rfl, hsb, hms⟩, h⟩; have HM1 := hid (HM1.out.below h); have HMS := hid hms; clear hms hsb; have HBZ := hid (bcall HBZ.out h); have HB8 := hid (bcall HB8.out h); clear h; clear s0 s1 r0 r1 r2 r3 r4 r5 r6 r7 a0 a1 b0 b1 d0 d1 x0 x1 zs zr za zb zd zx; obtain ⟨s0, s1, r0, r1, r2, r3, r4, r5, r6, r7, a0, a1, b0, b1, d0, d1, x0, x1, zs, zr, za, zb, zd, zx⟩ := HCL.out _ HBZ.out; clear t0 t1 t2 t3 t4 t5 t6 t7 t8 zt; obtain ⟨t0, t1, t2, t3, t4, t5, t6, t7, t8, zt⟩ := HTC.out _ HB8.out) | (go_at_call 43; refine (sameThings_any sb wb _ _ _ HMS.out HM1.out).mono ?_; rintro e wz ⟨⟨g, rfl, hg⟩, h⟩; have HM1 := hid (HM1.out.below h); obtain rfl : g = true := hg.2 (thM_killed HGL.out (at_mem HAT.out)); clear hg; have HBZ := hid (bcall HBZ.out h); have HB8 := hid (bcall HB8.out h); clear h; clear s0 s1 r0 r1 r2 r3 r4 r5 r6 r7 a0 a1 b0 b1 d0 d1 x0 x1 zs zr za zb zd zx; obtain ⟨s0, s1, r0, r1, r2, r3, r4, r5, r6, r7, a0, a1, b0, b1, d0, d1, x0, x1, zs, zr, za, zb, zd, zx⟩ := HCL.out _ HBZ.out; clear t0 t1 t2 t3 t4 t5 t6 t7 t8 zt; obtain ⟨t0, t1, t2, t3, t4, t5, t6, t7, t8, zt⟩ := HTC.out _ HB8.out) | (go_at_call 27; refine (HIR.out _ _).mono ?_; rintro e wz ⟨rfl, h⟩; have HM1 := hid (HM1.out.below h); have HBZ := hid (bcall HBZ.out h); have HB8 := hid (bcall HB8.out h); clear h; clear s0 s1 r0 r1 r2 r3 r4 r5 r6 r7 a0 a1 b0 b1 d0 d1 x0 x1 zs zr za zb zd zx; obtain ⟨s0, s1, r0, r1, r2, r3, r4, r5, r6, r7, a0, a1, b0, b1, d0, d1, x0, x1, zs, zr, za, zb, zd, zx⟩ := HCL.out _ HBZ.out; clear t0 t1 t2 t3 t4 t5 t6 t7 t8 zt; obtain ⟨t0, t1, t2, t3, t4, t5, t6, t7, t8, zt⟩ := HTC.out _ HB8.out) | (go_at_call 30; refine (HSM.out _ _ HBZ.out (by first | exact HOC.out | exact HOA.out | exact HOD.out | exact HOX.out)).mono ?_; rintro e wz ⟨rfl, h⟩; have HM1 := hid (HM1.out.below h); have HBZ := hid (bcall HBZ.out h); have HB8 := hid (bcall HB8.out h); clear h; clear s0 s1 r0 r1 r2 r3 r4 r5 r6 r7 a0 a1 b0 b1 d0 d1 x0 x1 zs zr za zb zd zx; obtain ⟨s0, s1, r0, r1, r2, r3, r4, r5, r6, r7, a0, a1, b0, b1, d0, d1, x0, x1, zs, zr, za, zb, zd, zx⟩ := HCL.out _ HBZ.out; clear t0 t1 t2 t3 t4 t5 t6 t7 t8 zt; obtain ⟨t0, t1, t2, t3, t4, t5, t6, t7, t8, zt⟩ := HTC.out _ HB8.out))
      have HM1LEN : Hid ((delM id (thM (plainOf T I R n))).length ≤ 10) := hid (by have h1 := delM_len id (thM_up (plainOf T I R n)); rw [HLEN.out] at h1; omega)
      obtain ⟨wu, hru, hmu, htu⟩ := HM1.out.store hidw ⟨t.m, r⟩ (by have := HM1LEN.out; unfold maxLen; omega)
      simp only [thV] at hru
      have HBZ := hid (Mp.below_turn HBZ.out htu HWB.out)
      have HB8 := hid (Mp.below_turn HB8.out htu HWB8.out)
      have HM1 := hid hmu
      clear hmu htu
      obtain ⟨s0u, s1u, r0u, r1u, r2u, r3u, r4u, r5u, r6u, r7u, a0u, a1u, b0u, b1u, d0u, d1u, x0u, x1u, zsu, zru, zau, zbu, zdu, zxu⟩ := HCL.out _ HBZ.out
      obtain ⟨tu0, tu1, tu2, tu3, tu4, tu5, tu6, tu7, tu8, zu⟩ := HTC.out _ HB8.out
      go_upto_region 34 with fail
      clear s0 s1 r0 r1 r2 r3 r4 r5 r6 r7 a0 a1 b0 b1 d0 d1 x0 x1 zs zr za zb zd zx t0 t1 t2 t3 t4 t5 t6 t7 t8 zt hru
      obtain ⟨s0, s1, r0, r1, r2, r3, r4, r5, r6, r7, a0, a1, b0, b1, d0, d1, x0, x1, zs, zr, za, zb, zd, zx⟩ := HCL.out _ HBZ.out
      obtain ⟨t0, t1, t2, t3, t4, t5, t6, t7, t8, zt⟩ := HTC.out _ HB8.out
      clear s0u s1u r0u r1u r2u r3u r4u r5u r6u r7u a0u a1u b0u b1u d0u d1u x0u x1u zsu zru zau zbu zdu zxu tu0 tu1 tu2 tu3 tu4 tu5 tu6 tu7 tu8 zu
      go_upto_region 37 with (first | (go_at_call 42; refine (stored_out (HOD.out.below HBZ.out) ((thM_set HGL.out HAT.out hr3).1)).mono ?_; rintro e wz ⟨⟨sb, rfl, hsb, hms⟩, h⟩; have HM1 := hid (HM1.out.below h); have HMS := hid hms; clear hms hsb; have HBZ := hid (bcall HBZ.out h); have HB8 := hid (bcall HB8.out h); clear h; clear s0 s1 r0 r1 r2 r3 r4 r5 r6 r7 a0 a1 b0 b1 d0 d1 x0 x1 zs zr za zb zd zx; obtain ⟨s0, s1, r0, r1, r2, r3, r4, r5, r6, r7, a0, a1, b0, b1, d0, d1, x0, x1, zs, zr, za, zb, zd, zx⟩ := HCL.out _ HBZ.out; clear t0 t1 t2 t3 t4 t5 t6 t7 t8 zt; obtain ⟨t0, t1, t2, t3, t4, t5, t6, t7, t8, zt⟩ := HTC.out _ HB8.out) | (go_at_call 43; refine (sameThings_any sb wb _ _ _ HMS.out HM1.out).mono ?_; rintro e wz ⟨⟨g, rfl, hg⟩, h⟩; have HM1 := hid (HM1.out.below h); obtain rfl : g = true := hg.2 ((thM_set HGL.out HAT.out hr3).2); clear hg; have HBZ := hid (bcall HBZ.out h); have HB8 := hid (bcall HB8.out h); clear h; clear s0 s1 r0 r1 r2 r3 r4 r5 r6 r7 a0 a1 b0 b1 d0 d1 x0 x1 zs zr za zb zd zx; obtain ⟨s0, s1, r0, r1, r2, r3, r4, r5, r6, r7, a0, a1, b0, b1, d0, d1, x0, x1, zs, zr, za, zb, zd, zx⟩ := HCL.out _ HBZ.out; clear t0 t1 t2 t3 t4 t5 t6 t7 t8 zt; obtain ⟨t0, t1, t2, t3, t4, t5, t6, t7, t8, zt⟩ := HTC.out _ HB8.out))
      have HM2 : Hid (Up (putM id ⟨t.m, r⟩ (delM id (thM (plainOf T I R n)))) ∧ (∀ u, u ≠ id → getM u (putM id ⟨t.m, r⟩ (delM id (thM (plainOf T I R n)))) = getM u (thM (plainOf T I R n))) ∧ (putM id ⟨t.m, r⟩ (delM id (thM (plainOf T I R n)))).length ≤ 11) := hid ⟨((thM_up _).del id).put _ _, fun u hu => (by rw [getM_put ((thM_up _).del id), if_neg hu, getM_del (thM_up _), if_neg hu]), by have h1 := putM_len id ⟨t.m, r⟩ ((thM_up (plainOf T I R n)).del id); have h2 := HM1LEN.out; split at h1 <;> omega⟩
      generalize putM id ⟨t.m, r⟩ (delM id (thM (plainOf T I R n))) = M2 at HM1 HM2
      have hmr : ∀ q', goodRowB mask q' = true → 1 ≤ mask ∧ mask ≤ 31 := fun q' h => by simp [goodRowB, btw] at h; omega
      by_cases hm0 : mask < 0
      · rcases HN4 with ⟨-, hg, -⟩ | ⟨-, -, hv, -⟩ | ⟨rfl, -, -, rfl⟩ | ⟨-, -, m, q, hv, hr4, -⟩
        · exact absurd HGL.out hg
        · exact absurd (at_mem HAT.out) hv
        rotate_left
        · have := hmr _ hr4; omega
        go_wp2_with (first | (go_at_call 30; refine (HSM.out _ _ HBZ.out (by first | exact HOC.out | exact HOA.out | exact HOD.out | exact HOX.out)).mono ?_; rintro e wz ⟨rfl, h⟩; have HM1 := hid (HM1.out.below h); have HBZ := hid (bcall HBZ.out h); have HB8 := hid (bcall HB8.out h); clear h; clear s0 s1 r0 r1 r2 r3 r4 r5 r6 r7 a0 a1 b0 b1 d0 d1 x0 x1 zs zr za zb zd zx; obtain ⟨s0, s1, r0, r1, r2, r3, r4, r5, r6, r7, a0, a1, b0, b1, d0, d1, x0, x1, zs, zr, za, zb, zd, zx⟩ := HCL.out _ HBZ.out; clear t0 t1 t2 t3 t4 t5 t6 t7 t8 zt; obtain ⟨t0, t1, t2, t3, t4, t5, t6, t7, t8, zt⟩ := HTC.out _ HB8.out))
        go_ret
        exact ⟨rfl, bcall HWW.out HBZ.out⟩
      by_cases hm1 : mask > 31
      · rcases HN4 with ⟨-, hg, -⟩ | ⟨-, -, hv, -⟩ | ⟨rfl, -, -, rfl⟩ | ⟨-, -, m, q, hv, hr4, -⟩
        · exact absurd HGL.out hg
        · exact absurd (at_mem HAT.out) hv
        rotate_left
        · have := hmr _ hr4; omega
        go_wp2_with (first | (go_at_call 30; refine (HSM.out _ _ HBZ.out (by first | exact HOC.out | exact HOA.out | exact HOD.out | exact HOX.out)).mono ?_; rintro e wz ⟨rfl, h⟩; have HM1 := hid (HM1.out.below h); have HBZ := hid (bcall HBZ.out h); have HB8 := hid (bcall HB8.out h); clear h; clear s0 s1 r0 r1 r2 r3 r4 r5 r6 r7 a0 a1 b0 b1 d0 d1 x0 x1 zs zr za zb zd zx; obtain ⟨s0, s1, r0, r1, r2, r3, r4, r5, r6, r7, a0, a1, b0, b1, d0, d1, x0, x1, zs, zr, za, zb, zd, zx⟩ := HCL.out _ HBZ.out; clear t0 t1 t2 t3 t4 t5 t6 t7 t8 zt; obtain ⟨t0, t1, t2, t3, t4, t5, t6, t7, t8, zt⟩ := HTC.out _ HB8.out))
        go_ret
        exact ⟨rfl, bcall HWW.out HBZ.out⟩
      have hmk : 0 ≤ mask ∧ mask ≤ 31 := ⟨by omega, by omega⟩
      have hgq : goodRowB t.m t.r = true := by
        obtain ⟨tt, htt, hm', j, hj1, hj2⟩ := HAT.out
        have h1 := (HGL.out.2.2.2.2.1 tt htt).2.2.2 t.r (List.mem_of_getElem? hj2)
        rw [hm'] at h1
        exact h1
      have htm : 0 ≤ t.m ∧ t.m ≤ 31 := by simp [goodRowB, btw] at hgq; omega
      have HCH := hid (ch_sum hmk htm (good_in64 hgq) HR64.out)
      obtain ⟨b1, b2, b3, b4, -⟩ := bits_all mask (mem_masks hmk) t.m (mem_masks htm)
      have HKO : Hid (∀ W, Calls Try.prog 29 #[.int .i64 (bits .and .i64 mask t.m), .agg #[.int .i64 t.r.x, .int .i64 t.r.y, .int .i64 t.r.px, .int .i64 t.r.py, .int .i64 t.r.wd, .int .i64 t.r.ht, .int .i64 t.r.ms, .int .i64 t.r.rr]] W fun e w' => e = .returned (rowV (onlyH (bits .and .i64 mask t.m) t.r)) ∧ Below W.heap.size W w') := hid (fun W => onlyOf_any _ ⟨by omega, by omega⟩ t.r.x t.r.y t.r.px t.r.py t.r.wd t.r.ht t.r.ms t.r.rr W)
      have HKM : Hid (∀ W, Calls Try.prog 29 #[.int .i64 (bits .andNot .i64 mask t.m), .agg #[.int .i64 r.x, .int .i64 r.y, .int .i64 r.px, .int .i64 r.py, .int .i64 r.wd, .int .i64 r.ht, .int .i64 r.ms, .int .i64 r.rr]] W fun e w' => e = .returned (rowV (onlyH (bits .andNot .i64 mask t.m) r)) ∧ Below W.heap.size W w') := hid (fun W => onlyOf_any _ ⟨by omega, by omega⟩ r.x r.y r.px r.py r.wd r.ht r.ms r.rr W)
      generalize onlyH (bits .and .i64 mask t.m) t.r = qo at HKO HCH
      generalize onlyH (bits .andNot .i64 mask t.m) r = qm at HKM HCH
      unfold rowV at HKO HKM
      clear b1 b2 b3 b4 hgq htm hmk
      have HSK : Hid (∀ W, Below wz.heap.size wz W → W.cell? ⟨tb, 0, none⟩ = some (.int .i64 t.m) ∧ W.cell? ⟨tb, 1, none⟩ = some (.int .i64 t.r.x) ∧ W.cell? ⟨tb, 2, none⟩ = some (.int .i64 t.r.y) ∧ W.cell? ⟨tb, 3, none⟩ = some (.int .i64 t.r.px) ∧ W.cell? ⟨tb, 4, none⟩ = some (.int .i64 t.r.py) ∧ W.cell? ⟨tb, 5, none⟩ = some (.int .i64 t.r.wd) ∧ W.cell? ⟨tb, 6, none⟩ = some (.int .i64 t.r.ht) ∧ W.cell? ⟨tb, 7, none⟩ = some (.int .i64 t.r.ms) ∧ W.cell? ⟨tb, 8, none⟩ = some (.int .i64 t.r.rr) ∧ W.cell? ⟨w.heap.size + 1, 0, none⟩ = some (.int .i64 r.x) ∧ W.cell? ⟨w.heap.size + 1, 1, none⟩ = some (.int .i64 r.y) ∧ W.cell? ⟨w.heap.size + 1, 2, none⟩ = some (.int .i64 r.px) ∧ W.cell? ⟨w.heap.size + 1, 3, none⟩ = some (.int .i64 r.py) ∧ W.cell? ⟨w.heap.size + 1, 4, none⟩ = some (.int .i64 r.wd) ∧ W.cell? ⟨w.heap.size + 1, 5, none⟩ = some (.int .i64 r.ht) ∧ W.cell? ⟨w.heap.size + 1, 6, none⟩ = some (.int .i64 r.ms) ∧ W.cell? ⟨w.heap.size + 1, 7, none⟩ = some (.int .i64 r.rr)) := hid (fun W hb => by
        obtain ⟨s0u, s1u, r0u, r1u, r2u, r3u, r4u, r5u, r6u, r7u, a0u, a1u, b0u, b1u, d0u, d1u, x0u, x1u, zsu, zru, zau, zbu, zdu, zxu⟩ := HCL.out _ (bcall HBZ.out hb)
        obtain ⟨tu0, tu1, tu2, tu3, tu4, tu5, tu6, tu7, tu8, zu⟩ := HTC.out _ (bcall HB8.out hb)
        exact ⟨tu0, tu1, tu2, tu3, tu4, tu5, tu6, tu7, tu8, r0u, r1u, r2u, r3u, r4u, r5u, r6u, r7u⟩)
      go_upto_region 39 with fail
      refine Rh.wp_act ?_
      intro A hA
      refine reg39_wp _ _ A mask t r qo qm tb (w.heap.size + 1) wz (by rw [hA]; rfl) (by rw [hA]; rfl) (by rw [hA]; rfl) (by rw [hA]; exact Nat.le_of_ble_eq_true rfl) HKO.out HKM.out HSK.out ?_
      intro f ob mb W hf1 hf2 h1 h2 hb
      subst hA
      have HBZ := hid (bcall HBZ.out hb)
      have HB8 := hid (bcall HB8.out hb)
      have HM1 := hid (HM1.out.below hb)
      clear s0 s1 r0 r1 r2 r3 r4 r5 r6 r7 a0 a1 b0 b1 d0 d1 x0 x1 zs zr za zb zd zx
      obtain ⟨s0, s1, r0, r1, r2, r3, r4, r5, r6, r7, a0, a1, b0, b1, d0, d1, x0, x1, zs, zr, za, zb, zd, zx⟩ := HCL.out _ HBZ.out
      clear t0 t1 t2 t3 t4 t5 t6 t7 t8 zt
      obtain ⟨t0, t1, t2, t3, t4, t5, t6, t7, t8, zt⟩ := HTC.out _ HB8.out
      obtain ⟨o0, o1, o2, o3, o4, o5, o6, o7⟩ := rowCell8 h1
      obtain ⟨g0, g1, g2, g3, g4, g5, g6, g7⟩ := rowCell8 h2
      have zo := h1.lt
      have zm := h2.lt
      clear hb h1 h2
      simp only [Rh.puts, Act.put, hf1, hf2]
      go_simp
      go_upto_region 41 with fail
      clear o0 o1 o2 o3 o4 o5 o6 o7 g0 g1 g2 g3 g4 g5 g6 g7 zo zm
      obtain ⟨rn, hrn⟩ : ∃ q, q = chR mask t.m t.r r := ⟨_, rfl⟩
      have HCR := hid hrn
      have hc := hrn.trans HCH.out
      have ex0 : wrap64 (qo.x + qm.x) = rn.x := by rw [hc]
      have ex1 : wrap64 (qo.y + qm.y) = rn.y := by rw [hc]
      have ex2 : wrap64 (qo.px + qm.px) = rn.px := by rw [hc]
      have ex3 : wrap64 (qo.py + qm.py) = rn.py := by rw [hc]
      have ex4 : wrap64 (qo.wd + qm.wd) = rn.wd := by rw [hc]
      have ex5 : wrap64 (qo.ht + qm.ht) = rn.ht := by rw [hc]
      have ex6 : wrap64 (qo.ms + qm.ms) = rn.ms := by rw [hc]
      have ex7 : wrap64 (qo.rr + qm.rr) = rn.rr := by rw [hc]
      simp only [ex0, ex1, ex2, ex3, ex4, ex5, ex6, ex7]
      clear hrn hc ex0 ex1 ex2 ex3 ex4 ex5 ex6 ex7
      have HR0 := hid (rowIs8 W rn 30)
      have hal := bal (Below.refl _ W) (.cells #[.int .i64 rn.x, .int .i64 rn.y, .int .i64 rn.px, .int .i64 rn.py, .int .i64 rn.wd, .int .i64 rn.ht, .int .i64 rn.ms, .int .i64 rn.rr] 30)
      have HBZ := hid (bcall HBZ.out hal)
      have HB8 := hid (bcall HB8.out hal)
      have HM1 := hid (HM1.out.below hal)
      clear hal
      generalize W.heap.size = nb at HR0 ⊢
      generalize W.alloc (.cells #[.int .i64 rn.x, .int .i64 rn.y, .int .i64 rn.px, .int .i64 rn.py, .int .i64 rn.wd, .int .i64 rn.ht, .int .i64 rn.ms, .int .i64 rn.rr] 30) = W9 at HR0 HBZ HB8 HM1 ⊢
      have HRN : Hid (∀ W', Below W9.heap.size W9 W' → W'.cell? ⟨nb, 0, none⟩ = some (.int .i64 rn.x) ∧ W'.cell? ⟨nb, 1, none⟩ = some (.int .i64 rn.y) ∧ W'.cell? ⟨nb, 2, none⟩ = some (.int .i64 rn.px) ∧ W'.cell? ⟨nb, 3, none⟩ = some (.int .i64 rn.py) ∧ W'.cell? ⟨nb, 4, none⟩ = some (.int .i64 rn.wd) ∧ W'.cell? ⟨nb, 5, none⟩ = some (.int .i64 rn.ht) ∧ W'.cell? ⟨nb, 6, none⟩ = some (.int .i64 rn.ms) ∧ W'.cell? ⟨nb, 7, none⟩ = some (.int .i64 rn.rr) ∧ nb < W'.heap.size) := hid (fun W' hb => by
        have e := rowIs_below HR0.out hb
        exact ⟨e.cell (i := 0) (by omega), e.cell (i := 1) (by omega), e.cell (i := 2) (by omega), e.cell (i := 3) (by omega), e.cell (i := 4) (by omega), e.cell (i := 5) (by omega), e.cell (i := 6) (by omega), e.cell (i := 7) (by omega), e.lt⟩)
      have HB9 : Hid (Below W9.heap.size W9 W9) := hid (Below.refl _ _)
      clear s0 s1 r0 r1 r2 r3 r4 r5 r6 r7 a0 a1 b0 b1 d0 d1 x0 x1 zs zr za zb zd zx
      obtain ⟨s0, s1, r0, r1, r2, r3, r4, r5, r6, r7, a0, a1, b0, b1, d0, d1, x0, x1, zs, zr, za, zb, zd, zx⟩ := HCL.out _ HBZ.out
      clear t0 t1 t2 t3 t4 t5 t6 t7 t8 zt
      obtain ⟨t0, t1, t2, t3, t4, t5, t6, t7, t8, zt⟩ := HTC.out _ HB8.out
      obtain ⟨n0', n1', n2', n3', n4', n5', n6', n7', zn⟩ := HRN.out _ HB9.out
      have HIRN : Hid (∀ W', Calls Try.prog 27 #[.int .i64 mask, .agg #[.int .i64 rn.x, .int .i64 rn.y, .int .i64 rn.px, .int .i64 rn.py, .int .i64 rn.wd, .int .i64 rn.ht, .int .i64 rn.ms, .int .i64 rn.rr]] W' fun e w' => e = .returned (.bool (goodRowB mask rn)) ∧ Below W'.heap.size W' w') := hid (fun W' => by rw [← isRow_good]; exact isRow_any mask rn W')
      rcases HN4 with ⟨-, hg, -⟩ | ⟨-, -, hv, -⟩ | ⟨rfl, -, ⟨m, q, hv, hr4⟩, rfl⟩ | ⟨rfl, -, m, q, hv, hr4, rfl⟩
      · exact absurd HGL.out hg
      · exact absurd (at_mem HAT.out) hv
      · obtain ⟨rfl, rfl⟩ := at_unique HGL.out.2.2.2.2.2 hv HAT.out
        rw [← HCR.out] at hr4
        rw [hr4] at HIRN
        clear hv
        go_wp2_with (first | (go_at_call 27; refine (HIRN.out _).mono ?_; rintro e wz ⟨rfl, h⟩; have HM1 := hid (HM1.out.below h); have HBZ := hid (bcall HBZ.out h); have HB8 := hid (bcall HB8.out h); have HB9 := hid (bcall HB9.out h); clear h; clear s0 s1 r0 r1 r2 r3 r4 r5 r6 r7 a0 a1 b0 b1 d0 d1 x0 x1 zs zr za zb zd zx; obtain ⟨s0, s1, r0, r1, r2, r3, r4, r5, r6, r7, a0, a1, b0, b1, d0, d1, x0, x1, zs, zr, za, zb, zd, zx⟩ := HCL.out _ HBZ.out; clear t0 t1 t2 t3 t4 t5 t6 t7 t8 zt; obtain ⟨t0, t1, t2, t3, t4, t5, t6, t7, t8, zt⟩ := HTC.out _ HB8.out; clear n0' n1' n2' n3' n4' n5' n6' n7' zn; obtain ⟨n0', n1', n2', n3', n4', n5', n6', n7', zn⟩ := HRN.out _ HB9.out) | (go_at_call 30; refine (HSM.out _ _ HBZ.out (by first | exact HOC.out | exact HOA.out | exact HOD.out | exact HOX.out)).mono ?_; rintro e wz ⟨rfl, h⟩; have HM1 := hid (HM1.out.below h); have HBZ := hid (bcall HBZ.out h); have HB8 := hid (bcall HB8.out h); have HB9 := hid (bcall HB9.out h); clear h; clear s0 s1 r0 r1 r2 r3 r4 r5 r6 r7 a0 a1 b0 b1 d0 d1 x0 x1 zs zr za zb zd zx; obtain ⟨s0, s1, r0, r1, r2, r3, r4, r5, r6, r7, a0, a1, b0, b1, d0, d1, x0, x1, zs, zr, za, zb, zd, zx⟩ := HCL.out _ HBZ.out; clear t0 t1 t2 t3 t4 t5 t6 t7 t8 zt; obtain ⟨t0, t1, t2, t3, t4, t5, t6, t7, t8, zt⟩ := HTC.out _ HB8.out; clear n0' n1' n2' n3' n4' n5' n6' n7' zn; obtain ⟨n0', n1', n2', n3', n4', n5', n6', n7', zn⟩ := HRN.out _ HB9.out))
        go_ret
        exact ⟨rfl, bcall HWW.out HBZ.out⟩
      · obtain ⟨rfl, rfl⟩ := at_unique HGL.out.2.2.2.2.2 hv HAT.out
        rw [← HCR.out] at hr4 HOX
        rw [hr4] at HIRN
        have HR4 := hid hr4
        clear hv hr4
        go_upto_region 43 with (first | (go_at_call 27; refine (HIRN.out _).mono ?_; rintro e wz ⟨rfl, h⟩; have HM1 := hid (HM1.out.below h); have HBZ := hid (bcall HBZ.out h); have HB8 := hid (bcall HB8.out h); have HB9 := hid (bcall HB9.out h); clear h; clear s0 s1 r0 r1 r2 r3 r4 r5 r6 r7 a0 a1 b0 b1 d0 d1 x0 x1 zs zr za zb zd zx; obtain ⟨s0, s1, r0, r1, r2, r3, r4, r5, r6, r7, a0, a1, b0, b1, d0, d1, x0, x1, zs, zr, za, zb, zd, zx⟩ := HCL.out _ HBZ.out; clear t0 t1 t2 t3 t4 t5 t6 t7 t8 zt; obtain ⟨t0, t1, t2, t3, t4, t5, t6, t7, t8, zt⟩ := HTC.out _ HB8.out; clear n0' n1' n2' n3' n4' n5' n6' n7' zn; obtain ⟨n0', n1', n2', n3', n4', n5', n6', n7', zn⟩ := HRN.out _ HB9.out))
        have HM1LEN := hid HM2.out.2.2
        obtain ⟨wu, hru, hmu, htu⟩ := HM1.out.store hidw ⟨mask, rn⟩ (by have := HM1LEN.out; unfold maxLen; omega)
        simp only [thV] at hru
        have HBZ := hid (Mp.below_turn HBZ.out htu HWB.out)
        have HB8 := hid (Mp.below_turn HB8.out htu HWB8.out)
        have HM1 := hid hmu
        clear hmu htu
        obtain ⟨s0u, s1u, r0u, r1u, r2u, r3u, r4u, r5u, r6u, r7u, a0u, a1u, b0u, b1u, d0u, d1u, x0u, x1u, zsu, zru, zau, zbu, zdu, zxu⟩ := HCL.out _ HBZ.out
        obtain ⟨tu0, tu1, tu2, tu3, tu4, tu5, tu6, tu7, tu8, zu⟩ := HTC.out _ HB8.out
        go_upto_region 44 with fail
        clear s0 s1 r0 r1 r2 r3 r4 r5 r6 r7 a0 a1 b0 b1 d0 d1 x0 x1 zs zr za zb zd zx t0 t1 t2 t3 t4 t5 t6 t7 t8 zt n0' n1' n2' n3' n4' n5' n6' n7' zn hru
        obtain ⟨s0, s1, r0, r1, r2, r3, r4, r5, r6, r7, a0, a1, b0, b1, d0, d1, x0, x1, zs, zr, za, zb, zd, zx⟩ := HCL.out _ HBZ.out
        obtain ⟨t0, t1, t2, t3, t4, t5, t6, t7, t8, zt⟩ := HTC.out _ HB8.out
        clear s0u s1u r0u r1u r2u r3u r4u r5u r6u r7u a0u a1u b0u b1u d0u d1u x0u x1u zsu zru zau zbu zdu zxu tu0 tu1 tu2 tu3 tu4 tu5 tu6 tu7 tu8 zu
        go_wp2_with (first | (go_at_call 42; refine (stored_out (HOX.out.below HBZ.out) (good_changed HGL.out HAT.out HR4.out)).mono ?_; rintro e wz ⟨⟨sb, rfl, hsb, hms⟩, h⟩; have HM1 := hid (HM1.out.below h); have HMS := hid hms; clear hms hsb; have HBZ := hid (bcall HBZ.out h); have HB8 := hid (bcall HB8.out h); clear h; clear s0 s1 r0 r1 r2 r3 r4 r5 r6 r7 a0 a1 b0 b1 d0 d1 x0 x1 zs zr za zb zd zx; obtain ⟨s0, s1, r0, r1, r2, r3, r4, r5, r6, r7, a0, a1, b0, b1, d0, d1, x0, x1, zs, zr, za, zb, zd, zx⟩ := HCL.out _ HBZ.out; clear t0 t1 t2 t3 t4 t5 t6 t7 t8 zt; obtain ⟨t0, t1, t2, t3, t4, t5, t6, t7, t8, zt⟩ := HTC.out _ HB8.out) | (go_at_call 43; refine (sameThings_any sb wb _ _ _ HMS.out HM1.out).mono ?_; rintro e wz ⟨⟨g, rfl, hg⟩, h⟩; have HM1 := hid (HM1.out.below h); obtain rfl : g = true := hg.2 (thM_changed HGL.out HAT.out HR4.out HM2.out.1 HM2.out.2.1); clear hg; have HBZ := hid (bcall HBZ.out h); have HB8 := hid (bcall HB8.out h); clear h; clear s0 s1 r0 r1 r2 r3 r4 r5 r6 r7 a0 a1 b0 b1 d0 d1 x0 x1 zs zr za zb zd zx; obtain ⟨s0, s1, r0, r1, r2, r3, r4, r5, r6, r7, a0, a1, b0, b1, d0, d1, x0, x1, zs, zr, za, zb, zd, zx⟩ := HCL.out _ HBZ.out; clear t0 t1 t2 t3 t4 t5 t6 t7 t8 zt; obtain ⟨t0, t1, t2, t3, t4, t5, t6, t7, t8, zt⟩ := HTC.out _ HB8.out))
        go_ret
        exact ⟨rfl, bcall HWW.out HBZ.out⟩
end Go.Proofs.Ytckkkdldljhehaa.Te
