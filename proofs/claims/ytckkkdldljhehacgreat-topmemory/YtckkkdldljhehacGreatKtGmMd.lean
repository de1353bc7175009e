/- The statement of TopMemory's question that writes a number and a row over, in whatever order. -/
import Derived.Test.YtckkkdldljhehacGreatKtGmMa
import Derived.Test.YtckkkdldljhehacGreatKtRh
namespace Go.Proofs.YtckkkdldljhehacGreat.Gm
open Go.Proofs.YtckkkdldljhehacGreat.Num Go.Proofs.YtckkkdldljhehacGreat.St Go.Proofs.YtckkkdldljhehacGreat.Wd
open Go.ChangeShapes Go.WideShapes Go.ChangeAt Go.RowKit

theorem kpM {L : Nat → Bool} {i j : Nat} {a : Act} {d d' : Nat} {v x : Value} (c : Hid (L j = true → a.tmps[d]?.getD undef = v)) (h1 : d' ≠ d := by decide) (h2 : j ≠ i := by decide) : Hid (Rg.up L i j = true → (a.put (some d') x).tmps[d]?.getD undef = v) :=
  St.hid (fun h => (Rh.put_ne h1).trans (c.out (Rg.up_ne h h2)))
theorem kqM {L : Nat → Bool} {i j : Nat} {P : Prop} (c : Hid (L j = true → P)) (h2 : j ≠ i := by decide) : Hid (Rg.up L i j = true → P) := St.hid (fun h => c.out (Rg.up_ne h h2))
def findM (n : Nat) : Code → Option Code
  | .region i ops d => if i = n then some (.region i ops d) else none
  | .seq a b => match findM n a with
    | some c => some c
    | none => findM n b
  | .block _ c => findM n c
  | .scope c => findM n c
  | .loop c => findM n c
  | .cond _ a b => match findM n a with
    | some c => some c
    | none => findM n b
  | _ => none
/-- What holds while tables are written over: they are one's own, nothing older has changed, the table in its box is as it was. -/
structure Over (W W4 : World) (v : Value) (S : List OT) (tb : Nat) (tv : TabV) : Prop where
  loose : Loose W W4.heap.size v S
  below : Below W4.heap.size W4 W
  box : W.rowIs tb 65 3 (tcell tv)
theorem Over.set {W W4 : World} {v : Value} {S : List OT} {tb : Nat} {tv : TabV} (h : Over W W4 v S tb tv) {z : Nat} (h1 : v.ownBlock ≠ some z) (h2 : W4.heap.size ≤ z) (h3 : tb ≠ z) (j : Nat) (u : Value) : Over (W.setCell ⟨z, j, none⟩ u) W4 v S tb tv :=
  ⟨h.loose.set h1 j u, h.below.setCell h2 u, h.box.of_block (Below.heap_setCell _ _ _ _ h3)⟩
theorem Over.drew {W W4 : World} {v : Value} {S : List OT} {tb : Nat} {tv : TabV} (h : Over W W4 v S tb tv) : Over W.drew W4 v S tb tv :=
  ⟨h.loose.below (Below.drew (Below.refl _ _)), h.below.drew, rowIs_below h.box (Below.drew (Below.refl _ _))⟩
noncomputable def mreg19 : Code := ((Tryz.f23.body.bind (findM 19)).getD .skip)
attribute [local go_sem ↓] Go.wp_at_zero Go.wp_at_succ
set_option maxHeartbeats 16000000 in
set_option maxRecDepth 100000 in
theorem mreg19_wp (Q : Exit → Act → World → Prop) (A : Act) (tb gi gr g5 q j N c5 ic rc : Nat) (mask : Int) (S : List OT) (o : OT) (wz W4 : World)
    (e11 : A.tmps[11]?.getD undef = .pointer (some ⟨tb, 0, none⟩)) (e12 : A.tmps[12]?.getD undef = .int .i64 j) (hsz : 65 < A.tmps.size) (hj : j < q) (hiv : o.iv = .slice (some ⟨gi, 0, none⟩) q ic) (hrv : o.rv = .slice (some ⟨gr, 0, none⟩) q rc) (hq : o.t.ids.length = q) (hq' : o.t.rows.length = q) (hm : o ∈ S)
    (h5i : g5 ≠ gi) (h5r : g5 ≠ gr) (hti : tb ≠ gi) (htr : tb ≠ gr) (hbi : W4.heap.size ≤ gi) (hbr : W4.heap.size ≤ gr)
    (hov : Over wz W4 (.slice (some ⟨g5, 0, none⟩) N c5) S tb ⟨mask, some ⟨gi, 0, none⟩, q, ic, some ⟨gr, 0, none⟩, q, rc⟩)
    (h : ∀ (f : Nat → Value) (W : World), Over W W4 (.slice (some ⟨g5, 0, none⟩) N c5) S tb ⟨mask, some ⟨gi, 0, none⟩, q, ic, some ⟨gr, 0, none⟩, q, rc⟩ → Q .normal (Rh.puts f [57, 58, 59, 60, 61, 62, 63, 64, 65] A) W) :
    Code.wp Tryz.prog mreg19 Q A wz := by
  have H := St.hid h
  have HOV := St.hid hov
  have hj' : (j : Int) < (q : Int) := by omega
  have H5I : Hid ((Value.slice (some ⟨g5, 0, none⟩) N c5).ownBlock ≠ some gi) := St.hid (fun e => h5i (Option.some.inj e))
  have H5R : Hid ((Value.slice (some ⟨g5, 0, none⟩) N c5).ownBlock ≠ some gr) := St.hid (fun e => h5r (Option.some.inj e))
  have HCI : Hid (∀ W, Over W W4 (.slice (some ⟨g5, 0, none⟩) N c5) S tb ⟨mask, some ⟨gi, 0, none⟩, q, ic, some ⟨gr, 0, none⟩, q, rc⟩ → (∃ u, W.cell? ⟨gi, j, none⟩ = some u) ∧ W.frozen? ⟨gi, j, none⟩ = false ∧ gi < W.heap.size) := St.hid (fun W h => by
    obtain ⟨⟨xs, h1⟩, -⟩ := h.loose.2 o hm
    rw [hiv, hq] at h1
    exact ⟨(ow1 h1 hj).1, (ow1 h1 hj).2, (h1.lt gi rfl).2⟩)
  have HCR : Hid (∀ W, Over W W4 (.slice (some ⟨g5, 0, none⟩) N c5) S tb ⟨mask, some ⟨gi, 0, none⟩, q, ic, some ⟨gr, 0, none⟩, q, rc⟩ → (∀ i, i < 8 → (∃ u, W.cell? ⟨gr, j * 8 + i, none⟩ = some u) ∧ W.frozen? ⟨gr, j * 8 + i, none⟩ = false) ∧ gr < W.heap.size) := St.hid (fun W h => by
    obtain ⟨-, ⟨ys, h2⟩⟩ := h.loose.2 o hm
    rw [hrv, hq'] at h2
    exact ⟨fun i hi => owk h2 hj hi, (h2.lt gr rfl).2⟩)
  clear h hov hiv hrv hq hq' hm h5i h5r
  conv => arg 2; whnf
  refine Rg.wp_region_inv (by kernel_rfl) (fun Lf a1 w1 => Hid (Rh.Fr [57, 58, 59, 60, 61, 62, 63, 64, 65] A a1) ∧ Hid (Lf 0 = true → a1.tmps[57]?.getD undef = .pointer (some ⟨tb, 1, none⟩)) ∧ Hid (Lf 1 = true → a1.tmps[58]?.getD undef = .slice (some ⟨gi, 0, none⟩) q ic) ∧ Hid (Lf 2 = true → a1.tmps[59]?.getD undef = .int .i64 j) ∧ Hid (Lf 3 = true → a1.tmps[60]?.getD undef = .pointer (some ⟨tb, 2, none⟩)) ∧ Hid (Lf 4 = true → a1.tmps[61]?.getD undef = .slice (some ⟨gr, 0, none⟩) q rc) ∧ Hid (Lf 5 = true → a1.tmps[62]?.getD undef = .int .i64 j) ∧ Hid (Lf 6 = true → a1.tmps[63]?.getD undef = .agg #[.int .i64 0, .int .i64 0, .int .i64 0, .int .i64 0, .int .i64 0, .int .i64 0, .int .i64 0, .int .i64 0]) ∧ Hid (Lf 7 = true → a1.tmps[64]?.getD undef = .pointer (some ⟨gi, j, none⟩)) ∧ Hid (Lf 9 = true → a1.tmps[65]?.getD undef = .pointer (some ⟨gr, j * 8, none⟩)) ∧ Hid (Over w1 W4 (.slice (some ⟨g5, 0, none⟩) N c5) S tb ⟨mask, some ⟨gi, 0, none⟩, q, ic, some ⟨gr, 0, none⟩, q, rc⟩)) (by kernel_rfl) ?rs ?rg ?re
  case rs => refine ⟨St.hid (Rh.Fr.refl _ _), St.hid (fun h => by cases h), St.hid (fun h => by cases h), St.hid (fun h => by cases h), St.hid (fun h => by cases h), St.hid (fun h => by cases h), St.hid (fun h => by cases h), St.hid (fun h => by cases h), St.hid (fun h => by cases h), St.hid (fun h => by cases h), St.hid HOV.out.drew⟩
  case rg =>
    intro Lf a1 w1 hI
    obtain ⟨cF, c0, c1, c2, c3, c4, c5, c6, c7, c9, cO⟩ := hI
    refine ⟨fun hl hd K' hK => ?o0, fun hl hd K' hK => ?o1, fun hl hd K' hK => ?o2, fun hl hd K' hK => ?o3, fun hl hd K' hK => ?o4, fun hl hd K' hK => ?o5, fun hl hd K' hK => ?o6, fun hl hd K' hK => ?o7, fun hl hd K' hK => ?o8, fun hl hd K' hK => ?o9, fun hl hd K' hK => ?o10, trivial⟩
    case o0 =>
      clear hd
      have q9 := (cF.out.2.2 11 (by decide)).trans e11
      go_simp
      refine hK.out _ _ ⟨St.hid (cF.out.put (by decide) _), St.hid (fun _ => cF.out.at (by omega) _), kpM c1, kpM c2, kpM c3, kpM c4, kpM c5, kpM c6, kpM c7, kpM c9, cO⟩
    case o1 =>
      simp [Rg.deps, Region.binds] at hd
      have q0 := c0.out (by simp only [hd])
      obtain ⟨t0, t1, t2⟩ := tcells cO.out.box
      simp only at t0 t1 t2
      go_simp
      refine hK.out _ _ ⟨St.hid (cF.out.put (by decide) _), kpM c0, St.hid (fun _ => cF.out.at (by omega) _), kpM c2, kpM c3, kpM c4, kpM c5, kpM c6, kpM c7, kpM c9, cO⟩
    case o2 =>
      clear hd
      have q9 := (cF.out.2.2 12 (by decide)).trans e12
      go_simp
      refine hK.out _ _ ⟨St.hid (cF.out.put (by decide) _), kpM c0, kpM c1, St.hid (fun _ => cF.out.at (by omega) _), kpM c3, kpM c4, kpM c5, kpM c6, kpM c7, kpM c9, cO⟩
    case o3 =>
      clear hd
      have q9 := (cF.out.2.2 11 (by decide)).trans e11
      go_simp
      refine hK.out _ _ ⟨St.hid (cF.out.put (by decide) _), kpM c0, kpM c1, kpM c2, St.hid (fun _ => cF.out.at (by omega) _), kpM c4, kpM c5, kpM c6, kpM c7, kpM c9, cO⟩
    case o4 =>
      simp [Rg.deps, Region.binds] at hd
      have q0 := c3.out (by simp only [hd])
      obtain ⟨t0, t1, t2⟩ := tcells cO.out.box
      simp only at t0 t1 t2
      go_simp
      refine hK.out _ _ ⟨St.hid (cF.out.put (by decide) _), kpM c0, kpM c1, kpM c2, kpM c3, St.hid (fun _ => cF.out.at (by omega) _), kpM c5, kpM c6, kpM c7, kpM c9, cO⟩
    case o5 =>
      clear hd
      have q9 := (cF.out.2.2 12 (by decide)).trans e12
      go_simp
      refine hK.out _ _ ⟨St.hid (cF.out.put (by decide) _), kpM c0, kpM c1, kpM c2, kpM c3, kpM c4, St.hid (fun _ => cF.out.at (by omega) _), kpM c6, kpM c7, kpM c9, cO⟩
    case o6 =>
      clear hd
      go_simp
      refine hK.out _ _ ⟨St.hid (cF.out.put (by decide) _), kpM c0, kpM c1, kpM c2, kpM c3, kpM c4, kpM c5, St.hid (fun _ => cF.out.at (by omega) _), kpM c7, kpM c9, cO⟩
    case o7 =>
      simp [Rg.deps, Region.binds] at hd
      have q0 := c1.out (by simp only [hd])
      have q1 := c2.out (by simp only [hd])
      go_simp
      refine hK.out _ _ ⟨St.hid (cF.out.put (by decide) _), kpM c0, kpM c1, kpM c2, kpM c3, kpM c4, kpM c5, kpM c6, St.hid (fun _ => cF.out.at (by omega) _), kpM c9, cO⟩
    case o8 =>
      simp [Rg.deps, Region.binds] at hd
      have q0 := c7.out (by simp only [hd])
      obtain ⟨⟨u, cu⟩, fu, hgz⟩ := HCI.out _ cO.out
      clear hd e11 e12
      go_simp
      refine hK.out _ _ ⟨cF, kqM c0, kqM c1, kqM c2, kqM c3, kqM c4, kqM c5, kqM c6, kqM c7, kqM c9, St.hid (cO.out.set H5I.out hbi hti _ _)⟩
    case o9 =>
      simp [Rg.deps, Region.binds] at hd
      have q0 := c4.out (by simp only [hd])
      have q1 := c5.out (by simp only [hd])
      go_simp
      refine hK.out _ _ ⟨St.hid (cF.out.put (by decide) _), kpM c0, kpM c1, kpM c2, kpM c3, kpM c4, kpM c5, kpM c6, kpM c7, St.hid (fun _ => cF.out.at (by omega) _), cO⟩
    case o10 =>
      simp [Rg.deps, Region.binds] at hd
      have q0 := c9.out (by simp only [hd])
      have q1 := c6.out (by simp only [hd])
      obtain ⟨hcr, hgz⟩ := HCR.out _ cO.out
      obtain ⟨⟨u0, cu0⟩, fu0⟩ := hcr 0 (by omega)
      obtain ⟨⟨u1, cu1⟩, fu1⟩ := hcr 1 (by omega)
      obtain ⟨⟨u2, cu2⟩, fu2⟩ := hcr 2 (by omega)
      obtain ⟨⟨u3, cu3⟩, fu3⟩ := hcr 3 (by omega)
      obtain ⟨⟨u4, cu4⟩, fu4⟩ := hcr 4 (by omega)
      obtain ⟨⟨u5, cu5⟩, fu5⟩ := hcr 5 (by omega)
      obtain ⟨⟨u6, cu6⟩, fu6⟩ := hcr 6 (by omega)
      obtain ⟨⟨u7, cu7⟩, fu7⟩ := hcr 7 (by omega)
      rw [Nat.add_zero] at cu0 fu0
      clear hd hcr e11 e12
      go_simp
      refine hK.out _ _ ⟨cF, kqM c0, kqM c1, kqM c2, kqM c3, kqM c4, kqM c5, kqM c6, kqM c7, kqM c9, St.hid ((((((((cO.out.set H5R.out hbr htr _ _).set H5R.out hbr htr _ _).set H5R.out hbr htr _ _).set H5R.out hbr htr _ _).set H5R.out hbr htr _ _).set H5R.out hbr htr _ _).set H5R.out hbr htr _ _).set H5R.out hbr htr _ _)⟩
  case re =>
    intro Lf a1 w1 hI hall
    obtain ⟨cF, c0, c1, c2, c3, c4, c5, c6, c7, c9, cO⟩ := hI
    have e := cF.out.eq (fun d => a1.tmps[d]?.getD undef) (fun _ _ => rfl)
    rw [e]
    exact H.out (fun d => a1.tmps[d]?.getD undef) w1 cO.out
end Go.Proofs.YtckkkdldljhehacGreat.Gm
