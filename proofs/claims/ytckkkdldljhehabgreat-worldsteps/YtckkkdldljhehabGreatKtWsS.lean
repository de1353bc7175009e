/- StepOf of package ninepinsref: the statement that lets two things meet, in whatever order. -/
import Derived.Test.YtckkkdldljhehabGreatKtWsQ
import Derived.Test.YtckkkdldljhehabGreatPkI
namespace Go.Proofs.YtckkkdldljhehabGreat.Ws
open Go.Proofs.YtckkkdldljhehabGreat.Num Go.Proofs.YtckkkdldljhehabGreat.St Go.Proofs.YtckkkdldljhehabGreat.Mp Go.Proofs.YtckkkdldljhehabGreat.Th Go.Proofs.YtckkkdldljhehabGreat.Wd
open Go.ChangeShapes Go.WideShapes Go.ChangeAt Go.RowKit

noncomputable def reg19 : Code := ((Tryz.f19.body.bind (findR 19)).getD .skip)
attribute [local go_sem ↓] Go.wp_at_zero Go.wp_at_succ
set_option maxHeartbeats 16000000 in
set_option maxRecDepth 100000 in
theorem reg19_wp (K : Act → World → Prop) (Q : Exit → Act → World → Prop) (hQ : ∀ a w, K a w → Q .normal a w) (A : Act) (tab tbb : Nat) (ta tb : Th) (ra rb ma mb : R8) (ov : Bool) (wz : World)
    (e14 : A.tmps[14]?.getD undef = .func (.func 55) #[] #[])
    (e12 : A.tmps[12]?.getD undef = .pointer (some ⟨tab, 0, none⟩))
    (e13 : A.tmps[13]?.getD undef = .pointer (some ⟨tbb, 0, none⟩))
    (hsz : 107 < A.tmps.size)
    (hfa : ∀ W, Calls Tryz.prog 55 #[.agg #[.int .i64 ta.m, .int .i64 ta.r.x, .int .i64 ta.r.y, .int .i64 ta.r.px, .int .i64 ta.r.py, .int .i64 ta.r.wd, .int .i64 ta.r.ht, .int .i64 ta.r.ms, .int .i64 ta.r.rr]] W fun e w' => e = .returned (.agg #[.int .i64 ra.x, .int .i64 ra.y, .int .i64 ra.px, .int .i64 ra.py, .int .i64 ra.wd, .int .i64 ra.ht, .int .i64 ra.ms, .int .i64 ra.rr]) ∧ Below W.heap.size W w')
    (hfb : ∀ W, Calls Tryz.prog 55 #[.agg #[.int .i64 tb.m, .int .i64 tb.r.x, .int .i64 tb.r.y, .int .i64 tb.r.px, .int .i64 tb.r.py, .int .i64 tb.r.wd, .int .i64 tb.r.ht, .int .i64 tb.r.ms, .int .i64 tb.r.rr]] W fun e w' => e = .returned (.agg #[.int .i64 rb.x, .int .i64 rb.y, .int .i64 rb.px, .int .i64 rb.py, .int .i64 rb.wd, .int .i64 rb.ht, .int .i64 rb.ms, .int .i64 rb.rr]) ∧ Below W.heap.size W w')
    (hme : ∀ W, Calls Tryz.prog 56 #[.agg #[.int .i64 ra.x, .int .i64 ra.y, .int .i64 ra.px, .int .i64 ra.py, .int .i64 ra.wd, .int .i64 ra.ht, .int .i64 ra.ms, .int .i64 ra.rr], .agg #[.int .i64 rb.x, .int .i64 rb.y, .int .i64 rb.px, .int .i64 rb.py, .int .i64 rb.wd, .int .i64 rb.ht, .int .i64 rb.ms, .int .i64 rb.rr]] W fun e w' => e = .returned (.tuple #[.agg #[.int .i64 ma.x, .int .i64 ma.y, .int .i64 ma.px, .int .i64 ma.py, .int .i64 ma.wd, .int .i64 ma.ht, .int .i64 ma.ms, .int .i64 ma.rr], .agg #[.int .i64 mb.x, .int .i64 mb.y, .int .i64 mb.px, .int .i64 mb.py, .int .i64 mb.wd, .int .i64 mb.ht, .int .i64 mb.ms, .int .i64 mb.rr], .bool ov]) ∧ Below W.heap.size W w')
    (hsk : ∀ W, Below wz.heap.size wz W → W.cell? ⟨tab, 0, none⟩ = some (.int .i64 ta.m) ∧ W.cell? ⟨tab, 1, none⟩ = some (.int .i64 ta.r.x) ∧ W.cell? ⟨tab, 2, none⟩ = some (.int .i64 ta.r.y) ∧ W.cell? ⟨tab, 3, none⟩ = some (.int .i64 ta.r.px) ∧ W.cell? ⟨tab, 4, none⟩ = some (.int .i64 ta.r.py) ∧ W.cell? ⟨tab, 5, none⟩ = some (.int .i64 ta.r.wd) ∧ W.cell? ⟨tab, 6, none⟩ = some (.int .i64 ta.r.ht) ∧ W.cell? ⟨tab, 7, none⟩ = some (.int .i64 ta.r.ms) ∧ W.cell? ⟨tab, 8, none⟩ = some (.int .i64 ta.r.rr) ∧ W.cell? ⟨tbb, 0, none⟩ = some (.int .i64 tb.m) ∧ W.cell? ⟨tbb, 1, none⟩ = some (.int .i64 tb.r.x) ∧ W.cell? ⟨tbb, 2, none⟩ = some (.int .i64 tb.r.y) ∧ W.cell? ⟨tbb, 3, none⟩ = some (.int .i64 tb.r.px) ∧ W.cell? ⟨tbb, 4, none⟩ = some (.int .i64 tb.r.py) ∧ W.cell? ⟨tbb, 5, none⟩ = some (.int .i64 tb.r.wd) ∧ W.cell? ⟨tbb, 6, none⟩ = some (.int .i64 tb.r.ht) ∧ W.cell? ⟨tbb, 7, none⟩ = some (.int .i64 tb.r.ms) ∧ W.cell? ⟨tbb, 8, none⟩ = some (.int .i64 tb.r.rr))
    (h : ∀ (f : Nat → Value) (b c : Nat) (W : World), f 15 = .pointer (some ⟨b, 0, none⟩) → f 16 = .pointer (some ⟨c, 0, none⟩) → f 17 = .bool ov → W.rowIs b 56 8 (fun i => (St.rowCells ma).getD i undef) → W.rowIs c 56 8 (fun i => (St.rowCells mb).getD i undef) → wz.heap.size ≤ b → wz.heap.size ≤ c → b ≠ c → Below wz.heap.size wz W → K (Rh.puts f [15, 16, 17, 97, 98, 99, 100, 101, 102, 103, 104, 105, 106, 107] A) W) :
    Code.wp Tryz.prog reg19 Q A wz := by
  have Hhfa := St.hid hfa
  have Hhfb := St.hid hfb
  have Hhme := St.hid hme
  have HSK := St.hid hsk
  have H := St.hid h
  have HQ := St.hid hQ
  clear hsk h hQ hfa hfb hme
  conv => arg 2; whnf
  refine Rg.wp_region_inv (by kernel_rfl) (fun Lf a1 w1 => Hid (Rh.Fr [15, 16, 17, 97, 98, 99, 100, 101, 102, 103, 104, 105, 106, 107] A a1) ∧ Hid (Lf 0 = true → a1.tmps[98]?.getD undef = .func (.func 55) #[] #[]) ∧ Hid (Lf 1 = true → a1.tmps[99]?.getD undef = .agg #[.int .i64 ta.m, .int .i64 ta.r.x, .int .i64 ta.r.y, .int .i64 ta.r.px, .int .i64 ta.r.py, .int .i64 ta.r.wd, .int .i64 ta.r.ht, .int .i64 ta.r.ms, .int .i64 ta.r.rr]) ∧ Hid (Lf 2 = true → a1.tmps[100]?.getD undef = .agg #[.int .i64 ra.x, .int .i64 ra.y, .int .i64 ra.px, .int .i64 ra.py, .int .i64 ra.wd, .int .i64 ra.ht, .int .i64 ra.ms, .int .i64 ra.rr]) ∧ Hid (Lf 3 = true → a1.tmps[101]?.getD undef = .func (.func 55) #[] #[]) ∧ Hid (Lf 4 = true → a1.tmps[102]?.getD undef = .agg #[.int .i64 tb.m, .int .i64 tb.r.x, .int .i64 tb.r.y, .int .i64 tb.r.px, .int .i64 tb.r.py, .int .i64 tb.r.wd, .int .i64 tb.r.ht, .int .i64 tb.r.ms, .int .i64 tb.r.rr]) ∧ Hid (Lf 5 = true → a1.tmps[103]?.getD undef = .agg #[.int .i64 rb.x, .int .i64 rb.y, .int .i64 rb.px, .int .i64 rb.py, .int .i64 rb.wd, .int .i64 rb.ht, .int .i64 rb.ms, .int .i64 rb.rr]) ∧ Hid (Lf 6 = true → a1.tmps[104]?.getD undef = .tuple #[.agg #[.int .i64 ma.x, .int .i64 ma.y, .int .i64 ma.px, .int .i64 ma.py, .int .i64 ma.wd, .int .i64 ma.ht, .int .i64 ma.ms, .int .i64 ma.rr], .agg #[.int .i64 mb.x, .int .i64 mb.y, .int .i64 mb.px, .int .i64 mb.py, .int .i64 mb.wd, .int .i64 mb.ht, .int .i64 mb.ms, .int .i64 mb.rr], .bool ov]) ∧ Hid (Lf 7 = true → a1.tmps[97]?.getD undef = .tuple #[.agg #[.int .i64 ma.x, .int .i64 ma.y, .int .i64 ma.px, .int .i64 ma.py, .int .i64 ma.wd, .int .i64 ma.ht, .int .i64 ma.ms, .int .i64 ma.rr], .agg #[.int .i64 mb.x, .int .i64 mb.y, .int .i64 mb.px, .int .i64 mb.py, .int .i64 mb.wd, .int .i64 mb.ht, .int .i64 mb.ms, .int .i64 mb.rr], .bool ov]) ∧ Hid (Lf 8 = true → a1.tmps[105]?.getD undef = .agg #[.int .i64 ma.x, .int .i64 ma.y, .int .i64 ma.px, .int .i64 ma.py, .int .i64 ma.wd, .int .i64 ma.ht, .int .i64 ma.ms, .int .i64 ma.rr]) ∧ Hid (Lf 9 = true → a1.tmps[106]?.getD undef = .agg #[.int .i64 mb.x, .int .i64 mb.y, .int .i64 mb.px, .int .i64 mb.py, .int .i64 mb.wd, .int .i64 mb.ht, .int .i64 mb.ms, .int .i64 mb.rr]) ∧ Hid (Lf 10 = true → a1.tmps[107]?.getD undef = .bool ov) ∧ Hid (Lf 15 = true → a1.tmps[17]?.getD undef = .bool ov) ∧ Hid (Below wz.heap.size wz w1) ∧ Hid (Lf 13 = true → Lf 11 = true ∧ Lf 12 = true) ∧ Hid (Lf 14 = true → Lf 12 = true) ∧ Hid (Lf 11 = true → ∃ b f, a1.tmps[15]?.getD undef = .pointer (some ⟨b, 0, none⟩) ∧ wz.heap.size ≤ b ∧ w1.rowIs b 56 8 f ∧ (Lf 13 = true → f = fun i => (St.rowCells ma).getD i undef)) ∧ Hid (Lf 12 = true → ∃ b f, a1.tmps[16]?.getD undef = .pointer (some ⟨b, 0, none⟩) ∧ wz.heap.size ≤ b ∧ w1.rowIs b 56 8 f ∧ (Lf 14 = true → f = fun i => (St.rowCells mb).getD i undef)) ∧ Hid (Lf 11 = true → Lf 12 = true → a1.tmps[15]?.getD undef ≠ a1.tmps[16]?.getD undef)) (by kernel_rfl) ?rs ?rg ?re
  case rs =>
    refine ⟨St.hid (Rh.Fr.refl _ _), St.hid (fun h => by cases h), St.hid (fun h => by cases h), St.hid (fun h => by cases h), St.hid (fun h => by cases h), St.hid (fun h => by cases h), St.hid (fun h => by cases h), St.hid (fun h => by cases h), St.hid (fun h => by cases h), St.hid (fun h => by cases h), St.hid (fun h => by cases h), St.hid (fun h => by cases h), St.hid (fun h => by cases h), St.hid (Below.drew (Below.refl _ _)), St.hid (fun h => by cases h), St.hid (fun h => by cases h), St.hid (fun h => by cases h), St.hid (fun h => by cases h), St.hid (fun h => by cases h)⟩
  case rg =>
    intro Lf a1 w1 hI
    obtain ⟨cF, c0, c1, c2, c3, c4, c5, c6, c7, c8, c9, c10, c15, cB, cR, cS, cA1, cA2, cN⟩ := hI
    refine ⟨fun hl hd K' hK => ?o0, fun hl hd K' hK => ?o1, fun hl hd K' hK => ?o2, fun hl hd K' hK => ?o3, fun hl hd K' hK => ?o4, fun hl hd K' hK => ?o5, fun hl hd K' hK => ?o6, fun hl hd K' hK => ?o7, fun hl hd K' hK => ?o8, fun hl hd K' hK => ?o9, fun hl hd K' hK => ?o10, fun hl hd K' hK => ?o11, fun hl hd K' hK => ?o12, fun hl hd K' hK => ?o13, fun hl hd K' hK => ?o14, fun hl hd K' hK => ?o15, trivial⟩
    case o0 =>
      clear hd
      have q0 := (cF.out.2.2 14 (by decide)).trans e14
      go_simp
      refine hK.out _ _ ⟨St.hid (cF.out.put (by decide) _), St.hid (fun _ => cF.out.at (by omega) _), kp c1, kp c2, kp c3, kp c4, kp c5, kp c6, kp c7, kp c8, kp c9, kp c10, kp c15, cB, St.hid (fun h => ⟨Rg.up_of (cR.out (Rg.up_ne h (by decide))).1, Rg.up_of (cR.out (Rg.up_ne h (by decide))).2⟩), St.hid (fun h => Rg.up_of (cS.out (Rg.up_ne h (by decide)))), St.hid (fun h => by obtain ⟨b, f, e1, e2', e3, e4⟩ := cA1.out (Rg.up_ne h (by decide)); exact ⟨b, f, (Rh.put_ne (by decide)).trans e1, e2', e3, fun h => e4 (Rg.up_ne h (by decide))⟩), St.hid (fun h => by obtain ⟨b, f, e1, e2', e3, e4⟩ := cA2.out (Rg.up_ne h (by decide)); exact ⟨b, f, (Rh.put_ne (by decide)).trans e1, e2', e3, fun h => e4 (Rg.up_ne h (by decide))⟩), St.hid (fun h h' => Rh.ne_put (by decide) (by decide) (cN.out (Rg.up_ne h (by decide)) (Rg.up_ne h' (by decide))))⟩
    case o1 =>
      clear hd
      have q0 := (cF.out.2.2 12 (by decide)).trans e12
      obtain ⟨z0, z1, z2, z3, z4, z5, z6, z7, z8, -⟩ := HSK.out _ cB.out
      go_simp
      refine hK.out _ _ ⟨St.hid (cF.out.put (by decide) _), kp c0, St.hid (fun _ => cF.out.at (by omega) _), kp c2, kp c3, kp c4, kp c5, kp c6, kp c7, kp c8, kp c9, kp c10, kp c15, cB, St.hid (fun h => ⟨Rg.up_of (cR.out (Rg.up_ne h (by decide))).1, Rg.up_of (cR.out (Rg.up_ne h (by decide))).2⟩), St.hid (fun h => Rg.up_of (cS.out (Rg.up_ne h (by decide)))), St.hid (fun h => by obtain ⟨b, f, e1, e2', e3, e4⟩ := cA1.out (Rg.up_ne h (by decide)); exact ⟨b, f, (Rh.put_ne (by decide)).trans e1, e2', e3, fun h => e4 (Rg.up_ne h (by decide))⟩), St.hid (fun h => by obtain ⟨b, f, e1, e2', e3, e4⟩ := cA2.out (Rg.up_ne h (by decide)); exact ⟨b, f, (Rh.put_ne (by decide)).trans e1, e2', e3, fun h => e4 (Rg.up_ne h (by decide))⟩), St.hid (fun h h' => Rh.ne_put (by decide) (by decide) (cN.out (Rg.up_ne h (by decide)) (Rg.up_ne h' (by decide))))⟩
    case o2 =>
      simp [Rg.deps, Region.binds] at hd
      have q0 := c0.out (by simp only [hd])
      have q1 := c1.out (by simp only [hd])
      go_simp
      refine (Hhfa.out _).mono ?_
      rintro e w2 ⟨rfl, hb⟩
      go_simp
      refine hK.out _ _ ⟨St.hid (cF.out.put (by decide) _), kp c0, kp c1, St.hid (fun _ => cF.out.at (by omega) _), kp c3, kp c4, kp c5, kp c6, kp c7, kp c8, kp c9, kp c10, kp c15, St.hid (bcall cB.out hb), St.hid (fun h => ⟨Rg.up_of (cR.out (Rg.up_ne h (by decide))).1, Rg.up_of (cR.out (Rg.up_ne h (by decide))).2⟩), St.hid (fun h => Rg.up_of (cS.out (Rg.up_ne h (by decide)))), St.hid (fun h => by obtain ⟨b, f, e1, e2', e3, e4⟩ := cA1.out (Rg.up_ne h (by decide)); exact ⟨b, f, (Rh.put_ne (by decide)).trans e1, e2', rowIs_below e3 hb, fun h => e4 (Rg.up_ne h (by decide))⟩), St.hid (fun h => by obtain ⟨b, f, e1, e2', e3, e4⟩ := cA2.out (Rg.up_ne h (by decide)); exact ⟨b, f, (Rh.put_ne (by decide)).trans e1, e2', rowIs_below e3 hb, fun h => e4 (Rg.up_ne h (by decide))⟩), St.hid (fun h h' => Rh.ne_put (by decide) (by decide) (cN.out (Rg.up_ne h (by decide)) (Rg.up_ne h' (by decide))))⟩
    case o3 =>
      clear hd
      have q0 := (cF.out.2.2 14 (by decide)).trans e14
      go_simp
      refine hK.out _ _ ⟨St.hid (cF.out.put (by decide) _), kp c0, kp c1, kp c2, St.hid (fun _ => cF.out.at (by omega) _), kp c4, kp c5, kp c6, kp c7, kp c8, kp c9, kp c10, kp c15, cB, St.hid (fun h => ⟨Rg.up_of (cR.out (Rg.up_ne h (by decide))).1, Rg.up_of (cR.out (Rg.up_ne h (by decide))).2⟩), St.hid (fun h => Rg.up_of (cS.out (Rg.up_ne h (by decide)))), St.hid (fun h => by obtain ⟨b, f, e1, e2', e3, e4⟩ := cA1.out (Rg.up_ne h (by decide)); exact ⟨b, f, (Rh.put_ne (by decide)).trans e1, e2', e3, fun h => e4 (Rg.up_ne h (by decide))⟩), St.hid (fun h => by obtain ⟨b, f, e1, e2', e3, e4⟩ := cA2.out (Rg.up_ne h (by decide)); exact ⟨b, f, (Rh.put_ne (by decide)).trans e1, e2', e3, fun h => e4 (Rg.up_ne h (by decide))⟩), St.hid (fun h h' => Rh.ne_put (by decide) (by decide) (cN.out (Rg.up_ne h (by decide)) (Rg.up_ne h' (by decide))))⟩
    case o4 =>
      clear hd
      have q0 := (cF.out.2.2 13 (by decide)).trans e13
      obtain ⟨-, -, -, -, -, -, -, -, -, y0, y1, y2, y3, y4, y5, y6, y7, y8⟩ := HSK.out _ cB.out
      go_simp
      refine hK.out _ _ ⟨St.hid (cF.out.put (by decide) _), kp c0, kp c1, kp c2, kp c3, St.hid (fun _ => cF.out.at (by omega) _), kp c5, kp c6, kp c7, kp c8, kp c9, kp c10, kp c15, cB, St.hid (fun h => ⟨Rg.up_of (cR.out (Rg.up_ne h (by decide))).1, Rg.up_of (cR.out (Rg.up_ne h (by decide))).2⟩), St.hid (fun h => Rg.up_of (cS.out (Rg.up_ne h (by decide)))), St.hid (fun h => by obtain ⟨b, f, e1, e2', e3, e4⟩ := cA1.out (Rg.up_ne h (by decide)); exact ⟨b, f, (Rh.put_ne (by decide)).trans e1, e2', e3, fun h => e4 (Rg.up_ne h (by decide))⟩), St.hid (fun h => by obtain ⟨b, f, e1, e2', e3, e4⟩ := cA2.out (Rg.up_ne h (by decide)); exact ⟨b, f, (Rh.put_ne (by decide)).trans e1, e2', e3, fun h => e4 (Rg.up_ne h (by decide))⟩), St.hid (fun h h' => Rh.ne_put (by decide) (by decide) (cN.out (Rg.up_ne h (by decide)) (Rg.up_ne h' (by decide))))⟩
    case o5 =>
      simp [Rg.deps, Region.binds] at hd
      have q0 := c3.out (by simp only [hd])
      have q1 := c4.out (by simp only [hd])
      go_simp
      refine (Hhfb.out _).mono ?_
      rintro e w2 ⟨rfl, hb⟩
      go_simp
      refine hK.out _ _ ⟨St.hid (cF.out.put (by decide) _), kp c0, kp c1, kp c2, kp c3, kp c4, St.hid (fun _ => cF.out.at (by omega) _), kp c6, kp c7, kp c8, kp c9, kp c10, kp c15, St.hid (bcall cB.out hb), St.hid (fun h => ⟨Rg.up_of (cR.out (Rg.up_ne h (by decide))).1, Rg.up_of (cR.out (Rg.up_ne h (by decide))).2⟩), St.hid (fun h => Rg.up_of (cS.out (Rg.up_ne h (by decide)))), St.hid (fun h => by obtain ⟨b, f, e1, e2', e3, e4⟩ := cA1.out (Rg.up_ne h (by decide)); exact ⟨b, f, (Rh.put_ne (by decide)).trans e1, e2', rowIs_below e3 hb, fun h => e4 (Rg.up_ne h (by decide))⟩), St.hid (fun h => by obtain ⟨b, f, e1, e2', e3, e4⟩ := cA2.out (Rg.up_ne h (by decide)); exact ⟨b, f, (Rh.put_ne (by decide)).trans e1, e2', rowIs_below e3 hb, fun h => e4 (Rg.up_ne h (by decide))⟩), St.hid (fun h h' => Rh.ne_put (by decide) (by decide) (cN.out (Rg.up_ne h (by decide)) (Rg.up_ne h' (by decide))))⟩
    case o6 =>
      simp [Rg.deps, Region.binds] at hd
      have q0 := c2.out (by simp only [hd])
      have q1 := c5.out (by simp only [hd])
      go_simp
      refine (Hhme.out _).mono ?_
      rintro e w2 ⟨rfl, hb⟩
      go_simp
      refine hK.out _ _ ⟨St.hid (cF.out.put (by decide) _), kp c0, kp c1, kp c2, kp c3, kp c4, kp c5, St.hid (fun _ => cF.out.at (by omega) _), kp c7, kp c8, kp c9, kp c10, kp c15, St.hid (bcall cB.out hb), St.hid (fun h => ⟨Rg.up_of (cR.out (Rg.up_ne h (by decide))).1, Rg.up_of (cR.out (Rg.up_ne h (by decide))).2⟩), St.hid (fun h => Rg.up_of (cS.out (Rg.up_ne h (by decide)))), St.hid (fun h => by obtain ⟨b, f, e1, e2', e3, e4⟩ := cA1.out (Rg.up_ne h (by decide)); exact ⟨b, f, (Rh.put_ne (by decide)).trans e1, e2', rowIs_below e3 hb, fun h => e4 (Rg.up_ne h (by decide))⟩), St.hid (fun h => by obtain ⟨b, f, e1, e2', e3, e4⟩ := cA2.out (Rg.up_ne h (by decide)); exact ⟨b, f, (Rh.put_ne (by decide)).trans e1, e2', rowIs_below e3 hb, fun h => e4 (Rg.up_ne h (by decide))⟩), St.hid (fun h h' => Rh.ne_put (by decide) (by decide) (cN.out (Rg.up_ne h (by decide)) (Rg.up_ne h' (by decide))))⟩
    case o7 =>
      simp [Rg.deps, Region.binds] at hd
      have q0 := c6.out (by simp only [hd])
      go_simp
      refine hK.out _ _ ⟨St.hid (cF.out.put (by decide) _), kp c0, kp c1, kp c2, kp c3, kp c4, kp c5, kp c6, St.hid (fun _ => cF.out.at (by omega) _), kp c8, kp c9, kp c10, kp c15, cB, St.hid (fun h => ⟨Rg.up_of (cR.out (Rg.up_ne h (by decide))).1, Rg.up_of (cR.out (Rg.up_ne h (by decide))).2⟩), St.hid (fun h => Rg.up_of (cS.out (Rg.up_ne h (by decide)))), St.hid (fun h => by obtain ⟨b, f, e1, e2', e3, e4⟩ := cA1.out (Rg.up_ne h (by decide)); exact ⟨b, f, (Rh.put_ne (by decide)).trans e1, e2', e3, fun h => e4 (Rg.up_ne h (by decide))⟩), St.hid (fun h => by obtain ⟨b, f, e1, e2', e3, e4⟩ := cA2.out (Rg.up_ne h (by decide)); exact ⟨b, f, (Rh.put_ne (by decide)).trans e1, e2', e3, fun h => e4 (Rg.up_ne h (by decide))⟩), St.hid (fun h h' => Rh.ne_put (by decide) (by decide) (cN.out (Rg.up_ne h (by decide)) (Rg.up_ne h' (by decide))))⟩
    case o8 =>
      simp [Rg.deps, Region.binds] at hd
      have q0 := c7.out (by simp only [hd])
      go_simp
      refine hK.out _ _ ⟨St.hid (cF.out.put (by decide) _), kp c0, kp c1, kp c2, kp c3, kp c4, kp c5, kp c6, kp c7, St.hid (fun _ => cF.out.at (by omega) _), kp c9, kp c10, kp c15, cB, St.hid (fun h => ⟨Rg.up_of (cR.out (Rg.up_ne h (by decide))).1, Rg.up_of (cR.out (Rg.up_ne h (by decide))).2⟩), St.hid (fun h => Rg.up_of (cS.out (Rg.up_ne h (by decide)))), St.hid (fun h => by obtain ⟨b, f, e1, e2', e3, e4⟩ := cA1.out (Rg.up_ne h (by decide)); exact ⟨b, f, (Rh.put_ne (by decide)).trans e1, e2', e3, fun h => e4 (Rg.up_ne h (by decide))⟩), St.hid (fun h => by obtain ⟨b, f, e1, e2', e3, e4⟩ := cA2.out (Rg.up_ne h (by decide)); exact ⟨b, f, (Rh.put_ne (by decide)).trans e1, e2', e3, fun h => e4 (Rg.up_ne h (by decide))⟩), St.hid (fun h h' => Rh.ne_put (by decide) (by decide) (cN.out (Rg.up_ne h (by decide)) (Rg.up_ne h' (by decide))))⟩
    case o9 =>
      simp [Rg.deps, Region.binds] at hd
      have q0 := c7.out (by simp only [hd])
      go_simp
      refine hK.out _ _ ⟨St.hid (cF.out.put (by decide) _), kp c0, kp c1, kp c2, kp c3, kp c4, kp c5, kp c6, kp c7, kp c8, St.hid (fun _ => cF.out.at (by omega) _), kp c10, kp c15, cB, St.hid (fun h => ⟨Rg.up_of (cR.out (Rg.up_ne h (by decide))).1, Rg.up_of (cR.out (Rg.up_ne h (by decide))).2⟩), St.hid (fun h => Rg.up_of (cS.out (Rg.up_ne h (by decide)))), St.hid (fun h => by obtain ⟨b, f, e1, e2', e3, e4⟩ := cA1.out (Rg.up_ne h (by decide)); exact ⟨b, f, (Rh.put_ne (by decide)).trans e1, e2', e3, fun h => e4 (Rg.up_ne h (by decide))⟩), St.hid (fun h => by obtain ⟨b, f, e1, e2', e3, e4⟩ := cA2.out (Rg.up_ne h (by decide)); exact ⟨b, f, (Rh.put_ne (by decide)).trans e1, e2', e3, fun h => e4 (Rg.up_ne h (by decide))⟩), St.hid (fun h h' => Rh.ne_put (by decide) (by decide) (cN.out (Rg.up_ne h (by decide)) (Rg.up_ne h' (by decide))))⟩
    case o10 =>
      simp [Rg.deps, Region.binds] at hd
      have q0 := c7.out (by simp only [hd])
      go_simp
      refine hK.out _ _ ⟨St.hid (cF.out.put (by decide) _), kp c0, kp c1, kp c2, kp c3, kp c4, kp c5, kp c6, kp c7, kp c8, kp c9, St.hid (fun _ => cF.out.at (by omega) _), kp c15, cB, St.hid (fun h => ⟨Rg.up_of (cR.out (Rg.up_ne h (by decide))).1, Rg.up_of (cR.out (Rg.up_ne h (by decide))).2⟩), St.hid (fun h => Rg.up_of (cS.out (Rg.up_ne h (by decide)))), St.hid (fun h => by obtain ⟨b, f, e1, e2', e3, e4⟩ := cA1.out (Rg.up_ne h (by decide)); exact ⟨b, f, (Rh.put_ne (by decide)).trans e1, e2', e3, fun h => e4 (Rg.up_ne h (by decide))⟩), St.hid (fun h => by obtain ⟨b, f, e1, e2', e3, e4⟩ := cA2.out (Rg.up_ne h (by decide)); exact ⟨b, f, (Rh.put_ne (by decide)).trans e1, e2', e3, fun h => e4 (Rg.up_ne h (by decide))⟩), St.hid (fun h h' => Rh.ne_put (by decide) (by decide) (cN.out (Rg.up_ne h (by decide)) (Rg.up_ne h' (by decide))))⟩
    case o11 =>
      clear hd
      go_simp
      refine hK.out _ _ ⟨St.hid (cF.out.put (by decide) _), kp c0, kp c1, kp c2, kp c3, kp c4, kp c5, kp c6, kp c7, kp c8, kp c9, kp c10, kp c15, St.hid (bal cB.out _), St.hid (fun h => ⟨Rg.up_of (cR.out (Rg.up_ne h (by decide))).1, Rg.up_of (cR.out (Rg.up_ne h (by decide))).2⟩), St.hid (fun h => Rg.up_of (cS.out (Rg.up_ne h (by decide)))), St.hid (fun _ => ⟨w1.heap.size, zf, cF.out.at (by omega) _, cB.out.size, zrow w1 _ rfl, fun h => by have h := Rg.up_ne h (by decide); have := (cR.out h).1; rw [this] at hl; cases hl⟩), St.hid (fun h => by obtain ⟨b, f, e1, e2', e3, e4⟩ := cA2.out (Rg.up_ne h (by decide)); exact ⟨b, f, (Rh.put_ne (by decide)).trans e1, e2', rowIs_below e3 (bal (Below.refl _ _) _), fun h => e4 (Rg.up_ne h (by decide))⟩), St.hid (fun _ h => by obtain ⟨b, f, e1, e2', e3, e4⟩ := cA2.out (Rg.up_ne h (by decide)); exact Rh.ne_new (by rw [cF.out.1]; omega) (by decide) (fun e => by rw [e1] at e; have hlt := e3.lt; simp at e <;> omega))⟩
    case o12 =>
      clear hd
      go_simp
      refine hK.out _ _ ⟨St.hid (cF.out.put (by decide) _), kp c0, kp c1, kp c2, kp c3, kp c4, kp c5, kp c6, kp c7, kp c8, kp c9, kp c10, kp c15, St.hid (bal cB.out _), St.hid (fun h => ⟨Rg.up_of (cR.out (Rg.up_ne h (by decide))).1, Rg.up_of (cR.out (Rg.up_ne h (by decide))).2⟩), St.hid (fun h => Rg.up_of (cS.out (Rg.up_ne h (by decide)))), St.hid (fun h => by obtain ⟨b, f, e1, e2', e3, e4⟩ := cA1.out (Rg.up_ne h (by decide)); exact ⟨b, f, (Rh.put_ne (by decide)).trans e1, e2', rowIs_below e3 (bal (Below.refl _ _) _), fun h => e4 (Rg.up_ne h (by decide))⟩), St.hid (fun _ => ⟨w1.heap.size, zf, cF.out.at (by omega) _, cB.out.size, zrow w1 _ rfl, fun h => by have h := Rg.up_ne h (by decide); have := cS.out h; rw [this] at hl; cases hl⟩), St.hid (fun h _ => by obtain ⟨b, f, e1, e2', e3, e4⟩ := cA1.out (Rg.up_ne h (by decide)); exact Ne.symm (Rh.ne_new (by rw [cF.out.1]; omega) (by decide) (fun e => by rw [e1] at e; have hlt := e3.lt; simp at e <;> omega)))⟩
    case o13 =>
      simp [Rg.deps, Region.binds] at hd
      have h13 : Lf 11 = true := by simp only [hd]
      have h14 : Lf 12 = true := by simp only [hd]
      have hv : Lf 8 = true := by simp only [hd]
      have q1 := c8.out hv
      obtain ⟨b3, f3, g3, l3, r3, p3⟩ := cA1.out h13
      obtain ⟨b4, f4, g4, l4, r4, p4⟩ := cA2.out h14
      have hne : b3 ≠ b4 := fun e => cN.out h13 h14 (by rw [g3, g4, e])
      have x0 := r3.cell (i := 0) (by omega)
      have x1 := r3.cell (i := 1) (by omega)
      have x2 := r3.cell (i := 2) (by omega)
      have x3 := r3.cell (i := 3) (by omega)
      have x4 := r3.cell (i := 4) (by omega)
      have x5 := r3.cell (i := 5) (by omega)
      have x6 := r3.cell (i := 6) (by omega)
      have x7 := r3.cell (i := 7) (by omega)
      have k0 := r3.frozen 0
      have k1 := r3.frozen 1
      have k2 := r3.frozen 2
      have k3 := r3.frozen 3
      have k4 := r3.frozen 4
      have k5 := r3.frozen 5
      have k6 := r3.frozen 6
      have k7 := r3.frozen 7
      have R3 := St.hid r3
      have R4 := St.hid r4
      have P3 := St.hid p3
      have P4 := St.hid p4
      have L3 := St.hid l3
      have L4 := St.hid l4
      have HNE := St.hid hne
      have G4 := St.hid g4
      have H13 := St.hid h13
      have H14 := St.hid h14
      clear r3 r4 p3 p4 l3 l4 hne g4 hd hv h13 h14 e14 e12 e13
      go_simp
      have r3 := R3.out
      have r4 := R4.out
      have p3 := P3.out
      have p4 := P4.out
      have l3 := L3.out
      have l4 := L4.out
      have hne := HNE.out
      have g4 := G4.out
      have h13 := H13.out
      have h14 := H14.out
      refine hK.out _ _ ⟨cF, kq c0, kq c1, kq c2, kq c3, kq c4, kq c5, kq c6, kq c7, kq c8, kq c9, kq c10, kq c15, St.hid (below8 cB.out l3), St.hid (fun _ => ⟨Rg.up_of h13, Rg.up_of h14⟩), St.hid (fun h => Rg.up_of (cS.out (Rg.up_ne h (by decide)))), St.hid (fun _ => ⟨b3, _, g3, l3, row8 r3 _, fun _ => rfl⟩), St.hid (fun _ => ⟨b4, f4, g4, l4, other8 r4 (by omega), fun h => p4 (Rg.up_ne h (by decide))⟩), St.hid (fun h h' => cN.out (Rg.up_ne h (by decide)) (Rg.up_ne h' (by decide)))⟩
    case o14 =>
      simp [Rg.deps, Region.binds] at hd
      have h13 : Lf 11 = true := by simp only [hd]
      have h14 : Lf 12 = true := by simp only [hd]
      have hv : Lf 9 = true := by simp only [hd]
      have q1 := c9.out hv
      obtain ⟨b3, f3, g3, l3, r3, p3⟩ := cA1.out h13
      obtain ⟨b4, f4, g4, l4, r4, p4⟩ := cA2.out h14
      have hne : b3 ≠ b4 := fun e => cN.out h13 h14 (by rw [g3, g4, e])
      have x0 := r4.cell (i := 0) (by omega)
      have x1 := r4.cell (i := 1) (by omega)
      have x2 := r4.cell (i := 2) (by omega)
      have x3 := r4.cell (i := 3) (by omega)
      have x4 := r4.cell (i := 4) (by omega)
      have x5 := r4.cell (i := 5) (by omega)
      have x6 := r4.cell (i := 6) (by omega)
      have x7 := r4.cell (i := 7) (by omega)
      have k0 := r4.frozen 0
      have k1 := r4.frozen 1
      have k2 := r4.frozen 2
      have k3 := r4.frozen 3
      have k4 := r4.frozen 4
      have k5 := r4.frozen 5
      have k6 := r4.frozen 6
      have k7 := r4.frozen 7
      have R3 := St.hid r3
      have R4 := St.hid r4
      have P3 := St.hid p3
      have P4 := St.hid p4
      have L3 := St.hid l3
      have L4 := St.hid l4
      have HNE := St.hid hne
      have G3 := St.hid g3
      have H13 := St.hid h13
      have H14 := St.hid h14
      clear r3 r4 p3 p4 l3 l4 hne g3 hd hv h13 h14 e14 e12 e13
      go_simp
      have r3 := R3.out
      have r4 := R4.out
      have p3 := P3.out
      have p4 := P4.out
      have l3 := L3.out
      have l4 := L4.out
      have hne := HNE.out
      have g3 := G3.out
      have h13 := H13.out
      have h14 := H14.out
      refine hK.out _ _ ⟨cF, kq c0, kq c1, kq c2, kq c3, kq c4, kq c5, kq c6, kq c7, kq c8, kq c9, kq c10, kq c15, St.hid (below8 cB.out l4), St.hid (fun h => ⟨Rg.up_of (cR.out (Rg.up_ne h (by decide))).1, Rg.up_of (cR.out (Rg.up_ne h (by decide))).2⟩), St.hid (fun _ => Rg.up_of h14), St.hid (fun _ => ⟨b3, f3, g3, l3, other8 r3 (by omega), fun h => p3 (Rg.up_ne h (by decide))⟩), St.hid (fun _ => ⟨b4, _, g4, l4, row8 r4 _, fun _ => rfl⟩), St.hid (fun h h' => cN.out (Rg.up_ne h (by decide)) (Rg.up_ne h' (by decide)))⟩
    case o15 =>
      simp [Rg.deps, Region.binds] at hd
      have q0 := c10.out (by simp only [hd])
      go_simp
      refine hK.out _ _ ⟨St.hid (cF.out.put (by decide) _), kp c0, kp c1, kp c2, kp c3, kp c4, kp c5, kp c6, kp c7, kp c8, kp c9, kp c10, St.hid (fun _ => cF.out.at (by omega) _), cB, St.hid (fun h => ⟨Rg.up_of (cR.out (Rg.up_ne h (by decide))).1, Rg.up_of (cR.out (Rg.up_ne h (by decide))).2⟩), St.hid (fun h => Rg.up_of (cS.out (Rg.up_ne h (by decide)))), St.hid (fun h => by obtain ⟨b, f, e1, e2', e3, e4⟩ := cA1.out (Rg.up_ne h (by decide)); exact ⟨b, f, (Rh.put_ne (by decide)).trans e1, e2', e3, fun h => e4 (Rg.up_ne h (by decide))⟩), St.hid (fun h => by obtain ⟨b, f, e1, e2', e3, e4⟩ := cA2.out (Rg.up_ne h (by decide)); exact ⟨b, f, (Rh.put_ne (by decide)).trans e1, e2', e3, fun h => e4 (Rg.up_ne h (by decide))⟩), St.hid (fun h h' => Rh.ne_put (by decide) (by decide) (cN.out (Rg.up_ne h (by decide)) (Rg.up_ne h' (by decide))))⟩
  case re =>
    intro Lf a1 w1 hI hall
    obtain ⟨cF, c0, c1, c2, c3, c4, c5, c6, c7, c8, c9, c10, c15, cB, cR, cS, cA1, cA2, cN⟩ := hI
    obtain ⟨b3, f3, g3, l3, r3, p3⟩ := cA1.out (hall 11 (by decide))
    obtain ⟨b4, f4, g4, l4, r4, p4⟩ := cA2.out (hall 12 (by decide))
    have hne : b3 ≠ b4 := fun e => cN.out (hall 11 (by decide)) (hall 12 (by decide)) (by rw [g3, g4, e])
    obtain rfl := p3 (hall 13 (by decide))
    obtain rfl := p4 (hall 14 (by decide))
    have e := cF.out.eq (fun d => a1.tmps[d]?.getD undef) (fun _ _ => rfl)
    refine HQ.out _ _ ?_
    rw [e]
    exact H.out (fun d => a1.tmps[d]?.getD undef) b3 b4 w1 g3 g4 (c15.out (hall 15 (by decide))) r3 r4 l3 l4 hne cB.out
end Go.Proofs.YtckkkdldljhehabGreat.Ws
