/- What WorldOf and SameWorld of package ninepinsref answer when called over worlds in memory; nothing that was in memory before has changed. -/
import Derived.Test.YtckkkdldljhehabGreatKtWsA
import Derived.Test.YtckkkdldljhehabGreatKtWsV
import Derived.Test.YtckkkdldljhehabGreatKtRh
import Derived.Test.YtckkkdldljhehabGreatKtWsQ
import Derived.Test.YtckkkdldljhehabGreatPkM
namespace Go.Proofs.YtckkkdldljhehabGreat.Ws
open Go.Proofs.YtckkkdldljhehabGreat.Num Go.Proofs.YtckkkdldljhehabGreat.St Go.Proofs.YtckkkdldljhehabGreat.Mp Go.Proofs.YtckkkdldljhehabGreat.Th Go.Proofs.YtckkkdldljhehabGreat.Wd
open Go.ChangeShapes Go.WideShapes Go.ChangeAt Go.RowKit

theorem gd_some {o : Option Value} {b : Bool} (h : o.getD undef = .bool b) : o = some (.bool b) := by
  cases o with
  | none => exact absurd h (by simp [undef])
  | some x => exact congrArg some h
noncomputable def wreg2 : Code := ((Tryz.f12.body.bind (findR 2)).getD .skip)
attribute [local go_sem ↓] Go.wp_at_zero Go.wp_at_succ
set_option maxHeartbeats 16000000 in
set_option maxRecDepth 100000 in
theorem wreg_a (K : Act → World → Prop) (Q : Exit → Act → World → Prop) (hQ : ∀ a w, K a w → Q .normal a w) (A : Act) (wb rb : Nat) (mv : Option Nat) (next fall wide high : Int) (wz : World) (fr : Nat → Value)
    (e1 : A.tmps[1]?.getD undef = .pointer (some ⟨wb, 0, none⟩)) (e2 : A.tmps[2]?.getD undef = .pointer (some ⟨rb, 0, none⟩)) (e4 : A.tmps[4]?.getD undef = .map mv) (e5 : A.tmps[5]?.getD undef = .bool false) (hsz : 38 < A.tmps.size) 
    (hsk : ∀ W, wz.grownBy W (some rb) → W.cell? ⟨wb, 1, none⟩ = some (.int .i64 next) ∧ W.cell? ⟨wb, 2, none⟩ = some (.int .i64 fall) ∧ W.cell? ⟨wb, 3, none⟩ = some (.int .i64 wide) ∧ W.cell? ⟨wb, 4, none⟩ = some (.int .i64 high))
    (hrb : wz.rowIs rb 31 5 fr)
    (h : ∀ (f : Nat → Value) (W : World), f 3 = .bool false → wz.grownBy W (some rb) → W.rowIs rb 31 5 (wcell (.map mv) next fall wide high) → K (Rh.puts f [3, 12, 13, 14, 15, 16, 17, 18, 19, 20, 21, 22, 23, 24, 25, 26, 27, 28, 29, 30, 31, 32, 33, 34, 35, 36, 37, 38] A) W) :
    Code.wp Tryz.prog wreg2 Q A wz := by
  have HSK := St.hid hsk
  have HRB := St.hid hrb
  have H := St.hid h
  have HQ := St.hid hQ
  clear hsk h hQ hrb
  conv => arg 2; whnf
  refine Rg.wp_region_inv (by kernel_rfl) (fun Lf a1 w1 => Hid (Rh.Fr [3, 12, 13, 14, 15, 16, 17, 18, 19, 20, 21, 22, 23, 24, 25, 26, 27, 28, 29, 30, 31, 32, 33, 34, 35, 36, 37, 38] A a1) ∧ Hid (Lf 0 = true → a1.tmps[12]?.getD undef = .map mv) ∧ Hid (Lf 1 = true → a1.tmps[13]?.getD undef = .pointer (some ⟨wb, 0, none⟩)) ∧ Hid (Lf 2 = true → a1.tmps[14]?.getD undef = .pointer (some ⟨wb, 1, none⟩)) ∧ Hid (Lf 3 = true → a1.tmps[15]?.getD undef = .int .i64 next) ∧ Hid (Lf 4 = true → a1.tmps[16]?.getD undef = .pointer (some ⟨wb, 2, none⟩)) ∧ Hid (Lf 5 = true → a1.tmps[17]?.getD undef = .int .i64 fall) ∧ Hid (Lf 6 = true → a1.tmps[18]?.getD undef = .pointer (some ⟨wb, 3, none⟩)) ∧ Hid (Lf 7 = true → a1.tmps[19]?.getD undef = .int .i64 wide) ∧ Hid (Lf 8 = true → a1.tmps[20]?.getD undef = .pointer (some ⟨wb, 4, none⟩)) ∧ Hid (Lf 9 = true → a1.tmps[21]?.getD undef = .int .i64 high) ∧ Hid (Lf 10 = true → a1.tmps[22]?.getD undef = .agg #[.map mv, .int .i64 next, .int .i64 fall, .int .i64 wide, .int .i64 high]) ∧ Hid (Lf 11 = true → a1.tmps[23]?.getD undef = .bool false) ∧ Hid (Lf 12 = true → a1.tmps[24]?.getD undef = .bool false) ∧ Hid (Lf 13 = true → a1.tmps[25]?.getD undef = undef) ∧ Hid (Lf 14 = true → a1.tmps[26]?.getD undef = undef) ∧ Hid (Lf 15 = true → a1.tmps[27]?.getD undef = undef) ∧ Hid (Lf 16 = true → a1.tmps[28]?.getD undef = .bool false) ∧ Hid (Lf 17 = true → a1.tmps[29]?.getD undef = .bool false) ∧ Hid (Lf 18 = true → a1.tmps[30]?.getD undef = undef) ∧ Hid (Lf 19 = true → a1.tmps[31]?.getD undef = undef) ∧ Hid (Lf 20 = true → a1.tmps[32]?.getD undef = undef) ∧ Hid (Lf 21 = true → a1.tmps[33]?.getD undef = .bool false) ∧ Hid (Lf 22 = true → a1.tmps[34]?.getD undef = .bool false) ∧ Hid (Lf 23 = true → a1.tmps[35]?.getD undef = undef) ∧ Hid (Lf 24 = true → a1.tmps[36]?.getD undef = undef) ∧ Hid (Lf 25 = true → a1.tmps[37]?.getD undef = undef) ∧ Hid (Lf 26 = true → a1.tmps[38]?.getD undef = .bool false) ∧ Hid (Lf 28 = true → a1.tmps[3]?.getD undef = .bool false) ∧ Hid (wz.grownBy w1 (some rb)) ∧ Hid (∃ f, w1.rowIs rb 31 5 f ∧ (Lf 27 = true → f = wcell (.map mv) next fall wide high))) (by kernel_rfl) ?rs ?rg ?re
  case rs =>
    refine ⟨St.hid (Rh.Fr.refl _ _), St.hid (fun h => by cases h), St.hid (fun h => by cases h), St.hid (fun h => by cases h), St.hid (fun h => by cases h), St.hid (fun h => by cases h), St.hid (fun h => by cases h), St.hid (fun h => by cases h), St.hid (fun h => by cases h), St.hid (fun h => by cases h), St.hid (fun h => by cases h), St.hid (fun h => by cases h), St.hid (fun h => by cases h), St.hid (fun h => by cases h), St.hid (fun h => by cases h), St.hid (fun h => by cases h), St.hid (fun h => by cases h), St.hid (fun h => by cases h), St.hid (fun h => by cases h), St.hid (fun h => by cases h), St.hid (fun h => by cases h), St.hid (fun h => by cases h), St.hid (fun h => by cases h), St.hid (fun h => by cases h), St.hid (fun h => by cases h), St.hid (fun h => by cases h), St.hid (fun h => by cases h), St.hid (fun h => by cases h), St.hid (fun h => by cases h), St.hid (grown_drew (grown_refl _ _)), St.hid ⟨fr, HRB.out.of_block rfl, fun h => by cases h⟩⟩
  case rg =>
    intro Lf a1 w1 hI
    obtain ⟨cF, c0, c1, c2, c3, c4, c5, c6, c7, c8, c9, c10, c11, c12, c13, c14, c15, c16, c17, c18, c19, c20, c21, c22, c23, c24, c25, c26, c28, cB, cE⟩ := hI
    refine ⟨fun hl hd K' hK => ?o0, fun hl hd K' hK => ?o1, fun hl hd K' hK => ?o2, fun hl hd K' hK => ?o3, fun hl hd K' hK => ?o4, fun hl hd K' hK => ?o5, fun hl hd K' hK => ?o6, fun hl hd K' hK => ?o7, fun hl hd K' hK => ?o8, fun hl hd K' hK => ?o9, fun hl hd K' hK => ?o10, fun hl hd K' hK => ?o11, fun hl hd K' hK => ?o12, fun hl hd K' hK => ?o13, fun hl hd K' hK => ?o14, fun hl hd K' hK => ?o15, fun hl hd K' hK => ?o16, fun hl hd K' hK => ?o17, fun hl hd K' hK => ?o18, fun hl hd K' hK => ?o19, fun hl hd K' hK => ?o20, fun hl hd K' hK => ?o21, fun hl hd K' hK => ?o22, fun hl hd K' hK => ?o23, fun hl hd K' hK => ?o24, fun hl hd K' hK => ?o25, fun hl hd K' hK => ?o26, fun hl hd K' hK => ?o27, fun hl hd K' hK => ?o28, trivial⟩
    case o0 =>
      clear hd
      have q9 := (cF.out.2.2 4 (by decide)).trans e4
      go_simp
      refine hK.out _ _ ⟨St.hid (cF.out.put (by decide) _), St.hid (fun _ => cF.out.at (by omega) _), kp c1, kp c2, kp c3, kp c4, kp c5, kp c6, kp c7, kp c8, kp c9, kp c10, kp c11, kp c12, kp c13, kp c14, kp c15, kp c16, kp c17, kp c18, kp c19, kp c20, kp c21, kp c22, kp c23, kp c24, kp c25, kp c26, kp c28, cB, St.hid (by obtain ⟨f9, h9, h8⟩ := cE.out; exact ⟨f9, h9, fun h => h8 (Rg.up_ne h (by decide))⟩)⟩
    case o1 =>
      clear hd
      have q9 := (cF.out.2.2 1 (by decide)).trans e1
      go_simp
      refine hK.out _ _ ⟨St.hid (cF.out.put (by decide) _), kp c0, St.hid (fun _ => cF.out.at (by omega) _), kp c2, kp c3, kp c4, kp c5, kp c6, kp c7, kp c8, kp c9, kp c10, kp c11, kp c12, kp c13, kp c14, kp c15, kp c16, kp c17, kp c18, kp c19, kp c20, kp c21, kp c22, kp c23, kp c24, kp c25, kp c26, kp c28, cB, St.hid (by obtain ⟨f9, h9, h8⟩ := cE.out; exact ⟨f9, h9, fun h => h8 (Rg.up_ne h (by decide))⟩)⟩
    case o2 =>
      simp [Rg.deps, Region.binds] at hd
      have q0 := c1.out (by simp only [hd])
      go_simp
      refine hK.out _ _ ⟨St.hid (cF.out.put (by decide) _), kp c0, kp c1, St.hid (fun _ => cF.out.at (by omega) _), kp c3, kp c4, kp c5, kp c6, kp c7, kp c8, kp c9, kp c10, kp c11, kp c12, kp c13, kp c14, kp c15, kp c16, kp c17, kp c18, kp c19, kp c20, kp c21, kp c22, kp c23, kp c24, kp c25, kp c26, kp c28, cB, St.hid (by obtain ⟨f9, h9, h8⟩ := cE.out; exact ⟨f9, h9, fun h => h8 (Rg.up_ne h (by decide))⟩)⟩
    case o3 =>
      simp [Rg.deps, Region.binds] at hd
      have q0 := c2.out (by simp only [hd])
      obtain ⟨x1, -⟩ := HSK.out _ cB.out
      go_simp
      refine hK.out _ _ ⟨St.hid (cF.out.put (by decide) _), kp c0, kp c1, kp c2, St.hid (fun _ => cF.out.at (by omega) _), kp c4, kp c5, kp c6, kp c7, kp c8, kp c9, kp c10, kp c11, kp c12, kp c13, kp c14, kp c15, kp c16, kp c17, kp c18, kp c19, kp c20, kp c21, kp c22, kp c23, kp c24, kp c25, kp c26, kp c28, cB, St.hid (by obtain ⟨f9, h9, h8⟩ := cE.out; exact ⟨f9, h9, fun h => h8 (Rg.up_ne h (by decide))⟩)⟩
    case o4 =>
      clear hd
      have q9 := (cF.out.2.2 1 (by decide)).trans e1
      go_simp
      refine hK.out _ _ ⟨St.hid (cF.out.put (by decide) _), kp c0, kp c1, kp c2, kp c3, St.hid (fun _ => cF.out.at (by omega) _), kp c5, kp c6, kp c7, kp c8, kp c9, kp c10, kp c11, kp c12, kp c13, kp c14, kp c15, kp c16, kp c17, kp c18, kp c19, kp c20, kp c21, kp c22, kp c23, kp c24, kp c25, kp c26, kp c28, cB, St.hid (by obtain ⟨f9, h9, h8⟩ := cE.out; exact ⟨f9, h9, fun h => h8 (Rg.up_ne h (by decide))⟩)⟩
    case o5 =>
      simp [Rg.deps, Region.binds] at hd
      have q0 := c4.out (by simp only [hd])
      obtain ⟨-, x2, -⟩ := HSK.out _ cB.out
      go_simp
      refine hK.out _ _ ⟨St.hid (cF.out.put (by decide) _), kp c0, kp c1, kp c2, kp c3, kp c4, St.hid (fun _ => cF.out.at (by omega) _), kp c6, kp c7, kp c8, kp c9, kp c10, kp c11, kp c12, kp c13, kp c14, kp c15, kp c16, kp c17, kp c18, kp c19, kp c20, kp c21, kp c22, kp c23, kp c24, kp c25, kp c26, kp c28, cB, St.hid (by obtain ⟨f9, h9, h8⟩ := cE.out; exact ⟨f9, h9, fun h => h8 (Rg.up_ne h (by decide))⟩)⟩
    case o6 =>
      clear hd
      have q9 := (cF.out.2.2 1 (by decide)).trans e1
      go_simp
      refine hK.out _ _ ⟨St.hid (cF.out.put (by decide) _), kp c0, kp c1, kp c2, kp c3, kp c4, kp c5, St.hid (fun _ => cF.out.at (by omega) _), kp c7, kp c8, kp c9, kp c10, kp c11, kp c12, kp c13, kp c14, kp c15, kp c16, kp c17, kp c18, kp c19, kp c20, kp c21, kp c22, kp c23, kp c24, kp c25, kp c26, kp c28, cB, St.hid (by obtain ⟨f9, h9, h8⟩ := cE.out; exact ⟨f9, h9, fun h => h8 (Rg.up_ne h (by decide))⟩)⟩
    case o7 =>
      simp [Rg.deps, Region.binds] at hd
      have q0 := c6.out (by simp only [hd])
      obtain ⟨-, -, x3, -⟩ := HSK.out _ cB.out
      go_simp
      refine hK.out _ _ ⟨St.hid (cF.out.put (by decide) _), kp c0, kp c1, kp c2, kp c3, kp c4, kp c5, kp c6, St.hid (fun _ => cF.out.at (by omega) _), kp c8, kp c9, kp c10, kp c11, kp c12, kp c13, kp c14, kp c15, kp c16, kp c17, kp c18, kp c19, kp c20, kp c21, kp c22, kp c23, kp c24, kp c25, kp c26, kp c28, cB, St.hid (by obtain ⟨f9, h9, h8⟩ := cE.out; exact ⟨f9, h9, fun h => h8 (Rg.up_ne h (by decide))⟩)⟩
    case o8 =>
      clear hd
      have q9 := (cF.out.2.2 1 (by decide)).trans e1
      go_simp
      refine hK.out _ _ ⟨St.hid (cF.out.put (by decide) _), kp c0, kp c1, kp c2, kp c3, kp c4, kp c5, kp c6, kp c7, St.hid (fun _ => cF.out.at (by omega) _), kp c9, kp c10, kp c11, kp c12, kp c13, kp c14, kp c15, kp c16, kp c17, kp c18, kp c19, kp c20, kp c21, kp c22, kp c23, kp c24, kp c25, kp c26, kp c28, cB, St.hid (by obtain ⟨f9, h9, h8⟩ := cE.out; exact ⟨f9, h9, fun h => h8 (Rg.up_ne h (by decide))⟩)⟩
    case o9 =>
      simp [Rg.deps, Region.binds] at hd
      have q0 := c8.out (by simp only [hd])
      obtain ⟨-, -, -, x4⟩ := HSK.out _ cB.out
      go_simp
      refine hK.out _ _ ⟨St.hid (cF.out.put (by decide) _), kp c0, kp c1, kp c2, kp c3, kp c4, kp c5, kp c6, kp c7, kp c8, St.hid (fun _ => cF.out.at (by omega) _), kp c10, kp c11, kp c12, kp c13, kp c14, kp c15, kp c16, kp c17, kp c18, kp c19, kp c20, kp c21, kp c22, kp c23, kp c24, kp c25, kp c26, kp c28, cB, St.hid (by obtain ⟨f9, h9, h8⟩ := cE.out; exact ⟨f9, h9, fun h => h8 (Rg.up_ne h (by decide))⟩)⟩
    case o10 =>
      simp [Rg.deps, Region.binds] at hd
      have q0 := c0.out (by simp only [hd])
      have q1 := c3.out (by simp only [hd])
      have q2 := c5.out (by simp only [hd])
      have q3 := c7.out (by simp only [hd])
      have q4 := c9.out (by simp only [hd])
      go_simp
      refine hK.out _ _ ⟨St.hid (cF.out.put (by decide) _), kp c0, kp c1, kp c2, kp c3, kp c4, kp c5, kp c6, kp c7, kp c8, kp c9, St.hid (fun _ => cF.out.at (by omega) _), kp c11, kp c12, kp c13, kp c14, kp c15, kp c16, kp c17, kp c18, kp c19, kp c20, kp c21, kp c22, kp c23, kp c24, kp c25, kp c26, kp c28, cB, St.hid (by obtain ⟨f9, h9, h8⟩ := cE.out; exact ⟨f9, h9, fun h => h8 (Rg.up_ne h (by decide))⟩)⟩
    case o11 =>
      clear hd
      have q9 := (cF.out.2.2 5 (by decide)).trans e5
      go_simp
      refine hK.out _ _ ⟨St.hid (cF.out.put (by decide) _), kp c0, kp c1, kp c2, kp c3, kp c4, kp c5, kp c6, kp c7, kp c8, kp c9, kp c10, St.hid (fun _ => cF.out.at (by omega) _), kp c12, kp c13, kp c14, kp c15, kp c16, kp c17, kp c18, kp c19, kp c20, kp c21, kp c22, kp c23, kp c24, kp c25, kp c26, kp c28, cB, St.hid (by obtain ⟨f9, h9, h8⟩ := cE.out; exact ⟨f9, h9, fun h => h8 (Rg.up_ne h (by decide))⟩)⟩
    case o12 =>
      simp [Rg.deps, Region.binds] at hd
      have q0 := c11.out (by simp only [hd])
      go_simp
      refine hK.out _ _ ⟨St.hid (cF.out.put (by decide) _), kp c0, kp c1, kp c2, kp c3, kp c4, kp c5, kp c6, kp c7, kp c8, kp c9, kp c10, kp c11, St.hid (fun _ => cF.out.at (by omega) _), kp c13, kp c14, kp c15, kp c16, kp c17, kp c18, kp c19, kp c20, kp c21, kp c22, kp c23, kp c24, kp c25, kp c26, kp c28, cB, St.hid (by obtain ⟨f9, h9, h8⟩ := cE.out; exact ⟨f9, h9, fun h => h8 (Rg.up_ne h (by decide))⟩)⟩
    case o13 =>
      simp [Rg.deps, Region.binds] at hd
      have q9 := (cF.out.2.2 1 (by decide)).trans e1
      have q0 := c12.out (by simp only [hd])
      have qg := gd_some q0
      go_simp
      refine hK.out _ _ ⟨St.hid (cF.out.put (by decide) _), kp c0, kp c1, kp c2, kp c3, kp c4, kp c5, kp c6, kp c7, kp c8, kp c9, kp c10, kp c11, kp c12, St.hid (fun _ => cF.out.at (by omega) _), kp c14, kp c15, kp c16, kp c17, kp c18, kp c19, kp c20, kp c21, kp c22, kp c23, kp c24, kp c25, kp c26, kp c28, cB, St.hid (by obtain ⟨f9, h9, h8⟩ := cE.out; exact ⟨f9, h9, fun h => h8 (Rg.up_ne h (by decide))⟩)⟩
    case o14 =>
      simp [Rg.deps, Region.binds] at hd
      have q0 := c12.out (by simp only [hd])
      have q1 := c13.out (by simp only [hd])
      have qg := gd_some q0
      go_simp
      refine hK.out _ _ ⟨St.hid (cF.out.put (by decide) _), kp c0, kp c1, kp c2, kp c3, kp c4, kp c5, kp c6, kp c7, kp c8, kp c9, kp c10, kp c11, kp c12, kp c13, St.hid (fun _ => cF.out.at (by omega) _), kp c15, kp c16, kp c17, kp c18, kp c19, kp c20, kp c21, kp c22, kp c23, kp c24, kp c25, kp c26, kp c28, cB, St.hid (by obtain ⟨f9, h9, h8⟩ := cE.out; exact ⟨f9, h9, fun h => h8 (Rg.up_ne h (by decide))⟩)⟩
    case o15 =>
      simp [Rg.deps, Region.binds] at hd
      have q0 := c12.out (by simp only [hd])
      have q1 := c14.out (by simp only [hd])
      have qg := gd_some q0
      go_simp
      refine hK.out _ _ ⟨St.hid (cF.out.put (by decide) _), kp c0, kp c1, kp c2, kp c3, kp c4, kp c5, kp c6, kp c7, kp c8, kp c9, kp c10, kp c11, kp c12, kp c13, kp c14, St.hid (fun _ => cF.out.at (by omega) _), kp c16, kp c17, kp c18, kp c19, kp c20, kp c21, kp c22, kp c23, kp c24, kp c25, kp c26, kp c28, cB, St.hid (by obtain ⟨f9, h9, h8⟩ := cE.out; exact ⟨f9, h9, fun h => h8 (Rg.up_ne h (by decide))⟩)⟩
    case o16 =>
      simp [Rg.deps, Region.binds] at hd
      have q0 := c12.out (by simp only [hd])
      have q1 := c15.out (by simp only [hd])
      go_simp
      refine hK.out _ _ ⟨St.hid (cF.out.put (by decide) _), kp c0, kp c1, kp c2, kp c3, kp c4, kp c5, kp c6, kp c7, kp c8, kp c9, kp c10, kp c11, kp c12, kp c13, kp c14, kp c15, St.hid (fun _ => cF.out.at (by omega) _), kp c17, kp c18, kp c19, kp c20, kp c21, kp c22, kp c23, kp c24, kp c25, kp c26, kp c28, cB, St.hid (by obtain ⟨f9, h9, h8⟩ := cE.out; exact ⟨f9, h9, fun h => h8 (Rg.up_ne h (by decide))⟩)⟩
    case o17 =>
      simp [Rg.deps, Region.binds] at hd
      have q0 := c16.out (by simp only [hd])
      go_simp
      refine hK.out _ _ ⟨St.hid (cF.out.put (by decide) _), kp c0, kp c1, kp c2, kp c3, kp c4, kp c5, kp c6, kp c7, kp c8, kp c9, kp c10, kp c11, kp c12, kp c13, kp c14, kp c15, kp c16, St.hid (fun _ => cF.out.at (by omega) _), kp c18, kp c19, kp c20, kp c21, kp c22, kp c23, kp c24, kp c25, kp c26, kp c28, cB, St.hid (by obtain ⟨f9, h9, h8⟩ := cE.out; exact ⟨f9, h9, fun h => h8 (Rg.up_ne h (by decide))⟩)⟩
    case o18 =>
      simp [Rg.deps, Region.binds] at hd
      have q9 := (cF.out.2.2 1 (by decide)).trans e1
      have q0 := c17.out (by simp only [hd])
      have qg := gd_some q0
      go_simp
      refine hK.out _ _ ⟨St.hid (cF.out.put (by decide) _), kp c0, kp c1, kp c2, kp c3, kp c4, kp c5, kp c6, kp c7, kp c8, kp c9, kp c10, kp c11, kp c12, kp c13, kp c14, kp c15, kp c16, kp c17, St.hid (fun _ => cF.out.at (by omega) _), kp c19, kp c20, kp c21, kp c22, kp c23, kp c24, kp c25, kp c26, kp c28, cB, St.hid (by obtain ⟨f9, h9, h8⟩ := cE.out; exact ⟨f9, h9, fun h => h8 (Rg.up_ne h (by decide))⟩)⟩
    case o19 =>
      simp [Rg.deps, Region.binds] at hd
      have q0 := c17.out (by simp only [hd])
      have q1 := c18.out (by simp only [hd])
      have qg := gd_some q0
      go_simp
      refine hK.out _ _ ⟨St.hid (cF.out.put (by decide) _), kp c0, kp c1, kp c2, kp c3, kp c4, kp c5, kp c6, kp c7, kp c8, kp c9, kp c10, kp c11, kp c12, kp c13, kp c14, kp c15, kp c16, kp c17, kp c18, St.hid (fun _ => cF.out.at (by omega) _), kp c20, kp c21, kp c22, kp c23, kp c24, kp c25, kp c26, kp c28, cB, St.hid (by obtain ⟨f9, h9, h8⟩ := cE.out; exact ⟨f9, h9, fun h => h8 (Rg.up_ne h (by decide))⟩)⟩
    case o20 =>
      simp [Rg.deps, Region.binds] at hd
      have q0 := c17.out (by simp only [hd])
      have q1 := c19.out (by simp only [hd])
      have qg := gd_some q0
      go_simp
      refine hK.out _ _ ⟨St.hid (cF.out.put (by decide) _), kp c0, kp c1, kp c2, kp c3, kp c4, kp c5, kp c6, kp c7, kp c8, kp c9, kp c10, kp c11, kp c12, kp c13, kp c14, kp c15, kp c16, kp c17, kp c18, kp c19, St.hid (fun _ => cF.out.at (by omega) _), kp c21, kp c22, kp c23, kp c24, kp c25, kp c26, kp c28, cB, St.hid (by obtain ⟨f9, h9, h8⟩ := cE.out; exact ⟨f9, h9, fun h => h8 (Rg.up_ne h (by decide))⟩)⟩
    case o21 =>
      simp [Rg.deps, Region.binds] at hd
      have q0 := c17.out (by simp only [hd])
      have q1 := c20.out (by simp only [hd])
      go_simp
      refine hK.out _ _ ⟨St.hid (cF.out.put (by decide) _), kp c0, kp c1, kp c2, kp c3, kp c4, kp c5, kp c6, kp c7, kp c8, kp c9, kp c10, kp c11, kp c12, kp c13, kp c14, kp c15, kp c16, kp c17, kp c18, kp c19, kp c20, St.hid (fun _ => cF.out.at (by omega) _), kp c22, kp c23, kp c24, kp c25, kp c26, kp c28, cB, St.hid (by obtain ⟨f9, h9, h8⟩ := cE.out; exact ⟨f9, h9, fun h => h8 (Rg.up_ne h (by decide))⟩)⟩
    case o22 =>
      simp [Rg.deps, Region.binds] at hd
      have q0 := c21.out (by simp only [hd])
      go_simp
      refine hK.out _ _ ⟨St.hid (cF.out.put (by decide) _), kp c0, kp c1, kp c2, kp c3, kp c4, kp c5, kp c6, kp c7, kp c8, kp c9, kp c10, kp c11, kp c12, kp c13, kp c14, kp c15, kp c16, kp c17, kp c18, kp c19, kp c20, kp c21, St.hid (fun _ => cF.out.at (by omega) _), kp c23, kp c24, kp c25, kp c26, kp c28, cB, St.hid (by obtain ⟨f9, h9, h8⟩ := cE.out; exact ⟨f9, h9, fun h => h8 (Rg.up_ne h (by decide))⟩)⟩
    case o23 =>
      simp [Rg.deps, Region.binds] at hd
      have q9 := (cF.out.2.2 1 (by decide)).trans e1
      have q0 := c22.out (by simp only [hd])
      have qg := gd_some q0
      go_simp
      refine hK.out _ _ ⟨St.hid (cF.out.put (by decide) _), kp c0, kp c1, kp c2, kp c3, kp c4, kp c5, kp c6, kp c7, kp c8, kp c9, kp c10, kp c11, kp c12, kp c13, kp c14, kp c15, kp c16, kp c17, kp c18, kp c19, kp c20, kp c21, kp c22, St.hid (fun _ => cF.out.at (by omega) _), kp c24, kp c25, kp c26, kp c28, cB, St.hid (by obtain ⟨f9, h9, h8⟩ := cE.out; exact ⟨f9, h9, fun h => h8 (Rg.up_ne h (by decide))⟩)⟩
    case o24 =>
      simp [Rg.deps, Region.binds] at hd
      have q0 := c22.out (by simp only [hd])
      have q1 := c23.out (by simp only [hd])
      have qg := gd_some q0
      go_simp
      refine hK.out _ _ ⟨St.hid (cF.out.put (by decide) _), kp c0, kp c1, kp c2, kp c3, kp c4, kp c5, kp c6, kp c7, kp c8, kp c9, kp c10, kp c11, kp c12, kp c13, kp c14, kp c15, kp c16, kp c17, kp c18, kp c19, kp c20, kp c21, kp c22, kp c23, St.hid (fun _ => cF.out.at (by omega) _), kp c25, kp c26, kp c28, cB, St.hid (by obtain ⟨f9, h9, h8⟩ := cE.out; exact ⟨f9, h9, fun h => h8 (Rg.up_ne h (by decide))⟩)⟩
    case o25 =>
      simp [Rg.deps, Region.binds] at hd
      have q0 := c22.out (by simp only [hd])
      have q1 := c24.out (by simp only [hd])
      have qg := gd_some q0
      go_simp
      refine hK.out _ _ ⟨St.hid (cF.out.put (by decide) _), kp c0, kp c1, kp c2, kp c3, kp c4, kp c5, kp c6, kp c7, kp c8, kp c9, kp c10, kp c11, kp c12, kp c13, kp c14, kp c15, kp c16, kp c17, kp c18, kp c19, kp c20, kp c21, kp c22, kp c23, kp c24, St.hid (fun _ => cF.out.at (by omega) _), kp c26, kp c28, cB, St.hid (by obtain ⟨f9, h9, h8⟩ := cE.out; exact ⟨f9, h9, fun h => h8 (Rg.up_ne h (by decide))⟩)⟩
    case o26 =>
      simp [Rg.deps, Region.binds] at hd
      have q0 := c22.out (by simp only [hd])
      have q1 := c25.out (by simp only [hd])
      go_simp
      refine hK.out _ _ ⟨St.hid (cF.out.put (by decide) _), kp c0, kp c1, kp c2, kp c3, kp c4, kp c5, kp c6, kp c7, kp c8, kp c9, kp c10, kp c11, kp c12, kp c13, kp c14, kp c15, kp c16, kp c17, kp c18, kp c19, kp c20, kp c21, kp c22, kp c23, kp c24, kp c25, St.hid (fun _ => cF.out.at (by omega) _), kp c28, cB, St.hid (by obtain ⟨f9, h9, h8⟩ := cE.out; exact ⟨f9, h9, fun h => h8 (Rg.up_ne h (by decide))⟩)⟩
    case o27 =>
      simp [Rg.deps, Region.binds] at hd
      have q0 := c10.out (by simp only [hd])
      obtain ⟨f9, hrb, -⟩ := cE.out
      have HRB9 := St.hid hrb
      have q9 := (cF.out.2.2 2 (by decide)).trans e2
      have x0 := hrb.cell (i := 0) (by omega)
      have k0 := hrb.frozen 0
      have x1 := hrb.cell (i := 1) (by omega)
      have k1 := hrb.frozen 1
      have x2 := hrb.cell (i := 2) (by omega)
      have k2 := hrb.frozen 2
      have x3 := hrb.cell (i := 3) (by omega)
      have k3 := hrb.frozen 3
      have x4 := hrb.cell (i := 4) (by omega)
      have k4 := hrb.frozen 4
      clear hrb e1 e2 e4 e5
      go_simp
      refine hK.out _ _ ⟨cF, kq c0, kq c1, kq c2, kq c3, kq c4, kq c5, kq c6, kq c7, kq c8, kq c9, kq c10, kq c11, kq c12, kq c13, kq c14, kq c15, kq c16, kq c17, kq c18, kq c19, kq c20, kq c21, kq c22, kq c23, kq c24, kq c25, kq c26, kq c28, St.hid (cB.out.trans (grown5 _ _ _ _ _ _ _)), St.hid ⟨_, row5 HRB9.out _ _ _ _ _, fun _ => rfl⟩⟩
    case o28 =>
      simp [Rg.deps, Region.binds] at hd
      have q0 := c26.out (by simp only [hd])
      go_simp
      refine hK.out _ _ ⟨St.hid (cF.out.put (by decide) _), kp c0, kp c1, kp c2, kp c3, kp c4, kp c5, kp c6, kp c7, kp c8, kp c9, kp c10, kp c11, kp c12, kp c13, kp c14, kp c15, kp c16, kp c17, kp c18, kp c19, kp c20, kp c21, kp c22, kp c23, kp c24, kp c25, kp c26, St.hid (fun _ => cF.out.at (by omega) _), cB, St.hid (by obtain ⟨f9, h9, h8⟩ := cE.out; exact ⟨f9, h9, fun h => h8 (Rg.up_ne h (by decide))⟩)⟩
  case re =>
    intro Lf a1 w1 hI hall
    obtain ⟨cF, c0, c1, c2, c3, c4, c5, c6, c7, c8, c9, c10, c11, c12, c13, c14, c15, c16, c17, c18, c19, c20, c21, c22, c23, c24, c25, c26, c28, cB, cE⟩ := hI
    obtain ⟨f9, h9, h8⟩ := cE.out
    obtain rfl := h8 (hall 27 (by decide))
    have e := cF.out.eq (fun d => a1.tmps[d]?.getD undef) (fun _ _ => rfl)
    refine HQ.out _ _ ?_
    rw [e]
    exact H.out (fun d => a1.tmps[d]?.getD undef) w1 (c28.out (hall 28 (by decide))) cB.out h9
attribute [local go_sem ↓] Go.wp_at_zero Go.wp_at_succ
set_option maxHeartbeats 16000000 in
set_option maxRecDepth 100000 in
theorem wreg_b (K : Act → World → Prop) (Q : Exit → Act → World → Prop) (hQ : ∀ a w, K a w → Q .normal a w) (A : Act) (wb rb : Nat) (mv : Option Nat) (next fall wide high : Int) (wz : World) (fr : Nat → Value)
    (e1 : A.tmps[1]?.getD undef = .pointer (some ⟨wb, 0, none⟩)) (e2 : A.tmps[2]?.getD undef = .pointer (some ⟨rb, 0, none⟩)) (e4 : A.tmps[4]?.getD undef = .map mv) (e5 : A.tmps[5]?.getD undef = .bool true) (hsz : 38 < A.tmps.size) (hbf : btw fall (-64) 64 = false)
    (hsk : ∀ W, wz.grownBy W (some rb) → W.cell? ⟨wb, 1, none⟩ = some (.int .i64 next) ∧ W.cell? ⟨wb, 2, none⟩ = some (.int .i64 fall) ∧ W.cell? ⟨wb, 3, none⟩ = some (.int .i64 wide) ∧ W.cell? ⟨wb, 4, none⟩ = some (.int .i64 high))
    (hrb : wz.rowIs rb 31 5 fr)
    (h : ∀ (f : Nat → Value) (W : World), f 3 = .bool false → wz.grownBy W (some rb) → W.rowIs rb 31 5 (wcell (.map mv) next fall wide high) → K (Rh.puts f [3, 12, 13, 14, 15, 16, 17, 18, 19, 20, 21, 22, 23, 24, 25, 26, 27, 28, 29, 30, 31, 32, 33, 34, 35, 36, 37, 38] A) W) :
    Code.wp Tryz.prog wreg2 Q A wz := by
  have HSK := St.hid hsk
  have HRB := St.hid hrb
  have H := St.hid h
  have HQ := St.hid hQ
  clear hsk h hQ hrb
  conv => arg 2; whnf
  refine Rg.wp_region_inv (by kernel_rfl) (fun Lf a1 w1 => Hid (Rh.Fr [3, 12, 13, 14, 15, 16, 17, 18, 19, 20, 21, 22, 23, 24, 25, 26, 27, 28, 29, 30, 31, 32, 33, 34, 35, 36, 37, 38] A a1) ∧ Hid (Lf 0 = true → a1.tmps[12]?.getD undef = .map mv) ∧ Hid (Lf 1 = true → a1.tmps[13]?.getD undef = .pointer (some ⟨wb, 0, none⟩)) ∧ Hid (Lf 2 = true → a1.tmps[14]?.getD undef = .pointer (some ⟨wb, 1, none⟩)) ∧ Hid (Lf 3 = true → a1.tmps[15]?.getD undef = .int .i64 next) ∧ Hid (Lf 4 = true → a1.tmps[16]?.getD undef = .pointer (some ⟨wb, 2, none⟩)) ∧ Hid (Lf 5 = true → a1.tmps[17]?.getD undef = .int .i64 fall) ∧ Hid (Lf 6 = true → a1.tmps[18]?.getD undef = .pointer (some ⟨wb, 3, none⟩)) ∧ Hid (Lf 7 = true → a1.tmps[19]?.getD undef = .int .i64 wide) ∧ Hid (Lf 8 = true → a1.tmps[20]?.getD undef = .pointer (some ⟨wb, 4, none⟩)) ∧ Hid (Lf 9 = true → a1.tmps[21]?.getD undef = .int .i64 high) ∧ Hid (Lf 10 = true → a1.tmps[22]?.getD undef = .agg #[.map mv, .int .i64 next, .int .i64 fall, .int .i64 wide, .int .i64 high]) ∧ Hid (Lf 11 = true → a1.tmps[23]?.getD undef = .bool true) ∧ Hid (Lf 12 = true → a1.tmps[24]?.getD undef = .bool true) ∧ Hid (Lf 13 = true → a1.tmps[25]?.getD undef = .pointer (some ⟨wb, 2, none⟩)) ∧ Hid (Lf 14 = true → a1.tmps[26]?.getD undef = .int .i64 fall) ∧ Hid (Lf 15 = true → a1.tmps[27]?.getD undef = .bool false) ∧ Hid (Lf 16 = true → a1.tmps[28]?.getD undef = .bool false) ∧ Hid (Lf 17 = true → a1.tmps[29]?.getD undef = .bool false) ∧ Hid (Lf 18 = true → a1.tmps[30]?.getD undef = undef) ∧ Hid (Lf 19 = true → a1.tmps[31]?.getD undef = undef) ∧ Hid (Lf 20 = true → a1.tmps[32]?.getD undef = undef) ∧ Hid (Lf 21 = true → a1.tmps[33]?.getD undef = .bool false) ∧ Hid (Lf 22 = true → a1.tmps[34]?.getD undef = .bool false) ∧ Hid (Lf 23 = true → a1.tmps[35]?.getD undef = undef) ∧ Hid (Lf 24 = true → a1.tmps[36]?.getD undef = undef) ∧ Hid (Lf 25 = true → a1.tmps[37]?.getD undef = undef) ∧ Hid (Lf 26 = true → a1.tmps[38]?.getD undef = .bool false) ∧ Hid (Lf 28 = true → a1.tmps[3]?.getD undef = .bool false) ∧ Hid (wz.grownBy w1 (some rb)) ∧ Hid (∃ f, w1.rowIs rb 31 5 f ∧ (Lf 27 = true → f = wcell (.map mv) next fall wide high))) (by kernel_rfl) ?rs ?rg ?re
  case rs =>
    refine ⟨St.hid (Rh.Fr.refl _ _), St.hid (fun h => by cases h), St.hid (fun h => by cases h), St.hid (fun h => by cases h), St.hid (fun h => by cases h), St.hid (fun h => by cases h), St.hid (fun h => by cases h), St.hid (fun h => by cases h), St.hid (fun h => by cases h), St.hid (fun h => by cases h), St.hid (fun h => by cases h), St.hid (fun h => by cases h), St.hid (fun h => by cases h), St.hid (fun h => by cases h), St.hid (fun h => by cases h), St.hid (fun h => by cases h), St.hid (fun h => by cases h), St.hid (fun h => by cases h), St.hid (fun h => by cases h), St.hid (fun h => by cases h), St.hid (fun h => by cases h), St.hid (fun h => by cases h), St.hid (fun h => by cases h), St.hid (fun h => by cases h), St.hid (fun h => by cases h), St.hid (fun h => by cases h), St.hid (fun h => by cases h), St.hid (fun h => by cases h), St.hid (fun h => by cases h), St.hid (grown_drew (grown_refl _ _)), St.hid ⟨fr, HRB.out.of_block rfl, fun h => by cases h⟩⟩
  case rg =>
    intro Lf a1 w1 hI
    obtain ⟨cF, c0, c1, c2, c3, c4, c5, c6, c7, c8, c9, c10, c11, c12, c13, c14, c15, c16, c17, c18, c19, c20, c21, c22, c23, c24, c25, c26, c28, cB, cE⟩ := hI
    refine ⟨fun hl hd K' hK => ?o0, fun hl hd K' hK => ?o1, fun hl hd K' hK => ?o2, fun hl hd K' hK => ?o3, fun hl hd K' hK => ?o4, fun hl hd K' hK => ?o5, fun hl hd K' hK => ?o6, fun hl hd K' hK => ?o7, fun hl hd K' hK => ?o8, fun hl hd K' hK => ?o9, fun hl hd K' hK => ?o10, fun hl hd K' hK => ?o11, fun hl hd K' hK => ?o12, fun hl hd K' hK => ?o13, fun hl hd K' hK => ?o14, fun hl hd K' hK => ?o15, fun hl hd K' hK => ?o16, fun hl hd K' hK => ?o17, fun hl hd K' hK => ?o18, fun hl hd K' hK => ?o19, fun hl hd K' hK => ?o20, fun hl hd K' hK => ?o21, fun hl hd K' hK => ?o22, fun hl hd K' hK => ?o23, fun hl hd K' hK => ?o24, fun hl hd K' hK => ?o25, fun hl hd K' hK => ?o26, fun hl hd K' hK => ?o27, fun hl hd K' hK => ?o28, trivial⟩
    case o0 =>
      clear hd
      have q9 := (cF.out.2.2 4 (by decide)).trans e4
      go_simp
      refine hK.out _ _ ⟨St.hid (cF.out.put (by decide) _), St.hid (fun _ => cF.out.at (by omega) _), kp c1, kp c2, kp c3, kp c4, kp c5, kp c6, kp c7, kp c8, kp c9, kp c10, kp c11, kp c12, kp c13, kp c14, kp c15, kp c16, kp c17, kp c18, kp c19, kp c20, kp c21, kp c22, kp c23, kp c24, kp c25, kp c26, kp c28, cB, St.hid (by obtain ⟨f9, h9, h8⟩ := cE.out; exact ⟨f9, h9, fun h => h8 (Rg.up_ne h (by decide))⟩)⟩
    case o1 =>
      clear hd
      have q9 := (cF.out.2.2 1 (by decide)).trans e1
      go_simp
      refine hK.out _ _ ⟨St.hid (cF.out.put (by decide) _), kp c0, St.hid (fun _ => cF.out.at (by omega) _), kp c2, kp c3, kp c4, kp c5, kp c6, kp c7, kp c8, kp c9, kp c10, kp c11, kp c12, kp c13, kp c14, kp c15, kp c16, kp c17, kp c18, kp c19, kp c20, kp c21, kp c22, kp c23, kp c24, kp c25, kp c26, kp c28, cB, St.hid (by obtain ⟨f9, h9, h8⟩ := cE.out; exact ⟨f9, h9, fun h => h8 (Rg.up_ne h (by decide))⟩)⟩
    case o2 =>
      simp [Rg.deps, Region.binds] at hd
      have q0 := c1.out (by simp only [hd])
      go_simp
      refine hK.out _ _ ⟨St.hid (cF.out.put (by decide) _), kp c0, kp c1, St.hid (fun _ => cF.out.at (by omega) _), kp c3, kp c4, kp c5, kp c6, kp c7, kp c8, kp c9, kp c10, kp c11, kp c12, kp c13, kp c14, kp c15, kp c16, kp c17, kp c18, kp c19, kp c20, kp c21, kp c22, kp c23, kp c24, kp c25, kp c26, kp c28, cB, St.hid (by obtain ⟨f9, h9, h8⟩ := cE.out; exact ⟨f9, h9, fun h => h8 (Rg.up_ne h (by decide))⟩)⟩
    case o3 =>
      simp [Rg.deps, Region.binds] at hd
      have q0 := c2.out (by simp only [hd])
      obtain ⟨x1, -⟩ := HSK.out _ cB.out
      go_simp
      refine hK.out _ _ ⟨St.hid (cF.out.put (by decide) _), kp c0, kp c1, kp c2, St.hid (fun _ => cF.out.at (by omega) _), kp c4, kp c5, kp c6, kp c7, kp c8, kp c9, kp c10, kp c11, kp c12, kp c13, kp c14, kp c15, kp c16, kp c17, kp c18, kp c19, kp c20, kp c21, kp c22, kp c23, kp c24, kp c25, kp c26, kp c28, cB, St.hid (by obtain ⟨f9, h9, h8⟩ := cE.out; exact ⟨f9, h9, fun h => h8 (Rg.up_ne h (by decide))⟩)⟩
    case o4 =>
      clear hd
      have q9 := (cF.out.2.2 1 (by decide)).trans e1
      go_simp
      refine hK.out _ _ ⟨St.hid (cF.out.put (by decide) _), kp c0, kp c1, kp c2, kp c3, St.hid (fun _ => cF.out.at (by omega) _), kp c5, kp c6, kp c7, kp c8, kp c9, kp c10, kp c11, kp c12, kp c13, kp c14, kp c15, kp c16, kp c17, kp c18, kp c19, kp c20, kp c21, kp c22, kp c23, kp c24, kp c25, kp c26, kp c28, cB, St.hid (by obtain ⟨f9, h9, h8⟩ := cE.out; exact ⟨f9, h9, fun h => h8 (Rg.up_ne h (by decide))⟩)⟩
    case o5 =>
      simp [Rg.deps, Region.binds] at hd
      have q0 := c4.out (by simp only [hd])
      obtain ⟨-, x2, -⟩ := HSK.out _ cB.out
      go_simp
      refine hK.out _ _ ⟨St.hid (cF.out.put (by decide) _), kp c0, kp c1, kp c2, kp c3, kp c4, St.hid (fun _ => cF.out.at (by omega) _), kp c6, kp c7, kp c8, kp c9, kp c10, kp c11, kp c12, kp c13, kp c14, kp c15, kp c16, kp c17, kp c18, kp c19, kp c20, kp c21, kp c22, kp c23, kp c24, kp c25, kp c26, kp c28, cB, St.hid (by obtain ⟨f9, h9, h8⟩ := cE.out; exact ⟨f9, h9, fun h => h8 (Rg.up_ne h (by decide))⟩)⟩
    case o6 =>
      clear hd
      have q9 := (cF.out.2.2 1 (by decide)).trans e1
      go_simp
      refine hK.out _ _ ⟨St.hid (cF.out.put (by decide) _), kp c0, kp c1, kp c2, kp c3, kp c4, kp c5, St.hid (fun _ => cF.out.at (by omega) _), kp c7, kp c8, kp c9, kp c10, kp c11, kp c12, kp c13, kp c14, kp c15, kp c16, kp c17, kp c18, kp c19, kp c20, kp c21, kp c22, kp c23, kp c24, kp c25, kp c26, kp c28, cB, St.hid (by obtain ⟨f9, h9, h8⟩ := cE.out; exact ⟨f9, h9, fun h => h8 (Rg.up_ne h (by decide))⟩)⟩
    case o7 =>
      simp [Rg.deps, Region.binds] at hd
      have q0 := c6.out (by simp only [hd])
      obtain ⟨-, -, x3, -⟩ := HSK.out _ cB.out
      go_simp
      refine hK.out _ _ ⟨St.hid (cF.out.put (by decide) _), kp c0, kp c1, kp c2, kp c3, kp c4, kp c5, kp c6, St.hid (fun _ => cF.out.at (by omega) _), kp c8, kp c9, kp c10, kp c11, kp c12, kp c13, kp c14, kp c15, kp c16, kp c17, kp c18, kp c19, kp c20, kp c21, kp c22, kp c23, kp c24, kp c25, kp c26, kp c28, cB, St.hid (by obtain ⟨f9, h9, h8⟩ := cE.out; exact ⟨f9, h9, fun h => h8 (Rg.up_ne h (by decide))⟩)⟩
    case o8 =>
      clear hd
      have q9 := (cF.out.2.2 1 (by decide)).trans e1
      go_simp
      refine hK.out _ _ ⟨St.hid (cF.out.put (by decide) _), kp c0, kp c1, kp c2, kp c3, kp c4, kp c5, kp c6, kp c7, St.hid (fun _ => cF.out.at (by omega) _), kp c9, kp c10, kp c11, kp c12, kp c13, kp c14, kp c15, kp c16, kp c17, kp c18, kp c19, kp c20, kp c21, kp c22, kp c23, kp c24, kp c25, kp c26, kp c28, cB, St.hid (by obtain ⟨f9, h9, h8⟩ := cE.out; exact ⟨f9, h9, fun h => h8 (Rg.up_ne h (by decide))⟩)⟩
    case o9 =>
      simp [Rg.deps, Region.binds] at hd
      have q0 := c8.out (by simp only [hd])
      obtain ⟨-, -, -, x4⟩ := HSK.out _ cB.out
      go_simp
      refine hK.out _ _ ⟨St.hid (cF.out.put (by decide) _), kp c0, kp c1, kp c2, kp c3, kp c4, kp c5, kp c6, kp c7, kp c8, St.hid (fun _ => cF.out.at (by omega) _), kp c10, kp c11, kp c12, kp c13, kp c14, kp c15, kp c16, kp c17, kp c18, kp c19, kp c20, kp c21, kp c22, kp c23, kp c24, kp c25, kp c26, kp c28, cB, St.hid (by obtain ⟨f9, h9, h8⟩ := cE.out; exact ⟨f9, h9, fun h => h8 (Rg.up_ne h (by decide))⟩)⟩
    case o10 =>
      simp [Rg.deps, Region.binds] at hd
      have q0 := c0.out (by simp only [hd])
      have q1 := c3.out (by simp only [hd])
      have q2 := c5.out (by simp only [hd])
      have q3 := c7.out (by simp only [hd])
      have q4 := c9.out (by simp only [hd])
      go_simp
      refine hK.out _ _ ⟨St.hid (cF.out.put (by decide) _), kp c0, kp c1, kp c2, kp c3, kp c4, kp c5, kp c6, kp c7, kp c8, kp c9, St.hid (fun _ => cF.out.at (by omega) _), kp c11, kp c12, kp c13, kp c14, kp c15, kp c16, kp c17, kp c18, kp c19, kp c20, kp c21, kp c22, kp c23, kp c24, kp c25, kp c26, kp c28, cB, St.hid (by obtain ⟨f9, h9, h8⟩ := cE.out; exact ⟨f9, h9, fun h => h8 (Rg.up_ne h (by decide))⟩)⟩
    case o11 =>
      clear hd
      have q9 := (cF.out.2.2 5 (by decide)).trans e5
      go_simp
      refine hK.out _ _ ⟨St.hid (cF.out.put (by decide) _), kp c0, kp c1, kp c2, kp c3, kp c4, kp c5, kp c6, kp c7, kp c8, kp c9, kp c10, St.hid (fun _ => cF.out.at (by omega) _), kp c12, kp c13, kp c14, kp c15, kp c16, kp c17, kp c18, kp c19, kp c20, kp c21, kp c22, kp c23, kp c24, kp c25, kp c26, kp c28, cB, St.hid (by obtain ⟨f9, h9, h8⟩ := cE.out; exact ⟨f9, h9, fun h => h8 (Rg.up_ne h (by decide))⟩)⟩
    case o12 =>
      simp [Rg.deps, Region.binds] at hd
      have q0 := c11.out (by simp only [hd])
      go_simp
      refine hK.out _ _ ⟨St.hid (cF.out.put (by decide) _), kp c0, kp c1, kp c2, kp c3, kp c4, kp c5, kp c6, kp c7, kp c8, kp c9, kp c10, kp c11, St.hid (fun _ => cF.out.at (by omega) _), kp c13, kp c14, kp c15, kp c16, kp c17, kp c18, kp c19, kp c20, kp c21, kp c22, kp c23, kp c24, kp c25, kp c26, kp c28, cB, St.hid (by obtain ⟨f9, h9, h8⟩ := cE.out; exact ⟨f9, h9, fun h => h8 (Rg.up_ne h (by decide))⟩)⟩
    case o13 =>
      simp [Rg.deps, Region.binds] at hd
      have q9 := (cF.out.2.2 1 (by decide)).trans e1
      have q0 := c12.out (by simp only [hd])
      have qg := gd_some q0
      go_simp
      refine hK.out _ _ ⟨St.hid (cF.out.put (by decide) _), kp c0, kp c1, kp c2, kp c3, kp c4, kp c5, kp c6, kp c7, kp c8, kp c9, kp c10, kp c11, kp c12, St.hid (fun _ => cF.out.at (by omega) _), kp c14, kp c15, kp c16, kp c17, kp c18, kp c19, kp c20, kp c21, kp c22, kp c23, kp c24, kp c25, kp c26, kp c28, cB, St.hid (by obtain ⟨f9, h9, h8⟩ := cE.out; exact ⟨f9, h9, fun h => h8 (Rg.up_ne h (by decide))⟩)⟩
    case o14 =>
      simp [Rg.deps, Region.binds] at hd
      have q0 := c12.out (by simp only [hd])
      have q1 := c13.out (by simp only [hd])
      have qg := gd_some q0
      obtain ⟨-, x2, -⟩ := HSK.out _ cB.out
      go_simp
      refine hK.out _ _ ⟨St.hid (cF.out.put (by decide) _), kp c0, kp c1, kp c2, kp c3, kp c4, kp c5, kp c6, kp c7, kp c8, kp c9, kp c10, kp c11, kp c12, kp c13, St.hid (fun _ => cF.out.at (by omega) _), kp c15, kp c16, kp c17, kp c18, kp c19, kp c20, kp c21, kp c22, kp c23, kp c24, kp c25, kp c26, kp c28, cB, St.hid (by obtain ⟨f9, h9, h8⟩ := cE.out; exact ⟨f9, h9, fun h => h8 (Rg.up_ne h (by decide))⟩)⟩
    case o15 =>
      simp [Rg.deps, Region.binds] at hd
      have q0 := c12.out (by simp only [hd])
      have q1 := c14.out (by simp only [hd])
      have qg := gd_some q0
      go_simp
      refine (Th.within_any _ _ _ _).mono ?_
      rintro e w2 ⟨rfl, hw2⟩
      subst hw2
      go_simp
      refine hK.out _ _ ⟨St.hid (cF.out.put (by decide) _), kp c0, kp c1, kp c2, kp c3, kp c4, kp c5, kp c6, kp c7, kp c8, kp c9, kp c10, kp c11, kp c12, kp c13, kp c14, St.hid (fun _ => cF.out.at (by omega) _), kp c16, kp c17, kp c18, kp c19, kp c20, kp c21, kp c22, kp c23, kp c24, kp c25, kp c26, kp c28, cB, St.hid (by obtain ⟨f9, h9, h8⟩ := cE.out; exact ⟨f9, h9, fun h => h8 (Rg.up_ne h (by decide))⟩)⟩
    case o16 =>
      simp [Rg.deps, Region.binds] at hd
      have q0 := c12.out (by simp only [hd])
      have q1 := c15.out (by simp only [hd])
      go_simp
      refine hK.out _ _ ⟨St.hid (cF.out.put (by decide) _), kp c0, kp c1, kp c2, kp c3, kp c4, kp c5, kp c6, kp c7, kp c8, kp c9, kp c10, kp c11, kp c12, kp c13, kp c14, kp c15, St.hid (fun _ => cF.out.at (by omega) _), kp c17, kp c18, kp c19, kp c20, kp c21, kp c22, kp c23, kp c24, kp c25, kp c26, kp c28, cB, St.hid (by obtain ⟨f9, h9, h8⟩ := cE.out; exact ⟨f9, h9, fun h => h8 (Rg.up_ne h (by decide))⟩)⟩
    case o17 =>
      simp [Rg.deps, Region.binds] at hd
      have q0 := c16.out (by simp only [hd])
      go_simp
      refine hK.out _ _ ⟨St.hid (cF.out.put (by decide) _), kp c0, kp c1, kp c2, kp c3, kp c4, kp c5, kp c6, kp c7, kp c8, kp c9, kp c10, kp c11, kp c12, kp c13, kp c14, kp c15, kp c16, St.hid (fun _ => cF.out.at (by omega) _), kp c18, kp c19, kp c20, kp c21, kp c22, kp c23, kp c24, kp c25, kp c26, kp c28, cB, St.hid (by obtain ⟨f9, h9, h8⟩ := cE.out; exact ⟨f9, h9, fun h => h8 (Rg.up_ne h (by decide))⟩)⟩
    case o18 =>
      simp [Rg.deps, Region.binds] at hd
      have q9 := (cF.out.2.2 1 (by decide)).trans e1
      have q0 := c17.out (by simp only [hd])
      have qg := gd_some q0
      go_simp
      refine hK.out _ _ ⟨St.hid (cF.out.put (by decide) _), kp c0, kp c1, kp c2, kp c3, kp c4, kp c5, kp c6, kp c7, kp c8, kp c9, kp c10, kp c11, kp c12, kp c13, kp c14, kp c15, kp c16, kp c17, St.hid (fun _ => cF.out.at (by omega) _), kp c19, kp c20, kp c21, kp c22, kp c23, kp c24, kp c25, kp c26, kp c28, cB, St.hid (by obtain ⟨f9, h9, h8⟩ := cE.out; exact ⟨f9, h9, fun h => h8 (Rg.up_ne h (by decide))⟩)⟩
    case o19 =>
      simp [Rg.deps, Region.binds] at hd
      have q0 := c17.out (by simp only [hd])
      have q1 := c18.out (by simp only [hd])
      have qg := gd_some q0
      go_simp
      refine hK.out _ _ ⟨St.hid (cF.out.put (by decide) _), kp c0, kp c1, kp c2, kp c3, kp c4, kp c5, kp c6, kp c7, kp c8, kp c9, kp c10, kp c11, kp c12, kp c13, kp c14, kp c15, kp c16, kp c17, kp c18, St.hid (fun _ => cF.out.at (by omega) _), kp c20, kp c21, kp c22, kp c23, kp c24, kp c25, kp c26, kp c28, cB, St.hid (by obtain ⟨f9, h9, h8⟩ := cE.out; exact ⟨f9, h9, fun h => h8 (Rg.up_ne h (by decide))⟩)⟩
    case o20 =>
      simp [Rg.deps, Region.binds] at hd
      have q0 := c17.out (by simp only [hd])
      have q1 := c19.out (by simp only [hd])
      have qg := gd_some q0
      go_simp
      refine hK.out _ _ ⟨St.hid (cF.out.put (by decide) _), kp c0, kp c1, kp c2, kp c3, kp c4, kp c5, kp c6, kp c7, kp c8, kp c9, kp c10, kp c11, kp c12, kp c13, kp c14, kp c15, kp c16, kp c17, kp c18, kp c19, St.hid (fun _ => cF.out.at (by omega) _), kp c21, kp c22, kp c23, kp c24, kp c25, kp c26, kp c28, cB, St.hid (by obtain ⟨f9, h9, h8⟩ := cE.out; exact ⟨f9, h9, fun h => h8 (Rg.up_ne h (by decide))⟩)⟩
    case o21 =>
      simp [Rg.deps, Region.binds] at hd
      have q0 := c17.out (by simp only [hd])
      have q1 := c20.out (by simp only [hd])
      go_simp
      refine hK.out _ _ ⟨St.hid (cF.out.put (by decide) _), kp c0, kp c1, kp c2, kp c3, kp c4, kp c5, kp c6, kp c7, kp c8, kp c9, kp c10, kp c11, kp c12, kp c13, kp c14, kp c15, kp c16, kp c17, kp c18, kp c19, kp c20, St.hid (fun _ => cF.out.at (by omega) _), kp c22, kp c23, kp c24, kp c25, kp c26, kp c28, cB, St.hid (by obtain ⟨f9, h9, h8⟩ := cE.out; exact ⟨f9, h9, fun h => h8 (Rg.up_ne h (by decide))⟩)⟩
    case o22 =>
      simp [Rg.deps, Region.binds] at hd
      have q0 := c21.out (by simp only [hd])
      go_simp
      refine hK.out _ _ ⟨St.hid (cF.out.put (by decide) _), kp c0, kp c1, kp c2, kp c3, kp c4, kp c5, kp c6, kp c7, kp c8, kp c9, kp c10, kp c11, kp c12, kp c13, kp c14, kp c15, kp c16, kp c17, kp c18, kp c19, kp c20, kp c21, St.hid (fun _ => cF.out.at (by omega) _), kp c23, kp c24, kp c25, kp c26, kp c28, cB, St.hid (by obtain ⟨f9, h9, h8⟩ := cE.out; exact ⟨f9, h9, fun h => h8 (Rg.up_ne h (by decide))⟩)⟩
    case o23 =>
      simp [Rg.deps, Region.binds] at hd
      have q9 := (cF.out.2.2 1 (by decide)).trans e1
      have q0 := c22.out (by simp only [hd])
      have qg := gd_some q0
      go_simp
      refine hK.out _ _ ⟨St.hid (cF.out.put (by decide) _), kp c0, kp c1, kp c2, kp c3, kp c4, kp c5, kp c6, kp c7, kp c8, kp c9, kp c10, kp c11, kp c12, kp c13, kp c14, kp c15, kp c16, kp c17, kp c18, kp c19, kp c20, kp c21, kp c22, St.hid (fun _ => cF.out.at (by omega) _), kp c24, kp c25, kp c26, kp c28, cB, St.hid (by obtain ⟨f9, h9, h8⟩ := cE.out; exact ⟨f9, h9, fun h => h8 (Rg.up_ne h (by decide))⟩)⟩
    case o24 =>
      simp [Rg.deps, Region.binds] at hd
      have q0 := c22.out (by simp only [hd])
      have q1 := c23.out (by simp only [hd])
      have qg := gd_some q0
      go_simp
      refine hK.out _ _ ⟨St.hid (cF.out.put (by decide) _), kp c0, kp c1, kp c2, kp c3, kp c4, kp c5, kp c6, kp c7, kp c8, kp c9, kp c10, kp c11, kp c12, kp c13, kp c14, kp c15, kp c16, kp c17, kp c18, kp c19, kp c20, kp c21, kp c22, kp c23, St.hid (fun _ => cF.out.at (by omega) _), kp c25, kp c26, kp c28, cB, St.hid (by obtain ⟨f9, h9, h8⟩ := cE.out; exact ⟨f9, h9, fun h => h8 (Rg.up_ne h (by decide))⟩)⟩
    case o25 =>
      simp [Rg.deps, Region.binds] at hd
      have q0 := c22.out (by simp only [hd])
      have q1 := c24.out (by simp only [hd])
      have qg := gd_some q0
      go_simp
      refine hK.out _ _ ⟨St.hid (cF.out.put (by decide) _), kp c0, kp c1, kp c2, kp c3, kp c4, kp c5, kp c6, kp c7, kp c8, kp c9, kp c10, kp c11, kp c12, kp c13, kp c14, kp c15, kp c16, kp c17, kp c18, kp c19, kp c20, kp c21, kp c22, kp c23, kp c24, St.hid (fun _ => cF.out.at (by omega) _), kp c26, kp c28, cB, St.hid (by obtain ⟨f9, h9, h8⟩ := cE.out; exact ⟨f9, h9, fun h => h8 (Rg.up_ne h (by decide))⟩)⟩
    case o26 =>
      simp [Rg.deps, Region.binds] at hd
      have q0 := c22.out (by simp only [hd])
      have q1 := c25.out (by simp only [hd])
      go_simp
      refine hK.out _ _ ⟨St.hid (cF.out.put (by decide) _), kp c0, kp c1, kp c2, kp c3, kp c4, kp c5, kp c6, kp c7, kp c8, kp c9, kp c10, kp c11, kp c12, kp c13, kp c14, kp c15, kp c16, kp c17, kp c18, kp c19, kp c20, kp c21, kp c22, kp c23, kp c24, kp c25, St.hid (fun _ => cF.out.at (by omega) _), kp c28, cB, St.hid (by obtain ⟨f9, h9, h8⟩ := cE.out; exact ⟨f9, h9, fun h => h8 (Rg.up_ne h (by decide))⟩)⟩
    case o27 =>
      simp [Rg.deps, Region.binds] at hd
      have q0 := c10.out (by simp only [hd])
      obtain ⟨f9, hrb, -⟩ := cE.out
      have HRB9 := St.hid hrb
      have q9 := (cF.out.2.2 2 (by decide)).trans e2
      have x0 := hrb.cell (i := 0) (by omega)
      have k0 := hrb.frozen 0
      have x1 := hrb.cell (i := 1) (by omega)
      have k1 := hrb.frozen 1
      have x2 := hrb.cell (i := 2) (by omega)
      have k2 := hrb.frozen 2
      have x3 := hrb.cell (i := 3) (by omega)
      have k3 := hrb.frozen 3
      have x4 := hrb.cell (i := 4) (by omega)
      have k4 := hrb.frozen 4
      clear hrb e1 e2 e4 e5
      go_simp
      refine hK.out _ _ ⟨cF, kq c0, kq c1, kq c2, kq c3, kq c4, kq c5, kq c6, kq c7, kq c8, kq c9, kq c10, kq c11, kq c12, kq c13, kq c14, kq c15, kq c16, kq c17, kq c18, kq c19, kq c20, kq c21, kq c22, kq c23, kq c24, kq c25, kq c26, kq c28, St.hid (cB.out.trans (grown5 _ _ _ _ _ _ _)), St.hid ⟨_, row5 HRB9.out _ _ _ _ _, fun _ => rfl⟩⟩
    case o28 =>
      simp [Rg.deps, Region.binds] at hd
      have q0 := c26.out (by simp only [hd])
      go_simp
      refine hK.out _ _ ⟨St.hid (cF.out.put (by decide) _), kp c0, kp c1, kp c2, kp c3, kp c4, kp c5, kp c6, kp c7, kp c8, kp c9, kp c10, kp c11, kp c12, kp c13, kp c14, kp c15, kp c16, kp c17, kp c18, kp c19, kp c20, kp c21, kp c22, kp c23, kp c24, kp c25, kp c26, St.hid (fun _ => cF.out.at (by omega) _), cB, St.hid (by obtain ⟨f9, h9, h8⟩ := cE.out; exact ⟨f9, h9, fun h => h8 (Rg.up_ne h (by decide))⟩)⟩
  case re =>
    intro Lf a1 w1 hI hall
    obtain ⟨cF, c0, c1, c2, c3, c4, c5, c6, c7, c8, c9, c10, c11, c12, c13, c14, c15, c16, c17, c18, c19, c20, c21, c22, c23, c24, c25, c26, c28, cB, cE⟩ := hI
    obtain ⟨f9, h9, h8⟩ := cE.out
    obtain rfl := h8 (hall 27 (by decide))
    have e := cF.out.eq (fun d => a1.tmps[d]?.getD undef) (fun _ _ => rfl)
    refine HQ.out _ _ ?_
    rw [e]
    exact H.out (fun d => a1.tmps[d]?.getD undef) w1 (c28.out (hall 28 (by decide))) cB.out h9
attribute [local go_sem ↓] Go.wp_at_zero Go.wp_at_succ
set_option maxHeartbeats 16000000 in
set_option maxRecDepth 100000 in
theorem wreg_c (K : Act → World → Prop) (Q : Exit → Act → World → Prop) (hQ : ∀ a w, K a w → Q .normal a w) (A : Act) (wb rb : Nat) (mv : Option Nat) (next fall wide high : Int) (wz : World) (fr : Nat → Value)
    (e1 : A.tmps[1]?.getD undef = .pointer (some ⟨wb, 0, none⟩)) (e2 : A.tmps[2]?.getD undef = .pointer (some ⟨rb, 0, none⟩)) (e4 : A.tmps[4]?.getD undef = .map mv) (e5 : A.tmps[5]?.getD undef = .bool true) (hsz : 38 < A.tmps.size) (hbf : btw fall (-64) 64 = true) (hbw : btw wide 1 1048576 = false)
    (hsk : ∀ W, wz.grownBy W (some rb) → W.cell? ⟨wb, 1, none⟩ = some (.int .i64 next) ∧ W.cell? ⟨wb, 2, none⟩ = some (.int .i64 fall) ∧ W.cell? ⟨wb, 3, none⟩ = some (.int .i64 wide) ∧ W.cell? ⟨wb, 4, none⟩ = some (.int .i64 high))
    (hrb : wz.rowIs rb 31 5 fr)
    (h : ∀ (f : Nat → Value) (W : World), f 3 = .bool false → wz.grownBy W (some rb) → W.rowIs rb 31 5 (wcell (.map mv) next fall wide high) → K (Rh.puts f [3, 12, 13, 14, 15, 16, 17, 18, 19, 20, 21, 22, 23, 24, 25, 26, 27, 28, 29, 30, 31, 32, 33, 34, 35, 36, 37, 38] A) W) :
    Code.wp Tryz.prog wreg2 Q A wz := by
  have HSK := St.hid hsk
  have HRB := St.hid hrb
  have H := St.hid h
  have HQ := St.hid hQ
  clear hsk h hQ hrb
  conv => arg 2; whnf
  refine Rg.wp_region_inv (by kernel_rfl) (fun Lf a1 w1 => Hid (Rh.Fr [3, 12, 13, 14, 15, 16, 17, 18, 19, 20, 21, 22, 23, 24, 25, 26, 27, 28, 29, 30, 31, 32, 33, 34, 35, 36, 37, 38] A a1) ∧ Hid (Lf 0 = true → a1.tmps[12]?.getD undef = .map mv) ∧ Hid (Lf 1 = true → a1.tmps[13]?.getD undef = .pointer (some ⟨wb, 0, none⟩)) ∧ Hid (Lf 2 = true → a1.tmps[14]?.getD undef = .pointer (some ⟨wb, 1, none⟩)) ∧ Hid (Lf 3 = true → a1.tmps[15]?.getD undef = .int .i64 next) ∧ Hid (Lf 4 = true → a1.tmps[16]?.getD undef = .pointer (some ⟨wb, 2, none⟩)) ∧ Hid (Lf 5 = true → a1.tmps[17]?.getD undef = .int .i64 fall) ∧ Hid (Lf 6 = true → a1.tmps[18]?.getD undef = .pointer (some ⟨wb, 3, none⟩)) ∧ Hid (Lf 7 = true → a1.tmps[19]?.getD undef = .int .i64 wide) ∧ Hid (Lf 8 = true → a1.tmps[20]?.getD undef = .pointer (some ⟨wb, 4, none⟩)) ∧ Hid (Lf 9 = true → a1.tmps[21]?.getD undef = .int .i64 high) ∧ Hid (Lf 10 = true → a1.tmps[22]?.getD undef = .agg #[.map mv, .int .i64 next, .int .i64 fall, .int .i64 wide, .int .i64 high]) ∧ Hid (Lf 11 = true → a1.tmps[23]?.getD undef = .bool true) ∧ Hid (Lf 12 = true → a1.tmps[24]?.getD undef = .bool true) ∧ Hid (Lf 13 = true → a1.tmps[25]?.getD undef = .pointer (some ⟨wb, 2, none⟩)) ∧ Hid (Lf 14 = true → a1.tmps[26]?.getD undef = .int .i64 fall) ∧ Hid (Lf 15 = true → a1.tmps[27]?.getD undef = .bool true) ∧ Hid (Lf 16 = true → a1.tmps[28]?.getD undef = .bool true) ∧ Hid (Lf 17 = true → a1.tmps[29]?.getD undef = .bool true) ∧ Hid (Lf 18 = true → a1.tmps[30]?.getD undef = .pointer (some ⟨wb, 3, none⟩)) ∧ Hid (Lf 19 = true → a1.tmps[31]?.getD undef = .int .i64 wide) ∧ Hid (Lf 20 = true → a1.tmps[32]?.getD undef = .bool false) ∧ Hid (Lf 21 = true → a1.tmps[33]?.getD undef = .bool false) ∧ Hid (Lf 22 = true → a1.tmps[34]?.getD undef = .bool false) ∧ Hid (Lf 23 = true → a1.tmps[35]?.getD undef = undef) ∧ Hid (Lf 24 = true → a1.tmps[36]?.getD undef = undef) ∧ Hid (Lf 25 = true → a1.tmps[37]?.getD undef = undef) ∧ Hid (Lf 26 = true → a1.tmps[38]?.getD undef = .bool false) ∧ Hid (Lf 28 = true → a1.tmps[3]?.getD undef = .bool false) ∧ Hid (wz.grownBy w1 (some rb)) ∧ Hid (∃ f, w1.rowIs rb 31 5 f ∧ (Lf 27 = true → f = wcell (.map mv) next fall wide high))) (by kernel_rfl) ?rs ?rg ?re
  case rs =>
    refine ⟨St.hid (Rh.Fr.refl _ _), St.hid (fun h => by cases h), St.hid (fun h => by cases h), St.hid (fun h => by cases h), St.hid (fun h => by cases h), St.hid (fun h => by cases h), St.hid (fun h => by cases h), St.hid (fun h => by cases h), St.hid (fun h => by cases h), St.hid (fun h => by cases h), St.hid (fun h => by cases h), St.hid (fun h => by cases h), St.hid (fun h => by cases h), St.hid (fun h => by cases h), St.hid (fun h => by cases h), St.hid (fun h => by cases h), St.hid (fun h => by cases h), St.hid (fun h => by cases h), St.hid (fun h => by cases h), St.hid (fun h => by cases h), St.hid (fun h => by cases h), St.hid (fun h => by cases h), St.hid (fun h => by cases h), St.hid (fun h => by cases h), St.hid (fun h => by cases h), St.hid (fun h => by cases h), St.hid (fun h => by cases h), St.hid (fun h => by cases h), St.hid (fun h => by cases h), St.hid (grown_drew (grown_refl _ _)), St.hid ⟨fr, HRB.out.of_block rfl, fun h => by cases h⟩⟩
  case rg =>
    intro Lf a1 w1 hI
    obtain ⟨cF, c0, c1, c2, c3, c4, c5, c6, c7, c8, c9, c10, c11, c12, c13, c14, c15, c16, c17, c18, c19, c20, c21, c22, c23, c24, c25, c26, c28, cB, cE⟩ := hI
    refine ⟨fun hl hd K' hK => ?o0, fun hl hd K' hK => ?o1, fun hl hd K' hK => ?o2, fun hl hd K' hK => ?o3, fun hl hd K' hK => ?o4, fun hl hd K' hK => ?o5, fun hl hd K' hK => ?o6, fun hl hd K' hK => ?o7, fun hl hd K' hK => ?o8, fun hl hd K' hK => ?o9, fun hl hd K' hK => ?o10, fun hl hd K' hK => ?o11, fun hl hd K' hK => ?o12, fun hl hd K' hK => ?o13, fun hl hd K' hK => ?o14, fun hl hd K' hK => ?o15, fun hl hd K' hK => ?o16, fun hl hd K' hK => ?o17, fun hl hd K' hK => ?o18, fun hl hd K' hK => ?o19, fun hl hd K' hK => ?o20, fun hl hd K' hK => ?o21, fun hl hd K' hK => ?o22, fun hl hd K' hK => ?o23, fun hl hd K' hK => ?o24, fun hl hd K' hK => ?o25, fun hl hd K' hK => ?o26, fun hl hd K' hK => ?o27, fun hl hd K' hK => ?o28, trivial⟩
    case o0 =>
      clear hd
      have q9 := (cF.out.2.2 4 (by decide)).trans e4
      go_simp
      refine hK.out _ _ ⟨St.hid (cF.out.put (by decide) _), St.hid (fun _ => cF.out.at (by omega) _), kp c1, kp c2, kp c3, kp c4, kp c5, kp c6, kp c7, kp c8, kp c9, kp c10, kp c11, kp c12, kp c13, kp c14, kp c15, kp c16, kp c17, kp c18, kp c19, kp c20, kp c21, kp c22, kp c23, kp c24, kp c25, kp c26, kp c28, cB, St.hid (by obtain ⟨f9, h9, h8⟩ := cE.out; exact ⟨f9, h9, fun h => h8 (Rg.up_ne h (by decide))⟩)⟩
    case o1 =>
      clear hd
      have q9 := (cF.out.2.2 1 (by decide)).trans e1
      go_simp
      refine hK.out _ _ ⟨St.hid (cF.out.put (by decide) _), kp c0, St.hid (fun _ => cF.out.at (by omega) _), kp c2, kp c3, kp c4, kp c5, kp c6, kp c7, kp c8, kp c9, kp c10, kp c11, kp c12, kp c13, kp c14, kp c15, kp c16, kp c17, kp c18, kp c19, kp c20, kp c21, kp c22, kp c23, kp c24, kp c25, kp c26, kp c28, cB, St.hid (by obtain ⟨f9, h9, h8⟩ := cE.out; exact ⟨f9, h9, fun h => h8 (Rg.up_ne h (by decide))⟩)⟩
    case o2 =>
      simp [Rg.deps, Region.binds] at hd
      have q0 := c1.out (by simp only [hd])
      go_simp
      refine hK.out _ _ ⟨St.hid (cF.out.put (by decide) _), kp c0, kp c1, St.hid (fun _ => cF.out.at (by omega) _), kp c3, kp c4, kp c5, kp c6, kp c7, kp c8, kp c9, kp c10, kp c11, kp c12, kp c13, kp c14, kp c15, kp c16, kp c17, kp c18, kp c19, kp c20, kp c21, kp c22, kp c23, kp c24, kp c25, kp c26, kp c28, cB, St.hid (by obtain ⟨f9, h9, h8⟩ := cE.out; exact ⟨f9, h9, fun h => h8 (Rg.up_ne h (by decide))⟩)⟩
    case o3 =>
      simp [Rg.deps, Region.binds] at hd
      have q0 := c2.out (by simp only [hd])
      obtain ⟨x1, -⟩ := HSK.out _ cB.out
      go_simp
      refine hK.out _ _ ⟨St.hid (cF.out.put (by decide) _), kp c0, kp c1, kp c2, St.hid (fun _ => cF.out.at (by omega) _), kp c4, kp c5, kp c6, kp c7, kp c8, kp c9, kp c10, kp c11, kp c12, kp c13, kp c14, kp c15, kp c16, kp c17, kp c18, kp c19, kp c20, kp c21, kp c22, kp c23, kp c24, kp c25, kp c26, kp c28, cB, St.hid (by obtain ⟨f9, h9, h8⟩ := cE.out; exact ⟨f9, h9, fun h => h8 (Rg.up_ne h (by decide))⟩)⟩
    case o4 =>
      clear hd
      have q9 := (cF.out.2.2 1 (by decide)).trans e1
      go_simp
      refine hK.out _ _ ⟨St.hid (cF.out.put (by decide) _), kp c0, kp c1, kp c2, kp c3, St.hid (fun _ => cF.out.at (by omega) _), kp c5, kp c6, kp c7, kp c8, kp c9, kp c10, kp c11, kp c12, kp c13, kp c14, kp c15, kp c16, kp c17, kp c18, kp c19, kp c20, kp c21, kp c22, kp c23, kp c24, kp c25, kp c26, kp c28, cB, St.hid (by obtain ⟨f9, h9, h8⟩ := cE.out; exact ⟨f9, h9, fun h => h8 (Rg.up_ne h (by decide))⟩)⟩
    case o5 =>
      simp [Rg.deps, Region.binds] at hd
      have q0 := c4.out (by simp only [hd])
      obtain ⟨-, x2, -⟩ := HSK.out _ cB.out
      go_simp
      refine hK.out _ _ ⟨St.hid (cF.out.put (by decide) _), kp c0, kp c1, kp c2, kp c3, kp c4, St.hid (fun _ => cF.out.at (by omega) _), kp c6, kp c7, kp c8, kp c9, kp c10, kp c11, kp c12, kp c13, kp c14, kp c15, kp c16, kp c17, kp c18, kp c19, kp c20, kp c21, kp c22, kp c23, kp c24, kp c25, kp c26, kp c28, cB, St.hid (by obtain ⟨f9, h9, h8⟩ := cE.out; exact ⟨f9, h9, fun h => h8 (Rg.up_ne h (by decide))⟩)⟩
    case o6 =>
      clear hd
      have q9 := (cF.out.2.2 1 (by decide)).trans e1
      go_simp
      refine hK.out _ _ ⟨St.hid (cF.out.put (by decide) _), kp c0, kp c1, kp c2, kp c3, kp c4, kp c5, St.hid (fun _ => cF.out.at (by omega) _), kp c7, kp c8, kp c9, kp c10, kp c11, kp c12, kp c13, kp c14, kp c15, kp c16, kp c17, kp c18, kp c19, kp c20, kp c21, kp c22, kp c23, kp c24, kp c25, kp c26, kp c28, cB, St.hid (by obtain ⟨f9, h9, h8⟩ := cE.out; exact ⟨f9, h9, fun h => h8 (Rg.up_ne h (by decide))⟩)⟩
    case o7 =>
      simp [Rg.deps, Region.binds] at hd
      have q0 := c6.out (by simp only [hd])
      obtain ⟨-, -, x3, -⟩ := HSK.out _ cB.out
      go_simp
      refine hK.out _ _ ⟨St.hid (cF.out.put (by decide) _), kp c0, kp c1, kp c2, kp c3, kp c4, kp c5, kp c6, St.hid (fun _ => cF.out.at (by omega) _), kp c8, kp c9, kp c10, kp c11, kp c12, kp c13, kp c14, kp c15, kp c16, kp c17, kp c18, kp c19, kp c20, kp c21, kp c22, kp c23, kp c24, kp c25, kp c26, kp c28, cB, St.hid (by obtain ⟨f9, h9, h8⟩ := cE.out; exact ⟨f9, h9, fun h => h8 (Rg.up_ne h (by decide))⟩)⟩
    case o8 =>
      clear hd
      have q9 := (cF.out.2.2 1 (by decide)).trans e1
      go_simp
      refine hK.out _ _ ⟨St.hid (cF.out.put (by decide) _), kp c0, kp c1, kp c2, kp c3, kp c4, kp c5, kp c6, kp c7, St.hid (fun _ => cF.out.at (by omega) _), kp c9, kp c10, kp c11, kp c12, kp c13, kp c14, kp c15, kp c16, kp c17, kp c18, kp c19, kp c20, kp c21, kp c22, kp c23, kp c24, kp c25, kp c26, kp c28, cB, St.hid (by obtain ⟨f9, h9, h8⟩ := cE.out; exact ⟨f9, h9, fun h => h8 (Rg.up_ne h (by decide))⟩)⟩
    case o9 =>
      simp [Rg.deps, Region.binds] at hd
      have q0 := c8.out (by simp only [hd])
      obtain ⟨-, -, -, x4⟩ := HSK.out _ cB.out
      go_simp
      refine hK.out _ _ ⟨St.hid (cF.out.put (by decide) _), kp c0, kp c1, kp c2, kp c3, kp c4, kp c5, kp c6, kp c7, kp c8, St.hid (fun _ => cF.out.at (by omega) _), kp c10, kp c11, kp c12, kp c13, kp c14, kp c15, kp c16, kp c17, kp c18, kp c19, kp c20, kp c21, kp c22, kp c23, kp c24, kp c25, kp c26, kp c28, cB, St.hid (by obtain ⟨f9, h9, h8⟩ := cE.out; exact ⟨f9, h9, fun h => h8 (Rg.up_ne h (by decide))⟩)⟩
    case o10 =>
      simp [Rg.deps, Region.binds] at hd
      have q0 := c0.out (by simp only [hd])
      have q1 := c3.out (by simp only [hd])
      have q2 := c5.out (by simp only [hd])
      have q3 := c7.out (by simp only [hd])
      have q4 := c9.out (by simp only [hd])
      go_simp
      refine hK.out _ _ ⟨St.hid (cF.out.put (by decide) _), kp c0, kp c1, kp c2, kp c3, kp c4, kp c5, kp c6, kp c7, kp c8, kp c9, St.hid (fun _ => cF.out.at (by omega) _), kp c11, kp c12, kp c13, kp c14, kp c15, kp c16, kp c17, kp c18, kp c19, kp c20, kp c21, kp c22, kp c23, kp c24, kp c25, kp c26, kp c28, cB, St.hid (by obtain ⟨f9, h9, h8⟩ := cE.out; exact ⟨f9, h9, fun h => h8 (Rg.up_ne h (by decide))⟩)⟩
    case o11 =>
      clear hd
      have q9 := (cF.out.2.2 5 (by decide)).trans e5
      go_simp
      refine hK.out _ _ ⟨St.hid (cF.out.put (by decide) _), kp c0, kp c1, kp c2, kp c3, kp c4, kp c5, kp c6, kp c7, kp c8, kp c9, kp c10, St.hid (fun _ => cF.out.at (by omega) _), kp c12, kp c13, kp c14, kp c15, kp c16, kp c17, kp c18, kp c19, kp c20, kp c21, kp c22, kp c23, kp c24, kp c25, kp c26, kp c28, cB, St.hid (by obtain ⟨f9, h9, h8⟩ := cE.out; exact ⟨f9, h9, fun h => h8 (Rg.up_ne h (by decide))⟩)⟩
    case o12 =>
      simp [Rg.deps, Region.binds] at hd
      have q0 := c11.out (by simp only [hd])
      go_simp
      refine hK.out _ _ ⟨St.hid (cF.out.put (by decide) _), kp c0, kp c1, kp c2, kp c3, kp c4, kp c5, kp c6, kp c7, kp c8, kp c9, kp c10, kp c11, St.hid (fun _ => cF.out.at (by omega) _), kp c13, kp c14, kp c15, kp c16, kp c17, kp c18, kp c19, kp c20, kp c21, kp c22, kp c23, kp c24, kp c25, kp c26, kp c28, cB, St.hid (by obtain ⟨f9, h9, h8⟩ := cE.out; exact ⟨f9, h9, fun h => h8 (Rg.up_ne h (by decide))⟩)⟩
    case o13 =>
      simp [Rg.deps, Region.binds] at hd
      have q9 := (cF.out.2.2 1 (by decide)).trans e1
      have q0 := c12.out (by simp only [hd])
      have qg := gd_some q0
      go_simp
      refine hK.out _ _ ⟨St.hid (cF.out.put (by decide) _), kp c0, kp c1, kp c2, kp c3, kp c4, kp c5, kp c6, kp c7, kp c8, kp c9, kp c10, kp c11, kp c12, St.hid (fun _ => cF.out.at (by omega) _), kp c14, kp c15, kp c16, kp c17, kp c18, kp c19, kp c20, kp c21, kp c22, kp c23, kp c24, kp c25, kp c26, kp c28, cB, St.hid (by obtain ⟨f9, h9, h8⟩ := cE.out; exact ⟨f9, h9, fun h => h8 (Rg.up_ne h (by decide))⟩)⟩
    case o14 =>
      simp [Rg.deps, Region.binds] at hd
      have q0 := c12.out (by simp only [hd])
      have q1 := c13.out (by simp only [hd])
      have qg := gd_some q0
      obtain ⟨-, x2, -⟩ := HSK.out _ cB.out
      go_simp
      refine hK.out _ _ ⟨St.hid (cF.out.put (by decide) _), kp c0, kp c1, kp c2, kp c3, kp c4, kp c5, kp c6, kp c7, kp c8, kp c9, kp c10, kp c11, kp c12, kp c13, St.hid (fun _ => cF.out.at (by omega) _), kp c15, kp c16, kp c17, kp c18, kp c19, kp c20, kp c21, kp c22, kp c23, kp c24, kp c25, kp c26, kp c28, cB, St.hid (by obtain ⟨f9, h9, h8⟩ := cE.out; exact ⟨f9, h9, fun h => h8 (Rg.up_ne h (by decide))⟩)⟩
    case o15 =>
      simp [Rg.deps, Region.binds] at hd
      have q0 := c12.out (by simp only [hd])
      have q1 := c14.out (by simp only [hd])
      have qg := gd_some q0
      go_simp
      refine (Th.within_any _ _ _ _).mono ?_
      rintro e w2 ⟨rfl, hw2⟩
      subst hw2
      go_simp
      refine hK.out _ _ ⟨St.hid (cF.out.put (by decide) _), kp c0, kp c1, kp c2, kp c3, kp c4, kp c5, kp c6, kp c7, kp c8, kp c9, kp c10, kp c11, kp c12, kp c13, kp c14, St.hid (fun _ => cF.out.at (by omega) _), kp c16, kp c17, kp c18, kp c19, kp c20, kp c21, kp c22, kp c23, kp c24, kp c25, kp c26, kp c28, cB, St.hid (by obtain ⟨f9, h9, h8⟩ := cE.out; exact ⟨f9, h9, fun h => h8 (Rg.up_ne h (by decide))⟩)⟩
    case o16 =>
      simp [Rg.deps, Region.binds] at hd
      have q0 := c12.out (by simp only [hd])
      have q1 := c15.out (by simp only [hd])
      go_simp
      refine hK.out _ _ ⟨St.hid (cF.out.put (by decide) _), kp c0, kp c1, kp c2, kp c3, kp c4, kp c5, kp c6, kp c7, kp c8, kp c9, kp c10, kp c11, kp c12, kp c13, kp c14, kp c15, St.hid (fun _ => cF.out.at (by omega) _), kp c17, kp c18, kp c19, kp c20, kp c21, kp c22, kp c23, kp c24, kp c25, kp c26, kp c28, cB, St.hid (by obtain ⟨f9, h9, h8⟩ := cE.out; exact ⟨f9, h9, fun h => h8 (Rg.up_ne h (by decide))⟩)⟩
    case o17 =>
      simp [Rg.deps, Region.binds] at hd
      have q0 := c16.out (by simp only [hd])
      go_simp
      refine hK.out _ _ ⟨St.hid (cF.out.put (by decide) _), kp c0, kp c1, kp c2, kp c3, kp c4, kp c5, kp c6, kp c7, kp c8, kp c9, kp c10, kp c11, kp c12, kp c13, kp c14, kp c15, kp c16, St.hid (fun _ => cF.out.at (by omega) _), kp c18, kp c19, kp c20, kp c21, kp c22, kp c23, kp c24, kp c25, kp c26, kp c28, cB, St.hid (by obtain ⟨f9, h9, h8⟩ := cE.out; exact ⟨f9, h9, fun h => h8 (Rg.up_ne h (by decide))⟩)⟩
    case o18 =>
      simp [Rg.deps, Region.binds] at hd
      have q9 := (cF.out.2.2 1 (by decide)).trans e1
      have q0 := c17.out (by simp only [hd])
      have qg := gd_some q0
      go_simp
      refine hK.out _ _ ⟨St.hid (cF.out.put (by decide) _), kp c0, kp c1, kp c2, kp c3, kp c4, kp c5, kp c6, kp c7, kp c8, kp c9, kp c10, kp c11, kp c12, kp c13, kp c14, kp c15, kp c16, kp c17, St.hid (fun _ => cF.out.at (by omega) _), kp c19, kp c20, kp c21, kp c22, kp c23, kp c24, kp c25, kp c26, kp c28, cB, St.hid (by obtain ⟨f9, h9, h8⟩ := cE.out; exact ⟨f9, h9, fun h => h8 (Rg.up_ne h (by decide))⟩)⟩
    case o19 =>
      simp [Rg.deps, Region.binds] at hd
      have q0 := c17.out (by simp only [hd])
      have q1 := c18.out (by simp only [hd])
      have qg := gd_some q0
      obtain ⟨-, -, x3, -⟩ := HSK.out _ cB.out
      go_simp
      refine hK.out _ _ ⟨St.hid (cF.out.put (by decide) _), kp c0, kp c1, kp c2, kp c3, kp c4, kp c5, kp c6, kp c7, kp c8, kp c9, kp c10, kp c11, kp c12, kp c13, kp c14, kp c15, kp c16, kp c17, kp c18, St.hid (fun _ => cF.out.at (by omega) _), kp c20, kp c21, kp c22, kp c23, kp c24, kp c25, kp c26, kp c28, cB, St.hid (by obtain ⟨f9, h9, h8⟩ := cE.out; exact ⟨f9, h9, fun h => h8 (Rg.up_ne h (by decide))⟩)⟩
    case o20 =>
      simp [Rg.deps, Region.binds] at hd
      have q0 := c17.out (by simp only [hd])
      have q1 := c19.out (by simp only [hd])
      have qg := gd_some q0
      go_simp
      refine (Th.within_any _ _ _ _).mono ?_
      rintro e w2 ⟨rfl, hw2⟩
      subst hw2
      go_simp
      refine hK.out _ _ ⟨St.hid (cF.out.put (by decide) _), kp c0, kp c1, kp c2, kp c3, kp c4, kp c5, kp c6, kp c7, kp c8, kp c9, kp c10, kp c11, kp c12, kp c13, kp c14, kp c15, kp c16, kp c17, kp c18, kp c19, St.hid (fun _ => cF.out.at (by omega) _), kp c21, kp c22, kp c23, kp c24, kp c25, kp c26, kp c28, cB, St.hid (by obtain ⟨f9, h9, h8⟩ := cE.out; exact ⟨f9, h9, fun h => h8 (Rg.up_ne h (by decide))⟩)⟩
    case o21 =>
      simp [Rg.deps, Region.binds] at hd
      have q0 := c17.out (by simp only [hd])
      have q1 := c20.out (by simp only [hd])
      go_simp
      refine hK.out _ _ ⟨St.hid (cF.out.put (by decide) _), kp c0, kp c1, kp c2, kp c3, kp c4, kp c5, kp c6, kp c7, kp c8, kp c9, kp c10, kp c11, kp c12, kp c13, kp c14, kp c15, kp c16, kp c17, kp c18, kp c19, kp c20, St.hid (fun _ => cF.out.at (by omega) _), kp c22, kp c23, kp c24, kp c25, kp c26, kp c28, cB, St.hid (by obtain ⟨f9, h9, h8⟩ := cE.out; exact ⟨f9, h9, fun h => h8 (Rg.up_ne h (by decide))⟩)⟩
    case o22 =>
      simp [Rg.deps, Region.binds] at hd
      have q0 := c21.out (by simp only [hd])
      go_simp
      refine hK.out _ _ ⟨St.hid (cF.out.put (by decide) _), kp c0, kp c1, kp c2, kp c3, kp c4, kp c5, kp c6, kp c7, kp c8, kp c9, kp c10, kp c11, kp c12, kp c13, kp c14, kp c15, kp c16, kp c17, kp c18, kp c19, kp c20, kp c21, St.hid (fun _ => cF.out.at (by omega) _), kp c23, kp c24, kp c25, kp c26, kp c28, cB, St.hid (by obtain ⟨f9, h9, h8⟩ := cE.out; exact ⟨f9, h9, fun h => h8 (Rg.up_ne h (by decide))⟩)⟩
    case o23 =>
      simp [Rg.deps, Region.binds] at hd
      have q9 := (cF.out.2.2 1 (by decide)).trans e1
      have q0 := c22.out (by simp only [hd])
      have qg := gd_some q0
      go_simp
      refine hK.out _ _ ⟨St.hid (cF.out.put (by decide) _), kp c0, kp c1, kp c2, kp c3, kp c4, kp c5, kp c6, kp c7, kp c8, kp c9, kp c10, kp c11, kp c12, kp c13, kp c14, kp c15, kp c16, kp c17, kp c18, kp c19, kp c20, kp c21, kp c22, St.hid (fun _ => cF.out.at (by omega) _), kp c24, kp c25, kp c26, kp c28, cB, St.hid (by obtain ⟨f9, h9, h8⟩ := cE.out; exact ⟨f9, h9, fun h => h8 (Rg.up_ne h (by decide))⟩)⟩
    case o24 =>
      simp [Rg.deps, Region.binds] at hd
      have q0 := c22.out (by simp only [hd])
      have q1 := c23.out (by simp only [hd])
      have qg := gd_some q0
      go_simp
      refine hK.out _ _ ⟨St.hid (cF.out.put (by decide) _), kp c0, kp c1, kp c2, kp c3, kp c4, kp c5, kp c6, kp c7, kp c8, kp c9, kp c10, kp c11, kp c12, kp c13, kp c14, kp c15, kp c16, kp c17, kp c18, kp c19, kp c20, kp c21, kp c22, kp c23, St.hid (fun _ => cF.out.at (by omega) _), kp c25, kp c26, kp c28, cB, St.hid (by obtain ⟨f9, h9, h8⟩ := cE.out; exact ⟨f9, h9, fun h => h8 (Rg.up_ne h (by decide))⟩)⟩
    case o25 =>
      simp [Rg.deps, Region.binds] at hd
      have q0 := c22.out (by simp only [hd])
      have q1 := c24.out (by simp only [hd])
      have qg := gd_some q0
      go_simp
      refine hK.out _ _ ⟨St.hid (cF.out.put (by decide) _), kp c0, kp c1, kp c2, kp c3, kp c4, kp c5, kp c6, kp c7, kp c8, kp c9, kp c10, kp c11, kp c12, kp c13, kp c14, kp c15, kp c16, kp c17, kp c18, kp c19, kp c20, kp c21, kp c22, kp c23, kp c24, St.hid (fun _ => cF.out.at (by omega) _), kp c26, kp c28, cB, St.hid (by obtain ⟨f9, h9, h8⟩ := cE.out; exact ⟨f9, h9, fun h => h8 (Rg.up_ne h (by decide))⟩)⟩
    case o26 =>
      simp [Rg.deps, Region.binds] at hd
      have q0 := c22.out (by simp only [hd])
      have q1 := c25.out (by simp only [hd])
      go_simp
      refine hK.out _ _ ⟨St.hid (cF.out.put (by decide) _), kp c0, kp c1, kp c2, kp c3, kp c4, kp c5, kp c6, kp c7, kp c8, kp c9, kp c10, kp c11, kp c12, kp c13, kp c14, kp c15, kp c16, kp c17, kp c18, kp c19, kp c20, kp c21, kp c22, kp c23, kp c24, kp c25, St.hid (fun _ => cF.out.at (by omega) _), kp c28, cB, St.hid (by obtain ⟨f9, h9, h8⟩ := cE.out; exact ⟨f9, h9, fun h => h8 (Rg.up_ne h (by decide))⟩)⟩
    case o27 =>
      simp [Rg.deps, Region.binds] at hd
      have q0 := c10.out (by simp only [hd])
      obtain ⟨f9, hrb, -⟩ := cE.out
      have HRB9 := St.hid hrb
      have q9 := (cF.out.2.2 2 (by decide)).trans e2
      have x0 := hrb.cell (i := 0) (by omega)
      have k0 := hrb.frozen 0
      have x1 := hrb.cell (i := 1) (by omega)
      have k1 := hrb.frozen 1
      have x2 := hrb.cell (i := 2) (by omega)
      have k2 := hrb.frozen 2
      have x3 := hrb.cell (i := 3) (by omega)
      have k3 := hrb.frozen 3
      have x4 := hrb.cell (i := 4) (by omega)
      have k4 := hrb.frozen 4
      clear hrb e1 e2 e4 e5
      go_simp
      refine hK.out _ _ ⟨cF, kq c0, kq c1, kq c2, kq c3, kq c4, kq c5, kq c6, kq c7, kq c8, kq c9, kq c10, kq c11, kq c12, kq c13, kq c14, kq c15, kq c16, kq c17, kq c18, kq c19, kq c20, kq c21, kq c22, kq c23, kq c24, kq c25, kq c26, kq c28, St.hid (cB.out.trans (grown5 _ _ _ _ _ _ _)), St.hid ⟨_, row5 HRB9.out _ _ _ _ _, fun _ => rfl⟩⟩
    case o28 =>
      simp [Rg.deps, Region.binds] at hd
      have q0 := c26.out (by simp only [hd])
      go_simp
      refine hK.out _ _ ⟨St.hid (cF.out.put (by decide) _), kp c0, kp c1, kp c2, kp c3, kp c4, kp c5, kp c6, kp c7, kp c8, kp c9, kp c10, kp c11, kp c12, kp c13, kp c14, kp c15, kp c16, kp c17, kp c18, kp c19, kp c20, kp c21, kp c22, kp c23, kp c24, kp c25, kp c26, St.hid (fun _ => cF.out.at (by omega) _), cB, St.hid (by obtain ⟨f9, h9, h8⟩ := cE.out; exact ⟨f9, h9, fun h => h8 (Rg.up_ne h (by decide))⟩)⟩
  case re =>
    intro Lf a1 w1 hI hall
    obtain ⟨cF, c0, c1, c2, c3, c4, c5, c6, c7, c8, c9, c10, c11, c12, c13, c14, c15, c16, c17, c18, c19, c20, c21, c22, c23, c24, c25, c26, c28, cB, cE⟩ := hI
    obtain ⟨f9, h9, h8⟩ := cE.out
    obtain rfl := h8 (hall 27 (by decide))
    have e := cF.out.eq (fun d => a1.tmps[d]?.getD undef) (fun _ _ => rfl)
    refine HQ.out _ _ ?_
    rw [e]
    exact H.out (fun d => a1.tmps[d]?.getD undef) w1 (c28.out (hall 28 (by decide))) cB.out h9
attribute [local go_sem ↓] Go.wp_at_zero Go.wp_at_succ
set_option maxHeartbeats 16000000 in
set_option maxRecDepth 100000 in
theorem wreg_d (K : Act → World → Prop) (Q : Exit → Act → World → Prop) (hQ : ∀ a w, K a w → Q .normal a w) (A : Act) (wb rb : Nat) (mv : Option Nat) (next fall wide high : Int) (wz : World) (fr : Nat → Value)
    (e1 : A.tmps[1]?.getD undef = .pointer (some ⟨wb, 0, none⟩)) (e2 : A.tmps[2]?.getD undef = .pointer (some ⟨rb, 0, none⟩)) (e4 : A.tmps[4]?.getD undef = .map mv) (e5 : A.tmps[5]?.getD undef = .bool true) (hsz : 38 < A.tmps.size) (hbf : btw fall (-64) 64 = true) (hbw : btw wide 1 1048576 = true)
    (hsk : ∀ W, wz.grownBy W (some rb) → W.cell? ⟨wb, 1, none⟩ = some (.int .i64 next) ∧ W.cell? ⟨wb, 2, none⟩ = some (.int .i64 fall) ∧ W.cell? ⟨wb, 3, none⟩ = some (.int .i64 wide) ∧ W.cell? ⟨wb, 4, none⟩ = some (.int .i64 high))
    (hrb : wz.rowIs rb 31 5 fr)
    (h : ∀ (f : Nat → Value) (W : World), f 3 = .bool (btw high 1 1048576) → wz.grownBy W (some rb) → W.rowIs rb 31 5 (wcell (.map mv) next fall wide high) → K (Rh.puts f [3, 12, 13, 14, 15, 16, 17, 18, 19, 20, 21, 22, 23, 24, 25, 26, 27, 28, 29, 30, 31, 32, 33, 34, 35, 36, 37, 38] A) W) :
    Code.wp Tryz.prog wreg2 Q A wz := by
  have HSK := St.hid hsk
  have HRB := St.hid hrb
  have H := St.hid h
  have HQ := St.hid hQ
  clear hsk h hQ hrb
  conv => arg 2; whnf
  refine Rg.wp_region_inv (by kernel_rfl) (fun Lf a1 w1 => Hid (Rh.Fr [3, 12, 13, 14, 15, 16, 17, 18, 19, 20, 21, 22, 23, 24, 25, 26, 27, 28, 29, 30, 31, 32, 33, 34, 35, 36, 37, 38] A a1) ∧ Hid (Lf 0 = true → a1.tmps[12]?.getD undef = .map mv) ∧ Hid (Lf 1 = true → a1.tmps[13]?.getD undef = .pointer (some ⟨wb, 0, none⟩)) ∧ Hid (Lf 2 = true → a1.tmps[14]?.getD undef = .pointer (some ⟨wb, 1, none⟩)) ∧ Hid (Lf 3 = true → a1.tmps[15]?.getD undef = .int .i64 next) ∧ Hid (Lf 4 = true → a1.tmps[16]?.getD undef = .pointer (some ⟨wb, 2, none⟩)) ∧ Hid (Lf 5 = true → a1.tmps[17]?.getD undef = .int .i64 fall) ∧ Hid (Lf 6 = true → a1.tmps[18]?.getD undef = .pointer (some ⟨wb, 3, none⟩)) ∧ Hid (Lf 7 = true → a1.tmps[19]?.getD undef = .int .i64 wide) ∧ Hid (Lf 8 = true → a1.tmps[20]?.getD undef = .pointer (some ⟨wb, 4, none⟩)) ∧ Hid (Lf 9 = true → a1.tmps[21]?.getD undef = .int .i64 high) ∧ Hid (Lf 10 = true → a1.tmps[22]?.getD undef = .agg #[.map mv, .int .i64 next, .int .i64 fall, .int .i64 wide, .int .i64 high]) ∧ Hid (Lf 11 = true → a1.tmps[23]?.getD undef = .bool true) ∧ Hid (Lf 12 = true → a1.tmps[24]?.getD undef = .bool true) ∧ Hid (Lf 13 = true → a1.tmps[25]?.getD undef = .pointer (some ⟨wb, 2, none⟩)) ∧ Hid (Lf 14 = true → a1.tmps[26]?.getD undef = .int .i64 fall) ∧ Hid (Lf 15 = true → a1.tmps[27]?.getD undef = .bool true) ∧ Hid (Lf 16 = true → a1.tmps[28]?.getD undef = .bool true) ∧ Hid (Lf 17 = true → a1.tmps[29]?.getD undef = .bool true) ∧ Hid (Lf 18 = true → a1.tmps[30]?.getD undef = .pointer (some ⟨wb, 3, none⟩)) ∧ Hid (Lf 19 = true → a1.tmps[31]?.getD undef = .int .i64 wide) ∧ Hid (Lf 20 = true → a1.tmps[32]?.getD undef = .bool true) ∧ Hid (Lf 21 = true → a1.tmps[33]?.getD undef = .bool true) ∧ Hid (Lf 22 = true → a1.tmps[34]?.getD undef = .bool true) ∧ Hid (Lf 23 = true → a1.tmps[35]?.getD undef = .pointer (some ⟨wb, 4, none⟩)) ∧ Hid (Lf 24 = true → a1.tmps[36]?.getD undef = .int .i64 high) ∧ Hid (Lf 25 = true → a1.tmps[37]?.getD undef = .bool (btw high 1 1048576)) ∧ Hid (Lf 26 = true → a1.tmps[38]?.getD undef = .bool (btw high 1 1048576)) ∧ Hid (Lf 28 = true → a1.tmps[3]?.getD undef = .bool (btw high 1 1048576)) ∧ Hid (wz.grownBy w1 (some rb)) ∧ Hid (∃ f, w1.rowIs rb 31 5 f ∧ (Lf 27 = true → f = wcell (.map mv) next fall wide high))) (by kernel_rfl) ?rs ?rg ?re
  case rs =>
    refine ⟨St.hid (Rh.Fr.refl _ _), St.hid (fun h => by cases h), St.hid (fun h => by cases h), St.hid (fun h => by cases h), St.hid (fun h => by cases h), St.hid (fun h => by cases h), St.hid (fun h => by cases h), St.hid (fun h => by cases h), St.hid (fun h => by cases h), St.hid (fun h => by cases h), St.hid (fun h => by cases h), St.hid (fun h => by cases h), St.hid (fun h => by cases h), St.hid (fun h => by cases h), St.hid (fun h => by cases h), St.hid (fun h => by cases h), St.hid (fun h => by cases h), St.hid (fun h => by cases h), St.hid (fun h => by cases h), St.hid (fun h => by cases h), St.hid (fun h => by cases h), St.hid (fun h => by cases h), St.hid (fun h => by cases h), St.hid (fun h => by cases h), St.hid (fun h => by cases h), St.hid (fun h => by cases h), St.hid (fun h => by cases h), St.hid (fun h => by cases h), St.hid (fun h => by cases h), St.hid (grown_drew (grown_refl _ _)), St.hid ⟨fr, HRB.out.of_block rfl, fun h => by cases h⟩⟩
  case rg =>
    intro Lf a1 w1 hI
    obtain ⟨cF, c0, c1, c2, c3, c4, c5, c6, c7, c8, c9, c10, c11, c12, c13, c14, c15, c16, c17, c18, c19, c20, c21, c22, c23, c24, c25, c26, c28, cB, cE⟩ := hI
    refine ⟨fun hl hd K' hK => ?o0, fun hl hd K' hK => ?o1, fun hl hd K' hK => ?o2, fun hl hd K' hK => ?o3, fun hl hd K' hK => ?o4, fun hl hd K' hK => ?o5, fun hl hd K' hK => ?o6, fun hl hd K' hK => ?o7, fun hl hd K' hK => ?o8, fun hl hd K' hK => ?o9, fun hl hd K' hK => ?o10, fun hl hd K' hK => ?o11, fun hl hd K' hK => ?o12, fun hl hd K' hK => ?o13, fun hl hd K' hK => ?o14, fun hl hd K' hK => ?o15, fun hl hd K' hK => ?o16, fun hl hd K' hK => ?o17, fun hl hd K' hK => ?o18, fun hl hd K' hK => ?o19, fun hl hd K' hK => ?o20, fun hl hd K' hK => ?o21, fun hl hd K' hK => ?o22, fun hl hd K' hK => ?o23, fun hl hd K' hK => ?o24, fun hl hd K' hK => ?o25, fun hl hd K' hK => ?o26, fun hl hd K' hK => ?o27, fun hl hd K' hK => ?o28, trivial⟩
    case o0 =>
      clear hd
      have q9 := (cF.out.2.2 4 (by decide)).trans e4
      go_simp
      refine hK.out _ _ ⟨St.hid (cF.out.put (by decide) _), St.hid (fun _ => cF.out.at (by omega) _), kp c1, kp c2, kp c3, kp c4, kp c5, kp c6, kp c7, kp c8, kp c9, kp c10, kp c11, kp c12, kp c13, kp c14, kp c15, kp c16, kp c17, kp c18, kp c19, kp c20, kp c21, kp c22, kp c23, kp c24, kp c25, kp c26, kp c28, cB, St.hid (by obtain ⟨f9, h9, h8⟩ := cE.out; exact ⟨f9, h9, fun h => h8 (Rg.up_ne h (by decide))⟩)⟩
    case o1 =>
      clear hd
      have q9 := (cF.out.2.2 1 (by decide)).trans e1
      go_simp
      refine hK.out _ _ ⟨St.hid (cF.out.put (by decide) _), kp c0, St.hid (fun _ => cF.out.at (by omega) _), kp c2, kp c3, kp c4, kp c5, kp c6, kp c7, kp c8, kp c9, kp c10, kp c11, kp c12, kp c13, kp c14, kp c15, kp c16, kp c17, kp c18, kp c19, kp c20, kp c21, kp c22, kp c23, kp c24, kp c25, kp c26, kp c28, cB, St.hid (by obtain ⟨f9, h9, h8⟩ := cE.out; exact ⟨f9, h9, fun h => h8 (Rg.up_ne h (by decide))⟩)⟩
    case o2 =>
      simp [Rg.deps, Region.binds] at hd
      have q0 := c1.out (by simp only [hd])
      go_simp
      refine hK.out _ _ ⟨St.hid (cF.out.put (by decide) _), kp c0, kp c1, St.hid (fun _ => cF.out.at (by omega) _), kp c3, kp c4, kp c5, kp c6, kp c7, kp c8, kp c9, kp c10, kp c11, kp c12, kp c13, kp c14, kp c15, kp c16, kp c17, kp c18, kp c19, kp c20, kp c21, kp c22, kp c23, kp c24, kp c25, kp c26, kp c28, cB, St.hid (by obtain ⟨f9, h9, h8⟩ := cE.out; exact ⟨f9, h9, fun h => h8 (Rg.up_ne h (by decide))⟩)⟩
    case o3 =>
      simp [Rg.deps, Region.binds] at hd
      have q0 := c2.out (by simp only [hd])
      obtain ⟨x1, -⟩ := HSK.out _ cB.out
      go_simp
      refine hK.out _ _ ⟨St.hid (cF.out.put (by decide) _), kp c0, kp c1, kp c2, St.hid (fun _ => cF.out.at (by omega) _), kp c4, kp c5, kp c6, kp c7, kp c8, kp c9, kp c10, kp c11, kp c12, kp c13, kp c14, kp c15, kp c16, kp c17, kp c18, kp c19, kp c20, kp c21, kp c22, kp c23, kp c24, kp c25, kp c26, kp c28, cB, St.hid (by obtain ⟨f9, h9, h8⟩ := cE.out; exact ⟨f9, h9, fun h => h8 (Rg.up_ne h (by decide))⟩)⟩
    case o4 =>
      clear hd
      have q9 := (cF.out.2.2 1 (by decide)).trans e1
      go_simp
      refine hK.out _ _ ⟨St.hid (cF.out.put (by decide) _), kp c0, kp c1, kp c2, kp c3, St.hid (fun _ => cF.out.at (by omega) _), kp c5, kp c6, kp c7, kp c8, kp c9, kp c10, kp c11, kp c12, kp c13, kp c14, kp c15, kp c16, kp c17, kp c18, kp c19, kp c20, kp c21, kp c22, kp c23, kp c24, kp c25, kp c26, kp c28, cB, St.hid (by obtain ⟨f9, h9, h8⟩ := cE.out; exact ⟨f9, h9, fun h => h8 (Rg.up_ne h (by decide))⟩)⟩
    case o5 =>
      simp [Rg.deps, Region.binds] at hd
      have q0 := c4.out (by simp only [hd])
      obtain ⟨-, x2, -⟩ := HSK.out _ cB.out
      go_simp
      refine hK.out _ _ ⟨St.hid (cF.out.put (by decide) _), kp c0, kp c1, kp c2, kp c3, kp c4, St.hid (fun _ => cF.out.at (by omega) _), kp c6, kp c7, kp c8, kp c9, kp c10, kp c11, kp c12, kp c13, kp c14, kp c15, kp c16, kp c17, kp c18, kp c19, kp c20, kp c21, kp c22, kp c23, kp c24, kp c25, kp c26, kp c28, cB, St.hid (by obtain ⟨f9, h9, h8⟩ := cE.out; exact ⟨f9, h9, fun h => h8 (Rg.up_ne h (by decide))⟩)⟩
    case o6 =>
      clear hd
      have q9 := (cF.out.2.2 1 (by decide)).trans e1
      go_simp
      refine hK.out _ _ ⟨St.hid (cF.out.put (by decide) _), kp c0, kp c1, kp c2, kp c3, kp c4, kp c5, St.hid (fun _ => cF.out.at (by omega) _), kp c7, kp c8, kp c9, kp c10, kp c11, kp c12, kp c13, kp c14, kp c15, kp c16, kp c17, kp c18, kp c19, kp c20, kp c21, kp c22, kp c23, kp c24, kp c25, kp c26, kp c28, cB, St.hid (by obtain ⟨f9, h9, h8⟩ := cE.out; exact ⟨f9, h9, fun h => h8 (Rg.up_ne h (by decide))⟩)⟩
    case o7 =>
      simp [Rg.deps, Region.binds] at hd
      have q0 := c6.out (by simp only [hd])
      obtain ⟨-, -, x3, -⟩ := HSK.out _ cB.out
      go_simp
      refine hK.out _ _ ⟨St.hid (cF.out.put (by decide) _), kp c0, kp c1, kp c2, kp c3, kp c4, kp c5, kp c6, St.hid (fun _ => cF.out.at (by omega) _), kp c8, kp c9, kp c10, kp c11, kp c12, kp c13, kp c14, kp c15, kp c16, kp c17, kp c18, kp c19, kp c20, kp c21, kp c22, kp c23, kp c24, kp c25, kp c26, kp c28, cB, St.hid (by obtain ⟨f9, h9, h8⟩ := cE.out; exact ⟨f9, h9, fun h => h8 (Rg.up_ne h (by decide))⟩)⟩
    case o8 =>
      clear hd
      have q9 := (cF.out.2.2 1 (by decide)).trans e1
      go_simp
      refine hK.out _ _ ⟨St.hid (cF.out.put (by decide) _), kp c0, kp c1, kp c2, kp c3, kp c4, kp c5, kp c6, kp c7, St.hid (fun _ => cF.out.at (by omega) _), kp c9, kp c10, kp c11, kp c12, kp c13, kp c14, kp c15, kp c16, kp c17, kp c18, kp c19, kp c20, kp c21, kp c22, kp c23, kp c24, kp c25, kp c26, kp c28, cB, St.hid (by obtain ⟨f9, h9, h8⟩ := cE.out; exact ⟨f9, h9, fun h => h8 (Rg.up_ne h (by decide))⟩)⟩
    case o9 =>
      simp [Rg.deps, Region.binds] at hd
      have q0 := c8.out (by simp only [hd])
      obtain ⟨-, -, -, x4⟩ := HSK.out _ cB.out
      go_simp
      refine hK.out _ _ ⟨St.hid (cF.out.put (by decide) _), kp c0, kp c1, kp c2, kp c3, kp c4, kp c5, kp c6, kp c7, kp c8, St.hid (fun _ => cF.out.at (by omega) _), kp c10, kp c11, kp c12, kp c13, kp c14, kp c15, kp c16, kp c17, kp c18, kp c19, kp c20, kp c21, kp c22, kp c23, kp c24, kp c25, kp c26, kp c28, cB, St.hid (by obtain ⟨f9, h9, h8⟩ := cE.out; exact ⟨f9, h9, fun h => h8 (Rg.up_ne h (by decide))⟩)⟩
    case o10 =>
      simp [Rg.deps, Region.binds] at hd
      have q0 := c0.out (by simp only [hd])
      have q1 := c3.out (by simp only [hd])
      have q2 := c5.out (by simp only [hd])
      have q3 := c7.out (by simp only [hd])
      have q4 := c9.out (by simp only [hd])
      go_simp
      refine hK.out _ _ ⟨St.hid (cF.out.put (by decide) _), kp c0, kp c1, kp c2, kp c3, kp c4, kp c5, kp c6, kp c7, kp c8, kp c9, St.hid (fun _ => cF.out.at (by omega) _), kp c11, kp c12, kp c13, kp c14, kp c15, kp c16, kp c17, kp c18, kp c19, kp c20, kp c21, kp c22, kp c23, kp c24, kp c25, kp c26, kp c28, cB, St.hid (by obtain ⟨f9, h9, h8⟩ := cE.out; exact ⟨f9, h9, fun h => h8 (Rg.up_ne h (by decide))⟩)⟩
    case o11 =>
      clear hd
      have q9 := (cF.out.2.2 5 (by decide)).trans e5
      go_simp
      refine hK.out _ _ ⟨St.hid (cF.out.put (by decide) _), kp c0, kp c1, kp c2, kp c3, kp c4, kp c5, kp c6, kp c7, kp c8, kp c9, kp c10, St.hid (fun _ => cF.out.at (by omega) _), kp c12, kp c13, kp c14, kp c15, kp c16, kp c17, kp c18, kp c19, kp c20, kp c21, kp c22, kp c23, kp c24, kp c25, kp c26, kp c28, cB, St.hid (by obtain ⟨f9, h9, h8⟩ := cE.out; exact ⟨f9, h9, fun h => h8 (Rg.up_ne h (by decide))⟩)⟩
    case o12 =>
      simp [Rg.deps, Region.binds] at hd
      have q0 := c11.out (by simp only [hd])
      go_simp
      refine hK.out _ _ ⟨St.hid (cF.out.put (by decide) _), kp c0, kp c1, kp c2, kp c3, kp c4, kp c5, kp c6, kp c7, kp c8, kp c9, kp c10, kp c11, St.hid (fun _ => cF.out.at (by omega) _), kp c13, kp c14, kp c15, kp c16, kp c17, kp c18, kp c19, kp c20, kp c21, kp c22, kp c23, kp c24, kp c25, kp c26, kp c28, cB, St.hid (by obtain ⟨f9, h9, h8⟩ := cE.out; exact ⟨f9, h9, fun h => h8 (Rg.up_ne h (by decide))⟩)⟩
    case o13 =>
      simp [Rg.deps, Region.binds] at hd
      have q9 := (cF.out.2.2 1 (by decide)).trans e1
      have q0 := c12.out (by simp only [hd])
      have qg := gd_some q0
      go_simp
      refine hK.out _ _ ⟨St.hid (cF.out.put (by decide) _), kp c0, kp c1, kp c2, kp c3, kp c4, kp c5, kp c6, kp c7, kp c8, kp c9, kp c10, kp c11, kp c12, St.hid (fun _ => cF.out.at (by omega) _), kp c14, kp c15, kp c16, kp c17, kp c18, kp c19, kp c20, kp c21, kp c22, kp c23, kp c24, kp c25, kp c26, kp c28, cB, St.hid (by obtain ⟨f9, h9, h8⟩ := cE.out; exact ⟨f9, h9, fun h => h8 (Rg.up_ne h (by decide))⟩)⟩
    case o14 =>
      simp [Rg.deps, Region.binds] at hd
      have q0 := c12.out (by simp only [hd])
      have q1 := c13.out (by simp only [hd])
      have qg := gd_some q0
      obtain ⟨-, x2, -⟩ := HSK.out _ cB.out
      go_simp
      refine hK.out _ _ ⟨St.hid (cF.out.put (by decide) _), kp c0, kp c1, kp c2, kp c3, kp c4, kp c5, kp c6, kp c7, kp c8, kp c9, kp c10, kp c11, kp c12, kp c13, St.hid (fun _ => cF.out.at (by omega) _), kp c15, kp c16, kp c17, kp c18, kp c19, kp c20, kp c21, kp c22, kp c23, kp c24, kp c25, kp c26, kp c28, cB, St.hid (by obtain ⟨f9, h9, h8⟩ := cE.out; exact ⟨f9, h9, fun h => h8 (Rg.up_ne h (by decide))⟩)⟩
    case o15 =>
      simp [Rg.deps, Region.binds] at hd
      have q0 := c12.out (by simp only [hd])
      have q1 := c14.out (by simp only [hd])
      have qg := gd_some q0
      go_simp
      refine (Th.within_any _ _ _ _).mono ?_
      rintro e w2 ⟨rfl, hw2⟩
      subst hw2
      go_simp
      refine hK.out _ _ ⟨St.hid (cF.out.put (by decide) _), kp c0, kp c1, kp c2, kp c3, kp c4, kp c5, kp c6, kp c7, kp c8, kp c9, kp c10, kp c11, kp c12, kp c13, kp c14, St.hid (fun _ => cF.out.at (by omega) _), kp c16, kp c17, kp c18, kp c19, kp c20, kp c21, kp c22, kp c23, kp c24, kp c25, kp c26, kp c28, cB, St.hid (by obtain ⟨f9, h9, h8⟩ := cE.out; exact ⟨f9, h9, fun h => h8 (Rg.up_ne h (by decide))⟩)⟩
    case o16 =>
      simp [Rg.deps, Region.binds] at hd
      have q0 := c12.out (by simp only [hd])
      have q1 := c15.out (by simp only [hd])
      go_simp
      refine hK.out _ _ ⟨St.hid (cF.out.put (by decide) _), kp c0, kp c1, kp c2, kp c3, kp c4, kp c5, kp c6, kp c7, kp c8, kp c9, kp c10, kp c11, kp c12, kp c13, kp c14, kp c15, St.hid (fun _ => cF.out.at (by omega) _), kp c17, kp c18, kp c19, kp c20, kp c21, kp c22, kp c23, kp c24, kp c25, kp c26, kp c28, cB, St.hid (by obtain ⟨f9, h9, h8⟩ := cE.out; exact ⟨f9, h9, fun h => h8 (Rg.up_ne h (by decide))⟩)⟩
    case o17 =>
      simp [Rg.deps, Region.binds] at hd
      have q0 := c16.out (by simp only [hd])
      go_simp
      refine hK.out _ _ ⟨St.hid (cF.out.put (by decide) _), kp c0, kp c1, kp c2, kp c3, kp c4, kp c5, kp c6, kp c7, kp c8, kp c9, kp c10, kp c11, kp c12, kp c13, kp c14, kp c15, kp c16, St.hid (fun _ => cF.out.at (by omega) _), kp c18, kp c19, kp c20, kp c21, kp c22, kp c23, kp c24, kp c25, kp c26, kp c28, cB, St.hid (by obtain ⟨f9, h9, h8⟩ := cE.out; exact ⟨f9, h9, fun h => h8 (Rg.up_ne h (by decide))⟩)⟩
    case o18 =>
      simp [Rg.deps, Region.binds] at hd
      have q9 := (cF.out.2.2 1 (by decide)).trans e1
      have q0 := c17.out (by simp only [hd])
      have qg := gd_some q0
      go_simp
      refine hK.out _ _ ⟨St.hid (cF.out.put (by decide) _), kp c0, kp c1, kp c2, kp c3, kp c4, kp c5, kp c6, kp c7, kp c8, kp c9, kp c10, kp c11, kp c12, kp c13, kp c14, kp c15, kp c16, kp c17, St.hid (fun _ => cF.out.at (by omega) _), kp c19, kp c20, kp c21, kp c22, kp c23, kp c24, kp c25, kp c26, kp c28, cB, St.hid (by obtain ⟨f9, h9, h8⟩ := cE.out; exact ⟨f9, h9, fun h => h8 (Rg.up_ne h (by decide))⟩)⟩
    case o19 =>
      simp [Rg.deps, Region.binds] at hd
      have q0 := c17.out (by simp only [hd])
      have q1 := c18.out (by simp only [hd])
      have qg := gd_some q0
      obtain ⟨-, -, x3, -⟩ := HSK.out _ cB.out
      go_simp
      refine hK.out _ _ ⟨St.hid (cF.out.put (by decide) _), kp c0, kp c1, kp c2, kp c3, kp c4, kp c5, kp c6, kp c7, kp c8, kp c9, kp c10, kp c11, kp c12, kp c13, kp c14, kp c15, kp c16, kp c17, kp c18, St.hid (fun _ => cF.out.at (by omega) _), kp c20, kp c21, kp c22, kp c23, kp c24, kp c25, kp c26, kp c28, cB, St.hid (by obtain ⟨f9, h9, h8⟩ := cE.out; exact ⟨f9, h9, fun h => h8 (Rg.up_ne h (by decide))⟩)⟩
    case o20 =>
      simp [Rg.deps, Region.binds] at hd
      have q0 := c17.out (by simp only [hd])
      have q1 := c19.out (by simp only [hd])
      have qg := gd_some q0
      go_simp
      refine (Th.within_any _ _ _ _).mono ?_
      rintro e w2 ⟨rfl, hw2⟩
      subst hw2
      go_simp
      refine hK.out _ _ ⟨St.hid (cF.out.put (by decide) _), kp c0, kp c1, kp c2, kp c3, kp c4, kp c5, kp c6, kp c7, kp c8, kp c9, kp c10, kp c11, kp c12, kp c13, kp c14, kp c15, kp c16, kp c17, kp c18, kp c19, St.hid (fun _ => cF.out.at (by omega) _), kp c21, kp c22, kp c23, kp c24, kp c25, kp c26, kp c28, cB, St.hid (by obtain ⟨f9, h9, h8⟩ := cE.out; exact ⟨f9, h9, fun h => h8 (Rg.up_ne h (by decide))⟩)⟩
    case o21 =>
      simp [Rg.deps, Region.binds] at hd
      have q0 := c17.out (by simp only [hd])
      have q1 := c20.out (by simp only [hd])
      go_simp
      refine hK.out _ _ ⟨St.hid (cF.out.put (by decide) _), kp c0, kp c1, kp c2, kp c3, kp c4, kp c5, kp c6, kp c7, kp c8, kp c9, kp c10, kp c11, kp c12, kp c13, kp c14, kp c15, kp c16, kp c17, kp c18, kp c19, kp c20, St.hid (fun _ => cF.out.at (by omega) _), kp c22, kp c23, kp c24, kp c25, kp c26, kp c28, cB, St.hid (by obtain ⟨f9, h9, h8⟩ := cE.out; exact ⟨f9, h9, fun h => h8 (Rg.up_ne h (by decide))⟩)⟩
    case o22 =>
      simp [Rg.deps, Region.binds] at hd
      have q0 := c21.out (by simp only [hd])
      go_simp
      refine hK.out _ _ ⟨St.hid (cF.out.put (by decide) _), kp c0, kp c1, kp c2, kp c3, kp c4, kp c5, kp c6, kp c7, kp c8, kp c9, kp c10, kp c11, kp c12, kp c13, kp c14, kp c15, kp c16, kp c17, kp c18, kp c19, kp c20, kp c21, St.hid (fun _ => cF.out.at (by omega) _), kp c23, kp c24, kp c25, kp c26, kp c28, cB, St.hid (by obtain ⟨f9, h9, h8⟩ := cE.out; exact ⟨f9, h9, fun h => h8 (Rg.up_ne h (by decide))⟩)⟩
    case o23 =>
      simp [Rg.deps, Region.binds] at hd
      have q9 := (cF.out.2.2 1 (by decide)).trans e1
      have q0 := c22.out (by simp only [hd])
      have qg := gd_some q0
      go_simp
      refine hK.out _ _ ⟨St.hid (cF.out.put (by decide) _), kp c0, kp c1, kp c2, kp c3, kp c4, kp c5, kp c6, kp c7, kp c8, kp c9, kp c10, kp c11, kp c12, kp c13, kp c14, kp c15, kp c16, kp c17, kp c18, kp c19, kp c20, kp c21, kp c22, St.hid (fun _ => cF.out.at (by omega) _), kp c24, kp c25, kp c26, kp c28, cB, St.hid (by obtain ⟨f9, h9, h8⟩ := cE.out; exact ⟨f9, h9, fun h => h8 (Rg.up_ne h (by decide))⟩)⟩
    case o24 =>
      simp [Rg.deps, Region.binds] at hd
      have q0 := c22.out (by simp only [hd])
      have q1 := c23.out (by simp only [hd])
      have qg := gd_some q0
      obtain ⟨-, -, -, x4⟩ := HSK.out _ cB.out
      go_simp
      refine hK.out _ _ ⟨St.hid (cF.out.put (by decide) _), kp c0, kp c1, kp c2, kp c3, kp c4, kp c5, kp c6, kp c7, kp c8, kp c9, kp c10, kp c11, kp c12, kp c13, kp c14, kp c15, kp c16, kp c17, kp c18, kp c19, kp c20, kp c21, kp c22, kp c23, St.hid (fun _ => cF.out.at (by omega) _), kp c25, kp c26, kp c28, cB, St.hid (by obtain ⟨f9, h9, h8⟩ := cE.out; exact ⟨f9, h9, fun h => h8 (Rg.up_ne h (by decide))⟩)⟩
    case o25 =>
      simp [Rg.deps, Region.binds] at hd
      have q0 := c22.out (by simp only [hd])
      have q1 := c24.out (by simp only [hd])
      have qg := gd_some q0
      go_simp
      refine (Th.within_any _ _ _ _).mono ?_
      rintro e w2 ⟨rfl, hw2⟩
      subst hw2
      go_simp
      refine hK.out _ _ ⟨St.hid (cF.out.put (by decide) _), kp c0, kp c1, kp c2, kp c3, kp c4, kp c5, kp c6, kp c7, kp c8, kp c9, kp c10, kp c11, kp c12, kp c13, kp c14, kp c15, kp c16, kp c17, kp c18, kp c19, kp c20, kp c21, kp c22, kp c23, kp c24, St.hid (fun _ => cF.out.at (by omega) _), kp c26, kp c28, cB, St.hid (by obtain ⟨f9, h9, h8⟩ := cE.out; exact ⟨f9, h9, fun h => h8 (Rg.up_ne h (by decide))⟩)⟩
    case o26 =>
      simp [Rg.deps, Region.binds] at hd
      have q0 := c22.out (by simp only [hd])
      have q1 := c25.out (by simp only [hd])
      go_simp
      refine hK.out _ _ ⟨St.hid (cF.out.put (by decide) _), kp c0, kp c1, kp c2, kp c3, kp c4, kp c5, kp c6, kp c7, kp c8, kp c9, kp c10, kp c11, kp c12, kp c13, kp c14, kp c15, kp c16, kp c17, kp c18, kp c19, kp c20, kp c21, kp c22, kp c23, kp c24, kp c25, St.hid (fun _ => cF.out.at (by omega) _), kp c28, cB, St.hid (by obtain ⟨f9, h9, h8⟩ := cE.out; exact ⟨f9, h9, fun h => h8 (Rg.up_ne h (by decide))⟩)⟩
    case o27 =>
      simp [Rg.deps, Region.binds] at hd
      have q0 := c10.out (by simp only [hd])
      obtain ⟨f9, hrb, -⟩ := cE.out
      have HRB9 := St.hid hrb
      have q9 := (cF.out.2.2 2 (by decide)).trans e2
      have x0 := hrb.cell (i := 0) (by omega)
      have k0 := hrb.frozen 0
      have x1 := hrb.cell (i := 1) (by omega)
      have k1 := hrb.frozen 1
      have x2 := hrb.cell (i := 2) (by omega)
      have k2 := hrb.frozen 2
      have x3 := hrb.cell (i := 3) (by omega)
      have k3 := hrb.frozen 3
      have x4 := hrb.cell (i := 4) (by omega)
      have k4 := hrb.frozen 4
      clear hrb e1 e2 e4 e5
      go_simp
      refine hK.out _ _ ⟨cF, kq c0, kq c1, kq c2, kq c3, kq c4, kq c5, kq c6, kq c7, kq c8, kq c9, kq c10, kq c11, kq c12, kq c13, kq c14, kq c15, kq c16, kq c17, kq c18, kq c19, kq c20, kq c21, kq c22, kq c23, kq c24, kq c25, kq c26, kq c28, St.hid (cB.out.trans (grown5 _ _ _ _ _ _ _)), St.hid ⟨_, row5 HRB9.out _ _ _ _ _, fun _ => rfl⟩⟩
    case o28 =>
      simp [Rg.deps, Region.binds] at hd
      have q0 := c26.out (by simp only [hd])
      go_simp
      refine hK.out _ _ ⟨St.hid (cF.out.put (by decide) _), kp c0, kp c1, kp c2, kp c3, kp c4, kp c5, kp c6, kp c7, kp c8, kp c9, kp c10, kp c11, kp c12, kp c13, kp c14, kp c15, kp c16, kp c17, kp c18, kp c19, kp c20, kp c21, kp c22, kp c23, kp c24, kp c25, kp c26, St.hid (fun _ => cF.out.at (by omega) _), cB, St.hid (by obtain ⟨f9, h9, h8⟩ := cE.out; exact ⟨f9, h9, fun h => h8 (Rg.up_ne h (by decide))⟩)⟩
  case re =>
    intro Lf a1 w1 hI hall
    obtain ⟨cF, c0, c1, c2, c3, c4, c5, c6, c7, c8, c9, c10, c11, c12, c13, c14, c15, c16, c17, c18, c19, c20, c21, c22, c23, c24, c25, c26, c28, cB, cE⟩ := hI
    obtain ⟨f9, h9, h8⟩ := cE.out
    obtain rfl := h8 (hall 27 (by decide))
    have e := cF.out.eq (fun d => a1.tmps[d]?.getD undef) (fun _ _ => rfl)
    refine HQ.out _ _ ?_
    rw [e]
    exact H.out (fun d => a1.tmps[d]?.getD undef) w1 (c28.out (hall 28 (by decide))) cB.out h9
attribute [local go_sem ↓] Go.wp_at_zero Go.wp_at_succ
set_option maxHeartbeats 4000000 in
set_option maxRecDepth 100000 in
theorem worldOf_any {F : Nat → Prop} {v : Value} {L : List Tab} {w : World} (next fall wide high : Int) (h : Sto w F v L) :
    Calls Tryz.prog 12 #[.agg #[v, .int .i64 next, .int .i64 fall, .int .i64 wide, .int .i64 high]] w fun e w' =>
      ((GoodWd next fall wide high L ∧ ∃ b, e = .returned (.tuple #[.agg #[.map (some b), .int .i64 next, .int .i64 fall, .int .i64 wide, .int .i64 high], .bool true]) ∧ w.heap.size ≤ b ∧ Mp w' b (thM L)) ∨
       (¬ GoodWd next fall wide high L ∧ ∃ u, e = .returned (.tuple #[.agg #[.map u, .int .i64 next, .int .i64 fall, .int .i64 wide, .int .i64 high], .bool false]))) ∧ Below w.heap.size w w' := by
  obtain ⟨a, n, cap, T, I, R, rfl, hin, rfl⟩ := (h.below (bal (bal (Below.refl _ w) (.cells #[v, .int .i64 next, .int .i64 fall, .int .i64 wide, .int .i64 high] 26)) (.cells #[.map none, .int .i64 0, .int .i64 0, .int .i64 0, .int .i64 0] 31))).in_
  have HT := St.hid (thingsOf_any a n cap next T I R _ hin)
  have hW0 := St.hid ((rowIs5 w (.slice a n cap) next fall wide high 26).alloc (.cells #[.map none, .int .i64 0, .int .i64 0, .int .i64 0, .int .i64 0] 31))
  have hR0 := St.hid (rowIs5 (w.alloc (.cells #[.slice a n cap, .int .i64 next, .int .i64 fall, .int .i64 wide, .int .i64 high] 26)) (.map none) 0 0 0 0 31)
  rw [World.size_alloc] at hR0
  clear h hin
  go_enter Tryz.func12, Tryz.ntmps12
  go_wp2_with fail
  refine HT.out.mono ?_
  rintro e w1 ⟨hr, hb1⟩
  have hW1 := St.hid (rowIs_below hW0.out hb1)
  have hR1 := St.hid (rowIs_below hR0.out hb1)
  have HB1 := St.hid (bcall (bal (bal (Below.refl _ w) _) _) hb1)
  have hz1 := hb1.size
  simp only [World.size_alloc] at hz1 hr
  have hzw : w.heap.size < w1.heap.size := by omega
  have hzw1 : w.heap.size + 1 < w1.heap.size := by omega
  have HSK : Hid (∀ W, w1.grownBy W (some (w.heap.size + 1)) → W.cell? ⟨w.heap.size, 1, none⟩ = some (.int .i64 next) ∧ W.cell? ⟨w.heap.size, 2, none⟩ = some (.int .i64 fall) ∧ W.cell? ⟨w.heap.size, 3, none⟩ = some (.int .i64 wide) ∧ W.cell? ⟨w.heap.size, 4, none⟩ = some (.int .i64 high)) := St.hid (fun W hb => by
    obtain ⟨x0, x1, x2, x3, x4, -, -, -, -, -⟩ := wcells (rowIs_grown hW1.out hb (by simp))
    exact ⟨x1, x2, x3, x4⟩)
  clear hb1
  rcases hr with ⟨hg, b, rfl, hbs, hmp⟩ | ⟨hg, u, rfl⟩
  · have HMP := St.hid hmp
    have HG := St.hid hg
    have HBS : Hid (w.heap.size + 1 < b) := St.hid (by omega)
    clear hmp hg hbs
    cases hf : btw fall (-64) 64
    · go_upto_region 2 with fail
      refine Rh.wp_act ?_
      intro A hA
      refine wreg_b _ _ (fun _ _ h => h) A w.heap.size (w.heap.size + 1) (some b) next fall wide high w1 _ (by rw [hA]; rfl) (by rw [hA]; rfl) (by rw [hA]; rfl) (by rw [hA]; rfl) (by rw [hA]; exact Nat.le_of_ble_eq_true rfl) hf HSK.out hR1.out ?_
      intro f W hfv hgr hy
      subst hA
      have HMW := St.hid hgr
      obtain ⟨y0, y1, y2, y3, y4, yf0, yf1, yf2, yf3, yf4⟩ := rcells hy
      have hyl := hy.lt
      simp only [Rh.puts, Act.put, hfv]
      go_simp
      go_wp2_with fail
      refine bodyPost_ret (v := .tuple #[.agg #[.map (some b), .int .i64 next, .int .i64 fall, .int .i64 wide, .int .i64 high], .bool false]) (by simp [results, Tryz.results12, go_sem, y0, y1, y2, y3, y4]) rfl ⟨Or.inr ⟨fun hc => by have := hc.2.1; simp [btw] at hf; omega, _, rfl⟩, below_grown HB1.out HMW.out (by omega) (by omega)⟩
    · cases hwd : btw wide 1 1048576
      · go_upto_region 2 with fail
        refine Rh.wp_act ?_
        intro A hA
        refine wreg_c _ _ (fun _ _ h => h) A w.heap.size (w.heap.size + 1) (some b) next fall wide high w1 _ (by rw [hA]; rfl) (by rw [hA]; rfl) (by rw [hA]; rfl) (by rw [hA]; rfl) (by rw [hA]; exact Nat.le_of_ble_eq_true rfl) hf hwd HSK.out hR1.out ?_
        intro f W hfv hgr hy
        subst hA
        have HMW := St.hid hgr
        obtain ⟨y0, y1, y2, y3, y4, yf0, yf1, yf2, yf3, yf4⟩ := rcells hy
        have hyl := hy.lt
        simp only [Rh.puts, Act.put, hfv]
        go_simp
        go_wp2_with fail
        refine bodyPost_ret (v := .tuple #[.agg #[.map (some b), .int .i64 next, .int .i64 fall, .int .i64 wide, .int .i64 high], .bool false]) (by simp [results, Tryz.results12, go_sem, y0, y1, y2, y3, y4]) rfl ⟨Or.inr ⟨fun hc => by have := hc.2.2.1; simp [btw] at hwd; omega, _, rfl⟩, below_grown HB1.out HMW.out (by omega) (by omega)⟩
      · cases hh : btw high 1 1048576
        · go_upto_region 2 with fail
          refine Rh.wp_act ?_
          intro A hA
          refine wreg_d _ _ (fun _ _ h => h) A w.heap.size (w.heap.size + 1) (some b) next fall wide high w1 _ (by rw [hA]; rfl) (by rw [hA]; rfl) (by rw [hA]; rfl) (by rw [hA]; rfl) (by rw [hA]; exact Nat.le_of_ble_eq_true rfl) hf hwd HSK.out hR1.out ?_
          intro f W hfv hgr hy
          subst hA
          have HMW := St.hid hgr
          obtain ⟨y0, y1, y2, y3, y4, yf0, yf1, yf2, yf3, yf4⟩ := rcells hy
          have hyl := hy.lt
          rw [hh] at hfv
          simp only [Rh.puts, Act.put, hfv]
          go_simp
          go_wp2_with fail
          refine bodyPost_ret (v := .tuple #[.agg #[.map (some b), .int .i64 next, .int .i64 fall, .int .i64 wide, .int .i64 high], .bool false]) (by simp [results, Tryz.results12, go_sem, y0, y1, y2, y3, y4]) rfl ⟨Or.inr ⟨fun hc => by have := hc.2.2.2; simp [btw] at hh; omega, _, rfl⟩, below_grown HB1.out HMW.out (by omega) (by omega)⟩
        · have hf0 := hf
          go_upto_region 2 with fail
          refine Rh.wp_act ?_
          intro A hA
          refine wreg_d _ _ (fun _ _ h => h) A w.heap.size (w.heap.size + 1) (some b) next fall wide high w1 _ (by rw [hA]; rfl) (by rw [hA]; rfl) (by rw [hA]; rfl) (by rw [hA]; rfl) (by rw [hA]; exact Nat.le_of_ble_eq_true rfl) hf hwd HSK.out hR1.out ?_
          intro f W hfv hgr hy
          subst hA
          have HMW := St.hid hgr
          obtain ⟨y0, y1, y2, y3, y4, yf0, yf1, yf2, yf3, yf4⟩ := rcells hy
          have hyl := hy.lt
          rw [hh] at hfv
          simp only [Rh.puts, Act.put, hfv]
          go_simp
          go_wp2_with fail
          refine bodyPost_ret (v := .tuple #[.agg #[.map (some b), .int .i64 next, .int .i64 fall, .int .i64 wide, .int .i64 high], .bool true]) (by simp [results, Tryz.results12, go_sem, y0, y1, y2, y3, y4]) rfl ⟨Or.inl ⟨⟨HG.out, by simpa [btw] using hf0, by simpa [btw] using hwd, by simpa [btw] using hh⟩, b, rfl, by have := HBS.out; omega, HMP.out.kept HMW.out (fun e => by have := HBS.out; have := Option.some.inj e; omega)⟩, below_grown HB1.out HMW.out (by omega) (by omega)⟩
  · have HG := St.hid hg
    clear hg
    go_upto_region 2 with fail
    refine Rh.wp_act ?_
    intro A hA
    refine wreg_a _ _ (fun _ _ h => h) A w.heap.size (w.heap.size + 1) u next fall wide high w1 _ (by rw [hA]; rfl) (by rw [hA]; rfl) (by rw [hA]; rfl) (by rw [hA]; rfl) (by rw [hA]; exact Nat.le_of_ble_eq_true rfl)  HSK.out hR1.out ?_
    intro f W hfv hgr hy
    subst hA
    have HMW := St.hid hgr
    obtain ⟨y0, y1, y2, y3, y4, yf0, yf1, yf2, yf3, yf4⟩ := rcells hy
    have hyl := hy.lt
    simp only [Rh.puts, Act.put, hfv]
    go_simp
    go_wp2_with fail
    refine bodyPost_ret (v := .tuple #[.agg #[.map u, .int .i64 next, .int .i64 fall, .int .i64 wide, .int .i64 high], .bool false]) (by simp [results, Tryz.results12, go_sem, y0, y1, y2, y3, y4]) rfl ⟨Or.inr ⟨fun hc => HG.out hc.1, _, rfl⟩, below_grown HB1.out HMW.out (by omega) (by omega)⟩

set_option maxHeartbeats 1000000 in
set_option maxRecDepth 100000 in
theorem sameWorld_any (b c : Nat) (l : Mth) (next fall wide high : Int) (w : World) (h : Mp w b l) (h' : Mp w c l) :
    Calls Tryz.prog 20 #[.agg #[.map (some b), .int .i64 next, .int .i64 fall, .int .i64 wide, .int .i64 high], .agg #[.map (some c), .int .i64 next, .int .i64 fall, .int .i64 wide, .int .i64 high]] w fun e w' => e = .returned (.bool true) ∧ Below w.heap.size w w' := by
  have HST := St.hid (sameThings_any b c l l _ (h.below (bal (bal (Below.refl _ w) (.cells #[.map (some b), .int .i64 next, .int .i64 fall, .int .i64 wide, .int .i64 high] 31)) (.cells #[.map (some c), .int .i64 next, .int .i64 fall, .int .i64 wide, .int .i64 high] 31))) (h'.below (bal (bal (Below.refl _ w) (.cells #[.map (some b), .int .i64 next, .int .i64 fall, .int .i64 wide, .int .i64 high] 31)) (.cells #[.map (some c), .int .i64 next, .int .i64 fall, .int .i64 wide, .int .i64 high] 31))))
  have hW0 := St.hid ((rowIs5 w (.map (some b)) next fall wide high 31).alloc (.cells #[.map (some c), .int .i64 next, .int .i64 fall, .int .i64 wide, .int .i64 high] 31))
  have hR0 := St.hid (rowIs5 (w.alloc (.cells #[.map (some b), .int .i64 next, .int .i64 fall, .int .i64 wide, .int .i64 high] 31)) (.map (some c)) next fall wide high 31)
  rw [World.size_alloc] at hR0
  clear h h'
  go_enter Tryz.func20, Tryz.ntmps20
  go_wp2_with fail
  refine HST.out.mono ?_
  rintro e w1 ⟨⟨g, rfl, hg⟩, hb1⟩
  obtain rfl : g = true := by simpa using hg
  have hW1 := St.hid (rowIs_below hW0.out hb1)
  have hR1 := St.hid (rowIs_below hR0.out hb1)
  have HB1 := St.hid (bcall (bal (bal (Below.refl _ w) _) _) hb1)
  clear hb1 hg
  obtain ⟨x0, x1, x2, x3, x4, -, -, -, -, -⟩ := rcells hW1.out
  obtain ⟨y0, y1, y2, y3, y4, -, -, -, -, -⟩ := rcells hR1.out
  go_wp2_with fail
  go_ret
  exact ⟨by simp, HB1.out⟩
end Go.Proofs.YtckkkdldljhehabGreat.Ws
