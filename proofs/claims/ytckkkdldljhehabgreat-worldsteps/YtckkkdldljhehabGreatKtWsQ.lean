/- StepOf of package ninepinsref: the statement that looks up the two things of a pair, in whatever order. -/
import Derived.Test.YtckkkdldljhehabGreatKtWsA
import Derived.Test.YtckkkdldljhehabGreatKtRh
namespace Go.Proofs.YtckkkdldljhehabGreat.Ws
open Go.Proofs.YtckkkdldljhehabGreat.Num Go.Proofs.YtckkkdldljhehabGreat.St Go.Proofs.YtckkkdldljhehabGreat.Mp Go.Proofs.YtckkkdldljhehabGreat.Th Go.Proofs.YtckkkdldljhehabGreat.Wd
open Go.ChangeShapes Go.WideShapes Go.ChangeAt Go.RowKit

theorem kp {L : Nat → Bool} {i j : Nat} {a : Act} {d d' : Nat} {v x : Value} (c : Hid (L j = true → a.tmps[d]?.getD undef = v)) (h1 : d' ≠ d := by decide) (h2 : j ≠ i := by decide) : Hid (Rg.up L i j = true → (a.put (some d') x).tmps[d]?.getD undef = v) :=
  St.hid (fun h => (Rh.put_ne h1).trans (c.out (Rg.up_ne h h2)))
theorem kq {L : Nat → Bool} {i j : Nat} {P : Prop} (c : Hid (L j = true → P)) (h2 : j ≠ i := by decide) : Hid (Rg.up L i j = true → P) := St.hid (fun h => c.out (Rg.up_ne h h2))
def findR (n : Nat) : Code → Option Code
  | .region i ops d => if i = n then some (.region i ops d) else none
  | .seq a b => match findR n a with
    | some c => some c
    | none => findR n b
  | .block _ c => findR n c
  | .scope c => findR n c
  | .loop c => findR n c
  | .cond _ a b => match findR n a with
    | some c => some c
    | none => findR n b
  | _ => none
/-- Nine cells written. -/
abbrev put9 (W : World) (g : Nat) (t : Th) : World := (((((((((W.setCell ⟨g, 0, none⟩ (.int .i64 t.m)).setCell ⟨g, 1, none⟩ (.int .i64 t.r.x)).setCell ⟨g, 2, none⟩ (.int .i64 t.r.y)).setCell ⟨g, 3, none⟩ (.int .i64 t.r.px)).setCell ⟨g, 4, none⟩ (.int .i64 t.r.py)).setCell ⟨g, 5, none⟩ (.int .i64 t.r.wd)).setCell ⟨g, 6, none⟩ (.int .i64 t.r.ht)).setCell ⟨g, 7, none⟩ (.int .i64 t.r.ms)).setCell ⟨g, 8, none⟩ (.int .i64 t.r.rr))
theorem row9 {W : World} {g : Nat} {ty : TypeId} {f : Nat → Value} (h : W.rowIs g ty 9 f) (t : Th) : (put9 W g t).rowIs g ty 9 (fun i => (thCells t).getD i undef) := by
  refine (((((((((h.set 0 _).set 1 _).set 2 _).set 3 _).set 4 _).set 5 _).set 6 _).set 7 _).set 8 _).congr (fun i hi => ?_)
  match i, hi with
  | 0, _ => rfl
  | 1, _ => rfl
  | 2, _ => rfl
  | 3, _ => rfl
  | 4, _ => rfl
  | 5, _ => rfl
  | 6, _ => rfl
  | 7, _ => rfl
  | 8, _ => rfl
theorem grown9 (W : World) (g : Nat) (t : Th) : W.grownBy (put9 W g t) (some g) :=
  ((((((((grown_set W g _ _).trans (grown_set _ g _ _)).trans (grown_set _ g _ _)).trans (grown_set _ g _ _)).trans (grown_set _ g _ _)).trans (grown_set _ g _ _)).trans (grown_set _ g _ _)).trans (grown_set _ g _ _)).trans (grown_set _ g _ _)
theorem other9 {W : World} {g b n : Nat} {ty : TypeId} {f : Nat → Value} {t : Th} (h : W.rowIs b ty n f) (hne : b ≠ g) : (put9 W g t).rowIs b ty n f := rowIs_grown h (grown9 W g t) (fun e => hne (by cases e; rfl))
theorem below9 {w W : World} {g : Nat} {t : Th} (h : Below w.heap.size w W) (hg : w.heap.size ≤ g) : Below w.heap.size w (put9 W g t) := below_grown h (grown9 W g t) h.size hg
def zf9 (i : Nat) : Value := (thCells zTh).getD i undef
theorem zrow9 (w : World) : (w.alloc (.cells #[.int .i64 0, .int .i64 0, .int .i64 0, .int .i64 0, .int .i64 0, .int .i64 0, .int .i64 0, .int .i64 0, .int .i64 0] 93)).rowIs w.heap.size 93 9 zf9 := th_box w zTh 93
noncomputable def reg17 : Code := ((Tryz.f19.body.bind (findR 17)).getD .skip)
attribute [local go_sem ↓] Go.wp_at_zero Go.wp_at_succ
set_option maxHeartbeats 16000000 in
set_option maxRecDepth 100000 in
theorem reg17_wp (K : Act → World → Prop) (Q : Exit → Act → World → Prop) (hQ : ∀ a w, K a w → Q .normal a w) (A : Act) (c wb pbx : Nat) (pa pb : Int) (ta tb : Th) (wz : World)
    (e1 : A.tmps[1]?.getD undef = .pointer (some ⟨wb, 0, none⟩))
    (e11 : A.tmps[11]?.getD undef = .pointer (some ⟨pbx, 0, none⟩))
    (hsz : 96 < A.tmps.size)
    (hsk : ∀ W, Below wz.heap.size wz W → W.cell? ⟨wb, 0, none⟩ = some (.map (some c)) ∧ W.cell? ⟨pbx, 0, none⟩ = some (.int .i64 pa) ∧ W.cell? ⟨pbx, 1, none⟩ = some (.int .i64 pb) ∧ (Instr.lookup 29 (.map (some c)) (.int .i64 pa) false).run Tryz.prog W = .ok (.agg #[.int .i64 ta.m, .int .i64 ta.r.x, .int .i64 ta.r.y, .int .i64 ta.r.px, .int .i64 ta.r.py, .int .i64 ta.r.wd, .int .i64 ta.r.ht, .int .i64 ta.r.ms, .int .i64 ta.r.rr]) W ∧ (Instr.lookup 29 (.map (some c)) (.int .i64 pb) false).run Tryz.prog W = .ok (.agg #[.int .i64 tb.m, .int .i64 tb.r.x, .int .i64 tb.r.y, .int .i64 tb.r.px, .int .i64 tb.r.py, .int .i64 tb.r.wd, .int .i64 tb.r.ht, .int .i64 tb.r.ms, .int .i64 tb.r.rr]) W)
    (h : ∀ (f : Nat → Value) (b c : Nat) (W : World), f 12 = .pointer (some ⟨b, 0, none⟩) → f 13 = .pointer (some ⟨c, 0, none⟩) → W.rowIs b 93 9 (fun i => (thCells ta).getD i undef) → W.rowIs c 93 9 (fun i => (thCells tb).getD i undef) → wz.heap.size ≤ b → wz.heap.size ≤ c → b ≠ c → Below wz.heap.size wz W → K (Rh.puts f [12, 13, 87, 88, 89, 90, 91, 92, 93, 94, 95, 96] A) W) :
    Code.wp Tryz.prog reg17 Q A wz := by
  have HSK := St.hid hsk
  have H := St.hid h
  have HQ := St.hid hQ
  clear hsk h hQ 
  conv => arg 2; whnf
  refine Rg.wp_region_inv (by kernel_rfl) (fun Lf a1 w1 => Hid (Rh.Fr [12, 13, 87, 88, 89, 90, 91, 92, 93, 94, 95, 96] A a1) ∧ Hid (Lf 0 = true → a1.tmps[87]?.getD undef = .pointer (some ⟨wb, 0, none⟩)) ∧ Hid (Lf 1 = true → a1.tmps[88]?.getD undef = .map (some c)) ∧ Hid (Lf 2 = true → a1.tmps[89]?.getD undef = .pointer (some ⟨pbx, 0, none⟩)) ∧ Hid (Lf 3 = true → a1.tmps[90]?.getD undef = .int .i64 pa) ∧ Hid (Lf 4 = true → a1.tmps[91]?.getD undef = .agg #[.int .i64 ta.m, .int .i64 ta.r.x, .int .i64 ta.r.y, .int .i64 ta.r.px, .int .i64 ta.r.py, .int .i64 ta.r.wd, .int .i64 ta.r.ht, .int .i64 ta.r.ms, .int .i64 ta.r.rr]) ∧ Hid (Lf 5 = true → a1.tmps[92]?.getD undef = .pointer (some ⟨wb, 0, none⟩)) ∧ Hid (Lf 6 = true → a1.tmps[93]?.getD undef = .map (some c)) ∧ Hid (Lf 7 = true → a1.tmps[94]?.getD undef = .pointer (some ⟨pbx, 1, none⟩)) ∧ Hid (Lf 8 = true → a1.tmps[95]?.getD undef = .int .i64 pb) ∧ Hid (Lf 9 = true → a1.tmps[96]?.getD undef = .agg #[.int .i64 tb.m, .int .i64 tb.r.x, .int .i64 tb.r.y, .int .i64 tb.r.px, .int .i64 tb.r.py, .int .i64 tb.r.wd, .int .i64 tb.r.ht, .int .i64 tb.r.ms, .int .i64 tb.r.rr]) ∧ Hid (Below wz.heap.size wz w1) ∧ Hid (Lf 12 = true → Lf 10 = true ∧ Lf 11 = true) ∧ Hid (Lf 13 = true → Lf 11 = true) ∧ Hid (Lf 10 = true → ∃ b f, a1.tmps[12]?.getD undef = .pointer (some ⟨b, 0, none⟩) ∧ wz.heap.size ≤ b ∧ w1.rowIs b 93 9 f ∧ (Lf 12 = true → f = fun i => (thCells ta).getD i undef)) ∧ Hid (Lf 11 = true → ∃ b f, a1.tmps[13]?.getD undef = .pointer (some ⟨b, 0, none⟩) ∧ wz.heap.size ≤ b ∧ w1.rowIs b 93 9 f ∧ (Lf 13 = true → f = fun i => (thCells tb).getD i undef)) ∧ Hid (Lf 10 = true → Lf 11 = true → a1.tmps[12]?.getD undef ≠ a1.tmps[13]?.getD undef)) (by kernel_rfl) ?rs ?rg ?re
  case rs =>
    refine ⟨St.hid (Rh.Fr.refl _ _), St.hid (fun h => by cases h), St.hid (fun h => by cases h), St.hid (fun h => by cases h), St.hid (fun h => by cases h), St.hid (fun h => by cases h), St.hid (fun h => by cases h), St.hid (fun h => by cases h), St.hid (fun h => by cases h), St.hid (fun h => by cases h), St.hid (fun h => by cases h), St.hid (Below.drew (Below.refl _ _)), St.hid (fun h => by cases h), St.hid (fun h => by cases h), St.hid (fun h => by cases h), St.hid (fun h => by cases h), St.hid (fun h => by cases h)⟩
  case rg =>
    intro Lf a1 w1 hI
    obtain ⟨cF, c0, c1, c2, c3, c4, c5, c6, c7, c8, c9, cB, cR, cS, cA1, cA2, cN⟩ := hI
    refine ⟨fun hl hd K' hK => ?o0, fun hl hd K' hK => ?o1, fun hl hd K' hK => ?o2, fun hl hd K' hK => ?o3, fun hl hd K' hK => ?o4, fun hl hd K' hK => ?o5, fun hl hd K' hK => ?o6, fun hl hd K' hK => ?o7, fun hl hd K' hK => ?o8, fun hl hd K' hK => ?o9, fun hl hd K' hK => ?o10, fun hl hd K' hK => ?o11, fun hl hd K' hK => ?o12, fun hl hd K' hK => ?o13, trivial⟩
    case o0 =>
      clear hd
      have q0 := (cF.out.2.2 1 (by decide)).trans e1
      go_simp
      refine hK.out _ _ ⟨St.hid (cF.out.put (by decide) _), St.hid (fun _ => cF.out.at (by omega) _), kp c1, kp c2, kp c3, kp c4, kp c5, kp c6, kp c7, kp c8, kp c9, cB, St.hid (fun h => ⟨Rg.up_of (cR.out (Rg.up_ne h (by decide))).1, Rg.up_of (cR.out (Rg.up_ne h (by decide))).2⟩), St.hid (fun h => Rg.up_of (cS.out (Rg.up_ne h (by decide)))), St.hid (fun h => by obtain ⟨b, f, e1, e2', e3, e4⟩ := cA1.out (Rg.up_ne h (by decide)); exact ⟨b, f, (Rh.put_ne (by decide)).trans e1, e2', e3, fun h => e4 (Rg.up_ne h (by decide))⟩), St.hid (fun h => by obtain ⟨b, f, e1, e2', e3, e4⟩ := cA2.out (Rg.up_ne h (by decide)); exact ⟨b, f, (Rh.put_ne (by decide)).trans e1, e2', e3, fun h => e4 (Rg.up_ne h (by decide))⟩), St.hid (fun h h' => Rh.ne_put (by decide) (by decide) (cN.out (Rg.up_ne h (by decide)) (Rg.up_ne h' (by decide))))⟩
    case o1 =>
      simp [Rg.deps, Region.binds] at hd
      have q0 := c0.out (by simp only [hd])
      obtain ⟨x0, -⟩ := HSK.out _ cB.out
      go_simp
      refine hK.out _ _ ⟨St.hid (cF.out.put (by decide) _), kp c0, St.hid (fun _ => cF.out.at (by omega) _), kp c2, kp c3, kp c4, kp c5, kp c6, kp c7, kp c8, kp c9, cB, St.hid (fun h => ⟨Rg.up_of (cR.out (Rg.up_ne h (by decide))).1, Rg.up_of (cR.out (Rg.up_ne h (by decide))).2⟩), St.hid (fun h => Rg.up_of (cS.out (Rg.up_ne h (by decide)))), St.hid (fun h => by obtain ⟨b, f, e1, e2', e3, e4⟩ := cA1.out (Rg.up_ne h (by decide)); exact ⟨b, f, (Rh.put_ne (by decide)).trans e1, e2', e3, fun h => e4 (Rg.up_ne h (by decide))⟩), St.hid (fun h => by obtain ⟨b, f, e1, e2', e3, e4⟩ := cA2.out (Rg.up_ne h (by decide)); exact ⟨b, f, (Rh.put_ne (by decide)).trans e1, e2', e3, fun h => e4 (Rg.up_ne h (by decide))⟩), St.hid (fun h h' => Rh.ne_put (by decide) (by decide) (cN.out (Rg.up_ne h (by decide)) (Rg.up_ne h' (by decide))))⟩
    case o2 =>
      clear hd
      have q0 := (cF.out.2.2 11 (by decide)).trans e11
      go_simp
      refine hK.out _ _ ⟨St.hid (cF.out.put (by decide) _), kp c0, kp c1, St.hid (fun _ => cF.out.at (by omega) _), kp c3, kp c4, kp c5, kp c6, kp c7, kp c8, kp c9, cB, St.hid (fun h => ⟨Rg.up_of (cR.out (Rg.up_ne h (by decide))).1, Rg.up_of (cR.out (Rg.up_ne h (by decide))).2⟩), St.hid (fun h => Rg.up_of (cS.out (Rg.up_ne h (by decide)))), St.hid (fun h => by obtain ⟨b, f, e1, e2', e3, e4⟩ := cA1.out (Rg.up_ne h (by decide)); exact ⟨b, f, (Rh.put_ne (by decide)).trans e1, e2', e3, fun h => e4 (Rg.up_ne h (by decide))⟩), St.hid (fun h => by obtain ⟨b, f, e1, e2', e3, e4⟩ := cA2.out (Rg.up_ne h (by decide)); exact ⟨b, f, (Rh.put_ne (by decide)).trans e1, e2', e3, fun h => e4 (Rg.up_ne h (by decide))⟩), St.hid (fun h h' => Rh.ne_put (by decide) (by decide) (cN.out (Rg.up_ne h (by decide)) (Rg.up_ne h' (by decide))))⟩
    case o3 =>
      simp [Rg.deps, Region.binds] at hd
      have q0 := c2.out (by simp only [hd])
      obtain ⟨-, p0, -⟩ := HSK.out _ cB.out
      go_simp
      refine hK.out _ _ ⟨St.hid (cF.out.put (by decide) _), kp c0, kp c1, kp c2, St.hid (fun _ => cF.out.at (by omega) _), kp c4, kp c5, kp c6, kp c7, kp c8, kp c9, cB, St.hid (fun h => ⟨Rg.up_of (cR.out (Rg.up_ne h (by decide))).1, Rg.up_of (cR.out (Rg.up_ne h (by decide))).2⟩), St.hid (fun h => Rg.up_of (cS.out (Rg.up_ne h (by decide)))), St.hid (fun h => by obtain ⟨b, f, e1, e2', e3, e4⟩ := cA1.out (Rg.up_ne h (by decide)); exact ⟨b, f, (Rh.put_ne (by decide)).trans e1, e2', e3, fun h => e4 (Rg.up_ne h (by decide))⟩), St.hid (fun h => by obtain ⟨b, f, e1, e2', e3, e4⟩ := cA2.out (Rg.up_ne h (by decide)); exact ⟨b, f, (Rh.put_ne (by decide)).trans e1, e2', e3, fun h => e4 (Rg.up_ne h (by decide))⟩), St.hid (fun h h' => Rh.ne_put (by decide) (by decide) (cN.out (Rg.up_ne h (by decide)) (Rg.up_ne h' (by decide))))⟩
    case o4 =>
      simp [Rg.deps, Region.binds] at hd
      have q0 := c1.out (by simp only [hd])
      have q1 := c3.out (by simp only [hd])
      obtain ⟨-, -, -, k4, -⟩ := HSK.out _ cB.out
      go_simp
      refine hK.out _ _ ⟨St.hid (cF.out.put (by decide) _), kp c0, kp c1, kp c2, kp c3, St.hid (fun _ => cF.out.at (by omega) _), kp c5, kp c6, kp c7, kp c8, kp c9, cB, St.hid (fun h => ⟨Rg.up_of (cR.out (Rg.up_ne h (by decide))).1, Rg.up_of (cR.out (Rg.up_ne h (by decide))).2⟩), St.hid (fun h => Rg.up_of (cS.out (Rg.up_ne h (by decide)))), St.hid (fun h => by obtain ⟨b, f, e1, e2', e3, e4⟩ := cA1.out (Rg.up_ne h (by decide)); exact ⟨b, f, (Rh.put_ne (by decide)).trans e1, e2', e3, fun h => e4 (Rg.up_ne h (by decide))⟩), St.hid (fun h => by obtain ⟨b, f, e1, e2', e3, e4⟩ := cA2.out (Rg.up_ne h (by decide)); exact ⟨b, f, (Rh.put_ne (by decide)).trans e1, e2', e3, fun h => e4 (Rg.up_ne h (by decide))⟩), St.hid (fun h h' => Rh.ne_put (by decide) (by decide) (cN.out (Rg.up_ne h (by decide)) (Rg.up_ne h' (by decide))))⟩
    case o5 =>
      clear hd
      have q0 := (cF.out.2.2 1 (by decide)).trans e1
      go_simp
      refine hK.out _ _ ⟨St.hid (cF.out.put (by decide) _), kp c0, kp c1, kp c2, kp c3, kp c4, St.hid (fun _ => cF.out.at (by omega) _), kp c6, kp c7, kp c8, kp c9, cB, St.hid (fun h => ⟨Rg.up_of (cR.out (Rg.up_ne h (by decide))).1, Rg.up_of (cR.out (Rg.up_ne h (by decide))).2⟩), St.hid (fun h => Rg.up_of (cS.out (Rg.up_ne h (by decide)))), St.hid (fun h => by obtain ⟨b, f, e1, e2', e3, e4⟩ := cA1.out (Rg.up_ne h (by decide)); exact ⟨b, f, (Rh.put_ne (by decide)).trans e1, e2', e3, fun h => e4 (Rg.up_ne h (by decide))⟩), St.hid (fun h => by obtain ⟨b, f, e1, e2', e3, e4⟩ := cA2.out (Rg.up_ne h (by decide)); exact ⟨b, f, (Rh.put_ne (by decide)).trans e1, e2', e3, fun h => e4 (Rg.up_ne h (by decide))⟩), St.hid (fun h h' => Rh.ne_put (by decide) (by decide) (cN.out (Rg.up_ne h (by decide)) (Rg.up_ne h' (by decide))))⟩
    case o6 =>
      simp [Rg.deps, Region.binds] at hd
      have q0 := c5.out (by simp only [hd])
      obtain ⟨x0, -⟩ := HSK.out _ cB.out
      go_simp
      refine hK.out _ _ ⟨St.hid (cF.out.put (by decide) _), kp c0, kp c1, kp c2, kp c3, kp c4, kp c5, St.hid (fun _ => cF.out.at (by omega) _), kp c7, kp c8, kp c9, cB, St.hid (fun h => ⟨Rg.up_of (cR.out (Rg.up_ne h (by decide))).1, Rg.up_of (cR.out (Rg.up_ne h (by decide))).2⟩), St.hid (fun h => Rg.up_of (cS.out (Rg.up_ne h (by decide)))), St.hid (fun h => by obtain ⟨b, f, e1, e2', e3, e4⟩ := cA1.out (Rg.up_ne h (by decide)); exact ⟨b, f, (Rh.put_ne (by decide)).trans e1, e2', e3, fun h => e4 (Rg.up_ne h (by decide))⟩), St.hid (fun h => by obtain ⟨b, f, e1, e2', e3, e4⟩ := cA2.out (Rg.up_ne h (by decide)); exact ⟨b, f, (Rh.put_ne (by decide)).trans e1, e2', e3, fun h => e4 (Rg.up_ne h (by decide))⟩), St.hid (fun h h' => Rh.ne_put (by decide) (by decide) (cN.out (Rg.up_ne h (by decide)) (Rg.up_ne h' (by decide))))⟩
    case o7 =>
      clear hd
      have q0 := (cF.out.2.2 11 (by decide)).trans e11
      go_simp
      refine hK.out _ _ ⟨St.hid (cF.out.put (by decide) _), kp c0, kp c1, kp c2, kp c3, kp c4, kp c5, kp c6, St.hid (fun _ => cF.out.at (by omega) _), kp c8, kp c9, cB, St.hid (fun h => ⟨Rg.up_of (cR.out (Rg.up_ne h (by decide))).1, Rg.up_of (cR.out (Rg.up_ne h (by decide))).2⟩), St.hid (fun h => Rg.up_of (cS.out (Rg.up_ne h (by decide)))), St.hid (fun h => by obtain ⟨b, f, e1, e2', e3, e4⟩ := cA1.out (Rg.up_ne h (by decide)); exact ⟨b, f, (Rh.put_ne (by decide)).trans e1, e2', e3, fun h => e4 (Rg.up_ne h (by decide))⟩), St.hid (fun h => by obtain ⟨b, f, e1, e2', e3, e4⟩ := cA2.out (Rg.up_ne h (by decide)); exact ⟨b, f, (Rh.put_ne (by decide)).trans e1, e2', e3, fun h => e4 (Rg.up_ne h (by decide))⟩), St.hid (fun h h' => Rh.ne_put (by decide) (by decide) (cN.out (Rg.up_ne h (by decide)) (Rg.up_ne h' (by decide))))⟩
    case o8 =>
      simp [Rg.deps, Region.binds] at hd
      have q0 := c7.out (by simp only [hd])
      obtain ⟨-, -, p1, -⟩ := HSK.out _ cB.out
      go_simp
      refine hK.out _ _ ⟨St.hid (cF.out.put (by decide) _), kp c0, kp c1, kp c2, kp c3, kp c4, kp c5, kp c6, kp c7, St.hid (fun _ => cF.out.at (by omega) _), kp c9, cB, St.hid (fun h => ⟨Rg.up_of (cR.out (Rg.up_ne h (by decide))).1, Rg.up_of (cR.out (Rg.up_ne h (by decide))).2⟩), St.hid (fun h => Rg.up_of (cS.out (Rg.up_ne h (by decide)))), St.hid (fun h => by obtain ⟨b, f, e1, e2', e3, e4⟩ := cA1.out (Rg.up_ne h (by decide)); exact ⟨b, f, (Rh.put_ne (by decide)).trans e1, e2', e3, fun h => e4 (Rg.up_ne h (by decide))⟩), St.hid (fun h => by obtain ⟨b, f, e1, e2', e3, e4⟩ := cA2.out (Rg.up_ne h (by decide)); exact ⟨b, f, (Rh.put_ne (by decide)).trans e1, e2', e3, fun h => e4 (Rg.up_ne h (by decide))⟩), St.hid (fun h h' => Rh.ne_put (by decide) (by decide) (cN.out (Rg.up_ne h (by decide)) (Rg.up_ne h' (by decide))))⟩
    case o9 =>
      simp [Rg.deps, Region.binds] at hd
      have q0 := c6.out (by simp only [hd])
      have q1 := c8.out (by simp only [hd])
      obtain ⟨-, -, -, -, k9⟩ := HSK.out _ cB.out
      go_simp
      refine hK.out _ _ ⟨St.hid (cF.out.put (by decide) _), kp c0, kp c1, kp c2, kp c3, kp c4, kp c5, kp c6, kp c7, kp c8, St.hid (fun _ => cF.out.at (by omega) _), cB, St.hid (fun h => ⟨Rg.up_of (cR.out (Rg.up_ne h (by decide))).1, Rg.up_of (cR.out (Rg.up_ne h (by decide))).2⟩), St.hid (fun h => Rg.up_of (cS.out (Rg.up_ne h (by decide)))), St.hid (fun h => by obtain ⟨b, f, e1, e2', e3, e4⟩ := cA1.out (Rg.up_ne h (by decide)); exact ⟨b, f, (Rh.put_ne (by decide)).trans e1, e2', e3, fun h => e4 (Rg.up_ne h (by decide))⟩), St.hid (fun h => by obtain ⟨b, f, e1, e2', e3, e4⟩ := cA2.out (Rg.up_ne h (by decide)); exact ⟨b, f, (Rh.put_ne (by decide)).trans e1, e2', e3, fun h => e4 (Rg.up_ne h (by decide))⟩), St.hid (fun h h' => Rh.ne_put (by decide) (by decide) (cN.out (Rg.up_ne h (by decide)) (Rg.up_ne h' (by decide))))⟩
    case o10 =>
      clear hd
      go_simp
      refine hK.out _ _ ⟨St.hid (cF.out.put (by decide) _), kp c0, kp c1, kp c2, kp c3, kp c4, kp c5, kp c6, kp c7, kp c8, kp c9, St.hid (bal cB.out _), St.hid (fun h => ⟨Rg.up_of (cR.out (Rg.up_ne h (by decide))).1, Rg.up_of (cR.out (Rg.up_ne h (by decide))).2⟩), St.hid (fun h => Rg.up_of (cS.out (Rg.up_ne h (by decide)))), St.hid (fun _ => ⟨w1.heap.size, zf9, cF.out.at (by omega) _, cB.out.size, zrow9 w1, fun h => by have h := Rg.up_ne h (by decide); have := (cR.out h).1; rw [this] at hl; cases hl⟩), St.hid (fun h => by obtain ⟨b, f, e1, e2', e3, e4⟩ := cA2.out (Rg.up_ne h (by decide)); exact ⟨b, f, (Rh.put_ne (by decide)).trans e1, e2', rowIs_below e3 (bal (Below.refl _ _) _), fun h => e4 (Rg.up_ne h (by decide))⟩), St.hid (fun _ h => by obtain ⟨b, f, e1, e2', e3, e4⟩ := cA2.out (Rg.up_ne h (by decide)); exact Rh.ne_new (by rw [cF.out.1]; omega) (by decide) (fun e => by rw [e1] at e; have hlt := e3.lt; simp at e <;> omega))⟩
    case o11 =>
      clear hd
      go_simp
      refine hK.out _ _ ⟨St.hid (cF.out.put (by decide) _), kp c0, kp c1, kp c2, kp c3, kp c4, kp c5, kp c6, kp c7, kp c8, kp c9, St.hid (bal cB.out _), St.hid (fun h => ⟨Rg.up_of (cR.out (Rg.up_ne h (by decide))).1, Rg.up_of (cR.out (Rg.up_ne h (by decide))).2⟩), St.hid (fun h => Rg.up_of (cS.out (Rg.up_ne h (by decide)))), St.hid (fun h => by obtain ⟨b, f, e1, e2', e3, e4⟩ := cA1.out (Rg.up_ne h (by decide)); exact ⟨b, f, (Rh.put_ne (by decide)).trans e1, e2', rowIs_below e3 (bal (Below.refl _ _) _), fun h => e4 (Rg.up_ne h (by decide))⟩), St.hid (fun _ => ⟨w1.heap.size, zf9, cF.out.at (by omega) _, cB.out.size, zrow9 w1, fun h => by have h := Rg.up_ne h (by decide); have := cS.out h; rw [this] at hl; cases hl⟩), St.hid (fun h _ => by obtain ⟨b, f, e1, e2', e3, e4⟩ := cA1.out (Rg.up_ne h (by decide)); exact Ne.symm (Rh.ne_new (by rw [cF.out.1]; omega) (by decide) (fun e => by rw [e1] at e; have hlt := e3.lt; simp at e <;> omega)))⟩
    case o12 =>
      simp [Rg.deps, Region.binds] at hd
      have h13 : Lf 10 = true := by simp only [hd]
      have h14 : Lf 11 = true := by simp only [hd]
      have hv : Lf 4 = true := by simp only [hd]
      have q1 := c4.out hv
      obtain ⟨b3, f3, g3, l3, r3, p3⟩ := cA1.out h13
      obtain ⟨b4, f4, g4, l4, r4, p4⟩ := cA2.out h14
      have hne : b3 ≠ b4 := fun e => cN.out h13 h14 (by rw [g3, g4, e])
      have x0 := r3.cell (i := 0) (by omega)
      have x1 := r3.cell (i := 1) (by omega)
      have x2 := r3.cell (i := 2) (by omega)
      have x3 := r3.cell (i := 3) (by omega)
      have x4 := r3.cell (i := 4) (by omega)
      have x5 := r3.cell (i := 5) (by omega)
      have x6 := r3.cell (i := 6) (by omega)
      have x7 := r3.cell (i := 7) (by omega)
      have x8 := r3.cell (i := 8) (by omega)
      have k0 := r3.frozen 0
      have k1 := r3.frozen 1
      have k2 := r3.frozen 2
      have k3 := r3.frozen 3
      have k4 := r3.frozen 4
      have k5 := r3.frozen 5
      have k6 := r3.frozen 6
      have k7 := r3.frozen 7
      have k8 := r3.frozen 8
      have R3 := St.hid r3
      have R4 := St.hid r4
      have P3 := St.hid p3
      have P4 := St.hid p4
      have L3 := St.hid l3
      have L4 := St.hid l4
      have HNE := St.hid hne
      have G4 := St.hid g4
      have H13 := St.hid h13
      have H14 := St.hid h14
      clear r3 r4 p3 p4 l3 l4 hne g4 hd hv h13 h14 e1 e11
      go_simp
      have r3 := R3.out
      have r4 := R4.out
      have p3 := P3.out
      have p4 := P4.out
      have l3 := L3.out
      have l4 := L4.out
      have hne := HNE.out
      have g4 := G4.out
      have h13 := H13.out
      have h14 := H14.out
      refine hK.out _ _ ⟨cF, kq c0, kq c1, kq c2, kq c3, kq c4, kq c5, kq c6, kq c7, kq c8, kq c9, St.hid (below9 cB.out l3), St.hid (fun _ => ⟨Rg.up_of h13, Rg.up_of h14⟩), St.hid (fun h => Rg.up_of (cS.out (Rg.up_ne h (by decide)))), St.hid (fun _ => ⟨b3, _, g3, l3, row9 r3 _, fun _ => rfl⟩), St.hid (fun _ => ⟨b4, f4, g4, l4, other9 r4 (by omega), fun h => p4 (Rg.up_ne h (by decide))⟩), St.hid (fun h h' => cN.out (Rg.up_ne h (by decide)) (Rg.up_ne h' (by decide)))⟩
    case o13 =>
      simp [Rg.deps, Region.binds] at hd
      have h13 : Lf 10 = true := by simp only [hd]
      have h14 : Lf 11 = true := by simp only [hd]
      have hv : Lf 9 = true := by simp only [hd]
      have q1 := c9.out hv
      obtain ⟨b3, f3, g3, l3, r3, p3⟩ := cA1.out h13
      obtain ⟨b4, f4, g4, l4, r4, p4⟩ := cA2.out h14
      have hne : b3 ≠ b4 := fun e => cN.out h13 h14 (by rw [g3, g4, e])
      have x0 := r4.cell (i := 0) (by omega)
      have x1 := r4.cell (i := 1) (by omega)
      have x2 := r4.cell (i := 2) (by omega)
      have x3 := r4.cell (i := 3) (by omega)
      have x4 := r4.cell (i := 4) (by omega)
      have x5 := r4.cell (i := 5) (by omega)
      have x6 := r4.cell (i := 6) (by omega)
      have x7 := r4.cell (i := 7) (by omega)
      have x8 := r4.cell (i := 8) (by omega)
      have k0 := r4.frozen 0
      have k1 := r4.frozen 1
      have k2 := r4.frozen 2
      have k3 := r4.frozen 3
      have k4 := r4.frozen 4
      have k5 := r4.frozen 5
      have k6 := r4.frozen 6
      have k7 := r4.frozen 7
      have k8 := r4.frozen 8
      have R3 := St.hid r3
      have R4 := St.hid r4
      have P3 := St.hid p3
      have P4 := St.hid p4
      have L3 := St.hid l3
      have L4 := St.hid l4
      have HNE := St.hid hne
      have G3 := St.hid g3
      have H13 := St.hid h13
      have H14 := St.hid h14
      clear r3 r4 p3 p4 l3 l4 hne g3 hd hv h13 h14 e1 e11
      go_simp
      have r3 := R3.out
      have r4 := R4.out
      have p3 := P3.out
      have p4 := P4.out
      have l3 := L3.out
      have l4 := L4.out
      have hne := HNE.out
      have g3 := G3.out
      have h13 := H13.out
      have h14 := H14.out
      refine hK.out _ _ ⟨cF, kq c0, kq c1, kq c2, kq c3, kq c4, kq c5, kq c6, kq c7, kq c8, kq c9, St.hid (below9 cB.out l4), St.hid (fun h => ⟨Rg.up_of (cR.out (Rg.up_ne h (by decide))).1, Rg.up_of (cR.out (Rg.up_ne h (by decide))).2⟩), St.hid (fun _ => Rg.up_of h14), St.hid (fun _ => ⟨b3, f3, g3, l3, other9 r3 (by omega), fun h => p3 (Rg.up_ne h (by decide))⟩), St.hid (fun _ => ⟨b4, _, g4, l4, row9 r4 _, fun _ => rfl⟩), St.hid (fun h h' => cN.out (Rg.up_ne h (by decide)) (Rg.up_ne h' (by decide)))⟩
  case re =>
    intro Lf a1 w1 hI hall
    obtain ⟨cF, c0, c1, c2, c3, c4, c5, c6, c7, c8, c9, cB, cR, cS, cA1, cA2, cN⟩ := hI
    obtain ⟨b3, f3, g3, l3, r3, p3⟩ := cA1.out (hall 10 (by decide))
    obtain ⟨b4, f4, g4, l4, r4, p4⟩ := cA2.out (hall 11 (by decide))
    have hne : b3 ≠ b4 := fun e => cN.out (hall 10 (by decide)) (hall 11 (by decide)) (by rw [g3, g4, e])
    obtain rfl := p3 (hall 12 (by decide))
    obtain rfl := p4 (hall 13 (by decide))
    have e := cF.out.eq (fun d => a1.tmps[d]?.getD undef) (fun _ _ => rfl)
    refine HQ.out _ _ ?_
    rw [e]
    exact H.out (fun d => a1.tmps[d]?.getD undef) b3 b4 w1 g3 g4  r3 r4 l3 l4 hne cB.out
end Go.Proofs.YtckkkdldljhehabGreat.Ws
