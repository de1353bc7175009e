/- Part of the proofs of GamePlays and GameRuns (package ninepinslaw): contracts of the functions that they call. -/
import Derived.Test.YtckkkdldljhehacGreatPkQ
import Derived.Test.YtckkkdldljhehacGreatPkY
import Derived.Test.YtckkkdldljhehacGreatPkRA
import Derived.Test.YtckkkdldljhehacGreatPkW
import Derived.Test.YtckkkdldljhehacGreatPkY1
namespace Go.Proofs.YtckkkdldljhehacGreat
namespace Rf
open Num St Mp Th Wd Gm Ws
open Go.ChangeShapes Go.WideShapes Go.ChangeAt Go.RowKit
noncomputable def lreg15 : Code := ((Tryz.f11.body.bind (Rs.findR 15)).getD .skip)
attribute [local go_sem ↓] Go.wp_at_zero Go.wp_at_succ
set_option maxHeartbeats 16000000 in
set_option maxRecDepth 100000 in
theorem lreg15_wp (Q : Exit → Act → World → Prop) (A : Act) (q rb g off n c cap k ci cm li lm : Nat) (ai am : Option Addr) (r : Rep) (xa : Ac) (S0 : World → Prop) (S1 : Value → World → Prop) (S3 : World → Prop) (wz : World)
  (e9 : A.tmps[9]?.getD undef = .slice (some ⟨q, 0, none⟩) n c) (e3 : A.tmps[3]?.getD undef = .slice (some ⟨g, off, none⟩) n cap) (e15 : A.tmps[15]?.getD undef = .int .i64 (k : Int)) (e13 : A.tmps[13]?.getD undef = .pointer (some ⟨rb, 0, none⟩)) (hsz : 95 < A.tmps.size) (hlt : k < n) (h0 : S0 wz.drew)
  (hc0 : ∀ W, S0 W → g < W.heap.size ∧ ∀ j u, (actCells xa)[j]? = some u → W.cell? ⟨g, off + k * 17 + j, none⟩ = some u)
  (hr0 : ∀ W, S0 W → q < W.heap.size ∧ W.cell? ⟨q, k * 4, none⟩ = some (.int .i64 r.code) ∧ W.cell? ⟨q, k * 4 + 1, none⟩ = some (.int .i64 r.n) ∧ W.cell? ⟨q, k * 4 + 2, none⟩ = some (.slice ai li ci) ∧ W.cell? ⟨q, k * 4 + 3, none⟩ = some (.slice am lm cm))
  (hr1 : ∀ v W, S1 v W → q < W.heap.size ∧ W.cell? ⟨q, k * 4, none⟩ = some (.int .i64 r.code) ∧ W.cell? ⟨q, k * 4 + 1, none⟩ = some (.int .i64 r.n) ∧ W.cell? ⟨q, k * 4 + 2, none⟩ = some (.slice ai li ci) ∧ W.cell? ⟨q, k * 4 + 3, none⟩ = some (.slice am lm cm))
  (hr : ∀ W, S0 W → Calls Tryz.prog 27 #[.pointer (some ⟨rb, 0, none⟩), actA xa] W fun e w' => ∃ v2, e = .returned v2 ∧ S1 v2 w')
  (hs : ∀ v2 W, S1 v2 W → Calls Tryz.prog 26 #[.agg #[.int .i64 r.code, .int .i64 r.n, .slice ai li ci, .slice am lm cm], v2] W fun e w' => e = .returned (.bool true) ∧ S3 w')
  (h : ∀ (f : Nat → Value) (W : World), f 95 = .bool false → S3 W → Q .normal (Rh.puts f [84, 85, 86, 87, 88, 89, 90, 91, 92, 93, 94, 95] A) W) :
  Code.wp Tryz.prog lreg15 Q A wz := by
 have HC0 := St.hid hc0
 have HR0 := St.hid hr0
 have HR1 := St.hid hr1
 have HR := St.hid hr
 have HS := St.hid hs
 have H0 := St.hid h0
 have H := St.hid h
 have hlt' : (k : Int) < (n : Int) := by omega
 clear hc0 hr0 hr1 hr hs h0 h
 conv => arg 2; whnf
 refine Rs.wp_region (by kernel_rfl) (fun Lf a1 w1 => Hid (Rs.Sl [84, 85, 86, 87, 88, 89, 90, 91, 92, 93, 94, 95] A [(0, 84, .slice (some ⟨q, 0, none⟩) n c), (1, 85, .int .i64 (k : Int)), (2, 86, .pointer (some ⟨q, k * 4, none⟩)), (3, 87, .agg #[.int .i64 r.code, .int .i64 r.n, .slice ai li ci, .slice am lm cm]), (4, 88, .pointer (some ⟨rb, 0, none⟩)), (5, 89, .slice (some ⟨g, off, none⟩) n cap), (6, 90, .int .i64 (k : Int)), (7, 91, .pointer (some ⟨g, off + k * 17, none⟩)), (8, 92, actA xa), (10, 94, .bool true), (11, 95, .bool false)] Lf a1) ∧ Hid (Lf 9 = false → S0 w1) ∧ Hid (Lf 9 = true → Lf 10 = false → S1 (a1.tmps[93]?.getD undef) w1) ∧ Hid (Lf 10 = true → S3 w1)) (by kernel_rfl) ?rs ?rg ?re
 case rs => exact ⟨Rs.Sl.start hsz rfl, St.hid (fun _ => H0.out), St.hid (fun h => by cases h), St.hid (fun h => by cases h)⟩
 case rg =>
  intro Lf a1 w1 hI hC
  obtain ⟨cS, s0, s1, s3⟩ := hI
  iterate 3 (refine ⟨fun hl hd K' hK => ?_, ?_⟩; rotate_left)
  refine ⟨fun hl hd K' hK => ?o3, ?_⟩
  rotate_left
  iterate 4 (refine ⟨fun hl hd K' hK => ?_, ?_⟩; rotate_left)
  refine ⟨fun hl hd K' hK => ?o8, ?_⟩
  rotate_left
  refine ⟨fun hl hd K' hK => ?o9, ?_⟩
  rotate_left
  refine ⟨fun hl hd K' hK => ?o10, ?_⟩
  rotate_left
  refine ⟨fun hl hd K' hK => ?_, ?_⟩
  rotate_left
  exact trivial
  case o3 =>
   have q0 := Rs.Sl.at cS 2 (Rs.dep hd 2)
   have h10 := Rs.late hC hl 10
   have HC : q < w1.heap.size ∧ w1.cell? ⟨q, k * 4, none⟩ = some (.int .i64 r.code) ∧ w1.cell? ⟨q, k * 4 + 1, none⟩ = some (.int .i64 r.n) ∧ w1.cell? ⟨q, k * 4 + 2, none⟩ = some (.slice ai li ci) ∧ w1.cell? ⟨q, k * 4 + 3, none⟩ = some (.slice am lm cm) := by
    cases h9 : Lf 9 with
    | false => exact HR0.out _ (s0.out h9)
    | true => exact HR1.out _ _ (s1.out h9 h10)
   obtain ⟨hqz, z0, z1, z2, z3⟩ := HC
   clear hd
   go_simp
   exact hK.out (a1.put (some _) _) _ ⟨Rs.Sl.put cS rfl rfl, s0, St.hid (fun h h' => by rw [Rh.put_ne (by decide)]; exact s1.out h h'), s3⟩
  case o8 =>
   have q0 := Rs.Sl.at cS 7 (Rs.dep hd 7)
   obtain ⟨hgz, hcs⟩ := HC0.out _ (s0.out (Rs.late hC hl 9))
   obtain ⟨j0, j1, j2, j3, j4, j5, j6, j7, j8, j9, j10, j11, j12, j13, j14, j15, j16⟩ := act_at hcs
   clear hcs hd
   go_simp
   exact hK.out (a1.put (some _) _) _ ⟨Rs.Sl.put cS rfl rfl, s0, St.hid (fun h h' => by rw [Rh.put_ne (by decide)]; exact s1.out h h'), s3⟩
  case o9 =>
   have q0 := Rs.Sl.at cS 4 (Rs.dep hd 4)
   have q1 := Rs.Sl.at cS 8 (Rs.dep hd 8)
   have hS := s0.out hl
   clear hd
   go_simp
   refine (HR.out _ hS).mono ?_
   rintro e w2 ⟨v, rfl, hs1⟩
   go_simp
   exact hK.out (a1.put (some _) _) _ ⟨Rs.Sl.free cS rfl rfl, St.hid (fun h => Rs.no h rfl), St.hid (fun _ _ => by rw [Rs.Sl.new cS]; exact hs1), St.hid (fun h => Rs.no (Rs.late hC hl 10) h)⟩
  case o10 =>
   have q0 := Rs.Sl.at cS 3 (Rs.dep hd 3)
   have h9 := Rs.dep hd 9
   have hs1 := s1.out h9 hl
   clear hd
   go_simp
   refine (HS.out _ _ hs1).mono ?_
   rintro e w2 ⟨rfl, hs3⟩
   go_simp
   exact hK.out (a1.put (some _) _) _ ⟨Rs.Sl.put cS rfl rfl, St.hid (fun h => Rs.no h h9), St.hid (fun _ h => Rs.no h rfl), St.hid (fun _ => hs3)⟩
  all_goals
   have z := Rs.Sl.deps cS hd
   clear hd
   repeat (obtain ⟨_, z⟩ := z)
   have y9 := Rs.Sl.old cS e9 rfl
   have y3 := Rs.Sl.old cS e3 rfl
   have y15 := Rs.Sl.old cS e15 rfl
   have y13 := Rs.Sl.old cS e13 rfl
   go_simp
   exact hK.out (a1.put (some _) _) _ ⟨Rs.Sl.put cS rfl rfl, s0, St.hid (fun h h' => by rw [Rh.put_ne (by decide)]; exact s1.out h h'), s3⟩
 case re =>
  intro Lf a1 w1 hI hall
  obtain ⟨cS, s0, s1, s3⟩ := hI
  rw [Rs.Sl.eq cS]
  exact H.out _ w1 (Rs.Sl.at cS 11 (hall 11 (by decide))) (s3.out (hall 10 (by decide)))
end Rf
namespace Rf
open Num St Mp Th Wd Gm Ws
open Go.ChangeShapes Go.WideShapes Go.ChangeAt Go.RowKit
def ac99 : Ac := ⟨99, 0, 0, 0, ⟨0, 0, 0, 0, 0, 0, 0, 0⟩, ⟨0, 0, 0, 0, 0⟩⟩
theorem act99 (w : World) : ActL (w.alloc (.cells #[.int .i64 99, .int .i64 0, .int .i64 0, .int .i64 0, .int .i64 0, .int .i64 0, .int .i64 0, .int .i64 0, .int .i64 0, .int .i64 0, .int .i64 0, .int .i64 0, .int .i64 0, .int .i64 0, .int .i64 0, .int .i64 0, .int .i64 0] 38)) (some ⟨w.heap.size, 0, none⟩) [ac99] := fun _ => by
 refine ⟨w.heap.size, 0, rfl, by simp, fun i x hi j u hj => ?_⟩
 have h1 := rowIsL w (actCells ac99) 38
 cases i with
 | succ i => simp at hi
 | zero =>
  simp at hi
  subst hi
  have hj17 : j < 17 := (List.getElem?_eq_some_iff.1 hj).1
  have h2 := h1.cell (i := j) hj17
  rw [show (actCells ac99).getD j undef = u from by simp [List.getD, hj]] at h2
  rw [show 0 + 0 * 17 + j = j by omega]
  exact h2
theorem good99 : GoodWd 0 0 9 9 [] := ⟨⟨rfl, by simp [allL], by simp, List.Pairwise.nil, by simp, by simp [allL]⟩, by omega, by omega, by omega⟩
set_option maxHeartbeats 4000000 in
set_option maxRecDepth 100000 in
theorem run_all (wide high fall : Int) (al : Option Addr) (n cap : Nat) (l : List Ac) (w : World) (hn : n = l.length) (hl : ActL w al l) :
  Calls Tryz.prog 21 #[.int .i64 wide, .int .i64 high, .int .i64 fall, .slice al n cap] w fun e w' =>
   ((¬ GoodWd 0 fall wide high [] ∧ e = .returned (.tuple #[.slice none 0 0, .int .i64 2])) ∨ (GoodWd 0 fall wide high [] ∧ 150 < n ∧ e = .returned (.tuple #[.slice none 0 0, .int .i64 5])) ∨
    (GoodWd 0 fall wide high [] ∧ n ≤ 150 ∧ ∃ a c us, e = .returned (.tuple #[.slice a n c, .int .i64 0]) ∧ Reps w' w.heap.size (fun _ => False) (.slice a n c) us (repsG (newG wide high fall) l n))) ∧ Below w.heap.size w w' := by
 by_cases hgw : GoodWd 0 fall wide high []
 ·by_cases h150 : n ≤ 150
  ·refine (run_any wide high fall al n cap l w hn hl h150 hgw).mono ?_
   rintro e w' ⟨h, hb⟩
   exact ⟨Or.inr (Or.inr ⟨hgw, h150, h⟩), hb⟩
  ·have b150 : (n : Int) > 150 := by omega
   go_enter Tryz.func21, Tryz.ntmps21
   go_wp2_with fail
   refine (new_any wide high fall w).mono ?_
   rintro e w1 ⟨hor, hb1⟩
   rcases hor with ⟨h, -⟩ | ⟨-, b, F, rfl, -, -⟩
   ·exact absurd hgw h
   have HB := St.hid hb1
   clear hb1
   go_wp2_with fail
   exact bodyPost_ret (v := .tuple #[.slice none 0 0, .int .i64 5]) (by simp [results, Tryz.results21, go_sem]) rfl ⟨Or.inr (Or.inl ⟨hgw, by omega, rfl⟩), HB.out⟩
 ·go_enter Tryz.func21, Tryz.ntmps21
  go_wp2_with fail
  refine (new_any wide high fall w).mono ?_
  rintro e w1 ⟨hor, hb1⟩
  rcases hor with ⟨-, rfl⟩ | ⟨h, -⟩
  rotate_left
  ·exact absurd h hgw
  have HB := St.hid hb1
  clear hb1
  go_wp2_with fail
  exact bodyPost_ret (v := .tuple #[.slice none 0 0, .int .i64 2]) (by simp [results, Tryz.results21, go_sem]) rfl ⟨Or.inl ⟨hgw, rfl⟩, HB.out⟩
def Q1 (w2 : World) (rb : Nat) (s : Gp) (r : Rep) (v : Value) (W : World) : Prop :=
 ∃ vi vm G', v = .agg #[.int .i64 r.code, .int .i64 r.n, vi, vm] ∧ Rp.IntsR W vi r.ids ∧ Rp.PairsR W vm r.met ∧ RGam W G' rb s ∧ (∀ z, G' z → w2.heap.size ≤ z) ∧ Below w2.heap.size w2 W
theorem run_ref {w2 wr : World} {G : Nat → Prop} {rb : Nat} {s : Gp} (hg : GoodG s) (xa : Ac) (hwf : (Lit.int .i64 xa.id).wf = true ∧ -9223372036854775808 ≤ xa.mask ∧ xa.mask ≤ 9223372036854775807) {s6 : Gp} {r : Rep} (hs : s6 = (doG s xa).1) (hr : r = (doG s xa).2) (hR : RGam wr G rb s) (hG : ∀ z, G z → w2.heap.size ≤ z) (hB : Below w2.heap.size w2 wr) (W : World) (hb : Below wr.heap.size wr W) :
  Calls Tryz.prog 27 #[.pointer (some ⟨rb, 0, none⟩), actA xa] W fun e w' => ∃ v2, e = .returned v2 ∧ Q1 w2 rb s6 r v2 w' := by
 have h := rdo_any (hR.below hb) hg xa hwf.1 hwf.2
 rw [← hs, ← hr] at h
 refine h.mono ?_
 have hz1 := hB.size
 have hz2 := hb.size
 rintro e w3 ⟨vi, vm, rfl, hvi, hvm, ⟨G4, hR3, hG4⟩, hk3⟩
 exact ⟨_, rfl, vi, vm, G4, rfl, hvi, hvm, hR3, fun z hz => (hG4 z hz).elim (hG z) (fun h => by omega), (bcall hB hb).trans (hk3.to_below (by omega) hG)⟩
attribute [local go_sem ↓] Go.wp_at_zero Go.wp_at_succ
set_option maxHeartbeats 16000000 in
set_option maxRecDepth 100000 in
theorem gameRuns_any (wide high fall : Int) (al : Option Addr) (n cap : Nat) (l : List Ac) (w : World) (hl : ActL w al l) (hn : n = l.length) (hz : n * 136 ≤ 140737488355328) (h0 : al = none → cap = 0) (hwf : ∀ x ∈ l, (Lit.int .i64 x.id).wf = true ∧ -9223372036854775808 ≤ x.mask ∧ x.mask ≤ 9223372036854775807) :
  Calls Tryz.prog 11 #[.int .i64 wide, .int .i64 high, .int .i64 fall, .slice al n cap] w fun e w' => e = .returned (.bool true) ∧ Below w.heap.size w w' := by
 have HL := St.hid hl
 have HN := St.hid hn
 have H0 := St.hid h0
 have HWF := St.hid hwf
 clear hl hn h0 hwf
 go_enter Tryz.func11, Tryz.ntmps11
 go_wp2_with (at_builtin; refine wpList_copy_acts rfl _ rfl al n cap l rfl HN.out HL.out H0.out hz ?_)
 intro a1 c1 w1 hl1 hb1
 have HL1 := St.hid hl1
 have HB1 := St.hid hb1
 clear hl1 hb1
 go_wp2_with fail
 refine (run_all wide high fall a1 n c1 l w1 HN.out HL1.out).mono ?_
 rintro e w2 ⟨hor, hb2⟩
 have HB2 := St.hid (bcall HB1.out hb2)
 clear hb2 HB1 HL1
 rcases hor with ⟨hgw, rfl⟩ | ⟨hgw, hbig, rfl⟩ | ⟨hgw, hfew, a2, c2, us, rfl, hreps⟩
 ·go_wp2_with fail
  refine (run_any 9 9 0 _ 1 _ [ac99] _ rfl (act99 w2) (by omega) good99).mono ?_
  rintro e w3 ⟨⟨a3, c3, us3, rfl, -⟩, hb3⟩
  have HB3 := St.hid (bcall (bal HB2.out (.cells #[.int .i64 99, .int .i64 0, .int .i64 0, .int .i64 0, .int .i64 0, .int .i64 0, .int .i64 0, .int .i64 0, .int .i64 0, .int .i64 0, .int .i64 0, .int .i64 0, .int .i64 0, .int .i64 0, .int .i64 0, .int .i64 0, .int .i64 0] 38)) hb3)
  clear hb3 HB2
  go_wp2_with fail
  refine (rnew_any wide high fall w3).mono ?_
  rintro e w4 ⟨hor, hb4⟩
  rcases hor with ⟨-, rfl⟩ | ⟨h, -⟩
  rotate_left
  ·exact absurd h hgw
  have HB4 := St.hid (bcall HB3.out hb4)
  clear hb4 HB3
  go_wp2_with fail
  refine (lalive_any w4).mono ?_
  rintro e w5 ⟨rfl, hb5⟩
  have HB5 := St.hid (bcall HB4.out hb5)
  clear hb5 HB4
  go_wp2_with fail
  go_ret
  exact ⟨rfl, HB5.out⟩
 ·have b150 : (n : Int) > 150 := by omega
  go_wp2_with fail
  refine (run_any 9 9 0 _ 1 _ [ac99] _ rfl (act99 w2) (by omega) good99).mono ?_
  rintro e w3 ⟨⟨a3, c3, us3, rfl, -⟩, hb3⟩
  have HB3 := St.hid (bcall (bal HB2.out (.cells #[.int .i64 99, .int .i64 0, .int .i64 0, .int .i64 0, .int .i64 0, .int .i64 0, .int .i64 0, .int .i64 0, .int .i64 0, .int .i64 0, .int .i64 0, .int .i64 0, .int .i64 0, .int .i64 0, .int .i64 0, .int .i64 0, .int .i64 0] 38)) hb3)
  clear hb3 HB2
  go_wp2_with fail
  refine (rnew_any wide high fall w3).mono ?_
  rintro e w4 ⟨hor, hb4⟩
  rcases hor with ⟨h, -⟩ | ⟨-, rb, G, rfl, -, -⟩
  ·exact absurd hgw h
  have HB4 := St.hid (bcall HB3.out hb4)
  clear hb4 HB3
  go_wp2_with fail
  refine (lalive_any w4).mono ?_
  rintro e w5 ⟨rfl, hb5⟩
  have HB5 := St.hid (bcall HB4.out hb5)
  clear hb5 HB4
  go_wp2_with fail
  go_ret
  exact ⟨rfl, HB5.out⟩
 ·have b150 : ¬ ((n : Int) > 150) := by omega
  have HREP := St.hid hreps
  have HGN := St.hid (newGood hgw)
  clear hreps
  go_wp2_with fail
  refine (run_any 9 9 0 _ 1 _ [ac99] _ rfl (act99 w2) (by omega) good99).mono ?_
  rintro e w3 ⟨⟨a3, c3, us3, rfl, -⟩, hb3⟩
  have HB3 : Hid (Below w2.heap.size w2 w3) := St.hid (bcall (bal (Below.refl _ w2) (.cells #[.int .i64 99, .int .i64 0, .int .i64 0, .int .i64 0, .int .i64 0, .int .i64 0, .int .i64 0, .int .i64 0, .int .i64 0, .int .i64 0, .int .i64 0, .int .i64 0, .int .i64 0, .int .i64 0, .int .i64 0, .int .i64 0, .int .i64 0] 38)) hb3)
  clear hb3
  go_wp2_with fail
  refine (rnew_any wide high fall w3).mono ?_
  rintro e w4 ⟨hor, hb4⟩
  rcases hor with ⟨h, -⟩ | ⟨-, rb, G, rfl, hR, hG⟩
  ·exact absurd hgw h
  have HB4 := St.hid (bcall HB3.out hb4)
  have HR4 := St.hid hR
  have HG4 : Hid (∀ z, G z → w2.heap.size ≤ z) := St.hid (fun z hz => Nat.le_trans HB3.out.size (hG z hz))
  clear hb4 HB3 hR hG
  go_wp2_with fail
  refine (lalive_any w4).mono ?_
  rintro e w5 ⟨rfl, hb5⟩
  have HB5 := St.hid (bcall HB4.out hb5)
  have HR5 := St.hid (HR4.out.below hb5)
  clear hb5 HB4 HR4
  generalize newG wide high fall = s0 at HR5 HGN HREP
  go_wp2_with fail
  go_loopw [15] (fun i wr => ∃ (k : Nat) (G : Nat → Prop) (s : Gp), k ≤ n ∧ i = .int .i64 k ∧ Hid (s = doAll s0 (l.take k)) ∧ Hid (GoodG s) ∧ Hid (RGam wr G rb s) ∧ Hid (∀ z, G z → w2.heap.size ≤ z) ∧ Hid (Below w2.heap.size w2 wr)) (fun i _ => n - (intOf i).toNat)
  case atStart => exact ⟨0, G, s0, Nat.zero_le _, rfl, St.hid (by simp [doAll]), HGN, HR5, HG4, HB5⟩
  case round =>
   clear HR5 HGN HG4 HB5
   obtain ⟨k, G, s, hk, rfl, HS, HGN, HR, HE, HB⟩ := hrel
   have hzr := HB.out.size
   have hz2 := HB2.out.size
   by_cases hlt : k < n
   ·have hlt' : (k : Int) < (n : Int) := by omega
    obtain ⟨xa, hxa⟩ : ∃ xa, l[k]? = some xa := ⟨_, List.getElem?_eq_getElem (by have := HN.out; omega)⟩
    obtain ⟨g, off, rfl, hgl, hcs⟩ := HL.out (by have := HN.out; omega)
    have HCS := St.hid (hcs k xa hxa)
    have HXW := St.hid (HWF.out xa (List.mem_of_getElem? hxa))
    obtain ⟨s6, hs6⟩ : ∃ s6, s6 = (doG s xa).1 := ⟨_, rfl⟩
    obtain ⟨r, hr⟩ : ∃ r, r = (doG s xa).2 := ⟨_, rfl⟩
    have hat : (repsG s0 l n)[k]? = some r := by rw [repsG_at s0 l hlt, repG_eq s0 hxa, ← HS.out, hr]
    obtain ⟨q, cc, ai, ci, am, cm, eu, hql, hrd⟩ := HREP.out.read hat
    rw [repsG_len] at eu
    simp only [Value.slice.injEq, true_and] at eu
    obtain ⟨rfl, rfl⟩ := eu
    have HRD := St.hid hrd
    have HS6 := St.hid hs6
    have HRR := St.hid hr
    have HGN6 : Hid (GoodG s6) := St.hid (by rw [hs6]; exact HGN.out.do xa)
    have HSN : Hid (s6 = doAll s0 (l.take (k + 1))) := St.hid (by rw [take_snocA hxa, doAll_snoc, ← HS.out, hs6])
    have HRL : Hid (r.ids.length ≤ 10 ∧ r.met.length ≤ 800) := St.hid (by rw [hr]; exact rep_short HGN.out xa)
    clear hs6 hr hcs hxa hat hrd
    go_upto_region 15 with fail
    refine Rh.wp_act ?_
    intro A hA
    refine lreg15_wp _ A q rb g off n _ cap k ci cm r.ids.length r.met.length ai am r xa (fun W => Below wr.heap.size wr W) (Q1 w2 rb s6 r) (fun W => ∃ G', RGam W G' rb s6 ∧ (∀ z, G' z → w2.heap.size ≤ z) ∧ Below w2.heap.size w2 W) wr (by rw [hA]; rfl) (by rw [hA]; rfl) (by rw [hA]; rfl) (by rw [hA]; rfl) (by rw [hA]; exact Nat.le_of_ble_eq_true rfl) hlt (Below.drew (Below.refl _ _)) (fun W hb => ⟨by have := hb.size; omega, fun j u hj => ((bcall HB2.out (bcall HB.out hb)).cell (p := ⟨g, off + k * 17 + j, none⟩) hgl).trans (HCS.out j u hj)⟩) (fun W hb => ⟨by have := hb.size; omega, by obtain ⟨d0, d1, d2, d3, -⟩ := HRD.out W (Gm.Kept.below (bcall HB.out hb)); exact ⟨d0, d1, d2, d3⟩⟩) (fun v W hp => by
     obtain ⟨-, -, -, -, -, -, -, -, hbw⟩ := hp
     obtain ⟨d0, d1, d2, d3, -⟩ := HRD.out W (Gm.Kept.below hbw)
     exact ⟨by have := hbw.size; omega, d0, d1, d2, d3⟩) (fun W hb => run_ref HGN.out xa HXW.out HS6.out HRR.out HR.out HE.out HB.out W hb) (fun v2 W hp => by
     obtain ⟨vi, vm, G', rfl, h1, h2, h3, h4, hbw⟩ := hp
     obtain ⟨-, -, -, -, j1, j2⟩ := HRD.out W (Gm.Kept.below hbw)
     refine (Rp.sameReply_any r.code r.n r.code r.n _ _ _ _ r.ids r.ids r.met r.met W j1 j2 h1 h2 (by have := HRL.out; omega) (by have := HRL.out; omega)).mono ?_
     rintro e w9 ⟨rfl, hb9⟩
     exact ⟨by simp, G', h3.below hb9, h4, bcall hbw hb9⟩) ?_
    intro f W3 hf95 hp3
    subst hA
    obtain ⟨G6, hR6, hE6, hB6⟩ := hp3
    have HR6 := St.hid hR6
    have HE6 := St.hid hE6
    have HB6 := St.hid hB6
    clear hR6 hE6 hB6 HR HE HB HRD HCS HXW
    simp only [Rh.puts, Act.put, hf95]
    go_simp
    go_wp2_with fail
    go_roundw
    case rel => exact ⟨k + 1, G6, s6, by omega, by go_num, HSN, HGN6, HR6, HE6, HB6⟩
    case measure => simp [intOf]; omega
   ·go_wp2_with fail
    go_ret
    exact ⟨rfl, bcall HB2.out HB.out⟩
end Rf
end Go.Proofs.YtckkkdldljhehacGreat
