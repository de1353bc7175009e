/- Part of the proofs of GamePlays and GameRuns (package ninepinslaw): contracts of the functions that they call. -/
import Derived.Test.YtckkkdldljhehacGreatPkQ
import Derived.Test.YtckkkdldljhehacGreatPkT
import Derived.Test.YtckkkdldljhehacGreatPkY
import Derived.Test.YtckkkdldljhehacGreatPkRA
import Derived.Test.YtckkkdldljhehacGreatPkDQ
import Derived.Test.YtckkkdldljhehacGreatPkW
import Derived.Test.YtckkkdldljhehacGreatPkX2
namespace Go.Proofs.YtckkkdldljhehacGreat
namespace Rf
open Num St Mp Th Wd Gm Ws
open Go.ChangeShapes Go.WideShapes Go.ChangeAt Go.RowKit
noncomputable def lreg10 : Code := ((Tryz.f10.body.bind (Rs.findR 10)).getD .skip)
attribute [local go_sem ↓] Go.wp_at_zero Go.wp_at_succ
set_option maxHeartbeats 16000000 in
set_option maxRecDepth 100000 in
theorem lreg10_wp (Q : Exit → Act → World → Prop) (A : Act) (b rb g off n cap k : Nat) (xa : Ac) (S0 : World → Prop) (S1 : Value → World → Prop) (S2 : Value → Value → World → Prop) (S3 : World → Prop) (wz : World)
  (e9 : A.tmps[9]?.getD undef = .pointer (some ⟨b, 0, none⟩)) (e3 : A.tmps[3]?.getD undef = .slice (some ⟨g, off, none⟩) n cap) (e13 : A.tmps[13]?.getD undef = .int .i64 (k : Int)) (e11 : A.tmps[11]?.getD undef = .pointer (some ⟨rb, 0, none⟩)) (hsz : 64 < A.tmps.size) (hlt : k < n) (h0 : S0 wz.drew)
  (hc0 : ∀ W, S0 W → g < W.heap.size ∧ ∀ j u, (actCells xa)[j]? = some u → W.cell? ⟨g, off + k * 17 + j, none⟩ = some u)
  (hc1 : ∀ v W, S1 v W → g < W.heap.size ∧ ∀ j u, (actCells xa)[j]? = some u → W.cell? ⟨g, off + k * 17 + j, none⟩ = some u)
  (hd : ∀ W, S0 W → Calls Tryz.prog 14 #[.pointer (some ⟨b, 0, none⟩), actA xa] W fun e w' => ∃ v, e = .returned v ∧ S1 v w')
  (hr : ∀ v W, S1 v W → Calls Tryz.prog 27 #[.pointer (some ⟨rb, 0, none⟩), actA xa] W fun e w' => ∃ v2, e = .returned v2 ∧ S2 v v2 w')
  (hs : ∀ v v2 W, S2 v v2 W → Calls Tryz.prog 26 #[v, v2] W fun e w' => e = .returned (.bool true) ∧ S3 w')
  (h : ∀ (f : Nat → Value) (W : World), f 64 = .bool false → S3 W → Q .normal (Rh.puts f [51, 52, 53, 54, 55, 56, 57, 58, 59, 60, 61, 62, 63, 64] A) W) :
  Code.wp Tryz.prog lreg10 Q A wz := by
 have HC0 := St.hid hc0
 have HC1 := St.hid hc1
 have HD := St.hid hd
 have HR := St.hid hr
 have HS := St.hid hs
 have H0 := St.hid h0
 have H := St.hid h
 have hlt' : (k : Int) < (n : Int) := by omega
 clear hc0 hc1 hd hr hs h0 h
 conv => arg 2; whnf
 refine Rs.wp_region (by kernel_rfl) (fun Lf a1 w1 => Hid (Rs.Sl [51, 52, 53, 54, 55, 56, 57, 58, 59, 60, 61, 62, 63, 64] A [(0, 51, .pointer (some ⟨b, 0, none⟩)), (1, 52, .slice (some ⟨g, off, none⟩) n cap), (2, 53, .int .i64 (k : Int)), (3, 54, .pointer (some ⟨g, off + k * 17, none⟩)), (4, 55, actA xa), (6, 57, .pointer (some ⟨rb, 0, none⟩)), (7, 58, .slice (some ⟨g, off, none⟩) n cap), (8, 59, .int .i64 (k : Int)), (9, 60, .pointer (some ⟨g, off + k * 17, none⟩)), (10, 61, actA xa), (12, 63, .bool true), (13, 64, .bool false)] Lf a1) ∧ Hid (Lf 5 = false → S0 w1) ∧ Hid (Lf 5 = true → Lf 11 = false → S1 (a1.tmps[56]?.getD undef) w1) ∧ Hid (Lf 11 = true → Lf 12 = false → S2 (a1.tmps[56]?.getD undef) (a1.tmps[62]?.getD undef) w1) ∧ Hid (Lf 12 = true → S3 w1)) (by kernel_rfl) ?rs ?rg ?re
 case rs => exact ⟨Rs.Sl.start hsz rfl, St.hid (fun _ => H0.out), St.hid (fun h => by cases h), St.hid (fun h => by cases h), St.hid (fun h => by cases h)⟩
 case rg =>
  intro Lf a1 w1 hI hC
  obtain ⟨cS, s0, s1, s2, s3⟩ := hI
  iterate 4 (refine ⟨fun hl hd K' hK => ?_, ?_⟩; rotate_left)
  refine ⟨fun hl hd K' hK => ?o4, ?_⟩
  rotate_left
  refine ⟨fun hl hd K' hK => ?o5, ?_⟩
  rotate_left
  iterate 4 (refine ⟨fun hl hd K' hK => ?_, ?_⟩; rotate_left)
  refine ⟨fun hl hd K' hK => ?o10, ?_⟩
  rotate_left
  refine ⟨fun hl hd K' hK => ?o11, ?_⟩
  rotate_left
  refine ⟨fun hl hd K' hK => ?o12, ?_⟩
  rotate_left
  refine ⟨fun hl hd K' hK => ?_, ?_⟩
  rotate_left
  exact trivial
  case o4 =>
   have q0 := Rs.Sl.at cS 3 (Rs.dep hd 3)
   obtain ⟨hgz, hcs⟩ := HC0.out _ (s0.out (Rs.late hC hl 5))
   obtain ⟨j0, j1, j2, j3, j4, j5, j6, j7, j8, j9, j10, j11, j12, j13, j14, j15, j16⟩ := act_at hcs
   clear hcs hd
   go_simp
   exact hK.out (a1.put (some _) _) _ ⟨Rs.Sl.put cS rfl rfl, s0, St.hid (fun h h' => by rw [Rh.put_ne (by decide)]; exact s1.out h h'), St.hid (fun h h' => by rw [Rh.put_ne (by decide), Rh.put_ne (by decide)]; exact s2.out h h'), s3⟩
  case o5 =>
   have q0 := Rs.Sl.at cS 0 (Rs.dep hd 0)
   have q1 := Rs.Sl.at cS 4 (Rs.dep hd 4)
   have hS := s0.out hl
   clear hd
   go_simp
   refine (HD.out _ hS).mono ?_
   rintro e w2 ⟨v, rfl, hs1⟩
   go_simp
   exact hK.out (a1.put (some _) _) _ ⟨Rs.Sl.free cS rfl rfl, St.hid (fun h => Rs.no h rfl), St.hid (fun _ _ => by rw [Rs.Sl.new cS]; exact hs1), St.hid (fun h => Rs.no (Rs.late hC hl 11) h), St.hid (fun h => Rs.no (Rs.late hC hl 12) h)⟩
  case o10 =>
   have h11 := Rs.late hC hl 11
   have HC : g < w1.heap.size ∧ ∀ j u, (actCells xa)[j]? = some u → w1.cell? ⟨g, off + k * 17 + j, none⟩ = some u := by
    cases h5 : Lf 5 with
    | false => exact HC0.out _ (s0.out h5)
    | true => exact HC1.out _ _ (s1.out h5 h11)
   have q0 := Rs.Sl.at cS 9 (Rs.dep hd 9)
   obtain ⟨hgz, hcs⟩ := HC
   obtain ⟨j0, j1, j2, j3, j4, j5, j6, j7, j8, j9, j10, j11, j12, j13, j14, j15, j16⟩ := act_at hcs
   clear hcs hd
   go_simp
   exact hK.out (a1.put (some _) _) _ ⟨Rs.Sl.put cS rfl rfl, s0, St.hid (fun h h' => by rw [Rh.put_ne (by decide)]; exact s1.out h h'), St.hid (fun h h' => by rw [Rh.put_ne (by decide), Rh.put_ne (by decide)]; exact s2.out h h'), s3⟩
  case o11 =>
   have q0 := Rs.Sl.at cS 6 (Rs.dep hd 6)
   have q1 := Rs.Sl.at cS 10 (Rs.dep hd 10)
   have h5 := Rs.dep hd 5
   have hs1 := s1.out h5 hl
   clear hd
   go_simp
   refine (HR.out _ _ hs1).mono ?_
   rintro e w2 ⟨v2, rfl, hs2⟩
   go_simp
   exact hK.out (a1.put (some _) _) _ ⟨Rs.Sl.free cS rfl rfl, St.hid (fun h => Rs.no h h5), St.hid (fun _ h => Rs.no h rfl), St.hid (fun _ _ => by rw [Rs.Sl.new cS, Rh.put_ne (by decide)]; exact hs2), St.hid (fun h => Rs.no (Rs.late hC hl 12) h)⟩
  case o12 =>
   have h5 := Rs.dep hd 5
   have h11 := Rs.dep hd 11
   have hs2 := s2.out h11 hl
   clear hd
   go_simp
   refine (HS.out _ _ _ hs2).mono ?_
   rintro e w2 ⟨rfl, hs3⟩
   go_simp
   exact hK.out (a1.put (some _) _) _ ⟨Rs.Sl.put cS rfl rfl, St.hid (fun h => Rs.no h h5), St.hid (fun _ h => Rs.no h h11), St.hid (fun _ h => Rs.no h rfl), St.hid (fun _ => hs3)⟩
  all_goals
   have z := Rs.Sl.deps cS hd
   clear hd
   repeat (obtain ⟨_, z⟩ := z)
   have y9 := Rs.Sl.old cS e9 rfl
   have y3 := Rs.Sl.old cS e3 rfl
   have y13 := Rs.Sl.old cS e13 rfl
   have y11 := Rs.Sl.old cS e11 rfl
   go_simp
   exact hK.out (a1.put (some _) _) _ ⟨Rs.Sl.put cS rfl rfl, s0, St.hid (fun h h' => by rw [Rh.put_ne (by decide)]; exact s1.out h h'), St.hid (fun h h' => by rw [Rh.put_ne (by decide), Rh.put_ne (by decide)]; exact s2.out h h'), s3⟩
 case re =>
  intro Lf a1 w1 hI hall
  obtain ⟨cS, s0, s1, s2, s3⟩ := hI
  rw [Rs.Sl.eq cS]
  exact H.out _ w1 (Rs.Sl.at cS 13 (hall 13 (by decide))) (s3.out (hall 12 (by decide)))
end Rf
namespace Rf
open Num St Mp Th Wd Gm Ws
open Go.ChangeShapes Go.WideShapes Go.ChangeAt Go.RowKit
structure Both (wr : World) (F G : Nat → Prop) (b rb : Nat) (s : Gp) (W : World) (F' G' : Nat → Prop) : Prop where
 g : Gam W F' b s
 r : RGam W G' rb s
 f : ∀ z, F' z → F z ∨ wr.heap.size ≤ z
 e : ∀ z, G' z → G z ∨ wr.heap.size ≤ z
 d : ∀ z, F' z → ¬ G' z
 k : Gm.Kept (fun z => F z ∨ G z) wr W
def P1 (wr : World) (F : Nat → Prop) (b : Nat) (s : Gp) (r : Rep) (v : Value) (W : World) : Prop :=
 ∃ ai ci am cm F', v = .agg #[.int .i64 r.code, .int .i64 r.n, .slice ai r.ids.length ci, .slice am r.met.length cm] ∧ W.ownsRow wr.heap.size 3 1 (.slice ai r.ids.length ci) r.ids.length (r.ids.map (Value.int .i64)) ∧ W.ownsRow wr.heap.size 54 2 (.slice am r.met.length cm) r.met.length (r.met.flatMap Sw.pairCells) ∧ Gam W F' b s ∧ (∀ z, F' z → F z ∨ wr.heap.size ≤ z) ∧ Gm.Kept F wr W
def P2 (wr : World) (F G : Nat → Prop) (b rb : Nat) (s : Gp) (r : Rep) (v v2 : Value) (W : World) : Prop :=
 ∃ ai ci am cm vi vm F' G', v = .agg #[.int .i64 r.code, .int .i64 r.n, .slice ai r.ids.length ci, .slice am r.met.length cm] ∧ v2 = .agg #[.int .i64 r.code, .int .i64 r.n, vi, vm] ∧ Rp.IntsR W (.slice ai r.ids.length ci) r.ids ∧ Rp.PairsR W (.slice am r.met.length cm) r.met ∧ Rp.IntsR W vi r.ids ∧ Rp.PairsR W vm r.met ∧ Both wr F G b rb s W F' G'
theorem both_do {wr : World} {F : Nat → Prop} {b : Nat} {s : Gp} (hg : GoodG s) (xa : Ac) {s6 : Gp} {r : Rep} (hs : s6 = (doG s xa).1) (hr : r = (doG s xa).2) (hG : Gam wr F b s) (W : World) (hb : Below wr.heap.size wr W) :
  Calls Tryz.prog 14 #[.pointer (some ⟨b, 0, none⟩), actA xa] W fun e w' => ∃ v, e = .returned v ∧ P1 wr F b s6 r v w' := by
 have h := do_any (hG.below hb) hg xa
 rw [← hs, ← hr] at h
 refine h.mono ?_
 rintro e w2 ⟨ai, ci, am, cm, rfl, hi2, hm2, ⟨F4, hG2, hF4, -⟩, hk2⟩
 exact ⟨_, rfl, ai, ci, am, cm, F4, rfl, owns_mono hi2 hb.size, owns_mono hm2 hb.size, hG2, fun z hz => (hF4 z hz).imp (fun h => h) (fun h => Nat.le_trans hb.size h), (Gm.Kept.below hb).trans hk2 (fun z h => Or.inl h)⟩
theorem both_ref {wr : World} {F G : Nat → Prop} {b rb : Nat} {s : Gp} (hg : GoodG s) (xa : Ac) (hwf : (Lit.int .i64 xa.id).wf = true ∧ -9223372036854775808 ≤ xa.mask ∧ xa.mask ≤ 9223372036854775807) {s6 : Gp} {r : Rep} (hs : s6 = (doG s xa).1) (hr : r = (doG s xa).2) (hR : RGam wr G rb s) (hd : ∀ z, F z → ¬ G z) (v : Value) (W : World) (hp : P1 wr F b s6 r v W) :
  Calls Tryz.prog 27 #[.pointer (some ⟨rb, 0, none⟩), actA xa] W fun e w' => ∃ v2, e = .returned v2 ∧ P2 wr F G b rb s6 r v v2 w' := by
 obtain ⟨ai, ci, am, cm, F4, rfl, hi2, hm2, hG2, hF4, hk2⟩ := hp
 have hz2 := hk2.size
 have hR2 := hR.kept hk2 (fun z hz h => hd z h hz)
 have h := rdo_any hR2 hg xa hwf.1 hwf.2
 rw [← hs, ← hr] at h
 refine h.mono ?_
 rintro e w3 ⟨vi, vm, rfl, hvi, hvm, ⟨G4, hR3, hG4⟩, hk3⟩
 have hnG : ∀ z, F4 z → ¬ G z := fun z hz h => by
  rcases hF4 z hz with h1 | h1
  ·exact hd z h1 h
  ·have := hR.lt h; omega
 refine ⟨_, rfl, ai, ci, am, cm, vi, vm, F4, G4, rfl, rfl, Rp.IntsR.own (owns_kept' hi2 hk3 (fun z hz h => by have := (hi2.lt z hz).1; have := hR.lt h; omega)) rfl, Rp.PairsR.own (owns_kept' hm2 hk3 (fun z hz h => by have := (hm2.lt z hz).1; have := hR.lt h; omega)) rfl, hvi, hvm, ⟨hG2.kept hk3 hnG, hR3, hF4, fun z hz => (hG4 z hz).imp (fun h => h) (fun h => by omega), fun z hz h => ?_, (hk2.wide (fun z h => Or.inl h)).trans hk3 (fun z h => Or.inl (Or.inr h))⟩⟩
 rcases hG4 z h with h1 | h1
 ·exact hnG z hz h1
 ·have := hG2.lt hz; omega
theorem both_same {wr : World} {F G : Nat → Prop} {b rb : Nat} {s6 : Gp} {r : Rep} (hl : r.ids.length ≤ 10 ∧ r.met.length ≤ 800) (v v2 : Value) (W : World) (hp : P2 wr F G b rb s6 r v v2 W) :
  Calls Tryz.prog 26 #[v, v2] W fun e w' => e = .returned (.bool true) ∧ ∃ F' G', Both wr F G b rb s6 w' F' G' := by
 obtain ⟨ai, ci, am, cm, vi, vm, F4, G4, rfl, rfl, h1, h2, h3, h4, hB⟩ := hp
 refine (Rp.sameReply_any r.code r.n r.code r.n _ _ _ _ r.ids r.ids r.met r.met W h1 h2 h3 h4 (by omega) (by omega)).mono ?_
 rintro e w2 ⟨rfl, hb2⟩
 exact ⟨by simp, F4, G4, hB.g.below hb2, hB.r.below hb2, hB.f, hB.e, hB.d, hB.k.call hb2⟩
attribute [local go_sem ↓] Go.wp_at_zero Go.wp_at_succ
set_option maxHeartbeats 16000000 in
set_option maxRecDepth 100000 in
theorem gamePlays_any (wide high fall : Int) (al : Option Addr) (n cap : Nat) (l : List Ac) (w : World) (hl : ActL w al l) (hn : n = l.length) (hz : n * 136 ≤ 140737488355328) (hwf : ∀ x ∈ l, (Lit.int .i64 x.id).wf = true ∧ -9223372036854775808 ≤ x.mask ∧ x.mask ≤ 9223372036854775807) :
  Calls Tryz.prog 10 #[.int .i64 wide, .int .i64 high, .int .i64 fall, .slice al n cap] w fun e w' => e = .returned (.bool true) ∧ Below w.heap.size w w' := by
 have HL := St.hid hl
 have HN := St.hid hn
 have HWF := St.hid hwf
 clear hl hn hwf
 go_enter Tryz.func10, Tryz.ntmps10
 go_wp2_with fail
 refine (new_any wide high fall w).mono ?_
 rintro e w1 ⟨hor, hb1⟩
 by_cases hgw : GoodWd 0 fall wide high []
 rotate_left
 ·rcases hor with ⟨-, rfl⟩ | ⟨h, -⟩
  rotate_left
  ·exact absurd h hgw
  go_wp2_with fail
  refine (rnew_any wide high fall w1).mono ?_
  rintro e w2 ⟨hor, hb2⟩
  rcases hor with ⟨-, rfl⟩ | ⟨h, -⟩
  rotate_left
  ·exact absurd h hgw
  go_wp2_with fail
  refine (lalive_any w2).mono ?_
  rintro e w3 ⟨rfl, hb3⟩
  have HB := St.hid (bcall (bcall hb1 hb2) hb3)
  clear hb1 hb2 hb3
  go_wp2_with fail
  go_ret
  exact ⟨rfl, HB.out⟩
 ·rcases hor with ⟨h, -⟩ | ⟨-, b, F, rfl, hG, hF⟩
  ·exact absurd hgw h
  have HG1 := St.hid hG
  have HB1 := St.hid hb1
  have HF1 := St.hid hF
  have HGN := St.hid (newGood hgw)
  clear hG hb1 hF
  go_wp2_with fail
  refine (rnew_any wide high fall w1).mono ?_
  rintro e w2 ⟨hor, hb2⟩
  rcases hor with ⟨h, -⟩ | ⟨-, rb, G, rfl, hR, hF⟩
  ·exact absurd hgw h
  have HG2 := St.hid (HG1.out.below hb2)
  have HR2 := St.hid hR
  have HB2 := St.hid (bcall HB1.out hb2)
  have HF2 : Hid (∀ z, G z → w.heap.size ≤ z) := St.hid (fun z hz => Nat.le_trans HB1.out.size (hF z hz))
  have HDJ : Hid (∀ z, F z → ¬ G z) := St.hid (fun z hz h => by have := HG1.out.lt hz; have := hF z h; omega)
  clear hR hb2 hF HG1 HB1 hgw
  go_wp2_with fail
  refine (lalive_any w2).mono ?_
  rintro e w3 ⟨rfl, hb3⟩
  have HG3 := St.hid (HG2.out.below hb3)
  have HR3 := St.hid (HR2.out.below hb3)
  have HB3 := St.hid (bcall HB2.out hb3)
  clear hb3 HG2 HR2 HB2
  generalize newG wide high fall = s0 at HG3 HR3 HGN
  go_wp2_with fail
  go_loopw [13] (fun i wr => ∃ (k : Nat) (F G : Nat → Prop) (s : Gp), k ≤ n ∧ k ≤ 60 ∧ i = .int .i64 k ∧ Hid (Gam wr F b s) ∧ Hid (RGam wr G rb s) ∧ Hid (GoodG s) ∧ Hid (∀ z, F z → w.heap.size ≤ z) ∧ Hid (∀ z, G z → w.heap.size ≤ z) ∧ Hid (∀ z, F z → ¬ G z) ∧ Hid (Below w.heap.size w wr)) (fun i _ => n - (intOf i).toNat)
  case atStart => exact ⟨0, F, G, s0, Nat.zero_le _, Nat.zero_le _, rfl, HG3, HR3, HGN, HF1, HF2, HDJ, HB3⟩
  case round =>
   clear HG3 HR3 HGN HF1 HF2 HDJ HB3
   obtain ⟨k, F, G, s, hk, hk60, rfl, HG, HR, HGN, HF, HE, HDJ, HB⟩ := hrel
   have hzr := HB.out.size
   by_cases hlt : k < n
   ·by_cases h60 : k < 60
    ·obtain ⟨xa, hxa⟩ : ∃ xa, l[k]? = some xa := ⟨_, List.getElem?_eq_getElem (by have := HN.out; omega)⟩
     obtain ⟨g, off, rfl, hgl, hcs⟩ := HL.out (by have := HN.out; omega)
     have HCS := St.hid (hcs k xa hxa)
     have HXW := St.hid (HWF.out xa (List.mem_of_getElem? hxa))
     clear hcs hxa
     obtain ⟨s6, hs6⟩ : ∃ s6, s6 = (doG s xa).1 := ⟨_, rfl⟩
     obtain ⟨r, hr⟩ : ∃ r, r = (doG s xa).2 := ⟨_, rfl⟩
     have HS6 := St.hid hs6
     have HRR := St.hid hr
     have HGN6 : Hid (GoodG s6) := St.hid (by rw [hs6]; exact HGN.out.do xa)
     have HRL : Hid (r.ids.length ≤ 10 ∧ r.met.length ≤ 800) := St.hid (by rw [hr]; exact rep_short HGN.out xa)
     clear hs6 hr
     go_upto_region 10 with fail
     refine Rh.wp_act ?_
     intro A hA
     refine lreg10_wp _ A b rb g off n cap k xa (fun W => Below wr.heap.size wr W) (P1 wr F b s6 r) (P2 wr F G b rb s6 r) (fun W => ∃ F' G', Both wr F G b rb s6 W F' G') wr (by rw [hA]; rfl) (by rw [hA]; rfl) (by rw [hA]; rfl) (by rw [hA]; rfl) (by rw [hA]; exact Nat.le_of_ble_eq_true rfl) hlt (Below.drew (Below.refl _ _)) (fun W hb => ⟨by have := hb.size; omega, fun j u hj => ((bcall HB.out hb).cell (p := ⟨g, off + k * 17 + j, none⟩) hgl).trans (HCS.out j u hj)⟩) (fun v W hp => by
      obtain ⟨-, -, -, -, F4, -, -, -, -, -, hk2⟩ := hp
      exact ⟨by have := hk2.size; omega, fun j u hj => ((HB.out.trans (hk2.to_below hzr HF.out)).cell (p := ⟨g, off + k * 17 + j, none⟩) hgl).trans (HCS.out j u hj)⟩) (fun W hb => both_do HGN.out xa HS6.out HRR.out HG.out W hb) (fun v W hp => both_ref HGN.out xa HXW.out HS6.out HRR.out HR.out HDJ.out v W hp) (fun v v2 W hp => both_same HRL.out v v2 W hp) ?_
     intro f W3 hf64 hp3
     subst hA
     obtain ⟨F4, G4, hB⟩ := hp3
     have HB4 := St.hid (HB.out.trans (hB.k.to_below hzr (fun z h => h.elim (HF.out z) (HE.out z))))
     have HG4 := St.hid hB.g
     have HR4 := St.hid hB.r
     have HF4 : Hid (∀ z, F4 z → w.heap.size ≤ z) := St.hid (fun z hz => (hB.f z hz).elim (HF.out z) (fun h => by omega))
     have HE4 : Hid (∀ z, G4 z → w.heap.size ≤ z) := St.hid (fun z hz => (hB.e z hz).elim (HE.out z) (fun h => by omega))
     have HDJ4 := St.hid hB.d
     clear hB HG HR HF HE HDJ HS6 HRR HRL HXW HCS HGN
     simp only [Rh.puts, Act.put, hf64]
     go_simp
     go_wp2_with fail
     refine (world_any HG4.out).mono ?_
     rintro e w4 ⟨⟨a4, n4, c4', rfl, F5, hst, -⟩, hb4⟩
     have HST := St.hid hst
     have HG5 := St.hid (HG4.out.below hb4)
     have HR5 := St.hid (HR4.out.below hb4)
     have HB5 := St.hid (bcall HB4.out hb4)
     clear hst hb4 HG4 HR4 HB4
     go_wp2_with fail
     refine (worldOf_any s6.now.next s6.now.fall s6.now.wide s6.now.high HST.out).mono ?_
     rintro e w5 ⟨hor, hb5⟩
     rcases hor with ⟨-, c4, rfl, hc4, hm4⟩ | ⟨hno, -⟩
     rotate_left
     ·exact absurd ⟨HGN6.out.now.l, HGN6.out.now.fall, HGN6.out.now.wide, HGN6.out.now.high⟩ hno
     have hAx := bal (Below.refl _ w5) (.cells #[.map (some c4), .int .i64 s6.now.next, .int .i64 s6.now.fall, .int .i64 s6.now.wide, .int .i64 s6.now.high] 73)
     have HG6 := St.hid ((HG5.out.below hb5).below hAx)
     have HR6 := St.hid ((HR5.out.below hb5).below hAx)
     have HB6 := St.hid (bcall (bcall HB5.out hb5) hAx)
     have HM6 := St.hid (hm4.below hAx)
     have HW6 := St.hid (rowIs5 w5 (.map (some c4)) s6.now.next s6.now.fall s6.now.wide s6.now.high 73)
     clear hm4 hb5 HG5 HR5 HB5 hAx HST
     go_upto_region 13 with fail
     generalize w5.heap.size = q5 at HW6 ⊢
     generalize w5.alloc (.cells #[.map (some c4), .int .i64 s6.now.next, .int .i64 s6.now.fall, .int .i64 s6.now.wide, .int .i64 s6.now.high] 73) = W6 at HG6 HR6 HB6 HM6 HW6 ⊢
     obtain ⟨c6, vs6, ms6, hR6⟩ := HR6.out
     have HN6 := St.hid hR6.now
     obtain ⟨x0, x1, x2, x3, x4, -, -⟩ := rgcells hR6.row
     obtain ⟨y0, y1, y2, y3, y4, -⟩ := Ws.rcells HW6.out
     clear hR6
     have HSW := St.hid (fun (W : World) (hb : Below W6.heap.size W6 W) => sameWorld_any c4 c6 (thM s6.now.L) s6.now.next s6.now.fall s6.now.wide s6.now.high W (HM6.out.below hb) (HN6.out.below hb))
     go_wp2_with fail
     go_cut [81] (fun v wx => v = .bool false ∧ ∃ W', W' = wx ∧ Below W6.heap.size W6 W')
     case first =>
      go_region_with (go_at_call 29; go_fit (HSW.out _ (by repeat (first | with_reducible exact Below.refl _ W6 | with_reducible refine Below.drew ?_))); rintro e w7 ⟨rfl, hb7⟩; have HQ7 := St.hid (bcall (by repeat (first | with_reducible exact Below.refl _ W6 | with_reducible refine Below.drew ?_)) hb7 : Below W6.heap.size W6 w7); clear hb7)
      all_goals
       go_wp2_with fail
       go_meet
       exact ⟨rfl, _, rfl, HQ7.out⟩
     case rest =>
     obtain ⟨rfl, W7, rfl, hb7⟩ := hcut
     have HG7 := St.hid (HG6.out.below hb7)
     have HR7 := St.hid (HR6.out.below hb7)
     have HB7 := St.hid (bcall HB6.out hb7)
     clear hb7 x0 x1 x2 x3 x4 y0 y1 y2 y3 y4 HSW HN6 HM6 HW6
     go_wp2_with fail
     go_roundw
     case rel => exact ⟨k + 1, F4, G4, s6, by omega, by omega, by go_num, HG7, HR7, HGN6, HF4, HE4, HDJ4, HB7⟩
     case measure => simp [intOf]; omega
    ·have hke : k = 60 := by omega
     subst hke
     go_wp2_with fail
     go_ret
     exact ⟨rfl, HB.out⟩
   ·go_wp2_with fail
    go_ret
    exact ⟨rfl, HB.out⟩
end Rf
end Go.Proofs.YtckkkdldljhehacGreat
