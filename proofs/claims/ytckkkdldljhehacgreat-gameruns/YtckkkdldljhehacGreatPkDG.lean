/- Part of the proofs of GamePlays and GameRuns (package ninepinslaw): contracts of the functions that they call. -/
import Derived.Test.YtckkkdldljhehacGreatPkV
import Derived.Test.YtckkkdldljhehacGreatPkZ5
import Derived.Test.YtckkkdldljhehacGreatPkDA
namespace Go.Proofs.YtckkkdldljhehacGreat
namespace Rf
open Num St Mp Th Wd Gm Ws
open Go.ChangeShapes Go.WideShapes Go.ChangeAt Go.RowKit
attribute [local go_sem ↓] Go.wp_at_zero Go.wp_at_succ
set_option maxHeartbeats 16000000 in
set_option maxRecDepth 100000 in
theorem rdo_step {F : Nat → Prop} {b : Nat} {s : Gp} {w : World} {id n mask : Int} {row : R8} {box : Sw.B5} (hR : RIn F b s w id mask) : RDone F b s w ⟨6, id, n, mask, row, box⟩ := by
 by_cases hn : n < 1 ∨ 8 < n
 ·unfold RDone
  rw [do_act (r := (s.now, no 2)) hR.a (by simp) (by simp) (by simp [actW, goW]; omega)]
  have hq : btw n 1 8 = false := by
   cases h : btw n 1 8 with
   | false => rfl
   | true => exact absurd hn (by simp [btw] at h; omega)
  obtain ⟨o, ho⟩ : ∃ o, getM id (thM s.now.L) = o := ⟨_, rfl⟩
  refine (rdoT 6 hR o ho _).2 ?_
  intro c vs ms f tb W5 h5
  have H5 := St.hid h5
  have HL := St.hid hR.len
  have HGD := St.hid hR.g
  have HIW := hR.i
  have HA := hR.a
  dsimp only [rdoT]
  intro K1 k1
  obtain ⟨hbz, htn, htl, hcl, hz0, hz1, hz2⟩ := h5.lts
  obtain ⟨a0, a1, a2, a3, a4, a5, a6, a7, a8, a9, a10, a11, a12, a13, a14, a15, a16⟩ := acells h5.ac
  clear h5 hR
  go_upto_if 123 with (first | (go_at_call 47; refine (Th.within_any _ _ _ _).mono ?_; rintro e w' ⟨rfl, hw'⟩; replace hw' := hw'.symm; subst hw'))
  go_wp2_with fail
  refine (rno_any 2 _).mono ?_
  rintro e w9 ⟨rfl, hb9⟩
  have H9 := St.hid (H5.out.below hb9)
  clear hb9
  obtain ⟨p0, p1, p2, p3, p4, p5, p6, p7⟩ := H9.out.rcs
  have hpl := H9.out.rp.lt
  go_wp2_with fail
  obtain ⟨q0, q1, q2, q3⟩ := four (put4 H9.out.rp (.int .i64 2) (.int .i64 0) (.slice none 0 0) (.slice none 0 0))
  exact bodyPost_ret (v := .agg #[.int .i64 2, .int .i64 0, .slice none 0 0, .slice none 0 0]) (by simp [results, Tryz.results27, go_sem, q0, q1, q2, q3]) rfl (H9.out.no 0 2 _ _ _ _)
 ·obtain ⟨N, rfl⟩ : ∃ N : Nat, n = N := ⟨n.toNat, by omega⟩
  have hN1 : 1 ≤ N := by omega
  have hN8 : N ≤ 8 := by omega
  have ea : actW s.now ⟨6, id, (N : Int), mask, row, box⟩ = (stepsW N s.now, ⟨0, (stepsM N s.now).length, [], stepsM N s.now⟩) := by
   simp only [actW]
   unfold goW
   rw [if_neg hn]
   simp
  unfold RDone
  rw [do_act hR.a (by simp) (by simp) ea]
  clear ea
  obtain ⟨i79, hi79, hz79, hs79, hb79⟩ := info_parts Sw.info79
  have hq : btw (N : Int) 1 8 = true := by simp [btw]; omega
  obtain ⟨o, ho⟩ : ∃ o, getM id (thM s.now.L) = o := ⟨_, rfl⟩
  refine (rdoT 6 hR o ho _).2 ?_
  intro c vs ms f tb W5 h5
  have H5 := St.hid h5
  have HL := St.hid hR.len
  have HGD := St.hid hR.g
  have HIW := hR.i
  have HA := hR.a
  dsimp only [rdoT]
  intro K1 k1
  obtain ⟨hbz, htn, htl, hcl, hz0, hz1, hz2⟩ := h5.lts
  obtain ⟨a0, a1, a2, a3, a4, a5, a6, a7, a8, a9, a10, a11, a12, a13, a14, a15, a16⟩ := acells h5.ac
  clear h5 hR
  go_upto_region 26 with (first | (go_at_call 47; refine (Th.within_any _ _ _ _).mono ?_; rintro e w' ⟨rfl, hw'⟩; replace hw' := hw'.symm; subst hw'))
  have hRB : Hid ((W5.alloc (.cells #[.int .i64 0, .int .i64 0, .slice none 0 0, .slice none 0 0] 31)).rowIs W5.heap.size 31 4 (Rp.rcell 0 0 (.slice none 0 0) (.slice none 0 0))) := St.hid (Rp.rowIs4 W5 0 0 (.slice none 0 0) (.slice none 0 0) 31)
  have H6 := St.hid (H5.out.below (bal (Below.refl _ W5) (.cells #[.int .i64 0, .int .i64 0, .slice none 0 0, .slice none 0 0] 31)))
  have hz6 : (W5.alloc (.cells #[.int .i64 0, .int .i64 0, .slice none 0 0, .slice none 0 0] 31)).heap.size = W5.heap.size + 1 := by simp
  go_upto_region 27 with fail
  generalize hrb : W5.heap.size = rb at hRB hz6 htl hcl hz0 hz1 hz2
  generalize W5.alloc (.cells #[.int .i64 0, .int .i64 0, .slice none 0 0, .slice none 0 0] 31) = W6 at H6 hRB hz6 ⊢
  clear hrb H5 a0 a1 a2 a3 a4 a5 a6 a7 a8 a9 a10 a11 a12 a13 a14 a15 a16
  obtain ⟨a0, a1, a2, a3, a4, a5, a6, a7, a8, a9, a10, a11, a12, a13, a14, a15, a16⟩ := acells H6.out.ac
  have hwz6 : w.heap.size < W6.heap.size := by omega
  have HFL := St.hid H6.out.fl
  go_wp2_with fail
  clear a0 a1 a2 a3 a4 a5 a6 a7 a8 a9 a10 a11 a12 a13 a14 a15 a16
  go_loopw [129] (fun i wr => ∃ (k c' : Nat) (Fk : Nat → Prop) (uu : Value), k ≤ N ∧ i = .int .i64 k ∧ Hid (S5 w F Fk b { s with now := stepsW k s.now, acts := s.acts + 1 } ⟨6, id, (N : Int), mask, row, box⟩ (o.getD zTh) c' vs ms tb wr) ∧ Hid (wr.rowIs rb 31 4 (Rp.rcell 0 0 (.slice none 0 0) uu)) ∧ Hid (∀ z, Fk z → F z ∨ W6.heap.size ≤ z) ∧ Hid (wr.ownsRow W6.heap.size 54 2 uu (stepsM k s.now).length ((stepsM k s.now).flatMap Sw.pairCells)) ∧ Hid (∀ z, uu.ownBlock = some z → ¬ Fk z) ∧ W6.heap.size ≤ wr.heap.size) (fun i _ => N - (intOf i).toNat)
  case atStart => exact ⟨0, c, F, .slice none 0 0, Nat.zero_le _, rfl, H6, hRB, St.hid (fun z hz => Or.inl hz), St.hid (World.ownsRow_nil _ _ _ _), St.hid (fun z hz => by cases hz), Nat.le_refl _⟩
  case round =>
   clear H6 hRB
   obtain ⟨k, c', Fk, uu, hk, rfl, H6, hRB, hFk, hown, hsep, hzr⟩ := hrel
   have hrz := hRB.out.lt
   obtain ⟨-, -, htlr, -, hzr0, hzr1, hbzr⟩ := H6.out.lts
   obtain ⟨au, cu, rfl, -⟩ := Sw.owns_slice hown.out
   have HRK : Hid (¬ Fk rb) := St.hid (fun h => by rcases hFk.out _ h with h1 | h1; (have := HFL.out _ h1; omega); omega)
   by_cases hlt : k < N
   ·have hlt' : (k : Int) < (N : Int) := by omega
    obtain ⟨x, HX⟩ : ∃ x, Hid (x = stepsW k s.now) := ⟨_, rfl⟩
    rw [← HX.out] at H6
    have HGX : Hid (GoodW x) := St.hid (by rw [HX.out]; exact HGD.out.now.steps k)
    have hl1 := stepsM_len HGD.out.now k
    have hl2 := stepM_len HGX.out
    have HSW : Hid (stepsW (k + 1) s.now = stepW x) := St.hid (by rw [HX.out]; rfl)
    have HSM : Hid (stepsM (k + 1) s.now = stepsM k s.now ++ stepM x) := St.hid (by rw [HX.out]; rfl)
    obtain ⟨x0, x1, x2, x3, x4, x5, x6, -⟩ := H6.out.gcs
    simp only at x0 x1 x2 x3 x4
    obtain ⟨a0, a1, a2, a3, a4, a5, a6, a7, a8, a9, a10, a11, a12, a13, a14, a15, a16⟩ := acells H6.out.ac
    go_wp2_with fail
    refine (stepOf_any c' x.next x.fall x.wide x.high H6.out.gw.now HGX.out.l HGX.out.fall HGX.out.wide HGX.out.high).mono ?_
    rintro e w6 ⟨⟨c2, um, rfl, hc2, hm2, hum⟩, hb6⟩
    have HUB : Hid (∀ z, (Value.slice au (stepsM k s.now).length cu).ownBlock = some z → W6.heap.size ≤ z ∧ z < wr.heap.size) := St.hid (fun z hz => hown.out.lt z hz)
    have hz66 := hb6.size
    have HB6 := St.hid hb6
    have HM2 := St.hid hm2
    have HUM := St.hid hum
    clear x0 x1 x2 x3 x4 x5 x6
    obtain ⟨x0, x1, x2, x3, x4, x5, x6, xf0, xf1, xf2, xf3, xf4⟩ := (H6.out.below hb6).gcs
    simp only at x0 x1 x2 x3 x4
    have hbz6 : b < w6.heap.size := by omega
    have hne : ¬ (w6.heap.size = b) := by omega
    clear hm2 hum hb6 a0 a1 a2 a3 a4 a5 a6 a7 a8 a9 a10 a11 a12 a13 a14 a15 a16
    go_upto_region 31 with fail
    refine wp_world ?_
    intro V7 hV
    have hAx := fun (W : World) => bal (Below.refl _ W) (.cells #[.map (some c2), .int .i64 x.next, .int .i64 x.fall, .int .i64 x.wide, .int .i64 x.high] 73)
    have hg7 := grown5 w6 b (.map (some c2)) x.next x.fall x.wide x.high
    have H7 := St.hid ((H6.out.loaded (y := stepW x) HB6.out hc2 HM2.out rfl).below (hAx _))
    have hRB := St.hid (rowIs_below (rowIs_grown (rowIs_below hRB.out HB6.out) hg7 (by simp; omega)) (hAx _))
    have hown := St.hid (owns_below (owns_kept (owns_below hown.out HB6.out) hg7 (fun z hz e => by cases e; have := (hown.out.lt _ hz).1; omega)) (hAx _))
    have HUM2 := St.hid (owns_below (owns_kept HUM.out hg7 (fun z hz e => by cases e; have := (HUM.out.lt _ hz).1; omega)) (hAx _))
    have hzE : V7.heap.size = w6.heap.size + 1 := by rw [hV]; simp [World.setCell]
    replace H7 := show Hid (S5 w F (fun z => Fk z ∨ z = c2) b { s with now := stepW x, acts := s.acts + 1 } ⟨6, id, (N : Int), mask, row, box⟩ (o.getD zTh) c2 vs ms tb V7) by rw [hV]; exact H7
    replace hRB := show Hid (V7.rowIs rb 31 4 (Rp.rcell 0 0 (.slice none 0 0) (Value.slice au (stepsM k s.now).length cu))) by rw [hV]; exact hRB
    replace hown := show Hid (V7.ownsRow W6.heap.size 54 2 (Value.slice au (stepsM k s.now).length cu) (stepsM k s.now).length ((stepsM k s.now).flatMap Sw.pairCells)) by rw [hV]; exact hown
    replace HUM2 := show Hid (V7.ownsRow wr.heap.size 54 2 um (stepM x).length ((stepM x).flatMap Sw.pairCells)) by rw [hV]; exact HUM2
    clear x0 x1 x2 x3 x4 x5 x6 xf0 xf1 xf2 xf3 xf4 hV hg7 hAx HB6 HM2 HUM
    obtain ⟨y0, y1, y2, y3⟩ := Rp.rcells hRB.out
    have yf3 := hRB.out.frozen 3
    have hrz7 := hRB.out.lt
    have HRN : Hid (¬ (Fk rb ∨ rb = c2)) := St.hid (fun hc => by rcases hc with h | h; (exact HRK.out h); omega)
    have HFN : Hid (∀ z, (Fk z ∨ z = c2) → F z ∨ W6.heap.size ≤ z) := St.hid (fun z hz => by rcases hz with h | h; (exact hFk.out z h); exact Or.inr (by omega))
    have HCU : Hid (∀ z, (Value.slice au (stepsM k s.now).length cu).ownBlock = some z → ¬ (Fk z ∨ z = c2)) := St.hid (fun z hz hc => by rcases hc with h | h; (exact hsep.out z hz h); (have := HUB.out z hz; omega))
    have hum7 := HUM2.out
    obtain ⟨hul, hu0 | ⟨gm, cm, cur, hu1, -⟩⟩ := hum7
    ·obtain ⟨rfl, h0⟩ := hu0
     have hms : stepM x = [] := List.length_eq_zero_iff.1 h0
     go_wp2_with (at_builtin; refine wpList_append_own_none rfl _ _ 29 rfl W6.heap.size 54 i79 2 Tryz.underlying29 hi79 _ _ _ rfl hown.out rfl ?_)
     go_roundw
     case rel =>
      have hg8 := grown_set V7 rb 3 (Value.slice au (stepsM k s.now).length cu)
      refine ⟨k + 1, c2, fun z => Fk z ∨ z = c2, (Value.slice au (stepsM k s.now).length cu), by omega, by go_num, ?_, St.hid ((hRB.out.set 3 (Value.slice au (stepsM k s.now).length cu)).congr (fun i hi => by match i, hi with | 0, _ => rfl | 1, _ => rfl | 2, _ => rfl | 3, _ => rfl)), HFN, ?_, HCU, by simp [World.setCell]; omega⟩
      ·rw [HSW.out]
       exact St.hid (H7.out.grown hg8 (by omega) (by omega) HRN.out)
      ·rw [HSM.out, hms, List.append_nil]
       exact St.hid (owns_kept hown.out hg8 (fun z hz e => by cases e; have := (HUB.out _ hz).1; omega))
     case measure => simp [intOf]; omega
    ·subst hu1
     go_wp2_with (at_builtin; refine wpList_append_own_at _ rfl _ _ 29 rfl W6.heap.size 54 i79 (.agg #[.int .i64 0, .int .i64 0]) 2 16 Tryz.underlying29 hi79 hz79 hs79 hb79 rfl (by decide) _ _ _ rfl hown.out ⟨gm, 0, none⟩ (stepM x).length cm ((stepM x).flatMap Sw.pairCells) rfl ?c1 ?c2 ?c3 ?c4 ?c5 ?c6 ?_)
     case c1 => exact hul
     case c2 => exact HUM2.out.cells rfl
     case c3 => intro u hu; simp [Sw.pairCells] at hu; obtain ⟨_, _, _, rfl | rfl⟩ := hu <;> rfl
     case c4 => unfold maxLen; omega
     case c5 => omega
     case c6 => omega
     intro v8 w8 hown8 hg8 _ hat8
     obtain ⟨a8, c8, rfl⟩ := own_form hown8
     have hz8 := hg8.size
     have hRB := St.hid (rowIs_grown hRB.out hg8 (fun e => by have := (HUB.out _ e).1; omega))
     have HLT7 := St.hid H7.out.gw.lt
     have H7 := St.hid (H7.out.grownO hg8 (fun z e => ⟨by have := (HUB.out _ e).1; omega, by have := (HUB.out _ e).1; omega, HCU.out z e⟩))
     have HCV : Hid (∀ z, (Value.slice a8 ((stepsM k s.now).length + (stepM x).length) c8).ownBlock = some z → ¬ (Fk z ∨ z = c2) ∧ W6.heap.size ≤ z) := St.hid (fun z hz => by
      refine ⟨fun hc => ?_, by have := (hown8.lt z hz).1; omega⟩
      rcases hat8 with h | h
      ·rw [h] at hz; exact HCU.out z hz hc
      ·rw [h] at hz; cases hz; have := HLT7.out _ hc; omega)
     have HO8 := St.hid hown8
     clear hown8 hg8 hat8 y0 y1 y2 y3 yf3
     obtain ⟨y0, y1, y2, y3⟩ := Rp.rcells hRB.out
     have yf3 := hRB.out.frozen 3
     have hrz8 := hRB.out.lt
     go_wp2_with fail
     go_roundw
     case rel =>
      have hg8 := grown_set w8 rb 3 (Value.slice a8 ((stepsM k s.now).length + (stepM x).length) c8)
      refine ⟨k + 1, c2, fun z => Fk z ∨ z = c2, (Value.slice a8 ((stepsM k s.now).length + (stepM x).length) c8), by omega, by go_num, ?_, St.hid ((hRB.out.set 3 (Value.slice a8 ((stepsM k s.now).length + (stepM x).length) c8)).congr (fun i hi => by match i, hi with | 0, _ => rfl | 1, _ => rfl | 2, _ => rfl | 3, _ => rfl)), HFN, ?_, St.hid (fun z hz => (HCV.out z hz).1), by simp [World.setCell]; omega⟩
      ·rw [HSW.out]
       exact St.hid (H7.out.grown hg8 (by omega) (by omega) HRN.out)
      ·rw [HSM.out, List.length_append, List.flatMap_append]
       exact St.hid (owns_kept (by rw [hz6]; exact HO8.out) hg8 (fun z hz e => by cases e; have := (HCV.out _ hz).2; omega))
     case measure => simp [intOf]; omega
   ·have hke : k = N := by omega
    subst hke
    have hl1 := stepsM_len HGD.out.now k
    obtain ⟨y0, y1, y2, y3⟩ := Rp.rcells hRB.out
    have yf1 := hRB.out.frozen 1
    have hg8 := grown_set wr rb 1 (.int .i64 ((stepsM k s.now).length : Int))
    have HX := St.hid (H6.out.grown hg8 (by omega) (by omega) HRK.out)
    obtain ⟨p0, p1, p2, p3, p4, p5, p6, p7⟩ := H6.out.rcs
    have HOX := St.hid (owns_kept hown.out hg8 (fun z hz e => by cases e; have := (hown.out.lt _ hz).1; omega))
    obtain ⟨a0, a1, a2, a3, a4, a5, a6, a7, a8, a9, a10, a11, a12, a13, a14, a15, a16⟩ := acells H6.out.ac
    clear hg8
    go_wp2_with fail
    obtain ⟨q0, q1, q2, q3⟩ := four (put4 HX.out.rp (.int .i64 0) (.int .i64 ((stepsM k s.now).length : Int)) (.slice none 0 0) (.slice au (stepsM k s.now).length cu))
    refine bodyPost_ret (v := .agg #[.int .i64 0, .int .i64 ((stepsM k s.now).length : Int), .slice none 0 0, .slice au (stepsM k s.now).length cu]) (by simp [results, Tryz.results27, go_sem, q0, q1, q2, q3]) rfl ⟨_, _, rfl, Rp.ints_nil _ _ _, Rp.PairsR.own (owns_kept HOX.out (grown4 _ (w.heap.size + 1) _ _ _ _) (fun z hz e => by have := (HOX.out.lt z hz).1; cases e; omega)) rfl, ⟨Fk, ⟨c', vs, ms, HX.out.gw.kept (G := fun z => z = w.heap.size + 1) (Gm.Kept.grown (Gm.Kept.below (Below.refl _ _)) (grown4 _ (w.heap.size + 1) _ _ _ _) (fun z e => Or.inl (by cases e; rfl))) (fun z hz e => by rcases hFk.out z hz with h | h; (have := HFL.out z h; omega); omega)⟩, fun z hz => (hFk.out z hz).imp (fun h => h) (fun h => by omega)⟩, HX.out.kw.grown (grown4 _ (w.heap.size + 1) _ _ _ _) (fun z e => Or.inr (by cases e; omega))⟩
end Rf
end Go.Proofs.YtckkkdldljhehacGreat
