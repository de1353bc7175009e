/- Part of the proofs of GamePlays and GameRuns (package ninepinslaw): contracts of the functions that they call. -/
import Derived.Test.YtckkkdldljhehacGreatPkE2
import Derived.Test.YtckkkdldljhehacGreatPkG
import Derived.Test.YtckkkdldljhehacGreatPkH
import Derived.Test.YtckkkdldljhehacGreatPkI
namespace Go.Proofs.YtckkkdldljhehacGreat
namespace Wd
open Num St
open Go.ChangeShapes Go.WideShapes Go.ChangeAt Go.RowKit
def GoodWd (next fall wide high : Int) (L : List Tab) : Prop := GoodL next L ∧ (-64 ≤ fall ∧ fall ≤ 64) ∧ (1 ≤ wide ∧ wide ≤ 1048576) ∧ (1 ≤ high ∧ high ≤ 1048576)
set_option maxHeartbeats 1000000 in
set_option maxRecDepth 100000 in
theorem wgood_any {F : Nat → Prop} {v : Value} {L : List Tab} {w : World} (next fall wide high : Int) (h : Sto w F v L) :
  Calls Tryz.prog 46 #[.agg #[v, .int .i64 next, .int .i64 fall, .int .i64 wide, .int .i64 high]] w fun e w' => (∃ g, e = .returned (.bool g) ∧ (g = true ↔ GoodWd next fall wide high L)) ∧ Below w.heap.size w w' := by
 have HG : Hid (∀ W, Below w.heap.size w W → Calls Tryz.prog 43 #[.agg #[v, .int .i64 next]] W fun e w' => (∃ g, e = .returned (.bool g) ∧ (g = true ↔ GoodL next L)) ∧ Below W.heap.size W w') := St.hid (fun W hb => (h.below hb).good next)
 obtain ⟨a, n, cap, rfl⟩ := h.one
 have hW0 := St.hid (rowIs5 w (.slice a n cap) next fall wide high 45)
 clear h
 go_enter Tryz.func46, Tryz.ntmps46
 go_wp2_with fail
 refine (HG.out _ (bal (Below.refl _ _) _)).mono ?_
 rintro e w1 ⟨⟨g, rfl, hg⟩, hb1⟩
 have hW1 := St.hid (rowIs_below hW0.out hb1)
 have HB1 := St.hid (bcall (bal (Below.refl _ w) _) hb1)
 have HGI := St.hid hg
 clear hb1 hg
 obtain ⟨x0, x1, x2, x3, x4, -, -, -, -, -⟩ := wcells hW1.out
 cases g
 ·go_wp2_with fail
  go_ret
  exact ⟨⟨false, rfl, by simp; intro hc; have := HGI.out.2 hc.1; simp at this⟩, HB1.out⟩
 ·cases hf : btw fall (-64) 64
  ·go_wp2_with (go_at_call 76; refine (between_any _ _ _ _).mono ?_; rintro e w' ⟨rfl, rfl⟩)
   go_ret
   refine ⟨⟨false, rfl, ?_⟩, HB1.out⟩
   simp [btw] at hf
   simp [GoodWd]
   intro _ h1 h2
   omega
  ·cases hwd : btw wide 1 1048576
   ·go_wp2_with (go_at_call 76; refine (between_any _ _ _ _).mono ?_; rintro e w' ⟨rfl, rfl⟩)
    go_ret
    refine ⟨⟨false, rfl, ?_⟩, HB1.out⟩
    simp [btw] at hwd
    simp [GoodWd]
    intro _ _ _ h1 h2
    omega
   ·go_wp2_with (go_at_call 76; refine (between_any _ _ _ _).mono ?_; rintro e w' ⟨rfl, rfl⟩)
    go_ret
    refine ⟨⟨btw high 1 1048576, rfl, ?_⟩, HB1.out⟩
    have h0 := HGI.out
    simp [btw] at hf hwd h0 ⊢
    unfold GoodWd
    constructor
    ·intro h1; exact ⟨h0, hf, hwd, h1⟩
    ·intro h1; exact h1.2.2.2
abbrev put5 (W : World) (b : Nat) (v : Value) (next fall wide high : Int) : World := ((((W.setCell ⟨b, 0, none⟩ v).setCell ⟨b, 1, none⟩ (.int .i64 next)).setCell ⟨b, 2, none⟩ (.int .i64 fall)).setCell ⟨b, 3, none⟩ (.int .i64 wide)).setCell ⟨b, 4, none⟩ (.int .i64 high)
theorem row5 {W : World} {b : Nat} {t : TypeId} {f : Nat → Value} (h : W.rowIs b t 5 f) (v : Value) (next fall wide high : Int) : (put5 W b v next fall wide high).rowIs b t 5 (wcell v next fall wide high) := by
 refine (((((h.set 0 _).set 1 _).set 2 _).set 3 _).set 4 _).congr (fun i hi => ?_)
 match i, hi with
 | 0, _ => rfl
 | 1, _ => rfl
 | 2, _ => rfl
 | 3, _ => rfl
 | 4, _ => rfl
theorem grown5 (W : World) (b : Nat) (v : Value) (next fall wide high : Int) : W.grownBy (put5 W b v next fall wide high) (some b) :=
 ((((grown_set W b _ _).trans (grown_set _ b _ _)).trans (grown_set _ b _ _)).trans (grown_set _ b _ _)).trans (grown_set _ b _ _)
theorem Sto.put5 {W : World} {F : Nat → Prop} {v : Value} {L : List Tab} (h : Sto W F v L) {b : Nat} (hb : ¬ F b) (u : Value) (next fall wide high : Int) : Sto (put5 W b u next fall wide high) F v L := grown_keep h (grown5 W b u next fall wide high) hb
set_option maxHeartbeats 4000000 in
set_option maxRecDepth 100000 in
theorem step_any {F : Nat → Prop} {v : Value} {L : List Tab} {w : World} (next fall wide high : Int) (h : Sto w F v L) :
  Calls Tryz.prog 68 #[.agg #[v, .int .i64 next, .int .i64 fall, .int .i64 wide, .int .i64 high]] w fun e w' =>
   (∃ a n c u ec, e = .returned (.tuple #[.agg #[.slice a n c, .int .i64 next, .int .i64 fall, .int .i64 wide, .int .i64 high], u, .int .i64 ec]) ∧
    ((¬ GoodWd next fall wide high L ∧ ec = 1 ∧ u = .slice none 0 0 ∧ ∃ F', Sto w' F' (.slice a n c) L ∧ ∀ b, F' b → w.heap.size ≤ b) ∨
     (GoodWd next fall wide high L ∧ ec = 0 ∧ (∃ F', Sto w' F' (.slice a n c) (withRows L (stepG L fall wide high).1) ∧ ∀ b, F' b → w.heap.size ≤ b) ∧ w'.ownsRow w.heap.size 54 2 u (stepG L fall wide high).2.length ((stepG L fall wide high).2.flatMap Sw.pairCells)))) ∧ Below w.heap.size w w' := by
 obtain ⟨a, n, cap, rfl⟩ := h.one
 have HST := St.hid h
 clear h
 go_enter Tryz.func68, Tryz.ntmps68
 go_wp2_with fail
 have hW0 := St.hid ((rowIs5 w (.slice a n cap) next fall wide high 45).alloc (.cells #[.slice none 0 0, .int .i64 0, .int .i64 0, .int .i64 0, .int .i64 0] 45))
 have hR0 := St.hid (rowIs5 (w.alloc (.cells #[.slice a n cap, .int .i64 next, .int .i64 fall, .int .i64 wide, .int .i64 high] 45)) (.slice none 0 0) 0 0 0 0 45)
 rw [World.size_alloc] at hR0
 refine ((HST.out.below (bal (bal (Below.refl _ _) _) _)).clone next).mono ?_
 rintro e w1 ⟨⟨a1, n1, c1, rfl, F1, hs1, hF1⟩, hb1⟩
 have hW1 := St.hid (rowIs_below hW0.out hb1)
 have hR1 := St.hid (rowIs_below hR0.out hb1)
 have HB1 := St.hid (bcall (bal (bal (Below.refl _ w) _) _) hb1)
 have HF1 : Hid (∀ b, F1 b → w.heap.size + 1 + 1 ≤ b) := St.hid (fun b hb => by have := hF1 b hb; simpa using this)
 have HS1 := St.hid hs1
 have hz1 := hb1.size
 simp at hz1
 clear hb1 hs1 hF1 hW0 hR0
 obtain ⟨x0, x1, x2, x3, x4, xf0, xf1, xf2, xf3, xf4⟩ := wcells hW1.out
 go_wp2_with fail
 have hW2 := St.hid (set_world hW1.out (.slice a1 n1 c1))
 have hR2 := St.hid (rowIs_grown hR1.out ((grown_set w1 w.heap.size 0 (.slice a1 n1 c1)).trans (grown_set _ w.heap.size 1 (.int .i64 next))) (by simp))
 have HS2 := St.hid ((HS1.out.setCell (b := w.heap.size) (fun hc => by have := HF1.out _ hc; omega) 0 (.slice a1 n1 c1)).setCell (b := w.heap.size) (fun hc => by have := HF1.out _ hc; omega) 1 (.int .i64 next))
 have HB2 := St.hid (below_grown HB1.out ((grown_set w1 w.heap.size 0 (.slice a1 n1 c1)).trans (grown_set _ w.heap.size 1 (.int .i64 next))) HB1.out.size (Nat.le_refl _))
 have hz2 : w.heap.size + 1 + 1 ≤ ((w1.setCell ⟨w.heap.size, 0, none⟩ (.slice a1 n1 c1)).setCell ⟨w.heap.size, 1, none⟩ (.int .i64 next)).heap.size := by simpa [World.setCell] using hz1
 generalize (w1.setCell ⟨w.heap.size, 0, none⟩ (.slice a1 n1 c1)).setCell ⟨w.heap.size, 1, none⟩ (.int .i64 next) = W2 at hW2 hR2 HS2 HB2 hz2 ⊢
 clear x0 x1 x2 x3 x4 xf0 xf1 xf2 xf3 xf4 hW1 hR1 HS1 HB1
 refine (wgood_any next fall wide high HS2.out).mono ?_
 rintro e w3 ⟨⟨g, rfl, hg⟩, hb3⟩
 have hW3 := St.hid (rowIs_below hW2.out hb3)
 have hR3 := St.hid (rowIs_below hR2.out hb3)
 have HS3 := St.hid (HS2.out.below hb3)
 have HB3 := St.hid (bcall HB2.out hb3)
 have hz3 := hb3.size
 have HGI := St.hid hg
 clear hb3 hg hW2 hR2 HS2 HB2
 obtain ⟨x0, x1, x2, x3, x4, xf0, xf1, xf2, xf3, xf4⟩ := wcells hW3.out
 obtain ⟨y0, y1, y2, y3, y4, yf0, yf1, yf2, yf3, yf4⟩ := wcells hR3.out
 cases g
 ·go_wp2_with fail
  refine bodyPost_ret (v := .tuple #[.agg #[.slice a1 n1 c1, .int .i64 next, .int .i64 fall, .int .i64 wide, .int .i64 high], .slice none 0 0, .int .i64 1]) (by simp [results, Tryz.results68, go_sem, y0, y1, y2, y3, y4]) rfl ⟨⟨a1, n1, c1, _, 1, rfl, Or.inl ⟨(fun hc => absurd (HGI.out.2 hc) (by simp)), rfl, rfl, F1, ?_, fun b hb => by have := HF1.out b hb; omega⟩⟩, ?_⟩
  ·exact HS3.out.put5 (fun hc => by have := HF1.out _ hc; omega) _ _ _ _ _
  ·exact below_grown HB3.out (grown5 w3 (w.heap.size + 1) _ _ _ _ _) HB3.out.size (by omega)
 ·have hgw := HGI.out.1 rfl
  have HGW := St.hid hgw
  obtain ⟨hgl, hgf, -, -⟩ := hgw
  have hself := with_self hgl
  have hs3 := HS3.out
  rw [← hself] at hs3
  have HCG := St.hid (goOn_any next fall wide high hs3 hgl (rows_ok hgl) hgf)
  have hok1 := RowsOk.go hgl.2.2.2.2.2 (rows_ok hgl) fall (idsOf 11 L)
  have HOK1 := St.hid hok1
  have HOK2 := St.hid (RowsOk.meet hgl.2.2.2.2.2 hok1 (Sw.pairsG (boxG L (goOnG (mk L) fall (idsOf 11 L) (rw0 L)))))
  have HGL := St.hid hgl
  obtain ⟨g1, HG1⟩ : ∃ g1, Hid (g1 = goOnG (mk L) fall (idsOf 11 L) (rw0 L)) := ⟨_, rfl⟩
  rw [← HG1.out] at HCG HOK1 HOK2
  obtain ⟨g2, HG2⟩ : ∃ g2, Hid (g2 = meetG (mk L) (Sw.pairsG (boxG L g1)) g1) := ⟨_, rfl⟩
  have HSTEP : Hid (stepG L fall wide high = (wallG (mk L) wide high (idsOf 11 L) g2.1, g2.2)) := St.hid (by unfold stepG; rw [HG2.out, HG1.out])
  rw [show (meetG (mk L) (Sw.pairsG (boxG L g1)) g1).1 = g2.1 from by rw [HG2.out]] at HOK2
  clear hgl hgf hself hs3 hok1
  go_wp2_with fail
  refine HCG.out.mono ?_
  rintro e w4 ⟨⟨a4, n4, c4, rfl, F4, hs4, hF4⟩, hb4⟩
  have hW4 := St.hid (rowIs_below hW3.out hb4)
  have hR4 := St.hid (rowIs_below hR3.out hb4)
  have HB4 := St.hid (bcall HB3.out hb4)
  have HF4 : Hid (∀ b, F4 b → w.heap.size + 1 + 1 ≤ b) := St.hid (fun b hb => by
   rcases hF4 b hb with h | h
   ·exact HF1.out b h
   ·omega)
  have HS4 := St.hid hs4
  have hz4 := hb4.size
  clear hb4 hs4 hF4 hW3 hR3 HB3 HS3 HCG x0 x1 x2 x3 x4 xf0 xf1 xf2 xf3 xf4 y0 y1 y2 y3 y4 yf0 yf1 yf2 yf3 yf4
  obtain ⟨x0, x1, x2, x3, x4, xf0, xf1, xf2, xf3, xf4⟩ := wcells hW4.out
  go_wp2_with fail
  have hW5 := St.hid (row5 hW4.out (.slice a4 n4 c4) next fall wide high)
  have hR5 := St.hid (rowIs_grown hR4.out (grown5 w4 w.heap.size (.slice a4 n4 c4) next fall wide high) (by simp))
  have HS5 := St.hid (HS4.out.put5 (b := w.heap.size) (fun hc => by have := HF4.out _ hc; omega) (.slice a4 n4 c4) next fall wide high)
  have HB5 := St.hid (below_grown HB4.out (grown5 w4 w.heap.size (.slice a4 n4 c4) next fall wide high) HB4.out.size (Nat.le_refl _))
  have hz5 : w.heap.size + 1 + 1 ≤ (put5 w4 w.heap.size (.slice a4 n4 c4) next fall wide high).heap.size := by have := (grown5 w4 w.heap.size (.slice a4 n4 c4) next fall wide high).size; omega
  unfold put5 at hW5 hR5 HS5 HB5 hz5
  generalize ((((w4.setCell ⟨w.heap.size, 0, none⟩ (.slice a4 n4 c4)).setCell ⟨w.heap.size, 1, none⟩ (.int .i64 next)).setCell ⟨w.heap.size, 2, none⟩ (.int .i64 fall)).setCell ⟨w.heap.size, 3, none⟩ (.int .i64 wide)).setCell ⟨w.heap.size, 4, none⟩ (.int .i64 high) = W5 at hW5 hR5 HS5 HB5 hz5 ⊢
  clear hW4 hR4 HS4 HB4 x0 x1 x2 x3 x4 xf0 xf1 xf2 xf3 xf4
  refine (meetAll_any next fall wide high HS5.out HGL.out HOK1.out).mono ?_
  rw [← HG2.out]
  rintro e w6 ⟨⟨a6, n6, c6, u6, rfl, ⟨F6, hs6, hF6⟩, hu6⟩, hb6⟩
  have hW6 := St.hid (rowIs_below hW5.out hb6)
  have hR6 := St.hid (rowIs_below hR5.out hb6)
  have HB6 := St.hid (bcall HB5.out hb6)
  have HF6 : Hid (∀ b, F6 b → w.heap.size + 1 + 1 ≤ b) := St.hid (fun b hb => by
   rcases hF6 b hb with h | h
   ·exact HF4.out b h
   ·omega)
  have HS6 := St.hid hs6
  have HU6 := St.hid (owns_mono hu6 hz5)
  have hz6 := hb6.size
  clear hb6 hs6 hF6 hu6 hW5 hR5 HS5 HB5
  obtain ⟨x0, x1, x2, x3, x4, xf0, xf1, xf2, xf3, xf4⟩ := wcells hW6.out
  go_wp2_with fail
  have hW7 := St.hid (row5 hW6.out (.slice a6 n6 c6) next fall wide high)
  have hR7 := St.hid (rowIs_grown hR6.out (grown5 w6 w.heap.size (.slice a6 n6 c6) next fall wide high) (by simp))
  have HS7 := St.hid (HS6.out.put5 (b := w.heap.size) (fun hc => by have := HF6.out _ hc; omega) (.slice a6 n6 c6) next fall wide high)
  have HB7 := St.hid (below_grown HB6.out (grown5 w6 w.heap.size (.slice a6 n6 c6) next fall wide high) HB6.out.size (Nat.le_refl _))
  have HU7 := St.hid (owns_kept HU6.out (grown5 w6 w.heap.size (.slice a6 n6 c6) next fall wide high) (fun z hz e => by have := (HU6.out.lt z hz).1; simp at e; omega))
  have hz7 : w.heap.size + 1 + 1 ≤ (put5 w6 w.heap.size (.slice a6 n6 c6) next fall wide high).heap.size := by have := (grown5 w6 w.heap.size (.slice a6 n6 c6) next fall wide high).size; omega
  unfold put5 at hW7 hR7 HS7 HB7 hz7 HU7
  generalize ((((w6.setCell ⟨w.heap.size, 0, none⟩ (.slice a6 n6 c6)).setCell ⟨w.heap.size, 1, none⟩ (.int .i64 next)).setCell ⟨w.heap.size, 2, none⟩ (.int .i64 fall)).setCell ⟨w.heap.size, 3, none⟩ (.int .i64 wide)).setCell ⟨w.heap.size, 4, none⟩ (.int .i64 high) = W7 at hW7 hR7 HS7 HB7 hz7 HU7 ⊢
  clear hW6 hR6 HS6 HB6 HU6 x0 x1 x2 x3 x4 xf0 xf1 xf2 xf3 xf4
  refine (keepInside_any next fall wide high HS7.out HGL.out HOK2.out ⟨HGW.out.2.2.1, HGW.out.2.2.2⟩).mono ?_
  rintro e w8 ⟨⟨a8, n8, c8, rfl, F8, hs8, hF8⟩, hb8⟩
  have hR8 := St.hid (rowIs_below hR7.out hb8)
  have HB8 := St.hid (bcall HB7.out hb8)
  have HF8 : Hid (∀ b, F8 b → w.heap.size + 1 + 1 ≤ b) := St.hid (fun b hb => by
   rcases hF8 b hb with h | h
   ·exact HF6.out b h
   ·omega)
  have HS8 := St.hid hs8
  have HU8 := St.hid (owns_below HU7.out hb8)
  clear hb8 hs8 hF8 hR7 HS7 HB7 HU7
  obtain ⟨y0, y1, y2, y3, y4, yf0, yf1, yf2, yf3, yf4⟩ := wcells hR8.out
  go_wp2_with fail
  refine bodyPost_ret (v := .tuple #[.agg #[.slice a8 n8 c8, .int .i64 next, .int .i64 fall, .int .i64 wide, .int .i64 high], u6, .int .i64 0]) (by simp [results, Tryz.results68, go_sem, y0, y1, y2, y3, y4]) rfl ⟨⟨a8, n8, c8, u6, 0, rfl, Or.inr ⟨HGW.out, rfl, ⟨F8, ?_, fun b hb => by have := HF8.out b hb; omega⟩, ?_⟩⟩, ?_⟩
  ·rw [HSTEP.out]
   exact HS8.out.put5 (fun hc => by have := HF8.out _ hc; omega) _ _ _ _ _
  ·rw [HSTEP.out]
   exact owns_mono (owns_kept HU8.out (grown5 w8 (w.heap.size + 1) (.slice a8 n8 c8) next fall wide high) (fun z hz e => by have := (HU8.out.lt z hz).1; simp at e; omega)) (by omega)
  ·exact below_grown HB8.out (grown5 w8 (w.heap.size + 1) (.slice a8 n8 c8) next fall wide high) HB8.out.size (by omega)
end Wd
namespace Wd
open Num St
open Go.ChangeShapes Go.WideShapes Go.ChangeAt Go.RowKit
def spawnS (next : Int) (L : List Tab) (mask : Int) (r : R8) : List Tab × Int × Int × Int :=
 if goodRowB mask r = false then (L, next, 0, 2) else if (allL L).length = 10 ∨ next = 1048576 then (L, next, 0, 5) else (putT mask next r L, next + 1, next, 0)
def killS (L : List Tab) (id : Int) : List Tab × Int := if id ∈ allL L then (killT id L, 0) else (L, 3)
def setS (L : List Tab) (id : Int) (r : R8) : List Tab × Int := if id ∈ allL L then (if goodRowB (mk L id) r then (setL id r L, 0) else (L, 2)) else (L, 3)
def changeS (L : List Tab) (id mask : Int) (r : R8) : List Tab × Int :=
 if id ∈ allL L then (if goodRowB mask (chR mask (mk L id) (rw0 L id) r) then (putT mask id (chR mask (mk L id) (rw0 L id) r) (killT id L), 0) else (L, 2)) else (L, 3)
theorem new_id {next : Int} {L : List Tab} (hg : GoodL next L) : next ∉ allL L := fun hc => by
 obtain ⟨t, ht, hx⟩ := List.mem_flatMap.1 hc
 have := (hg.2.2.2.2.1 t ht).2.2.1 _ hx
 simp [btw] at this
 omega
theorem next_le {next : Int} {L : List Tab} (hg : GoodL next L) : 0 ≤ next ∧ next ≤ 1048576 := by
 have hb : btw next 0 1048576 = true := hg.1
 simpa [btw] using hb
theorem good_spawn {next : Int} {L : List Tab} (hg : GoodL next L) (mask : Int) (r : R8) : GoodL (spawnS next L mask r).2.1 (spawnS next L mask r).1 := by
 unfold spawnS
 split
 ·exact hg
 ·rename_i hr
  split
  ·exact hg
  ·rename_i hf
   have hl := hg.2.1
   have hb := next_le hg
   show GoodL (next + 1) (putT mask next r L)
   exact put_all hg (by omega) (by omega) (by omega) (by omega) (new_id hg) (by simpa using hr)
theorem at_of_mem {next : Int} {L : List Tab} (hg : GoodL next L) {v : Int} (hv : v ∈ allL L) : At L v (mk L v) (rw0 L v) := by
 obtain ⟨t, ht, hx⟩ := List.mem_flatMap.1 hv
 obtain ⟨j, hj, e⟩ := List.getElem_of_mem hx
 have hl := hg.even t ht
 have hat : At L v t.mask (t.rows[j]'(by omega)) := ⟨t, ht, rfl, j, by rw [List.getElem?_eq_getElem hj, e], List.getElem?_eq_getElem (by omega)⟩
 have := at_mk hg.2.2.2.2.2 hat
 rw [this.1, this.2]
 exact hat
theorem good_kill {next : Int} {L : List Tab} (hg : GoodL next L) (id : Int) : GoodL next (killS L id).1 := by
 unfold killS
 split
 ·rename_i hm; exact (kill_all hg hm).1
 ·exact hg
theorem good_setS {next : Int} {L : List Tab} (hg : GoodL next L) (id : Int) (r : R8) : GoodL next (setS L id r).1 := by
 unfold setS
 split
 ·split
  ·rename_i hr
   exact good_set hg (fun m q hat => by rw [← (at_mk hg.2.2.2.2.2 hat).1]; exact hr)
  ·exact hg
 ·exact hg
theorem good_change' {next : Int} {L : List Tab} (hg : GoodL next L) (id mask : Int) (r : R8) : GoodL next (changeS L id mask r).1 := by
 unfold changeS
 split
 ·rename_i hm
  split
  ·rename_i hr
   obtain ⟨k1, k2, _⟩ := kill_all hg hm
   have hl := hg.2.1
   have e := k2.length_eq
   have hb := next_le hg
   simp at e
   have hid := (At.good hg (at_of_mem hg hm)).2
   exact put_all k1 (Int.le_refl _) (by omega) (by omega) hid (List.nodup_cons.1 (k2.nodup_iff.2 hg.2.2.2.2.2)).1 hr
  ·exact hg
 ·exact hg
theorem Sto.spawn {W : World} {F : Nat → Prop} {v : Value} {L : List Tab} (h : Sto W F v L) (next : Int) (hg : GoodL next L) (mask : Int) (r : R8) :
  Calls Tryz.prog 59 #[.agg #[v, .int .i64 next], .int .i64 mask, .agg #[.int .i64 r.x, .int .i64 r.y, .int .i64 r.px, .int .i64 r.py, .int .i64 r.wd, .int .i64 r.ht, .int .i64 r.ms, .int .i64 r.rr]] W fun e w' =>
   (∃ a n c, e = .returned (.tuple #[.agg #[.slice a n c, .int .i64 (spawnS next L mask r).2.1], .int .i64 (spawnS next L mask r).2.2.1, .int .i64 (spawnS next L mask r).2.2.2]) ∧ ∃ F', Sto w' F' (.slice a n c) (spawnS next L mask r).1 ∧ ∀ b, F' b → W.heap.size ≤ b) ∧ Below W.heap.size W w' := by
 obtain ⟨a, n, cap, T, I, R, rfl, hin, rfl⟩ := h.in_
 refine (spawn_any a n cap next mask T I R r W hin (fun a' n' c' B A C h1 h2 _ => insertAt_any a' n' c' B A C mask h2 (by omega))).mono ?_
 rintro e w' ⟨⟨u, nx, id, ec, rfl, S, ho, hout⟩, hb⟩
 obtain ⟨a', c', rfl⟩ := own_form ho.1
 have hgs := good_spawn hg mask r
 have key : (S.map (·.t), nx, id, ec) = spawnS next (plainOf T I R n) mask r := by
  unfold spawnS
  rcases hout with ⟨rfl, rfl, h3, h4 | h4 | h4⟩ | ⟨rfl, rfl, rfl, h4, h5, h6, h7, h8⟩
  ·exact absurd hg h4.2
  ·rw [if_pos h4.2.2, h3, h4.1]
  ·rw [if_neg (by simp [h4.2.2.1]), if_pos h4.2.2.2, h3, h4.1]
  ·rw [if_neg (by simp [h5]), if_neg (by omega), h8]
 rw [← key] at hgs ⊢
 exact ⟨⟨a', S.length, c', rfl, own_sto (next := nx) ho hgs⟩, hb⟩
theorem Sto.kill {W : World} {F : Nat → Prop} {v : Value} {L : List Tab} (h : Sto W F v L) (next : Int) (hg : GoodL next L) (id : Int) :
  Calls Tryz.prog 33 #[.agg #[v, .int .i64 next], .int .i64 id] W fun e w' =>
   (∃ a n c, e = .returned (.tuple #[.agg #[.slice a n c, .int .i64 next], .int .i64 (killS L id).2]) ∧ ∃ F', Sto w' F' (.slice a n c) (killS L id).1 ∧ ∀ b, F' b → W.heap.size ≤ b) ∧ Below W.heap.size W w' := by
 obtain ⟨a, n, cap, T, I, R, rfl, hin, rfl⟩ := h.in_
 refine (kill_any a n cap next id T I R W hin).mono ?_
 rintro e w' ⟨⟨u, ec, rfl, S, ho, hout⟩, hb⟩
 obtain ⟨a', c', rfl⟩ := own_form ho.1
 have hgs := good_kill hg id
 have key : (S.map (·.t), ec) = killS (plainOf T I R n) id := by
  unfold killS
  rcases hout with ⟨_, h1, _⟩ | ⟨rfl, _, h1, h2⟩ | ⟨rfl, _, h1, h2⟩
  ·exact absurd hg h1
  ·rw [if_neg h1, h2]
  ·rw [if_pos h1, h2]
 rw [← key] at hgs ⊢
 exact ⟨⟨a', S.length, c', rfl, own_sto (next := next) ho hgs⟩, hb⟩
theorem Sto.set' {W : World} {F : Nat → Prop} {v : Value} {L : List Tab} (h : Sto W F v L) (next : Int) (hg : GoodL next L) (id : Int) (r : R8) :
  Calls Tryz.prog 67 #[.agg #[v, .int .i64 next], .int .i64 id, .agg #[.int .i64 r.x, .int .i64 r.y, .int .i64 r.px, .int .i64 r.py, .int .i64 r.wd, .int .i64 r.ht, .int .i64 r.ms, .int .i64 r.rr]] W fun e w' =>
   (∃ a n c, e = .returned (.tuple #[.agg #[.slice a n c, .int .i64 next], .int .i64 (setS L id r).2]) ∧ ∃ F', Sto w' F' (.slice a n c) (setS L id r).1 ∧ ∀ b, F' b → W.heap.size ≤ b) ∧ Below W.heap.size W w' := by
 obtain ⟨a, n, cap, T, I, R, rfl, hin, rfl⟩ := h.in_
 refine (set_any a n cap next id r T I R W hin).mono ?_
 rintro e w' ⟨⟨u, ec, rfl, S, ho, hout⟩, hb⟩
 obtain ⟨a', c', rfl⟩ := own_form ho.1
 have hgs := good_setS hg id r
 have key : (S.map (·.t), ec) = setS (plainOf T I R n) id r := by
  unfold setS
  rcases hout with ⟨_, h1, _⟩ | ⟨rfl, _, h1, h2⟩ | ⟨rfl, _, ⟨m, q, h1, h2⟩, h3⟩ | ⟨rfl, _, ⟨m, q, h1, h2⟩, h3⟩
  ·exact absurd hg h1
  ·rw [if_neg h1, h2]
  ·rw [if_pos (at_mem h1), (at_mk hg.2.2.2.2.2 h1).1, if_neg (by simp [h2]), h3]
  ·rw [if_pos (at_mem h1), (at_mk hg.2.2.2.2.2 h1).1, if_pos h2, h3]
 rw [← key] at hgs ⊢
 exact ⟨⟨a', S.length, c', rfl, own_sto (next := next) ho hgs⟩, hb⟩
theorem Sto.change {W : World} {F : Nat → Prop} {v : Value} {L : List Tab} (h : Sto W F v L) (next : Int) (hg : GoodL next L) (id mask : Int) (r : R8) :
  Calls Tryz.prog 65 #[.agg #[v, .int .i64 next], .int .i64 id, .int .i64 mask, .agg #[.int .i64 r.x, .int .i64 r.y, .int .i64 r.px, .int .i64 r.py, .int .i64 r.wd, .int .i64 r.ht, .int .i64 r.ms, .int .i64 r.rr]] W fun e w' =>
   (∃ a n c, e = .returned (.tuple #[.agg #[.slice a n c, .int .i64 next], .int .i64 (changeS L id mask r).2]) ∧ ∃ F', Sto w' F' (.slice a n c) (changeS L id mask r).1 ∧ ∀ b, F' b → W.heap.size ≤ b) ∧ Below W.heap.size W w' := by
 obtain ⟨a, n, cap, T, I, R, rfl, hin, rfl⟩ := h.in_
 refine (change_any a n cap next id mask r T I R W hin).mono ?_
 rintro e w' ⟨⟨u, ec, rfl, S, ho, hout⟩, hb⟩
 obtain ⟨a', c', rfl⟩ := own_form ho.1
 have hgs := good_change' hg id mask r
 have key : (S.map (·.t), ec) = changeS (plainOf T I R n) id mask r := by
  unfold changeS
  rcases hout with ⟨_, h1, _⟩ | ⟨rfl, _, h1, h2⟩ | ⟨rfl, _, ⟨m, q, h1, h2⟩, h3⟩ | ⟨rfl, _, m, q, h1, h2, h3⟩
  ·exact absurd hg h1
  ·rw [if_neg h1, h2]
  ·rw [if_pos (at_mem h1), (at_mk hg.2.2.2.2.2 h1).1, (at_mk hg.2.2.2.2.2 h1).2, if_neg (by simp [h2]), h3]
  ·rw [if_pos (at_mem h1), (at_mk hg.2.2.2.2.2 h1).1, (at_mk hg.2.2.2.2.2 h1).2, if_pos h2, h3]
 rw [← key] at hgs ⊢
 exact ⟨⟨a', S.length, c', rfl, own_sto (next := next) ho hgs⟩, hb⟩
theorem Sto.empty (W : World) : Sto W (fun _ => False) (.slice none 0 0) [] :=
 ⟨none, 0, 0, fun _ => ⟨0, none, 0, 0, none, 0, 0⟩, fun _ _ => 0, fun _ _ => zeroR, rfl, rfl, fun _ h => h.elim, fun _ _ _ => ⟨fun h => absurd h (Nat.lt_irrefl _), fun i hi => absurd hi (Nat.not_lt_zero _), fun i hi => absurd hi (Nat.not_lt_zero _), ⟨by omega, fun _ => rfl, fun i hi => absurd hi (Nat.not_lt_zero _)⟩, fun i hi => absurd hi (Nat.not_lt_zero _)⟩⟩
theorem good_nil : GoodL 0 [] := ⟨rfl, by simp [allL], by simp, List.Pairwise.nil, by simp, by simp [allL]⟩
end Wd
end Go.Proofs.YtckkkdldljhehacGreat
