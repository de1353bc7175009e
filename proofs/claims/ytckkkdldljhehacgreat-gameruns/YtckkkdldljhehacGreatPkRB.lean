/- Part of the proofs of GamePlays and GameRuns (package ninepinslaw): contracts of the functions that they call. -/
import Derived.Test.YtckkkdldljhehacGreatPkS
import Derived.Test.YtckkkdldljhehacGreatPkV
import Derived.Test.YtckkkdldljhehacGreatPkRA
namespace Go.Proofs.YtckkkdldljhehacGreat
namespace Rf
open Num St Mp Th Wd Gm Ws
open Go.ChangeShapes Go.WideShapes Go.ChangeAt Go.RowKit
def parts : List Int := [1, 2, 4, 8, 16]
theorem one_all : ∀ m ∈ masks, (oneB m = true → m ∈ parts) := by decide +kernel
theorem one_parts {m : Int} (h : oneB m = true) : m ∈ parts := by
 have h0 : 0 ≤ m ∧ m ≤ 31 := by simp [oneB] at h; omega
 exact one_all m (mem_masks h0) h
theorem parts_one : ∀ m ∈ parts, oneB m = true := by decide +kernel
theorem not_one {m : Int} (h : oneB m = false) : (m == 1) = false ∧ (m == 2) = false ∧ (m == 4) = false ∧ (m == 8) = false ∧ (m == 16) = false := by
 have hn : ∀ p ∈ parts, (m == p) = false := fun p hp => by
  cases e : (m == p) with
  | false => rfl
  | true =>
   have e1 : m = p := by simpa using e
   rw [e1, parts_one p hp] at h
   cases h
 exact ⟨hn 1 (by decide), hn 2 (by decide), hn 4 (by decide), hn 8 (by decide), hn 16 (by decide)⟩
theorem part_cases {m : Int} (h : m ∈ parts) : ((m == 1) = true ∧ (m == 2) = false ∧ (m == 4) = false ∧ (m == 8) = false ∧ (m == 16) = false) ∨ ((m == 1) = false ∧ (m == 2) = true ∧ (m == 4) = false ∧ (m == 8) = false ∧ (m == 16) = false) ∨ ((m == 1) = false ∧ (m == 2) = false ∧ (m == 4) = true ∧ (m == 8) = false ∧ (m == 16) = false) ∨ ((m == 1) = false ∧ (m == 2) = false ∧ (m == 4) = false ∧ (m == 8) = true ∧ (m == 16) = false) ∨ ((m == 1) = false ∧ (m == 2) = false ∧ (m == 4) = false ∧ (m == 8) = false ∧ (m == 16) = true) := by
 simp only [parts, List.mem_cons, List.not_mem_nil, or_false] at h
 rcases h with rfl | rfl | rfl | rfl | rfl <;> decide
theorem part_in {m : Int} (h : m ∈ parts) : 1 ≤ m ∧ m ≤ 16 := by
 simp only [parts, List.mem_cons, List.not_mem_nil, or_false] at h
 omega
theorem or_all : ∀ m ∈ masks, ∀ p ∈ parts, hasB m p = false → bits .or .i64 m p = m + p ∧ hasB (m + p) 1 = (hasB m 1 || p == 1) ∧ hasB (m + p) 2 = (hasB m 2 || p == 2) ∧ hasB (m + p) 4 = (hasB m 4 || p == 4) ∧ hasB (m + p) 8 = (hasB m 8 || p == 8) := by decide +kernel
theorem un_all : ∀ m ∈ masks, ∀ p ∈ parts, hasB m p = true → bits .andNot .i64 m p = m - p ∧ 0 ≤ m - p ∧ m - p ≤ 31 := by decide +kernel
theorem has_parts {m p : Int} (hm : 0 ≤ m ∧ m ≤ 31) (hp : p ∈ parts) : hasR m p = hasB m p := by
 obtain ⟨h1, h2, h4, h8, h16⟩ := hasR_eq hm
 simp only [parts, List.mem_cons, List.not_mem_nil, or_false] at hp
 rcases hp with rfl | rfl | rfl | rfl | rfl <;> assumption
theorem only_parts : ∀ p ∈ parts, (hasR p 1 = (p == 1) ∧ hasR p 2 = (p == 2) ∧ hasR p 4 = (p == 4) ∧ hasR p 8 = (p == 8)) := by decide +kernel
theorem good_only {m : Int} {r : R8} (h : goodRowB m r = true) : onlyR m r = r := by
 simp only [goodRowB, Bool.and_eq_true] at h
 have h2 := h.2.1
 obtain ⟨x, y, px, py, wd, ht, ms, rr⟩ := r
 simp [eqR, onlyR, layR, zeroR] at h2 ⊢
 obtain ⟨⟨⟨⟨⟨⟨⟨a1, a2⟩, a3⟩, a4⟩, a5⟩, a6⟩, a7⟩, a8⟩ := h2
 exact ⟨fun h => (a1 h).symm, fun h => (a2 h).symm, fun h => (a3 h).symm, fun h => (a4 h).symm, fun h => (a5 h).symm, fun h => (a6 h).symm, fun h => (a7 h).symm, fun h => (a8 h).symm⟩
def withP (p : Int) (q m : R8) : R8 :=
 if p = 1 then { q with x := m.x, y := m.y } else if p = 2 then { q with px := m.px, py := m.py } else if p = 4 then { q with wd := m.wd, ht := m.ht } else if p = 8 then { q with ms := m.ms, rr := m.rr } else q
theorem give_row {m p : Int} {q r : R8} (hg : goodRowB m q = true) (hp : p ∈ parts) (hh : hasB m p = false) : chR (m + p) m q r = withP p q (onlyH p r) := by
 have hm : 0 ≤ m ∧ m ≤ 31 := by have := goodRow_mask hg; omega
 obtain ⟨-, k1, k2, k4, k8⟩ := or_all m (mem_masks hm) p hp hh
 have h0 := good_only hg
 obtain ⟨o1, o2, o4, o8⟩ := only_parts p hp
 obtain ⟨x, y, px, py, wd, ht, ms, rr⟩ := q
 simp only [onlyR, layR, zeroR, R8.mk.injEq] at h0
 obtain ⟨z1, z2, z3, z4, z5, z6, z7, z8⟩ := h0
 simp only [parts, List.mem_cons, List.not_mem_nil, or_false] at hp
 simp only [chR, onlyR, layR, zeroR, withP, onlyH, k1, k2, k4, k8, o1, o2, o4, o8]
 rcases hp with rfl | rfl | rfl | rfl | rfl <;> simp [hh] <;> (cases a1 : hasB m 1 <;> cases a2 : hasB m 2 <;> cases a4 : hasB m 4 <;> cases a8 : hasB m 8 <;> simp_all)
theorem take_row {m p : Int} {q : R8} (hg : goodRowB m q = true) (hp : p ∈ parts) (hh : hasB m p = true) : chR (m - p) m q zeroR = onlyH (m - p) q := by
 have hm : 0 ≤ m ∧ m ≤ 31 := by have := goodRow_mask hg; omega
 obtain ⟨-, h1, h2⟩ := un_all m (mem_masks hm) p hp hh
 rw [onlyH_eq ⟨h1, h2⟩]
 show onlyR (m - p) (onlyR m q) = onlyR (m - p) q
 rw [good_only hg]
def kg (o : Nat) (v1 v2 : Value) (f : Nat → Value) (x y : Bool) (i : Nat) : Value := if i = o + 1 ∧ x = true then v1 else if i = o + 2 ∧ y = true then v2 else f i
theorem kg_start (o : Nat) (v1 v2 : Value) (f : Nat → Value) (i : Nat) : f i = kg o v1 v2 f false false i := by simp [kg]
theorem kg_x (o : Nat) (v1 v2 : Value) (f : Nat → Value) (x y : Bool) (i : Nat) : (if i = o + 1 then v1 else kg o v1 v2 f x y i) = kg o v1 v2 f true y i := by
 unfold kg
 by_cases h : i = o + 1 <;> simp [h]
theorem kg_y (o : Nat) (v1 v2 : Value) (f : Nat → Value) (x y : Bool) (i : Nat) : (if i = o + 2 then v2 else kg o v1 v2 f x y i) = kg o v1 v2 f x true i := by
 unfold kg
 by_cases h : i = o + 2
 ·simp [h]
 ·simp [h]
attribute [local go_sem ↓] Go.wp_at_zero Go.wp_at_succ
set_option maxHeartbeats 16000000 in
set_option maxRecDepth 100000 in
theorem rreg63_wp (Q : Exit → Act → World → Prop) (A : Act) (mb nb : Nat) (v1 v2 : Int) (f0 : Nat → Value) (wz : World) (e13 : A.tmps[13]?.getD undef = .pointer (some ⟨mb, 0, none⟩)) (e12 : A.tmps[12]?.getD undef = .pointer (some ⟨nb, 0, none⟩)) (hsz : 323 < A.tmps.size)
  (hsk : ∀ W, wz.grownBy W (some nb) → W.cell? ⟨mb, 0, none⟩ = some (.int .i64 v1) ∧ W.cell? ⟨mb, 1, none⟩ = some (.int .i64 v2))
  (hrt : wz.rowIs nb 105 9 f0)
  (h : ∀ (f : Nat → Value) (W : World), wz.grownBy W (some nb) → W.rowIs nb 105 9 (kg 0 (.int .i64 v1) (.int .i64 v2) f0 true true) → Q .normal (Rh.puts f [316, 317, 318, 319, 320, 321, 322, 323] A) W) :
  Code.wp Tryz.prog (rreg 63) Q A wz := by
 have HSK := St.hid hsk
 have HRT := St.hid hrt
 have H := St.hid h
 clear hsk hrt h
 conv => arg 2; whnf
 refine Rs.wp_region (by kernel_rfl) (fun Lf a1 w1 => Hid (Rs.Sl [316, 317, 318, 319, 320, 321, 322, 323] A [(0, 316, .pointer (some ⟨mb, 0, none⟩)), (1, 317, .int .i64 v1), (2, 318, .pointer (some ⟨mb, 1, none⟩)), (3, 319, .int .i64 v2), (4, 320, .pointer (some ⟨nb, 1, none⟩)), (5, 321, .pointer (some ⟨nb, 1, none⟩)), (7, 322, .pointer (some ⟨nb, 1, none⟩)), (8, 323, .pointer (some ⟨nb, 2, none⟩))] Lf a1) ∧ Hid (wz.grownBy w1 (some nb)) ∧ Hid (w1.rowIs nb 105 9 (kg 0 (.int .i64 v1) (.int .i64 v2) f0 (Lf 6) (Lf 9)))) (by kernel_rfl) ?rs ?rg ?re
 case rs => exact ⟨Rs.Sl.start hsz rfl, St.hid (Wd.grown_refl _ _ |> fun h => ⟨h.os, h.tape, h.output, h.size, h.block⟩), St.hid ((rowIs_below HRT.out (Below.drew (Below.refl _ _))).congr (fun i hi => kg_start 0 _ _ f0 i))⟩
 case rg =>
  intro Lf a1 w1 hI hC
  obtain ⟨cS, cG, cR⟩ := hI
  iterate 6 (refine ⟨fun hl hd K' hK => ?_, ?_⟩; rotate_left)
  refine ⟨fun hl hd K' hK => ?o6, ?_⟩
  rotate_left
  iterate 2 (refine ⟨fun hl hd K' hK => ?_, ?_⟩; rotate_left)
  refine ⟨fun hl hd K' hK => ?o9, ?_⟩
  rotate_left
  exact trivial
  case o6 =>
   have q0 := Rs.Sl.at cS 5 (Rs.dep hd 5)
   have q1 := Rs.Sl.at cS 1 (Rs.dep hd 1)
   have x0 := cR.out.cell (i := 1) (by omega)
   have f0' := cR.out.frozen 1
   have hlt := cR.out.lt
   clear hd e13 e12
   go_simp
   exact hK.out _ _ ⟨Rs.Sl.skip cS rfl, St.hid (cG.out.trans (grown_set _ _ _ _)), St.hid ((cR.out.set 1 _).congr (fun i _ => kg_x 0 _ _ f0 _ _ i))⟩
  case o9 =>
   have q0 := Rs.Sl.at cS 8 (Rs.dep hd 8)
   have q1 := Rs.Sl.at cS 3 (Rs.dep hd 3)
   have x0 := cR.out.cell (i := 2) (by omega)
   have f0' := cR.out.frozen 2
   have hlt := cR.out.lt
   clear hd e13 e12
   go_simp
   exact hK.out _ _ ⟨Rs.Sl.skip cS rfl, St.hid (cG.out.trans (grown_set _ _ _ _)), St.hid ((cR.out.set 2 _).congr (fun i _ => kg_y 0 _ _ f0 _ _ i))⟩
  all_goals
   have z := Rs.Sl.deps cS hd
   clear hd
   repeat (obtain ⟨_, z⟩ := z)
   have y13 := Rs.Sl.old cS e13 rfl
   have y12 := Rs.Sl.old cS e12 rfl
   obtain ⟨z0, z1⟩ := HSK.out _ cG.out
   go_simp
   exact hK.out (a1.put (some _) _) _ ⟨Rs.Sl.put cS rfl rfl, cG, cR⟩
 case re =>
  intro Lf a1 w1 hI hall
  obtain ⟨cS, cG, cR⟩ := hI
  have hr := cR.out
  rw [hall 6 (by decide), hall 9 (by decide)] at hr
  rw [Rs.Sl.eq cS]
  exact H.out _ w1 cG.out hr
set_option maxHeartbeats 16000000 in
set_option maxRecDepth 100000 in
theorem rreg65_wp (Q : Exit → Act → World → Prop) (A : Act) (mb nb : Nat) (v1 v2 : Int) (f0 : Nat → Value) (wz : World) (e13 : A.tmps[13]?.getD undef = .pointer (some ⟨mb, 0, none⟩)) (e12 : A.tmps[12]?.getD undef = .pointer (some ⟨nb, 0, none⟩)) (hsz : 333 < A.tmps.size)
  (hsk : ∀ W, wz.grownBy W (some nb) → W.cell? ⟨mb, 2, none⟩ = some (.int .i64 v1) ∧ W.cell? ⟨mb, 3, none⟩ = some (.int .i64 v2))
  (hrt : wz.rowIs nb 105 9 f0)
  (h : ∀ (f : Nat → Value) (W : World), wz.grownBy W (some nb) → W.rowIs nb 105 9 (kg 2 (.int .i64 v1) (.int .i64 v2) f0 true true) → Q .normal (Rh.puts f [326, 327, 328, 329, 330, 331, 332, 333] A) W) :
  Code.wp Tryz.prog (rreg 65) Q A wz := by
 have HSK := St.hid hsk
 have HRT := St.hid hrt
 have H := St.hid h
 clear hsk hrt h
 conv => arg 2; whnf
 refine Rs.wp_region (by kernel_rfl) (fun Lf a1 w1 => Hid (Rs.Sl [326, 327, 328, 329, 330, 331, 332, 333] A [(0, 326, .pointer (some ⟨mb, 2, none⟩)), (1, 327, .int .i64 v1), (2, 328, .pointer (some ⟨mb, 3, none⟩)), (3, 329, .int .i64 v2), (4, 330, .pointer (some ⟨nb, 1, none⟩)), (5, 331, .pointer (some ⟨nb, 3, none⟩)), (7, 332, .pointer (some ⟨nb, 1, none⟩)), (8, 333, .pointer (some ⟨nb, 4, none⟩))] Lf a1) ∧ Hid (wz.grownBy w1 (some nb)) ∧ Hid (w1.rowIs nb 105 9 (kg 2 (.int .i64 v1) (.int .i64 v2) f0 (Lf 6) (Lf 9)))) (by kernel_rfl) ?rs ?rg ?re
 case rs => exact ⟨Rs.Sl.start hsz rfl, St.hid (Wd.grown_refl _ _ |> fun h => ⟨h.os, h.tape, h.output, h.size, h.block⟩), St.hid ((rowIs_below HRT.out (Below.drew (Below.refl _ _))).congr (fun i hi => kg_start 2 _ _ f0 i))⟩
 case rg =>
  intro Lf a1 w1 hI hC
  obtain ⟨cS, cG, cR⟩ := hI
  iterate 6 (refine ⟨fun hl hd K' hK => ?_, ?_⟩; rotate_left)
  refine ⟨fun hl hd K' hK => ?o6, ?_⟩
  rotate_left
  iterate 2 (refine ⟨fun hl hd K' hK => ?_, ?_⟩; rotate_left)
  refine ⟨fun hl hd K' hK => ?o9, ?_⟩
  rotate_left
  exact trivial
  case o6 =>
   have q0 := Rs.Sl.at cS 5 (Rs.dep hd 5)
   have q1 := Rs.Sl.at cS 1 (Rs.dep hd 1)
   have x0 := cR.out.cell (i := 3) (by omega)
   have f0' := cR.out.frozen 3
   have hlt := cR.out.lt
   clear hd e13 e12
   go_simp
   exact hK.out _ _ ⟨Rs.Sl.skip cS rfl, St.hid (cG.out.trans (grown_set _ _ _ _)), St.hid ((cR.out.set 3 _).congr (fun i _ => kg_x 2 _ _ f0 _ _ i))⟩
  case o9 =>
   have q0 := Rs.Sl.at cS 8 (Rs.dep hd 8)
   have q1 := Rs.Sl.at cS 3 (Rs.dep hd 3)
   have x0 := cR.out.cell (i := 4) (by omega)
   have f0' := cR.out.frozen 4
   have hlt := cR.out.lt
   clear hd e13 e12
   go_simp
   exact hK.out _ _ ⟨Rs.Sl.skip cS rfl, St.hid (cG.out.trans (grown_set _ _ _ _)), St.hid ((cR.out.set 4 _).congr (fun i _ => kg_y 2 _ _ f0 _ _ i))⟩
  all_goals
   have z := Rs.Sl.deps cS hd
   clear hd
   repeat (obtain ⟨_, z⟩ := z)
   have y13 := Rs.Sl.old cS e13 rfl
   have y12 := Rs.Sl.old cS e12 rfl
   obtain ⟨z0, z1⟩ := HSK.out _ cG.out
   go_simp
   exact hK.out (a1.put (some _) _) _ ⟨Rs.Sl.put cS rfl rfl, cG, cR⟩
 case re =>
  intro Lf a1 w1 hI hall
  obtain ⟨cS, cG, cR⟩ := hI
  have hr := cR.out
  rw [hall 6 (by decide), hall 9 (by decide)] at hr
  rw [Rs.Sl.eq cS]
  exact H.out _ w1 cG.out hr
set_option maxHeartbeats 16000000 in
set_option maxRecDepth 100000 in
theorem rreg67_wp (Q : Exit → Act → World → Prop) (A : Act) (mb nb : Nat) (v1 v2 : Int) (f0 : Nat → Value) (wz : World) (e13 : A.tmps[13]?.getD undef = .pointer (some ⟨mb, 0, none⟩)) (e12 : A.tmps[12]?.getD undef = .pointer (some ⟨nb, 0, none⟩)) (hsz : 343 < A.tmps.size)
  (hsk : ∀ W, wz.grownBy W (some nb) → W.cell? ⟨mb, 4, none⟩ = some (.int .i64 v1) ∧ W.cell? ⟨mb, 5, none⟩ = some (.int .i64 v2))
  (hrt : wz.rowIs nb 105 9 f0)
  (h : ∀ (f : Nat → Value) (W : World), wz.grownBy W (some nb) → W.rowIs nb 105 9 (kg 4 (.int .i64 v1) (.int .i64 v2) f0 true true) → Q .normal (Rh.puts f [336, 337, 338, 339, 340, 341, 342, 343] A) W) :
  Code.wp Tryz.prog (rreg 67) Q A wz := by
 have HSK := St.hid hsk
 have HRT := St.hid hrt
 have H := St.hid h
 clear hsk hrt h
 conv => arg 2; whnf
 refine Rs.wp_region (by kernel_rfl) (fun Lf a1 w1 => Hid (Rs.Sl [336, 337, 338, 339, 340, 341, 342, 343] A [(0, 336, .pointer (some ⟨mb, 4, none⟩)), (1, 337, .int .i64 v1), (2, 338, .pointer (some ⟨mb, 5, none⟩)), (3, 339, .int .i64 v2), (4, 340, .pointer (some ⟨nb, 1, none⟩)), (5, 341, .pointer (some ⟨nb, 5, none⟩)), (7, 342, .pointer (some ⟨nb, 1, none⟩)), (8, 343, .pointer (some ⟨nb, 6, none⟩))] Lf a1) ∧ Hid (wz.grownBy w1 (some nb)) ∧ Hid (w1.rowIs nb 105 9 (kg 4 (.int .i64 v1) (.int .i64 v2) f0 (Lf 6) (Lf 9)))) (by kernel_rfl) ?rs ?rg ?re
 case rs => exact ⟨Rs.Sl.start hsz rfl, St.hid (Wd.grown_refl _ _ |> fun h => ⟨h.os, h.tape, h.output, h.size, h.block⟩), St.hid ((rowIs_below HRT.out (Below.drew (Below.refl _ _))).congr (fun i hi => kg_start 4 _ _ f0 i))⟩
 case rg =>
  intro Lf a1 w1 hI hC
  obtain ⟨cS, cG, cR⟩ := hI
  iterate 6 (refine ⟨fun hl hd K' hK => ?_, ?_⟩; rotate_left)
  refine ⟨fun hl hd K' hK => ?o6, ?_⟩
  rotate_left
  iterate 2 (refine ⟨fun hl hd K' hK => ?_, ?_⟩; rotate_left)
  refine ⟨fun hl hd K' hK => ?o9, ?_⟩
  rotate_left
  exact trivial
  case o6 =>
   have q0 := Rs.Sl.at cS 5 (Rs.dep hd 5)
   have q1 := Rs.Sl.at cS 1 (Rs.dep hd 1)
   have x0 := cR.out.cell (i := 5) (by omega)
   have f0' := cR.out.frozen 5
   have hlt := cR.out.lt
   clear hd e13 e12
   go_simp
   exact hK.out _ _ ⟨Rs.Sl.skip cS rfl, St.hid (cG.out.trans (grown_set _ _ _ _)), St.hid ((cR.out.set 5 _).congr (fun i _ => kg_x 4 _ _ f0 _ _ i))⟩
  case o9 =>
   have q0 := Rs.Sl.at cS 8 (Rs.dep hd 8)
   have q1 := Rs.Sl.at cS 3 (Rs.dep hd 3)
   have x0 := cR.out.cell (i := 6) (by omega)
   have f0' := cR.out.frozen 6
   have hlt := cR.out.lt
   clear hd e13 e12
   go_simp
   exact hK.out _ _ ⟨Rs.Sl.skip cS rfl, St.hid (cG.out.trans (grown_set _ _ _ _)), St.hid ((cR.out.set 6 _).congr (fun i _ => kg_y 4 _ _ f0 _ _ i))⟩
  all_goals
   have z := Rs.Sl.deps cS hd
   clear hd
   repeat (obtain ⟨_, z⟩ := z)
   have y13 := Rs.Sl.old cS e13 rfl
   have y12 := Rs.Sl.old cS e12 rfl
   obtain ⟨z0, z1⟩ := HSK.out _ cG.out
   go_simp
   exact hK.out (a1.put (some _) _) _ ⟨Rs.Sl.put cS rfl rfl, cG, cR⟩
 case re =>
  intro Lf a1 w1 hI hall
  obtain ⟨cS, cG, cR⟩ := hI
  have hr := cR.out
  rw [hall 6 (by decide), hall 9 (by decide)] at hr
  rw [Rs.Sl.eq cS]
  exact H.out _ w1 cG.out hr
set_option maxHeartbeats 16000000 in
set_option maxRecDepth 100000 in
theorem rreg69_wp (Q : Exit → Act → World → Prop) (A : Act) (mb nb : Nat) (v1 v2 : Int) (f0 : Nat → Value) (wz : World) (e13 : A.tmps[13]?.getD undef = .pointer (some ⟨mb, 0, none⟩)) (e12 : A.tmps[12]?.getD undef = .pointer (some ⟨nb, 0, none⟩)) (hsz : 353 < A.tmps.size)
  (hsk : ∀ W, wz.grownBy W (some nb) → W.cell? ⟨mb, 6, none⟩ = some (.int .i64 v1) ∧ W.cell? ⟨mb, 7, none⟩ = some (.int .i64 v2))
  (hrt : wz.rowIs nb 105 9 f0)
  (h : ∀ (f : Nat → Value) (W : World), wz.grownBy W (some nb) → W.rowIs nb 105 9 (kg 6 (.int .i64 v1) (.int .i64 v2) f0 true true) → Q .normal (Rh.puts f [346, 347, 348, 349, 350, 351, 352, 353] A) W) :
  Code.wp Tryz.prog (rreg 69) Q A wz := by
 have HSK := St.hid hsk
 have HRT := St.hid hrt
 have H := St.hid h
 clear hsk hrt h
 conv => arg 2; whnf
 refine Rs.wp_region (by kernel_rfl) (fun Lf a1 w1 => Hid (Rs.Sl [346, 347, 348, 349, 350, 351, 352, 353] A [(0, 346, .pointer (some ⟨mb, 6, none⟩)), (1, 347, .int .i64 v1), (2, 348, .pointer (some ⟨mb, 7, none⟩)), (3, 349, .int .i64 v2), (4, 350, .pointer (some ⟨nb, 1, none⟩)), (5, 351, .pointer (some ⟨nb, 7, none⟩)), (7, 352, .pointer (some ⟨nb, 1, none⟩)), (8, 353, .pointer (some ⟨nb, 8, none⟩))] Lf a1) ∧ Hid (wz.grownBy w1 (some nb)) ∧ Hid (w1.rowIs nb 105 9 (kg 6 (.int .i64 v1) (.int .i64 v2) f0 (Lf 6) (Lf 9)))) (by kernel_rfl) ?rs ?rg ?re
 case rs => exact ⟨Rs.Sl.start hsz rfl, St.hid (Wd.grown_refl _ _ |> fun h => ⟨h.os, h.tape, h.output, h.size, h.block⟩), St.hid ((rowIs_below HRT.out (Below.drew (Below.refl _ _))).congr (fun i hi => kg_start 6 _ _ f0 i))⟩
 case rg =>
  intro Lf a1 w1 hI hC
  obtain ⟨cS, cG, cR⟩ := hI
  iterate 6 (refine ⟨fun hl hd K' hK => ?_, ?_⟩; rotate_left)
  refine ⟨fun hl hd K' hK => ?o6, ?_⟩
  rotate_left
  iterate 2 (refine ⟨fun hl hd K' hK => ?_, ?_⟩; rotate_left)
  refine ⟨fun hl hd K' hK => ?o9, ?_⟩
  rotate_left
  exact trivial
  case o6 =>
   have q0 := Rs.Sl.at cS 5 (Rs.dep hd 5)
   have q1 := Rs.Sl.at cS 1 (Rs.dep hd 1)
   have x0 := cR.out.cell (i := 7) (by omega)
   have f0' := cR.out.frozen 7
   have hlt := cR.out.lt
   clear hd e13 e12
   go_simp
   exact hK.out _ _ ⟨Rs.Sl.skip cS rfl, St.hid (cG.out.trans (grown_set _ _ _ _)), St.hid ((cR.out.set 7 _).congr (fun i _ => kg_x 6 _ _ f0 _ _ i))⟩
  case o9 =>
   have q0 := Rs.Sl.at cS 8 (Rs.dep hd 8)
   have q1 := Rs.Sl.at cS 3 (Rs.dep hd 3)
   have x0 := cR.out.cell (i := 8) (by omega)
   have f0' := cR.out.frozen 8
   have hlt := cR.out.lt
   clear hd e13 e12
   go_simp
   exact hK.out _ _ ⟨Rs.Sl.skip cS rfl, St.hid (cG.out.trans (grown_set _ _ _ _)), St.hid ((cR.out.set 8 _).congr (fun i _ => kg_y 6 _ _ f0 _ _ i))⟩
  all_goals
   have z := Rs.Sl.deps cS hd
   clear hd
   repeat (obtain ⟨_, z⟩ := z)
   have y13 := Rs.Sl.old cS e13 rfl
   have y12 := Rs.Sl.old cS e12 rfl
   obtain ⟨z0, z1⟩ := HSK.out _ cG.out
   go_simp
   exact hK.out (a1.put (some _) _) _ ⟨Rs.Sl.put cS rfl rfl, cG, cR⟩
 case re =>
  intro Lf a1 w1 hI hall
  obtain ⟨cS, cG, cR⟩ := hI
  have hr := cR.out
  rw [hall 6 (by decide), hall 9 (by decide)] at hr
  rw [Rs.Sl.eq cS]
  exact H.out _ w1 cG.out hr
end Rf
namespace Rf
open Num St Mp Th Wd Gm Ws
open Go.ChangeShapes Go.WideShapes Go.ChangeAt Go.RowKit
theorem infoRW : (Tryz.prog.info? 73).map (fun i => (i.zero, i.size, i.bytes)) = some (some (.agg #[.map none, .int .i64 0, .int .i64 0, .int .i64 0, .int .i64 0]), 5, 40) := by kernel_rfl
structure AppR (wz W : World) (vs : Value) (m : Nat) (xs : List Value) (c2 : Nat) (M : Mth) (x : Wp) (v' : Value) : Prop where
 via : ∃ Wm, Below wz.heap.size wz Wm ∧ Wm.grownBy W vs.ownBlock
 map : Mp W c2 M
 new : wz.heap.size ≤ c2
 own : W.ownsRow 0 73 5 v' (m + 1) (xs ++ [.map (some c2), .int .i64 x.next, .int .i64 x.fall, .int .i64 x.wide, .int .i64 x.high])
 at_ : v'.ownBlock = vs.ownBlock ∨ ∃ z, v'.ownBlock = some z ∧ wz.heap.size ≤ z ∧ z ≠ c2
attribute [local go_sem ↓] Go.wp_at_zero Go.wp_at_succ
set_option maxHeartbeats 16000000 in
set_option maxRecDepth 100000 in
theorem rreg38_wp (Q : Exit → Act → World → Prop) (A : Act) (b c m cv : Nat) (av : Option Addr) (xs : List Value) (M : Mth) (x : Wp) (wz : World)
  (e0 : A.tmps[0]?.getD undef = .pointer (some ⟨b, 0, none⟩)) (hsz : 177 < A.tmps.size) (hm : m ≤ 3) (hbz : b < wz.heap.size)
  (hsk : ∀ W, Below wz.heap.size wz W → W.cell? ⟨b, 0, none⟩ = some (.map (some c)) ∧ W.cell? ⟨b, 1, none⟩ = some (.int .i64 x.next) ∧ W.cell? ⟨b, 2, none⟩ = some (.int .i64 x.fall) ∧ W.cell? ⟨b, 3, none⟩ = some (.int .i64 x.wide) ∧ W.cell? ⟨b, 4, none⟩ = some (.int .i64 x.high) ∧ W.cell? ⟨b, 5, none⟩ = some (.slice av m cv) ∧ W.frozen? ⟨b, 5, none⟩ = false)
  (hvb : ∀ z, (Value.slice av m cv).ownBlock = some z → z ≠ b ∧ z < wz.heap.size)
  (hcp : ∀ W, Below wz.heap.size wz W → Calls Tryz.prog 50 #[.agg #[.map (some c), .int .i64 x.next, .int .i64 x.fall, .int .i64 x.wide, .int .i64 x.high]] W fun e w' => (∃ c2, e = .returned (.agg #[.map (some c2), .int .i64 x.next, .int .i64 x.fall, .int .i64 x.wide, .int .i64 x.high]) ∧ W.heap.size ≤ c2 ∧ Mp w' c2 M) ∧ Below W.heap.size W w')
  (hsv : wz.ownsRow 0 73 5 (.slice av m cv) m xs)
  (h : ∀ (f : Nat → Value) (W : World) (c2 : Nat) (a' : Option Addr) (c' : Nat), AppR wz W (.slice av m cv) m xs c2 M x (.slice a' (m + 1) c') → Q .normal (Rh.puts f [164, 165, 166, 167, 168, 169, 170, 171, 172, 173, 174, 175, 176, 177] A) (W.setCell ⟨b, 5, none⟩ (.slice a' (m + 1) c'))) :
  Code.wp Tryz.prog (rreg 38) Q A wz := by
 obtain ⟨iw, hiw, hzw, hsw, hbw⟩ := info_parts infoRW
 have HSK := St.hid hsk
 have HCP := St.hid hcp
 have HSV := St.hid hsv
 have HVB := St.hid hvb
 have H := St.hid h
 clear hsk h hcp hsv hvb
 conv => arg 2; whnf
 refine Rs.wp_region (by kernel_rfl) (fun Lf a1 w1 => Hid (Rs.Sl [164, 165, 166, 167, 168, 169, 170, 171, 172, 173, 174, 175, 176, 177] A [(0, 164, .pointer (some ⟨b, 0, none⟩)), (1, 165, .pointer (some ⟨b, 0, none⟩)), (2, 166, .pointer (some ⟨b, 0, none⟩)), (3, 167, .pointer (some ⟨b, 5, none⟩)), (4, 168, .slice av m cv), (5, 169, .pointer (some ⟨b, 0, none⟩)), (6, 170, .pointer (some ⟨b, 0, none⟩)), (7, 171, .pointer (some ⟨b, 0, none⟩)), (8, 172, .agg #[.map (some c), .int .i64 x.next, .int .i64 x.fall, .int .i64 x.wide, .int .i64 x.high]), (12, 176, .pointer (some ⟨b, 0, none⟩)), (13, 177, .pointer (some ⟨b, 5, none⟩))] Lf a1) ∧ Hid (Lf 11 = false → Below wz.heap.size wz w1) ∧ Hid (Lf 9 = true → Lf 11 = false → ∃ c2, a1.tmps[173]?.getD undef = .agg #[.map (some c2), .int .i64 x.next, .int .i64 x.fall, .int .i64 x.wide, .int .i64 x.high] ∧ wz.heap.size ≤ c2 ∧ Mp w1 c2 M) ∧ Hid (Lf 10 = true → Lf 11 = false → ∃ c2 bs, a1.tmps[174]?.getD undef = .slice (some ⟨bs, 0, none⟩) 1 1 ∧ wz.heap.size ≤ c2 ∧ Mp w1 c2 M ∧ wz.heap.size ≤ bs ∧ bs ≠ c2 ∧ w1.rowIs bs 73 5 (wcell (.map (some c2)) x.next x.fall x.wide x.high)) ∧ Hid (Lf 11 = true → Lf 14 = false → ∃ c2 a' c', a1.tmps[175]?.getD undef = .slice a' (m + 1) c' ∧ AppR wz w1 (.slice av m cv) m xs c2 M x (.slice a' (m + 1) c')) ∧ Hid (Lf 14 = true → ∃ W c2 a' c', w1 = W.setCell ⟨b, 5, none⟩ (.slice a' (m + 1) c') ∧ AppR wz W (.slice av m cv) m xs c2 M x (.slice a' (m + 1) c'))) (by kernel_rfl) ?rs ?rg ?re
 case rs => exact ⟨Rs.Sl.start hsz rfl, St.hid (fun _ => Below.drew (Below.refl _ _)), St.hid (fun h => by cases h), St.hid (fun h => by cases h), St.hid (fun h => by cases h), St.hid (fun h => by cases h)⟩
 case rg =>
  intro Lf a1 w1 hI hC
  obtain ⟨cS, cB, c9, c10, c11, c14⟩ := hI
  iterate 4 (refine ⟨fun hl hd K' hK => ?_, ?_⟩; rotate_left)
  refine ⟨fun hl hd K' hK => ?o4, ?_⟩
  rotate_left
  iterate 3 (refine ⟨fun hl hd K' hK => ?_, ?_⟩; rotate_left)
  refine ⟨fun hl hd K' hK => ?o8, ?_⟩
  rotate_left
  refine ⟨fun hl hd K' hK => ?o9, ?_⟩
  rotate_left
  refine ⟨fun hl hd K' hK => ?o10, ?_⟩
  rotate_left
  refine ⟨fun hl hd K' hK => ?o11, ?_⟩
  rotate_left
  iterate 2 (refine ⟨fun hl hd K' hK => ?_, ?_⟩; rotate_left)
  refine ⟨fun hl hd K' hK => ?o14, ?_⟩
  rotate_left
  exact trivial
  case o4 =>
   have q0 := Rs.Sl.at cS 3 (Rs.dep hd 3)
   obtain ⟨x0, x1, x2, x3, x4, x5, x6⟩ := HSK.out _ (cB.out (Rs.late hC hl 11))
   clear hd
   go_simp
   exact hK.out (a1.put (some _) _) _ ⟨Rs.Sl.put cS rfl rfl, cB, St.hid (fun h h' => by rw [Rh.put_ne (by decide)]; exact c9.out h h'), St.hid (fun h h' => by rw [Rh.put_ne (by decide)]; exact c10.out h h'), St.hid (fun h h' => by rw [Rh.put_ne (by decide)]; exact c11.out h h'), c14⟩
  case o8 =>
   have q0 := Rs.Sl.at cS 7 (Rs.dep hd 7)
   obtain ⟨x0, x1, x2, x3, x4, x5, x6⟩ := HSK.out _ (cB.out (Rs.late hC hl 11))
   clear hd
   go_simp
   exact hK.out (a1.put (some _) _) _ ⟨Rs.Sl.put cS rfl rfl, cB, St.hid (fun h h' => by rw [Rh.put_ne (by decide)]; exact c9.out h h'), St.hid (fun h h' => by rw [Rh.put_ne (by decide)]; exact c10.out h h'), St.hid (fun h h' => by rw [Rh.put_ne (by decide)]; exact c11.out h h'), c14⟩
  case o9 =>
   have q0 := Rs.Sl.at cS 8 (Rs.dep hd 8)
   have hbel := cB.out (Rs.late hC hl 11)
   clear hd
   go_simp
   refine (HCP.out _ hbel).mono ?_
   rintro e w2 ⟨⟨cc, rfl, hc2, hm2⟩, hb2⟩
   go_simp
   exact hK.out (a1.put (some _) _) _ ⟨Rs.Sl.free cS rfl rfl, St.hid (fun _ => bcall hbel hb2), St.hid (fun _ _ => ⟨cc, Rs.Sl.new cS, Nat.le_trans hbel.size hc2, hm2⟩), St.hid (fun h _ => Rs.no (Rs.late hC hl 10) h), St.hid (fun h => Rs.no (Rs.late hC hl 11) h), St.hid (fun h => Rs.no (Rs.late hC hl 14) h)⟩
  case o10 =>
   have h11 := Rs.late hC hl 11
   have hbel := cB.out h11
   obtain ⟨cc, q0, hc2, hm2⟩ := c9.out (Rs.dep hd 9) h11
   clear hd
   go_simp
   exact hK.out (a1.put (some _) _) _ ⟨Rs.Sl.free cS rfl rfl, St.hid (fun _ => bal hbel _), St.hid (fun _ _ => ⟨cc, (Rh.put_ne (by decide)).trans q0, hc2, hm2.below (bal (Below.refl _ _) _)⟩), St.hid (fun _ _ => ⟨cc, w1.heap.size, Rs.Sl.new cS, hc2, hm2.below (bal (Below.refl _ _) _), hbel.size, fun e => by have := hm2.lt; omega, rowIs5 w1 _ _ _ _ _ 73⟩), St.hid (fun h => Rs.no (h11) h), St.hid (fun h => Rs.no (Rs.late hC hl 14) h)⟩
  case o11 =>
   have q0 := Rs.Sl.at cS 4 (Rs.dep hd 4)
   have hbel := cB.out hl
   obtain ⟨cc, bs, q1, hc2, hm2, hbs, hne, hrow⟩ := c10.out (Rs.dep hd 10) hl
   obtain ⟨k0, k1, k2, k3, k4, -, -, -, -, -⟩ := Ws.rcells hrow
   have hgw := hrow.lt
   clear hd
   rw [if_pos (by rfl)]
   refine wp_append_at w1 (.tmp 168) (.tmp 174) 77 rfl 0 73 iw (.agg #[.map none, .int .i64 0, .int .i64 0, .int .i64 0, .int .i64 0]) 5 40 Tryz.underlying77 hiw hzw hsw hbw rfl (by decide) (.slice av m cv) m xs (by simpa [Act.eval] using q0) (owns_below HSV.out hbel) ⟨bs, 0, none⟩ 1 1 [.map (some cc), .int .i64 x.next, .int .i64 x.fall, .int .i64 x.wide, .int .i64 x.high] (by simpa [Act.eval] using q1) rfl ?d2 ?d3 ?d4 ?d5 (Nat.zero_le _) ?_
   case d2 =>
    intro j u hj
    match j, hj with
    | 0, hj => cases hj; exact k0
    | 1, hj => cases hj; exact k1
    | 2, hj => cases hj; exact k2
    | 3, hj => cases hj; exact k3
    | 4, hj => cases hj; exact k4
   case d3 => intro u hu; simp at hu; rcases hu with rfl | rfl | rfl | rfl | rfl <;> rfl
   case d4 => unfold maxLen; omega
   case d5 => omega
   intro v' w2 hown2 hg2 hat2
   obtain ⟨a', c', rfl⟩ := own_form hown2
   exact hK.out (a1.put (some _) _) _ ⟨Rs.Sl.free cS rfl rfl, St.hid (fun h => Rs.no h rfl), St.hid (fun _ h => Rs.no h rfl), St.hid (fun _ h => Rs.no h rfl), St.hid (fun _ _ => ⟨cc, a', c', Rs.Sl.new cS, ⟨w1, hbel, hg2⟩, hm2.kept hg2 (fun e => by have := (HVB.out _ e.symm).2; omega), hc2, hown2, hat2.imp (fun h => h) (fun h => ⟨_, h, hbel.size, fun e => by have := hm2.lt; omega⟩)⟩), St.hid (fun h => Rs.no (Rs.late hC hl 14) h)⟩
  case o14 =>
   have h11 := Rs.dep hd 11
   have q0 := Rs.Sl.at cS 13 (Rs.dep hd 13)
   obtain ⟨cc, a', c', q1, hap⟩ := c11.out h11 hl
   obtain ⟨Wm, hbm, hgm⟩ := hap.via
   obtain ⟨-, -, -, -, -, x5, x6⟩ := HSK.out _ hbm
   have hbk := hgm.block b (by have := hbm.size; omega) (fun e => (HVB.out _ e.symm).1 rfl)
   have x5' := (World.cell?_of_block (a := ⟨b, 5, none⟩) hbk).trans x5
   have x6' := (World.frozen?_of_block (a := ⟨b, 5, none⟩) hbk).trans x6
   have hb1 : b < w1.heap.size := by have := hbm.size; have := hgm.size; omega
   have HAP := St.hid hap
   clear hd e0 hap hbm hgm x5 x6 hbk
   go_simp
   exact hK.out _ _ ⟨Rs.Sl.skip cS rfl, St.hid (fun h => Rs.no h h11), St.hid (fun _ h => Rs.no h h11), St.hid (fun _ h => Rs.no h h11), St.hid (fun _ h => Rs.no h rfl), St.hid (fun _ => ⟨w1, cc, a', c', rfl, HAP.out⟩)⟩
  all_goals
   have z := Rs.Sl.deps cS hd
   clear hd
   repeat (obtain ⟨_, z⟩ := z)
   have y0 := Rs.Sl.old cS e0 rfl
   go_simp
   exact hK.out (a1.put (some _) _) _ ⟨Rs.Sl.put cS rfl rfl, cB, St.hid (fun h h' => by rw [Rh.put_ne (by decide)]; exact c9.out h h'), St.hid (fun h h' => by rw [Rh.put_ne (by decide)]; exact c10.out h h'), St.hid (fun h h' => by rw [Rh.put_ne (by decide)]; exact c11.out h h'), c14⟩
 case re =>
  intro Lf a1 w1 hI hall
  obtain ⟨cS, cB, c9, c10, c11, c14⟩ := hI
  obtain ⟨W, c2, a', c', rfl, hap⟩ := c14.out (hall 14 (by decide))
  rw [Rs.Sl.eq cS]
  exact H.out _ W c2 a' c' hap
end Rf
end Go.Proofs.YtckkkdldljhehacGreat
