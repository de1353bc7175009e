/- Part of the proofs of GamePlays and GameRuns (package ninepinslaw): contracts of the functions that they call. -/
import Derived.Test.YtckkkdldljhehacGreatPkH
import Derived.Test.YtckkkdldljhehacGreatPkI
import Derived.Test.YtckkkdldljhehacGreatPkO
import Derived.Test.YtckkkdldljhehacGreatPkZ1
namespace Go.Proofs.YtckkkdldljhehacGreat
namespace Ws
open Num St Mp Th Wd
open Go.ChangeShapes Go.WideShapes Go.ChangeAt Go.RowKit
noncomputable def reg19 : Code := ((Tryz.f51.body.bind (Rs.findR 19)).getD .skip)
attribute [local go_sem ↓] Go.wp_at_zero Go.wp_at_succ
set_option maxHeartbeats 16000000 in
set_option maxRecDepth 100000 in
theorem reg19_wp (Q : Exit → Act → World → Prop) (A : Act) (tab tbb : Nat) (ta tb : Th) (ra rb ma mb : R8) (ov : Bool) (wz : World)
  (e14 : A.tmps[14]?.getD undef = .func (.func 82) #[] #[]) (e12 : A.tmps[12]?.getD undef = .pointer (some ⟨tab, 0, none⟩)) (e13 : A.tmps[13]?.getD undef = .pointer (some ⟨tbb, 0, none⟩)) (hsz : 107 < A.tmps.size)
  (hfa : ∀ W, Calls Tryz.prog 82 #[.agg #[.int .i64 ta.m, .int .i64 ta.r.x, .int .i64 ta.r.y, .int .i64 ta.r.px, .int .i64 ta.r.py, .int .i64 ta.r.wd, .int .i64 ta.r.ht, .int .i64 ta.r.ms, .int .i64 ta.r.rr]] W fun e w' => e = .returned (.agg #[.int .i64 ra.x, .int .i64 ra.y, .int .i64 ra.px, .int .i64 ra.py, .int .i64 ra.wd, .int .i64 ra.ht, .int .i64 ra.ms, .int .i64 ra.rr]) ∧ Below W.heap.size W w')
  (hfb : ∀ W, Calls Tryz.prog 82 #[.agg #[.int .i64 tb.m, .int .i64 tb.r.x, .int .i64 tb.r.y, .int .i64 tb.r.px, .int .i64 tb.r.py, .int .i64 tb.r.wd, .int .i64 tb.r.ht, .int .i64 tb.r.ms, .int .i64 tb.r.rr]] W fun e w' => e = .returned (.agg #[.int .i64 rb.x, .int .i64 rb.y, .int .i64 rb.px, .int .i64 rb.py, .int .i64 rb.wd, .int .i64 rb.ht, .int .i64 rb.ms, .int .i64 rb.rr]) ∧ Below W.heap.size W w')
  (hme : ∀ W, Calls Tryz.prog 83 #[.agg #[.int .i64 ra.x, .int .i64 ra.y, .int .i64 ra.px, .int .i64 ra.py, .int .i64 ra.wd, .int .i64 ra.ht, .int .i64 ra.ms, .int .i64 ra.rr], .agg #[.int .i64 rb.x, .int .i64 rb.y, .int .i64 rb.px, .int .i64 rb.py, .int .i64 rb.wd, .int .i64 rb.ht, .int .i64 rb.ms, .int .i64 rb.rr]] W fun e w' => e = .returned (.tuple #[.agg #[.int .i64 ma.x, .int .i64 ma.y, .int .i64 ma.px, .int .i64 ma.py, .int .i64 ma.wd, .int .i64 ma.ht, .int .i64 ma.ms, .int .i64 ma.rr], .agg #[.int .i64 mb.x, .int .i64 mb.y, .int .i64 mb.px, .int .i64 mb.py, .int .i64 mb.wd, .int .i64 mb.ht, .int .i64 mb.ms, .int .i64 mb.rr], .bool ov]) ∧ Below W.heap.size W w')
  (hsk : ∀ W, Below wz.heap.size wz W → W.cell? ⟨tab, 0, none⟩ = some (.int .i64 ta.m) ∧ W.cell? ⟨tab, 1, none⟩ = some (.int .i64 ta.r.x) ∧ W.cell? ⟨tab, 2, none⟩ = some (.int .i64 ta.r.y) ∧ W.cell? ⟨tab, 3, none⟩ = some (.int .i64 ta.r.px) ∧ W.cell? ⟨tab, 4, none⟩ = some (.int .i64 ta.r.py) ∧ W.cell? ⟨tab, 5, none⟩ = some (.int .i64 ta.r.wd) ∧ W.cell? ⟨tab, 6, none⟩ = some (.int .i64 ta.r.ht) ∧ W.cell? ⟨tab, 7, none⟩ = some (.int .i64 ta.r.ms) ∧ W.cell? ⟨tab, 8, none⟩ = some (.int .i64 ta.r.rr) ∧ W.cell? ⟨tbb, 0, none⟩ = some (.int .i64 tb.m) ∧ W.cell? ⟨tbb, 1, none⟩ = some (.int .i64 tb.r.x) ∧ W.cell? ⟨tbb, 2, none⟩ = some (.int .i64 tb.r.y) ∧ W.cell? ⟨tbb, 3, none⟩ = some (.int .i64 tb.r.px) ∧ W.cell? ⟨tbb, 4, none⟩ = some (.int .i64 tb.r.py) ∧ W.cell? ⟨tbb, 5, none⟩ = some (.int .i64 tb.r.wd) ∧ W.cell? ⟨tbb, 6, none⟩ = some (.int .i64 tb.r.ht) ∧ W.cell? ⟨tbb, 7, none⟩ = some (.int .i64 tb.r.ms) ∧ W.cell? ⟨tbb, 8, none⟩ = some (.int .i64 tb.r.rr))
  (h : ∀ (f : Nat → Value) (b c : Nat) (W : World), f 15 = .pointer (some ⟨b, 0, none⟩) → f 16 = .pointer (some ⟨c, 0, none⟩) → f 17 = .bool ov → W.rowIs b 34 8 (fun i => (St.rowCells ma).getD i undef) → W.rowIs c 34 8 (fun i => (St.rowCells mb).getD i undef) → wz.heap.size ≤ b → wz.heap.size ≤ c → b ≠ c → Below wz.heap.size wz W → Q .normal (Rh.puts f [15, 16, 17, 97, 98, 99, 100, 101, 102, 103, 104, 105, 106, 107] A) W) :
  Code.wp Tryz.prog reg19 Q A wz := by
 have HFA := St.hid hfa
 have HFB := St.hid hfb
 have HME := St.hid hme
 have HSK := St.hid hsk
 have H := St.hid h
 clear hfa hfb hme hsk h
 conv => arg 2; whnf
 refine Rs.wp_region (by kernel_rfl) (fun Lf a1 w1 => Hid (Rs.Sl [15, 16, 17, 97, 98, 99, 100, 101, 102, 103, 104, 105, 106, 107] A [(0, 98, .func (.func 82) #[] #[]), (1, 99, .agg #[.int .i64 ta.m, .int .i64 ta.r.x, .int .i64 ta.r.y, .int .i64 ta.r.px, .int .i64 ta.r.py, .int .i64 ta.r.wd, .int .i64 ta.r.ht, .int .i64 ta.r.ms, .int .i64 ta.r.rr]), (2, 100, .agg #[.int .i64 ra.x, .int .i64 ra.y, .int .i64 ra.px, .int .i64 ra.py, .int .i64 ra.wd, .int .i64 ra.ht, .int .i64 ra.ms, .int .i64 ra.rr]), (3, 101, .func (.func 82) #[] #[]), (4, 102, .agg #[.int .i64 tb.m, .int .i64 tb.r.x, .int .i64 tb.r.y, .int .i64 tb.r.px, .int .i64 tb.r.py, .int .i64 tb.r.wd, .int .i64 tb.r.ht, .int .i64 tb.r.ms, .int .i64 tb.r.rr]), (5, 103, .agg #[.int .i64 rb.x, .int .i64 rb.y, .int .i64 rb.px, .int .i64 rb.py, .int .i64 rb.wd, .int .i64 rb.ht, .int .i64 rb.ms, .int .i64 rb.rr]), (6, 104, .tuple #[.agg #[.int .i64 ma.x, .int .i64 ma.y, .int .i64 ma.px, .int .i64 ma.py, .int .i64 ma.wd, .int .i64 ma.ht, .int .i64 ma.ms, .int .i64 ma.rr], .agg #[.int .i64 mb.x, .int .i64 mb.y, .int .i64 mb.px, .int .i64 mb.py, .int .i64 mb.wd, .int .i64 mb.ht, .int .i64 mb.ms, .int .i64 mb.rr], .bool ov]), (7, 97, .tuple #[.agg #[.int .i64 ma.x, .int .i64 ma.y, .int .i64 ma.px, .int .i64 ma.py, .int .i64 ma.wd, .int .i64 ma.ht, .int .i64 ma.ms, .int .i64 ma.rr], .agg #[.int .i64 mb.x, .int .i64 mb.y, .int .i64 mb.px, .int .i64 mb.py, .int .i64 mb.wd, .int .i64 mb.ht, .int .i64 mb.ms, .int .i64 mb.rr], .bool ov]), (8, 105, .agg #[.int .i64 ma.x, .int .i64 ma.y, .int .i64 ma.px, .int .i64 ma.py, .int .i64 ma.wd, .int .i64 ma.ht, .int .i64 ma.ms, .int .i64 ma.rr]), (9, 106, .agg #[.int .i64 mb.x, .int .i64 mb.y, .int .i64 mb.px, .int .i64 mb.py, .int .i64 mb.wd, .int .i64 mb.ht, .int .i64 mb.ms, .int .i64 mb.rr]), (10, 107, .bool ov), (15, 17, .bool ov)] Lf a1) ∧ Hid (Below wz.heap.size wz w1) ∧ Hid (Lf 11 = true → Al wz w1 (a1.tmps[15]?.getD undef) 34 8 (Lf 13) (fun i => (St.rowCells ma).getD i undef)) ∧ Hid (Lf 12 = true → Al wz w1 (a1.tmps[16]?.getD undef) 34 8 (Lf 14) (fun i => (St.rowCells mb).getD i undef)) ∧ Hid (Lf 11 = true → Lf 12 = true → a1.tmps[15]?.getD undef ≠ a1.tmps[16]?.getD undef)) (by kernel_rfl) ?rs ?rg ?re
 case rs => exact ⟨Rs.Sl.start hsz rfl, St.hid (Below.drew (Below.refl _ _)), St.hid (fun h => by cases h), St.hid (fun h => by cases h), St.hid (fun h => by cases h)⟩
 case rg =>
  intro Lf a1 w1 hI hC
  obtain ⟨cS, cB, cA, cD, cN⟩ := hI
  iterate 2 (refine ⟨fun hl hd K' hK => ?_, ?_⟩; rotate_left)
  refine ⟨fun hl hd K' hK => ?o2, ?_⟩
  rotate_left
  iterate 2 (refine ⟨fun hl hd K' hK => ?_, ?_⟩; rotate_left)
  refine ⟨fun hl hd K' hK => ?o5, ?_⟩
  rotate_left
  refine ⟨fun hl hd K' hK => ?o6, ?_⟩
  rotate_left
  iterate 4 (refine ⟨fun hl hd K' hK => ?_, ?_⟩; rotate_left)
  refine ⟨fun hl hd K' hK => ?o11, ?_⟩
  rotate_left
  refine ⟨fun hl hd K' hK => ?o12, ?_⟩
  rotate_left
  refine ⟨fun hl hd K' hK => ?o13, ?_⟩
  rotate_left
  refine ⟨fun hl hd K' hK => ?o14, ?_⟩
  rotate_left
  refine ⟨fun hl hd K' hK => ?_, ?_⟩
  rotate_left
  exact trivial
  case o2 =>
   have q0 := Rs.Sl.at cS 0 (Rs.dep hd 0)
   have q1 := Rs.Sl.at cS 1 (Rs.dep hd 1)
   clear hd
   go_simp
   refine (HFA.out _).mono ?_
   rintro e w2 ⟨rfl, hb⟩
   go_simp
   exact hK.out (a1.put (some _) _) _ ⟨Rs.Sl.put cS rfl rfl, St.hid (bcall cB.out hb), St.hid (fun h => by rw [Rh.put_ne (by decide)]; exact (cA.out h).below hb), St.hid (fun h => by rw [Rh.put_ne (by decide)]; exact (cD.out h).below hb), St.hid (fun h h' => by rw [Rh.put_ne (by decide), Rh.put_ne (by decide)]; exact cN.out h h')⟩
  case o5 =>
   have q0 := Rs.Sl.at cS 3 (Rs.dep hd 3)
   have q1 := Rs.Sl.at cS 4 (Rs.dep hd 4)
   clear hd
   go_simp
   refine (HFB.out _).mono ?_
   rintro e w2 ⟨rfl, hb⟩
   go_simp
   exact hK.out (a1.put (some _) _) _ ⟨Rs.Sl.put cS rfl rfl, St.hid (bcall cB.out hb), St.hid (fun h => by rw [Rh.put_ne (by decide)]; exact (cA.out h).below hb), St.hid (fun h => by rw [Rh.put_ne (by decide)]; exact (cD.out h).below hb), St.hid (fun h h' => by rw [Rh.put_ne (by decide), Rh.put_ne (by decide)]; exact cN.out h h')⟩
  case o6 =>
   have q0 := Rs.Sl.at cS 2 (Rs.dep hd 2)
   have q1 := Rs.Sl.at cS 5 (Rs.dep hd 5)
   clear hd
   go_simp
   refine (HME.out _).mono ?_
   rintro e w2 ⟨rfl, hb⟩
   go_simp
   exact hK.out (a1.put (some _) _) _ ⟨Rs.Sl.put cS rfl rfl, St.hid (bcall cB.out hb), St.hid (fun h => by rw [Rh.put_ne (by decide)]; exact (cA.out h).below hb), St.hid (fun h => by rw [Rh.put_ne (by decide)]; exact (cD.out h).below hb), St.hid (fun h h' => by rw [Rh.put_ne (by decide), Rh.put_ne (by decide)]; exact cN.out h h')⟩
  case o11 =>
   clear hd
   go_simp
   exact hK.out (a1.put (some _) _) _ ⟨Rs.Sl.free cS rfl rfl, St.hid (bal cB.out _), St.hid (fun _ => ⟨w1.heap.size, zf, Rs.Sl.new cS, cB.out.size, zrow w1 _ rfl, fun h => Rs.no (Rs.late hC hl 13) h⟩), St.hid (fun h => by rw [Rh.put_ne (by decide)]; exact (cD.out h).below (bal (Below.refl _ _) _)), St.hid (fun _ h => by rw [Rs.Sl.new cS, Rh.put_ne (by decide)]; exact (cD.out h).ne)⟩
  case o12 =>
   clear hd
   go_simp
   exact hK.out (a1.put (some _) _) _ ⟨Rs.Sl.free cS rfl rfl, St.hid (bal cB.out _), St.hid (fun h => by rw [Rh.put_ne (by decide)]; exact (cA.out h).below (bal (Below.refl _ _) _)), St.hid (fun _ => ⟨w1.heap.size, zf, Rs.Sl.new cS, cB.out.size, zrow w1 _ rfl, fun h => Rs.no (Rs.late hC hl 14) h⟩), St.hid (fun h _ => by rw [Rs.Sl.new cS, Rh.put_ne (by decide)]; exact (cA.out h).ne.symm)⟩
  case o13 =>
   have q1 := Rs.Sl.at cS 8 (Rs.dep hd 8)
   have H3 := St.hid (Rs.dep hd 11)
   obtain ⟨b3, f3, g3, l3, r3, -⟩ := cA.out H3.out
   obtain ⟨x0, x1, x2, x3, x4, x5, x6, x7, k0, k1, k2, k3, k4, k5, k6, k7⟩ := row8f r3
   have R3 := St.hid r3
   have L3 := St.hid l3
   clear r3 l3 hd e14 e12 e13
   go_simp
   exact hK.out _ _ ⟨Rs.Sl.skip cS rfl, St.hid (below8 cB.out L3.out), St.hid (fun _ => ⟨b3, _, g3, L3.out, row8 R3.out _, fun _ => rfl⟩), St.hid (fun h => by obtain ⟨b, f, e1, e2, e3, e4⟩ := cD.out h; exact ⟨b, f, e1, e2, other8 e3 (fun e => cN.out H3.out h (by rw [g3, e1, e])), e4⟩), cN⟩
  case o14 =>
   have q1 := Rs.Sl.at cS 9 (Rs.dep hd 9)
   have H3 := St.hid (Rs.dep hd 12)
   obtain ⟨b3, f3, g3, l3, r3, -⟩ := cD.out H3.out
   obtain ⟨x0, x1, x2, x3, x4, x5, x6, x7, k0, k1, k2, k3, k4, k5, k6, k7⟩ := row8f r3
   have R3 := St.hid r3
   have L3 := St.hid l3
   clear r3 l3 hd e14 e12 e13
   go_simp
   exact hK.out _ _ ⟨Rs.Sl.skip cS rfl, St.hid (below8 cB.out L3.out), St.hid (fun h => by obtain ⟨b, f, e1, e2, e3, e4⟩ := cA.out h; exact ⟨b, f, e1, e2, other8 e3 (fun e => cN.out h H3.out (by rw [g3, e1, e])), e4⟩), St.hid (fun _ => ⟨b3, _, g3, L3.out, row8 R3.out _, fun _ => rfl⟩), cN⟩
  all_goals
   have z := Rs.Sl.deps cS hd
   clear hd
   repeat (obtain ⟨_, z⟩ := z)
   have y14 := Rs.Sl.old cS e14 rfl
   have y12 := Rs.Sl.old cS e12 rfl
   have y13 := Rs.Sl.old cS e13 rfl
   obtain ⟨z0, z1, z2, z3, z4, z5, z6, z7, z8, y0, y1, y2, y3, y4, y5, y6, y7, y8⟩ := HSK.out _ cB.out
   go_simp
   exact hK.out (a1.put (some _) _) _ ⟨Rs.Sl.put cS rfl rfl, cB, St.hid (fun h => by rw [Rh.put_ne (by decide)]; exact cA.out h), St.hid (fun h => by rw [Rh.put_ne (by decide)]; exact cD.out h), St.hid (fun h h' => by rw [Rh.put_ne (by decide), Rh.put_ne (by decide)]; exact cN.out h h')⟩
 case re =>
  intro Lf a1 w1 hI hall
  obtain ⟨cS, cB, cA, cD, cN⟩ := hI
  obtain ⟨b3, f3, g3, l3, r3, p3⟩ := cA.out (hall 11 (by decide))
  obtain ⟨b4, f4, g4, l4, r4, p4⟩ := cD.out (hall 12 (by decide))
  obtain rfl := p3 (hall 13 (by decide))
  obtain rfl := p4 (hall 14 (by decide))
  rw [Rs.Sl.eq cS]
  exact H.out _ b3 b4 w1 g3 g4 (Rs.Sl.at cS 15 (hall 15 (by decide))) r3 r4 l3 l4 (fun e => cN.out (hall 11 (by decide)) (hall 12 (by decide)) (by rw [g3, g4, e])) cB.out
end Ws
namespace Ws
open Num St Mp Th Wd
open Go.ChangeShapes Go.WideShapes Go.ChangeAt Go.RowKit
set_option maxHeartbeats 2000000 in
set_option maxRecDepth 100000 in
theorem boxesOf_any {L : List Tab} {g : Int → R8} {w : World} (b : Nat) (next fall wide high : Int) {nx : Int} (h : Mp w b (thM (withRows L g))) (hg : GoodL nx L) (hr : RowsOk L g) :
  Calls Tryz.prog 53 #[.agg #[.map (some b), .int .i64 next, .int .i64 fall, .int .i64 wide, .int .i64 high]] w fun e w' =>
   (∃ u, e = .returned u ∧ w'.ownsRow w.heap.size 36 5 u (boxG L g).length ((boxG L g).flatMap Sw.boxCells)) ∧ Below w.heap.size w w' := by
 obtain ⟨i70, hi70, hz70, hs70, hb70⟩ := info_parts Sw.info70
 have HMP := St.hid h
 have HGL := St.hid hg
 have HRO := St.hid hr
 have hbz := h.lt
 have hlen : (thM (withRows L g)).length ≤ 1000000 := by rw [th_len hg]; have := ks_len hg; omega
 have HH := St.hid (having_any b (thM (withRows L g)) 5 _ (h.below (bal (Below.refl _ w) (.cells #[.map (some b), .int .i64 next, .int .i64 fall, .int .i64 wide, .int .i64 high] 73))) hlen)
 rw [ids_hav hg] at HH
 have hX0 := St.hid (rowIs5 w (.map (some b)) next fall wide high 73)
 have hfr := fieldR
 clear h hg hr hlen
 go_enter Tryz.func53, Tryz.ntmps53
 go_wp2_with fail
 refine HH.out.mono ?_
 rintro e w1 ⟨⟨ui, rfl, hid1⟩, hb1⟩
 obtain ⟨N, hN⟩ : ∃ N, N = (idsOf 5 L).length := ⟨_, rfl⟩
 have hN10 : N ≤ 10 := by rw [hN]; exact ids_len HGL.out
 rw [← hN] at hid1
 simp only [World.size_alloc] at hid1
 obtain ⟨ai, ci, rfl, -⟩ := Sw.owns_slice hid1
 have hX1 := St.hid (rowIs_below hX0.out hb1)
 have HM1 := St.hid ((HMP.out.below (bal (Below.refl _ w) _)).below hb1)
 have HB1 := St.hid (bcall (bal (Below.refl _ w) _) hb1)
 have HI1 := St.hid hid1
 have HN := St.hid hN
 have hz1 := hb1.size
 simp only [World.size_alloc] at hz1
 clear hb1 hid1 hN
 go_wp2_with fail
 go_loopw [3, 11] (fun u i wr => ∃ k : Nat, k ≤ N ∧ i = .int .i64 k ∧ Hid (wr.rowIs w.heap.size 73 5 (wcell (.map (some b)) next fall wide high)) ∧ Hid (wr.ownsRow (w.heap.size + 1) 3 1 (.slice ai N ci) N ((idsOf 5 L).map (Value.int .i64))) ∧
  Hid (wr.ownsRow (w.heap.size + 1) 36 5 u k (((boxG L g).take k).flatMap Sw.boxCells)) ∧ Hid (Mp wr b (thM (withRows L g))) ∧ Hid (Below w.heap.size w wr) ∧ Hid (w.heap.size + 1 ≤ wr.heap.size)) (fun _ i _ => N - (intOf i).toNat)
 case atStart => exact ⟨0, Nat.zero_le _, rfl, hX1.out, HI1.out, World.ownsRow_nil _ _ _ _, HM1.out, HB1.out, St.hid (by omega)⟩
 case round =>
  obtain ⟨k, hk, rfl, hX, hI, hO, hS, hB, hz⟩ := hrel
  obtain ⟨x0, x1, x2, x3, x4, -, -, -, -, -⟩ := rcells hX.out
  have hzz := hz.out
  by_cases hlt : k < N
  ·obtain ⟨idk, hidk⟩ : ∃ x, (idsOf 5 L)[k]? = some x := ⟨_, List.getElem?_eq_getElem (by have := HN.out; omega)⟩
   have hmem : idk ∈ allL L := ids_all HGL.out (List.mem_of_getElem? hidk)
   obtain ⟨q0, h2⟩ := at_all HGL.out.even HGL.out.2.2.2.2.2 hmem
   have hgm := get_with HGL.out.even HGL.out.2.2.2.2.2 g hmem
   have hqb := HRO.out idk _ q0 h2
   obtain ⟨t, HT⟩ : ∃ t : Th, Hid (t = ⟨mk L idk, g idk⟩) := ⟨_, rfl⟩
   rw [← HT.out] at hgm
   have hqt : g idk = t.r := by rw [HT.out]
   rw [hqt] at hqb
   have hlk := hS.out.look (hS.out.wf hgm)
   rw [hgm] at hlk
   simp only [Option.getD_some, thV] at hlk
   obtain ⟨b1, b2, b3, b4, b5, b6, b7, b8⟩ := row_bounds hqb
   obtain ⟨gi, cc, hai⟩ := own_some hI.out (by omega)
   simp only [Value.slice.injEq] at hai
   obtain ⟨rfl, -, rfl⟩ := hai
   have i0 : wr.cell? ⟨gi, k, none⟩ = some (.int .i64 idk) := by rw [hI.out.cellAt k (by omega), List.getElem?_map, hidk]; rfl
   have HBT : Hid ((boxG L g).take (k + 1) = (boxG L g).take k ++ [⟨idk, t.r.x - t.r.wd, t.r.y - t.r.ht, t.r.x + t.r.wd, t.r.y + t.r.ht⟩]) := St.hid (by
    rw [show boxG L g = (idsOf 5 L).map (boxOf g) from rfl, take_map _ _ _ _ hidk, ← hqt]
    rfl)
   have hlt' : (k : Int) < (N : Int) := by omega
   have HZB := St.hid hS.out.lt
   clear h2 hqb hmem hidk hgm hqt
   go_wp2_with (at_builtin; refine wpList_append_own _ rfl _ _ 48 rfl (w.heap.size + 1) 36 i70 (.agg #[.int .i64 0, .int .i64 0, .int .i64 0, .int .i64 0, .int .i64 0]) 5 40 Tryz.underlying48 hi70 hz70 hs70 hb70 rfl (by decide) _ _ _ rfl ((hO.out.alloc _).alloc _) ⟨wr.heap.size + 1, 0, none⟩ 1 1 [.int .i64 idk, .int .i64 (t.r.x - t.r.wd), .int .i64 (t.r.y - t.r.ht), .int .i64 (t.r.x + t.r.wd), .int .i64 (t.r.y + t.r.ht)] rfl ?c1 ?c2 ?c3 ?c4 ?c5 ?c6 ?_)
   case c1 => rfl
   case c2 =>
    intro j u hj
    match j, hj with
    | 0, hj => cases hj; simp [Addr.add]
    | 1, hj => cases hj; simp [Addr.add]
    | 2, hj => cases hj; simp [Addr.add]
    | 3, hj => cases hj; simp [Addr.add]
    | 4, hj => cases hj; simp [Addr.add]
   case c3 => intro u hu; simp at hu; rcases hu with rfl | rfl | rfl | rfl | rfl <;> rfl
   case c4 => unfold maxLen; omega
   case c5 => omega
   case c6 => simp; omega
   intro v' w5 hown5 hg5 _
   have HO5 := St.hid hown5
   have HG5 := St.hid hg5
   clear hown5 hg5
   go_wp2_with fail
   go_roundw
   case rel =>
    have hlo := fun z e => (hO.out.lt z e).1
    refine ⟨k + 1, by omega, by go_num, ?_, ?_, ?_, ?_, ?_, ?_⟩
    ·exact rowIs_grown ((hX.out.alloc _).alloc _) HG5.out (fun e => by have := hlo _ e; omega)
    ·exact Sw.owns_kept ((hI.out.alloc _).alloc _) HG5.out (Sw.apart_kind hI.out hO.out (by decide))
    ·have h5 := HO5.out
     rw [HBT.out, List.flatMap_append]
     exact h5
    ·have h5 := hS.out.below (bal (bal (Below.refl _ wr) (.cells #[.int .i64 t.r.x, .int .i64 t.r.y, .int .i64 t.r.px, .int .i64 t.r.py, .int .i64 t.r.wd, .int .i64 t.r.ht, .int .i64 t.r.ms, .int .i64 t.r.rr] 34)) (.cells #[.int .i64 idk, .int .i64 (t.r.x - t.r.wd), .int .i64 (t.r.y - t.r.ht), .int .i64 (t.r.x + t.r.wd), .int .i64 (t.r.y + t.r.ht)] 36))
     exact h5.kept HG5.out (fun e => by have h1 := hlo b e.symm; omega)
    ·exact (bal (bal hB.out _) _).grown HG5.out (by simp; omega) (fun z e => by have := hlo z e; omega)
    ·have := HG5.out.size
     simp at this
     exact St.hid (by omega)
   case measure => simp [intOf]; omega
  ·have hke : k = N := by omega
   subst hke
   go_wp2_with fail
   go_ret
   refine ⟨⟨_, rfl, ?_⟩, hB.out⟩
   have hl : (boxG L g).length = k := by have := HN.out; simp [boxG]; omega
   have h1 := hO.out
   rw [List.take_of_length_le (by omega)] at h1
   rw [hl]
   exact owns_mono h1 (by omega)
end Ws
end Go.Proofs.YtckkkdldljhehacGreat
