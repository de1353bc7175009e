/- Part of the proofs of GamePlays and GameRuns (package ninepinslaw): contracts of the functions that they call. -/
import Derived.Test.YtckkkdldljhehacGreatPkR
import Derived.Test.YtckkkdldljhehacGreatPkZ1
import Derived.Test.YtckkkdldljhehacGreatPkX1
namespace Go.Proofs.YtckkkdldljhehacGreat
namespace Ws
open Num St Mp Th Wd
open Go.ChangeShapes Go.WideShapes Go.ChangeAt Go.RowKit
noncomputable def wreg2 : Code := ((Tryz.f28.body.bind (Rs.findR 2)).getD .skip)
attribute [local go_sem ↓] Go.wp_at_zero Go.wp_at_succ
set_option maxHeartbeats 16000000 in
set_option maxRecDepth 100000 in
theorem wreg (Q : Exit → Act → World → Prop) (A : Act) (wb rb : Nat) (mv : Option Nat) (next fall wide high : Int) (wz : World) (fr : Nat → Value) (ok bf bw bh : Bool)
  (e1 : A.tmps[1]?.getD undef = .pointer (some ⟨wb, 0, none⟩)) (e2 : A.tmps[2]?.getD undef = .pointer (some ⟨rb, 0, none⟩)) (e4 : A.tmps[4]?.getD undef = .map mv) (e5 : A.tmps[5]?.getD undef = .bool ok) (hsz : 38 < A.tmps.size) (hbf : btw fall (-64) 64 = bf) (hbw : btw wide 1 1048576 = bw) (hbh : btw high 1 1048576 = bh)
  (hsk : ∀ W, wz.grownBy W (some rb) → W.cell? ⟨wb, 1, none⟩ = some (.int .i64 next) ∧ W.cell? ⟨wb, 2, none⟩ = some (.int .i64 fall) ∧ W.cell? ⟨wb, 3, none⟩ = some (.int .i64 wide) ∧ W.cell? ⟨wb, 4, none⟩ = some (.int .i64 high))
  (hrb : wz.rowIs rb 73 5 fr)
  (h : ∀ (f : Nat → Value) (W : World), f 3 = .bool (ok && (bf && (bw && bh))) → wz.grownBy W (some rb) → W.rowIs rb 73 5 (wcell (.map mv) next fall wide high) → Q .normal (Rh.puts f [3, 12, 13, 14, 15, 16, 17, 18, 19, 20, 21, 22, 23, 24, 25, 26, 27, 28, 29, 30, 31, 32, 33, 34, 35, 36, 37, 38] A) W) :
  Code.wp Tryz.prog wreg2 Q A wz := by
 have HSK := St.hid hsk
 have HRB := St.hid hrb
 have H := St.hid h
 clear hsk h hrb
 conv => arg 2; whnf
 obtain ⟨V, hV⟩ : ∃ V : List (Nat × Nat × Value), V = [(0, 12, .map mv), (1, 13, .pointer (some ⟨wb, 0, none⟩)), (2, 14, .pointer (some ⟨wb, 1, none⟩)), (3, 15, .int .i64 next), (4, 16, .pointer (some ⟨wb, 2, none⟩)), (5, 17, .int .i64 fall), (6, 18, .pointer (some ⟨wb, 3, none⟩)), (7, 19, .int .i64 wide), (8, 20, .pointer (some ⟨wb, 4, none⟩)), (9, 21, .int .i64 high), (10, 22, .agg #[.map mv, .int .i64 next, .int .i64 fall, .int .i64 wide, .int .i64 high]), (11, 23, .bool (ok)), (12, 24, .bool (ok)), (13, 25, bif ok then .pointer (some ⟨wb, 2, none⟩) else undef), (14, 26, bif ok then .int .i64 fall else undef), (15, 27, bif ok then .bool bf else undef), (16, 28, .bool (ok && bf)), (17, 29, .bool (ok && bf)), (18, 30, bif ok && bf then .pointer (some ⟨wb, 3, none⟩) else undef), (19, 31, bif ok && bf then .int .i64 wide else undef), (20, 32, bif ok && bf then .bool bw else undef), (21, 33, .bool (ok && (bf && bw))), (22, 34, .bool (ok && (bf && bw))), (23, 35, bif ok && (bf && bw) then .pointer (some ⟨wb, 4, none⟩) else undef), (24, 36, bif ok && (bf && bw) then .int .i64 high else undef), (25, 37, bif ok && (bf && bw) then .bool bh else undef), (26, 38, .bool (ok && (bf && (bw && bh)))), (28, 3, .bool (ok && (bf && (bw && bh))))] := ⟨_, rfl⟩
 have hc : ok = false ∨ (ok = true ∧ bf = false) ∨ (ok = true ∧ bf = true ∧ bw = false) ∨ (ok = true ∧ bf = true ∧ bw = true) := by cases ok <;> cases bf <;> cases bw <;> decide
 rcases hc with rfl | ⟨rfl, rfl⟩ | ⟨rfl, rfl, rfl⟩ | ⟨rfl, rfl, rfl⟩
 all_goals
  simp only [Bool.true_and, Bool.false_and, cond_true, cond_false] at hV
  refine Rs.wp_region (by kernel_rfl) (fun Lf a1 w1 => Hid (Rs.Sl [3, 12, 13, 14, 15, 16, 17, 18, 19, 20, 21, 22, 23, 24, 25, 26, 27, 28, 29, 30, 31, 32, 33, 34, 35, 36, 37, 38] A V Lf a1) ∧ Hid (wz.grownBy w1 (some rb)) ∧ Hid (∃ f, w1.rowIs rb 73 5 f ∧ (Lf 27 = true → f = wcell (.map mv) next fall wide high))) (by kernel_rfl) ?rs ?rg ?re
  all_goals subst hV
  case rs => exact ⟨Rs.Sl.start hsz rfl, St.hid (grown_drew (grown_refl _ _)), St.hid ⟨fr, HRB.out.of_block rfl, fun h => by cases h⟩⟩
  case rg =>
   intro Lf a1 w1 hI hC
   obtain ⟨cS, cB, cE⟩ := hI
   iterate 27 (refine ⟨fun hl hd K' hK => ?_, ?_⟩; rotate_left)
   refine ⟨fun hl hd K' hK => ?o27, ?_⟩
   rotate_left
   refine ⟨fun hl hd K' hK => ?_, ?_⟩
   rotate_left
   exact trivial
   case o27 =>
    have q0 := Rs.Sl.at cS 10 (Rs.dep hd 10)
    obtain ⟨f9, hrb, -⟩ := cE.out
    have HRB9 := St.hid hrb
    have q9 := Rs.Sl.old cS e2 rfl
    obtain ⟨x0, x1, x2, x3, x4, k0, k1, k2, k3, k4⟩ := row5f hrb
    clear hrb e1 e2 e4 e5 hd hbf hbw hbh
    go_simp
    exact hK.out _ _ ⟨Rs.Sl.skip cS rfl, St.hid (cB.out.trans (grown5 _ _ _ _ _ _ _)), St.hid ⟨_, row5 HRB9.out _ _ _ _ _, fun _ => rfl⟩⟩
   all_goals
    have z := Rs.Sl.deps cS hd
    clear hd
    repeat (obtain ⟨_, z⟩ := z)
    have y1 := Rs.Sl.old cS e1 rfl
    have y4 := Rs.Sl.old cS e4 rfl
    have y5 := Rs.Sl.old cS e5 rfl
    obtain ⟨x1, x2, x3, x4⟩ := HSK.out _ cB.out
    go_simp
    first
     | exact hK.out (a1.put (some _) _) _ ⟨Rs.Sl.put cS rfl rfl, cB, cE⟩
     | (refine (Th.within_any _ _ _ _).mono ?_; rintro e w2 ⟨rfl, hw2⟩; subst hw2; go_simp; exact hK.out (a1.put (some _) _) _ ⟨Rs.Sl.put cS rfl rfl, cB, cE⟩)
  case re =>
   intro Lf a1 w1 hI hall
   obtain ⟨cS, cB, cE⟩ := hI
   obtain ⟨f9, h9, h8⟩ := cE.out
   obtain rfl := h8 (hall 27 (by decide))
   rw [Rs.Sl.eq cS]
   exact H.out _ w1 (Rs.Sl.at cS 28 (hall 28 (by decide))) cB.out h9
set_option maxHeartbeats 16000000 in
set_option maxRecDepth 100000 in
theorem worldOf_any {F : Nat → Prop} {v : Value} {L : List Tab} {w : World} (next fall wide high : Int) (h : Sto w F v L) :
  Calls Tryz.prog 28 #[.agg #[v, .int .i64 next, .int .i64 fall, .int .i64 wide, .int .i64 high]] w fun e w' =>
   ((GoodWd next fall wide high L ∧ ∃ b, e = .returned (.tuple #[.agg #[.map (some b), .int .i64 next, .int .i64 fall, .int .i64 wide, .int .i64 high], .bool true]) ∧ w.heap.size ≤ b ∧ Mp w' b (thM L)) ∨
    (¬ GoodWd next fall wide high L ∧ ∃ u, e = .returned (.tuple #[.agg #[.map u, .int .i64 next, .int .i64 fall, .int .i64 wide, .int .i64 high], .bool false]))) ∧ Below w.heap.size w w' := by
 obtain ⟨a, n, cap, T, I, R, rfl, hin, rfl⟩ := (h.below (bal (bal (Below.refl _ w) (.cells #[v, .int .i64 next, .int .i64 fall, .int .i64 wide, .int .i64 high] 45)) (.cells #[.map none, .int .i64 0, .int .i64 0, .int .i64 0, .int .i64 0] 73))).in_
 have HT := St.hid (thingsOf_any a n cap next T I R _ hin)
 have hW0 := St.hid ((rowIs5 w (.slice a n cap) next fall wide high 45).alloc (.cells #[.map none, .int .i64 0, .int .i64 0, .int .i64 0, .int .i64 0] 73))
 have hR0 := St.hid (rowIs5 (w.alloc (.cells #[.slice a n cap, .int .i64 next, .int .i64 fall, .int .i64 wide, .int .i64 high] 45)) (.map none) 0 0 0 0 73)
 rw [World.size_alloc] at hR0
 clear h hin
 go_enter Tryz.func28, Tryz.ntmps28
 go_wp2_with fail
 refine HT.out.mono ?_
 rintro e w1 ⟨hr, hb1⟩
 have hW1 := St.hid (rowIs_below hW0.out hb1)
 have hR1 := St.hid (rowIs_below hR0.out hb1)
 have HB1 := St.hid (bcall (bal (bal (Below.refl _ w) _) _) hb1)
 have hz1 := hb1.size
 simp only [World.size_alloc] at hz1 hr
 have hzw : w.heap.size < w1.heap.size := by omega
 have hzw1 : w.heap.size + 1 < w1.heap.size := by omega
 have HSK : Hid (∀ W, w1.grownBy W (some (w.heap.size + 1)) → W.cell? ⟨w.heap.size, 1, none⟩ = some (.int .i64 next) ∧ W.cell? ⟨w.heap.size, 2, none⟩ = some (.int .i64 fall) ∧ W.cell? ⟨w.heap.size, 3, none⟩ = some (.int .i64 wide) ∧ W.cell? ⟨w.heap.size, 4, none⟩ = some (.int .i64 high)) := St.hid (fun W hb => by
  obtain ⟨x0, x1, x2, x3, x4, -, -, -, -, -⟩ := wcells (rowIs_grown hW1.out hb (by simp))
  exact ⟨x1, x2, x3, x4⟩)
 clear hb1
 obtain ⟨mv, ok, rfl, HH⟩ : ∃ mv ok, e = .returned (.tuple #[.map mv, .bool ok]) ∧ Hid ((ok = true ∧ GoodL next (plainOf T I R n) ∧ ∃ b, mv = some b ∧ w.heap.size + 1 < b ∧ Mp w1 b (thM (plainOf T I R n))) ∨ (ok = false ∧ ¬ GoodL next (plainOf T I R n))) := by
  rcases hr with ⟨hg, b, rfl, hbs, hmp⟩ | ⟨hg, u, rfl⟩
  ·exact ⟨_, _, rfl, Or.inl ⟨rfl, hg, b, rfl, by omega, hmp⟩⟩
  ·exact ⟨_, _, rfl, Or.inr ⟨rfl, hg⟩⟩
 clear hr
 obtain ⟨bf, hbf⟩ : ∃ x, btw fall (-64) 64 = x := ⟨_, rfl⟩
 obtain ⟨bw, hbw⟩ : ∃ x, btw wide 1 1048576 = x := ⟨_, rfl⟩
 obtain ⟨bh, hbh⟩ : ∃ x, btw high 1 1048576 = x := ⟨_, rfl⟩
 have HBF := St.hid hbf
 have HBW := St.hid hbw
 have HBH := St.hid hbh
 clear hbf hbw hbh
 go_upto_region 2 with fail
 refine Rh.wp_act ?_
 intro A hA
 refine wreg _ A w.heap.size (w.heap.size + 1) mv next fall wide high w1 _ ok bf bw bh (by rw [hA]; rfl) (by rw [hA]; rfl) (by rw [hA]; rfl) (by rw [hA]; rfl) (by rw [hA]; exact Nat.le_of_ble_eq_true rfl) HBF.out HBW.out HBH.out HSK.out hR1.out ?_
 intro f W hfv hgr hy
 subst hA
 have HMW := St.hid hgr
 obtain ⟨y0, y1, y2, y3, y4, yf0, yf1, yf2, yf3, yf4⟩ := rcells hy
 have hyl := hy.lt
 generalize hR : (ok && (bf && (bw && bh))) = r at hfv
 have HR := St.hid hR
 clear hR
 simp only [Rh.puts, Act.put, hfv]
 go_simp
 go_wp2_with fail
 refine bodyPost_ret (v := .tuple #[.agg #[.map mv, .int .i64 next, .int .i64 fall, .int .i64 wide, .int .i64 high], .bool r]) (by simp [results, Tryz.results28, go_sem, y0, y1, y2, y3, y4]) rfl ⟨?_, below_grown HB1.out HMW.out (by omega) (by omega)⟩
 have hf := HBF.out
 have hwd := HBW.out
 have hh := HBH.out
 have hR := HR.out
 cases r
 ·refine Or.inr ⟨fun hc => ?_, _, rfl⟩
  obtain ⟨hg, h1, h2, h3⟩ := hc
  rcases HH.out with ⟨rfl, -⟩ | ⟨-, hn⟩
  ·have : bf = true ∧ bw = true ∧ bh = true := by
    rw [← hf, ← hwd, ← hh]
    simp [btw]
    omega
   obtain ⟨rfl, rfl, rfl⟩ := this
   cases hR
  ·exact hn hg
 ·simp only [Bool.and_eq_true] at hR
  obtain ⟨rfl, rfl, rfl, rfl⟩ := hR
  rcases HH.out with ⟨-, hg, b, rfl, hbs, hmp⟩ | ⟨h, -⟩
  ·exact Or.inl ⟨⟨hg, by simpa [btw] using hf, by simpa [btw] using hwd, by simpa [btw] using hh⟩, b, rfl, by omega, hmp.kept HMW.out (fun e => by have := Option.some.inj e; omega)⟩
  ·cases h
set_option maxHeartbeats 1000000 in
set_option maxRecDepth 100000 in
theorem sameWorld_any (b c : Nat) (l : Mth) (next fall wide high : Int) (w : World) (h : Mp w b l) (h' : Mp w c l) :
  Calls Tryz.prog 29 #[.agg #[.map (some b), .int .i64 next, .int .i64 fall, .int .i64 wide, .int .i64 high], .agg #[.map (some c), .int .i64 next, .int .i64 fall, .int .i64 wide, .int .i64 high]] w fun e w' => e = .returned (.bool true) ∧ Below w.heap.size w w' := by
 have HST := St.hid (sameThings_any b c l l _ (h.below (bal (bal (Below.refl _ w) (.cells #[.map (some b), .int .i64 next, .int .i64 fall, .int .i64 wide, .int .i64 high] 73)) (.cells #[.map (some c), .int .i64 next, .int .i64 fall, .int .i64 wide, .int .i64 high] 73))) (h'.below (bal (bal (Below.refl _ w) (.cells #[.map (some b), .int .i64 next, .int .i64 fall, .int .i64 wide, .int .i64 high] 73)) (.cells #[.map (some c), .int .i64 next, .int .i64 fall, .int .i64 wide, .int .i64 high] 73))))
 have hW0 := St.hid ((rowIs5 w (.map (some b)) next fall wide high 73).alloc (.cells #[.map (some c), .int .i64 next, .int .i64 fall, .int .i64 wide, .int .i64 high] 73))
 have hR0 := St.hid (rowIs5 (w.alloc (.cells #[.map (some b), .int .i64 next, .int .i64 fall, .int .i64 wide, .int .i64 high] 73)) (.map (some c)) next fall wide high 73)
 rw [World.size_alloc] at hR0
 clear h h'
 go_enter Tryz.func29, Tryz.ntmps29
 go_wp2_with fail
 refine HST.out.mono ?_
 rintro e w1 ⟨⟨g, rfl, hg⟩, hb1⟩
 obtain rfl : g = true := by simpa using hg
 have hW1 := St.hid (rowIs_below hW0.out hb1)
 have hR1 := St.hid (rowIs_below hR0.out hb1)
 have HB1 := St.hid (bcall (bal (bal (Below.refl _ w) _) _) hb1)
 clear hb1 hg
 obtain ⟨x0, x1, x2, x3, x4, -, -, -, -, -⟩ := rcells hW1.out
 obtain ⟨y0, y1, y2, y3, y4, -, -, -, -, -⟩ := rcells hR1.out
 go_wp2_with fail
 go_ret
 exact ⟨by simp, HB1.out⟩
end Ws
end Go.Proofs.YtckkkdldljhehacGreat
