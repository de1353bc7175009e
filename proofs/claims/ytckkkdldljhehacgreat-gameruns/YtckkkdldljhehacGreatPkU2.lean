/- Part of the proofs of GamePlays and GameRuns (package ninepinslaw): contracts of the functions that they call. -/
import Derived.Deep.RegionWith
import Derived.Test.YtckkkdldljhehacGreatPkU1
namespace Go.Proofs.YtckkkdldljhehacGreat
namespace Gm
open Num St Wd
open Go.ChangeShapes Go.WideShapes Go.ChangeAt Go.RowKit
theorem kickRow {W : World} {g : Nat} {q r : R8} (h : W.rowIs g 34 8 (fun i => (rowCells q).getD i undef)) : ((W.setCell ⟨g, 2, none⟩ (.int .i64 (ad q.px r.px 16777216))).setCell ⟨g, 3, none⟩ (.int .i64 (ad q.py r.py 16777216))).rowIs g 34 8 (fun i => (rowCells (kickR q r)).getD i undef) := by
 refine ((h.set 2 _).set 3 _).congr (fun i hi => ?_)
 match i, hi with
 | 0, _ => rfl
 | 1, _ => rfl
 | 2, _ => rfl
 | 3, _ => rfl
 | 4, _ => rfl
 | 5, _ => rfl
 | 6, _ => rfl
 | 7, _ => rfl
attribute [local go_sem ↓] Go.wp_at_zero Go.wp_at_succ
set_option maxHeartbeats 4000000 in
set_option maxRecDepth 100000 in
theorem kick_any {F : Nat → Prop} {b : Nat} {s : Gp} {w : World} (hG : Gam w F b s) (hg : GoodG s) (id : Int) (r : R8) :
  Calls Tryz.prog 36 #[.pointer (some ⟨b, 0, none⟩), .int .i64 id, .agg #[.int .i64 r.x, .int .i64 r.y, .int .i64 r.px, .int .i64 r.py, .int .i64 r.wd, .int .i64 r.ht, .int .i64 r.ms, .int .i64 r.rr]] w
   (Post w F b { s with now := (kickW s.now id r).1 } (kickW s.now id r).2.code (kickW s.now id r).2.n) := by
 have HGM := St.hid hG
 have hg := St.hid hg
 obtain ⟨v, vs, sv, Fs, hG⟩ := hG
 have hbz := hG.lt b hG.own
 have HG := St.hid hG
 obtain ⟨a, n, c, rfl⟩ := hG.now.one
 obtain ⟨x0, x1, -, -, -, -, -⟩ := gcells hG.row
 clear hG
 by_cases hm : id ∈ allL s.now.L
 ·have hat := at_of_mem hg.out.now.l hm
  by_cases h2 : hasB (mk s.now.L id) 2 = true
  ·have e : kickW s.now id r = setW s.now id (kickR (rw0 s.now.L id) r) := by unfold kickW; rw [if_pos hm, if_neg (by simp [h2])]
   rw [e]
   unfold setW no
   have HST : Hid ((setS s.now.L id (kickR (rw0 s.now.L id) r)).2 ≠ 0 → ({ s with now := { s.now with L := (setS s.now.L id (kickR (rw0 s.now.L id) r)).1 } } : Gp) = s) := St.hid (fun hne => by
    unfold setS at *
    split at hne
    ·split at hne
     ·simp at hne
     ·rename_i h h'; rw [if_pos h, if_neg h']
    ·rename_i h; rw [if_neg h])
   have HCH : Hid (∀ W', Below w.heap.size w W' → Calls Tryz.prog 67 #[.agg #[.slice a n c, .int .i64 s.now.next], .int .i64 id, .agg #[.int .i64 (kickR (rw0 s.now.L id) r).x, .int .i64 (kickR (rw0 s.now.L id) r).y, .int .i64 (kickR (rw0 s.now.L id) r).px, .int .i64 (kickR (rw0 s.now.L id) r).py, .int .i64 (kickR (rw0 s.now.L id) r).wd, .int .i64 (kickR (rw0 s.now.L id) r).ht, .int .i64 (kickR (rw0 s.now.L id) r).ms, .int .i64 (kickR (rw0 s.now.L id) r).rr]] W' fun e w' =>
      (∃ a n c, e = .returned (.tuple #[.agg #[.slice a n c, .int .i64 s.now.next], .int .i64 (setS s.now.L id (kickR (rw0 s.now.L id) r)).2]) ∧ ∃ F', Sto w' F' (.slice a n c) (setS s.now.L id (kickR (rw0 s.now.L id) r)).1 ∧ ∀ b, F' b → W'.heap.size ≤ b) ∧ Below W'.heap.size W' w') :=
    St.hid (fun W' hb => (HG.out.now.below hb).set' s.now.next hg.out.now.l id _)
   simp only []
   generalize (setS s.now.L id (kickR (rw0 s.now.L id) r)).1 = L' at HCH HST ⊢
   generalize (setS s.now.L id (kickR (rw0 s.now.L id) r)).2 = ec at HCH HST ⊢
   go_enter Tryz.func36, Tryz.ntmps36
   go_wp2_with fail
   have HB0 := St.hid (bal (bal (Below.refl _ w) (.cells #[.int .i64 r.x, .int .i64 r.y, .int .i64 r.px, .int .i64 r.py, .int .i64 r.wd, .int .i64 r.ht, .int .i64 r.ms, .int .i64 r.rr] 34)) (.cells #[.int .i64 0, .int .i64 0, .slice none 0 0, .slice none 0 0] 31))
   have hRP0 := St.hid (Rp.rowIs4 (w.alloc (.cells #[.int .i64 r.x, .int .i64 r.y, .int .i64 r.px, .int .i64 r.py, .int .i64 r.wd, .int .i64 r.ht, .int .i64 r.ms, .int .i64 r.rr] 34)) 0 0 (.slice none 0 0) (.slice none 0 0) 31)
   rw [World.size_alloc] at hRP0
   have hRW0 := St.hid ((St.rowIs8 w r 34).alloc (.cells #[.int .i64 0, .int .i64 0, .slice none 0 0, .slice none 0 0] 31))
   have hz0 : ((w.alloc (.cells #[.int .i64 r.x, .int .i64 r.y, .int .i64 r.px, .int .i64 r.py, .int .i64 r.wd, .int .i64 r.ht, .int .i64 r.ms, .int .i64 r.rr] 34)).alloc (.cells #[.int .i64 0, .int .i64 0, .slice none 0 0, .slice none 0 0] 31)).heap.size = w.heap.size + 1 + 1 := by simp
   generalize (w.alloc (.cells #[.int .i64 r.x, .int .i64 r.y, .int .i64 r.px, .int .i64 r.py, .int .i64 r.wd, .int .i64 r.ht, .int .i64 r.ms, .int .i64 r.rr] 34)).alloc (.cells #[.int .i64 0, .int .i64 0, .slice none 0 0, .slice none 0 0] 31) = W0 at HB0 hRP0 hRW0 hz0 ⊢
   refine ((HG.out.now.below HB0.out).get_some hg.out.now.l s.now.next id _ _ hat).mono ?_
   rintro e w1 ⟨rfl, hb1⟩
   have hz1 := hb1.size
   have HBW1 := St.hid (bcall HB0.out hb1)
   have hRPW1 := St.hid (rowIs_below hRP0.out hb1)
   have hRWW1 := St.hid (rowIs_below hRW0.out hb1)
   clear hb1 x0 x1
   go_wp2_with fail
   have HBW := St.hid (bal HBW1.out (.cells #[.int .i64 (rw0 s.now.L id).x, .int .i64 (rw0 s.now.L id).y, .int .i64 (rw0 s.now.L id).px, .int .i64 (rw0 s.now.L id).py, .int .i64 (rw0 s.now.L id).wd, .int .i64 (rw0 s.now.L id).ht, .int .i64 (rw0 s.now.L id).ms, .int .i64 (rw0 s.now.L id).rr] 34))
   have hRPW := St.hid (hRPW1.out.alloc (.cells #[.int .i64 (rw0 s.now.L id).x, .int .i64 (rw0 s.now.L id).y, .int .i64 (rw0 s.now.L id).px, .int .i64 (rw0 s.now.L id).py, .int .i64 (rw0 s.now.L id).wd, .int .i64 (rw0 s.now.L id).ht, .int .i64 (rw0 s.now.L id).ms, .int .i64 (rw0 s.now.L id).rr] 34))
   have hRWW := St.hid (hRWW1.out.alloc (.cells #[.int .i64 (rw0 s.now.L id).x, .int .i64 (rw0 s.now.L id).y, .int .i64 (rw0 s.now.L id).px, .int .i64 (rw0 s.now.L id).py, .int .i64 (rw0 s.now.L id).wd, .int .i64 (rw0 s.now.L id).ht, .int .i64 (rw0 s.now.L id).ms, .int .i64 (rw0 s.now.L id).rr] 34))
   have hzW : (w1.alloc (.cells #[.int .i64 (rw0 s.now.L id).x, .int .i64 (rw0 s.now.L id).y, .int .i64 (rw0 s.now.L id).px, .int .i64 (rw0 s.now.L id).py, .int .i64 (rw0 s.now.L id).wd, .int .i64 (rw0 s.now.L id).ht, .int .i64 (rw0 s.now.L id).ms, .int .i64 (rw0 s.now.L id).rr] 34)).heap.size = w1.heap.size + 1 := by simp
   have hRGW := St.hid (St.rowIs8 w1 (rw0 s.now.L id) 34)
   generalize w1.alloc (.cells #[.int .i64 (rw0 s.now.L id).x, .int .i64 (rw0 s.now.L id).y, .int .i64 (rw0 s.now.L id).px, .int .i64 (rw0 s.now.L id).py, .int .i64 (rw0 s.now.L id).wd, .int .i64 (rw0 s.now.L id).ht, .int .i64 (rw0 s.now.L id).ms, .int .i64 (rw0 s.now.L id).rr] 34) = W at HBW hRPW hRWW hRGW hzW ⊢
   clear HB0 hRP0 hRW0 HBW1 hRPW1 hRWW1
   refine (ghas_any _ 2 _).mono ?_
   rintro e W ⟨rfl, rfl⟩
   rw [h2]
   go_wp2_with fail
   have hl1 : w1.heap.size < W.heap.size := by omega
   have HLE : Hid (w.heap.size + 1 < w1.heap.size) := St.hid (by omega)
   obtain ⟨r0, r1, r2, r3, r4, r5, r6, r7⟩ := row8c hRWW.out
   obtain ⟨g0, g1, g2, g3, g4, g5, g6, g7⟩ := row8c hRGW.out
   have f2 := hRGW.out.frozen 2
   have f3 := hRGW.out.frozen 3
   go_cut [] (fun wx => ∃ W2, W2 = wx ∧ Below w1.heap.size W W2 ∧ W2.rowIs w1.heap.size 34 8 (fun i => (rowCells (kickR (rw0 s.now.L id) r)).getD i undef))
   case first =>
    clear HCH HST HG hg HGM hat HBW hRPW hRWW
    go_region_with (go_at_call 66; refine (add_any _ _ _ (by decide) (by decide) _).mono ?_; rintro e w' ⟨rfl, rfl⟩)
    all_goals
     go_wp2_with fail
     go_meet
     refine ⟨_, rfl, ?_, ?_⟩
     ·(repeat with_reducible refine Below.drew ?_)
      exact Below.setCell (p := ⟨w1.heap.size, 3, none⟩) (Below.setCell (p := ⟨w1.heap.size, 2, none⟩) (Below.refl w1.heap.size W) (Nat.le_refl _) _) (Nat.le_refl _) _
     ·(repeat with_reducible refine rowDrew ?_)
      exact kickRow hRGW.out
   case rest =>
   obtain ⟨W2, rfl, hb2, hr2⟩ := hcut
   have HBW := St.hid (HBW.out.trans (hb2.mono (by have := HLE.out; omega)))
   have hRPW := St.hid (hRPW.out.of_block (hb2.block _ (by have := HLE.out; omega)))
   have hz2 := hb2.size
   have hzW : w1.heap.size < W2.heap.size := hr2.lt
   clear r0 r1 r2 r3 r4 r5 r6 r7 g0 g1 g2 g3 g4 g5 g6 g7 f2 f3 hb2 hRGW hRWW
   obtain ⟨r0, r1, r2, r3, r4, r5, r6, r7⟩ := row8c hr2
   clear hr2
   generalize W2 = W at HBW hRPW hzW hz2 r0 r1 r2 r3 r4 r5 r6 r7 ⊢
   have HGW := St.hid (HG.out.below HBW.out)
   have HFL : Hid (∀ z, F z → z < w.heap.size) := St.hid HG.out.lt
   obtain ⟨x0, x1, -, -, -, -, -⟩ := gcells HGW.out.row
   go_wp2_with fail
   go_region_with (first
    | (go_at_call 67; go_fit (HCH.out _ (bcall HBW.out (by repeat (first | with_reducible exact Below.refl _ W | with_reducible refine Below.drew ?_)))); rintro e w2 ⟨⟨a1, n1, c1, rfl, F1, hs1, hF1⟩, hb2⟩; have HQ2 := St.hid (bcall (by repeat (first | with_reducible exact Below.refl _ W | with_reducible refine Below.drew ?_)) hb2 : Below W.heap.size W w2); have HS1 := St.hid hs1; have HF1 : Hid (∀ z, F1 z → W.heap.size ≤ z) := St.hid (fun z hz => hF1 z hz); clear hb2 hs1 hF1)
    | (go_at_call 32; go_fit (become_any (HGW.out.below HQ2.out) HS1.out (new_not HGW.out.lt HF1.out (Nat.le_refl _)) s.now.next ec); rintro e w3 ⟨rfl, ⟨F3, hG4, hF3⟩, hk3⟩; have hRP3 := St.hid (rowIs_kept (rowIs_below hRPW.out HQ2.out) hk3 (fun hc => by have := HFL.out _ hc; omega)); have HG4 := St.hid hG4; have HK3 := St.hid hk3; have HF3 := St.hid hF3; clear hG4 hk3 hF3; obtain ⟨p0, p1, p2, p3⟩ := Rp.rcells hRP3.out; have p4 := hRP3.out.frozen 0; have p5 := hRP3.out.frozen 1; have p6 := hRP3.out.frozen 2; have p7 := hRP3.out.frozen 3))
   all_goals
    go_wp2_with fail
    obtain ⟨q0, q1, q2, q3⟩ := four (put4 hRP3.out (.int .i64 ec) (.int .i64 0) (.slice none 0 0) (.slice none 0 0))
    refine bodyPost_ret (v := .agg #[.int .i64 ec, .int .i64 0, .slice none 0 0, .slice none 0 0]) (by simp [results, Tryz.results36, go_sem, q0, q1, q2, q3]) rfl ?_
    refine (post_become (g := w.heap.size + 1) HFL.out (bcall HBW.out HQ2.out) HG4.out HF3.out (fun z hz => by have := HF1.out z hz; omega) (fun hc => by have := HF1.out _ hc; omega) HK3.out (by omega) ?_ _ _ _ _)
    by_cases h : ec = 0
    ·rw [if_pos h]
    ·rw [if_neg h]; exact (HST.out h).symm
  ·have h2f : hasB (mk s.now.L id) 2 = false := by simpa using h2
   have e : kickW s.now id r = (s.now, no 1) := by unfold kickW; rw [if_pos hm, if_pos h2f]
   rw [e]
   go_enter Tryz.func36, Tryz.ntmps36
   go_wp2_with fail
   have HB0 := St.hid (bal (bal (Below.refl _ w) (.cells #[.int .i64 r.x, .int .i64 r.y, .int .i64 r.px, .int .i64 r.py, .int .i64 r.wd, .int .i64 r.ht, .int .i64 r.ms, .int .i64 r.rr] 34)) (.cells #[.int .i64 0, .int .i64 0, .slice none 0 0, .slice none 0 0] 31))
   have hRP0 := St.hid (Rp.rowIs4 (w.alloc (.cells #[.int .i64 r.x, .int .i64 r.y, .int .i64 r.px, .int .i64 r.py, .int .i64 r.wd, .int .i64 r.ht, .int .i64 r.ms, .int .i64 r.rr] 34)) 0 0 (.slice none 0 0) (.slice none 0 0) 31)
   rw [World.size_alloc] at hRP0
   have hRW0 := St.hid ((St.rowIs8 w r 34).alloc (.cells #[.int .i64 0, .int .i64 0, .slice none 0 0, .slice none 0 0] 31))
   have hz0 : ((w.alloc (.cells #[.int .i64 r.x, .int .i64 r.y, .int .i64 r.px, .int .i64 r.py, .int .i64 r.wd, .int .i64 r.ht, .int .i64 r.ms, .int .i64 r.rr] 34)).alloc (.cells #[.int .i64 0, .int .i64 0, .slice none 0 0, .slice none 0 0] 31)).heap.size = w.heap.size + 1 + 1 := by simp
   generalize (w.alloc (.cells #[.int .i64 r.x, .int .i64 r.y, .int .i64 r.px, .int .i64 r.py, .int .i64 r.wd, .int .i64 r.ht, .int .i64 r.ms, .int .i64 r.rr] 34)).alloc (.cells #[.int .i64 0, .int .i64 0, .slice none 0 0, .slice none 0 0] 31) = W0 at HB0 hRP0 hRW0 hz0 ⊢
   refine ((HG.out.now.below HB0.out).get_some hg.out.now.l s.now.next id _ _ hat).mono ?_
   rintro e w1 ⟨rfl, hb1⟩
   have hz1 := hb1.size
   have HBW1 := St.hid (bcall HB0.out hb1)
   have hRPW1 := St.hid (rowIs_below hRP0.out hb1)
   have hRWW1 := St.hid (rowIs_below hRW0.out hb1)
   clear hb1 x0 x1
   go_wp2_with fail
   have HBW := St.hid (bal HBW1.out (.cells #[.int .i64 (rw0 s.now.L id).x, .int .i64 (rw0 s.now.L id).y, .int .i64 (rw0 s.now.L id).px, .int .i64 (rw0 s.now.L id).py, .int .i64 (rw0 s.now.L id).wd, .int .i64 (rw0 s.now.L id).ht, .int .i64 (rw0 s.now.L id).ms, .int .i64 (rw0 s.now.L id).rr] 34))
   have hRPW := St.hid (hRPW1.out.alloc (.cells #[.int .i64 (rw0 s.now.L id).x, .int .i64 (rw0 s.now.L id).y, .int .i64 (rw0 s.now.L id).px, .int .i64 (rw0 s.now.L id).py, .int .i64 (rw0 s.now.L id).wd, .int .i64 (rw0 s.now.L id).ht, .int .i64 (rw0 s.now.L id).ms, .int .i64 (rw0 s.now.L id).rr] 34))
   have hRWW := St.hid (hRWW1.out.alloc (.cells #[.int .i64 (rw0 s.now.L id).x, .int .i64 (rw0 s.now.L id).y, .int .i64 (rw0 s.now.L id).px, .int .i64 (rw0 s.now.L id).py, .int .i64 (rw0 s.now.L id).wd, .int .i64 (rw0 s.now.L id).ht, .int .i64 (rw0 s.now.L id).ms, .int .i64 (rw0 s.now.L id).rr] 34))
   have hzW : (w1.alloc (.cells #[.int .i64 (rw0 s.now.L id).x, .int .i64 (rw0 s.now.L id).y, .int .i64 (rw0 s.now.L id).px, .int .i64 (rw0 s.now.L id).py, .int .i64 (rw0 s.now.L id).wd, .int .i64 (rw0 s.now.L id).ht, .int .i64 (rw0 s.now.L id).ms, .int .i64 (rw0 s.now.L id).rr] 34)).heap.size = w1.heap.size + 1 := by simp
   have hRGW := St.hid (St.rowIs8 w1 (rw0 s.now.L id) 34)
   generalize w1.alloc (.cells #[.int .i64 (rw0 s.now.L id).x, .int .i64 (rw0 s.now.L id).y, .int .i64 (rw0 s.now.L id).px, .int .i64 (rw0 s.now.L id).py, .int .i64 (rw0 s.now.L id).wd, .int .i64 (rw0 s.now.L id).ht, .int .i64 (rw0 s.now.L id).ms, .int .i64 (rw0 s.now.L id).rr] 34) = W at HBW hRPW hRWW hRGW hzW ⊢
   clear HB0 hRP0 hRW0 HBW1 hRPW1 hRWW1
   refine (ghas_any _ 2 _).mono ?_
   rintro e W ⟨rfl, rfl⟩
   rw [h2f]
   go_wp2_with fail
   refine (refused_any 1 _).mono ?_
   rintro e w2 ⟨rfl, hb2⟩
   have hRP2 := St.hid (rowIs_below hRPW.out hb2)
   have HB2 := St.hid (bcall HBW.out hb2)
   clear hb2
   obtain ⟨p0, p1, p2, p3⟩ := Rp.rcells hRP2.out
   have p4 := hRP2.out.frozen 0
   have p5 := hRP2.out.frozen 1
   have p6 := hRP2.out.frozen 2
   have p7 := hRP2.out.frozen 3
   go_wp2_with fail
   obtain ⟨q0, q1, q2, q3⟩ := four (put4 hRP2.out (.int .i64 1) (.int .i64 0) (.slice none 0 0) (.slice none 0 0))
   exact bodyPost_ret (v := .agg #[.int .i64 1, .int .i64 0, .slice none 0 0, .slice none 0 0]) (by simp [results, Tryz.results36, go_sem, q0, q1, q2, q3]) rfl (post_same HGM.out HB2.out (by omega) _ _ _ _)
 ·have e : kickW s.now id r = (s.now, no 3) := by unfold kickW; rw [if_neg hm]
  rw [e]
  go_enter Tryz.func36, Tryz.ntmps36
  go_wp2_with fail
  have HB0 := St.hid (bal (bal (Below.refl _ w) (.cells #[.int .i64 r.x, .int .i64 r.y, .int .i64 r.px, .int .i64 r.py, .int .i64 r.wd, .int .i64 r.ht, .int .i64 r.ms, .int .i64 r.rr] 34)) (.cells #[.int .i64 0, .int .i64 0, .slice none 0 0, .slice none 0 0] 31))
  have hRP0 := St.hid (Rp.rowIs4 (w.alloc (.cells #[.int .i64 r.x, .int .i64 r.y, .int .i64 r.px, .int .i64 r.py, .int .i64 r.wd, .int .i64 r.ht, .int .i64 r.ms, .int .i64 r.rr] 34)) 0 0 (.slice none 0 0) (.slice none 0 0) 31)
  rw [World.size_alloc] at hRP0
  have hRW0 := St.hid ((St.rowIs8 w r 34).alloc (.cells #[.int .i64 0, .int .i64 0, .slice none 0 0, .slice none 0 0] 31))
  have hz0 : ((w.alloc (.cells #[.int .i64 r.x, .int .i64 r.y, .int .i64 r.px, .int .i64 r.py, .int .i64 r.wd, .int .i64 r.ht, .int .i64 r.ms, .int .i64 r.rr] 34)).alloc (.cells #[.int .i64 0, .int .i64 0, .slice none 0 0, .slice none 0 0] 31)).heap.size = w.heap.size + 1 + 1 := by simp
  generalize (w.alloc (.cells #[.int .i64 r.x, .int .i64 r.y, .int .i64 r.px, .int .i64 r.py, .int .i64 r.wd, .int .i64 r.ht, .int .i64 r.ms, .int .i64 r.rr] 34)).alloc (.cells #[.int .i64 0, .int .i64 0, .slice none 0 0, .slice none 0 0] 31) = W0 at HB0 hRP0 hRW0 hz0 ⊢
  refine ((HG.out.now.below HB0.out).get_none hg.out.now.l s.now.next id hm).mono ?_
  rintro e w1 ⟨rfl, hb1⟩
  have hz1 := hb1.size
  have HBW1 := St.hid (bcall HB0.out hb1)
  have hRPW1 := St.hid (rowIs_below hRP0.out hb1)
  have hRWW1 := St.hid (rowIs_below hRW0.out hb1)
  clear hb1 x0 x1
  go_wp2_with fail
  have HBW := St.hid (bal HBW1.out (.cells #[.int .i64 0, .int .i64 0, .int .i64 0, .int .i64 0, .int .i64 0, .int .i64 0, .int .i64 0, .int .i64 0] 34))
  have hRPW := St.hid (hRPW1.out.alloc (.cells #[.int .i64 0, .int .i64 0, .int .i64 0, .int .i64 0, .int .i64 0, .int .i64 0, .int .i64 0, .int .i64 0] 34))
  have hRWW := St.hid (hRWW1.out.alloc (.cells #[.int .i64 0, .int .i64 0, .int .i64 0, .int .i64 0, .int .i64 0, .int .i64 0, .int .i64 0, .int .i64 0] 34))
  have hzW : (w1.alloc (.cells #[.int .i64 0, .int .i64 0, .int .i64 0, .int .i64 0, .int .i64 0, .int .i64 0, .int .i64 0, .int .i64 0] 34)).heap.size = w1.heap.size + 1 := by simp
  have hRGW := St.hid (St.rowIs8 w1 ⟨0, 0, 0, 0, 0, 0, 0, 0⟩ 34)
  generalize w1.alloc (.cells #[.int .i64 0, .int .i64 0, .int .i64 0, .int .i64 0, .int .i64 0, .int .i64 0, .int .i64 0, .int .i64 0] 34) = W at HBW hRPW hRWW hRGW hzW ⊢
  clear HB0 hRP0 hRW0 HBW1 hRPW1 hRWW1
  refine (refused_any 3 _).mono ?_
  rintro e w2 ⟨rfl, hb2⟩
  have hRP2 := St.hid (rowIs_below hRPW.out hb2)
  have HB2 := St.hid (bcall HBW.out hb2)
  clear hb2
  obtain ⟨p0, p1, p2, p3⟩ := Rp.rcells hRP2.out
  have p4 := hRP2.out.frozen 0
  have p5 := hRP2.out.frozen 1
  have p6 := hRP2.out.frozen 2
  have p7 := hRP2.out.frozen 3
  go_wp2_with fail
  obtain ⟨q0, q1, q2, q3⟩ := four (put4 hRP2.out (.int .i64 3) (.int .i64 0) (.slice none 0 0) (.slice none 0 0))
  exact bodyPost_ret (v := .agg #[.int .i64 3, .int .i64 0, .slice none 0 0, .slice none 0 0]) (by simp [results, Tryz.results36, go_sem, q0, q1, q2, q3]) rfl (post_same HGM.out HB2.out (by omega) _ _ _ _)
end Gm
end Go.Proofs.YtckkkdldljhehacGreat
