/- Part of the proofs of GamePlays and GameRuns (package ninepinslaw): contracts of the functions that they call. -/
import Derived.Deep.RegionWith
import Derived.Test.YtckkkdldljhehacGreatPkT
namespace Go.Proofs.YtckkkdldljhehacGreat
namespace Gm
open Num St Wd
open Go.ChangeShapes Go.WideShapes Go.ChangeAt Go.RowKit
theorem post_same {w W : World} {F : Nat → Prop} {b : Nat} {s : Gp} {g : Nat} {c n : Int} (hG : Gam w F b s) (hb : Below w.heap.size w W) (hg : w.heap.size ≤ g) (x0 x1 x2 x3 : Value) :
  Post w F b s c n (.returned (.agg #[.int .i64 c, .int .i64 n, .slice none 0 0, .slice none 0 0])) ((((W.setCell ⟨g, 0, none⟩ x0).setCell ⟨g, 1, none⟩ x1).setCell ⟨g, 2, none⟩ x2).setCell ⟨g, 3, none⟩ x3) :=
 ⟨rfl, ⟨F, Gam.grown (hG.below hb) (grown4 W g _ _ _ _) (fun hc => by have := hG.lt hc; omega), fun z hz => Or.inl hz⟩, kept_grown (Kept.below hb) (grown4 W g _ _ _ _) hg⟩
theorem post_become {w W w3 : World} {F F1 F3 : Nat → Prop} {b : Nat} {s s' : Gp} {g : Nat} {c n : Int} (hF : ∀ z, F z → z < w.heap.size) (hb : Below w.heap.size w W) (hG : Gam w3 F3 b s') (hF3 : ∀ z, F3 z → F z ∨ F1 z) (hF1 : ∀ z, F1 z → w.heap.size ≤ z) (hno : ¬ F1 g) (hk : Kept F W w3) (hg : w.heap.size ≤ g) (hs : s' = s) (x0 x1 x2 x3 : Value) :
  Post w F b s c n (.returned (.agg #[.int .i64 c, .int .i64 n, .slice none 0 0, .slice none 0 0])) ((((w3.setCell ⟨g, 0, none⟩ x0).setCell ⟨g, 1, none⟩ x1).setCell ⟨g, 2, none⟩ x2).setCell ⟨g, 3, none⟩ x3) := by
 subst hs
 exact ⟨rfl, ⟨F3, Gam.grown hG (grown4 w3 g _ _ _ _) (fun hc => (hF3 _ hc).elim (fun h1 => by have := hF _ h1; omega) hno), fun z hz => (hF3 z hz).elim Or.inl (fun h1 => Or.inr (hF1 z h1))⟩, kept_grown ((Kept.below hb).trans hk (fun z h => Or.inl h)) (grown4 w3 g _ _ _ _) hg⟩
attribute [local go_sem ↓] Go.wp_at_zero Go.wp_at_succ
set_option maxHeartbeats 4000000 in
set_option maxRecDepth 100000 in
theorem give_any {F : Nat → Prop} {b : Nat} {s : Gp} {w : World} (hG : Gam w F b s) (hg : GoodG s) (id part : Int) (r : R8) :
  Calls Tryz.prog 34 #[.pointer (some ⟨b, 0, none⟩), .int .i64 id, .int .i64 part, .agg #[.int .i64 r.x, .int .i64 r.y, .int .i64 r.px, .int .i64 r.py, .int .i64 r.wd, .int .i64 r.ht, .int .i64 r.ms, .int .i64 r.rr]] w
   (Post w F b { s with now := (giveW s.now id part r).1 } (giveW s.now id part r).2.code (giveW s.now id part r).2.n) := by
 have HGM := St.hid hG
 have hg := St.hid hg
 obtain ⟨v, vs, sv, Fs, hG⟩ := hG
 have hbz := hG.lt b hG.own
 have HG := St.hid hG
 obtain ⟨a, n, c, rfl⟩ := hG.now.one
 obtain ⟨x0, x1, -, -, -, -, -⟩ := gcells hG.row
 clear hG
 by_cases hm : id ∈ allL s.now.L
 ·have hat := at_of_mem hg.out.now.l hm
  by_cases h1 : oneB part = true
  ·by_cases h2 : hasB (mk s.now.L id) part = true
   ·have e : giveW s.now id part r = (s.now, no 1) := by unfold giveW; rw [if_pos hm, if_pos (Or.inr h2)]
    rw [e]
    go_enter Tryz.func34, Tryz.ntmps34
    go_wp2_with fail
    have HB0 := St.hid (bal (bal (Below.refl _ w) (.cells #[.int .i64 r.x, .int .i64 r.y, .int .i64 r.px, .int .i64 r.py, .int .i64 r.wd, .int .i64 r.ht, .int .i64 r.ms, .int .i64 r.rr] 34)) (.cells #[.int .i64 0, .int .i64 0, .slice none 0 0, .slice none 0 0] 31))
    have hRP0 := St.hid (Rp.rowIs4 (w.alloc (.cells #[.int .i64 r.x, .int .i64 r.y, .int .i64 r.px, .int .i64 r.py, .int .i64 r.wd, .int .i64 r.ht, .int .i64 r.ms, .int .i64 r.rr] 34)) 0 0 (.slice none 0 0) (.slice none 0 0) 31)
    rw [World.size_alloc] at hRP0
    have hRW0 := St.hid ((St.rowIs8 w r 34).alloc (.cells #[.int .i64 0, .int .i64 0, .slice none 0 0, .slice none 0 0] 31))
    have hz0 : ((w.alloc (.cells #[.int .i64 r.x, .int .i64 r.y, .int .i64 r.px, .int .i64 r.py, .int .i64 r.wd, .int .i64 r.ht, .int .i64 r.ms, .int .i64 r.rr] 34)).alloc (.cells #[.int .i64 0, .int .i64 0, .slice none 0 0, .slice none 0 0] 31)).heap.size = w.heap.size + 1 + 1 := by simp
    generalize (w.alloc (.cells #[.int .i64 r.x, .int .i64 r.y, .int .i64 r.px, .int .i64 r.py, .int .i64 r.wd, .int .i64 r.ht, .int .i64 r.ms, .int .i64 r.rr] 34)).alloc (.cells #[.int .i64 0, .int .i64 0, .slice none 0 0, .slice none 0 0] 31) = W0 at HB0 hRP0 hRW0 hz0 ⊢
    refine ((HG.out.now.below HB0.out).get_some hg.out.now.l s.now.next id _ _ hat).mono ?_
    rintro e w1 ⟨rfl, hb1⟩
    have hz1 := hb1.size
    have HBW1 := St.hid (bcall HB0.out hb1)
    have hRPW1 := St.hid (rowIs_below hRP0.out hb1)
    have hRWW1 := St.hid (rowIs_below hRW0.out hb1)
    clear hb1 x0 x1
    go_wp2_with fail
    have HBW := St.hid (bal HBW1.out (.cells #[.int .i64 (rw0 s.now.L id).x, .int .i64 (rw0 s.now.L id).y, .int .i64 (rw0 s.now.L id).px, .int .i64 (rw0 s.now.L id).py, .int .i64 (rw0 s.now.L id).wd, .int .i64 (rw0 s.now.L id).ht, .int .i64 (rw0 s.now.L id).ms, .int .i64 (rw0 s.now.L id).rr] 34))
    have hRPW := St.hid (hRPW1.out.alloc (.cells #[.int .i64 (rw0 s.now.L id).x, .int .i64 (rw0 s.now.L id).y, .int .i64 (rw0 s.now.L id).px, .int .i64 (rw0 s.now.L id).py, .int .i64 (rw0 s.now.L id).wd, .int .i64 (rw0 s.now.L id).ht, .int .i64 (rw0 s.now.L id).ms, .int .i64 (rw0 s.now.L id).rr] 34))
    have hRWW := St.hid (hRWW1.out.alloc (.cells #[.int .i64 (rw0 s.now.L id).x, .int .i64 (rw0 s.now.L id).y, .int .i64 (rw0 s.now.L id).px, .int .i64 (rw0 s.now.L id).py, .int .i64 (rw0 s.now.L id).wd, .int .i64 (rw0 s.now.L id).ht, .int .i64 (rw0 s.now.L id).ms, .int .i64 (rw0 s.now.L id).rr] 34))
    have hzW : (w1.alloc (.cells #[.int .i64 (rw0 s.now.L id).x, .int .i64 (rw0 s.now.L id).y, .int .i64 (rw0 s.now.L id).px, .int .i64 (rw0 s.now.L id).py, .int .i64 (rw0 s.now.L id).wd, .int .i64 (rw0 s.now.L id).ht, .int .i64 (rw0 s.now.L id).ms, .int .i64 (rw0 s.now.L id).rr] 34)).heap.size = w1.heap.size + 1 := by simp
    have hRGW := St.hid (St.rowIs8 w1 (rw0 s.now.L id) 34)
    generalize w1.alloc (.cells #[.int .i64 (rw0 s.now.L id).x, .int .i64 (rw0 s.now.L id).y, .int .i64 (rw0 s.now.L id).px, .int .i64 (rw0 s.now.L id).py, .int .i64 (rw0 s.now.L id).wd, .int .i64 (rw0 s.now.L id).ht, .int .i64 (rw0 s.now.L id).ms, .int .i64 (rw0 s.now.L id).rr] 34) = W at HBW hRPW hRWW hRGW hzW ⊢
    clear HB0 hRP0 hRW0 HBW1 hRPW1 hRWW1
    refine (onePart_any part _).mono ?_
    rintro e W ⟨rfl, rfl⟩
    rw [h1]
    go_wp2_with fail
    refine (ghas_any _ part _).mono ?_
    rintro e W ⟨rfl, rfl⟩
    rw [h2]
    go_wp2_with fail
    refine (refused_any 1 _).mono ?_
    rintro e w2 ⟨rfl, hb2⟩
    have hRP2 := St.hid (rowIs_below hRPW.out hb2)
    have HB2 := St.hid (bcall HBW.out hb2)
    clear hb2
    obtain ⟨p0, p1, p2, p3⟩ := Rp.rcells hRP2.out
    have p4 := hRP2.out.frozen 0
    have p5 := hRP2.out.frozen 1
    have p6 := hRP2.out.frozen 2
    have p7 := hRP2.out.frozen 3
    go_wp2_with fail
    obtain ⟨q0, q1, q2, q3⟩ := four (put4 hRP2.out (.int .i64 1) (.int .i64 0) (.slice none 0 0) (.slice none 0 0))
    exact bodyPost_ret (v := .agg #[.int .i64 1, .int .i64 0, .slice none 0 0, .slice none 0 0]) (by simp [results, Tryz.results34, go_sem, q0, q1, q2, q3]) rfl (post_same HGM.out HB2.out (by omega) _ _ _ _)
   ·have h2f : hasB (mk s.now.L id) part = false := by simpa using h2
    have e : giveW s.now id part r = changeW s.now id (bits .or .i64 (mk s.now.L id) part) r := by unfold giveW; rw [if_pos hm, if_neg (by simp [h1, h2f])]
    rw [e]
    unfold changeW no
    have HST : Hid ((changeS s.now.L id (bits .or .i64 (mk s.now.L id) part) r).2 ≠ 0 → ({ s with now := { s.now with L := (changeS s.now.L id (bits .or .i64 (mk s.now.L id) part) r).1 } } : Gp) = s) := St.hid (fun hne => by
     unfold changeS at *
     split at hne
     ·split at hne
      ·simp at hne
      ·rename_i h h'; rw [if_pos h, if_neg h']
     ·rename_i h; rw [if_neg h])
    have HCH : Hid (∀ W', Below w.heap.size w W' → Calls Tryz.prog 65 #[.agg #[.slice a n c, .int .i64 s.now.next], .int .i64 id, .int .i64 (bits .or .i64 (mk s.now.L id) part), .agg #[.int .i64 r.x, .int .i64 r.y, .int .i64 r.px, .int .i64 r.py, .int .i64 r.wd, .int .i64 r.ht, .int .i64 r.ms, .int .i64 r.rr]] W' fun e w' =>
       (∃ a n c, e = .returned (.tuple #[.agg #[.slice a n c, .int .i64 s.now.next], .int .i64 (changeS s.now.L id (bits .or .i64 (mk s.now.L id) part) r).2]) ∧ ∃ F', Sto w' F' (.slice a n c) (changeS s.now.L id (bits .or .i64 (mk s.now.L id) part) r).1 ∧ ∀ b, F' b → W'.heap.size ≤ b) ∧ Below W'.heap.size W' w') :=
     St.hid (fun W' hb => (HG.out.now.below hb).change s.now.next hg.out.now.l id _ r)
    simp only []
    generalize (changeS s.now.L id (bits .or .i64 (mk s.now.L id) part) r).1 = L' at HCH HST ⊢
    generalize (changeS s.now.L id (bits .or .i64 (mk s.now.L id) part) r).2 = ec at HCH HST ⊢
    go_enter Tryz.func34, Tryz.ntmps34
    go_wp2_with fail
    have HB0 := St.hid (bal (bal (Below.refl _ w) (.cells #[.int .i64 r.x, .int .i64 r.y, .int .i64 r.px, .int .i64 r.py, .int .i64 r.wd, .int .i64 r.ht, .int .i64 r.ms, .int .i64 r.rr] 34)) (.cells #[.int .i64 0, .int .i64 0, .slice none 0 0, .slice none 0 0] 31))
    have hRP0 := St.hid (Rp.rowIs4 (w.alloc (.cells #[.int .i64 r.x, .int .i64 r.y, .int .i64 r.px, .int .i64 r.py, .int .i64 r.wd, .int .i64 r.ht, .int .i64 r.ms, .int .i64 r.rr] 34)) 0 0 (.slice none 0 0) (.slice none 0 0) 31)
    rw [World.size_alloc] at hRP0
    have hRW0 := St.hid ((St.rowIs8 w r 34).alloc (.cells #[.int .i64 0, .int .i64 0, .slice none 0 0, .slice none 0 0] 31))
    have hz0 : ((w.alloc (.cells #[.int .i64 r.x, .int .i64 r.y, .int .i64 r.px, .int .i64 r.py, .int .i64 r.wd, .int .i64 r.ht, .int .i64 r.ms, .int .i64 r.rr] 34)).alloc (.cells #[.int .i64 0, .int .i64 0, .slice none 0 0, .slice none 0 0] 31)).heap.size = w.heap.size + 1 + 1 := by simp
    generalize (w.alloc (.cells #[.int .i64 r.x, .int .i64 r.y, .int .i64 r.px, .int .i64 r.py, .int .i64 r.wd, .int .i64 r.ht, .int .i64 r.ms, .int .i64 r.rr] 34)).alloc (.cells #[.int .i64 0, .int .i64 0, .slice none 0 0, .slice none 0 0] 31) = W0 at HB0 hRP0 hRW0 hz0 ⊢
    refine ((HG.out.now.below HB0.out).get_some hg.out.now.l s.now.next id _ _ hat).mono ?_
    rintro e w1 ⟨rfl, hb1⟩
    have hz1 := hb1.size
    have HBW1 := St.hid (bcall HB0.out hb1)
    have hRPW1 := St.hid (rowIs_below hRP0.out hb1)
    have hRWW1 := St.hid (rowIs_below hRW0.out hb1)
    clear hb1 x0 x1
    go_wp2_with fail
    have HBW := St.hid (bal HBW1.out (.cells #[.int .i64 (rw0 s.now.L id).x, .int .i64 (rw0 s.now.L id).y, .int .i64 (rw0 s.now.L id).px, .int .i64 (rw0 s.now.L id).py, .int .i64 (rw0 s.now.L id).wd, .int .i64 (rw0 s.now.L id).ht, .int .i64 (rw0 s.now.L id).ms, .int .i64 (rw0 s.now.L id).rr] 34))
    have hRPW := St.hid (hRPW1.out.alloc (.cells #[.int .i64 (rw0 s.now.L id).x, .int .i64 (rw0 s.now.L id).y, .int .i64 (rw0 s.now.L id).px, .int .i64 (rw0 s.now.L id).py, .int .i64 (rw0 s.now.L id).wd, .int .i64 (rw0 s.now.L id).ht, .int .i64 (rw0 s.now.L id).ms, .int .i64 (rw0 s.now.L id).rr] 34))
    have hRWW := St.hid (hRWW1.out.alloc (.cells #[.int .i64 (rw0 s.now.L id).x, .int .i64 (rw0 s.now.L id).y, .int .i64 (rw0 s.now.L id).px, .int .i64 (rw0 s.now.L id).py, .int .i64 (rw0 s.now.L id).wd, .int .i64 (rw0 s.now.L id).ht, .int .i64 (rw0 s.now.L id).ms, .int .i64 (rw0 s.now.L id).rr] 34))
    have hzW : (w1.alloc (.cells #[.int .i64 (rw0 s.now.L id).x, .int .i64 (rw0 s.now.L id).y, .int .i64 (rw0 s.now.L id).px, .int .i64 (rw0 s.now.L id).py, .int .i64 (rw0 s.now.L id).wd, .int .i64 (rw0 s.now.L id).ht, .int .i64 (rw0 s.now.L id).ms, .int .i64 (rw0 s.now.L id).rr] 34)).heap.size = w1.heap.size + 1 := by simp
    have hRGW := St.hid (St.rowIs8 w1 (rw0 s.now.L id) 34)
    generalize w1.alloc (.cells #[.int .i64 (rw0 s.now.L id).x, .int .i64 (rw0 s.now.L id).y, .int .i64 (rw0 s.now.L id).px, .int .i64 (rw0 s.now.L id).py, .int .i64 (rw0 s.now.L id).wd, .int .i64 (rw0 s.now.L id).ht, .int .i64 (rw0 s.now.L id).ms, .int .i64 (rw0 s.now.L id).rr] 34) = W at HBW hRPW hRWW hRGW hzW ⊢
    clear HB0 hRP0 hRW0 HBW1 hRPW1 hRWW1
    refine (onePart_any part _).mono ?_
    rintro e W ⟨rfl, rfl⟩
    rw [h1]
    go_wp2_with fail
    refine (ghas_any _ part _).mono ?_
    rintro e W ⟨rfl, rfl⟩
    rw [h2f]
    go_wp2_with fail
    have HGW := St.hid (HG.out.below HBW.out)
    have HFL : Hid (∀ z, F z → z < w.heap.size) := St.hid HG.out.lt
    obtain ⟨x0, x1, -, -, -, -, -⟩ := gcells HGW.out.row
    obtain ⟨r0, r1, r2, r3, r4, r5, r6, r7⟩ := row8c hRWW.out
    go_region_with (first
     | (go_at_call 65; go_fit (HCH.out _ (bcall HBW.out (by repeat (first | with_reducible exact Below.refl _ W | with_reducible refine Below.drew ?_)))); rintro e w2 ⟨⟨a1, n1, c1, rfl, F1, hs1, hF1⟩, hb2⟩; have HQ2 := St.hid (bcall (by repeat (first | with_reducible exact Below.refl _ W | with_reducible refine Below.drew ?_)) hb2 : Below W.heap.size W w2); have HS1 := St.hid hs1; have HF1 : Hid (∀ z, F1 z → W.heap.size ≤ z) := St.hid (fun z hz => hF1 z hz); clear hb2 hs1 hF1)
     | (go_at_call 32; go_fit (become_any (HGW.out.below HQ2.out) HS1.out (new_not HGW.out.lt HF1.out (Nat.le_refl _)) s.now.next ec); rintro e w3 ⟨rfl, ⟨F3, hG4, hF3⟩, hk3⟩; have hRP3 := St.hid (rowIs_kept (rowIs_below hRPW.out HQ2.out) hk3 (fun hc => by have := HFL.out _ hc; omega)); have HG4 := St.hid hG4; have HK3 := St.hid hk3; have HF3 := St.hid hF3; clear hG4 hk3 hF3; obtain ⟨p0, p1, p2, p3⟩ := Rp.rcells hRP3.out; have p4 := hRP3.out.frozen 0; have p5 := hRP3.out.frozen 1; have p6 := hRP3.out.frozen 2; have p7 := hRP3.out.frozen 3))
    all_goals
     go_wp2_with fail
     obtain ⟨q0, q1, q2, q3⟩ := four (put4 hRP3.out (.int .i64 ec) (.int .i64 0) (.slice none 0 0) (.slice none 0 0))
     refine bodyPost_ret (v := .agg #[.int .i64 ec, .int .i64 0, .slice none 0 0, .slice none 0 0]) (by simp [results, Tryz.results34, go_sem, q0, q1, q2, q3]) rfl ?_
     refine (post_become (g := w.heap.size + 1) HFL.out (bcall HBW.out HQ2.out) HG4.out HF3.out (fun z hz => by have := HF1.out z hz; omega) (fun hc => by have := HF1.out _ hc; omega) HK3.out (by omega) ?_ _ _ _ _)
     by_cases h : ec = 0
     ·rw [if_pos h]
     ·rw [if_neg h]; exact (HST.out h).symm
  ·have h1f : oneB part = false := by simpa using h1
   have e : giveW s.now id part r = (s.now, no 1) := by unfold giveW; rw [if_pos hm, if_pos (Or.inl h1f)]
   rw [e]
   go_enter Tryz.func34, Tryz.ntmps34
   go_wp2_with fail
   have HB0 := St.hid (bal (bal (Below.refl _ w) (.cells #[.int .i64 r.x, .int .i64 r.y, .int .i64 r.px, .int .i64 r.py, .int .i64 r.wd, .int .i64 r.ht, .int .i64 r.ms, .int .i64 r.rr] 34)) (.cells #[.int .i64 0, .int .i64 0, .slice none 0 0, .slice none 0 0] 31))
   have hRP0 := St.hid (Rp.rowIs4 (w.alloc (.cells #[.int .i64 r.x, .int .i64 r.y, .int .i64 r.px, .int .i64 r.py, .int .i64 r.wd, .int .i64 r.ht, .int .i64 r.ms, .int .i64 r.rr] 34)) 0 0 (.slice none 0 0) (.slice none 0 0) 31)
   rw [World.size_alloc] at hRP0
   have hRW0 := St.hid ((St.rowIs8 w r 34).alloc (.cells #[.int .i64 0, .int .i64 0, .slice none 0 0, .slice none 0 0] 31))
   have hz0 : ((w.alloc (.cells #[.int .i64 r.x, .int .i64 r.y, .int .i64 r.px, .int .i64 r.py, .int .i64 r.wd, .int .i64 r.ht, .int .i64 r.ms, .int .i64 r.rr] 34)).alloc (.cells #[.int .i64 0, .int .i64 0, .slice none 0 0, .slice none 0 0] 31)).heap.size = w.heap.size + 1 + 1 := by simp
   generalize (w.alloc (.cells #[.int .i64 r.x, .int .i64 r.y, .int .i64 r.px, .int .i64 r.py, .int .i64 r.wd, .int .i64 r.ht, .int .i64 r.ms, .int .i64 r.rr] 34)).alloc (.cells #[.int .i64 0, .int .i64 0, .slice none 0 0, .slice none 0 0] 31) = W0 at HB0 hRP0 hRW0 hz0 ⊢
   refine ((HG.out.now.below HB0.out).get_some hg.out.now.l s.now.next id _ _ hat).mono ?_
   rintro e w1 ⟨rfl, hb1⟩
   have hz1 := hb1.size
   have HBW1 := St.hid (bcall HB0.out hb1)
   have hRPW1 := St.hid (rowIs_below hRP0.out hb1)
   have hRWW1 := St.hid (rowIs_below hRW0.out hb1)
   clear hb1 x0 x1
   go_wp2_with fail
   have HBW := St.hid (bal HBW1.out (.cells #[.int .i64 (rw0 s.now.L id).x, .int .i64 (rw0 s.now.L id).y, .int .i64 (rw0 s.now.L id).px, .int .i64 (rw0 s.now.L id).py, .int .i64 (rw0 s.now.L id).wd, .int .i64 (rw0 s.now.L id).ht, .int .i64 (rw0 s.now.L id).ms, .int .i64 (rw0 s.now.L id).rr] 34))
   have hRPW := St.hid (hRPW1.out.alloc (.cells #[.int .i64 (rw0 s.now.L id).x, .int .i64 (rw0 s.now.L id).y, .int .i64 (rw0 s.now.L id).px, .int .i64 (rw0 s.now.L id).py, .int .i64 (rw0 s.now.L id).wd, .int .i64 (rw0 s.now.L id).ht, .int .i64 (rw0 s.now.L id).ms, .int .i64 (rw0 s.now.L id).rr] 34))
   have hRWW := St.hid (hRWW1.out.alloc (.cells #[.int .i64 (rw0 s.now.L id).x, .int .i64 (rw0 s.now.L id).y, .int .i64 (rw0 s.now.L id).px, .int .i64 (rw0 s.now.L id).py, .int .i64 (rw0 s.now.L id).wd, .int .i64 (rw0 s.now.L id).ht, .int .i64 (rw0 s.now.L id).ms, .int .i64 (rw0 s.now.L id).rr] 34))
   have hzW : (w1.alloc (.cells #[.int .i64 (rw0 s.now.L id).x, .int .i64 (rw0 s.now.L id).y, .int .i64 (rw0 s.now.L id).px, .int .i64 (rw0 s.now.L id).py, .int .i64 (rw0 s.now.L id).wd, .int .i64 (rw0 s.now.L id).ht, .int .i64 (rw0 s.now.L id).ms, .int .i64 (rw0 s.now.L id).rr] 34)).heap.size = w1.heap.size + 1 := by simp
   have hRGW := St.hid (St.rowIs8 w1 (rw0 s.now.L id) 34)
   generalize w1.alloc (.cells #[.int .i64 (rw0 s.now.L id).x, .int .i64 (rw0 s.now.L id).y, .int .i64 (rw0 s.now.L id).px, .int .i64 (rw0 s.now.L id).py, .int .i64 (rw0 s.now.L id).wd, .int .i64 (rw0 s.now.L id).ht, .int .i64 (rw0 s.now.L id).ms, .int .i64 (rw0 s.now.L id).rr] 34) = W at HBW hRPW hRWW hRGW hzW ⊢
   clear HB0 hRP0 hRW0 HBW1 hRPW1 hRWW1
   refine (onePart_any part _).mono ?_
   rintro e W ⟨rfl, rfl⟩
   rw [h1f]
   go_wp2_with fail
   refine (refused_any 1 _).mono ?_
   rintro e w2 ⟨rfl, hb2⟩
   have hRP2 := St.hid (rowIs_below hRPW.out hb2)
   have HB2 := St.hid (bcall HBW.out hb2)
   clear hb2
   obtain ⟨p0, p1, p2, p3⟩ := Rp.rcells hRP2.out
   have p4 := hRP2.out.frozen 0
   have p5 := hRP2.out.frozen 1
   have p6 := hRP2.out.frozen 2
   have p7 := hRP2.out.frozen 3
   go_wp2_with fail
   obtain ⟨q0, q1, q2, q3⟩ := four (put4 hRP2.out (.int .i64 1) (.int .i64 0) (.slice none 0 0) (.slice none 0 0))
   exact bodyPost_ret (v := .agg #[.int .i64 1, .int .i64 0, .slice none 0 0, .slice none 0 0]) (by simp [results, Tryz.results34, go_sem, q0, q1, q2, q3]) rfl (post_same HGM.out HB2.out (by omega) _ _ _ _)
 ·have e : giveW s.now id part r = (s.now, no 3) := by unfold giveW; rw [if_neg hm]
  rw [e]
  go_enter Tryz.func34, Tryz.ntmps34
  go_wp2_with fail
  have HB0 := St.hid (bal (bal (Below.refl _ w) (.cells #[.int .i64 r.x, .int .i64 r.y, .int .i64 r.px, .int .i64 r.py, .int .i64 r.wd, .int .i64 r.ht, .int .i64 r.ms, .int .i64 r.rr] 34)) (.cells #[.int .i64 0, .int .i64 0, .slice none 0 0, .slice none 0 0] 31))
  have hRP0 := St.hid (Rp.rowIs4 (w.alloc (.cells #[.int .i64 r.x, .int .i64 r.y, .int .i64 r.px, .int .i64 r.py, .int .i64 r.wd, .int .i64 r.ht, .int .i64 r.ms, .int .i64 r.rr] 34)) 0 0 (.slice none 0 0) (.slice none 0 0) 31)
  rw [World.size_alloc] at hRP0
  have hRW0 := St.hid ((St.rowIs8 w r 34).alloc (.cells #[.int .i64 0, .int .i64 0, .slice none 0 0, .slice none 0 0] 31))
  have hz0 : ((w.alloc (.cells #[.int .i64 r.x, .int .i64 r.y, .int .i64 r.px, .int .i64 r.py, .int .i64 r.wd, .int .i64 r.ht, .int .i64 r.ms, .int .i64 r.rr] 34)).alloc (.cells #[.int .i64 0, .int .i64 0, .slice none 0 0, .slice none 0 0] 31)).heap.size = w.heap.size + 1 + 1 := by simp
  generalize (w.alloc (.cells #[.int .i64 r.x, .int .i64 r.y, .int .i64 r.px, .int .i64 r.py, .int .i64 r.wd, .int .i64 r.ht, .int .i64 r.ms, .int .i64 r.rr] 34)).alloc (.cells #[.int .i64 0, .int .i64 0, .slice none 0 0, .slice none 0 0] 31) = W0 at HB0 hRP0 hRW0 hz0 ⊢
  refine ((HG.out.now.below HB0.out).get_none hg.out.now.l s.now.next id hm).mono ?_
  rintro e w1 ⟨rfl, hb1⟩
  have hz1 := hb1.size
  have HBW1 := St.hid (bcall HB0.out hb1)
  have hRPW1 := St.hid (rowIs_below hRP0.out hb1)
  have hRWW1 := St.hid (rowIs_below hRW0.out hb1)
  clear hb1 x0 x1
  go_wp2_with fail
  have HBW := St.hid (bal HBW1.out (.cells #[.int .i64 0, .int .i64 0, .int .i64 0, .int .i64 0, .int .i64 0, .int .i64 0, .int .i64 0, .int .i64 0] 34))
  have hRPW := St.hid (hRPW1.out.alloc (.cells #[.int .i64 0, .int .i64 0, .int .i64 0, .int .i64 0, .int .i64 0, .int .i64 0, .int .i64 0, .int .i64 0] 34))
  have hRWW := St.hid (hRWW1.out.alloc (.cells #[.int .i64 0, .int .i64 0, .int .i64 0, .int .i64 0, .int .i64 0, .int .i64 0, .int .i64 0, .int .i64 0] 34))
  have hzW : (w1.alloc (.cells #[.int .i64 0, .int .i64 0, .int .i64 0, .int .i64 0, .int .i64 0, .int .i64 0, .int .i64 0, .int .i64 0] 34)).heap.size = w1.heap.size + 1 := by simp
  have hRGW := St.hid (St.rowIs8 w1 ⟨0, 0, 0, 0, 0, 0, 0, 0⟩ 34)
  generalize w1.alloc (.cells #[.int .i64 0, .int .i64 0, .int .i64 0, .int .i64 0, .int .i64 0, .int .i64 0, .int .i64 0, .int .i64 0] 34) = W at HBW hRPW hRWW hRGW hzW ⊢
  clear HB0 hRP0 hRW0 HBW1 hRPW1 hRWW1
  refine (refused_any 3 _).mono ?_
  rintro e w2 ⟨rfl, hb2⟩
  have hRP2 := St.hid (rowIs_below hRPW.out hb2)
  have HB2 := St.hid (bcall HBW.out hb2)
  clear hb2
  obtain ⟨p0, p1, p2, p3⟩ := Rp.rcells hRP2.out
  have p4 := hRP2.out.frozen 0
  have p5 := hRP2.out.frozen 1
  have p6 := hRP2.out.frozen 2
  have p7 := hRP2.out.frozen 3
  go_wp2_with fail
  obtain ⟨q0, q1, q2, q3⟩ := four (put4 hRP2.out (.int .i64 3) (.int .i64 0) (.slice none 0 0) (.slice none 0 0))
  exact bodyPost_ret (v := .agg #[.int .i64 3, .int .i64 0, .slice none 0 0, .slice none 0 0]) (by simp [results, Tryz.results34, go_sem, q0, q1, q2, q3]) rfl (post_same HGM.out HB2.out (by omega) _ _ _ _)
end Gm
namespace Gm
open Num St Wd
open Go.ChangeShapes Go.WideShapes Go.ChangeAt Go.RowKit
attribute [local go_sem ↓] Go.wp_at_zero Go.wp_at_succ
set_option maxHeartbeats 4000000 in
set_option maxRecDepth 100000 in
theorem take_any {F : Nat → Prop} {b : Nat} {s : Gp} {w : World} (hG : Gam w F b s) (hg : GoodG s) (id part : Int) :
  Calls Tryz.prog 35 #[.pointer (some ⟨b, 0, none⟩), .int .i64 id, .int .i64 part] w
   (Post w F b { s with now := (takeW s.now id part).1 } (takeW s.now id part).2.code (takeW s.now id part).2.n) := by
 have HGM := St.hid hG
 have hg := St.hid hg
 obtain ⟨v, vs, sv, Fs, hG⟩ := hG
 have hbz := hG.lt b hG.own
 have HG := St.hid hG
 obtain ⟨a, n, c, rfl⟩ := hG.now.one
 obtain ⟨x0, x1, -, -, -, -, -⟩ := gcells hG.row
 clear hG
 by_cases hm : id ∈ allL s.now.L
 ·have hat := at_of_mem hg.out.now.l hm
  by_cases h1 : oneB part = true
  ·by_cases h2 : hasB (mk s.now.L id) part = true
   ·have e : takeW s.now id part = changeW s.now id (bits .andNot .i64 (mk s.now.L id) part) zeroR := by unfold takeW; rw [if_pos hm, if_neg (by simp [h1, h2])]
    rw [e]
    unfold changeW no
    have HST : Hid ((changeS s.now.L id (bits .andNot .i64 (mk s.now.L id) part) zeroR).2 ≠ 0 → ({ s with now := { s.now with L := (changeS s.now.L id (bits .andNot .i64 (mk s.now.L id) part) zeroR).1 } } : Gp) = s) := St.hid (fun hne => by
     unfold changeS at *
     split at hne
     ·split at hne
      ·simp at hne
      ·rename_i h h'; rw [if_pos h, if_neg h']
     ·rename_i h; rw [if_neg h])
    have HCH : Hid (∀ W', Below w.heap.size w W' → Calls Tryz.prog 65 #[.agg #[.slice a n c, .int .i64 s.now.next], .int .i64 id, .int .i64 (bits .andNot .i64 (mk s.now.L id) part), .agg #[.int .i64 0, .int .i64 0, .int .i64 0, .int .i64 0, .int .i64 0, .int .i64 0, .int .i64 0, .int .i64 0]] W' fun e w' =>
       (∃ a n c, e = .returned (.tuple #[.agg #[.slice a n c, .int .i64 s.now.next], .int .i64 (changeS s.now.L id (bits .andNot .i64 (mk s.now.L id) part) zeroR).2]) ∧ ∃ F', Sto w' F' (.slice a n c) (changeS s.now.L id (bits .andNot .i64 (mk s.now.L id) part) zeroR).1 ∧ ∀ b, F' b → W'.heap.size ≤ b) ∧ Below W'.heap.size W' w') :=
     St.hid (fun W' hb => (HG.out.now.below hb).change s.now.next hg.out.now.l id _ zeroR)
    simp only []
    generalize (changeS s.now.L id (bits .andNot .i64 (mk s.now.L id) part) zeroR).1 = L' at HCH HST ⊢
    generalize (changeS s.now.L id (bits .andNot .i64 (mk s.now.L id) part) zeroR).2 = ec at HCH HST ⊢
    go_enter Tryz.func35, Tryz.ntmps35
    go_wp2_with fail
    have HB0 := St.hid (bal (Below.refl _ w) (.cells #[.int .i64 0, .int .i64 0, .slice none 0 0, .slice none 0 0] 31))
    have hRP0 := St.hid (Rp.rowIs4 w 0 0 (.slice none 0 0) (.slice none 0 0) 31)
    have hz0 : (w.alloc (.cells #[.int .i64 0, .int .i64 0, .slice none 0 0, .slice none 0 0] 31)).heap.size = w.heap.size + 1 := by simp
    generalize w.alloc (.cells #[.int .i64 0, .int .i64 0, .slice none 0 0, .slice none 0 0] 31) = W0 at HB0 hRP0  hz0 ⊢
    refine ((HG.out.now.below HB0.out).get_some hg.out.now.l s.now.next id _ _ hat).mono ?_
    rintro e w1 ⟨rfl, hb1⟩
    have hz1 := hb1.size
    have HBW1 := St.hid (bcall HB0.out hb1)
    have hRPW1 := St.hid (rowIs_below hRP0.out hb1)
    clear hb1 x0 x1
    go_wp2_with fail
    have HBW := St.hid (bal HBW1.out (.cells #[.int .i64 (rw0 s.now.L id).x, .int .i64 (rw0 s.now.L id).y, .int .i64 (rw0 s.now.L id).px, .int .i64 (rw0 s.now.L id).py, .int .i64 (rw0 s.now.L id).wd, .int .i64 (rw0 s.now.L id).ht, .int .i64 (rw0 s.now.L id).ms, .int .i64 (rw0 s.now.L id).rr] 34))
    have hRPW := St.hid (hRPW1.out.alloc (.cells #[.int .i64 (rw0 s.now.L id).x, .int .i64 (rw0 s.now.L id).y, .int .i64 (rw0 s.now.L id).px, .int .i64 (rw0 s.now.L id).py, .int .i64 (rw0 s.now.L id).wd, .int .i64 (rw0 s.now.L id).ht, .int .i64 (rw0 s.now.L id).ms, .int .i64 (rw0 s.now.L id).rr] 34))
    have hzW : (w1.alloc (.cells #[.int .i64 (rw0 s.now.L id).x, .int .i64 (rw0 s.now.L id).y, .int .i64 (rw0 s.now.L id).px, .int .i64 (rw0 s.now.L id).py, .int .i64 (rw0 s.now.L id).wd, .int .i64 (rw0 s.now.L id).ht, .int .i64 (rw0 s.now.L id).ms, .int .i64 (rw0 s.now.L id).rr] 34)).heap.size = w1.heap.size + 1 := by simp
    have hRGW := St.hid (St.rowIs8 w1 (rw0 s.now.L id) 34)
    generalize w1.alloc (.cells #[.int .i64 (rw0 s.now.L id).x, .int .i64 (rw0 s.now.L id).y, .int .i64 (rw0 s.now.L id).px, .int .i64 (rw0 s.now.L id).py, .int .i64 (rw0 s.now.L id).wd, .int .i64 (rw0 s.now.L id).ht, .int .i64 (rw0 s.now.L id).ms, .int .i64 (rw0 s.now.L id).rr] 34) = W at HBW hRPW  hRGW hzW ⊢
    clear HB0 hRP0  HBW1 hRPW1
    refine (onePart_any part _).mono ?_
    rintro e W ⟨rfl, rfl⟩
    rw [h1]
    go_wp2_with fail
    refine (ghas_any _ part _).mono ?_
    rintro e W ⟨rfl, rfl⟩
    rw [h2]
    have HGW := St.hid (HG.out.below HBW.out)
    have HFL : Hid (∀ z, F z → z < w.heap.size) := St.hid HG.out.lt
    obtain ⟨x0, x1, -, -, -, -, -⟩ := gcells HGW.out.row
    go_wp2_with fail
    go_at_call 65
    go_fit (HCH.out _ (bcall HBW.out (by repeat (first | with_reducible exact Below.refl _ W | with_reducible refine Below.drew ?_))))
    rintro e w2 ⟨⟨a1, n1, c1, rfl, F1, hs1, hF1⟩, hb2⟩
    have HQ2 := St.hid (bcall (by repeat (first | with_reducible exact Below.refl _ W | with_reducible refine Below.drew ?_)) hb2 : Below W.heap.size W w2)
    have HS1 := St.hid hs1
    have HF1 : Hid (∀ z, F1 z → W.heap.size ≤ z) := St.hid (fun z hz => hF1 z hz)
    clear hb2 hs1 hF1
    go_wp2_with fail
    go_at_call 32
    go_fit (become_any (HGW.out.below HQ2.out) HS1.out (new_not HGW.out.lt HF1.out (Nat.le_refl _)) s.now.next ec)
    rintro e w3 ⟨rfl, ⟨F3, hG4, hF3⟩, hk3⟩
    have hRP3 := St.hid (rowIs_kept (rowIs_below hRPW.out HQ2.out) hk3 (fun hc => by have := HFL.out _ hc; omega))
    have HG4 := St.hid hG4
    have HK3 := St.hid hk3
    have HF3 := St.hid hF3
    clear hG4 hk3 hF3
    obtain ⟨p0, p1, p2, p3⟩ := Rp.rcells hRP3.out
    have p4 := hRP3.out.frozen 0
    have p5 := hRP3.out.frozen 1
    have p6 := hRP3.out.frozen 2
    have p7 := hRP3.out.frozen 3
    all_goals
     go_wp2_with fail
     obtain ⟨q0, q1, q2, q3⟩ := four (put4 hRP3.out (.int .i64 ec) (.int .i64 0) (.slice none 0 0) (.slice none 0 0))
     refine bodyPost_ret (v := .agg #[.int .i64 ec, .int .i64 0, .slice none 0 0, .slice none 0 0]) (by simp [results, Tryz.results35, go_sem, q0, q1, q2, q3]) rfl ?_
     refine (post_become (g := w.heap.size) HFL.out (bcall HBW.out HQ2.out) HG4.out HF3.out (fun z hz => by have := HF1.out z hz; omega) (fun hc => by have := HF1.out _ hc; omega) HK3.out (by omega) ?_ _ _ _ _)
     by_cases h : ec = 0
     ·rw [if_pos h]
     ·rw [if_neg h]; exact (HST.out h).symm
   ·have h2f : hasB (mk s.now.L id) part = false := by simpa using h2
    have e : takeW s.now id part = (s.now, no 1) := by unfold takeW; rw [if_pos hm, if_pos (Or.inr h2f)]
    rw [e]
    go_enter Tryz.func35, Tryz.ntmps35
    go_wp2_with fail
    have HB0 := St.hid (bal (Below.refl _ w) (.cells #[.int .i64 0, .int .i64 0, .slice none 0 0, .slice none 0 0] 31))
    have hRP0 := St.hid (Rp.rowIs4 w 0 0 (.slice none 0 0) (.slice none 0 0) 31)
    have hz0 : (w.alloc (.cells #[.int .i64 0, .int .i64 0, .slice none 0 0, .slice none 0 0] 31)).heap.size = w.heap.size + 1 := by simp
    generalize w.alloc (.cells #[.int .i64 0, .int .i64 0, .slice none 0 0, .slice none 0 0] 31) = W0 at HB0 hRP0  hz0 ⊢
    refine ((HG.out.now.below HB0.out).get_some hg.out.now.l s.now.next id _ _ hat).mono ?_
    rintro e w1 ⟨rfl, hb1⟩
    have hz1 := hb1.size
    have HBW1 := St.hid (bcall HB0.out hb1)
    have hRPW1 := St.hid (rowIs_below hRP0.out hb1)
    clear hb1 x0 x1
    go_wp2_with fail
    have HBW := St.hid (bal HBW1.out (.cells #[.int .i64 (rw0 s.now.L id).x, .int .i64 (rw0 s.now.L id).y, .int .i64 (rw0 s.now.L id).px, .int .i64 (rw0 s.now.L id).py, .int .i64 (rw0 s.now.L id).wd, .int .i64 (rw0 s.now.L id).ht, .int .i64 (rw0 s.now.L id).ms, .int .i64 (rw0 s.now.L id).rr] 34))
    have hRPW := St.hid (hRPW1.out.alloc (.cells #[.int .i64 (rw0 s.now.L id).x, .int .i64 (rw0 s.now.L id).y, .int .i64 (rw0 s.now.L id).px, .int .i64 (rw0 s.now.L id).py, .int .i64 (rw0 s.now.L id).wd, .int .i64 (rw0 s.now.L id).ht, .int .i64 (rw0 s.now.L id).ms, .int .i64 (rw0 s.now.L id).rr] 34))
    have hzW : (w1.alloc (.cells #[.int .i64 (rw0 s.now.L id).x, .int .i64 (rw0 s.now.L id).y, .int .i64 (rw0 s.now.L id).px, .int .i64 (rw0 s.now.L id).py, .int .i64 (rw0 s.now.L id).wd, .int .i64 (rw0 s.now.L id).ht, .int .i64 (rw0 s.now.L id).ms, .int .i64 (rw0 s.now.L id).rr] 34)).heap.size = w1.heap.size + 1 := by simp
    have hRGW := St.hid (St.rowIs8 w1 (rw0 s.now.L id) 34)
    generalize w1.alloc (.cells #[.int .i64 (rw0 s.now.L id).x, .int .i64 (rw0 s.now.L id).y, .int .i64 (rw0 s.now.L id).px, .int .i64 (rw0 s.now.L id).py, .int .i64 (rw0 s.now.L id).wd, .int .i64 (rw0 s.now.L id).ht, .int .i64 (rw0 s.now.L id).ms, .int .i64 (rw0 s.now.L id).rr] 34) = W at HBW hRPW  hRGW hzW ⊢
    clear HB0 hRP0  HBW1 hRPW1
    refine (onePart_any part _).mono ?_
    rintro e W ⟨rfl, rfl⟩
    rw [h1]
    go_wp2_with fail
    refine (ghas_any _ part _).mono ?_
    rintro e W ⟨rfl, rfl⟩
    rw [h2f]
    go_wp2_with fail
    refine (refused_any 1 _).mono ?_
    rintro e w2 ⟨rfl, hb2⟩
    have hRP2 := St.hid (rowIs_below hRPW.out hb2)
    have HB2 := St.hid (bcall HBW.out hb2)
    clear hb2
    obtain ⟨p0, p1, p2, p3⟩ := Rp.rcells hRP2.out
    have p4 := hRP2.out.frozen 0
    have p5 := hRP2.out.frozen 1
    have p6 := hRP2.out.frozen 2
    have p7 := hRP2.out.frozen 3
    go_wp2_with fail
    obtain ⟨q0, q1, q2, q3⟩ := four (put4 hRP2.out (.int .i64 1) (.int .i64 0) (.slice none 0 0) (.slice none 0 0))
    exact bodyPost_ret (v := .agg #[.int .i64 1, .int .i64 0, .slice none 0 0, .slice none 0 0]) (by simp [results, Tryz.results35, go_sem, q0, q1, q2, q3]) rfl (post_same HGM.out HB2.out (by omega) _ _ _ _)
  ·have h1f : oneB part = false := by simpa using h1
   have e : takeW s.now id part = (s.now, no 1) := by unfold takeW; rw [if_pos hm, if_pos (Or.inl h1f)]
   rw [e]
   go_enter Tryz.func35, Tryz.ntmps35
   go_wp2_with fail
   have HB0 := St.hid (bal (Below.refl _ w) (.cells #[.int .i64 0, .int .i64 0, .slice none 0 0, .slice none 0 0] 31))
   have hRP0 := St.hid (Rp.rowIs4 w 0 0 (.slice none 0 0) (.slice none 0 0) 31)
   have hz0 : (w.alloc (.cells #[.int .i64 0, .int .i64 0, .slice none 0 0, .slice none 0 0] 31)).heap.size = w.heap.size + 1 := by simp
   generalize w.alloc (.cells #[.int .i64 0, .int .i64 0, .slice none 0 0, .slice none 0 0] 31) = W0 at HB0 hRP0  hz0 ⊢
   refine ((HG.out.now.below HB0.out).get_some hg.out.now.l s.now.next id _ _ hat).mono ?_
   rintro e w1 ⟨rfl, hb1⟩
   have hz1 := hb1.size
   have HBW1 := St.hid (bcall HB0.out hb1)
   have hRPW1 := St.hid (rowIs_below hRP0.out hb1)
   clear hb1 x0 x1
   go_wp2_with fail
   have HBW := St.hid (bal HBW1.out (.cells #[.int .i64 (rw0 s.now.L id).x, .int .i64 (rw0 s.now.L id).y, .int .i64 (rw0 s.now.L id).px, .int .i64 (rw0 s.now.L id).py, .int .i64 (rw0 s.now.L id).wd, .int .i64 (rw0 s.now.L id).ht, .int .i64 (rw0 s.now.L id).ms, .int .i64 (rw0 s.now.L id).rr] 34))
   have hRPW := St.hid (hRPW1.out.alloc (.cells #[.int .i64 (rw0 s.now.L id).x, .int .i64 (rw0 s.now.L id).y, .int .i64 (rw0 s.now.L id).px, .int .i64 (rw0 s.now.L id).py, .int .i64 (rw0 s.now.L id).wd, .int .i64 (rw0 s.now.L id).ht, .int .i64 (rw0 s.now.L id).ms, .int .i64 (rw0 s.now.L id).rr] 34))
   have hzW : (w1.alloc (.cells #[.int .i64 (rw0 s.now.L id).x, .int .i64 (rw0 s.now.L id).y, .int .i64 (rw0 s.now.L id).px, .int .i64 (rw0 s.now.L id).py, .int .i64 (rw0 s.now.L id).wd, .int .i64 (rw0 s.now.L id).ht, .int .i64 (rw0 s.now.L id).ms, .int .i64 (rw0 s.now.L id).rr] 34)).heap.size = w1.heap.size + 1 := by simp
   have hRGW := St.hid (St.rowIs8 w1 (rw0 s.now.L id) 34)
   generalize w1.alloc (.cells #[.int .i64 (rw0 s.now.L id).x, .int .i64 (rw0 s.now.L id).y, .int .i64 (rw0 s.now.L id).px, .int .i64 (rw0 s.now.L id).py, .int .i64 (rw0 s.now.L id).wd, .int .i64 (rw0 s.now.L id).ht, .int .i64 (rw0 s.now.L id).ms, .int .i64 (rw0 s.now.L id).rr] 34) = W at HBW hRPW  hRGW hzW ⊢
   clear HB0 hRP0  HBW1 hRPW1
   refine (onePart_any part _).mono ?_
   rintro e W ⟨rfl, rfl⟩
   rw [h1f]
   go_wp2_with fail
   refine (refused_any 1 _).mono ?_
   rintro e w2 ⟨rfl, hb2⟩
   have hRP2 := St.hid (rowIs_below hRPW.out hb2)
   have HB2 := St.hid (bcall HBW.out hb2)
   clear hb2
   obtain ⟨p0, p1, p2, p3⟩ := Rp.rcells hRP2.out
   have p4 := hRP2.out.frozen 0
   have p5 := hRP2.out.frozen 1
   have p6 := hRP2.out.frozen 2
   have p7 := hRP2.out.frozen 3
   go_wp2_with fail
   obtain ⟨q0, q1, q2, q3⟩ := four (put4 hRP2.out (.int .i64 1) (.int .i64 0) (.slice none 0 0) (.slice none 0 0))
   exact bodyPost_ret (v := .agg #[.int .i64 1, .int .i64 0, .slice none 0 0, .slice none 0 0]) (by simp [results, Tryz.results35, go_sem, q0, q1, q2, q3]) rfl (post_same HGM.out HB2.out (by omega) _ _ _ _)
 ·have e : takeW s.now id part = (s.now, no 3) := by unfold takeW; rw [if_neg hm]
  rw [e]
  go_enter Tryz.func35, Tryz.ntmps35
  go_wp2_with fail
  have HB0 := St.hid (bal (Below.refl _ w) (.cells #[.int .i64 0, .int .i64 0, .slice none 0 0, .slice none 0 0] 31))
  have hRP0 := St.hid (Rp.rowIs4 w 0 0 (.slice none 0 0) (.slice none 0 0) 31)
  have hz0 : (w.alloc (.cells #[.int .i64 0, .int .i64 0, .slice none 0 0, .slice none 0 0] 31)).heap.size = w.heap.size + 1 := by simp
  generalize w.alloc (.cells #[.int .i64 0, .int .i64 0, .slice none 0 0, .slice none 0 0] 31) = W0 at HB0 hRP0  hz0 ⊢
  refine ((HG.out.now.below HB0.out).get_none hg.out.now.l s.now.next id hm).mono ?_
  rintro e w1 ⟨rfl, hb1⟩
  have hz1 := hb1.size
  have HBW1 := St.hid (bcall HB0.out hb1)
  have hRPW1 := St.hid (rowIs_below hRP0.out hb1)
  clear hb1 x0 x1
  go_wp2_with fail
  have HBW := St.hid (bal HBW1.out (.cells #[.int .i64 0, .int .i64 0, .int .i64 0, .int .i64 0, .int .i64 0, .int .i64 0, .int .i64 0, .int .i64 0] 34))
  have hRPW := St.hid (hRPW1.out.alloc (.cells #[.int .i64 0, .int .i64 0, .int .i64 0, .int .i64 0, .int .i64 0, .int .i64 0, .int .i64 0, .int .i64 0] 34))
  have hzW : (w1.alloc (.cells #[.int .i64 0, .int .i64 0, .int .i64 0, .int .i64 0, .int .i64 0, .int .i64 0, .int .i64 0, .int .i64 0] 34)).heap.size = w1.heap.size + 1 := by simp
  have hRGW := St.hid (St.rowIs8 w1 ⟨0, 0, 0, 0, 0, 0, 0, 0⟩ 34)
  generalize w1.alloc (.cells #[.int .i64 0, .int .i64 0, .int .i64 0, .int .i64 0, .int .i64 0, .int .i64 0, .int .i64 0, .int .i64 0] 34) = W at HBW hRPW  hRGW hzW ⊢
  clear HB0 hRP0  HBW1 hRPW1
  refine (refused_any 3 _).mono ?_
  rintro e w2 ⟨rfl, hb2⟩
  have hRP2 := St.hid (rowIs_below hRPW.out hb2)
  have HB2 := St.hid (bcall HBW.out hb2)
  clear hb2
  obtain ⟨p0, p1, p2, p3⟩ := Rp.rcells hRP2.out
  have p4 := hRP2.out.frozen 0
  have p5 := hRP2.out.frozen 1
  have p6 := hRP2.out.frozen 2
  have p7 := hRP2.out.frozen 3
  go_wp2_with fail
  obtain ⟨q0, q1, q2, q3⟩ := four (put4 hRP2.out (.int .i64 3) (.int .i64 0) (.slice none 0 0) (.slice none 0 0))
  exact bodyPost_ret (v := .agg #[.int .i64 3, .int .i64 0, .slice none 0 0, .slice none 0 0]) (by simp [results, Tryz.results35, go_sem, q0, q1, q2, q3]) rfl (post_same HGM.out HB2.out (by omega) _ _ _ _)
end Gm
end Go.Proofs.YtckkkdldljhehacGreat
