/- Part of the proofs of GamePlays and GameRuns (package ninepinslaw): contracts of the functions that they call. -/
import Derived.Test.YtckkkdldljhehacGreatPkP
import Derived.Test.YtckkkdldljhehacGreatPkP3
import Derived.Test.YtckkkdldljhehacGreatPkZ1
import Derived.Test.YtckkkdldljhehacGreatPkZ2
import Derived.Test.YtckkkdldljhehacGreatPkZ4
namespace Go.Proofs.YtckkkdldljhehacGreat
namespace Ws
open Num St Mp Th Wd
open Go.ChangeShapes Go.WideShapes Go.ChangeAt Go.RowKit
theorem owns_cap {w : World} {B size n c : Nat} {e : TypeId} {a : Option Addr} {xs : List Value} (h : w.ownsRow B e size (.slice a n c) n xs) : n ≤ c := by
 rcases h.2 with ⟨e1, e2⟩ | ⟨g, c', cur, e1, h2⟩
 ·omega
 ·cases e1
  exact h2.2.2.1
theorem grown_turn {w w' : World} {c : Nat} (h : w.mapTurned w' c) : w.grownBy w' (some c) := h.grown
theorem mask_in {m : Int} {r : R8} (h : goodRowB m r = true) : 0 ≤ m ∧ m ≤ 31 := by have := goodRow_mask h; omega
theorem wall_in {m : Int} {r : R8} (h : goodRowB m r = true) : (-268435456 ≤ r.px ∧ r.px ≤ 268435456) ∧ (-268435456 ≤ r.py ∧ r.py ≤ 268435456) ∧ (-268435456 ≤ r.wd ∧ r.wd ≤ 268435456) ∧ (-268435456 ≤ r.ht ∧ r.ht ≤ 268435456) := by
 have := row_bounds h
 omega
attribute [local go_sem ↓] Go.wp_at_zero Go.wp_at_succ
set_option maxHeartbeats 16000000 in
set_option maxRecDepth 100000 in
theorem stepOf_any {L : List Tab} {w : World} (b : Nat) (next fall wide high : Int) {nx : Int} (h : Mp w b (thM L)) (hg : GoodL nx L) (hf : -64 ≤ fall ∧ fall ≤ 64) (hw : 1 ≤ wide ∧ wide ≤ 1048576) (hh : 1 ≤ high ∧ high ≤ 1048576) :
  Calls Tryz.prog 51 #[.agg #[.map (some b), .int .i64 next, .int .i64 fall, .int .i64 wide, .int .i64 high]] w fun e w' =>
   (∃ c u, e = .returned (.tuple #[.agg #[.map (some c), .int .i64 next, .int .i64 fall, .int .i64 wide, .int .i64 high], u]) ∧ w.heap.size ≤ c ∧ Mp w' c (thM (withRows L (Wd.stepG L fall wide high).1)) ∧ w'.ownsRow w.heap.size 54 2 u (Wd.stepG L fall wide high).2.length ((Wd.stepG L fall wide high).2.flatMap Sw.pairCells)) ∧ Below w.heap.size w w' := by
 obtain ⟨i79, hi79, hz79, hs79, hb79⟩ := info_parts Sw.info79
 have HGL := St.hid hg
 have HFA := St.hid hf
 have HWD := St.hid hw
 have HHG := St.hid hh
 obtain ⟨hf1, hf2⟩ := hf
 have hlen : (thM L).length ≤ 1000000 := by rw [← with_self hg, th_len hg]; have := ks_len hg; omega
 have hW0 := St.hid ((rowIs5 w (.map (some b)) next fall wide high 73).alloc (.cells #[.map none, .int .i64 0, .int .i64 0, .int .i64 0, .int .i64 0] 73))
 have hR0 := St.hid (rowIs5 (w.alloc (.cells #[.map (some b), .int .i64 next, .int .i64 fall, .int .i64 wide, .int .i64 high] 73)) (.map none) 0 0 0 0 73)
 rw [World.size_alloc] at hR0
 have HC := St.hid (wcopy_any b (thM L) next fall wide high _ (h.below (bal (bal (Below.refl _ w) (.cells #[.map (some b), .int .i64 next, .int .i64 fall, .int .i64 wide, .int .i64 high] 73)) (.cells #[.map none, .int .i64 0, .int .i64 0, .int .i64 0, .int .i64 0] 73))) hlen)
 obtain ⟨y0, y1, y2, y3, y4, -, -, -, -, -⟩ := rcells hW0.out
 clear h hg hw hh
 go_enter Tryz.func51, Tryz.ntmps51
 go_wp2_with fail
 refine HC.out.mono ?_
 rintro e w1 ⟨⟨c, rfl, hc, hm⟩, hb1⟩
 simp only [World.size_alloc] at hc
 have hW1 := St.hid (rowIs_below hW0.out hb1)
 have hR1 := St.hid (rowIs_below hR0.out hb1)
 have HB1 := St.hid (bcall (bal (bal (Below.refl _ w) _) _) hb1)
 have HM1 := St.hid hm
 have hz1 := hb1.size
 simp only [World.size_alloc] at hz1
 clear hb1 hm y0 y1 y2 y3 y4 hW0 hR0 HC
 obtain ⟨x0, x1, x2, x3, x4, xf0, xf1, xf2, xf3, xf4⟩ := rcells hW1.out
 have hW2 : Hid ((((((w1.setCell ⟨w.heap.size, 0, none⟩ (.map (some c))).setCell ⟨w.heap.size, 1, none⟩ (.int .i64 next)).setCell ⟨w.heap.size, 2, none⟩ (.int .i64 fall)).setCell ⟨w.heap.size, 3, none⟩ (.int .i64 wide)).setCell ⟨w.heap.size, 4, none⟩ (.int .i64 high)).rowIs w.heap.size 73 5 (wcell (.map (some c)) next fall wide high)) := St.hid (row5 hW1.out (.map (some c)) next fall wide high)
 have hR2 : Hid ((((((w1.setCell ⟨w.heap.size, 0, none⟩ (.map (some c))).setCell ⟨w.heap.size, 1, none⟩ (.int .i64 next)).setCell ⟨w.heap.size, 2, none⟩ (.int .i64 fall)).setCell ⟨w.heap.size, 3, none⟩ (.int .i64 wide)).setCell ⟨w.heap.size, 4, none⟩ (.int .i64 high)).rowIs (w.heap.size + 1) 73 5 (wcell (.map none) 0 0 0 0)) := St.hid (rowIs_grown hR1.out (grown5 w1 w.heap.size (.map (some c)) next fall wide high) (by simp))
 have HM2 : Hid (Mp (((((w1.setCell ⟨w.heap.size, 0, none⟩ (.map (some c))).setCell ⟨w.heap.size, 1, none⟩ (.int .i64 next)).setCell ⟨w.heap.size, 2, none⟩ (.int .i64 fall)).setCell ⟨w.heap.size, 3, none⟩ (.int .i64 wide)).setCell ⟨w.heap.size, 4, none⟩ (.int .i64 high)) c (thM L)) := St.hid (mp_put5 HM1.out (b := w.heap.size) (by omega) (.map (some c)) next fall wide high)
 have HB2 : Hid (Below w.heap.size w (((((w1.setCell ⟨w.heap.size, 0, none⟩ (.map (some c))).setCell ⟨w.heap.size, 1, none⟩ (.int .i64 next)).setCell ⟨w.heap.size, 2, none⟩ (.int .i64 fall)).setCell ⟨w.heap.size, 3, none⟩ (.int .i64 wide)).setCell ⟨w.heap.size, 4, none⟩ (.int .i64 high))) := St.hid (below5 HB1.out (Nat.le_refl _) (.map (some c)) next fall wide high)
 have hzz : (((((w1.setCell ⟨w.heap.size, 0, none⟩ (.map (some c))).setCell ⟨w.heap.size, 1, none⟩ (.int .i64 next)).setCell ⟨w.heap.size, 2, none⟩ (.int .i64 fall)).setCell ⟨w.heap.size, 3, none⟩ (.int .i64 wide)).setCell ⟨w.heap.size, 4, none⟩ (.int .i64 high)).heap.size = w1.heap.size := by simp
 go_upto_region 2 with fail
 generalize ((((w1.setCell ⟨w.heap.size, 0, none⟩ (.map (some c))).setCell ⟨w.heap.size, 1, none⟩ (.int .i64 next)).setCell ⟨w.heap.size, 2, none⟩ (.int .i64 fall)).setCell ⟨w.heap.size, 3, none⟩ (.int .i64 wide)).setCell ⟨w.heap.size, 4, none⟩ (.int .i64 high) = V1 at hW2 hR2 HM2 HB2 hzz ⊢
 have hcz := HM2.out.lt
 have hzV : w.heap.size + 1 + 1 ≤ V1.heap.size := by omega
 clear x0 x1 x2 x3 x4 xf0 xf1 xf2 xf3 xf4 hW1 hR1 HB1 HM1 hzz hz1
 obtain ⟨x0, x1, x2, x3, x4, xf0, xf1, xf2, xf3, xf4⟩ := rcells hW2.out
 have hzw : w.heap.size < V1.heap.size := by omega
 have HSO := St.hid (sorted_any c (thM L) V1 HM2.out hlen)
 go_wp2_with fail
 refine HSO.out.mono ?_
 rintro e w3 ⟨⟨ui, rfl, hid1⟩, hb3⟩
 obtain ⟨N, hN⟩ : ∃ N, N = (ks L).length := ⟨_, rfl⟩
 have hN10 : N ≤ 10 := by rw [hN]; exact ks_len HGL.out
 rw [show (thM L).length = N from by rw [hN]; simp [ks], show (thM L).map (·.1) = ks L from rfl] at hid1
 obtain ⟨ai, ci, rfl, -⟩ := Sw.owns_slice hid1
 have hW3 := St.hid (rowIs_below hW2.out hb3)
 have hR3 := St.hid (rowIs_below hR2.out hb3)
 have HM3 := St.hid (HM2.out.below hb3)
 have HB3 := St.hid (bcall HB2.out hb3)
 have HI3 := St.hid hid1
 have HN := St.hid hN
 have hz3 := hb3.size
 clear hb3 hid1 hN x0 x1 x2 x3 x4 xf0 xf1 xf2 xf3 xf4 hW2 hR2 HM2 HB2 HSO
 go_wp2_with fail
 go_loopw [27] (fun i wr => ∃ k : Nat, k ≤ N ∧ i = .int .i64 k ∧ Hid (wr.rowIs w.heap.size 73 5 (wcell (.map (some c)) next fall wide high)) ∧ Hid (wr.rowIs (w.heap.size + 1) 73 5 (wcell (.map none) 0 0 0 0)) ∧ Hid (wr.ownsRow V1.heap.size 3 1 (.slice ai N ci) N ((ks L).map (Value.int .i64))) ∧ Hid (Mp wr c (thM (withRows L (((ks L).take k).foldl (goD (mk L) fall) (rw0 L))))) ∧ Hid (Below w.heap.size w wr) ∧ Hid (V1.heap.size ≤ wr.heap.size)) (fun i _ => N - (intOf i).toNat)
 case atStart => exact ⟨0, Nat.zero_le _, rfl, hW3.out, hR3.out, HI3.out, by rw [List.take_zero, List.foldl_nil, with_self HGL.out]; exact HM3.out, HB3.out, hz3⟩
 case round =>
  obtain ⟨k, hk, rfl, hX, hR, hI, hS, hB, hz⟩ := hrel
  obtain ⟨x0, x1, x2, x3, x4, xf0, xf1, xf2, xf3, xf4⟩ := rcells hX.out
  by_cases hlt : k < N
  ·obtain ⟨v, hv⟩ : ∃ x, (ks L)[k]? = some x := ⟨_, List.getElem?_eq_getElem (by have := HN.out; omega)⟩
   have hmem : v ∈ allL L := ks_all HGL.out v (List.mem_of_getElem? hv)
   obtain ⟨gk, HGK⟩ : ∃ gk, Hid (gk = ((ks L).take k).foldl (goD (mk L) fall) (rw0 L)) := ⟨_, rfl⟩
   have hok : RowsOk L gk := by rw [HGK.out]; exact go_ok HGL.out fall k
   rw [← HGK.out] at hS
   obtain ⟨q0, h2⟩ := at_all HGL.out.even HGL.out.2.2.2.2.2 hmem
   have hgm := get_with HGL.out.even HGL.out.2.2.2.2.2 gk hmem
   have hqb := hok v _ q0 h2
   have HNX : Hid (∀ r, putM v ⟨mk L v, r⟩ (thM (withRows L gk)) = thM (withRows L (upd gk v r))) := St.hid (fun r => put_with HGL.out.even HGL.out.2.2.2.2.2 gk hmem r)
   have HLEN : Hid ((thM (withRows L gk)).length < maxLen) := St.hid (by rw [th_len HGL.out]; have := ks_len HGL.out; unfold maxLen; omega)
   obtain ⟨t, HT⟩ : ∃ t : Th, Hid (t = ⟨mk L v, gk v⟩) := ⟨_, rfl⟩
   rw [← HT.out] at hgm
   rw [show gk v = t.r from by rw [HT.out], show mk L v = t.m from by rw [HT.out]] at hqb
   rw [show mk L v = t.m from by rw [HT.out]] at HNX
   have hwf := hS.out.wf hgm
   have hlk := hS.out.look hwf
   rw [hgm] at hlk
   simp only [Option.getD_some, thV] at hlk
   have hmk := mask_in hqb
   have HMV : Hid (∀ W, Calls Tryz.prog 79 #[.int .i64 t.m] W fun e w' => e = .returned (.bool (hasB t.m 11)) ∧ w' = W) := St.hid (fun W => moves_any t.m hmk W)
   have HQB := St.hid hqb
   obtain ⟨b1, b2, b3, b4, b5, b6, b7, b8⟩ := row_bounds hqb
   obtain ⟨gi, cc, hai⟩ := own_some hI.out (by omega)
   simp only [Value.slice.injEq] at hai
   obtain ⟨rfl, -, rfl⟩ := hai
   have i0 : wr.cell? ⟨gi, k, none⟩ = some (.int .i64 v) := by rw [hI.out.cellAt k (by omega), List.getElem?_map, hv]; rfl
   have HGI := St.hid (hI.out.lt gi rfl)
   have HV := St.hid hv
   have HMZ := St.hid hS.out.lt
   have hlt' : (k : Int) < (N : Int) := by omega
   have hwz : w.heap.size < wr.heap.size := by have := hz.out; omega
   have hgz : gi < wr.heap.size := (hI.out.lt gi rfl).2
   clear h2 hqb hmem hv hgm hok
   have HHS : Hid (∀ W, Calls Tryz.prog 54 #[.int .i64 t.m, .int .i64 16] W fun e w' => e = .returned (.bool (hasB t.m 16)) ∧ w' = W) := St.hid (fun W => by rw [← (hasR_eq hmk).2.2.2.2]; exact Th.has_any t.m 16 ⟨by omega, by omega⟩ ⟨by omega, by omega⟩ W)
   have hfm := mul_le' fall t.r.ms 64 9 ⟨hf1, hf2⟩ b7
   have HFT := St.hid (fold_take (goD (mk L) fall) (rw0 L) HV.out)
   rw [← HGK.out] at HFT
   cases hmv : hasB t.m 11
   ·have hnext : goD (mk L) fall gk v = gk := by unfold goD; rw [show mk L v = t.m from by rw [HT.out], hmv]; rfl
    rw [hmv] at HMV
    go_wp2_with (first | (go_at_call 79; refine (HMV.out _).mono ?_; rintro e w' ⟨rfl, rfl⟩))
    go_roundw
    case rel =>
     refine ⟨k + 1, by omega, by go_num, rowIs_below hX.out (bal (Below.refl _ wr) _), rowIs_below hR.out (bal (Below.refl _ wr) _), owns_below hI.out (bal (Below.refl _ wr) _), ?_, bal hB.out _, ?_⟩
     ·rw [HFT.out, hnext]
      exact hS.out.below (bal (Below.refl _ wr) _)
     ·have := hz.out
      exact St.hid (by simp; omega)
    case measure => simp [intOf]; omega
   ·rw [hmv] at HMV
    have HNE : Hid (∀ r, r = goRow (fallR fall t.m t.r) → goD (mk L) fall gk v = upd gk v r) := St.hid (fun r hr => by unfold goD; rw [show mk L v = t.m from by rw [HT.out], hmv, if_pos rfl, show gk v = t.r from by rw [HT.out], hr])
    go_upto_if 41 with (first | (go_at_call 79; refine (HMV.out _).mono ?_; rintro e w' ⟨rfl, rfl⟩) | (go_at_call 54; refine (HHS.out _).mono ?_; rintro e w' ⟨rfl, rfl⟩))
    have hTB := St.hid (th_box wr t 105)
    have hA := bal (Below.refl _ wr) (.cells #[.int .i64 t.m, .int .i64 t.r.x, .int .i64 t.r.y, .int .i64 t.r.px, .int .i64 t.r.py, .int .i64 t.r.wd, .int .i64 t.r.ht, .int .i64 t.r.ms, .int .i64 t.r.rr] 105)
    have hW4 := St.hid (rowIs_below hX.out hA)
    have hR4 := St.hid (rowIs_below hR.out hA)
    have hI4 := St.hid (owns_below hI.out hA)
    have HM4 := St.hid (hS.out.below hA)
    have HB4 := St.hid (bcall hB.out hA)
    have hz4 : wr.heap.size < (wr.alloc (.cells #[.int .i64 t.m, .int .i64 t.r.x, .int .i64 t.r.y, .int .i64 t.r.px, .int .i64 t.r.py, .int .i64 t.r.wd, .int .i64 t.r.ht, .int .i64 t.r.ms, .int .i64 t.r.rr] 105)).heap.size := by simp
    generalize wr.alloc (.cells #[.int .i64 t.m, .int .i64 t.r.x, .int .i64 t.r.y, .int .i64 t.r.px, .int .i64 t.r.py, .int .i64 t.r.wd, .int .i64 t.r.ht, .int .i64 t.r.ms, .int .i64 t.r.rr] 105) = W at hTB hA hW4 hR4 hI4 HM4 HB4 hz4 ⊢
    clear hX hR hI hS hB i0 hlk x0 x1 x2 x3 x4 xf0 xf1 xf2 xf3 xf4
    obtain ⟨x0, x1, x2, x3, x4, xf0, xf1, xf2, xf3, xf4⟩ := rcells hW4.out
    obtain ⟨t0, t1, t2, t3, t4, t5, t6, t7, t8⟩ := th9 hTB.out
    have tf4 := hTB.out.frozen 4
    go_cut [] (fun wx => ∃ W', W' = wx ∧ W'.rowIs wr.heap.size 105 9 (fun i => (thCells ⟨t.m, fallR fall t.m t.r⟩).getD i undef) ∧ W.grownBy W' (some wr.heap.size))
    case first =>
     cases h16 : hasB t.m 16
     ·go_wp2_with fail
      go_meet
      exact ⟨_, rfl, by rw [show fallR fall t.m t.r = t.r from by simp [fallR, h16]]; exact hTB.out, grown_refl _ _⟩
     ·go_wp2_with (first | (go_at_call 56; refine (addOf_any _ _ _ (by decide) (by decide) _).mono ?_; rintro e w' ⟨rfl, rfl⟩))
      go_meet
      refine ⟨_, rfl, (hTB.out.set 4 _).congr (fun i hi => ?_), grown_set _ _ _ _⟩
      rw [show fallR fall t.m t.r = { t.r with py := ad t.r.py (fall * t.r.ms) 16777216 } from by simp [fallR, h16]]
      match i, hi with
      | 0, _ => rfl
      | 1, _ => rfl
      | 2, _ => rfl
      | 3, _ => rfl
      | 4, _ => rfl
      | 5, _ => rfl
      | 6, _ => rfl
      | 7, _ => rfl
      | 8, _ => rfl
    case rest =>
    obtain ⟨W4, rfl, hTB4, hg4⟩ := hcut
    have hne0 : some wr.heap.size ≠ some w.heap.size := by simp; omega
    have hne1 : some wr.heap.size ≠ some (w.heap.size + 1) := by simp; have := hz.out; omega
    have hneI : ∀ z, (Value.slice (some ⟨gi, 0, none⟩) N ci).ownBlock = some z → some wr.heap.size ≠ some z := fun z hz e => by simp [Value.ownBlock] at hz; simp at e; omega
    obtain ⟨p, HP⟩ : ∃ p, Hid (p = fallR fall t.m t.r) := ⟨_, rfl⟩
    rw [← HP.out] at hTB4
    have hW5 := St.hid (rowIs_grown hW4.out hg4 hne0)
    have hR5 := St.hid (rowIs_grown hR4.out hg4 hne1)
    have hI5 := St.hid (owns_kept hI4.out hg4 hneI)
    have HM5 := St.hid (HM4.out.kept hg4 (fun e => by have := HMZ.out; have := Option.some.inj e; omega))
    have HB5 := St.hid (below_grown HB4.out hg4 (by have := HB4.out.size; omega) (by omega))
    have hz5 := Nat.lt_of_lt_of_le hz4 hg4.size
    have HTB5 := St.hid hTB4
    clear hg4 hTB4 hW4 hR4 hI4 HM4 HB4 hz4 hTB x0 x1 x2 x3 x4 xf0 xf1 xf2 xf3 xf4 t0 t1 t2 t3 t4 t5 t6 t7 t8 tf4
    obtain ⟨t0, t1, t2, t3, t4, t5, t6, t7, t8⟩ := th9 HTB5.out
    simp only at t0 t1 t2 t3 t4 t5 t6 t7 t8
    go_wp2_with fail
    refine (speedOf_any p _).mono ?_
    rintro e w5 ⟨rfl, hb5⟩
    have hW6 := St.hid (rowIs_below hW5.out hb5)
    have hR6 := St.hid (rowIs_below hR5.out hb5)
    have hI6 := St.hid (owns_below hI5.out hb5)
    have HM6 := St.hid (HM5.out.below hb5)
    have HB6 := St.hid (bcall HB5.out hb5)
    have hz6 := Nat.lt_of_lt_of_le hz5 hb5.size
    have HTB6 := St.hid (rowIs_below HTB5.out hb5)
    clear hb5 hW5 hR5 hI5 HM5 HB5 hz5 HTB5 t0 t1 t2 t3 t4 t5 t6 t7 t8
    obtain ⟨t0, t1, t2, t3, t4, t5, t6, t7, t8⟩ := th9 HTB6.out
    simp only at t0 t1 t2 t3 t4 t5 t6 t7 t8
    have tf1 := HTB6.out.frozen 1
    have tf2 := HTB6.out.frozen 2
    go_wp2_with fail
    go_cut [] (fun wx => ∃ W', W' = wx ∧ W'.rowIs wr.heap.size 105 9 (fun i => (thCells ⟨t.m, goRow p⟩).getD i undef) ∧ w5.grownBy W' (some wr.heap.size))
    case first =>
     go_region_with (first | (go_at_call 56; refine (addOf_any _ _ _ (by decide) (by decide) _).mono ?_; rintro e w' ⟨rfl, hw'⟩; subst hw'))
     all_goals
      go_wp2_with fail
      go_meet
      refine ⟨_, rfl, ?_, grown_drew ((grown_set _ _ _ _).trans (grown_set _ _ _ _))⟩
      refine ((HTB6.out.set 1 _).set 2 _).congr (fun i hi => ?_)
      match i, hi with
      | 0, _ => rfl
      | 1, _ => rfl
      | 2, _ => rfl
      | 3, _ => rfl
      | 4, _ => rfl
      | 5, _ => rfl
      | 6, _ => rfl
      | 7, _ => rfl
      | 8, _ => rfl
    case rest =>
    obtain ⟨W6, rfl, hTB7, hg7⟩ := hcut
    obtain ⟨q, HQ⟩ : ∃ q, Hid (q = goRow p) := ⟨_, rfl⟩
    rw [← HQ.out] at hTB7
    have hW7 := St.hid (rowIs_grown hW6.out hg7 hne0)
    have hR7 := St.hid (rowIs_grown hR6.out hg7 hne1)
    have hI7 := St.hid (owns_kept hI6.out hg7 hneI)
    have HM7 := St.hid (HM6.out.kept hg7 (fun e => by have := HMZ.out; have := Option.some.inj e; omega))
    have HB7 := St.hid (below_grown HB6.out hg7 (by have := HB6.out.size; omega) (by omega))
    have hz7 := Nat.lt_of_lt_of_le hz6 hg7.size
    clear hg7 hW6 hR6 hI6 HM6 HB6 hz6 HTB6 t0 t1 t2 t3 t4 t5 t6 t7 t8 tf1 tf2
    obtain ⟨t0, t1, t2, t3, t4, t5, t6, t7, t8⟩ := th9 hTB7
    simp only at t0 t1 t2 t3 t4 t5 t6 t7 t8
    obtain ⟨x0, x1, x2, x3, x4, xf0, xf1, xf2, xf3, xf4⟩ := rcells hW7.out
    go_wp2_with (first | (at_mapUpdate; refine wp_store _ rfl _ _ _ rfl c _ rfl HM7.out HLEN.out v rfl hwf ⟨t.m, q⟩ rfl ?_; intro w8 hm8 ht8))
    have hgt := grown_turn ht8
    have hts := turned_size ht8
    rw [HNX.out q, ← HNE.out q (by rw [HQ.out, HP.out]), ← HFT.out] at hm8
    have hcw : some c ≠ some w.heap.size := by simp; omega
    have hcw1 : some c ≠ some (w.heap.size + 1) := by simp; omega
    have hcI : ∀ z, (Value.slice (some ⟨gi, 0, none⟩) N ci).ownBlock = some z → some c ≠ some z := fun z hz e => by simp [Value.ownBlock] at hz; simp at e; have := HGI.out; omega
    have hW8 := St.hid (rowIs_grown hW7.out hgt hcw)
    have hR8 := St.hid (rowIs_grown hR7.out hgt hcw1)
    have hI8 := St.hid (owns_kept hI7.out hgt hcI)
    have HB8 := St.hid (below_grown HB7.out hgt (by have := HB7.out.size; omega) (by omega))
    have HM8 := St.hid hm8
    clear hgt hm8 ht8
    go_wp2_with fail
    go_roundw
    case rel => exact ⟨k + 1, by omega, by go_num, hW8.out, hR8.out, hI8.out, HM8.out, HB8.out, St.hid (by have := hz.out; omega)⟩
    case measure => simp [intOf]; omega
  ·have hke : k = N := by omega
   have HM9 : Hid (Mp wr c (thM (withRows L (gD L fall)))) := St.hid (by
    have h1 := hS.out
    rw [List.take_of_length_le (by have := HN.out; omega)] at h1
    exact h1)
   have HBX := St.hid (boxesOf_any c next fall wide high HM9.out HGL.out (gD_eq HGL.out fall).2)
   have hzw2 : w.heap.size < wr.heap.size := by have := hz.out; omega
   have HZ9 := St.hid hz.out
   clear HI3 hW3 hR3 HM3 HB3 hI
   go_wp2_with fail
   refine HBX.out.mono ?_
   rintro e w2 ⟨⟨ub, rfl, hub⟩, hb2⟩
   obtain ⟨nb, hnb⟩ : ∃ n, n = (boxG L (gD L fall)).length := ⟨_, rfl⟩
   have hnb10 : nb ≤ 10 := by rw [hnb]; simp only [boxG, List.length_map]; exact ids_len HGL.out
   rw [← hnb] at hub
   obtain ⟨ab', cb, rfl, -⟩ := Sw.owns_slice hub
   have HPR := St.hid (Sw.pairsOfR_any ab' nb cb (boxG L (gD L fall)) w2 hnb (by omega) (owns_cap hub) (boxL_of hub hnb))
   have hW2 := St.hid (rowIs_below hX.out hb2)
   have hR2 := St.hid (rowIs_below hR.out hb2)
   have HM2 := St.hid (HM9.out.below hb2)
   have HB2 := St.hid (bcall hB.out hb2)
   have hz2 := hb2.size
   clear hb2 hub hnb hX hR hB HM9 HBX hS x0 x1 x2 x3 x4 xf0 xf1 xf2 xf3 xf4
   obtain ⟨K, hK⟩ : ∃ K, K = (pD L fall).length := ⟨_, rfl⟩
   have hK100 : K ≤ 100 := by rw [hK]; exact pairs_len _ (by simp only [boxG, List.length_map]; exact ids_len HGL.out)
   go_wp2_with fail
   refine HPR.out.mono ?_
   rintro e w4 ⟨⟨up, rfl, hup⟩, hb4⟩
   rw [show (Sw.pairsG (boxG L (gD L fall))).length = K from by rw [hK]; rfl, show Sw.pairsG (boxG L (gD L fall)) = pD L fall from rfl] at hup
   obtain ⟨ap, cp, rfl, -⟩ := Sw.owns_slice hup
   have hW4 := St.hid (rowIs_below hW2.out hb4)
   have hR4 := St.hid (rowIs_below hR2.out hb4)
   have HM4 := St.hid (HM2.out.below hb4)
   have HB4 := St.hid (bcall HB2.out hb4)
   have HU4 := St.hid hup
   have HKK := St.hid hK
   have HAP : Hid (∀ z, (Value.slice ap K cp).ownBlock = some z → z < w4.heap.size) := St.hid (fun z hz => (hup.lt z hz).2)
   have hz4 := hb4.size
   have hcw2 : c < w2.heap.size := by have := HM2.out.lt; omega
   clear hb4 hup hK hW2 hR2 HM2 HB2 HPR
   go_wp2_with fail
   go_loopw [9, 83] (fun u i wr => ∃ (k : Nat), k ≤ K ∧ i = .int .i64 k ∧ Hid (wr.rowIs w.heap.size 73 5 (wcell (.map (some c)) next fall wide high)) ∧ Hid (wr.rowIs (w.heap.size + 1) 73 5 (wcell (.map none) 0 0 0 0)) ∧ Hid (wr.ownsRow w2.heap.size 54 2 (.slice ap K cp) K ((pD L fall).flatMap Sw.pairCells)) ∧ Hid (wr.ownsRow w4.heap.size 54 2 u (((pD L fall).take k).foldl (meetD (mk L)) (gD L fall, [])).2.length ((((pD L fall).take k).foldl (meetD (mk L)) (gD L fall, [])).2.flatMap Sw.pairCells)) ∧ Hid (Mp wr c (thM (withRows L (((pD L fall).take k).foldl (meetD (mk L)) (gD L fall, [])).1))) ∧ Hid (Below w.heap.size w wr) ∧ Hid (w4.heap.size ≤ wr.heap.size)) (fun _ i _ => K - (intOf i).toNat)
   case atStart => exact ⟨0, Nat.zero_le _, rfl, hW4.out, hR4.out, HU4.out, World.ownsRow_nil _ _ _ _, HM4.out, HB4.out, St.hid (Nat.le_refl _)⟩
   case round =>
    obtain ⟨k, hk, rfl, hX, hR, hI, hO, hS, hB, hz⟩ := hrel
    obtain ⟨x0, x1, x2, x3, x4, xf0, xf1, xf2, xf3, xf4⟩ := rcells hX.out
    by_cases hlt : k < K
    ·obtain ⟨⟨pa, pb⟩, hp⟩ : ∃ x, (pD L fall)[k]? = some x := ⟨_, List.getElem?_eq_getElem (by have := HKK.out; omega)⟩
     obtain ⟨hma, hmb⟩ := pD_all HGL.out fall (pa, pb) (List.mem_of_getElem? hp)
     obtain ⟨st, HST⟩ : ∃ st, Hid (st = ((pD L fall).take k).foldl (meetD (mk L)) (gD L fall, [])) := ⟨_, rfl⟩
     have hok : RowsOk L st.1 := by rw [HST.out]; exact meet_ok HGL.out fall k
     have HFT := St.hid (fold_take (meetD (mk L)) (gD L fall, []) hp)
     rw [← HST.out] at hS hO HFT
     have hml : st.2.length ≤ 100 := by
      rw [HST.out]
      have := met_count (mk L) ((pD L fall).take k) (gD L fall, [])
      simp only [List.length_nil, List.length_take] at this
      have := HKK.out
      omega
     simp only at hma hmb
     obtain ⟨qa, ha2⟩ := at_all HGL.out.even HGL.out.2.2.2.2.2 hma
     obtain ⟨qb, hb2⟩ := at_all HGL.out.even HGL.out.2.2.2.2.2 hmb
     have hga := get_with HGL.out.even HGL.out.2.2.2.2.2 st.1 hma
     have hgb := get_with HGL.out.even HGL.out.2.2.2.2.2 st.1 hmb
     have hqa := hok pa _ qa ha2
     have hqb := hok pb _ qb hb2
     have HPA : Hid (∀ (g : Int → R8) r, putM pa ⟨mk L pa, r⟩ (thM (withRows L g)) = thM (withRows L (upd g pa r))) := St.hid (fun g r => put_with HGL.out.even HGL.out.2.2.2.2.2 g hma r)
     have HPB : Hid (∀ (g : Int → R8) r, putM pb ⟨mk L pb, r⟩ (thM (withRows L g)) = thM (withRows L (upd g pb r))) := St.hid (fun g r => put_with HGL.out.even HGL.out.2.2.2.2.2 g hmb r)
     have HLEN : Hid (∀ g : Int → R8, (thM (withRows L g)).length < maxLen) := St.hid (fun g => by rw [th_len HGL.out]; have := ks_len HGL.out; unfold maxLen; omega)
     obtain ⟨ta, HTA⟩ : ∃ t : Th, Hid (t = ⟨mk L pa, st.1 pa⟩) := ⟨_, rfl⟩
     obtain ⟨tb, HTB⟩ : ∃ t : Th, Hid (t = ⟨mk L pb, st.1 pb⟩) := ⟨_, rfl⟩
     rw [← HTA.out] at hga
     rw [← HTB.out] at hgb
     have ea1 : mk L pa = ta.m := by rw [HTA.out]
     have ea2 : st.1 pa = ta.r := by rw [HTA.out]
     have eb1 : mk L pb = tb.m := by rw [HTB.out]
     have eb2 : st.1 pb = tb.r := by rw [HTB.out]
     rw [ea1, ea2] at hqa
     rw [eb1, eb2] at hqb
     rw [ea1] at HPA
     rw [eb1] at HPB
     have hwfa := hS.out.wf hga
     have hwfb := hS.out.wf hgb
     have HLK : Hid (∀ W, Below wr.heap.size wr W → (Instr.lookup 71 (.map (some c)) (.int .i64 pa) false).run Tryz.prog W = .ok (.agg #[.int .i64 ta.m, .int .i64 ta.r.x, .int .i64 ta.r.y, .int .i64 ta.r.px, .int .i64 ta.r.py, .int .i64 ta.r.wd, .int .i64 ta.r.ht, .int .i64 ta.r.ms, .int .i64 ta.r.rr]) W ∧ (Instr.lookup 71 (.map (some c)) (.int .i64 pb) false).run Tryz.prog W = .ok (.agg #[.int .i64 tb.m, .int .i64 tb.r.x, .int .i64 tb.r.y, .int .i64 tb.r.px, .int .i64 tb.r.py, .int .i64 tb.r.wd, .int .i64 tb.r.ht, .int .i64 tb.r.ms, .int .i64 tb.r.rr]) W) := St.hid (fun W hb => by
      have h1 := (hS.out.below hb).look hwfa
      have h2 := (hS.out.below hb).look hwfb
      rw [hga] at h1
      rw [hgb] at h2
      exact ⟨h1, h2⟩)
     have hmka := mask_in hqa
     have hmkb := mask_in hqb
     have HMA : Hid (∀ W, Calls Tryz.prog 79 #[.int .i64 ta.m] W fun e w' => e = .returned (.bool (hasB ta.m 11)) ∧ w' = W) := St.hid (fun W => moves_any ta.m hmka W)
     have HMB : Hid (∀ W, Calls Tryz.prog 79 #[.int .i64 tb.m] W fun e w' => e = .returned (.bool (hasB tb.m 11)) ∧ w' = W) := St.hid (fun W => moves_any tb.m hmkb W)
     have HFA' := St.hid (free_any ta hmka)
     have HFB' := St.hid (free_any tb hmkb)
     have HME := St.hid (meetRows_any (bodyR ta.m ta.r) (bodyR tb.m tb.r))
     have HOV : Hid (overB (bodyR ta.m ta.r) (bodyR tb.m tb.r) = overG (mk L) st.1 (pa, pb)) := St.hid (by unfold overG; simp only [ea1, ea2, eb1, eb2])
     have HMT : Hid (met (bodyR ta.m ta.r) (bodyR tb.m tb.r) = metD (mk L) st.1 (pa, pb)) := St.hid (by unfold metD; simp only [ea1, ea2, eb1, eb2])
     unfold rowV retV at HME
     generalize bodyR ta.m ta.r = ra at HFA' HME HOV HMT
     generalize bodyR tb.m tb.r = rb at HFB' HME HOV HMT
     obtain ⟨ma, HMMA⟩ : ∃ r, Hid (r = (met ra rb).1) := ⟨_, rfl⟩
     obtain ⟨mb, HMMB⟩ : ∃ r, Hid (r = (met ra rb).2) := ⟨_, rfl⟩
     rw [← HMMA.out, ← HMMB.out] at HME
     generalize overB ra rb = ov at HME HOV
     obtain ⟨gi, cc, hai⟩ := own_some hI.out (by omega)
     simp only [Value.slice.injEq] at hai
     obtain ⟨rfl, -, rfl⟩ := hai
     obtain ⟨i0, i1⟩ := Sw.pair_cells hI.out hp hlt
     simp only at i0 i1
     have hgi4 : gi < w4.heap.size := HAP.out gi rfl
     have hzz := hz.out
     have HGI := St.hid (hI.out.lt gi rfl)
     have HPK := St.hid hp
     have HMZ := St.hid hS.out.lt
     have hlt' : (k : Int) < (K : Int) := by omega
     have hgz : gi < wr.heap.size := (hI.out.lt gi rfl).2
     have hwz : w.heap.size < wr.heap.size := by have := hz.out; omega
     clear ha2 hb2 hga hgb hqa hqb hp hma hmb hok
     go_upto_region 17 with fail
     have hA := bal (Below.refl _ wr) (.cells #[.int .i64 pa, .int .i64 pb] 54)
     have hPB := St.hid (rowIs2 wr (.int .i64 pa) (.int .i64 pb) 54)
     have hX5 := St.hid (rowIs_below hX.out hA)
     have hR5 := St.hid (rowIs_below hR.out hA)
     have hI5 := St.hid (owns_below hI.out hA)
     have hO5 := St.hid (owns_below hO.out hA)
     have HS5 := St.hid (hS.out.below hA)
     have HB5 := St.hid (bcall hB.out hA)
     have HA5 := St.hid hA
     have hz5 : wr.heap.size < (wr.alloc (.cells #[.int .i64 pa, .int .i64 pb] 54)).heap.size := by simp
     generalize wr.alloc (.cells #[.int .i64 pa, .int .i64 pb] 54) = W5 at hPB hX5 hR5 hI5 hO5 HS5 HB5 HA5 hz5 hA ⊢
     have HUB := St.hid (fun z e => hO.out.lt z e)
     clear hX hR hI hO hS hB i0 i1 hA x0 x1 x2 x3 x4 xf0 xf1 xf2 xf3 xf4
     have HS17 : Hid (∀ W, Below W5.heap.size W5 W → W.cell? ⟨w.heap.size, 0, none⟩ = some (.map (some c)) ∧ W.cell? ⟨wr.heap.size, 0, none⟩ = some (.int .i64 pa) ∧ W.cell? ⟨wr.heap.size, 1, none⟩ = some (.int .i64 pb) ∧ (Instr.lookup 71 (.map (some c)) (.int .i64 pa) false).run Tryz.prog W = .ok (.agg #[.int .i64 ta.m, .int .i64 ta.r.x, .int .i64 ta.r.y, .int .i64 ta.r.px, .int .i64 ta.r.py, .int .i64 ta.r.wd, .int .i64 ta.r.ht, .int .i64 ta.r.ms, .int .i64 ta.r.rr]) W ∧ (Instr.lookup 71 (.map (some c)) (.int .i64 pb) false).run Tryz.prog W = .ok (.agg #[.int .i64 tb.m, .int .i64 tb.r.x, .int .i64 tb.r.y, .int .i64 tb.r.px, .int .i64 tb.r.py, .int .i64 tb.r.wd, .int .i64 tb.r.ht, .int .i64 tb.r.ms, .int .i64 tb.r.rr]) W) := St.hid (fun W hb => by
      obtain ⟨x0, -⟩ := rcells (rowIs_below hX5.out hb)
      have p0 := (rowIs_below hPB.out hb).cell (i := 0) (by omega)
      have p1 := (rowIs_below hPB.out hb).cell (i := 1) (by omega)
      simp at p0 p1
      exact ⟨x0, p0, p1, HLK.out W (bcall HA5.out hb)⟩)
     refine Rh.wp_act ?_
     intro A hA
     refine reg17_wp _ A c w.heap.size wr.heap.size pa pb ta tb W5 (by rw [hA]; rfl) (by rw [hA]; rfl) (by rw [hA]; exact Nat.le_of_ble_eq_true rfl) HS17.out ?_
     intro f ab1 bb1 W6 hf1' hf2' hra hrb hla hlb hne hb6
     subst hA
     have hX6 := St.hid (rowIs_below hX5.out hb6)
     have hR6 := St.hid (rowIs_below hR5.out hb6)
     have hI6 := St.hid (owns_below hI5.out hb6)
     have hO6 := St.hid (owns_below hO5.out hb6)
     have HS6 := St.hid (HS5.out.below hb6)
     have HB6 := St.hid (bcall HB5.out hb6)
     have hPB6 := St.hid (rowIs_below hPB.out hb6)
     have hRA6 := St.hid hra
     have hRB6 := St.hid hrb
     have hz6 := Nat.lt_of_lt_of_le hz5 hb6.size
     clear hb6 hra hrb hX5 hR5 hI5 hO5 HS5 HB5 hPB HS17
     simp only [Rh.puts, Act.put, hf1', hf2']
     go_simp
     go_upto_region 19 with fail
     have HS19 : Hid (∀ W, Below W6.heap.size W6 W → W.cell? ⟨ab1, 0, none⟩ = some (.int .i64 ta.m) ∧ W.cell? ⟨ab1, 1, none⟩ = some (.int .i64 ta.r.x) ∧ W.cell? ⟨ab1, 2, none⟩ = some (.int .i64 ta.r.y) ∧ W.cell? ⟨ab1, 3, none⟩ = some (.int .i64 ta.r.px) ∧ W.cell? ⟨ab1, 4, none⟩ = some (.int .i64 ta.r.py) ∧ W.cell? ⟨ab1, 5, none⟩ = some (.int .i64 ta.r.wd) ∧ W.cell? ⟨ab1, 6, none⟩ = some (.int .i64 ta.r.ht) ∧ W.cell? ⟨ab1, 7, none⟩ = some (.int .i64 ta.r.ms) ∧ W.cell? ⟨ab1, 8, none⟩ = some (.int .i64 ta.r.rr) ∧ W.cell? ⟨bb1, 0, none⟩ = some (.int .i64 tb.m) ∧ W.cell? ⟨bb1, 1, none⟩ = some (.int .i64 tb.r.x) ∧ W.cell? ⟨bb1, 2, none⟩ = some (.int .i64 tb.r.y) ∧ W.cell? ⟨bb1, 3, none⟩ = some (.int .i64 tb.r.px) ∧ W.cell? ⟨bb1, 4, none⟩ = some (.int .i64 tb.r.py) ∧ W.cell? ⟨bb1, 5, none⟩ = some (.int .i64 tb.r.wd) ∧ W.cell? ⟨bb1, 6, none⟩ = some (.int .i64 tb.r.ht) ∧ W.cell? ⟨bb1, 7, none⟩ = some (.int .i64 tb.r.ms) ∧ W.cell? ⟨bb1, 8, none⟩ = some (.int .i64 tb.r.rr)) := St.hid (fun W hb => by
      obtain ⟨a0, a1, a2, a3, a4, a5, a6, a7, a8⟩ := th9 (rowIs_below hRA6.out hb)
      obtain ⟨c0, c1, c2, c3, c4, c5, c6, c7, c8⟩ := th9 (rowIs_below hRB6.out hb)
      exact ⟨a0, a1, a2, a3, a4, a5, a6, a7, a8, c0, c1, c2, c3, c4, c5, c6, c7, c8⟩)
     refine Rh.wp_act ?_
     intro A hA
     refine reg19_wp _ A ab1 bb1 ta tb ra rb ma mb ov W6 (by rw [hA]; rfl) (by rw [hA]; rfl) (by rw [hA]; rfl) (by rw [hA]; exact Nat.le_of_ble_eq_true rfl) HFA'.out HFB'.out HME.out HS19.out ?_
     intro f2 xb yb W7 hg1 hg2 hg3 hrx hry hlx hly hne2 hb7
     subst hA
     have hX7 := St.hid (rowIs_below hX6.out hb7)
     have hR7 := St.hid (rowIs_below hR6.out hb7)
     have hI7 := St.hid (owns_below hI6.out hb7)
     have hO7 := St.hid (owns_below hO6.out hb7)
     have HS7 := St.hid (HS6.out.below hb7)
     have HB7 := St.hid (bcall HB6.out hb7)
     have hPB7 := St.hid (rowIs_below hPB6.out hb7)
     have hRA7 := St.hid (rowIs_below hRA6.out hb7)
     have hRB7 := St.hid (rowIs_below hRB6.out hb7)
     have hRX7 := St.hid hrx
     have hRY7 := St.hid hry
     have hz7 := Nat.lt_of_lt_of_le hz6 hb7.size
     clear hb7 hrx hry hX6 hR6 hI6 hO6 HS6 HB6 hPB6 hRA6 hRB6 HS19
     simp only [Rh.puts, Act.put, hg1, hg2, hg3]
     go_simp
     cases ov
     ·have hnext : meetD (mk L) st (pa, pb) = st := by unfold meetD; rw [← HOV.out]; rfl
      go_wp2_with fail
      go_roundw
      case rel =>
       refine ⟨k + 1, by omega, by go_num, hX7.out, hR7.out, hI7.out, ?_, ?_, HB7.out, St.hid (by have := hz.out; omega)⟩
       ·rw [HFT.out, hnext]
        exact hO7.out
       ·rw [HFT.out, hnext]
        exact HS7.out
      case measure => simp [intOf]; omega
     ·have HNXT : Hid (meetD (mk L) st (pa, pb) = (putA (mk L) (putA (mk L) st.1 pa ma) pb mb, st.2 ++ [(pa, pb)])) := St.hid (by
       unfold meetD
       rw [← HOV.out, if_pos rfl, HMMA.out, HMMB.out, HMT.out])
      obtain ⟨n, HN2⟩ : ∃ n, Hid (n = st.2.length) := ⟨_, rfl⟩
      rw [← HN2.out] at hO7
      have hn100 : n ≤ 100 := by rw [HN2.out]; exact hml
      have p0 := hPB7.out.cell (i := 0) (by omega)
      have p1 := hPB7.out.cell (i := 1) (by omega)
      simp at p0 p1
      go_wp2_with (at_builtin; refine wpList_append_own_at _ rfl _ _ 29 rfl w4.heap.size 54 i79 (.agg #[.int .i64 0, .int .i64 0]) 2 16 Tryz.underlying29 hi79 hz79 hs79 hb79 rfl (by decide) _ _ _ rfl (hO7.out.alloc _) ⟨W7.heap.size, 0, none⟩ 1 1 [.int .i64 pa, .int .i64 pb] rfl ?c1 ?c2 ?c3 ?c4 ?c5 ?c6 ?_)
      case c1 => rfl
      case c2 =>
       intro j u hj
       match j, hj with
       | 0, hj => cases hj; simp [Addr.add]
       | 1, hj => cases hj; simp [Addr.add]
      case c3 => intro u hu; simp at hu; rcases hu with rfl | rfl <;> rfl
      case c4 => unfold maxLen; omega
      case c5 => omega
      case c6 => simp; omega
      intro v8 w8 hown8 hg8 _ hat8
      have hul := fun z (e : u9.ownBlock = some z) => HUB.out z e
      have hA8 := bal (Below.refl _ W7) (.cells #[.int .i64 pa, .int .i64 pb] 54)
      have hX8 := St.hid (rowIs_grown (rowIs_below hX7.out hA8) hg8 (fun e => by have := (hul _ e).1; have := hz.out; omega))
      have hR8 := St.hid (rowIs_grown (rowIs_below hR7.out hA8) hg8 (fun e => by have := (hul _ e).1; have := hz.out; omega))
      have hI8 := St.hid (owns_kept (owns_below hI7.out hA8) hg8 (fun z e e2 => by simp [Value.ownBlock] at e; have := (hul _ e2).1; have := HGI.out; omega))
      have HS8 := St.hid ((HS7.out.below hA8).kept hg8 (fun e => by have := (hul _ e.symm).1; omega))
      have HB8 := St.hid ((bcall HB7.out hA8).grown hg8 (bcall HB7.out hA8).size (fun z e => by have := (hul _ e).1; omega))
      have hPB8 := St.hid (rowIs_grown (rowIs_below hPB7.out hA8) hg8 (fun e => by have := (hul _ e).2; omega))
      have hRA8 := St.hid (rowIs_grown (rowIs_below hRA7.out hA8) hg8 (fun e => by have := (hul _ e).2; omega))
      have hRB8 := St.hid (rowIs_grown (rowIs_below hRB7.out hA8) hg8 (fun e => by have := (hul _ e).2; omega))
      have hRX8 := St.hid (rowIs_grown (rowIs_below hRX7.out hA8) hg8 (fun e => by have := (hul _ e).2; omega))
      have hRY8 := St.hid (rowIs_grown (rowIs_below hRY7.out hA8) hg8 (fun e => by have := (hul _ e).2; omega))
      have hz8 : W7.heap.size < w8.heap.size := by have := hg8.size; simp at this; omega
      have HO8 := St.hid hown8
      clear hown8 hg8 hat8 hA8 hX7 hR7 hI7 hO7 HS7 HB7 hPB7 hRA7 hRB7 hRX7 hRY7 p0 p1
      obtain ⟨a0, a1, a2, a3, a4, a5, a6, a7, a8⟩ := th9 hRA8.out
      obtain ⟨x0, -⟩ := rcells hX8.out
      have p0 := hPB8.out.cell (i := 0) (by omega)
      have p1 := hPB8.out.cell (i := 1) (by omega)
      simp at p0 p1
      obtain ⟨r0, r1, r2, r3, r4, r5, r6, r7⟩ := row8c hRX8.out
      go_upto_if 116 with (first | (go_at_call 79; refine (HMA.out _).mono ?_; rintro e w' ⟨rfl, hw'⟩; replace hw' := hw'.symm; subst hw'))
      go_cut [] (fun wx => ∃ W', W' = wx ∧ Mp W' c (thM (withRows L (putA (mk L) st.1 pa ma))) ∧ w8.grownBy W' (some c))
      case first =>
       cases hva : hasB ta.m 11
       ·go_wp2_with fail
        go_meet
        exact ⟨_, rfl, by rw [show putA (mk L) st.1 pa ma = st.1 from by unfold putA; rw [ea1, hva]; rfl]; exact HS8.out, grown_refl _ _⟩
       ·go_wp2_with (first | (at_mapUpdate; refine wp_store _ rfl _ _ _ rfl c _ rfl HS8.out (HLEN.out _) pa rfl hwfa ⟨ta.m, ma⟩ rfl ?_; intro w9 hm9 ht9))
        go_wp2_with fail
        go_meet
        refine ⟨_, rfl, ?_, grown_turn ht9⟩
        rw [show putA (mk L) st.1 pa ma = upd st.1 pa ma from by unfold putA; rw [ea1, hva]; rfl, ← HPA.out]
        exact hm9
      case rest =>
      obtain ⟨W9, rfl, hm9, hg9⟩ := hcut
      have hcI : ∀ z, (Value.slice (some ⟨gi, 0, none⟩) K cp).ownBlock = some z → some c ≠ some z := fun z hz e => by simp [Value.ownBlock] at hz; simp at e; have := HGI.out; omega
      have hcz9 : c < wr.heap.size := by have := HMZ.out; omega
      have hX9 := St.hid (rowIs_grown hX8.out hg9 (by simp; omega))
      have hR9 := St.hid (rowIs_grown hR8.out hg9 (by simp; omega))
      have hI9 := St.hid (owns_kept hI8.out hg9 hcI)
      have HO9 := St.hid (owns_kept HO8.out hg9 (fun z e e2 => by have := (HO8.out.lt z e).1; simp at e2; omega))
      have HB9 := St.hid (below_grown HB8.out hg9 (by have := HB8.out.size; omega) (by omega))
      have hPB9 := St.hid (rowIs_grown hPB8.out hg9 (by simp; omega))
      have hRB9 := St.hid (rowIs_grown hRB8.out hg9 (by simp; omega))
      have hRY9 := St.hid (rowIs_grown hRY8.out hg9 (by simp; omega))
      have HS9 := St.hid hm9
      have hz9 := Nat.lt_of_lt_of_le hz8 hg9.size
      clear hg9 hm9 hX8 hR8 hI8 HO8 HS8 HB8 hPB8 hRA8 hRB8 hRX8 hRY8 a0 a1 a2 a3 a4 a5 a6 a7 a8 x0 p0 p1 r0 r1 r2 r3 r4 r5 r6 r7
      obtain ⟨a0, a1, a2, a3, a4, a5, a6, a7, a8⟩ := th9 hRB9.out
      obtain ⟨x0, -⟩ := rcells hX9.out
      have p0 := hPB9.out.cell (i := 0) (by omega)
      have p1 := hPB9.out.cell (i := 1) (by omega)
      simp at p0 p1
      obtain ⟨r0, r1, r2, r3, r4, r5, r6, r7⟩ := row8c hRY9.out
      go_upto_if 127 with (first | (go_at_call 79; refine (HMB.out _).mono ?_; rintro e w' ⟨rfl, hw'⟩; replace hw' := hw'.symm; subst hw'))
      cases hvb : hasB tb.m 11
      ·have HS10 : Hid (Mp W9 c (thM (withRows L (putA (mk L) (putA (mk L) st.1 pa ma) pb mb)))) := St.hid (by rw [show ∀ g, putA (mk L) g pb mb = g from fun g => by unfold putA; rw [eb1, hvb]; rfl]; exact HS9.out)
       have hX10 := hX9
       have hR10 := hR9
       have hI10 := hI9
       have HO10 := HO9
       have HB10 := HB9
       have hz10 := hz9
       go_wp2_with fail
       go_roundw
       case rel =>
        refine ⟨k + 1, by omega, by go_num, hX10.out, hR10.out, hI10.out, ?_, ?_, HB10.out, St.hid (by have := hz.out; omega)⟩
        ·rw [HFT.out, HNXT.out]
         have h1 := HO10.out
         rw [HN2.out] at h1
         simp only [List.length_append, List.length_cons, List.length_nil, List.flatMap_append]
         exact h1
        ·rw [HFT.out, HNXT.out]
         exact HS10.out
       case measure => simp [intOf]; omega
      ·go_wp2_with (first | (at_mapUpdate; refine wp_store _ rfl _ _ _ rfl c _ rfl HS9.out (HLEN.out _) pb rfl hwfb ⟨tb.m, mb⟩ rfl ?_; intro w10 hm10 ht10))
       have hg10 := grown_turn ht10
       rw [HPB.out, show ∀ g, upd g pb mb = putA (mk L) g pb mb from fun g => by unfold putA; rw [eb1, hvb]; rfl] at hm10
       have hX10 := St.hid (rowIs_grown hX9.out hg10 (by simp; omega))
       have hR10 := St.hid (rowIs_grown hR9.out hg10 (by simp; omega))
       have hI10 := St.hid (owns_kept hI9.out hg10 hcI)
       have HO10 := St.hid (owns_kept HO9.out hg10 (fun z e e2 => by have := (HO9.out.lt z e).1; simp at e2; omega))
       have HB10 := St.hid (below_grown HB9.out hg10 (by have := HB9.out.size; omega) (by omega))
       have HS10 := St.hid hm10
       have hz10 := Nat.lt_of_lt_of_le hz9 hg10.size
       clear hg10 hm10 ht10
       go_wp2_with fail
       go_roundw
       case rel =>
        refine ⟨k + 1, by omega, by go_num, hX10.out, hR10.out, hI10.out, ?_, ?_, HB10.out, St.hid (by have := hz.out; omega)⟩
        ·rw [HFT.out, HNXT.out]
         have h1 := HO10.out
         rw [HN2.out] at h1
         simp only [List.length_append, List.length_cons, List.length_nil, List.flatMap_append]
         exact h1
        ·rw [HFT.out, HNXT.out]
         exact HS10.out
       case measure => simp [intOf]; omega
    ·have hke2 : k = K := by omega
     have HM9 : Hid (Mp wr c (thM (withRows L (mD L fall).1))) := St.hid (by
      have h1 := hS.out
      rw [List.take_of_length_le (by have := HKK.out; omega)] at h1
      exact h1)
     have HU9 : Hid (wr.ownsRow w4.heap.size 54 2 u9 (mD L fall).2.length ((mD L fall).2.flatMap Sw.pairCells)) := St.hid (by
      have h1 := hO.out
      rw [List.take_of_length_le (by have := HKK.out; omega)] at h1
      exact h1)
     have hlen2 : (thM (withRows L (mD L fall).1)).length ≤ 1000000 := by rw [th_len HGL.out]; have := ks_len HGL.out; omega
     have HSO := St.hid (sorted_any c _ wr HM9.out hlen2)
     have HUB := St.hid (fun z e => hO.out.lt z e)
     have hcz2 := HM9.out.lt
     have hzw3 : w.heap.size < wr.heap.size := by have := hz.out; omega
     have HZ2 := St.hid hz.out
     clear hW4 hR4 HU4 HM4 HB4 hI hO hS
     go_wp2_with fail
     refine HSO.out.mono ?_
     rintro e w6 ⟨⟨uj, rfl, hid1⟩, hb6⟩
     rw [show (thM (withRows L (mD L fall).1)).length = N from by rw [th_len HGL.out]; exact HN.out.symm, ks_with HGL.out.even] at hid1
     obtain ⟨aj, cj, rfl, -⟩ := Sw.owns_slice hid1
     have hW6 := St.hid (rowIs_below hX.out hb6)
     have hR6 := St.hid (rowIs_below hR.out hb6)
     have HM6 := St.hid (HM9.out.below hb6)
     have HB6 := St.hid (bcall hB.out hb6)
     have HU6 := St.hid (owns_below HU9.out hb6)
     have HI6 := St.hid hid1
     have hz6 := hb6.size
     clear hb6 hid1 hX hR hB HM9 HSO HU9 x0 x1 x2 x3 x4 xf0 xf1 xf2 xf3 xf4
     generalize hwb : wr.heap.size = B6 at HI6 hcz2 hz6 HUB hzw3 HZ2
     go_wp2_with fail
     go_loopw [141] (fun i wr => ∃ k : Nat, k ≤ N ∧ i = .int .i64 k ∧ Hid (wr.rowIs w.heap.size 73 5 (wcell (.map (some c)) next fall wide high)) ∧ Hid (wr.rowIs (w.heap.size + 1) 73 5 (wcell (.map none) 0 0 0 0)) ∧ Hid (wr.ownsRow B6 3 1 (.slice aj N cj) N ((ks L).map (Value.int .i64))) ∧ Hid (wr.ownsRow w4.heap.size 54 2 u9 (mD L fall).2.length ((mD L fall).2.flatMap Sw.pairCells)) ∧ Hid (Mp wr c (thM (withRows L (((ks L).take k).foldl (wallD (mk L) wide high) (mD L fall).1)))) ∧ Hid (Below w.heap.size w wr) ∧ Hid (w6.heap.size ≤ wr.heap.size)) (fun i _ => N - (intOf i).toNat)
     case atStart => exact ⟨0, Nat.zero_le _, rfl, hW6.out, hR6.out, HI6.out, HU6.out, HM6.out, HB6.out, St.hid (Nat.le_refl _)⟩
     case round =>
      clear hwb
      obtain ⟨k, hk, rfl, hX, hR, hI, hO, hS, hB, hz⟩ := hrel
      obtain ⟨x0, x1, x2, x3, x4, xf0, xf1, xf2, xf3, xf4⟩ := rcells hX.out
      by_cases hlt : k < N
      ·obtain ⟨v, hv⟩ : ∃ x, (ks L)[k]? = some x := ⟨_, List.getElem?_eq_getElem (by have := HN.out; omega)⟩
       have hmem : v ∈ allL L := ks_all HGL.out v (List.mem_of_getElem? hv)
       obtain ⟨gk, HGK⟩ : ∃ gk, Hid (gk = ((ks L).take k).foldl (wallD (mk L) wide high) (mD L fall).1) := ⟨_, rfl⟩
       have hok : RowsOk L gk := by rw [HGK.out]; exact wall_ok HGL.out fall wide high k
       rw [← HGK.out] at hS
       obtain ⟨q0, h2⟩ := at_all HGL.out.even HGL.out.2.2.2.2.2 hmem
       have hgm := get_with HGL.out.even HGL.out.2.2.2.2.2 gk hmem
       have hqb := hok v _ q0 h2
       have HNX : Hid (∀ r, putM v ⟨mk L v, r⟩ (thM (withRows L gk)) = thM (withRows L (upd gk v r))) := St.hid (fun r => put_with HGL.out.even HGL.out.2.2.2.2.2 gk hmem r)
       have HLEN : Hid ((thM (withRows L gk)).length < maxLen) := St.hid (by rw [th_len HGL.out]; have := ks_len HGL.out; unfold maxLen; omega)
       obtain ⟨t, HT⟩ : ∃ t : Th, Hid (t = ⟨mk L v, gk v⟩) := ⟨_, rfl⟩
       rw [← HT.out] at hgm
       rw [show gk v = t.r from by rw [HT.out], show mk L v = t.m from by rw [HT.out]] at hqb
       rw [show mk L v = t.m from by rw [HT.out]] at HNX
       have hwf := hS.out.wf hgm
       have hlk := hS.out.look hwf
       rw [hgm] at hlk
       simp only [Option.getD_some, thV] at hlk
       have hmk := mask_in hqb
       have HMV : Hid (∀ W, Calls Tryz.prog 79 #[.int .i64 t.m] W fun e w' => e = .returned (.bool (hasB t.m 11)) ∧ w' = W) := St.hid (fun W => moves_any t.m hmk W)
       have HQB := St.hid hqb
       obtain ⟨b1, b2, b3, b4, b5, b6, b7, b8⟩ := row_bounds hqb
       obtain ⟨gi, cc, hai⟩ := own_some hI.out (by omega)
       simp only [Value.slice.injEq] at hai
       obtain ⟨rfl, -, rfl⟩ := hai
       have i0 : wr.cell? ⟨gi, k, none⟩ = some (.int .i64 v) := by rw [hI.out.cellAt k (by omega), List.getElem?_map, hv]; rfl
       have HGI := St.hid (hI.out.lt gi rfl)
       have HV := St.hid hv
       have HMZ := St.hid hS.out.lt
       have hlt' : (k : Int) < (N : Int) := by omega
       have hwz : w.heap.size < wr.heap.size := by have := hz.out; omega
       have hgz : gi < wr.heap.size := (hI.out.lt gi rfl).2
       clear h2 hqb hmem hv hgm hok
       have HFT := St.hid (fold_take (wallD (mk L) wide high) (mD L fall).1 HV.out)
       rw [← HGK.out] at HFT
       obtain ⟨wl1, wl2, wl3, wl4⟩ := wall_in HQB.out
       have HWW : Hid (∀ W, Calls Tryz.prog 84 #[.int .i64 t.r.x, .int .i64 t.r.px, .int .i64 t.r.wd, .int .i64 wide, .int .i64 t.r.rr] W fun e w' => e = .returned (.tuple #[.int .i64 (wallAt t.r.x t.r.wd wide), .int .i64 (wallPush t.r.x t.r.px t.r.wd wide t.r.rr)]) ∧ w' = W) := St.hid (fun W => wallOf_any _ _ _ _ _ wl1 wl3 (by have := HWD.out; omega) W)
       have HWH : Hid (∀ W, Calls Tryz.prog 84 #[.int .i64 t.r.y, .int .i64 t.r.py, .int .i64 t.r.ht, .int .i64 high, .int .i64 t.r.rr] W fun e w' => e = .returned (.tuple #[.int .i64 (wallAt t.r.y t.r.ht high), .int .i64 (wallPush t.r.y t.r.py t.r.ht high t.r.rr)]) ∧ w' = W) := St.hid (fun W => wallOf_any _ _ _ _ _ wl2 wl4 (by have := HHG.out; omega) W)
       clear wl1 wl2 wl3 wl4
       cases hmv : hasB t.m 11
       ·have hnext : wallD (mk L) wide high gk v = gk := by unfold wallD; rw [show mk L v = t.m from by rw [HT.out], hmv]; rfl
        rw [hmv] at HMV
        go_wp2_with (first | (go_at_call 79; refine (HMV.out _).mono ?_; rintro e w' ⟨rfl, rfl⟩))
        go_roundw
        case rel =>
         refine ⟨k + 1, by omega, by go_num, rowIs_below hX.out (bal (Below.refl _ wr) _), rowIs_below hR.out (bal (Below.refl _ wr) _), owns_below hI.out (bal (Below.refl _ wr) _), owns_below hO.out (bal (Below.refl _ wr) _), ?_, bal hB.out _, ?_⟩
         ·rw [HFT.out, hnext]
          exact hS.out.below (bal (Below.refl _ wr) _)
         ·have := hz.out
          exact St.hid (by simp; omega)
        case measure => simp [intOf]; omega
       ·rw [hmv] at HMV
        have HNE : Hid (∀ r, r = wallY high (wallX wide t.r) → wallD (mk L) wide high gk v = upd gk v r) := St.hid (fun r hr => by unfold wallD; rw [show mk L v = t.m from by rw [HT.out], hmv, if_pos rfl, show gk v = t.r from by rw [HT.out], hr])
        go_upto_if 151 with (first | (go_at_call 79; refine (HMV.out _).mono ?_; rintro e w' ⟨rfl, rfl⟩))
        have hTB := St.hid (th_box wr t 105)
        have hA := bal (Below.refl _ wr) (.cells #[.int .i64 t.m, .int .i64 t.r.x, .int .i64 t.r.y, .int .i64 t.r.px, .int .i64 t.r.py, .int .i64 t.r.wd, .int .i64 t.r.ht, .int .i64 t.r.ms, .int .i64 t.r.rr] 105)
        have hW4 := St.hid (rowIs_below hX.out hA)
        have hR4 := St.hid (rowIs_below hR.out hA)
        have hI4 := St.hid (owns_below hI.out hA)
        have HM4 := St.hid (hS.out.below hA)
        have HB4 := St.hid (bcall hB.out hA)
        have hz4 : wr.heap.size < (wr.alloc (.cells #[.int .i64 t.m, .int .i64 t.r.x, .int .i64 t.r.y, .int .i64 t.r.px, .int .i64 t.r.py, .int .i64 t.r.wd, .int .i64 t.r.ht, .int .i64 t.r.ms, .int .i64 t.r.rr] 105)).heap.size := by simp
        generalize wr.alloc (.cells #[.int .i64 t.m, .int .i64 t.r.x, .int .i64 t.r.y, .int .i64 t.r.px, .int .i64 t.r.py, .int .i64 t.r.wd, .int .i64 t.r.ht, .int .i64 t.r.ms, .int .i64 t.r.rr] 105) = W at hTB hA hW4 hR4 hI4 HM4 HB4 hz4 ⊢
        have hO4 := St.hid (owns_below hO.out hA)
        clear hX hR hI hS hB hO i0 hlk x0 x1 x2 x3 x4 xf0 xf1 xf2 xf3 xf4
        obtain ⟨x0, x1, x2, x3, x4, xf0, xf1, xf2, xf3, xf4⟩ := rcells hW4.out
        obtain ⟨t0, t1, t2, t3, t4, t5, t6, t7, t8⟩ := th9 hTB.out
        have tf1 := hTB.out.frozen 1
        have tf2 := hTB.out.frozen 2
        have tf3 := hTB.out.frozen 3
        have tf4 := hTB.out.frozen 4
        have HUL := St.hid (fun z (e : u9.ownBlock = some z) => hO4.out.lt z e)
        have HUL2 := St.hid (fun z (e : u9.ownBlock = some z) => HUB.out z e)
        obtain ⟨ax, HAX⟩ : ∃ x, Hid (x = wallAt t.r.x t.r.wd wide) := ⟨_, rfl⟩
        obtain ⟨ux, HUX⟩ : ∃ x, Hid (x = wallPush t.r.x t.r.px t.r.wd wide t.r.rr) := ⟨_, rfl⟩
        obtain ⟨ay, HAY⟩ : ∃ x, Hid (x = wallAt t.r.y t.r.ht high) := ⟨_, rfl⟩
        obtain ⟨uy, HUY⟩ : ∃ x, Hid (x = wallPush t.r.y t.r.py t.r.ht high t.r.rr) := ⟨_, rfl⟩
        rw [← HAX.out, ← HUX.out] at HWW
        rw [← HAY.out, ← HUY.out] at HWH
        have HQ : Hid (({ t.r with x := ax, y := ay, px := ux, py := uy } : R8) = wallY high (wallX wide t.r)) := St.hid (by rw [HAX.out, HUX.out, HAY.out, HUY.out]; rfl)
        go_upto_region 32 with fail
        go_cut [] (fun wx => ∃ W', W' = wx ∧ W'.rowIs wr.heap.size 105 9 (fun i => (thCells ⟨t.m, { t.r with x := ax, px := ux }⟩).getD i undef) ∧ W.grownBy W' (some wr.heap.size))
        case first =>
         go_wp2_with (first | (go_at_call 84; refine (HWW.out _).mono ?_; rintro e w' ⟨rfl, hw'⟩; replace hw' := hw'.symm; subst hw'))
         go_meet
         refine ⟨_, rfl, ((hTB.out.set 1 _).set 3 _).congr (fun i hi => ?_), (grown_set _ _ _ _).trans (grown_set _ _ _ _)⟩
         match i, hi with
         | 0, _ => rfl
         | 1, _ => rfl
         | 2, _ => rfl
         | 3, _ => rfl
         | 4, _ => rfl
         | 5, _ => rfl
         | 6, _ => rfl
         | 7, _ => rfl
         | 8, _ => rfl
        case rest =>
        obtain ⟨W4, rfl, hTB4, hg4⟩ := hcut
        have HTB4 := St.hid hTB4
        have hX4 := St.hid (rowIs_grown hW4.out hg4 (by simp; omega))
        have hz44 := Nat.lt_of_lt_of_le hz4 hg4.size
        have HG4 := St.hid hg4
        clear hg4 hTB4 x0 x1 x2 x3 x4 xf0 xf1 xf2 xf3 xf4 t0 t1 t2 t3 t4 t5 t6 t7 t8 tf1 tf2 tf3 tf4
        obtain ⟨x0, x1, x2, x3, x4, -, -, -, -, -⟩ := rcells hX4.out
        obtain ⟨t0, t1, t2, t3, t4, t5, t6, t7, t8⟩ := th9 HTB4.out
        simp only at t0 t1 t2 t3 t4 t5 t6 t7 t8
        have tf2 := HTB4.out.frozen 2
        have tf4 := HTB4.out.frozen 4
        go_upto_region 33 with fail
        go_cut [] (fun wx => ∃ W', W' = wx ∧ W'.rowIs wr.heap.size 105 9 (fun i => (thCells ⟨t.m, { t.r with x := ax, y := ay, px := ux, py := uy }⟩).getD i undef) ∧ W4.grownBy W' (some wr.heap.size))
        case first =>
         go_wp2_with (first | (go_at_call 84; refine (HWH.out _).mono ?_; rintro e w' ⟨rfl, hw'⟩; replace hw' := hw'.symm; subst hw'))
         go_meet
         refine ⟨_, rfl, ((HTB4.out.set 2 _).set 4 _).congr (fun i hi => ?_), (grown_set _ _ _ _).trans (grown_set _ _ _ _)⟩
         match i, hi with
         | 0, _ => rfl
         | 1, _ => rfl
         | 2, _ => rfl
         | 3, _ => rfl
         | 4, _ => rfl
         | 5, _ => rfl
         | 6, _ => rfl
         | 7, _ => rfl
         | 8, _ => rfl
        case rest =>
        obtain ⟨W5, rfl, hTB5, hg5'⟩ := hcut
        have hg5 := HG4.out.trans hg5'
        clear hg5' hX4 hz44 HTB4 x0 x1 x2 x3 x4 t0 t1 t2 t3 t4 t5 t6 t7 t8 tf2 tf4
        have hne0 : some wr.heap.size ≠ some w.heap.size := by simp; omega
        have hne1 : some wr.heap.size ≠ some (w.heap.size + 1) := by simp; have := hz.out; omega
        have hneI : ∀ z, (Value.slice (some ⟨gi, 0, none⟩) N cj).ownBlock = some z → some wr.heap.size ≠ some z := fun z hz e => by simp [Value.ownBlock] at hz; simp at e; omega
        have hW7 := St.hid (rowIs_grown hW4.out hg5 hne0)
        have hR7 := St.hid (rowIs_grown hR4.out hg5 hne1)
        have hI7 := St.hid (owns_kept hI4.out hg5 hneI)
        have hO7 := St.hid (owns_kept hO4.out hg5 (fun z e e2 => by have := (HUL2.out z e).2; simp at e2; have := hz.out; omega))
        have HM7 := St.hid (HM4.out.kept hg5 (fun e => by have := HMZ.out; have := Option.some.inj e; omega))
        have HB7 := St.hid (below_grown HB4.out hg5 (by have := HB4.out.size; omega) (by omega))
        have hz7 := Nat.lt_of_lt_of_le hz4 hg5.size
        clear hg5 hW4 hR4 hI4 hO4 HM4 HB4 hz4 hTB
        obtain ⟨t0, t1, t2, t3, t4, t5, t6, t7, t8⟩ := th9 hTB5
        simp only at t0 t1 t2 t3 t4 t5 t6 t7 t8
        obtain ⟨x0, x1, x2, x3, x4, xf0, xf1, xf2, xf3, xf4⟩ := rcells hW7.out
        go_wp2_with (first | (at_mapUpdate; refine wp_store _ rfl _ _ _ rfl c _ rfl HM7.out HLEN.out v rfl hwf ⟨t.m, { t.r with x := ax, y := ay, px := ux, py := uy }⟩ rfl ?_; intro w8 hm8 ht8))
        have hgt := grown_turn ht8
        have hts := turned_size ht8
        rw [HNX.out, ← HNE.out _ HQ.out, ← HFT.out] at hm8
        have hcw : some c ≠ some w.heap.size := by simp; omega
        have hcw1 : some c ≠ some (w.heap.size + 1) := by simp; omega
        have hcI : ∀ z, (Value.slice (some ⟨gi, 0, none⟩) N cj).ownBlock = some z → some c ≠ some z := fun z hz e => by simp [Value.ownBlock] at hz; simp at e; have := HGI.out; omega
        have hW8 := St.hid (rowIs_grown hW7.out hgt hcw)
        have hR8 := St.hid (rowIs_grown hR7.out hgt hcw1)
        have hI8 := St.hid (owns_kept hI7.out hgt hcI)
        have hO8 := St.hid (owns_kept hO7.out hgt (fun z e e2 => by have := (HUL2.out z e).1; simp at e2; omega))
        have HB8 := St.hid (below_grown HB7.out hgt (by have := HB7.out.size; omega) (by omega))
        have HM8 := St.hid hm8
        clear hgt hm8 ht8
        go_wp2_with fail
        go_roundw
        case rel => exact ⟨k + 1, by omega, by go_num, hW8.out, hR8.out, hI8.out, hO8.out, HM8.out, HB8.out, St.hid (by have := hz.out; omega)⟩
        case measure => simp [intOf]; omega
      ·have hke3 : k = N := by omega
       have hse := step_eq HGL.out fall wide high
       have h1 := hS.out
       rw [List.take_of_length_le (by have := HN.out; omega), show (ks L).foldl (wallD (mk L) wide high) (mD L fall).1 = (Wd.stepG L fall wide high).1 from by rw [← hse]] at h1
       have h2 := hO.out
       rw [show (mD L fall).2 = (Wd.stepG L fall wide high).2 from by rw [← hse]] at h2
       have HH1 := St.hid h1
       have HH2 := St.hid h2
       have hrw := hX.out.lt
       have hrw1 := hR.out.lt
       obtain ⟨y0, y1, y2, y3, y4, yf0, yf1, yf2, yf3, yf4⟩ := rcells hR.out
       clear h1 h2 hse hS hO
       go_wp2_with fail
       refine bodyPost_ret (v := .tuple #[.agg #[.map (some c), .int .i64 next, .int .i64 fall, .int .i64 wide, .int .i64 high], u9]) (by simp [results, Tryz.results51, go_sem, y0, y1, y2, y3, y4]) rfl ⟨⟨c, u9, rfl, by omega, ?_, ?_⟩, ?_⟩
       ·exact mp_put5 HH1.out (by omega) _ _ _ _ _
       ·exact owns_mono (owns_kept HH2.out (grown5 wr (w.heap.size + 1) _ next fall wide high) (fun z e e2 => by have := (HH2.out.lt z e).1; simp at e2; omega)) (by omega)
       ·exact below5 hB.out (by omega) _ _ _ _ _
end Ws
end Go.Proofs.YtckkkdldljhehacGreat
