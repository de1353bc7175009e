/- Part of the proofs of GamePlays and GameRuns (package ninepinslaw): contracts of the functions that they call. -/
import Derived.Test.YtckkkdldljhehacGreatPkG
namespace Go.Proofs.YtckkkdldljhehacGreat
namespace Wd
open Num St
open Go.ChangeShapes Go.WideShapes Go.ChangeAt Go.RowKit
attribute [local go_sem ↓] Go.wp_at_zero Go.wp_at_succ
set_option maxHeartbeats 8000000 in
set_option maxRecDepth 100000 in
theorem goOn_any {F : Nat → Prop} {v : Value} {L : List Tab} {g : Int → R8} {w : World} (next fall wide high : Int) (h : Sto w F v (withRows L g)) (hg : GoodL next L) (hr : RowsOk L g) (hf : -64 ≤ fall ∧ fall ≤ 64) :
  Calls Tryz.prog 97 #[.agg #[v, .int .i64 next, .int .i64 fall, .int .i64 wide, .int .i64 high]] w fun e w' =>
   (∃ a n c, e = .returned (.agg #[.slice a n c, .int .i64 next, .int .i64 fall, .int .i64 wide, .int .i64 high]) ∧ ∃ F', Sto w' F' (.slice a n c) (withRows L (goOnG (mk L) fall (idsOf 11 L) g)) ∧ ∀ b, F' b → F b ∨ w.heap.size ≤ b) ∧ Below w.heap.size w w' := by
 obtain ⟨a, n, cap, rfl⟩ := h.one
 have HST := St.hid h
 have HGL := St.hid hg
 have HRO := St.hid hr
 obtain ⟨hf1, hf2⟩ := hf
 have hgw := good_with hg hr
 have hids := ids_with 11 L g
 clear h hg hr
 go_enter Tryz.func97, Tryz.ntmps97
 go_wp2_with fail
 have hW0 := St.hid ((rowIs5 w (.slice a n cap) next fall wide high 45).alloc (.cells #[.slice none 0 0, .int .i64 0, .int .i64 0, .int .i64 0, .int .i64 0] 45))
 have hR0 := St.hid (rowIs5 (w.alloc (.cells #[.slice a n cap, .int .i64 next, .int .i64 fall, .int .i64 wide, .int .i64 high] 45)) (.slice none 0 0) 0 0 0 0 45)
 rw [World.size_alloc] at hR0
 refine ((HST.out.below (bal (bal (Below.refl _ _) _) _)).query hgw next 11).mono ?_
 rw [hids]
 rintro e w1 ⟨⟨ai, ci, rfl, hid1⟩, hb1⟩
 obtain ⟨N, hN⟩ : ∃ N, N = (idsOf 11 L).length := ⟨_, rfl⟩
 have hN10 : N ≤ 10 := by rw [hN]; exact ids_len HGL.out
 rw [← hN] at hid1 ⊢
 simp only [World.size_alloc] at hid1
 have HW1 := St.hid (rowIs_below hW0.out hb1)
 have HR1 := St.hid (rowIs_below hR0.out hb1)
 have HS1 := St.hid ((HST.out.below (bal (bal (Below.refl _ _) _) _)).below hb1)
 have HB1 := St.hid (bcall (bal (bal (Below.refl _ w) _) _) hb1)
 have HI1 := St.hid hid1
 have HN := St.hid hN
 have hz1 := hb1.size
 simp at hz1
 clear hb1 hid1 hN hW0 hR0 hgw hids
 go_wp2_with fail
 go_loopw [14] (fun i wr => ∃ (k : Nat) (vk : Value) (Fk : Nat → Prop), k ≤ N ∧ i = .int .i64 k ∧ Hid (wr.rowIs w.heap.size 45 5 (wcell vk next fall wide high)) ∧ Hid (wr.rowIs (w.heap.size + 1) 45 5 (wcell (.slice none 0 0) 0 0 0 0)) ∧
  Hid (wr.ownsRow (w.heap.size + 1 + 1) 3 1 (.slice ai N ci) N ((idsOf 11 L).map (Value.int .i64))) ∧ Hid (Sto wr Fk vk (withRows L (((idsOf 11 L).take k).foldl (go1 (mk L) fall) g))) ∧ Hid (∀ b, Fk b → F b ∨ w.heap.size + 1 + 1 ≤ b) ∧ Hid (Below w.heap.size w wr) ∧ Hid (w.heap.size + 1 + 1 ≤ wr.heap.size)) (fun i _ => N - (intOf i).toNat)
 case atStart => exact ⟨0, _, F, Nat.zero_le _, rfl, HW1.out, HR1.out, HI1.out, HS1.out, fun b hb => Or.inl hb, HB1.out, hz1⟩
 case round =>
  obtain ⟨k, vk, Fk, hk, rfl, hW, hR, hI, hS, hF, hB, hz⟩ := hrel
  obtain ⟨ak, nk, ck, rfl⟩ := hS.out.one
  obtain ⟨x0, x1, x2, x3, x4, xf0, xf1, xf2, xf3, xf4⟩ := wcells hW.out
  have hzz := hz.out
  by_cases hlt : k < N
  ·obtain ⟨idk, hidk⟩ : ∃ x, (idsOf 11 L)[k]? = some x := ⟨_, List.getElem?_eq_getElem (by have := HN.out; omega)⟩
   have hmem : idk ∈ idsOf 11 L := List.mem_of_getElem? hidk
   obtain ⟨gk, HGK⟩ : ∃ gk, Hid (gk = ((idsOf 11 L).take k).foldl (go1 (mk L) fall) g) := ⟨_, rfl⟩
   have hok : RowsOk L gk := by rw [HGK.out]; exact RowsOk.go HGL.out.2.2.2.2.2 HRO.out fall _
   obtain ⟨h1, ⟨q0, h2⟩, h3⟩ := at_ids HGL.out.even HGL.out.2.2.2.2.2 gk hmem
   have hgk := good_with HGL.out hok
   have hS' := hS.out
   rw [← HGK.out] at hS'
   obtain ⟨m, HM⟩ : ∃ m, Hid (m = mk L idk) := ⟨_, rfl⟩
   obtain ⟨q, HQ⟩ : ∃ q, Hid (q = gk idk) := ⟨_, rfl⟩
   rw [← HM.out, ← HQ.out] at h1
   rw [← HM.out] at h2
   have hqb := hok idk m q0 h2
   rw [← HQ.out] at hqb
   have HNX : Hid (∀ r, putL m idk r (withRows L gk) = withRows L (putG (mk L) gk idk r)) := St.hid (fun r => putL_with HGL.out.2.2.2.2.2 h2 r)
   have HGET : Hid (∀ W, Below wr.heap.size wr W → Calls Tryz.prog 19 #[.agg #[.slice ak nk ck, .int .i64 next], .int .i64 idk] W fun e w' => e = .returned (.tuple #[.int .i64 m, .agg #[.int .i64 q.x, .int .i64 q.y, .int .i64 q.px, .int .i64 q.py, .int .i64 q.wd, .int .i64 q.ht, .int .i64 q.ms, .int .i64 q.rr], .bool true]) ∧ Below W.heap.size W w') :=
    St.hid (fun W hb => (hS'.below hb).get_some hgk next idk m q h1)
   have HPUT : Hid (∀ (W : World) (r : R8), Sto W Fk (.slice ak nk ck) (withRows L gk) → Calls Tryz.prog 115 #[.agg #[.slice ak nk ck, .int .i64 next], .int .i64 idk, .agg #[.int .i64 r.x, .int .i64 r.y, .int .i64 r.px, .int .i64 r.py, .int .i64 r.wd, .int .i64 r.ht, .int .i64 r.ms, .int .i64 r.rr]] W fun e w' =>
     (∃ a n c, e = .returned (.agg #[.slice a n c, .int .i64 next]) ∧ ∃ F', Sto w' F' (.slice a n c) (putL m idk r (withRows L gk)) ∧ ∀ b, F' b → Fk b ∨ W.heap.size ≤ b) ∧ Below W.heap.size W w') :=
    St.hid (fun W r hs => put_any hs next hgk idk m q r h1)
   obtain ⟨b1, b2, b3, b4, b5, b6, b7, b8⟩ := row_bounds hqb
   have hfm := mul_le' fall q.ms 64 9 ⟨hf1, hf2⟩ b7
   obtain ⟨gi, cc, hai⟩ := own_some hI.out (by omega)
   simp only [Value.slice.injEq] at hai
   obtain ⟨rfl, -, rfl⟩ := hai
   have i0 : wr.cell? ⟨gi, k, none⟩ = some (.int .i64 idk) := by rw [hI.out.cellAt k (by omega), List.getElem?_map, hidk]; rfl
   have HGI := St.hid (hI.out.lt gi rfl)
   have HS := St.hid hS'
   have HSW := St.hid hS'
   have HIDK := St.hid hidk
   have hlt' : (k : Int) < (N : Int) := by omega
   clear hS h1 h2 h3 hok hgk hqb hmem hS' hidk
   go_wp2_with fail
   refine (HGET.out _ (Below.refl _ _)).mono ?_
   rintro e w2 ⟨rfl, hb2⟩
   have hW2 := St.hid (rowIs_below hW.out hb2)
   have hR2 := St.hid (rowIs_below hR.out hb2)
   have hI2 := St.hid (owns_below hI.out hb2)
   have HS2 := St.hid (HS.out.below hb2)
   have HB2 := St.hid (bcall hB.out hb2)
   have hz2 := hb2.size
   clear hb2 x0 x1 x2 x3 x4 xf0 xf1 xf2 xf3 xf4 hW hR hI hB HS i0
   obtain ⟨x0, x1, x2, x3, x4, xf0, xf1, xf2, xf3, xf4⟩ := wcells hW2.out
   have hzw : w.heap.size < w2.heap.size := by omega
   go_upto_if 27 with (first | (go_at_call 113; refine (has_any _ _ _).mono ?_; rintro e w' ⟨rfl, rfl⟩))
   have hRB := St.hid (St.rowIs8 w2 q 34)
   have hW3 := St.hid (hW2.out.alloc (.cells #[.int .i64 q.x, .int .i64 q.y, .int .i64 q.px, .int .i64 q.py, .int .i64 q.wd, .int .i64 q.ht, .int .i64 q.ms, .int .i64 q.rr] 34))
   have hR3 := St.hid (hR2.out.alloc (.cells #[.int .i64 q.x, .int .i64 q.y, .int .i64 q.px, .int .i64 q.py, .int .i64 q.wd, .int .i64 q.ht, .int .i64 q.ms, .int .i64 q.rr] 34))
   have hI3 := St.hid (owns_below hI2.out (bal (Below.refl _ _) (.cells #[.int .i64 q.x, .int .i64 q.y, .int .i64 q.px, .int .i64 q.py, .int .i64 q.wd, .int .i64 q.ht, .int .i64 q.ms, .int .i64 q.rr] 34)))
   have HS3 := St.hid (HS2.out.below (bal (Below.refl _ _) (.cells #[.int .i64 q.x, .int .i64 q.y, .int .i64 q.px, .int .i64 q.py, .int .i64 q.wd, .int .i64 q.ht, .int .i64 q.ms, .int .i64 q.rr] 34)))
   have HB3 := St.hid (bal HB2.out (.cells #[.int .i64 q.x, .int .i64 q.y, .int .i64 q.px, .int .i64 q.py, .int .i64 q.wd, .int .i64 q.ht, .int .i64 q.ms, .int .i64 q.rr] 34))
   have hz3 : w2.heap.size < (w2.alloc (.cells #[.int .i64 q.x, .int .i64 q.y, .int .i64 q.px, .int .i64 q.py, .int .i64 q.wd, .int .i64 q.ht, .int .i64 q.ms, .int .i64 q.rr] 34)).heap.size := by simp
   generalize w2.alloc (.cells #[.int .i64 q.x, .int .i64 q.y, .int .i64 q.px, .int .i64 q.py, .int .i64 q.wd, .int .i64 q.ht, .int .i64 q.ms, .int .i64 q.rr] 34) = W at hRB hW3 hR3 hI3 HS3 HB3 hz3 ⊢
   clear hW2 hR2 hI2 HS2 HB2 x0 x1 x2 x3 x4 xf0 xf1 xf2 xf3 xf4
   obtain ⟨x0, x1, x2, x3, x4, xf0, xf1, xf2, xf3, xf4⟩ := wcells hW3.out
   obtain ⟨r0, r1, r2, r3, r4, r5, r6, r7⟩ := row8c hRB.out
   have rf3 := hRB.out.frozen 3
   go_cut [] (fun wx => ∃ W', W' = wx ∧ W'.rowIs w2.heap.size 34 8 (fun i => (St.rowCells (fallR fall m q)).getD i undef) ∧ W.grownBy W' (some w2.heap.size))
   case first =>
    cases h16 : hasB m 16
    ·go_wp2_with fail
     go_meet
     exact ⟨_, rfl, by rw [show fallR fall m q = q from by simp [fallR, h16]]; exact hRB.out, grown_refl _ _⟩
    ·go_wp2_with (first | (go_at_call 66; refine (add_any _ _ _ (by decide) (by decide) _).mono ?_; rintro e w' ⟨rfl, rfl⟩))
     go_meet
     refine ⟨_, rfl, setR8 hRB.out _ 3 _ (fun i hi => ?_), grown_set _ _ _ _⟩
     rw [show fallR fall m q = { q with py := ad q.py (fall * q.ms) 16777216 } from by simp [fallR, h16]]
     match i, hi with
     | 0, _ => rfl
     | 1, _ => rfl
     | 2, _ => rfl
     | 3, _ => rfl
     | 4, _ => rfl
     | 5, _ => rfl
     | 6, _ => rfl
     | 7, _ => rfl
   case rest =>
   obtain ⟨W4, rfl, hRB4, hg4⟩ := hcut
   have hne0 : some w2.heap.size ≠ some w.heap.size := by simp; omega
   have hne1 : some w2.heap.size ≠ some (w.heap.size + 1) := by simp; omega
   have hneI : ∀ z, (Value.slice (some ⟨gi, 0, none⟩) N ci).ownBlock = some z → some w2.heap.size ≠ some z := fun z hz e => by simp [Value.ownBlock] at hz; simp at e; have := HGI.out; omega
   have hnF : ¬ Fk w2.heap.size := fun hc => by have := HSW.out.lt hc; omega
   obtain ⟨p, HP⟩ : ∃ p, Hid (p = fallR fall m q) := ⟨_, rfl⟩
   rw [← HP.out] at hRB4
   have hW4 := St.hid (rowIs_grown hW3.out hg4 hne0)
   have hR4 := St.hid (rowIs_grown hR3.out hg4 hne1)
   have hI4 := St.hid (owns_kept hI3.out hg4 hneI)
   have HS4 := St.hid (grown_keep HS3.out hg4 hnF)
   have HB4 := St.hid (below_grown HB3.out hg4 (by have := HB3.out.size; omega) (by omega))
   have hz4 := Nat.lt_of_lt_of_le hz3 hg4.size
   have HRB4 := St.hid hRB4
   clear hg4 hRB4 hW3 hR3 hI3 HS3 HB3 hz3 hRB x0 x1 x2 x3 x4 xf0 xf1 xf2 xf3 xf4 r0 r1 r2 r3 r4 r5 r6 r7 rf3
   obtain ⟨r0, r1, r2, r3, r4, r5, r6, r7⟩ := row8c HRB4.out
   go_wp2_with fail
   refine (speed_row p _).mono ?_
   rintro e w5 ⟨rfl, hb5⟩
   have hW5 := St.hid (rowIs_below hW4.out hb5)
   have hR5 := St.hid (rowIs_below hR4.out hb5)
   have hI5 := St.hid (owns_below hI4.out hb5)
   have HS5 := St.hid (HS4.out.below hb5)
   have HB5 := St.hid (bcall HB4.out hb5)
   have hz5 := Nat.lt_of_lt_of_le hz4 hb5.size
   have HRB5 := St.hid (rowIs_below HRB4.out hb5)
   clear hb5 hW4 hR4 hI4 HS4 HB4 hz4 HRB4 r0 r1 r2 r3 r4 r5 r6 r7
   obtain ⟨r0, r1, r2, r3, r4, r5, r6, r7⟩ := row8c HRB5.out
   have rf0 := HRB5.out.frozen 0
   have rf1 := HRB5.out.frozen 1
   go_wp2_with fail
   go_cut [] (fun wx => ∃ W', W' = wx ∧ W'.rowIs w2.heap.size 34 8 (fun i => (St.rowCells (goRow p)).getD i undef) ∧ w5.grownBy W' (some w2.heap.size))
   case first =>
    go_region_with (first | (go_at_call 66; refine (add_any _ _ _ (by decide) (by decide) _).mono ?_; rintro e w' ⟨rfl, hw'⟩; subst hw'))
    all_goals
     go_wp2_with fail
     go_meet
     refine ⟨_, rfl, ?_, grown_drew ((grown_set _ _ _ _).trans (grown_set _ _ _ _))⟩
     refine ((HRB5.out.set 0 _).set 1 _).congr (fun i hi => ?_)
     match i, hi with
     | 0, _ => rfl
     | 1, _ => rfl
     | 2, _ => rfl
     | 3, _ => rfl
     | 4, _ => rfl
     | 5, _ => rfl
     | 6, _ => rfl
     | 7, _ => rfl
   case rest =>
   obtain ⟨W6, rfl, hRB6, hg6⟩ := hcut
   obtain ⟨t, HT⟩ : ∃ t, Hid (t = goRow p) := ⟨_, rfl⟩
   rw [← HT.out] at hRB6
   have hW6 := St.hid (rowIs_grown hW5.out hg6 hne0)
   have hR6 := St.hid (rowIs_grown hR5.out hg6 hne1)
   have hI6 := St.hid (owns_kept hI5.out hg6 hneI)
   have HS6 := St.hid (grown_keep HS5.out hg6 hnF)
   have HB6 := St.hid (below_grown HB5.out hg6 (by have := HB5.out.size; omega) (by omega))
   have hz6 := Nat.lt_of_lt_of_le hz5 hg6.size
   have HRB6 := St.hid hRB6
   clear hg6 hRB6 hW5 hR5 hI5 HS5 HB5 hz5 HRB5 r0 r1 r2 r3 r4 r5 r6 r7 rf0 rf1
   obtain ⟨r0, r1, r2, r3, r4, r5, r6, r7⟩ := row8c HRB6.out
   obtain ⟨x0, x1, x2, x3, x4, xf0, xf1, xf2, xf3, xf4⟩ := wcells hW6.out
   go_wp2_with fail
   refine (HPUT.out _ t HS6.out).mono ?_
   rintro e w7 ⟨⟨a7, n7, c7, rfl, F7, hs7, hF7⟩, hb7⟩
   have hW7 := St.hid (rowIs_below hW6.out hb7)
   have hR7 := St.hid (rowIs_below hR6.out hb7)
   have hI7 := St.hid (owns_below hI6.out hb7)
   have HB7 := St.hid (bcall HB6.out hb7)
   have HS7 := St.hid hs7
   have HF7 := St.hid (fun b (hb : F7 b) => show F b ∨ w.heap.size + 1 + 1 ≤ b from (hF7 b hb).elim (fun h => hF.out b h) (fun h => Or.inr (by omega)))
   have hz7 := hb7.size
   clear hb7 hs7 hF7 x0 x1 x2 x3 x4 xf0 xf1 xf2 xf3 xf4 r0 r1 r2 r3 r4 r5 r6 r7
   obtain ⟨x0, x1, x2, x3, x4, xf0, xf1, xf2, xf3, xf4⟩ := wcells hW7.out
   go_wp2_with fail
   go_roundw
   case rel =>
    have hno0 : ¬ F7 w.heap.size := fun hc => by
     rcases HF7.out _ hc with h | h
     ·have := HST.out.lt h; omega
     ·omega
    refine ⟨k + 1, .slice a7 n7 c7, F7, by omega, by go_num, ?_, ?_, ?_, ?_, HF7.out, ?_, ?_⟩
    ·exact ((hW7.out.set 0 _).set 1 _).congr (fun i hi => by
      match i, hi with
      | 0, _ => rfl
      | 1, _ => rfl
      | 2, _ => rfl
      | 3, _ => rfl
      | 4, _ => rfl)
    ·exact (hR7.out.setOther (a := ⟨w.heap.size, 0, none⟩) (by simp) _).setOther (a := ⟨w.heap.size, 1, none⟩) (by simp) _
    ·have hne : (Value.slice (some ⟨gi, 0, none⟩) N ci).ownBlock ≠ some w.heap.size := by simp [Value.ownBlock]; have := HGI.out; omega
     exact owns_set (owns_set hI7.out hne _ _) hne _ _
    ·have h7 := (HS7.out.setCell hno0 0 (.slice a7 n7 c7)).setCell hno0 1 (.int .i64 next)
     rw [HNX.out t, HT.out, HP.out, HQ.out, HM.out] at h7
     rw [take_fold _ _ _ _ _ HIDK.out, ← HGK.out]
     exact h7
    ·exact (HB7.out.setCell (by simp) _).setCell (by simp) _
    ·exact St.hid (by simp; omega)
   case measure => simp [intOf]; omega
  ·obtain ⟨y0, y1, y2, y3, y4, yf0, yf1, yf2, yf3, yf4⟩ := wcells hR.out
   have hke : Hid ((idsOf 11 L).take k = idsOf 11 L) := St.hid (by rw [List.take_of_length_le]; have := HN.out; omega)
   go_wp2_with fail
   refine bodyPost_ret (v := .agg #[.slice ak nk ck, .int .i64 next, .int .i64 fall, .int .i64 wide, .int .i64 high]) (by simp [results, Tryz.results97, go_sem, y0, y1, y2, y3, y4]) rfl ⟨⟨ak, nk, ck, rfl, Fk, ?_, fun b hb => ?_⟩, ?_⟩
   ·have h1 := hS.out
    rw [hke.out] at h1
    have hno : ¬ Fk (w.heap.size + 1) := fun hc => by
     rcases hF.out _ hc with h | h
     ·have := HST.out.lt h; omega
     ·omega
    exact ((((h1.setCell hno _ _).setCell hno _ _).setCell hno _ _).setCell hno _ _).setCell hno _ _
   ·rcases hF.out b hb with h | h
    ·exact Or.inl h
    ·exact Or.inr (by omega)
   ·iterate 5 refine Below.setCell ?_ (by simp) _
    exact hB.out
end Wd
namespace Wd
open Num St
open Go.ChangeShapes Go.WideShapes Go.ChangeAt Go.RowKit
attribute [local go_sem ↓] Go.wp_at_zero Go.wp_at_succ
set_option maxHeartbeats 8000000 in
set_option maxRecDepth 100000 in
theorem keepInside_any {F : Nat → Prop} {v : Value} {L : List Tab} {g : Int → R8} {w : World} (next fall wide high : Int) (h : Sto w F v (withRows L g)) (hg : GoodL next L) (hr : RowsOk L g) (hf : (1 ≤ wide ∧ wide ≤ 1048576) ∧ 1 ≤ high ∧ high ≤ 1048576) :
  Calls Tryz.prog 99 #[.agg #[v, .int .i64 next, .int .i64 fall, .int .i64 wide, .int .i64 high]] w fun e w' =>
   (∃ a n c, e = .returned (.agg #[.slice a n c, .int .i64 next, .int .i64 fall, .int .i64 wide, .int .i64 high]) ∧ ∃ F', Sto w' F' (.slice a n c) (withRows L (wallG (mk L) wide high (idsOf 11 L) g)) ∧ ∀ b, F' b → F b ∨ w.heap.size ≤ b) ∧ Below w.heap.size w w' := by
 obtain ⟨a, n, cap, rfl⟩ := h.one
 have HST := St.hid h
 have HGL := St.hid hg
 have HRO := St.hid hr
 obtain ⟨⟨hf1, hf2⟩, hf3, hf4⟩ := hf
 have hgw := good_with hg hr
 have hids := ids_with 11 L g
 clear h hg hr
 go_enter Tryz.func99, Tryz.ntmps99
 go_wp2_with fail
 have hW0 := St.hid ((rowIs5 w (.slice a n cap) next fall wide high 45).alloc (.cells #[.slice none 0 0, .int .i64 0, .int .i64 0, .int .i64 0, .int .i64 0] 45))
 have hR0 := St.hid (rowIs5 (w.alloc (.cells #[.slice a n cap, .int .i64 next, .int .i64 fall, .int .i64 wide, .int .i64 high] 45)) (.slice none 0 0) 0 0 0 0 45)
 rw [World.size_alloc] at hR0
 refine ((HST.out.below (bal (bal (Below.refl _ _) _) _)).query hgw next 11).mono ?_
 rw [hids]
 rintro e w1 ⟨⟨ai, ci, rfl, hid1⟩, hb1⟩
 obtain ⟨N, hN⟩ : ∃ N, N = (idsOf 11 L).length := ⟨_, rfl⟩
 have hN10 : N ≤ 10 := by rw [hN]; exact ids_len HGL.out
 rw [← hN] at hid1 ⊢
 simp only [World.size_alloc] at hid1
 have HW1 := St.hid (rowIs_below hW0.out hb1)
 have HR1 := St.hid (rowIs_below hR0.out hb1)
 have HS1 := St.hid ((HST.out.below (bal (bal (Below.refl _ _) _) _)).below hb1)
 have HB1 := St.hid (bcall (bal (bal (Below.refl _ w) _) _) hb1)
 have HI1 := St.hid hid1
 have HN := St.hid hN
 have hz1 := hb1.size
 simp at hz1
 clear hb1 hid1 hN hW0 hR0 hgw hids
 go_wp2_with fail
 go_loopw [12] (fun i wr => ∃ (k : Nat) (vk : Value) (Fk : Nat → Prop), k ≤ N ∧ i = .int .i64 k ∧ Hid (wr.rowIs w.heap.size 45 5 (wcell vk next fall wide high)) ∧ Hid (wr.rowIs (w.heap.size + 1) 45 5 (wcell (.slice none 0 0) 0 0 0 0)) ∧
  Hid (wr.ownsRow (w.heap.size + 1 + 1) 3 1 (.slice ai N ci) N ((idsOf 11 L).map (Value.int .i64))) ∧ Hid (Sto wr Fk vk (withRows L (((idsOf 11 L).take k).foldl (wall1 (mk L) wide high) g))) ∧ Hid (∀ b, Fk b → F b ∨ w.heap.size + 1 + 1 ≤ b) ∧ Hid (Below w.heap.size w wr) ∧ Hid (w.heap.size + 1 + 1 ≤ wr.heap.size)) (fun i _ => N - (intOf i).toNat)
 case atStart => exact ⟨0, _, F, Nat.zero_le _, rfl, HW1.out, HR1.out, HI1.out, HS1.out, fun b hb => Or.inl hb, HB1.out, hz1⟩
 case round =>
  obtain ⟨k, vk, Fk, hk, rfl, hW, hR, hI, hS, hF, hB, hz⟩ := hrel
  obtain ⟨ak, nk, ck, rfl⟩ := hS.out.one
  obtain ⟨x0, x1, x2, x3, x4, xf0, xf1, xf2, xf3, xf4⟩ := wcells hW.out
  have hzz := hz.out
  by_cases hlt : k < N
  ·obtain ⟨idk, hidk⟩ : ∃ x, (idsOf 11 L)[k]? = some x := ⟨_, List.getElem?_eq_getElem (by have := HN.out; omega)⟩
   have hmem : idk ∈ idsOf 11 L := List.mem_of_getElem? hidk
   obtain ⟨gk, HGK⟩ : ∃ gk, Hid (gk = ((idsOf 11 L).take k).foldl (wall1 (mk L) wide high) g) := ⟨_, rfl⟩
   have hok : RowsOk L gk := by rw [HGK.out]; exact RowsOk.wall HGL.out.2.2.2.2.2 HRO.out wide high _
   obtain ⟨h1, ⟨q0, h2⟩, h3⟩ := at_ids HGL.out.even HGL.out.2.2.2.2.2 gk hmem
   have hgk := good_with HGL.out hok
   have hS' := hS.out
   rw [← HGK.out] at hS'
   obtain ⟨m, HM⟩ : ∃ m, Hid (m = mk L idk) := ⟨_, rfl⟩
   obtain ⟨q, HQ⟩ : ∃ q, Hid (q = gk idk) := ⟨_, rfl⟩
   rw [← HM.out, ← HQ.out] at h1
   rw [← HM.out] at h2
   have hqb := hok idk m q0 h2
   rw [← HQ.out] at hqb
   have HNX : Hid (∀ r, putL m idk r (withRows L gk) = withRows L (putG (mk L) gk idk r)) := St.hid (fun r => putL_with HGL.out.2.2.2.2.2 h2 r)
   have HGET : Hid (∀ W, Below wr.heap.size wr W → Calls Tryz.prog 19 #[.agg #[.slice ak nk ck, .int .i64 next], .int .i64 idk] W fun e w' => e = .returned (.tuple #[.int .i64 m, .agg #[.int .i64 q.x, .int .i64 q.y, .int .i64 q.px, .int .i64 q.py, .int .i64 q.wd, .int .i64 q.ht, .int .i64 q.ms, .int .i64 q.rr], .bool true]) ∧ Below W.heap.size W w') :=
    St.hid (fun W hb => (hS'.below hb).get_some hgk next idk m q h1)
   have HPUT : Hid (∀ (W : World) (r : R8), Sto W Fk (.slice ak nk ck) (withRows L gk) → Calls Tryz.prog 115 #[.agg #[.slice ak nk ck, .int .i64 next], .int .i64 idk, .agg #[.int .i64 r.x, .int .i64 r.y, .int .i64 r.px, .int .i64 r.py, .int .i64 r.wd, .int .i64 r.ht, .int .i64 r.ms, .int .i64 r.rr]] W fun e w' =>
     (∃ a n c, e = .returned (.agg #[.slice a n c, .int .i64 next]) ∧ ∃ F', Sto w' F' (.slice a n c) (putL m idk r (withRows L gk)) ∧ ∀ b, F' b → Fk b ∨ W.heap.size ≤ b) ∧ Below W.heap.size W w') :=
    St.hid (fun W r hs => put_any hs next hgk idk m q r h1)
   obtain ⟨b1, b2, b3, b4, b5, b6, b7, b8⟩ := row_bounds hqb
   obtain ⟨gi, cc, hai⟩ := own_some hI.out (by omega)
   simp only [Value.slice.injEq] at hai
   obtain ⟨rfl, -, rfl⟩ := hai
   have i0 : wr.cell? ⟨gi, k, none⟩ = some (.int .i64 idk) := by rw [hI.out.cellAt k (by omega), List.getElem?_map, hidk]; rfl
   have HGI := St.hid (hI.out.lt gi rfl)
   have HS := St.hid hS'
   have HIDK := St.hid hidk
   have hlt' : (k : Int) < (N : Int) := by omega
   clear hS h1 h2 h3 hok hgk hqb hmem hS' hidk
   go_wp2_with fail
   refine (HGET.out _ (Below.refl _ _)).mono ?_
   rintro e w2 ⟨rfl, hb2⟩
   have hW2 := St.hid (rowIs_below hW.out hb2)
   have hR2 := St.hid (rowIs_below hR.out hb2)
   have hI2 := St.hid (owns_below hI.out hb2)
   have HS2 := St.hid (HS.out.below hb2)
   have HB2 := St.hid (bcall hB.out hb2)
   have hz2 := hb2.size
   clear hb2 x0 x1 x2 x3 x4 xf0 xf1 xf2 xf3 xf4 hW hR hI hB HS i0
   obtain ⟨x0, x1, x2, x3, x4, xf0, xf1, xf2, xf3, xf4⟩ := wcells hW2.out
   have hzw : w.heap.size < w2.heap.size := by omega
   have HWA : Hid (∀ W, Calls Tryz.prog 119 #[.int .i64 q.x, .int .i64 q.px, .int .i64 q.wd, .int .i64 wide, .int .i64 q.rr] W fun e w' => e = .returned (.tuple #[.int .i64 (wallAt q.x q.wd wide), .int .i64 (wallPush q.x q.px q.wd wide q.rr)]) ∧ w' = W) :=
    St.hid (fun W => wall_any _ _ _ _ _ (by omega) (by omega) (by omega) (by omega) W)
   have HWB : Hid (∀ W, Calls Tryz.prog 119 #[.int .i64 q.y, .int .i64 q.py, .int .i64 q.ht, .int .i64 high, .int .i64 q.rr] W fun e w' => e = .returned (.tuple #[.int .i64 (wallAt q.y q.ht high), .int .i64 (wallPush q.y q.py q.ht high q.rr)]) ∧ w' = W) :=
    St.hid (fun W => wall_any _ _ _ _ _ (by omega) (by omega) (by omega) (by omega) W)
   go_wp2_with fail
   refine (HWA.out _).mono ?_
   rintro e w3 ⟨rfl, hw3⟩
   subst hw3
   go_wp2_with fail
   refine (HWB.out _).mono ?_
   rintro e w3 ⟨rfl, hw3⟩
   subst hw3
   go_wp2_with fail
   refine (HPUT.out _ ⟨wallAt q.x q.wd wide, wallAt q.y q.ht high, wallPush q.x q.px q.wd wide q.rr, wallPush q.y q.py q.ht high q.rr, q.wd, q.ht, q.ms, q.rr⟩ (HS2.out.below (bal (Below.refl _ _) _))).mono ?_
   rintro e w7 ⟨⟨a7, n7, c7, rfl, F7, hs7, hF7⟩, hb7⟩
   have hW7 := St.hid (rowIs_below (hW2.out.alloc _) hb7)
   have hR7 := St.hid (rowIs_below (hR2.out.alloc _) hb7)
   have hI7 := St.hid (owns_below (owns_below hI2.out (bal (Below.refl _ _) _)) hb7)
   have HB7 := St.hid (bcall (bal HB2.out _) hb7)
   have HS7 := St.hid hs7
   have HF7 := St.hid (fun b (hb : F7 b) => show F b ∨ w.heap.size + 1 + 1 ≤ b from (hF7 b hb).elim (fun h => hF.out b h) (fun h => Or.inr (by simp at h; omega)))
   have hz7 := hb7.size
   simp at hz7
   clear hb7 hs7 hF7 x0 x1 x2 x3 x4 xf0 xf1 xf2 xf3 xf4
   obtain ⟨x0, x1, x2, x3, x4, xf0, xf1, xf2, xf3, xf4⟩ := wcells hW7.out
   go_wp2_with fail
   go_roundw
   case rel =>
    have hno0 : ¬ F7 w.heap.size := fun hc => by
     rcases HF7.out _ hc with h | h
     ·have := HST.out.lt h; omega
     ·omega
    refine ⟨k + 1, .slice a7 n7 c7, F7, by omega, by go_num, ?_, ?_, ?_, ?_, HF7.out, ?_, ?_⟩
    ·exact ((hW7.out.set 0 _).set 1 _).congr (fun i hi => by
      match i, hi with
      | 0, _ => rfl
      | 1, _ => rfl
      | 2, _ => rfl
      | 3, _ => rfl
      | 4, _ => rfl)
    ·exact (hR7.out.setOther (a := ⟨w.heap.size, 0, none⟩) (by simp) _).setOther (a := ⟨w.heap.size, 1, none⟩) (by simp) _
    ·have hne : (Value.slice (some ⟨gi, 0, none⟩) N ci).ownBlock ≠ some w.heap.size := by simp [Value.ownBlock]; have := HGI.out; omega
     exact owns_set (owns_set hI7.out hne _ _) hne _ _
    ·have h7 := (HS7.out.setCell hno0 0 (.slice a7 n7 c7)).setCell hno0 1 (.int .i64 next)
     rw [HNX.out, HQ.out] at h7
     rw [take_fold _ _ _ _ _ HIDK.out, ← HGK.out]
     exact h7
    ·exact (HB7.out.setCell (by simp) _).setCell (by simp) _
    ·exact St.hid (by simp; omega)
   case measure => simp [intOf]; omega
  ·obtain ⟨y0, y1, y2, y3, y4, yf0, yf1, yf2, yf3, yf4⟩ := wcells hR.out
   have hke : Hid ((idsOf 11 L).take k = idsOf 11 L) := St.hid (by rw [List.take_of_length_le]; have := HN.out; omega)
   go_wp2_with fail
   refine bodyPost_ret (v := .agg #[.slice ak nk ck, .int .i64 next, .int .i64 fall, .int .i64 wide, .int .i64 high]) (by simp [results, Tryz.results99, go_sem, y0, y1, y2, y3, y4]) rfl ⟨⟨ak, nk, ck, rfl, Fk, ?_, fun b hb => ?_⟩, ?_⟩
   ·have h1 := hS.out
    rw [hke.out] at h1
    have hno : ¬ Fk (w.heap.size + 1) := fun hc => by
     rcases hF.out _ hc with h | h
     ·have := HST.out.lt h; omega
     ·omega
    exact ((((h1.setCell hno _ _).setCell hno _ _).setCell hno _ _).setCell hno _ _).setCell hno _ _
   ·rcases hF.out b hb with h | h
    ·exact Or.inl h
    ·exact Or.inr (by omega)
   ·iterate 5 refine Below.setCell ?_ (by simp) _
    exact hB.out
end Wd
namespace Wd
open Num St
open Go.ChangeShapes Go.WideShapes Go.ChangeAt Go.RowKit
theorem take_map {α β : Type} (f : α → β) (l : List α) (k : Nat) (x : α) (h : l[k]? = some x) : (l.map f).take (k + 1) = (l.map f).take k ++ [f x] := by
 have hlt := (List.getElem?_eq_some_iff.1 h).1
 rw [List.take_succ_eq_append_getElem (by simpa using hlt)]
 simp [(List.getElem?_eq_some_iff.1 h).2]
set_option maxHeartbeats 2000000 in
set_option maxRecDepth 100000 in
theorem boxes_any {F : Nat → Prop} {v : Value} {L : List Tab} {g : Int → R8} {w : World} (next : Int) (h : Sto w F v (withRows L g)) (hg : GoodL next L) (hr : RowsOk L g) :
  Calls Tryz.prog 18 #[.agg #[v, .int .i64 next]] w fun e w' =>
   (∃ u, e = .returned u ∧ w'.ownsRow w.heap.size 36 5 u (boxG L g).length ((boxG L g).flatMap Sw.boxCells)) ∧ Below w.heap.size w w' := by
 obtain ⟨a, n, cap, rfl⟩ := h.one
 obtain ⟨i70, hi70, hz70, hs70, hb70⟩ := info_parts Sw.info70
 have hgw := good_with hg hr
 have hids := ids_with 5 L g
 have HST := St.hid h
 have HGL := St.hid hg
 have HRO := St.hid hr
 have HGW := St.hid hgw
 clear h hg hr
 go_enter Tryz.func18, Tryz.ntmps18
 go_wp2_with fail
 refine ((HST.out.below (bal (Below.refl _ _) _)).good next).mono ?_
 rintro e w0 ⟨⟨gd, rfl, hgd⟩, hb0⟩
 have : gd = true := hgd.2 hgw
 subst this
 have HS0 := St.hid ((HST.out.below (bal (Below.refl _ _) _)).below hb0)
 have hX0 := St.hid (rowIs_below (rowIs2 w (.slice a n cap) (.int .i64 next) 43) hb0)
 have HB0 := St.hid (bcall (bal (Below.refl _ w) _) hb0)
 have hz0 := hb0.size
 simp at hz0
 clear hb0 hgd
 have x0 := hX0.out.cell (i := 0) (by omega)
 have x1 := hX0.out.cell (i := 1) (by omega)
 simp at x0 x1
 go_wp2_with fail
 refine (HS0.out.query hgw next 5).mono ?_
 rw [hids]
 rintro e w1 ⟨⟨ai, ci, rfl, hid1⟩, hb1⟩
 obtain ⟨N, hN⟩ : ∃ N, N = (idsOf 5 L).length := ⟨_, rfl⟩
 have hN10 : N ≤ 10 := by rw [hN]; exact ids_len HGL.out
 rw [← hN] at hid1 ⊢
 have hX1 := St.hid (rowIs_below hX0.out hb1)
 have HS1 := St.hid (HS0.out.below hb1)
 have HB1 := St.hid (bcall HB0.out hb1)
 have HI1 := St.hid (owns_mono hid1 (show w.heap.size + 1 ≤ w0.heap.size from hz0))
 have HN := St.hid hN
 have hz1 := hb1.size
 clear hb1 hid1 hN hgw hids x0 x1 hX0 HS0 HB0
 go_wp2_with fail
 go_loopw [3, 15] (fun u i wr => ∃ k : Nat, k ≤ N ∧ i = .int .i64 k ∧ Hid (wr.rowIs w.heap.size 43 2 (fun i => if i = 0 then .slice a n cap else .int .i64 next)) ∧ Hid (wr.ownsRow (w.heap.size + 1) 3 1 (.slice ai N ci) N ((idsOf 5 L).map (Value.int .i64))) ∧
  Hid (wr.ownsRow (w.heap.size + 1) 36 5 u k (((boxG L g).take k).flatMap Sw.boxCells)) ∧ Hid (Sto wr F (.slice a n cap) (withRows L g)) ∧ Hid (Below w.heap.size w wr) ∧ Hid (w.heap.size + 1 ≤ wr.heap.size)) (fun _ i _ => N - (intOf i).toNat)
 case atStart => exact ⟨0, Nat.zero_le _, rfl, hX1.out, HI1.out, World.ownsRow_nil _ _ _ _, HS1.out, HB1.out, St.hid (by omega)⟩
 case round =>
  obtain ⟨k, hk, rfl, hX, hI, hO, hS, hB, hz⟩ := hrel
  have x0 := hX.out.cell (i := 0) (by omega)
  have x1 := hX.out.cell (i := 1) (by omega)
  simp at x0 x1
  have hzz := hz.out
  by_cases hlt : k < N
  ·obtain ⟨idk, hidk⟩ : ∃ x, (idsOf 5 L)[k]? = some x := ⟨_, List.getElem?_eq_getElem (by have := HN.out; omega)⟩
   have hmem : idk ∈ idsOf 5 L := List.mem_of_getElem? hidk
   obtain ⟨h1, ⟨q0, h2⟩, h3⟩ := at_ids HGL.out.even HGL.out.2.2.2.2.2 g hmem
   obtain ⟨m, HM⟩ : ∃ m, Hid (m = mk L idk) := ⟨_, rfl⟩
   obtain ⟨q, HQ⟩ : ∃ q, Hid (q = g idk) := ⟨_, rfl⟩
   rw [← HM.out, ← HQ.out] at h1
   rw [← HM.out] at h2
   have hqb := HRO.out idk m q0 h2
   rw [← HQ.out] at hqb
   have HGET : Hid (∀ W, Below wr.heap.size wr W → Calls Tryz.prog 19 #[.agg #[.slice a n cap, .int .i64 next], .int .i64 idk] W fun e w' => e = .returned (.tuple #[.int .i64 m, .agg #[.int .i64 q.x, .int .i64 q.y, .int .i64 q.px, .int .i64 q.py, .int .i64 q.wd, .int .i64 q.ht, .int .i64 q.ms, .int .i64 q.rr], .bool true]) ∧ Below W.heap.size W w') :=
    St.hid (fun W hb => (hS.out.below hb).get_some HGW.out next idk m q h1)
   obtain ⟨b1, b2, b3, b4, b5, b6, b7, b8⟩ := row_bounds hqb
   obtain ⟨gi, cc, hai⟩ := own_some hI.out (by omega)
   simp only [Value.slice.injEq] at hai
   obtain ⟨rfl, -, rfl⟩ := hai
   have i0 : wr.cell? ⟨gi, k, none⟩ = some (.int .i64 idk) := by rw [hI.out.cellAt k (by omega), List.getElem?_map, hidk]; rfl
   have HBT : Hid ((boxG L g).take (k + 1) = (boxG L g).take k ++ [⟨idk, q.x - q.wd, q.y - q.ht, q.x + q.wd, q.y + q.ht⟩]) := St.hid (by
    rw [show boxG L g = (idsOf 5 L).map (boxOf g) from rfl, take_map _ _ _ _ hidk, HQ.out]
    rfl)
   have hlt' : (k : Int) < (N : Int) := by omega
   clear h1 h2 h3 hqb hmem hidk
   go_wp2_with fail
   refine (HGET.out _ (Below.refl _ _)).mono ?_
   rintro e w2 ⟨rfl, hb2⟩
   have hX2 := St.hid (rowIs_below hX.out hb2)
   have hI2 := St.hid (owns_below hI.out hb2)
   have hO2 := St.hid (owns_below hO.out hb2)
   have HS2 := St.hid (hS.out.below hb2)
   have HB2 := St.hid (bcall hB.out hb2)
   have hz2 := hb2.size
   clear hb2 x0 x1 hX hI hS hB i0 hO
   go_wp2_with (at_builtin; refine wpList_append_own _ rfl _ _ 48 rfl (w.heap.size + 1) 36 i70 (.agg #[.int .i64 0, .int .i64 0, .int .i64 0, .int .i64 0, .int .i64 0]) 5 40 Tryz.underlying48 hi70 hz70 hs70 hb70 rfl (by decide) _ _ _ rfl ((hO2.out.alloc _).alloc _) ⟨w2.heap.size + 1, 0, none⟩ 1 1 [.int .i64 idk, .int .i64 (q.x - q.wd), .int .i64 (q.y - q.ht), .int .i64 (q.x + q.wd), .int .i64 (q.y + q.ht)] rfl ?c1 ?c2 ?c3 ?c4 ?c5 ?c6 ?_)
   case c1 => rfl
   case c2 =>
    intro j u hj
    match j, hj with
    | 0, hj => cases hj; simp [Addr.add]
    | 1, hj => cases hj; simp [Addr.add]
    | 2, hj => cases hj; simp [Addr.add]
    | 3, hj => cases hj; simp [Addr.add]
    | 4, hj => cases hj; simp [Addr.add]
   case c3 => intro u hu; simp at hu; rcases hu with rfl | rfl | rfl | rfl | rfl <;> rfl
   case c4 => unfold maxLen; omega
   case c5 => omega
   case c6 => simp; omega
   intro v' w5 hown5 hg5 _
   have HO5 := St.hid hown5
   have HG5 := St.hid hg5
   clear hown5 hg5
   go_wp2_with fail
   go_roundw
   case rel =>
    have hlo := fun b e => (hO2.out.lt b e).1
    refine ⟨k + 1, by omega, by go_num, ?_, ?_, ?_, ?_, ?_, ?_⟩
    ·exact rowIs_grown ((hX2.out.alloc _).alloc _) HG5.out (fun e => by have := hlo _ e; omega)
    ·exact Sw.owns_kept ((hI2.out.alloc _).alloc _) HG5.out (Sw.apart_kind hI2.out hO2.out (by decide))
    ·have h5 := HO5.out
     rw [HBT.out, List.flatMap_append]
     exact h5
    ·have h5 := HS2.out.below (bal (bal (Below.refl _ w2) (.cells #[.int .i64 q.x, .int .i64 q.y, .int .i64 q.px, .int .i64 q.py, .int .i64 q.wd, .int .i64 q.ht, .int .i64 q.ms, .int .i64 q.rr] 34)) (.cells #[.int .i64 idk, .int .i64 (q.x - q.wd), .int .i64 (q.y - q.ht), .int .i64 (q.x + q.wd), .int .i64 (q.y + q.ht)] 36))
     exact h5.keep HG5.out.size (fun b hb => HG5.out.block b (h5.lt hb) (fun e => by have h1 := hlo b e.symm; have h2 := HST.out.lt hb; omega))
    ·exact (bal (bal HB2.out _) _).grown HG5.out (by simp; omega) (fun b e => by have := hlo b e; omega)
    ·have := HG5.out.size
     simp at this
     exact St.hid (by omega)
   case measure => simp [intOf]; omega
  ·have hke : k = N := by omega
   subst hke
   go_wp2_with fail
   go_ret
   refine ⟨⟨_, rfl, ?_⟩, hB.out⟩
   have hl : (boxG L g).length = k := by have := HN.out; simp [boxG]; omega
   have h1 := hO.out
   rw [List.take_of_length_le (by omega)] at h1
   rw [hl]
   exact owns_mono h1 (by omega)
end Wd
end Go.Proofs.YtckkkdldljhehacGreat
