/- What keepInside of package world answers over a good world: all that moves is brought back from beyond the edges; nothing that was in memory before has changed. -/
import Derived.Test.YtckkkdldljhehabGreatWdC
namespace Go.Proofs.YtckkkdldljhehabGreat.Wd
open Go.Proofs.YtckkkdldljhehabGreat.Num Go.Proofs.YtckkkdldljhehabGreat.St
open Go.ChangeShapes Go.WideShapes Go.ChangeAt Go.RowKit

attribute [local go_sem ↓] Go.wp_at_zero Go.wp_at_succ
set_option maxHeartbeats 8000000 in
set_option maxRecDepth 100000 in
theorem keepInside_any {F : Nat → Prop} {v : Value} {L : List Tab} {g : Int → R8} {w : World} (next fall wide high : Int) (h : Sto w F v (withRows L g)) (hg : GoodL next L) (hr : RowsOk L g) (hf : (1 ≤ wide ∧ wide ≤ 1048576) ∧ 1 ≤ high ∧ high ≤ 1048576) :
    Calls Tryz.prog 43 #[.agg #[v, .int .i64 next, .int .i64 fall, .int .i64 wide, .int .i64 high]] w fun e w' =>
      (∃ a n c, e = .returned (.agg #[.slice a n c, .int .i64 next, .int .i64 fall, .int .i64 wide, .int .i64 high]) ∧ ∃ F', Sto w' F' (.slice a n c) (withRows L (wallG (mk L) wide high (idsOf 11 L) g)) ∧ ∀ b, F' b → F b ∨ w.heap.size ≤ b) ∧ Below w.heap.size w w' := by
  obtain ⟨a, n, cap, rfl⟩ := h.one
  have HST := St.hid h
  have HGL := St.hid hg
  have HRO := St.hid hr
  obtain ⟨⟨hf1, hf2⟩, hf3, hf4⟩ := hf
  have hgw := good_with hg hr
  have hids := ids_with 11 L g
  clear h hg hr
  go_enter Tryz.func43, Tryz.ntmps43
  go_wp2_with fail
  have hW0 := St.hid ((rowIs5 w (.slice a n cap) next fall wide high 26).alloc (.cells #[.slice none 0 0, .int .i64 0, .int .i64 0, .int .i64 0, .int .i64 0] 26))
  have hR0 := St.hid (rowIs5 (w.alloc (.cells #[.slice a n cap, .int .i64 next, .int .i64 fall, .int .i64 wide, .int .i64 high] 26)) (.slice none 0 0) 0 0 0 0 26)
  rw [World.size_alloc] at hR0
  refine ((HST.out.below (bal (bal (Below.refl _ _) _) _)).query hgw next 11).mono ?_
  rw [hids]
  rintro e w1 ⟨⟨ai, ci, rfl, hid1⟩, hb1⟩
  obtain ⟨N, hN⟩ : ∃ N, N = (idsOf 11 L).length := ⟨_, rfl⟩
  have hN10 : N ≤ 10 := by rw [hN]; exact ids_len HGL.out
  rw [← hN] at hid1 ⊢
  simp only [World.size_alloc] at hid1
  have HW1 := St.hid (rowIs_below hW0.out hb1)
  have HR1 := St.hid (rowIs_below hR0.out hb1)
  have HS1 := St.hid ((HST.out.below (bal (bal (Below.refl _ _) _) _)).below hb1)
  have HB1 := St.hid (bcall (bal (bal (Below.refl _ w) _) _) hb1)
  have HI1 := St.hid hid1
  have HN := St.hid hN
  have hz1 := hb1.size
  simp at hz1
  clear hb1 hid1 hN hW0 hR0 hgw hids
  go_wp2_with fail
  go_loopw [12] (fun i wr => ∃ (k : Nat) (vk : Value) (Fk : Nat → Prop), k ≤ N ∧ i = .int .i64 k ∧ Hid (wr.rowIs w.heap.size 26 5 (wcell vk next fall wide high)) ∧ Hid (wr.rowIs (w.heap.size + 1) 26 5 (wcell (.slice none 0 0) 0 0 0 0)) ∧
    Hid (wr.ownsRow (w.heap.size + 1 + 1) 3 1 (.slice ai N ci) N ((idsOf 11 L).map (Value.int .i64))) ∧ Hid (Sto wr Fk vk (withRows L (((idsOf 11 L).take k).foldl (wall1 (mk L) wide high) g))) ∧ Hid (∀ b, Fk b → F b ∨ w.heap.size + 1 + 1 ≤ b) ∧ Hid (Below w.heap.size w wr) ∧ Hid (w.heap.size + 1 + 1 ≤ wr.heap.size)) (fun i _ => N - (intOf i).toNat)
  case atStart => exact ⟨0, _, F, Nat.zero_le _, rfl, HW1.out, HR1.out, HI1.out, HS1.out, fun b hb => Or.inl hb, HB1.out, hz1⟩
  case round =>
    obtain ⟨k, vk, Fk, hk, rfl, hW, hR, hI, hS, hF, hB, hz⟩ := hrel
    obtain ⟨ak, nk, ck, rfl⟩ := hS.out.one
    obtain ⟨x0, x1, x2, x3, x4, xf0, xf1, xf2, xf3, xf4⟩ := wcells hW.out
    have hzz := hz.out
    by_cases hlt : k < N
    · obtain ⟨idk, hidk⟩ : ∃ x, (idsOf 11 L)[k]? = some x := ⟨_, List.getElem?_eq_getElem (by have := HN.out; omega)⟩
      have hmem : idk ∈ idsOf 11 L := List.mem_of_getElem? hidk
      obtain ⟨gk, HGK⟩ : ∃ gk, Hid (gk = ((idsOf 11 L).take k).foldl (wall1 (mk L) wide high) g) := ⟨_, rfl⟩
      have hok : RowsOk L gk := by rw [HGK.out]; exact RowsOk.wall HGL.out.2.2.2.2.2 HRO.out wide high _
      obtain ⟨h1, ⟨q0, h2⟩, h3⟩ := at_ids HGL.out.even HGL.out.2.2.2.2.2 gk hmem
      have hgk := good_with HGL.out hok
      have hS' := hS.out
      rw [← HGK.out] at hS'
      obtain ⟨m, HM⟩ : ∃ m, Hid (m = mk L idk) := ⟨_, rfl⟩
      obtain ⟨q, HQ⟩ : ∃ q, Hid (q = gk idk) := ⟨_, rfl⟩
      rw [← HM.out, ← HQ.out] at h1
      rw [← HM.out] at h2
      have hqb := hok idk m q0 h2
      rw [← HQ.out] at hqb
      have HNX : Hid (∀ r, putL m idk r (withRows L gk) = withRows L (putG (mk L) gk idk r)) := St.hid (fun r => putL_with HGL.out.2.2.2.2.2 h2 r)
      have HGET : Hid (∀ W, Below wr.heap.size wr W → Calls Tryz.prog 25 #[.agg #[.slice ak nk ck, .int .i64 next], .int .i64 idk] W fun e w' => e = .returned (.tuple #[.int .i64 m, .agg #[.int .i64 q.x, .int .i64 q.y, .int .i64 q.px, .int .i64 q.py, .int .i64 q.wd, .int .i64 q.ht, .int .i64 q.ms, .int .i64 q.rr], .bool true]) ∧ Below W.heap.size W w') :=
        St.hid (fun W hb => (hS'.below hb).get_some hgk next idk m q h1)
      have HPUT : Hid (∀ (W : World) (r : R8), Sto W Fk (.slice ak nk ck) (withRows L gk) → Calls Tryz.prog 84 #[.agg #[.slice ak nk ck, .int .i64 next], .int .i64 idk, .agg #[.int .i64 r.x, .int .i64 r.y, .int .i64 r.px, .int .i64 r.py, .int .i64 r.wd, .int .i64 r.ht, .int .i64 r.ms, .int .i64 r.rr]] W fun e w' =>
          (∃ a n c, e = .returned (.agg #[.slice a n c, .int .i64 next]) ∧ ∃ F', Sto w' F' (.slice a n c) (putL m idk r (withRows L gk)) ∧ ∀ b, F' b → Fk b ∨ W.heap.size ≤ b) ∧ Below W.heap.size W w') :=
        St.hid (fun W r hs => put_any hs next hgk idk m q r h1)
      obtain ⟨b1, b2, b3, b4, b5, b6, b7, b8⟩ := row_bounds hqb
      obtain ⟨gi, cc, hai⟩ := own_some hI.out (by omega)
      simp only [Value.slice.injEq] at hai
      obtain ⟨rfl, -, rfl⟩ := hai
      have i0 : wr.cell? ⟨gi, k, none⟩ = some (.int .i64 idk) := by rw [hI.out.cellAt k (by omega), List.getElem?_map, hidk]; rfl
      have HGI := St.hid (hI.out.lt gi rfl)
      have HS := St.hid hS'
      have HIDK := St.hid hidk
      have hlt' : (k : Int) < (N : Int) := by omega
      clear hS h1 h2 h3 hok hgk hqb hmem hS' hidk
      go_wp2_with fail
      refine (HGET.out _ (Below.refl _ _)).mono ?_
      rintro e w2 ⟨rfl, hb2⟩
      have hW2 := St.hid (rowIs_below hW.out hb2)
      have hR2 := St.hid (rowIs_below hR.out hb2)
      have hI2 := St.hid (owns_below hI.out hb2)
      have HS2 := St.hid (HS.out.below hb2)
      have HB2 := St.hid (bcall hB.out hb2)
      have hz2 := hb2.size
      clear hb2 x0 x1 x2 x3 x4 xf0 xf1 xf2 xf3 xf4 hW hR hI hB HS i0
      obtain ⟨x0, x1, x2, x3, x4, xf0, xf1, xf2, xf3, xf4⟩ := wcells hW2.out
      have hzw : w.heap.size < w2.heap.size := by omega
      have HWA : Hid (∀ W, Calls Tryz.prog 88 #[.int .i64 q.x, .int .i64 q.px, .int .i64 q.wd, .int .i64 wide, .int .i64 q.rr] W fun e w' => e = .returned (.tuple #[.int .i64 (wallAt q.x q.wd wide), .int .i64 (wallPush q.x q.px q.wd wide q.rr)]) ∧ w' = W) :=
        St.hid (fun W => wall_any _ _ _ _ _ (by omega) (by omega) (by omega) (by omega) W)
      have HWB : Hid (∀ W, Calls Tryz.prog 88 #[.int .i64 q.y, .int .i64 q.py, .int .i64 q.ht, .int .i64 high, .int .i64 q.rr] W fun e w' => e = .returned (.tuple #[.int .i64 (wallAt q.y q.ht high), .int .i64 (wallPush q.y q.py q.ht high q.rr)]) ∧ w' = W) :=
        St.hid (fun W => wall_any _ _ _ _ _ (by omega) (by omega) (by omega) (by omega) W)
      go_wp2_with fail
      refine (HWA.out _).mono ?_
      rintro e w3 ⟨rfl, hw3⟩
      subst hw3
      go_wp2_with fail
      refine (HWB.out _).mono ?_
      rintro e w3 ⟨rfl, hw3⟩
      subst hw3
      go_wp2_with fail
      refine (HPUT.out _ ⟨wallAt q.x q.wd wide, wallAt q.y q.ht high, wallPush q.x q.px q.wd wide q.rr, wallPush q.y q.py q.ht high q.rr, q.wd, q.ht, q.ms, q.rr⟩ (HS2.out.below (bal (Below.refl _ _) _))).mono ?_
      rintro e w7 ⟨⟨a7, n7, c7, rfl, F7, hs7, hF7⟩, hb7⟩
      have hW7 := St.hid (rowIs_below (hW2.out.alloc _) hb7)
      have hR7 := St.hid (rowIs_below (hR2.out.alloc _) hb7)
      have hI7 := St.hid (owns_below (owns_below hI2.out (bal (Below.refl _ _) _)) hb7)
      have HB7 := St.hid (bcall (bal HB2.out _) hb7)
      have HS7 := St.hid hs7
      have HF7 := St.hid (fun b (hb : F7 b) => show F b ∨ w.heap.size + 1 + 1 ≤ b from (hF7 b hb).elim (fun h => hF.out b h) (fun h => Or.inr (by simp at h; omega)))
      have hz7 := hb7.size
      simp at hz7
      clear hb7 hs7 hF7 x0 x1 x2 x3 x4 xf0 xf1 xf2 xf3 xf4
      obtain ⟨x0, x1, x2, x3, x4, xf0, xf1, xf2, xf3, xf4⟩ := wcells hW7.out
      go_wp2_with fail
      go_roundw
      case rel =>
        have hno0 : ¬ F7 w.heap.size := fun hc => by
          rcases HF7.out _ hc with h | h
          · have := HST.out.lt h; omega
          · omega
        refine ⟨k + 1, .slice a7 n7 c7, F7, by omega, by go_num, ?_, ?_, ?_, ?_, HF7.out, ?_, ?_⟩
        · exact ((hW7.out.set 0 _).set 1 _).congr (fun i hi => by
            match i, hi with
            | 0, _ => rfl
            | 1, _ => rfl
            | 2, _ => rfl
            | 3, _ => rfl
            | 4, _ => rfl)
        · exact (hR7.out.setOther (a := ⟨w.heap.size, 0, none⟩) (by simp) _).setOther (a := ⟨w.heap.size, 1, none⟩) (by simp) _
        · have hne : (Value.slice (some ⟨gi, 0, none⟩) N ci).ownBlock ≠ some w.heap.size := by simp [Value.ownBlock]; have := HGI.out; omega
          exact owns_set (owns_set hI7.out hne _ _) hne _ _
        · have h7 := (HS7.out.setCell hno0 0 (.slice a7 n7 c7)).setCell hno0 1 (.int .i64 next)
          rw [HNX.out, HQ.out] at h7
          rw [take_fold _ _ _ _ _ HIDK.out, ← HGK.out]
          exact h7
        · exact (HB7.out.setCell (by simp) _).setCell (by simp) _
        · exact St.hid (by simp; omega)
      case measure => simp [intOf]; omega
    · obtain ⟨y0, y1, y2, y3, y4, yf0, yf1, yf2, yf3, yf4⟩ := wcells hR.out
      have hke : Hid ((idsOf 11 L).take k = idsOf 11 L) := St.hid (by rw [List.take_of_length_le]; have := HN.out; omega)
      go_wp2_with fail
      refine bodyPost_ret (v := .agg #[.slice ak nk ck, .int .i64 next, .int .i64 fall, .int .i64 wide, .int .i64 high]) (by simp [results, Tryz.results43, go_sem, y0, y1, y2, y3, y4]) rfl ⟨⟨ak, nk, ck, rfl, Fk, ?_, fun b hb => ?_⟩, ?_⟩
      · have h1 := hS.out
        rw [hke.out] at h1
        have hno : ¬ Fk (w.heap.size + 1) := fun hc => by
          rcases hF.out _ hc with h | h
          · have := HST.out.lt h; omega
          · omega
        exact ((((h1.setCell hno _ _).setCell hno _ _).setCell hno _ _).setCell hno _ _).setCell hno _ _
      · rcases hF.out b hb with h | h
        · exact Or.inl h
        · exact Or.inr (by omega)
      · iterate 5 refine Below.setCell ?_ (by simp) _
        exact hB.out
end Go.Proofs.YtckkkdldljhehabGreat.Wd
