/- What Boxes of package world answers over a good store: the boxes of all that have a place and a shape, by number, in memory of their own; nothing that was in memory before has changed. -/
import Derived.Test.YtckkkdldljhehabGreatWdC
namespace Go.Proofs.YtckkkdldljhehabGreat.Wd
open Go.Proofs.YtckkkdldljhehabGreat.Num Go.Proofs.YtckkkdldljhehabGreat.St
open Go.ChangeShapes Go.WideShapes Go.ChangeAt Go.RowKit

theorem take_map {α β : Type} (f : α → β) (l : List α) (k : Nat) (x : α) (h : l[k]? = some x) : (l.map f).take (k + 1) = (l.map f).take k ++ [f x] := by
  have hlt := (List.getElem?_eq_some_iff.1 h).1
  rw [List.take_succ_eq_append_getElem (by simpa using hlt)]
  simp [(List.getElem?_eq_some_iff.1 h).2]

set_option maxHeartbeats 2000000 in
set_option maxRecDepth 100000 in
theorem boxes_any {F : Nat → Prop} {v : Value} {L : List Tab} {g : Int → R8} {w : World} (next : Int) (h : Sto w F v (withRows L g)) (hg : GoodL next L) (hr : RowsOk L g) :
    Calls Tryz.prog 17 #[.agg #[v, .int .i64 next]] w fun e w' =>
      (∃ u, e = .returned u ∧ w'.ownsRow w.heap.size 45 5 u (boxG L g).length ((boxG L g).flatMap Sw.boxCells)) ∧ Below w.heap.size w w' := by
  obtain ⟨a, n, cap, rfl⟩ := h.one
  obtain ⟨i70, hi70, hz70, hs70, hb70⟩ := info_parts Sw.info70
  have hgw := good_with hg hr
  have hids := ids_with 5 L g
  have HST := St.hid h
  have HGL := St.hid hg
  have HRO := St.hid hr
  have HGW := St.hid hgw
  clear h hg hr
  go_enter Tryz.func17, Tryz.ntmps17
  go_wp2_with fail
  refine ((HST.out.below (bal (Below.refl _ _) _)).good next).mono ?_
  rintro e w0 ⟨⟨gd, rfl, hgd⟩, hb0⟩
  have : gd = true := hgd.2 hgw
  subst this
  have HS0 := St.hid ((HST.out.below (bal (Below.refl _ _) _)).below hb0)
  have hX0 := St.hid (rowIs_below (rowIs2 w (.slice a n cap) (.int .i64 next) 24) hb0)
  have HB0 := St.hid (bcall (bal (Below.refl _ w) _) hb0)
  have hz0 := hb0.size
  simp at hz0
  clear hb0 hgd
  have x0 := hX0.out.cell (i := 0) (by omega)
  have x1 := hX0.out.cell (i := 1) (by omega)
  simp at x0 x1
  go_wp2_with fail
  refine (HS0.out.query hgw next 5).mono ?_
  rw [hids]
  rintro e w1 ⟨⟨ai, ci, rfl, hid1⟩, hb1⟩
  obtain ⟨N, hN⟩ : ∃ N, N = (idsOf 5 L).length := ⟨_, rfl⟩
  have hN10 : N ≤ 10 := by rw [hN]; exact ids_len HGL.out
  rw [← hN] at hid1 ⊢
  have hX1 := St.hid (rowIs_below hX0.out hb1)
  have HS1 := St.hid (HS0.out.below hb1)
  have HB1 := St.hid (bcall HB0.out hb1)
  have HI1 := St.hid (owns_mono hid1 (show w.heap.size + 1 ≤ w0.heap.size from hz0))
  have HN := St.hid hN
  have hz1 := hb1.size
  clear hb1 hid1 hN hgw hids x0 x1 hX0 HS0 HB0
  go_wp2_with fail
  go_loopw [3, 15] (fun u i wr => ∃ k : Nat, k ≤ N ∧ i = .int .i64 k ∧ Hid (wr.rowIs w.heap.size 24 2 (fun i => if i = 0 then .slice a n cap else .int .i64 next)) ∧ Hid (wr.ownsRow (w.heap.size + 1) 3 1 (.slice ai N ci) N ((idsOf 5 L).map (Value.int .i64))) ∧
    Hid (wr.ownsRow (w.heap.size + 1) 45 5 u k (((boxG L g).take k).flatMap Sw.boxCells)) ∧ Hid (Sto wr F (.slice a n cap) (withRows L g)) ∧ Hid (Below w.heap.size w wr) ∧ Hid (w.heap.size + 1 ≤ wr.heap.size)) (fun _ i _ => N - (intOf i).toNat)
  case atStart => exact ⟨0, Nat.zero_le _, rfl, hX1.out, HI1.out, World.ownsRow_nil _ _ _ _, HS1.out, HB1.out, St.hid (by omega)⟩
  case round =>
    obtain ⟨k, hk, rfl, hX, hI, hO, hS, hB, hz⟩ := hrel
    have x0 := hX.out.cell (i := 0) (by omega)
    have x1 := hX.out.cell (i := 1) (by omega)
    simp at x0 x1
    have hzz := hz.out
    by_cases hlt : k < N
    · obtain ⟨idk, hidk⟩ : ∃ x, (idsOf 5 L)[k]? = some x := ⟨_, List.getElem?_eq_getElem (by have := HN.out; omega)⟩
      have hmem : idk ∈ idsOf 5 L := List.mem_of_getElem? hidk
      obtain ⟨h1, ⟨q0, h2⟩, h3⟩ := at_ids HGL.out.even HGL.out.2.2.2.2.2 g hmem
      obtain ⟨m, HM⟩ : ∃ m, Hid (m = mk L idk) := ⟨_, rfl⟩
      obtain ⟨q, HQ⟩ : ∃ q, Hid (q = g idk) := ⟨_, rfl⟩
      rw [← HM.out, ← HQ.out] at h1
      rw [← HM.out] at h2
      have hqb := HRO.out idk m q0 h2
      rw [← HQ.out] at hqb
      have HGET : Hid (∀ W, Below wr.heap.size wr W → Calls Tryz.prog 25 #[.agg #[.slice a n cap, .int .i64 next], .int .i64 idk] W fun e w' => e = .returned (.tuple #[.int .i64 m, .agg #[.int .i64 q.x, .int .i64 q.y, .int .i64 q.px, .int .i64 q.py, .int .i64 q.wd, .int .i64 q.ht, .int .i64 q.ms, .int .i64 q.rr], .bool true]) ∧ Below W.heap.size W w') :=
        St.hid (fun W hb => (hS.out.below hb).get_some HGW.out next idk m q h1)
      obtain ⟨b1, b2, b3, b4, b5, b6, b7, b8⟩ := row_bounds hqb
      obtain ⟨gi, cc, hai⟩ := own_some hI.out (by omega)
      simp only [Value.slice.injEq] at hai
      obtain ⟨rfl, -, rfl⟩ := hai
      have i0 : wr.cell? ⟨gi, k, none⟩ = some (.int .i64 idk) := by rw [hI.out.cellAt k (by omega), List.getElem?_map, hidk]; rfl
      have HBT : Hid ((boxG L g).take (k + 1) = (boxG L g).take k ++ [⟨idk, q.x - q.wd, q.y - q.ht, q.x + q.wd, q.y + q.ht⟩]) := St.hid (by
        rw [show boxG L g = (idsOf 5 L).map (boxOf g) from rfl, take_map _ _ _ _ hidk, HQ.out]
        rfl)
      have hlt' : (k : Int) < (N : Int) := by omega
      clear h1 h2 h3 hqb hmem hidk
      go_wp2_with fail
      refine (HGET.out _ (Below.refl _ _)).mono ?_
      rintro e w2 ⟨rfl, hb2⟩
      have hX2 := St.hid (rowIs_below hX.out hb2)
      have hI2 := St.hid (owns_below hI.out hb2)
      have hO2 := St.hid (owns_below hO.out hb2)
      have HS2 := St.hid (hS.out.below hb2)
      have HB2 := St.hid (bcall hB.out hb2)
      have hz2 := hb2.size
      clear hb2 x0 x1 hX hI hS hB i0 hO
      go_wp2_with (at_builtin; refine wpList_append_own _ rfl _ _ 41 rfl (w.heap.size + 1) 45 i70 (.agg #[.int .i64 0, .int .i64 0, .int .i64 0, .int .i64 0, .int .i64 0]) 5 40 Tryz.underlying41 hi70 hz70 hs70 hb70 rfl (by decide) _ _ _ rfl ((hO2.out.alloc _).alloc _) ⟨w2.heap.size + 1, 0, none⟩ 1 1 [.int .i64 idk, .int .i64 (q.x - q.wd), .int .i64 (q.y - q.ht), .int .i64 (q.x + q.wd), .int .i64 (q.y + q.ht)] rfl ?c1 ?c2 ?c3 ?c4 ?c5 ?c6 ?_)
      case c1 => rfl
      case c2 =>
        intro j u hj
        match j, hj with
        | 0, hj => cases hj; simp [Addr.add]
        | 1, hj => cases hj; simp [Addr.add]
        | 2, hj => cases hj; simp [Addr.add]
        | 3, hj => cases hj; simp [Addr.add]
        | 4, hj => cases hj; simp [Addr.add]
      case c3 => intro u hu; simp at hu; rcases hu with rfl | rfl | rfl | rfl | rfl <;> rfl
      case c4 => unfold maxLen; omega
      case c5 => omega
      case c6 => simp; omega
      intro v' w5 hown5 hg5 _
      have HO5 := St.hid hown5
      have HG5 := St.hid hg5
      clear hown5 hg5
      go_wp2_with fail
      go_roundw
      case rel =>
        have hlo := fun b e => (hO2.out.lt b e).1
        refine ⟨k + 1, by omega, by go_num, ?_, ?_, ?_, ?_, ?_, ?_⟩
        · exact rowIs_grown ((hX2.out.alloc _).alloc _) HG5.out (fun e => by have := hlo _ e; omega)
        · exact Sw.owns_kept ((hI2.out.alloc _).alloc _) HG5.out (Sw.apart_kind hI2.out hO2.out (by decide))
        · have h5 := HO5.out
          rw [HBT.out, List.flatMap_append]
          exact h5
        · have h5 := HS2.out.below (bal (bal (Below.refl _ w2) (.cells #[.int .i64 q.x, .int .i64 q.y, .int .i64 q.px, .int .i64 q.py, .int .i64 q.wd, .int .i64 q.ht, .int .i64 q.ms, .int .i64 q.rr] 56)) (.cells #[.int .i64 idk, .int .i64 (q.x - q.wd), .int .i64 (q.y - q.ht), .int .i64 (q.x + q.wd), .int .i64 (q.y + q.ht)] 45))
          exact h5.keep HG5.out.size (fun b hb => HG5.out.block b (h5.lt hb) (fun e => by have h1 := hlo b e.symm; have h2 := HST.out.lt hb; omega))
        · exact (bal (bal HB2.out _) _).grown HG5.out (by simp; omega) (fun b e => by have := hlo b e; omega)
        · have := HG5.out.size
          simp at this
          exact St.hid (by omega)
      case measure => simp [intOf]; omega
    · have hke : k = N := by omega
      subst hke
      go_wp2_with fail
      go_ret
      refine ⟨⟨_, rfl, ?_⟩, hB.out⟩
      have hl : (boxG L g).length = k := by have := HN.out; simp [boxG]; omega
      have h1 := hO.out
      rw [List.take_of_length_le (by omega)] at h1
      rw [hl]
      exact owns_mono h1 (by omega)
end Go.Proofs.YtckkkdldljhehabGreat.Wd
