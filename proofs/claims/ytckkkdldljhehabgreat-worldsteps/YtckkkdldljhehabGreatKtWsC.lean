/- What BoxesOf of package ninepinsref answers over things in a map: the boxes of all that have a place and a shape, by number, in memory of their own; nothing that was in memory before has changed. -/
import Derived.Test.YtckkkdldljhehabGreatKtWsA
import Derived.Test.YtckkkdldljhehabGreatPkH
import Derived.Test.YtckkkdldljhehabGreatPkO
namespace Go.Proofs.YtckkkdldljhehabGreat.Ws
open Go.Proofs.YtckkkdldljhehabGreat.Num Go.Proofs.YtckkkdldljhehabGreat.St Go.Proofs.YtckkkdldljhehabGreat.Mp Go.Proofs.YtckkkdldljhehabGreat.Th Go.Proofs.YtckkkdldljhehabGreat.Wd
open Go.ChangeShapes Go.WideShapes Go.ChangeAt Go.RowKit

set_option maxHeartbeats 2000000 in
set_option maxRecDepth 100000 in
theorem boxesOf_any {L : List Tab} {g : Int → R8} {w : World} (b : Nat) (next fall wide high : Int) {nx : Int} (h : Mp w b (thM (withRows L g))) (hg : GoodL nx L) (hr : RowsOk L g) :
    Calls Tryz.prog 18 #[.agg #[.map (some b), .int .i64 next, .int .i64 fall, .int .i64 wide, .int .i64 high]] w fun e w' =>
      (∃ u, e = .returned u ∧ w'.ownsRow w.heap.size 45 5 u (boxG L g).length ((boxG L g).flatMap Sw.boxCells)) ∧ Below w.heap.size w w' := by
  obtain ⟨i70, hi70, hz70, hs70, hb70⟩ := info_parts Sw.info70
  have HMP := St.hid h
  have HGL := St.hid hg
  have HRO := St.hid hr
  have hbz := h.lt
  have hlen : (thM (withRows L g)).length ≤ 1000000 := by rw [th_len hg]; have := ks_len hg; omega
  have HH := St.hid (having_any b (thM (withRows L g)) 5 _ (h.below (bal (Below.refl _ w) (.cells #[.map (some b), .int .i64 next, .int .i64 fall, .int .i64 wide, .int .i64 high] 31))) hlen)
  rw [ids_hav hg] at HH
  have hX0 := St.hid (rowIs5 w (.map (some b)) next fall wide high 31)
  have hfr := fieldR
  clear h hg hr hlen
  go_enter Tryz.func18, Tryz.ntmps18
  go_wp2_with fail
  refine HH.out.mono ?_
  rintro e w1 ⟨⟨ui, rfl, hid1⟩, hb1⟩
  obtain ⟨N, hN⟩ : ∃ N, N = (idsOf 5 L).length := ⟨_, rfl⟩
  have hN10 : N ≤ 10 := by rw [hN]; exact ids_len HGL.out
  rw [← hN] at hid1
  simp only [World.size_alloc] at hid1
  obtain ⟨ai, ci, rfl, -⟩ := Sw.owns_slice hid1
  have hX1 := St.hid (rowIs_below hX0.out hb1)
  have HM1 := St.hid ((HMP.out.below (bal (Below.refl _ w) _)).below hb1)
  have HB1 := St.hid (bcall (bal (Below.refl _ w) _) hb1)
  have HI1 := St.hid hid1
  have HN := St.hid hN
  have hz1 := hb1.size
  simp only [World.size_alloc] at hz1
  clear hb1 hid1 hN
  go_wp2_with fail
  go_loopw [3, 11] (fun u i wr => ∃ k : Nat, k ≤ N ∧ i = .int .i64 k ∧ Hid (wr.rowIs w.heap.size 31 5 (wcell (.map (some b)) next fall wide high)) ∧ Hid (wr.ownsRow (w.heap.size + 1) 3 1 (.slice ai N ci) N ((idsOf 5 L).map (Value.int .i64))) ∧
    Hid (wr.ownsRow (w.heap.size + 1) 45 5 u k (((boxG L g).take k).flatMap Sw.boxCells)) ∧ Hid (Mp wr b (thM (withRows L g))) ∧ Hid (Below w.heap.size w wr) ∧ Hid (w.heap.size + 1 ≤ wr.heap.size)) (fun _ i _ => N - (intOf i).toNat)
  case atStart => exact ⟨0, Nat.zero_le _, rfl, hX1.out, HI1.out, World.ownsRow_nil _ _ _ _, HM1.out, HB1.out, St.hid (by omega)⟩
  case round =>
    obtain ⟨k, hk, rfl, hX, hI, hO, hS, hB, hz⟩ := hrel
    obtain ⟨x0, x1, x2, x3, x4, -, -, -, -, -⟩ := rcells hX.out
    have hzz := hz.out
    by_cases hlt : k < N
    · obtain ⟨idk, hidk⟩ : ∃ x, (idsOf 5 L)[k]? = some x := ⟨_, List.getElem?_eq_getElem (by have := HN.out; omega)⟩
      have hmem : idk ∈ allL L := ids_all HGL.out (List.mem_of_getElem? hidk)
      obtain ⟨q0, h2⟩ := at_all HGL.out.even HGL.out.2.2.2.2.2 hmem
      have hgm := get_with HGL.out.even HGL.out.2.2.2.2.2 g hmem
      have hqb := HRO.out idk _ q0 h2
      obtain ⟨t, HT⟩ : ∃ t : Th, Hid (t = ⟨mk L idk, g idk⟩) := ⟨_, rfl⟩
      rw [← HT.out] at hgm
      have hqt : g idk = t.r := by rw [HT.out]
      rw [hqt] at hqb
      have hlk := hS.out.look (hS.out.wf hgm)
      rw [hgm] at hlk
      simp only [Option.getD_some, thV] at hlk
      obtain ⟨b1, b2, b3, b4, b5, b6, b7, b8⟩ := row_bounds hqb
      obtain ⟨gi, cc, hai⟩ := own_some hI.out (by omega)
      simp only [Value.slice.injEq] at hai
      obtain ⟨rfl, -, rfl⟩ := hai
      have i0 : wr.cell? ⟨gi, k, none⟩ = some (.int .i64 idk) := by rw [hI.out.cellAt k (by omega), List.getElem?_map, hidk]; rfl
      have HBT : Hid ((boxG L g).take (k + 1) = (boxG L g).take k ++ [⟨idk, t.r.x - t.r.wd, t.r.y - t.r.ht, t.r.x + t.r.wd, t.r.y + t.r.ht⟩]) := St.hid (by
        rw [show boxG L g = (idsOf 5 L).map (boxOf g) from rfl, take_map _ _ _ _ hidk, ← hqt]
        rfl)
      have hlt' : (k : Int) < (N : Int) := by omega
      have HZB := St.hid hS.out.lt
      clear h2 hqb hmem hidk hgm hqt
      go_wp2_with (at_builtin; refine wpList_append_own _ rfl _ _ 41 rfl (w.heap.size + 1) 45 i70 (.agg #[.int .i64 0, .int .i64 0, .int .i64 0, .int .i64 0, .int .i64 0]) 5 40 Tryz.underlying41 hi70 hz70 hs70 hb70 rfl (by decide) _ _ _ rfl ((hO.out.alloc _).alloc _) ⟨wr.heap.size + 1, 0, none⟩ 1 1 [.int .i64 idk, .int .i64 (t.r.x - t.r.wd), .int .i64 (t.r.y - t.r.ht), .int .i64 (t.r.x + t.r.wd), .int .i64 (t.r.y + t.r.ht)] rfl ?c1 ?c2 ?c3 ?c4 ?c5 ?c6 ?_)
      case c1 => rfl
      case c2 =>
        intro j u hj
        match j, hj with
        | 0, hj => cases hj; simp [Addr.add]
        | 1, hj => cases hj; simp [Addr.add]
        | 2, hj => cases hj; simp [Addr.add]
        | 3, hj => cases hj; simp [Addr.add]
        | 4, hj => cases hj; simp [Addr.add]
      case c3 => intro u hu; simp at hu; rcases hu with rfl | rfl | rfl | rfl | rfl <;> rfl
      case c4 => unfold maxLen; omega
      case c5 => omega
      case c6 => simp; omega
      intro v' w5 hown5 hg5 _
      have HO5 := St.hid hown5
      have HG5 := St.hid hg5
      clear hown5 hg5
      go_wp2_with fail
      go_roundw
      case rel =>
        have hlo := fun z e => (hO.out.lt z e).1
        refine ⟨k + 1, by omega, by go_num, ?_, ?_, ?_, ?_, ?_, ?_⟩
        · exact rowIs_grown ((hX.out.alloc _).alloc _) HG5.out (fun e => by have := hlo _ e; omega)
        · exact Sw.owns_kept ((hI.out.alloc _).alloc _) HG5.out (Sw.apart_kind hI.out hO.out (by decide))
        · have h5 := HO5.out
          rw [HBT.out, List.flatMap_append]
          exact h5
        · have h5 := hS.out.below (bal (bal (Below.refl _ wr) (.cells #[.int .i64 t.r.x, .int .i64 t.r.y, .int .i64 t.r.px, .int .i64 t.r.py, .int .i64 t.r.wd, .int .i64 t.r.ht, .int .i64 t.r.ms, .int .i64 t.r.rr] 56)) (.cells #[.int .i64 idk, .int .i64 (t.r.x - t.r.wd), .int .i64 (t.r.y - t.r.ht), .int .i64 (t.r.x + t.r.wd), .int .i64 (t.r.y + t.r.ht)] 45))
          exact h5.kept HG5.out (fun e => by have h1 := hlo b e.symm; omega)
        · exact (bal (bal hB.out _) _).grown HG5.out (by simp; omega) (fun z e => by have := hlo z e; omega)
        · have := HG5.out.size
          simp at this
          exact St.hid (by omega)
      case measure => simp [intOf]; omega
    · have hke : k = N := by omega
      subst hke
      go_wp2_with fail
      go_ret
      refine ⟨⟨_, rfl, ?_⟩, hB.out⟩
      have hl : (boxG L g).length = k := by have := HN.out; simp [boxG]; omega
      have h1 := hO.out
      rw [List.take_of_length_le (by omega)] at h1
      rw [hl]
      exact owns_mono h1 (by omega)
end Go.Proofs.YtckkkdldljhehabGreat.Ws
