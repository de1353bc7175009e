/- What slices.DeleteFunc answers when called over a row of boxes of one's own with sweep's own question: those that do not end ahead, in their order, in the same row. -/
import Derived.Test.YtckkkdldljhehaaKtSwG
namespace Go.Proofs.Ytckkkdldljhehaa.Sw
open Go.ChangeShapes Go.WideShapes Go.ChangeAt Go.RowKit Go.Sort Go.Shelf Go.Lib

theorem boxL_own {w : World} {B g n c : Nat} {l : List B5} (h : w.ownsRow B 70 5 (.slice (some ⟨g, 0, none⟩) n c) n (l.flatMap boxCells)) : BoxL w (some ⟨g, 0, none⟩) l := by
  intro _
  refine ⟨g, 0, rfl, (h.lt g rfl).2, fun i x hi => ?_⟩
  have := box_at h hi
  simpa only [Nat.zero_add] using this

theorem vbox {wr w2 : World} {a b c d e : Value} {t : TypeId} (h : RowKit.Below (wr.alloc (.cells #[a, b, c, d, e] t)).heap.size (wr.alloc (.cells #[a, b, c, d, e] t)) w2) :
    w2.cell? ⟨wr.heap.size, 0, none⟩ = some a ∧ w2.cell? ⟨wr.heap.size, 1, none⟩ = some b ∧ w2.cell? ⟨wr.heap.size, 2, none⟩ = some c ∧ w2.cell? ⟨wr.heap.size, 3, none⟩ = some d ∧ w2.cell? ⟨wr.heap.size, 4, none⟩ = some e := by
  have k := fun o => h.cell (p := ⟨wr.heap.size, o, none⟩) (by simp)
  simp only [k]
  simp

set_option maxHeartbeats 4000000 in
set_option maxRecDepth 100000 in
theorem deleteB_row (base g n c B : Nat) (O : List B5) (bx : Int) (w : World) (hn : n = O.length) (hz : n ≤ 1000000000) (hown : w.ownsRow base 70 5 (.slice (some ⟨g, 0, none⟩) n c) n (O.flatMap boxCells)) (hB : B < w.heap.size) (hBg : B ≠ g) (hb : w.cell? ⟨B, 1, none⟩ = some (.int .i64 bx)) :
    Calls Try.prog 86 #[.slice (some ⟨g, 0, none⟩) n c, .func (.func 87) #[] #[.pointer (some ⟨B, 0, none⟩)]] w fun e w' =>
      (∃ v, e = .returned v ∧ w'.ownsRow base 70 5 v (strikeX O bx).length ((strikeX O bx).flatMap boxCells) ∧ (v.ownBlock = some g)) ∧ w.grownBy w' (some g) := by
  have HI := hid (indexB_any (some ⟨g, 0, none⟩) n c B O bx w hn (by omega) (boxL_own hown) hB hb)
  have hnc : n ≤ c ∧ c ≤ maxLen := by
    rcases hown.2 with ⟨e, _⟩ | ⟨g', c', cur, e, _, _, q1, q2, _, _⟩
    · cases e
    · cases e; exact ⟨q1, q2⟩
  obtain ⟨hnc, hcm⟩ := hnc
  unfold maxLen at hcm
  have HO := hid hown
  have HN := hid hn
  have HB := hid hb
  have hgl := (hown.lt g rfl).2
  clear hown hn hb
  go_enter Try.func86, Try.ntmps86
  go_wp2_with fail
  refine HI.out.mono ?_
  rintro e w1 ⟨⟨r, rfl, hr⟩, h1⟩
  have H1 := hid h1
  have hz1 := h1.size
  clear h1
  rcases hr with ⟨rfl, hall⟩ | ⟨k, rfl, ⟨x, hx, hxe⟩, hno⟩
  · have HA := hid (strikeX_all hall)
    clear hall
    go_wp2_with fail
    go_ret
    refine ⟨⟨_, rfl, ?_, rfl⟩, ⟨H1.out.os, H1.out.tape, H1.out.output, H1.out.size, fun k hk _ => H1.out.block k hk⟩⟩
    rw [HA.out, ← HN.out]
    exact owns_below HO.out H1.out
  · have hkn : k < n := by have := (List.getElem?_eq_some_iff.1 hx).1; have := HN.out; omega
    have HF := hid (Strk.first hx hxe hno)
    clear hx hxe hno
    have hk1 : ¬ ((k : Int) = -1) := by omega
    go_wp2_with fail
    go_loopw [5, 6] (fun i j wr => ∃ (i0 j0 : Nat) (R : List B5), i = .int .i64 i0 ∧ j = .int .i64 j0 ∧ i0 < j0 ∧ j0 ≤ n ∧ Hid (Strk O R bx i0 j0) ∧ Hid (wr.ownsRow base 70 5 (.slice (some ⟨g, 0, none⟩) n c) n (R.flatMap boxCells)) ∧ Hid (w.grownBy wr (some g))) (fun _ j _ => n - (intOf j).toNat)
    case atStart =>
      exact ⟨k, k + 1, O, rfl, by go_num, by omega, by omega, HF, hid (owns_below HO.out H1.out), hid ⟨H1.out.os, H1.out.tape, H1.out.output, H1.out.size, fun k hk _ => H1.out.block k hk⟩⟩
    case round =>
      obtain ⟨i, j, R, rfl, rfl, hij, hjn, hst, hrow, hgr⟩ := hrel
      have hzr := hgr.out.size
      by_cases hlt : j < n
      · obtain ⟨x, hx⟩ : ∃ x, O[j]? = some x := ⟨_, List.getElem?_eq_getElem (by have := HN.out; omega)⟩
        obtain ⟨c0, c1, c2, c3, c4⟩ := box_at hrow.out (hst.out.at hx)
        have HX := hid hx
        clear hx
        obtain ⟨xi, xx1, xy1, xx2, xy2⟩ := x
        simp only at c0 c1 c2 c3 c4
        have hBw : wr.cell? ⟨B, 1, none⟩ = some (.int .i64 bx) := (World.cell?_of_block (a := ⟨B, 1, none⟩) (hgr.out.block B hB (by simp; omega))).trans HB.out
        have HE := hid (ends_any xi xx1 xy1 xx2 xy2 bx B (wr.alloc (.cells #[.int .i64 xi, .int .i64 xx1, .int .i64 xy1, .int .i64 xx2, .int .i64 xy2] 70)) (by simp; omega) (Lib.cell?_alloc_some _ hBw))
        clear hBw
        have hjn' : (j : Int) < (n : Int) := by omega
        have hin' : (i : Int) < (n : Int) := by omega
        by_cases he : xx2 ≤ bx
        · rw [decide_eq_true he] at HE
          go_wp2_with (go_at_call 87; refine HE.out.mono ?_; rintro e w2 ⟨rfl, h2⟩; have H2 := hid h2; clear h2)
          go_roundw
          case rel =>
            refine ⟨_, _, _, _, _, _, _, _, _, _, _, _, _, _, _, _, _, _, _, _, _, _, _, ⟨i, j + 1, R, rfl, by go_num, by omega, by omega, hid (hst.out.out (by have := HN.out; omega) HX.out (by show ¬ bx < xx2; omega)), hid (owns_below (hrow.out.alloc _) H2.out), hid ?_⟩, rfl⟩
            exact grown_trans hgr.out (grown_trans (World.grownBy_alloc wr _ _) ⟨H2.out.os, H2.out.tape, H2.out.output, H2.out.size, fun k hk _ => H2.out.block k hk⟩)
          case measure => simp [intOf]; omega
        · rw [decide_eq_false he] at HE
          obtain ⟨y, hy⟩ : ∃ y, R[i]? = some y := ⟨_, List.getElem?_eq_getElem (by have := HN.out; have := hst.out.len; omega)⟩
          go_wp2_with (go_at_call 87; refine HE.out.mono ?_; rintro e w2 ⟨rfl, h2⟩; have H2 := hid h2; have HR2 := hid (owns_below (hrow.out.alloc _) h2); obtain ⟨v0, v1, v2, v3, v4⟩ := vbox h2; obtain ⟨o0, o1, o2, o3, o4⟩ := box_at HR2.out hy; have f0 := HR2.out.frozenAt (i * 5); have f1 := HR2.out.frozenAt (i * 5 + 1); have f2 := HR2.out.frozenAt (i * 5 + 2); have f3 := HR2.out.frozenAt (i * 5 + 3); have f4 := HR2.out.frozenAt (i * 5 + 4); clear h2 c0 c1 c2 c3 c4)
          go_roundw
          case rel =>
            refine ⟨_, _, _, _, _, _, _, _, _, _, _, _, _, _, _, _, _, _, _, _, _, _, _, ⟨i + 1, j + 1, R.set i ⟨xi, xx1, xy1, xx2, xy2⟩, by go_num, by go_num, by omega, by omega, hid (hst.out.keep (by have := HN.out; omega) HX.out (by show bx < xx2; omega)), hid ?_, hid ?_⟩, rfl⟩
            · exact box_write (W := w2) ⟨xi, xx1, xy1, xx2, xy2⟩ (by have := HN.out; have := hst.out.len; omega) HR2.out
            · exact grown_trans hgr.out (grown_trans (World.grownBy_alloc wr _ _) (grown_trans ⟨H2.out.os, H2.out.tape, H2.out.output, H2.out.size, fun k hk _ => H2.out.block k hk⟩ (grown_setB5 w2 g i ⟨xi, xx1, xy1, xx2, xy2⟩)))
          case measure => simp [intOf]; omega
      · have hjn2 : j = n := by omega
        have hin : i < n := by omega
        have HP := hid (owns_part hrow.out (Nat.le_of_lt hin))
        have hci : ¬ (c = i) := by omega
        have hii : (i : Int) ≤ (n : Int) := by omega
        have hic : (i : Int) ≤ (c : Int) := by omega
        have hncI : (n : Int) ≤ (c : Int) := by omega
        obtain ⟨w3, hrun, hw3, hg3⟩ := clear_runM (P := Try.prog) 68 0 base 70 (.agg #[.int .i64 0, .int .i64 0, .int .i64 0, .int .i64 0, .int .i64 0]) 5 40 Try.underlying68 info70 rfl (by decide) (by decide) g i c (n - i) (c - i) _ HP.out (by omega) (by omega)
        have HW := hid hw3
        have HG3 := hid hg3
        clear hw3 hg3
        go_wp2_with fail
        go_ret
        have hk := hst.out.kept
        have hO : O.take j = O := by rw [hjn2, HN.out]; exact List.take_length
        rw [hO] at hk
        have hlen : (strikeX O bx).length = i := by rw [← hk, List.length_take]; have := hst.out.len; have := HN.out; omega
        refine ⟨⟨_, rfl, ?_, rfl⟩, grown_trans hgr.out HG3.out⟩
        have h3 := HW.out
        rw [flat_take boxCells 5 (fun _ => rfl) R i (by have := hst.out.len; have := HN.out; omega), hk] at h3
        rw [hlen]
        exact h3
end Go.Proofs.Ytckkkdldljhehaa.Sw
