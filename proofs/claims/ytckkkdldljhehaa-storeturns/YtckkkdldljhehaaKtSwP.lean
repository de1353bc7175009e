/- What Look of package sweep answers when called over boxes in memory: the numbers of all that overlap one, rising, in memory of their own; nothing that was in memory before has changed. -/
import Derived.Test.YtckkkdldljhehaaKtSwJ
namespace Go.Proofs.Ytckkkdldljhehaa.Sw
open Go.ChangeShapes Go.WideShapes Go.ChangeAt Go.RowKit Go.Sort Go.Shelf Go.Lib

def lookL (l : List B5) (b : B5) : List Int := (l.filter (fun o => meetB o b)).map (·.id)
def lookP (l : List B5) (b : B5) : List Int := if goodB l then sortI (lookL l b) else []
theorem lookL_len (l : List B5) (b : B5) : (lookL l b).length ≤ l.length := by
  unfold lookL
  rw [List.length_map]
  exact List.length_filter_le _ _
theorem lookL_not {l : List B5} {k : Nat} {x b : B5} (hx : l[k]? = some x) (h : meetB x b = false) : lookL (l.take (k + 1)) b = lookL (l.take k) b := by
  have hlt : k < l.length := (List.getElem?_eq_some_iff.1 hx).1
  rw [List.take_succ_eq_append_getElem hlt, (List.getElem?_eq_some_iff.1 hx).2]
  simp [lookL, h]
theorem lookL_met {l : List B5} {k : Nat} {x b : B5} (hx : l[k]? = some x) (h : meetB x b = true) : lookL (l.take (k + 1)) b = lookL (l.take k) b ++ [x.id] := by
  have hlt : k < l.length := (List.getElem?_eq_some_iff.1 hx).1
  rw [List.take_succ_eq_append_getElem hlt, (List.getElem?_eq_some_iff.1 hx).2]
  simp [lookL, h]
set_option maxHeartbeats 2000000 in
set_option maxRecDepth 100000 in
theorem look_any (a : Option Addr) (n cap : Nat) (l : List B5) (b : B5) (w : World) (hn : n = l.length) (hz : n ≤ 1000000) (hB : BoxL w a l) :
    Calls Try.prog 53 #[.slice a n cap, .agg #[.int .i64 b.id, .int .i64 b.x1, .int .i64 b.y1, .int .i64 b.x2, .int .i64 b.y2]] w fun e w' => (∃ u, e = .returned u ∧ w'.ownsRow w.heap.size 3 1 u (lookP l b).length ((lookP l b).map (Value.int .i64))) ∧ RowKit.Below w.heap.size w w' := by
  obtain ⟨bi, bx1, by1, bx2, by2⟩ := b
  simp only
  obtain ⟨i0, hi, hz0, hz1, hz2⟩ := info_parts info3
  have hB1 : BoxL (w.alloc (.cells #[.int .i64 bi, .int .i64 bx1, .int .i64 by1, .int .i64 bx2, .int .i64 by2] 70)) a l := by
    intro hp
    obtain ⟨b, off, rfl, hb, hc⟩ := hB hp
    refine ⟨b, off, rfl, by simp; omega, fun i x hx => ?_⟩
    have kk := fun o => (bal (Below.refl _ w) (.cells #[.int .i64 bi, .int .i64 bx1, .int .i64 by1, .int .i64 bx2, .int .i64 by2] 70)).cell (p := ⟨b, o, none⟩) hb
    simp only [kk]
    exact hc i x hx
  have HG := hid (good_any a n cap l (w.alloc (.cells #[.int .i64 bi, .int .i64 bx1, .int .i64 by1, .int .i64 bx2, .int .i64 by2] 70)) hn (by omega) hB1)
  have HB := hid hB
  have HN := hid hn
  clear hB hB1 hn
  have HBX := hid (owns_box w ⟨bi, bx1, by1, bx2, by2⟩ w.heap.size (Nat.le_refl _))
  go_enter Try.func53, Try.ntmps53
  cases hq : goodB l
  · rw [hq] at HG
    have HP : Hid (lookP l ⟨bi, bx1, by1, bx2, by2⟩ = []) := by simp [Hid, lookP, hq]
    go_wp2_with (go_at_call 48; refine HG.out.mono ?_; rintro e w1 ⟨rfl, h1⟩; have H1 := hid h1; clear h1)
    go_ret
    exact ⟨⟨_, rfl, by rw [HP.out]; exact ⟨rfl, Or.inl ⟨rfl, rfl⟩⟩⟩, bcall (bal (Below.refl _ w) _) H1.out⟩
  · rw [hq] at HG
    have HP : Hid (lookP l ⟨bi, bx1, by1, bx2, by2⟩ = sortI (lookL l ⟨bi, bx1, by1, bx2, by2⟩)) := by simp [Hid, lookP, hq]
    go_wp2_with (go_at_call 48; refine HG.out.mono ?_; rintro e w1 ⟨rfl, h1⟩; have H1 := hid h1; clear h1)
    have HB1 := hid (bcall (bal (Below.refl _ w) _) H1.out)
    have HBX1 := hid (owns_below HBX.out H1.out)
    have hz1' : w.heap.size < w1.heap.size := by have := H1.out.size; simp at this; omega
    go_loopw [5, 13] (fun v i wr => ∃ k : Nat, k ≤ n ∧ i = .int .i64 k ∧ Hid (wr.ownsRow (w.heap.size + 1) 3 1 v (lookL (l.take k) ⟨bi, bx1, by1, bx2, by2⟩).length ((lookL (l.take k) ⟨bi, bx1, by1, bx2, by2⟩).map (Value.int .i64))) ∧ Hid (wr.ownsRow w.heap.size 70 5 (.slice (some ⟨w.heap.size, 0, none⟩) 1 1) 1 (boxCells ⟨bi, bx1, by1, bx2, by2⟩)) ∧ Hid (RowKit.Below w.heap.size w wr) ∧ w.heap.size < wr.heap.size) (fun _ i _ => n - (intOf i).toNat)
    case atStart =>
      exact ⟨0, Nat.zero_le _, rfl, hid (World.ownsRow_nil _ _ _ _), HBX1, HB1, hz1'⟩
    case round =>
      obtain ⟨k, hk, rfl, hown, hbx, hbl, hzr⟩ := hrel
      have hll : (lookL (l.take k) ⟨bi, bx1, by1, bx2, by2⟩).length ≤ n := by
        refine Nat.le_trans (lookL_len _ _) ?_
        rw [List.length_take, ← HN.out]
        omega
      by_cases hlt : k < n
      · obtain ⟨x, hx⟩ : ∃ x, l[k]? = some x := ⟨_, List.getElem?_eq_getElem (by have := HN.out; omega)⟩
        obtain ⟨b, off, rfl, hb, hc⟩ := HB.out (by have := HN.out; omega)
        obtain ⟨c0, c1, c2, c3, c4⟩ := hc k x hx
        have kk := fun o => hbl.out.cell (p := ⟨b, o, none⟩) hb
        rw [← kk] at c0 c1 c2 c3 c4
        clear kk
        have hbz : b < wr.heap.size := by omega
        obtain ⟨b0, b1, b2, b3, b4⟩ := box_one hbx.out
        clear hc
        have HX := hid hx
        clear hx
        obtain ⟨xi, xx1, xy1, xx2, xy2⟩ := x
        simp only at c0 c1 c2 c3 c4 b0 b1 b2 b3 b4
        have HMT := hid (meet_any xi xx1 xy1 xx2 xy2 bi bx1 by1 bx2 by2 (wr.alloc (.cells #[.int .i64 xi, .int .i64 xx1, .int .i64 xy1, .int .i64 xx2, .int .i64 xy2] 70)))
        cases hmt : meetB ⟨xi, xx1, xy1, xx2, xy2⟩ ⟨bi, bx1, by1, bx2, by2⟩
        · rw [hmt] at HMT
          have HQ := hid (lookL_not HX.out hmt)
          clear hmt
          go_wp2_with (go_at_call 46; refine HMT.out.mono ?_; rintro e w3 ⟨rfl, h3⟩; have H3 := hid h3; clear h3)
          go_roundw
          case rel =>
            have h0 := bcall (bal (Below.refl _ wr) (.cells #[.int .i64 xi, .int .i64 xx1, .int .i64 xy1, .int .i64 xx2, .int .i64 xy2] 70)) H3.out
            refine ⟨k + 1, by omega, by go_num, ?_, hid (owns_below hbx.out h0), hid (bcall hbl.out h0), by have := h0.size; omega⟩
            rw [HQ.out]
            exact hid (owns_below hown.out h0)
          case measure => simp [intOf]; omega
        · rw [hmt] at HMT
          have HQ := hid (lookL_met HX.out hmt)
          clear hmt
          have HXB := hid (owns_box wr ⟨xi, xx1, xy1, xx2, xy2⟩ wr.heap.size (Nat.le_refl _))
          go_wp2_with fail
          refine HMT.out.mono ?_
          rintro e w3 ⟨rfl, h3⟩
          have H3 := hid h3
          obtain ⟨v0, v1, v2, v3, v4⟩ := box_one (owns_below HXB.out h3)
          clear h3 v1 v2 v3 v4 c0 c1 c2 c3 c4 b0 b1 b2 b3 b4
          simp only at v0
          have H03 := hid (bcall (bal (Below.refl _ wr) (.cells #[.int .i64 xi, .int .i64 xx1, .int .i64 xy1, .int .i64 xx2, .int .i64 xy2] 70)) H3.out)
          have hz3 : wr.heap.size < w3.heap.size := by have := H3.out.size; simp at this; omega
          go_wp2_with (at_builtin; refine wpList_append_own _ rfl _ _ 47 rfl (w.heap.size + 1) 3 i0 (.int .i64 0) 1 8 Try.underlying47 hi hz0 hz1 hz2 rfl (by decide) _ _ _ rfl ((owns_below hown.out H03.out).alloc _) ⟨w3.heap.size, 0, none⟩ 1 1 [.int .i64 xi] rfl ?c1 ?c2 ?c3 ?c4 ?c5 ?c6 ?_)
          case c1 => rfl
          case c2 =>
            intro j u hj
            match j, hj with
            | 0, hj => cases hj; simp [Addr.add]
          case c3 => intro u hu; simp at hu; subst hu; rfl
          case c4 => unfold maxLen; omega
          case c5 => omega
          case c6 => simp; omega
          intro v' w4 hown4 hgrow4 _
          have HO4 := hid hown4
          have HG4 := hid hgrow4
          clear hown4 hgrow4 v0
          go_wp2_with fail
          go_roundw
          case rel =>
            have h0 := bal H03.out (.cells #[.int .i64 xi] 3)
            have hne : ∀ z, u5.ownBlock = some z → w.heap.size + 1 ≤ z := fun z hz => (hown.out.lt z hz).1
            refine ⟨k + 1, by omega, by go_num, ?_, hid (owns_kept (owns_below hbx.out h0) HG4.out (fun z hz e => by simp [Value.ownBlock] at hz; have := hne z e; omega)), hid ((bcall hbl.out h0).grown HG4.out (by simp; omega) (fun q hq' => by have := hne q hq'; omega)), by have := HG4.out.size; simp at this; omega⟩
            · have := HO4.out
              rw [HQ.out, List.map_append, List.length_append]
              exact hid this
          case measure => simp [intOf]; omega
      · have hke : k = n := by omega
        have HL : Hid (lookL (l.take k) ⟨bi, bx1, by1, bx2, by2⟩ = lookL l ⟨bi, bx1, by1, bx2, by2⟩) := hid (by rw [hke, HN.out, List.take_length])
        have hS := hown.out
        rw [HL.out] at hS
        have HS := hid hS
        rw [HL.out] at hll
        have HPL : Hid ((lookP l ⟨bi, bx1, by1, bx2, by2⟩).length = (lookL l ⟨bi, bx1, by1, bx2, by2⟩).length) := hid (by rw [HP.out]; simp [sortI])
        clear hS hown
        generalize lookL l ⟨bi, bx1, by1, bx2, by2⟩ = zs at HS HP HPL hll
        obtain ⟨N, HNz⟩ : ∃ N, Hid (N = zs.length) := ⟨_, rfl⟩
        rw [← HNz.out] at HS hll HPL
        rcases HS.out.2 with ⟨hv, hz0'⟩ | ⟨g, c, cur, hv, hbase, hblk, q1, q2, q3, q4⟩
        · subst hv
          have hzs : zs = [] := List.length_eq_zero_iff.1 (by have := HNz.out; omega)
          have HZ := hid hzs
          clear hzs
          go_wp2_with (first | (go_at_call 78; refine (Try.slices_Sort_int_none _ _ _).mono ?_; rintro e w' ⟨rfl, rfl⟩))
          go_ret
          refine ⟨⟨_, rfl, ?_⟩, hbl.out⟩
          rw [HP.out, HZ.out]
          rw [show sortI ([] : List Int) = [] from by simp [sortI]]
          exact ⟨rfl, Or.inl ⟨rfl, rfl⟩⟩
        · subst hv
          clear hblk q1 q2 q3 q4 hbase
          have hs := sortI_own (w.heap.size + 1) g c N zs wr HNz.out (by omega) HS.out
          have HSS := hid hs
          clear hs
          go_wp2_with (go_at_call 78; refine HSS.out.mono ?_; rintro e w2 ⟨rfl, h2, h3⟩; have H2 := hid h2; have H3 := hid h3; clear h2 h3)
          go_ret
          refine ⟨⟨_, rfl, ?_⟩, hbl.out.grown H3.out (Nat.le_of_lt hzr) (fun q hq' => by cases hq'; have := (HS.out.lt g rfl).1; omega)⟩
          rw [HPL.out, HP.out]
          exact owns_mono H2.out (by omega)
end Go.Proofs.Ytckkkdldljhehaa.Sw
