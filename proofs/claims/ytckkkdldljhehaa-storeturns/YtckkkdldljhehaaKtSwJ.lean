/- What Pairs of package sweep answers when called over boxes in memory: all pairs that overlap, in their order, in memory of their own; none of boxes that are not good. There are at most a million boxes. -/
import Derived.Test.YtckkkdldljhehaaKtSwI
namespace Go.Proofs.Ytckkkdldljhehaa.Sw
open Go.ChangeShapes Go.WideShapes Go.ChangeAt Go.RowKit Go.Sort Go.Shelf Go.Lib

def pairsG (l : List B5) : List (Int × Int) := if goodB l then sortP (pairsOf l) else []
theorem take_snoc {l : List B5} {k : Nat} {x : B5} (hx : l[k]? = some x) : l.take (k + 1) = l.take k ++ [x] := by
  have hlt : k < l.length := (List.getElem?_eq_some_iff.1 hx).1
  rw [List.take_succ_eq_append_getElem hlt, (List.getElem?_eq_some_iff.1 hx).2]
theorem left_take {l : List B5} (h : Left l) {k : Nat} {x : B5} (hx : l[k]? = some x) : ∀ c ∈ l.take k, c.x1 ≤ x.x1 := by
  intro c hc
  obtain ⟨i, hi⟩ := List.mem_iff_getElem?.1 hc
  have hik : i < k := by have := (List.getElem?_eq_some_iff.1 hi).1; simp at this; omega
  rw [List.getElem?_take_of_lt hik] at hi
  have hlt : k < l.length := (List.getElem?_eq_some_iff.1 hx).1
  have := (List.pairwise_iff_getElem.1 h) i k (by omega) hlt hik
  rw [(List.getElem?_eq_some_iff.1 hi).2, (List.getElem?_eq_some_iff.1 hx).2] at this
  exact this
theorem sw_snoc {D : List B5} {q : Nat} {y b : B5} (hy : D[q]? = some y) : sw (D.take (q + 1)) b = sw (D.take q) b ++ (if meetB y b then [prI y.id b.id] else []) := by
  rw [take_snoc hy]
  unfold sw
  rw [List.filter_append, List.map_append]
  cases h : meetB y b <;> simp [h, pr, prI]
theorem below_of_grown {w w1 w2 : World} {B : Nat} {row : Option Nat} (h : RowKit.Below B w w1) (hg : w1.grownBy w2 row) (hB : B ≤ w1.heap.size) (hr : ∀ g, row = some g → B ≤ g) : RowKit.Below B w w2 := h.grown hg hB hr
theorem grownB {w w' : World} (h : RowKit.Below w.heap.size w w') (row : Option Nat) : w.grownBy w' row := ⟨h.os, h.tape, h.output, h.size, fun k hk _ => h.block k hk⟩

theorem owns_addr {w : World} {B size n c : Nat} {e : TypeId} {a : Option Addr} {xs : List Value} (h : w.ownsRow B e size (.slice a n c) n xs) : 0 < n → ∃ g, a = some ⟨g, 0, none⟩ := by
  obtain ⟨a', c', e, h'⟩ := owns_slice h
  cases e
  exact h'
/-- What has been met as the first q of those open have been asked. -/
def metQ (D S : List B5) (x : B5) (q : Nat) : List (Int × Int) := pairsOf D ++ sw (S.take q) x
theorem metQ_zero (D S : List B5) (x : B5) : metQ D S x 0 = pairsOf D := by simp [metQ, sw]
theorem metQ_not {D S : List B5} {x y : B5} {q : Nat} (hy : S[q]? = some y) (h : meetB y x = false) : metQ D S x (q + 1) = metQ D S x q := by
  unfold metQ
  rw [sw_snoc hy, h]
  simp
theorem metQ_met {D S : List B5} {x y : B5} {q : Nat} (hy : S[q]? = some y) (h : meetB y x = true) : metQ D S x (q + 1) = metQ D S x q ++ [prI y.id x.id] := by
  unfold metQ
  rw [sw_snoc hy, h]
  simp
theorem metQ_len (D S : List B5) (x : B5) (q : Nat) (k : Nat) (hD : D.length ≤ k) (hS : S.length ≤ k) (hk : k ≤ 1000000) : (metQ D S x q).length ≤ 1000001000000 := by
  unfold metQ
  have h1 := pairsOf_len D
  have h2 := sw_len (S.take q) x
  have h3 : D.length * D.length ≤ 1000000 * 1000000 := Nat.mul_le_mul (by omega) (by omega)
  have h4 : (S.take q).length ≤ S.length := by simp [List.length_take]; omega
  rw [List.length_append]
  omega
theorem metQ_end {D S : List B5} {x : B5} (h : sw S x = sw D x) : metQ D S x S.length = pairsOf (D ++ [x]) := by
  rw [metQ, List.take_length, h, pairsOf_snoc]

set_option maxHeartbeats 8000000 in
set_option maxRecDepth 100000 in
theorem pairs_any (a : Option Addr) (n cap : Nat) (l : List B5) (w : World) (hn : n = l.length) (hz : n ≤ 1000000) (ha : a = none → n = 0) (hB : BoxL w a l) :
    Calls Try.prog 51 #[.slice a n cap] w fun e w' => (∃ v, e = .returned v ∧ w'.ownsRow w.heap.size 79 2 v (pairsG l).length ((pairsG l).flatMap pairCells)) ∧ RowKit.Below w.heap.size w w' := by
  have HG := hid (good_any a n cap l w hn (by omega) hB)
  have HF := hid (fun w1 (h : RowKit.Below w.heap.size w w1) => fromLeft_any a n cap l w1 hn (by omega) ha (hB.below h))
  have HN := hid hn
  clear hn hB ha
  obtain ⟨i70, hi70, hz70, hs70, hb70⟩ := info_parts info70
  obtain ⟨i79, hi79, hz79, hs79, hb79⟩ := info_parts info79
  go_enter Try.func51, Try.ntmps51
  cases hq : goodB l
  · rw [hq] at HG
    have HP : Hid (pairsG l = []) := by simp [Hid, pairsG, hq]
    go_wp2_with (go_at_call 48; refine HG.out.mono ?_; rintro e w1 ⟨rfl, h1⟩; have H1 := hid h1; clear h1)
    go_ret
    exact ⟨⟨_, rfl, by rw [HP.out]; exact ⟨rfl, Or.inl ⟨rfl, rfl⟩⟩⟩, H1.out⟩
  · rw [hq] at HG
    have HP : Hid (pairsG l = sortP (pairsOf l)) := by simp [Hid, pairsG, hq]
    go_wp2_with (go_at_call 48; refine HG.out.mono ?_; rintro e w1 ⟨rfl, h1⟩; have H1 := hid h1; clear h1)
    refine (HF.out _ H1.out).mono ?_
    rintro e wf ⟨⟨vl, rfl, l', hperm, hleft, hrow⟩, h2⟩
    obtain ⟨al, cl, rfl, hal⟩ := owns_slice hrow
    have HR := hid hrow
    have H2 := hid h2
    have HPE := hid hperm
    have HLE := hid hleft
    have HNL : Hid (n = l'.length) := hid (by rw [HN.out]; exact hperm.length_eq.symm)
    have HAL := hid hal
    have hzf : w.heap.size ≤ wf.heap.size := Nat.le_trans H1.out.size h2.size
    clear hrow h2 hperm hleft hal
    go_wp2_with fail
    go_loopw [3, 4, 15] (fun m o i wr => ∃ (k : Nat) (Op : List B5), k ≤ n ∧ i = .int .i64 k ∧ Hid (wr.ownsRow wf.heap.size 79 2 m (pairsOf (l'.take k)).length ((pairsOf (l'.take k)).flatMap pairCells)) ∧ Hid (wr.ownsRow wf.heap.size 70 5 o Op.length (Op.flatMap boxCells)) ∧ Op.length ≤ k ∧ Hid (OpenIs (l'.take k) Op) ∧ Hid (RowKit.Below wf.heap.size wf wr)) (fun _ _ i _ => n - (intOf i).toNat)
    case atStart => exact ⟨0, [], Nat.zero_le _, rfl, hid (World.ownsRow_nil _ _ _ _), hid (World.ownsRow_nil _ _ _ _), Nat.zero_le _, hid openIs_nil, hid (Below.refl _ _)⟩
    case round =>
      obtain ⟨k, Op, hk, rfl, hmet, hopen, hol, hois, hbl⟩ := hrel
      have hzr := hbl.out.size
      by_cases hlt : k < n
      · obtain ⟨x, hx⟩ : ∃ x, l'[k]? = some x := ⟨_, List.getElem?_eq_getElem (by have := HNL.out; omega)⟩
        obtain ⟨gl, rfl⟩ := HAL.out (by omega)
        obtain ⟨c0, c1, c2, c3, c4⟩ := box_at (owns_below HR.out hbl.out) hx
        have HX := hid hx
        clear hx
        obtain ⟨xi, xx1, xy1, xx2, xy2⟩ := x
        simp only at c0 c1 c2 c3 c4
        have HBX := hid (owns_box wr ⟨xi, xx1, xy1, xx2, xy2⟩ wf.heap.size hzr)
        have HD := hid (deleteB_call wf.heap.size Op.length wr.heap.size u4 Op xx1 (wr.alloc (.cells #[.int .i64 xi, .int .i64 xx1, .int .i64 xy1, .int .i64 xx2, .int .i64 xy2] 70)) rfl (by omega) (hopen.out.alloc _) (by simp) (fun e => by have := (hopen.out.lt _ e).2; omega) (box_one HBX.out).2.1)
        obtain ⟨S, hS⟩ : ∃ S, strikeX Op xx1 = S := ⟨_, rfl⟩
        have HSW : Hid (sw S ⟨xi, xx1, xy1, xx2, xy2⟩ = sw (l'.take k) ⟨xi, xx1, xy1, xx2, xy2⟩) := hid (by rw [← hS]; exact strike_sw hois.out (left_take HLE.out HX.out))
        have HOI : Hid (OpenIs (l'.take (k + 1)) (S ++ [⟨xi, xx1, xy1, xx2, xy2⟩])) := hid (by rw [← hS, take_snoc HX.out]; exact openIs_step hois.out)
        have hSl : S.length ≤ k := by rw [← hS]; exact Nat.le_trans (List.length_filter_le _ _) hol
        rw [hS] at HD
        clear hS hois
        go_wp2_with fail
        refine HD.out.mono ?_
        rintro e w2 ⟨⟨ao, co, rfl, ho2⟩, hg2⟩
        have HO2 := hid ho2
        have HAO := hid (owns_addr ho2)
        have HBX2 := hid (owns_kept HBX.out hg2 (fun g hg e => by simp [Value.ownBlock] at hg; have := (hopen.out.lt _ e).2; omega))
        have HM2 := hid (owns_kept (hmet.out.alloc (.cells #[.int .i64 xi, .int .i64 xx1, .int .i64 xy1, .int .i64 xx2, .int .i64 xy2] 70)) hg2 (apart_kind hmet.out hopen.out (by decide)))
        have HBL2 := hid ((bal hbl.out (.cells #[.int .i64 xi, .int .i64 xx1, .int .i64 xy1, .int .i64 xx2, .int .i64 xy2] 70)).grown hg2 (by simp; omega) (fun q hq => (hopen.out.lt q hq).1))
        have hz2 : wr.heap.size < w2.heap.size := by have := hg2.size; simp at this; omega
        clear ho2 hg2 c0 c1 c2 c3 c4 hmet hopen hbl HBX HD
        generalize hbb : wr.heap.size = bb at HBX2 hz2 hzr ⊢
        clear hbb
        go_wp2_with fail
        go_loopw [3, 24] (fun m q wr2 => ∃ q0 : Nat, q0 ≤ S.length ∧ q = .int .i64 q0 ∧ Hid (wr2.ownsRow wf.heap.size 79 2 m (metQ (l'.take k) S ⟨xi, xx1, xy1, xx2, xy2⟩ q0).length ((metQ (l'.take k) S ⟨xi, xx1, xy1, xx2, xy2⟩ q0).flatMap pairCells)) ∧ Hid (wr2.ownsRow wf.heap.size 70 5 (.slice ao S.length co) S.length (S.flatMap boxCells)) ∧ Hid (wr2.ownsRow wf.heap.size 70 5 (.slice (some ⟨bb, 0, none⟩) 1 1) 1 (boxCells ⟨xi, xx1, xy1, xx2, xy2⟩)) ∧ Hid (RowKit.Below wf.heap.size wf wr2) ∧ bb < wr2.heap.size) (fun _ q _ => S.length - (intOf q).toNat)
        case atStart => exact ⟨0, Nat.zero_le _, rfl, by rw [metQ_zero]; exact HM2, HO2, HBX2, HBL2, hz2⟩
        case round =>
          obtain ⟨q, hq', rfl, hm, hop, hbx, hb2, hsz⟩ := hrel
          by_cases hql : q < S.length
          · obtain ⟨y, hy⟩ : ∃ y, S[q]? = some y := ⟨_, List.getElem?_eq_getElem hql⟩
            obtain ⟨go, rfl⟩ := HAO.out (by omega)
            obtain ⟨d0, d1, d2, d3, d4⟩ := box_at hop.out hy
            obtain ⟨b0, b1, b2, b3, b4⟩ := box_one hbx.out
            have HY := hid hy
            clear hy
            obtain ⟨yi, yx1, yy1, yx2, yy2⟩ := y
            simp only at d0 d1 d2 d3 d4 b0 b1 b2 b3 b4
            have HMT := hid (meet_any yi yx1 yy1 yx2 yy2 xi xx1 xy1 xx2 xy2 (wr.alloc (.cells #[.int .i64 yi, .int .i64 yx1, .int .i64 yy1, .int .i64 yx2, .int .i64 yy2] 70)))
            cases hmt : meetB ⟨yi, yx1, yy1, yx2, yy2⟩ ⟨xi, xx1, xy1, xx2, xy2⟩
            · rw [hmt] at HMT
              have HQ := hid (metQ_not (D := l'.take k) HY.out hmt)
              clear hmt
              go_wp2_with (go_at_call 46; refine HMT.out.mono ?_; rintro e w3 ⟨rfl, h3⟩; have H3 := hid h3; clear h3)
              go_roundw
              case rel =>
                refine ⟨q + 1, by omega, by go_num, ?_, hid (owns_below (hop.out.alloc _) H3.out), hid (owns_below (hbx.out.alloc _) H3.out), hid (bcall (bal hb2.out _) H3.out), by have := H3.out.size; simp at this; omega⟩
                rw [HQ.out]
                exact hid (owns_below (hm.out.alloc _) H3.out)
              case measure => simp [intOf]; omega
            · rw [hmt] at HMT
              have HQ := hid (metQ_met (D := l'.take k) HY.out hmt)
              clear hmt
              have hml := metQ_len (l'.take k) S ⟨xi, xx1, xy1, xx2, xy2⟩ q k (by rw [List.length_take]; omega) hSl (by omega)
              go_wp2_with (go_at_call 46; refine HMT.out.mono ?_; rintro e w3 ⟨rfl, h3⟩; have H3 := hid h3; obtain ⟨v0, v1, v2, v3, v4⟩ := vbox h3; have HB3 := hid (owns_below (hbx.out.alloc _) h3); obtain ⟨e0, e1, e2, e3, e4⟩ := box_one HB3.out; clear h3 v1 v2 v3 v4 e1 e2 e3 e4 d0 d1 d2 d3 d4 b0 b1 b2 b3 b4)
              refine (pairI_any _ _ _).mono ?_
              rintro e w4 ⟨rfl, h4⟩
              have H4 := hid h4
              have HM4 := hid (owns_below (owns_below (hm.out.alloc (.cells #[.int .i64 yi, .int .i64 yx1, .int .i64 yy1, .int .i64 yx2, .int .i64 yy2] 70)) H3.out) h4)
              have HO4 := hid (owns_below (owns_below (hop.out.alloc (.cells #[.int .i64 yi, .int .i64 yx1, .int .i64 yy1, .int .i64 yx2, .int .i64 yy2] 70)) H3.out) h4)
              have HB4 := hid (owns_below HB3.out h4)
              have HL4 := hid (bcall (bcall (bal hb2.out (.cells #[.int .i64 yi, .int .i64 yx1, .int .i64 yy1, .int .i64 yx2, .int .i64 yy2] 70)) H3.out) h4)
              have hz4 : wr.heap.size < w4.heap.size := by have := H3.out.size; have := h4.size; simp at *; omega
              clear h4 e0 v0
              go_wp2_with (at_builtin; refine wpList_append_own _ rfl _ _ 74 rfl wf.heap.size 79 i79 (.agg #[.int .i64 0, .int .i64 0]) 2 16 Try.underlying74 hi79 hz79 hs79 hb79 rfl (by decide) _ _ _ rfl (HM4.out.alloc _) ⟨w4.heap.size, 0, none⟩ 1 1 [.int .i64 (prI yi xi).1, .int .i64 (prI yi xi).2] rfl ?c1 ?c2 ?c3 ?c4 ?c5 ?c6 ?_)
              case c1 => rfl
              case c2 =>
                intro j u hj
                match j, hj with
                | 0, hj => cases hj; simp [Addr.add]
                | 1, hj => cases hj; simp [Addr.add]
              case c3 => intro u hu; simp at hu; rcases hu with rfl | rfl <;> rfl
              case c4 => unfold maxLen; omega
              case c5 => omega
              case c6 => simp; have := HL4.out.size; omega
              intro v' w5 hown5 hg5 _
              have HO5 := hid hown5
              have HG5 := hid hg5
              clear hown5 hg5
              go_wp2_with fail
              go_roundw
              case rel =>
                refine ⟨q + 1, by omega, by go_num, ?_, hid (owns_kept (HO4.out.alloc _) HG5.out (apart_kind HO4.out HM4.out (by decide))), hid (owns_kept (HB4.out.alloc _) HG5.out (apart_kind HB4.out HM4.out (by decide))), hid ((bal HL4.out _).grown HG5.out (by simp; have := HL4.out.size; omega) (fun q hq => (HM4.out.lt q hq).1)), by have := HG5.out.size; simp at this; omega⟩
                have h5 := HO5.out
                rw [HQ.out, List.length_append, List.flatMap_append]
                exact hid h5
              case measure => simp [intOf]; omega
          · have hqe : q = S.length := by omega
            obtain ⟨b0, b1, b2, b3, b4⟩ := box_one hbx.out
            simp only at b0 b1 b2 b3 b4
            go_wp2_with (at_builtin; refine wpList_append_own _ rfl _ _ 68 rfl wf.heap.size 70 i70 (.agg #[.int .i64 0, .int .i64 0, .int .i64 0, .int .i64 0, .int .i64 0]) 5 40 Try.underlying68 hi70 hz70 hs70 hb70 rfl (by decide) _ _ _ rfl (hop.out.alloc _) ⟨wr.heap.size, 0, none⟩ 1 1 [.int .i64 xi, .int .i64 xx1, .int .i64 xy1, .int .i64 xx2, .int .i64 xy2] rfl ?c1 ?c2 ?c3 ?c4 ?c5 ?c6 ?_)
            case c1 => rfl
            case c2 =>
              intro j u hj
              match j, hj with
              | 0, hj => cases hj; simp [Addr.add]
              | 1, hj => cases hj; simp [Addr.add]
              | 2, hj => cases hj; simp [Addr.add]
              | 3, hj => cases hj; simp [Addr.add]
              | 4, hj => cases hj; simp [Addr.add]
            case c3 => intro u hu; simp at hu; rcases hu with rfl | rfl | rfl | rfl | rfl <;> rfl
            case c4 => unfold maxLen; omega
            case c5 => omega
            case c6 => simp; have := hb2.out.size; omega
            intro v' w5 hown5 hg5 _
            have HO5 := hid hown5
            have HG5 := hid hg5
            clear hown5 hg5
            go_wp2_with fail
            refine ⟨⟨k + 1, S ++ [⟨xi, xx1, xy1, xx2, xy2⟩], by omega, by go_num, ?_, ?_, by simp; omega, HOI, hid ((bal hb2.out _).grown HG5.out (by simp; have := hb2.out.size; omega) (fun q hq => (hop.out.lt q hq).1))⟩, by simp [intOf]; omega⟩
            · have h := owns_kept (hm.out.alloc _) HG5.out (apart_kind hm.out hop.out (by decide))
              rw [hqe, metQ_end HSW.out, ← take_snoc HX.out] at h
              exact hid h
            · have h5 := HO5.out
              rw [List.length_append, List.flatMap_append]
              exact hid h5
      · have hkn : k = n := by omega
        have HT : Hid (l'.take k = l') := hid (by rw [hkn, HNL.out]; exact List.take_length)
        have HS := hid (sortP_call wf.heap.size _ u3 (pairsOf (l'.take k)) wr rfl (by
          have h1 := pairsOf_len (l'.take k)
          have h2 : (l'.take k).length ≤ 1000000 := by rw [List.length_take]; omega
          have h3 : (l'.take k).length * (l'.take k).length ≤ 1000000 * 1000000 := Nat.mul_le_mul h2 h2
          omega) hmet.out)
        go_wp2_with fail
        refine HS.out.mono ?_
        rintro e w2 ⟨rfl, h2, h3⟩
        have H3 := hid h2
        have H4 := hid h3
        clear h2 h3
        go_wp2_with fail
        go_ret
        refine ⟨⟨_, rfl, ?_⟩, ?_⟩
        · rw [HP.out, sortP_len, sortP_eq (pairsOf_perm HPE.out.symm), (pairsOf_perm HPE.out.symm).length_eq]
          have h := H3.out
          rw [HT.out] at h
          exact owns_mono h hzf
        · exact (bcall (bcall H1.out H2.out) hbl.out).grown H4.out (by omega) (fun q hq => by have := (hmet.out.lt q hq).1; omega)
end Go.Proofs.Ytckkkdldljhehaa.Sw
