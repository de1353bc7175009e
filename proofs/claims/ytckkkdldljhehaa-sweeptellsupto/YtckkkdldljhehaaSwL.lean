/- What SweepAll of package ninepinskeep answers when called over boxes in memory: true; nothing that was in memory before has changed. The boxes' bytes are within the form's reach. -/
import Derived.Test.YtckkkdldljhehaaSwK
namespace Go.Proofs.Ytckkkdldljhehaa.Sw
open Go.ChangeShapes Go.WideShapes Go.ChangeAt Go.RowKit Go.Sort Go.Shelf Go.Lib

/-- Is a pair among some? -/
def memP (t : Int × Int) (P : List (Int × Int)) : Bool := P.any (fun p => p.1 == t.1 && p.2 == t.2)
theorem memP_nil (t : Int × Int) : memP t [] = false := rfl
theorem memP_snoc {t p : Int × Int} {P : List (Int × Int)} {j : Nat} (hp : P[j]? = some p) : memP t (P.take (j + 1)) = (memP t (P.take j) || (p.1 == t.1 && p.2 == t.2)) := by
  have hlt : j < P.length := (List.getElem?_eq_some_iff.1 hp).1
  rw [List.take_succ_eq_append_getElem hlt, (List.getElem?_eq_some_iff.1 hp).2]
  simp [memP]
theorem memP_of {t : Int × Int} {P : List (Int × Int)} (h : t ∈ P) : memP t P = true := by
  unfold memP
  exact List.any_eq_true.2 ⟨t, h, by simp⟩
theorem prI_comm (a b : Int) : prI a b = prI b a := by
  unfold prI
  by_cases h : a ≤ b
  · by_cases h2 : b ≤ a
    · have : a = b := by omega
      simp [this]
    · simp [h, h2]
  · have h2 : b ≤ a := by omega
    simp [h, h2]
theorem mem_sw {D : List B5} {q : Nat} {y b : B5} (hy : D[q]? = some y) (h : meetB y b = true) : prI y.id b.id ∈ sw D b := by
  unfold sw
  exact List.mem_map.2 ⟨y, List.mem_filter.2 ⟨List.mem_of_getElem? hy, h⟩, rfl⟩
theorem pairsFrom_mem {p : Int × Int} : ∀ (l : List B5) (k : Nat) (x : B5), l[k]? = some x → p ∈ sw (l.take k) x → p ∈ pairsOf l := by
  intro l k x hx hp
  have h1 : p ∈ pairsOf (l.take (k + 1)) := by
    rw [take_snoc hx, pairsOf_snoc]
    exact List.mem_append.2 (Or.inr hp)
  have : ∀ m, p ∈ pairsOf (l.take (k + 1 + m)) := by
    intro m
    induction m with
    | zero => exact h1
    | succ m ih =>
      by_cases hlt : k + 1 + m < l.length
      · have hz : l[k + 1 + m]? = some l[k + 1 + m] := List.getElem?_eq_getElem hlt
        rw [show k + 1 + (m + 1) = k + 1 + m + 1 by omega, take_snoc hz, pairsOf_snoc]
        exact List.mem_append.2 (Or.inl ih)
      · rw [List.take_of_length_le (by omega)] at ih ⊢
        exact ih
  have h2 := this l.length
  rwa [List.take_of_length_le (by omega)] at h2
/-- Who overlaps is told. -/
theorem told {l : List B5} {k q : Nat} {x y : B5} (hx : l[k]? = some x) (hq : q < k) (hy : l[q]? = some y) (hm : meetB x y = true) (hg : goodB l = true) : memP (prI x.id y.id) (pairsG l) = true := by
  apply memP_of
  unfold pairsG
  rw [hg, prI_comm]
  simp only [if_true]
  refine (sortP_perm (pairsOf l)).mem_iff.2 (pairsFrom_mem l k x hx (mem_sw (q := q) ?_ (by rw [meetB_comm]; exact hm)))
  rw [List.getElem?_take_of_lt hq]
  exact hy

theorem prI_min (a b : Int) : prI a b = (min a b, max a b) := by
  unfold prI
  rw [Int.min_def, Int.max_def]
theorem metQ_le (D S : List B5) (x : B5) (q : Nat) (hD : D.length ≤ 60) (hS : S.length ≤ 60) : (metQ D S x q).length ≤ 5000 := by
  unfold metQ
  have h1 := pairsOf_len D
  have h2 := sw_len (S.take q) x
  have h3 : D.length * D.length ≤ 60 * 60 := Nat.mul_le_mul hD hD
  have h4 : (S.take q).length ≤ S.length := by simp [List.length_take]; omega
  rw [List.length_append]
  omega

set_option maxHeartbeats 8000000 in
set_option maxRecDepth 100000 in
theorem sweepAll_any (a : Option Addr) (n cap : Nat) (l : List B5) (w : World) (hn : n = l.length) (hz : n * 40 ≤ 140737488355328) (hcap : n ≤ cap) (ha : a = none → n = 0) (hB : BoxL w a l) :
    Calls Try.prog 11 #[.slice a n cap] w fun e w' => e = .returned (.bool true) ∧ RowKit.Below w.heap.size w w' := by
  have HG := hid (good_any a n cap l w hn (by omega) hB)
  have HF := hid (fun w1 (h : RowKit.Below w.heap.size w w1) (hs : n ≤ 60) => pairs_any a n cap l w1 hn (by omega) ha (hB.below h))
  have HB := hid hB
  have HN := hid hn
  have e79 := eq79
  clear hn hB ha
  go_enter Try.func11, Try.ntmps11
  cases hq : goodB l
  · rw [hq] at HG
    go_wp2_with (first | (go_at_call 48; refine HG.out.mono ?_; rintro e w1 ⟨rfl, h1⟩; have H1 := hid h1; clear h1) | (go_at_call 56; refine (sweeps_any _).mono ?_; rintro e w2 ⟨rfl, h2⟩; have H2 := hid h2; clear h2))
    go_ret
    exact ⟨rfl, bcall H1.out H2.out⟩
  · rw [hq] at HG
    by_cases h60 : (n : Int) ≤ 60
    · have HQ := hid hq
      clear hq
      go_wp2_with (go_at_call 48; refine HG.out.mono ?_; rintro e w1 ⟨rfl, h1⟩; have H1 := hid h1; clear h1)
      refine (HF.out _ H1.out (by omega)).mono ?_
      rintro e w2 ⟨⟨v, rfl, hrow⟩, h2⟩
      obtain ⟨ap, cp, rfl, hap⟩ := owns_slice hrow
      have HR := hid hrow
      have HAP := hid hap
      have H2 := hid (bcall H1.out h2)
      clear hrow hap h2
      have hPl : (pairsG l).length ≤ 5000 := by
        unfold pairsG
        rw [HQ.out]
        simp only [if_true]
        rw [sortP_len]
        have h1 := pairsOf_len l
        have h2 : l.length * l.length ≤ 60 * 60 := Nat.mul_le_mul (by have := HN.out; omega) (by have := HN.out; omega)
        omega
      go_wp2_with fail
      go_loopw [3, 25] (fun cnt i wr => ∃ k c : Nat, k ≤ n ∧ i = .int .i64 k ∧ cnt = .int .i64 c ∧ c ≤ 5000 ∧ Hid (c = (pairsOf (l.take k)).length) ∧ Hid (RowKit.Below w2.heap.size w2 wr)) (fun _ i _ => n - (intOf i).toNat)
      case atStart => exact ⟨0, 0, Nat.zero_le _, rfl, rfl, Nat.zero_le _, hid rfl, hid (Below.refl _ _)⟩
      case round =>
        obtain ⟨k, c, hk, rfl, rfl, hc5, hcn, hbl⟩ := hrel
        by_cases hlt : k < n
        · obtain ⟨x, hx⟩ : ∃ x, l[k]? = some x := ⟨_, List.getElem?_eq_getElem (by have := HN.out; omega)⟩
          obtain ⟨b, off, rfl, hb, hc⟩ := HB.out (by have := HN.out; omega)
          obtain ⟨c0, c1, c2, c3, c4⟩ := hc k x hx
          have kk := fun o => (bcall H2.out hbl.out).cell (p := ⟨b, o, none⟩) hb
          rw [← kk] at c0 c1 c2 c3 c4
          have HC := hid hc
          clear kk hc
          have HX := hid hx
          clear hx
          obtain ⟨xi, xx1, xy1, xx2, xy2⟩ := x
          simp only at c0 c1 c2 c3 c4
          have hkc : k ≤ cap := by omega
          have hbz : b < wr.heap.size := by have := (bcall H2.out hbl.out).size; omega
          have HBX := hid (owns_box wr ⟨xi, xx1, xy1, xx2, xy2⟩ w2.heap.size hbl.out.size)
          have HBL := hid (bal hbl.out (.cells #[.int .i64 xi, .int .i64 xx1, .int .i64 xy1, .int .i64 xx2, .int .i64 xy2] 70))
          go_wp2_with fail
          generalize hbb : wr.heap.size = bb at HBX ⊢
          have hbw : bb < (wr.alloc (.cells #[.int .i64 xi, .int .i64 xx1, .int .i64 xy1, .int .i64 xx2, .int .i64 xy2] 70)).heap.size := by simp [hbb]
          clear hbb c0 c1 c2 c3 c4 hbz
          go_loopw [3, 34] (fun cnt i wr => ∃ q c : Nat, q ≤ k ∧ i = .int .i64 q ∧ cnt = .int .i64 c ∧ c ≤ 5000 ∧ Hid (c = (metQ (l.take k) (l.take k) ⟨xi, xx1, xy1, xx2, xy2⟩ q).length) ∧ Hid (RowKit.Below w2.heap.size w2 wr) ∧ Hid (wr.ownsRow w2.heap.size 70 5 (.slice (some ⟨bb, 0, none⟩) 1 1) 1 (boxCells ⟨xi, xx1, xy1, xx2, xy2⟩)) ∧ bb < wr.heap.size) (fun _ i _ => k - (intOf i).toNat)
          case atStart => exact ⟨0, c, Nat.zero_le _, rfl, rfl, hc5, by rw [metQ_zero]; exact hcn, HBL, HBX, hbw⟩
          case round =>
            clear hcn hc5 hbl HBX HBL hbw
            obtain ⟨q, c, hq', rfl, rfl, hc5, hcn, hbl, hbx, hbw⟩ := hrel
            by_cases hql : q < k
            · obtain ⟨y, hy⟩ : ∃ y, l[q]? = some y := ⟨_, List.getElem?_eq_getElem (by have := HN.out; omega)⟩
              obtain ⟨d0, d1, d2, d3, d4⟩ := HC.out q y hy
              have kk := fun o => (bcall H2.out hbl.out).cell (p := ⟨b, o, none⟩) hb
              rw [← kk] at d0 d1 d2 d3 d4
              clear kk
              obtain ⟨b0, b1, b2, b3, b4⟩ := box_one hbx.out
              have hbz : b < wr.heap.size := by have := (bcall H2.out hbl.out).size; omega
              have HY := hid hy
              clear hy
              obtain ⟨yi, yx1, yy1, yx2, yy2⟩ := y
              simp only at d0 d1 d2 d3 d4 b0 b1 b2 b3 b4
              have HYT : Hid ((l.take k)[q]? = some ⟨yi, yx1, yy1, yx2, yy2⟩) := hid (by rw [List.getElem?_take_of_lt hql]; exact HY.out)
              have HMT := hid (meet_any xi xx1 xy1 xx2 xy2 yi yx1 yy1 yx2 yy2 (wr.alloc (.cells #[.int .i64 yi, .int .i64 yx1, .int .i64 yy1, .int .i64 yx2, .int .i64 yy2] 70)))
              cases hmt : meetB ⟨xi, xx1, xy1, xx2, xy2⟩ ⟨yi, yx1, yy1, yx2, yy2⟩
              · rw [hmt] at HMT
                have HQ2 := hid (metQ_not (D := l.take k) HYT.out (by rw [meetB_comm]; exact hmt))
                clear hmt
                go_wp2_with (go_at_call 46; refine HMT.out.mono ?_; rintro e w3 ⟨rfl, h3⟩; have H3 := hid h3; clear h3)
                exact ⟨⟨q + 1, c, by omega, by go_num, rfl, hc5, by rw [HQ2.out]; exact hcn, hid (bcall (bal hbl.out _) H3.out), hid (owns_below (hbx.out.alloc _) H3.out), by have := H3.out.size; simp at this; omega⟩, by simp [intOf]; omega⟩
              · rw [hmt] at HMT
                have HQ2 := hid (metQ_met (D := l.take k) HYT.out (by rw [meetB_comm]; exact hmt))
                have HT := hid (told HX.out hql HY.out hmt HQ.out)
                clear hmt
                go_wp2_with (go_at_call 46; refine HMT.out.mono ?_; rintro e w3 ⟨rfl, h3⟩; have H3 := hid h3; clear h3)
                have HBL3 := hid (bcall (bal hbl.out (.cells #[.int .i64 yi, .int .i64 yx1, .int .i64 yy1, .int .i64 yx2, .int .i64 yy2] 70)) H3.out)
                have HBX3 := hid (owns_below (hbx.out.alloc (.cells #[.int .i64 yi, .int .i64 yx1, .int .i64 yy1, .int .i64 yx2, .int .i64 yy2] 70)) H3.out)
                have HP3 := hid (owns_below HR.out HBL3.out)
                have hx3 := hid (box_one HBX3.out).1
                have hy3 := hid (vbox H3.out).1
                have hw3 : bb < w3.heap.size ∧ wr.heap.size < w3.heap.size := by have := H3.out.size; simp at this; omega
                have hcc : c + 1 ≤ 5000 := by
                  have h1 := metQ_le (l.take k) (l.take k) ⟨xi, xx1, xy1, xx2, xy2⟩ (q + 1) (by rw [List.length_take]; omega) (by rw [List.length_take]; omega)
                  have h2 := hcn.out
                  rw [HQ2.out, List.length_append, ← h2] at h1
                  exact h1
                generalize hccw : wr.heap.size = cc at hy3 hw3 ⊢
                clear hccw d0 d1 d2 d3 d4 b0 b1 b2 b3 b4 hbz hbx hbl H3 HMT
                go_loopw [9, 46] (fun th i wr => ∃ j : Nat, j ≤ (pairsG l).length ∧ i = .int .i64 j ∧ th = .bool (memP (prI xi yi) ((pairsG l).take j)) ∧ Hid (RowKit.Below w3.heap.size w3 wr)) (fun _ i _ => (pairsG l).length - (intOf i).toNat)
                case atStart => exact ⟨0, Nat.zero_le _, rfl, rfl, hid (Below.refl _ _)⟩
                case round =>
                  obtain ⟨j, hj, rfl, rfl, hb4⟩ := hrel
                  have hz4 := hb4.out.size
                  by_cases hjl : j < (pairsG l).length
                  · obtain ⟨p, hp⟩ : ∃ p, (pairsG l)[j]? = some p := ⟨_, List.getElem?_eq_getElem hjl⟩
                    obtain ⟨gp, rfl⟩ := HAP.out (by omega)
                    obtain ⟨p0, p1⟩ := pair_at (owns_below HP3.out hb4.out) hp
                    have x0 := (hb4.out.cell (p := ⟨bb, 0, none⟩) hw3.1).trans hx3.out
                    have y0 := (hb4.out.cell (p := ⟨cc, 0, none⟩) hw3.2).trans hy3.out
                    have hbb4 : bb < wr.heap.size := by omega
                    have hcc4 : cc < wr.heap.size := by omega
                    obtain ⟨pa, pb⟩ := p
                    simp only at p0 p1
                    have HSN := hid (memP_snoc (t := prI xi yi) hp)
                    clear hp
                    cases hth : memP (prI xi yi) ((pairsG l).take j)
                    · rw [hth, Bool.false_or, prI_min] at HSN
                      go_wp2_with fail
                      exact ⟨⟨j + 1, by omega, by go_num, by rw [prI_min, HSN.out], hid (bal hb4.out _)⟩, by simp [intOf]; omega⟩
                    · rw [hth, Bool.true_or] at HSN
                      go_wp2_with fail
                      exact ⟨⟨j + 1, by omega, by go_num, by rw [HSN.out], hid (bal hb4.out _)⟩, by simp [intOf]; omega⟩
                  · have hje : j = (pairsG l).length := by omega
                    have hth : memP (prI xi yi) ((pairsG l).take j) = true := by rw [hje, List.take_length]; exact HT.out
                    rw [hth]
                    go_wp2_with fail
                    exact ⟨⟨q + 1, c + 1, by omega, by go_num, by go_num, hcc, by rw [HQ2.out, List.length_append, ← hcn.out]; exact hid rfl, hid (bcall HBL3.out hb4.out), hid (owns_below HBX3.out hb4.out), by omega⟩, by simp [intOf]; omega⟩
            · have hqk : q = k := by omega
              go_wp2_with fail
              refine ⟨⟨k + 1, c, by omega, by go_num, rfl, hc5, ?_, hbl⟩, by simp [intOf]; omega⟩
              have hl : (l.take k).length = k := by rw [List.length_take]; have := HN.out; omega
              have h1 := metQ_end (D := l.take k) (S := l.take k) (x := ⟨xi, xx1, xy1, xx2, xy2⟩) rfl
              rw [hl, ← hqk, hqk] at h1
              have h2 := hcn.out
              rw [hqk, h1, ← take_snoc HX.out] at h2
              exact hid h2
        · have hkn : k = n := by omega
          have hce : (c : Int) = ((pairsG l).length : Int) := by
            have h1 := hcn.out
            rw [hkn, HN.out, List.take_length] at h1
            unfold pairsG
            rw [HQ.out]
            simp only [if_true]
            rw [sortP_len, h1]
          go_wp2_with (go_at_call 56; refine (sweeps_any _).mono ?_; rintro e w4 ⟨rfl, h4⟩; have H4 := hid h4; clear h4)
          go_ret
          exact ⟨rfl, bcall (bcall H2.out hbl.out) H4.out⟩
    · go_wp2_with (first | (go_at_call 48; refine HG.out.mono ?_; rintro e w1 ⟨rfl, h1⟩; have H1 := hid h1; clear h1) | (go_at_call 56; refine (sweeps_any _).mono ?_; rintro e w2 ⟨rfl, h2⟩; have H2 := hid h2; clear h2))
      go_ret
      exact ⟨rfl, bcall H1.out H2.out⟩
end Go.Proofs.Ytckkkdldljhehaa.Sw
