/- What SweepOrder of package ninepinskeep answers when called over boxes in memory: true; nothing that was in memory before has changed. There are at most a million boxes. -/
import Derived.Test.YtckkkdldljhehaaSwN
namespace Go.Proofs.Ytckkkdldljhehaa.Sw
open Go.ChangeShapes Go.WideShapes Go.ChangeAt Go.RowKit Go.Sort Go.Shelf Go.Lib

set_option maxHeartbeats 8000000 in
set_option maxRecDepth 100000 in
theorem sweepOrder_any (a : Option Addr) (n cap : Nat) (kk : Int) (l : List B5) (w : World) (hn : n = l.length) (hz : n ≤ 1000000) (ha : a = none → n = 0) (hB : BoxL w a l) :
    Calls Try.prog 12 #[.slice a n cap, .int .i64 kk] w fun e w' => e = .returned (.bool true) ∧ RowKit.Below w.heap.size w w' := by
  have HF := hid (fun w1 (h : RowKit.Below w.heap.size w w1) => pairs_any a n cap l w1 hn hz ha (hB.below h))
  have HB := hid hB
  have HN := hid hn
  have e79 := neq79
  obtain ⟨i70, hi70, hz70, hs70, hb70⟩ := info_parts info70
  clear hn hB ha
  by_cases h2 : n < 2
  · go_enter Try.func12, Try.ntmps12
    go_wp2_with (go_at_call 56; refine (sweeps_any _).mono ?_; rintro e w2 ⟨rfl, h2⟩; have H2 := hid h2; clear h2)
    go_ret
    exact ⟨rfl, H2.out⟩
  · obtain ⟨b, off, rfl, hb, hc⟩ := HB.out (by have := HN.out; omega)
    have HC := hid hc
    have HFL := hid (BoxL.flat HB.out)
    clear hc
    have hm1 : (n : Int) - 1 ≤ 1000000000 := by omega
    have hm0 : (0 : Int) < (n : Int) - 1 := by omega
    go_enter Try.func12, Try.ntmps12
    go_wp2_with (first | (go_at_call 45; refine (pick_any _ _ _ hm0 hm1).mono ?_; rintro e w' ⟨⟨k, rfl, hk⟩, rfl⟩) | (at_builtin; refine wpList_append_own _ rfl _ _ 68 rfl w'.heap.size 70 i70 (.agg #[.int .i64 0, .int .i64 0, .int .i64 0, .int .i64 0, .int .i64 0]) 5 40 Try.underlying68 hi70 hz70 hs70 hb70 rfl (by decide) _ _ _ rfl (World.ownsRow_nil _ _ _ _) ⟨b, off, none⟩ n cap (l.flatMap boxCells) rfl ?c1 ?c2 ?c3 ?c4 ?c5 ?c6 ?_))
    case c1 => rw [flat_len boxCells 5 (fun _ => rfl), HN.out]
    case c2 => exact HFL.out _ rfl
    case c3 => exact one_box l
    case c4 => unfold maxLen; omega
    case c5 => omega
    case c6 => simp
    intro v' w1 hown1 hg1 _
    obtain ⟨am, cm, rfl, ham⟩ := owns_slice hown1
    obtain ⟨g, rfl⟩ := ham (by omega)
    have HO1 := hid hown1
    have HL1 : Hid (RowKit.Below w'.heap.size w' w1) := hid ((Below.refl _ w').grown hg1 (by simp) (fun q hq => by cases hq))
    clear hown1 hg1 ham
    obtain ⟨x, hx⟩ : ∃ x, l[k]? = some x := ⟨_, List.getElem?_eq_getElem (by have := HN.out; omega)⟩
    obtain ⟨y, hy⟩ : ∃ y, l[k + 1]? = some y := ⟨_, List.getElem?_eq_getElem (by have := HN.out; omega)⟩
    obtain ⟨c0, c1, c2, c3, c4⟩ := HC.out k x hx
    obtain ⟨d0, d1, d2, d3, d4⟩ := HC.out (k + 1) y hy
    have kc := fun o => HL1.out.cell (p := ⟨b, o, none⟩) hb
    rw [← kc] at c0 c1 c2 c3 c4 d0 d1 d2 d3 d4
    clear kc
    obtain ⟨m0, m1, m2, m3, m4⟩ := box_at HO1.out hx
    obtain ⟨n0, n1, n2, n3, n4⟩ := box_at HO1.out hy
    have f0 := HO1.out.frozenAt (k * 5)
    have f1 := HO1.out.frozenAt (k * 5 + 1)
    have f2 := HO1.out.frozenAt (k * 5 + 2)
    have f3 := HO1.out.frozenAt (k * 5 + 3)
    have f4 := HO1.out.frozenAt (k * 5 + 4)
    have g0 := HO1.out.frozenAt ((k + 1) * 5)
    have g1 := HO1.out.frozenAt ((k + 1) * 5 + 1)
    have g2 := HO1.out.frozenAt ((k + 1) * 5 + 2)
    have g3 := HO1.out.frozenAt ((k + 1) * 5 + 3)
    have g4 := HO1.out.frozenAt ((k + 1) * 5 + 4)
    have hgB := HO1.out.lt g rfl
    have hbg : b ≠ g := by omega
    have hgb : g ≠ b := by omega
    have HX := hid hx
    have HY := hid hy
    clear hx hy
    have hkn : (k : Int) < (n : Int) := by omega
    have hkn1 : (k : Int) + 1 < (n : Int) := by omega
    have htn : ((k : Int) + 1).toNat = k + 1 := by omega
    obtain ⟨xi, xx1, xy1, xx2, xy2⟩ := x
    obtain ⟨yi, yx1, yy1, yx2, yy2⟩ := y
    simp only at c0 c1 c2 c3 c4 d0 d1 d2 d3 d4 m0 m1 m2 m3 m4 n0 n1 n2 n3 n4
    go_wp2_with fail
    go_region
    change Exit.then _ _ Exit.normal _ (setB5 (setB5 w1 g k ⟨yi, yx1, yy1, yx2, yy2⟩) g (k + 1) ⟨xi, xx1, xy1, xx2, xy2⟩).drew
    have HO2 := hid (box_write ⟨xi, xx1, xy1, xx2, xy2⟩ (by rw [List.length_set]; have := HN.out; omega) (box_write (i := k) ⟨yi, yx1, yy1, yx2, yy2⟩ (by have := HN.out; omega) HO1.out) : (setB5 (setB5 w1 g k ⟨yi, yx1, yy1, yx2, yy2⟩) g (k + 1) ⟨xi, xx1, xy1, xx2, xy2⟩).ownsRow w'.heap.size 70 5 (.slice (some ⟨g, 0, none⟩) n cm) n _)
    have HPM := hid (swap_perm HX.out HY.out)
    have HL2 := hid (HL1.out.grown (grown_trans (grown_setB5 w1 g k ⟨yi, yx1, yy1, yx2, yy2⟩) (grown_setB5 _ g (k + 1) ⟨xi, xx1, xy1, xx2, xy2⟩)) (HL1.out.size) (fun q hq => by cases hq; exact hgB.1))
    generalize setB5 (setB5 w1 g k ⟨yi, yx1, yy1, yx2, yy2⟩) g (k + 1) ⟨xi, xx1, xy1, xx2, xy2⟩ = W2 at HO2 HL2 ⊢
    clear c0 c1 c2 c3 c4 d0 d1 d2 d3 d4 m0 m1 m2 m3 m4 n0 n1 n2 n3 n4 f0 f1 f2 f3 f4 g0 g1 g2 g3 g4 HO1 HL1
    generalize (l.set k ⟨yi, yx1, yy1, yx2, yy2⟩).set (k + 1) ⟨xi, xx1, xy1, xx2, xy2⟩ = l2 at HO2 HPM
    have HN2 : Hid (n = l2.length) := hid (by rw [HN.out]; exact HPM.out.length_eq.symm)
    go_wp2_with fail
    refine (HF.out _ (HL2.out.drew)).mono ?_
    rintro e w3 ⟨⟨va, rfl, hra⟩, h3⟩
    have HRA := hid hra
    have H3 := hid h3
    clear hra h3
    go_wp2_with fail
    have HO3 := hid (owns_below (show (W2.drew).ownsRow w'.heap.size 70 5 (.slice (some ⟨g, 0, none⟩) n cm) n (l2.flatMap boxCells) from HO2.out) H3.out)
    refine (pairs_any (some ⟨g, 0, none⟩) n cm l2 w3 HN2.out hz (fun h => by cases h) (boxL_own HO3.out)).mono ?_
    rintro e w4 ⟨⟨vb, rfl, hrb⟩, h4⟩
    rw [pairsG_perm HPM.out] at hrb
    obtain ⟨aa, ca, rfl, haa⟩ := owns_slice HRA.out
    obtain ⟨ab, cb, rfl, hab⟩ := owns_slice hrb
    have HRB := hid hrb
    have HRA4 := hid (owns_below HRA.out h4)
    have HAA := hid haa
    have HAB := hid hab
    have H4 := hid (bcall (bcall HL2.out.drew H3.out) h4)
    have hPl : (pairsG l).length ≤ 1000000000000 := by
      unfold pairsG
      cases goodB l
      · simp
      · simp only [if_true]
        rw [sortP_len]
        have h1 := pairsOf_len l
        have h2 : l.length * l.length ≤ 1000000 * 1000000 := Nat.mul_le_mul (by have := HN.out; omega) (by have := HN.out; omega)
        omega
    clear hrb h4 haa hab HRA
    go_wp2_with fail
    go_loopw [47] (fun i wr => ∃ j : Nat, j ≤ (pairsG l).length ∧ i = .int .i64 j ∧ Hid (RowKit.Below w4.heap.size w4 wr)) (fun i _ => (pairsG l).length - (intOf i).toNat)
    case atStart => exact ⟨0, Nat.zero_le _, rfl, hid (Below.refl _ _)⟩
    case round =>
      obtain ⟨j, hj, rfl, hb4⟩ := hrel
      by_cases hjl : j < (pairsG l).length
      · obtain ⟨p, hp⟩ : ∃ p, (pairsG l)[j]? = some p := ⟨_, List.getElem?_eq_getElem hjl⟩
        obtain ⟨ga, rfl⟩ := HAA.out (by omega)
        obtain ⟨gb, rfl⟩ := HAB.out (by omega)
        obtain ⟨p0, p1⟩ := pair_at (owns_below HRA4.out hb4.out) hp
        obtain ⟨q0, q1⟩ := pair_at (owns_below HRB.out hb4.out) hp
        clear hp
        obtain ⟨pa, pb⟩ := p
        simp only at p0 p1 q0 q1
        have hjI : (j : Int) < ((pairsG l).length : Int) := by omega
        go_wp2_with fail
        go_region
        all_goals
          go_wp2_with fail
          exact ⟨⟨j + 1, by omega, by go_num, hid hb4.out.drew⟩, by simp [intOf]; omega⟩
      · go_wp2_with (go_at_call 56; refine (sweeps_any _).mono ?_; rintro e w5 ⟨rfl, h5⟩; have H5 := hid h5; clear h5)
        go_ret
        exact ⟨rfl, bcall (bcall H4.out hb4.out) H5.out⟩
end Go.Proofs.Ytckkkdldljhehaa.Sw
