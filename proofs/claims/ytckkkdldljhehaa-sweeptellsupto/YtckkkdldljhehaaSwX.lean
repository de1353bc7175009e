/- What SweepTells of package ninepinslaw answers when called over boxes in memory: true; nothing that was in memory before has changed. There are at most a million boxes. -/
import Derived.Test.YtckkkdldljhehaaSwW
import Derived.Test.YtckkkdldljhehaaApC
import Derived.Deep.RegionHeld3
namespace Go.Proofs.Ytckkkdldljhehaa.Sw
open Go.ChangeShapes Go.WideShapes Go.ChangeAt Go.RowKit Go.Sort Go.Shelf Go.Lib

theorem neq70 (a b : B5) (h : a = b) (w : World) : (binOp .neq 70 (.agg #[.int .i64 a.id, .int .i64 a.x1, .int .i64 a.y1, .int .i64 a.x2, .int .i64 a.y2]) (.agg #[.int .i64 b.id, .int .i64 b.x1, .int .i64 b.y1, .int .i64 b.x2, .int .i64 b.y2])).run Try.prog w = .ok (.bool false) w := by
  subst h
  have h1 : Try.prog.underlying 70 = some (.struct (Try.prog.fieldsOf 70)) := by kernel_rfl
  have h2 : Try.prog.stoodInHeld 70 = false := by kernel_rfl
  rw [run_neq_struct, show (10000 : Nat) = 9999 + 1 from rfl, run_equalIn_struct w 9999 70 _ _ h1 h2]
  simp [go_sem, Try.underlying70, Try.underlying3]
attribute [local go_sem ↓] Go.wp_at_zero Go.wp_at_succ
set_option maxHeartbeats 8000000 in
set_option maxRecDepth 100000 in
theorem sweepTells_any (a : Option Addr) (n cap : Nat) (l : List B5) (x y : B5) (w : World) (hn : n = l.length) (hz : n ≤ 1000000) (hcap : n ≤ cap) (ha : a = none → n = 0) (hB : BoxL w a l) :
    Calls Try.prog 10 #[.slice a n cap, .agg #[.int .i64 x.id, .int .i64 x.x1, .int .i64 x.y1, .int .i64 x.x2, .int .i64 x.y2], .agg #[.int .i64 y.id, .int .i64 y.x1, .int .i64 y.y1, .int .i64 y.x2, .int .i64 y.y2]] w fun e w' => e = .returned (.bool true) ∧ RowKit.Below w.heap.size w w' := by
  obtain ⟨i70, hi70, hz70, hs70, hb70⟩ := info_parts info70
  obtain ⟨W0, hW0⟩ : ∃ W0, W0 = (w.alloc (.cells #[.int .i64 x.id, .int .i64 x.x1, .int .i64 x.y1, .int .i64 x.x2, .int .i64 x.y2] 70)).alloc (.cells #[.int .i64 y.id, .int .i64 y.x1, .int .i64 y.y1, .int .i64 y.x2, .int .i64 y.y2] 70) := ⟨_, rfl⟩
  have HBW : Hid (RowKit.Below w.heap.size w W0) := hid (by rw [hW0]; exact bal (bal (Below.refl _ w) _) _)
  have HXB : Hid (W0.ownsRow w.heap.size 70 5 (.slice (some ⟨w.heap.size, 0, none⟩) 1 1) 1 (boxCells x)) := hid (by rw [hW0]; exact owns_below (owns_box w x w.heap.size (Nat.le_refl _)) (bal (Below.refl _ _) _))
  have HYB : Hid (W0.ownsRow w.heap.size 70 5 (.slice (some ⟨w.heap.size + 1, 0, none⟩) 1 1) 1 (boxCells y)) := hid (by
    rw [hW0]
    have h := owns_box (w.alloc (.cells #[.int .i64 x.id, .int .i64 x.x1, .int .i64 x.y1, .int .i64 x.x2, .int .i64 x.y2] 70)) y w.heap.size (by simp)
    rw [World.size_alloc] at h
    exact h)
  have hBW := hB.below' HBW.out
  have hzW : W0.heap.size = w.heap.size + 1 + 1 := by rw [hW0]; simp
  have HB := hid hBW
  have HN := hid hn
  have HA := hid ha
  have HCP := hid hcap
  have HW0 := hid hW0
  clear hW0 hn hcap ha hB hBW
  go_enter Try.func10, Try.ntmps10
  go_wp2_with (at_builtin; rw [← HW0.out]; refine Ap.wpList_copy rfl _ _ 68 70 i70 (.agg #[.int .i64 0, .int .i64 0, .int .i64 0, .int .i64 0, .int .i64 0]) 5 40 Try.underlying68 hi70 hz70 hs70 hb70 rfl (by decide) rfl rfl a n cap (l.flatMap boxCells) rfl ?c0 ?c1 (one_box l) (by unfold maxLen; omega) (by omega) ?_)
  case c0 =>
    intro h0
    obtain ⟨b, off, e, -⟩ := HB.out (by have := HN.out; omega)
    exact ⟨_, e, BoxL.flat HB.out _ e⟩
  case c1 => rw [flat_len boxCells 5 (fun _ => rfl), HN.out]
  intro ac cc w1 hown1 hg1
  have HO1 := hid hown1
  have HB1 : Hid (RowKit.Below W0.heap.size W0 w1) := hid ((Below.refl _ W0).grown hg1 (by simp) (fun q hq => by cases hq))
  have HL1 := hid (HB.out.below' HB1.out)
  have HX1 := hid (owns_below HXB.out HB1.out)
  have HY1 := hid (owns_below HYB.out HB1.out)
  have hac : ac = none → n = 0 := fun e => by
    rcases HO1.out.2 with ⟨_, h0⟩ | ⟨g, c, _, e2, _⟩
    · exact h0
    · rw [e] at e2; cases e2
  have HC1 : Hid (BoxL w1 ac l) := hid (fun h0 => by
    rcases HO1.out.2 with ⟨_, h0'⟩ | ⟨g, c, _, e2, _⟩
    · have := HN.out; omega
    · cases e2; exact boxL_own HO1.out h0)
  have HCC : Hid (n ≤ cc) := hid (by
    rcases HO1.out.2 with ⟨_, h0'⟩ | ⟨g, c, cur, e2, _, _, hle, _⟩
    · omega
    · cases e2; exact hle)
  have HLP : Hid ((pairsG l).length ≤ 1000000000000) := hid (by
    unfold pairsG
    split
    · rw [sortP_len]
      have h2 := pairsOf_len l
      have h4 : l.length * l.length ≤ 1000000 * 1000000 := Nat.mul_le_mul (by have := HN.out; omega) (by have := HN.out; omega)
      omega
    · simp)
  have HLL : Hid ((lookP l y).length ≤ 1000000000000) := hid (by
    unfold lookP
    split
    · rw [sortI_len]
      have h2 := lookL_len l y
      have := HN.out
      omega
    · simp)
  have HK1 : Hid (∀ W, Calls Try.prog 46 #[.agg #[.int .i64 x.id, .int .i64 x.x1, .int .i64 x.y1, .int .i64 x.x2, .int .i64 x.y2], .agg #[.int .i64 y.id, .int .i64 y.x1, .int .i64 y.y1, .int .i64 y.x2, .int .i64 y.y2]] W fun e w' => e = .returned (.bool (meetB x y)) ∧ RowKit.Below W.heap.size W w') := hid (fun W => meet_any _ _ _ _ _ _ _ _ _ _ W)
  have HK3 : Hid (∀ W, RowKit.Below w1.heap.size w1 W → Calls Try.prog 48 #[.slice ac n cc] W fun e w' => e = .returned (.bool (areB l)) ∧ RowKit.Below W.heap.size W w') := hid (fun W hb => by rw [← good_are]; exact good_any ac n cc l W HN.out (by omega) (HC1.out.below' hb))
  have HK4 : Hid (∀ W, RowKit.Below w1.heap.size w1 W → Calls Try.prog 49 #[.slice a n cap] W fun e w' => e = .returned (.bool (areB l)) ∧ RowKit.Below W.heap.size W w') := hid (fun W hb => areBoxes_any a n cap l W HN.out (by omega) HCP.out (HL1.out.below' hb))
  have HK5 := hid (fun W (hb : RowKit.Below w1.heap.size w1 W) => pairs_any ac n cc l W HN.out (by omega) hac (HC1.out.below' hb))
  have HK6 := hid (fun W (hb : RowKit.Below w1.heap.size w1 W) => pairsOfR_any a n cap l W HN.out (by omega) HCP.out (HL1.out.below' hb))
  have HK7 : Hid (∀ (W : World) (ma mb : Value), Rp.PairsR W ma (pairsG l) → Rp.PairsR W mb (pairsG l) → Calls Try.prog 50 #[ma, mb] W fun e w' => e = .returned (.bool true) ∧ RowKit.Below W.heap.size W w') := hid (fun W ma mb h1 h2 => (samePairs_any ma mb _ _ W h1 h2 HLP.out).mono (fun e w' h => ⟨by rw [h.1]; simp, h.2⟩))
  have HK8 := hid (fun W (hb : RowKit.Below w1.heap.size w1 W) => look_any ac n cc l y W HN.out (by omega) (HC1.out.below' hb))
  have HK9 := hid (fun W (hb : RowKit.Below w1.heap.size w1 W) => lookOf_any a n cap l y W HN.out (by omega) HCP.out (HL1.out.below' hb))
  have HK10 : Hid (∀ (W : World) (ma mb : Value), Rp.IntsR W ma (lookP l y) → Rp.IntsR W mb (lookP l y) → Calls Try.prog 34 #[ma, mb] W fun e w' => e = .returned (.bool true) ∧ RowKit.Below W.heap.size W w') := hid (fun W ma mb h1 h2 => (sameIds_any ma mb _ _ W h1 h2 HLL.out).mono (fun e w' h => ⟨by rw [h.1]; simp, h.2⟩))
  have HSK : Hid (∀ W, RowKit.Below w1.heap.size w1 W → (W.cell? ⟨w.heap.size, 0, none⟩ = some (.int .i64 x.id) ∧ W.cell? ⟨w.heap.size, 1, none⟩ = some (.int .i64 x.x1) ∧ W.cell? ⟨w.heap.size, 2, none⟩ = some (.int .i64 x.y1) ∧ W.cell? ⟨w.heap.size, 3, none⟩ = some (.int .i64 x.x2) ∧ W.cell? ⟨w.heap.size, 4, none⟩ = some (.int .i64 x.y2)) ∧ (W.cell? ⟨w.heap.size + 1, 0, none⟩ = some (.int .i64 y.id) ∧ W.cell? ⟨w.heap.size + 1, 1, none⟩ = some (.int .i64 y.x1) ∧ W.cell? ⟨w.heap.size + 1, 2, none⟩ = some (.int .i64 y.y1) ∧ W.cell? ⟨w.heap.size + 1, 3, none⟩ = some (.int .i64 y.x2) ∧ W.cell? ⟨w.heap.size + 1, 4, none⟩ = some (.int .i64 y.y2))) := hid (fun W hb => ⟨box_one (owns_below HX1.out hb), box_one (owns_below HY1.out hb)⟩)
  clear hown1 hg1
  go_upto_region 2 with fail
  have HBC : Hid (RowKit.Below w1.heap.size w1 w1.drew) := hid (Below.drew (Below.refl _ _))
  go_cut [42] (fun s wx => s = .bool false ∧ ∃ W, W = wx ∧ Hid (RowKit.Below w1.heap.size w1 W))
  case first =>
    go_region_held3 (fun W => (W.cell? ⟨w.heap.size, 0, none⟩ = some (.int .i64 x.id) ∧ W.cell? ⟨w.heap.size, 1, none⟩ = some (.int .i64 x.x1) ∧ W.cell? ⟨w.heap.size, 2, none⟩ = some (.int .i64 x.y1) ∧ W.cell? ⟨w.heap.size, 3, none⟩ = some (.int .i64 x.x2) ∧ W.cell? ⟨w.heap.size, 4, none⟩ = some (.int .i64 x.y2)) ∧ (W.cell? ⟨w.heap.size + 1, 0, none⟩ = some (.int .i64 y.id) ∧ W.cell? ⟨w.heap.size + 1, 1, none⟩ = some (.int .i64 y.x1) ∧ W.cell? ⟨w.heap.size + 1, 2, none⟩ = some (.int .i64 y.y1) ∧ W.cell? ⟨w.heap.size + 1, 3, none⟩ = some (.int .i64 y.x2) ∧ W.cell? ⟨w.heap.size + 1, 4, none⟩ = some (.int .i64 y.y2))) (with_reducible exact HSK.out _ HBC.out)
      (first
      | (go_at_call 46; refine (HK1.out _).mono ?_; rintro e w2 ⟨rfl, h⟩; have HBC := hid (bcall HBC.out h); clear h)
      | (go_at_call 47; refine (meetBoxes_any x y _).mono ?_; rintro e w2 ⟨rfl, h⟩; have HBC := hid (bcall HBC.out h); clear h)
      | (go_at_call 48; refine (HK3.out _ HBC.out).mono ?_; rintro e w2 ⟨rfl, h⟩; have HBC := hid (bcall HBC.out h); clear h)
      | (go_at_call 49; refine (HK4.out _ HBC.out).mono ?_; rintro e w2 ⟨rfl, h⟩; have HBC := hid (bcall HBC.out h); clear h)
      | (go_at_call 51; refine (HK5.out _ HBC.out).mono ?_; rintro e w2 ⟨⟨u5, rfl, ho⟩, h⟩; have HBC := hid (bcall HBC.out h); have HP5 := hid (Rp.PairsR.own ho rfl); clear h ho)
      | (go_at_call 52; refine (HK6.out _ HBC.out).mono ?_; rintro e w2 ⟨⟨u6, rfl, ho⟩, h⟩; have HBC := hid (bcall HBC.out h); have HP5 := hid (HP5.out.below h); have HP6 := hid (Rp.PairsR.own ho rfl); clear h ho)
      | (go_at_call 50; refine (HK7.out _ _ _ HP5.out HP6.out).mono ?_; rintro e w2 ⟨rfl, h⟩; have HBC := hid (bcall HBC.out h); clear h)
      | (go_at_call 53; refine (HK8.out _ HBC.out).mono ?_; rintro e w2 ⟨⟨u8, rfl, ho⟩, h⟩; have HBC := hid (bcall HBC.out h); have HP8 := hid (Rp.IntsR.own ho rfl); clear h ho)
      | (go_at_call 54; refine (HK9.out _ HBC.out).mono ?_; rintro e w2 ⟨⟨u9, rfl, ho⟩, h⟩; have HBC := hid (bcall HBC.out h); have HP8 := hid (HP8.out.below h); have HP9 := hid (Rp.IntsR.own ho rfl); clear h ho)
      | (go_at_call 34; refine (HK10.out _ _ _ HP8.out HP9.out).mono ?_; rintro e w2 ⟨rfl, h⟩; have HBC := hid (bcall HBC.out h); clear h))
    all_goals
      go_wp2_with fail
      go_meet
      exact ⟨rfl, _, rfl, HBC⟩
  case rest =>
  obtain ⟨rfl, W, rfl, HBW2⟩ := hcut
  clear HK1 HK3 HK4 HK5 HK6 HK7 HK8 HK9 HK10 HSK HX1 HY1 HXB HYB HBC HLP HLL
  have HWW : Hid (RowKit.Below w.heap.size w W) := hid (bcall (bcall HBW.out HB1.out) HBW2.out)
  go_wp2_with fail
  go_loopw [45] (fun i wr => ∃ k : Nat, k ≤ n ∧ i = .int .i64 k ∧ Hid (RowKit.Below W.heap.size W wr)) (fun i _ => n - (intOf i).toNat)
  case atStart => exact ⟨0, Nat.zero_le _, rfl, hid (Below.refl _ _)⟩
  case round =>
    obtain ⟨k, hk, rfl, HBR⟩ := hrel
    by_cases hlt : k < n
    · have hlt' : (k : Int) < (n : Int) := by omega
      obtain ⟨q, hq⟩ : ∃ q, l[k]? = some q := ⟨_, List.getElem?_eq_getElem (by have := HN.out; omega)⟩
      have hb1 := bcall HBW2.out HBR.out
      obtain ⟨b, off, rfl, hb, hc⟩ := (HL1.out.below' hb1) (by have := HN.out; omega)
      obtain ⟨g, og, rfl, hg, hd⟩ := (HC1.out.below' hb1) (by have := HN.out; omega)
      obtain ⟨c0, c1, c2, c3, c4⟩ := hc k q hq
      obtain ⟨d0, d1, d2, d3, d4⟩ := hd k q hq
      have hne := neq70 q q rfl
      clear hc hd hq hb1
      go_wp2_with fail
      go_region
      all_goals
        go_wp2_with fail
        refine ⟨⟨k + 1, by omega, by go_num, hid (Below.drew HBR.out)⟩, by simp [intOf]; omega⟩
    · go_wp2_with (go_at_call 55; refine (lsweeps_any _).mono ?_; rintro e w5 ⟨rfl, h5⟩; have H5 := hid h5; clear h5)
      go_ret
      exact ⟨rfl, bcall (bcall HWW.out HBR.out) H5.out⟩
end Go.Proofs.Ytckkkdldljhehaa.Sw
