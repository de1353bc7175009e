/- What Good of package store answers when called over tables in memory: whether it is a store as the text before says; nothing that was in memory before has changed. -/
import Derived.Test.YtckkkdldljhehaaStGood
namespace Go.Proofs.Ytckkkdldljhehaa.St
open Go.Proofs.Ytckkkdldljhehaa.Num
open Go.ChangeShapes Go.WideShapes Go.ChangeAt Go.RowKit Go.Maps

set_option maxHeartbeats 4000000 in
set_option maxRecDepth 100000 in
theorem good_any (a : Option Addr) (n cap : Nat) (next : Int) (T : Nat → TabV) (I : Nat → Nat → Int) (R : Nat → Nat → R8) (w : World) (hn : n ≤ maxLen) (hT : TabsIn w a n T)
    (hI : ∀ i, i < n → IdsIn w (T i).ia (T i).il (I i)) (hR : ∀ i, i < n → RowsIn w (T i).ra (T i).rl (R i)) (hsz : ∀ i, i < n → (T i).il ≤ 140737488355328 ∧ (T i).rl ≤ 140737488355328)
    (hwf : ∀ i, i < n → ∀ j, j < (T i).il → (Lit.int .i64 (I i j)).wf = true) :
    Calls Try.prog 25 #[.agg #[.slice a n cap, .int .i64 next]] w fun e w' => (∃ g, e = .returned (.bool g) ∧ (g = true ↔ GoodS next n T I R)) ∧ Below w.heap.size w w' := by
  have HS : Hid (∀ w', Below w.heap.size w w' → Calls Try.prog 33 #[.agg #[.slice a n cap, .int .i64 next]] w' fun e w'' => e = .returned (.int .i64 (sizeW T n)) ∧ Below w'.heap.size w' w'') := fun w' hb => size_any a n cap next T w' hn (hT.below hb)
  have HT : Hid _ := hT
  have HI : Hid _ := hI
  have HR : Hid _ := hR
  have HZ : Hid _ := hsz
  have HW : Hid _ := hwf
  clear hT hI hR hsz hwf
  unfold maxLen at hn
  have hmm := @run_makeMap Try.prog
  cases hq : btw next 0 1048576
  · go_enter Try.func25, Try.ntmps25
    go_wp2_with (go_at_call 70; refine (between_any _ _ _ _).mono ?_; rintro e w' ⟨rfl, rfl⟩)
    go_ret
    refine ⟨⟨false, rfl, ?_⟩, bal (Below.refl _ _) _⟩
    constructor
    · intro h; cases h
    · intro h; have := h.1; rw [hq] at this; cases this
  · have hq2 : 0 ≤ next ∧ next ≤ 1048576 := by simpa [btw] using hq
    obtain ⟨hn0, hn1⟩ := hq2
    by_cases hs : 10 < sizeW T n
    · go_enter Try.func25, Try.ntmps25
      go_wp2_with (first | (go_at_call 70; refine (between_any _ _ _ _).mono ?_; rintro e w' ⟨rfl, rfl⟩) | (go_at_call 33; refine (HS.out _ (bal (Below.refl _ _) _)).mono ?_; rintro e w' ⟨rfl, hb⟩))
      go_ret
      refine ⟨⟨false, rfl, ?_⟩, bcall (bal (Below.refl _ _) _) hb⟩
      constructor
      · intro h; cases h
      · intro h; have := h.2.1; omega
    · go_enter Try.func25, Try.ntmps25
      go_wp2_with (first | (go_at_call 70; refine (between_any _ _ _ _).mono ?_; rintro e w' ⟨rfl, rfl⟩) | (go_at_call 33; refine (HS.out _ (bal (Below.refl _ _) _)).mono ?_; rintro e w1 ⟨rfl, hb1⟩; have HB1 : Hid _ := hb1; have hx0 := hb1.cell (p := ⟨w.heap.size, 0, none⟩) (by simp); have hx1 := hb1.cell (p := ⟨w.heap.size, 1, none⟩) (by simp); have hz1 := hb1.size; simp at hz1 hx0 hx1; have hz2 : w.heap.size < w1.heap.size := (by omega); clear hb1))
      have hbw : Below w.heap.size w w1 := bcall (bal (Below.refl _ _) _) HB1.out
      have HB : Hid _ := hbw
      clear hbw
      go_loopw [3, 22] (fun la i wr => ∃ k : Nat, k ≤ n ∧ i = .int .i64 k ∧ la = .int .i64 (lastM T k) ∧ Hid (TabsTo next T I R k) ∧ Hid (Seen wr w1.heap.size (allIds T I k)) ∧ Below w1.heap.size w1 wr ∧ w1.heap.size < wr.heap.size) (fun _ i _ => n - (intOf i).toNat)
      case atStart => exact ⟨0, Nat.zero_le _, rfl, rfl, fun i hi => absurd hi (Nat.not_lt_zero _), ⟨.map [], World.ownsMap_made _ _ _ _, fun x => rfl, rfl⟩, bal (Below.refl _ _) _, by simp⟩
      case round =>
        obtain ⟨k, hk, rfl, rfl, htabs, hseen, hbl, hzr⟩ := hrel
        have hy0 := (hbl.cell (p := ⟨w.heap.size, 0, none⟩) hz2).trans hx0
        have hy1 := (hbl.cell (p := ⟨w.heap.size, 1, none⟩) hz2).trans hx1
        have hzw : w.heap.size < wr.heap.size := by omega
        have HL : Hid _ := hbl
        clear hbl
        by_cases hlt : k < n
        · obtain ⟨b, off, rfl, hb, hc⟩ := HT.out (by omega)
          obtain ⟨c0, c1, c2⟩ := hc k hlt
          rw [← (HB.out.trans (HL.out.mono (by omega))).cell (by exact hb)] at c0 c1 c2
          clear hc
          obtain ⟨s1, s2⟩ := HZ.out k hlt
          have hbz : b < wr.heap.size := by omega
          have HBR : Hid (Below w.heap.size w wr) := HB.out.trans (HL.out.mono (by omega))
          by_cases hm : (T k).mask ≤ lastM T k
          · go_wp2_with fail
            go_ret
            refine ⟨⟨false, rfl, ?_⟩, bal HBR.out _⟩
            constructor
            · intro h; cases h
            · intro h; have := (h.2.2.1 k hlt).1; omega
          · go_wp2_with fail
            refine (goodTable_any _ _ _ _ _ _ _ _ (I k) (R k) _ (by unfold maxLen; omega) (by unfold maxLen; omega) hn0 hn1 (((HI.out k hlt).below HBR.out).below (bal (Below.refl _ _) _)) (((HR.out k hlt).below HBR.out).below (bal (Below.refl _ _) _))).mono ?_
            rintro e w2 ⟨⟨g, rfl, hg⟩, hb2⟩
            have hz3 := hb2.size
            simp at hz3
            have hz4 : wr.heap.size < w2.heap.size := by omega
            have t0 := hb2.cell (p := ⟨wr.heap.size, 0, none⟩) (by simp)
            have t1 := hb2.cell (p := ⟨wr.heap.size, 1, none⟩) (by simp)
            simp at t0 t1
            have HG : Hid _ := hg
            have H2 : Hid (Below wr.heap.size wr w2) := bcall (bal (Below.refl _ _) _) hb2
            clear hg hb2
            cases g
            · go_wp2_with fail
              go_ret
              refine ⟨⟨false, rfl, ?_⟩, bcall HBR.out H2.out⟩
              constructor
              · intro h; cases h
              · intro h; exact HG.out.2 (h.2.2.1 k hlt).2
            · have hgt := HG.out.1 rfl
              obtain ⟨bi, oi, hia, hbi, hci⟩ := HI.out k hlt hgt.1
              have HGT : Hid _ := hgt
              have HCI : Hid _ := hci
              clear hgt hci
              rw [hia] at t1
              go_wp2_with fail
              go_loopw [42] (fun i wv => ∃ j : Nat, j ≤ (T k).il ∧ i = .int .i64 j ∧ Hid (Seen wv w1.heap.size (pushIds (I k) (allIds T I k) j)) ∧ Below w1.heap.size w1 wv ∧ w1.heap.size < wv.heap.size) (fun i _ => (T k).il - (intOf i).toNat)
              case atStart => exact ⟨0, Nat.zero_le _, rfl, hseen.out.below H2.out, HL.out.trans (H2.out.mono (by omega)), by omega⟩
              case round =>
                obtain ⟨j, hj, rfl, hsn, hblv, hzv⟩ := hrel
                have HLV : Hid _ := hblv
                clear hblv
                by_cases hjl : j < (T k).il
                · have cj := HCI.out j hjl
                  rw [← (HB.out.trans (HLV.out.mono (by omega))).cell (by exact hbi)] at cj
                  have hlen := tabsTo_len htabs.out (fun i hi => (HZ.out i (by omega)).1)
                  have hpl := pushIds_length (I k) (allIds T I k) j
                  have hmx : (pushIds (I k) (allIds T I k) j).length < maxLen := by rw [hpl]; unfold maxLen; omega
                  have HPL : Hid _ := hpl
                  clear hpl hlen
                  obtain ⟨D, hown, hh, hsd⟩ := hsn.out
                  have HH : Hid _ := hh
                  have HSD : Hid _ := hsd
                  clear hh hsd
                  have hkey : keyOf Try.prog 3 (.int .i64 (I k j)) = some (.int .i64 (I k j)) := keyOf_int_mk Try.underlying3 (HW.out k hlt j hjl)
                  go_wp2_with (first
                    | (at_lookup; refine wpList_lookup_own_int _ rfl _ _ 93 rfl 3 3 .i64 law3 Try.underlying93 Try.underlying3 (zero3 _) w1.heap.size _ _ rfl hown _ _ rfl hkey ?_; intro c hat hwc)
                    | (at_mapUpdate; refine wpList_mapUpdate_own _ rfl _ _ _ 93 rfl 3 3 law3 Try.underlying93 _ w1.heap.size _ _ rfl hown hmx _ _ _ rfl rfl hkey _ [] (plainElem_int Try.underlying3 (wrap64_wf _)) ?_; intro w3 hown1 hgrow1)
                    | fail)
                  go_roundw
                  case rel => exact ⟨j + 1, by omega, by go_num, seen_step hown HH.out HSD.out hown1, HLV.out.grown hgrow1 (by omega) (fun q hq => by cases hq; exact Nat.le_refl _), Nat.lt_of_lt_of_le hzv hgrow1.size⟩
                  case measure => simp [intOf]; omega
                · go_wp2_with fail
                  have hje : j = (T k).il := by omega
                  go_roundw
                  case rel =>
                    refine ⟨k + 1, by omega, by go_num, rfl, fun i hi => ?_, ?_, HLV.out, hzv⟩
                    · by_cases e : i = k
                      · subst e
                        exact ⟨by omega, HGT.out⟩
                      · exact htabs.out i (by omega)
                    · have := hsn.out
                      rw [hje] at this
                      exact this
                  case measure => simp [intOf]; omega
        · obtain ⟨D, hown, hh, hsd⟩ := hseen.out
          have hke : k = n := by omega
          subst hke
          go_wp2_with (first
            | (at_len; refine wpList_len_own _ rfl _ 93 rfl 3 3 Try.underlying93 _ w1.heap.size _ _ rfl hown ?_)
            | (go_at_call 33; refine (HS.out _ (HB.out.trans (HL.out.mono (by omega)))).mono ?_; rintro e w4 ⟨rfl, hb4⟩))
          go_ret
          refine ⟨⟨_, rfl, ?_⟩, bcall (HB.out.trans (HL.out.mono (by omega))) hb4⟩
          simp only [beq_iff_eq]
          exact ⟨fun h => ⟨hq, by omega, htabs.out, h⟩, fun h => h.2.2.2⟩
end Go.Proofs.Ytckkkdldljhehaa.St
