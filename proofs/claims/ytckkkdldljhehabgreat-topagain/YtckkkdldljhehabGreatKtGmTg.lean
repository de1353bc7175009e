/- What TopAgain of package ninepinstop answers when called: true; nothing that was in memory before has changed. -/
import Derived.Test.YtckkkdldljhehabGreatKtGmAd
import Derived.Maps.AppendAt
import Derived.Deep.MidRow
import Derived.Deep.WholeRow
import Derived.Deep.RegionHeld3
import Derived.Deep.DeepFit
import Derived.Deep.DeepCutAuto
import Derived.Deep.CutBlock
namespace Go.Proofs.YtckkkdldljhehabGreat.Gm
open Go.Proofs.YtckkkdldljhehabGreat.Num Go.Proofs.YtckkkdldljhehabGreat.St Go.Proofs.YtckkkdldljhehabGreat.Wd
open Go.ChangeShapes Go.WideShapes Go.ChangeAt Go.RowKit

set_option maxHeartbeats 16000000 in
set_option maxRecDepth 100000 in
theorem topAgain_any (size fall : Int) (al : Option Addr) (n cap : Nat) (l : List Ac) (bl : Option Addr) (m capm : Nat) (more : List Ac) (w : World) (hl : ActL w al l) (hn : n = l.length) (hz : n * 136 ≤ 140737488355328) (hlm : ActL w bl more) (hm : m = more.length) (hzm : m * 136 ≤ 140737488355328) :
    Calls Tryz.prog 10 #[.int .i64 size, .int .i64 fall, .slice al n cap, .slice bl m capm] w fun e w' => e = .returned (.bool true) ∧ Below w.heap.size w w' := by
  have HP := St.hid (play_from hl hn hz size fall cap (Below.refl _ w))
  have HG := St.hid (playP_good size fall l)
  have HA : Hid ((playP size fall l).acts ≤ 60) := St.hid (by rw [acts_play]; omega)
  have HLM := St.hid hlm
  have HM := St.hid hm
  obtain ⟨i70, hi70, hz70, hs70, hb70⟩ := info_parts infoReply
  generalize playP size fall l = s at HP HG HA
  clear hl hn hlm hm
  go_enter Tryz.func10, Tryz.ntmps10
  go_wp2_with fail
  refine HP.out.mono ?_
  rintro e w1 ⟨b, F1, rfl, hG1, hF1, hb1⟩
  have HG1 := St.hid hG1
  have HF1 := St.hid hF1
  have HB1 := St.hid hb1
  clear hG1 hF1 hb1 HP
  go_wp2_with fail
  have hd := do_from HG1.out HG.out HB1.out HF1.out saveA
  rcases do_saveA (s := s) (by have := HA.out; omega) with hc | hc
  · refine Calls.mono hd ?_
    clear hd
    rintro e w2 ⟨ai, ci, am, cm, F2, rfl, -, -, -, -, -, -, hb2⟩
    have HB2 := St.hid hb2
    clear hb2
    generalize (doG s saveA).2.code = rc at hc ⊢
    generalize (doG s saveA).2.n = rn
    generalize (doG s saveA).2.ids.length = li
    generalize (doG s saveA).2.met.length = lm
    have b1 : (rc != 0) = true := by simpa using hc
    go_wp2_with fail
    go_ret
    exact ⟨rfl, bal HB2.out _⟩
  · have hgd := HG.out.do saveA
    rw [hc] at hd hgd
    refine Calls.mono hd ?_
    clear hd
    rintro e w2 ⟨ai, ci, am, cm, F2, rfl, -, hG2, -, hF2, -, -, hb2⟩
    simp only [List.length_nil]
    have HG2 : Hid (Gam w2 F2 b ⟨s.now, s.saves ++ [s.now], s.acts + 1⟩) := St.hid hG2
    have HGN : Hid (GoodG ⟨s.now, s.saves ++ [s.now], s.acts + 1⟩) := St.hid hgd
    have HF2 := St.hid hF2
    have HB2 := St.hid hb2
    have hac : s.acts ≤ 60 := HA.out
    clear hG2 hF2 hb2 HG1 HF1 HB1 hc hgd HG HA
    generalize s.now = x at HG2 HGN
    generalize s.saves = S at HG2 HGN ⊢
    generalize s.acts = c0 at HG2 HGN hac
    by_cases h20 : 20 < m
    · have b1 : ((m : Int) > 20) := by omega
      go_wp2_with fail
      go_ret
      exact ⟨rfl, bal HB2.out _⟩
    · have b1 : ¬ ((m : Int) > 20) := by omega
      go_wp2_with fail
      have HB2a := St.hid (bal HB2.out (.cells #[.int .i64 0, .int .i64 S.length, .slice ai 0 ci, .slice am 0 cm] 70))
      have HG2a := St.hid (HG2.out.below (bal (Below.refl _ _) (.cells #[.int .i64 0, .int .i64 S.length, .slice ai 0 ci, .slice am 0 cm] 70)))
      have HR2 := St.hid (Rp.rowIs4 w2 0 S.length (.slice ai 0 ci) (.slice am 0 cm) 70)
      have HNR : Hid (¬ F2 w2.heap.size) := St.hid (fun hc => by have := HG2.out.lt hc; omega)
      have HFL : Hid (∀ z, F2 z → z < w2.heap.size) := St.hid (fun z hz => HG2.out.lt hz)
      generalize w2.heap.size = r0 at HR2 HNR HFL ⊢
      generalize w2.alloc (.cells #[.int .i64 0, .int .i64 S.length, .slice ai 0 ci, .slice am 0 cm] 70) = W2 at HB2a HG2a HR2 ⊢
      clear HB2 HG2
      refine (world_any HG2a.out).mono ?_
      rintro e w3 ⟨⟨a3, n3, c3, rfl, F3, hs3, hF3⟩, hb3⟩
      simp only
      have HS3 := St.hid hs3
      have HF32 : Hid (∀ z, F3 z → ¬ F2 z) := St.hid (fun z h3 h2 => by have := hF3 z h3; have := HG2a.out.lt h2; omega)
      have HB3 := St.hid (bcall HB2a.out hb3)
      have HG3 := St.hid (HG2a.out.below hb3)
      have HR3 := St.hid (rowIs_below HR2.out hb3)
      have hr0 := HR3.out.lt
      clear hs3 hb3 hF3 HB2a HG2a HR2
      go_wp2_with fail
      have HB3a := St.hid (bal HB3.out (.cells #[.slice a3 n3 c3, .int .i64 x.next, .int .i64 x.fall, .int .i64 x.wide, .int .i64 x.high] 26))
      have HG3a := St.hid (HG3.out.below (bal (Below.refl _ _) (.cells #[.slice a3 n3 c3, .int .i64 x.next, .int .i64 x.fall, .int .i64 x.wide, .int .i64 x.high] 26)))
      have HR3a := St.hid (rowIs_below HR3.out (bal (Below.refl _ _) (.cells #[.slice a3 n3 c3, .int .i64 x.next, .int .i64 x.fall, .int .i64 x.wide, .int .i64 x.high] 26)))
      have HS3a := St.hid (HS3.out.below (bal (Below.refl _ _) (.cells #[.slice a3 n3 c3, .int .i64 x.next, .int .i64 x.fall, .int .i64 x.wide, .int .i64 x.high] 26)))
      have HW3 := St.hid (rowIs5 w3 (.slice a3 n3 c3) x.next x.fall x.wide x.high 26)
      have HNW : Hid (¬ F2 w3.heap.size) := St.hid (fun hc => by have := HG3.out.lt hc; omega)
      generalize w3.heap.size = wb at HW3 HNW ⊢
      generalize w3.alloc (.cells #[.slice a3 n3 c3, .int .i64 x.next, .int .i64 x.fall, .int .i64 x.wide, .int .i64 x.high] 26) = W3 at HB3a HG3a HR3a HS3a HW3 ⊢
      clear HB3 HG3 HR3 HS3
      go_loopw [13, 44] (fun v i wr => ∃ (k : Nat) (F : Nat → Prop) (sk : Gp) (us : List (Value × Value)), k ≤ m ∧ i = .int .i64 k ∧ sk.acts = c0 + 1 + k ∧ Hid (sk.now = runW x (more.take k) ∧ sk.saves = S ++ [x] ∧ GoodG sk) ∧ Hid (Gam wr F b sk) ∧ Hid (∀ z, F z → F2 z ∨ W3.heap.size ≤ z) ∧ Hid (Kept F2 W3 wr) ∧ Hid (Reps wr W3.heap.size F v us (repsP x more k))) (fun _ i _ => m - (intOf i).toNat)
      case atStart => exact ⟨0, F2, _, [], Nat.zero_le _, rfl, rfl, St.hid ⟨rfl, rfl, HGN.out⟩, HG3a, St.hid (fun z hz => Or.inl hz), St.hid (Kept.below (Below.refl _ _)), St.hid (Reps.nil _ _ _)⟩
      case round =>
        obtain ⟨k, F, sk, us, hk, rfl, hacs, HSK, HGK, HFK, HKK, HRK⟩ := hrel
        have HBK := St.hid (HB3a.out.trans (HKK.out.to_below HB3a.out.size HF2.out))
        have HFW : Hid (∀ z, F z → w.heap.size ≤ z) := St.hid (fun z hz => (HFK.out z hz).elim (fun h => HF2.out z h) (fun h => by have := HB3a.out.size; omega))
        by_cases hlt : k < m
        · have hlt' : (k : Int) < (m : Int) := by omega
          obtain ⟨xa, hxa⟩ : ∃ xa, more[k]? = some xa := ⟨_, List.getElem?_eq_getElem (by have := HM.out; omega)⟩
          obtain ⟨g, off, rfl, hgl, hcs⟩ := HLM.out (by have := HM.out; omega)
          have hgr : g < wr.heap.size := by have := HBK.out.size; omega
          have HXA := St.hid hxa
          have HRA : Hid (wr.rangeAt g (off + k * 17) (actCells xa)) := St.hid (fun j u hj => (HBK.out.cell (p := ⟨g, off + k * 17 + j, none⟩) hgl).trans (hcs k xa hxa j u hj))
          clear hcs hxa
          go_upto_region 11 with fail
          go_cut [15] (fun p wx => p = .pointer (some ⟨wr.heap.size, 0, none⟩) ∧ ∃ W, W = wx ∧ AcBox W wr.heap.size xa ∧ Below wr.heap.size wr W)
          case first =>
            go_wp2_with (first | (refine wpList_load_mid rfl 65 _ rfl g (off + k * 17) rfl (actCells xa) _ HRA.out Tryz.underlying65 rfl sizeA ?_) | (refine wpList_store_row rfl 65 _ _ rfl wr.heap.size (actCells xa).toArray rfl rfl 65 _ (heap_alloc_last _ _) sizeA rfl (oneA xa) ?_; rw [World.setRow_alloc_new]))
            go_meet
            exact ⟨rfl, _, rfl, acBox wr xa, bal (Below.refl _ wr) _⟩
          case rest =>
          obtain ⟨rfl, W4, rfl, hA4, hB4⟩ := hcut
          have HA4 := St.hid hA4
          have HB4 := St.hid hB4
          clear hA4 hB4
          have hab := HA4.out.lt
          go_upto_region 12 with fail
          go_cut [55] (fun c wx => wx = W4 ∧ ∃ cb : Bool, c = .bool cb ∧ Hid (cb = true ↔ xa.kind = 7 ∨ xa.kind = 8))
          case first =>
            have a0 := HA4.out.at.1
            have h3 : xa.kind = 7 ∨ xa.kind = 8 ∨ (xa.kind ≠ 7 ∧ xa.kind ≠ 8) := by omega
            rcases h3 with h7 | h8 | ⟨h7, h8⟩
            · have b7 : (xa.kind == 7) = true := by simpa using h7
              go_wp2_with fail
              go_meet
              exact ⟨rfl, true, rfl, St.hid (by simp [h7])⟩
            · have b7 : (xa.kind == 7) = false := by simp [h8]
              have b8 : (xa.kind == 8) = true := by simpa using h8
              go_wp2_with fail
              go_meet
              exact ⟨rfl, true, rfl, St.hid (by simp [h8])⟩
            · have b7 : (xa.kind == 7) = false := by simpa using h7
              have b8 : (xa.kind == 8) = false := by simpa using h8
              go_wp2_with fail
              go_meet
              exact ⟨rfl, false, rfl, St.hid (by simp [h7, h8])⟩
          case rest =>
          obtain ⟨rfl, cb, rfl, HCB⟩ := hcut
          go_upto_if 55 with fail
          go_cut [15] (fun p wx => p = .pointer (some ⟨wr.heap.size, 0, none⟩) ∧ ∃ W, W = wx ∧ AcBox W wr.heap.size (fixA xa) ∧ Below wr.heap.size wr W)
          case first =>
            have af0 := World.rowIs.frozen HA4.out 0
            have a0 := HA4.out.at.1
            cases cb
            · have hne : ¬ (xa.kind = 7 ∨ xa.kind = 8) := fun h => by have := HCB.out.2 h; cases this
              go_wp2_with fail
              go_meet
              exact ⟨rfl, _, rfl, by unfold fixA; rw [if_neg hne]; exact HA4.out, HB4.out⟩
            · have hye : xa.kind = 7 ∨ xa.kind = 8 := HCB.out.1 rfl
              go_wp2_with fail
              go_meet
              exact ⟨rfl, _, rfl, by unfold fixA; rw [if_pos hye]; exact HA4.out.six, Below.setCell HB4.out (Nat.le_refl _) _⟩
          case rest =>
          obtain ⟨rfl, W5, rfl, hA5, hB5⟩ := hcut
          have HA5 := St.hid hA5
          have HB5 := St.hid hB5
          clear hA5 hB5 HA4 HB4 HCB
          have hab5 := HA5.out.lt
          have HRB := St.hid HA5.out.range
          go_wp2_with (refine wpList_load_mid rfl 65 _ rfl wr.heap.size 0 rfl (actCells (fixA xa)) _ HRB.out Tryz.underlying65 rfl sizeA ?_)
          refine (again_do (HGK.out.below HB5.out) HSK.out.2.2 (bcall HBK.out HB5.out) HFW.out HXA.out HSK.out.1 (by omega) _ rfl).mono ?_
          rintro e w6 ⟨aj, cj, an, cn, F6, s6, rfl, ⟨hi6, hm6⟩, ⟨hG6, hgd6, hnow6, hsv6, hac6⟩, hF6, hF6w, hn6, hk6, hb6⟩
          have HREP := St.hid (repsP_succ x more k)
          generalize repAt x more k = r at hi6 hm6 hn6 HREP ⊢
          have HR6 := St.hid ((HRK.out.below HB5.out).kept hk6 hF6)
          have HRW : Hid (∀ z, u13.ownBlock = some z → z < wr.heap.size) := St.hid (fun z hz => (HRK.out.row.lt z hz).2)
          have HI6 := St.hid hi6
          have HM6 := St.hid hm6
          have HN6 := St.hid hn6
          have HG6 := St.hid hG6
          have HS6 : Hid (s6.now = runW x (more.take (k + 1)) ∧ s6.saves = S ++ [x] ∧ GoodG s6) := St.hid ⟨hnow6, hsv6.trans HSK.out.2.1, hgd6⟩
          have HF6 : Hid (∀ z, F6 z → F2 z ∨ W3.heap.size ≤ z) := St.hid (fun z hz => (hF6 z hz).elim (fun h => HFK.out z h) (fun h => Or.inr (by have := HKK.out.size; have := HB5.out.size; omega)))
          have HK6 := St.hid ((HKK.out.call HB5.out).trans hk6 (fun z hz => HFK.out z hz))
          have hz6 := hk6.size
          have hz5 := HB5.out.size
          have hzr := HKK.out.size
          clear hi6 hm6 hn6 hG6 hnow6 hsv6 hgd6 hF6 hF6w hk6 hb6 HGK HRK HSK HFK HKK HA5 HB5
          have HR6a := St.hid (HR6.out.below (bal (Below.refl _ _) (.cells #[.int .i64 r.code, .int .i64 r.n, .slice aj r.ids.length cj, .slice an r.met.length cn] 70)))
          have HG6a := St.hid (HG6.out.below (bal (Below.refl _ _) (.cells #[.int .i64 r.code, .int .i64 r.n, .slice aj r.ids.length cj, .slice an r.met.length cn] 70)))
          have hlen := repsP_len x more k
          go_wp2_with (at_builtin; refine wpList_append_own_at _ rfl _ _ 79 rfl W3.heap.size 70 i70 (.agg #[.int .i64 0, .int .i64 0, .slice none 0 0, .slice none 0 0]) 4 64 Tryz.underlying79 hi70 hz70 hs70 hb70 rfl (by decide) _ _ _ rfl HR6a.out.row ⟨w6.heap.size, 0, none⟩ 1 1 [.int .i64 r.code, .int .i64 r.n, .slice aj r.ids.length cj, .slice an r.met.length cn] rfl ?c1 ?c2 ?c3 ?c4 ?c5 ?c6 ?_)
          case c1 => rfl
          case c2 => exact rep_cells w6 _ _ _ _ 70
          case c3 => intro u hu; simp at hu; rcases hu with rfl | rfl | rfl | rfl <;> rfl
          case c4 => unfold maxLen; omega
          case c5 => omega
          case c6 => simp; omega
          intro v' w7 hown7 hg7 _ hat7
          have HO7 := St.hid hown7
          have HGR7 := St.hid hg7
          have HAT7 := St.hid hat7
          clear hown7 hg7 hat7
          go_wp2_with fail
          go_roundw
          case rel =>
            refine ⟨k + 1, F6, s6, us ++ [(.slice aj r.ids.length cj, .slice an r.met.length cn)], by omega, by go_num, by omega, HS6, St.hid (HG6a.out.grownO HGR7.out (fun z hz => HR6a.out.sepR z hz)), HF6, St.hid ((HK6.out.call (bal (Below.refl _ _) _)).grown HGR7.out (fun z hz => Or.inr (HR6a.out.row.lt z hz).1)), ?_⟩
            rw [HREP.out]
            refine St.hid (HR6a.out.snoc (r := r) (by rw [repsP_len]; exact HO7.out) HGR7.out (by rw [World.size_alloc]; exact HAT7.out) (owns_mono (owns_below HI6.out (bal (Below.refl _ _) _)) (by omega)) (owns_mono (owns_below HM6.out (bal (Below.refl _ _) _)) (by omega)) (fun z hz => ⟨HN6.out z hz, fun e => ?_⟩) (fun hc => by have := HG6.out.lt hc; simp at this; omega))
            rcases hz with hz | hz
            · have := (HI6.out.lt z hz).1; have := HRW.out z e; omega
            · have := (HM6.out.lt z hz).1; have := HRW.out z e; omega
          case measure => simp [intOf]; omega
        · have hkm : k = m := by omega
          subst hkm
          have HNW2 : Hid (sk.now = runW x more) := St.hid (by rw [HSK.out.1, List.take_of_length_le (by have := HM.out; omega)])
          obtain ⟨xT, HXT⟩ : ∃ y, Hid (y = runW x more) := ⟨_, rfl⟩
          have HGX : Hid (GoodW x) := St.hid HGN.out.now
          have HGT : Hid (GoodW xT) := St.hid (by rw [HXT.out]; exact HGX.out.runW _)
          go_wp2_with fail
          refine (world_any HGK.out).mono ?_
          rintro e w5 ⟨⟨a5, n5, c5, rfl, F5, hs5, hF5⟩, hb5⟩
          rw [HNW2.out, ← HXT.out] at hs5
          simp only [HNW2.out, ← HXT.out]
          have HS5 := St.hid hs5
          have HF5 : Hid (∀ z, F5 z → ¬ F z) := St.hid (fun z h5 h2 => by have := hF5 z h5; have := HGK.out.lt h2; omega)
          have HB5 := St.hid (bcall HBK.out hb5)
          have HG5 := St.hid (HGK.out.below hb5)
          have HR5 := St.hid (HRK.out.below hb5)
          have HK5 := St.hid (HKK.out.call hb5)
          clear hs5 hF5 hb5 HGK HRK HKK HBK
          have HB5a := St.hid (bal HB5.out (.cells #[.slice a5 n5 c5, .int .i64 xT.next, .int .i64 xT.fall, .int .i64 xT.wide, .int .i64 xT.high] 26))
          have HG5a := St.hid (HG5.out.below (bal (Below.refl _ _) (.cells #[.slice a5 n5 c5, .int .i64 xT.next, .int .i64 xT.fall, .int .i64 xT.wide, .int .i64 xT.high] 26)))
          have HR5a := St.hid (HR5.out.below (bal (Below.refl _ _) (.cells #[.slice a5 n5 c5, .int .i64 xT.next, .int .i64 xT.fall, .int .i64 xT.wide, .int .i64 xT.high] 26)))
          have HS5a := St.hid (HS5.out.below (bal (Below.refl _ _) (.cells #[.slice a5 n5 c5, .int .i64 xT.next, .int .i64 xT.fall, .int .i64 xT.wide, .int .i64 xT.high] 26)))
          have HK5a := St.hid (HK5.out.call (bal (Below.refl _ _) (.cells #[.slice a5 n5 c5, .int .i64 xT.next, .int .i64 xT.fall, .int .i64 xT.wide, .int .i64 xT.high] 26)))
          have HT5 := St.hid (rowIs5 w5 (.slice a5 n5 c5) xT.next xT.fall xT.wide xT.high 26)
          have HNT : Hid (¬ F w5.heap.size) := St.hid (fun hc => by have := HG5.out.lt hc; omega)
          have HRR := St.hid (rowIs_kept HR3a.out HK5a.out HNR.out)
          obtain ⟨p0, p1, p2, p3⟩ := Rp.rcells HRR.out
          have hrl := (rowIs_kept HR3a.out HK5.out HNR.out).lt
          have hrl2 : r0 < w5.heap.size + 1 := by omega
          go_wp2_with fail
          generalize w5.heap.size = tb at HT5 HNT hrl hrl2 ⊢
          generalize w5.alloc (.cells #[.slice a5 n5 c5, .int .i64 xT.next, .int .i64 xT.fall, .int .i64 xT.wide, .int .i64 xT.high] 26) = W5 at HB5a HG5a HR5a HS5a HK5a HT5 HRR p0 p1 p2 p3 ⊢
          clear HB5 HG5 HR5 HS5 HK5 p0 p1 p2 p3
          have hd := do_from HG5a.out HSK.out.2.2 HB5a.out HFW.out (loadA (S.length : Int))
          have hgd := HSK.out.2.2.do (loadA (S.length : Int))
          rw [do_loadA (s := sk) (by omega) HSK.out.2.1] at hd hgd
          refine Calls.mono hd ?_
          clear hd
          rintro e w6 ⟨aj, cj, an, cn, F6, rfl, -, hG6, hF6, hF6w, -, hk6, hb6⟩
          simp only [no, List.length_nil]
          have HG6 : Hid (Gam w6 F6 b ⟨x, sk.saves, sk.acts + 1⟩) := St.hid hG6
          have HGN6 : Hid (GoodG ⟨x, sk.saves, sk.acts + 1⟩) := St.hid hgd
          have HF6 := St.hid hF6w
          have HB6 := St.hid hb6
          have HR6 := St.hid (HR5a.out.kept hk6 hF6)
          have HS6 := St.hid (Sto.kept HS5a.out hk6 HF5.out)
          have HT6 := St.hid (rowIs_kept HT5.out hk6 HNT.out)
          have HK6 := St.hid (HK5a.out.trans hk6 (fun z hz => HFK.out z hz))
          have HF56 : Hid (∀ z, F5 z → ¬ F6 z) := St.hid (fun z h5 h6 => (hF6 z h6).elim (fun h => HF5.out z h5 h) (fun h => by have := HS5a.out.lt h5; omega))
          have HNT6 : Hid (¬ F6 tb) := St.hid (fun h6 => (hF6 tb h6).elim (fun h => HNT.out h) (fun h => by have := HT5.out.lt; omega))
          clear hG6 hgd hF6 hF6w hb6 hk6 HG5a HR5a HS5a HT5 HK5a HB5a HF5 HNT HRR
          have HW6 := St.hid (rowIs_kept HW3.out HK6.out HNW.out)
          have HSW6 := St.hid (Sto.kept HS3a.out HK6.out HF32.out)
          have HB6a := St.hid (bal HB6.out (.cells #[.int .i64 0, .int .i64 0, .slice aj 0 cj, .slice an 0 cn] 70))
          have HG6a := St.hid (HG6.out.below (bal (Below.refl _ _) (.cells #[.int .i64 0, .int .i64 0, .slice aj 0 cj, .slice an 0 cn] 70)))
          have HR6a := St.hid (HR6.out.below (bal (Below.refl _ _) (.cells #[.int .i64 0, .int .i64 0, .slice aj 0 cj, .slice an 0 cn] 70)))
          have HS6a := St.hid (HS6.out.below (bal (Below.refl _ _) (.cells #[.int .i64 0, .int .i64 0, .slice aj 0 cj, .slice an 0 cn] 70)))
          have HT6a := St.hid (rowIs_below HT6.out (bal (Below.refl _ _) (.cells #[.int .i64 0, .int .i64 0, .slice aj 0 cj, .slice an 0 cn] 70)))
          have HW6a := St.hid (rowIs_below HW6.out (bal (Below.refl _ _) (.cells #[.int .i64 0, .int .i64 0, .slice aj 0 cj, .slice an 0 cn] 70)))
          have HSW6a := St.hid (HSW6.out.below (bal (Below.refl _ _) (.cells #[.int .i64 0, .int .i64 0, .slice aj 0 cj, .slice an 0 cn] 70)))
          have HQ6 := St.hid (Rp.rowIs4 w6 0 0 (.slice aj 0 cj) (.slice an 0 cn) 70)
          obtain ⟨x0, x1, x2, x3, x4, -, -, -, -, -⟩ := wcells HW6a.out
          obtain ⟨q0, q1, q2, q3⟩ := Rp.rcells HQ6.out
          have hwb6 := HW6.out.lt
          have hwb7 : wb < w6.heap.size + 1 := by omega
          go_upto_region 18 with fail
          generalize w6.heap.size = rb at HQ6 q0 q1 q2 q3 hwb6 hwb7 ⊢
          generalize w6.alloc (.cells #[.int .i64 0, .int .i64 0, .slice aj 0 cj, .slice an 0 cn] 70) = W6 at HB6a HG6a HR6a HS6a HT6a HW6a HSW6a HQ6 x0 x1 x2 x3 x4 q0 q1 q2 q3 ⊢
          clear HB6 HG6 HR6 HS6 HT6 HW6 HSW6
          have HWD := St.hid (world_any (HG6a.out.below (Below.drew (Below.refl _ _))))
          have HSWd := St.hid (HSW6a.out.below (Below.drew (Below.refl _ _)))
          go_cut [80] (fun c wx => c = .bool false ∧ ∃ W, W = wx ∧ Below W6.heap.size W6 W)
          case first =>
            go_region_held3 (fun W' => W'.cell? ⟨wb, 0, none⟩ = some (.slice a3 n3 c3) ∧ W'.cell? ⟨wb, 1, none⟩ = some (.int .i64 x.next) ∧ W'.cell? ⟨wb, 2, none⟩ = some (.int .i64 x.fall) ∧ W'.cell? ⟨wb, 3, none⟩ = some (.int .i64 x.wide) ∧ W'.cell? ⟨wb, 4, none⟩ = some (.int .i64 x.high) ∧ W'.cell? ⟨rb, 0, none⟩ = some (.int .i64 0)) (exact ⟨x0, x1, x2, x3, x4, q0⟩)
              (first
              | (go_at_call 28; go_fit HWD.out; rintro e w7 ⟨⟨a7, n7, c7, rfl, F7, hs7, -⟩, hb7⟩; simp only at hs7 ⊢; have HS7 := St.hid hs7; have HS7' := St.hid (HSWd.out.below hb7); have HQB7 := St.hid (bcall (Below.drew (Below.refl _ W6)) hb7); clear hs7 hb7 x0 x1 x2 x3 x4 q0; obtain ⟨x0, x1, x2, x3, x4, -, -, -, -, -⟩ := wcells (rowIs_below HW6a.out HQB7.out); obtain ⟨q0, -, -, -⟩ := Rp.rcells (rowIs_below HQ6.out HQB7.out))
              | (go_at_call 36; go_fit (same_now HGX.out HS7.out HS7'.out); rintro e w8 ⟨rfl, hb8⟩; have HQB8 := St.hid (bcall HQB7.out hb8); clear hb8 x0 x1 x2 x3 x4 q0; obtain ⟨x0, x1, x2, x3, x4, -, -, -, -, -⟩ := wcells (rowIs_below HW6a.out HQB8.out); obtain ⟨q0, -, -, -⟩ := Rp.rcells (rowIs_below HQ6.out HQB8.out)))
            all_goals
              go_wp2_with fail
              go_meet
              exact ⟨rfl, _, rfl, HQB8.out⟩
          case rest =>
          obtain ⟨rfl, W8, rfl, hb8⟩ := hcut
          have HB8 := St.hid (bcall HB6a.out hb8)
          have HG8 := St.hid (HG6a.out.below hb8)
          have HR8 := St.hid (HR6a.out.below hb8)
          have HS8 := St.hid (HS6a.out.below hb8)
          have HT8 := St.hid (rowIs_below HT6a.out hb8)
          clear hb8 x0 x1 x2 x3 x4 q0 q1 q2 q3 HB6a HG6a HR6a HS6a HT6a HW6a HSW6a HQ6 HWD HSWd
          have hac8 : sk.acts + 1 = c0 + 1 + k + 1 := by omega
          generalize sk.acts + 1 = c8 at HG8 HGN6 hac8
          generalize sk.saves = S8 at HG8 HGN6
          clear HSK HNW2 hacs
          go_wp2_with fail
          go_loopw [83] (fun i wr => ∃ (j : Nat) (F : Nat → Prop) (s2 : Gp), j ≤ k ∧ i = .int .i64 j ∧ s2.acts = c8 + j ∧ Hid (s2.now = runW x (more.take j) ∧ GoodG s2) ∧ Hid (Gam wr F b s2) ∧ Hid (∀ z, F z → F6 z ∨ W8.heap.size ≤ z) ∧ Hid (Kept F6 W8 wr)) (fun i _ => k - (intOf i).toNat)
          case atStart => exact ⟨0, F6, _, Nat.zero_le _, rfl, rfl, St.hid ⟨rfl, HGN6.out⟩, HG8, St.hid (fun z hz => Or.inl hz), St.hid (Kept.below (Below.refl _ _))⟩
          case round =>
            clear HG8
            obtain ⟨j, F, s2, hj, rfl, hacs, HSK, HGK, HFK, HKK⟩ := hrel
            have HBK := St.hid (HB8.out.trans (HKK.out.to_below HB8.out.size HF6.out))
            have HFW : Hid (∀ z, F z → w.heap.size ≤ z) := St.hid (fun z hz => (HFK.out z hz).elim (fun h => HF6.out z h) (fun h => by have := HB8.out.size; omega))
            by_cases hlt : j < k
            · have hlt' : (j : Int) < (k : Int) := by omega
              obtain ⟨xa, hxa⟩ : ∃ xa, more[j]? = some xa := ⟨_, List.getElem?_eq_getElem (by have := HM.out; omega)⟩
              obtain ⟨g, off, rfl, hgl, hcs⟩ := HLM.out (by have := HM.out; omega)
              have hgr : g < wr.heap.size := by have := HBK.out.size; omega
              have HXA := St.hid hxa
              have HRA : Hid (wr.rangeAt g (off + j * 17) (actCells xa)) := St.hid (fun i u hi => (HBK.out.cell (p := ⟨g, off + j * 17 + i, none⟩) hgl).trans (hcs j xa hxa i u hi))
              clear hcs hxa
              go_upto_region 22 with fail
              go_cut [19, 18] (fun p q wx => p = .pointer (some ⟨wr.heap.size, 0, none⟩) ∧ q = .int .i64 j ∧ ∃ W, W = wx ∧ AcBox W wr.heap.size xa ∧ Below wr.heap.size wr W)
              case first =>
                go_wp2_with (first | (refine wpList_load_mid rfl 65 _ rfl g (off + j * 17) rfl (actCells xa) _ HRA.out Tryz.underlying65 rfl sizeA ?_) | (refine wpList_store_row rfl 65 _ _ rfl wr.heap.size (actCells xa).toArray rfl rfl 65 _ (heap_alloc_last _ _) sizeA rfl (oneA xa) ?_; rw [World.setRow_alloc_new]))
                go_meet
                exact ⟨rfl, rfl, _, rfl, acBox wr xa, bal (Below.refl _ wr) _⟩
              case rest =>
              obtain ⟨rfl, rfl, W4, rfl, hA4, hB4⟩ := hcut
              have HA4 := St.hid hA4
              have HB4 := St.hid hB4
              clear hA4 hB4
              have hab := HA4.out.lt
              go_upto_region 23 with fail
              go_cut [95] (fun c wx => wx = W4 ∧ ∃ cb : Bool, c = .bool cb ∧ Hid (cb = true ↔ xa.kind = 7 ∨ xa.kind = 8))
              case first =>
                have a0 := HA4.out.at.1
                have h3 : xa.kind = 7 ∨ xa.kind = 8 ∨ (xa.kind ≠ 7 ∧ xa.kind ≠ 8) := by omega
                rcases h3 with h7 | h8 | ⟨h7, h8⟩
                · have b7 : (xa.kind == 7) = true := by simpa using h7
                  go_wp2_with fail
                  go_meet
                  exact ⟨rfl, true, rfl, St.hid (by simp [h7])⟩
                · have b7 : (xa.kind == 7) = false := by simp [h8]
                  have b8 : (xa.kind == 8) = true := by simpa using h8
                  go_wp2_with fail
                  go_meet
                  exact ⟨rfl, true, rfl, St.hid (by simp [h8])⟩
                · have b7 : (xa.kind == 7) = false := by simpa using h7
                  have b8 : (xa.kind == 8) = false := by simpa using h8
                  go_wp2_with fail
                  go_meet
                  exact ⟨rfl, false, rfl, St.hid (by simp [h7, h8])⟩
              case rest =>
              obtain ⟨rfl, cb, rfl, HCB⟩ := hcut
              go_upto_if 95 with fail
              go_cut [19] (fun p wx => p = .pointer (some ⟨wr.heap.size, 0, none⟩) ∧ ∃ W, W = wx ∧ AcBox W wr.heap.size (fixA xa) ∧ Below wr.heap.size wr W)
              case first =>
                have af0 := World.rowIs.frozen HA4.out 0
                have a0 := HA4.out.at.1
                cases cb
                · have hne : ¬ (xa.kind = 7 ∨ xa.kind = 8) := fun h => by have := HCB.out.2 h; cases this
                  go_wp2_with fail
                  go_meet
                  exact ⟨rfl, _, rfl, by unfold fixA; rw [if_neg hne]; exact HA4.out, HB4.out⟩
                · have hye : xa.kind = 7 ∨ xa.kind = 8 := HCB.out.1 rfl
                  go_wp2_with fail
                  go_meet
                  exact ⟨rfl, _, rfl, by unfold fixA; rw [if_pos hye]; exact HA4.out.six, Below.setCell HB4.out (Nat.le_refl _) _⟩
              case rest =>
              obtain ⟨rfl, W5, rfl, hA5, hB5⟩ := hcut
              have HA5 := St.hid hA5
              have HB5 := St.hid hB5
              clear hA5 hB5 HA4 HB4 HCB
              have hab5 := HA5.out.lt
              obtain ⟨r, HRE⟩ : ∃ r, Hid (r = repAt x more j) := ⟨_, rfl⟩
              have HRB := St.hid ((HR8.out.kept HKK.out HFK.out).below HB5.out)
              obtain ⟨gr, cgr, ai', ci', am', cm', hu, hgl', hread⟩ := HRB.out.read (k := j) (r := r) (by rw [HRE.out]; exact repsP_at x more hlt)
              rw [repsP_len] at hu
              subst hu
              have HREAD := St.hid hread
              clear hread
              have hzids : r.ids.length ≤ 10 ∧ r.met.length ≤ 800 := by rw [HRE.out, repAt_eq x HXA.out]; exact rep_len (HGX.out.runW _) _
              obtain ⟨ya, HYA⟩ : ∃ ya, Hid (ya = fixA xa) := ⟨_, rfl⟩
              rw [← HYA.out] at HA5
              have HAN : Hid (¬ F wr.heap.size) := St.hid (fun hc => by have := HGK.out.lt hc; omega)
              have HC : Hid (Calls Tryz.prog 30 #[.pointer (some ⟨b, 0, none⟩), actA ya] W5.drew fun e w6 => ∃ aj cj an cn F7 s7, e = .returned (.agg #[.int .i64 r.code, .int .i64 r.n, .slice aj r.ids.length cj, .slice an r.met.length cn]) ∧ (Rp.IntsR w6 (.slice aj r.ids.length cj) r.ids ∧ Rp.PairsR w6 (.slice an r.met.length cn) r.met) ∧ Gam w6 F7 b s7 ∧ (s7.now = runW x (more.take (j + 1)) ∧ GoodG s7) ∧ s7.acts = c8 + (j + 1) ∧ (∀ z, F7 z → F6 z ∨ W8.heap.size ≤ z) ∧ Kept F6 W8 w6 ∧ Kept F W5 w6 ∧ AcBox w6 wr.heap.size ya) := St.hid (by
                refine (again_do ((HGK.out.below HB5.out).below (Below.drew (Below.refl _ _))) HSK.out.2 (Below.drew (bcall HBK.out HB5.out)) HFW.out HXA.out HSK.out.1 (by omega) ya HYA.out).mono ?_
                rw [← HRE.out]
                rintro e w6 ⟨aj, cj, an, cn, F7, s7, rfl, ⟨h1, h2⟩, ⟨h3, h4, h5, -, h6⟩, h7, -, -, h8, -⟩
                have hk5 : Kept F W5 w6 := (Kept.below (Below.drew (Below.refl _ _))).trans h8 (fun z hz => Or.inl hz)
                exact ⟨aj, cj, an, cn, F7, s7, rfl, ⟨Rp.IntsR.own h1 rfl, Rp.PairsR.own h2 rfl⟩, h3, ⟨h5, h4⟩, by omega, fun z hz => (h7 z hz).elim (fun h => HFK.out z h) (fun h => Or.inr (by have h9 : W5.heap.size ≤ z := h; have := HKK.out.size; have := HB5.out.size; omega)), (HKK.out.call HB5.out).trans hk5 (fun z hz => HFK.out z hz), hk5, HA5.out.kept hk5 HAN.out⟩)
              obtain ⟨a0, a1, a2, a3', a4, a5', a6, a7, a8, a9, a10, a11, a12, a13, a14, a15, a16⟩ := AcBox.at HA5.out
              obtain ⟨y0, y1, y2, y3, -, -⟩ := HREAD.out W5 (Kept.below (Below.refl _ _))
              have hgr5 : gr < W5.heap.size := hgl'
              go_upto_region 25 with fail
              go_cut [105] (fun c wx => c = .bool false ∧ ∃ W F7 s7, W = wx ∧ s7.acts = c8 + (j + 1) ∧ Hid (Gam W F7 b s7) ∧ Hid (s7.now = runW x (more.take (j + 1)) ∧ GoodG s7) ∧ Hid (∀ z, F7 z → F6 z ∨ W8.heap.size ≤ z) ∧ Hid (Kept F6 W8 W))
              case first =>
                go_region_held3 (fun W' => W'.cell? ⟨wr.heap.size, 0, none⟩ = some (.int .i64 ya.kind) ∧ W'.cell? ⟨wr.heap.size, 1, none⟩ = some (.int .i64 ya.id) ∧ W'.cell? ⟨wr.heap.size, 2, none⟩ = some (.int .i64 ya.n) ∧ W'.cell? ⟨wr.heap.size, 3, none⟩ = some (.int .i64 ya.mask) ∧ W'.cell? ⟨wr.heap.size, 4, none⟩ = some (.int .i64 ya.row.x) ∧ W'.cell? ⟨wr.heap.size, 5, none⟩ = some (.int .i64 ya.row.y) ∧ W'.cell? ⟨wr.heap.size, 6, none⟩ = some (.int .i64 ya.row.px) ∧ W'.cell? ⟨wr.heap.size, 7, none⟩ = some (.int .i64 ya.row.py) ∧ W'.cell? ⟨wr.heap.size, 8, none⟩ = some (.int .i64 ya.row.wd) ∧ W'.cell? ⟨wr.heap.size, 9, none⟩ = some (.int .i64 ya.row.ht) ∧ W'.cell? ⟨wr.heap.size, 10, none⟩ = some (.int .i64 ya.row.ms) ∧ W'.cell? ⟨wr.heap.size, 11, none⟩ = some (.int .i64 ya.row.rr) ∧ W'.cell? ⟨wr.heap.size, 12, none⟩ = some (.int .i64 ya.box.id) ∧ W'.cell? ⟨wr.heap.size, 13, none⟩ = some (.int .i64 ya.box.x1) ∧ W'.cell? ⟨wr.heap.size, 14, none⟩ = some (.int .i64 ya.box.y1) ∧ W'.cell? ⟨wr.heap.size, 15, none⟩ = some (.int .i64 ya.box.x2) ∧ W'.cell? ⟨wr.heap.size, 16, none⟩ = some (.int .i64 ya.box.y2) ∧ W'.cell? ⟨gr, j * 4, none⟩ = some (.int .i64 r.code) ∧ W'.cell? ⟨gr, j * 4 + 1, none⟩ = some (.int .i64 r.n) ∧ W'.cell? ⟨gr, j * 4 + 2, none⟩ = some (.slice ai' r.ids.length ci') ∧ W'.cell? ⟨gr, j * 4 + 3, none⟩ = some (.slice am' r.met.length cm')) (exact ⟨a0, a1, a2, a3', a4, a5', a6, a7, a8, a9, a10, a11, a12, a13, a14, a15, a16, y0, y1, y2, y3⟩)
                  (first
                  | (go_at_call 30; go_fit HC.out; rintro e w6 ⟨aj, cj, an, cn, F7, s7, rfl, ⟨h1, h2⟩, h3, h4, h5, h6, h7, h8, h9⟩; have HI6 := St.hid h1; have HP6 := St.hid h2; have HG6 := St.hid h3; have HS6 := St.hid h4; have HF7 := St.hid h6; have HK7 := St.hid h7; have HK8 := St.hid h8; have HA6 := St.hid h9; clear h1 h2 h3 h4 h6 h7 h8 h9 a0 a1 a2 a3' a4 a5' a6 a7 a8 a9 a10 a11 a12 a13 a14 a15 a16 y0 y1 y2 y3; obtain ⟨a0, a1, a2, a3', a4, a5', a6, a7, a8, a9, a10, a11, a12, a13, a14, a15, a16⟩ := AcBox.at HA6.out; obtain ⟨y0, y1, y2, y3, hJ, hL⟩ := HREAD.out w6 HK8.out; have HSR := St.hid (same_rep r hzids.1 hzids.2 HI6.out HP6.out hJ hL); clear hJ hL)
                  | (go_at_call 37; go_fit HSR.out; rintro e w7 ⟨rfl, hb7⟩; have HG7 := St.hid (HG6.out.below hb7); have HK9 := St.hid (HK7.out.call hb7); have HA7 := St.hid (HA6.out.below hb7); have HK10 := St.hid (HK8.out.call hb7); clear hb7 a0 a1 a2 a3' a4 a5' a6 a7 a8 a9 a10 a11 a12 a13 a14 a15 a16 y0 y1 y2 y3; obtain ⟨a0, a1, a2, a3', a4, a5', a6, a7, a8, a9, a10, a11, a12, a13, a14, a15, a16⟩ := AcBox.at HA7.out; obtain ⟨y0, y1, y2, y3, -, -⟩ := HREAD.out w7 HK10.out))
                all_goals
                  go_wp2_with fail
                  go_meet
                  exact ⟨rfl, _, F7, s7, rfl, h5, HG7, HS6, HF7, HK9⟩
              case rest =>
              obtain ⟨rfl, W7, F7, s7, rfl, hac7, HG7, HS7, HF7, HK7⟩ := hcut
              go_wp2_with fail
              go_roundw
              case rel => exact ⟨j + 1, F7, s7, by omega, by go_num, hac7, HS7, HG7, HF7, HK7⟩
              case measure => simp [intOf]; omega
            · have hje : j = k := by omega
              subst hje
              have HT9 := St.hid (rowIs_kept HT8.out HKK.out HNT6.out)
              have HS9 := St.hid ((Sto.kept HS8.out HKK.out HF56.out).below (Below.drew (Below.refl _ _)))
              have HNOW : Hid (s2.now = xT) := St.hid (by rw [HSK.out.1, HXT.out, List.take_of_length_le (by have := HM.out; omega)])
              have HWD := world_any (HGK.out.below (Below.drew (Below.refl _ _)))
              rw [HNOW.out] at HWD
              have HWE := St.hid HWD
              clear HWD
              obtain ⟨x0, x1, x2, x3, x4, -, -, -, -, -⟩ := wcells HT9.out
              go_upto_region 28 with fail
              go_region_held3 (fun W' => W'.cell? ⟨tb, 0, none⟩ = some (.slice a5 n5 c5) ∧ W'.cell? ⟨tb, 1, none⟩ = some (.int .i64 xT.next) ∧ W'.cell? ⟨tb, 2, none⟩ = some (.int .i64 xT.fall) ∧ W'.cell? ⟨tb, 3, none⟩ = some (.int .i64 xT.wide) ∧ W'.cell? ⟨tb, 4, none⟩ = some (.int .i64 xT.high)) (exact ⟨x0, x1, x2, x3, x4⟩)
                (first
                | (go_at_call 28; go_fit HWE.out; rintro e w7 ⟨⟨a7, n7, c7, rfl, F7, hs7, -⟩, hb7⟩; have HS7 := St.hid hs7; have HS7' := St.hid (HS9.out.below hb7); have HT7 := St.hid (rowIs_below (rowIs_below HT9.out (Below.drew (Below.refl _ _))) hb7); have HB7 := St.hid (bcall (Below.drew HBK.out) hb7); clear hs7 hb7 x0 x1 x2 x3 x4; obtain ⟨x0, x1, x2, x3, x4, -, -, -, -, -⟩ := wcells HT7.out)
                | (go_at_call 36; go_fit (same_now HGT.out HS7.out HS7'.out); rintro e w8 ⟨rfl, hb8⟩; have HT10 := St.hid (rowIs_below HT7.out hb8); have HB10 := St.hid (bcall HB7.out hb8); clear hb8 x0 x1 x2 x3 x4; obtain ⟨x0, x1, x2, x3, x4, -, -, -, -, -⟩ := wcells HT10.out))
              all_goals
                go_wp2_with fail
                go_ret
                exact ⟨rfl, HB10.out⟩
end Go.Proofs.YtckkkdldljhehabGreat.Gm
