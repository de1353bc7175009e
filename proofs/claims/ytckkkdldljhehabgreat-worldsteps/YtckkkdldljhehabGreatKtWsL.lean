/- What WorldSteps of package ninepinslaw answers when called over any world in memory: true; nothing that was in memory before has changed. -/
import Derived.Test.YtckkkdldljhehabGreatKtWsT
import Derived.Test.YtckkkdldljhehabGreatKtWsU
import Derived.Test.YtckkkdldljhehabGreatKtWsB
import Derived.Test.YtckkkdldljhehabGreatKtWsW
import Derived.Deep.RegionHeld3
namespace Go.Proofs.YtckkkdldljhehabGreat.Ws
open Go.Proofs.YtckkkdldljhehabGreat.Num Go.Proofs.YtckkkdldljhehabGreat.St Go.Proofs.YtckkkdldljhehabGreat.Mp Go.Proofs.YtckkkdldljhehabGreat.Th Go.Proofs.YtckkkdldljhehabGreat.Wd
open Go.ChangeShapes Go.WideShapes Go.ChangeAt Go.RowKit

theorem neqBox (a : Sw.B5) (w : World) : (binOp .neq 45 (.agg #[.int .i64 a.id, .int .i64 a.x1, .int .i64 a.y1, .int .i64 a.x2, .int .i64 a.y2]) (.agg #[.int .i64 a.id, .int .i64 a.x1, .int .i64 a.y1, .int .i64 a.x2, .int .i64 a.y2])).run Tryz.prog w = .ok (.bool false) w := by
  have h1 : Tryz.prog.underlying 45 = some (.struct (Tryz.prog.fieldsOf 45)) := by kernel_rfl
  have h2 : Tryz.prog.stoodInHeld 45 = false := by kernel_rfl
  rw [run_neq_struct, show (10000 : Nat) = 9999 + 1 from rfl, run_equalIn_struct w 9999 45 _ _ h1 h2]
  simp [go_sem, Tryz.underlying45, Tryz.underlying3]
attribute [local go_sem ↓] Go.wp_at_zero Go.wp_at_succ
set_option maxHeartbeats 8000000 in
set_option maxRecDepth 100000 in
theorem worldSteps_any (a : Option Addr) (n cap : Nat) (next fall wide high : Int) (T : Nat → TabV) (I : Nat → Nat → Int) (R : Nat → Nat → R8) (w : World) (h : StoreIn w a n T I R) :
    Calls Tryz.prog 3 #[.agg #[.slice a n cap, .int .i64 next, .int .i64 fall, .int .i64 wide, .int .i64 high]] w fun e w' => e = .returned (.bool true) ∧ Below w.heap.size w w' := by
  have HST := St.hid (Sto.of_in cap h)
  obtain ⟨L, HL⟩ : ∃ L, Hid (L = plainOf T I R n) := ⟨_, rfl⟩
  rw [← HL.out] at HST
  generalize hFF : (fun b => b < w.heap.size) = F at HST
  have hX0 := St.hid ((rowIs5 w (.slice a n cap) next fall wide high 26).alloc (.cells #[.slice a n cap, .int .i64 next, .int .i64 fall, .int .i64 wide, .int .i64 high] 26))
  have hC0 := St.hid (rowIs5 (w.alloc (.cells #[.slice a n cap, .int .i64 next, .int .i64 fall, .int .i64 wide, .int .i64 high] 26)) (.slice a n cap) next fall wide high 26)
  rw [World.size_alloc] at hC0
  clear h hFF
  go_enter Tryz.func3, Tryz.ntmps3
  go_wp2_with fail
  refine (copied_sto (HST.out.below (bal (bal (Below.refl _ _) _) _)) next).mono ?_
  rintro e w1 ⟨⟨a1, n1, c1, rfl, F1, hs1, hF1⟩, hb1⟩
  have hX1 := St.hid (rowIs_below hX0.out hb1)
  have hC1 := St.hid (rowIs_below hC0.out hb1)
  have HB1 := St.hid (bcall (bal (bal (Below.refl _ w) _) _) hb1)
  have HS1 := St.hid hs1
  have HT1 := St.hid ((HST.out.below (bal (bal (Below.refl _ _) _) _)).below hb1)
  have hz1 := hb1.size
  simp only [World.size_alloc] at hz1
  have HF1 : Hid (∀ b, F1 b → w.heap.size + 1 + 1 ≤ b) := St.hid (fun b hb => by have := hF1 b hb; simpa only [World.size_alloc] using this)
  have HFF : Hid (∀ b, F b → b < w.heap.size) := St.hid (fun b hb => HST.out.lt hb)
  clear hb1 hs1 hF1 hX0 hC0
  obtain ⟨x0, x1, x2, x3, x4, xf0, xf1, xf2, xf3, xf4⟩ := wcells hC1.out
  obtain ⟨y0, y1, y2, y3, y4, -, -, -, -, -⟩ := wcells hX1.out
  have hg1 : w1.grownBy ((w1.setCell ⟨w.heap.size + 1, 0, none⟩ (.slice a1 n1 c1)).setCell ⟨w.heap.size + 1, 1, none⟩ (.int .i64 next)) (some (w.heap.size + 1)) := (grown_set _ _ _ _).trans (grown_set _ _ _ _)
  have hC2 := set_world hC1.out (.slice a1 n1 c1)
  go_upto_region 3 with fail
  generalize (w1.setCell ⟨w.heap.size + 1, 0, none⟩ (.slice a1 n1 c1)).setCell ⟨w.heap.size + 1, 1, none⟩ (.int .i64 next) = V at hg1 hC2 ⊢
  have hX2 := St.hid (rowIs_grown hX1.out hg1 (by simp))
  have hC2 := St.hid hC2
  have HS2 := St.hid (grown_keep HS1.out hg1 (fun hc => by have := HF1.out _ hc; omega))
  have HT2 := St.hid (grown_keep HT1.out hg1 (fun hc => by have := HFF.out _ hc; omega))
  have HB2 := St.hid (below_grown HB1.out hg1 (by have := HB1.out.size; omega) (by omega))
  have hzV := hg1.size
  have hzw : w.heap.size < V.heap.size := by omega
  clear hg1 hX1 hC1 HS1 HT1 HB1 x0 x1 x2 x3 x4 xf0 xf1 xf2 xf3 xf4 y0 y1 y2 y3 y4
  obtain ⟨x0, x1, x2, x3, x4, -, -, -, -, -⟩ := wcells hX2.out
  go_wp2_with fail
  refine (worldOf_any next fall wide high HT2.out).mono ?_
  rintro e w3 ⟨hout, hb3⟩
  have hX3 := St.hid (rowIs_below hX2.out hb3)
  have hC3 := St.hid (rowIs_below hC2.out hb3)
  have HS3 := St.hid (HS2.out.below hb3)
  have HT3 := St.hid (HT2.out.below hb3)
  have HB3 := St.hid (bcall HB2.out hb3)
  have hz3 := hb3.size
  have hzw3 : w.heap.size + 1 < w3.heap.size := by omega
  clear hb3 hX2 hC2 HS2 HT2 HB2 x0 x1 x2 x3 x4
  rcases hout with ⟨hgw, b, rfl, hbb, hm⟩ | ⟨hgw, ux, rfl⟩
  · have HGW := St.hid hgw
    have HM3 := St.hid hm
    have HBB := St.hid hbb
    have hWS := with_self hgw.1
    have HRO := St.hid (rows_ok hgw.1)
    have HGO := St.hid (step_good hgw.1 fall wide high)
    clear hgw hm hbb
    obtain ⟨x0, x1, x2, x3, x4, -, -, -, -, -⟩ := wcells hC3.out
    go_wp2_with fail
    refine (step_any next fall wide high (HS3.out.below (bal (Below.refl _ _) _))).mono ?_
    rintro e w4 ⟨⟨a4, n4, c4, u4, ec, rfl, hout⟩, hb4⟩
    rcases hout with ⟨hg, _⟩ | ⟨_, rfl, ⟨F4, hs4, hF4⟩, hu4⟩
    · exact absurd HGW.out hg
    have hY4 := St.hid (rowIs_below (rowIs5 w3 (.map (some b)) next fall wide high 31) hb4)
    have hX4 := St.hid (rowIs_below (rowIs_below hX3.out (bal (Below.refl _ _) _)) hb4)
    have hC4 := St.hid (rowIs_below (rowIs_below hC3.out (bal (Below.refl _ _) _)) hb4)
    have HS4 := St.hid ((HS3.out.below (bal (Below.refl _ _) _)).below hb4)
    have HT4 := St.hid ((HT3.out.below (bal (Below.refl _ _) _)).below hb4)
    have HM4 := St.hid ((HM3.out.below (bal (Below.refl _ _) _)).below hb4)
    have HA4 := St.hid hs4
    have HU4 := St.hid (Rp.PairsR.own hu4 rfl)
    have HUZ : Hid ((Wd.stepG L fall wide high).2.length ≤ 1000000000000) := St.hid (by
      have h1 := met_len (mk L) (Sw.pairsG (boxG L (goOnG (mk L) fall (idsOf 11 L) (rw0 L)))) (goOnG (mk L) fall (idsOf 11 L) (rw0 L))
      have h2 := pairs_len (boxG L (goOnG (mk L) fall (idsOf 11 L) (rw0 L))) (by simp only [boxG, List.length_map]; exact ids_len HGW.out.1)
      have h3 : (Wd.stepG L fall wide high).2 = (meetG (mk L) (Sw.pairsG (boxG L (goOnG (mk L) fall (idsOf 11 L) (rw0 L)))) (goOnG (mk L) fall (idsOf 11 L) (rw0 L))).2 := rfl
      rw [h3]
      omega)
    have HB4 := St.hid (bcall (bal HB3.out _) hb4)
    have hz4 := hb4.size
    simp only [World.size_alloc] at hz4
    clear hb4 hs4 hF4 hu4 hX3 hC3 HS3 HT3 HB3 HM3 x0 x1 x2 x3 x4
    have hA := bal (Below.refl _ w4) (.cells #[.slice a4 n4 c4, .int .i64 next, .int .i64 fall, .int .i64 wide, .int .i64 high] 26)
    have hX5 := St.hid (rowIs_below hX4.out hA)
    have hC5 := St.hid (rowIs_below hC4.out hA)
    have hY5 := St.hid (rowIs_below hY4.out hA)
    have hA5 := St.hid (rowIs5 w4 (.slice a4 n4 c4) next fall wide high 26)
    have HS5 := St.hid (HS4.out.below hA)
    have HT5 := St.hid (HT4.out.below hA)
    have HA5 := St.hid (HA4.out.below hA)
    have HM5 := St.hid (HM4.out.below hA)
    have HU5 := St.hid (HU4.out.below hA)
    have HB5 := St.hid (bal HB4.out (.cells #[.slice a4 n4 c4, .int .i64 next, .int .i64 fall, .int .i64 wide, .int .i64 high] 26))
    have hz5 : w4.heap.size < (w4.alloc (.cells #[.slice a4 n4 c4, .int .i64 next, .int .i64 fall, .int .i64 wide, .int .i64 high] 26)).heap.size := by simp
    go_upto_region 5 with fail
    generalize w4.alloc (.cells #[.slice a4 n4 c4, .int .i64 next, .int .i64 fall, .int .i64 wide, .int .i64 high] 26) = V5 at hA hX5 hC5 hY5 hA5 HS5 HT5 HA5 HM5 HU5 HB5 hz5 ⊢
    clear hA hX4 hC4 hY4 HS4 HT4 HA4 HB4 HM4 HU4
    obtain ⟨x0, x1, x2, x3, x4, -, -, -, -, -⟩ := wcells hC5.out
    go_wp2_with fail
    refine (wgood_any next fall wide high HS5.out).mono ?_
    rintro e w6 ⟨⟨g, rfl, hg⟩, hb6⟩
    obtain rfl : g = true := hg.2 HGW.out
    have HB6 := St.hid (bcall HB5.out hb6)
    have HK6 := St.hid hb6
    clear hb6 hg x0 x1 x2 x3 x4
    obtain ⟨x0, x1, x2, x3, x4, -, -, -, -, -⟩ := wcells (rowIs_below hC5.out HK6.out)
    obtain ⟨y0, y1, y2, y3, y4, -, -, -, -, -⟩ := wcells (rowIs_below hX5.out HK6.out)
    go_wp2_with fail
    refine (same_sto (HS5.out.below HK6.out) (HT5.out.below HK6.out) next).mono ?_
    rintro e w7 ⟨rfl, hb7⟩
    have HB7 := St.hid (bcall HB6.out hb7)
    have HK7 := St.hid (bcall HK6.out hb7)
    clear hb7 x0 x1 x2 x3 x4 y0 y1 y2 y3 y4
    go_wp2_with fail
    refine (lworlds_any _).mono ?_
    rintro e w8 ⟨rfl, hb8⟩
    have HB8 := St.hid (bcall HB7.out hb8)
    have HK8 := St.hid (bcall HK7.out hb8)
    clear hb8
    obtain ⟨x0, x1, -, -, -, -, -, -, -, -⟩ := wcells (rowIs_below hC5.out HK8.out)
    obtain ⟨y0, y1, y2, y3, y4, -, -, -, -, -⟩ := rcells (rowIs_below hY5.out HK8.out)
    have hzc : w.heap.size + 1 < w8.heap.size := by have := HK8.out.size; omega
    have hzy : w3.heap.size < w8.heap.size := by have := HK8.out.size; omega
    have HBX : Hid (∀ W, Below w8.heap.size w8 W → Calls Tryz.prog 17 #[.agg #[.slice a1 n1 c1, .int .i64 next]] W fun e w' => (∃ u, e = .returned u ∧ w'.ownsRow W.heap.size 45 5 u (boxG L (rw0 L)).length ((boxG L (rw0 L)).flatMap Sw.boxCells)) ∧ Below W.heap.size W w') := St.hid (fun W hb => by
      have h1 := (HS5.out.below (bcall HK8.out hb))
      rw [← hWS] at h1
      exact boxes_any next h1 HGW.out.1 HRO.out)
    have HBY : Hid (∀ W, Below w8.heap.size w8 W → Calls Tryz.prog 18 #[.agg #[.map (some b), .int .i64 next, .int .i64 fall, .int .i64 wide, .int .i64 high]] W fun e w' => (∃ u, e = .returned u ∧ w'.ownsRow W.heap.size 45 5 u (boxG L (rw0 L)).length ((boxG L (rw0 L)).flatMap Sw.boxCells)) ∧ Below W.heap.size W w') := St.hid (fun W hb => by
      have h1 := (HM5.out.below (bcall HK8.out hb))
      rw [← hWS] at h1
      exact boxesOf_any b next fall wide high h1 HGW.out.1 HRO.out)
    obtain ⟨nb, hnb⟩ : ∃ k, k = (boxG L (rw0 L)).length := ⟨_, rfl⟩
    have hnb10 : nb ≤ 10 := by rw [hnb]; simp only [boxG, List.length_map]; exact ids_len HGW.out.1
    rw [← hnb] at HBX HBY
    have HNB := St.hid hnb
    clear hWS hnb
    go_wp2_with fail
    go_cut [9, 10] (fun s9 s10 wx => ∃ W' ap cp aq cq, W' = wx ∧ s9 = .slice ap nb cp ∧ s10 = .slice aq nb cq ∧ Sw.BoxL W' ap (boxG L (rw0 L)) ∧ Sw.BoxL W' aq (boxG L (rw0 L)) ∧ Below w8.heap.size w8 W')
    case first =>
      go_region_held3 (fun W' => W'.cell? ⟨w.heap.size + 1, 0, none⟩ = some (.slice a1 n1 c1) ∧ W'.cell? ⟨w.heap.size + 1, 1, none⟩ = some (.int .i64 next) ∧ W'.cell? ⟨w3.heap.size, 0, none⟩ = some (.map (some b)) ∧ W'.cell? ⟨w3.heap.size, 1, none⟩ = some (.int .i64 next) ∧ W'.cell? ⟨w3.heap.size, 2, none⟩ = some (.int .i64 fall) ∧ W'.cell? ⟨w3.heap.size, 3, none⟩ = some (.int .i64 wide) ∧ W'.cell? ⟨w3.heap.size, 4, none⟩ = some (.int .i64 high)) (exact ⟨x0, x1, y0, y1, y2, y3, y4⟩)
        (first
        | (go_at_call 17; go_fit (HBX.out _ (Below.drew (Below.refl _ w8))); rintro e wa ⟨⟨u9, rfl, ho⟩, hba⟩; obtain ⟨ap, cp, rfl, -⟩ := Sw.owns_slice ho; have HP1 := St.hid (boxL_of ho HNB.out); have HQ1 := St.hid (bcall (Below.drew (Below.refl _ w8)) hba); clear ho hba x0 x1 y0 y1 y2 y3 y4; obtain ⟨x0, x1, -, -, -, -, -, -, -, -⟩ := wcells (rowIs_below hC5.out (bcall HK8.out HQ1.out)); obtain ⟨y0, y1, y2, y3, y4, -, -, -, -, -⟩ := rcells (rowIs_below hY5.out (bcall HK8.out HQ1.out)))
        | (go_at_call 18; go_fit (HBY.out _ HQ1.out); rintro e wb ⟨⟨u10, rfl, ho⟩, hbb⟩; obtain ⟨aq, cq, rfl, -⟩ := Sw.owns_slice ho; have HP2 := St.hid (boxL_of ho HNB.out); have HQ2 := St.hid (bcall HQ1.out hbb); have HP1 := St.hid (Sw.BoxL.below' HP1.out hbb); clear ho hbb x0 x1 y0 y1 y2 y3 y4; obtain ⟨x0, x1, -, -, -, -, -, -, -, -⟩ := wcells (rowIs_below hC5.out (bcall HK8.out HQ2.out)); obtain ⟨y0, y1, y2, y3, y4, -, -, -, -, -⟩ := rcells (rowIs_below hY5.out (bcall HK8.out HQ2.out))))
      all_goals
        go_wp2_with fail
        go_meet
        exact ⟨_, ap, cp, aq, cq, rfl, rfl, rfl, HP1.out, HP2.out, HQ2.out⟩
    case rest =>
    obtain ⟨w9, ap, cp, aq, cq, rfl, rfl, rfl, hp1, hp2, hb9⟩ := hcut
    have HP1 := St.hid hp1
    have HP2 := St.hid hp2
    have HK9 := St.hid (bcall HK8.out hb9)
    have HB9 := St.hid (bcall HB8.out hb9)
    clear hp1 hp2 hb9 x0 x1 y0 y1 y2 y3 y4 HBX HBY HK6 HK7 HB6 HB7
    have hneq := neqBox
    go_wp2_with fail
    go_loopw [97] (fun i wr => ∃ k : Nat, k ≤ nb ∧ i = .int .i64 k ∧ Hid (Below w9.heap.size w9 wr)) (fun i _ => nb - (intOf i).toNat)
    case atStart => exact ⟨0, Nat.zero_le _, rfl, St.hid (Below.refl _ _)⟩
    case round =>
      obtain ⟨k, hk, rfl, hB⟩ := hrel
      by_cases hlt : k < nb
      · have hlt' : (k : Int) < (nb : Int) := by omega
        obtain ⟨x, hx⟩ : ∃ x, (boxG L (rw0 L))[k]? = some x := ⟨_, List.getElem?_eq_getElem (by have := HNB.out; omega)⟩
        obtain ⟨b1, o1, rfl, hz1, hc1⟩ := (Sw.BoxL.below' HP1.out hB.out) (by have := HNB.out; omega)
        obtain ⟨b2, o2, rfl, hz2, hc2⟩ := (Sw.BoxL.below' HP2.out hB.out) (by have := HNB.out; omega)
        obtain ⟨d0, d1, d2, d3, d4⟩ := hc1 k x hx
        obtain ⟨f0, f1, f2, f3, f4⟩ := hc2 k x hx
        clear hc1 hc2 hx
        go_wp2_with fail
        go_quiet (fail)
        go_wp2_with fail
        go_roundw
        case rel => exact ⟨k + 1, by omega, by go_num, St.hid (bdrewN hB.out _)⟩
        case measure => simp [intOf]; omega
      · have HB10 := St.hid (bcall HB9.out hB.out)
        have HK10 := St.hid (bcall HK9.out hB.out)
        clear hB HB9 HK9 HP1 HP2
        obtain ⟨y0, y1, y2, y3, y4, -, -, -, -, -⟩ := rcells (rowIs_below hY5.out HK10.out)
        have hzy : w3.heap.size < wr.heap.size := by have := HK10.out.size; omega
        go_wp2_with fail
        refine (stepOf_any b next fall wide high (HM5.out.below HK10.out) HGW.out.1 HGW.out.2.1 HGW.out.2.2.1 HGW.out.2.2.2).mono ?_
        rintro e w11 ⟨⟨c11, u11, rfl, hc11, hm11, ho11⟩, hb11⟩
        have HM11 := St.hid hm11
        have HU11 := St.hid (Rp.PairsR.own ho11 rfl)
        have HB11 := St.hid (bcall HB10.out hb11)
        have HK11 := St.hid (bcall HK10.out hb11)
        clear hb11 hm11 ho11 y0 y1 y2 y3 y4
        have hA := bal (Below.refl _ w11) (.cells #[.map (some c11), .int .i64 next, .int .i64 fall, .int .i64 wide, .int .i64 high] 31)
        have hY12 := St.hid (rowIs5 w11 (.map (some c11)) next fall wide high 31)
        have HM12 := St.hid (HM11.out.below hA)
        have HU12 := St.hid (HU11.out.below hA)
        have HB12 := St.hid (bcall HB11.out hA)
        have HK12 := St.hid (bcall HK11.out hA)
        have hz12 : w11.heap.size < (w11.alloc (.cells #[.map (some c11), .int .i64 next, .int .i64 fall, .int .i64 wide, .int .i64 high] 31)).heap.size := by simp
        go_upto_region 19 with fail
        generalize w11.alloc (.cells #[.map (some c11), .int .i64 next, .int .i64 fall, .int .i64 wide, .int .i64 high] 31) = V12 at hA hY12 HM12 HU12 HB12 HK12 hz12 ⊢
        clear hA HM11 HU11 HB11 HK11
        obtain ⟨x0, x1, x2, x3, x4, -, -, -, -, -⟩ := wcells (rowIs_below hA5.out HK12.out)
        have hzx : w4.heap.size < V12.heap.size := by have := HK12.out.size; omega
        go_wp2_with fail
        refine (worldOf_any next fall wide high (HA5.out.below HK12.out)).mono ?_
        rintro e w13 ⟨hout, hb13⟩
        rcases hout with ⟨_, b13, rfl, hbb13, hm13⟩ | ⟨hg, _⟩
        rotate_left
        · exact absurd ⟨HGO.out, HGW.out.2⟩ hg
        have HM13 := St.hid hm13
        have hY13 := St.hid (rowIs_below hY12.out hb13)
        have HM12b := St.hid (HM12.out.below hb13)
        have HU13 := St.hid (HU12.out.below hb13)
        have HB13 := St.hid (bcall HB12.out hb13)
        have HK13 := St.hid (bcall HK12.out hb13)
        have hz13 := hb13.size
        clear hb13 hm13 hY12 HM12 HU12 x0 x1 x2 x3 x4
        have hA := bal (Below.refl _ w13) (.cells #[.map (some b13), .int .i64 next, .int .i64 fall, .int .i64 wide, .int .i64 high] 31)
        have hY14 := St.hid (rowIs_below hY13.out hA)
        have hZ14 := St.hid (rowIs5 w13 (.map (some b13)) next fall wide high 31)
        have HM14 := St.hid (HM12b.out.below hA)
        have HN14 := St.hid (HM13.out.below hA)
        have HU14 := St.hid (HU13.out.below hA)
        have HV14 := St.hid (HU5.out.below (bcall HK13.out hA))
        have HB14 := St.hid (bcall HB13.out hA)
        have hz14 : w13.heap.size < (w13.alloc (.cells #[.map (some b13), .int .i64 next, .int .i64 fall, .int .i64 wide, .int .i64 high] 31)).heap.size := by simp
        go_upto_region 20 with fail
        generalize w13.alloc (.cells #[.map (some b13), .int .i64 next, .int .i64 fall, .int .i64 wide, .int .i64 high] 31) = V14 at hA hY14 hZ14 HM14 HN14 HU14 HV14 HB14 hz14 ⊢
        clear hA hY13 HM12b HM13 HU13 HB13 HK13
        obtain ⟨x0, x1, x2, x3, x4, -, -, -, -, -⟩ := rcells hY14.out
        obtain ⟨y0, y1, y2, y3, y4, -, -, -, -, -⟩ := rcells hZ14.out
        go_wp2_with fail
        refine (sameWorld_any c11 b13 _ next fall wide high V14 HM14.out HN14.out).mono ?_
        rintro e w15 ⟨rfl, hb15⟩
        have HB15 := St.hid (bcall HB14.out hb15)
        have HSP := St.hid (samePairs_any u4 u11 _ _ w15 (HV14.out.below hb15) (HU14.out.below hb15) HUZ.out)
        clear hb15 x0 x1 x2 x3 x4 y0 y1 y2 y3 y4
        go_wp2_with fail
        refine HSP.out.mono ?_
        rintro e w16 ⟨rfl, hb16⟩
        have HB16 := St.hid (bcall HB15.out hb16)
        clear hb16
        go_wp2_with fail
        go_ret
        exact ⟨by simp, HB16.out⟩
  · have HGW := St.hid hgw
    clear hgw
    obtain ⟨x0, x1, x2, x3, x4, -, -, -, -, -⟩ := wcells hC3.out
    go_wp2_with fail
    refine (step_any next fall wide high (HS3.out.below (bal (Below.refl _ _) _))).mono ?_
    rintro e w4 ⟨⟨a4, n4, c4, u4, ec, rfl, hout⟩, hb4⟩
    rcases hout with ⟨_, rfl, rfl, F4, hs4, hF4⟩ | ⟨hg, _⟩
    rotate_left
    · exact absurd hg HGW.out
    have hX4 := St.hid (rowIs_below (rowIs_below hX3.out (bal (Below.refl _ _) _)) hb4)
    have hC4 := St.hid (rowIs_below (rowIs_below hC3.out (bal (Below.refl _ _) _)) hb4)
    have HS4 := St.hid ((HS3.out.below (bal (Below.refl _ _) _)).below hb4)
    have HT4 := St.hid ((HT3.out.below (bal (Below.refl _ _) _)).below hb4)
    have HA4 := St.hid hs4
    have HB4 := St.hid (bcall (bal HB3.out _) hb4)
    clear hb4 hs4 hF4 hX3 hC3 HS3 HT3 HB3 x0 x1 x2 x3 x4
    have hX5 := St.hid (rowIs_below hX4.out (bal (Below.refl _ w4) (.cells #[.slice a4 n4 c4, .int .i64 next, .int .i64 fall, .int .i64 wide, .int .i64 high] 26)))
    have hC5 := St.hid (rowIs_below hC4.out (bal (Below.refl _ w4) (.cells #[.slice a4 n4 c4, .int .i64 next, .int .i64 fall, .int .i64 wide, .int .i64 high] 26)))
    have hA5 := St.hid (rowIs5 w4 (.slice a4 n4 c4) next fall wide high 26)
    have HS5 := St.hid (HS4.out.below (bal (Below.refl _ w4) (.cells #[.slice a4 n4 c4, .int .i64 next, .int .i64 fall, .int .i64 wide, .int .i64 high] 26)))
    have HT5 := St.hid (HT4.out.below (bal (Below.refl _ w4) (.cells #[.slice a4 n4 c4, .int .i64 next, .int .i64 fall, .int .i64 wide, .int .i64 high] 26)))
    have HA5 := St.hid (HA4.out.below (bal (Below.refl _ w4) (.cells #[.slice a4 n4 c4, .int .i64 next, .int .i64 fall, .int .i64 wide, .int .i64 high] 26)))
    have HB5 := St.hid (bal HB4.out (.cells #[.slice a4 n4 c4, .int .i64 next, .int .i64 fall, .int .i64 wide, .int .i64 high] 26))
    have hz5 : w4.heap.size < (w4.alloc (.cells #[.slice a4 n4 c4, .int .i64 next, .int .i64 fall, .int .i64 wide, .int .i64 high] 26)).heap.size := by simp
    go_upto_region 5 with fail
    generalize w4.alloc (.cells #[.slice a4 n4 c4, .int .i64 next, .int .i64 fall, .int .i64 wide, .int .i64 high] 26) = V5 at hX5 hC5 hA5 HS5 HT5 HA5 HB5 hz5 ⊢
    clear hX4 hC4 HS4 HT4 HA4 HB4
    obtain ⟨x0, x1, x2, x3, x4, -, -, -, -, -⟩ := wcells hC5.out
    go_wp2_with fail
    refine (wgood_any next fall wide high HS5.out).mono ?_
    rintro e w6 ⟨⟨g, rfl, hg⟩, hb6⟩
    obtain rfl : g = false := by cases g with | false => rfl | true => exact absurd (hg.1 rfl) HGW.out
    have HB6 := St.hid (bcall HB5.out hb6)
    have HK6 := St.hid hb6
    clear hb6 hg x0 x1 x2 x3 x4
    obtain ⟨x0, x1, x2, x3, x4, -, -, -, -, -⟩ := wcells (rowIs_below hC5.out HK6.out)
    obtain ⟨y0, y1, y2, y3, y4, -, -, -, -, -⟩ := wcells (rowIs_below hX5.out HK6.out)
    go_wp2_with fail
    refine (same_sto (HS5.out.below HK6.out) (HT5.out.below HK6.out) next).mono ?_
    rintro e w7 ⟨rfl, hb7⟩
    have HB7 := St.hid (bcall HB6.out hb7)
    have HK7 := St.hid (bcall HK6.out hb7)
    clear hb7 x0 x1 x2 x3 x4 y0 y1 y2 y3 y4
    go_wp2_with fail
    refine (lworlds_any _).mono ?_
    rintro e w8 ⟨rfl, hb8⟩
    have HB8 := St.hid (bcall HB7.out hb8)
    have HK8 := St.hid (bcall HK7.out hb8)
    clear hb8
    obtain ⟨x0, x1, x2, x3, x4, -, -, -, -, -⟩ := wcells (rowIs_below hX5.out HK8.out)
    obtain ⟨y0, y1, y2, y3, y4, -, -, -, -, -⟩ := wcells (rowIs_below hA5.out HK8.out)
    go_wp2_with fail
    refine (same_sto (HA5.out.below HK8.out) (HT5.out.below HK8.out) next).mono ?_
    rintro e w9 ⟨rfl, hb9⟩
    have HB9 := St.hid (bcall HB8.out hb9)
    have HK9 := St.hid (bcall HK8.out hb9)
    clear hb9 x0 x1 x2 x3 x4 y0 y1 y2 y3 y4
    obtain ⟨x0, x1, x2, x3, x4, -, -, -, -, -⟩ := wcells (rowIs_below hX5.out HK9.out)
    obtain ⟨y0, y1, y2, y3, y4, -, -, -, -, -⟩ := wcells (rowIs_below hA5.out HK9.out)
    go_wp2_with fail
    go_ret
    exact ⟨by simp, HB9.out⟩
end Go.Proofs.YtckkkdldljhehabGreat.Ws
