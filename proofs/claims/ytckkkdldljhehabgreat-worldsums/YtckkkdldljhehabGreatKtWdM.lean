/- What WorldSums of package ninepinskeep answers when called over any world in memory: true; nothing that was in memory before has changed. -/
import Derived.Test.YtckkkdldljhehabGreatKtWdL
import Derived.Test.YtckkkdldljhehabGreatKtWdSn
import Derived.Test.YtckkkdldljhehabGreatKtSoH
namespace Go.Proofs.YtckkkdldljhehabGreat.Wd
open Go.Proofs.YtckkkdldljhehabGreat.Num Go.Proofs.YtckkkdldljhehabGreat.St
open Go.ChangeShapes Go.WideShapes Go.ChangeAt Go.RowKit

set_option maxHeartbeats 8000000 in
set_option maxRecDepth 100000 in
theorem sums_any (a : Option Addr) (n cap : Nat) (next fall wide high : Int) (T : Nat → TabV) (I : Nat → Nat → Int) (R : Nat → Nat → R8) (w : World) (h : StoreIn w a n T I R) :
    Calls Tryz.prog 6 #[.agg #[.slice a n cap, .int .i64 next, .int .i64 fall, .int .i64 wide, .int .i64 high]] w fun e w' => e = .returned (.bool true) ∧ Below w.heap.size w w' := by
  have HIN := St.hid h
  have hnz : n ≤ 9223372036854775807 := by have := h.fits.1; omega
  have HST := St.hid (Sto.of_in cap h)
  obtain ⟨L, HL⟩ : ∃ L, Hid (L = plainOf T I R n) := ⟨_, rfl⟩
  rw [← HL.out] at HST
  have hW0 := St.hid (rowIs5 w (.slice a n cap) next fall wide high 26)
  clear h
  go_enter Tryz.func6, Tryz.ntmps6
  go_wp2_with fail
  refine (step_any next fall wide high (HST.out.below (bal (Below.refl _ _) _))).mono ?_
  rintro e w1 ⟨⟨a2, n2, c2, u, ec, rfl, hout⟩, hb1⟩
  have hW1 := St.hid (rowIs_below hW0.out hb1)
  have HB1 := St.hid (bcall (bal (Below.refl _ w) _) hb1)
  have hz1 := hb1.size
  simp at hz1
  clear hb1 hW0
  rcases hout with ⟨_, rfl, rfl, _⟩ | ⟨hgw, rfl, ⟨F2, hs2, hF2⟩, hu⟩
  · go_wp2_with (go_at_call 22; refine (worlds_any _).mono ?_; rintro e w2 ⟨rfl, hb2⟩; have HB2 := St.hid (bcall (bal HB1.out _) hb2); clear hb2)
    go_ret
    exact ⟨rfl, HB2.out⟩
  · clear hu hF2
    have HGW := St.hid hgw
    have HS2 := St.hid (hs2.below (bal (Below.refl _ w1) (.cells #[.slice a2 n2 c2, .int .i64 next, .int .i64 fall, .int .i64 wide, .int .i64 high] 26)))
    have hX2 := St.hid (rowIs5 w1 (.slice a2 n2 c2) next fall wide high 26)
    have hW2 := St.hid (hW1.out.alloc (.cells #[.slice a2 n2 c2, .int .i64 next, .int .i64 fall, .int .i64 wide, .int .i64 high] 26))
    have HB2 := St.hid (bal HB1.out (.cells #[.slice a2 n2 c2, .int .i64 next, .int .i64 fall, .int .i64 wide, .int .i64 high] 26))
    have HGO := St.hid (step_good hgw.1 fall wide high)
    have HSUM : Hid (Free L wide high → sumP (·.px) (movR (withRows L (stepG L fall wide high).1)) = sumP (·.px) (movR L) ∧ sumP (·.py) (movR (withRows L (stepG L fall wide high).1)) = sumP (·.py) (movR L)) := St.hid (fun hf => by
      have h1 := step_sums (fall := fall) hgw.1 hgw.2.2.1.2 hgw.2.2.2.2 hf
      have hs := with_self hgw.1
      have e1 : sumP (·.px) (movR L) = sumP (·.px) (movR (withRows L (rw0 L))) := by rw [hs]
      have e2 : sumP (·.py) (movR L) = sumP (·.py) (movR (withRows L (rw0 L))) := by rw [hs]
      rw [e1, e2, sum_mov, sum_mov, sum_mov, sum_mov]
      exact h1)
    generalize (stepG L fall wide high).1 = g at HS2 HGO HSUM hs2
    have hwide := hgw.2.2.1
    have hhigh := hgw.2.2.2
    clear hs2 hgw
    go_wp2_with (go_at_call 22; refine (worlds_any _).mono ?_; rintro e w3 ⟨rfl, hb3⟩; have hW3 := St.hid (rowIs_below hW2.out hb3); have hX3 := St.hid (rowIs_below hX2.out hb3); have HS3 := St.hid (HS2.out.below hb3); have HB3 := St.hid (bcall HB2.out hb3); have hz3 := hb3.size; simp at hz3; clear hb3; obtain ⟨x0, x1, x2, x3, x4, -, -, -, -, -⟩ := wcells hW3.out)
    go_loopw [6, 7, 36] (fun s6 s7 i wr => ∃ k : Nat, k ≤ n ∧ i = .int .i64 k ∧ s6 = .int .i64 (sumP (·.px) (movR (plainOf T I R k))) ∧ s7 = .int .i64 (sumP (·.py) (movR (plainOf T I R k))) ∧ Hid (∀ i, i < k → ∀ j, j < (T i).rl → FreeRow wide high (T i).mask (R i j)) ∧ Hid (wr.rowIs w.heap.size 26 5 (wcell (.slice a n cap) next fall wide high)) ∧ Hid (wr.rowIs w1.heap.size 26 5 (wcell (.slice a2 n2 c2) next fall wide high)) ∧ Hid (Sto wr F2 (.slice a2 n2 c2) (withRows L g)) ∧ Hid (Below w.heap.size w wr)) (fun _ _ i _ => n - (intOf i).toNat)
    case atStart => exact ⟨0, Nat.zero_le _, rfl, rfl, rfl, St.hid (fun i hi => absurd hi (Nat.not_lt_zero _)), hW3.out, hX3.out, HS3.out, HB3.out⟩
    case round =>
      obtain ⟨k, hk, rfl, rfl, rfl, hFR, hW, hX, hS, hB⟩ := hrel
      by_cases hlt : k < n
      · obtain ⟨b, off, rfl, hb, hc⟩ := (HIN.out.below hB.out).tabs (by omega)
        obtain ⟨t0, t1, t2⟩ := hc k hlt
        have hlt' : (k : Int) < (n : Int) := by omega
        have hRows := HIN.out.rows k hlt
        have hfit := (HIN.out.fits.2.2 k hlt)
        have HGT : Hid (∀ j, j < (T k).rl → goodRowB (T k).mask (R k j) = true) := St.hid (fun j hj => (At.good HGW.out.1 (by rw [HL.out]; exact at_plain hlt (by have := len_plain (T := T) (I := I) (R := R) (n := n) (i := k) (by rw [← HL.out]; exact HGW.out.1) hlt; omega) hj : At L (I k j) (T k).mask (R k j))).1)
        have HLE : Hid (∀ j, j ≤ (T k).rl → (-167772160 ≤ sumP (·.px) (movTo T I R k j) ∧ sumP (·.px) (movTo T I R k j) ≤ 167772160) ∧ (-167772160 ≤ sumP (·.py) (movTo T I R k j) ∧ sumP (·.py) (movTo T I R k j) ≤ 167772160)) := St.hid (fun j hj => movTo_le (n := n) (by rw [← HL.out]; exact HGW.out.1) hlt hj)
        have HFULL := St.hid (movTo_full T I R k)
        have HZERO := St.hid (movTo_zero T I R k)
        have HSN : Hid (∀ j, hasB (T k).mask 11 = true → movTo T I R k (j + 1) = movTo T I R k j ++ [R k j]) := St.hid (fun j h => movTo_snoc h j)
        have HSM : Hid (∀ j, hasB (T k).mask 11 = false → movTo T I R k (j + 1) = movTo T I R k j) := St.hid (fun j h => movTo_same h j)
        obtain ⟨mt, HMT⟩ : ∃ mt : Nat → List R8, Hid (mt = movTo T I R k) := ⟨_, rfl⟩
        rw [← HMT.out] at HLE HFULL HZERO HSN HSM
        rw [← HZERO.out]
        obtain ⟨t, HT⟩ : ∃ t, Hid (t = T k) := ⟨_, rfl⟩
        rw [← HT.out] at t0 t1 t2 hRows hfit HGT HLE HFULL HSN HSM
        obtain ⟨tm, ia, il, ic, ra, rl, rc⟩ := t
        simp only at t0 t1 t2 hRows hfit HGT HLE HFULL HSN HSM
        have HROWS := St.hid hRows
        have hilz : rl ≤ 140737488355328 := by omega
        clear hRows hc hfit
        have x0 := (wcells hW.out).1
        go_wp2_with fail
        have hTT := St.hid (rowIs3 wr ⟨tm, ia, il, ic, ra, rl, rc⟩ 53)
        have hW' := St.hid (hW.out.alloc (.cells #[.int .i64 tm, .slice ia il ic, .slice ra rl rc] 53))
        have hX' := St.hid (hX.out.alloc (.cells #[.int .i64 tm, .slice ia il ic, .slice ra rl rc] 53))
        have hS' := St.hid (hS.out.below (bal (Below.refl _ wr) (.cells #[.int .i64 tm, .slice ia il ic, .slice ra rl rc] 53)))
        have hB' := St.hid (bal hB.out (.cells #[.int .i64 tm, .slice ia il ic, .slice ra rl rc] 53))
        generalize hbb : wr.heap.size = bb at hTT
        generalize wr.alloc (.cells #[.int .i64 tm, .slice ia il ic, .slice ra rl rc] 53) = W4 at hTT hW' hX' hS' hB'
        clear hW hX hS hB t0 t1 t2 hbb x0
        go_loopw [6, 7, 43] (fun s6 s7 i wr => ∃ j : Nat, j ≤ rl ∧ i = .int .i64 j ∧ s6 = .int .i64 (sumP (·.px) (mt j)) ∧ s7 = .int .i64 (sumP (·.py) (mt j)) ∧ Hid (∀ q, q < j → FreeRow wide high tm (R k q)) ∧ Hid (wr.rowIs w.heap.size 26 5 (wcell (.slice (some ⟨b, off, none⟩) n cap) next fall wide high)) ∧ Hid (wr.rowIs w1.heap.size 26 5 (wcell (.slice a2 n2 c2) next fall wide high)) ∧ Hid (wr.rowIs bb 53 3 (tcell ⟨tm, ia, il, ic, ra, rl, rc⟩)) ∧ Hid (Sto wr F2 (.slice a2 n2 c2) (withRows L g)) ∧ Hid (Below w.heap.size w wr)) (fun _ _ i _ => rl - (intOf i).toNat)
        case atStart => exact ⟨0, Nat.zero_le _, rfl, rfl, rfl, St.hid (fun q hq => absurd hq (Nat.not_lt_zero _)), hW'.out, hX'.out, hTT.out, hS'.out, hB'.out⟩
        case round =>
          obtain ⟨j, hj, rfl, rfl, rfl, hFJ, hW, hX, hTT, hS, hB⟩ := hrel
          by_cases hjl : j < rl
          · obtain ⟨br, or', rfl, hbr, hcr⟩ := (HROWS.out.below hB.out) (by omega)
            obtain ⟨r0, r1, r2, r3, r4, r5, r6, r7⟩ := hcr j hjl
            have hgr := HGT.out j hjl
            have hbd := row_bounds hgr
            have hm31 := goodRow_mask hgr
            have hb4 := bit4 hm31
            have hb16 := bit16 hm31
            have hle := HLE.out j (by omega)
            have HSNJ := St.hid (HSN.out j)
            have HSMJ := St.hid (HSM.out j)
            have HFJ1 : Hid (FreeRow wide high tm (R k j) → ∀ q, q < j + 1 → FreeRow wide high tm (R k q)) := St.hid (fun h q hq => by
              by_cases e : q = j
              · rw [e]; exact h
              · exact hFJ.out q (by omega))
            generalize R k j = q at r0 r1 r2 r3 r4 r5 r6 r7 hgr hbd HSNJ HFJ1
            obtain ⟨bx, by', bpx, bpy, -⟩ := hbd
            obtain ⟨l1, l2⟩ := hle
            generalize hsx : sumP (·.px) (mt j) = sx at l1 ⊢
            generalize hsy : sumP (·.py) (mt j) = sy at l2 ⊢
            have HSX := St.hid hsx
            have HSY := St.hid hsy
            clear hsx hsy hgr hcr
            have hjl' : (j : Int) < (rl : Int) := by omega
            have hP := St.hid (St.rowIs8 wr q 56)
            have hWn := St.hid (hW.out.alloc (.cells #[.int .i64 q.x, .int .i64 q.y, .int .i64 q.px, .int .i64 q.py, .int .i64 q.wd, .int .i64 q.ht, .int .i64 q.ms, .int .i64 q.rr] 56))
            have hXn := St.hid (hX.out.alloc (.cells #[.int .i64 q.x, .int .i64 q.y, .int .i64 q.px, .int .i64 q.py, .int .i64 q.wd, .int .i64 q.ht, .int .i64 q.ms, .int .i64 q.rr] 56))
            have hTn := St.hid (hTT.out.alloc (.cells #[.int .i64 q.x, .int .i64 q.y, .int .i64 q.px, .int .i64 q.py, .int .i64 q.wd, .int .i64 q.ht, .int .i64 q.ms, .int .i64 q.rr] 56))
            have hSn := St.hid (hS.out.below (bal (Below.refl _ wr) (.cells #[.int .i64 q.x, .int .i64 q.y, .int .i64 q.px, .int .i64 q.py, .int .i64 q.wd, .int .i64 q.ht, .int .i64 q.ms, .int .i64 q.rr] 56)))
            have hBn := St.hid (bal hB.out (.cells #[.int .i64 q.x, .int .i64 q.y, .int .i64 q.px, .int .i64 q.py, .int .i64 q.wd, .int .i64 q.ht, .int .i64 q.ms, .int .i64 q.rr] 56))
            obtain ⟨tt0, -, -⟩ := tcells hTT.out
            obtain ⟨y0, y1, y2, y3, y4, -, -, -, -, -⟩ := wcells hW.out
            simp only at tt0
            have zbb : bb < wr.heap.size := hTT.out.lt
            have zww : w.heap.size < wr.heap.size := hW.out.lt
            have HCALM := St.hid (fun (W' : World) => calm_any q W')
            unfold rowV at HCALM
            cases hA : hasB tm 11
            · have b11 : (bits .and .i64 tm 11 != 11) = true := by unfold hasB at hA; simpa [bne] using hA
              have e11 : (bits .and .i64 tm 11 == 11) = false := by unfold hasB at hA; exact hA
              have HA := St.hid hA
              clear hA
              cases h4 : hasB tm 4
              · rw [h4] at hb4
                have H4 := St.hid h4
                clear h4
                cases h16 : hasB tm 16
                · rw [h16] at hb16
                  have H16 := St.hid h16
                  clear h16
                  go_wp2_with fail
                  refine (HCALM.out _).mono ?_
                  rintro e w5 ⟨rfl, hb5⟩
                  have hP5 := St.hid (rowIs_below hP.out hb5)
                  have hW5 := St.hid (rowIs_below hWn.out hb5)
                  have hX5 := St.hid (rowIs_below hXn.out hb5)
                  have hT5 := St.hid (rowIs_below hTn.out hb5)
                  have hS5 := St.hid (hSn.out.below hb5)
                  have hB5 := St.hid (bcall hBn.out hb5)
                  clear hb5 r0 r1 r2 r3 r4 r5 r6 r7 tt0 y0 y1 y2 y3 y4 zbb zww
                  obtain ⟨tt0, -, -⟩ := tcells hT5.out
                  obtain ⟨y0, y1, y2, y3, y4, -, -, -, -, -⟩ := wcells hW5.out
                  obtain ⟨p0, p1, p2, p3, p4, p5, p6, p7⟩ := row8c hP5.out
                  simp only at tt0
                  cases hc : calmB q
                  · go_wp2_with fail
                    go_ret
                    exact ⟨rfl, hB5.out⟩
                  · have HC := St.hid (calm_of hc)
                    clear hc
                    go_wp2_with fail
                    go_roundw
                    case rel =>
                      refine ⟨j + 1, by omega, by go_num, ?_, ?_, St.hid (HFJ1.out ⟨fun _ => H4.out, H16.out, HC.out, fun h => by rw [HA.out] at h; cases h⟩), rowIs_below hW5.out (Below.refl _ w5), rowIs_below hX5.out (Below.refl _ w5), rowIs_below hT5.out (Below.refl _ w5), hS5.out.below (Below.refl _ w5), bcall hB5.out (Below.refl _ w5)⟩
                      · rw [HSMJ.out HA.out, HSX.out]
                      · rw [HSMJ.out HA.out, HSY.out]
                    case measure => simp [intOf]; omega
                · rw [h16] at hb16
                  clear h16
                  go_wp2_with fail
                  go_ret
                  exact ⟨rfl, hBn.out⟩
              · rw [h4] at hb4
                clear h4 hb16
                go_wp2_with fail
                go_ret
                exact ⟨rfl, hBn.out⟩
            · have b11 : (bits .and .i64 tm 11 != 11) = false := by unfold hasB at hA; simpa [bne] using hA
              have e11 : (bits .and .i64 tm 11 == 11) = true := by unfold hasB at hA; exact hA
              have HA := St.hid hA
              clear hA hb4
              cases h16 : hasB tm 16
              · rw [h16] at hb16
                have H16 := St.hid h16
                clear h16
                go_wp2_with fail
                refine (HCALM.out _).mono ?_
                rintro e w5 ⟨rfl, hb5⟩
                have hP5 := St.hid (rowIs_below hP.out hb5)
                have hW5 := St.hid (rowIs_below hWn.out hb5)
                have hX5 := St.hid (rowIs_below hXn.out hb5)
                have hT5 := St.hid (rowIs_below hTn.out hb5)
                have hS5 := St.hid (hSn.out.below hb5)
                have hB5 := St.hid (bcall hBn.out hb5)
                clear hb5 r0 r1 r2 r3 r4 r5 r6 r7 tt0 y0 y1 y2 y3 y4 zbb zww
                obtain ⟨tt0, -, -⟩ := tcells hT5.out
                obtain ⟨y0, y1, y2, y3, y4, -, -, -, -, -⟩ := wcells hW5.out
                obtain ⟨p0, p1, p2, p3, p4, p5, p6, p7⟩ := row8c hP5.out
                simp only at tt0
                cases hc : calmB q
                · go_wp2_with fail
                  go_ret
                  exact ⟨rfl, hB5.out⟩
                · have HC := St.hid (calm_of hc)
                  clear hc
                  by_cases g1 : q.x < 110000
                  · go_wp2_with fail
                    go_ret
                    exact ⟨rfl, hB5.out⟩
                  · by_cases g2 : wide - 110000 < q.x
                    · go_wp2_with fail
                      go_ret
                      exact ⟨rfl, hB5.out⟩
                    · by_cases g3 : q.y < 110000
                      · go_wp2_with fail
                        go_ret
                        exact ⟨rfl, hB5.out⟩
                      · by_cases g4 : high - 110000 < q.y
                        · go_wp2_with fail
                          go_ret
                          exact ⟨rfl, hB5.out⟩
                        · go_wp2_with fail
                          go_quiet (fail)
                          go_wp2_with fail
                          go_roundw
                          case rel =>
                            refine ⟨j + 1, by omega, by go_num, ?_, ?_, St.hid (HFJ1.out ⟨(fun h => by rw [HA.out] at h; cases h), H16.out, HC.out, fun _ => ⟨by omega, by omega⟩⟩), rowIs_below hW5.out (bdrewN (Below.refl _ w5) _), rowIs_below hX5.out (bdrewN (Below.refl _ w5) _), rowIs_below hT5.out (bdrewN (Below.refl _ w5) _), hS5.out.below (bdrewN (Below.refl _ w5) _), bcall hB5.out (bdrewN (Below.refl _ w5) _)⟩
                            · rw [HSNJ.out HA.out, sumP_snoc, HSX.out]
                            · rw [HSNJ.out HA.out, sumP_snoc, HSY.out]
                          case measure => simp [intOf]; omega
              · rw [h16] at hb16
                clear h16
                go_wp2_with fail
                go_ret
                exact ⟨rfl, hBn.out⟩
          · have hje : j = rl := by omega
            go_wp2_with fail
            go_roundw
            case rel =>
              refine ⟨k + 1, by omega, by go_num, by rw [hje, HFULL.out], by rw [hje, HFULL.out], St.hid (fun i hi j' hj' => ?_), hW.out, hX.out, hS.out, hB.out⟩
              by_cases e : i = k
              · subst e
                rw [← HT.out] at hj' ⊢
                exact hFJ.out j' (by rw [hje]; exact hj')
              · exact hFR.out i (by omega) j' hj'
            case measure => simp [intOf]; omega
      · have hke : k = n := by omega
        have HFREE : Hid (Free L wide high) := St.hid (by rw [HL.out]; exact free_of (by rw [← hke]; exact hFR.out))
        have HEQ := St.hid (HSUM.out HFREE.out)
        obtain ⟨ax, nx, cx, T2, I2, R2, e, hin2, hpl2⟩ := hS.out.in_
        cases e
        have HIN2 := St.hid hin2
        have HPL2 := St.hid hpl2
        have hnz2 : n2 ≤ 9223372036854775807 := by have := hin2.fits.1; omega
        have HPX : Hid (sumP (·.px) (movR (plainOf T2 I2 R2 n2)) = sumP (·.px) (movR (plainOf T I R k)) ∧ sumP (·.py) (movR (plainOf T2 I2 R2 n2)) = sumP (·.py) (movR (plainOf T I R k))) := St.hid (by rw [hpl2, hke, ← HL.out]; exact HEQ.out)
        generalize sumP (·.px) (movR (plainOf T I R k)) = spx at HPX ⊢
        generalize sumP (·.py) (movR (plainOf T I R k)) = spy at HPX ⊢
        obtain ⟨y0, y1, y2, y3, y4, -, -, -, -, -⟩ := wcells hX.out
        have HBW := St.hid hB.out
        clear hin2 hpl2 hFR hW hS hB HST HIN HSUM HEQ HFREE
        go_wp2_with fail
        generalize wr = wv at HIN2 HBW y0 y1 y2 y3 y4 hX ⊢
        go_loopw [13, 14, 114] (fun s6 s7 i wr => ∃ k : Nat, k ≤ n2 ∧ i = .int .i64 k ∧ s6 = .int .i64 (sumP (·.px) (movR (plainOf T2 I2 R2 k))) ∧ s7 = .int .i64 (sumP (·.py) (movR (plainOf T2 I2 R2 k))) ∧ Hid (Below wv.heap.size wv wr)) (fun _ _ i _ => n2 - (intOf i).toNat)
        case atStart => exact ⟨0, Nat.zero_le _, rfl, rfl, rfl, Below.refl _ _⟩
        case round =>
          obtain ⟨m, hm, rfl, rfl, rfl, hB⟩ := hrel
          by_cases hmt : m < n2
          · obtain ⟨b, off, rfl, hb, hc⟩ := (HIN2.out.below hB.out).tabs (by omega)
            obtain ⟨t0, t1, t2⟩ := hc m hmt
            have hmt' : (m : Int) < (n2 : Int) := by omega
            have hRows := HIN2.out.rows m hmt
            have hfit := (HIN2.out.fits.2.2 m hmt)
            have HLE : Hid (∀ j, j ≤ (T2 m).rl → (-167772160 ≤ sumP (·.px) (movTo T2 I2 R2 m j) ∧ sumP (·.px) (movTo T2 I2 R2 m j) ≤ 167772160) ∧ (-167772160 ≤ sumP (·.py) (movTo T2 I2 R2 m j) ∧ sumP (·.py) (movTo T2 I2 R2 m j) ≤ 167772160)) := St.hid (fun j hj => movTo_le (n := n2) (by rw [HPL2.out]; exact HGO.out) hmt hj)
            have HGT : Hid (∀ j, j < (T2 m).rl → goodRowB (T2 m).mask (R2 m j) = true) := St.hid (fun j hj => (At.good (by rw [HPL2.out]; exact HGO.out) (at_plain hmt (by have := len_plain (T := T2) (I := I2) (R := R2) (n := n2) (i := m) (by rw [HPL2.out]; exact HGO.out) hmt; omega) hj : At (plainOf T2 I2 R2 n2) (I2 m j) (T2 m).mask (R2 m j))).1)
            have HFULL := St.hid (movTo_full T2 I2 R2 m)
            have HZERO := St.hid (movTo_zero T2 I2 R2 m)
            have HSN : Hid (∀ j, hasB (T2 m).mask 11 = true → movTo T2 I2 R2 m (j + 1) = movTo T2 I2 R2 m j ++ [R2 m j]) := St.hid (fun j h => movTo_snoc h j)
            have HSM : Hid (∀ j, hasB (T2 m).mask 11 = false → movTo T2 I2 R2 m (j + 1) = movTo T2 I2 R2 m j) := St.hid (fun j h => movTo_same h j)
            generalize movTo T2 I2 R2 m = mt at HLE HFULL HZERO HSN HSM
            rw [← HZERO.out]
            generalize T2 m = t at t0 t1 t2 hRows hfit HGT HLE HFULL HSN HSM
            obtain ⟨tm, ia, il, ic, ra, rl, rc⟩ := t
            simp only at t0 t1 t2 hRows hfit HGT HLE HFULL HSN HSM
            have HROWS := St.hid hRows
            have hilz : rl ≤ 140737488355328 := by omega
            clear hRows hc hfit y0 y1 y2 y3 y4
            go_wp2_with fail
            have hTT := St.hid (rowIs3 wr ⟨tm, ia, il, ic, ra, rl, rc⟩ 53)
            have hB' := St.hid (bal hB.out (.cells #[.int .i64 tm, .slice ia il ic, .slice ra rl rc] 53))
            generalize hbb : wr.heap.size = bb at hTT
            generalize wr.alloc (.cells #[.int .i64 tm, .slice ia il ic, .slice ra rl rc] 53) = W4 at hTT hB'
            clear hB t0 t1 t2 hbb
            go_loopw [13, 14, 121] (fun s6 s7 i wr => ∃ j : Nat, j ≤ rl ∧ i = .int .i64 j ∧ s6 = .int .i64 (sumP (·.px) (mt j)) ∧ s7 = .int .i64 (sumP (·.py) (mt j)) ∧ Hid (wr.rowIs bb 53 3 (tcell ⟨tm, ia, il, ic, ra, rl, rc⟩)) ∧ Hid (Below wv.heap.size wv wr)) (fun _ _ i _ => rl - (intOf i).toNat)
            case atStart => exact ⟨0, Nat.zero_le _, rfl, rfl, rfl, hTT.out, hB'.out⟩
            case round =>
              obtain ⟨j, hj, rfl, rfl, rfl, hTT, hB⟩ := hrel
              by_cases hjl : j < rl
              · obtain ⟨br, or', rfl, hbr, hcr⟩ := (HROWS.out.below hB.out) (by omega)
                obtain ⟨r0, r1, r2, r3, r4, r5, r6, r7⟩ := hcr j hjl
                have hbd := row_bounds (HGT.out j hjl)
                have hle := HLE.out j (by omega)
                have HSNJ := St.hid (HSN.out j)
                have HSMJ := St.hid (HSM.out j)
                generalize R2 m j = q at r0 r1 r2 r3 r4 r5 r6 r7 hbd HSNJ
                obtain ⟨-, -, bpx, bpy, -⟩ := hbd
                obtain ⟨l1, l2⟩ := hle
                generalize hsx : sumP (·.px) (mt j) = sx at l1 ⊢
                generalize hsy : sumP (·.py) (mt j) = sy at l2 ⊢
                have HSX := St.hid hsx
                have HSY := St.hid hsy
                clear hsx hsy hcr
                have hjl' : (j : Int) < (rl : Int) := by omega
                obtain ⟨tt0, -, -⟩ := tcells hTT.out
                simp only at tt0
                have zbb : bb < wr.heap.size := hTT.out.lt
                have hTn := St.hid (hTT.out.alloc (.cells #[.int .i64 q.x, .int .i64 q.y, .int .i64 q.px, .int .i64 q.py, .int .i64 q.wd, .int .i64 q.ht, .int .i64 q.ms, .int .i64 q.rr] 56))
                have hBn := St.hid (bal hB.out (.cells #[.int .i64 q.x, .int .i64 q.y, .int .i64 q.px, .int .i64 q.py, .int .i64 q.wd, .int .i64 q.ht, .int .i64 q.ms, .int .i64 q.rr] 56))
                cases hA : hasB tm 11
                · have e11 : (bits .and .i64 tm 11 == 11) = false := by unfold hasB at hA; exact hA
                  have HA := St.hid hA
                  clear hA
                  go_wp2_with fail
                  go_roundw
                  case rel =>
                    refine ⟨j + 1, by omega, by go_num, ?_, ?_, hTn.out, hBn.out⟩
                    · rw [HSMJ.out HA.out, HSX.out]
                    · rw [HSMJ.out HA.out, HSY.out]
                  case measure => simp [intOf]; omega
                · have e11 : (bits .and .i64 tm 11 == 11) = true := by unfold hasB at hA; exact hA
                  have HA := St.hid hA
                  clear hA
                  go_wp2_with fail
                  go_quiet (fail)
                  go_wp2_with fail
                  go_roundw
                  case rel =>
                    refine ⟨j + 1, by omega, by go_num, ?_, ?_, rowIs_below hTn.out (bdrewN (Below.refl _ _) _), bdrewN hBn.out _⟩
                    · rw [HSNJ.out HA.out, sumP_snoc, HSX.out]
                    · rw [HSNJ.out HA.out, sumP_snoc, HSY.out]
                  case measure => simp [intOf]; omega
              · have hje : j = rl := by omega
                go_wp2_with fail
                go_roundw
                case rel => exact ⟨m + 1, by omega, by go_num, by rw [hje, HFULL.out], by rw [hje, HFULL.out], hB.out⟩
                case measure => simp [intOf]; omega
          · have hme : m = n2 := by omega
            have e1 : sumP (·.px) (movR (plainOf T2 I2 R2 m)) = spx := by rw [hme]; exact HPX.out.1
            have e2 : sumP (·.py) (movR (plainOf T2 I2 R2 m)) = spy := by rw [hme]; exact HPX.out.2
            rw [e1, e2]
            clear e1 e2
            go_wp2_with fail
            go_ret
            exact ⟨by simp, bcall HBW.out hB.out⟩
end Go.Proofs.YtckkkdldljhehabGreat.Wd
