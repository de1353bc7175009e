/- What WorldFixed of package ninepinskeep answers when called over any world in memory: true; nothing that was in memory before has changed. -/
import Derived.Test.YtckkkdldljhehabGreatKtWdK
import Derived.Test.YtckkkdldljhehabGreatKtWdQ
namespace Go.Proofs.YtckkkdldljhehabGreat.Wd
open Go.Proofs.YtckkkdldljhehabGreat.Num Go.Proofs.YtckkkdldljhehabGreat.St
open Go.ChangeShapes Go.WideShapes Go.ChangeAt Go.RowKit

set_option maxHeartbeats 4000000 in
set_option maxRecDepth 100000 in
theorem fixed_any (a : Option Addr) (n cap : Nat) (next fall wide high : Int) (T : Nat → TabV) (I : Nat → Nat → Int) (R : Nat → Nat → R8) (w : World) (h : StoreIn w a n T I R) :
    Calls Tryz.prog 5 #[.agg #[.slice a n cap, .int .i64 next, .int .i64 fall, .int .i64 wide, .int .i64 high]] w fun e w' => e = .returned (.bool true) ∧ Below w.heap.size w w' := by
  have HIN := St.hid h
  have hnz : n ≤ 9223372036854775807 := by have := h.fits.1; omega
  have HST := St.hid (Sto.of_in cap h)
  obtain ⟨L, HL⟩ : ∃ L, Hid (L = plainOf T I R n) := ⟨_, rfl⟩
  rw [← HL.out] at HST
  have hW0 := St.hid (rowIs5 w (.slice a n cap) next fall wide high 26)
  clear h
  go_enter Tryz.func5, Tryz.ntmps5
  go_wp2_with fail
  refine (step_any next fall wide high (HST.out.below (bal (Below.refl _ _) _))).mono ?_
  rintro e w1 ⟨⟨a2, n2, c2, u, ec, rfl, hout⟩, hb1⟩
  have hW1 := St.hid (rowIs_below hW0.out hb1)
  have HB1 := St.hid (bcall (bal (Below.refl _ w) _) hb1)
  have hz1 := hb1.size
  simp at hz1
  clear hb1 hW0
  rcases hout with ⟨_, rfl, rfl, _⟩ | ⟨hgw, rfl, ⟨F2, hs2, hF2⟩, hu⟩
  · go_wp2_with (go_at_call 22; refine (worlds_any _).mono ?_; rintro e w2 ⟨rfl, hb2⟩; have HB2 := St.hid (bcall (bal HB1.out _) hb2); clear hb2)
    go_ret
    exact ⟨rfl, HB2.out⟩
  · clear hu hF2
    have HGW := St.hid hgw
    have HS2 := St.hid (hs2.below (bal (Below.refl _ w1) (.cells #[.slice a2 n2 c2, .int .i64 next, .int .i64 fall, .int .i64 wide, .int .i64 high] 26)))
    have hX2 := St.hid (rowIs5 w1 (.slice a2 n2 c2) next fall wide high 26)
    have hW2 := St.hid (hW1.out.alloc (.cells #[.slice a2 n2 c2, .int .i64 next, .int .i64 fall, .int .i64 wide, .int .i64 high] 26))
    have HB2 := St.hid (bal HB1.out (.cells #[.slice a2 n2 c2, .int .i64 next, .int .i64 fall, .int .i64 wide, .int .i64 high] 26))
    have hgo := step_good hgw.1 fall wide high
    have HGO := St.hid hgo
    have HKP := St.hid (step_keep L fall wide high)
    have HOK := St.hid (step_ok hgw.1 fall wide high)
    obtain ⟨g, HG⟩ : ∃ g, Hid (g = (stepG L fall wide high).1) := ⟨_, rfl⟩
    rw [← HG.out] at HS2 HGO HKP HOK
    clear hs2 hgw hgo
    go_wp2_with (go_at_call 22; refine (worlds_any _).mono ?_; rintro e w3 ⟨rfl, hb3⟩; have hW3 := St.hid (rowIs_below hW2.out hb3); have hX3 := St.hid (rowIs_below hX2.out hb3); have HS3 := St.hid (HS2.out.below hb3); have HB3 := St.hid (bcall HB2.out hb3); have hz3 := hb3.size; simp at hz3; clear hb3; obtain ⟨x0, x1, x2, x3, x4, -, -, -, -, -⟩ := wcells hW3.out)
    have HB13 := St.hid HB3.out
    go_loopw [35] (fun i wr => ∃ k : Nat, k ≤ n ∧ i = .int .i64 k ∧ Hid (wr.rowIs w.heap.size 26 5 (wcell (.slice a n cap) next fall wide high)) ∧ Hid (wr.rowIs w1.heap.size 26 5 (wcell (.slice a2 n2 c2) next fall wide high)) ∧ Hid (Sto wr F2 (.slice a2 n2 c2) (withRows L g)) ∧ Hid (Below w.heap.size w wr)) (fun i _ => n - (intOf i).toNat)
    case atStart => exact ⟨0, Nat.zero_le _, rfl, hW3.out, hX3.out, HS3.out, HB3.out⟩
    case round =>
      obtain ⟨k, hk, rfl, hW, hX, hS, hB⟩ := hrel
      by_cases hlt : k < n
      · obtain ⟨b, off, rfl, hb, hc⟩ := (HIN.out.below hB.out).tabs (by omega)
        obtain ⟨t0, t1, t2⟩ := hc k hlt
        have hlt' : (k : Int) < (n : Int) := by omega
        have hIds := HIN.out.ids k hlt
        have hRows := HIN.out.rows k hlt
        have hIR : (T k).il = (T k).rl := len_plain (by rw [← HL.out]; exact HGW.out.1) hlt
        have hfit := (HIN.out.fits.2.2 k hlt)
        have hAT : Hid (∀ j, j < (T k).il → At L (I k j) (T k).mask (R k j)) := St.hid (fun j hj => by rw [HL.out]; exact at_plain hlt hj (by omega))
        generalize T k = t at t0 t1 t2 hIds hRows hIR hfit hAT
        obtain ⟨tm, ia, il, ic, ra, rl, rc⟩ := t
        simp only at t0 t1 t2 hIds hRows hIR hfit hAT
        have HIDS := St.hid hIds
        have HROWS := St.hid hRows
        subst hIR
        have hilz : il ≤ 140737488355328 := by omega
        clear hIds hRows hc hfit
        have x0 := (wcells hW.out).1
        go_wp2_with fail
        have hT := St.hid (rowIs3 wr ⟨tm, ia, il, ic, ra, il, rc⟩ 53)
        have hW' := St.hid (hW.out.alloc (.cells #[.int .i64 tm, .slice ia il ic, .slice ra il rc] 53))
        have hX' := St.hid (hX.out.alloc (.cells #[.int .i64 tm, .slice ia il ic, .slice ra il rc] 53))
        have hS' := St.hid (hS.out.below (bal (Below.refl _ wr) (.cells #[.int .i64 tm, .slice ia il ic, .slice ra il rc] 53)))
        have hB' := St.hid (bal hB.out (.cells #[.int .i64 tm, .slice ia il ic, .slice ra il rc] 53))
        generalize hbb : wr.heap.size = bb at hT
        generalize wr.alloc (.cells #[.int .i64 tm, .slice ia il ic, .slice ra il rc] 53) = W4 at hT hW' hX' hS' hB'
        clear hW hX hS hB t0 t1 t2 hbb
        go_loopw [42] (fun i wr => ∃ j : Nat, j ≤ il ∧ i = .int .i64 j ∧ Hid (wr.rowIs w.heap.size 26 5 (wcell (.slice (some ⟨b, off, none⟩) n cap) next fall wide high)) ∧ Hid (wr.rowIs w1.heap.size 26 5 (wcell (.slice a2 n2 c2) next fall wide high)) ∧ Hid (wr.rowIs bb 53 3 (tcell ⟨tm, ia, il, ic, ra, il, rc⟩)) ∧ Hid (Sto wr F2 (.slice a2 n2 c2) (withRows L g)) ∧ Hid (Below w.heap.size w wr)) (fun i _ => il - (intOf i).toNat)
        case atStart => exact ⟨0, Nat.zero_le _, rfl, hW'.out, hX'.out, hT.out, hS'.out, hB'.out⟩
        case round =>
          obtain ⟨j, hj, rfl, hW, hX, hTT, hS, hB⟩ := hrel
          by_cases hjl : j < il
          · obtain ⟨bi, oi, rfl, hbi, hci⟩ := (HIDS.out.below hB.out) (by omega)
            obtain ⟨br, or', rfl, hbr, hcr⟩ := (HROWS.out.below hB.out) (by omega)
            have i0 := hci j hjl
            obtain ⟨r0, r1, r2, r3, r4, r5, r6, r7⟩ := hcr j hjl
            have hat := hAT.out j hjl
            have hmk := at_mk HGW.out.1.2.2.2.2.2 hat
            have hkp := HKP.out (I k j)
            rw [hmk.1, hmk.2] at hkp
            have hatx : At (withRows L g) (I k j) tm (g (I k j)) := (at_with HGW.out.1.even g).2 ⟨⟨_, hat⟩, rfl⟩
            generalize I k j = id at i0 hat hatx hkp
            generalize R k j = q at r0 r1 r2 r3 r4 r5 r6 r7 hat hkp
            generalize g id = p at hatx hkp
            have HATX := St.hid hatx
            have HK1 := St.hid hkp.1
            have hwd : (p.wd != q.wd) = false := by simp [hkp.2.1]
            have hms : (p.ms != q.ms) = false := by simp [hkp.2.2.2.1]
            clear hat hatx hkp hmk hci hcr
            have hjl' : (j : Int) < (il : Int) := by omega
            obtain ⟨x0, x1, -, -, -, -, -, -, -, -⟩ := wcells hX.out
            go_wp2_with fail
            refine (hS.out.get_some HGO.out next id tm p HATX.out).mono ?_
            rintro e w5 ⟨rfl, hb5⟩
            have hP := St.hid (St.rowIs8 w5 p 56)
            have hW5 := St.hid ((rowIs_below hW.out hb5).alloc (.cells #[.int .i64 p.x, .int .i64 p.y, .int .i64 p.px, .int .i64 p.py, .int .i64 p.wd, .int .i64 p.ht, .int .i64 p.ms, .int .i64 p.rr] 56))
            have hX5 := St.hid ((rowIs_below hX.out hb5).alloc (.cells #[.int .i64 p.x, .int .i64 p.y, .int .i64 p.px, .int .i64 p.py, .int .i64 p.wd, .int .i64 p.ht, .int .i64 p.ms, .int .i64 p.rr] 56))
            have hT5 := St.hid ((rowIs_below hTT.out hb5).alloc (.cells #[.int .i64 p.x, .int .i64 p.y, .int .i64 p.px, .int .i64 p.py, .int .i64 p.wd, .int .i64 p.ht, .int .i64 p.ms, .int .i64 p.rr] 56))
            have hS5 := St.hid (hS.out.below (bal hb5 (.cells #[.int .i64 p.x, .int .i64 p.y, .int .i64 p.px, .int .i64 p.py, .int .i64 p.wd, .int .i64 p.ht, .int .i64 p.ms, .int .i64 p.rr] 56)))
            have hB5 := St.hid (bal (bcall hB.out hb5) (.cells #[.int .i64 p.x, .int .i64 p.y, .int .i64 p.px, .int .i64 p.py, .int .i64 p.wd, .int .i64 p.ht, .int .i64 p.ms, .int .i64 p.rr] 56))
            have kk := fun o => (bal hb5 (.cells #[.int .i64 p.x, .int .i64 p.y, .int .i64 p.px, .int .i64 p.py, .int .i64 p.wd, .int .i64 p.ht, .int .i64 p.ms, .int .i64 p.rr] 56)).cell (p := ⟨br, o, none⟩) hbr
            rw [← kk] at r0 r1 r2 r3 r4 r5 r6 r7
            clear hb5 hbi hbr kk i0 x0 x1
            go_wp2_with fail
            generalize w5.alloc (.cells #[.int .i64 p.x, .int .i64 p.y, .int .i64 p.px, .int .i64 p.py, .int .i64 p.wd, .int .i64 p.ht, .int .i64 p.ms, .int .i64 p.rr] 56) = W6 at hP hW5 hX5 hT5 hS5 hB5 r0 r1 r2 r3 r4 r5 r6 r7 ⊢
            obtain ⟨t0, t1, t2⟩ := tcells hT5.out
            obtain ⟨p0, p1, p2, p3, p4, p5, p6, p7⟩ := row8c hP.out
            simp only at t0 t1 t2
            have hmm : (tm != tm) = false := by simp
            have hil : (il : Int) ≤ 140737488355328 := by omega
            cases hh : hasB tm 11
            · have b1 : (bits .and .i64 tm 11 != 11) = true := by unfold hasB at hh; simpa [bne] using hh
              have hpq : p = q := HK1.out hh
              have hne := neqR p q
              rw [show eqR p q = true from by rw [hpq]; exact eqR_refl q] at hne
              clear hpq hh
              simp only [Bool.not_true] at hne
              go_quiet (fail)
              go_wp2_with fail
              go_roundw
              case rel =>
                exact ⟨j + 1, by omega, by go_num, rowIs_below hW5.out (bdrewN (Below.refl _ W6) _), rowIs_below hX5.out (bdrewN (Below.refl _ W6) _), rowIs_below hT5.out (bdrewN (Below.refl _ W6) _), hS5.out.below (bdrewN (Below.refl _ W6) _), bdrewN hB5.out _⟩
              case measure => simp [intOf]; omega
            · have b1 : (bits .and .i64 tm 11 != 11) = false := by unfold hasB at hh; simpa [bne] using hh
              clear hh
              go_quiet (fail)
              go_wp2_with fail
              go_roundw
              case rel =>
                exact ⟨j + 1, by omega, by go_num, rowIs_below hW5.out (bdrewN (Below.refl _ W6) _), rowIs_below hX5.out (bdrewN (Below.refl _ W6) _), rowIs_below hT5.out (bdrewN (Below.refl _ W6) _), hS5.out.below (bdrewN (Below.refl _ W6) _), bdrewN hB5.out _⟩
              case measure => simp [intOf]; omega
          · have hje : j = il := by omega
            go_wp2_with fail
            go_roundw
            case rel => exact ⟨k + 1, by omega, by go_num, hW.out, hX.out, hS.out, hB.out⟩
            case measure => simp [intOf]; omega
      · have hke : k = n := by omega
        obtain ⟨x0, x1, x2, x3, x4, -, -, -, -, -⟩ := wcells hW.out
        obtain ⟨y0, y1, y2, y3, y4, -, -, -, -, -⟩ := wcells hX.out
        have HGD : Hid (∀ W', Below wr.heap.size wr W' → Calls Tryz.prog 14 #[.agg #[.slice a2 n2 c2, .int .i64 next, .int .i64 fall, .int .i64 wide, .int .i64 high]] W' fun e w' => e = .returned (.bool true) ∧ Below W'.heap.size W' w') := St.hid (fun W' hb => (wgood_any next fall wide high (hS.out.below hb)).mono (by
          rintro e w' ⟨⟨g', rfl, hg'⟩, hb'⟩
          have : g' = true := hg'.2 ⟨HGO.out, HGW.out.2⟩
          subst this
          exact ⟨rfl, hb'⟩))
        have HSX : Hid (∀ W', Below wr.heap.size wr W' → Calls Tryz.prog 26 #[.agg #[.slice a2 n2 c2, .int .i64 next]] W' fun e w' => e = .returned (.int .i64 (allL L).length) ∧ Below W'.heap.size W' w') := St.hid (fun W' hb => by
          have := (hS.out.below hb).size HGO.out next
          rw [allL_with] at this
          exact this)
        have HSW : Hid (∀ W', Below wr.heap.size wr W' → Calls Tryz.prog 26 #[.agg #[.slice a n cap, .int .i64 next]] W' fun e w' => e = .returned (.int .i64 (allL L).length) ∧ Below W'.heap.size W' w') := St.hid (fun W' hb => (HST.out.below (bcall hB.out hb)).size HGW.out.1 next)
        generalize hsz : ((allL L).length : Int) = sz at HSX HSW
        have z0 : w.heap.size < wr.heap.size := hW.out.lt
        have z1 : w1.heap.size < wr.heap.size := hX.out.lt
        have HBW := St.hid hB.out
        clear hS hB hW1 hW2 hW3 hX2 hX3 HS2 HS3 HB1 HB2 HB3 HB13 HKP HOK HST HIN hsz
        go_wp2_with fail
        go_region_held3 (fun W' => W'.cell? ⟨w.heap.size, 0, none⟩ = some (.slice a n cap) ∧ W'.cell? ⟨w.heap.size, 1, none⟩ = some (.int .i64 next) ∧ W'.cell? ⟨w.heap.size, 2, none⟩ = some (.int .i64 fall) ∧ W'.cell? ⟨w.heap.size, 3, none⟩ = some (.int .i64 wide) ∧ W'.cell? ⟨w.heap.size, 4, none⟩ = some (.int .i64 high) ∧ W'.cell? ⟨w1.heap.size, 0, none⟩ = some (.slice a2 n2 c2) ∧ W'.cell? ⟨w1.heap.size, 1, none⟩ = some (.int .i64 next) ∧ W'.cell? ⟨w1.heap.size, 2, none⟩ = some (.int .i64 fall) ∧ W'.cell? ⟨w1.heap.size, 3, none⟩ = some (.int .i64 wide) ∧ W'.cell? ⟨w1.heap.size, 4, none⟩ = some (.int .i64 high)) (exact ⟨x0, x1, x2, x3, x4, y0, y1, y2, y3, y4⟩)
          (first
          | (go_at_call 14; go_fit (HGD.out _ (Below.drew (Below.refl _ wr))); rintro e wa ⟨rfl, hba⟩; have HQ1 := St.hid (bcall (Below.drew (Below.refl _ wr)) hba); clear hba x0 x1 x2 x3 x4 y0 y1 y2 y3 y4; obtain ⟨x0, x1, x2, x3, x4, -, -, -, -, -⟩ := wcells (rowIs_below hW.out HQ1.out); obtain ⟨y0, y1, y2, y3, y4, -, -, -, -, -⟩ := wcells (rowIs_below hX.out HQ1.out))
          | (go_at_call 26; go_fit (HSX.out _ HQ1.out); rintro e wb ⟨rfl, hbb⟩; have HQ2 := St.hid (bcall HQ1.out hbb); clear hbb x0 x1 x2 x3 x4 y0 y1 y2 y3 y4; obtain ⟨x0, x1, x2, x3, x4, -, -, -, -, -⟩ := wcells (rowIs_below hW.out HQ2.out); obtain ⟨y0, y1, y2, y3, y4, -, -, -, -, -⟩ := wcells (rowIs_below hX.out HQ2.out))
          | (go_at_call 26; go_fit (HSW.out _ HQ2.out); rintro e wc ⟨rfl, hbc⟩; have HQ3 := St.hid (bcall HQ2.out hbc); clear hbc x0 x1 x2 x3 x4 y0 y1 y2 y3 y4; obtain ⟨x0, x1, x2, x3, x4, -, -, -, -, -⟩ := wcells (rowIs_below hW.out HQ3.out); obtain ⟨y0, y1, y2, y3, y4, -, -, -, -, -⟩ := wcells (rowIs_below hX.out HQ3.out)))
        all_goals
          go_wp2_with fail
          go_ret
          exact ⟨by simp, bcall HBW.out HQ3.out⟩
end Go.Proofs.YtckkkdldljhehabGreat.Wd
