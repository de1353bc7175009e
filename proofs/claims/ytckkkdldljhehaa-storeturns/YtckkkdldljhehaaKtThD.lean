/- What ThingsOf of package ninepinsref answers when called over a store in memory: its things by number, in a map of their own, and true, just if the store is good; else false; nothing that was in memory before has changed. -/
import Derived.Test.YtckkkdldljhehaaKtThB
import Derived.Test.YtckkkdldljhehaaKtThC
import Derived.Test.YtckkkdldljhehaaKtMpB
import Derived.Deep.DrawnRows
namespace Go.Proofs.Ytckkkdldljhehaa.Th
open Go.Proofs.Ytckkkdldljhehaa.Num Go.Proofs.Ytckkkdldljhehaa.St Go.Proofs.Ytckkkdldljhehaa.Mp
open Go.ChangeShapes Go.WideShapes Go.ChangeAt Go.RowKit

theorem tab_box (w : World) (m : Int) (u v : Value) (t : TypeId) : (w.alloc (.cells #[.int .i64 m, u, v] t)).cell? ⟨w.heap.size, 0, none⟩ = some (.int .i64 m) ∧ (w.alloc (.cells #[.int .i64 m, u, v] t)).cell? ⟨w.heap.size, 1, none⟩ = some u ∧ (w.alloc (.cells #[.int .i64 m, u, v] t)).cell? ⟨w.heap.size, 2, none⟩ = some v := by
  have h : (w.alloc (.cells #[.int .i64 m, u, v] t)).rowIs w.heap.size t 3 (fun i => if i = 0 then .int .i64 m else if i = 1 then u else v) := ⟨_, (MapKept.heap_alloc w _).1, rfl, fun i hi => by
    match i, hi with
    | 0, _ => rfl
    | 1, _ => rfl
    | 2, _ => rfl⟩
  exact ⟨h.cell (i := 0) (by omega), h.cell (i := 1) (by omega), h.cell (i := 2) (by omega)⟩
attribute [local go_sem ↓] Go.wp_at_zero Go.wp_at_succ
set_option maxHeartbeats 8000000 in
set_option maxRecDepth 100000 in
theorem thingsOf_any (a : Option Addr) (n cap : Nat) (next : Int) (T : Nat → TabV) (I : Nat → Nat → Int) (R : Nat → Nat → R8) (w : World) (hin : StoreIn w a n T I R) :
    Calls Try.prog 24 #[.agg #[.slice a n cap, .int .i64 next]] w fun e w' =>
      ((GoodL next (plainOf T I R n) ∧ ∃ b, e = .returned (.tuple #[.map (some b), .bool true]) ∧ w.heap.size ≤ b ∧ Mp w' b (thM (plainOf T I R n))) ∨
       (¬ GoodL next (plainOf T I R n) ∧ ∃ v, e = .returned (.tuple #[v, .bool false]))) ∧ Below w.heap.size w w' := by
  have hn : n ≤ 9223372036854775807 := by have := hin.fits.1; omega
  have HT : Hid _ := hin.tabs
  have HI : Hid _ := hin.ids
  have HR : Hid _ := hin.rows
  have HZ : Hid _ := hin.hz
  have HW : Hid _ := hin.wf
  clear hin
  have hmm := @run_makeMap Try.prog
  have HB0 : Hid (Below (w.heap.size + 1) (w.alloc (.cells #[.slice a n cap, .int .i64 next] 28)) ((w.alloc (.cells #[.slice a n cap, .int .i64 next] 28)).alloc (.map #[] 0))) := hid (by
    have := bal (Below.refl _ (w.alloc (.cells #[.slice a n cap, .int .i64 next] 28))) (.map #[] 0)
    rw [World.size_alloc] at this
    exact this)
  have HM0 : Hid (Mp ((w.alloc (.cells #[.slice a n cap, .int .i64 next] 28)).alloc (.map #[] 0)) (w.heap.size + 1) []) := hid (by
    have := Mp.made (w.alloc (.cells #[.slice a n cap, .int .i64 next] 28))
    rw [World.size_alloc] at this
    exact this)
  have HX0 : Hid ((w.alloc (.cells #[.slice a n cap, .int .i64 next] 28)).cell? ⟨w.heap.size, 1, none⟩ = some (.int .i64 next)) := hid (by simp)
  have HBW : Hid (∀ wr, Below (w.heap.size + 1) (w.alloc (.cells #[.slice a n cap, .int .i64 next] 28)) wr → Below w.heap.size w wr) := hid (fun wr h => bcall (bal (Below.refl _ _) (.cells #[.slice a n cap, .int .i64 next] 28)) (by rw [World.size_alloc]; exact h))
  go_enter Try.func24, Try.ntmps24
  go_wp2_with fail
  generalize w.alloc (.cells #[.slice a n cap, .int .i64 next] 28) = V0 at HB0 HM0 HX0 HBW ⊢
  go_loopw [5, 16] (fun la i wr => ∃ k : Nat, k ≤ n ∧ i = .int .i64 k ∧ la = .int .i64 (lastM T k) ∧ Hid (TabsTo (nxW next + 1) T I R k) ∧ Hid ((prs (plainOf T I R k)).map (·.1)).Nodup ∧ Hid (Mp wr (w.heap.size + 1) (ofP (prs (plainOf T I R k)))) ∧ Hid (Below (w.heap.size + 1) V0 wr) ∧ w.heap.size + 1 < wr.heap.size) (fun _ i _ => n - (intOf i).toNat)
  case atStart => exact ⟨0, Nat.zero_le _, rfl, rfl, hid (fun i hi => absurd hi (Nat.not_lt_zero _)), hid List.nodup_nil, HM0, HB0, HM0.out.lt⟩
  case round =>
    obtain ⟨k, hk, rfl, rfl, HTT, HND, HMP, HBL, hzr⟩ := hrel
    have hzr0 : w.heap.size < wr.heap.size := by omega
    by_cases hlt : k < n
    · obtain ⟨b, off, rfl, hb, hc⟩ := HT.out (by omega)
      obtain ⟨c0, c1, c2⟩ := hc k hlt
      have HBR := hid (HBW.out _ HBL.out)
      rw [← HBR.out.cell (by exact hb)] at c0 c1 c2
      clear hc
      obtain ⟨s1, s2⟩ := HZ.out k hlt
      have hbz : b < wr.heap.size := by omega
      by_cases hm : (T k).mask ≤ lastM T k
      · go_wp2_with fail
        exact bodyPost_ret (by simp [results, Try.results24, go_sem]; rfl) rfl ⟨Or.inr ⟨bad_tab hlt (fun h => by omega), _, rfl⟩, bal HBR.out _⟩
      by_cases hi0 : (T k).il = 0
      · have e0 : (((T k).il : Int) == 0) = true := by simp [hi0]
        go_wp2_with fail
        exact bodyPost_ret (by simp [results, Try.results24, go_sem]; rfl) rfl ⟨Or.inr ⟨bad_tab hlt (fun h => by have := h.2.1; omega), _, rfl⟩, bal HBR.out _⟩
      have e0 : (((T k).il : Int) == 0) = false := by simp; omega
      by_cases hir : (T k).rl = (T k).il
      rotate_left
      · have e1 : (((T k).rl : Int) != ((T k).il : Int)) = true := by simp; omega
        go_wp2_with fail
        exact bodyPost_ret (by simp [results, Try.results24, go_sem]; rfl) rfl ⟨Or.inr ⟨bad_tab hlt (fun h => by have := h.2.2.1; omega), _, rfl⟩, bal HBR.out _⟩
      have e1 : (((T k).rl : Int) != ((T k).il : Int)) = false := by simp; omega
      have HIR := hid hir
      clear hir
      obtain ⟨bi, oi, hia, hbi, hci⟩ := HI.out k hlt (by omega)
      obtain ⟨br, ro, hra, hbr, hcr⟩ := HR.out k hlt (by have := HIR.out; omega)
      have HCI := hid hci
      have HCR := hid hcr
      clear hci hcr
      rw [hia] at c1
      rw [hra] at c2
      have HTB := hid (tab_box wr (T k).mask (.slice (some ⟨bi, oi, none⟩) (T k).il (T k).ic) (.slice (some ⟨br, ro, none⟩) (T k).rl (T k).rc) 66)
      have HA := hid (bal (Below.refl _ wr) (.cells #[.int .i64 (T k).mask, .slice (some ⟨bi, oi, none⟩) (T k).il (T k).ic, .slice (some ⟨br, ro, none⟩) (T k).rl (T k).rc] 66))
      have HM1 := hid (HMP.out.below HA.out)
      have HB1 : Hid (Below (w.heap.size + 1) V0 (wr.alloc (.cells #[.int .i64 (T k).mask, .slice (some ⟨bi, oi, none⟩) (T k).il (T k).ic, .slice (some ⟨br, ro, none⟩) (T k).rl (T k).rc] 66))) := hid (HBL.out.trans (HA.out.mono (by omega)))
      have hz1 : wr.heap.size < (wr.alloc (.cells #[.int .i64 (T k).mask, .slice (some ⟨bi, oi, none⟩) (T k).il (T k).ic, .slice (some ⟨br, ro, none⟩) (T k).rl (T k).rc] 66)).heap.size := by simp
      go_wp2_with fail
      clear c0 c1 c2 hbz
      generalize wr.alloc (.cells #[.int .i64 (T k).mask, .slice (some ⟨bi, oi, none⟩) (T k).il (T k).ic, .slice (some ⟨br, ro, none⟩) (T k).rl (T k).rc] 66) = W1 at HTB HM1 HB1 hz1 ⊢
      clear HA HMP HBL HBR
      generalize wr.heap.size = tb at HTB hz1 hzr hzr0 ⊢
      clear wr
      go_loopw [44] (fun i wv => ∃ j : Nat, j ≤ (T k).il ∧ i = .int .i64 j ∧ Hid (GoodTo (T k).mask (nxW next + 1) (I k) (R k) j) ∧ Hid ((psTo T I R k j).map (·.1)).Nodup ∧ Hid (Mp wv (w.heap.size + 1) (ofP (psTo T I R k j))) ∧ Hid (Below (w.heap.size + 1) V0 wv) ∧ Hid (wv.cell? ⟨tb, 0, none⟩ = some (.int .i64 (T k).mask) ∧ wv.cell? ⟨tb, 1, none⟩ = some (.slice (some ⟨bi, oi, none⟩) (T k).il (T k).ic) ∧ wv.cell? ⟨tb, 2, none⟩ = some (.slice (some ⟨br, ro, none⟩) (T k).rl (T k).rc)) ∧ tb < wv.heap.size) (fun i _ => (T k).il - (intOf i).toNat)
      case atStart => exact ⟨0, Nat.zero_le _, rfl, hid (fun i hi => absurd hi (Nat.not_lt_zero _)), by rw [psTo_zero]; exact HND, by rw [psTo_zero]; exact HM1, HB1, HTB, hz1⟩
      case round =>
        obtain ⟨j, hj, rfl, HGT, HNJ, HMJ, HBJ, HTJ, hzj⟩ := hrel
        by_cases hjl : j < (T k).il
        · have cj := HCI.out j hjl
          have HBRJ := hid (HBW.out _ HBJ.out)
          rw [← HBRJ.out.cell (by exact hbi)] at cj
          have hx1 := (HBJ.out.cell (p := ⟨w.heap.size, 1, none⟩) (by simp)).trans HX0.out
          obtain ⟨r0, r1, r2, r3, r4, r5, r6, r7⟩ := HCR.out j (by have := HIR.out; omega)
          rw [← HBRJ.out.cell (by exact hbr)] at r0 r1 r2 r3 r4 r5 r6 r7
          obtain ⟨t0, t1, t2⟩ := HTJ.out
          have hwf := HW.out k hlt j hjl
          have hlk := HMJ.out.look_ok hwf
          have hsz := HBRJ.out.size
          have hbiz : bi < wr.heap.size := by omega
          have hbrz : br < wr.heap.size := by omega
          have hxz : w.heap.size < wr.heap.size := by omega
          have hlr : (j : Int) < ((T k).rl : Int) := by have := HIR.out; omega
          rw [ofP_has] at hlk
          obtain ⟨t, ht⟩ : ∃ t, (getM (I k j) (ofP (psTo T I R k j))).getD zTh = t := ⟨_, rfl⟩
          rw [ht] at hlk
          clear ht
          unfold thV at hlk
          by_cases hd : I k j ∈ (psTo T I R k j).map (·.1)
          · rw [decide_eq_true hd] at hlk
            have HD := hid hd
            clear hd
            go_wp2_with fail
            go_quiet (fail)
            go_wp2_with fail
            exact bodyPost_ret (by simp [results, Try.results24, go_sem]; rfl) rfl ⟨Or.inr ⟨bad_twice hlt hjl HD.out, _, rfl⟩, below_drewN (bal HBRJ.out _) _⟩
          rw [decide_eq_false hd] at hlk
          have HD := hid hd
          clear hd
          cases hq : btw (I k j) 0 (nxW next)
          · have hq' := hq
            unfold nxW at hq'
            go_wp2_with fail
            go_quiet ((go_at_call 69; exact Calls.quiet_of_same (within_any _ _ _ _)))
            go_wp2_with fail
            exact bodyPost_ret (by simp [results, Try.results24, go_sem]; rfl) rfl ⟨Or.inr ⟨bad_tab hlt (fun h => by have h1 := (h.2.2.2 j hjl).1; rw [Int.add_sub_cancel, hq] at h1; cases h1), _, rfl⟩, below_drewN (bal HBRJ.out _) _⟩
          · have hq' := hq
            unfold nxW at hq'
            have hqw : btw (I k j) 0 (IntKind.i64.wrap (next - 1)) = true := by rw [IntKind.wrap_i64]; unfold wrap64 at hq'; exact hq'
            cases hg : isRowH (T k).mask (R k j)
            · go_wp2_with fail
              go_region_with (first | (go_at_call 69; refine (within_any _ _ _ _).mono ?_; rintro e w' ⟨rfl, rfl⟩) | (go_at_call 27; refine (isRow_any _ (R k j) _).mono ?_; rintro e w2 ⟨rfl, hb2⟩; have HB2 : Hid _ := hb2; clear hb2))
              all_goals
                go_wp2_with fail
                exact bodyPost_ret (by simp [results, Try.results24, go_sem]; rfl) rfl ⟨Or.inr ⟨bad_tab hlt (fun h => by have h1 := (h.2.2.2 j hjl).2; rw [← isRow_good, hg] at h1; cases h1), _, rfl⟩, bcall (bal HBRJ.out _).drew HB2.out⟩
            · go_upto_region 13 with fail
              go_cut [74] (fun s wx => s = .bool false ∧ ∃ W, W = wx ∧ Hid (Below wr.heap.size wr W))
              case first =>
                go_region_with (first | (go_at_call 69; refine (within_any _ _ _ _).mono ?_; rintro e w' ⟨rfl, rfl⟩) | (go_at_call 27; refine (isRow_any _ (R k j) _).mono ?_; rintro e w2 ⟨rfl, hb2⟩; have HB2 : Hid _ := hb2; clear hb2))
                all_goals
                  go_wp2_with fail
                  go_meet
                  exact ⟨rfl, _, rfl, hid (bcall (bal (Below.refl _ _) _).drew HB2.out)⟩
              case rest =>
              obtain ⟨rfl, W, rfl, HBW2⟩ := hcut
              have HMW := hid (HMJ.out.below HBW2.out)
              have HBJ2 : Hid (Below (w.heap.size + 1) V0 W) := hid (HBJ.out.trans (HBW2.out.mono (by omega)))
              have hzW : tb < W.heap.size := by have := HBW2.out.size; omega
              have hbrW : br < W.heap.size := by have := HBW2.out.size; omega
              rw [← HBW2.out.cell (by exact hzj)] at t0 t1 t2
              rw [← HBW2.out.cell (by exact hbrz)] at r0 r1 r2 r3 r4 r5 r6 r7
              have HTW := hid (And.intro t0 (And.intro t1 t2))
              have hlen : (ofP (psTo T I R k j)).length < maxLen := by
                have h1 := ofP_le (psTo T I R k j)
                have h2 := psTo_len (T := T) (I := I) (R := R) (j := j) HTT.out (fun i hi => (HZ.out i (by omega)).1)
                unfold maxLen
                omega
              obtain ⟨W6, hrun6, hM6, ht6⟩ := (HMW.out.block (w' := W.drew) rfl).store hwf ⟨(T k).mask, R k j⟩ hlen
              simp only [thV] at hrun6
              have HM6 := hid hM6
              have HT6 := hid ht6
              clear hM6 ht6 hlk cj hlen hx1 t1
              clear HMJ HBJ HTJ
              go_wp2_with fail
              go_region
              all_goals
                go_wp2_with fail
                go_roundw
                case rel =>
                  have hblk : ∀ i, i ≠ w.heap.size + 1 → W6.heap[i]? = W.heap[i]? := fun i hi => turned_block HT6.out hi
                  refine ⟨j + 1, by omega, by go_num, hid (fun i hi => ?_), hid ?_, hid ?_, hid ?_, hid ⟨?_, ?_, ?_⟩, ?_⟩
                  · by_cases e : i = j
                    · subst e
                      exact ⟨by rw [Int.add_sub_cancel]; exact hq, by rw [← isRow_good]; exact hg⟩
                    · exact HGT.out i (by omega)
                  · rw [psTo_succ, List.map_append, List.nodup_append]
                    refine ⟨HNJ.out, by simp, fun x hx y hy => ?_⟩
                    simp at hy
                    subst hy
                    intro e
                    exact HD.out (e ▸ hx)
                  · rw [psTo_succ, ofP_snoc]
                    exact HM6.out
                  · exact HBJ2.out.drew.grown HT6.out.grown (by simp; omega) (fun q hq => by cases hq; exact Nat.le_refl _)
                  · exact (World.cell?_of_block (a := ⟨tb, 0, none⟩) (hblk tb (by omega))).trans HTW.out.1
                  · exact (World.cell?_of_block (a := ⟨tb, 1, none⟩) (hblk tb (by omega))).trans HTW.out.2.1
                  · exact (World.cell?_of_block (a := ⟨tb, 2, none⟩) (hblk tb (by omega))).trans HTW.out.2.2
                  · rw [turned_size HT6.out]
                    exact hzW
                case measure => simp [intOf]; omega
        · have hje : j = (T k).il := by omega
          subst hje
          go_wp2_with fail
          go_roundw
          case rel =>
            have hev : (T k).il = (T k).rl := HIR.out.symm
            refine ⟨k + 1, by omega, by go_num, rfl, hid (fun i hi => ?_), hid ?_, hid ?_, HBJ, HMJ.out.lt⟩
            · by_cases e : i = k
              · subst e
                exact ⟨by omega, by omega, hev, HGT.out⟩
              · exact HTT.out i (by omega)
            · rw [← psTo_end hev]
              exact HNJ.out
            · rw [← psTo_end hev]
              exact HMJ.out
          case measure => simp [intOf]; omega
    · have hke : k = n := by omega
      subst hke
      have hx1 := (HBL.out.cell (p := ⟨w.heap.size, 1, none⟩) (by simp)).trans HX0.out
      have hln := HMP.out.len
      have hev := tabsTo_even HTT.out
      have hkl : (allL (plainOf T I R k)).Nodup := by rw [← keys_prs hev]; exact HND.out
      have hle : (ofP (prs (plainOf T I R k))).length = (allL (plainOf T I R k)).length := thM_len hev hkl
      rw [hle] at hln
      have HE := hid hle
      have HKL := hid hkl
      clear hle hkl hev
      by_cases h10 : (allL (plainOf T I R k)).length ≤ 10
      · have h10' : (((allL (plainOf T I R k)).length : Nat) : Int) ≤ 10 := by omega
        cases hq : btw next 0 1048576
        · go_wp2_with (go_at_call 69; refine (within_any _ _ _ _).mono ?_; rintro e w' ⟨rfl, rfl⟩)
          exact bodyPost_ret (by simp [results, Try.results24, go_sem]; rfl) rfl ⟨Or.inr ⟨fun h => (by have := h.1; rw [hq] at this; cases this), _, rfl⟩, HBW.out _ HBL.out⟩
        · go_wp2_with (go_at_call 69; refine (within_any _ _ _ _).mono ?_; rintro e w' ⟨rfl, rfl⟩)
          refine bodyPost_ret (v := .tuple #[.map (some (w.heap.size + 1)), .bool true]) (by simp [results, Try.results24, go_sem]) rfl ⟨Or.inl ⟨?_, _, rfl, Nat.le_succ _, HMP.out⟩, HBW.out _ HBL.out⟩
          have h1 := HTT.out
          rw [nxW_eq hq] at h1
          exact goodL_iff.2 ⟨hq, h10, h1, HKL.out⟩
      · have h10' : ¬ (((allL (plainOf T I R k)).length : Nat) : Int) ≤ 10 := by omega
        go_wp2_with fail
        exact bodyPost_ret (by simp [results, Try.results24, go_sem]; rfl) rfl ⟨Or.inr ⟨fun h => h10 h.2.1, _, rfl⟩, HBW.out _ HBL.out⟩
end Go.Proofs.Ytckkkdldljhehaa.Th
