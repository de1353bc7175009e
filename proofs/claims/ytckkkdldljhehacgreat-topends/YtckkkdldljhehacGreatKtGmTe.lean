/- What TopEnds of package ninepinstop answers when called: true; nothing that was in memory before has changed. -/
import Derived.Test.YtckkkdldljhehacGreatKtGmU
import Derived.Deep.RegionHeld3
import Derived.Deep.DeepFit
namespace Go.Proofs.YtckkkdldljhehacGreat.Gm
open Go.Proofs.YtckkkdldljhehacGreat.Num Go.Proofs.YtckkkdldljhehacGreat.St Go.Proofs.YtckkkdldljhehacGreat.Wd
open Go.ChangeShapes Go.WideShapes Go.ChangeAt Go.RowKit

set_option maxHeartbeats 4000000 in
set_option maxRecDepth 100000 in
theorem topEnds_any (size fall : Int) (al : Option Addr) (n cap : Nat) (l : List Ac) (xa : Ac) (w : World) (hl : ActL w al l) (hn : n = l.length) (hz : n * 136 ≤ 140737488355328) :
    Calls Tryz.prog 9 #[.int .i64 size, .int .i64 fall, .slice al n cap, actA xa] w fun e w' => e = .returned (.bool true) ∧ Below w.heap.size w w' := by
  have HP : Hid (∀ W, Below w.heap.size w W → _) := St.hid (fun W hb => play_from hl hn hz size fall cap (w := W) hb)
  have HG := St.hid (playP_good size fall l)
  have HAC : Hid ((playP size fall l).acts = min n 60) := St.hid (by rw [acts_play, hn])
  generalize playP size fall l = s at HP HG HAC
  clear hl hn
  go_enter Tryz.func9, Tryz.ntmps9
  go_wp2_with fail
  have HA0 := St.hid (acBox w xa)
  have HB0 := St.hid (bal (Below.refl _ w) (.cells #[.int .i64 xa.kind, .int .i64 xa.id, .int .i64 xa.n, .int .i64 xa.mask, .int .i64 xa.row.x, .int .i64 xa.row.y, .int .i64 xa.row.px, .int .i64 xa.row.py, .int .i64 xa.row.wd, .int .i64 xa.row.ht, .int .i64 xa.row.ms, .int .i64 xa.row.rr, .int .i64 xa.box.id, .int .i64 xa.box.x1, .int .i64 xa.box.y1, .int .i64 xa.box.x2, .int .i64 xa.box.y2] 38))
  have hz0 : w.heap.size < (w.alloc (.cells #[.int .i64 xa.kind, .int .i64 xa.id, .int .i64 xa.n, .int .i64 xa.mask, .int .i64 xa.row.x, .int .i64 xa.row.y, .int .i64 xa.row.px, .int .i64 xa.row.py, .int .i64 xa.row.wd, .int .i64 xa.row.ht, .int .i64 xa.row.ms, .int .i64 xa.row.rr, .int .i64 xa.box.id, .int .i64 xa.box.x1, .int .i64 xa.box.y1, .int .i64 xa.box.x2, .int .i64 xa.box.y2] 38)).heap.size := by simp
  generalize w.alloc (.cells #[.int .i64 xa.kind, .int .i64 xa.id, .int .i64 xa.n, .int .i64 xa.mask, .int .i64 xa.row.x, .int .i64 xa.row.y, .int .i64 xa.row.px, .int .i64 xa.row.py, .int .i64 xa.row.wd, .int .i64 xa.row.ht, .int .i64 xa.row.ms, .int .i64 xa.row.rr, .int .i64 xa.box.id, .int .i64 xa.box.x1, .int .i64 xa.box.y1, .int .i64 xa.box.x2, .int .i64 xa.box.y2] 38) = W0 at HA0 HB0 hz0 ⊢
  refine (HP.out _ HB0.out).mono ?_
  rintro e w1 ⟨b, F1, rfl, hG1, hF1, hb1⟩
  have HG1 := St.hid hG1
  have HF1 : Hid (∀ z, F1 z → w.heap.size < z) := St.hid (fun z hz => by have := hF1 z hz; omega)
  have HA1 := St.hid (HA0.out.below hb1)
  have HB1 := St.hid (bcall HB0.out hb1)
  clear hG1 hF1 hb1 HA0 HB0 HP
  have hmin : ((min n 60 : Nat) : Int) = min (n : Int) 60 := by omega
  go_wp2_with fail
  go_loopw [11] (fun i wr => ∃ (k : Nat) (F : Nat → Prop) (sk : Gp), min n 60 ≤ k ∧ k ≤ 150 ∧ i = .int .i64 k ∧ sk.acts = k ∧ Hid (GoodG sk) ∧ Hid (Gam wr F b sk) ∧ Hid (∀ z, F z → w.heap.size < z) ∧ Hid (AcBox wr w.heap.size xa) ∧ Hid (Below w.heap.size w wr)) (fun i _ => 150 - (intOf i).toNat)
  case atStart => exact ⟨min n 60, F1, s, Nat.le_refl _, by omega, by rw [hmin], HAC.out, HG, HG1, HF1, HA1, HB1⟩
  case round =>
    clear HG HG1 HF1 HA1 HB1
    obtain ⟨k, F, sk, hk, hk2, rfl, hacs, HGK, HGm, HFK, HAK, HBK⟩ := hrel
    by_cases hlt : k < 150
    · have hlt' : (k : Int) < 150 := by omega
      go_wp2_with fail
      have hd := do_from HGm.out HGK.out HBK.out (fun z hz => by have := HFK.out z hz; omega) zeroA
      have hgd := HGK.out.do zeroA
      rw [do_zero (s := sk) (by omega)] at hd hgd
      refine Calls.mono hd ?_
      clear hd
      rintro e w2 ⟨ai, ci, am, cm, F2, rfl, -, hG2, hF2, -, -, hk2', hb2⟩
      simp only [no, List.length_nil]
      have HG2 := St.hid hG2
      have HGN2 := St.hid hgd
      have HB2 := St.hid hb2
      have HA2 := St.hid (HAK.out.kept hk2' (fun hc => by have := HFK.out _ hc; omega))
      have HF2 : Hid (∀ z, F2 z → w.heap.size < z) := St.hid (fun z hz => (hF2 z hz).elim (fun h => HFK.out z h) (fun h => by have := HAK.out.lt; omega))
      clear hG2 hgd hb2 hk2' hF2
      go_wp2_with fail
      rw [fieldR]
      go_wp2_with fail
      go_roundw
      case rel => exact ⟨k + 1, F2, _, by omega, by omega, by go_num, by simp [hacs], HGN2, HG2, HF2, HA2, HB2⟩
      case measure => simp [intOf]; omega
    · have hke : k = 150 := by omega
      subst hke
      go_wp2_with fail
      refine (world_any HGm.out).mono ?_
      rintro e w3 ⟨⟨a3, n3, c3, rfl, F3, hs3, hF3⟩, hb3⟩
      have HS3 := St.hid hs3
      have HF3 : Hid (∀ z, F3 z → ¬ F z) := St.hid (fun z h3 h1 => by have := hF3 z h3; have := HGm.out.lt h1; omega)
      have HB3 := St.hid (bcall HBK.out hb3)
      have HG3 := St.hid (HGm.out.below hb3)
      have HA3 := St.hid (HAK.out.below hb3)
      have hz3 := hb3.size
      clear hs3 hF3 hb3
      go_wp2_with fail
      have HB3a := St.hid (bal HB3.out (.cells #[.slice a3 n3 c3, .int .i64 sk.now.next, .int .i64 sk.now.fall, .int .i64 sk.now.wide, .int .i64 sk.now.high] 45))
      have HG3a := St.hid (HG3.out.below (bal (Below.refl _ _) (.cells #[.slice a3 n3 c3, .int .i64 sk.now.next, .int .i64 sk.now.fall, .int .i64 sk.now.wide, .int .i64 sk.now.high] 45)))
      have HS3a := St.hid (HS3.out.below (bal (Below.refl _ _) (.cells #[.slice a3 n3 c3, .int .i64 sk.now.next, .int .i64 sk.now.fall, .int .i64 sk.now.wide, .int .i64 sk.now.high] 45)))
      have HA3a := St.hid (HA3.out.below (bal (Below.refl _ _) (.cells #[.slice a3 n3 c3, .int .i64 sk.now.next, .int .i64 sk.now.fall, .int .i64 sk.now.wide, .int .i64 sk.now.high] 45)))
      have HW3 := St.hid (rowIs5 w3 (.slice a3 n3 c3) sk.now.next sk.now.fall sk.now.wide sk.now.high 45)
      have HNW : Hid (¬ F w3.heap.size) := St.hid (fun hc => by have := HG3.out.lt hc; omega)
      generalize hwb : w3.heap.size = wb at HW3 HNW ⊢
      generalize w3.alloc (.cells #[.slice a3 n3 c3, .int .i64 sk.now.next, .int .i64 sk.now.fall, .int .i64 sk.now.wide, .int .i64 sk.now.high] 45) = W3 at HB3a HG3a HS3a HA3a HW3 ⊢
      clear HB3 HG3 HS3 HA3 HGm HAK HBK
      obtain ⟨a0, a1, a2, a3', a4, a5, a6, a7, a8, a9, a10, a11, a12, a13, a14, a15, a16⟩ := HA3a.out.at
      have HD : Hid (Calls Tryz.prog 14 #[.pointer (some ⟨b, 0, none⟩), actA xa] W3.drew fun e w4 => ∃ ai ci am cm F4, e = .returned (.agg #[.int .i64 5, .int .i64 0, .slice ai 0 ci, .slice am 0 cm]) ∧ Gam w4 F4 b sk ∧ Sto w4 F3 (.slice a3 n3 c3) sk.now.L ∧ w4.rowIs wb 45 5 (wcell (.slice a3 n3 c3) sk.now.next sk.now.fall sk.now.wide sk.now.high) ∧ AcBox w4 w.heap.size xa ∧ Below w.heap.size w w4) := St.hid (by
        have hd := do_from (HG3a.out.below (Below.drew (Below.refl _ _))) HGK.out (Below.drew HB3a.out) (fun z hz => by have := HFK.out z hz; omega) xa
        rw [full_do xa (by omega)] at hd
        refine Calls.mono hd ?_
        rintro e w4 ⟨ai, ci, am, cm, F4, rfl, -, hG4, -, -, -, hk4, hb4⟩
        exact ⟨ai, ci, am, cm, F4, rfl, hG4, Sto.kept (HS3a.out.below (Below.drew (Below.refl _ _))) hk4 HF3.out, rowIs_kept (rowIs_below HW3.out (Below.drew (Below.refl _ _))) hk4 HNW.out, (HA3a.out.below (Below.drew (Below.refl _ _))).kept hk4 (fun hc => by have := HFK.out _ hc; omega), hb4⟩)
      have HSR : Hid (∀ (W : World) (ai : Option Addr) (ci : Nat) (am : Option Addr) (cm : Nat), Calls Tryz.prog 15 #[.agg #[.int .i64 5, .int .i64 0, .slice ai 0 ci, .slice am 0 cm], .agg #[.int .i64 5, .int .i64 0, .slice none 0 0, .slice none 0 0]] W fun e w' => e = .returned (.bool true) ∧ Below W.heap.size W w') := St.hid (fun W ai ci am cm => by
        refine (Rp.tsameReply_any 5 0 5 0 (.slice ai 0 ci) (.slice am 0 cm) (.slice none 0 0) (.slice none 0 0) [] [] [] [] W (Rp.ints_nil _ _ _) (Rp.pairs_nil _ _ _) (Rp.ints_nil _ _ _) (Rp.pairs_nil _ _ _) (by simp) (by simp)).mono ?_
        rintro e w' ⟨rfl, hb⟩
        exact ⟨by simp, hb⟩)
      obtain ⟨x0, x1, x2, x3, x4, -, -, -, -, -⟩ := wcells HW3.out
      go_region_held3 (fun W' => W'.cell? ⟨w.heap.size, 0, none⟩ = some (.int .i64 xa.kind) ∧ W'.cell? ⟨w.heap.size, 1, none⟩ = some (.int .i64 xa.id) ∧ W'.cell? ⟨w.heap.size, 2, none⟩ = some (.int .i64 xa.n) ∧ W'.cell? ⟨w.heap.size, 3, none⟩ = some (.int .i64 xa.mask) ∧ W'.cell? ⟨w.heap.size, 4, none⟩ = some (.int .i64 xa.row.x) ∧ W'.cell? ⟨w.heap.size, 5, none⟩ = some (.int .i64 xa.row.y) ∧ W'.cell? ⟨w.heap.size, 6, none⟩ = some (.int .i64 xa.row.px) ∧ W'.cell? ⟨w.heap.size, 7, none⟩ = some (.int .i64 xa.row.py) ∧ W'.cell? ⟨w.heap.size, 8, none⟩ = some (.int .i64 xa.row.wd) ∧ W'.cell? ⟨w.heap.size, 9, none⟩ = some (.int .i64 xa.row.ht) ∧ W'.cell? ⟨w.heap.size, 10, none⟩ = some (.int .i64 xa.row.ms) ∧ W'.cell? ⟨w.heap.size, 11, none⟩ = some (.int .i64 xa.row.rr) ∧ W'.cell? ⟨w.heap.size, 12, none⟩ = some (.int .i64 xa.box.id) ∧ W'.cell? ⟨w.heap.size, 13, none⟩ = some (.int .i64 xa.box.x1) ∧ W'.cell? ⟨w.heap.size, 14, none⟩ = some (.int .i64 xa.box.y1) ∧ W'.cell? ⟨w.heap.size, 15, none⟩ = some (.int .i64 xa.box.x2) ∧ W'.cell? ⟨w.heap.size, 16, none⟩ = some (.int .i64 xa.box.y2) ∧ W'.cell? ⟨wb, 0, none⟩ = some (.slice a3 n3 c3) ∧ W'.cell? ⟨wb, 1, none⟩ = some (.int .i64 sk.now.next) ∧ W'.cell? ⟨wb, 2, none⟩ = some (.int .i64 sk.now.fall) ∧ W'.cell? ⟨wb, 3, none⟩ = some (.int .i64 sk.now.wide) ∧ W'.cell? ⟨wb, 4, none⟩ = some (.int .i64 sk.now.high)) (exact ⟨a0, a1, a2, a3', a4, a5, a6, a7, a8, a9, a10, a11, a12, a13, a14, a15, a16, x0, x1, x2, x3, x4⟩)
        (first
        | (go_at_call 14; go_fit HD.out; rintro e w4 ⟨ai, ci, am, cm, F4, rfl, hG4, hS4, hW4, hA4, hb4⟩; have HG4 := St.hid hG4; have HS4 := St.hid hS4; have HW4 := St.hid hW4; have HA4 := St.hid hA4; have HB4 := St.hid hb4; clear hG4 hS4 hW4 hA4 hb4 a0 a1 a2 a3' a4 a5 a6 a7 a8 a9 a10 a11 a12 a13 a14 a15 a16 x0 x1 x2 x3 x4; obtain ⟨a0, a1, a2, a3', a4, a5, a6, a7, a8, a9, a10, a11, a12, a13, a14, a15, a16⟩ := HA4.out.at; obtain ⟨x0, x1, x2, x3, x4, -, -, -, -, -⟩ := wcells HW4.out)
        | (go_at_call 15; go_fit (HSR.out w4 ai ci am cm); rintro e w5 ⟨rfl, hb5⟩; have HG5 := St.hid (HG4.out.below hb5); have HS5 := St.hid (HS4.out.below hb5); have HW5 := St.hid (rowIs_below HW4.out hb5); have HA5 := St.hid (HA4.out.below hb5); have HB5 := St.hid (bcall HB4.out hb5); clear hb5 a0 a1 a2 a3' a4 a5 a6 a7 a8 a9 a10 a11 a12 a13 a14 a15 a16 x0 x1 x2 x3 x4; obtain ⟨a0, a1, a2, a3', a4, a5, a6, a7, a8, a9, a10, a11, a12, a13, a14, a15, a16⟩ := HA5.out.at; obtain ⟨x0, x1, x2, x3, x4, -, -, -, -, -⟩ := wcells HW5.out)
        | (go_at_call 17; go_fit (world_any HG5.out); rintro e w6 ⟨⟨a6', n6, c6, rfl, F6, hs6, -⟩, hb6⟩; have HS6 := St.hid hs6; have HS6' := St.hid (HS5.out.below hb6); have HW6 := St.hid (rowIs_below HW5.out hb6); have HA6 := St.hid (HA5.out.below hb6); have HB6 := St.hid (bcall HB5.out hb6); clear hs6 hb6 a0 a1 a2 a3' a4 a5 a6 a7 a8 a9 a10 a11 a12 a13 a14 a15 a16 x0 x1 x2 x3 x4; obtain ⟨a0, a1, a2, a3', a4, a5, a6, a7, a8, a9, a10, a11, a12, a13, a14, a15, a16⟩ := HA6.out.at; obtain ⟨x0, x1, x2, x3, x4, -, -, -, -, -⟩ := wcells HW6.out)
        | (go_at_call 16; go_fit (same_now HGK.out.now HS6.out HS6'.out); rintro e w7 ⟨rfl, hb7⟩; have HW7 := St.hid (rowIs_below HW6.out hb7); have HA7 := St.hid (HA6.out.below hb7); have HB7 := St.hid (bcall HB6.out hb7); clear hb7 a0 a1 a2 a3' a4 a5 a6 a7 a8 a9 a10 a11 a12 a13 a14 a15 a16 x0 x1 x2 x3 x4; obtain ⟨a0, a1, a2, a3', a4, a5, a6, a7, a8, a9, a10, a11, a12, a13, a14, a15, a16⟩ := HA7.out.at; obtain ⟨x0, x1, x2, x3, x4, -, -, -, -, -⟩ := wcells HW7.out))
      all_goals
        go_wp2_with fail
        go_ret
        exact ⟨rfl, HB7.out⟩
end Go.Proofs.YtckkkdldljhehacGreat.Gm
