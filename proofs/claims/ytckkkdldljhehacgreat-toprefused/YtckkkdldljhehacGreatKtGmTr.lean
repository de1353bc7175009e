/- What TopRefused of package ninepinstop answers when called: true; nothing that was in memory before has changed. -/
import Derived.Test.YtckkkdldljhehacGreatKtGmU
namespace Go.Proofs.YtckkkdldljhehacGreat.Gm
open Go.Proofs.YtckkkdldljhehacGreat.Num Go.Proofs.YtckkkdldljhehacGreat.St Go.Proofs.YtckkkdldljhehacGreat.Wd
open Go.ChangeShapes Go.WideShapes Go.ChangeAt Go.RowKit

set_option maxHeartbeats 4000000 in
set_option maxRecDepth 100000 in
theorem topRefused_any (size fall : Int) (al : Option Addr) (n cap : Nat) (l : List Ac) (xa : Ac) (w : World) (hl : ActL w al l) (hn : n = l.length) (hz : n * 136 ≤ 140737488355328) :
    Calls Tryz.prog 6 #[.int .i64 size, .int .i64 fall, .slice al n cap, actA xa] w fun e w' => e = .returned (.bool true) ∧ Below w.heap.size w w' := by
  have HP : Hid (∀ W, Below w.heap.size w W → _) := St.hid (fun W hb => play_from hl hn hz size fall cap (w := W) hb)
  have HG := St.hid (playP_good size fall l)
  have HR := St.hid (do_refused (s := playP size fall l) xa)
  generalize playP size fall l = s at HP HG HR
  clear hl hn
  go_enter Tryz.func6, Tryz.ntmps6
  go_wp2_with fail
  have HA0 := St.hid (acBox w xa)
  have HB0 := St.hid (bal (Below.refl _ w) (.cells #[.int .i64 xa.kind, .int .i64 xa.id, .int .i64 xa.n, .int .i64 xa.mask, .int .i64 xa.row.x, .int .i64 xa.row.y, .int .i64 xa.row.px, .int .i64 xa.row.py, .int .i64 xa.row.wd, .int .i64 xa.row.ht, .int .i64 xa.row.ms, .int .i64 xa.row.rr, .int .i64 xa.box.id, .int .i64 xa.box.x1, .int .i64 xa.box.y1, .int .i64 xa.box.x2, .int .i64 xa.box.y2] 38))
  have hz0 : w.heap.size < (w.alloc (.cells #[.int .i64 xa.kind, .int .i64 xa.id, .int .i64 xa.n, .int .i64 xa.mask, .int .i64 xa.row.x, .int .i64 xa.row.y, .int .i64 xa.row.px, .int .i64 xa.row.py, .int .i64 xa.row.wd, .int .i64 xa.row.ht, .int .i64 xa.row.ms, .int .i64 xa.row.rr, .int .i64 xa.box.id, .int .i64 xa.box.x1, .int .i64 xa.box.y1, .int .i64 xa.box.x2, .int .i64 xa.box.y2] 38)).heap.size := by simp
  generalize w.alloc (.cells #[.int .i64 xa.kind, .int .i64 xa.id, .int .i64 xa.n, .int .i64 xa.mask, .int .i64 xa.row.x, .int .i64 xa.row.y, .int .i64 xa.row.px, .int .i64 xa.row.py, .int .i64 xa.row.wd, .int .i64 xa.row.ht, .int .i64 xa.row.ms, .int .i64 xa.row.rr, .int .i64 xa.box.id, .int .i64 xa.box.x1, .int .i64 xa.box.y1, .int .i64 xa.box.x2, .int .i64 xa.box.y2] 38) = W0 at HA0 HB0 hz0 ⊢
  refine (HP.out _ HB0.out).mono ?_
  rintro e w1 ⟨b1, F1, rfl, hG1, hF1, hb1⟩
  have HG1 := St.hid hG1
  have HF1 := St.hid hF1
  have HA1 := St.hid (HA0.out.below hb1)
  have HB1 := St.hid (bcall HB0.out hb1)
  have hz1 := hb1.size
  clear hG1 hF1 hb1 HA0
  go_wp2_with fail
  refine (HP.out _ HB1.out).mono ?_
  rintro e w2 ⟨b2, F2, rfl, hG2, hF2, hb2⟩
  have HG1' := St.hid (HG1.out.below hb2)
  have HF12 : Hid (∀ z, F2 z → ¬ F1 z) := St.hid (fun z h2 h1 => by have := HG1.out.lt h1; have := hF2 z h2; omega)
  have HG2 := St.hid hG2
  have HA2 := St.hid (HA1.out.below hb2)
  have HB2 := St.hid (bcall HB1.out hb2)
  have HF1' : Hid (∀ z, F1 z → w.heap.size ≤ z) := St.hid (fun z hz => by have := HF1.out z hz; omega)
  have HNA : Hid (¬ F1 w.heap.size) := St.hid (fun hc => by have := HF1.out _ hc; omega)
  have hz2 := hb2.size
  clear hG2 hF2 hb2 HA1 HG1 HF1 HB1 HB0
  obtain ⟨a0, a1, a2, a3, a4, a5, a6, a7, a8, a9, a10, a11, a12, a13, a14, a15, a16⟩ := HA2.out.at
  go_wp2_with fail
  refine (do_from HG1'.out HG.out HB2.out HF1'.out xa).mono ?_
  rintro e w3 ⟨ai, ci, am, cm, F3, rfl, -, hG3, hF3, -, -, hk3, hb3⟩
  have HG2' := St.hid (HG2.out.kept hk3 HF12.out)
  have HG3 := St.hid hG3
  have HB3 := St.hid hb3
  have HGN3 := St.hid (HG.out.do xa)
  clear hG3 hF3 hk3 hb3 HG2 HG1' HA2 a0 a1 a2 a3 a4 a5 a6 a7 a8 a9 a10 a11 a12 a13 a14 a15 a16
  by_cases hc : (doG s xa).2.code = 0
  · rw [hc]
    go_wp2_with fail
    go_ret
    exact ⟨rfl, bal HB3.out _⟩
  · obtain ⟨hn, hi, hm, hnow⟩ := HR.out.resolve_left hc
    have HNOW := St.hid hnow
    rw [hn, hi, hm]
    simp only [List.length_nil]
    generalize (doG s xa).2.code = rc at hc ⊢
    generalize (doG s xa).1 = s3 at HG3 HGN3 HNOW
    have b1 : (rc == 0) = false := by simpa using hc
    clear hn hi hm hnow HR
    have HG3a := St.hid (HG3.out.below (bal (Below.refl _ _) (.cells #[.int .i64 rc, .int .i64 0, .slice ai 0 ci, .slice am 0 cm] 31)))
    have HG2a := St.hid (HG2'.out.below (bal (Below.refl _ _) (.cells #[.int .i64 rc, .int .i64 0, .slice ai 0 ci, .slice am 0 cm] 31)))
    have HB3a := St.hid (bal HB3.out (.cells #[.int .i64 rc, .int .i64 0, .slice ai 0 ci, .slice am 0 cm] 31))
    go_wp2_with fail
    refine (world_any HG3a.out).mono ?_
    rintro e w4 ⟨⟨a4, n4, c4, rfl, F4, hs4, -⟩, hb4⟩
    rw [HNOW.out] at hs4
    simp only [HNOW.out]
    have HS4 := St.hid hs4
    have HB4 := St.hid (bcall HB3a.out hb4)
    have HG4 := St.hid (HG2a.out.below hb4)
    clear hs4 hb4 HG3a HG2a HB3a HG3 HG2' HB3
    go_wp2_with fail
    refine (world_any HG4.out).mono ?_
    rintro e w5 ⟨⟨a5, n5, c5, rfl, F5, hs5, -⟩, hb5⟩
    have HS4' := St.hid (HS4.out.below hb5)
    have HS5 := St.hid hs5
    have HB5 := St.hid (bcall HB4.out hb5)
    clear hs5 hb5 HS4 HB4 HG4
    go_wp2_with fail
    refine (same_now HG.out.now HS4'.out HS5.out).mono ?_
    rintro e w6 ⟨rfl, hb6⟩
    have HB6 := St.hid (bcall HB5.out hb6)
    clear hb6
    go_wp2_with fail
    go_ret
    exact ⟨rfl, HB6.out⟩
end Go.Proofs.YtckkkdldljhehacGreat.Gm
