/- Part of the proofs of GamePlays and GameRuns (package ninepinslaw): contracts of the functions that they call. -/
import Derived.Test.YtckkkdldljhehacGreatPkRB
import Derived.Test.YtckkkdldljhehacGreatPkDC
namespace Go.Proofs.YtckkkdldljhehacGreat
namespace Rf
open Num St Mp Th Wd Gm Ws
open Go.ChangeShapes Go.WideShapes Go.ChangeAt Go.RowKit
attribute [local go_sem ↓] Go.wp_at_zero Go.wp_at_succ
structure Plan (s : Gp) (x : Ac) (t : Th) (M : Int) (rn : R8) (hv : Bool) : Prop where
 row : ∀ W, Calls Tryz.prog 49 #[.int .i64 M, .agg #[.int .i64 rn.x, .int .i64 rn.y, .int .i64 rn.px, .int .i64 rn.py, .int .i64 rn.wd, .int .i64 rn.ht, .int .i64 rn.ms, .int .i64 rn.rr]] W fun e w' => e = .returned (.bool (goodRowB M rn)) ∧ Below W.heap.size W w'
 has : ∀ W, Calls Tryz.prog 54 #[.int .i64 t.m, .int .i64 x.mask] W fun e w' => e = .returned (.bool hv) ∧ w' = W
 put : goodRowB M rn = true → putM x.id ⟨M, rn⟩ (thM s.now.L) = thM (putT M x.id rn (killT x.id s.now.L))
 eq : doG s x = (if goodRowB M rn = true then ({ s with now := { s.now with L := putT M x.id rn (killT x.id s.now.L) }, acts := s.acts + 1 }, no 0) else ({ s with acts := s.acts + 1 }, no 2))
theorem Plan.p2 {s : Gp} {x : Ac} {t : Th} {M : Int} {rn : R8} {hv : Bool} {w w' : World} {F : Nat → Prop} {b : Nat} {e : Ending} (h : Plan s x t M rn hv) (hg : goodRowB M rn = false) (hx : PostR w F b { s with acts := s.acts + 1 } (no 2) e w') : PostR w F b (doG s x).1 (doG s x).2 e w' := by rw [h.eq, hg]; exact hx
theorem Plan.p3 {s : Gp} {x : Ac} {t : Th} {M : Int} {rn : R8} {hv : Bool} {w w' : World} {F : Nat → Prop} {b : Nat} {e : Ending} (h : Plan s x t M rn hv) (hg : goodRowB M rn = true) (hx : PostR w F b { s with now := { s.now with L := putT M x.id rn (killT x.id s.now.L) }, acts := s.acts + 1 } (no 0) e w') : PostR w F b (doG s x).1 (doG s x).2 e w' := by rw [h.eq, hg]; exact hx
theorem has_at {t : Th} {mask : Int} {v : Bool} (hg : goodRowB t.m t.r = true) (hpp : mask ∈ parts) (h2 : hasB t.m mask = v) (W : World) : Calls Tryz.prog 54 #[.int .i64 t.m, .int .i64 mask] W fun e w' => e = .returned (.bool v) ∧ w' = W := by
 have hmm := mask_in2 hg
 rw [← h2, ← has_parts hmm hpp]
 exact Th.has_any t.m mask ⟨by omega, by omega⟩ (part_in hpp) W
theorem plan_of {F : Nat → Prop} {b : Nat} {s : Gp} {w : World} {k id n mask : Int} {row zr rn : R8} {box : Sw.B5} {t : Th} {M : Int} {hv : Bool} (hR : RIn F b s w id mask) (hT : There s id t) (hpp : mask ∈ parts) (h2 : hasB t.m mask = hv) (h7 : ¬ k = 7) (h8 : ¬ k = 8) (hch : chR M t.m t.r zr = rn) (ha : actW s.now ⟨k, id, n, mask, row, box⟩ = changeW s.now id M zr) : Plan s ⟨k, id, n, mask, row, box⟩ t M rn hv where
 row := fun W => by have h1 := isRow_any M rn W; rw [isRow_good] at h1; exact h1
 has := has_at hT.good hpp h2
 put := fun h => (thM_changed hR.g.now.l hT.at_ h (thM_up _) (fun _ _ => rfl)).symm
 eq := by
  have ea : actW s.now ⟨k, id, n, mask, row, box⟩ = (if goodRowB M rn = true then ({ s.now with L := putT M id rn (killT id s.now.L) }, no 0) else (s.now, no 2)) := by
   rw [ha]
   unfold changeW changeS
   rw [if_pos hT.inn, hT.msk, hT.rw, hch]
   cases goodRowB M rn <;> simp
  rw [do_act hR.a h7 h8 ea]
  cases goodRowB M rn <;> rfl
set_option maxHeartbeats 16000000 in
set_option maxRecDepth 100000 in
theorem rdo_not {F : Nat → Prop} {b : Nat} {s : Gp} {w : World} {k : Int} {id n mask : Int} {row : R8} {box : Sw.B5} (hR : RIn F b s w id mask) (hk : k = 3 ∨ k = 4) (t : Th) (hT : There s id t) (hq : oneB mask = false ∨ (mask ∈ parts ∧ hasB t.m mask = decide (k = 3))) : RDone F b s w ⟨k, id, n, mask, row, box⟩ := by
 have ho := hT.get
 rcases hk with rfl | rfl
 all_goals
  rcases hq with h1 | ⟨hpp, h2⟩
  ·unfold RDone
   rw [do_act (r := (s.now, no 1)) hR.a (by simp) (by simp) (by simp [actW, giveW, takeW, hT.inn, h1])]
   obtain ⟨e1, e2, e4, e8, e16⟩ := not_one h1
   clear h1 hT
   refine (rdoT _ hR (some t) ho _).2 ?_
   intro c vs ms f tb W5 h5
   have H5 := St.hid h5
   have HL := St.hid hR.len
   have HGD := St.hid hR.g
   have HIW := hR.i
   have HA := hR.a
   dsimp only [rdoT]
   intro K1 k1
   obtain ⟨hbz, htn, htl, hcl, hz0, hz1, hz2⟩ := h5.lts
   obtain ⟨a0, a1, a2, a3, a4, a5, a6, a7, a8, a9, a10, a11, a12, a13, a14, a15, a16⟩ := acells h5.ac
   clear h5 hR
   simp only [Option.isSome, Option.getD] at H5 ⊢
   clear ho
   obtain ⟨x0, x1, x2, x3, x4, x5, x6, -⟩ := H5.out.gcs
   go_wp2_with fail
   refine (wcopy_any c _ s.now.next s.now.fall s.now.wide s.now.high _ H5.out.gw.now (by have := HL.out; simp only; omega)).mono ?_
   rintro e w6 ⟨⟨c2, rfl, hc2, hm2⟩, hb6⟩
   have HB6 := St.hid hb6
   have HM2 := St.hid hm2
   clear x0 x1 x2 x3 x4 x5 x6
   obtain ⟨x0, x1, x2, x3, x4, x5, x6, xf0, xf1, xf2, xf3, xf4⟩ := (H5.out.below hb6).gcs
   have hz6 := hb6.size
   have hbz6 : b < w6.heap.size := by omega
   clear hb6 hm2
   go_upto_region 48 with fail
   refine wp_world ?_
   intro W7 hW7
   have H7 := St.hid (H5.out.copied HB6.out hc2 HM2.out hW7)
   clear x0 x1 x2 x3 x4 x5 x6 xf0 xf1 xf2 xf3 xf4 HB6 HM2 hz6 hbz6 hW7 a0 a1 a2 a3 a4 a5 a6 a7 a8 a9 a10 a11 a12 a13 a14 a15 a16
   obtain ⟨-, -, htl7, hcl7, hz07, hz17, hz27⟩ := H7.out.lts
   obtain ⟨a0, a1, a2, a3, a4, a5, a6, a7, a8, a9, a10, a11, a12, a13, a14, a15, a16⟩ := acells H7.out.ac
   obtain ⟨t0, t1, t2, t3, t4, t5, t6, t7, t8⟩ := th9 H7.out.th
   go_wp2_with fail
   go_quiet (fail)
   replace H7 := St.hid (H7.out.below (below_drewN (Below.refl _ W7) nq))
   go_wp2_with fail
   refine (rno_any 1 _).mono ?_
   rintro e w9 ⟨rfl, hb9⟩
   have H9 := St.hid (H7.out.below hb9)
   clear hb9
   obtain ⟨p0, p1, p2, p3, p4, p5, p6, p7⟩ := H9.out.rcs
   have hpl := H9.out.rp.lt
   go_wp2_with fail
   obtain ⟨q0, q1, q2, q3⟩ := four (put4 H9.out.rp (.int .i64 1) (.int .i64 0) (.slice none 0 0) (.slice none 0 0))
   exact bodyPost_ret (v := .agg #[.int .i64 1, .int .i64 0, .slice none 0 0, .slice none 0 0]) (by simp [results, Tryz.results27, go_sem, q0, q1, q2, q3]) rfl (H9.out.no 0 1 _ _ _ _)
  ·simp at h2
   unfold RDone
   rw [do_act (r := (s.now, no 1)) hR.a (by simp) (by simp) (by simp [actW, giveW, takeW, hT.inn, hT.msk, h2])]
   have HHS := St.hid (has_at hT.good hpp h2)
   have HPP := St.hid hpp
   clear hpp h2 hT
   refine (rdoT _ hR (some t) ho _).2 ?_
   intro c vs ms f tb W5 h5
   have H5 := St.hid h5
   have HL := St.hid hR.len
   have HGD := St.hid hR.g
   have HIW := hR.i
   have HA := hR.a
   dsimp only [rdoT]
   intro K1 k1
   obtain ⟨hbz, htn, htl, hcl, hz0, hz1, hz2⟩ := h5.lts
   obtain ⟨a0, a1, a2, a3, a4, a5, a6, a7, a8, a9, a10, a11, a12, a13, a14, a15, a16⟩ := acells h5.ac
   clear h5 hR
   simp only [Option.isSome, Option.getD] at H5 ⊢
   clear ho
   obtain ⟨x0, x1, x2, x3, x4, x5, x6, -⟩ := H5.out.gcs
   go_wp2_with fail
   refine (wcopy_any c _ s.now.next s.now.fall s.now.wide s.now.high _ H5.out.gw.now (by have := HL.out; simp only; omega)).mono ?_
   rintro e w6 ⟨⟨c2, rfl, hc2, hm2⟩, hb6⟩
   have HB6 := St.hid hb6
   have HM2 := St.hid hm2
   clear x0 x1 x2 x3 x4 x5 x6
   obtain ⟨x0, x1, x2, x3, x4, x5, x6, xf0, xf1, xf2, xf3, xf4⟩ := (H5.out.below hb6).gcs
   have hz6 := hb6.size
   have hbz6 : b < w6.heap.size := by omega
   clear hb6 hm2
   go_upto_region 48 with fail
   refine wp_world ?_
   intro W7 hW7
   have H7 := St.hid (H5.out.copied HB6.out hc2 HM2.out hW7)
   clear x0 x1 x2 x3 x4 x5 x6 xf0 xf1 xf2 xf3 xf4 HB6 HM2 hz6 hbz6 hW7 a0 a1 a2 a3 a4 a5 a6 a7 a8 a9 a10 a11 a12 a13 a14 a15 a16
   obtain ⟨-, -, htl7, hcl7, hz07, hz17, hz27⟩ := H7.out.lts
   obtain ⟨a0, a1, a2, a3, a4, a5, a6, a7, a8, a9, a10, a11, a12, a13, a14, a15, a16⟩ := acells H7.out.ac
   obtain ⟨t0, t1, t2, t3, t4, t5, t6, t7, t8⟩ := th9 H7.out.th
   rcases part_cases HPP.out with ⟨e1, e2, e4, e8, e16⟩ | ⟨e1, e2, e4, e8, e16⟩ | ⟨e1, e2, e4, e8, e16⟩ | ⟨e1, e2, e4, e8, e16⟩ | ⟨e1, e2, e4, e8, e16⟩
   all_goals
    go_wp2_with fail
    go_quiet ((go_at_call 54; exact Calls.quiet_of_same (HHS.out _)))
    replace H7 := St.hid (H7.out.below (below_drewN (Below.refl _ W7) nq))
    go_wp2_with fail
    refine (rno_any 1 _).mono ?_
    rintro e w9 ⟨rfl, hb9⟩
    have H9 := St.hid (H7.out.below hb9)
    clear hb9
    obtain ⟨p0, p1, p2, p3, p4, p5, p6, p7⟩ := H9.out.rcs
    have hpl := H9.out.rp.lt
    go_wp2_with fail
    obtain ⟨q0, q1, q2, q3⟩ := four (put4 H9.out.rp (.int .i64 1) (.int .i64 0) (.slice none 0 0) (.slice none 0 0))
    exact bodyPost_ret (v := .agg #[.int .i64 1, .int .i64 0, .slice none 0 0, .slice none 0 0]) (by simp [results, Tryz.results27, go_sem, q0, q1, q2, q3]) rfl (H9.out.no 0 1 _ _ _ _)
end Rf
end Go.Proofs.YtckkkdldljhehacGreat
