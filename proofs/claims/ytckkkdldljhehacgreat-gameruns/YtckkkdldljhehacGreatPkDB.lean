/- Part of the proofs of GamePlays and GameRuns (package ninepinslaw): contracts of the functions that they call. -/
import Derived.Test.YtckkkdldljhehacGreatPkZ2
import Derived.Test.YtckkkdldljhehacGreatPkZ3
import Derived.Test.YtckkkdldljhehacGreatPkDA
namespace Go.Proofs.YtckkkdldljhehacGreat
namespace Rf
open Num St Mp Th Wd Gm Ws
open Go.ChangeShapes Go.WideShapes Go.ChangeAt Go.RowKit
attribute [local go_sem ↓] Go.wp_at_zero Go.wp_at_succ
set_option maxHeartbeats 16000000 in
set_option maxRecDepth 100000 in
theorem rdo_none {F : Nat → Prop} {b : Nat} {s : Gp} {w : World} {k : Int} {id n mask : Int} {row : R8} {box : Sw.B5} (hR : RIn F b s w id mask) (hk : k = 2 ∨ k = 3 ∨ k = 4 ∨ k = 5) (hin : ¬ id ∈ allL s.now.L) : RDone F b s w ⟨k, id, n, mask, row, box⟩ := by
 have ho := (thM_none hR.g.now.l.even).2 hin
 rcases hk with rfl | rfl | rfl | rfl
 all_goals
  unfold RDone
  rw [do_act (r := (s.now, no 3)) hR.a (by simp) (by simp) (by simp [actW, killW, killS, giveW, takeW, kickW, hin])]
  clear hin
  refine (rdoT _ hR none ho _).2 ?_
  intro c vs ms f tb W5 h5
  have H5 := St.hid h5
  have HL := St.hid hR.len
  have HGD := St.hid hR.g
  have HIW := hR.i
  have HA := hR.a
  dsimp only [rdoT]
  intro K1 k1
  obtain ⟨hbz, htn, htl, hcl, hz0, hz1, hz2⟩ := h5.lts
  obtain ⟨a0, a1, a2, a3, a4, a5, a6, a7, a8, a9, a10, a11, a12, a13, a14, a15, a16⟩ := acells h5.ac
  clear h5 hR
  simp only [Option.isSome, Option.getD] at H5 ⊢
  go_wp2_with fail
  refine (rno_any 3 _).mono ?_
  rintro e w9 ⟨rfl, hb9⟩
  have H9 := St.hid (H5.out.below hb9)
  clear hb9
  obtain ⟨p0, p1, p2, p3, p4, p5, p6, p7⟩ := H9.out.rcs
  have hpl := H9.out.rp.lt
  go_wp2_with fail
  obtain ⟨q0, q1, q2, q3⟩ := four (put4 H9.out.rp (.int .i64 3) (.int .i64 0) (.slice none 0 0) (.slice none 0 0))
  exact bodyPost_ret (v := .agg #[.int .i64 3, .int .i64 0, .slice none 0 0, .slice none 0 0]) (by simp [results, Tryz.results27, go_sem, q0, q1, q2, q3]) rfl (H9.out.no 0 3 _ _ _ _)
set_option maxHeartbeats 16000000 in
set_option maxRecDepth 100000 in
theorem rdo_kill {F : Nat → Prop} {b : Nat} {s : Gp} {w : World} {id n mask : Int} {row : R8} {box : Sw.B5} (hR : RIn F b s w id mask) (hin : id ∈ allL s.now.L) : RDone F b s w ⟨2, id, n, mask, row, box⟩ := by
 obtain ⟨t, ht, hin, hmk, hrw, hat, hgr⟩ := there_of hR.g hin
 have hgl := hR.g.now.l
 unfold RDone
 rw [do_act (r := ({ s.now with L := killT id s.now.L }, no 0)) hR.a (by simp) (by simp) (by simp [actW, killW, killS, hin])]
 have HTK := St.hid (thM_killed hgl hin)
 clear hgl hin hmk hrw hat hgr
 refine (rdoT 2 hR (some t) ht _).2 ?_
 intro c vs ms f tb W5 h5
 have H5 := St.hid h5
 have HL := St.hid hR.len
 have HGD := St.hid hR.g
 have HIW := hR.i
 have HA := hR.a
 dsimp only [rdoT]
 intro K1 k1
 obtain ⟨hbz, htn, htl, hcl, hz0, hz1, hz2⟩ := h5.lts
 obtain ⟨a0, a1, a2, a3, a4, a5, a6, a7, a8, a9, a10, a11, a12, a13, a14, a15, a16⟩ := acells h5.ac
 clear h5 hR
 simp only [Option.isSome, Option.getD] at H5 ⊢
 clear ht
 obtain ⟨x0, x1, x2, x3, x4, x5, x6, -⟩ := H5.out.gcs
 go_wp2_with fail
 refine (wcopy_any c _ s.now.next s.now.fall s.now.wide s.now.high _ H5.out.gw.now (by have := HL.out; simp only; omega)).mono ?_
 rintro e w6 ⟨⟨c2, rfl, hc2, hm2⟩, hb6⟩
 have HB6 := St.hid hb6
 have HM2 := St.hid hm2
 clear x0 x1 x2 x3 x4 x5 x6
 obtain ⟨x0, x1, x2, x3, x4, x5, x6, xf0, xf1, xf2, xf3, xf4⟩ := (H5.out.below hb6).gcs
 have hz6 := hb6.size
 have hbz6 : b < w6.heap.size := by omega
 clear hb6 hm2
 go_upto_region 48 with fail
 refine wp_world ?_
 intro W7 hW7
 have H7 := St.hid (H5.out.copied HB6.out hc2 HM2.out hW7)
 clear x0 x1 x2 x3 x4 x5 x6 xf0 xf1 xf2 xf3 xf4 HB6 HM2 hz6 hbz6 hW7 a0 a1 a2 a3 a4 a5 a6 a7 a8 a9 a10 a11 a12 a13 a14 a15 a16
 obtain ⟨-, -, htl7, hcl7, hz07, hz17, hz27⟩ := H7.out.lts
 obtain ⟨a0, a1, a2, a3, a4, a5, a6, a7, a8, a9, a10, a11, a12, a13, a14, a15, a16⟩ := acells H7.out.ac
 obtain ⟨wu, hru, hmu, htu⟩ := H7.out.drew.gw.now.drop HIW 0
 have HD := St.hid H7.out.drew
 go_upto_region 50 with fail
 refine Rh.wp_act ?_
 intro A hA
 refine rreg50_wp _ A b c2 w.heap.size id W7 wu (by rw [hA]; rfl) (by rw [hA]; rfl) (by rw [hA]; exact Nat.le_of_ble_eq_true rfl) ⟨(rgcells HD.out.gw.row).1, (acells HD.out.ac).2.1⟩ hru ?_
 intro f2
 subst hA
 try simp only at hmu
 rw [← HTK.out] at hmu
 have H8 := St.hid (H7.out.turned htu hmu)
 clear hru hmu htu HD
 simp only [Rh.puts, Act.put]
 go_simp
 go_wp2_with fail
 refine (rno_any 0 _).mono ?_
 rintro e w9 ⟨rfl, hb9⟩
 have H9 := St.hid (H8.out.below hb9)
 clear hb9
 obtain ⟨p0, p1, p2, p3, p4, p5, p6, p7⟩ := H9.out.rcs
 have hpl := H9.out.rp.lt
 go_wp2_with fail
 obtain ⟨q0, q1, q2, q3⟩ := four (put4 H9.out.rp (.int .i64 0) (.int .i64 0) (.slice none 0 0) (.slice none 0 0))
 exact bodyPost_ret (v := .agg #[.int .i64 0, .int .i64 0, .slice none 0 0, .slice none 0 0]) (by simp [results, Tryz.results27, go_sem, q0, q1, q2, q3]) rfl (H9.out.no 0 0 _ _ _ _)
end Rf
namespace Rf
open Num St Mp Th Wd Gm Ws
open Go.ChangeShapes Go.WideShapes Go.ChangeAt Go.RowKit
attribute [local go_sem ↓] Go.wp_at_zero Go.wp_at_succ
theorem own_cap {w : World} {B size n c : Nat} {e : TypeId} {a : Option Addr} {xs : List Value} (h : w.ownsRow B e size (.slice a n c) n xs) : n ≤ c := by
 rcases h.2 with ⟨e1, e2⟩ | ⟨g, c', cur, e1, h2⟩
 ·omega
 ·cases e1
  exact h2.2.2.1
set_option maxHeartbeats 16000000 in
set_option maxRecDepth 100000 in
theorem rdo_look {F : Nat → Prop} {b : Nat} {s : Gp} {w : World} {id n mask : Int} {row : R8} {box : Sw.B5} (hR : RIn F b s w id mask) : RDone F b s w ⟨9, id, n, mask, row, box⟩ := by
 unfold RDone
 rw [do_act (r := (s.now, (⟨0, 0, Sw.lookP (boxG s.now.L (rw0 s.now.L)) box, []⟩ : Rep))) hR.a (by simp) (by simp) (by simp [actW])]
 obtain ⟨B, HBE⟩ : ∃ B, Hid (B = boxG s.now.L (rw0 s.now.L)) := ⟨_, rfl⟩
 rw [← HBE.out]
 obtain ⟨o, ho⟩ : ∃ o, getM id (thM s.now.L) = o := ⟨_, rfl⟩
 refine (rdoT 9 hR o ho _).2 ?_
 intro c vs ms f tb W5 h5
 have H5 := St.hid h5
 have HL := St.hid hR.len
 have HGD := St.hid hR.g
 have HIW := hR.i
 have HA := hR.a
 dsimp only [rdoT]
 intro K1 k1
 obtain ⟨hbz, htn, htl, hcl, hz0, hz1, hz2⟩ := h5.lts
 obtain ⟨a0, a1, a2, a3, a4, a5, a6, a7, a8, a9, a10, a11, a12, a13, a14, a15, a16⟩ := acells h5.ac
 clear h5 hR
 have HBX : Hid (∀ W, Below W5.heap.size W5 W → Calls Tryz.prog 53 #[.agg #[.map (some c), .int .i64 s.now.next, .int .i64 s.now.fall, .int .i64 s.now.wide, .int .i64 s.now.high]] W fun e w' => (∃ u, e = .returned u ∧ w'.ownsRow W.heap.size 36 5 u (boxG s.now.L (rw0 s.now.L)).length ((boxG s.now.L (rw0 s.now.L)).flatMap Sw.boxCells)) ∧ Below W.heap.size W w') := St.hid (fun W hb => by
  have h1 := (H5.out.gw.now.below hb)
  simp only at h1
  rw [← with_self HGD.out.now.l] at h1
  exact boxesOf_any c s.now.next s.now.fall s.now.wide s.now.high h1 HGD.out.now.l (rows_ok HGD.out.now.l))
 have hlb : (boxG s.now.L (rw0 s.now.L)).length ≤ 10 := by simp only [boxG, List.length_map]; exact ids_len HGD.out.now.l
 rw [← HBE.out] at HBX hlb
 obtain ⟨x0, x1, x2, x3, x4, x5, x6, -⟩ := H5.out.gcs
 simp only at x0 x1 x2 x3 x4
 go_wp2_with fail
 go_region_with (first
  | (go_at_call 53; go_fit (HBX.out _ (by repeat (first | with_reducible exact Below.refl _ _ | with_reducible refine Below.drew ?_))); rintro e w6 ⟨⟨u, rfl, hu⟩, hb6⟩; obtain ⟨au, cu, rfl, -⟩ := Sw.owns_slice hu; have HQ2 := St.hid (bcall (by repeat (first | with_reducible exact Below.refl _ W5 | with_reducible refine Below.drew ?_)) hb6 : Below W5.heap.size W5 w6); have HLK := St.hid (Sw.lookOf_any au B.length cu B box w6 rfl (by omega) (own_cap hu) (boxL_of hu rfl)); clear hb6 hu a0 a1 a2 a3 a4 a5 a6 a7 a8 a9 a10 a11 a12 a13 a14 a15 a16; obtain ⟨a0, a1, a2, a3, a4, a5, a6, a7, a8, a9, a10, a11, a12, a13, a14, a15, a16⟩ := acells (rowIs_below H5.out.ac HQ2.out))
  | (go_at_call 52; go_fit HLK.out; rintro e w7 ⟨⟨u1, rfl, hu1⟩, hb7⟩; obtain ⟨ai, ci, rfl, -⟩ := Sw.owns_slice hu1; have H7 := St.hid (H5.out.below (bcall HQ2.out hb7)); have HOI := St.hid hu1; have hz6 := HQ2.out.size; clear hb7 hu1; obtain ⟨p0, p1, p2, p3, p4, p5, p6, p7⟩ := H7.out.rcs; have hpl := H7.out.rp.lt))
 all_goals
  go_wp2_with fail
  obtain ⟨q0, q1, q2, q3⟩ := four (put4 H7.out.rp (.int .i64 0) (.int .i64 0) (.slice ai (Sw.lookP B box).length ci) (.slice none 0 0))
  refine bodyPost_ret (v := .agg #[.int .i64 0, .int .i64 0, .slice ai (Sw.lookP B box).length ci, .slice none 0 0]) (by simp [results, Tryz.results27, go_sem, q0, q1, q2, q3]) rfl ⟨_, _, rfl, Rp.IntsR.own (owns_kept HOI.out (grown4 w7 (w.heap.size + 1) _ _ _ _) (fun z hz e => by have := (HOI.out.lt z hz).1; cases e; omega)) rfl, Rp.pairs_nil _ _ _, ⟨F, ⟨c, vs, ms, H7.out.gw.kept (G := fun z => z = w.heap.size + 1) (Gm.Kept.grown (Gm.Kept.below (Below.refl _ w7)) (grown4 w7 (w.heap.size + 1) _ _ _ _) (fun z e => Or.inl (by cases e; rfl))) (fun z hz e => by have := H7.out.fl z hz; omega)⟩, fun z hz => Or.inl hz⟩, H7.out.kw.grown (grown4 w7 (w.heap.size + 1) _ _ _ _) (fun z e => Or.inr (by cases e; omega))⟩
end Rf
end Go.Proofs.YtckkkdldljhehacGreat
