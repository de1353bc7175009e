/- Part of the proofs of GamePlays and GameRuns (package ninepinslaw): contracts of the functions that they call. -/
import Derived.Deep.RegionWith
import Derived.Test.YtckkkdldljhehacGreatPkS
import Derived.Test.YtckkkdldljhehacGreatPkX
namespace Go.Proofs.YtckkkdldljhehacGreat
namespace Gm
open Num St Wd
open Go.ChangeShapes Go.WideShapes Go.ChangeAt Go.RowKit
attribute [local go_sem ↓] Go.wp_at_zero Go.wp_at_succ
set_option maxHeartbeats 4000000 in
set_option maxRecDepth 100000 in
theorem do_kill {F : Nat → Prop} {b : Nat} {s : Gp} {w : World} {id n mask : Int} {row : R8} {box : Sw.B5} (hR : GIn F b s w) : GDone F b s w ⟨2, id, n, mask, row, box⟩ := by
 have e : doG s ⟨2, id, n, mask, row, box⟩ = ({ s with now := { s.now with L := (killS s.now.L id).1 }, acts := s.acts + 1 }, ⟨(killS s.now.L id).2, 0, [], []⟩) := by
  rw [do_act (r := killW s.now id) hR.a (by simp) (by simp) (by simp [actW])]
  rfl
 unfold GDone
 rw [e]
 have HGD := St.hid hR.next
 have HST : Hid ((killS s.now.L id).2 ≠ 0 → ({ s with now := { s.now with L := (killS s.now.L id).1 }, acts := s.acts + 1 } : Gp) = { s with acts := s.acts + 1 }) := St.hid (fun hne => by
  unfold killS at *
  split at hne
  ·simp at hne
  ·rename_i h; rw [if_neg h])
 have HCH : Hid (∀ W Fs a nn c, Sto W Fs (.slice a nn c) s.now.L → Calls Tryz.prog 33 #[.agg #[.slice a nn c, .int .i64 s.now.next], .int .i64 id] W fun e w' =>
   (∃ a n c, e = .returned (.tuple #[.agg #[.slice a n c, .int .i64 s.now.next], .int .i64 (killS s.now.L id).2]) ∧ ∃ F', Sto w' F' (.slice a n c) (killS s.now.L id).1 ∧ ∀ b, F' b → W.heap.size ≤ b) ∧ Below W.heap.size W w') :=
  St.hid (fun W Fs a nn c h => h.kill s.now.next HGD.out.now.l id)
 clear e
 simp only []
 generalize (killS s.now.L id).1 = L' at HCH HST ⊢
 generalize (killS s.now.L id).2 = ec at HCH HST ⊢
 refine (gdoT 2 hR _).2 ?_
 intro W h5
 have H5 := St.hid h5
 have hzW := h5.sz
 obtain ⟨a0, a1, a2, a3, a4, a5, a6, a7, a8, a9, a10, a11, a12, a13, a14, a15, a16⟩ := acells h5.ac
 clear h5
 dsimp only [gdoT]
 intro K1 k1
 go_wp2_with fail
 obtain ⟨v, vs, sv, Fs, hGP⟩ := H5.out.gw
 obtain ⟨a, nn, c, rfl⟩ := hGP.now.one
 have HGW := St.hid hGP
 clear hGP
 obtain ⟨x0, x1, -, -, -, -, -⟩ := gcells HGW.out.row
 go_region_with (first
  | (go_at_call 33; go_fit (HCH.out _ _ _ _ _ (HGW.out.now.below (by repeat (first | with_reducible exact Below.refl _ _ | with_reducible refine Below.drew ?_)))); rintro e w2 ⟨⟨aa, n1, c1, rfl, F1, hs1, hF1⟩, hb2⟩; have HQ2 := St.hid (bcall (by repeat (first | with_reducible exact Below.refl _ W | with_reducible refine Below.drew ?_)) hb2 : Below W.heap.size W w2); have HS1 := St.hid hs1; have HF1 : Hid (∀ z, F1 z → W.heap.size ≤ z) := St.hid (fun z hz => hF1 z hz); clear hb2 hs1 hF1)
  | (go_at_call 32; go_fit (become_any (HGW.out.below HQ2.out) HS1.out (new_not HGW.out.lt HF1.out (Nat.le_refl _)) s.now.next ec); rintro e w1 ⟨rfl, ⟨F3, hG4, hF3⟩, hk3⟩; have hRP1 := St.hid (rowIs_kept (rowIs_below H5.out.rp HQ2.out) hk3 (fun hc => by have := H5.out.fl _ hc; omega)); have HG4 := St.hid hG4; have HK3 := St.hid hk3; have HF3 := St.hid hF3; clear hG4 hk3 hF3; obtain ⟨p0, p1, p2, p3, p4, p5, p6, p7⟩ := rcs hRP1.out))
 all_goals
  go_wp2_with fail
  obtain ⟨q0, q1, q2, q3⟩ := four (put4 hRP1.out (.int .i64 ec) (.int .i64 0) (.slice none 0 0) (.slice none 0 0))
  refine bodyPost_ret (v := .agg #[.int .i64 ec, .int .i64 0, .slice none 0 0, .slice none 0 0]) (by simp [results, Tryz.results14, go_sem, q0, q1, q2, q3]) rfl ?_
  refine postD_of (met := []) (am := none) (cm := 0) H5.out.fl H5.out.kw (by omega) (World.ownsRow_nil _ _ _ _) ⟨F3, ?_, (fun z hz => (HF3.out z hz).imp (fun h => h) (fun h => HF1.out z h)), (fun z hz => by cases hz)⟩ ((Kept.below HQ2.out).trans HK3.out (fun z h => Or.inl h)) _ _ _ _
  have h := HG4.out
  by_cases he : ec = 0
  ·rw [if_pos he] at h; exact h
  ·rw [if_neg he] at h; rw [HST.out he]; exact h
theorem postD_ids {w W w1 : World} {F : Nat → Prop} {b : Nat} {s : Gp} {ids : List Int} {ai : Option Addr} {ci : Nat} (hF : ∀ z, F z → z < w.heap.size) (hk : Kept F w W) (hW : w.heap.size + 2 ≤ W.heap.size)
  (hown : w1.ownsRow W.heap.size 3 1 (.slice ai ids.length ci) ids.length (ids.map (Value.int .i64))) (hG : Gam W F b s) (hk1 : Below W.heap.size W w1) (x0 x1 x2 x3 : Value) :
  PostD w F b s ⟨0, 0, ids, []⟩ (.returned (.agg #[.int .i64 0, .int .i64 0, .slice ai ids.length ci, .slice none 0 0])) ((((w1.setCell ⟨w.heap.size + 1, 0, none⟩ x0).setCell ⟨w.heap.size + 1, 1, none⟩ x1).setCell ⟨w.heap.size + 1, 2, none⟩ x2).setCell ⟨w.heap.size + 1, 3, none⟩ x3) := by
 refine ⟨ai, ci, none, 0, rfl, owns_mono (owns_kept hown (grown4 w1 (w.heap.size + 1) _ _ _ _) (fun z hz e => ?_)) (by omega), World.ownsRow_nil _ _ _ _, ⟨F, Gam.grown (hG.below hk1) (grown4 w1 (w.heap.size + 1) _ _ _ _) (fun hc => ?_), fun z hz => Or.inl hz, fun z hz => ?_⟩, kept_grown (hk.trans (Kept.below (F := F) hk1) (fun z h => Or.inl h)) (grown4 w1 (w.heap.size + 1) _ _ _ _) (by omega)⟩
 ·cases e; have := (hown.lt _ hz).1; omega
 ·have := hF _ hc; omega
 ·rcases hz with hz | hz
  ·exact fun hc => by have := (hown.lt _ hz).1; have := hF _ hc; omega
  ·cases hz
theorem boxes_plain {F : Nat → Prop} {v : Value} {L : List Tab} {w : World} (next : Int) (h : Sto w F v L) (hg : GoodL next L) : Calls Tryz.prog 18 #[.agg #[v, .int .i64 next]] w fun e w' =>
   (∃ u, e = .returned u ∧ w'.ownsRow w.heap.size 36 5 u (boxG L (rw0 L)).length ((boxG L (rw0 L)).flatMap Sw.boxCells)) ∧ Below w.heap.size w w' :=
 boxes_any (g := rw0 L) next (by rw [with_self hg]; exact h) hg (rows_ok hg)
set_option maxHeartbeats 4000000 in
set_option maxRecDepth 100000 in
theorem do_look {F : Nat → Prop} {b : Nat} {s : Gp} {w : World} {id n mask : Int} {row : R8} {box : Sw.B5} (hR : GIn F b s w) : GDone F b s w ⟨9, id, n, mask, row, box⟩ := by
 have e : doG s ⟨9, id, n, mask, row, box⟩ = ({ s with acts := s.acts + 1 }, ⟨0, 0, Sw.lookP (boxG s.now.L (rw0 s.now.L)) box, []⟩) := do_act (r := (s.now, ⟨0, 0, Sw.lookP (boxG s.now.L (rw0 s.now.L)) box, []⟩)) hR.a (by simp) (by simp) (by simp [actW])
 unfold GDone
 rw [e]
 have HGD := St.hid hR.next
 have HBX : Hid (∀ W Fs a nn c, Sto W Fs (.slice a nn c) s.now.L → Calls Tryz.prog 18 #[.agg #[.slice a nn c, .int .i64 s.now.next]] W fun e w' =>
   (∃ u, e = .returned u ∧ w'.ownsRow W.heap.size 36 5 u (boxG s.now.L (rw0 s.now.L)).length ((boxG s.now.L (rw0 s.now.L)).flatMap Sw.boxCells)) ∧ Below W.heap.size W w') :=
  St.hid (fun W Fs a nn c h => boxes_plain s.now.next h HGD.out.now.l)
 have hlb : (boxG s.now.L (rw0 s.now.L)).length ≤ 10 := by simp [boxG]; exact ids_len HGD.out.now.l
 clear e
 simp only []
 generalize boxG s.now.L (rw0 s.now.L) = B at HBX hlb ⊢
 refine (gdoT 9 hR _).2 ?_
 intro W h5
 have H5 := St.hid h5
 have hzW := h5.sz
 obtain ⟨a0, a1, a2, a3, a4, a5, a6, a7, a8, a9, a10, a11, a12, a13, a14, a15, a16⟩ := acells h5.ac
 clear h5
 dsimp only [gdoT]
 intro K1 k1
 go_wp2_with fail
 obtain ⟨v, vs, sv, Fs, hGP⟩ := H5.out.gw
 obtain ⟨a, nn, c, rfl⟩ := hGP.now.one
 have HGW := St.hid hGP
 clear hGP
 obtain ⟨x0, x1, -, -, -, -, -⟩ := gcells HGW.out.row
 go_region_with (first
  | (go_at_call 18; go_fit (HBX.out _ _ _ _ _ (HGW.out.now.below (by repeat (first | with_reducible exact Below.refl _ _ | with_reducible refine Below.drew ?_)))); rintro e w2 ⟨⟨u, rfl, hu⟩, hb2⟩; obtain ⟨au, cu, rfl⟩ := own_form hu; have HQ2 := St.hid (bcall (by repeat (first | with_reducible exact Below.refl _ W | with_reducible refine Below.drew ?_)) hb2 : Below W.heap.size W w2); have HLK := St.hid (Sw.look_any au B.length cu B box w2 rfl (by omega) (boxL_of hu rfl)); have hAC2 := rowIs_below H5.out.ac HQ2.out; clear hb2 hu; obtain ⟨-, -, -, -, -, -, -, -, -, -, -, -, b12, b13, b14, b15, b16⟩ := acells hAC2; clear hAC2)
  | (go_at_call 40; go_fit HLK.out; rintro e w1 ⟨⟨u1, rfl, hu1⟩, hb1⟩; obtain ⟨ai, ci, rfl⟩ := own_form hu1; have HQ1 := St.hid (bcall HQ2.out hb1); have HOI := St.hid (owns_mono hu1 HQ2.out.size); have hRP1 := St.hid (rowIs_below H5.out.rp HQ1.out); clear hb1 hu1; obtain ⟨p0, p1, p2, p3, p4, p5, p6, p7⟩ := rcs hRP1.out))
 all_goals
  go_wp2_with fail
  obtain ⟨q0, q1, q2, q3⟩ := four (put4 hRP1.out (.int .i64 0) (.int .i64 0) (.slice ai (Sw.lookP B box).length ci) (.slice none 0 0))
  exact bodyPost_ret (v := .agg #[.int .i64 0, .int .i64 0, .slice ai (Sw.lookP B box).length ci, .slice none 0 0]) (by simp [results, Tryz.results14, go_sem, q0, q1, q2, q3]) rfl (postD_ids H5.out.fl H5.out.kw (by omega) HOI.out H5.out.gw HQ1.out _ _ _ _)
set_option maxHeartbeats 4000000 in
set_option maxRecDepth 100000 in
theorem do_other {F : Nat → Prop} {b : Nat} {s : Gp} {w : World} (k : Int) (h1 : ¬ k = 1) (h2 : ¬ k = 2) (h3 : ¬ k = 3) (h4 : ¬ k = 4) (h5 : ¬ k = 5) (h6 : ¬ k = 6) (h7 : ¬ k = 7) (h8 : ¬ k = 8) (h9 : ¬ k = 9) {id n mask : Int} {row : R8} {box : Sw.B5} (hR : GIn F b s w) : GDone F b s w ⟨k, id, n, mask, row, box⟩ := by
 have e : doG s ⟨k, id, n, mask, row, box⟩ = ({ s with acts := s.acts + 1 }, no 4) := do_act (r := (s.now, no 4)) hR.a h7 h8 (by simp [actW, h1, h2, h3, h4, h5, h6, h9])
 unfold GDone
 rw [e]
 clear e
 refine (gdoT k hR _).2 ?_
 intro W h5
 have H5 := St.hid h5
 have hzW := h5.sz
 obtain ⟨a0, a1, a2, a3, a4, a5, a6, a7, a8, a9, a10, a11, a12, a13, a14, a15, a16⟩ := acells h5.ac
 clear h5
 dsimp only [gdoT]
 intro K1 k1
 go_wp2_with fail
 refine (refused_any 4 _).mono ?_
 rintro e w1 ⟨rfl, hb1⟩
 have hRP1 := St.hid (rowIs_below H5.out.rp hb1)
 have HB1 := St.hid hb1
 have hz1 := hb1.size
 clear hb1
 obtain ⟨p0, p1, p2, p3, p4, p5, p6, p7⟩ := rcs hRP1.out
 have hlt1 : w.heap.size + 1 < w1.heap.size := by omega
 go_wp2_with fail
 obtain ⟨q0, q1, q2, q3⟩ := four (put4 hRP1.out (.int .i64 4) (.int .i64 0) (.slice none 0 0) (.slice none 0 0))
 exact bodyPost_ret (v := .agg #[.int .i64 4, .int .i64 0, .slice none 0 0, .slice none 0 0]) (by simp [results, Tryz.results14, go_sem, q0, q1, q2, q3]) rfl (postD_of (met := []) (am := none) (cm := 0) H5.out.fl (H5.out.kw) (by omega) (World.ownsRow_nil _ _ _ _) ⟨F, H5.out.gw.below HB1.out, (fun z hz => Or.inl hz), (fun z hz => by cases hz)⟩ (Kept.below HB1.out) _ _ _ _)
set_option maxHeartbeats 4000000 in
set_option maxRecDepth 100000 in
theorem do_full {F : Nat → Prop} {b : Nat} {s : Gp} {w : World} (hG : Gam w F b s) (hg : GoodG s) (ha : 150 ≤ s.acts) (k id n mask : Int) (row : R8) (box : Sw.B5) :
  Calls Tryz.prog 14 #[.pointer (some ⟨b, 0, none⟩), actA ⟨k, id, n, mask, row, box⟩] w (PostD w F b (doG s ⟨k, id, n, mask, row, box⟩).1 (doG s ⟨k, id, n, mask, row, box⟩).2) := by
 have HGM := St.hid hG
 have hac := hg.acts
 obtain ⟨v, vs, sv, Fs, hG⟩ := hG
 have hbz := hG.lt b hG.own
 have HFL : Hid (∀ z, F z → z < w.heap.size) := St.hid hG.lt
 obtain ⟨-, -, -, -, -, -, x6⟩ := gcells hG.row
 have e : doG s ⟨k, id, n, mask, row, box⟩ = (s, no 5) := by unfold doG; rw [if_pos ha]
 rw [e]
 clear hG hg e
 go_enter Tryz.func14, Tryz.ntmps14
 go_wp2_with fail
 have hRP := St.hid (Rp.rowIs4 (w.alloc (.cells #[.int .i64 k, .int .i64 id, .int .i64 n, .int .i64 mask, .int .i64 row.x, .int .i64 row.y, .int .i64 row.px, .int .i64 row.py, .int .i64 row.wd, .int .i64 row.ht, .int .i64 row.ms, .int .i64 row.rr, .int .i64 box.id, .int .i64 box.x1, .int .i64 box.y1, .int .i64 box.x2, .int .i64 box.y2] 38)) 0 0 (.slice none 0 0) (.slice none 0 0) 31)
 rw [World.size_alloc] at hRP
 have HBW := St.hid (bal (bal (Below.refl _ w) (.cells #[.int .i64 k, .int .i64 id, .int .i64 n, .int .i64 mask, .int .i64 row.x, .int .i64 row.y, .int .i64 row.px, .int .i64 row.py, .int .i64 row.wd, .int .i64 row.ht, .int .i64 row.ms, .int .i64 row.rr, .int .i64 box.id, .int .i64 box.x1, .int .i64 box.y1, .int .i64 box.x2, .int .i64 box.y2] 38)) (.cells #[.int .i64 0, .int .i64 0, .slice none 0 0, .slice none 0 0] 31))
 have hzW : ((w.alloc (.cells #[.int .i64 k, .int .i64 id, .int .i64 n, .int .i64 mask, .int .i64 row.x, .int .i64 row.y, .int .i64 row.px, .int .i64 row.py, .int .i64 row.wd, .int .i64 row.ht, .int .i64 row.ms, .int .i64 row.rr, .int .i64 box.id, .int .i64 box.x1, .int .i64 box.y1, .int .i64 box.x2, .int .i64 box.y2] 38)).alloc (.cells #[.int .i64 0, .int .i64 0, .slice none 0 0, .slice none 0 0] 31)).heap.size = w.heap.size + 1 + 1 := by simp
 generalize (w.alloc (.cells #[.int .i64 k, .int .i64 id, .int .i64 n, .int .i64 mask, .int .i64 row.x, .int .i64 row.y, .int .i64 row.px, .int .i64 row.py, .int .i64 row.wd, .int .i64 row.ht, .int .i64 row.ms, .int .i64 row.rr, .int .i64 box.id, .int .i64 box.x1, .int .i64 box.y1, .int .i64 box.x2, .int .i64 box.y2] 38)).alloc (.cells #[.int .i64 0, .int .i64 0, .slice none 0 0, .slice none 0 0] 31) = W at hRP HBW hzW ⊢
 refine (refused_any 5 _).mono ?_
 rintro e w1 ⟨rfl, hb1⟩
 have hRP1 := St.hid (rowIs_below hRP.out hb1)
 have HB1 := St.hid hb1
 have hz1 := hb1.size
 clear hb1
 obtain ⟨p0, p1, p2, p3, p4, p5, p6, p7⟩ := rcs hRP1.out
 have hlt1 : w.heap.size + 1 < w1.heap.size := by omega
 go_wp2_with fail
 obtain ⟨q0, q1, q2, q3⟩ := four (put4 hRP1.out (.int .i64 5) (.int .i64 0) (.slice none 0 0) (.slice none 0 0))
 exact bodyPost_ret (v := .agg #[.int .i64 5, .int .i64 0, .slice none 0 0, .slice none 0 0]) (by simp [results, Tryz.results14, go_sem, q0, q1, q2, q3]) rfl (postD_of (met := []) (am := none) (cm := 0) HFL.out (Kept.below HBW.out) (by omega) (World.ownsRow_nil _ _ _ _) ⟨F, (HGM.out.below HBW.out).below HB1.out, (fun z hz => Or.inl hz), (fun z hz => by cases hz)⟩ (Kept.below HB1.out) _ _ _ _)
theorem do_any {F : Nat → Prop} {b : Nat} {s : Gp} {w : World} (hG : Gam w F b s) (hg : GoodG s) (a : Ac) :
  Calls Tryz.prog 14 #[.pointer (some ⟨b, 0, none⟩), actA a] w (PostD w F b (doG s a).1 (doG s a).2) := by
 obtain ⟨k, id, n, mask, row, box⟩ := a
 rcases Nat.lt_or_ge s.acts 150 with ha | ha
 ·have hR : GIn F b s w := ⟨hG, hg, ha⟩
  by_cases h1 : k = 1
  ·subst h1; exact do_spawn hR
  by_cases h2 : k = 2
  ·subst h2; exact do_kill hR
  by_cases h3 : k = 3
  ·subst h3; exact do_give hR
  by_cases h4 : k = 4
  ·subst h4; exact do_take hR
  by_cases h5 : k = 5
  ·subst h5; exact do_kick hR
  by_cases h6 : k = 6
  ·subst h6; exact do_step hR
  by_cases h7 : k = 7
  ·subst h7; exact do_save hR
  by_cases h8 : k = 8
  ·subst h8; exact do_load hR
  by_cases h9 : k = 9
  ·subst h9; exact do_look hR
  exact do_other k h1 h2 h3 h4 h5 h6 h7 h8 h9 hR
 ·exact do_full hG hg ha k id n mask row box
end Gm
namespace Gm
open Num St Wd
open Go.ChangeShapes Go.WideShapes Go.ChangeAt Go.RowKit
theorem newGood {wide high fall : Int} (h : GoodWd 0 fall wide high []) : GoodG (newG wide high fall) := ⟨⟨h.1, h.2.1, h.2.2.1, h.2.2.2⟩, (fun x hx => by cases hx), by simp [newG], by simp [newG]⟩
theorem gam_new (w : World) (wide high fall : Int) : Gam (w.alloc (.cells #[.slice none 0 0, .int .i64 0, .int .i64 fall, .int .i64 wide, .int .i64 high, .slice none 0 0, .int .i64 0] 84)) (fun z => z = w.heap.size) w.heap.size (newG wide high fall) := by
 refine ⟨.slice none 0 0, .slice none 0 0, [], fun _ => False, ⟨?_, World.ownsRow_nil _ _ _ _, rfl, Sto.empty _, (fun i u x h => by cases h), (fun z hz => hz.elim), rfl, (fun z hz => by cases hz), fun z hz => ?_⟩⟩
 ·refine (rowIsL w [.slice none 0 0, .int .i64 0, .int .i64 fall, .int .i64 wide, .int .i64 high, .slice none 0 0, .int .i64 0] 84).congr (fun i hi => ?_)
  match i, hi with
  | 0, _ => rfl
  | 1, _ => rfl
  | 2, _ => rfl
  | 3, _ => rfl
  | 4, _ => rfl
  | 5, _ => rfl
  | 6, _ => rfl
 ·subst hz; simp
set_option maxHeartbeats 1000000 in
set_option maxRecDepth 100000 in
theorem new_any (wide high fall : Int) (w : World) : Calls Tryz.prog 22 #[.int .i64 wide, .int .i64 high, .int .i64 fall] w fun e w' =>
  ((¬ GoodWd 0 fall wide high [] ∧ e = .returned (.tuple #[.pointer none, .int .i64 2])) ∨
   (GoodWd 0 fall wide high [] ∧ ∃ b F, e = .returned (.tuple #[.pointer (some ⟨b, 0, none⟩), .int .i64 0]) ∧ Gam w' F b (newG wide high fall) ∧ ∀ z, F z → w.heap.size ≤ z)) ∧ Below w.heap.size w w' := by
 go_enter Tryz.func22, Tryz.ntmps22
 go_wp2_with fail
 refine (wgood_any 0 fall wide high (Sto.empty _)).mono ?_
 rintro e w1 ⟨⟨g, rfl, hg⟩, hb1⟩
 have HG := St.hid hg
 have HB1 := St.hid (bcall (bal (Below.refl _ w) _) hb1)
 have hW := St.hid (rowIs_below (rowIs5 w (.slice none 0 0) 0 fall wide high 45) hb1)
 have hz1 := hb1.size
 simp at hz1
 clear hb1 hg
 obtain ⟨x0, x1, x2, x3, x4, -, -, -, -, -⟩ := wcells hW.out
 cases g
 ·go_wp2_with fail
  refine bodyPost_ret (v := .tuple #[.pointer none, .int .i64 2]) (by simp [results, Tryz.results22, go_sem]) rfl ?_
  exact ⟨Or.inl ⟨(fun h => by have := HG.out.2 h; cases this), rfl⟩, HB1.out⟩
 ·have hgd := HG.out.1 rfl
  go_wp2_with fail
  refine bodyPost_ret (v := .tuple #[.pointer (some ⟨w1.heap.size, 0, none⟩), .int .i64 0]) (by simp [results, Tryz.results22, go_sem]) rfl ?_
  exact ⟨Or.inr ⟨hgd, w1.heap.size, _, rfl, gam_new w1 wide high fall, fun z hz => by subst hz; exact HB1.out.size⟩, bal HB1.out _⟩
end Gm
namespace Gm
open Num St Wd
open Go.ChangeShapes Go.WideShapes Go.ChangeAt Go.RowKit
def r514 : R8 := ⟨514, 500, 14, 0, 0, 0, 2, 0⟩
def one507 : List Tab := [⟨11, [0], [r507]⟩]
def one514 : List Tab := [⟨11, [0], [r514]⟩]
theorem ids507 : idsOf 11 one507 = [0] := by
 have h : gathR 11 one507 = [0] := by decide
 unfold idsOf
 rw [h]
 simp
theorem ids57 : idsOf 5 one507 = [] := by
 have h : gathR 5 one507 = [] := by decide
 unfold idsOf
 rw [h]
 simp
theorem mk507 : Wd.mk one507 0 = 11 := by decide
theorem rw507 : rw0 one507 0 = r507 := by decide
theorem step507 : (Wd.stepG one507 0 1000 1000).1 0 = r514 ∧ (Wd.stepG one507 0 1000 1000).2 = [] := by
 unfold Wd.stepG boxG
 rw [ids507, ids57]
 simp only [List.map_nil, pairs_none]
 unfold meetG goOnG wallG
 simp only [List.foldl_cons, List.foldl_nil]
 refine ⟨?_, trivial⟩
 unfold wall1 go1
 rw [putG_at, putG_at, mk507, rw507]
 decide
def g0 : Gp := newG 1000 1000 0
def g1 : Gp := ⟨⟨one500, 1, 0, 1000, 1000⟩, [], 1⟩
def g2 : Gp := ⟨⟨one514, 1, 0, 1000, 1000⟩, [], 2⟩
def ac1 : Ac := ⟨1, 0, 0, 11, r500, ⟨0, 0, 0, 0, 0⟩⟩
def ac2 : Ac := ⟨6, 0, 2, 0, ⟨0, 0, 0, 0, 0, 0, 0, 0⟩, ⟨0, 0, 0, 0, 0⟩⟩
theorem first1 : doG g0 ac1 = (g1, ⟨0, 0, [], []⟩) := by
 have ea : actW g0.now ac1 = (⟨one500, 1, 0, 1000, 1000⟩, ⟨0, 0, [], []⟩) := by
  have e : actW g0.now ac1 = spawnW g0.now 11 r500 := by simp [actW, ac1]
  rw [e]
  unfold spawnW
  have h : spawnS g0.now.next g0.now.L 11 r500 = (one500, 1, 0, 0) := spawn500
  rw [h]
  rfl
 unfold doG
 rw [if_neg (by decide), if_neg (by simp [ac1]), if_neg (by simp [ac1]), ea]
 rfl
theorem then2 : doG g1 ac2 = (g2, ⟨0, 0, [], []⟩) := by
 have s1 : stepW g1.now = ⟨one507, 1, 0, 1000, 1000⟩ := by
  unfold stepW
  show (⟨withRows one500 (Wd.stepG one500 0 1000 1000).1, 1, 0, 1000, 1000⟩ : Wp) = _
  have e : withRows one500 (Wd.stepG one500 0 1000 1000).1 = [⟨11, [0], [(Wd.stepG one500 0 1000 1000).1 0]⟩] := rfl
  rw [e, step500.1]
  rfl
 have s2 : stepW ⟨one507, 1, 0, 1000, 1000⟩ = ⟨one514, 1, 0, 1000, 1000⟩ := by
  unfold stepW
  show (⟨withRows one507 (Wd.stepG one507 0 1000 1000).1, 1, 0, 1000, 1000⟩ : Wp) = _
  have e : withRows one507 (Wd.stepG one507 0 1000 1000).1 = [⟨11, [0], [(Wd.stepG one507 0 1000 1000).1 0]⟩] := rfl
  rw [e, step507.1]
  rfl
 have m1 : stepM g1.now = [] := step500.2
 have m2 : stepM ⟨one507, 1, 0, 1000, 1000⟩ = [] := step507.2
 have w2 : stepsW 2 g1.now = ⟨one514, 1, 0, 1000, 1000⟩ := by
  show stepW (stepW g1.now) = _
  rw [s1, s2]
 have q2 : stepsM 2 g1.now = [] := by
  show ([] ++ stepM g1.now) ++ stepM (stepW g1.now) = _
  rw [s1, m1, m2]
  rfl
 have ea : actW g1.now ac2 = (⟨one514, 1, 0, 1000, 1000⟩, ⟨0, 0, [], []⟩) := by
  have e : actW g1.now ac2 = goW g1.now 2 := by simp [actW, ac2]
  rw [e]
  unfold goW
  rw [if_neg (by decide)]
  show (stepsW 2 g1.now, (⟨0, ((stepsM 2 g1.now).length : Int), [], stepsM 2 g1.now⟩ : Rep)) = _
  rw [w2, q2]
  rfl
 unfold doG
 rw [if_neg (by decide), if_neg (by simp [ac2]), if_neg (by simp [ac2]), ea]
 rfl
theorem good0 : GoodWd 0 0 1000 1000 [] := ⟨good_nil, by omega, by omega, by omega⟩
theorem goodg0 : GoodG g0 := newGood good0
theorem goodg1 : GoodG g1 := by have h := goodg0.do ac1; rw [first1] at h; exact h
theorem goodg2 : GoodG g2 := by have h := goodg1.do ac2; rw [then2] at h; exact h
theorem at514 : At one514 0 11 r514 := ⟨_, List.mem_singleton.2 rfl, rfl, 0, rfl, rfl⟩
theorem fieldW (a : Option Addr) (n c : Nat) (next fall wide high : Int) (w : World) : Sem.run Tryz.prog (Instr.field 45 (.agg #[.slice a n c, .int .i64 next, .int .i64 fall, .int .i64 wide, .int .i64 high]) 0) w = .ok (.agg #[.slice a n c, .int .i64 next]) w := by kernel_rfl
end Gm
namespace Gm
open Num St Wd
open Go.ChangeShapes Go.WideShapes Go.ChangeAt Go.RowKit
set_option maxHeartbeats 1000000 in
set_option maxRecDepth 100000 in
theorem lalive_any (w : World) : Calls Tryz.prog 25 #[] w fun e w' => e = .returned (.bool true) ∧ Below w.heap.size w w' := by
 go_enter Tryz.func25, Tryz.ntmps25
 go_wp2_with fail
 refine (new_any 1000 1000 0 w).mono ?_
 rintro e w1 ⟨hor, hb1⟩
 rcases hor with ⟨hno, -⟩ | ⟨-, b, F, rfl, hG, hF⟩
 ·exact absurd good0 hno
 have HG := St.hid hG
 have HB := St.hid hb1
 have HF := St.hid hF
 have hz1 := hb1.size
 clear hG hb1 hF
 go_wp2_with fail
 have hd := do_any HG.out goodg0 ac1
 have e1 : doG (newG 1000 1000 0) ac1 = (g1, ⟨0, 0, [], []⟩) := first1
 rw [e1] at hd
 refine Calls.mono hd ?_
 clear hd
 rintro e w2 ⟨ai, ci, am, cm, rfl, -, -, ⟨F2, hG2, hF2, -⟩, hk2⟩
 simp only [List.length_nil]
 have HG2 : Hid (Gam w2 F2 b g1) := St.hid hG2
 have HF2 : Hid (∀ z, F2 z → w.heap.size ≤ z) := St.hid (fun z hz => (hF2 z hz).elim (fun h => HF.out z h) (fun h => by omega))
 have HB2 := St.hid (HB.out.trans (hk2.to_below hz1 HF.out))
 have hz2 := hk2.size
 have hr1 := St.hid (Rp.rowIs4 w2 0 0 (.slice ai 0 ci) (.slice am 0 cm) 31)
 have HB2a := St.hid (bal HB2.out (.cells #[.int .i64 0, .int .i64 0, .slice ai 0 ci, .slice am 0 cm] 31))
 have HG2a := St.hid (HG2.out.below (bal (Below.refl _ _) (.cells #[.int .i64 0, .int .i64 0, .slice ai 0 ci, .slice am 0 cm] 31)))
 have hzA : (w2.alloc (.cells #[.int .i64 0, .int .i64 0, .slice ai 0 ci, .slice am 0 cm] 31)).heap.size = w2.heap.size + 1 := by simp
 have HN2 : Hid (¬ F2 w2.heap.size) := St.hid (fun hc => by have := HG2.out.lt hc; omega)
 clear hG2 hF2 hk2 HG HB HF HB2
 go_wp2_with fail
 generalize w2.alloc (.cells #[.int .i64 0, .int .i64 0, .slice ai 0 ci, .slice am 0 cm] 31) = W2 at hr1 HB2a HG2a hzA ⊢
 have hd := do_any HG2a.out goodg1 ac2
 rw [then2] at hd
 refine Calls.mono hd ?_
 clear hd
 rintro e w3 ⟨aj, cj, an, cn, rfl, -, -, ⟨F3, hG3, hF3, -⟩, hk3⟩
 simp only [List.length_nil]
 have HG3 : Hid (Gam w3 F3 b g2) := St.hid hG3
 have hr3 := St.hid (rowIs_kept hr1.out hk3 HN2.out)
 have HB3 := St.hid (HB2a.out.trans (hk3.to_below HB2a.out.size HF2.out))
 have hz3 := hk3.size
 have hr4 := St.hid (Rp.rowIs4 w3 0 0 (.slice aj 0 cj) (.slice an 0 cn) 31)
 have hr5 := St.hid (hr3.out.alloc (.cells #[.int .i64 0, .int .i64 0, .slice aj 0 cj, .slice an 0 cn] 31))
 have HB4 := St.hid (bal HB3.out (.cells #[.int .i64 0, .int .i64 0, .slice aj 0 cj, .slice an 0 cn] 31))
 have HG4 := St.hid (HG3.out.below (bal (Below.refl _ _) (.cells #[.int .i64 0, .int .i64 0, .slice aj 0 cj, .slice an 0 cn] 31)))
 clear hG3 hF3 hk3 hr1 HB2a HG2a HG2 HG3 hr3 HB3 HN2
 go_wp2_with fail
 generalize w3.alloc (.cells #[.int .i64 0, .int .i64 0, .slice aj 0 cj, .slice an 0 cn] 31) = W3 at hr4 hr5 HB4 HG4 ⊢
 refine (world_any HG4.out).mono ?_
 rintro e w4 ⟨⟨a4, n4, c4, rfl, F4, hs4, -⟩, hb4⟩
 have hr6 := St.hid (rowIs_below hr4.out hb4)
 have hr7 := St.hid (rowIs_below hr5.out hb4)
 have HB5 := St.hid (bcall HB4.out hb4)
 have HS4 := St.hid hs4
 clear hs4 hb4 hr4 hr5 HB4 HG4
 go_wp2_with fail
 rw [fieldW]
 go_wp2_with fail
 refine (HS4.out.get_some goodg2.now.l 1 0 11 r514 at514).mono ?_
 rintro e w5 ⟨rfl, hb5⟩
 have hr8 := St.hid (rowIs_below hr6.out hb5)
 have hr9 := St.hid (rowIs_below hr7.out hb5)
 have HB6 := St.hid (bcall HB5.out hb5)
 clear hb5 hr6 hr7 HB5 HS4
 obtain ⟨p0, -, -, -⟩ := Rp.rcells hr8.out
 obtain ⟨p1, -, -, -⟩ := Rp.rcells hr9.out
 have hl8 := hr8.out.lt
 have hl9 := hr9.out.lt
 simp only [r514]
 go_wp2_with fail
 go_ret
 exact ⟨rfl, bal HB6.out _⟩
end Gm
namespace Gm
open Num St Wd
open Go.ChangeShapes Go.WideShapes Go.ChangeAt Go.RowKit
theorem ids_all {m v : Int} {L : List Tab} (h : v ∈ idsOf m L) : v ∈ allL L := by
 unfold idsOf at h
 rw [List.mem_mergeSort] at h
 exact (gath_sub m L).subset h
end Gm
namespace Gm
open Num St Wd
open Go.ChangeShapes Go.WideShapes Go.ChangeAt Go.RowKit
theorem rep_len {x : Wp} (h : GoodW x) (a : Ac) : (actW x a).2.ids.length ≤ 10 ∧ (actW x a).2.met.length ≤ 800 := by
 have h0 : ∀ c, (no c).ids.length ≤ 10 ∧ (no c).met.length ≤ 800 := fun c => ⟨by simp [no], by simp [no]⟩
 unfold actW
 split
 ·exact ⟨by simp [spawnW], by simp [spawnW]⟩
 ·split
  ·exact h0 _
  ·split
   ·unfold giveW
    split
    ·split
     ·exact h0 _
     ·exact h0 _
    ·exact h0 _
   ·split
    ·unfold takeW
     split
     ·split
      ·exact h0 _
      ·exact h0 _
     ·exact h0 _
    ·split
     ·unfold kickW
      split
      ·split
       ·exact h0 _
       ·exact h0 _
      ·exact h0 _
     ·split
      ·unfold goW
       split
       ·exact h0 _
       ·rename_i hn
        have hl := stepsM_len h a.n.toNat
        exact ⟨by simp, by show (stepsM a.n.toNat x).length ≤ 800; omega⟩
      ·split
       ·refine ⟨?_, by simp⟩
        show (Sw.lookP (boxG x.L (rw0 x.L)) a.box).length ≤ 10
        unfold Sw.lookP
        split
        ·unfold Sw.sortI
         rw [List.length_mergeSort]
         refine Nat.le_trans (Sw.lookL_len _ _) ?_
         unfold boxG
         rw [List.length_map]
         exact ids_len h.l
        ·simp
       ·exact h0 _
end Gm
namespace Gm
open Num St Wd
open Go.ChangeShapes Go.WideShapes Go.ChangeAt Go.RowKit Go.Deep Go.Joins
theorem wf_bounds {n : Int} (h : (Lit.int .i64 n).wf = true) : -9223372036854775808 ≤ n ∧ n ≤ 9223372036854775807 := by
 have h1 : IntKind.i64.min = -9223372036854775808 := by decide
 have h2 : IntKind.i64.max = 9223372036854775807 := by decide
 simp [Lit.wf, h1, h2] at h
 omega
section
variable {H : Type} {enc : TypeId × Value → H} {W : World}
set_option maxRecDepth 100000 in
theorem act_fields3 {fuel : Nat} {cs : List Value} {x : DataW H × List MemPlace} (h : DataW.trod enc Tryz.prog W 0 (fun _ => true) true fuel 38 cs = some x) : ∃ k i n m x y px py wd ht ms rr bi bx1 by1 bx2 by2 : Int, cs = [.int .i64 k, .int .i64 i, .int .i64 n, .int .i64 m, .int .i64 x, .int .i64 y, .int .i64 px, .int .i64 py, .int .i64 wd, .int .i64 ht, .int .i64 ms, .int .i64 rr, .int .i64 bi, .int .i64 bx1, .int .i64 by1, .int .i64 bx2, .int .i64 by2] ∧ (Lit.int .i64 i).wf = true ∧ (Lit.int .i64 m).wf = true := by
 obtain ⟨xs, n, _, rfl, hl, hlen, hf⟩ := DataW.trod_struct Tryz.underlying38 h
 rw [cellsA] at hl
 match cs, hl with
 | [c0, c1, c2, c3, c4, c5, c6, c7, c8, c9, c10, c11, c12, c13, c14, c15, c16], _ =>
  match xs, hlen with
  | [y0, y1, y2, y3, y4, y5], _ =>
   have k : ∀ {c : Value} {y : DataW H × List MemPlace}, DataW.trod enc Tryz.prog W 0 (fun _ => true) true n 3 [c] = some y → ∃ q, c = .int .i64 q ∧ (Lit.int .i64 q).wf = true := fun hq => by
    obtain ⟨q, e, _, hf⟩ := DataW.trod_int Tryz.underlying3 hq
    exact ⟨q, by simpa using e, hf⟩
   have g0 := hf 0 _ rfl
   have g1 := hf 1 _ rfl
   have g2 := hf 2 _ rfl
   have g3 := hf 3 _ rfl
   have g4 := hf 4 _ rfl
   have g5 := hf 5 _ rfl
   simp [cellsI, cellsR, cellsB] at g0 g1 g2 g3 g4 g5
   obtain ⟨q0, rfl, -⟩ := k g0
   obtain ⟨q1, rfl, w1⟩ := k g1
   obtain ⟨q2, rfl, -⟩ := k g2
   obtain ⟨q3, rfl, w3⟩ := k g3
   obtain ⟨r0, r1, r2, r3, r4, r5, r6, r7, e4⟩ := row_fields g4
   obtain ⟨b0, b1, b2, b3, b4, e5⟩ := box_fields g5
   simp at e4 e5
   obtain ⟨rfl, rfl, rfl, rfl, rfl, rfl, rfl, rfl⟩ := e4
   obtain ⟨rfl, rfl, rfl, rfl, rfl⟩ := e5
   exact ⟨q0, q1, q2, q3, r0, r1, r2, r3, r4, r5, r6, r7, b0, b1, b2, b3, b4, rfl, w1, w3⟩
set_option maxRecDepth 100000 in
theorem open_acts3 {r : Reach} {b0 : Nat} {v : Value} {d : DataW H} {p : List MemPlace} (hv : Value.okWide Tryz.prog W r b0 22 v) (h : DataW.Trod enc Tryz.prog W 0 (fun _ => true) true 22 v d p) (hw : ∀ q ∈ d.weights Tryz.prog 22, q ≤ reachBytes) :
  ∃ a n cap l, v = .slice a n cap ∧ ActL W a l ∧ n = l.length ∧ n * 136 ≤ 140737488355328 ∧ (a = none → cap = 0) ∧ n ≤ cap ∧ ∀ x ∈ l, (Lit.int .i64 x.id).wf = true ∧ -9223372036854775808 ≤ x.mask ∧ x.mask ≤ 9223372036854775807 := by
 obtain ⟨a0, n0, cap0, rfl⟩ := okWide_slice Tryz.underlying22 hv
 obtain ⟨fuel, hf⟩ := h
 rcases open_slice Tryz.underlying22 hf with ⟨e, _⟩ | ⟨a, len, cap, m, n, D, Pl, e, _, hl, _, hm, e2, hV⟩
 ·simp [Value.cells] at e
  obtain ⟨rfl, rfl, rfl⟩ := e
  exact ⟨none, 0, 0, [], rfl, fun h => absurd h (Nat.lt_irrefl _), rfl, by omega, fun _ => rfl, Nat.le_refl _, fun x hx => by cases hx⟩
 ·simp [Value.cells] at e
  obtain ⟨rfl, rfl, rfl⟩ := e
  simp only [if_true] at hm
  subst hm
  have e3 : d = .slice ((List.range n0).map D) ((List.range (m - n0)).map fun j => D (n0 + j)) := congrArg Prod.fst e2
  have hb := hw ((n0 + (m - n0)) * 136) (by rw [e3]; simp [DataW.weights, Tryz.underlying22, bytesA])
  have hr : reachBytes ≤ 140737488355328 := by decide
  rw [cellsA] at hV
  have hrow : ∀ i, i < m → ∃ r : Ac, (∀ s, s < 17 → W.cell? ((a.add (i * 17)).add s) = (actCells r)[s]?) ∧ (Lit.int .i64 r.id).wf = true ∧ (Lit.int .i64 r.mask).wf = true := fun i hi => by
   obtain ⟨cs', h1, h2⟩ := hV i hi
   obtain ⟨q0, q1, q2, q3, r0, r1, r2, r3, r4, r5, r6, r7, b0, b1, b2, b3, b4, rfl, wi, wm⟩ := act_fields3 h2
   exact ⟨⟨q0, q1, q2, q3, ⟨r0, r1, r2, r3, r4, r5, r6, r7⟩, ⟨b0, b1, b2, b3, b4⟩⟩, fun s hs => (World.cells?_some h1).2.2 s hs, wi, wm⟩
  obtain ⟨f, hf'⟩ : ∃ f : Nat → Ac, ∀ i, i < m → (∀ s, s < 17 → W.cell? ((a.add (i * 17)).add s) = (actCells (f i))[s]?) ∧ (Lit.int .i64 (f i).id).wf = true ∧ (Lit.int .i64 (f i).mask).wf = true := by
   classical
   refine ⟨fun i => if hi : i < m then Classical.choose (hrow i hi) else ⟨0, 0, 0, 0, ⟨0, 0, 0, 0, 0, 0, 0, 0⟩, ⟨0, 0, 0, 0, 0⟩⟩, fun i hi => ?_⟩
   simp only [dif_pos hi]
   exact Classical.choose_spec (hrow i hi)
  refine ⟨some a, n0, m, (List.range n0).map f, rfl, fun hp => ?_, by simp, by omega, (fun h => by cases h), by omega, fun x hx => ?_⟩
  rotate_left
  ·obtain ⟨i, hi, rfl⟩ := List.mem_map.1 hx
   have h9 := (hf' i (by have := List.mem_range.1 hi; omega)).2
   exact ⟨h9.1, wf_bounds h9.2⟩
  have hp' : 0 < n0 := by simpa using hp
  have h00 := (hf' 0 (by omega)).1 0 (by omega)
  rw [Nat.zero_mul, Deep.add_add] at h00
  obtain ⟨b, off, rfl, hbl⟩ := addr_plainA (v := .int .i64 (f 0).kind) (by simpa [actCells] using h00)
  refine ⟨b, off, rfl, hbl, fun i x hi j u hj => ?_⟩
  have hin : i < n0 := by have := (List.getElem?_eq_some_iff.1 hi).1; simpa using this
  have hx : f i = x := by simpa [hin] using hi
  subst hx
  have hj17 : j < 17 := by have := (List.getElem?_eq_some_iff.1 hj).1; simpa [actCells] using this
  have := (hf' i (by omega)).1 j hj17
  rw [Deep.add_add, Addr.add_lit, show off + (i * 17 + j) = off + i * 17 + j by omega, hj] at this
  exact this
end
end Gm
end Go.Proofs.YtckkkdldljhehacGreat
