/- What Do of a game in memory answers when called to look, and whatever the act: the plain reply and the game as it is then; all blocks but the game's are as they were. -/
import Derived.Test.YtckkkdldljhehacGreatKtGmK
import Derived.Deep.RegionWith
namespace Go.Proofs.YtckkkdldljhehacGreat.Gm
open Go.Proofs.YtckkkdldljhehacGreat.Num Go.Proofs.YtckkkdldljhehacGreat.St Go.Proofs.YtckkkdldljhehacGreat.Wd
open Go.ChangeShapes Go.WideShapes Go.ChangeAt Go.RowKit

attribute [local go_sem ↓] Go.wp_at_zero Go.wp_at_succ
/-- Behind a look: its reply written into Do's. -/
theorem postD_ids {w W w1 : World} {F : Nat → Prop} {b : Nat} {s : Gp} {ids : List Int} {ai : Option Addr} {ci : Nat} (hF : ∀ z, F z → z < w.heap.size) (hk : Kept F w W) (hW : w.heap.size + 2 ≤ W.heap.size)
    (hown : w1.ownsRow W.heap.size 3 1 (.slice ai ids.length ci) ids.length (ids.map (Value.int .i64))) (hG : Gam W F b s) (hk1 : Below W.heap.size W w1) (x0 x1 x2 x3 : Value) :
    PostD w F b s ⟨0, 0, ids, []⟩ (.returned (.agg #[.int .i64 0, .int .i64 0, .slice ai ids.length ci, .slice none 0 0])) ((((w1.setCell ⟨w.heap.size + 1, 0, none⟩ x0).setCell ⟨w.heap.size + 1, 1, none⟩ x1).setCell ⟨w.heap.size + 1, 2, none⟩ x2).setCell ⟨w.heap.size + 1, 3, none⟩ x3) := by
  refine ⟨ai, ci, none, 0, rfl, owns_mono (owns_kept hown (grown4 w1 (w.heap.size + 1) _ _ _ _) (fun z hz e => ?_)) (by omega), World.ownsRow_nil _ _ _ _, ⟨F, Gam.grown (hG.below hk1) (grown4 w1 (w.heap.size + 1) _ _ _ _) (fun hc => ?_), fun z hz => Or.inl hz, fun z hz => ?_⟩, kept_grown (hk.trans (Kept.below (F := F) hk1) (fun z h => Or.inl h)) (grown4 w1 (w.heap.size + 1) _ _ _ _) (by omega)⟩
  · cases e; have := (hown.lt _ hz).1; omega
  · have := hF _ hc; omega
  · rcases hz with hz | hz
    · exact fun hc => by have := (hown.lt _ hz).1; have := hF _ hc; omega
    · cases hz
theorem boxes_plain {F : Nat → Prop} {v : Value} {L : List Tab} {w : World} (next : Int) (h : Sto w F v L) (hg : GoodL next L) : Calls Tryz.prog 18 #[.agg #[v, .int .i64 next]] w fun e w' =>
      (∃ u, e = .returned u ∧ w'.ownsRow w.heap.size 36 5 u (boxG L (rw0 L)).length ((boxG L (rw0 L)).flatMap Sw.boxCells)) ∧ Below w.heap.size w w' :=
  boxes_any (g := rw0 L) next (by rw [with_self hg]; exact h) hg (rows_ok hg)
set_option maxHeartbeats 4000000 in
set_option maxRecDepth 100000 in
theorem do_look {F : Nat → Prop} {b : Nat} {s : Gp} {w : World} (hG : Gam w F b s) (hg : GoodG s) (ha : s.acts < 150) (id n mask : Int) (row : R8) (box : Sw.B5) :
    Calls Tryz.prog 14 #[.pointer (some ⟨b, 0, none⟩), actA ⟨9, id, n, mask, row, box⟩] w (PostD w F b (doG s ⟨9, id, n, mask, row, box⟩).1 (doG s ⟨9, id, n, mask, row, box⟩).2) := by
  obtain ⟨v, vs, sv, Fs, hG⟩ := hG
  have hbz := hG.lt b hG.own
  have HG := St.hid hG
  obtain ⟨a, nn, c, rfl⟩ := hG.now.one
  obtain ⟨-, -, -, -, -, -, x6⟩ := gcells hG.row
  have HGP : Hid (GamP (w.setCell ⟨b, 6, none⟩ (.int .i64 ((s.acts : Int) + 1))) F b { s with acts := s.acts + 1 } (.slice a nn c) vs sv Fs) := St.hid (hG.acts (s.acts + 1))
  obtain ⟨-, -, -, -, -, -, f6⟩ := gfrozen hG.row
  have HG6 : Hid (Gam (w.setCell ⟨b, 6, none⟩ (.int .i64 ((s.acts : Int) + 1))) F b { s with acts := s.acts + 1 }) := St.hid ⟨_, vs, sv, Fs, hG.acts (s.acts + 1)⟩
  have hg6 : GoodG { s with acts := s.acts + 1 } := ⟨hg.now, hg.saves, hg.few, by show s.acts + 1 ≤ 150; omega⟩
  have HGD := St.hid hg6
  have e : doG s ⟨9, id, n, mask, row, box⟩ = ({ s with acts := s.acts + 1 }, ⟨0, 0, Sw.lookP (boxG s.now.L (rw0 s.now.L)) box, []⟩) := by
    have ea : actW s.now ⟨9, id, n, mask, row, box⟩ = (s.now, ⟨0, 0, Sw.lookP (boxG s.now.L (rw0 s.now.L)) box, []⟩) := by simp [actW]
    unfold doG
    rw [if_neg (by show ¬ 150 ≤ s.acts; omega), if_neg (by simp), if_neg (by simp), ea]
  rw [e]
  clear hG hg hg6 e
  have HBX : Hid (∀ W, Sto W Fs (.slice a nn c) s.now.L → Calls Tryz.prog 18 #[.agg #[.slice a nn c, .int .i64 s.now.next]] W fun e w' =>
      (∃ u, e = .returned u ∧ w'.ownsRow W.heap.size 36 5 u (boxG s.now.L (rw0 s.now.L)).length ((boxG s.now.L (rw0 s.now.L)).flatMap Sw.boxCells)) ∧ Below W.heap.size W w') :=
    St.hid (fun W h => boxes_plain s.now.next h HGD.out.now.l)
  have hlb : (boxG s.now.L (rw0 s.now.L)).length ≤ 10 := by simp [boxG]; exact ids_len HGD.out.now.l
  simp only []
  generalize boxG s.now.L (rw0 s.now.L) = B at HBX hlb ⊢
  go_enter Tryz.func14, Tryz.ntmps14
  go_wp2_with fail
  have hsz : (w.setCell ⟨b, 6, none⟩ (.int .i64 ((s.acts : Int) + 1))).heap.size = w.heap.size := by simp [World.setCell]
  have hAC := St.hid ((rowIsL (w.setCell ⟨b, 6, none⟩ (.int .i64 ((s.acts : Int) + 1))) [.int .i64 9, .int .i64 id, .int .i64 n, .int .i64 mask, .int .i64 row.x, .int .i64 row.y, .int .i64 row.px, .int .i64 row.py, .int .i64 row.wd, .int .i64 row.ht, .int .i64 row.ms, .int .i64 row.rr, .int .i64 box.id, .int .i64 box.x1, .int .i64 box.y1, .int .i64 box.x2, .int .i64 box.y2] 38).alloc (.cells #[.int .i64 0, .int .i64 0, .slice none 0 0, .slice none 0 0] 31))
  have hRP := St.hid (Rp.rowIs4 ((w.setCell ⟨b, 6, none⟩ (.int .i64 ((s.acts : Int) + 1))).alloc (.cells #[.int .i64 9, .int .i64 id, .int .i64 n, .int .i64 mask, .int .i64 row.x, .int .i64 row.y, .int .i64 row.px, .int .i64 row.py, .int .i64 row.wd, .int .i64 row.ht, .int .i64 row.ms, .int .i64 row.rr, .int .i64 box.id, .int .i64 box.x1, .int .i64 box.y1, .int .i64 box.x2, .int .i64 box.y2] 38)) 0 0 (.slice none 0 0) (.slice none 0 0) 31)
  rw [World.size_alloc] at hRP
  rw [hsz] at hAC hRP
  have HGW := St.hid (HGP.out.below (bal (bal (Below.refl _ (w.setCell ⟨b, 6, none⟩ (.int .i64 ((s.acts : Int) + 1)))) (.cells #[.int .i64 9, .int .i64 id, .int .i64 n, .int .i64 mask, .int .i64 row.x, .int .i64 row.y, .int .i64 row.px, .int .i64 row.py, .int .i64 row.wd, .int .i64 row.ht, .int .i64 row.ms, .int .i64 row.rr, .int .i64 box.id, .int .i64 box.x1, .int .i64 box.y1, .int .i64 box.x2, .int .i64 box.y2] 38)) (.cells #[.int .i64 0, .int .i64 0, .slice none 0 0, .slice none 0 0] 31)))
  have HKW := St.hid (((Kept.below (F := F) (Below.refl _ w)).set (Or.inl HG.out.own) 6 (.int .i64 ((s.acts : Int) + 1))).call (bal (bal (Below.refl _ _) (.cells #[.int .i64 9, .int .i64 id, .int .i64 n, .int .i64 mask, .int .i64 row.x, .int .i64 row.y, .int .i64 row.px, .int .i64 row.py, .int .i64 row.wd, .int .i64 row.ht, .int .i64 row.ms, .int .i64 row.rr, .int .i64 box.id, .int .i64 box.x1, .int .i64 box.y1, .int .i64 box.x2, .int .i64 box.y2] 38)) (.cells #[.int .i64 0, .int .i64 0, .slice none 0 0, .slice none 0 0] 31)))
  have hzW : (((w.setCell ⟨b, 6, none⟩ (.int .i64 ((s.acts : Int) + 1))).alloc (.cells #[.int .i64 9, .int .i64 id, .int .i64 n, .int .i64 mask, .int .i64 row.x, .int .i64 row.y, .int .i64 row.px, .int .i64 row.py, .int .i64 row.wd, .int .i64 row.ht, .int .i64 row.ms, .int .i64 row.rr, .int .i64 box.id, .int .i64 box.x1, .int .i64 box.y1, .int .i64 box.x2, .int .i64 box.y2] 38)).alloc (.cells #[.int .i64 0, .int .i64 0, .slice none 0 0, .slice none 0 0] 31)).heap.size = w.heap.size + 1 + 1 := by simp [World.setCell]
  change Hid ((((w.setCell ⟨b, 6, none⟩ (.int .i64 ((s.acts : Int) + 1))).alloc (.cells #[.int .i64 9, .int .i64 id, .int .i64 n, .int .i64 mask, .int .i64 row.x, .int .i64 row.y, .int .i64 row.px, .int .i64 row.py, .int .i64 row.wd, .int .i64 row.ht, .int .i64 row.ms, .int .i64 row.rr, .int .i64 box.id, .int .i64 box.x1, .int .i64 box.y1, .int .i64 box.x2, .int .i64 box.y2] 38)).alloc (.cells #[.int .i64 0, .int .i64 0, .slice none 0 0, .slice none 0 0] 31)).rowIs w.heap.size 38 17 _) at hAC
  generalize (((w.setCell ⟨b, 6, none⟩ (.int .i64 ((s.acts : Int) + 1))).alloc (.cells #[.int .i64 9, .int .i64 id, .int .i64 n, .int .i64 mask, .int .i64 row.x, .int .i64 row.y, .int .i64 row.px, .int .i64 row.py, .int .i64 row.wd, .int .i64 row.ht, .int .i64 row.ms, .int .i64 row.rr, .int .i64 box.id, .int .i64 box.x1, .int .i64 box.y1, .int .i64 box.x2, .int .i64 box.y2] 38)).alloc (.cells #[.int .i64 0, .int .i64 0, .slice none 0 0, .slice none 0 0] 31)) = W at hAC hRP HGW HKW hzW ⊢
  have HFL : Hid (∀ z, F z → z < w.heap.size) := St.hid HG.out.lt
  clear hsz HG6 HG x6 f6
  obtain ⟨-, -, -, -, -, -, -, -, -, -, -, -, a12, a13, a14, a15, a16⟩ := acells hAC.out
  obtain ⟨x0, x1, -, -, -, -, -⟩ := gcells HGW.out.row
  go_region_with (first
    | (go_at_call 18; go_fit (HBX.out _ (HGW.out.now.below (by repeat (first | with_reducible exact Below.refl _ _ | with_reducible refine Below.drew ?_)))); rintro e w2 ⟨⟨u, rfl, hu⟩, hb2⟩; obtain ⟨au, cu, rfl⟩ := own_form hu; have HQ2 := St.hid (bcall (by repeat (first | with_reducible exact Below.refl _ W | with_reducible refine Below.drew ?_)) hb2 : Below W.heap.size W w2); have HLK := St.hid (Sw.look_any au B.length cu B box w2 rfl (by omega) (boxL_of hu rfl)); have hAC2 := rowIs_below hAC.out HQ2.out; clear hb2 hu; obtain ⟨-, -, -, -, -, -, -, -, -, -, -, -, b12, b13, b14, b15, b16⟩ := acells hAC2; clear hAC2)
    | (go_at_call 40; go_fit HLK.out; rintro e w1 ⟨⟨u1, rfl, hu1⟩, hb1⟩; obtain ⟨ai, ci, rfl⟩ := own_form hu1; have HQ1 := St.hid (bcall HQ2.out hb1); have HOI := St.hid (owns_mono hu1 HQ2.out.size); have hRP1 := St.hid (rowIs_below hRP.out HQ1.out); clear hb1 hu1; obtain ⟨p0, p1, p2, p3⟩ := Rp.rcells hRP1.out; have p4 := hRP1.out.frozen 0; have p5 := hRP1.out.frozen 1; have p6 := hRP1.out.frozen 2; have p7 := hRP1.out.frozen 3))
  all_goals
    go_wp2_with fail
    obtain ⟨q0, q1, q2, q3⟩ := four (put4 hRP1.out (.int .i64 0) (.int .i64 0) (.slice ai (Sw.lookP B box).length ci) (.slice none 0 0))
    exact bodyPost_ret (v := .agg #[.int .i64 0, .int .i64 0, .slice ai (Sw.lookP B box).length ci, .slice none 0 0]) (by simp [results, Tryz.results14, go_sem, q0, q1, q2, q3]) rfl (postD_ids HFL.out HKW.out (by omega) HOI.out ⟨_, vs, sv, Fs, HGW.out⟩ HQ1.out _ _ _ _)
set_option maxHeartbeats 4000000 in
set_option maxRecDepth 100000 in
theorem do_other {F : Nat → Prop} {b : Nat} {s : Gp} {w : World} (hG : Gam w F b s) (hg : GoodG s) (ha : s.acts < 150) (k : Int) (h1 : ¬ k = 1) (h2 : ¬ k = 2) (h3 : ¬ k = 3) (h4 : ¬ k = 4) (h5 : ¬ k = 5) (h6 : ¬ k = 6) (h7 : ¬ k = 7) (h8 : ¬ k = 8) (h9 : ¬ k = 9) (id n mask : Int) (row : R8) (box : Sw.B5) :
    Calls Tryz.prog 14 #[.pointer (some ⟨b, 0, none⟩), actA ⟨k, id, n, mask, row, box⟩] w (PostD w F b (doG s ⟨k, id, n, mask, row, box⟩).1 (doG s ⟨k, id, n, mask, row, box⟩).2) := by
  obtain ⟨v, vs, sv, Fs, hG⟩ := hG
  have hbz := hG.lt b hG.own
  have HG := St.hid hG
  obtain ⟨-, -, -, -, -, -, x6⟩ := gcells hG.row
  obtain ⟨-, -, -, -, -, -, f6⟩ := gfrozen hG.row
  have HG6 : Hid (Gam (w.setCell ⟨b, 6, none⟩ (.int .i64 ((s.acts : Int) + 1))) F b { s with acts := s.acts + 1 }) := St.hid ⟨_, vs, sv, Fs, hG.acts (s.acts + 1)⟩
  have hg6 : GoodG { s with acts := s.acts + 1 } := ⟨hg.now, hg.saves, hg.few, by show s.acts + 1 ≤ 150; omega⟩
  have HGD := St.hid hg6
  have e : doG s ⟨k, id, n, mask, row, box⟩ = ({ s with acts := s.acts + 1 }, no 4) := by
    have ea : actW s.now ⟨k, id, n, mask, row, box⟩ = (s.now, no 4) := by simp [actW, h1, h2, h3, h4, h5, h6, h9]
    unfold doG
    rw [if_neg (by show ¬ 150 ≤ s.acts; omega), if_neg h7, if_neg h8, ea]
  rw [e]
  clear hG hg hg6 e
  go_enter Tryz.func14, Tryz.ntmps14
  go_wp2_with fail
  have hsz : (w.setCell ⟨b, 6, none⟩ (.int .i64 ((s.acts : Int) + 1))).heap.size = w.heap.size := by simp [World.setCell]
  have hAC := St.hid ((rowIsL (w.setCell ⟨b, 6, none⟩ (.int .i64 ((s.acts : Int) + 1))) [.int .i64 k, .int .i64 id, .int .i64 n, .int .i64 mask, .int .i64 row.x, .int .i64 row.y, .int .i64 row.px, .int .i64 row.py, .int .i64 row.wd, .int .i64 row.ht, .int .i64 row.ms, .int .i64 row.rr, .int .i64 box.id, .int .i64 box.x1, .int .i64 box.y1, .int .i64 box.x2, .int .i64 box.y2] 38).alloc (.cells #[.int .i64 0, .int .i64 0, .slice none 0 0, .slice none 0 0] 31))
  have hRP := St.hid (Rp.rowIs4 ((w.setCell ⟨b, 6, none⟩ (.int .i64 ((s.acts : Int) + 1))).alloc (.cells #[.int .i64 k, .int .i64 id, .int .i64 n, .int .i64 mask, .int .i64 row.x, .int .i64 row.y, .int .i64 row.px, .int .i64 row.py, .int .i64 row.wd, .int .i64 row.ht, .int .i64 row.ms, .int .i64 row.rr, .int .i64 box.id, .int .i64 box.x1, .int .i64 box.y1, .int .i64 box.x2, .int .i64 box.y2] 38)) 0 0 (.slice none 0 0) (.slice none 0 0) 31)
  rw [World.size_alloc] at hRP
  rw [hsz] at hAC hRP
  have HGW := St.hid (HG6.out.below (bal (bal (Below.refl _ (w.setCell ⟨b, 6, none⟩ (.int .i64 ((s.acts : Int) + 1)))) (.cells #[.int .i64 k, .int .i64 id, .int .i64 n, .int .i64 mask, .int .i64 row.x, .int .i64 row.y, .int .i64 row.px, .int .i64 row.py, .int .i64 row.wd, .int .i64 row.ht, .int .i64 row.ms, .int .i64 row.rr, .int .i64 box.id, .int .i64 box.x1, .int .i64 box.y1, .int .i64 box.x2, .int .i64 box.y2] 38)) (.cells #[.int .i64 0, .int .i64 0, .slice none 0 0, .slice none 0 0] 31)))
  have HKW := St.hid (((Kept.below (F := F) (Below.refl _ w)).set (Or.inl HG.out.own) 6 (.int .i64 ((s.acts : Int) + 1))).call (bal (bal (Below.refl _ _) (.cells #[.int .i64 k, .int .i64 id, .int .i64 n, .int .i64 mask, .int .i64 row.x, .int .i64 row.y, .int .i64 row.px, .int .i64 row.py, .int .i64 row.wd, .int .i64 row.ht, .int .i64 row.ms, .int .i64 row.rr, .int .i64 box.id, .int .i64 box.x1, .int .i64 box.y1, .int .i64 box.x2, .int .i64 box.y2] 38)) (.cells #[.int .i64 0, .int .i64 0, .slice none 0 0, .slice none 0 0] 31)))
  have hzW : (((w.setCell ⟨b, 6, none⟩ (.int .i64 ((s.acts : Int) + 1))).alloc (.cells #[.int .i64 k, .int .i64 id, .int .i64 n, .int .i64 mask, .int .i64 row.x, .int .i64 row.y, .int .i64 row.px, .int .i64 row.py, .int .i64 row.wd, .int .i64 row.ht, .int .i64 row.ms, .int .i64 row.rr, .int .i64 box.id, .int .i64 box.x1, .int .i64 box.y1, .int .i64 box.x2, .int .i64 box.y2] 38)).alloc (.cells #[.int .i64 0, .int .i64 0, .slice none 0 0, .slice none 0 0] 31)).heap.size = w.heap.size + 1 + 1 := by simp [World.setCell]
  change Hid ((((w.setCell ⟨b, 6, none⟩ (.int .i64 ((s.acts : Int) + 1))).alloc (.cells #[.int .i64 k, .int .i64 id, .int .i64 n, .int .i64 mask, .int .i64 row.x, .int .i64 row.y, .int .i64 row.px, .int .i64 row.py, .int .i64 row.wd, .int .i64 row.ht, .int .i64 row.ms, .int .i64 row.rr, .int .i64 box.id, .int .i64 box.x1, .int .i64 box.y1, .int .i64 box.x2, .int .i64 box.y2] 38)).alloc (.cells #[.int .i64 0, .int .i64 0, .slice none 0 0, .slice none 0 0] 31)).rowIs w.heap.size 38 17 _) at hAC
  generalize (((w.setCell ⟨b, 6, none⟩ (.int .i64 ((s.acts : Int) + 1))).alloc (.cells #[.int .i64 k, .int .i64 id, .int .i64 n, .int .i64 mask, .int .i64 row.x, .int .i64 row.y, .int .i64 row.px, .int .i64 row.py, .int .i64 row.wd, .int .i64 row.ht, .int .i64 row.ms, .int .i64 row.rr, .int .i64 box.id, .int .i64 box.x1, .int .i64 box.y1, .int .i64 box.x2, .int .i64 box.y2] 38)).alloc (.cells #[.int .i64 0, .int .i64 0, .slice none 0 0, .slice none 0 0] 31)) = W at hAC hRP HGW HKW hzW ⊢
  have HFL : Hid (∀ z, F z → z < w.heap.size) := St.hid HG.out.lt
  clear hsz HG6 HG x6 f6
  refine (refused_any 4 _).mono ?_
  rintro e w1 ⟨rfl, hb1⟩
  have hRP1 := St.hid (rowIs_below hRP.out hb1)
  have HB1 := St.hid hb1
  have hz1 := hb1.size
  clear hb1 hRP
  obtain ⟨p0, p1, p2, p3⟩ := Rp.rcells hRP1.out
  have p4 := hRP1.out.frozen 0
  have p5 := hRP1.out.frozen 1
  have p6 := hRP1.out.frozen 2
  have p7 := hRP1.out.frozen 3
  have hlt1 : w.heap.size + 1 < w1.heap.size := by omega
  go_wp2_with fail
  obtain ⟨q0, q1, q2, q3⟩ := four (put4 hRP1.out (.int .i64 4) (.int .i64 0) (.slice none 0 0) (.slice none 0 0))
  exact bodyPost_ret (v := .agg #[.int .i64 4, .int .i64 0, .slice none 0 0, .slice none 0 0]) (by simp [results, Tryz.results14, go_sem, q0, q1, q2, q3]) rfl (postD_of (met := []) (am := none) (cm := 0) HFL.out HKW.out (by omega) (World.ownsRow_nil _ _ _ _) ⟨F, HGW.out.below HB1.out, (fun z hz => Or.inl hz), (fun z hz => by cases hz)⟩ (Kept.below HB1.out) _ _ _ _)
set_option maxHeartbeats 4000000 in
set_option maxRecDepth 100000 in
theorem do_full {F : Nat → Prop} {b : Nat} {s : Gp} {w : World} (hG : Gam w F b s) (hg : GoodG s) (ha : 150 ≤ s.acts) (k id n mask : Int) (row : R8) (box : Sw.B5) :
    Calls Tryz.prog 14 #[.pointer (some ⟨b, 0, none⟩), actA ⟨k, id, n, mask, row, box⟩] w (PostD w F b (doG s ⟨k, id, n, mask, row, box⟩).1 (doG s ⟨k, id, n, mask, row, box⟩).2) := by
  have HGM := St.hid hG
  have hac := hg.acts
  obtain ⟨v, vs, sv, Fs, hG⟩ := hG
  have hbz := hG.lt b hG.own
  have HFL : Hid (∀ z, F z → z < w.heap.size) := St.hid hG.lt
  obtain ⟨-, -, -, -, -, -, x6⟩ := gcells hG.row
  have e : doG s ⟨k, id, n, mask, row, box⟩ = (s, no 5) := by unfold doG; rw [if_pos ha]
  rw [e]
  clear hG hg e
  go_enter Tryz.func14, Tryz.ntmps14
  go_wp2_with fail
  have hRP := St.hid (Rp.rowIs4 (w.alloc (.cells #[.int .i64 k, .int .i64 id, .int .i64 n, .int .i64 mask, .int .i64 row.x, .int .i64 row.y, .int .i64 row.px, .int .i64 row.py, .int .i64 row.wd, .int .i64 row.ht, .int .i64 row.ms, .int .i64 row.rr, .int .i64 box.id, .int .i64 box.x1, .int .i64 box.y1, .int .i64 box.x2, .int .i64 box.y2] 38)) 0 0 (.slice none 0 0) (.slice none 0 0) 31)
  rw [World.size_alloc] at hRP
  have HBW := St.hid (bal (bal (Below.refl _ w) (.cells #[.int .i64 k, .int .i64 id, .int .i64 n, .int .i64 mask, .int .i64 row.x, .int .i64 row.y, .int .i64 row.px, .int .i64 row.py, .int .i64 row.wd, .int .i64 row.ht, .int .i64 row.ms, .int .i64 row.rr, .int .i64 box.id, .int .i64 box.x1, .int .i64 box.y1, .int .i64 box.x2, .int .i64 box.y2] 38)) (.cells #[.int .i64 0, .int .i64 0, .slice none 0 0, .slice none 0 0] 31))
  have hzW : ((w.alloc (.cells #[.int .i64 k, .int .i64 id, .int .i64 n, .int .i64 mask, .int .i64 row.x, .int .i64 row.y, .int .i64 row.px, .int .i64 row.py, .int .i64 row.wd, .int .i64 row.ht, .int .i64 row.ms, .int .i64 row.rr, .int .i64 box.id, .int .i64 box.x1, .int .i64 box.y1, .int .i64 box.x2, .int .i64 box.y2] 38)).alloc (.cells #[.int .i64 0, .int .i64 0, .slice none 0 0, .slice none 0 0] 31)).heap.size = w.heap.size + 1 + 1 := by simp
  generalize (w.alloc (.cells #[.int .i64 k, .int .i64 id, .int .i64 n, .int .i64 mask, .int .i64 row.x, .int .i64 row.y, .int .i64 row.px, .int .i64 row.py, .int .i64 row.wd, .int .i64 row.ht, .int .i64 row.ms, .int .i64 row.rr, .int .i64 box.id, .int .i64 box.x1, .int .i64 box.y1, .int .i64 box.x2, .int .i64 box.y2] 38)).alloc (.cells #[.int .i64 0, .int .i64 0, .slice none 0 0, .slice none 0 0] 31) = W at hRP HBW hzW ⊢
  refine (refused_any 5 _).mono ?_
  rintro e w1 ⟨rfl, hb1⟩
  have hRP1 := St.hid (rowIs_below hRP.out hb1)
  have HB1 := St.hid hb1
  have hz1 := hb1.size
  clear hb1 hRP
  obtain ⟨p0, p1, p2, p3⟩ := Rp.rcells hRP1.out
  have p4 := hRP1.out.frozen 0
  have p5 := hRP1.out.frozen 1
  have p6 := hRP1.out.frozen 2
  have p7 := hRP1.out.frozen 3
  have hlt1 : w.heap.size + 1 < w1.heap.size := by omega
  go_wp2_with fail
  obtain ⟨q0, q1, q2, q3⟩ := four (put4 hRP1.out (.int .i64 5) (.int .i64 0) (.slice none 0 0) (.slice none 0 0))
  exact bodyPost_ret (v := .agg #[.int .i64 5, .int .i64 0, .slice none 0 0, .slice none 0 0]) (by simp [results, Tryz.results14, go_sem, q0, q1, q2, q3]) rfl (postD_of (met := []) (am := none) (cm := 0) HFL.out (Kept.below HBW.out) (by omega) (World.ownsRow_nil _ _ _ _) ⟨F, (HGM.out.below HBW.out).below HB1.out, (fun z hz => Or.inl hz), (fun z hz => by cases hz)⟩ (Kept.below HB1.out) _ _ _ _)
/-- Do: whatever the act, whatever the game. -/
theorem do_any {F : Nat → Prop} {b : Nat} {s : Gp} {w : World} (hG : Gam w F b s) (hg : GoodG s) (a : Ac) :
    Calls Tryz.prog 14 #[.pointer (some ⟨b, 0, none⟩), actA a] w (PostD w F b (doG s a).1 (doG s a).2) := by
  obtain ⟨k, id, n, mask, row, box⟩ := a
  rcases Nat.lt_or_ge s.acts 150 with ha | ha
  · by_cases h1 : k = 1
    · subst h1; exact do_spawn hG hg ha id n mask row box
    by_cases h2 : k = 2
    · subst h2; exact do_kill hG hg ha id n mask row box
    by_cases h3 : k = 3
    · subst h3; exact do_give hG hg ha id n mask row box
    by_cases h4 : k = 4
    · subst h4; exact do_take hG hg ha id n mask row box
    by_cases h5 : k = 5
    · subst h5; exact do_kick hG hg ha id n mask row box
    by_cases h6 : k = 6
    · subst h6; exact do_step hG hg ha id n mask row box
    by_cases h7 : k = 7
    · subst h7; exact do_save hG hg ha id n mask row box
    by_cases h8 : k = 8
    · subst h8; exact do_load hG hg ha id n mask row box
    by_cases h9 : k = 9
    · subst h9; exact do_look hG hg ha id n mask row box
    exact do_other hG hg ha k h1 h2 h3 h4 h5 h6 h7 h8 h9 id n mask row box
  · exact do_full hG hg ha k id n mask row box
end Go.Proofs.YtckkkdldljhehacGreat.Gm
