/- What Do of a game in memory answers when called to save, to load or to kill: the plain reply and the game as it is then; all blocks but the game's are as they were. -/
import Derived.Test.YtckkkdldljhehacGreatKtGmJ
import Derived.Deep.RegionWith
namespace Go.Proofs.YtckkkdldljhehacGreat.Gm
open Go.Proofs.YtckkkdldljhehacGreat.Num Go.Proofs.YtckkkdldljhehacGreat.St Go.Proofs.YtckkkdldljhehacGreat.Wd
open Go.ChangeShapes Go.WideShapes Go.ChangeAt Go.RowKit

attribute [local go_sem ↓] Go.wp_at_zero Go.wp_at_succ
set_option maxHeartbeats 4000000 in
set_option maxRecDepth 100000 in
theorem do_save {F : Nat → Prop} {b : Nat} {s : Gp} {w : World} (hG : Gam w F b s) (hg : GoodG s) (ha : s.acts < 150) (id n mask : Int) (row : R8) (box : Sw.B5) :
    Calls Tryz.prog 14 #[.pointer (some ⟨b, 0, none⟩), actA ⟨7, id, n, mask, row, box⟩] w (PostD w F b (doG s ⟨7, id, n, mask, row, box⟩).1 (doG s ⟨7, id, n, mask, row, box⟩).2) := by
  obtain ⟨v, vs, sv, Fs, hG⟩ := hG
  have hbz := hG.lt b hG.own
  have HG := St.hid hG
  obtain ⟨-, -, -, -, -, -, x6⟩ := gcells hG.row
  obtain ⟨-, -, -, -, -, -, f6⟩ := gfrozen hG.row
  have HG6 : Hid (Gam (w.setCell ⟨b, 6, none⟩ (.int .i64 ((s.acts : Int) + 1))) F b { s with acts := s.acts + 1 }) := St.hid ⟨_, vs, sv, Fs, hG.acts (s.acts + 1)⟩
  have hg6 : GoodG { s with acts := s.acts + 1 } := ⟨hg.now, hg.saves, hg.few, by show s.acts + 1 ≤ 150; omega⟩
  have HGD := St.hid hg6
  have e : doG s ⟨7, id, n, mask, row, box⟩ = ((saveG { s with acts := s.acts + 1 }).1, ⟨(saveG { s with acts := s.acts + 1 }).2.code, (saveG { s with acts := s.acts + 1 }).2.n, [], ([] : List (Int × Int))⟩) := by
    unfold doG saveG
    rw [if_neg (by show ¬ 150 ≤ s.acts; omega), if_pos rfl]
    split <;> rfl
  rw [e]
  clear hG hg hg6 e
  have HC : Hid (∀ W, Gam W F b { s with acts := s.acts + 1 } → Calls Tryz.prog 38 #[.pointer (some ⟨b, 0, none⟩)] W (PostM W F b (saveG { s with acts := s.acts + 1 }).1 (saveG { s with acts := s.acts + 1 }).2.code (saveG { s with acts := s.acts + 1 }).2.n ([] : List (Int × Int)))) := St.hid (fun W h => Calls.mono (gsave_any h HGD.out) (fun _ _ h => h.toM))
  simp only []
  generalize (saveG { s with acts := s.acts + 1 }).2.code = cc at HC ⊢
  generalize (saveG { s with acts := s.acts + 1 }).2.n = nn at HC ⊢
  generalize ([] : List (Int × Int)) = ms at HC ⊢
  generalize ((saveG { s with acts := s.acts + 1 }).1 : Gp) = s9 at HC ⊢
  go_enter Tryz.func14, Tryz.ntmps14
  go_wp2_with fail
  have hsz : (w.setCell ⟨b, 6, none⟩ (.int .i64 ((s.acts : Int) + 1))).heap.size = w.heap.size := by simp [World.setCell]
  have hAC := St.hid ((rowIsL (w.setCell ⟨b, 6, none⟩ (.int .i64 ((s.acts : Int) + 1))) [.int .i64 7, .int .i64 id, .int .i64 n, .int .i64 mask, .int .i64 row.x, .int .i64 row.y, .int .i64 row.px, .int .i64 row.py, .int .i64 row.wd, .int .i64 row.ht, .int .i64 row.ms, .int .i64 row.rr, .int .i64 box.id, .int .i64 box.x1, .int .i64 box.y1, .int .i64 box.x2, .int .i64 box.y2] 38).alloc (.cells #[.int .i64 0, .int .i64 0, .slice none 0 0, .slice none 0 0] 31))
  have hRP := St.hid (Rp.rowIs4 ((w.setCell ⟨b, 6, none⟩ (.int .i64 ((s.acts : Int) + 1))).alloc (.cells #[.int .i64 7, .int .i64 id, .int .i64 n, .int .i64 mask, .int .i64 row.x, .int .i64 row.y, .int .i64 row.px, .int .i64 row.py, .int .i64 row.wd, .int .i64 row.ht, .int .i64 row.ms, .int .i64 row.rr, .int .i64 box.id, .int .i64 box.x1, .int .i64 box.y1, .int .i64 box.x2, .int .i64 box.y2] 38)) 0 0 (.slice none 0 0) (.slice none 0 0) 31)
  rw [World.size_alloc] at hRP
  rw [hsz] at hAC hRP
  have HGW := St.hid (HG6.out.below (bal (bal (Below.refl _ (w.setCell ⟨b, 6, none⟩ (.int .i64 ((s.acts : Int) + 1)))) (.cells #[.int .i64 7, .int .i64 id, .int .i64 n, .int .i64 mask, .int .i64 row.x, .int .i64 row.y, .int .i64 row.px, .int .i64 row.py, .int .i64 row.wd, .int .i64 row.ht, .int .i64 row.ms, .int .i64 row.rr, .int .i64 box.id, .int .i64 box.x1, .int .i64 box.y1, .int .i64 box.x2, .int .i64 box.y2] 38)) (.cells #[.int .i64 0, .int .i64 0, .slice none 0 0, .slice none 0 0] 31)))
  have HKW := St.hid (((Kept.below (F := F) (Below.refl _ w)).set (Or.inl HG.out.own) 6 (.int .i64 ((s.acts : Int) + 1))).call (bal (bal (Below.refl _ _) (.cells #[.int .i64 7, .int .i64 id, .int .i64 n, .int .i64 mask, .int .i64 row.x, .int .i64 row.y, .int .i64 row.px, .int .i64 row.py, .int .i64 row.wd, .int .i64 row.ht, .int .i64 row.ms, .int .i64 row.rr, .int .i64 box.id, .int .i64 box.x1, .int .i64 box.y1, .int .i64 box.x2, .int .i64 box.y2] 38)) (.cells #[.int .i64 0, .int .i64 0, .slice none 0 0, .slice none 0 0] 31)))
  have hzW : (((w.setCell ⟨b, 6, none⟩ (.int .i64 ((s.acts : Int) + 1))).alloc (.cells #[.int .i64 7, .int .i64 id, .int .i64 n, .int .i64 mask, .int .i64 row.x, .int .i64 row.y, .int .i64 row.px, .int .i64 row.py, .int .i64 row.wd, .int .i64 row.ht, .int .i64 row.ms, .int .i64 row.rr, .int .i64 box.id, .int .i64 box.x1, .int .i64 box.y1, .int .i64 box.x2, .int .i64 box.y2] 38)).alloc (.cells #[.int .i64 0, .int .i64 0, .slice none 0 0, .slice none 0 0] 31)).heap.size = w.heap.size + 1 + 1 := by simp [World.setCell]
  change Hid ((((w.setCell ⟨b, 6, none⟩ (.int .i64 ((s.acts : Int) + 1))).alloc (.cells #[.int .i64 7, .int .i64 id, .int .i64 n, .int .i64 mask, .int .i64 row.x, .int .i64 row.y, .int .i64 row.px, .int .i64 row.py, .int .i64 row.wd, .int .i64 row.ht, .int .i64 row.ms, .int .i64 row.rr, .int .i64 box.id, .int .i64 box.x1, .int .i64 box.y1, .int .i64 box.x2, .int .i64 box.y2] 38)).alloc (.cells #[.int .i64 0, .int .i64 0, .slice none 0 0, .slice none 0 0] 31)).rowIs w.heap.size 38 17 _) at hAC
  generalize (((w.setCell ⟨b, 6, none⟩ (.int .i64 ((s.acts : Int) + 1))).alloc (.cells #[.int .i64 7, .int .i64 id, .int .i64 n, .int .i64 mask, .int .i64 row.x, .int .i64 row.y, .int .i64 row.px, .int .i64 row.py, .int .i64 row.wd, .int .i64 row.ht, .int .i64 row.ms, .int .i64 row.rr, .int .i64 box.id, .int .i64 box.x1, .int .i64 box.y1, .int .i64 box.x2, .int .i64 box.y2] 38)).alloc (.cells #[.int .i64 0, .int .i64 0, .slice none 0 0, .slice none 0 0] 31)) = W at hAC hRP HGW HKW hzW ⊢
  have HFL : Hid (∀ z, F z → z < w.heap.size) := St.hid HG.out.lt
  clear hsz HG6 HG x6 f6
  refine (HC.out _ HGW.out).mono ?_
  rintro e w1 ⟨vm, rfl, hown, hGx, hk1⟩
  obtain ⟨am, cm, rfl⟩ := own_form hown
  have HOW := St.hid hown
  have HGX := St.hid hGx
  have HK1 := St.hid hk1
  have hRP1 := St.hid (rowIs_kept hRP.out hk1 (fun hc => by have := HFL.out _ hc; omega))
  have hz1 := hk1.size
  clear hown hGx hk1 hRP
  obtain ⟨p0, p1, p2, p3⟩ := Rp.rcells hRP1.out
  have p4 := hRP1.out.frozen 0
  have p5 := hRP1.out.frozen 1
  have p6 := hRP1.out.frozen 2
  have p7 := hRP1.out.frozen 3
  have hlt1 : w.heap.size + 1 < w1.heap.size := by omega
  go_wp2_with fail
  obtain ⟨q0, q1, q2, q3⟩ := four (put4 hRP1.out (.int .i64 cc) (.int .i64 nn) (.slice none 0 0) (.slice am ms.length cm))
  exact bodyPost_ret (v := .agg #[.int .i64 cc, .int .i64 nn, .slice none 0 0, .slice am ms.length cm]) (by simp [results, Tryz.results14, go_sem, q0, q1, q2, q3]) rfl (postD_of HFL.out HKW.out (by omega) HOW.out HGX.out HK1.out _ _ _ _)
set_option maxHeartbeats 4000000 in
set_option maxRecDepth 100000 in
theorem do_load {F : Nat → Prop} {b : Nat} {s : Gp} {w : World} (hG : Gam w F b s) (hg : GoodG s) (ha : s.acts < 150) (id n mask : Int) (row : R8) (box : Sw.B5) :
    Calls Tryz.prog 14 #[.pointer (some ⟨b, 0, none⟩), actA ⟨8, id, n, mask, row, box⟩] w (PostD w F b (doG s ⟨8, id, n, mask, row, box⟩).1 (doG s ⟨8, id, n, mask, row, box⟩).2) := by
  obtain ⟨v, vs, sv, Fs, hG⟩ := hG
  have hbz := hG.lt b hG.own
  have HG := St.hid hG
  obtain ⟨-, -, -, -, -, -, x6⟩ := gcells hG.row
  obtain ⟨-, -, -, -, -, -, f6⟩ := gfrozen hG.row
  have HG6 : Hid (Gam (w.setCell ⟨b, 6, none⟩ (.int .i64 ((s.acts : Int) + 1))) F b { s with acts := s.acts + 1 }) := St.hid ⟨_, vs, sv, Fs, hG.acts (s.acts + 1)⟩
  have hg6 : GoodG { s with acts := s.acts + 1 } := ⟨hg.now, hg.saves, hg.few, by show s.acts + 1 ≤ 150; omega⟩
  have HGD := St.hid hg6
  have e : doG s ⟨8, id, n, mask, row, box⟩ = ({ s with now := (loadW { s with acts := s.acts + 1 } n).1, acts := s.acts + 1 }, ⟨(loadW { s with acts := s.acts + 1 } n).2.code, (loadW { s with acts := s.acts + 1 } n).2.n, [], ([] : List (Int × Int))⟩) := by
    unfold doG loadW
    rw [if_neg (by show ¬ 150 ≤ s.acts; omega), if_neg (by simp), if_pos rfl]
    simp only []
    split <;> rfl
  rw [e]
  clear hG hg hg6 e
  have HC : Hid (∀ W, Gam W F b { s with acts := s.acts + 1 } → Calls Tryz.prog 39 #[.pointer (some ⟨b, 0, none⟩), .int .i64 n] W (PostM W F b { s with now := (loadW { s with acts := s.acts + 1 } n).1, acts := s.acts + 1 } (loadW { s with acts := s.acts + 1 } n).2.code (loadW { s with acts := s.acts + 1 } n).2.n ([] : List (Int × Int)))) := St.hid (fun W h => Calls.mono (gload_any h HGD.out n) (fun _ _ h => h.toM))
  simp only []
  generalize (loadW { s with acts := s.acts + 1 } n).2.code = cc at HC ⊢
  generalize (loadW { s with acts := s.acts + 1 } n).2.n = nn at HC ⊢
  generalize ([] : List (Int × Int)) = ms at HC ⊢
  generalize ({ s with now := (loadW { s with acts := s.acts + 1 } n).1, acts := s.acts + 1 } : Gp) = s9 at HC ⊢
  go_enter Tryz.func14, Tryz.ntmps14
  go_wp2_with fail
  have hsz : (w.setCell ⟨b, 6, none⟩ (.int .i64 ((s.acts : Int) + 1))).heap.size = w.heap.size := by simp [World.setCell]
  have hAC := St.hid ((rowIsL (w.setCell ⟨b, 6, none⟩ (.int .i64 ((s.acts : Int) + 1))) [.int .i64 8, .int .i64 id, .int .i64 n, .int .i64 mask, .int .i64 row.x, .int .i64 row.y, .int .i64 row.px, .int .i64 row.py, .int .i64 row.wd, .int .i64 row.ht, .int .i64 row.ms, .int .i64 row.rr, .int .i64 box.id, .int .i64 box.x1, .int .i64 box.y1, .int .i64 box.x2, .int .i64 box.y2] 38).alloc (.cells #[.int .i64 0, .int .i64 0, .slice none 0 0, .slice none 0 0] 31))
  have hRP := St.hid (Rp.rowIs4 ((w.setCell ⟨b, 6, none⟩ (.int .i64 ((s.acts : Int) + 1))).alloc (.cells #[.int .i64 8, .int .i64 id, .int .i64 n, .int .i64 mask, .int .i64 row.x, .int .i64 row.y, .int .i64 row.px, .int .i64 row.py, .int .i64 row.wd, .int .i64 row.ht, .int .i64 row.ms, .int .i64 row.rr, .int .i64 box.id, .int .i64 box.x1, .int .i64 box.y1, .int .i64 box.x2, .int .i64 box.y2] 38)) 0 0 (.slice none 0 0) (.slice none 0 0) 31)
  rw [World.size_alloc] at hRP
  rw [hsz] at hAC hRP
  have HGW := St.hid (HG6.out.below (bal (bal (Below.refl _ (w.setCell ⟨b, 6, none⟩ (.int .i64 ((s.acts : Int) + 1)))) (.cells #[.int .i64 8, .int .i64 id, .int .i64 n, .int .i64 mask, .int .i64 row.x, .int .i64 row.y, .int .i64 row.px, .int .i64 row.py, .int .i64 row.wd, .int .i64 row.ht, .int .i64 row.ms, .int .i64 row.rr, .int .i64 box.id, .int .i64 box.x1, .int .i64 box.y1, .int .i64 box.x2, .int .i64 box.y2] 38)) (.cells #[.int .i64 0, .int .i64 0, .slice none 0 0, .slice none 0 0] 31)))
  have HKW := St.hid (((Kept.below (F := F) (Below.refl _ w)).set (Or.inl HG.out.own) 6 (.int .i64 ((s.acts : Int) + 1))).call (bal (bal (Below.refl _ _) (.cells #[.int .i64 8, .int .i64 id, .int .i64 n, .int .i64 mask, .int .i64 row.x, .int .i64 row.y, .int .i64 row.px, .int .i64 row.py, .int .i64 row.wd, .int .i64 row.ht, .int .i64 row.ms, .int .i64 row.rr, .int .i64 box.id, .int .i64 box.x1, .int .i64 box.y1, .int .i64 box.x2, .int .i64 box.y2] 38)) (.cells #[.int .i64 0, .int .i64 0, .slice none 0 0, .slice none 0 0] 31)))
  have hzW : (((w.setCell ⟨b, 6, none⟩ (.int .i64 ((s.acts : Int) + 1))).alloc (.cells #[.int .i64 8, .int .i64 id, .int .i64 n, .int .i64 mask, .int .i64 row.x, .int .i64 row.y, .int .i64 row.px, .int .i64 row.py, .int .i64 row.wd, .int .i64 row.ht, .int .i64 row.ms, .int .i64 row.rr, .int .i64 box.id, .int .i64 box.x1, .int .i64 box.y1, .int .i64 box.x2, .int .i64 box.y2] 38)).alloc (.cells #[.int .i64 0, .int .i64 0, .slice none 0 0, .slice none 0 0] 31)).heap.size = w.heap.size + 1 + 1 := by simp [World.setCell]
  change Hid ((((w.setCell ⟨b, 6, none⟩ (.int .i64 ((s.acts : Int) + 1))).alloc (.cells #[.int .i64 8, .int .i64 id, .int .i64 n, .int .i64 mask, .int .i64 row.x, .int .i64 row.y, .int .i64 row.px, .int .i64 row.py, .int .i64 row.wd, .int .i64 row.ht, .int .i64 row.ms, .int .i64 row.rr, .int .i64 box.id, .int .i64 box.x1, .int .i64 box.y1, .int .i64 box.x2, .int .i64 box.y2] 38)).alloc (.cells #[.int .i64 0, .int .i64 0, .slice none 0 0, .slice none 0 0] 31)).rowIs w.heap.size 38 17 _) at hAC
  generalize (((w.setCell ⟨b, 6, none⟩ (.int .i64 ((s.acts : Int) + 1))).alloc (.cells #[.int .i64 8, .int .i64 id, .int .i64 n, .int .i64 mask, .int .i64 row.x, .int .i64 row.y, .int .i64 row.px, .int .i64 row.py, .int .i64 row.wd, .int .i64 row.ht, .int .i64 row.ms, .int .i64 row.rr, .int .i64 box.id, .int .i64 box.x1, .int .i64 box.y1, .int .i64 box.x2, .int .i64 box.y2] 38)).alloc (.cells #[.int .i64 0, .int .i64 0, .slice none 0 0, .slice none 0 0] 31)) = W at hAC hRP HGW HKW hzW ⊢
  have HFL : Hid (∀ z, F z → z < w.heap.size) := St.hid HG.out.lt
  clear hsz HG6 HG x6 f6
  refine (HC.out _ HGW.out).mono ?_
  rintro e w1 ⟨vm, rfl, hown, hGx, hk1⟩
  obtain ⟨am, cm, rfl⟩ := own_form hown
  have HOW := St.hid hown
  have HGX := St.hid hGx
  have HK1 := St.hid hk1
  have hRP1 := St.hid (rowIs_kept hRP.out hk1 (fun hc => by have := HFL.out _ hc; omega))
  have hz1 := hk1.size
  clear hown hGx hk1 hRP
  obtain ⟨p0, p1, p2, p3⟩ := Rp.rcells hRP1.out
  have p4 := hRP1.out.frozen 0
  have p5 := hRP1.out.frozen 1
  have p6 := hRP1.out.frozen 2
  have p7 := hRP1.out.frozen 3
  have hlt1 : w.heap.size + 1 < w1.heap.size := by omega
  go_wp2_with fail
  obtain ⟨q0, q1, q2, q3⟩ := four (put4 hRP1.out (.int .i64 cc) (.int .i64 nn) (.slice none 0 0) (.slice am ms.length cm))
  exact bodyPost_ret (v := .agg #[.int .i64 cc, .int .i64 nn, .slice none 0 0, .slice am ms.length cm]) (by simp [results, Tryz.results14, go_sem, q0, q1, q2, q3]) rfl (postD_of HFL.out HKW.out (by omega) HOW.out HGX.out HK1.out _ _ _ _)
set_option maxHeartbeats 4000000 in
set_option maxRecDepth 100000 in
theorem do_kill {F : Nat → Prop} {b : Nat} {s : Gp} {w : World} (hG : Gam w F b s) (hg : GoodG s) (ha : s.acts < 150) (id n mask : Int) (row : R8) (box : Sw.B5) :
    Calls Tryz.prog 14 #[.pointer (some ⟨b, 0, none⟩), actA ⟨2, id, n, mask, row, box⟩] w (PostD w F b (doG s ⟨2, id, n, mask, row, box⟩).1 (doG s ⟨2, id, n, mask, row, box⟩).2) := by
  obtain ⟨v, vs, sv, Fs, hG⟩ := hG
  have hbz := hG.lt b hG.own
  have HG := St.hid hG
  obtain ⟨a, nn, c, rfl⟩ := hG.now.one
  obtain ⟨-, -, -, -, -, -, x6⟩ := gcells hG.row
  have HGP : Hid (GamP (w.setCell ⟨b, 6, none⟩ (.int .i64 ((s.acts : Int) + 1))) F b { s with acts := s.acts + 1 } (.slice a nn c) vs sv Fs) := St.hid (hG.acts (s.acts + 1))
  obtain ⟨-, -, -, -, -, -, f6⟩ := gfrozen hG.row
  have HG6 : Hid (Gam (w.setCell ⟨b, 6, none⟩ (.int .i64 ((s.acts : Int) + 1))) F b { s with acts := s.acts + 1 }) := St.hid ⟨_, vs, sv, Fs, hG.acts (s.acts + 1)⟩
  have hg6 : GoodG { s with acts := s.acts + 1 } := ⟨hg.now, hg.saves, hg.few, by show s.acts + 1 ≤ 150; omega⟩
  have HGD := St.hid hg6
  have e : doG s ⟨2, id, n, mask, row, box⟩ = ({ s with now := { s.now with L := (killS s.now.L id).1 }, acts := s.acts + 1 }, ⟨(killS s.now.L id).2, 0, [], []⟩) := by
    have ea : actW s.now ⟨2, id, n, mask, row, box⟩ = killW s.now id := by simp [actW]
    unfold doG
    rw [if_neg (by show ¬ 150 ≤ s.acts; omega), if_neg (by simp), if_neg (by simp), ea]
    exact congrArg _ (rfl)
  rw [e]
  clear hG hg hg6 e
  have HST : Hid ((killS s.now.L id).2 ≠ 0 → ({ s with now := { s.now with L := (killS s.now.L id).1 }, acts := s.acts + 1 } : Gp) = { s with acts := s.acts + 1 }) := St.hid (fun hne => by
    unfold killS at *
    split at hne
    · simp at hne
    · rename_i h; rw [if_neg h]
  )
  have HCH : Hid (∀ W, Sto W Fs (.slice a nn c) s.now.L → Calls Tryz.prog 33 #[.agg #[.slice a nn c, .int .i64 s.now.next], .int .i64 id] W fun e w' =>
      (∃ a n c, e = .returned (.tuple #[.agg #[.slice a n c, .int .i64 s.now.next], .int .i64 (killS s.now.L id).2]) ∧ ∃ F', Sto w' F' (.slice a n c) (killS s.now.L id).1 ∧ ∀ b, F' b → W.heap.size ≤ b) ∧ Below W.heap.size W w') :=
    St.hid (fun W h => h.kill s.now.next HGD.out.now.l id)
  simp only []
  generalize (killS s.now.L id).1 = L' at HCH HST ⊢
  generalize (killS s.now.L id).2 = ec at HCH HST ⊢
  go_enter Tryz.func14, Tryz.ntmps14
  go_wp2_with fail
  have hsz : (w.setCell ⟨b, 6, none⟩ (.int .i64 ((s.acts : Int) + 1))).heap.size = w.heap.size := by simp [World.setCell]
  have hAC := St.hid ((rowIsL (w.setCell ⟨b, 6, none⟩ (.int .i64 ((s.acts : Int) + 1))) [.int .i64 2, .int .i64 id, .int .i64 n, .int .i64 mask, .int .i64 row.x, .int .i64 row.y, .int .i64 row.px, .int .i64 row.py, .int .i64 row.wd, .int .i64 row.ht, .int .i64 row.ms, .int .i64 row.rr, .int .i64 box.id, .int .i64 box.x1, .int .i64 box.y1, .int .i64 box.x2, .int .i64 box.y2] 38).alloc (.cells #[.int .i64 0, .int .i64 0, .slice none 0 0, .slice none 0 0] 31))
  have hRP := St.hid (Rp.rowIs4 ((w.setCell ⟨b, 6, none⟩ (.int .i64 ((s.acts : Int) + 1))).alloc (.cells #[.int .i64 2, .int .i64 id, .int .i64 n, .int .i64 mask, .int .i64 row.x, .int .i64 row.y, .int .i64 row.px, .int .i64 row.py, .int .i64 row.wd, .int .i64 row.ht, .int .i64 row.ms, .int .i64 row.rr, .int .i64 box.id, .int .i64 box.x1, .int .i64 box.y1, .int .i64 box.x2, .int .i64 box.y2] 38)) 0 0 (.slice none 0 0) (.slice none 0 0) 31)
  rw [World.size_alloc] at hRP
  rw [hsz] at hAC hRP
  have HGW := St.hid (HGP.out.below (bal (bal (Below.refl _ (w.setCell ⟨b, 6, none⟩ (.int .i64 ((s.acts : Int) + 1)))) (.cells #[.int .i64 2, .int .i64 id, .int .i64 n, .int .i64 mask, .int .i64 row.x, .int .i64 row.y, .int .i64 row.px, .int .i64 row.py, .int .i64 row.wd, .int .i64 row.ht, .int .i64 row.ms, .int .i64 row.rr, .int .i64 box.id, .int .i64 box.x1, .int .i64 box.y1, .int .i64 box.x2, .int .i64 box.y2] 38)) (.cells #[.int .i64 0, .int .i64 0, .slice none 0 0, .slice none 0 0] 31)))
  have HKW := St.hid (((Kept.below (F := F) (Below.refl _ w)).set (Or.inl HG.out.own) 6 (.int .i64 ((s.acts : Int) + 1))).call (bal (bal (Below.refl _ _) (.cells #[.int .i64 2, .int .i64 id, .int .i64 n, .int .i64 mask, .int .i64 row.x, .int .i64 row.y, .int .i64 row.px, .int .i64 row.py, .int .i64 row.wd, .int .i64 row.ht, .int .i64 row.ms, .int .i64 row.rr, .int .i64 box.id, .int .i64 box.x1, .int .i64 box.y1, .int .i64 box.x2, .int .i64 box.y2] 38)) (.cells #[.int .i64 0, .int .i64 0, .slice none 0 0, .slice none 0 0] 31)))
  have hzW : (((w.setCell ⟨b, 6, none⟩ (.int .i64 ((s.acts : Int) + 1))).alloc (.cells #[.int .i64 2, .int .i64 id, .int .i64 n, .int .i64 mask, .int .i64 row.x, .int .i64 row.y, .int .i64 row.px, .int .i64 row.py, .int .i64 row.wd, .int .i64 row.ht, .int .i64 row.ms, .int .i64 row.rr, .int .i64 box.id, .int .i64 box.x1, .int .i64 box.y1, .int .i64 box.x2, .int .i64 box.y2] 38)).alloc (.cells #[.int .i64 0, .int .i64 0, .slice none 0 0, .slice none 0 0] 31)).heap.size = w.heap.size + 1 + 1 := by simp [World.setCell]
  change Hid ((((w.setCell ⟨b, 6, none⟩ (.int .i64 ((s.acts : Int) + 1))).alloc (.cells #[.int .i64 2, .int .i64 id, .int .i64 n, .int .i64 mask, .int .i64 row.x, .int .i64 row.y, .int .i64 row.px, .int .i64 row.py, .int .i64 row.wd, .int .i64 row.ht, .int .i64 row.ms, .int .i64 row.rr, .int .i64 box.id, .int .i64 box.x1, .int .i64 box.y1, .int .i64 box.x2, .int .i64 box.y2] 38)).alloc (.cells #[.int .i64 0, .int .i64 0, .slice none 0 0, .slice none 0 0] 31)).rowIs w.heap.size 38 17 _) at hAC
  generalize (((w.setCell ⟨b, 6, none⟩ (.int .i64 ((s.acts : Int) + 1))).alloc (.cells #[.int .i64 2, .int .i64 id, .int .i64 n, .int .i64 mask, .int .i64 row.x, .int .i64 row.y, .int .i64 row.px, .int .i64 row.py, .int .i64 row.wd, .int .i64 row.ht, .int .i64 row.ms, .int .i64 row.rr, .int .i64 box.id, .int .i64 box.x1, .int .i64 box.y1, .int .i64 box.x2, .int .i64 box.y2] 38)).alloc (.cells #[.int .i64 0, .int .i64 0, .slice none 0 0, .slice none 0 0] 31)) = W at hAC hRP HGW HKW hzW ⊢
  have HFL : Hid (∀ z, F z → z < w.heap.size) := St.hid HG.out.lt
  clear hsz HG6 HG x6 f6
  obtain ⟨a0, a1, a2, a3, a4, a5, a6, a7, a8, a9, a10, a11, a12, a13, a14, a15, a16⟩ := acells hAC.out
  clear a0 a2 a3 a4 a5 a6 a7 a8 a9 a10 a11 a12 a13 a14 a15 a16
  obtain ⟨x0, x1, -, -, -, -, -⟩ := gcells HGW.out.row
  go_region_with (first
    | (go_at_call 33; go_fit (HCH.out _ (HGW.out.now.below (by repeat (first | with_reducible exact Below.refl _ _ | with_reducible refine Below.drew ?_)))); rintro e w2 ⟨⟨a1, n1, c1, rfl, F1, hs1, hF1⟩, hb2⟩; have HQ2 := St.hid (bcall (by repeat (first | with_reducible exact Below.refl _ W | with_reducible refine Below.drew ?_)) hb2 : Below W.heap.size W w2); have HS1 := St.hid hs1; have HF1 : Hid (∀ z, F1 z → W.heap.size ≤ z) := St.hid (fun z hz => hF1 z hz); clear hb2 hs1 hF1)
    | (go_at_call 32; go_fit (become_any (HGW.out.below HQ2.out) HS1.out (new_not HGW.out.lt HF1.out (Nat.le_refl _)) s.now.next ec); rintro e w1 ⟨rfl, ⟨F3, hG4, hF3⟩, hk3⟩; have hRP1 := St.hid (rowIs_kept (rowIs_below hRP.out HQ2.out) hk3 (fun hc => by have := HFL.out _ hc; omega)); have HG4 := St.hid hG4; have HK3 := St.hid hk3; have HF3 := St.hid hF3; clear hG4 hk3 hF3; obtain ⟨p0, p1, p2, p3⟩ := Rp.rcells hRP1.out; have p4 := hRP1.out.frozen 0; have p5 := hRP1.out.frozen 1; have p6 := hRP1.out.frozen 2; have p7 := hRP1.out.frozen 3))
  all_goals
    go_wp2_with fail
    obtain ⟨q0, q1, q2, q3⟩ := four (put4 hRP1.out (.int .i64 ec) (.int .i64 0) (.slice none 0 0) (.slice none 0 0))
    refine bodyPost_ret (v := .agg #[.int .i64 ec, .int .i64 0, .slice none 0 0, .slice none 0 0]) (by simp [results, Tryz.results14, go_sem, q0, q1, q2, q3]) rfl ?_
    refine postD_of (met := []) (am := none) (cm := 0) HFL.out HKW.out (by omega) (World.ownsRow_nil _ _ _ _) ⟨F3, ?_, (fun z hz => (HF3.out z hz).imp (fun h => h) (fun h => HF1.out z h)), (fun z hz => by cases hz)⟩ ((Kept.below HQ2.out).trans HK3.out (fun z h => Or.inl h)) _ _ _ _
    have h := HG4.out
    by_cases he : ec = 0
    · rw [if_pos he] at h; exact h
    · rw [if_neg he] at h; rw [HST.out he]; exact h
end Go.Proofs.YtckkkdldljhehacGreat.Gm
