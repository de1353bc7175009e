/- What Do of a game in memory answers when called: the plain reply, its lists in memory of their own, and the game as it is then; all blocks but the game's are as they were. -/
import Derived.Test.YtckkkdldljhehacGreatKtGmI
import Derived.Test.YtckkkdldljhehacGreatKtGmE
import Derived.Test.YtckkkdldljhehacGreatKtGmF
namespace Go.Proofs.YtckkkdldljhehacGreat.Gm
open Go.Proofs.YtckkkdldljhehacGreat.Num Go.Proofs.YtckkkdldljhehacGreat.St Go.Proofs.YtckkkdldljhehacGreat.Wd
open Go.ChangeShapes Go.WideShapes Go.ChangeAt Go.RowKit

abbrev actA (a : Ac) : Value := actV a.kind a.id a.n a.mask a.row.x a.row.y a.row.px a.row.py a.row.wd a.row.ht a.row.ms a.row.rr a.box.id a.box.x1 a.box.y1 a.box.x2 a.box.y2
/-- What Do leaves. -/
def PostD (w : World) (F : Nat → Prop) (b : Nat) (s : Gp) (r : Rep) (e : Ending) (w' : World) : Prop :=
  ∃ ai ci am cm, e = .returned (.agg #[.int .i64 r.code, .int .i64 r.n, .slice ai r.ids.length ci, .slice am r.met.length cm]) ∧ w'.ownsRow w.heap.size 3 1 (.slice ai r.ids.length ci) r.ids.length (r.ids.map (Value.int .i64)) ∧ w'.ownsRow w.heap.size 54 2 (.slice am r.met.length cm) r.met.length (r.met.flatMap Sw.pairCells) ∧
    (∃ F', Gam w' F' b s ∧ (∀ z, F' z → F z ∨ w.heap.size ≤ z) ∧ ∀ z, (Value.slice ai r.ids.length ci).ownBlock = some z ∨ (Value.slice am r.met.length cm).ownBlock = some z → ¬ F' z) ∧ Kept F w w'
theorem GamP.acts {W : World} {F : Nat → Prop} {b : Nat} {s : Gp} {v vs : Value} {sv : List Value} {Fs : Nat → Prop} (h : GamP W F b s v vs sv Fs) (k : Nat) : GamP (W.setCell ⟨b, 6, none⟩ (.int .i64 k)) F b { s with acts := k } v vs sv Fs := by
  have hg := grown_set W b 6 (.int .i64 k)
  have hn : ¬ Fs b := fun hc => (h.inF b hc).2 rfl
  refine ⟨?_, owns_kept h.svs hg (fun z hz e => by cases e; exact (h.sep b hz).2.1 rfl), h.len, grown_keep h.now hg hn, fun i u x h1 h2 => grown_keep (h.all i u x h1 h2) hg hn, h.inF, h.own, h.sep, fun z hz => ?_⟩
  · refine (h.row.set 6 (.int .i64 k)).congr (fun i hi => ?_)
    match i, hi with
    | 0, _ => rfl
    | 1, _ => rfl
    | 2, _ => rfl
    | 3, _ => rfl
    | 4, _ => rfl
    | 5, _ => rfl
    | 6, _ => rfl
  · have hs : (W.setCell ⟨b, 6, none⟩ (.int .i64 k)).heap.size = W.heap.size := by simp [World.setCell]
    rw [hs]
    exact h.lt z hz
/-- Behind a method: its reply written into Do's. -/
theorem postD_of {w W w1 : World} {F : Nat → Prop} {b : Nat} {s : Gp} {c n : Int} {met : List (Int × Int)} {am : Option Addr} {cm : Nat} (hF : ∀ z, F z → z < w.heap.size) (hk : Kept F w W) (hW : w.heap.size + 2 ≤ W.heap.size)
    (hown : w1.ownsRow W.heap.size 54 2 (.slice am met.length cm) met.length (met.flatMap Sw.pairCells)) (hG : ∃ F', Gam w1 F' b s ∧ (∀ z, F' z → F z ∨ W.heap.size ≤ z) ∧ ∀ z, (Value.slice am met.length cm).ownBlock = some z → ¬ F' z) (hk1 : Kept F W w1) (x0 x1 x2 x3 : Value) :
    PostD w F b s ⟨c, n, [], met⟩ (.returned (.agg #[.int .i64 c, .int .i64 n, .slice none 0 0, .slice am met.length cm])) ((((w1.setCell ⟨w.heap.size + 1, 0, none⟩ x0).setCell ⟨w.heap.size + 1, 1, none⟩ x1).setCell ⟨w.heap.size + 1, 2, none⟩ x2).setCell ⟨w.heap.size + 1, 3, none⟩ x3) := by
  obtain ⟨F', h1, h2, h3⟩ := hG
  refine ⟨none, 0, am, cm, rfl, World.ownsRow_nil _ _ _ _, owns_mono (owns_kept hown (grown4 w1 (w.heap.size + 1) _ _ _ _) (fun z hz e => ?_)) (by omega), ⟨F', Gam.grown h1 (grown4 w1 (w.heap.size + 1) _ _ _ _) (fun hc => ?_), fun z hz => ?_, fun z hz => ?_⟩, kept_grown (hk.trans hk1 (fun z h => Or.inl h)) (grown4 w1 (w.heap.size + 1) _ _ _ _) (by omega)⟩
  · cases e; have := (hown.lt _ hz).1; omega
  · rcases h2 _ hc with h | h
    · have := hF _ h; omega
    · omega
  · rcases h2 _ hz with h | h
    · exact Or.inl h
    · exact Or.inr (by omega)
  · rcases hz with hz | hz
    · cases hz
    · exact h3 z hz
theorem give_rep (x : Wp) (id p : Int) (r : R8) : (giveW x id p r).2 = ⟨(giveW x id p r).2.code, (giveW x id p r).2.n, [], []⟩ := by
  unfold giveW
  split
  · split <;> rfl
  · rfl
theorem take_rep (x : Wp) (id p : Int) : (takeW x id p).2 = ⟨(takeW x id p).2.code, (takeW x id p).2.n, [], []⟩ := by
  unfold takeW
  split
  · split <;> rfl
  · rfl
theorem kick_rep (x : Wp) (id : Int) (r : R8) : (kickW x id r).2 = ⟨(kickW x id r).2.code, (kickW x id r).2.n, [], []⟩ := by
  unfold kickW
  split
  · split <;> rfl
  · rfl
theorem go_rep (x : Wp) (n : Int) : (goW x n).2 = ⟨(goW x n).2.code, (goW x n).2.n, [], (goW x n).2.met⟩ := by
  unfold goW
  split <;> rfl
theorem load_rep (s : Gp) (n : Int) : (loadW s n).2 = ⟨(loadW s n).2.code, (loadW s n).2.n, [], []⟩ := by
  unfold loadW
  split <;> rfl
theorem save_rep (s : Gp) : (saveG s).2 = ⟨(saveG s).2.code, (saveG s).2.n, [], []⟩ := by
  unfold saveG
  split <;> rfl
attribute [local go_sem ↓] Go.wp_at_zero Go.wp_at_succ
set_option maxHeartbeats 4000000 in
set_option maxRecDepth 100000 in
theorem do_spawn {F : Nat → Prop} {b : Nat} {s : Gp} {w : World} (hG : Gam w F b s) (hg : GoodG s) (ha : s.acts < 150) (id n mask : Int) (row : R8) (box : Sw.B5) :
    Calls Tryz.prog 14 #[.pointer (some ⟨b, 0, none⟩), actA ⟨1, id, n, mask, row, box⟩] w (PostD w F b (doG s ⟨1, id, n, mask, row, box⟩).1 (doG s ⟨1, id, n, mask, row, box⟩).2) := by
  obtain ⟨v, vs, sv, Fs, hG⟩ := hG
  have hbz := hG.lt b hG.own
  have HG := St.hid hG
  obtain ⟨-, -, -, -, -, -, x6⟩ := gcells hG.row
  obtain ⟨-, -, -, -, -, -, f6⟩ := gfrozen hG.row
  have HG6 : Hid (Gam (w.setCell ⟨b, 6, none⟩ (.int .i64 ((s.acts : Int) + 1))) F b { s with acts := s.acts + 1 }) := St.hid ⟨_, vs, sv, Fs, hG.acts (s.acts + 1)⟩
  have hg6 : GoodG { s with acts := s.acts + 1 } := ⟨hg.now, hg.saves, hg.few, by show s.acts + 1 ≤ 150; omega⟩
  have HGD := St.hid hg6
  have e : doG s ⟨1, id, n, mask, row, box⟩ = ({ s with now := (spawnW s.now mask row).1, acts := s.acts + 1 }, ⟨(spawnW s.now mask row).2.code, (spawnW s.now mask row).2.n, [], ([] : List (Int × Int))⟩) := by
    have ea : actW s.now ⟨1, id, n, mask, row, box⟩ = spawnW s.now mask row := by simp [actW]
    unfold doG
    rw [if_neg (by show ¬ 150 ≤ s.acts; omega), if_neg (by simp), if_neg (by simp), ea]
    exact congrArg _ (rfl)
  rw [e]
  clear hG hg hg6 e
  have HC : Hid (∀ W, Gam W F b { s with acts := s.acts + 1 } → Calls Tryz.prog 31 #[.pointer (some ⟨b, 0, none⟩), .int .i64 mask, .agg #[.int .i64 row.x, .int .i64 row.y, .int .i64 row.px, .int .i64 row.py, .int .i64 row.wd, .int .i64 row.ht, .int .i64 row.ms, .int .i64 row.rr]] W (PostM W F b { s with now := (spawnW s.now mask row).1, acts := s.acts + 1 } (spawnW s.now mask row).2.code (spawnW s.now mask row).2.n ([] : List (Int × Int)))) := St.hid (fun W h => Calls.mono (spawn_any h HGD.out mask row) (fun _ _ h => h.toM))
  simp only []
  generalize (spawnW s.now mask row).2.code = cc at HC ⊢
  generalize (spawnW s.now mask row).2.n = nn at HC ⊢
  generalize ([] : List (Int × Int)) = ms at HC ⊢
  generalize ({ s with now := (spawnW s.now mask row).1, acts := s.acts + 1 } : Gp) = s9 at HC ⊢
  go_enter Tryz.func14, Tryz.ntmps14
  go_wp2_with fail
  have hsz : (w.setCell ⟨b, 6, none⟩ (.int .i64 ((s.acts : Int) + 1))).heap.size = w.heap.size := by simp [World.setCell]
  have hAC := St.hid ((rowIsL (w.setCell ⟨b, 6, none⟩ (.int .i64 ((s.acts : Int) + 1))) [.int .i64 1, .int .i64 id, .int .i64 n, .int .i64 mask, .int .i64 row.x, .int .i64 row.y, .int .i64 row.px, .int .i64 row.py, .int .i64 row.wd, .int .i64 row.ht, .int .i64 row.ms, .int .i64 row.rr, .int .i64 box.id, .int .i64 box.x1, .int .i64 box.y1, .int .i64 box.x2, .int .i64 box.y2] 38).alloc (.cells #[.int .i64 0, .int .i64 0, .slice none 0 0, .slice none 0 0] 31))
  have hRP := St.hid (Rp.rowIs4 ((w.setCell ⟨b, 6, none⟩ (.int .i64 ((s.acts : Int) + 1))).alloc (.cells #[.int .i64 1, .int .i64 id, .int .i64 n, .int .i64 mask, .int .i64 row.x, .int .i64 row.y, .int .i64 row.px, .int .i64 row.py, .int .i64 row.wd, .int .i64 row.ht, .int .i64 row.ms, .int .i64 row.rr, .int .i64 box.id, .int .i64 box.x1, .int .i64 box.y1, .int .i64 box.x2, .int .i64 box.y2] 38)) 0 0 (.slice none 0 0) (.slice none 0 0) 31)
  rw [World.size_alloc] at hRP
  rw [hsz] at hAC hRP
  have HGW := St.hid (HG6.out.below (bal (bal (Below.refl _ (w.setCell ⟨b, 6, none⟩ (.int .i64 ((s.acts : Int) + 1)))) (.cells #[.int .i64 1, .int .i64 id, .int .i64 n, .int .i64 mask, .int .i64 row.x, .int .i64 row.y, .int .i64 row.px, .int .i64 row.py, .int .i64 row.wd, .int .i64 row.ht, .int .i64 row.ms, .int .i64 row.rr, .int .i64 box.id, .int .i64 box.x1, .int .i64 box.y1, .int .i64 box.x2, .int .i64 box.y2] 38)) (.cells #[.int .i64 0, .int .i64 0, .slice none 0 0, .slice none 0 0] 31)))
  have HKW := St.hid (((Kept.below (F := F) (Below.refl _ w)).set (Or.inl HG.out.own) 6 (.int .i64 ((s.acts : Int) + 1))).call (bal (bal (Below.refl _ _) (.cells #[.int .i64 1, .int .i64 id, .int .i64 n, .int .i64 mask, .int .i64 row.x, .int .i64 row.y, .int .i64 row.px, .int .i64 row.py, .int .i64 row.wd, .int .i64 row.ht, .int .i64 row.ms, .int .i64 row.rr, .int .i64 box.id, .int .i64 box.x1, .int .i64 box.y1, .int .i64 box.x2, .int .i64 box.y2] 38)) (.cells #[.int .i64 0, .int .i64 0, .slice none 0 0, .slice none 0 0] 31)))
  have hzW : (((w.setCell ⟨b, 6, none⟩ (.int .i64 ((s.acts : Int) + 1))).alloc (.cells #[.int .i64 1, .int .i64 id, .int .i64 n, .int .i64 mask, .int .i64 row.x, .int .i64 row.y, .int .i64 row.px, .int .i64 row.py, .int .i64 row.wd, .int .i64 row.ht, .int .i64 row.ms, .int .i64 row.rr, .int .i64 box.id, .int .i64 box.x1, .int .i64 box.y1, .int .i64 box.x2, .int .i64 box.y2] 38)).alloc (.cells #[.int .i64 0, .int .i64 0, .slice none 0 0, .slice none 0 0] 31)).heap.size = w.heap.size + 1 + 1 := by simp [World.setCell]
  change Hid ((((w.setCell ⟨b, 6, none⟩ (.int .i64 ((s.acts : Int) + 1))).alloc (.cells #[.int .i64 1, .int .i64 id, .int .i64 n, .int .i64 mask, .int .i64 row.x, .int .i64 row.y, .int .i64 row.px, .int .i64 row.py, .int .i64 row.wd, .int .i64 row.ht, .int .i64 row.ms, .int .i64 row.rr, .int .i64 box.id, .int .i64 box.x1, .int .i64 box.y1, .int .i64 box.x2, .int .i64 box.y2] 38)).alloc (.cells #[.int .i64 0, .int .i64 0, .slice none 0 0, .slice none 0 0] 31)).rowIs w.heap.size 38 17 _) at hAC
  generalize (((w.setCell ⟨b, 6, none⟩ (.int .i64 ((s.acts : Int) + 1))).alloc (.cells #[.int .i64 1, .int .i64 id, .int .i64 n, .int .i64 mask, .int .i64 row.x, .int .i64 row.y, .int .i64 row.px, .int .i64 row.py, .int .i64 row.wd, .int .i64 row.ht, .int .i64 row.ms, .int .i64 row.rr, .int .i64 box.id, .int .i64 box.x1, .int .i64 box.y1, .int .i64 box.x2, .int .i64 box.y2] 38)).alloc (.cells #[.int .i64 0, .int .i64 0, .slice none 0 0, .slice none 0 0] 31)) = W at hAC hRP HGW HKW hzW ⊢
  have HFL : Hid (∀ z, F z → z < w.heap.size) := St.hid HG.out.lt
  clear hsz HG6 HG x6 f6
  refine (HC.out _ HGW.out).mono ?_
  rintro e w1 ⟨vm, rfl, hown, hGx, hk1⟩
  obtain ⟨am, cm, rfl⟩ := own_form hown
  have HOW := St.hid hown
  have HGX := St.hid hGx
  have HK1 := St.hid hk1
  have hRP1 := St.hid (rowIs_kept hRP.out hk1 (fun hc => by have := HFL.out _ hc; omega))
  have hz1 := hk1.size
  clear hown hGx hk1 hRP
  obtain ⟨p0, p1, p2, p3⟩ := Rp.rcells hRP1.out
  have p4 := hRP1.out.frozen 0
  have p5 := hRP1.out.frozen 1
  have p6 := hRP1.out.frozen 2
  have p7 := hRP1.out.frozen 3
  have hlt1 : w.heap.size + 1 < w1.heap.size := by omega
  go_wp2_with fail
  obtain ⟨q0, q1, q2, q3⟩ := four (put4 hRP1.out (.int .i64 cc) (.int .i64 nn) (.slice none 0 0) (.slice am ms.length cm))
  exact bodyPost_ret (v := .agg #[.int .i64 cc, .int .i64 nn, .slice none 0 0, .slice am ms.length cm]) (by simp [results, Tryz.results14, go_sem, q0, q1, q2, q3]) rfl (postD_of HFL.out HKW.out (by omega) HOW.out HGX.out HK1.out _ _ _ _)
set_option maxHeartbeats 4000000 in
set_option maxRecDepth 100000 in
theorem do_give {F : Nat → Prop} {b : Nat} {s : Gp} {w : World} (hG : Gam w F b s) (hg : GoodG s) (ha : s.acts < 150) (id n mask : Int) (row : R8) (box : Sw.B5) :
    Calls Tryz.prog 14 #[.pointer (some ⟨b, 0, none⟩), actA ⟨3, id, n, mask, row, box⟩] w (PostD w F b (doG s ⟨3, id, n, mask, row, box⟩).1 (doG s ⟨3, id, n, mask, row, box⟩).2) := by
  obtain ⟨v, vs, sv, Fs, hG⟩ := hG
  have hbz := hG.lt b hG.own
  have HG := St.hid hG
  obtain ⟨-, -, -, -, -, -, x6⟩ := gcells hG.row
  obtain ⟨-, -, -, -, -, -, f6⟩ := gfrozen hG.row
  have HG6 : Hid (Gam (w.setCell ⟨b, 6, none⟩ (.int .i64 ((s.acts : Int) + 1))) F b { s with acts := s.acts + 1 }) := St.hid ⟨_, vs, sv, Fs, hG.acts (s.acts + 1)⟩
  have hg6 : GoodG { s with acts := s.acts + 1 } := ⟨hg.now, hg.saves, hg.few, by show s.acts + 1 ≤ 150; omega⟩
  have HGD := St.hid hg6
  have e : doG s ⟨3, id, n, mask, row, box⟩ = ({ s with now := (giveW s.now id mask row).1, acts := s.acts + 1 }, ⟨(giveW s.now id mask row).2.code, (giveW s.now id mask row).2.n, [], ([] : List (Int × Int))⟩) := by
    have ea : actW s.now ⟨3, id, n, mask, row, box⟩ = giveW s.now id mask row := by simp [actW]
    unfold doG
    rw [if_neg (by show ¬ 150 ≤ s.acts; omega), if_neg (by simp), if_neg (by simp), ea]
    exact congrArg _ (give_rep _ _ _ _)
  rw [e]
  clear hG hg hg6 e
  have HC : Hid (∀ W, Gam W F b { s with acts := s.acts + 1 } → Calls Tryz.prog 34 #[.pointer (some ⟨b, 0, none⟩), .int .i64 id, .int .i64 mask, .agg #[.int .i64 row.x, .int .i64 row.y, .int .i64 row.px, .int .i64 row.py, .int .i64 row.wd, .int .i64 row.ht, .int .i64 row.ms, .int .i64 row.rr]] W (PostM W F b { s with now := (giveW s.now id mask row).1, acts := s.acts + 1 } (giveW s.now id mask row).2.code (giveW s.now id mask row).2.n ([] : List (Int × Int)))) := St.hid (fun W h => Calls.mono (give_any h HGD.out id mask row) (fun _ _ h => h.toM))
  simp only []
  generalize (giveW s.now id mask row).2.code = cc at HC ⊢
  generalize (giveW s.now id mask row).2.n = nn at HC ⊢
  generalize ([] : List (Int × Int)) = ms at HC ⊢
  generalize ({ s with now := (giveW s.now id mask row).1, acts := s.acts + 1 } : Gp) = s9 at HC ⊢
  go_enter Tryz.func14, Tryz.ntmps14
  go_wp2_with fail
  have hsz : (w.setCell ⟨b, 6, none⟩ (.int .i64 ((s.acts : Int) + 1))).heap.size = w.heap.size := by simp [World.setCell]
  have hAC := St.hid ((rowIsL (w.setCell ⟨b, 6, none⟩ (.int .i64 ((s.acts : Int) + 1))) [.int .i64 3, .int .i64 id, .int .i64 n, .int .i64 mask, .int .i64 row.x, .int .i64 row.y, .int .i64 row.px, .int .i64 row.py, .int .i64 row.wd, .int .i64 row.ht, .int .i64 row.ms, .int .i64 row.rr, .int .i64 box.id, .int .i64 box.x1, .int .i64 box.y1, .int .i64 box.x2, .int .i64 box.y2] 38).alloc (.cells #[.int .i64 0, .int .i64 0, .slice none 0 0, .slice none 0 0] 31))
  have hRP := St.hid (Rp.rowIs4 ((w.setCell ⟨b, 6, none⟩ (.int .i64 ((s.acts : Int) + 1))).alloc (.cells #[.int .i64 3, .int .i64 id, .int .i64 n, .int .i64 mask, .int .i64 row.x, .int .i64 row.y, .int .i64 row.px, .int .i64 row.py, .int .i64 row.wd, .int .i64 row.ht, .int .i64 row.ms, .int .i64 row.rr, .int .i64 box.id, .int .i64 box.x1, .int .i64 box.y1, .int .i64 box.x2, .int .i64 box.y2] 38)) 0 0 (.slice none 0 0) (.slice none 0 0) 31)
  rw [World.size_alloc] at hRP
  rw [hsz] at hAC hRP
  have HGW := St.hid (HG6.out.below (bal (bal (Below.refl _ (w.setCell ⟨b, 6, none⟩ (.int .i64 ((s.acts : Int) + 1)))) (.cells #[.int .i64 3, .int .i64 id, .int .i64 n, .int .i64 mask, .int .i64 row.x, .int .i64 row.y, .int .i64 row.px, .int .i64 row.py, .int .i64 row.wd, .int .i64 row.ht, .int .i64 row.ms, .int .i64 row.rr, .int .i64 box.id, .int .i64 box.x1, .int .i64 box.y1, .int .i64 box.x2, .int .i64 box.y2] 38)) (.cells #[.int .i64 0, .int .i64 0, .slice none 0 0, .slice none 0 0] 31)))
  have HKW := St.hid (((Kept.below (F := F) (Below.refl _ w)).set (Or.inl HG.out.own) 6 (.int .i64 ((s.acts : Int) + 1))).call (bal (bal (Below.refl _ _) (.cells #[.int .i64 3, .int .i64 id, .int .i64 n, .int .i64 mask, .int .i64 row.x, .int .i64 row.y, .int .i64 row.px, .int .i64 row.py, .int .i64 row.wd, .int .i64 row.ht, .int .i64 row.ms, .int .i64 row.rr, .int .i64 box.id, .int .i64 box.x1, .int .i64 box.y1, .int .i64 box.x2, .int .i64 box.y2] 38)) (.cells #[.int .i64 0, .int .i64 0, .slice none 0 0, .slice none 0 0] 31)))
  have hzW : (((w.setCell ⟨b, 6, none⟩ (.int .i64 ((s.acts : Int) + 1))).alloc (.cells #[.int .i64 3, .int .i64 id, .int .i64 n, .int .i64 mask, .int .i64 row.x, .int .i64 row.y, .int .i64 row.px, .int .i64 row.py, .int .i64 row.wd, .int .i64 row.ht, .int .i64 row.ms, .int .i64 row.rr, .int .i64 box.id, .int .i64 box.x1, .int .i64 box.y1, .int .i64 box.x2, .int .i64 box.y2] 38)).alloc (.cells #[.int .i64 0, .int .i64 0, .slice none 0 0, .slice none 0 0] 31)).heap.size = w.heap.size + 1 + 1 := by simp [World.setCell]
  change Hid ((((w.setCell ⟨b, 6, none⟩ (.int .i64 ((s.acts : Int) + 1))).alloc (.cells #[.int .i64 3, .int .i64 id, .int .i64 n, .int .i64 mask, .int .i64 row.x, .int .i64 row.y, .int .i64 row.px, .int .i64 row.py, .int .i64 row.wd, .int .i64 row.ht, .int .i64 row.ms, .int .i64 row.rr, .int .i64 box.id, .int .i64 box.x1, .int .i64 box.y1, .int .i64 box.x2, .int .i64 box.y2] 38)).alloc (.cells #[.int .i64 0, .int .i64 0, .slice none 0 0, .slice none 0 0] 31)).rowIs w.heap.size 38 17 _) at hAC
  generalize (((w.setCell ⟨b, 6, none⟩ (.int .i64 ((s.acts : Int) + 1))).alloc (.cells #[.int .i64 3, .int .i64 id, .int .i64 n, .int .i64 mask, .int .i64 row.x, .int .i64 row.y, .int .i64 row.px, .int .i64 row.py, .int .i64 row.wd, .int .i64 row.ht, .int .i64 row.ms, .int .i64 row.rr, .int .i64 box.id, .int .i64 box.x1, .int .i64 box.y1, .int .i64 box.x2, .int .i64 box.y2] 38)).alloc (.cells #[.int .i64 0, .int .i64 0, .slice none 0 0, .slice none 0 0] 31)) = W at hAC hRP HGW HKW hzW ⊢
  have HFL : Hid (∀ z, F z → z < w.heap.size) := St.hid HG.out.lt
  clear hsz HG6 HG x6 f6
  refine (HC.out _ HGW.out).mono ?_
  rintro e w1 ⟨vm, rfl, hown, hGx, hk1⟩
  obtain ⟨am, cm, rfl⟩ := own_form hown
  have HOW := St.hid hown
  have HGX := St.hid hGx
  have HK1 := St.hid hk1
  have hRP1 := St.hid (rowIs_kept hRP.out hk1 (fun hc => by have := HFL.out _ hc; omega))
  have hz1 := hk1.size
  clear hown hGx hk1 hRP
  obtain ⟨p0, p1, p2, p3⟩ := Rp.rcells hRP1.out
  have p4 := hRP1.out.frozen 0
  have p5 := hRP1.out.frozen 1
  have p6 := hRP1.out.frozen 2
  have p7 := hRP1.out.frozen 3
  have hlt1 : w.heap.size + 1 < w1.heap.size := by omega
  go_wp2_with fail
  obtain ⟨q0, q1, q2, q3⟩ := four (put4 hRP1.out (.int .i64 cc) (.int .i64 nn) (.slice none 0 0) (.slice am ms.length cm))
  exact bodyPost_ret (v := .agg #[.int .i64 cc, .int .i64 nn, .slice none 0 0, .slice am ms.length cm]) (by simp [results, Tryz.results14, go_sem, q0, q1, q2, q3]) rfl (postD_of HFL.out HKW.out (by omega) HOW.out HGX.out HK1.out _ _ _ _)
set_option maxHeartbeats 4000000 in
set_option maxRecDepth 100000 in
theorem do_take {F : Nat → Prop} {b : Nat} {s : Gp} {w : World} (hG : Gam w F b s) (hg : GoodG s) (ha : s.acts < 150) (id n mask : Int) (row : R8) (box : Sw.B5) :
    Calls Tryz.prog 14 #[.pointer (some ⟨b, 0, none⟩), actA ⟨4, id, n, mask, row, box⟩] w (PostD w F b (doG s ⟨4, id, n, mask, row, box⟩).1 (doG s ⟨4, id, n, mask, row, box⟩).2) := by
  obtain ⟨v, vs, sv, Fs, hG⟩ := hG
  have hbz := hG.lt b hG.own
  have HG := St.hid hG
  obtain ⟨-, -, -, -, -, -, x6⟩ := gcells hG.row
  obtain ⟨-, -, -, -, -, -, f6⟩ := gfrozen hG.row
  have HG6 : Hid (Gam (w.setCell ⟨b, 6, none⟩ (.int .i64 ((s.acts : Int) + 1))) F b { s with acts := s.acts + 1 }) := St.hid ⟨_, vs, sv, Fs, hG.acts (s.acts + 1)⟩
  have hg6 : GoodG { s with acts := s.acts + 1 } := ⟨hg.now, hg.saves, hg.few, by show s.acts + 1 ≤ 150; omega⟩
  have HGD := St.hid hg6
  have e : doG s ⟨4, id, n, mask, row, box⟩ = ({ s with now := (takeW s.now id mask).1, acts := s.acts + 1 }, ⟨(takeW s.now id mask).2.code, (takeW s.now id mask).2.n, [], ([] : List (Int × Int))⟩) := by
    have ea : actW s.now ⟨4, id, n, mask, row, box⟩ = takeW s.now id mask := by simp [actW]
    unfold doG
    rw [if_neg (by show ¬ 150 ≤ s.acts; omega), if_neg (by simp), if_neg (by simp), ea]
    exact congrArg _ (take_rep _ _ _)
  rw [e]
  clear hG hg hg6 e
  have HC : Hid (∀ W, Gam W F b { s with acts := s.acts + 1 } → Calls Tryz.prog 35 #[.pointer (some ⟨b, 0, none⟩), .int .i64 id, .int .i64 mask] W (PostM W F b { s with now := (takeW s.now id mask).1, acts := s.acts + 1 } (takeW s.now id mask).2.code (takeW s.now id mask).2.n ([] : List (Int × Int)))) := St.hid (fun W h => Calls.mono (take_any h HGD.out id mask) (fun _ _ h => h.toM))
  simp only []
  generalize (takeW s.now id mask).2.code = cc at HC ⊢
  generalize (takeW s.now id mask).2.n = nn at HC ⊢
  generalize ([] : List (Int × Int)) = ms at HC ⊢
  generalize ({ s with now := (takeW s.now id mask).1, acts := s.acts + 1 } : Gp) = s9 at HC ⊢
  go_enter Tryz.func14, Tryz.ntmps14
  go_wp2_with fail
  have hsz : (w.setCell ⟨b, 6, none⟩ (.int .i64 ((s.acts : Int) + 1))).heap.size = w.heap.size := by simp [World.setCell]
  have hAC := St.hid ((rowIsL (w.setCell ⟨b, 6, none⟩ (.int .i64 ((s.acts : Int) + 1))) [.int .i64 4, .int .i64 id, .int .i64 n, .int .i64 mask, .int .i64 row.x, .int .i64 row.y, .int .i64 row.px, .int .i64 row.py, .int .i64 row.wd, .int .i64 row.ht, .int .i64 row.ms, .int .i64 row.rr, .int .i64 box.id, .int .i64 box.x1, .int .i64 box.y1, .int .i64 box.x2, .int .i64 box.y2] 38).alloc (.cells #[.int .i64 0, .int .i64 0, .slice none 0 0, .slice none 0 0] 31))
  have hRP := St.hid (Rp.rowIs4 ((w.setCell ⟨b, 6, none⟩ (.int .i64 ((s.acts : Int) + 1))).alloc (.cells #[.int .i64 4, .int .i64 id, .int .i64 n, .int .i64 mask, .int .i64 row.x, .int .i64 row.y, .int .i64 row.px, .int .i64 row.py, .int .i64 row.wd, .int .i64 row.ht, .int .i64 row.ms, .int .i64 row.rr, .int .i64 box.id, .int .i64 box.x1, .int .i64 box.y1, .int .i64 box.x2, .int .i64 box.y2] 38)) 0 0 (.slice none 0 0) (.slice none 0 0) 31)
  rw [World.size_alloc] at hRP
  rw [hsz] at hAC hRP
  have HGW := St.hid (HG6.out.below (bal (bal (Below.refl _ (w.setCell ⟨b, 6, none⟩ (.int .i64 ((s.acts : Int) + 1)))) (.cells #[.int .i64 4, .int .i64 id, .int .i64 n, .int .i64 mask, .int .i64 row.x, .int .i64 row.y, .int .i64 row.px, .int .i64 row.py, .int .i64 row.wd, .int .i64 row.ht, .int .i64 row.ms, .int .i64 row.rr, .int .i64 box.id, .int .i64 box.x1, .int .i64 box.y1, .int .i64 box.x2, .int .i64 box.y2] 38)) (.cells #[.int .i64 0, .int .i64 0, .slice none 0 0, .slice none 0 0] 31)))
  have HKW := St.hid (((Kept.below (F := F) (Below.refl _ w)).set (Or.inl HG.out.own) 6 (.int .i64 ((s.acts : Int) + 1))).call (bal (bal (Below.refl _ _) (.cells #[.int .i64 4, .int .i64 id, .int .i64 n, .int .i64 mask, .int .i64 row.x, .int .i64 row.y, .int .i64 row.px, .int .i64 row.py, .int .i64 row.wd, .int .i64 row.ht, .int .i64 row.ms, .int .i64 row.rr, .int .i64 box.id, .int .i64 box.x1, .int .i64 box.y1, .int .i64 box.x2, .int .i64 box.y2] 38)) (.cells #[.int .i64 0, .int .i64 0, .slice none 0 0, .slice none 0 0] 31)))
  have hzW : (((w.setCell ⟨b, 6, none⟩ (.int .i64 ((s.acts : Int) + 1))).alloc (.cells #[.int .i64 4, .int .i64 id, .int .i64 n, .int .i64 mask, .int .i64 row.x, .int .i64 row.y, .int .i64 row.px, .int .i64 row.py, .int .i64 row.wd, .int .i64 row.ht, .int .i64 row.ms, .int .i64 row.rr, .int .i64 box.id, .int .i64 box.x1, .int .i64 box.y1, .int .i64 box.x2, .int .i64 box.y2] 38)).alloc (.cells #[.int .i64 0, .int .i64 0, .slice none 0 0, .slice none 0 0] 31)).heap.size = w.heap.size + 1 + 1 := by simp [World.setCell]
  change Hid ((((w.setCell ⟨b, 6, none⟩ (.int .i64 ((s.acts : Int) + 1))).alloc (.cells #[.int .i64 4, .int .i64 id, .int .i64 n, .int .i64 mask, .int .i64 row.x, .int .i64 row.y, .int .i64 row.px, .int .i64 row.py, .int .i64 row.wd, .int .i64 row.ht, .int .i64 row.ms, .int .i64 row.rr, .int .i64 box.id, .int .i64 box.x1, .int .i64 box.y1, .int .i64 box.x2, .int .i64 box.y2] 38)).alloc (.cells #[.int .i64 0, .int .i64 0, .slice none 0 0, .slice none 0 0] 31)).rowIs w.heap.size 38 17 _) at hAC
  generalize (((w.setCell ⟨b, 6, none⟩ (.int .i64 ((s.acts : Int) + 1))).alloc (.cells #[.int .i64 4, .int .i64 id, .int .i64 n, .int .i64 mask, .int .i64 row.x, .int .i64 row.y, .int .i64 row.px, .int .i64 row.py, .int .i64 row.wd, .int .i64 row.ht, .int .i64 row.ms, .int .i64 row.rr, .int .i64 box.id, .int .i64 box.x1, .int .i64 box.y1, .int .i64 box.x2, .int .i64 box.y2] 38)).alloc (.cells #[.int .i64 0, .int .i64 0, .slice none 0 0, .slice none 0 0] 31)) = W at hAC hRP HGW HKW hzW ⊢
  have HFL : Hid (∀ z, F z → z < w.heap.size) := St.hid HG.out.lt
  clear hsz HG6 HG x6 f6
  refine (HC.out _ HGW.out).mono ?_
  rintro e w1 ⟨vm, rfl, hown, hGx, hk1⟩
  obtain ⟨am, cm, rfl⟩ := own_form hown
  have HOW := St.hid hown
  have HGX := St.hid hGx
  have HK1 := St.hid hk1
  have hRP1 := St.hid (rowIs_kept hRP.out hk1 (fun hc => by have := HFL.out _ hc; omega))
  have hz1 := hk1.size
  clear hown hGx hk1 hRP
  obtain ⟨p0, p1, p2, p3⟩ := Rp.rcells hRP1.out
  have p4 := hRP1.out.frozen 0
  have p5 := hRP1.out.frozen 1
  have p6 := hRP1.out.frozen 2
  have p7 := hRP1.out.frozen 3
  have hlt1 : w.heap.size + 1 < w1.heap.size := by omega
  go_wp2_with fail
  obtain ⟨q0, q1, q2, q3⟩ := four (put4 hRP1.out (.int .i64 cc) (.int .i64 nn) (.slice none 0 0) (.slice am ms.length cm))
  exact bodyPost_ret (v := .agg #[.int .i64 cc, .int .i64 nn, .slice none 0 0, .slice am ms.length cm]) (by simp [results, Tryz.results14, go_sem, q0, q1, q2, q3]) rfl (postD_of HFL.out HKW.out (by omega) HOW.out HGX.out HK1.out _ _ _ _)
set_option maxHeartbeats 4000000 in
set_option maxRecDepth 100000 in
theorem do_kick {F : Nat → Prop} {b : Nat} {s : Gp} {w : World} (hG : Gam w F b s) (hg : GoodG s) (ha : s.acts < 150) (id n mask : Int) (row : R8) (box : Sw.B5) :
    Calls Tryz.prog 14 #[.pointer (some ⟨b, 0, none⟩), actA ⟨5, id, n, mask, row, box⟩] w (PostD w F b (doG s ⟨5, id, n, mask, row, box⟩).1 (doG s ⟨5, id, n, mask, row, box⟩).2) := by
  obtain ⟨v, vs, sv, Fs, hG⟩ := hG
  have hbz := hG.lt b hG.own
  have HG := St.hid hG
  obtain ⟨-, -, -, -, -, -, x6⟩ := gcells hG.row
  obtain ⟨-, -, -, -, -, -, f6⟩ := gfrozen hG.row
  have HG6 : Hid (Gam (w.setCell ⟨b, 6, none⟩ (.int .i64 ((s.acts : Int) + 1))) F b { s with acts := s.acts + 1 }) := St.hid ⟨_, vs, sv, Fs, hG.acts (s.acts + 1)⟩
  have hg6 : GoodG { s with acts := s.acts + 1 } := ⟨hg.now, hg.saves, hg.few, by show s.acts + 1 ≤ 150; omega⟩
  have HGD := St.hid hg6
  have e : doG s ⟨5, id, n, mask, row, box⟩ = ({ s with now := (kickW s.now id row).1, acts := s.acts + 1 }, ⟨(kickW s.now id row).2.code, (kickW s.now id row).2.n, [], ([] : List (Int × Int))⟩) := by
    have ea : actW s.now ⟨5, id, n, mask, row, box⟩ = kickW s.now id row := by simp [actW]
    unfold doG
    rw [if_neg (by show ¬ 150 ≤ s.acts; omega), if_neg (by simp), if_neg (by simp), ea]
    exact congrArg _ (kick_rep _ _ _)
  rw [e]
  clear hG hg hg6 e
  have HC : Hid (∀ W, Gam W F b { s with acts := s.acts + 1 } → Calls Tryz.prog 36 #[.pointer (some ⟨b, 0, none⟩), .int .i64 id, .agg #[.int .i64 row.x, .int .i64 row.y, .int .i64 row.px, .int .i64 row.py, .int .i64 row.wd, .int .i64 row.ht, .int .i64 row.ms, .int .i64 row.rr]] W (PostM W F b { s with now := (kickW s.now id row).1, acts := s.acts + 1 } (kickW s.now id row).2.code (kickW s.now id row).2.n ([] : List (Int × Int)))) := St.hid (fun W h => Calls.mono (kick_any h HGD.out id row) (fun _ _ h => h.toM))
  simp only []
  generalize (kickW s.now id row).2.code = cc at HC ⊢
  generalize (kickW s.now id row).2.n = nn at HC ⊢
  generalize ([] : List (Int × Int)) = ms at HC ⊢
  generalize ({ s with now := (kickW s.now id row).1, acts := s.acts + 1 } : Gp) = s9 at HC ⊢
  go_enter Tryz.func14, Tryz.ntmps14
  go_wp2_with fail
  have hsz : (w.setCell ⟨b, 6, none⟩ (.int .i64 ((s.acts : Int) + 1))).heap.size = w.heap.size := by simp [World.setCell]
  have hAC := St.hid ((rowIsL (w.setCell ⟨b, 6, none⟩ (.int .i64 ((s.acts : Int) + 1))) [.int .i64 5, .int .i64 id, .int .i64 n, .int .i64 mask, .int .i64 row.x, .int .i64 row.y, .int .i64 row.px, .int .i64 row.py, .int .i64 row.wd, .int .i64 row.ht, .int .i64 row.ms, .int .i64 row.rr, .int .i64 box.id, .int .i64 box.x1, .int .i64 box.y1, .int .i64 box.x2, .int .i64 box.y2] 38).alloc (.cells #[.int .i64 0, .int .i64 0, .slice none 0 0, .slice none 0 0] 31))
  have hRP := St.hid (Rp.rowIs4 ((w.setCell ⟨b, 6, none⟩ (.int .i64 ((s.acts : Int) + 1))).alloc (.cells #[.int .i64 5, .int .i64 id, .int .i64 n, .int .i64 mask, .int .i64 row.x, .int .i64 row.y, .int .i64 row.px, .int .i64 row.py, .int .i64 row.wd, .int .i64 row.ht, .int .i64 row.ms, .int .i64 row.rr, .int .i64 box.id, .int .i64 box.x1, .int .i64 box.y1, .int .i64 box.x2, .int .i64 box.y2] 38)) 0 0 (.slice none 0 0) (.slice none 0 0) 31)
  rw [World.size_alloc] at hRP
  rw [hsz] at hAC hRP
  have HGW := St.hid (HG6.out.below (bal (bal (Below.refl _ (w.setCell ⟨b, 6, none⟩ (.int .i64 ((s.acts : Int) + 1)))) (.cells #[.int .i64 5, .int .i64 id, .int .i64 n, .int .i64 mask, .int .i64 row.x, .int .i64 row.y, .int .i64 row.px, .int .i64 row.py, .int .i64 row.wd, .int .i64 row.ht, .int .i64 row.ms, .int .i64 row.rr, .int .i64 box.id, .int .i64 box.x1, .int .i64 box.y1, .int .i64 box.x2, .int .i64 box.y2] 38)) (.cells #[.int .i64 0, .int .i64 0, .slice none 0 0, .slice none 0 0] 31)))
  have HKW := St.hid (((Kept.below (F := F) (Below.refl _ w)).set (Or.inl HG.out.own) 6 (.int .i64 ((s.acts : Int) + 1))).call (bal (bal (Below.refl _ _) (.cells #[.int .i64 5, .int .i64 id, .int .i64 n, .int .i64 mask, .int .i64 row.x, .int .i64 row.y, .int .i64 row.px, .int .i64 row.py, .int .i64 row.wd, .int .i64 row.ht, .int .i64 row.ms, .int .i64 row.rr, .int .i64 box.id, .int .i64 box.x1, .int .i64 box.y1, .int .i64 box.x2, .int .i64 box.y2] 38)) (.cells #[.int .i64 0, .int .i64 0, .slice none 0 0, .slice none 0 0] 31)))
  have hzW : (((w.setCell ⟨b, 6, none⟩ (.int .i64 ((s.acts : Int) + 1))).alloc (.cells #[.int .i64 5, .int .i64 id, .int .i64 n, .int .i64 mask, .int .i64 row.x, .int .i64 row.y, .int .i64 row.px, .int .i64 row.py, .int .i64 row.wd, .int .i64 row.ht, .int .i64 row.ms, .int .i64 row.rr, .int .i64 box.id, .int .i64 box.x1, .int .i64 box.y1, .int .i64 box.x2, .int .i64 box.y2] 38)).alloc (.cells #[.int .i64 0, .int .i64 0, .slice none 0 0, .slice none 0 0] 31)).heap.size = w.heap.size + 1 + 1 := by simp [World.setCell]
  change Hid ((((w.setCell ⟨b, 6, none⟩ (.int .i64 ((s.acts : Int) + 1))).alloc (.cells #[.int .i64 5, .int .i64 id, .int .i64 n, .int .i64 mask, .int .i64 row.x, .int .i64 row.y, .int .i64 row.px, .int .i64 row.py, .int .i64 row.wd, .int .i64 row.ht, .int .i64 row.ms, .int .i64 row.rr, .int .i64 box.id, .int .i64 box.x1, .int .i64 box.y1, .int .i64 box.x2, .int .i64 box.y2] 38)).alloc (.cells #[.int .i64 0, .int .i64 0, .slice none 0 0, .slice none 0 0] 31)).rowIs w.heap.size 38 17 _) at hAC
  generalize (((w.setCell ⟨b, 6, none⟩ (.int .i64 ((s.acts : Int) + 1))).alloc (.cells #[.int .i64 5, .int .i64 id, .int .i64 n, .int .i64 mask, .int .i64 row.x, .int .i64 row.y, .int .i64 row.px, .int .i64 row.py, .int .i64 row.wd, .int .i64 row.ht, .int .i64 row.ms, .int .i64 row.rr, .int .i64 box.id, .int .i64 box.x1, .int .i64 box.y1, .int .i64 box.x2, .int .i64 box.y2] 38)).alloc (.cells #[.int .i64 0, .int .i64 0, .slice none 0 0, .slice none 0 0] 31)) = W at hAC hRP HGW HKW hzW ⊢
  have HFL : Hid (∀ z, F z → z < w.heap.size) := St.hid HG.out.lt
  clear hsz HG6 HG x6 f6
  refine (HC.out _ HGW.out).mono ?_
  rintro e w1 ⟨vm, rfl, hown, hGx, hk1⟩
  obtain ⟨am, cm, rfl⟩ := own_form hown
  have HOW := St.hid hown
  have HGX := St.hid hGx
  have HK1 := St.hid hk1
  have hRP1 := St.hid (rowIs_kept hRP.out hk1 (fun hc => by have := HFL.out _ hc; omega))
  have hz1 := hk1.size
  clear hown hGx hk1 hRP
  obtain ⟨p0, p1, p2, p3⟩ := Rp.rcells hRP1.out
  have p4 := hRP1.out.frozen 0
  have p5 := hRP1.out.frozen 1
  have p6 := hRP1.out.frozen 2
  have p7 := hRP1.out.frozen 3
  have hlt1 : w.heap.size + 1 < w1.heap.size := by omega
  go_wp2_with fail
  obtain ⟨q0, q1, q2, q3⟩ := four (put4 hRP1.out (.int .i64 cc) (.int .i64 nn) (.slice none 0 0) (.slice am ms.length cm))
  exact bodyPost_ret (v := .agg #[.int .i64 cc, .int .i64 nn, .slice none 0 0, .slice am ms.length cm]) (by simp [results, Tryz.results14, go_sem, q0, q1, q2, q3]) rfl (postD_of HFL.out HKW.out (by omega) HOW.out HGX.out HK1.out _ _ _ _)
set_option maxHeartbeats 4000000 in
set_option maxRecDepth 100000 in
theorem do_step {F : Nat → Prop} {b : Nat} {s : Gp} {w : World} (hG : Gam w F b s) (hg : GoodG s) (ha : s.acts < 150) (id n mask : Int) (row : R8) (box : Sw.B5) :
    Calls Tryz.prog 14 #[.pointer (some ⟨b, 0, none⟩), actA ⟨6, id, n, mask, row, box⟩] w (PostD w F b (doG s ⟨6, id, n, mask, row, box⟩).1 (doG s ⟨6, id, n, mask, row, box⟩).2) := by
  obtain ⟨v, vs, sv, Fs, hG⟩ := hG
  have hbz := hG.lt b hG.own
  have HG := St.hid hG
  obtain ⟨-, -, -, -, -, -, x6⟩ := gcells hG.row
  obtain ⟨-, -, -, -, -, -, f6⟩ := gfrozen hG.row
  have HG6 : Hid (Gam (w.setCell ⟨b, 6, none⟩ (.int .i64 ((s.acts : Int) + 1))) F b { s with acts := s.acts + 1 }) := St.hid ⟨_, vs, sv, Fs, hG.acts (s.acts + 1)⟩
  have hg6 : GoodG { s with acts := s.acts + 1 } := ⟨hg.now, hg.saves, hg.few, by show s.acts + 1 ≤ 150; omega⟩
  have HGD := St.hid hg6
  have e : doG s ⟨6, id, n, mask, row, box⟩ = ({ s with now := (goW s.now n).1, acts := s.acts + 1 }, ⟨(goW s.now n).2.code, (goW s.now n).2.n, [], (goW s.now n).2.met⟩) := by
    have ea : actW s.now ⟨6, id, n, mask, row, box⟩ = goW s.now n := by simp [actW]
    unfold doG
    rw [if_neg (by show ¬ 150 ≤ s.acts; omega), if_neg (by simp), if_neg (by simp), ea]
    exact congrArg _ (go_rep _ _)
  rw [e]
  clear hG hg hg6 e
  have HC : Hid (∀ W, Gam W F b { s with acts := s.acts + 1 } → Calls Tryz.prog 37 #[.pointer (some ⟨b, 0, none⟩), .int .i64 n] W (PostM W F b { s with now := (goW s.now n).1, acts := s.acts + 1 } (goW s.now n).2.code (goW s.now n).2.n (goW s.now n).2.met)) := St.hid (fun W h => gstep_any h HGD.out n)
  simp only []
  generalize (goW s.now n).2.code = cc at HC ⊢
  generalize (goW s.now n).2.n = nn at HC ⊢
  generalize (goW s.now n).2.met = ms at HC ⊢
  generalize ({ s with now := (goW s.now n).1, acts := s.acts + 1 } : Gp) = s9 at HC ⊢
  go_enter Tryz.func14, Tryz.ntmps14
  go_wp2_with fail
  have hsz : (w.setCell ⟨b, 6, none⟩ (.int .i64 ((s.acts : Int) + 1))).heap.size = w.heap.size := by simp [World.setCell]
  have hAC := St.hid ((rowIsL (w.setCell ⟨b, 6, none⟩ (.int .i64 ((s.acts : Int) + 1))) [.int .i64 6, .int .i64 id, .int .i64 n, .int .i64 mask, .int .i64 row.x, .int .i64 row.y, .int .i64 row.px, .int .i64 row.py, .int .i64 row.wd, .int .i64 row.ht, .int .i64 row.ms, .int .i64 row.rr, .int .i64 box.id, .int .i64 box.x1, .int .i64 box.y1, .int .i64 box.x2, .int .i64 box.y2] 38).alloc (.cells #[.int .i64 0, .int .i64 0, .slice none 0 0, .slice none 0 0] 31))
  have hRP := St.hid (Rp.rowIs4 ((w.setCell ⟨b, 6, none⟩ (.int .i64 ((s.acts : Int) + 1))).alloc (.cells #[.int .i64 6, .int .i64 id, .int .i64 n, .int .i64 mask, .int .i64 row.x, .int .i64 row.y, .int .i64 row.px, .int .i64 row.py, .int .i64 row.wd, .int .i64 row.ht, .int .i64 row.ms, .int .i64 row.rr, .int .i64 box.id, .int .i64 box.x1, .int .i64 box.y1, .int .i64 box.x2, .int .i64 box.y2] 38)) 0 0 (.slice none 0 0) (.slice none 0 0) 31)
  rw [World.size_alloc] at hRP
  rw [hsz] at hAC hRP
  have HGW := St.hid (HG6.out.below (bal (bal (Below.refl _ (w.setCell ⟨b, 6, none⟩ (.int .i64 ((s.acts : Int) + 1)))) (.cells #[.int .i64 6, .int .i64 id, .int .i64 n, .int .i64 mask, .int .i64 row.x, .int .i64 row.y, .int .i64 row.px, .int .i64 row.py, .int .i64 row.wd, .int .i64 row.ht, .int .i64 row.ms, .int .i64 row.rr, .int .i64 box.id, .int .i64 box.x1, .int .i64 box.y1, .int .i64 box.x2, .int .i64 box.y2] 38)) (.cells #[.int .i64 0, .int .i64 0, .slice none 0 0, .slice none 0 0] 31)))
  have HKW := St.hid (((Kept.below (F := F) (Below.refl _ w)).set (Or.inl HG.out.own) 6 (.int .i64 ((s.acts : Int) + 1))).call (bal (bal (Below.refl _ _) (.cells #[.int .i64 6, .int .i64 id, .int .i64 n, .int .i64 mask, .int .i64 row.x, .int .i64 row.y, .int .i64 row.px, .int .i64 row.py, .int .i64 row.wd, .int .i64 row.ht, .int .i64 row.ms, .int .i64 row.rr, .int .i64 box.id, .int .i64 box.x1, .int .i64 box.y1, .int .i64 box.x2, .int .i64 box.y2] 38)) (.cells #[.int .i64 0, .int .i64 0, .slice none 0 0, .slice none 0 0] 31)))
  have hzW : (((w.setCell ⟨b, 6, none⟩ (.int .i64 ((s.acts : Int) + 1))).alloc (.cells #[.int .i64 6, .int .i64 id, .int .i64 n, .int .i64 mask, .int .i64 row.x, .int .i64 row.y, .int .i64 row.px, .int .i64 row.py, .int .i64 row.wd, .int .i64 row.ht, .int .i64 row.ms, .int .i64 row.rr, .int .i64 box.id, .int .i64 box.x1, .int .i64 box.y1, .int .i64 box.x2, .int .i64 box.y2] 38)).alloc (.cells #[.int .i64 0, .int .i64 0, .slice none 0 0, .slice none 0 0] 31)).heap.size = w.heap.size + 1 + 1 := by simp [World.setCell]
  change Hid ((((w.setCell ⟨b, 6, none⟩ (.int .i64 ((s.acts : Int) + 1))).alloc (.cells #[.int .i64 6, .int .i64 id, .int .i64 n, .int .i64 mask, .int .i64 row.x, .int .i64 row.y, .int .i64 row.px, .int .i64 row.py, .int .i64 row.wd, .int .i64 row.ht, .int .i64 row.ms, .int .i64 row.rr, .int .i64 box.id, .int .i64 box.x1, .int .i64 box.y1, .int .i64 box.x2, .int .i64 box.y2] 38)).alloc (.cells #[.int .i64 0, .int .i64 0, .slice none 0 0, .slice none 0 0] 31)).rowIs w.heap.size 38 17 _) at hAC
  generalize (((w.setCell ⟨b, 6, none⟩ (.int .i64 ((s.acts : Int) + 1))).alloc (.cells #[.int .i64 6, .int .i64 id, .int .i64 n, .int .i64 mask, .int .i64 row.x, .int .i64 row.y, .int .i64 row.px, .int .i64 row.py, .int .i64 row.wd, .int .i64 row.ht, .int .i64 row.ms, .int .i64 row.rr, .int .i64 box.id, .int .i64 box.x1, .int .i64 box.y1, .int .i64 box.x2, .int .i64 box.y2] 38)).alloc (.cells #[.int .i64 0, .int .i64 0, .slice none 0 0, .slice none 0 0] 31)) = W at hAC hRP HGW HKW hzW ⊢
  have HFL : Hid (∀ z, F z → z < w.heap.size) := St.hid HG.out.lt
  clear hsz HG6 HG x6 f6
  refine (HC.out _ HGW.out).mono ?_
  rintro e w1 ⟨vm, rfl, hown, hGx, hk1⟩
  obtain ⟨am, cm, rfl⟩ := own_form hown
  have HOW := St.hid hown
  have HGX := St.hid hGx
  have HK1 := St.hid hk1
  have hRP1 := St.hid (rowIs_kept hRP.out hk1 (fun hc => by have := HFL.out _ hc; omega))
  have hz1 := hk1.size
  clear hown hGx hk1 hRP
  obtain ⟨p0, p1, p2, p3⟩ := Rp.rcells hRP1.out
  have p4 := hRP1.out.frozen 0
  have p5 := hRP1.out.frozen 1
  have p6 := hRP1.out.frozen 2
  have p7 := hRP1.out.frozen 3
  have hlt1 : w.heap.size + 1 < w1.heap.size := by omega
  go_wp2_with fail
  obtain ⟨q0, q1, q2, q3⟩ := four (put4 hRP1.out (.int .i64 cc) (.int .i64 nn) (.slice none 0 0) (.slice am ms.length cm))
  exact bodyPost_ret (v := .agg #[.int .i64 cc, .int .i64 nn, .slice none 0 0, .slice am ms.length cm]) (by simp [results, Tryz.results14, go_sem, q0, q1, q2, q3]) rfl (postD_of HFL.out HKW.out (by omega) HOW.out HGX.out HK1.out _ _ _ _)
end Go.Proofs.YtckkkdldljhehacGreat.Gm
