/- Part of the proofs of GamePlays and GameRuns (package ninepinslaw): contracts of the functions that they call. -/
import Derived.Test.YtckkkdldljhehacGreatPkS
import Derived.Test.YtckkkdldljhehacGreatPkU1
import Derived.Test.YtckkkdldljhehacGreatPkU2
import Derived.Test.YtckkkdldljhehacGreatPkV
namespace Go.Proofs.YtckkkdldljhehacGreat
namespace Gm
open Num St Wd
open Go.ChangeShapes Go.WideShapes Go.ChangeAt Go.RowKit
def PostD (w : World) (F : Nat → Prop) (b : Nat) (s : Gp) (r : Rep) (e : Ending) (w' : World) : Prop :=
 ∃ ai ci am cm, e = .returned (.agg #[.int .i64 r.code, .int .i64 r.n, .slice ai r.ids.length ci, .slice am r.met.length cm]) ∧ w'.ownsRow w.heap.size 3 1 (.slice ai r.ids.length ci) r.ids.length (r.ids.map (Value.int .i64)) ∧ w'.ownsRow w.heap.size 54 2 (.slice am r.met.length cm) r.met.length (r.met.flatMap Sw.pairCells) ∧
  (∃ F', Gam w' F' b s ∧ (∀ z, F' z → F z ∨ w.heap.size ≤ z) ∧ ∀ z, (Value.slice ai r.ids.length ci).ownBlock = some z ∨ (Value.slice am r.met.length cm).ownBlock = some z → ¬ F' z) ∧ Kept F w w'
theorem GamP.acts {W : World} {F : Nat → Prop} {b : Nat} {s : Gp} {v vs : Value} {sv : List Value} {Fs : Nat → Prop} (h : GamP W F b s v vs sv Fs) (k : Nat) : GamP (W.setCell ⟨b, 6, none⟩ (.int .i64 k)) F b { s with acts := k } v vs sv Fs := by
 have hg := grown_set W b 6 (.int .i64 k)
 have hn : ¬ Fs b := fun hc => (h.inF b hc).2 rfl
 refine ⟨?_, owns_kept h.svs hg (fun z hz e => by cases e; exact (h.sep b hz).2.1 rfl), h.len, grown_keep h.now hg hn, fun i u x h1 h2 => grown_keep (h.all i u x h1 h2) hg hn, h.inF, h.own, h.sep, fun z hz => ?_⟩
 ·refine (h.row.set 6 (.int .i64 k)).congr (fun i hi => ?_)
  match i, hi with
  | 0, _ => rfl
  | 1, _ => rfl
  | 2, _ => rfl
  | 3, _ => rfl
  | 4, _ => rfl
  | 5, _ => rfl
  | 6, _ => rfl
 ·have hs : (W.setCell ⟨b, 6, none⟩ (.int .i64 k)).heap.size = W.heap.size := by simp [World.setCell]
  rw [hs]
  exact h.lt z hz
theorem postD_of {w W w1 : World} {F : Nat → Prop} {b : Nat} {s : Gp} {c n : Int} {met : List (Int × Int)} {am : Option Addr} {cm : Nat} (hF : ∀ z, F z → z < w.heap.size) (hk : Kept F w W) (hW : w.heap.size + 2 ≤ W.heap.size)
  (hown : w1.ownsRow W.heap.size 54 2 (.slice am met.length cm) met.length (met.flatMap Sw.pairCells)) (hG : ∃ F', Gam w1 F' b s ∧ (∀ z, F' z → F z ∨ W.heap.size ≤ z) ∧ ∀ z, (Value.slice am met.length cm).ownBlock = some z → ¬ F' z) (hk1 : Kept F W w1) (x0 x1 x2 x3 : Value) :
  PostD w F b s ⟨c, n, [], met⟩ (.returned (.agg #[.int .i64 c, .int .i64 n, .slice none 0 0, .slice am met.length cm])) ((((w1.setCell ⟨w.heap.size + 1, 0, none⟩ x0).setCell ⟨w.heap.size + 1, 1, none⟩ x1).setCell ⟨w.heap.size + 1, 2, none⟩ x2).setCell ⟨w.heap.size + 1, 3, none⟩ x3) := by
 obtain ⟨F', h1, h2, h3⟩ := hG
 refine ⟨none, 0, am, cm, rfl, World.ownsRow_nil _ _ _ _, owns_mono (owns_kept hown (grown4 w1 (w.heap.size + 1) _ _ _ _) (fun z hz e => ?_)) (by omega), ⟨F', Gam.grown h1 (grown4 w1 (w.heap.size + 1) _ _ _ _) (fun hc => ?_), fun z hz => ?_, fun z hz => ?_⟩, kept_grown (hk.trans hk1 (fun z h => Or.inl h)) (grown4 w1 (w.heap.size + 1) _ _ _ _) (by omega)⟩
 ·cases e; have := (hown.lt _ hz).1; omega
 ·rcases h2 _ hc with h | h
  ·have := hF _ h; omega
  ·omega
 ·rcases h2 _ hz with h | h
  ·exact Or.inl h
  ·exact Or.inr (by omega)
 ·rcases hz with hz | hz
  ·cases hz
  ·exact h3 z hz
theorem give_rep (x : Wp) (id p : Int) (r : R8) : (giveW x id p r).2 = ⟨(giveW x id p r).2.code, (giveW x id p r).2.n, [], []⟩ := by
 unfold giveW
 split
 ·split <;> rfl
 ·rfl
theorem take_rep (x : Wp) (id p : Int) : (takeW x id p).2 = ⟨(takeW x id p).2.code, (takeW x id p).2.n, [], []⟩ := by
 unfold takeW
 split
 ·split <;> rfl
 ·rfl
theorem kick_rep (x : Wp) (id : Int) (r : R8) : (kickW x id r).2 = ⟨(kickW x id r).2.code, (kickW x id r).2.n, [], []⟩ := by
 unfold kickW
 split
 ·split <;> rfl
 ·rfl
theorem go_rep (x : Wp) (n : Int) : (goW x n).2 = ⟨(goW x n).2.code, (goW x n).2.n, [], (goW x n).2.met⟩ := by
 unfold goW
 split <;> rfl
structure D5 (w : World) (F : Nat → Prop) (b : Nat) (s : Gp) (x : Ac) (W : World) : Prop where
 ac : W.rowIs w.heap.size 38 17 (fun i => (actCells x).getD i undef)
 rp : W.rowIs (w.heap.size + 1) 31 4 (Rp.rcell 0 0 (.slice none 0 0) (.slice none 0 0))
 gw : Gam W F b s
 kw : Kept F w W
 sz : W.heap.size = w.heap.size + 1 + 1
 fl : ∀ z, F z → z < w.heap.size
theorem rcs {w W : World} (h : W.rowIs (w.heap.size + 1) 31 4 (Rp.rcell 0 0 (.slice none 0 0) (.slice none 0 0))) : W.cell? ⟨w.heap.size + 1, 0, none⟩ = some (.int .i64 0) ∧ W.cell? ⟨w.heap.size + 1, 1, none⟩ = some (.int .i64 0) ∧ W.cell? ⟨w.heap.size + 1, 2, none⟩ = some (.slice none 0 0) ∧ W.cell? ⟨w.heap.size + 1, 3, none⟩ = some (.slice none 0 0) ∧ W.frozen? ⟨w.heap.size + 1, 0, none⟩ = false ∧ W.frozen? ⟨w.heap.size + 1, 1, none⟩ = false ∧ W.frozen? ⟨w.heap.size + 1, 2, none⟩ = false ∧ W.frozen? ⟨w.heap.size + 1, 3, none⟩ = false := by
 obtain ⟨p0, p1, p2, p3⟩ := Rp.rcells h
 exact ⟨p0, p1, p2, p3, h.frozen 0, h.frozen 1, h.frozen 2, h.frozen 3⟩
structure GIn (F : Nat → Prop) (b : Nat) (s : Gp) (w : World) : Prop where
 G : Gam w F b s
 g : GoodG s
 a : s.acts < 150
theorem GIn.next {F : Nat → Prop} {b : Nat} {s : Gp} {w : World} (h : GIn F b s w) : GoodG { s with acts := s.acts + 1 } := ⟨h.g.now, h.g.saves, h.g.few, by have := h.a; show s.acts + 1 ≤ 150; omega⟩
def GDone (F : Nat → Prop) (b : Nat) (s : Gp) (w : World) (x : Ac) : Prop := Calls Tryz.prog 14 #[.pointer (some ⟨b, 0, none⟩), actA x] w (PostD w F b (doG s x).1 (doG s x).2)
theorem do_act {s : Gp} {x : Ac} {r : Wp × Rep} (ha : s.acts < 150) (h7 : ¬ x.kind = 7) (h8 : ¬ x.kind = 8) (h : actW s.now x = r) : doG s x = ({ s with now := r.1, acts := s.acts + 1 }, r.2) := by
 unfold doG
 rw [if_neg (by show ¬ 150 ≤ s.acts; omega), if_neg h7, if_neg h8, h]
theorem wp_world {P : Program} {c : Code} {Q : Exit → Act → World → Prop} {A : Act} {w0 : World} (h : ∀ W, W = w0 → Code.wp P c Q A W) : Code.wp P c Q A w0 := h w0 rfl
attribute [local go_sem ↓] Go.wp_at_zero Go.wp_at_succ
set_option maxHeartbeats 4000000 in
set_option maxRecDepth 100000 in
noncomputable def gdoT {F : Nat → Prop} {b : Nat} {s : Gp} {w : World} (k : Int) {id n mask : Int} {row : R8} {box : Sw.B5} (hR : GIn F b s w) (PX : Ending → World → Prop) :
  { T : World → Prop // (∀ W, D5 w F b { s with acts := s.acts + 1 } ⟨k, id, n, mask, row, box⟩ W → T W) → Calls Tryz.prog 14 #[.pointer (some ⟨b, 0, none⟩), actA ⟨k, id, n, mask, row, box⟩] w PX } := by
 apply Subtype.mk
 ·intro hT
  have HT := St.hid hT
  obtain ⟨v, vs, sv, Fs, hG⟩ := hR.G
  have ha := hR.a
  have hbz := hG.lt b hG.own
  have HG := St.hid hG
  obtain ⟨-, -, -, -, -, -, x6⟩ := gcells hG.row
  obtain ⟨-, -, -, -, -, -, f6⟩ := gfrozen hG.row
  clear hT hG
  go_enter Tryz.func14, Tryz.ntmps14
  go_upto_if 23 with fail
  have hsz : (w.setCell ⟨b, 6, none⟩ (.int .i64 ((s.acts : Int) + 1))).heap.size = w.heap.size := by simp [World.setCell]
  have hAC := (rowIsL (w.setCell ⟨b, 6, none⟩ (.int .i64 ((s.acts : Int) + 1))) (actCells ⟨k, id, n, mask, row, box⟩) 38).alloc (.cells #[.int .i64 0, .int .i64 0, .slice none 0 0, .slice none 0 0] 31)
  have hRP := Rp.rowIs4 ((w.setCell ⟨b, 6, none⟩ (.int .i64 ((s.acts : Int) + 1))).alloc (.cells #[.int .i64 k, .int .i64 id, .int .i64 n, .int .i64 mask, .int .i64 row.x, .int .i64 row.y, .int .i64 row.px, .int .i64 row.py, .int .i64 row.wd, .int .i64 row.ht, .int .i64 row.ms, .int .i64 row.rr, .int .i64 box.id, .int .i64 box.x1, .int .i64 box.y1, .int .i64 box.x2, .int .i64 box.y2] 38)) 0 0 (.slice none 0 0) (.slice none 0 0) 31
  rw [World.size_alloc] at hRP
  rw [hsz] at hAC hRP
  refine wp_world ?_
  intro W hW
  rename_i K1 k1
  revert K1 k1
  refine HT.out W ⟨?_, ?_, ?_, ?_, ?_, HG.out.lt⟩
  ·rw [hW]; exact hAC
  ·rw [hW]; exact hRP
  ·rw [hW]; exact Gam.below ⟨_, vs, sv, Fs, HG.out.acts (s.acts + 1)⟩ (bal (bal (Below.refl _ _) _) _)
  ·rw [hW]; exact ((Kept.below (F := F) (Below.refl _ w)).set (Or.inl HG.out.own) 6 (.int .i64 ((s.acts : Int) + 1))).call (bal (bal (Below.refl _ _) _) _)
  ·rw [hW]; simp [World.setCell]
set_option maxHeartbeats 4000000 in
set_option maxRecDepth 100000 in
theorem do_spawn {F : Nat → Prop} {b : Nat} {s : Gp} {w : World} {id n mask : Int} {row : R8} {box : Sw.B5} (hR : GIn F b s w) : GDone F b s w ⟨1, id, n, mask, row, box⟩ := by
 have e : doG s ⟨1, id, n, mask, row, box⟩ = ({ s with now := (spawnW s.now mask row).1, acts := s.acts + 1 }, ⟨(spawnW s.now mask row).2.code, (spawnW s.now mask row).2.n, [], []⟩) := by
  rw [do_act (r := spawnW s.now mask row) hR.a (by simp) (by simp) (by simp [actW])]
  exact congrArg _ (rfl)
 unfold GDone
 rw [e]
 have HGD := St.hid hR.next
 have HC : Hid (∀ W, Gam W F b { s with acts := s.acts + 1 } → Calls Tryz.prog 31 #[.pointer (some ⟨b, 0, none⟩), .int .i64 mask, .agg #[.int .i64 row.x, .int .i64 row.y, .int .i64 row.px, .int .i64 row.py, .int .i64 row.wd, .int .i64 row.ht, .int .i64 row.ms, .int .i64 row.rr]] W (PostM W F b { s with now := (spawnW s.now mask row).1, acts := s.acts + 1 } (spawnW s.now mask row).2.code (spawnW s.now mask row).2.n ([] : List (Int × Int)))) := St.hid (fun W h => Calls.mono (spawn_any h HGD.out mask row) (fun _ _ h => h.toM))
 clear e
 simp only []
 generalize (spawnW s.now mask row).2.code = cc at HC ⊢
 generalize (spawnW s.now mask row).2.n = nn at HC ⊢
 generalize ([] : List (Int × Int)) = ms at HC ⊢
 generalize ({ s with now := (spawnW s.now mask row).1, acts := s.acts + 1 } : Gp) = s9 at HC ⊢
 refine (gdoT 1 hR _).2 ?_
 intro W h5
 have H5 := St.hid h5
 have hzW := h5.sz
 obtain ⟨a0, a1, a2, a3, a4, a5, a6, a7, a8, a9, a10, a11, a12, a13, a14, a15, a16⟩ := acells h5.ac
 clear h5
 dsimp only [gdoT]
 intro K1 k1
 go_wp2_with fail
 refine (HC.out _ H5.out.gw).mono ?_
 rintro e w1 ⟨vm, rfl, hown, hGx, hk1⟩
 obtain ⟨am, cm, rfl⟩ := own_form hown
 have HOW := St.hid hown
 have HGX := St.hid hGx
 have HK1 := St.hid hk1
 have hRP1 := St.hid (rowIs_kept H5.out.rp hk1 (fun hc => by have := H5.out.fl _ hc; omega))
 have hz1 := hk1.size
 clear hown hGx hk1
 obtain ⟨p0, p1, p2, p3, p4, p5, p6, p7⟩ := rcs hRP1.out
 have hlt1 : w.heap.size + 1 < w1.heap.size := by omega
 go_wp2_with fail
 obtain ⟨q0, q1, q2, q3⟩ := four (put4 hRP1.out (.int .i64 cc) (.int .i64 nn) (.slice none 0 0) (.slice am ms.length cm))
 exact bodyPost_ret (v := .agg #[.int .i64 cc, .int .i64 nn, .slice none 0 0, .slice am ms.length cm]) (by simp [results, Tryz.results14, go_sem, q0, q1, q2, q3]) rfl (postD_of H5.out.fl H5.out.kw (by omega) HOW.out HGX.out HK1.out _ _ _ _)
set_option maxHeartbeats 4000000 in
set_option maxRecDepth 100000 in
theorem do_give {F : Nat → Prop} {b : Nat} {s : Gp} {w : World} {id n mask : Int} {row : R8} {box : Sw.B5} (hR : GIn F b s w) : GDone F b s w ⟨3, id, n, mask, row, box⟩ := by
 have e : doG s ⟨3, id, n, mask, row, box⟩ = ({ s with now := (giveW s.now id mask row).1, acts := s.acts + 1 }, ⟨(giveW s.now id mask row).2.code, (giveW s.now id mask row).2.n, [], []⟩) := by
  rw [do_act (r := giveW s.now id mask row) hR.a (by simp) (by simp) (by simp [actW])]
  exact congrArg _ (give_rep _ _ _ _)
 unfold GDone
 rw [e]
 have HGD := St.hid hR.next
 have HC : Hid (∀ W, Gam W F b { s with acts := s.acts + 1 } → Calls Tryz.prog 34 #[.pointer (some ⟨b, 0, none⟩), .int .i64 id, .int .i64 mask, .agg #[.int .i64 row.x, .int .i64 row.y, .int .i64 row.px, .int .i64 row.py, .int .i64 row.wd, .int .i64 row.ht, .int .i64 row.ms, .int .i64 row.rr]] W (PostM W F b { s with now := (giveW s.now id mask row).1, acts := s.acts + 1 } (giveW s.now id mask row).2.code (giveW s.now id mask row).2.n ([] : List (Int × Int)))) := St.hid (fun W h => Calls.mono (give_any h HGD.out id mask row) (fun _ _ h => h.toM))
 clear e
 simp only []
 generalize (giveW s.now id mask row).2.code = cc at HC ⊢
 generalize (giveW s.now id mask row).2.n = nn at HC ⊢
 generalize ([] : List (Int × Int)) = ms at HC ⊢
 generalize ({ s with now := (giveW s.now id mask row).1, acts := s.acts + 1 } : Gp) = s9 at HC ⊢
 refine (gdoT 3 hR _).2 ?_
 intro W h5
 have H5 := St.hid h5
 have hzW := h5.sz
 obtain ⟨a0, a1, a2, a3, a4, a5, a6, a7, a8, a9, a10, a11, a12, a13, a14, a15, a16⟩ := acells h5.ac
 clear h5
 dsimp only [gdoT]
 intro K1 k1
 go_wp2_with fail
 refine (HC.out _ H5.out.gw).mono ?_
 rintro e w1 ⟨vm, rfl, hown, hGx, hk1⟩
 obtain ⟨am, cm, rfl⟩ := own_form hown
 have HOW := St.hid hown
 have HGX := St.hid hGx
 have HK1 := St.hid hk1
 have hRP1 := St.hid (rowIs_kept H5.out.rp hk1 (fun hc => by have := H5.out.fl _ hc; omega))
 have hz1 := hk1.size
 clear hown hGx hk1
 obtain ⟨p0, p1, p2, p3, p4, p5, p6, p7⟩ := rcs hRP1.out
 have hlt1 : w.heap.size + 1 < w1.heap.size := by omega
 go_wp2_with fail
 obtain ⟨q0, q1, q2, q3⟩ := four (put4 hRP1.out (.int .i64 cc) (.int .i64 nn) (.slice none 0 0) (.slice am ms.length cm))
 exact bodyPost_ret (v := .agg #[.int .i64 cc, .int .i64 nn, .slice none 0 0, .slice am ms.length cm]) (by simp [results, Tryz.results14, go_sem, q0, q1, q2, q3]) rfl (postD_of H5.out.fl H5.out.kw (by omega) HOW.out HGX.out HK1.out _ _ _ _)
set_option maxHeartbeats 4000000 in
set_option maxRecDepth 100000 in
theorem do_take {F : Nat → Prop} {b : Nat} {s : Gp} {w : World} {id n mask : Int} {row : R8} {box : Sw.B5} (hR : GIn F b s w) : GDone F b s w ⟨4, id, n, mask, row, box⟩ := by
 have e : doG s ⟨4, id, n, mask, row, box⟩ = ({ s with now := (takeW s.now id mask).1, acts := s.acts + 1 }, ⟨(takeW s.now id mask).2.code, (takeW s.now id mask).2.n, [], []⟩) := by
  rw [do_act (r := takeW s.now id mask) hR.a (by simp) (by simp) (by simp [actW])]
  exact congrArg _ (take_rep _ _ _)
 unfold GDone
 rw [e]
 have HGD := St.hid hR.next
 have HC : Hid (∀ W, Gam W F b { s with acts := s.acts + 1 } → Calls Tryz.prog 35 #[.pointer (some ⟨b, 0, none⟩), .int .i64 id, .int .i64 mask] W (PostM W F b { s with now := (takeW s.now id mask).1, acts := s.acts + 1 } (takeW s.now id mask).2.code (takeW s.now id mask).2.n ([] : List (Int × Int)))) := St.hid (fun W h => Calls.mono (take_any h HGD.out id mask) (fun _ _ h => h.toM))
 clear e
 simp only []
 generalize (takeW s.now id mask).2.code = cc at HC ⊢
 generalize (takeW s.now id mask).2.n = nn at HC ⊢
 generalize ([] : List (Int × Int)) = ms at HC ⊢
 generalize ({ s with now := (takeW s.now id mask).1, acts := s.acts + 1 } : Gp) = s9 at HC ⊢
 refine (gdoT 4 hR _).2 ?_
 intro W h5
 have H5 := St.hid h5
 have hzW := h5.sz
 obtain ⟨a0, a1, a2, a3, a4, a5, a6, a7, a8, a9, a10, a11, a12, a13, a14, a15, a16⟩ := acells h5.ac
 clear h5
 dsimp only [gdoT]
 intro K1 k1
 go_wp2_with fail
 refine (HC.out _ H5.out.gw).mono ?_
 rintro e w1 ⟨vm, rfl, hown, hGx, hk1⟩
 obtain ⟨am, cm, rfl⟩ := own_form hown
 have HOW := St.hid hown
 have HGX := St.hid hGx
 have HK1 := St.hid hk1
 have hRP1 := St.hid (rowIs_kept H5.out.rp hk1 (fun hc => by have := H5.out.fl _ hc; omega))
 have hz1 := hk1.size
 clear hown hGx hk1
 obtain ⟨p0, p1, p2, p3, p4, p5, p6, p7⟩ := rcs hRP1.out
 have hlt1 : w.heap.size + 1 < w1.heap.size := by omega
 go_wp2_with fail
 obtain ⟨q0, q1, q2, q3⟩ := four (put4 hRP1.out (.int .i64 cc) (.int .i64 nn) (.slice none 0 0) (.slice am ms.length cm))
 exact bodyPost_ret (v := .agg #[.int .i64 cc, .int .i64 nn, .slice none 0 0, .slice am ms.length cm]) (by simp [results, Tryz.results14, go_sem, q0, q1, q2, q3]) rfl (postD_of H5.out.fl H5.out.kw (by omega) HOW.out HGX.out HK1.out _ _ _ _)
set_option maxHeartbeats 4000000 in
set_option maxRecDepth 100000 in
theorem do_kick {F : Nat → Prop} {b : Nat} {s : Gp} {w : World} {id n mask : Int} {row : R8} {box : Sw.B5} (hR : GIn F b s w) : GDone F b s w ⟨5, id, n, mask, row, box⟩ := by
 have e : doG s ⟨5, id, n, mask, row, box⟩ = ({ s with now := (kickW s.now id row).1, acts := s.acts + 1 }, ⟨(kickW s.now id row).2.code, (kickW s.now id row).2.n, [], []⟩) := by
  rw [do_act (r := kickW s.now id row) hR.a (by simp) (by simp) (by simp [actW])]
  exact congrArg _ (kick_rep _ _ _)
 unfold GDone
 rw [e]
 have HGD := St.hid hR.next
 have HC : Hid (∀ W, Gam W F b { s with acts := s.acts + 1 } → Calls Tryz.prog 36 #[.pointer (some ⟨b, 0, none⟩), .int .i64 id, .agg #[.int .i64 row.x, .int .i64 row.y, .int .i64 row.px, .int .i64 row.py, .int .i64 row.wd, .int .i64 row.ht, .int .i64 row.ms, .int .i64 row.rr]] W (PostM W F b { s with now := (kickW s.now id row).1, acts := s.acts + 1 } (kickW s.now id row).2.code (kickW s.now id row).2.n ([] : List (Int × Int)))) := St.hid (fun W h => Calls.mono (kick_any h HGD.out id row) (fun _ _ h => h.toM))
 clear e
 simp only []
 generalize (kickW s.now id row).2.code = cc at HC ⊢
 generalize (kickW s.now id row).2.n = nn at HC ⊢
 generalize ([] : List (Int × Int)) = ms at HC ⊢
 generalize ({ s with now := (kickW s.now id row).1, acts := s.acts + 1 } : Gp) = s9 at HC ⊢
 refine (gdoT 5 hR _).2 ?_
 intro W h5
 have H5 := St.hid h5
 have hzW := h5.sz
 obtain ⟨a0, a1, a2, a3, a4, a5, a6, a7, a8, a9, a10, a11, a12, a13, a14, a15, a16⟩ := acells h5.ac
 clear h5
 dsimp only [gdoT]
 intro K1 k1
 go_wp2_with fail
 refine (HC.out _ H5.out.gw).mono ?_
 rintro e w1 ⟨vm, rfl, hown, hGx, hk1⟩
 obtain ⟨am, cm, rfl⟩ := own_form hown
 have HOW := St.hid hown
 have HGX := St.hid hGx
 have HK1 := St.hid hk1
 have hRP1 := St.hid (rowIs_kept H5.out.rp hk1 (fun hc => by have := H5.out.fl _ hc; omega))
 have hz1 := hk1.size
 clear hown hGx hk1
 obtain ⟨p0, p1, p2, p3, p4, p5, p6, p7⟩ := rcs hRP1.out
 have hlt1 : w.heap.size + 1 < w1.heap.size := by omega
 go_wp2_with fail
 obtain ⟨q0, q1, q2, q3⟩ := four (put4 hRP1.out (.int .i64 cc) (.int .i64 nn) (.slice none 0 0) (.slice am ms.length cm))
 exact bodyPost_ret (v := .agg #[.int .i64 cc, .int .i64 nn, .slice none 0 0, .slice am ms.length cm]) (by simp [results, Tryz.results14, go_sem, q0, q1, q2, q3]) rfl (postD_of H5.out.fl H5.out.kw (by omega) HOW.out HGX.out HK1.out _ _ _ _)
set_option maxHeartbeats 4000000 in
set_option maxRecDepth 100000 in
theorem do_step {F : Nat → Prop} {b : Nat} {s : Gp} {w : World} {id n mask : Int} {row : R8} {box : Sw.B5} (hR : GIn F b s w) : GDone F b s w ⟨6, id, n, mask, row, box⟩ := by
 have e : doG s ⟨6, id, n, mask, row, box⟩ = ({ s with now := (goW s.now n).1, acts := s.acts + 1 }, ⟨(goW s.now n).2.code, (goW s.now n).2.n, [], (goW s.now n).2.met⟩) := by
  rw [do_act (r := goW s.now n) hR.a (by simp) (by simp) (by simp [actW])]
  exact congrArg _ (go_rep _ _)
 unfold GDone
 rw [e]
 have HGD := St.hid hR.next
 have HC : Hid (∀ W, Gam W F b { s with acts := s.acts + 1 } → Calls Tryz.prog 37 #[.pointer (some ⟨b, 0, none⟩), .int .i64 n] W (PostM W F b { s with now := (goW s.now n).1, acts := s.acts + 1 } (goW s.now n).2.code (goW s.now n).2.n (goW s.now n).2.met)) := St.hid (fun W h => gstep_any h HGD.out n)
 clear e
 simp only []
 generalize (goW s.now n).2.code = cc at HC ⊢
 generalize (goW s.now n).2.n = nn at HC ⊢
 generalize (goW s.now n).2.met = ms at HC ⊢
 generalize ({ s with now := (goW s.now n).1, acts := s.acts + 1 } : Gp) = s9 at HC ⊢
 refine (gdoT 6 hR _).2 ?_
 intro W h5
 have H5 := St.hid h5
 have hzW := h5.sz
 obtain ⟨a0, a1, a2, a3, a4, a5, a6, a7, a8, a9, a10, a11, a12, a13, a14, a15, a16⟩ := acells h5.ac
 clear h5
 dsimp only [gdoT]
 intro K1 k1
 go_wp2_with fail
 refine (HC.out _ H5.out.gw).mono ?_
 rintro e w1 ⟨vm, rfl, hown, hGx, hk1⟩
 obtain ⟨am, cm, rfl⟩ := own_form hown
 have HOW := St.hid hown
 have HGX := St.hid hGx
 have HK1 := St.hid hk1
 have hRP1 := St.hid (rowIs_kept H5.out.rp hk1 (fun hc => by have := H5.out.fl _ hc; omega))
 have hz1 := hk1.size
 clear hown hGx hk1
 obtain ⟨p0, p1, p2, p3, p4, p5, p6, p7⟩ := rcs hRP1.out
 have hlt1 : w.heap.size + 1 < w1.heap.size := by omega
 go_wp2_with fail
 obtain ⟨q0, q1, q2, q3⟩ := four (put4 hRP1.out (.int .i64 cc) (.int .i64 nn) (.slice none 0 0) (.slice am ms.length cm))
 exact bodyPost_ret (v := .agg #[.int .i64 cc, .int .i64 nn, .slice none 0 0, .slice am ms.length cm]) (by simp [results, Tryz.results14, go_sem, q0, q1, q2, q3]) rfl (postD_of H5.out.fl H5.out.kw (by omega) HOW.out HGX.out HK1.out _ _ _ _)
set_option maxHeartbeats 4000000 in
set_option maxRecDepth 100000 in
theorem do_save {F : Nat → Prop} {b : Nat} {s : Gp} {w : World} {id n mask : Int} {row : R8} {box : Sw.B5} (hR : GIn F b s w) : GDone F b s w ⟨7, id, n, mask, row, box⟩ := by
 have e : doG s ⟨7, id, n, mask, row, box⟩ = ((saveG { s with acts := s.acts + 1 }).1, ⟨(saveG { s with acts := s.acts + 1 }).2.code, (saveG { s with acts := s.acts + 1 }).2.n, [], []⟩) := by
  have := hR.a
  unfold doG saveG
  rw [if_neg (by show ¬ 150 ≤ s.acts; omega), if_pos rfl]
  split <;> rfl
 unfold GDone
 rw [e]
 have HGD := St.hid hR.next
 have HC : Hid (∀ W, Gam W F b { s with acts := s.acts + 1 } → Calls Tryz.prog 38 #[.pointer (some ⟨b, 0, none⟩)] W (PostM W F b (saveG { s with acts := s.acts + 1 }).1 (saveG { s with acts := s.acts + 1 }).2.code (saveG { s with acts := s.acts + 1 }).2.n ([] : List (Int × Int)))) := St.hid (fun W h => Calls.mono (gsave_any h HGD.out) (fun _ _ h => h.toM))
 clear e
 simp only []
 generalize (saveG { s with acts := s.acts + 1 }).2.code = cc at HC ⊢
 generalize (saveG { s with acts := s.acts + 1 }).2.n = nn at HC ⊢
 generalize ([] : List (Int × Int)) = ms at HC ⊢
 generalize ((saveG { s with acts := s.acts + 1 }).1 : Gp) = s9 at HC ⊢
 refine (gdoT 7 hR _).2 ?_
 intro W h5
 have H5 := St.hid h5
 have hzW := h5.sz
 obtain ⟨a0, a1, a2, a3, a4, a5, a6, a7, a8, a9, a10, a11, a12, a13, a14, a15, a16⟩ := acells h5.ac
 clear h5
 dsimp only [gdoT]
 intro K1 k1
 go_wp2_with fail
 refine (HC.out _ H5.out.gw).mono ?_
 rintro e w1 ⟨vm, rfl, hown, hGx, hk1⟩
 obtain ⟨am, cm, rfl⟩ := own_form hown
 have HOW := St.hid hown
 have HGX := St.hid hGx
 have HK1 := St.hid hk1
 have hRP1 := St.hid (rowIs_kept H5.out.rp hk1 (fun hc => by have := H5.out.fl _ hc; omega))
 have hz1 := hk1.size
 clear hown hGx hk1
 obtain ⟨p0, p1, p2, p3, p4, p5, p6, p7⟩ := rcs hRP1.out
 have hlt1 : w.heap.size + 1 < w1.heap.size := by omega
 go_wp2_with fail
 obtain ⟨q0, q1, q2, q3⟩ := four (put4 hRP1.out (.int .i64 cc) (.int .i64 nn) (.slice none 0 0) (.slice am ms.length cm))
 exact bodyPost_ret (v := .agg #[.int .i64 cc, .int .i64 nn, .slice none 0 0, .slice am ms.length cm]) (by simp [results, Tryz.results14, go_sem, q0, q1, q2, q3]) rfl (postD_of H5.out.fl H5.out.kw (by omega) HOW.out HGX.out HK1.out _ _ _ _)
set_option maxHeartbeats 4000000 in
set_option maxRecDepth 100000 in
theorem do_load {F : Nat → Prop} {b : Nat} {s : Gp} {w : World} {id n mask : Int} {row : R8} {box : Sw.B5} (hR : GIn F b s w) : GDone F b s w ⟨8, id, n, mask, row, box⟩ := by
 have e : doG s ⟨8, id, n, mask, row, box⟩ = ({ s with now := (loadW { s with acts := s.acts + 1 } n).1, acts := s.acts + 1 }, ⟨(loadW { s with acts := s.acts + 1 } n).2.code, (loadW { s with acts := s.acts + 1 } n).2.n, [], []⟩) := by
  have := hR.a
  unfold doG loadW
  rw [if_neg (by show ¬ 150 ≤ s.acts; omega), if_neg (by simp), if_pos rfl]
  simp only []
  split <;> rfl
 unfold GDone
 rw [e]
 have HGD := St.hid hR.next
 have HC : Hid (∀ W, Gam W F b { s with acts := s.acts + 1 } → Calls Tryz.prog 39 #[.pointer (some ⟨b, 0, none⟩), .int .i64 n] W (PostM W F b { s with now := (loadW { s with acts := s.acts + 1 } n).1, acts := s.acts + 1 } (loadW { s with acts := s.acts + 1 } n).2.code (loadW { s with acts := s.acts + 1 } n).2.n ([] : List (Int × Int)))) := St.hid (fun W h => Calls.mono (gload_any h HGD.out n) (fun _ _ h => h.toM))
 clear e
 simp only []
 generalize (loadW { s with acts := s.acts + 1 } n).2.code = cc at HC ⊢
 generalize (loadW { s with acts := s.acts + 1 } n).2.n = nn at HC ⊢
 generalize ([] : List (Int × Int)) = ms at HC ⊢
 generalize ({ s with now := (loadW { s with acts := s.acts + 1 } n).1, acts := s.acts + 1 } : Gp) = s9 at HC ⊢
 refine (gdoT 8 hR _).2 ?_
 intro W h5
 have H5 := St.hid h5
 have hzW := h5.sz
 obtain ⟨a0, a1, a2, a3, a4, a5, a6, a7, a8, a9, a10, a11, a12, a13, a14, a15, a16⟩ := acells h5.ac
 clear h5
 dsimp only [gdoT]
 intro K1 k1
 go_wp2_with fail
 refine (HC.out _ H5.out.gw).mono ?_
 rintro e w1 ⟨vm, rfl, hown, hGx, hk1⟩
 obtain ⟨am, cm, rfl⟩ := own_form hown
 have HOW := St.hid hown
 have HGX := St.hid hGx
 have HK1 := St.hid hk1
 have hRP1 := St.hid (rowIs_kept H5.out.rp hk1 (fun hc => by have := H5.out.fl _ hc; omega))
 have hz1 := hk1.size
 clear hown hGx hk1
 obtain ⟨p0, p1, p2, p3, p4, p5, p6, p7⟩ := rcs hRP1.out
 have hlt1 : w.heap.size + 1 < w1.heap.size := by omega
 go_wp2_with fail
 obtain ⟨q0, q1, q2, q3⟩ := four (put4 hRP1.out (.int .i64 cc) (.int .i64 nn) (.slice none 0 0) (.slice am ms.length cm))
 exact bodyPost_ret (v := .agg #[.int .i64 cc, .int .i64 nn, .slice none 0 0, .slice am ms.length cm]) (by simp [results, Tryz.results14, go_sem, q0, q1, q2, q3]) rfl (postD_of H5.out.fl H5.out.kw (by omega) HOW.out HGX.out HK1.out _ _ _ _)
end Gm
end Go.Proofs.YtckkkdldljhehacGreat
