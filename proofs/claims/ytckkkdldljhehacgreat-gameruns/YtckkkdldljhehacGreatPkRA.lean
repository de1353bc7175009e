/- Part of the proofs of GamePlays and GameRuns (package ninepinslaw): contracts of the functions that they call. -/
import Derived.Test.YtckkkdldljhehacGreatPkD
import Derived.Test.YtckkkdldljhehacGreatPkM
import Derived.Test.YtckkkdldljhehacGreatPkP
import Derived.Test.YtckkkdldljhehacGreatPkS
import Derived.Test.YtckkkdldljhehacGreatPkT
import Derived.Test.YtckkkdldljhehacGreatPkZ1
namespace Go.Proofs.YtckkkdldljhehacGreat
namespace Rf
open Num St Mp Th Wd Gm Ws
open Go.ChangeShapes Go.WideShapes Go.ChangeAt Go.RowKit
def mvs (ms : List Nat) : List Value := ms.map fun m => .map (some m)
structure RGamP (W : World) (F : Nat → Prop) (b : Nat) (s : Gp) (c : Nat) (vs : Value) (ms : List Nat) : Prop where
 row : W.rowIs b 79 7 (gcell (.map (some c)) s.now vs s.acts)
 svs : W.ownsRow 0 73 5 vs s.saves.length (saveCells ((mvs ms).zip s.saves))
 len : ms.length = s.saves.length
 now : Mp W c (thM s.now.L)
 all : ∀ (i : Nat) m x, ms[i]? = some m → s.saves[i]? = some x → Mp W m (thM x.L)
 own : F b
 inC : F c ∧ c ≠ b
 inM : ∀ m ∈ ms, F m ∧ m ≠ b ∧ m ≠ c
 sep : ∀ z, vs.ownBlock = some z → F z ∧ z ≠ b ∧ z ≠ c ∧ z ∉ ms
 lt : ∀ z, F z → z < W.heap.size
def RGam (W : World) (F : Nat → Prop) (b : Nat) (s : Gp) : Prop := ∃ c vs ms, RGamP W F b s c vs ms
theorem mp_kept {F : Nat → Prop} {w w' : World} {b : Nat} {l : Mth} (h : Mp w b l) (hk : Gm.Kept F w w') (hb : ¬ F b) : Mp w' b l := h.block (hk.block b h.lt hb)
theorem RGamP.kept {W W' : World} {F G : Nat → Prop} {b : Nat} {s : Gp} {c : Nat} {vs : Value} {ms : List Nat} (h : RGamP W F b s c vs ms) (hk : Gm.Kept G W W') (hd : ∀ z, F z → ¬ G z) : RGamP W' F b s c vs ms :=
 ⟨rowIs_kept h.row hk (hd b h.own), owns_kept' h.svs hk (fun z hz => hd z (h.sep z hz).1), h.len, mp_kept h.now hk (hd c h.inC.1), fun i m x h1 h2 => mp_kept (h.all i m x h1 h2) hk (hd m (h.inM m (List.mem_of_getElem? h1)).1), h.own, h.inC, h.inM, h.sep, fun z hz => Nat.lt_of_lt_of_le (h.lt z hz) hk.size⟩
theorem RGamP.below {W W' : World} {F : Nat → Prop} {b : Nat} {s : Gp} {c : Nat} {vs : Value} {ms : List Nat} (h : RGamP W F b s c vs ms) (hb : Below W.heap.size W W') : RGamP W' F b s c vs ms :=
 h.kept (Gm.Kept.below (F := fun _ => False) hb) (fun _ _ h => h)
theorem RGam.kept {W W' : World} {F G : Nat → Prop} {b : Nat} {s : Gp} (h : RGam W F b s) (hk : Gm.Kept G W W') (hd : ∀ z, F z → ¬ G z) : RGam W' F b s := by
 obtain ⟨c, vs, ms, h⟩ := h
 exact ⟨c, vs, ms, h.kept hk hd⟩
theorem RGam.below {W W' : World} {F : Nat → Prop} {b : Nat} {s : Gp} (h : RGam W F b s) (hb : Below W.heap.size W W') : RGam W' F b s := by
 obtain ⟨c, vs, ms, h⟩ := h
 exact ⟨c, vs, ms, h.below hb⟩
theorem RGam.lt {W : World} {F : Nat → Prop} {b : Nat} {s : Gp} (h : RGam W F b s) {z : Nat} (hz : F z) : z < W.heap.size := by
 obtain ⟨c, vs, ms, h⟩ := h
 exact h.lt z hz
theorem RGam.own {W : World} {F : Nat → Prop} {b : Nat} {s : Gp} (h : RGam W F b s) : F b := by
 obtain ⟨c, vs, ms, h⟩ := h
 exact h.own
theorem RGamP.grown {W W' : World} {F : Nat → Prop} {b : Nat} {s s' : Gp} {c : Nat} {vs : Value} {ms : List Nat} (h : RGamP W F b s c vs ms) (hg : W.grownBy W' (some b)) (hr : W'.rowIs b 79 7 (gcell (.map (some c)) s'.now vs s'.acts)) (hn : s'.now.L = s.now.L) (hs : s'.saves = s.saves) : RGamP W' F b s' c vs ms :=
 ⟨hr, by rw [hs]; exact owns_kept h.svs hg (fun z hz e => (h.sep z hz).2.1 (by cases e; rfl)), by rw [hs]; exact h.len, by rw [hn]; exact h.now.kept hg (fun e => h.inC.2 (by cases e; rfl)), fun i m x h1 h2 => by rw [hs] at h2; exact (h.all i m x h1 h2).kept hg (fun e => (h.inM m (List.mem_of_getElem? h1)).2.1 (by cases e; rfl)), h.own, h.inC, h.inM, h.sep, fun z hz => Nat.lt_of_lt_of_le (h.lt z hz) hg.size⟩
theorem RGamP.acts {W : World} {F : Nat → Prop} {b : Nat} {s : Gp} {c : Nat} {vs : Value} {ms : List Nat} (h : RGamP W F b s c vs ms) (k : Nat) : RGamP (W.setCell ⟨b, 6, none⟩ (.int .i64 (k : Int))) F b { s with acts := k } c vs ms :=
 h.grown (grown_set _ _ _ _) ((h.row.set 6 _).congr (fun i hi => by
  match i, hi with
  | 0, _ => rfl
  | 1, _ => rfl
  | 2, _ => rfl
  | 3, _ => rfl
  | 4, _ => rfl
  | 5, _ => rfl
  | 6, _ => rfl)) rfl rfl
theorem RGamP.setNow {W : World} {F : Nat → Prop} {b : Nat} {s : Gp} {c : Nat} {vs : Value} {ms : List Nat} (h : RGamP W F b s c vs ms) {c2 : Nat} {x : Wp} (hm : Mp W c2 (thM x.L)) (hn : ¬ F c2) :
  RGamP (put5 W b (.map (some c2)) x.next x.fall x.wide x.high) (fun z => F z ∨ z = c2) b { s with now := x } c2 vs ms := by
 have hg := grown5 W b (.map (some c2)) x.next x.fall x.wide x.high
 have hcb : c2 ≠ b := fun e => hn (e ▸ h.own)
 refine ⟨?_, owns_kept h.svs hg (fun z hz e => (h.sep z hz).2.1 (by cases e; rfl)), h.len, hm.kept hg (fun e => hcb (by cases e; rfl)), fun i m y h1 h2 => (h.all i m y h1 h2).kept hg (fun e => (h.inM m (List.mem_of_getElem? h1)).2.1 (by cases e; rfl)), Or.inl h.own, ⟨Or.inr rfl, hcb⟩, fun m hm => ⟨Or.inl (h.inM m hm).1, (h.inM m hm).2.1, fun e => hn (e ▸ (h.inM m hm).1)⟩, fun z hz => ⟨Or.inl (h.sep z hz).1, (h.sep z hz).2.1, fun e => hn (e ▸ (h.sep z hz).1), (h.sep z hz).2.2.2⟩, fun z hz => ?_⟩
 ·refine (((((h.row.set 0 _).set 1 _).set 2 _).set 3 _).set 4 _).congr (fun i hi => ?_)
  match i, hi with
  | 0, _ => rfl
  | 1, _ => rfl
  | 2, _ => rfl
  | 3, _ => rfl
  | 4, _ => rfl
  | 5, _ => rfl
  | 6, _ => rfl
 ·refine Nat.lt_of_lt_of_le ?_ hg.size
  rcases hz with hz | rfl
  ·exact h.lt z hz
  ·exact hm.lt
theorem RGamP.turn {W W' : World} {F : Nat → Prop} {b : Nat} {s : Gp} {c : Nat} {vs : Value} {ms : List Nat} (h : RGamP W F b s c vs ms) {L : List Tab} (ht : W.mapTurned W' c) (hm : Mp W' c (thM L)) : RGamP W' F b { s with now := { s.now with L := L } } c vs ms := by
 have hg : W.grownBy W' (some c) := ht.grown
 exact ⟨rowIs_grown h.row hg (fun e => h.inC.2 (by cases e; rfl)), owns_kept h.svs hg (fun z hz e => (h.sep z hz).2.2.1 (by cases e; rfl)), h.len, hm, fun i m y h1 h2 => (h.all i m y h1 h2).kept hg (fun e => (h.inM m (List.mem_of_getElem? h1)).2.2 (by cases e; rfl)), h.own, h.inC, h.inM, h.sep, fun z hz => Nat.lt_of_lt_of_le (h.lt z hz) hg.size⟩
theorem rgcells {W : World} {b : Nat} {v vs : Value} {x : Wp} {acts : Nat} (h : W.rowIs b 79 7 (gcell v x vs acts)) : W.cell? ⟨b, 0, none⟩ = some v ∧ W.cell? ⟨b, 1, none⟩ = some (.int .i64 x.next) ∧ W.cell? ⟨b, 2, none⟩ = some (.int .i64 x.fall) ∧ W.cell? ⟨b, 3, none⟩ = some (.int .i64 x.wide) ∧ W.cell? ⟨b, 4, none⟩ = some (.int .i64 x.high) ∧ W.cell? ⟨b, 5, none⟩ = some vs ∧ W.cell? ⟨b, 6, none⟩ = some (.int .i64 acts) :=
 ⟨h.cell (i := 0) (by omega), h.cell (i := 1) (by omega), h.cell (i := 2) (by omega), h.cell (i := 3) (by omega), h.cell (i := 4) (by omega), h.cell (i := 5) (by omega), h.cell (i := 6) (by omega)⟩
def PostR (w : World) (F : Nat → Prop) (b : Nat) (s' : Gp) (r : Rep) (e : Ending) (w' : World) : Prop :=
 ∃ vi vm, e = .returned (.agg #[.int .i64 r.code, .int .i64 r.n, vi, vm]) ∧ Rp.IntsR w' vi r.ids ∧ Rp.PairsR w' vm r.met ∧ (∃ F', RGam w' F' b s' ∧ ∀ z, F' z → F z ∨ w.heap.size ≤ z) ∧ Gm.Kept F w w'
theorem post_no {w W : World} {F F' : Nat → Prop} {b : Nat} {s' : Gp} (hG : RGam W F' b s') (hF : ∀ z, F' z → F z ∨ w.heap.size + 2 ≤ z) (hFl : ∀ z, F z → z < w.heap.size) (hk : Gm.Kept F w W) (n k : Int) (x0 x1 x2 x3 : Value) :
  PostR w F b s' ⟨k, n, [], []⟩ (.returned (.agg #[.int .i64 k, .int .i64 n, .slice none 0 0, .slice none 0 0])) ((((W.setCell ⟨w.heap.size + 1, 0, none⟩ x0).setCell ⟨w.heap.size + 1, 1, none⟩ x1).setCell ⟨w.heap.size + 1, 2, none⟩ x2).setCell ⟨w.heap.size + 1, 3, none⟩ x3) := by
 refine ⟨_, _, rfl, Rp.ints_nil _ _ _, Rp.pairs_nil _ _ _, ⟨F', hG.kept (G := fun z => z = w.heap.size + 1) (((((Gm.Kept.below (F := fun z => z = w.heap.size + 1) (Below.refl _ W)).set (g := w.heap.size + 1) (Or.inl rfl) 0 x0).set (Or.inl rfl) 1 x1).set (Or.inl rfl) 2 x2).set (Or.inl rfl) 3 x3) (fun z hz e => ?_), fun z hz => (hF z hz).imp id (fun h => by omega)⟩, (((hk.set (Or.inr (by omega)) 0 x0).set (Or.inr (by omega)) 1 x1).set (Or.inr (by omega)) 2 x2).set (Or.inr (by omega)) 3 x3⟩
 rcases hF z hz with h | h
 ·have := hFl z h; omega
 ·omega
set_option maxHeartbeats 1000000 in
theorem rno_any (k : Int) (w : World) : Calls Tryz.prog 48 #[.int .i64 k] w fun e w' => e = .returned (.agg #[.int .i64 k, .int .i64 0, .slice none 0 0, .slice none 0 0]) ∧ Below w.heap.size w w' := by
 go_enter Tryz.func48, Tryz.ntmps48
 go_wp2_with fail
 refine bodyPost_ret (v := .agg #[.int .i64 k, .int .i64 0, .slice none 0 0, .slice none 0 0]) (by simp [results, Tryz.results48, go_sem]) rfl ⟨rfl, ?_⟩
 repeat refine Below.setCell ?_ (by simp) _
 exact bal (Below.refl _ _) _
end Rf
namespace Rf
open Num St Mp Th Wd Gm Ws
open Go.ChangeShapes Go.WideShapes Go.ChangeAt Go.RowKit
noncomputable def rreg (n : Nat) : Code := ((Tryz.f27.body.bind (Rs.findR n)).getD .skip)
attribute [local go_sem ↓] Go.wp_at_zero Go.wp_at_succ
set_option maxHeartbeats 16000000 in
set_option maxRecDepth 100000 in
theorem rreg5_wp (Q : Exit → Act → World → Prop) (A : Act) (gb c ab : Nat) (id : Int) (t : Th) (is : Bool) (wz : World) (e0 : A.tmps[0]?.getD undef = .pointer (some ⟨gb, 0, none⟩)) (e3 : A.tmps[3]?.getD undef = .pointer (some ⟨ab, 0, none⟩)) (hsz : 38 < A.tmps.size)
  (hsk : ∀ W, Below wz.heap.size wz W → W.cell? ⟨gb, 0, none⟩ = some (.map (some c)) ∧ W.cell? ⟨ab, 1, none⟩ = some (.int .i64 id) ∧ (Instr.lookup 71 (.map (some c)) (.int .i64 id) true).run Tryz.prog W = .ok (.tuple #[.agg #[.int .i64 t.m, .int .i64 t.r.x, .int .i64 t.r.y, .int .i64 t.r.px, .int .i64 t.r.py, .int .i64 t.r.wd, .int .i64 t.r.ht, .int .i64 t.r.ms, .int .i64 t.r.rr], .bool is]) W)
  (h : ∀ (f : Nat → Value) (b : Nat) (W : World), f 6 = .pointer (some ⟨b, 0, none⟩) → f 7 = .bool is → W.rowIs b 105 9 (fun i => (thCells t).getD i undef) → wz.heap.size ≤ b → Below wz.heap.size wz W → Q .normal (Rh.puts f [6, 7, 28, 29, 30, 31, 32, 33, 34, 35, 36, 37, 38] A) W) :
  Code.wp Tryz.prog (rreg 5) Q A wz := by
 have HSK := St.hid hsk
 have H := St.hid h
 clear hsk h
 conv => arg 2; whnf
 refine Rs.wp_region (by kernel_rfl) (fun Lf a1 w1 => Hid (Rs.Sl [6, 7, 28, 29, 30, 31, 32, 33, 34, 35, 36, 37, 38] A [(0, 29, .pointer (some ⟨gb, 0, none⟩)), (1, 30, .pointer (some ⟨gb, 0, none⟩)), (2, 31, .pointer (some ⟨gb, 0, none⟩)), (3, 32, .pointer (some ⟨gb, 0, none⟩)), (4, 33, .map (some c)), (5, 34, .pointer (some ⟨ab, 1, none⟩)), (6, 35, .int .i64 id), (7, 36, .tuple #[.agg #[.int .i64 t.m, .int .i64 t.r.x, .int .i64 t.r.y, .int .i64 t.r.px, .int .i64 t.r.py, .int .i64 t.r.wd, .int .i64 t.r.ht, .int .i64 t.r.ms, .int .i64 t.r.rr], .bool is]), (8, 28, .tuple #[.agg #[.int .i64 t.m, .int .i64 t.r.x, .int .i64 t.r.y, .int .i64 t.r.px, .int .i64 t.r.py, .int .i64 t.r.wd, .int .i64 t.r.ht, .int .i64 t.r.ms, .int .i64 t.r.rr], .bool is]), (9, 37, .agg #[.int .i64 t.m, .int .i64 t.r.x, .int .i64 t.r.y, .int .i64 t.r.px, .int .i64 t.r.py, .int .i64 t.r.wd, .int .i64 t.r.ht, .int .i64 t.r.ms, .int .i64 t.r.rr]), (10, 38, .bool is), (13, 7, .bool is)] Lf a1) ∧ Hid (Below wz.heap.size wz w1) ∧ Hid (Lf 11 = true → ∃ b f, a1.tmps[6]?.getD undef = .pointer (some ⟨b, 0, none⟩) ∧ wz.heap.size ≤ b ∧ w1.rowIs b 105 9 f ∧ (Lf 12 = true → f = fun i => (thCells t).getD i undef))) (by kernel_rfl) ?rs ?rg ?re
 case rs => exact ⟨Rs.Sl.start hsz rfl, St.hid (Below.drew (Below.refl _ _)), St.hid (fun h => by cases h)⟩
 case rg =>
  intro Lf a1 w1 hI hC
  obtain ⟨cS, cB, cA⟩ := hI
  iterate 11 (refine ⟨fun hl hd K' hK => ?_, ?_⟩; rotate_left)
  refine ⟨fun hl hd K' hK => ?o11, ?_⟩
  rotate_left
  refine ⟨fun hl hd K' hK => ?o12, ?_⟩
  rotate_left
  refine ⟨fun hl hd K' hK => ?_, ?_⟩
  rotate_left
  exact trivial
  case o11 =>
   clear hd
   go_simp
   exact hK.out (a1.put (some _) _) _ ⟨Rs.Sl.free cS rfl rfl, St.hid (bal cB.out _), St.hid (fun _ => ⟨w1.heap.size, zf9, Rs.Sl.new cS, cB.out.size, zrow9 w1, fun h => Rs.no (Rs.late hC hl 12) h⟩)⟩
  case o12 =>
   have q1 := Rs.Sl.at cS 9 (Rs.dep hd 9)
   obtain ⟨b3, f3, g3, l3, r3, -⟩ := cA.out (Rs.dep hd 11)
   obtain ⟨x0, x1, x2, x3, x4, x5, x6, x7, x8, k0, k1, k2, k3, k4, k5, k6, k7, k8⟩ := row9f r3
   have R3 := St.hid r3
   have L3 := St.hid l3
   clear r3 l3 hd e0 e3
   go_simp
   exact hK.out _ _ ⟨Rs.Sl.skip cS rfl, St.hid (below9 cB.out L3.out), St.hid (fun _ => ⟨b3, _, g3, L3.out, row9 R3.out _, fun _ => rfl⟩)⟩
  all_goals
   have z := Rs.Sl.deps cS hd
   clear hd
   repeat (obtain ⟨_, z⟩ := z)
   have y0 := Rs.Sl.old cS e0 rfl
   have y3 := Rs.Sl.old cS e3 rfl
   obtain ⟨x0, x1, x2⟩ := HSK.out _ cB.out
   go_simp
   exact hK.out (a1.put (some _) _) _ ⟨Rs.Sl.put cS rfl rfl, cB, St.hid (fun h => by obtain ⟨b, f, e1, e2⟩ := cA.out h; exact ⟨b, f, (Rh.put_ne (by decide)).trans e1, e2⟩)⟩
 case re =>
  intro Lf a1 w1 hI hall
  obtain ⟨cS, cB, cA⟩ := hI
  obtain ⟨b3, f3, g3, l3, r3, p3⟩ := cA.out (hall 11 (by decide))
  obtain rfl := p3 (hall 12 (by decide))
  rw [Rs.Sl.eq cS]
  exact H.out _ b3 w1 g3 (Rs.Sl.at cS 13 (hall 13 (by decide))) r3 l3 cB.out
set_option maxHeartbeats 16000000 in
set_option maxRecDepth 100000 in
theorem rreg14_wp (Q : Exit → Act → World → Prop) (A : Act) (gb c ab : Nat) (next mask : Int) (r : R8) (wz w2 : World) (e0 : A.tmps[0]?.getD undef = .pointer (some ⟨gb, 0, none⟩)) (e3 : A.tmps[3]?.getD undef = .pointer (some ⟨ab, 0, none⟩)) (hsz : 92 < A.tmps.size)
  (hsk : wz.drew.cell? ⟨gb, 0, none⟩ = some (.map (some c)) ∧ wz.drew.cell? ⟨gb, 1, none⟩ = some (.int .i64 next) ∧ wz.drew.cell? ⟨ab, 3, none⟩ = some (.int .i64 mask) ∧ wz.drew.cell? ⟨ab, 4, none⟩ = some (.int .i64 r.x) ∧ wz.drew.cell? ⟨ab, 5, none⟩ = some (.int .i64 r.y) ∧ wz.drew.cell? ⟨ab, 6, none⟩ = some (.int .i64 r.px) ∧ wz.drew.cell? ⟨ab, 7, none⟩ = some (.int .i64 r.py) ∧ wz.drew.cell? ⟨ab, 8, none⟩ = some (.int .i64 r.wd) ∧ wz.drew.cell? ⟨ab, 9, none⟩ = some (.int .i64 r.ht) ∧ wz.drew.cell? ⟨ab, 10, none⟩ = some (.int .i64 r.ms) ∧ wz.drew.cell? ⟨ab, 11, none⟩ = some (.int .i64 r.rr))
  (hru : (Instr.mapUpdate 71 (.map (some c)) (.int .i64 next) (thV ⟨mask, r⟩)).run Tryz.prog wz.drew = .ok () w2)
  (h : ∀ (f : Nat → Value), Q .normal (Rh.puts f [78, 79, 80, 81, 82, 83, 84, 85, 86, 87, 88, 89, 90, 91, 92] A) w2) :
  Code.wp Tryz.prog (rreg 14) Q A wz := by
 have HSK := St.hid hsk
 have H := St.hid h
 have HRU := St.hid hru
 clear hsk h hru
 conv => arg 2; whnf
 refine Rs.wp_region (by kernel_rfl) (fun Lf a1 w1 => Hid (Rs.Sl [78, 79, 80, 81, 82, 83, 84, 85, 86, 87, 88, 89, 90, 91, 92] A [(0, 78, .pointer (some ⟨gb, 0, none⟩)), (1, 79, .pointer (some ⟨gb, 0, none⟩)), (2, 80, .pointer (some ⟨gb, 0, none⟩)), (3, 81, .pointer (some ⟨gb, 0, none⟩)), (4, 82, .map (some c)), (5, 83, .pointer (some ⟨gb, 0, none⟩)), (6, 84, .pointer (some ⟨gb, 0, none⟩)), (7, 85, .pointer (some ⟨gb, 0, none⟩)), (8, 86, .pointer (some ⟨gb, 1, none⟩)), (9, 87, .int .i64 next), (10, 88, .pointer (some ⟨ab, 3, none⟩)), (11, 89, .int .i64 mask), (12, 90, .pointer (some ⟨ab, 4, none⟩)), (13, 91, .agg #[.int .i64 r.x, .int .i64 r.y, .int .i64 r.px, .int .i64 r.py, .int .i64 r.wd, .int .i64 r.ht, .int .i64 r.ms, .int .i64 r.rr]), (14, 92, .agg #[.int .i64 mask, .int .i64 r.x, .int .i64 r.y, .int .i64 r.px, .int .i64 r.py, .int .i64 r.wd, .int .i64 r.ht, .int .i64 r.ms, .int .i64 r.rr])] Lf a1) ∧ Hid (Lf 15 = false → w1 = wz.drew) ∧ Hid (Lf 15 = true → w1 = w2)) (by kernel_rfl) ?rs ?rg ?re
 case rs => exact ⟨Rs.Sl.start hsz rfl, St.hid (fun _ => rfl), St.hid (fun h => by cases h)⟩
 case rg =>
  intro Lf a1 w1 hI hC
  obtain ⟨cS, cB, cE⟩ := hI
  iterate 15 (refine ⟨fun hl hd K' hK => ?_, ?_⟩; rotate_left)
  refine ⟨fun hl hd K' hK => ?o15, ?_⟩
  rotate_left
  exact trivial
  case o15 =>
   have q0 := Rs.Sl.at cS 4 (Rs.dep hd 4)
   have q1 := Rs.Sl.at cS 9 (Rs.dep hd 9)
   have q2 := Rs.Sl.at cS 14 (Rs.dep hd 14)
   obtain rfl := cB.out hl
   have hru := HRU.out
   try simp only [thV] at hru
   clear hd
   go_simp
   exact hK.out _ _ ⟨Rs.Sl.skip cS rfl, St.hid (fun h => Rs.no h rfl), St.hid (fun _ => rfl)⟩
  all_goals
   have z := Rs.Sl.deps cS hd
   clear hd
   repeat (obtain ⟨_, z⟩ := z)
   have y0 := Rs.Sl.old cS e0 rfl
   have y3 := Rs.Sl.old cS e3 rfl
   have hN := Rs.late hC hl 15
   obtain rfl := cB.out hN
   obtain ⟨x0, x1, x2, z0, z1, z2, z3, z4, z5, z6, z7⟩ := HSK.out
   go_simp
   exact hK.out (a1.put (some _) _) _ ⟨Rs.Sl.put cS rfl rfl, St.hid (fun _ => rfl), cE⟩
 case re =>
  intro Lf a1 w1 hI hall
  obtain ⟨cS, cB, cE⟩ := hI
  obtain rfl := cE.out (hall 15 (by decide))
  rw [Rs.Sl.eq cS]
  exact H.out _
set_option maxHeartbeats 16000000 in
set_option maxRecDepth 100000 in
theorem rreg50_wp (Q : Exit → Act → World → Prop) (A : Act) (gb c ab : Nat) (id : Int) (wz w2 : World) (e0 : A.tmps[0]?.getD undef = .pointer (some ⟨gb, 0, none⟩)) (e3 : A.tmps[3]?.getD undef = .pointer (some ⟨ab, 0, none⟩)) (hsz : 242 < A.tmps.size)
  (hsk : wz.drew.cell? ⟨gb, 0, none⟩ = some (.map (some c)) ∧ wz.drew.cell? ⟨ab, 1, none⟩ = some (.int .i64 id))
  (hru : (Builtin.delete_ #[71, 3] 0 #[.map (some c), .int .i64 id]).run Tryz.prog wz.drew = .ok (.tuple #[]) w2)
  (h : ∀ (f : Nat → Value), Q .normal (Rh.puts f [236, 237, 238, 239, 240, 241, 242] A) w2) :
  Code.wp Tryz.prog (rreg 50) Q A wz := by
 have HSK := St.hid hsk
 have H := St.hid h
 have HRU := St.hid hru
 clear hsk h hru
 conv => arg 2; whnf
 refine Rs.wp_region (by kernel_rfl) (fun Lf a1 w1 => Hid (Rs.Sl [236, 237, 238, 239, 240, 241, 242] A [(0, 236, .pointer (some ⟨gb, 0, none⟩)), (1, 237, .pointer (some ⟨gb, 0, none⟩)), (2, 238, .pointer (some ⟨gb, 0, none⟩)), (3, 239, .pointer (some ⟨gb, 0, none⟩)), (4, 240, .map (some c)), (5, 241, .pointer (some ⟨ab, 1, none⟩)), (6, 242, .int .i64 id)] Lf a1) ∧ Hid (Lf 7 = false → w1 = wz.drew) ∧ Hid (Lf 7 = true → w1 = w2)) (by kernel_rfl) ?rs ?rg ?re
 case rs => exact ⟨Rs.Sl.start hsz rfl, St.hid (fun _ => rfl), St.hid (fun h => by cases h)⟩
 case rg =>
  intro Lf a1 w1 hI hC
  obtain ⟨cS, cB, cE⟩ := hI
  iterate 7 (refine ⟨fun hl hd K' hK => ?_, ?_⟩; rotate_left)
  refine ⟨fun hl hd K' hK => ?o7, ?_⟩
  rotate_left
  exact trivial
  case o7 =>
   have q0 := Rs.Sl.at cS 4 (Rs.dep hd 4)
   have q1 := Rs.Sl.at cS 6 (Rs.dep hd 6)
   obtain rfl := cB.out hl
   have hru := HRU.out
   try simp only [thV] at hru
   clear hd
   go_simp
   exact hK.out _ _ ⟨Rs.Sl.skip cS rfl, St.hid (fun h => Rs.no h rfl), St.hid (fun _ => rfl)⟩
  all_goals
   have z := Rs.Sl.deps cS hd
   clear hd
   repeat (obtain ⟨_, z⟩ := z)
   have y0 := Rs.Sl.old cS e0 rfl
   have y3 := Rs.Sl.old cS e3 rfl
   have hN := Rs.late hC hl 7
   obtain rfl := cB.out hN
   obtain ⟨x0, x1⟩ := HSK.out
   go_simp
   exact hK.out (a1.put (some _) _) _ ⟨Rs.Sl.put cS rfl rfl, St.hid (fun _ => rfl), cE⟩
 case re =>
  intro Lf a1 w1 hI hall
  obtain ⟨cS, cB, cE⟩ := hI
  obtain rfl := cE.out (hall 7 (by decide))
  rw [Rs.Sl.eq cS]
  exact H.out _
set_option maxHeartbeats 16000000 in
set_option maxRecDepth 100000 in
theorem rreg72_wp (Q : Exit → Act → World → Prop) (A : Act) (gb c ab tb : Nat) (id : Int) (t : Th) (wz w2 : World) (e0 : A.tmps[0]?.getD undef = .pointer (some ⟨gb, 0, none⟩)) (e3 : A.tmps[3]?.getD undef = .pointer (some ⟨ab, 0, none⟩)) (e12 : A.tmps[12]?.getD undef = .pointer (some ⟨tb, 0, none⟩)) (hsz : 369 < A.tmps.size)
  (hsk : wz.drew.cell? ⟨gb, 0, none⟩ = some (.map (some c)) ∧ wz.drew.cell? ⟨ab, 1, none⟩ = some (.int .i64 id) ∧ wz.drew.cell? ⟨tb, 0, none⟩ = some (.int .i64 t.m) ∧ wz.drew.cell? ⟨tb, 1, none⟩ = some (.int .i64 t.r.x) ∧ wz.drew.cell? ⟨tb, 2, none⟩ = some (.int .i64 t.r.y) ∧ wz.drew.cell? ⟨tb, 3, none⟩ = some (.int .i64 t.r.px) ∧ wz.drew.cell? ⟨tb, 4, none⟩ = some (.int .i64 t.r.py) ∧ wz.drew.cell? ⟨tb, 5, none⟩ = some (.int .i64 t.r.wd) ∧ wz.drew.cell? ⟨tb, 6, none⟩ = some (.int .i64 t.r.ht) ∧ wz.drew.cell? ⟨tb, 7, none⟩ = some (.int .i64 t.r.ms) ∧ wz.drew.cell? ⟨tb, 8, none⟩ = some (.int .i64 t.r.rr))
  (hru : (Instr.mapUpdate 71 (.map (some c)) (.int .i64 id) (thV t)).run Tryz.prog wz.drew = .ok () w2)
  (h : ∀ (f : Nat → Value), Q .normal (Rh.puts f [362, 363, 364, 365, 366, 367, 368, 369] A) w2) :
  Code.wp Tryz.prog (rreg 72) Q A wz := by
 have HSK := St.hid hsk
 have H := St.hid h
 have HRU := St.hid hru
 clear hsk h hru
 conv => arg 2; whnf
 refine Rs.wp_region (by kernel_rfl) (fun Lf a1 w1 => Hid (Rs.Sl [362, 363, 364, 365, 366, 367, 368, 369] A [(0, 362, .pointer (some ⟨gb, 0, none⟩)), (1, 363, .pointer (some ⟨gb, 0, none⟩)), (2, 364, .pointer (some ⟨gb, 0, none⟩)), (3, 365, .pointer (some ⟨gb, 0, none⟩)), (4, 366, .map (some c)), (5, 367, .pointer (some ⟨ab, 1, none⟩)), (6, 368, .int .i64 id), (7, 369, .agg #[.int .i64 t.m, .int .i64 t.r.x, .int .i64 t.r.y, .int .i64 t.r.px, .int .i64 t.r.py, .int .i64 t.r.wd, .int .i64 t.r.ht, .int .i64 t.r.ms, .int .i64 t.r.rr])] Lf a1) ∧ Hid (Lf 8 = false → w1 = wz.drew) ∧ Hid (Lf 8 = true → w1 = w2)) (by kernel_rfl) ?rs ?rg ?re
 case rs => exact ⟨Rs.Sl.start hsz rfl, St.hid (fun _ => rfl), St.hid (fun h => by cases h)⟩
 case rg =>
  intro Lf a1 w1 hI hC
  obtain ⟨cS, cB, cE⟩ := hI
  iterate 8 (refine ⟨fun hl hd K' hK => ?_, ?_⟩; rotate_left)
  refine ⟨fun hl hd K' hK => ?o8, ?_⟩
  rotate_left
  exact trivial
  case o8 =>
   have q0 := Rs.Sl.at cS 4 (Rs.dep hd 4)
   have q1 := Rs.Sl.at cS 6 (Rs.dep hd 6)
   have q2 := Rs.Sl.at cS 7 (Rs.dep hd 7)
   obtain rfl := cB.out hl
   have hru := HRU.out
   try simp only [thV] at hru
   clear hd
   go_simp
   exact hK.out _ _ ⟨Rs.Sl.skip cS rfl, St.hid (fun h => Rs.no h rfl), St.hid (fun _ => rfl)⟩
  all_goals
   have z := Rs.Sl.deps cS hd
   clear hd
   repeat (obtain ⟨_, z⟩ := z)
   have y0 := Rs.Sl.old cS e0 rfl
   have y3 := Rs.Sl.old cS e3 rfl
   have y12 := Rs.Sl.old cS e12 rfl
   have hN := Rs.late hC hl 8
   obtain rfl := cB.out hN
   obtain ⟨x0, x1, z0, z1, z2, z3, z4, z5, z6, z7, z8⟩ := HSK.out
   go_simp
   exact hK.out (a1.put (some _) _) _ ⟨Rs.Sl.put cS rfl rfl, St.hid (fun _ => rfl), cE⟩
 case re =>
  intro Lf a1 w1 hI hall
  obtain ⟨cS, cB, cE⟩ := hI
  obtain rfl := cE.out (hall 8 (by decide))
  rw [Rs.Sl.eq cS]
  exact H.out _
set_option maxHeartbeats 16000000 in
set_option maxRecDepth 100000 in
theorem rreg77_wp (Q : Exit → Act → World → Prop) (A : Act) (gb c ab tb : Nat) (id : Int) (t : Th) (wz w2 : World) (e0 : A.tmps[0]?.getD undef = .pointer (some ⟨gb, 0, none⟩)) (e3 : A.tmps[3]?.getD undef = .pointer (some ⟨ab, 0, none⟩)) (e6 : A.tmps[6]?.getD undef = .pointer (some ⟨tb, 0, none⟩)) (hsz : 403 < A.tmps.size)
  (hsk : wz.drew.cell? ⟨gb, 0, none⟩ = some (.map (some c)) ∧ wz.drew.cell? ⟨ab, 1, none⟩ = some (.int .i64 id) ∧ wz.drew.cell? ⟨tb, 0, none⟩ = some (.int .i64 t.m) ∧ wz.drew.cell? ⟨tb, 1, none⟩ = some (.int .i64 t.r.x) ∧ wz.drew.cell? ⟨tb, 2, none⟩ = some (.int .i64 t.r.y) ∧ wz.drew.cell? ⟨tb, 3, none⟩ = some (.int .i64 t.r.px) ∧ wz.drew.cell? ⟨tb, 4, none⟩ = some (.int .i64 t.r.py) ∧ wz.drew.cell? ⟨tb, 5, none⟩ = some (.int .i64 t.r.wd) ∧ wz.drew.cell? ⟨tb, 6, none⟩ = some (.int .i64 t.r.ht) ∧ wz.drew.cell? ⟨tb, 7, none⟩ = some (.int .i64 t.r.ms) ∧ wz.drew.cell? ⟨tb, 8, none⟩ = some (.int .i64 t.r.rr))
  (hru : (Instr.mapUpdate 71 (.map (some c)) (.int .i64 id) (thV t)).run Tryz.prog wz.drew = .ok () w2)
  (h : ∀ (f : Nat → Value), Q .normal (Rh.puts f [396, 397, 398, 399, 400, 401, 402, 403] A) w2) :
  Code.wp Tryz.prog (rreg 77) Q A wz := by
 have HSK := St.hid hsk
 have H := St.hid h
 have HRU := St.hid hru
 clear hsk h hru
 conv => arg 2; whnf
 refine Rs.wp_region (by kernel_rfl) (fun Lf a1 w1 => Hid (Rs.Sl [396, 397, 398, 399, 400, 401, 402, 403] A [(0, 396, .pointer (some ⟨gb, 0, none⟩)), (1, 397, .pointer (some ⟨gb, 0, none⟩)), (2, 398, .pointer (some ⟨gb, 0, none⟩)), (3, 399, .pointer (some ⟨gb, 0, none⟩)), (4, 400, .map (some c)), (5, 401, .pointer (some ⟨ab, 1, none⟩)), (6, 402, .int .i64 id), (7, 403, .agg #[.int .i64 t.m, .int .i64 t.r.x, .int .i64 t.r.y, .int .i64 t.r.px, .int .i64 t.r.py, .int .i64 t.r.wd, .int .i64 t.r.ht, .int .i64 t.r.ms, .int .i64 t.r.rr])] Lf a1) ∧ Hid (Lf 8 = false → w1 = wz.drew) ∧ Hid (Lf 8 = true → w1 = w2)) (by kernel_rfl) ?rs ?rg ?re
 case rs => exact ⟨Rs.Sl.start hsz rfl, St.hid (fun _ => rfl), St.hid (fun h => by cases h)⟩
 case rg =>
  intro Lf a1 w1 hI hC
  obtain ⟨cS, cB, cE⟩ := hI
  iterate 8 (refine ⟨fun hl hd K' hK => ?_, ?_⟩; rotate_left)
  refine ⟨fun hl hd K' hK => ?o8, ?_⟩
  rotate_left
  exact trivial
  case o8 =>
   have q0 := Rs.Sl.at cS 4 (Rs.dep hd 4)
   have q1 := Rs.Sl.at cS 6 (Rs.dep hd 6)
   have q2 := Rs.Sl.at cS 7 (Rs.dep hd 7)
   obtain rfl := cB.out hl
   have hru := HRU.out
   try simp only [thV] at hru
   clear hd
   go_simp
   exact hK.out _ _ ⟨Rs.Sl.skip cS rfl, St.hid (fun h => Rs.no h rfl), St.hid (fun _ => rfl)⟩
  all_goals
   have z := Rs.Sl.deps cS hd
   clear hd
   repeat (obtain ⟨_, z⟩ := z)
   have y0 := Rs.Sl.old cS e0 rfl
   have y3 := Rs.Sl.old cS e3 rfl
   have y6 := Rs.Sl.old cS e6 rfl
   have hN := Rs.late hC hl 8
   obtain rfl := cB.out hN
   obtain ⟨x0, x1, z0, z1, z2, z3, z4, z5, z6, z7, z8⟩ := HSK.out
   go_simp
   exact hK.out (a1.put (some _) _) _ ⟨Rs.Sl.put cS rfl rfl, St.hid (fun _ => rfl), cE⟩
 case re =>
  intro Lf a1 w1 hI hall
  obtain ⟨cS, cB, cE⟩ := hI
  obtain rfl := cE.out (hall 8 (by decide))
  rw [Rs.Sl.eq cS]
  exact H.out _
end Rf
namespace Rf
open Num St Mp Th
theorem next_new {next : Int} {L : List Tab} (hg : GoodL next L) : next ∉ allL L := by
 intro h
 obtain ⟨t, ht, hx⟩ := List.mem_flatMap.1 h
 have := (hg.2.2.2.2.1 t ht).2.2.1 next hx
 simp [btw] at this
 omega
theorem good_spawned {next mask : Int} {r : R8} {L : List Tab} (hg : GoodL next L) (hr : goodRowB mask r = true) (hl : (allL L).length < 10) (hx : next < 1048576) : GoodL (next + 1) (putT mask next r L) :=
 put_all hg (by omega) (by omega) (by omega) ⟨by have := hg.1; simp [btw] at this; omega, by omega⟩ (next_new hg) hr
theorem good_changed {next v mask m : Int} {q r : R8} {L : List Tab} (hg : GoodL next L) (hv : At L v m q) (hr : goodRowB mask r = true) : GoodL next (putT mask v r (killT v L)) := by
 obtain ⟨h1, h2, h3⟩ := kill_all hg (at_mem hv)
 have hl := h2.length_eq
 have hg2 := hg.2.1
 simp at hl
 have hb : btw v 0 (next - 1) = true := by
  obtain ⟨t, ht, _, j, hj, _⟩ := hv
  exact (hg.2.2.2.2.1 t ht).2.2.1 v (List.mem_of_getElem? hj)
 simp [btw] at hb
 refine put_all h1 (Int.le_refl _) (by have := hg.1; simp [btw] at this; omega) (by omega) ⟨by omega, by omega⟩ ?_ hr
 have hnd := h2.nodup_iff.2 hg.2.2.2.2.2
 exact (List.nodup_cons.1 hnd).1
theorem thM_of {nx : Int} {L' : List Tab} {M : Mth} (hg : GoodL nx L') (hu : Up M) (h : ∀ u m p, At L' u m p ↔ getM u M = some ⟨m, p⟩) : thM L' = M :=
 thM_ext hg.even hg.2.2.2.2.2 hu (fun k t => (h k t.m t.r).symm)
theorem thM_spawned {next mask : Int} {r : R8} {L : List Tab} (hg : GoodL next L) (hr : goodRowB mask r = true) (hl : (allL L).length < 10) (hx : next < 1048576) : thM (putT mask next r L) = putM next ⟨mask, r⟩ (thM L) := by
 refine thM_of (good_spawned hg hr hl hx) ((thM_up L).put _ _) (fun u m p => ?_)
 rw [at_put mask next r L hg.even, getM_put (thM_up L)]
 by_cases h : u = next
 ·subst h
  rw [if_pos rfl]
  constructor
  ·rintro (⟨_, rfl, rfl⟩ | h1)
   ·rfl
   ·exact absurd (at_mem h1) (next_new hg)
  ·intro e; cases e; exact Or.inl ⟨rfl, rfl, rfl⟩
 ·rw [if_neg h, thM_get hg.even hg.2.2.2.2.2]
  constructor
  ·rintro (⟨h1, _⟩ | h1)
   ·exact absurd h1 h
   ·exact h1
  ·exact Or.inr
theorem thM_killed {next v : Int} {L : List Tab} (hg : GoodL next L) (hv : v ∈ allL L) : thM (killT v L) = delM v (thM L) := by
 obtain ⟨h1, h2, h3⟩ := kill_all hg hv
 refine thM_of h1 ((thM_up L).del _) (fun u m p => ?_)
 rw [h3, getM_del (thM_up L)]
 by_cases h : u = v
 ·simp [h]
 ·rw [if_neg h, thM_get hg.even hg.2.2.2.2.2]
  exact ⟨fun h => h.2, fun h1 => ⟨h, h1⟩⟩
theorem thM_set {next v m : Int} {q r : R8} {L : List Tab} (hg : GoodL next L) (hv : At L v m q) (hr : goodRowB m r = true) : GoodL next (setL v r L) ∧ thM (setL v r L) = putM v ⟨m, r⟩ (delM v (thM L)) := by
 have hgs : GoodL next (setL v r L) := good_set hg (fun m' q' h' => by rw [(at_unique hg.2.2.2.2.2 h' hv).1]; exact hr)
 refine ⟨hgs, thM_of hgs (((thM_up L).del v).put _ _) (fun u p s => ?_)⟩
 rw [at_set hg.even, getM_put ((thM_up L).del v), getM_del (thM_up L)]
 by_cases h : u = v
 ·subst h
  rw [if_pos rfl]
  constructor
  ·rintro (⟨h1, _⟩ | ⟨_, rfl, p', h1⟩)
   ·exact absurd rfl h1
   ·rw [(at_unique hg.2.2.2.2.2 h1 hv).1]
  ·intro e; cases e; exact Or.inr ⟨rfl, rfl, q, hv⟩
 ·rw [if_neg h, if_neg h, thM_get hg.even hg.2.2.2.2.2]
  constructor
  ·rintro (⟨_, h1⟩ | ⟨h1, _⟩)
   ·exact h1
   ·exact absurd h1 h
  ·intro h1; exact Or.inl ⟨h, h1⟩
theorem thM_changed {next v mask m : Int} {q r : R8} {L : List Tab} {M : Mth} (hg : GoodL next L) (hv : At L v m q) (hr : goodRowB mask r = true) (hu : Up M) (hM : ∀ u, u ≠ v → getM u M = getM u (thM L)) : thM (putT mask v r (killT v L)) = putM v ⟨mask, r⟩ M := by
 obtain ⟨h1, h2, h3⟩ := kill_all hg (at_mem hv)
 refine thM_of (good_changed hg hv hr) (hu.put _ _) (fun u p s => ?_)
 rw [at_put mask v r _ h1.even, h3, getM_put hu]
 by_cases h : u = v
 ·subst h
  rw [if_pos rfl]
  constructor
  ·rintro (⟨_, rfl, rfl⟩ | ⟨h1, _⟩)
   ·rfl
   ·exact absurd rfl h1
  ·intro e; cases e; exact Or.inl ⟨rfl, rfl, rfl⟩
 ·rw [if_neg h, hM u h, thM_get hg.even hg.2.2.2.2.2]
  constructor
  ·rintro (⟨h1, _⟩ | ⟨_, h1⟩)
   ·exact absurd h1 h
   ·exact h1
  ·intro h1; exact Or.inr ⟨h, h1⟩
end Rf
namespace Rf
open Num St Mp Th Wd Gm Ws
open Go.ChangeShapes Go.WideShapes Go.ChangeAt Go.RowKit
def kf (t : Th) (row : R8) (x y : Bool) (i : Nat) : Value := if i = 3 then (if x then .int .i64 (ad t.r.px row.px 16777216) else .int .i64 t.r.px) else if i = 4 then (if y then .int .i64 (ad t.r.py row.py 16777216) else .int .i64 t.r.py) else (thCells t).getD i undef
theorem kf_start (t : Th) (row : R8) (i : Nat) (hi : i < 9) : (thCells t).getD i undef = kf t row false false i := by
 match i, hi with
 | 0, _ => rfl
 | 1, _ => rfl
 | 2, _ => rfl
 | 3, _ => rfl
 | 4, _ => rfl
 | 5, _ => rfl
 | 6, _ => rfl
 | 7, _ => rfl
 | 8, _ => rfl
theorem kf_x (t : Th) (row : R8) (x y : Bool) (i : Nat) : (if i = 3 then Value.int .i64 (ad t.r.px row.px 16777216) else kf t row x y i) = kf t row true y i := by
 unfold kf
 by_cases h : i = 3 <;> simp [h]
theorem kf_y (t : Th) (row : R8) (x y : Bool) (i : Nat) : (if i = 4 then Value.int .i64 (ad t.r.py row.py 16777216) else kf t row x y i) = kf t row x true i := by
 unfold kf
 by_cases h : i = 4 <;> simp [h]
theorem kf_end (t : Th) (row : R8) (i : Nat) (hi : i < 9) : kf t row true true i = (thCells ⟨t.m, kickR t.r row⟩).getD i undef := by
 match i, hi with
 | 0, _ => rfl
 | 1, _ => rfl
 | 2, _ => rfl
 | 3, _ => rfl
 | 4, _ => rfl
 | 5, _ => rfl
 | 6, _ => rfl
 | 7, _ => rfl
 | 8, _ => rfl
attribute [local go_sem ↓] Go.wp_at_zero Go.wp_at_succ
set_option maxHeartbeats 16000000 in
set_option maxRecDepth 100000 in
theorem rreg76_wp (Q : Exit → Act → World → Prop) (A : Act) (ab tb : Nat) (t : Th) (row : R8) (wz : World) (e3 : A.tmps[3]?.getD undef = .pointer (some ⟨ab, 0, none⟩)) (e6 : A.tmps[6]?.getD undef = .pointer (some ⟨tb, 0, none⟩)) (hsz : 395 < A.tmps.size)
  (hsk : ∀ W, wz.grownBy W (some tb) → W.cell? ⟨ab, 6, none⟩ = some (.int .i64 row.px) ∧ W.cell? ⟨ab, 7, none⟩ = some (.int .i64 row.py))
  (hrt : wz.rowIs tb 105 9 (fun i => (thCells t).getD i undef))
  (h : ∀ (f : Nat → Value) (W : World), wz.grownBy W (some tb) → W.rowIs tb 105 9 (fun i => (thCells ⟨t.m, kickR t.r row⟩).getD i undef) → Q .normal (Rh.puts f [378, 379, 380, 381, 382, 383, 384, 385, 386, 387, 388, 389, 390, 391, 392, 393, 394, 395] A) W) :
  Code.wp Tryz.prog (rreg 76) Q A wz := by
 have HSK := St.hid hsk
 have HRT := St.hid hrt
 have H := St.hid h
 clear hsk hrt h
 conv => arg 2; whnf
 refine Rs.wp_region (by kernel_rfl) (fun Lf a1 w1 => Hid (Rs.Sl [378, 379, 380, 381, 382, 383, 384, 385, 386, 387, 388, 389, 390, 391, 392, 393, 394, 395] A [(0, 378, .pointer (some ⟨tb, 1, none⟩)), (1, 379, .pointer (some ⟨tb, 3, none⟩)), (2, 380, .int .i64 t.r.px), (3, 381, .pointer (some ⟨ab, 4, none⟩)), (4, 382, .pointer (some ⟨ab, 6, none⟩)), (5, 383, .int .i64 row.px), (6, 384, .int .i64 (ad t.r.px row.px 16777216)), (7, 385, .pointer (some ⟨tb, 1, none⟩)), (8, 386, .pointer (some ⟨tb, 4, none⟩)), (9, 387, .int .i64 t.r.py), (10, 388, .pointer (some ⟨ab, 4, none⟩)), (11, 389, .pointer (some ⟨ab, 7, none⟩)), (12, 390, .int .i64 row.py), (13, 391, .int .i64 (ad t.r.py row.py 16777216)), (14, 392, .pointer (some ⟨tb, 1, none⟩)), (15, 393, .pointer (some ⟨tb, 3, none⟩)), (17, 394, .pointer (some ⟨tb, 1, none⟩)), (18, 395, .pointer (some ⟨tb, 4, none⟩))] Lf a1) ∧ Hid (wz.grownBy w1 (some tb)) ∧ Hid (w1.rowIs tb 105 9 (kf t row (Lf 16) (Lf 19)))) (by kernel_rfl) ?rs ?rg ?re
 case rs => exact ⟨Rs.Sl.start hsz rfl, St.hid (Wd.grown_refl _ _ |> fun h => ⟨h.os, h.tape, h.output, h.size, h.block⟩), St.hid ((rowIs_below HRT.out (Below.drew (Below.refl _ _))).congr (fun i hi => kf_start t row i hi))⟩
 case rg =>
  intro Lf a1 w1 hI hC
  obtain ⟨cS, cG, cR⟩ := hI
  iterate 2 (refine ⟨fun hl hd K' hK => ?_, ?_⟩; rotate_left)
  refine ⟨fun hl hd K' hK => ?o2, ?_⟩
  rotate_left
  iterate 6 (refine ⟨fun hl hd K' hK => ?_, ?_⟩; rotate_left)
  refine ⟨fun hl hd K' hK => ?o9, ?_⟩
  rotate_left
  iterate 6 (refine ⟨fun hl hd K' hK => ?_, ?_⟩; rotate_left)
  refine ⟨fun hl hd K' hK => ?o16, ?_⟩
  rotate_left
  iterate 2 (refine ⟨fun hl hd K' hK => ?_, ?_⟩; rotate_left)
  refine ⟨fun hl hd K' hK => ?o19, ?_⟩
  rotate_left
  exact trivial
  case o2 =>
   have q0 := Rs.Sl.at cS 1 (Rs.dep hd 1)
   have x3 := cR.out.cell (i := 3) (by omega)
   rw [Rs.late hC hl 16] at x3
   simp [kf] at x3
   clear hd
   go_simp
   exact hK.out (a1.put (some _) _) _ ⟨Rs.Sl.put cS rfl rfl, cG, cR⟩
  case o9 =>
   have q0 := Rs.Sl.at cS 8 (Rs.dep hd 8)
   have x3 := cR.out.cell (i := 4) (by omega)
   rw [Rs.late hC hl 19] at x3
   simp [kf] at x3
   clear hd
   go_simp
   exact hK.out (a1.put (some _) _) _ ⟨Rs.Sl.put cS rfl rfl, cG, cR⟩
  case o16 =>
   have q0 := Rs.Sl.at cS 15 (Rs.dep hd 15)
   have q1 := Rs.Sl.at cS 6 (Rs.dep hd 6)
   have x0 := cR.out.cell (i := 3) (by omega)
   have f0 := cR.out.frozen 3
   have hlt := cR.out.lt
   clear hd e3 e6
   go_simp
   exact hK.out _ _ ⟨Rs.Sl.skip cS rfl, St.hid (cG.out.trans (grown_set _ _ _ _)), St.hid ((cR.out.set 3 _).congr (fun i _ => kf_x t row _ _ i))⟩
  case o19 =>
   have q0 := Rs.Sl.at cS 18 (Rs.dep hd 18)
   have q1 := Rs.Sl.at cS 13 (Rs.dep hd 13)
   have x0 := cR.out.cell (i := 4) (by omega)
   have f0 := cR.out.frozen 4
   have hlt := cR.out.lt
   clear hd e3 e6
   go_simp
   exact hK.out _ _ ⟨Rs.Sl.skip cS rfl, St.hid (cG.out.trans (grown_set _ _ _ _)), St.hid ((cR.out.set 4 _).congr (fun i _ => kf_y t row _ _ i))⟩
  all_goals
   have z := Rs.Sl.deps cS hd
   clear hd
   repeat (obtain ⟨_, z⟩ := z)
   have y3 := Rs.Sl.old cS e3 rfl
   have y6 := Rs.Sl.old cS e6 rfl
   obtain ⟨z0, z1⟩ := HSK.out _ cG.out
   go_simp
   try (refine (addOf_any _ _ _ (by decide) (by decide) _).mono ?_; rintro e w2 ⟨rfl, hw2⟩; subst hw2; go_simp)
   exact hK.out (a1.put (some _) _) _ ⟨Rs.Sl.put cS rfl rfl, cG, cR⟩
 case re =>
  intro Lf a1 w1 hI hall
  obtain ⟨cS, cG, cR⟩ := hI
  have hr := cR.out
  rw [hall 16 (by decide), hall 19 (by decide)] at hr
  rw [Rs.Sl.eq cS]
  exact H.out _ w1 cG.out (hr.congr (fun i hi => kf_end t row i hi))
end Rf
end Go.Proofs.YtckkkdldljhehacGreat
