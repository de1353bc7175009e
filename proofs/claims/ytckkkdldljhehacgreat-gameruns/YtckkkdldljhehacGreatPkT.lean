/- Part of the proofs of GamePlays and GameRuns (package ninepinslaw): contracts of the functions that they call. -/
import Derived.Deep.RegionHeld3
import Derived.Deep.DeepFit
import Derived.Deep.DeepCutAuto
import Derived.Test.YtckkkdldljhehacGreatPkQ
import Derived.Test.YtckkkdldljhehacGreatPkS
namespace Go.Proofs.YtckkkdldljhehacGreat
namespace Gm
open Num St Wd
open Go.ChangeShapes Go.WideShapes Go.ChangeAt Go.RowKit
structure Kept (F : Nat → Prop) (w w' : World) : Prop where
 os : w'.os = w.os
 tape : w'.tape = w.tape
 output : w'.output = w.output
 size : w.heap.size ≤ w'.heap.size
 block : ∀ k, k < w.heap.size → ¬ F k → w'.heap[k]? = w.heap[k]?
theorem Kept.below {F : Nat → Prop} {w w' : World} (h : Below w.heap.size w w') : Kept F w w' := ⟨h.os, h.tape, h.output, h.size, fun k hk _ => h.block k hk⟩
theorem Kept.trans {F F' : Nat → Prop} {a b c : World} (h : Kept F a b) (h' : Kept F' b c) (hF : ∀ z, F' z → F z ∨ a.heap.size ≤ z) : Kept F a c :=
 ⟨h'.os.trans h.os, h'.tape.trans h.tape, h'.output.trans h.output, Nat.le_trans h.size h'.size, fun k hk hn => (h'.block k (Nat.lt_of_lt_of_le hk h.size) (fun hc => (hF k hc).elim hn (fun h => absurd hk (by omega)))).trans (h.block k hk hn)⟩
theorem Kept.call {F : Nat → Prop} {a b c : World} (h : Kept F a b) (h' : Below b.heap.size b c) : Kept F a c := h.trans (Kept.below (F := F) h') (fun _ hz => Or.inl hz)
theorem Kept.set {F : Nat → Prop} {a b : World} (h : Kept F a b) {g : Nat} (hg : F g ∨ a.heap.size ≤ g) (o : Nat) (u : Value) : Kept F a (b.setCell ⟨g, o, none⟩ u) :=
 ⟨h.os, h.tape, h.output, by simpa [World.setCell] using h.size, fun k hk hn => (Below.heap_setCell _ _ _ _ (fun e => by have e : k = g := e; rcases hg with hg | hg; exact hn (e ▸ hg); omega)).trans (h.block k hk hn)⟩
theorem Kept.drew {F : Nat → Prop} {a b : World} (h : Kept F a b) : Kept F a b.drew := ⟨h.os, h.tape, h.output, h.size, h.block⟩
theorem Kept.wide {F F' : Nat → Prop} {a b : World} (h : Kept F a b) (hF : ∀ z, F z → F' z) : Kept F' a b := ⟨h.os, h.tape, h.output, h.size, fun k hk hn => h.block k hk (fun hc => hn (hF k hc))⟩
theorem Kept.to_below {F : Nat → Prop} {a b : World} (h : Kept F a b) {n : Nat} (hn : n ≤ a.heap.size) (hF : ∀ z, F z → n ≤ z) : Below n a b := ⟨h.os, h.tape, h.output, h.size, fun k hk => h.block k (by omega) (fun hc => by have := hF k hc; omega)⟩
theorem Kept.grown {F : Nat → Prop} {a b c : World} {o : Option Nat} (h : Kept F a b) (hg : b.grownBy c o) (ho : ∀ z, o = some z → F z ∨ a.heap.size ≤ z) : Kept F a c :=
 ⟨hg.os.trans h.os, hg.tape.trans h.tape, hg.output.trans h.output, Nat.le_trans h.size hg.size, fun k hk hn => (hg.block k (Nat.lt_of_lt_of_le hk h.size) (fun e => by rcases ho k e.symm with h1 | h1; exact hn h1; omega)).trans (h.block k hk hn)⟩
theorem rowIs_kept {F : Nat → Prop} {w w' : World} {b n : Nat} {t : TypeId} {f : Nat → Value} (h : w.rowIs b t n f) (hk : Kept F w w') (hb : ¬ F b) : w'.rowIs b t n f := h.of_block (hk.block b h.lt hb)
theorem owns_kept' {F : Nat → Prop} {w w' : World} {B size n : Nat} {e : TypeId} {v : Value} {xs : List Value} (h : w.ownsRow B e size v n xs) (hk : Kept F w w') (hv : ∀ z, v.ownBlock = some z → ¬ F z) : w'.ownsRow B e size v n xs :=
 ownsRow_same h (fun g hg => hk.block g (h.lt g hg).2 (hv g hg))
theorem Sto.kept {F G : Nat → Prop} {w w' : World} {v : Value} {L : List Tab} (h : Sto w G v L) (hk : Kept F w w') (hG : ∀ z, G z → ¬ F z) : Sto w' G v L := h.keep hk.size (fun b hb => hk.block b (h.lt hb) (hG b hb))
def gcell (v : Value) (x : Wp) (vs : Value) (acts : Nat) (i : Nat) : Value := if i = 0 then v else if i = 1 then .int .i64 x.next else if i = 2 then .int .i64 x.fall else if i = 3 then .int .i64 x.wide else if i = 4 then .int .i64 x.high else if i = 5 then vs else .int .i64 acts
theorem gcells {W : World} {b : Nat} {v vs : Value} {x : Wp} {acts : Nat} (h : W.rowIs b 84 7 (gcell v x vs acts)) : W.cell? ⟨b, 0, none⟩ = some v ∧ W.cell? ⟨b, 1, none⟩ = some (.int .i64 x.next) ∧ W.cell? ⟨b, 2, none⟩ = some (.int .i64 x.fall) ∧ W.cell? ⟨b, 3, none⟩ = some (.int .i64 x.wide) ∧ W.cell? ⟨b, 4, none⟩ = some (.int .i64 x.high) ∧ W.cell? ⟨b, 5, none⟩ = some vs ∧ W.cell? ⟨b, 6, none⟩ = some (.int .i64 acts) :=
 ⟨h.cell (i := 0) (by omega), h.cell (i := 1) (by omega), h.cell (i := 2) (by omega), h.cell (i := 3) (by omega), h.cell (i := 4) (by omega), h.cell (i := 5) (by omega), h.cell (i := 6) (by omega)⟩
theorem gfrozen {W : World} {b : Nat} {f : Nat → Value} (h : W.rowIs b 84 7 f) : W.frozen? ⟨b, 0, none⟩ = false ∧ W.frozen? ⟨b, 1, none⟩ = false ∧ W.frozen? ⟨b, 2, none⟩ = false ∧ W.frozen? ⟨b, 3, none⟩ = false ∧ W.frozen? ⟨b, 4, none⟩ = false ∧ W.frozen? ⟨b, 5, none⟩ = false ∧ W.frozen? ⟨b, 6, none⟩ = false :=
 ⟨h.frozen 0, h.frozen 1, h.frozen 2, h.frozen 3, h.frozen 4, h.frozen 5, h.frozen 6⟩
def saveCells (l : List (Value × Wp)) : List Value := l.flatMap fun p => [p.1, .int .i64 p.2.next, .int .i64 p.2.fall, .int .i64 p.2.wide, .int .i64 p.2.high]
structure GamP (W : World) (F : Nat → Prop) (b : Nat) (s : Gp) (v vs : Value) (sv : List Value) (Fs : Nat → Prop) : Prop where
 row : W.rowIs b 84 7 (gcell v s.now vs s.acts)
 svs : W.ownsRow 0 45 5 vs s.saves.length (saveCells (sv.zip s.saves))
 len : sv.length = s.saves.length
 now : Sto W Fs v s.now.L
 all : ∀ (i : Nat) u x, sv[i]? = some u → s.saves[i]? = some x → Sto W Fs u x.L
 inF : ∀ z, Fs z → F z ∧ z ≠ b
 own : F b
 sep : ∀ z, vs.ownBlock = some z → F z ∧ z ≠ b ∧ ¬ Fs z
 lt : ∀ z, F z → z < W.heap.size
def Gam (W : World) (F : Nat → Prop) (b : Nat) (s : Gp) : Prop := ∃ v vs sv Fs, GamP W F b s v vs sv Fs
theorem GamP.below {W W' : World} {F : Nat → Prop} {b : Nat} {s : Gp} {v vs : Value} {sv : List Value} {Fs : Nat → Prop} (h : GamP W F b s v vs sv Fs) (hb : Below W.heap.size W W') : GamP W' F b s v vs sv Fs :=
 ⟨rowIs_below h.row hb, owns_below h.svs hb, h.len, h.now.below hb, fun i u x h1 h2 => (h.all i u x h1 h2).below hb, h.inF, h.own, h.sep, fun z hz => Nat.lt_of_lt_of_le (h.lt z hz) hb.size⟩
theorem Gam.below {W W' : World} {F : Nat → Prop} {b : Nat} {s : Gp} (h : Gam W F b s) (hb : Below W.heap.size W W') : Gam W' F b s := by
 obtain ⟨v, vs, sv, Fs, h⟩ := h
 exact ⟨v, vs, sv, Fs, h.below hb⟩
theorem GamP.kept {W W' : World} {F G : Nat → Prop} {b : Nat} {s : Gp} {v vs : Value} {sv : List Value} {Fs : Nat → Prop} (h : GamP W F b s v vs sv Fs) (hk : Kept G W W') (hd : ∀ z, F z → ¬ G z) : GamP W' F b s v vs sv Fs :=
 ⟨rowIs_kept h.row hk (hd b h.own), owns_kept' h.svs hk (fun z hz => hd z (h.sep z hz).1), h.len, Sto.kept h.now hk (fun z hz => hd z (h.inF z hz).1), fun i u x h1 h2 => Sto.kept (h.all i u x h1 h2) hk (fun z hz => hd z (h.inF z hz).1), h.inF, h.own, h.sep, fun z hz => Nat.lt_of_lt_of_le (h.lt z hz) hk.size⟩
theorem Gam.kept {W W' : World} {F G : Nat → Prop} {b : Nat} {s : Gp} (h : Gam W F b s) (hk : Kept G W W') (hd : ∀ z, F z → ¬ G z) : Gam W' F b s := by
 obtain ⟨v, vs, sv, Fs, h⟩ := h
 exact ⟨v, vs, sv, Fs, h.kept hk hd⟩
theorem Gam.lt {W : World} {F : Nat → Prop} {b : Nat} {s : Gp} (h : Gam W F b s) {z : Nat} (hz : F z) : z < W.heap.size := by
 obtain ⟨v, vs, sv, Fs, h⟩ := h
 exact h.lt z hz
theorem Gam.own {W : World} {F : Nat → Prop} {b : Nat} {s : Gp} (h : Gam W F b s) : F b := by
 obtain ⟨v, vs, sv, Fs, h⟩ := h
 exact h.own
theorem GamP.setNow {W : World} {F F2 : Nat → Prop} {b : Nat} {s : Gp} {v vs : Value} {sv : List Value} {Fs : Nat → Prop} (h : GamP W F b s v vs sv Fs) {u : Value} {L : List Tab} (hu : Sto W F2 u L) (hF2 : ∀ z, F2 z → Fs z ∨ ¬ F z) (next : Int) :
  Gam ((W.setCell ⟨b, 0, none⟩ u).setCell ⟨b, 1, none⟩ (.int .i64 next)) (fun z => F z ∨ F2 z) b { s with now := { s.now with L := L, next := next } } := by
 have hb2 : ∀ z, F2 z → z ≠ b := fun z hz e => by
  rcases hF2 z hz with h1 | h1
  ·exact (h.inF z h1).2 e
  ·exact h1 (e ▸ h.own)
 have hg : W.grownBy ((W.setCell ⟨b, 0, none⟩ u).setCell ⟨b, 1, none⟩ (.int .i64 next)) (some b) := (grown_set _ _ _ _).trans (grown_set _ _ _ _)
 have hs0 : Sto ((W.setCell ⟨b, 0, none⟩ u).setCell ⟨b, 1, none⟩ (.int .i64 next)) (fun z => Fs z ∨ F2 z) u L := grown_keep (hu.wide (fun z hz => Or.inr hz) (fun z hz => hz.elim (fun h1 => h.now.lt h1) (fun h1 => hu.lt h1))) hg (fun hc => hc.elim (fun h1 => (h.inF b h1).2 rfl) (fun h1 => hb2 b h1 rfl))
 refine ⟨u, vs, sv, fun z => Fs z ∨ F2 z, ⟨?_, ?_, h.len, hs0, fun i q x h1 h2 => ?_, ?_, Or.inl h.own, ?_, ?_⟩⟩
 ·refine ((h.row.set 0 u).set 1 (.int .i64 next)).congr (fun i hi => ?_)
  match i, hi with
  | 0, _ => rfl
  | 1, _ => rfl
  | 2, _ => rfl
  | 3, _ => rfl
  | 4, _ => rfl
  | 5, _ => rfl
  | 6, _ => rfl
 ·exact owns_kept h.svs hg (fun z hz e => by cases e; exact (h.sep b hz).2.1 rfl)
 ·exact grown_keep ((h.all i q x h1 h2).wide (fun z hz => Or.inl hz) (fun z hz => hz.elim (fun h1 => h.now.lt h1) (fun h1 => hu.lt h1))) hg (fun hc => hc.elim (fun h1 => (h.inF b h1).2 rfl) (fun h1 => hb2 b h1 rfl))
 ·intro z hz
  rcases hz with h1 | h1
  ·exact ⟨Or.inl (h.inF z h1).1, (h.inF z h1).2⟩
  ·exact ⟨Or.inr h1, hb2 z h1⟩
 ·intro z hz
  have h1 := h.sep z hz
  refine ⟨Or.inl h1.1, h1.2.1, fun hc => hc.elim h1.2.2 (fun h2 => ?_)⟩
  rcases hF2 z h2 with h3 | h3
  ·exact h1.2.2 h3
  ·exact h3 h1.1
 ·intro z hz
  have hs : ((W.setCell ⟨b, 0, none⟩ u).setCell ⟨b, 1, none⟩ (.int .i64 next)).heap.size = W.heap.size := by simp [World.setCell]
  rw [hs]
  exact hz.elim (h.lt z) (fun h1 => hu.lt h1)
end Gm
namespace Gm
open Num St Wd
open Go.ChangeShapes Go.WideShapes Go.ChangeAt Go.RowKit
theorem ghas_any (n a : Int) (w : World) : Calls Tryz.prog 64 #[.int .i64 n, .int .i64 a] w fun e w' => e = .returned (.bool (hasB n a)) ∧ w' = w := by
 go_enter Tryz.func64, Tryz.ntmps64
 go_wp2
 go_ret
 exact ⟨St.ret_bool rfl, rfl⟩
theorem onePart_any (m : Int) (w : World) : Calls Tryz.prog 63 #[.int .i64 m] w fun e w' => e = .returned (.bool (oneB m)) ∧ w' = w := by
 by_cases h1 : 0 < m
 ·by_cases h2 : m ≤ 31
  ·go_enter Tryz.func63, Tryz.ntmps63
   go_wp2
   go_ret
   refine ⟨St.ret_bool ?_, rfl⟩
   unfold oneB
   have e : wrap64 (m - 1) = m - 1 := by unfold wrap64; omega
   simp [h1, h2, e]
  ·go_enter Tryz.func63, Tryz.ntmps63
   go_wp2
   go_ret
   exact ⟨St.ret_bool (by unfold oneB; simp; intros; omega), rfl⟩
 ·go_enter Tryz.func63, Tryz.ntmps63
  go_wp2
  go_ret
  exact ⟨St.ret_bool (by unfold oneB; simp; intros; omega), rfl⟩
set_option maxHeartbeats 1000000 in
set_option maxRecDepth 100000 in
theorem copied_any {F : Nat → Prop} {v : Value} {L : List Tab} {w : World} (next fall wide high : Int) (h : Sto w F v L) :
  Calls Tryz.prog 42 #[.agg #[v, .int .i64 next, .int .i64 fall, .int .i64 wide, .int .i64 high]] w fun e w' =>
   (∃ a n c, e = .returned (.agg #[.slice a n c, .int .i64 next, .int .i64 fall, .int .i64 wide, .int .i64 high]) ∧ ∃ F', Sto w' F' (.slice a n c) L ∧ ∀ b, F' b → w.heap.size ≤ b) ∧ Below w.heap.size w w' := by
 obtain ⟨a, n, cap, rfl⟩ := h.one
 have HST := St.hid h
 clear h
 go_enter Tryz.func42, Tryz.ntmps42
 go_wp2_with fail
 have hW0 := St.hid ((rowIs5 w (.slice a n cap) next fall wide high 45).alloc (.cells #[.slice none 0 0, .int .i64 0, .int .i64 0, .int .i64 0, .int .i64 0] 45))
 have hR0 := St.hid (rowIs5 (w.alloc (.cells #[.slice a n cap, .int .i64 next, .int .i64 fall, .int .i64 wide, .int .i64 high] 45)) (.slice none 0 0) 0 0 0 0 45)
 rw [World.size_alloc] at hR0
 refine ((HST.out.below (bal (bal (Below.refl _ _) _) _)).clone next).mono ?_
 rintro e w1 ⟨⟨a1, n1, c1, rfl, F1, hs1, hF1⟩, hb1⟩
 have hW1 := St.hid (rowIs_below hW0.out hb1)
 have hR1 := St.hid (rowIs_below hR0.out hb1)
 have HB1 := St.hid (bcall (bal (bal (Below.refl _ w) _) _) hb1)
 have HF1 : Hid (∀ b, F1 b → w.heap.size + 1 + 1 ≤ b) := St.hid (fun b hb => by have := hF1 b hb; simpa using this)
 have HS1 := St.hid hs1
 have hz1 := hb1.size
 simp at hz1
 clear hb1 hs1 hF1 hW0 hR0
 obtain ⟨x0, x1, x2, x3, x4, xf0, xf1, xf2, xf3, xf4⟩ := wcells hW1.out
 obtain ⟨y0, y1, y2, y3, y4, yf0, yf1, yf2, yf3, yf4⟩ := wcells hR1.out
 go_wp2_with fail
 refine bodyPost_ret (v := .agg #[.slice a1 n1 c1, .int .i64 next, .int .i64 fall, .int .i64 wide, .int .i64 high]) (by simp [results, Tryz.results42, go_sem, y0, y1, y2, y3, y4]) rfl ⟨⟨a1, n1, c1, rfl, F1, ?_, fun b hb => by have := HF1.out b hb; omega⟩, ?_⟩
 ·have hno : ¬ F1 w.heap.size := fun hc => by have := HF1.out _ hc; omega
  have hno1 : ¬ F1 (w.heap.size + 1) := fun hc => by have := HF1.out _ hc; omega
  exact (((((((HS1.out.setCell hno _ _).setCell hno _ _).setCell hno1 _ _).setCell hno1 _ _).setCell hno1 _ _).setCell hno1 _ _).setCell hno1 _ _)
 ·iterate 5 refine Below.setCell ?_ (by simp) _
  iterate 2 refine Below.setCell ?_ (by simp) _
  exact HB1.out
theorem grown4 (W : World) (b : Nat) (c n u m : Value) : W.grownBy ((((W.setCell ⟨b, 0, none⟩ c).setCell ⟨b, 1, none⟩ n).setCell ⟨b, 2, none⟩ u).setCell ⟨b, 3, none⟩ m) (some b) :=
 (((grown_set W b _ _).trans (grown_set _ b _ _)).trans (grown_set _ b _ _)).trans (grown_set _ b _ _)
theorem Gam.grown {W W' : World} {F : Nat → Prop} {b : Nat} {s : Gp} (h : Gam W F b s) {g : Nat} (hg : W.grownBy W' (some g)) (hn : ¬ F g) : Gam W' F b s :=
 h.kept (G := fun z => z = g) ⟨hg.os, hg.tape, hg.output, hg.size, fun k hk hne => hg.block k hk (fun e => hne (by cases e; rfl))⟩ (fun z hz e => hn (e ▸ hz))
theorem kept_grown {F : Nat → Prop} {a b c : World} {g : Nat} (h : Kept F a b) (hg : b.grownBy c (some g)) (ho : a.heap.size ≤ g) : Kept F a c := h.grown hg (fun z e => by cases e; exact Or.inr ho)
set_option maxHeartbeats 2000000 in
set_option maxRecDepth 100000 in
theorem become_any {F F2 : Nat → Prop} {b : Nat} {s : Gp} {v vs : Value} {sv : List Value} {Fs : Nat → Prop} {w : World} (hG : GamP w F b s v vs sv Fs) {a : Option Addr} {n c : Nat} {L : List Tab} (hs : Sto w F2 (.slice a n c) L) (hF2 : ∀ z, F2 z → Fs z ∨ ¬ F z) (next ec : Int) :
  Calls Tryz.prog 32 #[.pointer (some ⟨b, 0, none⟩), .agg #[.slice a n c, .int .i64 next], .int .i64 ec] w fun e w' =>
   e = .returned (.agg #[.int .i64 ec, .int .i64 0, .slice none 0 0, .slice none 0 0]) ∧ (∃ F', Gam w' F' b (if ec = 0 then { s with now := { s.now with L := L, next := next } } else s) ∧ ∀ z, F' z → F z ∨ F2 z) ∧ Kept F w w' := by
 have HG := St.hid hG
 have HS := St.hid hs
 have hbz := hG.lt b hG.own
 clear hG hs
 have hR0 := St.hid (Rp.rowIs4 (w.alloc (.cells #[.slice a n c, .int .i64 next] 43)) 0 0 (.slice none 0 0) (.slice none 0 0) 31)
 rw [World.size_alloc] at hR0
 have HB0 := St.hid (bal (bal (Below.refl _ w) (.cells #[.slice a n c, .int .i64 next] 43)) (.cells #[.int .i64 0, .int .i64 0, .slice none 0 0, .slice none 0 0] 31))
 by_cases he : ec = 0
 ·subst he
  go_enter Tryz.func32, Tryz.ntmps32
  obtain ⟨x0, x1, x2, x3, x4, x5, x6⟩ := gcells HG.out.row
  obtain ⟨f0, f1, f2, f3, f4, f5, f6⟩ := gfrozen HG.out.row
  go_wp2_with fail
  have hbne1 : ¬ (w.heap.size + 1 = b) := by omega
  have hbne0 : ¬ (w.heap.size = b) := by omega
  refine bodyPost_ret (v := .agg #[.int .i64 0, .int .i64 0, .slice none 0 0, .slice none 0 0]) (by simp [results, Tryz.results32, go_sem]) rfl ⟨rfl, ?_, ?_⟩
  ·exact ⟨fun z => F z ∨ F2 z, (HG.out.setNow HS.out hF2 next).below (bal (bal (Below.refl _ _) _) _), fun z hz => hz⟩
  ·exact (((Kept.below (F := F) (Below.refl _ w)).set (Or.inl HG.out.own) _ _).set (Or.inl HG.out.own) _ _).call (bal (bal (Below.refl _ _) _) _)
 ·have b1 : (ec != 0) = true := by simpa using he
  go_enter Tryz.func32, Tryz.ntmps32
  go_wp2_with fail
  refine (refused_any ec _).mono ?_
  rintro e w1 ⟨rfl, hb1⟩
  have hR1 := St.hid (rowIs_below hR0.out hb1)
  have HB1 := St.hid (bcall HB0.out hb1)
  have hz1 := hb1.size
  simp at hz1
  clear hb1
  obtain ⟨y0, y1, y2, y3⟩ := Rp.rcells hR1.out
  have g0 := hR1.out.frozen 0
  have g1 := hR1.out.frozen 1
  have g2 := hR1.out.frozen 2
  have g3 := hR1.out.frozen 3
  go_wp2_with fail
  refine bodyPost_ret (v := .agg #[.int .i64 ec, .int .i64 0, .slice none 0 0, .slice none 0 0]) (by simp [results, Tryz.results32, go_sem, y0, y1, y2, y3]) rfl ⟨rfl, ⟨F, ?_, fun z hz => Or.inl hz⟩, ?_⟩
  ·exact Gam.grown ⟨_, _, _, _, HG.out.below HB1.out⟩ (grown4 w1 (w.heap.size + 1) _ _ _ _) (fun hc => by have := HG.out.lt _ hc; omega)
  ·exact kept_grown (Kept.below HB1.out) (grown4 w1 (w.heap.size + 1) _ _ _ _) (by omega)
set_option maxHeartbeats 1000000 in
set_option maxRecDepth 100000 in
theorem world_any {F : Nat → Prop} {b : Nat} {s : Gp} {w : World} (hG : Gam w F b s) :
  Calls Tryz.prog 17 #[.pointer (some ⟨b, 0, none⟩)] w fun e w' =>
   (∃ a n c, e = .returned (.agg #[.slice a n c, .int .i64 s.now.next, .int .i64 s.now.fall, .int .i64 s.now.wide, .int .i64 s.now.high]) ∧ ∃ F', Sto w' F' (.slice a n c) s.now.L ∧ ∀ z, F' z → w.heap.size ≤ z) ∧ Below w.heap.size w w' := by
 obtain ⟨v, vs, sv, Fs, hG⟩ := hG
 have hbz := hG.lt b hG.own
 have HN := St.hid hG.now
 obtain ⟨a, n, c, rfl⟩ := hG.now.one
 obtain ⟨x0, x1, x2, x3, x4, x5, x6⟩ := gcells hG.row
 clear hG
 have hR0 := St.hid (rowIs5 w (.slice none 0 0) 0 0 0 0 45)
 go_enter Tryz.func17, Tryz.ntmps17
 go_wp2_with fail
 refine (copied_any s.now.next s.now.fall s.now.wide s.now.high (HN.out.below (bal (Below.refl _ _) _))).mono ?_
 rintro e w1 ⟨⟨a1, n1, c1, rfl, F1, hs1, hF1⟩, hb1⟩
 have hR1 := St.hid (rowIs_below hR0.out hb1)
 have HB1 := St.hid (bcall (bal (Below.refl _ w) _) hb1)
 have HF1 : Hid (∀ b, F1 b → w.heap.size + 1 ≤ b) := St.hid (fun b hb => by have := hF1 b hb; simpa using this)
 have HS1 := St.hid hs1
 clear hb1 hs1 hF1 hR0
 obtain ⟨y0, y1, y2, y3, y4, yf0, yf1, yf2, yf3, yf4⟩ := wcells hR1.out
 go_wp2_with fail
 refine bodyPost_ret (v := .agg #[.slice a1 n1 c1, .int .i64 s.now.next, .int .i64 s.now.fall, .int .i64 s.now.wide, .int .i64 s.now.high]) (by simp [results, Tryz.results17, go_sem, y0, y1, y2, y3, y4]) rfl ⟨⟨a1, n1, c1, rfl, F1, ?_, fun b hb => by have := HF1.out b hb; omega⟩, ?_⟩
 ·exact HS1.out.put5 (b := w.heap.size) (fun hc => by have := HF1.out _ hc; omega) _ _ _ _ _
 ·exact below_grown HB1.out (grown5 w1 w.heap.size _ _ _ _ _) HB1.out.size (Nat.le_refl _)
end Gm
namespace Gm
open Num St Wd
open Go.ChangeShapes Go.WideShapes Go.ChangeAt Go.RowKit
def Post (w : World) (F : Nat → Prop) (b : Nat) (s : Gp) (c n : Int) (e : Ending) (w' : World) : Prop :=
 e = .returned (.agg #[.int .i64 c, .int .i64 n, .slice none 0 0, .slice none 0 0]) ∧ (∃ F', Gam w' F' b s ∧ ∀ z, F' z → F z ∨ w.heap.size ≤ z) ∧ Kept F w w'
theorem new_not {F F2 : Nat → Prop} {Fs : Nat → Prop} {n m : Nat} (hF : ∀ z, F z → z < n) (h : ∀ z, F2 z → m ≤ z) (hm : n ≤ m) : ∀ z, F2 z → Fs z ∨ ¬ F z := fun z hz => Or.inr (fun hc => by have := hF z hc; have := h z hz; omega)
theorem pass {p q : Prop} (h : p) (k : p → q) : q := k h
theorem rowDrew {W : World} {g n : Nat} {t : TypeId} {f : Nat → Value} (h : W.rowIs g t n f) : W.drew.rowIs g t n f := h
def zs (i : Nat) : Value := if i = 0 then .slice none 0 0 else .int .i64 0
theorem zstore (w : World) (g : Nat) (h : w.heap.size = g) : (w.alloc (.cells #[.slice none 0 0, .int .i64 0] 43)).rowIs g 43 2 zs := by
 subst h
 exact rowIs2 w (.slice none 0 0) (.int .i64 0) 43
theorem two_facts {W : World} {g : Nat} {t : TypeId} {f : Nat → Value} (h : W.rowIs g t 2 f) : W.cell? ⟨g, 0, none⟩ = some (f 0) ∧ W.cell? ⟨g, 1, none⟩ = some (f 1) ∧ W.frozen? ⟨g, 0, none⟩ = false ∧ W.frozen? ⟨g, 1, none⟩ = false ∧ g < W.heap.size :=
 ⟨h.cell (i := 0) (by omega), h.cell (i := 1) (by omega), h.frozen 0, h.frozen 1, h.lt⟩
theorem set2row {W : World} {g : Nat} {t : TypeId} {f : Nat → Value} (h : W.rowIs g t 2 f) (u v : Value) : ((W.setCell ⟨g, 0, none⟩ u).setCell ⟨g, 1, none⟩ v).rowIs g t 2 (fun i => if i = 0 then u else v) := by
 refine ((h.set 0 _).set 1 _).congr (fun i hi => ?_)
 match i, hi with
 | 0, _ => rfl
 | 1, _ => rfl
theorem put4 {W : World} {g : Nat} {f : Nat → Value} (h : W.rowIs g 31 4 f) (c n u m : Value) : ((((W.setCell ⟨g, 0, none⟩ c).setCell ⟨g, 1, none⟩ n).setCell ⟨g, 2, none⟩ u).setCell ⟨g, 3, none⟩ m).rowIs g 31 4 (fun i => if i = 0 then c else if i = 1 then n else if i = 2 then u else m) := by
 refine ((((h.set 0 c).set 1 n).set 2 u).set 3 m).congr (fun i hi => ?_)
 match i, hi with
 | 0, _ => rfl
 | 1, _ => rfl
 | 2, _ => rfl
 | 3, _ => rfl
theorem four {W : World} {g : Nat} {c n u m : Value} (h : W.rowIs g 31 4 (fun i => if i = 0 then c else if i = 1 then n else if i = 2 then u else m)) : W.cell? ⟨g, 0, none⟩ = some c ∧ W.cell? ⟨g, 1, none⟩ = some n ∧ W.cell? ⟨g, 2, none⟩ = some u ∧ W.cell? ⟨g, 3, none⟩ = some m :=
 ⟨h.cell (i := 0) (by omega), h.cell (i := 1) (by omega), h.cell (i := 2) (by omega), h.cell (i := 3) (by omega)⟩
attribute [local go_sem ↓] Go.wp_at_zero Go.wp_at_succ
set_option maxHeartbeats 4000000 in
set_option maxRecDepth 100000 in
theorem spawn_any {F : Nat → Prop} {b : Nat} {s : Gp} {w : World} (hG : Gam w F b s) (hg : GoodG s) (mask : Int) (r : R8) :
  Calls Tryz.prog 31 #[.pointer (some ⟨b, 0, none⟩), .int .i64 mask, .agg #[.int .i64 r.x, .int .i64 r.y, .int .i64 r.px, .int .i64 r.py, .int .i64 r.wd, .int .i64 r.ht, .int .i64 r.ms, .int .i64 r.rr]] w
   (Post w F b { s with now := (spawnW s.now mask r).1 } (spawnW s.now mask r).2.code (spawnW s.now mask r).2.n) := by
 obtain ⟨v, vs, sv, Fs, hG⟩ := hG
 have hbz := hG.lt b hG.own
 have HG := St.hid hG
 obtain ⟨a, n, c, rfl⟩ := hG.now.one
 have HSP : Hid (∀ W', Below w.heap.size w W' → Calls Tryz.prog 59 #[.agg #[.slice a n c, .int .i64 s.now.next], .int .i64 mask, .agg #[.int .i64 r.x, .int .i64 r.y, .int .i64 r.px, .int .i64 r.py, .int .i64 r.wd, .int .i64 r.ht, .int .i64 r.ms, .int .i64 r.rr]] W' fun e w' =>
   (∃ a n c, e = .returned (.tuple #[.agg #[.slice a n c, .int .i64 (spawnS s.now.next s.now.L mask r).2.1], .int .i64 (spawnS s.now.next s.now.L mask r).2.2.1, .int .i64 (spawnS s.now.next s.now.L mask r).2.2.2]) ∧ ∃ F', Sto w' F' (.slice a n c) (spawnS s.now.next s.now.L mask r).1 ∧ ∀ b, F' b → W'.heap.size ≤ b) ∧ Below W'.heap.size W' w') :=
  St.hid (fun W' hb => (hG.now.below hb).spawn s.now.next hg.now.l mask r)
 have HEQ : Hid ((spawnS s.now.next s.now.L mask r).2.2.2 ≠ 0 → ({ s with now := (spawnW s.now mask r).1 } : Gp) = s) := St.hid (fun hne => by
  unfold spawnW spawnS at *
  split at hne
  ·rename_i h; simp [h]
  ·split at hne
   ·rename_i h h'; simp [h, h']
   ·simp at hne)
 have HS1 : Hid ((spawnW s.now mask r).1 = { s.now with L := (spawnS s.now.next s.now.L mask r).1, next := (spawnS s.now.next s.now.L mask r).2.1 }) := St.hid rfl
 have HS2 : Hid ((spawnW s.now mask r).2.code = (spawnS s.now.next s.now.L mask r).2.2.2 ∧ (spawnW s.now mask r).2.n = (spawnS s.now.next s.now.L mask r).2.2.1) := St.hid ⟨rfl, rfl⟩
 rw [HS2.out.1, HS2.out.2]
 rw [HS1.out] at HEQ ⊢
 generalize (spawnS s.now.next s.now.L mask r).1 = L' at HSP HEQ ⊢
 generalize (spawnS s.now.next s.now.L mask r).2.1 = nx at HSP HEQ ⊢
 generalize (spawnS s.now.next s.now.L mask r).2.2.1 = id at HSP ⊢
 generalize (spawnS s.now.next s.now.L mask r).2.2.2 = ec at HSP HEQ ⊢
 obtain ⟨x0, x1, x2, x3, x4, x5, x6⟩ := gcells hG.row
 clear hG hg HS1 HS2
 go_enter Tryz.func31, Tryz.ntmps31
 go_wp2_with fail
 have hG2 := St.hid (HG.out.below (bal (bal (Below.refl _ w) (.cells #[.int .i64 r.x, .int .i64 r.y, .int .i64 r.px, .int .i64 r.py, .int .i64 r.wd, .int .i64 r.ht, .int .i64 r.ms, .int .i64 r.rr] 34)) (.cells #[.int .i64 0, .int .i64 0, .slice none 0 0, .slice none 0 0] 31)))
 have hRW := St.hid ((St.rowIs8 w r 34).alloc (.cells #[.int .i64 0, .int .i64 0, .slice none 0 0, .slice none 0 0] 31))
 have hRP := St.hid (Rp.rowIs4 (w.alloc (.cells #[.int .i64 r.x, .int .i64 r.y, .int .i64 r.px, .int .i64 r.py, .int .i64 r.wd, .int .i64 r.ht, .int .i64 r.ms, .int .i64 r.rr] 34)) 0 0 (.slice none 0 0) (.slice none 0 0) 31)
 rw [World.size_alloc] at hRP
 have HBW := St.hid (bal (bal (Below.refl _ w) (.cells #[.int .i64 r.x, .int .i64 r.y, .int .i64 r.px, .int .i64 r.py, .int .i64 r.wd, .int .i64 r.ht, .int .i64 r.ms, .int .i64 r.rr] 34)) (.cells #[.int .i64 0, .int .i64 0, .slice none 0 0, .slice none 0 0] 31))
 have hzW : ((w.alloc (.cells #[.int .i64 r.x, .int .i64 r.y, .int .i64 r.px, .int .i64 r.py, .int .i64 r.wd, .int .i64 r.ht, .int .i64 r.ms, .int .i64 r.rr] 34)).alloc (.cells #[.int .i64 0, .int .i64 0, .slice none 0 0, .slice none 0 0] 31)).heap.size = w.heap.size + 1 + 1 := by simp
 generalize (w.alloc (.cells #[.int .i64 r.x, .int .i64 r.y, .int .i64 r.px, .int .i64 r.py, .int .i64 r.wd, .int .i64 r.ht, .int .i64 r.ms, .int .i64 r.rr] 34)).alloc (.cells #[.int .i64 0, .int .i64 0, .slice none 0 0, .slice none 0 0] 31) = W at hG2 hRW hRP HBW hzW ⊢
 have HZW := St.hid hzW
 have hzw : w.heap.size + 1 < W.heap.size := by omega
 clear x0 x1 x2 x3 x4 x5 x6 hzW
 obtain ⟨x0, x1, -, -, -, -, -⟩ := gcells hG2.out.row
 obtain ⟨r0, r1, r2, r3, r4, r5, r6, r7⟩ := row8c hRW.out
 have nb : W.heap.size ≠ b := by omega
 have nr : W.heap.size ≠ w.heap.size := by omega
 have HSP1 := St.hid (fun (W' : World) (hb : Below W.heap.size W W') => HSP.out W' (bcall HBW.out hb))
 go_cut [7, 8, 9] (fun s7 s8 s9 wx => ∃ (W1 : World) (g7 : Nat) (a1 : Option Addr) (n1 c1 : Nat) (F1 : Nat → Prop), W1 = wx ∧ s7 = .pointer (some ⟨g7, 0, none⟩) ∧ s8 = .int .i64 id ∧ s9 = .int .i64 ec ∧ W1.rowIs g7 43 2 (fun i => if i = 0 then .slice a1 n1 c1 else .int .i64 nx) ∧ Sto W1 F1 (.slice a1 n1 c1) L' ∧ (∀ z, F1 z → W.heap.size ≤ z) ∧ ¬ F1 g7 ∧ Below W.heap.size W W1 ∧ W.heap.size ≤ g7)
 case first =>
  clear HG HSP HEQ hRP
  go_region_held3 (fun W' => W'.cell? ⟨b, 0, none⟩ = some (.slice a n c) ∧ W'.cell? ⟨b, 1, none⟩ = some (.int .i64 s.now.next) ∧ W'.cell? ⟨w.heap.size, 0, none⟩ = some (.int .i64 r.x) ∧ W'.cell? ⟨w.heap.size, 1, none⟩ = some (.int .i64 r.y) ∧ W'.cell? ⟨w.heap.size, 2, none⟩ = some (.int .i64 r.px) ∧ W'.cell? ⟨w.heap.size, 3, none⟩ = some (.int .i64 r.py) ∧ W'.cell? ⟨w.heap.size, 4, none⟩ = some (.int .i64 r.wd) ∧ W'.cell? ⟨w.heap.size, 5, none⟩ = some (.int .i64 r.ht) ∧ W'.cell? ⟨w.heap.size, 6, none⟩ = some (.int .i64 r.ms) ∧ W'.cell? ⟨w.heap.size, 7, none⟩ = some (.int .i64 r.rr)) (go_keep)
   (first
   | (go_at_call 59; go_fit (HSP1.out _ (by repeat (first | with_reducible exact Below.refl _ _ | with_reducible refine Below.drew ?_ | with_reducible refine bal ?_ _))); rintro e w2 ⟨⟨a1, n1, c1, rfl, F1, hs1, hF1⟩, hb⟩; have HQ1 := St.hid (bcall (by repeat (first | with_reducible exact Below.refl _ W | with_reducible refine Below.drew ?_ | with_reducible refine bal ?_ _)) hb : Below W.heap.size W w2); have HS1 := St.hid hs1; have HF1 := St.hid hF1; (try (refine pass (p := Hid (w2.rowIs W.heap.size 43 2 zs)) ?_ ?_; refine rowIs_below ?_ hb; (first | with_reducible refine zstore _ _ ?_ | (with_reducible refine rowDrew ?_; with_reducible refine zstore _ _ ?_)); rfl; intro zz; refine pass zz.out ?_; intro q; obtain ⟨q0, q1, q2, q3, q4⟩ := two_facts q)); have z2 := HQ1.out.size; clear hb hs1 hF1 x0 x1 r0 r1 r2 r3 r4 r5 r6 r7; obtain ⟨x0, x1, -, -, -, -, -⟩ := gcells (hG2.out.below HQ1.out).row; obtain ⟨r0, r1, r2, r3, r4, r5, r6, r7⟩ := row8c (rowIs_below hRW.out HQ1.out); have n2b : w2.heap.size ≠ b := (by omega); have n2r : w2.heap.size ≠ w.heap.size := (by omega)))
  all_goals
   go_wp2_with fail
   go_meet
  ·exact ⟨_, w2.heap.size, a1, n1, c1, F1, rfl, rfl, rfl, rfl, rowIs2 w2 _ _ _, HS1.out.below (bal (Below.refl _ _) _), (fun z hz => HF1.out z hz), (fun hc => by have := HS1.out.lt hc; omega), bal HQ1.out _, HQ1.out.size⟩
  ·have hlo : ∀ z, F1 z → W.heap.size + 1 ≤ z := fun z hz => by have := HF1.out z hz; simpa using this
   have hno : ¬ F1 W.heap.size := fun hc => by have := hlo _ hc; omega
   exact ⟨_, W.heap.size, a1, n1, c1, F1, rfl, rfl, rfl, rfl, set2row q _ _, (HS1.out.setCell hno _ _).setCell hno _ _, (fun z hz => by have := hlo z hz; omega), hno, (HQ1.out.setCell (Nat.le_refl _) _).setCell (Nat.le_refl _) _, Nat.le_refl _⟩
 case rest =>
 obtain ⟨W1, g7, a1, n1, c1, F1, rfl, rfl, rfl, rfl, hg7, hs1, hF1, hn7, hb1, hl7⟩ := hcut
 have hG3 := St.hid (hG2.out.below hb1)
 have hRP1 := St.hid (rowIs_below hRP.out hb1)
 have HB1 := St.hid (bcall HBW.out hb1)
 obtain ⟨y0, y1, y2, y3, y4⟩ := two_facts hg7
 have HS1 := St.hid hs1
 have hFlt : ∀ z, F z → z < w.heap.size := HG.out.lt
 have HNN := St.hid (new_not (F := F) (F2 := F1) (Fs := Fs) hFlt hF1 (show w.heap.size ≤ W.heap.size by omega))
 have HFL := St.hid hFlt
 have HF1 := St.hid hF1
 have hz1 := hb1.size
 simp only [if_true] at y0
 simp at y1
 clear hb1 hs1 hg7 x0 x1 r0 r1 r2 r3 r4 r5 r6 r7 hFlt hF1 hRP hG2 hRW HSP HSP1
 go_wp2_with fail
 refine (become_any hG3.out HS1.out HNN.out nx ec).mono ?_
 rintro e w3 ⟨rfl, ⟨F3, hG4, hF3⟩, hk3⟩
 have hRP3 := St.hid (rowIs_kept hRP1.out hk3 (fun hc => by have := HFL.out _ hc; omega))
 have HG4 := St.hid hG4
 have HK3 := St.hid hk3
 have hz3 := hk3.size
 have HF3 := St.hid hF3
 clear hG4 hk3 hF3 y0 y1 y2 y3 y4 hRP1 hG3
 obtain ⟨p0, p1, p2, p3⟩ := Rp.rcells hRP3.out
 have p4 := hRP3.out.frozen 0
 have p5 := hRP3.out.frozen 1
 have p6 := hRP3.out.frozen 2
 have p7 := hRP3.out.frozen 3
 have pz : w.heap.size + 1 < w3.heap.size := hRP3.out.lt
 go_wp2_with fail
 have hno : ¬ F3 (w.heap.size + 1) := fun hc => by
  rcases HF3.out _ hc with h1 | h1
  ·have := HFL.out _ h1; omega
  ·have := HF1.out _ h1; omega
 have hst : (if ec = 0 then ({ s with now := { s.now with L := L', next := nx } } : Gp) else s) = { s with now := { s.now with L := L', next := nx } } := by
  by_cases h : ec = 0
  ·rw [if_pos h]
  ·rw [if_neg h]; exact (HEQ.out h).symm
 obtain ⟨q0, q1, q2, q3⟩ := four ((put4 hRP3.out (.int .i64 ec) (.int .i64 id) (.slice none 0 0) (.slice none 0 0)).alloc (.cells #[.int .i64 ec, .int .i64 id, .slice none 0 0, .slice none 0 0] 31))
 refine bodyPost_ret (v := .agg #[.int .i64 ec, .int .i64 id, .slice none 0 0, .slice none 0 0]) (by simp [results, Tryz.results31, go_sem, q0, q1, q2, q3]) rfl ⟨rfl, ⟨F3, ?_, fun z hz => ?_⟩, ?_⟩
 ·rw [← hst]
  exact (Gam.grown HG4.out (grown4 w3 (w.heap.size + 1) _ _ _ _) hno).below (bal (Below.refl _ _) _)
 ·rcases HF3.out _ hz with h1 | h1
  ·exact Or.inl h1
  ·have := HF1.out _ h1; exact Or.inr (by omega)
 ·exact (kept_grown ((Kept.below HB1.out).trans HK3.out (fun z h => Or.inl h)) (grown4 w3 (w.heap.size + 1) _ _ _ _) (by omega)).call (bal (Below.refl _ _) _)
end Gm
end Go.Proofs.YtckkkdldljhehacGreat
