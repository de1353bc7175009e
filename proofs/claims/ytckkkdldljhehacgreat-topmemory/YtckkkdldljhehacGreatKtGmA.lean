/- Games as they lie in memory: the game's own block, the list of what is saved, the stores; what is kept when other blocks change. Lemmas, no walk. -/
import Derived.Test.YtckkkdldljhehacGreatKtGmPl
import Derived.Test.YtckkkdldljhehacGreatKtWdQ
import Derived.Test.YtckkkdldljhehacGreatKtRpP
import Derived.Test.YtckkkdldljhehacGreatKtGmR
namespace Go.Proofs.YtckkkdldljhehacGreat.Gm
open Go.Proofs.YtckkkdldljhehacGreat.Num Go.Proofs.YtckkkdldljhehacGreat.St Go.Proofs.YtckkkdldljhehacGreat.Wd
open Go.ChangeShapes Go.WideShapes Go.ChangeAt Go.RowKit

/-- All blocks but those of F are as they were. -/
structure Kept (F : Nat → Prop) (w w' : World) : Prop where
  os : w'.os = w.os
  tape : w'.tape = w.tape
  output : w'.output = w.output
  size : w.heap.size ≤ w'.heap.size
  block : ∀ k, k < w.heap.size → ¬ F k → w'.heap[k]? = w.heap[k]?
theorem Kept.below {F : Nat → Prop} {w w' : World} (h : Below w.heap.size w w') : Kept F w w' := ⟨h.os, h.tape, h.output, h.size, fun k hk _ => h.block k hk⟩
theorem Kept.trans {F F' : Nat → Prop} {a b c : World} (h : Kept F a b) (h' : Kept F' b c) (hF : ∀ z, F' z → F z ∨ a.heap.size ≤ z) : Kept F a c :=
  ⟨h'.os.trans h.os, h'.tape.trans h.tape, h'.output.trans h.output, Nat.le_trans h.size h'.size, fun k hk hn => (h'.block k (Nat.lt_of_lt_of_le hk h.size) (fun hc => (hF k hc).elim hn (fun h => absurd hk (by omega)))).trans (h.block k hk hn)⟩
theorem Kept.call {F : Nat → Prop} {a b c : World} (h : Kept F a b) (h' : Below b.heap.size b c) : Kept F a c := h.trans (Kept.below (F := F) h') (fun _ hz => Or.inl hz)
theorem Kept.set {F : Nat → Prop} {a b : World} (h : Kept F a b) {g : Nat} (hg : F g ∨ a.heap.size ≤ g) (o : Nat) (u : Value) : Kept F a (b.setCell ⟨g, o, none⟩ u) :=
  ⟨h.os, h.tape, h.output, by simpa [World.setCell] using h.size, fun k hk hn => (Below.heap_setCell _ _ _ _ (fun e => by have e : k = g := e; rcases hg with hg | hg; exact hn (e ▸ hg); omega)).trans (h.block k hk hn)⟩
theorem Kept.drew {F : Nat → Prop} {a b : World} (h : Kept F a b) : Kept F a b.drew := ⟨h.os, h.tape, h.output, h.size, h.block⟩
theorem Kept.wide {F F' : Nat → Prop} {a b : World} (h : Kept F a b) (hF : ∀ z, F z → F' z) : Kept F' a b := ⟨h.os, h.tape, h.output, h.size, fun k hk hn => h.block k hk (fun hc => hn (hF k hc))⟩
theorem Kept.to_below {F : Nat → Prop} {a b : World} (h : Kept F a b) {n : Nat} (hn : n ≤ a.heap.size) (hF : ∀ z, F z → n ≤ z) : Below n a b := ⟨h.os, h.tape, h.output, h.size, fun k hk => h.block k (by omega) (fun hc => by have := hF k hc; omega)⟩
theorem Kept.grown {F : Nat → Prop} {a b c : World} {o : Option Nat} (h : Kept F a b) (hg : b.grownBy c o) (ho : ∀ z, o = some z → F z ∨ a.heap.size ≤ z) : Kept F a c :=
  ⟨hg.os.trans h.os, hg.tape.trans h.tape, hg.output.trans h.output, Nat.le_trans h.size hg.size, fun k hk hn => (hg.block k (Nat.lt_of_lt_of_le hk h.size) (fun e => by rcases ho k e.symm with h1 | h1; exact hn h1; omega)).trans (h.block k hk hn)⟩
theorem rowIs_kept {F : Nat → Prop} {w w' : World} {b n : Nat} {t : TypeId} {f : Nat → Value} (h : w.rowIs b t n f) (hk : Kept F w w') (hb : ¬ F b) : w'.rowIs b t n f := h.of_block (hk.block b h.lt hb)
theorem owns_kept' {F : Nat → Prop} {w w' : World} {B size n : Nat} {e : TypeId} {v : Value} {xs : List Value} (h : w.ownsRow B e size v n xs) (hk : Kept F w w') (hv : ∀ z, v.ownBlock = some z → ¬ F z) : w'.ownsRow B e size v n xs :=
  ownsRow_same h (fun g hg => hk.block g (h.lt g hg).2 (hv g hg))
theorem Sto.kept {F G : Nat → Prop} {w w' : World} {v : Value} {L : List Tab} (h : Sto w G v L) (hk : Kept F w w') (hG : ∀ z, G z → ¬ F z) : Sto w' G v L := h.keep hk.size (fun b hb => hk.block b (h.lt hb) (hG b hb))

/-- A game's seven cells. -/
def gcell (v : Value) (x : Wp) (vs : Value) (acts : Nat) (i : Nat) : Value := if i = 0 then v else if i = 1 then .int .i64 x.next else if i = 2 then .int .i64 x.fall else if i = 3 then .int .i64 x.wide else if i = 4 then .int .i64 x.high else if i = 5 then vs else .int .i64 acts
theorem gcells {W : World} {b : Nat} {v vs : Value} {x : Wp} {acts : Nat} (h : W.rowIs b 84 7 (gcell v x vs acts)) : W.cell? ⟨b, 0, none⟩ = some v ∧ W.cell? ⟨b, 1, none⟩ = some (.int .i64 x.next) ∧ W.cell? ⟨b, 2, none⟩ = some (.int .i64 x.fall) ∧ W.cell? ⟨b, 3, none⟩ = some (.int .i64 x.wide) ∧ W.cell? ⟨b, 4, none⟩ = some (.int .i64 x.high) ∧ W.cell? ⟨b, 5, none⟩ = some vs ∧ W.cell? ⟨b, 6, none⟩ = some (.int .i64 acts) :=
  ⟨h.cell (i := 0) (by omega), h.cell (i := 1) (by omega), h.cell (i := 2) (by omega), h.cell (i := 3) (by omega), h.cell (i := 4) (by omega), h.cell (i := 5) (by omega), h.cell (i := 6) (by omega)⟩
theorem gfrozen {W : World} {b : Nat} {f : Nat → Value} (h : W.rowIs b 84 7 f) : W.frozen? ⟨b, 0, none⟩ = false ∧ W.frozen? ⟨b, 1, none⟩ = false ∧ W.frozen? ⟨b, 2, none⟩ = false ∧ W.frozen? ⟨b, 3, none⟩ = false ∧ W.frozen? ⟨b, 4, none⟩ = false ∧ W.frozen? ⟨b, 5, none⟩ = false ∧ W.frozen? ⟨b, 6, none⟩ = false :=
  ⟨h.frozen 0, h.frozen 1, h.frozen 2, h.frozen 3, h.frozen 4, h.frozen 5, h.frozen 6⟩
def saveCells (l : List (Value × Wp)) : List Value := l.flatMap fun p => [p.1, .int .i64 p.2.next, .int .i64 p.2.fall, .int .i64 p.2.wide, .int .i64 p.2.high]
/-- A game in memory: its block b, the values of its tables and of what is saved; F: all its blocks, Fs: those of its stores, which nobody writes. -/
structure GamP (W : World) (F : Nat → Prop) (b : Nat) (s : Gp) (v vs : Value) (sv : List Value) (Fs : Nat → Prop) : Prop where
  row : W.rowIs b 84 7 (gcell v s.now vs s.acts)
  svs : W.ownsRow 0 45 5 vs s.saves.length (saveCells (sv.zip s.saves))
  len : sv.length = s.saves.length
  now : Sto W Fs v s.now.L
  all : ∀ (i : Nat) u x, sv[i]? = some u → s.saves[i]? = some x → Sto W Fs u x.L
  inF : ∀ z, Fs z → F z ∧ z ≠ b
  own : F b
  sep : ∀ z, vs.ownBlock = some z → F z ∧ z ≠ b ∧ ¬ Fs z
  lt : ∀ z, F z → z < W.heap.size
def Gam (W : World) (F : Nat → Prop) (b : Nat) (s : Gp) : Prop := ∃ v vs sv Fs, GamP W F b s v vs sv Fs
theorem GamP.below {W W' : World} {F : Nat → Prop} {b : Nat} {s : Gp} {v vs : Value} {sv : List Value} {Fs : Nat → Prop} (h : GamP W F b s v vs sv Fs) (hb : Below W.heap.size W W') : GamP W' F b s v vs sv Fs :=
  ⟨rowIs_below h.row hb, owns_below h.svs hb, h.len, h.now.below hb, fun i u x h1 h2 => (h.all i u x h1 h2).below hb, h.inF, h.own, h.sep, fun z hz => Nat.lt_of_lt_of_le (h.lt z hz) hb.size⟩
theorem Gam.below {W W' : World} {F : Nat → Prop} {b : Nat} {s : Gp} (h : Gam W F b s) (hb : Below W.heap.size W W') : Gam W' F b s := by
  obtain ⟨v, vs, sv, Fs, h⟩ := h
  exact ⟨v, vs, sv, Fs, h.below hb⟩
/-- A game stays what it is where another's blocks change. -/
theorem GamP.kept {W W' : World} {F G : Nat → Prop} {b : Nat} {s : Gp} {v vs : Value} {sv : List Value} {Fs : Nat → Prop} (h : GamP W F b s v vs sv Fs) (hk : Kept G W W') (hd : ∀ z, F z → ¬ G z) : GamP W' F b s v vs sv Fs :=
  ⟨rowIs_kept h.row hk (hd b h.own), owns_kept' h.svs hk (fun z hz => hd z (h.sep z hz).1), h.len, Sto.kept h.now hk (fun z hz => hd z (h.inF z hz).1), fun i u x h1 h2 => Sto.kept (h.all i u x h1 h2) hk (fun z hz => hd z (h.inF z hz).1), h.inF, h.own, h.sep, fun z hz => Nat.lt_of_lt_of_le (h.lt z hz) hk.size⟩
theorem Gam.kept {W W' : World} {F G : Nat → Prop} {b : Nat} {s : Gp} (h : Gam W F b s) (hk : Kept G W W') (hd : ∀ z, F z → ¬ G z) : Gam W' F b s := by
  obtain ⟨v, vs, sv, Fs, h⟩ := h
  exact ⟨v, vs, sv, Fs, h.kept hk hd⟩
theorem Gam.lt {W : World} {F : Nat → Prop} {b : Nat} {s : Gp} (h : Gam W F b s) {z : Nat} (hz : F z) : z < W.heap.size := by
  obtain ⟨v, vs, sv, Fs, h⟩ := h
  exact h.lt z hz
theorem Gam.own {W : World} {F : Nat → Prop} {b : Nat} {s : Gp} (h : Gam W F b s) : F b := by
  obtain ⟨v, vs, sv, Fs, h⟩ := h
  exact h.own
/-- Other tables in the place of the game's. -/
theorem GamP.setNow {W : World} {F F2 : Nat → Prop} {b : Nat} {s : Gp} {v vs : Value} {sv : List Value} {Fs : Nat → Prop} (h : GamP W F b s v vs sv Fs) {u : Value} {L : List Tab} (hu : Sto W F2 u L) (hF2 : ∀ z, F2 z → Fs z ∨ ¬ F z) (next : Int) :
    Gam ((W.setCell ⟨b, 0, none⟩ u).setCell ⟨b, 1, none⟩ (.int .i64 next)) (fun z => F z ∨ F2 z) b { s with now := { s.now with L := L, next := next } } := by
  have hb2 : ∀ z, F2 z → z ≠ b := fun z hz e => by
    rcases hF2 z hz with h1 | h1
    · exact (h.inF z h1).2 e
    · exact h1 (e ▸ h.own)
  have hg : W.grownBy ((W.setCell ⟨b, 0, none⟩ u).setCell ⟨b, 1, none⟩ (.int .i64 next)) (some b) := (grown_set _ _ _ _).trans (grown_set _ _ _ _)
  have hs0 : Sto ((W.setCell ⟨b, 0, none⟩ u).setCell ⟨b, 1, none⟩ (.int .i64 next)) (fun z => Fs z ∨ F2 z) u L := grown_keep (hu.wide (fun z hz => Or.inr hz) (fun z hz => hz.elim (fun h1 => h.now.lt h1) (fun h1 => hu.lt h1))) hg (fun hc => hc.elim (fun h1 => (h.inF b h1).2 rfl) (fun h1 => hb2 b h1 rfl))
  refine ⟨u, vs, sv, fun z => Fs z ∨ F2 z, ⟨?_, ?_, h.len, hs0, fun i q x h1 h2 => ?_, ?_, Or.inl h.own, ?_, ?_⟩⟩
  · refine ((h.row.set 0 u).set 1 (.int .i64 next)).congr (fun i hi => ?_)
    match i, hi with
    | 0, _ => rfl
    | 1, _ => rfl
    | 2, _ => rfl
    | 3, _ => rfl
    | 4, _ => rfl
    | 5, _ => rfl
    | 6, _ => rfl
  · exact owns_kept h.svs hg (fun z hz e => by cases e; exact (h.sep b hz).2.1 rfl)
  · exact grown_keep ((h.all i q x h1 h2).wide (fun z hz => Or.inl hz) (fun z hz => hz.elim (fun h1 => h.now.lt h1) (fun h1 => hu.lt h1))) hg (fun hc => hc.elim (fun h1 => (h.inF b h1).2 rfl) (fun h1 => hb2 b h1 rfl))
  · intro z hz
    rcases hz with h1 | h1
    · exact ⟨Or.inl (h.inF z h1).1, (h.inF z h1).2⟩
    · exact ⟨Or.inr h1, hb2 z h1⟩
  · intro z hz
    have h1 := h.sep z hz
    refine ⟨Or.inl h1.1, h1.2.1, fun hc => hc.elim h1.2.2 (fun h2 => ?_)⟩
    rcases hF2 z h2 with h3 | h3
    · exact h1.2.2 h3
    · exact h3 h1.1
  · intro z hz
    have hs : ((W.setCell ⟨b, 0, none⟩ u).setCell ⟨b, 1, none⟩ (.int .i64 next)).heap.size = W.heap.size := by simp [World.setCell]
    rw [hs]
    exact hz.elim (h.lt z) (fun h1 => hu.lt h1)
end Go.Proofs.YtckkkdldljhehacGreat.Gm
