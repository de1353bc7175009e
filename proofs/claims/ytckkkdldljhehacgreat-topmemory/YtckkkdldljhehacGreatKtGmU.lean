/- What Do of a game answers in a walk that began in an earlier memory; an act's cells; worlds of games held against each other. Lemmas, no walk. -/
import Derived.Test.YtckkkdldljhehacGreatKtGmQ
import Derived.Test.YtckkkdldljhehacGreatKtGmT
import Derived.Test.YtckkkdldljhehacGreatKtWdO
import Derived.Test.YtckkkdldljhehacGreatKtRpT
import Derived.Deep.MidRow
import Derived.Deep.WholeRow
namespace Go.Proofs.YtckkkdldljhehacGreat.Gm
open Go.Proofs.YtckkkdldljhehacGreat.Num Go.Proofs.YtckkkdldljhehacGreat.St Go.Proofs.YtckkkdldljhehacGreat.Wd
open Go.ChangeShapes Go.WideShapes Go.ChangeAt Go.RowKit

/-- An act's cells in memory. -/
def AcBox (W : World) (b : Nat) (x : Ac) : Prop := W.rowIs b 38 17 (fun i => (actCells x).getD i undef)
theorem acBox (w : World) (x : Ac) : AcBox (w.alloc (.cells #[.int .i64 x.kind, .int .i64 x.id, .int .i64 x.n, .int .i64 x.mask, .int .i64 x.row.x, .int .i64 x.row.y, .int .i64 x.row.px, .int .i64 x.row.py, .int .i64 x.row.wd, .int .i64 x.row.ht, .int .i64 x.row.ms, .int .i64 x.row.rr, .int .i64 x.box.id, .int .i64 x.box.x1, .int .i64 x.box.y1, .int .i64 x.box.x2, .int .i64 x.box.y2] 38)) w.heap.size x := rowIsL w (actCells x) 38
theorem AcBox.below {W W' : World} {b : Nat} {x : Ac} (h : AcBox W b x) (hb : Below W.heap.size W W') : AcBox W' b x := rowIs_below h hb
theorem AcBox.kept {W W' : World} {F : Nat → Prop} {b : Nat} {x : Ac} (h : AcBox W b x) (hk : Kept F W W') (hb : ¬ F b) : AcBox W' b x := rowIs_kept h hk hb
theorem AcBox.at {W : World} {b : Nat} {x : Ac} (h : AcBox W b x) : W.cell? ⟨b, 0, none⟩ = some (.int .i64 x.kind) ∧ W.cell? ⟨b, 1, none⟩ = some (.int .i64 x.id) ∧ W.cell? ⟨b, 2, none⟩ = some (.int .i64 x.n) ∧ W.cell? ⟨b, 3, none⟩ = some (.int .i64 x.mask) ∧
    W.cell? ⟨b, 4, none⟩ = some (.int .i64 x.row.x) ∧ W.cell? ⟨b, 5, none⟩ = some (.int .i64 x.row.y) ∧ W.cell? ⟨b, 6, none⟩ = some (.int .i64 x.row.px) ∧ W.cell? ⟨b, 7, none⟩ = some (.int .i64 x.row.py) ∧
    W.cell? ⟨b, 8, none⟩ = some (.int .i64 x.row.wd) ∧ W.cell? ⟨b, 9, none⟩ = some (.int .i64 x.row.ht) ∧ W.cell? ⟨b, 10, none⟩ = some (.int .i64 x.row.ms) ∧ W.cell? ⟨b, 11, none⟩ = some (.int .i64 x.row.rr) ∧
    W.cell? ⟨b, 12, none⟩ = some (.int .i64 x.box.id) ∧ W.cell? ⟨b, 13, none⟩ = some (.int .i64 x.box.x1) ∧ W.cell? ⟨b, 14, none⟩ = some (.int .i64 x.box.y1) ∧ W.cell? ⟨b, 15, none⟩ = some (.int .i64 x.box.x2) ∧ W.cell? ⟨b, 16, none⟩ = some (.int .i64 x.box.y2) := acells h
theorem AcBox.lt {W : World} {b : Nat} {x : Ac} (h : AcBox W b x) : b < W.heap.size := World.rowIs.lt h
theorem AcBox.range {W : World} {b : Nat} {x : Ac} (h : AcBox W b x) : W.rangeAt b 0 (actCells x) := fun j v hj => by
  have hl : j < 17 := (List.getElem?_eq_some_iff.1 hj).1
  have hc := World.rowIs.cell h (i := j) hl
  rw [Nat.zero_add, hc, List.getD_eq_getElem?_getD, hj]
  rfl
theorem sizeA : (Tryz.prog.info? 38).map (·.size) = some 17 := by kernel_rfl
theorem oneA (x : Ac) : (actCells x).toArray.all (·.oneCell') = true := by simp [actCells, Value.oneCell']
theorem AcBox.six {W : World} {b : Nat} {x : Ac} (h : AcBox W b x) : AcBox (W.setCell ⟨b, 0, none⟩ (.int .i64 6)) b { x with kind := 6 } :=
  World.rowIs.congr (World.rowIs.set h 0 (.int .i64 6)) (fun i hi => by
    match i, hi with
    | 0, _ => rfl
    | 1, _ => rfl
    | 2, _ => rfl
    | 3, _ => rfl
    | 4, _ => rfl
    | 5, _ => rfl
    | 6, _ => rfl
    | 7, _ => rfl
    | 8, _ => rfl
    | 9, _ => rfl
    | 10, _ => rfl
    | 11, _ => rfl
    | 12, _ => rfl
    | 13, _ => rfl
    | 14, _ => rfl
    | 15, _ => rfl
    | 16, _ => rfl
    | k + 17, h => exact absurd h (by omega))
/-- Do, in a walk that began at w0. -/
theorem do_from {w0 w : World} {F : Nat → Prop} {b : Nat} {s : Gp} (hG : Gam w F b s) (hg : GoodG s) (hb : Below w0.heap.size w0 w) (hF : ∀ z, F z → w0.heap.size ≤ z) (a : Ac) :
    Calls Tryz.prog 14 #[.pointer (some ⟨b, 0, none⟩), actA a] w fun e w' => ∃ ai ci am cm F', e = .returned (.agg #[.int .i64 (doG s a).2.code, .int .i64 (doG s a).2.n, .slice ai (doG s a).2.ids.length ci, .slice am (doG s a).2.met.length cm]) ∧
      (w'.ownsRow w.heap.size 3 1 (.slice ai (doG s a).2.ids.length ci) (doG s a).2.ids.length ((doG s a).2.ids.map (Value.int .i64)) ∧ w'.ownsRow w.heap.size 54 2 (.slice am (doG s a).2.met.length cm) (doG s a).2.met.length ((doG s a).2.met.flatMap Sw.pairCells)) ∧
      Gam w' F' b (doG s a).1 ∧ (∀ z, F' z → F z ∨ w.heap.size ≤ z) ∧ (∀ z, F' z → w0.heap.size ≤ z) ∧ (∀ z, (Value.slice ai (doG s a).2.ids.length ci).ownBlock = some z ∨ (Value.slice am (doG s a).2.met.length cm).ownBlock = some z → ¬ F' z) ∧ Kept F w w' ∧ Below w0.heap.size w0 w' := by
  refine (do_any hG hg a).mono ?_
  rintro e w' ⟨ai, ci, am, cm, rfl, h1, h2, ⟨F', h3, h4, h5⟩, hk⟩
  have hs := hb.size
  exact ⟨ai, ci, am, cm, F', rfl, ⟨h1, h2⟩, h3, h4, fun z hz => (h4 z hz).elim (fun h => hF z h) (fun h => by omega), h5, hk, hb.trans (hk.to_below hs hF)⟩
/-- Play with the question that is always told yes, in a walk that began at w0. -/
theorem play_from {w0 : World} {al : Option Addr} {n : Nat} {l : List Ac} (hl : ActL w0 al l) (hn : n = l.length) (hz : n * 136 ≤ 140737488355328) (size fall : Int) (cap : Nat) {w : World} (hb : Below w0.heap.size w0 w) :
    Calls Tryz.prog 12 #[.int .i64 size, .int .i64 fall, .slice al n cap, .func (.func 13) #[] #[]] w fun e w' => ∃ b F, e = .returned (.tuple #[.pointer (some ⟨b, 0, none⟩), .bool true]) ∧ Gam w' F b (playP size fall l) ∧ (∀ z, F z → w.heap.size ≤ z) ∧ Below w.heap.size w w' := by
  refine (playQuiet size fall al n cap l w hn (hl.below hb) hz).mono ?_
  rintro e w' ⟨⟨b, F, rfl, h1, h2⟩, h3⟩
  exact ⟨b, F, rfl, h1, h2, h3⟩
theorem same_now {x : Wp} (hg : GoodW x) {Fa Fb : Nat → Prop} {va vb : Value} {W : World} (ha : Sto W Fa va x.L) (hb : Sto W Fb vb x.L) :
    Calls Tryz.prog 16 #[.agg #[va, .int .i64 x.next, .int .i64 x.fall, .int .i64 x.wide, .int .i64 x.high], .agg #[vb, .int .i64 x.next, .int .i64 x.fall, .int .i64 x.wide, .int .i64 x.high]] W fun e w' => e = .returned (.bool true) ∧ Below W.heap.size W w' :=
  same_true x.next x.fall x.wide x.high ha hb hg.l hg.l (fun _ _ _ => Iff.rfl)
theorem fieldR (c n : Int) (a : Option Addr) (k q : Nat) (a' : Option Addr) (k' q' : Nat) (w : World) : Sem.run Tryz.prog (Instr.field 31 (.agg #[.int .i64 c, .int .i64 n, .slice a k q, .slice a' k' q']) 0) w = .ok (.int .i64 c) w := by kernel_rfl
end Go.Proofs.YtckkkdldljhehacGreat.Gm
