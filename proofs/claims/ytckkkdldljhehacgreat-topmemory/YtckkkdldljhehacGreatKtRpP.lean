/- Lists of numbers and of pairs as they are read in memory; two pairs held against each other. Lemmas, no walk. -/
import Derived.Test.YtckkkdldljhehacGreatPkB
import Derived.Deep.DrawnRows
import Derived.WalkSmall
import Derived.Lib.SmallJoins
import Derived.Laws.OwnMore
import Derived.Deep.OwnRows
import Derived.Lib.SliceRun
namespace Go.Proofs.YtckkkdldljhehacGreat.Rp
open Go.Proofs.YtckkkdldljhehacGreat.Num Go.Proofs.YtckkkdldljhehacGreat.St
open Go.ChangeShapes Go.WideShapes Go.ChangeAt Go.RowKit

theorem hid {p : Prop} (h : p) : Hid p := h
/-- A list of numbers in memory. -/
def IntsR (W : World) (v : Value) (l : List Int) : Prop := ∃ a c, v = .slice a l.length c ∧ (0 < l.length → ∃ b off, a = some ⟨b, off, none⟩ ∧ b < W.heap.size ∧ ∀ i x, l[i]? = some x → W.cell? ⟨b, off + i, none⟩ = some (.int .i64 x))
/-- A list of pairs in memory. -/
def PairsR (W : World) (v : Value) (l : List (Int × Int)) : Prop := ∃ a c, v = .slice a l.length c ∧ (0 < l.length → ∃ b off, a = some ⟨b, off, none⟩ ∧ b < W.heap.size ∧ ∀ i x, l[i]? = some x → W.cell? ⟨b, off + i * 2, none⟩ = some (.int .i64 x.1) ∧ W.cell? ⟨b, off + i * 2 + 1, none⟩ = some (.int .i64 x.2))
theorem ints_nil (W : World) (c : Nat) (a : Option Addr) : IntsR W (.slice a 0 c) [] := ⟨a, c, rfl, fun h => absurd h (Nat.lt_irrefl _)⟩
theorem pairs_nil (W : World) (c : Nat) (a : Option Addr) : PairsR W (.slice a 0 c) [] := ⟨a, c, rfl, fun h => absurd h (Nat.lt_irrefl _)⟩
theorem IntsR.below {W W' : World} {v : Value} {l : List Int} (h : IntsR W v l) (hb : Below W.heap.size W W') : IntsR W' v l := by
  obtain ⟨a, c, e, h⟩ := h
  refine ⟨a, c, e, fun hp => ?_⟩
  obtain ⟨b, off, e, hl, hc⟩ := h hp
  exact ⟨b, off, e, Nat.lt_of_lt_of_le hl hb.size, fun i x hx => by rw [hb.cell (p := ⟨b, off + i, none⟩) hl]; exact hc i x hx⟩
theorem PairsR.below {W W' : World} {v : Value} {l : List (Int × Int)} (h : PairsR W v l) (hb : Below W.heap.size W W') : PairsR W' v l := by
  obtain ⟨a, c, e, h⟩ := h
  refine ⟨a, c, e, fun hp => ?_⟩
  obtain ⟨b, off, e, hl, hc⟩ := h hp
  exact ⟨b, off, e, Nat.lt_of_lt_of_le hl hb.size, fun i x hx => by rw [hb.cell (p := ⟨b, off + i * 2, none⟩) hl, hb.cell (p := ⟨b, off + i * 2 + 1, none⟩) hl]; exact hc i x hx⟩
theorem IntsR.own {W : World} {B n : Nat} {v : Value} {l : List Int} (h : W.ownsRow B 3 1 v n (l.map (Value.int .i64))) (hn : n = l.length) : IntsR W v l := by
  subst hn
  rcases h.2 with ⟨rfl, h0⟩ | ⟨g, c, cur, rfl, _⟩
  · rw [List.length_eq_zero_iff.1 h0]; exact ints_nil W 0 none
  · refine ⟨_, c, rfl, fun hp => ⟨g, 0, rfl, (h.lt g rfl).2, fun i x hx => ?_⟩⟩
    have hlt := (List.getElem?_eq_some_iff.1 hx).1
    rw [Nat.zero_add, h.cellAt i (by omega), List.getElem?_map, hx]
    rfl
theorem flat2 (l : List (Int × Int)) (i s : Nat) (x : Int × Int) (hi : l[i]? = some x) (hs : s < 2) : (l.flatMap fun p => [Value.int .i64 p.1, .int .i64 p.2])[i * 2 + s]? = [Value.int .i64 x.1, .int .i64 x.2][s]? := by
  induction l generalizing i with
  | nil => simp at hi
  | cons r l ih =>
    rw [List.flatMap_cons]
    cases i with
    | zero => simp at hi; subst hi; rw [Nat.zero_mul, Nat.zero_add, List.getElem?_append_left (by simpa using hs)]
    | succ i => rw [List.getElem?_append_right (by simp; omega)]; simp only [List.length_cons, List.length_nil]; rw [show (i + 1) * 2 + s - (0 + 1 + 1) = i * 2 + s by omega, ih i (by simpa using hi)]
theorem PairsR.own {W : World} {B n : Nat} {t : TypeId} {v : Value} {l : List (Int × Int)} (h : W.ownsRow B t 2 v n (l.flatMap fun p => [Value.int .i64 p.1, .int .i64 p.2])) (hn : n = l.length) : PairsR W v l := by
  subst hn
  rcases h.2 with ⟨rfl, h0⟩ | ⟨g, c, cur, rfl, _⟩
  · rw [List.length_eq_zero_iff.1 h0]; exact pairs_nil W 0 none
  · refine ⟨_, c, rfl, fun hp => ⟨g, 0, rfl, (h.lt g rfl).2, fun i x hx => ?_⟩⟩
    have hlt := (List.getElem?_eq_some_iff.1 hx).1
    have h0 := h.cellAt (i * 2 + 0) (by omega)
    have h1 := h.cellAt (i * 2 + 1) (by omega)
    rw [flat2 l i 0 x hx (by omega)] at h0
    rw [flat2 l i 1 x hx (by omega)] at h1
    rw [Nat.zero_add]
    exact ⟨h0, h1⟩
theorem eqPn (d : Nat) (x y x' y' : Int) (w : World) :
    (Op.equalIn (d + 2) 54 (.agg #[.int .i64 x, .int .i64 y]) (.agg #[.int .i64 x', .int .i64 y'])).run Tryz.prog w = .ok (x == x' && y == y') w := by
  have h1 : Tryz.prog.underlying 54 = some (.struct (Tryz.prog.fieldsOf 54)) := by kernel_rfl
  have h2 : Tryz.prog.stoodInHeld 54 = false := by kernel_rfl
  rw [run_equalIn_struct w (d + 1) 54 _ _ h1 h2]
  simp [go_sem, Tryz.underlying54, Tryz.underlying3]
  by_cases a1 : x = x' <;> by_cases a2 : y = y' <;> simp [a1, a2]
theorem neqOf {n : Nat} {P : Program} {w : World} {t : TypeId} {xs ys : Array Value} (h : n = 10000) {v : Bool} (e : (Op.equalIn n t (.agg xs) (.agg ys)).run P w = .ok v w) :
    (binOp .neq t (.agg xs) (.agg ys)).run P w = .ok (.bool (!v)) w := by
  subst h
  rw [run_neq_struct, e]
  rfl
theorem neqP (x y x' y' : Int) (w : World) :
    (binOp .neq 54 (.agg #[.int .i64 x, .int .i64 y]) (.agg #[.int .i64 x', .int .i64 y'])).run Tryz.prog w = .ok (.bool (!(x == x' && y == y'))) w :=
  neqOf (n := 9998 + 2) rfl (eqPn 9998 _ _ _ _ w)
theorem take_eq {α : Type} {l l' : List α} {k : Nat} {x y : α} (h : l.take k = l'.take k) (hx : l[k]? = some x) (hy : l'[k]? = some y) (e : x = y) : l.take (k + 1) = l'.take (k + 1) := by
  have h1 := (List.getElem?_eq_some_iff.1 hx)
  have h2 := (List.getElem?_eq_some_iff.1 hy)
  rw [List.take_succ_eq_append_getElem h1.1, List.take_succ_eq_append_getElem h2.1, h, h1.2, h2.2, e]
theorem take_ne {α : Type} {l l' : List α} {k : Nat} {x y : α} (hx : l[k]? = some x) (hy : l'[k]? = some y) (e : x ≠ y) : l ≠ l' := fun h => by
  rw [h, hy] at hx
  exact e (Option.some.inj hx).symm
theorem ret_bool {a b : Bool} (h : a = b) : Ending.returned (.bool a) = .returned (.bool b) := by rw [h]
/-- A reply's four cells. -/
def rcell (c n : Int) (u v : Value) (i : Nat) : Value := if i = 0 then .int .i64 c else if i = 1 then .int .i64 n else if i = 2 then u else v
theorem rowIs4 (w : World) (c n : Int) (u v : Value) (t : TypeId) : (w.alloc (.cells #[.int .i64 c, .int .i64 n, u, v] t)).rowIs w.heap.size t 4 (rcell c n u v) :=
  ⟨_, (MapKept.heap_alloc w _).1, rfl, fun i hi => by
    match i, hi with
    | 0, _ => rfl
    | 1, _ => rfl
    | 2, _ => rfl
    | 3, _ => rfl⟩
theorem rcells {W : World} {b : Nat} {t : TypeId} {c n : Int} {u v : Value} (h : W.rowIs b t 4 (rcell c n u v)) : W.cell? ⟨b, 0, none⟩ = some (.int .i64 c) ∧ W.cell? ⟨b, 1, none⟩ = some (.int .i64 n) ∧ W.cell? ⟨b, 2, none⟩ = some u ∧ W.cell? ⟨b, 3, none⟩ = some v :=
  ⟨h.cell (i := 0) (by omega), h.cell (i := 1) (by omega), h.cell (i := 2) (by omega), h.cell (i := 3) (by omega)⟩
theorem rowBelow {w w' : World} {b n : Nat} {t : TypeId} {f : Nat → Value} (h : w.rowIs b t n f) (hb : Below w.heap.size w w') : w'.rowIs b t n f := by
  obtain ⟨cs, h1, h2, h3⟩ := h
  exact ⟨cs, by rw [hb.block b (Array.getElem?_eq_some_iff.1 h1).1]; exact h1, h2, h3⟩
end Go.Proofs.YtckkkdldljhehacGreat.Rp
