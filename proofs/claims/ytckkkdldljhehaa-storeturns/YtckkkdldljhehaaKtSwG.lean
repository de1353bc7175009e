/- What slices.DeleteFunc answers when called over a row of boxes of one's own with sweep's own question: those that do not end ahead, in their order, in the same row. -/
import Derived.Test.YtckkkdldljhehaaKtSwF
import Derived.Laws.CopyOwn
namespace Go.Proofs.Ytckkkdldljhehaa.Sw
open Go.ChangeShapes Go.WideShapes Go.ChangeAt Go.RowKit Go.Sort Go.Shelf Go.Lib

def strikeX (O : List B5) (bx : Int) : List B5 := O.filter (fun o => decide (bx < o.x2))
theorem strikeX_all {O : List B5} {bx : Int} (h : ∀ (i : Nat) (x : B5), O[i]? = some x → bx < x.x2) : strikeX O bx = O := by
  unfold strikeX
  rw [List.filter_eq_self]
  intro o ho
  obtain ⟨i, hi⟩ := List.mem_iff_getElem?.1 ho
  simpa using h i o hi
theorem strikeX_take {O : List B5} {bx : Int} {j : Nat} {x : B5} (hx : O[j]? = some x) : strikeX (O.take (j + 1)) bx = strikeX (O.take j) bx ++ (if bx < x.x2 then [x] else []) := by
  have hlt : j < O.length := (List.getElem?_eq_some_iff.1 hx).1
  rw [List.take_succ_eq_append_getElem hlt, (List.getElem?_eq_some_iff.1 hx).2]
  unfold strikeX
  rw [List.filter_append]
  by_cases h : bx < x.x2 <;> simp [h]
/-- What the row holds as the struck are taken out: i are kept, j are seen. -/
structure Strk (O R : List B5) (bx : Int) (i j : Nat) : Prop where
  len : R.length = O.length
  lt : i < j
  le : j ≤ O.length
  kept : R.take i = strikeX (O.take j) bx
  rest : R.drop j = O.drop j
theorem Strk.at {O R : List B5} {bx : Int} {i j : Nat} (h : Strk O R bx i j) {x : B5} (hx : O[j]? = some x) : R[j]? = some x := by
  have := congrArg (fun l => l[0]?) h.rest
  simp only [List.getElem?_drop, Nat.add_zero] at this
  rw [this, hx]
theorem drop_next {O R : List B5} {j : Nat} (h : R.drop j = O.drop j) : R.drop (j + 1) = O.drop (j + 1) := by
  rw [← List.drop_drop, ← List.drop_drop, h]
theorem Strk.out {O R : List B5} {bx : Int} {i j : Nat} (h : Strk O R bx i j) (hj : j < O.length) {x : B5} (hx : O[j]? = some x) (ho : ¬ bx < x.x2) : Strk O R bx i (j + 1) :=
  ⟨h.len, by have := h.lt; omega, by omega, by rw [strikeX_take hx, if_neg ho, List.append_nil, h.kept], drop_next h.rest⟩
theorem Strk.keep {O R : List B5} {bx : Int} {i j : Nat} (h : Strk O R bx i j) (hj : j < O.length) {x : B5} (hx : O[j]? = some x) (ho : bx < x.x2) : Strk O (R.set i x) bx (i + 1) (j + 1) := by
  have hl := h.len
  have hlt := h.lt
  refine ⟨by simp [hl], by omega, by omega, ?_, ?_⟩
  · rw [strikeX_take hx, if_pos ho, ← h.kept, List.take_succ_eq_append_getElem (by simp; omega), List.getElem_set_self, List.take_set_of_le (by omega)]
  · rw [List.drop_set_of_lt (by omega)]
    exact drop_next h.rest
theorem Strk.first {O : List B5} {bx : Int} {k : Nat} {x : B5} (hx : O[k]? = some x) (ho : x.x2 ≤ bx) (hno : ∀ (i : Nat) (x : B5), i < k → O[i]? = some x → bx < x.x2) : Strk O O bx k (k + 1) := by
  have hlt : k < O.length := (List.getElem?_eq_some_iff.1 hx).1
  refine ⟨rfl, by omega, by omega, ?_, rfl⟩
  rw [strikeX_take hx, if_neg (by omega), List.append_nil, strikeX_all]
  intro i y hy
  have hi : i < k := by
    have := (List.getElem?_eq_some_iff.1 hy).1
    simp at this; omega
  rw [List.getElem?_take_of_lt hi] at hy
  exact hno i y hi hy

def setB5 (W : World) (g i : Nat) (x : B5) : World := ((((W.setCell ⟨g, i * 5, none⟩ (.int .i64 x.id)).setCell ⟨g, i * 5 + 1, none⟩ (.int .i64 x.x1)).setCell ⟨g, i * 5 + 2, none⟩ (.int .i64 x.y1)).setCell ⟨g, i * 5 + 3, none⟩ (.int .i64 x.x2)).setCell ⟨g, i * 5 + 4, none⟩ (.int .i64 x.y2)
theorem grown_set (w : World) (g j : Nat) (u : Value) : w.grownBy (w.setCell ⟨g, j, none⟩ u) (some g) :=
  ⟨rfl, rfl, rfl, by simp [World.setCell], fun k _ hk => Below.heap_setCell _ _ _ _ (fun e => hk (by simp [e]))⟩
theorem grown_trans {w w1 w2 : World} {row : Option Nat} (h : w.grownBy w1 row) (h' : w1.grownBy w2 row) : w.grownBy w2 row :=
  ⟨h'.os.trans h.os, h'.tape.trans h.tape, h'.output.trans h.output, Nat.le_trans h.size h'.size, fun k hk hne => (h'.block k (Nat.lt_of_lt_of_le hk h.size) hne).trans (h.block k hk hne)⟩
theorem grown_setB5 (W : World) (g i : Nat) (x : B5) : W.grownBy (setB5 W g i x) (some g) :=
  grown_trans (grown_trans (grown_trans (grown_trans (grown_set W g (i * 5) _) (grown_set _ g _ _)) (grown_set _ g _ _)) (grown_set _ g _ _)) (grown_set _ g _ _)
theorem set_app (A X : List Value) (i j : Nat) (u : Value) (h : i = A.length + j) : (A ++ X).set i u = A ++ X.set j u := by
  subst h
  induction A with
  | nil => simp
  | cons a A ih => simp only [List.cons_append, List.length_cons, show A.length + 1 + j = (A.length + j) + 1 by omega, List.set_cons_succ, ih]
theorem box_write {W : World} {B g n c i : Nat} {R : List B5} (x : B5) (hi : i < R.length) (h : W.ownsRow B 70 5 (.slice (some ⟨g, 0, none⟩) n c) n (R.flatMap boxCells)) :
    (setB5 W g i x).ownsRow B 70 5 (.slice (some ⟨g, 0, none⟩) n c) n ((R.set i x).flatMap boxCells) := by
  have h1 := (((((h.stored (i * 5) (.int .i64 x.id)).1.stored (i * 5 + 1) (.int .i64 x.x1)).1.stored (i * 5 + 2) (.int .i64 x.y1)).1.stored (i * 5 + 3) (.int .i64 x.x2)).1.stored (i * 5 + 4) (.int .i64 x.y2)).1
  have e : R = R.take i ++ R[i] :: R.drop (i + 1) := by
    have h1 : R.take i ++ R.drop i = R := List.take_append_drop i R
    rw [List.drop_eq_getElem_cons hi] at h1
    exact h1.symm
  have hl : ((R.take i).flatMap boxCells).length = i * 5 := by rw [flat_len boxCells 5 (fun _ => rfl), List.length_take]; congr 1; omega
  have es : R.set i x = R.take i ++ x :: R.drop (i + 1) := by
    conv => lhs; rw [e]
    rw [List.set_append_right _ _ (by rw [List.length_take]; omega), List.length_take, Nat.min_eq_left (by omega), Nat.sub_self]
    rfl
  have ef : R.flatMap boxCells = (R.take i).flatMap boxCells ++ (boxCells R[i] ++ (R.drop (i + 1)).flatMap boxCells) := by
    conv => lhs; rw [e]
    rw [List.flatMap_append, List.flatMap_cons]
  rw [es, List.flatMap_append, List.flatMap_cons]
  rw [ef, set_app _ _ _ 0 _ (by omega), set_app _ _ _ 1 _ (by omega), set_app _ _ _ 2 _ (by omega), set_app _ _ _ 3 _ (by omega), set_app _ _ _ 4 _ (by omega)] at h1
  exact h1
theorem owns_part {w : World} {B g n c k size : Nat} {e : TypeId} {xs : List Value} (h : w.ownsRow B e size (.slice (some ⟨g, 0, none⟩) n c) n xs) (hk : k ≤ n) : w.ownsRow B e size (.slice (some ⟨g, 0, none⟩) k c) k (xs.take (k * size)) := by
  have hm : k * size ≤ n * size := Nat.mul_le_mul_right _ hk
  refine ⟨by rw [List.length_take, h.1]; omega, ?_⟩
  rcases h.2 with ⟨e, _⟩ | ⟨g', c', cur, e, h1, h2, h3, h4, h5, h6⟩
  · cases e
  · cases e
    refine Or.inr ⟨g, c, cur, rfl, h1, h2, by omega, h4, h5, ?_⟩
    rw [← h6, List.take_take, Nat.min_eq_left hm]
theorem flat_take {α : Type} (enc : α → List Value) (k : Nat) (hk : ∀ x, (enc x).length = k) (l : List α) (i : Nat) (hi : i ≤ l.length) : (l.flatMap enc).take (i * k) = (l.take i).flatMap enc := by
  conv => lhs; rw [← List.take_append_drop i l]
  have : ((l.take i).flatMap enc).length = i * k := by rw [flat_len enc k hk, List.length_take, Nat.min_eq_left hi]
  rw [List.flatMap_append, List.take_append_of_le_length (by omega), List.take_of_length_le (by omega)]
theorem grown_setRow {w : World} {g : Nat} (cs : Array Value) : w.grownBy (w.setRow g cs) (some g) := by
  refine ⟨rfl, rfl, rfl, by simp [World.setRow], fun k _ hk => ?_⟩
  have hne : g ≠ k := fun e => hk (by rw [e])
  simp [World.setRow, Array.getElem?_modify, hne]
/-- clear of m elements behind the end of a row of one's own. -/
theorem clear_runM {P : Program} {w : World} (t ty : TypeId) (base : Nat) (e : TypeId) (z : Value) (size bytes : Nat) (ht : P.underlying t = some (.slice e)) (hi : (P.info? e).map (fun i => (i.zero, i.size, i.bytes)) = some (some z, size, bytes))
    (hzs : z.cells.size = size) (hz1 : ∀ u ∈ z.cells.toList, u.oneCell' = true) (hs0 : 0 < size)
    (g n cap m c : Nat) (xs : List Value) (hown : w.ownsRow base e size (.slice (some ⟨g, 0, none⟩) n cap) n xs) (hroom : n + m ≤ cap) (hm : 0 < m) :
    ∃ w', (Builtin.clear_ #[t] ty #[.slice (some ⟨g, n * size, none⟩) m c]).run P w = .ok (.tuple #[]) w' ∧ w'.ownsRow base e size (.slice (some ⟨g, 0, none⟩) n cap) n xs ∧ w.grownBy w' (some g) := by
  obtain ⟨i0, hi', hz0, hs0', hb0⟩ := info_parts hi
  rcases hown.2 with ⟨e, _⟩ | ⟨g', c', cur, e, q1, q2, q3, q4, q5, q6⟩
  · cases e
  cases e
  have hzl : (Builtin.zeroCells z.cells m).toList.length = m * size := by simp [Builtin.zeroCells, hzs]
  have hz1' : ∀ u ∈ (Builtin.zeroCells z.cells m).toList, u.oneCell' = true := by
    intro u hu
    simp [Builtin.zeroCells] at hu
    obtain ⟨i, hi, rfl⟩ := hu
    have hlt : i % z.cells.size < z.cells.size := Nat.mod_lt _ (by omega)
    apply hz1
    simp [hlt]
  have hfit : n * size + (Builtin.zeroCells z.cells m).toList.length ≤ cur.size := by rw [q5, hzl, ← Nat.add_mul]; exact Nat.mul_le_mul_right _ hroom
  have hst := run_storeCells_at P g (n * size) e (Builtin.zeroCells z.cells m).toList 0 cur w q2 (by simpa using hfit) hz1'
  have hrun : (Builtin.clear_ #[t] ty #[.slice (some ⟨g, n * size, none⟩) m c]).run P w = .ok (.tuple #[]) (w.setRow g (splice cur.toList (n * size) (Builtin.zeroCells z.cells m).toList).toArray) := by
    cases m with
    | zero => omega
    | succ m => simp [Builtin.clear_, run_underlying ht, zeroValue, typeInfo, hi', hz0, hst, splice]
  refine ⟨_, hrun, ⟨hown.1, Or.inr ⟨g, cap, _, rfl, q1, setRow_heap w g _ _ e _ q2, q3, q4, ?_, ?_⟩⟩, grown_setRow _⟩
  · rw [List.size_toArray, length_splice _ _ _ (by simpa using hfit), Array.length_toList, q5]
  · have hl : (cur.toList.take (n * size)).length = n * size := by rw [q6]; exact hown.1
    show List.take (n * size) (List.take (n * size) cur.toList ++ _) = xs
    rw [List.take_append_of_le_length (by omega), List.take_take, Nat.min_self, q6]
end Go.Proofs.Ytckkkdldljhehaa.Sw
