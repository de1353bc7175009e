/- A row of a list of rows of one's own: its cells, and what becomes of it as it is written. Lemmas on worlds, no walk. -/
import Derived.Test.YtckkkdldljhehaaStPut3
namespace Go.Proofs.Ytckkkdldljhehaa.St
open Go.Proofs.Ytckkkdldljhehaa.Num
open Go.ChangeShapes Go.WideShapes Go.ChangeAt Go.RowKit

/-- The cells of one row of a list of rows. -/
theorem row_at {w : World} {B g n c k : Nat} {rows : List R8} (h : w.ownsRow B 30 8 (.slice (some ⟨g, 0, none⟩) n c) n (rows.flatMap rowCells)) {r : R8} (hk : rows[k]? = some r) :
    w.cell? ⟨g, k * 8, none⟩ = some (.int .i64 r.x) ∧ w.cell? ⟨g, k * 8 + 1, none⟩ = some (.int .i64 r.y) ∧ w.cell? ⟨g, k * 8 + 2, none⟩ = some (.int .i64 r.px) ∧ w.cell? ⟨g, k * 8 + 3, none⟩ = some (.int .i64 r.py) ∧
      w.cell? ⟨g, k * 8 + 4, none⟩ = some (.int .i64 r.wd) ∧ w.cell? ⟨g, k * 8 + 5, none⟩ = some (.int .i64 r.ht) ∧ w.cell? ⟨g, k * 8 + 6, none⟩ = some (.int .i64 r.ms) ∧ w.cell? ⟨g, k * 8 + 7, none⟩ = some (.int .i64 r.rr) := by
  have hlt : k < rows.length := (List.getElem?_eq_some_iff.1 hk).1
  have hxl := h.1
  rw [rows_length] at hxl
  have e : rows = rows.take k ++ r :: rows.drop (k + 1) := by
    have h1 : rows.take k ++ rows.drop k = rows := List.take_append_drop k rows
    rw [List.drop_eq_getElem_cons hlt, (List.getElem?_eq_some_iff.1 hk).2] at h1
    exact h1.symm
  have hl : ((rows.take k).flatMap rowCells).length = k * 8 := by rw [rows_length, List.length_take]; congr 1; omega
  have key : ∀ q, q < 8 → w.cell? ⟨g, k * 8 + q, none⟩ = (rowCells r)[q]? := by
    intro q hq
    rw [h.cellAt _ (by omega), e, List.flatMap_append, List.flatMap_cons, List.getElem?_append_right (by omega), hl, show k * 8 + q - k * 8 = q by omega, List.getElem?_append_left (by exact hq)]
  exact ⟨key 0 (by omega), key 1 (by omega), key 2 (by omega), key 3 (by omega), key 4 (by omega), key 5 (by omega), key 6 (by omega), key 7 (by omega)⟩

def setRow8 (W : World) (gr x : Nat) (r : R8) : World := (((((((W.setCell ⟨gr, x * 8, none⟩ (.int .i64 r.x)).setCell ⟨gr, x * 8 + 1, none⟩ (.int .i64 r.y)).setCell ⟨gr, x * 8 + 2, none⟩ (.int .i64 r.px)).setCell ⟨gr, x * 8 + 3, none⟩ (.int .i64 r.py)).setCell ⟨gr, x * 8 + 4, none⟩ (.int .i64 r.wd)).setCell ⟨gr, x * 8 + 5, none⟩ (.int .i64 r.ht)).setCell ⟨gr, x * 8 + 6, none⟩ (.int .i64 r.ms)).setCell ⟨gr, x * 8 + 7, none⟩ (.int .i64 r.rr)

theorem setCell_comm (W : World) {p q : Addr} (h : p.block ≠ q.block) (u v : Value) : (W.setCell p u).setCell q v = (W.setCell q v).setCell p u := by
  have e : ((W.setCell p u).setCell q v).heap = ((W.setCell q v).setCell p u).heap := by
    apply Array.ext_getElem?
    intro i
    simp only [World.setCell, Array.getElem?_modify]
    by_cases h1 : p.block = i
    · by_cases h2 : q.block = i
      · omega
      · simp [h1, h2]
    · by_cases h2 : q.block = i
      · simp [h1, h2]
      · simp [h1, h2]
  simp only [World.setCell] at e ⊢
  rw [e]
theorem setRow8_comm (W : World) (gr x : Nat) (r : R8) (p : Addr) (h : p.block ≠ gr) (u : Value) : (setRow8 W gr x r).setCell p u = setRow8 (W.setCell p u) gr x r := by
  unfold setRow8
  rw [setCell_comm _ (p := ⟨gr, x * 8 + 7, none⟩) (Ne.symm h), setCell_comm _ (p := ⟨gr, x * 8 + 6, none⟩) (Ne.symm h), setCell_comm _ (p := ⟨gr, x * 8 + 5, none⟩) (Ne.symm h), setCell_comm _ (p := ⟨gr, x * 8 + 4, none⟩) (Ne.symm h), setCell_comm _ (p := ⟨gr, x * 8 + 3, none⟩) (Ne.symm h), setCell_comm _ (p := ⟨gr, x * 8 + 2, none⟩) (Ne.symm h), setCell_comm _ (p := ⟨gr, x * 8 + 1, none⟩) (Ne.symm h), setCell_comm _ (p := ⟨gr, x * 8, none⟩) (Ne.symm h)]
theorem grown_row8 (W : World) (gr x : Nat) (r : R8) : W.grownBy (setRow8 W gr x r) (some gr) :=
  (((((((grown_set W gr (x * 8) _).trans (grown_set _ gr _ _)).trans (grown_set _ gr _ _)).trans (grown_set _ gr _ _)).trans (grown_set _ gr _ _)).trans (grown_set _ gr _ _)).trans (grown_set _ gr _ _)).trans (grown_set _ gr _ _)
theorem rows_write {W : World} {B gr k rc j : Nat} {rows : List R8} (r : R8) (hr : rows.length = k + 1) (hj : j ≤ k) (h : W.ownsRow B 30 8 (.slice (some ⟨gr, 0, none⟩) (k + 1) rc) (k + 1) (rows.flatMap rowCells)) :
    (setRow8 W gr j r).ownsRow B 30 8 (.slice (some ⟨gr, 0, none⟩) (k + 1) rc) (k + 1) ((rows.set j r).flatMap rowCells) := by
  have h1 := ((((((((h.stored (j * 8) (.int .i64 r.x)).1.stored (j * 8 + 1) (.int .i64 r.y)).1.stored (j * 8 + 2) (.int .i64 r.px)).1.stored (j * 8 + 3) (.int .i64 r.py)).1.stored (j * 8 + 4) (.int .i64 r.wd)).1.stored (j * 8 + 5) (.int .i64 r.ht)).1.stored (j * 8 + 6) (.int .i64 r.ms)).1.stored (j * 8 + 7) (.int .i64 r.rr)).1
  obtain ⟨r0, e0⟩ : ∃ u, rows[j]? = some u := ⟨_, List.getElem?_eq_getElem (by omega)⟩
  have e : rows = rows.take j ++ r0 :: rows.drop (j + 1) := by
    have h1 : rows.take j ++ rows.drop j = rows := List.take_append_drop j rows
    rw [List.drop_eq_getElem_cons (by omega), (List.getElem?_eq_some_iff.1 e0).2] at h1
    exact h1.symm
  have hl : ((rows.take j).flatMap rowCells).length = j * 8 := by rw [rows_length, List.length_take]; congr 1; omega
  have es : rows.set j r = rows.take j ++ r :: rows.drop (j + 1) := by
    conv => lhs; rw [e]
    rw [List.set_append_right _ _ (by rw [List.length_take]; omega), List.length_take, Nat.min_eq_left (by omega), Nat.sub_self]
    rfl
  have ef : rows.flatMap rowCells = (rows.take j).flatMap rowCells ++ (rowCells r0 ++ (rows.drop (j + 1)).flatMap rowCells) := by
    conv => lhs; rw [e]
    rw [List.flatMap_append, List.flatMap_cons]
  rw [es, List.flatMap_append, List.flatMap_cons]
  rw [ef, set_app _ _ _ 0 _ (by omega), set_app _ _ _ 1 _ (by omega), set_app _ _ _ 2 _ (by omega), set_app _ _ _ 3 _ (by omega), set_app _ _ _ 4 _ (by omega), set_app _ _ _ 5 _ (by omega), set_app _ _ _ 6 _ (by omega), set_app _ _ _ 7 _ (by omega)] at h1
  exact h1
end Go.Proofs.Ytckkkdldljhehaa.St
