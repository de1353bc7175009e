/- What clone of package store answers when called over tables in memory: the same tables, each list in memory of its own; nothing that was in memory before has changed. All sizes are within the form's reach. -/
import Derived.Test.YtckkkdldljhehaaStClone
import Derived.Test.YtckkkdldljhehaaStOwn
import Derived.Deep.OwnRows
namespace Go.Proofs.Ytckkkdldljhehaa.St
open Go.Proofs.Ytckkkdldljhehaa.Num
open Go.ChangeShapes Go.WideShapes Go.ChangeAt Go.RowKit

theorem idsCells_get {f : Nat → Int} {n j : Nat} {u : Value} (h : (((List.range n).map f).map (Value.int .i64))[j]? = some u) : j < n ∧ u = .int .i64 (f j) := by
  have hjl : j < n := by simpa using (List.getElem?_eq_some_iff.1 h).1
  have e : (((List.range n).map f).map (Value.int .i64))[j]? = some (.int .i64 (f j)) := by simp [hjl]
  rw [e] at h
  cases h
  exact ⟨hjl, rfl⟩
theorem rowsCells_get {l : List R8} {j : Nat} {u : Value} (h : (l.flatMap rowCells)[j]? = some u) : j / 8 < l.length ∧ ∀ r, l[j / 8]? = some r → (rowCells r)[j % 8]? = some u := by
  induction l generalizing j with
  | nil => simp at h
  | cons r l ih =>
    rw [List.flatMap_cons] at h
    by_cases hj : j < 8
    · rw [List.getElem?_append_left (by simpa [rowCells] using hj)] at h
      have e0 : j / 8 = 0 := by omega
      have e1 : j % 8 = j := by omega
      rw [e0, e1]
      refine ⟨by simp, fun r' hr => ?_⟩
      simp at hr
      subst hr
      exact h
    · rw [List.getElem?_append_right (by simp [rowCells]; omega)] at h
      have h' := ih h
      have el : (rowCells r).length = 8 := rfl
      rw [el] at h'
      have e0 : j / 8 = (j - 8) / 8 + 1 := by omega
      have e1 : j % 8 = (j - 8) % 8 := by omega
      rw [e0, e1]
      exact ⟨by simp only [List.length_cons]; omega, fun r' hr => h'.2 r' (by simpa using hr)⟩
/-- Rows in memory, cell by cell. -/
theorem RowsIn.cells {w : World} {ad : Addr} {n : Nat} {r : Nat → R8} (h : RowsIn w (some ad) n r) : ∀ j u, (((List.range n).map r).flatMap rowCells)[j]? = some u → w.cell? (ad.add j) = some u := by
  intro j u hj
  obtain ⟨h1, h2⟩ := rowsCells_get hj
  have hn : j / 8 < n := by simpa using h1
  have h3 := h2 (r (j / 8)) (by simp [hn])
  obtain ⟨b, off, e, hb, hc⟩ := h (by omega)
  cases e
  obtain ⟨c0, c1, c2, c3, c4, c5, c6, c7⟩ := hc (j / 8) hn
  have ej : j = j / 8 * 8 + j % 8 := by omega
  rw [Addr.add_lit]
  have hm : j % 8 < 8 := by omega
  generalize j / 8 = q at *
  generalize j % 8 = s at *
  subst ej
  rw [show off + (q * 8 + s) = off + q * 8 + s by omega]
  rcases s with _ | _ | _ | _ | _ | _ | _ | _ | s
  · simp [rowCells] at h3; subst h3; exact c0
  · simp [rowCells] at h3; subst h3; exact c1
  · simp [rowCells] at h3; subst h3; exact c2
  · simp [rowCells] at h3; subst h3; exact c3
  · simp [rowCells] at h3; subst h3; exact c4
  · simp [rowCells] at h3; subst h3; exact c5
  · simp [rowCells] at h3; subst h3; exact c6
  · simp [rowCells] at h3; subst h3; exact c7
  · omega
theorem IdsIn.cells {w : World} {ad : Addr} {n : Nat} {f : Nat → Int} (h : IdsIn w (some ad) n f) : ∀ j u, (((List.range n).map f).map (Value.int .i64))[j]? = some u → w.cell? (ad.add j) = some u := by
  intro j u hj
  obtain ⟨h1, rfl⟩ := idsCells_get hj
  obtain ⟨b, off, e, hb, hc⟩ := h (by omega)
  cases e
  rw [Addr.add_lit]
  exact hc j h1
theorem oldCells_get {T : Nat → TabV} {k m j : Nat} {u : Value} (h : (oldCells T k m)[j]? = some u) : j / 3 < m ∧ [Value.int .i64 (T (k + j / 3)).mask, .slice (T (k + j / 3)).ia (T (k + j / 3)).il (T (k + j / 3)).ic, .slice (T (k + j / 3)).ra (T (k + j / 3)).rl (T (k + j / 3)).rc][j % 3]? = some u := by
  induction m generalizing k j with
  | zero => simp [oldCells] at h
  | succ m ih =>
    rw [old_head] at h
    by_cases hj : j < 3
    · rw [List.getElem?_append_left (by simpa using hj)] at h
      have e0 : j / 3 = 0 := by omega
      have e1 : j % 3 = j := by omega
      rw [e0, e1]
      exact ⟨by omega, h⟩
    · rw [List.getElem?_append_right (by simp; omega)] at h
      have h' := ih h
      simp only [List.length_cons, List.length_nil] at h'
      have e0 : j / 3 = (j - 3) / 3 + 1 := by omega
      have e1 : j % 3 = (j - 3) % 3 := by omega
      rw [e0, e1, show k + ((j - 3) / 3 + 1) = k + 1 + (j - 3) / 3 by omega]
      exact ⟨by omega, h'.2⟩
theorem TabsIn.cells {w : World} {ad : Addr} {n : Nat} {T : Nat → TabV} (h : TabsIn w (some ad) n T) : ∀ j u, (oldCells T 0 n)[j]? = some u → w.cell? (ad.add j) = some u := by
  intro j u hj
  obtain ⟨hn, h3⟩ := oldCells_get hj
  obtain ⟨b, off, e, hb, hc⟩ := h (by omega)
  cases e
  obtain ⟨c0, c1, c2⟩ := hc (j / 3) hn
  have ej : j = j / 3 * 3 + j % 3 := by omega
  rw [Addr.add_lit]
  have hm : j % 3 < 3 := by omega
  rw [Nat.zero_add] at h3
  generalize j / 3 = q at *
  generalize j % 3 = s at *
  subst ej
  rw [show off + (q * 3 + s) = off + q * 3 + s by omega]
  rcases s with _ | _ | _ | s
  · simp at h3; subst h3; exact c0
  · simp at h3; subst h3; exact c1
  · simp at h3; subst h3; exact c2
  · omega
theorem oldCells_one (T : Nat → TabV) (k m : Nat) : ∀ u ∈ oldCells T k m, u.oneCell' = true := by
  intro u hu
  simp only [oldCells, List.mem_flatMap] at hu
  obtain ⟨i, _, hu⟩ := hu
  simp at hu
  rcases hu with rfl | rfl | rfl <;> rfl
theorem rowCells_one (l : List R8) : ∀ u ∈ l.flatMap rowCells, u.oneCell' = true := by
  intro u hu
  simp only [List.mem_flatMap] at hu
  obtain ⟨r, _, hu⟩ := hu
  simp [rowCells] at hu
  rcases hu with rfl | rfl | rfl | rfl | rfl | rfl | rfl | rfl <;> rfl
theorem ints_one (l : List Int) : ∀ u ∈ l.map (Value.int .i64), u.oneCell' = true := by
  intro u hu
  simp at hu
  obtain ⟨x, _, rfl⟩ := hu
  rfl
end Go.Proofs.Ytckkkdldljhehaa.St
