/- Rows of boxes and of pairs in memory: what a sort by a comparison does to a row of one's own; how a row is read. Plain lemmas on worlds, no walk. -/
import Derived.Test.YtckkkdldljhehaaKtSwB
import Derived.Test.YtckkkdldljhehaaShelf
import Derived.Sort.OwnSortedInts
import Derived.Laws.OwnMore
import Derived.Lib.SmallJoins
namespace Go.Proofs.Ytckkkdldljhehaa.Sw
open Go.ChangeShapes Go.WideShapes Go.ChangeAt Go.RowKit Go.Sort Go.Shelf Go.Lib

def boxCells (b : B5) : List Value := [.int .i64 b.id, .int .i64 b.x1, .int .i64 b.y1, .int .i64 b.x2, .int .i64 b.y2]
def pairCells (p : Int × Int) : List Value := [.int .i64 p.1, .int .i64 p.2]
instance : Inhabited B5 := ⟨zeroB⟩

theorem flat_len {α : Type} (enc : α → List Value) (k : Nat) (hk : ∀ x, (enc x).length = k) (l : List α) : (l.flatMap enc).length = l.length * k := by
  induction l with
  | nil => simp
  | cons a l ih => simp only [List.flatMap_cons, List.length_append, ih, hk, List.length_cons, Nat.add_mul, Nat.one_mul]; omega
theorem flat_get {α : Type} (enc : α → List Value) (k : Nat) (hk : ∀ x, (enc x).length = k) (l : List α) (i q : Nat) (x : α) (hi : l[i]? = some x) (hq : q < k) : (l.flatMap enc)[i * k + q]? = (enc x)[q]? := by
  induction l generalizing i with
  | nil => simp at hi
  | cons a l ih =>
    rw [List.flatMap_cons]
    cases i with
    | zero =>
      simp at hi
      subst hi
      rw [Nat.zero_mul, Nat.zero_add, List.getElem?_append_left (by rw [hk]; exact hq)]
    | succ i =>
      have e : (i + 1) * k + q = k + (i * k + q) := by rw [Nat.add_mul, Nat.one_mul]; omega
      rw [List.getElem?_append_right (by rw [hk, e]; omega), hk, e, Nat.add_sub_cancel_left]
      exact ih i (by simpa using hi)
theorem flat_eq {α : Type} [Inhabited α] (enc : α → List Value) (k : Nat) (hk : ∀ x, (enc x).length = k) (l : List α) : (flatK enc k l.toArray).toList = l.flatMap enc := by
  apply List.ext_getElem?
  intro t
  by_cases ht : t < l.length * k
  · have k0 : 0 < k := by rcases Nat.eq_zero_or_pos k with h | h; · subst h; simp at ht
                          · exact h
    have hd : t / k < l.length := (Nat.div_lt_iff_lt_mul k0).2 ht
    have hm : t % k < k := Nat.mod_lt _ k0
    have e1 : l[t / k]? = some l[t / k] := List.getElem?_eq_getElem hd
    have e2 : t = t / k * k + t % k := by rw [Nat.mul_comm]; exact (Nat.div_add_mod t k).symm
    have h1 := flat_get enc k hk l (t / k) (t % k) _ e1 hm
    rw [← e2] at h1
    rw [h1]
    have hs : t < (flatK enc k l.toArray).size := by simpa using ht
    have h2 := get_flatK enc k l.toArray t (by simpa using ht)
    have h3 : l.toArray[t / k]! = l[t / k] := by simp [hd]
    rw [h3] at h2
    have h4 : t % k < (enc l[t / k]).length := by rw [hk]; exact hm
    rw [Array.getElem?_toList, Array.getElem?_eq_getElem hs, List.getElem?_eq_getElem h4]
    rw [getElem!_pos (flatK enc k l.toArray) t hs, getElem!_pos (enc l[t / k]) (t % k) h4] at h2
    rw [h2]
  · rw [List.getElem?_eq_none (by rw [Array.length_toList, size_flatK]; simpa using ht), List.getElem?_eq_none (by rw [flat_len enc k hk]; omega)]

theorem holdsK_of_owns {α : Type} [Inhabited α] (enc : α → List Value) (k : Nat) (hk : ∀ x, (enc x).length = k) {w : World} {B g n c : Nat} {e : TypeId} {l : List α} (h : w.ownsRow B e k (.slice (some ⟨g, 0, none⟩) n c) n (l.flatMap enc)) :
    HoldsK enc k w g 0 l.toArray := by
  intro j hj
  have hj' : j < l.length * k := by simpa using hj
  have hl : l.length * k = n * k := by rw [← flat_len enc k hk l]; exact h.1
  refine ⟨?_, by rw [Nat.zero_add]; exact h.frozenAt j⟩
  rw [Nat.zero_add, h.cellAt j (by omega), ← flat_eq enc k hk l, Array.getElem?_toList, Array.getElem?_eq_getElem hj, getElem!_pos (flatK enc k l.toArray) j hj]
  rfl
theorem heap_sortedK {α : Type} [Inhabited α] (enc : α → List Value) (k : Nat) {w : World} {g m : Nat} {os : Array Obj} {cur : Array Value} {e : TypeId} {fr : Nat × Nat} (d : Array α) (hb : w.heap[g]? = some (.cells cur e fr)) :
    (sortWorldK enc k w g 0 m d os).heap[g]? = some (.cells (putCells id 0 (flatK enc k d) cur) e fr) := by
  have hg : g < w.heap.size := (Array.getElem?_eq_some_iff.1 hb).1
  unfold sortWorldK putRowK
  rw [heap_grow_old _ _ (by simpa using hg)]
  simp [putRow, mapBlock, Sort.ahead, Array.getElem?_modify, hb, onCells]
theorem grownBy_sortedK {α : Type} [Inhabited α] (enc : α → List Value) (k : Nat) {w : World} {g m : Nat} {os : Array Obj} (d : Array α) : w.grownBy (sortWorldK enc k w g 0 m d os) (some g) := by
  unfold sortWorldK putRowK
  refine ⟨rfl, rfl, rfl, by simp, fun k hk hne => ?_⟩
  rw [heap_grow_old _ _ (by simpa using hk)]
  have : g ≠ k := fun e => hne (by rw [e])
  simp [putRow, mapBlock, Sort.ahead, Array.getElem?_modify, this]
theorem take_putCellsV (cur F : Array Value) (h : F.size ≤ cur.size) : (putCells id 0 F cur).toList.take F.size = F.toList := by
  apply List.ext_getElem?
  intro j
  by_cases hj : j < F.size
  · rw [List.getElem?_take_of_lt hj, Array.getElem?_toList]
    simp [putCells, hj, show j < cur.size by omega]
  · rw [List.getElem?_take_eq_none (by omega), List.getElem?_eq_none (by simp; omega)]
theorem owns_sortedK {α : Type} [Inhabited α] (enc : α → List Value) (k : Nat) (hk : ∀ x, (enc x).length = k) {w : World} {B g n c m : Nat} {e : TypeId} {os : Array Obj} {xs : List Value} (h : w.ownsRow B e k (.slice (some ⟨g, 0, none⟩) n c) n xs) (l : List α) (hl : l.length = n) :
    (sortWorldK enc k w g 0 m l.toArray os).ownsRow B e k (.slice (some ⟨g, 0, none⟩) n c) n (l.flatMap enc) := by
  rcases h.2 with ⟨e0, _⟩ | ⟨g', c', cur, e0, hB, hb, h1, h2, h3, h4⟩
  · cases e0
  · cases e0
    refine ⟨by rw [flat_len enc k hk, hl], .inr ⟨g, c, _, rfl, hB, heap_sortedK enc k _ hb, h1, h2, by simp [putCells, h3], ?_⟩⟩
    have hs : (flatK enc k l.toArray).size = n * k := by simp [hl]
    rw [← flat_eq enc k hk l, ← hs]
    exact take_putCellsV cur _ (by rw [hs, h3]; exact Nat.mul_le_mul_right k h1)

/-- The boxes of a list lie at a. -/
def BoxL (w : World) (a : Option Addr) (l : List B5) : Prop :=
  0 < l.length → ∃ b off, a = some ⟨b, off, none⟩ ∧ b < w.heap.size ∧ ∀ i x, l[i]? = some x →
    w.cell? ⟨b, off + i * 5, none⟩ = some (.int .i64 x.id) ∧ w.cell? ⟨b, off + i * 5 + 1, none⟩ = some (.int .i64 x.x1) ∧ w.cell? ⟨b, off + i * 5 + 2, none⟩ = some (.int .i64 x.y1) ∧
    w.cell? ⟨b, off + i * 5 + 3, none⟩ = some (.int .i64 x.x2) ∧ w.cell? ⟨b, off + i * 5 + 4, none⟩ = some (.int .i64 x.y2)
theorem BoxL.below {w w' : World} {a : Option Addr} {l : List B5} (h : BoxL w a l) (hb : Below w.heap.size w w') : BoxL w' a l := by
  intro hp
  obtain ⟨b, off, e, hl, hc⟩ := h hp
  have k := fun o => hb.cell (p := ⟨b, o, none⟩) hl
  exact ⟨b, off, e, Nat.lt_of_lt_of_le hl hb.size, fun i x hi => by simp only [k]; exact hc i x hi⟩
theorem box_at {w : World} {B g n c : Nat} {l : List B5} (h : w.ownsRow B 70 5 (.slice (some ⟨g, 0, none⟩) n c) n (l.flatMap boxCells)) {i : Nat} {x : B5} (hi : l[i]? = some x) :
    w.cell? ⟨g, i * 5, none⟩ = some (.int .i64 x.id) ∧ w.cell? ⟨g, i * 5 + 1, none⟩ = some (.int .i64 x.x1) ∧ w.cell? ⟨g, i * 5 + 2, none⟩ = some (.int .i64 x.y1) ∧
    w.cell? ⟨g, i * 5 + 3, none⟩ = some (.int .i64 x.x2) ∧ w.cell? ⟨g, i * 5 + 4, none⟩ = some (.int .i64 x.y2) := by
  have hlt : i < l.length := (List.getElem?_eq_some_iff.1 hi).1
  have hl : l.length * 5 = n * 5 := by rw [← flat_len boxCells 5 (fun _ => rfl) l]; exact h.1
  have key : ∀ q, q < 5 → w.cell? ⟨g, i * 5 + q, none⟩ = (boxCells x)[q]? := fun q hq => by
    rw [h.cellAt _ (by omega), flat_get boxCells 5 (fun _ => rfl) l i q x hi hq]
  exact ⟨key 0 (by omega), key 1 (by omega), key 2 (by omega), key 3 (by omega), key 4 (by omega)⟩
theorem pair_at {w : World} {B g n c : Nat} {l : List (Int × Int)} (h : w.ownsRow B 79 2 (.slice (some ⟨g, 0, none⟩) n c) n (l.flatMap pairCells)) {i : Nat} {x : Int × Int} (hi : l[i]? = some x) :
    w.cell? ⟨g, i * 2, none⟩ = some (.int .i64 x.1) ∧ w.cell? ⟨g, i * 2 + 1, none⟩ = some (.int .i64 x.2) := by
  have hlt : i < l.length := (List.getElem?_eq_some_iff.1 hi).1
  have hl : l.length * 2 = n * 2 := by rw [← flat_len pairCells 2 (fun _ => rfl) l]; exact h.1
  have key : ∀ q, q < 2 → w.cell? ⟨g, i * 2 + q, none⟩ = (pairCells x)[q]? := fun q hq => by
    rw [h.cellAt _ (by omega), flat_get pairCells 2 (fun _ => rfl) l i q x hi hq]
  exact ⟨key 0 (by omega), key 1 (by omega)⟩
theorem grown_of_below {w w' : World} (h : Below w.heap.size w w') : w.grownBy w' none := ⟨h.os, h.tape, h.output, h.size, fun k hk _ => h.block k hk⟩
theorem owns_below {w w' : World} {B size n : Nat} {e : TypeId} {v : Value} {xs : List Value} (h : w.ownsRow B e size v n xs) (hb : Below w.heap.size w w') : w'.ownsRow B e size v n xs := by
  refine h.kept (grown_of_below hb) ?_
  cases v.ownBlock <;> simp
theorem owns_kept {w w' : World} {B size n : Nat} {e : TypeId} {v : Value} {xs : List Value} {row : Option Nat} (h : w.ownsRow B e size v n xs) (hg : w.grownBy w' row) (hne : ∀ g, v.ownBlock = some g → row ≠ some g) : w'.ownsRow B e size v n xs := by
  refine h.kept hg ?_
  cases hv : v.ownBlock with
  | none => exact Or.inl rfl
  | some g => exact Or.inr (fun e => hne g hv e.symm)
theorem owns_mono {w : World} {B B' size n : Nat} {e : TypeId} {v : Value} {xs : List Value} (h : w.ownsRow B e size v n xs) (hb : B' ≤ B) : w.ownsRow B' e size v n xs := Joins.ownsRow_le h hb
end Go.Proofs.Ytckkkdldljhehaa.Sw
