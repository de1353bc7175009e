/- What copied of package ninepinslaw answers when called over a store in memory: the same tables in memory of their own; nothing that was in memory before has changed. -/
import Derived.Test.YtckkkdldljhehaaPkC
import Derived.Test.YtckkkdldljhehaaKtApC
import Derived.Deep.RegionHeld3
import Derived.Deep.RegionLaw
import Derived.Deep.DrawnRows
import Derived.Deep.DeepCutAuto
namespace Go.Proofs.Ytckkkdldljhehaa.Cp
open Go.Proofs.Ytckkkdldljhehaa.Num Go.Proofs.Ytckkkdldljhehaa.St
open Go.ChangeShapes Go.WideShapes Go.ChangeAt Go.RowKit

theorem info66 : (Try.prog.info? 66).map (fun i => (i.zero, i.size, i.bytes)) = some (some (.agg #[.int .i64 0, .slice none 0 0, .slice none 0 0]), 3, 56) := by kernel_rfl
theorem below_n {w0 w w' : World} (h : Below w0.heap.size w0 w) (hg : w.grownBy w' none) : Below w0.heap.size w0 w' := h.grown hg h.size (fun q hq => by cases hq)
theorem ints_one (l : List Int) : ∀ u ∈ l.map (Value.int .i64), u.oneCell' = true := by
  intro u hu
  obtain ⟨x, _, rfl⟩ := List.mem_map.1 hu
  rfl
theorem rows_one (l : List R8) : ∀ u ∈ l.flatMap rowCells, u.oneCell' = true := by
  intro u hu
  obtain ⟨x, _, hx⟩ := List.mem_flatMap.1 hu
  simp [rowCells] at hx
  rcases hx with rfl | rfl | rfl | rfl | rfl | rfl | rfl | rfl <;> rfl
theorem rows_len (l : List R8) : (l.flatMap rowCells).length = l.length * 8 := by
  induction l with
  | nil => rfl
  | cons r l ih => rw [List.flatMap_cons, List.length_append, ih, List.length_cons]; simp [rowCells]; omega
/-- The cells of a list of numbers in memory. -/
theorem ids_src {W : World} {a : Option Addr} {n : Nat} {f : Nat → Int} (h : IdsIn W a n f) : 0 < n → ∃ ad, a = some ad ∧ ∀ j u, (((List.range n).map f).map (Value.int .i64))[j]? = some u → W.cell? (ad.add j) = some u := by
  intro hp
  obtain ⟨b, off, rfl, _, hc⟩ := h hp
  refine ⟨_, rfl, fun j u hj => ?_⟩
  have hjn : j < n := by have := (List.getElem?_eq_some_iff.1 hj).1; simpa using this
  rw [List.getElem?_map, List.getElem?_map, List.getElem?_range hjn] at hj
  simp at hj
  subst hj
  rw [Addr.add_lit]
  exact hc j hjn
theorem rows_src {W : World} {a : Option Addr} {n : Nat} {f : Nat → R8} (h : St.RowsIn W a n f) : 0 < n → ∃ ad, a = some ad ∧ ∀ j u, (((List.range n).map f).flatMap rowCells)[j]? = some u → W.cell? (ad.add j) = some u := by
  intro hp
  obtain ⟨b, off, rfl, _, hc⟩ := h hp
  refine ⟨_, rfl, fun j u hj => ?_⟩
  have hl := rows_len ((List.range n).map f)
  rw [List.length_map, List.length_range] at hl
  have hjn : j < n * 8 := by have := (List.getElem?_eq_some_iff.1 hj).1; omega
  have e : j = (j / 8) * 8 + j % 8 := by omega
  rw [e, flat_get _ _ _ (by simp; omega) (by omega)] at hj
  have hd : ((List.range n).map f).getD (j / 8) zeroR = f (j / 8) := by
    rw [List.getD, List.getElem?_map, List.getElem?_range (by omega)]
    rfl
  rw [hd] at hj
  obtain ⟨r0, r1, r2, r3, r4, r5, r6, r7⟩ := hc (j / 8) (by omega)
  rw [Addr.add_lit, e]
  have h8 : j % 8 < 8 := by omega
  generalize j % 8 = s at hj h8 ⊢
  match s, h8 with
  | 0, _ => simp [rowCells] at hj; subst hj; simpa [Nat.add_assoc] using r0
  | 1, _ => simp [rowCells] at hj; subst hj; simpa [Nat.add_assoc] using r1
  | 2, _ => simp [rowCells] at hj; subst hj; simpa [Nat.add_assoc] using r2
  | 3, _ => simp [rowCells] at hj; subst hj; simpa [Nat.add_assoc] using r3
  | 4, _ => simp [rowCells] at hj; subst hj; simpa [Nat.add_assoc] using r4
  | 5, _ => simp [rowCells] at hj; subst hj; simpa [Nat.add_assoc] using r5
  | 6, _ => simp [rowCells] at hj; subst hj; simpa [Nat.add_assoc] using r6
  | 7, _ => simp [rowCells] at hj; subst hj; simpa [Nat.add_assoc] using r7
theorem rowIs3 (w : World) (x y z : Value) (t : TypeId) : (w.alloc (.cells #[x, y, z] t)).rowIs w.heap.size t 3 (fun i => if i = 0 then x else if i = 1 then y else z) :=
  ⟨_, (MapKept.heap_alloc w _).1, rfl, fun i hi => by
    match i, hi with
    | 0, _ => rfl
    | 1, _ => rfl
    | 2, _ => rfl⟩
theorem tcs {W : World} {tb : Nat} {x y z : Value} (h : W.rowIs tb 66 3 (fun i => if i = 0 then x else if i = 1 then y else z)) : W.cell? ⟨tb, 0, none⟩ = some x ∧ W.cell? ⟨tb, 1, none⟩ = some y ∧ W.cell? ⟨tb, 2, none⟩ = some z :=
  ⟨h.cell (i := 0) (by omega), h.cell (i := 1) (by omega), h.cell (i := 2) (by omega)⟩
/-- One more table. -/
theorem own_snoc {W W' : World} {B : Nat} {v v' : Value} {S : List OT} {o : OT} (h : Own W B v S) (ho : OtOwn W B o) (hd : (otBlocks o).Nodup) (hn : ∀ z ∈ otBlocks o, z ∉ v.ownBlock.toList ++ blocks S) (hg : W.grownBy W' v.ownBlock)
    (hi : W'.ownsRow B 66 3 v' (S.length + 1) (tabCells S ++ otCells o)) (hat : v'.ownBlock = v.ownBlock ∨ v'.ownBlock = some W.heap.size) : Own W' B v' (S ++ [o]) := by
  obtain ⟨h1, h2, h3⟩ := h
  have hbl := blocks_lt h2
  have hbo : ∀ z ∈ otBlocks o, z < W.heap.size := fun z hz => (blocks_lt (S := [o]) (fun x hx => by rw [List.mem_singleton.1 hx]; exact ho) z (by simpa [blocks] using hz)).2
  have hvb : ∀ z ∈ blocks S, v.ownBlock ≠ some z := by
    intro z hz e
    rw [List.nodup_append] at h3
    exact h3.2.2 z (by simp [e]) z hz rfl
  have hb : blocks (S ++ [o]) = blocks S ++ otBlocks o := by simp [blocks]
  refine ⟨?_, ?_, ?_⟩
  · rw [List.length_append, show tabCells (S ++ [o]) = tabCells S ++ otCells o by simp [tabCells]]
    exact hi
  · intro x hx
    rcases List.mem_append.1 hx with hx | hx
    · exact otOwn_kept (h2 x hx) hg (fun z hz => hvb z (List.mem_flatMap.2 ⟨x, hx, hz⟩))
    · rw [List.mem_singleton.1 hx]
      exact otOwn_kept ho hg (fun z hz e => hn z hz (List.mem_append.2 (Or.inl (by simp [e]))))
  · rw [hb, ← List.append_assoc]
    have hS : (v'.ownBlock.toList ++ blocks S).Nodup := by
      rcases hat with e | e
      · rw [e]; exact h3
      · rw [e, List.nodup_append]
        rw [List.nodup_append] at h3
        refine ⟨by simp, h3.2.1, fun x hx z hz e' => ?_⟩
        simp at hx
        have := (hbl z hz).2
        omega
    rw [List.nodup_append]
    refine ⟨hS, hd, fun x hx z hz e' => ?_⟩
    subst e'
    rcases List.mem_append.1 hx with hx | hx
    · rcases hat with e | e
      · exact hn x hz (List.mem_append.2 (Or.inl (by rw [← e]; exact hx)))
      · rw [e] at hx
        simp at hx
        have := hbo x hz
        omega
    · exact hn x hz (List.mem_append.2 (Or.inr hx))
end Go.Proofs.Ytckkkdldljhehaa.Cp
