/- Tables in memory of one's own: each list in a block of its own. What a copy table by table, and a store into one block, do to them. Plain lemmas on worlds, no walk. -/
import Derived.Test.YtckkkdldljhehaaStFind
import Derived.Laws.OwnMore
import Derived.Lib.SmallJoins
namespace Go.Proofs.Ytckkkdldljhehaa.St
open Go.Proofs.Ytckkkdldljhehaa.Num
open Go.ChangeShapes Go.WideShapes Go.ChangeAt Go.RowKit

/-- A table's plain content. -/
structure Tab where
  mask : Int
  ids : List Int
  rows : List R8
/-- A table of one's own: its content, the slices of its numbers and of its rows. -/
structure OT where
  t : Tab
  iv : Value
  rv : Value
def rowCells (r : R8) : List Value := [.int .i64 r.x, .int .i64 r.y, .int .i64 r.px, .int .i64 r.py, .int .i64 r.wd, .int .i64 r.ht, .int .i64 r.ms, .int .i64 r.rr]
def otCells (o : OT) : List Value := [.int .i64 o.t.mask, o.iv, o.rv]
def tabCells (S : List OT) : List Value := S.flatMap otCells
def OtOwn (w : World) (B : Nat) (o : OT) : Prop :=
  w.ownsRow B 3 1 o.iv o.t.ids.length (o.t.ids.map (Value.int .i64)) ∧ w.ownsRow B 30 8 o.rv o.t.rows.length (o.t.rows.flatMap rowCells)
def otBlocks (o : OT) : List Nat := o.iv.ownBlock.toList ++ o.rv.ownBlock.toList
def blocks (S : List OT) : List Nat := S.flatMap otBlocks
def Own (w : World) (B : Nat) (v : Value) (S : List OT) : Prop :=
  w.ownsRow B 66 3 v S.length (tabCells S) ∧ (∀ o ∈ S, OtOwn w B o) ∧ (v.ownBlock.toList ++ blocks S).Nodup
def tabOf (T : Nat → TabV) (I : Nat → Nat → Int) (R : Nat → Nat → R8) (i : Nat) : Tab := ⟨(T i).mask, (List.range (T i).il).map (I i), (List.range (T i).rl).map (R i)⟩
def plainOf (T : Nat → TabV) (I : Nat → Nat → Int) (R : Nat → Nat → R8) (n : Nat) : List Tab := (List.range n).map (tabOf T I R)
def oldCells (T : Nat → TabV) (k m : Nat) : List Value := (List.range' k m).flatMap fun i => [.int .i64 (T i).mask, .slice (T i).ia (T i).il (T i).ic, .slice (T i).ra (T i).rl (T i).rc]

theorem tabCells_length (S : List OT) : (tabCells S).length = S.length * 3 := by
  induction S with
  | nil => rfl
  | cons o S ih => simp only [tabCells, List.flatMap_cons, List.length_append] at *; simp [otCells, ih]; omega
theorem oldCells_length (T : Nat → TabV) (k m : Nat) : (oldCells T k m).length = m * 3 := by
  induction m generalizing k with
  | zero => rfl
  | succ m ih => simp only [oldCells, List.range'_succ, List.flatMap_cons, List.length_append] at *; rw [ih]; simp; omega
theorem rows_length (l : List R8) : (l.flatMap rowCells).length = l.length * 8 := by
  induction l with
  | nil => rfl
  | cons r l ih => simp only [List.flatMap_cons, List.length_append, ih, rowCells]; simp; omega

theorem set_app (A X : List Value) (i j : Nat) (u : Value) (h : i = A.length + j) : (A ++ X).set i u = A ++ X.set j u := by
  subst h
  induction A with
  | nil => simp
  | cons a A ih => simp only [List.cons_append, List.length_cons, show A.length + 1 + j = (A.length + j) + 1 by omega, List.set_cons_succ, ih]

theorem grown_of_below {w w' : World} (h : Below w.heap.size w w') : w.grownBy w' none := ⟨h.os, h.tape, h.output, h.size, fun k hk _ => h.block k hk⟩
theorem owns_below {w w' : World} {B size n : Nat} {e : TypeId} {v : Value} {xs : List Value} (h : w.ownsRow B e size v n xs) (hb : Below w.heap.size w w') : w'.ownsRow B e size v n xs := by
  refine h.kept (grown_of_below hb) ?_
  cases v.ownBlock <;> simp
theorem grown_set (w : World) (g j : Nat) (u : Value) : w.grownBy (w.setCell ⟨g, j, none⟩ u) (some g) :=
  ⟨rfl, rfl, rfl, by simp [World.setCell], fun k _ hk => Below.heap_setCell _ _ _ _ (fun e => hk (by simp [e]))⟩
theorem owns_set {w : World} {B size n : Nat} {e : TypeId} {v : Value} {xs : List Value} (h : w.ownsRow B e size v n xs) {g : Nat} (hne : v.ownBlock ≠ some g) (j : Nat) (u : Value) : (w.setCell ⟨g, j, none⟩ u).ownsRow B e size v n xs :=
  h.kept (grown_set w g j u) (Or.inr hne)
theorem otOwn_below {w w' : World} {B : Nat} {o : OT} (h : OtOwn w B o) (hb : Below w.heap.size w w') : OtOwn w' B o := ⟨owns_below h.1 hb, owns_below h.2 hb⟩
theorem otOwn_set {w : World} {B : Nat} {o : OT} (h : OtOwn w B o) {g : Nat} (hne : g ∉ otBlocks o) (j : Nat) (u : Value) : OtOwn (w.setCell ⟨g, j, none⟩ u) B o := by
  simp only [otBlocks, List.mem_append, not_or, Option.mem_toList] at hne
  exact ⟨owns_set h.1 (fun e => hne.1 (by simp [e])) j u, owns_set h.2 (fun e => hne.2 (by simp [e])) j u⟩
theorem owns_mono {w : World} {B B' size n : Nat} {e : TypeId} {v : Value} {xs : List Value} (h : w.ownsRow B e size v n xs) (hb : B' ≤ B) : w.ownsRow B' e size v n xs := Joins.ownsRow_le h hb
theorem blocks_lt {w : World} {B : Nat} {S : List OT} (h : ∀ o ∈ S, OtOwn w B o) : ∀ b ∈ blocks S, B ≤ b ∧ b < w.heap.size := by
  intro b hb
  simp only [blocks, List.mem_flatMap, otBlocks, List.mem_append, Option.mem_toList] at hb
  obtain ⟨o, ho, hb | hb⟩ := hb
  · exact (h o ho).1.lt b (by simpa using hb)
  · exact (h o ho).2.lt b (by simpa using hb)

/-- The copy, k tables done. -/
structure CInv (T : Nat → TabV) (I : Nat → Nat → Int) (R : Nat → Nat → R8) (w : World) (B g c n k : Nat) (D : List OT) : Prop where
  tabs : w.ownsRow B 66 3 (.slice (some ⟨g, 0, none⟩) n c) n (tabCells D ++ oldCells T k (n - k))
  len : D.length = k
  plain : D.map (·.t) = plainOf T I R k
  own : ∀ o ∈ D, OtOwn w B o
  apart : (g :: blocks D).Nodup

theorem CInv.below {T : Nat → TabV} {I : Nat → Nat → Int} {R : Nat → Nat → R8} {w w' : World} {B g c n k : Nat} {D : List OT} (h : CInv T I R w B g c n k D) (hb : Below w.heap.size w w') : CInv T I R w' B g c n k D :=
  ⟨owns_below h.tabs hb, h.len, h.plain, fun o ho => otOwn_below (h.own o ho) hb, h.apart⟩

theorem old_head (T : Nat → TabV) (k m : Nat) : oldCells T k (m + 1) = [.int .i64 (T k).mask, .slice (T k).ia (T k).il (T k).ic, .slice (T k).ra (T k).rl (T k).rc] ++ oldCells T (k + 1) m := by
  simp [oldCells, List.range'_succ]

theorem CInv.cell {T : Nat → TabV} {I : Nat → Nat → Int} {R : Nat → Nat → R8} {w : World} {B g c n k : Nat} {D : List OT} (h : CInv T I R w B g c n k D) (hk : k < n) :
    w.cell? ⟨g, k * 3, none⟩ = some (.int .i64 (T k).mask) ∧ w.cell? ⟨g, k * 3 + 1, none⟩ = some (.slice (T k).ia (T k).il (T k).ic) ∧ w.cell? ⟨g, k * 3 + 2, none⟩ = some (.slice (T k).ra (T k).rl (T k).rc) := by
  have hl : (tabCells D).length = k * 3 := by rw [tabCells_length, h.len]
  obtain ⟨m, hm⟩ : ∃ m, n - k = m + 1 := ⟨n - k - 1, by omega⟩
  have hx := h.tabs
  rw [hm, old_head] at hx
  refine ⟨?_, ?_, ?_⟩
  · rw [hx.cellAt _ (by omega), List.getElem?_append_right (by omega), hl]; simp
  · rw [hx.cellAt _ (by omega), List.getElem?_append_right (by omega), hl, show k * 3 + 1 - k * 3 = 1 by omega]; simp
  · rw [hx.cellAt _ (by omega), List.getElem?_append_right (by omega), hl, show k * 3 + 2 - k * 3 = 2 by omega]; simp

theorem clone_step {T : Nat → TabV} {I : Nat → Nat → Int} {R : Nat → Nat → R8} {wr w1 w3 : World} {B g c n k : Nat} {D : List OT} {iv rv : Value} (h : CInv T I R wr B g c n k D) (hk : k < n) (hB : B ≤ wr.heap.size)
    (hb1 : Below wr.heap.size wr w1) (hi : w1.ownsRow wr.heap.size 3 1 iv (T k).il (((List.range (T k).il).map (I k)).map (Value.int .i64)))
    (hb3 : Below w1.heap.size (w1.setCell ⟨g, k * 3 + 1, none⟩ iv) w3) (hr : w3.ownsRow w1.heap.size 30 8 rv (T k).rl (((List.range (T k).rl).map (R k)).flatMap rowCells)) :
    CInv T I R (w3.setCell ⟨g, k * 3 + 2, none⟩ rv) B g c n (k + 1) (D ++ [⟨tabOf T I R k, iv, rv⟩]) := by
  have hgB := h.tabs.lt g rfl
  have hz1 := hb1.size
  have hz3 := hb3.size
  have hs : (w1.setCell ⟨g, k * 3 + 1, none⟩ iv).heap.size = w1.heap.size := by simp [World.setCell]
  rw [hs] at hz3
  have hb3' : Below (w1.setCell ⟨g, k * 3 + 1, none⟩ iv).heap.size (w1.setCell ⟨g, k * 3 + 1, none⟩ iv) w3 := by rw [hs]; exact hb3
  have hl : (tabCells D).length = k * 3 := by rw [tabCells_length, h.len]
  obtain ⟨m, hm⟩ : ∃ m, n - k = m + 1 := ⟨n - k - 1, by omega⟩
  have hx := h.tabs
  rw [hm, old_head] at hx
  have hx1 := (owns_below hx hb1).stored (k * 3 + 1) iv
  have hx2 := (owns_below hx1.1 hb3').stored (k * 3 + 2) rv
  have hiv : iv.ownBlock ≠ some g := fun e => by have := hi.lt g e; omega
  have hrv : rv.ownBlock ≠ some g := fun e => by have := hr.lt g e; omega
  have hDlt := blocks_lt h.own
  have hgD : g ∉ blocks D := (List.nodup_cons.1 h.apart).1
  refine ⟨?_, by simp [h.len], ?_, ?_, ?_⟩
  · have e : ((tabCells D ++ ([Value.int .i64 (T k).mask, Value.slice (T k).ia (T k).il (T k).ic, Value.slice (T k).ra (T k).rl (T k).rc] ++ oldCells T (k + 1) m)).set (k * 3 + 1) iv).set (k * 3 + 2) rv
        = tabCells (D ++ [⟨tabOf T I R k, iv, rv⟩]) ++ oldCells T (k + 1) (n - (k + 1)) := by
      rw [show n - (k + 1) = m by omega]
      rw [set_app _ _ _ 1 _ (by omega), set_app _ _ _ 2 _ (by omega)]
      simp [tabCells, otCells, tabOf]
    rw [← e]
    exact hx2.1
  · simp [h.plain, plainOf, List.range_succ]
  · intro o ho
    rcases List.mem_append.1 ho with ho | ho
    · have hne : g ∉ otBlocks o := fun hg => hgD (List.mem_flatMap.2 ⟨o, ho, hg⟩)
      exact otOwn_set (otOwn_below (otOwn_set (otOwn_below (h.own o ho) hb1) hne _ _) hb3') hne _ _
    · simp only [List.mem_singleton] at ho
      subst ho
      refine ⟨?_, ?_⟩
      · have := owns_set (owns_below (owns_set hi hiv (k * 3 + 1) iv) hb3') hiv (k * 3 + 2) rv
        simpa [tabOf] using owns_mono this hB
      · have := owns_set hr hrv (k * 3 + 2) rv
        simpa [tabOf] using owns_mono this (by omega)
  · have hnd := List.nodup_cons.1 h.apart
    have e : g :: blocks (D ++ [⟨tabOf T I R k, iv, rv⟩]) = (g :: blocks D) ++ (iv.ownBlock.toList ++ rv.ownBlock.toList) := by simp [blocks, otBlocks]
    rw [e, List.nodup_append]
    refine ⟨h.apart, ?_, ?_⟩
    · cases ei : iv.ownBlock with
      | none => cases rv.ownBlock <;> simp
      | some bi =>
        cases er : rv.ownBlock with
        | none => simp
        | some br =>
          have h1 := hi.lt bi ei
          have h2 := hr.lt br er
          simp; omega
    · intro x hx y hy
      have hxlt : x < wr.heap.size := by
        rcases List.mem_cons.1 hx with rfl | hx
        · exact hgB.2
        · exact (hDlt x hx).2
      rcases List.mem_append.1 hy with hy | hy
      · have := hi.lt y (by simpa using hy); omega
      · have := hr.lt y (by simpa using hy); omega
end Go.Proofs.Ytckkkdldljhehaa.St
