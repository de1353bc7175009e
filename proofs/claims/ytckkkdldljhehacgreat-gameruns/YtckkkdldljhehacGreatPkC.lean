/- Part of the proofs of GamePlays and GameRuns (package ninepinslaw): contracts of the functions that they call. -/
import Derived.Laws.OwnMore
import Derived.Lib.SmallJoins
import Derived.Lib.SliceRun
import Derived.Deep.OwnRows
import Derived.Maps.AppendAt
import Derived.Deep.RegionLaw
import Derived.Deep.RegionHeld3
import Derived.Test.YtckkkdldljhehacGreatPkB
namespace Go.Proofs.YtckkkdldljhehacGreat
namespace St
open Num
open Go.ChangeShapes Go.WideShapes Go.ChangeAt Go.RowKit
structure Tab where
 mask : Int
 ids : List Int
 rows : List R8
structure OT where
 t : Tab
 iv : Value
 rv : Value
def rowCells (r : R8) : List Value := [.int .i64 r.x, .int .i64 r.y, .int .i64 r.px, .int .i64 r.py, .int .i64 r.wd, .int .i64 r.ht, .int .i64 r.ms, .int .i64 r.rr]
def otCells (o : OT) : List Value := [.int .i64 o.t.mask, o.iv, o.rv]
def tabCells (S : List OT) : List Value := S.flatMap otCells
def OtOwn (w : World) (B : Nat) (o : OT) : Prop :=
 w.ownsRow B 3 1 o.iv o.t.ids.length (o.t.ids.map (Value.int .i64)) ∧ w.ownsRow B 34 8 o.rv o.t.rows.length (o.t.rows.flatMap rowCells)
def otBlocks (o : OT) : List Nat := o.iv.ownBlock.toList ++ o.rv.ownBlock.toList
def blocks (S : List OT) : List Nat := S.flatMap otBlocks
def Own (w : World) (B : Nat) (v : Value) (S : List OT) : Prop :=
 w.ownsRow B 65 3 v S.length (tabCells S) ∧ (∀ o ∈ S, OtOwn w B o) ∧ (v.ownBlock.toList ++ blocks S).Nodup
def tabOf (T : Nat → TabV) (I : Nat → Nat → Int) (R : Nat → Nat → R8) (i : Nat) : Tab := ⟨(T i).mask, (List.range (T i).il).map (I i), (List.range (T i).rl).map (R i)⟩
def plainOf (T : Nat → TabV) (I : Nat → Nat → Int) (R : Nat → Nat → R8) (n : Nat) : List Tab := (List.range n).map (tabOf T I R)
def oldCells (T : Nat → TabV) (k m : Nat) : List Value := (List.range' k m).flatMap fun i => [.int .i64 (T i).mask, .slice (T i).ia (T i).il (T i).ic, .slice (T i).ra (T i).rl (T i).rc]
theorem tabCells_length (S : List OT) : (tabCells S).length = S.length * 3 := by
 induction S with
 | nil => rfl
 | cons o S ih => simp only [tabCells, List.flatMap_cons, List.length_append] at *; simp [otCells, ih]; omega
theorem oldCells_length (T : Nat → TabV) (k m : Nat) : (oldCells T k m).length = m * 3 := by
 induction m generalizing k with
 | zero => rfl
 | succ m ih => simp only [oldCells, List.range'_succ, List.flatMap_cons, List.length_append] at *; rw [ih]; simp; omega
theorem rows_length (l : List R8) : (l.flatMap rowCells).length = l.length * 8 := by
 induction l with
 | nil => rfl
 | cons r l ih => simp only [List.flatMap_cons, List.length_append, ih, rowCells]; simp; omega
theorem set_app (A X : List Value) (i j : Nat) (u : Value) (h : i = A.length + j) : (A ++ X).set i u = A ++ X.set j u := by
 subst h
 induction A with
 | nil => simp
 | cons a A ih => simp only [List.cons_append, List.length_cons, show A.length + 1 + j = (A.length + j) + 1 by omega, List.set_cons_succ, ih]
theorem grown_of_below {w w' : World} (h : Below w.heap.size w w') : w.grownBy w' none := ⟨h.os, h.tape, h.output, h.size, fun k hk _ => h.block k hk⟩
theorem owns_below {w w' : World} {B size n : Nat} {e : TypeId} {v : Value} {xs : List Value} (h : w.ownsRow B e size v n xs) (hb : Below w.heap.size w w') : w'.ownsRow B e size v n xs := by
 refine h.kept (grown_of_below hb) ?_
 cases v.ownBlock <;> simp
theorem grown_set (w : World) (g j : Nat) (u : Value) : w.grownBy (w.setCell ⟨g, j, none⟩ u) (some g) :=
 ⟨rfl, rfl, rfl, by simp [World.setCell], fun k _ hk => Below.heap_setCell _ _ _ _ (fun e => hk (by simp [e]))⟩
theorem owns_set {w : World} {B size n : Nat} {e : TypeId} {v : Value} {xs : List Value} (h : w.ownsRow B e size v n xs) {g : Nat} (hne : v.ownBlock ≠ some g) (j : Nat) (u : Value) : (w.setCell ⟨g, j, none⟩ u).ownsRow B e size v n xs :=
 h.kept (grown_set w g j u) (Or.inr hne)
theorem otOwn_below {w w' : World} {B : Nat} {o : OT} (h : OtOwn w B o) (hb : Below w.heap.size w w') : OtOwn w' B o := ⟨owns_below h.1 hb, owns_below h.2 hb⟩
theorem otOwn_set {w : World} {B : Nat} {o : OT} (h : OtOwn w B o) {g : Nat} (hne : g ∉ otBlocks o) (j : Nat) (u : Value) : OtOwn (w.setCell ⟨g, j, none⟩ u) B o := by
 simp only [otBlocks, List.mem_append, not_or, Option.mem_toList] at hne
 exact ⟨owns_set h.1 (fun e => hne.1 (by simp [e])) j u, owns_set h.2 (fun e => hne.2 (by simp [e])) j u⟩
theorem owns_mono {w : World} {B B' size n : Nat} {e : TypeId} {v : Value} {xs : List Value} (h : w.ownsRow B e size v n xs) (hb : B' ≤ B) : w.ownsRow B' e size v n xs := Joins.ownsRow_le h hb
theorem blocks_lt {w : World} {B : Nat} {S : List OT} (h : ∀ o ∈ S, OtOwn w B o) : ∀ b ∈ blocks S, B ≤ b ∧ b < w.heap.size := by
 intro b hb
 simp only [blocks, List.mem_flatMap, otBlocks, List.mem_append, Option.mem_toList] at hb
 obtain ⟨o, ho, hb | hb⟩ := hb
 ·exact (h o ho).1.lt b (by simpa using hb)
 ·exact (h o ho).2.lt b (by simpa using hb)
structure CInv (T : Nat → TabV) (I : Nat → Nat → Int) (R : Nat → Nat → R8) (w : World) (B g c n k : Nat) (D : List OT) : Prop where
 tabs : w.ownsRow B 65 3 (.slice (some ⟨g, 0, none⟩) n c) n (tabCells D ++ oldCells T k (n - k))
 len : D.length = k
 plain : D.map (·.t) = plainOf T I R k
 own : ∀ o ∈ D, OtOwn w B o
 apart : (g :: blocks D).Nodup
theorem CInv.below {T : Nat → TabV} {I : Nat → Nat → Int} {R : Nat → Nat → R8} {w w' : World} {B g c n k : Nat} {D : List OT} (h : CInv T I R w B g c n k D) (hb : Below w.heap.size w w') : CInv T I R w' B g c n k D :=
 ⟨owns_below h.tabs hb, h.len, h.plain, fun o ho => otOwn_below (h.own o ho) hb, h.apart⟩
theorem old_head (T : Nat → TabV) (k m : Nat) : oldCells T k (m + 1) = [.int .i64 (T k).mask, .slice (T k).ia (T k).il (T k).ic, .slice (T k).ra (T k).rl (T k).rc] ++ oldCells T (k + 1) m := by
 simp [oldCells, List.range'_succ]
theorem CInv.cell {T : Nat → TabV} {I : Nat → Nat → Int} {R : Nat → Nat → R8} {w : World} {B g c n k : Nat} {D : List OT} (h : CInv T I R w B g c n k D) (hk : k < n) :
  w.cell? ⟨g, k * 3, none⟩ = some (.int .i64 (T k).mask) ∧ w.cell? ⟨g, k * 3 + 1, none⟩ = some (.slice (T k).ia (T k).il (T k).ic) ∧ w.cell? ⟨g, k * 3 + 2, none⟩ = some (.slice (T k).ra (T k).rl (T k).rc) := by
 have hl : (tabCells D).length = k * 3 := by rw [tabCells_length, h.len]
 obtain ⟨m, hm⟩ : ∃ m, n - k = m + 1 := ⟨n - k - 1, by omega⟩
 have hx := h.tabs
 rw [hm, old_head] at hx
 refine ⟨?_, ?_, ?_⟩
 ·rw [hx.cellAt _ (by omega), List.getElem?_append_right (by omega), hl]; simp
 ·rw [hx.cellAt _ (by omega), List.getElem?_append_right (by omega), hl, show k * 3 + 1 - k * 3 = 1 by omega]; simp
 ·rw [hx.cellAt _ (by omega), List.getElem?_append_right (by omega), hl, show k * 3 + 2 - k * 3 = 2 by omega]; simp
theorem clone_step {T : Nat → TabV} {I : Nat → Nat → Int} {R : Nat → Nat → R8} {wr w1 w3 : World} {B g c n k : Nat} {D : List OT} {iv rv : Value} (h : CInv T I R wr B g c n k D) (hk : k < n) (hB : B ≤ wr.heap.size)
  (hb1 : Below wr.heap.size wr w1) (hi : w1.ownsRow wr.heap.size 3 1 iv (T k).il (((List.range (T k).il).map (I k)).map (Value.int .i64)))
  (hb3 : Below w1.heap.size (w1.setCell ⟨g, k * 3 + 1, none⟩ iv) w3) (hr : w3.ownsRow w1.heap.size 34 8 rv (T k).rl (((List.range (T k).rl).map (R k)).flatMap rowCells)) :
  CInv T I R (w3.setCell ⟨g, k * 3 + 2, none⟩ rv) B g c n (k + 1) (D ++ [⟨tabOf T I R k, iv, rv⟩]) := by
 have hgB := h.tabs.lt g rfl
 have hz1 := hb1.size
 have hz3 := hb3.size
 have hs : (w1.setCell ⟨g, k * 3 + 1, none⟩ iv).heap.size = w1.heap.size := by simp [World.setCell]
 rw [hs] at hz3
 have hb3' : Below (w1.setCell ⟨g, k * 3 + 1, none⟩ iv).heap.size (w1.setCell ⟨g, k * 3 + 1, none⟩ iv) w3 := by rw [hs]; exact hb3
 have hl : (tabCells D).length = k * 3 := by rw [tabCells_length, h.len]
 obtain ⟨m, hm⟩ : ∃ m, n - k = m + 1 := ⟨n - k - 1, by omega⟩
 have hx := h.tabs
 rw [hm, old_head] at hx
 have hx1 := (owns_below hx hb1).stored (k * 3 + 1) iv
 have hx2 := (owns_below hx1.1 hb3').stored (k * 3 + 2) rv
 have hiv : iv.ownBlock ≠ some g := fun e => by have := hi.lt g e; omega
 have hrv : rv.ownBlock ≠ some g := fun e => by have := hr.lt g e; omega
 have hDlt := blocks_lt h.own
 have hgD : g ∉ blocks D := (List.nodup_cons.1 h.apart).1
 refine ⟨?_, by simp [h.len], ?_, ?_, ?_⟩
 ·have e : ((tabCells D ++ ([Value.int .i64 (T k).mask, Value.slice (T k).ia (T k).il (T k).ic, Value.slice (T k).ra (T k).rl (T k).rc] ++ oldCells T (k + 1) m)).set (k * 3 + 1) iv).set (k * 3 + 2) rv
    = tabCells (D ++ [⟨tabOf T I R k, iv, rv⟩]) ++ oldCells T (k + 1) (n - (k + 1)) := by
   rw [show n - (k + 1) = m by omega]
   rw [set_app _ _ _ 1 _ (by omega), set_app _ _ _ 2 _ (by omega)]
   simp [tabCells, otCells, tabOf]
  rw [← e]
  exact hx2.1
 ·simp [h.plain, plainOf, List.range_succ]
 ·intro o ho
  rcases List.mem_append.1 ho with ho | ho
  ·have hne : g ∉ otBlocks o := fun hg => hgD (List.mem_flatMap.2 ⟨o, ho, hg⟩)
   exact otOwn_set (otOwn_below (otOwn_set (otOwn_below (h.own o ho) hb1) hne _ _) hb3') hne _ _
  ·simp only [List.mem_singleton] at ho
   subst ho
   refine ⟨?_, ?_⟩
   ·have := owns_set (owns_below (owns_set hi hiv (k * 3 + 1) iv) hb3') hiv (k * 3 + 2) rv
    simpa [tabOf] using owns_mono this hB
   ·have := owns_set hr hrv (k * 3 + 2) rv
    simpa [tabOf] using owns_mono this (by omega)
 ·have hnd := List.nodup_cons.1 h.apart
  have e : g :: blocks (D ++ [⟨tabOf T I R k, iv, rv⟩]) = (g :: blocks D) ++ (iv.ownBlock.toList ++ rv.ownBlock.toList) := by simp [blocks, otBlocks]
  rw [e, List.nodup_append]
  refine ⟨h.apart, ?_, ?_⟩
  ·cases ei : iv.ownBlock with
   | none => cases rv.ownBlock <;> simp
   | some bi =>
    cases er : rv.ownBlock with
    | none => simp
    | some br =>
     have h1 := hi.lt bi ei
     have h2 := hr.lt br er
     simp; omega
  ·intro x hx y hy
   have hxlt : x < wr.heap.size := by
    rcases List.mem_cons.1 hx with rfl | hx
    ·exact hgB.2
    ·exact (hDlt x hx).2
   rcases List.mem_append.1 hy with hy | hy
   ·have := hi.lt y (by simpa using hy); omega
   ·have := hr.lt y (by simpa using hy); omega
end St
namespace St
open Num
open Go.ChangeShapes Go.WideShapes Go.ChangeAt Go.RowKit
theorem info3 : (Tryz.prog.info? 3).map (fun i => (i.zero, i.size, i.bytes)) = some (some (.int .i64 0), 1, 8) := by kernel_rfl
theorem info30 : (Tryz.prog.info? 34).map (fun i => (i.zero, i.size, i.bytes)) = some (some (.agg #[.int .i64 0, .int .i64 0, .int .i64 0, .int .i64 0, .int .i64 0, .int .i64 0, .int .i64 0, .int .i64 0]), 8, 64) := by kernel_rfl
theorem info66 : (Tryz.prog.info? 65).map (fun i => (i.zero, i.size, i.bytes)) = some (some (.agg #[.int .i64 0, .slice none 0 0, .slice none 0 0]), 3, 56) := by kernel_rfl
set_option maxHeartbeats 400000 in
set_option maxRecDepth 100000 in
theorem cloneI_any (a : Option Addr) (n cap : Nat) (xs : List Value) (w : World) (hn : n * 8 ≤ 140737488355328) (hl : xs.length = n * 1) (ha : a = none → n = 0)
  (hx : ∀ ad, a = some ad → ∀ j u, xs[j]? = some u → w.cell? (ad.add j) = some u) (h1 : ∀ u ∈ xs, u.oneCell' = true) :
  Calls Tryz.prog 91 #[.slice a n cap] w fun e w' => (∃ v, e = .returned v ∧ w'.ownsRow w.heap.size 3 1 v n xs) ∧ Below w.heap.size w w' := by
 have q : ∀ (w : World) (a : Option Addr) (n c n' c' : Nat), (binOp .eql 28 (.slice a n c) (.slice none n' c')).run Tryz.prog w = .ok (.bool a.isNone) w := fun w a n c n' c' => Lib.run_eql_slice_nil w _ _ a n c n' c' Tryz.underlying28
 obtain ⟨i0, hi, hz0, hz1, hz2⟩ := info_parts info3
 have HX : Hid _ := hx
 have H1 : Hid _ := h1
 have HL : Hid _ := hl
 have HA : Hid _ := ha
 clear hx h1 hl ha
 cases a with
 | none =>
  have H0 : Hid (n = 0) := HA.out rfl
  go_enter Tryz.func91, Tryz.ntmps91
  go_wp2
  go_ret
  have h0 := H0.out
  have hl := HL.out
  rw [h0] at hl
  have hxs : xs = [] := List.length_eq_zero_iff.1 (by simpa using hl)
  exact ⟨⟨_, rfl, by rw [hxs, h0]; exact ⟨by simp, Or.inl ⟨rfl, rfl⟩⟩⟩, Below.refl _ _⟩
 | some ad =>
  go_enter Tryz.func91, Tryz.ntmps91
  go_wp2_with (at_builtin; refine wpList_append_own _ rfl _ _ 28 rfl w.heap.size 3 i0 (.int .i64 0) 1 8 Tryz.underlying28 hi hz0 hz1 hz2 rfl (by decide) _ _ _ rfl (World.ownsRow_made w #[] 0 (Nat.le_refl _) (Nat.zero_le _) rfl) ad n cap xs rfl ?qc1 ?qc2 ?qc3 ?qc4 ?qc5 ?qc6 ?_)
  case qc1 => exact HL.out
  case qc2 => intro j u hj; exact Lib.cell?_alloc_some _ (HX.out ad rfl j u hj)
  case qc3 => exact H1.out
  case qc4 => unfold maxLen; omega
  case qc5 => omega
  case qc6 => simp
  intro v' w1 hown hgrow hnil
  clear hnil
  go_wp2
  go_ret
  exact ⟨⟨v', rfl, by simpa using hown⟩, ((Below.refl _ w).alloc (Nat.le_refl _) _).grown hgrow (by simp) (by intro k hk; simp [Value.ownBlock] at hk; omega)⟩
set_option maxHeartbeats 400000 in
set_option maxRecDepth 100000 in
theorem cloneR_any (a : Option Addr) (n cap : Nat) (xs : List Value) (w : World) (hn : n * 64 ≤ 140737488355328) (hl : xs.length = n * 8) (ha : a = none → n = 0)
  (hx : ∀ ad, a = some ad → ∀ j u, xs[j]? = some u → w.cell? (ad.add j) = some u) (h1 : ∀ u ∈ xs, u.oneCell' = true) :
  Calls Tryz.prog 92 #[.slice a n cap] w fun e w' => (∃ v, e = .returned v ∧ w'.ownsRow w.heap.size 34 8 v n xs) ∧ Below w.heap.size w w' := by
 have q : ∀ (w : World) (a : Option Addr) (n c n' c' : Nat), (binOp .eql 63 (.slice a n c) (.slice none n' c')).run Tryz.prog w = .ok (.bool a.isNone) w := fun w a n c n' c' => Lib.run_eql_slice_nil w _ _ a n c n' c' Tryz.underlying63
 obtain ⟨i0, hi, hz0, hz1, hz2⟩ := info_parts info30
 have HX : Hid _ := hx
 have H1 : Hid _ := h1
 have HL : Hid _ := hl
 have HA : Hid _ := ha
 clear hx h1 hl ha
 cases a with
 | none =>
  have H0 : Hid (n = 0) := HA.out rfl
  go_enter Tryz.func92, Tryz.ntmps92
  go_wp2
  go_ret
  have h0 := H0.out
  have hl := HL.out
  rw [h0] at hl
  have hxs : xs = [] := List.length_eq_zero_iff.1 (by simpa using hl)
  exact ⟨⟨_, rfl, by rw [hxs, h0]; exact ⟨by simp, Or.inl ⟨rfl, rfl⟩⟩⟩, Below.refl _ _⟩
 | some ad =>
  go_enter Tryz.func92, Tryz.ntmps92
  go_wp2_with (at_builtin; refine wpList_append_own _ rfl _ _ 63 rfl w.heap.size 34 i0 (.agg #[.int .i64 0, .int .i64 0, .int .i64 0, .int .i64 0, .int .i64 0, .int .i64 0, .int .i64 0, .int .i64 0]) 8 64 Tryz.underlying63 hi hz0 hz1 hz2 rfl (by decide) _ _ _ rfl (World.ownsRow_made w #[] 0 (Nat.le_refl _) (Nat.zero_le _) rfl) ad n cap xs rfl ?qc1 ?qc2 ?qc3 ?qc4 ?qc5 ?qc6 ?_)
  case qc1 => exact HL.out
  case qc2 => intro j u hj; exact Lib.cell?_alloc_some _ (HX.out ad rfl j u hj)
  case qc3 => exact H1.out
  case qc4 => unfold maxLen; omega
  case qc5 => omega
  case qc6 => simp
  intro v' w1 hown hgrow hnil
  clear hnil
  go_wp2
  go_ret
  exact ⟨⟨v', rfl, by simpa using hown⟩, ((Below.refl _ w).alloc (Nat.le_refl _) _).grown hgrow (by simp) (by intro k hk; simp [Value.ownBlock] at hk; omega)⟩
set_option maxHeartbeats 400000 in
set_option maxRecDepth 100000 in
theorem cloneT_any (a : Option Addr) (n cap : Nat) (xs : List Value) (w : World) (hn : n * 56 ≤ 140737488355328) (hl : xs.length = n * 3) (ha : a = none → n = 0)
  (hx : ∀ ad, a = some ad → ∀ j u, xs[j]? = some u → w.cell? (ad.add j) = some u) (h1 : ∀ u ∈ xs, u.oneCell' = true) :
  Calls Tryz.prog 90 #[.slice a n cap] w fun e w' => (∃ v, e = .returned v ∧ w'.ownsRow w.heap.size 65 3 v n xs) ∧ Below w.heap.size w w' := by
 have q : ∀ (w : World) (a : Option Addr) (n c n' c' : Nat), (binOp .eql 41 (.slice a n c) (.slice none n' c')).run Tryz.prog w = .ok (.bool a.isNone) w := fun w a n c n' c' => Lib.run_eql_slice_nil w _ _ a n c n' c' Tryz.underlying41
 obtain ⟨i0, hi, hz0, hz1, hz2⟩ := info_parts info66
 have HX : Hid _ := hx
 have H1 : Hid _ := h1
 have HL : Hid _ := hl
 have HA : Hid _ := ha
 clear hx h1 hl ha
 cases a with
 | none =>
  have H0 : Hid (n = 0) := HA.out rfl
  go_enter Tryz.func90, Tryz.ntmps90
  go_wp2
  go_ret
  have h0 := H0.out
  have hl := HL.out
  rw [h0] at hl
  have hxs : xs = [] := List.length_eq_zero_iff.1 (by simpa using hl)
  exact ⟨⟨_, rfl, by rw [hxs, h0]; exact ⟨by simp, Or.inl ⟨rfl, rfl⟩⟩⟩, Below.refl _ _⟩
 | some ad =>
  go_enter Tryz.func90, Tryz.ntmps90
  go_wp2_with (at_builtin; refine wpList_append_own _ rfl _ _ 41 rfl w.heap.size 65 i0 (.agg #[.int .i64 0, .slice none 0 0, .slice none 0 0]) 3 56 Tryz.underlying41 hi hz0 hz1 hz2 rfl (by decide) _ _ _ rfl (World.ownsRow_made w #[] 0 (Nat.le_refl _) (Nat.zero_le _) rfl) ad n cap xs rfl ?qc1 ?qc2 ?qc3 ?qc4 ?qc5 ?qc6 ?_)
  case qc1 => exact HL.out
  case qc2 => intro j u hj; exact Lib.cell?_alloc_some _ (HX.out ad rfl j u hj)
  case qc3 => exact H1.out
  case qc4 => unfold maxLen; omega
  case qc5 => omega
  case qc6 => simp
  intro v' w1 hown hgrow hnil
  clear hnil
  go_wp2
  go_ret
  exact ⟨⟨v', rfl, by simpa using hown⟩, ((Below.refl _ w).alloc (Nat.le_refl _) _).grown hgrow (by simp) (by intro k hk; simp [Value.ownBlock] at hk; omega)⟩
end St
namespace St
open Num
open Go.ChangeShapes Go.WideShapes Go.ChangeAt Go.RowKit
theorem idsCells_get {f : Nat → Int} {n j : Nat} {u : Value} (h : (((List.range n).map f).map (Value.int .i64))[j]? = some u) : j < n ∧ u = .int .i64 (f j) := by
 have hjl : j < n := by simpa using (List.getElem?_eq_some_iff.1 h).1
 have e : (((List.range n).map f).map (Value.int .i64))[j]? = some (.int .i64 (f j)) := by simp [hjl]
 rw [e] at h
 cases h
 exact ⟨hjl, rfl⟩
theorem rowsCells_get {l : List R8} {j : Nat} {u : Value} (h : (l.flatMap rowCells)[j]? = some u) : j / 8 < l.length ∧ ∀ r, l[j / 8]? = some r → (rowCells r)[j % 8]? = some u := by
 induction l generalizing j with
 | nil => simp at h
 | cons r l ih =>
  rw [List.flatMap_cons] at h
  by_cases hj : j < 8
  ·rw [List.getElem?_append_left (by simpa [rowCells] using hj)] at h
   have e0 : j / 8 = 0 := by omega
   have e1 : j % 8 = j := by omega
   rw [e0, e1]
   refine ⟨by simp, fun r' hr => ?_⟩
   simp at hr
   subst hr
   exact h
  ·rw [List.getElem?_append_right (by simp [rowCells]; omega)] at h
   have h' := ih h
   have el : (rowCells r).length = 8 := rfl
   rw [el] at h'
   have e0 : j / 8 = (j - 8) / 8 + 1 := by omega
   have e1 : j % 8 = (j - 8) % 8 := by omega
   rw [e0, e1]
   exact ⟨by simp only [List.length_cons]; omega, fun r' hr => h'.2 r' (by simpa using hr)⟩
theorem RowsIn.cells {w : World} {ad : Addr} {n : Nat} {r : Nat → R8} (h : RowsIn w (some ad) n r) : ∀ j u, (((List.range n).map r).flatMap rowCells)[j]? = some u → w.cell? (ad.add j) = some u := by
 intro j u hj
 obtain ⟨h1, h2⟩ := rowsCells_get hj
 have hn : j / 8 < n := by simpa using h1
 have h3 := h2 (r (j / 8)) (by simp [hn])
 obtain ⟨b, off, e, hb, hc⟩ := h (by omega)
 cases e
 obtain ⟨c0, c1, c2, c3, c4, c5, c6, c7⟩ := hc (j / 8) hn
 have ej : j = j / 8 * 8 + j % 8 := by omega
 rw [Addr.add_lit]
 have hm : j % 8 < 8 := by omega
 generalize j / 8 = q at *
 generalize j % 8 = s at *
 subst ej
 rw [show off + (q * 8 + s) = off + q * 8 + s by omega]
 rcases s with _ | _ | _ | _ | _ | _ | _ | _ | s
 ·simp [rowCells] at h3; subst h3; exact c0
 ·simp [rowCells] at h3; subst h3; exact c1
 ·simp [rowCells] at h3; subst h3; exact c2
 ·simp [rowCells] at h3; subst h3; exact c3
 ·simp [rowCells] at h3; subst h3; exact c4
 ·simp [rowCells] at h3; subst h3; exact c5
 ·simp [rowCells] at h3; subst h3; exact c6
 ·simp [rowCells] at h3; subst h3; exact c7
 ·omega
theorem IdsIn.cells {w : World} {ad : Addr} {n : Nat} {f : Nat → Int} (h : IdsIn w (some ad) n f) : ∀ j u, (((List.range n).map f).map (Value.int .i64))[j]? = some u → w.cell? (ad.add j) = some u := by
 intro j u hj
 obtain ⟨h1, rfl⟩ := idsCells_get hj
 obtain ⟨b, off, e, hb, hc⟩ := h (by omega)
 cases e
 rw [Addr.add_lit]
 exact hc j h1
theorem oldCells_get {T : Nat → TabV} {k m j : Nat} {u : Value} (h : (oldCells T k m)[j]? = some u) : j / 3 < m ∧ [Value.int .i64 (T (k + j / 3)).mask, .slice (T (k + j / 3)).ia (T (k + j / 3)).il (T (k + j / 3)).ic, .slice (T (k + j / 3)).ra (T (k + j / 3)).rl (T (k + j / 3)).rc][j % 3]? = some u := by
 induction m generalizing k j with
 | zero => simp [oldCells] at h
 | succ m ih =>
  rw [old_head] at h
  by_cases hj : j < 3
  ·rw [List.getElem?_append_left (by simpa using hj)] at h
   have e0 : j / 3 = 0 := by omega
   have e1 : j % 3 = j := by omega
   rw [e0, e1]
   exact ⟨by omega, h⟩
  ·rw [List.getElem?_append_right (by simp; omega)] at h
   have h' := ih h
   simp only [List.length_cons, List.length_nil] at h'
   have e0 : j / 3 = (j - 3) / 3 + 1 := by omega
   have e1 : j % 3 = (j - 3) % 3 := by omega
   rw [e0, e1, show k + ((j - 3) / 3 + 1) = k + 1 + (j - 3) / 3 by omega]
   exact ⟨by omega, h'.2⟩
theorem TabsIn.cells {w : World} {ad : Addr} {n : Nat} {T : Nat → TabV} (h : TabsIn w (some ad) n T) : ∀ j u, (oldCells T 0 n)[j]? = some u → w.cell? (ad.add j) = some u := by
 intro j u hj
 obtain ⟨hn, h3⟩ := oldCells_get hj
 obtain ⟨b, off, e, hb, hc⟩ := h (by omega)
 cases e
 obtain ⟨c0, c1, c2⟩ := hc (j / 3) hn
 have ej : j = j / 3 * 3 + j % 3 := by omega
 rw [Addr.add_lit]
 have hm : j % 3 < 3 := by omega
 rw [Nat.zero_add] at h3
 generalize j / 3 = q at *
 generalize j % 3 = s at *
 subst ej
 rw [show off + (q * 3 + s) = off + q * 3 + s by omega]
 rcases s with _ | _ | _ | s
 ·simp at h3; subst h3; exact c0
 ·simp at h3; subst h3; exact c1
 ·simp at h3; subst h3; exact c2
 ·omega
theorem oldCells_one (T : Nat → TabV) (k m : Nat) : ∀ u ∈ oldCells T k m, u.oneCell' = true := by
 intro u hu
 simp only [oldCells, List.mem_flatMap] at hu
 obtain ⟨i, _, hu⟩ := hu
 simp at hu
 rcases hu with rfl | rfl | rfl <;> rfl
theorem rowCells_one (l : List R8) : ∀ u ∈ l.flatMap rowCells, u.oneCell' = true := by
 intro u hu
 simp only [List.mem_flatMap] at hu
 obtain ⟨r, _, hu⟩ := hu
 simp [rowCells] at hu
 rcases hu with rfl | rfl | rfl | rfl | rfl | rfl | rfl | rfl <;> rfl
theorem ints_one (l : List Int) : ∀ u ∈ l.map (Value.int .i64), u.oneCell' = true := by
 intro u hu
 simp at hu
 obtain ⟨x, _, rfl⟩ := hu
 rfl
end St
namespace St
open Num
open Go.ChangeShapes Go.WideShapes Go.ChangeAt Go.RowKit
def Fits (a : Option Addr) (n : Nat) (T : Nat → TabV) : Prop :=
 n * 56 ≤ 140737488355328 ∧ (a = none → n = 0) ∧ ∀ i, i < n → (T i).il * 8 ≤ 140737488355328 ∧ (T i).rl * 64 ≤ 140737488355328 ∧ ((T i).ia = none → (T i).il = 0) ∧ ((T i).ra = none → (T i).rl = 0)
theorem hid {p : Prop} (h : p) : Hid p := h
theorem own_form {w : World} {B size n : Nat} {e : TypeId} {v : Value} {xs : List Value} (h : w.ownsRow B e size v n xs) : ∃ a c, v = .slice a n c := by
 rcases h.2 with ⟨rfl, rfl⟩ | ⟨g, c, _, rfl, _⟩
 ·exact ⟨none, 0, rfl⟩
 ·exact ⟨_, c, rfl⟩
theorem row_step {wr w2 w3 : World} {b g n i j : Nat} {t : TypeId} {f : Nat → Value} {u u' : Value} (h : wr.rowIs b t n f) (hne : b ≠ g) (hb2 : Below wr.heap.size wr w2) (hb3 : Below w2.heap.size (w2.setCell ⟨g, i, none⟩ u) w3) : (w3.setCell ⟨g, j, none⟩ u').rowIs b t n f := by
 have hl := h.lt
 have hz := hb2.size
 exact ((((h.of_block (hb2.block b hl))).setOther hne u).of_block (hb3.block b (by omega))).setOther hne u'
theorem rowIs2 (w : World) (x y : Value) (t : TypeId) : (w.alloc (.cells #[x, y] t)).rowIs w.heap.size t 2 (fun i => if i = 0 then x else y) :=
 ⟨#[x, y], (MapKept.heap_alloc w _).1, rfl, fun i hi => by
  match i, hi with
  | 0, _ => rfl
  | 1, _ => rfl⟩
set_option maxHeartbeats 2000000 in
set_option maxRecDepth 100000 in
theorem clone_any (a : Option Addr) (n cap : Nat) (next : Int) (T : Nat → TabV) (I : Nat → Nat → Int) (R : Nat → Nat → R8) (w : World) (hT : TabsIn w a n T)
  (hI : ∀ i, i < n → IdsIn w (T i).ia (T i).il (I i)) (hR : ∀ i, i < n → RowsIn w (T i).ra (T i).rl (R i)) (hF : Fits a n T) :
  Calls Tryz.prog 60 #[.agg #[.slice a n cap, .int .i64 next]] w fun e w' =>
   (∃ v, e = .returned (.agg #[v, .int .i64 next]) ∧ ∃ S, Own w' w.heap.size v S ∧ S.map (·.t) = plainOf T I R n) ∧ Below w.heap.size w w' := by
 obtain ⟨hn, ha, hF⟩ := hF
 have HC : Hid (∀ w', Below w.heap.size w w' → Calls Tryz.prog 90 #[.slice a n cap] w' fun e w'' => (∃ v, e = .returned v ∧ w''.ownsRow w'.heap.size 65 3 v n (oldCells T 0 n)) ∧ Below w'.heap.size w' w'') :=
  fun w' hb => cloneT_any a n cap (oldCells T 0 n) w' hn (oldCells_length _ _ _) ha (fun ad e j u hj => by subst e; exact (hT.below hb).cells j u hj) (oldCells_one _ _ _)
 have HI : Hid (∀ k, k < n → ∀ w', Below w.heap.size w w' → Calls Tryz.prog 91 #[.slice (T k).ia (T k).il (T k).ic] w' fun e w'' => (∃ v, e = .returned v ∧ w''.ownsRow w'.heap.size 3 1 v (T k).il (((List.range (T k).il).map (I k)).map (Value.int .i64))) ∧ Below w'.heap.size w' w'') :=
  fun k hk w' hb => cloneI_any _ _ _ _ w' (hF k hk).1 (by simp) (hF k hk).2.2.1 (fun ad e j u hj => by have := (hI k hk).below hb; rw [e] at this; exact this.cells j u hj) (ints_one _)
 have HR : Hid (∀ k, k < n → ∀ w', Below w.heap.size w w' → Calls Tryz.prog 92 #[.slice (T k).ra (T k).rl (T k).rc] w' fun e w'' => (∃ v, e = .returned v ∧ w''.ownsRow w'.heap.size 34 8 v (T k).rl (((List.range (T k).rl).map (R k)).flatMap rowCells)) ∧ Below w'.heap.size w' w'') :=
  fun k hk w' hb => cloneR_any _ _ _ _ w' (hF k hk).2.1 (by rw [rows_length]; simp) (hF k hk).2.2.2 (fun ad e j u hj => by have := (hR k hk).below hb; rw [e] at this; exact this.cells j u hj) (rowCells_one _)
 clear hT hI hR ha hF
 have hn' : n ≤ 9223372036854775807 := by omega
 go_enter Tryz.func60, Tryz.ntmps60
 go_wp2_with fail
 refine (HC.out _ (bal (bal (Below.refl _ _) _) _)).mono ?_
 rintro e w1 ⟨⟨v, rfl, hown⟩, hb1⟩
 have hz1 := hb1.size
 simp at hz1
 have hbox : w1.rowIs w.heap.size 43 2 (fun i => if i = 0 then .slice a n cap else .int .i64 next) :=
  ((rowIs2 w _ _ _).alloc _).of_block (hb1.block _ (by simp; omega))
 have hres : w1.rowIs (w.heap.size + 1) 43 2 (fun i => if i = 0 then .slice none 0 0 else .int .i64 0) := by
  have := rowIs2 (w.alloc (.cells #[.slice a n cap, .int .i64 next] 43)) (.slice none 0 0) (.int .i64 0) 43
  rw [World.size_alloc] at this
  exact this.of_block (hb1.block _ (by simp))
 have h01 : Below w.heap.size w w1 := bcall (bal (bal (Below.refl _ _) _) _) hb1
 have H01 := hid h01
 simp only [World.size_alloc] at hown
 have s0 := hbox.cell (i := 0) (by omega)
 have f0 := hbox.frozen 0
 simp only [if_true] at s0
 have HBOX := hid hbox
 have HRES := hid hres
 have HO := hid hown
 clear h01 hb1 hbox hres hown
 have s1 := HBOX.out.cell (i := 1) (by omega)
 have r0 := HRES.out.cell (i := 0) (by omega)
 have r1 := HRES.out.cell (i := 1) (by omega)
 have g0 := HRES.out.frozen 0
 have g1 := HRES.out.frozen 1
 simp at s1 r0 r1
 have hx := HO.out.2
 rcases hx with ⟨rfl, hx⟩ | ⟨g, c, cur, rfl, hgb, hgh, -, -, -, -⟩
 ·have HX := hid hx
  clear hx
  go_wp2
  go_loop [12] (fun i => i = .int .i64 0) (fun _ => 0)
  case atStart => rfl
  case round =>
   subst hrel
   go_wp2
   refine bodyPost_ret (v := .agg #[.slice none 0 0, .int .i64 next]) (by simp [results, Tryz.results60, go_sem, r0, r1]) rfl ⟨⟨_, rfl, [], ⟨⟨by simp [tabCells], Or.inl ⟨rfl, rfl⟩⟩, by simp, by simp [blocks, Value.ownBlock]⟩, by rw [HX.out]; rfl⟩, ?_⟩
   refine Below.setCell ?_ (by simp) _
   refine Below.setCell ?_ (by simp) _
   refine Below.setCell ?_ (by simp) _
   exact H01.out
 ·have hgl : g < w1.heap.size := (Array.getElem?_eq_some_iff.1 hgh).1
  have hg1 : w.heap.size ≠ g := by omega
  have hg2 : w.heap.size + 1 ≠ g := by omega
  clear hgh s0 s1 f0 r0 r1 g0 g1
  have s0 := HBOX.out.cell (i := 0) (by omega)
  have f0 := HBOX.out.frozen 0
  simp only [if_true] at s0
  go_wp2
  go_loopw [12] (fun i wr => ∃ (k : Nat) (D : List OT), k ≤ n ∧ i = .int .i64 k ∧ Hid (CInv T I R wr (w.heap.size + 2) g c n k D) ∧ Hid (Below w.heap.size w wr) ∧ Hid (wr.rowIs w.heap.size 43 2 (fun i => if i = 0 then .slice (some ⟨g, 0, none⟩) n c else .int .i64 next)) ∧ Hid (wr.rowIs (w.heap.size + 1) 43 2 (fun i => if i = 0 then .slice none 0 0 else .int .i64 0))) (fun i _ => n - (intOf i).toNat)
  case atStart =>
   refine ⟨0, [], Nat.zero_le _, rfl, ⟨?_, rfl, rfl, by simp, by simp [blocks]⟩, H01.out.setCell (by simp) _, (HBOX.out.set 0 _).congr ?_, HRES.out.setOther (by simp) _⟩
   ·exact owns_set HO.out (by simp [Value.ownBlock]; omega) 0 _
   ·intro i hi
    match i, hi with
    | 0, _ => rfl
    | 1, _ => rfl
  case round =>
   obtain ⟨k, D, hk, rfl, hinv, hbl, hbox, hres⟩ := hrel
   have s0 := hbox.out.cell (i := 0) (by omega)
   have s1 := hbox.out.cell (i := 1) (by omega)
   simp at s0 s1
   have hgr := (hinv.out.tabs.lt g rfl).2
   have hsr := hbox.out.lt
   by_cases hlt : k < n
   ·obtain ⟨c0, c1, c2⟩ := hinv.out.cell hlt
    have c1f := hinv.out.tabs.frozenAt (k * 3 + 1)
    have hgr1 : g < wr.heap.size + 1 := by omega
    have hsr1 : w.heap.size < wr.heap.size + 1 := by omega
    go_wp2_with fail
    go_region_with (go_at_call 91; refine (HI.out k hlt _ (by first | exact (bal hbl.out _).drew | exact bal hbl.out _)).mono ?_; rintro e w2 ⟨⟨iv, rfl, hiv⟩, hb2⟩; obtain ⟨ai, ci, rfl⟩ := own_form hiv; obtain ⟨hc2, hf2⟩ := bcell hb2; have HB2 := hid hb2; have HIV := hid hiv; clear hb2 hiv)
    all_goals
     have hz2 := HB2.out.size
     simp at hz2
     have c2f := hinv.out.tabs.frozenAt (k * 3 + 2)
     have hsr2 : w.heap.size < w2.heap.size := by omega
     have hgr2 : g < w2.heap.size := by omega
     have htr2 : wr.heap.size < w2.heap.size := by omega
     have hne3 : wr.heap.size ≠ g := by omega
     have H12 : Hid (Below wr.heap.size wr w2) := bcall ((bal (Below.refl _ _) _).drew) HB2.out
     have H02 : Hid (Below w.heap.size w w2) := bcall hbl.out H12.out
     have HI2 : Hid (w2.ownsRow wr.heap.size 3 1 (.slice ai (T k).il ci) (T k).il (((List.range (T k).il).map (I k)).map (Value.int .i64))) := owns_mono HIV.out (by simp)
     clear HB2 HIV
     go_wp2_with fail
     go_region_with (go_at_call 92; refine (HR.out k hlt _ ((H02.out.setCell (by simp; omega) _).drew)).mono ?_; rintro e w3 ⟨⟨rv, rfl, hrv⟩, hb3⟩; obtain ⟨ar, cr, rfl⟩ := own_form hrv; obtain ⟨hc3, hf3⟩ := bcell hb3; have HB3 := hid hb3; have HRV := hid hrv; clear hb3 hrv)
     all_goals
      have H3 : Hid (Below w2.heap.size (w2.setCell ⟨g, k * 3 + 1, none⟩ (.slice ai (T k).il ci)) w3) := (Below.drew (Below.refl _ _)).trans (by simpa using HB3.out)
      have HR3 : Hid (w3.ownsRow w2.heap.size 34 8 (.slice ar (T k).rl cr) (T k).rl (((List.range (T k).rl).map (R k)).flatMap rowCells)) := hid (by simpa using HRV.out)
      clear HB3 HRV hc3 hf3
      go_wp2_with fail
      go_roundw
      case rel =>
       refine ⟨k + 1, D ++ [⟨tabOf T I R k, .slice ai (T k).il ci, .slice ar (T k).rl cr⟩], by omega, by go_num, ?_, ?_, ?_, ?_⟩
       ·exact clone_step hinv.out hlt (by have := hres.out.lt; omega) H12.out HI2.out H3.out HR3.out
       ·have hd : Below w.heap.size w (w2.setCell ⟨g, k * 3 + 1, none⟩ (.slice ai (T k).il ci)) := H02.out.setCell (by simp; omega) _
        exact (hd.trans (H3.out.mono (by omega))).setCell (by simp; omega) _
       ·exact row_step hbox.out hg1 H12.out H3.out
       ·exact row_step hres.out hg2 H12.out H3.out
      case measure => simp [intOf]; omega
   ·have r0 := hres.out.cell (i := 0) (by omega)
    have r1 := hres.out.cell (i := 1) (by omega)
    have g0 := hres.out.frozen 0
    have g1 := hres.out.frozen 1
    simp at r0 r1
    have hke : k = n := by omega
    subst hke
    have hnd : Hid (Own ((wr.setCell ⟨w.heap.size + 1, 0, none⟩ (.slice (some ⟨g, 0, none⟩) k c)).setCell ⟨w.heap.size + 1, 1, none⟩ (.int .i64 next)) w.heap.size (.slice (some ⟨g, 0, none⟩) k c) D) := by
     have hi := hinv.out
     have hlt := blocks_lt hi.own
     have e : tabCells D ++ oldCells T k (k - k) = tabCells D := by simp [oldCells]
     refine ⟨?_, fun o ho => ?_, by simpa [Value.ownBlock] using hi.apart⟩
     ·have := hi.tabs
      rw [e] at this
      rw [hi.len]
      exact owns_set (owns_set (owns_mono this (by omega)) (by simp [Value.ownBlock]; omega) _ _) (by simp [Value.ownBlock]; omega) _ _
     ·have hne : w.heap.size + 1 ∉ otBlocks o := fun hg => by have := hlt _ (List.mem_flatMap.2 ⟨o, ho, hg⟩); omega
      have h1 := otOwn_set (otOwn_set (hi.own o ho) hne 0 (.slice (some ⟨g, 0, none⟩) k c)) hne 1 (.int .i64 next)
      exact ⟨owns_mono h1.1 (by omega), owns_mono h1.2 (by omega)⟩
    have hpl := hid hinv.out.plain
    go_wp2_with fail
    refine bodyPost_ret (v := .agg #[.slice (some ⟨g, 0, none⟩) k c, .int .i64 next]) (by simp [results, Tryz.results60, go_sem, r0, r1]) rfl ⟨⟨_, rfl, D, hnd.out, hpl.out⟩, ?_⟩
    refine Below.setCell ?_ (by simp) _
    refine Below.setCell ?_ (by simp) _
    exact hbl.out
end St
namespace St
open Num
open Go.ChangeShapes Go.WideShapes Go.ChangeAt Go.RowKit
theorem hidS {p : Prop} (h : p) : Hid p := h
def cmpI (a b : Int) : Int := if a < b then -1 else if b < a then 1 else 0
set_option maxHeartbeats 400000 in
theorem isNaN_any (a : Int) (w : World) : Calls Tryz.prog 132 #[.int .i64 a] w fun e w' => e = .returned (.bool false) ∧ w' = w := by
 go_enter Tryz.func132, Tryz.ntmps132
 go_wp2
 go_ret
 exact ⟨ret_bool (by simp), rfl⟩
set_option maxHeartbeats 400000 in
theorem compare_any (a b : Int) (w : World) : Calls Tryz.prog 111 #[.int .i64 a, .int .i64 b] w fun e w' => e = .returned (.int .i64 (cmpI a b)) ∧ w' = w := by
 go_enter Tryz.func111, Tryz.ntmps111
 go_wp2_with (go_at_call 132; refine (isNaN_any _ _).mono ?_; rintro e w' ⟨rfl, rfl⟩)
 all_goals
  go_ret
  exact ⟨ret_int (by unfold cmpI; omega), rfl⟩
set_option maxHeartbeats 400000 in
theorem cmp_any (m t : Int) (v u : Value) (w : World) :
  Calls Tryz.prog 110 #[.agg #[.int .i64 m, v, u], .int .i64 t] w fun e w' => e = .returned (.int .i64 (cmpI m t)) ∧ Below w.heap.size w w' := by
 go_enter Tryz.func110, Tryz.ntmps110
 go_wp2_with (go_at_call 111; refine (compare_any _ _ _).mono ?_; rintro e w' ⟨rfl, rfl⟩)
 go_ret
 exact ⟨rfl, bal (Below.refl _ _) _⟩
set_option maxHeartbeats 1000000 in
set_option maxRecDepth 100000 in
theorem search_any (b off n cap : Nat) (m : Int) (M : Nat → Int) (IV RV : Nat → Value) (w : World) (hn : n ≤ 4611686018427387903) (hb : b < w.heap.size)
  (hc : ∀ i, i < n → w.cell? ⟨b, off + i * 3, none⟩ = some (.int .i64 (M i)) ∧ w.cell? ⟨b, off + i * 3 + 1, none⟩ = some (IV i) ∧ w.cell? ⟨b, off + i * 3 + 2, none⟩ = some (RV i)) (hs : ∀ i j, i < j → j < n → M i < M j) :
  Calls Tryz.prog 109 #[.slice (some ⟨b, off, none⟩) n cap, .int .i64 m, .func (.func 110) #[] #[]] w fun e w' =>
   (∃ i : Nat, e = .returned (.tuple #[.int .i64 i, .bool (decide (i < n ∧ M i = m))]) ∧ i ≤ n ∧ (∀ q, q < i → M q < m) ∧ ∀ q, i ≤ q → q < n → m ≤ M q) ∧ Below w.heap.size w w' := by
 have HC : Hid (∀ i, i < n → w.cell? ⟨b, off + i * 3, none⟩ = some (.int .i64 (M i)) ∧ w.cell? ⟨b, off + i * 3 + 1, none⟩ = some (IV i) ∧ w.cell? ⟨b, off + i * 3 + 2, none⟩ = some (RV i)) := hc
 have HS : Hid (∀ i j, i < j → j < n → M i < M j) := hs
 clear hc hs
 go_enter Tryz.func109, Tryz.ntmps109
 go_wp2_with fail
 go_loopw [9, 10] (fun i j wr => ∃ p q : Nat, p ≤ q ∧ q ≤ n ∧ i = .int .i64 p ∧ j = .int .i64 q ∧ Hid (∀ x, x < p → M x < m) ∧ Hid (∀ x, q ≤ x → x < n → m ≤ M x) ∧ Hid (Below w.heap.size w wr)) (fun i j _ => (intOf j - intOf i).toNat)
 case atStart => exact ⟨0, n, Nat.zero_le _, Nat.le_refl _, rfl, rfl, fun x hx => absurd hx (Nat.not_lt_zero _), fun x h1 h2 => by omega, Below.refl _ _⟩
 case round =>
  obtain ⟨p, q, hpq, hqn, rfl, rfl, h1, h2, hbl⟩ := hrel
  have hzb : b < wr.heap.size := by have := hbl.out.size; omega
  by_cases hlt : p < q
  ·obtain ⟨c0, c1, c2⟩ := HC.out ((p + q) / 2) (by omega)
   rw [← hbl.out.cell (by exact hb)] at c0 c1 c2
   by_cases hm : M ((p + q) / 2) < m
   ·have hcm : cmpI (M ((p + q) / 2)) m < 0 := by unfold cmpI; omega
    have HM := hidS hm
    clear hm
    go_wp2_with (go_at_call 110; refine (cmp_any _ _ _ _ _).mono ?_; rintro e w2 ⟨rfl, hb2⟩)
    go_roundw
    case rel =>
     refine ⟨(p + q) / 2 + 1, q, by omega, hqn, by go_num, rfl, fun x hx => ?_, h2.out, bcall hbl.out hb2⟩
     by_cases e : x = (p + q) / 2
     ·rw [e]; exact HM.out
     ·have := HS.out x ((p + q) / 2) (by omega) (by omega)
      have := HM.out
      omega
    case measure => simp [intOf]; omega
   ·have hcm : ¬ cmpI (M ((p + q) / 2)) m < 0 := by unfold cmpI; omega
    have HM := hidS hm
    clear hm
    go_wp2_with (go_at_call 110; refine (cmp_any _ _ _ _ _).mono ?_; rintro e w2 ⟨rfl, hb2⟩)
    go_roundw
    case rel =>
     refine ⟨p, (p + q) / 2, by omega, by omega, rfl, by go_num, h1.out, fun x hx1 hx2 => ?_, bcall hbl.out hb2⟩
     by_cases e : x = (p + q) / 2
     ·rw [e]; have := HM.out; omega
     ·have := HS.out ((p + q) / 2) x (by omega) hx2
      have := HM.out
      omega
    case measure => simp [intOf]; omega
  ·have hpq2 : p = q := by omega
   subst hpq2
   by_cases hpn : p < n
   ·obtain ⟨c0, c1, c2⟩ := HC.out p hpn
    rw [← hbl.out.cell (by exact hb)] at c0 c1 c2
    go_wp2_with (go_at_call 110; refine (cmp_any _ _ _ _ _).mono ?_; rintro e w2 ⟨rfl, hb2⟩)
    go_ret2
    refine ⟨⟨p, ?_, hqn, h1.out, h2.out⟩, bcall hbl.out hb2⟩
    have : (cmpI (M p) m == 0) = decide (p < n ∧ M p = m) := by
     unfold cmpI
     rw [Bool.eq_iff_iff]
     simp only [beq_iff_eq, decide_eq_true_eq]
     omega
    rw [← this]
    rfl
   ·go_wp2_with fail
    go_ret2
    refine ⟨⟨p, ?_, hqn, h1.out, h2.out⟩, hbl.out⟩
    have : false = decide (p < n ∧ M p = m) := by simp; omega
    rw [← this]
    rfl
end St
namespace St
open Num
open Go.ChangeShapes Go.WideShapes Go.ChangeAt Go.RowKit
theorem ob_slice (a : Option Addr) (n c : Nat) : (Value.slice a n c).ownBlock = a.map Addr.block := by cases a <;> rfl
def Lies (w : World) (v v' : Value) : Prop := v'.ownBlock = v.ownBlock ∨ ∃ g, w.heap.size ≤ g ∧ v'.ownBlock = some g
theorem nodup_replace {P X X' Q : List Nat} (h : (P ++ X ++ Q).Nodup) (h1 : X'.Nodup) (h2 : ∀ x ∈ X', x ∉ P ∧ x ∉ Q) : (P ++ X' ++ Q).Nodup := by
 rw [List.append_assoc, List.nodup_append] at h ⊢
 obtain ⟨hP, hXQ, hd⟩ := h
 rw [List.nodup_append] at hXQ ⊢
 refine ⟨hP, ⟨h1, hXQ.2.1, fun x hx y hy e => (h2 x hx).2 (e ▸ hy)⟩, fun x hx y hy e => ?_⟩
 rcases List.mem_append.1 hy with hy | hy
 ·exact (h2 y hy).1 (e ▸ hx)
 ·exact hd x hx y (List.mem_append.2 (Or.inr hy)) e
theorem toList_nodup (o : Option Nat) : o.toList.Nodup := by cases o <;> simp
theorem owns_kept {w w' : World} {B size n : Nat} {e : TypeId} {v : Value} {xs : List Value} {row : Option Nat} (h : w.ownsRow B e size v n xs) (hg : w.grownBy w' row) (hne : ∀ g, v.ownBlock = some g → row ≠ some g) : w'.ownsRow B e size v n xs := by
 refine h.kept hg ?_
 cases hv : v.ownBlock with
 | none => exact Or.inl rfl
 | some g => exact Or.inr (fun e => hne g hv e.symm)
theorem otOwn_kept {w w' : World} {B : Nat} {o : OT} {row : Option Nat} (h : OtOwn w B o) (hg : w.grownBy w' row) (hne : ∀ g ∈ otBlocks o, row ≠ some g) : OtOwn w' B o :=
 ⟨owns_kept h.1 hg (fun g e => hne g (by simp [otBlocks, e])), owns_kept h.2 hg (fun g e => hne g (by simp [otBlocks, e]))⟩
theorem tabCells_mid (A C : List OT) (o : OT) : tabCells (A ++ o :: C) = tabCells A ++ (otCells o ++ tabCells C) := by simp [tabCells]
theorem blocks_mid (A C : List OT) (o : OT) : blocks (A ++ o :: C) = blocks A ++ (otBlocks o ++ blocks C) := by simp [blocks]
theorem own_ids {W w1 : World} {B g n c : Nat} {A C : List OT} {o : OT} {iv' : Value} {ids' : List Int} (h : Own W B (.slice (some ⟨g, 0, none⟩) n c) (A ++ o :: C)) (hn : n = (A ++ o :: C).length)
  (hg : W.grownBy w1 o.iv.ownBlock) (hi : w1.ownsRow B 3 1 iv' ids'.length (ids'.map (Value.int .i64))) (hl : Lies W o.iv iv') :
  Own (w1.setCell ⟨g, A.length * 3 + 1, none⟩ iv') B (.slice (some ⟨g, 0, none⟩) n c) (A ++ ⟨⟨o.t.mask, ids', o.t.rows⟩, iv', o.rv⟩ :: C) := by
 obtain ⟨h1, h2, h3⟩ := h
 have hgW := h1.lt g rfl
 have hbl := blocks_lt h2
 have hap : ((g :: blocks A) ++ o.iv.ownBlock.toList ++ (o.rv.ownBlock.toList ++ blocks C)).Nodup := by
  simpa [blocks_mid, otBlocks, Value.ownBlock] using h3
 have hnew : ∀ x ∈ iv'.ownBlock.toList, x ∉ (g :: blocks A) ∧ x ∉ (o.rv.ownBlock.toList ++ blocks C) := by
  intro x hx
  rcases hl with e | ⟨y, hy, e⟩
  ·rw [e] at hx
   rw [List.append_assoc, List.nodup_append] at hap
   obtain ⟨_, hq, hd⟩ := hap
   rw [List.nodup_append] at hq
   exact ⟨fun hc => hd x hc x (List.mem_append.2 (Or.inl hx)) rfl, fun hc => hq.2.2 x hx x hc rfl⟩
  ·rw [e] at hx
   simp at hx
   subst hx
   have hall : ∀ z ∈ blocks (A ++ o :: C), z < W.heap.size := fun z hz => (hbl z hz).2
   rw [blocks_mid] at hall
   refine ⟨fun hc => ?_, fun hc => ?_⟩
   ·rcases List.mem_cons.1 hc with rfl | hc
    ·omega
    ·have := hall x (List.mem_append.2 (Or.inl hc)); omega
   ·have : x ∈ otBlocks o ++ blocks C := by
     rcases List.mem_append.1 hc with hc | hc
     ·exact List.mem_append.2 (Or.inl (by simp only [otBlocks, List.mem_append]; exact Or.inr hc))
     ·exact List.mem_append.2 (Or.inr hc)
    have := hall x (List.mem_append.2 (Or.inr this)); omega
 have hrow : ∀ z, z ∈ (g :: blocks A) ∨ z ∈ (o.rv.ownBlock.toList ++ blocks C) → o.iv.ownBlock ≠ some z := by
  intro z hz e
  rw [List.append_assoc, List.nodup_append] at hap
  obtain ⟨_, hq, hd⟩ := hap
  rw [List.nodup_append] at hq
  have hzX : z ∈ o.iv.ownBlock.toList := by simp [e]
  rcases hz with hz | hz
  ·exact hd z hz z (List.mem_append.2 (Or.inl hzX)) rfl
  ·exact hq.2.2 z hzX z hz rfl
 have hgne : ∀ z ∈ blocks A ++ (o.rv.ownBlock.toList ++ blocks C), z ≠ g := by
  intro z hz e
  subst e
  have hh : (z :: blocks A ++ o.iv.ownBlock.toList ++ (o.rv.ownBlock.toList ++ blocks C)).Nodup := hap
  rw [List.cons_append, List.cons_append, List.nodup_cons] at hh
  apply hh.1
  rcases List.mem_append.1 hz with hz | hz
  ·exact List.mem_append.2 (Or.inl (List.mem_append.2 (Or.inl hz)))
  ·exact List.mem_append.2 (Or.inr hz)
 have hivg : iv'.ownBlock ≠ some g := fun e => (hnew g (by simp [e])).1 (List.mem_cons_self ..)
 refine ⟨?_, ?_, ?_⟩
 ·have hx := owns_kept h1 hg (fun z hz => hrow z (Or.inl (by simp [Value.ownBlock] at hz; simp [hz])))
  rw [← hn] at hx
  have hs := (hx.stored (A.length * 3 + 1) iv').1
  have e : (tabCells (A ++ o :: C)).set (A.length * 3 + 1) iv' = tabCells (A ++ ⟨⟨o.t.mask, ids', o.t.rows⟩, iv', o.rv⟩ :: C) := by
   rw [tabCells_mid, tabCells_mid, set_app _ _ _ 1 _ (by rw [tabCells_length])]
   simp [otCells]
  rw [e] at hs
  simpa [hn] using hs
 ·intro x hx
  rcases List.mem_append.1 hx with hx | hx
  ·have hb : ∀ z ∈ otBlocks x, z ∈ blocks A := fun z hz => List.mem_flatMap.2 ⟨x, hx, hz⟩
   exact otOwn_set (otOwn_kept (h2 x (List.mem_append.2 (Or.inl hx))) hg (fun z hz => hrow z (Or.inl (List.mem_cons_of_mem _ (hb z hz))))) (fun hz => hgne g (List.mem_append.2 (Or.inl (hb g hz))) rfl) _ _
  ·rcases List.mem_cons.1 hx with rfl | hx
   ·have ho := h2 o (List.mem_append.2 (Or.inr (List.mem_cons_self ..)))
    refine ⟨owns_set hi hivg _ _, ?_⟩
    refine owns_set (owns_kept ho.2 hg (fun z hz => hrow z (Or.inr (by simp [hz])))) (fun e => ?_) _ _
    exact hgne g (List.mem_append.2 (Or.inr (List.mem_append.2 (Or.inl (by simp [e]))))) rfl
   ·have hb : ∀ z ∈ otBlocks x, z ∈ blocks C := fun z hz => List.mem_flatMap.2 ⟨x, hx, hz⟩
    exact otOwn_set (otOwn_kept (h2 x (List.mem_append.2 (Or.inr (List.mem_cons_of_mem _ hx)))) hg (fun z hz => hrow z (Or.inr (List.mem_append.2 (Or.inr (hb z hz)))))) (fun hz => hgne g (List.mem_append.2 (Or.inr (List.mem_append.2 (Or.inr (hb g hz))))) rfl) _ _
 ·have := nodup_replace hap (toList_nodup iv'.ownBlock) hnew
  simpa [blocks_mid, otBlocks, Value.ownBlock] using this
end St
namespace St
open Num
open Go.ChangeShapes Go.WideShapes Go.ChangeAt Go.RowKit
set_option maxHeartbeats 400000 in
theorem search_empty (a : Option Addr) (cap : Nat) (m : Int) (w : World) :
  Calls Tryz.prog 109 #[.slice a 0 cap, .int .i64 m, .func (.func 110) #[] #[]] w fun e w' => e = .returned (.tuple #[.int .i64 0, .bool false]) ∧ w' = w := by
 go_enter Tryz.func109, Tryz.ntmps109
 go_wp2_with fail
 go_loop [9, 10] (fun i j => i = .int .i64 0 ∧ j = .int .i64 0) (fun _ _ => 0)
 case atStart => exact ⟨rfl, rfl⟩
 case round =>
  obtain ⟨rfl, rfl⟩ := hrel
  go_wp2_with fail
  go_ret2
  exact ⟨rfl, rfl⟩
set_option maxHeartbeats 1000000 in
set_option maxRecDepth 100000 in
theorem insert_end (a : Option Addr) (n c : Nat) (vb : Nat) (m : Int) (B : Nat) (xs : List Value) (w : World) (hn : (n + 1) * 56 ≤ 140737488355328) (_hcap : n ≤ c) (_hcm : c ≤ maxLen) (hB : B ≤ w.heap.size) (hown : w.ownsRow B 65 3 (.slice a n c) n xs)
  (hv : w.cell? ⟨vb, 0, none⟩ = some (.int .i64 m) ∧ w.cell? ⟨vb, 1, none⟩ = some (.slice none 0 0) ∧ w.cell? ⟨vb, 2, none⟩ = some (.slice none 0 0)) :
  Calls Tryz.prog 112 #[.slice a n c, .int .i64 n, .slice (some ⟨vb, 0, none⟩) 1 1] w fun e w' =>
   ∃ v', e = .returned v' ∧ w'.ownsRow B 65 3 v' (n + 1) (xs ++ [.int .i64 m, .slice none 0 0, .slice none 0 0]) ∧ w.grownBy w' (Value.slice a n c).ownBlock ∧ Lies w (.slice a n c) v' := by
 obtain ⟨i0, hi, hz0, hz1, hz2⟩ := info_parts info66
 have HO := hid hown
 have HV := hid hv
 unfold maxLen at _hcm
 clear hown hv
 have hnn : ((n : Int) == (n : Int)) = true := by simp
 go_enter Tryz.func112, Tryz.ntmps112
 go_wp2_with (at_builtin; refine wpList_append_own_at _ rfl _ _ 41 rfl B 65 i0 (.agg #[.int .i64 0, .slice none 0 0, .slice none 0 0]) 3 56 Tryz.underlying41 hi hz0 hz1 hz2 rfl (by decide) _ _ _ rfl HO.out ⟨vb, 0, none⟩ 1 1 [.int .i64 m, .slice none 0 0, .slice none 0 0] rfl ?c1 ?c2 ?c3 ?c4 ?c5 ?c6 ?_)
 case c1 => rfl
 case c2 =>
  intro j u hj
  rw [Addr.add_lit]
  match j, hj with
  | 0, hj => cases hj; exact HV.out.1
  | 1, hj => cases hj; exact HV.out.2.1
  | 2, hj => cases hj; exact HV.out.2.2
 case c3 => intro u hu; simp at hu; rcases hu with rfl | rfl <;> rfl
 case c4 => unfold maxLen; omega
 case c5 => exact hn
 case c6 => exact hB
 all_goals
  intro v' w1 h1 h2 _ h4
  have H1 := hid h1
  have H2 := hid h2
  have H4 := hid h4
  clear h1 h2 h4
  go_wp2
  go_ret
  refine ⟨v', rfl, H1.out, ?_, ?_⟩
  ·have := H2.out
   rw [ob_slice] at this ⊢
   exact this
  ·have := H4.out
   unfold Lies
   rw [ob_slice] at this ⊢
   exact this.imp id (fun h => ⟨_, Nat.le_refl _, h⟩)
end St
namespace St
open Num
open Go.ChangeShapes Go.WideShapes Go.ChangeAt Go.RowKit
theorem own_rows {W w1 : World} {B g n c : Nat} {A C : List OT} {o : OT} {rv' : Value} {rows' : List R8} (h : Own W B (.slice (some ⟨g, 0, none⟩) n c) (A ++ o :: C)) (hn : n = (A ++ o :: C).length)
  (hg : W.grownBy w1 o.rv.ownBlock) (hi : w1.ownsRow B 34 8 rv' rows'.length (rows'.flatMap rowCells)) (hl : Lies W o.rv rv') :
  Own (w1.setCell ⟨g, A.length * 3 + 2, none⟩ rv') B (.slice (some ⟨g, 0, none⟩) n c) (A ++ ⟨⟨o.t.mask, o.t.ids, rows'⟩, o.iv, rv'⟩ :: C) := by
 obtain ⟨h1, h2, h3⟩ := h
 have hgW := h1.lt g rfl
 have hbl := blocks_lt h2
 have hap : ((g :: blocks A ++ o.iv.ownBlock.toList) ++ o.rv.ownBlock.toList ++ blocks C).Nodup := by
  simpa [blocks_mid, otBlocks, Value.ownBlock] using h3
 have hall : ∀ z ∈ (g :: blocks A ++ o.iv.ownBlock.toList) ++ (o.rv.ownBlock.toList ++ blocks C), z < W.heap.size := by
  intro z hz
  have : z = g ∨ z ∈ blocks (A ++ o :: C) := by
   rw [blocks_mid, otBlocks]
   simp only [List.mem_append, List.mem_cons] at hz ⊢
   rcases hz with ((hz | hz) | hz) | (hz | hz)
   ·exact Or.inl hz
   ·exact Or.inr (Or.inl hz)
   ·exact Or.inr (Or.inr (Or.inl (Or.inl hz)))
   ·exact Or.inr (Or.inr (Or.inl (Or.inr hz)))
   ·exact Or.inr (Or.inr (Or.inr hz))
  rcases this with rfl | hz
  ·exact hgW.2
  ·exact (hbl z hz).2
 have hnew : ∀ x ∈ rv'.ownBlock.toList, x ∉ (g :: blocks A ++ o.iv.ownBlock.toList) ∧ x ∉ blocks C := by
  intro x hx
  rcases hl with e | ⟨y, hy, e⟩
  ·rw [e] at hx
   rw [List.append_assoc, List.nodup_append] at hap
   obtain ⟨_, hq, hd⟩ := hap
   rw [List.nodup_append] at hq
   exact ⟨fun hc => hd x hc x (List.mem_append.2 (Or.inl hx)) rfl, fun hc => hq.2.2 x hx x hc rfl⟩
  ·rw [e] at hx
   simp at hx
   subst hx
   refine ⟨fun hc => ?_, fun hc => ?_⟩
   ·have := hall x (List.mem_append.2 (Or.inl hc)); omega
   ·have := hall x (List.mem_append.2 (Or.inr (List.mem_append.2 (Or.inr hc)))); omega
 have hrow : ∀ z, z ∈ (g :: blocks A ++ o.iv.ownBlock.toList) ∨ z ∈ blocks C → o.rv.ownBlock ≠ some z := by
  intro z hz e
  rw [List.append_assoc, List.nodup_append] at hap
  obtain ⟨_, hq, hd⟩ := hap
  rw [List.nodup_append] at hq
  have hzX : z ∈ o.rv.ownBlock.toList := by simp [e]
  rcases hz with hz | hz
  ·exact hd z hz z (List.mem_append.2 (Or.inl hzX)) rfl
  ·exact hq.2.2 z hzX z hz rfl
 have hgne : ∀ z ∈ blocks A ++ (o.iv.ownBlock.toList ++ blocks C), z ≠ g := by
  intro z hz e
  subst e
  have hh : (z :: (blocks A ++ o.iv.ownBlock.toList ++ o.rv.ownBlock.toList ++ blocks C)).Nodup := by simpa using hap
  rw [List.nodup_cons] at hh
  apply hh.1
  simp only [List.mem_append] at hz ⊢
  rcases hz with hz | hz | hz
  ·exact Or.inl (Or.inl (Or.inl hz))
  ·exact Or.inl (Or.inl (Or.inr hz))
  ·exact Or.inr hz
 have hivg : rv'.ownBlock ≠ some g := fun e => (hnew g (by simp [e])).1 (by simp)
 refine ⟨?_, ?_, ?_⟩
 ·have hx := owns_kept h1 hg (fun z hz => hrow z (Or.inl (by simp [Value.ownBlock] at hz; simp [hz])))
  rw [← hn] at hx
  have hs := (hx.stored (A.length * 3 + 2) rv').1
  have e : (tabCells (A ++ o :: C)).set (A.length * 3 + 2) rv' = tabCells (A ++ ⟨⟨o.t.mask, o.t.ids, rows'⟩, o.iv, rv'⟩ :: C) := by
   rw [tabCells_mid, tabCells_mid, set_app _ _ _ 2 _ (by rw [tabCells_length])]
   simp [otCells]
  rw [e] at hs
  simpa [hn] using hs
 ·intro x hx
  rcases List.mem_append.1 hx with hx | hx
  ·have hb : ∀ z ∈ otBlocks x, z ∈ blocks A := fun z hz => List.mem_flatMap.2 ⟨x, hx, hz⟩
   exact otOwn_set (otOwn_kept (h2 x (List.mem_append.2 (Or.inl hx))) hg (fun z hz => hrow z (Or.inl (by simp [hb z hz])))) (fun hz => hgne g (List.mem_append.2 (Or.inl (hb g hz))) rfl) _ _
  ·rcases List.mem_cons.1 hx with rfl | hx
   ·have ho := h2 o (List.mem_append.2 (Or.inr (List.mem_cons_self ..)))
    refine ⟨?_, owns_set hi hivg _ _⟩
    refine owns_set (owns_kept ho.1 hg (fun z hz => hrow z (Or.inl (by simp [hz])))) (fun e => ?_) _ _
    exact hgne g (List.mem_append.2 (Or.inr (List.mem_append.2 (Or.inl (by simp [e]))))) rfl
   ·have hb : ∀ z ∈ otBlocks x, z ∈ blocks C := fun z hz => List.mem_flatMap.2 ⟨x, hx, hz⟩
    exact otOwn_set (otOwn_kept (h2 x (List.mem_append.2 (Or.inr (List.mem_cons_of_mem _ hx)))) hg (fun z hz => hrow z (Or.inr (hb z hz)))) (fun hz => hgne g (List.mem_append.2 (Or.inr (List.mem_append.2 (Or.inr (hb g hz))))) rfl) _ _
 ·have := nodup_replace hap (toList_nodup rv'.ownBlock) hnew
  simpa [blocks_mid, otBlocks, Value.ownBlock] using this
theorem own_insert {W w1 : World} {B : Nat} {v v' : Value} {A C : List OT} {m : Int} (h : Own W B v (A ++ C)) (hg : W.grownBy w1 v.ownBlock)
  (hi : w1.ownsRow B 65 3 v' ((A ++ C).length + 1) (tabCells A ++ ([.int .i64 m, .slice none 0 0, .slice none 0 0] ++ tabCells C))) (hl : Lies W v v') :
  Own w1 B v' (A ++ ⟨⟨m, [], []⟩, .slice none 0 0, .slice none 0 0⟩ :: C) := by
 obtain ⟨h1, h2, h3⟩ := h
 have hbl := blocks_lt h2
 have hb : blocks (A ++ ⟨⟨m, [], []⟩, .slice none 0 0, .slice none 0 0⟩ :: C) = blocks (A ++ C) := by simp [blocks, otBlocks, Value.ownBlock]
 have hvb : ∀ z ∈ blocks (A ++ C), v.ownBlock ≠ some z := by
  intro z hz e
  rw [List.nodup_append] at h3
  exact h3.2.2 z (by simp [e]) z hz rfl
 refine ⟨?_, ?_, ?_⟩
 ·rw [tabCells_mid]
  simpa [otCells, Nat.add_assoc] using hi
 ·intro x hx
  have hold : ∀ y ∈ A ++ C, OtOwn w1 B y := fun y hy => otOwn_kept (h2 y hy) hg (fun z hz => hvb z (List.mem_flatMap.2 ⟨y, hy, hz⟩))
  rcases List.mem_append.1 hx with hx | hx
  ·exact hold x (List.mem_append.2 (Or.inl hx))
  ·rcases List.mem_cons.1 hx with rfl | hx
   ·exact ⟨⟨by simp, Or.inl ⟨rfl, rfl⟩⟩, ⟨by simp, Or.inl ⟨rfl, rfl⟩⟩⟩
   ·exact hold x (List.mem_append.2 (Or.inr hx))
 ·rw [hb]
  rcases hl with e | ⟨y, hy, e⟩
  ·rw [e]; exact h3
  ·rw [e, List.nodup_append]
   rw [List.nodup_append] at h3
   refine ⟨by simp, h3.2.1, fun x hx z hz e' => ?_⟩
   simp at hx
   have := (hbl z hz).2
   omega
theorem Own.below {w w' : World} {B : Nat} {v : Value} {S : List OT} (h : Own w B v S) (hb : Below w.heap.size w w') : Own w' B v S :=
 ⟨owns_below h.1 hb, fun o ho => otOwn_below (h.2.1 o ho) hb, h.2.2⟩
theorem Own.set {w : World} {B : Nat} {v : Value} {S : List OT} (h : Own w B v S) {b : Nat} (hb : b < B) (j : Nat) (u : Value) : Own (w.setCell ⟨b, j, none⟩ u) B v S := by
 have hlt := blocks_lt h.2.1
 refine ⟨owns_set h.1 (fun e => by have := h.1.lt b e; omega) j u, fun o ho => otOwn_set (h.2.1 o ho) (fun hz => ?_) j u, h.2.2⟩
 have := hlt b (List.mem_flatMap.2 ⟨o, ho, hz⟩)
 omega
theorem Own.set' {w : World} {B : Nat} {v : Value} {S : List OT} (h : Own w B v S) {b : Nat} (hb : b ∉ v.ownBlock.toList ++ blocks S) (j : Nat) (u : Value) : Own (w.setCell ⟨b, j, none⟩ u) B v S := by
 refine ⟨owns_set h.1 (fun e => hb (by simp [e])) j u, fun o ho => otOwn_set (h.2.1 o ho) (fun hz => ?_) j u, h.2.2⟩
 exact hb (List.mem_append.2 (Or.inr (List.mem_flatMap.2 ⟨o, ho, hz⟩)))
theorem Own.lt {w : World} {B : Nat} {v : Value} {S : List OT} (h : Own w B v S) : ∀ b ∈ v.ownBlock.toList ++ blocks S, B ≤ b ∧ b < w.heap.size := by
 intro b hb
 rcases List.mem_append.1 hb with hb | hb
 ·exact h.1.lt b (by simpa using hb)
 ·exact blocks_lt h.2.1 b hb
theorem Own.cell {w : World} {B g n c : Nat} {A C : List OT} {o : OT} (h : Own w B (.slice (some ⟨g, 0, none⟩) n c) (A ++ o :: C)) (hn : n = (A ++ o :: C).length) :
  w.cell? ⟨g, A.length * 3, none⟩ = some (.int .i64 o.t.mask) ∧ w.cell? ⟨g, A.length * 3 + 1, none⟩ = some o.iv ∧ w.cell? ⟨g, A.length * 3 + 2, none⟩ = some o.rv := by
 have hx := h.1
 rw [← hn, tabCells_mid] at hx
 have hl := tabCells_length A
 have hn' : A.length < n := by rw [hn]; simp
 refine ⟨?_, ?_, ?_⟩
 ·rw [hx.cellAt _ (by omega), List.getElem?_append_right (by omega), hl]; simp [otCells]
 ·rw [hx.cellAt _ (by omega), List.getElem?_append_right (by omega), hl, show A.length * 3 + 1 - A.length * 3 = 1 by omega]; simp [otCells]
 ·rw [hx.cellAt _ (by omega), List.getElem?_append_right (by omega), hl, show A.length * 3 + 2 - A.length * 3 = 2 by omega]; simp [otCells]
theorem Own.frozen {w : World} {B g n c : Nat} {S : List OT} (h : Own w B (.slice (some ⟨g, 0, none⟩) n c) S) (hn : n = S.length) (j : Nat) : w.frozen? ⟨g, j, none⟩ = false := by
 have hx := h.1
 rw [← hn] at hx
 exact hx.frozenAt j
end St
namespace St
open Num
open Go.ChangeShapes Go.WideShapes Go.ChangeAt Go.RowKit
theorem append_list {P : Program} {w : World} {ops : Array Oper} {rest : List Oper} {o : Oper} {a : Act} {Q : Exit → Act → World → Prop} (hgd : o.guard = none) (s x : Operand) (t : TypeId)
  (ho : o.op = .call { callee := .builtin .append, args := #[s, x], argTypes := #[t, t] })
  (base : Nat) (e : TypeId) (z : Value) (size bytes : Nat) (ht : P.underlying t = some (.slice e)) (hi : (P.info? e).map (fun i => (i.zero, i.size, i.bytes)) = some (some z, size, bytes))
  (hzs : z.cells.size = size) (hsz : 0 < size)
  (v : Value) (n : Nat) (xs : List Value) (hs : a.eval s = v) (hown : w.ownsRow base e size v n xs)
  (ad : Addr) (m c : Nat) (news : List Value) (hx : a.eval x = .slice (some ad) m c) (hl : news.length = m * size) (hnews : ∀ j u, news[j]? = some u → w.cell? (ad.add j) = some u) (h1 : ∀ u ∈ news, u.oneCell' = true)
  (h63 : n + m ≤ maxLen) (hbytes : (n + m) * bytes ≤ 140737488355328) (hbase : base ≤ w.heap.size)
  (h : ∀ a' c' w', w'.ownsRow base e size (.slice a' (n + m) c') (n + m) (xs ++ news) → w.grownBy w' v.ownBlock → Lies w v (.slice a' (n + m) c') → wpList P ops Q rest (a.put o.dst (.slice a' (n + m) c')) w') :
  wpList P ops Q (o :: rest) a w := by
 obtain ⟨i0, hi', hz0, hz1, hz2⟩ := info_parts hi
 refine wpList_append_own_at w hgd s x t ho base e i0 z size bytes ht hi' hz0 hz1 hz2 hzs hsz v n xs hs hown ad m c news hx hl hnews h1 h63 hbytes hbase ?_
 intro v' w' h2 h3 _ h5
 obtain ⟨a', c', rfl⟩ := own_form h2
 exact h a' c' w' h2 h3 (h5.imp id (fun h => ⟨_, Nat.le_refl _, h⟩))
theorem append_step {P : Program} {w : World} {ops : Array Oper} {o : Oper} {a : Act} {K : Act → World → Prop} {Q : Exit → Act → World → Prop} {E : Prop} (hgd : o.guard = none) (s x : Operand) (t : TypeId)
  (ho : o.op = .call { callee := .builtin .append, args := #[s, x], argTypes := #[t, t] })
  (base : Nat) (e : TypeId) (z : Value) (size bytes : Nat) (ht : P.underlying t = some (.slice e)) (hi : (P.info? e).map (fun i => (i.zero, i.size, i.bytes)) = some (some z, size, bytes))
  (hzs : z.cells.size = size) (hsz : 0 < size)
  (v : Value) (n : Nat) (xs : List Value) (hs : a.eval s = v) (hown : w.ownsRow base e size v n xs)
  (ad : Addr) (m c : Nat) (news : List Value) (hx : a.eval x = .slice (some ad) m c) (hl : news.length = m * size) (hnews : ∀ j u, news[j]? = some u → w.cell? (ad.add j) = some u) (h1 : ∀ u ∈ news, u.oneCell' = true)
  (h63 : n + m ≤ maxLen) (hbytes : (n + m) * bytes ≤ 140737488355328) (hbase : base ≤ w.heap.size)
  (h : ∀ a' c' w', w'.ownsRow base e size (.slice a' (n + m) c') (n + m) (xs ++ news) → w.grownBy w' v.ownBlock → Lies w v (.slice a' (n + m) c') → K (a.put o.dst (.slice a' (n + m) c')) w') :
  if Region.wanted o (yielded ops a.tmps) = true then Oper.wp P o a w K Q else E := by
 have hw : Region.wanted o (yielded ops a.tmps) = true := by simp [Region.wanted, hgd]
 rw [if_pos hw]
 obtain ⟨i0, hi', hz0, hz1, hz2⟩ := info_parts hi
 obtain ⟨v', w', hr, h2, h3, _, h5⟩ := run_append_own_at (P := P) w base t o.type e i0 z size bytes ht hi' hz0 hz1 hz2 hzs hsz v n xs hown ad m c news hl hnews h1 h63 hbytes hbase
 obtain ⟨a', c', rfl⟩ := own_form h2
 unfold Oper.wp
 simp [execOp, ho, resolve, invoke, builtin, hs, hx, hr, Result.andThen]
 exact h a' c' w' h2 h3 (h5.imp id (fun h => ⟨_, Nat.le_refl _, h⟩))
theorem rowIs8 (w : World) (r : R8) (t : TypeId) : (w.alloc (.cells #[.int .i64 r.x, .int .i64 r.y, .int .i64 r.px, .int .i64 r.py, .int .i64 r.wd, .int .i64 r.ht, .int .i64 r.ms, .int .i64 r.rr] t)).rowIs w.heap.size t 8 (fun i => (rowCells r).getD i undef) :=
 ⟨_, (MapKept.heap_alloc w _).1, rfl, fun i hi => by
  match i, hi with
  | 0, _ => rfl
  | 1, _ => rfl
  | 2, _ => rfl
  | 3, _ => rfl
  | 4, _ => rfl
  | 5, _ => rfl
  | 6, _ => rfl
  | 7, _ => rfl⟩
theorem rowIs_below {w w' : World} {b n : Nat} {t : TypeId} {f : Nat → Value} (h : w.rowIs b t n f) (hb : Below w.heap.size w w') : w'.rowIs b t n f := h.of_block (hb.block b h.lt)
theorem rowIs_grown {w w' : World} {b n : Nat} {t : TypeId} {f : Nat → Value} {row : Option Nat} (h : w.rowIs b t n f) (hg : w.grownBy w' row) (hne : row ≠ some b) : w'.rowIs b t n f := h.of_block (hg.block b h.lt (fun e => hne e.symm))
def Keep (w w' : World) : Prop := ∀ b n f, w.rowIs b 43 n f → w'.rowIs b 43 n f
theorem Keep.refl (w : World) : Keep w w := fun _ _ _ h => h
theorem Keep.trans {a b c : World} (h : Keep a b) (k : Keep b c) : Keep a c := fun x n f hx => k x n f (h x n f hx)
theorem Keep.below {a w w' : World} (h : Keep a w) (hb : Below w.heap.size w w') : Keep a w' := fun x n f hx => rowIs_below (h x n f hx) hb
theorem Keep.alloc {a w : World} (h : Keep a w) (o : Obj) : Keep a (w.alloc o) := fun x n f hx => (h x n f hx).alloc o
theorem Keep.grown {a w w' : World} {row : Option Nat} (h : Keep a w) (hg : w.grownBy w' row) (hk : ∀ x, row = some x → ∃ c e fz, w.heap[x]? = some (.cells c e fz) ∧ e ≠ 43) : Keep a w' := fun x n f hx => by
 refine rowIs_grown (h x n f hx) hg (fun e => ?_)
 obtain ⟨c, ty, fz, h1, h2⟩ := hk x e
 obtain ⟨c', h3, _⟩ := h x n f hx
 rw [h1] at h3
 cases h3
 exact h2 rfl
theorem Keep.set {a w : World} (h : Keep a w) {g : Nat} (hk : ∃ c e fz, w.heap[g]? = some (.cells c e fz) ∧ e ≠ 43) (j : Nat) (u : Value) : Keep a (w.setCell ⟨g, j, none⟩ u) := fun x n f hx => by
 refine (h x n f hx).setOther (fun e => ?_) u
 obtain ⟨c, ty, fz, h1, h2⟩ := hk
 obtain ⟨c', h3, _⟩ := h x n f hx
 simp only at e
 rw [e, h1] at h3
 cases h3
 exact h2 rfl
theorem Keep.setNew {a w : World} (h : Keep a w) {g : Nat} (hg : a.heap.size ≤ g) (j : Nat) (u : Value) : Keep a (w.setCell ⟨g, j, none⟩ u) := fun x n f hx =>
 (h x n f hx).setOther (fun e => by have := hx.lt; simp only at e; omega) u
theorem Keep.drew {a w : World} (h : Keep a w) : Keep a w.drew := h
theorem kind_of {w : World} {B size n : Nat} {e : TypeId} {v : Value} {xs : List Value} (h : w.ownsRow B e size v n xs) (he : e ≠ 43) : ∀ g, v.ownBlock = some g → ∃ c e' fz, w.heap[g]? = some (.cells c e' fz) ∧ e' ≠ 43 := by
 intro g hg
 rcases h.2 with ⟨rfl, _⟩ | ⟨g', c, cur, rfl, _, hb, _⟩
 ·cases hg
 ·simp [Value.ownBlock] at hg
  subst hg
  exact ⟨cur, e, _, hb, he⟩
structure Boxes (W : World) (b : Nat) (v : Value) (next : Int) (r : R8) : Prop where
 s : W.rowIs b 43 2 (fun i => if i = 0 then v else .int .i64 next)
 r : W.rowIs (b + 1) 34 8 (fun i => (rowCells r).getD i undef)
 res : W.rowIs (b + 2) 43 2 (fun i => if i = 0 then .slice none 0 0 else .int .i64 0)
theorem Boxes.made (w : World) (v : Value) (next : Int) (r : R8) : Boxes (((w.alloc (.cells #[v, .int .i64 next] 43)).alloc (.cells #[.int .i64 r.x, .int .i64 r.y, .int .i64 r.px, .int .i64 r.py, .int .i64 r.wd, .int .i64 r.ht, .int .i64 r.ms, .int .i64 r.rr] 34)).alloc (.cells #[.slice none 0 0, .int .i64 0] 43)) w.heap.size v next r := by
 refine ⟨((rowIs2 w _ _ _).alloc _).alloc _, ?_, ?_⟩
 ·have := rowIs8 (w.alloc (.cells #[v, .int .i64 next] 43)) r 34
  rw [World.size_alloc] at this
  exact this.alloc _
 ·have := rowIs2 ((w.alloc (.cells #[v, .int .i64 next] 43)).alloc (.cells #[.int .i64 r.x, .int .i64 r.y, .int .i64 r.px, .int .i64 r.py, .int .i64 r.wd, .int .i64 r.ht, .int .i64 r.ms, .int .i64 r.rr] 34)) (.slice none 0 0) (.int .i64 0) 43
  rw [World.size_alloc, World.size_alloc] at this
  exact this
theorem Boxes.below {W W' : World} {b : Nat} {v : Value} {next : Int} {r : R8} (h : Boxes W b v next r) (hb : Below W.heap.size W W') : Boxes W' b v next r := ⟨rowIs_below h.s hb, rowIs_below h.r hb, rowIs_below h.res hb⟩
theorem Boxes.grown {W W' : World} {b : Nat} {v : Value} {next : Int} {r : R8} {row : Option Nat} (h : Boxes W b v next r) (hg : W.grownBy W' row) (hne : ∀ x, row = some x → x < b ∨ b + 2 < x) : Boxes W' b v next r :=
 ⟨rowIs_grown h.s hg (fun e => by have := hne _ e; omega), rowIs_grown h.r hg (fun e => by have := hne _ e; omega), rowIs_grown h.res hg (fun e => by have := hne _ e; omega)⟩
theorem Boxes.set {W : World} {b : Nat} {v : Value} {next : Int} {r : R8} (h : Boxes W b v next r) {x : Nat} (hne : x < b ∨ b + 2 < x) (j : Nat) (u : Value) : Boxes (W.setCell ⟨x, j, none⟩ u) b v next r :=
 ⟨h.s.setOther (by simp; omega) u, h.r.setOther (by simp; omega) u, h.res.setOther (by simp; omega) u⟩
theorem Boxes.setS {W : World} {b : Nat} {v : Value} {next : Int} {r : R8} (h : Boxes W b v next r) (u : Value) : Boxes (W.setCell ⟨b, 0, none⟩ u) b u next r :=
 ⟨(h.s.set 0 u).congr (fun i hi => by match i, hi with | 0, _ => rfl | 1, _ => rfl), h.r.setOther (by simp) u, h.res.setOther (by simp) u⟩
theorem Boxes.cells {W : World} {b : Nat} {v : Value} {next : Int} {r : R8} (h : Boxes W b v next r) : W.cell? ⟨b, 0, none⟩ = some v ∧ W.cell? ⟨b, 1, none⟩ = some (.int .i64 next) ∧ W.frozen? ⟨b, 0, none⟩ = false ∧
  W.cell? ⟨b + 2, 0, none⟩ = some (.slice none 0 0) ∧ W.cell? ⟨b + 2, 1, none⟩ = some (.int .i64 0) ∧ W.frozen? ⟨b + 2, 0, none⟩ = false ∧ W.frozen? ⟨b + 2, 1, none⟩ = false :=
 ⟨h.s.cell (i := 0) (by omega), h.s.cell (i := 1) (by omega), h.s.frozen 0, h.res.cell (i := 0) (by omega), h.res.cell (i := 1) (by omega), h.res.frozen 0, h.res.frozen 1⟩
theorem Boxes.row {W : World} {b : Nat} {v : Value} {next : Int} {r : R8} (h : Boxes W b v next r) : W.cell? ⟨b + 1, 0, none⟩ = some (.int .i64 r.x) ∧ W.cell? ⟨b + 1, 1, none⟩ = some (.int .i64 r.y) ∧ W.cell? ⟨b + 1, 2, none⟩ = some (.int .i64 r.px) ∧ W.cell? ⟨b + 1, 3, none⟩ = some (.int .i64 r.py) ∧
  W.cell? ⟨b + 1, 4, none⟩ = some (.int .i64 r.wd) ∧ W.cell? ⟨b + 1, 5, none⟩ = some (.int .i64 r.ht) ∧ W.cell? ⟨b + 1, 6, none⟩ = some (.int .i64 r.ms) ∧ W.cell? ⟨b + 1, 7, none⟩ = some (.int .i64 r.rr) :=
 ⟨h.r.cell (i := 0) (by omega), h.r.cell (i := 1) (by omega), h.r.cell (i := 2) (by omega), h.r.cell (i := 3) (by omega), h.r.cell (i := 4) (by omega), h.r.cell (i := 5) (by omega), h.r.cell (i := 6) (by omega), h.r.cell (i := 7) (by omega)⟩
end St
namespace St
open Num
open Go.ChangeShapes Go.WideShapes Go.ChangeAt Go.RowKit
def Rising (S : List OT) : Prop := S.Pairwise (fun a b => a.t.mask < b.t.mask)
theorem own_at {w : World} {B g n c : Nat} {S : List OT} (h : Own w B (.slice (some ⟨g, 0, none⟩) n c) S) (hn : n = S.length) (i : Nat) (o : OT) (hi : S[i]? = some o) :
  w.cell? ⟨g, i * 3, none⟩ = some (.int .i64 o.t.mask) ∧ w.cell? ⟨g, i * 3 + 1, none⟩ = some o.iv ∧ w.cell? ⟨g, i * 3 + 2, none⟩ = some o.rv := by
 have hlt : i < S.length := (List.getElem?_eq_some_iff.1 hi).1
 have e : S = S.take i ++ o :: S.drop (i + 1) := by
  have h1 : S.take i ++ S.drop i = S := List.take_append_drop i S
  rw [List.drop_eq_getElem_cons hlt] at h1
  rw [(List.getElem?_eq_some_iff.1 hi).2] at h1
  exact h1.symm
 have hl : (S.take i).length = i := by rw [List.length_take]; omega
 rw [e] at h
 have := h.cell (by rw [hn, ← e])
 rw [hl] at this
 exact this
def mk (S : List OT) (i : Nat) : Int := (S[i]?.map (·.t.mask)).getD 0
theorem search_own (a : Option Addr) (n c : Nat) (m : Int) (B : Nat) (S : List OT) (w : World) (hn : n = S.length) (hz : n ≤ 4611686018427387903) (h : Own w B (.slice a n c) S) (hr : Rising S) :
  Calls Tryz.prog 109 #[.slice a n c, .int .i64 m, .func (.func 110) #[] #[]] w fun e w' =>
   (∃ i : Nat, e = .returned (.tuple #[.int .i64 i, .bool (decide (i < n ∧ mk S i = m))]) ∧ i ≤ n ∧ (∀ q, q < i → mk S q < m) ∧ ∀ q, i ≤ q → q < n → m ≤ mk S q) ∧ Below w.heap.size w w' := by
 rcases Nat.eq_zero_or_pos n with h0 | hp
 ·subst h0
  refine (search_empty a c m w).mono ?_
  rintro e w' ⟨rfl, rfl⟩
  exact ⟨⟨0, by simp, Nat.le_refl _, fun q hq => absurd hq (Nat.not_lt_zero _), fun q _ hq => absurd hq (Nat.not_lt_zero _)⟩, Below.refl _ _⟩
 ·have hf : ∃ g, a = some ⟨g, 0, none⟩ := by
   rcases h.1.2 with ⟨_, h2⟩ | ⟨g, c', _, e, _⟩
   ·omega
   ·cases e; exact ⟨g, rfl⟩
  obtain ⟨g, rfl⟩ := hf
  have hg := h.1.lt g rfl
  refine search_any g 0 n c m (mk S) (fun i => (S[i]?.map (·.iv)).getD undef) (fun i => (S[i]?.map (·.rv)).getD undef) w hz hg.2 ?_ ?_
  ·intro i hi
   have hs : S[i]? = some S[i] := List.getElem?_eq_getElem (by omega)
   have := own_at h hn i _ hs
   simp only [Nat.zero_add, mk, hs, Option.map_some, Option.getD_some]
   exact this
  ·intro i j hij hj
   have hi : S[i]? = some S[i] := List.getElem?_eq_getElem (by omega)
   have hj' : S[j]? = some S[j] := List.getElem?_eq_getElem (by omega)
   simp only [mk, hi, hj', Option.map_some, Option.getD_some]
   exact (List.pairwise_iff_getElem.1 hr) i j (by omega) (by omega) hij
theorem rising_mid {A C : List OT} {o : OT} (h : Rising (A ++ o :: C)) {i : Nat} (hi : i < (A ++ o :: C).length) (he : mk (A ++ o :: C) i = o.t.mask) : i = A.length := by
 have hi' : (A ++ o :: C)[i]? = some (A ++ o :: C)[i] := List.getElem?_eq_getElem hi
 have ho : (A ++ o :: C)[A.length]? = some o := by simp
 have hl : A.length < (A ++ o :: C).length := by simp
 have e1 : (A ++ o :: C)[i].t.mask = o.t.mask := by simpa [mk, hi'] using he
 have e2 : (A ++ o :: C)[A.length] = o := (List.getElem?_eq_some_iff.1 ho).2
 rcases Nat.lt_trichotomy i A.length with hlt | heq | hgt
 ·have := (List.pairwise_iff_getElem.1 h) i A.length hi hl hlt
  rw [e2] at this; omega
 ·exact heq
 ·have := (List.pairwise_iff_getElem.1 h) A.length i hl hi hgt
  rw [e2] at this; omega
theorem grown_drew {w w' : World} {row : Option Nat} (h : w.drew.grownBy w' row) : w.grownBy w' row := ⟨h.os, h.tape, h.output, h.size, h.block⟩
theorem lies_drew {w : World} {v v' : Value} (h : Lies w.drew v v') : Lies w v v' := h
theorem row_news (w : World) (r : R8) : ∀ j u, (rowCells r)[j]? = some u → (w.alloc (.cells #[.int .i64 r.x, .int .i64 r.y, .int .i64 r.px, .int .i64 r.py, .int .i64 r.wd, .int .i64 r.ht, .int .i64 r.ms, .int .i64 r.rr] 34)).cell? ((⟨w.heap.size, 0, none⟩ : Addr).add j) = some u := by
 intro j u hj
 have hj8 : j < 8 := by simpa [rowCells] using (List.getElem?_eq_some_iff.1 hj).1
 rw [Addr.add_lit, Nat.zero_add, (rowIs8 w r 34).cell hj8]
 simp [List.getD, hj]
theorem own_kind {w : World} {B size n : Nat} {e : TypeId} {v : Value} {xs : List Value} (h : w.ownsRow B e size v n xs) : ∀ g, v.ownBlock = some g → ∃ c fz, w.heap[g]? = some (.cells c e fz) := by
 intro g hg
 rcases h.2 with ⟨rfl, _⟩ | ⟨g', c, cur, rfl, _, hb, _⟩
 ·cases hg
 ·simp [Value.ownBlock] at hg
  subst hg
  exact ⟨cur, _, hb⟩
theorem own_not_box {W : World} {B b n : Nat} {v : Value} {S : List OT} {t : TypeId} {f : Nat → Value} (h : Own W B v S) (hb : W.rowIs b t n f) (ht : t ≠ 65 ∧ t ≠ 3 ∧ t ≠ 34) : b ∉ v.ownBlock.toList ++ blocks S := by
 obtain ⟨cb, hcb, _⟩ := hb
 intro hm
 rcases List.mem_append.1 hm with hm | hm
 ·obtain ⟨c, fz, e⟩ := own_kind h.1 b (by simpa using hm)
  rw [hcb] at e; cases e; exact ht.1 rfl
 ·simp only [blocks, List.mem_flatMap, otBlocks, List.mem_append] at hm
  obtain ⟨o, ho, hm | hm⟩ := hm
  ·obtain ⟨c, fz, e⟩ := own_kind (h.2.1 o ho).1 b (by simpa using hm)
   rw [hcb] at e; cases e; exact ht.2.1 rfl
  ·obtain ⟨c, fz, e⟩ := own_kind (h.2.1 o ho).2 b (by simpa using hm)
   rw [hcb] at e; cases e; exact ht.2.2 rfl
theorem own_ne {W : World} {B g n c : Nat} {A C : List OT} {o : OT} (h : Own W B (.slice (some ⟨g, 0, none⟩) n c) (A ++ o :: C)) : o.iv.ownBlock ≠ some g ∧ o.rv.ownBlock ≠ some g := by
 have h3 := h.2.2
 rw [blocks_mid] at h3
 have hh : g ∉ blocks A ++ (otBlocks o ++ blocks C) := by
  have : (g :: (blocks A ++ (otBlocks o ++ blocks C))).Nodup := by simpa [Value.ownBlock] using h3
  exact (List.nodup_cons.1 this).1
 refine ⟨fun e => hh ?_, fun e => hh ?_⟩
 ·exact List.mem_append.2 (Or.inr (List.mem_append.2 (Or.inl (by simp [otBlocks, e]))))
 ·exact List.mem_append.2 (Or.inr (List.mem_append.2 (Or.inl (by simp [otBlocks, e]))))
theorem own_pre {W w1 : World} {B g n c : Nat} {A C : List OT} {o : OT} {row : Option Nat} (h : Own W B (.slice (some ⟨g, 0, none⟩) n c) (A ++ o :: C)) (hn : n = (A ++ o :: C).length) (hg : W.grownBy w1 row) (hne : row ≠ some g) :
  w1.cell? ⟨g, A.length * 3 + 1, none⟩ = some o.iv ∧ w1.cell? ⟨g, A.length * 3 + 2, none⟩ = some o.rv ∧ ∀ j, w1.frozen? ⟨g, j, none⟩ = false := by
 have hb := hg.block g (h.1.lt g rfl).2 (fun e => hne e.symm)
 obtain ⟨_, c1, c2⟩ := h.cell hn
 exact ⟨(World.cell?_of_block (a := ⟨g, A.length * 3 + 1, none⟩) hb).trans c1, (World.cell?_of_block (a := ⟨g, A.length * 3 + 2, none⟩) hb).trans c2, fun j => (World.frozen?_of_block (a := ⟨g, j, none⟩) hb).trans (h.frozen hn j)⟩
set_option maxHeartbeats 4000000 in
set_option maxRecDepth 100000 in
theorem putIn_found (g n c : Nat) (next id : Int) (B : Nat) (A C : List OT) (o : OT) (r : R8) (w : World) (hN : n = (A ++ o :: C).length) (hB : B ≤ w.heap.size) (hz : n ≤ 1000) (hi1 : o.t.ids.length ≤ 1000) (hr1 : o.t.rows.length ≤ 1000)
  (hown : Own w B (.slice (some ⟨g, 0, none⟩) n c) (A ++ o :: C)) (hris : Rising (A ++ o :: C)) :
  Calls Tryz.prog 89 #[.agg #[.slice (some ⟨g, 0, none⟩) n c, .int .i64 next], .int .i64 o.t.mask, .int .i64 id, .agg #[.int .i64 r.x, .int .i64 r.y, .int .i64 r.px, .int .i64 r.py, .int .i64 r.wd, .int .i64 r.ht, .int .i64 r.ms, .int .i64 r.rr]] w fun e w' =>
   (∃ v, e = .returned (.agg #[v, .int .i64 next]) ∧ ∃ iv rv, Own w' B v (A ++ ⟨⟨o.t.mask, o.t.ids ++ [id], o.t.rows ++ [r]⟩, iv, rv⟩ :: C)) ∧ Below B w w' ∧ Keep w w' := by
 have HS := hid (fun w' (hb : Below w.heap.size w w') => search_own (some ⟨g, 0, none⟩) n c o.t.mask B (A ++ o :: C) w' hN (by omega) (hown.below hb) hris)
 have HO := hid hown
 have HRI := hid hris
 have HN := hid hN
 have hAn : A.length < n := by rw [hN]; simp
 clear hown hris
 have hN' : Hid (n = (A ++ o :: C).length) := hN
 clear hN
 go_enter Tryz.func89, Tryz.ntmps89
 go_wp2_with fail
 refine (HS.out _ (bal (bal (bal (Below.refl _ _) _) _) _)).mono ?_
 rintro e w1 ⟨⟨i, rfl, hin, hlo, hhi⟩, hb1⟩
 have hfound : i < n ∧ mk (A ++ o :: C) i = o.t.mask := by
  have hmid : mk (A ++ o :: C) A.length = o.t.mask := by simp [mk]
  have h1 : ¬ A.length < i := fun h => by have := hlo A.length h; omega
  have h2 : ¬ i < A.length := fun h => by
   have h3 := hhi i (Nat.le_refl _) (by omega)
   have hlt : A.length < (A ++ o :: C).length := by simp
   have hil : i < (A ++ o :: C).length := by omega
   have := (List.pairwise_iff_getElem.1 HRI.out) i A.length hil hlt h
   have e1 : mk (A ++ o :: C) i = (A ++ o :: C)[i].t.mask := by simp only [mk, List.getElem?_eq_getElem hil, Option.map_some, Option.getD_some]
   have e2 : mk (A ++ o :: C) A.length = (A ++ o :: C)[A.length].t.mask := by simp only [mk, List.getElem?_eq_getElem hlt, Option.map_some, Option.getD_some]
   omega
  have : i = A.length := by omega
  subst this
  exact ⟨hAn, hmid⟩
 have hiA : i = A.length := rising_mid HRI.out (by rw [← hN'.out]; exact hfound.1) hfound.2
 subst hiA
 rw [decide_eq_true hfound]
 have hW : Hid (Own w1 B (.slice (some ⟨g, 0, none⟩) n c) (A ++ o :: C)) := HO.out.below (bcall (bal (bal (bal (Below.refl _ _) _) _) _) hb1)
 have hBX : Hid (Boxes w1 w.heap.size (.slice (some ⟨g, 0, none⟩) n c) next r) := (Boxes.made w _ next r).below hb1
 have hBW : Hid (Below B w w1) := (bcall (bal (bal (bal (Below.refl _ _) _) _) _) hb1).mono hB
 have hKW : Hid (Keep w w1) := hid ((((Keep.refl w).alloc _).alloc _).alloc _ |>.below hb1)
 have hz1 := hb1.size
 simp at hz1
 clear hlo hhi hfound hb1 hin
 have hgW := hW.out.1.lt g rfl
 obtain ⟨t0, t1, t2⟩ := hW.out.cell hN'.out
 have t1f := hW.out.frozen hN'.out (A.length * 3 + 1)
 obtain ⟨x0, x1, x2, x3, x4, x5, x6⟩ := hBX.out.cells
 have HIO := hid (hW.out.2.1 o (by simp)).1
 have hgl : g < w1.heap.size := hgW.2
 have hgb : g < w.heap.size := (HO.out.1.lt g rfl).2
 go_wp2_with (at_builtin; refine append_list rfl _ _ 28 rfl B 3 (.int .i64 0) 1 8 Tryz.underlying28 info3 rfl (by decide) _ _ _ rfl (HIO.out.alloc _) ⟨w1.heap.size, 0, none⟩ 1 1 [.int .i64 id] rfl rfl ?c1 ?c2 ?c3 ?c4 ?c5 ?_)
 case c1 =>
  intro j u hj
  match j, hj with
  | 0, hj => cases hj; simp [Addr.add]
 case c2 => intro u hu; simp at hu; subst hu; rfl
 case c3 => unfold maxLen; omega
 case c4 => omega
 case c5 => simp; omega
 intro a2 c2 w2 h1 h2 h3
 have hA := hid (hW.out.below (bal (Below.refl _ _) (.cells #[.int .i64 id] 3)))
 have hne := own_ne hW.out
 obtain ⟨p1, p2, p3⟩ := own_pre hA.out hN'.out h2 hne.1
 have p3' := p3 (A.length * 3 + 1)
 have HOW := hid (own_ids (ids' := o.t.ids ++ [id]) hA.out hN'.out h2 (by simpa using h1) (by simpa using h3))
 have hob : ∀ x, o.iv.ownBlock = some x → x < w.heap.size := fun x e => (HO.out.lt x (List.mem_append.2 (Or.inr (by rw [blocks_mid]; simp [otBlocks, e])))).2
 have HBX := hid (((hBX.out.below (bal (Below.refl _ _) (.cells #[.int .i64 id] 3))).grown h2 (fun x e => Or.inl (hob x e))).set (x := g) (Or.inl hgb) (A.length * 3 + 1) (.slice a2 (o.t.ids.length + 1) c2))
 have HBW := hid ((((hBW.out.alloc (by omega) (.cells #[.int .i64 id] 3)).grown h2 (by simp; omega) (fun x e => (HO.out.lt x (List.mem_append.2 (Or.inr (by rw [blocks_mid]; simp [otBlocks, e])))).1))).setCell (p := ⟨g, A.length * 3 + 1, none⟩) (show B ≤ g from hgW.1) (.slice a2 (o.t.ids.length + 1) c2))
 have HKW := hid (((hKW.out.alloc (.cells #[.int .i64 id] 3)).grown h2 (kind_of (HIO.out.alloc _) (by decide))).set (g := g) (kind_of (owns_kept hA.out.1 h2 (fun z hz => by simp [Value.ownBlock] at hz; subst hz; exact hne.1)) (by decide) g rfl) (A.length * 3 + 1) (.slice a2 (o.t.ids.length + 1) c2))
 have HZ2 : Hid (w1.heap.size + 1 ≤ w2.heap.size) := by have := h2.size; simp at this; exact hid this
 have hz2 := HZ2.out
 clear h1 h2 h3 p3 t0 t1 t2 t1f hA hW hBX hBW HIO HZ2 hKW
 go_wp2_with fail
 generalize w2.setCell ⟨g, A.length * 3 + 1, none⟩ (.slice a2 (o.t.ids.length + 1) c2) = W at HOW HBX HBW HKW ⊢
 clear p1 p2 p3' x0 x1 x2 x3 x4 x5 x6 hz2 hne hgl hgW hz1 hob
 obtain ⟨x0, x1, x2, x3, x4, x5, x6⟩ := HBX.out.cells
 obtain ⟨r0, r1, r2, r3, r4, r5, r6, r7⟩ := HBX.out.row
 have hlen : Hid (n = (A ++ (⟨⟨o.t.mask, o.t.ids ++ [id], o.t.rows⟩, .slice a2 (o.t.ids.length + 1) c2, o.rv⟩ : OT) :: C).length) := by have := hN'.out; simp at this ⊢; exact hid this
 obtain ⟨t0, t1, t2⟩ := HOW.out.cell hlen.out
 have t2f := HOW.out.frozen hlen.out (A.length * 3 + 2)
 have hgl : g < W.heap.size := (HOW.out.1.lt g rfl).2
 have hzW : w.heap.size + 2 < W.heap.size := HBX.out.res.lt
 have HRO : Hid (W.ownsRow B 34 8 o.rv o.t.rows.length (o.t.rows.flatMap rowCells)) := (HOW.out.2.1 _ (List.mem_append.2 (Or.inr (List.mem_cons_self ..)))).2
 have hne := own_ne HOW.out
 have hA := hid (HOW.out.below (bal (Below.refl _ _) (.cells #[.int .i64 r.x, .int .i64 r.y, .int .i64 r.px, .int .i64 r.py, .int .i64 r.wd, .int .i64 r.ht, .int .i64 r.ms, .int .i64 r.rr] 34)))
 have hzr1 : w.heap.size + 1 < W.heap.size := by omega
 simp only at t0 t1 t2
 clear x0 x1 x2 x3 x4 x5 x6 t0 t1
 go_region_law (refine append_step rfl _ _ 63 rfl B 34 (.agg #[.int .i64 0, .int .i64 0, .int .i64 0, .int .i64 0, .int .i64 0, .int .i64 0, .int .i64 0, .int .i64 0]) 8 64 Tryz.underlying63 info30 rfl (by decide) _ _ _ rfl (HRO.out.alloc _) ⟨W.heap.size, 0, none⟩ 1 1 (rowCells r) rfl rfl (by intro j u hj; exact row_news _ r j u hj) (by simpa using rowCells_one [r]) (by unfold maxLen; omega) (by omega) (by simp; omega) ?_; intro a3 c3 w3 h1 h2 h3; obtain ⟨p1, p2, p3⟩ := own_pre hA.out hlen.out (grown_drew h2) hne.2; have p3' := p3 (A.length * 3 + 2); have H1 := hid h1; have H2 := hid (grown_drew h2); have H3 := hid (lies_drew h3); clear h1 h2 h3 p1 p3)
 all_goals
  have HOF := hid (own_rows (rows' := o.t.rows ++ [r]) hA.out hlen.out H2.out (by simpa using H1.out) H3.out)
  have hob : ∀ x, o.rv.ownBlock = some x → B ≤ x ∧ x < w.heap.size := fun x e => HO.out.lt x (List.mem_append.2 (Or.inr (by rw [blocks_mid]; simp [otBlocks, e])))
  have HBF := hid (((HBX.out.below (bal (Below.refl _ _) (.cells #[.int .i64 r.x, .int .i64 r.y, .int .i64 r.px, .int .i64 r.py, .int .i64 r.wd, .int .i64 r.ht, .int .i64 r.ms, .int .i64 r.rr] 34))).grown H2.out (fun x e => Or.inl (hob x e).2)).set (x := g) (Or.inl hgb) (A.length * 3 + 2) (.slice a3 (o.t.rows.length + 1) c3))
  have HBL := hid ((((HBW.out.alloc (by omega) (.cells #[.int .i64 r.x, .int .i64 r.y, .int .i64 r.px, .int .i64 r.py, .int .i64 r.wd, .int .i64 r.ht, .int .i64 r.ms, .int .i64 r.rr] 34)).grown H2.out (by simp; omega) (fun x e => (hob x e).1))).setCell (p := ⟨g, A.length * 3 + 2, none⟩) (show B ≤ g from (HO.out.1.lt g rfl).1) (.slice a3 (o.t.rows.length + 1) c3))
  have HKF := hid (((HKW.out.alloc (.cells #[.int .i64 r.x, .int .i64 r.y, .int .i64 r.px, .int .i64 r.py, .int .i64 r.wd, .int .i64 r.ht, .int .i64 r.ms, .int .i64 r.rr] 34)).grown H2.out (kind_of (HRO.out.alloc _) (by decide))).set (g := g) (kind_of (owns_kept hA.out.1 H2.out (fun z hz => by simp [Value.ownBlock] at hz; subst hz; exact hne.2)) (by decide) g rfl) (A.length * 3 + 2) (.slice a3 (o.t.rows.length + 1) c3))
  clear H1 H2 H3 p2 p3' t2 t2f r0 r1 r2 r3 r4 r5 r6 r7 hA HRO
  obtain ⟨x0, x1, x2, x3, x4, x5, x6⟩ := HBF.out.cells
  go_wp2_with fail
  refine bodyPost_ret (v := .agg #[.slice (some ⟨g, 0, none⟩) n c, .int .i64 next]) (by simp [results, Tryz.results89, go_sem, x3, x4]) rfl ⟨⟨_, rfl, .slice a2 (o.t.ids.length + 1) c2, .slice a3 (o.t.rows.length + 1) c3, ?_⟩, ?_⟩
  ·have hb1 := own_not_box HOF.out HBF.out.res (by decide)
   have h1 := HOF.out.set' hb1 0 (.slice (some ⟨g, 0, none⟩) n c)
   exact h1.set' hb1 1 (.int .i64 next)
  ·refine ⟨?_, (HKF.out.setNew (by omega) _ _).setNew (by omega) _ _⟩
   refine Below.setCell ?_ (by simp; omega) _
   refine Below.setCell ?_ (by simp; omega) _
   exact HBL.out
end St
namespace St
open Num
open Go.ChangeShapes Go.WideShapes Go.ChangeAt Go.RowKit
def InsertAt (a : Option Addr) (n c B : Nat) (A C : List OT) (m : Int) : Prop :=
 ∀ (W : World) (vb : Nat), B ≤ W.heap.size → vb < W.heap.size → (∀ x, a.map Addr.block = some x → x ≠ vb) → W.ownsRow B 65 3 (.slice a n c) n (tabCells A ++ tabCells C) →
  W.heap[vb]? = some (.cells #[.int .i64 m, .slice none 0 0, .slice none 0 0] 65 (0, 0)) → (∀ u ∈ tabCells A ++ tabCells C, u.oneCell' = true) →
  Calls Tryz.prog 112 #[.slice a n c, .int .i64 (A.length : Nat), .slice (some ⟨vb, 0, none⟩) 1 1] W fun e w' =>
   ∃ v', e = .returned v' ∧ w'.ownsRow B 65 3 v' (n + 1) (tabCells A ++ ([.int .i64 m, .slice none 0 0, .slice none 0 0] ++ tabCells C)) ∧ W.grownBy w' (Value.slice a n c).ownBlock ∧ Lies W (.slice a n c) v'
theorem one_row {w : World} {B size n : Nat} {e : TypeId} {v : Value} {xs : List Value} (h : w.ownsRow B e size v n xs) : v.oneCell' = true := by
 rcases h.2 with ⟨rfl, _⟩ | ⟨g, c, _, rfl, _⟩ <;> rfl
theorem Own.one {w : World} {B : Nat} {v : Value} {S : List OT} (h : Own w B v S) : ∀ u ∈ tabCells S, u.oneCell' = true := by
 intro u hu
 obtain ⟨o, ho, hu⟩ := List.mem_flatMap.1 hu
 have h2 := h.2.1 o ho
 simp only [otCells, List.mem_cons, List.not_mem_nil, or_false] at hu
 rcases hu with rfl | rfl | rfl
 ·rfl
 ·exact one_row h2.1
 ·exact one_row h2.2
theorem mk_left {A C : List OT} {q : Nat} (h : q < A.length) : ∃ o ∈ A, mk (A ++ C) q = o.t.mask :=
 ⟨A[q], List.getElem_mem h, by simp [mk, List.getElem?_append_left h, List.getElem?_eq_getElem h]⟩
theorem mk_right {A C : List OT} {q : Nat} (h : A.length ≤ q) (h' : q < (A ++ C).length) : ∃ o ∈ C, mk (A ++ C) q = o.t.mask := by
 have hl : q - A.length < C.length := by simp at h'; omega
 exact ⟨C[q - A.length], List.getElem_mem hl, by simp [mk, List.getElem?_append_right h, List.getElem?_eq_getElem hl]⟩
theorem own_some {w : World} {B size n : Nat} {e : TypeId} {v : Value} {xs : List Value} (h : w.ownsRow B e size v n xs) (hn : 0 < n) : ∃ g c, v = .slice (some ⟨g, 0, none⟩) n c := by
 rcases h.2 with ⟨_, h0⟩ | ⟨g, c, _, e, _⟩
 ·omega
 ·exact ⟨g, c, e⟩
set_option maxHeartbeats 4000000 in
set_option maxRecDepth 100000 in
theorem putIn_new (a : Option Addr) (n c0 : Nat) (next id m : Int) (B : Nat) (A C : List OT) (r : R8) (w : World) (hN : n = (A ++ C).length) (hB : B ≤ w.heap.size) (hz : n ≤ 1000)
  (hown : Own w B (.slice a n c0) (A ++ C)) (hris : Rising (A ++ C)) (hA : ∀ o ∈ A, o.t.mask < m) (hC : ∀ o ∈ C, m < o.t.mask) (hins : InsertAt a n c0 B A C m) :
  Calls Tryz.prog 89 #[.agg #[.slice a n c0, .int .i64 next], .int .i64 m, .int .i64 id, .agg #[.int .i64 r.x, .int .i64 r.y, .int .i64 r.px, .int .i64 r.py, .int .i64 r.wd, .int .i64 r.ht, .int .i64 r.ms, .int .i64 r.rr]] w fun e w' =>
   (∃ v, e = .returned (.agg #[v, .int .i64 next]) ∧ ∃ iv rv, Own w' B v (A ++ ⟨⟨m, [id], [r]⟩, iv, rv⟩ :: C)) ∧ Below B w w' ∧ Keep w w' := by
 have HS := hid (fun w' (hb : Below w.heap.size w w') => search_own a n c0 m B (A ++ C) w' hN (by omega) (hown.below hb) hris)
 have HO := hid hown
 have HNn := hid hN
 have HA := hid hA
 have HC := hid hC
 have HINS := hid hins
 have hAn : A.length ≤ n := by rw [hN]; simp
 clear hown hris hA hC hins hN
 go_enter Tryz.func89, Tryz.ntmps89
 go_wp2_with fail
 refine (HS.out _ (bal (bal (bal (Below.refl _ _) _) _) _)).mono ?_
 rintro e w0 ⟨⟨i, rfl, hin, hlo, hhi⟩, hb1⟩
 have hiA : i = A.length := by
  rcases Nat.lt_trichotomy i A.length with h | h | h
  ·obtain ⟨o, ho, e⟩ := mk_left (C := C) h
   have h1 := hhi i (Nat.le_refl _) (by omega)
   have h2 := HA.out o ho
   omega
  ·exact h
  ·obtain ⟨o, ho, e⟩ := mk_right (A := A) (C := C) (q := A.length) (Nat.le_refl _) (by rw [← HNn.out]; omega)
   have h1 := hlo A.length h
   have h2 := HC.out o ho
   omega
 subst hiA
 have hnf : ¬ (A.length < n ∧ mk (A ++ C) A.length = m) := by
  rintro ⟨h1, h2⟩
  obtain ⟨o, ho, e⟩ := mk_right (A := A) (C := C) (q := A.length) (Nat.le_refl _) (by rw [← HNn.out]; omega)
  have := HC.out o ho
  omega
 rw [decide_eq_false hnf]
 have hW0 : Hid (Own w0 B (.slice a n c0) (A ++ C)) := HO.out.below (bcall (bal (bal (bal (Below.refl _ _) _) _) _) hb1)
 have hBX0 : Hid (Boxes w0 w.heap.size (.slice a n c0) next r) := (Boxes.made w _ next r).below hb1
 have hBW0 : Hid (Below B w w0) := (bcall (bal (bal (bal (Below.refl _ _) _) _) _) hb1).mono hB
 have hKW0 : Hid (Keep w w0) := hid ((((Keep.refl w).alloc _).alloc _).alloc _ |>.below hb1)
 have hz0 := hb1.size
 simp at hz0
 clear hlo hhi hnf hb1 hin
 obtain ⟨x0, x1, x2, x3, x4, x5, x6⟩ := hBX0.out.cells
 have hzs : w.heap.size < w0.heap.size := by omega
 go_wp2_with fail
 refine (HINS.out _ w0.heap.size (by simp; omega) (by simp) ?q1 ?q2 ?q3 ?q4).mono ?_
 case q1 => intro x e; have := (hW0.out.1.lt x (by rw [ob_slice]; exact e)).2; omega
 case q2 =>
  have := (hW0.out.below (bal (Below.refl _ _) (.cells #[.int .i64 m, .slice none 0 0, .slice none 0 0] 65))).1
  rw [← HNn.out] at this
  simpa [tabCells] using this
 case q3 => exact (MapKept.heap_alloc w0 _).1
 case q4 => have := hW0.out.one; simpa [tabCells] using this
 rintro e w2 ⟨v', rfl, hv, hg, hl⟩
 obtain ⟨g, c, rfl⟩ := own_some hv (by omega)
 have hgo := hv.lt g rfl
 have hWa := hid (hW0.out.below (bal (Below.refl _ _) (.cells #[.int .i64 m, .slice none 0 0, .slice none 0 0] 65)))
 have hW2 := hid (own_insert (m := m) hWa.out hg (by rw [← HNn.out]; exact hv) hl)
 have hbold : ∀ x ∈ (Value.slice a n c0).ownBlock.toList ++ blocks (A ++ C), B ≤ x ∧ x < w.heap.size := HO.out.lt
 have hgb : g < w.heap.size ∨ w.heap.size + 2 < g := by
  rcases hl with e | ⟨y, hy, e⟩
  ·exact Or.inl (hbold g (List.mem_append.2 (Or.inl (by rw [← e]; simp [Value.ownBlock])))).2
  ·simp [Value.ownBlock] at e; simp at hy; omega
 have hBX2 := hid (((hBX0.out.below (bal (Below.refl _ _) (.cells #[.int .i64 m, .slice none 0 0, .slice none 0 0] 65))).grown hg (fun x e => Or.inl (hbold x (List.mem_append.2 (Or.inl (by rw [e]; simp)))).2)).setS (.slice (some ⟨g, 0, none⟩) (n + 1) c))
 have hBW2 := hid (((hBW0.out.alloc (by omega) (.cells #[.int .i64 m, .slice none 0 0, .slice none 0 0] 65)).grown hg (by simp; omega) (fun x e => (hbold x (List.mem_append.2 (Or.inl (by rw [e]; simp)))).1)).setCell (p := ⟨w.heap.size, 0, none⟩) hB (.slice (some ⟨g, 0, none⟩) (n + 1) c))
 have hKW := hid (((hKW0.out.alloc (.cells #[.int .i64 m, .slice none 0 0, .slice none 0 0] 65)).grown hg (kind_of hWa.out.1 (by decide))).setNew (Nat.le_refl _) 0 (.slice (some ⟨g, 0, none⟩) (n + 1) c))
 have hz2 := hg.size
 simp at hz2
 have y0 := ((hBX0.out.below (bal (Below.refl _ _) (.cells #[.int .i64 m, .slice none 0 0, .slice none 0 0] 65))).grown hg (fun x e => Or.inl (hbold x (List.mem_append.2 (Or.inl (by rw [e]; simp)))).2)).cells
 obtain ⟨y0, y1, y2, -, -, -, -⟩ := y0
 obtain ⟨o, hoE⟩ : ∃ o : OT, o = ⟨⟨m, [], []⟩, .slice none 0 0, .slice none 0 0⟩ := ⟨_, rfl⟩
 have HOE := hid hoE
 have hob : Hid (∀ x, o.iv.ownBlock = some x ∨ o.rv.ownBlock = some x → B ≤ x ∧ (x < w.heap.size ∨ w.heap.size + 2 < x)) := hid (fun x hx => by rw [hoE] at hx; simp [Value.ownBlock] at hx)
 have hgB : B ≤ g := hgo.1
 have hbn : w.heap.size ∉ (Value.slice (some ⟨g, 0, none⟩) (n + 1) c).ownBlock.toList ++ blocks (A ++ ⟨⟨m, [], []⟩, .slice none 0 0, .slice none 0 0⟩ :: C) := by
  have e : blocks (A ++ ⟨⟨m, [], []⟩, .slice none 0 0, .slice none 0 0⟩ :: C) = blocks (A ++ C) := by simp [blocks, otBlocks, Value.ownBlock]
  rw [e]
  intro hm
  rcases List.mem_append.1 hm with hm | hm
  ·simp [Value.ownBlock] at hm; omega
  ·have := (hbold _ (List.mem_append.2 (Or.inr hm))).2; omega
 have hW3 := hid (hW2.out.set' hbn 0 (.slice (some ⟨g, 0, none⟩) (n + 1) c))
 rw [← hoE] at hW3
 have hms : Hid (o.t.mask = m) := hid (by rw [hoE])
 have hi1 : o.t.ids.length ≤ 1000 := by rw [hoE]; simp
 have hr1 : o.t.rows.length ≤ 1000 := by rw [hoE]; simp
 obtain ⟨t0, t1, t2⟩ := hW2.out.cell (by simp [HNn.out]; omega)
 have hgne : g ≠ w.heap.size := by omega
 have t1f := hW2.out.frozen (by simp [HNn.out]; omega) (A.length * 3 + 1)
 have t1' : w2.cell? ⟨g, A.length * 3 + 1, none⟩ = some o.iv := by rw [hoE]; exact t1
 have hsz : (w2.setCell ⟨w.heap.size, 0, none⟩ (.slice (some ⟨g, 0, none⟩) (n + 1) c)).heap.size = w2.heap.size := World.size_setCell ..
 have HSZ := hid hsz
 have hN' : Hid (n + 1 = (A ++ o :: C).length) := hid (by have := HNn.out; simp at this ⊢; omega)
 clear hoE hv hg hl hWa hW2 hbold hW0 hBX0 hBW0 hKW0 x0 x1 x2 x3 x4 x5 x6 hbn hgo t0 t1 t2 hsz
 go_wp2_with (at_builtin; generalize w2.setCell ⟨w.heap.size, 0, none⟩ (.slice (some ⟨g, 0, none⟩) (n + 1) c) = w1 at hW3 hBX2 hBW2 hKW HSZ ⊢; have HIO := hid (hW3.out.2.1 o (by simp)).1; refine append_list rfl _ _ 28 rfl B 3 (.int .i64 0) 1 8 Tryz.underlying28 info3 rfl (by decide) _ _ _ rfl (HIO.out.alloc _) ⟨w2.heap.size, 0, none⟩ 1 1 [.int .i64 id] rfl rfl ?c1 ?c2 ?c3 ?c4 ?c5 ?_)
 case c1 =>
  intro j u hj
  match j, hj with
  | 0, hj => cases hj; rw [← HSZ.out]; simp [Addr.add]
 case c2 => intro u hu; simp at hu; subst hu; rfl
 case c3 => unfold maxLen; omega
 case c4 => omega
 case c5 => have := HSZ.out; simp; omega
 intro a2 c2 w4 h1 h2 h3
 have hsw1 := HSZ.out
 have hA := hid (hW3.out.below (bal (Below.refl _ _) (.cells #[.int .i64 id] 3)))
 have hne := own_ne hW3.out
 obtain ⟨p1, p2, p3⟩ := own_pre hA.out hN'.out h2 hne.1
 have p3' := p3 (A.length * 3 + 1)
 have HOW := hid (own_ids (ids' := o.t.ids ++ [id]) hA.out hN'.out h2 (by simpa using h1) (by simpa using h3))
 have HBX := hid (((hBX2.out.below (bal (Below.refl _ _) (.cells #[.int .i64 id] 3))).grown h2 (fun x e => (hob.out x (Or.inl e)).2)).set (x := g) hgb (A.length * 3 + 1) (.slice a2 (o.t.ids.length + 1) c2))
 have HBW := hid ((((hBW2.out.alloc (by omega) (.cells #[.int .i64 id] 3)).grown h2 (by simp; omega) (fun x e => (hob.out x (Or.inl e)).1))).setCell (p := ⟨g, A.length * 3 + 1, none⟩) (show B ≤ g from hgB) (.slice a2 (o.t.ids.length + 1) c2))
 have HKW := hid (((hKW.out.alloc (.cells #[.int .i64 id] 3)).grown h2 (kind_of (HIO.out.alloc _) (by decide))).set (g := g) (kind_of (owns_kept hA.out.1 h2 (fun z hz => by simp [Value.ownBlock] at hz; subst hz; exact hne.1)) (by decide) g rfl) (A.length * 3 + 1) (.slice a2 (o.t.ids.length + 1) c2))
 clear hKW
 clear h1 h2 h3 p3 t1' t1f hA hW3 hBX2 hBW2 HIO y0 y1 y2 hz2 hsw1
 go_wp2_with fail
 generalize w4.setCell ⟨g, A.length * 3 + 1, none⟩ (.slice a2 (o.t.ids.length + 1) c2) = W at HOW HBX HBW HKW ⊢
 clear p1 p2 p3' hne
 obtain ⟨x0, x1, x2, x3, x4, x5, x6⟩ := HBX.out.cells
 obtain ⟨r0, r1, r2, r3, r4, r5, r6, r7⟩ := HBX.out.row
 have hlen : Hid (n + 1 = (A ++ (⟨⟨o.t.mask, o.t.ids ++ [id], o.t.rows⟩, .slice a2 (o.t.ids.length + 1) c2, o.rv⟩ : OT) :: C).length) := by have := hN'.out; simp at this ⊢; exact hid this
 obtain ⟨t0, t1, t2⟩ := HOW.out.cell hlen.out
 have t2f := HOW.out.frozen hlen.out (A.length * 3 + 2)
 have hgl : g < W.heap.size := (HOW.out.1.lt g rfl).2
 have hzW : w.heap.size + 2 < W.heap.size := HBX.out.res.lt
 have HRO : Hid (W.ownsRow B 34 8 o.rv o.t.rows.length (o.t.rows.flatMap rowCells)) := (HOW.out.2.1 _ (List.mem_append.2 (Or.inr (List.mem_cons_self ..)))).2
 have hne := own_ne HOW.out
 have hA := hid (HOW.out.below (bal (Below.refl _ _) (.cells #[.int .i64 r.x, .int .i64 r.y, .int .i64 r.px, .int .i64 r.py, .int .i64 r.wd, .int .i64 r.ht, .int .i64 r.ms, .int .i64 r.rr] 34)))
 have hzr1 : w.heap.size + 1 < W.heap.size := by omega
 simp only at t0 t1 t2
 clear x0 x1 x2 x3 x4 x5 x6 t0 t1
 go_region_law (refine append_step rfl _ _ 63 rfl B 34 (.agg #[.int .i64 0, .int .i64 0, .int .i64 0, .int .i64 0, .int .i64 0, .int .i64 0, .int .i64 0, .int .i64 0]) 8 64 Tryz.underlying63 info30 rfl (by decide) _ _ _ rfl (HRO.out.alloc _) ⟨W.heap.size, 0, none⟩ 1 1 (rowCells r) rfl rfl (by intro j u hj; exact row_news _ r j u hj) (by simpa using rowCells_one [r]) (by unfold maxLen; omega) (by omega) (by simp; omega) ?_; intro a3 c3 w3 h1 h2 h3; obtain ⟨p1, p2, p3⟩ := own_pre hA.out hlen.out (grown_drew h2) hne.2; have p3' := p3 (A.length * 3 + 2); have H1 := hid h1; have H2 := hid (grown_drew h2); have H3 := hid (lies_drew h3); clear h1 h2 h3 p1 p3)
 all_goals
  have HOF := hid (own_rows (rows' := o.t.rows ++ [r]) hA.out hlen.out H2.out (by simpa using H1.out) H3.out)
  have HBF := hid (((HBX.out.below (bal (Below.refl _ _) (.cells #[.int .i64 r.x, .int .i64 r.y, .int .i64 r.px, .int .i64 r.py, .int .i64 r.wd, .int .i64 r.ht, .int .i64 r.ms, .int .i64 r.rr] 34))).grown H2.out (fun x e => (hob.out x (Or.inr e)).2)).set (x := g) hgb (A.length * 3 + 2) (.slice a3 (o.t.rows.length + 1) c3))
  have HBL := hid ((((HBW.out.alloc (by omega) (.cells #[.int .i64 r.x, .int .i64 r.y, .int .i64 r.px, .int .i64 r.py, .int .i64 r.wd, .int .i64 r.ht, .int .i64 r.ms, .int .i64 r.rr] 34)).grown H2.out (by simp; omega) (fun x e => (hob.out x (Or.inr e)).1))).setCell (p := ⟨g, A.length * 3 + 2, none⟩) (show B ≤ g from hgB) (.slice a3 (o.t.rows.length + 1) c3))
  have HKF := hid (((HKW.out.alloc (.cells #[.int .i64 r.x, .int .i64 r.y, .int .i64 r.px, .int .i64 r.py, .int .i64 r.wd, .int .i64 r.ht, .int .i64 r.ms, .int .i64 r.rr] 34)).grown H2.out (kind_of (HRO.out.alloc _) (by decide))).set (g := g) (kind_of (owns_kept hA.out.1 H2.out (fun z hz => by simp [Value.ownBlock] at hz; subst hz; exact hne.2)) (by decide) g rfl) (A.length * 3 + 2) (.slice a3 (o.t.rows.length + 1) c3))
  clear H1 H2 H3 p2 p3' t2 t2f r0 r1 r2 r3 r4 r5 r6 r7 hA HRO
  obtain ⟨x0, x1, x2, x3, x4, x5, x6⟩ := HBF.out.cells
  go_wp2_with fail
  refine bodyPost_ret (v := .agg #[.slice (some ⟨g, 0, none⟩) (n + 1) c, .int .i64 next]) (by simp [results, Tryz.results89, go_sem, x3, x4]) rfl ⟨⟨_, rfl, .slice a2 (o.t.ids.length + 1) c2, .slice a3 (o.t.rows.length + 1) c3, ?_⟩, ?_⟩
  ·have hb1 := own_not_box HOF.out HBF.out.res (by decide)
   have h1 := HOF.out.set' hb1 0 (.slice (some ⟨g, 0, none⟩) (n + 1) c)
   have h2 := h1.set' hb1 1 (.int .i64 next)
   have e : (⟨o.t.mask, o.t.ids ++ [id], o.t.rows ++ [r]⟩ : Tab) = ⟨m, [id], [r]⟩ := by rw [HOE.out]; rfl
   rw [e] at h2
   exact h2
  ·refine ⟨?_, (HKF.out.setNew (by omega) _ _).setNew (by omega) _ _⟩
   refine Below.setCell ?_ (by simp; omega) _
   refine Below.setCell ?_ (by simp; omega) _
   exact HBL.out
end St
namespace St
open Num
open Go.ChangeShapes Go.WideShapes Go.ChangeAt Go.RowKit
structure StoreIn (w : World) (a : Option Addr) (n : Nat) (T : Nat → TabV) (I : Nat → Nat → Int) (R : Nat → Nat → R8) : Prop where
 tabs : TabsIn w a n T
 ids : ∀ i, i < n → IdsIn w (T i).ia (T i).il (I i)
 rows : ∀ i, i < n → RowsIn w (T i).ra (T i).rl (R i)
 fits : Fits a n T
 wf : ∀ i, i < n → ∀ j, j < (T i).il → (Lit.int .i64 (I i j)).wf = true
theorem StoreIn.below {w w' : World} {a : Option Addr} {n : Nat} {T : Nat → TabV} {I : Nat → Nat → Int} {R : Nat → Nat → R8} (h : StoreIn w a n T I R) (hb : Below w.heap.size w w') : StoreIn w' a n T I R :=
 ⟨h.tabs.below hb, fun i hi => (h.ids i hi).below hb, fun i hi => (h.rows i hi).below hb, h.fits, h.wf⟩
def GoodT (next : Int) (t : Tab) : Prop :=
 t.ids ≠ [] ∧ t.ids.length = t.rows.length ∧ (∀ x ∈ t.ids, btw x 0 (next - 1) = true) ∧ ∀ r ∈ t.rows, goodRowB t.mask r = true
def allL (L : List Tab) : List Int := L.flatMap (·.ids)
def GoodL (next : Int) (L : List Tab) : Prop :=
 btw next 0 1048576 = true ∧ (allL L).length ≤ 10 ∧ (∀ t ∈ L, 0 < t.mask) ∧ L.Pairwise (fun a b => a.mask < b.mask) ∧ (∀ t ∈ L, GoodT next t) ∧ (allL L).Nodup
theorem dc_le (l : List Int) : dc l ≤ l.length := by
 induction l with
 | nil => simp [dc]
 | cons x l ih => simp only [dc, List.length_cons]; split <;> omega
theorem dc_nodup (l : List Int) : dc l = l.length ↔ l.Nodup := by
 induction l with
 | nil => simp [dc]
 | cons x l ih =>
  simp only [dc, List.length_cons, List.nodup_cons]
  by_cases h : x ∈ l
  ·rw [if_pos h]
   have := dc_le l
   constructor
   ·intro e; omega
   ·intro e; exact absurd h e.1
  ·rw [if_neg h]
   constructor
   ·intro e; exact ⟨h, ih.1 (by omega)⟩
   ·intro e; rw [ih.2 e.2]
theorem pushIds_eq (f : Nat → Int) (acc : List Int) (j : Nat) : pushIds f acc j = ((List.range j).map f).reverse ++ acc := by
 induction j with
 | zero => simp [pushIds]
 | succ j ih => simp [pushIds, ih, List.range_succ]
theorem allIds_eq (T : Nat → TabV) (I : Nat → Nat → Int) (R : Nat → Nat → R8) (n : Nat) : allIds T I n = (allL (plainOf T I R n)).reverse := by
 induction n with
 | zero => simp [allIds, allL, plainOf]
 | succ n ih =>
  rw [allIds, pushIds_eq, ih]
  simp [allL, plainOf, List.range_succ, tabOf]
theorem size_eq {T : Nat → TabV} {I : Nat → Nat → Int} (n : Nat) (h : (allIds T I n).length ≤ 4611686018427387904) : sizeW T n = (allIds T I n).length := by
 induction n with
 | zero => simp [sizeW, allIds]
 | succ n ih =>
  rw [allIds, pushIds_length] at h
  rw [sizeW, ih (by omega), allIds, pushIds_length]
  unfold wrap64
  omega
theorem lastM_pair {T : Nat → TabV} {I : Nat → Nat → Int} {R : Nat → Nat → R8} (n : Nat) : (∀ i, i < n → lastM T i < (T i).mask) ↔ (∀ t ∈ plainOf T I R n, 0 < t.mask) ∧ (plainOf T I R n).Pairwise (fun a b => a.mask < b.mask) := by
 have hmem : ∀ t, t ∈ plainOf T I R n ↔ ∃ i, i < n ∧ tabOf T I R i = t := fun t => by simp [plainOf]
 constructor
 ·intro h
  have hpos : ∀ i, i < n → 0 < (T i).mask := by
   intro i
   induction i with
   | zero => intro hi; exact h 0 hi
   | succ i ih => intro hi; have h1 := h (i + 1) hi; have h2 := ih (by omega); simp only [lastM] at h1; omega
  have hlt : ∀ d i, i + 1 + d < n → (T i).mask < (T (i + 1 + d)).mask := by
   intro d
   induction d with
   | zero => intro i hi; exact h (i + 1) hi
   | succ d ih => intro i hi; have h1 := ih i (by omega); have h2 := h (i + 1 + (d + 1)) hi; rw [show i + 1 + (d + 1) = (i + 1 + d) + 1 by omega] at h2 ⊢; simp only [lastM] at h2; omega
  refine ⟨fun t ht => ?_, ?_⟩
  ·obtain ⟨i, hi, rfl⟩ := (hmem t).1 ht
   exact hpos i hi
  ·rw [List.pairwise_iff_getElem]
   intro i j hi hj hij
   simp only [plainOf, List.length_map, List.length_range] at hi hj
   simp only [plainOf, List.getElem_map, List.getElem_range, tabOf]
   have := hlt (j - i - 1) i (by omega)
   rwa [show i + 1 + (j - i - 1) = j by omega] at this
 ·rintro ⟨h1, h2⟩ i hi
  cases i with
  | zero => exact h1 _ ((hmem _).2 ⟨0, hi, rfl⟩)
  | succ i =>
   rw [List.pairwise_iff_getElem] at h2
   have := h2 i (i + 1) (by simp [plainOf]; omega) (by simpa [plainOf] using hi) (by omega)
   simpa [plainOf, tabOf, lastM] using this
theorem goodTab_iff {next : Int} {T : Nat → TabV} {I : Nat → Nat → Int} {R : Nat → Nat → R8} (i : Nat) : GoodTab (T i).mask next (T i).il (T i).rl (I i) (R i) ↔ GoodT next (tabOf T I R i) := by
 unfold GoodTab GoodT GoodTo tabOf
 simp only [List.length_map, List.length_range, List.mem_map, List.mem_range, ne_eq, List.map_eq_nil_iff, List.range_eq_nil]
 constructor
 ·rintro ⟨h1, h2, h3⟩
  refine ⟨by omega, h2, ?_, ?_⟩
  ·rintro x ⟨j, hj, rfl⟩; exact (h3 j hj).1
  ·rintro r ⟨j, hj, rfl⟩; exact (h3 j (by omega)).2
 ·rintro ⟨h1, h2, h3, h4⟩
  exact ⟨by omega, h2, fun j hj => ⟨h3 _ ⟨j, hj, rfl⟩, h4 _ ⟨j, by omega, rfl⟩⟩⟩
theorem goodS_iff {next : Int} {n : Nat} {T : Nat → TabV} {I : Nat → Nat → Int} {R : Nat → Nat → R8} (hz : ∀ i, i < n → (T i).il ≤ 140737488355328) : GoodS next n T I R ↔ GoodL next (plainOf T I R n) := by
 have hmem : ∀ t, t ∈ plainOf T I R n ↔ ∃ i, i < n ∧ tabOf T I R i = t := fun t => by simp [plainOf]
 have htabs : TabsTo next T I R n ↔ ((∀ t ∈ plainOf T I R n, 0 < t.mask) ∧ (plainOf T I R n).Pairwise (fun a b => a.mask < b.mask)) ∧ ∀ t ∈ plainOf T I R n, GoodT next t := by
  rw [← lastM_pair (T := T) (I := I) (R := R) n]
  constructor
  ·intro h
   refine ⟨fun i hi => (h i hi).1, fun t ht => ?_⟩
   obtain ⟨i, hi, rfl⟩ := (hmem t).1 ht
   exact (goodTab_iff i).1 (h i hi).2
  ·rintro ⟨h1, h2⟩ i hi
   exact ⟨h1 i hi, (goodTab_iff i).2 (h2 _ ((hmem _).2 ⟨i, hi, rfl⟩))⟩
 unfold GoodS GoodL
 constructor
 ·rintro ⟨h1, h2, h3, h4⟩
  have hl := tabsTo_len h3 hz
  have hs := size_eq (T := T) (I := I) n (by omega)
  have h5 := htabs.1 h3
  rw [hs] at h2 h4
  have e := allIds_eq T I R n
  have el : (allIds T I n).length = (allL (plainOf T I R n)).length := by rw [e]; simp
  refine ⟨h1, by omega, h5.1.1, h5.1.2, h5.2, ?_⟩
  have := (dc_nodup (allIds T I n)).1 (by omega)
  rw [e] at this
  exact (List.reverse_perm _).nodup_iff.1 this
 ·rintro ⟨h1, h2, h3, h4, h5, h6⟩
  have h7 := htabs.2 ⟨⟨h3, h4⟩, h5⟩
  have e := allIds_eq T I R n
  have el : (allIds T I n).length = (allL (plainOf T I R n)).length := by rw [e]; simp
  have hs := size_eq (T := T) (I := I) n (by omega)
  refine ⟨h1, by omega, h7, ?_⟩
  rw [hs, (dc_nodup (allIds T I n)).2 (by rw [e]; exact (List.reverse_perm _).nodup_iff.2 h6)]
def adOf : Value → Option Addr
 | .slice a _ _ => a
 | _ => none
def capOf : Value → Nat
 | .slice _ _ c => c
 | _ => 0
def dT : Tab := ⟨0, [], []⟩
def tvOf (S : List OT) (i : Nat) : TabV := match S[i]? with
 | some o => ⟨o.t.mask, adOf o.iv, o.t.ids.length, capOf o.iv, adOf o.rv, o.t.rows.length, capOf o.rv⟩
 | none => ⟨0, none, 0, 0, none, 0, 0⟩
def idOf (S : List OT) (i j : Nat) : Int := ((S[i]?.map (·.t.ids)).getD []).getD j 0
def rwOf (S : List OT) (i j : Nat) : R8 := ((S[i]?.map (·.t.rows)).getD []).getD j zeroR
theorem map_range_getD {α : Type} (l : List α) (d : α) : (List.range l.length).map (fun j => l.getD j d) = l := by
 apply List.ext_getElem?
 intro j
 by_cases h : j < l.length
 ·simp [h, List.getD]
 ·simp [h]
theorem plain_own (S : List OT) : plainOf (tvOf S) (idOf S) (rwOf S) S.length = S.map (·.t) := by
 apply List.ext_getElem?
 intro i
 by_cases h : i < S.length
 ·have hs : S[i]? = some S[i] := List.getElem?_eq_getElem h
  have e1 : (idOf S i) = fun j => S[i].t.ids.getD j 0 := by funext j; simp [idOf, hs]
  have e2 : (rwOf S i) = fun j => S[i].t.rows.getD j zeroR := by funext j; simp [rwOf, hs]
  simp only [plainOf, List.getElem?_map, List.getElem?_range h, hs, Option.map_some, tabOf, tvOf, e1, e2, map_range_getD]
 ·rw [List.getElem?_eq_none (by simp [plainOf]; omega), List.getElem?_eq_none (by simp; omega)]
theorem ids_own {w : World} {B : Nat} {v : Value} {l : List Int} (h : w.ownsRow B 3 1 v l.length (l.map (Value.int .i64))) : IdsIn w (adOf v) l.length (fun j => l.getD j 0) := by
 intro hp
 rcases h.2 with ⟨_, h0⟩ | ⟨g, c, cur, rfl, hb, hg, _⟩
 ·omega
 ·refine ⟨g, 0, rfl, (Array.getElem?_eq_some_iff.1 hg).1, fun i hi => ?_⟩
  rw [Nat.zero_add, h.cellAt i (by omega)]
  simp [List.getD, List.getElem?_eq_getElem hi]
theorem flat_get (l : List R8) (i s : Nat) (hi : i < l.length) (hs : s < 8) : (l.flatMap rowCells)[i * 8 + s]? = (rowCells (l.getD i zeroR))[s]? := by
 induction l generalizing i with
 | nil => simp at hi
 | cons r l ih =>
  rw [List.flatMap_cons]
  cases i with
  | zero => rw [Nat.zero_mul, Nat.zero_add, List.getElem?_append_left (by simpa [rowCells] using hs)]; simp
  | succ i =>
   rw [List.getElem?_append_right (by simp [rowCells]; omega)]
   have e : (rowCells r).length = 8 := rfl
   rw [e, show (i + 1) * 8 + s - 8 = i * 8 + s by omega, ih i (by simpa using hi)]
   simp
theorem rows_own {w : World} {B : Nat} {v : Value} {l : List R8} (h : w.ownsRow B 34 8 v l.length (l.flatMap rowCells)) : RowsIn w (adOf v) l.length (fun j => l.getD j zeroR) := by
 intro hp
 rcases h.2 with ⟨_, h0⟩ | ⟨g, c, cur, rfl, hb, hg, _⟩
 ·omega
 ·refine ⟨g, 0, rfl, (Array.getElem?_eq_some_iff.1 hg).1, fun i hi => ?_⟩
  have key : ∀ s, s < 8 → w.cell? ⟨g, 0 + i * 8 + s, none⟩ = (rowCells (l.getD i zeroR))[s]? := fun s hs => by
   rw [Nat.zero_add, h.cellAt (i * 8 + s) (by omega), flat_get l i s hi hs]
  exact ⟨key 0 (by omega), key 1 (by omega), key 2 (by omega), key 3 (by omega), key 4 (by omega), key 5 (by omega), key 6 (by omega), key 7 (by omega)⟩
theorem slice_own {w : World} {B size n : Nat} {e : TypeId} {v : Value} {xs : List Value} (h : w.ownsRow B e size v n xs) : v = .slice (adOf v) n (capOf v) ∧ (adOf v = none → n = 0) := by
 rcases h.2 with ⟨rfl, rfl⟩ | ⟨g, c, _, rfl, _⟩
 ·exact ⟨rfl, fun _ => rfl⟩
 ·exact ⟨rfl, fun e => by cases e⟩
theorem tabs_own {w : World} {B n c : Nat} {a : Option Addr} {S : List OT} (h : Own w B (.slice a n c) S) (hn : n = S.length) : TabsIn w a n (tvOf S) := by
 intro hp
 rcases h.1.2 with ⟨_, h0⟩ | ⟨g, c', cur, e, hb, hg, _⟩
 ·omega
 ·cases e
  refine ⟨g, 0, rfl, (Array.getElem?_eq_some_iff.1 hg).1, fun i hi => ?_⟩
  have hs : S[i]? = some S[i] := List.getElem?_eq_getElem (by omega)
  have ho := h.2.1 _ (List.getElem_mem (show i < S.length by omega))
  have e1 := (slice_own ho.1).1
  have e2 := (slice_own ho.2).1
  have hx := h.1
  rw [← hn] at hx
  have ecells : S = S.take i ++ S[i] :: S.drop (i + 1) := by
   have h1 : S.take i ++ S.drop i = S := List.take_append_drop i S
   rw [List.drop_eq_getElem_cons (by omega)] at h1
   exact h1.symm
  have hl : (S.take i).length = i := by rw [List.length_take]; omega
  have key : ∀ s, s < 3 → w.cell? ⟨g, 0 + i * 3 + s, none⟩ = (otCells S[i])[s]? := by
   intro s hs3
   rw [Nat.zero_add, hx.cellAt (i * 3 + s) (by omega)]
   have ht : tabCells S = tabCells (S.take i) ++ (otCells S[i] ++ tabCells (S.drop (i + 1))) := by rw [← tabCells_mid, ← ecells]
   rw [ht, List.getElem?_append_right (by rw [tabCells_length, hl]; omega), tabCells_length, hl, show i * 3 + s - i * 3 = s by omega, List.getElem?_append_left (by simpa [otCells] using hs3)]
  simp only [tvOf, hs]
  refine ⟨key 0 (by omega), ?_, ?_⟩
  ·rw [key 1 (by omega), ← e1]; rfl
  ·rw [key 2 (by omega), ← e2]; rfl
theorem own_storeIn {w : World} {B n c : Nat} {a : Option Addr} {S : List OT} (h : Own w B (.slice a n c) S) (hn : n = S.length) (hz : n ≤ 1000) (hl : ∀ o ∈ S, o.t.ids.length ≤ 1000 ∧ o.t.rows.length ≤ 1000) (hw : ∀ o ∈ S, ∀ x ∈ o.t.ids, (Lit.int .i64 x).wf = true) :
  StoreIn w a n (tvOf S) (idOf S) (rwOf S) := by
 have hget : ∀ i, i < n → ∃ o, S[i]? = some o ∧ o ∈ S := fun i hi => ⟨S[i], List.getElem?_eq_getElem (by omega), List.getElem_mem _⟩
 refine ⟨tabs_own h hn, ?_, ?_, ⟨by omega, ?_, ?_⟩, ?_⟩
 ·intro i hi
  obtain ⟨o, hs, hm⟩ := hget i hi
  have := ids_own (h.2.1 o hm).1
  have ef : (idOf S i) = fun j => o.t.ids.getD j 0 := by funext j; simp [idOf, hs]
  rw [ef]
  simpa only [tvOf, hs] using this
 ·intro i hi
  obtain ⟨o, hs, hm⟩ := hget i hi
  have := rows_own (h.2.1 o hm).2
  have ef : (rwOf S i) = fun j => o.t.rows.getD j zeroR := by funext j; simp [rwOf, hs]
  rw [ef]
  simpa only [tvOf, hs] using this
 ·intro e
  rcases h.1.2 with ⟨_, h0⟩ | ⟨g, c', cur, e', _⟩
  ·rw [hn]; exact h0
  ·rw [e] at e'; cases e'
 ·intro i hi
  obtain ⟨o, hs, hm⟩ := hget i hi
  have h1 := hl o hm
  have e1 := (slice_own (h.2.1 o hm).1).2
  have e2 := (slice_own (h.2.1 o hm).2).2
  simp only [tvOf, hs]
  exact ⟨by omega, by omega, e1, e2⟩
 ·intro i hi j hj
  obtain ⟨o, hs, hm⟩ := hget i hi
  simp only [tvOf, hs] at hj
  simp only [idOf, hs, Option.map_some, Option.getD_some]
  have : o.t.ids.getD j 0 = o.t.ids[j] := by simp [List.getD, List.getElem?_eq_getElem hj]
  rw [this]
  exact hw o hm _ (List.getElem_mem hj)
end St
namespace St
open Num
open Go.ChangeShapes Go.WideShapes Go.ChangeAt Go.RowKit
def putT (m id : Int) (r : R8) : List Tab → List Tab
 | [] => [⟨m, [id], [r]⟩]
 | t :: L => if t.mask < m then t :: putT m id r L else if t.mask = m then ⟨m, t.ids ++ [id], t.rows ++ [r]⟩ :: L else ⟨m, [id], [r]⟩ :: t :: L
theorem putT_left (m id : Int) (r : R8) (A C : List Tab) (h : ∀ t ∈ A, t.mask < m) : putT m id r (A ++ C) = A ++ putT m id r C := by
 induction A with
 | nil => rfl
 | cons t A ih =>
  simp only [List.cons_append, putT]
  rw [if_pos (h t (List.mem_cons_self ..)), ih (fun x hx => h x (List.mem_cons_of_mem _ hx))]
theorem all_cons {p : OT → Prop} {o : OT} {A : List OT} (h : p o) (hA : ∀ x ∈ A, p x) : ∀ x ∈ o :: A, p x := by
 intro x hx
 rcases List.mem_cons.1 hx with rfl | hx
 ·exact h
 ·exact hA x hx
theorem split_mask (S : List OT) (m : Int) (h : Rising S) : (∃ A o C, S = A ++ o :: C ∧ o.t.mask = m ∧ ∀ x ∈ A, x.t.mask < m) ∨ ∃ A C, S = A ++ C ∧ (∀ x ∈ A, x.t.mask < m) ∧ ∀ x ∈ C, m < x.t.mask := by
 induction S with
 | nil => exact Or.inr ⟨[], [], rfl, by simp, by simp⟩
 | cons o S ih =>
  have hp := List.pairwise_cons.1 h
  rcases Int.lt_trichotomy o.t.mask m with hlt | heq | hgt
  ·rcases ih hp.2 with ⟨A, o', C, rfl, he, hA⟩ | ⟨A, C, rfl, hA, hC⟩
   ·exact Or.inl ⟨o :: A, o', C, rfl, he, all_cons hlt hA⟩
   ·exact Or.inr ⟨o :: A, C, rfl, all_cons hlt hA, hC⟩
  ·exact Or.inl ⟨[], o, S, rfl, heq, by simp⟩
  ·exact Or.inr ⟨[], o :: S, rfl, by simp, all_cons hgt (fun x hx => Int.lt_trans hgt (hp.1 x hx))⟩
theorem putIn_any (a : Option Addr) (n c : Nat) (next id m : Int) (B : Nat) (S : List OT) (r : R8) (w : World) (hN : n = S.length) (hB : B ≤ w.heap.size) (hz : n ≤ 1000) (hl : ∀ o ∈ S, o.t.ids.length ≤ 1000 ∧ o.t.rows.length ≤ 1000)
  (hown : Own w B (.slice a n c) S) (hris : Rising S) (hins : ∀ A C, S = A ++ C → (∀ x ∈ A, x.t.mask < m) → (∀ x ∈ C, m < x.t.mask) → InsertAt a n c B A C m) :
  Calls Tryz.prog 89 #[.agg #[.slice a n c, .int .i64 next], .int .i64 m, .int .i64 id, .agg #[.int .i64 r.x, .int .i64 r.y, .int .i64 r.px, .int .i64 r.py, .int .i64 r.wd, .int .i64 r.ht, .int .i64 r.ms, .int .i64 r.rr]] w fun e w' =>
   (∃ v, e = .returned (.agg #[v, .int .i64 next]) ∧ ∃ S', Own w' B v S' ∧ S'.map (·.t) = putT m id r (S.map (·.t))) ∧ Below B w w' ∧ Keep w w' := by
 rcases split_mask S m hris with ⟨A, o, C, rfl, rfl, hA⟩ | ⟨A, C, rfl, hA, hC⟩
 ·obtain ⟨g, c', e⟩ := own_some (B := B) (size := 3) (e := 65) (xs := tabCells (A ++ o :: C)) (w := w) (n := n) (v := .slice a n c) (by have := hown.1; rw [← hN] at this; exact this) (by rw [hN, List.length_append, List.length_cons]; omega)
  cases e
  have ho := hl o (by simp)
  refine (putIn_found g n c next id B A C o r w hN hB hz ho.1 ho.2 hown hris).mono ?_
  rintro e w' ⟨⟨v, rfl, iv, rv, h⟩, hb⟩
  refine ⟨⟨v, rfl, _, h, ?_⟩, hb⟩
  rw [List.map_append, List.map_append, putT_left _ _ _ _ _ (by simpa using hA)]
  simp [putT]
 ·refine (putIn_new a n c next id m B A C r w hN hB hz hown hris hA hC (hins A C rfl hA hC)).mono ?_
  rintro e w' ⟨⟨v, rfl, iv, rv, h⟩, hb⟩
  refine ⟨⟨v, rfl, _, h, ?_⟩, hb⟩
  rw [List.map_append, List.map_append, putT_left _ _ _ _ _ (by simpa using hA)]
  congr 1
  cases C with
  | nil => simp [putT]
  | cons o C =>
   have := hC o (List.mem_cons_self ..)
   simp only [List.map_cons, putT]
   rw [if_neg (by omega), if_neg (by omega)]
theorem insertAt_end (a : Option Addr) (n c B : Nat) (A : List OT) (m : Int) (hn : n = A.length) (hz : n ≤ 1000) : InsertAt a n c B A [] m := by
 intro W vb hB _ _ hown hv _
 have hc : n ≤ c ∧ c ≤ maxLen := by
  rcases hown.2 with ⟨e, h0⟩ | ⟨g, c', _, e, _, _, h1, h2, _⟩
  ·cases e; exact ⟨by omega, by unfold maxLen; omega⟩
  ·cases e; exact ⟨h1, h2⟩
 rw [← hn]
 have h0 : tabCells ([] : List OT) = [] := rfl
 rw [h0, List.append_nil] at hown ⊢
 exact insert_end a n c vb m B (tabCells A) W (by omega) hc.1 hc.2 hB hown ⟨by simp [World.cell?, hv], by simp [World.cell?, hv], by simp [World.cell?, hv]⟩
end St
namespace St
open Num
open Go.ChangeShapes Go.WideShapes Go.ChangeAt Go.RowKit
def SpawnOut (next mask : Int) (r : R8) (L : List Tab) (nx id ec : Int) (L' : List Tab) : Prop :=
 (nx = next ∧ id = 0 ∧ L' = L ∧ ((ec = 1 ∧ ¬ GoodL next L) ∨ (ec = 2 ∧ GoodL next L ∧ goodRowB mask r = false) ∨ (ec = 5 ∧ GoodL next L ∧ goodRowB mask r = true ∧ ((allL L).length = 10 ∨ next = 1048576)))) ∨
 (ec = 0 ∧ nx = next + 1 ∧ id = next ∧ GoodL next L ∧ goodRowB mask r = true ∧ (allL L).length < 10 ∧ next < 1048576 ∧ L' = putT mask next r L)
theorem StoreIn.hz {w : World} {a : Option Addr} {n : Nat} {T : Nat → TabV} {I : Nat → Nat → Int} {R : Nat → Nat → R8} (h : StoreIn w a n T I R) : ∀ i, i < n → (T i).il ≤ 140737488355328 ∧ (T i).rl ≤ 140737488355328 := fun i hi => by
 have := h.fits.2.2 i hi
 omega
theorem StoreIn.good {w : World} {a : Option Addr} {n : Nat} {T : Nat → TabV} {I : Nat → Nat → Int} {R : Nat → Nat → R8} (h : StoreIn w a n T I R) (cap : Nat) (next : Int) :
  Calls Tryz.prog 43 #[.agg #[.slice a n cap, .int .i64 next]] w fun e w' => (∃ g, e = .returned (.bool g) ∧ (g = true ↔ GoodL next (plainOf T I R n))) ∧ Below w.heap.size w w' := by
 have hf := h.fits.1
 refine (good_any a n cap next T I R w (by unfold maxLen; omega) h.tabs h.ids h.rows h.hz h.wf).mono ?_
 rintro e w' ⟨⟨g, rfl, hg⟩, hb⟩
 exact ⟨⟨g, rfl, hg.trans (goodS_iff (fun i hi => (h.hz i hi).1))⟩, hb⟩
theorem goodL_n {next : Int} {T : Nat → TabV} {I : Nat → Nat → Int} {R : Nat → Nat → R8} {n : Nat} (hz : ∀ i, i < n → (T i).il ≤ 140737488355328) (h : GoodL next (plainOf T I R n)) : n ≤ 31 ∧ sizeW T n = (allL (plainOf T I R n)).length := by
 have hs := (goodS_iff hz).2 h
 have h1 := tabsTo_le hs.2.2.1
 have h2 := tabsTo_len hs.2.2.1 hz
 have h3 := size_eq (T := T) (I := I) n (by omega)
 rw [allIds_eq T I R n, List.length_reverse] at h3
 exact ⟨by omega, h3⟩
theorem len_le {L : List Tab} {k : Nat} (h : (allL L).length ≤ k) : ∀ t ∈ L, t.ids.length ≤ k := by
 intro t ht
 have : t.ids.Sublist (allL L) := by
  obtain ⟨A, C, rfl⟩ := List.append_of_mem ht
  simp only [allL, List.flatMap_append, List.flatMap_cons]
  exact (List.sublist_append_left _ _).trans (List.sublist_append_right _ _)
 have := this.length_le
 omega
theorem rising_of {S : List OT} {L : List Tab} (e : S.map (·.t) = L) (h : L.Pairwise (fun a b => a.mask < b.mask)) : Rising S := by
 subst e
 rw [List.pairwise_map] at h
 exact h
def SpawnS (b q : Nat) (v : Value) (next nx : Int) (r : R8) (W : World) : Prop :=
 W.cell? ⟨b, 1, none⟩ = some (.int .i64 next) ∧ W.cell? ⟨q, 0, none⟩ = some v ∧ W.cell? ⟨q, 1, none⟩ = some (.int .i64 nx) ∧
 W.cell? ⟨b + 1, 0, none⟩ = some (.int .i64 r.x) ∧ W.cell? ⟨b + 1, 1, none⟩ = some (.int .i64 r.y) ∧ W.cell? ⟨b + 1, 2, none⟩ = some (.int .i64 r.px) ∧ W.cell? ⟨b + 1, 3, none⟩ = some (.int .i64 r.py) ∧
  W.cell? ⟨b + 1, 4, none⟩ = some (.int .i64 r.wd) ∧ W.cell? ⟨b + 1, 5, none⟩ = some (.int .i64 r.ht) ∧ W.cell? ⟨b + 1, 6, none⟩ = some (.int .i64 r.ms) ∧ W.cell? ⟨b + 1, 7, none⟩ = some (.int .i64 r.rr)
theorem spawnS_of {W : World} {b q : Nat} {v u : Value} {next nx : Int} {r : R8} {f : Nat → Value} (hB : Boxes W b u next r) (hO : W.rowIs q 43 2 f) (h0 : f 0 = v) (h1 : f 1 = .int .i64 nx) : SpawnS b q v next nx r W := by
 refine ⟨hB.s.cell (i := 1) (by omega), ?_, ?_, hB.row⟩
 ·rw [hO.cell (i := 0) (by omega), h0]
 ·rw [hO.cell (i := 1) (by omega), h1]
theorem spawnS_set {W : World} {b q : Nat} {v u u' : Value} {next nx : Int} {r : R8} (h : SpawnS b q v next nx r W) (hq : q ≠ b + 1 + 1) : SpawnS b q v next nx r ((W.setCell ⟨b + 1 + 1, 0, none⟩ u).setCell ⟨b + 1 + 1, 1, none⟩ u') := by
 have key : ∀ x o, x ≠ b + 1 + 1 → ((W.setCell ⟨b + 1 + 1, 0, none⟩ u).setCell ⟨b + 1 + 1, 1, none⟩ u').cell? ⟨x, o, none⟩ = W.cell? ⟨x, o, none⟩ := fun x o hx =>
  (World.cell?_of_block (a := ⟨x, o, none⟩) (Below.heap_setCell _ _ _ _ hx)).trans (World.cell?_of_block (a := ⟨x, o, none⟩) (Below.heap_setCell _ _ _ _ hx))
 unfold SpawnS at h ⊢
 rw [key b 1 (by omega), key q 0 hq, key q 1 hq, key (b + 1) 0 (by omega), key (b + 1) 1 (by omega), key (b + 1) 2 (by omega), key (b + 1) 3 (by omega), key (b + 1) 4 (by omega), key (b + 1) 5 (by omega), key (b + 1) 6 (by omega), key (b + 1) 7 (by omega)]
 exact h
theorem boxes_after {W W' : World} {b : Nat} {v : Value} {next : Int} {r : R8} (h : Boxes W b v next r) (hb : Below (b + 1 + 1 + 1) W W') : Boxes W' b v next r :=
 ⟨h.s.of_block (hb.block _ (by omega)), h.r.of_block (hb.block _ (by omega)), h.res.of_block (hb.block _ (by omega))⟩
set_option maxHeartbeats 4000000 in
set_option maxRecDepth 100000 in
theorem spawn_any (a : Option Addr) (n cap : Nat) (next mask : Int) (T : Nat → TabV) (I : Nat → Nat → Int) (R : Nat → Nat → R8) (r : R8) (w : World) (h : StoreIn w a n T I R)
  (hins : ∀ (a' : Option Addr) (n' c' B : Nat) (A C : List OT), n' ≤ 31 → n' = (A ++ C).length → (A ++ C).map (·.t) = plainOf T I R n → InsertAt a' n' c' B A C mask) :
  Calls Tryz.prog 59 #[.agg #[.slice a n cap, .int .i64 next], .int .i64 mask, .agg #[.int .i64 r.x, .int .i64 r.y, .int .i64 r.px, .int .i64 r.py, .int .i64 r.wd, .int .i64 r.ht, .int .i64 r.ms, .int .i64 r.rr]] w fun e w' =>
   (∃ v nx id ec, e = .returned (.tuple #[.agg #[v, .int .i64 nx], .int .i64 id, .int .i64 ec]) ∧ ∃ S, Own w' w.heap.size v S ∧ SpawnOut next mask r (plainOf T I R n) nx id ec (S.map (·.t))) ∧ Below w.heap.size w w' := by
 have HST := hid h
 have HINS := hid hins
 have hnz : n ≤ 9223372036854775807 := by have := h.fits.1; omega
 clear h hins
 go_enter Tryz.func59, Tryz.ntmps59
 go_wp2_with fail
 refine (clone_any a n cap next T I R _ (HST.out.below (bal (bal (bal (Below.refl _ _) _) _) _)).tabs (HST.out.below (bal (bal (bal (Below.refl _ _) _) _) _)).ids (HST.out.below (bal (bal (bal (Below.refl _ _) _) _) _)).rows HST.out.fits).mono ?_
 rintro e w1 ⟨⟨v, rfl, S, hown, hpl⟩, hb1⟩
 obtain ⟨a', c', rfl⟩ := own_form hown.1
 have hBX := hid ((Boxes.made w (.slice a n cap) next r).below hb1)
 have hz1 := hb1.size
 simp at hz1
 have hbw := hid (bcall (bal (bal (bal (Below.refl _ _) _) _) _) hb1)
 simp only [World.size_alloc] at hown
 have HO := hid hown
 have HPL := hid hpl
 clear hown hpl hb1
 obtain ⟨x0, x1, x2, x3, x4, x5, x6⟩ := hBX.out.cells
 have hs1 : w.heap.size < w1.heap.size := by omega
 go_wp2_with fail
 have hBA := hid (hBX.out.below (bal (Below.refl _ _) (.cells #[.slice a' S.length c', .int .i64 next] 43)))
 have hOB := hid (rowIs2 w1 (.slice a' S.length c') (.int .i64 next) 43)
 have HOA := hid (HO.out.below (bal (Below.refl _ _) (.cells #[.slice a' S.length c', .int .i64 next] 43)))
 refine ((HST.out.below (bcall hbw.out (bal (Below.refl _ _) _))).good cap next).mono ?_
 rintro e w2 ⟨⟨g, rfl, hg⟩, hb2⟩
 have hB2 := hid (hBA.out.below hb2)
 have hO2 := hid (rowIs_below hOB.out hb2)
 have HO2 := hid (HOA.out.below hb2)
 have hbw2 := hid (bcall (bcall hbw.out (bal (Below.refl _ _) _)) hb2)
 have HG := hid hg
 have hz2 := hb2.size
 simp at hz2
 have hne2 : w.heap.size + 2 ≠ w1.heap.size := by omega
 have hfin : Hid (∀ W : World, Boxes W w.heap.size (.slice a n cap) next r → Own W (w.heap.size + 1 + 1 + 1) (.slice a' S.length c') S → Own ((W.setCell ⟨w.heap.size + 1 + 1, 0, none⟩ (.slice a' S.length c')).setCell ⟨w.heap.size + 1 + 1, 1, none⟩ (.int .i64 next)) w.heap.size (.slice a' S.length c') S) := by
  refine hid (fun W hb ho => ?_)
  have hb1 := own_not_box ho hb.res (by decide)
  have h2 := (ho.set' hb1 0 (.slice a' S.length c')).set' hb1 1 (.int .i64 next)
  exact ⟨owns_mono h2.1 (by omega), fun o hm => ⟨owns_mono (h2.2.1 o hm).1 (by omega), owns_mono (h2.2.1 o hm).2 (by omega)⟩, h2.2.2⟩
 clear hg hb2 hBX HO hbw x0 x1 x2 x3 x4 x5 x6 hBA hOB HOA
 obtain ⟨x0, x1, x2, x3, x4, x5, x6⟩ := hB2.out.cells
 have o0 := hO2.out.cell (i := 0) (by omega)
 have o1 := hO2.out.cell (i := 1) (by omega)
 simp at o0 o1
 cases g
 ·go_wp2_with fail
  refine bodyPost_ret (v := .tuple #[.agg #[.slice a' S.length c', .int .i64 next], .int .i64 0, .int .i64 1]) (by simp [results, Tryz.results59, go_sem, x3, x4]) rfl ⟨⟨_, _, _, _, rfl, S, hfin.out _ hB2.out HO2.out, Or.inl ⟨rfl, rfl, HPL.out, Or.inl ⟨rfl, fun hc => by have := HG.out.2 hc; cases this⟩⟩⟩, ?_⟩
  refine Below.setCell ?_ (by simp; omega) _
  refine Below.setCell ?_ (by simp; omega) _
  exact hbw2.out
 ·obtain ⟨r0, r1, r2, r3, r4, r5, r6, r7⟩ := hB2.out.row
  have HGL : Hid (GoodL next (plainOf T I R n)) := hid (HG.out.1 rfl)
  obtain ⟨hn31, hsw⟩ := goodL_n (fun i hi => (HST.out.hz i hi).1) HGL.out
  have hb01 : 0 ≤ next ∧ next ≤ 1048576 := by have := HGL.out.1; simpa [btw] using this
  obtain ⟨hnx0, hnx1⟩ := hb01
  have hsz10 := HGL.out.2.1
  have HSW := hid hsw
  clear hsw
  go_wp2_with fail
  refine (goodRow_any _ _ _ _ _ _ _ _ _ _).mono ?_
  rintro e w3 ⟨rfl, hb3⟩
  have hB3 := hid (hB2.out.below hb3)
  have hO3 := hid (rowIs_below hO2.out hb3)
  have HO3 := hid (HO2.out.below hb3)
  have hbw3 := hid (bcall hbw2.out hb3)
  have hz3 := hb3.size
  clear hb3 x0 x1 x2 x3 x4 x5 x6 o0 o1 r0 r1 r2 r3 r4 r5 r6 r7 hB2 hO2 HO2 hbw2
  obtain ⟨x0, x1, x2, x3, x4, x5, x6⟩ := hB3.out.cells
  have o0 := hO3.out.cell (i := 0) (by omega)
  have o1 := hO3.out.cell (i := 1) (by omega)
  simp at o0 o1
  cases hgr : goodRowB mask ⟨r.x, r.y, r.px, r.py, r.wd, r.ht, r.ms, r.rr⟩
  ·go_wp2_with fail
   refine bodyPost_ret (v := .tuple #[.agg #[.slice a' S.length c', .int .i64 next], .int .i64 0, .int .i64 2]) (by simp [results, Tryz.results59, go_sem, x3, x4]) rfl ⟨⟨_, _, _, _, rfl, S, hfin.out _ hB3.out HO3.out, Or.inl ⟨rfl, rfl, HPL.out, Or.inr (Or.inl ⟨rfl, HGL.out, hgr⟩)⟩⟩, ?_⟩
   refine Below.setCell ?_ (by simp; omega) _
   refine Below.setCell ?_ (by simp; omega) _
   exact hbw3.out
  ·go_wp2_with fail
   refine (size_any a n cap next T _ (by unfold maxLen; omega) (HST.out.below hbw3.out).tabs).mono ?_
   rintro e w4 ⟨rfl, hb4⟩
   have hB4 := hid (hB3.out.below hb4)
   have hO4 := hid (rowIs_below hO3.out hb4)
   have HO4 := hid (HO3.out.below hb4)
   have hbw4 := hid (bcall hbw3.out hb4)
   have hz4 := hb4.size
   clear hb4 x0 x1 x2 x3 x4 x5 x6 o0 o1 hB3 hO3 HO3 hbw3
   obtain ⟨x0, x1, x2, x3, x4, x5, x6⟩ := hB4.out.cells
   have o0 := hO4.out.cell (i := 0) (by omega)
   have o1 := hO4.out.cell (i := 1) (by omega)
   have of1 := hO4.out.frozen 1
   simp at o0 o1
   have hw14 : w1.heap.size < w4.heap.size := by omega
   rw [HSW.out]
   by_cases h10 : (allL (plainOf T I R n)).length = 10
   ·have hq : (((allL (plainOf T I R n)).length : Int) == 10) = true := by simp; omega
    have H10 := hid h10
    clear h10
    go_wp2_with fail
    refine bodyPost_ret (v := .tuple #[.agg #[.slice a' S.length c', .int .i64 next], .int .i64 0, .int .i64 5]) (by simp [results, Tryz.results59, go_sem, x3, x4]) rfl ⟨⟨_, _, _, _, rfl, S, hfin.out _ hB4.out HO4.out, Or.inl ⟨rfl, rfl, HPL.out, Or.inr (Or.inr ⟨rfl, HGL.out, hgr, Or.inl H10.out⟩)⟩⟩, ?_⟩
    refine Below.setCell ?_ (by simp; omega) _
    refine Below.setCell ?_ (by simp; omega) _
    exact hbw4.out
   ·have hq : (((allL (plainOf T I R n)).length : Int) == 10) = false := by simp; omega
    have hl10 : (allL (plainOf T I R n)).length < 10 := by omega
    clear h10
    by_cases hnm : next = 1048576
    ·have hq2 : (next == 1048576) = true := by simp [hnm]
     have HNM := hid hnm
     clear hnm
     go_wp2_with fail
     refine bodyPost_ret (v := .tuple #[.agg #[.slice a' S.length c', .int .i64 next], .int .i64 0, .int .i64 5]) (by simp [results, Tryz.results59, go_sem, x3, x4]) rfl ⟨⟨_, _, _, _, rfl, S, hfin.out _ hB4.out HO4.out, Or.inl ⟨rfl, rfl, HPL.out, Or.inr (Or.inr ⟨rfl, HGL.out, hgr, Or.inr HNM.out⟩)⟩⟩, ?_⟩
     refine Below.setCell ?_ (by simp; omega) _
     refine Below.setCell ?_ (by simp; omega) _
     exact hbw4.out
    ·have hq2 : (next == 1048576) = false := by simp [hnm]
     have hnlt : next < 1048576 := by omega
     clear hnm
     obtain ⟨r0, r1, r2, r3, r4, r5, r6, r7⟩ := hB4.out.row
     have hwne : w1.heap.size ≠ w.heap.size := by omega
     go_wp2_with fail
     have hnb := own_not_box HO4.out hO4.out (by decide)
     have hB5 := hid (hB4.out.set (x := w1.heap.size) (Or.inr (by omega)) 1 (.int .i64 (next + 1)))
     have hO5 := hid (hO4.out.set 1 (.int .i64 (next + 1)))
     have HO5 := hid (HO4.out.set' hnb 1 (.int .i64 (next + 1)))
     have hbw5 := hid (hbw4.out.setCell (p := ⟨w1.heap.size, 1, none⟩) (show w.heap.size ≤ w1.heap.size by omega) (.int .i64 (next + 1)))
     have hz5 : Hid (w1.heap.size < (w4.setCell ⟨w1.heap.size, 1, none⟩ (.int .i64 (next + 1))).heap.size) := hid (by simpa using hw14)
     generalize w4.setCell ⟨w1.heap.size, 1, none⟩ (.int .i64 (next + 1)) = W at hB5 hO5 HO5 hbw5 hz5 ⊢
     clear hB4 hO4 HO4 hbw4 x0 x1 x2 x3 x4 x5 x6 o0 o1 of1 r0 r1 r2 r3 r4 r5 r6 r7 hnb hw14 hz4 hz3
     obtain ⟨x0, x1, x2, x3, x4, x5, x6⟩ := hB5.out.cells
     obtain ⟨r0, r1, r2, r3, r4, r5, r6, r7⟩ := hB5.out.row
     have o0 := hO5.out.cell (i := 0) (by omega)
     have o1 := hO5.out.cell (i := 1) (by omega)
     simp at o0 o1
     have hSn : Hid (S.length ≤ 31 ∧ (∀ o ∈ S, o.t.ids.length ≤ 1000 ∧ o.t.rows.length ≤ 1000) ∧ Rising S) := by
      have hp := HPL.out
      have hl : S.length = n := by have := congrArg List.length hp; simpa [plainOf] using this
      refine hid ⟨by omega, fun o ho => ?_, rising_of hp HGL.out.2.2.2.1⟩
      have hm : o.t ∈ plainOf T I R n := by rw [← hp]; exact List.mem_map.2 ⟨o, ho, rfl⟩
      have h1 := len_le HGL.out.2.1 _ hm
      have h2 := (HGL.out.2.2.2.2.1 _ hm).2.1
      omega
     have HPI : Hid (Calls Tryz.prog 89 #[.agg #[.slice a' S.length c', .int .i64 (next + 1)], .int .i64 mask, .int .i64 next, .agg #[.int .i64 r.x, .int .i64 r.y, .int .i64 r.px, .int .i64 r.py, .int .i64 r.wd, .int .i64 r.ht, .int .i64 r.ms, .int .i64 r.rr]] W.drew fun e w' =>
       (∃ v, e = .returned (.agg #[v, .int .i64 (next + 1)]) ∧ ∃ S', Own w' (w.heap.size + 1 + 1 + 1) v S' ∧ S'.map (·.t) = putT mask next r (S.map (·.t))) ∧ Below (w.heap.size + 1 + 1 + 1) W w' ∧ Keep W w') := by
      have hs : w.heap.size + 1 + 1 + 1 ≤ W.heap.size := by have h0 := hz5.out; omega
      refine hid ((putIn_any a' S.length c' (next + 1) next mask _ S r W.drew rfl hs (by have := hSn.out.1; omega) hSn.out.2.1 HO5.out hSn.out.2.2 (fun A C e _ _ => HINS.out a' S.length c' _ A C hSn.out.1 (by rw [e]) (by rw [← e]; exact HPL.out))).mono ?_)
      rintro e w' ⟨h1, h2, h3⟩
      exact ⟨h1, (Below.drew (Below.refl _ W)).trans h2, h3⟩
     have hsW : w.heap.size < W.heap.size := by have := hz5.out; omega
     have hne4 : w1.heap.size ≠ w.heap.size + 1 + 1 := by omega
     have hne5 : w.heap.size ≠ w.heap.size + 1 + 1 := by omega
     have hS0 := spawnS_of (v := .slice a' S.length c') (nx := next + 1) hB5.out hO5.out (by simp) (by simp)
     unfold SpawnS at hS0
     clear x0 x1 x2 x3 x4 x5 x6 o0 o1 r0 r1 r2 r3 r4 r5 r6 r7
     obtain ⟨q0, q1, q2, q3, q4, q5, q6, q7, q8, q9, q10⟩ := hS0
     go_region_held3 (fun W' => W'.cell? ⟨w.heap.size, 1, none⟩ = some (.int .i64 next) ∧ W'.cell? ⟨w1.heap.size, 0, none⟩ = some (.slice a' S.length c') ∧ W'.cell? ⟨w1.heap.size, 1, none⟩ = some (.int .i64 (next + 1)) ∧
       W'.cell? ⟨w.heap.size + 1, 0, none⟩ = some (.int .i64 r.x) ∧ W'.cell? ⟨w.heap.size + 1, 1, none⟩ = some (.int .i64 r.y) ∧ W'.cell? ⟨w.heap.size + 1, 2, none⟩ = some (.int .i64 r.px) ∧ W'.cell? ⟨w.heap.size + 1, 3, none⟩ = some (.int .i64 r.py) ∧
       W'.cell? ⟨w.heap.size + 1, 4, none⟩ = some (.int .i64 r.wd) ∧ W'.cell? ⟨w.heap.size + 1, 5, none⟩ = some (.int .i64 r.ht) ∧ W'.cell? ⟨w.heap.size + 1, 6, none⟩ = some (.int .i64 r.ms) ∧ W'.cell? ⟨w.heap.size + 1, 7, none⟩ = some (.int .i64 r.rr)) (first | (go_keep; done) | exact spawnS_set hSA hne4)
      (first | (go_at_call 89; refine HPI.out.mono ?_; rintro e w6 ⟨⟨v6, rfl, S6, ho6, hp6⟩, hb6, hk6⟩; obtain ⟨a6, c6, rfl⟩ := own_form ho6.1; have hB6 := boxes_after hB5.out hb6; have hSA := spawnS_of (v := .slice a' S.length c') (nx := next + 1) hB6 (hk6 _ _ _ hO5.out) (by simp) (by simp); unfold SpawnS at hSA; obtain ⟨y0, y1, y2, y3, y4, y5, y6⟩ := hB6.cells; have H6 := hid ho6; have HP6 := hid hp6; have HB6 := hid hb6; have HBX6 := hid hB6; clear ho6 hp6 hb6 hk6 hB6))
     all_goals
      go_wp2_with fail
      refine bodyPost_ret (v := .tuple #[.agg #[.slice a6 S6.length c6, .int .i64 (next + 1)], .int .i64 next, .int .i64 0]) (by simp [results, Tryz.results59, go_sem, y3, y4]) rfl ⟨⟨_, _, _, _, rfl, S6, ?_, Or.inr ⟨rfl, rfl, rfl, HGL.out, hgr, hl10, hnlt, ?_⟩⟩, ?_⟩
      ·have hb1 := own_not_box H6.out HBX6.out.res (by decide)
       have h2 := (H6.out.set' hb1 0 (.slice a6 S6.length c6)).set' hb1 1 (.int .i64 (next + 1))
       exact ⟨owns_mono h2.1 (by omega), fun o hm => ⟨owns_mono (h2.2.1 o hm).1 (by omega), owns_mono (h2.2.1 o hm).2 (by omega)⟩, h2.2.2⟩
      ·rw [HP6.out, HPL.out]
      ·refine Below.setCell ?_ (by simp; omega) _
       refine Below.setCell ?_ (by simp; omega) _
       exact hbw5.out.trans (HB6.out.mono (by omega))
end St
namespace St
open Num
open Go.ChangeShapes Go.WideShapes Go.ChangeAt Go.RowKit
def At (L : List Tab) (id m : Int) (r : R8) : Prop := ∃ t ∈ L, t.mask = m ∧ ∃ j : Nat, t.ids[j]? = some id ∧ t.rows[j]? = some r
def Even (L : List Tab) : Prop := ∀ t ∈ L, t.ids.length = t.rows.length
theorem GoodL.even {next : Int} {L : List Tab} (h : GoodL next L) : Even L := fun t ht => (h.2.2.2.2.1 t ht).2.1
theorem mem_plain {T : Nat → TabV} {I : Nat → Nat → Int} {R : Nat → Nat → R8} {n : Nat} {t : Tab} : t ∈ plainOf T I R n ↔ ∃ i, i < n ∧ tabOf T I R i = t := by simp [plainOf]
theorem noneTo_iff {T : Nat → TabV} {I : Nat → Nat → Int} {R : Nat → Nat → R8} {n : Nat} {v : Int} : NoneTo T I v n ↔ v ∉ allL (plainOf T I R n) := by
 unfold NoneTo allL
 constructor
 ·intro h hm
  obtain ⟨t, ht, hx⟩ := List.mem_flatMap.1 hm
  obtain ⟨i, hi, rfl⟩ := mem_plain.1 ht
  simp only [tabOf, List.mem_map, List.mem_range] at hx
  obtain ⟨j, hj, e⟩ := hx
  exact h i hi j hj e
 ·intro h i hi j hj e
  exact h (List.mem_flatMap.2 ⟨tabOf T I R i, mem_plain.2 ⟨i, hi, rfl⟩, by simp only [tabOf, List.mem_map, List.mem_range]; exact ⟨j, hj, e⟩⟩)
theorem at_mem {L : List Tab} {id m : Int} {r : R8} (h : At L id m r) : id ∈ allL L := by
 obtain ⟨t, ht, _, j, hj, _⟩ := h
 exact List.mem_flatMap.2 ⟨t, ht, List.mem_of_getElem? hj⟩
theorem at_of_mem {L : List Tab} {id : Int} (he : Even L) (h : id ∈ allL L) : ∃ m r, At L id m r := by
 obtain ⟨t, ht, hx⟩ := List.mem_flatMap.1 h
 obtain ⟨j, hj, e⟩ := List.getElem_of_mem hx
 have hj' : j < t.rows.length := by rw [← he t ht]; exact hj
 exact ⟨t.mask, t.rows[j], t, ht, rfl, j, by rw [List.getElem?_eq_getElem hj, e], List.getElem?_eq_getElem hj'⟩
theorem nodup_get {l : List Int} (h : l.Nodup) {i j : Nat} {x : Int} (hi : l[i]? = some x) (hj : l[j]? = some x) : i = j := by
 obtain ⟨h1, e1⟩ := List.getElem?_eq_some_iff.1 hi
 obtain ⟨h2, e2⟩ := List.getElem?_eq_some_iff.1 hj
 rcases Nat.lt_trichotomy i j with hlt | rfl | hgt
 ·exact absurd (e1.trans e2.symm) (List.pairwise_iff_getElem.1 h i j h1 h2 hlt)
 ·rfl
 ·exact absurd (e2.trans e1.symm) (List.pairwise_iff_getElem.1 h j i h2 h1 hgt)
theorem at_unique {L : List Tab} (hn : (allL L).Nodup) {id m m' : Int} {r r' : R8} (h : At L id m r) (h' : At L id m' r') : m = m' ∧ r = r' := by
 induction L with
 | nil => obtain ⟨t, ht, _⟩ := h; cases ht
 | cons t L ih =>
  have hsplit : (t.ids ++ allL L).Nodup := by simpa [allL] using hn
  rw [List.nodup_append] at hsplit
  have hin : ∀ {m r}, At (t :: L) id m r → (m = t.mask ∧ ∃ j : Nat, t.ids[j]? = some id ∧ t.rows[j]? = some r) ∨ At L id m r := by
   rintro m r ⟨x, hx, rfl, j, h1, h2⟩
   rcases List.mem_cons.1 hx with rfl | hx
   ·exact Or.inl ⟨rfl, j, h1, h2⟩
   ·exact Or.inr ⟨x, hx, rfl, j, h1, h2⟩
  rcases hin h with ⟨rfl, j, h1, h2⟩ | h1
  ·rcases hin h' with ⟨rfl, j', h1', h2'⟩ | h2
   ·have := nodup_get hsplit.1 h1 h1'
    subst this
    rw [h2] at h2'
    cases h2'
    exact ⟨rfl, rfl⟩
   ·exact absurd rfl (hsplit.2.2 id (List.mem_of_getElem? h1) id (at_mem h2))
  ·rcases hin h' with ⟨rfl, j', h1', h2'⟩ | h2
   ·exact absurd rfl (hsplit.2.2 id (List.mem_of_getElem? h1') id (at_mem h1))
   ·exact ih hsplit.2.1 h1 h2
theorem StoreIn.get {w : World} {a : Option Addr} {n : Nat} {T : Nat → TabV} {I : Nat → Nat → Int} {R : Nat → Nat → R8} (h : StoreIn w a n T I R) (he : Even (plainOf T I R n)) (cap : Nat) (next v : Int) :
  Calls Tryz.prog 19 #[.agg #[.slice a n cap, .int .i64 next], .int .i64 v] w fun e w' =>
   ((e = .returned (.tuple #[.int .i64 0, .agg #[.int .i64 0, .int .i64 0, .int .i64 0, .int .i64 0, .int .i64 0, .int .i64 0, .int .i64 0, .int .i64 0], .bool false]) ∧ v ∉ allL (plainOf T I R n)) ∨
    ∃ m r, e = .returned (.tuple #[.int .i64 m, .agg #[.int .i64 r.x, .int .i64 r.y, .int .i64 r.px, .int .i64 r.py, .int .i64 r.wd, .int .i64 r.ht, .int .i64 r.ms, .int .i64 r.rr], .bool true]) ∧ At (plainOf T I R n) v m r) ∧ Below w.heap.size w w' := by
 have hf := h.fits
 have hev : ∀ i, i < n → (T i).rl = (T i).il ∧ (T i).il ≤ maxLen := fun i hi => by
  have h1 := he _ (mem_plain.2 ⟨i, hi, rfl⟩)
  simp only [tabOf, List.length_map, List.length_range] at h1
  have h2 := h.hz i hi
  unfold maxLen
  omega
 refine (get_any a n cap next v T I R w (by have := hf.1; unfold maxLen; omega) h.tabs h.ids h.rows hev).mono ?_
 rintro e w' ⟨he', hb⟩
 refine ⟨?_, hb⟩
 rcases he' with ⟨rfl, hno⟩ | ⟨i, j, rfl, hi, hj, hq⟩
 ·exact Or.inl ⟨rfl, noneTo_iff.1 hno⟩
 ·refine Or.inr ⟨_, _, rfl, tabOf T I R i, mem_plain.2 ⟨i, hi, rfl⟩, rfl, j, ?_, ?_⟩
  ·simp [tabOf, hj, hq]
  ·have := (hev i hi).1
   simp [tabOf, show j < (T i).rl by omega]
theorem StoreIn.size {w : World} {a : Option Addr} {n : Nat} {T : Nat → TabV} {I : Nat → Nat → Int} {R : Nat → Nat → R8} (h : StoreIn w a n T I R) {next : Int} (hg : GoodL next (plainOf T I R n)) (cap : Nat) (nx : Int) :
  Calls Tryz.prog 41 #[.agg #[.slice a n cap, .int .i64 nx]] w fun e w' => e = .returned (.int .i64 (allL (plainOf T I R n)).length) ∧ Below w.heap.size w w' := by
 have hs := (goodL_n (fun i hi => (h.hz i hi).1) hg).2
 rw [← hs]
 exact size_any a n cap nx T w (by have := h.fits.1; unfold maxLen; omega) h.tabs
end St
end Go.Proofs.YtckkkdldljhehacGreat
