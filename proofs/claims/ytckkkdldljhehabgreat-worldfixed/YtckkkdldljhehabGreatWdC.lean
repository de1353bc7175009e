/- Worlds in boxes; rows that are written; numbers of rows. Lemmas, no walk. -/
import Derived.Test.YtckkkdldljhehabGreatWdB
import Derived.Test.YtckkkdldljhehabGreatSpd
namespace Go.Proofs.YtckkkdldljhehabGreat.Wd
open Go.Proofs.YtckkkdldljhehabGreat.Num Go.Proofs.YtckkkdldljhehabGreat.St
open Go.ChangeShapes Go.WideShapes Go.ChangeAt Go.RowKit

/-- A world's five cells. -/
def wcell (v : Value) (next fall wide high : Int) (i : Nat) : Value := if i = 0 then v else if i = 1 then .int .i64 next else if i = 2 then .int .i64 fall else if i = 3 then .int .i64 wide else .int .i64 high
theorem rowIs5 (w : World) (v : Value) (next fall wide high : Int) (t : TypeId) : (w.alloc (.cells #[v, .int .i64 next, .int .i64 fall, .int .i64 wide, .int .i64 high] t)).rowIs w.heap.size t 5 (wcell v next fall wide high) :=
  ⟨_, (MapKept.heap_alloc w _).1, rfl, fun i hi => by
    match i, hi with
    | 0, _ => rfl
    | 1, _ => rfl
    | 2, _ => rfl
    | 3, _ => rfl
    | 4, _ => rfl⟩
theorem wcells {W : World} {b : Nat} {v : Value} {next fall wide high : Int} (h : W.rowIs b 26 5 (wcell v next fall wide high)) : W.cell? ⟨b, 0, none⟩ = some v ∧ W.cell? ⟨b, 1, none⟩ = some (.int .i64 next) ∧ W.cell? ⟨b, 2, none⟩ = some (.int .i64 fall) ∧ W.cell? ⟨b, 3, none⟩ = some (.int .i64 wide) ∧ W.cell? ⟨b, 4, none⟩ = some (.int .i64 high) ∧
    W.frozen? ⟨b, 0, none⟩ = false ∧ W.frozen? ⟨b, 1, none⟩ = false ∧ W.frozen? ⟨b, 2, none⟩ = false ∧ W.frozen? ⟨b, 3, none⟩ = false ∧ W.frozen? ⟨b, 4, none⟩ = false :=
  ⟨h.cell (i := 0) (by omega), h.cell (i := 1) (by omega), h.cell (i := 2) (by omega), h.cell (i := 3) (by omega), h.cell (i := 4) (by omega), h.frozen 0, h.frozen 1, h.frozen 2, h.frozen 3, h.frozen 4⟩
/-- Another row in a box of a row. -/
theorem setR8 {W : World} {b : Nat} {r : R8} (h : W.rowIs b 56 8 (fun i => (St.rowCells r).getD i undef)) (r' : R8) (k : Nat) (u : Value) (e : ∀ i, i < 8 → (if i = k then u else (St.rowCells r).getD i undef) = (St.rowCells r').getD i undef) : (W.setCell ⟨b, k, none⟩ u).rowIs b 56 8 (fun i => (St.rowCells r').getD i undef) :=
  (h.set k u).congr e
theorem take_fold {α β : Type} (f : α → β → α) (l : List β) (a : α) (k : Nat) (x : β) (h : l[k]? = some x) : (l.take (k + 1)).foldl f a = f ((l.take k).foldl f a) x := by
  have hlt := (List.getElem?_eq_some_iff.1 h).1
  rw [List.take_succ_eq_append_getElem hlt, (List.getElem?_eq_some_iff.1 h).2, List.foldl_append]
  rfl
theorem at_ids {L : List Tab} (he : Even L) (hn : (allL L).Nodup) {m id : Int} (g : Int → R8) (h : id ∈ idsOf m L) : At (withRows L g) id (mk L id) (g id) ∧ (∃ q, At L id (mk L id) q) ∧ hasB (mk L id) m = true := by
  obtain ⟨q, r, hat, hb⟩ := (mem_ids he).1 h
  rw [(at_mk hn hat).1]
  exact ⟨(at_with he g).2 ⟨⟨r, hat⟩, rfl⟩, ⟨r, hat⟩, hb⟩
/-- The numbers of a row that its mask may have. -/
theorem row_bounds {m : Int} {r : R8} (h : goodRowB m r = true) : (-1048576 ≤ r.x ∧ r.x ≤ 1048576) ∧ (-1048576 ≤ r.y ∧ r.y ≤ 1048576) ∧ (-16777216 ≤ r.px ∧ r.px ≤ 16777216) ∧ (-16777216 ≤ r.py ∧ r.py ≤ 16777216) ∧ (0 ≤ r.wd ∧ r.wd ≤ 4096) ∧ (0 ≤ r.ht ∧ r.ht ≤ 4096) ∧ (0 ≤ r.ms ∧ r.ms ≤ 9) ∧ (0 ≤ r.rr ∧ r.rr ≤ 256) := by
  simp only [goodRowB, Bool.and_eq_true] at h
  obtain ⟨hm, he, hp⟩ := h
  have h4 : hasB m 4 = false → r.wd = 0 ∧ r.ht = 0 := fun hb => by
    simp [eqR, onlyR, layR, zeroR, hb] at he
    exact ⟨he.1.1.1.2, he.1.1.2⟩
  have h8 : hasB m 8 = false → r.ms = 0 ∧ r.rr = 0 := fun hb => by
    simp [eqR, onlyR, layR, zeroR, hb] at he
    exact ⟨he.1.2, he.2⟩
  cases b4 : hasB m 4 <;> cases b8 : hasB m 8 <;> simp [goodPartsB, b4, b8, btw] at hp
  · have := h4 b4; have := h8 b8; omega
  · have := h4 b4; omega
  · have := h8 b8; omega
  · omega

theorem grown_refl (W : World) (o : Option Nat) : W.grownBy W o := ⟨rfl, rfl, rfl, Nat.le_refl _, fun _ _ _ => rfl⟩
theorem speed_row (r : R8) (w : World) : Calls Tryz.prog 83 #[.agg #[.int .i64 r.x, .int .i64 r.y, .int .i64 r.px, .int .i64 r.py, .int .i64 r.wd, .int .i64 r.ht, .int .i64 r.ms, .int .i64 r.rr]] w fun e w' => e = .returned (.tuple #[.int .i64 (spd r.px r.ms), .int .i64 (spd r.py r.ms)]) ∧ Below w.heap.size w w' := Speed_any r w
theorem grown_keep {W W' : World} {F : Nat → Prop} {v : Value} {L : List Tab} {g : Nat} (h : Sto W F v L) (hg : W.grownBy W' (some g)) (hF : ¬ F g) : Sto W' F v L :=
  h.keep hg.size (fun b hb => hg.block b (h.lt hb) (fun e => hF (by cases e; exact hb)))
theorem below_grown {B : Nat} {w W W' : World} {g : Nat} (h : Below B w W) (hg : W.grownBy W' (some g)) (hB : B ≤ W.heap.size) (hle : B ≤ g) : Below B w W' := h.grown hg hB (fun x e => by cases e; exact hle)
end Go.Proofs.YtckkkdldljhehabGreat.Wd
