/- Tables of one's own: what becomes of them as a thing is taken out. Lemmas on worlds, no walk. -/
import Derived.Test.YtckkkdldljhehaaStDelete
import Derived.Test.YtckkkdldljhehaaStRow8
import Derived.Test.YtckkkdldljhehaaStCut
namespace Go.Proofs.Ytckkkdldljhehaa.St
open Go.Proofs.Ytckkkdldljhehaa.Num
open Go.ChangeShapes Go.WideShapes Go.ChangeAt Go.RowKit

/-- takeOut's three boxes: the store, the spot, the answer. -/
structure BoxT (W : World) (b : Nat) (v : Value) (next : Int) (i j : Int) : Prop where
  s : W.rowIs b 28 2 (fun k => if k = 0 then v else .int .i64 next)
  p : W.rowIs (b + 1) 98 2 (fun k => if k = 0 then .int .i64 i else .int .i64 j)
  res : W.rowIs (b + 2) 28 2 (fun i => if i = 0 then .slice none 0 0 else .int .i64 0)
theorem BoxT.made (w : World) (v : Value) (next i j : Int) : BoxT (((w.alloc (.cells #[v, .int .i64 next] 28)).alloc (.cells #[.int .i64 i, .int .i64 j] 98)).alloc (.cells #[.slice none 0 0, .int .i64 0] 28)) w.heap.size v next i j := by
  refine ⟨((rowIs2 w _ _ _).alloc _).alloc _, ?_, ?_⟩
  · have := rowIs2 (w.alloc (.cells #[v, .int .i64 next] 28)) (.int .i64 i) (.int .i64 j) 98
    rw [World.size_alloc] at this
    exact this.alloc _
  · have := rowIs2 ((w.alloc (.cells #[v, .int .i64 next] 28)).alloc (.cells #[.int .i64 i, .int .i64 j] 98)) (.slice none 0 0) (.int .i64 0) 28
    rw [World.size_alloc, World.size_alloc] at this
    exact this
theorem BoxT.grown {W W' : World} {b : Nat} {v : Value} {next i j : Int} {row : Option Nat} (h : BoxT W b v next i j) (hg : W.grownBy W' row) (hne : ∀ x, row = some x → x < b ∨ b + 2 < x) : BoxT W' b v next i j :=
  ⟨rowIs_grown h.s hg (fun e => by have := hne _ e; omega), rowIs_grown h.p hg (fun e => by have := hne _ e; omega), rowIs_grown h.res hg (fun e => by have := hne _ e; omega)⟩
theorem BoxT.set {W : World} {b : Nat} {v : Value} {next i j : Int} (h : BoxT W b v next i j) {x : Nat} (hne : x < b ∨ b + 2 < x) (q : Nat) (u : Value) : BoxT (W.setCell ⟨x, q, none⟩ u) b v next i j :=
  ⟨h.s.setOther (by simp; omega) u, h.p.setOther (by simp; omega) u, h.res.setOther (by simp; omega) u⟩
theorem BoxT.setS {W : World} {b : Nat} {v : Value} {next i j : Int} (h : BoxT W b v next i j) (u : Value) : BoxT (W.setCell ⟨b, 0, none⟩ u) b u next i j :=
  ⟨(h.s.set 0 u).congr (fun i hi => by match i, hi with | 0, _ => rfl | 1, _ => rfl), h.p.setOther (by simp) u, h.res.setOther (by simp) u⟩
theorem BoxT.cells {W : World} {b : Nat} {v : Value} {next i j : Int} (h : BoxT W b v next i j) : W.cell? ⟨b, 0, none⟩ = some v ∧ W.cell? ⟨b, 1, none⟩ = some (.int .i64 next) ∧ W.frozen? ⟨b, 0, none⟩ = false ∧
    W.cell? ⟨b + 2, 0, none⟩ = some (.slice none 0 0) ∧ W.cell? ⟨b + 2, 1, none⟩ = some (.int .i64 0) ∧ W.frozen? ⟨b + 2, 0, none⟩ = false ∧ W.frozen? ⟨b + 2, 1, none⟩ = false ∧ W.cell? ⟨b + 1, 0, none⟩ = some (.int .i64 i) ∧ W.cell? ⟨b + 1, 1, none⟩ = some (.int .i64 j) :=
  ⟨h.s.cell (i := 0) (by omega), h.s.cell (i := 1) (by omega), h.s.frozen 0, h.res.cell (i := 0) (by omega), h.res.cell (i := 1) (by omega), h.res.frozen 0, h.res.frozen 1, h.p.cell (i := 0) (by omega), h.p.cell (i := 1) (by omega)⟩

theorem ids_write {W : World} {B gi k ic j : Nat} {ids : List Int} (id : Int) (h : W.ownsRow B 3 1 (.slice (some ⟨gi, 0, none⟩) (k + 1) ic) (k + 1) (ids.map (Value.int .i64))) :
    (W.setCell ⟨gi, j, none⟩ (.int .i64 id)).ownsRow B 3 1 (.slice (some ⟨gi, 0, none⟩) (k + 1) ic) (k + 1) ((ids.set j id).map (Value.int .i64)) := by
  have := (h.stored j (.int .i64 id)).1
  rw [List.map_set]
  exact this
theorem own_cut {W : World} {B g n c : Nat} {A C : List OT} {o : OT} {gi gr ic rc j k : Nat} (id : Int) (r : R8) (h : Own W B (.slice (some ⟨g, 0, none⟩) n c) (A ++ o :: C)) (hn : n = (A ++ o :: C).length) (hiv : o.iv = .slice (some ⟨gi, 0, none⟩) (k + 1) ic) (hrv : o.rv = .slice (some ⟨gr, 0, none⟩) (k + 1) rc)
    (hi : o.t.ids.length = k + 1) (hr : o.t.rows.length = k + 1) (hj : j ≤ k) (hrg : gr ≠ g) (hir : gi ≠ gr) :
    Own (((setRow8 (W.setCell ⟨gi, j, none⟩ (.int .i64 id)) gr j r).setCell ⟨g, A.length * 3 + 1, none⟩ (.slice (some ⟨gi, 0, none⟩) k ic)).setCell ⟨g, A.length * 3 + 2, none⟩ (.slice (some ⟨gr, 0, none⟩) k rc)) B (.slice (some ⟨g, 0, none⟩) n c)
      (A ++ ⟨cutT j k id r o.t, .slice (some ⟨gi, 0, none⟩) k ic, .slice (some ⟨gr, 0, none⟩) k rc⟩ :: C) := by
  have ho := h.2.1 o (by simp)
  rw [OtOwn, hi, hr, hiv, hrv] at ho
  have hl1 : ((o.t.ids.set j id).take k).length = k := by rw [List.length_take, List.length_set]; omega
  have hl2 : ((o.t.rows.set j r).take k).length = k := by rw [List.length_take, List.length_set]; omega
  have q1 := owns_part (k := k) (ids_write (j := j) id ho.1) (by omega)
  rw [Nat.mul_one, ← List.map_take] at q1
  have hO1 := own_ids (ids' := (o.t.ids.set j id).take k) (iv' := .slice (some ⟨gi, 0, none⟩) k ic) h hn (by rw [hiv]; exact grown_set W gi j (.int .i64 id)) (by rw [hl1]; exact q1) (Or.inl (by rw [hiv]; rfl))
  have hn1 : n = (A ++ (⟨⟨o.t.mask, (o.t.ids.set j id).take k, o.t.rows⟩, .slice (some ⟨gi, 0, none⟩) k ic, o.rv⟩ : OT) :: C).length := by rw [hn]; simp
  have q2 : ((W.setCell ⟨gi, j, none⟩ (.int .i64 id)).setCell ⟨g, A.length * 3 + 1, none⟩ (.slice (some ⟨gi, 0, none⟩) k ic)).ownsRow B 30 8 (.slice (some ⟨gr, 0, none⟩) (k + 1) rc) (k + 1) (o.t.rows.flatMap rowCells) :=
    owns_set (owns_set ho.2 (by simp [Value.ownBlock]; omega) _ _) (by simp [Value.ownBlock]; exact hrg) _ _
  have q3 := owns_part (k := k) (rows_write (j := j) r hr hj q2) (by omega)
  have q4 : ((o.t.rows.set j r).flatMap rowCells).take (k * 8) = ((o.t.rows.set j r).take k).flatMap rowCells := by
    have e := List.take_append_drop k (o.t.rows.set j r)
    conv => lhs; rw [← e]
    rw [List.flatMap_append, List.take_append_of_le_length (by rw [rows_length, hl2]; exact Nat.le_refl _), List.take_of_length_le (by rw [rows_length, hl2]; exact Nat.le_refl _)]
  rw [q4] at q3
  have hO2 := own_rows (rows' := (o.t.rows.set j r).take k) (rv' := .slice (some ⟨gr, 0, none⟩) k rc) hO1 hn1 (by rw [hrv]; exact grown_row8 _ gr j r) (by rw [hl2]; exact q3) (Or.inl (by rw [hrv]; rfl))
  rw [setRow8_comm _ _ _ _ _ (Ne.symm hrg)]
  exact hO2
theorem own_less {W w1 : World} {B g n c : Nat} {A C : List OT} {o : OT} (h : Own W B (.slice (some ⟨g, 0, none⟩) n c) (A ++ o :: C)) (hn : n = (A ++ o :: C).length) (hg : W.grownBy w1 (some g)) (hr : w1.ownsRow B 66 3 (.slice (some ⟨g, 0, none⟩) (n - 1) c) (n - 1) (tabCells A ++ tabCells C)) :
    Own w1 B (.slice (some ⟨g, 0, none⟩) (n - 1) c) (A ++ C) := by
  have hl : n - 1 = (A ++ C).length := by rw [hn]; simp
  have hnd : (g :: blocks (A ++ o :: C)).Nodup := by simpa [Value.ownBlock] using h.2.2
  have hgn := (List.nodup_cons.1 hnd).1
  refine ⟨?_, ?_, ?_⟩
  · rw [← hl]
    simpa [tabCells] using hr
  · intro x hx
    have hx' : x ∈ A ++ o :: C := by
      rcases List.mem_append.1 hx with hx | hx
      · exact List.mem_append.2 (Or.inl hx)
      · exact List.mem_append.2 (Or.inr (List.mem_cons_of_mem _ hx))
    exact otOwn_kept (h.2.1 x hx') hg (fun z hz e => hgn (by cases e; exact List.mem_flatMap.2 ⟨x, hx', hz⟩))
  · have hs : (g :: blocks (A ++ C)).Sublist (g :: blocks (A ++ o :: C)) := by
      refine List.Sublist.cons_cons _ ?_
      rw [blocks_mid]
      simp only [blocks, List.flatMap_append]
      exact (List.Sublist.refl _).append (List.sublist_append_right _ _)
    simpa [Value.ownBlock] using hnd.sublist hs
end Go.Proofs.Ytckkkdldljhehaa.St
