/- Rows of one's own whose first element and another change places; one more table in a store of one's own. Lemmas, no walk. -/
import Derived.Test.YtckkkdldljhehabGreatKtWdOr
import Derived.Test.YtckkkdldljhehabGreatPkG
import Derived.Maps.AppendAt
namespace Go.Proofs.YtckkkdldljhehabGreat.Wd
open Go.Proofs.YtckkkdldljhehabGreat.Num Go.Proofs.YtckkkdldljhehabGreat.St
open Go.ChangeShapes Go.WideShapes Go.ChangeAt Go.RowKit

theorem swp_eq {α : Type} {l : List α} {q : Nat} (hq : q < l.length) {x y : α} (hx : l[q]? = some x) (hy : l[0]? = some y) : (l.set 0 x).set q y = swp l q := by
  unfold swp
  rw [dif_pos hq]
  have e1 := (List.getElem?_eq_some_iff.1 hx).2
  have e2 := (List.getElem?_eq_some_iff.1 hy).2
  rw [e1, e2]
theorem ids_swap {W : World} {B g n c : Nat} {ids : List Int} (hn : n = ids.length) {q : Nat} (hq : q < n) {x y : Int} (hx : ids[q]? = some x) (hy : ids[0]? = some y) (h : W.ownsRow B 3 1 (.slice (some ⟨g, 0, none⟩) n c) n (ids.map (Value.int .i64))) :
    ((W.setCell ⟨g, 0, none⟩ (.int .i64 x)).setCell ⟨g, q, none⟩ (.int .i64 y)).ownsRow B 3 1 (.slice (some ⟨g, 0, none⟩) n c) n ((swp ids q).map (Value.int .i64)) := by
  have h1 := ((h.stored 0 (.int .i64 x)).1.stored q (.int .i64 y)).1
  rw [← swp_eq (by omega) hx hy, List.map_set, List.map_set]
  exact h1
theorem rows_swap {W : World} {B g k c : Nat} {rows : List R8} (hr : rows.length = k + 1) {q : Nat} (hq : q ≤ k) {x y : R8} (hx : rows[q]? = some x) (hy : rows[0]? = some y) (h : W.ownsRow B 56 8 (.slice (some ⟨g, 0, none⟩) (k + 1) c) (k + 1) (rows.flatMap rowCells)) :
    (setRow8 (setRow8 W g 0 x) g q y).ownsRow B 56 8 (.slice (some ⟨g, 0, none⟩) (k + 1) c) (k + 1) ((swp rows q).flatMap rowCells) := by
  have h1 := rows_write y (rows := rows.set 0 x) (by simp [hr]) hq (rows_write x hr (Nat.zero_le _) h)
  rw [swp_eq (by omega) hx hy] at h1
  exact h1
theorem rows_swap2 {W : World} {B g n c : Nat} {rows : List R8} (hr : rows.length = n) {q : Nat} (hq : q < n) {x y : R8} (hx : rows[q]? = some x) (hy : rows[0]? = some y) (h : W.ownsRow B 56 8 (.slice (some ⟨g, 0, none⟩) n c) n (rows.flatMap rowCells)) :
    (setRow8 (setRow8 W g 0 x) g q y).ownsRow B 56 8 (.slice (some ⟨g, 0, none⟩) n c) n ((swp rows q).flatMap rowCells) := by
  obtain ⟨k, rfl⟩ : ∃ k, n = k + 1 := ⟨n - 1, by omega⟩
  exact rows_swap hr (by omega) hx hy h
theorem rows_write2 {W : World} {B g n c j : Nat} {rows : List R8} (r : R8) (hr : rows.length = n) (hj : j < n) (h : W.ownsRow B 56 8 (.slice (some ⟨g, 0, none⟩) n c) n (rows.flatMap rowCells)) :
    (setRow8 W g j r).ownsRow B 56 8 (.slice (some ⟨g, 0, none⟩) n c) n ((rows.set j r).flatMap rowCells) := by
  obtain ⟨k, rfl⟩ : ∃ k, n = k + 1 := ⟨n - 1, by omega⟩
  exact rows_write r hr (by omega) h
/-- The builtin append to nothing, as one step of a region that draws. -/
theorem step_app_nil {ops : Array Oper} {o : Oper} {a : Act} {w : World} {K : Act → World → Prop} {Q : Exit → Act → World → Prop} {E : Prop} (t e : TypeId) (i : TypeInfo) (z : Value) (size bytes : Nat) (ht : Tryz.prog.underlying t = some (.slice e)) (hi : Tryz.prog.info? e = some i) (hz : i.zero = some z)
    (hsize : i.size = size) (hby : i.bytes = bytes) (hzs : z.cells.size = size) (hsz : 0 < size) (hgd : o.guard = none) (s x : Operand) (ho : o.op = .call { callee := .builtin .append, args := #[s, x], argTypes := #[t, t] }) (hs : a.eval s = .slice none 0 0)
    (ad : Addr) (m c : Nat) (news : List Value) (hx : a.eval x = .slice (some ad) m c) (hl : news.length = m * size) (hnews : ∀ j u, news[j]? = some u → w.cell? (ad.add j) = some u) (h1 : ∀ u ∈ news, u.oneCell' = true) (h63 : m ≤ maxLen) (hbytes : m * bytes ≤ 140737488355328) (hm : 0 < m)
    (h : ∀ g c' w', w'.ownsRow w.heap.size e size (.slice (some ⟨g, 0, none⟩) m c') m news → w.grownBy w' none → w.heap.size ≤ g → K (a.put o.dst (.slice (some ⟨g, 0, none⟩) m c')) w') : if Region.wanted o (yielded ops a.tmps) = true then Oper.wp Tryz.prog o a w K Q else E := by
  rw [if_pos (by simp [Region.wanted, hgd])]
  obtain ⟨v', w', hr, h2, h3, h4, h5⟩ := run_append_own_at (P := Tryz.prog) w w.heap.size t o.type e i z size bytes ht hi hz hsize hby hzs hsz (.slice none 0 0) 0 [] (World.ownsRow_nil _ _ _ _) ad m c news hl hnews h1 (by omega) (by rw [Nat.zero_add]; exact hbytes) (Nat.le_refl _)
  unfold Oper.wp execOp
  simp only [ho, resolve, invoke, builtin, Sem.run_bind, Sem.run_pure, Result.andThen_ok, List.map_toArray, List.map_cons, List.map_nil, hs, hx, hr]
  rw [Nat.zero_add, List.nil_append] at h2
  obtain ⟨g, cc, rfl⟩ := own_some h2 hm
  exact h g cc w' h2 h3 (h2.lt g rfl).1
/-- One more table. -/
theorem own_snoc {W W' : World} {B : Nat} {v v' : Value} {S : List OT} {o : OT} (h : Own W B v S) (ho : OtOwn W B o) (hd : (otBlocks o).Nodup) (hn : ∀ z ∈ otBlocks o, z ∉ v.ownBlock.toList ++ blocks S) (hg : W.grownBy W' v.ownBlock)
    (hi : W'.ownsRow B 53 3 v' (S.length + 1) (tabCells S ++ otCells o)) (hat : v'.ownBlock = v.ownBlock ∨ v'.ownBlock = some W.heap.size) : Own W' B v' (S ++ [o]) := by
  obtain ⟨h1, h2, h3⟩ := h
  have hbl := blocks_lt h2
  have hbo : ∀ z ∈ otBlocks o, z < W.heap.size := fun z hz => (blocks_lt (S := [o]) (fun x hx => by rw [List.mem_singleton.1 hx]; exact ho) z (by simpa [blocks] using hz)).2
  have hvb : ∀ z ∈ blocks S, v.ownBlock ≠ some z := by
    intro z hz e
    rw [List.nodup_append] at h3
    exact h3.2.2 z (by simp [e]) z hz rfl
  have hb : blocks (S ++ [o]) = blocks S ++ otBlocks o := by simp [blocks]
  refine ⟨?_, ?_, ?_⟩
  · rw [List.length_append, show tabCells (S ++ [o]) = tabCells S ++ otCells o by simp [tabCells]]
    exact hi
  · intro x hx
    rcases List.mem_append.1 hx with hx | hx
    · exact otOwn_kept (h2 x hx) hg (fun z hz => hvb z (List.mem_flatMap.2 ⟨x, hx, hz⟩))
    · rw [List.mem_singleton.1 hx]
      exact otOwn_kept ho hg (fun z hz e => hn z hz (List.mem_append.2 (Or.inl (by simp [e]))))
  · rw [hb, ← List.append_assoc]
    have hS : (v'.ownBlock.toList ++ blocks S).Nodup := by
      rcases hat with e | e
      · rw [e]; exact h3
      · rw [e, List.nodup_append]
        rw [List.nodup_append] at h3
        refine ⟨by simp, h3.2.1, fun x hx z hz e' => ?_⟩
        simp at hx
        have := (hbl z hz).2
        omega
    rw [List.nodup_append]
    refine ⟨hS, hd, fun x hx z hz e' => ?_⟩
    subst e'
    rcases List.mem_append.1 hx with hx | hx
    · rcases hat with e | e
      · exact hn x hz (List.mem_append.2 (Or.inl (by rw [← e]; exact hx)))
      · rw [e] at hx
        simp at hx
        have := hbo x hz
        omega
    · exact hn x hz (List.mem_append.2 (Or.inr hx))
end Go.Proofs.YtckkkdldljhehabGreat.Wd
