/- Tables of one's own: what it does to them when one list is appended to, when a row is written, and when a table is put among them. Plain lemmas on worlds, no walk. -/
import Derived.Test.YtckkkdldljhehaaStOwn
namespace Go.Proofs.Ytckkkdldljhehaa.St
open Go.Proofs.Ytckkkdldljhehaa.Num
open Go.ChangeShapes Go.WideShapes Go.ChangeAt Go.RowKit

theorem ob_slice (a : Option Addr) (n c : Nat) : (Value.slice a n c).ownBlock = a.map Addr.block := by cases a <;> rfl
/-- Where a slice lies that was made of another: in its row, or in a new one. -/
def Lies (w : World) (v v' : Value) : Prop := v'.ownBlock = v.ownBlock ∨ ∃ g, w.heap.size ≤ g ∧ v'.ownBlock = some g


theorem nodup_replace {P X X' Q : List Nat} (h : (P ++ X ++ Q).Nodup) (h1 : X'.Nodup) (h2 : ∀ x ∈ X', x ∉ P ∧ x ∉ Q) : (P ++ X' ++ Q).Nodup := by
  rw [List.append_assoc, List.nodup_append] at h ⊢
  obtain ⟨hP, hXQ, hd⟩ := h
  rw [List.nodup_append] at hXQ ⊢
  refine ⟨hP, ⟨h1, hXQ.2.1, fun x hx y hy e => (h2 x hx).2 (e ▸ hy)⟩, fun x hx y hy e => ?_⟩
  rcases List.mem_append.1 hy with hy | hy
  · exact (h2 y hy).1 (e ▸ hx)
  · exact hd x hx y (List.mem_append.2 (Or.inr hy)) e
theorem toList_nodup (o : Option Nat) : o.toList.Nodup := by cases o <;> simp
theorem owns_kept {w w' : World} {B size n : Nat} {e : TypeId} {v : Value} {xs : List Value} {row : Option Nat} (h : w.ownsRow B e size v n xs) (hg : w.grownBy w' row) (hne : ∀ g, v.ownBlock = some g → row ≠ some g) : w'.ownsRow B e size v n xs := by
  refine h.kept hg ?_
  cases hv : v.ownBlock with
  | none => exact Or.inl rfl
  | some g => exact Or.inr (fun e => hne g hv e.symm)
theorem otOwn_kept {w w' : World} {B : Nat} {o : OT} {row : Option Nat} (h : OtOwn w B o) (hg : w.grownBy w' row) (hne : ∀ g ∈ otBlocks o, row ≠ some g) : OtOwn w' B o :=
  ⟨owns_kept h.1 hg (fun g e => hne g (by simp [otBlocks, e])), owns_kept h.2 hg (fun g e => hne g (by simp [otBlocks, e]))⟩
theorem tabCells_mid (A C : List OT) (o : OT) : tabCells (A ++ o :: C) = tabCells A ++ (otCells o ++ tabCells C) := by simp [tabCells]
theorem blocks_mid (A C : List OT) (o : OT) : blocks (A ++ o :: C) = blocks A ++ (otBlocks o ++ blocks C) := by simp [blocks]

theorem own_ids {W w1 : World} {B g n c : Nat} {A C : List OT} {o : OT} {iv' : Value} {ids' : List Int} (h : Own W B (.slice (some ⟨g, 0, none⟩) n c) (A ++ o :: C)) (hn : n = (A ++ o :: C).length)
    (hg : W.grownBy w1 o.iv.ownBlock) (hi : w1.ownsRow B 3 1 iv' ids'.length (ids'.map (Value.int .i64))) (hl : Lies W o.iv iv') :
    Own (w1.setCell ⟨g, A.length * 3 + 1, none⟩ iv') B (.slice (some ⟨g, 0, none⟩) n c) (A ++ ⟨⟨o.t.mask, ids', o.t.rows⟩, iv', o.rv⟩ :: C) := by
  obtain ⟨h1, h2, h3⟩ := h
  have hgW := h1.lt g rfl
  have hbl := blocks_lt h2
  have hap : ((g :: blocks A) ++ o.iv.ownBlock.toList ++ (o.rv.ownBlock.toList ++ blocks C)).Nodup := by
    simpa [blocks_mid, otBlocks, Value.ownBlock] using h3
  have hnew : ∀ x ∈ iv'.ownBlock.toList, x ∉ (g :: blocks A) ∧ x ∉ (o.rv.ownBlock.toList ++ blocks C) := by
    intro x hx
    rcases hl with e | ⟨y, hy, e⟩
    · rw [e] at hx
      rw [List.append_assoc, List.nodup_append] at hap
      obtain ⟨_, hq, hd⟩ := hap
      rw [List.nodup_append] at hq
      exact ⟨fun hc => hd x hc x (List.mem_append.2 (Or.inl hx)) rfl, fun hc => hq.2.2 x hx x hc rfl⟩
    · rw [e] at hx
      simp at hx
      subst hx
      have hall : ∀ z ∈ blocks (A ++ o :: C), z < W.heap.size := fun z hz => (hbl z hz).2
      rw [blocks_mid] at hall
      refine ⟨fun hc => ?_, fun hc => ?_⟩
      · rcases List.mem_cons.1 hc with rfl | hc
        · omega
        · have := hall x (List.mem_append.2 (Or.inl hc)); omega
      · have : x ∈ otBlocks o ++ blocks C := by
          rcases List.mem_append.1 hc with hc | hc
          · exact List.mem_append.2 (Or.inl (by simp only [otBlocks, List.mem_append]; exact Or.inr hc))
          · exact List.mem_append.2 (Or.inr hc)
        have := hall x (List.mem_append.2 (Or.inr this)); omega
  have hrow : ∀ z, z ∈ (g :: blocks A) ∨ z ∈ (o.rv.ownBlock.toList ++ blocks C) → o.iv.ownBlock ≠ some z := by
    intro z hz e
    rw [List.append_assoc, List.nodup_append] at hap
    obtain ⟨_, hq, hd⟩ := hap
    rw [List.nodup_append] at hq
    have hzX : z ∈ o.iv.ownBlock.toList := by simp [e]
    rcases hz with hz | hz
    · exact hd z hz z (List.mem_append.2 (Or.inl hzX)) rfl
    · exact hq.2.2 z hzX z hz rfl
  have hgne : ∀ z ∈ blocks A ++ (o.rv.ownBlock.toList ++ blocks C), z ≠ g := by
    intro z hz e
    subst e
    have hh : (z :: blocks A ++ o.iv.ownBlock.toList ++ (o.rv.ownBlock.toList ++ blocks C)).Nodup := hap
    rw [List.cons_append, List.cons_append, List.nodup_cons] at hh
    apply hh.1
    rcases List.mem_append.1 hz with hz | hz
    · exact List.mem_append.2 (Or.inl (List.mem_append.2 (Or.inl hz)))
    · exact List.mem_append.2 (Or.inr hz)
  have hivg : iv'.ownBlock ≠ some g := fun e => (hnew g (by simp [e])).1 (List.mem_cons_self ..)
  refine ⟨?_, ?_, ?_⟩
  · have hx := owns_kept h1 hg (fun z hz => hrow z (Or.inl (by simp [Value.ownBlock] at hz; simp [hz])))
    rw [← hn] at hx
    have hs := (hx.stored (A.length * 3 + 1) iv').1
    have e : (tabCells (A ++ o :: C)).set (A.length * 3 + 1) iv' = tabCells (A ++ ⟨⟨o.t.mask, ids', o.t.rows⟩, iv', o.rv⟩ :: C) := by
      rw [tabCells_mid, tabCells_mid, set_app _ _ _ 1 _ (by rw [tabCells_length])]
      simp [otCells]
    rw [e] at hs
    simpa [hn] using hs
  · intro x hx
    rcases List.mem_append.1 hx with hx | hx
    · have hb : ∀ z ∈ otBlocks x, z ∈ blocks A := fun z hz => List.mem_flatMap.2 ⟨x, hx, hz⟩
      exact otOwn_set (otOwn_kept (h2 x (List.mem_append.2 (Or.inl hx))) hg (fun z hz => hrow z (Or.inl (List.mem_cons_of_mem _ (hb z hz))))) (fun hz => hgne g (List.mem_append.2 (Or.inl (hb g hz))) rfl) _ _
    · rcases List.mem_cons.1 hx with rfl | hx
      · have ho := h2 o (List.mem_append.2 (Or.inr (List.mem_cons_self ..)))
        refine ⟨owns_set hi hivg _ _, ?_⟩
        refine owns_set (owns_kept ho.2 hg (fun z hz => hrow z (Or.inr (by simp [hz])))) (fun e => ?_) _ _
        exact hgne g (List.mem_append.2 (Or.inr (List.mem_append.2 (Or.inl (by simp [e]))))) rfl
      · have hb : ∀ z ∈ otBlocks x, z ∈ blocks C := fun z hz => List.mem_flatMap.2 ⟨x, hx, hz⟩
        exact otOwn_set (otOwn_kept (h2 x (List.mem_append.2 (Or.inr (List.mem_cons_of_mem _ hx)))) hg (fun z hz => hrow z (Or.inr (List.mem_append.2 (Or.inr (hb z hz)))))) (fun hz => hgne g (List.mem_append.2 (Or.inr (List.mem_append.2 (Or.inr (hb g hz))))) rfl) _ _
  · have := nodup_replace hap (toList_nodup iv'.ownBlock) hnew
    simpa [blocks_mid, otBlocks, Value.ownBlock] using this
end Go.Proofs.Ytckkkdldljhehaa.St
