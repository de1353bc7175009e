/- Tables of one's own: what it does to them when a list of rows is appended to or written, and when a table is put among them. Plain lemmas on worlds, no walk. -/
import Derived.Test.YtckkkdldljhehaaStOwn2
namespace Go.Proofs.Ytckkkdldljhehaa.St
open Go.Proofs.Ytckkkdldljhehaa.Num
open Go.ChangeShapes Go.WideShapes Go.ChangeAt Go.RowKit

theorem own_rows {W w1 : World} {B g n c : Nat} {A C : List OT} {o : OT} {rv' : Value} {rows' : List R8} (h : Own W B (.slice (some ⟨g, 0, none⟩) n c) (A ++ o :: C)) (hn : n = (A ++ o :: C).length)
    (hg : W.grownBy w1 o.rv.ownBlock) (hi : w1.ownsRow B 30 8 rv' rows'.length (rows'.flatMap rowCells)) (hl : Lies W o.rv rv') :
    Own (w1.setCell ⟨g, A.length * 3 + 2, none⟩ rv') B (.slice (some ⟨g, 0, none⟩) n c) (A ++ ⟨⟨o.t.mask, o.t.ids, rows'⟩, o.iv, rv'⟩ :: C) := by
  obtain ⟨h1, h2, h3⟩ := h
  have hgW := h1.lt g rfl
  have hbl := blocks_lt h2
  have hap : ((g :: blocks A ++ o.iv.ownBlock.toList) ++ o.rv.ownBlock.toList ++ blocks C).Nodup := by
    simpa [blocks_mid, otBlocks, Value.ownBlock] using h3
  have hall : ∀ z ∈ (g :: blocks A ++ o.iv.ownBlock.toList) ++ (o.rv.ownBlock.toList ++ blocks C), z < W.heap.size := by
    intro z hz
    have : z = g ∨ z ∈ blocks (A ++ o :: C) := by
      rw [blocks_mid, otBlocks]
      simp only [List.mem_append, List.mem_cons] at hz ⊢
      rcases hz with ((hz | hz) | hz) | (hz | hz)
      · exact Or.inl hz
      · exact Or.inr (Or.inl hz)
      · exact Or.inr (Or.inr (Or.inl (Or.inl hz)))
      · exact Or.inr (Or.inr (Or.inl (Or.inr hz)))
      · exact Or.inr (Or.inr (Or.inr hz))
    rcases this with rfl | hz
    · exact hgW.2
    · exact (hbl z hz).2
  have hnew : ∀ x ∈ rv'.ownBlock.toList, x ∉ (g :: blocks A ++ o.iv.ownBlock.toList) ∧ x ∉ blocks C := by
    intro x hx
    rcases hl with e | ⟨y, hy, e⟩
    · rw [e] at hx
      rw [List.append_assoc, List.nodup_append] at hap
      obtain ⟨_, hq, hd⟩ := hap
      rw [List.nodup_append] at hq
      exact ⟨fun hc => hd x hc x (List.mem_append.2 (Or.inl hx)) rfl, fun hc => hq.2.2 x hx x hc rfl⟩
    · rw [e] at hx
      simp at hx
      subst hx
      refine ⟨fun hc => ?_, fun hc => ?_⟩
      · have := hall x (List.mem_append.2 (Or.inl hc)); omega
      · have := hall x (List.mem_append.2 (Or.inr (List.mem_append.2 (Or.inr hc)))); omega
  have hrow : ∀ z, z ∈ (g :: blocks A ++ o.iv.ownBlock.toList) ∨ z ∈ blocks C → o.rv.ownBlock ≠ some z := by
    intro z hz e
    rw [List.append_assoc, List.nodup_append] at hap
    obtain ⟨_, hq, hd⟩ := hap
    rw [List.nodup_append] at hq
    have hzX : z ∈ o.rv.ownBlock.toList := by simp [e]
    rcases hz with hz | hz
    · exact hd z hz z (List.mem_append.2 (Or.inl hzX)) rfl
    · exact hq.2.2 z hzX z hz rfl
  have hgne : ∀ z ∈ blocks A ++ (o.iv.ownBlock.toList ++ blocks C), z ≠ g := by
    intro z hz e
    subst e
    have hh : (z :: (blocks A ++ o.iv.ownBlock.toList ++ o.rv.ownBlock.toList ++ blocks C)).Nodup := by simpa using hap
    rw [List.nodup_cons] at hh
    apply hh.1
    simp only [List.mem_append] at hz ⊢
    rcases hz with hz | hz | hz
    · exact Or.inl (Or.inl (Or.inl hz))
    · exact Or.inl (Or.inl (Or.inr hz))
    · exact Or.inr hz
  have hivg : rv'.ownBlock ≠ some g := fun e => (hnew g (by simp [e])).1 (by simp)
  refine ⟨?_, ?_, ?_⟩
  · have hx := owns_kept h1 hg (fun z hz => hrow z (Or.inl (by simp [Value.ownBlock] at hz; simp [hz])))
    rw [← hn] at hx
    have hs := (hx.stored (A.length * 3 + 2) rv').1
    have e : (tabCells (A ++ o :: C)).set (A.length * 3 + 2) rv' = tabCells (A ++ ⟨⟨o.t.mask, o.t.ids, rows'⟩, o.iv, rv'⟩ :: C) := by
      rw [tabCells_mid, tabCells_mid, set_app _ _ _ 2 _ (by rw [tabCells_length])]
      simp [otCells]
    rw [e] at hs
    simpa [hn] using hs
  · intro x hx
    rcases List.mem_append.1 hx with hx | hx
    · have hb : ∀ z ∈ otBlocks x, z ∈ blocks A := fun z hz => List.mem_flatMap.2 ⟨x, hx, hz⟩
      exact otOwn_set (otOwn_kept (h2 x (List.mem_append.2 (Or.inl hx))) hg (fun z hz => hrow z (Or.inl (by simp [hb z hz])))) (fun hz => hgne g (List.mem_append.2 (Or.inl (hb g hz))) rfl) _ _
    · rcases List.mem_cons.1 hx with rfl | hx
      · have ho := h2 o (List.mem_append.2 (Or.inr (List.mem_cons_self ..)))
        refine ⟨?_, owns_set hi hivg _ _⟩
        refine owns_set (owns_kept ho.1 hg (fun z hz => hrow z (Or.inl (by simp [hz])))) (fun e => ?_) _ _
        exact hgne g (List.mem_append.2 (Or.inr (List.mem_append.2 (Or.inl (by simp [e]))))) rfl
      · have hb : ∀ z ∈ otBlocks x, z ∈ blocks C := fun z hz => List.mem_flatMap.2 ⟨x, hx, hz⟩
        exact otOwn_set (otOwn_kept (h2 x (List.mem_append.2 (Or.inr (List.mem_cons_of_mem _ hx)))) hg (fun z hz => hrow z (Or.inr (hb z hz)))) (fun hz => hgne g (List.mem_append.2 (Or.inr (List.mem_append.2 (Or.inr (hb g hz))))) rfl) _ _
  · have := nodup_replace hap (toList_nodup rv'.ownBlock) hnew
    simpa [blocks_mid, otBlocks, Value.ownBlock] using this

theorem own_insert {W w1 : World} {B : Nat} {v v' : Value} {A C : List OT} {m : Int} (h : Own W B v (A ++ C)) (hg : W.grownBy w1 v.ownBlock)
    (hi : w1.ownsRow B 66 3 v' ((A ++ C).length + 1) (tabCells A ++ ([.int .i64 m, .slice none 0 0, .slice none 0 0] ++ tabCells C))) (hl : Lies W v v') :
    Own w1 B v' (A ++ ⟨⟨m, [], []⟩, .slice none 0 0, .slice none 0 0⟩ :: C) := by
  obtain ⟨h1, h2, h3⟩ := h
  have hbl := blocks_lt h2
  have hb : blocks (A ++ ⟨⟨m, [], []⟩, .slice none 0 0, .slice none 0 0⟩ :: C) = blocks (A ++ C) := by simp [blocks, otBlocks, Value.ownBlock]
  have hvb : ∀ z ∈ blocks (A ++ C), v.ownBlock ≠ some z := by
    intro z hz e
    rw [List.nodup_append] at h3
    exact h3.2.2 z (by simp [e]) z hz rfl
  refine ⟨?_, ?_, ?_⟩
  · rw [tabCells_mid]
    simpa [otCells, Nat.add_assoc] using hi
  · intro x hx
    have hold : ∀ y ∈ A ++ C, OtOwn w1 B y := fun y hy => otOwn_kept (h2 y hy) hg (fun z hz => hvb z (List.mem_flatMap.2 ⟨y, hy, hz⟩))
    rcases List.mem_append.1 hx with hx | hx
    · exact hold x (List.mem_append.2 (Or.inl hx))
    · rcases List.mem_cons.1 hx with rfl | hx
      · exact ⟨⟨by simp, Or.inl ⟨rfl, rfl⟩⟩, ⟨by simp, Or.inl ⟨rfl, rfl⟩⟩⟩
      · exact hold x (List.mem_append.2 (Or.inr hx))
  · rw [hb]
    rcases hl with e | ⟨y, hy, e⟩
    · rw [e]; exact h3
    · rw [e, List.nodup_append]
      rw [List.nodup_append] at h3
      refine ⟨by simp, h3.2.1, fun x hx z hz e' => ?_⟩
      simp at hx
      have := (hbl z hz).2
      omega
theorem Own.below {w w' : World} {B : Nat} {v : Value} {S : List OT} (h : Own w B v S) (hb : Below w.heap.size w w') : Own w' B v S :=
  ⟨owns_below h.1 hb, fun o ho => otOwn_below (h.2.1 o ho) hb, h.2.2⟩
theorem Own.set {w : World} {B : Nat} {v : Value} {S : List OT} (h : Own w B v S) {b : Nat} (hb : b < B) (j : Nat) (u : Value) : Own (w.setCell ⟨b, j, none⟩ u) B v S := by
  have hlt := blocks_lt h.2.1
  refine ⟨owns_set h.1 (fun e => by have := h.1.lt b e; omega) j u, fun o ho => otOwn_set (h.2.1 o ho) (fun hz => ?_) j u, h.2.2⟩
  have := hlt b (List.mem_flatMap.2 ⟨o, ho, hz⟩)
  omega
/-- A store into a block that is none of theirs. -/
theorem Own.set' {w : World} {B : Nat} {v : Value} {S : List OT} (h : Own w B v S) {b : Nat} (hb : b ∉ v.ownBlock.toList ++ blocks S) (j : Nat) (u : Value) : Own (w.setCell ⟨b, j, none⟩ u) B v S := by
  refine ⟨owns_set h.1 (fun e => hb (by simp [e])) j u, fun o ho => otOwn_set (h.2.1 o ho) (fun hz => ?_) j u, h.2.2⟩
  exact hb (List.mem_append.2 (Or.inr (List.mem_flatMap.2 ⟨o, ho, hz⟩)))
theorem Own.lt {w : World} {B : Nat} {v : Value} {S : List OT} (h : Own w B v S) : ∀ b ∈ v.ownBlock.toList ++ blocks S, B ≤ b ∧ b < w.heap.size := by
  intro b hb
  rcases List.mem_append.1 hb with hb | hb
  · exact h.1.lt b (by simpa using hb)
  · exact blocks_lt h.2.1 b hb
theorem Own.cell {w : World} {B g n c : Nat} {A C : List OT} {o : OT} (h : Own w B (.slice (some ⟨g, 0, none⟩) n c) (A ++ o :: C)) (hn : n = (A ++ o :: C).length) :
    w.cell? ⟨g, A.length * 3, none⟩ = some (.int .i64 o.t.mask) ∧ w.cell? ⟨g, A.length * 3 + 1, none⟩ = some o.iv ∧ w.cell? ⟨g, A.length * 3 + 2, none⟩ = some o.rv := by
  have hx := h.1
  rw [← hn, tabCells_mid] at hx
  have hl := tabCells_length A
  have hn' : A.length < n := by rw [hn]; simp
  refine ⟨?_, ?_, ?_⟩
  · rw [hx.cellAt _ (by omega), List.getElem?_append_right (by omega), hl]; simp [otCells]
  · rw [hx.cellAt _ (by omega), List.getElem?_append_right (by omega), hl, show A.length * 3 + 1 - A.length * 3 = 1 by omega]; simp [otCells]
  · rw [hx.cellAt _ (by omega), List.getElem?_append_right (by omega), hl, show A.length * 3 + 2 - A.length * 3 = 2 by omega]; simp [otCells]
theorem Own.frozen {w : World} {B g n c : Nat} {S : List OT} (h : Own w B (.slice (some ⟨g, 0, none⟩) n c) S) (hn : n = S.length) (j : Nat) : w.frozen? ⟨g, j, none⟩ = false := by
  have hx := h.1
  rw [← hn] at hx
  exact hx.frozenAt j
end Go.Proofs.Ytckkkdldljhehaa.St
