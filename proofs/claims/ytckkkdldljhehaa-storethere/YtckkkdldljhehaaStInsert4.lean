/- What slices.Insert answers when called over tables of one's own with one table more, at any place: what putIn asks of it. -/
import Derived.Test.YtckkkdldljhehaaStInsert3
namespace Go.Proofs.Ytckkkdldljhehaa.St
open Go.Proofs.Ytckkkdldljhehaa.Num
open Go.ChangeShapes Go.WideShapes Go.ChangeAt Go.RowKit

theorem grown_none {w w' : World} (h : w.grownBy w' none) (o : Option Nat) : w.grownBy w' o := ⟨h.os, h.tape, h.output, h.size, fun k hk _ => h.block k hk (by simp)⟩

theorem insertAt_any (a : Option Addr) (n c B : Nat) (A C : List OT) (m : Int) (hn : n = (A ++ C).length) (hz : n ≤ 1000) : InsertAt a n c B A C m := by
  cases C with
  | nil => exact insertAt_end a n c B A m (by simpa using hn) hz
  | cons o C =>
    intro W vb hB hvb hne hown hv h1
    have hlt : A.length < n := by rw [hn]; simp
    obtain ⟨g, c', e⟩ := own_some hown (by omega)
    cases e
    have hc : n ≤ c ∧ c ≤ maxLen := by
      rcases hown.2 with ⟨e, h0⟩ | ⟨g, c', _, e, _, _, h1, h2, _⟩
      · cases e
      · cases e; exact ⟨h1, h2⟩
    have hl3 : (tabCells A).length = A.length * 3 := tabCells_length A
    have e1 : (tabCells A ++ tabCells (o :: C)).take (A.length * 3) = tabCells A := by rw [← hl3, List.take_left']; rfl
    have e2 : (tabCells A ++ tabCells (o :: C)).drop (A.length * 3) = tabCells (o :: C) := by rw [← hl3, List.drop_left']; rfl
    by_cases hr : n + 1 ≤ c
    · refine (insert_shift g n c A.length vb m B _ W hlt hr hc.2 (fun e => hne g rfl e.symm) hown hv h1).mono ?_
      rintro e w' ⟨rfl, h2, h3⟩
      rw [e1, e2] at h2
      exact ⟨_, rfl, h2, h3, Or.inl rfl⟩
    · refine (insert_grow g n c A.length vb m B _ W (by omega) hlt hc.1 (by omega) hvb hown ⟨by simp [World.cell?, hv], by simp [World.cell?, hv], by simp [World.cell?, hv]⟩ h1).mono ?_
      rintro e w' ⟨G, rfl, h2, h3⟩
      rw [e1, e2] at h2
      exact ⟨_, rfl, owns_mono h2 hB, grown_none (grown_of_below h3) _, Or.inr ⟨_, Nat.le_refl _, rfl⟩⟩
end Go.Proofs.Ytckkkdldljhehaa.St
