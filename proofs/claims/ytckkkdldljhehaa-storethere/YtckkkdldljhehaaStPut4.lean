/- What putIn of package store answers when called over tables of one's own whose masks rise: the tables with the thing more, put in as the plain function here puts it. What slices.Insert answers is asked as a premise where a table must come. -/
import Derived.Test.YtckkkdldljhehaaStPut3
import Derived.Test.YtckkkdldljhehaaStPlain
namespace Go.Proofs.Ytckkkdldljhehaa.St
open Go.Proofs.Ytckkkdldljhehaa.Num
open Go.ChangeShapes Go.WideShapes Go.ChangeAt Go.RowKit

def putT (m id : Int) (r : R8) : List Tab → List Tab
  | [] => [⟨m, [id], [r]⟩]
  | t :: L => if t.mask < m then t :: putT m id r L else if t.mask = m then ⟨m, t.ids ++ [id], t.rows ++ [r]⟩ :: L else ⟨m, [id], [r]⟩ :: t :: L
theorem putT_left (m id : Int) (r : R8) (A C : List Tab) (h : ∀ t ∈ A, t.mask < m) : putT m id r (A ++ C) = A ++ putT m id r C := by
  induction A with
  | nil => rfl
  | cons t A ih =>
    simp only [List.cons_append, putT]
    rw [if_pos (h t (List.mem_cons_self ..)), ih (fun x hx => h x (List.mem_cons_of_mem _ hx))]
theorem all_cons {p : OT → Prop} {o : OT} {A : List OT} (h : p o) (hA : ∀ x ∈ A, p x) : ∀ x ∈ o :: A, p x := by
  intro x hx
  rcases List.mem_cons.1 hx with rfl | hx
  · exact h
  · exact hA x hx
theorem split_mask (S : List OT) (m : Int) (h : Rising S) : (∃ A o C, S = A ++ o :: C ∧ o.t.mask = m ∧ ∀ x ∈ A, x.t.mask < m) ∨ ∃ A C, S = A ++ C ∧ (∀ x ∈ A, x.t.mask < m) ∧ ∀ x ∈ C, m < x.t.mask := by
  induction S with
  | nil => exact Or.inr ⟨[], [], rfl, by simp, by simp⟩
  | cons o S ih =>
    have hp := List.pairwise_cons.1 h
    rcases Int.lt_trichotomy o.t.mask m with hlt | heq | hgt
    · rcases ih hp.2 with ⟨A, o', C, rfl, he, hA⟩ | ⟨A, C, rfl, hA, hC⟩
      · exact Or.inl ⟨o :: A, o', C, rfl, he, all_cons hlt hA⟩
      · exact Or.inr ⟨o :: A, C, rfl, all_cons hlt hA, hC⟩
    · exact Or.inl ⟨[], o, S, rfl, heq, by simp⟩
    · exact Or.inr ⟨[], o :: S, rfl, by simp, all_cons hgt (fun x hx => Int.lt_trans hgt (hp.1 x hx))⟩

theorem putIn_any (a : Option Addr) (n c : Nat) (next id m : Int) (B : Nat) (S : List OT) (r : R8) (w : World) (hN : n = S.length) (hB : B ≤ w.heap.size) (hz : n ≤ 1000) (hl : ∀ o ∈ S, o.t.ids.length ≤ 1000 ∧ o.t.rows.length ≤ 1000)
    (hown : Own w B (.slice a n c) S) (hris : Rising S) (hins : ∀ A C, S = A ++ C → (∀ x ∈ A, x.t.mask < m) → (∀ x ∈ C, m < x.t.mask) → InsertAt a n c B A C m) :
    Calls Try.prog 81 #[.agg #[.slice a n c, .int .i64 next], .int .i64 m, .int .i64 id, .agg #[.int .i64 r.x, .int .i64 r.y, .int .i64 r.px, .int .i64 r.py, .int .i64 r.wd, .int .i64 r.ht, .int .i64 r.ms, .int .i64 r.rr]] w fun e w' =>
      (∃ v, e = .returned (.agg #[v, .int .i64 next]) ∧ ∃ S', Own w' B v S' ∧ S'.map (·.t) = putT m id r (S.map (·.t))) ∧ Below B w w' ∧ Keep w w' := by
  rcases split_mask S m hris with ⟨A, o, C, rfl, rfl, hA⟩ | ⟨A, C, rfl, hA, hC⟩
  · obtain ⟨g, c', e⟩ := own_some (B := B) (size := 3) (e := 66) (xs := tabCells (A ++ o :: C)) (w := w) (n := n) (v := .slice a n c) (by have := hown.1; rw [← hN] at this; exact this) (by rw [hN, List.length_append, List.length_cons]; omega)
    cases e
    have ho := hl o (by simp)
    refine (putIn_found g n c next id B A C o r w hN hB hz ho.1 ho.2 hown hris).mono ?_
    rintro e w' ⟨⟨v, rfl, iv, rv, h⟩, hb⟩
    refine ⟨⟨v, rfl, _, h, ?_⟩, hb⟩
    rw [List.map_append, List.map_append, putT_left _ _ _ _ _ (by simpa using hA)]
    simp [putT]
  · refine (putIn_new a n c next id m B A C r w hN hB hz hown hris hA hC (hins A C rfl hA hC)).mono ?_
    rintro e w' ⟨⟨v, rfl, iv, rv, h⟩, hb⟩
    refine ⟨⟨v, rfl, _, h, ?_⟩, hb⟩
    rw [List.map_append, List.map_append, putT_left _ _ _ _ _ (by simpa using hA)]
    congr 1
    cases C with
    | nil => simp [putT]
    | cons o C =>
      have := hC o (List.mem_cons_self ..)
      simp only [List.map_cons, putT]
      rw [if_neg (by omega), if_neg (by omega)]
/-- At the end slices.Insert answers what is asked. -/
theorem insertAt_end (a : Option Addr) (n c B : Nat) (A : List OT) (m : Int) (hn : n = A.length) (hz : n ≤ 1000) : InsertAt a n c B A [] m := by
  intro W vb hB _ _ hown hv _
  have hc : n ≤ c ∧ c ≤ maxLen := by
    rcases hown.2 with ⟨e, h0⟩ | ⟨g, c', _, e, _, _, h1, h2, _⟩
    · cases e; exact ⟨by omega, by unfold maxLen; omega⟩
    · cases e; exact ⟨h1, h2⟩
  rw [← hn]
  have h0 : tabCells ([] : List OT) = [] := rfl
  rw [h0, List.append_nil] at hown ⊢
  exact insert_end a n c vb m B (tabCells A) W (by omega) hc.1 hc.2 hB hown ⟨by simp [World.cell?, hv], by simp [World.cell?, hv], by simp [World.cell?, hv]⟩
end Go.Proofs.Ytckkkdldljhehaa.St
