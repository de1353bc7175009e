/- What slices.DeleteFunc answers over boxes of one's own, nil or not; pairs, boxed boxes. Toward the contract of Pairs. -/
import Derived.Test.YtckkkdldljhehaaKtSwH
namespace Go.Proofs.Ytckkkdldljhehaa.Sw
open Go.ChangeShapes Go.WideShapes Go.ChangeAt Go.RowKit Go.Sort Go.Shelf Go.Lib

theorem deleteB_nil (B : Nat) (bx : Int) (w : World) (hB : B < w.heap.size) (hb : w.cell? ⟨B, 1, none⟩ = some (.int .i64 bx)) :
    Calls Try.prog 86 #[.slice none 0 0, .func (.func 87) #[] #[.pointer (some ⟨B, 0, none⟩)]] w fun e w' => e = .returned (.slice none 0 0) ∧ RowKit.Below w.heap.size w w' := by
  have HI := hid (indexB_any none 0 0 B [] bx w rfl (by omega) (fun h => absurd h (Nat.lt_irrefl _)) hB hb)
  clear hb
  go_enter Try.func86, Try.ntmps86
  go_wp2_with fail
  refine HI.out.mono ?_
  rintro e w1 ⟨⟨r, rfl, hr⟩, h1⟩
  have H1 := hid h1
  clear h1
  rcases hr with ⟨rfl, _⟩ | ⟨k, _, ⟨x, hx, _⟩, _⟩
  · go_wp2_with fail
    go_ret
    exact ⟨rfl, H1.out⟩
  · simp at hx
theorem owns_slice {w : World} {B size n : Nat} {e : TypeId} {v : Value} {xs : List Value} (h : w.ownsRow B e size v n xs) : ∃ a c, v = .slice a n c ∧ (0 < n → ∃ g, a = some ⟨g, 0, none⟩) := by
  rcases h.2 with ⟨rfl, rfl⟩ | ⟨g, c, cur, rfl, _⟩
  · exact ⟨none, 0, rfl, fun h => absurd h (Nat.lt_irrefl _)⟩
  · exact ⟨_, c, rfl, fun _ => ⟨g, rfl⟩⟩
theorem deleteB_call (base n B : Nat) (v : Value) (O : List B5) (bx : Int) (w : World) (hn : n = O.length) (hz : n ≤ 1000000000) (hown : w.ownsRow base 70 5 v n (O.flatMap boxCells)) (hB : B < w.heap.size) (hBg : v.ownBlock ≠ some B) (hb : w.cell? ⟨B, 1, none⟩ = some (.int .i64 bx)) :
    Calls Try.prog 86 #[v, .func (.func 87) #[] #[.pointer (some ⟨B, 0, none⟩)]] w fun e w' =>
      (∃ a c, e = .returned (.slice a (strikeX O bx).length c) ∧ w'.ownsRow base 70 5 (.slice a (strikeX O bx).length c) (strikeX O bx).length ((strikeX O bx).flatMap boxCells)) ∧ w.grownBy w' v.ownBlock := by
  rcases hown.2 with ⟨rfl, h0⟩ | ⟨g, c, cur, rfl, _⟩
  · refine (deleteB_nil B bx w hB hb).mono ?_
    rintro e w' ⟨rfl, h1⟩
    have hl0 : O = [] := List.length_eq_zero_iff.1 (by omega)
    subst hl0
    exact ⟨⟨none, 0, rfl, ⟨rfl, Or.inl ⟨rfl, rfl⟩⟩⟩, h1.os, h1.tape, h1.output, h1.size, fun k hk _ => h1.block k hk⟩
  · refine (deleteB_row base g n c B O bx w hn hz hown hB (fun e => hBg (by rw [e]; rfl)) hb).mono ?_
    rintro e w' ⟨⟨v', rfl, h1, h2⟩, h3⟩
    obtain ⟨a, c', rfl, _⟩ := owns_slice h1
    exact ⟨⟨a, c', rfl, h1⟩, h3⟩

def prI (a b : Int) : Int × Int := (if a ≤ b then a else b, if a ≤ b then b else a)
theorem pairI_any (a b : Int) (w : World) :
    Calls Try.prog 88 #[.int .i64 a, .int .i64 b] w fun e w' => e = .returned (.agg #[.int .i64 (prI a b).1, .int .i64 (prI a b).2]) ∧ RowKit.Below w.heap.size w w' := pair_any a b w

/-- A box in a variable of its own, seen as a row of one. -/
theorem owns_box (w : World) (x : B5) (base : Nat) (hb : base ≤ w.heap.size) : (w.alloc (.cells #[.int .i64 x.id, .int .i64 x.x1, .int .i64 x.y1, .int .i64 x.x2, .int .i64 x.y2] 70)).ownsRow base 70 5 (.slice (some ⟨w.heap.size, 0, none⟩) 1 1) 1 (boxCells x) :=
  ⟨rfl, Or.inr ⟨w.heap.size, 1, #[.int .i64 x.id, .int .i64 x.x1, .int .i64 x.y1, .int .i64 x.x2, .int .i64 x.y2], rfl, hb, by first | (simp; done) | exact Array.getElem?_push_size, Nat.le_refl _, by decide, rfl, rfl⟩⟩
theorem box_one {w : World} {B g c : Nat} {x : B5} (h : w.ownsRow B 70 5 (.slice (some ⟨g, 0, none⟩) 1 c) 1 (boxCells x)) :
    w.cell? ⟨g, 0, none⟩ = some (.int .i64 x.id) ∧ w.cell? ⟨g, 1, none⟩ = some (.int .i64 x.x1) ∧ w.cell? ⟨g, 2, none⟩ = some (.int .i64 x.y1) ∧
    w.cell? ⟨g, 3, none⟩ = some (.int .i64 x.x2) ∧ w.cell? ⟨g, 4, none⟩ = some (.int .i64 x.y2) :=
  ⟨h.cellAt 0 (by omega), h.cellAt 1 (by omega), h.cellAt 2 (by omega), h.cellAt 3 (by omega), h.cellAt 4 (by omega)⟩
/-- Rows of different kinds lie apart. -/
theorem apart_kind {w : World} {B B' s s' n n' : Nat} {e e' : TypeId} {v v' : Value} {xs xs' : List Value} (h : w.ownsRow B e s v n xs) (h' : w.ownsRow B' e' s' v' n' xs') (hne : e ≠ e') : ∀ g, v.ownBlock = some g → v'.ownBlock ≠ some g := by
  intro g hg hg'
  rcases h.2 with ⟨rfl, _⟩ | ⟨g1, c1, cur1, rfl, _, hb1, _⟩
  · cases hg
  · rcases h'.2 with ⟨rfl, _⟩ | ⟨g2, c2, cur2, rfl, _, hb2, _⟩
    · cases hg'
    · simp [Value.ownBlock] at hg hg'
      subst hg hg'
      rw [hb1] at hb2
      cases hb2
      exact hne rfl
end Go.Proofs.Ytckkkdldljhehaa.Sw
