/- What slices.IndexFunc answers when called over boxes in memory with sweep's own question: where the first one stands that ends ahead; nothing that was in memory before has changed. -/
import Derived.Test.YtckkkdldljhehaaKtSwE
namespace Go.Proofs.Ytckkkdldljhehaa.Sw
open Go.ChangeShapes Go.WideShapes Go.ChangeAt Go.RowKit Go.Sort Go.Shelf Go.Lib

/-- The first of a list that ends at bx or ahead of it; -1: none. -/
def FirstIs (O : List B5) (bx : Int) (r : Int) : Prop :=
  (r = -1 ∧ ∀ (i : Nat) (x : B5), O[i]? = some x → bx < x.x2) ∨ ∃ k : Nat, r = k ∧ (∃ x : B5, O[k]? = some x ∧ x.x2 ≤ bx) ∧ ∀ (i : Nat) (x : B5), i < k → O[i]? = some x → bx < x.x2

set_option maxHeartbeats 1000000 in
set_option maxRecDepth 100000 in
theorem indexB_any (a : Option Addr) (n cap B : Nat) (O : List B5) (bx : Int) (w : World) (hn : n = O.length) (hz : n ≤ 4611686018427387903) (hO : BoxL w a O) (hB : B < w.heap.size) (hb : w.cell? ⟨B, 1, none⟩ = some (.int .i64 bx)) :
    Calls Try.prog 114 #[.slice a n cap, .func (.func 87) #[] #[.pointer (some ⟨B, 0, none⟩)]] w fun e w' => (∃ r, e = .returned (.int .i64 r) ∧ FirstIs O bx r) ∧ RowKit.Below w.heap.size w w' := by
  have HO := hid hO
  have HN := hid hn
  clear hO hn
  go_enter Try.func114, Try.ntmps114
  go_wp2_with fail
  go_loopw [8] (fun i wr => ∃ k : Nat, k ≤ n ∧ i = .int .i64 k ∧ Hid (RowKit.Below w.heap.size w wr) ∧ Hid (∀ (i : Nat) (x : B5), i < k → O[i]? = some x → bx < x.x2)) (fun i _ => n - (intOf i).toNat)
  case atStart => exact ⟨0, Nat.zero_le _, rfl, hid (Below.refl _ _), hid (fun i x h => absurd h (Nat.not_lt_zero _))⟩
  case round =>
    obtain ⟨k, hk, rfl, hbl, hno⟩ := hrel
    by_cases hlt : k < n
    · obtain ⟨x, hx⟩ : ∃ x, O[k]? = some x := ⟨_, List.getElem?_eq_getElem (by have := HN.out; omega)⟩
      obtain ⟨b, off, rfl, hbb, hc⟩ := HO.out (by have := HN.out; omega)
      obtain ⟨c0, c1, c2, c3, c4⟩ := hc k x hx
      have kk := fun o => hbl.out.cell (p := ⟨b, o, none⟩) hbb
      rw [← kk] at c0 c1 c2 c3 c4
      clear hc kk
      have HX := hid hx
      clear hx
      obtain ⟨xi, xx1, xy1, xx2, xy2⟩ := x
      simp only at c0 c1 c2 c3 c4
      have HE := hid (ends_any xi xx1 xy1 xx2 xy2 bx B wr (by have := hbl.out.size; omega) ((hbl.out.cell (p := ⟨B, 1, none⟩) hB).trans hb))
      by_cases he : xx2 ≤ bx
      · rw [decide_eq_true he] at HE
        go_wp2_with (go_at_call 87; refine HE.out.mono ?_; rintro e w1 ⟨rfl, h1⟩; have H1 := hid h1; clear h1)
        go_ret
        exact ⟨⟨_, rfl, Or.inr ⟨k, rfl, ⟨_, HX.out, he⟩, hno.out⟩⟩, bcall hbl.out H1.out⟩
      · rw [decide_eq_false he] at HE
        go_wp2_with (go_at_call 87; refine HE.out.mono ?_; rintro e w1 ⟨rfl, h1⟩; have H1 := hid h1; clear h1)
        go_roundw
        case rel =>
          refine ⟨k + 1, by omega, by go_num, hid (bcall hbl.out H1.out), hid (fun i x hi hx => ?_)⟩
          by_cases e : i = k
          · subst e
            rw [HX.out] at hx
            cases hx
            show bx < xx2
            omega
          · exact hno.out i x (by omega) hx
        case measure => simp [intOf]; omega
    · go_wp2_with fail
      go_ret
      refine ⟨⟨-1, rfl, Or.inl ⟨rfl, fun i x hi => hno.out i x ?_ hi⟩⟩, hbl.out⟩
      have h1 := (List.getElem?_eq_some_iff.1 hi).1
      have := HN.out
      omega
end Go.Proofs.Ytckkkdldljhehaa.Sw
