/- What pick of package ninepinskeep answers; boxes told in another order have the same pairs; two boxes exchanged. -/
import Derived.Test.YtckkkdldljhehaaSwM
namespace Go.Proofs.Ytckkkdldljhehaa.Sw
open Go.ChangeShapes Go.WideShapes Go.ChangeAt Go.RowKit Go.Sort Go.Shelf Go.Lib

theorem tmod_bounds (k m : Int) (hm : 0 < m) : -m < Int.tmod k m ∧ Int.tmod k m < m := by
  exact ⟨Int.lt_tmod_of_pos k hm, Int.tmod_lt_of_pos k hm⟩
set_option maxHeartbeats 1000000 in
theorem pick_any (k m : Int) (w : World) (hm : 0 < m) (hm2 : m ≤ 1000000000) :
    Calls Try.prog 45 #[.int .i64 k, .int .i64 m] w fun e w' => (∃ r : Nat, e = .returned (.int .i64 r) ∧ (r : Int) < m) ∧ w' = w := by
  obtain ⟨h1, h2⟩ := tmod_bounds k m hm
  have hm0 : m ≠ 0 := by omega
  go_enter Try.func45, Try.ntmps45
  by_cases h : Int.tmod k m < 0
  · go_wp2
    go_ret
    exact ⟨⟨(Int.tmod k m + m).toNat, ret_int (by omega), by omega⟩, rfl⟩
  · go_wp2
    go_ret
    exact ⟨⟨(Int.tmod k m).toNat, ret_int (by omega), by omega⟩, rfl⟩

theorem sortI_eq {l l' : List Int} (h : l.Perm l') : sortI l = sortI l' := by
  have hs : ∀ l : List Int, (sortI l).Pairwise (fun x y => decide (x ≤ y) = true) := fun l => List.pairwise_mergeSort (le := fun x y => decide (x ≤ y))
    (fun a b c h1 h2 => by simp at *; omega) (fun a b => by simp; omega) l
  refine List.Perm.eq_of_pairwise (le := fun x y => decide (x ≤ y) = true) ?_ (hs l) (hs l') ((List.mergeSort_perm l _).trans (h.trans (List.mergeSort_perm l' _).symm))
  intro a b _ _ ha hb
  simp at ha hb
  omega
theorem goodB_perm {l l' : List B5} (h : l.Perm l') : goodB l = goodB l' := by
  unfold goodB oneB
  rw [sortI_eq (h.map (·.id)), h.length_eq]
  congr 1
  rw [Bool.eq_iff_iff]
  simp only [List.all_eq_true]
  exact ⟨fun hh x hx => hh x (h.mem_iff.2 hx), fun hh x hx => hh x (h.mem_iff.1 hx)⟩
theorem pairsG_perm {l l' : List B5} (h : l.Perm l') : pairsG l = pairsG l' := by
  unfold pairsG
  rw [goodB_perm h, sortP_eq (pairsOf_perm h)]
/-- Two that stand side by side, exchanged. -/
theorem swap_perm {l : List B5} {k : Nat} {x y : B5} (hx : l[k]? = some x) (hy : l[k + 1]? = some y) : ((l.set k y).set (k + 1) x).Perm l := by
  induction l generalizing k with
  | nil => simp at hx
  | cons a l ih =>
    cases k with
    | zero =>
      cases l with
      | nil => simp at hy
      | cons b l =>
        simp at hx hy
        subst hx hy
        exact List.Perm.swap _ _ _
    | succ k =>
      simp only [List.set_cons_succ]
      exact List.Perm.cons _ (ih (by simpa using hx) (by simpa using hy))
theorem neqOf {n : Nat} {P : Program} {w : World} {t : TypeId} {xs ys : Array Value} (h : n = 10000) {v : Bool} (e : (Op.equalIn n t (.agg xs) (.agg ys)).run P w = .ok v w) :
    (binOp .neq t (.agg xs) (.agg ys)).run P w = .ok (.bool (!v)) w := by
  subst h
  rw [run_neq_struct, e]
  rfl
theorem neq79 (x y x' y' : Int) (w : World) :
    (binOp .neq 79 (.agg #[.int .i64 x, .int .i64 y]) (.agg #[.int .i64 x', .int .i64 y'])).run Try.prog w = .ok (.bool (!(x == x' && y == y'))) w :=
  neqOf (n := 9998 + 2) rfl (eq79n 9998 _ _ _ _ w)
end Go.Proofs.Ytckkkdldljhehaa.Sw
