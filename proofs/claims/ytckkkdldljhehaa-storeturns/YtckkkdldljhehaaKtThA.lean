/- What within, has, OnlyOf and IsRow of package ninepinsref answer when called, in whatever world: the same plain answers as package store's. Conditions: of has, a part's number; of OnlyOf, a mask from 0 to 31. -/
import Derived.Test.YtckkkdldljhehaaPkB
import Derived.Deep.DeepCutAuto
namespace Go.Proofs.Ytckkkdldljhehaa.Th
open Go.Proofs.Ytckkkdldljhehaa.Num Go.Proofs.Ytckkkdldljhehaa.St
open Go.ChangeShapes Go.WideShapes Go.ChangeAt Go.RowKit

theorem hidT {p : Prop} (h : p) : Hid p := h
theorem within_any (n a b : Int) (w : World) :
    Calls Try.prog 69 #[.int .i64 n, .int .i64 a, .int .i64 b] w fun e w' => e = .returned (.bool (btw n a b)) ∧ w' = w := by
  go_enter Try.func69, Try.ntmps69
  go_wp2
  · go_ret
    exact ⟨ret_bool (by simp [btw]; omega), rfl⟩
  · go_ret
    exact ⟨ret_bool (by simp [btw]; omega), rfl⟩

/-- 'has': by halves. -/
def hasR (m p : Int) : Bool := (m.tdiv p).tmod 2 == 1
def masks : List Int := [0, 1, 2, 3, 4, 5, 6, 7, 8, 9, 10, 11, 12, 13, 14, 15, 16, 17, 18, 19, 20, 21, 22, 23, 24, 25, 26, 27, 28, 29, 30, 31]
theorem mem_masks {m : Int} (h : 0 ≤ m ∧ m ≤ 31) : m ∈ masks := by
  simp only [masks, List.mem_cons, List.not_mem_nil, or_false]
  omega
theorem hasR_all : ∀ m ∈ masks, (hasR m 1 = hasB m 1 ∧ hasR m 2 = hasB m 2 ∧ hasR m 4 = hasB m 4 ∧ hasR m 8 = hasB m 8 ∧ hasR m 16 = hasB m 16) := by decide +kernel
theorem hasR_eq {m : Int} (h : 0 ≤ m ∧ m ≤ 31) : hasR m 1 = hasB m 1 ∧ hasR m 2 = hasB m 2 ∧ hasR m 4 = hasB m 4 ∧ hasR m 8 = hasB m 8 ∧ hasR m 16 = hasB m 16 := hasR_all m (mem_masks h)
theorem has_any (m p : Int) (hm : -9223372036854775808 ≤ m ∧ m ≤ 9223372036854775807) (hp : 1 ≤ p ∧ p ≤ 16) (w : World) :
    Calls Try.prog 73 #[.int .i64 m, .int .i64 p] w fun e w' => e = .returned (.bool (hasR m p)) ∧ w' = w := by
  have h0 : (p == 0) = false := by simp; omega
  have h1 : p ≠ 0 := by omega
  have hq : -9223372036854775808 ≤ m.tdiv p ∧ m.tdiv p ≤ 9223372036854775807 := by
    have h2 := Int.natAbs_tdiv_le_natAbs m p
    have h3 : m = -9223372036854775808 ∨ m.natAbs ≤ 9223372036854775807 := by omega
    rcases h3 with rfl | h3
    · have : ((-9223372036854775808 : Int).tdiv p) ≤ 0 := by
        have := Int.tdiv_nonneg (a := 9223372036854775808) (b := p) (by omega) (by omega)
        rw [show (-9223372036854775808 : Int) = -(9223372036854775808) by rfl, Int.neg_tdiv]
        omega
      omega
    · omega
  go_enter Try.func73, Try.ntmps73
  go_wp2
  go_ret
  refine ⟨ret_bool ?_, rfl⟩
  unfold hasR
  congr 1

/-- What the mask has of a row, by halves. -/
def onlyH (m : Int) (f : R8) : R8 :=
  ⟨if hasR m 1 then f.x else 0, if hasR m 1 then f.y else 0, if hasR m 2 then f.px else 0, if hasR m 2 then f.py else 0,
   if hasR m 4 then f.wd else 0, if hasR m 4 then f.ht else 0, if hasR m 8 then f.ms else 0, if hasR m 8 then f.rr else 0⟩
theorem onlyH_eq {m : Int} (h : 0 ≤ m ∧ m ≤ 31) (f : R8) : onlyH m f = onlyR m f := by
  obtain ⟨h1, h2, h4, h8, _⟩ := hasR_eq h
  simp only [onlyH, onlyR, layR, zeroR, h1, h2, h4, h8]

set_option maxHeartbeats 4000000 in
theorem onlyOf_any (m : Int) (hm : -9223372036854775808 ≤ m ∧ m ≤ 9223372036854775807) (x y px py wd ht ms rr : Int) (w : World) :
    Calls Try.prog 29 #[.int .i64 m, .agg #[.int .i64 x, .int .i64 y, .int .i64 px, .int .i64 py, .int .i64 wd, .int .i64 ht, .int .i64 ms, .int .i64 rr]] w
      fun e w' => e = .returned (rowV (onlyH m ⟨x, y, px, py, wd, ht, ms, rr⟩)) ∧ Below w.heap.size w w' := by
  have HM := hidT hm
  clear hm
  unfold onlyH rowV
  cases h1 : hasR m 1 <;> cases h2 : hasR m 2 <;> cases h4 : hasR m 4 <;> cases h8 : hasR m 8
  all_goals
    simp only [if_true, if_false, Bool.false_eq_true]
    go_enter Try.func29, Try.ntmps29
    go_wp2_with (go_at_call 73; refine (has_any _ _ HM.out (by decide) _).mono ?_; rintro e w' ⟨rfl, rfl⟩)
    refine bodyPost_ret (by simp [results, Try.results29, go_sem]) rfl ⟨rfl, ?_⟩
    repeat (first | exact Below.refl _ _ | refine bal ?_ _ | refine Below.setCell ?_ (by simp) _)
end Go.Proofs.Ytckkkdldljhehaa.Th
