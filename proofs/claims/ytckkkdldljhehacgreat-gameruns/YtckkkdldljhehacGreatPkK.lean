/- Part of the proofs of GamePlays and GameRuns (package ninepinslaw): contracts of the functions that they call. -/
import Derived.Deep.RegionHeld3
import Derived.Sort.Row
import Derived.Sort.Grow
import Derived.Test.YtckkkdldljhehacGreatPkF
namespace Go.Proofs.YtckkkdldljhehacGreat
namespace Sw
open Go.ChangeShapes Go.WideShapes Go.ChangeAt Go.RowKit Go.Sort
def orI (x y : Int) : Int := if x ≠ 0 then x else y
theorem or2_new (W : World) (x y : Int) (b : Nat) (hb : b = W.heap.size) :
  Calls Tryz.prog 142 #[.slice (some ⟨b, 0, none⟩) 2 2] (W.alloc (.cells #[.int .i64 x, .int .i64 y] 3)).drew fun e w' => e = .returned (.int .i64 (orI x y)) ∧ w' = (W.alloc (.cells #[.int .i64 x, .int .i64 y] 3)).drew := by
 subst hb
 exact or2_any _ 0 2 x y _ (by simp) (by simp)
theorem grow3 (w : World) (a b c : Obj) : (((w.alloc a).alloc b).alloc c).drew = grow (w.drewN 1) (#[a] ++ #[b] ++ #[c]) := by
 rw [alloc_eq_grow, alloc_eq_grow, grow_grow, alloc_eq_grow, grow_grow]
 rfl
set_option maxHeartbeats 2000000 in
set_option maxRecDepth 100000 in
theorem cmpP_any (x1 x2 y1 y2 : Int) (w : World) :
  Calls Tryz.prog 141 #[.agg #[.int .i64 x1, .int .i64 x2], .agg #[.int .i64 y1, .int .i64 y2]] w fun e w' => e = .returned (.int .i64 (cmpP (x1, x2) (y1, y2))) ∧ ∃ q os', w' = grow (w.drewN q) os' := by
 have hc : Hid (cmpP (x1, x2) (y1, y2) = orI (cmpI x1 y1) (cmpI x2 y2)) := rfl
 generalize cmpP (x1, x2) (y1, y2) = c at hc ⊢
 go_enter Tryz.func141, Tryz.ntmps141
 go_wp2_with fail
 go_region_held3 (fun W' => W'.cell? ⟨w.heap.size, 0, none⟩ = some (.int .i64 x1) ∧ W'.cell? ⟨w.heap.size, 1, none⟩ = some (.int .i64 x2) ∧ W'.cell? ⟨w.heap.size + 1, 0, none⟩ = some (.int .i64 y1) ∧ W'.cell? ⟨w.heap.size + 1, 1, none⟩ = some (.int .i64 y2)) (first | (go_keep; done))
  (first | (go_at_call 111; refine (compare_any _ _ _).mono ?_; rintro e w' ⟨rfl, rfl⟩) | (go_at_call 142; refine (or2_new _ _ _ _ (by simp)).mono ?_; rintro e w' ⟨rfl, rfl⟩))
 go_wp2
 go_ret
 exact ⟨ret_int hc.out.symm, 1, _, grow3 _ _ _ _⟩
set_option maxHeartbeats 2000000 in
set_option maxRecDepth 100000 in
theorem cmpB_any (i x1 y1 x2 y2 i' x1' y1' x2' y2' : Int) (w : World) :
  Calls Tryz.prog 159 #[.agg #[.int .i64 i, .int .i64 x1, .int .i64 y1, .int .i64 x2, .int .i64 y2], .agg #[.int .i64 i', .int .i64 x1', .int .i64 y1', .int .i64 x2', .int .i64 y2']] w fun e w' => e = .returned (.int .i64 (cmpB ⟨i, x1, y1, x2, y2⟩ ⟨i', x1', y1', x2', y2'⟩)) ∧ ∃ q os', w' = grow (w.drewN q) os' := by
 have hc : Hid (cmpB ⟨i, x1, y1, x2, y2⟩ ⟨i', x1', y1', x2', y2'⟩ = orI (cmpI x1 x1') (cmpI i i')) := rfl
 generalize cmpB ⟨i, x1, y1, x2, y2⟩ ⟨i', x1', y1', x2', y2'⟩ = c at hc ⊢
 go_enter Tryz.func159, Tryz.ntmps159
 go_wp2_with fail
 go_region_held3 (fun W' => W'.cell? ⟨w.heap.size, 1, none⟩ = some (.int .i64 x1) ∧ W'.cell? ⟨w.heap.size + 1, 1, none⟩ = some (.int .i64 x1') ∧ W'.cell? ⟨w.heap.size, 0, none⟩ = some (.int .i64 i) ∧ W'.cell? ⟨w.heap.size + 1, 0, none⟩ = some (.int .i64 i')) (first | (go_keep; done))
  (first | (go_at_call 111; refine (compare_any _ _ _).mono ?_; rintro e w' ⟨rfl, rfl⟩) | (go_at_call 142; refine (or2_new _ _ _ _ (by simp)).mono ?_; rintro e w' ⟨rfl, rfl⟩))
 go_wp2
 go_ret
 exact ⟨ret_int hc.out.symm, 1, _, grow3 _ _ _ _⟩
set_option maxHeartbeats 1000000 in
theorem ends_any (i x1 y1 x2 y2 bx : Int) (B : Nat) (w : World) (hB : B < w.heap.size) (hb : w.cell? ⟨B, 1, none⟩ = some (.int .i64 bx)) :
  Calls Tryz.prog 138 #[.agg #[.int .i64 i, .int .i64 x1, .int .i64 y1, .int .i64 x2, .int .i64 y2], .pointer (some ⟨B, 0, none⟩)] w fun e w' => e = .returned (.bool (decide (x2 ≤ bx))) ∧ Below w.heap.size w w' := by
 have hne : B ≠ w.heap.size := by omega
 go_enter Tryz.func138, Tryz.ntmps138
 go_wp2
 all_goals
  go_ret
  exact ⟨rfl, bal (Below.refl _ _) _⟩
end Sw
end Go.Proofs.YtckkkdldljhehacGreat
