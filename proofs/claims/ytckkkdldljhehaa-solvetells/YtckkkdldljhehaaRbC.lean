/- What the moving function of MeetRows of package ninepinsref does when called with two pointers into one row: the two cells hold the sums within bounds, and no other block has changed. Conditions: the row is not frozen, the numbers are within bounds, the way is 1 or -1. -/
import Derived.Test.YtckkkdldljhehaaRbA
namespace Go.Proofs.Ytckkkdldljhehaa
open Go.ChangeShapes Go.WideShapes Go.ChangeAt Go.RowKit
open Num

set_option maxHeartbeats 2000000 in
theorem moveX_any (u p far kick way : Int) (g gw : Nat) (f : Nat → Value) (w : World) (hf : -8192 ≤ far ∧ far ≤ 8192) (hw : way = 1 ∨ way = -1)
    (r : w.rowIs g 30 8 f) (fi : f 0 = .int .i64 u) (fj : f 2 = .int .i64 p) (hc : w.cell? ⟨gw, 0, none⟩ = some (.int .i64 way)) :
    Calls Try.prog 98 #[.pointer (some ⟨g, 0, none⟩), .pointer (some ⟨g, 2, none⟩), .int .i64 far, .int .i64 kick, .pointer (some ⟨gw, 0, none⟩)] w
      fun e w' => e = .returned (.tuple #[]) ∧ w'.rowIs g 30 8 (fun k => if k = 2 then .int .i64 (ad p kick 16777216) else if k = 0 then .int .i64 (ad u (far * way) 1048576) else f k) ∧ Kept g g w w' := by
  have ci := r.cell (i := 0) (by omega)
  have qi := r.frozen 0
  have cj := r.cell (i := 2) (by omega)
  have lg := r.lt
  rw [fi] at ci
  rw [fj] at cj
  have R : Hid (w.rowIs g 30 8 f) := r
  have hm : -8192 ≤ far * way ∧ far * way ≤ 8192 := by rcases hw with rfl | rfl <;> omega
  clear r fi hw
  have R1 : Hid (((w.setCell ⟨g, 0, none⟩ (.int .i64 (ad u (far * way) 1048576))).drew).rowIs g 30 8 (fun k => if k = 0 then .int .i64 (ad u (far * way) 1048576) else f k)) := (R.out.set 0 _).drew
  have K1 : Hid (Kept g g w ((w.setCell ⟨g, 0, none⟩ (.int .i64 (ad u (far * way) 1048576))).drew)) := ((Kept.refl g g w).setA 0 _).trans (Kept.of (Below.drew (Below.refl _ _)))
  have FJ : Hid (f 2 = .int .i64 p) := fj
  clear fj
  go_enter Try.func98, Try.ntmps98
  go_wp2_with fail
  go_region_with (first | (go_at_call 19; refine (addOf_any _ _ _ (by decide) (by decide) _).mono ?_; rintro e w' ⟨rfl, rfl⟩))
  all_goals
    go_wp2_with fail
    generalize (w.setCell ⟨g, 0, none⟩ (.int .i64 (ad u (far * way) 1048576))).drew = W at *
    have qj := R1.out.frozen 2
    have cj' := R1.out.cell (i := 2) (by omega)
    simp only [show ¬ (2 : Nat) = 0 from by decide, if_false, FJ.out] at cj'
    clear ci qi cj hc
    refine (addOf_any p kick 16777216 (by decide) (by decide) _).mono ?_
    rintro e w' ⟨rfl, rfl⟩
    go_wp2
    exact bodyPost_end (by simp [results, Try.results98, go_sem]) rfl ⟨rfl, R1.out.set 2 _, K1.out.setA 2 _⟩

set_option maxHeartbeats 2000000 in
theorem moveY_any (u p far kick way : Int) (g gw : Nat) (f : Nat → Value) (w : World) (hf : -8192 ≤ far ∧ far ≤ 8192) (hw : way = 1 ∨ way = -1)
    (r : w.rowIs g 30 8 f) (fi : f 1 = .int .i64 u) (fj : f 3 = .int .i64 p) (hc : w.cell? ⟨gw, 0, none⟩ = some (.int .i64 way)) :
    Calls Try.prog 98 #[.pointer (some ⟨g, 1, none⟩), .pointer (some ⟨g, 3, none⟩), .int .i64 far, .int .i64 kick, .pointer (some ⟨gw, 0, none⟩)] w
      fun e w' => e = .returned (.tuple #[]) ∧ w'.rowIs g 30 8 (fun k => if k = 3 then .int .i64 (ad p kick 16777216) else if k = 1 then .int .i64 (ad u (far * way) 1048576) else f k) ∧ Kept g g w w' := by
  have ci := r.cell (i := 1) (by omega)
  have qi := r.frozen 1
  have cj := r.cell (i := 3) (by omega)
  have lg := r.lt
  rw [fi] at ci
  rw [fj] at cj
  have R : Hid (w.rowIs g 30 8 f) := r
  have hm : -8192 ≤ far * way ∧ far * way ≤ 8192 := by rcases hw with rfl | rfl <;> omega
  clear r fi hw
  have R1 : Hid (((w.setCell ⟨g, 1, none⟩ (.int .i64 (ad u (far * way) 1048576))).drew).rowIs g 30 8 (fun k => if k = 1 then .int .i64 (ad u (far * way) 1048576) else f k)) := (R.out.set 1 _).drew
  have K1 : Hid (Kept g g w ((w.setCell ⟨g, 1, none⟩ (.int .i64 (ad u (far * way) 1048576))).drew)) := ((Kept.refl g g w).setA 1 _).trans (Kept.of (Below.drew (Below.refl _ _)))
  have FJ : Hid (f 3 = .int .i64 p) := fj
  clear fj
  go_enter Try.func98, Try.ntmps98
  go_wp2_with fail
  go_region_with (first | (go_at_call 19; refine (addOf_any _ _ _ (by decide) (by decide) _).mono ?_; rintro e w' ⟨rfl, rfl⟩))
  all_goals
    go_wp2_with fail
    generalize (w.setCell ⟨g, 1, none⟩ (.int .i64 (ad u (far * way) 1048576))).drew = W at *
    have qj := R1.out.frozen 3
    have cj' := R1.out.cell (i := 3) (by omega)
    simp only [show ¬ (3 : Nat) = 1 from by decide, if_false, FJ.out] at cj'
    clear ci qi cj hc
    refine (addOf_any p kick 16777216 (by decide) (by decide) _).mono ?_
    rintro e w' ⟨rfl, rfl⟩
    go_wp2
    exact bodyPost_end (by simp [results, Try.results98, go_sem]) rfl ⟨rfl, R1.out.set 3 _, K1.out.setA 3 _⟩
end Go.Proofs.Ytckkkdldljhehaa
