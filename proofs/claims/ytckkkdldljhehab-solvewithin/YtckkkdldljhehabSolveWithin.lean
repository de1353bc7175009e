/- Proved: for all five numbers, SolveWithin returns true, and its arguments read as before. No conditions. -/
import Derived.Test.YtckkkdldljhehabSoH
import Derived.Test.YtckkkdldljhehabSoI
import Derived.WalkKit
import Derived.ProofKit
import Derived.OpenShut
import Derived.SizedLaws
namespace Go.Proofs.Ytckkkdldljhehab.solveWithin
open Go.ChangeShapes Go.WideShapes Go.ChangeAt Go.RowKit
open Num

theorem own : ownKnob Try.prog.godebug = none := by kernel_rfl

/-! ### The walk: the Go text returns true, and nothing that was in memory before has changed. -/
set_option maxHeartbeats 2000000 in
theorem walk (a0 : Int) (a1 : Int) (a2 : Int) (a3 : Int) (a4 : Int) (w : World) :
    Calls Try.prog 6 #[.int .i64 a0, .int .i64 a1, .int .i64 a2, .int .i64 a3, .int .i64 a4] w fun e w' => e = .returned (.bool true) ∧ Below w.heap.size w w' := by
  have hA := wi_le a0 268435456 (by omega)
  have hB := wi_le a4 268435456 (by omega)
  have hP := wi_le a1 16777216 (by omega)
  have hH := pk_le a2 4096 (by omega)
  have hW := pk_le a3 1048576 (by omega)
  have hL := left_le (wi a1 16777216) (wi a4 268435456) (by omega)
  have hab : (0 ≤ wi a1 16777216 ∧ ab (wi a1 16777216) ≤ wi a1 16777216) ∨ (wi a1 16777216 < 0 ∧ ab (wi a1 16777216) ≤ -wi a1 16777216) := by unfold ab; omega
  have hfar : (pk a2 4096 < pk a3 1048576 + 1 - pk a2 4096 ∧ max (pk a3 1048576 + 1 - pk a2 4096) (pk a2 4096) = pk a3 1048576 + 1 - pk a2 4096) ∨ (pk a3 1048576 + 1 - pk a2 4096 ≤ pk a2 4096 ∧ max (pk a3 1048576 + 1 - pk a2 4096) (pk a2 4096) = pk a2 4096) := by omega
  by_cases c1 : wi a0 268435456 < pk a2 4096
  · clear hfar
    have hfar : pk a2 4096 < pk a3 1048576 + 1 - pk a2 4096 ∨ pk a3 1048576 + 1 - pk a2 4096 ≤ pk a2 4096 := by omega
    rcases hab with ⟨s1, s2⟩ | ⟨s1, s2⟩ <;> rcases hfar with hfar | hfar
    all_goals
      go_enter Try.func6, Try.ntmps6
      go_wp2_with (first | (go_at_call 13; refine (pick_any _ _ (by omega) (by omega) _).mono ?_; rintro e w' ⟨rfl, rfl⟩) | (go_at_call 14; refine (within_any _ _ (by omega) (by omega) _).mono ?_; rintro e w' ⟨rfl, rfl⟩) | (go_at_call 15; refine (wall_lo _ _ _ _ _ (by omega) (by omega) (by omega) (by omega) (by omega) _).mono ?_; rintro e w' ⟨rfl, rfl⟩) | (go_at_call 9; refine (solves_any _).mono ?_; rintro e w' ⟨rfl, hb⟩))
      go_ret
      exact ⟨rfl, hb⟩
  by_cases c2 : max (pk a3 1048576 + 1 - pk a2 4096) (pk a2 4096) < wi a0 268435456
  · rcases hab with ⟨s1, s2⟩ | ⟨s1, s2⟩ <;> rcases hfar with ⟨hf, hm⟩ | ⟨hf, hm⟩
    all_goals
      have HM := (show Hid _ from hm)
      have c3 := c2
      rw [hm] at c3
      clear hm c2
      go_enter Try.func6, Try.ntmps6
      go_wp2_with (first | (go_at_call 13; refine (pick_any _ _ (by omega) (by omega) _).mono ?_; rintro e w' ⟨rfl, rfl⟩) | (go_at_call 14; refine (within_any _ _ (by omega) (by omega) _).mono ?_; rintro e w' ⟨rfl, rfl⟩) | (go_at_call 15; refine (wall_hi _ _ _ _ _ _ (by omega) (by omega) (by omega) (by omega) HM.out (by omega) _).mono ?_; rintro e w' ⟨rfl, rfl⟩) | (go_at_call 9; refine (solves_any _).mono ?_; rintro e w' ⟨rfl, hb⟩))
      go_ret
      exact ⟨rfl, hb⟩
  · rcases hfar with ⟨hf, hm⟩ | ⟨hf, hm⟩
    all_goals
      have c3 : wi a0 268435456 ≤ _ := Int.not_lt.1 c2
      rw [hm] at c3
      clear hm c2 hab
      go_enter Try.func6, Try.ntmps6
      go_wp2_with (first | (go_at_call 13; refine (pick_any _ _ (by omega) (by omega) _).mono ?_; rintro e w' ⟨rfl, rfl⟩) | (go_at_call 14; refine (within_any _ _ (by omega) (by omega) _).mono ?_; rintro e w' ⟨rfl, rfl⟩) | (go_at_call 15; refine (wall_in _ _ _ _ _ (by omega) (by omega) (by omega) (by omega) (by omega) (by omega) _).mono ?_; rintro e w' ⟨rfl, rfl⟩) | (go_at_call 9; refine (solves_any _).mono ?_; rintro e w' ⟨rfl, hb⟩))
      go_ret
      exact ⟨rfl, hb⟩

set_option maxRecDepth 100000 in
theorem lifted (os : Os) (started : os.Started) (H : Type) (enc : TypeId × Value → H) :
    ReturnsInHanded {} Try.checked os 6 .any (Rows.solveWithinSpec.pre6 enc Try.prog Try.f6 Rows.solveWithinRow.domain false) (Rows.solveWithinSpec.post enc Try.prog Try.f6 false true false false) := by
  refine returnsInHanded_of_change (C := Try.checked) own started (by kernel_rfl) Try.func6
    (ChangeSpec.witness6 (enc := enc) (C := Try.checked) false ⟨#[], #[.int .i64 0, .int .i64 0, .int .i64 0, .int .i64 0, .int .i64 0], []⟩ 8 (by kernel_rfl) (by kernel_rfl) (by kernel_rfl) (by kernel_rfl)) ?_
  intro W base args ds gs before hval0 hW _ _
  have hval : ∀ (j : Nat) t v, Try.f6.params[j]? = some t → args[j]? = some v → Value.okWide Try.prog W .any base t v := hval0
  have hW' := hW
  obtain ⟨p, q, hA0, hV, rfl, _, _⟩ := hW
  have hA : DataW.TrodAll enc Try.prog W 0 (fun _ => true) true Try.f6.params.toList args.toList ds p := hA0
  rw [Try.params6] at hA hval
  obtain ⟨v0, vs0, d0, ds0, p0, q0, hargs, rfl, rfl, h0, r0⟩ := trodAll_cons hA
  obtain ⟨v1, vs1, d1, ds1, p1, q1, rfl, rfl, rfl, h1, r1⟩ := trodAll_cons r0
  obtain ⟨v2, vs2, d2, ds2, p2, q2, rfl, rfl, rfl, h2, r2⟩ := trodAll_cons r1
  obtain ⟨v3, vs3, d3, ds3, p3, q3, rfl, rfl, rfl, h3, r3⟩ := trodAll_cons r2
  obtain ⟨v4, vs4, d4, ds4, p4, q4, rfl, rfl, rfl, h4, r4⟩ := trodAll_cons r3
  obtain ⟨rfl, rfl, rfl⟩ := trodAll_nil r4
  obtain rfl : args = #[v0, v1, v2, v3, v4] := by cases args; simp_all
  obtain ⟨rfl, rfl⟩ := trodVars_none hV
  obtain ⟨a0, rfl, rfl, rfl, w0⟩ := open_int Try.underlying3 (hval 0 3 v0 rfl rfl) h0
  obtain ⟨a1, rfl, rfl, rfl, w1⟩ := open_int Try.underlying3 (hval 1 3 v1 rfl rfl) h1
  obtain ⟨a2, rfl, rfl, rfl, w2⟩ := open_int Try.underlying3 (hval 2 3 v2 rfl rfl) h2
  obtain ⟨a3, rfl, rfl, rfl, w3⟩ := open_int Try.underlying3 (hval 3 3 v3 rfl rfl) h3
  obtain ⟨a4, rfl, rfl, rfl, w4⟩ := open_int Try.underlying3 (hval 4 3 v4 rfl rfl) h4
  simp only [List.append_nil] at hW'
  refine (walk a0 a1 a2 a3 a4 W).mono fun e W' ⟨he, hb⟩ => ?_
  subst he
  refine ⟨_, rfl, _, _, _, [], [], [], hW', ?_, ?_, rfl, hb.frame _, fun h => by cases h⟩
  · exact trodAll_cons_mk (shut_bool Try.underlying4 _) trodAll_mk0
  · exact (trodAll_cons_mk (shut_int Try.underlying3 w0) (trodAll_cons_mk (shut_int Try.underlying3 w1) (trodAll_cons_mk (shut_int Try.underlying3 w2) (trodAll_cons_mk (shut_int Try.underlying3 w3) (trodAll_cons_mk (shut_int Try.underlying3 w4) trodAll_mk0)))))

theorem over : Rows.solveWithinRow.holds Try.pinned (OpenSpec.ofChange Rows.solveWithinSpec) :=
  OpenClaim.holds_of_wide 6 Try.f6 rfl rfl rfl rfl rfl rfl rfl ⟨rfl, rfl, rfl, rfl, rfl⟩ rfl rfl rfl rfl rfl (by kernel_rfl) Try.func6 (by kernel_rfl)
    (of_decide_eq_true (by kernel_rfl)) (by unfold Func.isWrapper; first | (rw [if_pos (by decide +kernel)]; kernel_rfl) | (rw [if_neg (by decide +kernel)]; exact ⟨rfl, rfl⟩))
    (fun os started H enc _ => lifted os started H enc)

theorem proved : Rows.SolveWithinSaid :=
  over
#print axioms proved
end Go.Proofs.Ytckkkdldljhehab.solveWithin
namespace Go.Proofs.Ytckkkdldljhehab
theorem solveWithin_holds : Rows.SolveWithinSaid := solveWithin.proved
end Go.Proofs.Ytckkkdldljhehab
