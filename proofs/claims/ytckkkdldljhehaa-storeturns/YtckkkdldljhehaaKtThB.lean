/- What IsRow of package ninepinsref answers when called, in whatever world: whether the row is good for the mask, as package store's GoodRow says. No conditions. -/
import Derived.Test.YtckkkdldljhehaaKtThA
import Derived.WalkSmall
namespace Go.Proofs.Ytckkkdldljhehaa.Th
open Go.Proofs.Ytckkkdldljhehaa.Num Go.Proofs.Ytckkkdldljhehaa.St
open Go.ChangeShapes Go.WideShapes Go.ChangeAt Go.RowKit

def p1B (m : Int) (r : R8) : Bool := !hasR m 1 || (btw r.x (-1048576) 1048576 && btw r.y (-1048576) 1048576)
def p2B (m : Int) (r : R8) : Bool := !hasR m 2 || (btw r.px (-16777216) 16777216 && btw r.py (-16777216) 16777216)
def p4B (m : Int) (r : R8) : Bool := !hasR m 4 || (btw r.wd 1 4096 && btw r.ht 1 4096)
def p8B (m : Int) (r : R8) : Bool := !hasR m 8 || (btw r.ms 1 9 && btw r.rr 0 256)
def isRowH (m : Int) (r : R8) : Bool := btw m 1 31 && (((p1B m r && p2B m r) && p4B m r) && p8B m r && eqR r (onlyH m r))
theorem eqR_iff (a b : R8) : eqR a b = true ↔ a = b := by
  obtain ⟨⟩ := a
  obtain ⟨⟩ := b
  simp [eqR, and_assoc]
theorem isRow_good (m : Int) (r : R8) : isRowH m r = goodRowB m r := by
  unfold isRowH goodRowB
  cases hb : btw m 1 31
  · rfl
  · have hm : 0 ≤ m ∧ m ≤ 31 := by simp [btw] at hb; omega
    rw [onlyH_eq hm]
    obtain ⟨h1, h2, h4, h8, _⟩ := hasR_eq hm
    unfold p1B p2B p4B p8B goodPartsB
    rw [h1, h2, h4, h8]
    simp only [Bool.true_and]
    cases he : eqR r (onlyR m r)
    · simp
    · have e := (eqR_iff _ _).1 he
      have ex : r.x = if hasB m 1 then r.x else 0 := congrArg R8.x e
      have ey : r.y = if hasB m 1 then r.y else 0 := congrArg R8.y e
      have epx : r.px = if hasB m 2 then r.px else 0 := congrArg R8.px e
      have epy : r.py = if hasB m 2 then r.py else 0 := congrArg R8.py e
      have err : r.rr = if hasB m 8 then r.rr else 0 := congrArg R8.rr e
      clear e he hb hm
      cases g1 : hasB m 1 <;> cases g2 : hasB m 2 <;> cases g4 : hasB m 4 <;> cases g8 : hasB m 8 <;> rw [g1] at ex ey <;> rw [g2] at epx epy <;> rw [g8] at err <;> simp only [Bool.false_eq_true, if_false, if_true] at ex ey epx epy err <;>
        (rw [Bool.eq_iff_iff]; simp [btw]; try omega)

set_option maxHeartbeats 4000000 in
set_option maxRecDepth 10000 in
theorem isRow_any (m : Int) (r : R8) (w : World) :
    Calls Try.prog 27 #[.int .i64 m, .agg #[.int .i64 r.x, .int .i64 r.y, .int .i64 r.px, .int .i64 r.py, .int .i64 r.wd, .int .i64 r.ht, .int .i64 r.ms, .int .i64 r.rr]] w
      fun e w' => e = .returned (.bool (isRowH m r)) ∧ Below w.heap.size w w' := by
  cases hb : btw m 1 31
  · go_enter Try.func27, Try.ntmps27
    go_wp2_with (go_at_call 69; refine (within_any _ _ _ _).mono ?_; rintro e w' ⟨rfl, rfl⟩)
    go_ret
    exact ⟨ret_bool (by simp [isRowH, hb]), bal (Below.refl _ _) _⟩
  · have HM : Hid (-9223372036854775808 ≤ m ∧ m ≤ 9223372036854775807) := hidT (by simp [btw] at hb; omega)
    have HBI : Hid (isRowH m r = (((p1B m r && p2B m r) && p4B m r) && p8B m r && eqR r (onlyH m r))) := hidT (by simp [isRowH, hb])
    have e30 := eq30
    have hO0 := onlyOf_any m HM.out r.x r.y r.px r.py r.wd r.ht r.ms r.rr
    have hOr : (⟨r.x, r.y, r.px, r.py, r.wd, r.ht, r.ms, r.rr⟩ : R8) = r := rfl
    rw [hOr] at hO0
    clear hOr
    generalize onlyH m r = ro at hO0 HBI
    obtain ⟨x', y', px', py', wd', ht', ms', rr'⟩ := ro
    have hO : Hid _ := hO0
    clear hO0
    unfold rowV at hO
    go_enter Try.func27, Try.ntmps27
    go_upto_if 10 with (first | (go_at_call 69; refine (within_any _ _ _ _).mono ?_; rintro e w' ⟨rfl, rfl⟩) | (go_at_call 73; refine (has_any _ _ HM.out (by decide) _).mono ?_; rintro e w' ⟨rfl, rfl⟩))
    go_cut [5] (fun s wx => s = .bool (p1B m r) ∧ wx = w.alloc (.cells #[.int .i64 r.x, .int .i64 r.y, .int .i64 r.px, .int .i64 r.py, .int .i64 r.wd, .int .i64 r.ht, .int .i64 r.ms, .int .i64 r.rr] 30))
    case first =>
      cases h : hasR m 1
      · go_wp2_with fail
        go_meet
        exact ⟨by simp [p1B, h], rfl⟩
      · go_wp2_with (go_at_call 69; refine (within_any _ _ _ _).mono ?_; rintro e w' ⟨rfl, rfl⟩)
        all_goals
          go_meet
          exact ⟨by simp_all [p1B], rfl⟩
    case rest =>
    obtain ⟨rfl, rfl⟩ := hcut
    go_upto_if 23 with (first | (go_at_call 73; refine (has_any _ _ HM.out (by decide) _).mono ?_; rintro e w' ⟨rfl, rfl⟩))
    go_cut [5] (fun s wx => s = .bool (p1B m r && p2B m r) ∧ wx = w.alloc (.cells #[.int .i64 r.x, .int .i64 r.y, .int .i64 r.px, .int .i64 r.py, .int .i64 r.wd, .int .i64 r.ht, .int .i64 r.ms, .int .i64 r.rr] 30))
    case first =>
      cases h : hasR m 2
      · go_wp2_with fail
        go_meet
        exact ⟨by simp [p2B, h], rfl⟩
      · go_wp2_with (go_at_call 69; refine (within_any _ _ _ _).mono ?_; rintro e w' ⟨rfl, rfl⟩)
        all_goals
          go_meet
          exact ⟨by simp_all [p2B], rfl⟩
    case rest =>
    obtain ⟨rfl, rfl⟩ := hcut
    go_upto_if 36 with (first | (go_at_call 73; refine (has_any _ _ HM.out (by decide) _).mono ?_; rintro e w' ⟨rfl, rfl⟩))
    go_cut [5] (fun s wx => s = .bool ((p1B m r && p2B m r) && p4B m r) ∧ wx = w.alloc (.cells #[.int .i64 r.x, .int .i64 r.y, .int .i64 r.px, .int .i64 r.py, .int .i64 r.wd, .int .i64 r.ht, .int .i64 r.ms, .int .i64 r.rr] 30))
    case first =>
      cases h : hasR m 4
      · go_wp2_with fail
        go_meet
        exact ⟨by simp [p4B, h], rfl⟩
      · go_wp2_with (go_at_call 69; refine (within_any _ _ _ _).mono ?_; rintro e w' ⟨rfl, rfl⟩)
        all_goals
          go_meet
          exact ⟨by simp_all [p4B], rfl⟩
    case rest =>
    obtain ⟨rfl, rfl⟩ := hcut
    go_upto_if 49 with (first | (go_at_call 73; refine (has_any _ _ HM.out (by decide) _).mono ?_; rintro e w' ⟨rfl, rfl⟩))
    go_cut [5] (fun s wx => s = .bool (((p1B m r && p2B m r) && p4B m r) && p8B m r) ∧ wx = w.alloc (.cells #[.int .i64 r.x, .int .i64 r.y, .int .i64 r.px, .int .i64 r.py, .int .i64 r.wd, .int .i64 r.ht, .int .i64 r.ms, .int .i64 r.rr] 30))
    case first =>
      cases h : hasR m 8
      · go_wp2_with fail
        go_meet
        exact ⟨by simp [p8B, h], rfl⟩
      · go_wp2_with (go_at_call 69; refine (within_any _ _ _ _).mono ?_; rintro e w' ⟨rfl, rfl⟩)
        all_goals
          go_meet
          exact ⟨by simp_all [p8B], rfl⟩
    case rest =>
    obtain ⟨rfl, rfl⟩ := hcut
    generalize (((p1B m r && p2B m r) && p4B m r) && p8B m r) = q at HBI ⊢
    cases q
    · go_wp2_with fail
      go_quiet (fail)
      go_wp2_with fail
      go_ret
      exact ⟨ret_bool (by rw [HBI.out]; rfl), below_drewN (bal (Below.refl _ _) _) _⟩
    · go_wp2_with fail
      first | go_region_with (first | (go_at_call 29; refine (hO.out _).mono ?_; rintro e w' ⟨rfl, hb⟩; obtain ⟨hc, hf⟩ := bcell hb; clear hf; have HB : Hid _ := hb; clear hb)) | fail
      all_goals
        go_wp2
        go_ret
        exact ⟨ret_bool (by rw [HBI.out]; rfl), bcall (Below.drew (bal (Below.refl _ _) _)) HB.out⟩
end Go.Proofs.Ytckkkdldljhehaa.Th
