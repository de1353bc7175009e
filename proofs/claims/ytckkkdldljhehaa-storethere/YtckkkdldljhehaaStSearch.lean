/- What slices.BinarySearchFunc answers when called over tables of one's own with putIn's comparison: where the mask stands, or would stand, among masks that rise; nothing that was in memory before has changed. -/
import Derived.Test.YtckkkdldljhehaaStOwn
namespace Go.Proofs.Ytckkkdldljhehaa.St
open Go.Proofs.Ytckkkdldljhehaa.Num
open Go.ChangeShapes Go.WideShapes Go.ChangeAt Go.RowKit

theorem hidS {p : Prop} (h : p) : Hid p := h
def cmpI (a b : Int) : Int := if a < b then -1 else if b < a then 1 else 0

set_option maxHeartbeats 400000 in
theorem isNaN_any (a : Int) (w : World) : Calls Try.prog 116 #[.int .i64 a] w fun e w' => e = .returned (.bool false) ∧ w' = w := by
  go_enter Try.func116, Try.ntmps116
  go_wp2
  go_ret
  exact ⟨ret_bool (by simp), rfl⟩

set_option maxHeartbeats 400000 in
theorem compare_any (a b : Int) (w : World) : Calls Try.prog 92 #[.int .i64 a, .int .i64 b] w fun e w' => e = .returned (.int .i64 (cmpI a b)) ∧ w' = w := by
  go_enter Try.func92, Try.ntmps92
  go_wp2_with (go_at_call 116; refine (isNaN_any _ _).mono ?_; rintro e w' ⟨rfl, rfl⟩)
  all_goals
    go_ret
    exact ⟨ret_int (by unfold cmpI; omega), rfl⟩

set_option maxHeartbeats 400000 in
theorem cmp_any (m t : Int) (v u : Value) (w : World) :
    Calls Try.prog 108 #[.agg #[.int .i64 m, v, u], .int .i64 t] w fun e w' => e = .returned (.int .i64 (cmpI m t)) ∧ Below w.heap.size w w' := by
  go_enter Try.func108, Try.ntmps108
  go_wp2_with (go_at_call 92; refine (compare_any _ _ _).mono ?_; rintro e w' ⟨rfl, rfl⟩)
  go_ret
  exact ⟨rfl, bal (Below.refl _ _) _⟩

set_option maxHeartbeats 1000000 in
set_option maxRecDepth 100000 in
theorem search_any (b off n cap : Nat) (m : Int) (M : Nat → Int) (IV RV : Nat → Value) (w : World) (hn : n ≤ 4611686018427387903) (hb : b < w.heap.size)
    (hc : ∀ i, i < n → w.cell? ⟨b, off + i * 3, none⟩ = some (.int .i64 (M i)) ∧ w.cell? ⟨b, off + i * 3 + 1, none⟩ = some (IV i) ∧ w.cell? ⟨b, off + i * 3 + 2, none⟩ = some (RV i)) (hs : ∀ i j, i < j → j < n → M i < M j) :
    Calls Try.prog 107 #[.slice (some ⟨b, off, none⟩) n cap, .int .i64 m, .func (.func 108) #[] #[]] w fun e w' =>
      (∃ i : Nat, e = .returned (.tuple #[.int .i64 i, .bool (decide (i < n ∧ M i = m))]) ∧ i ≤ n ∧ (∀ q, q < i → M q < m) ∧ ∀ q, i ≤ q → q < n → m ≤ M q) ∧ Below w.heap.size w w' := by
  have HC : Hid (∀ i, i < n → w.cell? ⟨b, off + i * 3, none⟩ = some (.int .i64 (M i)) ∧ w.cell? ⟨b, off + i * 3 + 1, none⟩ = some (IV i) ∧ w.cell? ⟨b, off + i * 3 + 2, none⟩ = some (RV i)) := hc
  have HS : Hid (∀ i j, i < j → j < n → M i < M j) := hs
  clear hc hs
  go_enter Try.func107, Try.ntmps107
  go_wp2_with fail
  go_loopw [9, 10] (fun i j wr => ∃ p q : Nat, p ≤ q ∧ q ≤ n ∧ i = .int .i64 p ∧ j = .int .i64 q ∧ Hid (∀ x, x < p → M x < m) ∧ Hid (∀ x, q ≤ x → x < n → m ≤ M x) ∧ Hid (Below w.heap.size w wr)) (fun i j _ => (intOf j - intOf i).toNat)
  case atStart => exact ⟨0, n, Nat.zero_le _, Nat.le_refl _, rfl, rfl, fun x hx => absurd hx (Nat.not_lt_zero _), fun x h1 h2 => by omega, Below.refl _ _⟩
  case round =>
    obtain ⟨p, q, hpq, hqn, rfl, rfl, h1, h2, hbl⟩ := hrel
    have hzb : b < wr.heap.size := by have := hbl.out.size; omega
    by_cases hlt : p < q
    · obtain ⟨c0, c1, c2⟩ := HC.out ((p + q) / 2) (by omega)
      rw [← hbl.out.cell (by exact hb)] at c0 c1 c2
      by_cases hm : M ((p + q) / 2) < m
      · have hcm : cmpI (M ((p + q) / 2)) m < 0 := by unfold cmpI; omega
        have HM := hidS hm
        clear hm
        go_wp2_with (go_at_call 108; refine (cmp_any _ _ _ _ _).mono ?_; rintro e w2 ⟨rfl, hb2⟩)
        go_roundw
        case rel =>
          refine ⟨(p + q) / 2 + 1, q, by omega, hqn, by go_num, rfl, fun x hx => ?_, h2.out, bcall hbl.out hb2⟩
          by_cases e : x = (p + q) / 2
          · rw [e]; exact HM.out
          · have := HS.out x ((p + q) / 2) (by omega) (by omega)
            have := HM.out
            omega
        case measure => simp [intOf]; omega
      · have hcm : ¬ cmpI (M ((p + q) / 2)) m < 0 := by unfold cmpI; omega
        have HM := hidS hm
        clear hm
        go_wp2_with (go_at_call 108; refine (cmp_any _ _ _ _ _).mono ?_; rintro e w2 ⟨rfl, hb2⟩)
        go_roundw
        case rel =>
          refine ⟨p, (p + q) / 2, by omega, by omega, rfl, by go_num, h1.out, fun x hx1 hx2 => ?_, bcall hbl.out hb2⟩
          by_cases e : x = (p + q) / 2
          · rw [e]; have := HM.out; omega
          · have := HS.out ((p + q) / 2) x (by omega) hx2
            have := HM.out
            omega
        case measure => simp [intOf]; omega
    · have hpq2 : p = q := by omega
      subst hpq2
      by_cases hpn : p < n
      · obtain ⟨c0, c1, c2⟩ := HC.out p hpn
        rw [← hbl.out.cell (by exact hb)] at c0 c1 c2
        go_wp2_with (go_at_call 108; refine (cmp_any _ _ _ _ _).mono ?_; rintro e w2 ⟨rfl, hb2⟩)
        go_ret2
        refine ⟨⟨p, ?_, hqn, h1.out, h2.out⟩, bcall hbl.out hb2⟩
        have : (cmpI (M p) m == 0) = decide (p < n ∧ M p = m) := by
          unfold cmpI
          rw [Bool.eq_iff_iff]
          simp only [beq_iff_eq, decide_eq_true_eq]
          omega
        rw [← this]
        rfl
      · go_wp2_with fail
        go_ret2
        refine ⟨⟨p, ?_, hqn, h1.out, h2.out⟩, hbl.out⟩
        have : false = decide (p < n ∧ M p = m) := by simp; omega
        rw [← this]
        rfl
end Go.Proofs.Ytckkkdldljhehaa.St
