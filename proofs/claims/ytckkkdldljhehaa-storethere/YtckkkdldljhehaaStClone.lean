/- What slices.Clone answers when called over numbers, rows and tables in memory: a slice in memory of its own, which holds the same cells; nothing that was in memory before has changed. The source's bytes are within the form's reach. -/
import Derived.Test.YtckkkdldljhehaaStFind
import Derived.Lib.SliceRun
namespace Go.Proofs.Ytckkkdldljhehaa.St
open Go.Proofs.Ytckkkdldljhehaa.Num
open Go.ChangeShapes Go.WideShapes Go.ChangeAt Go.RowKit

theorem info3 : (Try.prog.info? 3).map (fun i => (i.zero, i.size, i.bytes)) = some (some (.int .i64 0), 1, 8) := by kernel_rfl
theorem info30 : (Try.prog.info? 30).map (fun i => (i.zero, i.size, i.bytes)) = some (some (.agg #[.int .i64 0, .int .i64 0, .int .i64 0, .int .i64 0, .int .i64 0, .int .i64 0, .int .i64 0, .int .i64 0]), 8, 64) := by kernel_rfl
theorem info66 : (Try.prog.info? 66).map (fun i => (i.zero, i.size, i.bytes)) = some (some (.agg #[.int .i64 0, .slice none 0 0, .slice none 0 0]), 3, 56) := by kernel_rfl

set_option maxHeartbeats 400000 in
set_option maxRecDepth 100000 in
theorem cloneI_any (a : Option Addr) (n cap : Nat) (xs : List Value) (w : World) (hn : n * 8 ≤ 140737488355328) (hl : xs.length = n * 1) (ha : a = none → n = 0)
    (hx : ∀ ad, a = some ad → ∀ j u, xs[j]? = some u → w.cell? (ad.add j) = some u) (h1 : ∀ u ∈ xs, u.oneCell' = true) :
    Calls Try.prog 105 #[.slice a n cap] w fun e w' => (∃ v, e = .returned v ∧ w'.ownsRow w.heap.size 3 1 v n xs) ∧ Below w.heap.size w w' := by
  have q : ∀ (w : World) (a : Option Addr) (n c n' c' : Nat), (binOp .eql 47 (.slice a n c) (.slice none n' c')).run Try.prog w = .ok (.bool a.isNone) w := fun w a n c n' c' => Lib.run_eql_slice_nil w _ _ a n c n' c' Try.underlying47
  obtain ⟨i0, hi, hz0, hz1, hz2⟩ := info_parts info3
  have HX : Hid _ := hx
  have H1 : Hid _ := h1
  have HL : Hid _ := hl
  have HA : Hid _ := ha
  clear hx h1 hl ha
  cases a with
  | none =>
    have H0 : Hid (n = 0) := HA.out rfl
    go_enter Try.func105, Try.ntmps105
    go_wp2
    go_ret
    have h0 := H0.out
    have hl := HL.out
    rw [h0] at hl
    have hxs : xs = [] := List.length_eq_zero_iff.1 (by simpa using hl)
    exact ⟨⟨_, rfl, by rw [hxs, h0]; exact ⟨by simp, Or.inl ⟨rfl, rfl⟩⟩⟩, Below.refl _ _⟩
  | some ad =>
    go_enter Try.func105, Try.ntmps105
    go_wp2_with (at_builtin; refine wpList_append_own _ rfl _ _ 47 rfl w.heap.size 3 i0 (.int .i64 0) 1 8 Try.underlying47 hi hz0 hz1 hz2 rfl (by decide) _ _ _ rfl (World.ownsRow_made w #[] 0 (Nat.le_refl _) (Nat.zero_le _) rfl) ad n cap xs rfl ?qc1 ?qc2 ?qc3 ?qc4 ?qc5 ?qc6 ?_)
    case qc1 => exact HL.out
    case qc2 => intro j u hj; exact Lib.cell?_alloc_some _ (HX.out ad rfl j u hj)
    case qc3 => exact H1.out
    case qc4 => unfold maxLen; omega
    case qc5 => omega
    case qc6 => simp
    intro v' w1 hown hgrow hnil
    clear hnil
    go_wp2
    go_ret
    exact ⟨⟨v', rfl, by simpa using hown⟩, ((Below.refl _ w).alloc (Nat.le_refl _) _).grown hgrow (by simp) (by intro k hk; simp [Value.ownBlock] at hk; omega)⟩

set_option maxHeartbeats 400000 in
set_option maxRecDepth 100000 in
theorem cloneR_any (a : Option Addr) (n cap : Nat) (xs : List Value) (w : World) (hn : n * 64 ≤ 140737488355328) (hl : xs.length = n * 8) (ha : a = none → n = 0)
    (hx : ∀ ad, a = some ad → ∀ j u, xs[j]? = some u → w.cell? (ad.add j) = some u) (h1 : ∀ u ∈ xs, u.oneCell' = true) :
    Calls Try.prog 106 #[.slice a n cap] w fun e w' => (∃ v, e = .returned v ∧ w'.ownsRow w.heap.size 30 8 v n xs) ∧ Below w.heap.size w w' := by
  have q : ∀ (w : World) (a : Option Addr) (n c n' c' : Nat), (binOp .eql 64 (.slice a n c) (.slice none n' c')).run Try.prog w = .ok (.bool a.isNone) w := fun w a n c n' c' => Lib.run_eql_slice_nil w _ _ a n c n' c' Try.underlying64
  obtain ⟨i0, hi, hz0, hz1, hz2⟩ := info_parts info30
  have HX : Hid _ := hx
  have H1 : Hid _ := h1
  have HL : Hid _ := hl
  have HA : Hid _ := ha
  clear hx h1 hl ha
  cases a with
  | none =>
    have H0 : Hid (n = 0) := HA.out rfl
    go_enter Try.func106, Try.ntmps106
    go_wp2
    go_ret
    have h0 := H0.out
    have hl := HL.out
    rw [h0] at hl
    have hxs : xs = [] := List.length_eq_zero_iff.1 (by simpa using hl)
    exact ⟨⟨_, rfl, by rw [hxs, h0]; exact ⟨by simp, Or.inl ⟨rfl, rfl⟩⟩⟩, Below.refl _ _⟩
  | some ad =>
    go_enter Try.func106, Try.ntmps106
    go_wp2_with (at_builtin; refine wpList_append_own _ rfl _ _ 64 rfl w.heap.size 30 i0 (.agg #[.int .i64 0, .int .i64 0, .int .i64 0, .int .i64 0, .int .i64 0, .int .i64 0, .int .i64 0, .int .i64 0]) 8 64 Try.underlying64 hi hz0 hz1 hz2 rfl (by decide) _ _ _ rfl (World.ownsRow_made w #[] 0 (Nat.le_refl _) (Nat.zero_le _) rfl) ad n cap xs rfl ?qc1 ?qc2 ?qc3 ?qc4 ?qc5 ?qc6 ?_)
    case qc1 => exact HL.out
    case qc2 => intro j u hj; exact Lib.cell?_alloc_some _ (HX.out ad rfl j u hj)
    case qc3 => exact H1.out
    case qc4 => unfold maxLen; omega
    case qc5 => omega
    case qc6 => simp
    intro v' w1 hown hgrow hnil
    clear hnil
    go_wp2
    go_ret
    exact ⟨⟨v', rfl, by simpa using hown⟩, ((Below.refl _ w).alloc (Nat.le_refl _) _).grown hgrow (by simp) (by intro k hk; simp [Value.ownBlock] at hk; omega)⟩

set_option maxHeartbeats 400000 in
set_option maxRecDepth 100000 in
theorem cloneT_any (a : Option Addr) (n cap : Nat) (xs : List Value) (w : World) (hn : n * 56 ≤ 140737488355328) (hl : xs.length = n * 3) (ha : a = none → n = 0)
    (hx : ∀ ad, a = some ad → ∀ j u, xs[j]? = some u → w.cell? (ad.add j) = some u) (h1 : ∀ u ∈ xs, u.oneCell' = true) :
    Calls Try.prog 104 #[.slice a n cap] w fun e w' => (∃ v, e = .returned v ∧ w'.ownsRow w.heap.size 66 3 v n xs) ∧ Below w.heap.size w w' := by
  have q : ∀ (w : World) (a : Option Addr) (n c n' c' : Nat), (binOp .eql 26 (.slice a n c) (.slice none n' c')).run Try.prog w = .ok (.bool a.isNone) w := fun w a n c n' c' => Lib.run_eql_slice_nil w _ _ a n c n' c' Try.underlying26
  obtain ⟨i0, hi, hz0, hz1, hz2⟩ := info_parts info66
  have HX : Hid _ := hx
  have H1 : Hid _ := h1
  have HL : Hid _ := hl
  have HA : Hid _ := ha
  clear hx h1 hl ha
  cases a with
  | none =>
    have H0 : Hid (n = 0) := HA.out rfl
    go_enter Try.func104, Try.ntmps104
    go_wp2
    go_ret
    have h0 := H0.out
    have hl := HL.out
    rw [h0] at hl
    have hxs : xs = [] := List.length_eq_zero_iff.1 (by simpa using hl)
    exact ⟨⟨_, rfl, by rw [hxs, h0]; exact ⟨by simp, Or.inl ⟨rfl, rfl⟩⟩⟩, Below.refl _ _⟩
  | some ad =>
    go_enter Try.func104, Try.ntmps104
    go_wp2_with (at_builtin; refine wpList_append_own _ rfl _ _ 26 rfl w.heap.size 66 i0 (.agg #[.int .i64 0, .slice none 0 0, .slice none 0 0]) 3 56 Try.underlying26 hi hz0 hz1 hz2 rfl (by decide) _ _ _ rfl (World.ownsRow_made w #[] 0 (Nat.le_refl _) (Nat.zero_le _) rfl) ad n cap xs rfl ?qc1 ?qc2 ?qc3 ?qc4 ?qc5 ?qc6 ?_)
    case qc1 => exact HL.out
    case qc2 => intro j u hj; exact Lib.cell?_alloc_some _ (HX.out ad rfl j u hj)
    case qc3 => exact H1.out
    case qc4 => unfold maxLen; omega
    case qc5 => omega
    case qc6 => simp
    intro v' w1 hown hgrow hnil
    clear hnil
    go_wp2
    go_ret
    exact ⟨⟨v', rfl, by simpa using hown⟩, ((Below.refl _ w).alloc (Nat.le_refl _) _).grown hgrow (by simp) (by intro k hk; simp [Value.ownBlock] at hk; omega)⟩
end Go.Proofs.Ytckkkdldljhehaa.St
