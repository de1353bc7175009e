/- What slices.Index over numbers, and find and Get of package store, answer when called over tables in memory whose lists are even (as many rows as numbers): where the number stands first, its mask and its row; nothing that was in memory before has changed. -/
import Derived.Test.YtckkkdldljhehaaStTab
namespace Go.Proofs.Ytckkkdldljhehaa.St
open Go.Proofs.Ytckkkdldljhehaa.Num
open Go.ChangeShapes Go.WideShapes Go.ChangeAt Go.RowKit

/-- n numbers lie at a. -/
def IdsIn (w : World) (a : Option Addr) (n : Nat) (f : Nat → Int) : Prop :=
  0 < n → ∃ b off, a = some ⟨b, off, none⟩ ∧ b < w.heap.size ∧ ∀ i, i < n → w.cell? ⟨b, off + i, none⟩ = some (.int .i64 (f i))
/-- n rows lie at a. -/
def RowsIn (w : World) (a : Option Addr) (n : Nat) (r : Nat → R8) : Prop :=
  0 < n → ∃ b off, a = some ⟨b, off, none⟩ ∧ b < w.heap.size ∧ ∀ i, i < n →
    w.cell? ⟨b, off + i * 8, none⟩ = some (.int .i64 (r i).x) ∧ w.cell? ⟨b, off + i * 8 + 1, none⟩ = some (.int .i64 (r i).y) ∧
    w.cell? ⟨b, off + i * 8 + 2, none⟩ = some (.int .i64 (r i).px) ∧ w.cell? ⟨b, off + i * 8 + 3, none⟩ = some (.int .i64 (r i).py) ∧
    w.cell? ⟨b, off + i * 8 + 4, none⟩ = some (.int .i64 (r i).wd) ∧ w.cell? ⟨b, off + i * 8 + 5, none⟩ = some (.int .i64 (r i).ht) ∧
    w.cell? ⟨b, off + i * 8 + 6, none⟩ = some (.int .i64 (r i).ms) ∧ w.cell? ⟨b, off + i * 8 + 7, none⟩ = some (.int .i64 (r i).rr)

theorem IdsIn.below {w w' : World} {a : Option Addr} {n : Nat} {f : Nat → Int} (h : IdsIn w a n f) (hb : Below w.heap.size w w') : IdsIn w' a n f := by
  intro hp
  obtain ⟨b, off, e, hl, hc⟩ := h hp
  exact ⟨b, off, e, Nat.lt_of_lt_of_le hl hb.size, fun i hi => (hb.cell (p := ⟨b, off + i, none⟩) hl).trans (hc i hi)⟩
theorem RowsIn.below {w w' : World} {a : Option Addr} {n : Nat} {r : Nat → R8} (h : RowsIn w a n r) (hb : Below w.heap.size w w') : RowsIn w' a n r := by
  intro hp
  obtain ⟨b, off, e, hl, hc⟩ := h hp
  have k := fun o => hb.cell (p := ⟨b, o, none⟩) hl
  exact ⟨b, off, e, Nat.lt_of_lt_of_le hl hb.size, fun i hi => by simp only [k]; exact hc i hi⟩
theorem TabsIn.below {w w' : World} {a : Option Addr} {n : Nat} {T : Nat → TabV} (h : TabsIn w a n T) (hb : Below w.heap.size w w') : TabsIn w' a n T := by
  intro hp
  obtain ⟨b, off, e, hl, hc⟩ := h hp
  have k := fun o => hb.cell (p := ⟨b, o, none⟩) hl
  exact ⟨b, off, e, Nat.lt_of_lt_of_le hl hb.size, fun i hi => by simp only [k]; exact hc i hi⟩

/-- Where a number stands first among n; -1: nowhere. -/
def IdxIs (f : Nat → Int) (v : Int) (n : Nat) (r : Int) : Prop :=
  (r = -1 ∧ ∀ j, j < n → f j ≠ v) ∨ ∃ k : Nat, r = k ∧ k < n ∧ f k = v ∧ ∀ j, j < k → f j ≠ v

set_option maxHeartbeats 400000 in
theorem index_any (a : Option Addr) (n cap : Nat) (f : Nat → Int) (v : Int) (w : World) (hn : n ≤ maxLen) (h : IdsIn w a n f) :
    Calls Try.prog 101 #[.slice a n cap, .int .i64 v] w fun e w' => (∃ r, e = .returned (.int .i64 r) ∧ IdxIs f v n r) ∧ w' = w := by
  unfold maxLen at hn
  rcases Nat.eq_zero_or_pos n with rfl | hp
  · go_enter Try.func101, Try.ntmps101
    go_wp2
    go_loop [8] (fun i => i = .int .i64 0) (fun _ => 0)
    case atStart => rfl
    case round =>
      subst hrel
      go_wp2
      go_ret
      exact ⟨⟨-1, rfl, Or.inl ⟨rfl, fun j hj => absurd hj (Nat.not_lt_zero _)⟩⟩, rfl⟩
  · obtain ⟨b, off, rfl, hb, hc⟩ := h hp
    clear h
    go_enter Try.func101, Try.ntmps101
    go_wp2
    go_loop [8] (fun i => ∃ k : Nat, k ≤ n ∧ i = .int .i64 k ∧ Hid (∀ j, j < k → f j ≠ v)) (fun i => n - (intOf i).toNat)
    case atStart => exact ⟨0, Nat.zero_le _, rfl, fun j hj => absurd hj (Nat.not_lt_zero _)⟩
    case round =>
      obtain ⟨k, hk, rfl, hno⟩ := hrel
      by_cases hlt : k < n
      · have hck := hc k hlt
        clear hc
        cases hv : (v == f k)
        · go_wp2
          go_round
          case rel =>
            refine ⟨k + 1, by omega, by go_num, fun j hj => ?_⟩
            by_cases e : j = k
            · subst e
              intro q
              simp [q] at hv
            · exact hno.out j (by omega)
          case measure => simp [intOf]; omega
        · go_wp2
          go_ret
          have q : v = f k := by simpa using hv
          exact ⟨⟨(k : Int), rfl, Or.inr ⟨k, rfl, hlt, q.symm, hno.out⟩⟩, rfl⟩
      · go_wp2
        go_ret
        exact ⟨⟨-1, rfl, Or.inl ⟨rfl, fun j hj => hno.out j (by omega)⟩⟩, rfl⟩
end Go.Proofs.Ytckkkdldljhehaa.St
