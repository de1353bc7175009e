/- Tables in memory, as package store reads them; what Size of package store answers when called: the sum of the numbers' lists' lengths, as 64 bits hold it; nothing that was in memory before has changed. -/
import Derived.Test.YtckkkdldljhehaaStRow
import Derived.Deep.LoopGhost
namespace Go.Proofs.Ytckkkdldljhehaa.St
open Go.Proofs.Ytckkkdldljhehaa.Num
open Go.ChangeShapes Go.WideShapes Go.ChangeAt Go.RowKit

/-- A table's cells: its mask, the slice of its numbers, the slice of its rows. -/
structure TabV where
  mask : Int
  ia : Option Addr
  il : Nat
  ic : Nat
  ra : Option Addr
  rl : Nat
  rc : Nat
/-- n tables lie at a. -/
def TabsIn (w : World) (a : Option Addr) (n : Nat) (T : Nat → TabV) : Prop :=
  0 < n → ∃ b off, a = some ⟨b, off, none⟩ ∧ b < w.heap.size ∧ ∀ i, i < n →
    w.cell? ⟨b, off + i * 3, none⟩ = some (.int .i64 (T i).mask) ∧ w.cell? ⟨b, off + i * 3 + 1, none⟩ = some (.slice (T i).ia (T i).il (T i).ic) ∧ w.cell? ⟨b, off + i * 3 + 2, none⟩ = some (.slice (T i).ra (T i).rl (T i).rc)
def sizeW (T : Nat → TabV) : Nat → Int
  | 0 => 0
  | k + 1 => wrap64 (sizeW T k + (T k).il)

set_option maxHeartbeats 400000 in
theorem size_any (a : Option Addr) (n cap : Nat) (next : Int) (T : Nat → TabV) (w : World) (hn : n ≤ maxLen) (hT : TabsIn w a n T) :
    Calls Try.prog 33 #[.agg #[.slice a n cap, .int .i64 next]] w fun e w' => e = .returned (.int .i64 (sizeW T n)) ∧ Below w.heap.size w w' := by
  unfold maxLen at hn
  rcases Nat.eq_zero_or_pos n with rfl | hp
  · go_enter Try.func33, Try.ntmps33
    go_wp2
    go_loop [3, 9] (fun s i => s = .int .i64 0 ∧ i = .int .i64 0) (fun _ _ => 0)
    case atStart => exact ⟨rfl, rfl⟩
    case round =>
      obtain ⟨rfl, rfl⟩ := hrel
      go_wp2
      go_ret
      exact ⟨rfl, bal (Below.refl _ _) _⟩
  · obtain ⟨b, off, rfl, hb, hc⟩ := hT hp
    go_enter Try.func33, Try.ntmps33
    go_wp2
    go_loopw [3, 9] (fun s i wr => ∃ k : Nat, k ≤ n ∧ i = .int .i64 k ∧ s = .int .i64 (sizeW T k) ∧ Below w.heap.size w wr) (fun _ i _ => n - (intOf i).toNat)
    case atStart => exact ⟨0, Nat.zero_le _, rfl, rfl, bal (Below.refl _ _) _⟩
    case round =>
      obtain ⟨k, hk, rfl, rfl, hbl⟩ := hrel
      by_cases hlt : k < n
      · obtain ⟨c0, c1, c2⟩ := hc k hlt
        obtain ⟨hx, hf⟩ := bcell hbl
        have HB : Hid _ := hbl
        clear hbl hf hc hT
        go_wp2_with fail
        go_roundw
        case rel => exact ⟨k + 1, by omega, by go_num, by simp [sizeW], by repeat (first | exact HB.out | refine bal ?_ _)⟩
        case measure => simp [intOf]; omega
      · go_wp2
        go_ret
        exact ⟨ret_int (by rw [show k = n by omega]), hbl⟩
end Go.Proofs.Ytckkkdldljhehaa.St
