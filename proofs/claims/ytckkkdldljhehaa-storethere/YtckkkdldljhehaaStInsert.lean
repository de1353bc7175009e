/- What slices.Insert answers when called over tables of one's own with one table more, at their end: the tables and the one behind them, in memory of one's own. -/
import Derived.Test.YtckkkdldljhehaaStSearch
import Derived.Test.YtckkkdldljhehaaStClone3
import Derived.Test.YtckkkdldljhehaaStOwn2
import Derived.Maps.AppendAt
namespace Go.Proofs.Ytckkkdldljhehaa.St
open Go.Proofs.Ytckkkdldljhehaa.Num
open Go.ChangeShapes Go.WideShapes Go.ChangeAt Go.RowKit

set_option maxHeartbeats 400000 in
theorem search_empty (a : Option Addr) (cap : Nat) (m : Int) (w : World) :
    Calls Try.prog 107 #[.slice a 0 cap, .int .i64 m, .func (.func 108) #[] #[]] w fun e w' => e = .returned (.tuple #[.int .i64 0, .bool false]) ∧ w' = w := by
  go_enter Try.func107, Try.ntmps107
  go_wp2_with fail
  go_loop [9, 10] (fun i j => i = .int .i64 0 ∧ j = .int .i64 0) (fun _ _ => 0)
  case atStart => exact ⟨rfl, rfl⟩
  case round =>
    obtain ⟨rfl, rfl⟩ := hrel
    go_wp2_with fail
    go_ret2
    exact ⟨rfl, rfl⟩

set_option maxHeartbeats 1000000 in
set_option maxRecDepth 100000 in
theorem insert_end (a : Option Addr) (n c : Nat) (vb : Nat) (m : Int) (B : Nat) (xs : List Value) (w : World) (hn : (n + 1) * 56 ≤ 140737488355328) (_hcap : n ≤ c) (_hcm : c ≤ maxLen) (hB : B ≤ w.heap.size) (hown : w.ownsRow B 66 3 (.slice a n c) n xs)
    (hv : w.cell? ⟨vb, 0, none⟩ = some (.int .i64 m) ∧ w.cell? ⟨vb, 1, none⟩ = some (.slice none 0 0) ∧ w.cell? ⟨vb, 2, none⟩ = some (.slice none 0 0)) :
    Calls Try.prog 109 #[.slice a n c, .int .i64 n, .slice (some ⟨vb, 0, none⟩) 1 1] w fun e w' =>
      ∃ v', e = .returned v' ∧ w'.ownsRow B 66 3 v' (n + 1) (xs ++ [.int .i64 m, .slice none 0 0, .slice none 0 0]) ∧ w.grownBy w' (Value.slice a n c).ownBlock ∧ Lies w (.slice a n c) v' := by
  obtain ⟨i0, hi, hz0, hz1, hz2⟩ := info_parts info66
  have HO := hid hown
  have HV := hid hv
  unfold maxLen at _hcm
  clear hown hv
  have hnn : ((n : Int) == (n : Int)) = true := by simp
  go_enter Try.func109, Try.ntmps109
  go_wp2_with (at_builtin; refine wpList_append_own_at _ rfl _ _ 26 rfl B 66 i0 (.agg #[.int .i64 0, .slice none 0 0, .slice none 0 0]) 3 56 Try.underlying26 hi hz0 hz1 hz2 rfl (by decide) _ _ _ rfl HO.out ⟨vb, 0, none⟩ 1 1 [.int .i64 m, .slice none 0 0, .slice none 0 0] rfl ?c1 ?c2 ?c3 ?c4 ?c5 ?c6 ?_)
  case c1 => rfl
  case c2 =>
    intro j u hj
    rw [Addr.add_lit]
    match j, hj with
    | 0, hj => cases hj; exact HV.out.1
    | 1, hj => cases hj; exact HV.out.2.1
    | 2, hj => cases hj; exact HV.out.2.2
  case c3 => intro u hu; simp at hu; rcases hu with rfl | rfl <;> rfl
  case c4 => unfold maxLen; omega
  case c5 => exact hn
  case c6 => exact hB
  all_goals
    intro v' w1 h1 h2 _ h4
    have H1 := hid h1
    have H2 := hid h2
    have H4 := hid h4
    clear h1 h2 h4
    go_wp2
    go_ret
    refine ⟨v', rfl, H1.out, ?_, ?_⟩
    · have := H2.out
      rw [ob_slice] at this ⊢
      exact this
    · have := H4.out
      unfold Lies
      rw [ob_slice] at this ⊢
      exact this.imp id (fun h => ⟨_, Nat.le_refl _, h⟩)
end Go.Proofs.Ytckkkdldljhehaa.St
