/- What MeetRows of package ninepinsref answers when called, in whatever world: for every two rows the same plain answer as Meet of package solve; nothing that was in memory before has changed. No conditions. -/
import Derived.Test.YtckkkdldljhehabGreatKtRbD
import Derived.Test.YtckkkdldljhehabGreatKtRbE
import Derived.Test.YtckkkdldljhehabGreatKtRbF
import Derived.Test.YtckkkdldljhehabGreatKtRbG
import Derived.Test.YtckkkdldljhehabGreatKtRbH
import Derived.Test.YtckkkdldljhehabGreatKtRbI
namespace Go.Proofs.YtckkkdldljhehabGreat
open Go.ChangeShapes Go.WideShapes Go.ChangeAt Go.RowKit
open Num

theorem meetRows_any (a b : R8) (w : World) :
    Calls Tryz.prog 56 #[rowV a, rowV b] w fun e w' => e = .returned (retV (met a b).1 (met a b).2 (overB a b)) ∧ Below w.heap.size w w' := by
  by_cases ga : GoodP a
  case neg =>
    have e := goodB_false ga
    have o : overB a b = false := by simp [overB, e]
    rw [show met a b = (a, b) from by simp [met, o], o]
    exact rows_no1 a b e w
  by_cases gb : GoodP b
  case neg =>
    have e := goodB_false gb
    have o : overB a b = false := by simp [overB, e]
    rw [show met a b = (a, b) from by simp [met, o], o]
    exact rows_no2 a b ((goodB_iff a).2 ga) e w
  by_cases hx : 1 ≤ depthOf a.x b.x a.wd b.wd
  case neg =>
    have o : overB a b = false := by simp [overB, hx]
    rw [show met a b = (a, b) from by simp [met, o], o]
    exact rows_no3 a b ga gb (by omega) w
  by_cases hy : 1 ≤ depthOf a.y b.y a.ht b.ht
  case neg =>
    have o : overB a b = false := by simp [overB, hy]
    rw [show met a b = (a, b) from by simp [met, o], o]
    exact rows_no4 a b ga gb hx (by omega) w
  have o : overB a b = true := by simp [overB, hx, hy, (goodB_iff a).2 ga, (goodB_iff b).2 gb]
  by_cases h0 : a.ms = 0 ∧ b.ms = 0
  · rw [show met a b = (a, b) from by rw [met, if_pos o, if_pos h0], o]
    exact rows_fix a b ga gb hx hy h0.1 h0.2 w
  rw [show met a b = if depthOf a.x b.x a.wd b.wd < depthOf a.y b.y a.ht b.ht then metX a b else metY a b from by rw [met, if_pos o, if_neg h0], o]
  by_cases hl : depthOf a.x b.x a.wd b.wd < depthOf a.y b.y a.ht b.ht
  · rw [if_pos hl]
    by_cases fa : a.ms = 0
    · exact rowsX_fa a b ga gb hx hy hl fa (fun e => h0 ⟨fa, e⟩) w
    · by_cases fb : b.ms = 0
      · exact rowsX_fb a b ga gb hx hy hl fa fb w
      · exact rowsX_free a b ga gb hx hy hl fa fb w
  · rw [if_neg hl]
    by_cases fa : a.ms = 0
    · exact rowsY_fa a b ga gb hx hy (by omega) fa (fun e => h0 ⟨fa, e⟩) w
    · by_cases fb : b.ms = 0
      · exact rowsY_fb a b ga gb hx hy (by omega) fa fb w
      · exact rowsY_free a b ga gb hx hy (by omega) fa fb w
end Go.Proofs.YtckkkdldljhehabGreat
