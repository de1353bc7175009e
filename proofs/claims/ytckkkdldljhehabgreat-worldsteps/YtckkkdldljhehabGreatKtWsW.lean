/- What worlds of packages ninepinskeep and ninepinslaw answers when called: true; nothing that was in memory before has changed. -/
import Derived.Test.YtckkkdldljhehabGreatKtWsK
namespace Go.Proofs.YtckkkdldljhehabGreat.Wd
open Go.Proofs.YtckkkdldljhehabGreat.Num Go.Proofs.YtckkkdldljhehabGreat.St
open Go.ChangeShapes Go.WideShapes Go.ChangeAt Go.RowKit

set_option maxHeartbeats 1000000 in
set_option maxRecDepth 100000 in
theorem lworlds_any (w : World) : Calls Tryz.prog 16 #[] w fun e w' => e = .returned (.bool true) ∧ Below w.heap.size w w' := by
  go_enter Tryz.func16, Tryz.ntmps16
  go_wp2_with fail
  have hsp := (Sto.empty w).spawn 0 good_nil 11 r500
  rw [spawn500] at hsp
  refine hsp.mono ?_
  clear hsp
  rintro e w1 ⟨⟨a, n, c, rfl, F1, hs1, hF1⟩, hb1⟩
  have HS1 := St.hid hs1
  have HB1 := St.hid hb1
  clear hs1 hb1 hF1
  simp only
  go_wp2_with fail
  refine (step_any 1 0 1000 1000 (HS1.out.below (bal (Below.refl _ _) _))).mono ?_
  rintro e w2 ⟨⟨a2, n2, c2, u2, ec, rfl, hout⟩, hb2⟩
  have hgw : GoodWd 1 0 1000 1000 one500 := ⟨good500, by omega, by omega, by omega⟩
  rcases hout with ⟨h, _⟩ | ⟨_, rfl, ⟨F2, hs2, _⟩, _⟩
  · exact absurd hgw h
  have hat : At (withRows one500 (stepG one500 0 1000 1000).1) 0 11 r507 := by
    rw [at_with good500.even]
    exact ⟨⟨r500, ⟨_, List.mem_singleton.2 rfl, rfl, 0, rfl, rfl⟩⟩, step500.1.symm⟩
  have HAT := St.hid hat
  have HS2 := St.hid hs2
  have HG2 := St.hid (step_good good500 0 1000 1000)
  have HB2 := St.hid (bcall (bal HB1.out _) hb2)
  clear hs2 hb2 hat hgw
  go_wp2_with fail
  refine ((HS2.out.below (bal (Below.refl _ _) _)).get_some HG2.out 1 0 11 r507 HAT.out).mono ?_
  rintro e w3 ⟨rfl, hb3⟩
  have HB3 := St.hid (bcall (bal HB2.out _) hb3)
  clear hb3
  simp only [r507]
  go_wp2_with fail
  go_ret
  exact ⟨rfl, bal HB3.out _⟩
end Go.Proofs.YtckkkdldljhehabGreat.Wd
