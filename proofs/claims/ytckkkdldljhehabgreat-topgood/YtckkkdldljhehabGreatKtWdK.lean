/- What worlds of packages ninepinskeep and ninepinslaw answers when called: true; nothing that was in memory before has changed. -/
import Derived.Test.YtckkkdldljhehabGreatPkJ
namespace Go.Proofs.YtckkkdldljhehabGreat.Wd
open Go.Proofs.YtckkkdldljhehabGreat.Num Go.Proofs.YtckkkdldljhehabGreat.St
open Go.ChangeShapes Go.WideShapes Go.ChangeAt Go.RowKit

def r500 : R8 := ⟨500, 500, 14, 0, 0, 0, 2, 0⟩
def r507 : R8 := ⟨507, 500, 14, 0, 0, 0, 2, 0⟩
def one500 : List Tab := [⟨11, [0], [r500]⟩]
theorem spawn500 : spawnS 0 [] 11 r500 = (one500, 1, 0, 0) := by
  have h : goodRowB 11 r500 = true := by decide
  unfold spawnS
  rw [if_neg (by simp [h]), if_neg (by simp [allL])]
  rfl
theorem good500 : GoodL 1 one500 := by
  have := good_spawn good_nil 11 r500
  rw [spawn500] at this
  exact this
theorem ids500 : idsOf 11 one500 = [0] := by
  have h : gathR 11 one500 = [0] := by decide
  unfold idsOf
  rw [h]
  simp
theorem ids5 : idsOf 5 one500 = [] := by
  have h : gathR 5 one500 = [] := by decide
  unfold idsOf
  rw [h]
  simp
theorem pairs_none : Sw.pairsG [] = [] := by
  unfold Sw.pairsG
  rw [Sw.good_nil]
  simp [Sw.pairsOf, Sw.pairsFrom, Sw.sortP]
theorem mk500 : mk one500 0 = 11 := by decide
theorem rw500 : rw0 one500 0 = r500 := by decide
theorem step500 : (stepG one500 0 1000 1000).1 0 = r507 ∧ (stepG one500 0 1000 1000).2 = [] := by
  unfold stepG boxG
  rw [ids500, ids5]
  simp only [List.map_nil, pairs_none]
  unfold meetG goOnG wallG
  simp only [List.foldl_cons, List.foldl_nil]
  refine ⟨?_, trivial⟩
  unfold wall1 go1
  rw [putG_at, putG_at, mk500, rw500]
  decide
set_option maxHeartbeats 1000000 in
set_option maxRecDepth 100000 in
theorem worlds_any (w : World) : Calls Tryz.prog 22 #[] w fun e w' => e = .returned (.bool true) ∧ Below w.heap.size w w' := by
  go_enter Tryz.func22, Tryz.ntmps22
  go_wp2_with fail
  have hsp := (Sto.empty w).spawn 0 good_nil 11 r500
  rw [spawn500] at hsp
  refine hsp.mono ?_
  clear hsp
  rintro e w1 ⟨⟨a, n, c, rfl, F1, hs1, hF1⟩, hb1⟩
  have HS1 := St.hid hs1
  have HB1 := St.hid hb1
  clear hs1 hb1 hF1
  simp only
  go_wp2_with fail
  refine (step_any 1 0 1000 1000 (HS1.out.below (bal (Below.refl _ _) _))).mono ?_
  rintro e w2 ⟨⟨a2, n2, c2, u2, ec, rfl, hout⟩, hb2⟩
  have hgw : GoodWd 1 0 1000 1000 one500 := ⟨good500, by omega, by omega, by omega⟩
  rcases hout with ⟨h, _⟩ | ⟨_, rfl, ⟨F2, hs2, _⟩, _⟩
  · exact absurd hgw h
  have hat : At (withRows one500 (stepG one500 0 1000 1000).1) 0 11 r507 := by
    rw [at_with good500.even]
    exact ⟨⟨r500, ⟨_, List.mem_singleton.2 rfl, rfl, 0, rfl, rfl⟩⟩, step500.1.symm⟩
  have HAT := St.hid hat
  have HS2 := St.hid hs2
  have HG2 := St.hid (step_good good500 0 1000 1000)
  have HB2 := St.hid (bcall (bal HB1.out _) hb2)
  clear hs2 hb2 hat hgw
  go_wp2_with fail
  refine ((HS2.out.below (bal (Below.refl _ _) _)).get_some HG2.out 1 0 11 r507 HAT.out).mono ?_
  rintro e w3 ⟨rfl, hb3⟩
  have HB3 := St.hid (bcall (bal HB2.out _) hb3)
  clear hb3
  simp only [r507]
  go_wp2_with fail
  go_ret
  exact ⟨rfl, bal HB3.out _⟩
end Go.Proofs.YtckkkdldljhehabGreat.Wd
