/- What alive of package ninepinstop answers when called: true; nothing that was in memory before has changed. -/
import Derived.Test.YtckkkdldljhehacGreatKtGmM
import Derived.Test.YtckkkdldljhehacGreatKtWdKp
namespace Go.Proofs.YtckkkdldljhehacGreat.Gm
open Go.Proofs.YtckkkdldljhehacGreat.Num Go.Proofs.YtckkkdldljhehacGreat.St Go.Proofs.YtckkkdldljhehacGreat.Wd
open Go.ChangeShapes Go.WideShapes Go.ChangeAt Go.RowKit

def r514 : R8 := ⟨514, 500, 14, 0, 0, 0, 2, 0⟩
def one507 : List Tab := [⟨11, [0], [r507]⟩]
def one514 : List Tab := [⟨11, [0], [r514]⟩]
theorem ids507 : idsOf 11 one507 = [0] := by
  have h : gathR 11 one507 = [0] := by decide
  unfold idsOf
  rw [h]
  simp
theorem ids57 : idsOf 5 one507 = [] := by
  have h : gathR 5 one507 = [] := by decide
  unfold idsOf
  rw [h]
  simp
theorem mk507 : Wd.mk one507 0 = 11 := by decide
theorem rw507 : rw0 one507 0 = r507 := by decide
theorem step507 : (Wd.stepG one507 0 1000 1000).1 0 = r514 ∧ (Wd.stepG one507 0 1000 1000).2 = [] := by
  unfold Wd.stepG boxG
  rw [ids507, ids57]
  simp only [List.map_nil, pairs_none]
  unfold meetG goOnG wallG
  simp only [List.foldl_cons, List.foldl_nil]
  refine ⟨?_, trivial⟩
  unfold wall1 go1
  rw [putG_at, putG_at, mk507, rw507]
  decide
def g0 : Gp := newG 1000 1000 0
def g1 : Gp := ⟨⟨one500, 1, 0, 1000, 1000⟩, [], 1⟩
def g2 : Gp := ⟨⟨one514, 1, 0, 1000, 1000⟩, [], 2⟩
def ac1 : Ac := ⟨1, 0, 0, 11, r500, ⟨0, 0, 0, 0, 0⟩⟩
def ac2 : Ac := ⟨6, 0, 2, 0, ⟨0, 0, 0, 0, 0, 0, 0, 0⟩, ⟨0, 0, 0, 0, 0⟩⟩
theorem first1 : doG g0 ac1 = (g1, ⟨0, 0, [], []⟩) := by
  have ea : actW g0.now ac1 = (⟨one500, 1, 0, 1000, 1000⟩, ⟨0, 0, [], []⟩) := by
    have e : actW g0.now ac1 = spawnW g0.now 11 r500 := by simp [actW, ac1]
    rw [e]
    unfold spawnW
    have h : spawnS g0.now.next g0.now.L 11 r500 = (one500, 1, 0, 0) := spawn500
    rw [h]
    rfl
  unfold doG
  rw [if_neg (by decide), if_neg (by simp [ac1]), if_neg (by simp [ac1]), ea]
  rfl
theorem then2 : doG g1 ac2 = (g2, ⟨0, 0, [], []⟩) := by
  have s1 : stepW g1.now = ⟨one507, 1, 0, 1000, 1000⟩ := by
    unfold stepW
    show (⟨withRows one500 (Wd.stepG one500 0 1000 1000).1, 1, 0, 1000, 1000⟩ : Wp) = _
    have e : withRows one500 (Wd.stepG one500 0 1000 1000).1 = [⟨11, [0], [(Wd.stepG one500 0 1000 1000).1 0]⟩] := rfl
    rw [e, step500.1]
    rfl
  have s2 : stepW ⟨one507, 1, 0, 1000, 1000⟩ = ⟨one514, 1, 0, 1000, 1000⟩ := by
    unfold stepW
    show (⟨withRows one507 (Wd.stepG one507 0 1000 1000).1, 1, 0, 1000, 1000⟩ : Wp) = _
    have e : withRows one507 (Wd.stepG one507 0 1000 1000).1 = [⟨11, [0], [(Wd.stepG one507 0 1000 1000).1 0]⟩] := rfl
    rw [e, step507.1]
    rfl
  have m1 : stepM g1.now = [] := step500.2
  have m2 : stepM ⟨one507, 1, 0, 1000, 1000⟩ = [] := step507.2
  have w2 : stepsW 2 g1.now = ⟨one514, 1, 0, 1000, 1000⟩ := by
    show stepW (stepW g1.now) = _
    rw [s1, s2]
  have q2 : stepsM 2 g1.now = [] := by
    show ([] ++ stepM g1.now) ++ stepM (stepW g1.now) = _
    rw [s1, m1, m2]
    rfl
  have ea : actW g1.now ac2 = (⟨one514, 1, 0, 1000, 1000⟩, ⟨0, 0, [], []⟩) := by
    have e : actW g1.now ac2 = goW g1.now 2 := by simp [actW, ac2]
    rw [e]
    unfold goW
    rw [if_neg (by decide)]
    show (stepsW 2 g1.now, (⟨0, ((stepsM 2 g1.now).length : Int), [], stepsM 2 g1.now⟩ : Rep)) = _
    rw [w2, q2]
    rfl
  unfold doG
  rw [if_neg (by decide), if_neg (by simp [ac2]), if_neg (by simp [ac2]), ea]
  rfl
theorem good0 : GoodWd 0 0 1000 1000 [] := ⟨good_nil, by omega, by omega, by omega⟩
theorem goodg0 : GoodG g0 := newGood good0
theorem goodg1 : GoodG g1 := by have h := goodg0.do ac1; rw [first1] at h; exact h
theorem goodg2 : GoodG g2 := by have h := goodg1.do ac2; rw [then2] at h; exact h
theorem at514 : At one514 0 11 r514 := ⟨_, List.mem_singleton.2 rfl, rfl, 0, rfl, rfl⟩
theorem fieldW (a : Option Addr) (n c : Nat) (next fall wide high : Int) (w : World) : Sem.run Tryz.prog (Instr.field 45 (.agg #[.slice a n c, .int .i64 next, .int .i64 fall, .int .i64 wide, .int .i64 high]) 0) w = .ok (.agg #[.slice a n c, .int .i64 next]) w := by kernel_rfl
set_option maxHeartbeats 1000000 in
set_option maxRecDepth 100000 in
theorem alive_any (w : World) : Calls Tryz.prog 20 #[] w fun e w' => e = .returned (.bool true) ∧ Below w.heap.size w w' := by
  go_enter Tryz.func20, Tryz.ntmps20
  go_wp2_with fail
  refine (new_any 1000 1000 0 w).mono ?_
  rintro e w1 ⟨hor, hb1⟩
  rcases hor with ⟨hno, -⟩ | ⟨-, b, F, rfl, hG, hF⟩
  · exact absurd good0 hno
  have HG := St.hid hG
  have HB := St.hid hb1
  have HF := St.hid hF
  have hz1 := hb1.size
  clear hG hb1 hF
  go_wp2_with fail
  have hd := do_any HG.out goodg0 ac1
  have e1 : doG (newG 1000 1000 0) ac1 = (g1, ⟨0, 0, [], []⟩) := first1
  rw [e1] at hd
  refine Calls.mono hd ?_
  clear hd
  rintro e w2 ⟨ai, ci, am, cm, rfl, -, -, ⟨F2, hG2, hF2, -⟩, hk2⟩
  simp only [List.length_nil]
  have HG2 : Hid (Gam w2 F2 b g1) := St.hid hG2
  have HF2 : Hid (∀ z, F2 z → w.heap.size ≤ z) := St.hid (fun z hz => (hF2 z hz).elim (fun h => HF.out z h) (fun h => by omega))
  have HB2 := St.hid (HB.out.trans (hk2.to_below hz1 HF.out))
  have hz2 := hk2.size
  have hr1 := St.hid (Rp.rowIs4 w2 0 0 (.slice ai 0 ci) (.slice am 0 cm) 31)
  have HB2a := St.hid (bal HB2.out (.cells #[.int .i64 0, .int .i64 0, .slice ai 0 ci, .slice am 0 cm] 31))
  have HG2a := St.hid (HG2.out.below (bal (Below.refl _ _) (.cells #[.int .i64 0, .int .i64 0, .slice ai 0 ci, .slice am 0 cm] 31)))
  have hzA : (w2.alloc (.cells #[.int .i64 0, .int .i64 0, .slice ai 0 ci, .slice am 0 cm] 31)).heap.size = w2.heap.size + 1 := by simp
  have HN2 : Hid (¬ F2 w2.heap.size) := St.hid (fun hc => by have := HG2.out.lt hc; omega)
  clear hG2 hF2 hk2 HG HB HF HB2
  go_wp2_with fail
  generalize w2.alloc (.cells #[.int .i64 0, .int .i64 0, .slice ai 0 ci, .slice am 0 cm] 31) = W2 at hr1 HB2a HG2a hzA ⊢
  have hd := do_any HG2a.out goodg1 ac2
  rw [then2] at hd
  refine Calls.mono hd ?_
  clear hd
  rintro e w3 ⟨aj, cj, an, cn, rfl, -, -, ⟨F3, hG3, hF3, -⟩, hk3⟩
  simp only [List.length_nil]
  have HG3 : Hid (Gam w3 F3 b g2) := St.hid hG3
  have hr3 := St.hid (rowIs_kept hr1.out hk3 HN2.out)
  have HB3 := St.hid (HB2a.out.trans (hk3.to_below HB2a.out.size HF2.out))
  have hz3 := hk3.size
  have hr4 := St.hid (Rp.rowIs4 w3 0 0 (.slice aj 0 cj) (.slice an 0 cn) 31)
  have hr5 := St.hid (hr3.out.alloc (.cells #[.int .i64 0, .int .i64 0, .slice aj 0 cj, .slice an 0 cn] 31))
  have HB4 := St.hid (bal HB3.out (.cells #[.int .i64 0, .int .i64 0, .slice aj 0 cj, .slice an 0 cn] 31))
  have HG4 := St.hid (HG3.out.below (bal (Below.refl _ _) (.cells #[.int .i64 0, .int .i64 0, .slice aj 0 cj, .slice an 0 cn] 31)))
  clear hG3 hF3 hk3 hr1 HB2a HG2a HG2 HG3 hr3 HB3 HN2
  go_wp2_with fail
  generalize w3.alloc (.cells #[.int .i64 0, .int .i64 0, .slice aj 0 cj, .slice an 0 cn] 31) = W3 at hr4 hr5 HB4 HG4 ⊢
  refine (world_any HG4.out).mono ?_
  rintro e w4 ⟨⟨a4, n4, c4, rfl, F4, hs4, -⟩, hb4⟩
  have hr6 := St.hid (rowIs_below hr4.out hb4)
  have hr7 := St.hid (rowIs_below hr5.out hb4)
  have HB5 := St.hid (bcall HB4.out hb4)
  have HS4 := St.hid hs4
  clear hs4 hb4 hr4 hr5 HB4 HG4
  go_wp2_with fail
  rw [fieldW]
  go_wp2_with fail
  refine (HS4.out.get_some goodg2.now.l 1 0 11 r514 at514).mono ?_
  rintro e w5 ⟨rfl, hb5⟩
  have hr8 := St.hid (rowIs_below hr6.out hb5)
  have hr9 := St.hid (rowIs_below hr7.out hb5)
  have HB6 := St.hid (bcall HB5.out hb5)
  clear hb5 hr6 hr7 HB5 HS4
  obtain ⟨p0, -, -, -⟩ := Rp.rcells hr8.out
  obtain ⟨p1, -, -, -⟩ := Rp.rcells hr9.out
  have hl8 := hr8.out.lt
  have hl9 := hr9.out.lt
  simp only [r514]
  go_wp2_with fail
  go_ret
  exact ⟨rfl, bal HB6.out _⟩
end Go.Proofs.YtckkkdldljhehacGreat.Gm
