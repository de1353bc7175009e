/- That all that moves is within the world behind a step, as far as there is room. Plain lists, no program. -/
import Derived.Test.YtckkkdldljhehabGreatKtGmPl
import Derived.Test.YtckkkdldljhehabGreatPkG
namespace Go.Proofs.YtckkkdldljhehabGreat.Gm
open Go.Proofs.YtckkkdldljhehabGreat.Num Go.Proofs.YtckkkdldljhehabGreat.St Go.Proofs.YtckkkdldljhehabGreat.Wd

def InX (at' half wide : Int) : Prop := half ≤ at' ∧ at' ≤ max (wide - half) half
theorem wallAt_in (x half wide : Int) : InX (wallAt x half wide) half wide := by
  unfold InX wallAt
  split
  · omega
  · split <;> omega
theorem part_in (p rr : Int) (hp : -16777216 ≤ p ∧ p ≤ 16777216) : -16777216 ≤ pa (ab p) (wi rr 256) 256 ∧ pa (ab p) (wi rr 256) 256 ≤ 16777216 := by
  have hw := wi_le rr 256 (by omega)
  have ha : 0 ≤ ab p ∧ ab p ≤ 16777216 := by unfold ab; omega
  generalize ab p = n at ha
  generalize wi rr 256 = a at hw
  have h1 : n * a ≤ n * 256 := Int.mul_le_mul_of_nonneg_left hw.2 ha.1
  have h2 : n * (-256) ≤ n * a := Int.mul_le_mul_of_nonneg_left hw.1 ha.1
  unfold pa
  have e1 : wi n 268435456 = n := wi_self _ _ (by omega) (by omega)
  have e2 : wi a 268435456 = a := wi_self _ _ (by omega) (by omega)
  rw [if_neg (by omega), e1, e2, show wi 256 268435456 = 256 from by decide]
  generalize n * a = q at h1 h2
  rcases Int.le_total 0 q with h | h
  · rw [Int.tdiv_eq_ediv_of_nonneg h]; omega
  · have e : q.tdiv 256 = -((-q) / 256) := by
      rw [← Int.tdiv_eq_ediv_of_nonneg (by omega), Int.neg_tdiv, Int.neg_neg]
    rw [e]; omega
theorem push_in (x p half wide rr : Int) (hp : -16777216 ≤ p ∧ p ≤ 16777216) : -16777216 ≤ wallPush x p half wide rr ∧ wallPush x p half wide rr ≤ 16777216 := by
  have h := part_in p rr hp
  unfold wallPush
  split
  · exact h
  · split
    · omega
    · exact hp
theorem at_in {x half wide : Int} (hx : -1048576 ≤ x ∧ x ≤ 1048576) (hh : 0 ≤ half ∧ half ≤ 4096) : -1048576 ≤ wallAt x half wide ∧ wallAt x half wide ≤ 1048576 := by
  unfold wallAt
  split
  · omega
  · split <;> omega
/-- Behind a step all that moves is within the world, as far as there is room. -/
theorem step_within {next : Int} {L : List Tab} (hg : GoodL next L) (fall : Int) (wide high : Int) {v : Int} (hv : v ∈ idsOf 11 L) :
    InX ((Wd.stepG L fall wide high).1 v).x ((Wd.stepG L fall wide high).1 v).wd wide ∧ InX ((Wd.stepG L fall wide high).1 v).y ((Wd.stepG L fall wide high).1 v).ht high := by
  have hn := hg.2.2.2.2.2
  obtain ⟨-, ⟨q, hq⟩, hb⟩ := at_ids hg.even hn (rw0 L) hv
  have hok : RowsOk L (meetG (Wd.mk L) (Sw.pairsG (boxG L (goOnG (Wd.mk L) fall (idsOf 11 L) (rw0 L)))) (goOnG (Wd.mk L) fall (idsOf 11 L) (rw0 L))).1 := RowsOk.meet hn (RowsOk.go hn (rows_ok hg) _ _) _
  unfold Wd.stepG
  simp only []
  generalize (meetG (Wd.mk L) (Sw.pairsG (boxG L (goOnG (Wd.mk L) fall (idsOf 11 L) (rw0 L)))) (goOnG (Wd.mk L) fall (idsOf 11 L) (rw0 L))).1 = g at hok
  rw [wall_each, each_at (ids_nodup hg 11), if_pos hv]
  have hr := hok v _ _ hq
  obtain ⟨b1, b2, b3, b4, b5, b6, -⟩ := row_bounds hr
  have hgood : goodRowB (Wd.mk L v) (wallY high (wallX wide (g v))) = true :=
    good_change hr hb rfl rfl rfl rfl (at_in b1 b5) (at_in b2 b6) (push_in _ _ _ _ _ b3) (push_in _ _ _ _ _ b4)
  rw [if_pos (by simp [hb, hgood])]
  exact ⟨wallAt_in _ _ _, wallAt_in _ _ _⟩
theorem rw_with {next : Int} {L : List Tab} (hg : GoodL next L) {g : Int → R8} (hok : RowsOk L g) {v : Int} (hv : v ∈ idsOf 11 L) : rw0 (withRows L g) v = g v := by
  have h := (at_ids hg.even hg.2.2.2.2.2 g hv).1
  exact (at_mk (good_with hg hok).2.2.2.2.2 h).2
theorem stepW_within {x : Wp} (h : GoodW x) {v : Int} (hv : v ∈ idsOf 11 (stepW x).L) : InX (rw0 (stepW x).L v).x (rw0 (stepW x).L v).wd x.wide ∧ InX (rw0 (stepW x).L v).y (rw0 (stepW x).L v).ht x.high := by
  have hv' : v ∈ idsOf 11 x.L := by
    have e : (stepW x).L = withRows x.L (Wd.stepG x.L x.fall x.wide x.high).1 := rfl
    rw [e, ids_with] at hv
    exact hv
  have e : rw0 (stepW x).L v = (Wd.stepG x.L x.fall x.wide x.high).1 v := rw_with h.l (step_ok h.l _ _ _) hv'
  rw [e]
  exact step_within h.l _ _ _ hv'
/-- Behind each step that a game was asked for all that moves is within. -/
theorem do_within {s : Gp} (hg : GoodG s) (a : Ac) (hk : a.kind = 6) (hc : (doG s a).2.code = 0) {v : Int} (hv : v ∈ idsOf 11 (doG s a).1.now.L) :
    InX (rw0 (doG s a).1.now.L v).x (rw0 (doG s a).1.now.L v).wd (doG s a).1.now.wide ∧ InX (rw0 (doG s a).1.now.L v).y (rw0 (doG s a).1.now.L v).ht (doG s a).1.now.high := by
  have ea : actW s.now a = goW s.now a.n := by simp [actW, hk]
  have e : doG s a = if 150 ≤ s.acts then (s, no 5) else ({ s with now := (goW s.now a.n).1, acts := s.acts + 1 }, (goW s.now a.n).2) := by
    unfold doG
    split
    · rfl
    · rw [if_neg (by omega), if_neg (by omega), ea]
  rw [e] at hc hv ⊢
  split at hc
  · simp [no] at hc
  · rename_i h0
    rw [if_neg h0] at hv ⊢
    have hc : (goW s.now a.n).2.code = 0 := hc
    have hv : v ∈ idsOf 11 (goW s.now a.n).1.L := hv
    show InX (rw0 (goW s.now a.n).1.L v).x (rw0 (goW s.now a.n).1.L v).wd (goW s.now a.n).1.wide ∧ InX (rw0 (goW s.now a.n).1.L v).y (rw0 (goW s.now a.n).1.L v).ht (goW s.now a.n).1.high
    by_cases hn : a.n < 1 ∨ 8 < a.n
    · rw [show goW s.now a.n = (s.now, no 2) from by unfold goW; rw [if_pos hn]] at hc
      simp [no] at hc
    · obtain ⟨k, hk⟩ : ∃ k : Nat, a.n.toNat = k + 1 := ⟨a.n.toNat - 1, by omega⟩
      have e1 : (goW s.now a.n).1 = stepW (stepsW k s.now) := by
        unfold goW
        rw [if_neg hn, hk]
        rfl
      rw [e1] at hv ⊢
      exact stepW_within (hg.now.steps k) hv
end Go.Proofs.YtckkkdldljhehabGreat.Gm
