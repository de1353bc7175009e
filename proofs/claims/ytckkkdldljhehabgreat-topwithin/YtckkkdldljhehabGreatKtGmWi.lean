/- What play of package ninepinstop answers when called with the question of TopWithin: true, whatever the acts; nothing that was in memory before has changed. -/
import Derived.Test.YtckkkdldljhehabGreatKtGmN
import Derived.Test.YtckkkdldljhehabGreatKtGmAc
import Derived.Test.YtckkkdldljhehabGreatKtGmS
import Derived.Test.YtckkkdldljhehabGreatKtGmW
namespace Go.Proofs.YtckkkdldljhehabGreat.Gm
open Go.Proofs.YtckkkdldljhehabGreat.Num Go.Proofs.YtckkkdldljhehabGreat.St Go.Proofs.YtckkkdldljhehabGreat.Wd
open Go.ChangeShapes Go.WideShapes Go.ChangeAt Go.RowKit

theorem within_tests {x half wide : Int} (h : InX x half wide) : (decide (x < half)) = false ∧ (decide (x > max half (wide - half))) = false := by
  unfold InX at h
  simp only [decide_eq_false_iff_not]
  omega
set_option maxHeartbeats 2000000 in
set_option maxRecDepth 100000 in
theorem lookWithin {F : Nat → Prop} {b : Nat} {s : Gp} {w : World} (hG : Gam w F b s) (hg : GoodG s) (a : Ac) (c n : Int) (hw : a.kind = 6 → c = 0 → ∀ v, v ∈ idsOf 11 s.now.L → InX (rw0 s.now.L v).x (rw0 s.now.L v).wd s.now.wide ∧ InX (rw0 s.now.L v).y (rw0 s.now.L v).ht s.now.high) (ai am : Option Addr) (li ci lm cm : Nat) :
    Calls Tryz.prog 33 #[.pointer (some ⟨b, 0, none⟩), actA a, .agg #[.int .i64 c, .int .i64 n, .slice ai li ci, .slice am lm cm]] w fun e w' => e = .returned (.bool true) ∧ Below w.heap.size w w' := by
  obtain ⟨k, id, nn, mask, row, box⟩ := a
  by_cases hk : k = 6
  case neg =>
    have b1 : (k != 6) = true := by simpa using hk
    go_enter Tryz.func33, Tryz.ntmps33
    go_wp2_with fail
    go_ret
    exact ⟨rfl, by repeat (first | with_reducible exact Below.refl _ _ | with_reducible refine bal ?_ _)⟩
  case pos =>
  subst hk
  by_cases hc : c = 0
  case neg =>
    have b1 : (c != 0) = true := by simpa using hc
    go_enter Tryz.func33, Tryz.ntmps33
    go_wp2_with fail
    go_ret
    exact ⟨rfl, by repeat (first | with_reducible exact Below.refl _ _ | with_reducible refine bal ?_ _)⟩
  case pos =>
  subst hc
  have HWI := St.hid (hw rfl rfl)
  have HG := St.hid hG
  have HGL := St.hid hg.now.l
  have hwd := hg.now.wide
  have hhg := hg.now.high
  clear hG hg hw
  go_enter Tryz.func33, Tryz.ntmps33
  go_wp2_with fail
  refine (world_any (HG.out.below (bal (bal (Below.refl _ _) _) _))).mono ?_
  rintro e w1 ⟨⟨a1, n1, c1, rfl, F1, hs1, -⟩, hb1⟩
  have HB1 := St.hid (bcall (bal (bal (Below.refl _ w) _) _) hb1)
  have HS1 := St.hid hs1
  clear hs1 hb1 HG
  generalize s.now.L = L at HS1 HWI HGL
  generalize s.now.next = next at HGL ⊢
  generalize s.now.fall = fall
  generalize s.now.wide = wide at hwd HWI ⊢
  generalize s.now.high = high at hhg HWI ⊢
  go_wp2_with fail
  have hW0 := St.hid (rowIs5 w1 (.slice a1 n1 c1) next fall wide high 26)
  have HS2 := St.hid (HS1.out.below (bal (Below.refl _ _) (.cells #[.slice a1 n1 c1, .int .i64 next, .int .i64 fall, .int .i64 wide, .int .i64 high] 26)))
  have HB2 := St.hid (bal HB1.out (.cells #[.slice a1 n1 c1, .int .i64 next, .int .i64 fall, .int .i64 wide, .int .i64 high] 26))
  generalize hwb : w1.heap.size = wb at hW0 ⊢
  generalize w1.alloc (.cells #[.slice a1 n1 c1, .int .i64 next, .int .i64 fall, .int .i64 wide, .int .i64 high] 26) = W2 at hW0 HS2 HB2 ⊢
  refine (HS2.out.query HGL.out next 11).mono ?_
  rintro e w3 ⟨⟨ai, ci, rfl, hid1⟩, hb3⟩
  obtain ⟨N, hN⟩ : ∃ N, N = (idsOf 11 L).length := ⟨_, rfl⟩
  have hN10 : N ≤ 10 := by rw [hN]; exact ids_len HGL.out
  rw [← hN] at hid1 ⊢
  have HW3 := St.hid (rowIs_below hW0.out hb3)
  have HS3 := St.hid (HS2.out.below hb3)
  have HB3 := St.hid (bcall HB2.out hb3)
  have HI3 := St.hid hid1
  have HN := St.hid hN
  clear hb3 hid1 hN hW0 HS2 HB2 HS1 HB1
  go_wp2_with fail
  go_loopw [27] (fun i wr => ∃ k : Nat, k ≤ N ∧ i = .int .i64 k ∧ Hid (Below w3.heap.size w3 wr)) (fun i _ => N - (intOf i).toNat)
  case atStart => exact ⟨0, Nat.zero_le _, rfl, Below.refl _ _⟩
  case round =>
    obtain ⟨k, hk, rfl, hB⟩ := hrel
    by_cases hlt : k < N
    · obtain ⟨idk, hidk⟩ : ∃ x, (idsOf 11 L)[k]? = some x := ⟨_, List.getElem?_eq_getElem (by have := HN.out; omega)⟩
      have hmem : idk ∈ idsOf 11 L := List.mem_of_getElem? hidk
      obtain ⟨m, q, hat, hm⟩ := (mem_ids HGL.out.even).1 hmem
      have hin := HWI.out idk hmem
      rw [(at_mk HGL.out.2.2.2.2.2 hat).2] at hin
      obtain ⟨b1, b2, b3, b4, b5, b6, b7, b8⟩ := row_bounds (At.good HGL.out hat).1
      obtain ⟨t1, t2⟩ := within_tests hin.1
      obtain ⟨t3, t4⟩ := within_tests hin.2
      have HI := St.hid (owns_below HI3.out hB.out)
      obtain ⟨gi, cc, hai⟩ := own_some HI.out (by omega)
      simp only [Value.slice.injEq] at hai
      obtain ⟨rfl, -, rfl⟩ := hai
      have i0 : wr.cell? ⟨gi, k, none⟩ = some (.int .i64 idk) := by rw [HI.out.cellAt k (by omega), List.getElem?_map, hidk]; rfl
      have hlt' : (k : Int) < (N : Int) := by omega
      have hgi := (HI.out.lt gi rfl).2
      have HGET := St.hid ((HS3.out.below hB.out).get_some HGL.out next idk m q hat)
      obtain ⟨x0, x1, x2, x3, x4, -, -, -, -, -⟩ := wcells (rowIs_below HW3.out hB.out)
      clear hidk hmem hat hm hin HI
      go_wp2_with fail
      refine HGET.out.mono ?_
      rintro e w4 ⟨rfl, hb4⟩
      clear x0 x1 x2 x3 x4 i0
      obtain ⟨x0, x1, x2, x3, x4, -, -, -, -, -⟩ := wcells (rowIs_below (rowIs_below HW3.out hB.out) hb4)
      have hzz := (rowIs_below (rowIs_below HW3.out hB.out) hb4).lt
      have HB4 := St.hid (bcall hB.out hb4)
      have hw1 : wrap64 (wide - q.wd) = wide - q.wd := by unfold wrap64; omega
      have hw2 : wrap64 (high - q.ht) = high - q.ht := by unfold wrap64; omega
      clear hb4 HGET
      go_wp2_with fail
      go_roundw
      case rel => exact ⟨k + 1, by omega, by go_num, bal HB4.out _⟩
      case measure => simp [intOf]; omega
    · go_wp2_with fail
      go_ret
      exact ⟨rfl, bcall HB3.out hB.out⟩
end Go.Proofs.YtckkkdldljhehabGreat.Gm
