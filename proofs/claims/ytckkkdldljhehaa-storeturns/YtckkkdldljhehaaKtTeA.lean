/- What things of package ninepinslaw answers when called: true; and the plain lemmas of StoreTells: who has all parts of a mask, by the tables and by the things by number. -/
import Derived.Test.YtckkkdldljhehaaKtStQueries
import Derived.Test.YtckkkdldljhehaaKtStThings
import Derived.Test.YtckkkdldljhehaaKtThD
import Derived.Test.YtckkkdldljhehaaKtThG
import Derived.Test.YtckkkdldljhehaaKtSwW
import Derived.Test.YtckkkdldljhehaaKtCpR
import Derived.Test.YtckkkdldljhehaaKtCpC
import Derived.Test.YtckkkdldljhehaaKtStGetX
namespace Go.Proofs.Ytckkkdldljhehaa.Te
open Go.Proofs.Ytckkkdldljhehaa.Num Go.Proofs.Ytckkkdldljhehaa.St Go.Proofs.Ytckkkdldljhehaa.Mp Go.Proofs.Ytckkkdldljhehaa.Th
open Go.ChangeShapes Go.WideShapes Go.ChangeAt Go.RowKit

theorem and31 (n : Int) : bits .and .i64 n 31 = n % 32 := by
  have h31 : (BitVec.ofInt 64 31).toNat = 2 ^ 5 - 1 := by decide
  have key : (BitVec.ofInt 64 n &&& BitVec.ofInt 64 31).toNat = (n % ((2 ^ 64 : Nat) : Int)).toNat % 2 ^ 5 := by
    rw [BitVec.toNat_and, BitVec.toNat_ofInt, h31, Nat.and_two_pow_sub_one_eq_mod]
  show IntKind.i64.wrap ((BitVec.ofInt 64 n &&& BitVec.ofInt 64 31).toNat : Nat) = n % 32
  rw [key, IntKind.wrap_i64]
  omega
/-- Who has all parts of a mask. -/
theorem hav_eq {next m : Int} {L : List Tab} (hg : GoodL next L) : ((gathL m L).mergeSort fun x y => decide (x ≤ y)) = havM m (thM L) := by
  have hnd : (gathL m L).Nodup := (gathL_sub m L).nodup hg.2.2.2.2.2
  have hs1 : ((gathL m L).mergeSort fun x y => decide (x ≤ y)).Pairwise (· < ·) := by
    rw [List.pairwise_iff_getElem]
    intro i j hi hj hij
    exact sorted_get hnd hij (List.getElem?_eq_getElem hi) (List.getElem?_eq_getElem hj)
  have hs2 : (havM m (thM L)).Pairwise (· < ·) := keys_up (List.Pairwise.filter _ (thM_up L))
  refine up_ext hs1 hs2 (fun x => ?_)
  rw [(List.mergeSort_perm _ _).mem_iff]
  unfold havM
  rw [List.mem_map]
  constructor
  · intro hx
    obtain ⟨h1, h2⟩ := gath_at hg hx
    obtain ⟨q, r, hat⟩ := at_of_mem hg.even h1
    exact ⟨(x, ⟨q, r⟩), List.mem_filter.2 ⟨getM_mem ((thM_get hg.even hg.2.2.2.2.2).2 hat), h2 q r hat⟩, rfl⟩
  · rintro ⟨p, hp, rfl⟩
    obtain ⟨h1, h2⟩ := List.mem_filter.1 hp
    have hat := (thM_get hg.even hg.2.2.2.2.2).1 (getM_of_mem (thM_up L) (k := p.1) (t := p.2) h1)
    obtain ⟨t, ht, hm, j, hj, -⟩ := hat
    refine List.mem_flatMap.2 ⟨t, ht, ?_⟩
    rw [hm, if_pos h2]
    exact List.mem_of_getElem? hj
theorem hav_len {next m : Int} {L : List Tab} (hg : GoodL next L) : (havM m (thM L)).length ≤ 10 := by
  have h1 := havM_len m (thM L)
  rw [thM_len hg.even hg.2.2.2.2.2] at h1
  exact Nat.le_trans h1 hg.2.1
/-- Query's answer, as the things by number tell it. -/
theorem query_have {w : World} {a : Option Addr} {n : Nat} {T : Nat → TabV} {I : Nat → Nat → Int} {R : Nat → Nat → R8} (h : StoreIn w a n T I R) {next : Int} (hgl : GoodL next (plainOf T I R n)) (cap : Nat) (mm : Int) :
    Calls Try.prog 35 #[.agg #[.slice a n cap, .int .i64 next], .int .i64 mm] w fun e w' => (∃ u, e = .returned u ∧ Rp.IntsR w' u (havM mm (thM (plainOf T I R n)))) ∧ Below w.heap.size w w' := by
  have hnz : n ≤ 9223372036854775807 := by have := h.fits.1; omega
  refine (query_any a n cap next mm T I w (by unfold maxLen; omega) h.tabs h.ids ?_ ?_).mono ?_
  · intro i hi
    have := (hgl.2.2.2.2.1 _ (mem_plain.2 ⟨i, hi, rfl⟩)).1
    simp [tabOf] at this
    omega
  · intro k hk
    have h1 := gath_mono T I mm hk
    rw [gath_eq T I R mm n] at h1
    have h2 := (gathL_sub mm (plainOf T I R n)).length_le
    have h3 := hgl.2.1
    omega
  · rintro e w' ⟨⟨v, rfl, ho⟩, hb⟩
    rw [gath_eq T I R mm n, hav_eq hgl] at ho
    exact ⟨⟨v, rfl, Rp.IntsR.own ho (by rw [← hav_eq hgl]; simp)⟩, hb⟩
/-- The rows' parts. -/
theorem only_same (m x y px py wd ht ms rr : Int) (h : 0 ≤ m ∧ m ≤ 31) (w : World) :
    Calls Try.prog 29 #[.int .i64 m, .agg #[.int .i64 x, .int .i64 y, .int .i64 px, .int .i64 py, .int .i64 wd, .int .i64 ht, .int .i64 ms, .int .i64 rr]] w
      fun e w' => e = .returned (rowV (onlyR m ⟨x, y, px, py, wd, ht, ms, rr⟩)) ∧ Below w.heap.size w w' := by
  rw [← onlyH_eq h]
  exact onlyOf_any m ⟨by omega, by omega⟩ x y px py wd ht ms rr w
set_option maxHeartbeats 1000000 in
set_option maxRecDepth 100000 in
theorem thingsL_any (w : World) : Calls Try.prog 31 #[] w fun e w' => e = .returned (.bool true) ∧ Below w.heap.size w w' := by
  go_enter Try.func31, Try.ntmps31
  go_wp2_with fail
  refine (spawn_empty _).mono ?_
  rintro e w1 ⟨⟨a, c, rfl, T, I, R, hin, hpl⟩, hb1⟩
  have HIN := hid hin
  have HPL := hid hpl
  have HB1 := hid hb1
  clear hin hpl hb1
  go_wp2_with fail
  refine ((HIN.out.below (bal (Below.refl _ _) _)).get (by rw [HPL.out]; exact good_one.even) c 1 0).mono ?_
  rintro e w2 ⟨he, hb2⟩
  have hat : ∃ m r, e = .returned (.tuple #[.int .i64 m, .agg #[.int .i64 r.x, .int .i64 r.y, .int .i64 r.px, .int .i64 r.py, .int .i64 r.wd, .int .i64 r.ht, .int .i64 r.ms, .int .i64 r.rr], .bool true]) ∧ m = 9 ∧ r = r32 := by
    rw [HPL.out] at he
    rcases he with ⟨_, h⟩ | ⟨m, r, rfl, h⟩
    · exact absurd (by simp [allL]) h
    · have h9 : At [⟨9, [0], [r32]⟩] 0 9 r32 := ⟨_, List.mem_singleton.2 rfl, rfl, 0, rfl, rfl⟩
      obtain ⟨rfl, rfl⟩ := at_unique good_one.2.2.2.2.2 h h9
      exact ⟨_, _, rfl, rfl, rfl⟩
  obtain ⟨m, r, rfl, rfl, rfl⟩ := hat
  have hz2 := hb2.size
  simp at hz2
  have s0 := hb2.cell (p := ⟨w1.heap.size, 0, none⟩) (by simp)
  have s1 := hb2.cell (p := ⟨w1.heap.size, 1, none⟩) (by simp)
  simp at s0 s1
  have HB2 : Hid (Below w1.heap.size w1 w2) := hid (bcall (bal (Below.refl _ _) _) hb2)
  have hs12 : w1.heap.size < w2.heap.size := by omega
  clear he hb2
  simp only [r32]
  go_wp2_with (go_at_call 33; refine ((HIN.out.below (bcall HB2.out (bal (Below.refl _ _) _))).size (next := 1) (by rw [HPL.out]; exact good_one) c 1).mono ?_; rintro e w3 ⟨rfl, hb3⟩; rw [HPL.out])
  go_ret
  exact ⟨ret_bool rfl, bcall (bcall (bcall HB1.out HB2.out) (bal (Below.refl _ _) _)) hb3⟩
end Go.Proofs.Ytckkkdldljhehaa.Te
