/- What passOn and moveApart of package solve do when called with two pointers: the two cells hold the plain numbers of the texts before, and no other cell that was in memory before has changed. Conditions: the two cells are of two rows, are not frozen, and hold numbers within bounds; the masses are from 0 to 9; the way is 1 or -1. -/
import Derived.Test.YtckkkdldljhehaaSoA
import Derived.Deep.OwnRows
namespace Go.Proofs.Ytckkkdldljhehaa
open Go.ChangeShapes Go.WideShapes Go.ChangeAt Go.RowKit
open Num

/-- All blocks but two are as they were. -/
structure Kept (ga gb : Nat) (w w' : World) : Prop where
  os : w'.os = w.os
  tape : w'.tape = w.tape
  output : w'.output = w.output
  size : w.heap.size ≤ w'.heap.size
  block : ∀ k, k < w.heap.size → k ≠ ga → k ≠ gb → w'.heap[k]? = w.heap[k]?
theorem Kept.of {ga gb : Nat} {w w' : World} (h : Below w.heap.size w w') : Kept ga gb w w' := ⟨h.os, h.tape, h.output, h.size, fun k hk _ _ => h.block k hk⟩
theorem Kept.trans {ga gb : Nat} {a b c : World} (h : Kept ga gb a b) (k : Kept ga gb b c) : Kept ga gb a c :=
  ⟨k.os.trans h.os, k.tape.trans h.tape, k.output.trans h.output, Nat.le_trans h.size k.size, fun i hi h1 h2 => (k.block i (Nat.lt_of_lt_of_le hi h.size) h1 h2).trans (h.block i hi h1 h2)⟩
theorem Kept.setA {ga gb : Nat} {a w : World} (h : Kept ga gb a w) (i : Nat) (v : Value) : Kept ga gb a (w.setCell ⟨ga, i, none⟩ v) :=
  ⟨h.os, h.tape, h.output, by simpa using h.size, fun k hk h1 h2 => (Below.heap_setCell w _ v k h1).trans (h.block k hk h1 h2)⟩
theorem Kept.setB {ga gb : Nat} {a w : World} (h : Kept ga gb a w) (i : Nat) (v : Value) : Kept ga gb a (w.setCell ⟨gb, i, none⟩ v) :=
  ⟨h.os, h.tape, h.output, by simpa using h.size, fun k hk h1 h2 => (Below.heap_setCell w _ v k h2).trans (h.block k hk h1 h2)⟩
theorem Kept.below {ga gb B : Nat} {w w' : World} (h : Kept ga gb w w') (h1 : B ≤ ga) (h2 : B ≤ gb) (h3 : B ≤ w.heap.size) : Below B w w' :=
  ⟨h.os, h.tape, h.output, h.size, fun k hk => h.block k (by omega) (by omega) (by omega)⟩

theorem Kept.alloc {ga gb : Nat} {a w : World} (h : Kept ga gb a w) (o : Obj) : Kept ga gb a (w.alloc o) :=
  ⟨h.os, h.tape, h.output, by have := h.size; rw [World.size_alloc]; omega, fun k hk h1 h2 => (Below.heap_alloc w o k (Nat.lt_of_lt_of_le hk h.size)).trans (h.block k hk h1 h2)⟩
theorem Kept.refl (ga gb : Nat) (w : World) : Kept ga gb w w := ⟨rfl, rfl, rfl, Nat.le_refl _, fun _ _ _ _ => rfl⟩
theorem row_fin {W : World} {b t n i : Nat} {f : Nat → Value} {v v' : Int} (h : W.rowIs b t n (fun j => if j = i then .int .i64 v else f j)) (e : v = v') : W.rowIs b t n (fun j => if j = i then .int .i64 v' else f j) := e ▸ h

theorem near_zero (p q way : Int) : nearOf p q 0 0 way = 0 := by simp [nearOf, spd, pa]

set_option maxHeartbeats 1000000 in
theorem passOn_any (m n p q back way : Int) (ga gb i : Nat) (f g : Nat → Value) (w : World) (hm : 0 ≤ m ∧ m ≤ 9) (hn : 0 ≤ n ∧ n ≤ 9) (hp : -16777216 ≤ p ∧ p ≤ 16777216) (hq : -16777216 ≤ q ∧ q ≤ 16777216)
    (hb : 0 ≤ back ∧ back ≤ 256) (hw : way = 1 ∨ way = -1) (ra : w.rowIs ga 30 8 f) (rb : w.rowIs gb 30 8 g) (hi : i < 8) (fi : f i = .int .i64 p) (gi : g i = .int .i64 q) (hne : ga ≠ gb) :
    Calls Try.prog 96 #[.agg #[.int .i64 m, .int .i64 n], .pointer (some ⟨ga, i, none⟩), .pointer (some ⟨gb, i, none⟩), .int .i64 back, .int .i64 way] w
      fun e w' => e = .returned (.tuple #[]) ∧ w'.rowIs ga 30 8 (fun k => if k = i then .int .i64 (pushA p q m n back way) else f k) ∧ w'.rowIs gb 30 8 (fun k => if k = i then .int .i64 (pushB p q m n back way) else g k) ∧ Kept ga gb w w' := by
  have h1 := spd_le p m 16777216 (by omega) hp
  have h2 := spd_le q n 16777216 (by omega) hq
  have h3 := near_le p q m n way 16777216 (by omega) hp hq hw
  have h4 := times_le m n hm hn
  have h5 := sum_le m n hm hn
  have h6 := mul_le' _ _ _ _ h3 h4
  have h7 := pa_le (nearOf p q m n way * timesOf m n) (256 + back) (sumOf m n * 256)
  have h8 : -72057594037927936 ≤ passed p q m n back way ∧ passed p q m n back way ≤ 72057594037927936 := by
    unfold passed; rcases hw with rfl | rfl <;> omega
  have ca := ra.cell hi
  have cb := rb.cell hi
  have fa := ra.frozen i
  have fb := rb.frozen i
  have la := ra.lt
  have lb := rb.lt
  rw [fi] at ca
  rw [gi] at cb
  have en : (spd p m - spd q n) * way = nearOf p q m n way := rfl
  have ep : pa (nearOf p q m n way * timesOf m n) (256 + back) (sumOf m n * 256) * way = passed p q m n back way := rfl
  by_cases c1 : nearOf p q m n way ≤ 0
  · have eA : pushA p q m n back way = p := by unfold pushA; rw [if_pos (.inl c1)]
    have eB : pushB p q m n back way = q := by unfold pushB; rw [if_pos (.inl c1)]
    rw [eA, eB]
    have HA : Hid (w.rowIs ga 30 8 (fun k => if k = i then .int .i64 p else f k)) := ra.congr (fun k _ => by split <;> simp_all)
    have HB : Hid (w.rowIs gb 30 8 (fun k => if k = i then .int .i64 q else g k)) := rb.congr (fun k _ => by split <;> simp_all)
    clear ra rb h6 h7 h8 ep h4 h5 eA eB fi gi
    unfold nearOf at *
    go_enter Try.func96, Try.ntmps96
    go_wp2
    go_quiet (first | (go_at_call 93; exact Calls.quiet_of_same (speed_any _ _ _)))
    go_wp2
    have hbl : ∀ N : Nat, Below w.heap.size w ((w.alloc (Obj.cells #[Value.int IntKind.i64 m, Value.int IntKind.i64 n] 119)).drewN N) := fun N => bdrewN (bal (Below.refl _ _) _) N
    exact bodyPost_ret (by simp [results, Try.results96, go_sem]) rfl ⟨rfl, HA.out.of_block ((hbl _).block _ la), HB.out.of_block ((hbl _).block _ lb), Kept.of (hbl _)⟩
  by_cases c2 : m = 0
  · by_cases c3 : n = 0
    · subst c2 c3; rw [near_zero] at c1; omega
    · have eA : pushA p q m n back way = p := by unfold pushA; rw [if_pos (.inr (by omega))]
      have eB : pushB p q m n back way = ad q (passed p q m n back way) 16777216 := by unfold pushB; rw [if_neg (by omega)]
      rw [eA, eB]
      have HA : Hid (w.rowIs ga 30 8 f) := ra
      have HB : Hid (w.rowIs gb 30 8 g) := rb
      have e1 : (m == 0) = true := by simp; omega
      have e2 : (n == 0) = false := by simp; omega
      clear ra rb ep en eA eB c2 c3
      unfold passed nearOf at *
      go_enter Try.func96, Try.ntmps96
      go_wp2
      go_quiet (first | (go_at_call 93; exact Calls.quiet_of_same (speed_any _ _ _)))
      go_wp2_with fail
      refine (weigh_any m n hm hn _).mono ?_
      rintro e w1 ⟨rfl, hb1⟩
      obtain ⟨hc, hf⟩ := bcell hb1
      have hz := hb1.size
      simp at hz hc hf
      have hbl : Hid (Below w.heap.size w w1) := bcall (bdrewN (bal (Below.refl _ _) _) _) hb1
      clear hb1
      go_wp2_with (first | (go_at_call 20; refine (part_any _ _ _ _).mono ?_; rintro e w' ⟨rfl, rfl⟩) | (go_at_call 18; refine (add_any _ _ _ (by omega) (by omega) _).mono ?_; rintro e w' ⟨rfl, rfl⟩))
      exact bodyPost_end (by simp [results, Try.results96, go_sem]) rfl ⟨rfl, ((HA.out.of_block (hbl.out.block _ la)).setOther hne _).congr (fun k _ => by split <;> simp_all), (HB.out.of_block (hbl.out.block _ lb)).set i _, (Kept.of hbl.out).setB i _⟩
  by_cases c3 : n = 0
  · have eA : pushA p q m n back way = ad p (-(passed p q m n back way)) 16777216 := by unfold pushA; rw [if_neg (by omega)]
    have eB : pushB p q m n back way = q := by unfold pushB; rw [if_pos (.inr (by omega))]
    rw [eA, eB]
    have HA : Hid (w.rowIs ga 30 8 f) := ra
    have HB : Hid (w.rowIs gb 30 8 g) := rb
    have e1 : (m == 0) = false := by simp; omega
    have e2 : (n == 0) = true := by simp; omega
    clear ra rb ep en eA eB c2 c3
    unfold passed nearOf at *
    go_enter Try.func96, Try.ntmps96
    go_wp2
    go_quiet (first | (go_at_call 93; exact Calls.quiet_of_same (speed_any _ _ _)))
    go_wp2_with fail
    refine (weigh_any m n hm hn _).mono ?_
    rintro e w1 ⟨rfl, hb1⟩
    obtain ⟨hc, hf⟩ := bcell hb1
    have hz := hb1.size
    simp at hz hc hf
    have hbl : Hid (Below w.heap.size w w1) := bcall (bdrewN (bal (Below.refl _ _) _) _) hb1
    clear hb1
    go_wp2_with (first | (go_at_call 20; refine (part_any _ _ _ _).mono ?_; rintro e w' ⟨rfl, rfl⟩) | (go_at_call 18; refine (add_any _ _ _ (by omega) (by omega) _).mono ?_; rintro e w' ⟨rfl, rfl⟩))
    exact bodyPost_end (by simp [results, Try.results96, go_sem]) rfl ⟨rfl, (HA.out.of_block (hbl.out.block _ la)).set i _, ((HB.out.of_block (hbl.out.block _ lb)).setOther hne.symm _).congr (fun k _ => by split <;> simp_all), (Kept.of hbl.out).setA i _⟩
  · have eA : pushA p q m n back way = ad p (-(passed p q m n back way)) 16777216 := by unfold pushA; rw [if_neg (by omega)]
    have eB : pushB p q m n back way = ad q (passed p q m n back way) 16777216 := by unfold pushB; rw [if_neg (by omega)]
    rw [eA, eB]
    have HA : Hid (w.rowIs ga 30 8 f) := ra
    have HB : Hid (w.rowIs gb 30 8 g) := rb
    have e1 : (m == 0) = false := by simp; omega
    have e2 : (n == 0) = false := by simp; omega
    clear ra rb ep en eA eB c2 c3
    unfold passed nearOf at *
    go_enter Try.func96, Try.ntmps96
    go_wp2
    go_quiet (first | (go_at_call 93; exact Calls.quiet_of_same (speed_any _ _ _)))
    go_wp2_with fail
    refine (weigh_any m n hm hn _).mono ?_
    rintro e w1 ⟨rfl, hb1⟩
    obtain ⟨hc, hf⟩ := bcell hb1
    have hz := hb1.size
    simp at hz hc hf
    have hbl : Hid (Below w.heap.size w w1) := bcall (bdrewN (bal (Below.refl _ _) _) _) hb1
    clear hb1
    go_wp2_with (first | (go_at_call 20; refine (part_any _ _ _ _).mono ?_; rintro e w' ⟨rfl, rfl⟩) | (go_at_call 18; refine (add_any _ _ _ (by omega) (by omega) _).mono ?_; rintro e w' ⟨rfl, rfl⟩))
    exact bodyPost_end (by simp [results, Try.results96, go_sem]) rfl ⟨rfl, ((HA.out.of_block (hbl.out.block _ la)).set i _).setOther hne _, ((HB.out.of_block (hbl.out.block _ lb)).setOther hne.symm _).set i _, ((Kept.of hbl.out).setA i _).setB i _⟩

set_option maxHeartbeats 1000000 in
theorem moveApart_any (m n a b d way : Int) (ga gb i : Nat) (f g : Nat → Value) (w : World) (hd : 0 ≤ d ∧ d ≤ 8192)
    (hw : way = 1 ∨ way = -1) (ra : w.rowIs ga 30 8 f) (rb : w.rowIs gb 30 8 g) (hi : i < 8) (fi : f i = .int .i64 a) (gi : g i = .int .i64 b) (hne : ga ≠ gb) :
    Calls Try.prog 97 #[.agg #[.int .i64 m, .int .i64 n], .pointer (some ⟨ga, i, none⟩), .pointer (some ⟨gb, i, none⟩), .int .i64 d, .int .i64 way] w
      fun e w' => e = .returned (.tuple #[]) ∧ w'.rowIs ga 30 8 (fun k => if k = i then .int .i64 (atA a m n d way) else f k) ∧ w'.rowIs gb 30 8 (fun k => if k = i then .int .i64 (atB b m n d way) else g k) ∧ Kept ga gb w w' := by
  have h1 := share_le m n d hd.1
  have ca := ra.cell hi
  have cb := rb.cell hi
  have fa := ra.frozen i
  have fb := rb.frozen i
  have la := ra.lt
  have lb := rb.lt
  rw [fi] at ca
  rw [gi] at cb
  have HA : Hid (w.rowIs ga 30 8 f) := ra
  have HB : Hid (w.rowIs gb 30 8 g) := rb
  clear ra rb fi gi
  unfold atA atB
  by_cases c2 : m = 0
  · have e1 : (m == 0) = true := by simp [c2]
    have h2 : shareOf m n d = 0 := by unfold shareOf; rw [if_pos c2]
    rw [h2] at h1 ⊢
    clear h2 c2
    rcases hw with rfl | rfl
    all_goals
      go_enter Try.func97, Try.ntmps97
      go_wp2_with (first | (go_at_call 18; refine (add_any _ _ _ (by omega) (by omega) _).mono ?_; rintro e w' ⟨rfl, rfl⟩))
      exact bodyPost_end (by simp [results, Try.results97, go_sem]) rfl ⟨rfl, row_fin (((HA.out.set i _).setOther hne _).alloc _) (by congr 1 <;> omega), row_fin (((HB.out.setOther hne.symm _).set i _).alloc _) (by congr 1 <;> omega), (((Kept.refl ga gb w).setA i _).setB i _).alloc _⟩
  by_cases c3 : n = 0
  · have e1 : (m == 0) = false := by simp [c2]
    have e2 : (n == 0) = true := by simp [c3]
    have h2 : shareOf m n d = d := by unfold shareOf; rw [if_neg c2, if_pos c3]
    rw [h2] at h1 ⊢
    clear h2 c2 c3
    rcases hw with rfl | rfl
    all_goals
      go_enter Try.func97, Try.ntmps97
      go_wp2_with (first | (go_at_call 18; refine (add_any _ _ _ (by omega) (by omega) _).mono ?_; rintro e w' ⟨rfl, rfl⟩))
      exact bodyPost_end (by simp [results, Try.results97, go_sem]) rfl ⟨rfl, row_fin (((HA.out.set i _).setOther hne _).alloc _) (by congr 1 <;> omega), row_fin (((HB.out.setOther hne.symm _).set i _).alloc _) (by congr 1 <;> omega), (((Kept.refl ga gb w).setA i _).setB i _).alloc _⟩
  · have e1 : (m == 0) = false := by simp [c2]
    have e2 : (n == 0) = false := by simp [c3]
    have h2 : shareOf m n d = d / 2 := by unfold shareOf; rw [if_neg c2, if_neg c3, Int.tdiv_eq_ediv_of_nonneg hd.1]
    rw [h2] at h1 ⊢
    clear h2 c2 c3
    rcases hw with rfl | rfl
    all_goals
      go_enter Try.func97, Try.ntmps97
      go_wp2_with (first | (go_at_call 18; refine (add_any _ _ _ (by omega) (by omega) _).mono ?_; rintro e w' ⟨rfl, rfl⟩))
      exact bodyPost_end (by simp [results, Try.results97, go_sem]) rfl ⟨rfl, row_fin (((HA.out.set i _).setOther hne _).alloc _) (by congr 1 <;> omega), row_fin (((HB.out.setOther hne.symm _).set i _).alloc _) (by congr 1 <;> omega), (((Kept.refl ga gb w).setA i _).setB i _).alloc _⟩
end Go.Proofs.Ytckkkdldljhehaa
