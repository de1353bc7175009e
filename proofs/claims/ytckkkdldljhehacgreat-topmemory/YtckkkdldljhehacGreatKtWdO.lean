/- What same of package ninepinstop answers of two worlds that have the same things: true; nothing that was in memory before has changed. -/
import Derived.Test.YtckkkdldljhehacGreatKtWdQ
namespace Go.Proofs.YtckkkdldljhehacGreat.Wd
open Go.Proofs.YtckkkdldljhehacGreat.Num Go.Proofs.YtckkkdldljhehacGreat.St
open Go.ChangeShapes Go.WideShapes Go.ChangeAt Go.RowKit

set_option maxHeartbeats 4000000 in
set_option maxRecDepth 100000 in
theorem same_true {Fa Fb : Nat → Prop} {va vb : Value} {La Lb : List Tab} {w : World} (next fall wide high : Int) (ha : Sto w Fa va La) (hb : Sto w Fb vb Lb) (ga : GoodL next La) (gb : GoodL next Lb) (hs : SameAt La Lb) :
    Calls Tryz.prog 16 #[.agg #[va, .int .i64 next, .int .i64 fall, .int .i64 wide, .int .i64 high], .agg #[vb, .int .i64 next, .int .i64 fall, .int .i64 wide, .int .i64 high]] w fun e w' => e = .returned (.bool true) ∧ Below w.heap.size w w' := by
  have HA := St.hid ha
  have HB := St.hid hb
  have HLN := St.hid (all_same ga gb hs)
  obtain ⟨aa, na, ca, T, I, R, rfl, hin, hpl⟩ := ha.in_
  obtain ⟨ab, nb, cb, rfl⟩ := hb.one
  have HIN := St.hid hin
  have hnz : na ≤ 9223372036854775807 := by have := hin.fits.1; omega
  have HZA : Hid (∀ W', Below w.heap.size w W' → Calls Tryz.prog 41 #[.agg #[.slice aa na ca, .int .i64 next]] W' fun e w' => e = .returned (.int .i64 (allL La).length) ∧ Below W'.heap.size W' w') := St.hid (fun W' hb => (HA.out.below hb).size ga next)
  have HZB : Hid (∀ W', Below w.heap.size w W' → Calls Tryz.prog 41 #[.agg #[.slice ab nb cb, .int .i64 next]] W' fun e w' => e = .returned (.int .i64 (allL La).length) ∧ Below W'.heap.size W' w') := St.hid (fun W' hb => by
    have := (HB.out.below hb).size gb next
    rw [← HLN.out] at this
    exact this)
  have HAT : Hid (∀ i, i < na → ∀ j, j < (T i).il → ∃ m r, At La (I i j) m r ∧ At Lb (I i j) m r) := St.hid (fun i hi j hj => by
    have hl := len_plain (T := T) (I := I) (R := R) (n := na) (i := i) (by rw [hpl]; exact ga) hi
    have h1 : At La (I i j) (T i).mask (R i j) := by rw [← hpl]; exact at_plain hi hj (by omega)
    exact ⟨_, _, h1, (hs _ _ _).1 h1⟩)
  have HGA := St.hid ga
  have HGB := St.hid gb
  generalize ((allL La).length : Int) = sz at HZA HZB
  clear ha hb ga gb hs hin hpl
  go_enter Tryz.func16, Tryz.ntmps16
  have hA0 := St.hid ((rowIs5 w (.slice aa na ca) next fall wide high 45).alloc (.cells #[.slice ab nb cb, .int .i64 next, .int .i64 fall, .int .i64 wide, .int .i64 high] 45))
  have hB0 := St.hid (rowIs5 (w.alloc (.cells #[.slice aa na ca, .int .i64 next, .int .i64 fall, .int .i64 wide, .int .i64 high] 45)) (.slice ab nb cb) next fall wide high 45)
  rw [World.size_alloc] at hB0
  have HB0 := St.hid (bal (bal (Below.refl _ w) (.cells #[.slice aa na ca, .int .i64 next, .int .i64 fall, .int .i64 wide, .int .i64 high] 45)) (.cells #[.slice ab nb cb, .int .i64 next, .int .i64 fall, .int .i64 wide, .int .i64 high] 45))
  go_wp2_with fail
  have hz0 : w.heap.size + 1 + 1 ≤ ((w.alloc (.cells #[.slice aa na ca, .int .i64 next, .int .i64 fall, .int .i64 wide, .int .i64 high] 45)).alloc (.cells #[.slice ab nb cb, .int .i64 next, .int .i64 fall, .int .i64 wide, .int .i64 high] 45)).heap.size := by simp
  generalize (w.alloc (.cells #[.slice aa na ca, .int .i64 next, .int .i64 fall, .int .i64 wide, .int .i64 high] 45)).alloc (.cells #[.slice ab nb cb, .int .i64 next, .int .i64 fall, .int .i64 wide, .int .i64 high] 45) = W at hA0 hB0 HB0 hz0 ⊢
  obtain ⟨x0, x1, x2, x3, x4, -, -, -, -, -⟩ := wcells (hA0.out)
  obtain ⟨y0, y1, y2, y3, y4, -, -, -, -, -⟩ := wcells (hB0.out)
  have HZA1 := St.hid (fun (W' : World) (hb : Below W.heap.size W W') => HZA.out W' (bcall HB0.out hb))
  have HZB1 := St.hid (fun (W' : World) (hb : Below W.heap.size W W') => HZB.out W' (bcall HB0.out hb))
  go_cut [51] (fun sc wx => sc = .bool false ∧ ∃ W1, W1 = wx ∧ Below W.heap.size W W1)
  case first =>
    clear HA HB HIN HAT HGA HGB HLN HZA HZB
    go_region_held3 (fun W' => W'.cell? ⟨w.heap.size, 0, none⟩ = some (.slice aa na ca) ∧ W'.cell? ⟨w.heap.size, 1, none⟩ = some (.int .i64 next) ∧ W'.cell? ⟨w.heap.size, 2, none⟩ = some (.int .i64 fall) ∧ W'.cell? ⟨w.heap.size, 3, none⟩ = some (.int .i64 wide) ∧ W'.cell? ⟨w.heap.size, 4, none⟩ = some (.int .i64 high) ∧ W'.cell? ⟨w.heap.size + 1, 0, none⟩ = some (.slice ab nb cb) ∧ W'.cell? ⟨w.heap.size + 1, 1, none⟩ = some (.int .i64 next) ∧ W'.cell? ⟨w.heap.size + 1, 2, none⟩ = some (.int .i64 fall) ∧ W'.cell? ⟨w.heap.size + 1, 3, none⟩ = some (.int .i64 wide) ∧ W'.cell? ⟨w.heap.size + 1, 4, none⟩ = some (.int .i64 high)) (exact ⟨x0, x1, x2, x3, x4, y0, y1, y2, y3, y4⟩)
      (first
      | (go_at_call 41; go_fit (HZA1.out _ (Below.drew (Below.refl _ W))); rintro e wa ⟨rfl, hba⟩; have HQ1 := St.hid (bcall (Below.drew (Below.refl _ W)) hba); clear hba x0 x1 x2 x3 x4 y0 y1 y2 y3 y4; obtain ⟨x0, x1, x2, x3, x4, -, -, -, -, -⟩ := wcells (rowIs_below hA0.out HQ1.out); obtain ⟨y0, y1, y2, y3, y4, -, -, -, -, -⟩ := wcells (rowIs_below hB0.out HQ1.out))
      | (go_at_call 41; go_fit (HZB1.out _ HQ1.out); rintro e wb ⟨rfl, hbb⟩; have HQ2 := St.hid (bcall HQ1.out hbb); clear hbb x0 x1 x2 x3 x4 y0 y1 y2 y3 y4; obtain ⟨x0, x1, x2, x3, x4, -, -, -, -, -⟩ := wcells (rowIs_below hA0.out HQ2.out); obtain ⟨y0, y1, y2, y3, y4, -, -, -, -, -⟩ := wcells (rowIs_below hB0.out HQ2.out)))
    all_goals
      go_wp2_with fail
      go_meet
      exact ⟨by simp, _, rfl, HQ2.out⟩
  case rest =>
  obtain ⟨rfl, W1, rfl, hb1⟩ := hcut
  have HB1 := St.hid hb1
  clear hb1 x0 x1 x2 x3 x4 y0 y1 y2 y3 y4
  obtain ⟨x0, x1, x2, x3, x4, -, -, -, -, -⟩ := wcells (rowIs_below hA0.out HB1.out)
  go_wp2_with fail
  go_loopw [56] (fun i wr => ∃ k : Nat, k ≤ na ∧ i = .int .i64 k ∧ Hid (Below W.heap.size W wr)) (fun i _ => na - (intOf i).toNat)
  case atStart => exact ⟨0, Nat.zero_le _, rfl, HB1.out⟩
  case round =>
    obtain ⟨k, hk, rfl, hB⟩ := hrel
    by_cases hlt : k < na
    · obtain ⟨b, off, rfl, hb, hc⟩ := (HIN.out.below (bcall HB0.out hB.out)).tabs (by omega)
      obtain ⟨t0, t1, t2⟩ := hc k hlt
      have hlt' : (k : Int) < (na : Int) := by omega
      have hIds := HIN.out.ids k hlt
      have hfit := (HIN.out.fits.2.2 k hlt)
      have HATK := St.hid (HAT.out k hlt)
      generalize T k = t at t0 t1 t2 hIds hfit HATK
      obtain ⟨tm, ia, il, ic, ra, rl, rc⟩ := t
      simp only at t0 t1 t2 hIds hfit HATK
      have HIDS := St.hid hIds
      have hilz : il ≤ 140737488355328 := by omega
      clear hIds hc hfit
      go_wp2_with fail
      have hB' := St.hid (bal hB.out (.cells #[.int .i64 tm, .slice ia il ic, .slice ra rl rc] 65))
      generalize wr.alloc (.cells #[.int .i64 tm, .slice ia il ic, .slice ra rl rc] 65) = W4 at hB' ⊢
      clear hB t0 t1 t2
      go_loopw [63] (fun i wr => ∃ j : Nat, j ≤ il ∧ i = .int .i64 j ∧ Hid (Below W.heap.size W wr)) (fun i _ => il - (intOf i).toNat)
      case atStart => exact ⟨0, Nat.zero_le _, rfl, hB'.out⟩
      case round =>
        obtain ⟨j, hj, rfl, hB⟩ := hrel
        by_cases hjl : j < il
        · obtain ⟨bi, oi, rfl, hbi, hci⟩ := (HIDS.out.below (bcall HB0.out hB.out)) (by omega)
          have i0 := hci j hjl
          obtain ⟨m, p, h1, h2⟩ := HATK.out j hjl
          generalize I k j = id at i0 h1 h2
          have HGX : Hid (∀ W', Below w.heap.size w W' → Calls Tryz.prog 19 #[.agg #[.slice (some ⟨b, off, none⟩) na ca, .int .i64 next], .int .i64 id] W' fun e w' => e = .returned (.tuple #[.int .i64 m, .agg #[.int .i64 p.x, .int .i64 p.y, .int .i64 p.px, .int .i64 p.py, .int .i64 p.wd, .int .i64 p.ht, .int .i64 p.ms, .int .i64 p.rr], .bool true]) ∧ Below W'.heap.size W' w') := St.hid (fun W' hb => (HA.out.below hb).get_some HGA.out next id m p h1)
          have HGY : Hid (∀ W', Below w.heap.size w W' → Calls Tryz.prog 19 #[.agg #[.slice ab nb cb, .int .i64 next], .int .i64 id] W' fun e w' => e = .returned (.tuple #[.int .i64 m, .agg #[.int .i64 p.x, .int .i64 p.y, .int .i64 p.px, .int .i64 p.py, .int .i64 p.wd, .int .i64 p.ht, .int .i64 p.ms, .int .i64 p.rr], .bool true]) ∧ Below W'.heap.size W' w') := St.hid (fun W' hb => (HB.out.below hb).get_some HGB.out next id m p h2)
          have hjl' : (j : Int) < (il : Int) := by omega
          clear h1 h2 hci x0 x1 x2 x3 x4
          obtain ⟨x0, x1, x2, x3, x4, -, -, -, -, -⟩ := wcells (rowIs_below hA0.out hB.out)
          obtain ⟨y0, y1, y2, y3, y4, -, -, -, -, -⟩ := wcells (rowIs_below hB0.out hB.out)
          go_wp2_with fail
          refine (HGX.out _ (bcall HB0.out hB.out)).mono ?_
          rintro e w5 ⟨rfl, hb5⟩
          have hP := St.hid (St.rowIs8 w5 p 34)
          have hB5 := St.hid (bal (bcall hB.out hb5) (.cells #[.int .i64 p.x, .int .i64 p.y, .int .i64 p.px, .int .i64 p.py, .int .i64 p.wd, .int .i64 p.ht, .int .i64 p.ms, .int .i64 p.rr] 34))
          clear hb5 i0 x0 x1 x2 x3 x4 y0 y1 y2 y3 y4
          have zz := hB5.out.size
          simp at zz
          have z0 : w.heap.size < w5.heap.size + 1 := by omega
          obtain ⟨x0, x1, x2, x3, x4, -, -, -, -, -⟩ := wcells (rowIs_below hA0.out hB5.out)
          obtain ⟨y0, y1, y2, y3, y4, -, -, -, -, -⟩ := wcells (rowIs_below hB0.out hB5.out)
          go_wp2_with fail
          generalize w5.alloc (.cells #[.int .i64 p.x, .int .i64 p.y, .int .i64 p.px, .int .i64 p.py, .int .i64 p.wd, .int .i64 p.ht, .int .i64 p.ms, .int .i64 p.rr] 34) = W6 at hP hB5 x0 x1 y0 y1 ⊢
          refine (HGY.out _ (bcall HB0.out hB5.out)).mono ?_
          rintro e w7 ⟨rfl, hb7⟩
          have hP7 := St.hid (rowIs_below hP.out hb7)
          have hB7 := St.hid (bcall hB5.out hb7)
          have hz7 := hb7.size
          have hz5 := hP7.out.lt
          clear hb7 x0 x1 x2 x3 x4 y0 y1 y2 y3 y4
          obtain ⟨p0, p1, p2, p3, p4, p5, p6, p7⟩ := row8c hP7.out
          have hne := neqR p p
          rw [eqR_refl] at hne
          simp only [Bool.not_true] at hne
          have hmm : (m != m) = false := by simp
          go_wp2_with fail
          go_roundw
          case rel => exact ⟨j + 1, by omega, by go_num, bal hB7.out _⟩
          case measure => simp [intOf]; omega
        · go_wp2_with fail
          go_roundw
          case rel => exact ⟨k + 1, by omega, by go_num, hB.out⟩
          case measure => simp [intOf]; omega
    · go_wp2_with fail
      go_ret
      exact ⟨rfl, bcall HB0.out hB.out⟩
end Go.Proofs.YtckkkdldljhehacGreat.Wd
