/- What sameThings of package ninepinskeep answers of two stores that have the same things: true; nothing that was in memory before has changed. -/
import Derived.Test.YtckkkdldljhehabGreatKtWdQ
namespace Go.Proofs.YtckkkdldljhehabGreat.Wd
open Go.Proofs.YtckkkdldljhehabGreat.Num Go.Proofs.YtckkkdldljhehabGreat.St
open Go.ChangeShapes Go.WideShapes Go.ChangeAt Go.RowKit

set_option maxHeartbeats 4000000 in
set_option maxRecDepth 100000 in
theorem sameThings_true {Fa Fb : Nat → Prop} {va vb : Value} {La Lb : List Tab} {w : World} (next : Int) (ha : Sto w Fa va La) (hb : Sto w Fb vb Lb) (ga : GoodL next La) (gb : GoodL next Lb) (hs : SameAt La Lb) :
    Calls Tryz.prog 24 #[.agg #[va, .int .i64 next], .agg #[vb, .int .i64 next]] w fun e w' => e = .returned (.bool true) ∧ Below w.heap.size w w' := by
  have HA := St.hid ha
  have HB := St.hid hb
  have HLN := St.hid (all_same ga gb hs)
  obtain ⟨aa, na, ca, T, I, R, rfl, hin, hpl⟩ := ha.in_
  obtain ⟨ab, nb, cb, rfl⟩ := hb.one
  have HIN := St.hid hin
  have hnz : na ≤ 9223372036854775807 := by have := hin.fits.1; omega
  have HZA : Hid (∀ W', Below w.heap.size w W' → Calls Tryz.prog 26 #[.agg #[.slice aa na ca, .int .i64 next]] W' fun e w' => e = .returned (.int .i64 (allL La).length) ∧ Below W'.heap.size W' w') := St.hid (fun W' hb => (HA.out.below hb).size ga next)
  have HZB : Hid (∀ W', Below w.heap.size w W' → Calls Tryz.prog 26 #[.agg #[.slice ab nb cb, .int .i64 next]] W' fun e w' => e = .returned (.int .i64 (allL La).length) ∧ Below W'.heap.size W' w') := St.hid (fun W' hb => by
    have := (HB.out.below hb).size gb next
    rw [← HLN.out] at this
    exact this)
  have HAT : Hid (∀ i, i < na → ∀ j, j < (T i).il → ∃ m r, At La (I i j) m r ∧ At Lb (I i j) m r) := St.hid (fun i hi j hj => by
    have hl := len_plain (T := T) (I := I) (R := R) (n := na) (i := i) (by rw [hpl]; exact ga) hi
    have h1 : At La (I i j) (T i).mask (R i j) := by rw [← hpl]; exact at_plain hi hj (by omega)
    exact ⟨_, _, h1, (hs _ _ _).1 h1⟩)
  have HGA := St.hid ga
  have HGB := St.hid gb
  generalize ((allL La).length : Int) = sz at HZA HZB
  clear ha hb ga gb hs hin hpl
  go_enter Tryz.func24, Tryz.ntmps24
  have hA0 := St.hid ((rowIs2 w (.slice aa na ca) (.int .i64 next) 24).alloc (.cells #[.slice ab nb cb, .int .i64 next] 24))
  have hB0 := St.hid (rowIs2 (w.alloc (.cells #[.slice aa na ca, .int .i64 next] 24)) (.slice ab nb cb) (.int .i64 next) 24)
  rw [World.size_alloc] at hB0
  have HB0 := St.hid (bal (bal (Below.refl _ w) (.cells #[.slice aa na ca, .int .i64 next] 24)) (.cells #[.slice ab nb cb, .int .i64 next] 24))
  go_wp2_with fail
  have hz0 : w.heap.size + 1 + 1 ≤ ((w.alloc (.cells #[.slice aa na ca, .int .i64 next] 24)).alloc (.cells #[.slice ab nb cb, .int .i64 next] 24)).heap.size := by simp
  generalize (w.alloc (.cells #[.slice aa na ca, .int .i64 next] 24)).alloc (.cells #[.slice ab nb cb, .int .i64 next] 24) = W at hA0 hB0 HB0 hz0 ⊢
  have x0 := (hA0.out).cell (i := 0) (by omega); have x1 := (hA0.out).cell (i := 1) (by omega); simp at x0 x1
  have y0 := (hB0.out).cell (i := 0) (by omega); have y1 := (hB0.out).cell (i := 1) (by omega); simp at y0 y1
  have HZA1 := St.hid (fun (W' : World) (hb : Below W.heap.size W W') => HZA.out W' (bcall HB0.out hb))
  have HZB1 := St.hid (fun (W' : World) (hb : Below W.heap.size W W') => HZB.out W' (bcall HB0.out hb))
  go_cut [26] (fun sc wx => sc = .bool false ∧ ∃ W1, W1 = wx ∧ Below W.heap.size W W1)
  case first =>
    clear HA HB HIN HAT HGA HGB HLN HZA HZB
    go_region_held3 (fun W' => W'.cell? ⟨w.heap.size, 0, none⟩ = some (.slice aa na ca) ∧ W'.cell? ⟨w.heap.size, 1, none⟩ = some (.int .i64 next) ∧ W'.cell? ⟨w.heap.size + 1, 0, none⟩ = some (.slice ab nb cb) ∧ W'.cell? ⟨w.heap.size + 1, 1, none⟩ = some (.int .i64 next)) (exact ⟨x0, x1, y0, y1⟩)
      (first
      | (go_at_call 26; go_fit (HZA1.out _ (Below.drew (Below.refl _ W))); rintro e wa ⟨rfl, hba⟩; have HQ1 := St.hid (bcall (Below.drew (Below.refl _ W)) hba); clear hba x0 x1 y0 y1; have x0 := (rowIs_below hA0.out HQ1.out).cell (i := 0) (by omega); have x1 := (rowIs_below hA0.out HQ1.out).cell (i := 1) (by omega); simp at x0 x1; have y0 := (rowIs_below hB0.out HQ1.out).cell (i := 0) (by omega); have y1 := (rowIs_below hB0.out HQ1.out).cell (i := 1) (by omega); simp at y0 y1)
      | (go_at_call 26; go_fit (HZB1.out _ HQ1.out); rintro e wb ⟨rfl, hbb⟩; have HQ2 := St.hid (bcall HQ1.out hbb); clear hbb x0 x1 y0 y1; have x0 := (rowIs_below hA0.out HQ2.out).cell (i := 0) (by omega); have x1 := (rowIs_below hA0.out HQ2.out).cell (i := 1) (by omega); simp at x0 x1; have y0 := (rowIs_below hB0.out HQ2.out).cell (i := 0) (by omega); have y1 := (rowIs_below hB0.out HQ2.out).cell (i := 1) (by omega); simp at y0 y1))
    all_goals
      go_wp2_with fail
      go_meet
      exact ⟨by simp, _, rfl, HQ2.out⟩
  case rest =>
  obtain ⟨rfl, W1, rfl, hb1⟩ := hcut
  have HB1 := St.hid hb1
  clear hb1 x0 x1 y0 y1
  have x0 := (rowIs_below hA0.out HB1.out).cell (i := 0) (by omega); have x1 := (rowIs_below hA0.out HB1.out).cell (i := 1) (by omega); simp at x0 x1
  go_wp2_with fail
  go_loopw [30] (fun i wr => ∃ k : Nat, k ≤ na ∧ i = .int .i64 k ∧ Hid (Below W.heap.size W wr)) (fun i _ => na - (intOf i).toNat)
  case atStart => exact ⟨0, Nat.zero_le _, rfl, HB1.out⟩
  case round =>
    obtain ⟨k, hk, rfl, hB⟩ := hrel
    by_cases hlt : k < na
    · obtain ⟨b, off, rfl, hb, hc⟩ := (HIN.out.below (bcall HB0.out hB.out)).tabs (by omega)
      obtain ⟨t0, t1, t2⟩ := hc k hlt
      have hlt' : (k : Int) < (na : Int) := by omega
      have hIds := HIN.out.ids k hlt
      have hfit := (HIN.out.fits.2.2 k hlt)
      have HATK := St.hid (HAT.out k hlt)
      generalize T k = t at t0 t1 t2 hIds hfit HATK
      obtain ⟨tm, ia, il, ic, ra, rl, rc⟩ := t
      simp only at t0 t1 t2 hIds hfit HATK
      have HIDS := St.hid hIds
      have hilz : il ≤ 140737488355328 := by omega
      clear hIds hc hfit
      go_wp2_with fail
      have hB' := St.hid (bal hB.out (.cells #[.int .i64 tm, .slice ia il ic, .slice ra rl rc] 53))
      generalize wr.alloc (.cells #[.int .i64 tm, .slice ia il ic, .slice ra rl rc] 53) = W4 at hB' ⊢
      clear hB t0 t1 t2
      go_loopw [37] (fun i wr => ∃ j : Nat, j ≤ il ∧ i = .int .i64 j ∧ Hid (Below W.heap.size W wr)) (fun i _ => il - (intOf i).toNat)
      case atStart => exact ⟨0, Nat.zero_le _, rfl, hB'.out⟩
      case round =>
        obtain ⟨j, hj, rfl, hB⟩ := hrel
        by_cases hjl : j < il
        · obtain ⟨bi, oi, rfl, hbi, hci⟩ := (HIDS.out.below (bcall HB0.out hB.out)) (by omega)
          have i0 := hci j hjl
          obtain ⟨m, p, h1, h2⟩ := HATK.out j hjl
          generalize I k j = id at i0 h1 h2
          have HGX : Hid (∀ W', Below w.heap.size w W' → Calls Tryz.prog 25 #[.agg #[.slice (some ⟨b, off, none⟩) na ca, .int .i64 next], .int .i64 id] W' fun e w' => e = .returned (.tuple #[.int .i64 m, .agg #[.int .i64 p.x, .int .i64 p.y, .int .i64 p.px, .int .i64 p.py, .int .i64 p.wd, .int .i64 p.ht, .int .i64 p.ms, .int .i64 p.rr], .bool true]) ∧ Below W'.heap.size W' w') := St.hid (fun W' hb => (HA.out.below hb).get_some HGA.out next id m p h1)
          have HGY : Hid (∀ W', Below w.heap.size w W' → Calls Tryz.prog 25 #[.agg #[.slice ab nb cb, .int .i64 next], .int .i64 id] W' fun e w' => e = .returned (.tuple #[.int .i64 m, .agg #[.int .i64 p.x, .int .i64 p.y, .int .i64 p.px, .int .i64 p.py, .int .i64 p.wd, .int .i64 p.ht, .int .i64 p.ms, .int .i64 p.rr], .bool true]) ∧ Below W'.heap.size W' w') := St.hid (fun W' hb => (HB.out.below hb).get_some HGB.out next id m p h2)
          have hjl' : (j : Int) < (il : Int) := by omega
          clear h1 h2 hci x0 x1
          have x0 := (rowIs_below hA0.out hB.out).cell (i := 0) (by omega); have x1 := (rowIs_below hA0.out hB.out).cell (i := 1) (by omega); simp at x0 x1
          have y0 := (rowIs_below hB0.out hB.out).cell (i := 0) (by omega); have y1 := (rowIs_below hB0.out hB.out).cell (i := 1) (by omega); simp at y0 y1
          go_wp2_with fail
          refine (HGX.out _ (bcall HB0.out hB.out)).mono ?_
          rintro e w5 ⟨rfl, hb5⟩
          have hP := St.hid (St.rowIs8 w5 p 56)
          have hB5 := St.hid (bal (bcall hB.out hb5) (.cells #[.int .i64 p.x, .int .i64 p.y, .int .i64 p.px, .int .i64 p.py, .int .i64 p.wd, .int .i64 p.ht, .int .i64 p.ms, .int .i64 p.rr] 56))
          clear hb5 i0 x0 x1 y0 y1
          have zz := hB5.out.size
          simp at zz
          have z0 : w.heap.size < w5.heap.size + 1 := by omega
          have x0 := (rowIs_below hA0.out hB5.out).cell (i := 0) (by omega); have x1 := (rowIs_below hA0.out hB5.out).cell (i := 1) (by omega); simp at x0 x1
          have y0 := (rowIs_below hB0.out hB5.out).cell (i := 0) (by omega); have y1 := (rowIs_below hB0.out hB5.out).cell (i := 1) (by omega); simp at y0 y1
          go_wp2_with fail
          generalize w5.alloc (.cells #[.int .i64 p.x, .int .i64 p.y, .int .i64 p.px, .int .i64 p.py, .int .i64 p.wd, .int .i64 p.ht, .int .i64 p.ms, .int .i64 p.rr] 56) = W6 at hP hB5 x0 x1 y0 y1 ⊢
          refine (HGY.out _ (bcall HB0.out hB5.out)).mono ?_
          rintro e w7 ⟨rfl, hb7⟩
          have hP7 := St.hid (rowIs_below hP.out hb7)
          have hB7 := St.hid (bcall hB5.out hb7)
          have hz7 := hb7.size
          have hz5 := hP7.out.lt
          clear hb7 x0 x1 y0 y1
          obtain ⟨p0, p1, p2, p3, p4, p5, p6, p7⟩ := row8c hP7.out
          have hne := neqR p p
          rw [eqR_refl] at hne
          simp only [Bool.not_true] at hne
          have hmm : (m != m) = false := by simp
          go_wp2_with fail
          go_roundw
          case rel => exact ⟨j + 1, by omega, by go_num, bal hB7.out _⟩
          case measure => simp [intOf]; omega
        · go_wp2_with fail
          go_roundw
          case rel => exact ⟨k + 1, by omega, by go_num, hB.out⟩
          case measure => simp [intOf]; omega
    · go_wp2_with fail
      go_ret
      exact ⟨rfl, bcall HB0.out hB.out⟩
end Go.Proofs.YtckkkdldljhehabGreat.Wd
