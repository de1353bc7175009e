/- What goodTable of package store answers when called over a table in memory: whether it has numbers, as many rows, each number within bounds and each row good; nothing that was in memory before has changed. Next is between 0 and 2^20. -/
import Derived.Test.YtckkkdldljhehaaStRow3
import Derived.Test.YtckkkdldljhehaaStFind
namespace Go.Proofs.Ytckkkdldljhehaa.St
open Go.Proofs.Ytckkkdldljhehaa.Num
open Go.ChangeShapes Go.WideShapes Go.ChangeAt Go.RowKit

def GoodTo (m next : Int) (I : Nat → Int) (R : Nat → R8) (k : Nat) : Prop := ∀ j, j < k → btw (I j) 0 (next - 1) = true ∧ goodRowB m (R j) = true
def GoodTab (m next : Int) (il rl : Nat) (I : Nat → Int) (R : Nat → R8) : Prop := 0 < il ∧ il = rl ∧ GoodTo m next I R il

set_option maxHeartbeats 2000000 in
theorem goodTable_even (m next : Int) (b off n cap b' off' cap' : Nat) (I : Nat → Int) (R : Nat → R8) (w : World) (hn : n ≤ maxLen) (hp : 0 < n) (h0 : 0 ≤ next) (h1 : next ≤ 1048576)
    (hb : b < w.heap.size) (hc : ∀ i, i < n → w.cell? ⟨b, off + i, none⟩ = some (.int .i64 (I i))) (hR : RowsIn w (some ⟨b', off', none⟩) n R) :
    Calls Try.prog 71 #[.agg #[.int .i64 m, .slice (some ⟨b, off, none⟩) n cap, .slice (some ⟨b', off', none⟩) n cap'], .int .i64 next] w fun e w' =>
      (∃ g, e = .returned (.bool g) ∧ (g = true ↔ GoodTo m next I R n)) ∧ Below w.heap.size w w' := by
  unfold maxLen at hn
  obtain ⟨b0, off0, he, hb', hc'⟩ := hR hp
  simp only [Option.some.injEq, Addr.mk.injEq, and_true] at he
  obtain ⟨rfl, rfl⟩ := he
  clear hR
  have h0n : ((n : Int) == 0) = false := by simp; omega
  go_enter Try.func71, Try.ntmps71
  go_wp2
  go_loopw [23] (fun i wr => ∃ k : Nat, k ≤ n ∧ i = .int .i64 k ∧ Hid (GoodTo m next I R k) ∧ Below (w.heap.size + 1) (w.alloc (.cells #[.int .i64 m, .slice (some ⟨b, off, none⟩) n cap, .slice (some ⟨b', off', none⟩) n cap'] 66)) wr) (fun i _ => n - (intOf i).toNat)
  case atStart => exact ⟨0, Nat.zero_le _, rfl, fun i hi => absurd hi (Nat.not_lt_zero _), Below.refl _ _⟩
  case round =>
    obtain ⟨k, hk, rfl, hno, hbl⟩ := hrel
    have hz := hbl.size
    simp at hz
    have hz1 : w.heap.size < wr.heap.size := by omega
    have hx : ∀ o, wr.cell? ⟨w.heap.size, o, none⟩ = (w.alloc (.cells #[.int .i64 m, .slice (some ⟨b, off, none⟩) n cap, .slice (some ⟨b', off', none⟩) n cap'] 66)).cell? ⟨w.heap.size, o, none⟩ := fun o => hbl.cell (p := ⟨w.heap.size, o, none⟩) (by simp)
    have hB : Below w.heap.size w wr := bcall (bal (Below.refl _ _) _) (by simpa using hbl)
    have HB : Hid _ := hB
    have HL : Hid _ := hbl
    clear hB hbl
    by_cases hlt : k < n
    · have c0 := hc k hlt
      rw [← HB.out.cell (by exact hb)] at c0
      obtain ⟨r0, r1, r2, r3, r4, r5, r6, r7⟩ := hc' k hlt
      rw [← HB.out.cell (by exact hb')] at r0 r1 r2 r3 r4 r5 r6 r7
      have HC : Hid _ := hc
      have HC' : Hid _ := hc'
      clear hc hc'
      cases hq : btw (I k) 0 (next - 1)
      · go_wp2
        go_quiet ((go_at_call 70; exact Calls.quiet_of_same (between_any _ _ _ _)))
        go_wp2
        go_ret
        refine ⟨⟨false, rfl, ?_⟩, below_drewN HB.out _⟩
        constructor
        · intro h; cases h
        · intro h; have := (h k hlt).1; rw [hq] at this; cases this
      · have hw : IntKind.i64.wrap (next - 1) = next - 1 := by rw [IntKind.wrap_i64]; omega
        cases hg : goodRowB m ⟨(R k).x, (R k).y, (R k).px, (R k).py, (R k).wd, (R k).ht, (R k).ms, (R k).rr⟩
        · go_wp2
          go_region_with (first | (go_at_call 70; refine (between_any _ _ _ _).mono ?_; rintro e w' ⟨rfl, rfl⟩) | (go_at_call 26; refine (goodRow_any _ _ _ _ _ _ _ _ _ _).mono ?_; rintro e w' ⟨rfl, hb2⟩; have HB2 : Hid _ := hb2; clear hb2))
          all_goals
            go_wp2
            go_ret
            refine ⟨⟨false, rfl, ?_⟩, bcall HB.out.drew HB2.out⟩
            constructor
            · intro h; cases h
            · intro h; have := (h k hlt).2; rw [show goodRowB m (R k) = false from hg] at this; cases this
        · go_wp2
          go_region_with (first | (go_at_call 70; refine (between_any _ _ _ _).mono ?_; rintro e w' ⟨rfl, rfl⟩) | (go_at_call 26; refine (goodRow_any _ _ _ _ _ _ _ _ _ _).mono ?_; rintro e w' ⟨rfl, hb2⟩; have HB2 : Hid _ := hb2; clear hb2))
          all_goals
            go_wp2
            go_roundw
            case rel =>
              refine ⟨k + 1, by omega, by go_num, fun i hi => ?_, ?_⟩
              · by_cases e : i = k
                · subst e
                  exact ⟨hq, hg⟩
                · exact hno.out i (by omega)
              · exact HL.out.drew.trans (HB2.out.mono (by simpa using hz))
            case measure => simp [intOf]; omega
    · go_wp2
      go_ret
      refine ⟨⟨true, rfl, ?_⟩, HB.out⟩
      rw [show n = k by omega]
      exact ⟨fun _ => hno.out, fun _ => rfl⟩

set_option maxHeartbeats 400000 in
theorem goodTable_any (m next : Int) (ia : Option Addr) (il ic : Nat) (ra : Option Addr) (rl rc : Nat) (I : Nat → Int) (R : Nat → R8) (w : World) (hn : il ≤ maxLen) (hn' : rl ≤ maxLen) (h0 : 0 ≤ next) (h1 : next ≤ 1048576)
    (hI : IdsIn w ia il I) (hR : RowsIn w ra rl R) :
    Calls Try.prog 71 #[.agg #[.int .i64 m, .slice ia il ic, .slice ra rl rc], .int .i64 next] w fun e w' =>
      (∃ g, e = .returned (.bool g) ∧ (g = true ↔ GoodTab m next il rl I R)) ∧ Below w.heap.size w w' := by
  by_cases hp : 0 < il
  · by_cases he : il = rl
    · subst he
      obtain ⟨b, off, rfl, hb, hc⟩ := hI hp
      obtain ⟨b', off', rfl, hb', hc'⟩ := hR hp
      refine (goodTable_even m next b off il ic b' off' rc I R w hn hp h0 h1 hb hc hR).mono ?_
      rintro e w' ⟨⟨g, rfl, hg⟩, hbl⟩
      exact ⟨⟨g, rfl, hg.trans ⟨fun h => ⟨hp, rfl, h⟩, fun h => h.2.2⟩⟩, hbl⟩
    · have h0n : ((il : Int) == 0) = false := by simp; omega
      have h1n : ((il : Int) != (rl : Int)) = true := by simp; omega
      unfold maxLen at hn hn'
      clear hI hR
      go_enter Try.func71, Try.ntmps71
      go_wp2
      go_ret
      refine ⟨⟨false, rfl, ?_⟩, bal (Below.refl _ _) _⟩
      constructor
      · intro h; cases h
      · intro h; exact absurd h.2.1 he
  · have hz : il = 0 := by omega
    subst hz
    clear hI hR
    go_enter Try.func71, Try.ntmps71
    go_wp2
    go_ret
    refine ⟨⟨false, rfl, ?_⟩, bal (Below.refl _ _) _⟩
    constructor
    · intro h; cases h
    · intro h; exact absurd h.1 (by omega)
end Go.Proofs.Ytckkkdldljhehaa.St
