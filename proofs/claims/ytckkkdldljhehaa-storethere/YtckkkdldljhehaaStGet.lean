/- What find and Get of package store answer when called over tables in memory whose lists are even (as many rows as numbers): where the number stands first, its mask and its row; nothing that was in memory before has changed. -/
import Derived.Test.YtckkkdldljhehaaStFind
namespace Go.Proofs.Ytckkkdldljhehaa.St
open Go.Proofs.Ytckkkdldljhehaa.Num
open Go.ChangeShapes Go.WideShapes Go.ChangeAt Go.RowKit

/-- The tables ahead of table k hold no v. -/
def NoneTo (T : Nat → TabV) (I : Nat → Nat → Int) (v : Int) (k : Nat) : Prop := ∀ i, i < k → ∀ j, j < (T i).il → I i j ≠ v

set_option maxHeartbeats 1000000 in
theorem find_any (a : Option Addr) (n cap : Nat) (next v : Int) (T : Nat → TabV) (I : Nat → Nat → Int) (w : World) (hn : n ≤ maxLen) (hT : TabsIn w a n T)
    (hI : ∀ i, i < n → IdsIn w (T i).ia (T i).il (I i)) (hev : ∀ i, i < n → (T i).rl = (T i).il ∧ (T i).il ≤ maxLen) :
    Calls Try.prog 75 #[.agg #[.slice a n cap, .int .i64 next], .int .i64 v] w fun e w' =>
      ((e = .returned (.tuple #[.agg #[.int .i64 0, .int .i64 0], .bool false]) ∧ NoneTo T I v n) ∨
       ∃ i j : Nat, e = .returned (.tuple #[.agg #[.int .i64 i, .int .i64 j], .bool true]) ∧ i < n ∧ j < (T i).il ∧ I i j = v) ∧ Below w.heap.size w w' := by
  unfold maxLen at hn hev
  rcases Nat.eq_zero_or_pos n with rfl | hp
  · go_enter Try.func75, Try.ntmps75
    go_wp2
    go_loop [12] (fun i => i = .int .i64 0) (fun _ => 0)
    case atStart => rfl
    case round =>
      subst hrel
      go_wp2
      exact bodyPost_ret (v := .tuple #[.agg #[.int .i64 0, .int .i64 0], .bool false]) (by simp [results, Try.results75, go_sem]) rfl ⟨⟨rfl, fun i hi => absurd hi (Nat.not_lt_zero _)⟩, bal (bal (Below.refl _ _) _) _⟩
  · obtain ⟨b, off, rfl, hb, hc⟩ := hT hp
    clear hT
    have HI : Hid _ := hI
    have HE : Hid _ := hev
    clear hI hev
    go_enter Try.func75, Try.ntmps75
    go_wp2
    go_loopw [12] (fun i wr => ∃ k : Nat, k ≤ n ∧ i = .int .i64 k ∧ Hid (NoneTo T I v k) ∧ Below (w.heap.size + 2) ((w.alloc (.cells #[.slice (some ⟨b, off, none⟩) n cap, .int .i64 next] 28)).alloc (.cells #[.int .i64 0, .int .i64 0] 98)) wr) (fun i _ => n - (intOf i).toNat)
    case atStart => exact ⟨0, Nat.zero_le _, rfl, fun i hi => absurd hi (Nat.not_lt_zero _), Below.refl _ _⟩
    case round =>
      obtain ⟨k, hk, rfl, hno, hbl⟩ := hrel
      have hz := hbl.size
      simp at hz
      have hz1 : w.heap.size + 1 < wr.heap.size := by omega
      obtain ⟨hx, hf⟩ := bcell (W := (w.alloc (.cells #[.slice (some ⟨b, off, none⟩) n cap, .int .i64 next] 28)).alloc (.cells #[.int .i64 0, .int .i64 0] 98)) (by simpa using hbl)
      have h0 : Below w.heap.size w wr := bcall (bal (bal (Below.refl _ _) _) _) (by simpa using hbl)
      have H0 : Hid _ := h0
      have HB : Hid _ := hbl
      clear hbl h0
      by_cases hlt : k < n
      · obtain ⟨c0, c1, c2⟩ := hc k hlt
        rw [← H0.out.cell (by exact hb)] at c0 c1 c2
        obtain ⟨e1, e2⟩ := HE.out k hlt
        have HC : Hid _ := hc
        clear hc
        go_wp2_with fail
        refine (index_any _ _ _ (I k) _ _ (by unfold maxLen; exact e2) (((HI.out k hlt).below H0.out).below (bal (Below.refl _ _) _))).mono ?_
        rintro e w' ⟨⟨r, rfl, hr⟩, rfl⟩
        rcases hr with ⟨rfl, hr⟩ | ⟨j, rfl, hj, hq, -⟩
        · have HR : Hid _ := hr
          clear hr
          go_wp2
          go_roundw
          case rel =>
            refine ⟨k + 1, by omega, by go_num, fun i hi => ?_, ?_⟩
            · by_cases e : i = k
              · subst e
                exact HR.out
              · exact hno.out i (by omega)
            · exact HB.out.alloc (by omega) _
          case measure => simp [intOf]; omega
        · have HQ : Hid _ := hq
          clear hq
          go_wp2
          refine bodyPost_ret (v := .tuple #[.agg #[.int .i64 k, .int .i64 j], .bool true]) (by simp [results, Try.results75, go_sem, hx, hz1]) rfl ⟨Or.inr ⟨k, j, rfl, hlt, hj, HQ.out⟩, ?_⟩
          refine bal ?_ _
          refine Below.setCell ?_ (by simp) _
          refine Below.setCell ?_ (by simp) _
          exact H0.out
      · go_wp2
        refine bodyPost_ret (v := .tuple #[.agg #[.int .i64 0, .int .i64 0], .bool false]) (by simp [results, Try.results75, go_sem, hx]) rfl ⟨Or.inl ⟨rfl, fun i hi => hno.out i (by omega)⟩, ?_⟩
        exact (H0.out.setCell (by simp) _).setCell (by simp) _
end Go.Proofs.Ytckkkdldljhehaa.St
