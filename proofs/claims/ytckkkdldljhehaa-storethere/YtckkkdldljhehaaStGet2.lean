/- What Get of package store answers when called over tables in memory whose lists are even (as many rows as numbers): a mask and a row of where the number stands; nothing that was in memory before has changed. -/
import Derived.Test.YtckkkdldljhehaaStGet
namespace Go.Proofs.Ytckkkdldljhehaa.St
open Go.Proofs.Ytckkkdldljhehaa.Num
open Go.ChangeShapes Go.WideShapes Go.ChangeAt Go.RowKit

set_option maxHeartbeats 1000000 in
theorem get_any (a : Option Addr) (n cap : Nat) (next v : Int) (T : Nat → TabV) (I : Nat → Nat → Int) (R : Nat → Nat → R8) (w : World) (hn : n ≤ maxLen) (hT : TabsIn w a n T)
    (hI : ∀ i, i < n → IdsIn w (T i).ia (T i).il (I i)) (hR : ∀ i, i < n → RowsIn w (T i).ra (T i).rl (R i)) (hev : ∀ i, i < n → (T i).rl = (T i).il ∧ (T i).il ≤ maxLen) :
    Calls Try.prog 32 #[.agg #[.slice a n cap, .int .i64 next], .int .i64 v] w fun e w' =>
      ((e = .returned (.tuple #[.int .i64 0, .agg #[.int .i64 0, .int .i64 0, .int .i64 0, .int .i64 0, .int .i64 0, .int .i64 0, .int .i64 0, .int .i64 0], .bool false]) ∧ NoneTo T I v n) ∨
       ∃ i j : Nat, e = .returned (.tuple #[.int .i64 (T i).mask, .agg #[.int .i64 (R i j).x, .int .i64 (R i j).y, .int .i64 (R i j).px, .int .i64 (R i j).py, .int .i64 (R i j).wd, .int .i64 (R i j).ht, .int .i64 (R i j).ms, .int .i64 (R i j).rr], .bool true]) ∧ i < n ∧ j < (T i).il ∧ I i j = v) ∧ Below w.heap.size w w' := by
  have hfi := fun w' hb => find_any a n cap next v T I w' hn (hT.below hb) (fun i hi => (hI i hi).below hb) hev
  have HF : Hid _ := hfi
  have HT : Hid _ := hT
  have HR : Hid _ := hR
  have HE : Hid _ := hev
  unfold maxLen at hn
  clear hfi hT hI hR hev
  go_enter Try.func32, Try.ntmps32
  go_wp2_with fail
  refine (HF.out _ (bal (bal (Below.refl _ _) _) _)).mono ?_
  rintro e w1 ⟨he, hb⟩
  obtain ⟨hx, hf⟩ := bcell hb
  have hz := hb.size
  simp at hz
  have hz0 : w.heap.size < w1.heap.size := by omega
  have hz1 : w.heap.size + 1 < w1.heap.size := by omega
  have h0 : Below w.heap.size w w1 := bcall (bal (bal (Below.refl _ _) _) _) hb
  have H0 : Hid _ := h0
  clear h0 hb
  rcases he with ⟨rfl, hno⟩ | ⟨i, j, rfl, hi, hj, hq⟩
  · have HN : Hid _ := hno
    clear hno
    go_wp2
    refine bodyPost_ret (v := .tuple #[.int .i64 0, .agg #[.int .i64 0, .int .i64 0, .int .i64 0, .int .i64 0, .int .i64 0, .int .i64 0, .int .i64 0, .int .i64 0], .bool false]) (by simp [results, Try.results32, go_sem, hx, hz1]) rfl ⟨Or.inl ⟨rfl, HN.out⟩, ?_⟩
    refine bal ?_ _
    iterate 8 refine Below.setCell ?_ (by simp) _
    exact H0.out
  · have HQ : Hid _ := hq
    clear hq
    obtain ⟨b, off, rfl, hb, hc⟩ := HT.out (by omega)
    obtain ⟨e1, e2⟩ := HE.out i hi
    obtain ⟨b', off', ha', hb', hc'⟩ := HR.out i hi (by omega)
    obtain ⟨c0, c1, c2⟩ := hc i hi
    rw [← H0.out.cell (by exact hb)] at c0 c1 c2
    obtain ⟨r0, r1, r2, r3, r4, r5, r6, r7⟩ := hc' j (by omega)
    rw [← H0.out.cell (by exact hb')] at r0 r1 r2 r3 r4 r5 r6 r7
    unfold maxLen at e2
    have hz2 : w.heap.size + 1 < w1.heap.size + 1 := by omega
    have hbz : b < w1.heap.size := by omega
    have hbz' : b' < w1.heap.size := by omega
    rw [ha'] at c2
    clear hc hc' HF
    go_wp2
    go_region
    all_goals
      go_wp2
      refine bodyPost_ret (v := .tuple #[.int .i64 (T i).mask, .agg #[.int .i64 (R i j).x, .int .i64 (R i j).y, .int .i64 (R i j).px, .int .i64 (R i j).py, .int .i64 (R i j).wd, .int .i64 (R i j).ht, .int .i64 (R i j).ms, .int .i64 (R i j).rr], .bool true]) (by simp [results, Try.results32, go_sem, hx, hz1, hz2]) rfl ⟨Or.inr ⟨i, j, rfl, hi, hj, HQ.out⟩, ?_⟩
      refine Below.drew ?_
      refine bal ?_ _
      refine bal ?_ _
      iterate 8 refine Below.setCell ?_ (by simp) _
      exact H0.out
end Go.Proofs.Ytckkkdldljhehaa.St
