/- What put and body of package world answer over a good store and one of its things; nothing that was in memory before has changed. -/
import Derived.Test.YtckkkdldljhehabGreatWdA
namespace Go.Proofs.YtckkkdldljhehabGreat.Wd
open Go.Proofs.YtckkkdldljhehabGreat.Num Go.Proofs.YtckkkdldljhehabGreat.St
open Go.ChangeShapes Go.WideShapes Go.ChangeAt Go.RowKit

def setRL (m id : Int) (r : R8) (L : List Tab) : List Tab := if goodRowB m r then setL id r L else L
set_option maxHeartbeats 1000000 in
set_option maxRecDepth 100000 in
theorem put_any {F : Nat → Prop} {v : Value} {L : List Tab} {w : World} (h : Sto w F v L) (next : Int) (hg : GoodL next L) (id m : Int) (q r : R8) (hat : At L id m q) :
    Calls Tryz.prog 84 #[.agg #[v, .int .i64 next], .int .i64 id, .agg #[.int .i64 r.x, .int .i64 r.y, .int .i64 r.px, .int .i64 r.py, .int .i64 r.wd, .int .i64 r.ht, .int .i64 r.ms, .int .i64 r.rr]] w fun e w' =>
      (∃ a n c, e = .returned (.agg #[.slice a n c, .int .i64 next]) ∧ ∃ F', Sto w' F' (.slice a n c) (putL m id r L) ∧ ∀ b, F' b → F b ∨ w.heap.size ≤ b) ∧ Below w.heap.size w w' := by
  have HG : Hid (∀ W, Below w.heap.size w W → Calls Tryz.prog 25 #[.agg #[v, .int .i64 next], .int .i64 id] W fun e w' => e = .returned (.tuple #[.int .i64 m, .agg #[.int .i64 q.x, .int .i64 q.y, .int .i64 q.px, .int .i64 q.py, .int .i64 q.wd, .int .i64 q.ht, .int .i64 q.ms, .int .i64 q.rr], .bool true]) ∧ Below W.heap.size W w') :=
    St.hid (fun W hb => (h.below hb).get_some hg next id m q hat)
  have HS : Hid (∀ W, Below w.heap.size w W → Calls Tryz.prog 107 #[.agg #[v, .int .i64 next], .int .i64 id, .agg #[.int .i64 r.x, .int .i64 r.y, .int .i64 r.px, .int .i64 r.py, .int .i64 r.wd, .int .i64 r.ht, .int .i64 r.ms, .int .i64 r.rr]] W fun e w' =>
      (∃ a n c ec, e = .returned (.tuple #[.agg #[.slice a n c, .int .i64 next], .int .i64 ec]) ∧ ∃ F', Sto w' F' (.slice a n c) (setRL m id r L) ∧ ∀ b, F' b → W.heap.size ≤ b) ∧ Below W.heap.size W w') :=
    St.hid (fun W hb => (h.below hb).set next hg id m q r hat)
  have HST := St.hid h
  obtain ⟨a, n, cap, rfl⟩ := h.one
  clear h hat hg
  go_enter Tryz.func84, Tryz.ntmps84
  go_wp2_with fail
  have hB0 := St.hid (Boxes.made w (.slice a n cap) next r)
  refine (HG.out _ (bal (bal (bal (Below.refl _ _) _) _) _)).mono ?_
  rintro e w1 ⟨rfl, hb1⟩
  have hB1 := St.hid (hB0.out.below hb1)
  have HB1 := St.hid (bcall (bal (bal (bal (Below.refl _ w) _) _) _) hb1)
  have hz1 := hb1.size
  simp at hz1
  clear hb1 hB0
  obtain ⟨x0, x1, x2, x3, x4, x5, x6⟩ := hB1.out.cells
  obtain ⟨r0, r1, r2, r3, r4, r5, r6, r7⟩ := hB1.out.row
  have hw0 : w.heap.size < w1.heap.size := by omega
  have hw1 : w.heap.size + 1 < w1.heap.size := by omega
  have hw2 : w.heap.size + 1 + 1 < w1.heap.size := by omega
  cases hh : hasB m 11
  · go_wp2_with (go_at_call 81; refine (has_any _ _ _).mono ?_; rintro e w' ⟨rfl, rfl⟩)
    refine bodyPost_ret (v := .agg #[.slice a n cap, .int .i64 next]) (by simp [results, Tryz.results84, go_sem, x3, x4, hw2]) rfl ⟨⟨a, n, cap, rfl, F, ?_, fun b hb => Or.inl hb⟩, ?_⟩
    · rw [show putL m id r L = L from by simp [putL, hh]]
      refine HST.out.below ?_
      refine bal ?_ _
      refine Below.setCell ?_ (by simp; omega) _
      refine Below.setCell ?_ (by simp; omega) _
      exact HB1.out
    · refine bal ?_ _
      refine Below.setCell ?_ (by simp; omega) _
      refine Below.setCell ?_ (by simp; omega) _
      exact HB1.out
  · go_wp2_with (go_at_call 81; refine (has_any _ _ _).mono ?_; rintro e w' ⟨rfl, rfl⟩)
    have hB2 := St.hid (hB1.out.below (bal (Below.refl _ _) (.cells #[.int .i64 q.x, .int .i64 q.y, .int .i64 q.px, .int .i64 q.py, .int .i64 q.wd, .int .i64 q.ht, .int .i64 q.ms, .int .i64 q.rr] 56)))
    refine (HS.out _ (bal HB1.out _)).mono ?_
    rintro e w2 ⟨⟨a2, n2, c2, ec, rfl, F2, hs2, hF2⟩, hb2⟩
    have hB3 := St.hid (hB2.out.below hb2)
    have HB3 := St.hid (bcall (bal HB1.out _) hb2)
    have HS2 := St.hid hs2
    have HF2 := St.hid hF2
    have hz2 := hb2.size
    simp at hz2
    clear hb2 hs2 hF2 x0 x1 x2 x3 x4 x5 x6 r0 r1 r2 r3 r4 r5 r6 r7 hB1 hB2
    obtain ⟨x0, x1, x2, x3, x4, x5, x6⟩ := hB3.out.cells
    have xf1 := hB3.out.s.frozen 1
    go_wp2_with fail
    refine bodyPost_ret (v := .agg #[.slice a2 n2 c2, .int .i64 next]) (by simp [results, Tryz.results84, go_sem, x3, x4]) rfl ⟨⟨a2, n2, c2, rfl, F2, ?_, fun b hb => Or.inr ?_⟩, ?_⟩
    · rw [show putL m id r L = setRL m id r L from by simp [putL, setRL, hh]]
      have k : ∀ b, b < w1.heap.size + 1 → ¬ F2 b := fun b hb hF => by have := HF2.out b hF; simp at this; omega
      refine Sto.setCell ?_ (k _ (by omega)) _ _
      refine Sto.setCell ?_ (k _ (by omega)) _ _
      refine Sto.setCell ?_ (k _ (by omega)) _ _
      refine Sto.setCell ?_ (k _ (by omega)) _ _
      exact HS2.out
    · have := HF2.out b hb
      simp at this
      omega
    · refine Below.setCell ?_ (by simp; omega) _
      refine Below.setCell ?_ (by simp; omega) _
      refine Below.setCell ?_ (by simp) _
      refine Below.setCell ?_ (by simp) _
      exact HB3.out

set_option maxHeartbeats 1000000 in
set_option maxRecDepth 100000 in
theorem body_any {F : Nat → Prop} {v : Value} {L : List Tab} {w : World} (h : Sto w F v L) (next : Int) (hg : GoodL next L) (id m : Int) (q : R8) (hat : At L id m q) :
    Calls Tryz.prog 87 #[.agg #[v, .int .i64 next], .int .i64 id] w fun e w' => e = .returned (rowV (bodyR m q)) ∧ Below w.heap.size w w' := by
  have HG : Hid (∀ W, Below w.heap.size w W → Calls Tryz.prog 25 #[.agg #[v, .int .i64 next], .int .i64 id] W fun e w' => e = .returned (.tuple #[.int .i64 m, .agg #[.int .i64 q.x, .int .i64 q.y, .int .i64 q.px, .int .i64 q.py, .int .i64 q.wd, .int .i64 q.ht, .int .i64 q.ms, .int .i64 q.rr], .bool true]) ∧ Below W.heap.size W w') :=
    St.hid (fun W hb => (h.below hb).get_some hg next id m q hat)
  obtain ⟨a, n, cap, rfl⟩ := h.one
  clear h hat hg
  go_enter Tryz.func87, Tryz.ntmps87
  go_wp2_with fail
  have hR0 := St.hid (St.rowIs8 (w.alloc (.cells #[.slice a n cap, .int .i64 next] 24)) zeroR 56)
  rw [World.size_alloc] at hR0
  refine (HG.out _ (bal (bal (Below.refl _ _) _) _)).mono ?_
  rintro e w1 ⟨rfl, hb1⟩
  have hR1 := St.hid (rowIs_below hR0.out hb1)
  have HB1 := St.hid (bcall (bal (bal (Below.refl _ w) _) _) hb1)
  have hz1 := hb1.size
  simp at hz1
  clear hb1 hR0
  obtain ⟨r0, r1, r2, r3, r4, r5, r6, r7⟩ := row8c hR1.out
  have f0 := hR1.out.frozen 0
  have f1 := hR1.out.frozen 1
  have f2 := hR1.out.frozen 2
  have f3 := hR1.out.frozen 3
  have f4 := hR1.out.frozen 4
  have f5 := hR1.out.frozen 5
  have f6 := hR1.out.frozen 6
  have f7 := hR1.out.frozen 7
  simp only [zeroR] at r0 r1 r2 r3 r4 r5 r6 r7
  have hw1 : w.heap.size + 1 < w1.heap.size := by omega
  cases hh : hasB m 11
  · go_wp2_with (go_at_call 81; refine (has_any _ _ _).mono ?_; rintro e w' ⟨rfl, rfl⟩)
    refine bodyPost_ret (by simp [results, Tryz.results87, go_sem, r0, r1, r2, r3, r4, r5, r6, r7, hw1]; rfl) rfl ⟨by simp [bodyR, hh, rowV], ?_⟩
    refine bal ?_ _
    iterate 8 refine Below.setCell ?_ (by simp) _
    exact HB1.out
  · go_wp2_with (go_at_call 81; refine (has_any _ _ _).mono ?_; rintro e w' ⟨rfl, rfl⟩)
    refine bodyPost_ret (by simp [results, Tryz.results87, go_sem, r0, r1, r2, r3, r4, r5, r6, r7, hw1]; rfl) rfl ⟨by simp [bodyR, hh, rowV], ?_⟩
    refine bal ?_ _
    iterate 8 refine Below.setCell ?_ (by simp) _
    exact HB1.out
end Go.Proofs.YtckkkdldljhehabGreat.Wd
