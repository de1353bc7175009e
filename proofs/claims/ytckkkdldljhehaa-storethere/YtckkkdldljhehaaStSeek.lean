/- What seek of package store answers when called over any store and number: where the thing stands, in a good store that has it; else the error. -/
import Derived.Test.YtckkkdldljhehaaStAsk
namespace Go.Proofs.Ytckkkdldljhehaa.St
open Go.Proofs.Ytckkkdldljhehaa.Num
open Go.ChangeShapes Go.WideShapes Go.ChangeAt Go.RowKit

set_option maxHeartbeats 1000000 in
set_option maxRecDepth 100000 in
theorem seek_any (a : Option Addr) (n cap : Nat) (next v : Int) (T : Nat → TabV) (I : Nat → Nat → Int) (R : Nat → Nat → R8) (w : World) (h : StoreIn w a n T I R) :
    Calls Try.prog 82 #[.agg #[.slice a n cap, .int .i64 next], .int .i64 v] w fun e w' =>
      ((e = .returned (.tuple #[.agg #[.int .i64 0, .int .i64 0], .int .i64 1]) ∧ ¬ GoodL next (plainOf T I R n)) ∨
       (e = .returned (.tuple #[.agg #[.int .i64 0, .int .i64 0], .int .i64 3]) ∧ GoodL next (plainOf T I R n) ∧ NoneTo T I v n) ∨
       ∃ i j : Nat, e = .returned (.tuple #[.agg #[.int .i64 i, .int .i64 j], .int .i64 0]) ∧ GoodL next (plainOf T I R n) ∧ i < n ∧ j < (T i).il ∧ I i j = v) ∧ Below w.heap.size w w' := by
  have HST := hid h
  clear h
  go_enter Try.func82, Try.ntmps82
  go_wp2_with fail
  refine ((HST.out.below (bal (bal (Below.refl _ _) _) _)).good cap next).mono ?_
  rintro e w1 ⟨⟨g, rfl, hg⟩, hb1⟩
  have HB1 := hid (bcall (bal (bal (Below.refl _ _) _) _) hb1)
  have hr := hid (rowIs_below (rowIs2 (w.alloc (.cells #[.slice a n cap, .int .i64 next] 28)) (.int .i64 0) (.int .i64 0) 98) hb1)
  have hs := hid (rowIs_below ((rowIs2 w (.slice a n cap) (.int .i64 next) 28).alloc (.cells #[.int .i64 0, .int .i64 0] 98)) hb1)
  have HG := hid hg
  have hz1 := hb1.size
  simp at hz1
  clear hb1 hg
  rw [World.size_alloc] at hr
  have x0 := hs.out.cell (i := 0) (by omega)
  have x1 := hs.out.cell (i := 1) (by omega)
  have y0 := hr.out.cell (i := 0) (by omega)
  have y1 := hr.out.cell (i := 1) (by omega)
  have yf0 := hr.out.frozen 0
  have yf1 := hr.out.frozen 1
  simp at x0 x1 y0 y1
  cases g
  · go_wp2_with fail
    refine bodyPost_ret (v := .tuple #[.agg #[.int .i64 0, .int .i64 0], .int .i64 1]) (by simp [results, Try.results82, go_sem, y0, y1]) rfl ⟨Or.inl ⟨rfl, fun hc => by have := HG.out.2 hc; cases this⟩, ?_⟩
    refine Below.setCell ?_ (by simp) _
    refine Below.setCell ?_ (by simp) _
    exact HB1.out
  · have HGL : Hid (GoodL next (plainOf T I R n)) := hid (HG.out.1 rfl)
    have hev : Hid (∀ i, i < n → (T i).rl = (T i).il ∧ (T i).il ≤ maxLen) := hid (fun i hi => by
      have h1 := (HGL.out.2.2.2.2.1 _ (mem_plain.2 ⟨i, hi, rfl⟩)).2.1
      simp only [tabOf, List.length_map, List.length_range] at h1
      have h2 := HST.out.hz i hi
      unfold maxLen
      omega)
    have hnm : n ≤ maxLen := by have := HST.out.fits.1; unfold maxLen; omega
    go_wp2_with fail
    refine (find_any a n cap next v T I _ hnm (HST.out.below HB1.out).tabs (HST.out.below HB1.out).ids hev.out).mono ?_
    rintro e w2 ⟨he, hb2⟩
    have HB2 := hid (bcall HB1.out hb2)
    have hr2 := hid (rowIs_below hr.out hb2)
    have hz2 := hb2.size
    clear hb2 x0 x1 y0 y1 yf0 yf1 hr hs HB1
    have y0 := hr2.out.cell (i := 0) (by omega)
    have y1 := hr2.out.cell (i := 1) (by omega)
    have yf0 := hr2.out.frozen 0
    have yf1 := hr2.out.frozen 1
    simp at y0 y1
    have hne : w.heap.size + 1 < w2.heap.size := by omega
    rcases he with ⟨rfl, hno⟩ | ⟨i, j, rfl, hi, hj, hq⟩
    · have HNO := hid hno
      clear hno
      go_wp2_with fail
      refine bodyPost_ret (v := .tuple #[.agg #[.int .i64 0, .int .i64 0], .int .i64 3]) (by simp [results, Try.results82, go_sem, y0, y1, hne]) rfl ⟨Or.inr (Or.inl ⟨rfl, HGL.out, HNO.out⟩), ?_⟩
      refine Below.alloc ?_ (by simp; omega) _
      refine Below.setCell ?_ (by simp) _
      refine Below.setCell ?_ (by simp) _
      exact HB2.out
    · have HQ := hid (And.intro hi (And.intro hj hq))
      clear hi hj hq
      go_wp2_with fail
      refine bodyPost_ret (v := .tuple #[.agg #[.int .i64 i, .int .i64 j], .int .i64 0]) (by simp [results, Try.results82, go_sem, y0, y1, hne]) rfl ⟨Or.inr (Or.inr ⟨i, j, rfl, HGL.out, HQ.out⟩), ?_⟩
      refine Below.alloc ?_ (by simp; omega) _
      refine Below.setCell ?_ (by simp) _
      refine Below.setCell ?_ (by simp) _
      exact HB2.out
end Go.Proofs.Ytckkkdldljhehaa.St
