/- What Meet of package solve answers when called, in whatever world, at two rows that do not meet, or are both fixed: both as they were; nothing that was in memory before has changed. No other conditions. -/
import Derived.Test.YtckkkdldljhehaaSoB
namespace Go.Proofs.Ytckkkdldljhehaa
open Go.ChangeShapes Go.WideShapes Go.ChangeAt Go.RowKit
open Num

def retV (a b : R8) (ok : Bool) : Value := .tuple #[rowV a, rowV b, .bool ok]

/-- A row's numbers, one by one. -/
def fld (r : R8) (k : Nat) : Value :=
  match k with
  | 0 => .int .i64 r.x
  | 1 => .int .i64 r.y
  | 2 => .int .i64 r.px
  | 3 => .int .i64 r.py
  | 4 => .int .i64 r.wd
  | 5 => .int .i64 r.ht
  | 6 => .int .i64 r.ms
  | _ => .int .i64 r.rr
theorem rowIs8 (w : World) (r : R8) (t : TypeId) : (w.alloc (.cells #[.int .i64 r.x, .int .i64 r.y, .int .i64 r.px, .int .i64 r.py, .int .i64 r.wd, .int .i64 r.ht, .int .i64 r.ms, .int .i64 r.rr] t)).rowIs w.heap.size t 8 (fld r) :=
  World.rowIs_alloc w #[.int .i64 r.x, .int .i64 r.y, .int .i64 r.px, .int .i64 r.py, .int .i64 r.wd, .int .i64 r.ht, .int .i64 r.ms, .int .i64 r.rr] t (fld r) (fun i hi => by
    match i, hi with
    | 0, _ => rfl
    | 1, _ => rfl
    | 2, _ => rfl
    | 3, _ => rfl
    | 4, _ => rfl
    | 5, _ => rfl
    | 6, _ => rfl
    | 7, _ => rfl)
/-- Meet's four boxes: both rows, both answers. -/
structure Four (W : World) (N : Nat) (a b : R8) : Prop where
  a : W.rowIs N 30 8 (fld a)
  b : W.rowIs (N + 1) 30 8 (fld b)
  x : W.rowIs (N + 1 + 1) 30 8 (fld ⟨0, 0, 0, 0, 0, 0, 0, 0⟩)
  y : W.rowIs (N + 1 + 1 + 1) 30 8 (fld ⟨0, 0, 0, 0, 0, 0, 0, 0⟩)
theorem Four.below {W W' : World} {N : Nat} {a b : R8} (h : Four W N a b) (hb : Below W.heap.size W W') : Four W' N a b :=
  ⟨h.a.of_block (hb.block _ h.a.lt), h.b.of_block (hb.block _ h.b.lt), h.x.of_block (hb.block _ h.x.lt), h.y.of_block (hb.block _ h.y.lt)⟩
theorem Four.made (w : World) (a b : R8) : Four ((((w.alloc (.cells #[.int .i64 a.x, .int .i64 a.y, .int .i64 a.px, .int .i64 a.py, .int .i64 a.wd, .int .i64 a.ht, .int .i64 a.ms, .int .i64 a.rr] 30)).alloc (.cells #[.int .i64 b.x, .int .i64 b.y, .int .i64 b.px, .int .i64 b.py, .int .i64 b.wd, .int .i64 b.ht, .int .i64 b.ms, .int .i64 b.rr] 30)).alloc (.cells #[.int .i64 0, .int .i64 0, .int .i64 0, .int .i64 0, .int .i64 0, .int .i64 0, .int .i64 0, .int .i64 0] 30)).alloc (.cells #[.int .i64 0, .int .i64 0, .int .i64 0, .int .i64 0, .int .i64 0, .int .i64 0, .int .i64 0, .int .i64 0] 30)) w.heap.size a b := by
  refine ⟨(((rowIs8 w a _).alloc _).alloc _).alloc _, ?_, ?_, ?_⟩
  · have := rowIs8 (w.alloc (.cells #[.int .i64 a.x, .int .i64 a.y, .int .i64 a.px, .int .i64 a.py, .int .i64 a.wd, .int .i64 a.ht, .int .i64 a.ms, .int .i64 a.rr] 30)) b 30
    rw [World.size_alloc] at this
    exact (this.alloc _).alloc _
  · have := rowIs8 ((w.alloc (.cells #[.int .i64 a.x, .int .i64 a.y, .int .i64 a.px, .int .i64 a.py, .int .i64 a.wd, .int .i64 a.ht, .int .i64 a.ms, .int .i64 a.rr] 30)).alloc (.cells #[.int .i64 b.x, .int .i64 b.y, .int .i64 b.px, .int .i64 b.py, .int .i64 b.wd, .int .i64 b.ht, .int .i64 b.ms, .int .i64 b.rr] 30)) ⟨0, 0, 0, 0, 0, 0, 0, 0⟩ 30
    rw [World.size_alloc, World.size_alloc] at this
    exact this.alloc _
  · have := rowIs8 (((w.alloc (.cells #[.int .i64 a.x, .int .i64 a.y, .int .i64 a.px, .int .i64 a.py, .int .i64 a.wd, .int .i64 a.ht, .int .i64 a.ms, .int .i64 a.rr] 30)).alloc (.cells #[.int .i64 b.x, .int .i64 b.y, .int .i64 b.px, .int .i64 b.py, .int .i64 b.wd, .int .i64 b.ht, .int .i64 b.ms, .int .i64 b.rr] 30)).alloc (.cells #[.int .i64 0, .int .i64 0, .int .i64 0, .int .i64 0, .int .i64 0, .int .i64 0, .int .i64 0, .int .i64 0] 30)) ⟨0, 0, 0, 0, 0, 0, 0, 0⟩ 30
    rw [World.size_alloc, World.size_alloc, World.size_alloc] at this
    exact this

theorem good_no (a : R8) (h : goodB a = false) (w : World) :
    Calls Try.prog 61 #[rowV a] w fun e w' => e = .returned (.bool false) ∧ Below w.heap.size w w' := by
  have := good_any a w
  rw [h] at this
  exact this
theorem good_yes (a : R8) (h : goodB a = true) (w : World) :
    Calls Try.prog 61 #[rowV a] w fun e w' => e = .returned (.bool true) ∧ Below w.heap.size w w' := by
  have := good_any a w
  rw [h] at this
  exact this

set_option maxHeartbeats 4000000 in
theorem meet_no1 (a b : R8) (h : goodB a = false) (w : World) :
    Calls Try.prog 59 #[rowV a, rowV b] w fun e w' => e = .returned (retV a b false) ∧ Below w.heap.size w w' := by
  have c1 := good_no a h
  obtain ⟨x, y, px, py, wd, ht, ms, rr⟩ := a
  obtain ⟨x', y', px', py', wd', ht', ms', rr'⟩ := b
  unfold retV
  unfold rowV at *
  go_enter Try.func59, Try.ntmps59
  go_wp2_with fail
  refine (c1 _).mono ?_
  rintro e w1 ⟨rfl, hb⟩
  obtain ⟨hc, hf⟩ := bcell hb
  have hz := hb.size
  simp at hz
  have h0 : Hid (Below w.heap.size w w1) := bcall (bal (bal (bal (bal (Below.refl _ _) _) _) _) _) hb
  clear hb
  go_wp2
  go_region
  go_wp2
  refine bodyPost_ret (by simp [results, Try.results59, go_sem, hc]) rfl ⟨rfl, ?_⟩
  refine Below.drew ?_
  iterate 16 refine Below.setCell ?_ (by simp; omega) _
  exact h0.out

set_option maxHeartbeats 4000000 in
theorem meet_no2 (a b : R8) (h : goodB a = true) (h' : goodB b = false) (w : World) :
    Calls Try.prog 59 #[rowV a, rowV b] w fun e w' => e = .returned (retV a b false) ∧ Below w.heap.size w w' := by
  have c1 := good_yes a h
  have c2 := good_no b h'
  obtain ⟨x, y, px, py, wd, ht, ms, rr⟩ := a
  obtain ⟨x', y', px', py', wd', ht', ms', rr'⟩ := b
  unfold retV
  unfold rowV at *
  go_enter Try.func59, Try.ntmps59
  go_wp2_with fail
  refine (c1 _).mono ?_
  rintro e w1 ⟨rfl, hb⟩
  obtain ⟨hc, hf⟩ := bcell hb
  have hz := hb.size
  simp at hz
  have h0 : Hid (Below w.heap.size w w1) := bcall (bal (bal (bal (bal (Below.refl _ _) _) _) _) _) hb
  clear hb
  go_wp2_with fail
  refine (c2 _).mono ?_
  rintro e w2 ⟨rfl, hb⟩
  obtain ⟨hc', hf'⟩ := bcell hb
  replace hc : ∀ b o, b < w.heap.size + 1 + 1 + 1 + 1 → w2.cell? ⟨b, o, none⟩ = _ := fun b o hl => (hc' b o (by omega)).trans (hc b o (by simpa using hl))
  replace hf : ∀ b o, b < w.heap.size + 1 + 1 + 1 + 1 → w2.frozen? ⟨b, o, none⟩ = _ := fun b o hl => (hf' b o (by omega)).trans (hf b o (by simpa using hl))
  have hz' := hb.size
  replace hz := Nat.le_trans hz hz'
  replace h0 : Hid (Below w.heap.size w w2) := bcall h0.out hb
  clear hb hc' hf' hz'
  go_wp2
  go_region
  go_wp2
  refine bodyPost_ret (by simp [results, Try.results59, go_sem, hc]) rfl ⟨rfl, ?_⟩
  refine Below.drew ?_
  iterate 16 refine Below.setCell ?_ (by simp; omega) _
  exact h0.out
end Go.Proofs.Ytckkkdldljhehaa
