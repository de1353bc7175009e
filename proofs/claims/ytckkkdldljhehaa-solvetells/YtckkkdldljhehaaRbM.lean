/- MeetRows of package ninepinsref, underway: its boxes, the way's cell, the two rows that are moved. Lemmas on worlds and on plain numbers, no walk. -/
import Derived.Test.YtckkkdldljhehaaRbC
import Derived.Test.YtckkkdldljhehaaRbB
namespace Go.Proofs.Ytckkkdldljhehaa
open Go.ChangeShapes Go.WideShapes Go.ChangeAt Go.RowKit
open Num

structure Mid (w W : World) (gw g h : Nat) (way : Int) (a b p q : R8) : Prop where
  four : Four W w.heap.size a b
  rg : W.rowIs g 30 8 (fld p)
  rh : W.rowIs h 30 8 (fld q)
  cw : W.cell? ⟨gw, 0, none⟩ = some (.int .i64 way)
  lw : gw < W.heap.size
  bel : Below w.heap.size w W
  sep : g ≠ h ∧ gw ≠ g ∧ gw ≠ h ∧ w.heap.size + 1 + 1 + 1 < g ∧ w.heap.size + 1 + 1 + 1 < h
theorem Mid.drewN {w W : World} {gw g h : Nat} {way : Int} {a b p q : R8} (m : Mid w W gw g h way a b p q) (n : Nat) : Mid w (W.drewN n) gw g h way a b p q :=
  ⟨⟨m.four.a, m.four.b, m.four.x, m.four.y⟩, m.rg, m.rh, m.cw, m.lw, bdrewN m.bel n, m.sep⟩
theorem Mid.keptG {w W W' : World} {gw g h : Nat} {way : Int} {a b p q p' : R8} (m : Mid w W gw g h way a b p q) (k : Kept g g W W') (r : W'.rowIs g 30 8 (fld p')) : Mid w W' gw g h way a b p' q := by
  obtain ⟨s1, s2, s3, s4, s5⟩ := m.sep
  refine ⟨⟨m.four.a.of_block (k.block _ m.four.a.lt ?_ ?_), m.four.b.of_block (k.block _ m.four.b.lt ?_ ?_), m.four.x.of_block (k.block _ m.four.x.lt ?_ ?_), m.four.y.of_block (k.block _ m.four.y.lt ?_ ?_)⟩, r, m.rh.of_block (k.block _ m.rh.lt (Ne.symm s1) (Ne.symm s1)), (World.cell?_of_block (k.block gw m.lw s2 s2)).trans m.cw, Nat.lt_of_lt_of_le m.lw k.size, m.bel.trans (k.below ?_ ?_ m.bel.size), m.sep⟩
  all_goals omega
theorem Mid.keptH {w W W' : World} {gw g h : Nat} {way : Int} {a b p q q' : R8} (m : Mid w W gw g h way a b p q) (k : Kept h h W W') (r : W'.rowIs h 30 8 (fld q')) : Mid w W' gw g h way a b p q' := by
  obtain ⟨s1, s2, s3, s4, s5⟩ := m.sep
  refine ⟨⟨m.four.a.of_block (k.block _ m.four.a.lt ?_ ?_), m.four.b.of_block (k.block _ m.four.b.lt ?_ ?_), m.four.x.of_block (k.block _ m.four.x.lt ?_ ?_), m.four.y.of_block (k.block _ m.four.y.lt ?_ ?_)⟩, m.rg.of_block (k.block _ m.rg.lt s1 s1), r, (World.cell?_of_block (k.block gw m.lw s3 s3)).trans m.cw, Nat.lt_of_lt_of_le m.lw k.size, m.bel.trans (k.below ?_ ?_ m.bel.size), m.sep⟩
  all_goals omega
abbrev rc (r : R8) : Obj := .cells #[.int .i64 r.x, .int .i64 r.y, .int .i64 r.px, .int .i64 r.py, .int .i64 r.wd, .int .i64 r.ht, .int .i64 r.ms, .int .i64 r.rr] 30
theorem Mid.made1 {w W : World} {way : Int} {a b : R8} (f : Four W w.heap.size a b) (hb : Below w.heap.size w W) :
    Mid w (((W.alloc (.cells #[.int .i64 way] 3)).alloc (rc a)).alloc (rc b)) W.heap.size (W.heap.size + 1) (W.heap.size + 1 + 1) way a b a b := by
  have l4 := f.y.lt
  have r0 : (W.alloc (.cells #[.int .i64 way] 3)).rowIs W.heap.size 3 1 (fun _ => .int .i64 way) := World.rowIs_alloc W #[.int .i64 way] 3 (fun _ => .int .i64 way) (fun i hi => by
    match i, hi with
    | 0, _ => rfl)
  have r1 := rowIs8 (W.alloc (.cells #[.int .i64 way] 3)) a 30
  have r2 := rowIs8 ((W.alloc (.cells #[.int .i64 way] 3)).alloc (rc a)) b 30
  rw [World.size_alloc] at r1
  rw [World.size_alloc, World.size_alloc] at r2
  exact ⟨⟨((f.a.alloc _).alloc _).alloc _, ((f.b.alloc _).alloc _).alloc _, ((f.x.alloc _).alloc _).alloc _, ((f.y.alloc _).alloc _).alloc _⟩, r1.alloc _, r2, ((r0.alloc _).alloc _).cell (i := 0) (by omega), ((r0.alloc _).alloc _).lt, bal (bal (bal hb _) _) _, by omega⟩
theorem Mid.made2 {w W : World} {way : Int} {a b : R8} (f : Four W w.heap.size a b) (hb : Below w.heap.size w W) :
    Mid w (((W.alloc (.cells #[.int .i64 way] 3)).alloc (rc b)).alloc (rc a)) W.heap.size (W.heap.size + 1 + 1) (W.heap.size + 1) way a b a b := by
  have l4 := f.y.lt
  have r0 : (W.alloc (.cells #[.int .i64 way] 3)).rowIs W.heap.size 3 1 (fun _ => .int .i64 way) := World.rowIs_alloc W #[.int .i64 way] 3 (fun _ => .int .i64 way) (fun i hi => by
    match i, hi with
    | 0, _ => rfl)
  have r1 := rowIs8 (W.alloc (.cells #[.int .i64 way] 3)) b 30
  have r2 := rowIs8 ((W.alloc (.cells #[.int .i64 way] 3)).alloc (rc b)) a 30
  rw [World.size_alloc] at r1
  rw [World.size_alloc, World.size_alloc] at r2
  exact ⟨⟨((f.a.alloc _).alloc _).alloc _, ((f.b.alloc _).alloc _).alloc _, ((f.x.alloc _).alloc _).alloc _, ((f.y.alloc _).alloc _).alloc _⟩, r2, r1.alloc _, ((r0.alloc _).alloc _).cell (i := 0) (by omega), ((r0.alloc _).alloc _).lt, bal (bal (bal hb _) _) _, by omega⟩

def jOf (p q m n back way : Int) : Int := if nearOf p q m n way ≤ 0 then 0 else passed p q m n back way
theorem jOf_le (p q m n back way : Int) (hw : way = 1 ∨ way = -1) : -72057594037927936 ≤ jOf p q m n back way ∧ jOf p q m n back way ≤ 72057594037927936 := by
  have h := pa_le (nearOf p q m n way * timesOf m n) (256 + back) (sumOf m n * 256)
  unfold jOf passed; split
  · omega
  · rcases hw with rfl | rfl <;> omega
theorem pushA_j (p q m n back way : Int) (hp : -16777216 ≤ p ∧ p ≤ 16777216) (hm : m ≠ 0) : pushA p q m n back way = ad p (-(jOf p q m n back way)) 16777216 := by
  unfold pushA jOf
  by_cases h : nearOf p q m n way ≤ 0
  · rw [if_pos (.inl h), if_pos h, Int.neg_zero, ad_zero _ _ hp (by omega)]
  · rw [if_neg (by omega), if_neg h]
theorem pushB_j (p q m n back way : Int) (hq : -16777216 ≤ q ∧ q ≤ 16777216) (hn : n ≠ 0) : pushB p q m n back way = ad q (jOf p q m n back way) 16777216 := by
  unfold pushB jOf
  by_cases h : nearOf p q m n way ≤ 0
  · rw [if_pos (.inl h), if_pos h, ad_zero _ _ hq (by omega)]
  · rw [if_neg (by omega), if_neg h]
theorem atA_go (a m n d way g : Int) (h : shareOf m n d = g) : atA a m n d way = ad a (-g * way) 1048576 := by
  unfold atA; rw [h, Int.neg_mul, Int.neg_mul, Int.mul_comm]
theorem atB_go (b m n d way g : Int) (h : d - shareOf m n d = g) : atB b m n d way = ad b (g * way) 1048576 := by
  unfold atB; rw [h, Int.mul_comm]
theorem Four.cells {W : World} {N : Nat} {x y px py wd ht ms rr x' y' px' py' wd' ht' ms' rr' : Int} (h : Four W N ⟨x, y, px, py, wd, ht, ms, rr⟩ ⟨x', y', px', py', wd', ht', ms', rr'⟩) :
    W.cell? ⟨N, 0, none⟩ = some (.int .i64 x) ∧ W.cell? ⟨N, 1, none⟩ = some (.int .i64 y) ∧ W.cell? ⟨N, 2, none⟩ = some (.int .i64 px) ∧ W.cell? ⟨N, 3, none⟩ = some (.int .i64 py) ∧ W.cell? ⟨N, 4, none⟩ = some (.int .i64 wd) ∧ W.cell? ⟨N, 5, none⟩ = some (.int .i64 ht) ∧ W.cell? ⟨N, 6, none⟩ = some (.int .i64 ms) ∧ W.cell? ⟨N, 7, none⟩ = some (.int .i64 rr) ∧ W.cell? ⟨N + 1, 0, none⟩ = some (.int .i64 x') ∧ W.cell? ⟨N + 1, 1, none⟩ = some (.int .i64 y') ∧ W.cell? ⟨N + 1, 2, none⟩ = some (.int .i64 px') ∧ W.cell? ⟨N + 1, 3, none⟩ = some (.int .i64 py') ∧ W.cell? ⟨N + 1, 4, none⟩ = some (.int .i64 wd') ∧ W.cell? ⟨N + 1, 5, none⟩ = some (.int .i64 ht') ∧ W.cell? ⟨N + 1, 6, none⟩ = some (.int .i64 ms') ∧ W.cell? ⟨N + 1, 7, none⟩ = some (.int .i64 rr') :=
  ⟨h.a.cell (i := 0) (by omega), h.a.cell (i := 1) (by omega), h.a.cell (i := 2) (by omega), h.a.cell (i := 3) (by omega), h.a.cell (i := 4) (by omega), h.a.cell (i := 5) (by omega), h.a.cell (i := 6) (by omega), h.a.cell (i := 7) (by omega), h.b.cell (i := 0) (by omega), h.b.cell (i := 1) (by omega), h.b.cell (i := 2) (by omega), h.b.cell (i := 3) (by omega), h.b.cell (i := 4) (by omega), h.b.cell (i := 5) (by omega), h.b.cell (i := 6) (by omega), h.b.cell (i := 7) (by omega)⟩
theorem row_cells {W : World} {N : Nat} {x y px py wd ht ms rr : Int} (h : W.rowIs N 30 8 (fld ⟨x, y, px, py, wd, ht, ms, rr⟩)) :
    W.cell? ⟨N, 0, none⟩ = some (.int .i64 x) ∧ W.cell? ⟨N, 1, none⟩ = some (.int .i64 y) ∧ W.cell? ⟨N, 2, none⟩ = some (.int .i64 px) ∧ W.cell? ⟨N, 3, none⟩ = some (.int .i64 py) ∧ W.cell? ⟨N, 4, none⟩ = some (.int .i64 wd) ∧ W.cell? ⟨N, 5, none⟩ = some (.int .i64 ht) ∧ W.cell? ⟨N, 6, none⟩ = some (.int .i64 ms) ∧ W.cell? ⟨N, 7, none⟩ = some (.int .i64 rr) :=
  ⟨h.cell (i := 0) (by omega), h.cell (i := 1) (by omega), h.cell (i := 2) (by omega), h.cell (i := 3) (by omega), h.cell (i := 4) (by omega), h.cell (i := 5) (by omega), h.cell (i := 6) (by omega), h.cell (i := 7) (by omega)⟩
end Go.Proofs.Ytckkkdldljhehaa
