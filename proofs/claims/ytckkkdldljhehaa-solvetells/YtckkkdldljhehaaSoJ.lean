/- Two rows side by side in memory, cell by cell. Lemmas on worlds, no walk. -/
import Derived.Test.YtckkkdldljhehaaSoG
namespace Go.Proofs.Ytckkkdldljhehaa
open Go.ChangeShapes Go.WideShapes Go.ChangeAt Go.RowKit
open Num

structure Two (W : World) (N : Nat) (a b : R8) : Prop where
  a : W.rowIs N 30 8 (fld a)
  b : W.rowIs (N + 1) 30 8 (fld b)
theorem Two.below {W W' : World} {N : Nat} {a b : R8} (h : Two W N a b) (hb : Below W.heap.size W W') : Two W' N a b :=
  ⟨h.a.of_block (hb.block _ h.a.lt), h.b.of_block (hb.block _ h.b.lt)⟩
theorem Two.alloc {W : World} {N : Nat} {a b : R8} (h : Two W N a b) (o : Obj) : Two (W.alloc o) N a b := ⟨h.a.alloc o, h.b.alloc o⟩
theorem Two.drewN {W : World} {N : Nat} {a b : R8} (h : Two W N a b) (n : Nat) : Two (W.drewN n) N a b := ⟨h.a, h.b⟩
theorem Two.made (w : World) (a b : R8) : Two ((w.alloc (.cells #[.int .i64 a.x, .int .i64 a.y, .int .i64 a.px, .int .i64 a.py, .int .i64 a.wd, .int .i64 a.ht, .int .i64 a.ms, .int .i64 a.rr] 30)).alloc (.cells #[.int .i64 b.x, .int .i64 b.y, .int .i64 b.px, .int .i64 b.py, .int .i64 b.wd, .int .i64 b.ht, .int .i64 b.ms, .int .i64 b.rr] 30)) w.heap.size a b := by
  refine ⟨(rowIs8 w a _).alloc _, ?_⟩
  have := rowIs8 (w.alloc (.cells #[.int .i64 a.x, .int .i64 a.y, .int .i64 a.px, .int .i64 a.py, .int .i64 a.wd, .int .i64 a.ht, .int .i64 a.ms, .int .i64 a.rr] 30)) b 30
  rw [World.size_alloc] at this
  exact this
theorem Two.cells {W : World} {N : Nat} {x y px py wd ht ms rr x' y' px' py' wd' ht' ms' rr' : Int} (h : Two W N ⟨x, y, px, py, wd, ht, ms, rr⟩ ⟨x', y', px', py', wd', ht', ms', rr'⟩) :
    W.cell? ⟨N, 0, none⟩ = some (.int .i64 x) ∧ W.cell? ⟨N, 1, none⟩ = some (.int .i64 y) ∧ W.cell? ⟨N, 2, none⟩ = some (.int .i64 px) ∧ W.cell? ⟨N, 3, none⟩ = some (.int .i64 py) ∧ W.cell? ⟨N, 4, none⟩ = some (.int .i64 wd) ∧ W.cell? ⟨N, 5, none⟩ = some (.int .i64 ht) ∧ W.cell? ⟨N, 6, none⟩ = some (.int .i64 ms) ∧ W.cell? ⟨N, 7, none⟩ = some (.int .i64 rr) ∧ W.cell? ⟨N + 1, 0, none⟩ = some (.int .i64 x') ∧ W.cell? ⟨N + 1, 1, none⟩ = some (.int .i64 y') ∧ W.cell? ⟨N + 1, 2, none⟩ = some (.int .i64 px') ∧ W.cell? ⟨N + 1, 3, none⟩ = some (.int .i64 py') ∧ W.cell? ⟨N + 1, 4, none⟩ = some (.int .i64 wd') ∧ W.cell? ⟨N + 1, 5, none⟩ = some (.int .i64 ht') ∧ W.cell? ⟨N + 1, 6, none⟩ = some (.int .i64 ms') ∧ W.cell? ⟨N + 1, 7, none⟩ = some (.int .i64 rr') :=
  ⟨h.a.cell (i := 0) (by omega), h.a.cell (i := 1) (by omega), h.a.cell (i := 2) (by omega), h.a.cell (i := 3) (by omega), h.a.cell (i := 4) (by omega), h.a.cell (i := 5) (by omega), h.a.cell (i := 6) (by omega), h.a.cell (i := 7) (by omega), h.b.cell (i := 0) (by omega), h.b.cell (i := 1) (by omega), h.b.cell (i := 2) (by omega), h.b.cell (i := 3) (by omega), h.b.cell (i := 4) (by omega), h.b.cell (i := 5) (by omega), h.b.cell (i := 6) (by omega), h.b.cell (i := 7) (by omega)⟩
end Go.Proofs.Ytckkkdldljhehaa
