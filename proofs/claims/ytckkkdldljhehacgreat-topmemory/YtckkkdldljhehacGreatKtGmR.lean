/- What refused of package game answers; blocks of cells; an act's cells. -/
import Derived.Test.YtckkkdldljhehacGreatPkB
import Derived.Test.YtckkkdldljhehacGreatKtRpP
namespace Go.Proofs.YtckkkdldljhehacGreat.Gm
open Go.Proofs.YtckkkdldljhehacGreat.Num Go.Proofs.YtckkkdldljhehacGreat.St
open Go.ChangeShapes Go.WideShapes Go.ChangeAt Go.RowKit

theorem refused_any (c : Int) (w : World) : Calls Tryz.prog 30 #[.int .i64 c] w fun e w' => e = .returned (.agg #[.int .i64 c, .int .i64 0, .slice none 0 0, .slice none 0 0]) ∧ Below w.heap.size w w' := by
  go_enter Tryz.func30, Tryz.ntmps30
  go_wp2
  refine bodyPost_ret (v := .agg #[.int .i64 c, .int .i64 0, .slice none 0 0, .slice none 0 0]) (by simp [results, Tryz.results30, go_sem]) rfl ⟨rfl, ?_⟩
  exact bal (Below.refl _ _) _
theorem rowIsL (w : World) (cs : List Value) (t : TypeId) : (w.alloc (.cells cs.toArray t)).rowIs w.heap.size t cs.length (fun i => cs.getD i undef) :=
  ⟨cs.toArray, (MapKept.heap_alloc w _).1, by simp, fun i hi => by simp [List.getD, hi]⟩
/-- An act's 17 numbers. -/
abbrev actV (k i n m x y px py wd ht ms rr bi bx1 by1 bx2 by2 : Int) : Value := .agg #[.int .i64 k, .int .i64 i, .int .i64 n, .int .i64 m, .int .i64 x, .int .i64 y, .int .i64 px, .int .i64 py, .int .i64 wd, .int .i64 ht, .int .i64 ms, .int .i64 rr, .int .i64 bi, .int .i64 bx1, .int .i64 by1, .int .i64 bx2, .int .i64 by2]
theorem acells {W : World} {b : Nat} {t : TypeId} {k i n m x y px py wd ht ms rr bi bx1 by1 bx2 by2 : Int} (h : W.rowIs b t 17 (fun q => ([.int .i64 k, .int .i64 i, .int .i64 n, .int .i64 m, .int .i64 x, .int .i64 y, .int .i64 px, .int .i64 py, .int .i64 wd, .int .i64 ht, .int .i64 ms, .int .i64 rr, .int .i64 bi, .int .i64 bx1, .int .i64 by1, .int .i64 bx2, .int .i64 by2] : List Value).getD q undef)) : W.cell? ⟨b, 0, none⟩ = some (.int .i64 k) ∧ W.cell? ⟨b, 1, none⟩ = some (.int .i64 i) ∧ W.cell? ⟨b, 2, none⟩ = some (.int .i64 n) ∧ W.cell? ⟨b, 3, none⟩ = some (.int .i64 m) ∧ W.cell? ⟨b, 4, none⟩ = some (.int .i64 x) ∧ W.cell? ⟨b, 5, none⟩ = some (.int .i64 y) ∧ W.cell? ⟨b, 6, none⟩ = some (.int .i64 px) ∧ W.cell? ⟨b, 7, none⟩ = some (.int .i64 py) ∧ W.cell? ⟨b, 8, none⟩ = some (.int .i64 wd) ∧ W.cell? ⟨b, 9, none⟩ = some (.int .i64 ht) ∧ W.cell? ⟨b, 10, none⟩ = some (.int .i64 ms) ∧ W.cell? ⟨b, 11, none⟩ = some (.int .i64 rr) ∧ W.cell? ⟨b, 12, none⟩ = some (.int .i64 bi) ∧ W.cell? ⟨b, 13, none⟩ = some (.int .i64 bx1) ∧ W.cell? ⟨b, 14, none⟩ = some (.int .i64 by1) ∧ W.cell? ⟨b, 15, none⟩ = some (.int .i64 bx2) ∧ W.cell? ⟨b, 16, none⟩ = some (.int .i64 by2) :=
  ⟨h.cell (i := 0) (by omega), h.cell (i := 1) (by omega), h.cell (i := 2) (by omega), h.cell (i := 3) (by omega), h.cell (i := 4) (by omega), h.cell (i := 5) (by omega), h.cell (i := 6) (by omega), h.cell (i := 7) (by omega), h.cell (i := 8) (by omega), h.cell (i := 9) (by omega), h.cell (i := 10) (by omega), h.cell (i := 11) (by omega), h.cell (i := 12) (by omega), h.cell (i := 13) (by omega), h.cell (i := 14) (by omega), h.cell (i := 15) (by omega), h.cell (i := 16) (by omega)⟩
end Go.Proofs.YtckkkdldljhehacGreat.Gm
