/- What SameReply of package ninepinsref answers of two replies without lists that are alike, and what World and Do of a game answer that is nil; nothing that was in memory before has changed. -/
import Derived.Test.YtckkkdldljhehabGreatStRow
import Derived.Test.YtckkkdldljhehabGreatRpL
namespace Go.Proofs.YtckkkdldljhehabGreat.Gm
open Go.Proofs.YtckkkdldljhehabGreat.Num Go.Proofs.YtckkkdldljhehabGreat.St
open Go.ChangeShapes Go.WideShapes Go.ChangeAt Go.RowKit

/-- A reply without lists. -/
abbrev repE (c n : Int) : Value := .agg #[.int .i64 c, .int .i64 n, .slice none 0 0, .slice none 0 0]

theorem refused_any (c : Int) (w : World) : Calls Tryz.prog 62 #[.int .i64 c] w fun e w' => e = .returned (.agg #[.int .i64 c, .int .i64 0, .slice none 0 0, .slice none 0 0]) ∧ Below w.heap.size w w' := by
  go_enter Tryz.func62, Tryz.ntmps62
  go_wp2
  refine bodyPost_ret (v := .agg #[.int .i64 c, .int .i64 0, .slice none 0 0, .slice none 0 0]) (by simp [results, Tryz.results62, go_sem]) rfl ⟨rfl, ?_⟩
  exact bal (Below.refl _ _) _
theorem worldNil (w : World) : Calls Tryz.prog 28 #[.pointer none] w fun e w' => e = .returned (.agg #[.slice none 0 0, .int .i64 0, .int .i64 0, .int .i64 0, .int .i64 0]) ∧ Below w.heap.size w w' := by
  go_enter Tryz.func28, Tryz.ntmps28
  go_wp2
  refine bodyPost_ret (v := .agg #[.slice none 0 0, .int .i64 0, .int .i64 0, .int .i64 0, .int .i64 0]) (by simp [results, Tryz.results28, go_sem]) rfl ⟨rfl, ?_⟩
  exact bal (Below.refl _ _) _
theorem rowIsL (w : World) (cs : List Value) (t : TypeId) : (w.alloc (.cells cs.toArray t)).rowIs w.heap.size t cs.length (fun i => cs.getD i undef) :=
  ⟨cs.toArray, (MapKept.heap_alloc w _).1, by simp, fun i hi => by simp [List.getD, hi]⟩
/-- An act's 17 numbers. -/
abbrev actV (k i n m x y px py wd ht ms rr bi bx1 by1 bx2 by2 : Int) : Value := .agg #[.int .i64 k, .int .i64 i, .int .i64 n, .int .i64 m, .int .i64 x, .int .i64 y, .int .i64 px, .int .i64 py, .int .i64 wd, .int .i64 ht, .int .i64 ms, .int .i64 rr, .int .i64 bi, .int .i64 bx1, .int .i64 by1, .int .i64 bx2, .int .i64 by2]
set_option maxRecDepth 100000 in
set_option maxHeartbeats 1000000 in
theorem doNil (k i n m x y px py wd ht ms rr bi bx1 by1 bx2 by2 : Int) (w : World) : Calls Tryz.prog 30 #[.pointer none, actV k i n m x y px py wd ht ms rr bi bx1 by1 bx2 by2] w fun e w' => e = .returned (.agg #[.int .i64 3, .int .i64 0, .slice none 0 0, .slice none 0 0]) ∧ Below w.heap.size w w' := by
  go_enter Tryz.func30, Tryz.ntmps30
  go_wp2_with fail
  refine (refused_any 3 _).mono ?_
  rintro e w1 ⟨rfl, hb⟩
  have HB := Rp.hid (bcall (bal (bal (Below.refl _ w) _) _) hb)
  have hR := Rp.hid (Rp.rowBelow (Rp.rowIs4 (w.alloc (.cells #[.int .i64 k, .int .i64 i, .int .i64 n, .int .i64 m, .int .i64 x, .int .i64 y, .int .i64 px, .int .i64 py, .int .i64 wd, .int .i64 ht, .int .i64 ms, .int .i64 rr, .int .i64 bi, .int .i64 bx1, .int .i64 by1, .int .i64 bx2, .int .i64 by2] 65)) 0 0 (.slice none 0 0) (.slice none 0 0) 70) hb)
  rw [World.size_alloc] at hR
  have hz := hb.size
  simp at hz
  clear hb
  obtain ⟨x0, x1, x2, x3⟩ := Rp.rcells hR.out
  have f0 := hR.out.frozen 0
  have f1 := hR.out.frozen 1
  have f2 := hR.out.frozen 2
  have f3 := hR.out.frozen 3
  go_wp2_with fail
  refine bodyPost_ret (v := .agg #[.int .i64 3, .int .i64 0, .slice none 0 0, .slice none 0 0]) (by simp [results, Tryz.results30, go_sem, x0, x1, x2, x3]) rfl ⟨rfl, ?_⟩
  iterate 4 refine Below.setCell ?_ (by simp) _
  exact HB.out
theorem acells {W : World} {b : Nat} {t : TypeId} {k i n m x y px py wd ht ms rr bi bx1 by1 bx2 by2 : Int} (h : W.rowIs b t 17 (fun q => ([.int .i64 k, .int .i64 i, .int .i64 n, .int .i64 m, .int .i64 x, .int .i64 y, .int .i64 px, .int .i64 py, .int .i64 wd, .int .i64 ht, .int .i64 ms, .int .i64 rr, .int .i64 bi, .int .i64 bx1, .int .i64 by1, .int .i64 bx2, .int .i64 by2] : List Value).getD q undef)) : W.cell? ⟨b, 0, none⟩ = some (.int .i64 k) ∧ W.cell? ⟨b, 1, none⟩ = some (.int .i64 i) ∧ W.cell? ⟨b, 2, none⟩ = some (.int .i64 n) ∧ W.cell? ⟨b, 3, none⟩ = some (.int .i64 m) ∧ W.cell? ⟨b, 4, none⟩ = some (.int .i64 x) ∧ W.cell? ⟨b, 5, none⟩ = some (.int .i64 y) ∧ W.cell? ⟨b, 6, none⟩ = some (.int .i64 px) ∧ W.cell? ⟨b, 7, none⟩ = some (.int .i64 py) ∧ W.cell? ⟨b, 8, none⟩ = some (.int .i64 wd) ∧ W.cell? ⟨b, 9, none⟩ = some (.int .i64 ht) ∧ W.cell? ⟨b, 10, none⟩ = some (.int .i64 ms) ∧ W.cell? ⟨b, 11, none⟩ = some (.int .i64 rr) ∧ W.cell? ⟨b, 12, none⟩ = some (.int .i64 bi) ∧ W.cell? ⟨b, 13, none⟩ = some (.int .i64 bx1) ∧ W.cell? ⟨b, 14, none⟩ = some (.int .i64 by1) ∧ W.cell? ⟨b, 15, none⟩ = some (.int .i64 bx2) ∧ W.cell? ⟨b, 16, none⟩ = some (.int .i64 by2) :=
  ⟨h.cell (i := 0) (by omega), h.cell (i := 1) (by omega), h.cell (i := 2) (by omega), h.cell (i := 3) (by omega), h.cell (i := 4) (by omega), h.cell (i := 5) (by omega), h.cell (i := 6) (by omega), h.cell (i := 7) (by omega), h.cell (i := 8) (by omega), h.cell (i := 9) (by omega), h.cell (i := 10) (by omega), h.cell (i := 11) (by omega), h.cell (i := 12) (by omega), h.cell (i := 13) (by omega), h.cell (i := 14) (by omega), h.cell (i := 15) (by omega), h.cell (i := 16) (by omega)⟩
set_option maxRecDepth 100000 in
set_option maxHeartbeats 1000000 in
theorem gameNil_any (k i n m x y px py wd ht ms rr bi bx1 by1 bx2 by2 : Int) (w : World) : Calls Tryz.prog 7 #[actV k i n m x y px py wd ht ms rr bi bx1 by1 bx2 by2] w fun e w' => e = .returned (.bool true) ∧ Below w.heap.size w w' := by
  go_enter Tryz.func7, Tryz.ntmps7
  go_wp2_with fail
  refine (worldNil _).mono ?_
  rintro e w1 ⟨rfl, hb1⟩
  have HB1 := Rp.hid (bcall (bal (Below.refl _ w) _) hb1)
  have hA1 := Rp.hid (Rp.rowBelow (rowIsL w [.int .i64 k, .int .i64 i, .int .i64 n, .int .i64 m, .int .i64 x, .int .i64 y, .int .i64 px, .int .i64 py, .int .i64 wd, .int .i64 ht, .int .i64 ms, .int .i64 rr, .int .i64 bi, .int .i64 bx1, .int .i64 by1, .int .i64 bx2, .int .i64 by2] 65) hb1)
  have hz1 := hb1.size
  simp at hz1
  clear hb1
  obtain ⟨a0, a1, a2, a3, a4, a5, a6, a7, a8, a9, a10, a11, a12, a13, a14, a15, a16⟩ := acells hA1.out
  have n0 : w.heap.size < w1.heap.size := by omega
  go_wp2_with fail
  have hW := Rp.hid (rowIsL w1 [.slice none 0 0, .int .i64 0, .int .i64 0, .int .i64 0, .int .i64 0] 26)
  have HB2 := Rp.hid (bal HB1.out (.cells #[.slice none 0 0, .int .i64 0, .int .i64 0, .int .i64 0, .int .i64 0] 26))
  refine (doNil k i n m x y px py wd ht ms rr bi bx1 by1 bx2 by2 _).mono ?_
  rintro e w2 ⟨rfl, hb2⟩
  have hW2 := Rp.hid (Rp.rowBelow hW.out hb2)
  have HB3 := Rp.hid (bcall HB2.out hb2)
  clear hb2 a0 a1 a2 a3 a4 a5 a6 a7 a8 a9 a10 a11 a12 a13 a14 a15 a16 hA1 hW HB1 HB2
  go_wp2_with fail
  refine (Rp.sameReply_any 3 0 3 0 _ _ _ _ [] [] [] [] _ (Rp.ints_nil _ _ _) (Rp.pairs_nil _ _ _) (Rp.ints_nil _ _ _) (Rp.pairs_nil _ _ _) (by simp) (by simp)).mono ?_
  rintro e w3 ⟨rfl, hb3⟩
  have hW3 := Rp.hid (Rp.rowBelow hW2.out hb3)
  have HB4 := Rp.hid (bcall HB3.out hb3)
  clear hb3 hW2 HB3
  have x0 := hW3.out.cell (i := 0) (by simp)
  have x1 := hW3.out.cell (i := 1) (by simp)
  have x2 := hW3.out.cell (i := 2) (by simp)
  have x3 := hW3.out.cell (i := 3) (by simp)
  have x4 := hW3.out.cell (i := 4) (by simp)
  simp at x0 x1 x2 x3 x4
  have : decide ((3 : Int) = 3 ∧ (0 : Int) = 0 ∧ ([] : List Int) = [] ∧ ([] : List (Int × Int)) = []) = true := by decide
  rw [this]
  clear this
  go_wp2
  go_ret
  exact ⟨rfl, HB4.out⟩
end Go.Proofs.YtckkkdldljhehabGreat.Gm
