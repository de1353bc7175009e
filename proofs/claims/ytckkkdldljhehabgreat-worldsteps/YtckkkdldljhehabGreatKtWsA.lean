/- What moves, free (of StepOf), Copy of a world, WorldOf, SameWorld of package ninepinsref answer when called; nothing that was in memory before has changed. -/
import Derived.Test.YtckkkdldljhehabGreatKtWsP
import Derived.Test.YtckkkdldljhehabGreatPkO
namespace Go.Proofs.YtckkkdldljhehabGreat.Ws
open Go.Proofs.YtckkkdldljhehabGreat.Num Go.Proofs.YtckkkdldljhehabGreat.St Go.Proofs.YtckkkdldljhehabGreat.Mp Go.Proofs.YtckkkdldljhehabGreat.Th Go.Proofs.YtckkkdldljhehabGreat.Wd
open Go.ChangeShapes Go.WideShapes Go.ChangeAt Go.RowKit

theorem moves_eq : ∀ m ∈ masks, (hasR m 1 && (hasR m 2 && hasR m 8)) = hasB m 11 := by decide +kernel
set_option maxHeartbeats 1000000 in
theorem moves_any (m : Int) (h : 0 ≤ m ∧ m ≤ 31) (w : World) : Calls Tryz.prog 50 #[.int .i64 m] w fun e w' => e = .returned (.bool (hasB m 11)) ∧ w' = w := by
  have e := moves_eq m (mem_masks h)
  rw [← e]
  clear e
  cases h1 : hasR m 1 <;> cases h2 : hasR m 2 <;> cases h3 : hasR m 8
  all_goals
    go_enter Tryz.func50, Tryz.ntmps50
    go_wp2_with (go_at_call 51; refine (Th.has_any _ _ ⟨by omega, by omega⟩ ⟨by omega, by omega⟩ _).mono ?_; rintro e w' ⟨rfl, rfl⟩)
    go_ret
    exact ⟨by simp, rfl⟩
/-- A thing's nine cells. -/
def thCells (t : Th) : List Value := .int .i64 t.m :: St.rowCells t.r
theorem th_box (w : World) (t : Th) (ty : TypeId) : (w.alloc (.cells #[.int .i64 t.m, .int .i64 t.r.x, .int .i64 t.r.y, .int .i64 t.r.px, .int .i64 t.r.py, .int .i64 t.r.wd, .int .i64 t.r.ht, .int .i64 t.r.ms, .int .i64 t.r.rr] ty)).rowIs w.heap.size ty 9 (fun i => (thCells t).getD i undef) :=
  ⟨_, (MapKept.heap_alloc w _).1, rfl, fun i hi => by
    match i, hi with
    | 0, _ => rfl
    | 1, _ => rfl
    | 2, _ => rfl
    | 3, _ => rfl
    | 4, _ => rfl
    | 5, _ => rfl
    | 6, _ => rfl
    | 7, _ => rfl
    | 8, _ => rfl⟩
theorem th9 {W : World} {b : Nat} {t : Th} {ty : TypeId} (h : W.rowIs b ty 9 (fun i => (thCells t).getD i undef)) : W.cell? ⟨b, 0, none⟩ = some (.int .i64 t.m) ∧ W.cell? ⟨b, 1, none⟩ = some (.int .i64 t.r.x) ∧ W.cell? ⟨b, 2, none⟩ = some (.int .i64 t.r.y) ∧ W.cell? ⟨b, 3, none⟩ = some (.int .i64 t.r.px) ∧ W.cell? ⟨b, 4, none⟩ = some (.int .i64 t.r.py) ∧ W.cell? ⟨b, 5, none⟩ = some (.int .i64 t.r.wd) ∧ W.cell? ⟨b, 6, none⟩ = some (.int .i64 t.r.ht) ∧ W.cell? ⟨b, 7, none⟩ = some (.int .i64 t.r.ms) ∧ W.cell? ⟨b, 8, none⟩ = some (.int .i64 t.r.rr) :=
  ⟨h.cell (i := 0) (by omega), h.cell (i := 1) (by omega), h.cell (i := 2) (by omega), h.cell (i := 3) (by omega), h.cell (i := 4) (by omega), h.cell (i := 5) (by omega), h.cell (i := 6) (by omega), h.cell (i := 7) (by omega), h.cell (i := 8) (by omega)⟩
theorem rcells {W : World} {b : Nat} {ty : TypeId} {v : Value} {next fall wide high : Int} (h : W.rowIs b ty 5 (wcell v next fall wide high)) : W.cell? ⟨b, 0, none⟩ = some v ∧ W.cell? ⟨b, 1, none⟩ = some (.int .i64 next) ∧ W.cell? ⟨b, 2, none⟩ = some (.int .i64 fall) ∧ W.cell? ⟨b, 3, none⟩ = some (.int .i64 wide) ∧ W.cell? ⟨b, 4, none⟩ = some (.int .i64 high) ∧
    W.frozen? ⟨b, 0, none⟩ = false ∧ W.frozen? ⟨b, 1, none⟩ = false ∧ W.frozen? ⟨b, 2, none⟩ = false ∧ W.frozen? ⟨b, 3, none⟩ = false ∧ W.frozen? ⟨b, 4, none⟩ = false :=
  ⟨h.cell (i := 0) (by omega), h.cell (i := 1) (by omega), h.cell (i := 2) (by omega), h.cell (i := 3) (by omega), h.cell (i := 4) (by omega), h.frozen 0, h.frozen 1, h.frozen 2, h.frozen 3, h.frozen 4⟩
set_option maxHeartbeats 1000000 in
theorem free_any (t : Th) (h : 0 ≤ t.m ∧ t.m ≤ 31) (w : World) :
    Calls Tryz.prog 55 #[.agg #[.int .i64 t.m, .int .i64 t.r.x, .int .i64 t.r.y, .int .i64 t.r.px, .int .i64 t.r.py, .int .i64 t.r.wd, .int .i64 t.r.ht, .int .i64 t.r.ms, .int .i64 t.r.rr]] w fun e w' => e = .returned (.agg #[.int .i64 (bodyR t.m t.r).x, .int .i64 (bodyR t.m t.r).y, .int .i64 (bodyR t.m t.r).px, .int .i64 (bodyR t.m t.r).py, .int .i64 (bodyR t.m t.r).wd, .int .i64 (bodyR t.m t.r).ht, .int .i64 (bodyR t.m t.r).ms, .int .i64 (bodyR t.m t.r).rr]) ∧ Below w.heap.size w w' := by
  obtain ⟨m, x, y, px, py, wd, ht, ms, rr⟩ := t
  simp only at h ⊢
  have HM := St.hid (moves_any m h)
  cases hb : hasB m 11
  · rw [show bodyR m ⟨x, y, px, py, wd, ht, ms, rr⟩ = ⟨x, y, 0, 0, wd, ht, 0, rr⟩ from by simp [bodyR, hb]]
    rw [hb] at HM
    go_enter Tryz.func55, Tryz.ntmps55
    go_wp2_with (go_at_call 50; refine (HM.out _).mono ?_; rintro e w' ⟨rfl, rfl⟩)
    refine bodyPost_ret (by simp [results, Tryz.results55, go_sem]) rfl ⟨rfl, ?_⟩
    repeat refine Below.setCell ?_ (by simp) _
    exact bal (bal (bal (Below.refl _ _) _) _) _
  · rw [show bodyR m ⟨x, y, px, py, wd, ht, ms, rr⟩ = ⟨x, y, px, py, wd, ht, ms, rr⟩ from by simp [bodyR, hb]]
    rw [hb] at HM
    go_enter Tryz.func55, Tryz.ntmps55
    go_wp2_with (go_at_call 50; refine (HM.out _).mono ?_; rintro e w' ⟨rfl, rfl⟩)
    refine bodyPost_ret (by simp [results, Tryz.results55, go_sem]) rfl ⟨rfl, ?_⟩
    repeat refine Below.setCell ?_ (by simp) _
    exact bal (bal (bal (Below.refl _ _) _) _) _

set_option maxHeartbeats 1000000 in
theorem wcopy_any (b : Nat) (l : Mth) (next fall wide high : Int) (w : World) (h : Mp w b l) (hl : l.length ≤ 1000000) :
    Calls Tryz.prog 48 #[.agg #[.map (some b), .int .i64 next, .int .i64 fall, .int .i64 wide, .int .i64 high]] w fun e w' => (∃ c, e = .returned (.agg #[.map (some c), .int .i64 next, .int .i64 fall, .int .i64 wide, .int .i64 high]) ∧ w.heap.size ≤ c ∧ Mp w' c l) ∧ Below w.heap.size w w' := by
  have HM := St.hid h
  have HL := St.hid hl
  clear h hl
  go_enter Tryz.func48, Tryz.ntmps48
  have hW0 := St.hid ((rowIs5 w (.map (some b)) next fall wide high 31).alloc (.cells #[.map none, .int .i64 0, .int .i64 0, .int .i64 0, .int .i64 0] 31))
  have hR0 := St.hid (rowIs5 (w.alloc (.cells #[.map (some b), .int .i64 next, .int .i64 fall, .int .i64 wide, .int .i64 high] 31)) (.map none) 0 0 0 0 31)
  rw [World.size_alloc] at hR0
  have HC := St.hid (copy_any b l _ (HM.out.below (bal (bal (Below.refl _ w) (.cells #[.map (some b), .int .i64 next, .int .i64 fall, .int .i64 wide, .int .i64 high] 31)) (.cells #[.map none, .int .i64 0, .int .i64 0, .int .i64 0, .int .i64 0] 31))) HL.out)
  go_wp2_with (go_at_call 93; refine HC.out.mono ?_; rintro e w1 ⟨⟨c, rfl, hc, hm⟩, hb1⟩; have HMC := St.hid hm; have hW1 := St.hid (rowIs_below hW0.out hb1); have hR1 := St.hid (rowIs_below hR0.out hb1); have HB1 := St.hid (bcall (bal (bal (Below.refl _ w) _) _) hb1); simp only [World.size_alloc] at hc; have hz1 := hb1.size; simp only [World.size_alloc] at hz1; clear hm hb1; obtain ⟨x0, x1, x2, x3, x4, xf0, xf1, xf2, xf3, xf4⟩ := rcells hW1.out; obtain ⟨y0, y1, y2, y3, y4, yf0, yf1, yf2, yf3, yf4⟩ := rcells hR1.out)
  refine bodyPost_ret (v := .agg #[.map (some c), .int .i64 next, .int .i64 fall, .int .i64 wide, .int .i64 high]) (by simp [results, Tryz.results48, go_sem, y0, y1, y2, y3, y4]) rfl ⟨⟨c, rfl, by omega, ?_⟩, ?_⟩
  · refine HMC.out.block ?_
    repeat rw [Below.heap_setCell _ _ _ _ (by simp; omega)]
  · repeat refine Below.setCell ?_ (by simp) _
    exact HB1.out
end Go.Proofs.YtckkkdldljhehabGreat.Ws
