/- Tables in memory, read; two rows held against each other; the same things. Lemmas, no walk. -/
import Derived.Test.YtckkkdldljhehacGreatPkJ
import Derived.Deep.RegionHeld3
import Derived.Deep.DeepFit
namespace Go.Proofs.YtckkkdldljhehacGreat.Wd
open Go.Proofs.YtckkkdldljhehacGreat.Num Go.Proofs.YtckkkdldljhehacGreat.St
open Go.ChangeShapes Go.WideShapes Go.ChangeAt Go.RowKit

theorem at_plain {T : Nat → TabV} {I : Nat → Nat → Int} {R : Nat → Nat → R8} {n i j : Nat} (hi : i < n) (h1 : j < (T i).il) (h2 : j < (T i).rl) : At (plainOf T I R n) (I i j) (T i).mask (R i j) :=
  ⟨tabOf T I R i, mem_plain.2 ⟨i, hi, rfl⟩, rfl, j, by simp [tabOf, h1], by simp [tabOf, h2]⟩
theorem len_plain {next : Int} {T : Nat → TabV} {I : Nat → Nat → Int} {R : Nat → Nat → R8} {n i : Nat} (hg : GoodL next (plainOf T I R n)) (hi : i < n) : (T i).il = (T i).rl := by
  have := hg.even _ (mem_plain.2 ⟨i, hi, rfl⟩)
  simpa [tabOf] using this
/-- A table's three cells. -/
def tcell (t : TabV) (i : Nat) : Value := if i = 0 then .int .i64 t.mask else if i = 1 then .slice t.ia t.il t.ic else .slice t.ra t.rl t.rc
theorem rowIs3 (w : World) (t : TabV) (ty : TypeId) : (w.alloc (.cells #[.int .i64 t.mask, .slice t.ia t.il t.ic, .slice t.ra t.rl t.rc] ty)).rowIs w.heap.size ty 3 (tcell t) :=
  ⟨_, (MapKept.heap_alloc w _).1, rfl, fun i hi => by
    match i, hi with
    | 0, _ => rfl
    | 1, _ => rfl
    | 2, _ => rfl⟩
theorem tcells {W : World} {b : Nat} {t : TabV} {ty : TypeId} (h : W.rowIs b ty 3 (tcell t)) : W.cell? ⟨b, 0, none⟩ = some (.int .i64 t.mask) ∧ W.cell? ⟨b, 1, none⟩ = some (.slice t.ia t.il t.ic) ∧ W.cell? ⟨b, 2, none⟩ = some (.slice t.ra t.rl t.rc) :=
  ⟨h.cell (i := 0) (by omega), h.cell (i := 1) (by omega), h.cell (i := 2) (by omega)⟩
theorem eqRn (d : Nat) (r q : R8) (w : World) :
    (Op.equalIn (d + 2) 34 (.agg #[.int .i64 r.x, .int .i64 r.y, .int .i64 r.px, .int .i64 r.py, .int .i64 r.wd, .int .i64 r.ht, .int .i64 r.ms, .int .i64 r.rr]) (.agg #[.int .i64 q.x, .int .i64 q.y, .int .i64 q.px, .int .i64 q.py, .int .i64 q.wd, .int .i64 q.ht, .int .i64 q.ms, .int .i64 q.rr])).run Tryz.prog w = .ok (eqR r q) w := St.eq30n d _ _ _ _ _ _ _ _ _ _ _ _ _ _ _ _ w
theorem neqOf {n : Nat} {P : Program} {w : World} {t : TypeId} {xs ys : Array Value} (h : n = 10000) {v : Bool} (e : (Op.equalIn n t (.agg xs) (.agg ys)).run P w = .ok v w) :
    (binOp .neq t (.agg xs) (.agg ys)).run P w = .ok (.bool (!v)) w := by
  subst h
  rw [run_neq_struct, e]
  rfl
theorem neqR (r q : R8) (w : World) :
    (binOp .neq 34 (.agg #[.int .i64 r.x, .int .i64 r.y, .int .i64 r.px, .int .i64 r.py, .int .i64 r.wd, .int .i64 r.ht, .int .i64 r.ms, .int .i64 r.rr]) (.agg #[.int .i64 q.x, .int .i64 q.y, .int .i64 q.px, .int .i64 q.py, .int .i64 q.wd, .int .i64 q.ht, .int .i64 q.ms, .int .i64 q.rr])).run Tryz.prog w = .ok (.bool (!eqR r q)) w :=
  neqOf (n := 9998 + 2) rfl (eqRn 9998 r q w)
theorem eqR_refl (r : R8) : eqR r r = true := by simp [eqR]

theorem mem_all_at {next : Int} {L : List Tab} (hg : GoodL next L) {v : Int} : v ∈ allL L ↔ ∃ m r, At L v m r := by
  constructor
  · intro hv
    exact ⟨_, _, at_of_mem hg hv⟩
  · rintro ⟨m, r, h⟩
    exact at_mem h
theorem all_same {next next' : Int} {L L' : List Tab} (hg : GoodL next L) (hg' : GoodL next' L') (h : SameAt L L') : (allL L).length = (allL L').length := by
  refine (nodup_perm hg.2.2.2.2.2 hg'.2.2.2.2.2 (fun v => ?_)).length_eq
  rw [mem_all_at hg, mem_all_at hg']
  constructor
  · rintro ⟨m, r, h1⟩; exact ⟨m, r, (h v m r).1 h1⟩
  · rintro ⟨m, r, h1⟩; exact ⟨m, r, (h v m r).2 h1⟩
end Go.Proofs.YtckkkdldljhehacGreat.Wd
