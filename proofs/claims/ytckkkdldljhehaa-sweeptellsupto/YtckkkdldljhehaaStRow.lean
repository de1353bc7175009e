/- What between, has, lay and Only of package store answer when called, in whatever world: each returns the plain answer named here; nothing that was in memory before has changed. No conditions. -/
import Derived.Test.YtckkkdldljhehaaRows
import Derived.Test.YtckkkdldljhehaaPl
import Derived.WalkKit
import Derived.ProofKit
import Derived.OpenShut
import Derived.RegionTactic
import Derived.BigRegion
import Derived.BigQuiet
import Derived.Deep.QuietTactic
import Derived.Deep.RegionWith
namespace Go.Proofs.Ytckkkdldljhehaa.St
open Go.Proofs.Ytckkkdldljhehaa.Num
open Go.ChangeShapes Go.WideShapes Go.ChangeAt Go.RowKit

def hasB (m p : Int) : Bool := bits .and .i64 m p == p
/-- 'lay': from's numbers where the mask has the part, else onto's. -/
def layR (m : Int) (f o : R8) : R8 :=
  ⟨if hasB m 1 then f.x else o.x, if hasB m 1 then f.y else o.y, if hasB m 2 then f.px else o.px, if hasB m 2 then f.py else o.py,
   if hasB m 4 then f.wd else o.wd, if hasB m 4 then f.ht else o.ht, if hasB m 8 then f.ms else o.ms, if hasB m 8 then f.rr else o.rr⟩
def zeroR : R8 := ⟨0, 0, 0, 0, 0, 0, 0, 0⟩
def onlyR (m : Int) (f : R8) : R8 := layR m f zeroR
def rowV (r : R8) : Value := .agg #[.int .i64 r.x, .int .i64 r.y, .int .i64 r.px, .int .i64 r.py, .int .i64 r.wd, .int .i64 r.ht, .int .i64 r.ms, .int .i64 r.rr]

theorem ret_bool {a b : Bool} (h : a = b) : Ending.returned (.bool a) = .returned (.bool b) := by rw [h]
theorem ret_int {k : IntKind} {a b : Int} (h : a = b) : Ending.returned (.int k a) = .returned (.int k b) := by rw [h]

theorem bal {a w : World} (h : Below a.heap.size a w) (o : Obj) : Below a.heap.size a (w.alloc o) := h.alloc h.size o
theorem bcall {a w w' : World} (h : Below a.heap.size a w) (h' : Below w.heap.size w w') : Below a.heap.size a w' := h.trans (h'.mono h.size)
theorem bcell {W w1 : World} (hb : Below W.heap.size W w1) : (∀ b o, b < W.heap.size → w1.cell? ⟨b, o, none⟩ = W.cell? ⟨b, o, none⟩) ∧ (∀ b o, b < W.heap.size → w1.frozen? ⟨b, o, none⟩ = W.frozen? ⟨b, o, none⟩) :=
  ⟨fun b o h => hb.cell (p := ⟨b, o, none⟩) h, fun b o h => hb.frozen (p := ⟨b, o, none⟩) h⟩

theorem between_any (n a b : Int) (w : World) :
    Calls Try.prog 70 #[.int .i64 n, .int .i64 a, .int .i64 b] w fun e w' => e = .returned (.bool (btw n a b)) ∧ w' = w := by
  go_enter Try.func70, Try.ntmps70
  go_wp2
  · go_ret
    exact ⟨ret_bool (by simp [btw]; omega), rfl⟩
  · go_ret
    exact ⟨ret_bool (by simp [btw]; omega), rfl⟩

theorem has_any (n a : Int) (w : World) :
    Calls Try.prog 77 #[.int .i64 n, .int .i64 a] w fun e w' => e = .returned (.bool (hasB n a)) ∧ w' = w := by
  go_enter Try.func77, Try.ntmps77
  go_wp2
  go_ret
  exact ⟨ret_bool rfl, rfl⟩

set_option maxHeartbeats 4000000 in
theorem lay_any (m : Int) (x y px py wd ht ms rr x' y' px' py' wd' ht' ms' rr' : Int) (w : World) :
    Calls Try.prog 74 #[.int .i64 m, .agg #[.int .i64 x, .int .i64 y, .int .i64 px, .int .i64 py, .int .i64 wd, .int .i64 ht, .int .i64 ms, .int .i64 rr], .agg #[.int .i64 x', .int .i64 y', .int .i64 px', .int .i64 py', .int .i64 wd', .int .i64 ht', .int .i64 ms', .int .i64 rr']] w
      fun e w' => e = .returned (rowV (layR m ⟨x, y, px, py, wd, ht, ms, rr⟩ ⟨x', y', px', py', wd', ht', ms', rr'⟩)) ∧ Below w.heap.size w w' := by
  unfold layR rowV
  cases h1 : hasB m 1 <;> cases h2 : hasB m 2 <;> cases h4 : hasB m 4 <;> cases h8 : hasB m 8
  all_goals
    simp only [if_true, if_false, Bool.false_eq_true]
    go_enter Try.func74, Try.ntmps74
    go_wp2_with (go_at_call 77; refine (has_any _ _ _).mono ?_; rintro e w' ⟨rfl, rfl⟩)
    try (go_region; go_wp2_with (go_at_call 77; refine (has_any _ _ _).mono ?_; rintro e w' ⟨rfl, rfl⟩))
    try (go_region; go_wp2_with (go_at_call 77; refine (has_any _ _ _).mono ?_; rintro e w' ⟨rfl, rfl⟩))
    try (go_region; go_wp2_with (go_at_call 77; refine (has_any _ _ _).mono ?_; rintro e w' ⟨rfl, rfl⟩))
    try (go_region; go_wp2_with (go_at_call 77; refine (has_any _ _ _).mono ?_; rintro e w' ⟨rfl, rfl⟩))
    exact bodyPost_ret (by simp [results, Try.results74, go_sem]) rfl ⟨rfl, by repeat (first | exact Below.refl _ _ | refine Below.drew ?_ | refine bal ?_ _)⟩
end Go.Proofs.Ytckkkdldljhehaa.St
