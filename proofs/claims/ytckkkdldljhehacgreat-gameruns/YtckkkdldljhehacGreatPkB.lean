/- Part of the proofs of GamePlays and GameRuns (package ninepinslaw): contracts of the functions that they call. -/
import Derived.Test.YtckkkdldljhehacGreatRows
import Derived.WalkKit
import Derived.ProofKit
import Derived.OpenShut
import Derived.RegionTactic
import Derived.BigRegion
import Derived.BigQuiet
import Derived.Deep.QuietTactic
import Derived.Deep.RegionWith
import Derived.WalkSmall
import Derived.Deep.LoopGhost
import Derived.Maps.OwnSet
import Derived.Test.YtckkkdldljhehacGreatPkA1
namespace Go.Proofs.YtckkkdldljhehacGreat
namespace St
open Num
open Go.ChangeShapes Go.WideShapes Go.ChangeAt Go.RowKit
def hasB (m p : Int) : Bool := bits .and .i64 m p == p
def layR (m : Int) (f o : R8) : R8 :=
 ⟨if hasB m 1 then f.x else o.x, if hasB m 1 then f.y else o.y, if hasB m 2 then f.px else o.px, if hasB m 2 then f.py else o.py,
  if hasB m 4 then f.wd else o.wd, if hasB m 4 then f.ht else o.ht, if hasB m 8 then f.ms else o.ms, if hasB m 8 then f.rr else o.rr⟩
def zeroR : R8 := ⟨0, 0, 0, 0, 0, 0, 0, 0⟩
def onlyR (m : Int) (f : R8) : R8 := layR m f zeroR
def rowV (r : R8) : Value := .agg #[.int .i64 r.x, .int .i64 r.y, .int .i64 r.px, .int .i64 r.py, .int .i64 r.wd, .int .i64 r.ht, .int .i64 r.ms, .int .i64 r.rr]
theorem ret_bool {a b : Bool} (h : a = b) : Ending.returned (.bool a) = .returned (.bool b) := by rw [h]
theorem ret_int {k : IntKind} {a b : Int} (h : a = b) : Ending.returned (.int k a) = .returned (.int k b) := by rw [h]
theorem bal {a w : World} (h : Below a.heap.size a w) (o : Obj) : Below a.heap.size a (w.alloc o) := h.alloc h.size o
theorem bcall {a w w' : World} (h : Below a.heap.size a w) (h' : Below w.heap.size w w') : Below a.heap.size a w' := h.trans (h'.mono h.size)
theorem bcell {W w1 : World} (hb : Below W.heap.size W w1) : (∀ b o, b < W.heap.size → w1.cell? ⟨b, o, none⟩ = W.cell? ⟨b, o, none⟩) ∧ (∀ b o, b < W.heap.size → w1.frozen? ⟨b, o, none⟩ = W.frozen? ⟨b, o, none⟩) :=
 ⟨fun b o h => hb.cell (p := ⟨b, o, none⟩) h, fun b o h => hb.frozen (p := ⟨b, o, none⟩) h⟩
theorem between_any (n a b : Int) (w : World) :
  Calls Tryz.prog 72 #[.int .i64 n, .int .i64 a, .int .i64 b] w fun e w' => e = .returned (.bool (btw n a b)) ∧ w' = w := by
 go_enter Tryz.func72, Tryz.ntmps72
 go_wp2
 ·go_ret
  exact ⟨ret_bool (by simp [btw]; omega), rfl⟩
 ·go_ret
  exact ⟨ret_bool (by simp [btw]; omega), rfl⟩
theorem has_any (n a : Int) (w : World) :
  Calls Tryz.prog 74 #[.int .i64 n, .int .i64 a] w fun e w' => e = .returned (.bool (hasB n a)) ∧ w' = w := by
 go_enter Tryz.func74, Tryz.ntmps74
 go_wp2
 go_ret
 exact ⟨ret_bool rfl, rfl⟩
set_option maxHeartbeats 4000000 in
theorem lay_any (m : Int) (x y px py wd ht ms rr x' y' px' py' wd' ht' ms' rr' : Int) (w : World) :
  Calls Tryz.prog 95 #[.int .i64 m, .agg #[.int .i64 x, .int .i64 y, .int .i64 px, .int .i64 py, .int .i64 wd, .int .i64 ht, .int .i64 ms, .int .i64 rr], .agg #[.int .i64 x', .int .i64 y', .int .i64 px', .int .i64 py', .int .i64 wd', .int .i64 ht', .int .i64 ms', .int .i64 rr']] w
   fun e w' => e = .returned (rowV (layR m ⟨x, y, px, py, wd, ht, ms, rr⟩ ⟨x', y', px', py', wd', ht', ms', rr'⟩)) ∧ Below w.heap.size w w' := by
 unfold layR rowV
 cases h1 : hasB m 1 <;> cases h2 : hasB m 2 <;> cases h4 : hasB m 4 <;> cases h8 : hasB m 8
 all_goals
  simp only [if_true, if_false, Bool.false_eq_true]
  go_enter Tryz.func95, Tryz.ntmps95
  go_wp2_with (go_at_call 74; refine (has_any _ _ _).mono ?_; rintro e w' ⟨rfl, rfl⟩)
  try (go_region; go_wp2_with (go_at_call 74; refine (has_any _ _ _).mono ?_; rintro e w' ⟨rfl, rfl⟩))
  try (go_region; go_wp2_with (go_at_call 74; refine (has_any _ _ _).mono ?_; rintro e w' ⟨rfl, rfl⟩))
  try (go_region; go_wp2_with (go_at_call 74; refine (has_any _ _ _).mono ?_; rintro e w' ⟨rfl, rfl⟩))
  try (go_region; go_wp2_with (go_at_call 74; refine (has_any _ _ _).mono ?_; rintro e w' ⟨rfl, rfl⟩))
  exact bodyPost_ret (by simp [results, Tryz.results95, go_sem]) rfl ⟨rfl, by repeat (first | exact Below.refl _ _ | refine Below.drew ?_ | refine bal ?_ _)⟩
end St
namespace St
open Num
open Go.ChangeShapes Go.WideShapes Go.ChangeAt Go.RowKit
set_option maxHeartbeats 400000 in
theorem only_any (m : Int) (x y px py wd ht ms rr : Int) (w : World) :
  Calls Tryz.prog 94 #[.int .i64 m, .agg #[.int .i64 x, .int .i64 y, .int .i64 px, .int .i64 py, .int .i64 wd, .int .i64 ht, .int .i64 ms, .int .i64 rr]] w
   fun e w' => e = .returned (rowV (onlyR m ⟨x, y, px, py, wd, ht, ms, rr⟩)) ∧ Below w.heap.size w w' := by
 go_enter Tryz.func94, Tryz.ntmps94
 go_wp2_with fail
 refine (lay_any _ _ _ _ _ _ _ _ _ _ _ _ _ _ _ _ _ _).mono ?_
 rintro e w1 ⟨rfl, hb⟩
 obtain ⟨hc, hf⟩ := bcell hb
 have hz := hb.size
 simp at hz
 unfold rowV
 go_wp2
 refine bodyPost_ret (by simp [results, Tryz.results94, go_sem, hc]; rfl) rfl ⟨rfl, ?_⟩
 have h0 : Below w.heap.size w w1 := bcall (bal (bal (Below.refl _ _) _) _) hb
 iterate 8 refine Below.setCell ?_ (by simp) _
 exact h0
def goodPartsB (m : Int) (r : R8) : Bool :=
 if hasB m 4 && !(btw r.wd 1 4096 && btw r.ht 1 4096) then false else
 if hasB m 8 && !(btw r.ms 1 9) then false else
 btw r.x (-1048576) 1048576 && btw r.y (-1048576) 1048576 && btw r.px (-16777216) 16777216 && btw r.py (-16777216) 16777216 && btw r.rr 0 256
set_option maxHeartbeats 400000 in
theorem goodParts_any (m : Int) (x y px py wd ht ms rr : Int) (w : World) :
  Calls Tryz.prog 108 #[.int .i64 m, .agg #[.int .i64 x, .int .i64 y, .int .i64 px, .int .i64 py, .int .i64 wd, .int .i64 ht, .int .i64 ms, .int .i64 rr]] w
   fun e w' => e = .returned (.bool (goodPartsB m ⟨x, y, px, py, wd, ht, ms, rr⟩)) ∧ Below w.heap.size w w' := by
 go_enter Tryz.func108, Tryz.ntmps108
 go_wp2_with (first | (go_at_call 74; refine (has_any _ _ _).mono ?_; rintro e w' ⟨rfl, rfl⟩) | (go_at_call 72; refine (between_any _ _ _ _).mono ?_; rintro e w' ⟨rfl, rfl⟩))
 all_goals
  go_ret
  exact ⟨ret_bool (by simp_all [goodPartsB]), bal (Below.refl _ _) _⟩
def eqR (r s : R8) : Bool := r.x == s.x && r.y == s.y && r.px == s.px && r.py == s.py && r.wd == s.wd && r.ht == s.ht && r.ms == s.ms && r.rr == s.rr
def goodRowB (m : Int) (r : R8) : Bool := btw m 1 31 && (eqR r (onlyR m r) && goodPartsB m r)
theorem eq30n (d : Nat) (x y px py wd ht ms rr x' y' px' py' wd' ht' ms' rr' : Int) (w : World) :
  (Op.equalIn (d + 2) 34 (.agg #[.int .i64 x, .int .i64 y, .int .i64 px, .int .i64 py, .int .i64 wd, .int .i64 ht, .int .i64 ms, .int .i64 rr]) (.agg #[.int .i64 x', .int .i64 y', .int .i64 px', .int .i64 py', .int .i64 wd', .int .i64 ht', .int .i64 ms', .int .i64 rr'])).run Tryz.prog w = .ok (eqR ⟨x, y, px, py, wd, ht, ms, rr⟩ ⟨x', y', px', py', wd', ht', ms', rr'⟩) w := by
 have h1 : Tryz.prog.underlying 34 = some (.struct (Tryz.prog.fieldsOf 34)) := by kernel_rfl
 have h2 : Tryz.prog.stoodInHeld 34 = false := by kernel_rfl
 rw [run_equalIn_struct w (d + 1) 34 _ _ h1 h2]
 simp [go_sem, Tryz.underlying34, Tryz.underlying3]
 unfold eqR
 by_cases a1 : x = x' <;> by_cases a2 : y = y' <;> by_cases a3 : px = px' <;> by_cases a4 : py = py' <;> by_cases a5 : wd = wd' <;> by_cases a6 : ht = ht' <;> by_cases a7 : ms = ms' <;> by_cases a8 : rr = rr' <;> simp [a1, a2, a3, a4, a5, a6, a7, a8]
theorem eqlOf {n : Nat} {P : Program} {w : World} {t : TypeId} {xs ys : Array Value} (h : n = 10000) {v : Bool} (e : (Op.equalIn n t (.agg xs) (.agg ys)).run P w = .ok v w) :
  (binOp .eql t (.agg xs) (.agg ys)).run P w = .ok (.bool v) w := by
 subst h
 rw [run_eql_struct, e]
 rfl
theorem eq30 (x y px py wd ht ms rr x' y' px' py' wd' ht' ms' rr' : Int) (w : World) :
  (binOp .eql 34 (.agg #[.int .i64 x, .int .i64 y, .int .i64 px, .int .i64 py, .int .i64 wd, .int .i64 ht, .int .i64 ms, .int .i64 rr]) (.agg #[.int .i64 x', .int .i64 y', .int .i64 px', .int .i64 py', .int .i64 wd', .int .i64 ht', .int .i64 ms', .int .i64 rr'])).run Tryz.prog w = .ok (.bool (eqR ⟨x, y, px, py, wd, ht, ms, rr⟩ ⟨x', y', px', py', wd', ht', ms', rr'⟩)) w :=
 eqlOf (n := 9998 + 2) rfl (eq30n 9998 _ _ _ _ _ _ _ _ _ _ _ _ _ _ _ _ w)
end St
namespace St
open Num
open Go.ChangeShapes Go.WideShapes Go.ChangeAt Go.RowKit
set_option maxHeartbeats 1000000 in
set_option maxRecDepth 10000 in
theorem goodRow_any (m : Int) (x y px py wd ht ms rr : Int) (w : World) :
  Calls Tryz.prog 88 #[.int .i64 m, .agg #[.int .i64 x, .int .i64 y, .int .i64 px, .int .i64 py, .int .i64 wd, .int .i64 ht, .int .i64 ms, .int .i64 rr]] w
   fun e w' => e = .returned (.bool (goodRowB m ⟨x, y, px, py, wd, ht, ms, rr⟩)) ∧ Below w.heap.size w w' := by
 have e30 := eq30
 have hO0 := only_any m x y px py wd ht ms rr
 have hG : Hid (goodRowB m ⟨x, y, px, py, wd, ht, ms, rr⟩ = (btw m 1 31 && (eqR ⟨x, y, px, py, wd, ht, ms, rr⟩ (onlyR m ⟨x, y, px, py, wd, ht, ms, rr⟩) && goodPartsB m ⟨x, y, px, py, wd, ht, ms, rr⟩))) := rfl
 generalize onlyR m ⟨x, y, px, py, wd, ht, ms, rr⟩ = r at hO0 hG
 obtain ⟨x', y', px', py', wd', ht', ms', rr'⟩ := r
 have hO : Hid _ := hO0
 clear hO0
 unfold rowV at hO
 cases h : btw m 1 31
 ·go_enter Tryz.func88, Tryz.ntmps88
  go_wp2_with fail
  go_quiet ((go_at_call 72; exact Calls.quiet_of_same (between_any _ _ _ _)))
  go_wp2
  go_ret
  exact ⟨ret_bool (by rw [hG.out, h]; rfl), below_drewN (bal (Below.refl _ _) _) _⟩
 ·cases h2 : eqR ⟨x, y, px, py, wd, ht, ms, rr⟩ ⟨x', y', px', py', wd', ht', ms', rr'⟩
  ·go_enter Tryz.func88, Tryz.ntmps88
   go_wp2_with fail
   first | go_region_with (first | (go_at_call 72; refine (between_any _ _ _ _).mono ?_; rintro e w' ⟨rfl, rfl⟩) | (go_at_call 94; refine (hO.out _).mono ?_; rintro e w' ⟨rfl, hb⟩; obtain ⟨hc, hf⟩ := bcell hb; clear hf; have HB : Hid _ := hb; clear hb)) | fail
   all_goals
    go_wp2
    go_ret
    exact ⟨ret_bool (by rw [hG.out, h, h2]; rfl), bcall (Below.drew (bal (Below.refl _ _) _)) HB.out⟩
  ·go_enter Tryz.func88, Tryz.ntmps88
   go_wp2_with fail
   first | go_region_with (first | (go_at_call 72; refine (between_any _ _ _ _).mono ?_; rintro e w' ⟨rfl, rfl⟩) | (go_at_call 94; refine (hO.out _).mono ?_; rintro e w' ⟨rfl, hb⟩; obtain ⟨hc, hf⟩ := bcell hb; clear hf; have HB : Hid _ := hb; clear hb) | (go_at_call 108; refine (goodParts_any _ _ _ _ _ _ _ _ _ _).mono ?_; rintro e w' ⟨rfl, hb2⟩; have HB2 : Hid _ := hb2; clear hb2)) | fail
   all_goals
    go_wp2
    go_ret
    exact ⟨ret_bool (by rw [hG.out, h, h2]; rfl), bcall (bcall (Below.drew (bal (Below.refl _ _) _)) HB.out) HB2.out⟩
end St
namespace St
open Num
open Go.ChangeShapes Go.WideShapes Go.ChangeAt Go.RowKit
structure TabV where
 mask : Int
 ia : Option Addr
 il : Nat
 ic : Nat
 ra : Option Addr
 rl : Nat
 rc : Nat
def TabsIn (w : World) (a : Option Addr) (n : Nat) (T : Nat → TabV) : Prop :=
 0 < n → ∃ b off, a = some ⟨b, off, none⟩ ∧ b < w.heap.size ∧ ∀ i, i < n →
  w.cell? ⟨b, off + i * 3, none⟩ = some (.int .i64 (T i).mask) ∧ w.cell? ⟨b, off + i * 3 + 1, none⟩ = some (.slice (T i).ia (T i).il (T i).ic) ∧ w.cell? ⟨b, off + i * 3 + 2, none⟩ = some (.slice (T i).ra (T i).rl (T i).rc)
def sizeW (T : Nat → TabV) : Nat → Int
 | 0 => 0
 | k + 1 => wrap64 (sizeW T k + (T k).il)
set_option maxHeartbeats 400000 in
theorem size_any (a : Option Addr) (n cap : Nat) (next : Int) (T : Nat → TabV) (w : World) (hn : n ≤ maxLen) (hT : TabsIn w a n T) :
  Calls Tryz.prog 41 #[.agg #[.slice a n cap, .int .i64 next]] w fun e w' => e = .returned (.int .i64 (sizeW T n)) ∧ Below w.heap.size w w' := by
 unfold maxLen at hn
 rcases Nat.eq_zero_or_pos n with rfl | hp
 ·go_enter Tryz.func41, Tryz.ntmps41
  go_wp2
  go_loop [3, 9] (fun s i => s = .int .i64 0 ∧ i = .int .i64 0) (fun _ _ => 0)
  case atStart => exact ⟨rfl, rfl⟩
  case round =>
   obtain ⟨rfl, rfl⟩ := hrel
   go_wp2
   go_ret
   exact ⟨rfl, bal (Below.refl _ _) _⟩
 ·obtain ⟨b, off, rfl, hb, hc⟩ := hT hp
  go_enter Tryz.func41, Tryz.ntmps41
  go_wp2
  go_loopw [3, 9] (fun s i wr => ∃ k : Nat, k ≤ n ∧ i = .int .i64 k ∧ s = .int .i64 (sizeW T k) ∧ Below w.heap.size w wr) (fun _ i _ => n - (intOf i).toNat)
  case atStart => exact ⟨0, Nat.zero_le _, rfl, rfl, bal (Below.refl _ _) _⟩
  case round =>
   obtain ⟨k, hk, rfl, rfl, hbl⟩ := hrel
   by_cases hlt : k < n
   ·obtain ⟨c0, c1, c2⟩ := hc k hlt
    obtain ⟨hx, hf⟩ := bcell hbl
    have HB : Hid _ := hbl
    clear hbl hf hc hT
    go_wp2_with fail
    go_roundw
    case rel => exact ⟨k + 1, by omega, by go_num, by simp [sizeW], by repeat (first | exact HB.out | refine bal ?_ _)⟩
    case measure => simp [intOf]; omega
   ·go_wp2
    go_ret
    exact ⟨ret_int (by rw [show k = n by omega]), hbl⟩
end St
namespace St
open Num
open Go.ChangeShapes Go.WideShapes Go.ChangeAt Go.RowKit
def IdsIn (w : World) (a : Option Addr) (n : Nat) (f : Nat → Int) : Prop :=
 0 < n → ∃ b off, a = some ⟨b, off, none⟩ ∧ b < w.heap.size ∧ ∀ i, i < n → w.cell? ⟨b, off + i, none⟩ = some (.int .i64 (f i))
def RowsIn (w : World) (a : Option Addr) (n : Nat) (r : Nat → R8) : Prop :=
 0 < n → ∃ b off, a = some ⟨b, off, none⟩ ∧ b < w.heap.size ∧ ∀ i, i < n →
  w.cell? ⟨b, off + i * 8, none⟩ = some (.int .i64 (r i).x) ∧ w.cell? ⟨b, off + i * 8 + 1, none⟩ = some (.int .i64 (r i).y) ∧
  w.cell? ⟨b, off + i * 8 + 2, none⟩ = some (.int .i64 (r i).px) ∧ w.cell? ⟨b, off + i * 8 + 3, none⟩ = some (.int .i64 (r i).py) ∧
  w.cell? ⟨b, off + i * 8 + 4, none⟩ = some (.int .i64 (r i).wd) ∧ w.cell? ⟨b, off + i * 8 + 5, none⟩ = some (.int .i64 (r i).ht) ∧
  w.cell? ⟨b, off + i * 8 + 6, none⟩ = some (.int .i64 (r i).ms) ∧ w.cell? ⟨b, off + i * 8 + 7, none⟩ = some (.int .i64 (r i).rr)
theorem IdsIn.below {w w' : World} {a : Option Addr} {n : Nat} {f : Nat → Int} (h : IdsIn w a n f) (hb : Below w.heap.size w w') : IdsIn w' a n f := by
 intro hp
 obtain ⟨b, off, e, hl, hc⟩ := h hp
 exact ⟨b, off, e, Nat.lt_of_lt_of_le hl hb.size, fun i hi => (hb.cell (p := ⟨b, off + i, none⟩) hl).trans (hc i hi)⟩
theorem RowsIn.below {w w' : World} {a : Option Addr} {n : Nat} {r : Nat → R8} (h : RowsIn w a n r) (hb : Below w.heap.size w w') : RowsIn w' a n r := by
 intro hp
 obtain ⟨b, off, e, hl, hc⟩ := h hp
 have k := fun o => hb.cell (p := ⟨b, o, none⟩) hl
 exact ⟨b, off, e, Nat.lt_of_lt_of_le hl hb.size, fun i hi => by simp only [k]; exact hc i hi⟩
theorem TabsIn.below {w w' : World} {a : Option Addr} {n : Nat} {T : Nat → TabV} (h : TabsIn w a n T) (hb : Below w.heap.size w w') : TabsIn w' a n T := by
 intro hp
 obtain ⟨b, off, e, hl, hc⟩ := h hp
 have k := fun o => hb.cell (p := ⟨b, o, none⟩) hl
 exact ⟨b, off, e, Nat.lt_of_lt_of_le hl hb.size, fun i hi => by simp only [k]; exact hc i hi⟩
def IdxIs (f : Nat → Int) (v : Int) (n : Nat) (r : Int) : Prop :=
 (r = -1 ∧ ∀ j, j < n → f j ≠ v) ∨ ∃ k : Nat, r = k ∧ k < n ∧ f k = v ∧ ∀ j, j < k → f j ≠ v
set_option maxHeartbeats 400000 in
theorem index_any (a : Option Addr) (n cap : Nat) (f : Nat → Int) (v : Int) (w : World) (hn : n ≤ maxLen) (h : IdsIn w a n f) :
  Calls Tryz.prog 75 #[.slice a n cap, .int .i64 v] w fun e w' => (∃ r, e = .returned (.int .i64 r) ∧ IdxIs f v n r) ∧ w' = w := by
 unfold maxLen at hn
 rcases Nat.eq_zero_or_pos n with rfl | hp
 ·go_enter Tryz.func75, Tryz.ntmps75
  go_wp2
  go_loop [8] (fun i => i = .int .i64 0) (fun _ => 0)
  case atStart => rfl
  case round =>
   subst hrel
   go_wp2
   go_ret
   exact ⟨⟨-1, rfl, Or.inl ⟨rfl, fun j hj => absurd hj (Nat.not_lt_zero _)⟩⟩, rfl⟩
 ·obtain ⟨b, off, rfl, hb, hc⟩ := h hp
  clear h
  go_enter Tryz.func75, Tryz.ntmps75
  go_wp2
  go_loop [8] (fun i => ∃ k : Nat, k ≤ n ∧ i = .int .i64 k ∧ Hid (∀ j, j < k → f j ≠ v)) (fun i => n - (intOf i).toNat)
  case atStart => exact ⟨0, Nat.zero_le _, rfl, fun j hj => absurd hj (Nat.not_lt_zero _)⟩
  case round =>
   obtain ⟨k, hk, rfl, hno⟩ := hrel
   by_cases hlt : k < n
   ·have hck := hc k hlt
    clear hc
    cases hv : (v == f k)
    ·go_wp2
     go_round
     case rel =>
      refine ⟨k + 1, by omega, by go_num, fun j hj => ?_⟩
      by_cases e : j = k
      ·subst e
       intro q
       simp [q] at hv
      ·exact hno.out j (by omega)
     case measure => simp [intOf]; omega
    ·go_wp2
     go_ret
     have q : v = f k := by simpa using hv
     exact ⟨⟨(k : Int), rfl, Or.inr ⟨k, rfl, hlt, q.symm, hno.out⟩⟩, rfl⟩
   ·go_wp2
    go_ret
    exact ⟨⟨-1, rfl, Or.inl ⟨rfl, fun j hj => hno.out j (by omega)⟩⟩, rfl⟩
end St
namespace St
open Num
open Go.ChangeShapes Go.WideShapes Go.ChangeAt Go.RowKit
def NoneTo (T : Nat → TabV) (I : Nat → Nat → Int) (v : Int) (k : Nat) : Prop := ∀ i, i < k → ∀ j, j < (T i).il → I i j ≠ v
set_option maxHeartbeats 1000000 in
theorem find_any (a : Option Addr) (n cap : Nat) (next v : Int) (T : Nat → TabV) (I : Nat → Nat → Int) (w : World) (hn : n ≤ maxLen) (hT : TabsIn w a n T)
  (hI : ∀ i, i < n → IdsIn w (T i).ia (T i).il (I i)) (hev : ∀ i, i < n → (T i).rl = (T i).il ∧ (T i).il ≤ maxLen) :
  Calls Tryz.prog 45 #[.agg #[.slice a n cap, .int .i64 next], .int .i64 v] w fun e w' =>
   ((e = .returned (.tuple #[.agg #[.int .i64 0, .int .i64 0], .bool false]) ∧ NoneTo T I v n) ∨
    ∃ i j : Nat, e = .returned (.tuple #[.agg #[.int .i64 i, .int .i64 j], .bool true]) ∧ i < n ∧ j < (T i).il ∧ I i j = v) ∧ Below w.heap.size w w' := by
 unfold maxLen at hn hev
 rcases Nat.eq_zero_or_pos n with rfl | hp
 ·go_enter Tryz.func45, Tryz.ntmps45
  go_wp2
  go_loop [12] (fun i => i = .int .i64 0) (fun _ => 0)
  case atStart => rfl
  case round =>
   subst hrel
   go_wp2
   exact bodyPost_ret (v := .tuple #[.agg #[.int .i64 0, .int .i64 0], .bool false]) (by simp [results, Tryz.results45, go_sem]) rfl ⟨⟨rfl, fun i hi => absurd hi (Nat.not_lt_zero _)⟩, bal (bal (Below.refl _ _) _) _⟩
 ·obtain ⟨b, off, rfl, hb, hc⟩ := hT hp
  clear hT
  have HI : Hid _ := hI
  have HE : Hid _ := hev
  clear hI hev
  go_enter Tryz.func45, Tryz.ntmps45
  go_wp2
  go_loopw [12] (fun i wr => ∃ k : Nat, k ≤ n ∧ i = .int .i64 k ∧ Hid (NoneTo T I v k) ∧ Below (w.heap.size + 2) ((w.alloc (.cells #[.slice (some ⟨b, off, none⟩) n cap, .int .i64 next] 43)).alloc (.cells #[.int .i64 0, .int .i64 0] 99)) wr) (fun i _ => n - (intOf i).toNat)
  case atStart => exact ⟨0, Nat.zero_le _, rfl, fun i hi => absurd hi (Nat.not_lt_zero _), Below.refl _ _⟩
  case round =>
   obtain ⟨k, hk, rfl, hno, hbl⟩ := hrel
   have hz := hbl.size
   simp at hz
   have hz1 : w.heap.size + 1 < wr.heap.size := by omega
   obtain ⟨hx, hf⟩ := bcell (W := (w.alloc (.cells #[.slice (some ⟨b, off, none⟩) n cap, .int .i64 next] 43)).alloc (.cells #[.int .i64 0, .int .i64 0] 99)) (by simpa using hbl)
   have h0 : Below w.heap.size w wr := bcall (bal (bal (Below.refl _ _) _) _) (by simpa using hbl)
   have H0 : Hid _ := h0
   have HB : Hid _ := hbl
   clear hbl h0
   by_cases hlt : k < n
   ·obtain ⟨c0, c1, c2⟩ := hc k hlt
    rw [← H0.out.cell (by exact hb)] at c0 c1 c2
    obtain ⟨e1, e2⟩ := HE.out k hlt
    have HC : Hid _ := hc
    clear hc
    go_wp2_with fail
    refine (index_any _ _ _ (I k) _ _ (by unfold maxLen; exact e2) (((HI.out k hlt).below H0.out).below (bal (Below.refl _ _) _))).mono ?_
    rintro e w' ⟨⟨r, rfl, hr⟩, rfl⟩
    rcases hr with ⟨rfl, hr⟩ | ⟨j, rfl, hj, hq, -⟩
    ·have HR : Hid _ := hr
     clear hr
     go_wp2
     go_roundw
     case rel =>
      refine ⟨k + 1, by omega, by go_num, fun i hi => ?_, ?_⟩
      ·by_cases e : i = k
       ·subst e
        exact HR.out
       ·exact hno.out i (by omega)
      ·exact HB.out.alloc (by omega) _
     case measure => simp [intOf]; omega
    ·have HQ : Hid _ := hq
     clear hq
     go_wp2
     refine bodyPost_ret (v := .tuple #[.agg #[.int .i64 k, .int .i64 j], .bool true]) (by simp [results, Tryz.results45, go_sem, hx, hz1]) rfl ⟨Or.inr ⟨k, j, rfl, hlt, hj, HQ.out⟩, ?_⟩
     refine bal ?_ _
     refine Below.setCell ?_ (by simp) _
     refine Below.setCell ?_ (by simp) _
     exact H0.out
   ·go_wp2
    refine bodyPost_ret (v := .tuple #[.agg #[.int .i64 0, .int .i64 0], .bool false]) (by simp [results, Tryz.results45, go_sem, hx]) rfl ⟨Or.inl ⟨rfl, fun i hi => hno.out i (by omega)⟩, ?_⟩
    exact (H0.out.setCell (by simp) _).setCell (by simp) _
end St
namespace St
open Num
open Go.ChangeShapes Go.WideShapes Go.ChangeAt Go.RowKit
set_option maxHeartbeats 1000000 in
theorem get_any (a : Option Addr) (n cap : Nat) (next v : Int) (T : Nat → TabV) (I : Nat → Nat → Int) (R : Nat → Nat → R8) (w : World) (hn : n ≤ maxLen) (hT : TabsIn w a n T)
  (hI : ∀ i, i < n → IdsIn w (T i).ia (T i).il (I i)) (hR : ∀ i, i < n → RowsIn w (T i).ra (T i).rl (R i)) (hev : ∀ i, i < n → (T i).rl = (T i).il ∧ (T i).il ≤ maxLen) :
  Calls Tryz.prog 19 #[.agg #[.slice a n cap, .int .i64 next], .int .i64 v] w fun e w' =>
   ((e = .returned (.tuple #[.int .i64 0, .agg #[.int .i64 0, .int .i64 0, .int .i64 0, .int .i64 0, .int .i64 0, .int .i64 0, .int .i64 0, .int .i64 0], .bool false]) ∧ NoneTo T I v n) ∨
    ∃ i j : Nat, e = .returned (.tuple #[.int .i64 (T i).mask, .agg #[.int .i64 (R i j).x, .int .i64 (R i j).y, .int .i64 (R i j).px, .int .i64 (R i j).py, .int .i64 (R i j).wd, .int .i64 (R i j).ht, .int .i64 (R i j).ms, .int .i64 (R i j).rr], .bool true]) ∧ i < n ∧ j < (T i).il ∧ I i j = v) ∧ Below w.heap.size w w' := by
 have hfi := fun w' hb => find_any a n cap next v T I w' hn (hT.below hb) (fun i hi => (hI i hi).below hb) hev
 have HF : Hid _ := hfi
 have HT : Hid _ := hT
 have HR : Hid _ := hR
 have HE : Hid _ := hev
 unfold maxLen at hn
 clear hfi hT hI hR hev
 go_enter Tryz.func19, Tryz.ntmps19
 go_wp2_with fail
 refine (HF.out _ (bal (bal (Below.refl _ _) _) _)).mono ?_
 rintro e w1 ⟨he, hb⟩
 obtain ⟨hx, hf⟩ := bcell hb
 have hz := hb.size
 simp at hz
 have hz0 : w.heap.size < w1.heap.size := by omega
 have hz1 : w.heap.size + 1 < w1.heap.size := by omega
 have h0 : Below w.heap.size w w1 := bcall (bal (bal (Below.refl _ _) _) _) hb
 have H0 : Hid _ := h0
 clear h0 hb
 rcases he with ⟨rfl, hno⟩ | ⟨i, j, rfl, hi, hj, hq⟩
 ·have HN : Hid _ := hno
  clear hno
  go_wp2
  refine bodyPost_ret (v := .tuple #[.int .i64 0, .agg #[.int .i64 0, .int .i64 0, .int .i64 0, .int .i64 0, .int .i64 0, .int .i64 0, .int .i64 0, .int .i64 0], .bool false]) (by simp [results, Tryz.results19, go_sem, hx, hz1]) rfl ⟨Or.inl ⟨rfl, HN.out⟩, ?_⟩
  refine bal ?_ _
  iterate 8 refine Below.setCell ?_ (by simp) _
  exact H0.out
 ·have HQ : Hid _ := hq
  clear hq
  obtain ⟨b, off, rfl, hb, hc⟩ := HT.out (by omega)
  obtain ⟨e1, e2⟩ := HE.out i hi
  obtain ⟨b', off', ha', hb', hc'⟩ := HR.out i hi (by omega)
  obtain ⟨c0, c1, c2⟩ := hc i hi
  rw [← H0.out.cell (by exact hb)] at c0 c1 c2
  obtain ⟨r0, r1, r2, r3, r4, r5, r6, r7⟩ := hc' j (by omega)
  rw [← H0.out.cell (by exact hb')] at r0 r1 r2 r3 r4 r5 r6 r7
  unfold maxLen at e2
  have hz2 : w.heap.size + 1 < w1.heap.size + 1 := by omega
  have hbz : b < w1.heap.size := by omega
  have hbz' : b' < w1.heap.size := by omega
  rw [ha'] at c2
  clear hc hc' HF
  go_wp2
  go_region
  all_goals
   go_wp2
   refine bodyPost_ret (v := .tuple #[.int .i64 (T i).mask, .agg #[.int .i64 (R i j).x, .int .i64 (R i j).y, .int .i64 (R i j).px, .int .i64 (R i j).py, .int .i64 (R i j).wd, .int .i64 (R i j).ht, .int .i64 (R i j).ms, .int .i64 (R i j).rr], .bool true]) (by simp [results, Tryz.results19, go_sem, hx, hz1, hz2]) rfl ⟨Or.inr ⟨i, j, rfl, hi, hj, HQ.out⟩, ?_⟩
   refine Below.drew ?_
   refine bal ?_ _
   refine bal ?_ _
   iterate 8 refine Below.setCell ?_ (by simp) _
   exact H0.out
end St
namespace St
open Num
open Go.ChangeShapes Go.WideShapes Go.ChangeAt Go.RowKit
def GoodTo (m next : Int) (I : Nat → Int) (R : Nat → R8) (k : Nat) : Prop := ∀ j, j < k → btw (I j) 0 (next - 1) = true ∧ goodRowB m (R j) = true
def GoodTab (m next : Int) (il rl : Nat) (I : Nat → Int) (R : Nat → R8) : Prop := 0 < il ∧ il = rl ∧ GoodTo m next I R il
set_option maxHeartbeats 2000000 in
theorem goodTable_even (m next : Int) (b off n cap b' off' cap' : Nat) (I : Nat → Int) (R : Nat → R8) (w : World) (hn : n ≤ maxLen) (hp : 0 < n) (h0 : 0 ≤ next) (h1 : next ≤ 1048576)
  (hb : b < w.heap.size) (hc : ∀ i, i < n → w.cell? ⟨b, off + i, none⟩ = some (.int .i64 (I i))) (hR : RowsIn w (some ⟨b', off', none⟩) n R) :
  Calls Tryz.prog 73 #[.agg #[.int .i64 m, .slice (some ⟨b, off, none⟩) n cap, .slice (some ⟨b', off', none⟩) n cap'], .int .i64 next] w fun e w' =>
   (∃ g, e = .returned (.bool g) ∧ (g = true ↔ GoodTo m next I R n)) ∧ Below w.heap.size w w' := by
 unfold maxLen at hn
 obtain ⟨b0, off0, he, hb', hc'⟩ := hR hp
 simp only [Option.some.injEq, Addr.mk.injEq, and_true] at he
 obtain ⟨rfl, rfl⟩ := he
 clear hR
 have h0n : ((n : Int) == 0) = false := by simp; omega
 go_enter Tryz.func73, Tryz.ntmps73
 go_wp2
 go_loopw [23] (fun i wr => ∃ k : Nat, k ≤ n ∧ i = .int .i64 k ∧ Hid (GoodTo m next I R k) ∧ Below (w.heap.size + 1) (w.alloc (.cells #[.int .i64 m, .slice (some ⟨b, off, none⟩) n cap, .slice (some ⟨b', off', none⟩) n cap'] 65)) wr) (fun i _ => n - (intOf i).toNat)
 case atStart => exact ⟨0, Nat.zero_le _, rfl, fun i hi => absurd hi (Nat.not_lt_zero _), Below.refl _ _⟩
 case round =>
  obtain ⟨k, hk, rfl, hno, hbl⟩ := hrel
  have hz := hbl.size
  simp at hz
  have hz1 : w.heap.size < wr.heap.size := by omega
  have hx : ∀ o, wr.cell? ⟨w.heap.size, o, none⟩ = (w.alloc (.cells #[.int .i64 m, .slice (some ⟨b, off, none⟩) n cap, .slice (some ⟨b', off', none⟩) n cap'] 65)).cell? ⟨w.heap.size, o, none⟩ := fun o => hbl.cell (p := ⟨w.heap.size, o, none⟩) (by simp)
  have hB : Below w.heap.size w wr := bcall (bal (Below.refl _ _) _) (by simpa using hbl)
  have HB : Hid _ := hB
  have HL : Hid _ := hbl
  clear hB hbl
  by_cases hlt : k < n
  ·have c0 := hc k hlt
   rw [← HB.out.cell (by exact hb)] at c0
   obtain ⟨r0, r1, r2, r3, r4, r5, r6, r7⟩ := hc' k hlt
   rw [← HB.out.cell (by exact hb')] at r0 r1 r2 r3 r4 r5 r6 r7
   have HC : Hid _ := hc
   have HC' : Hid _ := hc'
   clear hc hc'
   cases hq : btw (I k) 0 (next - 1)
   ·go_wp2
    go_quiet ((go_at_call 72; exact Calls.quiet_of_same (between_any _ _ _ _)))
    go_wp2
    go_ret
    refine ⟨⟨false, rfl, ?_⟩, below_drewN HB.out _⟩
    constructor
    ·intro h; cases h
    ·intro h; have := (h k hlt).1; rw [hq] at this; cases this
   ·have hw : IntKind.i64.wrap (next - 1) = next - 1 := by rw [IntKind.wrap_i64]; omega
    cases hg : goodRowB m ⟨(R k).x, (R k).y, (R k).px, (R k).py, (R k).wd, (R k).ht, (R k).ms, (R k).rr⟩
    ·go_wp2
     go_region_with (first | (go_at_call 72; refine (between_any _ _ _ _).mono ?_; rintro e w' ⟨rfl, rfl⟩) | (go_at_call 88; refine (goodRow_any _ _ _ _ _ _ _ _ _ _).mono ?_; rintro e w' ⟨rfl, hb2⟩; have HB2 : Hid _ := hb2; clear hb2))
     all_goals
      go_wp2
      go_ret
      refine ⟨⟨false, rfl, ?_⟩, bcall HB.out.drew HB2.out⟩
      constructor
      ·intro h; cases h
      ·intro h; have := (h k hlt).2; rw [show goodRowB m (R k) = false from hg] at this; cases this
    ·go_wp2
     go_region_with (first | (go_at_call 72; refine (between_any _ _ _ _).mono ?_; rintro e w' ⟨rfl, rfl⟩) | (go_at_call 88; refine (goodRow_any _ _ _ _ _ _ _ _ _ _).mono ?_; rintro e w' ⟨rfl, hb2⟩; have HB2 : Hid _ := hb2; clear hb2))
     all_goals
      go_wp2
      go_roundw
      case rel =>
       refine ⟨k + 1, by omega, by go_num, fun i hi => ?_, ?_⟩
       ·by_cases e : i = k
        ·subst e
         exact ⟨hq, hg⟩
        ·exact hno.out i (by omega)
       ·exact HL.out.drew.trans (HB2.out.mono (by simpa using hz))
      case measure => simp [intOf]; omega
  ·go_wp2
   go_ret
   refine ⟨⟨true, rfl, ?_⟩, HB.out⟩
   rw [show n = k by omega]
   exact ⟨fun _ => hno.out, fun _ => rfl⟩
set_option maxHeartbeats 400000 in
theorem goodTable_any (m next : Int) (ia : Option Addr) (il ic : Nat) (ra : Option Addr) (rl rc : Nat) (I : Nat → Int) (R : Nat → R8) (w : World) (hn : il ≤ maxLen) (hn' : rl ≤ maxLen) (h0 : 0 ≤ next) (h1 : next ≤ 1048576)
  (hI : IdsIn w ia il I) (hR : RowsIn w ra rl R) :
  Calls Tryz.prog 73 #[.agg #[.int .i64 m, .slice ia il ic, .slice ra rl rc], .int .i64 next] w fun e w' =>
   (∃ g, e = .returned (.bool g) ∧ (g = true ↔ GoodTab m next il rl I R)) ∧ Below w.heap.size w w' := by
 by_cases hp : 0 < il
 ·by_cases he : il = rl
  ·subst he
   obtain ⟨b, off, rfl, hb, hc⟩ := hI hp
   obtain ⟨b', off', rfl, hb', hc'⟩ := hR hp
   refine (goodTable_even m next b off il ic b' off' rc I R w hn hp h0 h1 hb hc hR).mono ?_
   rintro e w' ⟨⟨g, rfl, hg⟩, hbl⟩
   exact ⟨⟨g, rfl, hg.trans ⟨fun h => ⟨hp, rfl, h⟩, fun h => h.2.2⟩⟩, hbl⟩
  ·have h0n : ((il : Int) == 0) = false := by simp; omega
   have h1n : ((il : Int) != (rl : Int)) = true := by simp; omega
   unfold maxLen at hn hn'
   clear hI hR
   go_enter Tryz.func73, Tryz.ntmps73
   go_wp2
   go_ret
   refine ⟨⟨false, rfl, ?_⟩, bal (Below.refl _ _) _⟩
   constructor
   ·intro h; cases h
   ·intro h; exact absurd h.2.1 he
 ·have hz : il = 0 := by omega
  subst hz
  clear hI hR
  go_enter Tryz.func73, Tryz.ntmps73
  go_wp2
  go_ret
  refine ⟨⟨false, rfl, ?_⟩, bal (Below.refl _ _) _⟩
  constructor
  ·intro h; cases h
  ·intro h; exact absurd h.1 (by omega)
end St
namespace St
open Num
open Go.ChangeShapes Go.WideShapes Go.ChangeAt Go.RowKit Go.Maps
def dc : List Int → Nat
 | [] => 0
 | x :: l => if x ∈ l then dc l else dc l + 1
def pushIds (f : Nat → Int) (acc : List Int) : Nat → List Int
 | 0 => acc
 | j + 1 => f j :: pushIds f acc j
def allIds (T : Nat → TabV) (I : Nat → Nat → Int) : Nat → List Int
 | 0 => []
 | k + 1 => pushIds (I k) (allIds T I k) (T k).il
theorem pushIds_length (f : Nat → Int) (acc : List Int) (j : Nat) : (pushIds f acc j).length = acc.length + j := by
 induction j with
 | zero => rfl
 | succ j ih => simp [pushIds, ih]; omega
def lastM (T : Nat → TabV) : Nat → Int
 | 0 => 0
 | k + 1 => (T k).mask
def TabsTo (next : Int) (T : Nat → TabV) (I : Nat → Nat → Int) (R : Nat → Nat → R8) (k : Nat) : Prop :=
 ∀ i, i < k → lastM T i < (T i).mask ∧ GoodTab (T i).mask next (T i).il (T i).rl (I i) (R i)
def GoodS (next : Int) (n : Nat) (T : Nat → TabV) (I : Nat → Nat → Int) (R : Nat → Nat → R8) : Prop :=
 btw next 0 1048576 = true ∧ sizeW T n ≤ 10 ∧ TabsTo next T I R n ∧ (dc (allIds T I n) : Int) = sizeW T n
def Seen (w : World) (B : Nat) (L : List Int) : Prop :=
 ∃ D : DataW Unit, w.ownsMap Tryz.prog 3 (plainElem Tryz.prog 3) B L.length D ∧ (∀ x, Maps.has D (.int .i64 x) = decide (x ∈ L)) ∧ Maps.size D = dc L
theorem ownsMap_below {w w' : World} {B n : Nat} {D : DataW Unit} (h : w.ownsMap Tryz.prog 3 (plainElem Tryz.prog 3) B n D) (hb : Below w.heap.size w w') : w'.ownsMap Tryz.prog 3 (plainElem Tryz.prog 3) B n D := by
 have hlt := h.lt
 obtain ⟨es, clock, hk, F, hs, hD⟩ := h
 exact ⟨es, clock, (hb.block B hlt).trans hk, F, hs, hD⟩
theorem Seen.below {w w' : World} {B : Nat} {L : List Int} (h : Seen w B L) (hb : Below w.heap.size w w') : Seen w' B L := by
 obtain ⟨D, h1, h2, h3⟩ := h
 exact ⟨D, ownsMap_below h1 hb, h2, h3⟩
theorem law3 : Keyed Tryz.prog 3 := int_keyed Tryz.underlying3
theorem zero3 (w : World) : (zeroValue 3).run Tryz.prog w = .ok (.int .i64 0) w := by kernel_rfl
theorem seen_step {w w1 : World} {B : Nat} {L : List Int} {D : DataW Unit} {x : Int} {d : DataW Unit} (h : w.ownsMap Tryz.prog 3 (plainElem Tryz.prog 3) B L.length D)
  (hh : ∀ x, Maps.has D (.int .i64 x) = decide (x ∈ L)) (hs : Maps.size D = dc L) (h1 : w1.ownsMap Tryz.prog 3 (plainElem Tryz.prog 3) B (L.length + 1) (D.put (.int .i64 x) d)) : Seen w1 B (x :: L) := by
 have ht := h.tidy law3
 refine ⟨_, h1, fun y => ?_, ?_⟩
 ·by_cases e : y = x
  ·subst e
   rw [has_put_same ht.isMap (by trivial)]
   simp
  ·rw [has_put_other (by simpa using e), hh y]
   simp [e]
 ·rw [size_put ht, hh x, hs]
  simp only [dc, decide_eq_true_eq]
theorem tabsTo_le {next : Int} {T : Nat → TabV} {I : Nat → Nat → Int} {R : Nat → Nat → R8} {k : Nat} (h : TabsTo next T I R k) : (k : Int) ≤ lastM T k ∧ lastM T k ≤ 31 := by
 induction k with
 | zero => simp [lastM]
 | succ k ih =>
  have h1 := ih (fun i hi => h i (by omega))
  obtain ⟨h2, h3, -, h4⟩ := h k (by omega)
  have h5 := (h4 0 h3).2
  simp [goodRowB, btw] at h5
  simp only [lastM]
  omega
theorem allIds_le {T : Nat → TabV} {I : Nat → Nat → Int} (c : Nat) {k : Nat} (h : ∀ i, i < k → (T i).il ≤ c) : (allIds T I k).length ≤ k * c := by
 induction k with
 | zero => simp [allIds]
 | succ k ih =>
  have h1 := ih (fun i hi => h i (by omega))
  have h2 := h k (by omega)
  rw [allIds, pushIds_length, Nat.succ_mul]
  omega
theorem tabsTo_len {next : Int} {T : Nat → TabV} {I : Nat → Nat → Int} {R : Nat → Nat → R8} {k : Nat} (h : TabsTo next T I R k) (hz : ∀ i, i < k → (T i).il ≤ 140737488355328) : (allIds T I k).length ≤ 4362862139015168 := by
 have h1 := tabsTo_le h
 have h2 := allIds_le (I := I) _ hz
 have h3 : k * 140737488355328 ≤ 31 * 140737488355328 := Nat.mul_le_mul_right _ (by omega)
 omega
end St
namespace St
open Num
open Go.ChangeShapes Go.WideShapes Go.ChangeAt Go.RowKit Go.Maps
set_option maxHeartbeats 4000000 in
set_option maxRecDepth 100000 in
theorem good_any (a : Option Addr) (n cap : Nat) (next : Int) (T : Nat → TabV) (I : Nat → Nat → Int) (R : Nat → Nat → R8) (w : World) (hn : n ≤ maxLen) (hT : TabsIn w a n T)
  (hI : ∀ i, i < n → IdsIn w (T i).ia (T i).il (I i)) (hR : ∀ i, i < n → RowsIn w (T i).ra (T i).rl (R i)) (hsz : ∀ i, i < n → (T i).il ≤ 140737488355328 ∧ (T i).rl ≤ 140737488355328)
  (hwf : ∀ i, i < n → ∀ j, j < (T i).il → (Lit.int .i64 (I i j)).wf = true) :
  Calls Tryz.prog 43 #[.agg #[.slice a n cap, .int .i64 next]] w fun e w' => (∃ g, e = .returned (.bool g) ∧ (g = true ↔ GoodS next n T I R)) ∧ Below w.heap.size w w' := by
 have HS : Hid (∀ w', Below w.heap.size w w' → Calls Tryz.prog 41 #[.agg #[.slice a n cap, .int .i64 next]] w' fun e w'' => e = .returned (.int .i64 (sizeW T n)) ∧ Below w'.heap.size w' w'') := fun w' hb => size_any a n cap next T w' hn (hT.below hb)
 have HT : Hid _ := hT
 have HI : Hid _ := hI
 have HR : Hid _ := hR
 have HZ : Hid _ := hsz
 have HW : Hid _ := hwf
 clear hT hI hR hsz hwf
 unfold maxLen at hn
 have hmm := @run_makeMap Tryz.prog
 cases hq : btw next 0 1048576
 ·go_enter Tryz.func43, Tryz.ntmps43
  go_wp2_with (go_at_call 72; refine (between_any _ _ _ _).mono ?_; rintro e w' ⟨rfl, rfl⟩)
  go_ret
  refine ⟨⟨false, rfl, ?_⟩, bal (Below.refl _ _) _⟩
  constructor
  ·intro h; cases h
  ·intro h; have := h.1; rw [hq] at this; cases this
 ·have hq2 : 0 ≤ next ∧ next ≤ 1048576 := by simpa [btw] using hq
  obtain ⟨hn0, hn1⟩ := hq2
  by_cases hs : 10 < sizeW T n
  ·go_enter Tryz.func43, Tryz.ntmps43
   go_wp2_with (first | (go_at_call 72; refine (between_any _ _ _ _).mono ?_; rintro e w' ⟨rfl, rfl⟩) | (go_at_call 41; refine (HS.out _ (bal (Below.refl _ _) _)).mono ?_; rintro e w' ⟨rfl, hb⟩))
   go_ret
   refine ⟨⟨false, rfl, ?_⟩, bcall (bal (Below.refl _ _) _) hb⟩
   constructor
   ·intro h; cases h
   ·intro h; have := h.2.1; omega
  ·go_enter Tryz.func43, Tryz.ntmps43
   go_wp2_with (first | (go_at_call 72; refine (between_any _ _ _ _).mono ?_; rintro e w' ⟨rfl, rfl⟩) | (go_at_call 41; refine (HS.out _ (bal (Below.refl _ _) _)).mono ?_; rintro e w1 ⟨rfl, hb1⟩; have HB1 : Hid _ := hb1; have hx0 := hb1.cell (p := ⟨w.heap.size, 0, none⟩) (by simp); have hx1 := hb1.cell (p := ⟨w.heap.size, 1, none⟩) (by simp); have hz1 := hb1.size; simp at hz1 hx0 hx1; have hz2 : w.heap.size < w1.heap.size := (by omega); clear hb1))
   have hbw : Below w.heap.size w w1 := bcall (bal (Below.refl _ _) _) HB1.out
   have HB : Hid _ := hbw
   clear hbw
   go_loopw [3, 22] (fun la i wr => ∃ k : Nat, k ≤ n ∧ i = .int .i64 k ∧ la = .int .i64 (lastM T k) ∧ Hid (TabsTo next T I R k) ∧ Hid (Seen wr w1.heap.size (allIds T I k)) ∧ Below w1.heap.size w1 wr ∧ w1.heap.size < wr.heap.size) (fun _ i _ => n - (intOf i).toNat)
   case atStart => exact ⟨0, Nat.zero_le _, rfl, rfl, fun i hi => absurd hi (Nat.not_lt_zero _), ⟨.map [], World.ownsMap_made _ _ _ _, fun x => rfl, rfl⟩, bal (Below.refl _ _) _, by simp⟩
   case round =>
    obtain ⟨k, hk, rfl, rfl, htabs, hseen, hbl, hzr⟩ := hrel
    have hy0 := (hbl.cell (p := ⟨w.heap.size, 0, none⟩) hz2).trans hx0
    have hy1 := (hbl.cell (p := ⟨w.heap.size, 1, none⟩) hz2).trans hx1
    have hzw : w.heap.size < wr.heap.size := by omega
    have HL : Hid _ := hbl
    clear hbl
    by_cases hlt : k < n
    ·obtain ⟨b, off, rfl, hb, hc⟩ := HT.out (by omega)
     obtain ⟨c0, c1, c2⟩ := hc k hlt
     rw [← (HB.out.trans (HL.out.mono (by omega))).cell (by exact hb)] at c0 c1 c2
     clear hc
     obtain ⟨s1, s2⟩ := HZ.out k hlt
     have hbz : b < wr.heap.size := by omega
     have HBR : Hid (Below w.heap.size w wr) := HB.out.trans (HL.out.mono (by omega))
     by_cases hm : (T k).mask ≤ lastM T k
     ·go_wp2_with fail
      go_ret
      refine ⟨⟨false, rfl, ?_⟩, bal HBR.out _⟩
      constructor
      ·intro h; cases h
      ·intro h; have := (h.2.2.1 k hlt).1; omega
     ·go_wp2_with fail
      refine (goodTable_any _ _ _ _ _ _ _ _ (I k) (R k) _ (by unfold maxLen; omega) (by unfold maxLen; omega) hn0 hn1 (((HI.out k hlt).below HBR.out).below (bal (Below.refl _ _) _)) (((HR.out k hlt).below HBR.out).below (bal (Below.refl _ _) _))).mono ?_
      rintro e w2 ⟨⟨g, rfl, hg⟩, hb2⟩
      have hz3 := hb2.size
      simp at hz3
      have hz4 : wr.heap.size < w2.heap.size := by omega
      have t0 := hb2.cell (p := ⟨wr.heap.size, 0, none⟩) (by simp)
      have t1 := hb2.cell (p := ⟨wr.heap.size, 1, none⟩) (by simp)
      simp at t0 t1
      have HG : Hid _ := hg
      have H2 : Hid (Below wr.heap.size wr w2) := bcall (bal (Below.refl _ _) _) hb2
      clear hg hb2
      cases g
      ·go_wp2_with fail
       go_ret
       refine ⟨⟨false, rfl, ?_⟩, bcall HBR.out H2.out⟩
       constructor
       ·intro h; cases h
       ·intro h; exact HG.out.2 (h.2.2.1 k hlt).2
      ·have hgt := HG.out.1 rfl
       obtain ⟨bi, oi, hia, hbi, hci⟩ := HI.out k hlt hgt.1
       have HGT : Hid _ := hgt
       have HCI : Hid _ := hci
       clear hgt hci
       rw [hia] at t1
       go_wp2_with fail
       go_loopw [42] (fun i wv => ∃ j : Nat, j ≤ (T k).il ∧ i = .int .i64 j ∧ Hid (Seen wv w1.heap.size (pushIds (I k) (allIds T I k) j)) ∧ Below w1.heap.size w1 wv ∧ w1.heap.size < wv.heap.size) (fun i _ => (T k).il - (intOf i).toNat)
       case atStart => exact ⟨0, Nat.zero_le _, rfl, hseen.out.below H2.out, HL.out.trans (H2.out.mono (by omega)), by omega⟩
       case round =>
        obtain ⟨j, hj, rfl, hsn, hblv, hzv⟩ := hrel
        have HLV : Hid _ := hblv
        clear hblv
        by_cases hjl : j < (T k).il
        ·have cj := HCI.out j hjl
         rw [← (HB.out.trans (HLV.out.mono (by omega))).cell (by exact hbi)] at cj
         have hlen := tabsTo_len htabs.out (fun i hi => (HZ.out i (by omega)).1)
         have hpl := pushIds_length (I k) (allIds T I k) j
         have hmx : (pushIds (I k) (allIds T I k) j).length < maxLen := by rw [hpl]; unfold maxLen; omega
         have HPL : Hid _ := hpl
         clear hpl hlen
         obtain ⟨D, hown, hh, hsd⟩ := hsn.out
         have HH : Hid _ := hh
         have HSD : Hid _ := hsd
         clear hh hsd
         have hkey : keyOf Tryz.prog 3 (.int .i64 (I k j)) = some (.int .i64 (I k j)) := keyOf_int_mk Tryz.underlying3 (HW.out k hlt j hjl)
         go_wp2_with (first
          | (at_lookup; refine wpList_lookup_own_int _ rfl _ _ 132 rfl 3 3 .i64 law3 Tryz.underlying132 Tryz.underlying3 (zero3 _) w1.heap.size _ _ rfl hown _ _ rfl hkey ?_; intro c hat hwc)
          | (at_mapUpdate; refine wpList_mapUpdate_own _ rfl _ _ _ 132 rfl 3 3 law3 Tryz.underlying132 _ w1.heap.size _ _ rfl hown hmx _ _ _ rfl rfl hkey _ [] (plainElem_int Tryz.underlying3 (wrap64_wf _)) ?_; intro w3 hown1 hgrow1)
          | fail)
         go_roundw
         case rel => exact ⟨j + 1, by omega, by go_num, seen_step hown HH.out HSD.out hown1, HLV.out.grown hgrow1 (by omega) (fun q hq => by cases hq; exact Nat.le_refl _), Nat.lt_of_lt_of_le hzv hgrow1.size⟩
         case measure => simp [intOf]; omega
        ·go_wp2_with fail
         have hje : j = (T k).il := by omega
         go_roundw
         case rel =>
          refine ⟨k + 1, by omega, by go_num, rfl, fun i hi => ?_, ?_, HLV.out, hzv⟩
          ·by_cases e : i = k
           ·subst e
            exact ⟨by omega, HGT.out⟩
           ·exact htabs.out i (by omega)
          ·have := hsn.out
           rw [hje] at this
           exact this
         case measure => simp [intOf]; omega
    ·obtain ⟨D, hown, hh, hsd⟩ := hseen.out
     have hke : k = n := by omega
     subst hke
     go_wp2_with (first
      | (at_len; refine wpList_len_own _ rfl _ 132 rfl 3 3 Tryz.underlying132 _ w1.heap.size _ _ rfl hown ?_)
      | (go_at_call 41; refine (HS.out _ (HB.out.trans (HL.out.mono (by omega)))).mono ?_; rintro e w4 ⟨rfl, hb4⟩))
     go_ret
     refine ⟨⟨_, rfl, ?_⟩, bcall (HB.out.trans (HL.out.mono (by omega))) hb4⟩
     simp only [beq_iff_eq]
     exact ⟨fun h => ⟨hq, by omega, htabs.out, h⟩, fun h => h.2.2.2⟩
end St
end Go.Proofs.YtckkkdldljhehacGreat
