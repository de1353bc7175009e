/- Part of the proofs of GamePlays and GameRuns (package ninepinslaw): contracts of the functions that they call. -/
import Derived.Test.YtckkkdldljhehacGreatRows
import Derived.WalkKit
import Derived.ProofKit
import Derived.OpenShut
import Derived.RegionTactic
import Derived.BigRegion
import Derived.BigQuiet
import Derived.Deep.QuietTactic
import Derived.Deep.RegionWith
namespace Go.Proofs.YtckkkdldljhehacGreat
namespace Sw
structure B5 where
 id : Int
 x1 : Int
 y1 : Int
 x2 : Int
 y2 : Int
def zeroB : B5 := ⟨0, 0, 0, 0, 0⟩
def meetB (a b : B5) : Bool := decide (a.x1 < b.x2) && (decide (b.x1 < a.x2) && (decide (a.y1 < b.y2) && decide (b.y1 < a.y2)))
def okB (a : B5) : Bool := decide (a.x1 < a.x2) && decide (a.y1 < a.y2)
def pr (a b : B5) : Int × Int := (if a.id ≤ b.id then a.id else b.id, if a.id ≤ b.id then b.id else a.id)
theorem meetB_comm (a b : B5) : meetB a b = meetB b a := by
 unfold meetB
 cases decide (a.x1 < b.x2) <;> cases decide (b.x1 < a.x2) <;> cases decide (a.y1 < b.y2) <;> cases decide (b.y1 < a.y2) <;> rfl
theorem pr_comm (a b : B5) : pr a b = pr b a := by
 unfold pr
 by_cases h : a.id ≤ b.id
 ·by_cases h2 : b.id ≤ a.id
  ·have : a.id = b.id := by omega
   simp [this]
  ·simp [h, h2]
 ·have h2 : b.id ≤ a.id := by omega
  simp [h, h2]
def sw (D : List B5) (b : B5) : List (Int × Int) := (D.filter (fun o => meetB o b)).map (fun o => pr o b)
def pairsFrom : List B5 → List B5 → List (Int × Int)
 | _, [] => []
 | D, b :: r => sw D b ++ pairsFrom (D ++ [b]) r
def pairsOf (l : List B5) : List (Int × Int) := pairsFrom [] l
theorem pairsFrom_snoc (D l : List B5) (b : B5) : pairsFrom D (l ++ [b]) = pairsFrom D l ++ sw (D ++ l) b := by
 induction l generalizing D with
 | nil => simp [pairsFrom]
 | cons a l ih => simp [pairsFrom, ih, List.append_assoc]
theorem pairsOf_snoc (l : List B5) (b : B5) : pairsOf (l ++ [b]) = pairsOf l ++ sw l b := by
 simpa [pairsOf] using pairsFrom_snoc [] l b
def q1 (a : B5) (l : List B5) : List (Int × Int) := (l.filter (fun o => meetB a o)).map (fun o => pr a o)
def qs : List B5 → List (Int × Int)
 | [] => []
 | a :: l => q1 a l ++ qs l
theorem q1_cons (a b : B5) (l : List B5) : q1 a (b :: l) = (if meetB a b then [pr a b] else []) ++ q1 a l := by
 unfold q1
 cases h : meetB a b <;> simp [h]
theorem q1_snoc (a b : B5) (l : List B5) : q1 a (l ++ [b]) = q1 a l ++ (if meetB a b then [pr a b] else []) := by
 unfold q1
 cases h : meetB a b <;> simp [h]
theorem sw_cons (a b : B5) (l : List B5) : sw (a :: l) b = (if meetB a b then [pr a b] else []) ++ sw l b := by
 unfold sw
 cases h : meetB a b <;> simp [h]
theorem qs_snoc (l : List B5) (b : B5) : (qs (l ++ [b])).Perm (qs l ++ sw l b) := by
 induction l with
 | nil => simp [qs, q1, sw]
 | cons a l ih =>
  simp only [List.cons_append, qs, q1_snoc, sw_cons]
  rw [List.append_assoc, List.append_assoc]
  refine List.Perm.append_left _ ?_
  refine (List.Perm.append_left _ ih).trans ?_
  rw [← List.append_assoc, ← List.append_assoc]
  exact List.Perm.append_right _ List.perm_append_comm
theorem pairsOf_qs (l : List B5) : (pairsOf l).Perm (qs l) := by
 suffices h : ∀ n (l : List B5), l.length = n → (pairsOf l).Perm (qs l) from h _ l rfl
 intro n
 induction n with
 | zero =>
  intro l hl
  rw [List.length_eq_zero_iff.1 hl]
  exact List.Perm.refl _
 | succ n ih =>
  intro l hl
  obtain ⟨l', b, rfl⟩ : ∃ l' b, l = l' ++ [b] := by
   rcases List.eq_nil_or_concat l with h | ⟨l', b, h⟩
   ·subst h; simp at hl
   ·exact ⟨l', b, by simpa using h⟩
  rw [pairsOf_snoc]
  exact (List.Perm.append_right _ (ih l' (by simpa using hl))).trans (qs_snoc l' b).symm
theorem q1_perm (a : B5) {l l' : List B5} (h : l.Perm l') : (q1 a l).Perm (q1 a l') := (h.filter _).map _
theorem qs_perm {l l' : List B5} (h : l.Perm l') : (qs l).Perm (qs l') := by
 induction h with
 | nil => exact List.Perm.refl _
 | cons a h ih => exact (q1_perm a h).append ih
 | swap a b l =>
  simp only [qs, q1_cons, meetB_comm b a, pr_comm b a]
  rw [List.append_assoc, List.append_assoc]
  refine List.Perm.append_left _ ?_
  rw [← List.append_assoc, ← List.append_assoc]
  exact List.Perm.append_right _ List.perm_append_comm
 | trans _ _ h1 h2 => exact h1.trans h2
theorem pairsOf_perm {l l' : List B5} (h : l.Perm l') : (pairsOf l).Perm (pairsOf l') := (pairsOf_qs l).trans ((qs_perm h).trans (pairsOf_qs l').symm)
def strike (O : List B5) (b : B5) : List B5 := O.filter (fun o => decide (b.x1 < o.x2))
def OpenIs (D O : List B5) : Prop := ∀ b, (∀ c ∈ D, c.x1 ≤ b.x1) → O.filter (fun o => meetB o b) = D.filter (fun o => meetB o b)
theorem openIs_nil : OpenIs [] [] := fun _ _ => rfl
theorem meetB_x {o b : B5} (h : meetB o b = true) : b.x1 < o.x2 := by
 unfold meetB at h
 simp at h
 exact h.2.1
theorem strike_sw {D O : List B5} {b : B5} (h : OpenIs D O) (hb : ∀ c ∈ D, c.x1 ≤ b.x1) : sw (strike O b) b = sw D b := by
 unfold sw
 rw [← h b hb, strike, List.filter_filter]
 congr 1
 apply List.filter_congr
 intro o _
 cases hm : meetB o b
 ·simp
 ·simp [meetB_x hm]
theorem openIs_step {D O : List B5} {b : B5} (h : OpenIs D O) : OpenIs (D ++ [b]) (strike O b ++ [b]) := by
 intro c hc
 have h1 : ∀ x ∈ D, x.x1 ≤ c.x1 := fun x hx => hc x (by simp [hx])
 have h2 : b.x1 ≤ c.x1 := hc b (by simp)
 rw [List.filter_append, List.filter_append, ← h c h1]
 congr 1
 rw [strike, List.filter_filter]
 apply List.filter_congr
 intro o _
 cases hm : meetB o c
 ·simp
 ·have := meetB_x hm
  simp; omega
theorem sw_len (D : List B5) (b : B5) : (sw D b).length ≤ D.length := by
 unfold sw
 rw [List.length_map]
 exact List.length_filter_le _ _
theorem pairsOf_len (l : List B5) : (pairsOf l).length ≤ l.length * l.length := by
 suffices h : ∀ n (l : List B5), l.length = n → (pairsOf l).length ≤ n * n from h _ l rfl
 intro n
 induction n with
 | zero => intro l hl; rw [List.length_eq_zero_iff.1 hl]; simp [pairsOf, pairsFrom]
 | succ n ih =>
  intro l hl
  obtain ⟨l', b, rfl⟩ : ∃ l' b, l = l' ++ [b] := by
   rcases List.eq_nil_or_concat l with h | ⟨l', b, h⟩
   ·subst h; simp at hl
   ·exact ⟨l', b, by simpa using h⟩
  have e : l'.length = n := by simpa using hl
  have h1 := ih l' e
  have h2 := sw_len l' b
  rw [pairsOf_snoc, List.length_append]
  have : (n + 1) * (n + 1) = n * n + n + n + 1 := by rw [Nat.add_mul, Nat.mul_add]; omega
  omega
def cmpI (a b : Int) : Int := if a < b then -1 else if b < a then 1 else 0
def cmpB (a b : B5) : Int := if cmpI a.x1 b.x1 ≠ 0 then cmpI a.x1 b.x1 else cmpI a.id b.id
def cmpP (a b : Int × Int) : Int := if cmpI a.1 b.1 ≠ 0 then cmpI a.1 b.1 else cmpI a.2 b.2
theorem cmpB_lt (a b : B5) : decide (cmpB a b < 0) = decide (a.x1 < b.x1 ∨ (a.x1 = b.x1 ∧ a.id < b.id)) := by
 rw [Bool.eq_iff_iff]
 simp only [decide_eq_true_eq]
 unfold cmpB cmpI
 by_cases h1 : a.x1 < b.x1
 ·simp [h1]
 ·by_cases h2 : b.x1 < a.x1
  ·simp [h1, h2]; omega
  ·by_cases h3 : a.id < b.id
   ·simp [h1, h2, h3]; omega
   ·by_cases h4 : b.id < a.id <;> simp [h1, h2, h3, h4]
theorem cmpP_lt (a b : Int × Int) : decide (cmpP a b < 0) = decide (a.1 < b.1 ∨ (a.1 = b.1 ∧ a.2 < b.2)) := by
 rw [Bool.eq_iff_iff]
 simp only [decide_eq_true_eq]
 unfold cmpP cmpI
 by_cases h1 : a.1 < b.1
 ·simp [h1]
 ·by_cases h2 : b.1 < a.1
  ·simp [h1, h2]; omega
  ·by_cases h3 : a.2 < b.2
   ·simp [h1, h2, h3]; omega
   ·by_cases h4 : b.2 < a.2 <;> simp [h1, h2, h3, h4]
def leP (a b : Int × Int) : Prop := a.1 < b.1 ∨ (a.1 = b.1 ∧ a.2 ≤ b.2)
theorem sorted_unique {l l' : List (Int × Int)} (h : l.Perm l') (h1 : l.Pairwise leP) (h2 : l'.Pairwise leP) : l = l' := by
 refine List.Perm.eq_of_pairwise (le := leP) ?_ h1 h2 h
 intro a b _ _ ha hb
 unfold leP at ha hb
 ext
 ·omega
 ·omega
end Sw
namespace Sw
open Go.ChangeShapes Go.WideShapes Go.ChangeAt Go.RowKit
theorem hid {p : Prop} (h : p) : Hid p := h
theorem ret_bool {a b : Bool} (h : a = b) : Ending.returned (.bool a) = .returned (.bool b) := by rw [h]
theorem ret_int {k : IntKind} {a b : Int} (h : a = b) : Ending.returned (.int k a) = .returned (.int k b) := by rw [h]
theorem bal {a w : World} (h : Below a.heap.size a w) (o : Obj) : Below a.heap.size a (w.alloc o) := h.alloc h.size o
theorem bcall {a w w' : World} (h : Below a.heap.size a w) (h' : Below w.heap.size w w') : Below a.heap.size a w' := h.trans (h'.mono h.size)
set_option maxHeartbeats 1000000 in
theorem meet_any (i x1 y1 x2 y2 i' x1' y1' x2' y2' : Int) (w : World) :
  Calls Tryz.prog 70 #[.agg #[.int .i64 i, .int .i64 x1, .int .i64 y1, .int .i64 x2, .int .i64 y2], .agg #[.int .i64 i', .int .i64 x1', .int .i64 y1', .int .i64 x2', .int .i64 y2']] w fun e w' => e = .returned (.bool (meetB ⟨i, x1, y1, x2, y2⟩ ⟨i', x1', y1', x2', y2'⟩)) ∧ Below w.heap.size w w' := by
 go_enter Tryz.func70, Tryz.ntmps70
 go_wp2
 all_goals
  go_ret
  exact ⟨ret_bool (by simp_all [meetB]; try (intros; omega)), bal (bal (Below.refl _ _) _) _⟩
set_option maxHeartbeats 1000000 in
theorem pair_any (a b : Int) (w : World) :
  Calls Tryz.prog 139 #[.int .i64 a, .int .i64 b] w fun e w' => e = .returned (.agg #[.int .i64 (if a ≤ b then a else b), .int .i64 (if a ≤ b then b else a)]) ∧ Below w.heap.size w w' := by
 by_cases h : a ≤ b
 ·by_cases h' : b ≤ a
  ·have e : a = b := by omega
   subst e
   go_enter Tryz.func139, Tryz.ntmps139
   go_wp2
   all_goals exact bodyPost_ret (v := .agg #[.int .i64 a, .int .i64 a]) (by simp [results, Tryz.results139, go_sem]) rfl ⟨by simp, bal (Below.refl _ _) _⟩
  ·go_enter Tryz.func139, Tryz.ntmps139
   go_wp2
   all_goals exact bodyPost_ret (v := .agg #[.int .i64 a, .int .i64 b]) (by simp [results, Tryz.results139, go_sem]) rfl ⟨rfl, bal (Below.refl _ _) _⟩
 ·have h' : b ≤ a := by omega
  go_enter Tryz.func139, Tryz.ntmps139
  go_wp2
  all_goals exact bodyPost_ret (v := .agg #[.int .i64 b, .int .i64 a]) (by simp [results, Tryz.results139, go_sem]) rfl ⟨rfl, bal (Below.refl _ _) _⟩
theorem isNaN_any (a : Int) (w : World) : Calls Tryz.prog 132 #[.int .i64 a] w fun e w' => e = .returned (.bool false) ∧ w' = w := by
 go_enter Tryz.func132, Tryz.ntmps132
 go_wp2
 all_goals (go_ret; exact ⟨by simp_all, rfl⟩)
theorem compare_any (a b : Int) (w : World) : Calls Tryz.prog 111 #[.int .i64 a, .int .i64 b] w fun e w' => e = .returned (.int .i64 (cmpI a b)) ∧ w' = w := by
 go_enter Tryz.func111, Tryz.ntmps111
 go_wp2_with (go_at_call 132; refine (isNaN_any _ _).mono ?_; rintro e w' ⟨rfl, rfl⟩)
 all_goals
  go_ret
  exact ⟨ret_int (by unfold cmpI; first | (rw [if_pos (by omega)]) | (rw [if_neg (by omega), if_pos (by omega)]) | (rw [if_neg (by omega), if_neg (by omega)])), rfl⟩
set_option maxHeartbeats 1000000 in
theorem or2_any (b off c : Nat) (x y : Int) (w : World) (h0 : w.cell? ⟨b, off, none⟩ = some (.int .i64 x)) (h1 : w.cell? ⟨b, off + 1, none⟩ = some (.int .i64 y)) :
  Calls Tryz.prog 142 #[.slice (some ⟨b, off, none⟩) 2 c] w fun e w' => e = .returned (.int .i64 (if x ≠ 0 then x else y)) ∧ w' = w := by
 by_cases hx : x = 0
 ·subst hx
  go_enter Tryz.func142, Tryz.ntmps142
  go_wp2
  go_loop [8] (fun i => i = .int .i64 0 ∨ i = .int .i64 1 ∨ (i = .int .i64 2 ∧ y = 0)) (fun i => 2 - (intOf i).toNat)
  case atStart => exact Or.inl rfl
  case round =>
   rcases hrel with rfl | rfl | ⟨rfl, hy⟩
   ·go_wp2
    go_round
    case rel => exact Or.inr (Or.inl rfl)
    case measure => simp [intOf]
   ·by_cases hy : y = 0
    ·go_wp2
     go_round
     case rel => exact Or.inr (Or.inr ⟨rfl, hy⟩)
     case measure => simp [intOf]
    ·go_wp2
     go_ret
     exact ⟨by simp, rfl⟩
   ·go_wp2
    go_ret
    exact ⟨by simp, rfl⟩
 ·go_enter Tryz.func142, Tryz.ntmps142
  go_wp2
  go_loop [8] (fun i => i = .int .i64 0) (fun i => 2 - (intOf i).toNat)
  case atStart => rfl
  case round =>
   subst hrel
   go_wp2
   go_ret
   exact ⟨by simp, rfl⟩
end Sw
end Go.Proofs.YtckkkdldljhehacGreat
