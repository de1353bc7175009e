/- What Good of package store answers when called over tables in memory: whether next and size are within bounds, masks rise, each table is good, and the numbers told apart are as many as all; nothing that was in memory before has changed. -/
import Derived.Test.YtckkkdldljhehaaStTable
import Derived.Maps.OwnSet
namespace Go.Proofs.Ytckkkdldljhehaa.St
open Go.Proofs.Ytckkkdldljhehaa.Num
open Go.ChangeShapes Go.WideShapes Go.ChangeAt Go.RowKit Go.Maps

/-- How many different ones there are. -/
def dc : List Int → Nat
  | [] => 0
  | x :: l => if x ∈ l then dc l else dc l + 1
def pushIds (f : Nat → Int) (acc : List Int) : Nat → List Int
  | 0 => acc
  | j + 1 => f j :: pushIds f acc j
/-- All numbers of the first k tables, the last first. -/
def allIds (T : Nat → TabV) (I : Nat → Nat → Int) : Nat → List Int
  | 0 => []
  | k + 1 => pushIds (I k) (allIds T I k) (T k).il
theorem pushIds_length (f : Nat → Int) (acc : List Int) (j : Nat) : (pushIds f acc j).length = acc.length + j := by
  induction j with
  | zero => rfl
  | succ j ih => simp [pushIds, ih]; omega
def lastM (T : Nat → TabV) : Nat → Int
  | 0 => 0
  | k + 1 => (T k).mask
def TabsTo (next : Int) (T : Nat → TabV) (I : Nat → Nat → Int) (R : Nat → Nat → R8) (k : Nat) : Prop :=
  ∀ i, i < k → lastM T i < (T i).mask ∧ GoodTab (T i).mask next (T i).il (T i).rl (I i) (R i)
def GoodS (next : Int) (n : Nat) (T : Nat → TabV) (I : Nat → Nat → Int) (R : Nat → Nat → R8) : Prop :=
  btw next 0 1048576 = true ∧ sizeW T n ≤ 10 ∧ TabsTo next T I R n ∧ (dc (allIds T I n) : Int) = sizeW T n

/-- The map at block B has told apart the numbers of L. -/
def Seen (w : World) (B : Nat) (L : List Int) : Prop :=
  ∃ D : DataW Unit, w.ownsMap Try.prog 3 (plainElem Try.prog 3) B L.length D ∧ (∀ x, Maps.has D (.int .i64 x) = decide (x ∈ L)) ∧ Maps.size D = dc L
theorem ownsMap_below {w w' : World} {B n : Nat} {D : DataW Unit} (h : w.ownsMap Try.prog 3 (plainElem Try.prog 3) B n D) (hb : Below w.heap.size w w') : w'.ownsMap Try.prog 3 (plainElem Try.prog 3) B n D := by
  have hlt := h.lt
  obtain ⟨es, clock, hk, F, hs, hD⟩ := h
  exact ⟨es, clock, (hb.block B hlt).trans hk, F, hs, hD⟩
theorem Seen.below {w w' : World} {B : Nat} {L : List Int} (h : Seen w B L) (hb : Below w.heap.size w w') : Seen w' B L := by
  obtain ⟨D, h1, h2, h3⟩ := h
  exact ⟨D, ownsMap_below h1 hb, h2, h3⟩
theorem law3 : Keyed Try.prog 3 := int_keyed Try.underlying3
theorem zero3 (w : World) : (zeroValue 3).run Try.prog w = .ok (.int .i64 0) w := by kernel_rfl
theorem seen_step {w w1 : World} {B : Nat} {L : List Int} {D : DataW Unit} {x : Int} {d : DataW Unit} (h : w.ownsMap Try.prog 3 (plainElem Try.prog 3) B L.length D)
    (hh : ∀ x, Maps.has D (.int .i64 x) = decide (x ∈ L)) (hs : Maps.size D = dc L) (h1 : w1.ownsMap Try.prog 3 (plainElem Try.prog 3) B (L.length + 1) (D.put (.int .i64 x) d)) : Seen w1 B (x :: L) := by
  have ht := h.tidy law3
  refine ⟨_, h1, fun y => ?_, ?_⟩
  · by_cases e : y = x
    · subst e
      rw [has_put_same ht.isMap (by trivial)]
      simp
    · rw [has_put_other (by simpa using e), hh y]
      simp [e]
  · rw [size_put ht, hh x, hs]
    simp only [dc, decide_eq_true_eq]

theorem tabsTo_le {next : Int} {T : Nat → TabV} {I : Nat → Nat → Int} {R : Nat → Nat → R8} {k : Nat} (h : TabsTo next T I R k) : (k : Int) ≤ lastM T k ∧ lastM T k ≤ 31 := by
  induction k with
  | zero => simp [lastM]
  | succ k ih =>
    have h1 := ih (fun i hi => h i (by omega))
    obtain ⟨h2, h3, -, h4⟩ := h k (by omega)
    have h5 := (h4 0 h3).2
    simp [goodRowB, btw] at h5
    simp only [lastM]
    omega
theorem allIds_le {T : Nat → TabV} {I : Nat → Nat → Int} (c : Nat) {k : Nat} (h : ∀ i, i < k → (T i).il ≤ c) : (allIds T I k).length ≤ k * c := by
  induction k with
  | zero => simp [allIds]
  | succ k ih =>
    have h1 := ih (fun i hi => h i (by omega))
    have h2 := h k (by omega)
    rw [allIds, pushIds_length, Nat.succ_mul]
    omega
theorem tabsTo_len {next : Int} {T : Nat → TabV} {I : Nat → Nat → Int} {R : Nat → Nat → R8} {k : Nat} (h : TabsTo next T I R k) (hz : ∀ i, i < k → (T i).il ≤ 140737488355328) : (allIds T I k).length ≤ 4362862139015168 := by
  have h1 := tabsTo_le h
  have h2 := allIds_le (I := I) _ hz
  have h3 : k * 140737488355328 ≤ 31 * 140737488355328 := Nat.mul_le_mul_right _ (by omega)
  omega
end Go.Proofs.Ytckkkdldljhehaa.St
