/- A region that draws its order, by an invariant: if whatever operation may come up keeps the invariant, and the invariant gives the post once all have come up, the region meets its post, whatever the order. No program. -/
import Derived.Test.YtckkkdldljhehaaRows
import Derived.WalkKit
import Derived.RegionTactic
import Derived.Deep.RegionHeld
namespace Go.Proofs.Ytckkkdldljhehaa.Rg

/-- One operation more has come up. -/
def up (L : Nat → Bool) (i j : Nat) : Bool := if j = i then true else L j
theorem up_ne {L : Nat → Bool} {i j : Nat} (h : up L i j = true) (hne : j ≠ i) : L j = true := by
  unfold up at h
  rwa [if_neg hne] at h
theorem up_of {L : Nat → Bool} {i j : Nat} (h : L j = true) : up L i j = true := by
  unfold up
  split
  · rfl
  · exact h
theorem up_f {L : Nat → Bool} {i j : Nat} (h : up L i j = false) : L j = false := by
  unfold up at h
  split at h
  · cases h
  · exact h
theorem late {L : Nat → Bool} {n i : Nat} (h : L n = true → ∀ j, j < n → L j = true) (hi : i < n) (hl : L i = false) : L n = false := by
  cases hn : L n with
  | false => rfl
  | true => rw [h hn i hi] at hl; cases hl
/-- All that an operation waits for has come up. -/
def deps (md : Region.Mode) (L : Nat → Bool) (o : Oper) : Bool := o.after.toList.all fun e => !Region.binds md e || L e.on
/-- Whatever comes up keeps the invariant. -/
def steps (P : Program) (md : Region.Mode) (ops : Array Oper) (Q : Exit → Act → World → Prop) (I : (Nat → Bool) → Act → World → Prop) (L : Nat → Bool) (a : Act) (w : World) : Nat → List Oper → Prop
  | _, [] => True
  | k, o :: l => (L k = false → deps md L o = true → ∀ K' : Act → World → Prop, Shut (∀ a' w', I (up L k) a' w' → K' a' w') →
      if Region.wanted o (yielded ops a.tmps) = true then Oper.wp P o a w K' Q else K' (a.put o.dst undef) w) ∧ steps P md ops Q I L a w (k + 1) l
theorem steps_at {P : Program} {md : Region.Mode} {ops : Array Oper} {Q : Exit → Act → World → Prop} {I : (Nat → Bool) → Act → World → Prop} {L : Nat → Bool} {a : Act} {w : World} :
    ∀ (l : List Oper) (k i : Nat) (o : Oper), steps P md ops Q I L a w k l → l[i]? = some o → L (k + i) = false → deps md L o = true → ∀ K' : Act → World → Prop, Shut (∀ a' w', I (up L (k + i)) a' w' → K' a' w') →
      if Region.wanted o (yielded ops a.tmps) = true then Oper.wp P o a w K' Q else K' (a.put o.dst undef) w := by
  intro l
  induction l with
  | nil => intro k i o _ hi; simp at hi
  | cons x l ih =>
    intro k i o h hi
    cases i with
    | zero => simp at hi; subst hi; exact h.1
    | succ i =>
      have := ih (k + 1) i o h.2 (by simpa using hi)
      rw [show k + (i + 1) = k + 1 + i by omega]
      exact this
/-- Whoever is waited for stands ahead. -/
def ordered (md : Region.Mode) : Nat → List Oper → Bool
  | _, [] => true
  | k, o :: l => (o.after.toList.all fun e => !Region.binds md e || decide (e.on < k)) && ordered md (k + 1) l
theorem ordered_at {md : Region.Mode} : ∀ (l : List Oper) (k i : Nat) (o : Oper), ordered md k l = true → l[i]? = some o → ∀ e ∈ o.after, Region.binds md e = true → e.on < k + i := by
  intro l
  induction l with
  | nil => intro k i o _ hi; simp at hi
  | cons x l ih =>
    intro k i o h hi
    simp only [ordered, Bool.and_eq_true] at h
    cases i with
    | zero =>
      simp at hi; subst hi
      intro e he hb
      have := List.all_eq_true.1 h.1 e (by simpa using he)
      simpa [hb] using this
    | succ i =>
      intro e he hb
      have := ih (k + 1) i o h.2 (by simpa using hi) e he hb
      omega
def unl (l : List Bool) : Nat := l.countP (· == false)
theorem unl_set {l : List Bool} {i : Nat} (h : l[i]? = some false) : unl (l.set i true) + 1 = unl l := by
  induction l generalizing i with
  | nil => simp at h
  | cons x l ih =>
    cases i with
    | zero => simp at h; subst h; simp [unl]
    | succ i =>
      have := ih (by simpa using h)
      simp only [unl, List.set_cons_succ, List.countP_cons] at this ⊢
      omega
theorem unl_zero {l : List Bool} (h : unl l = 0) {i : Nat} (hi : i < l.length) : l[i]? = some true := by
  unfold unl at h
  rw [List.countP_eq_zero] at h
  have := h l[i] (List.getElem_mem hi)
  rw [List.getElem?_eq_getElem hi]
  cases hx : l[i]
  · rw [hx] at this; simp at this
  · rfl
section
variable {P : Program} {ops : Array Oper} {Q : Exit → Act → World → Prop} {md : Region.Mode}
theorem wpAny_inv (I : (Nat → Bool) → Act → World → Prop) (hord : ordered md 0 ops.toList = true) (hstep : ∀ L a w, I L a w → steps P md ops Q I L a w 0 ops.toList)
    (hend : ∀ L a w, I L a w → (∀ i, i < ops.size → L i = true) → Q .normal a w) :
    ∀ (fuel : Nat) (listed : Array Bool) (a : Act) (w : World), listed.size = ops.size → unl listed.toList ≤ fuel → I (fun j => listed.getD j false) a w → wpAny P md ops Q fuel listed a w := by
  have full : ∀ (listed : Array Bool), listed.size = ops.size → Region.ready md ops listed = [] → ∀ i, i < ops.size → listed.getD i false = true := by
    intro listed hs hr i
    induction i using Nat.strongRecOn with
    | ind i ih =>
      intro hi
      cases hc : listed.getD i false with
      | true => rfl
      | false =>
        exfalso
        have ho : ops[i]? = some ops[i] := Array.getElem?_eq_getElem hi
        have : i ∈ Region.ready md ops listed := by
          rw [mem_ready]
          refine ⟨?_, ops[i], ho, fun e he hb => ?_⟩
          · have hi' : i < listed.size := by omega
            simp [Array.getD, hi'] at hc ⊢
            exact hc
          · have h1 := ordered_at ops.toList 0 i ops[i] hord (by simp) e he hb
            exact ih e.on (by omega) (by omega)
        rw [hr] at this
        cases this
  intro fuel
  induction fuel with
  | zero =>
    intro listed a w hs hu hI
    have hall : ∀ i, i < ops.size → listed.getD i false = true := fun i hi => by
      have hi' : i < listed.size := by omega
      have := unl_zero (Nat.le_zero.1 hu) (i := i) (by simpa using hi')
      simp [hi'] at this
      simp [Array.getD, hi', this]
    refine ⟨?_, hend _ a w hI hall⟩
    cases hr : Region.ready md ops listed with
    | nil => rfl
    | cons j l =>
      have hj : j ∈ Region.ready md ops listed := by rw [hr]; exact List.mem_cons_self ..
      obtain ⟨h0, o, ho, _⟩ := mem_ready.1 hj
      have hlt := (Array.getElem?_eq_some_iff.1 ho).1
      have h1 := hall j hlt
      have hj' : j < listed.size := by omega
      simp [Array.getD, hj'] at h0 h1
      rw [h0] at h1
      cases h1
  | succ fuel ih =>
    intro listed a w hs hu hI
    refine ⟨fun hr => hend _ a w hI (full listed hs hr), fun i hi => ?_⟩
    obtain ⟨h0, o, ho, hd⟩ := mem_ready.1 hi
    have hlt := (Array.getElem?_eq_some_iff.1 ho).1
    have hi' : i < listed.size := by omega
    have hf : listed.getD i false = false := by
      simp [Array.getD, hi'] at h0 ⊢
      exact h0
    have hdeps : deps md (fun j => listed.getD j false) o = true := by
      unfold deps
      rw [List.all_eq_true]
      intro e he
      cases hb : Region.binds md e with
      | false => rfl
      | true => simpa [hb] using hd e (by simpa using he) hb
    have hst := steps_at ops.toList 0 i o (hstep _ a w hI) (by simpa using ho) (by rw [Nat.zero_add]; exact hf) hdeps
    refine wpOp_step ho (fun K' hK => hst K' (fun a' w' hI' => hK a' w' (ih _ a' w' (by simpa using hs) ?_ ?_)))
    · have hl : listed.toList[i]? = some false := by
        have e : listed[i] = false := by simpa [Array.getD, hi'] using hf
        simp [hi', e]
      have := unl_set hl
      rw [Array.toList_setIfInBounds]
      omega
    · have e : (fun j => (listed.setIfInBounds i true).getD j false) = up (fun j => listed.getD j false) (0 + i) := by
        funext j
        unfold up
        rw [Nat.zero_add]
        by_cases hj : j = i
        · subst hj; simp [Array.getD, hi']
        · rw [if_neg hj]
          simp only [Array.getD_eq_getD_getElem?]
          rw [Array.getElem?_setIfInBounds_ne (Ne.symm hj)]
      rw [e]
      exact hI'
/-- A region that draws its order, by an invariant. -/
theorem wp_region_inv {id : Nat} {a : Act} {w : World} (hm : P.follows .mixedOrders = true) (I : (Nat → Bool) → Act → World → Prop) (hord : ordered .any 0 ops.toList = true) (h0 : I (fun _ => false) a w.drew)
    (hstep : ∀ L a w, I L a w → steps P .any ops Q I L a w 0 ops.toList) (hend : ∀ L a w, I L a w → (∀ i, i < ops.size → L i = true) → Q .normal a w) : (Code.region id ops true).wp P Q a w := by
  refine wp_region_any hm (wpAny_inv I hord hstep hend _ _ _ _ (by simp) ?_ ?_)
  · unfold unl
    exact Nat.le_trans List.countP_le_length (by simp)
  · have e : (fun j => (Array.replicate ops.size false).getD j false) = fun _ => false := by
      funext j
      simp only [Array.getD_eq_getD_getElem?, Array.getElem?_replicate]
      split <;> rfl
    rw [e]
    exact h0
end
end Go.Proofs.Ytckkkdldljhehaa.Rg
