/- The frame of a region that draws its order, when the frame is too long to be written out: all slots but the region's own are as they were. No program. -/
import Derived.Test.YtckkkdldljhehacGreatPkG
namespace Go.Proofs.YtckkkdldljhehacGreat.Rh

theorem wp_act {P : Program} {c : Code} {Q : Exit → Act → World → Prop} {A0 : Act} {w : World} (h : ∀ A, A = A0 → Code.wp P c Q A w) : Code.wp P c Q A0 w := h A0 rfl
/-- All slots but those of the list are as in A. -/
def Fr (ds : List Nat) (A a : Act) : Prop := a.tmps.size = A.tmps.size ∧ a.defers = A.defers ∧ ∀ i, i ∉ ds → a.tmps[i]?.getD undef = A.tmps[i]?.getD undef
theorem Fr.refl (ds : List Nat) (A : Act) : Fr ds A A := ⟨rfl, rfl, fun _ _ => rfl⟩
theorem put_ne {a : Act} {d i : Nat} {v : Value} (h : d ≠ i) : (a.put (some d) v).tmps[i]?.getD undef = a.tmps[i]?.getD undef := by
  simp only [Act.put]
  rw [Array.getElem?_setIfInBounds_ne h]
theorem put_at {a : Act} {d : Nat} {v : Value} (h : d < a.tmps.size) : (a.put (some d) v).tmps[d]?.getD undef = v := by
  simp only [Act.put]
  rw [Array.getElem?_setIfInBounds_self_of_lt h]
  rfl
theorem ne_put {a : Act} {d i j : Nat} {v : Value} (hi : d ≠ i) (hj : d ≠ j) (h : a.tmps[i]?.getD undef ≠ a.tmps[j]?.getD undef) : (a.put (some d) v).tmps[i]?.getD undef ≠ (a.put (some d) v).tmps[j]?.getD undef := by
  rw [put_ne hi, put_ne hj]
  exact h
theorem ne_new {a : Act} {d j : Nat} {v : Value} (hd : d < a.tmps.size) (hj : d ≠ j) (h : v ≠ a.tmps[j]?.getD undef) : (a.put (some d) v).tmps[d]?.getD undef ≠ (a.put (some d) v).tmps[j]?.getD undef := by
  rw [put_at hd, put_ne hj]
  exact h
theorem put_size {a : Act} {d : Nat} {v : Value} : (a.put (some d) v).tmps.size = a.tmps.size := by simp [Act.put]
theorem Fr.put {ds : List Nat} {A a : Act} (h : Fr ds A a) {d : Nat} (hd : d ∈ ds) (v : Value) : Fr ds A (a.put (some d) v) :=
  ⟨put_size.trans h.1, h.2.1, fun i hi => (put_ne (fun e => hi (by rw [← e]; exact hd))).trans (h.2.2 i hi)⟩
theorem Fr.at {ds : List Nat} {A a : Act} (h : Fr ds A a) {d : Nat} (hd : d < A.tmps.size) (v : Value) : (a.put (some d) v).tmps[d]?.getD undef = v := put_at (by rw [h.1]; exact hd)
def puts (f : Nat → Value) : List Nat → Act → Act
  | [], A => A
  | d :: ds, A => puts f ds (A.put (some d) (f d))
theorem puts_size (f : Nat → Value) : ∀ (ds : List Nat) (A : Act), (puts f ds A).tmps.size = A.tmps.size
  | [], _ => rfl
  | _ :: ds, _ => (puts_size f ds _).trans put_size
theorem puts_defers (f : Nat → Value) : ∀ (ds : List Nat) (A : Act), (puts f ds A).defers = A.defers
  | [], _ => rfl
  | _ :: ds, _ => (puts_defers f ds _).trans rfl
theorem puts_get (f : Nat → Value) (i : Nat) : ∀ (ds : List Nat) (A : Act), i < A.tmps.size → (puts f ds A).tmps[i]?.getD undef = if i ∈ ds then f i else A.tmps[i]?.getD undef
  | [], _, _ => by simp [puts]
  | d :: ds, A, h => by
    unfold puts
    rw [puts_get f i ds _ (by rw [put_size]; exact h)]
    by_cases h1 : i ∈ ds
    · rw [if_pos h1, if_pos (List.mem_cons_of_mem _ h1)]
    · rw [if_neg h1]
      by_cases h2 : d = i
      · subst h2
        rw [put_at h, if_pos (List.mem_cons_self ..)]
      · rw [put_ne h2, if_neg (by simp; exact ⟨fun e => h2 e.symm, h1⟩)]
theorem Fr.eq {ds : List Nat} {A a : Act} (h : Fr ds A a) (f : Nat → Value) (hf : ∀ d ∈ ds, a.tmps[d]?.getD undef = f d) : a = puts f ds A := by
  have e : a.tmps = (puts f ds A).tmps := by
    refine Array.ext (h.1.trans (puts_size f ds A).symm) (fun i h1 h2 => ?_)
    have g1 : a.tmps[i]?.getD undef = a.tmps[i] := by rw [Array.getElem?_eq_getElem h1]; rfl
    have g2 : (puts f ds A).tmps[i]?.getD undef = (puts f ds A).tmps[i] := by rw [Array.getElem?_eq_getElem h2]; rfl
    rw [← g1, ← g2, puts_get f i ds A (by rw [← h.1]; exact h1)]
    by_cases hi : i ∈ ds
    · rw [if_pos hi, hf i hi]
    · rw [if_neg hi, h.2.2 i hi]
  have e2 : a.defers = (puts f ds A).defers := h.2.1.trans (puts_defers f ds A).symm
  cases a
  cases hp : puts f ds A
  rw [hp] at e e2
  simp only at e e2
  rw [e, e2]
end Go.Proofs.YtckkkdldljhehacGreat.Rh
