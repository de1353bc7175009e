/- Part of the proofs of GamePlays and GameRuns (package ninepinslaw): contracts of the functions that they call. -/
import Derived.Test.YtckkkdldljhehacGreatPkC
import Derived.Test.YtckkkdldljhehacGreatPkG
namespace Go.Proofs.YtckkkdldljhehacGreat
namespace Rh
theorem wp_act {P : Program} {c : Code} {Q : Exit → Act → World → Prop} {A0 : Act} {w : World} (h : ∀ A, A = A0 → Code.wp P c Q A w) : Code.wp P c Q A0 w := h A0 rfl
def Fr (ds : List Nat) (A a : Act) : Prop := a.tmps.size = A.tmps.size ∧ a.defers = A.defers ∧ ∀ i, i ∉ ds → a.tmps[i]?.getD undef = A.tmps[i]?.getD undef
theorem Fr.refl (ds : List Nat) (A : Act) : Fr ds A A := ⟨rfl, rfl, fun _ _ => rfl⟩
theorem put_ne {a : Act} {d i : Nat} {v : Value} (h : d ≠ i) : (a.put (some d) v).tmps[i]?.getD undef = a.tmps[i]?.getD undef := by
 simp only [Act.put]
 rw [Array.getElem?_setIfInBounds_ne h]
theorem put_at {a : Act} {d : Nat} {v : Value} (h : d < a.tmps.size) : (a.put (some d) v).tmps[d]?.getD undef = v := by
 simp only [Act.put]
 rw [Array.getElem?_setIfInBounds_self_of_lt h]
 rfl
theorem put_size {a : Act} {d : Nat} {v : Value} : (a.put (some d) v).tmps.size = a.tmps.size := by simp [Act.put]
theorem Fr.put {ds : List Nat} {A a : Act} (h : Fr ds A a) {d : Nat} (hd : d ∈ ds) (v : Value) : Fr ds A (a.put (some d) v) :=
 ⟨put_size.trans h.1, h.2.1, fun i hi => (put_ne (fun e => hi (by rw [← e]; exact hd))).trans (h.2.2 i hi)⟩
theorem Fr.at {ds : List Nat} {A a : Act} (h : Fr ds A a) {d : Nat} (hd : d < A.tmps.size) (v : Value) : (a.put (some d) v).tmps[d]?.getD undef = v := put_at (by rw [h.1]; exact hd)
def puts (f : Nat → Value) : List Nat → Act → Act
 | [], A => A
 | d :: ds, A => puts f ds (A.put (some d) (f d))
theorem puts_size (f : Nat → Value) : ∀ (ds : List Nat) (A : Act), (puts f ds A).tmps.size = A.tmps.size
 | [], _ => rfl
 | _ :: ds, _ => (puts_size f ds _).trans put_size
theorem puts_defers (f : Nat → Value) : ∀ (ds : List Nat) (A : Act), (puts f ds A).defers = A.defers
 | [], _ => rfl
 | _ :: ds, _ => (puts_defers f ds _).trans rfl
theorem puts_get (f : Nat → Value) (i : Nat) : ∀ (ds : List Nat) (A : Act), i < A.tmps.size → (puts f ds A).tmps[i]?.getD undef = if i ∈ ds then f i else A.tmps[i]?.getD undef
 | [], _, _ => by simp [puts]
 | d :: ds, A, h => by
  unfold puts
  rw [puts_get f i ds _ (by rw [put_size]; exact h)]
  by_cases h1 : i ∈ ds
  ·rw [if_pos h1, if_pos (List.mem_cons_of_mem _ h1)]
  ·rw [if_neg h1]
   by_cases h2 : d = i
   ·subst h2
    rw [put_at h, if_pos (List.mem_cons_self ..)]
   ·rw [put_ne h2, if_neg (by simp; exact ⟨fun e => h2 e.symm, h1⟩)]
theorem Fr.eq {ds : List Nat} {A a : Act} (h : Fr ds A a) (f : Nat → Value) (hf : ∀ d ∈ ds, a.tmps[d]?.getD undef = f d) : a = puts f ds A := by
 have e : a.tmps = (puts f ds A).tmps := by
  refine Array.ext (h.1.trans (puts_size f ds A).symm) (fun i h1 h2 => ?_)
  have g1 : a.tmps[i]?.getD undef = a.tmps[i] := by rw [Array.getElem?_eq_getElem h1]; rfl
  have g2 : (puts f ds A).tmps[i]?.getD undef = (puts f ds A).tmps[i] := by rw [Array.getElem?_eq_getElem h2]; rfl
  rw [← g1, ← g2, puts_get f i ds A (by rw [← h.1]; exact h1)]
  by_cases hi : i ∈ ds
  ·rw [if_pos hi, hf i hi]
  ·rw [if_neg hi, h.2.2 i hi]
 have e2 : a.defers = (puts f ds A).defers := h.2.1.trans (puts_defers f ds A).symm
 cases a
 cases hp : puts f ds A
 rw [hp] at e e2
 simp only at e e2
 rw [e, e2]
end Rh
namespace Rs
open Go.RowKit
def Sl (ds : List Nat) (A : Act) (V : List (Nat × Nat × Value)) (L : Nat → Bool) (a : Act) : Prop :=
 (∀ d ∈ ds, d < A.tmps.size) ∧ Rh.Fr ds A a ∧ ∀ x ∈ V, L x.1 = true → a.tmps[x.2.1]? = some x.2.2
def fs (a : Act) : List (Nat × Nat × Value) → Prop
 | [] => True
 | (_, d, v) :: l => a.tmps[d]? = some v ∧ fs a l
theorem fs_of {a : Act} : ∀ {l : List (Nat × Nat × Value)}, (∀ x ∈ l, a.tmps[x.2.1]? = some x.2.2) → fs a l
 | [], _ => trivial
 | (_, _, _) :: _, h => ⟨h _ (List.mem_cons_self ..), fs_of fun x hx => h x (List.mem_cons_of_mem _ hx)⟩
theorem no {b : Bool} {p : Prop} (h : b = false) (h' : b = true) : p := by rw [h] at h'; cases h'
theorem put_ne {a : Act} {d i : Nat} {v : Value} (h : d ≠ i) : (a.put (some d) v).tmps[i]? = a.tmps[i]? := by
 simp only [Act.put]
 rw [Array.getElem?_setIfInBounds_ne h]
theorem put_at {a : Act} {d : Nat} {v : Value} (h : d < a.tmps.size) : (a.put (some d) v).tmps[d]? = some v := by
 simp only [Act.put]
 rw [Array.getElem?_setIfInBounds_self_of_lt h]
section
variable {ds : List Nat} {A a : Act} {V : List (Nat × Nat × Value)} {L : Nat → Bool}
theorem Sl.start {n : Nat} (hn : n < A.tmps.size) (h : ds.all (Nat.ble · n) = true) : Hid (Sl ds A V (fun _ => false) A) :=
 ⟨fun d hd => Nat.lt_of_le_of_lt (Nat.le_of_ble_eq_true (List.all_eq_true.1 h d hd)) hn, Rh.Fr.refl _ _, fun _ _ h => by cases h⟩
theorem Sl.put (h : Hid (Sl ds A V L a)) {i d : Nat} {v : Value} (h1 : ds.elem d = true) (h2 : V.filter (fun x => Nat.beq x.1 i || Nat.beq x.2.1 d) = [(i, d, v)]) : Hid (Sl ds A V (Rg.up L i) (a.put (some d) v)) := by
 have hd : d ∈ ds := by simpa using h1
 refine ⟨h.out.1, h.out.2.1.put hd v, fun x hx hl => ?_⟩
 cases hc : Nat.beq x.1 i || Nat.beq x.2.1 d with
 | true =>
  have : x ∈ V.filter (fun x => Nat.beq x.1 i || Nat.beq x.2.1 d) := List.mem_filter.2 ⟨hx, hc⟩
  rw [h2] at this
  rcases List.mem_singleton.1 this with rfl
  exact put_at (by rw [h.out.2.1.1]; exact h.out.1 d hd)
 | false =>
  rw [Bool.or_eq_false_iff] at hc
  rw [put_ne (fun e => by rw [e, Nat.beq_refl] at hc; exact absurd hc.2 (by decide))]
  exact h.out.2.2 x hx (Rg.up_ne hl (fun e => by rw [e, Nat.beq_refl] at hc; exact absurd hc.1 (by decide)))
theorem Sl.free (h : Hid (Sl ds A V L a)) {i d : Nat} {v : Value} (h1 : ds.elem d = true) (h2 : V.any (fun x => Nat.beq x.1 i || Nat.beq x.2.1 d) = false) : Hid (Sl ds A V (Rg.up L i) (a.put (some d) v)) := by
 refine ⟨h.out.1, h.out.2.1.put (by simpa using h1) v, fun x hx hl => ?_⟩
 have hc := List.any_eq_false.1 h2 x hx
 rw [Bool.not_eq_true, Bool.or_eq_false_iff] at hc
 rw [put_ne (fun e => by rw [e, Nat.beq_refl] at hc; exact absurd hc.2 (by decide))]
 exact h.out.2.2 x hx (Rg.up_ne hl (fun e => by rw [e, Nat.beq_refl] at hc; exact absurd hc.1 (by decide)))
theorem Sl.skip (h : Hid (Sl ds A V L a)) {i : Nat} (h2 : V.any (fun x => Nat.beq x.1 i) = false) : Hid (Sl ds A V (Rg.up L i) a) := by
 refine ⟨h.out.1, h.out.2.1, fun x hx hl => h.out.2.2 x hx (Rg.up_ne hl (fun e => ?_))⟩
 have hc := List.any_eq_false.1 h2 x hx
 rw [e, Nat.beq_refl] at hc
 exact hc rfl
theorem Sl.at (h : Hid (Sl ds A V L a)) (i : Nat) {d : Nat} {v : Value} (hl : L i = true) (h2 : V.find? (fun x => Nat.beq x.1 i) = some (i, d, v) := by rfl) : a.tmps[d]?.getD undef = v := by
 rw [h.out.2.2 _ (List.mem_of_find?_eq_some h2) hl]
 rfl
theorem Sl.old (h : Hid (Sl ds A V L a)) {d : Nat} {v : Value} (e : A.tmps[d]?.getD undef = v) (hd : ds.elem d = false) : a.tmps[d]?.getD undef = v :=
 (h.out.2.1.2.2 d (fun hc => by rw [List.elem_eq_true_of_mem hc] at hd; cases hd)).trans e
theorem Sl.lt (h : Hid (Sl ds A V L a)) {d : Nat} (hd : ds.elem d = true) : d < a.tmps.size := by rw [h.out.2.1.1]; exact h.out.1 d (by simpa using hd)
theorem Sl.new (h : Hid (Sl ds A V L a)) {d : Nat} {v : Value} (hd : ds.elem d = true := by rfl) : (a.put (some d) v).tmps[d]?.getD undef = v := Rh.put_at (Sl.lt h hd)
theorem Sl.deps (h : Hid (Sl ds A V L a)) {md : Region.Mode} {o : Oper} (hd : Rg.deps md L o = true) : fs a (V.filter fun x => o.after.toList.any fun e => Region.binds md e && Nat.beq e.on x.1) :=
 fs_of fun x hx => by
  obtain ⟨hx, hy⟩ := List.mem_filter.1 hx
  obtain ⟨e, he, hb⟩ := List.any_eq_true.1 hy
  rw [Bool.and_eq_true] at hb
  refine h.out.2.2 x hx ?_
  rw [← Nat.eq_of_beq_eq_true hb.2]
  have := List.all_eq_true.1 hd e he
  simpa [hb.1] using this
theorem Sl.eq (h : Hid (Sl ds A V L a)) : a = Rh.puts (fun d => a.tmps[d]?.getD undef) ds A := h.out.2.1.eq _ fun _ _ => rfl
end
theorem dep {md : Region.Mode} {L : Nat → Bool} {o : Oper} (hd : Rg.deps md L o = true) (i : Nat) (h : (o.after.toList.any fun e => Region.binds md e && Nat.beq e.on i) = true := by rfl) : L i = true := by
 obtain ⟨e, he, hb⟩ := List.any_eq_true.1 h
 rw [Bool.and_eq_true] at hb
 rw [← Nat.eq_of_beq_eq_true hb.2]
 have := List.all_eq_true.1 hd e he
 simpa [hb.1] using this
theorem deps_up {md : Region.Mode} {L : Nat → Bool} {o : Oper} {i : Nat} (hd : Rg.deps md L o = true) : Rg.deps md (Rg.up L i) o = true := by
 unfold Rg.deps at *
 rw [List.all_eq_true] at *
 intro e he
 have := hd e he
 rw [Bool.or_eq_true] at *
 exact this.imp (fun h => h) Rg.up_of
def cl (md : Region.Mode) (ops : Array Oper) (L : Nat → Bool) : Prop := ∀ j o, ops[j]? = some o → L j = true → Rg.deps md L o = true
theorem steps_cl {P : Program} {md : Region.Mode} {ops : Array Oper} {Q : Exit → Act → World → Prop} {I : (Nat → Bool) → Act → World → Prop} {L : Nat → Bool} {a : Act} {w : World} (hc : cl md ops L) :
  ∀ (l : List Oper) (k : Nat), (∀ i o, l[i]? = some o → ops[k + i]? = some o) → Rg.steps P md ops Q I L a w k l → Rg.steps P md ops Q (fun L a w => I L a w ∧ cl md ops L) L a w k l
 | [], _, _, _ => trivial
 | o :: l, k, hl, h => by
  refine ⟨fun h1 hd K' hK => h.1 h1 hd K' (fun a' w' hi => hK a' w' ⟨hi, fun j p hj hu => ?_⟩), steps_cl hc l (k + 1) (fun i p hi => ?_) h.2⟩
  ·by_cases e : j = k
   ·subst e
    have h0 := hl 0 o rfl
    rw [Nat.add_zero, hj] at h0
    cases h0
    exact deps_up hd
   ·exact deps_up (hc j p hj (Rg.up_ne hu e))
  ·have := hl (i + 1) p hi
   rwa [show k + (i + 1) = k + 1 + i by omega] at this
def anc (md : Region.Mode) (ops : Array Oper) : Nat → Nat → List Nat
 | 0, _ => []
 | f + 1, n => match ops[n]? with
  | none => []
  | some o => o.after.toList.flatMap fun e => bif Region.binds md e then e.on :: anc md ops f e.on else []
theorem anc_up {md : Region.Mode} {ops : Array Oper} {L : Nat → Bool} (hc : cl md ops L) : ∀ (f n : Nat), L n = true → ∀ i ∈ anc md ops f n, L i = true
 | 0, _, _, _, hi => by cases hi
 | f + 1, n, h, i, hi => by
  unfold anc at hi
  split at hi
  ·cases hi
  ·rename_i o ho
   obtain ⟨e, he, hi⟩ := List.mem_flatMap.1 hi
   cases hb : Region.binds md e with
   | false => rw [hb] at hi; cases hi
   | true =>
    rw [hb] at hi
    have h1 : L e.on = true := by simpa [hb] using List.all_eq_true.1 (hc n o ho h) e he
    rcases List.mem_cons.1 hi with rfl | hi
    ·exact h1
    ·exact anc_up hc f e.on h1 i hi
theorem late {md : Region.Mode} {ops : Array Oper} {L : Nat → Bool} (hc : Hid (cl md ops L)) {i : Nat} (hl : L i = false) (n : Nat) (h : (anc md ops 30 n).elem i = true := by rfl) : L n = false := by
 cases hn : L n with
 | false => rfl
 | true => rw [anc_up hc.out 30 n hn i (by simpa using h)] at hl; cases hl
theorem wp_region {P : Program} {ops : Array Oper} {Q : Exit → Act → World → Prop} {id : Nat} {a : Act} {w : World} (hm : P.follows .mixedOrders = true) (I : (Nat → Bool) → Act → World → Prop) (hord : Rg.ordered .any 0 ops.toList = true) (h0 : I (fun _ => false) a w.drew)
  (hstep : ∀ L a w, I L a w → Hid (cl .any ops L) → Rg.steps P .any ops Q I L a w 0 ops.toList) (hend : ∀ L a w, I L a w → (∀ i, i < ops.size → L i = true) → Q .normal a w) : (Code.region id ops true).wp P Q a w :=
 Rg.wp_region_inv hm (fun L a w => I L a w ∧ cl .any ops L) hord ⟨h0, fun _ _ _ h => by cases h⟩ (fun L a w h => steps_cl h.2 _ 0 (fun i o hi => by simpa using hi) (hstep L a w h.1 h.2)) (fun L a w h => hend L a w h.1)
def findR (n : Nat) : Code → Option Code
 | .region i ops d => if i = n then some (.region i ops d) else none
 | .seq a b => match findR n a with
  | some c => some c
  | none => findR n b
 | .block _ c => findR n c
 | .scope c => findR n c
 | .loop c => findR n c
 | .cond _ a b => match findR n a with
  | some c => some c
  | none => findR n b
 | _ => none
end Rs
namespace St
open Go.ChangeShapes Go.WideShapes Go.ChangeAt Go.RowKit
def Al (wz w : World) (v : Value) (T n : Nat) (u : Bool) (con : Nat → Value) : Prop := ∃ b f, v = .pointer (some ⟨b, 0, none⟩) ∧ wz.heap.size ≤ b ∧ w.rowIs b T n f ∧ (u = true → f = con)
theorem Al.below {wz w w' : World} {v : Value} {T n : Nat} {u : Bool} {con : Nat → Value} (h : Al wz w v T n u con) (hb : Below w.heap.size w w') : Al wz w' v T n u con := by
 obtain ⟨b, f, e1, e2, e3, e4⟩ := h
 exact ⟨b, f, e1, e2, rowIs_below e3 hb, e4⟩
theorem Al.ne {wz w : World} {v : Value} {T n : Nat} {u : Bool} {con : Nat → Value} (h : Al wz w v T n u con) : (.pointer (some ⟨w.heap.size, 0, none⟩) : Value) ≠ v := by
 obtain ⟨b, f, e1, -, e3, -⟩ := h
 rw [e1]
 intro e
 have := e3.lt
 simp at e <;> omega
theorem row8f {W : World} {b : Nat} {t : TypeId} {f : Nat → Value} (h : W.rowIs b t 8 f) : W.cell? ⟨b, 0, none⟩ = some (f 0) ∧ W.cell? ⟨b, 1, none⟩ = some (f 1) ∧ W.cell? ⟨b, 2, none⟩ = some (f 2) ∧ W.cell? ⟨b, 3, none⟩ = some (f 3) ∧ W.cell? ⟨b, 4, none⟩ = some (f 4) ∧ W.cell? ⟨b, 5, none⟩ = some (f 5) ∧ W.cell? ⟨b, 6, none⟩ = some (f 6) ∧ W.cell? ⟨b, 7, none⟩ = some (f 7) ∧ W.frozen? ⟨b, 0, none⟩ = false ∧ W.frozen? ⟨b, 1, none⟩ = false ∧ W.frozen? ⟨b, 2, none⟩ = false ∧ W.frozen? ⟨b, 3, none⟩ = false ∧ W.frozen? ⟨b, 4, none⟩ = false ∧ W.frozen? ⟨b, 5, none⟩ = false ∧ W.frozen? ⟨b, 6, none⟩ = false ∧ W.frozen? ⟨b, 7, none⟩ = false :=
 ⟨h.cell (by omega), h.cell (by omega), h.cell (by omega), h.cell (by omega), h.cell (by omega), h.cell (by omega), h.cell (by omega), h.cell (by omega), h.frozen 0, h.frozen 1, h.frozen 2, h.frozen 3, h.frozen 4, h.frozen 5, h.frozen 6, h.frozen 7⟩
theorem row9f {W : World} {b : Nat} {t : TypeId} {f : Nat → Value} (h : W.rowIs b t 9 f) : W.cell? ⟨b, 0, none⟩ = some (f 0) ∧ W.cell? ⟨b, 1, none⟩ = some (f 1) ∧ W.cell? ⟨b, 2, none⟩ = some (f 2) ∧ W.cell? ⟨b, 3, none⟩ = some (f 3) ∧ W.cell? ⟨b, 4, none⟩ = some (f 4) ∧ W.cell? ⟨b, 5, none⟩ = some (f 5) ∧ W.cell? ⟨b, 6, none⟩ = some (f 6) ∧ W.cell? ⟨b, 7, none⟩ = some (f 7) ∧ W.cell? ⟨b, 8, none⟩ = some (f 8) ∧ W.frozen? ⟨b, 0, none⟩ = false ∧ W.frozen? ⟨b, 1, none⟩ = false ∧ W.frozen? ⟨b, 2, none⟩ = false ∧ W.frozen? ⟨b, 3, none⟩ = false ∧ W.frozen? ⟨b, 4, none⟩ = false ∧ W.frozen? ⟨b, 5, none⟩ = false ∧ W.frozen? ⟨b, 6, none⟩ = false ∧ W.frozen? ⟨b, 7, none⟩ = false ∧ W.frozen? ⟨b, 8, none⟩ = false :=
 ⟨h.cell (by omega), h.cell (by omega), h.cell (by omega), h.cell (by omega), h.cell (by omega), h.cell (by omega), h.cell (by omega), h.cell (by omega), h.cell (by omega), h.frozen 0, h.frozen 1, h.frozen 2, h.frozen 3, h.frozen 4, h.frozen 5, h.frozen 6, h.frozen 7, h.frozen 8⟩
end St
end Go.Proofs.YtckkkdldljhehacGreat
