/- A map of things by number in memory, read as a plain list that rises by number: looked up, stored into, struck, counted, ranged over. -/
import Derived.Test.YtckkkdldljhehaaProg
import Derived.Test.YtckkkdldljhehaaKtMpA
import Derived.WalkKit
import Derived.Below
import Derived.Maps.RangeWalk
namespace Go.Proofs.Ytckkkdldljhehaa.Mp
open Go.Proofs.Ytckkkdldljhehaa.Num
open Go.ChangeMaps Go.MapKept Go.RowKit
open Go.Maps (Keyed)

def thV (t : Th) : Value := .agg #[.int .i64 t.m, .int .i64 t.r.x, .int .i64 t.r.y, .int .i64 t.r.px, .int .i64 t.r.py, .int .i64 t.r.wd, .int .i64 t.r.ht, .int .i64 t.r.ms, .int .i64 t.r.rr]
def thD (t : Th) : DataW Unit := .agg [.lit (.int .i64 t.m), .lit (.int .i64 t.r.x), .lit (.int .i64 t.r.y), .lit (.int .i64 t.r.px), .lit (.int .i64 t.r.py), .lit (.int .i64 t.r.wd), .lit (.int .i64 t.r.ht), .lit (.int .i64 t.r.ms), .lit (.int .i64 t.r.rr)]
def zTh : Th := ⟨0, ⟨0, 0, 0, 0, 0, 0, 0, 0⟩⟩
def thElem : Value → Option (DataW Unit × List MemPlace)
  | .agg ⟨[.int .i64 m, .int .i64 a, .int .i64 b, .int .i64 c, .int .i64 d, .int .i64 e, .int .i64 f, .int .i64 g, .int .i64 h]⟩ => some (thD ⟨m, ⟨a, b, c, d, e, f, g, h⟩⟩, [])
  | _ => none
theorem thElem_mk (t : Th) : thElem (thV t) = some (thD t, []) := rfl
theorem thElem_inv {v : Value} {z : DataW Unit × List MemPlace} (h : thElem v = some z) : ∃ t, v = thV t ∧ z = (thD t, []) := by
  unfold thElem at h
  split at h
  · cases h; exact ⟨⟨_, ⟨_, _, _, _, _, _, _, _⟩⟩, rfl, rfl⟩
  · cases h
theorem thD_inj {s t : Th} (h : thD s = thD t) : s = t := by
  obtain ⟨m, r⟩ := s
  obtain ⟨n, q⟩ := t
  obtain ⟨⟩ := r
  obtain ⟨⟩ := q
  simp [thD] at h
  simp [h]
def toE (l : Mth) : List (Lit × DataW Unit) := l.map (fun p => (Lit.int .i64 p.1, thD p.2))
def toD (l : Mth) : DataW Unit := .map (toE l)
theorem same_int (a b : Int) : (Lit.int .i64 a).sameKey (.int .i64 b) = decide (a = b) := by simp [Lit.sameKey]
theorem toE_ins (x : Int × Th) (l : Mth) : toE (insM x l) = DataW.insert (Lit.int .i64 x.1, thD x.2) (toE l) := by
  induction l with
  | nil => rfl
  | cons y l ih =>
    unfold insM
    by_cases h : x.1 < y.1
    · simp [toE, DataW.insert, Lit.before, h]
    · rw [if_neg h]
      simp only [toE, List.map_cons, DataW.insert, Lit.before, decide_eq_true_eq, if_neg h] at ih ⊢
      rw [ih]
theorem toE_del (k : Int) (l : Mth) : toE (delM k l) = (toE l).filter (fun p => !p.1.sameKey (.int .i64 k)) := by
  unfold toE delM
  rw [List.filter_map]
  congr 1
  apply List.filter_congr
  intro p _
  simp [same_int]
theorem toD_put (k : Int) (t : Th) (l : Mth) : (toD l).put (.int .i64 k) (thD t) = toD (putM k t l) := by
  simp only [toD, DataW.put, putM, toE_ins, toE_del]
theorem toD_del (k : Int) (l : Mth) : (toD l).del (.int .i64 k) = toD (delM k l) := by
  simp only [toD, DataW.del, toE_del]
theorem toE_find (k : Int) (l : Mth) : (toE l).find? (fun p => p.1.sameKey (.int .i64 k)) = (getM k l).map (fun t => (Lit.int .i64 k, thD t)) := by
  induction l with
  | nil => rfl
  | cons x l ih =>
    rw [getM_cons]
    simp only [toE, List.map_cons, List.find?_cons, same_int] at ih ⊢
    by_cases h : x.1 = k
    · simp [h]
    · simp only [h, decide_false, if_false]
      exact ih
theorem toD_at (k : Int) (l : Mth) (z : DataW Unit) : (toD l).atKey (.int .i64 k) z = ((getM k l).map thD).getD z := by
  simp only [toD, DataW.atKey, toE_find]
  cases getM k l <;> rfl
theorem toD_has (k : Int) (l : Mth) : Maps.has (toD l) (.int .i64 k) = (getM k l).isSome := by
  rw [toD, Maps.has_eq]
  induction l with
  | nil => rfl
  | cons x l ih =>
    rw [getM_cons]
    simp only [toE, List.map_cons, List.any_cons, same_int] at ih ⊢
    rw [ih]
    by_cases h : x.1 = k <;> simp [h]
theorem toD_size (l : Mth) : Maps.size (toD l) = l.length := by simp [toD, Maps.size_eq, toE]
theorem toD_inj_len {a b : Mth} (h : toD a = toD b) : a.length = b.length := by rw [← toD_size, ← toD_size, h]

theorem ownsMap_tight {w : World} {P : Program} {k : TypeId} {R : Value → Option (DataW Unit × List MemPlace)} {b n : Nat} {D : DataW Unit} (h : w.ownsMap P k R b n D) : w.ownsMap P k R b (Maps.size D) D := by
  obtain ⟨es, clock, hb, F, hs, hD⟩ := h
  refine ⟨es, clock, hb, F, ?_, hD⟩
  rw [hD]
  simp [Maps.size, length_sorted]

/-- Block b is a map of things that reads as that list. -/
def Mp (w : World) (b : Nat) (l : Mth) : Prop := Up l ∧ (∀ p ∈ l, (Lit.int .i64 p.1).wf = true) ∧ w.ownsMap Try.prog 3 thElem b l.length (toD l)
theorem keyed3 : Keyed Try.prog 3 := Maps.int_keyed Try.underlying3
theorem zeroTh (w : World) : (zeroValue 43).run Try.prog w = .ok (thV zTh) w := by kernel_rfl
theorem undTh : Try.prog.underlying 33 = some (.map 3 43) := Try.underlying33

theorem Mp.up {w : World} {b : Nat} {l : Mth} (h : Mp w b l) : Up l := h.1
theorem Mp.wf {w : World} {b : Nat} {l : Mth} (h : Mp w b l) {k : Int} {t : Th} (hk : getM k l = some t) : (Lit.int .i64 k).wf = true := h.2.1 _ (getM_mem hk)
theorem Mp.lt {w : World} {b : Nat} {l : Mth} (h : Mp w b l) : b < w.heap.size := h.2.2.lt
theorem Mp.made (w : World) : Mp (w.alloc (.map #[] 0)) w.heap.size [] := ⟨up_nil, by simp, World.ownsMap_made _ _ _ _⟩
theorem Mp.kept {w w' : World} {b : Nat} {l : Mth} {row : Option Nat} (h : Mp w b l) (hg : w.grownBy w' row) (hne : some b ≠ row) : Mp w' b l := ⟨h.1, h.2.1, h.2.2.kept hg hne⟩
theorem Mp.block {w w' : World} {b : Nat} {l : Mth} (h : Mp w b l) (hb : w'.heap[b]? = w.heap[b]?) : Mp w' b l := by
  obtain ⟨h1, h2, es, clock, h3, h4⟩ := h
  exact ⟨h1, h2, es, clock, hb.trans h3, h4⟩
theorem Mp.below {w w' : World} {b : Nat} {l : Mth} (h : Mp w b l) (hb : Below w.heap.size w w') : Mp w' b l := h.block (hb.block b h.lt)

theorem Mp.look_ok {w : World} {b : Nat} {l : Mth} (h : Mp w b l) {k : Int} (hk : (Lit.int .i64 k).wf = true) :
    (Instr.lookup 33 (.map (some b)) (.int .i64 k) true).run Try.prog w = .ok (.tuple #[thV ((getM k l).getD zTh), .bool (getM k l).isSome]) w := by
  obtain ⟨v, ps, hrun, hv⟩ := h.2.2.look_ok keyed3 undTh (zeroTh w) (thElem_mk zTh) (Maps.keyOf_int_mk Try.underlying3 hk)
  rw [hrun, toD_has]
  obtain ⟨t, rfl, hz⟩ := thElem_inv hv
  rw [toD_at] at hz
  have e : (((getM k l).map thD).getD (thD zTh)) = thD t := congrArg Prod.fst hz
  have e2 : t = (getM k l).getD zTh := by
    cases hg : getM k l with
    | none => rw [hg] at e; exact (thD_inj e).symm
    | some s => rw [hg] at e; exact (thD_inj e).symm
  rw [e2]
theorem Mp.look {w : World} {b : Nat} {l : Mth} (h : Mp w b l) {k : Int} (hk : (Lit.int .i64 k).wf = true) :
    (Instr.lookup 33 (.map (some b)) (.int .i64 k) false).run Try.prog w = .ok (thV ((getM k l).getD zTh)) w := by
  obtain ⟨v, ps, hrun, hv⟩ := h.2.2.lookup keyed3 undTh (zeroTh w) (thElem_mk zTh) (Maps.keyOf_int_mk Try.underlying3 hk)
  rw [hrun]
  obtain ⟨t, rfl, hz⟩ := thElem_inv hv
  rw [toD_at] at hz
  have e : (((getM k l).map thD).getD (thD zTh)) = thD t := congrArg Prod.fst hz
  have e2 : t = (getM k l).getD zTh := by
    cases hg : getM k l with
    | none => rw [hg] at e; exact (thD_inj e).symm
    | some s => rw [hg] at e; exact (thD_inj e).symm
  rw [e2]
theorem Mp.len {w : World} {b : Nat} {l : Mth} (h : Mp w b l) (ty : TypeId) : (Builtin.len_ #[33] ty #[.map (some b)]).run Try.prog w = .ok (.int .i64 l.length) w := by
  rw [h.2.2.len undTh ty, toD_size]
theorem Mp.store {w : World} {b : Nat} {l : Mth} (h : Mp w b l) {k : Int} (hk : (Lit.int .i64 k).wf = true) (t : Th) (hn : l.length < maxLen) :
    ∃ w', (Instr.mapUpdate 33 (.map (some b)) (.int .i64 k) (thV t)).run Try.prog w = .ok () w' ∧ Mp w' b (putM k t l) ∧ w.mapTurned w' b := by
  obtain ⟨w', hrun, ho, ht⟩ := h.2.2.store keyed3 undTh hn (Maps.keyOf_int_mk Try.underlying3 hk) (thElem_mk t)
  refine ⟨w', hrun, ⟨h.1.put k t, fun p hp => ?_, ?_⟩, ht⟩
  · rcases mem_putM.1 hp with rfl | hp
    · exact hk
    · exact h.2.1 p hp.1
  · rw [toD_put] at ho
    have := ownsMap_tight ho
    rw [toD_size] at this
    exact this
theorem Mp.drop {w : World} {b : Nat} {l : Mth} (h : Mp w b l) {k : Int} (hk : (Lit.int .i64 k).wf = true) (ty : TypeId) :
    ∃ w', (Builtin.delete_ #[33, 3] ty #[.map (some b), .int .i64 k]).run Try.prog w = .ok (.tuple #[]) w' ∧ Mp w' b (delM k l) ∧ w.mapTurned w' b := by
  obtain ⟨w', hrun, ho, ht⟩ := h.2.2.drop keyed3 undTh (Maps.keyOf_int_mk Try.underlying3 hk) ty
  refine ⟨w', hrun, ⟨h.1.del k, fun p hp => h.2.1 p (mem_delM.1 hp).1, ?_⟩, ht⟩
  rw [toD_del] at ho
  have := ownsMap_tight ho
  rw [toD_size] at this
  exact this

/-! ### ranged over -/
/-- A range over the map in block b under way at block r: these are still to come. -/
def Rng (w : World) (b r : Nat) (l todo : Mth) (cnt : Nat) : Prop :=
  Mp w b l ∧ Up todo ∧ (∀ p ∈ todo, p ∈ l) ∧ ∃ left, w.ranges Try.prog 3 thElem b r l.length (toD l) left cnt ∧ (∀ p ∈ l, left (.int .i64 p.1) = (getM p.1 todo).isSome)
theorem Rng.mp {w : World} {b r : Nat} {l todo : Mth} {cnt : Nat} (h : Rng w b r l todo cnt) : Mp w b l := h.1
theorem Rng.left_eq {w : World} {b r : Nat} {l todo : Mth} {cnt : Nat} (h : Rng w b r l todo cnt) : w.rangeLeft b r = cnt := by
  obtain ⟨_, _, _, left, h4, _⟩ := h
  exact h4.left_eq
theorem Rng.lt {w : World} {b r : Nat} {l todo : Mth} {cnt : Nat} (h : Rng w b r l todo cnt) : r < w.heap.size := by
  obtain ⟨_, _, _, left, h4, _⟩ := h
  exact h4.lt
theorem Rng.ne {w : World} {b r : Nat} {l todo : Mth} {cnt : Nat} (h : Rng w b r l todo cnt) : r ≠ b := by
  obtain ⟨_, _, _, left, h4, _⟩ := h
  exact h4.ne
theorem Rng.sub {w : World} {b r : Nat} {l todo : Mth} {cnt : Nat} (h : Rng w b r l todo cnt) : Up todo ∧ ∀ p ∈ todo, p ∈ l := ⟨h.2.1, h.2.2.1⟩
theorem Rng.kept {w w' : World} {b r : Nat} {l todo : Mth} {cnt : Nat} {row : Option Nat} (h : Rng w b r l todo cnt) (hg : w.grownBy w' row) (hb : some b ≠ row) (hr : some r ≠ row) : Rng w' b r l todo cnt := by
  obtain ⟨h1, h2, h3, left, h4, h5⟩ := h
  exact ⟨h1.kept hg hb, h2, h3, left, h4.kept hg hb hr, h5⟩
theorem Rng.blocks {w w' : World} {b r : Nat} {l todo : Mth} {cnt : Nat} (h : Rng w b r l todo cnt) (hb : w'.heap[b]? = w.heap[b]?) (hr : w'.heap[r]? = w.heap[r]?) : Rng w' b r l todo cnt := by
  obtain ⟨h1, h2, h3, left, ⟨es, clock, since, seen, c0, e1, e2, e3, e4, e5, e6⟩, h5⟩ := h
  exact ⟨h1.block hb, h2, h3, left, ⟨es, clock, since, seen, c0, hb.trans e1, e2, e3, e4, hr.trans e5, e6⟩, h5⟩
theorem Rng.below {w w' : World} {b r : Nat} {l todo : Mth} {cnt : Nat} (h : Rng w b r l todo cnt) (hb : Below w.heap.size w w') : Rng w' b r l todo cnt := h.blocks (hb.block b h.1.lt) (hb.block r h.lt)
theorem Mp.range {w : World} {b : Nat} {l : Mth} (h : Mp w b l) :
    ∃ w', (Instr.range 33 (.map (some b))).run Try.prog w = .ok (.pointer (some ⟨w.heap.size, 0, none⟩)) w' ∧ Rng w' b w.heap.size l l l.length ∧ w.grownBy w' none ∧ w'.heap.size = w.heap.size + 1 := by
  obtain ⟨w', hrun, hr, hg, hs⟩ := h.2.2.range keyed3 undTh
  rw [toD_size] at hr
  refine ⟨w', hrun, ⟨h.kept hg (by simp), h.1, fun p hp => hp, _, hr, fun p hp => toD_has _ _⟩, hg, hs⟩
theorem Rng.next {w : World} {b r : Nat} {l todo : Mth} {cnt : Nat} (h : Rng w b r l todo cnt) (ty : TypeId) :
    (todo = [] ∧ (Instr.next (.pointer (some ⟨r, 0, none⟩)) false ty).run Try.prog w = .ok (.tuple #[.bool false]) w) ∨
    ∃ k t w' cnt', getM k todo = some t ∧ (Instr.next (.pointer (some ⟨r, 0, none⟩)) false ty).run Try.prog w = .ok (.tuple #[.bool true, .int .i64 k, thV t]) w' ∧ Rng w' b r l (delM k todo) cnt' ∧ cnt' < cnt ∧ w.grownBy w' (some r) ∧ w'.heap.size = w.heap.size ∧
      (Instr.entry (.pointer (some ⟨r, 0, none⟩))).run Try.prog w' = .ok (.tuple #[.int .i64 k, thV t]) w' := by
  have hne := h.ne
  obtain ⟨h1, h2, h3, left, h4, h5⟩ := h
  rcases h4.next keyed3 ty with ⟨-, hl, hrun⟩ | ⟨key, v, kl, y, w', cnt', hkey, hlk, hv, hat, hrun, hrg, hlt, hgr, hsz, hen⟩
  · refine Or.inl ⟨?_, hrun⟩
    cases todo with
    | nil => rfl
    | cons p todo =>
      have e1 := h5 p (h3 p (List.mem_cons_self ..))
      rw [hl, getM_cons, if_pos rfl] at e1
      cases e1
  · obtain ⟨k, rfl, rfl, hw⟩ := Maps.keyOf_int_inv Try.underlying3 hkey
    obtain ⟨t, rfl, rfl⟩ := thElem_inv hv
    have hg : getM k l = some t := by
      have e1 := hat .nil
      rw [toD_at] at e1
      cases hq : getM k l with
      | none => rw [hq] at e1; cases e1
      | some s => rw [hq] at e1; rw [thD_inj e1]
    have hm := getM_mem hg
    have e2 := h5 _ hm
    rw [hlk] at e2
    obtain ⟨t', ht'⟩ := Option.isSome_iff_exists.1 e2.symm
    have : t' = t := by
      have := getM_of_mem h1.1 (h3 _ (getM_mem ht'))
      rw [hg] at this
      exact (Option.some.inj this).symm
    subst this
    refine Or.inr ⟨k, t', w', cnt', ht', hrun, ⟨h1.kept hgr (fun e => hne (Option.some.inj e).symm), h2.del k, fun p hp => h3 p (mem_delM.1 hp).1, _, hrg, fun p hp => ?_⟩, hlt, hgr, hsz, hen⟩
    show (left (.int .i64 p.1) && !(Lit.int .i64 p.1).sameKey (.int .i64 k)) = _
    rw [h5 p hp, same_int, getM_del h2]
    by_cases e : p.1 = k <;> simp [e]

/-! ### at the operation, for the walk -/
section
variable (w : World) {ops : Array Oper} {rest : List Oper} {o : Oper} {a : Act} {Q : Exit → Act → World → Prop}
theorem wp_range (hg : o.guard = none) (m : Operand) (hop : o.op = Op.range 33 m) (b : Nat) (l : Mth) (hm : a.eval m = .map (some b)) (h : Mp w b l)
    (hK : ∀ w', Rng w' b w.heap.size l l l.length → w.grownBy w' none → w'.heap.size = w.heap.size + 1 → wpList Try.prog ops Q rest (a.put o.dst (.pointer (some ⟨w.heap.size, 0, none⟩))) w') :
    wpList Try.prog ops Q (o :: rest) a w := by
  refine wpList_plain hg fun K' hK' => ?_
  obtain ⟨w', hrun, r1, r2, r3⟩ := h.range
  unfold Oper.wp
  simp [execOp, hop, hm, hrun, Result.andThen]
  exact hK' _ _ (hK w' r1 r2 r3)
theorem wp_next (hg : o.guard = none) (it : Operand) (hop : o.op = Op.next it false) (b r : Nat) (l todo : Mth) (cnt : Nat) (hit : a.eval it = .pointer (some ⟨r, 0, none⟩)) (h : Rng w b r l todo cnt)
    (hDone : todo = [] → wpList Try.prog ops Q rest (a.put o.dst (.tuple #[.bool false])) w)
    (hMore : ∀ (k : Int) (t : Th) (w' : World) (cnt' : Nat), getM k todo = some t → Rng w' b r l (delM k todo) cnt' → cnt' < cnt → w.grownBy w' (some r) → w'.heap.size = w.heap.size →
      (Instr.entry (.pointer (some ⟨r, 0, none⟩))).run Try.prog w' = .ok (.tuple #[.int .i64 k, .agg #[.int .i64 t.m, .int .i64 t.r.x, .int .i64 t.r.y, .int .i64 t.r.px, .int .i64 t.r.py, .int .i64 t.r.wd, .int .i64 t.r.ht, .int .i64 t.r.ms, .int .i64 t.r.rr]]) w' → wpList Try.prog ops Q rest (a.put o.dst (.tuple #[.bool true, .int .i64 k, .agg #[.int .i64 t.m, .int .i64 t.r.x, .int .i64 t.r.y, .int .i64 t.r.px, .int .i64 t.r.py, .int .i64 t.r.wd, .int .i64 t.r.ht, .int .i64 t.r.ms, .int .i64 t.r.rr]])) w') :
    wpList Try.prog ops Q (o :: rest) a w := by
  refine wpList_plain hg fun K' hK' => ?_
  unfold Oper.wp
  rcases h.next o.type with ⟨h0, hrun⟩ | ⟨k, t, w', cnt', hk, hrun, hr, hlt, hgr, hsz, hen⟩
  · simp [execOp, hop, hit, hrun, Result.andThen]
    exact hK' _ _ (hDone h0)
  · simp [execOp, hop, hit, hrun, Result.andThen]
    exact hK' _ _ (hMore k t w' cnt' hk hr hlt hgr hsz hen)
theorem wp_look_ok (hg : o.guard = none) (m x : Operand) (hop : o.op = Op.lookup 33 m x true) (b : Nat) (l : Mth) (hm : a.eval m = .map (some b)) (h : Mp w b l) (k : Int) (hx : a.eval x = .int .i64 k) (hk : (Lit.int .i64 k).wf = true)
    (hK : ∀ t : Th, t = (getM k l).getD zTh → wpList Try.prog ops Q rest (a.put o.dst (.tuple #[.agg #[.int .i64 t.m, .int .i64 t.r.x, .int .i64 t.r.y, .int .i64 t.r.px, .int .i64 t.r.py, .int .i64 t.r.wd, .int .i64 t.r.ht, .int .i64 t.r.ms, .int .i64 t.r.rr], .bool (getM k l).isSome])) w) :
    wpList Try.prog ops Q (o :: rest) a w := by
  refine wpList_plain hg fun K' hK' => ?_
  unfold Oper.wp
  simp [execOp, hop, hm, hx, h.look_ok hk, Result.andThen]
  exact hK' _ _ (hK _ rfl)
theorem wp_look (hg : o.guard = none) (m x : Operand) (hop : o.op = Op.lookup 33 m x false) (b : Nat) (l : Mth) (hm : a.eval m = .map (some b)) (h : Mp w b l) (k : Int) (hx : a.eval x = .int .i64 k) (hk : (Lit.int .i64 k).wf = true)
    (hK : ∀ t : Th, t = (getM k l).getD zTh → wpList Try.prog ops Q rest (a.put o.dst (.agg #[.int .i64 t.m, .int .i64 t.r.x, .int .i64 t.r.y, .int .i64 t.r.px, .int .i64 t.r.py, .int .i64 t.r.wd, .int .i64 t.r.ht, .int .i64 t.r.ms, .int .i64 t.r.rr])) w) :
    wpList Try.prog ops Q (o :: rest) a w := by
  refine wpList_plain hg fun K' hK' => ?_
  unfold Oper.wp
  simp [execOp, hop, hm, hx, h.look hk, Result.andThen]
  exact hK' _ _ (hK _ rfl)
theorem wp_len (hg : o.guard = none) (m : Operand) (hop : o.op = Op.call { callee := Callee.builtin Builtin.len, args := #[m], argTypes := #[33] }) (b : Nat) (l : Mth) (hm : a.eval m = .map (some b)) (h : Mp w b l)
    (hK : wpList Try.prog ops Q rest (a.put o.dst (.int .i64 l.length)) w) : wpList Try.prog ops Q (o :: rest) a w := by
  refine wpList_plain hg fun K' hK' => ?_
  unfold Oper.wp
  simp [execOp, hop, resolve, invoke, builtin, hm, h.len, Result.andThen]
  exact hK' _ _ hK
theorem wp_store (hg : o.guard = none) (m x v : Operand) (hop : o.op = Op.mapUpdate 33 m x v) (b : Nat) (l : Mth) (hm : a.eval m = .map (some b)) (h : Mp w b l) (hn : l.length < maxLen) (k : Int) (hx : a.eval x = .int .i64 k) (hk : (Lit.int .i64 k).wf = true)
    (t : Th) (hv : a.eval v = .agg #[.int .i64 t.m, .int .i64 t.r.x, .int .i64 t.r.y, .int .i64 t.r.px, .int .i64 t.r.py, .int .i64 t.r.wd, .int .i64 t.r.ht, .int .i64 t.r.ms, .int .i64 t.r.rr]) (hK : ∀ w', Mp w' b (putM k t l) → w.mapTurned w' b → wpList Try.prog ops Q rest (a.put o.dst undef) w') : wpList Try.prog ops Q (o :: rest) a w := by
  refine wpList_plain hg fun K' hK' => ?_
  obtain ⟨w', hrun, r1, r2⟩ := h.store hk t hn
  have hv' : a.eval v = thV t := hv
  unfold Oper.wp
  simp [execOp, hop, hm, hx, hv', hrun, Result.andThen]
  exact hK' _ _ (hK w' r1 r2)
theorem wp_drop (hg : o.guard = none) (m x : Operand) (hop : o.op = Op.call { callee := Callee.builtin Builtin.delete, args := #[m, x], argTypes := #[33, 3] }) (b : Nat) (l : Mth) (hm : a.eval m = .map (some b)) (h : Mp w b l) (k : Int) (hx : a.eval x = .int .i64 k) (hk : (Lit.int .i64 k).wf = true)
    (hK : ∀ w', Mp w' b (delM k l) → w.mapTurned w' b → wpList Try.prog ops Q rest (a.put o.dst (.tuple #[])) w') : wpList Try.prog ops Q (o :: rest) a w := by
  refine wpList_plain hg fun K' hK' => ?_
  obtain ⟨w', hrun, r1, r2⟩ := h.drop hk o.type
  unfold Oper.wp
  simp [execOp, hop, resolve, invoke, builtin, hm, hx, hrun, Result.andThen]
  exact hK' _ _ (hK w' r1 r2)
end
/-- What was there is as it was, while the map in a block of one's own turns. -/
theorem Mp.below_turn {w0 w w' : World} {b : Nat} (hb : Below w0.heap.size w0 w) (h : w.mapTurned w' b) (hle : w0.heap.size ≤ b) : Below w0.heap.size w0 w' := hb.grown h.grown hb.size (fun q hq => by cases hq; exact hle)
theorem turned_size {w w' : World} {b : Nat} (h : w.mapTurned w' b) : w'.heap.size = w.heap.size := by
  obtain ⟨es, clock, es', clock', hb, rfl⟩ := h
  simp [setBlock]
theorem turned_block {w w' : World} {b : Nat} (h : w.mapTurned w' b) {i : Nat} (hi : i ≠ b) : w'.heap[i]? = w.heap[i]? := by
  obtain ⟨es, clock, es', clock', hb, rfl⟩ := h
  exact heap_setBlock_other hb _ hi
end Go.Proofs.Ytckkkdldljhehaa.Mp
