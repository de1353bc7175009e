/- What putIn of package store answers when called over tables of one's own among which the mask stands: the tables with the thing more in the mask's; each list in memory of one's own. -/
import Derived.Test.YtckkkdldljhehaaStInsert
import Derived.Test.YtckkkdldljhehaaStOwn3
import Derived.Deep.RegionLaw
namespace Go.Proofs.Ytckkkdldljhehaa.St
open Go.Proofs.Ytckkkdldljhehaa.Num
open Go.ChangeShapes Go.WideShapes Go.ChangeAt Go.RowKit

/-- append upon a row of one's own: the law at the operation, the new slice written out. -/
theorem append_list {P : Program} {w : World} {ops : Array Oper} {rest : List Oper} {o : Oper} {a : Act} {Q : Exit → Act → World → Prop} (hgd : o.guard = none) (s x : Operand) (t : TypeId)
    (ho : o.op = .call { callee := .builtin .append, args := #[s, x], argTypes := #[t, t] })
    (base : Nat) (e : TypeId) (z : Value) (size bytes : Nat) (ht : P.underlying t = some (.slice e)) (hi : (P.info? e).map (fun i => (i.zero, i.size, i.bytes)) = some (some z, size, bytes))
    (hzs : z.cells.size = size) (hsz : 0 < size)
    (v : Value) (n : Nat) (xs : List Value) (hs : a.eval s = v) (hown : w.ownsRow base e size v n xs)
    (ad : Addr) (m c : Nat) (news : List Value) (hx : a.eval x = .slice (some ad) m c) (hl : news.length = m * size) (hnews : ∀ j u, news[j]? = some u → w.cell? (ad.add j) = some u) (h1 : ∀ u ∈ news, u.oneCell' = true)
    (h63 : n + m ≤ maxLen) (hbytes : (n + m) * bytes ≤ 140737488355328) (hbase : base ≤ w.heap.size)
    (h : ∀ a' c' w', w'.ownsRow base e size (.slice a' (n + m) c') (n + m) (xs ++ news) → w.grownBy w' v.ownBlock → Lies w v (.slice a' (n + m) c') → wpList P ops Q rest (a.put o.dst (.slice a' (n + m) c')) w') :
    wpList P ops Q (o :: rest) a w := by
  obtain ⟨i0, hi', hz0, hz1, hz2⟩ := info_parts hi
  refine wpList_append_own_at w hgd s x t ho base e i0 z size bytes ht hi' hz0 hz1 hz2 hzs hsz v n xs hs hown ad m c news hx hl hnews h1 h63 hbytes hbase ?_
  intro v' w' h2 h3 _ h5
  obtain ⟨a', c', rfl⟩ := own_form h2
  exact h a' c' w' h2 h3 (h5.imp id (fun h => ⟨_, Nat.le_refl _, h⟩))
/-- .. and as one step of a region that draws. -/
theorem append_step {P : Program} {w : World} {ops : Array Oper} {o : Oper} {a : Act} {K : Act → World → Prop} {Q : Exit → Act → World → Prop} {E : Prop} (hgd : o.guard = none) (s x : Operand) (t : TypeId)
    (ho : o.op = .call { callee := .builtin .append, args := #[s, x], argTypes := #[t, t] })
    (base : Nat) (e : TypeId) (z : Value) (size bytes : Nat) (ht : P.underlying t = some (.slice e)) (hi : (P.info? e).map (fun i => (i.zero, i.size, i.bytes)) = some (some z, size, bytes))
    (hzs : z.cells.size = size) (hsz : 0 < size)
    (v : Value) (n : Nat) (xs : List Value) (hs : a.eval s = v) (hown : w.ownsRow base e size v n xs)
    (ad : Addr) (m c : Nat) (news : List Value) (hx : a.eval x = .slice (some ad) m c) (hl : news.length = m * size) (hnews : ∀ j u, news[j]? = some u → w.cell? (ad.add j) = some u) (h1 : ∀ u ∈ news, u.oneCell' = true)
    (h63 : n + m ≤ maxLen) (hbytes : (n + m) * bytes ≤ 140737488355328) (hbase : base ≤ w.heap.size)
    (h : ∀ a' c' w', w'.ownsRow base e size (.slice a' (n + m) c') (n + m) (xs ++ news) → w.grownBy w' v.ownBlock → Lies w v (.slice a' (n + m) c') → K (a.put o.dst (.slice a' (n + m) c')) w') :
    if Region.wanted o (yielded ops a.tmps) = true then Oper.wp P o a w K Q else E := by
  have hw : Region.wanted o (yielded ops a.tmps) = true := by simp [Region.wanted, hgd]
  rw [if_pos hw]
  obtain ⟨i0, hi', hz0, hz1, hz2⟩ := info_parts hi
  obtain ⟨v', w', hr, h2, h3, _, h5⟩ := run_append_own_at (P := P) w base t o.type e i0 z size bytes ht hi' hz0 hz1 hz2 hzs hsz v n xs hown ad m c news hl hnews h1 h63 hbytes hbase
  obtain ⟨a', c', rfl⟩ := own_form h2
  unfold Oper.wp
  simp [execOp, ho, resolve, invoke, builtin, hs, hx, hr, Result.andThen]
  exact h a' c' w' h2 h3 (h5.imp id (fun h => ⟨_, Nat.le_refl _, h⟩))

theorem rowIs8 (w : World) (r : R8) (t : TypeId) : (w.alloc (.cells #[.int .i64 r.x, .int .i64 r.y, .int .i64 r.px, .int .i64 r.py, .int .i64 r.wd, .int .i64 r.ht, .int .i64 r.ms, .int .i64 r.rr] t)).rowIs w.heap.size t 8 (fun i => (rowCells r).getD i undef) :=
  ⟨_, (MapKept.heap_alloc w _).1, rfl, fun i hi => by
    match i, hi with
    | 0, _ => rfl
    | 1, _ => rfl
    | 2, _ => rfl
    | 3, _ => rfl
    | 4, _ => rfl
    | 5, _ => rfl
    | 6, _ => rfl
    | 7, _ => rfl⟩
theorem rowIs_below {w w' : World} {b n : Nat} {t : TypeId} {f : Nat → Value} (h : w.rowIs b t n f) (hb : Below w.heap.size w w') : w'.rowIs b t n f := h.of_block (hb.block b h.lt)
theorem rowIs_grown {w w' : World} {b n : Nat} {t : TypeId} {f : Nat → Value} {row : Option Nat} (h : w.rowIs b t n f) (hg : w.grownBy w' row) (hne : row ≠ some b) : w'.rowIs b t n f := h.of_block (hg.block b h.lt (fun e => hne e.symm))
/-- Boxes of stores stay what they are. -/
def Keep (w w' : World) : Prop := ∀ b n f, w.rowIs b 28 n f → w'.rowIs b 28 n f
theorem Keep.refl (w : World) : Keep w w := fun _ _ _ h => h
theorem Keep.trans {a b c : World} (h : Keep a b) (k : Keep b c) : Keep a c := fun x n f hx => k x n f (h x n f hx)
theorem Keep.below {a w w' : World} (h : Keep a w) (hb : Below w.heap.size w w') : Keep a w' := fun x n f hx => rowIs_below (h x n f hx) hb
theorem Keep.alloc {a w : World} (h : Keep a w) (o : Obj) : Keep a (w.alloc o) := fun x n f hx => (h x n f hx).alloc o
theorem Keep.grown {a w w' : World} {row : Option Nat} (h : Keep a w) (hg : w.grownBy w' row) (hk : ∀ x, row = some x → ∃ c e fz, w.heap[x]? = some (.cells c e fz) ∧ e ≠ 28) : Keep a w' := fun x n f hx => by
  refine rowIs_grown (h x n f hx) hg (fun e => ?_)
  obtain ⟨c, ty, fz, h1, h2⟩ := hk x e
  obtain ⟨c', h3, _⟩ := h x n f hx
  rw [h1] at h3
  cases h3
  exact h2 rfl
theorem Keep.set {a w : World} (h : Keep a w) {g : Nat} (hk : ∃ c e fz, w.heap[g]? = some (.cells c e fz) ∧ e ≠ 28) (j : Nat) (u : Value) : Keep a (w.setCell ⟨g, j, none⟩ u) := fun x n f hx => by
  refine (h x n f hx).setOther (fun e => ?_) u
  obtain ⟨c, ty, fz, h1, h2⟩ := hk
  obtain ⟨c', h3, _⟩ := h x n f hx
  simp only at e
  rw [e, h1] at h3
  cases h3
  exact h2 rfl
/-- A store into a block that was not there. -/
theorem Keep.setNew {a w : World} (h : Keep a w) {g : Nat} (hg : a.heap.size ≤ g) (j : Nat) (u : Value) : Keep a (w.setCell ⟨g, j, none⟩ u) := fun x n f hx =>
  (h x n f hx).setOther (fun e => by have := hx.lt; simp only at e; omega) u
theorem Keep.drew {a w : World} (h : Keep a w) : Keep a w.drew := h
theorem kind_of {w : World} {B size n : Nat} {e : TypeId} {v : Value} {xs : List Value} (h : w.ownsRow B e size v n xs) (he : e ≠ 28) : ∀ g, v.ownBlock = some g → ∃ c e' fz, w.heap[g]? = some (.cells c e' fz) ∧ e' ≠ 28 := by
  intro g hg
  rcases h.2 with ⟨rfl, _⟩ | ⟨g', c, cur, rfl, _, hb, _⟩
  · cases hg
  · simp [Value.ownBlock] at hg
    subst hg
    exact ⟨cur, e, _, hb, he⟩

/-- putIn's three boxes: the store, the row, the answer. -/
structure Boxes (W : World) (b : Nat) (v : Value) (next : Int) (r : R8) : Prop where
  s : W.rowIs b 28 2 (fun i => if i = 0 then v else .int .i64 next)
  r : W.rowIs (b + 1) 30 8 (fun i => (rowCells r).getD i undef)
  res : W.rowIs (b + 2) 28 2 (fun i => if i = 0 then .slice none 0 0 else .int .i64 0)
theorem Boxes.made (w : World) (v : Value) (next : Int) (r : R8) : Boxes (((w.alloc (.cells #[v, .int .i64 next] 28)).alloc (.cells #[.int .i64 r.x, .int .i64 r.y, .int .i64 r.px, .int .i64 r.py, .int .i64 r.wd, .int .i64 r.ht, .int .i64 r.ms, .int .i64 r.rr] 30)).alloc (.cells #[.slice none 0 0, .int .i64 0] 28)) w.heap.size v next r := by
  refine ⟨((rowIs2 w _ _ _).alloc _).alloc _, ?_, ?_⟩
  · have := rowIs8 (w.alloc (.cells #[v, .int .i64 next] 28)) r 30
    rw [World.size_alloc] at this
    exact this.alloc _
  · have := rowIs2 ((w.alloc (.cells #[v, .int .i64 next] 28)).alloc (.cells #[.int .i64 r.x, .int .i64 r.y, .int .i64 r.px, .int .i64 r.py, .int .i64 r.wd, .int .i64 r.ht, .int .i64 r.ms, .int .i64 r.rr] 30)) (.slice none 0 0) (.int .i64 0) 28
    rw [World.size_alloc, World.size_alloc] at this
    exact this
theorem Boxes.below {W W' : World} {b : Nat} {v : Value} {next : Int} {r : R8} (h : Boxes W b v next r) (hb : Below W.heap.size W W') : Boxes W' b v next r := ⟨rowIs_below h.s hb, rowIs_below h.r hb, rowIs_below h.res hb⟩
theorem Boxes.grown {W W' : World} {b : Nat} {v : Value} {next : Int} {r : R8} {row : Option Nat} (h : Boxes W b v next r) (hg : W.grownBy W' row) (hne : ∀ x, row = some x → x < b ∨ b + 2 < x) : Boxes W' b v next r :=
  ⟨rowIs_grown h.s hg (fun e => by have := hne _ e; omega), rowIs_grown h.r hg (fun e => by have := hne _ e; omega), rowIs_grown h.res hg (fun e => by have := hne _ e; omega)⟩
theorem Boxes.set {W : World} {b : Nat} {v : Value} {next : Int} {r : R8} (h : Boxes W b v next r) {x : Nat} (hne : x < b ∨ b + 2 < x) (j : Nat) (u : Value) : Boxes (W.setCell ⟨x, j, none⟩ u) b v next r :=
  ⟨h.s.setOther (by simp; omega) u, h.r.setOther (by simp; omega) u, h.res.setOther (by simp; omega) u⟩
theorem Boxes.setS {W : World} {b : Nat} {v : Value} {next : Int} {r : R8} (h : Boxes W b v next r) (u : Value) : Boxes (W.setCell ⟨b, 0, none⟩ u) b u next r :=
  ⟨(h.s.set 0 u).congr (fun i hi => by match i, hi with | 0, _ => rfl | 1, _ => rfl), h.r.setOther (by simp) u, h.res.setOther (by simp) u⟩
theorem Boxes.cells {W : World} {b : Nat} {v : Value} {next : Int} {r : R8} (h : Boxes W b v next r) : W.cell? ⟨b, 0, none⟩ = some v ∧ W.cell? ⟨b, 1, none⟩ = some (.int .i64 next) ∧ W.frozen? ⟨b, 0, none⟩ = false ∧
    W.cell? ⟨b + 2, 0, none⟩ = some (.slice none 0 0) ∧ W.cell? ⟨b + 2, 1, none⟩ = some (.int .i64 0) ∧ W.frozen? ⟨b + 2, 0, none⟩ = false ∧ W.frozen? ⟨b + 2, 1, none⟩ = false :=
  ⟨h.s.cell (i := 0) (by omega), h.s.cell (i := 1) (by omega), h.s.frozen 0, h.res.cell (i := 0) (by omega), h.res.cell (i := 1) (by omega), h.res.frozen 0, h.res.frozen 1⟩
theorem Boxes.row {W : World} {b : Nat} {v : Value} {next : Int} {r : R8} (h : Boxes W b v next r) : W.cell? ⟨b + 1, 0, none⟩ = some (.int .i64 r.x) ∧ W.cell? ⟨b + 1, 1, none⟩ = some (.int .i64 r.y) ∧ W.cell? ⟨b + 1, 2, none⟩ = some (.int .i64 r.px) ∧ W.cell? ⟨b + 1, 3, none⟩ = some (.int .i64 r.py) ∧
    W.cell? ⟨b + 1, 4, none⟩ = some (.int .i64 r.wd) ∧ W.cell? ⟨b + 1, 5, none⟩ = some (.int .i64 r.ht) ∧ W.cell? ⟨b + 1, 6, none⟩ = some (.int .i64 r.ms) ∧ W.cell? ⟨b + 1, 7, none⟩ = some (.int .i64 r.rr) :=
  ⟨h.r.cell (i := 0) (by omega), h.r.cell (i := 1) (by omega), h.r.cell (i := 2) (by omega), h.r.cell (i := 3) (by omega), h.r.cell (i := 4) (by omega), h.r.cell (i := 5) (by omega), h.r.cell (i := 6) (by omega), h.r.cell (i := 7) (by omega)⟩
end Go.Proofs.Ytckkkdldljhehaa.St
