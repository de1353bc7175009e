/- Acts that lie in memory, and acts that came in as an argument, opened. No walk. -/
import Derived.Test.YtckkkdldljhehacGreatKtGmPl
import Derived.Test.YtckkkdldljhehacGreatKtGmOpen
namespace Go.Proofs.YtckkkdldljhehacGreat.Gm
open Go.Proofs.YtckkkdldljhehacGreat.Num Go.Proofs.YtckkkdldljhehacGreat.St Go.Proofs.YtckkkdldljhehacGreat.Wd
open Go.ChangeShapes Go.WideShapes Go.ChangeAt Go.RowKit Go.Deep Go.Joins

def actCells (x : Ac) : List Value := [.int .i64 x.kind, .int .i64 x.id, .int .i64 x.n, .int .i64 x.mask, .int .i64 x.row.x, .int .i64 x.row.y, .int .i64 x.row.px, .int .i64 x.row.py, .int .i64 x.row.wd, .int .i64 x.row.ht, .int .i64 x.row.ms, .int .i64 x.row.rr, .int .i64 x.box.id, .int .i64 x.box.x1, .int .i64 x.box.y1, .int .i64 x.box.x2, .int .i64 x.box.y2]
/-- Acts in memory. -/
def ActL (w : World) (a : Option Addr) (l : List Ac) : Prop :=
  0 < l.length → ∃ b off, a = some ⟨b, off, none⟩ ∧ b < w.heap.size ∧ ∀ i x, l[i]? = some x → ∀ j u, (actCells x)[j]? = some u → w.cell? ⟨b, off + i * 17 + j, none⟩ = some u
theorem ActL.below {w w' : World} {a : Option Addr} {l : List Ac} (h : ActL w a l) (hb : Below w.heap.size w w') : ActL w' a l := fun hl => by
  obtain ⟨b, off, e, h1, h2⟩ := h hl
  exact ⟨b, off, e, Nat.lt_of_lt_of_le h1 hb.size, fun i x hi j u hj => (hb.cell (p := ⟨b, off + i * 17 + j, none⟩) h1).trans (h2 i x hi j u hj)⟩
theorem act_at {w : World} {b off i : Nat} {x : Ac} (h : ∀ j u, (actCells x)[j]? = some u → w.cell? ⟨b, off + i * 17 + j, none⟩ = some u) :
    w.cell? ⟨b, off + i * 17, none⟩ = some (.int .i64 x.kind) ∧ w.cell? ⟨b, off + i * 17 + 1, none⟩ = some (.int .i64 x.id) ∧ w.cell? ⟨b, off + i * 17 + 2, none⟩ = some (.int .i64 x.n) ∧ w.cell? ⟨b, off + i * 17 + 3, none⟩ = some (.int .i64 x.mask) ∧
    w.cell? ⟨b, off + i * 17 + 4, none⟩ = some (.int .i64 x.row.x) ∧ w.cell? ⟨b, off + i * 17 + 5, none⟩ = some (.int .i64 x.row.y) ∧ w.cell? ⟨b, off + i * 17 + 6, none⟩ = some (.int .i64 x.row.px) ∧ w.cell? ⟨b, off + i * 17 + 7, none⟩ = some (.int .i64 x.row.py) ∧
    w.cell? ⟨b, off + i * 17 + 8, none⟩ = some (.int .i64 x.row.wd) ∧ w.cell? ⟨b, off + i * 17 + 9, none⟩ = some (.int .i64 x.row.ht) ∧ w.cell? ⟨b, off + i * 17 + 10, none⟩ = some (.int .i64 x.row.ms) ∧ w.cell? ⟨b, off + i * 17 + 11, none⟩ = some (.int .i64 x.row.rr) ∧
    w.cell? ⟨b, off + i * 17 + 12, none⟩ = some (.int .i64 x.box.id) ∧ w.cell? ⟨b, off + i * 17 + 13, none⟩ = some (.int .i64 x.box.x1) ∧ w.cell? ⟨b, off + i * 17 + 14, none⟩ = some (.int .i64 x.box.y1) ∧ w.cell? ⟨b, off + i * 17 + 15, none⟩ = some (.int .i64 x.box.x2) ∧ w.cell? ⟨b, off + i * 17 + 16, none⟩ = some (.int .i64 x.box.y2) :=
  ⟨h 0 _ rfl, h 1 _ rfl, h 2 _ rfl, h 3 _ rfl, h 4 _ rfl, h 5 _ rfl, h 6 _ rfl, h 7 _ rfl, h 8 _ rfl, h 9 _ rfl, h 10 _ rfl, h 11 _ rfl, h 12 _ rfl, h 13 _ rfl, h 14 _ rfl, h 15 _ rfl, h 16 _ rfl⟩
theorem bytesA : Tryz.prog.bytesOf 38 = 136 := by kernel_rfl
section
variable {H : Type} {enc : TypeId × Value → H} {W : World}
theorem addr_plainA {a : Addr} {v : Value} (h : W.cell? (a.add 0) = some v) : ∃ b off, a = ⟨b, off, none⟩ ∧ b < W.heap.size := by
  obtain ⟨b, off, spot⟩ := a
  have hspot : spot = none := by simpa [Addr.add] using World.cell?_spot h
  subst hspot
  exact ⟨b, off, rfl, by simpa [Addr.add] using World.block_lt_of_cell? _ _ h⟩
set_option maxRecDepth 100000 in
/-- Acts that came in. -/
theorem open_acts {r : Reach} {b0 : Nat} {v : Value} {d : DataW H} {p : List MemPlace} (hv : Value.okWide Tryz.prog W r b0 22 v) (h : DataW.Trod enc Tryz.prog W 0 (fun _ => true) true 22 v d p) (hw : ∀ q ∈ d.weights Tryz.prog 22, q ≤ reachBytes) :
    ∃ a n cap l, v = .slice a n cap ∧ ActL W a l ∧ n = l.length ∧ n * 136 ≤ 140737488355328 := by
  obtain ⟨a0, n0, cap0, rfl⟩ := okWide_slice Tryz.underlying22 hv
  obtain ⟨fuel, hf⟩ := h
  rcases open_slice Tryz.underlying22 hf with ⟨e, _⟩ | ⟨a, len, cap, m, n, D, Pl, e, _, hl, _, hm, e2, hV⟩
  · simp [Value.cells] at e
    obtain ⟨rfl, rfl, rfl⟩ := e
    exact ⟨none, 0, 0, [], rfl, fun h => absurd h (Nat.lt_irrefl _), rfl, by omega⟩
  · simp [Value.cells] at e
    obtain ⟨rfl, rfl, rfl⟩ := e
    simp only [if_true] at hm
    subst hm
    have e3 : d = .slice ((List.range n0).map D) ((List.range (m - n0)).map fun j => D (n0 + j)) := congrArg Prod.fst e2
    have hb := hw ((n0 + (m - n0)) * 136) (by rw [e3]; simp [DataW.weights, Tryz.underlying22, bytesA])
    have hr : reachBytes ≤ 140737488355328 := by decide
    rw [cellsA] at hV
    have hrow : ∀ i, i < m → ∃ r : Ac, ∀ s, s < 17 → W.cell? ((a.add (i * 17)).add s) = (actCells r)[s]? := fun i hi => by
      obtain ⟨cs', h1, h2⟩ := hV i hi
      obtain ⟨q0, q1, q2, q3, r0, r1, r2, r3, r4, r5, r6, r7, b0, b1, b2, b3, b4, rfl⟩ := act_fields h2
      exact ⟨⟨q0, q1, q2, q3, ⟨r0, r1, r2, r3, r4, r5, r6, r7⟩, ⟨b0, b1, b2, b3, b4⟩⟩, fun s hs => (World.cells?_some h1).2.2 s hs⟩
    obtain ⟨f, hf'⟩ : ∃ f : Nat → Ac, ∀ i, i < m → ∀ s, s < 17 → W.cell? ((a.add (i * 17)).add s) = (actCells (f i))[s]? := by
      classical
      refine ⟨fun i => if hi : i < m then Classical.choose (hrow i hi) else ⟨0, 0, 0, 0, ⟨0, 0, 0, 0, 0, 0, 0, 0⟩, ⟨0, 0, 0, 0, 0⟩⟩, fun i hi => ?_⟩
      simp only [dif_pos hi]
      exact Classical.choose_spec (hrow i hi)
    refine ⟨some a, n0, m, (List.range n0).map f, rfl, fun hp => ?_, by simp, by omega⟩
    have hp' : 0 < n0 := by simpa using hp
    have h00 := hf' 0 (by omega) 0 (by omega)
    rw [Nat.zero_mul, Deep.add_add] at h00
    obtain ⟨b, off, rfl, hbl⟩ := addr_plainA (v := .int .i64 (f 0).kind) (by simpa [actCells] using h00)
    refine ⟨b, off, rfl, hbl, fun i x hi j u hj => ?_⟩
    have hin : i < n0 := by have := (List.getElem?_eq_some_iff.1 hi).1; simpa using this
    have hx : f i = x := by simpa [hin] using hi
    subst hx
    have hj17 : j < 17 := by have := (List.getElem?_eq_some_iff.1 hj).1; simpa [actCells] using this
    have := hf' i (by omega) j hj17
    rw [Deep.add_add, Addr.add_lit, show off + (i * 17 + j) = off + i * 17 + j by omega, hj] at this
    exact this
end
end Go.Proofs.YtckkkdldljhehacGreat.Gm
