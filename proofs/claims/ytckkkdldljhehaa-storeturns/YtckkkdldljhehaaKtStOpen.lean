/- A store that came in as an argument, opened: it is a store in memory, its sizes within the form's reach. A row that came in, opened. No walk. -/
import Derived.Test.YtckkkdldljhehaaPkC
import Derived.Deep.Slices
import Derived.Deep.Strs
import Derived.SizedLaws
import Derived.Lib.SmallJoins
namespace Go.Proofs.Ytckkkdldljhehaa.St
open Go.Proofs.Ytckkkdldljhehaa.Num
open Go.ChangeShapes Go.WideShapes Go.ChangeAt Go.RowKit Go.Deep Go.Joins

theorem cells28 : Try.prog.cellsOf 28 = 2 := by kernel_rfl
theorem cells3 : Try.prog.cellsOf 3 = 1 := by kernel_rfl
theorem cells66 : Try.prog.cellsOf 66 = 3 := by kernel_rfl
theorem cells47 : Try.prog.cellsOf 47 = 1 := by kernel_rfl
theorem cells64 : Try.prog.cellsOf 64 = 1 := by kernel_rfl
theorem cells30 : Try.prog.cellsOf 30 = 8 := by kernel_rfl
theorem bytes3 : Try.prog.bytesOf 3 = 8 := by kernel_rfl
theorem bytes30 : Try.prog.bytesOf 30 = 64 := by kernel_rfl
theorem bytes66 : Try.prog.bytesOf 66 = 56 := by kernel_rfl

section
variable {H : Type} {enc : TypeId × Value → H} {W : World}

theorem addr_plain {a : Addr} {v : Value} (h : W.cell? (a.add 0) = some v) : ∃ b off, a = ⟨b, off, none⟩ ∧ b < W.heap.size := by
  obtain ⟨b, off, spot⟩ := a
  have hspot : spot = none := by simpa [Addr.add] using World.cell?_spot h
  subst hspot
  exact ⟨b, off, rfl, by simpa [Addr.add] using World.block_lt_of_cell? _ _ h⟩

theorem open_ids {fuel : Nat} {cs : List Value} {x : DataW H × List MemPlace} (h : DataW.trod enc Try.prog W 0 (fun _ => true) true fuel 47 cs = some x) (hw : ∀ q ∈ x.1.weights Try.prog 47, q ≤ reachBytes) :
    ∃ a n cap f, cs = [.slice a n cap] ∧ IdsIn W a n f ∧ n * 8 ≤ 140737488355328 ∧ (a = none → n = 0) ∧ ∀ j, j < n → (Lit.int .i64 (f j)).wf = true := by
  rcases open_slice1 Try.underlying47 cells3 h with ⟨rfl, _⟩ | ⟨a, len, cap, m, n, V, D, Pl, rfl, _, hl, _, hm, rfl, hV⟩
  · exact ⟨none, 0, 0, fun _ => 0, rfl, fun h => absurd h (Nat.lt_irrefl _), by omega, fun _ => rfl, fun j hj => absurd hj (Nat.not_lt_zero _)⟩
  · simp only [if_true] at hm
    subst hm
    have hb := hw ((len + (m - len)) * 8) (by simp [DataW.weights, Try.underlying47, bytes3])
    have hr : reachBytes ≤ 140737488355328 := by decide
    obtain ⟨z, hz⟩ := choose_lt (α := Int) (n := m) (p := fun i q => V i = .int .i64 q ∧ (Lit.int .i64 q).wf = true) (fun i hi => by
      obtain ⟨q, e, _, hq⟩ := DataW.trod_int Try.underlying3 (hV i hi).2
      exact ⟨q, by simpa using e, hq⟩)
    refine ⟨some a, len, m, z, rfl, fun hp => ?_, by omega, (fun e => by cases e), fun j hj => (hz j (by omega)).2⟩
    obtain ⟨b, off, rfl, hbl⟩ := addr_plain (hV 0 (by omega)).1
    refine ⟨b, off, rfl, hbl, fun i hi => ?_⟩
    have := (hV i (by omega)).1
    rw [Addr.add_lit, (hz i (by omega)).1] at this
    exact this

set_option maxRecDepth 100000 in
theorem row_fields {fuel : Nat} {cs : List Value} {x : DataW H × List MemPlace} (h : DataW.trod enc Try.prog W 0 (fun _ => true) true fuel 30 cs = some x) : ∃ r : R8, cs = rowCells r := by
  obtain ⟨xs, n, _, rfl, hl, hlen, hf⟩ := DataW.trod_struct Try.underlying30 h
  rw [cells30] at hl
  match cs, hl with
  | [c0, c1, c2, c3, c4, c5, c6, c7], _ =>
    match xs, hlen with
    | [y0, y1, y2, y3, y4, y5, y6, y7], _ =>
      have k : ∀ {c : Value} {y : DataW H × List MemPlace}, DataW.trod enc Try.prog W 0 (fun _ => true) true n 3 [c] = some y → ∃ q, c = .int .i64 q := fun hq => by
        obtain ⟨q, e, _⟩ := DataW.trod_int Try.underlying3 hq
        exact ⟨q, by simpa using e⟩
      have g0 := hf 0 _ rfl
      have g1 := hf 1 _ rfl
      have g2 := hf 2 _ rfl
      have g3 := hf 3 _ rfl
      have g4 := hf 4 _ rfl
      have g5 := hf 5 _ rfl
      have g6 := hf 6 _ rfl
      have g7 := hf 7 _ rfl
      simp [cells3] at g0 g1 g2 g3 g4 g5 g6 g7
      obtain ⟨q0, rfl⟩ := k g0
      obtain ⟨q1, rfl⟩ := k g1
      obtain ⟨q2, rfl⟩ := k g2
      obtain ⟨q3, rfl⟩ := k g3
      obtain ⟨q4, rfl⟩ := k g4
      obtain ⟨q5, rfl⟩ := k g5
      obtain ⟨q6, rfl⟩ := k g6
      obtain ⟨q7, rfl⟩ := k g7
      exact ⟨⟨q0, q1, q2, q3, q4, q5, q6, q7⟩, rfl⟩

theorem open_rows {fuel : Nat} {cs : List Value} {x : DataW H × List MemPlace} (h : DataW.trod enc Try.prog W 0 (fun _ => true) true fuel 64 cs = some x) (hw : ∀ q ∈ x.1.weights Try.prog 64, q ≤ reachBytes) :
    ∃ a n cap r, cs = [.slice a n cap] ∧ RowsIn W a n r ∧ n * 64 ≤ 140737488355328 ∧ (a = none → n = 0) := by
  rcases open_slice Try.underlying64 h with ⟨rfl, _⟩ | ⟨a, len, cap, m, n, D, Pl, rfl, _, hl, _, hm, rfl, hV⟩
  · exact ⟨none, 0, 0, fun _ => zeroR, rfl, fun h => absurd h (Nat.lt_irrefl _), by omega, fun _ => rfl⟩
  · simp only [if_true] at hm
    subst hm
    have hb := hw ((len + (m - len)) * 64) (by simp [DataW.weights, Try.underlying64, bytes30])
    have hr : reachBytes ≤ 140737488355328 := by decide
    rw [cells30] at hV
    have hrow : ∀ i, i < m → ∃ r : R8, ∀ s, s < 8 → W.cell? ((a.add (i * 8)).add s) = (rowCells r)[s]? := fun i hi => by
      obtain ⟨cs', h1, h2⟩ := hV i hi
      obtain ⟨r, rfl⟩ := row_fields h2
      exact ⟨r, fun s hs => (World.cells?_some h1).2.2 s hs⟩
    obtain ⟨r, hr'⟩ : ∃ f : Nat → R8, ∀ i, i < m → ∀ s, s < 8 → W.cell? ((a.add (i * 8)).add s) = (rowCells (f i))[s]? := by
      classical
      refine ⟨fun i => if hi : i < m then Classical.choose (hrow i hi) else zeroR, fun i hi => ?_⟩
      simp only [dif_pos hi]
      exact Classical.choose_spec (hrow i hi)
    refine ⟨some a, len, m, r, rfl, fun hp => ?_, by omega, fun e => by cases e⟩
    have h00 := hr' 0 (by omega) 0 (by omega)
    rw [Nat.zero_mul, Deep.add_add] at h00
    obtain ⟨b, off, rfl, hbl⟩ := addr_plain (v := .int .i64 (r 0).x) (by simpa [rowCells] using h00)
    refine ⟨b, off, rfl, hbl, fun i hi => ?_⟩
    have key : ∀ s, s < 8 → W.cell? ⟨b, off + i * 8 + s, none⟩ = (rowCells (r i))[s]? := fun s hs => by
      have := hr' i (by omega) s hs
      rw [Deep.add_add, Addr.add_lit, show off + (i * 8 + s) = off + i * 8 + s by omega] at this
      exact this
    exact ⟨key 0 (by omega), key 1 (by omega), key 2 (by omega), key 3 (by omega), key 4 (by omega), key 5 (by omega), key 6 (by omega), key 7 (by omega)⟩

theorem weightsAll_mem {P : Program} {e : TypeId} {d : DataW H} : ∀ {ds : List (DataW H)}, d ∈ ds → ∀ q ∈ d.weights P e, q ∈ DataW.weightsAll P e ds
  | x :: ds, hm, q, hq => by
    rcases List.mem_cons.1 hm with rfl | hm
    · simp only [DataW.weightsAll, List.mem_append]; exact Or.inl hq
    · simp only [DataW.weightsAll, List.mem_append]; exact Or.inr (weightsAll_mem hm q hq)

set_option maxRecDepth 100000 in
theorem open_tab {fuel : Nat} {cs : List Value} {x : DataW H × List MemPlace} (h : DataW.trod enc Try.prog W 0 (fun _ => true) true fuel 66 cs = some x) (hw : ∀ q ∈ x.1.weights Try.prog 66, q ≤ reachBytes) :
    ∃ (T : TabV) (I : Nat → Int) (R : Nat → R8), cs = [.int .i64 T.mask, .slice T.ia T.il T.ic, .slice T.ra T.rl T.rc] ∧ IdsIn W T.ia T.il I ∧ RowsIn W T.ra T.rl R ∧
      (T.il * 8 ≤ 140737488355328 ∧ T.rl * 64 ≤ 140737488355328 ∧ (T.ia = none → T.il = 0) ∧ (T.ra = none → T.rl = 0)) ∧ ∀ j, j < T.il → (Lit.int .i64 (I j)).wf = true := by
  obtain ⟨y0, y1, y2, n, rfl, hl, h0, h1, h2⟩ := trod_struct3 Try.underlying66 h
  rw [cells66] at hl
  match cs, hl with
  | [c0, c1, c2], _ =>
    simp [cells3, cells47, cells64] at h0 h1 h2
    obtain ⟨m, e0, _, _⟩ := DataW.trod_int Try.underlying3 h0
    have w1 : ∀ q ∈ y1.1.weights Try.prog 47, q ≤ reachBytes := fun q hq => hw q (by simp [DataW.weights, Try.underlying66, DataW.weightsEach]; exact Or.inr (Or.inl hq))
    have w2 : ∀ q ∈ y2.1.weights Try.prog 64, q ≤ reachBytes := fun q hq => hw q (by simp [DataW.weights, Try.underlying66, DataW.weightsEach]; exact Or.inr (Or.inr hq))
    obtain ⟨a, il, ic, f, e1, hi, hi1, hi2, hi3⟩ := open_ids h1 w1
    obtain ⟨b, rl, rc, g, e2, hr, hr1, hr2⟩ := open_rows h2 w2
    simp at e0 e1 e2
    subst e0 e1 e2
    exact ⟨⟨m, a, il, ic, b, rl, rc⟩, f, g, rfl, hi, hr, ⟨hi1, hr1, hi2, hr2⟩, hi3⟩

theorem open_tabs {fuel : Nat} {cs : List Value} {x : DataW H × List MemPlace} (h : DataW.trod enc Try.prog W 0 (fun _ => true) true fuel 26 cs = some x) (hw : ∀ q ∈ x.1.weights Try.prog 26, q ≤ reachBytes) :
    ∃ a n cap T I R, cs = [.slice a n cap] ∧ StoreIn W a n T I R := by
  rcases open_slice Try.underlying26 h with ⟨rfl, _⟩ | ⟨a, len, cap, m, n, D, Pl, rfl, _, hl, _, hm, rfl, hV⟩
  · exact ⟨none, 0, 0, fun _ => ⟨0, none, 0, 0, none, 0, 0⟩, fun _ _ => 0, fun _ _ => zeroR, rfl, fun h => absurd h (Nat.lt_irrefl _), fun i hi => absurd hi (Nat.not_lt_zero _), fun i hi => absurd hi (Nat.not_lt_zero _), ⟨by omega, fun _ => rfl, fun i hi => absurd hi (Nat.not_lt_zero _)⟩, fun i hi => absurd hi (Nat.not_lt_zero _)⟩
  · simp only [if_true] at hm
    subst hm
    have hb := hw ((len + (m - len)) * 56) (by simp [DataW.weights, Try.underlying26, bytes66])
    have hr : reachBytes ≤ 140737488355328 := by decide
    rw [cells66] at hV
    have hD : ∀ i, i < len → ∀ q ∈ (D i).weights Try.prog 66, q ≤ reachBytes := fun i hi q hq => hw q (by
      simp only [DataW.weights, Try.underlying26, List.mem_cons, List.mem_append]
      exact Or.inr (Or.inl (weightsAll_mem (List.mem_map.2 ⟨i, List.mem_range.2 hi, rfl⟩) q hq)))
    have hone : ∀ i, i < len → ∃ z : TabV × (Nat → Int) × (Nat → R8), (∀ s, s < 3 → W.cell? ((a.add (i * 3)).add s) = [Value.int .i64 z.1.mask, .slice z.1.ia z.1.il z.1.ic, .slice z.1.ra z.1.rl z.1.rc][s]?) ∧ IdsIn W z.1.ia z.1.il z.2.1 ∧ RowsIn W z.1.ra z.1.rl z.2.2 ∧
        (z.1.il * 8 ≤ 140737488355328 ∧ z.1.rl * 64 ≤ 140737488355328 ∧ (z.1.ia = none → z.1.il = 0) ∧ (z.1.ra = none → z.1.rl = 0)) ∧ ∀ j, j < z.1.il → (Lit.int .i64 (z.2.1 j)).wf = true := fun i hi => by
      obtain ⟨cs', h1, h2⟩ := hV i (by omega)
      obtain ⟨T, I, R, rfl, hi1, hr1, hf, hwf⟩ := open_tab h2 (hD i hi)
      exact ⟨(T, I, R), fun s hs => (World.cells?_some h1).2.2 s hs, hi1, hr1, hf, hwf⟩
    obtain ⟨f, hf⟩ : ∃ f : Nat → TabV × (Nat → Int) × (Nat → R8), ∀ i, i < len → (∀ s, s < 3 → W.cell? ((a.add (i * 3)).add s) = [Value.int .i64 (f i).1.mask, .slice (f i).1.ia (f i).1.il (f i).1.ic, .slice (f i).1.ra (f i).1.rl (f i).1.rc][s]?) ∧ IdsIn W (f i).1.ia (f i).1.il (f i).2.1 ∧ RowsIn W (f i).1.ra (f i).1.rl (f i).2.2 ∧
        ((f i).1.il * 8 ≤ 140737488355328 ∧ (f i).1.rl * 64 ≤ 140737488355328 ∧ ((f i).1.ia = none → (f i).1.il = 0) ∧ ((f i).1.ra = none → (f i).1.rl = 0)) ∧ ∀ j, j < (f i).1.il → (Lit.int .i64 ((f i).2.1 j)).wf = true := by
      classical
      refine ⟨fun i => if hi : i < len then Classical.choose (hone i hi) else (⟨0, none, 0, 0, none, 0, 0⟩, fun _ => 0, fun _ => zeroR), fun i hi => ?_⟩
      simp only [dif_pos hi]
      exact Classical.choose_spec (hone i hi)
    refine ⟨some a, len, m, fun i => (f i).1, fun i => (f i).2.1, fun i => (f i).2.2, rfl, fun hp => ?_, fun i hi => (hf i hi).2.1, fun i hi => (hf i hi).2.2.1, ⟨by omega, (fun e => by cases e), fun i hi => (hf i hi).2.2.2.1⟩, fun i hi => (hf i hi).2.2.2.2⟩
    have h00 := (hf 0 hp).1 0 (by omega)
    rw [Nat.zero_mul, Deep.add_add] at h00
    obtain ⟨b, off, rfl, hbl⟩ := addr_plain (v := .int .i64 (f 0).1.mask) (by simpa using h00)
    refine ⟨b, off, rfl, hbl, fun i hi => ?_⟩
    have key : ∀ s, s < 3 → W.cell? ⟨b, off + i * 3 + s, none⟩ = [Value.int .i64 (f i).1.mask, .slice (f i).1.ia (f i).1.il (f i).1.ic, .slice (f i).1.ra (f i).1.rl (f i).1.rc][s]? := fun s hs => by
      have := (hf i hi).1 s hs
      rw [Deep.add_add, Addr.add_lit, show off + (i * 3 + s) = off + i * 3 + s by omega] at this
      exact this
    exact ⟨key 0 (by omega), key 1 (by omega), key 2 (by omega)⟩

set_option maxRecDepth 100000 in
/-- A store that came in. -/
theorem open_store {r : Reach} {b0 : Nat} {v : Value} {d : DataW H} {p : List MemPlace} (hv : Value.okWide Try.prog W r b0 28 v) (h : DataW.Trod enc Try.prog W 0 (fun _ => true) true 28 v d p) (hw : ∀ q ∈ d.weights Try.prog 28, q ≤ reachBytes) :
    ∃ a n cap next T I R, v = .agg #[.slice a n cap, .int .i64 next] ∧ StoreIn W a n T I R ∧ (Lit.int .i64 next).wf = true := by
  obtain ⟨v0, v1, y0, y1, n, rfl, rfl, rfl, h0, h1⟩ := open_agg2 Try.underlying28 (by kernel_rfl) cells28 hv h
  obtain ⟨m, e1, _, hm⟩ := DataW.trod_int Try.underlying3 h1
  have w0 : ∀ q ∈ y0.1.weights Try.prog 26, q ≤ reachBytes := fun q hq => hw q (by simp [DataW.weights, Try.underlying28, DataW.weightsEach]; exact Or.inl hq)
  obtain ⟨a, k, cap, T, I, R, e0, hin⟩ := open_tabs h0 w0
  simp at e0 e1
  subst e0 e1
  exact ⟨a, k, cap, m, T, I, R, rfl, hin, hm⟩
set_option maxRecDepth 100000 in
/-- A row that came in. -/
theorem open_row {r : Reach} {b0 : Nat} {v : Value} {d : DataW H} {p : List MemPlace} (hv : Value.okWide Try.prog W r b0 30 v) (h : DataW.Trod enc Try.prog W 0 (fun _ => true) true 30 v d p) :
    ∃ x : R8, v = .agg #[.int .i64 x.x, .int .i64 x.y, .int .i64 x.px, .int .i64 x.py, .int .i64 x.wd, .int .i64 x.ht, .int .i64 x.ms, .int .i64 x.rr] := by
  obtain ⟨cs, rfl, _⟩ := okWide_struct Try.underlying30 hv
  obtain ⟨fuel, hf⟩ := h
  obtain ⟨x, hx⟩ := row_fields hf
  refine ⟨x, ?_⟩
  have : cs.toList = rowCells x := by simpa [Value.cells] using hx
  rw [← Array.toArray_toList (xs := cs), this]
  rfl
end
end Go.Proofs.Ytckkkdldljhehaa.St
