/- A world that came in as an argument, opened: its store is one in memory, its sizes within the form's reach. No walk. -/
import Derived.Test.YtckkkdldljhehabGreatStOpen
namespace Go.Proofs.YtckkkdldljhehabGreat.Wd
open Go.Proofs.YtckkkdldljhehabGreat.Num Go.Proofs.YtckkkdldljhehabGreat.St
open Go.ChangeShapes Go.WideShapes Go.ChangeAt Go.RowKit Go.Deep Go.Joins

theorem cellsW : Tryz.prog.cellsOf 26 = 5 := by kernel_rfl
section
variable {H : Type} {enc : TypeId × Value → H} {W : World}

set_option maxRecDepth 100000 in
theorem store_fields {fuel : Nat} {cs : List Value} {x : DataW H × List MemPlace} (h : DataW.trod enc Tryz.prog W 0 (fun _ => true) true fuel 24 cs = some x) (hw : ∀ q ∈ x.1.weights Tryz.prog 24, q ≤ reachBytes) :
    ∃ a n cap next T I R, cs = [.slice a n cap, .int .i64 next] ∧ StoreIn W a n T I R ∧ (Lit.int .i64 next).wf = true := by
  obtain ⟨xs, n, _, rfl, hl, hlen, hf⟩ := DataW.trod_struct Tryz.underlying24 h
  rw [cells28] at hl
  match cs, hl with
  | [c0, c1], _ =>
    match xs, hlen with
    | [y0, y1], _ =>
      have g0 := hf 0 _ rfl
      have g1 := hf 1 _ rfl
      simp [cells3, show Tryz.prog.cellsOf 22 = 1 from by kernel_rfl] at g0 g1
      obtain ⟨m, e1, _, hm⟩ := DataW.trod_int Tryz.underlying3 g1
      have w0 : ∀ q ∈ y0.1.weights Tryz.prog 22, q ≤ reachBytes := fun q hq => hw q (by simp [DataW.weights, Tryz.underlying24, DataW.weightsEach]; exact Or.inl hq)
      obtain ⟨a, k, cap, T, I, R, e0, hin⟩ := open_tabs g0 w0
      simp at e0 e1
      subst e0 e1
      exact ⟨a, k, cap, m, T, I, R, rfl, hin, hm⟩
set_option maxRecDepth 100000 in
theorem world_fields {fuel : Nat} {cs : List Value} {x : DataW H × List MemPlace} (h : DataW.trod enc Tryz.prog W 0 (fun _ => true) true fuel 26 cs = some x) (hw : ∀ q ∈ x.1.weights Tryz.prog 26, q ≤ reachBytes) :
    ∃ a n cap next fall wide high T I R, cs = [.slice a n cap, .int .i64 next, .int .i64 fall, .int .i64 wide, .int .i64 high] ∧ StoreIn W a n T I R ∧ (Lit.int .i64 next).wf = true ∧ (Lit.int .i64 fall).wf = true ∧ (Lit.int .i64 wide).wf = true ∧ (Lit.int .i64 high).wf = true := by
  obtain ⟨xs, n, _, rfl, hl, hlen, hf⟩ := DataW.trod_struct Tryz.underlying26 h
  rw [cellsW] at hl
  match cs, hl with
  | [c0, c1, c2, c3, c4], _ =>
    match xs, hlen with
    | [y0, y1, y2, y3], _ =>
      have g0 := hf 0 _ rfl
      have g1 := hf 1 _ rfl
      have g2 := hf 2 _ rfl
      have g3 := hf 3 _ rfl
      simp [cells3, cells28] at g0 g1 g2 g3
      have w0 : ∀ q ∈ y0.1.weights Tryz.prog 24, q ≤ reachBytes := fun q hq => hw q (by simp [DataW.weights, Tryz.underlying26, DataW.weightsEach]; exact Or.inl hq)
      obtain ⟨a, k, cap, m, T, I, R, e0, hin, hm⟩ := store_fields g0 w0
      obtain ⟨m1, e1, _, hm1⟩ := DataW.trod_int Tryz.underlying3 g1
      obtain ⟨m2, e2, _, hm2⟩ := DataW.trod_int Tryz.underlying3 g2
      obtain ⟨m3, e3, _, hm3⟩ := DataW.trod_int Tryz.underlying3 g3
      simp at e0 e1 e2 e3
      obtain ⟨rfl, rfl⟩ := e0
      subst e1 e2 e3
      exact ⟨a, k, cap, m, m1, m2, m3, T, I, R, rfl, hin, hm, hm1, hm2, hm3⟩
set_option maxRecDepth 100000 in
/-- A world that came in. -/
theorem open_world {r : Reach} {b0 : Nat} {v : Value} {d : DataW H} {p : List MemPlace} (hv : Value.okWide Tryz.prog W r b0 26 v) (h : DataW.Trod enc Tryz.prog W 0 (fun _ => true) true 26 v d p) (hw : ∀ q ∈ d.weights Tryz.prog 26, q ≤ reachBytes) :
    ∃ a n cap next fall wide high T I R, v = .agg #[.slice a n cap, .int .i64 next, .int .i64 fall, .int .i64 wide, .int .i64 high] ∧ StoreIn W a n T I R ∧ (Lit.int .i64 next).wf = true ∧ (Lit.int .i64 fall).wf = true ∧ (Lit.int .i64 wide).wf = true ∧ (Lit.int .i64 high).wf = true := by
  obtain ⟨cs, rfl, _⟩ := okWide_struct Tryz.underlying26 hv
  obtain ⟨fuel, hf⟩ := h
  obtain ⟨a, n, cap, next, fall, wide, high, T, I, R, hx, h1, h2⟩ := world_fields hf hw
  refine ⟨a, n, cap, next, fall, wide, high, T, I, R, ?_, h1, h2⟩
  have : cs.toList = [.slice a n cap, .int .i64 next, .int .i64 fall, .int .i64 wide, .int .i64 high] := by simpa [Value.cells] using hx
  rw [← Array.toArray_toList (xs := cs), this]
end
end Go.Proofs.YtckkkdldljhehabGreat.Wd
