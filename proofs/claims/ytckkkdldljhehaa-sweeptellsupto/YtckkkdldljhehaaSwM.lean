/- Boxes that came in as an argument, opened: they lie in memory, their sizes within the form's reach. No walk. -/
import Derived.Test.YtckkkdldljhehaaSwL
import Derived.Deep.Slices
import Derived.Deep.Strs
import Derived.SizedLaws
import Derived.Lib.SmallJoins
namespace Go.Proofs.Ytckkkdldljhehaa.Sw
open Go.ChangeShapes Go.WideShapes Go.ChangeAt Go.RowKit Go.Deep Go.Joins

theorem cells3 : Try.prog.cellsOf 3 = 1 := by kernel_rfl
theorem cells70 : Try.prog.cellsOf 70 = 5 := by kernel_rfl
theorem bytes70 : Try.prog.bytesOf 70 = 40 := by kernel_rfl

section
variable {H : Type} {enc : TypeId × Value → H} {W : World}

theorem addr_plain {a : Addr} {v : Value} (h : W.cell? (a.add 0) = some v) : ∃ b off, a = ⟨b, off, none⟩ ∧ b < W.heap.size := by
  obtain ⟨b, off, spot⟩ := a
  have hspot : spot = none := by simpa [Addr.add] using World.cell?_spot h
  subst hspot
  exact ⟨b, off, rfl, by simpa [Addr.add] using World.block_lt_of_cell? _ _ h⟩

set_option maxRecDepth 100000 in
theorem box_fields {fuel : Nat} {cs : List Value} {x : DataW H × List MemPlace} (h : DataW.trod enc Try.prog W 0 (fun _ => true) true fuel 70 cs = some x) : ∃ r : B5, cs = boxCells r := by
  obtain ⟨xs, n, _, rfl, hl, hlen, hf⟩ := DataW.trod_struct Try.underlying70 h
  rw [cells70] at hl
  match cs, hl with
  | [c0, c1, c2, c3, c4], _ =>
    match xs, hlen with
    | [y0, y1, y2, y3, y4], _ =>
      have k : ∀ {c : Value} {y : DataW H × List MemPlace}, DataW.trod enc Try.prog W 0 (fun _ => true) true n 3 [c] = some y → ∃ q, c = .int .i64 q := fun hq => by
        obtain ⟨q, e, _⟩ := DataW.trod_int Try.underlying3 hq
        exact ⟨q, by simpa using e⟩
      have g0 := hf 0 _ rfl
      have g1 := hf 1 _ rfl
      have g2 := hf 2 _ rfl
      have g3 := hf 3 _ rfl
      have g4 := hf 4 _ rfl
      simp [cells3] at g0 g1 g2 g3 g4
      obtain ⟨q0, rfl⟩ := k g0
      obtain ⟨q1, rfl⟩ := k g1
      obtain ⟨q2, rfl⟩ := k g2
      obtain ⟨q3, rfl⟩ := k g3
      obtain ⟨q4, rfl⟩ := k g4
      exact ⟨⟨q0, q1, q2, q3, q4⟩, rfl⟩

set_option maxRecDepth 100000 in
/-- Boxes that came in. -/
theorem open_boxes {r : Reach} {b0 : Nat} {v : Value} {d : DataW H} {p : List MemPlace} (hv : Value.okWide Try.prog W r b0 68 v) (h : DataW.Trod enc Try.prog W 0 (fun _ => true) true 68 v d p) (hw : ∀ q ∈ d.weights Try.prog 68, q ≤ reachBytes) :
    ∃ a n cap l, v = .slice a n cap ∧ n = l.length ∧ n * 40 ≤ 140737488355328 ∧ n ≤ cap ∧ (a = none → n = 0) ∧ BoxL W a l := by
  obtain ⟨a0, n0, cap0, rfl⟩ := okWide_slice Try.underlying68 hv
  obtain ⟨fuel, hf⟩ := h
  rcases open_slice Try.underlying68 hf with ⟨e, _⟩ | ⟨a, len, cap, m, n, D, Pl, e, _, hl, _, hm, e2, hV⟩
  · simp [Value.cells] at e
    obtain ⟨rfl, rfl, rfl⟩ := e
    exact ⟨none, 0, 0, [], rfl, rfl, by omega, Nat.le_refl _, fun _ => rfl, fun h => absurd h (Nat.lt_irrefl _)⟩
  · simp [Value.cells] at e
    obtain ⟨rfl, rfl, rfl⟩ := e
    simp only [if_true] at hm
    subst hm
    have e3 : d = .slice ((List.range n0).map D) ((List.range (m - n0)).map fun j => D (n0 + j)) := congrArg Prod.fst e2
    have hb := hw ((n0 + (m - n0)) * 40) (by rw [e3]; simp [DataW.weights, Try.underlying68, bytes70])
    have hr : reachBytes ≤ 140737488355328 := by decide
    rw [cells70] at hV
    have hrow : ∀ i, i < m → ∃ r : B5, ∀ s, s < 5 → W.cell? ((a.add (i * 5)).add s) = (boxCells r)[s]? := fun i hi => by
      obtain ⟨cs', h1, h2⟩ := hV i hi
      obtain ⟨r, rfl⟩ := box_fields h2
      exact ⟨r, fun s hs => (World.cells?_some h1).2.2 s hs⟩
    obtain ⟨f, hf'⟩ : ∃ f : Nat → B5, ∀ i, i < m → ∀ s, s < 5 → W.cell? ((a.add (i * 5)).add s) = (boxCells (f i))[s]? := by
      classical
      refine ⟨fun i => if hi : i < m then Classical.choose (hrow i hi) else zeroB, fun i hi => ?_⟩
      simp only [dif_pos hi]
      exact Classical.choose_spec (hrow i hi)
    refine ⟨some a, n0, m, (List.range n0).map f, rfl, by simp, by omega, hl, (fun e => by cases e), fun hp => ?_⟩
    have hp' : 0 < n0 := by simpa using hp
    have h00 := hf' 0 (by omega) 0 (by omega)
    rw [Nat.zero_mul, Deep.add_add] at h00
    obtain ⟨b, off, rfl, hbl⟩ := addr_plain (v := .int .i64 (f 0).id) (by simpa [boxCells] using h00)
    refine ⟨b, off, rfl, hbl, fun i x hi => ?_⟩
    have hin : i < n0 := by have := (List.getElem?_eq_some_iff.1 hi).1; simpa using this
    have hx : f i = x := by simpa [hin] using hi
    subst hx
    have key : ∀ s, s < 5 → W.cell? ⟨b, off + i * 5 + s, none⟩ = (boxCells (f i))[s]? := fun s hs => by
      have := hf' i (by omega) s hs
      rw [Deep.add_add, Addr.add_lit, show off + (i * 5 + s) = off + i * 5 + s by omega] at this
      exact this
    exact ⟨key 0 (by omega), key 1 (by omega), key 2 (by omega), key 3 (by omega), key 4 (by omega)⟩
end
end Go.Proofs.Ytckkkdldljhehaa.Sw
