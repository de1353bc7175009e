/- Acts that came in as an argument, opened, with their room. No walk. -/
import Derived.Test.YtckkkdldljhehacGreatKtGmAc
namespace Go.Proofs.YtckkkdldljhehacGreat.Gm
open Go.Proofs.YtckkkdldljhehacGreat.Num Go.Proofs.YtckkkdldljhehacGreat.St Go.Proofs.YtckkkdldljhehacGreat.Wd
open Go.ChangeShapes Go.WideShapes Go.ChangeAt Go.RowKit Go.Deep Go.Joins

section
variable {H : Type} {enc : TypeId × Value → H} {W : World}
set_option maxRecDepth 100000 in
/-- Acts that came in. -/
theorem open_acts2 {r : Reach} {b0 : Nat} {v : Value} {d : DataW H} {p : List MemPlace} (hv : Value.okWide Tryz.prog W r b0 22 v) (h : DataW.Trod enc Tryz.prog W 0 (fun _ => true) true 22 v d p) (hw : ∀ q ∈ d.weights Tryz.prog 22, q ≤ reachBytes) :
    ∃ a n cap l, v = .slice a n cap ∧ ActL W a l ∧ n = l.length ∧ n * 136 ≤ 140737488355328 ∧ (a = none → cap = 0) ∧ n ≤ cap := by
  obtain ⟨a0, n0, cap0, rfl⟩ := okWide_slice Tryz.underlying22 hv
  obtain ⟨fuel, hf⟩ := h
  rcases open_slice Tryz.underlying22 hf with ⟨e, _⟩ | ⟨a, len, cap, m, n, D, Pl, e, _, hl, _, hm, e2, hV⟩
  · simp [Value.cells] at e
    obtain ⟨rfl, rfl, rfl⟩ := e
    exact ⟨none, 0, 0, [], rfl, fun h => absurd h (Nat.lt_irrefl _), rfl, by omega, fun _ => rfl, Nat.le_refl _⟩
  · simp [Value.cells] at e
    obtain ⟨rfl, rfl, rfl⟩ := e
    simp only [if_true] at hm
    subst hm
    have e3 : d = .slice ((List.range n0).map D) ((List.range (m - n0)).map fun j => D (n0 + j)) := congrArg Prod.fst e2
    have hb := hw ((n0 + (m - n0)) * 136) (by rw [e3]; simp [DataW.weights, Tryz.underlying22, bytesA])
    have hr : reachBytes ≤ 140737488355328 := by decide
    rw [cellsA] at hV
    have hrow : ∀ i, i < m → ∃ r : Ac, ∀ s, s < 17 → W.cell? ((a.add (i * 17)).add s) = (actCells r)[s]? := fun i hi => by
      obtain ⟨cs', h1, h2⟩ := hV i hi
      obtain ⟨q0, q1, q2, q3, r0, r1, r2, r3, r4, r5, r6, r7, b0, b1, b2, b3, b4, rfl⟩ := act_fields h2
      exact ⟨⟨q0, q1, q2, q3, ⟨r0, r1, r2, r3, r4, r5, r6, r7⟩, ⟨b0, b1, b2, b3, b4⟩⟩, fun s hs => (World.cells?_some h1).2.2 s hs⟩
    obtain ⟨f, hf'⟩ : ∃ f : Nat → Ac, ∀ i, i < m → ∀ s, s < 17 → W.cell? ((a.add (i * 17)).add s) = (actCells (f i))[s]? := by
      classical
      refine ⟨fun i => if hi : i < m then Classical.choose (hrow i hi) else ⟨0, 0, 0, 0, ⟨0, 0, 0, 0, 0, 0, 0, 0⟩, ⟨0, 0, 0, 0, 0⟩⟩, fun i hi => ?_⟩
      simp only [dif_pos hi]
      exact Classical.choose_spec (hrow i hi)
    refine ⟨some a, n0, m, (List.range n0).map f, rfl, fun hp => ?_, by simp, by omega, (fun h => by cases h), by omega⟩
    have hp' : 0 < n0 := by simpa using hp
    have h00 := hf' 0 (by omega) 0 (by omega)
    rw [Nat.zero_mul, Deep.add_add] at h00
    obtain ⟨b, off, rfl, hbl⟩ := addr_plainA (v := .int .i64 (f 0).kind) (by simpa [actCells] using h00)
    refine ⟨b, off, rfl, hbl, fun i x hi j u hj => ?_⟩
    have hin : i < n0 := by have := (List.getElem?_eq_some_iff.1 hi).1; simpa using this
    have hx : f i = x := by simpa [hin] using hi
    subst hx
    have hj17 : j < 17 := by have := (List.getElem?_eq_some_iff.1 hj).1; simpa [actCells] using this
    have := hf' i (by omega) j hj17
    rw [Deep.add_add, Addr.add_lit, show off + (i * 17 + j) = off + i * 17 + j by omega, hj] at this
    exact this
end
end Go.Proofs.YtckkkdldljhehacGreat.Gm
