/- Replies that lie in memory, each with its lists, beside a game: what is kept when the game goes on, one more of them, one of them read. Lemmas, no walk. -/
import Derived.Test.YtckkkdldljhehacGreatKtGmU
namespace Go.Proofs.YtckkkdldljhehacGreat.Gm
open Go.Proofs.YtckkkdldljhehacGreat.Num Go.Proofs.YtckkkdldljhehacGreat.St Go.Proofs.YtckkkdldljhehacGreat.Wd
open Go.ChangeShapes Go.WideShapes Go.ChangeAt Go.RowKit

theorem Gam.grownO {W W' : World} {F : Nat → Prop} {b : Nat} {s : Gp} {o : Option Nat} (h : Gam W F b s) (hg : W.grownBy W' o) (hn : ∀ z, o = some z → ¬ F z) : Gam W' F b s :=
  h.kept (G := fun z => o = some z) ⟨hg.os, hg.tape, hg.output, hg.size, fun k hk hne => hg.block k hk (fun e => hne e.symm)⟩ (fun z hz e => hn z e hz)
theorem rep_cells (w : World) (c n : Int) (u v : Value) (t : TypeId) : ∀ j x, [Value.int .i64 c, .int .i64 n, u, v][j]? = some x → (w.alloc (.cells #[.int .i64 c, .int .i64 n, u, v] t)).cell? ((⟨w.heap.size, 0, none⟩ : Addr).add j) = some x := by
  intro j x hj
  obtain ⟨p0, p1, p2, p3⟩ := Rp.rcells (Rp.rowIs4 w c n u v t)
  rw [Addr.add_lit, Nat.zero_add]
  match j, hj with
  | 0, hj => cases hj; exact p0
  | 1, hj => cases hj; exact p1
  | 2, hj => cases hj; exact p2
  | 3, hj => cases hj; exact p3
  | k + 4, hj => simp at hj
def repCells (p : (Value × Value) × Rep) : List Value := [.int .i64 p.2.code, .int .i64 p.2.n, p.1.1, p.1.2]
/-- Replies in memory that begins at B, apart from the blocks F. -/
structure Reps (W : World) (B : Nat) (F : Nat → Prop) (u : Value) (us : List (Value × Value)) (rs : List Rep) : Prop where
  row : W.ownsRow B 31 4 u rs.length ((us.zip rs).flatMap repCells)
  len : us.length = rs.length
  each : ∀ (i : Nat) p r, us[i]? = some p → rs[i]? = some r → W.ownsRow B 3 1 p.1 r.ids.length (r.ids.map (Value.int .i64)) ∧ W.ownsRow B 54 2 p.2 r.met.length (r.met.flatMap Sw.pairCells)
  sepR : ∀ z, u.ownBlock = some z → ¬ F z
  sep : ∀ (i : Nat) p, us[i]? = some p → ∀ z, p.1.ownBlock = some z ∨ p.2.ownBlock = some z → ¬ F z ∧ u.ownBlock ≠ some z
theorem Reps.nil (W : World) (B : Nat) (F : Nat → Prop) : Reps W B F (.slice none 0 0) [] [] :=
  ⟨World.ownsRow_nil _ _ _ _, rfl, (fun i p r h => by simp at h), (fun z h => by cases h), (fun i p h => by simp at h)⟩
theorem Reps.two {W : World} {B : Nat} {F : Nat → Prop} {u : Value} {us : List (Value × Value)} {rs : List Rep} (h : Reps W B F u us rs) {i : Nat} {p : Value × Value} (hp : us[i]? = some p) : ∃ r, rs[i]? = some r := by
  have := (List.getElem?_eq_some_iff.1 hp).1
  exact ⟨_, List.getElem?_eq_getElem (by rw [← h.len]; exact this)⟩
theorem Reps.lt {W : World} {B : Nat} {F : Nat → Prop} {u : Value} {us : List (Value × Value)} {rs : List Rep} (h : Reps W B F u us rs) {i : Nat} {p : Value × Value} (hp : us[i]? = some p) {z : Nat} (hz : p.1.ownBlock = some z ∨ p.2.ownBlock = some z) : z < W.heap.size := by
  obtain ⟨r, hr⟩ := h.two hp
  have he := h.each i p r hp hr
  rcases hz with hz | hz
  · exact (he.1.lt z hz).2
  · exact (he.2.lt z hz).2
theorem Reps.kept {W W' : World} {B : Nat} {F F' : Nat → Prop} {u : Value} {us : List (Value × Value)} {rs : List Rep} (h : Reps W B F u us rs) (hk : Kept F W W') (hF : ∀ z, F' z → F z ∨ W.heap.size ≤ z) : Reps W' B F' u us rs := by
  refine ⟨owns_kept' h.row hk h.sepR, h.len, fun i p r h1 h2 => ?_, fun z hz hc => ?_, fun i p hp z hz => ⟨fun hc => ?_, (h.sep i p hp z hz).2⟩⟩
  · have he := h.each i p r h1 h2
    exact ⟨owns_kept' he.1 hk (fun z hz => (h.sep i p h1 z (Or.inl hz)).1), owns_kept' he.2 hk (fun z hz => (h.sep i p h1 z (Or.inr hz)).1)⟩
  · rcases hF z hc with h1 | h1
    · exact h.sepR z hz h1
    · have := (h.row.lt z hz).2; omega
  · rcases hF z hc with h1 | h1
    · exact (h.sep i p hp z hz).1 h1
    · have := h.lt hp hz; omega
theorem Reps.below {W W' : World} {B : Nat} {F : Nat → Prop} {u : Value} {us : List (Value × Value)} {rs : List Rep} (h : Reps W B F u us rs) (hb : Below W.heap.size W W') : Reps W' B F u us rs := by
  refine ⟨owns_below h.row hb, h.len, fun i p r h1 h2 => ?_, h.sepR, h.sep⟩
  have he := h.each i p r h1 h2
  exact ⟨owns_below he.1 hb, owns_below he.2 hb⟩
/-- One more. -/
theorem Reps.snoc {W W' : World} {B : Nat} {F : Nat → Prop} {u : Value} {us : List (Value × Value)} {rs : List Rep} (h : Reps W B F u us rs) {v u1 u2 : Value} {r : Rep}
    (hown : W'.ownsRow B 31 4 v (rs.length + 1) ((us.zip rs).flatMap repCells ++ [.int .i64 r.code, .int .i64 r.n, u1, u2])) (hg : W.grownBy W' u.ownBlock) (hat : v.ownBlock = u.ownBlock ∨ v.ownBlock = some W.heap.size)
    (h1 : W.ownsRow B 3 1 u1 r.ids.length (r.ids.map (Value.int .i64))) (h2 : W.ownsRow B 54 2 u2 r.met.length (r.met.flatMap Sw.pairCells)) (hs : ∀ z, u1.ownBlock = some z ∨ u2.ownBlock = some z → ¬ F z ∧ u.ownBlock ≠ some z) (hF : ¬ F W.heap.size) :
    Reps W' B F v (us ++ [(u1, u2)]) (rs ++ [r]) := by
  have hsep : ∀ (i : Nat) p, (us ++ [(u1, u2)])[i]? = some p → ∀ z, p.1.ownBlock = some z ∨ p.2.ownBlock = some z → ¬ F z ∧ u.ownBlock ≠ some z ∧ z < W.heap.size := by
    intro i p hp z hz
    by_cases hi : i < us.length
    · rw [List.getElem?_append_left hi] at hp
      exact ⟨(h.sep i p hp z hz).1, (h.sep i p hp z hz).2, h.lt hp hz⟩
    · rw [List.getElem?_append_right (by omega)] at hp
      have e : (u1, u2) = p := by
        cases hk : i - us.length with
        | zero => rw [hk] at hp; simpa using hp
        | succ k => rw [hk] at hp; simp at hp
      subst e
      refine ⟨(hs z hz).1, (hs z hz).2, ?_⟩
      rcases hz with hz | hz
      · exact (h1.lt z hz).2
      · exact (h2.lt z hz).2
  refine ⟨?_, by simp [h.len], fun i p q hp hq => ?_, fun z hz => ?_, fun i p hp z hz => ⟨(hsep i p hp z hz).1, fun e => ?_⟩⟩
  · rw [List.zip_append h.len, List.flatMap_append, List.length_append]
    exact hown
  · have hb := fun z hz => hsep i p hp z hz
    have key : W.ownsRow B 3 1 p.1 q.ids.length (q.ids.map (Value.int .i64)) ∧ W.ownsRow B 54 2 p.2 q.met.length (q.met.flatMap Sw.pairCells) := by
      by_cases hi : i < us.length
      · rw [List.getElem?_append_left hi] at hp
        rw [List.getElem?_append_left (by rw [← h.len]; exact hi)] at hq
        exact h.each i p q hp hq
      · rw [List.getElem?_append_right (by omega)] at hp
        rw [List.getElem?_append_right (by rw [← h.len]; omega), ← h.len] at hq
        cases hk : i - us.length with
        | zero => rw [hk] at hp hq; simp at hp hq; subst hp hq; exact ⟨h1, h2⟩
        | succ k => rw [hk] at hp; simp at hp
    exact ⟨owns_kept key.1 hg (fun z hz e => (hb z (Or.inl hz)).2.1 e), owns_kept key.2 hg (fun z hz e => (hb z (Or.inr hz)).2.1 e)⟩
  · rcases hat with h3 | h3
    · rw [h3] at hz; exact h.sepR z hz
    · rw [h3] at hz; cases hz; exact hF
  · rcases hat with h3 | h3
    · rw [h3] at e; exact (hsep i p hp z hz).2.1 e
    · rw [h3] at e; cases e; have := (hsep i p hp _ hz).2.2; omega
theorem flat4 (l : List ((Value × Value) × Rep)) (i s : Nat) (x : (Value × Value) × Rep) (hi : l[i]? = some x) (hs : s < 4) : (l.flatMap repCells)[i * 4 + s]? = (repCells x)[s]? := by
  induction l generalizing i with
  | nil => simp at hi
  | cons r l ih =>
    rw [List.flatMap_cons]
    cases i with
    | zero => simp at hi; subst hi; rw [Nat.zero_mul, Nat.zero_add, List.getElem?_append_left (by simpa [repCells] using hs)]
    | succ i => rw [List.getElem?_append_right (by simp [repCells]; omega)]; simp only [repCells, List.length_cons, List.length_nil]; rw [show (i + 1) * 4 + s - (0 + 1 + 1 + 1 + 1) = i * 4 + s by omega]; exact ih i (by simpa using hi)
/-- One of them, read. -/
theorem Reps.at {W : World} {B : Nat} {F : Nat → Prop} {u : Value} {us : List (Value × Value)} {rs : List Rep} (h : Reps W B F u us rs) {k : Nat} {r : Rep} (hr : rs[k]? = some r) :
    ∃ g c ai ci am cm, u = .slice (some ⟨g, 0, none⟩) rs.length c ∧ g < W.heap.size ∧ W.cell? ⟨g, k * 4, none⟩ = some (.int .i64 r.code) ∧ W.cell? ⟨g, k * 4 + 1, none⟩ = some (.int .i64 r.n) ∧ W.cell? ⟨g, k * 4 + 2, none⟩ = some (.slice ai r.ids.length ci) ∧ W.cell? ⟨g, k * 4 + 3, none⟩ = some (.slice am r.met.length cm) ∧
      Rp.IntsR W (.slice ai r.ids.length ci) r.ids ∧ Rp.PairsR W (.slice am r.met.length cm) r.met := by
  have hlt := (List.getElem?_eq_some_iff.1 hr).1
  obtain ⟨p, hp⟩ : ∃ p, us[k]? = some p := ⟨_, List.getElem?_eq_getElem (by rw [h.len]; exact hlt)⟩
  obtain ⟨e1, e2⟩ := h.each k p r hp hr
  have hz : (us.zip rs)[k]? = some (p, r) := by rw [List.getElem?_zip_eq_some]; exact ⟨hp, hr⟩
  obtain ⟨g, c, rfl⟩ := own_some h.row (by omega)
  have cr : ∀ s, s < 4 → W.cell? ⟨g, k * 4 + s, none⟩ = (repCells (p, r))[s]? := fun s hs => by rw [h.row.cellAt (k * 4 + s) (by omega), flat4 _ _ _ _ hz hs]
  have i1 := Rp.IntsR.own e1 rfl
  have i2 := Rp.PairsR.own e2 rfl
  obtain ⟨p1, p2⟩ := p
  obtain ⟨ai, ci, e3, -⟩ := id i1
  obtain ⟨am, cm, e4, -⟩ := id i2
  simp only at e3 e4 i1 i2
  subst e3 e4
  exact ⟨g, c, ai, ci, am, cm, rfl, (h.row.lt g rfl).2, cr 0 (by omega), cr 1 (by omega), cr 2 (by omega), cr 3 (by omega), i1, i2⟩
/-- One of them, read in whatever memory where only the blocks F have changed. -/
theorem Reps.read {W : World} {B : Nat} {F : Nat → Prop} {u : Value} {us : List (Value × Value)} {rs : List Rep} (h : Reps W B F u us rs) {k : Nat} {r : Rep} (hr : rs[k]? = some r) :
    ∃ g c ai ci am cm, u = .slice (some ⟨g, 0, none⟩) rs.length c ∧ g < W.heap.size ∧ ∀ W', Kept F W W' → W'.cell? ⟨g, k * 4, none⟩ = some (.int .i64 r.code) ∧ W'.cell? ⟨g, k * 4 + 1, none⟩ = some (.int .i64 r.n) ∧ W'.cell? ⟨g, k * 4 + 2, none⟩ = some (.slice ai r.ids.length ci) ∧ W'.cell? ⟨g, k * 4 + 3, none⟩ = some (.slice am r.met.length cm) ∧
      Rp.IntsR W' (.slice ai r.ids.length ci) r.ids ∧ Rp.PairsR W' (.slice am r.met.length cm) r.met := by
  obtain ⟨g, c, ai, ci, am, cm, e, hl, c0, c1, c2, c3, -, -⟩ := h.at hr
  refine ⟨g, c, ai, ci, am, cm, e, hl, fun W' hk => ?_⟩
  have hblk : W'.heap[g]? = W.heap[g]? := hk.block g hl (h.sepR g (by rw [e]; rfl))
  have h' := h.kept hk (fun z hz => Or.inl hz)
  obtain ⟨g', c', ai', ci', am', cm', e', -, d0, d1, d2, d3, j1, j2⟩ := h'.at hr
  have hg : g' = g := by
    have := e'.symm.trans e
    simp only [Value.slice.injEq, Option.some.injEq, Addr.mk.injEq] at this
    exact this.1.1
  subst hg
  have e2 := d2.symm.trans ((cellB hblk _).trans c2)
  have e3 := d3.symm.trans ((cellB hblk _).trans c3)
  simp only [Option.some.injEq, Value.slice.injEq] at e2 e3
  obtain ⟨rfl, -, rfl⟩ := e2
  obtain ⟨rfl, -, rfl⟩ := e3
  exact ⟨d0, d1, d2, d3, j1, j2⟩
end Go.Proofs.YtckkkdldljhehacGreat.Gm
