/- Stores as plain lists of tables: when one is good; that Good's own words say the same; tables of one's own read as tables in memory. No walk. -/
import Derived.Test.YtckkkdldljhehaaStGood
import Derived.Test.YtckkkdldljhehaaStClone3
import Derived.Test.YtckkkdldljhehaaStOwn3
namespace Go.Proofs.Ytckkkdldljhehaa.St
open Go.Proofs.Ytckkkdldljhehaa.Num
open Go.ChangeShapes Go.WideShapes Go.ChangeAt Go.RowKit

/-- A store in memory, its sizes within the form's reach. -/
structure StoreIn (w : World) (a : Option Addr) (n : Nat) (T : Nat → TabV) (I : Nat → Nat → Int) (R : Nat → Nat → R8) : Prop where
  tabs : TabsIn w a n T
  ids : ∀ i, i < n → IdsIn w (T i).ia (T i).il (I i)
  rows : ∀ i, i < n → RowsIn w (T i).ra (T i).rl (R i)
  fits : Fits a n T
  wf : ∀ i, i < n → ∀ j, j < (T i).il → (Lit.int .i64 (I i j)).wf = true
theorem StoreIn.below {w w' : World} {a : Option Addr} {n : Nat} {T : Nat → TabV} {I : Nat → Nat → Int} {R : Nat → Nat → R8} (h : StoreIn w a n T I R) (hb : Below w.heap.size w w') : StoreIn w' a n T I R :=
  ⟨h.tabs.below hb, fun i hi => (h.ids i hi).below hb, fun i hi => (h.rows i hi).below hb, h.fits, h.wf⟩

/-- A table that may stand in a store with that next. -/
def GoodT (next : Int) (t : Tab) : Prop :=
  t.ids ≠ [] ∧ t.ids.length = t.rows.length ∧ (∀ x ∈ t.ids, btw x 0 (next - 1) = true) ∧ ∀ r ∈ t.rows, goodRowB t.mask r = true
def allL (L : List Tab) : List Int := L.flatMap (·.ids)
def GoodL (next : Int) (L : List Tab) : Prop :=
  btw next 0 1048576 = true ∧ (allL L).length ≤ 10 ∧ (∀ t ∈ L, 0 < t.mask) ∧ L.Pairwise (fun a b => a.mask < b.mask) ∧ (∀ t ∈ L, GoodT next t) ∧ (allL L).Nodup

theorem dc_le (l : List Int) : dc l ≤ l.length := by
  induction l with
  | nil => simp [dc]
  | cons x l ih => simp only [dc, List.length_cons]; split <;> omega
theorem dc_nodup (l : List Int) : dc l = l.length ↔ l.Nodup := by
  induction l with
  | nil => simp [dc]
  | cons x l ih =>
    simp only [dc, List.length_cons, List.nodup_cons]
    by_cases h : x ∈ l
    · rw [if_pos h]
      have := dc_le l
      constructor
      · intro e; omega
      · intro e; exact absurd h e.1
    · rw [if_neg h]
      constructor
      · intro e; exact ⟨h, ih.1 (by omega)⟩
      · intro e; rw [ih.2 e.2]
theorem pushIds_eq (f : Nat → Int) (acc : List Int) (j : Nat) : pushIds f acc j = ((List.range j).map f).reverse ++ acc := by
  induction j with
  | zero => simp [pushIds]
  | succ j ih => simp [pushIds, ih, List.range_succ]
theorem allIds_eq (T : Nat → TabV) (I : Nat → Nat → Int) (R : Nat → Nat → R8) (n : Nat) : allIds T I n = (allL (plainOf T I R n)).reverse := by
  induction n with
  | zero => simp [allIds, allL, plainOf]
  | succ n ih =>
    rw [allIds, pushIds_eq, ih]
    simp [allL, plainOf, List.range_succ, tabOf]
theorem size_eq {T : Nat → TabV} {I : Nat → Nat → Int} (n : Nat) (h : (allIds T I n).length ≤ 4611686018427387904) : sizeW T n = (allIds T I n).length := by
  induction n with
  | zero => simp [sizeW, allIds]
  | succ n ih =>
    rw [allIds, pushIds_length] at h
    rw [sizeW, ih (by omega), allIds, pushIds_length]
    unfold wrap64
    omega
theorem lastM_pair {T : Nat → TabV} {I : Nat → Nat → Int} {R : Nat → Nat → R8} (n : Nat) : (∀ i, i < n → lastM T i < (T i).mask) ↔ (∀ t ∈ plainOf T I R n, 0 < t.mask) ∧ (plainOf T I R n).Pairwise (fun a b => a.mask < b.mask) := by
  have hmem : ∀ t, t ∈ plainOf T I R n ↔ ∃ i, i < n ∧ tabOf T I R i = t := fun t => by simp [plainOf]
  constructor
  · intro h
    have hpos : ∀ i, i < n → 0 < (T i).mask := by
      intro i
      induction i with
      | zero => intro hi; exact h 0 hi
      | succ i ih => intro hi; have h1 := h (i + 1) hi; have h2 := ih (by omega); simp only [lastM] at h1; omega
    have hlt : ∀ d i, i + 1 + d < n → (T i).mask < (T (i + 1 + d)).mask := by
      intro d
      induction d with
      | zero => intro i hi; exact h (i + 1) hi
      | succ d ih => intro i hi; have h1 := ih i (by omega); have h2 := h (i + 1 + (d + 1)) hi; rw [show i + 1 + (d + 1) = (i + 1 + d) + 1 by omega] at h2 ⊢; simp only [lastM] at h2; omega
    refine ⟨fun t ht => ?_, ?_⟩
    · obtain ⟨i, hi, rfl⟩ := (hmem t).1 ht
      exact hpos i hi
    · rw [List.pairwise_iff_getElem]
      intro i j hi hj hij
      simp only [plainOf, List.length_map, List.length_range] at hi hj
      simp only [plainOf, List.getElem_map, List.getElem_range, tabOf]
      have := hlt (j - i - 1) i (by omega)
      rwa [show i + 1 + (j - i - 1) = j by omega] at this
  · rintro ⟨h1, h2⟩ i hi
    cases i with
    | zero => exact h1 _ ((hmem _).2 ⟨0, hi, rfl⟩)
    | succ i =>
      rw [List.pairwise_iff_getElem] at h2
      have := h2 i (i + 1) (by simp [plainOf]; omega) (by simpa [plainOf] using hi) (by omega)
      simpa [plainOf, tabOf, lastM] using this
theorem goodTab_iff {next : Int} {T : Nat → TabV} {I : Nat → Nat → Int} {R : Nat → Nat → R8} (i : Nat) : GoodTab (T i).mask next (T i).il (T i).rl (I i) (R i) ↔ GoodT next (tabOf T I R i) := by
  unfold GoodTab GoodT GoodTo tabOf
  simp only [List.length_map, List.length_range, List.mem_map, List.mem_range, ne_eq, List.map_eq_nil_iff, List.range_eq_nil]
  constructor
  · rintro ⟨h1, h2, h3⟩
    refine ⟨by omega, h2, ?_, ?_⟩
    · rintro x ⟨j, hj, rfl⟩; exact (h3 j hj).1
    · rintro r ⟨j, hj, rfl⟩; exact (h3 j (by omega)).2
  · rintro ⟨h1, h2, h3, h4⟩
    exact ⟨by omega, h2, fun j hj => ⟨h3 _ ⟨j, hj, rfl⟩, h4 _ ⟨j, by omega, rfl⟩⟩⟩
/-- Good's own words say that the store is good. -/
theorem goodS_iff {next : Int} {n : Nat} {T : Nat → TabV} {I : Nat → Nat → Int} {R : Nat → Nat → R8} (hz : ∀ i, i < n → (T i).il ≤ 140737488355328) : GoodS next n T I R ↔ GoodL next (plainOf T I R n) := by
  have hmem : ∀ t, t ∈ plainOf T I R n ↔ ∃ i, i < n ∧ tabOf T I R i = t := fun t => by simp [plainOf]
  have htabs : TabsTo next T I R n ↔ ((∀ t ∈ plainOf T I R n, 0 < t.mask) ∧ (plainOf T I R n).Pairwise (fun a b => a.mask < b.mask)) ∧ ∀ t ∈ plainOf T I R n, GoodT next t := by
    rw [← lastM_pair (T := T) (I := I) (R := R) n]
    constructor
    · intro h
      refine ⟨fun i hi => (h i hi).1, fun t ht => ?_⟩
      obtain ⟨i, hi, rfl⟩ := (hmem t).1 ht
      exact (goodTab_iff i).1 (h i hi).2
    · rintro ⟨h1, h2⟩ i hi
      exact ⟨h1 i hi, (goodTab_iff i).2 (h2 _ ((hmem _).2 ⟨i, hi, rfl⟩))⟩
  unfold GoodS GoodL
  constructor
  · rintro ⟨h1, h2, h3, h4⟩
    have hl := tabsTo_len h3 hz
    have hs := size_eq (T := T) (I := I) n (by omega)
    have h5 := htabs.1 h3
    rw [hs] at h2 h4
    have e := allIds_eq T I R n
    have el : (allIds T I n).length = (allL (plainOf T I R n)).length := by rw [e]; simp
    refine ⟨h1, by omega, h5.1.1, h5.1.2, h5.2, ?_⟩
    have := (dc_nodup (allIds T I n)).1 (by omega)
    rw [e] at this
    exact (List.reverse_perm _).nodup_iff.1 this
  · rintro ⟨h1, h2, h3, h4, h5, h6⟩
    have h7 := htabs.2 ⟨⟨h3, h4⟩, h5⟩
    have e := allIds_eq T I R n
    have el : (allIds T I n).length = (allL (plainOf T I R n)).length := by rw [e]; simp
    have hs := size_eq (T := T) (I := I) n (by omega)
    refine ⟨h1, by omega, h7, ?_⟩
    rw [hs, (dc_nodup (allIds T I n)).2 (by rw [e]; exact (List.reverse_perm _).nodup_iff.2 h6)]

def adOf : Value → Option Addr
  | .slice a _ _ => a
  | _ => none
def capOf : Value → Nat
  | .slice _ _ c => c
  | _ => 0
def dT : Tab := ⟨0, [], []⟩
def tvOf (S : List OT) (i : Nat) : TabV := match S[i]? with
  | some o => ⟨o.t.mask, adOf o.iv, o.t.ids.length, capOf o.iv, adOf o.rv, o.t.rows.length, capOf o.rv⟩
  | none => ⟨0, none, 0, 0, none, 0, 0⟩
def idOf (S : List OT) (i j : Nat) : Int := ((S[i]?.map (·.t.ids)).getD []).getD j 0
def rwOf (S : List OT) (i j : Nat) : R8 := ((S[i]?.map (·.t.rows)).getD []).getD j zeroR
theorem map_range_getD {α : Type} (l : List α) (d : α) : (List.range l.length).map (fun j => l.getD j d) = l := by
  apply List.ext_getElem?
  intro j
  by_cases h : j < l.length
  · simp [h, List.getD]
  · simp [h]
theorem plain_own (S : List OT) : plainOf (tvOf S) (idOf S) (rwOf S) S.length = S.map (·.t) := by
  apply List.ext_getElem?
  intro i
  by_cases h : i < S.length
  · have hs : S[i]? = some S[i] := List.getElem?_eq_getElem h
    have e1 : (idOf S i) = fun j => S[i].t.ids.getD j 0 := by funext j; simp [idOf, hs]
    have e2 : (rwOf S i) = fun j => S[i].t.rows.getD j zeroR := by funext j; simp [rwOf, hs]
    simp only [plainOf, List.getElem?_map, List.getElem?_range h, hs, Option.map_some, tabOf, tvOf, e1, e2, map_range_getD]
  · rw [List.getElem?_eq_none (by simp [plainOf]; omega), List.getElem?_eq_none (by simp; omega)]
theorem ids_own {w : World} {B : Nat} {v : Value} {l : List Int} (h : w.ownsRow B 3 1 v l.length (l.map (Value.int .i64))) : IdsIn w (adOf v) l.length (fun j => l.getD j 0) := by
  intro hp
  rcases h.2 with ⟨_, h0⟩ | ⟨g, c, cur, rfl, hb, hg, _⟩
  · omega
  · refine ⟨g, 0, rfl, (Array.getElem?_eq_some_iff.1 hg).1, fun i hi => ?_⟩
    rw [Nat.zero_add, h.cellAt i (by omega)]
    simp [List.getD, List.getElem?_eq_getElem hi]
theorem flat_get (l : List R8) (i s : Nat) (hi : i < l.length) (hs : s < 8) : (l.flatMap rowCells)[i * 8 + s]? = (rowCells (l.getD i zeroR))[s]? := by
  induction l generalizing i with
  | nil => simp at hi
  | cons r l ih =>
    rw [List.flatMap_cons]
    cases i with
    | zero => rw [Nat.zero_mul, Nat.zero_add, List.getElem?_append_left (by simpa [rowCells] using hs)]; simp
    | succ i =>
      rw [List.getElem?_append_right (by simp [rowCells]; omega)]
      have e : (rowCells r).length = 8 := rfl
      rw [e, show (i + 1) * 8 + s - 8 = i * 8 + s by omega, ih i (by simpa using hi)]
      simp
theorem rows_own {w : World} {B : Nat} {v : Value} {l : List R8} (h : w.ownsRow B 30 8 v l.length (l.flatMap rowCells)) : RowsIn w (adOf v) l.length (fun j => l.getD j zeroR) := by
  intro hp
  rcases h.2 with ⟨_, h0⟩ | ⟨g, c, cur, rfl, hb, hg, _⟩
  · omega
  · refine ⟨g, 0, rfl, (Array.getElem?_eq_some_iff.1 hg).1, fun i hi => ?_⟩
    have key : ∀ s, s < 8 → w.cell? ⟨g, 0 + i * 8 + s, none⟩ = (rowCells (l.getD i zeroR))[s]? := fun s hs => by
      rw [Nat.zero_add, h.cellAt (i * 8 + s) (by omega), flat_get l i s hi hs]
    exact ⟨key 0 (by omega), key 1 (by omega), key 2 (by omega), key 3 (by omega), key 4 (by omega), key 5 (by omega), key 6 (by omega), key 7 (by omega)⟩
theorem slice_own {w : World} {B size n : Nat} {e : TypeId} {v : Value} {xs : List Value} (h : w.ownsRow B e size v n xs) : v = .slice (adOf v) n (capOf v) ∧ (adOf v = none → n = 0) := by
  rcases h.2 with ⟨rfl, rfl⟩ | ⟨g, c, _, rfl, _⟩
  · exact ⟨rfl, fun _ => rfl⟩
  · exact ⟨rfl, fun e => by cases e⟩
theorem tabs_own {w : World} {B n c : Nat} {a : Option Addr} {S : List OT} (h : Own w B (.slice a n c) S) (hn : n = S.length) : TabsIn w a n (tvOf S) := by
  intro hp
  rcases h.1.2 with ⟨_, h0⟩ | ⟨g, c', cur, e, hb, hg, _⟩
  · omega
  · cases e
    refine ⟨g, 0, rfl, (Array.getElem?_eq_some_iff.1 hg).1, fun i hi => ?_⟩
    have hs : S[i]? = some S[i] := List.getElem?_eq_getElem (by omega)
    have ho := h.2.1 _ (List.getElem_mem (show i < S.length by omega))
    have e1 := (slice_own ho.1).1
    have e2 := (slice_own ho.2).1
    have hx := h.1
    rw [← hn] at hx
    have ecells : S = S.take i ++ S[i] :: S.drop (i + 1) := by
      have h1 : S.take i ++ S.drop i = S := List.take_append_drop i S
      rw [List.drop_eq_getElem_cons (by omega)] at h1
      exact h1.symm
    have hl : (S.take i).length = i := by rw [List.length_take]; omega
    have key : ∀ s, s < 3 → w.cell? ⟨g, 0 + i * 3 + s, none⟩ = (otCells S[i])[s]? := by
      intro s hs3
      rw [Nat.zero_add, hx.cellAt (i * 3 + s) (by omega)]
      have ht : tabCells S = tabCells (S.take i) ++ (otCells S[i] ++ tabCells (S.drop (i + 1))) := by rw [← tabCells_mid, ← ecells]
      rw [ht, List.getElem?_append_right (by rw [tabCells_length, hl]; omega), tabCells_length, hl, show i * 3 + s - i * 3 = s by omega, List.getElem?_append_left (by simpa [otCells] using hs3)]
    simp only [tvOf, hs]
    refine ⟨key 0 (by omega), ?_, ?_⟩
    · rw [key 1 (by omega), ← e1]; rfl
    · rw [key 2 (by omega), ← e2]; rfl
/-- Tables of one's own are a store in memory. -/
theorem own_storeIn {w : World} {B n c : Nat} {a : Option Addr} {S : List OT} (h : Own w B (.slice a n c) S) (hn : n = S.length) (hz : n ≤ 1000) (hl : ∀ o ∈ S, o.t.ids.length ≤ 1000 ∧ o.t.rows.length ≤ 1000) (hw : ∀ o ∈ S, ∀ x ∈ o.t.ids, (Lit.int .i64 x).wf = true) :
    StoreIn w a n (tvOf S) (idOf S) (rwOf S) := by
  have hget : ∀ i, i < n → ∃ o, S[i]? = some o ∧ o ∈ S := fun i hi => ⟨S[i], List.getElem?_eq_getElem (by omega), List.getElem_mem _⟩
  refine ⟨tabs_own h hn, ?_, ?_, ⟨by omega, ?_, ?_⟩, ?_⟩
  · intro i hi
    obtain ⟨o, hs, hm⟩ := hget i hi
    have := ids_own (h.2.1 o hm).1
    have ef : (idOf S i) = fun j => o.t.ids.getD j 0 := by funext j; simp [idOf, hs]
    rw [ef]
    simpa only [tvOf, hs] using this
  · intro i hi
    obtain ⟨o, hs, hm⟩ := hget i hi
    have := rows_own (h.2.1 o hm).2
    have ef : (rwOf S i) = fun j => o.t.rows.getD j zeroR := by funext j; simp [rwOf, hs]
    rw [ef]
    simpa only [tvOf, hs] using this
  · intro e
    rcases h.1.2 with ⟨_, h0⟩ | ⟨g, c', cur, e', _⟩
    · rw [hn]; exact h0
    · rw [e] at e'; cases e'
  · intro i hi
    obtain ⟨o, hs, hm⟩ := hget i hi
    have h1 := hl o hm
    have e1 := (slice_own (h.2.1 o hm).1).2
    have e2 := (slice_own (h.2.1 o hm).2).2
    simp only [tvOf, hs]
    exact ⟨by omega, by omega, e1, e2⟩
  · intro i hi j hj
    obtain ⟨o, hs, hm⟩ := hget i hi
    simp only [tvOf, hs] at hj
    simp only [idOf, hs, Option.map_some, Option.getD_some]
    have : o.t.ids.getD j 0 = o.t.ids[j] := by simp [List.getD, List.getElem?_eq_getElem hj]
    rw [this]
    exact hw o hm _ (List.getElem_mem hj)
end Go.Proofs.Ytckkkdldljhehaa.St
