/- What Get and Size of package store answer when called over a store in memory, in the words of plain lists of tables; and that a number stands at one place of a good store. -/
import Derived.Test.YtckkkdldljhehaaStSpawn
import Derived.Test.YtckkkdldljhehaaStGet2
namespace Go.Proofs.Ytckkkdldljhehaa.St
open Go.Proofs.Ytckkkdldljhehaa.Num
open Go.ChangeShapes Go.WideShapes Go.ChangeAt Go.RowKit

/-- Among these tables the number has that mask and that row. -/
def At (L : List Tab) (id m : Int) (r : R8) : Prop := ∃ t ∈ L, t.mask = m ∧ ∃ j : Nat, t.ids[j]? = some id ∧ t.rows[j]? = some r
def Even (L : List Tab) : Prop := ∀ t ∈ L, t.ids.length = t.rows.length
theorem GoodL.even {next : Int} {L : List Tab} (h : GoodL next L) : Even L := fun t ht => (h.2.2.2.2.1 t ht).2.1

theorem mem_plain {T : Nat → TabV} {I : Nat → Nat → Int} {R : Nat → Nat → R8} {n : Nat} {t : Tab} : t ∈ plainOf T I R n ↔ ∃ i, i < n ∧ tabOf T I R i = t := by simp [plainOf]
theorem noneTo_iff {T : Nat → TabV} {I : Nat → Nat → Int} {R : Nat → Nat → R8} {n : Nat} {v : Int} : NoneTo T I v n ↔ v ∉ allL (plainOf T I R n) := by
  unfold NoneTo allL
  constructor
  · intro h hm
    obtain ⟨t, ht, hx⟩ := List.mem_flatMap.1 hm
    obtain ⟨i, hi, rfl⟩ := mem_plain.1 ht
    simp only [tabOf, List.mem_map, List.mem_range] at hx
    obtain ⟨j, hj, e⟩ := hx
    exact h i hi j hj e
  · intro h i hi j hj e
    exact h (List.mem_flatMap.2 ⟨tabOf T I R i, mem_plain.2 ⟨i, hi, rfl⟩, by simp only [tabOf, List.mem_map, List.mem_range]; exact ⟨j, hj, e⟩⟩)
theorem at_mem {L : List Tab} {id m : Int} {r : R8} (h : At L id m r) : id ∈ allL L := by
  obtain ⟨t, ht, _, j, hj, _⟩ := h
  exact List.mem_flatMap.2 ⟨t, ht, List.mem_of_getElem? hj⟩
theorem at_of_mem {L : List Tab} {id : Int} (he : Even L) (h : id ∈ allL L) : ∃ m r, At L id m r := by
  obtain ⟨t, ht, hx⟩ := List.mem_flatMap.1 h
  obtain ⟨j, hj, e⟩ := List.getElem_of_mem hx
  have hj' : j < t.rows.length := by rw [← he t ht]; exact hj
  exact ⟨t.mask, t.rows[j], t, ht, rfl, j, by rw [List.getElem?_eq_getElem hj, e], List.getElem?_eq_getElem hj'⟩
theorem nodup_get {l : List Int} (h : l.Nodup) {i j : Nat} {x : Int} (hi : l[i]? = some x) (hj : l[j]? = some x) : i = j := by
  obtain ⟨h1, e1⟩ := List.getElem?_eq_some_iff.1 hi
  obtain ⟨h2, e2⟩ := List.getElem?_eq_some_iff.1 hj
  rcases Nat.lt_trichotomy i j with hlt | rfl | hgt
  · exact absurd (e1.trans e2.symm) (List.pairwise_iff_getElem.1 h i j h1 h2 hlt)
  · rfl
  · exact absurd (e2.trans e1.symm) (List.pairwise_iff_getElem.1 h j i h2 h1 hgt)
/-- In a good store a number has one mask and one row. -/
theorem at_unique {L : List Tab} (hn : (allL L).Nodup) {id m m' : Int} {r r' : R8} (h : At L id m r) (h' : At L id m' r') : m = m' ∧ r = r' := by
  induction L with
  | nil => obtain ⟨t, ht, _⟩ := h; cases ht
  | cons t L ih =>
    have hsplit : (t.ids ++ allL L).Nodup := by simpa [allL] using hn
    rw [List.nodup_append] at hsplit
    have hin : ∀ {m r}, At (t :: L) id m r → (m = t.mask ∧ ∃ j : Nat, t.ids[j]? = some id ∧ t.rows[j]? = some r) ∨ At L id m r := by
      rintro m r ⟨x, hx, rfl, j, h1, h2⟩
      rcases List.mem_cons.1 hx with rfl | hx
      · exact Or.inl ⟨rfl, j, h1, h2⟩
      · exact Or.inr ⟨x, hx, rfl, j, h1, h2⟩
    rcases hin h with ⟨rfl, j, h1, h2⟩ | h1
    · rcases hin h' with ⟨rfl, j', h1', h2'⟩ | h2
      · have := nodup_get hsplit.1 h1 h1'
        subst this
        rw [h2] at h2'
        cases h2'
        exact ⟨rfl, rfl⟩
      · exact absurd rfl (hsplit.2.2 id (List.mem_of_getElem? h1) id (at_mem h2))
    · rcases hin h' with ⟨rfl, j', h1', h2'⟩ | h2
      · exact absurd rfl (hsplit.2.2 id (List.mem_of_getElem? h1') id (at_mem h1))
      · exact ih hsplit.2.1 h1 h2

theorem StoreIn.get {w : World} {a : Option Addr} {n : Nat} {T : Nat → TabV} {I : Nat → Nat → Int} {R : Nat → Nat → R8} (h : StoreIn w a n T I R) (he : Even (plainOf T I R n)) (cap : Nat) (next v : Int) :
    Calls Try.prog 32 #[.agg #[.slice a n cap, .int .i64 next], .int .i64 v] w fun e w' =>
      ((e = .returned (.tuple #[.int .i64 0, .agg #[.int .i64 0, .int .i64 0, .int .i64 0, .int .i64 0, .int .i64 0, .int .i64 0, .int .i64 0, .int .i64 0], .bool false]) ∧ v ∉ allL (plainOf T I R n)) ∨
       ∃ m r, e = .returned (.tuple #[.int .i64 m, .agg #[.int .i64 r.x, .int .i64 r.y, .int .i64 r.px, .int .i64 r.py, .int .i64 r.wd, .int .i64 r.ht, .int .i64 r.ms, .int .i64 r.rr], .bool true]) ∧ At (plainOf T I R n) v m r) ∧ Below w.heap.size w w' := by
  have hf := h.fits
  have hev : ∀ i, i < n → (T i).rl = (T i).il ∧ (T i).il ≤ maxLen := fun i hi => by
    have h1 := he _ (mem_plain.2 ⟨i, hi, rfl⟩)
    simp only [tabOf, List.length_map, List.length_range] at h1
    have h2 := h.hz i hi
    unfold maxLen
    omega
  refine (get_any a n cap next v T I R w (by have := hf.1; unfold maxLen; omega) h.tabs h.ids h.rows hev).mono ?_
  rintro e w' ⟨he', hb⟩
  refine ⟨?_, hb⟩
  rcases he' with ⟨rfl, hno⟩ | ⟨i, j, rfl, hi, hj, hq⟩
  · exact Or.inl ⟨rfl, noneTo_iff.1 hno⟩
  · refine Or.inr ⟨_, _, rfl, tabOf T I R i, mem_plain.2 ⟨i, hi, rfl⟩, rfl, j, ?_, ?_⟩
    · simp [tabOf, hj, hq]
    · have := (hev i hi).1
      simp [tabOf, show j < (T i).rl by omega]
theorem StoreIn.size {w : World} {a : Option Addr} {n : Nat} {T : Nat → TabV} {I : Nat → Nat → Int} {R : Nat → Nat → R8} (h : StoreIn w a n T I R) {next : Int} (hg : GoodL next (plainOf T I R n)) (cap : Nat) (nx : Int) :
    Calls Try.prog 33 #[.agg #[.slice a n cap, .int .i64 nx]] w fun e w' => e = .returned (.int .i64 (allL (plainOf T I R n)).length) ∧ Below w.heap.size w w' := by
  have hs := (goodL_n (fun i hi => (h.hz i hi).1) hg).2
  rw [← hs]
  exact size_any a n cap nx T w (by have := h.fits.1; unfold maxLen; omega) h.tabs
end Go.Proofs.Ytckkkdldljhehaa.St
