/- Stores as values in memory, in the words of plain tables; what has, between, Good of package world, and store's functions answer over them; nothing that was in memory before has changed. -/
import Derived.Test.YtckkkdldljhehabGreatWdPl
import Derived.Test.YtckkkdldljhehabGreatStSet
import Derived.Test.YtckkkdldljhehabGreatSoG
import Derived.Deep.DrawnRows
namespace Go.Proofs.YtckkkdldljhehabGreat.Wd
open Go.Proofs.YtckkkdldljhehabGreat.Num Go.Proofs.YtckkkdldljhehabGreat.St
open Go.ChangeShapes Go.WideShapes Go.ChangeAt Go.RowKit

theorem cellB {W W' : World} {b : Nat} (h : W'.heap[b]? = W.heap[b]?) (o : Nat) : W'.cell? ⟨b, o, none⟩ = W.cell? ⟨b, o, none⟩ := World.cell?_of_block (a := ⟨b, o, none⟩) h
theorem idsIn_same {w w' : World} {a : Option Addr} {n : Nat} {f : Nat → Int} (h : IdsIn w a n f) (hz : w.heap.size ≤ w'.heap.size) (hb : ∀ b, b < w.heap.size → w'.heap[b]? = w.heap[b]?) : IdsIn w' a n f := by
  intro hp
  obtain ⟨b, off, e, hl, hc⟩ := h hp
  have k := fun o => cellB (hb b hl) o
  exact ⟨b, off, e, Nat.lt_of_lt_of_le hl hz, fun i hi => by simp only [k]; exact hc i hi⟩
theorem rowsIn_same {w w' : World} {a : Option Addr} {n : Nat} {r : Nat → R8} (h : St.RowsIn w a n r) (hz : w.heap.size ≤ w'.heap.size) (hb : ∀ b, b < w.heap.size → w'.heap[b]? = w.heap[b]?) : St.RowsIn w' a n r := by
  intro hp
  obtain ⟨b, off, e, hl, hc⟩ := h hp
  have k := fun o => cellB (hb b hl) o
  exact ⟨b, off, e, Nat.lt_of_lt_of_le hl hz, fun i hi => by simp only [k]; exact hc i hi⟩
theorem tabsIn_same {w w' : World} {a : Option Addr} {n : Nat} {T : Nat → TabV} (h : TabsIn w a n T) (hz : w.heap.size ≤ w'.heap.size) (hb : ∀ b, b < w.heap.size → w'.heap[b]? = w.heap[b]?) : TabsIn w' a n T := by
  intro hp
  obtain ⟨b, off, e, hl, hc⟩ := h hp
  have k := fun o => cellB (hb b hl) o
  exact ⟨b, off, e, Nat.lt_of_lt_of_le hl hz, fun i hi => by simp only [k]; exact hc i hi⟩
theorem storeIn_same {w w' : World} {a : Option Addr} {n : Nat} {T : Nat → TabV} {I : Nat → Nat → Int} {R : Nat → Nat → R8} (h : StoreIn w a n T I R) (hz : w.heap.size ≤ w'.heap.size) (hb : ∀ b, b < w.heap.size → w'.heap[b]? = w.heap[b]?) : StoreIn w' a n T I R :=
  ⟨tabsIn_same h.tabs hz hb, fun i hi => idsIn_same (h.ids i hi) hz hb, fun i hi => rowsIn_same (h.rows i hi) hz hb, h.fits, h.wf⟩
/-- A store's list of tables as a value: what it reads as, in the blocks of F. -/
def Sto (W : World) (F : Nat → Prop) (v : Value) (L : List Tab) : Prop := ∃ a n cap T I R, v = .slice a n cap ∧ plainOf T I R n = L ∧ (∀ b, F b → b < W.heap.size) ∧ ∀ W' : World, W.heap.size ≤ W'.heap.size → (∀ b, F b → W'.heap[b]? = W.heap[b]?) → StoreIn W' a n T I R
theorem Sto.keep {W W' : World} {F : Nat → Prop} {v : Value} {L : List Tab} (h : Sto W F v L) (hz : W.heap.size ≤ W'.heap.size) (hb : ∀ b, F b → W'.heap[b]? = W.heap[b]?) : Sto W' F v L := by
  obtain ⟨a, n, cap, T, I, R, e, hp, hl, hs⟩ := h
  exact ⟨a, n, cap, T, I, R, e, hp, fun b hF => Nat.lt_of_lt_of_le (hl b hF) hz, fun W2 h1 h2 => hs W2 (Nat.le_trans hz h1) (fun b hF => (h2 b hF).trans (hb b hF))⟩
theorem Sto.lt {W : World} {F : Nat → Prop} {v : Value} {L : List Tab} (h : Sto W F v L) {b : Nat} (hb : F b) : b < W.heap.size := by
  obtain ⟨a, n, cap, T, I, R, e, hp, hl, hs⟩ := h
  exact hl b hb
theorem Sto.below {W W' : World} {F : Nat → Prop} {v : Value} {L : List Tab} (h : Sto W F v L) (hb : Below W.heap.size W W') : Sto W' F v L :=
  h.keep hb.size (fun b hF => hb.block b (h.lt hF))
theorem Sto.drew {W : World} {F : Nat → Prop} {v : Value} {L : List Tab} (h : Sto W F v L) : Sto W.drew F v L := h.below (Below.drew (Below.refl _ W))
theorem Sto.setCell {W : World} {F : Nat → Prop} {v : Value} {L : List Tab} (h : Sto W F v L) {b : Nat} (hb : ¬ F b) (o : Nat) (u : Value) : Sto (W.setCell ⟨b, o, none⟩ u) F v L :=
  h.keep (by simp [World.setCell]) (fun k hF => Below.heap_setCell _ _ _ _ (fun e => hb (by rw [← show k = b from e]; exact hF)))
theorem Sto.one {W : World} {F : Nat → Prop} {v : Value} {L : List Tab} (h : Sto W F v L) : ∃ a n cap, v = .slice a n cap := by
  obtain ⟨a, n, cap, T, I, R, e, hp, hl, hs⟩ := h
  exact ⟨a, n, cap, e⟩
theorem Sto.in_ {W : World} {F : Nat → Prop} {v : Value} {L : List Tab} (h : Sto W F v L) : ∃ a n cap T I R, v = .slice a n cap ∧ StoreIn W a n T I R ∧ plainOf T I R n = L := by
  obtain ⟨a, n, cap, T, I, R, e, hp, hl, hs⟩ := h
  exact ⟨a, n, cap, T, I, R, e, hs W (Nat.le_refl _) (fun _ _ => rfl), hp⟩
theorem Sto.wide {W : World} {F F' : Nat → Prop} {v : Value} {L : List Tab} (h : Sto W F v L) (hF : ∀ b, F b → F' b) (hl : ∀ b, F' b → b < W.heap.size) : Sto W F' v L := by
  obtain ⟨a, n, cap, T, I, R, e, hp, _, hs⟩ := h
  exact ⟨a, n, cap, T, I, R, e, hp, hl, fun W2 h1 h2 => hs W2 h1 (fun b hb => h2 b (hF b hb))⟩
/-- A store that came in. -/
theorem Sto.of_in {W : World} {a : Option Addr} {n : Nat} (cap : Nat) {T : Nat → TabV} {I : Nat → Nat → Int} {R : Nat → Nat → R8} (h : StoreIn W a n T I R) : Sto W (fun b => b < W.heap.size) (.slice a n cap) (plainOf T I R n) :=
  ⟨a, n, cap, T, I, R, rfl, rfl, fun _ h => h, fun _ h1 h2 => storeIn_same h h1 (fun b hb => h2 b hb)⟩
theorem ownsRow_same {W W' : World} {B size n : Nat} {e : TypeId} {v : Value} {xs : List Value} (h : W.ownsRow B e size v n xs) (hs : ∀ g, v.ownBlock = some g → W'.heap[g]? = W.heap[g]?) : W'.ownsRow B e size v n xs := by
  refine ⟨h.1, ?_⟩
  rcases h.2 with h0 | ⟨g, c, cur, rfl, hb, hg, h3, h4, h5, h6⟩
  · exact Or.inl h0
  · exact Or.inr ⟨g, c, cur, rfl, hb, (hs g rfl).trans hg, h3, h4, h5, h6⟩
theorem Own.same {W W' : World} {B : Nat} {v : Value} {S : List OT} (h : Own W B v S) (hs : ∀ b, b ∈ v.ownBlock.toList ++ blocks S → W'.heap[b]? = W.heap[b]?) : Own W' B v S := by
  refine ⟨ownsRow_same h.1 (fun g hg => hs g (List.mem_append.2 (Or.inl (by simp [hg])))), fun o ho => ?_, h.2.2⟩
  have hm : ∀ g ∈ otBlocks o, W'.heap[g]? = W.heap[g]? := fun g hg => hs g (List.mem_append.2 (Or.inr (List.mem_flatMap.2 ⟨o, ho, hg⟩)))
  exact ⟨ownsRow_same (h.2.1 o ho).1 (fun g hg => hm g (by simp [otBlocks, hg])), ownsRow_same (h.2.1 o ho).2 (fun g hg => hm g (by simp [otBlocks, hg]))⟩
/-- A store of one's own. -/
theorem Sto.of_own {W : World} {B : Nat} {v : Value} {S : List OT} (h : Own W B v S) (hin : ∀ (W' : World) (a : Option Addr) (c : Nat), v = .slice a S.length c → Own W' B v S → StoreIn W' a S.length (tvOf S) (idOf S) (rwOf S)) : Sto W (fun b => B ≤ b ∧ b ∈ v.ownBlock.toList ++ blocks S) v (S.map (·.t)) := by
  obtain ⟨a, c, e⟩ := own_form h.1
  exact ⟨a, S.length, c, tvOf S, idOf S, rwOf S, e, plain_own S, fun b hb => (h.lt b hb.2).2, fun W' _ h2 => hin W' a c e (Own.same h (fun b hb => h2 b ⟨(h.lt b hb).1, hb⟩))⟩
theorem Sto.good {W : World} {F : Nat → Prop} {v : Value} {L : List Tab} (h : Sto W F v L) (next : Int) :
    Calls Tryz.prog 44 #[.agg #[v, .int .i64 next]] W fun e w' => (∃ g, e = .returned (.bool g) ∧ (g = true ↔ GoodL next L)) ∧ Below W.heap.size W w' := by
  obtain ⟨a, n, cap, T, I, R, rfl, hin, rfl⟩ := h.in_
  exact hin.good cap next
theorem Sto.get_some {W : World} {F : Nat → Prop} {v : Value} {L : List Tab} (h : Sto W F v L) {nx : Int} (hg : GoodL nx L) (next id m : Int) (r : R8) (hat : At L id m r) :
    Calls Tryz.prog 25 #[.agg #[v, .int .i64 next], .int .i64 id] W fun e w' => e = .returned (.tuple #[.int .i64 m, .agg #[.int .i64 r.x, .int .i64 r.y, .int .i64 r.px, .int .i64 r.py, .int .i64 r.wd, .int .i64 r.ht, .int .i64 r.ms, .int .i64 r.rr], .bool true]) ∧ Below W.heap.size W w' := by
  obtain ⟨a, n, cap, T, I, R, rfl, hin, rfl⟩ := h.in_
  exact hin.get_some hg.even hg.2.2.2.2.2 cap next id m r hat
theorem Sto.get_none {W : World} {F : Nat → Prop} {v : Value} {L : List Tab} (h : Sto W F v L) {nx : Int} (hg : GoodL nx L) (next id : Int) (hno : id ∉ allL L) :
    Calls Tryz.prog 25 #[.agg #[v, .int .i64 next], .int .i64 id] W fun e w' => e = .returned (.tuple #[.int .i64 0, .agg #[.int .i64 0, .int .i64 0, .int .i64 0, .int .i64 0, .int .i64 0, .int .i64 0, .int .i64 0, .int .i64 0], .bool false]) ∧ Below W.heap.size W w' := by
  obtain ⟨a, n, cap, T, I, R, rfl, hin, rfl⟩ := h.in_
  exact hin.get_none hg.even cap next id hno
theorem Sto.size {W : World} {F : Nat → Prop} {v : Value} {L : List Tab} (h : Sto W F v L) {nx : Int} (hg : GoodL nx L) (next : Int) :
    Calls Tryz.prog 26 #[.agg #[v, .int .i64 next]] W fun e w' => e = .returned (.int .i64 (allL L).length) ∧ Below W.heap.size W w' := by
  obtain ⟨a, n, cap, T, I, R, rfl, hin, rfl⟩ := h.in_
  exact hin.size hg cap next
theorem own_sto {W : World} {B : Nat} {v : Value} {S : List OT} {next : Int} (h : Own W B v S) (hg : GoodL next (S.map (·.t))) : ∃ F, Sto W F v (S.map (·.t)) ∧ ∀ b, F b → B ≤ b :=
  ⟨_, Sto.of_own h (fun _ _ _ e ho => by rw [e] at ho; exact (own_good ho rfl hg).1), fun _ hb => hb.1⟩
theorem flat_le {L L' : List Tab} (h : L.Sublist L') : (allL L).length ≤ (allL L').length := by
  induction h with
  | slnil => exact Nat.le_refl _
  | cons a h ih => simp only [allL, List.flatMap_cons, List.length_append] at ih ⊢; omega
  | cons_cons a h ih => simp only [allL, List.flatMap_cons, List.length_append] at ih ⊢; omega
theorem Sto.query {W : World} {F : Nat → Prop} {v : Value} {L : List Tab} (h : Sto W F v L) {nx : Int} (hg : GoodL nx L) (next m : Int) :
    Calls Tryz.prog 34 #[.agg #[v, .int .i64 next], .int .i64 m] W fun e w' =>
      (∃ a c, e = .returned (.slice a (idsOf m L).length c) ∧ w'.ownsRow W.heap.size 3 1 (.slice a (idsOf m L).length c) (idsOf m L).length ((idsOf m L).map (Value.int .i64))) ∧ Below W.heap.size W w' := by
  obtain ⟨a, n, cap, T, I, R, rfl, hin, rfl⟩ := h.in_
  have hn31 := (goodL_n (fun i hi => (hin.hz i hi).1) hg).1
  refine (query_any a n cap next m T I W (by unfold maxLen; omega) hin.tabs hin.ids ?_ ?_).mono ?_
  · intro i hi
    have := (hg.2.2.2.2.1 _ (mem_plain.2 ⟨i, hi, rfl⟩)).1
    simp [tabOf] at this
    omega
  · intro k hk
    have h1 : gath T I m k = gathR m (plainOf T I R k) := gath_plain T I R m k
    have h2 : (plainOf T I R k).Sublist (plainOf T I R n) := by
      unfold plainOf
      refine List.Sublist.map _ ?_
      rw [List.range_eq_range', List.range_eq_range']
      exact List.range'_sublist_right.2 hk
    have h3 := (gath_sub m (plainOf T I R k)).length_le
    have h4 : (allL (plainOf T I R k)).length ≤ (allL (plainOf T I R n)).length := flat_le h2
    rw [h1]
    have := hg.2.1
    omega
  · rintro e w' ⟨⟨u, rfl, ho⟩, hb⟩
    have e1 : gath T I m n = gathR m (plainOf T I R n) := gath_plain T I R m n
    have e2 : (gath T I m n).length = (idsOf m (plainOf T I R n)).length := by rw [e1]; unfold idsOf; rw [List.length_mergeSort]
    rw [e2, e1] at ho
    obtain ⟨a', c', rfl⟩ := own_form ho
    exact ⟨⟨a', c', rfl, ho⟩, hb⟩
/-- Set over a good store: another row of a thing, if its mask may have it. -/
theorem Sto.set {W : World} {F : Nat → Prop} {v : Value} {L : List Tab} (h : Sto W F v L) (next : Int) (hg : GoodL next L) (id m : Int) (q r : R8) (hat : At L id m q) :
    Calls Tryz.prog 107 #[.agg #[v, .int .i64 next], .int .i64 id, .agg #[.int .i64 r.x, .int .i64 r.y, .int .i64 r.px, .int .i64 r.py, .int .i64 r.wd, .int .i64 r.ht, .int .i64 r.ms, .int .i64 r.rr]] W fun e w' =>
      (∃ a n c ec, e = .returned (.tuple #[.agg #[.slice a n c, .int .i64 next], .int .i64 ec]) ∧ ∃ F', Sto w' F' (.slice a n c) (if goodRowB m r then setL id r L else L) ∧ ∀ b, F' b → W.heap.size ≤ b) ∧ Below W.heap.size W w' := by
  obtain ⟨a, n, cap, T, I, R, rfl, hin, rfl⟩ := h.in_
  refine (set_any a n cap next id r T I R W hin).mono ?_
  rintro e w' ⟨⟨u, ec, rfl, S, ho, hout⟩, hb⟩
  obtain ⟨a', c', rfl⟩ := own_form ho.1
  have huniq : ∀ m' q', At (plainOf T I R n) id m' q' → m' = m := fun m' q' h' => (at_unique hg.2.2.2.2.2 h' hat).1
  refine ⟨⟨a', S.length, c', ec, rfl, ?_⟩, hb⟩
  rcases hout with ⟨_, h1, _⟩ | ⟨_, _, h1, _⟩ | ⟨_, _, ⟨m', q', h1, h2⟩, h3⟩ | ⟨_, _, ⟨m', q', h1, h2⟩, h3⟩
  · exact absurd hg h1
  · exact absurd (at_mem hat) h1
  · rw [huniq m' q' h1] at h2
    rw [if_neg (by simp [h2]), ← h3]
    exact own_sto (next := next) ho (by rw [h3]; exact hg)
  · have h2' := h2
    rw [huniq m' q' h1] at h2'
    rw [if_pos h2', ← h3]
    refine own_sto (next := next) ho ?_
    rw [h3]
    exact good_set hg (fun m'' q'' h'' => by rw [huniq m'' q'' h'']; exact h2')
/-- Clone: the same store, in memory of its own. -/
theorem Sto.clone {W : World} {F : Nat → Prop} {v : Value} {L : List Tab} (h : Sto W F v L) (next : Int) :
    Calls Tryz.prog 40 #[.agg #[v, .int .i64 next]] W fun e w' => (∃ a n c, e = .returned (.agg #[.slice a n c, .int .i64 next]) ∧ ∃ F', Sto w' F' (.slice a n c) L ∧ ∀ b, F' b → W.heap.size ≤ b) ∧ Below W.heap.size W w' := by
  obtain ⟨a, n, cap, T, I, R, rfl, hin, rfl⟩ := h.in_
  refine (clone_any a n cap next T I R W hin.tabs hin.ids hin.rows hin.fits).mono ?_
  rintro e w' ⟨⟨u, rfl, S, ho, hpl⟩, hb⟩
  obtain ⟨a', c', rfl⟩ := own_form ho.1
  have hl : S.length = n := by have := congrArg List.length hpl; simpa [plainOf] using this
  have hget : ∀ i (hi : i < S.length), S[i].t = tabOf T I R i := fun i hi => by
    have h1 : (S.map (·.t))[i]? = some S[i].t := by rw [List.getElem?_map, List.getElem?_eq_getElem hi]; rfl
    have h2 : (plainOf T I R n)[i]? = some (tabOf T I R i) := by simp [plainOf, show i < n by omega]
    rw [hpl, h2] at h1
    exact (Option.some.inj h1).symm
  have hst := Sto.of_own ho (fun W' a'' c'' e2 ho => ?_)
  · rw [hpl] at hst
    exact ⟨⟨a', S.length, c', rfl, _, hst, fun b hb => hb.1⟩, hb⟩
  cases e2
  refine ⟨tabs_own ho rfl, ?_, ?_, ⟨by have := hin.fits.1; omega, ?_, ?_⟩, ?_⟩
  · intro i hi
    have hs : S[i]? = some S[i] := List.getElem?_eq_getElem hi
    have := ids_own (ho.2.1 _ (List.getElem_mem hi)).1
    have ef : (idOf S i) = fun j => S[i].t.ids.getD j 0 := by funext j; simp [idOf, hs]
    rw [ef]
    simpa only [tvOf, hs] using this
  · intro i hi
    have hs : S[i]? = some S[i] := List.getElem?_eq_getElem hi
    have := rows_own (ho.2.1 _ (List.getElem_mem hi)).2
    have ef : (rwOf S i) = fun j => S[i].t.rows.getD j zeroR := by funext j; simp [rwOf, hs]
    rw [ef]
    simpa only [tvOf, hs] using this
  · intro e
    rcases ho.1.2 with ⟨_, h0⟩ | ⟨g, c'', cur, e', _⟩
    · exact h0
    · rw [e] at e'; cases e'
  · intro i hi
    have hs : S[i]? = some S[i] := List.getElem?_eq_getElem hi
    have h1 := hin.fits.2.2 i (by omega)
    have e1 := (slice_own (ho.2.1 _ (List.getElem_mem hi)).1).2
    have e2 := (slice_own (ho.2.1 _ (List.getElem_mem hi)).2).2
    have ht := hget i hi
    simp only [tvOf, hs]
    have l1 : S[i].t.ids.length = (T i).il := by rw [ht]; simp [tabOf]
    have l2 : S[i].t.rows.length = (T i).rl := by rw [ht]; simp [tabOf]
    exact ⟨by omega, by omega, e1, e2⟩
  · intro i hi j hj
    have hs : S[i]? = some S[i] := List.getElem?_eq_getElem hi
    simp only [tvOf, hs] at hj
    simp only [idOf, hs, Option.map_some, Option.getD_some]
    have l1 : S[i].t.ids.length = (T i).il := by rw [hget i hi]; simp [tabOf]
    have : S[i].t.ids.getD j 0 = I i j := by
      simp only [hget i hi, tabOf]
      simp [List.getD, show j < (T i).il by omega]
    rw [this]
    exact hin.wf i (by omega) j (by omega)

theorem row8c {W : World} {b : Nat} {r : R8} (h : W.rowIs b 56 8 (fun i => (St.rowCells r).getD i undef)) : W.cell? ⟨b, 0, none⟩ = some (.int .i64 r.x) ∧ W.cell? ⟨b, 1, none⟩ = some (.int .i64 r.y) ∧ W.cell? ⟨b, 2, none⟩ = some (.int .i64 r.px) ∧ W.cell? ⟨b, 3, none⟩ = some (.int .i64 r.py) ∧
    W.cell? ⟨b, 4, none⟩ = some (.int .i64 r.wd) ∧ W.cell? ⟨b, 5, none⟩ = some (.int .i64 r.ht) ∧ W.cell? ⟨b, 6, none⟩ = some (.int .i64 r.ms) ∧ W.cell? ⟨b, 7, none⟩ = some (.int .i64 r.rr) :=
  ⟨h.cell (i := 0) (by omega), h.cell (i := 1) (by omega), h.cell (i := 2) (by omega), h.cell (i := 3) (by omega), h.cell (i := 4) (by omega), h.cell (i := 5) (by omega), h.cell (i := 6) (by omega), h.cell (i := 7) (by omega)⟩
theorem has_any (n a : Int) (w : World) : Calls Tryz.prog 81 #[.int .i64 n, .int .i64 a] w fun e w' => e = .returned (.bool (hasB n a)) ∧ w' = w := by
  go_enter Tryz.func81, Tryz.ntmps81
  go_wp2
  go_ret
  exact ⟨ret_bool rfl, rfl⟩
theorem between_any (n a b : Int) (w : World) : Calls Tryz.prog 45 #[.int .i64 n, .int .i64 a, .int .i64 b] w fun e w' => e = .returned (.bool (btw n a b)) ∧ w' = w := by
  go_enter Tryz.func45, Tryz.ntmps45
  go_wp2
  · go_ret
    exact ⟨ret_bool (by simp [btw]; omega), rfl⟩
  · go_ret
    exact ⟨ret_bool (by simp [btw]; omega), rfl⟩
end Go.Proofs.YtckkkdldljhehabGreat.Wd
