/- A world as plain tables and numbers: what one step makes of it; that it keeps its tables, its numbers, who moves. Plain lists, no program. -/
import Derived.Test.YtckkkdldljhehabGreatStGetX
import Derived.Test.YtckkkdldljhehabGreatStQuery
import Derived.Test.YtckkkdldljhehabGreatSwJ
namespace Go.Proofs.YtckkkdldljhehabGreat.Wd
open Go.Proofs.YtckkkdldljhehabGreat.Num Go.Proofs.YtckkkdldljhehabGreat.St

def upd (g : Int → R8) (id : Int) (r : R8) : Int → R8 := fun x => if x = id then r else g x
/-- The tables with other rows. -/
def withRows (L : List Tab) (g : Int → R8) : List Tab := L.map fun t => ⟨t.mask, t.ids, t.ids.map g⟩
def lookT : List Tab → Int → Option (Int × R8)
  | [], _ => none
  | t :: L, v => if v ∈ t.ids then some (t.mask, t.rows.getD (posOf v t.ids) zeroR) else lookT L v
/-- A thing's mask and its row. -/
def mk (L : List Tab) (v : Int) : Int := ((lookT L v).map (·.1)).getD 0
def rw0 (L : List Tab) (v : Int) : R8 := ((lookT L v).map (·.2)).getD zeroR
theorem look_at {L : List Tab} (hn : (allL L).Nodup) {v m : Int} {r : R8} (h : At L v m r) : lookT L v = some (m, r) := by
  induction L with
  | nil => obtain ⟨t, ht, _⟩ := h; cases ht
  | cons t L ih =>
    have hsplit : (t.ids ++ allL L).Nodup := by simpa [allL] using hn
    rw [List.nodup_append] at hsplit
    rcases at_cons.1 h with ⟨hm, j, h1, h2⟩ | h1
    · have hmem : v ∈ t.ids := List.mem_of_getElem? h1
      rw [lookT, if_pos hmem, posOf_get hsplit.1 h1, hm]
      simp [List.getD, h2]
    · have hno : v ∉ t.ids := fun hc => hsplit.2.2 v hc v (at_mem h1) rfl
      rw [lookT, if_neg hno, ih hsplit.2.1 h1]
theorem at_mk {L : List Tab} (hn : (allL L).Nodup) {v m : Int} {r : R8} (h : At L v m r) : mk L v = m ∧ rw0 L v = r := by
  have := look_at hn h
  simp [mk, rw0, this]
theorem with_self {next : Int} {L : List Tab} (hg : GoodL next L) : withRows L (rw0 L) = L := by
  have key : ∀ t ∈ L, (⟨t.mask, t.ids, t.ids.map (rw0 L)⟩ : Tab) = t := by
    intro t ht
    have hl := hg.even t ht
    have : t.ids.map (rw0 L) = t.rows := by
      apply List.ext_getElem?
      intro j
      by_cases hj : j < t.ids.length
      · have h1 : t.ids[j]? = some t.ids[j] := List.getElem?_eq_getElem hj
        have h2 : t.rows[j]? = some t.rows[j] := List.getElem?_eq_getElem (by omega)
        rw [List.getElem?_map, h1, h2]
        simp only [Option.map_some]
        rw [(at_mk hg.2.2.2.2.2 (⟨t, ht, rfl, j, h1, h2⟩ : At L t.ids[j] t.mask t.rows[j])).2]
      · rw [List.getElem?_eq_none (by simpa using hj), List.getElem?_eq_none (by omega)]
    rw [this]
  unfold withRows
  conv => rhs; rw [← List.map_id L]
  exact List.map_congr_left key
theorem allL_with (L : List Tab) (g : Int → R8) : allL (withRows L g) = allL L := by
  simp [allL, withRows, List.flatMap_map]
theorem even_with (L : List Tab) (g : Int → R8) : Even (withRows L g) := by
  intro t ht
  obtain ⟨x, hx, rfl⟩ := List.mem_map.1 ht
  simp
theorem at_with {L : List Tab} (he : Even L) (g : Int → R8) {v m : Int} {r : R8} : At (withRows L g) v m r ↔ (∃ q, At L v m q) ∧ r = g v := by
  constructor
  · rintro ⟨t', ht', rfl, j, h1, h2⟩
    obtain ⟨t, ht, rfl⟩ := List.mem_map.1 ht'
    simp only at h1 h2
    rw [List.getElem?_map, h1] at h2
    have hj := (List.getElem?_eq_some_iff.1 h1).1
    have hl := he t ht
    exact ⟨⟨t.rows[j], t, ht, rfl, j, h1, List.getElem?_eq_getElem (by omega)⟩, by simpa using h2.symm⟩
  · rintro ⟨⟨q, t, ht, rfl, j, h1, h2⟩, rfl⟩
    refine ⟨_, List.mem_map.2 ⟨t, ht, rfl⟩, rfl, j, h1, ?_⟩
    simp only
    rw [List.getElem?_map, h1]
    rfl
theorem set_with (L : List Tab) (g : Int → R8) (v : Int) (r : R8) : setL v r (withRows L g) = withRows L (upd g v r) := by
  unfold setL withRows
  rw [List.map_map]
  apply List.map_congr_left
  intro t _
  simp only [Function.comp, Tab.mk.injEq, true_and]
  generalize t.ids = l
  induction l with
  | nil => rfl
  | cons x l ih => simp [upd, ih]
theorem with_with (L : List Tab) (g h : Int → R8) : withRows (withRows L g) h = withRows L h := by
  simp [withRows]
theorem good_with {next : Int} {L : List Tab} {g : Int → R8} (hg : GoodL next L) (hr : ∀ v m q, At L v m q → goodRowB m (g v) = true) : GoodL next (withRows L g) := by
  obtain ⟨g1, g2, g3, g4, g5, g6⟩ := hg
  have he : Even L := fun t ht => (g5 t ht).2.1
  refine ⟨g1, by rw [allL_with]; exact g2, ?_, ?_, ?_, by rw [allL_with]; exact g6⟩
  · intro t ht
    obtain ⟨x, hx, rfl⟩ := List.mem_map.1 ht
    exact g3 x hx
  · exact List.Pairwise.map _ (fun a b h => h) g4
  · intro t ht
    obtain ⟨x, hx, rfl⟩ := List.mem_map.1 ht
    have hx' := g5 x hx
    refine ⟨hx'.1, by simp, hx'.2.2.1, fun q hq => ?_⟩
    obtain ⟨y, hy, rfl⟩ := List.mem_map.1 hq
    obtain ⟨j, hj⟩ := List.getElem?_of_mem hy
    have hlt := (List.getElem?_eq_some_iff.1 hj).1
    have hl := he x hx
    exact hr y x.mask (x.rows[j]'(by omega)) ⟨x, hx, rfl, j, hj, List.getElem?_eq_getElem (by omega)⟩
theorem good_rows {next : Int} {L : List Tab} {g : Int → R8} (hg : GoodL next (withRows L g)) (he : Even L) {v m : Int} {q : R8} (h : At L v m q) : goodRowB m (g v) = true :=
  (At.good hg ((at_with he g).2 ⟨⟨q, h⟩, rfl⟩)).1
/-- The numbers of all that have a mask's parts, as they stand in the tables. -/
def gathR (m : Int) (L : List Tab) : List Int := L.flatMap fun t => if hasB t.mask m then t.ids else []
theorem gath_with (m : Int) (L : List Tab) (g : Int → R8) : gathR m (withRows L g) = gathR m L := by
  simp [gathR, withRows, List.flatMap_map]
theorem gath_plain (T : Nat → TabV) (I : Nat → Nat → Int) (R : Nat → Nat → R8) (m : Int) (n : Nat) : gath T I m n = gathR m (plainOf T I R n) := by
  induction n with
  | zero => simp [gath, gathR, plainOf]
  | succ n ih =>
    rw [gath, ih]
    simp only [gathR, plainOf, List.range_succ, List.map_append, List.flatMap_append, List.map_cons, List.map_nil, List.flatMap_cons, List.flatMap_nil, List.append_nil, tabOf]
    split <;> simp
theorem mem_gath {m v : Int} {L : List Tab} (he : Even L) : v ∈ gathR m L ↔ ∃ q r, At L v q r ∧ hasB q m = true := by
  constructor
  · intro h
    obtain ⟨t, ht, hx⟩ := List.mem_flatMap.1 h
    split at hx
    · rename_i hb
      obtain ⟨j, hj⟩ := List.getElem?_of_mem hx
      have hlt := (List.getElem?_eq_some_iff.1 hj).1
      have hl := he t ht
      exact ⟨t.mask, t.rows[j]'(by omega), ⟨t, ht, rfl, j, hj, List.getElem?_eq_getElem (by omega)⟩, hb⟩
    · cases hx
  · rintro ⟨q, r, ⟨t, ht, rfl, j, h1, h2⟩, hb⟩
    exact List.mem_flatMap.2 ⟨t, ht, by rw [if_pos hb]; exact List.mem_of_getElem? h1⟩
theorem gath_sub (m : Int) (L : List Tab) : (gathR m L).Sublist (allL L) := by
  induction L with
  | nil => simp [gathR, allL]
  | cons t L ih =>
    simp only [gathR, allL, List.flatMap_cons] at ih ⊢
    refine List.Sublist.append ?_ ih
    split
    · exact List.Sublist.refl _
    · exact List.nil_sublist _
def idsOf (m : Int) (L : List Tab) : List Int := (gathR m L).mergeSort fun x y => decide (x ≤ y)
theorem mem_ids {m v : Int} {L : List Tab} (he : Even L) : v ∈ idsOf m L ↔ ∃ q r, At L v q r ∧ hasB q m = true := by
  unfold idsOf
  rw [List.mem_mergeSort, mem_gath he]
theorem ids_len {next m : Int} {L : List Tab} (hg : GoodL next L) : (idsOf m L).length ≤ 10 := by
  unfold idsOf
  rw [List.length_mergeSort]
  exact Nat.le_trans (gath_sub m L).length_le hg.2.1
theorem ids_with (m : Int) (L : List Tab) (g : Int → R8) : idsOf m (withRows L g) = idsOf m L := by unfold idsOf; rw [gath_with]

/-- A thing that moves gets another row; what does not move, or a row that is none, changes nothing. -/
def putG (M : Int → Int) (g : Int → R8) (id : Int) (r : R8) : Int → R8 := if hasB (M id) 11 && goodRowB (M id) r then upd g id r else g
def fallR (fall m : Int) (r : R8) : R8 := if hasB m 16 then { r with py := ad r.py (fall * r.ms) 16777216 } else r
def goRow (r : R8) : R8 := { r with x := ad r.x (spd r.px r.ms) 1048576, y := ad r.y (spd r.py r.ms) 1048576 }
def go1 (M : Int → Int) (fall : Int) (g : Int → R8) (id : Int) : Int → R8 := putG M g id (goRow (fallR fall (M id) (g id)))
def goOnG (M : Int → Int) (fall : Int) (l : List Int) (g : Int → R8) : Int → R8 := l.foldl (go1 M fall) g
def bodyR (m : Int) (r : R8) : R8 := if hasB m 11 then r else { r with ms := 0, px := 0, py := 0 }
def overG (M : Int → Int) (g : Int → R8) (p : Int × Int) : Bool := overB (bodyR (M p.1) (g p.1)) (bodyR (M p.2) (g p.2))
def meet1 (M : Int → Int) (s : (Int → R8) × List (Int × Int)) (p : Int × Int) : (Int → R8) × List (Int × Int) :=
  if overG M s.1 p then (putG M (putG M s.1 p.1 (met (bodyR (M p.1) (s.1 p.1)) (bodyR (M p.2) (s.1 p.2))).1) p.2 (met (bodyR (M p.1) (s.1 p.1)) (bodyR (M p.2) (s.1 p.2))).2, s.2 ++ [p]) else s
def meetG (M : Int → Int) (l : List (Int × Int)) (g : Int → R8) : (Int → R8) × List (Int × Int) := l.foldl (meet1 M) (g, [])
def wallX (wide : Int) (r : R8) : R8 := { r with x := wallAt r.x r.wd wide, px := wallPush r.x r.px r.wd wide r.rr }
def wallY (high : Int) (r : R8) : R8 := { r with y := wallAt r.y r.ht high, py := wallPush r.y r.py r.ht high r.rr }
def wall1 (M : Int → Int) (wide high : Int) (g : Int → R8) (id : Int) : Int → R8 := putG M g id (wallY high (wallX wide (g id)))
def wallG (M : Int → Int) (wide high : Int) (l : List Int) (g : Int → R8) : Int → R8 := l.foldl (wall1 M wide high) g
def boxOf (g : Int → R8) (id : Int) : Sw.B5 := ⟨id, (g id).x - (g id).wd, (g id).y - (g id).ht, (g id).x + (g id).wd, (g id).y + (g id).ht⟩
def boxG (L : List Tab) (g : Int → R8) : List Sw.B5 := (idsOf 5 L).map (boxOf g)
def stepG (L : List Tab) (fall wide high : Int) : (Int → R8) × List (Int × Int) :=
  (wallG (mk L) wide high (idsOf 11 L) (meetG (mk L) (Sw.pairsG (boxG L (goOnG (mk L) fall (idsOf 11 L) (rw0 L)))) (goOnG (mk L) fall (idsOf 11 L) (rw0 L))).1,
   (meetG (mk L) (Sw.pairsG (boxG L (goOnG (mk L) fall (idsOf 11 L) (rw0 L)))) (goOnG (mk L) fall (idsOf 11 L) (rw0 L))).2)
def putL (m id : Int) (r : R8) (L : List Tab) : List Tab := if hasB m 11 && goodRowB m r then setL id r L else L
theorem putL_with {L : List Tab} (hn : (allL L).Nodup) {g : Int → R8} {id m : Int} {q : R8} (hat : At L id m q) (r : R8) : putL m id r (withRows L g) = withRows L (putG (mk L) g id r) := by
  unfold putL putG
  rw [(at_mk hn hat).1]
  split
  · exact set_with L g id r
  · rfl
/-- Every row stays one that its mask may have. -/
def RowsOk (L : List Tab) (g : Int → R8) : Prop := ∀ v m q, At L v m q → goodRowB m (g v) = true
theorem RowsOk.put {L : List Tab} (hn : (allL L).Nodup) {g : Int → R8} (h : RowsOk L g) (id : Int) (r : R8) : RowsOk L (putG (mk L) g id r) := by
  unfold putG
  split
  · rename_i hb
    simp only [Bool.and_eq_true] at hb
    intro v m q hat
    unfold upd
    split
    · rename_i e
      subst e
      rw [← (at_mk hn hat).1]
      exact hb.2
    · exact h v m q hat
  · exact h
theorem RowsOk.go {L : List Tab} (hn : (allL L).Nodup) {g : Int → R8} (h : RowsOk L g) (fall : Int) (l : List Int) : RowsOk L (goOnG (mk L) fall l g) := by
  unfold goOnG
  induction l generalizing g with
  | nil => exact h
  | cons x l ih => exact ih (RowsOk.put hn h _ _)
theorem RowsOk.meet1 {L : List Tab} (hn : (allL L).Nodup) {s : (Int → R8) × List (Int × Int)} (h : RowsOk L s.1) (p : Int × Int) : RowsOk L (meet1 (mk L) s p).1 := by
  unfold Wd.meet1
  split
  · exact RowsOk.put hn (RowsOk.put hn h _ _) _ _
  · exact h
theorem RowsOk.meet {L : List Tab} (hn : (allL L).Nodup) {g : Int → R8} (h : RowsOk L g) (l : List (Int × Int)) : RowsOk L (meetG (mk L) l g).1 := by
  unfold meetG
  have key : ∀ (l : List (Int × Int)) (s : (Int → R8) × List (Int × Int)), RowsOk L s.1 → RowsOk L (l.foldl (Wd.meet1 (mk L)) s).1 := by
    intro l
    induction l with
    | nil => intro s hs; exact hs
    | cons p l ih => intro s hs; exact ih _ (RowsOk.meet1 hn hs p)
  exact key l (g, []) h
theorem RowsOk.wall {L : List Tab} (hn : (allL L).Nodup) {g : Int → R8} (h : RowsOk L g) (wide high : Int) (l : List Int) : RowsOk L (wallG (mk L) wide high l g) := by
  unfold wallG
  induction l generalizing g with
  | nil => exact h
  | cons x l ih => exact ih (RowsOk.put hn h _ _)
theorem rows_ok {next : Int} {L : List Tab} (hg : GoodL next L) : RowsOk L (rw0 L) := fun v m q h => by
  rw [(at_mk hg.2.2.2.2.2 h).2]
  exact (At.good hg h).1
end Go.Proofs.YtckkkdldljhehabGreat.Wd
