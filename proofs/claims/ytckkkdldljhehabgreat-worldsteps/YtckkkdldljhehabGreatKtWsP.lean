/- The document's own step over things by number, as plain lists: what its three rounds make of the rows is what a world's step makes of them. Plain lists, no program. -/
import Derived.Test.YtckkkdldljhehabGreatPkG
import Derived.Test.YtckkkdldljhehabGreatPkO
import Derived.Test.YtckkkdldljhehabGreatPkM
namespace Go.Proofs.YtckkkdldljhehabGreat.Ws
open Go.Proofs.YtckkkdldljhehabGreat.Num Go.Proofs.YtckkkdldljhehabGreat.St Go.Proofs.YtckkkdldljhehabGreat.Mp Go.Proofs.YtckkkdldljhehabGreat.Th Go.Proofs.YtckkkdldljhehabGreat.Wd

/-- The numbers of all things, rising. -/
def ks (L : List Tab) : List Int := (thM L).map (·.1)
theorem ks_up (L : List Tab) : (ks L).Pairwise (· < ·) := keys_up (thM_up L)
theorem mem_ks {L : List Tab} (he : Even L) {v : Int} : v ∈ ks L ↔ v ∈ allL L := by
  unfold ks
  rw [← getM_some_iff, thM_has he]
  simp
theorem ks_with {L : List Tab} (he : Even L) (g : Int → R8) : (thM (withRows L g)).map (·.1) = ks L :=
  up_ext (keys_up (thM_up _)) (ks_up L) (fun v => by rw [show (thM (withRows L g)).map (·.1) = ks (withRows L g) from rfl, mem_ks (even_with L g), mem_ks he, allL_with])
theorem ks_len {next : Int} {L : List Tab} (hg : GoodL next L) : (ks L).length ≤ 10 := by
  unfold ks
  rw [List.length_map, thM_len hg.even hg.2.2.2.2.2]
  exact hg.2.1
theorem th_len {next : Int} {L : List Tab} (hg : GoodL next L) (g : Int → R8) : (thM (withRows L g)).length = (ks L).length := by
  rw [← ks_with hg.even g, List.length_map]
theorem at_all {L : List Tab} (he : Even L) (hn : (allL L).Nodup) {v : Int} (h : v ∈ allL L) : ∃ r, At L v (mk L v) r := by
  obtain ⟨m, r, hat⟩ := at_of_mem he h
  exact ⟨r, by rw [(at_mk hn hat).1]; exact hat⟩
theorem get_with {L : List Tab} (he : Even L) (hn : (allL L).Nodup) (g : Int → R8) {v : Int} (h : v ∈ allL L) : getM v (thM (withRows L g)) = some ⟨mk L v, g v⟩ := by
  obtain ⟨r, hat⟩ := at_all he hn h
  exact (thM_get (even_with L g) (by rw [allL_with]; exact hn)).2 ((at_with he g).2 ⟨⟨r, hat⟩, rfl⟩)
theorem get_out {L : List Tab} (g : Int → R8) {v : Int} (h : v ∉ allL L) : getM v (thM (withRows L g)) = none :=
  (thM_none (even_with L g)).2 (by rw [allL_with]; exact h)
theorem put_with {L : List Tab} (he : Even L) (hn : (allL L).Nodup) (g : Int → R8) {v : Int} (h : v ∈ allL L) (r : R8) : putM v ⟨mk L v, r⟩ (thM (withRows L g)) = thM (withRows L (upd g v r)) := by
  refine ((thM_up _).put v _).ext (thM_up _) (fun j => ?_)
  rw [getM_put (thM_up _)]
  by_cases hj : j = v
  · subst hj
    rw [if_pos rfl, get_with he hn _ h]
    simp [upd]
  · rw [if_neg hj]
    by_cases hm : j ∈ allL L
    · rw [get_with he hn _ hm, get_with he hn _ hm]
      simp [upd, hj]
    · rw [get_out g hm, get_out _ hm]
theorem ids_hav {next m : Int} {L : List Tab} (hg : GoodL next L) (g : Int → R8) : havM m (thM (withRows L g)) = idsOf m L := by
  have hu : (idsOf m L).Pairwise (· < ·) := by
    have h1 := ids_sorted m L
    have h2 := ids_nodup hg m
    have h3 := h1.and (List.nodup_iff_pairwise_ne.1 h2)
    exact h3.imp (fun h => by omega)
  refine up_ext (keys_up (List.Pairwise.filter _ (thM_up _))) hu (fun x => ?_)
  rw [mem_ids hg.even]
  unfold havM
  rw [List.mem_map]
  constructor
  · rintro ⟨p, hp, rfl⟩
    obtain ⟨h1, h2⟩ := List.mem_filter.1 hp
    have h3 := (thM_get (even_with L g) (by rw [allL_with]; exact hg.2.2.2.2.2)).1 (getM_of_mem (thM_up _) (k := p.1) (t := p.2) h1)
    obtain ⟨⟨q, h4⟩, -⟩ := (at_with hg.even g).1 h3
    exact ⟨p.2.m, q, h4, h2⟩
  · rintro ⟨q, r, hat, hb⟩
    refine ⟨(x, ⟨q, g x⟩), List.mem_filter.2 ⟨getM_mem ((thM_get (even_with L g) (by rw [allL_with]; exact hg.2.2.2.2.2)).2 ((at_with hg.even g).2 ⟨⟨r, hat⟩, rfl⟩)), hb⟩, rfl⟩
theorem ks_filter {next m : Int} {L : List Tab} (hg : GoodL next L) : (ks L).filter (fun v => hasB (mk L v) m) = idsOf m L := by
  rw [← ids_hav hg (rw0 L), with_self hg]
  unfold ks havM
  rw [List.filter_map]
  congr 1
  apply List.filter_congr
  intro p hp
  have h1 := (thM_get hg.even hg.2.2.2.2.2).1 (getM_of_mem (thM_up L) (k := p.1) (t := p.2) hp)
  simp [(at_mk hg.2.2.2.2.2 h1).1]

/-! The three rounds. -/
def goD (M : Int → Int) (fall : Int) (g : Int → R8) (v : Int) : Int → R8 := if hasB (M v) 11 then upd g v (goRow (fallR fall (M v) (g v))) else g
def wallD (M : Int → Int) (wide high : Int) (g : Int → R8) (v : Int) : Int → R8 := if hasB (M v) 11 then upd g v (wallY high (wallX wide (g v))) else g
def metD (M : Int → Int) (g : Int → R8) (p : Int × Int) : R8 × R8 := met (bodyR (M p.1) (g p.1)) (bodyR (M p.2) (g p.2))
def putA (M : Int → Int) (g : Int → R8) (v : Int) (r : R8) : Int → R8 := if hasB (M v) 11 then upd g v r else g
def meetD (M : Int → Int) (s : (Int → R8) × List (Int × Int)) (p : Int × Int) : (Int → R8) × List (Int × Int) :=
  if overG M s.1 p then (putA M (putA M s.1 p.1 (metD M s.1 p).1) p.2 (metD M s.1 p).2, s.2 ++ [p]) else s
theorem good_go {m : Int} {r : R8} (fall : Int) (h : goodRowB m r = true) (hm : hasB m 11 = true) : goodRowB m (goRow (fallR fall m r)) = true := by
  have hb := row_bounds h
  obtain ⟨b1, b2, b3, b4, -⟩ := hb
  refine good_change h hm ?_ ?_ ?_ ?_ (ad_le _ _ _ (by omega)) (ad_le _ _ _ (by omega)) ?_ ?_
  · simp only [goRow, fallR]; split <;> rfl
  · simp only [goRow, fallR]; split <;> rfl
  · simp only [goRow, fallR]; split <;> rfl
  · simp only [goRow, fallR]; split <;> rfl
  · simp only [goRow, fallR]; split <;> exact b3
  · simp only [goRow, fallR]; split
    · exact ad_le _ _ _ (by omega)
    · exact b4
theorem left_in (p rr : Int) (hp : -16777216 ≤ p ∧ p ≤ 16777216) (x half wide : Int) : -16777216 ≤ wallPush x p half wide rr ∧ wallPush x p half wide rr ≤ 16777216 := by
  have h := left_le p rr (by omega)
  have h2 : ab p ≤ 16777216 := by unfold ab; omega
  unfold wallPush
  split
  · omega
  · split
    · omega
    · exact hp
theorem at_in {x half wide : Int} (hx : -1048576 ≤ x ∧ x ≤ 1048576) (hh : 0 ≤ half ∧ half ≤ 4096) : -1048576 ≤ wallAt x half wide ∧ wallAt x half wide ≤ 1048576 := by
  unfold wallAt
  split
  · omega
  · split <;> omega
theorem good_wall {m : Int} {r : R8} (wide high : Int) (h : goodRowB m r = true) (hm : hasB m 11 = true) : goodRowB m (wallY high (wallX wide r)) = true := by
  obtain ⟨b1, b2, b3, b4, b5, b6, -⟩ := row_bounds h
  exact good_change h hm rfl rfl rfl rfl (at_in b1 b5) (at_in b2 b6) (left_in _ _ b3 _ _ _) (left_in _ _ b4 _ _ _)
theorem go_eq {next : Int} {L : List Tab} (hg : GoodL next L) (fall : Int) (l : List Int) (hl : ∀ v ∈ l, v ∈ allL L) {g : Int → R8} (hok : RowsOk L g) :
    l.foldl (goD (mk L) fall) g = goOnG (mk L) fall (l.filter (fun v => hasB (mk L v) 11)) g ∧ RowsOk L (l.foldl (goD (mk L) fall) g) := by
  have hn := hg.2.2.2.2.2
  unfold goOnG
  induction l generalizing g with
  | nil => exact ⟨rfl, hok⟩
  | cons x l ih =>
    have hl' : ∀ v ∈ l, v ∈ allL L := fun v hv => hl v (List.mem_cons_of_mem _ hv)
    rw [List.foldl_cons]
    by_cases hb : hasB (mk L x) 11 = true
    · rw [List.filter_cons_of_pos (p := fun v => hasB (mk L v) 11) hb, List.foldl_cons]
      obtain ⟨q, hat⟩ := at_all hg.even hn (hl x (List.mem_cons_self ..))
      have hgo := good_go fall (hok x _ q hat) hb
      have e : goD (mk L) fall g x = go1 (mk L) fall g x := by
        unfold goD go1 putG
        rw [if_pos hb, if_pos (by rw [hb, hgo]; rfl)]
      rw [e]
      exact ih hl' (RowsOk.put hn hok _ _)
    · rw [List.filter_cons_of_neg (p := fun v => hasB (mk L v) 11) hb]
      have e : goD (mk L) fall g x = g := by
        unfold goD
        rw [if_neg hb]
      rw [e]
      exact ih hl' hok
theorem wall_eq {next : Int} {L : List Tab} (hg : GoodL next L) (wide high : Int) (l : List Int) (hl : ∀ v ∈ l, v ∈ allL L) {g : Int → R8} (hok : RowsOk L g) :
    l.foldl (wallD (mk L) wide high) g = wallG (mk L) wide high (l.filter (fun v => hasB (mk L v) 11)) g ∧ RowsOk L (l.foldl (wallD (mk L) wide high) g) := by
  have hn := hg.2.2.2.2.2
  unfold wallG
  induction l generalizing g with
  | nil => exact ⟨rfl, hok⟩
  | cons x l ih =>
    have hl' : ∀ v ∈ l, v ∈ allL L := fun v hv => hl v (List.mem_cons_of_mem _ hv)
    rw [List.foldl_cons]
    by_cases hb : hasB (mk L x) 11 = true
    · rw [List.filter_cons_of_pos (p := fun v => hasB (mk L v) 11) hb, List.foldl_cons]
      obtain ⟨q, hat⟩ := at_all hg.even hn (hl x (List.mem_cons_self ..))
      have hgo := good_wall wide high (hok x _ q hat) hb
      have e : wallD (mk L) wide high g x = wall1 (mk L) wide high g x := by
        unfold wallD wall1 putG
        rw [if_pos hb, if_pos (by rw [hb, hgo]; rfl)]
      rw [e]
      exact ih hl' (RowsOk.put hn hok _ _)
    · rw [List.filter_cons_of_neg (p := fun v => hasB (mk L v) 11) hb]
      have e : wallD (mk L) wide high g x = g := by
        unfold wallD
        rw [if_neg hb]
      rw [e]
      exact ih hl' hok
theorem putA_eq {M : Int → Int} {g : Int → R8} {v : Int} {r : R8} (h : hasB (M v) 11 = true → goodRowB (M v) r = true) : putA M g v r = putG M g v r := by
  unfold putA putG
  by_cases hb : hasB (M v) 11 = true
  · rw [if_pos hb, if_pos (by rw [hb, h hb]; rfl)]
  · rw [if_neg hb, if_neg (by simp [hb])]
theorem bodyR_moves {m : Int} {r : R8} (h : hasB m 11 = true) : bodyR m r = r := by unfold bodyR; rw [if_pos h]
theorem over_good {a b : R8} (h : overB a b = true) : GoodP a ∧ GoodP b := by
  simp only [overB, Bool.and_eq_true] at h
  exact ⟨(goodB_iff a).1 (by simp [h]), (goodB_iff b).1 (by simp [h])⟩
theorem good_met {m : Int} {r x : R8} (h : goodRowB m r = true) (hm : hasB m 11 = true) (gx : GoodP x) (h1 : x.wd = r.wd) (h2 : x.ht = r.ht) (h3 : x.ms = r.ms) (h4 : x.rr = r.rr) : goodRowB m x = true := by
  exact good_change h hm h1 h2 h3 h4 gx.x gx.y gx.px gx.py
theorem meet_one {next : Int} {L : List Tab} (hg : GoodL next L) {s : (Int → R8) × List (Int × Int)} (hok : RowsOk L s.1) {p : Int × Int} (h1 : p.1 ∈ allL L) (h2 : p.2 ∈ allL L) : meetD (mk L) s p = meet1 (mk L) s p := by
  have hn := hg.2.2.2.2.2
  unfold meetD meet1
  split
  · rename_i ho
    obtain ⟨ga, gb⟩ := over_good ho
    obtain ⟨g1, g2⟩ := met_good _ _ ga gb
    have hk := met_kept (bodyR (mk L p.1) (s.1 p.1)) (bodyR (mk L p.2) (s.1 p.2))
    obtain ⟨q1, a1⟩ := at_all hg.even hn h1
    obtain ⟨q2, a2⟩ := at_all hg.even hn h2
    unfold metD
    rw [putA_eq (r := (met (bodyR (mk L p.1) (s.1 p.1)) (bodyR (mk L p.2) (s.1 p.2))).1) (fun hb => ?_), putA_eq (fun hb => ?_)]
    · refine good_met (hok _ _ q2 a2) hb g2 ?_ ?_ ?_ ?_
      · rw [hk.2.2.2.2.1, bodyR_moves hb]
      · rw [hk.2.2.2.2.2.1, bodyR_moves hb]
      · rw [hk.2.2.2.2.2.2.1, bodyR_moves hb]
      · rw [hk.2.2.2.2.2.2.2, bodyR_moves hb]
    · refine good_met (hok _ _ q1 a1) hb g1 ?_ ?_ ?_ ?_
      · rw [hk.1, bodyR_moves hb]
      · rw [hk.2.1, bodyR_moves hb]
      · rw [hk.2.2.1, bodyR_moves hb]
      · rw [hk.2.2.2.1, bodyR_moves hb]
  · rfl
theorem meet_eq {next : Int} {L : List Tab} (hg : GoodL next L) (l : List (Int × Int)) (hl : ∀ p ∈ l, p.1 ∈ allL L ∧ p.2 ∈ allL L) {s : (Int → R8) × List (Int × Int)} (hok : RowsOk L s.1) :
    l.foldl (meetD (mk L)) s = l.foldl (meet1 (mk L)) s ∧ RowsOk L (l.foldl (meetD (mk L)) s).1 := by
  induction l generalizing s with
  | nil => exact ⟨rfl, hok⟩
  | cons p l ih =>
    rw [List.foldl_cons, List.foldl_cons, meet_one hg hok (hl p (List.mem_cons_self ..)).1 (hl p (List.mem_cons_self ..)).2]
    exact ih (fun q hq => hl q (List.mem_cons_of_mem _ hq)) (RowsOk.meet1 hg.2.2.2.2.2 hok p)
/-- Rows behind the first round, pairs that are looked at, what the second round leaves. -/
def gD (L : List Tab) (fall : Int) : Int → R8 := (ks L).foldl (goD (mk L) fall) (rw0 L)
def pD (L : List Tab) (fall : Int) : List (Int × Int) := Sw.pairsG (boxG L (gD L fall))
def mD (L : List Tab) (fall : Int) : (Int → R8) × List (Int × Int) := (pD L fall).foldl (meetD (mk L)) (gD L fall, [])
theorem ks_all {next : Int} {L : List Tab} (hg : GoodL next L) : ∀ v ∈ ks L, v ∈ allL L := fun _ hv => (mem_ks hg.even).1 hv
theorem gD_eq {next : Int} {L : List Tab} (hg : GoodL next L) (fall : Int) : gD L fall = goOnG (mk L) fall (idsOf 11 L) (rw0 L) ∧ RowsOk L (gD L fall) := by
  unfold gD
  rw [← ks_filter hg]
  exact go_eq hg fall _ (ks_all hg) (rows_ok hg)
theorem ids_all {next m : Int} {L : List Tab} (hg : GoodL next L) {v : Int} (h : v ∈ idsOf m L) : v ∈ allL L := by
  obtain ⟨q, r, hat, -⟩ := (mem_ids hg.even).1 h
  exact at_mem hat
theorem pD_all {next : Int} {L : List Tab} (hg : GoodL next L) (fall : Int) : ∀ p ∈ pD L fall, p.1 ∈ allL L ∧ p.2 ∈ allL L := by
  intro p hp
  obtain ⟨a, b, ha, hb, h1, h2⟩ := pair_mem hp
  rw [h1, h2]
  exact ⟨ids_all hg (box_mem ha), ids_all hg (box_mem hb)⟩
theorem mD_eq {next : Int} {L : List Tab} (hg : GoodL next L) (fall : Int) : mD L fall = meetG (mk L) (pD L fall) (gD L fall) ∧ RowsOk L (mD L fall).1 := by
  unfold mD meetG
  exact meet_eq hg (pD L fall) (pD_all hg fall) (s := (gD L fall, [])) (gD_eq hg fall).2
theorem step_eq {next : Int} {L : List Tab} (hg : GoodL next L) (fall wide high : Int) :
    ((ks L).foldl (wallD (mk L) wide high) (mD L fall).1, (mD L fall).2) = Wd.stepG L fall wide high := by
  have h1 := wall_eq hg wide high (ks L) (ks_all hg) (mD_eq hg fall).2
  rw [h1.1, ks_filter hg, (mD_eq hg fall).1]
  unfold Wd.stepG pD
  rw [(gD_eq hg fall).1]
/-- Beginnings of the rounds keep rows that masks may have. -/
theorem go_ok {next : Int} {L : List Tab} (hg : GoodL next L) (fall : Int) (k : Nat) : RowsOk L (((ks L).take k).foldl (goD (mk L) fall) (rw0 L)) :=
  (go_eq hg fall _ (fun v hv => ks_all hg v (List.mem_of_mem_take hv)) (rows_ok hg)).2
theorem meet_ok {next : Int} {L : List Tab} (hg : GoodL next L) (fall : Int) (k : Nat) : RowsOk L (((pD L fall).take k).foldl (meetD (mk L)) (gD L fall, [])).1 :=
  (meet_eq hg ((pD L fall).take k) (fun p hp => pD_all hg fall p (List.mem_of_mem_take hp)) (s := (gD L fall, [])) (gD_eq hg fall).2).2
theorem wall_ok {next : Int} {L : List Tab} (hg : GoodL next L) (fall wide high : Int) (k : Nat) : RowsOk L (((ks L).take k).foldl (wallD (mk L) wide high) (mD L fall).1) :=
  (wall_eq hg wide high _ (fun v hv => ks_all hg v (List.mem_of_mem_take hv)) (mD_eq hg fall).2).2
theorem fold_take {α β : Type} (f : β → α → β) (s : β) {l : List α} {k : Nat} {x : α} (h : l[k]? = some x) : (l.take (k + 1)).foldl f s = f ((l.take k).foldl f s) x := by
  have hk := (List.getElem?_eq_some_iff.1 h).1
  rw [List.take_succ_eq_append_getElem hk, (List.getElem?_eq_some_iff.1 h).2, List.foldl_append]
  rfl
theorem met_count (M : Int → Int) (l : List (Int × Int)) (s : (Int → R8) × List (Int × Int)) : (l.foldl (meetD M) s).2.length ≤ s.2.length + l.length := by
  induction l generalizing s with
  | nil => simp
  | cons q l ih =>
    refine Nat.le_trans (ih _) ?_
    unfold meetD
    split <;> simp <;> omega
end Go.Proofs.YtckkkdldljhehabGreat.Ws
