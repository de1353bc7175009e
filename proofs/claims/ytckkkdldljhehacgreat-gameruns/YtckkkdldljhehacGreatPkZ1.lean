/- Part of the proofs of GamePlays and GameRuns (package ninepinslaw): contracts of the functions that they call. -/
import Derived.Test.YtckkkdldljhehacGreatPkG
import Derived.Test.YtckkkdldljhehacGreatPkR
import Derived.Test.YtckkkdldljhehacGreatPkJ
import Derived.Test.YtckkkdldljhehacGreatPkM
import Derived.Test.YtckkkdldljhehacGreatPkO
namespace Go.Proofs.YtckkkdldljhehacGreat
namespace Ws
open Num St Mp Th Wd
def ks (L : List Tab) : List Int := (thM L).map (·.1)
theorem ks_up (L : List Tab) : (ks L).Pairwise (· < ·) := keys_up (thM_up L)
theorem mem_ks {L : List Tab} (he : Even L) {v : Int} : v ∈ ks L ↔ v ∈ allL L := by
 unfold ks
 rw [← getM_some_iff, thM_has he]
 simp
theorem ks_with {L : List Tab} (he : Even L) (g : Int → R8) : (thM (withRows L g)).map (·.1) = ks L :=
 up_ext (keys_up (thM_up _)) (ks_up L) (fun v => by rw [show (thM (withRows L g)).map (·.1) = ks (withRows L g) from rfl, mem_ks (even_with L g), mem_ks he, allL_with])
theorem ks_len {next : Int} {L : List Tab} (hg : GoodL next L) : (ks L).length ≤ 10 := by
 unfold ks
 rw [List.length_map, thM_len hg.even hg.2.2.2.2.2]
 exact hg.2.1
theorem th_len {next : Int} {L : List Tab} (hg : GoodL next L) (g : Int → R8) : (thM (withRows L g)).length = (ks L).length := by
 rw [← ks_with hg.even g, List.length_map]
theorem at_all {L : List Tab} (he : Even L) (hn : (allL L).Nodup) {v : Int} (h : v ∈ allL L) : ∃ r, At L v (mk L v) r := by
 obtain ⟨m, r, hat⟩ := at_of_mem he h
 exact ⟨r, by rw [(at_mk hn hat).1]; exact hat⟩
theorem get_with {L : List Tab} (he : Even L) (hn : (allL L).Nodup) (g : Int → R8) {v : Int} (h : v ∈ allL L) : getM v (thM (withRows L g)) = some ⟨mk L v, g v⟩ := by
 obtain ⟨r, hat⟩ := at_all he hn h
 exact (thM_get (even_with L g) (by rw [allL_with]; exact hn)).2 ((at_with he g).2 ⟨⟨r, hat⟩, rfl⟩)
theorem get_out {L : List Tab} (g : Int → R8) {v : Int} (h : v ∉ allL L) : getM v (thM (withRows L g)) = none :=
 (thM_none (even_with L g)).2 (by rw [allL_with]; exact h)
theorem put_with {L : List Tab} (he : Even L) (hn : (allL L).Nodup) (g : Int → R8) {v : Int} (h : v ∈ allL L) (r : R8) : putM v ⟨mk L v, r⟩ (thM (withRows L g)) = thM (withRows L (upd g v r)) := by
 refine ((thM_up _).put v _).ext (thM_up _) (fun j => ?_)
 rw [getM_put (thM_up _)]
 by_cases hj : j = v
 ·subst hj
  rw [if_pos rfl, get_with he hn _ h]
  simp [upd]
 ·rw [if_neg hj]
  by_cases hm : j ∈ allL L
  ·rw [get_with he hn _ hm, get_with he hn _ hm]
   simp [upd, hj]
  ·rw [get_out g hm, get_out _ hm]
theorem ids_hav {next m : Int} {L : List Tab} (hg : GoodL next L) (g : Int → R8) : havM m (thM (withRows L g)) = idsOf m L := by
 have hu : (idsOf m L).Pairwise (· < ·) := by
  have h1 := ids_sorted m L
  have h2 := ids_nodup hg m
  have h3 := h1.and (List.nodup_iff_pairwise_ne.1 h2)
  exact h3.imp (fun h => by omega)
 refine up_ext (keys_up (List.Pairwise.filter _ (thM_up _))) hu (fun x => ?_)
 rw [mem_ids hg.even]
 unfold havM
 rw [List.mem_map]
 constructor
 ·rintro ⟨p, hp, rfl⟩
  obtain ⟨h1, h2⟩ := List.mem_filter.1 hp
  have h3 := (thM_get (even_with L g) (by rw [allL_with]; exact hg.2.2.2.2.2)).1 (getM_of_mem (thM_up _) (k := p.1) (t := p.2) h1)
  obtain ⟨⟨q, h4⟩, -⟩ := (at_with hg.even g).1 h3
  exact ⟨p.2.m, q, h4, h2⟩
 ·rintro ⟨q, r, hat, hb⟩
  refine ⟨(x, ⟨q, g x⟩), List.mem_filter.2 ⟨getM_mem ((thM_get (even_with L g) (by rw [allL_with]; exact hg.2.2.2.2.2)).2 ((at_with hg.even g).2 ⟨⟨r, hat⟩, rfl⟩)), hb⟩, rfl⟩
theorem ks_filter {next m : Int} {L : List Tab} (hg : GoodL next L) : (ks L).filter (fun v => hasB (mk L v) m) = idsOf m L := by
 rw [← ids_hav hg (rw0 L), with_self hg]
 unfold ks havM
 rw [List.filter_map]
 congr 1
 apply List.filter_congr
 intro p hp
 have h1 := (thM_get hg.even hg.2.2.2.2.2).1 (getM_of_mem (thM_up L) (k := p.1) (t := p.2) hp)
 simp [(at_mk hg.2.2.2.2.2 h1).1]
def goD (M : Int → Int) (fall : Int) (g : Int → R8) (v : Int) : Int → R8 := if hasB (M v) 11 then upd g v (goRow (fallR fall (M v) (g v))) else g
def wallD (M : Int → Int) (wide high : Int) (g : Int → R8) (v : Int) : Int → R8 := if hasB (M v) 11 then upd g v (wallY high (wallX wide (g v))) else g
def metD (M : Int → Int) (g : Int → R8) (p : Int × Int) : R8 × R8 := met (bodyR (M p.1) (g p.1)) (bodyR (M p.2) (g p.2))
def putA (M : Int → Int) (g : Int → R8) (v : Int) (r : R8) : Int → R8 := if hasB (M v) 11 then upd g v r else g
def meetD (M : Int → Int) (s : (Int → R8) × List (Int × Int)) (p : Int × Int) : (Int → R8) × List (Int × Int) :=
 if overG M s.1 p then (putA M (putA M s.1 p.1 (metD M s.1 p).1) p.2 (metD M s.1 p).2, s.2 ++ [p]) else s
theorem good_go {m : Int} {r : R8} (fall : Int) (h : goodRowB m r = true) (hm : hasB m 11 = true) : goodRowB m (goRow (fallR fall m r)) = true := by
 have hb := row_bounds h
 obtain ⟨b1, b2, b3, b4, -⟩ := hb
 refine good_change h hm ?_ ?_ ?_ ?_ (ad_le _ _ _ (by omega)) (ad_le _ _ _ (by omega)) ?_ ?_
 ·simp only [goRow, fallR]; split <;> rfl
 ·simp only [goRow, fallR]; split <;> rfl
 ·simp only [goRow, fallR]; split <;> rfl
 ·simp only [goRow, fallR]; split <;> rfl
 ·simp only [goRow, fallR]; split <;> exact b3
 ·simp only [goRow, fallR]; split
  ·exact ad_le _ _ _ (by omega)
  ·exact b4
theorem left_in (p rr : Int) (hp : -16777216 ≤ p ∧ p ≤ 16777216) (x half wide : Int) : -16777216 ≤ wallPush x p half wide rr ∧ wallPush x p half wide rr ≤ 16777216 := by
 have h := left_le p rr (by omega)
 have h2 : ab p ≤ 16777216 := by unfold ab; omega
 unfold wallPush
 split
 ·omega
 ·split
  ·omega
  ·exact hp
theorem at_in {x half wide : Int} (hx : -1048576 ≤ x ∧ x ≤ 1048576) (hh : 0 ≤ half ∧ half ≤ 4096) : -1048576 ≤ wallAt x half wide ∧ wallAt x half wide ≤ 1048576 := by
 unfold wallAt
 split
 ·omega
 ·split <;> omega
theorem good_wall {m : Int} {r : R8} (wide high : Int) (h : goodRowB m r = true) (hm : hasB m 11 = true) : goodRowB m (wallY high (wallX wide r)) = true := by
 obtain ⟨b1, b2, b3, b4, b5, b6, -⟩ := row_bounds h
 exact good_change h hm rfl rfl rfl rfl (at_in b1 b5) (at_in b2 b6) (left_in _ _ b3 _ _ _) (left_in _ _ b4 _ _ _)
theorem go_eq {next : Int} {L : List Tab} (hg : GoodL next L) (fall : Int) (l : List Int) (hl : ∀ v ∈ l, v ∈ allL L) {g : Int → R8} (hok : RowsOk L g) :
  l.foldl (goD (mk L) fall) g = goOnG (mk L) fall (l.filter (fun v => hasB (mk L v) 11)) g ∧ RowsOk L (l.foldl (goD (mk L) fall) g) := by
 have hn := hg.2.2.2.2.2
 unfold goOnG
 induction l generalizing g with
 | nil => exact ⟨rfl, hok⟩
 | cons x l ih =>
  have hl' : ∀ v ∈ l, v ∈ allL L := fun v hv => hl v (List.mem_cons_of_mem _ hv)
  rw [List.foldl_cons]
  by_cases hb : hasB (mk L x) 11 = true
  ·rw [List.filter_cons_of_pos (p := fun v => hasB (mk L v) 11) hb, List.foldl_cons]
   obtain ⟨q, hat⟩ := at_all hg.even hn (hl x (List.mem_cons_self ..))
   have hgo := good_go fall (hok x _ q hat) hb
   have e : goD (mk L) fall g x = go1 (mk L) fall g x := by
    unfold goD go1 putG
    rw [if_pos hb, if_pos (by rw [hb, hgo]; rfl)]
   rw [e]
   exact ih hl' (RowsOk.put hn hok _ _)
  ·rw [List.filter_cons_of_neg (p := fun v => hasB (mk L v) 11) hb]
   have e : goD (mk L) fall g x = g := by
    unfold goD
    rw [if_neg hb]
   rw [e]
   exact ih hl' hok
theorem wall_eq {next : Int} {L : List Tab} (hg : GoodL next L) (wide high : Int) (l : List Int) (hl : ∀ v ∈ l, v ∈ allL L) {g : Int → R8} (hok : RowsOk L g) :
  l.foldl (wallD (mk L) wide high) g = wallG (mk L) wide high (l.filter (fun v => hasB (mk L v) 11)) g ∧ RowsOk L (l.foldl (wallD (mk L) wide high) g) := by
 have hn := hg.2.2.2.2.2
 unfold wallG
 induction l generalizing g with
 | nil => exact ⟨rfl, hok⟩
 | cons x l ih =>
  have hl' : ∀ v ∈ l, v ∈ allL L := fun v hv => hl v (List.mem_cons_of_mem _ hv)
  rw [List.foldl_cons]
  by_cases hb : hasB (mk L x) 11 = true
  ·rw [List.filter_cons_of_pos (p := fun v => hasB (mk L v) 11) hb, List.foldl_cons]
   obtain ⟨q, hat⟩ := at_all hg.even hn (hl x (List.mem_cons_self ..))
   have hgo := good_wall wide high (hok x _ q hat) hb
   have e : wallD (mk L) wide high g x = wall1 (mk L) wide high g x := by
    unfold wallD wall1 putG
    rw [if_pos hb, if_pos (by rw [hb, hgo]; rfl)]
   rw [e]
   exact ih hl' (RowsOk.put hn hok _ _)
  ·rw [List.filter_cons_of_neg (p := fun v => hasB (mk L v) 11) hb]
   have e : wallD (mk L) wide high g x = g := by
    unfold wallD
    rw [if_neg hb]
   rw [e]
   exact ih hl' hok
theorem putA_eq {M : Int → Int} {g : Int → R8} {v : Int} {r : R8} (h : hasB (M v) 11 = true → goodRowB (M v) r = true) : putA M g v r = putG M g v r := by
 unfold putA putG
 by_cases hb : hasB (M v) 11 = true
 ·rw [if_pos hb, if_pos (by rw [hb, h hb]; rfl)]
 ·rw [if_neg hb, if_neg (by simp [hb])]
theorem bodyR_moves {m : Int} {r : R8} (h : hasB m 11 = true) : bodyR m r = r := by unfold bodyR; rw [if_pos h]
theorem over_good {a b : R8} (h : overB a b = true) : GoodP a ∧ GoodP b := by
 simp only [overB, Bool.and_eq_true] at h
 exact ⟨(goodB_iff a).1 (by simp [h]), (goodB_iff b).1 (by simp [h])⟩
theorem good_met {m : Int} {r x : R8} (h : goodRowB m r = true) (hm : hasB m 11 = true) (gx : GoodP x) (h1 : x.wd = r.wd) (h2 : x.ht = r.ht) (h3 : x.ms = r.ms) (h4 : x.rr = r.rr) : goodRowB m x = true := by
 exact good_change h hm h1 h2 h3 h4 gx.x gx.y gx.px gx.py
theorem meet_one {next : Int} {L : List Tab} (hg : GoodL next L) {s : (Int → R8) × List (Int × Int)} (hok : RowsOk L s.1) {p : Int × Int} (h1 : p.1 ∈ allL L) (h2 : p.2 ∈ allL L) : meetD (mk L) s p = meet1 (mk L) s p := by
 have hn := hg.2.2.2.2.2
 unfold meetD meet1
 split
 ·rename_i ho
  obtain ⟨ga, gb⟩ := over_good ho
  obtain ⟨g1, g2⟩ := met_good _ _ ga gb
  have hk := met_kept (bodyR (mk L p.1) (s.1 p.1)) (bodyR (mk L p.2) (s.1 p.2))
  obtain ⟨q1, a1⟩ := at_all hg.even hn h1
  obtain ⟨q2, a2⟩ := at_all hg.even hn h2
  unfold metD
  rw [putA_eq (r := (met (bodyR (mk L p.1) (s.1 p.1)) (bodyR (mk L p.2) (s.1 p.2))).1) (fun hb => ?_), putA_eq (fun hb => ?_)]
  ·refine good_met (hok _ _ q2 a2) hb g2 ?_ ?_ ?_ ?_
   ·rw [hk.2.2.2.2.1, bodyR_moves hb]
   ·rw [hk.2.2.2.2.2.1, bodyR_moves hb]
   ·rw [hk.2.2.2.2.2.2.1, bodyR_moves hb]
   ·rw [hk.2.2.2.2.2.2.2, bodyR_moves hb]
  ·refine good_met (hok _ _ q1 a1) hb g1 ?_ ?_ ?_ ?_
   ·rw [hk.1, bodyR_moves hb]
   ·rw [hk.2.1, bodyR_moves hb]
   ·rw [hk.2.2.1, bodyR_moves hb]
   ·rw [hk.2.2.2.1, bodyR_moves hb]
 ·rfl
theorem meet_eq {next : Int} {L : List Tab} (hg : GoodL next L) (l : List (Int × Int)) (hl : ∀ p ∈ l, p.1 ∈ allL L ∧ p.2 ∈ allL L) {s : (Int → R8) × List (Int × Int)} (hok : RowsOk L s.1) :
  l.foldl (meetD (mk L)) s = l.foldl (meet1 (mk L)) s ∧ RowsOk L (l.foldl (meetD (mk L)) s).1 := by
 induction l generalizing s with
 | nil => exact ⟨rfl, hok⟩
 | cons p l ih =>
  rw [List.foldl_cons, List.foldl_cons, meet_one hg hok (hl p (List.mem_cons_self ..)).1 (hl p (List.mem_cons_self ..)).2]
  exact ih (fun q hq => hl q (List.mem_cons_of_mem _ hq)) (RowsOk.meet1 hg.2.2.2.2.2 hok p)
def gD (L : List Tab) (fall : Int) : Int → R8 := (ks L).foldl (goD (mk L) fall) (rw0 L)
def pD (L : List Tab) (fall : Int) : List (Int × Int) := Sw.pairsG (boxG L (gD L fall))
def mD (L : List Tab) (fall : Int) : (Int → R8) × List (Int × Int) := (pD L fall).foldl (meetD (mk L)) (gD L fall, [])
theorem ks_all {next : Int} {L : List Tab} (hg : GoodL next L) : ∀ v ∈ ks L, v ∈ allL L := fun _ hv => (mem_ks hg.even).1 hv
theorem gD_eq {next : Int} {L : List Tab} (hg : GoodL next L) (fall : Int) : gD L fall = goOnG (mk L) fall (idsOf 11 L) (rw0 L) ∧ RowsOk L (gD L fall) := by
 unfold gD
 rw [← ks_filter hg]
 exact go_eq hg fall _ (ks_all hg) (rows_ok hg)
theorem ids_all {next m : Int} {L : List Tab} (hg : GoodL next L) {v : Int} (h : v ∈ idsOf m L) : v ∈ allL L := by
 obtain ⟨q, r, hat, -⟩ := (mem_ids hg.even).1 h
 exact at_mem hat
theorem pD_all {next : Int} {L : List Tab} (hg : GoodL next L) (fall : Int) : ∀ p ∈ pD L fall, p.1 ∈ allL L ∧ p.2 ∈ allL L := by
 intro p hp
 obtain ⟨a, b, ha, hb, h1, h2⟩ := pair_mem hp
 rw [h1, h2]
 exact ⟨ids_all hg (box_mem ha), ids_all hg (box_mem hb)⟩
theorem mD_eq {next : Int} {L : List Tab} (hg : GoodL next L) (fall : Int) : mD L fall = meetG (mk L) (pD L fall) (gD L fall) ∧ RowsOk L (mD L fall).1 := by
 unfold mD meetG
 exact meet_eq hg (pD L fall) (pD_all hg fall) (s := (gD L fall, [])) (gD_eq hg fall).2
theorem step_eq {next : Int} {L : List Tab} (hg : GoodL next L) (fall wide high : Int) :
  ((ks L).foldl (wallD (mk L) wide high) (mD L fall).1, (mD L fall).2) = Wd.stepG L fall wide high := by
 have h1 := wall_eq hg wide high (ks L) (ks_all hg) (mD_eq hg fall).2
 rw [h1.1, ks_filter hg, (mD_eq hg fall).1]
 unfold Wd.stepG pD
 rw [(gD_eq hg fall).1]
theorem go_ok {next : Int} {L : List Tab} (hg : GoodL next L) (fall : Int) (k : Nat) : RowsOk L (((ks L).take k).foldl (goD (mk L) fall) (rw0 L)) :=
 (go_eq hg fall _ (fun v hv => ks_all hg v (List.mem_of_mem_take hv)) (rows_ok hg)).2
theorem meet_ok {next : Int} {L : List Tab} (hg : GoodL next L) (fall : Int) (k : Nat) : RowsOk L (((pD L fall).take k).foldl (meetD (mk L)) (gD L fall, [])).1 :=
 (meet_eq hg ((pD L fall).take k) (fun p hp => pD_all hg fall p (List.mem_of_mem_take hp)) (s := (gD L fall, [])) (gD_eq hg fall).2).2
theorem wall_ok {next : Int} {L : List Tab} (hg : GoodL next L) (fall wide high : Int) (k : Nat) : RowsOk L (((ks L).take k).foldl (wallD (mk L) wide high) (mD L fall).1) :=
 (wall_eq hg wide high _ (fun v hv => ks_all hg v (List.mem_of_mem_take hv)) (mD_eq hg fall).2).2
theorem fold_take {α β : Type} (f : β → α → β) (s : β) {l : List α} {k : Nat} {x : α} (h : l[k]? = some x) : (l.take (k + 1)).foldl f s = f ((l.take k).foldl f s) x := by
 have hk := (List.getElem?_eq_some_iff.1 h).1
 rw [List.take_succ_eq_append_getElem hk, (List.getElem?_eq_some_iff.1 h).2, List.foldl_append]
 rfl
theorem met_count (M : Int → Int) (l : List (Int × Int)) (s : (Int → R8) × List (Int × Int)) : (l.foldl (meetD M) s).2.length ≤ s.2.length + l.length := by
 induction l generalizing s with
 | nil => simp
 | cons q l ih =>
  refine Nat.le_trans (ih _) ?_
  unfold meetD
  split <;> simp <;> omega
end Ws
namespace Ws
open Num St Mp Th Wd
open Go.ChangeShapes Go.WideShapes Go.ChangeAt Go.RowKit
theorem moves_eq : ∀ m ∈ masks, (hasR m 1 && (hasR m 2 && hasR m 8)) = hasB m 11 := by decide +kernel
set_option maxHeartbeats 1000000 in
theorem moves_any (m : Int) (h : 0 ≤ m ∧ m ≤ 31) (w : World) : Calls Tryz.prog 79 #[.int .i64 m] w fun e w' => e = .returned (.bool (hasB m 11)) ∧ w' = w := by
 have e := moves_eq m (mem_masks h)
 rw [← e]
 clear e
 cases h1 : hasR m 1 <;> cases h2 : hasR m 2 <;> cases h3 : hasR m 8
 all_goals
  go_enter Tryz.func79, Tryz.ntmps79
  go_wp2_with (go_at_call 54; refine (Th.has_any _ _ ⟨by omega, by omega⟩ ⟨by omega, by omega⟩ _).mono ?_; rintro e w' ⟨rfl, rfl⟩)
  go_ret
  exact ⟨by simp, rfl⟩
def thCells (t : Th) : List Value := .int .i64 t.m :: St.rowCells t.r
theorem th_box (w : World) (t : Th) (ty : TypeId) : (w.alloc (.cells #[.int .i64 t.m, .int .i64 t.r.x, .int .i64 t.r.y, .int .i64 t.r.px, .int .i64 t.r.py, .int .i64 t.r.wd, .int .i64 t.r.ht, .int .i64 t.r.ms, .int .i64 t.r.rr] ty)).rowIs w.heap.size ty 9 (fun i => (thCells t).getD i undef) :=
 ⟨_, (MapKept.heap_alloc w _).1, rfl, fun i hi => by
  match i, hi with
  | 0, _ => rfl
  | 1, _ => rfl
  | 2, _ => rfl
  | 3, _ => rfl
  | 4, _ => rfl
  | 5, _ => rfl
  | 6, _ => rfl
  | 7, _ => rfl
  | 8, _ => rfl⟩
theorem th9 {W : World} {b : Nat} {t : Th} {ty : TypeId} (h : W.rowIs b ty 9 (fun i => (thCells t).getD i undef)) : W.cell? ⟨b, 0, none⟩ = some (.int .i64 t.m) ∧ W.cell? ⟨b, 1, none⟩ = some (.int .i64 t.r.x) ∧ W.cell? ⟨b, 2, none⟩ = some (.int .i64 t.r.y) ∧ W.cell? ⟨b, 3, none⟩ = some (.int .i64 t.r.px) ∧ W.cell? ⟨b, 4, none⟩ = some (.int .i64 t.r.py) ∧ W.cell? ⟨b, 5, none⟩ = some (.int .i64 t.r.wd) ∧ W.cell? ⟨b, 6, none⟩ = some (.int .i64 t.r.ht) ∧ W.cell? ⟨b, 7, none⟩ = some (.int .i64 t.r.ms) ∧ W.cell? ⟨b, 8, none⟩ = some (.int .i64 t.r.rr) :=
 ⟨h.cell (i := 0) (by omega), h.cell (i := 1) (by omega), h.cell (i := 2) (by omega), h.cell (i := 3) (by omega), h.cell (i := 4) (by omega), h.cell (i := 5) (by omega), h.cell (i := 6) (by omega), h.cell (i := 7) (by omega), h.cell (i := 8) (by omega)⟩
theorem rcells {W : World} {b : Nat} {ty : TypeId} {v : Value} {next fall wide high : Int} (h : W.rowIs b ty 5 (wcell v next fall wide high)) : W.cell? ⟨b, 0, none⟩ = some v ∧ W.cell? ⟨b, 1, none⟩ = some (.int .i64 next) ∧ W.cell? ⟨b, 2, none⟩ = some (.int .i64 fall) ∧ W.cell? ⟨b, 3, none⟩ = some (.int .i64 wide) ∧ W.cell? ⟨b, 4, none⟩ = some (.int .i64 high) ∧
  W.frozen? ⟨b, 0, none⟩ = false ∧ W.frozen? ⟨b, 1, none⟩ = false ∧ W.frozen? ⟨b, 2, none⟩ = false ∧ W.frozen? ⟨b, 3, none⟩ = false ∧ W.frozen? ⟨b, 4, none⟩ = false :=
 ⟨h.cell (i := 0) (by omega), h.cell (i := 1) (by omega), h.cell (i := 2) (by omega), h.cell (i := 3) (by omega), h.cell (i := 4) (by omega), h.frozen 0, h.frozen 1, h.frozen 2, h.frozen 3, h.frozen 4⟩
set_option maxHeartbeats 1000000 in
theorem free_any (t : Th) (h : 0 ≤ t.m ∧ t.m ≤ 31) (w : World) :
  Calls Tryz.prog 82 #[.agg #[.int .i64 t.m, .int .i64 t.r.x, .int .i64 t.r.y, .int .i64 t.r.px, .int .i64 t.r.py, .int .i64 t.r.wd, .int .i64 t.r.ht, .int .i64 t.r.ms, .int .i64 t.r.rr]] w fun e w' => e = .returned (.agg #[.int .i64 (bodyR t.m t.r).x, .int .i64 (bodyR t.m t.r).y, .int .i64 (bodyR t.m t.r).px, .int .i64 (bodyR t.m t.r).py, .int .i64 (bodyR t.m t.r).wd, .int .i64 (bodyR t.m t.r).ht, .int .i64 (bodyR t.m t.r).ms, .int .i64 (bodyR t.m t.r).rr]) ∧ Below w.heap.size w w' := by
 obtain ⟨m, x, y, px, py, wd, ht, ms, rr⟩ := t
 simp only at h ⊢
 have HM := St.hid (moves_any m h)
 cases hb : hasB m 11
 ·rw [show bodyR m ⟨x, y, px, py, wd, ht, ms, rr⟩ = ⟨x, y, 0, 0, wd, ht, 0, rr⟩ from by simp [bodyR, hb]]
  rw [hb] at HM
  go_enter Tryz.func82, Tryz.ntmps82
  go_wp2_with (go_at_call 79; refine (HM.out _).mono ?_; rintro e w' ⟨rfl, rfl⟩)
  refine bodyPost_ret (by simp [results, Tryz.results82, go_sem]) rfl ⟨rfl, ?_⟩
  repeat refine Below.setCell ?_ (by simp) _
  exact bal (bal (bal (Below.refl _ _) _) _) _
 ·rw [show bodyR m ⟨x, y, px, py, wd, ht, ms, rr⟩ = ⟨x, y, px, py, wd, ht, ms, rr⟩ from by simp [bodyR, hb]]
  rw [hb] at HM
  go_enter Tryz.func82, Tryz.ntmps82
  go_wp2_with (go_at_call 79; refine (HM.out _).mono ?_; rintro e w' ⟨rfl, rfl⟩)
  refine bodyPost_ret (by simp [results, Tryz.results82, go_sem]) rfl ⟨rfl, ?_⟩
  repeat refine Below.setCell ?_ (by simp) _
  exact bal (bal (bal (Below.refl _ _) _) _) _
set_option maxHeartbeats 1000000 in
theorem wcopy_any (b : Nat) (l : Mth) (next fall wide high : Int) (w : World) (h : Mp w b l) (hl : l.length ≤ 1000000) :
  Calls Tryz.prog 50 #[.agg #[.map (some b), .int .i64 next, .int .i64 fall, .int .i64 wide, .int .i64 high]] w fun e w' => (∃ c, e = .returned (.agg #[.map (some c), .int .i64 next, .int .i64 fall, .int .i64 wide, .int .i64 high]) ∧ w.heap.size ≤ c ∧ Mp w' c l) ∧ Below w.heap.size w w' := by
 have HM := St.hid h
 have HL := St.hid hl
 clear h hl
 go_enter Tryz.func50, Tryz.ntmps50
 have hW0 := St.hid ((rowIs5 w (.map (some b)) next fall wide high 73).alloc (.cells #[.map none, .int .i64 0, .int .i64 0, .int .i64 0, .int .i64 0] 73))
 have hR0 := St.hid (rowIs5 (w.alloc (.cells #[.map (some b), .int .i64 next, .int .i64 fall, .int .i64 wide, .int .i64 high] 73)) (.map none) 0 0 0 0 73)
 rw [World.size_alloc] at hR0
 have HC := St.hid (copy_any b l _ (HM.out.below (bal (bal (Below.refl _ w) (.cells #[.map (some b), .int .i64 next, .int .i64 fall, .int .i64 wide, .int .i64 high] 73)) (.cells #[.map none, .int .i64 0, .int .i64 0, .int .i64 0, .int .i64 0] 73))) HL.out)
 go_wp2_with (go_at_call 77; refine HC.out.mono ?_; rintro e w1 ⟨⟨c, rfl, hc, hm⟩, hb1⟩; have HMC := St.hid hm; have hW1 := St.hid (rowIs_below hW0.out hb1); have hR1 := St.hid (rowIs_below hR0.out hb1); have HB1 := St.hid (bcall (bal (bal (Below.refl _ w) _) _) hb1); simp only [World.size_alloc] at hc; have hz1 := hb1.size; simp only [World.size_alloc] at hz1; clear hm hb1; obtain ⟨x0, x1, x2, x3, x4, xf0, xf1, xf2, xf3, xf4⟩ := rcells hW1.out; obtain ⟨y0, y1, y2, y3, y4, yf0, yf1, yf2, yf3, yf4⟩ := rcells hR1.out)
 refine bodyPost_ret (v := .agg #[.map (some c), .int .i64 next, .int .i64 fall, .int .i64 wide, .int .i64 high]) (by simp [results, Tryz.results50, go_sem, y0, y1, y2, y3, y4]) rfl ⟨⟨c, rfl, by omega, ?_⟩, ?_⟩
 ·refine HMC.out.block ?_
  repeat rw [Below.heap_setCell _ _ _ _ (by simp; omega)]
 ·repeat refine Below.setCell ?_ (by simp) _
  exact HB1.out
end Ws
namespace Ws
open Num St Mp Th Wd
open Go.ChangeShapes Go.WideShapes Go.ChangeAt Go.RowKit
theorem mp_put5 {W : World} {c b : Nat} {l : Mth} (h : Mp W c l) (hne : c ≠ b) (v : Value) (next fall wide high : Int) : Mp (put5 W b v next fall wide high) c l :=
 h.kept (grown5 W b v next fall wide high) (fun e => hne (Option.some.inj e))
theorem below5 {w W : World} {b : Nat} (h : Below w.heap.size w W) (hb : w.heap.size ≤ b) (v : Value) (next fall wide high : Int) : Below w.heap.size w (put5 W b v next fall wide high) :=
 below_grown h (grown5 W b v next fall wide high) h.size hb
end Ws
namespace Ws
open Num St Mp Th Wd
open Go.ChangeShapes Go.WideShapes Go.ChangeAt Go.RowKit
abbrev put9 (W : World) (g : Nat) (t : Th) : World := (((((((((W.setCell ⟨g, 0, none⟩ (.int .i64 t.m)).setCell ⟨g, 1, none⟩ (.int .i64 t.r.x)).setCell ⟨g, 2, none⟩ (.int .i64 t.r.y)).setCell ⟨g, 3, none⟩ (.int .i64 t.r.px)).setCell ⟨g, 4, none⟩ (.int .i64 t.r.py)).setCell ⟨g, 5, none⟩ (.int .i64 t.r.wd)).setCell ⟨g, 6, none⟩ (.int .i64 t.r.ht)).setCell ⟨g, 7, none⟩ (.int .i64 t.r.ms)).setCell ⟨g, 8, none⟩ (.int .i64 t.r.rr))
theorem row9 {W : World} {g : Nat} {ty : TypeId} {f : Nat → Value} (h : W.rowIs g ty 9 f) (t : Th) : (put9 W g t).rowIs g ty 9 (fun i => (thCells t).getD i undef) := by
 refine (((((((((h.set 0 _).set 1 _).set 2 _).set 3 _).set 4 _).set 5 _).set 6 _).set 7 _).set 8 _).congr (fun i hi => ?_)
 match i, hi with
 | 0, _ => rfl
 | 1, _ => rfl
 | 2, _ => rfl
 | 3, _ => rfl
 | 4, _ => rfl
 | 5, _ => rfl
 | 6, _ => rfl
 | 7, _ => rfl
 | 8, _ => rfl
theorem grown9 (W : World) (g : Nat) (t : Th) : W.grownBy (put9 W g t) (some g) :=
 ((((((((grown_set W g _ _).trans (grown_set _ g _ _)).trans (grown_set _ g _ _)).trans (grown_set _ g _ _)).trans (grown_set _ g _ _)).trans (grown_set _ g _ _)).trans (grown_set _ g _ _)).trans (grown_set _ g _ _)).trans (grown_set _ g _ _)
theorem other9 {W : World} {g b n : Nat} {ty : TypeId} {f : Nat → Value} {t : Th} (h : W.rowIs b ty n f) (hne : b ≠ g) : (put9 W g t).rowIs b ty n f := rowIs_grown h (grown9 W g t) (fun e => hne (by cases e; rfl))
theorem below9 {w W : World} {g : Nat} {t : Th} (h : Below w.heap.size w W) (hg : w.heap.size ≤ g) : Below w.heap.size w (put9 W g t) := below_grown h (grown9 W g t) h.size hg
def zf9 (i : Nat) : Value := (thCells zTh).getD i undef
theorem zrow9 (w : World) : (w.alloc (.cells #[.int .i64 0, .int .i64 0, .int .i64 0, .int .i64 0, .int .i64 0, .int .i64 0, .int .i64 0, .int .i64 0, .int .i64 0] 105)).rowIs w.heap.size 105 9 zf9 := th_box w zTh 105
noncomputable def reg17 : Code := ((Tryz.f51.body.bind (Rs.findR 17)).getD .skip)
attribute [local go_sem ↓] Go.wp_at_zero Go.wp_at_succ
set_option maxHeartbeats 16000000 in
set_option maxRecDepth 100000 in
theorem reg17_wp (Q : Exit → Act → World → Prop) (A : Act) (c wb pbx : Nat) (pa pb : Int) (ta tb : Th) (wz : World)
  (e1 : A.tmps[1]?.getD undef = .pointer (some ⟨wb, 0, none⟩)) (e11 : A.tmps[11]?.getD undef = .pointer (some ⟨pbx, 0, none⟩)) (hsz : 96 < A.tmps.size)
  (hsk : ∀ W, Below wz.heap.size wz W → W.cell? ⟨wb, 0, none⟩ = some (.map (some c)) ∧ W.cell? ⟨pbx, 0, none⟩ = some (.int .i64 pa) ∧ W.cell? ⟨pbx, 1, none⟩ = some (.int .i64 pb) ∧ (Instr.lookup 71 (.map (some c)) (.int .i64 pa) false).run Tryz.prog W = .ok (.agg #[.int .i64 ta.m, .int .i64 ta.r.x, .int .i64 ta.r.y, .int .i64 ta.r.px, .int .i64 ta.r.py, .int .i64 ta.r.wd, .int .i64 ta.r.ht, .int .i64 ta.r.ms, .int .i64 ta.r.rr]) W ∧ (Instr.lookup 71 (.map (some c)) (.int .i64 pb) false).run Tryz.prog W = .ok (.agg #[.int .i64 tb.m, .int .i64 tb.r.x, .int .i64 tb.r.y, .int .i64 tb.r.px, .int .i64 tb.r.py, .int .i64 tb.r.wd, .int .i64 tb.r.ht, .int .i64 tb.r.ms, .int .i64 tb.r.rr]) W)
  (h : ∀ (f : Nat → Value) (b c : Nat) (W : World), f 12 = .pointer (some ⟨b, 0, none⟩) → f 13 = .pointer (some ⟨c, 0, none⟩) → W.rowIs b 105 9 (fun i => (thCells ta).getD i undef) → W.rowIs c 105 9 (fun i => (thCells tb).getD i undef) → wz.heap.size ≤ b → wz.heap.size ≤ c → b ≠ c → Below wz.heap.size wz W → Q .normal (Rh.puts f [12, 13, 87, 88, 89, 90, 91, 92, 93, 94, 95, 96] A) W) :
  Code.wp Tryz.prog reg17 Q A wz := by
 have HSK := St.hid hsk
 have H := St.hid h
 clear hsk h
 conv => arg 2; whnf
 refine Rs.wp_region (by kernel_rfl) (fun Lf a1 w1 => Hid (Rs.Sl [12, 13, 87, 88, 89, 90, 91, 92, 93, 94, 95, 96] A [(0, 87, .pointer (some ⟨wb, 0, none⟩)), (1, 88, .map (some c)), (2, 89, .pointer (some ⟨pbx, 0, none⟩)), (3, 90, .int .i64 pa), (4, 91, .agg #[.int .i64 ta.m, .int .i64 ta.r.x, .int .i64 ta.r.y, .int .i64 ta.r.px, .int .i64 ta.r.py, .int .i64 ta.r.wd, .int .i64 ta.r.ht, .int .i64 ta.r.ms, .int .i64 ta.r.rr]), (5, 92, .pointer (some ⟨wb, 0, none⟩)), (6, 93, .map (some c)), (7, 94, .pointer (some ⟨pbx, 1, none⟩)), (8, 95, .int .i64 pb), (9, 96, .agg #[.int .i64 tb.m, .int .i64 tb.r.x, .int .i64 tb.r.y, .int .i64 tb.r.px, .int .i64 tb.r.py, .int .i64 tb.r.wd, .int .i64 tb.r.ht, .int .i64 tb.r.ms, .int .i64 tb.r.rr])] Lf a1) ∧ Hid (Below wz.heap.size wz w1) ∧ Hid (Lf 10 = true → Al wz w1 (a1.tmps[12]?.getD undef) 105 9 (Lf 12) (fun i => (thCells ta).getD i undef)) ∧ Hid (Lf 11 = true → Al wz w1 (a1.tmps[13]?.getD undef) 105 9 (Lf 13) (fun i => (thCells tb).getD i undef)) ∧ Hid (Lf 10 = true → Lf 11 = true → a1.tmps[12]?.getD undef ≠ a1.tmps[13]?.getD undef)) (by kernel_rfl) ?rs ?rg ?re
 case rs => exact ⟨Rs.Sl.start hsz rfl, St.hid (Below.drew (Below.refl _ _)), St.hid (fun h => by cases h), St.hid (fun h => by cases h), St.hid (fun h => by cases h)⟩
 case rg =>
  intro Lf a1 w1 hI hC
  obtain ⟨cS, cB, cA, cD, cN⟩ := hI
  iterate 10 (refine ⟨fun hl hd K' hK => ?_, ?_⟩; rotate_left)
  refine ⟨fun hl hd K' hK => ?o10, ?_⟩
  rotate_left
  refine ⟨fun hl hd K' hK => ?o11, ?_⟩
  rotate_left
  refine ⟨fun hl hd K' hK => ?o12, ?_⟩
  rotate_left
  refine ⟨fun hl hd K' hK => ?o13, ?_⟩
  rotate_left
  exact trivial
  case o10 =>
   clear hd
   go_simp
   exact hK.out (a1.put (some _) _) _ ⟨Rs.Sl.free cS rfl rfl, St.hid (bal cB.out _), St.hid (fun _ => ⟨w1.heap.size, zf9, Rs.Sl.new cS, cB.out.size, zrow9 w1, fun h => Rs.no (Rs.late hC hl 12) h⟩), St.hid (fun h => by rw [Rh.put_ne (by decide)]; exact (cD.out h).below (bal (Below.refl _ _) _)), St.hid (fun _ h => by rw [Rs.Sl.new cS, Rh.put_ne (by decide)]; exact (cD.out h).ne)⟩
  case o11 =>
   clear hd
   go_simp
   exact hK.out (a1.put (some _) _) _ ⟨Rs.Sl.free cS rfl rfl, St.hid (bal cB.out _), St.hid (fun h => by rw [Rh.put_ne (by decide)]; exact (cA.out h).below (bal (Below.refl _ _) _)), St.hid (fun _ => ⟨w1.heap.size, zf9, Rs.Sl.new cS, cB.out.size, zrow9 w1, fun h => Rs.no (Rs.late hC hl 13) h⟩), St.hid (fun h _ => by rw [Rs.Sl.new cS, Rh.put_ne (by decide)]; exact (cA.out h).ne.symm)⟩
  case o12 =>
   have q1 := Rs.Sl.at cS 4 (Rs.dep hd 4)
   have H3 := St.hid (Rs.dep hd 10)
   obtain ⟨b3, f3, g3, l3, r3, -⟩ := cA.out H3.out
   obtain ⟨x0, x1, x2, x3, x4, x5, x6, x7, x8, k0, k1, k2, k3, k4, k5, k6, k7, k8⟩ := row9f r3
   have R3 := St.hid r3
   have L3 := St.hid l3
   clear r3 l3 hd e1 e11
   go_simp
   exact hK.out _ _ ⟨Rs.Sl.skip cS rfl, St.hid (below9 cB.out L3.out), St.hid (fun _ => ⟨b3, _, g3, L3.out, row9 R3.out _, fun _ => rfl⟩), St.hid (fun h => by obtain ⟨b, f, e1, e2, e3, e4⟩ := cD.out h; exact ⟨b, f, e1, e2, other9 e3 (fun e => cN.out H3.out h (by rw [g3, e1, e])), e4⟩), cN⟩
  case o13 =>
   have q1 := Rs.Sl.at cS 9 (Rs.dep hd 9)
   have H3 := St.hid (Rs.dep hd 11)
   obtain ⟨b3, f3, g3, l3, r3, -⟩ := cD.out H3.out
   obtain ⟨x0, x1, x2, x3, x4, x5, x6, x7, x8, k0, k1, k2, k3, k4, k5, k6, k7, k8⟩ := row9f r3
   have R3 := St.hid r3
   have L3 := St.hid l3
   clear r3 l3 hd e1 e11
   go_simp
   exact hK.out _ _ ⟨Rs.Sl.skip cS rfl, St.hid (below9 cB.out L3.out), St.hid (fun h => by obtain ⟨b, f, e1, e2, e3, e4⟩ := cA.out h; exact ⟨b, f, e1, e2, other9 e3 (fun e => cN.out h H3.out (by rw [g3, e1, e])), e4⟩), St.hid (fun _ => ⟨b3, _, g3, L3.out, row9 R3.out _, fun _ => rfl⟩), cN⟩
  all_goals
   have z := Rs.Sl.deps cS hd
   clear hd
   repeat (obtain ⟨_, z⟩ := z)
   have y1 := Rs.Sl.old cS e1 rfl
   have y11 := Rs.Sl.old cS e11 rfl
   obtain ⟨x0, p0, p1, k4, k9⟩ := HSK.out _ cB.out
   go_simp
   exact hK.out (a1.put (some _) _) _ ⟨Rs.Sl.put cS rfl rfl, cB, St.hid (fun h => by rw [Rh.put_ne (by decide)]; exact cA.out h), St.hid (fun h => by rw [Rh.put_ne (by decide)]; exact cD.out h), St.hid (fun h h' => by rw [Rh.put_ne (by decide), Rh.put_ne (by decide)]; exact cN.out h h')⟩
 case re =>
  intro Lf a1 w1 hI hall
  obtain ⟨cS, cB, cA, cD, cN⟩ := hI
  obtain ⟨b3, f3, g3, l3, r3, p3⟩ := cA.out (hall 10 (by decide))
  obtain ⟨b4, f4, g4, l4, r4, p4⟩ := cD.out (hall 11 (by decide))
  obtain rfl := p3 (hall 12 (by decide))
  obtain rfl := p4 (hall 13 (by decide))
  rw [Rs.Sl.eq cS]
  exact H.out _ b3 b4 w1 g3 g4  r3 r4 l3 l4 (fun e => cN.out (hall 10 (by decide)) (hall 11 (by decide)) (by rw [g3, g4, e])) cB.out
end Ws
end Go.Proofs.YtckkkdldljhehacGreat
