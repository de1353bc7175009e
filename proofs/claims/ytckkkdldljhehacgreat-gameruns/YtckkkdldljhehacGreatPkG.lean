/- Part of the proofs of GamePlays and GameRuns (package ninepinslaw): contracts of the functions that they call. -/
import Derived.Sort.OwnSortedInts
import Derived.Deep.DrawnRows
import Derived.Test.YtckkkdldljhehacGreatRows
import Derived.WalkKit
import Derived.RegionTactic
import Derived.Deep.RegionHeld
import Derived.Test.YtckkkdldljhehacGreatShelf
import Derived.Test.YtckkkdldljhehacGreatPkA2
import Derived.Test.YtckkkdldljhehacGreatPkC
import Derived.Test.YtckkkdldljhehacGreatPkD
import Derived.Test.YtckkkdldljhehacGreatPkE2
import Derived.Test.YtckkkdldljhehacGreatPkL
namespace Go.Proofs.YtckkkdldljhehacGreat
namespace St
open Num
open Go.ChangeShapes Go.WideShapes Go.ChangeAt Go.RowKit
def gath (T : Nat → TabV) (I : Nat → Nat → Int) (m : Int) : Nat → List Int
 | 0 => []
 | k + 1 => if hasB (T k).mask m then gath T I m k ++ (List.range (T k).il).map (I k) else gath T I m k
set_option maxHeartbeats 1000000 in
set_option maxRecDepth 100000 in
theorem query_any (a : Option Addr) (n cap : Nat) (next m : Int) (T : Nat → TabV) (I : Nat → Nat → Int) (w : World) (hn : n ≤ maxLen) (hT : TabsIn w a n T)
  (hI : ∀ i, i < n → IdsIn w (T i).ia (T i).il (I i)) (hp : ∀ i, i < n → 0 < (T i).il) (hG : ∀ k, k ≤ n → (gath T I m k).length ≤ 1000) :
  Calls Tryz.prog 44 #[.agg #[.slice a n cap, .int .i64 next], .int .i64 m] w fun e w' =>
   (∃ v, e = .returned v ∧ w'.ownsRow w.heap.size 3 1 v (gath T I m n).length (((gath T I m n).mergeSort fun x y => decide (x ≤ y)).map (Value.int .i64))) ∧ Below w.heap.size w w' := by
 obtain ⟨i0, hi, hz0, hz1, hz2⟩ := info_parts info3
 have HT : Hid _ := hT
 have HI : Hid _ := hI
 have HP : Hid _ := hp
 have HG : Hid _ := hG
 clear hT hI hp hG
 unfold maxLen at hn
 go_enter Tryz.func44, Tryz.ntmps44
 go_wp2_with fail
 go_loopw [5, 11] (fun v i wr => ∃ k : Nat, k ≤ n ∧ i = .int .i64 k ∧ Hid (wr.ownsRow (w.heap.size + 1) 3 1 v (gath T I m k).length ((gath T I m k).map (Value.int .i64))) ∧ Below w.heap.size w wr ∧ w.heap.size < wr.heap.size) (fun _ i _ => n - (intOf i).toNat)
 case atStart => exact ⟨0, Nat.zero_le _, rfl, World.ownsRow_nil _ _ _ _, bal (Below.refl _ _) _, by simp⟩
 case round =>
  obtain ⟨k, hk, rfl, hown, hbl, hzr⟩ := hrel
  have HL : Hid _ := hbl
  clear hbl
  by_cases hlt : k < n
  ·obtain ⟨b, off, rfl, hb, hc⟩ := HT.out (by omega)
   obtain ⟨c0, c1, c2⟩ := hc k hlt
   rw [← HL.out.cell (by exact hb)] at c0 c1 c2
   clear hc
   obtain ⟨bi, oi, hia, hbi, hci⟩ := HI.out k hlt (HP.out k hlt)
   have HCI : Hid _ := hci
   clear hci
   rw [hia] at c1
   have hbz : b < wr.heap.size := by omega
   have hg1 := HG.out (k + 1) (by omega)
   cases hq : hasB (T k).mask m
   ·have HS : Hid (gath T I m (k + 1) = gath T I m k) := by simp [Hid, gath, hq]
    go_wp2_with (go_at_call 74; refine (has_any _ _ _).mono ?_; rintro e w' ⟨rfl, rfl⟩)
    go_roundw
    case rel => exact ⟨k + 1, by omega, by go_num, by rw [HS.out]; exact hown.out.alloc _, bal HL.out _, by simp; omega⟩
    case measure => simp [intOf]; omega
   ·have hs : gath T I m (k + 1) = gath T I m k ++ (List.range (T k).il).map (I k) := by simp [gath, hq]
    rw [hs] at hg1
    simp only [List.length_append, List.length_map, List.length_range] at hg1
    have HS : Hid _ := hs
    clear hs
    go_wp2_with (first
     | (go_at_call 74; refine (has_any _ _ _).mono ?_; rintro e w' ⟨rfl, rfl⟩)
     | (at_builtin; refine wpList_append_own _ rfl _ _ 28 rfl (w.heap.size + 1) 3 i0 (.int .i64 0) 1 8 Tryz.underlying28 hi hz0 hz1 hz2 rfl (by decide) _ _ _ rfl (hown.out.alloc _) ⟨bi, oi, none⟩ (T k).il (T k).ic (((List.range (T k).il).map (I k)).map (Value.int .i64)) rfl ?c1 ?c2 ?c3 ?c4 ?c5 ?c6 ?_))
    case c1 => simp
    case c2 =>
     intro j u hj
     have hjl : j < (T k).il := by simpa using (List.getElem?_eq_some_iff.1 hj).1
     have e : (((List.range (T k).il).map (I k)).map (Value.int .i64))[j]? = some (.int .i64 (I k j)) := by simp [hjl]
     rw [e] at hj
     cases hj
     rw [Addr.add_lit]
     exact ((bal HL.out _).cell (p := ⟨bi, oi + j, none⟩) hbi).trans (HCI.out j hjl)
    case c3 => intro u hu; simp at hu; obtain ⟨_, _, rfl⟩ := hu; rfl
    case c4 => unfold maxLen; omega
    case c5 => omega
    case c6 => simp; omega
    intro v' w1 hown1 hgrow1 _
    have HO1 : Hid _ := hown1
    have HG1 : Hid _ := hgrow1
    clear hown1 hgrow1
    go_wp2_with fail
    go_roundw
    case rel =>
     refine ⟨k + 1, by omega, by go_num, ?_, ?_, ?_⟩
     ·have := HO1.out
      rw [HS.out, List.length_append, List.map_append, List.length_map, List.length_range, List.map_map]
      exact this
     ·exact (bal HL.out _).grown HG1.out (by simp; omega) (fun q hq' => by have := (hown.out.lt q hq').1; omega)
     ·have := HG1.out.size; simp at this; omega
    case measure => simp [intOf]; omega
  ·have hke : k = n := by omega
   subst hke
   have hgl := HG.out k (by omega)
   rcases hown.out.2 with ⟨hv, hz⟩ | ⟨g, c, cur, hv, hbase, hblk, h1, h2, h3, h4⟩
   ·subst hv
    have HZ : Hid _ := hz
    clear hz
    go_wp2_with (go_at_call 71; refine (Tryz.slices_Sort_int_none _ _ _).mono ?_; rintro e w' ⟨rfl, rfl⟩)
    go_ret
    have : gath T I m k = [] := List.length_eq_zero_iff.1 HZ.out
    exact ⟨⟨_, rfl, by rw [this]; exact ⟨by simp, Or.inl ⟨rfl, by simp⟩⟩⟩, HL.out⟩
   ·subst hv
    have hH := Go.holds_of_blockI hblk (by simpa using h4)
    have hbl : g < wr.heap.size := (Array.getElem?_eq_some_iff.1 hblk).1
    have HB : Hid _ := hblk
    have H1 : Hid _ := h1
    have H2 : Hid _ := h2
    have H3 : Hid _ := h3
    clear hblk h1 h2 h3 h4
    go_wp2_with (go_at_call 71; refine (Tryz.slices_Sort_int g 0 c (gath T I m k) _ hH hbl (by omega)).mono ?_; rintro e w' ⟨rfl, q, os, rfl⟩)
    go_ret
    exact ⟨⟨_, rfl, ownsRow_sortedI (by simp) (by omega) HB.out H1.out H2.out H3.out⟩, HL.out.grown (grownBy_sortedI _) (by omega) (fun j hj => by cases hj; omega)⟩
end St
namespace Wd
open Num St
def upd (g : Int → R8) (id : Int) (r : R8) : Int → R8 := fun x => if x = id then r else g x
def withRows (L : List Tab) (g : Int → R8) : List Tab := L.map fun t => ⟨t.mask, t.ids, t.ids.map g⟩
def lookT : List Tab → Int → Option (Int × R8)
 | [], _ => none
 | t :: L, v => if v ∈ t.ids then some (t.mask, t.rows.getD (posOf v t.ids) zeroR) else lookT L v
def mk (L : List Tab) (v : Int) : Int := ((lookT L v).map (·.1)).getD 0
def rw0 (L : List Tab) (v : Int) : R8 := ((lookT L v).map (·.2)).getD zeroR
theorem look_at {L : List Tab} (hn : (allL L).Nodup) {v m : Int} {r : R8} (h : At L v m r) : lookT L v = some (m, r) := by
 induction L with
 | nil => obtain ⟨t, ht, _⟩ := h; cases ht
 | cons t L ih =>
  have hsplit : (t.ids ++ allL L).Nodup := by simpa [allL] using hn
  rw [List.nodup_append] at hsplit
  rcases at_cons.1 h with ⟨hm, j, h1, h2⟩ | h1
  ·have hmem : v ∈ t.ids := List.mem_of_getElem? h1
   rw [lookT, if_pos hmem, posOf_get hsplit.1 h1, hm]
   simp [List.getD, h2]
  ·have hno : v ∉ t.ids := fun hc => hsplit.2.2 v hc v (at_mem h1) rfl
   rw [lookT, if_neg hno, ih hsplit.2.1 h1]
theorem at_mk {L : List Tab} (hn : (allL L).Nodup) {v m : Int} {r : R8} (h : At L v m r) : mk L v = m ∧ rw0 L v = r := by
 have := look_at hn h
 simp [mk, rw0, this]
theorem with_self {next : Int} {L : List Tab} (hg : GoodL next L) : withRows L (rw0 L) = L := by
 have key : ∀ t ∈ L, (⟨t.mask, t.ids, t.ids.map (rw0 L)⟩ : Tab) = t := by
  intro t ht
  have hl := hg.even t ht
  have : t.ids.map (rw0 L) = t.rows := by
   apply List.ext_getElem?
   intro j
   by_cases hj : j < t.ids.length
   ·have h1 : t.ids[j]? = some t.ids[j] := List.getElem?_eq_getElem hj
    have h2 : t.rows[j]? = some t.rows[j] := List.getElem?_eq_getElem (by omega)
    rw [List.getElem?_map, h1, h2]
    simp only [Option.map_some]
    rw [(at_mk hg.2.2.2.2.2 (⟨t, ht, rfl, j, h1, h2⟩ : At L t.ids[j] t.mask t.rows[j])).2]
   ·rw [List.getElem?_eq_none (by simpa using hj), List.getElem?_eq_none (by omega)]
  rw [this]
 unfold withRows
 conv => rhs; rw [← List.map_id L]
 exact List.map_congr_left key
theorem allL_with (L : List Tab) (g : Int → R8) : allL (withRows L g) = allL L := by
 simp [allL, withRows, List.flatMap_map]
theorem even_with (L : List Tab) (g : Int → R8) : Even (withRows L g) := by
 intro t ht
 obtain ⟨x, hx, rfl⟩ := List.mem_map.1 ht
 simp
theorem at_with {L : List Tab} (he : Even L) (g : Int → R8) {v m : Int} {r : R8} : At (withRows L g) v m r ↔ (∃ q, At L v m q) ∧ r = g v := by
 constructor
 ·rintro ⟨t', ht', rfl, j, h1, h2⟩
  obtain ⟨t, ht, rfl⟩ := List.mem_map.1 ht'
  simp only at h1 h2
  rw [List.getElem?_map, h1] at h2
  have hj := (List.getElem?_eq_some_iff.1 h1).1
  have hl := he t ht
  exact ⟨⟨t.rows[j], t, ht, rfl, j, h1, List.getElem?_eq_getElem (by omega)⟩, by simpa using h2.symm⟩
 ·rintro ⟨⟨q, t, ht, rfl, j, h1, h2⟩, rfl⟩
  refine ⟨_, List.mem_map.2 ⟨t, ht, rfl⟩, rfl, j, h1, ?_⟩
  simp only
  rw [List.getElem?_map, h1]
  rfl
theorem set_with (L : List Tab) (g : Int → R8) (v : Int) (r : R8) : setL v r (withRows L g) = withRows L (upd g v r) := by
 unfold setL withRows
 rw [List.map_map]
 apply List.map_congr_left
 intro t _
 simp only [Function.comp, Tab.mk.injEq, true_and]
 generalize t.ids = l
 induction l with
 | nil => rfl
 | cons x l ih => simp [upd, ih]
theorem good_with {next : Int} {L : List Tab} {g : Int → R8} (hg : GoodL next L) (hr : ∀ v m q, At L v m q → goodRowB m (g v) = true) : GoodL next (withRows L g) := by
 obtain ⟨g1, g2, g3, g4, g5, g6⟩ := hg
 have he : Even L := fun t ht => (g5 t ht).2.1
 refine ⟨g1, by rw [allL_with]; exact g2, ?_, ?_, ?_, by rw [allL_with]; exact g6⟩
 ·intro t ht
  obtain ⟨x, hx, rfl⟩ := List.mem_map.1 ht
  exact g3 x hx
 ·exact List.Pairwise.map _ (fun a b h => h) g4
 ·intro t ht
  obtain ⟨x, hx, rfl⟩ := List.mem_map.1 ht
  have hx' := g5 x hx
  refine ⟨hx'.1, by simp, hx'.2.2.1, fun q hq => ?_⟩
  obtain ⟨y, hy, rfl⟩ := List.mem_map.1 hq
  obtain ⟨j, hj⟩ := List.getElem?_of_mem hy
  have hlt := (List.getElem?_eq_some_iff.1 hj).1
  have hl := he x hx
  exact hr y x.mask (x.rows[j]'(by omega)) ⟨x, hx, rfl, j, hj, List.getElem?_eq_getElem (by omega)⟩
def gathR (m : Int) (L : List Tab) : List Int := L.flatMap fun t => if hasB t.mask m then t.ids else []
theorem gath_with (m : Int) (L : List Tab) (g : Int → R8) : gathR m (withRows L g) = gathR m L := by
 simp [gathR, withRows, List.flatMap_map]
theorem gath_plain (T : Nat → TabV) (I : Nat → Nat → Int) (R : Nat → Nat → R8) (m : Int) (n : Nat) : gath T I m n = gathR m (plainOf T I R n) := by
 induction n with
 | zero => simp [gath, gathR, plainOf]
 | succ n ih =>
  rw [gath, ih]
  simp only [gathR, plainOf, List.range_succ, List.map_append, List.flatMap_append, List.map_cons, List.map_nil, List.flatMap_cons, List.flatMap_nil, List.append_nil, tabOf]
  split <;> simp
theorem mem_gath {m v : Int} {L : List Tab} (he : Even L) : v ∈ gathR m L ↔ ∃ q r, At L v q r ∧ hasB q m = true := by
 constructor
 ·intro h
  obtain ⟨t, ht, hx⟩ := List.mem_flatMap.1 h
  split at hx
  ·rename_i hb
   obtain ⟨j, hj⟩ := List.getElem?_of_mem hx
   have hlt := (List.getElem?_eq_some_iff.1 hj).1
   have hl := he t ht
   exact ⟨t.mask, t.rows[j]'(by omega), ⟨t, ht, rfl, j, hj, List.getElem?_eq_getElem (by omega)⟩, hb⟩
  ·cases hx
 ·rintro ⟨q, r, ⟨t, ht, rfl, j, h1, h2⟩, hb⟩
  exact List.mem_flatMap.2 ⟨t, ht, by rw [if_pos hb]; exact List.mem_of_getElem? h1⟩
theorem gath_sub (m : Int) (L : List Tab) : (gathR m L).Sublist (allL L) := by
 induction L with
 | nil => simp [gathR, allL]
 | cons t L ih =>
  simp only [gathR, allL, List.flatMap_cons] at ih ⊢
  refine List.Sublist.append ?_ ih
  split
  ·exact List.Sublist.refl _
  ·exact List.nil_sublist _
def idsOf (m : Int) (L : List Tab) : List Int := (gathR m L).mergeSort fun x y => decide (x ≤ y)
theorem mem_ids {m v : Int} {L : List Tab} (he : Even L) : v ∈ idsOf m L ↔ ∃ q r, At L v q r ∧ hasB q m = true := by
 unfold idsOf
 rw [List.mem_mergeSort, mem_gath he]
theorem ids_len {next m : Int} {L : List Tab} (hg : GoodL next L) : (idsOf m L).length ≤ 10 := by
 unfold idsOf
 rw [List.length_mergeSort]
 exact Nat.le_trans (gath_sub m L).length_le hg.2.1
theorem ids_with (m : Int) (L : List Tab) (g : Int → R8) : idsOf m (withRows L g) = idsOf m L := by unfold idsOf; rw [gath_with]
def putG (M : Int → Int) (g : Int → R8) (id : Int) (r : R8) : Int → R8 := if hasB (M id) 11 && goodRowB (M id) r then upd g id r else g
def fallR (fall m : Int) (r : R8) : R8 := if hasB m 16 then { r with py := ad r.py (fall * r.ms) 16777216 } else r
def goRow (r : R8) : R8 := { r with x := ad r.x (spd r.px r.ms) 1048576, y := ad r.y (spd r.py r.ms) 1048576 }
def go1 (M : Int → Int) (fall : Int) (g : Int → R8) (id : Int) : Int → R8 := putG M g id (goRow (fallR fall (M id) (g id)))
def goOnG (M : Int → Int) (fall : Int) (l : List Int) (g : Int → R8) : Int → R8 := l.foldl (go1 M fall) g
def bodyR (m : Int) (r : R8) : R8 := if hasB m 11 then r else { r with ms := 0, px := 0, py := 0 }
def overG (M : Int → Int) (g : Int → R8) (p : Int × Int) : Bool := overB (bodyR (M p.1) (g p.1)) (bodyR (M p.2) (g p.2))
def meet1 (M : Int → Int) (s : (Int → R8) × List (Int × Int)) (p : Int × Int) : (Int → R8) × List (Int × Int) :=
 if overG M s.1 p then (putG M (putG M s.1 p.1 (met (bodyR (M p.1) (s.1 p.1)) (bodyR (M p.2) (s.1 p.2))).1) p.2 (met (bodyR (M p.1) (s.1 p.1)) (bodyR (M p.2) (s.1 p.2))).2, s.2 ++ [p]) else s
def meetG (M : Int → Int) (l : List (Int × Int)) (g : Int → R8) : (Int → R8) × List (Int × Int) := l.foldl (meet1 M) (g, [])
def wallX (wide : Int) (r : R8) : R8 := { r with x := wallAt r.x r.wd wide, px := wallPush r.x r.px r.wd wide r.rr }
def wallY (high : Int) (r : R8) : R8 := { r with y := wallAt r.y r.ht high, py := wallPush r.y r.py r.ht high r.rr }
def wall1 (M : Int → Int) (wide high : Int) (g : Int → R8) (id : Int) : Int → R8 := putG M g id (wallY high (wallX wide (g id)))
def wallG (M : Int → Int) (wide high : Int) (l : List Int) (g : Int → R8) : Int → R8 := l.foldl (wall1 M wide high) g
def boxOf (g : Int → R8) (id : Int) : Sw.B5 := ⟨id, (g id).x - (g id).wd, (g id).y - (g id).ht, (g id).x + (g id).wd, (g id).y + (g id).ht⟩
def boxG (L : List Tab) (g : Int → R8) : List Sw.B5 := (idsOf 5 L).map (boxOf g)
def stepG (L : List Tab) (fall wide high : Int) : (Int → R8) × List (Int × Int) :=
 (wallG (mk L) wide high (idsOf 11 L) (meetG (mk L) (Sw.pairsG (boxG L (goOnG (mk L) fall (idsOf 11 L) (rw0 L)))) (goOnG (mk L) fall (idsOf 11 L) (rw0 L))).1,
  (meetG (mk L) (Sw.pairsG (boxG L (goOnG (mk L) fall (idsOf 11 L) (rw0 L)))) (goOnG (mk L) fall (idsOf 11 L) (rw0 L))).2)
def putL (m id : Int) (r : R8) (L : List Tab) : List Tab := if hasB m 11 && goodRowB m r then setL id r L else L
theorem putL_with {L : List Tab} (hn : (allL L).Nodup) {g : Int → R8} {id m : Int} {q : R8} (hat : At L id m q) (r : R8) : putL m id r (withRows L g) = withRows L (putG (mk L) g id r) := by
 unfold putL putG
 rw [(at_mk hn hat).1]
 split
 ·exact set_with L g id r
 ·rfl
def RowsOk (L : List Tab) (g : Int → R8) : Prop := ∀ v m q, At L v m q → goodRowB m (g v) = true
theorem RowsOk.put {L : List Tab} (hn : (allL L).Nodup) {g : Int → R8} (h : RowsOk L g) (id : Int) (r : R8) : RowsOk L (putG (mk L) g id r) := by
 unfold putG
 split
 ·rename_i hb
  simp only [Bool.and_eq_true] at hb
  intro v m q hat
  unfold upd
  split
  ·rename_i e
   subst e
   rw [← (at_mk hn hat).1]
   exact hb.2
  ·exact h v m q hat
 ·exact h
theorem RowsOk.go {L : List Tab} (hn : (allL L).Nodup) {g : Int → R8} (h : RowsOk L g) (fall : Int) (l : List Int) : RowsOk L (goOnG (mk L) fall l g) := by
 unfold goOnG
 induction l generalizing g with
 | nil => exact h
 | cons x l ih => exact ih (RowsOk.put hn h _ _)
theorem RowsOk.meet1 {L : List Tab} (hn : (allL L).Nodup) {s : (Int → R8) × List (Int × Int)} (h : RowsOk L s.1) (p : Int × Int) : RowsOk L (meet1 (mk L) s p).1 := by
 unfold Wd.meet1
 split
 ·exact RowsOk.put hn (RowsOk.put hn h _ _) _ _
 ·exact h
theorem RowsOk.meet {L : List Tab} (hn : (allL L).Nodup) {g : Int → R8} (h : RowsOk L g) (l : List (Int × Int)) : RowsOk L (meetG (mk L) l g).1 := by
 unfold meetG
 have key : ∀ (l : List (Int × Int)) (s : (Int → R8) × List (Int × Int)), RowsOk L s.1 → RowsOk L (l.foldl (Wd.meet1 (mk L)) s).1 := by
  intro l
  induction l with
  | nil => intro s hs; exact hs
  | cons p l ih => intro s hs; exact ih _ (RowsOk.meet1 hn hs p)
 exact key l (g, []) h
theorem RowsOk.wall {L : List Tab} (hn : (allL L).Nodup) {g : Int → R8} (h : RowsOk L g) (wide high : Int) (l : List Int) : RowsOk L (wallG (mk L) wide high l g) := by
 unfold wallG
 induction l generalizing g with
 | nil => exact h
 | cons x l ih => exact ih (RowsOk.put hn h _ _)
theorem rows_ok {next : Int} {L : List Tab} (hg : GoodL next L) : RowsOk L (rw0 L) := fun v m q h => by
 rw [(at_mk hg.2.2.2.2.2 h).2]
 exact (At.good hg h).1
end Wd
namespace Wd
open Num St
open Go.ChangeShapes Go.WideShapes Go.ChangeAt Go.RowKit
def Sto (W : World) (F : Nat → Prop) (v : Value) (L : List Tab) : Prop := ∃ a n cap T I R, v = .slice a n cap ∧ plainOf T I R n = L ∧ (∀ b, F b → b < W.heap.size) ∧ ∀ W' : World, W.heap.size ≤ W'.heap.size → (∀ b, F b → W'.heap[b]? = W.heap[b]?) → StoreIn W' a n T I R
theorem Sto.keep {W W' : World} {F : Nat → Prop} {v : Value} {L : List Tab} (h : Sto W F v L) (hz : W.heap.size ≤ W'.heap.size) (hb : ∀ b, F b → W'.heap[b]? = W.heap[b]?) : Sto W' F v L := by
 obtain ⟨a, n, cap, T, I, R, e, hp, hl, hs⟩ := h
 exact ⟨a, n, cap, T, I, R, e, hp, fun b hF => Nat.lt_of_lt_of_le (hl b hF) hz, fun W2 h1 h2 => hs W2 (Nat.le_trans hz h1) (fun b hF => (h2 b hF).trans (hb b hF))⟩
theorem Sto.lt {W : World} {F : Nat → Prop} {v : Value} {L : List Tab} (h : Sto W F v L) {b : Nat} (hb : F b) : b < W.heap.size := by
 obtain ⟨a, n, cap, T, I, R, e, hp, hl, hs⟩ := h
 exact hl b hb
theorem Sto.below {W W' : World} {F : Nat → Prop} {v : Value} {L : List Tab} (h : Sto W F v L) (hb : Below W.heap.size W W') : Sto W' F v L :=
 h.keep hb.size (fun b hF => hb.block b (h.lt hF))
theorem Sto.drew {W : World} {F : Nat → Prop} {v : Value} {L : List Tab} (h : Sto W F v L) : Sto W.drew F v L := h.below (Below.drew (Below.refl _ W))
theorem Sto.setCell {W : World} {F : Nat → Prop} {v : Value} {L : List Tab} (h : Sto W F v L) {b : Nat} (hb : ¬ F b) (o : Nat) (u : Value) : Sto (W.setCell ⟨b, o, none⟩ u) F v L :=
 h.keep (by simp [World.setCell]) (fun k hF => Below.heap_setCell _ _ _ _ (fun e => hb (by rw [← show k = b from e]; exact hF)))
theorem Sto.one {W : World} {F : Nat → Prop} {v : Value} {L : List Tab} (h : Sto W F v L) : ∃ a n cap, v = .slice a n cap := by
 obtain ⟨a, n, cap, T, I, R, e, hp, hl, hs⟩ := h
 exact ⟨a, n, cap, e⟩
theorem Sto.in_ {W : World} {F : Nat → Prop} {v : Value} {L : List Tab} (h : Sto W F v L) : ∃ a n cap T I R, v = .slice a n cap ∧ StoreIn W a n T I R ∧ plainOf T I R n = L := by
 obtain ⟨a, n, cap, T, I, R, e, hp, hl, hs⟩ := h
 exact ⟨a, n, cap, T, I, R, e, hs W (Nat.le_refl _) (fun _ _ => rfl), hp⟩
theorem Sto.wide {W : World} {F F' : Nat → Prop} {v : Value} {L : List Tab} (h : Sto W F v L) (hF : ∀ b, F b → F' b) (hl : ∀ b, F' b → b < W.heap.size) : Sto W F' v L := by
 obtain ⟨a, n, cap, T, I, R, e, hp, _, hs⟩ := h
 exact ⟨a, n, cap, T, I, R, e, hp, hl, fun W2 h1 h2 => hs W2 h1 (fun b hb => h2 b (hF b hb))⟩
theorem ownsRow_same {W W' : World} {B size n : Nat} {e : TypeId} {v : Value} {xs : List Value} (h : W.ownsRow B e size v n xs) (hs : ∀ g, v.ownBlock = some g → W'.heap[g]? = W.heap[g]?) : W'.ownsRow B e size v n xs := by
 refine ⟨h.1, ?_⟩
 rcases h.2 with h0 | ⟨g, c, cur, rfl, hb, hg, h3, h4, h5, h6⟩
 ·exact Or.inl h0
 ·exact Or.inr ⟨g, c, cur, rfl, hb, (hs g rfl).trans hg, h3, h4, h5, h6⟩
theorem Own.same {W W' : World} {B : Nat} {v : Value} {S : List OT} (h : Own W B v S) (hs : ∀ b, b ∈ v.ownBlock.toList ++ blocks S → W'.heap[b]? = W.heap[b]?) : Own W' B v S := by
 refine ⟨ownsRow_same h.1 (fun g hg => hs g (List.mem_append.2 (Or.inl (by simp [hg])))), fun o ho => ?_, h.2.2⟩
 have hm : ∀ g ∈ otBlocks o, W'.heap[g]? = W.heap[g]? := fun g hg => hs g (List.mem_append.2 (Or.inr (List.mem_flatMap.2 ⟨o, ho, hg⟩)))
 exact ⟨ownsRow_same (h.2.1 o ho).1 (fun g hg => hm g (by simp [otBlocks, hg])), ownsRow_same (h.2.1 o ho).2 (fun g hg => hm g (by simp [otBlocks, hg]))⟩
theorem Sto.of_own {W : World} {B : Nat} {v : Value} {S : List OT} (h : Own W B v S) (hin : ∀ (W' : World) (a : Option Addr) (c : Nat), v = .slice a S.length c → Own W' B v S → StoreIn W' a S.length (tvOf S) (idOf S) (rwOf S)) : Sto W (fun b => B ≤ b ∧ b ∈ v.ownBlock.toList ++ blocks S) v (S.map (·.t)) := by
 obtain ⟨a, c, e⟩ := own_form h.1
 exact ⟨a, S.length, c, tvOf S, idOf S, rwOf S, e, plain_own S, fun b hb => (h.lt b hb.2).2, fun W' _ h2 => hin W' a c e (Own.same h (fun b hb => h2 b ⟨(h.lt b hb).1, hb⟩))⟩
theorem Sto.good {W : World} {F : Nat → Prop} {v : Value} {L : List Tab} (h : Sto W F v L) (next : Int) :
  Calls Tryz.prog 43 #[.agg #[v, .int .i64 next]] W fun e w' => (∃ g, e = .returned (.bool g) ∧ (g = true ↔ GoodL next L)) ∧ Below W.heap.size W w' := by
 obtain ⟨a, n, cap, T, I, R, rfl, hin, rfl⟩ := h.in_
 exact hin.good cap next
theorem Sto.get_some {W : World} {F : Nat → Prop} {v : Value} {L : List Tab} (h : Sto W F v L) {nx : Int} (hg : GoodL nx L) (next id m : Int) (r : R8) (hat : At L id m r) :
  Calls Tryz.prog 19 #[.agg #[v, .int .i64 next], .int .i64 id] W fun e w' => e = .returned (.tuple #[.int .i64 m, .agg #[.int .i64 r.x, .int .i64 r.y, .int .i64 r.px, .int .i64 r.py, .int .i64 r.wd, .int .i64 r.ht, .int .i64 r.ms, .int .i64 r.rr], .bool true]) ∧ Below W.heap.size W w' := by
 obtain ⟨a, n, cap, T, I, R, rfl, hin, rfl⟩ := h.in_
 exact hin.get_some hg.even hg.2.2.2.2.2 cap next id m r hat
theorem Sto.get_none {W : World} {F : Nat → Prop} {v : Value} {L : List Tab} (h : Sto W F v L) {nx : Int} (hg : GoodL nx L) (next id : Int) (hno : id ∉ allL L) :
  Calls Tryz.prog 19 #[.agg #[v, .int .i64 next], .int .i64 id] W fun e w' => e = .returned (.tuple #[.int .i64 0, .agg #[.int .i64 0, .int .i64 0, .int .i64 0, .int .i64 0, .int .i64 0, .int .i64 0, .int .i64 0, .int .i64 0], .bool false]) ∧ Below W.heap.size W w' := by
 obtain ⟨a, n, cap, T, I, R, rfl, hin, rfl⟩ := h.in_
 exact hin.get_none hg.even cap next id hno
theorem Sto.size {W : World} {F : Nat → Prop} {v : Value} {L : List Tab} (h : Sto W F v L) {nx : Int} (hg : GoodL nx L) (next : Int) :
  Calls Tryz.prog 41 #[.agg #[v, .int .i64 next]] W fun e w' => e = .returned (.int .i64 (allL L).length) ∧ Below W.heap.size W w' := by
 obtain ⟨a, n, cap, T, I, R, rfl, hin, rfl⟩ := h.in_
 exact hin.size hg cap next
theorem own_sto {W : World} {B : Nat} {v : Value} {S : List OT} {next : Int} (h : Own W B v S) (hg : GoodL next (S.map (·.t))) : ∃ F, Sto W F v (S.map (·.t)) ∧ ∀ b, F b → B ≤ b :=
 ⟨_, Sto.of_own h (fun _ _ _ e ho => by rw [e] at ho; exact (own_good ho rfl hg).1), fun _ hb => hb.1⟩
theorem flat_le {L L' : List Tab} (h : L.Sublist L') : (allL L).length ≤ (allL L').length := by
 induction h with
 | slnil => exact Nat.le_refl _
 | cons a h ih => simp only [allL, List.flatMap_cons, List.length_append] at ih ⊢; omega
 | cons_cons a h ih => simp only [allL, List.flatMap_cons, List.length_append] at ih ⊢; omega
theorem Sto.query {W : World} {F : Nat → Prop} {v : Value} {L : List Tab} (h : Sto W F v L) {nx : Int} (hg : GoodL nx L) (next m : Int) :
  Calls Tryz.prog 44 #[.agg #[v, .int .i64 next], .int .i64 m] W fun e w' =>
   (∃ a c, e = .returned (.slice a (idsOf m L).length c) ∧ w'.ownsRow W.heap.size 3 1 (.slice a (idsOf m L).length c) (idsOf m L).length ((idsOf m L).map (Value.int .i64))) ∧ Below W.heap.size W w' := by
 obtain ⟨a, n, cap, T, I, R, rfl, hin, rfl⟩ := h.in_
 have hn31 := (goodL_n (fun i hi => (hin.hz i hi).1) hg).1
 refine (query_any a n cap next m T I W (by unfold maxLen; omega) hin.tabs hin.ids ?_ ?_).mono ?_
 ·intro i hi
  have := (hg.2.2.2.2.1 _ (mem_plain.2 ⟨i, hi, rfl⟩)).1
  simp [tabOf] at this
  omega
 ·intro k hk
  have h1 : gath T I m k = gathR m (plainOf T I R k) := gath_plain T I R m k
  have h2 : (plainOf T I R k).Sublist (plainOf T I R n) := by
   unfold plainOf
   refine List.Sublist.map _ ?_
   rw [List.range_eq_range', List.range_eq_range']
   exact List.range'_sublist_right.2 hk
  have h3 := (gath_sub m (plainOf T I R k)).length_le
  have h4 : (allL (plainOf T I R k)).length ≤ (allL (plainOf T I R n)).length := flat_le h2
  rw [h1]
  have := hg.2.1
  omega
 ·rintro e w' ⟨⟨u, rfl, ho⟩, hb⟩
  have e1 : gath T I m n = gathR m (plainOf T I R n) := gath_plain T I R m n
  have e2 : (gath T I m n).length = (idsOf m (plainOf T I R n)).length := by rw [e1]; unfold idsOf; rw [List.length_mergeSort]
  rw [e2, e1] at ho
  obtain ⟨a', c', rfl⟩ := own_form ho
  exact ⟨⟨a', c', rfl, ho⟩, hb⟩
theorem Sto.set {W : World} {F : Nat → Prop} {v : Value} {L : List Tab} (h : Sto W F v L) (next : Int) (hg : GoodL next L) (id m : Int) (q r : R8) (hat : At L id m q) :
  Calls Tryz.prog 67 #[.agg #[v, .int .i64 next], .int .i64 id, .agg #[.int .i64 r.x, .int .i64 r.y, .int .i64 r.px, .int .i64 r.py, .int .i64 r.wd, .int .i64 r.ht, .int .i64 r.ms, .int .i64 r.rr]] W fun e w' =>
   (∃ a n c ec, e = .returned (.tuple #[.agg #[.slice a n c, .int .i64 next], .int .i64 ec]) ∧ ∃ F', Sto w' F' (.slice a n c) (if goodRowB m r then setL id r L else L) ∧ ∀ b, F' b → W.heap.size ≤ b) ∧ Below W.heap.size W w' := by
 obtain ⟨a, n, cap, T, I, R, rfl, hin, rfl⟩ := h.in_
 refine (set_any a n cap next id r T I R W hin).mono ?_
 rintro e w' ⟨⟨u, ec, rfl, S, ho, hout⟩, hb⟩
 obtain ⟨a', c', rfl⟩ := own_form ho.1
 have huniq : ∀ m' q', At (plainOf T I R n) id m' q' → m' = m := fun m' q' h' => (at_unique hg.2.2.2.2.2 h' hat).1
 refine ⟨⟨a', S.length, c', ec, rfl, ?_⟩, hb⟩
 rcases hout with ⟨_, h1, _⟩ | ⟨_, _, h1, _⟩ | ⟨_, _, ⟨m', q', h1, h2⟩, h3⟩ | ⟨_, _, ⟨m', q', h1, h2⟩, h3⟩
 ·exact absurd hg h1
 ·exact absurd (at_mem hat) h1
 ·rw [huniq m' q' h1] at h2
  rw [if_neg (by simp [h2]), ← h3]
  exact own_sto (next := next) ho (by rw [h3]; exact hg)
 ·have h2' := h2
  rw [huniq m' q' h1] at h2'
  rw [if_pos h2', ← h3]
  refine own_sto (next := next) ho ?_
  rw [h3]
  exact good_set hg (fun m'' q'' h'' => by rw [huniq m'' q'' h'']; exact h2')
theorem Sto.clone {W : World} {F : Nat → Prop} {v : Value} {L : List Tab} (h : Sto W F v L) (next : Int) :
  Calls Tryz.prog 60 #[.agg #[v, .int .i64 next]] W fun e w' => (∃ a n c, e = .returned (.agg #[.slice a n c, .int .i64 next]) ∧ ∃ F', Sto w' F' (.slice a n c) L ∧ ∀ b, F' b → W.heap.size ≤ b) ∧ Below W.heap.size W w' := by
 obtain ⟨a, n, cap, T, I, R, rfl, hin, rfl⟩ := h.in_
 refine (clone_any a n cap next T I R W hin.tabs hin.ids hin.rows hin.fits).mono ?_
 rintro e w' ⟨⟨u, rfl, S, ho, hpl⟩, hb⟩
 obtain ⟨a', c', rfl⟩ := own_form ho.1
 have hl : S.length = n := by have := congrArg List.length hpl; simpa [plainOf] using this
 have hget : ∀ i (hi : i < S.length), S[i].t = tabOf T I R i := fun i hi => by
  have h1 : (S.map (·.t))[i]? = some S[i].t := by rw [List.getElem?_map, List.getElem?_eq_getElem hi]; rfl
  have h2 : (plainOf T I R n)[i]? = some (tabOf T I R i) := by simp [plainOf, show i < n by omega]
  rw [hpl, h2] at h1
  exact (Option.some.inj h1).symm
 have hst := Sto.of_own ho (fun W' a'' c'' e2 ho => ?_)
 ·rw [hpl] at hst
  exact ⟨⟨a', S.length, c', rfl, _, hst, fun b hb => hb.1⟩, hb⟩
 cases e2
 refine ⟨tabs_own ho rfl, ?_, ?_, ⟨by have := hin.fits.1; omega, ?_, ?_⟩, ?_⟩
 ·intro i hi
  have hs : S[i]? = some S[i] := List.getElem?_eq_getElem hi
  have := ids_own (ho.2.1 _ (List.getElem_mem hi)).1
  have ef : (idOf S i) = fun j => S[i].t.ids.getD j 0 := by funext j; simp [idOf, hs]
  rw [ef]
  simpa only [tvOf, hs] using this
 ·intro i hi
  have hs : S[i]? = some S[i] := List.getElem?_eq_getElem hi
  have := rows_own (ho.2.1 _ (List.getElem_mem hi)).2
  have ef : (rwOf S i) = fun j => S[i].t.rows.getD j zeroR := by funext j; simp [rwOf, hs]
  rw [ef]
  simpa only [tvOf, hs] using this
 ·intro e
  rcases ho.1.2 with ⟨_, h0⟩ | ⟨g, c'', cur, e', _⟩
  ·exact h0
  ·rw [e] at e'; cases e'
 ·intro i hi
  have hs : S[i]? = some S[i] := List.getElem?_eq_getElem hi
  have h1 := hin.fits.2.2 i (by omega)
  have e1 := (slice_own (ho.2.1 _ (List.getElem_mem hi)).1).2
  have e2 := (slice_own (ho.2.1 _ (List.getElem_mem hi)).2).2
  have ht := hget i hi
  simp only [tvOf, hs]
  have l1 : S[i].t.ids.length = (T i).il := by rw [ht]; simp [tabOf]
  have l2 : S[i].t.rows.length = (T i).rl := by rw [ht]; simp [tabOf]
  exact ⟨by omega, by omega, e1, e2⟩
 ·intro i hi j hj
  have hs : S[i]? = some S[i] := List.getElem?_eq_getElem hi
  simp only [tvOf, hs] at hj
  simp only [idOf, hs, Option.map_some, Option.getD_some]
  have l1 : S[i].t.ids.length = (T i).il := by rw [hget i hi]; simp [tabOf]
  have : S[i].t.ids.getD j 0 = I i j := by
   simp only [hget i hi, tabOf]
   simp [List.getD, show j < (T i).il by omega]
  rw [this]
  exact hin.wf i (by omega) j (by omega)
theorem row8c {W : World} {b : Nat} {r : R8} (h : W.rowIs b 34 8 (fun i => (St.rowCells r).getD i undef)) : W.cell? ⟨b, 0, none⟩ = some (.int .i64 r.x) ∧ W.cell? ⟨b, 1, none⟩ = some (.int .i64 r.y) ∧ W.cell? ⟨b, 2, none⟩ = some (.int .i64 r.px) ∧ W.cell? ⟨b, 3, none⟩ = some (.int .i64 r.py) ∧
  W.cell? ⟨b, 4, none⟩ = some (.int .i64 r.wd) ∧ W.cell? ⟨b, 5, none⟩ = some (.int .i64 r.ht) ∧ W.cell? ⟨b, 6, none⟩ = some (.int .i64 r.ms) ∧ W.cell? ⟨b, 7, none⟩ = some (.int .i64 r.rr) :=
 ⟨h.cell (i := 0) (by omega), h.cell (i := 1) (by omega), h.cell (i := 2) (by omega), h.cell (i := 3) (by omega), h.cell (i := 4) (by omega), h.cell (i := 5) (by omega), h.cell (i := 6) (by omega), h.cell (i := 7) (by omega)⟩
theorem has_any (n a : Int) (w : World) : Calls Tryz.prog 113 #[.int .i64 n, .int .i64 a] w fun e w' => e = .returned (.bool (hasB n a)) ∧ w' = w := by
 go_enter Tryz.func113, Tryz.ntmps113
 go_wp2
 go_ret
 exact ⟨ret_bool rfl, rfl⟩
theorem between_any (n a b : Int) (w : World) : Calls Tryz.prog 76 #[.int .i64 n, .int .i64 a, .int .i64 b] w fun e w' => e = .returned (.bool (btw n a b)) ∧ w' = w := by
 go_enter Tryz.func76, Tryz.ntmps76
 go_wp2
 ·go_ret
  exact ⟨ret_bool (by simp [btw]; omega), rfl⟩
 ·go_ret
  exact ⟨ret_bool (by simp [btw]; omega), rfl⟩
end Wd
namespace Wd
open Num St
open Go.ChangeShapes Go.WideShapes Go.ChangeAt Go.RowKit
def setRL (m id : Int) (r : R8) (L : List Tab) : List Tab := if goodRowB m r then setL id r L else L
set_option maxHeartbeats 1000000 in
set_option maxRecDepth 100000 in
theorem put_any {F : Nat → Prop} {v : Value} {L : List Tab} {w : World} (h : Sto w F v L) (next : Int) (hg : GoodL next L) (id m : Int) (q r : R8) (hat : At L id m q) :
  Calls Tryz.prog 115 #[.agg #[v, .int .i64 next], .int .i64 id, .agg #[.int .i64 r.x, .int .i64 r.y, .int .i64 r.px, .int .i64 r.py, .int .i64 r.wd, .int .i64 r.ht, .int .i64 r.ms, .int .i64 r.rr]] w fun e w' =>
   (∃ a n c, e = .returned (.agg #[.slice a n c, .int .i64 next]) ∧ ∃ F', Sto w' F' (.slice a n c) (putL m id r L) ∧ ∀ b, F' b → F b ∨ w.heap.size ≤ b) ∧ Below w.heap.size w w' := by
 have HG : Hid (∀ W, Below w.heap.size w W → Calls Tryz.prog 19 #[.agg #[v, .int .i64 next], .int .i64 id] W fun e w' => e = .returned (.tuple #[.int .i64 m, .agg #[.int .i64 q.x, .int .i64 q.y, .int .i64 q.px, .int .i64 q.py, .int .i64 q.wd, .int .i64 q.ht, .int .i64 q.ms, .int .i64 q.rr], .bool true]) ∧ Below W.heap.size W w') :=
  St.hid (fun W hb => (h.below hb).get_some hg next id m q hat)
 have HS : Hid (∀ W, Below w.heap.size w W → Calls Tryz.prog 67 #[.agg #[v, .int .i64 next], .int .i64 id, .agg #[.int .i64 r.x, .int .i64 r.y, .int .i64 r.px, .int .i64 r.py, .int .i64 r.wd, .int .i64 r.ht, .int .i64 r.ms, .int .i64 r.rr]] W fun e w' =>
   (∃ a n c ec, e = .returned (.tuple #[.agg #[.slice a n c, .int .i64 next], .int .i64 ec]) ∧ ∃ F', Sto w' F' (.slice a n c) (setRL m id r L) ∧ ∀ b, F' b → W.heap.size ≤ b) ∧ Below W.heap.size W w') :=
  St.hid (fun W hb => (h.below hb).set next hg id m q r hat)
 have HST := St.hid h
 obtain ⟨a, n, cap, rfl⟩ := h.one
 clear h hat hg
 go_enter Tryz.func115, Tryz.ntmps115
 go_wp2_with fail
 have hB0 := St.hid (Boxes.made w (.slice a n cap) next r)
 refine (HG.out _ (bal (bal (bal (Below.refl _ _) _) _) _)).mono ?_
 rintro e w1 ⟨rfl, hb1⟩
 have hB1 := St.hid (hB0.out.below hb1)
 have HB1 := St.hid (bcall (bal (bal (bal (Below.refl _ w) _) _) _) hb1)
 have hz1 := hb1.size
 simp at hz1
 clear hb1 hB0
 obtain ⟨x0, x1, x2, x3, x4, x5, x6⟩ := hB1.out.cells
 obtain ⟨r0, r1, r2, r3, r4, r5, r6, r7⟩ := hB1.out.row
 have hw0 : w.heap.size < w1.heap.size := by omega
 have hw1 : w.heap.size + 1 < w1.heap.size := by omega
 have hw2 : w.heap.size + 1 + 1 < w1.heap.size := by omega
 cases hh : hasB m 11
 ·go_wp2_with (go_at_call 113; refine (has_any _ _ _).mono ?_; rintro e w' ⟨rfl, rfl⟩)
  refine bodyPost_ret (v := .agg #[.slice a n cap, .int .i64 next]) (by simp [results, Tryz.results115, go_sem, x3, x4, hw2]) rfl ⟨⟨a, n, cap, rfl, F, ?_, fun b hb => Or.inl hb⟩, ?_⟩
  ·rw [show putL m id r L = L from by simp [putL, hh]]
   refine HST.out.below ?_
   refine bal ?_ _
   refine Below.setCell ?_ (by simp; omega) _
   refine Below.setCell ?_ (by simp; omega) _
   exact HB1.out
  ·refine bal ?_ _
   refine Below.setCell ?_ (by simp; omega) _
   refine Below.setCell ?_ (by simp; omega) _
   exact HB1.out
 ·go_wp2_with (go_at_call 113; refine (has_any _ _ _).mono ?_; rintro e w' ⟨rfl, rfl⟩)
  have hB2 := St.hid (hB1.out.below (bal (Below.refl _ _) (.cells #[.int .i64 q.x, .int .i64 q.y, .int .i64 q.px, .int .i64 q.py, .int .i64 q.wd, .int .i64 q.ht, .int .i64 q.ms, .int .i64 q.rr] 34)))
  refine (HS.out _ (bal HB1.out _)).mono ?_
  rintro e w2 ⟨⟨a2, n2, c2, ec, rfl, F2, hs2, hF2⟩, hb2⟩
  have hB3 := St.hid (hB2.out.below hb2)
  have HB3 := St.hid (bcall (bal HB1.out _) hb2)
  have HS2 := St.hid hs2
  have HF2 := St.hid hF2
  have hz2 := hb2.size
  simp at hz2
  clear hb2 hs2 hF2 x0 x1 x2 x3 x4 x5 x6 r0 r1 r2 r3 r4 r5 r6 r7 hB1 hB2
  obtain ⟨x0, x1, x2, x3, x4, x5, x6⟩ := hB3.out.cells
  have xf1 := hB3.out.s.frozen 1
  go_wp2_with fail
  refine bodyPost_ret (v := .agg #[.slice a2 n2 c2, .int .i64 next]) (by simp [results, Tryz.results115, go_sem, x3, x4]) rfl ⟨⟨a2, n2, c2, rfl, F2, ?_, fun b hb => Or.inr ?_⟩, ?_⟩
  ·rw [show putL m id r L = setRL m id r L from by simp [putL, setRL, hh]]
   have k : ∀ b, b < w1.heap.size + 1 → ¬ F2 b := fun b hb hF => by have := HF2.out b hF; simp at this; omega
   refine Sto.setCell ?_ (k _ (by omega)) _ _
   refine Sto.setCell ?_ (k _ (by omega)) _ _
   refine Sto.setCell ?_ (k _ (by omega)) _ _
   refine Sto.setCell ?_ (k _ (by omega)) _ _
   exact HS2.out
  ·have := HF2.out b hb
   simp at this
   omega
  ·refine Below.setCell ?_ (by simp; omega) _
   refine Below.setCell ?_ (by simp; omega) _
   refine Below.setCell ?_ (by simp) _
   refine Below.setCell ?_ (by simp) _
   exact HB3.out
set_option maxHeartbeats 1000000 in
set_option maxRecDepth 100000 in
theorem body_any {F : Nat → Prop} {v : Value} {L : List Tab} {w : World} (h : Sto w F v L) (next : Int) (hg : GoodL next L) (id m : Int) (q : R8) (hat : At L id m q) :
  Calls Tryz.prog 118 #[.agg #[v, .int .i64 next], .int .i64 id] w fun e w' => e = .returned (rowV (bodyR m q)) ∧ Below w.heap.size w w' := by
 have HG : Hid (∀ W, Below w.heap.size w W → Calls Tryz.prog 19 #[.agg #[v, .int .i64 next], .int .i64 id] W fun e w' => e = .returned (.tuple #[.int .i64 m, .agg #[.int .i64 q.x, .int .i64 q.y, .int .i64 q.px, .int .i64 q.py, .int .i64 q.wd, .int .i64 q.ht, .int .i64 q.ms, .int .i64 q.rr], .bool true]) ∧ Below W.heap.size W w') :=
  St.hid (fun W hb => (h.below hb).get_some hg next id m q hat)
 obtain ⟨a, n, cap, rfl⟩ := h.one
 clear h hat hg
 go_enter Tryz.func118, Tryz.ntmps118
 go_wp2_with fail
 have hR0 := St.hid (St.rowIs8 (w.alloc (.cells #[.slice a n cap, .int .i64 next] 43)) zeroR 34)
 rw [World.size_alloc] at hR0
 refine (HG.out _ (bal (bal (Below.refl _ _) _) _)).mono ?_
 rintro e w1 ⟨rfl, hb1⟩
 have hR1 := St.hid (rowIs_below hR0.out hb1)
 have HB1 := St.hid (bcall (bal (bal (Below.refl _ w) _) _) hb1)
 have hz1 := hb1.size
 simp at hz1
 clear hb1 hR0
 obtain ⟨r0, r1, r2, r3, r4, r5, r6, r7⟩ := row8c hR1.out
 have f0 := hR1.out.frozen 0
 have f1 := hR1.out.frozen 1
 have f2 := hR1.out.frozen 2
 have f3 := hR1.out.frozen 3
 have f4 := hR1.out.frozen 4
 have f5 := hR1.out.frozen 5
 have f6 := hR1.out.frozen 6
 have f7 := hR1.out.frozen 7
 simp only [zeroR] at r0 r1 r2 r3 r4 r5 r6 r7
 have hw1 : w.heap.size + 1 < w1.heap.size := by omega
 cases hh : hasB m 11
 ·go_wp2_with (go_at_call 113; refine (has_any _ _ _).mono ?_; rintro e w' ⟨rfl, rfl⟩)
  refine bodyPost_ret (by simp [results, Tryz.results118, go_sem, r0, r1, r2, r3, r4, r5, r6, r7, hw1]; rfl) rfl ⟨by simp [bodyR, hh, rowV], ?_⟩
  refine bal ?_ _
  iterate 8 refine Below.setCell ?_ (by simp) _
  exact HB1.out
 ·go_wp2_with (go_at_call 113; refine (has_any _ _ _).mono ?_; rintro e w' ⟨rfl, rfl⟩)
  refine bodyPost_ret (by simp [results, Tryz.results118, go_sem, r0, r1, r2, r3, r4, r5, r6, r7, hw1]; rfl) rfl ⟨by simp [bodyR, hh, rowV], ?_⟩
  refine bal ?_ _
  iterate 8 refine Below.setCell ?_ (by simp) _
  exact HB1.out
end Wd
namespace Wd
open Num St
open Go.ChangeShapes Go.WideShapes Go.ChangeAt Go.RowKit
def wcell (v : Value) (next fall wide high : Int) (i : Nat) : Value := if i = 0 then v else if i = 1 then .int .i64 next else if i = 2 then .int .i64 fall else if i = 3 then .int .i64 wide else .int .i64 high
theorem rowIs5 (w : World) (v : Value) (next fall wide high : Int) (t : TypeId) : (w.alloc (.cells #[v, .int .i64 next, .int .i64 fall, .int .i64 wide, .int .i64 high] t)).rowIs w.heap.size t 5 (wcell v next fall wide high) :=
 ⟨_, (MapKept.heap_alloc w _).1, rfl, fun i hi => by
  match i, hi with
  | 0, _ => rfl
  | 1, _ => rfl
  | 2, _ => rfl
  | 3, _ => rfl
  | 4, _ => rfl⟩
theorem wcells {W : World} {b : Nat} {v : Value} {next fall wide high : Int} (h : W.rowIs b 45 5 (wcell v next fall wide high)) : W.cell? ⟨b, 0, none⟩ = some v ∧ W.cell? ⟨b, 1, none⟩ = some (.int .i64 next) ∧ W.cell? ⟨b, 2, none⟩ = some (.int .i64 fall) ∧ W.cell? ⟨b, 3, none⟩ = some (.int .i64 wide) ∧ W.cell? ⟨b, 4, none⟩ = some (.int .i64 high) ∧
  W.frozen? ⟨b, 0, none⟩ = false ∧ W.frozen? ⟨b, 1, none⟩ = false ∧ W.frozen? ⟨b, 2, none⟩ = false ∧ W.frozen? ⟨b, 3, none⟩ = false ∧ W.frozen? ⟨b, 4, none⟩ = false :=
 ⟨h.cell (i := 0) (by omega), h.cell (i := 1) (by omega), h.cell (i := 2) (by omega), h.cell (i := 3) (by omega), h.cell (i := 4) (by omega), h.frozen 0, h.frozen 1, h.frozen 2, h.frozen 3, h.frozen 4⟩
theorem setR8 {W : World} {b : Nat} {r : R8} (h : W.rowIs b 34 8 (fun i => (St.rowCells r).getD i undef)) (r' : R8) (k : Nat) (u : Value) (e : ∀ i, i < 8 → (if i = k then u else (St.rowCells r).getD i undef) = (St.rowCells r').getD i undef) : (W.setCell ⟨b, k, none⟩ u).rowIs b 34 8 (fun i => (St.rowCells r').getD i undef) :=
 (h.set k u).congr e
theorem take_fold {α β : Type} (f : α → β → α) (l : List β) (a : α) (k : Nat) (x : β) (h : l[k]? = some x) : (l.take (k + 1)).foldl f a = f ((l.take k).foldl f a) x := by
 have hlt := (List.getElem?_eq_some_iff.1 h).1
 rw [List.take_succ_eq_append_getElem hlt, (List.getElem?_eq_some_iff.1 h).2, List.foldl_append]
 rfl
theorem at_ids {L : List Tab} (he : Even L) (hn : (allL L).Nodup) {m id : Int} (g : Int → R8) (h : id ∈ idsOf m L) : At (withRows L g) id (mk L id) (g id) ∧ (∃ q, At L id (mk L id) q) ∧ hasB (mk L id) m = true := by
 obtain ⟨q, r, hat, hb⟩ := (mem_ids he).1 h
 rw [(at_mk hn hat).1]
 exact ⟨(at_with he g).2 ⟨⟨r, hat⟩, rfl⟩, ⟨r, hat⟩, hb⟩
theorem row_bounds {m : Int} {r : R8} (h : goodRowB m r = true) : (-1048576 ≤ r.x ∧ r.x ≤ 1048576) ∧ (-1048576 ≤ r.y ∧ r.y ≤ 1048576) ∧ (-16777216 ≤ r.px ∧ r.px ≤ 16777216) ∧ (-16777216 ≤ r.py ∧ r.py ≤ 16777216) ∧ (0 ≤ r.wd ∧ r.wd ≤ 4096) ∧ (0 ≤ r.ht ∧ r.ht ≤ 4096) ∧ (0 ≤ r.ms ∧ r.ms ≤ 9) ∧ (0 ≤ r.rr ∧ r.rr ≤ 256) := by
 simp only [goodRowB, Bool.and_eq_true] at h
 obtain ⟨hm, he, hp⟩ := h
 have h4 : hasB m 4 = false → r.wd = 0 ∧ r.ht = 0 := fun hb => by
  simp [eqR, onlyR, layR, zeroR, hb] at he
  exact ⟨he.1.1.1.2, he.1.1.2⟩
 have h8 : hasB m 8 = false → r.ms = 0 ∧ r.rr = 0 := fun hb => by
  simp [eqR, onlyR, layR, zeroR, hb] at he
  exact ⟨he.1.2, he.2⟩
 cases b4 : hasB m 4 <;> cases b8 : hasB m 8 <;> simp [goodPartsB, b4, b8, btw] at hp
 ·have := h4 b4; have := h8 b8; omega
 ·have := h4 b4; omega
 ·have := h8 b8; omega
 ·omega
theorem grown_refl (W : World) (o : Option Nat) : W.grownBy W o := ⟨rfl, rfl, rfl, Nat.le_refl _, fun _ _ _ => rfl⟩
theorem speed_row (r : R8) (w : World) : Calls Tryz.prog 114 #[.agg #[.int .i64 r.x, .int .i64 r.y, .int .i64 r.px, .int .i64 r.py, .int .i64 r.wd, .int .i64 r.ht, .int .i64 r.ms, .int .i64 r.rr]] w fun e w' => e = .returned (.tuple #[.int .i64 (spd r.px r.ms), .int .i64 (spd r.py r.ms)]) ∧ Below w.heap.size w w' := Speed_any r w
theorem grown_keep {W W' : World} {F : Nat → Prop} {v : Value} {L : List Tab} {g : Nat} (h : Sto W F v L) (hg : W.grownBy W' (some g)) (hF : ¬ F g) : Sto W' F v L :=
 h.keep hg.size (fun b hb => hg.block b (h.lt hb) (fun e => hF (by cases e; exact hb)))
theorem below_grown {B : Nat} {w W W' : World} {g : Nat} (h : Below B w W) (hg : W.grownBy W' (some g)) (hB : B ≤ W.heap.size) (hle : B ≤ g) : Below B w W' := h.grown hg hB (fun x e => by cases e; exact hle)
end Wd
namespace Wd
open Num St
theorem putG_other {M : Int → Int} {g : Int → R8} {id v : Int} {r : R8} (h : v ≠ id ∨ hasB (M v) 11 = false) : putG M g id r v = g v := by
 unfold putG
 split
 ·rename_i hb
  simp only [Bool.and_eq_true] at hb
  unfold upd
  split
  ·rename_i e
   subst e
   rcases h with h | h
   ·exact absurd rfl h
   ·rw [h] at hb; exact absurd hb.1 (by simp)
  ·rfl
 ·rfl
theorem putG_at {M : Int → Int} {g : Int → R8} {id : Int} {r : R8} : putG M g id r id = if hasB (M id) 11 && goodRowB (M id) r then r else g id := by
 unfold putG
 split
 ·simp [upd]
 ·rfl
def Keep (M : Int → Int) (g g' : Int → R8) : Prop := ∀ v, (hasB (M v) 11 = false → g' v = g v) ∧ (g' v).wd = (g v).wd ∧ (g' v).ht = (g v).ht ∧ (g' v).ms = (g v).ms ∧ (g' v).rr = (g v).rr
theorem Keep.refl (M : Int → Int) (g : Int → R8) : Keep M g g := fun _ => ⟨fun _ => rfl, rfl, rfl, rfl, rfl⟩
theorem Keep.trans {M : Int → Int} {g g' g'' : Int → R8} (h : Keep M g g') (h' : Keep M g' g'') : Keep M g g'' := fun v =>
 ⟨fun hm => ((h' v).1 hm).trans ((h v).1 hm), (h' v).2.1.trans (h v).2.1, (h' v).2.2.1.trans (h v).2.2.1, (h' v).2.2.2.1.trans (h v).2.2.2.1, (h' v).2.2.2.2.trans (h v).2.2.2.2⟩
theorem Keep.put {M : Int → Int} {g g1 : Int → R8} (h : Keep M g g1) (id : Int) (r : R8) (hr : hasB (M id) 11 = true → r.wd = (g id).wd ∧ r.ht = (g id).ht ∧ r.ms = (g id).ms ∧ r.rr = (g id).rr) : Keep M g (putG M g1 id r) := by
 intro v
 by_cases hv : v = id
 ·subst hv
  rw [putG_at]
  split
  ·rename_i hb
   simp only [Bool.and_eq_true] at hb
   obtain ⟨h1, h2, h3, h4⟩ := hr hb.1
   exact ⟨fun hm => (by rw [hb.1] at hm; exact absurd hm (by simp)), h1, h2, h3, h4⟩
  ·exact h v
 ·rw [putG_other (Or.inl hv)]
  exact h v
theorem Keep.go {M : Int → Int} {g g1 : Int → R8} (fall : Int) (l : List Int) (h : Keep M g g1) : Keep M g (goOnG M fall l g1) := by
 unfold goOnG
 induction l generalizing g1 with
 | nil => exact h
 | cons x l ih =>
  refine ih ?_
  refine h.put x _ (fun _ => ?_)
  have := h x
  simp only [goRow, fallR]
  split <;> exact this.2
theorem Keep.meet1 {M : Int → Int} {g : Int → R8} {s : (Int → R8) × List (Int × Int)} (p : Int × Int) (h : Keep M g s.1) : Keep M g (meet1 M s p).1 := by
 unfold Wd.meet1
 split
 ·have hk := met_kept (bodyR (M p.1) (s.1 p.1)) (bodyR (M p.2) (s.1 p.2))
  refine (h.put p.1 _ (fun hb => ?_)).put p.2 _ (fun hb => ?_)
  ·rw [hk.1, hk.2.1, hk.2.2.1, hk.2.2.2.1]
   simp only [bodyR, hb]
   exact (h p.1).2
  ·rw [hk.2.2.2.2.1, hk.2.2.2.2.2.1, hk.2.2.2.2.2.2.1, hk.2.2.2.2.2.2.2]
   simp only [bodyR, hb]
   exact (h p.2).2
 ·exact h
theorem Keep.meet {M : Int → Int} {g g1 : Int → R8} (l : List (Int × Int)) (h : Keep M g g1) : Keep M g (meetG M l g1).1 := by
 unfold meetG
 have key : ∀ (l : List (Int × Int)) (s : (Int → R8) × List (Int × Int)), Keep M g s.1 → Keep M g (l.foldl (Wd.meet1 M) s).1 := by
  intro l
  induction l with
  | nil => intro s hs; exact hs
  | cons p l ih => intro s hs; exact ih _ (hs.meet1 p)
 exact key l (g1, []) h
theorem Keep.wall {M : Int → Int} {g g1 : Int → R8} (wide high : Int) (l : List Int) (h : Keep M g g1) : Keep M g (wallG M wide high l g1) := by
 unfold wallG
 induction l generalizing g1 with
 | nil => exact h
 | cons x l ih => exact ih (h.put x _ (fun _ => (h x).2))
theorem step_ok {next : Int} {L : List Tab} (hg : GoodL next L) (fall wide high : Int) : RowsOk L (stepG L fall wide high).1 :=
 RowsOk.wall hg.2.2.2.2.2 (RowsOk.meet hg.2.2.2.2.2 (RowsOk.go hg.2.2.2.2.2 (rows_ok hg) _ _) _) _ _ _
theorem step_good {next : Int} {L : List Tab} (hg : GoodL next L) (fall wide high : Int) : GoodL next (withRows L (stepG L fall wide high).1) := good_with hg (step_ok hg fall wide high)
theorem met_len (M : Int → Int) (l : List (Int × Int)) (g : Int → R8) : (meetG M l g).2.length ≤ l.length := by
 unfold meetG
 have key : ∀ (l : List (Int × Int)) (s : (Int → R8) × List (Int × Int)), (l.foldl (Wd.meet1 M) s).2.length ≤ s.2.length + l.length := by
  intro l
  induction l with
  | nil => intro s; simp
  | cons q l ih =>
   intro s
   refine Nat.le_trans (ih _) ?_
   unfold Wd.meet1
   split <;> simp <;> omega
 simpa using key l (g, [])
theorem ids_nodup {next : Int} {L : List Tab} (hg : GoodL next L) (m : Int) : (idsOf m L).Nodup := by
 unfold idsOf
 exact (List.mergeSort_perm _ _).nodup_iff.2 ((gath_sub m L).nodup hg.2.2.2.2.2)
theorem ids_sorted (m : Int) (L : List Tab) : (idsOf m L).Pairwise (fun x y => x ≤ y) := by
 have := List.pairwise_mergeSort (le := fun x y : Int => decide (x ≤ y)) (fun a b c h1 h2 => by simp at *; omega) (fun a b => by simp; omega) (gathR m L)
 exact this.imp (by simp)
theorem has_parts {m : Int} (hm : 1 ≤ m ∧ m ≤ 31) (h : hasB m 11 = true) : hasB m 1 = true ∧ hasB m 2 = true ∧ hasB m 8 = true := by
 have key : ∀ k : Fin 32, hasB (k.val : Int) 11 = true → hasB (k.val : Int) 1 = true ∧ hasB (k.val : Int) 2 = true ∧ hasB (k.val : Int) 8 = true := by decide
 have e : m = ((⟨m.toNat, by omega⟩ : Fin 32).val : Int) := by simp; omega
 rw [e] at h ⊢
 exact key _ h
theorem good_change {m : Int} {r r' : R8} (h : goodRowB m r = true) (hm : hasB m 11 = true) (h1 : r'.wd = r.wd) (h2 : r'.ht = r.ht) (h3 : r'.ms = r.ms) (h4 : r'.rr = r.rr)
  (hx : -1048576 ≤ r'.x ∧ r'.x ≤ 1048576) (hy : -1048576 ≤ r'.y ∧ r'.y ≤ 1048576) (hpx : -16777216 ≤ r'.px ∧ r'.px ≤ 16777216) (hpy : -16777216 ≤ r'.py ∧ r'.py ≤ 16777216) : goodRowB m r' = true := by
 have hmm := goodRow_mask h
 obtain ⟨b1, b2, b8⟩ := has_parts hmm hm
 simp only [goodRowB, Bool.and_eq_true] at h ⊢
 obtain ⟨g1, g2, g3⟩ := h
 refine ⟨g1, ?_, ?_⟩
 ·simp [eqR, onlyR, layR, zeroR, b1, b2, b8, h1, h2] at g2 ⊢
  exact g2
 ·simp only [goodPartsB, h1, h2, h3, h4] at g3 ⊢
  split at g3
  ·exact absurd g3 (by simp)
  ·rename_i c1
   rw [if_neg c1]
   split at g3
   ·exact absurd g3 (by simp)
   ·rename_i c2
    rw [if_neg c2]
    simp only [btw, Bool.and_eq_true, decide_eq_true_eq] at g3 ⊢
    exact ⟨⟨⟨⟨hx, hy⟩, hpx⟩, hpy⟩, g3.2⟩
theorem qs_mem {l : List Sw.B5} {p : Int × Int} (h : p ∈ Sw.qs l) : ∃ a b, a ∈ l ∧ b ∈ l ∧ p.1 = a.id ∧ p.2 = b.id := by
 induction l with
 | nil => simp [Sw.qs] at h
 | cons x l ih =>
  rw [Sw.qs] at h
  rcases List.mem_append.1 h with h | h
  ·unfold Sw.q1 at h
   obtain ⟨o, ho, rfl⟩ := List.mem_map.1 h
   have ho' := (List.mem_filter.1 ho).1
   unfold Sw.pr
   by_cases hle : x.id ≤ o.id
   ·exact ⟨x, o, List.mem_cons_self .., List.mem_cons_of_mem _ ho', by simp [hle], by simp [hle]⟩
   ·exact ⟨o, x, List.mem_cons_of_mem _ ho', List.mem_cons_self .., by simp [hle], by simp [hle]⟩
  ·obtain ⟨a, b, ha, hb, h1, h2⟩ := ih h
   exact ⟨a, b, List.mem_cons_of_mem _ ha, List.mem_cons_of_mem _ hb, h1, h2⟩
theorem pair_mem {l : List Sw.B5} {p : Int × Int} (h : p ∈ Sw.pairsG l) : ∃ a b, a ∈ l ∧ b ∈ l ∧ p.1 = a.id ∧ p.2 = b.id := by
 unfold Sw.pairsG at h
 split at h
 ·exact qs_mem ((Sw.pairsOf_qs l).mem_iff.1 ((Sw.sortP_perm _).mem_iff.1 h))
 ·cases h
theorem pairs_len (l : List Sw.B5) (h : l.length ≤ 10) : (Sw.pairsG l).length ≤ 100 := by
 unfold Sw.pairsG
 split
 ·rw [Sw.sortP_len]
  have h1 := Sw.pairsOf_len l
  have h2 : l.length * l.length ≤ 10 * 10 := Nat.mul_le_mul h h
  omega
 ·simp
theorem box_mem {L : List Tab} {g : Int → R8} {b : Sw.B5} (h : b ∈ boxG L g) : b.id ∈ idsOf 5 L := by
 obtain ⟨x, hx, rfl⟩ := List.mem_map.1 h
 exact hx
end Wd
namespace Rg
def up (L : Nat → Bool) (i j : Nat) : Bool := if j = i then true else L j
theorem up_ne {L : Nat → Bool} {i j : Nat} (h : up L i j = true) (hne : j ≠ i) : L j = true := by
 unfold up at h
 rwa [if_neg hne] at h
theorem up_of {L : Nat → Bool} {i j : Nat} (h : L j = true) : up L i j = true := by
 unfold up
 split
 ·rfl
 ·exact h
theorem late {L : Nat → Bool} {n i : Nat} (h : L n = true → ∀ j, j < n → L j = true) (hi : i < n) (hl : L i = false) : L n = false := by
 cases hn : L n with
 | false => rfl
 | true => rw [h hn i hi] at hl; cases hl
def deps (md : Region.Mode) (L : Nat → Bool) (o : Oper) : Bool := o.after.toList.all fun e => !Region.binds md e || L e.on
def steps (P : Program) (md : Region.Mode) (ops : Array Oper) (Q : Exit → Act → World → Prop) (I : (Nat → Bool) → Act → World → Prop) (L : Nat → Bool) (a : Act) (w : World) : Nat → List Oper → Prop
 | _, [] => True
 | k, o :: l => (L k = false → deps md L o = true → ∀ K' : Act → World → Prop, Shut (∀ a' w', I (up L k) a' w' → K' a' w') →
   if Region.wanted o (yielded ops a.tmps) = true then Oper.wp P o a w K' Q else K' (a.put o.dst undef) w) ∧ steps P md ops Q I L a w (k + 1) l
theorem steps_at {P : Program} {md : Region.Mode} {ops : Array Oper} {Q : Exit → Act → World → Prop} {I : (Nat → Bool) → Act → World → Prop} {L : Nat → Bool} {a : Act} {w : World} :
  ∀ (l : List Oper) (k i : Nat) (o : Oper), steps P md ops Q I L a w k l → l[i]? = some o → L (k + i) = false → deps md L o = true → ∀ K' : Act → World → Prop, Shut (∀ a' w', I (up L (k + i)) a' w' → K' a' w') →
   if Region.wanted o (yielded ops a.tmps) = true then Oper.wp P o a w K' Q else K' (a.put o.dst undef) w := by
 intro l
 induction l with
 | nil => intro k i o _ hi; simp at hi
 | cons x l ih =>
  intro k i o h hi
  cases i with
  | zero => simp at hi; subst hi; exact h.1
  | succ i =>
   have := ih (k + 1) i o h.2 (by simpa using hi)
   rw [show k + (i + 1) = k + 1 + i by omega]
   exact this
def ordered (md : Region.Mode) : Nat → List Oper → Bool
 | _, [] => true
 | k, o :: l => (o.after.toList.all fun e => !Region.binds md e || decide (e.on < k)) && ordered md (k + 1) l
theorem ordered_at {md : Region.Mode} : ∀ (l : List Oper) (k i : Nat) (o : Oper), ordered md k l = true → l[i]? = some o → ∀ e ∈ o.after, Region.binds md e = true → e.on < k + i := by
 intro l
 induction l with
 | nil => intro k i o _ hi; simp at hi
 | cons x l ih =>
  intro k i o h hi
  simp only [ordered, Bool.and_eq_true] at h
  cases i with
  | zero =>
   simp at hi; subst hi
   intro e he hb
   have := List.all_eq_true.1 h.1 e (by simpa using he)
   simpa [hb] using this
  | succ i =>
   intro e he hb
   have := ih (k + 1) i o h.2 (by simpa using hi) e he hb
   omega
def unl (l : List Bool) : Nat := l.countP (· == false)
theorem unl_set {l : List Bool} {i : Nat} (h : l[i]? = some false) : unl (l.set i true) + 1 = unl l := by
 induction l generalizing i with
 | nil => simp at h
 | cons x l ih =>
  cases i with
  | zero => simp at h; subst h; simp [unl]
  | succ i =>
   have := ih (by simpa using h)
   simp only [unl, List.set_cons_succ, List.countP_cons] at this ⊢
   omega
theorem unl_zero {l : List Bool} (h : unl l = 0) {i : Nat} (hi : i < l.length) : l[i]? = some true := by
 unfold unl at h
 rw [List.countP_eq_zero] at h
 have := h l[i] (List.getElem_mem hi)
 rw [List.getElem?_eq_getElem hi]
 cases hx : l[i]
 ·rw [hx] at this; simp at this
 ·rfl
section
variable {P : Program} {ops : Array Oper} {Q : Exit → Act → World → Prop} {md : Region.Mode}
theorem wpAny_inv (I : (Nat → Bool) → Act → World → Prop) (hord : ordered md 0 ops.toList = true) (hstep : ∀ L a w, I L a w → steps P md ops Q I L a w 0 ops.toList)
  (hend : ∀ L a w, I L a w → (∀ i, i < ops.size → L i = true) → Q .normal a w) :
  ∀ (fuel : Nat) (listed : Array Bool) (a : Act) (w : World), listed.size = ops.size → unl listed.toList ≤ fuel → I (fun j => listed.getD j false) a w → wpAny P md ops Q fuel listed a w := by
 have full : ∀ (listed : Array Bool), listed.size = ops.size → Region.ready md ops listed = [] → ∀ i, i < ops.size → listed.getD i false = true := by
  intro listed hs hr i
  induction i using Nat.strongRecOn with
  | ind i ih =>
   intro hi
   cases hc : listed.getD i false with
   | true => rfl
   | false =>
    exfalso
    have ho : ops[i]? = some ops[i] := Array.getElem?_eq_getElem hi
    have : i ∈ Region.ready md ops listed := by
     rw [mem_ready]
     refine ⟨?_, ops[i], ho, fun e he hb => ?_⟩
     ·have hi' : i < listed.size := by omega
      simp [Array.getD, hi'] at hc ⊢
      exact hc
     ·have h1 := ordered_at ops.toList 0 i ops[i] hord (by simp) e he hb
      exact ih e.on (by omega) (by omega)
    rw [hr] at this
    cases this
 intro fuel
 induction fuel with
 | zero =>
  intro listed a w hs hu hI
  have hall : ∀ i, i < ops.size → listed.getD i false = true := fun i hi => by
   have hi' : i < listed.size := by omega
   have := unl_zero (Nat.le_zero.1 hu) (i := i) (by simpa using hi')
   simp [hi'] at this
   simp [Array.getD, hi', this]
  refine ⟨?_, hend _ a w hI hall⟩
  cases hr : Region.ready md ops listed with
  | nil => rfl
  | cons j l =>
   have hj : j ∈ Region.ready md ops listed := by rw [hr]; exact List.mem_cons_self ..
   obtain ⟨h0, o, ho, _⟩ := mem_ready.1 hj
   have hlt := (Array.getElem?_eq_some_iff.1 ho).1
   have h1 := hall j hlt
   have hj' : j < listed.size := by omega
   simp [Array.getD, hj'] at h0 h1
   rw [h0] at h1
   cases h1
 | succ fuel ih =>
  intro listed a w hs hu hI
  refine ⟨fun hr => hend _ a w hI (full listed hs hr), fun i hi => ?_⟩
  obtain ⟨h0, o, ho, hd⟩ := mem_ready.1 hi
  have hlt := (Array.getElem?_eq_some_iff.1 ho).1
  have hi' : i < listed.size := by omega
  have hf : listed.getD i false = false := by
   simp [Array.getD, hi'] at h0 ⊢
   exact h0
  have hdeps : deps md (fun j => listed.getD j false) o = true := by
   unfold deps
   rw [List.all_eq_true]
   intro e he
   cases hb : Region.binds md e with
   | false => rfl
   | true => simpa [hb] using hd e (by simpa using he) hb
  have hst := steps_at ops.toList 0 i o (hstep _ a w hI) (by simpa using ho) (by rw [Nat.zero_add]; exact hf) hdeps
  refine wpOp_step ho (fun K' hK => hst K' (fun a' w' hI' => hK a' w' (ih _ a' w' (by simpa using hs) ?_ ?_)))
  ·have hl : listed.toList[i]? = some false := by
    have e : listed[i] = false := by simpa [Array.getD, hi'] using hf
    simp [hi', e]
   have := unl_set hl
   rw [Array.toList_setIfInBounds]
   omega
  ·have e : (fun j => (listed.setIfInBounds i true).getD j false) = up (fun j => listed.getD j false) (0 + i) := by
    funext j
    unfold up
    rw [Nat.zero_add]
    by_cases hj : j = i
    ·subst hj; simp [Array.getD, hi']
    ·rw [if_neg hj]
     simp only [Array.getD_eq_getD_getElem?]
     rw [Array.getElem?_setIfInBounds_ne (Ne.symm hj)]
   rw [e]
   exact hI'
theorem wp_region_inv {id : Nat} {a : Act} {w : World} (hm : P.follows .mixedOrders = true) (I : (Nat → Bool) → Act → World → Prop) (hord : ordered .any 0 ops.toList = true) (h0 : I (fun _ => false) a w.drew)
  (hstep : ∀ L a w, I L a w → steps P .any ops Q I L a w 0 ops.toList) (hend : ∀ L a w, I L a w → (∀ i, i < ops.size → L i = true) → Q .normal a w) : (Code.region id ops true).wp P Q a w := by
 refine wp_region_any hm (wpAny_inv I hord hstep hend _ _ _ _ (by simp) ?_ ?_)
 ·unfold unl
  exact Nat.le_trans List.countP_le_length (by simp)
 ·have e : (fun j => (Array.replicate ops.size false).getD j false) = fun _ => false := by
   funext j
   simp only [Array.getD_eq_getD_getElem?, Array.getElem?_replicate]
   split <;> rfl
  rw [e]
  exact h0
end
end Rg
end Go.Proofs.YtckkkdldljhehacGreat
