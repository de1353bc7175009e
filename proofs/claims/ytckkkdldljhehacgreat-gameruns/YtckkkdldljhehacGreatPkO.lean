/- Part of the proofs of GamePlays and GameRuns (package ninepinslaw): contracts of the functions that they call. -/
import Derived.Test.YtckkkdldljhehacGreatPkC
import Derived.Test.YtckkkdldljhehacGreatPkM
import Derived.Test.YtckkkdldljhehacGreatPkN
namespace Go.Proofs.YtckkkdldljhehacGreat
namespace Th
open Num St Mp
open Go.ChangeShapes Go.WideShapes Go.ChangeAt Go.RowKit Go.Sort Go.Shelf Go.Lib
theorem grown_none {w w' : World} {r : Nat} (h : w.grownBy w' none) : w.grownBy w' (some r) := ⟨h.os, h.tape, h.output, h.size, fun i hi _ => h.block i hi (by simp)⟩
theorem doneM_len {l todo : Mth} : (doneM l todo).length ≤ l.length := List.length_filter_le _ _
theorem below_n {w0 w w' : World} (h : Below w0.heap.size w0 w) (hg : w.grownBy w' none) : Below w0.heap.size w0 w' := h.grown hg h.size (fun q hq => by cases hq)
theorem Rng.own {w w' : World} {b r : Nat} {l todo : Mth} {cnt g : Nat} (h : Rng w b r l todo cnt) (hg : w.grownBy w' (some g)) (h1 : g ≠ b) (h2 : g ≠ r) : Rng w' b r l todo cnt :=
 h.kept hg (fun e => h1 (Option.some.inj e).symm) (fun e => h2 (Option.some.inj e).symm)
set_option maxHeartbeats 8000000 in
set_option maxRecDepth 100000 in
theorem sorted_any (b : Nat) (l : Mth) (w : World) (h : Mp w b l) (hl : l.length ≤ 1000000) :
  Calls Tryz.prog 78 #[.map (some b)] w fun e w' => (∃ u, e = .returned u ∧ w'.ownsRow w.heap.size 3 1 u l.length ((l.map (·.1)).map (Value.int .i64))) ∧ Below w.heap.size w w' := by
 obtain ⟨i0, hi, hz0, hz1, hz2⟩ := info_parts Sw.info3
 have hbz := h.lt
 have HU := hidT h.up
 have HL := hidT hl
 go_enter Tryz.func78, Tryz.ntmps78
 go_wp2_with (first | (at_range; refine wp_range _ rfl _ rfl b l rfl h ?_; intro w1 hr1 hg1 hs1) | fail)
 go_frame
 have HR1 := hidT hr1
 have HB1 : Hid (Below w.heap.size w w1) := hidT (below_n (Below.refl _ _) hg1)
 clear hr1 hg1 h hl
 go_loopw [3] (fun v wr => ∃ todo cnt, Hid (Rng wr b w.heap.size l todo cnt) ∧ Hid (wr.ownsRow (w.heap.size + 1) 3 1 v ((doneM l todo).map (·.1)).length (((doneM l todo).map (·.1)).map (Value.int .i64))) ∧ Hid (Below w.heap.size w wr) ∧ w.heap.size < wr.heap.size) (fun _ wr => wr.rangeLeft b w.heap.size)
 case atStart => exact ⟨l, _, HR1, hidT (by rw [doneM_all HU.out]; exact World.ownsRow_nil _ _ _ _), HB1, by omega⟩
 case round =>
  obtain ⟨todo, cnt, HR, hown, hbl, hzr⟩ := hrel
  go_wp2_with (first | (at_next; refine wp_next _ rfl _ rfl b w.heap.size l todo cnt rfl HR.out ?_ ?_) | fail)
  ·intro h0
   subst h0
   go_wp2_with fail
   go_ret
   refine ⟨⟨_, rfl, ?_⟩, hbl.out⟩
   have h1 := hown.out
   rw [doneM_nil, List.length_map] at h1
   exact Joins.ownsRow_le h1 (Nat.le_succ _)
  ·intro k t w2 cnt2 hk hr2 hlt hg2 hs2 hen
   have HK := hidT hk
   obtain ⟨out, HOUT⟩ : ∃ o, Hid (o = (doneM l todo).map (·.1)) := ⟨_, rfl⟩
   rw [← HOUT.out] at hown
   obtain ⟨m, HM⟩ : ∃ m, Hid (m = out.length) := ⟨_, rfl⟩
   rw [← HM.out] at hown
   have hml : m ≤ 1000000 := by
    have h1 := HM.out
    rw [HOUT.out, List.length_map] at h1
    have := doneM_len (l := l) (todo := todo)
    have := HL.out
    omega
   have HOW2 := hidT (owns_kept hown.out hg2 (fun z hz e => by have := (hown.out.lt z hz).1; have := Option.some.inj e; omega))
   have HBL2 : Hid (Below w.heap.size w w2) := hidT (hbl.out.grown hg2 hbl.out.size (fun q hq => by cases hq; exact Nat.le_refl _))
   have HR2 := hidT hr2
   have HLT := hidT hlt
   have hz2w : w.heap.size < w2.heap.size := by omega
   obtain ⟨av, cv, rfl, -⟩ := Sw.owns_slice HOW2.out
   have HO4 := hidT (owns_below HOW2.out (bal (Below.refl _ w2) (.cells #[.int .i64 k] 3)))
   have HCN := hidT HR.out.left_eq
   have HSUB := hidT HR.out.sub
   clear hk hr2 hlt hg2 hs2 hown hbl HR
   go_wp2_with (at_builtin; refine wpList_append_own_at _ rfl _ _ 28 rfl (w.heap.size + 1) 3 i0 (.int .i64 0) 1 8 Tryz.underlying28 hi hz0 hz1 hz2 rfl (by decide) _ _ _ rfl HO4.out ⟨w2.heap.size, 0, none⟩ 1 1 [.int .i64 k] rfl ?c1 ?c2 ?c3 ?c4 ?c5 ?c6 ?_)
   case c1 => rfl
   case c2 =>
    intro j u hj
    match j, hj with
    | 0, hj => cases hj; simp [Addr.add]
   case c3 => intro u hu; simp at hu; subst hu; rfl
   case c4 => unfold maxLen; omega
   case c5 => omega
   case c6 => simp; omega
   intro v' w7 hown7 hg7 _ hat7
   obtain ⟨g, c', rfl⟩ := Sw.own_some2 hown7 (by omega)
   have hgl := hown7.lt g rfl
   have hvb : ∀ z, (Value.slice av m cv).ownBlock = some z → w.heap.size + 1 ≤ z ∧ z < w2.heap.size := fun z hz => HOW2.out.lt z hz
   have hgb : g ≠ b := by omega
   have hgr : g ≠ w.heap.size := by omega
   have HA := hidT (bal (Below.refl _ w2) (.cells #[.int .i64 k] 3))
   have HR7 : Hid (Rng w7 b w.heap.size l (delM k todo) cnt2) := hidT ((HR2.out.below HA.out).kept hg7 (fun e => by have := (hvb b e.symm).1; omega) (fun e => by have := (hvb _ e.symm).1; omega))
   have HB7 : Hid (Below w.heap.size w w7) := hidT ((bcall HBL2.out HA.out).grown hg7 (bcall HBL2.out HA.out).size (fun z e => by have := (hvb z e).1; omega))
   have hz7 : w.heap.size < w7.heap.size := by have := hg7.size; simp at this; omega
   rw [← List.map_nil (f := Value.int .i64), ← List.map_cons, ← List.map_append] at hown7
   have HO7 := hidT hown7
   clear hown7 hg7 hat7 HO4 HA HR2 HBL2 HOW2
   go_wp2_with fail
   go_loopw [5] (fun i ws => ∃ (q : Nat) (h : Int), q ≤ m ∧ i = .int .i64 q ∧ Hid (ws.ownsRow (w.heap.size + 1) 3 1 (.slice (some ⟨g, 0, none⟩) (m + 1) c') (m + 1) ((out.take q ++ h :: out.drop q).map (Value.int .i64))) ∧ Hid (∀ y ∈ out.drop q, k < y) ∧ Hid (w7.grownBy ws (some g))) (fun i _ => (intOf i).toNat)
   case atStart => exact ⟨m, k, Nat.le_refl _, rfl, by rw [List.take_of_length_le (by have := HM.out; omega), List.drop_of_length_le (by have := HM.out; omega)]; exact HO7, hidT (fun y hy => by rw [List.drop_of_length_le (by have := HM.out; omega)] at hy; cases hy), hidT ⟨rfl, rfl, rfl, Nat.le_refl _, fun _ _ _ => rfl⟩⟩
   case round =>
    obtain ⟨q, h, hqm, rfl, HO, HGT, HGR⟩ := hrel
    have hgz : g < wr.heap.size := by have := HGR.out.size; omega
    have cq : wr.cell? ⟨g, q, none⟩ = some (.int .i64 h) := by
     rw [HO.out.cellAt q (by omega), List.getElem?_map, List.getElem?_append_right (by rw [List.length_take]; omega), List.length_take, Nat.min_eq_left (by have := HM.out; omega), Nat.sub_self]
     rfl
    have fq : wr.frozen? ⟨g, q, none⟩ = false := HO.out.frozenAt q
    cases q with
    | zero =>
     have HINS := hidT (done_ins (q := 0) HU.out HSUB.out.1 HSUB.out.2 HK.out HOUT.out (Or.inl rfl) HGT.out)
     go_wp2_with fail
     have hst := (HO.out.stored (0) (.int .i64 k)).1
     rw [← List.map_set, Sw.hole_endP (by have := HM.out; omega), HINS.out] at hst
     have hgS : w7.grownBy (wr.setCell ⟨g, 0, none⟩ (.int .i64 k)) (some g) := HGR.out.trans (Sw.grown_setS _ g _ _)
     generalize wr.setCell ⟨g, 0, none⟩ (.int .i64 k) = X at hst hgS ⊢
     have hR := Th.Rng.own HR7.out hgS hgb hgr
     refine ⟨⟨delM k todo, cnt2, hidT hR, hidT ?_, hidT (Sw.below_g HB7.out hgS (by omega)), by have := hgS.size; omega⟩, ?_⟩
     ·have e : m + 1 = ((doneM l (delM k todo)).map (·.1)).length := by
       rw [← HINS.out, List.length_append, List.length_take, List.length_cons, List.length_drop]
       have := HM.out
       omega
      rw [← e]
      exact hst
     ·rw [hR.left_eq, HCN.out]
      exact HLT.out
    | succ p =>
     obtain ⟨y, hy⟩ : ∃ y, out[p]? = some y := ⟨_, List.getElem?_eq_getElem (by have := HM.out; omega)⟩
     have cp : wr.cell? ⟨g, p, none⟩ = some (.int .i64 y) := by
      rw [HO.out.cellAt p (by omega), List.getElem?_map, List.getElem?_append_left (by rw [List.length_take]; have := HM.out; omega), List.getElem?_take_of_lt (by omega), hy]
      rfl
     have hw : wrap64 (((p + 1 : Nat) : Int) - 1) = (p : Int) := by unfold wrap64; omega
     have hp1 : (p : Int) < ((m + 1 : Nat) : Int) := by omega
     have HY := hidT hy
     clear hy
     by_cases hgt : k < y
     ·have hgt' : y > k := hgt
      go_wp2_with fail
      have hst := (HO.out.stored (p + 1) (.int .i64 y)).1
      rw [← List.map_set, Sw.hole_stepP HY.out] at hst
      refine ⟨⟨p, y, by omega, rfl, hidT hst, hidT (fun y' hy' => ?_), hidT (HGR.out.trans (Sw.grown_setS _ g _ _))⟩, by simp [intOf]⟩
      have hpl := (List.getElem?_eq_some_iff.1 HY.out)
      rw [List.drop_eq_getElem_cons hpl.1, hpl.2] at hy'
      rcases List.mem_cons.1 hy' with rfl | hy'
      ·exact hgt
      ·exact HGT.out y' hy'
     ·have HINS := hidT (done_ins (q := p + 1) HU.out HSUB.out.1 HSUB.out.2 HK.out HOUT.out (Or.inr ⟨y, HY.out, by omega⟩) HGT.out)
      go_wp2_with fail
      have hst := (HO.out.stored (p + 1) (.int .i64 k)).1
      rw [← List.map_set, Sw.hole_endP (by have := HM.out; omega), HINS.out] at hst
      have hgS : w7.grownBy (wr.setCell ⟨g, p + 1, none⟩ (.int .i64 k)) (some g) := HGR.out.trans (Sw.grown_setS _ g _ _)
      generalize wr.setCell ⟨g, p + 1, none⟩ (.int .i64 k) = X at hst hgS ⊢
      have hR := Th.Rng.own HR7.out hgS hgb hgr
      refine ⟨⟨delM k todo, cnt2, hidT hR, hidT ?_, hidT (Sw.below_g HB7.out hgS (by omega)), by have := hgS.size; omega⟩, ?_⟩
      ·have e : m + 1 = ((doneM l (delM k todo)).map (·.1)).length := by
        rw [← HINS.out, List.length_append, List.length_take, List.length_cons, List.length_drop]
        have := HM.out
        omega
       rw [← e]
       exact hst
      ·rw [hR.left_eq, HCN.out]
       exact HLT.out
end Th
namespace Th
open Num St Mp
open Go.ChangeShapes Go.WideShapes Go.ChangeAt Go.RowKit Go.Sort Go.Shelf Go.Lib
theorem fieldM (t : Th) (w : World) : (Instr.field 105 (.agg #[.int .i64 t.m, .int .i64 t.r.x, .int .i64 t.r.y, .int .i64 t.r.px, .int .i64 t.r.py, .int .i64 t.r.wd, .int .i64 t.r.ht, .int .i64 t.r.ms, .int .i64 t.r.rr]) 0).run Tryz.prog w = .ok (.int .i64 t.m) w := by kernel_rfl
theorem fieldR (t : Th) (w : World) : (Instr.field 105 (.agg #[.int .i64 t.m, .int .i64 t.r.x, .int .i64 t.r.y, .int .i64 t.r.px, .int .i64 t.r.py, .int .i64 t.r.wd, .int .i64 t.r.ht, .int .i64 t.r.ms, .int .i64 t.r.rr]) 1).run Tryz.prog w = .ok (.agg #[.int .i64 t.r.x, .int .i64 t.r.y, .int .i64 t.r.px, .int .i64 t.r.py, .int .i64 t.r.wd, .int .i64 t.r.ht, .int .i64 t.r.ms, .int .i64 t.r.rr]) w := by kernel_rfl
def havM (m : Int) (l : Mth) : List Int := (l.filter (fun p => hasB p.2.m m)).map (·.1)
theorem havM_snoc {l : Mth} {k : Nat} {p : Int × Th} {m : Int} (h : l[k]? = some p) : havM m (l.take (k + 1)) = havM m (l.take k) ++ (if hasB p.2.m m then [p.1] else []) := by
 have hk := (List.getElem?_eq_some_iff.1 h).1
 rw [List.take_succ_eq_append_getElem hk, (List.getElem?_eq_some_iff.1 h).2]
 unfold havM
 rw [List.filter_append, List.map_append]
 cases hb : hasB p.2.m m <;> simp [hb]
theorem havM_len (m : Int) (l : Mth) : (havM m l).length ≤ l.length := by
 unfold havM
 rw [List.length_map]
 exact List.length_filter_le _ _
set_option maxHeartbeats 8000000 in
set_option maxRecDepth 100000 in
theorem having_any (b : Nat) (l : Mth) (m : Int) (w : World) (h : Mp w b l) (hl : l.length ≤ 1000000) :
  Calls Tryz.prog 86 #[.map (some b), .int .i64 m] w fun e w' => (∃ u, e = .returned u ∧ w'.ownsRow w.heap.size 3 1 u (havM m l).length ((havM m l).map (Value.int .i64))) ∧ Below w.heap.size w w' := by
 obtain ⟨i0, hi, hz0, hz1, hz2⟩ := info_parts Sw.info3
 have hbz := h.lt
 have HH := hidT h
 have HL := hidT hl
 have HS := hidT (sorted_any b l w h hl)
 clear h hl
 have hfm := fieldM
 go_enter Tryz.func86, Tryz.ntmps86
 go_wp2_with (go_at_call 78; refine HS.out.mono ?_; rintro e w1 ⟨⟨u, rfl, ho1⟩, hb1⟩; have HO1 := hidT ho1; have HB1 := hidT hb1; clear ho1 hb1; obtain ⟨a1, c1, rfl, -⟩ := Sw.owns_slice HO1.out)
 have hz1w := HB1.out.size
 have hlc : (l.length : Int) ≤ 1000000 := by have := HL.out; omega
 go_loopw [5, 11] (fun v i wr => ∃ k : Nat, k ≤ l.length ∧ i = .int .i64 k ∧ Hid (wr.ownsRow w1.heap.size 3 1 v (havM m (l.take k)).length ((havM m (l.take k)).map (Value.int .i64))) ∧ Hid (Below w1.heap.size w1 wr)) (fun _ i _ => l.length - (intOf i).toNat)
 case atStart => exact ⟨0, Nat.zero_le _, rfl, hidT (by exact World.ownsRow_nil _ _ _ _), hidT (Below.refl _ _)⟩
 case round =>
  obtain ⟨k, hk, rfl, hown, hbl⟩ := hrel
  by_cases hlt : k < l.length
  ·have hlt' : (k : Int) < (l.length : Int) := by omega
   obtain ⟨p, hp⟩ : ∃ p, l[k]? = some p := ⟨_, List.getElem?_eq_getElem hlt⟩
   have HP := hidT hp
   have hoR := owns_below HO1.out hbl.out
   obtain ⟨g1, c1', e1⟩ := Sw.own_some2 hoR (by omega)
   cases e1
   have ck : wr.cell? ⟨g1, k, none⟩ = some (.int .i64 p.1) := by
    rw [hoR.cellAt k (by omega), List.getElem?_map, List.getElem?_map, hp]
    rfl
   have hg1 := (hoR.lt g1 rfl).2
   have HMP : Hid (Mp wr b l) := hidT ((HH.out.below HB1.out).below hbl.out)
   have hgm : getM p.1 l = some p.2 := getM_of_mem HH.out.up (List.mem_of_getElem? hp)
   have hwf := HH.out.wf hgm
   have hlk := HMP.out.look hwf
   rw [hgm] at hlk
   simp only [Option.getD_some, thV] at hlk
   have HSN := hidT (havM_snoc (m := m) HP.out)
   clear hoR hp hgm
   cases hb : hasB p.2.m m
   ·have hb' : (bits .and .i64 p.2.m m == m) = false := hb
    rw [hb] at HSN
    go_wp2_with fail
    refine ⟨⟨k + 1, by omega, by go_num, ?_, hbl⟩, by simp [intOf]; omega⟩
    rw [HSN.out]
    simp only [Bool.false_eq_true, if_false, List.append_nil]
    exact hown
   ·have hb' : (bits .and .i64 p.2.m m == m) = true := hb
    rw [hb] at HSN
    simp only [if_true] at HSN
    obtain ⟨out, HOUT⟩ : ∃ o, Hid (o = havM m (l.take k)) := ⟨_, rfl⟩
    rw [← HOUT.out] at hown HSN
    obtain ⟨n, HN⟩ : ∃ n, Hid (n = out.length) := ⟨_, rfl⟩
    rw [← HN.out] at hown
    have hml : n ≤ 1000000 := by
     have h1 := HN.out
     rw [HOUT.out] at h1
     have h2 := havM_len m (l.take k)
     rw [List.length_take] at h2
     have := HL.out
     omega
    obtain ⟨av, cv, rfl, -⟩ := Sw.owns_slice hown.out
    have HO4 := hidT (owns_below hown.out (bal (Below.refl _ wr) (.cells #[.int .i64 p.1] 3)))
    have hbs := hbl.out.size
    go_wp2_with (at_builtin; refine wpList_append_own_at _ rfl _ _ 28 rfl w1.heap.size 3 i0 (.int .i64 0) 1 8 Tryz.underlying28 hi hz0 hz1 hz2 rfl (by decide) _ _ _ rfl HO4.out ⟨wr.heap.size, 0, none⟩ 1 1 [.int .i64 p.1] rfl ?c1 ?c2 ?c3 ?c4 ?c5 ?c6 ?_)
    case c1 => rfl
    case c2 =>
     intro j u hj
     match j, hj with
     | 0, hj => cases hj; simp [Addr.add]
    case c3 => intro u hu; simp at hu; subst hu; rfl
    case c4 => unfold maxLen; omega
    case c5 => omega
    case c6 => simp; omega
    intro v' w7 hown7 hg7 _ _
    have hvb : ∀ z, (Value.slice av n cv).ownBlock = some z → w1.heap.size ≤ z ∧ z < wr.heap.size := fun z hz => hown.out.lt z hz
    have HB7 : Hid (Below w1.heap.size w1 w7) := hidT ((bal hbl.out (.cells #[.int .i64 p.1] 3)).grown hg7 (bal hbl.out _).size (fun z e => (hvb z e).1))
    rw [← List.map_nil (f := Value.int .i64), ← List.map_cons, ← List.map_append, ← HSN.out] at hown7
    have HO7 := hidT hown7
    clear hown7 hg7 HO4
    go_wp2_with fail
    refine ⟨⟨k + 1, by omega, by go_num, ?_, HB7⟩, by simp [intOf]; omega⟩
    have e : n + 1 = (havM m (l.take (k + 1))).length := by rw [HSN.out, List.length_append]; have := HN.out; simp; omega
    rw [← e]
    exact HO7
  ·have hkn : k = l.length := by omega
   subst hkn
   go_wp2_with fail
   go_ret
   refine ⟨⟨_, rfl, ?_⟩, bcall HB1.out hbl.out⟩
   have h1 := hown.out
   rw [List.take_length] at h1
   exact Joins.ownsRow_le h1 hz1w
end Th
namespace Th
open Num St Mp
open Go.ChangeShapes Go.WideShapes Go.ChangeAt Go.RowKit Go.Sort Go.Shelf Go.Lib
theorem done_put {l todo : Mth} {k : Int} {t : Th} (hl : Up l) (hu : Up todo) (hs : ∀ p ∈ todo, p ∈ l) (hk : getM k todo = some t) : putM k t (doneM l todo) = doneM l (delM k todo) := by
 have hd : Up (doneM l todo) := List.Pairwise.filter _ hl
 have hd2 : Up (doneM l (delM k todo)) := List.Pairwise.filter _ hl
 refine (hd.put k t).ext hd2 (fun j => option_ext (fun s => ?_))
 rw [getM_put hd, getM_iff hd2, mem_doneM, getM_del hu]
 have hkl : (k, t) ∈ l := hs _ (getM_mem hk)
 by_cases h : j = k
 ·subst h
  simp only [if_true, and_true]
  constructor
  ·intro e; cases e; exact hkl
  ·intro e
   have h1 := getM_of_mem hl e
   have h2 := getM_of_mem hl hkl
   rw [← h1, h2]
 ·simp only [if_neg h]
  rw [getM_iff hd, mem_doneM]
set_option maxHeartbeats 8000000 in
set_option maxRecDepth 100000 in
theorem copy_any (b : Nat) (l : Mth) (w : World) (h : Mp w b l) (hl : l.length ≤ 1000000) :
  Calls Tryz.prog 77 #[.map (some b)] w fun e w' => (∃ c, e = .returned (.map (some c)) ∧ w.heap.size ≤ c ∧ Mp w' c l) ∧ Below w.heap.size w w' := by
 have hbz := h.lt
 have HU := hidT h.up
 have HL := hidT hl
 have HH := hidT h
 have hmm := @run_makeMap Tryz.prog
 have hm0 := h.below (bal (Below.refl _ w) (.map #[] 0))
 have HN0 := hidT (Mp.made w)
 clear h hl
 go_enter Tryz.func77, Tryz.ntmps77
 go_wp2_with (first | (at_range; refine wp_range _ rfl _ rfl b l rfl hm0 ?_; intro w1 hr1 hg1 hs1) | fail)
 go_frame
 have HR1 := hidT hr1
 have HN1 := hidT (HN0.out.kept hg1 (by simp))
 have HB1 : Hid (Below w.heap.size w w1) := hidT (below_n (bal (Below.refl _ _) _) hg1)
 rw [World.size_alloc] at hs1 HR1
 rw [World.size_alloc]
 clear hr1 hg1 hm0 HN0
 go_loopw [4] (fun _ wr => ∃ todo cnt, Hid (Rng wr b (w.heap.size + 1) l todo cnt) ∧ Hid (Mp wr w.heap.size (doneM l todo)) ∧ Hid (Below w.heap.size w wr) ∧ w.heap.size + 1 < wr.heap.size) (fun _ wr => wr.rangeLeft b (w.heap.size + 1))
 case atStart => exact ⟨l, _, HR1, hidT (by rw [doneM_all HU.out]; exact HN1.out), HB1, by omega⟩
 case round =>
  obtain ⟨todo, cnt, HR, HN, hbl, hzr⟩ := hrel
  go_wp2_with (first | (at_next; refine wp_next _ rfl _ rfl b (w.heap.size + 1) l todo cnt rfl HR.out ?_ ?_) | fail)
  ·intro h0
   subst h0
   go_wp2_with fail
   go_ret
   refine ⟨⟨_, rfl, Nat.le_refl _, ?_⟩, hbl.out⟩
   have h1 := HN.out
   rw [doneM_nil] at h1
   exact h1
  ·intro k t w2 cnt2 hk hr2 hlt hg2 hs2 hen
   have HK := hidT hk
   have HR2 := hidT hr2
   have HLT := hidT hlt
   have HCN := hidT HR.out.left_eq
   have HSUB := hidT HR.out.sub
   have hwf := HH.out.wf (getM_of_mem HU.out (HSUB.out.2 _ (getM_mem hk)))
   have HN2 := hidT (HN.out.kept hg2 (fun e => by have := Option.some.inj e; omega))
   have HBL2 : Hid (Below w.heap.size w w2) := hidT (hbl.out.grown hg2 hbl.out.size (fun q hq => by cases hq; exact Nat.le_succ _))
   have hlen : (doneM l todo).length < maxLen := by
    have := doneM_len (l := l) (todo := todo)
    have := HL.out
    unfold maxLen
    omega
   have hz2 : w.heap.size + 1 < w2.heap.size := by omega
   clear hk hr2 hlt hg2 hs2 HR HN hbl
   have HA := hidT (bal (Below.refl _ w2) (.cells #[.int .i64 t.m, .int .i64 t.r.x, .int .i64 t.r.y, .int .i64 t.r.px, .int .i64 t.r.py, .int .i64 t.r.wd, .int .i64 t.r.ht, .int .i64 t.r.ms, .int .i64 t.r.rr] 105))
   have HN3 := hidT (HN2.out.below HA.out)
   go_wp2_with (first | (at_mapUpdate; refine wp_store _ rfl _ _ _ rfl w.heap.size _ rfl HN3.out hlen k rfl hwf t rfl ?_; intro w4 hm4 ht4) | fail)
   have HM4 := hidT hm4
   have HT4 := hidT ht4
   clear hm4 ht4
   go_wp2_with fail
   have hR := (HR2.out.below HA.out).blocks (turned_block HT4.out (i := b) (by omega)) (turned_block HT4.out (i := w.heap.size + 1) (by omega))
   go_roundw
   case rel =>
    refine ⟨_, _, _, _, _, _, _, _, _, _, ⟨delM k todo, cnt2, hidT hR, hidT ?_, hidT (Mp.below_turn (bcall HBL2.out HA.out) HT4.out (Nat.le_refl _)), ?_⟩, rfl⟩
    ·rw [← done_put HU.out HSUB.out.1 HSUB.out.2 HK.out]
     exact HM4.out
    ·rw [turned_size HT4.out]
     simp
     omega
   case measure =>
    rw [hR.left_eq, HCN.out]
    exact HLT.out
theorem neqOf {n : Nat} {P : Program} {w : World} {t : TypeId} {xs ys : Array Value} (h : n = 10000) {v : Bool} (e : (Op.equalIn n t (.agg xs) (.agg ys)).run P w = .ok v w) :
  (binOp .neq t (.agg xs) (.agg ys)).run P w = .ok (.bool (!v)) w := by
 subst h
 rw [run_neq_struct, e]
 rfl
end Th
end Go.Proofs.YtckkkdldljhehacGreat
