/- Part of the proofs of GamePlays and GameRuns (package ninepinslaw): contracts of the functions that they call. -/
import Derived.Maps.AppendAt
import Derived.Test.YtckkkdldljhehacGreatPkN
namespace Go.Proofs.YtckkkdldljhehacGreat
namespace Sw
open Go.ChangeShapes Go.WideShapes Go.ChangeAt Go.RowKit Go.Sort Go.Shelf Go.Lib
set_option maxHeartbeats 8000000 in
set_option maxRecDepth 100000 in
theorem lookOf_any (a : Option Addr) (n cap : Nat) (l : List B5) (b : B5) (w : World) (hn : n = l.length) (hz : n ≤ 1000000) (hcap : n ≤ cap) (hB : BoxL w a l) :
  Calls Tryz.prog 52 #[.slice a n cap, .agg #[.int .i64 b.id, .int .i64 b.x1, .int .i64 b.y1, .int .i64 b.x2, .int .i64 b.y2]] w fun e w' => (∃ u, e = .returned u ∧ w'.ownsRow w.heap.size 3 1 u (lookP l b).length ((lookP l b).map (Value.int .i64))) ∧ RowKit.Below w.heap.size w w' := by
 obtain ⟨i0, hi, hz0, hz1, hz2⟩ := info_parts info3
 have HBA := hid (bal (Below.refl _ w) (.cells #[.int .i64 b.id, .int .i64 b.x1, .int .i64 b.y1, .int .i64 b.x2, .int .i64 b.y2] 36))
 have HAR := hid (areBoxes_any a n cap l _ hn (by omega) hcap (hB.below' HBA.out))
 have HBX := hid (owns_box w b w.heap.size (Nat.le_refl _))
 have HB := hid hB
 have HN := hid hn
 clear hB hn
 go_enter Tryz.func52, Tryz.ntmps52
 cases hq : areB l
 ·rw [hq] at HAR
  have HP : Hid (lookP l b = []) := hid (by simp [lookP, good_are, hq])
  go_wp2_with (go_at_call 85; refine HAR.out.mono ?_; rintro e w1 ⟨rfl, h1⟩; have H1 := hid h1; clear h1)
  go_ret
  exact ⟨⟨_, rfl, by rw [HP.out]; exact ⟨rfl, Or.inl ⟨rfl, rfl⟩⟩⟩, bcall HBA.out H1.out⟩
 ·rw [hq] at HAR
  have HP : Hid (lookP l b = sortI (lookL l b)) := hid (by simp [lookP, good_are, hq])
  clear hq
  go_wp2_with (go_at_call 85; refine HAR.out.mono ?_; rintro e w1 ⟨rfl, h1⟩; have H1 := hid h1; clear h1)
  have HB1 := hid (bcall HBA.out H1.out)
  have HBX1 := hid (owns_below HBX.out H1.out)
  have hz1' : w.heap.size < w1.heap.size := by have := H1.out.size; simp at this; omega
  go_loopw [5, 14] (fun v i wr => ∃ k : Nat, k ≤ n ∧ i = .int .i64 k ∧ Hid (wr.ownsRow (w.heap.size + 1) 3 1 v (sortI (lookL (l.take k) b)).length ((sortI (lookL (l.take k) b)).map (Value.int .i64))) ∧ Hid (wr.ownsRow w.heap.size 36 5 (.slice (some ⟨w.heap.size, 0, none⟩) 1 1) 1 (boxCells b)) ∧ Hid (RowKit.Below w.heap.size w wr) ∧ w.heap.size < wr.heap.size) (fun _ i _ => n - (intOf i).toNat)
  case atStart => exact ⟨0, Nat.zero_le _, rfl, hid (by simp [lookL, sortI]; exact World.ownsRow_nil _ _ _ _), HBX1, HB1, hz1'⟩
  case round =>
   obtain ⟨k, hk, rfl, hown, hbx, hbl, hzr⟩ := hrel
   by_cases hlt : k < n
   ·have hlt' : (k : Int) < (n : Int) := by omega
    obtain ⟨x, hx⟩ : ∃ x, l[k]? = some x := ⟨_, List.getElem?_eq_getElem (by have := HN.out; omega)⟩
    obtain ⟨bb, off, rfl, hbb, hc⟩ := (HB.out.below' hbl.out) (by have := HN.out; omega)
    obtain ⟨c0, c1, c2, c3, c4⟩ := hc k x hx
    obtain ⟨b0, b1, b2, b3, b4⟩ := box_one hbx.out
    have HX := hid hx
    clear hc hx
    have HXA := hid (bal (Below.refl _ wr) (.cells #[.int .i64 x.id, .int .i64 x.x1, .int .i64 x.y1, .int .i64 x.x2, .int .i64 x.y2] 36))
    by_cases e1 : x.x1 < b.x2 ∧ b.x1 < x.x2 ∧ x.y1 < b.y2 ∧ b.y1 < x.y2
    ·obtain ⟨e1, e2, e3, e4⟩ := e1
     have HQ := hid (lookL_met HX.out (show meetB x b = true by simp [meetB, e1, e2, e3, e4]))
     obtain ⟨out, HOUT⟩ : ∃ o, Hid (o = sortI (lookL (l.take k) b)) := ⟨_, rfl⟩
     rw [← HOUT.out] at hown
     obtain ⟨m, HM⟩ : ∃ m, Hid (m = out.length) := ⟨_, rfl⟩
     rw [← HM.out] at hown
     have hml : m ≤ n := by
      have h1 := HM.out
      rw [HOUT.out, sortI_len] at h1
      have h2 := lookL_len (l.take k) b
      rw [List.length_take] at h2
      omega
     obtain ⟨av, cv, rfl, -⟩ := owns_slice hown.out
     have HXB := hid (owns_box wr x wr.heap.size (Nat.le_refl _))
     have HO4 := hid (owns_below (owns_below hown.out HXA.out) (bal (Below.refl _ _) (.cells #[.int .i64 x.id] 3)))
     go_wp2_with (at_builtin; refine wpList_append_own_at _ rfl _ _ 28 rfl (w.heap.size + 1) 3 i0 (.int .i64 0) 1 8 Tryz.underlying28 hi hz0 hz1 hz2 rfl (by decide) _ _ _ rfl HO4.out ⟨wr.heap.size + 1, 0, none⟩ 1 1 [.int .i64 x.id] rfl ?c1 ?c2 ?c3 ?c4 ?c5 ?c6 ?_)
     case c1 => rfl
     case c2 =>
      intro j u hj
      match j, hj with
      | 0, hj => cases hj; simp [Addr.add]
     case c3 => intro u hu; simp at hu; subst hu; rfl
     case c4 => unfold maxLen; omega
     case c5 => omega
     case c6 => simp; omega
     intro v' w7 hown7 hg7 _ hat7
     obtain ⟨g, c', rfl⟩ := own_some2 hown7 (by omega)
     have hgl := hown7.lt g rfl
     have hvb : ∀ z, (Value.slice av m cv).ownBlock = some z → w.heap.size + 1 ≤ z ∧ z < wr.heap.size := fun z hz => hown.out.lt z hz
     have hgx : g ≠ wr.heap.size := by
      rcases hat7 with h7 | h7
      ·have := (hvb g (h7.symm.trans rfl)).2; omega
      ·have e7 := Option.some.inj (show some g = _ from h7); omega
     have HX7 := hid (owns_kept (owns_below HXB.out (bal (Below.refl _ _) (.cells #[.int .i64 x.id] 3))) hg7 (fun z hz e => by have ez : wr.heap.size = z := Option.some.inj hz; have := (hvb z e).2; omega))
     have HBX7 := hid (owns_kept (owns_below (owns_below hbx.out HXA.out) (bal (Below.refl _ _) (.cells #[.int .i64 x.id] 3))) hg7 (fun z hz e => by have ez : w.heap.size = z := Option.some.inj hz; have := (hvb z e).1; omega))
     have HB7 : Hid (RowKit.Below w.heap.size w w7) := hid ((bal (bcall hbl.out HXA.out) (.cells #[.int .i64 x.id] 3)).grown hg7 (by simp; omega) (fun z e => by have := (hvb z e).1; omega))
     have hz7 := hg7.size
     simp at hz7
     rw [← List.map_nil (f := Value.int .i64), ← List.map_cons, ← List.map_append] at hown7
     have HO7 := hid hown7
     clear hown7 hg7 hat7 HO4 HXB c0 c1 c2 c3 c4 b0 b1 b2 b3 b4
     generalize wr.heap.size = xb at HX7 hgx hz7 hvb hzr ⊢
     have HSO : Hid (out = sortI (lookL (l.take k) b)) := HOUT
     go_wp2_with fail
     go_loopw [8] (fun i ws => ∃ (q : Nat) (h : Int), q ≤ m ∧ i = .int .i64 q ∧ Hid (ws.ownsRow (w.heap.size + 1) 3 1 (.slice (some ⟨g, 0, none⟩) (m + 1) c') (m + 1) ((out.take q ++ h :: out.drop q).map (Value.int .i64))) ∧ Hid (∀ y ∈ out.drop q, x.id < y) ∧ Hid (w7.grownBy ws (some g))) (fun i _ => (intOf i).toNat)
     case atStart => exact ⟨m, x.id, Nat.le_refl _, rfl, by rw [List.take_of_length_le (by have := HM.out; omega), List.drop_of_length_le (by have := HM.out; omega)]; exact HO7, hid (fun y hy => by rw [List.drop_of_length_le (by have := HM.out; omega)] at hy; cases hy), hid ⟨rfl, rfl, rfl, Nat.le_refl _, fun _ _ _ => rfl⟩⟩
     case round =>
      obtain ⟨q, h, hqm, rfl, HO, HGT, HGR⟩ := hrel
      have x0 := (box_one (owns_kept HX7.out HGR.out (fun z hz e => by have ez : xb = z := Option.some.inj hz; have eg := Option.some.inj e; omega))).1
      have hgz : g < wr.heap.size := by have := HGR.out.size; omega
      have hxz : xb < wr.heap.size := by have := HGR.out.size; omega
      have cq : wr.cell? ⟨g, q, none⟩ = some (.int .i64 h) := by
       rw [HO.out.cellAt q (by omega), List.getElem?_map, List.getElem?_append_right (by rw [List.length_take]; omega), List.length_take, Nat.min_eq_left (by have := HM.out; omega), Nat.sub_self]
       rfl
      have fq : wr.frozen? ⟨g, q, none⟩ = false := HO.out.frozenAt q
      cases q with
      | zero =>
       have HINS := hid (ins_here (x := x.id) HSO.out (Nat.zero_le _) (Or.inl rfl) HGT.out)
       go_wp2_with fail
       go_region
       all_goals
        go_wp2_with fail
        go_roundw
        case rel =>
         have hst := (HO.out.stored (0) (.int .i64 x.id)).1
         rw [← List.map_set, hole_end (by have := HM.out; omega), HINS.out] at hst
         refine ⟨k + 1, by omega, by go_num, ?_, ?_, ?_, ?_⟩
         ·rw [HQ.out]
          have e : m + 1 = (sortI (lookL (l.take k) b ++ [x.id])).length := by rw [sortI_len, List.length_append]; have h1 := HM.out; rw [HOUT.out, sortI_len] at h1; simp; omega
          rw [← e]
          exact hid (owns_below hst (Below.drew (Below.refl _ _)))
         ·exact hid (owns_below (owns_kept (owns_kept HBX7.out HGR.out (fun z hz e => by have ez : w.heap.size = z := Option.some.inj hz; have eg := Option.some.inj e; omega)) (grown_setS _ g _ _) (fun z hz e => by have ez : w.heap.size = z := Option.some.inj hz; have eg := Option.some.inj e; omega)) (Below.drew (Below.refl _ _)))
         ·exact hid (Below.drew (below_g (below_g HB7.out HGR.out (by omega)) (grown_setS _ g _ _) (by omega)))
         ·have := HGR.out.size; simp; omega
        case measure => simp [intOf]; omega
      | succ p =>
       obtain ⟨y, hy⟩ : ∃ y, out[p]? = some y := ⟨_, List.getElem?_eq_getElem (by have := HM.out; omega)⟩
       have cp : wr.cell? ⟨g, p, none⟩ = some (.int .i64 y) := by
        rw [HO.out.cellAt p (by omega), List.getElem?_map, List.getElem?_append_left (by rw [List.length_take]; have := HM.out; omega), List.getElem?_take_of_lt (by omega), hy]
        rfl
       have hw : wrap64 (((p + 1 : Nat) : Int) - 1) = (p : Int) := by unfold wrap64; omega
       have hw' : IntKind.i64.wrap (((p + 1 : Nat) : Int) - 1) = (p : Int) := by rw [IntKind.wrap_i64]; omega
       have hp1 : (p : Int) < ((m + 1 : Nat) : Int) := by omega
       have HY := hid hy
       by_cases hgt : x.id < y
       ·have hgt' : y > x.id := hgt
        go_wp2_with fail
        go_region
        all_goals
         go_wp2_with fail
         go_roundw
         case rel =>
          have hst := (HO.out.stored (p + 1) (.int .i64 y)).1
          rw [← List.map_set, hole_step HY.out] at hst
          refine ⟨p, y, by omega, by go_num, hid (owns_below hst (Below.drew (Below.refl _ _))), hid (fun y' hy' => ?_), hid (grown_drewS (HGR.out.trans (grown_setS _ g _ _)))⟩
          have hpl := (List.getElem?_eq_some_iff.1 HY.out)
          rw [List.drop_eq_getElem_cons hpl.1, hpl.2] at hy'
          rcases List.mem_cons.1 hy' with rfl | hy'
          ·exact hgt
          ·exact HGT.out y' hy'
         case measure => simp [intOf]
       ·have HINS := hid (ins_here (x := x.id) HSO.out (by have := HM.out; omega) (Or.inr ⟨y, HY.out, by omega⟩) HGT.out)
        go_wp2_with fail
        go_region
        all_goals
         go_wp2_with fail
         go_roundw
         case rel =>
          have hst := (HO.out.stored (p + 1) (.int .i64 x.id)).1
          rw [← List.map_set, hole_end (by have := HM.out; omega), HINS.out] at hst
          refine ⟨k + 1, by omega, by go_num, ?_, ?_, ?_, ?_⟩
          ·rw [HQ.out]
           have e : m + 1 = (sortI (lookL (l.take k) b ++ [x.id])).length := by rw [sortI_len, List.length_append]; have h1 := HM.out; rw [HOUT.out, sortI_len] at h1; simp; omega
           rw [← e]
           exact hid (owns_below hst (Below.drew (Below.refl _ _)))
          ·exact hid (owns_below (owns_kept (owns_kept HBX7.out HGR.out (fun z hz e => by have ez : w.heap.size = z := Option.some.inj hz; have eg := Option.some.inj e; omega)) (grown_setS _ g _ _) (fun z hz e => by have ez : w.heap.size = z := Option.some.inj hz; have eg := Option.some.inj e; omega)) (Below.drew (Below.refl _ _)))
          ·exact hid (Below.drew (below_g (below_g HB7.out HGR.out (by omega)) (grown_setS _ g _ _) (by omega)))
          ·have := HGR.out.size; simp; omega
         case measure => simp [intOf]; omega
    ·have HQ := hid (lookL_not HX.out (show meetB x b = false by simp [meetB]; omega))
     by_cases d1 : x.x1 < b.x2
     case neg =>
      go_wp2_with fail
      go_roundw
      case rel => exact ⟨k + 1, by omega, by go_num, by rw [HQ.out]; exact hid (owns_below hown.out HXA.out), hid (owns_below hbx.out HXA.out), hid (bcall hbl.out HXA.out), by simp; omega⟩
      case measure => simp [intOf]; omega
     case pos =>
     by_cases d2 : b.x1 < x.x2
     case neg =>
      go_wp2_with fail
      go_roundw
      case rel => exact ⟨k + 1, by omega, by go_num, by rw [HQ.out]; exact hid (owns_below hown.out HXA.out), hid (owns_below hbx.out HXA.out), hid (bcall hbl.out HXA.out), by simp; omega⟩
      case measure => simp [intOf]; omega
     case pos =>
     by_cases d3 : x.y1 < b.y2
     case neg =>
      go_wp2_with fail
      go_roundw
      case rel => exact ⟨k + 1, by omega, by go_num, by rw [HQ.out]; exact hid (owns_below hown.out HXA.out), hid (owns_below hbx.out HXA.out), hid (bcall hbl.out HXA.out), by simp; omega⟩
      case measure => simp [intOf]; omega
     case pos =>
     have d4 : ¬ b.y1 < x.y2 := fun h => e1 ⟨d1, d2, d3, h⟩
     go_wp2_with fail
     go_roundw
     case rel => exact ⟨k + 1, by omega, by go_num, by rw [HQ.out]; exact hid (owns_below hown.out HXA.out), hid (owns_below hbx.out HXA.out), hid (bcall hbl.out HXA.out), by simp; omega⟩
     case measure => simp [intOf]; omega
   ·have hkn : k = n := by omega
    subst hkn
    have HE : Hid (l.take k = l) := hid (List.take_of_length_le (by have := HN.out; omega))
    go_wp2_with fail
    go_ret
    refine ⟨⟨_, rfl, ?_⟩, hbl.out⟩
    rw [HP.out]
    have h1 := hown.out
    rw [HE.out] at h1
    exact Joins.ownsRow_le h1 (Nat.le_succ _)
end Sw
end Go.Proofs.YtckkkdldljhehacGreat
