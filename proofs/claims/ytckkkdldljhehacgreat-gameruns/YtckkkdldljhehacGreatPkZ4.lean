/- Part of the proofs of GamePlays and GameRuns (package ninepinslaw): contracts of the functions that they call. -/
import Derived.Deep.OwnRows
import Derived.Test.YtckkkdldljhehacGreatPkN
namespace Go.Proofs.YtckkkdldljhehacGreat
namespace Sw
open Go.ChangeShapes Go.WideShapes Go.ChangeAt Go.RowKit Go.Sort Go.Shelf Go.Lib
theorem pair_write {W : World} {B g n c i : Nat} {R : List (Int × Int)} (x : Int × Int) (hi : i < R.length) (h : W.ownsRow B 54 2 (.slice (some ⟨g, 0, none⟩) n c) n (R.flatMap pairCells)) :
  ((W.setCell ⟨g, i * 2, none⟩ (.int .i64 x.1)).setCell ⟨g, i * 2 + 1, none⟩ (.int .i64 x.2)).ownsRow B 54 2 (.slice (some ⟨g, 0, none⟩) n c) n ((R.set i x).flatMap pairCells) := by
 have h1 := ((h.stored (i * 2) (.int .i64 x.1)).1.stored (i * 2 + 1) (.int .i64 x.2)).1
 have e : R = R.take i ++ R[i] :: R.drop (i + 1) := by
  have h1 : R.take i ++ R.drop i = R := List.take_append_drop i R
  rw [List.drop_eq_getElem_cons hi] at h1
  exact h1.symm
 have hl : ((R.take i).flatMap pairCells).length = i * 2 := by rw [flat_len pairCells 2 (fun _ => rfl), List.length_take]; congr 1; omega
 have es : R.set i x = R.take i ++ x :: R.drop (i + 1) := by
  conv => lhs; rw [e]
  rw [List.set_append_right _ _ (by rw [List.length_take]; omega), List.length_take, Nat.min_eq_left (by omega), Nat.sub_self]
  rfl
 have ef : R.flatMap pairCells = (R.take i).flatMap pairCells ++ (pairCells R[i] ++ (R.drop (i + 1)).flatMap pairCells) := by
  conv => lhs; rw [e]
  rw [List.flatMap_append, List.flatMap_cons]
 rw [es, List.flatMap_append, List.flatMap_cons]
 rw [ef, set_app _ _ _ 0 _ (by omega), set_app _ _ _ 1 _ (by omega)] at h1
 exact h1
theorem pair_box (w : World) (p q : Int) (t : TypeId) : (w.alloc (.cells #[.int .i64 p, .int .i64 q] t)).cell? ⟨w.heap.size, 0, none⟩ = some (.int .i64 p) ∧ (w.alloc (.cells #[.int .i64 p, .int .i64 q] t)).cell? ⟨w.heap.size, 1, none⟩ = some (.int .i64 q) := by
 have h : (w.alloc (.cells #[.int .i64 p, .int .i64 q] t)).rowIs w.heap.size t 2 (fun i => if i = 0 then .int .i64 p else .int .i64 q) := ⟨_, (MapKept.heap_alloc w _).1, rfl, fun i hi => by
  match i, hi with
  | 0, _ => rfl
  | 1, _ => rfl⟩
 exact ⟨h.cell (i := 0) (by omega), h.cell (i := 1) (by omega)⟩
theorem pair_cells {w : World} {B g n c : Nat} {l : List (Int × Int)} (h : w.ownsRow B 54 2 (.slice (some ⟨g, 0, none⟩) n c) n (l.flatMap pairCells)) {i : Nat} {x : Int × Int} (hi : l[i]? = some x) (hn : i < n) :
  w.cell? ⟨g, i * 2, none⟩ = some (.int .i64 x.1) ∧ w.cell? ⟨g, i * 2 + 1, none⟩ = some (.int .i64 x.2) := by
 have e0 := flat_get pairCells 2 (fun _ => rfl) l i 0 x hi (by omega)
 have e1 := flat_get pairCells 2 (fun _ => rfl) l i 1 x hi (by omega)
 rw [Nat.add_zero] at e0
 exact ⟨(h.cellAt (i * 2) (by omega)).trans e0, (h.cellAt (i * 2 + 1) (by omega)).trans e1⟩
set_option maxHeartbeats 16000000 in
set_option maxRecDepth 100000 in
theorem pairsOfR_any (a : Option Addr) (n cap : Nat) (l : List B5) (w : World) (hn : n = l.length) (hz : n ≤ 1000000) (hcap : n ≤ cap) (hB : BoxL w a l) :
  Calls Tryz.prog 81 #[.slice a n cap] w fun e w' => (∃ u, e = .returned u ∧ w'.ownsRow w.heap.size 54 2 u (pairsG l).length ((pairsG l).flatMap pairCells)) ∧ RowKit.Below w.heap.size w w' := by
 obtain ⟨i79, hi79, hz79, hs79, hb79⟩ := info_parts info79
 have HAR := hid (areBoxes_any a n cap l w hn (by omega) hcap hB)
 have HB := hid hB
 have HN := hid hn
 clear hB hn
 go_enter Tryz.func81, Tryz.ntmps81
 cases hq : areB l
 ·rw [hq] at HAR
  have HP : Hid (pairsG l = []) := hid (by simp [pairsG, good_are, hq])
  go_wp2_with (go_at_call 85; refine HAR.out.mono ?_; rintro e w1 ⟨rfl, h1⟩; have H1 := hid h1; clear h1)
  go_ret
  exact ⟨⟨_, rfl, by rw [HP.out]; exact ⟨rfl, Or.inl ⟨rfl, rfl⟩⟩⟩, H1.out⟩
 ·rw [hq] at HAR
  have HP : Hid (pairsG l = sortP (pairsOf l)) := hid (by simp [pairsG, good_are, hq])
  clear hq
  go_wp2_with (go_at_call 85; refine HAR.out.mono ?_; rintro e w1 ⟨rfl, h1⟩; have H1 := hid h1; clear h1)
  go_loopw [3, 15] (fun v i wr => ∃ k : Nat, k ≤ n ∧ i = .int .i64 k ∧ Hid (wr.ownsRow w.heap.size 54 2 v (sortP (pairsOf (l.take k))).length ((sortP (pairsOf (l.take k))).flatMap pairCells)) ∧ Hid (RowKit.Below w.heap.size w wr)) (fun _ i _ => n - (intOf i).toNat)
  case atStart => exact ⟨0, Nat.zero_le _, rfl, hid (by simp [pairsOf, pairsFrom, sortP]; exact World.ownsRow_nil _ _ _ _), H1⟩
  case round =>
   obtain ⟨k, hk, rfl, hown, hbl⟩ := hrel
   by_cases hlt : k < n
   ·have hlt' : (k : Int) < (n : Int) := by omega
    have hkc : (k : Int) ≤ (cap : Int) := by omega
    obtain ⟨x, hx⟩ : ∃ x, l[k]? = some x := ⟨_, List.getElem?_eq_getElem (by have := HN.out; omega)⟩
    obtain ⟨bb, off, rfl, hbb, hc⟩ := (HB.out.below' hbl.out) (by have := HN.out; omega)
    obtain ⟨c0, c1, c2, c3, c4⟩ := hc k x hx
    have HX := hid hx
    clear hc hx
    go_wp2_with fail
    have HXB := hid (owns_box wr x wr.heap.size (Nat.le_refl _))
    have HVX : Hid (∀ z, u3.ownBlock = some z → z ≠ wr.heap.size) := hid (fun z hz => Nat.ne_of_lt (hown.out.lt z hz).2)
    have HO1 := hid (owns_below hown.out (bal (Below.refl _ wr) (.cells #[.int .i64 x.id, .int .i64 x.x1, .int .i64 x.y1, .int .i64 x.x2, .int .i64 x.y2] 36)))
    have HB1 := hid (bal hbl.out (.cells #[.int .i64 x.id, .int .i64 x.x1, .int .i64 x.y1, .int .i64 x.x2, .int .i64 x.y2] 36))
    have hzx : wr.heap.size < (wr.alloc (.cells #[.int .i64 x.id, .int .i64 x.x1, .int .i64 x.y1, .int .i64 x.x2, .int .i64 x.y2] 36)).heap.size := by simp
    have hwx := hbl.out.size
    generalize wr.heap.size = xb at HXB hzx hwx HVX ⊢
    generalize wr.alloc (.cells #[.int .i64 x.id, .int .i64 x.x1, .int .i64 x.y1, .int .i64 x.x2, .int .i64 x.y2] 36) = W1 at HXB HO1 HB1 hzx ⊢
    clear c0 c1 c2 c3 c4 hown hbl
    go_loopw [3, 24] (fun v i ws => ∃ j : Nat, j ≤ k ∧ i = .int .i64 j ∧ Hid (ws.ownsRow w.heap.size 54 2 v (sortP (pairsOf (l.take k) ++ sw (l.take j) x)).length ((sortP (pairsOf (l.take k) ++ sw (l.take j) x)).flatMap pairCells)) ∧ Hid (ws.ownsRow xb 36 5 (.slice (some ⟨xb, 0, none⟩) 1 1) 1 (boxCells x)) ∧ Hid (RowKit.Below w.heap.size w ws) ∧ xb < ws.heap.size ∧ Hid (∀ z, v.ownBlock = some z → z ≠ xb)) (fun _ i _ => k - (intOf i).toNat)
    case atStart => exact ⟨0, Nat.zero_le _, rfl, by simp only [List.take_zero, sw, List.filter_nil, List.map_nil, List.append_nil]; exact HO1, HXB, HB1, hzx, HVX⟩
    case round =>
     obtain ⟨j, hj, rfl, hown, hxb, hbl, hzr, HVX⟩ := hrel
     by_cases hjk : j < k
     ·have hjk' : (j : Int) < (k : Int) := by omega
      obtain ⟨y, hy⟩ : ∃ x, l[j]? = some x := ⟨_, List.getElem?_eq_getElem (by have := HN.out; omega)⟩
      obtain ⟨b', off', e', hbl', hc'⟩ := (HB.out.below' hbl.out) (by have := HN.out; omega)
      simp only [Option.some.injEq, Addr.mk.injEq] at e'
      obtain ⟨rfl, rfl, -⟩ := e'
      obtain ⟨d0, d1, d2, d3, d4⟩ := hc' j y hy
      obtain ⟨b0, b1, b2, b3, b4⟩ := box_one hxb.out
      have HY0 := hid hy
      have HXA := hid (bal (Below.refl _ wr) (.cells #[.int .i64 y.id, .int .i64 y.x1, .int .i64 y.y1, .int .i64 y.x2, .int .i64 y.y2] 36))
      have HMT := hid (meetBoxes_any x y (wr.alloc (.cells #[.int .i64 y.id, .int .i64 y.x1, .int .i64 y.y1, .int .i64 y.x2, .int .i64 y.y2] 36)))
      have HYB := hid (owns_box wr y wr.heap.size (Nat.le_refl _))
      clear hc' hy
      go_wp2_with fail
      cases hmt : meetB x y
      ·rw [hmt] at HMT
       have HQ := hid (sw_met (b := x) HY0.out)
       rw [meetB_comm y x, hmt] at HQ
       clear hmt
       refine HMT.out.mono ?_
       rintro e w3 ⟨rfl, h3⟩
       have H3 := hid (bcall HXA.out h3)
       clear h3
       go_wp2_with fail
       go_roundw
       case rel => exact ⟨j + 1, by omega, by go_num, by rw [HQ.out]; simp only [if_false, List.append_nil, Bool.false_eq_true]; exact hid (owns_below hown.out H3.out), hid (owns_below hxb.out H3.out), hid (bcall hbl.out H3.out), by have := H3.out.size; omega, HVX⟩
       case measure => simp [intOf]; omega
      ·rw [hmt] at HMT
       have HQ := hid (sw_met (b := x) HY0.out)
       rw [meetB_comm y x, hmt] at HQ
       simp only [if_true] at HQ
       clear hmt
       obtain ⟨p1, hp1⟩ : ∃ p, min x.id y.id = p := ⟨_, rfl⟩
       obtain ⟨p2, hp2⟩ : ∃ p, max x.id y.id = p := ⟨_, rfl⟩
       have HPR : Hid (pr y x = (p1, p2)) := hid (by rw [← hp1, ← hp2]; unfold pr; ext <;> simp only <;> omega)
       rw [HPR.out] at HQ
       refine HMT.out.mono ?_
       rintro e w3 ⟨rfl, h3⟩
       have H3 := hid (bcall HXA.out h3)
       obtain ⟨f0, -, -, -, -⟩ := box_one (owns_below (owns_below hxb.out HXA.out) h3)
       obtain ⟨g0, -, -, -, -⟩ := box_one (owns_below HYB.out h3)
       have hz3 := H3.out.size
       have hz3' : wr.heap.size < w3.heap.size := by have := h3.size; simp at this; omega
       clear h3 b0 b1 b2 b3 b4 d0 d1 d2 d3 d4
       obtain ⟨out, HSO⟩ : ∃ o, Hid (o = sortP (pairsOf (l.take k) ++ sw (l.take j) x)) := ⟨_, rfl⟩
       rw [← HSO.out] at hown
       obtain ⟨m, HM⟩ : ∃ m, Hid (m = out.length) := ⟨_, rfl⟩
       rw [← HM.out] at hown
       have hml : m ≤ 1000001000000 := by
        have h1 := HM.out
        rw [HSO.out, sortP_len, List.length_append] at h1
        have h2 := pairsOf_len (l.take k)
        have h3 := sw_len (l.take j) x
        rw [List.length_take] at h2 h3
        have h4 : min k l.length * min k l.length ≤ 1000000 * 1000000 := Nat.mul_le_mul (by omega) (by omega)
        omega
       obtain ⟨av, cv, rfl, -⟩ := owns_slice hown.out
       have HO4 := hid (owns_below (owns_below (owns_below hown.out H3.out) (bal (Below.refl _ _) (.cells #[.int .i64 p1, .int .i64 p2] 54))) (bal (Below.refl _ _) (.cells #[.int .i64 p1, .int .i64 p2] 54)))
       have HPB := hid (pair_box w3 p1 p2 54)
       go_wp2_with (at_builtin; refine wpList_append_own_at _ rfl _ _ 29 rfl w.heap.size 54 i79 (.agg #[.int .i64 0, .int .i64 0]) 2 16 Tryz.underlying29 hi79 hz79 hs79 hb79 rfl (by decide) _ _ _ rfl HO4.out ⟨w3.heap.size + 1, 0, none⟩ 1 1 [.int .i64 p1, .int .i64 p2] rfl ?c1 ?c2 ?c3 ?c4 ?c5 ?c6 ?_)
       case c1 => rfl
       case c2 =>
        intro i u hi
        have HPB2 := pair_box (w3.alloc (.cells #[.int .i64 p1, .int .i64 p2] 54)) p1 p2 54
        rw [World.size_alloc] at HPB2
        match i, hi with
        | 0, hi => cases hi; rw [Addr.add_lit]; exact HPB2.1
        | 1, hi => cases hi; rw [Addr.add_lit]; exact HPB2.2
        | i + 2, hi => simp at hi
       case c3 => intro u hu; simp at hu; rcases hu with rfl | rfl <;> rfl
       case c4 => unfold maxLen; omega
       case c5 => omega
       case c6 => have := hbl.out.size; simp; omega
       intro v' w7 hown7 hg7 _ hat7
       obtain ⟨g, c', rfl⟩ := own_some2 hown7 (by omega)
       have hgl := hown7.lt g rfl
       have hvb : ∀ z, (Value.slice av m cv).ownBlock = some z → w.heap.size ≤ z ∧ z < wr.heap.size := fun z hz => hown.out.lt z hz
       have hgp : g ≠ w3.heap.size := by
        rcases hat7 with h7 | h7
        ·have := (hvb g (h7.symm.trans rfl)).2; omega
        ·have e7 := Option.some.inj (show some g = _ from h7); omega
       have hgx : g ≠ xb := by
        rcases hat7 with h7 | h7
        ·exact HVX.out g (h7.symm.trans rfl)
        ·have e7 := Option.some.inj (show some g = _ from h7); omega
       have HX7 := hid (owns_kept (owns_below (owns_below (owns_below hxb.out H3.out) (bal (Below.refl _ _) (.cells #[.int .i64 p1, .int .i64 p2] 54))) (bal (Below.refl _ _) (.cells #[.int .i64 p1, .int .i64 p2] 54))) hg7 (fun z hz e => by have ez : xb = z := Option.some.inj hz; exact HVX.out z e ez.symm))
       have hpl3 : w3.heap.size < ((w3.alloc (.cells #[.int .i64 p1, .int .i64 p2] 54)).alloc (.cells #[.int .i64 p1, .int .i64 p2] 54)).heap.size := by simp; omega
       have hblk := hg7.block w3.heap.size hpl3 (fun e => by have := (hvb _ e.symm).2; omega)
       have HPC : Hid (w7.cell? ⟨w3.heap.size, 0, none⟩ = some (.int .i64 p1) ∧ w7.cell? ⟨w3.heap.size, 1, none⟩ = some (.int .i64 p2)) := hid ⟨(World.cell?_of_block (a := ⟨w3.heap.size, 0, none⟩) hblk).trans (((bal (Below.refl _ (w3.alloc (.cells #[.int .i64 p1, .int .i64 p2] 54))) (.cells #[.int .i64 p1, .int .i64 p2] 54)).cell (p := ⟨w3.heap.size, 0, none⟩) (by simp)).trans HPB.out.1), (World.cell?_of_block (a := ⟨w3.heap.size, 1, none⟩) hblk).trans (((bal (Below.refl _ (w3.alloc (.cells #[.int .i64 p1, .int .i64 p2] 54))) (.cells #[.int .i64 p1, .int .i64 p2] 54)).cell (p := ⟨w3.heap.size, 1, none⟩) (by simp)).trans HPB.out.2)⟩
       have HB7 : Hid (RowKit.Below w.heap.size w w7) := hid ((bal (bal (bcall hbl.out H3.out) (.cells #[.int .i64 p1, .int .i64 p2] 54)) (.cells #[.int .i64 p1, .int .i64 p2] 54)).grown hg7 (by have := hbl.out.size; simp; omega) (fun z e => (hvb z e).1))
       have hz7 := hg7.size
       simp at hz7
       have hfl : out.flatMap pairCells ++ [Value.int .i64 p1, .int .i64 p2] = (out ++ [(p1, p2)]).flatMap pairCells := by simp [pairCells]
       rw [hfl] at hown7
       have HO7 := hid hown7
       have hgw := hgl.1
       clear hown7 hg7 hat7 HO4 hblk hpl3 hfl f0 g0 HPB HYB HMT
       generalize w3.heap.size = pb at HPC hgp hz7 hz3 hz3' ⊢
       have hpb7 : pb < w7.heap.size := by omega
       go_wp2_with fail
       go_loopw [9] (fun i ws => ∃ (q : Nat) (h : Int × Int), q ≤ m ∧ i = .int .i64 q ∧ Hid (ws.ownsRow w.heap.size 54 2 (.slice (some ⟨g, 0, none⟩) (m + 1) c') (m + 1) ((out.take q ++ h :: out.drop q).flatMap pairCells)) ∧ Hid (∀ y ∈ out.drop q, ¬ leP y (p1, p2)) ∧ Hid (w7.grownBy ws (some g))) (fun i _ => (intOf i).toNat)
       case atStart => exact ⟨m, (p1, p2), Nat.le_refl _, rfl, by rw [List.take_of_length_le (by have := HM.out; omega), List.drop_of_length_le (by have := HM.out; omega)]; exact HO7, hid (fun y hy => by rw [List.drop_of_length_le (by have := HM.out; omega)] at hy; cases hy), hid ⟨rfl, rfl, rfl, Nat.le_refl _, fun _ _ _ => rfl⟩⟩
       case round =>
        obtain ⟨q, h, hqm, rfl, HO, HGT, HGR⟩ := hrel
        have hpblk := HGR.out.block pb hpb7 (fun e => hgp (Option.some.inj e).symm)
        have r0 := (World.cell?_of_block (a := ⟨pb, 0, none⟩) hpblk).trans HPC.out.1
        have r1 := (World.cell?_of_block (a := ⟨pb, 1, none⟩) hpblk).trans HPC.out.2
        have hgz : g < wr.heap.size := by have := HGR.out.size; omega
        have hpz : pb < wr.heap.size := by have := HGR.out.size; omega
        obtain ⟨h1, h2⟩ := h
        obtain ⟨cq0, cq1⟩ := pair_cells HO.out (i := q) (x := (h1, h2)) (by rw [List.getElem?_append_right (by rw [List.length_take]; omega), List.length_take, Nat.min_eq_left (by have := HM.out; omega), Nat.sub_self]; rfl) (by omega)
        have fq0 : wr.frozen? ⟨g, q * 2, none⟩ = false := HO.out.frozenAt _
        have fq1 : wr.frozen? ⟨g, q * 2 + 1, none⟩ = false := HO.out.frozenAt _
        simp only at cq0 cq1
        clear hpblk
        cases q with
        | zero =>
         simp only [Nat.zero_mul, Nat.zero_add] at cq0 cq1 fq0 fq1
         have HINS := hid (insP_here (x := (p1, p2)) (k := 0) HSO.out (Or.inl rfl) HGT.out)
         go_wp2_with fail
         go_region
         all_goals
          go_wp2_with fail
          go_roundw
          case rel =>
           have hst := pair_write (p1, p2) (i := 0) (by rw [List.length_append, List.length_take, List.length_cons, List.length_drop]; have := HM.out; omega) HO.out
           rw [hole_endP (by have := HM.out; omega), HINS.out] at hst
           simp only [Nat.zero_mul, Nat.zero_add] at hst
           have hg2 : wr.grownBy ((wr.setCell ⟨g, 0, none⟩ (.int .i64 p1)).setCell ⟨g, 1, none⟩ (.int .i64 p2)) (some g) := (grown_setS _ g _ _).trans (grown_setS _ g _ _)
           have hX2 := owns_kept (owns_kept HX7.out HGR.out (fun z hz e => by have ez : xb = z := Option.some.inj hz; have eg := Option.some.inj e; omega)) hg2 (fun z hz e => by have ez : xb = z := Option.some.inj hz; have eg := Option.some.inj e; omega)
           have hB2 := below_g (below_g HB7.out HGR.out (by omega)) hg2 (by omega)
           have hs2 := hg2.size
           generalize ((wr.setCell ⟨g, 0, none⟩ (.int .i64 p1)).setCell ⟨g, 1, none⟩ (.int .i64 p2)) = X at hst hX2 hB2 hs2 ⊢
           refine ⟨j + 1, by omega, by go_num, ?_, ?_, ?_, ?_, hid (fun z hz => by have ez : g = z := Option.some.inj hz; omega)⟩
           ·rw [HQ.out, ← List.append_assoc]
            have e : m + 1 = (sortP (pairsOf (l.take k) ++ sw (l.take j) x ++ [(p1, p2)])).length := by rw [sortP_len, List.length_append]; have h1 := HM.out; rw [HSO.out, sortP_len] at h1; simp only [List.length_append, List.length_cons, List.length_nil] at h1 ⊢; omega
            rw [← e]
            exact hid (owns_below hst (Below.drew (Below.refl _ _)))
           ·exact hid (owns_below hX2 (Below.drew (Below.refl _ _)))
           ·exact hid (Below.drew hB2)
           ·have := HGR.out.size; simp; omega
          case measure => simp [intOf]; omega
        | succ p =>
         obtain ⟨⟨y1, y2⟩, hy⟩ : ∃ y, out[p]? = some y := ⟨_, List.getElem?_eq_getElem (by have := HM.out; omega)⟩
         obtain ⟨cp0, cp1⟩ := pair_cells HO.out (i := p) (x := (y1, y2)) (by rw [List.getElem?_append_left (by rw [List.length_take]; have := HM.out; omega), List.getElem?_take_of_lt (by omega), hy]) (by omega)
         simp only at cp0 cp1
         have hw : wrap64 (((p + 1 : Nat) : Int) - 1) = (p : Int) := by unfold wrap64; omega
         have hw' : IntKind.i64.wrap (((p + 1 : Nat) : Int) - 1) = (p : Int) := by rw [IntKind.wrap_i64]; omega
         have hpm : (p : Int) < ((m + 1 : Nat) : Int) := by omega
         have HY := hid hy
         clear hy
         by_cases a1 : y1 > p1
         case pos =>
          go_wp2_with fail
          go_region
          all_goals
           go_wp2_with fail
           go_roundw
           case rel =>
            have hst := pair_write (y1, y2) (i := p + 1) (by rw [List.length_append, List.length_take, List.length_cons, List.length_drop]; have := HM.out; omega) HO.out
            rw [hole_stepP HY.out] at hst
            have hg2 : wr.grownBy ((wr.setCell ⟨g, (p + 1) * 2, none⟩ (.int .i64 y1)).setCell ⟨g, (p + 1) * 2 + 1, none⟩ (.int .i64 y2)) (some g) := (grown_setS _ g _ _).trans (grown_setS _ g _ _)
            generalize ((wr.setCell ⟨g, (p + 1) * 2, none⟩ (.int .i64 y1)).setCell ⟨g, (p + 1) * 2 + 1, none⟩ (.int .i64 y2)) = X at hst hg2 ⊢
            refine ⟨p, (y1, y2), by omega, by go_num, hid (owns_below hst (Below.drew (Below.refl _ _))), hid (fun y' hy' => ?_), hid (grown_drewS (HGR.out.trans hg2))⟩
            have hpl := (List.getElem?_eq_some_iff.1 HY.out)
            rw [List.drop_eq_getElem_cons hpl.1, hpl.2] at hy'
            rcases List.mem_cons.1 hy' with rfl | hy'
            ·unfold leP; simp only; omega
            ·exact HGT.out y' hy'
           case measure => simp [intOf]
         case neg =>
         by_cases a2 : y1 = p1
         case neg =>
          have b2 : (y1 == p1) = false := by simpa using a2
          have c1 : decide (y1 > p1) = false := by simp; omega
          have c2 : decide (p1 < y1) = false := by simp; omega
          have HINS := hid (insP_here (x := (p1, p2)) (k := p + 1) HSO.out (Or.inr ⟨(y1, y2), HY.out, by unfold leP; simp only; omega⟩) HGT.out)
          go_wp2_with fail
          go_region
          all_goals
           go_wp2_with fail
           go_roundw
           case rel =>
            have hst := pair_write (p1, p2) (i := p + 1) (by rw [List.length_append, List.length_take, List.length_cons, List.length_drop]; have := HM.out; omega) HO.out
            rw [hole_endP (by have := HM.out; omega), HINS.out] at hst
            skip
            have hg2 : wr.grownBy ((wr.setCell ⟨g, (p + 1) * 2, none⟩ (.int .i64 p1)).setCell ⟨g, (p + 1) * 2 + 1, none⟩ (.int .i64 p2)) (some g) := (grown_setS _ g _ _).trans (grown_setS _ g _ _)
            have hX2 := owns_kept (owns_kept HX7.out HGR.out (fun z hz e => by have ez : xb = z := Option.some.inj hz; have eg := Option.some.inj e; omega)) hg2 (fun z hz e => by have ez : xb = z := Option.some.inj hz; have eg := Option.some.inj e; omega)
            have hB2 := below_g (below_g HB7.out HGR.out (by omega)) hg2 (by omega)
            have hs2 := hg2.size
            generalize ((wr.setCell ⟨g, (p + 1) * 2, none⟩ (.int .i64 p1)).setCell ⟨g, (p + 1) * 2 + 1, none⟩ (.int .i64 p2)) = X at hst hX2 hB2 hs2 ⊢
            refine ⟨j + 1, by omega, by go_num, ?_, ?_, ?_, ?_, hid (fun z hz => by have ez : g = z := Option.some.inj hz; omega)⟩
            ·rw [HQ.out, ← List.append_assoc]
             have e : m + 1 = (sortP (pairsOf (l.take k) ++ sw (l.take j) x ++ [(p1, p2)])).length := by rw [sortP_len, List.length_append]; have h1 := HM.out; rw [HSO.out, sortP_len] at h1; simp only [List.length_append, List.length_cons, List.length_nil] at h1 ⊢; omega
             rw [← e]
             exact hid (owns_below hst (Below.drew (Below.refl _ _)))
            ·exact hid (owns_below hX2 (Below.drew (Below.refl _ _)))
            ·exact hid (Below.drew hB2)
            ·have := HGR.out.size; simp; omega
           case measure => simp [intOf]; omega
         case pos =>
         have a2' := a2.symm
         subst a2'
         by_cases a3 : y2 > p2
         case pos =>
          go_wp2_with fail
          go_region
          all_goals
           go_wp2_with fail
           go_roundw
           case rel =>
            have hst := pair_write (p1, y2) (i := p + 1) (by rw [List.length_append, List.length_take, List.length_cons, List.length_drop]; have := HM.out; omega) HO.out
            rw [hole_stepP HY.out] at hst
            have hg2 : wr.grownBy ((wr.setCell ⟨g, (p + 1) * 2, none⟩ (.int .i64 p1)).setCell ⟨g, (p + 1) * 2 + 1, none⟩ (.int .i64 y2)) (some g) := (grown_setS _ g _ _).trans (grown_setS _ g _ _)
            generalize ((wr.setCell ⟨g, (p + 1) * 2, none⟩ (.int .i64 p1)).setCell ⟨g, (p + 1) * 2 + 1, none⟩ (.int .i64 y2)) = X at hst hg2 ⊢
            refine ⟨p, (p1, y2), by omega, by go_num, hid (owns_below hst (Below.drew (Below.refl _ _))), hid (fun y' hy' => ?_), hid (grown_drewS (HGR.out.trans hg2))⟩
            have hpl := (List.getElem?_eq_some_iff.1 HY.out)
            rw [List.drop_eq_getElem_cons hpl.1, hpl.2] at hy'
            rcases List.mem_cons.1 hy' with rfl | hy'
            ·unfold leP; simp only; omega
            ·exact HGT.out y' hy'
           case measure => simp [intOf]
         case neg =>
          have HINS := hid (insP_here (x := (p1, p2)) (k := p + 1) HSO.out (Or.inr ⟨(p1, y2), HY.out, Or.inr ⟨rfl, Int.not_lt.1 a3⟩⟩) HGT.out)
          go_wp2_with fail
          go_region
          all_goals
           go_wp2_with fail
           go_roundw
           case rel =>
            have hst := pair_write (p1, p2) (i := p + 1) (by rw [List.length_append, List.length_take, List.length_cons, List.length_drop]; have := HM.out; omega) HO.out
            rw [hole_endP (by have := HM.out; omega), HINS.out] at hst
            skip
            have hg2 : wr.grownBy ((wr.setCell ⟨g, (p + 1) * 2, none⟩ (.int .i64 p1)).setCell ⟨g, (p + 1) * 2 + 1, none⟩ (.int .i64 p2)) (some g) := (grown_setS _ g _ _).trans (grown_setS _ g _ _)
            have hX2 := owns_kept (owns_kept HX7.out HGR.out (fun z hz e => by have ez : xb = z := Option.some.inj hz; have eg := Option.some.inj e; omega)) hg2 (fun z hz e => by have ez : xb = z := Option.some.inj hz; have eg := Option.some.inj e; omega)
            have hB2 := below_g (below_g HB7.out HGR.out (by omega)) hg2 (by omega)
            have hs2 := hg2.size
            generalize ((wr.setCell ⟨g, (p + 1) * 2, none⟩ (.int .i64 p1)).setCell ⟨g, (p + 1) * 2 + 1, none⟩ (.int .i64 p2)) = X at hst hX2 hB2 hs2 ⊢
            refine ⟨j + 1, by omega, by go_num, ?_, ?_, ?_, ?_, hid (fun z hz => by have ez : g = z := Option.some.inj hz; omega)⟩
            ·rw [HQ.out, ← List.append_assoc]
             have e : m + 1 = (sortP (pairsOf (l.take k) ++ sw (l.take j) x ++ [(p1, p2)])).length := by rw [sortP_len, List.length_append]; have h1 := HM.out; rw [HSO.out, sortP_len] at h1; simp only [List.length_append, List.length_cons, List.length_nil] at h1 ⊢; omega
             rw [← e]
             exact hid (owns_below hst (Below.drew (Below.refl _ _)))
            ·exact hid (owns_below hX2 (Below.drew (Below.refl _ _)))
            ·exact hid (Below.drew hB2)
            ·have := HGR.out.size; simp; omega
           case measure => simp [intOf]; omega
     ·have hje : j = k := by omega
      subst hje
      have HNX := hid (pairs_next HX.out)
      go_wp2_with fail
      go_roundw
      case rel => exact ⟨j + 1, by omega, by go_num, by rw [HNX.out]; exact hown, hbl⟩
      case measure => simp [intOf]; omega
   ·have hkn : k = n := by omega
    subst hkn
    have HE : Hid (l.take k = l) := hid (List.take_of_length_le (by have := HN.out; omega))
    go_wp2_with fail
    go_ret
    refine ⟨⟨_, rfl, ?_⟩, hbl.out⟩
    rw [HP.out]
    have h1 := hown.out
    rw [HE.out] at h1
    exact h1
end Sw
end Go.Proofs.YtckkkdldljhehacGreat
