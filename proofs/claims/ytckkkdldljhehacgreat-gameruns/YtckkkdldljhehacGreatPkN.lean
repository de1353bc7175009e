/- Part of the proofs of GamePlays and GameRuns (package ninepinslaw): contracts of the functions that they call. -/
import Derived.Maps.AppendAt
import Derived.Test.YtckkkdldljhehacGreatPkL
namespace Go.Proofs.YtckkkdldljhehacGreat
namespace Sw
open Go.ChangeShapes Go.WideShapes Go.ChangeAt Go.RowKit Go.Sort Go.Shelf Go.Lib
set_option maxHeartbeats 1000000 in
theorem meetBoxes_any (a b : B5) (w : World) :
  Calls Tryz.prog 104 #[.agg #[.int .i64 a.id, .int .i64 a.x1, .int .i64 a.y1, .int .i64 a.x2, .int .i64 a.y2], .agg #[.int .i64 b.id, .int .i64 b.x1, .int .i64 b.y1, .int .i64 b.x2, .int .i64 b.y2]] w fun e w' => e = .returned (.bool (meetB a b)) ∧ RowKit.Below w.heap.size w w' := by
 have hw : RowKit.Below w.heap.size w ((w.alloc (.cells #[.int .i64 a.id, .int .i64 a.x1, .int .i64 a.y1, .int .i64 a.x2, .int .i64 a.y2] 36)).alloc (.cells #[.int .i64 b.id, .int .i64 b.x1, .int .i64 b.y1, .int .i64 b.x2, .int .i64 b.y2] 36)) := bal (bal (Below.refl _ w) _) _
 have HB := hid hw
 clear hw
 by_cases c1 : a.x2 ≤ b.x1
 ·have HM : Hid (meetB a b = false) := hid (by simp [meetB]; omega)
  go_enter Tryz.func104, Tryz.ntmps104
  go_wp2_with fail
  go_ret
  exact ⟨by rw [HM.out]; first | rfl | (simp; omega) | simp_all, HB.out⟩
 by_cases c2 : b.x2 ≤ a.x1
 ·have HM : Hid (meetB a b = false) := hid (by simp [meetB]; omega)
  go_enter Tryz.func104, Tryz.ntmps104
  go_wp2_with fail
  go_ret
  exact ⟨by rw [HM.out]; first | rfl | (simp; omega) | simp_all, HB.out⟩
 by_cases c3 : a.y2 ≤ b.y1
 ·have HM : Hid (meetB a b = false) := hid (by simp [meetB]; omega)
  go_enter Tryz.func104, Tryz.ntmps104
  go_wp2_with fail
  go_ret
  exact ⟨by rw [HM.out]; first | rfl | (simp; omega) | simp_all, HB.out⟩
 by_cases c4 : b.y2 ≤ a.y1
 ·have HM : Hid (meetB a b = false) := hid (by simp [meetB]; omega)
  go_enter Tryz.func104, Tryz.ntmps104
  go_wp2_with fail
  go_ret
  exact ⟨by rw [HM.out]; first | rfl | (simp; omega) | simp_all, HB.out⟩
 ·have HM : Hid (meetB a b = true) := hid (by simp [meetB]; omega)
  go_enter Tryz.func104, Tryz.ntmps104
  go_wp2_with fail
  go_ret
  exact ⟨by rw [HM.out]; first | rfl | (simp; omega) | simp_all, HB.out⟩
def areB (l : List B5) : Bool := l.all okB && decide (l.map (·.id)).Nodup
theorem compact_len {zs : List Int} (hs : zs.Pairwise (fun x y => x ≤ y)) : (Lib.compact zs).length = zs.length ↔ zs.Nodup := by
 unfold Lib.compact compactUpTo
 rw [List.length_map]
 constructor
 ·intro h
  have h1 : ((List.range zs.length).filter (keeps zs.toArray)).length = (List.range zs.length).length := by rw [h, List.length_range]
  rw [List.length_filter_eq_length_iff] at h1
  refine List.pairwise_iff_getElem.2 (fun i j hi hj hij e => ?_)
  have hk := h1 j (List.mem_range.2 hj)
  unfold keeps at hk
  rw [decide_eq_true_eq] at hk
  rcases hk with hk | hk
  ·omega
  ·apply hk
   have e1 : zs.toArray[j]! = zs[j] := by rw [getElem!_pos _ _ (by simpa using hj)]; simp
   have e2 : zs.toArray[j - 1]! = zs[j - 1]'(by omega) := by rw [getElem!_pos _ _ (by simp; omega)]; simp
   rw [e1, e2]
   have h3 : zs[j - 1]'(by omega) ≤ zs[j] := List.pairwise_iff_getElem.1 hs (j - 1) j (by omega) hj (by omega)
   have h4 : zs[i] ≤ zs[j - 1]'(by omega) := by
    rcases Nat.lt_or_ge i (j - 1) with h5 | h5
    ·exact List.pairwise_iff_getElem.1 hs i (j - 1) hi (by omega) h5
    ·have h6 : i = j - 1 := by omega
     subst h6
     exact Int.le_refl _
   omega
 ·intro hn
  rw [List.filter_eq_self.2 (fun j hj => ?_), List.length_range]
  have hj := List.mem_range.1 hj
  unfold keeps
  rw [decide_eq_true_eq]
  rcases Nat.eq_zero_or_pos j with h0 | h0
  ·exact Or.inl h0
  ·refine Or.inr (fun e => ?_)
   have e1 : zs.toArray[j]! = zs[j] := by rw [getElem!_pos _ _ (by simpa using hj)]; simp
   have e2 : zs.toArray[j - 1]! = zs[j - 1]'(by omega) := by rw [getElem!_pos _ _ (by simp; omega)]; simp
   rw [e1, e2] at e
   exact List.pairwise_iff_getElem.1 hn (j - 1) j (by omega) hj (by omega) e.symm
theorem sortI_sorted (l : List Int) : (sortI l).Pairwise (fun x y => x ≤ y) := by
 unfold sortI
 have h := List.pairwise_mergeSort (le := fun x y : Int => decide (x ≤ y)) (fun a b c h1 h2 => by simp at h1 h2 ⊢; omega) (fun a b => by simp; omega) l
 exact h.imp (fun h => by simpa using h)
theorem good_are (l : List B5) : goodB l = areB l := by
 unfold goodB areB oneB
 have e : (Lib.compact (sortI (l.map (·.id)))).length = l.length ↔ (l.map (·.id)).Nodup := by
  have h1 := compact_len (sortI_sorted (l.map (·.id)))
  have h2 : (sortI (l.map (·.id))).length = l.length := by unfold sortI; rw [List.length_mergeSort, List.length_map]
  rw [h2] at h1
  rw [h1]
  exact (List.mergeSort_perm _ _).nodup_iff
 rw [decide_eq_decide.2 e]
end Sw
namespace Sw
open Go.ChangeShapes Go.WideShapes Go.ChangeAt Go.RowKit Go.Sort Go.Shelf Go.Lib
theorem BoxL.below' {w w' : World} {a : Option Addr} {l : List B5} (h : BoxL w a l) (hb : RowKit.Below w.heap.size w w') : BoxL w' a l := fun hp => by
 obtain ⟨b, off, e, hl, hc⟩ := h hp
 refine ⟨b, off, e, Nat.lt_of_lt_of_le hl hb.size, fun i x hx => ?_⟩
 have k := fun o => hb.cell (p := ⟨b, o, none⟩) hl
 simp only [k]
 exact hc i x hx
theorem bxCells (w : World) (x : B5) : (w.alloc (.cells #[.int .i64 x.id, .int .i64 x.x1, .int .i64 x.y1, .int .i64 x.x2, .int .i64 x.y2] 36)).cell? ⟨w.heap.size, 0, none⟩ = some (.int .i64 x.id) ∧ w.heap.size < (w.alloc (.cells #[.int .i64 x.id, .int .i64 x.x1, .int .i64 x.y1, .int .i64 x.x2, .int .i64 x.y2] 36)).heap.size := by
 constructor
 ·have h := (owns_box w x w.heap.size (Nat.le_refl _)).cellAt 0 (by omega)
  exact h
 ·simp
theorem are_not {l : List B5} {k : Nat} {x : B5} (hx : l[k]? = some x) (h : okB x = false) : areB l = false := by
 have : l.all okB = false := List.all_eq_false.2 ⟨x, List.mem_of_getElem? hx, by simp [h]⟩
 simp [areB, this]
theorem are_twice {l : List B5} {k q : Nat} {x y : B5} (hx : l[k]? = some x) (hq : q < k) (hy : l[q]? = some y) (e : y.id = x.id) : areB l = false := by
 have hn : ¬ (l.map (·.id)).Nodup := fun hn => by
  have hk := (List.getElem?_eq_some_iff.1 hx)
  have hq' := (List.getElem?_eq_some_iff.1 hy)
  have := List.pairwise_iff_getElem.1 hn q k (by simpa using hq'.1) (by simpa using hk.1) hq
  simp only [List.getElem_map, hk.2, hq'.2] at this
  exact this e
 simp [areB, hn]
theorem snoc_ids {l : List B5} {k : Nat} {x : B5} (hx : l[k]? = some x) (h1 : (l.take k).all okB = true) (h2 : ((l.take k).map (·.id)).Nodup) (ho : okB x = true) (hn : ∀ q y, q < k → l[q]? = some y → y.id ≠ x.id) : (l.take (k + 1)).all okB = true ∧ ((l.take (k + 1)).map (·.id)).Nodup := by
 have hlt := (List.getElem?_eq_some_iff.1 hx).1
 rw [List.take_succ_eq_append_getElem hlt, (List.getElem?_eq_some_iff.1 hx).2]
 refine ⟨by simp only [List.all_append, h1, List.all_cons, ho, List.all_nil, Bool.and_self], ?_⟩
 rw [List.map_append, List.nodup_append]
 refine ⟨h2, by simp, fun a ha b hb e => ?_⟩
 simp at hb
 subst hb
 obtain ⟨y, hy, rfl⟩ := List.mem_map.1 ha
 obtain ⟨q, hq⟩ := List.getElem?_of_mem hy
 have hql : q < k := by have := (List.getElem?_eq_some_iff.1 hq).1; rw [List.length_take] at this; omega
 rw [List.getElem?_take_of_lt hql] at hq
 exact hn q y hql hq e
set_option maxHeartbeats 4000000 in
set_option maxRecDepth 100000 in
theorem areBoxes_any (a : Option Addr) (n cap : Nat) (l : List B5) (w : World) (hn : n = l.length) (hz : n ≤ 1000000000) (hcap : n ≤ cap) (hB : BoxL w a l) :
  Calls Tryz.prog 85 #[.slice a n cap] w fun e w' => e = .returned (.bool (areB l)) ∧ RowKit.Below w.heap.size w w' := by
 have HB := hid hB
 have HN := hid hn
 obtain ⟨bb, HBB⟩ : ∃ q, Hid (q = areB l) := ⟨_, rfl⟩
 rw [← HBB.out]
 clear hB hn
 go_enter Tryz.func85, Tryz.ntmps85
 go_wp2_with fail
 go_loopw [9] (fun i wr => ∃ k : Nat, k ≤ n ∧ i = .int .i64 k ∧ Hid ((l.take k).all okB = true ∧ ((l.take k).map (·.id)).Nodup) ∧ Hid (RowKit.Below w.heap.size w wr)) (fun i _ => n - (intOf i).toNat)
 case atStart => exact ⟨0, Nat.zero_le _, rfl, hid ⟨by simp, by simp⟩, hid (Below.refl _ _)⟩
 case round =>
  obtain ⟨k, hk, rfl, HOK, HBR⟩ := hrel
  by_cases hlt : k < n
  ·have hlt' : (k : Int) < (n : Int) := by omega
   obtain ⟨x, hx⟩ : ∃ x, l[k]? = some x := ⟨_, List.getElem?_eq_getElem (by have := HN.out; omega)⟩
   obtain ⟨b, off, rfl, hbl, hc⟩ := (HB.out.below' HBR.out) (by have := HN.out; omega)
   obtain ⟨c0, c1, c2, c3, c4⟩ := hc k x hx
   have HX := hid hx
   clear hc hx
   by_cases e1 : x.x2 ≤ x.x1
   ·have HF : Hid (areB l = false) := hid (are_not HX.out (by simp [okB]; omega))
    go_wp2_with fail
    go_ret
    exact ⟨by rw [HBB.out, HF.out]; first | rfl | simp, bal HBR.out _⟩
   by_cases e2 : x.y2 ≤ x.y1
   ·have HF : Hid (areB l = false) := hid (are_not HX.out (by simp [okB]; omega))
    go_wp2_with fail
    go_ret
    exact ⟨by rw [HBB.out, HF.out]; first | rfl | simp, bal HBR.out _⟩
   have HO : Hid (okB x = true) := hid (by simp [okB]; omega)
   have hkc : (k : Int) ≤ (cap : Int) := by omega
   go_wp2_with fail
   have HQ := hid (bxCells wr x)
   have HB4 := hid (bal HBR.out (.cells #[.int .i64 x.id, .int .i64 x.x1, .int .i64 x.y1, .int .i64 x.x2, .int .i64 x.y2] 36))
   generalize htb : wr.heap.size = tb at HQ ⊢
   generalize wr.alloc (.cells #[.int .i64 x.id, .int .i64 x.x1, .int .i64 x.y1, .int .i64 x.x2, .int .i64 x.y2] 36) = W4 at HQ HB4 ⊢
   clear c0 c1 c2 c3 c4
   go_loopw [30] (fun i ws => ∃ q : Nat, q ≤ k ∧ i = .int .i64 q ∧ Hid (∀ p y, p < q → l[p]? = some y → y.id ≠ x.id) ∧ Hid (RowKit.Below W4.heap.size W4 ws)) (fun i _ => k - (intOf i).toNat)
   case atStart => exact ⟨0, Nat.zero_le _, rfl, hid (fun p y hp => by omega), hid (Below.refl _ _)⟩
   case round =>
    obtain ⟨q, hq, rfl, HNE, HBS⟩ := hrel
    by_cases hql : q < k
    ·have hql' : (q : Int) < (k : Int) := by omega
     obtain ⟨y, hy⟩ : ∃ x, l[q]? = some x := ⟨_, List.getElem?_eq_getElem (by have := HN.out; omega)⟩
     obtain ⟨b', off', e', hbl', hc'⟩ := (HB.out.below' (bcall HB4.out HBS.out)) (by have := HN.out; omega)
     simp only [Option.some.injEq, Addr.mk.injEq] at e'
     obtain ⟨rfl, rfl, -⟩ := e'
     obtain ⟨d0, d1, d2, d3, d4⟩ := hc' q y hy
     have HY := hid hy
     have t0 := (HBS.out.cell (p := ⟨tb, 0, none⟩) HQ.out.2).trans HQ.out.1
     have htl : tb < wr.heap.size := Nat.lt_of_lt_of_le HQ.out.2 HBS.out.size
     clear hc' hy
     by_cases e : y.id = x.id
     ·have HF : Hid (areB l = false) := hid (are_twice HX.out hql HY.out e)
      have b0 : (y.id == x.id) = true := by simpa using e
      go_wp2_with fail
      go_ret
      exact ⟨by rw [HBB.out, HF.out]; first | rfl | simp, bal (bcall HB4.out HBS.out) _⟩
     ·have b0 : (y.id == x.id) = false := by simpa using e
      have HN2 : Hid (∀ p z, p < q + 1 → l[p]? = some z → z.id ≠ x.id) := hid (fun p z hp hz => by
       rcases Nat.lt_or_ge p q with h1 | h1
       ·exact HNE.out p z h1 hz
       ·have : p = q := by omega
        subst this
        rw [HY.out] at hz
        cases hz
        exact e)
      clear e
      go_wp2_with fail
      go_roundw
      case rel => exact ⟨q + 1, by omega, by go_num, HN2, hid (bal HBS.out _)⟩
      case measure => simp [intOf]; omega
    ·have hqk : q = k := by omega
     subst hqk
     have HS := hid (snoc_ids HX.out HOK.out.1 HOK.out.2 HO.out HNE.out)
     go_wp2_with fail
     go_roundw
     case rel => exact ⟨q + 1, by omega, by go_num, HS, hid (bcall HB4.out HBS.out)⟩
     case measure => simp [intOf]; omega
  ·have hkn : k = n := by omega
   subst hkn
   have HT : Hid (areB l = true) := hid (by
    have h1 := HOK.out
    rw [List.take_of_length_le (by have := HN.out; omega)] at h1
    simp only [areB, h1.1, Bool.true_and, decide_eq_true_eq]
    exact h1.2)
   go_wp2_with fail
   go_ret
   exact ⟨by rw [HBB.out, HT.out]; first | rfl | simp, HBR.out⟩
end Sw
namespace Sw
def insAt (l : List Int) (k : Nat) (x : Int) : List Int := l.take k ++ x :: l.drop k
theorem insAt_perm (l : List Int) (k : Nat) (x : Int) : (insAt l k x).Perm (l ++ [x]) := by
 unfold insAt
 refine List.perm_middle.trans ?_
 rw [List.take_append_drop]
 exact (List.perm_append_singleton x l).symm
theorem insAt_sorted {l : List Int} {k : Nat} {x : Int} (hs : l.Pairwise (fun a b => a ≤ b)) (h1 : ∀ y ∈ l.take k, y ≤ x) (h2 : ∀ y ∈ l.drop k, x < y) : (insAt l k x).Pairwise (fun a b => a ≤ b) := by
 unfold insAt
 have hp : (l.take k ++ l.drop k).Pairwise (fun a b => a ≤ b) := by rw [List.take_append_drop]; exact hs
 rw [List.pairwise_append] at hp ⊢
 refine ⟨hp.1, List.pairwise_cons.2 ⟨fun y hy => by have := h2 y hy; omega, hp.2.1⟩, fun a ha b hb => ?_⟩
 rcases List.mem_cons.1 hb with rfl | hb
 ·exact h1 a ha
 ·exact hp.2.2 a ha b hb
theorem sortI_is {l l' : List Int} (hp : l.Perm l') (hs : l.Pairwise (fun a b => a ≤ b)) : l = sortI l' := by
 have h1 := sortI_sorted l'
 have h2 : l.Perm (sortI l') := hp.trans (by unfold sortI; exact (List.mergeSort_perm _ _).symm)
 exact List.Perm.eq_of_pairwise (fun a b _ _ h1 h2 => Int.le_antisymm h1 h2) hs h1 h2
theorem ins_here {l0 l : List Int} {k : Nat} {x : Int} (hl : l = sortI l0) (hk : k ≤ l.length) (h1 : k = 0 ∨ ∃ y, l[k - 1]? = some y ∧ y ≤ x) (h2 : ∀ y ∈ l.drop k, x < y) : insAt l k x = sortI (l0 ++ [x]) := by
 have hs : l.Pairwise (fun a b => a ≤ b) := by rw [hl]; exact sortI_sorted l0
 refine sortI_is ((insAt_perm l k x).trans ?_) (insAt_sorted hs (fun y hy => ?_) h2)
 ·rw [hl]
  exact List.Perm.append (by unfold sortI; exact List.mergeSort_perm _ _) (List.Perm.refl _)
 ·rcases h1 with h1 | ⟨z, hz, hzx⟩
  ·subst h1; simp at hy
  ·obtain ⟨j, hj⟩ := List.getElem?_of_mem hy
   have hjl : j < k := by have := (List.getElem?_eq_some_iff.1 hj).1; rw [List.length_take] at this; omega
   rw [List.getElem?_take_of_lt hjl] at hj
   have e1 := List.getElem?_eq_some_iff.1 hj
   have e2 := List.getElem?_eq_some_iff.1 hz
   rcases Nat.lt_or_ge j (k - 1) with h3 | h3
   ·have := List.pairwise_iff_getElem.1 hs j (k - 1) e1.1 e2.1 h3
    rw [e1.2, e2.2] at this
    omega
   ·have : j = k - 1 := by omega
    subst this
    rw [hz] at hj
    cases hj
    exact hzx
theorem hole_step {l : List Int} {k : Nat} {h y : Int} (hy : l[k]? = some y) : (l.take (k + 1) ++ h :: l.drop (k + 1)).set (k + 1) y = l.take k ++ y :: l.drop k := by
 have hk := (List.getElem?_eq_some_iff.1 hy).1
 rw [List.set_append_right _ _ (by rw [List.length_take]; omega), List.length_take, Nat.min_eq_left (by omega), Nat.sub_self, List.take_succ_eq_append_getElem hk, (List.getElem?_eq_some_iff.1 hy).2, List.drop_eq_getElem_cons hk, (List.getElem?_eq_some_iff.1 hy).2]
 simp
theorem hole_end {l : List Int} {k : Nat} {h x : Int} (hk : k ≤ l.length) : (l.take k ++ h :: l.drop k).set k x = insAt l k x := by
 rw [List.set_append_right _ _ (by rw [List.length_take]; omega), List.length_take, Nat.min_eq_left hk, Nat.sub_self]
 rfl
end Sw
namespace Sw
open Go.ChangeShapes Go.WideShapes Go.ChangeAt Go.RowKit Go.Sort Go.Shelf Go.Lib
theorem own_some2 {w : World} {B size n : Nat} {e : TypeId} {v : Value} {xs : List Value} (h : w.ownsRow B e size v n xs) (hn : 0 < n) : ∃ g c, v = .slice (some ⟨g, 0, none⟩) n c := by
 rcases h.2 with ⟨_, h0⟩ | ⟨g, c, _, e, _⟩
 ·omega
 ·exact ⟨g, c, e⟩
theorem grown_setS (w : World) (g j : Nat) (u : Value) : w.grownBy (w.setCell ⟨g, j, none⟩ u) (some g) :=
 ⟨rfl, rfl, rfl, by simp [World.setCell], fun k _ hne => Below.heap_setCell _ _ _ _ (fun e => hne (by rw [show k = g from e]))⟩
theorem grown_drewS {w w' : World} {o : Option Nat} (h : w.grownBy w' o) : w.grownBy w'.drew o := ⟨h.os, h.tape, h.output, h.size, h.block⟩
theorem below_g {w0 w w' : World} {g : Nat} (h : RowKit.Below w0.heap.size w0 w) (hg : w.grownBy w' (some g)) (hle : w0.heap.size ≤ g) : RowKit.Below w0.heap.size w0 w' :=
 ⟨hg.os.trans h.os, hg.tape.trans h.tape, hg.output.trans h.output, Nat.le_trans h.size hg.size, fun k hk => (hg.block k (by have := h.size; omega) (fun e => by cases e; omega)).trans (h.block k hk)⟩
theorem sortI_len (l : List Int) : (sortI l).length = l.length := by unfold sortI; rw [List.length_mergeSort]
end Sw
namespace Sw
open Go.Sort Go.Shelf Go.Lib
theorem hole_stepP {α : Type} {l : List α} {k : Nat} {h y : α} (hy : l[k]? = some y) : (l.take (k + 1) ++ h :: l.drop (k + 1)).set (k + 1) y = l.take k ++ y :: l.drop k := by
 have hk := (List.getElem?_eq_some_iff.1 hy).1
 rw [List.set_append_right _ _ (by rw [List.length_take]; omega), List.length_take, Nat.min_eq_left (by omega), Nat.sub_self, List.take_succ_eq_append_getElem hk, (List.getElem?_eq_some_iff.1 hy).2, List.drop_eq_getElem_cons hk, (List.getElem?_eq_some_iff.1 hy).2]
 simp
theorem hole_endP {α : Type} {l : List α} {k : Nat} {h x : α} (hk : k ≤ l.length) : (l.take k ++ h :: l.drop k).set k x = l.take k ++ x :: l.drop k := by
 rw [List.set_append_right _ _ (by rw [List.length_take]; omega), List.length_take, Nat.min_eq_left hk, Nat.sub_self]
 rfl
theorem leP_total (a b : Int × Int) : leP a b ∨ leP b a := by unfold leP; omega
theorem leP_trans {a b c : Int × Int} (h1 : leP a b) (h2 : leP b c) : leP a c := by unfold leP at *; omega
theorem sortP_sorted (l : List (Int × Int)) : (sortP l).Pairwise leP := by
 have key : ∀ x y : Int × Int, (!(ltOf cmpP) y x) = true ↔ leP x y := by
  intro x y
  have h := cmpP_lt y x
  unfold ltOf
  unfold leP
  rw [Bool.not_eq_true', h, decide_eq_false_iff_not]
  omega
 unfold sortP
 have h := List.pairwise_mergeSort (le := fun x y : Int × Int => !(ltOf cmpP) y x) (fun a b c h1 h2 => (key a c).2 (leP_trans ((key a b).1 h1) ((key b c).1 h2))) (fun a b => by
  rw [Bool.or_eq_true]
  exact (leP_total a b).imp (fun h => (key a b).2 h) (fun h => (key b a).2 h)) l
 exact h.imp (fun {a b} h => (key a b).1 h)
theorem insP_here {l0 l : List (Int × Int)} {k : Nat} {x : Int × Int} (hl : l = sortP l0) (h1 : k = 0 ∨ ∃ y, l[k - 1]? = some y ∧ leP y x) (h2 : ∀ y ∈ l.drop k, ¬ leP y x) : l.take k ++ x :: l.drop k = sortP (l0 ++ [x]) := by
 have hs : l.Pairwise leP := by rw [hl]; exact sortP_sorted l0
 have hp : (l.take k ++ l.drop k).Pairwise leP := by rw [List.take_append_drop]; exact hs
 refine sorted_unique ?_ ?_ (sortP_sorted _)
 ·refine (List.perm_middle.trans ?_).trans (sortP_perm _).symm
  rw [List.take_append_drop, hl]
  refine ((List.perm_append_singleton x (sortP l0)).symm).trans ?_
  exact List.Perm.append (sortP_perm _) (List.Perm.refl _)
 ·rw [List.pairwise_append] at hp ⊢
  have hle : ∀ y ∈ l.take k, leP y x := by
   intro y hy
   rcases h1 with h1 | ⟨z, hz, hzx⟩
   ·subst h1; simp at hy
   ·obtain ⟨j, hj⟩ := List.getElem?_of_mem hy
    have hjl : j < k := by have := (List.getElem?_eq_some_iff.1 hj).1; rw [List.length_take] at this; omega
    rw [List.getElem?_take_of_lt hjl] at hj
    have e1 := List.getElem?_eq_some_iff.1 hj
    have e2 := List.getElem?_eq_some_iff.1 hz
    rcases Nat.lt_or_ge j (k - 1) with h3 | h3
    ·have := List.pairwise_iff_getElem.1 hs j (k - 1) e1.1 e2.1 h3
     rw [e1.2, e2.2] at this
     exact leP_trans this hzx
    ·have : j = k - 1 := by omega
     subst this
     rw [hz] at hj
     cases hj
     exact hzx
  refine ⟨hp.1, List.pairwise_cons.2 ⟨fun y hy => (leP_total x y).resolve_right (h2 y hy), hp.2.1⟩, fun a ha c hc => ?_⟩
  rcases List.mem_cons.1 hc with rfl | hc
  ·exact hle a ha
  ·exact hp.2.2 a ha c hc
theorem sw_met {l : List B5} {k : Nat} {x b : B5} (hx : l[k]? = some x) : sw (l.take (k + 1)) b = sw (l.take k) b ++ (if meetB x b then [pr x b] else []) := by
 have hlt := (List.getElem?_eq_some_iff.1 hx).1
 rw [List.take_succ_eq_append_getElem hlt, (List.getElem?_eq_some_iff.1 hx).2]
 unfold sw
 cases h : meetB x b <;> simp [h]
theorem pairs_next {l : List B5} {k : Nat} {x : B5} (hx : l[k]? = some x) : pairsOf (l.take (k + 1)) = pairsOf (l.take k) ++ sw (l.take k) x := by
 have hlt := (List.getElem?_eq_some_iff.1 hx).1
 rw [List.take_succ_eq_append_getElem hlt, (List.getElem?_eq_some_iff.1 hx).2, pairsOf_snoc]
end Sw
end Go.Proofs.YtckkkdldljhehacGreat
