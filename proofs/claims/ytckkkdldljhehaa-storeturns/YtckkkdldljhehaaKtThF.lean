/- What sorted of things by number (package ninepinsref) answers when called over a map in memory: all numbers, rising, in memory of their own; nothing that was in memory before has changed. Condition: at most a million things. -/
import Derived.Test.YtckkkdldljhehaaKtThE
import Derived.Test.YtckkkdldljhehaaKtThA
import Derived.Test.YtckkkdldljhehaaPkC
import Derived.Test.YtckkkdldljhehaaKtSwU
namespace Go.Proofs.Ytckkkdldljhehaa.Th
open Go.Proofs.Ytckkkdldljhehaa.Num Go.Proofs.Ytckkkdldljhehaa.St Go.Proofs.Ytckkkdldljhehaa.Mp
open Go.ChangeShapes Go.WideShapes Go.ChangeAt Go.RowKit Go.Sort Go.Shelf Go.Lib

theorem grown_none {w w' : World} {r : Nat} (h : w.grownBy w' none) : w.grownBy w' (some r) := ⟨h.os, h.tape, h.output, h.size, fun i hi _ => h.block i hi (by simp)⟩
theorem doneM_len {l todo : Mth} : (doneM l todo).length ≤ l.length := List.length_filter_le _ _
theorem below_n {w0 w w' : World} (h : Below w0.heap.size w0 w) (hg : w.grownBy w' none) : Below w0.heap.size w0 w' := h.grown hg h.size (fun q hq => by cases hq)
theorem Rng.own {w w' : World} {b r : Nat} {l todo : Mth} {cnt g : Nat} (h : Rng w b r l todo cnt) (hg : w.grownBy w' (some g)) (h1 : g ≠ b) (h2 : g ≠ r) : Rng w' b r l todo cnt :=
  h.kept hg (fun e => h1 (Option.some.inj e).symm) (fun e => h2 (Option.some.inj e).symm)
set_option maxHeartbeats 8000000 in
set_option maxRecDepth 100000 in
theorem sorted_any (b : Nat) (l : Mth) (w : World) (h : Mp w b l) (hl : l.length ≤ 1000000) :
    Calls Try.prog 79 #[.map (some b)] w fun e w' => (∃ u, e = .returned u ∧ w'.ownsRow w.heap.size 3 1 u l.length ((l.map (·.1)).map (Value.int .i64))) ∧ Below w.heap.size w w' := by
  obtain ⟨i0, hi, hz0, hz1, hz2⟩ := info_parts Sw.info3
  have hbz := h.lt
  have HU := hidT h.up
  have HL := hidT hl
  go_enter Try.func79, Try.ntmps79
  go_wp2_with (first | (at_range; refine wp_range _ rfl _ rfl b l rfl h ?_; intro w1 hr1 hg1 hs1) | fail)
  go_frame
  have HR1 := hidT hr1
  have HB1 : Hid (Below w.heap.size w w1) := hidT (below_n (Below.refl _ _) hg1)
  clear hr1 hg1 h hl
  go_loopw [3] (fun v wr => ∃ todo cnt, Hid (Rng wr b w.heap.size l todo cnt) ∧ Hid (wr.ownsRow (w.heap.size + 1) 3 1 v ((doneM l todo).map (·.1)).length (((doneM l todo).map (·.1)).map (Value.int .i64))) ∧ Hid (Below w.heap.size w wr) ∧ w.heap.size < wr.heap.size) (fun _ wr => wr.rangeLeft b w.heap.size)
  case atStart => exact ⟨l, _, HR1, hidT (by rw [doneM_all HU.out]; exact World.ownsRow_nil _ _ _ _), HB1, by omega⟩
  case round =>
    obtain ⟨todo, cnt, HR, hown, hbl, hzr⟩ := hrel
    go_wp2_with (first | (at_next; refine wp_next _ rfl _ rfl b w.heap.size l todo cnt rfl HR.out ?_ ?_) | fail)
    · intro h0
      subst h0
      go_wp2_with fail
      go_ret
      refine ⟨⟨_, rfl, ?_⟩, hbl.out⟩
      have h1 := hown.out
      rw [doneM_nil, List.length_map] at h1
      exact Joins.ownsRow_le h1 (Nat.le_succ _)
    · intro k t w2 cnt2 hk hr2 hlt hg2 hs2 hen
      have HK := hidT hk
      obtain ⟨out, HOUT⟩ : ∃ o, Hid (o = (doneM l todo).map (·.1)) := ⟨_, rfl⟩
      rw [← HOUT.out] at hown
      obtain ⟨m, HM⟩ : ∃ m, Hid (m = out.length) := ⟨_, rfl⟩
      rw [← HM.out] at hown
      have hml : m ≤ 1000000 := by
        have h1 := HM.out
        rw [HOUT.out, List.length_map] at h1
        have := doneM_len (l := l) (todo := todo)
        have := HL.out
        omega
      have HOW2 := hidT (owns_kept hown.out hg2 (fun z hz e => by have := (hown.out.lt z hz).1; have := Option.some.inj e; omega))
      have HBL2 : Hid (Below w.heap.size w w2) := hidT (hbl.out.grown hg2 hbl.out.size (fun q hq => by cases hq; exact Nat.le_refl _))
      have HR2 := hidT hr2
      have HLT := hidT hlt
      have hz2w : w.heap.size < w2.heap.size := by omega
      obtain ⟨av, cv, rfl, -⟩ := Sw.owns_slice HOW2.out
      have HO4 := hidT (owns_below HOW2.out (bal (Below.refl _ w2) (.cells #[.int .i64 k] 3)))
      have HCN := hidT HR.out.left_eq
      have HSUB := hidT HR.out.sub
      clear hk hr2 hlt hg2 hs2 hown hbl HR
      go_wp2_with (at_builtin; refine wpList_append_own_at _ rfl _ _ 47 rfl (w.heap.size + 1) 3 i0 (.int .i64 0) 1 8 Try.underlying47 hi hz0 hz1 hz2 rfl (by decide) _ _ _ rfl HO4.out ⟨w2.heap.size, 0, none⟩ 1 1 [.int .i64 k] rfl ?c1 ?c2 ?c3 ?c4 ?c5 ?c6 ?_)
      case c1 => rfl
      case c2 =>
        intro j u hj
        match j, hj with
        | 0, hj => cases hj; simp [Addr.add]
      case c3 => intro u hu; simp at hu; subst hu; rfl
      case c4 => unfold maxLen; omega
      case c5 => omega
      case c6 => simp; omega
      intro v' w7 hown7 hg7 _ hat7
      obtain ⟨g, c', rfl⟩ := Sw.own_some2 hown7 (by omega)
      have hgl := hown7.lt g rfl
      have hvb : ∀ z, (Value.slice av m cv).ownBlock = some z → w.heap.size + 1 ≤ z ∧ z < w2.heap.size := fun z hz => HOW2.out.lt z hz
      have hgb : g ≠ b := by omega
      have hgr : g ≠ w.heap.size := by omega
      have HA := hidT (bal (Below.refl _ w2) (.cells #[.int .i64 k] 3))
      have HR7 : Hid (Rng w7 b w.heap.size l (delM k todo) cnt2) := hidT ((HR2.out.below HA.out).kept hg7 (fun e => by have := (hvb b e.symm).1; omega) (fun e => by have := (hvb _ e.symm).1; omega))
      have HB7 : Hid (Below w.heap.size w w7) := hidT ((bcall HBL2.out HA.out).grown hg7 (bcall HBL2.out HA.out).size (fun z e => by have := (hvb z e).1; omega))
      have hz7 : w.heap.size < w7.heap.size := by have := hg7.size; simp at this; omega
      rw [← List.map_nil (f := Value.int .i64), ← List.map_cons, ← List.map_append] at hown7
      have HO7 := hidT hown7
      clear hown7 hg7 hat7 HO4 HA HR2 HBL2 HOW2
      go_wp2_with fail
      go_loopw [5] (fun i ws => ∃ (q : Nat) (h : Int), q ≤ m ∧ i = .int .i64 q ∧ Hid (ws.ownsRow (w.heap.size + 1) 3 1 (.slice (some ⟨g, 0, none⟩) (m + 1) c') (m + 1) ((out.take q ++ h :: out.drop q).map (Value.int .i64))) ∧ Hid (∀ y ∈ out.drop q, k < y) ∧ Hid (w7.grownBy ws (some g))) (fun i _ => (intOf i).toNat)
      case atStart => exact ⟨m, k, Nat.le_refl _, rfl, by rw [List.take_of_length_le (by have := HM.out; omega), List.drop_of_length_le (by have := HM.out; omega)]; exact HO7, hidT (fun y hy => by rw [List.drop_of_length_le (by have := HM.out; omega)] at hy; cases hy), hidT ⟨rfl, rfl, rfl, Nat.le_refl _, fun _ _ _ => rfl⟩⟩
      case round =>
        obtain ⟨q, h, hqm, rfl, HO, HGT, HGR⟩ := hrel
        have hgz : g < wr.heap.size := by have := HGR.out.size; omega
        have cq : wr.cell? ⟨g, q, none⟩ = some (.int .i64 h) := by
          rw [HO.out.cellAt q (by omega), List.getElem?_map, List.getElem?_append_right (by rw [List.length_take]; omega), List.length_take, Nat.min_eq_left (by have := HM.out; omega), Nat.sub_self]
          rfl
        have fq : wr.frozen? ⟨g, q, none⟩ = false := HO.out.frozenAt q
        cases q with
        | zero =>
          have HINS := hidT (done_ins (q := 0) HU.out HSUB.out.1 HSUB.out.2 HK.out HOUT.out (Or.inl rfl) HGT.out)
          go_wp2_with fail
          have hst := (HO.out.stored (0) (.int .i64 k)).1
          rw [← List.map_set, Sw.hole_endP (by have := HM.out; omega), HINS.out] at hst
          have hgS : w7.grownBy (wr.setCell ⟨g, 0, none⟩ (.int .i64 k)) (some g) := HGR.out.trans (Sw.grown_setS _ g _ _)
          generalize wr.setCell ⟨g, 0, none⟩ (.int .i64 k) = X at hst hgS ⊢
          have hR := Th.Rng.own HR7.out hgS hgb hgr
          refine ⟨⟨delM k todo, cnt2, hidT hR, hidT ?_, hidT (Sw.below_g HB7.out hgS (by omega)), by have := hgS.size; omega⟩, ?_⟩
          · have e : m + 1 = ((doneM l (delM k todo)).map (·.1)).length := by
              rw [← HINS.out, List.length_append, List.length_take, List.length_cons, List.length_drop]
              have := HM.out
              omega
            rw [← e]
            exact hst
          · rw [hR.left_eq, HCN.out]
            exact HLT.out
        | succ p =>
          obtain ⟨y, hy⟩ : ∃ y, out[p]? = some y := ⟨_, List.getElem?_eq_getElem (by have := HM.out; omega)⟩
          have cp : wr.cell? ⟨g, p, none⟩ = some (.int .i64 y) := by
            rw [HO.out.cellAt p (by omega), List.getElem?_map, List.getElem?_append_left (by rw [List.length_take]; have := HM.out; omega), List.getElem?_take_of_lt (by omega), hy]
            rfl
          have hw : wrap64 (((p + 1 : Nat) : Int) - 1) = (p : Int) := by unfold wrap64; omega
          have hp1 : (p : Int) < ((m + 1 : Nat) : Int) := by omega
          have HY := hidT hy
          clear hy
          by_cases hgt : k < y
          · have hgt' : y > k := hgt
            go_wp2_with fail
            have hst := (HO.out.stored (p + 1) (.int .i64 y)).1
            rw [← List.map_set, Sw.hole_stepP HY.out] at hst
            refine ⟨⟨p, y, by omega, rfl, hidT hst, hidT (fun y' hy' => ?_), hidT (HGR.out.trans (Sw.grown_setS _ g _ _))⟩, by simp [intOf]⟩
            have hpl := (List.getElem?_eq_some_iff.1 HY.out)
            rw [List.drop_eq_getElem_cons hpl.1, hpl.2] at hy'
            rcases List.mem_cons.1 hy' with rfl | hy'
            · exact hgt
            · exact HGT.out y' hy'
          · have HINS := hidT (done_ins (q := p + 1) HU.out HSUB.out.1 HSUB.out.2 HK.out HOUT.out (Or.inr ⟨y, HY.out, by omega⟩) HGT.out)
            go_wp2_with fail
            have hst := (HO.out.stored (p + 1) (.int .i64 k)).1
            rw [← List.map_set, Sw.hole_endP (by have := HM.out; omega), HINS.out] at hst
            have hgS : w7.grownBy (wr.setCell ⟨g, p + 1, none⟩ (.int .i64 k)) (some g) := HGR.out.trans (Sw.grown_setS _ g _ _)
            generalize wr.setCell ⟨g, p + 1, none⟩ (.int .i64 k) = X at hst hgS ⊢
            have hR := Th.Rng.own HR7.out hgS hgb hgr
            refine ⟨⟨delM k todo, cnt2, hidT hR, hidT ?_, hidT (Sw.below_g HB7.out hgS (by omega)), by have := hgS.size; omega⟩, ?_⟩
            · have e : m + 1 = ((doneM l (delM k todo)).map (·.1)).length := by
                rw [← HINS.out, List.length_append, List.length_take, List.length_cons, List.length_drop]
                have := HM.out
                omega
              rw [← e]
              exact hst
            · rw [hR.left_eq, HCN.out]
              exact HLT.out
end Go.Proofs.Ytckkkdldljhehaa.Th
