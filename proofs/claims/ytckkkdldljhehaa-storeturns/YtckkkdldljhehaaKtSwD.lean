/- What Good of package sweep answers when called over boxes in memory: the plain answer named here; nothing that was in memory before has changed. The boxes' bytes are within the form's reach. -/
import Derived.Test.YtckkkdldljhehaaKtSwC
import Derived.Laws.MakeOwn
namespace Go.Proofs.Ytckkkdldljhehaa.Sw
open Go.ChangeShapes Go.WideShapes Go.ChangeAt Go.RowKit Go.Sort Go.Lib

theorem info3 : (Try.prog.info? 3).map (fun i => (i.zero, i.size, i.bytes)) = some (some (.int .i64 0), 1, 8) := by kernel_rfl
def sortI (l : List Int) : List Int := l.mergeSort fun x y => decide (x ≤ y)
def oneB (l : List B5) : Bool := decide ((Lib.compact (sortI (l.map (·.id)))).length = l.length)
def goodB (l : List B5) : Bool := l.all okB && oneB l
theorem good_not {l : List B5} {i : Nat} {x : B5} (hi : l[i]? = some x) (h : okB x = false) : goodB l = false := by
  unfold goodB
  have hm : x ∈ l := List.mem_of_getElem? hi
  have : l.all okB = false := List.all_eq_false.2 ⟨x, hm, by simp [h]⟩
  simp [this]
theorem take_all {l : List B5} {n : Nat} (hn : n = l.length) (h : (l.take n).all okB = true) : l.all okB = true := by
  rw [hn, List.take_length] at h
  exact h

theorem good_nil : goodB [] = true := by simp [goodB, oneB, sortI, Lib.compact, compactUpTo]
theorem beq_cast (a b : Nat) : ((a : Int) == (b : Int)) = decide (a = b) := by
  by_cases h : a = b
  · simp [h]
  · have : (a : Int) ≠ b := by omega
    simp [h, this]
def idCells (l : List B5) : List Value := (l.map (·.id)).map (Value.int .i64)
theorem idCells_snoc {l : List B5} {k : Nat} {x : B5} (hx : l[k]? = some x) : idCells (l.take (k + 1)) = idCells (l.take k) ++ [.int .i64 x.id] := by
  have hlt : k < l.length := (List.getElem?_eq_some_iff.1 hx).1
  rw [List.take_succ_eq_append_getElem hlt, (List.getElem?_eq_some_iff.1 hx).2]
  simp [idCells]
theorem all_snoc {l : List B5} {k : Nat} {x : B5} (hx : l[k]? = some x) (h : (l.take k).all okB = true) (ho : okB x = true) : (l.take (k + 1)).all okB = true := by
  have hlt : k < l.length := (List.getElem?_eq_some_iff.1 hx).1
  rw [List.take_succ_eq_append_getElem hlt, (List.getElem?_eq_some_iff.1 hx).2, List.all_append, h]
  simp [ho]

theorem sortI_own (B g c n : Nat) (zs : List Int) (w : World) (hn : n = zs.length) (hz : n < 4611686018427387904) (h : w.ownsRow B 3 1 (.slice (some ⟨g, 0, none⟩) n c) n (zs.map (Value.int .i64))) :
    Calls Try.prog 78 #[.slice (some ⟨g, 0, none⟩) n c] w fun e w' => e = .returned (.tuple #[]) ∧ w'.ownsRow B 3 1 (.slice (some ⟨g, 0, none⟩) n c) n ((sortI zs).map (Value.int .i64)) ∧ w.grownBy w' (some g) := by
  subst hn
  rcases h.2 with ⟨hv, _⟩ | ⟨g', c', cur, hv, hB, hb, q1, q2, q3, q4⟩
  · cases hv
  · cases hv
    refine (Try.slices_Sort_int g 0 c zs w (Go.holds_of_blockI hb (by simpa using q4)) (Array.getElem?_eq_some_iff.1 hb).1 hz).mono ?_
    rintro e w' ⟨rfl, m, os, rfl⟩
    exact ⟨rfl, ownsRow_sortedI (by simp) hB hb q1 q2 q3, grownBy_sortedI _⟩
theorem compactI_own (B g c n : Nat) (zs : List Int) (w : World) (hn : n = zs.length) (hz : n < 4611686018427387904) (h : w.ownsRow B 3 1 (.slice (some ⟨g, 0, none⟩) n c) n (zs.map (Value.int .i64))) :
    Calls Try.prog 84 #[.slice (some ⟨g, 0, none⟩) n c] w fun e w' => e = .returned (.slice (some ⟨g, 0, none⟩) (Lib.compact zs).length c) ∧ w.grownBy w' (some g) := by
  subst hn
  rcases h.2 with ⟨hv, _⟩ | ⟨g', c', cur, hv, hB, hb, q1, q2, q3, q4⟩
  · cases hv
  · cases hv
    refine (Try.slices_Compact_int g 0 c zs w (Go.holds_of_blockI hb (by simpa using q4)) (by omega) q1).mono ?_
    rintro e w' ⟨rfl, m, rfl⟩
    refine ⟨rfl, rfl, rfl, rfl, by simp, fun k hk hne => ?_⟩
    have : g ≠ k := fun e => hne (by rw [e])
    simp [putRow, mapBlock, Sort.ahead, Array.getElem?_modify, this]

set_option maxHeartbeats 2000000 in
set_option maxRecDepth 100000 in
theorem good_any (a : Option Addr) (n cap : Nat) (l : List B5) (w : World) (hn : n = l.length) (hz : n * 40 ≤ 140737488355328) (hB : BoxL w a l) :
    Calls Try.prog 48 #[.slice a n cap] w fun e w' => e = .returned (.bool (goodB l)) ∧ Below w.heap.size w w' := by
  obtain ⟨i0, hi, hz0, hz1, hz2⟩ := info_parts info3
  have HB := hid hB
  have HN := hid hn
  clear hB hn
  obtain ⟨w1, hrun, hown1, hg1⟩ := run_make_own (P := Try.prog) w w.heap.size 47 3 i0 (.int .i64 0) 1 Try.underlying47 hi hz0 hz1 .i64 .i64 n (by rw [hz2]; omega) (by unfold maxLen; omega) (Nat.le_refl _)
  have HO1 := hid hown1
  have HG1 : Hid (Below w.heap.size w w1) := hid ((Below.refl _ w).grown hg1 (Nat.le_refl _) (fun j hj => by cases hj))
  clear hown1 hg1
  have hnm : n ≤ 9223372036854775807 := by omega
  go_enter Try.func48, Try.ntmps48
  go_wp2_with fail
  go_loopw [3, 11] (fun v i wr => ∃ k : Nat, k ≤ n ∧ i = .int .i64 k ∧ Hid (wr.ownsRow w.heap.size 3 1 v k (idCells (l.take k))) ∧ Hid (Below w.heap.size w wr) ∧ w.heap.size < wr.heap.size ∧ Hid ((l.take k).all okB = true)) (fun _ i _ => n - (intOf i).toNat)
  case atStart => exact ⟨0, Nat.zero_le _, rfl, HO1, HG1, (HO1.out.lt w.heap.size rfl).2, rfl⟩
  case round =>
    obtain ⟨k, hk, rfl, hown, hbl, hzr, hall⟩ := hrel
    by_cases hlt : k < n
    · obtain ⟨x, hx⟩ : ∃ x, l[k]? = some x := ⟨_, List.getElem?_eq_getElem (by have := HN.out; omega)⟩
      obtain ⟨b, off, rfl, hb, hc⟩ := HB.out (by have := HN.out; omega)
      obtain ⟨c0, c1, c2, c3, c4⟩ := hc k x hx
      have kk := fun o => hbl.out.cell (p := ⟨b, o, none⟩) hb
      rw [← kk] at c0 c1 c2 c3 c4
      clear hc kk
      have hbz : b < wr.heap.size := by omega
      have HX := hid hx
      clear hx
      obtain ⟨xi, xx1, xy1, xx2, xy2⟩ := x
      simp only at c0 c1 c2 c3 c4
      by_cases h1 : xx1 < xx2
      · by_cases h2 : xy1 < xy2
        · go_wp2_with (at_builtin; refine wpList_append_own _ rfl _ _ 47 rfl w.heap.size 3 i0 (.int .i64 0) 1 8 Try.underlying47 hi hz0 hz1 hz2 rfl (by decide) _ _ _ rfl ((hown.out.alloc _).alloc _) ⟨wr.heap.size + 1, 0, none⟩ 1 1 [.int .i64 xi] rfl ?c1 ?c2 ?c3 ?c4 ?c5 ?c6 ?_)
          case c1 => rfl
          case c2 =>
            intro j u hj
            match j, hj with
            | 0, hj => cases hj; simp [Addr.add]
          case c3 => intro u hu; simp at hu; subst hu; rfl
          case c4 => unfold maxLen; omega
          case c5 => omega
          case c6 => simp; omega
          intro v' w2 hown2 hgrow2 _
          have HO2 := hid hown2
          have HG2 := hid hgrow2
          clear hown2 hgrow2
          go_wp2_with fail
          go_roundw
          case rel =>
            refine ⟨k + 1, by omega, by go_num, ?_, ?_, ?_, hid (all_snoc HX.out hall.out (by simp [okB, h1, h2]))⟩
            · have := HO2.out
              rw [idCells_snoc HX.out]
              exact hid this
            · exact hid ((bal (bal hbl.out _) _).grown HG2.out (by simp; omega) (fun q hq' => (hown.out.lt q hq').1))
            · have := HG2.out.size; simp at this; omega
          case measure => simp [intOf]; omega
        · go_wp2_with fail
          go_ret
          exact ⟨ret_bool (good_not HX.out (by simp [okB]; omega)).symm, bal hbl.out _⟩
      · go_wp2_with fail
        go_ret
        exact ⟨ret_bool (good_not HX.out (by simp [okB]; omega)).symm, bal hbl.out _⟩
    · have hke : k = n := by omega
      have HL : Hid (idCells (l.take k) = (l.map (·.id)).map (Value.int .i64) ∧ n = (l.map (·.id)).length ∧ goodB l = oneB l) := by
        have h1 := HN.out
        refine hid ⟨?_, by simp [h1], ?_⟩
        · rw [hke, h1, List.take_length]; rfl
        · rw [goodB, take_all h1 (by rw [← hke]; exact hall.out)]; rfl
      have hS : Hid (wr.ownsRow w.heap.size 3 1 u3 n ((l.map (·.id)).map (Value.int .i64))) := by
        have := hown.out
        rw [HL.out.1, hke] at this
        exact hid this
      clear hown
      rcases hS.out.2 with ⟨hv, hz0'⟩ | ⟨g, c, cur, hv, hbase, hblk, q1, q2, q3, q4⟩
      · subst hv
        go_wp2_with (first | (go_at_call 78; refine (Try.slices_Sort_int_none _ _ _).mono ?_; rintro e w' ⟨rfl, rfl⟩) | (go_at_call 84; refine (Try.slices_Compact_int_empty _ _ _).mono ?_; rintro e w' ⟨rfl, rfl⟩))
        all_goals
          go_ret
          refine ⟨ret_bool ?_, hbl.out⟩
          have h1 := HN.out
          have hl0 : l = [] := List.length_eq_zero_iff.1 (by omega)
          rw [hl0, good_nil]
          try simp_all
      · subst hv
        clear hblk q1 q2 q3 q4 hbase
        have hs := sortI_own w.heap.size g c n (l.map (·.id)) wr HL.out.2.1 (by omega) hS.out
        have HS := hid hs
        clear hs
        go_wp2_with (go_at_call 78; refine HS.out.mono ?_; rintro e w2 ⟨rfl, h2, h3⟩; have H2 := hid h2; have H3 := hid h3; clear h2 h3)
        have hc := compactI_own w.heap.size g c n (sortI (l.map (·.id))) w2 (by rw [HL.out.2.1]; simp [sortI]) (by omega) H2.out
        have HC := hid hc
        clear hc
        go_wp2_with (go_at_call 84; refine HC.out.mono ?_; rintro e w3 ⟨rfl, h3⟩; have H4 := hid h3; clear h3)
        all_goals
          go_ret
          refine ⟨ret_bool ?_, ?_⟩
          · have h1 := HN.out
            rw [HL.out.2.2, oneB, ← h1]
            exact beq_cast _ _
          · have hgB := hS.out.lt g rfl
            exact (hbl.out.grown H3.out (by omega) (fun q hq => by cases hq; exact hgB.1)).grown H4.out (by have := H3.out.size; omega) (fun q hq => by cases hq; exact hgB.1)
end Go.Proofs.Ytckkkdldljhehaa.Sw
