/- What slices.Insert answers when called over tables of one's own with one table more, ahead of their end, where there is room: the tables and the one among them, in the same row. -/
import Derived.Test.YtckkkdldljhehaaStInsert2
import Derived.Laws.Externs
namespace Go.Proofs.Ytckkkdldljhehaa.St
open Go.Proofs.Ytckkkdldljhehaa.Num
open Go.ChangeShapes Go.WideShapes Go.ChangeAt Go.RowKit

theorem splice_two {α : Type} (X1 A Z X2 N : List α) (hA : A.length = N.length) : splice (splice (X1 ++ A ++ Z) (X1.length + N.length) X2) X1.length N = X1 ++ N ++ X2 ++ Z.drop X2.length := by
  rw [show X1.length + N.length = (X1 ++ A).length by rw [List.length_append, hA], splice_at (X1 ++ A) Z X2, List.append_assoc, List.append_assoc, splice_at X1, List.append_assoc, ← hA, List.drop_left]
  simp

set_option maxHeartbeats 1000000 in
set_option maxRecDepth 100000 in
theorem insert_shift (g n c i vb : Nat) (m : Int) (B : Nat) (xs : List Value) (w : World) (hi : i < n) (hroom : n + 1 ≤ c) (hc63 : c ≤ maxLen) (hvg : vb ≠ g) (hown : w.ownsRow B 66 3 (.slice (some ⟨g, 0, none⟩) n c) n xs)
    (hv : w.heap[vb]? = some (.cells #[.int .i64 m, .slice none 0 0, .slice none 0 0] 66 (0, 0))) (h1 : ∀ u ∈ xs, u.oneCell' = true) :
    Calls Try.prog 109 #[.slice (some ⟨g, 0, none⟩) n c, .int .i64 i, .slice (some ⟨vb, 0, none⟩) 1 1] w fun e w' =>
      e = .returned (.slice (some ⟨g, 0, none⟩) (n + 1) c) ∧ w'.ownsRow B 66 3 (.slice (some ⟨g, 0, none⟩) (n + 1) c) (n + 1) (xs.take (i * 3) ++ (newT m ++ xs.drop (i * 3))) ∧ w.grownBy w' (some g) := by
  have hxl := hown.1
  have hbB := (hown.lt g rfl).1
  obtain ⟨cur, hcur, hcs, htk⟩ : ∃ cur : Array Value, w.heap[g]? = some (.cells cur 66 (0, 0)) ∧ cur.size = c * 3 ∧ cur.toList.take (n * 3) = xs := by
    rcases hown.2 with ⟨e, _⟩ | ⟨g', c', cur, e, _, hb, _, _, h5, h6⟩
    · cases e
    · cases e; exact ⟨cur, hb, h5, h6⟩
  unfold maxLen at hc63
  have hov : ∀ lb cb, (callFunc 129 #[.slice (some ⟨vb, 0, none⟩) 1 1, .slice (some ⟨g, (i + 1) * 3, none⟩) lb cb]).run Try.prog w = .ok (.value (.bool false)) w := fun lb cb => by
    rw [run_callFunc_extern Try.func129 (by kernel_rfl) (by kernel_rfl) (by kernel_rfl) (e := Extern.SlicesOverlaps.overlaps #[26, 26] #[4]) (by kernel_rfl),
      Lib.run_overlaps_apart w 26 4 66 Try.underlying26 3 Try.sizeOf66 ⟨vb, 0, none⟩ ⟨g, (i + 1) * 3, none⟩ 1 1 lb cb hvg 66 66 3 (c * 3) (by simp [World.shape?, hv]) (by simp [World.shape?, hcur, hcs]) (by omega) (by simp [World.frozen?, hv]) (by simp [World.frozen?, hv])]
    rfl
  have hz1 : ¬ ((i : Int) = (n : Int)) := by omega
  have hcx : c ≤ 9223372036854775807 := by omega
  have hnx : n ≤ 9223372036854775806 := by omega
  have hnc1 : ¬ ((c : Int) < (n : Int) + 1) := by omega
  obtain ⟨X2, hX2⟩ : ∃ X2, X2 = xs.drop (i * 3) := ⟨_, rfl⟩
  have hx2l : X2.length = (n - i) * 3 := by rw [hX2, List.length_drop]; omega
  have hw1 : IntKind.i64.wrap ((i : Int) + 1) = (i : Int) + 1 := by rw [IntKind.wrap_i64]; omega
  have hb1 : (0 : Int) ≤ (i : Int) + 1 := by omega
  have hb3 : (i : Int) ≤ (n : Int) := by omega
  have hb4 : (i : Int) + 1 ≤ (n : Int) + 1 := by omega
  have hb5 : (i : Int) ≤ (n : Int) + 1 := by omega
  have hci : ¬ (c = i) := by omega
  have hci1 : ¬ (c = i + 1) := by omega
  have htn : ((i : Int) + 1).toNat = i + 1 := by omega
  have HO := hid hown
  have HV := hid hv
  have H1 := hid h1
  have HX2 := hid hX2
  have HC := hid hcur
  have HT := hid htk
  clear hown hv h1 hX2 hcur htk
  go_enter Try.func109, Try.ntmps109
  go_wp2_with (simp only [hov])
  have hcl : cur.toList.length = c * 3 := by rw [Array.length_toList]; exact hcs
  have HSRC : Hid (∀ j v, X2[j]? = some v → w.cell? ⟨g, i * 3 + j, none⟩ = some v) := hid (fun j v hj => by
    have hjl : j < (n - i) * 3 := by rw [← hx2l]; exact (List.getElem?_eq_some_iff.1 hj).1
    rw [HO.out.cellAt _ (by omega)]
    rw [HX2.out, List.getElem?_drop] at hj
    exact hj)
  go_region_law (refine copy_step rfl _ _ 26 26 rfl 66 3 Try.underlying26 size66 g ((i + 1) * 3) (n + 1 - (i + 1)) (c - (i + 1)) ⟨g, i * 3, none⟩ (n + 1 - i) (c - i) (by simp [Act.eval, Act.put]) (by simp [Act.eval, Act.put]) cur.toList 66 HC.out X2 (by rw [hx2l]; congr 1; show n - i = min (n + 1 - i) (n + 1 - (i + 1)); omega) (fun j v hj => by rw [Addr.add_lit]; exact HSRC.out j v hj) (by rw [hx2l, hcl]; omega) (fun v hv => H1.out v (by rw [HX2.out] at hv; exact List.mem_of_mem_drop hv)) ?_; intro w1 hrow1 hg1)
  all_goals
    have hl1l : (splice cur.toList ((i + 1) * 3) X2).length = c * 3 := by rw [length_splice _ _ _ (by rw [hx2l, hcl]; omega), hcl]
    obtain ⟨L1, hL1⟩ : ∃ L1, L1 = splice cur.toList ((i + 1) * 3) X2 := ⟨_, rfl⟩
    rw [← hL1] at hrow1 hl1l
    have HL1 := hid hL1
    have HG1 := hid (grown_drew hg1.out)
    have HV1 := hid ((hg1.out.block vb (by simpa using (Array.getElem?_eq_some_iff.1 HV.out).1) (fun e => hvg (by cases e; rfl))).trans HV.out)
    clear hL1 hg1
    go_wp2_with (refine copy_list rfl _ _ 26 26 rfl 66 3 Try.underlying26 size66 g (i * 3) (n + 1 - i) _ ⟨vb, 0, none⟩ 1 1 rfl rfl L1 66 hrow1.out (newT m) ?d1 ?d2 ?d3 ?d4 ?_)
    case d1 =>
      show 3 = _
      have : Nat.min 1 (n + 1 - i) = 1 := by show min 1 (n + 1 - i) = 1; omega
      rw [this]
    case d2 =>
      intro j v hj
      rw [Addr.add_lit, Nat.zero_add]
      have hb := HV1.out
      match j, hj with
      | 0, hj => cases hj; simp [World.cell?, hb]
      | 1, hj => cases hj; simp [World.cell?, hb]
      | 2, hj => cases hj; simp [World.cell?, hb]
    case d3 => rw [hl1l]; show i * 3 + 3 ≤ _; omega
    case d4 => intro v hv; simp [newT] at hv; rcases hv with rfl | rfl <;> rfl
    intro w2 hrow2 hg2
    have hfin : Hid (w2.ownsRow B 66 3 (.slice (some ⟨g, 0, none⟩) (n + 1) c) (n + 1) (xs.take (i * 3) ++ (newT m ++ xs.drop (i * 3)))) := by
      have hx1l : (xs.take (i * 3)).length = i * 3 := by rw [List.length_take]; omega
      have e0 : cur.toList = xs.take (i * 3) ++ (cur.toList.drop (i * 3)).take 3 ++ cur.toList.drop (i * 3 + 3) := by
        have ex : xs.take (i * 3) = cur.toList.take (i * 3) := by rw [← HT.out, List.take_take]; congr 1; omega
        rw [ex, List.append_assoc, ← List.drop_drop, List.take_append_drop, List.take_append_drop]
      have hA : ((cur.toList.drop (i * 3)).take 3).length = (newT m).length := by rw [List.length_take, List.length_drop, hcl]; show _ = 3; omega
      have e2 : splice L1 (i * 3) (newT m) = (xs.take (i * 3) ++ newT m ++ X2) ++ (cur.toList.drop (i * 3 + 3)).drop X2.length := by
        have := splice_two (xs.take (i * 3)) _ (cur.toList.drop (i * 3 + 3)) X2 (newT m) hA
        rw [← e0, hx1l] at this
        rw [HL1.out, ← this]
        congr 2
        show (i + 1) * 3 = i * 3 + 3
        omega
      have hr := hrow2.out
      rw [e2] at hr
      have hlen : (xs.take (i * 3) ++ newT m ++ X2).length = (n + 1) * 3 := by rw [List.length_append, List.length_append, hx1l, hx2l]; show i * 3 + 3 + _ = _; omega
      refine hid ⟨by rw [← HX2.out, ← List.append_assoc]; exact hlen, Or.inr ⟨g, c, _, rfl, hbB, hr, hroom, by unfold maxLen; omega, ?_, ?_⟩⟩
      · rw [List.size_toArray, ← e2, length_splice _ _ _ (by rw [hl1l]; show i * 3 + 3 ≤ _; omega), hl1l]
      · rw [← hlen, List.take_left', HX2.out, List.append_assoc]
        rfl
    have hgf := hid (HG1.out.trans hg2.out)
    clear hrow1 hrow2 hg2 HG1 HSRC
    go_wp2
    go_ret
    exact ⟨rfl, hfin.out, hgf.out⟩
end Go.Proofs.Ytckkkdldljhehaa.St
