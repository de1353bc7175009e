/- What slices.Insert answers when called over tables of one's own with one table more, ahead of their end, where there is no room: the tables and the one among them, in a row of their own. -/
import Derived.Test.YtckkkdldljhehaaStCopy
namespace Go.Proofs.Ytckkkdldljhehaa.St
open Go.Proofs.Ytckkkdldljhehaa.Num
open Go.ChangeShapes Go.WideShapes Go.ChangeAt Go.RowKit

theorem size66 : (Try.prog.info? 66).map (·.size) = some 3 := by kernel_rfl
def newT (m : Int) : List Value := [.int .i64 m, .slice none 0 0, .slice none 0 0]

theorem splice_at {α : Type} (A Z N : List α) : splice (A ++ Z) A.length N = A ++ N ++ Z.drop N.length := by
  unfold splice
  rw [List.take_left', List.drop_append, List.drop_eq_nil_of_le (by omega), Nat.add_sub_cancel_left]
  · simp
  · rfl
set_option maxHeartbeats 1000000 in
set_option maxRecDepth 100000 in
theorem insert_grow (g n c i vb : Nat) (m : Int) (B : Nat) (xs : List Value) (w : World) (hn : (n + 1) * 56 ≤ 140737488355328) (hi : i < n) (hnc : n ≤ c) (hroom : c < n + 1) (hvb : vb < w.heap.size) (hown : w.ownsRow B 66 3 (.slice (some ⟨g, 0, none⟩) n c) n xs)
    (hv : w.cell? ⟨vb, 0, none⟩ = some (.int .i64 m) ∧ w.cell? ⟨vb, 1, none⟩ = some (.slice none 0 0) ∧ w.cell? ⟨vb, 2, none⟩ = some (.slice none 0 0)) (h1 : ∀ u ∈ xs, u.oneCell' = true) :
    Calls Try.prog 109 #[.slice (some ⟨g, 0, none⟩) n c, .int .i64 i, .slice (some ⟨vb, 0, none⟩) 1 1] w fun e w' =>
      ∃ G, e = .returned (.slice (some ⟨w.heap.size, 0, none⟩) (n + 1) G) ∧ w'.ownsRow w.heap.size 66 3 (.slice (some ⟨w.heap.size, 0, none⟩) (n + 1) G) (n + 1) (xs.take (i * 3) ++ (newT m ++ xs.drop (i * 3))) ∧ Below w.heap.size w w' := by
  obtain ⟨i0, hi0, hz0, hzs, hzb⟩ := info_parts info66
  have hxl := hown.1
  have HO := hid hown
  have HV := hid hv
  have H1 := hid h1
  have hgl := (hown.lt g rfl).2
  clear hown hv h1
  have hz1 : ¬ ((i : Int) = (n : Int)) := by omega
  have hci : ¬ (c = i) := by omega
  have hnx : n ≤ 9223372036854775806 := by omega
  have hcx : c ≤ 9223372036854775806 := by omega
  obtain ⟨X1, hX1⟩ : ∃ X1, X1 = xs.take (i * 3) := ⟨_, rfl⟩
  obtain ⟨X2, hX2⟩ : ∃ X2, X2 = xs.drop (i * 3) := ⟨_, rfl⟩
  have hx1l : X1.length = i * 3 := by rw [hX1, List.length_take]; omega
  have hx2l : X2.length = (n - i) * 3 := by rw [hX2, List.length_drop]; omega
  have HX1 := hid hX1
  have HX2 := hid hX2
  clear hX1 hX2
  have hzc : (Value.agg #[.int .i64 0, .slice none 0 0, .slice none 0 0]).cells.size = i0.size := by rw [hzs]; rfl
  go_enter Try.func109, Try.ntmps109
  go_wp2_with (at_builtin; refine zeros_list rfl _ _ 26 3 rfl 66 i0 (.agg #[.int .i64 0, .slice none 0 0, .slice none 0 0]) .i64 Try.underlying26 Try.underlying3 hi0 hz0 hzc (by omega) g i c (n + 1 - i) _ ?c0 rfl rfl X1 ?c1 ?c2 ?c3 ?c4 ?c5 ?c6 ?_)
  case c0 => omega
  case c1 => rw [hzs]; exact hx1l
  case c2 =>
    intro j v hj
    have hjl : j < i * 3 := by rw [← hx1l]; exact (List.getElem?_eq_some_iff.1 hj).1
    rw [HX1.out, List.getElem?_take, if_pos hjl] at hj
    rw [HO.out.cellAt j (by omega)]
    exact hj
  case c3 => omega
  case c4 => omega
  case c5 => rw [hzb]; omega
  case c6 => unfold maxLen; omega
  have hik : i + (n + 1 - i) = n + 1 := by omega
  rw [hik]
  intro G zs w1 hG1 hG2 hzl hrow hbl hsz
  unfold maxLen at hG2
  have hvw := (hbl.out.cell (p := ⟨vb, 0, none⟩) hvb).trans HV.out.1
  have hvw1 := (hbl.out.cell (p := ⟨vb, 1, none⟩) hvb).trans HV.out.2.1
  have hvw2 := (hbl.out.cell (p := ⟨vb, 2, none⟩) hvb).trans HV.out.2.2
  have HVW := hid (And.intro hvw (And.intro hvw1 hvw2))
  have HIK := hid hik
  clear hvw hvw1 hvw2 hik
  have hGi : ¬ (G = i) := by omega
  have hGi1 : ¬ (G = i + 1) := by omega
  go_wp2_with (refine copy_list rfl _ _ 26 26 rfl 66 3 Try.underlying26 size66 w.heap.size (i * 3) (n + 1 - i) _ ⟨vb, 0, none⟩ 1 1 rfl rfl (X1 ++ zs) 66 hrow.out (newT m) ?d1 ?d2 ?d3 ?d4 ?_)
  case d1 =>
    show 3 = _
    have : Nat.min 1 (n + 1 - i) = 1 := by show min 1 (n + 1 - i) = 1; omega
    rw [this]
  case d2 =>
    intro j v hj
    rw [Addr.add_lit, Nat.zero_add]
    match j, hj with
    | 0, hj => cases hj; exact HVW.out.1
    | 1, hj => cases hj; exact HVW.out.2.1
    | 2, hj => cases hj; exact HVW.out.2.2
  case d3 => rw [List.length_append, hx1l, hzl]; show i * 3 + 3 ≤ _; omega
  case d4 => intro v hv; simp [newT] at hv; rcases hv with rfl | rfl <;> rfl
  intro w2 hrow2 hg2
  have hw1 : IntKind.i64.wrap ((i : Int) + 1) = (i : Int) + 1 := by rw [IntKind.wrap_i64]; omega
  have hb1 : (0 : Int) ≤ (i : Int) + 1 := by omega
  have hb3 : (i : Int) ≤ (n : Int) := by omega
  have hb4 : (i : Int) + 1 ≤ (n : Int) + 1 := by omega
  have htn : ((i : Int) + 1).toNat = i + 1 := by omega
  obtain ⟨L2, hL2⟩ : ∃ L2, L2 = splice (X1 ++ zs) (i * 3) (newT m) := ⟨_, rfl⟩
  rw [← hL2] at hrow2
  have HL2 := hid hL2
  have hl2l : L2.length = G * 3 := by
    rw [hL2, length_splice _ _ _ (by rw [List.length_append, hx1l, hzl]; show i * 3 + 3 ≤ _; omega), List.length_append, hx1l, hzl, ← Nat.add_mul]
    congr 1
    omega
  clear hL2
  have HSRC : Hid (∀ j v, X2[j]? = some v → w2.cell? ⟨g, i * 3 + j, none⟩ = some v) := hid (fun j v hj => by
    have hjl : j < (n - i) * 3 := by rw [← hx2l]; exact (List.getElem?_eq_some_iff.1 hj).1
    have hb := hg2.out.block g (by have := hbl.out.size; omega) (fun e => by cases e; omega)
    rw [World.cell?_of_block (a := ⟨g, i * 3 + j, none⟩) hb, hbl.out.cell (by exact hgl), HO.out.cellAt _ (by omega)]
    rw [HX2.out, List.getElem?_drop] at hj
    exact hj)
  have H12 := hid (hbl.out.grown hg2.out (by omega) (fun q hq => by cases hq; exact Nat.le_refl _))
  go_wp2_with fail
  go_region_law (refine copy_step rfl _ _ 26 26 rfl 66 3 Try.underlying26 size66 w.heap.size ((i + 1) * 3) (n + 1 - (i + 1)) (G - (i + 1)) ⟨g, i * 3, none⟩ (n - i) (c - i) (by simp [Act.eval, Act.put]) (by simp [Act.eval, Act.put]) L2 66 hrow2.out X2 (by rw [hx2l]; congr 1; show n - i = min (n - i) (n + 1 - (i + 1)); omega) (fun j v hj => by rw [Addr.add_lit]; exact HSRC.out j v hj) (by rw [hx2l, hl2l]; omega) (fun v hv => H1.out v (by rw [HX2.out] at hv; exact List.mem_of_mem_drop hv)) ?_; intro w3 hrow3 hg3)
  all_goals
    have hfin : Hid (w3.ownsRow w.heap.size 66 3 (.slice (some ⟨w.heap.size, 0, none⟩) (n + 1) G) (n + 1) (xs.take (i * 3) ++ (newT m ++ xs.drop (i * 3)))) := by
      have e1 : L2 = (X1 ++ newT m) ++ zs.drop 3 := by
        rw [HL2.out, ← hx1l, splice_at]
        simp [newT]
      have hl1 : (X1 ++ newT m).length = (i + 1) * 3 := by rw [List.length_append, hx1l]; show i * 3 + 3 = _; omega
      have e2 : splice L2 ((i + 1) * 3) X2 = (X1 ++ newT m) ++ (X2 ++ (zs.drop 3).drop X2.length) := by rw [e1, ← hl1, splice_at, List.append_assoc (X1 ++ newT m)]
      have hr := hrow3.out
      rw [e2] at hr
      have hlen : ((X1 ++ newT m) ++ X2).length = (n + 1) * 3 := by rw [List.length_append, hl1, hx2l, ← Nat.add_mul]; congr 1; omega
      refine hid ⟨by rw [← HX1.out, ← HX2.out, ← List.append_assoc]; exact hlen, Or.inr ⟨w.heap.size, G, _, rfl, Nat.le_refl _, hr, hG1, by unfold maxLen; omega, ?_, ?_⟩⟩
      · rw [List.size_toArray, ← List.append_assoc, List.length_append, hlen, List.length_drop, List.length_drop, hzl, hx2l]
        omega
      · rw [← hlen, ← List.append_assoc, List.take_left', HX1.out, HX2.out, List.append_assoc]
        rfl
    have hbf := hid (H12.out.grown (grown_drew hg3.out) (by have := hg2.out.size; omega) (fun q hq => by cases hq; exact Nat.le_refl _))
    clear hrow3 hg3 hrow2 hg2 hrow HSRC
    go_wp2
    go_ret
    exact ⟨G, rfl, hfin.out, hbf.out⟩
end Go.Proofs.Ytckkkdldljhehaa.St
