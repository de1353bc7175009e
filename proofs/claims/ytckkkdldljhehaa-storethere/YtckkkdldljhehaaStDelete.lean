/- What slices.Delete answers when called over tables of one's own and one of their places: the tables without the one, in the same row. -/
import Derived.Test.YtckkkdldljhehaaStInsert4
namespace Go.Proofs.Ytckkkdldljhehaa.St
open Go.Proofs.Ytckkkdldljhehaa.Num
open Go.ChangeShapes Go.WideShapes Go.ChangeAt Go.RowKit

/-- append where there is room, as one step of a region that draws. -/
theorem room_step {P : Program} {w : World} {ops : Array Oper} {o : Oper} {a : Act} {K : Act → World → Prop} {Q : Exit → Act → World → Prop} {E : Prop} (hgd : o.guard = none) (s x : Operand) (t : TypeId)
    (ho : o.op = .call { callee := .builtin .append, args := #[s, x], argTypes := #[t, t] })
    (base : Nat) (e : TypeId) (z : Value) (size bytes : Nat) (ht : P.underlying t = some (.slice e)) (hi : (P.info? e).map (fun i => (i.zero, i.size, i.bytes)) = some (some z, size, bytes))
    (g n cap : Nat) (xs : List Value) (hs : a.eval s = .slice (some ⟨g, 0, none⟩) n cap) (hown : w.ownsRow base e size (.slice (some ⟨g, 0, none⟩) n cap) n xs)
    (ad : Addr) (m c : Nat) (news : List Value) (hx : a.eval x = .slice (some ad) m c) (hl : news.length = m * size) (hnews : ∀ j u, news[j]? = some u → w.cell? (ad.add j) = some u) (h1 : ∀ u ∈ news, u.oneCell' = true)
    (hroom : n + m ≤ cap)
    (h : ∀ w', Hid (w'.ownsRow base e size (.slice (some ⟨g, 0, none⟩) (n + m) cap) (n + m) (xs ++ news)) → Hid (w.grownBy w' (some g)) → K (a.put o.dst (.slice (some ⟨g, 0, none⟩) (n + m) cap)) w') :
    if Region.wanted o (yielded ops a.tmps) = true then Oper.wp P o a w K Q else E := by
  have hw : Region.wanted o (yielded ops a.tmps) = true := by simp [Region.wanted, hgd]
  rw [if_pos hw]
  obtain ⟨i0, hi', hz0, hz1, hz2⟩ := info_parts hi
  obtain ⟨w', hr, h2, h3⟩ := run_append_fits (P := P) w base t o.type e i0 size ht hi' hz1 g n cap xs hown ad m c news hl hnews h1 hroom
  unfold Oper.wp
  simp [execOp, ho, resolve, invoke, builtin, hs, hx, hr, Result.andThen]
  exact h w' (hid h2) (hid h3)

theorem owns_part {w : World} {B g n c k size : Nat} {e : TypeId} {xs : List Value} (h : w.ownsRow B e size (.slice (some ⟨g, 0, none⟩) n c) n xs) (hk : k ≤ n) : w.ownsRow B e size (.slice (some ⟨g, 0, none⟩) k c) k (xs.take (k * size)) := by
  have hm : k * size ≤ n * size := Nat.mul_le_mul_right _ hk
  refine ⟨by rw [List.length_take, h.1]; omega, ?_⟩
  rcases h.2 with ⟨e, _⟩ | ⟨g', c', cur, e, h1, h2, h3, h4, h5, h6⟩
  · cases e
  · cases e
    refine Or.inr ⟨g, c, cur, rfl, h1, h2, by omega, h4, h5, ?_⟩
    rw [← h6, List.take_take, Nat.min_eq_left hm]

/-- clear of what lies behind the end of a row of one's own. -/
theorem clear_run {P : Program} {w : World} (t ty : TypeId) (base : Nat) (e : TypeId) (z : Value) (size bytes : Nat) (ht : P.underlying t = some (.slice e)) (hi : (P.info? e).map (fun i => (i.zero, i.size, i.bytes)) = some (some z, size, bytes))
    (hzs : z.cells.size = size) (hz1 : ∀ u ∈ z.cells.toList, u.oneCell' = true)
    (g n cap c : Nat) (xs : List Value) (hown : w.ownsRow base e size (.slice (some ⟨g, 0, none⟩) n cap) n xs) (hroom : n + 1 ≤ cap) :
    ∃ w', (Builtin.clear_ #[t] ty #[.slice (some ⟨g, n * size, none⟩) 1 c]).run P w = .ok (.tuple #[]) w' ∧ w'.ownsRow base e size (.slice (some ⟨g, 0, none⟩) n cap) n xs ∧ w.grownBy w' (some g) := by
  obtain ⟨i0, hi', hz0, hs0, hb0⟩ := info_parts hi
  rcases hown.2 with ⟨e, _⟩ | ⟨g', c', cur, e, q1, q2, q3, q4, q5, q6⟩
  · cases e
  cases e
  have hzc : (Builtin.zeroCells z.cells 1).toList = z.cells.toList := by
    simp only [Builtin.zeroCells]
    apply List.ext_getElem
    · simp
    · intro i h1 h2
      simp at h1 h2 ⊢
      rw [Nat.mod_eq_of_lt h1]
      simp [h1]
  have hfit : n * size + z.cells.toList.length ≤ cur.size := by rw [q5, Array.length_toList, hzs, ← Nat.succ_mul]; exact Nat.mul_le_mul_right _ hroom
  have hst := run_storeCells_at P g (n * size) e z.cells.toList 0 cur w q2 (by simpa using hfit) hz1
  have hrun : (Builtin.clear_ #[t] ty #[.slice (some ⟨g, n * size, none⟩) 1 c]).run P w = .ok (.tuple #[]) (w.setRow g (splice cur.toList (n * size) z.cells.toList).toArray) := by
    simp [Builtin.clear_, run_underlying ht, zeroValue, typeInfo, hi', hz0, hzc, hst, splice]
  refine ⟨_, hrun, ⟨hown.1, Or.inr ⟨g, cap, _, rfl, q1, setRow_heap w g _ _ e _ q2, q3, q4, ?_, ?_⟩⟩, grown_setRow _⟩
  · rw [List.size_toArray, length_splice _ _ _ (by simpa using hfit), Array.length_toList, q5]
  · have hl : (cur.toList.take (n * size)).length = n * size := by rw [q6]; exact hown.1
    show List.take (n * size) (List.take (n * size) cur.toList ++ _) = xs
    rw [List.take_append_of_le_length (by omega), List.take_take, Nat.min_self, q6]
set_option maxHeartbeats 1000000 in
set_option maxRecDepth 100000 in
theorem delete_full (g i : Nat) (B : Nat) (xs : List Value) (w : World) (hown : w.ownsRow B 66 3 (.slice (some ⟨g, 0, none⟩) (i + 1) (i + 1)) (i + 1) xs) :
    Calls Try.prog 110 #[.slice (some ⟨g, 0, none⟩) (i + 1) (i + 1), .int .i64 i, .int .i64 ((i : Int) + 1)] w fun e w' =>
      e = .returned (.slice (some ⟨g, 0, none⟩) i (i + 1)) ∧ w'.ownsRow B 66 3 (.slice (some ⟨g, 0, none⟩) i (i + 1)) i (xs.take (i * 3)) ∧ w.grownBy w' (some g) := by
  have hcm : i + 1 ≤ maxLen := by
    rcases hown.2 with ⟨e, _⟩ | ⟨g', c', cur, e, _, hb, q1, q2, h5, h6⟩
    · cases e
    · cases e; exact q2
  unfold maxLen at hcm
  have hcx : i ≤ 9223372036854775806 := by omega
  have hz1 : ¬ ((i : Int) = (i : Int) + 1) := by omega
  have hb0 : (i : Int) ≤ (i : Int) + 1 := by omega
  have hb1 : (0 : Int) ≤ (i : Int) + 1 := by omega
  have htn : ((i : Int) + 1).toNat = i + 1 := by omega
  have hi1 : i + 1 - i = 1 := by omega
  have HO := hid hown
  clear hown
  go_enter Try.func110, Try.ntmps110
  go_wp2_with fail
  go_region_law (refine room_step rfl _ _ 26 rfl B 66 _ 3 56 Try.underlying26 info66 g i (i + 1) (xs.take (i * 3)) (by simp [Act.eval, Act.put]) (owns_part HO.out (by omega)) ⟨g, 0, none⟩ 0 0 [] (by simp [Act.eval, Act.put]) (by simp) (by simp) (by simp) (by omega) ?_; intro w1 hw1 hg1; rw [Nat.add_zero, List.append_nil] at hw1; rw [Nat.add_zero])
  all_goals
    have HG1 := hid (grown_drew hg1.out)
    clear hg1
    obtain ⟨w2, hrun, hw2, hg2⟩ := clear_run (P := Try.prog) 26 0 B 66 (.agg #[.int .i64 0, .slice none 0 0, .slice none 0 0]) 3 56 Try.underlying26 info66 rfl (by decide) g i (i + 1) 1 _ hw1.out (by omega)
    have HF := hid (And.intro hw2 (HG1.out.trans hg2))
    clear hw1 hw2 hg2 HG1
    go_wp2
    go_ret
    exact ⟨rfl, HF.out.1, HF.out.2⟩
set_option maxHeartbeats 1000000 in
set_option maxRecDepth 100000 in
theorem delete_one (g n c i : Nat) (B : Nat) (xs : List Value) (w : World) (hi : i < n) (hce : ¬ (c = i + 1)) (hown : w.ownsRow B 66 3 (.slice (some ⟨g, 0, none⟩) n c) n xs) (h1 : ∀ u ∈ xs, u.oneCell' = true) :
    Calls Try.prog 110 #[.slice (some ⟨g, 0, none⟩) n c, .int .i64 i, .int .i64 ((i : Int) + 1)] w fun e w' =>
      e = .returned (.slice (some ⟨g, 0, none⟩) (n - 1) c) ∧ w'.ownsRow B 66 3 (.slice (some ⟨g, 0, none⟩) (n - 1) c) (n - 1) (xs.take (i * 3) ++ xs.drop ((i + 1) * 3)) ∧ w.grownBy w' (some g) := by
  have hxl := hown.1
  obtain ⟨hnc, hcm⟩ : n ≤ c ∧ c ≤ maxLen := by
    rcases hown.2 with ⟨e, _⟩ | ⟨g', c', cur, e, _, hb, q1, q2, h5, h6⟩
    · cases e
    · cases e; exact ⟨q1, q2⟩
  unfold maxLen at hcm
  have hcx : c ≤ 9223372036854775807 := hcm
  have hz1 : ¬ ((i : Int) = (i : Int) + 1) := by omega
  have hb0 : (i : Int) ≤ (i : Int) + 1 := by omega
  have hb1 : (0 : Int) ≤ (i : Int) + 1 := by omega
  have hb3 : (i : Int) ≤ (n : Int) := by omega
  have hb4 : (i : Int) + 1 ≤ (n : Int) := by omega
  have hbc : (i : Int) ≤ (c : Int) := by omega
  have hnc' : (n : Int) ≤ (c : Int) := by omega
  have htn : ((i : Int) + 1).toNat = i + 1 := by omega
  have HO := hid hown
  have H1 := hid h1
  clear hown h1
  go_enter Try.func110, Try.ntmps110
  go_wp2_with fail
  obtain ⟨k, hk⟩ : ∃ k, k + 1 = n := ⟨n - 1, by omega⟩
  have hik : i + (n - (i + 1)) = k := by omega
  have HNEW : Hid (∀ j v, (xs.drop ((i + 1) * 3))[j]? = some v → w.cell? ⟨g, (i + 1) * 3 + j, none⟩ = some v) := hid (fun j v hj => by
    rw [List.getElem?_drop] at hj
    have := (List.getElem?_eq_some_iff.1 hj).1
    rw [HO.out.cellAt _ (by omega)]
    exact hj)
  have hkc : (k : Int) ≤ (n : Int) := by omega
  have hk0 : ¬ (c = k) := by omega
  have hkn : n - k = 1 := by omega
  go_region_law (refine room_step rfl _ _ 26 rfl B 66 _ 3 56 Try.underlying26 info66 g i c (xs.take (i * 3)) (by simp [Act.eval, Act.put]) (owns_part HO.out (by omega)) ⟨g, (i + 1) * 3, none⟩ (n - (i + 1)) (c - (i + 1)) (xs.drop ((i + 1) * 3)) (by simp [Act.eval, Act.put]) (by rw [List.length_drop, hxl]; omega) (fun j v hj => by rw [Addr.add_lit]; exact HNEW.out j v hj) (fun v hv => H1.out v (List.mem_of_mem_drop hv)) (by omega) ?_; intro w1 hw1 hg1; rw [hik] at hw1 ⊢)
  all_goals
    have HG1 := hid (grown_drew hg1.out)
    clear hg1
    have hkk : n - 1 = k := by omega
    obtain ⟨w2, hrun, hw2, hg2⟩ := clear_run (P := Try.prog) 26 0 B 66 (.agg #[.int .i64 0, .slice none 0 0, .slice none 0 0]) 3 56 Try.underlying26 info66 rfl (by decide) g k c (c - k) _ hw1.out (by omega)
    have HF := hid (And.intro hw2 (HG1.out.trans hg2))
    clear hw1 hw2 hg2 HG1
    go_wp2
    go_ret
    rw [hkk]
    exact ⟨rfl, HF.out.1, HF.out.2⟩
theorem delete_at (g n c i : Nat) (B : Nat) (xs : List Value) (w : World) (hi : i < n) (hown : w.ownsRow B 66 3 (.slice (some ⟨g, 0, none⟩) n c) n xs) (h1 : ∀ u ∈ xs, u.oneCell' = true) :
    Calls Try.prog 110 #[.slice (some ⟨g, 0, none⟩) n c, .int .i64 i, .int .i64 ((i : Int) + 1)] w fun e w' =>
      e = .returned (.slice (some ⟨g, 0, none⟩) (n - 1) c) ∧ w'.ownsRow B 66 3 (.slice (some ⟨g, 0, none⟩) (n - 1) c) (n - 1) (xs.take (i * 3) ++ xs.drop ((i + 1) * 3)) ∧ w.grownBy w' (some g) := by
  by_cases hce : c = i + 1
  · have hxl := hown.1
    have hnc : n ≤ c := by
      rcases hown.2 with ⟨e, _⟩ | ⟨g', c', cur, e, _, hb, q1, q2, h5, h6⟩
      · cases e
      · cases e; exact q1
    have hn : n = i + 1 := by omega
    subst hn hce
    rw [List.drop_eq_nil_of_le (by omega), List.append_nil]
    exact delete_full g i B xs w hown
  · exact delete_one g n c i B xs w hi hce hown h1
end Go.Proofs.Ytckkkdldljhehaa.St
