/- Put together: copy between slices whose elements take several cells, and append of zeros, as laws for the walk: what becomes of the row that is written. No project text. What slices.Insert answers when called over tables of one's own with one table more, ahead of their end, where there is no room: the tables and the one among them, in a row of their own. What slices.Insert answers when called over tables of one's own with one table more, ahead of their end, where there is room: the tables and the one among them, in the same row. What slices.Insert answers when called over tables of one's own with one table more, at any place: what putIn asks of it. What slices.Delete answers when called over tables of one's own and one of their places: the tables without the one, in the same row. What seek of package store answers when called over any store and number: where the thing stands, in a good store that has it; else the error. A row of a list of rows of one's own: its cells, and what becomes of it as it is written. Lemmas on worlds, no walk. Tables of one's own: what becomes of them as a thing is taken out. Lemmas on worlds, no walk. What takeOut of package store answers when called over tables of one's own and where a thing stands: the tables without the thing, the last of its table in its place. What Kill of package store answers when called over any store and number: the store without the thing, or as it was and the error; nothing that was in memory before has changed. What Set of package store answers when called over any store, number and row: the store with that row of the thing, or as it was and the error; nothing that was in memory before has changed. What Change of package store answers when called over any store, number, mask and row: the store with the thing of that mask, or as it was and the error; nothing that was in memory before has changed. -/
import Derived.Test.YtckkkdldljhehaaPkC
import Derived.Laws.CopyOwn
import Derived.Lib.AppendZerosOnto
import Derived.Lib.Overlaps
import Derived.Laws.Externs
import Derived.Test.YtckkkdldljhehaaKtStCut
import Derived.BigRegion
import Derived.Deep.DeepCutAuto
import Derived.Test.YtckkkdldljhehaaKtStLs
import Derived.Deep.DrawnRows
namespace Go.Proofs.Ytckkkdldljhehaa.St
open Go.Proofs.Ytckkkdldljhehaa.Num
open Go.ChangeShapes Go.WideShapes Go.ChangeAt Go.RowKit

theorem run_copyN {P : Program} (w : World) (dT sT ty elem : TypeId) (g o dLen dCap : Nat) (a : Addr) (sLen sCap k : Nat) (cur : List Value) (t : TypeId) (cs : List Value)
    (hu : P.underlying dT = some (.slice elem)) (hs : (P.info? elem).map (·.size) = some k)
    (hg : w.heap[g]? = some (.cells cur.toArray t (0, 0))) (hn : cs.length = Nat.min sLen dLen * k)
    (hsrc : ∀ j v, cs[j]? = some v → w.cell? (a.add j) = some v) (hfit : o + cs.length ≤ cur.length) (h1 : ∀ v ∈ cs, v.oneCell' = true) :
    (Builtin.copy_ #[dT, sT] ty #[.slice (some ⟨g, o, none⟩) dLen dCap, .slice (some a) sLen sCap]).run P w = .ok (goInt (Nat.min sLen dLen)) (w.setRow g (splice cur o cs).toArray) := by
  have hl := run_loadCells_list (P := P) w a cs hsrc
  have hst := run_storeCells_at P g o t cs 0 cur.toArray w hg (by simpa using hfit) h1
  cases hq : P.info? elem with
  | none => simp [hq] at hs
  | some i =>
    have hi : i.size = k := by simpa [hq] using hs
    rw [hn] at hl
    simp [Builtin.copy_, run_underlying hu, Builtin.lenOf, Builtin.firstCells, sizeOf, typeInfo, hq, hi, hl, hst, splice]

theorem grown_setRow {w : World} {g : Nat} (cs : Array Value) : w.grownBy (w.setRow g cs) (some g) := by
  refine ⟨rfl, rfl, rfl, by simp [World.setRow], fun k _ hk => ?_⟩
  have hne : g ≠ k := fun e => hk (by rw [e])
  simp [World.setRow, Array.getElem?_modify, hne]

/-- copy into a row that is known whole: the law at the operation. -/
theorem copy_list {P : Program} {w : World} {ops : Array Oper} {rest : List Oper} {o : Oper} {a : Act} {Q : Exit → Act → World → Prop} (hgd : o.guard = none) (d s : Operand) (dT sT : TypeId)
    (ho : o.op = .call { callee := .builtin .copy, args := #[d, s], argTypes := #[dT, sT] }) (elem : TypeId) (k : Nat) (hu : P.underlying dT = some (.slice elem)) (hsz : (P.info? elem).map (·.size) = some k)
    (g off dLen dCap : Nat) (ad : Addr) (sLen sCap : Nat) (hd : a.eval d = .slice (some ⟨g, off, none⟩) dLen dCap) (hs : a.eval s = .slice (some ad) sLen sCap)
    (cur : List Value) (t : TypeId) (hg : w.heap[g]? = some (.cells cur.toArray t (0, 0))) (cs : List Value) (hn : cs.length = Nat.min sLen dLen * k)
    (hsrc : ∀ j v, cs[j]? = some v → w.cell? (ad.add j) = some v) (hfit : off + cs.length ≤ cur.length) (h1 : ∀ v ∈ cs, v.oneCell' = true)
    (h : ∀ w', Hid (w'.heap[g]? = some (.cells (splice cur off cs).toArray t (0, 0))) → Hid (w.grownBy w' (some g)) → wpList P ops Q rest (a.put o.dst (goInt (Nat.min sLen dLen))) w') :
    wpList P ops Q (o :: rest) a w := by
  refine wpList_plain hgd fun K hK => ?_
  have hrun := run_copyN (P := P) w dT sT o.type elem g off dLen dCap ad sLen sCap k cur t cs hu hsz hg hn hsrc hfit h1
  unfold Oper.wp execOp
  simp only [ho, resolve, invoke, builtin, Sem.run_bind, Sem.run_pure, Result.andThen_ok, List.map_toArray, List.map_cons, List.map_nil, hd, hs, hrun]
  exact hK _ _ (h _ (setRow_heap w g _ _ t _ hg) (grown_setRow _))
/-- .. and as one step of a region that draws. -/
theorem copy_step {P : Program} {w : World} {ops : Array Oper} {o : Oper} {a : Act} {K : Act → World → Prop} {Q : Exit → Act → World → Prop} {E : Prop} (hgd : o.guard = none) (d s : Operand) (dT sT : TypeId)
    (ho : o.op = .call { callee := .builtin .copy, args := #[d, s], argTypes := #[dT, sT] }) (elem : TypeId) (k : Nat) (hu : P.underlying dT = some (.slice elem)) (hsz : (P.info? elem).map (·.size) = some k)
    (g off dLen dCap : Nat) (ad : Addr) (sLen sCap : Nat) (hd : a.eval d = .slice (some ⟨g, off, none⟩) dLen dCap) (hs : a.eval s = .slice (some ad) sLen sCap)
    (cur : List Value) (t : TypeId) (hg : w.heap[g]? = some (.cells cur.toArray t (0, 0))) (cs : List Value) (hn : cs.length = Nat.min sLen dLen * k)
    (hsrc : ∀ j v, cs[j]? = some v → w.cell? (ad.add j) = some v) (hfit : off + cs.length ≤ cur.length) (h1 : ∀ v ∈ cs, v.oneCell' = true)
    (h : ∀ w', Hid (w'.heap[g]? = some (.cells (splice cur off cs).toArray t (0, 0))) → Hid (w.grownBy w' (some g)) → K (a.put o.dst (goInt (Nat.min sLen dLen))) w') :
    if Region.wanted o (yielded ops a.tmps) = true then Oper.wp P o a w K Q else E := by
  have hw : Region.wanted o (yielded ops a.tmps) = true := by simp [Region.wanted, hgd]
  rw [if_pos hw]
  have hrun := run_copyN (P := P) w dT sT o.type elem g off dLen dCap ad sLen sCap k cur t cs hu hsz hg hn hsrc hfit h1
  unfold Oper.wp
  simp [execOp, ho, resolve, invoke, builtin, hd, hs, hrun, Result.andThen]
  exact h _ (setRow_heap w g _ _ t _ hg) (grown_setRow _)

/-- 'append(s[:i], make(S, k)...)' where there is no room: a new row. -/
theorem zeros_list {P : Program} {w : World} {ops : Array Oper} {rest : List Oper} {o : Oper} {a : Act} {Q : Exit → Act → World → Prop} (hgd : o.guard = none) (s x : Operand) (t tn : TypeId)
    (ho : o.op = .call { callee := .builtin .append, args := #[s, x], argTypes := #[t, tn] }) (e : TypeId) (i : TypeInfo) (z : Value) (kn : IntKind) (ht : P.underlying t = some (.slice e)) (htn : P.underlying tn = some (.int kn)) (hi : P.info? e = some i) (hz : i.zero = some z) (hzs : z.cells.size = i.size) (hs0 : 0 < i.size)
    (g sLen sCap k : Nat) (q : Int) (hq : q = k) (hs : a.eval s = .slice (some ⟨g, 0, none⟩) sLen sCap) (hx : a.eval x = .int .i64 q) (olds : List Value) (hol : olds.length = sLen * i.size)
    (hcs : ∀ j v, olds[j]? = some v → w.cell? ⟨g, j, none⟩ = some v) (hk : 0 < k) (hgr : sCap < sLen + k) (hb : (sLen + k) * i.bytes ≤ 140737488355328) (h63 : sLen + k ≤ maxLen)
    (h : ∀ G zs w', sLen + k ≤ G → G ≤ maxLen → zs.length = (G - sLen) * i.size → Hid (w'.heap[w.heap.size]? = some (.cells (olds ++ zs).toArray e (0, 0))) → Hid (Below w.heap.size w w') → w.heap.size < w'.heap.size → wpList P ops Q rest (a.put o.dst (.slice (some ⟨w.heap.size, 0, none⟩) (sLen + k) G)) w') :
    wpList P ops Q (o :: rest) a w := by
  refine wpList_plain hgd fun K hK => ?_
  have hold : (Builtin.firstCells i.size sLen (.slice (some ⟨g, 0, none⟩) sLen sCap)).run P w.drew = .ok olds.toArray w.drew :=
    run_firstCells_some w.drew i.size sLen ⟨g, 0, none⟩ sLen sCap olds hol (fun j v hj => by rw [Addr.add_lit, Nat.zero_add]; exact hcs j v hj)
  have hkb : k * i.bytes ≤ (sLen + k) * i.bytes := Nat.mul_le_mul_right _ (by omega)
  have hrun := Lib.run_append_grow_zeros (P := P) w t tn o.type e i z .i64 kn ht htn hi hz (some ⟨g, 0, none⟩) sLen sCap olds hold k hk hs0 hgr (by unfold maxLen at h63; omega) (by omega) (growslice_fits hgr hb)
  subst hq
  unfold Oper.wp execOp
  simp only [ho, resolve, invoke, builtin, Sem.run_bind, Sem.run_pure, Result.andThen_ok, List.map_toArray, List.map_cons, List.map_nil, hs, hx, hrun]
  refine hK _ _ (h (grownCap w (sLen + k) sCap e) ((Builtin.zeroCells z.cells k ++ Builtin.zeroCells z.cells (grownCap w (sLen + k) sCap e - (sLen + k))).toList) _ (grownCap_ge _ _ _ _) (grownCap_le_maxLen _ _ _ _ h63) ?_ ?_ ?_ ?_)
  · have := grownCap_ge w (sLen + k) sCap e
    simp [Builtin.zeroCells, hzs]
    rw [← Nat.add_mul]
    congr 1
    omega
  · have : (w.drew.alloc (.cells (olds.toArray ++ Builtin.zeroCells z.cells k ++ Builtin.zeroCells z.cells (grownCap w (sLen + k) sCap e - (sLen + k))) e)).heap[w.heap.size]? = some (.cells (olds.toArray ++ Builtin.zeroCells z.cells k ++ Builtin.zeroCells z.cells (grownCap w (sLen + k) sCap e - (sLen + k))) e (0, 0)) := (MapKept.heap_alloc w.drew _).1
    refine hid ?_
    rw [this]
    simp [Array.append_assoc]
  · exact hid ((Below.drew (Below.refl _ w)).alloc (Nat.le_refl _) _)
  · simp
end Go.Proofs.Ytckkkdldljhehaa.St
namespace Go.Proofs.Ytckkkdldljhehaa.St
open Go.Proofs.Ytckkkdldljhehaa.Num
open Go.ChangeShapes Go.WideShapes Go.ChangeAt Go.RowKit

theorem size66 : (Try.prog.info? 66).map (·.size) = some 3 := by kernel_rfl
def newT (m : Int) : List Value := [.int .i64 m, .slice none 0 0, .slice none 0 0]

theorem splice_at {α : Type} (A Z N : List α) : splice (A ++ Z) A.length N = A ++ N ++ Z.drop N.length := by
  unfold splice
  rw [List.take_left', List.drop_append, List.drop_eq_nil_of_le (by omega), Nat.add_sub_cancel_left]
  · simp
  · rfl
set_option maxHeartbeats 1000000 in
set_option maxRecDepth 100000 in
theorem insert_grow (g n c i vb : Nat) (m : Int) (B : Nat) (xs : List Value) (w : World) (hn : (n + 1) * 56 ≤ 140737488355328) (hi : i < n) (hnc : n ≤ c) (hroom : c < n + 1) (hvb : vb < w.heap.size) (hown : w.ownsRow B 66 3 (.slice (some ⟨g, 0, none⟩) n c) n xs)
    (hv : w.cell? ⟨vb, 0, none⟩ = some (.int .i64 m) ∧ w.cell? ⟨vb, 1, none⟩ = some (.slice none 0 0) ∧ w.cell? ⟨vb, 2, none⟩ = some (.slice none 0 0)) (h1 : ∀ u ∈ xs, u.oneCell' = true) :
    Calls Try.prog 109 #[.slice (some ⟨g, 0, none⟩) n c, .int .i64 i, .slice (some ⟨vb, 0, none⟩) 1 1] w fun e w' =>
      ∃ G, e = .returned (.slice (some ⟨w.heap.size, 0, none⟩) (n + 1) G) ∧ w'.ownsRow w.heap.size 66 3 (.slice (some ⟨w.heap.size, 0, none⟩) (n + 1) G) (n + 1) (xs.take (i * 3) ++ (newT m ++ xs.drop (i * 3))) ∧ Below w.heap.size w w' := by
  obtain ⟨i0, hi0, hz0, hzs, hzb⟩ := info_parts info66
  have hxl := hown.1
  have HO := hid hown
  have HV := hid hv
  have H1 := hid h1
  have hgl := (hown.lt g rfl).2
  clear hown hv h1
  have hz1 : ¬ ((i : Int) = (n : Int)) := by omega
  have hci : ¬ (c = i) := by omega
  have hnx : n ≤ 9223372036854775806 := by omega
  have hcx : c ≤ 9223372036854775806 := by omega
  obtain ⟨X1, hX1⟩ : ∃ X1, X1 = xs.take (i * 3) := ⟨_, rfl⟩
  obtain ⟨X2, hX2⟩ : ∃ X2, X2 = xs.drop (i * 3) := ⟨_, rfl⟩
  have hx1l : X1.length = i * 3 := by rw [hX1, List.length_take]; omega
  have hx2l : X2.length = (n - i) * 3 := by rw [hX2, List.length_drop]; omega
  have HX1 := hid hX1
  have HX2 := hid hX2
  clear hX1 hX2
  have hzc : (Value.agg #[.int .i64 0, .slice none 0 0, .slice none 0 0]).cells.size = i0.size := by rw [hzs]; rfl
  go_enter Try.func109, Try.ntmps109
  go_wp2_with (at_builtin; refine zeros_list rfl _ _ 26 3 rfl 66 i0 (.agg #[.int .i64 0, .slice none 0 0, .slice none 0 0]) .i64 Try.underlying26 Try.underlying3 hi0 hz0 hzc (by omega) g i c (n + 1 - i) _ ?c0 rfl rfl X1 ?c1 ?c2 ?c3 ?c4 ?c5 ?c6 ?_)
  case c0 => omega
  case c1 => rw [hzs]; exact hx1l
  case c2 =>
    intro j v hj
    have hjl : j < i * 3 := by rw [← hx1l]; exact (List.getElem?_eq_some_iff.1 hj).1
    rw [HX1.out, List.getElem?_take, if_pos hjl] at hj
    rw [HO.out.cellAt j (by omega)]
    exact hj
  case c3 => omega
  case c4 => omega
  case c5 => rw [hzb]; omega
  case c6 => unfold maxLen; omega
  have hik : i + (n + 1 - i) = n + 1 := by omega
  rw [hik]
  intro G zs w1 hG1 hG2 hzl hrow hbl hsz
  unfold maxLen at hG2
  have hvw := (hbl.out.cell (p := ⟨vb, 0, none⟩) hvb).trans HV.out.1
  have hvw1 := (hbl.out.cell (p := ⟨vb, 1, none⟩) hvb).trans HV.out.2.1
  have hvw2 := (hbl.out.cell (p := ⟨vb, 2, none⟩) hvb).trans HV.out.2.2
  have HVW := hid (And.intro hvw (And.intro hvw1 hvw2))
  have HIK := hid hik
  clear hvw hvw1 hvw2 hik
  have hGi : ¬ (G = i) := by omega
  have hGi1 : ¬ (G = i + 1) := by omega
  go_wp2_with (refine copy_list rfl _ _ 26 26 rfl 66 3 Try.underlying26 size66 w.heap.size (i * 3) (n + 1 - i) _ ⟨vb, 0, none⟩ 1 1 rfl rfl (X1 ++ zs) 66 hrow.out (newT m) ?d1 ?d2 ?d3 ?d4 ?_)
  case d1 =>
    show 3 = _
    have : Nat.min 1 (n + 1 - i) = 1 := by show min 1 (n + 1 - i) = 1; omega
    rw [this]
  case d2 =>
    intro j v hj
    rw [Addr.add_lit, Nat.zero_add]
    match j, hj with
    | 0, hj => cases hj; exact HVW.out.1
    | 1, hj => cases hj; exact HVW.out.2.1
    | 2, hj => cases hj; exact HVW.out.2.2
  case d3 => rw [List.length_append, hx1l, hzl]; show i * 3 + 3 ≤ _; omega
  case d4 => intro v hv; simp [newT] at hv; rcases hv with rfl | rfl <;> rfl
  intro w2 hrow2 hg2
  have hw1 : IntKind.i64.wrap ((i : Int) + 1) = (i : Int) + 1 := by rw [IntKind.wrap_i64]; omega
  have hb1 : (0 : Int) ≤ (i : Int) + 1 := by omega
  have hb3 : (i : Int) ≤ (n : Int) := by omega
  have hb4 : (i : Int) + 1 ≤ (n : Int) + 1 := by omega
  have htn : ((i : Int) + 1).toNat = i + 1 := by omega
  obtain ⟨L2, hL2⟩ : ∃ L2, L2 = splice (X1 ++ zs) (i * 3) (newT m) := ⟨_, rfl⟩
  rw [← hL2] at hrow2
  have HL2 := hid hL2
  have hl2l : L2.length = G * 3 := by
    rw [hL2, length_splice _ _ _ (by rw [List.length_append, hx1l, hzl]; show i * 3 + 3 ≤ _; omega), List.length_append, hx1l, hzl, ← Nat.add_mul]
    congr 1
    omega
  clear hL2
  have HSRC : Hid (∀ j v, X2[j]? = some v → w2.cell? ⟨g, i * 3 + j, none⟩ = some v) := hid (fun j v hj => by
    have hjl : j < (n - i) * 3 := by rw [← hx2l]; exact (List.getElem?_eq_some_iff.1 hj).1
    have hb := hg2.out.block g (by have := hbl.out.size; omega) (fun e => by cases e; omega)
    rw [World.cell?_of_block (a := ⟨g, i * 3 + j, none⟩) hb, hbl.out.cell (by exact hgl), HO.out.cellAt _ (by omega)]
    rw [HX2.out, List.getElem?_drop] at hj
    exact hj)
  have H12 := hid (hbl.out.grown hg2.out (by omega) (fun q hq => by cases hq; exact Nat.le_refl _))
  go_wp2_with fail
  go_region_law (refine copy_step rfl _ _ 26 26 rfl 66 3 Try.underlying26 size66 w.heap.size ((i + 1) * 3) (n + 1 - (i + 1)) (G - (i + 1)) ⟨g, i * 3, none⟩ (n - i) (c - i) (by simp [Act.eval, Act.put]) (by simp [Act.eval, Act.put]) L2 66 hrow2.out X2 (by rw [hx2l]; congr 1; show n - i = min (n - i) (n + 1 - (i + 1)); omega) (fun j v hj => by rw [Addr.add_lit]; exact HSRC.out j v hj) (by rw [hx2l, hl2l]; omega) (fun v hv => H1.out v (by rw [HX2.out] at hv; exact List.mem_of_mem_drop hv)) ?_; intro w3 hrow3 hg3)
  all_goals
    have hfin : Hid (w3.ownsRow w.heap.size 66 3 (.slice (some ⟨w.heap.size, 0, none⟩) (n + 1) G) (n + 1) (xs.take (i * 3) ++ (newT m ++ xs.drop (i * 3)))) := by
      have e1 : L2 = (X1 ++ newT m) ++ zs.drop 3 := by
        rw [HL2.out, ← hx1l, splice_at]
        simp [newT]
      have hl1 : (X1 ++ newT m).length = (i + 1) * 3 := by rw [List.length_append, hx1l]; show i * 3 + 3 = _; omega
      have e2 : splice L2 ((i + 1) * 3) X2 = (X1 ++ newT m) ++ (X2 ++ (zs.drop 3).drop X2.length) := by rw [e1, ← hl1, splice_at, List.append_assoc (X1 ++ newT m)]
      have hr := hrow3.out
      rw [e2] at hr
      have hlen : ((X1 ++ newT m) ++ X2).length = (n + 1) * 3 := by rw [List.length_append, hl1, hx2l, ← Nat.add_mul]; congr 1; omega
      refine hid ⟨by rw [← HX1.out, ← HX2.out, ← List.append_assoc]; exact hlen, Or.inr ⟨w.heap.size, G, _, rfl, Nat.le_refl _, hr, hG1, by unfold maxLen; omega, ?_, ?_⟩⟩
      · rw [List.size_toArray, ← List.append_assoc, List.length_append, hlen, List.length_drop, List.length_drop, hzl, hx2l]
        omega
      · rw [← hlen, ← List.append_assoc, List.take_left', HX1.out, HX2.out, List.append_assoc]
        rfl
    have hbf := hid (H12.out.grown (grown_drew hg3.out) (by have := hg2.out.size; omega) (fun q hq => by cases hq; exact Nat.le_refl _))
    clear hrow3 hg3 hrow2 hg2 hrow HSRC
    go_wp2
    go_ret
    exact ⟨G, rfl, hfin.out, hbf.out⟩
end Go.Proofs.Ytckkkdldljhehaa.St
namespace Go.Proofs.Ytckkkdldljhehaa.St
open Go.Proofs.Ytckkkdldljhehaa.Num
open Go.ChangeShapes Go.WideShapes Go.ChangeAt Go.RowKit

theorem splice_two {α : Type} (X1 A Z X2 N : List α) (hA : A.length = N.length) : splice (splice (X1 ++ A ++ Z) (X1.length + N.length) X2) X1.length N = X1 ++ N ++ X2 ++ Z.drop X2.length := by
  rw [show X1.length + N.length = (X1 ++ A).length by rw [List.length_append, hA], splice_at (X1 ++ A) Z X2, List.append_assoc, List.append_assoc, splice_at X1, List.append_assoc, ← hA, List.drop_left]
  simp

set_option maxHeartbeats 1000000 in
set_option maxRecDepth 100000 in
theorem insert_shift (g n c i vb : Nat) (m : Int) (B : Nat) (xs : List Value) (w : World) (hi : i < n) (hroom : n + 1 ≤ c) (hc63 : c ≤ maxLen) (hvg : vb ≠ g) (hown : w.ownsRow B 66 3 (.slice (some ⟨g, 0, none⟩) n c) n xs)
    (hv : w.heap[vb]? = some (.cells #[.int .i64 m, .slice none 0 0, .slice none 0 0] 66 (0, 0))) (h1 : ∀ u ∈ xs, u.oneCell' = true) :
    Calls Try.prog 109 #[.slice (some ⟨g, 0, none⟩) n c, .int .i64 i, .slice (some ⟨vb, 0, none⟩) 1 1] w fun e w' =>
      e = .returned (.slice (some ⟨g, 0, none⟩) (n + 1) c) ∧ w'.ownsRow B 66 3 (.slice (some ⟨g, 0, none⟩) (n + 1) c) (n + 1) (xs.take (i * 3) ++ (newT m ++ xs.drop (i * 3))) ∧ w.grownBy w' (some g) := by
  have hxl := hown.1
  have hbB := (hown.lt g rfl).1
  obtain ⟨cur, hcur, hcs, htk⟩ : ∃ cur : Array Value, w.heap[g]? = some (.cells cur 66 (0, 0)) ∧ cur.size = c * 3 ∧ cur.toList.take (n * 3) = xs := by
    rcases hown.2 with ⟨e, _⟩ | ⟨g', c', cur, e, _, hb, _, _, h5, h6⟩
    · cases e
    · cases e; exact ⟨cur, hb, h5, h6⟩
  unfold maxLen at hc63
  have hov : ∀ lb cb, (callFunc 129 #[.slice (some ⟨vb, 0, none⟩) 1 1, .slice (some ⟨g, (i + 1) * 3, none⟩) lb cb]).run Try.prog w = .ok (.value (.bool false)) w := fun lb cb => by
    rw [run_callFunc_extern Try.func129 (by kernel_rfl) (by kernel_rfl) (by kernel_rfl) (e := Extern.SlicesOverlaps.overlaps #[26, 26] #[4]) (by kernel_rfl),
      Lib.run_overlaps_apart w 26 4 66 Try.underlying26 3 Try.sizeOf66 ⟨vb, 0, none⟩ ⟨g, (i + 1) * 3, none⟩ 1 1 lb cb hvg 66 66 3 (c * 3) (by simp [World.shape?, hv]) (by simp [World.shape?, hcur, hcs]) (by omega) (by simp [World.frozen?, hv]) (by simp [World.frozen?, hv])]
    rfl
  have hz1 : ¬ ((i : Int) = (n : Int)) := by omega
  have hcx : c ≤ 9223372036854775807 := by omega
  have hnx : n ≤ 9223372036854775806 := by omega
  have hnc1 : ¬ ((c : Int) < (n : Int) + 1) := by omega
  obtain ⟨X2, hX2⟩ : ∃ X2, X2 = xs.drop (i * 3) := ⟨_, rfl⟩
  have hx2l : X2.length = (n - i) * 3 := by rw [hX2, List.length_drop]; omega
  have hw1 : IntKind.i64.wrap ((i : Int) + 1) = (i : Int) + 1 := by rw [IntKind.wrap_i64]; omega
  have hb1 : (0 : Int) ≤ (i : Int) + 1 := by omega
  have hb3 : (i : Int) ≤ (n : Int) := by omega
  have hb4 : (i : Int) + 1 ≤ (n : Int) + 1 := by omega
  have hb5 : (i : Int) ≤ (n : Int) + 1 := by omega
  have hci : ¬ (c = i) := by omega
  have hci1 : ¬ (c = i + 1) := by omega
  have htn : ((i : Int) + 1).toNat = i + 1 := by omega
  have HO := hid hown
  have HV := hid hv
  have H1 := hid h1
  have HX2 := hid hX2
  have HC := hid hcur
  have HT := hid htk
  clear hown hv h1 hX2 hcur htk
  go_enter Try.func109, Try.ntmps109
  go_wp2_with (simp only [hov])
  have hcl : cur.toList.length = c * 3 := by rw [Array.length_toList]; exact hcs
  have HSRC : Hid (∀ j v, X2[j]? = some v → w.cell? ⟨g, i * 3 + j, none⟩ = some v) := hid (fun j v hj => by
    have hjl : j < (n - i) * 3 := by rw [← hx2l]; exact (List.getElem?_eq_some_iff.1 hj).1
    rw [HO.out.cellAt _ (by omega)]
    rw [HX2.out, List.getElem?_drop] at hj
    exact hj)
  go_region_law (refine copy_step rfl _ _ 26 26 rfl 66 3 Try.underlying26 size66 g ((i + 1) * 3) (n + 1 - (i + 1)) (c - (i + 1)) ⟨g, i * 3, none⟩ (n + 1 - i) (c - i) (by simp [Act.eval, Act.put]) (by simp [Act.eval, Act.put]) cur.toList 66 HC.out X2 (by rw [hx2l]; congr 1; show n - i = min (n + 1 - i) (n + 1 - (i + 1)); omega) (fun j v hj => by rw [Addr.add_lit]; exact HSRC.out j v hj) (by rw [hx2l, hcl]; omega) (fun v hv => H1.out v (by rw [HX2.out] at hv; exact List.mem_of_mem_drop hv)) ?_; intro w1 hrow1 hg1)
  all_goals
    have hl1l : (splice cur.toList ((i + 1) * 3) X2).length = c * 3 := by rw [length_splice _ _ _ (by rw [hx2l, hcl]; omega), hcl]
    obtain ⟨L1, hL1⟩ : ∃ L1, L1 = splice cur.toList ((i + 1) * 3) X2 := ⟨_, rfl⟩
    rw [← hL1] at hrow1 hl1l
    have HL1 := hid hL1
    have HG1 := hid (grown_drew hg1.out)
    have HV1 := hid ((hg1.out.block vb (by simpa using (Array.getElem?_eq_some_iff.1 HV.out).1) (fun e => hvg (by cases e; rfl))).trans HV.out)
    clear hL1 hg1
    go_wp2_with (refine copy_list rfl _ _ 26 26 rfl 66 3 Try.underlying26 size66 g (i * 3) (n + 1 - i) _ ⟨vb, 0, none⟩ 1 1 rfl rfl L1 66 hrow1.out (newT m) ?d1 ?d2 ?d3 ?d4 ?_)
    case d1 =>
      show 3 = _
      have : Nat.min 1 (n + 1 - i) = 1 := by show min 1 (n + 1 - i) = 1; omega
      rw [this]
    case d2 =>
      intro j v hj
      rw [Addr.add_lit, Nat.zero_add]
      have hb := HV1.out
      match j, hj with
      | 0, hj => cases hj; simp [World.cell?, hb]
      | 1, hj => cases hj; simp [World.cell?, hb]
      | 2, hj => cases hj; simp [World.cell?, hb]
    case d3 => rw [hl1l]; show i * 3 + 3 ≤ _; omega
    case d4 => intro v hv; simp [newT] at hv; rcases hv with rfl | rfl <;> rfl
    intro w2 hrow2 hg2
    have hfin : Hid (w2.ownsRow B 66 3 (.slice (some ⟨g, 0, none⟩) (n + 1) c) (n + 1) (xs.take (i * 3) ++ (newT m ++ xs.drop (i * 3)))) := by
      have hx1l : (xs.take (i * 3)).length = i * 3 := by rw [List.length_take]; omega
      have e0 : cur.toList = xs.take (i * 3) ++ (cur.toList.drop (i * 3)).take 3 ++ cur.toList.drop (i * 3 + 3) := by
        have ex : xs.take (i * 3) = cur.toList.take (i * 3) := by rw [← HT.out, List.take_take]; congr 1; omega
        rw [ex, List.append_assoc, ← List.drop_drop, List.take_append_drop, List.take_append_drop]
      have hA : ((cur.toList.drop (i * 3)).take 3).length = (newT m).length := by rw [List.length_take, List.length_drop, hcl]; show _ = 3; omega
      have e2 : splice L1 (i * 3) (newT m) = (xs.take (i * 3) ++ newT m ++ X2) ++ (cur.toList.drop (i * 3 + 3)).drop X2.length := by
        have := splice_two (xs.take (i * 3)) _ (cur.toList.drop (i * 3 + 3)) X2 (newT m) hA
        rw [← e0, hx1l] at this
        rw [HL1.out, ← this]
        congr 2
        show (i + 1) * 3 = i * 3 + 3
        omega
      have hr := hrow2.out
      rw [e2] at hr
      have hlen : (xs.take (i * 3) ++ newT m ++ X2).length = (n + 1) * 3 := by rw [List.length_append, List.length_append, hx1l, hx2l]; show i * 3 + 3 + _ = _; omega
      refine hid ⟨by rw [← HX2.out, ← List.append_assoc]; exact hlen, Or.inr ⟨g, c, _, rfl, hbB, hr, hroom, by unfold maxLen; omega, ?_, ?_⟩⟩
      · rw [List.size_toArray, ← e2, length_splice _ _ _ (by rw [hl1l]; show i * 3 + 3 ≤ _; omega), hl1l]
      · rw [← hlen, List.take_left', HX2.out, List.append_assoc]
        rfl
    have hgf := hid (HG1.out.trans hg2.out)
    clear hrow1 hrow2 hg2 HG1 HSRC
    go_wp2
    go_ret
    exact ⟨rfl, hfin.out, hgf.out⟩
end Go.Proofs.Ytckkkdldljhehaa.St
namespace Go.Proofs.Ytckkkdldljhehaa.St
open Go.Proofs.Ytckkkdldljhehaa.Num
open Go.ChangeShapes Go.WideShapes Go.ChangeAt Go.RowKit

theorem grown_none {w w' : World} (h : w.grownBy w' none) (o : Option Nat) : w.grownBy w' o := ⟨h.os, h.tape, h.output, h.size, fun k hk _ => h.block k hk (by simp)⟩

theorem insertAt_any (a : Option Addr) (n c B : Nat) (A C : List OT) (m : Int) (hn : n = (A ++ C).length) (hz : n ≤ 1000) : InsertAt a n c B A C m := by
  cases C with
  | nil => exact insertAt_end a n c B A m (by simpa using hn) hz
  | cons o C =>
    intro W vb hB hvb hne hown hv h1
    have hlt : A.length < n := by rw [hn]; simp
    obtain ⟨g, c', e⟩ := own_some hown (by omega)
    cases e
    have hc : n ≤ c ∧ c ≤ maxLen := by
      rcases hown.2 with ⟨e, h0⟩ | ⟨g, c', _, e, _, _, h1, h2, _⟩
      · cases e
      · cases e; exact ⟨h1, h2⟩
    have hl3 : (tabCells A).length = A.length * 3 := tabCells_length A
    have e1 : (tabCells A ++ tabCells (o :: C)).take (A.length * 3) = tabCells A := by rw [← hl3, List.take_left']; rfl
    have e2 : (tabCells A ++ tabCells (o :: C)).drop (A.length * 3) = tabCells (o :: C) := by rw [← hl3, List.drop_left']; rfl
    by_cases hr : n + 1 ≤ c
    · refine (insert_shift g n c A.length vb m B _ W hlt hr hc.2 (fun e => hne g rfl e.symm) hown hv h1).mono ?_
      rintro e w' ⟨rfl, h2, h3⟩
      rw [e1, e2] at h2
      exact ⟨_, rfl, h2, h3, Or.inl rfl⟩
    · refine (insert_grow g n c A.length vb m B _ W (by omega) hlt hc.1 (by omega) hvb hown ⟨by simp [World.cell?, hv], by simp [World.cell?, hv], by simp [World.cell?, hv]⟩ h1).mono ?_
      rintro e w' ⟨G, rfl, h2, h3⟩
      rw [e1, e2] at h2
      exact ⟨_, rfl, owns_mono h2 hB, grown_none (grown_of_below h3) _, Or.inr ⟨_, Nat.le_refl _, rfl⟩⟩
end Go.Proofs.Ytckkkdldljhehaa.St
namespace Go.Proofs.Ytckkkdldljhehaa.St
open Go.Proofs.Ytckkkdldljhehaa.Num
open Go.ChangeShapes Go.WideShapes Go.ChangeAt Go.RowKit

/-- append where there is room, as one step of a region that draws. -/
theorem room_step {P : Program} {w : World} {ops : Array Oper} {o : Oper} {a : Act} {K : Act → World → Prop} {Q : Exit → Act → World → Prop} {E : Prop} (hgd : o.guard = none) (s x : Operand) (t : TypeId)
    (ho : o.op = .call { callee := .builtin .append, args := #[s, x], argTypes := #[t, t] })
    (base : Nat) (e : TypeId) (z : Value) (size bytes : Nat) (ht : P.underlying t = some (.slice e)) (hi : (P.info? e).map (fun i => (i.zero, i.size, i.bytes)) = some (some z, size, bytes))
    (g n cap : Nat) (xs : List Value) (hs : a.eval s = .slice (some ⟨g, 0, none⟩) n cap) (hown : w.ownsRow base e size (.slice (some ⟨g, 0, none⟩) n cap) n xs)
    (ad : Addr) (m c : Nat) (news : List Value) (hx : a.eval x = .slice (some ad) m c) (hl : news.length = m * size) (hnews : ∀ j u, news[j]? = some u → w.cell? (ad.add j) = some u) (h1 : ∀ u ∈ news, u.oneCell' = true)
    (hroom : n + m ≤ cap)
    (h : ∀ w', Hid (w'.ownsRow base e size (.slice (some ⟨g, 0, none⟩) (n + m) cap) (n + m) (xs ++ news)) → Hid (w.grownBy w' (some g)) → K (a.put o.dst (.slice (some ⟨g, 0, none⟩) (n + m) cap)) w') :
    if Region.wanted o (yielded ops a.tmps) = true then Oper.wp P o a w K Q else E := by
  have hw : Region.wanted o (yielded ops a.tmps) = true := by simp [Region.wanted, hgd]
  rw [if_pos hw]
  obtain ⟨i0, hi', hz0, hz1, hz2⟩ := info_parts hi
  obtain ⟨w', hr, h2, h3⟩ := run_append_fits (P := P) w base t o.type e i0 size ht hi' hz1 g n cap xs hown ad m c news hl hnews h1 hroom
  unfold Oper.wp
  simp [execOp, ho, resolve, invoke, builtin, hs, hx, hr, Result.andThen]
  exact h w' (hid h2) (hid h3)

theorem owns_part {w : World} {B g n c k size : Nat} {e : TypeId} {xs : List Value} (h : w.ownsRow B e size (.slice (some ⟨g, 0, none⟩) n c) n xs) (hk : k ≤ n) : w.ownsRow B e size (.slice (some ⟨g, 0, none⟩) k c) k (xs.take (k * size)) := by
  have hm : k * size ≤ n * size := Nat.mul_le_mul_right _ hk
  refine ⟨by rw [List.length_take, h.1]; omega, ?_⟩
  rcases h.2 with ⟨e, _⟩ | ⟨g', c', cur, e, h1, h2, h3, h4, h5, h6⟩
  · cases e
  · cases e
    refine Or.inr ⟨g, c, cur, rfl, h1, h2, by omega, h4, h5, ?_⟩
    rw [← h6, List.take_take, Nat.min_eq_left hm]

/-- clear of what lies behind the end of a row of one's own. -/
theorem clear_run {P : Program} {w : World} (t ty : TypeId) (base : Nat) (e : TypeId) (z : Value) (size bytes : Nat) (ht : P.underlying t = some (.slice e)) (hi : (P.info? e).map (fun i => (i.zero, i.size, i.bytes)) = some (some z, size, bytes))
    (hzs : z.cells.size = size) (hz1 : ∀ u ∈ z.cells.toList, u.oneCell' = true)
    (g n cap c : Nat) (xs : List Value) (hown : w.ownsRow base e size (.slice (some ⟨g, 0, none⟩) n cap) n xs) (hroom : n + 1 ≤ cap) :
    ∃ w', (Builtin.clear_ #[t] ty #[.slice (some ⟨g, n * size, none⟩) 1 c]).run P w = .ok (.tuple #[]) w' ∧ w'.ownsRow base e size (.slice (some ⟨g, 0, none⟩) n cap) n xs ∧ w.grownBy w' (some g) := by
  obtain ⟨i0, hi', hz0, hs0, hb0⟩ := info_parts hi
  rcases hown.2 with ⟨e, _⟩ | ⟨g', c', cur, e, q1, q2, q3, q4, q5, q6⟩
  · cases e
  cases e
  have hzc : (Builtin.zeroCells z.cells 1).toList = z.cells.toList := by
    simp only [Builtin.zeroCells]
    apply List.ext_getElem
    · simp
    · intro i h1 h2
      simp at h1 h2 ⊢
      rw [Nat.mod_eq_of_lt h1]
      simp [h1]
  have hfit : n * size + z.cells.toList.length ≤ cur.size := by rw [q5, Array.length_toList, hzs, ← Nat.succ_mul]; exact Nat.mul_le_mul_right _ hroom
  have hst := run_storeCells_at P g (n * size) e z.cells.toList 0 cur w q2 (by simpa using hfit) hz1
  have hrun : (Builtin.clear_ #[t] ty #[.slice (some ⟨g, n * size, none⟩) 1 c]).run P w = .ok (.tuple #[]) (w.setRow g (splice cur.toList (n * size) z.cells.toList).toArray) := by
    simp [Builtin.clear_, run_underlying ht, zeroValue, typeInfo, hi', hz0, hzc, hst, splice]
  refine ⟨_, hrun, ⟨hown.1, Or.inr ⟨g, cap, _, rfl, q1, setRow_heap w g _ _ e _ q2, q3, q4, ?_, ?_⟩⟩, grown_setRow _⟩
  · rw [List.size_toArray, length_splice _ _ _ (by simpa using hfit), Array.length_toList, q5]
  · have hl : (cur.toList.take (n * size)).length = n * size := by rw [q6]; exact hown.1
    show List.take (n * size) (List.take (n * size) cur.toList ++ _) = xs
    rw [List.take_append_of_le_length (by omega), List.take_take, Nat.min_self, q6]
set_option maxHeartbeats 1000000 in
set_option maxRecDepth 100000 in
theorem delete_full (g i : Nat) (B : Nat) (xs : List Value) (w : World) (hown : w.ownsRow B 66 3 (.slice (some ⟨g, 0, none⟩) (i + 1) (i + 1)) (i + 1) xs) :
    Calls Try.prog 110 #[.slice (some ⟨g, 0, none⟩) (i + 1) (i + 1), .int .i64 i, .int .i64 ((i : Int) + 1)] w fun e w' =>
      e = .returned (.slice (some ⟨g, 0, none⟩) i (i + 1)) ∧ w'.ownsRow B 66 3 (.slice (some ⟨g, 0, none⟩) i (i + 1)) i (xs.take (i * 3)) ∧ w.grownBy w' (some g) := by
  have hcm : i + 1 ≤ maxLen := by
    rcases hown.2 with ⟨e, _⟩ | ⟨g', c', cur, e, _, hb, q1, q2, h5, h6⟩
    · cases e
    · cases e; exact q2
  unfold maxLen at hcm
  have hcx : i ≤ 9223372036854775806 := by omega
  have hz1 : ¬ ((i : Int) = (i : Int) + 1) := by omega
  have hb0 : (i : Int) ≤ (i : Int) + 1 := by omega
  have hb1 : (0 : Int) ≤ (i : Int) + 1 := by omega
  have htn : ((i : Int) + 1).toNat = i + 1 := by omega
  have hi1 : i + 1 - i = 1 := by omega
  have HO := hid hown
  clear hown
  go_enter Try.func110, Try.ntmps110
  go_wp2_with fail
  go_region_law (refine room_step rfl _ _ 26 rfl B 66 _ 3 56 Try.underlying26 info66 g i (i + 1) (xs.take (i * 3)) (by simp [Act.eval, Act.put]) (owns_part HO.out (by omega)) ⟨g, 0, none⟩ 0 0 [] (by simp [Act.eval, Act.put]) (by simp) (by simp) (by simp) (by omega) ?_; intro w1 hw1 hg1; rw [Nat.add_zero, List.append_nil] at hw1; rw [Nat.add_zero])
  all_goals
    have HG1 := hid (grown_drew hg1.out)
    clear hg1
    obtain ⟨w2, hrun, hw2, hg2⟩ := clear_run (P := Try.prog) 26 0 B 66 (.agg #[.int .i64 0, .slice none 0 0, .slice none 0 0]) 3 56 Try.underlying26 info66 rfl (by decide) g i (i + 1) 1 _ hw1.out (by omega)
    have HF := hid (And.intro hw2 (HG1.out.trans hg2))
    clear hw1 hw2 hg2 HG1
    go_wp2
    go_ret
    exact ⟨rfl, HF.out.1, HF.out.2⟩
set_option maxHeartbeats 1000000 in
set_option maxRecDepth 100000 in
theorem delete_one (g n c i : Nat) (B : Nat) (xs : List Value) (w : World) (hi : i < n) (hce : ¬ (c = i + 1)) (hown : w.ownsRow B 66 3 (.slice (some ⟨g, 0, none⟩) n c) n xs) (h1 : ∀ u ∈ xs, u.oneCell' = true) :
    Calls Try.prog 110 #[.slice (some ⟨g, 0, none⟩) n c, .int .i64 i, .int .i64 ((i : Int) + 1)] w fun e w' =>
      e = .returned (.slice (some ⟨g, 0, none⟩) (n - 1) c) ∧ w'.ownsRow B 66 3 (.slice (some ⟨g, 0, none⟩) (n - 1) c) (n - 1) (xs.take (i * 3) ++ xs.drop ((i + 1) * 3)) ∧ w.grownBy w' (some g) := by
  have hxl := hown.1
  obtain ⟨hnc, hcm⟩ : n ≤ c ∧ c ≤ maxLen := by
    rcases hown.2 with ⟨e, _⟩ | ⟨g', c', cur, e, _, hb, q1, q2, h5, h6⟩
    · cases e
    · cases e; exact ⟨q1, q2⟩
  unfold maxLen at hcm
  have hcx : c ≤ 9223372036854775807 := hcm
  have hz1 : ¬ ((i : Int) = (i : Int) + 1) := by omega
  have hb0 : (i : Int) ≤ (i : Int) + 1 := by omega
  have hb1 : (0 : Int) ≤ (i : Int) + 1 := by omega
  have hb3 : (i : Int) ≤ (n : Int) := by omega
  have hb4 : (i : Int) + 1 ≤ (n : Int) := by omega
  have hbc : (i : Int) ≤ (c : Int) := by omega
  have hnc' : (n : Int) ≤ (c : Int) := by omega
  have htn : ((i : Int) + 1).toNat = i + 1 := by omega
  have HO := hid hown
  have H1 := hid h1
  clear hown h1
  go_enter Try.func110, Try.ntmps110
  go_wp2_with fail
  obtain ⟨k, hk⟩ : ∃ k, k + 1 = n := ⟨n - 1, by omega⟩
  have hik : i + (n - (i + 1)) = k := by omega
  have HNEW : Hid (∀ j v, (xs.drop ((i + 1) * 3))[j]? = some v → w.cell? ⟨g, (i + 1) * 3 + j, none⟩ = some v) := hid (fun j v hj => by
    rw [List.getElem?_drop] at hj
    have := (List.getElem?_eq_some_iff.1 hj).1
    rw [HO.out.cellAt _ (by omega)]
    exact hj)
  have hkc : (k : Int) ≤ (n : Int) := by omega
  have hk0 : ¬ (c = k) := by omega
  have hkn : n - k = 1 := by omega
  go_region_law (refine room_step rfl _ _ 26 rfl B 66 _ 3 56 Try.underlying26 info66 g i c (xs.take (i * 3)) (by simp [Act.eval, Act.put]) (owns_part HO.out (by omega)) ⟨g, (i + 1) * 3, none⟩ (n - (i + 1)) (c - (i + 1)) (xs.drop ((i + 1) * 3)) (by simp [Act.eval, Act.put]) (by rw [List.length_drop, hxl]; omega) (fun j v hj => by rw [Addr.add_lit]; exact HNEW.out j v hj) (fun v hv => H1.out v (List.mem_of_mem_drop hv)) (by omega) ?_; intro w1 hw1 hg1; rw [hik] at hw1 ⊢)
  all_goals
    have HG1 := hid (grown_drew hg1.out)
    clear hg1
    have hkk : n - 1 = k := by omega
    obtain ⟨w2, hrun, hw2, hg2⟩ := clear_run (P := Try.prog) 26 0 B 66 (.agg #[.int .i64 0, .slice none 0 0, .slice none 0 0]) 3 56 Try.underlying26 info66 rfl (by decide) g k c (c - k) _ hw1.out (by omega)
    have HF := hid (And.intro hw2 (HG1.out.trans hg2))
    clear hw1 hw2 hg2 HG1
    go_wp2
    go_ret
    rw [hkk]
    exact ⟨rfl, HF.out.1, HF.out.2⟩
theorem delete_at (g n c i : Nat) (B : Nat) (xs : List Value) (w : World) (hi : i < n) (hown : w.ownsRow B 66 3 (.slice (some ⟨g, 0, none⟩) n c) n xs) (h1 : ∀ u ∈ xs, u.oneCell' = true) :
    Calls Try.prog 110 #[.slice (some ⟨g, 0, none⟩) n c, .int .i64 i, .int .i64 ((i : Int) + 1)] w fun e w' =>
      e = .returned (.slice (some ⟨g, 0, none⟩) (n - 1) c) ∧ w'.ownsRow B 66 3 (.slice (some ⟨g, 0, none⟩) (n - 1) c) (n - 1) (xs.take (i * 3) ++ xs.drop ((i + 1) * 3)) ∧ w.grownBy w' (some g) := by
  by_cases hce : c = i + 1
  · have hxl := hown.1
    have hnc : n ≤ c := by
      rcases hown.2 with ⟨e, _⟩ | ⟨g', c', cur, e, _, hb, q1, q2, h5, h6⟩
      · cases e
      · cases e; exact q1
    have hn : n = i + 1 := by omega
    subst hn hce
    rw [List.drop_eq_nil_of_le (by omega), List.append_nil]
    exact delete_full g i B xs w hown
  · exact delete_one g n c i B xs w hi hce hown h1
end Go.Proofs.Ytckkkdldljhehaa.St
namespace Go.Proofs.Ytckkkdldljhehaa.St
open Go.Proofs.Ytckkkdldljhehaa.Num
open Go.ChangeShapes Go.WideShapes Go.ChangeAt Go.RowKit

set_option maxHeartbeats 1000000 in
set_option maxRecDepth 100000 in
theorem seek_any (a : Option Addr) (n cap : Nat) (next v : Int) (T : Nat → TabV) (I : Nat → Nat → Int) (R : Nat → Nat → R8) (w : World) (h : StoreIn w a n T I R) :
    Calls Try.prog 82 #[.agg #[.slice a n cap, .int .i64 next], .int .i64 v] w fun e w' =>
      ((e = .returned (.tuple #[.agg #[.int .i64 0, .int .i64 0], .int .i64 1]) ∧ ¬ GoodL next (plainOf T I R n)) ∨
       (e = .returned (.tuple #[.agg #[.int .i64 0, .int .i64 0], .int .i64 3]) ∧ GoodL next (plainOf T I R n) ∧ NoneTo T I v n) ∨
       ∃ i j : Nat, e = .returned (.tuple #[.agg #[.int .i64 i, .int .i64 j], .int .i64 0]) ∧ GoodL next (plainOf T I R n) ∧ i < n ∧ j < (T i).il ∧ I i j = v) ∧ Below w.heap.size w w' := by
  have HST := hid h
  clear h
  go_enter Try.func82, Try.ntmps82
  go_wp2_with fail
  refine ((HST.out.below (bal (bal (Below.refl _ _) _) _)).good cap next).mono ?_
  rintro e w1 ⟨⟨g, rfl, hg⟩, hb1⟩
  have HB1 := hid (bcall (bal (bal (Below.refl _ _) _) _) hb1)
  have hr := hid (rowIs_below (rowIs2 (w.alloc (.cells #[.slice a n cap, .int .i64 next] 28)) (.int .i64 0) (.int .i64 0) 98) hb1)
  have hs := hid (rowIs_below ((rowIs2 w (.slice a n cap) (.int .i64 next) 28).alloc (.cells #[.int .i64 0, .int .i64 0] 98)) hb1)
  have HG := hid hg
  have hz1 := hb1.size
  simp at hz1
  clear hb1 hg
  rw [World.size_alloc] at hr
  have x0 := hs.out.cell (i := 0) (by omega)
  have x1 := hs.out.cell (i := 1) (by omega)
  have y0 := hr.out.cell (i := 0) (by omega)
  have y1 := hr.out.cell (i := 1) (by omega)
  have yf0 := hr.out.frozen 0
  have yf1 := hr.out.frozen 1
  simp at x0 x1 y0 y1
  cases g
  · go_wp2_with fail
    refine bodyPost_ret (v := .tuple #[.agg #[.int .i64 0, .int .i64 0], .int .i64 1]) (by simp [results, Try.results82, go_sem, y0, y1]) rfl ⟨Or.inl ⟨rfl, fun hc => by have := HG.out.2 hc; cases this⟩, ?_⟩
    refine Below.setCell ?_ (by simp) _
    refine Below.setCell ?_ (by simp) _
    exact HB1.out
  · have HGL : Hid (GoodL next (plainOf T I R n)) := hid (HG.out.1 rfl)
    have hev : Hid (∀ i, i < n → (T i).rl = (T i).il ∧ (T i).il ≤ maxLen) := hid (fun i hi => by
      have h1 := (HGL.out.2.2.2.2.1 _ (mem_plain.2 ⟨i, hi, rfl⟩)).2.1
      simp only [tabOf, List.length_map, List.length_range] at h1
      have h2 := HST.out.hz i hi
      unfold maxLen
      omega)
    have hnm : n ≤ maxLen := by have := HST.out.fits.1; unfold maxLen; omega
    go_wp2_with fail
    refine (find_any a n cap next v T I _ hnm (HST.out.below HB1.out).tabs (HST.out.below HB1.out).ids hev.out).mono ?_
    rintro e w2 ⟨he, hb2⟩
    have HB2 := hid (bcall HB1.out hb2)
    have hr2 := hid (rowIs_below hr.out hb2)
    have hz2 := hb2.size
    clear hb2 x0 x1 y0 y1 yf0 yf1 hr hs HB1
    have y0 := hr2.out.cell (i := 0) (by omega)
    have y1 := hr2.out.cell (i := 1) (by omega)
    have yf0 := hr2.out.frozen 0
    have yf1 := hr2.out.frozen 1
    simp at y0 y1
    have hne : w.heap.size + 1 < w2.heap.size := by omega
    rcases he with ⟨rfl, hno⟩ | ⟨i, j, rfl, hi, hj, hq⟩
    · have HNO := hid hno
      clear hno
      go_wp2_with fail
      refine bodyPost_ret (v := .tuple #[.agg #[.int .i64 0, .int .i64 0], .int .i64 3]) (by simp [results, Try.results82, go_sem, y0, y1, hne]) rfl ⟨Or.inr (Or.inl ⟨rfl, HGL.out, HNO.out⟩), ?_⟩
      refine Below.alloc ?_ (by simp; omega) _
      refine Below.setCell ?_ (by simp) _
      refine Below.setCell ?_ (by simp) _
      exact HB2.out
    · have HQ := hid (And.intro hi (And.intro hj hq))
      clear hi hj hq
      go_wp2_with fail
      refine bodyPost_ret (v := .tuple #[.agg #[.int .i64 i, .int .i64 j], .int .i64 0]) (by simp [results, Try.results82, go_sem, y0, y1, hne]) rfl ⟨Or.inr (Or.inr ⟨i, j, rfl, HGL.out, HQ.out⟩), ?_⟩
      refine Below.alloc ?_ (by simp; omega) _
      refine Below.setCell ?_ (by simp) _
      refine Below.setCell ?_ (by simp) _
      exact HB2.out
end Go.Proofs.Ytckkkdldljhehaa.St
namespace Go.Proofs.Ytckkkdldljhehaa.St
open Go.Proofs.Ytckkkdldljhehaa.Num
open Go.ChangeShapes Go.WideShapes Go.ChangeAt Go.RowKit

/-- The cells of one row of a list of rows. -/
theorem row_at {w : World} {B g n c k : Nat} {rows : List R8} (h : w.ownsRow B 30 8 (.slice (some ⟨g, 0, none⟩) n c) n (rows.flatMap rowCells)) {r : R8} (hk : rows[k]? = some r) :
    w.cell? ⟨g, k * 8, none⟩ = some (.int .i64 r.x) ∧ w.cell? ⟨g, k * 8 + 1, none⟩ = some (.int .i64 r.y) ∧ w.cell? ⟨g, k * 8 + 2, none⟩ = some (.int .i64 r.px) ∧ w.cell? ⟨g, k * 8 + 3, none⟩ = some (.int .i64 r.py) ∧
      w.cell? ⟨g, k * 8 + 4, none⟩ = some (.int .i64 r.wd) ∧ w.cell? ⟨g, k * 8 + 5, none⟩ = some (.int .i64 r.ht) ∧ w.cell? ⟨g, k * 8 + 6, none⟩ = some (.int .i64 r.ms) ∧ w.cell? ⟨g, k * 8 + 7, none⟩ = some (.int .i64 r.rr) := by
  have hlt : k < rows.length := (List.getElem?_eq_some_iff.1 hk).1
  have hxl := h.1
  rw [rows_length] at hxl
  have e : rows = rows.take k ++ r :: rows.drop (k + 1) := by
    have h1 : rows.take k ++ rows.drop k = rows := List.take_append_drop k rows
    rw [List.drop_eq_getElem_cons hlt, (List.getElem?_eq_some_iff.1 hk).2] at h1
    exact h1.symm
  have hl : ((rows.take k).flatMap rowCells).length = k * 8 := by rw [rows_length, List.length_take]; congr 1; omega
  have key : ∀ q, q < 8 → w.cell? ⟨g, k * 8 + q, none⟩ = (rowCells r)[q]? := by
    intro q hq
    rw [h.cellAt _ (by omega), e, List.flatMap_append, List.flatMap_cons, List.getElem?_append_right (by omega), hl, show k * 8 + q - k * 8 = q by omega, List.getElem?_append_left (by exact hq)]
  exact ⟨key 0 (by omega), key 1 (by omega), key 2 (by omega), key 3 (by omega), key 4 (by omega), key 5 (by omega), key 6 (by omega), key 7 (by omega)⟩

def setRow8 (W : World) (gr x : Nat) (r : R8) : World := (((((((W.setCell ⟨gr, x * 8, none⟩ (.int .i64 r.x)).setCell ⟨gr, x * 8 + 1, none⟩ (.int .i64 r.y)).setCell ⟨gr, x * 8 + 2, none⟩ (.int .i64 r.px)).setCell ⟨gr, x * 8 + 3, none⟩ (.int .i64 r.py)).setCell ⟨gr, x * 8 + 4, none⟩ (.int .i64 r.wd)).setCell ⟨gr, x * 8 + 5, none⟩ (.int .i64 r.ht)).setCell ⟨gr, x * 8 + 6, none⟩ (.int .i64 r.ms)).setCell ⟨gr, x * 8 + 7, none⟩ (.int .i64 r.rr)

theorem setCell_comm (W : World) {p q : Addr} (h : p.block ≠ q.block) (u v : Value) : (W.setCell p u).setCell q v = (W.setCell q v).setCell p u := by
  have e : ((W.setCell p u).setCell q v).heap = ((W.setCell q v).setCell p u).heap := by
    apply Array.ext_getElem?
    intro i
    simp only [World.setCell, Array.getElem?_modify]
    by_cases h1 : p.block = i
    · by_cases h2 : q.block = i
      · omega
      · simp [h1, h2]
    · by_cases h2 : q.block = i
      · simp [h1, h2]
      · simp [h1, h2]
  simp only [World.setCell] at e ⊢
  rw [e]
theorem setRow8_comm (W : World) (gr x : Nat) (r : R8) (p : Addr) (h : p.block ≠ gr) (u : Value) : (setRow8 W gr x r).setCell p u = setRow8 (W.setCell p u) gr x r := by
  unfold setRow8
  rw [setCell_comm _ (p := ⟨gr, x * 8 + 7, none⟩) (Ne.symm h), setCell_comm _ (p := ⟨gr, x * 8 + 6, none⟩) (Ne.symm h), setCell_comm _ (p := ⟨gr, x * 8 + 5, none⟩) (Ne.symm h), setCell_comm _ (p := ⟨gr, x * 8 + 4, none⟩) (Ne.symm h), setCell_comm _ (p := ⟨gr, x * 8 + 3, none⟩) (Ne.symm h), setCell_comm _ (p := ⟨gr, x * 8 + 2, none⟩) (Ne.symm h), setCell_comm _ (p := ⟨gr, x * 8 + 1, none⟩) (Ne.symm h), setCell_comm _ (p := ⟨gr, x * 8, none⟩) (Ne.symm h)]
theorem grown_row8 (W : World) (gr x : Nat) (r : R8) : W.grownBy (setRow8 W gr x r) (some gr) :=
  (((((((grown_set W gr (x * 8) _).trans (grown_set _ gr _ _)).trans (grown_set _ gr _ _)).trans (grown_set _ gr _ _)).trans (grown_set _ gr _ _)).trans (grown_set _ gr _ _)).trans (grown_set _ gr _ _)).trans (grown_set _ gr _ _)
theorem rows_write {W : World} {B gr k rc j : Nat} {rows : List R8} (r : R8) (hr : rows.length = k + 1) (hj : j ≤ k) (h : W.ownsRow B 30 8 (.slice (some ⟨gr, 0, none⟩) (k + 1) rc) (k + 1) (rows.flatMap rowCells)) :
    (setRow8 W gr j r).ownsRow B 30 8 (.slice (some ⟨gr, 0, none⟩) (k + 1) rc) (k + 1) ((rows.set j r).flatMap rowCells) := by
  have h1 := ((((((((h.stored (j * 8) (.int .i64 r.x)).1.stored (j * 8 + 1) (.int .i64 r.y)).1.stored (j * 8 + 2) (.int .i64 r.px)).1.stored (j * 8 + 3) (.int .i64 r.py)).1.stored (j * 8 + 4) (.int .i64 r.wd)).1.stored (j * 8 + 5) (.int .i64 r.ht)).1.stored (j * 8 + 6) (.int .i64 r.ms)).1.stored (j * 8 + 7) (.int .i64 r.rr)).1
  obtain ⟨r0, e0⟩ : ∃ u, rows[j]? = some u := ⟨_, List.getElem?_eq_getElem (by omega)⟩
  have e : rows = rows.take j ++ r0 :: rows.drop (j + 1) := by
    have h1 : rows.take j ++ rows.drop j = rows := List.take_append_drop j rows
    rw [List.drop_eq_getElem_cons (by omega), (List.getElem?_eq_some_iff.1 e0).2] at h1
    exact h1.symm
  have hl : ((rows.take j).flatMap rowCells).length = j * 8 := by rw [rows_length, List.length_take]; congr 1; omega
  have es : rows.set j r = rows.take j ++ r :: rows.drop (j + 1) := by
    conv => lhs; rw [e]
    rw [List.set_append_right _ _ (by rw [List.length_take]; omega), List.length_take, Nat.min_eq_left (by omega), Nat.sub_self]
    rfl
  have ef : rows.flatMap rowCells = (rows.take j).flatMap rowCells ++ (rowCells r0 ++ (rows.drop (j + 1)).flatMap rowCells) := by
    conv => lhs; rw [e]
    rw [List.flatMap_append, List.flatMap_cons]
  rw [es, List.flatMap_append, List.flatMap_cons]
  rw [ef, set_app _ _ _ 0 _ (by omega), set_app _ _ _ 1 _ (by omega), set_app _ _ _ 2 _ (by omega), set_app _ _ _ 3 _ (by omega), set_app _ _ _ 4 _ (by omega), set_app _ _ _ 5 _ (by omega), set_app _ _ _ 6 _ (by omega), set_app _ _ _ 7 _ (by omega)] at h1
  exact h1
end Go.Proofs.Ytckkkdldljhehaa.St
namespace Go.Proofs.Ytckkkdldljhehaa.St
open Go.Proofs.Ytckkkdldljhehaa.Num
open Go.ChangeShapes Go.WideShapes Go.ChangeAt Go.RowKit

/-- takeOut's three boxes: the store, the spot, the answer. -/
structure BoxT (W : World) (b : Nat) (v : Value) (next : Int) (i j : Int) : Prop where
  s : W.rowIs b 28 2 (fun k => if k = 0 then v else .int .i64 next)
  p : W.rowIs (b + 1) 98 2 (fun k => if k = 0 then .int .i64 i else .int .i64 j)
  res : W.rowIs (b + 2) 28 2 (fun i => if i = 0 then .slice none 0 0 else .int .i64 0)
theorem BoxT.made (w : World) (v : Value) (next i j : Int) : BoxT (((w.alloc (.cells #[v, .int .i64 next] 28)).alloc (.cells #[.int .i64 i, .int .i64 j] 98)).alloc (.cells #[.slice none 0 0, .int .i64 0] 28)) w.heap.size v next i j := by
  refine ⟨((rowIs2 w _ _ _).alloc _).alloc _, ?_, ?_⟩
  · have := rowIs2 (w.alloc (.cells #[v, .int .i64 next] 28)) (.int .i64 i) (.int .i64 j) 98
    rw [World.size_alloc] at this
    exact this.alloc _
  · have := rowIs2 ((w.alloc (.cells #[v, .int .i64 next] 28)).alloc (.cells #[.int .i64 i, .int .i64 j] 98)) (.slice none 0 0) (.int .i64 0) 28
    rw [World.size_alloc, World.size_alloc] at this
    exact this
theorem BoxT.grown {W W' : World} {b : Nat} {v : Value} {next i j : Int} {row : Option Nat} (h : BoxT W b v next i j) (hg : W.grownBy W' row) (hne : ∀ x, row = some x → x < b ∨ b + 2 < x) : BoxT W' b v next i j :=
  ⟨rowIs_grown h.s hg (fun e => by have := hne _ e; omega), rowIs_grown h.p hg (fun e => by have := hne _ e; omega), rowIs_grown h.res hg (fun e => by have := hne _ e; omega)⟩
theorem BoxT.set {W : World} {b : Nat} {v : Value} {next i j : Int} (h : BoxT W b v next i j) {x : Nat} (hne : x < b ∨ b + 2 < x) (q : Nat) (u : Value) : BoxT (W.setCell ⟨x, q, none⟩ u) b v next i j :=
  ⟨h.s.setOther (by simp; omega) u, h.p.setOther (by simp; omega) u, h.res.setOther (by simp; omega) u⟩
theorem BoxT.setS {W : World} {b : Nat} {v : Value} {next i j : Int} (h : BoxT W b v next i j) (u : Value) : BoxT (W.setCell ⟨b, 0, none⟩ u) b u next i j :=
  ⟨(h.s.set 0 u).congr (fun i hi => by match i, hi with | 0, _ => rfl | 1, _ => rfl), h.p.setOther (by simp) u, h.res.setOther (by simp) u⟩
theorem BoxT.cells {W : World} {b : Nat} {v : Value} {next i j : Int} (h : BoxT W b v next i j) : W.cell? ⟨b, 0, none⟩ = some v ∧ W.cell? ⟨b, 1, none⟩ = some (.int .i64 next) ∧ W.frozen? ⟨b, 0, none⟩ = false ∧
    W.cell? ⟨b + 2, 0, none⟩ = some (.slice none 0 0) ∧ W.cell? ⟨b + 2, 1, none⟩ = some (.int .i64 0) ∧ W.frozen? ⟨b + 2, 0, none⟩ = false ∧ W.frozen? ⟨b + 2, 1, none⟩ = false ∧ W.cell? ⟨b + 1, 0, none⟩ = some (.int .i64 i) ∧ W.cell? ⟨b + 1, 1, none⟩ = some (.int .i64 j) :=
  ⟨h.s.cell (i := 0) (by omega), h.s.cell (i := 1) (by omega), h.s.frozen 0, h.res.cell (i := 0) (by omega), h.res.cell (i := 1) (by omega), h.res.frozen 0, h.res.frozen 1, h.p.cell (i := 0) (by omega), h.p.cell (i := 1) (by omega)⟩

theorem ids_write {W : World} {B gi k ic j : Nat} {ids : List Int} (id : Int) (h : W.ownsRow B 3 1 (.slice (some ⟨gi, 0, none⟩) (k + 1) ic) (k + 1) (ids.map (Value.int .i64))) :
    (W.setCell ⟨gi, j, none⟩ (.int .i64 id)).ownsRow B 3 1 (.slice (some ⟨gi, 0, none⟩) (k + 1) ic) (k + 1) ((ids.set j id).map (Value.int .i64)) := by
  have := (h.stored j (.int .i64 id)).1
  rw [List.map_set]
  exact this
theorem own_cut {W : World} {B g n c : Nat} {A C : List OT} {o : OT} {gi gr ic rc j k : Nat} (id : Int) (r : R8) (h : Own W B (.slice (some ⟨g, 0, none⟩) n c) (A ++ o :: C)) (hn : n = (A ++ o :: C).length) (hiv : o.iv = .slice (some ⟨gi, 0, none⟩) (k + 1) ic) (hrv : o.rv = .slice (some ⟨gr, 0, none⟩) (k + 1) rc)
    (hi : o.t.ids.length = k + 1) (hr : o.t.rows.length = k + 1) (hj : j ≤ k) (hrg : gr ≠ g) (hir : gi ≠ gr) :
    Own (((setRow8 (W.setCell ⟨gi, j, none⟩ (.int .i64 id)) gr j r).setCell ⟨g, A.length * 3 + 1, none⟩ (.slice (some ⟨gi, 0, none⟩) k ic)).setCell ⟨g, A.length * 3 + 2, none⟩ (.slice (some ⟨gr, 0, none⟩) k rc)) B (.slice (some ⟨g, 0, none⟩) n c)
      (A ++ ⟨cutT j k id r o.t, .slice (some ⟨gi, 0, none⟩) k ic, .slice (some ⟨gr, 0, none⟩) k rc⟩ :: C) := by
  have ho := h.2.1 o (by simp)
  rw [OtOwn, hi, hr, hiv, hrv] at ho
  have hl1 : ((o.t.ids.set j id).take k).length = k := by rw [List.length_take, List.length_set]; omega
  have hl2 : ((o.t.rows.set j r).take k).length = k := by rw [List.length_take, List.length_set]; omega
  have q1 := owns_part (k := k) (ids_write (j := j) id ho.1) (by omega)
  rw [Nat.mul_one, ← List.map_take] at q1
  have hO1 := own_ids (ids' := (o.t.ids.set j id).take k) (iv' := .slice (some ⟨gi, 0, none⟩) k ic) h hn (by rw [hiv]; exact grown_set W gi j (.int .i64 id)) (by rw [hl1]; exact q1) (Or.inl (by rw [hiv]; rfl))
  have hn1 : n = (A ++ (⟨⟨o.t.mask, (o.t.ids.set j id).take k, o.t.rows⟩, .slice (some ⟨gi, 0, none⟩) k ic, o.rv⟩ : OT) :: C).length := by rw [hn]; simp
  have q2 : ((W.setCell ⟨gi, j, none⟩ (.int .i64 id)).setCell ⟨g, A.length * 3 + 1, none⟩ (.slice (some ⟨gi, 0, none⟩) k ic)).ownsRow B 30 8 (.slice (some ⟨gr, 0, none⟩) (k + 1) rc) (k + 1) (o.t.rows.flatMap rowCells) :=
    owns_set (owns_set ho.2 (by simp [Value.ownBlock]; omega) _ _) (by simp [Value.ownBlock]; exact hrg) _ _
  have q3 := owns_part (k := k) (rows_write (j := j) r hr hj q2) (by omega)
  have q4 : ((o.t.rows.set j r).flatMap rowCells).take (k * 8) = ((o.t.rows.set j r).take k).flatMap rowCells := by
    have e := List.take_append_drop k (o.t.rows.set j r)
    conv => lhs; rw [← e]
    rw [List.flatMap_append, List.take_append_of_le_length (by rw [rows_length, hl2]; exact Nat.le_refl _), List.take_of_length_le (by rw [rows_length, hl2]; exact Nat.le_refl _)]
  rw [q4] at q3
  have hO2 := own_rows (rows' := (o.t.rows.set j r).take k) (rv' := .slice (some ⟨gr, 0, none⟩) k rc) hO1 hn1 (by rw [hrv]; exact grown_row8 _ gr j r) (by rw [hl2]; exact q3) (Or.inl (by rw [hrv]; rfl))
  rw [setRow8_comm _ _ _ _ _ (Ne.symm hrg)]
  exact hO2
theorem own_less {W w1 : World} {B g n c : Nat} {A C : List OT} {o : OT} (h : Own W B (.slice (some ⟨g, 0, none⟩) n c) (A ++ o :: C)) (hn : n = (A ++ o :: C).length) (hg : W.grownBy w1 (some g)) (hr : w1.ownsRow B 66 3 (.slice (some ⟨g, 0, none⟩) (n - 1) c) (n - 1) (tabCells A ++ tabCells C)) :
    Own w1 B (.slice (some ⟨g, 0, none⟩) (n - 1) c) (A ++ C) := by
  have hl : n - 1 = (A ++ C).length := by rw [hn]; simp
  have hnd : (g :: blocks (A ++ o :: C)).Nodup := by simpa [Value.ownBlock] using h.2.2
  have hgn := (List.nodup_cons.1 hnd).1
  refine ⟨?_, ?_, ?_⟩
  · rw [← hl]
    simpa [tabCells] using hr
  · intro x hx
    have hx' : x ∈ A ++ o :: C := by
      rcases List.mem_append.1 hx with hx | hx
      · exact List.mem_append.2 (Or.inl hx)
      · exact List.mem_append.2 (Or.inr (List.mem_cons_of_mem _ hx))
    exact otOwn_kept (h.2.1 x hx') hg (fun z hz e => hgn (by cases e; exact List.mem_flatMap.2 ⟨x, hx', hz⟩))
  · have hs : (g :: blocks (A ++ C)).Sublist (g :: blocks (A ++ o :: C)) := by
      refine List.Sublist.cons_cons _ ?_
      rw [blocks_mid]
      simp only [blocks, List.flatMap_append]
      exact (List.Sublist.refl _).append (List.sublist_append_right _ _)
    simpa [Value.ownBlock] using hnd.sublist hs
end Go.Proofs.Ytckkkdldljhehaa.St
namespace Go.Proofs.Ytckkkdldljhehaa.St
open Go.Proofs.Ytckkkdldljhehaa.Num
open Go.ChangeShapes Go.WideShapes Go.ChangeAt Go.RowKit

set_option maxHeartbeats 20000000 in
set_option maxRecDepth 100000 in
theorem takeOut_own (g n c : Nat) (next : Int) (B : Nat) (A C : List OT) (o : OT) (j k : Nat) (id : Int) (r : R8) (w : World) (hN : n = (A ++ o :: C).length) (hB : B ≤ w.heap.size) (hz : n ≤ 1000) (hi : o.t.ids.length = k + 1) (hr : o.t.rows.length = k + 1) (hk : k ≤ 1000) (hj : j ≤ k)
    (hid' : o.t.ids[k]? = some id) (hrow : o.t.rows[k]? = some r) (hown : Own w B (.slice (some ⟨g, 0, none⟩) n c) (A ++ o :: C)) :
    Calls Try.prog 83 #[.agg #[.slice (some ⟨g, 0, none⟩) n c, .int .i64 next], .agg #[.int .i64 (A.length : Nat), .int .i64 j]] w fun e w' =>
      (∃ v, e = .returned (.agg #[v, .int .i64 next]) ∧ ∃ S', Own w' B v S' ∧ S'.map (·.t) = if k = 0 then (A ++ C).map (·.t) else A.map (·.t) ++ cutT j k id r o.t :: C.map (·.t)) ∧ Below B w w' ∧ Keep w w' := by
  have hAn : A.length < n := by rw [hN]; simp
  have hO := hown.2.1 o (by simp)
  rw [OtOwn, hi, hr] at hO
  obtain ⟨gi, ic, hiv⟩ := own_some hO.1 (by omega)
  obtain ⟨gr, rc, hrv⟩ := own_some hO.2 (by omega)
  have HO := hid hown
  have HI := hid hO.1
  have HR := hid hO.2
  have HN := hid hN
  have HB := hid (BoxT.made w (.slice (some ⟨g, 0, none⟩) n c) next (A.length : Nat) j)
  have HOW := hid (hown.below (bal (bal (bal (Below.refl _ _) (.cells #[.slice (some ⟨g, 0, none⟩) n c, .int .i64 next] 28)) (.cells #[.int .i64 (A.length : Nat), .int .i64 j] 98)) (.cells #[.slice none 0 0, .int .i64 0] 28)))
  have HBL := hid ((bal (bal (bal (Below.refl _ _) (.cells #[.slice (some ⟨g, 0, none⟩) n c, .int .i64 next] 28)) (.cells #[.int .i64 (A.length : Nat), .int .i64 j] 98)) (.cells #[.slice none 0 0, .int .i64 0] 28) : Below w.heap.size w _).mono hB)
  have HKW := hid ((((Keep.refl w).alloc (.cells #[.slice (some ⟨g, 0, none⟩) n c, .int .i64 next] 28)).alloc (.cells #[.int .i64 (A.length : Nat), .int .i64 j] 98)).alloc (.cells #[.slice none 0 0, .int .i64 0] 28))
  clear hown hO hN
  go_enter Try.func83, Try.ntmps83
  generalize hWE : ((w.alloc (.cells #[.slice (some ⟨g, 0, none⟩) n c, .int .i64 next] 28)).alloc (.cells #[.int .i64 (A.length : Nat), .int .i64 j] 98)).alloc (.cells #[.slice none 0 0, .int .i64 0] 28) = W at HB HOW HBL HKW
  obtain ⟨x0, x1, x2, x3, x4, x5, x6, x7, x8⟩ := HB.out.cells
  obtain ⟨t0, t1, t2⟩ := HOW.out.cell HN.out
  rw [hiv] at t1
  rw [hrv] at t2
  have HOO : Hid (W.ownsRow B 3 1 (.slice (some ⟨gi, 0, none⟩) (k + 1) ic) (k + 1) (o.t.ids.map (Value.int .i64)) ∧ W.ownsRow B 30 8 (.slice (some ⟨gr, 0, none⟩) (k + 1) rc) (k + 1) (o.t.rows.flatMap rowCells)) := by
    have := HOW.out.2.1 o (by simp)
    rw [OtOwn, hi, hr, hiv, hrv] at this
    exact hid this
  have i0 : W.cell? ⟨gi, k, none⟩ = some (.int .i64 id) := by
    rw [HOO.out.1.cellAt _ (by omega), List.getElem?_map, hid']; rfl
  obtain ⟨r0, r1, r2, r3, r4, r5, r6, r7⟩ := row_at HOO.out.2 hrow
  have hwk : IntKind.i64.wrap (k : Int) = k := by rw [IntKind.wrap_i64]; omega
  have hAz : (A.length : Int) < (n : Int) := by omega
  have hjk : (j : Int) < (k : Int) + 1 := by omega
  have hkk : (k : Int) < (k : Int) + 1 := by omega
  have HIV := hid hiv
  have HRV := hid hrv
  have HI1 := hid hi
  have HR1 := hid hr
  have HID := hid hid'
  have HRW := hid hrow
  clear hiv hrv hi hr hid' hrow
  obtain ⟨idj, hidj⟩ : ∃ u, o.t.ids[j]? = some u := ⟨_, List.getElem?_eq_getElem (by have := HI1.out; omega)⟩
  obtain ⟨rj, hrj⟩ : ∃ u, o.t.rows[j]? = some u := ⟨_, List.getElem?_eq_getElem (by have := HR1.out; omega)⟩
  have ij : W.cell? ⟨gi, j, none⟩ = some (.int .i64 idj) := by
    rw [HOO.out.1.cellAt _ (by omega), List.getElem?_map, hidj]; rfl
  obtain ⟨s0, s1, s2, s3, s4, s5, s6, s7⟩ := row_at HOO.out.2 hrj
  clear hidj hrj
  have hne := own_ne HOW.out
  rw [HIV.out, HRV.out] at hne
  have hig : gi ≠ g := fun e => hne.1 (by rw [e]; rfl)
  have hrg : gr ≠ g := fun e => hne.2 (by rw [e]; rfl)
  have hir : gi ≠ gr := fun e => by
    have h3 := HOW.out.2.2
    rw [blocks_mid, otBlocks, HIV.out, HRV.out, e] at h3
    have : ([gr, gr] : List Nat).Nodup := h3.sublist (by simp only [Value.ownBlock, Option.toList_some]; exact (List.sublist_append_left [gr, gr] _).trans ((List.sublist_append_right _ _).trans (List.sublist_append_right _ _)))
    simp at this
  clear hne
  have fi : W.frozen? ⟨gi, j, none⟩ = false := HOO.out.1.frozenAt j
  have f0 : W.frozen? ⟨gr, j * 8, none⟩ = false := HOO.out.2.frozenAt (j * 8)
  have f1 : W.frozen? ⟨gr, j * 8 + 1, none⟩ = false := HOO.out.2.frozenAt (j * 8 + 1)
  have f2 : W.frozen? ⟨gr, j * 8 + 2, none⟩ = false := HOO.out.2.frozenAt (j * 8 + 2)
  have f3 : W.frozen? ⟨gr, j * 8 + 3, none⟩ = false := HOO.out.2.frozenAt (j * 8 + 3)
  have f4 : W.frozen? ⟨gr, j * 8 + 4, none⟩ = false := HOO.out.2.frozenAt (j * 8 + 4)
  have f5 : W.frozen? ⟨gr, j * 8 + 5, none⟩ = false := HOO.out.2.frozenAt (j * 8 + 5)
  have f6 : W.frozen? ⟨gr, j * 8 + 6, none⟩ = false := HOO.out.2.frozenAt (j * 8 + 6)
  have f7 : W.frozen? ⟨gr, j * 8 + 7, none⟩ = false := HOO.out.2.frozenAt (j * 8 + 7)
  have hgiw : gi < w.heap.size := (HI.out.lt gi (by rw [HIV.out]; rfl)).2
  have hgrw : gr < w.heap.size := (HR.out.lt gr (by rw [HRV.out]; rfl)).2
  have hgiB : B ≤ gi := (HI.out.lt gi (by rw [HIV.out]; rfl)).1
  have hgrB : B ≤ gr := (HR.out.lt gr (by rw [HRV.out]; rfl)).1
  have hgB : B ≤ g := (HO.out.1.lt g rfl).1
  have hkic : k ≤ ic := by
    rcases HOO.out.1.2 with ⟨e, _⟩ | ⟨_, _, _, e, _, _, q, _⟩ <;> cases e
    omega
  have hkrc : k ≤ rc := by
    rcases HOO.out.2.2 with ⟨e, _⟩ | ⟨_, _, _, e, _, _, q, _⟩ <;> cases e
    omega
  have hgW : g < W.heap.size := (HOW.out.1.lt g rfl).2
  have hgw : g < w.heap.size := (HO.out.1.lt g rfl).2
  have hri : gr ≠ gi := fun e => hir e.symm
  have hip : gi ≠ w.heap.size + 1 := by omega
  have hrp : gr ≠ w.heap.size + 1 := by omega
  go_wp2_with fail
  go_cut [] (fun wx => wx = (setRow8 (W.setCell ⟨gi, j, none⟩ (.int .i64 id)) gr j r).drew)
  case first =>
    go_region
    all_goals
      go_wp2_with fail
      go_meet
      all_goals rfl
  case rest =>
  obtain rfl := hcut
  have HOC := hid (own_cut id r HOW.out HN.out HIV.out HRV.out HI1.out HR1.out hj hrg hir)
  have HB1 := hid (((HB.out.set (x := gi) (Or.inl hgiw) j (.int .i64 id)).grown (grown_row8 _ gr j r) (fun x e => by cases e; exact Or.inl hgrw)))
  have HBL1 := hid (((HBL.out.setCell (p := ⟨gi, j, none⟩) (show B ≤ gi from hgiB) (.int .i64 id)).grown (grown_row8 _ gr j r) (by simp; omega) (fun x e => by cases e; exact hgrB)))
  have HK1 := hid ((HKW.out.set (g := gi) (kind_of HOO.out.1 (by decide) gi rfl) j (.int .i64 id)).grown (grown_row8 _ gr j r) (by intro x e; cases e; exact kind_of (owns_set HOO.out.2 (by simp [Value.ownBlock]; exact hri) _ _) (by decide) gr rfl))
  have hbg : (setRow8 (W.setCell ⟨gi, j, none⟩ (.int .i64 id)) gr j r).heap[g]? = W.heap[g]? :=
    ((grown_row8 (W.setCell ⟨gi, j, none⟩ (.int .i64 id)) gr j r).block g (by simpa using hgW) (by simp; exact fun e => hrg e.symm)).trans ((grown_set W gi j (.int .i64 id)).block g hgW (by simp; exact fun e => hig e.symm))
  have c1 := (World.cell?_of_block (a := ⟨g, A.length * 3 + 1, none⟩) hbg).trans t1
  have c2 := (World.cell?_of_block (a := ⟨g, A.length * 3 + 2, none⟩) hbg).trans t2
  have d1 := (World.frozen?_of_block (a := ⟨g, A.length * 3 + 1, none⟩) hbg).trans (HOW.out.frozen HN.out (A.length * 3 + 1))
  have d2 := (World.frozen?_of_block (a := ⟨g, A.length * 3 + 2, none⟩) hbg).trans (HOW.out.frozen HN.out (A.length * 3 + 2))
  have hKg : Hid (∃ c e' fz, (setRow8 (W.setCell ⟨gi, j, none⟩ (.int .i64 id)) gr j r).heap[g]? = some (.cells c e' fz) ∧ e' ≠ 28) := by
    obtain ⟨c, e', fz, h1, h2⟩ := kind_of HOW.out.1 (by decide) g rfl
    exact hid ⟨c, e', fz, hbg.trans h1, h2⟩
  generalize setRow8 (W.setCell ⟨gi, j, none⟩ (.int .i64 id)) gr j r = W1 at HOC HB1 HBL1 HK1 c1 c2 d1 d2 hKg ⊢
  clear x0 x1 x2 x3 x4 x5 x6 x7 x8 t0 t1 t2 i0 r0 r1 r2 r3 r4 r5 r6 r7 ij s0 s1 s2 s3 s4 s5 s6 s7 fi f0 f1 f2 f3 f4 f5 f6 f7 hbg
  go_wp2_with fail
  go_cut [] (fun wx => wx = ((W1.setCell ⟨g, A.length * 3 + 1, none⟩ (.slice (some ⟨gi, 0, none⟩) k ic)).setCell ⟨g, A.length * 3 + 2, none⟩ (.slice (some ⟨gr, 0, none⟩) k rc)).drew.drew)
  case first =>
    go_region
    all_goals
      go_wp2_with fail
      go_meet
      all_goals rfl
  case rest =>
  obtain rfl := hcut
  have hgr : W1.grownBy ((W1.setCell ⟨g, A.length * 3 + 1, none⟩ (.slice (some ⟨gi, 0, none⟩) k ic)).setCell ⟨g, A.length * 3 + 2, none⟩ (.slice (some ⟨gr, 0, none⟩) k rc)) (some g) := (grown_set W1 g _ _).trans (grown_set _ g _ _)
  have HB2 := hid (HB1.out.grown hgr (fun x e => by cases e; exact Or.inl hgw))
  have HBL2 := hid (HBL1.out.grown hgr (by have := HBL1.out.size; omega) (fun x e => by cases e; exact hgB))
  have HK2 := hid (HK1.out.grown hgr (fun x e => by cases e; exact hKg.out))
  clear hgr
  generalize ((W1.setCell ⟨g, A.length * 3 + 1, none⟩ (.slice (some ⟨gi, 0, none⟩) k ic)).setCell ⟨g, A.length * 3 + 2, none⟩ (.slice (some ⟨gr, 0, none⟩) k rc)) = W2 at HOC HB2 HBL2 HK2 ⊢
  clear c1 c2 d1 d2 hKg HB1 HBL1 HK1 HOO HOW HB HBL HKW HI HR HO
  obtain ⟨x0, x1, x2, x3, x4, x5, x6, x7, x8⟩ := HB2.out.cells
  have hN2 : Hid (n = (A ++ (⟨cutT j k id r o.t, .slice (some ⟨gi, 0, none⟩) k ic, .slice (some ⟨gr, 0, none⟩) k rc⟩ : OT) :: C).length) := hid (by rw [HN.out]; simp)
  by_cases hk0 : k = 0
  · have hq : ((k : Int) == 0) = true := by simp [hk0]
    have HK0 := hid hk0
    clear hk0
    have hA1 : (A.length : Int) ≤ 1000 := by omega
    go_wp2_with fail
    have hdel := delete_at g n c A.length B (tabCells (A ++ (⟨cutT j k id r o.t, .slice (some ⟨gi, 0, none⟩) k ic, .slice (some ⟨gr, 0, none⟩) k rc⟩ : OT) :: C)) W2.drew.drew hAn (by have h := HOC.out.1; rw [← hN2.out] at h; exact h) HOC.out.one
    refine hdel.mono ?_
    clear hdel
    rintro e w3 ⟨rfl, hown3, hg3⟩
    replace hg3 := grown_drew (grown_drew hg3)
    have HB3 := hid (HB2.out.grown (row := some g) hg3 (fun x e => by cases e; exact Or.inl hgw))
    have HBL3 := hid (HBL2.out.grown (row := some g) hg3 (by have := HBL2.out.size; omega) (fun x e => by cases e; exact hgB))
    have HK3 := hid (HK2.out.grown (row := some g) hg3 (fun x e => by cases e; exact kind_of HOC.out.1 (by decide) g rfl))
    have HO3 : Hid (Own w3 B (.slice (some ⟨g, 0, none⟩) (n - 1) c) (A ++ C)) := by
      refine hid (own_less (W := W2) HOC.out hN2.out hg3 ?_)
      have e1 : (tabCells (A ++ (⟨cutT j k id r o.t, .slice (some ⟨gi, 0, none⟩) k ic, .slice (some ⟨gr, 0, none⟩) k rc⟩ : OT) :: C)).take (A.length * 3) = tabCells A := by
        rw [tabCells_mid, List.take_append_of_le_length (by rw [tabCells_length]; exact Nat.le_refl _), List.take_of_length_le (by rw [tabCells_length]; exact Nat.le_refl _)]
      have e2 : (tabCells (A ++ (⟨cutT j k id r o.t, .slice (some ⟨gi, 0, none⟩) k ic, .slice (some ⟨gr, 0, none⟩) k rc⟩ : OT) :: C)).drop ((A.length + 1) * 3) = tabCells C := by
        rw [tabCells_mid, List.drop_append, List.drop_of_length_le (by rw [tabCells_length]; omega), tabCells_length, show (A.length + 1) * 3 - A.length * 3 = 3 by omega]
        rfl
      rw [e1, e2] at hown3
      exact hown3
    clear hown3 hg3 x0 x1 x2 x3 x4 x5 x6 x7 x8
    obtain ⟨x0, x1, x2, x3, x4, x5, x6, x7, x8⟩ := HB3.out.cells
    go_wp2_with fail
    have hns := own_not_box HO3.out HB3.out.s (by decide)
    have hnr := own_not_box HO3.out HB3.out.res (by decide)
    refine bodyPost_ret (v := .agg #[.slice (some ⟨g, 0, none⟩) (n - 1) c, .int .i64 next]) (by simp [results, Try.results83, go_sem, x3, x4]) rfl ⟨⟨_, rfl, _, ((HO3.out.set' hns 0 _).set' hnr 0 _).set' hnr 1 _, ?_⟩, ?_, ?_⟩
    · simp
    · refine Below.setCell ?_ (by have := HBL3.out.size; simp; omega) _
      refine Below.setCell ?_ (by have := HBL3.out.size; simp; omega) _
      refine Below.setCell ?_ (by have := HBL3.out.size; simp; omega) _
      exact HBL3.out
    · exact ((HK3.out.setNew (g := w.heap.size) (by omega) 0 _).setNew (g := w.heap.size + 2) (by omega) 0 _).setNew (g := w.heap.size + 2) (by omega) 1 _
  · have hq : ((k : Int) == 0) = false := by simp; omega
    have HK0 := hid hk0
    clear hk0
    go_wp2_with fail
    have hnr := own_not_box HOC.out HB2.out.res (by decide)
    refine bodyPost_ret (v := .agg #[.slice (some ⟨g, 0, none⟩) n c, .int .i64 next]) (by simp [results, Try.results83, go_sem, x3, x4]) rfl ⟨⟨_, rfl, _, ((HOC.out.below (Below.drew (Below.drew (Below.refl _ W2)))).set' hnr 0 _).set' hnr 1 _, ?_⟩, ?_, ?_⟩
    · simp
    · refine Below.drew (Below.drew ?_)
      refine Below.setCell ?_ (by have := HBL2.out.size; simp; omega) _
      refine Below.setCell ?_ (by have := HBL2.out.size; simp; omega) _
      exact HBL2.out
    · exact ((HK2.out.setNew (g := w.heap.size + 1 + 1) (by omega) 0 _).setNew (g := w.heap.size + 1 + 1) (by omega) 1 _).drew.drew
end Go.Proofs.Ytckkkdldljhehaa.St
namespace Go.Proofs.Ytckkkdldljhehaa.St
open Go.Proofs.Ytckkkdldljhehaa.Num
open Go.ChangeShapes Go.WideShapes Go.ChangeAt Go.RowKit

def KillOut (next v : Int) (L : List Tab) (ec : Int) (L' : List Tab) : Prop :=
  (ec = 1 ∧ ¬ GoodL next L ∧ L' = L) ∨ (ec = 3 ∧ GoodL next L ∧ v ∉ allL L ∧ L' = L) ∨ (ec = 0 ∧ GoodL next L ∧ v ∈ allL L ∧ L' = killT v L)

set_option maxHeartbeats 1000000 in
set_option maxRecDepth 100000 in
theorem kill_any (a : Option Addr) (n cap : Nat) (next v : Int) (T : Nat → TabV) (I : Nat → Nat → Int) (R : Nat → Nat → R8) (w : World) (h : StoreIn w a n T I R) :
    Calls Try.prog 38 #[.agg #[.slice a n cap, .int .i64 next], .int .i64 v] w fun e w' =>
      (∃ u ec, e = .returned (.tuple #[.agg #[u, .int .i64 next], .int .i64 ec]) ∧ ∃ S, Own w' w.heap.size u S ∧ KillOut next v (plainOf T I R n) ec (S.map (·.t))) ∧ Below w.heap.size w w' := by
  have HST := hid h
  clear h
  go_enter Try.func38, Try.ntmps38
  go_wp2_with fail
  refine (clone_any a n cap next T I R _ (HST.out.below (bal (bal (Below.refl _ _) _) _)).tabs (HST.out.below (bal (bal (Below.refl _ _) _) _)).ids (HST.out.below (bal (bal (Below.refl _ _) _) _)).rows HST.out.fits).mono ?_
  rintro e w1 ⟨⟨u, rfl, S, hown, hpl⟩, hb1⟩
  obtain ⟨a', c', rfl⟩ := own_form hown.1
  obtain ⟨N, hN⟩ : ∃ N, N = S.length := ⟨_, rfl⟩
  rw [← hN] at hown ⊢
  have HN := hid hN
  clear hN
  have hs := hid (rowIs_below ((rowIs2 w (.slice a n cap) (.int .i64 next) 28).alloc (.cells #[.slice none 0 0, .int .i64 0] 28)) hb1)
  have hr := hid (rowIs_below (rowIs2 (w.alloc (.cells #[.slice a n cap, .int .i64 next] 28)) (.slice none 0 0) (.int .i64 0) 28) hb1)
  rw [World.size_alloc] at hr
  have hz1 := hb1.size
  simp at hz1
  have hbw := hid (bcall (bal (bal (Below.refl _ _) _) _) hb1)
  simp only [World.size_alloc] at hown
  have HO := hid hown
  have HPL := hid hpl
  clear hown hpl hb1
  have x0 := hs.out.cell (i := 0) (by omega)
  have x1 := hs.out.cell (i := 1) (by omega)
  simp at x0 x1
  have hs1 : w.heap.size < w1.heap.size := by omega
  go_wp2_with fail
  have hsA := hid (hs.out.alloc (.cells #[.slice a' N c', .int .i64 next] 28))
  have hrA := hid (hr.out.alloc (.cells #[.slice a' N c', .int .i64 next] 28))
  have hoA := hid (rowIs2 w1 (.slice a' N c') (.int .i64 next) 28)
  have HOA := hid (HO.out.below (bal (Below.refl _ _) (.cells #[.slice a' N c', .int .i64 next] 28)))
  refine (seek_any a n cap next v T I R _ (HST.out.below (bcall hbw.out (bal (Below.refl _ _) _)))).mono ?_
  rintro e w2 ⟨he, hb2⟩
  have hr2 := hid (rowIs_below hrA.out hb2)
  have ho2 := hid (rowIs_below hoA.out hb2)
  have HO2 := hid (HOA.out.below hb2)
  have hbw2 := hid (bcall (bcall hbw.out (bal (Below.refl _ _) _)) hb2)
  have hz2 := hb2.size
  simp at hz2
  clear hb2 hs hr HO hbw x0 x1 hsA hrA hoA HOA
  have y0 := hr2.out.cell (i := 0) (by omega)
  have y1 := hr2.out.cell (i := 1) (by omega)
  have yf0 := hr2.out.frozen 0
  have yf1 := hr2.out.frozen 1
  have o0 := ho2.out.cell (i := 0) (by omega)
  have o1 := ho2.out.cell (i := 1) (by omega)
  simp at y0 y1 o0 o1
  have hne2 : w.heap.size + 1 ≠ w1.heap.size := by omega
  have hw12 : w1.heap.size < w2.heap.size := by omega
  have hw02 : w.heap.size + 1 < w2.heap.size := by omega
  have hfin : Hid (∀ (W : World) (ec : Int), Own W (w.heap.size + 1 + 1) (.slice a' N c') S → W.rowIs (w.heap.size + 1) 28 2 (fun i => if i = 0 then .slice none 0 0 else .int .i64 0) → Own ((W.setCell ⟨w.heap.size + 1, 0, none⟩ (.slice a' N c')).setCell ⟨w.heap.size + 1, 1, none⟩ (.int .i64 next)) w.heap.size (.slice a' N c') S) := by
    refine hid (fun W _ ho hb => ?_)
    have hb1 := own_not_box ho hb (by decide)
    have h2 := (ho.set' hb1 0 (.slice a' N c')).set' hb1 1 (.int .i64 next)
    exact ⟨owns_mono h2.1 (by omega), fun o hm => ⟨owns_mono (h2.2.1 o hm).1 (by omega), owns_mono (h2.2.1 o hm).2 (by omega)⟩, h2.2.2⟩
  rcases he with ⟨rfl, hg⟩ | ⟨rfl, hg, hno⟩ | ⟨i, j, rfl, hg, hi, hj, hv⟩
  · have HG := hid hg
    clear hg
    go_wp2_with fail
    refine bodyPost_ret (v := .tuple #[.agg #[.slice a' N c', .int .i64 next], .int .i64 1]) (by simp [results, Try.results38, go_sem, y0, y1, hw02]) rfl ⟨⟨_, _, rfl, S, (hfin.out _ 1 HO2.out hr2.out).below (bal (Below.refl _ _) _), Or.inl ⟨rfl, HG.out, HPL.out⟩⟩, ?_⟩
    refine bal ?_ _
    refine Below.setCell ?_ (by simp) _
    refine Below.setCell ?_ (by simp) _
    exact hbw2.out
  · have HG := hid (And.intro hg hno)
    clear hg hno
    go_wp2_with fail
    refine bodyPost_ret (v := .tuple #[.agg #[.slice a' N c', .int .i64 next], .int .i64 3]) (by simp [results, Try.results38, go_sem, y0, y1, hw02]) rfl ⟨⟨_, _, rfl, S, (hfin.out _ 3 HO2.out hr2.out).below (bal (Below.refl _ _) _), Or.inr (Or.inl ⟨rfl, HG.out.1, noneTo_iff.1 HG.out.2, HPL.out⟩)⟩, ?_⟩
    refine bal ?_ _
    refine Below.setCell ?_ (by simp) _
    refine Below.setCell ?_ (by simp) _
    exact hbw2.out
  · obtain ⟨A, o, C, rfl, hAl, hoj, hot⟩ := split_own HPL.out hi hj hv
    have hL : (A ++ o :: C).map (·.t) = A.map (·.t) ++ o.t :: C.map (·.t) := by simp
    have hgl : GoodL next ((A ++ o :: C).map (·.t)) := by rw [HPL.out]; exact hg
    obtain ⟨k, lst, q, rk, hsp⟩ := spot_of hgl.even hL hoj
    obtain ⟨hn31, -⟩ := goodL_n (fun i hi => (HST.out.hz i hi).1) hg
    have hNl : (A ++ o :: C).length = n := by have := congrArg List.length HPL.out; simpa [plainOf] using this
    have hk10 : k ≤ 9 := by
      have h1 := len_le hgl.2.1 _ (List.mem_map.2 ⟨o, by simp, rfl⟩)
      have h2 := hsp.il
      have h3 := hgl.2.1
      rw [hL, allL_mid] at h3
      simp at h3
      omega
    have hN31 : N ≤ 31 := by have := HN.out; omega
    obtain ⟨g, c, hgc⟩ := own_some (n := N) (v := .slice a' N c') (by have := HO2.out.1; rw [← HN.out] at this; exact this) (by rw [HN.out, List.length_append, List.length_cons]; omega)
    simp only [Value.slice.injEq] at hgc
    obtain ⟨rfl, -, rfl⟩ := hgc
    have HT : Hid (∀ W : World, Own W (w.heap.size + 1 + 1) (.slice (some ⟨g, 0, none⟩) N c') (A ++ o :: C) → w.heap.size + 1 + 1 ≤ W.heap.size → Calls Try.prog 83 #[.agg #[.slice (some ⟨g, 0, none⟩) N c', .int .i64 next], .agg #[.int .i64 (i : Nat), .int .i64 j]] W fun e w' =>
        (∃ u, e = .returned (.agg #[u, .int .i64 next]) ∧ ∃ S', Own w' (w.heap.size + 1 + 1) u S' ∧ S'.map (·.t) = killT v (plainOf T I R n)) ∧ Below (w.heap.size + 1 + 1) W w' ∧ Keep W w') := by
      refine hid (fun W ho hs => ?_)
      have ht := takeOut_own g N c' next (w.heap.size + 1 + 1) A C o j k lst rk W HN.out hs (by omega) hsp.il hsp.rl (by omega) hsp.lt hsp.li hsp.lr ho
      rw [hAl] at ht
      refine ht.mono ?_
      rintro e w' ⟨⟨u, rfl, S', ho', hm'⟩, hb'⟩
      refine ⟨⟨u, rfl, S', ho', ?_⟩, hb'⟩
      rw [hm', ← HPL.out, hL, killT_eq (by rw [← hL]; exact hgl.2.2.2.2.2) hoj hsp.il hsp.rl hsp.li hsp.lr]
      unfold takeL
      simp
    have hmem : Hid (v ∈ allL (plainOf T I R n)) := hid (by rw [← HPL.out, hL, allL_mid]; exact List.mem_append.2 (Or.inr (List.mem_append.2 (Or.inl (List.mem_of_getElem? hoj)))))
    have HG := hid hg
    clear hg hgl hsp hoj hot hL hi hj hv hNl hAl
    go_wp2_with fail
    refine (HT.out _ (HO2.out.below (bal (Below.refl _ _) _)) (by simp; omega)).mono ?_
    rintro e w3 ⟨⟨u, rfl, S', ho3, hm3⟩, hb3, hk3⟩
    obtain ⟨a3, c3, rfl⟩ := own_form ho3.1
    have hr3 := hid (hk3 _ _ _ (hr2.out.alloc _))
    have HO3 := hid ho3
    have HM3 := hid hm3
    have HB3 := hid ((bal hbw2.out _).trans (hb3.mono (by omega)))
    clear ho3 hm3 hb3 hk3 y0 y1 yf0 yf1 o0 o1
    have y0 := hr3.out.cell (i := 0) (by omega)
    have y1 := hr3.out.cell (i := 1) (by omega)
    have yf0 := hr3.out.frozen 0
    have yf1 := hr3.out.frozen 1
    simp at y0 y1
    go_wp2_with fail
    refine bodyPost_ret (v := .tuple #[.agg #[.slice a3 S'.length c3, .int .i64 next], .int .i64 0]) (by simp [results, Try.results38, go_sem, y0, y1]) rfl ⟨⟨_, _, rfl, S', ?_, Or.inr (Or.inr ⟨rfl, HG.out, hmem.out, HM3.out⟩)⟩, ?_⟩
    · have hb1 := own_not_box HO3.out hr3.out (by decide)
      have h2 := (HO3.out.set' hb1 0 (.slice a3 S'.length c3)).set' hb1 1 (.int .i64 next)
      exact ⟨owns_mono h2.1 (by omega), fun o hm => ⟨owns_mono (h2.2.1 o hm).1 (by omega), owns_mono (h2.2.1 o hm).2 (by omega)⟩, h2.2.2⟩
    · refine Below.setCell ?_ (by simp) _
      refine Below.setCell ?_ (by simp) _
      exact HB3.out
end Go.Proofs.Ytckkkdldljhehaa.St
namespace Go.Proofs.Ytckkkdldljhehaa.St
open Go.Proofs.Ytckkkdldljhehaa.Num
open Go.ChangeShapes Go.WideShapes Go.ChangeAt Go.RowKit

def SetOut (next v : Int) (r : R8) (L : List Tab) (ec : Int) (L' : List Tab) : Prop :=
  (ec = 1 ∧ ¬ GoodL next L ∧ L' = L) ∨ (ec = 3 ∧ GoodL next L ∧ v ∉ allL L ∧ L' = L) ∨
  (ec = 2 ∧ GoodL next L ∧ (∃ m q, At L v m q ∧ goodRowB m r = false) ∧ L' = L) ∨ (ec = 0 ∧ GoodL next L ∧ (∃ m q, At L v m q ∧ goodRowB m r = true) ∧ L' = setL v r L)

/-- Tables of one's own, where a block ahead of theirs has changed. -/
theorem Own.kept {w w' : World} {B g : Nat} {v : Value} {S : List OT} (h : Own w B v S) (hg : w.grownBy w' (some g)) (hlt : g < B) : Own w' B v S := by
  have hb := blocks_lt h.2.1
  refine ⟨owns_kept h.1 hg (fun z hz e => by have := h.1.lt z hz; cases e; omega), fun o ho => otOwn_kept (h.2.1 o ho) hg (fun z hz e => ?_), h.2.2⟩
  have := hb z (List.mem_flatMap.2 ⟨o, ho, hz⟩)
  cases e
  omega
/-- A row written in tables of one's own. -/
theorem own_write {W : World} {B g n c : Nat} {A C : List OT} {o : OT} {gr rc j k : Nat} (r : R8) (h : Own W B (.slice (some ⟨g, 0, none⟩) n c) (A ++ o :: C)) (hrv : o.rv = .slice (some ⟨gr, 0, none⟩) (k + 1) rc) (hr : o.t.rows.length = k + 1) (hj : j ≤ k) :
    Own (setRow8 W gr j r) B (.slice (some ⟨g, 0, none⟩) n c) (A ++ ⟨⟨o.t.mask, o.t.ids, o.t.rows.set j r⟩, o.iv, o.rv⟩ :: C) := by
  obtain ⟨h1, h2, h3⟩ := h
  have hg := grown_row8 W gr j r
  have hap : ((g :: blocks A ++ o.iv.ownBlock.toList) ++ [gr] ++ blocks C).Nodup := by
    have : o.rv.ownBlock = some gr := by rw [hrv]; rfl
    have h4 := h3
    rw [blocks_mid, otBlocks, this] at h4
    simpa [Value.ownBlock] using h4
  have hrow : ∀ z, z ∈ (g :: blocks A ++ o.iv.ownBlock.toList) ∨ z ∈ blocks C → some gr ≠ some z := by
    intro z hz e
    cases e
    rw [List.append_assoc, List.nodup_append] at hap
    obtain ⟨_, hq, hd⟩ := hap
    rw [List.nodup_append] at hq
    rcases hz with hz | hz
    · exact hd gr hz gr (List.mem_append.2 (Or.inl (by simp))) rfl
    · exact hq.2.2 gr (by simp) gr hz rfl
  have ec : tabCells (A ++ (⟨⟨o.t.mask, o.t.ids, o.t.rows.set j r⟩, o.iv, o.rv⟩ : OT) :: C) = tabCells (A ++ o :: C) := by rw [tabCells_mid, tabCells_mid]; rfl
  have eb : blocks (A ++ (⟨⟨o.t.mask, o.t.ids, o.t.rows.set j r⟩, o.iv, o.rv⟩ : OT) :: C) = blocks (A ++ o :: C) := by rw [blocks_mid, blocks_mid]; rfl
  have el : (A ++ (⟨⟨o.t.mask, o.t.ids, o.t.rows.set j r⟩, o.iv, o.rv⟩ : OT) :: C).length = (A ++ o :: C).length := by simp
  refine ⟨?_, ?_, by rw [eb]; exact h3⟩
  · rw [ec, el]
    exact owns_kept h1 hg (fun z hz => hrow z (Or.inl (by simp [Value.ownBlock] at hz; simp [hz])))
  · intro x hx
    rcases List.mem_append.1 hx with hx | hx
    · have hb : ∀ z ∈ otBlocks x, z ∈ blocks A := fun z hz => List.mem_flatMap.2 ⟨x, hx, hz⟩
      exact otOwn_kept (h2 x (List.mem_append.2 (Or.inl hx))) hg (fun z hz => hrow z (Or.inl (by simp [hb z hz])))
    · rcases List.mem_cons.1 hx with rfl | hx
      · have ho := h2 o (List.mem_append.2 (Or.inr (List.mem_cons_self ..)))
        refine ⟨owns_kept ho.1 hg (fun z hz => hrow z (Or.inl (by simp [hz]))), ?_⟩
        have hq := ho.2
        rw [hrv, hr] at hq
        have := rows_write (j := j) r hr hj hq
        show (setRow8 W gr j r).ownsRow B 30 8 o.rv (o.t.rows.set j r).length ((o.t.rows.set j r).flatMap rowCells)
        rw [hrv, List.length_set, hr]
        exact this
      · have hb : ∀ z ∈ otBlocks x, z ∈ blocks C := fun z hz => List.mem_flatMap.2 ⟨x, hx, hz⟩
        exact otOwn_kept (h2 x (List.mem_append.2 (Or.inr (List.mem_cons_of_mem _ hx)))) hg (fun z hz => hrow z (Or.inr (hb z hz)))

set_option maxHeartbeats 2000000 in
set_option maxRecDepth 100000 in
theorem set_any (a : Option Addr) (n cap : Nat) (next v : Int) (r : R8) (T : Nat → TabV) (I : Nat → Nat → Int) (R : Nat → Nat → R8) (w : World) (h : StoreIn w a n T I R) :
    Calls Try.prog 39 #[.agg #[.slice a n cap, .int .i64 next], .int .i64 v, .agg #[.int .i64 r.x, .int .i64 r.y, .int .i64 r.px, .int .i64 r.py, .int .i64 r.wd, .int .i64 r.ht, .int .i64 r.ms, .int .i64 r.rr]] w fun e w' =>
      (∃ u ec, e = .returned (.tuple #[.agg #[u, .int .i64 next], .int .i64 ec]) ∧ ∃ S, Own w' w.heap.size u S ∧ SetOut next v r (plainOf T I R n) ec (S.map (·.t))) ∧ Below w.heap.size w w' := by
  have HST := hid h
  clear h
  go_enter Try.func39, Try.ntmps39
  go_wp2_with fail
  refine (clone_any a n cap next T I R _ (HST.out.below (bal (bal (bal (Below.refl _ _) _) _) _)).tabs (HST.out.below (bal (bal (bal (Below.refl _ _) _) _) _)).ids (HST.out.below (bal (bal (bal (Below.refl _ _) _) _) _)).rows HST.out.fits).mono ?_
  rintro e w1 ⟨⟨u, rfl, S, hown, hpl⟩, hb1⟩
  obtain ⟨a', c', rfl⟩ := own_form hown.1
  obtain ⟨N, hN⟩ : ∃ N, N = S.length := ⟨_, rfl⟩
  rw [← hN] at hown ⊢
  have HN := hid hN
  clear hN
  have hBX := hid ((Boxes.made w (.slice a n cap) next r).below hb1)
  have hz1 := hb1.size
  simp at hz1
  have hbw := hid (bcall (bal (bal (bal (Below.refl _ _) _) _) _) hb1)
  simp only [World.size_alloc] at hown
  have HO := hid hown
  have HPL := hid hpl
  clear hown hpl hb1
  obtain ⟨x0, x1, x2, x3, x4, x5, x6⟩ := hBX.out.cells
  have hs1 : w.heap.size < w1.heap.size := by omega
  go_wp2_with fail
  have hBA := hid (hBX.out.below (bal (Below.refl _ _) (.cells #[.slice a' N c', .int .i64 next] 28)))
  have hoA := hid (rowIs2 w1 (.slice a' N c') (.int .i64 next) 28)
  have HOA := hid (HO.out.below (bal (Below.refl _ _) (.cells #[.slice a' N c', .int .i64 next] 28)))
  refine (seek_any a n cap next v T I R _ (HST.out.below (bcall hbw.out (bal (Below.refl _ _) _)))).mono ?_
  rintro e w2 ⟨he, hb2⟩
  have hB2 := hid (hBA.out.below hb2)
  have ho2 := hid (rowIs_below hoA.out hb2)
  have HO2 := hid (HOA.out.below hb2)
  have hbw2 := hid (bcall (bcall hbw.out (bal (Below.refl _ _) _)) hb2)
  have hz2 := hb2.size
  simp at hz2
  clear hb2 hBX HO hbw x0 x1 x2 x3 x4 x5 x6 hBA hoA HOA
  obtain ⟨x0, x1, x2, x3, x4, x5, x6⟩ := hB2.out.cells
  have o0 := ho2.out.cell (i := 0) (by omega)
  have o1 := ho2.out.cell (i := 1) (by omega)
  simp at o0 o1
  have hne2 : w.heap.size + 1 + 1 ≠ w1.heap.size := by omega
  have hw12 : w1.heap.size < w2.heap.size := by omega
  have hw02 : w.heap.size + 1 + 1 < w2.heap.size := by omega
  have hfin : Hid (∀ (W : World) (u : Value) (S : List OT), Own W (w.heap.size + 1 + 1 + 1) u S → W.rowIs (w.heap.size + 1 + 1) 28 2 (fun i => if i = 0 then .slice none 0 0 else .int .i64 0) → Own ((W.setCell ⟨w.heap.size + 1 + 1, 0, none⟩ u).setCell ⟨w.heap.size + 1 + 1, 1, none⟩ (.int .i64 next)) w.heap.size u S) := by
    refine hid (fun W u S ho hb => ?_)
    have hb1 := own_not_box ho hb (by decide)
    have h2 := (ho.set' hb1 0 u).set' hb1 1 (.int .i64 next)
    exact ⟨owns_mono h2.1 (by omega), fun o hm => ⟨owns_mono (h2.2.1 o hm).1 (by omega), owns_mono (h2.2.1 o hm).2 (by omega)⟩, h2.2.2⟩
  rcases he with ⟨rfl, hg⟩ | ⟨rfl, hg, hno⟩ | ⟨i, j, rfl, hg, hi, hj, hv⟩
  · have HG := hid hg
    clear hg
    go_wp2_with fail
    refine bodyPost_ret (v := .tuple #[.agg #[.slice a' N c', .int .i64 next], .int .i64 1]) (by simp [results, Try.results39, go_sem, x3, x4, hw02]) rfl ⟨⟨_, _, rfl, S, (hfin.out _ _ _ HO2.out hB2.out.res).below (bal (Below.refl _ _) _), Or.inl ⟨rfl, HG.out, HPL.out⟩⟩, ?_⟩
    refine bal ?_ _
    refine Below.setCell ?_ (by simp; omega) _
    refine Below.setCell ?_ (by simp; omega) _
    exact hbw2.out
  · have HG := hid (And.intro hg hno)
    clear hg hno
    go_wp2_with fail
    refine bodyPost_ret (v := .tuple #[.agg #[.slice a' N c', .int .i64 next], .int .i64 3]) (by simp [results, Try.results39, go_sem, x3, x4, hw02]) rfl ⟨⟨_, _, rfl, S, (hfin.out _ _ _ HO2.out hB2.out.res).below (bal (Below.refl _ _) _), Or.inr (Or.inl ⟨rfl, HG.out.1, noneTo_iff.1 HG.out.2, HPL.out⟩)⟩, ?_⟩
    refine bal ?_ _
    refine Below.setCell ?_ (by simp; omega) _
    refine Below.setCell ?_ (by simp; omega) _
    exact hbw2.out
  · obtain ⟨A, o, C, rfl, hAl, hoj, hot⟩ := split_own HPL.out hi hj hv
    have hL : (A ++ o :: C).map (·.t) = A.map (·.t) ++ o.t :: C.map (·.t) := by simp
    have hgl : GoodL next ((A ++ o :: C).map (·.t)) := by rw [HPL.out]; exact hg
    obtain ⟨k, lst, q, rk, hsp⟩ := spot_of hgl.even hL hoj
    obtain ⟨hn31, -⟩ := goodL_n (fun i hi => (HST.out.hz i hi).1) hg
    have hNl : (A ++ o :: C).length = n := by have := congrArg List.length HPL.out; simpa [plainOf] using this
    have hN31 : N ≤ 31 := by have := HN.out; omega
    have hiN : (i : Int) < (N : Int) := by have := HN.out; omega
    have hjk : j ≤ k := hsp.lt
    have hk10 : k ≤ 9 := by
      have h2 := hsp.il
      have h3 := hgl.2.1
      rw [hL, allL_mid] at h3
      simp at h3
      omega
    obtain ⟨g, c, hgc⟩ := own_some (n := N) (v := .slice a' N c') (by have := HO2.out.1; rw [← HN.out] at this; exact this) (by rw [HN.out, List.length_append, List.length_cons]; omega)
    simp only [Value.slice.injEq] at hgc
    obtain ⟨rfl, -, rfl⟩ := hgc
    have hat : Hid (At (plainOf T I R n) v (T i).mask q) := hid (by
      have h1 := hsp.at_
      rw [HPL.out, hot] at h1
      exact h1)
    have hL2 : Hid (A.map (·.t) ++ (⟨o.t.mask, o.t.ids, o.t.rows.set j r⟩ : Tab) :: C.map (·.t) = setL v r (plainOf T I R n)) := hid (by
      rw [← HPL.out, hL, setL_eq (by rw [← hL]; exact hgl.2.2.2.2.2) (by rw [← hL]; exact hgl.even) hoj])
    obtain ⟨b, off, rfl, hb, hc⟩ := (HST.out.below hbw2.out).tabs (by omega)
    obtain ⟨t0, -, -⟩ := hc i hi
    have hi' : (i : Int) < (n : Int) := by omega
    have hn' : (n : Int) ≤ 31 := by omega
    have HG := hid hg
    have HROWS := hid hsp.rl
    have HQ := hid hsp.row
    have HAL := hid hAl
    clear hg hgl hsp hoj hot hL hj hv hNl hc hAl
    obtain ⟨r0, r1, r2, r3, r4, r5, r6, r7⟩ := hB2.out.row
    go_wp2_with fail
    have hB3 := hid (hB2.out.below (bal (Below.refl _ _) (.cells #[.int .i64 (i : Nat), .int .i64 j] 98)))
    have ho3 := hid (ho2.out.alloc (.cells #[.int .i64 (i : Nat), .int .i64 j] 98))
    have hp3 := hid (rowIs2 w2 (.int .i64 (i : Nat)) (.int .i64 j) 98)
    have HO3 := hid (HO2.out.below (bal (Below.refl _ _) (.cells #[.int .i64 (i : Nat), .int .i64 j] 98)))
    have hbw3 := hid (bal hbw2.out (.cells #[.int .i64 (i : Nat), .int .i64 j] 98))
    have hc3 : (w2.alloc (.cells #[.int .i64 (i : Nat), .int .i64 j] 98)).cell? ⟨b, off + i * 3, none⟩ = some (.int .i64 (T i).mask) := ((bal (Below.refl _ w2) _).cell (p := ⟨b, off + i * 3, none⟩) hb).trans t0
    have hbz : b < (w2.alloc (.cells #[.int .i64 (i : Nat), .int .i64 j] 98)).heap.size := by simp; omega
    have hw13 : w1.heap.size < (w2.alloc (.cells #[.int .i64 (i : Nat), .int .i64 j] 98)).heap.size := by simp; omega
    have hw23 : w2.heap.size < (w2.alloc (.cells #[.int .i64 (i : Nat), .int .i64 j] 98)).heap.size := by simp
    generalize w2.alloc (.cells #[.int .i64 (i : Nat), .int .i64 j] 98) = W at hB3 ho3 hp3 HO3 hbw3 hc3 hbz hw13 hw23 ⊢
    clear hB2 ho2 HO2 hbw2 x0 x1 x2 x3 x4 x5 x6 o0 o1 r0 r1 r2 r3 r4 r5 r6 r7 t0
    obtain ⟨x0, x1, x2, x3, x4, x5, x6⟩ := hB3.out.cells
    obtain ⟨r0, r1, r2, r3, r4, r5, r6, r7⟩ := hB3.out.row
    have p0 := hp3.out.cell (i := 0) (by omega)
    simp at p0
    go_cut [32] (fun s32 wx => s32 = .bool (!goodRowB (T i).mask ⟨r.x, r.y, r.px, r.py, r.wd, r.ht, r.ms, r.rr⟩) ∧ Below W.heap.size W wx)
    case first =>
      go_region_with (go_at_call 26; refine (goodRow_any _ _ _ _ _ _ _ _ _ _).mono ?_; rintro e w4 ⟨rfl, hb4⟩; have HB4 := hid hb4; clear hb4)
      all_goals
        go_wp2_with fail
        go_meet
        exact ⟨rfl, (Below.drew (Below.refl _ W)).trans HB4.out⟩
    case rest =>
    obtain ⟨rfl, hb4⟩ := hcut
    have hB4 := hid (hB3.out.below hb4)
    have ho4 := hid (rowIs_below ho3.out hb4)
    have hp4 := hid (rowIs_below hp3.out hb4)
    have HO4 := hid (HO3.out.below hb4)
    have hbw4 := hid (bcall hbw3.out hb4)
    clear hB3 ho3 HO3 hbw3 x0 x1 x2 x3 x4 x5 x6 r0 r1 r2 r3 r4 r5 r6 r7 p0 hb4
    cases hgr : goodRowB (T i).mask ⟨r.x, r.y, r.px, r.py, r.wd, r.ht, r.ms, r.rr⟩
    · obtain ⟨x0, x1, x2, x3, x4, x5, x6⟩ := hB4.out.cells
      have o0 := ho4.out.cell (i := 0) (by omega)
      have o1 := ho4.out.cell (i := 1) (by omega)
      simp at o0 o1
      go_wp2_with fail
      refine bodyPost_ret (v := .tuple #[.agg #[.slice (some ⟨g, 0, none⟩) N c', .int .i64 next], .int .i64 2]) (by simp [results, Try.results39, go_sem, x3, x4]) rfl ⟨⟨_, _, rfl, _, hfin.out _ _ _ HO4.out hB4.out.res, Or.inr (Or.inr (Or.inl ⟨rfl, HG.out, ⟨_, _, hat.out, hgr⟩, HPL.out⟩))⟩, ?_⟩
      refine Below.setCell ?_ (by simp; omega) _
      refine Below.setCell ?_ (by simp; omega) _
      exact hbw4.out
    · have hO := HO4.out.2.1 o (by simp)
      rw [OtOwn, HROWS.out] at hO
      obtain ⟨gr, rc, hrv⟩ := own_some hO.2 (by omega)
      have HR := hid hO.2
      rw [hrv] at HR
      have HRV := hid hrv
      obtain ⟨-, -, t2⟩ := HO4.out.cell HN.out
      rw [HAL.out, hrv] at t2
      clear hO hrv
      obtain ⟨x0, x1, x2, x3, x4, x5, x6⟩ := hB4.out.cells
      obtain ⟨r0, r1, r2, r3, r4, r5, r6, r7⟩ := hB4.out.row
      have p0 := hp4.out.cell (i := 0) (by omega)
      have p1 := hp4.out.cell (i := 1) (by omega)
      have o0 := ho4.out.cell (i := 0) (by omega)
      have o1 := ho4.out.cell (i := 1) (by omega)
      simp at p0 p1 o0 o1
      obtain ⟨s0, s1, s2, s3, s4, s5, s6, s7⟩ := row_at HR.out HQ.out
      have f0 : wc.frozen? ⟨gr, j * 8, none⟩ = false := HR.out.frozenAt (j * 8)
      have f1 : wc.frozen? ⟨gr, j * 8 + 1, none⟩ = false := HR.out.frozenAt (j * 8 + 1)
      have f2 : wc.frozen? ⟨gr, j * 8 + 2, none⟩ = false := HR.out.frozenAt (j * 8 + 2)
      have f3 : wc.frozen? ⟨gr, j * 8 + 3, none⟩ = false := HR.out.frozenAt (j * 8 + 3)
      have f4 : wc.frozen? ⟨gr, j * 8 + 4, none⟩ = false := HR.out.frozenAt (j * 8 + 4)
      have f5 : wc.frozen? ⟨gr, j * 8 + 5, none⟩ = false := HR.out.frozenAt (j * 8 + 5)
      have f6 : wc.frozen? ⟨gr, j * 8 + 6, none⟩ = false := HR.out.frozenAt (j * 8 + 6)
      have f7 : wc.frozen? ⟨gr, j * 8 + 7, none⟩ = false := HR.out.frozenAt (j * 8 + 7)
      have hjk' : (j : Int) < (k : Int) + 1 := by omega
      go_wp2_with fail
      go_cut [] (fun wx => wx = (setRow8 wc gr j r).drew)
      case first =>
        go_region
        all_goals
          go_wp2_with fail
          go_meet
          all_goals rfl
      case rest =>
      obtain rfl := hcut
      have hgB : w.heap.size + 1 + 1 + 1 ≤ gr := (HR.out.lt gr rfl).1
      have HO5 := hid (own_write r HO4.out HRV.out HROWS.out hjk)
      have hgr1 : gr ≠ w1.heap.size := fun e => own_not_box HO4.out ho4.out (by decide) (by rw [← e]; simp [blocks_mid, otBlocks, HRV.out, Value.ownBlock])
      have hgrow := grown_row8 wc gr j r
      have hB5 := hid (hB4.out.grown hgrow (fun x e => by cases e; exact Or.inr (by omega)))
      have ho5 := hid (rowIs_grown ho4.out hgrow (fun e => hgr1 (by cases e; rfl)))
      have hbw5 := hid (hbw4.out.grown hgrow (by have := hbw4.out.size; omega) (fun x e => by cases e; omega))
      clear hgrow x0 x1 x2 x3 x4 x5 x6 r0 r1 r2 r3 r4 r5 r6 r7 p0 p1 o0 o1 s0 s1 s2 s3 s4 s5 s6 s7 f0 f1 f2 f3 f4 f5 f6 f7 t2 hB4 ho4 HO4 hbw4 HR
      generalize setRow8 wc gr j r = W5 at HO5 hB5 ho5 hbw5 ⊢
      obtain ⟨x0, x1, x2, x3, x4, x5, x6⟩ := hB5.out.cells
      have o0 := ho5.out.cell (i := 0) (by omega)
      have o1 := ho5.out.cell (i := 1) (by omega)
      simp at o0 o1
      go_wp2_with fail
      refine bodyPost_ret (v := .tuple #[.agg #[.slice (some ⟨g, 0, none⟩) N c', .int .i64 next], .int .i64 0]) (by simp [results, Try.results39, go_sem, x3, x4]) rfl ⟨⟨_, _, rfl, _, hfin.out _ _ _ HO5.out hB5.out.res, Or.inr (Or.inr (Or.inr ⟨rfl, HG.out, ⟨_, _, hat.out, hgr⟩, ?_⟩))⟩, ?_⟩
      · rw [← hL2.out]; simp
      · refine Below.drew ?_
        refine Below.setCell ?_ (by simp; omega) _
        refine Below.setCell ?_ (by simp; omega) _
        exact hbw5.out
end Go.Proofs.Ytckkkdldljhehaa.St
namespace Go.Proofs.Ytckkkdldljhehaa.St
open Go.Proofs.Ytckkkdldljhehaa.Num
open Go.ChangeShapes Go.WideShapes Go.ChangeAt Go.RowKit

/-- The row of a thing that comes to have another mask. -/
def chR (mask m : Int) (q r : R8) : R8 := onlyR mask (layR m q r)
def ChangeOut (next v mask : Int) (r : R8) (L : List Tab) (ec : Int) (L' : List Tab) : Prop :=
  (ec = 1 ∧ ¬ GoodL next L ∧ L' = L) ∨ (ec = 3 ∧ GoodL next L ∧ v ∉ allL L ∧ L' = L) ∨
  (ec = 2 ∧ GoodL next L ∧ (∃ m q, At L v m q ∧ goodRowB mask (chR mask m q r) = false) ∧ L' = L) ∨ (ec = 0 ∧ GoodL next L ∧ ∃ m q, At L v m q ∧ goodRowB mask (chR mask m q r) = true ∧ L' = putT mask v (chR mask m q r) (killT v L))
theorem Boxes.setR {W : World} {b : Nat} {v : Value} {next : Int} {r : R8} (h : Boxes W b v next r) (q : R8) : Boxes (setRow8 W (b + 1) 0 q) b v next q := by
  have hg := grown_row8 W (b + 1) 0 q
  refine ⟨rowIs_grown h.s hg (by simp), ?_, rowIs_grown h.res hg (by simp)⟩
  unfold setRow8
  refine ((((((((h.r.set 0 _).set 1 _).set 2 _).set 3 _).set 4 _).set 5 _).set 6 _).set 7 _).congr (fun i hi => ?_)
  match i, hi with
  | 0, _ => rfl
  | 1, _ => rfl
  | 2, _ => rfl
  | 3, _ => rfl
  | 4, _ => rfl
  | 5, _ => rfl
  | 6, _ => rfl
  | 7, _ => rfl

attribute [local go_sem ↓] Go.wp_at_zero Go.wp_at_succ
set_option maxHeartbeats 20000000 in
set_option maxRecDepth 100000 in
theorem change_any (a : Option Addr) (n cap : Nat) (next v mask : Int) (r : R8) (T : Nat → TabV) (I : Nat → Nat → Int) (R : Nat → Nat → R8) (w : World) (h : StoreIn w a n T I R) :
    Calls Try.prog 40 #[.agg #[.slice a n cap, .int .i64 next], .int .i64 v, .int .i64 mask, .agg #[.int .i64 r.x, .int .i64 r.y, .int .i64 r.px, .int .i64 r.py, .int .i64 r.wd, .int .i64 r.ht, .int .i64 r.ms, .int .i64 r.rr]] w fun e w' =>
      (∃ u ec, e = .returned (.tuple #[.agg #[u, .int .i64 next], .int .i64 ec]) ∧ ∃ S, Own w' w.heap.size u S ∧ ChangeOut next v mask r (plainOf T I R n) ec (S.map (·.t))) ∧ Below w.heap.size w w' := by
  have HST := hid h
  clear h
  go_enter Try.func40, Try.ntmps40
  go_wp2_with fail
  refine (clone_any a n cap next T I R _ (HST.out.below (bal (bal (bal (Below.refl _ _) _) _) _)).tabs (HST.out.below (bal (bal (bal (Below.refl _ _) _) _) _)).ids (HST.out.below (bal (bal (bal (Below.refl _ _) _) _) _)).rows HST.out.fits).mono ?_
  rintro e w1 ⟨⟨u, rfl, S, hown, hpl⟩, hb1⟩
  obtain ⟨a', c', rfl⟩ := own_form hown.1
  obtain ⟨N, hN⟩ : ∃ N, N = S.length := ⟨_, rfl⟩
  rw [← hN] at hown ⊢
  have HN := hid hN
  clear hN
  have hBX := hid ((Boxes.made w (.slice a n cap) next r).below hb1)
  have hz1 := hb1.size
  simp at hz1
  have hbw := hid (bcall (bal (bal (bal (Below.refl _ _) _) _) _) hb1)
  simp only [World.size_alloc] at hown
  have HO := hid hown
  have HPL := hid hpl
  clear hown hpl hb1
  obtain ⟨x0, x1, x2, x3, x4, x5, x6⟩ := hBX.out.cells
  have hs1 : w.heap.size < w1.heap.size := by omega
  go_wp2_with fail
  have hBA := hid (hBX.out.below (bal (Below.refl _ _) (.cells #[.slice a' N c', .int .i64 next] 28)))
  have hoA := hid (rowIs2 w1 (.slice a' N c') (.int .i64 next) 28)
  have HOA := hid (HO.out.below (bal (Below.refl _ _) (.cells #[.slice a' N c', .int .i64 next] 28)))
  refine (seek_any a n cap next v T I R _ (HST.out.below (bcall hbw.out (bal (Below.refl _ _) _)))).mono ?_
  rintro e w2 ⟨he, hb2⟩
  have hB2 := hid (hBA.out.below hb2)
  have ho2 := hid (rowIs_below hoA.out hb2)
  have HO2 := hid (HOA.out.below hb2)
  have hbw2 := hid (bcall (bcall hbw.out (bal (Below.refl _ _) _)) hb2)
  have hz2 := hb2.size
  simp at hz2
  clear hb2 hBX HO hbw x0 x1 x2 x3 x4 x5 x6 hBA hoA HOA
  obtain ⟨x0, x1, x2, x3, x4, x5, x6⟩ := hB2.out.cells
  have o0 := ho2.out.cell (i := 0) (by omega)
  have o1 := ho2.out.cell (i := 1) (by omega)
  simp at o0 o1
  have hne2 : w.heap.size + 1 + 1 ≠ w1.heap.size := by omega
  have hw12 : w1.heap.size < w2.heap.size := by omega
  have hw02 : w.heap.size + 1 + 1 < w2.heap.size := by omega
  have hfin : Hid (∀ (W : World) (u : Value) (S : List OT), Own W (w.heap.size + 1 + 1 + 1) u S → W.rowIs (w.heap.size + 1 + 1) 28 2 (fun i => if i = 0 then .slice none 0 0 else .int .i64 0) → Own ((W.setCell ⟨w.heap.size + 1 + 1, 0, none⟩ u).setCell ⟨w.heap.size + 1 + 1, 1, none⟩ (.int .i64 next)) w.heap.size u S) := by
    refine hid (fun W u S ho hb => ?_)
    have hb1 := own_not_box ho hb (by decide)
    have h2 := (ho.set' hb1 0 u).set' hb1 1 (.int .i64 next)
    exact ⟨owns_mono h2.1 (by omega), fun o hm => ⟨owns_mono (h2.2.1 o hm).1 (by omega), owns_mono (h2.2.1 o hm).2 (by omega)⟩, h2.2.2⟩
  rcases he with ⟨rfl, hg⟩ | ⟨rfl, hg, hno⟩ | ⟨i, j, rfl, hg, hi, hj, hv⟩
  · have HG := hid hg
    clear hg
    go_wp2_with fail
    refine bodyPost_ret (v := .tuple #[.agg #[.slice a' N c', .int .i64 next], .int .i64 1]) (by simp [results, Try.results40, go_sem, x3, x4, hw02]) rfl ⟨⟨_, _, rfl, S, (hfin.out _ _ _ HO2.out hB2.out.res).below (bal (Below.refl _ _) _), Or.inl ⟨rfl, HG.out, HPL.out⟩⟩, ?_⟩
    refine bal ?_ _
    refine Below.setCell ?_ (by simp; omega) _
    refine Below.setCell ?_ (by simp; omega) _
    exact hbw2.out
  · have HG := hid (And.intro hg hno)
    clear hg hno
    go_wp2_with fail
    refine bodyPost_ret (v := .tuple #[.agg #[.slice a' N c', .int .i64 next], .int .i64 3]) (by simp [results, Try.results40, go_sem, x3, x4, hw02]) rfl ⟨⟨_, _, rfl, S, (hfin.out _ _ _ HO2.out hB2.out.res).below (bal (Below.refl _ _) _), Or.inr (Or.inl ⟨rfl, HG.out.1, noneTo_iff.1 HG.out.2, HPL.out⟩)⟩, ?_⟩
    refine bal ?_ _
    refine Below.setCell ?_ (by simp; omega) _
    refine Below.setCell ?_ (by simp; omega) _
    exact hbw2.out
  · obtain ⟨A, o, C, rfl, hAl, hoj, hot⟩ := split_own HPL.out hi hj hv
    have hL : (A ++ o :: C).map (·.t) = A.map (·.t) ++ o.t :: C.map (·.t) := by simp
    have hgl : GoodL next ((A ++ o :: C).map (·.t)) := by rw [HPL.out]; exact hg
    obtain ⟨k, lst, q, rk, hsp⟩ := spot_of hgl.even hL hoj
    obtain ⟨hn31, -⟩ := goodL_n (fun i hi => (HST.out.hz i hi).1) hg
    have hNl : (A ++ o :: C).length = n := by have := congrArg List.length HPL.out; simpa [plainOf] using this
    have hN31 : N ≤ 31 := by have := HN.out; omega
    have hiN : (i : Int) < (N : Int) := by have := HN.out; omega
    have hjk : j ≤ k := hsp.lt
    have hk10 : k ≤ 9 := by
      have h2 := hsp.il
      have h3 := hgl.2.1
      rw [hL, allL_mid] at h3
      simp at h3
      omega
    obtain ⟨g, c, hgc⟩ := own_some (n := N) (v := .slice a' N c') (by have := HO2.out.1; rw [← HN.out] at this; exact this) (by rw [HN.out, List.length_append, List.length_cons]; omega)
    simp only [Value.slice.injEq] at hgc
    obtain ⟨rfl, -, rfl⟩ := hgc
    have hat : Hid (At (plainOf T I R n) v (T i).mask q) := hid (by
      have h1 := hsp.at_
      rw [HPL.out, hot] at h1
      exact h1)
    have hqR : q = R i j := by
      have h1 := hsp.row
      rw [hot] at h1
      have h2 := hsp.rl
      rw [hot] at h2
      simp only [tabOf, List.length_map, List.length_range] at h2
      simp only [tabOf, List.getElem?_map] at h1
      rw [List.getElem?_range (by omega)] at h1
      simpa using h1.symm
    have hrl : (T i).rl = k + 1 := by
      have h2 := hsp.rl
      rw [hot] at h2
      simpa [tabOf] using h2
    obtain ⟨rl, HRL⟩ : ∃ rl, Hid (rl = layR (T i).mask q r) := ⟨_, rfl⟩
    obtain ⟨rn, HRN⟩ : ∃ rn, Hid (rn = onlyR mask rl) := ⟨_, rfl⟩
    have hchr : Hid (rn = chR mask (T i).mask q r) := hid (by rw [HRN.out, HRL.out]; rfl)
    have HLAY : Hid (∀ W', Calls Try.prog 74 #[.int .i64 (T i).mask, .agg #[.int .i64 (R i j).x, .int .i64 (R i j).y, .int .i64 (R i j).px, .int .i64 (R i j).py, .int .i64 (R i j).wd, .int .i64 (R i j).ht, .int .i64 (R i j).ms, .int .i64 (R i j).rr], .agg #[.int .i64 r.x, .int .i64 r.y, .int .i64 r.px, .int .i64 r.py, .int .i64 r.wd, .int .i64 r.ht, .int .i64 r.ms, .int .i64 r.rr]] W' fun e w' =>
        e = .returned (.agg #[.int .i64 rl.x, .int .i64 rl.y, .int .i64 rl.px, .int .i64 rl.py, .int .i64 rl.wd, .int .i64 rl.ht, .int .i64 rl.ms, .int .i64 rl.rr]) ∧ Below W'.heap.size W' w') :=
      hid (fun W' => by rw [HRL.out, hqR]; exact lay_any _ _ _ _ _ _ _ _ _ _ _ _ _ _ _ _ _ W')
    have HONL : Hid (∀ W', Calls Try.prog 28 #[.int .i64 mask, .agg #[.int .i64 rl.x, .int .i64 rl.y, .int .i64 rl.px, .int .i64 rl.py, .int .i64 rl.wd, .int .i64 rl.ht, .int .i64 rl.ms, .int .i64 rl.rr]] W' fun e w' =>
        e = .returned (.agg #[.int .i64 rn.x, .int .i64 rn.y, .int .i64 rn.px, .int .i64 rn.py, .int .i64 rn.wd, .int .i64 rn.ht, .int .i64 rn.ms, .int .i64 rn.rr]) ∧ Below W'.heap.size W' w') :=
      hid (fun W' => by rw [HRN.out]; exact only_any _ _ _ _ _ _ _ _ _ W')
    have HT : Hid (∀ W : World, Own W (w.heap.size + 1 + 1 + 1) (.slice (some ⟨g, 0, none⟩) N c') (A ++ o :: C) → w.heap.size + 1 + 1 + 1 ≤ W.heap.size → Calls Try.prog 83 #[.agg #[.slice (some ⟨g, 0, none⟩) N c', .int .i64 next], .agg #[.int .i64 (i : Nat), .int .i64 j]] W fun e w' =>
        (∃ u, e = .returned (.agg #[u, .int .i64 next]) ∧ ∃ S', Own w' (w.heap.size + 1 + 1 + 1) u S' ∧ S'.map (·.t) = killT v (plainOf T I R n)) ∧ Below (w.heap.size + 1 + 1 + 1) W w' ∧ Keep W w') := by
      refine hid (fun W ho hs => ?_)
      have ht := takeOut_own g N c' next (w.heap.size + 1 + 1 + 1) A C o j k lst rk W HN.out hs (by omega) hsp.il hsp.rl (by omega) hsp.lt hsp.li hsp.lr ho
      rw [hAl] at ht
      refine ht.mono ?_
      rintro e w' ⟨⟨u, rfl, S', ho', hm'⟩, hb'⟩
      refine ⟨⟨u, rfl, S', ho', ?_⟩, hb'⟩
      rw [hm', ← HPL.out, hL, killT_eq (by rw [← hL]; exact hgl.2.2.2.2.2) hoj hsp.il hsp.rl hsp.li hsp.lr]
      unfold takeL
      simp
    have hmem : v ∈ allL (plainOf T I R n) := by rw [← HPL.out, hL, allL_mid]; exact List.mem_append.2 (Or.inr (List.mem_append.2 (Or.inl (List.mem_of_getElem? hoj))))
    have HP : Hid (∀ (W : World) (u : Value) (S' : List OT), Own W (w.heap.size + 1 + 1 + 1) u S' → S'.map (·.t) = killT v (plainOf T I R n) → w.heap.size + 1 + 1 + 1 ≤ W.heap.size → Calls Try.prog 81 #[.agg #[u, .int .i64 next], .int .i64 mask, .int .i64 v, .agg #[.int .i64 rn.x, .int .i64 rn.y, .int .i64 rn.px, .int .i64 rn.py, .int .i64 rn.wd, .int .i64 rn.ht, .int .i64 rn.ms, .int .i64 rn.rr]] W fun e w' =>
        (∃ u, e = .returned (.agg #[u, .int .i64 next]) ∧ ∃ S'', Own w' (w.heap.size + 1 + 1 + 1) u S'' ∧ S''.map (·.t) = putT mask v rn (killT v (plainOf T I R n))) ∧ Below (w.heap.size + 1 + 1 + 1) W w' ∧ Keep W w') := by
      refine hid (fun W u S' ho hm hs => ?_)
      obtain ⟨ka, kp, -⟩ := kill_all hg hmem
      obtain ⟨a6, c6, rfl⟩ := own_form ho.1
      have hlen : (allL (killT v (plainOf T I R n))).length ≤ 9 := by have h1 := kp.length_eq; have h2 := hg.2.1; simp at h1; omega
      have hSl : ∀ o ∈ S', o.t.ids.length ≤ 1000 ∧ o.t.rows.length ≤ 1000 := fun o ho => by
        have hm' : o.t ∈ killT v (plainOf T I R n) := by rw [← hm]; exact List.mem_map.2 ⟨o, ho, rfl⟩
        have h1 := len_le hlen _ hm'
        have h2 := (ka.2.2.2.2.1 _ hm').2.1
        omega
      have hS31 : S'.length ≤ 1000 := by
        have h1 := goodL_len ka
        rw [← hm, List.length_map] at h1
        omega
      have hp := putIn_any a6 S'.length c6 next v mask (w.heap.size + 1 + 1 + 1) S' rn W rfl hs hS31 hSl ho (rising_of hm ka.2.2.2.1) (fun A C e _ _ => insertAt_any a6 S'.length c6 _ A C mask (by rw [e]) hS31)
      rw [hm] at hp
      exact hp
    have HG := hid hg
    obtain ⟨b, off, rfl, hb, hc⟩ := (HST.out.below hbw2.out).tabs (by omega)
    obtain ⟨t0, t1, t2⟩ := hc i hi
    obtain ⟨b', off', hra, hb', hc'⟩ := (HST.out.below hbw2.out).rows i hi (by omega)
    obtain ⟨q0, q1, q2, q3, q4, q5, q6, q7⟩ := hc' j (by omega)
    rw [hra, hrl] at t2
    have hi' : (i : Int) < (n : Int) := by omega
    have hn' : (n : Int) ≤ 31 := by omega
    have hjk' : (j : Int) < (k : Int) + 1 := by omega
    have HAL := hid hAl
    clear hg hgl hsp hoj hot hL hj hv hNl hc hc' hAl hqR hmem
    obtain ⟨r0, r1, r2, r3, r4, r5, r6, r7⟩ := hB2.out.row
    have hw00 : w.heap.size < w2.heap.size := by omega
    have hw01 : w.heap.size + 1 < w2.heap.size := by omega
    go_wp2_with fail
    have hb3 : Below w2.heap.size w2 ((w2.alloc (.cells #[.int .i64 (i : Nat), .int .i64 j] 98)).alloc (.cells #[.int .i64 (T i).mask, .slice (T i).ia (T i).il (T i).ic, .slice (some ⟨b', off', none⟩) (k + 1) (T i).rc] 66)) := bal (bal (Below.refl _ w2) _) _
    have hB3 := hid (hB2.out.below hb3)
    have ho3 := hid (rowIs_below ho2.out hb3)
    have hp3 := hid ((rowIs2 w2 (.int .i64 (i : Nat)) (.int .i64 j) 98).alloc (.cells #[.int .i64 (T i).mask, .slice (T i).ia (T i).il (T i).ic, .slice (some ⟨b', off', none⟩) (k + 1) (T i).rc] 66))
    have HO3 := hid (HO2.out.below hb3)
    have hbw3 := hid (bcall hbw2.out hb3)
    have tb0 : ((w2.alloc (.cells #[.int .i64 (i : Nat), .int .i64 j] 98)).alloc (.cells #[.int .i64 (T i).mask, .slice (T i).ia (T i).il (T i).ic, .slice (some ⟨b', off', none⟩) (k + 1) (T i).rc] 66)).cell? ⟨w2.heap.size + 1, 0, none⟩ = some (.int .i64 (T i).mask) := by simp
    have tb2 : ((w2.alloc (.cells #[.int .i64 (i : Nat), .int .i64 j] 98)).alloc (.cells #[.int .i64 (T i).mask, .slice (T i).ia (T i).il (T i).ic, .slice (some ⟨b', off', none⟩) (k + 1) (T i).rc] 66)).cell? ⟨w2.heap.size + 1, 2, none⟩ = some (.slice (some ⟨b', off', none⟩) (k + 1) (T i).rc) := by simp
    have hz3 : ((w2.alloc (.cells #[.int .i64 (i : Nat), .int .i64 j] 98)).alloc (.cells #[.int .i64 (T i).mask, .slice (T i).ia (T i).il (T i).ic, .slice (some ⟨b', off', none⟩) (k + 1) (T i).rc] 66)).heap.size = w2.heap.size + 1 + 1 := by simp
    rw [← hb3.cell (by exact hb')] at q0 q1 q2 q3 q4 q5 q6 q7
    generalize (w2.alloc (.cells #[.int .i64 (i : Nat), .int .i64 j] 98)).alloc (.cells #[.int .i64 (T i).mask, .slice (T i).ia (T i).il (T i).ic, .slice (some ⟨b', off', none⟩) (k + 1) (T i).rc] 66) = W at hB3 ho3 hp3 HO3 hbw3 tb0 tb2 hz3 q0 q1 q2 q3 q4 q5 q6 q7 ⊢
    clear hb3 hB2 ho2 HO2 hbw2 x0 x1 x2 x3 x4 x5 x6 o0 o1 r0 r1 r2 r3 r4 r5 r6 r7 t0 t1 t2
    have hW01 : w.heap.size + 1 < W.heap.size := by omega
    have hW22 : w2.heap.size < W.heap.size := by omega
    have HZ3 := hid hz3
    clear hz3
    obtain ⟨r0, r1, r2, r3, r4, r5, r6, r7⟩ := hB3.out.row
    have p1 := hp3.out.cell (i := 1) (by omega)
    simp at p1
    have rf0 := hB3.out.r.frozen 0
    have rf1 := hB3.out.r.frozen 1
    have rf2 := hB3.out.r.frozen 2
    have rf3 := hB3.out.r.frozen 3
    have rf4 := hB3.out.r.frozen 4
    have rf5 := hB3.out.r.frozen 5
    have rf6 := hB3.out.r.frozen 6
    have rf7 := hB3.out.r.frozen 7
    go_cut [] (fun wx => ∃ w5, Below W.heap.size W w5 ∧ wx = setRow8 w5 (w.heap.size + 1) 0 rn)
    case first =>
      clear hfin HP HT HG hat hchr HRL HRN HPL HST HN HAL HO3 hbw3 hB3 ho3 hp3 HZ3
      go_region_with (first
        | (go_at_call 74; refine (HLAY.out _).mono ?_; rintro e w4 ⟨rfl, hb4d⟩; have hb4 : Below W.heap.size W w4 := (Below.drew (Below.refl _ W)).trans hb4d; obtain ⟨hc4, hf4⟩ := bcell hb4; have hw4 : w.heap.size + 1 < w4.heap.size := Nat.lt_of_lt_of_le hW01 hb4.size; have HB4 := hid hb4; clear hb4 hb4d)
        | (go_at_call 28; refine (HONL.out _).mono ?_; rintro e w5 ⟨rfl, hb5⟩; obtain ⟨hc5, hf5⟩ := bcell hb5; have HB5 := hid (bcall HB4.out hb5); clear hb5))
      all_goals
        go_wp2_with fail
        go_meet
        exact ⟨_, HB5.out, rfl⟩
    case rest =>
    obtain ⟨w5, hb5, rfl⟩ := hcut
    have hB5 := hid ((hB3.out.below hb5).setR rn)
    have hgr5 := grown_row8 w5 (w.heap.size + 1) 0 rn
    have ho5 := hid (rowIs_grown (rowIs_below ho3.out hb5) hgr5 (by simp; omega))
    have hp5 := hid (rowIs_grown (rowIs_below hp3.out hb5) hgr5 (by simp; omega))
    have HO5 : Hid (Own (setRow8 w5 (w.heap.size + 1) 0 rn) (w.heap.size + 1 + 1 + 1) (.slice (some ⟨g, 0, none⟩) N c') (A ++ o :: C)) := hid ((HO3.out.below hb5).kept hgr5 (by omega))
    have hbw5 := hid ((bcall hbw3.out hb5).grown hgr5 (by have := hb5.size; have := hbw3.out.size; omega) (fun x e => by cases e; omega))
    have hz5 : Hid (w2.heap.size + 1 + 1 ≤ (setRow8 w5 (w.heap.size + 1) 0 rn).heap.size) := hid (by have h1 := hb5.size; have h2 := HZ3.out; have h3 := hgr5.size; omega)
    clear hb5 hgr5 hB3 ho3 hp3 HO3 hbw3 r0 r1 r2 r3 r4 r5 r6 r7 rf0 rf1 rf2 rf3 rf4 rf5 rf6 rf7 p1 tb0 tb2 q0 q1 q2 q3 q4 q5 q6 q7
    generalize setRow8 w5 (w.heap.size + 1) 0 rn = W5 at hB5 ho5 hp5 HO5 hbw5 hz5 ⊢
    obtain ⟨r0, r1, r2, r3, r4, r5, r6, r7⟩ := hB5.out.row
    go_wp2_with fail
    refine (goodRow_any _ _ _ _ _ _ _ _ _ _).mono ?_
    rintro e w6 ⟨rfl, hb6⟩
    have hB6 := hid (hB5.out.below hb6)
    have ho6 := hid (rowIs_below ho5.out hb6)
    have hp6 := hid (rowIs_below hp5.out hb6)
    have HO6 := hid (HO5.out.below hb6)
    have hbw6 := hid (bcall hbw5.out hb6)
    have hz6 := hid (Nat.le_trans hz5.out hb6.size)
    clear hb6 hB5 ho5 hp5 HO5 hbw5 hz5 r0 r1 r2 r3 r4 r5 r6 r7
    obtain ⟨x0, x1, x2, x3, x4, x5, x6⟩ := hB6.out.cells
    obtain ⟨r0, r1, r2, r3, r4, r5, r6, r7⟩ := hB6.out.row
    have o0 := ho6.out.cell (i := 0) (by omega)
    have o1 := ho6.out.cell (i := 1) (by omega)
    have p0 := hp6.out.cell (i := 0) (by omega)
    have p1 := hp6.out.cell (i := 1) (by omega)
    simp at o0 o1 p0 p1
    cases hgr : goodRowB mask ⟨rn.x, rn.y, rn.px, rn.py, rn.wd, rn.ht, rn.ms, rn.rr⟩
    · go_wp2_with fail
      refine bodyPost_ret (v := .tuple #[.agg #[.slice (some ⟨g, 0, none⟩) N c', .int .i64 next], .int .i64 2]) (by simp [results, Try.results40, go_sem, x3, x4]) rfl ⟨⟨_, _, rfl, _, hfin.out _ _ _ HO6.out hB6.out.res, Or.inr (Or.inr (Or.inl ⟨rfl, HG.out, ⟨_, _, hat.out, by rw [← hchr.out]; exact hgr⟩, HPL.out⟩))⟩, ?_⟩
      refine Below.setCell ?_ (by simp; omega) _
      refine Below.setCell ?_ (by simp; omega) _
      exact hbw6.out
    · go_wp2_with fail
      have hs6 : w.heap.size + 1 + 1 + 1 ≤ w6.heap.size := by have := hz6.out; omega
      have HT6 : Hid (Calls Try.prog 83 #[.agg #[.slice (some ⟨g, 0, none⟩) N c', .int .i64 next], .agg #[.int .i64 (i : Nat), .int .i64 j]] w6.drew fun e w' =>
        (∃ u, e = .returned (.agg #[u, .int .i64 next]) ∧ ∃ S', Own w' (w.heap.size + 1 + 1 + 1) u S' ∧ S'.map (·.t) = killT v (plainOf T I R n)) ∧ Below (w.heap.size + 1 + 1 + 1) w6 w') := by
        refine hid ((HT.out w6.drew HO6.out hs6).mono ?_)
        rintro e w' ⟨h1, h2, h3⟩
        exact ⟨h1, (Below.drew (Below.refl _ w6)).trans h2⟩
      have HPL6 := hid (fun (W : World) (u : Value) (S' : List OT) (ho : Own W (w.heap.size + 1 + 1 + 1) u S') (hm : S'.map (·.t) = killT v (plainOf T I R n)) (hb : Below (w.heap.size + 1 + 1 + 1) w6 W) => HP.out W u S' ho hm (Nat.le_trans hs6 hb.size))
      have HAT := hid hat.out
      clear hfin HP HT hat HRL HRN HST HN HAL HZ3 HLAY HONL hp6 HO6 ho6
      go_region_with (first
        | (go_at_call 83; refine HT6.out.mono ?_; rintro e w7 ⟨⟨u7, rfl, S7, ho7, hm7⟩, hb7⟩; obtain ⟨a7, c7, rfl⟩ := own_form ho7.1; have hB7 := boxes_after hB6.out hb7; obtain ⟨s0, s1, s2, s3, s4, s5, s6, s7⟩ := hB7.row; have HP7 := hid (HPL6.out w7 _ S7 ho7 hm7 hb7); have HB7 := hid hb7; have HX7 := hid hB7; clear ho7 hm7 hb7 hB7)
        | (go_at_call 81; refine HP7.out.mono ?_; rintro e w8 ⟨⟨u8, rfl, S8, ho8, hm8⟩, hb8, -⟩; obtain ⟨a8, c8, rfl⟩ := own_form ho8.1; have hB8 := boxes_after HX7.out hb8; obtain ⟨y0, y1, y2, y3, y4, y5, y6⟩ := hB8.cells; have HO8 := hid ho8; have HM8 := hid hm8; have HB8 := hid (HB7.out.trans hb8); have HX8 := hid hB8; clear ho8 hm8 hb8 hB8))
      all_goals
        go_wp2_with fail
        refine bodyPost_ret (v := .tuple #[.agg #[.slice a8 S8.length c8, .int .i64 next], .int .i64 0]) (by simp [results, Try.results40, go_sem, y3, y4]) rfl ⟨⟨_, _, rfl, S8, ?_, Or.inr (Or.inr (Or.inr ⟨rfl, HG.out, _, _, HAT.out, by rw [← hchr.out]; exact hgr, by rw [← hchr.out]; exact HM8.out⟩))⟩, ?_⟩
        · have hb1 := own_not_box HO8.out HX8.out.res (by decide)
          have h2 := (HO8.out.set' hb1 0 (.slice a8 S8.length c8)).set' hb1 1 (.int .i64 next)
          exact ⟨owns_mono h2.1 (by omega), fun o hm => ⟨owns_mono (h2.2.1 o hm).1 (by omega), owns_mono (h2.2.1 o hm).2 (by omega)⟩, h2.2.2⟩
        · refine Below.setCell ?_ (by simp; omega) _
          refine Below.setCell ?_ (by simp; omega) _
          exact hbw6.out.trans (HB8.out.mono (by omega))
end Go.Proofs.Ytckkkdldljhehaa.St
