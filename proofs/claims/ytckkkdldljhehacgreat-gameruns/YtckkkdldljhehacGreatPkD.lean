/- Part of the proofs of GamePlays and GameRuns (package ninepinslaw): contracts of the functions that they call. -/
import Derived.Laws.CopyOwn
import Derived.Lib.AppendZerosOnto
import Derived.Lib.Overlaps
import Derived.Laws.Externs
import Derived.WalkArith
import Derived.Test.YtckkkdldljhehacGreatPkC
namespace Go.Proofs.YtckkkdldljhehacGreat
namespace St
open Num
open Go.ChangeShapes Go.WideShapes Go.ChangeAt Go.RowKit
theorem run_copyN {P : Program} (w : World) (dT sT ty elem : TypeId) (g o dLen dCap : Nat) (a : Addr) (sLen sCap k : Nat) (cur : List Value) (t : TypeId) (cs : List Value)
  (hu : P.underlying dT = some (.slice elem)) (hs : (P.info? elem).map (·.size) = some k)
  (hg : w.heap[g]? = some (.cells cur.toArray t (0, 0))) (hn : cs.length = Nat.min sLen dLen * k)
  (hsrc : ∀ j v, cs[j]? = some v → w.cell? (a.add j) = some v) (hfit : o + cs.length ≤ cur.length) (h1 : ∀ v ∈ cs, v.oneCell' = true) :
  (Builtin.copy_ #[dT, sT] ty #[.slice (some ⟨g, o, none⟩) dLen dCap, .slice (some a) sLen sCap]).run P w = .ok (goInt (Nat.min sLen dLen)) (w.setRow g (splice cur o cs).toArray) := by
 have hl := run_loadCells_list (P := P) w a cs hsrc
 have hst := run_storeCells_at P g o t cs 0 cur.toArray w hg (by simpa using hfit) h1
 cases hq : P.info? elem with
 | none => simp [hq] at hs
 | some i =>
  have hi : i.size = k := by simpa [hq] using hs
  rw [hn] at hl
  simp [Builtin.copy_, run_underlying hu, Builtin.lenOf, Builtin.firstCells, sizeOf, typeInfo, hq, hi, hl, hst, splice]
theorem grown_setRow {w : World} {g : Nat} (cs : Array Value) : w.grownBy (w.setRow g cs) (some g) := by
 refine ⟨rfl, rfl, rfl, by simp [World.setRow], fun k _ hk => ?_⟩
 have hne : g ≠ k := fun e => hk (by rw [e])
 simp [World.setRow, Array.getElem?_modify, hne]
theorem copy_list {P : Program} {w : World} {ops : Array Oper} {rest : List Oper} {o : Oper} {a : Act} {Q : Exit → Act → World → Prop} (hgd : o.guard = none) (d s : Operand) (dT sT : TypeId)
  (ho : o.op = .call { callee := .builtin .copy, args := #[d, s], argTypes := #[dT, sT] }) (elem : TypeId) (k : Nat) (hu : P.underlying dT = some (.slice elem)) (hsz : (P.info? elem).map (·.size) = some k)
  (g off dLen dCap : Nat) (ad : Addr) (sLen sCap : Nat) (hd : a.eval d = .slice (some ⟨g, off, none⟩) dLen dCap) (hs : a.eval s = .slice (some ad) sLen sCap)
  (cur : List Value) (t : TypeId) (hg : w.heap[g]? = some (.cells cur.toArray t (0, 0))) (cs : List Value) (hn : cs.length = Nat.min sLen dLen * k)
  (hsrc : ∀ j v, cs[j]? = some v → w.cell? (ad.add j) = some v) (hfit : off + cs.length ≤ cur.length) (h1 : ∀ v ∈ cs, v.oneCell' = true)
  (h : ∀ w', Hid (w'.heap[g]? = some (.cells (splice cur off cs).toArray t (0, 0))) → Hid (w.grownBy w' (some g)) → wpList P ops Q rest (a.put o.dst (goInt (Nat.min sLen dLen))) w') :
  wpList P ops Q (o :: rest) a w := by
 refine wpList_plain hgd fun K hK => ?_
 have hrun := run_copyN (P := P) w dT sT o.type elem g off dLen dCap ad sLen sCap k cur t cs hu hsz hg hn hsrc hfit h1
 unfold Oper.wp execOp
 simp only [ho, resolve, invoke, builtin, Sem.run_bind, Sem.run_pure, Result.andThen_ok, List.map_toArray, List.map_cons, List.map_nil, hd, hs, hrun]
 exact hK _ _ (h _ (setRow_heap w g _ _ t _ hg) (grown_setRow _))
theorem copy_step {P : Program} {w : World} {ops : Array Oper} {o : Oper} {a : Act} {K : Act → World → Prop} {Q : Exit → Act → World → Prop} {E : Prop} (hgd : o.guard = none) (d s : Operand) (dT sT : TypeId)
  (ho : o.op = .call { callee := .builtin .copy, args := #[d, s], argTypes := #[dT, sT] }) (elem : TypeId) (k : Nat) (hu : P.underlying dT = some (.slice elem)) (hsz : (P.info? elem).map (·.size) = some k)
  (g off dLen dCap : Nat) (ad : Addr) (sLen sCap : Nat) (hd : a.eval d = .slice (some ⟨g, off, none⟩) dLen dCap) (hs : a.eval s = .slice (some ad) sLen sCap)
  (cur : List Value) (t : TypeId) (hg : w.heap[g]? = some (.cells cur.toArray t (0, 0))) (cs : List Value) (hn : cs.length = Nat.min sLen dLen * k)
  (hsrc : ∀ j v, cs[j]? = some v → w.cell? (ad.add j) = some v) (hfit : off + cs.length ≤ cur.length) (h1 : ∀ v ∈ cs, v.oneCell' = true)
  (h : ∀ w', Hid (w'.heap[g]? = some (.cells (splice cur off cs).toArray t (0, 0))) → Hid (w.grownBy w' (some g)) → K (a.put o.dst (goInt (Nat.min sLen dLen))) w') :
  if Region.wanted o (yielded ops a.tmps) = true then Oper.wp P o a w K Q else E := by
 have hw : Region.wanted o (yielded ops a.tmps) = true := by simp [Region.wanted, hgd]
 rw [if_pos hw]
 have hrun := run_copyN (P := P) w dT sT o.type elem g off dLen dCap ad sLen sCap k cur t cs hu hsz hg hn hsrc hfit h1
 unfold Oper.wp
 simp [execOp, ho, resolve, invoke, builtin, hd, hs, hrun, Result.andThen]
 exact h _ (setRow_heap w g _ _ t _ hg) (grown_setRow _)
theorem zeros_list {P : Program} {w : World} {ops : Array Oper} {rest : List Oper} {o : Oper} {a : Act} {Q : Exit → Act → World → Prop} (hgd : o.guard = none) (s x : Operand) (t tn : TypeId)
  (ho : o.op = .call { callee := .builtin .append, args := #[s, x], argTypes := #[t, tn] }) (e : TypeId) (i : TypeInfo) (z : Value) (kn : IntKind) (ht : P.underlying t = some (.slice e)) (htn : P.underlying tn = some (.int kn)) (hi : P.info? e = some i) (hz : i.zero = some z) (hzs : z.cells.size = i.size) (hs0 : 0 < i.size)
  (g sLen sCap k : Nat) (q : Int) (hq : q = k) (hs : a.eval s = .slice (some ⟨g, 0, none⟩) sLen sCap) (hx : a.eval x = .int .i64 q) (olds : List Value) (hol : olds.length = sLen * i.size)
  (hcs : ∀ j v, olds[j]? = some v → w.cell? ⟨g, j, none⟩ = some v) (hk : 0 < k) (hgr : sCap < sLen + k) (hb : (sLen + k) * i.bytes ≤ 140737488355328) (h63 : sLen + k ≤ maxLen)
  (h : ∀ G zs w', sLen + k ≤ G → G ≤ maxLen → zs.length = (G - sLen) * i.size → Hid (w'.heap[w.heap.size]? = some (.cells (olds ++ zs).toArray e (0, 0))) → Hid (Below w.heap.size w w') → w.heap.size < w'.heap.size → wpList P ops Q rest (a.put o.dst (.slice (some ⟨w.heap.size, 0, none⟩) (sLen + k) G)) w') :
  wpList P ops Q (o :: rest) a w := by
 refine wpList_plain hgd fun K hK => ?_
 have hold : (Builtin.firstCells i.size sLen (.slice (some ⟨g, 0, none⟩) sLen sCap)).run P w.drew = .ok olds.toArray w.drew :=
  run_firstCells_some w.drew i.size sLen ⟨g, 0, none⟩ sLen sCap olds hol (fun j v hj => by rw [Addr.add_lit, Nat.zero_add]; exact hcs j v hj)
 have hkb : k * i.bytes ≤ (sLen + k) * i.bytes := Nat.mul_le_mul_right _ (by omega)
 have hrun := Lib.run_append_grow_zeros (P := P) w t tn o.type e i z .i64 kn ht htn hi hz (some ⟨g, 0, none⟩) sLen sCap olds hold k hk hs0 hgr (by unfold maxLen at h63; omega) (by omega) (growslice_fits hgr hb)
 subst hq
 unfold Oper.wp execOp
 simp only [ho, resolve, invoke, builtin, Sem.run_bind, Sem.run_pure, Result.andThen_ok, List.map_toArray, List.map_cons, List.map_nil, hs, hx, hrun]
 refine hK _ _ (h (grownCap w (sLen + k) sCap e) ((Builtin.zeroCells z.cells k ++ Builtin.zeroCells z.cells (grownCap w (sLen + k) sCap e - (sLen + k))).toList) _ (grownCap_ge _ _ _ _) (grownCap_le_maxLen _ _ _ _ h63) ?_ ?_ ?_ ?_)
 ·have := grownCap_ge w (sLen + k) sCap e
  simp [Builtin.zeroCells, hzs]
  rw [← Nat.add_mul]
  congr 1
  omega
 ·have : (w.drew.alloc (.cells (olds.toArray ++ Builtin.zeroCells z.cells k ++ Builtin.zeroCells z.cells (grownCap w (sLen + k) sCap e - (sLen + k))) e)).heap[w.heap.size]? = some (.cells (olds.toArray ++ Builtin.zeroCells z.cells k ++ Builtin.zeroCells z.cells (grownCap w (sLen + k) sCap e - (sLen + k))) e (0, 0)) := (MapKept.heap_alloc w.drew _).1
  refine hid ?_
  rw [this]
  simp [Array.append_assoc]
 ·exact hid ((Below.drew (Below.refl _ w)).alloc (Nat.le_refl _) _)
 ·simp
end St
namespace St
open Num
open Go.ChangeShapes Go.WideShapes Go.ChangeAt Go.RowKit
theorem size66 : (Tryz.prog.info? 65).map (·.size) = some 3 := by kernel_rfl
def newT (m : Int) : List Value := [.int .i64 m, .slice none 0 0, .slice none 0 0]
theorem splice_at {α : Type} (A Z N : List α) : splice (A ++ Z) A.length N = A ++ N ++ Z.drop N.length := by
 unfold splice
 rw [List.take_left', List.drop_append, List.drop_eq_nil_of_le (by omega), Nat.add_sub_cancel_left]
 ·simp
 ·rfl
set_option maxHeartbeats 1000000 in
set_option maxRecDepth 100000 in
theorem insert_grow (g n c i vb : Nat) (m : Int) (B : Nat) (xs : List Value) (w : World) (hn : (n + 1) * 56 ≤ 140737488355328) (hi : i < n) (hnc : n ≤ c) (hroom : c < n + 1) (hvb : vb < w.heap.size) (hown : w.ownsRow B 65 3 (.slice (some ⟨g, 0, none⟩) n c) n xs)
  (hv : w.cell? ⟨vb, 0, none⟩ = some (.int .i64 m) ∧ w.cell? ⟨vb, 1, none⟩ = some (.slice none 0 0) ∧ w.cell? ⟨vb, 2, none⟩ = some (.slice none 0 0)) (h1 : ∀ u ∈ xs, u.oneCell' = true) :
  Calls Tryz.prog 112 #[.slice (some ⟨g, 0, none⟩) n c, .int .i64 i, .slice (some ⟨vb, 0, none⟩) 1 1] w fun e w' =>
   ∃ G, e = .returned (.slice (some ⟨w.heap.size, 0, none⟩) (n + 1) G) ∧ w'.ownsRow w.heap.size 65 3 (.slice (some ⟨w.heap.size, 0, none⟩) (n + 1) G) (n + 1) (xs.take (i * 3) ++ (newT m ++ xs.drop (i * 3))) ∧ Below w.heap.size w w' := by
 obtain ⟨i0, hi0, hz0, hzs, hzb⟩ := info_parts info66
 have hxl := hown.1
 have HO := hid hown
 have HV := hid hv
 have H1 := hid h1
 have hgl := (hown.lt g rfl).2
 clear hown hv h1
 have hz1 : ¬ ((i : Int) = (n : Int)) := by omega
 have hci : ¬ (c = i) := by omega
 have hnx : n ≤ 9223372036854775806 := by omega
 have hcx : c ≤ 9223372036854775806 := by omega
 obtain ⟨X1, hX1⟩ : ∃ X1, X1 = xs.take (i * 3) := ⟨_, rfl⟩
 obtain ⟨X2, hX2⟩ : ∃ X2, X2 = xs.drop (i * 3) := ⟨_, rfl⟩
 have hx1l : X1.length = i * 3 := by rw [hX1, List.length_take]; omega
 have hx2l : X2.length = (n - i) * 3 := by rw [hX2, List.length_drop]; omega
 have HX1 := hid hX1
 have HX2 := hid hX2
 clear hX1 hX2
 have hzc : (Value.agg #[.int .i64 0, .slice none 0 0, .slice none 0 0]).cells.size = i0.size := by rw [hzs]; rfl
 go_enter Tryz.func112, Tryz.ntmps112
 go_wp2_with (at_builtin; refine zeros_list rfl _ _ 41 3 rfl 65 i0 (.agg #[.int .i64 0, .slice none 0 0, .slice none 0 0]) .i64 Tryz.underlying41 Tryz.underlying3 hi0 hz0 hzc (by omega) g i c (n + 1 - i) _ ?c0 rfl rfl X1 ?c1 ?c2 ?c3 ?c4 ?c5 ?c6 ?_)
 case c0 => omega
 case c1 => rw [hzs]; exact hx1l
 case c2 =>
  intro j v hj
  have hjl : j < i * 3 := by rw [← hx1l]; exact (List.getElem?_eq_some_iff.1 hj).1
  rw [HX1.out, List.getElem?_take, if_pos hjl] at hj
  rw [HO.out.cellAt j (by omega)]
  exact hj
 case c3 => omega
 case c4 => omega
 case c5 => rw [hzb]; omega
 case c6 => unfold maxLen; omega
 have hik : i + (n + 1 - i) = n + 1 := by omega
 rw [hik]
 intro G zs w1 hG1 hG2 hzl hrow hbl hsz
 unfold maxLen at hG2
 have hvw := (hbl.out.cell (p := ⟨vb, 0, none⟩) hvb).trans HV.out.1
 have hvw1 := (hbl.out.cell (p := ⟨vb, 1, none⟩) hvb).trans HV.out.2.1
 have hvw2 := (hbl.out.cell (p := ⟨vb, 2, none⟩) hvb).trans HV.out.2.2
 have HVW := hid (And.intro hvw (And.intro hvw1 hvw2))
 have HIK := hid hik
 clear hvw hvw1 hvw2 hik
 have hGi : ¬ (G = i) := by omega
 have hGi1 : ¬ (G = i + 1) := by omega
 go_wp2_with (refine copy_list rfl _ _ 41 41 rfl 65 3 Tryz.underlying41 size66 w.heap.size (i * 3) (n + 1 - i) _ ⟨vb, 0, none⟩ 1 1 rfl rfl (X1 ++ zs) 65 hrow.out (newT m) ?d1 ?d2 ?d3 ?d4 ?_)
 case d1 =>
  show 3 = _
  have : Nat.min 1 (n + 1 - i) = 1 := by show min 1 (n + 1 - i) = 1; omega
  rw [this]
 case d2 =>
  intro j v hj
  rw [Addr.add_lit, Nat.zero_add]
  match j, hj with
  | 0, hj => cases hj; exact HVW.out.1
  | 1, hj => cases hj; exact HVW.out.2.1
  | 2, hj => cases hj; exact HVW.out.2.2
 case d3 => rw [List.length_append, hx1l, hzl]; show i * 3 + 3 ≤ _; omega
 case d4 => intro v hv; simp [newT] at hv; rcases hv with rfl | rfl <;> rfl
 intro w2 hrow2 hg2
 have hw1 : IntKind.i64.wrap ((i : Int) + 1) = (i : Int) + 1 := by rw [IntKind.wrap_i64]; omega
 have hb1 : (0 : Int) ≤ (i : Int) + 1 := by omega
 have hb3 : (i : Int) ≤ (n : Int) := by omega
 have hb4 : (i : Int) + 1 ≤ (n : Int) + 1 := by omega
 have htn : ((i : Int) + 1).toNat = i + 1 := by omega
 obtain ⟨L2, hL2⟩ : ∃ L2, L2 = splice (X1 ++ zs) (i * 3) (newT m) := ⟨_, rfl⟩
 rw [← hL2] at hrow2
 have HL2 := hid hL2
 have hl2l : L2.length = G * 3 := by
  rw [hL2, length_splice _ _ _ (by rw [List.length_append, hx1l, hzl]; show i * 3 + 3 ≤ _; omega), List.length_append, hx1l, hzl, ← Nat.add_mul]
  congr 1
  omega
 clear hL2
 have HSRC : Hid (∀ j v, X2[j]? = some v → w2.cell? ⟨g, i * 3 + j, none⟩ = some v) := hid (fun j v hj => by
  have hjl : j < (n - i) * 3 := by rw [← hx2l]; exact (List.getElem?_eq_some_iff.1 hj).1
  have hb := hg2.out.block g (by have := hbl.out.size; omega) (fun e => by cases e; omega)
  rw [World.cell?_of_block (a := ⟨g, i * 3 + j, none⟩) hb, hbl.out.cell (by exact hgl), HO.out.cellAt _ (by omega)]
  rw [HX2.out, List.getElem?_drop] at hj
  exact hj)
 have H12 := hid (hbl.out.grown hg2.out (by omega) (fun q hq => by cases hq; exact Nat.le_refl _))
 go_wp2_with fail
 go_region_law (refine copy_step rfl _ _ 41 41 rfl 65 3 Tryz.underlying41 size66 w.heap.size ((i + 1) * 3) (n + 1 - (i + 1)) (G - (i + 1)) ⟨g, i * 3, none⟩ (n - i) (c - i) (by simp [Act.eval, Act.put]) (by simp [Act.eval, Act.put]) L2 65 hrow2.out X2 (by rw [hx2l]; congr 1; show n - i = min (n - i) (n + 1 - (i + 1)); omega) (fun j v hj => by rw [Addr.add_lit]; exact HSRC.out j v hj) (by rw [hx2l, hl2l]; omega) (fun v hv => H1.out v (by rw [HX2.out] at hv; exact List.mem_of_mem_drop hv)) ?_; intro w3 hrow3 hg3)
 all_goals
  have hfin : Hid (w3.ownsRow w.heap.size 65 3 (.slice (some ⟨w.heap.size, 0, none⟩) (n + 1) G) (n + 1) (xs.take (i * 3) ++ (newT m ++ xs.drop (i * 3)))) := by
   have e1 : L2 = (X1 ++ newT m) ++ zs.drop 3 := by
    rw [HL2.out, ← hx1l, splice_at]
    simp [newT]
   have hl1 : (X1 ++ newT m).length = (i + 1) * 3 := by rw [List.length_append, hx1l]; show i * 3 + 3 = _; omega
   have e2 : splice L2 ((i + 1) * 3) X2 = (X1 ++ newT m) ++ (X2 ++ (zs.drop 3).drop X2.length) := by rw [e1, ← hl1, splice_at, List.append_assoc (X1 ++ newT m)]
   have hr := hrow3.out
   rw [e2] at hr
   have hlen : ((X1 ++ newT m) ++ X2).length = (n + 1) * 3 := by rw [List.length_append, hl1, hx2l, ← Nat.add_mul]; congr 1; omega
   refine hid ⟨by rw [← HX1.out, ← HX2.out, ← List.append_assoc]; exact hlen, Or.inr ⟨w.heap.size, G, _, rfl, Nat.le_refl _, hr, hG1, by unfold maxLen; omega, ?_, ?_⟩⟩
   ·rw [List.size_toArray, ← List.append_assoc, List.length_append, hlen, List.length_drop, List.length_drop, hzl, hx2l]
    omega
   ·rw [← hlen, ← List.append_assoc, List.take_left', HX1.out, HX2.out, List.append_assoc]
    rfl
  have hbf := hid (H12.out.grown (grown_drew hg3.out) (by have := hg2.out.size; omega) (fun q hq => by cases hq; exact Nat.le_refl _))
  clear hrow3 hg3 hrow2 hg2 hrow HSRC
  go_wp2
  go_ret
  exact ⟨G, rfl, hfin.out, hbf.out⟩
end St
namespace St
open Num
open Go.ChangeShapes Go.WideShapes Go.ChangeAt Go.RowKit
theorem splice_two {α : Type} (X1 A Z X2 N : List α) (hA : A.length = N.length) : splice (splice (X1 ++ A ++ Z) (X1.length + N.length) X2) X1.length N = X1 ++ N ++ X2 ++ Z.drop X2.length := by
 rw [show X1.length + N.length = (X1 ++ A).length by rw [List.length_append, hA], splice_at (X1 ++ A) Z X2, List.append_assoc, List.append_assoc, splice_at X1, List.append_assoc, ← hA, List.drop_left]
 simp
set_option maxHeartbeats 1000000 in
set_option maxRecDepth 100000 in
theorem insert_shift (g n c i vb : Nat) (m : Int) (B : Nat) (xs : List Value) (w : World) (hi : i < n) (hroom : n + 1 ≤ c) (hc63 : c ≤ maxLen) (hvg : vb ≠ g) (hown : w.ownsRow B 65 3 (.slice (some ⟨g, 0, none⟩) n c) n xs)
  (hv : w.heap[vb]? = some (.cells #[.int .i64 m, .slice none 0 0, .slice none 0 0] 65 (0, 0))) (h1 : ∀ u ∈ xs, u.oneCell' = true) :
  Calls Tryz.prog 112 #[.slice (some ⟨g, 0, none⟩) n c, .int .i64 i, .slice (some ⟨vb, 0, none⟩) 1 1] w fun e w' =>
   e = .returned (.slice (some ⟨g, 0, none⟩) (n + 1) c) ∧ w'.ownsRow B 65 3 (.slice (some ⟨g, 0, none⟩) (n + 1) c) (n + 1) (xs.take (i * 3) ++ (newT m ++ xs.drop (i * 3))) ∧ w.grownBy w' (some g) := by
 have hxl := hown.1
 have hbB := (hown.lt g rfl).1
 obtain ⟨cur, hcur, hcs, htk⟩ : ∃ cur : Array Value, w.heap[g]? = some (.cells cur 65 (0, 0)) ∧ cur.size = c * 3 ∧ cur.toList.take (n * 3) = xs := by
  rcases hown.2 with ⟨e, _⟩ | ⟨g', c', cur, e, _, hb, _, _, h5, h6⟩
  ·cases e
  ·cases e; exact ⟨cur, hb, h5, h6⟩
 unfold maxLen at hc63
 have hov : ∀ lb cb, (callFunc 133 #[.slice (some ⟨vb, 0, none⟩) 1 1, .slice (some ⟨g, (i + 1) * 3, none⟩) lb cb]).run Tryz.prog w = .ok (.value (.bool false)) w := fun lb cb => by
  rw [run_callFunc_extern Tryz.func133 (by kernel_rfl) (by kernel_rfl) (by kernel_rfl) (e := Extern.SlicesOverlaps.overlaps #[41, 41] #[4]) (by kernel_rfl),
   Lib.run_overlaps_apart w 41 4 65 Tryz.underlying41 3 Tryz.sizeOf65 ⟨vb, 0, none⟩ ⟨g, (i + 1) * 3, none⟩ 1 1 lb cb hvg 65 65 3 (c * 3) (by simp [World.shape?, hv]) (by simp [World.shape?, hcur, hcs]) (by omega) (by simp [World.frozen?, hv]) (by simp [World.frozen?, hv])]
  rfl
 have hz1 : ¬ ((i : Int) = (n : Int)) := by omega
 have hcx : c ≤ 9223372036854775807 := by omega
 have hnx : n ≤ 9223372036854775806 := by omega
 have hnc1 : ¬ ((c : Int) < (n : Int) + 1) := by omega
 obtain ⟨X2, hX2⟩ : ∃ X2, X2 = xs.drop (i * 3) := ⟨_, rfl⟩
 have hx2l : X2.length = (n - i) * 3 := by rw [hX2, List.length_drop]; omega
 have hw1 : IntKind.i64.wrap ((i : Int) + 1) = (i : Int) + 1 := by rw [IntKind.wrap_i64]; omega
 have hb1 : (0 : Int) ≤ (i : Int) + 1 := by omega
 have hb3 : (i : Int) ≤ (n : Int) := by omega
 have hb4 : (i : Int) + 1 ≤ (n : Int) + 1 := by omega
 have hb5 : (i : Int) ≤ (n : Int) + 1 := by omega
 have hci : ¬ (c = i) := by omega
 have hci1 : ¬ (c = i + 1) := by omega
 have htn : ((i : Int) + 1).toNat = i + 1 := by omega
 have HO := hid hown
 have HV := hid hv
 have H1 := hid h1
 have HX2 := hid hX2
 have HC := hid hcur
 have HT := hid htk
 clear hown hv h1 hX2 hcur htk
 go_enter Tryz.func112, Tryz.ntmps112
 go_wp2_with (simp only [hov])
 have hcl : cur.toList.length = c * 3 := by rw [Array.length_toList]; exact hcs
 have HSRC : Hid (∀ j v, X2[j]? = some v → w.cell? ⟨g, i * 3 + j, none⟩ = some v) := hid (fun j v hj => by
  have hjl : j < (n - i) * 3 := by rw [← hx2l]; exact (List.getElem?_eq_some_iff.1 hj).1
  rw [HO.out.cellAt _ (by omega)]
  rw [HX2.out, List.getElem?_drop] at hj
  exact hj)
 go_region_law (refine copy_step rfl _ _ 41 41 rfl 65 3 Tryz.underlying41 size66 g ((i + 1) * 3) (n + 1 - (i + 1)) (c - (i + 1)) ⟨g, i * 3, none⟩ (n + 1 - i) (c - i) (by simp [Act.eval, Act.put]) (by simp [Act.eval, Act.put]) cur.toList 65 HC.out X2 (by rw [hx2l]; congr 1; show n - i = min (n + 1 - i) (n + 1 - (i + 1)); omega) (fun j v hj => by rw [Addr.add_lit]; exact HSRC.out j v hj) (by rw [hx2l, hcl]; omega) (fun v hv => H1.out v (by rw [HX2.out] at hv; exact List.mem_of_mem_drop hv)) ?_; intro w1 hrow1 hg1)
 all_goals
  have hl1l : (splice cur.toList ((i + 1) * 3) X2).length = c * 3 := by rw [length_splice _ _ _ (by rw [hx2l, hcl]; omega), hcl]
  obtain ⟨L1, hL1⟩ : ∃ L1, L1 = splice cur.toList ((i + 1) * 3) X2 := ⟨_, rfl⟩
  rw [← hL1] at hrow1 hl1l
  have HL1 := hid hL1
  have HG1 := hid (grown_drew hg1.out)
  have HV1 := hid ((hg1.out.block vb (by simpa using (Array.getElem?_eq_some_iff.1 HV.out).1) (fun e => hvg (by cases e; rfl))).trans HV.out)
  clear hL1 hg1
  go_wp2_with (refine copy_list rfl _ _ 41 41 rfl 65 3 Tryz.underlying41 size66 g (i * 3) (n + 1 - i) _ ⟨vb, 0, none⟩ 1 1 rfl rfl L1 65 hrow1.out (newT m) ?d1 ?d2 ?d3 ?d4 ?_)
  case d1 =>
   show 3 = _
   have : Nat.min 1 (n + 1 - i) = 1 := by show min 1 (n + 1 - i) = 1; omega
   rw [this]
  case d2 =>
   intro j v hj
   rw [Addr.add_lit, Nat.zero_add]
   have hb := HV1.out
   match j, hj with
   | 0, hj => cases hj; simp [World.cell?, hb]
   | 1, hj => cases hj; simp [World.cell?, hb]
   | 2, hj => cases hj; simp [World.cell?, hb]
  case d3 => rw [hl1l]; show i * 3 + 3 ≤ _; omega
  case d4 => intro v hv; simp [newT] at hv; rcases hv with rfl | rfl <;> rfl
  intro w2 hrow2 hg2
  have hfin : Hid (w2.ownsRow B 65 3 (.slice (some ⟨g, 0, none⟩) (n + 1) c) (n + 1) (xs.take (i * 3) ++ (newT m ++ xs.drop (i * 3)))) := by
   have hx1l : (xs.take (i * 3)).length = i * 3 := by rw [List.length_take]; omega
   have e0 : cur.toList = xs.take (i * 3) ++ (cur.toList.drop (i * 3)).take 3 ++ cur.toList.drop (i * 3 + 3) := by
    have ex : xs.take (i * 3) = cur.toList.take (i * 3) := by rw [← HT.out, List.take_take]; congr 1; omega
    rw [ex, List.append_assoc, ← List.drop_drop, List.take_append_drop, List.take_append_drop]
   have hA : ((cur.toList.drop (i * 3)).take 3).length = (newT m).length := by rw [List.length_take, List.length_drop, hcl]; show _ = 3; omega
   have e2 : splice L1 (i * 3) (newT m) = (xs.take (i * 3) ++ newT m ++ X2) ++ (cur.toList.drop (i * 3 + 3)).drop X2.length := by
    have := splice_two (xs.take (i * 3)) _ (cur.toList.drop (i * 3 + 3)) X2 (newT m) hA
    rw [← e0, hx1l] at this
    rw [HL1.out, ← this]
    congr 2
    show (i + 1) * 3 = i * 3 + 3
    omega
   have hr := hrow2.out
   rw [e2] at hr
   have hlen : (xs.take (i * 3) ++ newT m ++ X2).length = (n + 1) * 3 := by rw [List.length_append, List.length_append, hx1l, hx2l]; show i * 3 + 3 + _ = _; omega
   refine hid ⟨by rw [← HX2.out, ← List.append_assoc]; exact hlen, Or.inr ⟨g, c, _, rfl, hbB, hr, hroom, by unfold maxLen; omega, ?_, ?_⟩⟩
   ·rw [List.size_toArray, ← e2, length_splice _ _ _ (by rw [hl1l]; show i * 3 + 3 ≤ _; omega), hl1l]
   ·rw [← hlen, List.take_left', HX2.out, List.append_assoc]
    rfl
  have hgf := hid (HG1.out.trans hg2.out)
  clear hrow1 hrow2 hg2 HG1 HSRC
  go_wp2
  go_ret
  exact ⟨rfl, hfin.out, hgf.out⟩
end St
namespace St
open Num
open Go.ChangeShapes Go.WideShapes Go.ChangeAt Go.RowKit
theorem grown_none {w w' : World} (h : w.grownBy w' none) (o : Option Nat) : w.grownBy w' o := ⟨h.os, h.tape, h.output, h.size, fun k hk _ => h.block k hk (by simp)⟩
theorem insertAt_any (a : Option Addr) (n c B : Nat) (A C : List OT) (m : Int) (hn : n = (A ++ C).length) (hz : n ≤ 1000) : InsertAt a n c B A C m := by
 cases C with
 | nil => exact insertAt_end a n c B A m (by simpa using hn) hz
 | cons o C =>
  intro W vb hB hvb hne hown hv h1
  have hlt : A.length < n := by rw [hn]; simp
  obtain ⟨g, c', e⟩ := own_some hown (by omega)
  cases e
  have hc : n ≤ c ∧ c ≤ maxLen := by
   rcases hown.2 with ⟨e, h0⟩ | ⟨g, c', _, e, _, _, h1, h2, _⟩
   ·cases e
   ·cases e; exact ⟨h1, h2⟩
  have hl3 : (tabCells A).length = A.length * 3 := tabCells_length A
  have e1 : (tabCells A ++ tabCells (o :: C)).take (A.length * 3) = tabCells A := by rw [← hl3, List.take_left']; rfl
  have e2 : (tabCells A ++ tabCells (o :: C)).drop (A.length * 3) = tabCells (o :: C) := by rw [← hl3, List.drop_left']; rfl
  by_cases hr : n + 1 ≤ c
  ·refine (insert_shift g n c A.length vb m B _ W hlt hr hc.2 (fun e => hne g rfl e.symm) hown hv h1).mono ?_
   rintro e w' ⟨rfl, h2, h3⟩
   rw [e1, e2] at h2
   exact ⟨_, rfl, h2, h3, Or.inl rfl⟩
  ·refine (insert_grow g n c A.length vb m B _ W (by omega) hlt hc.1 (by omega) hvb hown ⟨by simp [World.cell?, hv], by simp [World.cell?, hv], by simp [World.cell?, hv]⟩ h1).mono ?_
   rintro e w' ⟨G, rfl, h2, h3⟩
   rw [e1, e2] at h2
   exact ⟨_, rfl, owns_mono h2 hB, grown_none (grown_of_below h3) _, Or.inr ⟨_, Nat.le_refl _, rfl⟩⟩
end St
namespace St
open Num
open Go.ChangeShapes Go.WideShapes Go.ChangeAt Go.RowKit
theorem room_step {P : Program} {w : World} {ops : Array Oper} {o : Oper} {a : Act} {K : Act → World → Prop} {Q : Exit → Act → World → Prop} {E : Prop} (hgd : o.guard = none) (s x : Operand) (t : TypeId)
  (ho : o.op = .call { callee := .builtin .append, args := #[s, x], argTypes := #[t, t] })
  (base : Nat) (e : TypeId) (z : Value) (size bytes : Nat) (ht : P.underlying t = some (.slice e)) (hi : (P.info? e).map (fun i => (i.zero, i.size, i.bytes)) = some (some z, size, bytes))
  (g n cap : Nat) (xs : List Value) (hs : a.eval s = .slice (some ⟨g, 0, none⟩) n cap) (hown : w.ownsRow base e size (.slice (some ⟨g, 0, none⟩) n cap) n xs)
  (ad : Addr) (m c : Nat) (news : List Value) (hx : a.eval x = .slice (some ad) m c) (hl : news.length = m * size) (hnews : ∀ j u, news[j]? = some u → w.cell? (ad.add j) = some u) (h1 : ∀ u ∈ news, u.oneCell' = true)
  (hroom : n + m ≤ cap)
  (h : ∀ w', Hid (w'.ownsRow base e size (.slice (some ⟨g, 0, none⟩) (n + m) cap) (n + m) (xs ++ news)) → Hid (w.grownBy w' (some g)) → K (a.put o.dst (.slice (some ⟨g, 0, none⟩) (n + m) cap)) w') :
  if Region.wanted o (yielded ops a.tmps) = true then Oper.wp P o a w K Q else E := by
 have hw : Region.wanted o (yielded ops a.tmps) = true := by simp [Region.wanted, hgd]
 rw [if_pos hw]
 obtain ⟨i0, hi', hz0, hz1, hz2⟩ := info_parts hi
 obtain ⟨w', hr, h2, h3⟩ := run_append_fits (P := P) w base t o.type e i0 size ht hi' hz1 g n cap xs hown ad m c news hl hnews h1 hroom
 unfold Oper.wp
 simp [execOp, ho, resolve, invoke, builtin, hs, hx, hr, Result.andThen]
 exact h w' (hid h2) (hid h3)
theorem owns_part {w : World} {B g n c k size : Nat} {e : TypeId} {xs : List Value} (h : w.ownsRow B e size (.slice (some ⟨g, 0, none⟩) n c) n xs) (hk : k ≤ n) : w.ownsRow B e size (.slice (some ⟨g, 0, none⟩) k c) k (xs.take (k * size)) := by
 have hm : k * size ≤ n * size := Nat.mul_le_mul_right _ hk
 refine ⟨by rw [List.length_take, h.1]; omega, ?_⟩
 rcases h.2 with ⟨e, _⟩ | ⟨g', c', cur, e, h1, h2, h3, h4, h5, h6⟩
 ·cases e
 ·cases e
  refine Or.inr ⟨g, c, cur, rfl, h1, h2, by omega, h4, h5, ?_⟩
  rw [← h6, List.take_take, Nat.min_eq_left hm]
theorem clear_run {P : Program} {w : World} (t ty : TypeId) (base : Nat) (e : TypeId) (z : Value) (size bytes : Nat) (ht : P.underlying t = some (.slice e)) (hi : (P.info? e).map (fun i => (i.zero, i.size, i.bytes)) = some (some z, size, bytes))
  (hzs : z.cells.size = size) (hz1 : ∀ u ∈ z.cells.toList, u.oneCell' = true)
  (g n cap c : Nat) (xs : List Value) (hown : w.ownsRow base e size (.slice (some ⟨g, 0, none⟩) n cap) n xs) (hroom : n + 1 ≤ cap) :
  ∃ w', (Builtin.clear_ #[t] ty #[.slice (some ⟨g, n * size, none⟩) 1 c]).run P w = .ok (.tuple #[]) w' ∧ w'.ownsRow base e size (.slice (some ⟨g, 0, none⟩) n cap) n xs ∧ w.grownBy w' (some g) := by
 obtain ⟨i0, hi', hz0, hs0, hb0⟩ := info_parts hi
 rcases hown.2 with ⟨e, _⟩ | ⟨g', c', cur, e, q1, q2, q3, q4, q5, q6⟩
 ·cases e
 cases e
 have hzc : (Builtin.zeroCells z.cells 1).toList = z.cells.toList := by
  simp only [Builtin.zeroCells]
  apply List.ext_getElem
  ·simp
  ·intro i h1 h2
   simp at h1 h2 ⊢
   rw [Nat.mod_eq_of_lt h1]
   simp [h1]
 have hfit : n * size + z.cells.toList.length ≤ cur.size := by rw [q5, Array.length_toList, hzs, ← Nat.succ_mul]; exact Nat.mul_le_mul_right _ hroom
 have hst := run_storeCells_at P g (n * size) e z.cells.toList 0 cur w q2 (by simpa using hfit) hz1
 have hrun : (Builtin.clear_ #[t] ty #[.slice (some ⟨g, n * size, none⟩) 1 c]).run P w = .ok (.tuple #[]) (w.setRow g (splice cur.toList (n * size) z.cells.toList).toArray) := by
  simp [Builtin.clear_, run_underlying ht, zeroValue, typeInfo, hi', hz0, hzc, hst, splice]
 refine ⟨_, hrun, ⟨hown.1, Or.inr ⟨g, cap, _, rfl, q1, setRow_heap w g _ _ e _ q2, q3, q4, ?_, ?_⟩⟩, grown_setRow _⟩
 ·rw [List.size_toArray, length_splice _ _ _ (by simpa using hfit), Array.length_toList, q5]
 ·have hl : (cur.toList.take (n * size)).length = n * size := by rw [q6]; exact hown.1
  show List.take (n * size) (List.take (n * size) cur.toList ++ _) = xs
  rw [List.take_append_of_le_length (by omega), List.take_take, Nat.min_self, q6]
set_option maxHeartbeats 1000000 in
set_option maxRecDepth 100000 in
theorem delete_full (g i : Nat) (B : Nat) (xs : List Value) (w : World) (hown : w.ownsRow B 65 3 (.slice (some ⟨g, 0, none⟩) (i + 1) (i + 1)) (i + 1) xs) :
  Calls Tryz.prog 93 #[.slice (some ⟨g, 0, none⟩) (i + 1) (i + 1), .int .i64 i, .int .i64 ((i : Int) + 1)] w fun e w' =>
   e = .returned (.slice (some ⟨g, 0, none⟩) i (i + 1)) ∧ w'.ownsRow B 65 3 (.slice (some ⟨g, 0, none⟩) i (i + 1)) i (xs.take (i * 3)) ∧ w.grownBy w' (some g) := by
 have hcm : i + 1 ≤ maxLen := by
  rcases hown.2 with ⟨e, _⟩ | ⟨g', c', cur, e, _, hb, q1, q2, h5, h6⟩
  ·cases e
  ·cases e; exact q2
 unfold maxLen at hcm
 have hcx : i ≤ 9223372036854775806 := by omega
 have hz1 : ¬ ((i : Int) = (i : Int) + 1) := by omega
 have hb0 : (i : Int) ≤ (i : Int) + 1 := by omega
 have hb1 : (0 : Int) ≤ (i : Int) + 1 := by omega
 have htn : ((i : Int) + 1).toNat = i + 1 := by omega
 have hi1 : i + 1 - i = 1 := by omega
 have HO := hid hown
 clear hown
 go_enter Tryz.func93, Tryz.ntmps93
 go_wp2_with fail
 go_region_law (refine room_step rfl _ _ 41 rfl B 65 _ 3 56 Tryz.underlying41 info66 g i (i + 1) (xs.take (i * 3)) (by simp [Act.eval, Act.put]) (owns_part HO.out (by omega)) ⟨g, 0, none⟩ 0 0 [] (by simp [Act.eval, Act.put]) (by simp) (by simp) (by simp) (by omega) ?_; intro w1 hw1 hg1; rw [Nat.add_zero, List.append_nil] at hw1; rw [Nat.add_zero])
 all_goals
  have HG1 := hid (grown_drew hg1.out)
  clear hg1
  obtain ⟨w2, hrun, hw2, hg2⟩ := clear_run (P := Tryz.prog) 41 0 B 65 (.agg #[.int .i64 0, .slice none 0 0, .slice none 0 0]) 3 56 Tryz.underlying41 info66 rfl (by decide) g i (i + 1) 1 _ hw1.out (by omega)
  have HF := hid (And.intro hw2 (HG1.out.trans hg2))
  clear hw1 hw2 hg2 HG1
  go_wp2
  go_ret
  exact ⟨rfl, HF.out.1, HF.out.2⟩
set_option maxHeartbeats 1000000 in
set_option maxRecDepth 100000 in
theorem delete_one (g n c i : Nat) (B : Nat) (xs : List Value) (w : World) (hi : i < n) (hce : ¬ (c = i + 1)) (hown : w.ownsRow B 65 3 (.slice (some ⟨g, 0, none⟩) n c) n xs) (h1 : ∀ u ∈ xs, u.oneCell' = true) :
  Calls Tryz.prog 93 #[.slice (some ⟨g, 0, none⟩) n c, .int .i64 i, .int .i64 ((i : Int) + 1)] w fun e w' =>
   e = .returned (.slice (some ⟨g, 0, none⟩) (n - 1) c) ∧ w'.ownsRow B 65 3 (.slice (some ⟨g, 0, none⟩) (n - 1) c) (n - 1) (xs.take (i * 3) ++ xs.drop ((i + 1) * 3)) ∧ w.grownBy w' (some g) := by
 have hxl := hown.1
 obtain ⟨hnc, hcm⟩ : n ≤ c ∧ c ≤ maxLen := by
  rcases hown.2 with ⟨e, _⟩ | ⟨g', c', cur, e, _, hb, q1, q2, h5, h6⟩
  ·cases e
  ·cases e; exact ⟨q1, q2⟩
 unfold maxLen at hcm
 have hcx : c ≤ 9223372036854775807 := hcm
 have hz1 : ¬ ((i : Int) = (i : Int) + 1) := by omega
 have hb0 : (i : Int) ≤ (i : Int) + 1 := by omega
 have hb1 : (0 : Int) ≤ (i : Int) + 1 := by omega
 have hb3 : (i : Int) ≤ (n : Int) := by omega
 have hb4 : (i : Int) + 1 ≤ (n : Int) := by omega
 have hbc : (i : Int) ≤ (c : Int) := by omega
 have hnc' : (n : Int) ≤ (c : Int) := by omega
 have htn : ((i : Int) + 1).toNat = i + 1 := by omega
 have HO := hid hown
 have H1 := hid h1
 clear hown h1
 go_enter Tryz.func93, Tryz.ntmps93
 go_wp2_with fail
 obtain ⟨k, hk⟩ : ∃ k, k + 1 = n := ⟨n - 1, by omega⟩
 have hik : i + (n - (i + 1)) = k := by omega
 have HNEW : Hid (∀ j v, (xs.drop ((i + 1) * 3))[j]? = some v → w.cell? ⟨g, (i + 1) * 3 + j, none⟩ = some v) := hid (fun j v hj => by
  rw [List.getElem?_drop] at hj
  have := (List.getElem?_eq_some_iff.1 hj).1
  rw [HO.out.cellAt _ (by omega)]
  exact hj)
 have hkc : (k : Int) ≤ (n : Int) := by omega
 have hk0 : ¬ (c = k) := by omega
 have hkn : n - k = 1 := by omega
 go_region_law (refine room_step rfl _ _ 41 rfl B 65 _ 3 56 Tryz.underlying41 info66 g i c (xs.take (i * 3)) (by simp [Act.eval, Act.put]) (owns_part HO.out (by omega)) ⟨g, (i + 1) * 3, none⟩ (n - (i + 1)) (c - (i + 1)) (xs.drop ((i + 1) * 3)) (by simp [Act.eval, Act.put]) (by rw [List.length_drop, hxl]; omega) (fun j v hj => by rw [Addr.add_lit]; exact HNEW.out j v hj) (fun v hv => H1.out v (List.mem_of_mem_drop hv)) (by omega) ?_; intro w1 hw1 hg1; rw [hik] at hw1 ⊢)
 all_goals
  have HG1 := hid (grown_drew hg1.out)
  clear hg1
  have hkk : n - 1 = k := by omega
  obtain ⟨w2, hrun, hw2, hg2⟩ := clear_run (P := Tryz.prog) 41 0 B 65 (.agg #[.int .i64 0, .slice none 0 0, .slice none 0 0]) 3 56 Tryz.underlying41 info66 rfl (by decide) g k c (c - k) _ hw1.out (by omega)
  have HF := hid (And.intro hw2 (HG1.out.trans hg2))
  clear hw1 hw2 hg2 HG1
  go_wp2
  go_ret
  rw [hkk]
  exact ⟨rfl, HF.out.1, HF.out.2⟩
theorem delete_at (g n c i : Nat) (B : Nat) (xs : List Value) (w : World) (hi : i < n) (hown : w.ownsRow B 65 3 (.slice (some ⟨g, 0, none⟩) n c) n xs) (h1 : ∀ u ∈ xs, u.oneCell' = true) :
  Calls Tryz.prog 93 #[.slice (some ⟨g, 0, none⟩) n c, .int .i64 i, .int .i64 ((i : Int) + 1)] w fun e w' =>
   e = .returned (.slice (some ⟨g, 0, none⟩) (n - 1) c) ∧ w'.ownsRow B 65 3 (.slice (some ⟨g, 0, none⟩) (n - 1) c) (n - 1) (xs.take (i * 3) ++ xs.drop ((i + 1) * 3)) ∧ w.grownBy w' (some g) := by
 by_cases hce : c = i + 1
 ·have hxl := hown.1
  have hnc : n ≤ c := by
   rcases hown.2 with ⟨e, _⟩ | ⟨g', c', cur, e, _, hb, q1, q2, h5, h6⟩
   ·cases e
   ·cases e; exact q1
  have hn : n = i + 1 := by omega
  subst hn hce
  rw [List.drop_eq_nil_of_le (by omega), List.append_nil]
  exact delete_full g i B xs w hown
 ·exact delete_one g n c i B xs w hi hce hown h1
end St
namespace St
open Num
open Go.ChangeShapes Go.WideShapes Go.ChangeAt Go.RowKit
set_option maxHeartbeats 1000000 in
set_option maxRecDepth 100000 in
theorem seek_any (a : Option Addr) (n cap : Nat) (next v : Int) (T : Nat → TabV) (I : Nat → Nat → Int) (R : Nat → Nat → R8) (w : World) (h : StoreIn w a n T I R) :
  Calls Tryz.prog 61 #[.agg #[.slice a n cap, .int .i64 next], .int .i64 v] w fun e w' =>
   ((e = .returned (.tuple #[.agg #[.int .i64 0, .int .i64 0], .int .i64 1]) ∧ ¬ GoodL next (plainOf T I R n)) ∨
    (e = .returned (.tuple #[.agg #[.int .i64 0, .int .i64 0], .int .i64 3]) ∧ GoodL next (plainOf T I R n) ∧ NoneTo T I v n) ∨
    ∃ i j : Nat, e = .returned (.tuple #[.agg #[.int .i64 i, .int .i64 j], .int .i64 0]) ∧ GoodL next (plainOf T I R n) ∧ i < n ∧ j < (T i).il ∧ I i j = v) ∧ Below w.heap.size w w' := by
 have HST := hid h
 clear h
 go_enter Tryz.func61, Tryz.ntmps61
 go_wp2_with fail
 refine ((HST.out.below (bal (bal (Below.refl _ _) _) _)).good cap next).mono ?_
 rintro e w1 ⟨⟨g, rfl, hg⟩, hb1⟩
 have HB1 := hid (bcall (bal (bal (Below.refl _ _) _) _) hb1)
 have hr := hid (rowIs_below (rowIs2 (w.alloc (.cells #[.slice a n cap, .int .i64 next] 43)) (.int .i64 0) (.int .i64 0) 99) hb1)
 have hs := hid (rowIs_below ((rowIs2 w (.slice a n cap) (.int .i64 next) 43).alloc (.cells #[.int .i64 0, .int .i64 0] 99)) hb1)
 have HG := hid hg
 have hz1 := hb1.size
 simp at hz1
 clear hb1 hg
 rw [World.size_alloc] at hr
 have x0 := hs.out.cell (i := 0) (by omega)
 have x1 := hs.out.cell (i := 1) (by omega)
 have y0 := hr.out.cell (i := 0) (by omega)
 have y1 := hr.out.cell (i := 1) (by omega)
 have yf0 := hr.out.frozen 0
 have yf1 := hr.out.frozen 1
 simp at x0 x1 y0 y1
 cases g
 ·go_wp2_with fail
  refine bodyPost_ret (v := .tuple #[.agg #[.int .i64 0, .int .i64 0], .int .i64 1]) (by simp [results, Tryz.results61, go_sem, y0, y1]) rfl ⟨Or.inl ⟨rfl, fun hc => by have := HG.out.2 hc; cases this⟩, ?_⟩
  refine Below.setCell ?_ (by simp) _
  refine Below.setCell ?_ (by simp) _
  exact HB1.out
 ·have HGL : Hid (GoodL next (plainOf T I R n)) := hid (HG.out.1 rfl)
  have hev : Hid (∀ i, i < n → (T i).rl = (T i).il ∧ (T i).il ≤ maxLen) := hid (fun i hi => by
   have h1 := (HGL.out.2.2.2.2.1 _ (mem_plain.2 ⟨i, hi, rfl⟩)).2.1
   simp only [tabOf, List.length_map, List.length_range] at h1
   have h2 := HST.out.hz i hi
   unfold maxLen
   omega)
  have hnm : n ≤ maxLen := by have := HST.out.fits.1; unfold maxLen; omega
  go_wp2_with fail
  refine (find_any a n cap next v T I _ hnm (HST.out.below HB1.out).tabs (HST.out.below HB1.out).ids hev.out).mono ?_
  rintro e w2 ⟨he, hb2⟩
  have HB2 := hid (bcall HB1.out hb2)
  have hr2 := hid (rowIs_below hr.out hb2)
  have hz2 := hb2.size
  clear hb2 x0 x1 y0 y1 yf0 yf1 hr hs HB1
  have y0 := hr2.out.cell (i := 0) (by omega)
  have y1 := hr2.out.cell (i := 1) (by omega)
  have yf0 := hr2.out.frozen 0
  have yf1 := hr2.out.frozen 1
  simp at y0 y1
  have hne : w.heap.size + 1 < w2.heap.size := by omega
  rcases he with ⟨rfl, hno⟩ | ⟨i, j, rfl, hi, hj, hq⟩
  ·have HNO := hid hno
   clear hno
   go_wp2_with fail
   refine bodyPost_ret (v := .tuple #[.agg #[.int .i64 0, .int .i64 0], .int .i64 3]) (by simp [results, Tryz.results61, go_sem, y0, y1, hne]) rfl ⟨Or.inr (Or.inl ⟨rfl, HGL.out, HNO.out⟩), ?_⟩
   refine Below.alloc ?_ (by simp; omega) _
   refine Below.setCell ?_ (by simp) _
   refine Below.setCell ?_ (by simp) _
   exact HB2.out
  ·have HQ := hid (And.intro hi (And.intro hj hq))
   clear hi hj hq
   go_wp2_with fail
   refine bodyPost_ret (v := .tuple #[.agg #[.int .i64 i, .int .i64 j], .int .i64 0]) (by simp [results, Tryz.results61, go_sem, y0, y1, hne]) rfl ⟨Or.inr (Or.inr ⟨i, j, rfl, HGL.out, HQ.out⟩), ?_⟩
   refine Below.alloc ?_ (by simp; omega) _
   refine Below.setCell ?_ (by simp) _
   refine Below.setCell ?_ (by simp) _
   exact HB2.out
end St
namespace St
open Num
def cutT (j k : Nat) (id : Int) (r : R8) (t : Tab) : Tab := ⟨t.mask, (t.ids.set j id).take k, (t.rows.set j r).take k⟩
def takeL (A C : List Tab) (t : Tab) (j k : Nat) (lst : Int) (r : R8) : List Tab := if k = 0 then A ++ C else A ++ cutT j k lst r t :: C
theorem cut_at {ids : List Int} {rows : List R8} {j k : Nat} (hi : ids.length = k + 1) (hr : rows.length = k + 1) (hj : j ≤ k) {id lst : Int} {r : R8} (h1 : ids[j]? = some id) (h2 : ids[k]? = some lst) (h3 : rows[k]? = some r) {v : Int} (hv : v ≠ id) (q : R8) :
  (∃ p : Nat, ids[p]? = some v ∧ rows[p]? = some q) ↔ ∃ p : Nat, ((ids.set j lst).take k)[p]? = some v ∧ ((rows.set j r).take k)[p]? = some q := by
 constructor
 ·rintro ⟨p, a, b⟩
  have hp : p < k + 1 := by rw [← hi]; exact (List.getElem?_eq_some_iff.1 a).1
  have hpj : p ≠ j := fun e => by rw [e, h1] at a; exact hv (Option.some.inj a).symm
  by_cases hpk : p = k
  ·subst hpk
   refine ⟨j, ?_, ?_⟩
   ·rw [List.getElem?_take, if_pos (by omega), List.getElem?_set, if_pos rfl, if_pos (by omega), ← a, h2]
   ·rw [List.getElem?_take, if_pos (by omega), List.getElem?_set, if_pos rfl, if_pos (by omega), ← b, h3]
  ·refine ⟨p, ?_, ?_⟩
   ·rw [List.getElem?_take, if_pos (by omega), List.getElem?_set, if_neg (Ne.symm hpj)]; exact a
   ·rw [List.getElem?_take, if_pos (by omega), List.getElem?_set, if_neg (Ne.symm hpj)]; exact b
 ·rintro ⟨p, a, b⟩
  have hp : p < k := by
   have := (List.getElem?_eq_some_iff.1 a).1
   rw [List.length_take] at this
   omega
  rw [List.getElem?_take, if_pos hp, List.getElem?_set] at a b
  by_cases hpj : j = p
  ·rw [if_pos hpj, if_pos (by omega)] at a b
   exact ⟨k, by rw [h2]; exact a, by rw [h3]; exact b⟩
  ·rw [if_neg hpj] at a b
   exact ⟨p, a, b⟩
theorem cut_perm {ids : List Int} {j k : Nat} (hi : ids.length = k + 1) (hj : j ≤ k) {id lst : Int} (h1 : ids[j]? = some id) (h2 : ids[k]? = some lst) : (id :: (ids.set j lst).take k).Perm ids := by
 have hlast : ids = ids.take k ++ [lst] := by
  have e := List.take_append_drop k ids
  rw [List.drop_eq_getElem_cons (by omega), (List.getElem?_eq_some_iff.1 h2).2, List.drop_eq_nil_of_le (by omega)] at e
  exact e.symm
 have hl : (ids.take k).length = k := by rw [List.length_take]; omega
 by_cases hjk : j = k
 ·subst hjk
  have : id = lst := by rw [h1] at h2; exact Option.some.inj h2
  subst this
  have e : (ids.set j id).take j = ids.take j := by
   apply List.ext_getElem?
   intro p
   rw [List.getElem?_take, List.getElem?_take]
   by_cases hp : p < j
   ·rw [if_pos hp, if_pos hp, List.getElem?_set, if_neg (by omega)]
   ·rw [if_neg hp, if_neg hp]
  rw [e]
  conv => rhs; rw [hlast]
  exact (List.perm_append_singleton id (ids.take j)).symm
 ·have hlt : j < k := by omega
  have hsp : ids.take k = (ids.take k).take j ++ id :: (ids.take k).drop (j + 1) := by
   have e := List.take_append_drop j (ids.take k)
   rw [List.drop_eq_getElem_cons (by omega)] at e
   have : (ids.take k)[j]'(by omega) = id := by
    have := (List.getElem?_eq_some_iff.1 h1).2
    simpa using this
   rw [this] at e
   exact e.symm
  have hset : (ids.set j lst).take k = (ids.take k).take j ++ lst :: (ids.take k).drop (j + 1) := by
   have e1 : (ids.set j lst).take k = (ids.take k).set j lst := by
    apply List.ext_getElem?
    intro p
    rw [List.getElem?_take, List.getElem?_set, List.getElem?_set, List.getElem?_take, hl]
    by_cases hp : p < k
    ·rw [if_pos hp, if_pos hp]
     by_cases hq : j = p
     ·rw [if_pos hq, if_pos hq, if_pos (by omega), if_pos (by omega)]
     ·rw [if_neg hq, if_neg hq]
    ·rw [if_neg hp, if_neg hp, if_neg (by omega)]
   rw [e1]
   conv => lhs; rw [hsp]
   rw [List.set_append_right _ _ (by rw [List.length_take]; omega)]
   simp [List.length_take, hl, Nat.min_eq_left (by omega : j ≤ k)]
  rw [hset]
  conv => rhs; rw [hlast, hsp]
  generalize (ids.take k).take j = P
  generalize (ids.take k).drop (j + 1) = Q
  calc (id :: (P ++ lst :: Q)).Perm (id :: (lst :: (P ++ Q))) := List.Perm.cons _ List.perm_middle
   _ |>.Perm (lst :: (id :: (P ++ Q))) := List.Perm.swap _ _ _
   _ |>.Perm (lst :: (P ++ id :: Q)) := List.Perm.cons _ List.perm_middle.symm
   _ |>.Perm (P ++ id :: Q ++ [lst]) := (List.perm_append_singleton lst _).symm
end St
namespace St
open Num
open Go.ChangeShapes Go.WideShapes Go.ChangeAt Go.RowKit
theorem row_at {w : World} {B g n c k : Nat} {rows : List R8} (h : w.ownsRow B 34 8 (.slice (some ⟨g, 0, none⟩) n c) n (rows.flatMap rowCells)) {r : R8} (hk : rows[k]? = some r) :
  w.cell? ⟨g, k * 8, none⟩ = some (.int .i64 r.x) ∧ w.cell? ⟨g, k * 8 + 1, none⟩ = some (.int .i64 r.y) ∧ w.cell? ⟨g, k * 8 + 2, none⟩ = some (.int .i64 r.px) ∧ w.cell? ⟨g, k * 8 + 3, none⟩ = some (.int .i64 r.py) ∧
   w.cell? ⟨g, k * 8 + 4, none⟩ = some (.int .i64 r.wd) ∧ w.cell? ⟨g, k * 8 + 5, none⟩ = some (.int .i64 r.ht) ∧ w.cell? ⟨g, k * 8 + 6, none⟩ = some (.int .i64 r.ms) ∧ w.cell? ⟨g, k * 8 + 7, none⟩ = some (.int .i64 r.rr) := by
 have hlt : k < rows.length := (List.getElem?_eq_some_iff.1 hk).1
 have hxl := h.1
 rw [rows_length] at hxl
 have e : rows = rows.take k ++ r :: rows.drop (k + 1) := by
  have h1 : rows.take k ++ rows.drop k = rows := List.take_append_drop k rows
  rw [List.drop_eq_getElem_cons hlt, (List.getElem?_eq_some_iff.1 hk).2] at h1
  exact h1.symm
 have hl : ((rows.take k).flatMap rowCells).length = k * 8 := by rw [rows_length, List.length_take]; congr 1; omega
 have key : ∀ q, q < 8 → w.cell? ⟨g, k * 8 + q, none⟩ = (rowCells r)[q]? := by
  intro q hq
  rw [h.cellAt _ (by omega), e, List.flatMap_append, List.flatMap_cons, List.getElem?_append_right (by omega), hl, show k * 8 + q - k * 8 = q by omega, List.getElem?_append_left (by exact hq)]
 exact ⟨key 0 (by omega), key 1 (by omega), key 2 (by omega), key 3 (by omega), key 4 (by omega), key 5 (by omega), key 6 (by omega), key 7 (by omega)⟩
def setRow8 (W : World) (gr x : Nat) (r : R8) : World := (((((((W.setCell ⟨gr, x * 8, none⟩ (.int .i64 r.x)).setCell ⟨gr, x * 8 + 1, none⟩ (.int .i64 r.y)).setCell ⟨gr, x * 8 + 2, none⟩ (.int .i64 r.px)).setCell ⟨gr, x * 8 + 3, none⟩ (.int .i64 r.py)).setCell ⟨gr, x * 8 + 4, none⟩ (.int .i64 r.wd)).setCell ⟨gr, x * 8 + 5, none⟩ (.int .i64 r.ht)).setCell ⟨gr, x * 8 + 6, none⟩ (.int .i64 r.ms)).setCell ⟨gr, x * 8 + 7, none⟩ (.int .i64 r.rr)
theorem setCell_comm (W : World) {p q : Addr} (h : p.block ≠ q.block) (u v : Value) : (W.setCell p u).setCell q v = (W.setCell q v).setCell p u := by
 have e : ((W.setCell p u).setCell q v).heap = ((W.setCell q v).setCell p u).heap := by
  apply Array.ext_getElem?
  intro i
  simp only [World.setCell, Array.getElem?_modify]
  by_cases h1 : p.block = i
  ·by_cases h2 : q.block = i
   ·omega
   ·simp [h1, h2]
  ·by_cases h2 : q.block = i
   ·simp [h1, h2]
   ·simp [h1, h2]
 simp only [World.setCell] at e ⊢
 rw [e]
theorem setRow8_comm (W : World) (gr x : Nat) (r : R8) (p : Addr) (h : p.block ≠ gr) (u : Value) : (setRow8 W gr x r).setCell p u = setRow8 (W.setCell p u) gr x r := by
 unfold setRow8
 rw [setCell_comm _ (p := ⟨gr, x * 8 + 7, none⟩) (Ne.symm h), setCell_comm _ (p := ⟨gr, x * 8 + 6, none⟩) (Ne.symm h), setCell_comm _ (p := ⟨gr, x * 8 + 5, none⟩) (Ne.symm h), setCell_comm _ (p := ⟨gr, x * 8 + 4, none⟩) (Ne.symm h), setCell_comm _ (p := ⟨gr, x * 8 + 3, none⟩) (Ne.symm h), setCell_comm _ (p := ⟨gr, x * 8 + 2, none⟩) (Ne.symm h), setCell_comm _ (p := ⟨gr, x * 8 + 1, none⟩) (Ne.symm h), setCell_comm _ (p := ⟨gr, x * 8, none⟩) (Ne.symm h)]
theorem grown_row8 (W : World) (gr x : Nat) (r : R8) : W.grownBy (setRow8 W gr x r) (some gr) :=
 (((((((grown_set W gr (x * 8) _).trans (grown_set _ gr _ _)).trans (grown_set _ gr _ _)).trans (grown_set _ gr _ _)).trans (grown_set _ gr _ _)).trans (grown_set _ gr _ _)).trans (grown_set _ gr _ _)).trans (grown_set _ gr _ _)
theorem rows_write {W : World} {B gr k rc j : Nat} {rows : List R8} (r : R8) (hr : rows.length = k + 1) (hj : j ≤ k) (h : W.ownsRow B 34 8 (.slice (some ⟨gr, 0, none⟩) (k + 1) rc) (k + 1) (rows.flatMap rowCells)) :
  (setRow8 W gr j r).ownsRow B 34 8 (.slice (some ⟨gr, 0, none⟩) (k + 1) rc) (k + 1) ((rows.set j r).flatMap rowCells) := by
 have h1 := ((((((((h.stored (j * 8) (.int .i64 r.x)).1.stored (j * 8 + 1) (.int .i64 r.y)).1.stored (j * 8 + 2) (.int .i64 r.px)).1.stored (j * 8 + 3) (.int .i64 r.py)).1.stored (j * 8 + 4) (.int .i64 r.wd)).1.stored (j * 8 + 5) (.int .i64 r.ht)).1.stored (j * 8 + 6) (.int .i64 r.ms)).1.stored (j * 8 + 7) (.int .i64 r.rr)).1
 obtain ⟨r0, e0⟩ : ∃ u, rows[j]? = some u := ⟨_, List.getElem?_eq_getElem (by omega)⟩
 have e : rows = rows.take j ++ r0 :: rows.drop (j + 1) := by
  have h1 : rows.take j ++ rows.drop j = rows := List.take_append_drop j rows
  rw [List.drop_eq_getElem_cons (by omega), (List.getElem?_eq_some_iff.1 e0).2] at h1
  exact h1.symm
 have hl : ((rows.take j).flatMap rowCells).length = j * 8 := by rw [rows_length, List.length_take]; congr 1; omega
 have es : rows.set j r = rows.take j ++ r :: rows.drop (j + 1) := by
  conv => lhs; rw [e]
  rw [List.set_append_right _ _ (by rw [List.length_take]; omega), List.length_take, Nat.min_eq_left (by omega), Nat.sub_self]
  rfl
 have ef : rows.flatMap rowCells = (rows.take j).flatMap rowCells ++ (rowCells r0 ++ (rows.drop (j + 1)).flatMap rowCells) := by
  conv => lhs; rw [e]
  rw [List.flatMap_append, List.flatMap_cons]
 rw [es, List.flatMap_append, List.flatMap_cons]
 rw [ef, set_app _ _ _ 0 _ (by omega), set_app _ _ _ 1 _ (by omega), set_app _ _ _ 2 _ (by omega), set_app _ _ _ 3 _ (by omega), set_app _ _ _ 4 _ (by omega), set_app _ _ _ 5 _ (by omega), set_app _ _ _ 6 _ (by omega), set_app _ _ _ 7 _ (by omega)] at h1
 exact h1
end St
namespace St
open Num
def posOf (v : Int) : List Int → Nat
 | [] => 0
 | x :: l => if x = v then 0 else posOf v l + 1
theorem posOf_get {l : List Int} (hn : l.Nodup) {j : Nat} {v : Int} (h : l[j]? = some v) : posOf v l = j := by
 induction l generalizing j with
 | nil => simp at h
 | cons x l ih =>
  have hn' := List.nodup_cons.1 hn
  cases j with
  | zero => simp at h; simp [posOf, h]
  | succ j =>
   simp at h
   have : x ≠ v := fun e => hn'.1 (e ▸ List.mem_of_getElem? h)
   simp [posOf, this, ih hn'.2 h]
def killT (v : Int) : List Tab → List Tab
 | [] => []
 | t :: L => if v ∈ t.ids then (if t.ids.length ≤ 1 then L else cutT (posOf v t.ids) (t.ids.length - 1) (t.ids.getLastD 0) (t.rows.getLastD zeroR) t :: L) else t :: killT v L
theorem allL_mid (A C : List Tab) (t : Tab) : allL (A ++ t :: C) = allL A ++ (t.ids ++ allL C) := by simp [allL]
theorem allL_app (A C : List Tab) : allL (A ++ C) = allL A ++ allL C := by simp [allL]
theorem nodup_mid {A C : List Tab} {t : Tab} (h : (allL (A ++ t :: C)).Nodup) : t.ids.Nodup ∧ (∀ x ∈ t.ids, x ∉ allL A ∧ x ∉ allL C) := by
 rw [allL_mid, List.nodup_append] at h
 obtain ⟨_, h2, h3⟩ := h
 rw [List.nodup_append] at h2
 exact ⟨h2.1, fun x hx => ⟨fun hc => h3 x hc x (List.mem_append.2 (Or.inl hx)) rfl, fun hc => h2.2.2 x hx x hc rfl⟩⟩
theorem lastD {α : Type} {l : List α} {k : Nat} {x d : α} (hl : l.length = k + 1) (h : l[k]? = some x) : l.getLastD d = x := by
 rw [List.getLastD_eq_getLast?, List.getLast?_eq_getElem?, hl, show k + 1 - 1 = k by omega, h]
 rfl
theorem killT_eq {A C : List Tab} {t : Tab} {j k : Nat} {v lst : Int} {r : R8} (hn : (allL (A ++ t :: C)).Nodup) (hv : t.ids[j]? = some v) (hi : t.ids.length = k + 1) (hr : t.rows.length = k + 1) (h1 : t.ids[k]? = some lst) (h2 : t.rows[k]? = some r) :
  killT v (A ++ t :: C) = takeL A C t j k lst r := by
 have hm : v ∈ t.ids := List.mem_of_getElem? hv
 obtain ⟨hnt, hnv⟩ := nodup_mid hn
 have hnA := (hnv v hm).1
 clear hnv hn
 induction A with
 | nil =>
  simp only [List.nil_append, killT, if_pos hm, takeL]
  by_cases hk : k = 0
  ·rw [if_pos (by omega), if_pos hk]
  ·rw [if_neg (by omega), if_neg hk, posOf_get hnt hv, hi, lastD hi h1, lastD hr h2]
   rfl
 | cons a A ih =>
  have ha : v ∉ a.ids := fun hc => hnA (by simp only [allL, List.flatMap_cons]; exact List.mem_append.2 (Or.inl hc))
  have hA : v ∉ allL A := fun hc => hnA (by simp only [allL, List.flatMap_cons]; exact List.mem_append.2 (Or.inr hc))
  simp only [List.cons_append, killT, if_neg ha]
  rw [ih hA]
  unfold takeL
  split <;> simp
def AtT (t : Tab) (u m : Int) (q : R8) : Prop := t.mask = m ∧ ∃ j : Nat, t.ids[j]? = some u ∧ t.rows[j]? = some q
theorem at_cons {t : Tab} {L : List Tab} {u m : Int} {q : R8} : At (t :: L) u m q ↔ AtT t u m q ∨ At L u m q := by
 constructor
 ·rintro ⟨x, hx, h⟩
  rcases List.mem_cons.1 hx with rfl | hx
  ·exact Or.inl h
  ·exact Or.inr ⟨x, hx, h⟩
 ·rintro (h | ⟨x, hx, h⟩)
  ·exact ⟨t, List.mem_cons_self .., h⟩
  ·exact ⟨x, List.mem_cons_of_mem _ hx, h⟩
theorem at_app {A C : List Tab} {u m : Int} {q : R8} : At (A ++ C) u m q ↔ At A u m q ∨ At C u m q := by
 constructor
 ·rintro ⟨x, hx, h⟩
  rcases List.mem_append.1 hx with hx | hx
  ·exact Or.inl ⟨x, hx, h⟩
  ·exact Or.inr ⟨x, hx, h⟩
 ·rintro (⟨x, hx, h⟩ | ⟨x, hx, h⟩)
  ·exact ⟨x, List.mem_append.2 (Or.inl hx), h⟩
  ·exact ⟨x, List.mem_append.2 (Or.inr hx), h⟩
theorem at_mid {A C : List Tab} {t : Tab} {u m : Int} {q : R8} : At (A ++ t :: C) u m q ↔ At A u m q ∨ AtT t u m q ∨ At C u m q := by rw [at_app, at_cons]
theorem split_at {L : List Tab} {v : Int} (h : v ∈ allL L) : ∃ A t C, L = A ++ t :: C ∧ ∃ j : Nat, t.ids[j]? = some v := by
 obtain ⟨t, ht, hx⟩ := List.mem_flatMap.1 h
 obtain ⟨A, C, rfl⟩ := List.append_of_mem ht
 obtain ⟨j, hj, e⟩ := List.getElem_of_mem hx
 exact ⟨A, t, C, rfl, j, by rw [List.getElem?_eq_getElem hj, e]⟩
structure Spot (L A C : List Tab) (t : Tab) (j k : Nat) (v lst : Int) (q r : R8) : Prop where
 eq : L = A ++ t :: C
 at' : t.ids[j]? = some v
 row : t.rows[j]? = some q
 il : t.ids.length = k + 1
 rl : t.rows.length = k + 1
 li : t.ids[k]? = some lst
 lr : t.rows[k]? = some r
theorem spot_of {L A C : List Tab} {t : Tab} {j : Nat} {v : Int} (he : Even L) (hL : L = A ++ t :: C) (hv : t.ids[j]? = some v) : ∃ k lst q r, Spot L A C t j k v lst q r := by
 have hj := (List.getElem?_eq_some_iff.1 hv).1
 have hr := he t (by rw [hL]; simp)
 exact ⟨t.ids.length - 1, t.ids[t.ids.length - 1], t.rows[j], t.rows[t.ids.length - 1], hL, hv, List.getElem?_eq_getElem (by omega), by omega, by omega, List.getElem?_eq_getElem (by omega), List.getElem?_eq_getElem (by omega)⟩
theorem Spot.at_ {L A C : List Tab} {t : Tab} {j k : Nat} {v lst : Int} {q r : R8} (h : Spot L A C t j k v lst q r) : At L v t.mask q := by
 rw [h.eq]
 exact at_mid.2 (Or.inr (Or.inl ⟨rfl, j, h.at', h.row⟩))
theorem Spot.lt {L A C : List Tab} {t : Tab} {j k : Nat} {v lst : Int} {q r : R8} (h : Spot L A C t j k v lst q r) : j ≤ k := by
 have := (List.getElem?_eq_some_iff.1 h.at').1
 have := h.il
 omega
theorem perm_take {L A C : List Tab} {t : Tab} {j k : Nat} {v lst : Int} {q r : R8} (h : Spot L A C t j k v lst q r) : (v :: allL (takeL A C t j k lst r)).Perm (allL L) := by
 rw [h.eq, allL_mid]
 unfold takeL
 have hp := cut_perm h.il h.lt h.at' h.li
 by_cases hk : k = 0
 ·rw [if_pos hk, allL_app]
  subst hk
  have e : t.ids = [v] := by
   have := hp.symm.length_eq
   have h0 : ((t.ids.set j lst).take 0) = [] := rfl
   rw [h0] at hp
   exact List.perm_singleton.1 hp.symm
  rw [e]
  exact (List.perm_middle (a := v) (l₁ := allL A) (l₂ := allL C)).symm
 ·rw [if_neg hk, allL_mid]
  refine List.perm_middle.symm.trans ?_
  refine List.Perm.append_left _ ?_
  exact hp.append_right _
theorem at_take {L A C : List Tab} {t : Tab} {j k : Nat} {v lst : Int} {q r : R8} (h : Spot L A C t j k v lst q r) (hn : (allL L).Nodup) {u m : Int} {p : R8} : At (takeL A C t j k lst r) u m p ↔ u ≠ v ∧ At L u m p := by
 have hnot : v ∉ allL (takeL A C t j k lst r) := by
  have := (perm_take h).nodup_iff.2 hn
  exact (List.nodup_cons.1 this).1
 by_cases huv : u = v
 ·subst huv
  constructor
  ·intro hc; exact absurd (at_mem hc) hnot
  ·intro hc; exact absurd rfl hc.1
 ·rw [h.eq, at_mid]
  unfold takeL
  by_cases hk : k = 0
  ·rw [if_pos hk, at_app]
   have hno : ¬ AtT t u m p := by
    rintro ⟨_, j', h1, _⟩
    have h2 := (List.getElem?_eq_some_iff.1 h1).1
    have h3 := h.il
    have h4 := h.lt
    have : j' = j := by omega
    rw [this, h.at'] at h1
    exact huv (Option.some.inj h1).symm
   constructor
   ·rintro (h1 | h1)
    ·exact ⟨huv, Or.inl h1⟩
    ·exact ⟨huv, Or.inr (Or.inr h1)⟩
   ·rintro ⟨_, h1 | h1 | h1⟩
    ·exact Or.inl h1
    ·exact absurd h1 hno
    ·exact Or.inr h1
  ·rw [if_neg hk, at_mid]
   have hc := cut_at h.il h.rl h.lt h.at' h.li h.lr huv p
   have ht : AtT (cutT j k lst r t) u m p ↔ AtT t u m p := by
    unfold AtT cutT
    exact and_congr_right (fun _ => hc.symm)
   rw [ht]
   exact ⟨fun x => ⟨huv, x⟩, fun x => x.2⟩
theorem mem_cut {α : Type} {l : List α} {j k : Nat} {x y : α} (hy : y ∈ l) (h : x ∈ (l.set j y).take k) : x ∈ l := by
 have := List.mem_of_mem_take h
 rcases List.mem_or_eq_of_mem_set this with h | h
 ·exact h
 ·rw [h]; exact hy
theorem good_take {next : Int} {L A C : List Tab} {t : Tab} {j k : Nat} {v lst : Int} {q r : R8} (h : Spot L A C t j k v lst q r) (hg : GoodL next L) : GoodL next (takeL A C t j k lst r) := by
 obtain ⟨g1, g2, g3, g4, g5, g6⟩ := hg
 have hp := perm_take h
 have hl := hp.length_eq
 have hnd := (List.nodup_cons.1 (hp.nodup_iff.2 g6)).2
 simp only [List.length_cons] at hl
 have hmem : ∀ x ∈ takeL A C t j k lst r, x ∈ L ∨ (x = cutT j k lst r t ∧ k ≠ 0) := by
  intro x hx
  rw [h.eq]
  unfold takeL at hx
  by_cases hk : k = 0
  ·rw [if_pos hk] at hx
   rcases List.mem_append.1 hx with hx | hx
   ·exact Or.inl (List.mem_append.2 (Or.inl hx))
   ·exact Or.inl (List.mem_append.2 (Or.inr (List.mem_cons_of_mem _ hx)))
  ·rw [if_neg hk] at hx
   rcases List.mem_append.1 hx with hx | hx
   ·exact Or.inl (List.mem_append.2 (Or.inl hx))
   ·rcases List.mem_cons.1 hx with rfl | hx
    ·exact Or.inr ⟨rfl, hk⟩
    ·exact Or.inl (List.mem_append.2 (Or.inr (List.mem_cons_of_mem _ hx)))
 have htm : t ∈ L := by rw [h.eq]; simp
 have hgt := g5 t htm
 have hcut : k ≠ 0 → GoodT next (cutT j k lst r t) := by
  intro hk
  have l1 : ((t.ids.set j lst).take k).length = k := by rw [List.length_take, List.length_set, h.il]; omega
  have l2 : ((t.rows.set j r).take k).length = k := by rw [List.length_take, List.length_set, h.rl]; omega
  refine ⟨?_, by show ((t.ids.set j lst).take k).length = ((t.rows.set j r).take k).length; omega, ?_, ?_⟩
  ·intro e
   have : ((t.ids.set j lst).take k).length = 0 := by rw [show (t.ids.set j lst).take k = [] from e]; rfl
   omega
  ·intro x hx
   exact hgt.2.2.1 x (mem_cut (List.mem_of_getElem? h.li) hx)
  ·intro x hx
   exact hgt.2.2.2 x (mem_cut (List.mem_of_getElem? h.lr) hx)
 refine ⟨g1, by omega, ?_, ?_, ?_, hnd⟩
 ·intro x hx
  rcases hmem x hx with hx | ⟨rfl, _⟩
  ·exact g3 x hx
  ·exact g3 t htm
 ·rw [h.eq] at g4
  unfold takeL
  by_cases hk : k = 0
  ·rw [if_pos hk]
   exact g4.sublist ((List.Sublist.refl A).append (List.sublist_cons_self t C))
  ·rw [if_neg hk]
   rw [List.pairwise_append] at g4 ⊢
   obtain ⟨p1, p2, p3⟩ := g4
   rw [List.pairwise_cons] at p2 ⊢
   refine ⟨p1, ⟨fun x hx => p2.1 x hx, p2.2⟩, fun x hx y hy => ?_⟩
   rcases List.mem_cons.1 hy with rfl | hy
   ·exact p3 x hx t (List.mem_cons_self ..)
   ·exact p3 x hx y (List.mem_cons_of_mem _ hy)
 ·intro x hx
  rcases hmem x hx with hx | ⟨rfl, hk⟩
  ·exact g5 x hx
  ·exact hcut hk
theorem kill_all {next : Int} {L : List Tab} {v : Int} (hg : GoodL next L) (hv : v ∈ allL L) :
  GoodL next (killT v L) ∧ (v :: allL (killT v L)).Perm (allL L) ∧ ∀ u m p, At (killT v L) u m p ↔ u ≠ v ∧ At L u m p := by
 obtain ⟨A, t, C, hL, j, hj⟩ := split_at hv
 obtain ⟨k, lst, q, r, h⟩ := spot_of hg.even hL hj
 have e := killT_eq (by rw [← h.eq]; exact hg.2.2.2.2.2) h.at' h.il h.rl h.li h.lr
 rw [← h.eq] at e
 rw [e]
 exact ⟨good_take h hg, perm_take h, fun u m p => at_take h hg.2.2.2.2.2⟩
theorem perm_put (m id : Int) (r : R8) (L : List Tab) : (allL (putT m id r L)).Perm (id :: allL L) := by
 induction L with
 | nil => simp [putT, allL]
 | cons t L ih =>
  have e : allL (t :: L) = t.ids ++ allL L := by simp [allL]
  unfold putT
  by_cases h1 : t.mask < m
  ·rw [if_pos h1, e]
   have e2 : allL (t :: putT m id r L) = t.ids ++ allL (putT m id r L) := by simp [allL]
   rw [e2]
   exact (List.Perm.append_left _ ih).trans List.perm_middle
  ·rw [if_neg h1]
   by_cases h2 : t.mask = m
   ·rw [if_pos h2, e]
    have e2 : allL ((⟨m, t.ids ++ [id], t.rows ++ [r]⟩ : Tab) :: L) = t.ids ++ id :: allL L := by simp [allL]
    rw [e2]
    exact List.perm_middle
   ·rw [if_neg h2, e]
    have e2 : allL ((⟨m, [id], [r]⟩ : Tab) :: t :: L) = id :: (t.ids ++ allL L) := by simp [allL]
    rw [e2]
theorem at_put (m id : Int) (r : R8) (L : List Tab) (he : Even L) {u p : Int} {q : R8} : At (putT m id r L) u p q ↔ (u = id ∧ p = m ∧ q = r) ∨ At L u p q := by
 have one : AtT ⟨m, [id], [r]⟩ u p q ↔ u = id ∧ p = m ∧ q = r := by
  constructor
  ·rintro ⟨h0, j, h1, h2⟩
   cases j with
   | zero => simp at h1 h2; exact ⟨h1.symm, h0.symm, h2.symm⟩
   | succ j => simp at h1
  ·rintro ⟨rfl, rfl, rfl⟩; exact ⟨rfl, 0, rfl, rfl⟩
 induction L with
 | nil =>
  rw [show putT m id r [] = [⟨m, [id], [r]⟩] from rfl, at_cons, one]
 | cons t L ih =>
  have heL : Even L := fun x hx => he x (List.mem_cons_of_mem _ hx)
  have het := he t (List.mem_cons_self ..)
  unfold putT
  by_cases h1 : t.mask < m
  ·have ih' : At (putT m id r L) u p q ↔ (u = id ∧ p = m ∧ q = r) ∨ At L u p q := ih heL
   rw [if_pos h1, at_cons, at_cons, ih']
   constructor
   ·rintro (h | h | h)
    ·exact Or.inr (Or.inl h)
    ·exact Or.inl h
    ·exact Or.inr (Or.inr h)
   ·rintro (h | h | h)
    ·exact Or.inr (Or.inl h)
    ·exact Or.inl h
    ·exact Or.inr (Or.inr h)
  ·rw [if_neg h1]
   by_cases h2 : t.mask = m
   ·rw [if_pos h2, at_cons, at_cons]
    have hT : AtT ⟨m, t.ids ++ [id], t.rows ++ [r]⟩ u p q ↔ (u = id ∧ p = m ∧ q = r) ∨ AtT t u p q := by
     constructor
     ·rintro ⟨h0, j, h3, h4⟩
      by_cases hj : j < t.ids.length
      ·rw [List.getElem?_append_left hj] at h3
       rw [List.getElem?_append_left (by omega)] at h4
       exact Or.inr ⟨h2.trans h0, j, h3, h4⟩
      ·rw [List.getElem?_append_right (by omega)] at h3 h4
       have hjj : j - t.ids.length = 0 := by
        have := (List.getElem?_eq_some_iff.1 h3).1
        simpa using this
       rw [hjj] at h3
       rw [← het, hjj] at h4
       simp at h3 h4
       exact Or.inl ⟨h3.symm, h0.symm, h4.symm⟩
     ·rintro (⟨rfl, rfl, rfl⟩ | ⟨h0, j, h3, h4⟩)
      ·exact ⟨rfl, t.ids.length, by simp, by simp [het]⟩
      ·have hj := (List.getElem?_eq_some_iff.1 h3).1
       exact ⟨h2.symm.trans h0, j, by rw [List.getElem?_append_left hj]; exact h3, by rw [List.getElem?_append_left (by omega)]; exact h4⟩
    rw [hT]
    exact or_assoc
   ·rw [if_neg h2, at_cons, one]
theorem mask_put {m id : Int} {r : R8} {L : List Tab} {t : Tab} (h : t ∈ putT m id r L) : t.mask = m ∨ ∃ x ∈ L, x.mask = t.mask := by
 induction L with
 | nil => simp [putT] at h; exact Or.inl (by rw [h])
 | cons a L ih =>
  unfold putT at h
  by_cases h1 : a.mask < m
  ·rw [if_pos h1] at h
   rcases List.mem_cons.1 h with rfl | h
   ·exact Or.inr ⟨t, List.mem_cons_self .., rfl⟩
   ·rcases ih h with h | ⟨x, hx, e⟩
    ·exact Or.inl h
    ·exact Or.inr ⟨x, List.mem_cons_of_mem _ hx, e⟩
  ·rw [if_neg h1] at h
   by_cases h2 : a.mask = m
   ·rw [if_pos h2] at h
    rcases List.mem_cons.1 h with rfl | h
    ·exact Or.inl rfl
    ·exact Or.inr ⟨t, List.mem_cons_of_mem _ h, rfl⟩
   ·rw [if_neg h2] at h
    rcases List.mem_cons.1 h with rfl | h
    ·exact Or.inl rfl
    ·exact Or.inr ⟨t, h, rfl⟩
theorem pair_put {m id : Int} {r : R8} {L : List Tab} (h : L.Pairwise (fun a b => a.mask < b.mask)) : (putT m id r L).Pairwise (fun a b => a.mask < b.mask) := by
 induction L with
 | nil => simp [putT]
 | cons a L ih =>
  have hp := List.pairwise_cons.1 h
  unfold putT
  by_cases h1 : a.mask < m
  ·rw [if_pos h1, List.pairwise_cons]
   refine ⟨fun x hx => ?_, ih hp.2⟩
   rcases mask_put hx with e | ⟨y, hy, e⟩
   ·rw [e]; exact h1
   ·rw [← e]; exact hp.1 y hy
  ·rw [if_neg h1]
   by_cases h2 : a.mask = m
   ·rw [if_pos h2, List.pairwise_cons]
    exact ⟨fun x hx => by show m < x.mask; rw [← h2]; exact hp.1 x hx, hp.2⟩
   ·rw [if_neg h2, List.pairwise_cons]
    refine ⟨fun x hx => ?_, h⟩
    show m < x.mask
    rcases List.mem_cons.1 hx with rfl | hx
    ·omega
    ·have := hp.1 x hx; omega
theorem goodT_mono {next next' : Int} {t : Tab} (h : GoodT next t) (hle : next ≤ next') : GoodT next' t := by
 refine ⟨h.1, h.2.1, fun x hx => ?_, h.2.2.2⟩
 have := h.2.2.1 x hx
 simp [btw] at this ⊢
 omega
theorem tabs_put {next : Int} {m id : Int} {r : R8} {L : List Tab} (h : ∀ t ∈ L, GoodT next t) (hid : btw id 0 (next - 1) = true) (hr : goodRowB m r = true) : ∀ t ∈ putT m id r L, GoodT next t := by
 have one : GoodT next ⟨m, [id], [r]⟩ := ⟨by simp, rfl, fun x hx => by simp at hx; rw [hx]; exact hid, fun x hx => by simp at hx; rw [hx]; exact hr⟩
 induction L with
 | nil => intro t ht; simp [putT] at ht; rw [ht]; exact one
 | cons a L ih =>
  intro t ht
  unfold putT at ht
  by_cases h1 : a.mask < m
  ·rw [if_pos h1] at ht
   rcases List.mem_cons.1 ht with rfl | ht
   ·exact h t (List.mem_cons_self ..)
   ·exact ih (fun x hx => h x (List.mem_cons_of_mem _ hx)) t ht
  ·rw [if_neg h1] at ht
   by_cases h2 : a.mask = m
   ·rw [if_pos h2] at ht
    rcases List.mem_cons.1 ht with rfl | ht
    ·have ha := h a (List.mem_cons_self ..)
     refine ⟨by simp, by simp [ha.2.1], fun x hx => ?_, fun x hx => ?_⟩
     ·rcases List.mem_append.1 hx with hx | hx
      ·exact ha.2.2.1 x hx
      ·simp at hx; rw [hx]; exact hid
     ·rcases List.mem_append.1 hx with hx | hx
      ·have := ha.2.2.2 x hx; rwa [h2] at this
      ·simp at hx; rw [hx]; exact hr
    ·exact h t (List.mem_cons_of_mem _ ht)
   ·rw [if_neg h2] at ht
    rcases List.mem_cons.1 ht with rfl | ht
    ·exact one
    ·exact h t ht
theorem goodRow_mask {m : Int} {r : R8} (h : goodRowB m r = true) : 1 ≤ m ∧ m ≤ 31 := by
 simp [goodRowB, btw] at h
 omega
theorem put_all {next next' m id : Int} {r : R8} {L : List Tab} (hg : GoodL next L) (hle : next ≤ next') (hnx : next' ≤ 1048576) (hl : (allL L).length ≤ 9) (hid : 0 ≤ id ∧ id < next') (hnew : id ∉ allL L) (hr : goodRowB m r = true) : GoodL next' (putT m id r L) := by
 obtain ⟨g1, g2, g3, g4, g5, g6⟩ := hg
 have hp := perm_put m id r L
 have h0 : 0 ≤ next := by simp [btw] at g1; omega
 refine ⟨by simp [btw]; omega, by rw [hp.length_eq, List.length_cons]; omega, ?_, pair_put g4, tabs_put (fun t ht => goodT_mono (g5 t ht) hle) (by simp [btw]; omega) hr, hp.nodup_iff.2 (List.nodup_cons.2 ⟨hnew, g6⟩)⟩
 intro t ht
 rcases mask_put ht with e | ⟨x, hx, e⟩
 ·have := goodRow_mask hr; omega
 ·have := g3 x hx; omega
def setL (v : Int) (r : R8) (L : List Tab) : List Tab := L.map fun t => ⟨t.mask, t.ids, List.zipWith (fun x q => if x = v then r else q) t.ids t.rows⟩
theorem allL_set (v : Int) (r : R8) (L : List Tab) : allL (setL v r L) = allL L := by
 induction L with
 | nil => rfl
 | cons t L ih => simp only [setL, allL, List.map_cons, List.flatMap_cons] at ih ⊢; rw [ih]
theorem zip_same {v : Int} {r : R8} {ids : List Int} {rows : List R8} (h : v ∉ ids) (hl : ids.length = rows.length) : List.zipWith (fun x q => if x = v then r else q) ids rows = rows := by
 induction ids generalizing rows with
 | nil => cases rows with
  | nil => rfl
  | cons a l => simp at hl
 | cons x ids ih =>
  cases rows with
  | nil => simp at hl
  | cons q rows =>
   have h1 : x ≠ v := fun e => h (by rw [e]; exact List.mem_cons_self ..)
   simp only [List.zipWith_cons_cons, if_neg h1]
   rw [ih (fun hc => h (List.mem_cons_of_mem _ hc)) (by simpa using hl)]
theorem zip_set {v : Int} {r : R8} {ids : List Int} {rows : List R8} {j : Nat} (hn : ids.Nodup) (hj : ids[j]? = some v) (hl : ids.length = rows.length) : List.zipWith (fun x q => if x = v then r else q) ids rows = rows.set j r := by
 apply List.ext_getElem?
 intro i
 rw [List.getElem?_zipWith, List.getElem?_set]
 by_cases hi : i < ids.length
 ·rw [List.getElem?_eq_getElem hi, List.getElem?_eq_getElem (show i < rows.length by omega)]
  by_cases hij : j = i
  ·subst hij
   have : ids[j] = v := (List.getElem?_eq_some_iff.1 hj).2
   simp [this, show j < rows.length by omega]
  ·have : ids[i] ≠ v := fun e => hij (nodup_get hn hj (by rw [List.getElem?_eq_getElem hi, e]))
   simp [this, hij]
 ·have h2 := (List.getElem?_eq_some_iff.1 hj).1
  rw [List.getElem?_eq_none (by omega), List.getElem?_eq_none (by omega), if_neg (by omega)]
theorem setL_app (v : Int) (r : R8) (A C : List Tab) : setL v r (A ++ C) = setL v r A ++ setL v r C := by simp [setL]
theorem setL_same {v : Int} {r : R8} {L : List Tab} (h : v ∉ allL L) (he : Even L) : setL v r L = L := by
 induction L with
 | nil => rfl
 | cons t L ih =>
  have h1 : v ∉ t.ids := fun hc => h (by simp only [allL, List.flatMap_cons]; exact List.mem_append.2 (Or.inl hc))
  have h2 : v ∉ allL L := fun hc => h (by simp only [allL, List.flatMap_cons]; exact List.mem_append.2 (Or.inr hc))
  have := ih h2 (fun x hx => he x (List.mem_cons_of_mem _ hx))
  simp only [setL, List.map_cons] at this ⊢
  rw [this, zip_same h1 (he t (List.mem_cons_self ..))]
theorem setL_eq {A C : List Tab} {t : Tab} {j : Nat} {v : Int} {r : R8} (hn : (allL (A ++ t :: C)).Nodup) (he : Even (A ++ t :: C)) (hv : t.ids[j]? = some v) : setL v r (A ++ t :: C) = A ++ ⟨t.mask, t.ids, t.rows.set j r⟩ :: C := by
 obtain ⟨h1, h2⟩ := nodup_mid hn
 have hm := h2 v (List.mem_of_getElem? hv)
 have e1 := setL_same (r := r) hm.1 (fun x hx => he x (List.mem_append.2 (Or.inl hx)))
 have e2 := setL_same (r := r) hm.2 (fun x hx => he x (List.mem_append.2 (Or.inr (List.mem_cons_of_mem _ hx))))
 rw [setL_app, e1]
 congr 1
 simp only [setL, List.map_cons] at e2 ⊢
 rw [e2, zip_set h1 hv (he t (by simp))]
theorem at_set {v : Int} {r : R8} {L : List Tab} (he : Even L) {u m : Int} {q : R8} : At (setL v r L) u m q ↔ (u ≠ v ∧ At L u m q) ∨ (u = v ∧ q = r ∧ ∃ p, At L v m p) := by
 constructor
 ·rintro ⟨t', ht', rfl, j, h1, h2⟩
  obtain ⟨t, ht, rfl⟩ := List.mem_map.1 ht'
  have hj := (List.getElem?_eq_some_iff.1 h1).1
  have hl := he t ht
  simp only at h1 h2 hj
  have hj' : j < t.rows.length := by rw [← hl]; exact hj
  rw [List.getElem?_zipWith, h1, List.getElem?_eq_getElem hj'] at h2
  simp only [Option.some.injEq] at h2
  by_cases e : u = v
  ·rw [if_pos e] at h2
   exact Or.inr ⟨e, h2.symm, t.rows[j], t, ht, rfl, j, by rw [← e]; exact h1, List.getElem?_eq_getElem hj'⟩
  ·rw [if_neg e] at h2
   exact Or.inl ⟨e, t, ht, rfl, j, h1, by rw [List.getElem?_eq_getElem hj', h2]⟩
 ·have key : ∀ {p}, At L u m p → At (setL v r L) u m (if u = v then r else p) := by
   rintro p ⟨t, ht, rfl, j, h1, h2⟩
   refine ⟨_, List.mem_map.2 ⟨t, ht, rfl⟩, rfl, j, h1, ?_⟩
   rw [List.getElem?_zipWith, h1, h2]
  rintro (⟨e, h⟩ | ⟨rfl, rfl, p, h⟩)
  ·have := key h; rwa [if_neg e] at this
  ·have := key h; rwa [if_pos rfl] at this
theorem len_set {v : Int} {r : R8} {L : List Tab} {t : Tab} (ht : t ∈ setL v r L) : ∃ x ∈ L, t.mask = x.mask ∧ t.ids = x.ids := by
 obtain ⟨x, hx, rfl⟩ := List.mem_map.1 ht
 exact ⟨x, hx, rfl, rfl⟩
theorem good_set {next v : Int} {r : R8} {L : List Tab} (hg : GoodL next L) (hr : ∀ m q, At L v m q → goodRowB m r = true) : GoodL next (setL v r L) := by
 obtain ⟨g1, g2, g3, g4, g5, g6⟩ := hg
 have he : Even L := fun t ht => (g5 t ht).2.1
 refine ⟨g1, by rw [allL_set]; exact g2, ?_, ?_, ?_, by rw [allL_set]; exact g6⟩
 ·intro t ht
  obtain ⟨x, hx, e, _⟩ := len_set ht
  rw [e]; exact g3 x hx
 ·exact List.Pairwise.map _ (fun a b h => h) g4
 ·intro t ht
  obtain ⟨x, hx, rfl⟩ := List.mem_map.1 ht
  have hx' := g5 x hx
  refine ⟨hx'.1, by simp [hx'.2.1], hx'.2.2.1, fun q hq => ?_⟩
  obtain ⟨j, hj⟩ := List.getElem?_of_mem hq
  rw [List.getElem?_zipWith] at hj
  cases h1 : x.ids[j]? with
  | none => rw [h1] at hj; simp at hj
  | some y =>
   cases h2 : x.rows[j]? with
   | none => rw [h1, h2] at hj; simp at hj
   | some p =>
    rw [h1, h2] at hj
    simp only [Option.some.injEq] at hj
    by_cases e : y = v
    ·rw [if_pos e] at hj
     rw [← hj]
     exact hr x.mask p ⟨x, hx, rfl, j, by rw [h1, e], h2⟩
    ·rw [if_neg e] at hj
     rw [← hj]
     exact hx'.2.2.2 p (List.mem_of_getElem? h2)
theorem rise_len {L : List Tab} {m : Int} (h : L.Pairwise (fun a b => a.mask < b.mask)) (hm : ∀ t ∈ L, m < t.mask ∧ t.mask ≤ 31) : (L.length : Int) ≤ max 0 (31 - m) := by
 induction L generalizing m with
 | nil => simp; omega
 | cons t L ih =>
  have hp := List.pairwise_cons.1 h
  have ht := hm t (List.mem_cons_self ..)
  have := ih hp.2 (m := t.mask) (fun x hx => ⟨hp.1 x hx, (hm x (List.mem_cons_of_mem _ hx)).2⟩)
  simp only [List.length_cons]
  omega
theorem goodL_len {next : Int} {L : List Tab} (h : GoodL next L) : L.length ≤ 31 := by
 have := rise_len (m := 0) h.2.2.2.1 (fun t ht => ⟨h.2.2.1 t ht, by
  have hx := h.2.2.2.2.1 t ht
  have h0 : 0 < t.rows.length := by rw [← hx.2.1]; exact List.length_pos_iff.2 hx.1
  exact (goodRow_mask (hx.2.2.2 _ (List.getElem_mem h0))).2⟩)
 omega
theorem At.good {next : Int} {L : List Tab} (hg : GoodL next L) {v m : Int} {q : R8} (h : At L v m q) : goodRowB m q = true ∧ 0 ≤ v ∧ v < next := by
 obtain ⟨t, ht, rfl, j, h1, h2⟩ := h
 have hx := hg.2.2.2.2.1 t ht
 have := hx.2.2.1 v (List.mem_of_getElem? h1)
 simp [btw] at this
 exact ⟨hx.2.2.2 q (List.mem_of_getElem? h2), by omega, by omega⟩
theorem split_own {S : List OT} {T : Nat → TabV} {I : Nat → Nat → Int} {R : Nat → Nat → R8} {n i j : Nat} {v : Int} (hpl : S.map (·.t) = plainOf T I R n) (hi : i < n) (hj : j < (T i).il) (hv : I i j = v) :
  ∃ A o C, S = A ++ o :: C ∧ A.length = i ∧ o.t.ids[j]? = some v ∧ o.t = tabOf T I R i := by
 have hl : S.length = n := by have := congrArg List.length hpl; simpa [plainOf] using this
 have hlt : i < S.length := by omega
 have e : S = S.take i ++ S[i] :: S.drop (i + 1) := by
  have h1 : S.take i ++ S.drop i = S := List.take_append_drop i S
  rw [List.drop_eq_getElem_cons hlt] at h1
  exact h1.symm
 have ht : S[i].t = tabOf T I R i := by
  have h1 : (S.map (·.t))[i]? = some S[i].t := by rw [List.getElem?_map, List.getElem?_eq_getElem hlt]; rfl
  have h2 : (plainOf T I R n)[i]? = some (tabOf T I R i) := by simp [plainOf, hi]
  rw [hpl, h2] at h1
  exact (Option.some.inj h1).symm
 refine ⟨S.take i, S[i], S.drop (i + 1), e, by rw [List.length_take]; omega, ?_, ht⟩
 rw [ht]
 simp [tabOf, hj, hv]
end St
namespace St
open Num
open Go.ChangeShapes Go.WideShapes Go.ChangeAt Go.RowKit
theorem StoreIn.get_none {w : World} {a : Option Addr} {n : Nat} {T : Nat → TabV} {I : Nat → Nat → Int} {R : Nat → Nat → R8} (h : StoreIn w a n T I R) (he : Even (plainOf T I R n)) (cap : Nat) (next v : Int) (hv : v ∉ allL (plainOf T I R n)) :
  Calls Tryz.prog 19 #[.agg #[.slice a n cap, .int .i64 next], .int .i64 v] w fun e w' =>
   e = .returned (.tuple #[.int .i64 0, .agg #[.int .i64 0, .int .i64 0, .int .i64 0, .int .i64 0, .int .i64 0, .int .i64 0, .int .i64 0, .int .i64 0], .bool false]) ∧ Below w.heap.size w w' := by
 refine (h.get he cap next v).mono ?_
 rintro e w' ⟨⟨rfl, -⟩ | ⟨m, r, -, hat⟩, hb⟩
 ·exact ⟨rfl, hb⟩
 ·exact absurd (at_mem hat) hv
theorem StoreIn.get_some {w : World} {a : Option Addr} {n : Nat} {T : Nat → TabV} {I : Nat → Nat → Int} {R : Nat → Nat → R8} (h : StoreIn w a n T I R) (he : Even (plainOf T I R n)) (hn : (allL (plainOf T I R n)).Nodup) (cap : Nat) (next v m : Int) (r : R8) (hv : At (plainOf T I R n) v m r) :
  Calls Tryz.prog 19 #[.agg #[.slice a n cap, .int .i64 next], .int .i64 v] w fun e w' =>
   e = .returned (.tuple #[.int .i64 m, .agg #[.int .i64 r.x, .int .i64 r.y, .int .i64 r.px, .int .i64 r.py, .int .i64 r.wd, .int .i64 r.ht, .int .i64 r.ms, .int .i64 r.rr], .bool true]) ∧ Below w.heap.size w w' := by
 refine (h.get he cap next v).mono ?_
 rintro e w' ⟨⟨rfl, hno⟩ | ⟨m', r', rfl, hat⟩, hb⟩
 ·exact absurd (at_mem hv) hno
 ·obtain ⟨rfl, rfl⟩ := at_unique hn hat hv
  exact ⟨rfl, hb⟩
theorem own_good {w : World} {B n c : Nat} {a : Option Addr} {S : List OT} {next : Int} (h : Own w B (.slice a n c) S) (hn : n = S.length) (hg : GoodL next (S.map (·.t))) :
  StoreIn w a n (tvOf S) (idOf S) (rwOf S) ∧ plainOf (tvOf S) (idOf S) (rwOf S) n = S.map (·.t) := by
 refine ⟨own_storeIn h hn ?_ ?_ ?_, by rw [hn]; exact plain_own S⟩
 ·have := goodL_len hg
  simp at this
  omega
 ·intro o ho
  have hm : o.t ∈ S.map (·.t) := List.mem_map.2 ⟨o, ho, rfl⟩
  have h1 := len_le hg.2.1 _ hm
  have h2 := (hg.2.2.2.2.1 _ hm).2.1
  omega
 ·intro o ho x hx
  have hm : o.t ∈ S.map (·.t) := List.mem_map.2 ⟨o, ho, rfl⟩
  have h2 := (hg.2.2.2.2.1 _ hm).2.2.1 x hx
  have h3 := hg.1
  simp [btw] at h2 h3
  exact Go.WalkArith.wf_i64 ⟨by omega, by omega⟩
end St
end Go.Proofs.YtckkkdldljhehacGreat
