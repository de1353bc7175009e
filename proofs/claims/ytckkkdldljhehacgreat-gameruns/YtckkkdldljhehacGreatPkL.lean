/- Part of the proofs of GamePlays and GameRuns (package ninepinslaw): contracts of the functions that they call. -/
import Derived.Sort.OwnSortedInts
import Derived.Laws.OwnMore
import Derived.Lib.SmallJoins
import Derived.Laws.MakeOwn
import Derived.Lib.SliceRun
import Derived.Laws.CopyOwn
import Derived.Test.YtckkkdldljhehacGreatShelf
import Derived.Test.YtckkkdldljhehacGreatPkK
namespace Go.Proofs.YtckkkdldljhehacGreat
namespace Sw
open Go.ChangeShapes Go.WideShapes Go.ChangeAt Go.RowKit Go.Sort Go.Shelf Go.Lib
def boxCells (b : B5) : List Value := [.int .i64 b.id, .int .i64 b.x1, .int .i64 b.y1, .int .i64 b.x2, .int .i64 b.y2]
def pairCells (p : Int × Int) : List Value := [.int .i64 p.1, .int .i64 p.2]
instance : Inhabited B5 := ⟨zeroB⟩
theorem flat_len {α : Type} (enc : α → List Value) (k : Nat) (hk : ∀ x, (enc x).length = k) (l : List α) : (l.flatMap enc).length = l.length * k := by
 induction l with
 | nil => simp
 | cons a l ih => simp only [List.flatMap_cons, List.length_append, ih, hk, List.length_cons, Nat.add_mul, Nat.one_mul]; omega
theorem flat_get {α : Type} (enc : α → List Value) (k : Nat) (hk : ∀ x, (enc x).length = k) (l : List α) (i q : Nat) (x : α) (hi : l[i]? = some x) (hq : q < k) : (l.flatMap enc)[i * k + q]? = (enc x)[q]? := by
 induction l generalizing i with
 | nil => simp at hi
 | cons a l ih =>
  rw [List.flatMap_cons]
  cases i with
  | zero =>
   simp at hi
   subst hi
   rw [Nat.zero_mul, Nat.zero_add, List.getElem?_append_left (by rw [hk]; exact hq)]
  | succ i =>
   have e : (i + 1) * k + q = k + (i * k + q) := by rw [Nat.add_mul, Nat.one_mul]; omega
   rw [List.getElem?_append_right (by rw [hk, e]; omega), hk, e, Nat.add_sub_cancel_left]
   exact ih i (by simpa using hi)
theorem flat_eq {α : Type} [Inhabited α] (enc : α → List Value) (k : Nat) (hk : ∀ x, (enc x).length = k) (l : List α) : (flatK enc k l.toArray).toList = l.flatMap enc := by
 apply List.ext_getElem?
 intro t
 by_cases ht : t < l.length * k
 ·have k0 : 0 < k := Nat.pos_of_ne_zero (fun h => by subst h; simp at ht)
  have hd : t / k < l.length := (Nat.div_lt_iff_lt_mul k0).2 ht
  have hm : t % k < k := Nat.mod_lt _ k0
  have e1 : l[t / k]? = some l[t / k] := List.getElem?_eq_getElem hd
  have e2 : t = t / k * k + t % k := by rw [Nat.mul_comm]; exact (Nat.div_add_mod t k).symm
  have h1 := flat_get enc k hk l (t / k) (t % k) _ e1 hm
  rw [← e2] at h1
  rw [h1]
  have hs : t < (flatK enc k l.toArray).size := by simpa using ht
  have h2 := get_flatK enc k l.toArray t (by simpa using ht)
  have h3 : l.toArray[t / k]! = l[t / k] := by simp [hd]
  rw [h3] at h2
  have h4 : t % k < (enc l[t / k]).length := by rw [hk]; exact hm
  rw [Array.getElem?_toList, Array.getElem?_eq_getElem hs, List.getElem?_eq_getElem h4]
  rw [getElem!_pos (flatK enc k l.toArray) t hs, getElem!_pos (enc l[t / k]) (t % k) h4] at h2
  rw [h2]
 ·rw [List.getElem?_eq_none (by rw [Array.length_toList, size_flatK]; simpa using ht), List.getElem?_eq_none (by rw [flat_len enc k hk]; omega)]
theorem holdsK_of_owns {α : Type} [Inhabited α] (enc : α → List Value) (k : Nat) (hk : ∀ x, (enc x).length = k) {w : World} {B g n c : Nat} {e : TypeId} {l : List α} (h : w.ownsRow B e k (.slice (some ⟨g, 0, none⟩) n c) n (l.flatMap enc)) :
  HoldsK enc k w g 0 l.toArray := by
 intro j hj
 have hj' : j < l.length * k := by simpa using hj
 have hl : l.length * k = n * k := by rw [← flat_len enc k hk l]; exact h.1
 refine ⟨?_, by rw [Nat.zero_add]; exact h.frozenAt j⟩
 rw [Nat.zero_add, h.cellAt j (by omega), ← flat_eq enc k hk l, Array.getElem?_toList, Array.getElem?_eq_getElem hj, getElem!_pos (flatK enc k l.toArray) j hj]
 rfl
theorem heap_sortedK {α : Type} [Inhabited α] (enc : α → List Value) (k : Nat) {w : World} {g m : Nat} {os : Array Obj} {cur : Array Value} {e : TypeId} {fr : Nat × Nat} (d : Array α) (hb : w.heap[g]? = some (.cells cur e fr)) :
  (sortWorldK enc k w g 0 m d os).heap[g]? = some (.cells (putCells id 0 (flatK enc k d) cur) e fr) := by
 have hg : g < w.heap.size := (Array.getElem?_eq_some_iff.1 hb).1
 unfold sortWorldK putRowK
 rw [heap_grow_old _ _ (by simpa using hg)]
 simp [putRow, mapBlock, Sort.ahead, Array.getElem?_modify, hb, onCells]
theorem grownBy_sortedK {α : Type} [Inhabited α] (enc : α → List Value) (k : Nat) {w : World} {g m : Nat} {os : Array Obj} (d : Array α) : w.grownBy (sortWorldK enc k w g 0 m d os) (some g) := by
 unfold sortWorldK putRowK
 refine ⟨rfl, rfl, rfl, by simp, fun k hk hne => ?_⟩
 rw [heap_grow_old _ _ (by simpa using hk)]
 have : g ≠ k := fun e => hne (by rw [e])
 simp [putRow, mapBlock, Sort.ahead, Array.getElem?_modify, this]
theorem take_putCellsV (cur F : Array Value) (h : F.size ≤ cur.size) : (putCells id 0 F cur).toList.take F.size = F.toList := by
 apply List.ext_getElem?
 intro j
 by_cases hj : j < F.size
 ·rw [List.getElem?_take_of_lt hj, Array.getElem?_toList]
  simp [putCells, hj, show j < cur.size by omega]
 ·rw [List.getElem?_take_eq_none (by omega), List.getElem?_eq_none (by simp; omega)]
theorem owns_sortedK {α : Type} [Inhabited α] (enc : α → List Value) (k : Nat) (hk : ∀ x, (enc x).length = k) {w : World} {B g n c m : Nat} {e : TypeId} {os : Array Obj} {xs : List Value} (h : w.ownsRow B e k (.slice (some ⟨g, 0, none⟩) n c) n xs) (l : List α) (hl : l.length = n) :
  (sortWorldK enc k w g 0 m l.toArray os).ownsRow B e k (.slice (some ⟨g, 0, none⟩) n c) n (l.flatMap enc) := by
 rcases h.2 with ⟨e0, _⟩ | ⟨g', c', cur, e0, hB, hb, h1, h2, h3, h4⟩
 ·cases e0
 ·cases e0
  refine ⟨by rw [flat_len enc k hk, hl], .inr ⟨g, c, _, rfl, hB, heap_sortedK enc k _ hb, h1, h2, by simp [putCells, h3], ?_⟩⟩
  have hs : (flatK enc k l.toArray).size = n * k := by simp [hl]
  rw [← flat_eq enc k hk l, ← hs]
  exact take_putCellsV cur _ (by rw [hs, h3]; exact Nat.mul_le_mul_right k h1)
def BoxL (w : World) (a : Option Addr) (l : List B5) : Prop :=
 0 < l.length → ∃ b off, a = some ⟨b, off, none⟩ ∧ b < w.heap.size ∧ ∀ i x, l[i]? = some x →
  w.cell? ⟨b, off + i * 5, none⟩ = some (.int .i64 x.id) ∧ w.cell? ⟨b, off + i * 5 + 1, none⟩ = some (.int .i64 x.x1) ∧ w.cell? ⟨b, off + i * 5 + 2, none⟩ = some (.int .i64 x.y1) ∧
  w.cell? ⟨b, off + i * 5 + 3, none⟩ = some (.int .i64 x.x2) ∧ w.cell? ⟨b, off + i * 5 + 4, none⟩ = some (.int .i64 x.y2)
theorem BoxL.below {w w' : World} {a : Option Addr} {l : List B5} (h : BoxL w a l) (hb : Below w.heap.size w w') : BoxL w' a l := by
 intro hp
 obtain ⟨b, off, e, hl, hc⟩ := h hp
 have k := fun o => hb.cell (p := ⟨b, o, none⟩) hl
 exact ⟨b, off, e, Nat.lt_of_lt_of_le hl hb.size, fun i x hi => by simp only [k]; exact hc i x hi⟩
theorem box_at {w : World} {B g n c : Nat} {l : List B5} (h : w.ownsRow B 36 5 (.slice (some ⟨g, 0, none⟩) n c) n (l.flatMap boxCells)) {i : Nat} {x : B5} (hi : l[i]? = some x) :
  w.cell? ⟨g, i * 5, none⟩ = some (.int .i64 x.id) ∧ w.cell? ⟨g, i * 5 + 1, none⟩ = some (.int .i64 x.x1) ∧ w.cell? ⟨g, i * 5 + 2, none⟩ = some (.int .i64 x.y1) ∧
  w.cell? ⟨g, i * 5 + 3, none⟩ = some (.int .i64 x.x2) ∧ w.cell? ⟨g, i * 5 + 4, none⟩ = some (.int .i64 x.y2) := by
 have hlt : i < l.length := (List.getElem?_eq_some_iff.1 hi).1
 have hl : l.length * 5 = n * 5 := by rw [← flat_len boxCells 5 (fun _ => rfl) l]; exact h.1
 have key : ∀ q, q < 5 → w.cell? ⟨g, i * 5 + q, none⟩ = (boxCells x)[q]? := fun q hq => by
  rw [h.cellAt _ (by omega), flat_get boxCells 5 (fun _ => rfl) l i q x hi hq]
 exact ⟨key 0 (by omega), key 1 (by omega), key 2 (by omega), key 3 (by omega), key 4 (by omega)⟩
theorem grown_of_below {w w' : World} (h : Below w.heap.size w w') : w.grownBy w' none := ⟨h.os, h.tape, h.output, h.size, fun k hk _ => h.block k hk⟩
theorem owns_below {w w' : World} {B size n : Nat} {e : TypeId} {v : Value} {xs : List Value} (h : w.ownsRow B e size v n xs) (hb : Below w.heap.size w w') : w'.ownsRow B e size v n xs := by
 refine h.kept (grown_of_below hb) ?_
 cases v.ownBlock <;> simp
theorem owns_kept {w w' : World} {B size n : Nat} {e : TypeId} {v : Value} {xs : List Value} {row : Option Nat} (h : w.ownsRow B e size v n xs) (hg : w.grownBy w' row) (hne : ∀ g, v.ownBlock = some g → row ≠ some g) : w'.ownsRow B e size v n xs := by
 refine h.kept hg ?_
 cases hv : v.ownBlock with
 | none => exact Or.inl rfl
 | some g => exact Or.inr (fun e => hne g hv e.symm)
theorem owns_mono {w : World} {B B' size n : Nat} {e : TypeId} {v : Value} {xs : List Value} (h : w.ownsRow B e size v n xs) (hb : B' ≤ B) : w.ownsRow B' e size v n xs := Joins.ownsRow_le h hb
end Sw
namespace Sw
open Go.ChangeShapes Go.WideShapes Go.ChangeAt Go.RowKit Go.Sort Go.Lib
theorem info3 : (Tryz.prog.info? 3).map (fun i => (i.zero, i.size, i.bytes)) = some (some (.int .i64 0), 1, 8) := by kernel_rfl
def sortI (l : List Int) : List Int := l.mergeSort fun x y => decide (x ≤ y)
def oneB (l : List B5) : Bool := decide ((Lib.compact (sortI (l.map (·.id)))).length = l.length)
def goodB (l : List B5) : Bool := l.all okB && oneB l
theorem good_not {l : List B5} {i : Nat} {x : B5} (hi : l[i]? = some x) (h : okB x = false) : goodB l = false := by
 unfold goodB
 have hm : x ∈ l := List.mem_of_getElem? hi
 have : l.all okB = false := List.all_eq_false.2 ⟨x, hm, by simp [h]⟩
 simp [this]
theorem take_all {l : List B5} {n : Nat} (hn : n = l.length) (h : (l.take n).all okB = true) : l.all okB = true := by
 rw [hn, List.take_length] at h
 exact h
theorem good_nil : goodB [] = true := by simp [goodB, oneB, sortI, Lib.compact, compactUpTo]
theorem beq_cast (a b : Nat) : ((a : Int) == (b : Int)) = decide (a = b) := by
 by_cases h : a = b
 ·simp [h]
 ·have : (a : Int) ≠ b := by omega
  simp [h, this]
def idCells (l : List B5) : List Value := (l.map (·.id)).map (Value.int .i64)
theorem idCells_snoc {l : List B5} {k : Nat} {x : B5} (hx : l[k]? = some x) : idCells (l.take (k + 1)) = idCells (l.take k) ++ [.int .i64 x.id] := by
 have hlt : k < l.length := (List.getElem?_eq_some_iff.1 hx).1
 rw [List.take_succ_eq_append_getElem hlt, (List.getElem?_eq_some_iff.1 hx).2]
 simp [idCells]
theorem all_snoc {l : List B5} {k : Nat} {x : B5} (hx : l[k]? = some x) (h : (l.take k).all okB = true) (ho : okB x = true) : (l.take (k + 1)).all okB = true := by
 have hlt : k < l.length := (List.getElem?_eq_some_iff.1 hx).1
 rw [List.take_succ_eq_append_getElem hlt, (List.getElem?_eq_some_iff.1 hx).2, List.all_append, h]
 simp [ho]
theorem sortI_own (B g c n : Nat) (zs : List Int) (w : World) (hn : n = zs.length) (hz : n < 4611686018427387904) (h : w.ownsRow B 3 1 (.slice (some ⟨g, 0, none⟩) n c) n (zs.map (Value.int .i64))) :
  Calls Tryz.prog 71 #[.slice (some ⟨g, 0, none⟩) n c] w fun e w' => e = .returned (.tuple #[]) ∧ w'.ownsRow B 3 1 (.slice (some ⟨g, 0, none⟩) n c) n ((sortI zs).map (Value.int .i64)) ∧ w.grownBy w' (some g) := by
 subst hn
 rcases h.2 with ⟨hv, _⟩ | ⟨g', c', cur, hv, hB, hb, q1, q2, q3, q4⟩
 ·cases hv
 ·cases hv
  refine (Tryz.slices_Sort_int g 0 c zs w (Go.holds_of_blockI hb (by simpa using q4)) (Array.getElem?_eq_some_iff.1 hb).1 hz).mono ?_
  rintro e w' ⟨rfl, m, os, rfl⟩
  exact ⟨rfl, ownsRow_sortedI (by simp) hB hb q1 q2 q3, grownBy_sortedI _⟩
theorem compactI_own (B g c n : Nat) (zs : List Int) (w : World) (hn : n = zs.length) (hz : n < 4611686018427387904) (h : w.ownsRow B 3 1 (.slice (some ⟨g, 0, none⟩) n c) n (zs.map (Value.int .i64))) :
  Calls Tryz.prog 100 #[.slice (some ⟨g, 0, none⟩) n c] w fun e w' => e = .returned (.slice (some ⟨g, 0, none⟩) (Lib.compact zs).length c) ∧ w.grownBy w' (some g) := by
 subst hn
 rcases h.2 with ⟨hv, _⟩ | ⟨g', c', cur, hv, hB, hb, q1, q2, q3, q4⟩
 ·cases hv
 ·cases hv
  refine (Tryz.slices_Compact_int g 0 c zs w (Go.holds_of_blockI hb (by simpa using q4)) (by omega) q1).mono ?_
  rintro e w' ⟨rfl, m, rfl⟩
  refine ⟨rfl, rfl, rfl, rfl, by simp, fun k hk hne => ?_⟩
  have : g ≠ k := fun e => hne (by rw [e])
  simp [putRow, mapBlock, Sort.ahead, Array.getElem?_modify, this]
set_option maxHeartbeats 2000000 in
set_option maxRecDepth 100000 in
theorem good_any (a : Option Addr) (n cap : Nat) (l : List B5) (w : World) (hn : n = l.length) (hz : n * 40 ≤ 140737488355328) (hB : BoxL w a l) :
  Calls Tryz.prog 69 #[.slice a n cap] w fun e w' => e = .returned (.bool (goodB l)) ∧ Below w.heap.size w w' := by
 obtain ⟨i0, hi, hz0, hz1, hz2⟩ := info_parts info3
 have HB := hid hB
 have HN := hid hn
 clear hB hn
 obtain ⟨w1, hrun, hown1, hg1⟩ := run_make_own (P := Tryz.prog) w w.heap.size 28 3 i0 (.int .i64 0) 1 Tryz.underlying28 hi hz0 hz1 .i64 .i64 n (by rw [hz2]; omega) (by unfold maxLen; omega) (Nat.le_refl _)
 have HO1 := hid hown1
 have HG1 : Hid (Below w.heap.size w w1) := hid ((Below.refl _ w).grown hg1 (Nat.le_refl _) (fun j hj => by cases hj))
 clear hown1 hg1
 have hnm : n ≤ 9223372036854775807 := by omega
 go_enter Tryz.func69, Tryz.ntmps69
 go_wp2_with fail
 go_loopw [3, 11] (fun v i wr => ∃ k : Nat, k ≤ n ∧ i = .int .i64 k ∧ Hid (wr.ownsRow w.heap.size 3 1 v k (idCells (l.take k))) ∧ Hid (Below w.heap.size w wr) ∧ w.heap.size < wr.heap.size ∧ Hid ((l.take k).all okB = true)) (fun _ i _ => n - (intOf i).toNat)
 case atStart => exact ⟨0, Nat.zero_le _, rfl, HO1, HG1, (HO1.out.lt w.heap.size rfl).2, rfl⟩
 case round =>
  obtain ⟨k, hk, rfl, hown, hbl, hzr, hall⟩ := hrel
  by_cases hlt : k < n
  ·obtain ⟨x, hx⟩ : ∃ x, l[k]? = some x := ⟨_, List.getElem?_eq_getElem (by have := HN.out; omega)⟩
   obtain ⟨b, off, rfl, hb, hc⟩ := HB.out (by have := HN.out; omega)
   obtain ⟨c0, c1, c2, c3, c4⟩ := hc k x hx
   have kk := fun o => hbl.out.cell (p := ⟨b, o, none⟩) hb
   rw [← kk] at c0 c1 c2 c3 c4
   clear hc kk
   have hbz : b < wr.heap.size := by omega
   have HX := hid hx
   clear hx
   obtain ⟨xi, xx1, xy1, xx2, xy2⟩ := x
   simp only at c0 c1 c2 c3 c4
   by_cases h1 : xx1 < xx2
   ·by_cases h2 : xy1 < xy2
    ·go_wp2_with (at_builtin; refine wpList_append_own _ rfl _ _ 28 rfl w.heap.size 3 i0 (.int .i64 0) 1 8 Tryz.underlying28 hi hz0 hz1 hz2 rfl (by decide) _ _ _ rfl ((hown.out.alloc _).alloc _) ⟨wr.heap.size + 1, 0, none⟩ 1 1 [.int .i64 xi] rfl ?c1 ?c2 ?c3 ?c4 ?c5 ?c6 ?_)
     case c1 => rfl
     case c2 =>
      intro j u hj
      match j, hj with
      | 0, hj => cases hj; simp [Addr.add]
     case c3 => intro u hu; simp at hu; subst hu; rfl
     case c4 => unfold maxLen; omega
     case c5 => omega
     case c6 => simp; omega
     intro v' w2 hown2 hgrow2 _
     have HO2 := hid hown2
     have HG2 := hid hgrow2
     clear hown2 hgrow2
     go_wp2_with fail
     go_roundw
     case rel =>
      refine ⟨k + 1, by omega, by go_num, ?_, ?_, ?_, hid (all_snoc HX.out hall.out (by simp [okB, h1, h2]))⟩
      ·have := HO2.out
       rw [idCells_snoc HX.out]
       exact hid this
      ·exact hid ((bal (bal hbl.out _) _).grown HG2.out (by simp; omega) (fun q hq' => (hown.out.lt q hq').1))
      ·have := HG2.out.size; simp at this; omega
     case measure => simp [intOf]; omega
    ·go_wp2_with fail
     go_ret
     exact ⟨ret_bool (good_not HX.out (by simp [okB]; omega)).symm, bal hbl.out _⟩
   ·go_wp2_with fail
    go_ret
    exact ⟨ret_bool (good_not HX.out (by simp [okB]; omega)).symm, bal hbl.out _⟩
  ·have hke : k = n := by omega
   have HL : Hid (idCells (l.take k) = (l.map (·.id)).map (Value.int .i64) ∧ n = (l.map (·.id)).length ∧ goodB l = oneB l) := by
    have h1 := HN.out
    refine hid ⟨?_, by simp [h1], ?_⟩
    ·rw [hke, h1, List.take_length]; rfl
    ·rw [goodB, take_all h1 (by rw [← hke]; exact hall.out)]; rfl
   have hS : Hid (wr.ownsRow w.heap.size 3 1 u3 n ((l.map (·.id)).map (Value.int .i64))) := by
    have := hown.out
    rw [HL.out.1, hke] at this
    exact hid this
   clear hown
   rcases hS.out.2 with ⟨hv, hz0'⟩ | ⟨g, c, cur, hv, hbase, hblk, q1, q2, q3, q4⟩
   ·subst hv
    go_wp2_with (first | (go_at_call 71; refine (Tryz.slices_Sort_int_none _ _ _).mono ?_; rintro e w' ⟨rfl, rfl⟩) | (go_at_call 100; refine (Tryz.slices_Compact_int_empty _ _ _).mono ?_; rintro e w' ⟨rfl, rfl⟩))
    all_goals
     go_ret
     refine ⟨ret_bool ?_, hbl.out⟩
     have h1 := HN.out
     have hl0 : l = [] := List.length_eq_zero_iff.1 (by omega)
     rw [hl0, good_nil]
     try simp_all
   ·subst hv
    clear hblk q1 q2 q3 q4 hbase
    have hs := sortI_own w.heap.size g c n (l.map (·.id)) wr HL.out.2.1 (by omega) hS.out
    have HS := hid hs
    clear hs
    go_wp2_with (go_at_call 71; refine HS.out.mono ?_; rintro e w2 ⟨rfl, h2, h3⟩; have H2 := hid h2; have H3 := hid h3; clear h2 h3)
    have hc := compactI_own w.heap.size g c n (sortI (l.map (·.id))) w2 (by rw [HL.out.2.1]; simp [sortI]) (by omega) H2.out
    have HC := hid hc
    clear hc
    go_wp2_with (go_at_call 100; refine HC.out.mono ?_; rintro e w3 ⟨rfl, h3⟩; have H4 := hid h3; clear h3)
    all_goals
     go_ret
     refine ⟨ret_bool ?_, ?_⟩
     ·have h1 := HN.out
      rw [HL.out.2.2, oneB, ← h1]
      exact beq_cast _ _
     ·have hgB := hS.out.lt g rfl
      exact (hbl.out.grown H3.out (by omega) (fun q hq => by cases hq; exact hgB.1)).grown H4.out (by have := H3.out.size; omega) (fun q hq => by cases hq; exact hgB.1)
end Sw
namespace Sw
open Go.ChangeShapes Go.WideShapes Go.ChangeAt Go.RowKit Go.Sort Go.Shelf Go.Lib
theorem info70 : (Tryz.prog.info? 36).map (fun i => (i.zero, i.size, i.bytes)) = some (some (.agg #[.int .i64 0, .int .i64 0, .int .i64 0, .int .i64 0, .int .i64 0]), 5, 40) := by kernel_rfl
theorem info79 : (Tryz.prog.info? 54).map (fun i => (i.zero, i.size, i.bytes)) = some (some (.agg #[.int .i64 0, .int .i64 0]), 2, 16) := by kernel_rfl
set_option maxHeartbeats 400000 in
set_option maxRecDepth 100000 in
theorem cloneB_any (a : Option Addr) (n cap : Nat) (xs : List Value) (w : World) (hn : n * 40 ≤ 140737488355328) (hl : xs.length = n * 5) (ha : a = none → n = 0)
  (hx : ∀ ad, a = some ad → ∀ j u, xs[j]? = some u → w.cell? (ad.add j) = some u) (h1 : ∀ u ∈ xs, u.oneCell' = true) :
  Calls Tryz.prog 157 #[.slice a n cap] w fun e w' => (∃ v, e = .returned v ∧ w'.ownsRow w.heap.size 36 5 v n xs) ∧ RowKit.Below w.heap.size w w' := by
 have q : ∀ (w : World) (a : Option Addr) (n c n' c' : Nat), (binOp .eql 48 (.slice a n c) (.slice none n' c')).run Tryz.prog w = .ok (.bool a.isNone) w := fun w a n c n' c' => Lib.run_eql_slice_nil w _ _ a n c n' c' Tryz.underlying48
 obtain ⟨i0, hi, hz0, hz1, hz2⟩ := info_parts info70
 have HX := hid hx
 have H1 := hid h1
 have HL := hid hl
 have HA := hid ha
 clear hx h1 hl ha
 cases a with
 | none =>
  have H0 : Hid (n = 0) := HA.out rfl
  go_enter Tryz.func157, Tryz.ntmps157
  go_wp2
  go_ret
  have h0 := H0.out
  have hl := HL.out
  rw [h0] at hl
  have hxs : xs = [] := List.length_eq_zero_iff.1 (by simpa using hl)
  exact ⟨⟨_, rfl, by rw [hxs, h0]; exact ⟨by simp, Or.inl ⟨rfl, rfl⟩⟩⟩, Below.refl _ _⟩
 | some ad =>
  go_enter Tryz.func157, Tryz.ntmps157
  go_wp2_with (at_builtin; refine wpList_append_own _ rfl _ _ 48 rfl w.heap.size 36 i0 (.agg #[.int .i64 0, .int .i64 0, .int .i64 0, .int .i64 0, .int .i64 0]) 5 40 Tryz.underlying48 hi hz0 hz1 hz2 rfl (by decide) _ _ _ rfl (World.ownsRow_made w #[] 0 (Nat.le_refl _) (Nat.zero_le _) rfl) ad n cap xs rfl ?qc1 ?qc2 ?qc3 ?qc4 ?qc5 ?qc6 ?_)
  case qc1 => exact HL.out
  case qc2 => intro j u hj; exact Lib.cell?_alloc_some _ (HX.out ad rfl j u hj)
  case qc3 => exact H1.out
  case qc4 => unfold maxLen; omega
  case qc5 => omega
  case qc6 => simp
  intro v' w1 hown hgrow hnil
  clear hnil
  go_wp2
  go_ret
  exact ⟨⟨v', rfl, by simpa using hown⟩, ((Below.refl _ w).alloc (Nat.le_refl _) _).grown hgrow (by simp) (by intro k hk; simp [Value.ownBlock] at hk; omega)⟩
theorem one_box (l : List B5) : ∀ u ∈ l.flatMap boxCells, u.oneCell' = true := by
 intro u hu
 obtain ⟨x, _, hx⟩ := List.mem_flatMap.1 hu
 simp [boxCells] at hx
 rcases hx with rfl | rfl | rfl | rfl | rfl <;> rfl
theorem BoxL.flat {w : World} {a : Option Addr} {l : List B5} (h : BoxL w a l) : ∀ ad, a = some ad → ∀ j u, (l.flatMap boxCells)[j]? = some u → w.cell? (ad.add j) = some u := by
 intro ad ha j u hj
 have hlen := flat_len boxCells 5 (fun _ => rfl) l
 have hjl : j < l.length * 5 := by rw [← hlen]; exact (List.getElem?_eq_some_iff.1 hj).1
 obtain ⟨b, off, e, _, hc⟩ := h (by omega)
 rw [e] at ha
 cases ha
 have hd : j / 5 < l.length := by omega
 have hx : l[j / 5]? = some l[j / 5] := List.getElem?_eq_getElem hd
 have e1 := flat_get boxCells 5 (fun _ => rfl) l (j / 5) (j % 5) _ hx (Nat.mod_lt _ (by omega))
 have e2 : j / 5 * 5 + j % 5 = j := by omega
 rw [e2, hj] at e1
 obtain ⟨c0, c1, c2, c3, c4⟩ := hc _ _ hx
 rw [Addr.add_lit]
 have hm : j % 5 < 5 := Nat.mod_lt _ (by omega)
 have e3 : off + j = off + j / 5 * 5 + j % 5 := by omega
 rw [e3]
 generalize j % 5 = q at e1 hm ⊢
 match q, hm with
 | 0, _ => rw [e1]; exact c0
 | 1, _ => rw [e1]; exact c1
 | 2, _ => rw [e1]; exact c2
 | 3, _ => rw [e1]; exact c3
 | 4, _ => rw [e1]; exact c4
theorem swoB : SWO (ltOf cmpB) where
 irrefl x := by unfold ltOf; rw [cmpB_lt]; simp
 trans x y z h1 h2 := by unfold ltOf at *; rw [cmpB_lt] at *; simp at *; omega
 ntrans x y z h1 h2 := by unfold ltOf at *; rw [cmpB_lt] at *; simp at *; omega
theorem swoP : SWO (ltOf cmpP) where
 irrefl x := by unfold ltOf; rw [cmpP_lt]; simp
 trans x y z h1 h2 := by unfold ltOf at *; rw [cmpP_lt] at *; simp at *; omega
 ntrans x y z h1 h2 := by unfold ltOf at *; rw [cmpP_lt] at *; simp at *; omega
theorem totP (x y : Int × Int) (h1 : ltOf cmpP x y = false) (h2 : ltOf cmpP y x = false) : x = y := by
 unfold ltOf at *
 rw [cmpP_lt] at *
 simp at *
 ext <;> omega
theorem laysB (blk off size : Nat) (w : World) : CmpLays Tryz.prog 159 #[] boxCells 5 cmpB blk off size w := fun _ _ _ _ x y => cmpB_any x.id x.x1 x.y1 x.x2 x.y2 y.id y.x1 y.y1 y.x2 y.y2 _
theorem laysP (blk off size : Nat) (w : World) : CmpLays Tryz.prog 141 #[] pairCells 2 cmpP blk off size w := fun _ _ _ _ x y => cmpP_any x.1 x.2 y.1 y.2 _
def Left (l : List B5) : Prop := l.Pairwise (fun a b => a.x1 ≤ b.x1)
theorem left_of {d : Array B5} (h : SortedIn (ltOf cmpB) 0 d.size d) : Left d.toList := by
 unfold Left
 rw [List.pairwise_iff_getElem]
 intro i j hi hj hij
 have := h i j (Nat.zero_le _) hij (by simpa using hj)
 rw [getElem!_pos d j (by simpa using hj), getElem!_pos d i (by simpa using hi)] at this
 unfold ltOf at this
 rw [cmpB_lt] at this
 simp at this
 simp only [Array.getElem_toList]
 omega
theorem sortB_own (B g c n : Nat) (l : List B5) (w : World) (hn : n = l.length) (hz : n < 4611686018427387904) (h : w.ownsRow B 36 5 (.slice (some ⟨g, 0, none⟩) n c) n (l.flatMap boxCells)) :
  Calls Tryz.prog 158 #[.slice (some ⟨g, 0, none⟩) n c, .func (.func 159) #[] #[]] w fun e w' => e = .returned (.tuple #[]) ∧ ∃ l', l'.Perm l ∧ Left l' ∧ w'.ownsRow B 36 5 (.slice (some ⟨g, 0, none⟩) n c) n (l'.flatMap boxCells) ∧ w.grownBy w' (some g) := by
 subst hn
 have eg : ∀ args w, (callFunc 159 args).run Tryz.prog w = .ok (.enter 159 args) w := enters_of Tryz.func159 (by kernel_rfl) rfl
 have hcon := AnyQ.slices_SortFunc Tryz.sortBox 5 Tryz.isAgg36 Tryz.sizeOf36 boxCells (fun _ => rfl) (fun x v hv => one_box [x] v (by simpa using hv)) cmpB swoB 159 #[] g 0 c l.toArray w eg (laysB g 0 _ w) (holdsK_of_owns boxCells 5 (fun _ => rfl) h) (h.lt g rfl).2 (by simpa using hz)
 simp only [List.size_toArray] at hcon
 refine Calls.mono (P := Tryz.prog) hcon ?_
 rintro e w' ⟨rfl, d', m, os, hp, hs, rfl⟩
 have hsz : d'.size = l.length := by simpa using hp.1
 have hperm : d'.toList.Perm l := by
  have := hp.2.2
  simp at this
  rwa [List.take_of_length_le (by simp [hsz])] at this
 refine ⟨rfl, d'.toList, hperm, left_of (by rw [hsz]; exact hs), ?_, grownBy_sortedK _ _ _⟩
 have := owns_sortedK boxCells 5 (fun _ => rfl) (m := m) (os := os) h d'.toList (by simpa using hsz)
 simpa using this
theorem one_pair (l : List (Int × Int)) : ∀ u ∈ l.flatMap pairCells, u.oneCell' = true := by
 intro u hu
 obtain ⟨x, _, hx⟩ := List.mem_flatMap.1 hu
 simp [pairCells] at hx
 rcases hx with rfl | rfl <;> rfl
def sortP (l : List (Int × Int)) : List (Int × Int) := l.mergeSort fun x y => !(ltOf cmpP) y x
theorem sortP_len (l : List (Int × Int)) : (sortP l).length = l.length := List.length_mergeSort _
theorem sortP_perm (l : List (Int × Int)) : (sortP l).Perm l := List.mergeSort_perm _ _
theorem sortP_eq {l l' : List (Int × Int)} (h : l.Perm l') : sortP l = sortP l' := by
 have hs : ∀ l, (sortP l).Pairwise (fun x y => (!(ltOf cmpP) y x) = true) := fun l => List.pairwise_mergeSort (le := fun x y => !(ltOf cmpP) y x)
  (fun a b c h1 h2 => by simp only [ltOf, cmpP_lt] at *; simp at *; omega) (fun a b => by simp only [ltOf, cmpP_lt]; simp; omega) l
 refine List.Perm.eq_of_pairwise (le := fun x y => (!(ltOf cmpP) y x) = true) ?_ (hs l) (hs l') ((sortP_perm l).trans (h.trans (sortP_perm l').symm))
 intro a b _ _ ha hb
 exact totP a b (by simpa using hb) (by simpa using ha)
theorem sortP_own (B g c n : Nat) (l : List (Int × Int)) (w : World) (hn : n = l.length) (hz : n < 4611686018427387904) (h : w.ownsRow B 54 2 (.slice (some ⟨g, 0, none⟩) n c) n (l.flatMap pairCells)) :
  Calls Tryz.prog 140 #[.slice (some ⟨g, 0, none⟩) n c, .func (.func 141) #[] #[]] w fun e w' => e = .returned (.tuple #[]) ∧ w'.ownsRow B 54 2 (.slice (some ⟨g, 0, none⟩) n c) n ((sortP l).flatMap pairCells) ∧ w.grownBy w' (some g) := by
 subst hn
 have eg : ∀ args w, (callFunc 141 args).run Tryz.prog w = .ok (.enter 141 args) w := enters_of Tryz.func141 (by kernel_rfl) rfl
 have hcon := AnyQ.slices_SortFunc_total Tryz.sortPair 2 Tryz.isAgg54 Tryz.sizeOf54 pairCells (fun _ => rfl) (fun x v hv => one_pair [x] v (by simpa using hv)) cmpP swoP 141 #[] g 0 c l.toArray w eg (laysP g 0 _ w) (holdsK_of_owns pairCells 2 (fun _ => rfl) h) (h.lt g rfl).2 (by simpa using hz) totP
 simp only [List.size_toArray] at hcon
 refine Calls.mono (P := Tryz.prog) hcon ?_
 rintro e w' ⟨rfl, m, os, rfl⟩
 exact ⟨rfl, owns_sortedK pairCells 2 (fun _ => rfl) (m := m) (os := os) h (sortP l) (sortP_len l), grownBy_sortedK _ _ _⟩
theorem sortB_call (B n : Nat) (v : Value) (l : List B5) (w : World) (hn : n = l.length) (hz : n < 4611686018427387904) (h : w.ownsRow B 36 5 v n (l.flatMap boxCells)) :
  Calls Tryz.prog 158 #[v, .func (.func 159) #[] #[]] w fun e w' => e = .returned (.tuple #[]) ∧ ∃ l', l'.Perm l ∧ Left l' ∧ w'.ownsRow B 36 5 v n (l'.flatMap boxCells) ∧ w.grownBy w' v.ownBlock := by
 rcases h.2 with ⟨hv, h0⟩ | ⟨g, c, cur, hv, _⟩
 ·subst hv
  refine Calls.mono (P := Tryz.prog) (AnyF.slices_SortFunc_none Tryz.sortBox none 0 (.func (.func 159) #[] #[]) w) ?_
  rintro e w' ⟨rfl, rfl⟩
  have hl0 : l = [] := List.length_eq_zero_iff.1 (by omega)
  subst hl0
  exact ⟨rfl, [], List.Perm.refl _, List.Pairwise.nil, h, rfl, rfl, rfl, Nat.le_refl _, fun _ _ _ => rfl⟩
 ·subst hv
  exact sortB_own B g c n l w hn hz h
theorem sortP_call (B n : Nat) (v : Value) (l : List (Int × Int)) (w : World) (hn : n = l.length) (hz : n < 4611686018427387904) (h : w.ownsRow B 54 2 v n (l.flatMap pairCells)) :
  Calls Tryz.prog 140 #[v, .func (.func 141) #[] #[]] w fun e w' => e = .returned (.tuple #[]) ∧ w'.ownsRow B 54 2 v n ((sortP l).flatMap pairCells) ∧ w.grownBy w' v.ownBlock := by
 rcases h.2 with ⟨hv, h0⟩ | ⟨g, c, cur, hv, _⟩
 ·subst hv
  refine Calls.mono (P := Tryz.prog) (AnyF.slices_SortFunc_none Tryz.sortPair none 0 (.func (.func 141) #[] #[]) w) ?_
  rintro e w' ⟨rfl, rfl⟩
  have hl0 : l = [] := List.length_eq_zero_iff.1 (by omega)
  subst hl0
  exact ⟨rfl, by simpa [sortP] using h, rfl, rfl, rfl, Nat.le_refl _, fun _ _ _ => rfl⟩
 ·subst hv
  exact sortP_own B g c n l w hn hz h
set_option maxHeartbeats 1000000 in
set_option maxRecDepth 100000 in
theorem fromLeft_any (a : Option Addr) (n cap : Nat) (l : List B5) (w : World) (hn : n = l.length) (hz : n * 40 ≤ 140737488355328) (ha : a = none → n = 0) (hB : BoxL w a l) :
  Calls Tryz.prog 136 #[.slice a n cap] w fun e w' => (∃ v, e = .returned v ∧ ∃ l', l'.Perm l ∧ Left l' ∧ w'.ownsRow w.heap.size 36 5 v n (l'.flatMap boxCells)) ∧ RowKit.Below w.heap.size w w' := by
 have hc := cloneB_any a n cap (l.flatMap boxCells) w hz (by rw [flat_len boxCells 5 (fun _ => rfl), hn]) ha hB.flat (one_box l)
 have HC := hid hc
 have HN := hid hn
 clear hc hn hB ha
 go_enter Tryz.func136, Tryz.ntmps136
 go_wp2_with (go_at_call 157; refine HC.out.mono ?_; rintro e w1 ⟨⟨v, rfl, h1⟩, h2⟩; have H1 := hid h1; have H2 := hid h2; clear h1 h2)
 have HS := hid (sortB_call w.heap.size n v l w1 HN.out (by omega) H1.out)
 refine HS.out.mono ?_
 rintro e w2 ⟨rfl, l', hp, hl, h3, h4⟩
 have H3 := hid h3
 have H4 := hid h4
 have HP := hid hp
 have HL := hid hl
 clear h3 h4 hp hl
 go_wp2_with fail
 go_ret
 exact ⟨⟨v, rfl, l', HP.out, HL.out, H3.out⟩, H2.out.grown H4.out (by have := H2.out.size; omega) (fun q hq => (H1.out.lt q hq).1)⟩
end Sw
namespace Sw
open Go.ChangeShapes Go.WideShapes Go.ChangeAt Go.RowKit Go.Sort Go.Shelf Go.Lib
def FirstIs (O : List B5) (bx : Int) (r : Int) : Prop :=
 (r = -1 ∧ ∀ (i : Nat) (x : B5), O[i]? = some x → bx < x.x2) ∨ ∃ k : Nat, r = k ∧ (∃ x : B5, O[k]? = some x ∧ x.x2 ≤ bx) ∧ ∀ (i : Nat) (x : B5), i < k → O[i]? = some x → bx < x.x2
set_option maxHeartbeats 1000000 in
set_option maxRecDepth 100000 in
theorem indexB_any (a : Option Addr) (n cap B : Nat) (O : List B5) (bx : Int) (w : World) (hn : n = O.length) (hz : n ≤ 4611686018427387903) (hO : BoxL w a O) (hB : B < w.heap.size) (hb : w.cell? ⟨B, 1, none⟩ = some (.int .i64 bx)) :
  Calls Tryz.prog 160 #[.slice a n cap, .func (.func 138) #[] #[.pointer (some ⟨B, 0, none⟩)]] w fun e w' => (∃ r, e = .returned (.int .i64 r) ∧ FirstIs O bx r) ∧ RowKit.Below w.heap.size w w' := by
 have HO := hid hO
 have HN := hid hn
 clear hO hn
 go_enter Tryz.func160, Tryz.ntmps160
 go_wp2_with fail
 go_loopw [8] (fun i wr => ∃ k : Nat, k ≤ n ∧ i = .int .i64 k ∧ Hid (RowKit.Below w.heap.size w wr) ∧ Hid (∀ (i : Nat) (x : B5), i < k → O[i]? = some x → bx < x.x2)) (fun i _ => n - (intOf i).toNat)
 case atStart => exact ⟨0, Nat.zero_le _, rfl, hid (Below.refl _ _), hid (fun i x h => absurd h (Nat.not_lt_zero _))⟩
 case round =>
  obtain ⟨k, hk, rfl, hbl, hno⟩ := hrel
  by_cases hlt : k < n
  ·obtain ⟨x, hx⟩ : ∃ x, O[k]? = some x := ⟨_, List.getElem?_eq_getElem (by have := HN.out; omega)⟩
   obtain ⟨b, off, rfl, hbb, hc⟩ := HO.out (by have := HN.out; omega)
   obtain ⟨c0, c1, c2, c3, c4⟩ := hc k x hx
   have kk := fun o => hbl.out.cell (p := ⟨b, o, none⟩) hbb
   rw [← kk] at c0 c1 c2 c3 c4
   clear hc kk
   have HX := hid hx
   clear hx
   obtain ⟨xi, xx1, xy1, xx2, xy2⟩ := x
   simp only at c0 c1 c2 c3 c4
   have HE := hid (ends_any xi xx1 xy1 xx2 xy2 bx B wr (by have := hbl.out.size; omega) ((hbl.out.cell (p := ⟨B, 1, none⟩) hB).trans hb))
   by_cases he : xx2 ≤ bx
   ·rw [decide_eq_true he] at HE
    go_wp2_with (go_at_call 138; refine HE.out.mono ?_; rintro e w1 ⟨rfl, h1⟩; have H1 := hid h1; clear h1)
    go_ret
    exact ⟨⟨_, rfl, Or.inr ⟨k, rfl, ⟨_, HX.out, he⟩, hno.out⟩⟩, bcall hbl.out H1.out⟩
   ·rw [decide_eq_false he] at HE
    go_wp2_with (go_at_call 138; refine HE.out.mono ?_; rintro e w1 ⟨rfl, h1⟩; have H1 := hid h1; clear h1)
    go_roundw
    case rel =>
     refine ⟨k + 1, by omega, by go_num, hid (bcall hbl.out H1.out), hid (fun i x hi hx => ?_)⟩
     by_cases e : i = k
     ·subst e
      rw [HX.out] at hx
      cases hx
      show bx < xx2
      omega
     ·exact hno.out i x (by omega) hx
    case measure => simp [intOf]; omega
  ·go_wp2_with fail
   go_ret
   refine ⟨⟨-1, rfl, Or.inl ⟨rfl, fun i x hi => hno.out i x ?_ hi⟩⟩, hbl.out⟩
   have h1 := (List.getElem?_eq_some_iff.1 hi).1
   have := HN.out
   omega
end Sw
namespace Sw
open Go.ChangeShapes Go.WideShapes Go.ChangeAt Go.RowKit Go.Sort Go.Shelf Go.Lib
def strikeX (O : List B5) (bx : Int) : List B5 := O.filter (fun o => decide (bx < o.x2))
theorem strikeX_all {O : List B5} {bx : Int} (h : ∀ (i : Nat) (x : B5), O[i]? = some x → bx < x.x2) : strikeX O bx = O := by
 unfold strikeX
 rw [List.filter_eq_self]
 intro o ho
 obtain ⟨i, hi⟩ := List.mem_iff_getElem?.1 ho
 simpa using h i o hi
theorem strikeX_take {O : List B5} {bx : Int} {j : Nat} {x : B5} (hx : O[j]? = some x) : strikeX (O.take (j + 1)) bx = strikeX (O.take j) bx ++ (if bx < x.x2 then [x] else []) := by
 have hlt : j < O.length := (List.getElem?_eq_some_iff.1 hx).1
 rw [List.take_succ_eq_append_getElem hlt, (List.getElem?_eq_some_iff.1 hx).2]
 unfold strikeX
 rw [List.filter_append]
 by_cases h : bx < x.x2 <;> simp [h]
structure Strk (O R : List B5) (bx : Int) (i j : Nat) : Prop where
 len : R.length = O.length
 lt : i < j
 le : j ≤ O.length
 kept : R.take i = strikeX (O.take j) bx
 rest : R.drop j = O.drop j
theorem Strk.at {O R : List B5} {bx : Int} {i j : Nat} (h : Strk O R bx i j) {x : B5} (hx : O[j]? = some x) : R[j]? = some x := by
 have := congrArg (fun l => l[0]?) h.rest
 simp only [List.getElem?_drop, Nat.add_zero] at this
 rw [this, hx]
theorem drop_next {O R : List B5} {j : Nat} (h : R.drop j = O.drop j) : R.drop (j + 1) = O.drop (j + 1) := by
 rw [← List.drop_drop, ← List.drop_drop, h]
theorem Strk.out {O R : List B5} {bx : Int} {i j : Nat} (h : Strk O R bx i j) (hj : j < O.length) {x : B5} (hx : O[j]? = some x) (ho : ¬ bx < x.x2) : Strk O R bx i (j + 1) :=
 ⟨h.len, by have := h.lt; omega, by omega, by rw [strikeX_take hx, if_neg ho, List.append_nil, h.kept], drop_next h.rest⟩
theorem Strk.keep {O R : List B5} {bx : Int} {i j : Nat} (h : Strk O R bx i j) (hj : j < O.length) {x : B5} (hx : O[j]? = some x) (ho : bx < x.x2) : Strk O (R.set i x) bx (i + 1) (j + 1) := by
 have hl := h.len
 have hlt := h.lt
 refine ⟨by simp [hl], by omega, by omega, ?_, ?_⟩
 ·rw [strikeX_take hx, if_pos ho, ← h.kept, List.take_succ_eq_append_getElem (by simp; omega), List.getElem_set_self, List.take_set_of_le (by omega)]
 ·rw [List.drop_set_of_lt (by omega)]
  exact drop_next h.rest
theorem Strk.first {O : List B5} {bx : Int} {k : Nat} {x : B5} (hx : O[k]? = some x) (ho : x.x2 ≤ bx) (hno : ∀ (i : Nat) (x : B5), i < k → O[i]? = some x → bx < x.x2) : Strk O O bx k (k + 1) := by
 have hlt : k < O.length := (List.getElem?_eq_some_iff.1 hx).1
 refine ⟨rfl, by omega, by omega, ?_, rfl⟩
 rw [strikeX_take hx, if_neg (by omega), List.append_nil, strikeX_all]
 intro i y hy
 have hi : i < k := by
  have := (List.getElem?_eq_some_iff.1 hy).1
  simp at this; omega
 rw [List.getElem?_take_of_lt hi] at hy
 exact hno i y hi hy
def setB5 (W : World) (g i : Nat) (x : B5) : World := ((((W.setCell ⟨g, i * 5, none⟩ (.int .i64 x.id)).setCell ⟨g, i * 5 + 1, none⟩ (.int .i64 x.x1)).setCell ⟨g, i * 5 + 2, none⟩ (.int .i64 x.y1)).setCell ⟨g, i * 5 + 3, none⟩ (.int .i64 x.x2)).setCell ⟨g, i * 5 + 4, none⟩ (.int .i64 x.y2)
theorem grown_set (w : World) (g j : Nat) (u : Value) : w.grownBy (w.setCell ⟨g, j, none⟩ u) (some g) :=
 ⟨rfl, rfl, rfl, by simp [World.setCell], fun k _ hk => Below.heap_setCell _ _ _ _ (fun e => hk (by simp [e]))⟩
theorem grown_trans {w w1 w2 : World} {row : Option Nat} (h : w.grownBy w1 row) (h' : w1.grownBy w2 row) : w.grownBy w2 row :=
 ⟨h'.os.trans h.os, h'.tape.trans h.tape, h'.output.trans h.output, Nat.le_trans h.size h'.size, fun k hk hne => (h'.block k (Nat.lt_of_lt_of_le hk h.size) hne).trans (h.block k hk hne)⟩
theorem grown_setB5 (W : World) (g i : Nat) (x : B5) : W.grownBy (setB5 W g i x) (some g) :=
 grown_trans (grown_trans (grown_trans (grown_trans (grown_set W g (i * 5) _) (grown_set _ g _ _)) (grown_set _ g _ _)) (grown_set _ g _ _)) (grown_set _ g _ _)
theorem set_app (A X : List Value) (i j : Nat) (u : Value) (h : i = A.length + j) : (A ++ X).set i u = A ++ X.set j u := by
 subst h
 induction A with
 | nil => simp
 | cons a A ih => simp only [List.cons_append, List.length_cons, show A.length + 1 + j = (A.length + j) + 1 by omega, List.set_cons_succ, ih]
theorem box_write {W : World} {B g n c i : Nat} {R : List B5} (x : B5) (hi : i < R.length) (h : W.ownsRow B 36 5 (.slice (some ⟨g, 0, none⟩) n c) n (R.flatMap boxCells)) :
  (setB5 W g i x).ownsRow B 36 5 (.slice (some ⟨g, 0, none⟩) n c) n ((R.set i x).flatMap boxCells) := by
 have h1 := (((((h.stored (i * 5) (.int .i64 x.id)).1.stored (i * 5 + 1) (.int .i64 x.x1)).1.stored (i * 5 + 2) (.int .i64 x.y1)).1.stored (i * 5 + 3) (.int .i64 x.x2)).1.stored (i * 5 + 4) (.int .i64 x.y2)).1
 have e : R = R.take i ++ R[i] :: R.drop (i + 1) := by
  have h1 : R.take i ++ R.drop i = R := List.take_append_drop i R
  rw [List.drop_eq_getElem_cons hi] at h1
  exact h1.symm
 have hl : ((R.take i).flatMap boxCells).length = i * 5 := by rw [flat_len boxCells 5 (fun _ => rfl), List.length_take]; congr 1; omega
 have es : R.set i x = R.take i ++ x :: R.drop (i + 1) := by
  conv => lhs; rw [e]
  rw [List.set_append_right _ _ (by rw [List.length_take]; omega), List.length_take, Nat.min_eq_left (by omega), Nat.sub_self]
  rfl
 have ef : R.flatMap boxCells = (R.take i).flatMap boxCells ++ (boxCells R[i] ++ (R.drop (i + 1)).flatMap boxCells) := by
  conv => lhs; rw [e]
  rw [List.flatMap_append, List.flatMap_cons]
 rw [es, List.flatMap_append, List.flatMap_cons]
 rw [ef, set_app _ _ _ 0 _ (by omega), set_app _ _ _ 1 _ (by omega), set_app _ _ _ 2 _ (by omega), set_app _ _ _ 3 _ (by omega), set_app _ _ _ 4 _ (by omega)] at h1
 exact h1
theorem owns_part {w : World} {B g n c k size : Nat} {e : TypeId} {xs : List Value} (h : w.ownsRow B e size (.slice (some ⟨g, 0, none⟩) n c) n xs) (hk : k ≤ n) : w.ownsRow B e size (.slice (some ⟨g, 0, none⟩) k c) k (xs.take (k * size)) := by
 have hm : k * size ≤ n * size := Nat.mul_le_mul_right _ hk
 refine ⟨by rw [List.length_take, h.1]; omega, ?_⟩
 rcases h.2 with ⟨e, _⟩ | ⟨g', c', cur, e, h1, h2, h3, h4, h5, h6⟩
 ·cases e
 ·cases e
  refine Or.inr ⟨g, c, cur, rfl, h1, h2, by omega, h4, h5, ?_⟩
  rw [← h6, List.take_take, Nat.min_eq_left hm]
theorem flat_take {α : Type} (enc : α → List Value) (k : Nat) (hk : ∀ x, (enc x).length = k) (l : List α) (i : Nat) (hi : i ≤ l.length) : (l.flatMap enc).take (i * k) = (l.take i).flatMap enc := by
 conv => lhs; rw [← List.take_append_drop i l]
 have : ((l.take i).flatMap enc).length = i * k := by rw [flat_len enc k hk, List.length_take, Nat.min_eq_left hi]
 rw [List.flatMap_append, List.take_append_of_le_length (by omega), List.take_of_length_le (by omega)]
theorem grown_setRow {w : World} {g : Nat} (cs : Array Value) : w.grownBy (w.setRow g cs) (some g) := by
 refine ⟨rfl, rfl, rfl, by simp [World.setRow], fun k _ hk => ?_⟩
 have hne : g ≠ k := fun e => hk (by rw [e])
 simp [World.setRow, Array.getElem?_modify, hne]
theorem clear_runM {P : Program} {w : World} (t ty : TypeId) (base : Nat) (e : TypeId) (z : Value) (size bytes : Nat) (ht : P.underlying t = some (.slice e)) (hi : (P.info? e).map (fun i => (i.zero, i.size, i.bytes)) = some (some z, size, bytes))
  (hzs : z.cells.size = size) (hz1 : ∀ u ∈ z.cells.toList, u.oneCell' = true) (hs0 : 0 < size)
  (g n cap m c : Nat) (xs : List Value) (hown : w.ownsRow base e size (.slice (some ⟨g, 0, none⟩) n cap) n xs) (hroom : n + m ≤ cap) (hm : 0 < m) :
  ∃ w', (Builtin.clear_ #[t] ty #[.slice (some ⟨g, n * size, none⟩) m c]).run P w = .ok (.tuple #[]) w' ∧ w'.ownsRow base e size (.slice (some ⟨g, 0, none⟩) n cap) n xs ∧ w.grownBy w' (some g) := by
 obtain ⟨i0, hi', hz0, hs0', hb0⟩ := info_parts hi
 rcases hown.2 with ⟨e, _⟩ | ⟨g', c', cur, e, q1, q2, q3, q4, q5, q6⟩
 ·cases e
 cases e
 have hzl : (Builtin.zeroCells z.cells m).toList.length = m * size := by simp [Builtin.zeroCells, hzs]
 have hz1' : ∀ u ∈ (Builtin.zeroCells z.cells m).toList, u.oneCell' = true := by
  intro u hu
  simp [Builtin.zeroCells] at hu
  obtain ⟨i, hi, rfl⟩ := hu
  have hlt : i % z.cells.size < z.cells.size := Nat.mod_lt _ (by omega)
  apply hz1
  simp [hlt]
 have hfit : n * size + (Builtin.zeroCells z.cells m).toList.length ≤ cur.size := by rw [q5, hzl, ← Nat.add_mul]; exact Nat.mul_le_mul_right _ hroom
 have hst := run_storeCells_at P g (n * size) e (Builtin.zeroCells z.cells m).toList 0 cur w q2 (by simpa using hfit) hz1'
 have hrun : (Builtin.clear_ #[t] ty #[.slice (some ⟨g, n * size, none⟩) m c]).run P w = .ok (.tuple #[]) (w.setRow g (splice cur.toList (n * size) (Builtin.zeroCells z.cells m).toList).toArray) := by
  cases m with
  | zero => omega
  | succ m => simp [Builtin.clear_, run_underlying ht, zeroValue, typeInfo, hi', hz0, hst, splice]
 refine ⟨_, hrun, ⟨hown.1, Or.inr ⟨g, cap, _, rfl, q1, setRow_heap w g _ _ e _ q2, q3, q4, ?_, ?_⟩⟩, grown_setRow _⟩
 ·rw [List.size_toArray, length_splice _ _ _ (by simpa using hfit), Array.length_toList, q5]
 ·have hl : (cur.toList.take (n * size)).length = n * size := by rw [q6]; exact hown.1
  show List.take (n * size) (List.take (n * size) cur.toList ++ _) = xs
  rw [List.take_append_of_le_length (by omega), List.take_take, Nat.min_self, q6]
end Sw
namespace Sw
open Go.ChangeShapes Go.WideShapes Go.ChangeAt Go.RowKit Go.Sort Go.Shelf Go.Lib
theorem boxL_own {w : World} {B g n c : Nat} {l : List B5} (h : w.ownsRow B 36 5 (.slice (some ⟨g, 0, none⟩) n c) n (l.flatMap boxCells)) : BoxL w (some ⟨g, 0, none⟩) l := by
 intro _
 refine ⟨g, 0, rfl, (h.lt g rfl).2, fun i x hi => ?_⟩
 have := box_at h hi
 simpa only [Nat.zero_add] using this
theorem vbox {wr w2 : World} {a b c d e : Value} {t : TypeId} (h : RowKit.Below (wr.alloc (.cells #[a, b, c, d, e] t)).heap.size (wr.alloc (.cells #[a, b, c, d, e] t)) w2) :
  w2.cell? ⟨wr.heap.size, 0, none⟩ = some a ∧ w2.cell? ⟨wr.heap.size, 1, none⟩ = some b ∧ w2.cell? ⟨wr.heap.size, 2, none⟩ = some c ∧ w2.cell? ⟨wr.heap.size, 3, none⟩ = some d ∧ w2.cell? ⟨wr.heap.size, 4, none⟩ = some e := by
 have k := fun o => h.cell (p := ⟨wr.heap.size, o, none⟩) (by simp)
 simp only [k]
 simp
set_option maxHeartbeats 4000000 in
set_option maxRecDepth 100000 in
theorem deleteB_row (base g n c B : Nat) (O : List B5) (bx : Int) (w : World) (hn : n = O.length) (hz : n ≤ 1000000000) (hown : w.ownsRow base 36 5 (.slice (some ⟨g, 0, none⟩) n c) n (O.flatMap boxCells)) (hB : B < w.heap.size) (hBg : B ≠ g) (hb : w.cell? ⟨B, 1, none⟩ = some (.int .i64 bx)) :
  Calls Tryz.prog 137 #[.slice (some ⟨g, 0, none⟩) n c, .func (.func 138) #[] #[.pointer (some ⟨B, 0, none⟩)]] w fun e w' =>
   (∃ v, e = .returned v ∧ w'.ownsRow base 36 5 v (strikeX O bx).length ((strikeX O bx).flatMap boxCells) ∧ (v.ownBlock = some g)) ∧ w.grownBy w' (some g) := by
 have HI := hid (indexB_any (some ⟨g, 0, none⟩) n c B O bx w hn (by omega) (boxL_own hown) hB hb)
 have hnc : n ≤ c ∧ c ≤ maxLen := by
  rcases hown.2 with ⟨e, _⟩ | ⟨g', c', cur, e, _, _, q1, q2, _, _⟩
  ·cases e
  ·cases e; exact ⟨q1, q2⟩
 obtain ⟨hnc, hcm⟩ := hnc
 unfold maxLen at hcm
 have HO := hid hown
 have HN := hid hn
 have HB := hid hb
 have hgl := (hown.lt g rfl).2
 clear hown hn hb
 go_enter Tryz.func137, Tryz.ntmps137
 go_wp2_with fail
 refine HI.out.mono ?_
 rintro e w1 ⟨⟨r, rfl, hr⟩, h1⟩
 have H1 := hid h1
 have hz1 := h1.size
 clear h1
 rcases hr with ⟨rfl, hall⟩ | ⟨k, rfl, ⟨x, hx, hxe⟩, hno⟩
 ·have HA := hid (strikeX_all hall)
  clear hall
  go_wp2_with fail
  go_ret
  refine ⟨⟨_, rfl, ?_, rfl⟩, ⟨H1.out.os, H1.out.tape, H1.out.output, H1.out.size, fun k hk _ => H1.out.block k hk⟩⟩
  rw [HA.out, ← HN.out]
  exact owns_below HO.out H1.out
 ·have hkn : k < n := by have := (List.getElem?_eq_some_iff.1 hx).1; have := HN.out; omega
  have HF := hid (Strk.first hx hxe hno)
  clear hx hxe hno
  have hk1 : ¬ ((k : Int) = -1) := by omega
  go_wp2_with fail
  go_loopw [5, 6] (fun i j wr => ∃ (i0 j0 : Nat) (R : List B5), i = .int .i64 i0 ∧ j = .int .i64 j0 ∧ i0 < j0 ∧ j0 ≤ n ∧ Hid (Strk O R bx i0 j0) ∧ Hid (wr.ownsRow base 36 5 (.slice (some ⟨g, 0, none⟩) n c) n (R.flatMap boxCells)) ∧ Hid (w.grownBy wr (some g))) (fun _ j _ => n - (intOf j).toNat)
  case atStart =>
   exact ⟨k, k + 1, O, rfl, by go_num, by omega, by omega, HF, hid (owns_below HO.out H1.out), hid ⟨H1.out.os, H1.out.tape, H1.out.output, H1.out.size, fun k hk _ => H1.out.block k hk⟩⟩
  case round =>
   obtain ⟨i, j, R, rfl, rfl, hij, hjn, hst, hrow, hgr⟩ := hrel
   have hzr := hgr.out.size
   by_cases hlt : j < n
   ·obtain ⟨x, hx⟩ : ∃ x, O[j]? = some x := ⟨_, List.getElem?_eq_getElem (by have := HN.out; omega)⟩
    obtain ⟨c0, c1, c2, c3, c4⟩ := box_at hrow.out (hst.out.at hx)
    have HX := hid hx
    clear hx
    obtain ⟨xi, xx1, xy1, xx2, xy2⟩ := x
    simp only at c0 c1 c2 c3 c4
    have hBw : wr.cell? ⟨B, 1, none⟩ = some (.int .i64 bx) := (World.cell?_of_block (a := ⟨B, 1, none⟩) (hgr.out.block B hB (by simp; omega))).trans HB.out
    have HE := hid (ends_any xi xx1 xy1 xx2 xy2 bx B (wr.alloc (.cells #[.int .i64 xi, .int .i64 xx1, .int .i64 xy1, .int .i64 xx2, .int .i64 xy2] 36)) (by simp; omega) (Lib.cell?_alloc_some _ hBw))
    clear hBw
    have hjn' : (j : Int) < (n : Int) := by omega
    have hin' : (i : Int) < (n : Int) := by omega
    by_cases he : xx2 ≤ bx
    ·rw [decide_eq_true he] at HE
     go_wp2_with (go_at_call 138; refine HE.out.mono ?_; rintro e w2 ⟨rfl, h2⟩; have H2 := hid h2; clear h2)
     go_roundw
     case rel =>
      refine ⟨_, _, _, _, _, _, _, _, _, _, _, _, _, _, _, _, _, _, _, _, _, _, _, ⟨i, j + 1, R, rfl, by go_num, by omega, by omega, hid (hst.out.out (by have := HN.out; omega) HX.out (by show ¬ bx < xx2; omega)), hid (owns_below (hrow.out.alloc _) H2.out), hid ?_⟩, rfl⟩
      exact grown_trans hgr.out (grown_trans (World.grownBy_alloc wr _ _) ⟨H2.out.os, H2.out.tape, H2.out.output, H2.out.size, fun k hk _ => H2.out.block k hk⟩)
     case measure => simp [intOf]; omega
    ·rw [decide_eq_false he] at HE
     obtain ⟨y, hy⟩ : ∃ y, R[i]? = some y := ⟨_, List.getElem?_eq_getElem (by have := HN.out; have := hst.out.len; omega)⟩
     go_wp2_with (go_at_call 138; refine HE.out.mono ?_; rintro e w2 ⟨rfl, h2⟩; have H2 := hid h2; have HR2 := hid (owns_below (hrow.out.alloc _) h2); obtain ⟨v0, v1, v2, v3, v4⟩ := vbox h2; obtain ⟨o0, o1, o2, o3, o4⟩ := box_at HR2.out hy; have f0 := HR2.out.frozenAt (i * 5); have f1 := HR2.out.frozenAt (i * 5 + 1); have f2 := HR2.out.frozenAt (i * 5 + 2); have f3 := HR2.out.frozenAt (i * 5 + 3); have f4 := HR2.out.frozenAt (i * 5 + 4); clear h2 c0 c1 c2 c3 c4)
     go_roundw
     case rel =>
      refine ⟨_, _, _, _, _, _, _, _, _, _, _, _, _, _, _, _, _, _, _, _, _, _, _, ⟨i + 1, j + 1, R.set i ⟨xi, xx1, xy1, xx2, xy2⟩, by go_num, by go_num, by omega, by omega, hid (hst.out.keep (by have := HN.out; omega) HX.out (by show bx < xx2; omega)), hid ?_, hid ?_⟩, rfl⟩
      ·exact box_write (W := w2) ⟨xi, xx1, xy1, xx2, xy2⟩ (by have := HN.out; have := hst.out.len; omega) HR2.out
      ·exact grown_trans hgr.out (grown_trans (World.grownBy_alloc wr _ _) (grown_trans ⟨H2.out.os, H2.out.tape, H2.out.output, H2.out.size, fun k hk _ => H2.out.block k hk⟩ (grown_setB5 w2 g i ⟨xi, xx1, xy1, xx2, xy2⟩)))
     case measure => simp [intOf]; omega
   ·have hjn2 : j = n := by omega
    have hin : i < n := by omega
    have HP := hid (owns_part hrow.out (Nat.le_of_lt hin))
    have hci : ¬ (c = i) := by omega
    have hii : (i : Int) ≤ (n : Int) := by omega
    have hic : (i : Int) ≤ (c : Int) := by omega
    have hncI : (n : Int) ≤ (c : Int) := by omega
    obtain ⟨w3, hrun, hw3, hg3⟩ := clear_runM (P := Tryz.prog) 48 0 base 36 (.agg #[.int .i64 0, .int .i64 0, .int .i64 0, .int .i64 0, .int .i64 0]) 5 40 Tryz.underlying48 info70 rfl (by decide) (by decide) g i c (n - i) (c - i) _ HP.out (by omega) (by omega)
    have HW := hid hw3
    have HG3 := hid hg3
    clear hw3 hg3
    go_wp2_with fail
    go_ret
    have hk := hst.out.kept
    have hO : O.take j = O := by rw [hjn2, HN.out]; exact List.take_length
    rw [hO] at hk
    have hlen : (strikeX O bx).length = i := by rw [← hk, List.length_take]; have := hst.out.len; have := HN.out; omega
    refine ⟨⟨_, rfl, ?_, rfl⟩, grown_trans hgr.out HG3.out⟩
    have h3 := HW.out
    rw [flat_take boxCells 5 (fun _ => rfl) R i (by have := hst.out.len; have := HN.out; omega), hk] at h3
    rw [hlen]
    exact h3
end Sw
namespace Sw
open Go.ChangeShapes Go.WideShapes Go.ChangeAt Go.RowKit Go.Sort Go.Shelf Go.Lib
theorem deleteB_nil (B : Nat) (bx : Int) (w : World) (hB : B < w.heap.size) (hb : w.cell? ⟨B, 1, none⟩ = some (.int .i64 bx)) :
  Calls Tryz.prog 137 #[.slice none 0 0, .func (.func 138) #[] #[.pointer (some ⟨B, 0, none⟩)]] w fun e w' => e = .returned (.slice none 0 0) ∧ RowKit.Below w.heap.size w w' := by
 have HI := hid (indexB_any none 0 0 B [] bx w rfl (by omega) (fun h => absurd h (Nat.lt_irrefl _)) hB hb)
 clear hb
 go_enter Tryz.func137, Tryz.ntmps137
 go_wp2_with fail
 refine HI.out.mono ?_
 rintro e w1 ⟨⟨r, rfl, hr⟩, h1⟩
 have H1 := hid h1
 clear h1
 rcases hr with ⟨rfl, _⟩ | ⟨k, _, ⟨x, hx, _⟩, _⟩
 ·go_wp2_with fail
  go_ret
  exact ⟨rfl, H1.out⟩
 ·simp at hx
theorem owns_slice {w : World} {B size n : Nat} {e : TypeId} {v : Value} {xs : List Value} (h : w.ownsRow B e size v n xs) : ∃ a c, v = .slice a n c ∧ (0 < n → ∃ g, a = some ⟨g, 0, none⟩) := by
 rcases h.2 with ⟨rfl, rfl⟩ | ⟨g, c, cur, rfl, _⟩
 ·exact ⟨none, 0, rfl, fun h => absurd h (Nat.lt_irrefl _)⟩
 ·exact ⟨_, c, rfl, fun _ => ⟨g, rfl⟩⟩
theorem deleteB_call (base n B : Nat) (v : Value) (O : List B5) (bx : Int) (w : World) (hn : n = O.length) (hz : n ≤ 1000000000) (hown : w.ownsRow base 36 5 v n (O.flatMap boxCells)) (hB : B < w.heap.size) (hBg : v.ownBlock ≠ some B) (hb : w.cell? ⟨B, 1, none⟩ = some (.int .i64 bx)) :
  Calls Tryz.prog 137 #[v, .func (.func 138) #[] #[.pointer (some ⟨B, 0, none⟩)]] w fun e w' =>
   (∃ a c, e = .returned (.slice a (strikeX O bx).length c) ∧ w'.ownsRow base 36 5 (.slice a (strikeX O bx).length c) (strikeX O bx).length ((strikeX O bx).flatMap boxCells)) ∧ w.grownBy w' v.ownBlock := by
 rcases hown.2 with ⟨rfl, h0⟩ | ⟨g, c, cur, rfl, _⟩
 ·refine (deleteB_nil B bx w hB hb).mono ?_
  rintro e w' ⟨rfl, h1⟩
  have hl0 : O = [] := List.length_eq_zero_iff.1 (by omega)
  subst hl0
  exact ⟨⟨none, 0, rfl, ⟨rfl, Or.inl ⟨rfl, rfl⟩⟩⟩, h1.os, h1.tape, h1.output, h1.size, fun k hk _ => h1.block k hk⟩
 ·refine (deleteB_row base g n c B O bx w hn hz hown hB (fun e => hBg (by rw [e]; rfl)) hb).mono ?_
  rintro e w' ⟨⟨v', rfl, h1, h2⟩, h3⟩
  obtain ⟨a, c', rfl, _⟩ := owns_slice h1
  exact ⟨⟨a, c', rfl, h1⟩, h3⟩
def prI (a b : Int) : Int × Int := (if a ≤ b then a else b, if a ≤ b then b else a)
theorem pairI_any (a b : Int) (w : World) :
  Calls Tryz.prog 139 #[.int .i64 a, .int .i64 b] w fun e w' => e = .returned (.agg #[.int .i64 (prI a b).1, .int .i64 (prI a b).2]) ∧ RowKit.Below w.heap.size w w' := pair_any a b w
theorem owns_box (w : World) (x : B5) (base : Nat) (hb : base ≤ w.heap.size) : (w.alloc (.cells #[.int .i64 x.id, .int .i64 x.x1, .int .i64 x.y1, .int .i64 x.x2, .int .i64 x.y2] 36)).ownsRow base 36 5 (.slice (some ⟨w.heap.size, 0, none⟩) 1 1) 1 (boxCells x) :=
 ⟨rfl, Or.inr ⟨w.heap.size, 1, #[.int .i64 x.id, .int .i64 x.x1, .int .i64 x.y1, .int .i64 x.x2, .int .i64 x.y2], rfl, hb, by first | (simp; done) | exact Array.getElem?_push_size, Nat.le_refl _, by decide, rfl, rfl⟩⟩
theorem box_one {w : World} {B g c : Nat} {x : B5} (h : w.ownsRow B 36 5 (.slice (some ⟨g, 0, none⟩) 1 c) 1 (boxCells x)) :
  w.cell? ⟨g, 0, none⟩ = some (.int .i64 x.id) ∧ w.cell? ⟨g, 1, none⟩ = some (.int .i64 x.x1) ∧ w.cell? ⟨g, 2, none⟩ = some (.int .i64 x.y1) ∧
  w.cell? ⟨g, 3, none⟩ = some (.int .i64 x.x2) ∧ w.cell? ⟨g, 4, none⟩ = some (.int .i64 x.y2) :=
 ⟨h.cellAt 0 (by omega), h.cellAt 1 (by omega), h.cellAt 2 (by omega), h.cellAt 3 (by omega), h.cellAt 4 (by omega)⟩
theorem apart_kind {w : World} {B B' s s' n n' : Nat} {e e' : TypeId} {v v' : Value} {xs xs' : List Value} (h : w.ownsRow B e s v n xs) (h' : w.ownsRow B' e' s' v' n' xs') (hne : e ≠ e') : ∀ g, v.ownBlock = some g → v'.ownBlock ≠ some g := by
 intro g hg hg'
 rcases h.2 with ⟨rfl, _⟩ | ⟨g1, c1, cur1, rfl, _, hb1, _⟩
 ·cases hg
 ·rcases h'.2 with ⟨rfl, _⟩ | ⟨g2, c2, cur2, rfl, _, hb2, _⟩
  ·cases hg'
  ·simp [Value.ownBlock] at hg hg'
   subst hg hg'
   rw [hb1] at hb2
   cases hb2
   exact hne rfl
end Sw
namespace Sw
open Go.ChangeShapes Go.WideShapes Go.ChangeAt Go.RowKit Go.Sort Go.Shelf Go.Lib
def pairsG (l : List B5) : List (Int × Int) := if goodB l then sortP (pairsOf l) else []
theorem take_snoc {l : List B5} {k : Nat} {x : B5} (hx : l[k]? = some x) : l.take (k + 1) = l.take k ++ [x] := by
 have hlt : k < l.length := (List.getElem?_eq_some_iff.1 hx).1
 rw [List.take_succ_eq_append_getElem hlt, (List.getElem?_eq_some_iff.1 hx).2]
theorem left_take {l : List B5} (h : Left l) {k : Nat} {x : B5} (hx : l[k]? = some x) : ∀ c ∈ l.take k, c.x1 ≤ x.x1 := by
 intro c hc
 obtain ⟨i, hi⟩ := List.mem_iff_getElem?.1 hc
 have hik : i < k := by have := (List.getElem?_eq_some_iff.1 hi).1; simp at this; omega
 rw [List.getElem?_take_of_lt hik] at hi
 have hlt : k < l.length := (List.getElem?_eq_some_iff.1 hx).1
 have := (List.pairwise_iff_getElem.1 h) i k (by omega) hlt hik
 rw [(List.getElem?_eq_some_iff.1 hi).2, (List.getElem?_eq_some_iff.1 hx).2] at this
 exact this
theorem sw_snoc {D : List B5} {q : Nat} {y b : B5} (hy : D[q]? = some y) : sw (D.take (q + 1)) b = sw (D.take q) b ++ (if meetB y b then [prI y.id b.id] else []) := by
 rw [take_snoc hy]
 unfold sw
 rw [List.filter_append, List.map_append]
 cases h : meetB y b <;> simp [h, pr, prI]
theorem owns_addr {w : World} {B size n c : Nat} {e : TypeId} {a : Option Addr} {xs : List Value} (h : w.ownsRow B e size (.slice a n c) n xs) : 0 < n → ∃ g, a = some ⟨g, 0, none⟩ := by
 obtain ⟨a', c', e, h'⟩ := owns_slice h
 cases e
 exact h'
def metQ (D S : List B5) (x : B5) (q : Nat) : List (Int × Int) := pairsOf D ++ sw (S.take q) x
theorem metQ_zero (D S : List B5) (x : B5) : metQ D S x 0 = pairsOf D := by simp [metQ, sw]
theorem metQ_not {D S : List B5} {x y : B5} {q : Nat} (hy : S[q]? = some y) (h : meetB y x = false) : metQ D S x (q + 1) = metQ D S x q := by
 unfold metQ
 rw [sw_snoc hy, h]
 simp
theorem metQ_met {D S : List B5} {x y : B5} {q : Nat} (hy : S[q]? = some y) (h : meetB y x = true) : metQ D S x (q + 1) = metQ D S x q ++ [prI y.id x.id] := by
 unfold metQ
 rw [sw_snoc hy, h]
 simp
theorem metQ_len (D S : List B5) (x : B5) (q : Nat) (k : Nat) (hD : D.length ≤ k) (hS : S.length ≤ k) (hk : k ≤ 1000000) : (metQ D S x q).length ≤ 1000001000000 := by
 unfold metQ
 have h1 := pairsOf_len D
 have h2 := sw_len (S.take q) x
 have h3 : D.length * D.length ≤ 1000000 * 1000000 := Nat.mul_le_mul (by omega) (by omega)
 have h4 : (S.take q).length ≤ S.length := by simp [List.length_take]; omega
 rw [List.length_append]
 omega
theorem metQ_end {D S : List B5} {x : B5} (h : sw S x = sw D x) : metQ D S x S.length = pairsOf (D ++ [x]) := by
 rw [metQ, List.take_length, h, pairsOf_snoc]
set_option maxHeartbeats 8000000 in
set_option maxRecDepth 100000 in
theorem pairs_any (a : Option Addr) (n cap : Nat) (l : List B5) (w : World) (hn : n = l.length) (hz : n ≤ 1000000) (ha : a = none → n = 0) (hB : BoxL w a l) :
  Calls Tryz.prog 116 #[.slice a n cap] w fun e w' => (∃ v, e = .returned v ∧ w'.ownsRow w.heap.size 54 2 v (pairsG l).length ((pairsG l).flatMap pairCells)) ∧ RowKit.Below w.heap.size w w' := by
 have HG := hid (good_any a n cap l w hn (by omega) hB)
 have HF := hid (fun w1 (h : RowKit.Below w.heap.size w w1) => fromLeft_any a n cap l w1 hn (by omega) ha (hB.below h))
 have HN := hid hn
 clear hn hB ha
 obtain ⟨i70, hi70, hz70, hs70, hb70⟩ := info_parts info70
 obtain ⟨i79, hi79, hz79, hs79, hb79⟩ := info_parts info79
 go_enter Tryz.func116, Tryz.ntmps116
 cases hq : goodB l
 ·rw [hq] at HG
  have HP : Hid (pairsG l = []) := by simp [Hid, pairsG, hq]
  go_wp2_with (go_at_call 69; refine HG.out.mono ?_; rintro e w1 ⟨rfl, h1⟩; have H1 := hid h1; clear h1)
  go_ret
  exact ⟨⟨_, rfl, by rw [HP.out]; exact ⟨rfl, Or.inl ⟨rfl, rfl⟩⟩⟩, H1.out⟩
 ·rw [hq] at HG
  have HP : Hid (pairsG l = sortP (pairsOf l)) := by simp [Hid, pairsG, hq]
  go_wp2_with (go_at_call 69; refine HG.out.mono ?_; rintro e w1 ⟨rfl, h1⟩; have H1 := hid h1; clear h1)
  refine (HF.out _ H1.out).mono ?_
  rintro e wf ⟨⟨vl, rfl, l', hperm, hleft, hrow⟩, h2⟩
  obtain ⟨al, cl, rfl, hal⟩ := owns_slice hrow
  have HR := hid hrow
  have H2 := hid h2
  have HPE := hid hperm
  have HLE := hid hleft
  have HNL : Hid (n = l'.length) := hid (by rw [HN.out]; exact hperm.length_eq.symm)
  have HAL := hid hal
  have hzf : w.heap.size ≤ wf.heap.size := Nat.le_trans H1.out.size h2.size
  clear hrow h2 hperm hleft hal
  go_wp2_with fail
  go_loopw [3, 4, 15] (fun m o i wr => ∃ (k : Nat) (Op : List B5), k ≤ n ∧ i = .int .i64 k ∧ Hid (wr.ownsRow wf.heap.size 54 2 m (pairsOf (l'.take k)).length ((pairsOf (l'.take k)).flatMap pairCells)) ∧ Hid (wr.ownsRow wf.heap.size 36 5 o Op.length (Op.flatMap boxCells)) ∧ Op.length ≤ k ∧ Hid (OpenIs (l'.take k) Op) ∧ Hid (RowKit.Below wf.heap.size wf wr)) (fun _ _ i _ => n - (intOf i).toNat)
  case atStart => exact ⟨0, [], Nat.zero_le _, rfl, hid (World.ownsRow_nil _ _ _ _), hid (World.ownsRow_nil _ _ _ _), Nat.zero_le _, hid openIs_nil, hid (Below.refl _ _)⟩
  case round =>
   obtain ⟨k, Op, hk, rfl, hmet, hopen, hol, hois, hbl⟩ := hrel
   have hzr := hbl.out.size
   by_cases hlt : k < n
   ·obtain ⟨x, hx⟩ : ∃ x, l'[k]? = some x := ⟨_, List.getElem?_eq_getElem (by have := HNL.out; omega)⟩
    obtain ⟨gl, rfl⟩ := HAL.out (by omega)
    obtain ⟨c0, c1, c2, c3, c4⟩ := box_at (owns_below HR.out hbl.out) hx
    have HX := hid hx
    clear hx
    obtain ⟨xi, xx1, xy1, xx2, xy2⟩ := x
    simp only at c0 c1 c2 c3 c4
    have HBX := hid (owns_box wr ⟨xi, xx1, xy1, xx2, xy2⟩ wf.heap.size hzr)
    have HD := hid (deleteB_call wf.heap.size Op.length wr.heap.size u4 Op xx1 (wr.alloc (.cells #[.int .i64 xi, .int .i64 xx1, .int .i64 xy1, .int .i64 xx2, .int .i64 xy2] 36)) rfl (by omega) (hopen.out.alloc _) (by simp) (fun e => by have := (hopen.out.lt _ e).2; omega) (box_one HBX.out).2.1)
    obtain ⟨S, hS⟩ : ∃ S, strikeX Op xx1 = S := ⟨_, rfl⟩
    have HSW : Hid (sw S ⟨xi, xx1, xy1, xx2, xy2⟩ = sw (l'.take k) ⟨xi, xx1, xy1, xx2, xy2⟩) := hid (by rw [← hS]; exact strike_sw hois.out (left_take HLE.out HX.out))
    have HOI : Hid (OpenIs (l'.take (k + 1)) (S ++ [⟨xi, xx1, xy1, xx2, xy2⟩])) := hid (by rw [← hS, take_snoc HX.out]; exact openIs_step hois.out)
    have hSl : S.length ≤ k := by rw [← hS]; exact Nat.le_trans (List.length_filter_le _ _) hol
    rw [hS] at HD
    clear hS hois
    go_wp2_with fail
    refine HD.out.mono ?_
    rintro e w2 ⟨⟨ao, co, rfl, ho2⟩, hg2⟩
    have HO2 := hid ho2
    have HAO := hid (owns_addr ho2)
    have HBX2 := hid (owns_kept HBX.out hg2 (fun g hg e => by simp [Value.ownBlock] at hg; have := (hopen.out.lt _ e).2; omega))
    have HM2 := hid (owns_kept (hmet.out.alloc (.cells #[.int .i64 xi, .int .i64 xx1, .int .i64 xy1, .int .i64 xx2, .int .i64 xy2] 36)) hg2 (apart_kind hmet.out hopen.out (by decide)))
    have HBL2 := hid ((bal hbl.out (.cells #[.int .i64 xi, .int .i64 xx1, .int .i64 xy1, .int .i64 xx2, .int .i64 xy2] 36)).grown hg2 (by simp; omega) (fun q hq => (hopen.out.lt q hq).1))
    have hz2 : wr.heap.size < w2.heap.size := by have := hg2.size; simp at this; omega
    clear ho2 hg2 c0 c1 c2 c3 c4 hmet hopen hbl HBX HD
    generalize hbb : wr.heap.size = bb at HBX2 hz2 hzr ⊢
    clear hbb
    go_wp2_with fail
    go_loopw [3, 24] (fun m q wr2 => ∃ q0 : Nat, q0 ≤ S.length ∧ q = .int .i64 q0 ∧ Hid (wr2.ownsRow wf.heap.size 54 2 m (metQ (l'.take k) S ⟨xi, xx1, xy1, xx2, xy2⟩ q0).length ((metQ (l'.take k) S ⟨xi, xx1, xy1, xx2, xy2⟩ q0).flatMap pairCells)) ∧ Hid (wr2.ownsRow wf.heap.size 36 5 (.slice ao S.length co) S.length (S.flatMap boxCells)) ∧ Hid (wr2.ownsRow wf.heap.size 36 5 (.slice (some ⟨bb, 0, none⟩) 1 1) 1 (boxCells ⟨xi, xx1, xy1, xx2, xy2⟩)) ∧ Hid (RowKit.Below wf.heap.size wf wr2) ∧ bb < wr2.heap.size) (fun _ q _ => S.length - (intOf q).toNat)
    case atStart => exact ⟨0, Nat.zero_le _, rfl, by rw [metQ_zero]; exact HM2, HO2, HBX2, HBL2, hz2⟩
    case round =>
     obtain ⟨q, hq', rfl, hm, hop, hbx, hb2, hsz⟩ := hrel
     by_cases hql : q < S.length
     ·obtain ⟨y, hy⟩ : ∃ y, S[q]? = some y := ⟨_, List.getElem?_eq_getElem hql⟩
      obtain ⟨go, rfl⟩ := HAO.out (by omega)
      obtain ⟨d0, d1, d2, d3, d4⟩ := box_at hop.out hy
      obtain ⟨b0, b1, b2, b3, b4⟩ := box_one hbx.out
      have HY := hid hy
      clear hy
      obtain ⟨yi, yx1, yy1, yx2, yy2⟩ := y
      simp only at d0 d1 d2 d3 d4 b0 b1 b2 b3 b4
      have HMT := hid (meet_any yi yx1 yy1 yx2 yy2 xi xx1 xy1 xx2 xy2 (wr.alloc (.cells #[.int .i64 yi, .int .i64 yx1, .int .i64 yy1, .int .i64 yx2, .int .i64 yy2] 36)))
      cases hmt : meetB ⟨yi, yx1, yy1, yx2, yy2⟩ ⟨xi, xx1, xy1, xx2, xy2⟩
      ·rw [hmt] at HMT
       have HQ := hid (metQ_not (D := l'.take k) HY.out hmt)
       clear hmt
       go_wp2_with (go_at_call 70; refine HMT.out.mono ?_; rintro e w3 ⟨rfl, h3⟩; have H3 := hid h3; clear h3)
       go_roundw
       case rel =>
        refine ⟨q + 1, by omega, by go_num, ?_, hid (owns_below (hop.out.alloc _) H3.out), hid (owns_below (hbx.out.alloc _) H3.out), hid (bcall (bal hb2.out _) H3.out), by have := H3.out.size; simp at this; omega⟩
        rw [HQ.out]
        exact hid (owns_below (hm.out.alloc _) H3.out)
       case measure => simp [intOf]; omega
      ·rw [hmt] at HMT
       have HQ := hid (metQ_met (D := l'.take k) HY.out hmt)
       clear hmt
       have hml := metQ_len (l'.take k) S ⟨xi, xx1, xy1, xx2, xy2⟩ q k (by rw [List.length_take]; omega) hSl (by omega)
       go_wp2_with (go_at_call 70; refine HMT.out.mono ?_; rintro e w3 ⟨rfl, h3⟩; have H3 := hid h3; obtain ⟨v0, v1, v2, v3, v4⟩ := vbox h3; have HB3 := hid (owns_below (hbx.out.alloc _) h3); obtain ⟨e0, e1, e2, e3, e4⟩ := box_one HB3.out; clear h3 v1 v2 v3 v4 e1 e2 e3 e4 d0 d1 d2 d3 d4 b0 b1 b2 b3 b4)
       refine (pairI_any _ _ _).mono ?_
       rintro e w4 ⟨rfl, h4⟩
       have H4 := hid h4
       have HM4 := hid (owns_below (owns_below (hm.out.alloc (.cells #[.int .i64 yi, .int .i64 yx1, .int .i64 yy1, .int .i64 yx2, .int .i64 yy2] 36)) H3.out) h4)
       have HO4 := hid (owns_below (owns_below (hop.out.alloc (.cells #[.int .i64 yi, .int .i64 yx1, .int .i64 yy1, .int .i64 yx2, .int .i64 yy2] 36)) H3.out) h4)
       have HB4 := hid (owns_below HB3.out h4)
       have HL4 := hid (bcall (bcall (bal hb2.out (.cells #[.int .i64 yi, .int .i64 yx1, .int .i64 yy1, .int .i64 yx2, .int .i64 yy2] 36)) H3.out) h4)
       have hz4 : wr.heap.size < w4.heap.size := by have := H3.out.size; have := h4.size; simp at *; omega
       clear h4 e0 v0
       go_wp2_with (at_builtin; refine wpList_append_own _ rfl _ _ 29 rfl wf.heap.size 54 i79 (.agg #[.int .i64 0, .int .i64 0]) 2 16 Tryz.underlying29 hi79 hz79 hs79 hb79 rfl (by decide) _ _ _ rfl (HM4.out.alloc _) ⟨w4.heap.size, 0, none⟩ 1 1 [.int .i64 (prI yi xi).1, .int .i64 (prI yi xi).2] rfl ?c1 ?c2 ?c3 ?c4 ?c5 ?c6 ?_)
       case c1 => rfl
       case c2 =>
        intro j u hj
        match j, hj with
        | 0, hj => cases hj; simp [Addr.add]
        | 1, hj => cases hj; simp [Addr.add]
       case c3 => intro u hu; simp at hu; rcases hu with rfl | rfl <;> rfl
       case c4 => unfold maxLen; omega
       case c5 => omega
       case c6 => simp; have := HL4.out.size; omega
       intro v' w5 hown5 hg5 _
       have HO5 := hid hown5
       have HG5 := hid hg5
       clear hown5 hg5
       go_wp2_with fail
       go_roundw
       case rel =>
        refine ⟨q + 1, by omega, by go_num, ?_, hid (owns_kept (HO4.out.alloc _) HG5.out (apart_kind HO4.out HM4.out (by decide))), hid (owns_kept (HB4.out.alloc _) HG5.out (apart_kind HB4.out HM4.out (by decide))), hid ((bal HL4.out _).grown HG5.out (by simp; have := HL4.out.size; omega) (fun q hq => (HM4.out.lt q hq).1)), by have := HG5.out.size; simp at this; omega⟩
        have h5 := HO5.out
        rw [HQ.out, List.length_append, List.flatMap_append]
        exact hid h5
       case measure => simp [intOf]; omega
     ·have hqe : q = S.length := by omega
      obtain ⟨b0, b1, b2, b3, b4⟩ := box_one hbx.out
      simp only at b0 b1 b2 b3 b4
      go_wp2_with (at_builtin; refine wpList_append_own _ rfl _ _ 48 rfl wf.heap.size 36 i70 (.agg #[.int .i64 0, .int .i64 0, .int .i64 0, .int .i64 0, .int .i64 0]) 5 40 Tryz.underlying48 hi70 hz70 hs70 hb70 rfl (by decide) _ _ _ rfl (hop.out.alloc _) ⟨wr.heap.size, 0, none⟩ 1 1 [.int .i64 xi, .int .i64 xx1, .int .i64 xy1, .int .i64 xx2, .int .i64 xy2] rfl ?c1 ?c2 ?c3 ?c4 ?c5 ?c6 ?_)
      case c1 => rfl
      case c2 =>
       intro j u hj
       match j, hj with
       | 0, hj => cases hj; simp [Addr.add]
       | 1, hj => cases hj; simp [Addr.add]
       | 2, hj => cases hj; simp [Addr.add]
       | 3, hj => cases hj; simp [Addr.add]
       | 4, hj => cases hj; simp [Addr.add]
      case c3 => intro u hu; simp at hu; rcases hu with rfl | rfl | rfl | rfl | rfl <;> rfl
      case c4 => unfold maxLen; omega
      case c5 => omega
      case c6 => simp; have := hb2.out.size; omega
      intro v' w5 hown5 hg5 _
      have HO5 := hid hown5
      have HG5 := hid hg5
      clear hown5 hg5
      go_wp2_with fail
      refine ⟨⟨k + 1, S ++ [⟨xi, xx1, xy1, xx2, xy2⟩], by omega, by go_num, ?_, ?_, by simp; omega, HOI, hid ((bal hb2.out _).grown HG5.out (by simp; have := hb2.out.size; omega) (fun q hq => (hop.out.lt q hq).1))⟩, by simp [intOf]; omega⟩
      ·have h := owns_kept (hm.out.alloc _) HG5.out (apart_kind hm.out hop.out (by decide))
       rw [hqe, metQ_end HSW.out, ← take_snoc HX.out] at h
       exact hid h
      ·have h5 := HO5.out
       rw [List.length_append, List.flatMap_append]
       exact hid h5
   ·have hkn : k = n := by omega
    have HT : Hid (l'.take k = l') := hid (by rw [hkn, HNL.out]; exact List.take_length)
    have HS := hid (sortP_call wf.heap.size _ u3 (pairsOf (l'.take k)) wr rfl (by
     have h1 := pairsOf_len (l'.take k)
     have h2 : (l'.take k).length ≤ 1000000 := by rw [List.length_take]; omega
     have h3 : (l'.take k).length * (l'.take k).length ≤ 1000000 * 1000000 := Nat.mul_le_mul h2 h2
     omega) hmet.out)
    go_wp2_with fail
    refine HS.out.mono ?_
    rintro e w2 ⟨rfl, h2, h3⟩
    have H3 := hid h2
    have H4 := hid h3
    clear h2 h3
    go_wp2_with fail
    go_ret
    refine ⟨⟨_, rfl, ?_⟩, ?_⟩
    ·rw [HP.out, sortP_len, sortP_eq (pairsOf_perm HPE.out.symm), (pairsOf_perm HPE.out.symm).length_eq]
     have h := H3.out
     rw [HT.out] at h
     exact owns_mono h hzf
    ·exact (bcall (bcall H1.out H2.out) hbl.out).grown H4.out (by omega) (fun q hq => by have := (hmet.out.lt q hq).1; omega)
end Sw
namespace Sw
open Go.ChangeShapes Go.WideShapes Go.ChangeAt Go.RowKit Go.Sort Go.Shelf Go.Lib
def lookL (l : List B5) (b : B5) : List Int := (l.filter (fun o => meetB o b)).map (·.id)
def lookP (l : List B5) (b : B5) : List Int := if goodB l then sortI (lookL l b) else []
theorem lookL_len (l : List B5) (b : B5) : (lookL l b).length ≤ l.length := by
 unfold lookL
 rw [List.length_map]
 exact List.length_filter_le _ _
theorem lookL_not {l : List B5} {k : Nat} {x b : B5} (hx : l[k]? = some x) (h : meetB x b = false) : lookL (l.take (k + 1)) b = lookL (l.take k) b := by
 have hlt : k < l.length := (List.getElem?_eq_some_iff.1 hx).1
 rw [List.take_succ_eq_append_getElem hlt, (List.getElem?_eq_some_iff.1 hx).2]
 simp [lookL, h]
theorem lookL_met {l : List B5} {k : Nat} {x b : B5} (hx : l[k]? = some x) (h : meetB x b = true) : lookL (l.take (k + 1)) b = lookL (l.take k) b ++ [x.id] := by
 have hlt : k < l.length := (List.getElem?_eq_some_iff.1 hx).1
 rw [List.take_succ_eq_append_getElem hlt, (List.getElem?_eq_some_iff.1 hx).2]
 simp [lookL, h]
set_option maxHeartbeats 2000000 in
set_option maxRecDepth 100000 in
theorem look_any (a : Option Addr) (n cap : Nat) (l : List B5) (b : B5) (w : World) (hn : n = l.length) (hz : n ≤ 1000000) (hB : BoxL w a l) :
  Calls Tryz.prog 40 #[.slice a n cap, .agg #[.int .i64 b.id, .int .i64 b.x1, .int .i64 b.y1, .int .i64 b.x2, .int .i64 b.y2]] w fun e w' => (∃ u, e = .returned u ∧ w'.ownsRow w.heap.size 3 1 u (lookP l b).length ((lookP l b).map (Value.int .i64))) ∧ RowKit.Below w.heap.size w w' := by
 obtain ⟨bi, bx1, by1, bx2, by2⟩ := b
 simp only
 obtain ⟨i0, hi, hz0, hz1, hz2⟩ := info_parts info3
 have hB1 : BoxL (w.alloc (.cells #[.int .i64 bi, .int .i64 bx1, .int .i64 by1, .int .i64 bx2, .int .i64 by2] 36)) a l := by
  intro hp
  obtain ⟨b, off, rfl, hb, hc⟩ := hB hp
  refine ⟨b, off, rfl, by simp; omega, fun i x hx => ?_⟩
  have kk := fun o => (bal (Below.refl _ w) (.cells #[.int .i64 bi, .int .i64 bx1, .int .i64 by1, .int .i64 bx2, .int .i64 by2] 36)).cell (p := ⟨b, o, none⟩) hb
  simp only [kk]
  exact hc i x hx
 have HG := hid (good_any a n cap l (w.alloc (.cells #[.int .i64 bi, .int .i64 bx1, .int .i64 by1, .int .i64 bx2, .int .i64 by2] 36)) hn (by omega) hB1)
 have HB := hid hB
 have HN := hid hn
 clear hB hB1 hn
 have HBX := hid (owns_box w ⟨bi, bx1, by1, bx2, by2⟩ w.heap.size (Nat.le_refl _))
 go_enter Tryz.func40, Tryz.ntmps40
 cases hq : goodB l
 ·rw [hq] at HG
  have HP : Hid (lookP l ⟨bi, bx1, by1, bx2, by2⟩ = []) := by simp [Hid, lookP, hq]
  go_wp2_with (go_at_call 69; refine HG.out.mono ?_; rintro e w1 ⟨rfl, h1⟩; have H1 := hid h1; clear h1)
  go_ret
  exact ⟨⟨_, rfl, by rw [HP.out]; exact ⟨rfl, Or.inl ⟨rfl, rfl⟩⟩⟩, bcall (bal (Below.refl _ w) _) H1.out⟩
 ·rw [hq] at HG
  have HP : Hid (lookP l ⟨bi, bx1, by1, bx2, by2⟩ = sortI (lookL l ⟨bi, bx1, by1, bx2, by2⟩)) := by simp [Hid, lookP, hq]
  go_wp2_with (go_at_call 69; refine HG.out.mono ?_; rintro e w1 ⟨rfl, h1⟩; have H1 := hid h1; clear h1)
  have HB1 := hid (bcall (bal (Below.refl _ w) _) H1.out)
  have HBX1 := hid (owns_below HBX.out H1.out)
  have hz1' : w.heap.size < w1.heap.size := by have := H1.out.size; simp at this; omega
  go_loopw [5, 13] (fun v i wr => ∃ k : Nat, k ≤ n ∧ i = .int .i64 k ∧ Hid (wr.ownsRow (w.heap.size + 1) 3 1 v (lookL (l.take k) ⟨bi, bx1, by1, bx2, by2⟩).length ((lookL (l.take k) ⟨bi, bx1, by1, bx2, by2⟩).map (Value.int .i64))) ∧ Hid (wr.ownsRow w.heap.size 36 5 (.slice (some ⟨w.heap.size, 0, none⟩) 1 1) 1 (boxCells ⟨bi, bx1, by1, bx2, by2⟩)) ∧ Hid (RowKit.Below w.heap.size w wr) ∧ w.heap.size < wr.heap.size) (fun _ i _ => n - (intOf i).toNat)
  case atStart =>
   exact ⟨0, Nat.zero_le _, rfl, hid (World.ownsRow_nil _ _ _ _), HBX1, HB1, hz1'⟩
  case round =>
   obtain ⟨k, hk, rfl, hown, hbx, hbl, hzr⟩ := hrel
   have hll : (lookL (l.take k) ⟨bi, bx1, by1, bx2, by2⟩).length ≤ n := by
    refine Nat.le_trans (lookL_len _ _) ?_
    rw [List.length_take, ← HN.out]
    omega
   by_cases hlt : k < n
   ·obtain ⟨x, hx⟩ : ∃ x, l[k]? = some x := ⟨_, List.getElem?_eq_getElem (by have := HN.out; omega)⟩
    obtain ⟨b, off, rfl, hb, hc⟩ := HB.out (by have := HN.out; omega)
    obtain ⟨c0, c1, c2, c3, c4⟩ := hc k x hx
    have kk := fun o => hbl.out.cell (p := ⟨b, o, none⟩) hb
    rw [← kk] at c0 c1 c2 c3 c4
    clear kk
    have hbz : b < wr.heap.size := by omega
    obtain ⟨b0, b1, b2, b3, b4⟩ := box_one hbx.out
    clear hc
    have HX := hid hx
    clear hx
    obtain ⟨xi, xx1, xy1, xx2, xy2⟩ := x
    simp only at c0 c1 c2 c3 c4 b0 b1 b2 b3 b4
    have HMT := hid (meet_any xi xx1 xy1 xx2 xy2 bi bx1 by1 bx2 by2 (wr.alloc (.cells #[.int .i64 xi, .int .i64 xx1, .int .i64 xy1, .int .i64 xx2, .int .i64 xy2] 36)))
    cases hmt : meetB ⟨xi, xx1, xy1, xx2, xy2⟩ ⟨bi, bx1, by1, bx2, by2⟩
    ·rw [hmt] at HMT
     have HQ := hid (lookL_not HX.out hmt)
     clear hmt
     go_wp2_with (go_at_call 70; refine HMT.out.mono ?_; rintro e w3 ⟨rfl, h3⟩; have H3 := hid h3; clear h3)
     go_roundw
     case rel =>
      have h0 := bcall (bal (Below.refl _ wr) (.cells #[.int .i64 xi, .int .i64 xx1, .int .i64 xy1, .int .i64 xx2, .int .i64 xy2] 36)) H3.out
      refine ⟨k + 1, by omega, by go_num, ?_, hid (owns_below hbx.out h0), hid (bcall hbl.out h0), by have := h0.size; omega⟩
      rw [HQ.out]
      exact hid (owns_below hown.out h0)
     case measure => simp [intOf]; omega
    ·rw [hmt] at HMT
     have HQ := hid (lookL_met HX.out hmt)
     clear hmt
     have HXB := hid (owns_box wr ⟨xi, xx1, xy1, xx2, xy2⟩ wr.heap.size (Nat.le_refl _))
     go_wp2_with fail
     refine HMT.out.mono ?_
     rintro e w3 ⟨rfl, h3⟩
     have H3 := hid h3
     obtain ⟨v0, v1, v2, v3, v4⟩ := box_one (owns_below HXB.out h3)
     clear h3 v1 v2 v3 v4 c0 c1 c2 c3 c4 b0 b1 b2 b3 b4
     simp only at v0
     have H03 := hid (bcall (bal (Below.refl _ wr) (.cells #[.int .i64 xi, .int .i64 xx1, .int .i64 xy1, .int .i64 xx2, .int .i64 xy2] 36)) H3.out)
     have hz3 : wr.heap.size < w3.heap.size := by have := H3.out.size; simp at this; omega
     go_wp2_with (at_builtin; refine wpList_append_own _ rfl _ _ 28 rfl (w.heap.size + 1) 3 i0 (.int .i64 0) 1 8 Tryz.underlying28 hi hz0 hz1 hz2 rfl (by decide) _ _ _ rfl ((owns_below hown.out H03.out).alloc _) ⟨w3.heap.size, 0, none⟩ 1 1 [.int .i64 xi] rfl ?c1 ?c2 ?c3 ?c4 ?c5 ?c6 ?_)
     case c1 => rfl
     case c2 =>
      intro j u hj
      match j, hj with
      | 0, hj => cases hj; simp [Addr.add]
     case c3 => intro u hu; simp at hu; subst hu; rfl
     case c4 => unfold maxLen; omega
     case c5 => omega
     case c6 => simp; omega
     intro v' w4 hown4 hgrow4 _
     have HO4 := hid hown4
     have HG4 := hid hgrow4
     clear hown4 hgrow4 v0
     go_wp2_with fail
     go_roundw
     case rel =>
      have h0 := bal H03.out (.cells #[.int .i64 xi] 3)
      have hne : ∀ z, u5.ownBlock = some z → w.heap.size + 1 ≤ z := fun z hz => (hown.out.lt z hz).1
      refine ⟨k + 1, by omega, by go_num, ?_, hid (owns_kept (owns_below hbx.out h0) HG4.out (fun z hz e => by simp [Value.ownBlock] at hz; have := hne z e; omega)), hid ((bcall hbl.out h0).grown HG4.out (by simp; omega) (fun q hq' => by have := hne q hq'; omega)), by have := HG4.out.size; simp at this; omega⟩
      ·have := HO4.out
       rw [HQ.out, List.map_append, List.length_append]
       exact hid this
     case measure => simp [intOf]; omega
   ·have hke : k = n := by omega
    have HL : Hid (lookL (l.take k) ⟨bi, bx1, by1, bx2, by2⟩ = lookL l ⟨bi, bx1, by1, bx2, by2⟩) := hid (by rw [hke, HN.out, List.take_length])
    have hS := hown.out
    rw [HL.out] at hS
    have HS := hid hS
    rw [HL.out] at hll
    have HPL : Hid ((lookP l ⟨bi, bx1, by1, bx2, by2⟩).length = (lookL l ⟨bi, bx1, by1, bx2, by2⟩).length) := hid (by rw [HP.out]; simp [sortI])
    clear hS hown
    generalize lookL l ⟨bi, bx1, by1, bx2, by2⟩ = zs at HS HP HPL hll
    obtain ⟨N, HNz⟩ : ∃ N, Hid (N = zs.length) := ⟨_, rfl⟩
    rw [← HNz.out] at HS hll HPL
    rcases HS.out.2 with ⟨hv, hz0'⟩ | ⟨g, c, cur, hv, hbase, hblk, q1, q2, q3, q4⟩
    ·subst hv
     have hzs : zs = [] := List.length_eq_zero_iff.1 (by have := HNz.out; omega)
     have HZ := hid hzs
     clear hzs
     go_wp2_with (first | (go_at_call 71; refine (Tryz.slices_Sort_int_none _ _ _).mono ?_; rintro e w' ⟨rfl, rfl⟩))
     go_ret
     refine ⟨⟨_, rfl, ?_⟩, hbl.out⟩
     rw [HP.out, HZ.out]
     rw [show sortI ([] : List Int) = [] from by simp [sortI]]
     exact ⟨rfl, Or.inl ⟨rfl, rfl⟩⟩
    ·subst hv
     clear hblk q1 q2 q3 q4 hbase
     have hs := sortI_own (w.heap.size + 1) g c N zs wr HNz.out (by omega) HS.out
     have HSS := hid hs
     clear hs
     go_wp2_with (go_at_call 71; refine HSS.out.mono ?_; rintro e w2 ⟨rfl, h2, h3⟩; have H2 := hid h2; have H3 := hid h3; clear h2 h3)
     go_ret
     refine ⟨⟨_, rfl, ?_⟩, hbl.out.grown H3.out (Nat.le_of_lt hzr) (fun q hq' => by cases hq'; have := (HS.out.lt g rfl).1; omega)⟩
     rw [HPL.out, HP.out]
     exact owns_mono H2.out (by omega)
end Sw
end Go.Proofs.YtckkkdldljhehacGreat
