/- Part of the proofs of GamePlays and GameRuns (package ninepinslaw): contracts of the functions that they call. -/
import Derived.Deep.DrawnRows
import Derived.Test.YtckkkdldljhehacGreatPkC
import Derived.Test.YtckkkdldljhehacGreatPkR
import Derived.Test.YtckkkdldljhehacGreatPkM
import Derived.Test.YtckkkdldljhehacGreatPkO
namespace Go.Proofs.YtckkkdldljhehacGreat
namespace St
open Go.ChangeShapes Go.WideShapes Go.ChangeAt Go.RowKit
theorem row5f {W : World} {b : Nat} {t : TypeId} {f : Nat → Value} (h : W.rowIs b t 5 f) : W.cell? ⟨b, 0, none⟩ = some (f 0) ∧ W.cell? ⟨b, 1, none⟩ = some (f 1) ∧ W.cell? ⟨b, 2, none⟩ = some (f 2) ∧ W.cell? ⟨b, 3, none⟩ = some (f 3) ∧ W.cell? ⟨b, 4, none⟩ = some (f 4) ∧ W.frozen? ⟨b, 0, none⟩ = false ∧ W.frozen? ⟨b, 1, none⟩ = false ∧ W.frozen? ⟨b, 2, none⟩ = false ∧ W.frozen? ⟨b, 3, none⟩ = false ∧ W.frozen? ⟨b, 4, none⟩ = false :=
 ⟨h.cell (by omega), h.cell (by omega), h.cell (by omega), h.cell (by omega), h.cell (by omega), h.frozen 0, h.frozen 1, h.frozen 2, h.frozen 3, h.frozen 4⟩
end St
namespace Th
open Num St Mp
open Go.ChangeShapes Go.WideShapes Go.ChangeAt Go.RowKit
variable {T : Nat → TabV} {I : Nat → Nat → Int} {R : Nat → Nat → R8}
def psTo (T : Nat → TabV) (I : Nat → Nat → Int) (R : Nat → Nat → R8) (k j : Nat) : Mth := prs (plainOf T I R k) ++ (List.range j).map (fun q => (I k q, (⟨(T k).mask, R k q⟩ : Th)))
theorem plainOf_succ (k : Nat) : plainOf T I R (k + 1) = plainOf T I R k ++ [tabOf T I R k] := by simp [plainOf, List.range_succ]
theorem psTo_zero (k : Nat) : psTo T I R k 0 = prs (plainOf T I R k) := by simp [psTo]
theorem psTo_succ (k j : Nat) : psTo T I R k (j + 1) = psTo T I R k j ++ [(I k j, ⟨(T k).mask, R k j⟩)] := by simp [psTo, List.range_succ]
theorem psTo_end {k : Nat} (h : (T k).il = (T k).rl) : psTo T I R k (T k).il = prs (plainOf T I R (k + 1)) := by
 rw [plainOf_succ]
 unfold psTo prs
 rw [List.flatMap_append]
 congr 1
 simp only [List.flatMap_cons, List.flatMap_nil, List.append_nil, prT, tabOf]
 rw [← h]
 apply List.ext_getElem?
 intro i
 by_cases hi : i < (T k).il
 ·simp [hi]
 ·simp [hi]
theorem prs_pre {k n : Nat} (h : k ≤ n) : ∃ r, prs (plainOf T I R n) = prs (plainOf T I R k) ++ r := by
 obtain ⟨d, rfl⟩ := Nat.exists_eq_add_of_le h
 clear h
 induction d with
 | zero => exact ⟨[], by simp⟩
 | succ d ih =>
  obtain ⟨r, hr⟩ := ih
  refine ⟨r ++ prT (tabOf T I R (k + d)), ?_⟩
  rw [← Nat.add_assoc, plainOf_succ]
  unfold prs at *
  rw [List.flatMap_append, hr]
  simp
theorem psTo_pre {k j : Nat} (hj : j ≤ (T k).il) (h : (T k).il = (T k).rl) : ∃ r, prs (plainOf T I R (k + 1)) = psTo T I R k j ++ r := by
 rw [← psTo_end h]
 unfold psTo
 obtain ⟨d, hd⟩ := Nat.exists_eq_add_of_le hj
 rw [hd]
 refine ⟨(List.range' j d).map (fun q => (I k q, (⟨(T k).mask, R k q⟩ : Th))), ?_⟩
 rw [List.append_assoc, ← List.map_append, List.range_eq_range', List.range_eq_range']
 congr 2
 have := List.range'_append (s := 0) (m := j) (n := d) (step := 1)
 simpa using this.symm
theorem tabsTo_iff {next : Int} (n : Nat) : TabsTo next T I R n ↔ ((∀ t ∈ plainOf T I R n, 0 < t.mask) ∧ (plainOf T I R n).Pairwise (fun a b => a.mask < b.mask)) ∧ ∀ t ∈ plainOf T I R n, GoodT next t := by
 rw [← lastM_pair (T := T) (I := I) (R := R) n]
 constructor
 ·intro h
  refine ⟨fun i hi => (h i hi).1, fun t ht => ?_⟩
  obtain ⟨i, hi, rfl⟩ := mem_plain.1 ht
  exact (goodTab_iff i).1 (h i hi).2
 ·rintro ⟨h1, h2⟩ i hi
  exact ⟨h1 i hi, (goodTab_iff i).2 (h2 _ (mem_plain.2 ⟨i, hi, rfl⟩))⟩
theorem tabsTo_even {next : Int} {n : Nat} (h : TabsTo next T I R n) : Even (plainOf T I R n) := fun t ht => (((tabsTo_iff n).1 h).2 t ht).2.1
theorem goodL_iff {next : Int} {n : Nat} : GoodL next (plainOf T I R n) ↔ btw next 0 1048576 = true ∧ (allL (plainOf T I R n)).length ≤ 10 ∧ TabsTo next T I R n ∧ (allL (plainOf T I R n)).Nodup := by
 unfold GoodL
 rw [tabsTo_iff]
 constructor
 ·rintro ⟨h1, h2, h3, h4, h5, h6⟩; exact ⟨h1, h2, ⟨⟨h3, h4⟩, h5⟩, h6⟩
 ·rintro ⟨h1, h2, ⟨⟨h3, h4⟩, h5⟩, h6⟩; exact ⟨h1, h2, h3, h4, h5, h6⟩
def nxW (next : Int) : Int := wrap64 (next - 1)
theorem nxW_eq {next : Int} (h : btw next 0 1048576 = true) : nxW next + 1 = next := by
 simp [btw] at h
 unfold nxW wrap64
 omega
theorem bad_tab {next : Int} {n k : Nat} (hk : k < n) (h : ¬ (lastM T k < (T k).mask ∧ GoodTab (T k).mask (nxW next + 1) (T k).il (T k).rl (I k) (R k))) : ¬ GoodL next (plainOf T I R n) := by
 intro hg
 obtain ⟨h1, _, h3, _⟩ := goodL_iff.1 hg
 have := h3 k hk
 rw [← nxW_eq h1] at this
 rw [nxW_eq h1] at this
 rw [nxW_eq h1] at h
 exact h this
theorem bad_twice {next : Int} {n k j : Nat} (hk : k < n) (hj : j < (T k).il) (h : I k j ∈ (psTo T I R k j).map (·.1)) : ¬ GoodL next (plainOf T I R n) := by
 intro hg
 obtain ⟨h1, _, h3, h4⟩ := goodL_iff.1 hg
 have hev := (h3 k hk).2.2.1
 obtain ⟨r1, e1⟩ := psTo_pre (T := T) (I := I) (R := R) (k := k) (j := j + 1) (by omega) hev
 obtain ⟨r2, e2⟩ := prs_pre (T := T) (I := I) (R := R) (k := k + 1) (n := n) (by omega)
 rw [← keys_prs (tabsTo_even h3), e2, e1, psTo_succ, List.append_assoc, List.append_assoc, List.map_append, List.nodup_append] at h4
 exact h4.2.2 _ h (I k j) (by simp) rfl
theorem psTo_len {next : Int} {k j : Nat} (h : TabsTo next T I R k) (hz : ∀ i, i < k → (T i).il ≤ 140737488355328) : (psTo T I R k j).length ≤ 4362862139015168 + j := by
 have h1 := tabsTo_len h hz
 rw [allIds_eq T I R k, List.length_reverse, ← keys_prs (tabsTo_even h), List.length_map] at h1
 unfold psTo
 rw [List.length_append, List.length_map, List.length_range]
 omega
theorem ofP_le (ps : Mth) : (ofP ps).length ≤ ps.length := by
 induction ps using snoc_ind with
 | h0 => simp [ofP]
 | h1 l a ih =>
  rw [ofP_snoc, putM_len _ _ (ofP_up _), List.length_append]
  split <;> simp <;> omega
end Th
namespace Th
open Num St Mp
open Go.ChangeShapes Go.WideShapes Go.ChangeAt Go.RowKit Go.Sort Go.Shelf Go.Lib
theorem sub_len {l m : Mth} (hl : Up l) (hm : Up m) (h : ∀ p ∈ l, p ∈ m) : l.length ≤ m.length := by
 induction m generalizing l with
 | nil =>
  cases l with
  | nil => exact Nat.le_refl _
  | cons x l => exact absurd (h x (List.mem_cons_self ..)) (by simp)
 | cons y m ih =>
  cases l with
  | nil => exact Nat.zero_le _
  | cons x l =>
   have hl' := List.pairwise_cons.1 hl
   have hm' := List.pairwise_cons.1 hm
   by_cases e : x = y
   ·subst e
    refine Nat.succ_le_succ (ih hl'.2 hm'.2 (fun p hp => ?_))
    rcases List.mem_cons.1 (h p (List.mem_cons_of_mem _ hp)) with rfl | h1
    ·have := hl'.1 _ hp; omega
    ·exact h1
   ·have hx : x ∈ m := (List.mem_cons.1 (h x (List.mem_cons_self ..))).resolve_left e
    refine Nat.le_succ_of_le (ih hl hm'.2 (fun p hp => ?_))
    rcases List.mem_cons.1 (h p hp) with rfl | h1
    ·rcases List.mem_cons.1 hp with rfl | hp
     ·exact absurd rfl e
     ·have h2 := hl'.1 _ hp
      have h3 := hm'.1 _ hx
      omega
    ·exact h1
theorem same_sub {l m : Mth} (hl : Up l) (hm : Up m) (hn : l.length = m.length) (h : ∀ p ∈ l, getM p.1 m = some p.2) : l = m := by
 have hs : ∀ p ∈ l, p ∈ m := fun p hp => getM_mem (h p hp)
 clear h
 induction m generalizing l with
 | nil => exact List.eq_nil_of_length_eq_zero hn
 | cons y m ih =>
  cases l with
  | nil => cases hn
  | cons x l =>
   have hl' := List.pairwise_cons.1 hl
   have hm' := List.pairwise_cons.1 hm
   by_cases e : x = y
   ·subst e
    rw [ih hl'.2 hm'.2 (by simpa using hn) (fun p hp => ?_)]
    rcases List.mem_cons.1 (hs p (List.mem_cons_of_mem _ hp)) with rfl | h1
    ·have := hl'.1 _ hp; omega
    ·exact h1
   ·have hx : x ∈ m := (List.mem_cons.1 (hs x (List.mem_cons_self ..))).resolve_left e
    have := sub_len hl hm'.2 (fun p hp => by
     rcases List.mem_cons.1 (hs p hp) with rfl | h1
     ·rcases List.mem_cons.1 hp with rfl | hp
      ·exact absurd rfl e
      ·have h2 := hl'.1 _ hp
       have h3 := hm'.1 _ hx
       omega
     ·exact h1)
    simp at hn this
    omega
def eqT (s t : Th) : Bool := s.m == t.m && eqR s.r t.r
theorem eqT_iff (s t : Th) : eqT s t = true ↔ s = t := by
 obtain ⟨m, r⟩ := s
 obtain ⟨n, q⟩ := t
 simp [eqT, eqR_iff]
theorem eqTh (d : Nat) (s t : Th) (w : World) :
  (Op.equalIn (d + 3) 105 (thV s) (thV t)).run Tryz.prog w = .ok (eqT s t) w := by
 have h1 : Tryz.prog.underlying 105 = some (.struct (Tryz.prog.fieldsOf 105)) := by kernel_rfl
 have h2 : Tryz.prog.stoodInHeld 105 = false := by kernel_rfl
 unfold thV
 rw [run_equalIn_struct w (d + 2) 105 _ _ h1 h2]
 have h3 := eq30n d s.r.x s.r.y s.r.px s.r.py s.r.wd s.r.ht s.r.ms s.r.rr t.r.x t.r.y t.r.px t.r.py t.r.wd t.r.ht t.r.ms t.r.rr
 simp [go_sem, Tryz.underlying105, Tryz.underlying3, h3]
 unfold eqT
 have e1 : (⟨s.r.x, s.r.y, s.r.px, s.r.py, s.r.wd, s.r.ht, s.r.ms, s.r.rr⟩ : R8) = s.r := rfl
 have e2 : (⟨t.r.x, t.r.y, t.r.px, t.r.py, t.r.wd, t.r.ht, t.r.ms, t.r.rr⟩ : R8) = t.r := rfl
 rw [e1, e2]
 by_cases h : s.m = t.m <;> cases hr : eqR s.r t.r <;> simp [h]
theorem neqTh (s t : Th) (w : World) : (binOp .neq 105 (thV s) (thV t)).run Tryz.prog w = .ok (.bool (!(eqT s t))) w := neqOf (n := 9997 + 3) rfl (eqTh 9997 s t w)
set_option maxHeartbeats 8000000 in
set_option maxRecDepth 100000 in
theorem sameThings_any (b c : Nat) (l m : Mth) (w : World) (h : Mp w b l) (h' : Mp w c m) :
  Calls Tryz.prog 58 #[.map (some b), .map (some c)] w fun e w' => (∃ g, e = .returned (.bool g) ∧ (g = true ↔ l = m)) ∧ Below w.heap.size w w' := by
 have hln := h.len
 have hln' := h'.len
 have hbz := h.lt
 have hcz := h'.lt
 have HU := hidT h.up
 have HU' := hidT h'.up
 have HH := hidT h
 have HH' := hidT h'
 by_cases hlen : l.length = m.length
 rotate_left
 ·have hne : ((l.length : Int) != (m.length : Int)) = true := by simp; omega
  go_enter Tryz.func58, Tryz.ntmps58
  go_wp2_with fail
  go_ret
  exact ⟨⟨false, rfl, ⟨fun h => (by cases h), fun h => absurd (by rw [h]) hlen⟩⟩, Below.refl _ _⟩
 have hne : ((l.length : Int) != (m.length : Int)) = false := by simp; omega
 have HLN := hidT hlen
 clear hlen
 have hneq : ∀ (s t : Th) (w : World), (binOp .neq 105 (.agg #[.int .i64 s.m, .int .i64 s.r.x, .int .i64 s.r.y, .int .i64 s.r.px, .int .i64 s.r.py, .int .i64 s.r.wd, .int .i64 s.r.ht, .int .i64 s.r.ms, .int .i64 s.r.rr]) (.agg #[.int .i64 t.m, .int .i64 t.r.x, .int .i64 t.r.y, .int .i64 t.r.px, .int .i64 t.r.py, .int .i64 t.r.wd, .int .i64 t.r.ht, .int .i64 t.r.ms, .int .i64 t.r.rr])).run Tryz.prog w = .ok (.bool (!(eqT s t))) w := neqTh
 go_enter Tryz.func58, Tryz.ntmps58
 go_wp2_with (first | (at_range; refine wp_range _ rfl _ rfl b l rfl h ?_; intro w1 hr1 hg1 hs1) | fail)
 go_frame
 have HR1 := hidT hr1
 have HB1 : Hid (Below w.heap.size w w1) := hidT (below_n (Below.refl _ _) hg1)
 clear hr1 hg1 h h' hln hln'
 go_loopw [5] (fun _ wr => ∃ todo cnt, Hid (Rng wr b w.heap.size l todo cnt) ∧ Hid (∀ p ∈ doneM l todo, getM p.1 m = some p.2) ∧ Hid (Below w.heap.size w wr) ∧ w.heap.size < wr.heap.size) (fun _ wr => wr.rangeLeft b w.heap.size)
 case atStart => exact ⟨l, _, HR1, hidT (fun p hp => by rw [doneM_all HU.out] at hp; cases hp), HB1, by omega⟩
 case round =>
  obtain ⟨todo, cnt, HR, HD, hbl, hzr⟩ := hrel
  go_wp2_with (first | (at_next; refine wp_next _ rfl _ rfl b w.heap.size l todo cnt rfl HR.out ?_ ?_) | fail)
  ·intro h0
   subst h0
   go_wp2_with fail
   go_ret
   refine ⟨⟨true, rfl, ⟨fun _ => ?_, fun _ => rfl⟩⟩, hbl.out⟩
   have h1 := HD.out
   rw [doneM_nil] at h1
   exact same_sub HU.out HU'.out HLN.out h1
  ·intro k t w2 cnt2 hk hr2 hlt hg2 hs2 hen
   have HK := hidT hk
   have HR2 := hidT hr2
   have HLT := hidT hlt
   have HCN := hidT HR.out.left_eq
   have HSUB := hidT HR.out.sub
   have hkl : getM k l = some t := getM_of_mem HU.out (HSUB.out.2 _ (getM_mem hk))
   have hwf := HH.out.wf hkl
   have HKL := hidT hkl
   have HBL2 : Hid (Below w.heap.size w w2) := hidT (hbl.out.grown hg2 hbl.out.size (fun q hq => by cases hq; exact Nat.le_refl _))
   have hz2 : w.heap.size < w2.heap.size := by omega
   clear hk hr2 hlt hg2 hs2 HR hbl hkl
   have HA := hidT (bal (Below.refl _ w2) (.cells #[.int .i64 t.m, .int .i64 t.r.x, .int .i64 t.r.y, .int .i64 t.r.px, .int .i64 t.r.py, .int .i64 t.r.wd, .int .i64 t.r.ht, .int .i64 t.r.ms, .int .i64 t.r.rr] 105))
   have hlk := ((HH'.out.below HBL2.out).below HA.out).look_ok hwf
   have HGM : Hid (getM k m = getM k m) := hidT rfl
   obtain ⟨o, ho⟩ : ∃ o, getM k m = o := ⟨_, rfl⟩
   rw [ho] at hlk
   have HO := hidT ho
   clear ho HGM
   cases o with
   | none =>
    simp only [Option.getD_none, Option.isSome_none, thV] at hlk
    go_wp2_with fail
    go_ret
    refine ⟨⟨false, rfl, ⟨fun h => (by cases h), fun h => ?_⟩⟩, bal (bcall HBL2.out HA.out) _⟩
    have h1 := HKL.out
    rw [h, HO.out] at h1
    cases h1
   | some s =>
    simp only [Option.getD_some, Option.isSome_some, thV] at hlk
    cases he : eqT t s
    ·go_wp2_with fail
     go_ret
     refine ⟨⟨false, rfl, ⟨fun h => (by cases h), fun h => ?_⟩⟩, bal (bcall HBL2.out HA.out) _⟩
     have h1 := HKL.out
     rw [h, HO.out] at h1
     cases h1
     rw [(eqT_iff t t).2 rfl] at he
     cases he
    ·go_wp2_with fail
     have hR := (HR2.out.below HA.out).below (bal (Below.refl _ _) (.cells #[.int .i64 s.m, .int .i64 s.r.x, .int .i64 s.r.y, .int .i64 s.r.px, .int .i64 s.r.py, .int .i64 s.r.wd, .int .i64 s.r.ht, .int .i64 s.r.ms, .int .i64 s.r.rr] 105))
     refine ⟨⟨delM k todo, cnt2, hidT hR, hidT (fun p hp => ?_), hidT (bal (bcall HBL2.out HA.out) _), by simp; omega⟩, ?_⟩
     ·obtain ⟨h1, h2⟩ := mem_doneM.1 hp
      rw [getM_del HSUB.out.1] at h2
      by_cases e : p.1 = k
      ·have h3 := getM_of_mem HU.out (k := p.1) (t := p.2) h1
       rw [e, HKL.out] at h3
       rw [e, HO.out, ← Option.some.inj h3, (eqT_iff t s).1 he]
      ·rw [if_neg e] at h2
       exact HD.out p (mem_doneM.2 ⟨h1, h2⟩)
     ·rw [hR.left_eq, HCN.out]
      exact HLT.out
end Th
namespace Th
open Num St Mp
open Go.ChangeShapes Go.WideShapes Go.ChangeAt Go.RowKit
theorem tab_box (w : World) (m : Int) (u v : Value) (t : TypeId) : (w.alloc (.cells #[.int .i64 m, u, v] t)).cell? ⟨w.heap.size, 0, none⟩ = some (.int .i64 m) ∧ (w.alloc (.cells #[.int .i64 m, u, v] t)).cell? ⟨w.heap.size, 1, none⟩ = some u ∧ (w.alloc (.cells #[.int .i64 m, u, v] t)).cell? ⟨w.heap.size, 2, none⟩ = some v := by
 have h : (w.alloc (.cells #[.int .i64 m, u, v] t)).rowIs w.heap.size t 3 (fun i => if i = 0 then .int .i64 m else if i = 1 then u else v) := ⟨_, (MapKept.heap_alloc w _).1, rfl, fun i hi => by
  match i, hi with
  | 0, _ => rfl
  | 1, _ => rfl
  | 2, _ => rfl⟩
 exact ⟨h.cell (i := 0) (by omega), h.cell (i := 1) (by omega), h.cell (i := 2) (by omega)⟩
attribute [local go_sem ↓] Go.wp_at_zero Go.wp_at_succ
set_option maxHeartbeats 8000000 in
set_option maxRecDepth 100000 in
theorem thingsOf_any (a : Option Addr) (n cap : Nat) (next : Int) (T : Nat → TabV) (I : Nat → Nat → Int) (R : Nat → Nat → R8) (w : World) (hin : StoreIn w a n T I R) :
  Calls Tryz.prog 57 #[.agg #[.slice a n cap, .int .i64 next]] w fun e w' =>
   ((GoodL next (plainOf T I R n) ∧ ∃ b, e = .returned (.tuple #[.map (some b), .bool true]) ∧ w.heap.size ≤ b ∧ Mp w' b (thM (plainOf T I R n))) ∨
    (¬ GoodL next (plainOf T I R n) ∧ ∃ m, e = .returned (.tuple #[.map m, .bool false]))) ∧ Below w.heap.size w w' := by
 have hn : n ≤ 9223372036854775807 := by have := hin.fits.1; omega
 have HT : Hid _ := hin.tabs
 have HI : Hid _ := hin.ids
 have HR : Hid _ := hin.rows
 have HZ : Hid _ := hin.hz
 have HW : Hid _ := hin.wf
 clear hin
 have hmm := @run_makeMap Tryz.prog
 have HB0 : Hid (Below (w.heap.size + 1) (w.alloc (.cells #[.slice a n cap, .int .i64 next] 43)) ((w.alloc (.cells #[.slice a n cap, .int .i64 next] 43)).alloc (.map #[] 0))) := hid (by
  have := bal (Below.refl _ (w.alloc (.cells #[.slice a n cap, .int .i64 next] 43))) (.map #[] 0)
  rw [World.size_alloc] at this
  exact this)
 have HM0 : Hid (Mp ((w.alloc (.cells #[.slice a n cap, .int .i64 next] 43)).alloc (.map #[] 0)) (w.heap.size + 1) []) := hid (by
  have := Mp.made (w.alloc (.cells #[.slice a n cap, .int .i64 next] 43))
  rw [World.size_alloc] at this
  exact this)
 have HX0 : Hid ((w.alloc (.cells #[.slice a n cap, .int .i64 next] 43)).cell? ⟨w.heap.size, 1, none⟩ = some (.int .i64 next)) := hid (by simp)
 have HBW : Hid (∀ wr, Below (w.heap.size + 1) (w.alloc (.cells #[.slice a n cap, .int .i64 next] 43)) wr → Below w.heap.size w wr) := hid (fun wr h => bcall (bal (Below.refl _ _) (.cells #[.slice a n cap, .int .i64 next] 43)) (by rw [World.size_alloc]; exact h))
 go_enter Tryz.func57, Tryz.ntmps57
 go_wp2_with fail
 generalize w.alloc (.cells #[.slice a n cap, .int .i64 next] 43) = V0 at HB0 HM0 HX0 HBW ⊢
 go_loopw [5, 16] (fun la i wr => ∃ k : Nat, k ≤ n ∧ i = .int .i64 k ∧ la = .int .i64 (lastM T k) ∧ Hid (TabsTo (nxW next + 1) T I R k) ∧ Hid ((prs (plainOf T I R k)).map (·.1)).Nodup ∧ Hid (Mp wr (w.heap.size + 1) (ofP (prs (plainOf T I R k)))) ∧ Hid (Below (w.heap.size + 1) V0 wr) ∧ w.heap.size + 1 < wr.heap.size) (fun _ i _ => n - (intOf i).toNat)
 case atStart => exact ⟨0, Nat.zero_le _, rfl, rfl, hid (fun i hi => absurd hi (Nat.not_lt_zero _)), hid List.nodup_nil, HM0, HB0, HM0.out.lt⟩
 case round =>
  obtain ⟨k, hk, rfl, rfl, HTT, HND, HMP, HBL, hzr⟩ := hrel
  have hzr0 : w.heap.size < wr.heap.size := by omega
  by_cases hlt : k < n
  ·obtain ⟨b, off, rfl, hb, hc⟩ := HT.out (by omega)
   obtain ⟨c0, c1, c2⟩ := hc k hlt
   have HBR := hid (HBW.out _ HBL.out)
   rw [← HBR.out.cell (by exact hb)] at c0 c1 c2
   clear hc
   obtain ⟨s1, s2⟩ := HZ.out k hlt
   have hbz : b < wr.heap.size := by omega
   by_cases hm : (T k).mask ≤ lastM T k
   ·go_wp2_with fail
    exact bodyPost_ret (by simp [results, Tryz.results57, go_sem]; rfl) rfl ⟨Or.inr ⟨bad_tab hlt (fun h => by omega), _, rfl⟩, bal HBR.out _⟩
   by_cases hi0 : (T k).il = 0
   ·have e0 : (((T k).il : Int) == 0) = true := by simp [hi0]
    go_wp2_with fail
    exact bodyPost_ret (by simp [results, Tryz.results57, go_sem]; rfl) rfl ⟨Or.inr ⟨bad_tab hlt (fun h => by have := h.2.1; omega), _, rfl⟩, bal HBR.out _⟩
   have e0 : (((T k).il : Int) == 0) = false := by simp; omega
   by_cases hir : (T k).rl = (T k).il
   rotate_left
   ·have e1 : (((T k).rl : Int) != ((T k).il : Int)) = true := by simp; omega
    go_wp2_with fail
    exact bodyPost_ret (by simp [results, Tryz.results57, go_sem]; rfl) rfl ⟨Or.inr ⟨bad_tab hlt (fun h => by have := h.2.2.1; omega), _, rfl⟩, bal HBR.out _⟩
   have e1 : (((T k).rl : Int) != ((T k).il : Int)) = false := by simp; omega
   have HIR := hid hir
   clear hir
   obtain ⟨bi, oi, hia, hbi, hci⟩ := HI.out k hlt (by omega)
   obtain ⟨br, ro, hra, hbr, hcr⟩ := HR.out k hlt (by have := HIR.out; omega)
   have HCI := hid hci
   have HCR := hid hcr
   clear hci hcr
   rw [hia] at c1
   rw [hra] at c2
   have HTB := hid (tab_box wr (T k).mask (.slice (some ⟨bi, oi, none⟩) (T k).il (T k).ic) (.slice (some ⟨br, ro, none⟩) (T k).rl (T k).rc) 65)
   have HA := hid (bal (Below.refl _ wr) (.cells #[.int .i64 (T k).mask, .slice (some ⟨bi, oi, none⟩) (T k).il (T k).ic, .slice (some ⟨br, ro, none⟩) (T k).rl (T k).rc] 65))
   have HM1 := hid (HMP.out.below HA.out)
   have HB1 : Hid (Below (w.heap.size + 1) V0 (wr.alloc (.cells #[.int .i64 (T k).mask, .slice (some ⟨bi, oi, none⟩) (T k).il (T k).ic, .slice (some ⟨br, ro, none⟩) (T k).rl (T k).rc] 65))) := hid (HBL.out.trans (HA.out.mono (by omega)))
   have hz1 : wr.heap.size < (wr.alloc (.cells #[.int .i64 (T k).mask, .slice (some ⟨bi, oi, none⟩) (T k).il (T k).ic, .slice (some ⟨br, ro, none⟩) (T k).rl (T k).rc] 65)).heap.size := by simp
   go_wp2_with fail
   clear c0 c1 c2 hbz
   generalize wr.alloc (.cells #[.int .i64 (T k).mask, .slice (some ⟨bi, oi, none⟩) (T k).il (T k).ic, .slice (some ⟨br, ro, none⟩) (T k).rl (T k).rc] 65) = W1 at HTB HM1 HB1 hz1 ⊢
   clear HA HMP HBL HBR
   generalize wr.heap.size = tb at HTB hz1 hzr hzr0 ⊢
   clear wr
   go_loopw [44] (fun i wv => ∃ j : Nat, j ≤ (T k).il ∧ i = .int .i64 j ∧ Hid (GoodTo (T k).mask (nxW next + 1) (I k) (R k) j) ∧ Hid ((psTo T I R k j).map (·.1)).Nodup ∧ Hid (Mp wv (w.heap.size + 1) (ofP (psTo T I R k j))) ∧ Hid (Below (w.heap.size + 1) V0 wv) ∧ Hid (wv.cell? ⟨tb, 0, none⟩ = some (.int .i64 (T k).mask) ∧ wv.cell? ⟨tb, 1, none⟩ = some (.slice (some ⟨bi, oi, none⟩) (T k).il (T k).ic) ∧ wv.cell? ⟨tb, 2, none⟩ = some (.slice (some ⟨br, ro, none⟩) (T k).rl (T k).rc)) ∧ tb < wv.heap.size) (fun i _ => (T k).il - (intOf i).toNat)
   case atStart => exact ⟨0, Nat.zero_le _, rfl, hid (fun i hi => absurd hi (Nat.not_lt_zero _)), by rw [psTo_zero]; exact HND, by rw [psTo_zero]; exact HM1, HB1, HTB, hz1⟩
   case round =>
    obtain ⟨j, hj, rfl, HGT, HNJ, HMJ, HBJ, HTJ, hzj⟩ := hrel
    by_cases hjl : j < (T k).il
    ·have cj := HCI.out j hjl
     have HBRJ := hid (HBW.out _ HBJ.out)
     rw [← HBRJ.out.cell (by exact hbi)] at cj
     have hx1 := (HBJ.out.cell (p := ⟨w.heap.size, 1, none⟩) (by simp)).trans HX0.out
     obtain ⟨r0, r1, r2, r3, r4, r5, r6, r7⟩ := HCR.out j (by have := HIR.out; omega)
     rw [← HBRJ.out.cell (by exact hbr)] at r0 r1 r2 r3 r4 r5 r6 r7
     obtain ⟨t0, t1, t2⟩ := HTJ.out
     have hwf := HW.out k hlt j hjl
     have hlk := HMJ.out.look_ok hwf
     have hsz := HBRJ.out.size
     have hbiz : bi < wr.heap.size := by omega
     have hbrz : br < wr.heap.size := by omega
     have hxz : w.heap.size < wr.heap.size := by omega
     have hlr : (j : Int) < ((T k).rl : Int) := by have := HIR.out; omega
     rw [ofP_has] at hlk
     obtain ⟨t, ht⟩ : ∃ t, (getM (I k j) (ofP (psTo T I R k j))).getD zTh = t := ⟨_, rfl⟩
     rw [ht] at hlk
     clear ht
     unfold thV at hlk
     by_cases hd : I k j ∈ (psTo T I R k j).map (·.1)
     ·rw [decide_eq_true hd] at hlk
      have HD := hid hd
      clear hd
      go_wp2_with fail
      go_quiet (fail)
      go_wp2_with fail
      exact bodyPost_ret (by simp [results, Tryz.results57, go_sem]; rfl) rfl ⟨Or.inr ⟨bad_twice hlt hjl HD.out, _, rfl⟩, below_drewN (bal HBRJ.out _) _⟩
     rw [decide_eq_false hd] at hlk
     have HD := hid hd
     clear hd
     cases hq : btw (I k j) 0 (nxW next)
     ·have hq' := hq
      unfold nxW at hq'
      go_wp2_with fail
      go_quiet ((go_at_call 47; exact Calls.quiet_of_same (within_any _ _ _ _)))
      go_wp2_with fail
      exact bodyPost_ret (by simp [results, Tryz.results57, go_sem]; rfl) rfl ⟨Or.inr ⟨bad_tab hlt (fun h => by have h1 := (h.2.2.2 j hjl).1; rw [Int.add_sub_cancel, hq] at h1; cases h1), _, rfl⟩, below_drewN (bal HBRJ.out _) _⟩
     ·have hq' := hq
      unfold nxW at hq'
      have hqw : btw (I k j) 0 (IntKind.i64.wrap (next - 1)) = true := by rw [IntKind.wrap_i64]; unfold wrap64 at hq'; exact hq'
      cases hg : isRowH (T k).mask (R k j)
      ·go_wp2_with fail
       go_region_with (first | (go_at_call 47; refine (within_any _ _ _ _).mono ?_; rintro e w' ⟨rfl, rfl⟩) | (go_at_call 49; refine (isRow_any _ (R k j) _).mono ?_; rintro e w2 ⟨rfl, hb2⟩; have HB2 : Hid _ := hb2; clear hb2))
       all_goals
        go_wp2_with fail
        exact bodyPost_ret (by simp [results, Tryz.results57, go_sem]; rfl) rfl ⟨Or.inr ⟨bad_tab hlt (fun h => by have h1 := (h.2.2.2 j hjl).2; rw [← isRow_good, hg] at h1; cases h1), _, rfl⟩, bcall (bal HBRJ.out _).drew HB2.out⟩
      ·go_upto_region 13 with fail
       go_cut [74] (fun s wx => s = .bool false ∧ ∃ W, W = wx ∧ Hid (Below wr.heap.size wr W))
       case first =>
        go_region_with (first | (go_at_call 47; refine (within_any _ _ _ _).mono ?_; rintro e w' ⟨rfl, rfl⟩) | (go_at_call 49; refine (isRow_any _ (R k j) _).mono ?_; rintro e w2 ⟨rfl, hb2⟩; have HB2 : Hid _ := hb2; clear hb2))
        all_goals
         go_wp2_with fail
         go_meet
         exact ⟨rfl, _, rfl, hid (bcall (bal (Below.refl _ _) _).drew HB2.out)⟩
       case rest =>
       obtain ⟨rfl, W, rfl, HBW2⟩ := hcut
       have HMW := hid (HMJ.out.below HBW2.out)
       have HBJ2 : Hid (Below (w.heap.size + 1) V0 W) := hid (HBJ.out.trans (HBW2.out.mono (by omega)))
       have hzW : tb < W.heap.size := by have := HBW2.out.size; omega
       have hbrW : br < W.heap.size := by have := HBW2.out.size; omega
       rw [← HBW2.out.cell (by exact hzj)] at t0 t1 t2
       rw [← HBW2.out.cell (by exact hbrz)] at r0 r1 r2 r3 r4 r5 r6 r7
       have HTW := hid (And.intro t0 (And.intro t1 t2))
       have hlen : (ofP (psTo T I R k j)).length < maxLen := by
        have h1 := ofP_le (psTo T I R k j)
        have h2 := psTo_len (T := T) (I := I) (R := R) (j := j) HTT.out (fun i hi => (HZ.out i (by omega)).1)
        unfold maxLen
        omega
       obtain ⟨W6, hrun6, hM6, ht6⟩ := (HMW.out.block (w' := W.drew) rfl).store hwf ⟨(T k).mask, R k j⟩ hlen
       simp only [thV] at hrun6
       have HM6 := hid hM6
       have HT6 := hid ht6
       clear hM6 ht6 hlk cj hlen hx1 t1
       clear HMJ HBJ HTJ
       go_wp2_with fail
       go_region
       all_goals
        go_wp2_with fail
        go_roundw
        case rel =>
         have hblk : ∀ i, i ≠ w.heap.size + 1 → W6.heap[i]? = W.heap[i]? := fun i hi => turned_block HT6.out hi
         refine ⟨j + 1, by omega, by go_num, hid (fun i hi => ?_), hid ?_, hid ?_, hid ?_, hid ⟨?_, ?_, ?_⟩, ?_⟩
         ·by_cases e : i = j
          ·subst e
           exact ⟨by rw [Int.add_sub_cancel]; exact hq, by rw [← isRow_good]; exact hg⟩
          ·exact HGT.out i (by omega)
         ·rw [psTo_succ, List.map_append, List.nodup_append]
          refine ⟨HNJ.out, by simp, fun x hx y hy => ?_⟩
          simp at hy
          subst hy
          intro e
          exact HD.out (e ▸ hx)
         ·rw [psTo_succ, ofP_snoc]
          exact HM6.out
         ·exact HBJ2.out.drew.grown HT6.out.grown (by simp; omega) (fun q hq => by cases hq; exact Nat.le_refl _)
         ·exact (World.cell?_of_block (a := ⟨tb, 0, none⟩) (hblk tb (by omega))).trans HTW.out.1
         ·exact (World.cell?_of_block (a := ⟨tb, 1, none⟩) (hblk tb (by omega))).trans HTW.out.2.1
         ·exact (World.cell?_of_block (a := ⟨tb, 2, none⟩) (hblk tb (by omega))).trans HTW.out.2.2
         ·rw [turned_size HT6.out]
          exact hzW
        case measure => simp [intOf]; omega
    ·have hje : j = (T k).il := by omega
     subst hje
     go_wp2_with fail
     go_roundw
     case rel =>
      have hev : (T k).il = (T k).rl := HIR.out.symm
      refine ⟨k + 1, by omega, by go_num, rfl, hid (fun i hi => ?_), hid ?_, hid ?_, HBJ, HMJ.out.lt⟩
      ·by_cases e : i = k
       ·subst e
        exact ⟨by omega, by omega, hev, HGT.out⟩
       ·exact HTT.out i (by omega)
      ·rw [← psTo_end hev]
       exact HNJ.out
      ·rw [← psTo_end hev]
       exact HMJ.out
     case measure => simp [intOf]; omega
  ·have hke : k = n := by omega
   subst hke
   have hx1 := (HBL.out.cell (p := ⟨w.heap.size, 1, none⟩) (by simp)).trans HX0.out
   have hln := HMP.out.len
   have hev := tabsTo_even HTT.out
   have hkl : (allL (plainOf T I R k)).Nodup := by rw [← keys_prs hev]; exact HND.out
   have hle : (ofP (prs (plainOf T I R k))).length = (allL (plainOf T I R k)).length := thM_len hev hkl
   rw [hle] at hln
   have HE := hid hle
   have HKL := hid hkl
   clear hle hkl hev
   by_cases h10 : (allL (plainOf T I R k)).length ≤ 10
   ·have h10' : (((allL (plainOf T I R k)).length : Nat) : Int) ≤ 10 := by omega
    cases hq : btw next 0 1048576
    ·go_wp2_with (go_at_call 47; refine (within_any _ _ _ _).mono ?_; rintro e w' ⟨rfl, rfl⟩)
     exact bodyPost_ret (by simp [results, Tryz.results57, go_sem]; rfl) rfl ⟨Or.inr ⟨fun h => (by have := h.1; rw [hq] at this; cases this), _, rfl⟩, HBW.out _ HBL.out⟩
    ·go_wp2_with (go_at_call 47; refine (within_any _ _ _ _).mono ?_; rintro e w' ⟨rfl, rfl⟩)
     refine bodyPost_ret (v := .tuple #[.map (some (w.heap.size + 1)), .bool true]) (by simp [results, Tryz.results57, go_sem]) rfl ⟨Or.inl ⟨?_, _, rfl, Nat.le_succ _, HMP.out⟩, HBW.out _ HBL.out⟩
     have h1 := HTT.out
     rw [nxW_eq hq] at h1
     exact goodL_iff.2 ⟨hq, h10, h1, HKL.out⟩
   ·have h10' : ¬ (((allL (plainOf T I R k)).length : Nat) : Int) ≤ 10 := by omega
    go_wp2_with fail
    exact bodyPost_ret (by simp [results, Tryz.results57, go_sem]; rfl) rfl ⟨Or.inr ⟨fun h => h10 h.2.1, _, rfl⟩, HBW.out _ HBL.out⟩
end Th
end Go.Proofs.YtckkkdldljhehacGreat
