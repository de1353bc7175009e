/- Put together: What Copy of things by number and SameThings (package ninepinsref) answer when called over maps in memory: the same things in a map of their own; whether both hold the same. Nothing that was in memory before has changed. Stores that a call has given back, read as plain tables: same and stored of package ninepinslaw over them; Spawn, Kill, Set and Change of package store in those words. The frame of a region that draws its order, when the frame is too long to be written out: all slots but the region's own are as they were. No program. StoreTurns of package ninepinslaw: the statement that lays out the two parts of the row that a change makes, in whatever order. What StoreTurns of package ninepinslaw answers when called over a store in memory: true; nothing that was in memory before has changed. -/
import Derived.Test.YtckkkdldljhehaaKtThF
import Derived.Test.YtckkkdldljhehaaKtThB
import Derived.Test.YtckkkdldljhehaaKtTeB
import Derived.Test.YtckkkdldljhehaaPkD
import Derived.WalkArith
import Derived.OpenShut
import Derived.Test.YtckkkdldljhehaaKtRg
namespace Go.Proofs.Ytckkkdldljhehaa.Th
open Go.Proofs.Ytckkkdldljhehaa.Num Go.Proofs.Ytckkkdldljhehaa.St Go.Proofs.Ytckkkdldljhehaa.Mp
open Go.ChangeShapes Go.WideShapes Go.ChangeAt Go.RowKit Go.Sort Go.Shelf Go.Lib

theorem done_put {l todo : Mth} {k : Int} {t : Th} (hl : Up l) (hu : Up todo) (hs : ∀ p ∈ todo, p ∈ l) (hk : getM k todo = some t) : putM k t (doneM l todo) = doneM l (delM k todo) := by
  have hd : Up (doneM l todo) := List.Pairwise.filter _ hl
  have hd2 : Up (doneM l (delM k todo)) := List.Pairwise.filter _ hl
  refine (hd.put k t).ext hd2 (fun j => option_ext (fun s => ?_))
  rw [getM_put hd, getM_iff hd2, mem_doneM, getM_del hu]
  have hkl : (k, t) ∈ l := hs _ (getM_mem hk)
  by_cases h : j = k
  · subst h
    simp only [if_true, and_true]
    constructor
    · intro e; cases e; exact hkl
    · intro e
      have h1 := getM_of_mem hl e
      have h2 := getM_of_mem hl hkl
      rw [← h1, h2]
  · simp only [if_neg h]
    rw [getM_iff hd, mem_doneM]
theorem sub_len {l m : Mth} (hl : Up l) (hm : Up m) (h : ∀ p ∈ l, p ∈ m) : l.length ≤ m.length := by
  induction m generalizing l with
  | nil =>
    cases l with
    | nil => exact Nat.le_refl _
    | cons x l => exact absurd (h x (List.mem_cons_self ..)) (by simp)
  | cons y m ih =>
    cases l with
    | nil => exact Nat.zero_le _
    | cons x l =>
      have hl' := List.pairwise_cons.1 hl
      have hm' := List.pairwise_cons.1 hm
      by_cases e : x = y
      · subst e
        refine Nat.succ_le_succ (ih hl'.2 hm'.2 (fun p hp => ?_))
        rcases List.mem_cons.1 (h p (List.mem_cons_of_mem _ hp)) with rfl | h1
        · have := hl'.1 _ hp; omega
        · exact h1
      · have hx : x ∈ m := (List.mem_cons.1 (h x (List.mem_cons_self ..))).resolve_left e
        refine Nat.le_succ_of_le (ih hl hm'.2 (fun p hp => ?_))
        rcases List.mem_cons.1 (h p hp) with rfl | h1
        · rcases List.mem_cons.1 hp with rfl | hp
          · exact absurd rfl e
          · have h2 := hl'.1 _ hp
            have h3 := hm'.1 _ hx
            omega
        · exact h1
theorem same_sub {l m : Mth} (hl : Up l) (hm : Up m) (hn : l.length = m.length) (h : ∀ p ∈ l, getM p.1 m = some p.2) : l = m := by
  have hs : ∀ p ∈ l, p ∈ m := fun p hp => getM_mem (h p hp)
  clear h
  induction m generalizing l with
  | nil => exact List.eq_nil_of_length_eq_zero hn
  | cons y m ih =>
    cases l with
    | nil => cases hn
    | cons x l =>
      have hl' := List.pairwise_cons.1 hl
      have hm' := List.pairwise_cons.1 hm
      by_cases e : x = y
      · subst e
        rw [ih hl'.2 hm'.2 (by simpa using hn) (fun p hp => ?_)]
        rcases List.mem_cons.1 (hs p (List.mem_cons_of_mem _ hp)) with rfl | h1
        · have := hl'.1 _ hp; omega
        · exact h1
      · have hx : x ∈ m := (List.mem_cons.1 (hs x (List.mem_cons_self ..))).resolve_left e
        have := sub_len hl hm'.2 (fun p hp => by
          rcases List.mem_cons.1 (hs p hp) with rfl | h1
          · rcases List.mem_cons.1 hp with rfl | hp
            · exact absurd rfl e
            · have h2 := hl'.1 _ hp
              have h3 := hm'.1 _ hx
              omega
          · exact h1)
        simp at hn this
        omega
theorem doneM_up {l todo : Mth} (hl : Up l) : Up (doneM l todo) := List.Pairwise.filter _ hl

set_option maxHeartbeats 8000000 in
set_option maxRecDepth 100000 in
theorem copy_any (b : Nat) (l : Mth) (w : World) (h : Mp w b l) (hl : l.length ≤ 1000000) :
    Calls Try.prog 41 #[.map (some b)] w fun e w' => (∃ c, e = .returned (.map (some c)) ∧ w.heap.size ≤ c ∧ Mp w' c l) ∧ Below w.heap.size w w' := by
  have hbz := h.lt
  have HU := hidT h.up
  have HL := hidT hl
  have HH := hidT h
  have hmm := @run_makeMap Try.prog
  have hm0 := h.below (bal (Below.refl _ w) (.map #[] 0))
  have HN0 := hidT (Mp.made w)
  clear h hl
  go_enter Try.func41, Try.ntmps41
  go_wp2_with (first | (at_range; refine wp_range _ rfl _ rfl b l rfl hm0 ?_; intro w1 hr1 hg1 hs1) | fail)
  go_frame
  have HR1 := hidT hr1
  have HN1 := hidT (HN0.out.kept hg1 (by simp))
  have HB1 : Hid (Below w.heap.size w w1) := hidT (below_n (bal (Below.refl _ _) _) hg1)
  rw [World.size_alloc] at hs1 HR1
  rw [World.size_alloc]
  clear hr1 hg1 hm0 HN0
  go_loopw [4] (fun _ wr => ∃ todo cnt, Hid (Rng wr b (w.heap.size + 1) l todo cnt) ∧ Hid (Mp wr w.heap.size (doneM l todo)) ∧ Hid (Below w.heap.size w wr) ∧ w.heap.size + 1 < wr.heap.size) (fun _ wr => wr.rangeLeft b (w.heap.size + 1))
  case atStart => exact ⟨l, _, HR1, hidT (by rw [doneM_all HU.out]; exact HN1.out), HB1, by omega⟩
  case round =>
    obtain ⟨todo, cnt, HR, HN, hbl, hzr⟩ := hrel
    go_wp2_with (first | (at_next; refine wp_next _ rfl _ rfl b (w.heap.size + 1) l todo cnt rfl HR.out ?_ ?_) | fail)
    · intro h0
      subst h0
      go_wp2_with fail
      go_ret
      refine ⟨⟨_, rfl, Nat.le_refl _, ?_⟩, hbl.out⟩
      have h1 := HN.out
      rw [doneM_nil] at h1
      exact h1
    · intro k t w2 cnt2 hk hr2 hlt hg2 hs2 hen
      have HK := hidT hk
      have HR2 := hidT hr2
      have HLT := hidT hlt
      have HCN := hidT HR.out.left_eq
      have HSUB := hidT HR.out.sub
      have hwf := HH.out.wf (getM_of_mem HU.out (HSUB.out.2 _ (getM_mem hk)))
      have HN2 := hidT (HN.out.kept hg2 (fun e => by have := Option.some.inj e; omega))
      have HBL2 : Hid (Below w.heap.size w w2) := hidT (hbl.out.grown hg2 hbl.out.size (fun q hq => by cases hq; exact Nat.le_succ _))
      have hlen : (doneM l todo).length < maxLen := by
        have := doneM_len (l := l) (todo := todo)
        have := HL.out
        unfold maxLen
        omega
      have hz2 : w.heap.size + 1 < w2.heap.size := by omega
      clear hk hr2 hlt hg2 hs2 HR HN hbl
      have HA := hidT (bal (Below.refl _ w2) (.cells #[.int .i64 t.m, .int .i64 t.r.x, .int .i64 t.r.y, .int .i64 t.r.px, .int .i64 t.r.py, .int .i64 t.r.wd, .int .i64 t.r.ht, .int .i64 t.r.ms, .int .i64 t.r.rr] 43))
      have HN3 := hidT (HN2.out.below HA.out)
      go_wp2_with (first | (at_mapUpdate; refine wp_store _ rfl _ _ _ rfl w.heap.size _ rfl HN3.out hlen k rfl hwf t rfl ?_; intro w4 hm4 ht4) | fail)
      have HM4 := hidT hm4
      have HT4 := hidT ht4
      clear hm4 ht4
      go_wp2_with fail
      have hR := (HR2.out.below HA.out).blocks (turned_block HT4.out (i := b) (by omega)) (turned_block HT4.out (i := w.heap.size + 1) (by omega))
      go_roundw
      case rel =>
        refine ⟨_, _, _, _, _, _, _, _, _, _, ⟨delM k todo, cnt2, hidT hR, hidT ?_, hidT (Mp.below_turn (bcall HBL2.out HA.out) HT4.out (Nat.le_refl _)), ?_⟩, rfl⟩
        · rw [← done_put HU.out HSUB.out.1 HSUB.out.2 HK.out]
          exact HM4.out
        · rw [turned_size HT4.out]
          simp
          omega
      case measure =>
        rw [hR.left_eq, HCN.out]
        exact HLT.out

/-- Two things alike. -/
def eqT (s t : Th) : Bool := s.m == t.m && eqR s.r t.r
theorem eqT_iff (s t : Th) : eqT s t = true ↔ s = t := by
  obtain ⟨m, r⟩ := s
  obtain ⟨n, q⟩ := t
  simp [eqT, eqR_iff]
theorem eqTh (d : Nat) (s t : Th) (w : World) :
    (Op.equalIn (d + 3) 43 (thV s) (thV t)).run Try.prog w = .ok (eqT s t) w := by
  have h1 : Try.prog.underlying 43 = some (.struct (Try.prog.fieldsOf 43)) := by kernel_rfl
  have h2 : Try.prog.stoodInHeld 43 = false := by kernel_rfl
  unfold thV
  rw [run_equalIn_struct w (d + 2) 43 _ _ h1 h2]
  have h3 := eq30n d s.r.x s.r.y s.r.px s.r.py s.r.wd s.r.ht s.r.ms s.r.rr t.r.x t.r.y t.r.px t.r.py t.r.wd t.r.ht t.r.ms t.r.rr
  simp [go_sem, Try.underlying43, Try.underlying3, h3]
  unfold eqT
  have e1 : (⟨s.r.x, s.r.y, s.r.px, s.r.py, s.r.wd, s.r.ht, s.r.ms, s.r.rr⟩ : R8) = s.r := rfl
  have e2 : (⟨t.r.x, t.r.y, t.r.px, t.r.py, t.r.wd, t.r.ht, t.r.ms, t.r.rr⟩ : R8) = t.r := rfl
  rw [e1, e2]
  by_cases h : s.m = t.m <;> cases hr : eqR s.r t.r <;> simp [h]
theorem neqOf {n : Nat} {P : Program} {w : World} {t : TypeId} {xs ys : Array Value} (h : n = 10000) {v : Bool} (e : (Op.equalIn n t (.agg xs) (.agg ys)).run P w = .ok v w) :
    (binOp .neq t (.agg xs) (.agg ys)).run P w = .ok (.bool (!v)) w := by
  subst h
  rw [run_neq_struct, e]
  rfl
theorem neqTh (s t : Th) (w : World) : (binOp .neq 43 (thV s) (thV t)).run Try.prog w = .ok (.bool (!(eqT s t))) w := neqOf (n := 9997 + 3) rfl (eqTh 9997 s t w)

set_option maxHeartbeats 8000000 in
set_option maxRecDepth 100000 in
theorem sameThings_any (b c : Nat) (l m : Mth) (w : World) (h : Mp w b l) (h' : Mp w c m) :
    Calls Try.prog 43 #[.map (some b), .map (some c)] w fun e w' => (∃ g, e = .returned (.bool g) ∧ (g = true ↔ l = m)) ∧ Below w.heap.size w w' := by
  have hln := h.len
  have hln' := h'.len
  have hbz := h.lt
  have hcz := h'.lt
  have HU := hidT h.up
  have HU' := hidT h'.up
  have HH := hidT h
  have HH' := hidT h'
  by_cases hlen : l.length = m.length
  rotate_left
  · have hne : ((l.length : Int) != (m.length : Int)) = true := by simp; omega
    go_enter Try.func43, Try.ntmps43
    go_wp2_with fail
    go_ret
    exact ⟨⟨false, rfl, ⟨fun h => (by cases h), fun h => absurd (by rw [h]) hlen⟩⟩, Below.refl _ _⟩
  have hne : ((l.length : Int) != (m.length : Int)) = false := by simp; omega
  have HLN := hidT hlen
  clear hlen
  have hneq : ∀ (s t : Th) (w : World), (binOp .neq 43 (.agg #[.int .i64 s.m, .int .i64 s.r.x, .int .i64 s.r.y, .int .i64 s.r.px, .int .i64 s.r.py, .int .i64 s.r.wd, .int .i64 s.r.ht, .int .i64 s.r.ms, .int .i64 s.r.rr]) (.agg #[.int .i64 t.m, .int .i64 t.r.x, .int .i64 t.r.y, .int .i64 t.r.px, .int .i64 t.r.py, .int .i64 t.r.wd, .int .i64 t.r.ht, .int .i64 t.r.ms, .int .i64 t.r.rr])).run Try.prog w = .ok (.bool (!(eqT s t))) w := neqTh
  go_enter Try.func43, Try.ntmps43
  go_wp2_with (first | (at_range; refine wp_range _ rfl _ rfl b l rfl h ?_; intro w1 hr1 hg1 hs1) | fail)
  go_frame
  have HR1 := hidT hr1
  have HB1 : Hid (Below w.heap.size w w1) := hidT (below_n (Below.refl _ _) hg1)
  clear hr1 hg1 h h' hln hln'
  go_loopw [5] (fun _ wr => ∃ todo cnt, Hid (Rng wr b w.heap.size l todo cnt) ∧ Hid (∀ p ∈ doneM l todo, getM p.1 m = some p.2) ∧ Hid (Below w.heap.size w wr) ∧ w.heap.size < wr.heap.size) (fun _ wr => wr.rangeLeft b w.heap.size)
  case atStart => exact ⟨l, _, HR1, hidT (fun p hp => by rw [doneM_all HU.out] at hp; cases hp), HB1, by omega⟩
  case round =>
    obtain ⟨todo, cnt, HR, HD, hbl, hzr⟩ := hrel
    go_wp2_with (first | (at_next; refine wp_next _ rfl _ rfl b w.heap.size l todo cnt rfl HR.out ?_ ?_) | fail)
    · intro h0
      subst h0
      go_wp2_with fail
      go_ret
      refine ⟨⟨true, rfl, ⟨fun _ => ?_, fun _ => rfl⟩⟩, hbl.out⟩
      have h1 := HD.out
      rw [doneM_nil] at h1
      exact same_sub HU.out HU'.out HLN.out h1
    · intro k t w2 cnt2 hk hr2 hlt hg2 hs2 hen
      have HK := hidT hk
      have HR2 := hidT hr2
      have HLT := hidT hlt
      have HCN := hidT HR.out.left_eq
      have HSUB := hidT HR.out.sub
      have hkl : getM k l = some t := getM_of_mem HU.out (HSUB.out.2 _ (getM_mem hk))
      have hwf := HH.out.wf hkl
      have HKL := hidT hkl
      have HBL2 : Hid (Below w.heap.size w w2) := hidT (hbl.out.grown hg2 hbl.out.size (fun q hq => by cases hq; exact Nat.le_refl _))
      have hz2 : w.heap.size < w2.heap.size := by omega
      clear hk hr2 hlt hg2 hs2 HR hbl hkl
      have HA := hidT (bal (Below.refl _ w2) (.cells #[.int .i64 t.m, .int .i64 t.r.x, .int .i64 t.r.y, .int .i64 t.r.px, .int .i64 t.r.py, .int .i64 t.r.wd, .int .i64 t.r.ht, .int .i64 t.r.ms, .int .i64 t.r.rr] 43))
      have hlk := ((HH'.out.below HBL2.out).below HA.out).look_ok hwf
      have HGM : Hid (getM k m = getM k m) := hidT rfl
      obtain ⟨o, ho⟩ : ∃ o, getM k m = o := ⟨_, rfl⟩
      rw [ho] at hlk
      have HO := hidT ho
      clear ho HGM
      cases o with
      | none =>
        simp only [Option.getD_none, Option.isSome_none, thV] at hlk
        go_wp2_with fail
        go_ret
        refine ⟨⟨false, rfl, ⟨fun h => (by cases h), fun h => ?_⟩⟩, bal (bcall HBL2.out HA.out) _⟩
        have h1 := HKL.out
        rw [h, HO.out] at h1
        cases h1
      | some s =>
        simp only [Option.getD_some, Option.isSome_some, thV] at hlk
        cases he : eqT t s
        · go_wp2_with fail
          go_ret
          refine ⟨⟨false, rfl, ⟨fun h => (by cases h), fun h => ?_⟩⟩, bal (bcall HBL2.out HA.out) _⟩
          have h1 := HKL.out
          rw [h, HO.out] at h1
          cases h1
          rw [(eqT_iff t t).2 rfl] at he
          cases he
        · go_wp2_with fail
          have hR := (HR2.out.below HA.out).below (bal (Below.refl _ _) (.cells #[.int .i64 s.m, .int .i64 s.r.x, .int .i64 s.r.y, .int .i64 s.r.px, .int .i64 s.r.py, .int .i64 s.r.wd, .int .i64 s.r.ht, .int .i64 s.r.ms, .int .i64 s.r.rr] 43))
          refine ⟨⟨delM k todo, cnt2, hidT hR, hidT (fun p hp => ?_), hidT (bal (bcall HBL2.out HA.out) _), by simp; omega⟩, ?_⟩
          · obtain ⟨h1, h2⟩ := mem_doneM.1 hp
            rw [getM_del HSUB.out.1] at h2
            by_cases e : p.1 = k
            · have h3 := getM_of_mem HU.out (k := p.1) (t := p.2) h1
              rw [e, HKL.out] at h3
              rw [e, HO.out, ← Option.some.inj h3, (eqT_iff t s).1 he]
            · rw [if_neg e] at h2
              exact HD.out p (mem_doneM.2 ⟨h1, h2⟩)
          · rw [hR.left_eq, HCN.out]
            exact HLT.out
end Go.Proofs.Ytckkkdldljhehaa.Th
namespace Go.Proofs.Ytckkkdldljhehaa.Te
open Go.Proofs.Ytckkkdldljhehaa.Num Go.Proofs.Ytckkkdldljhehaa.St Go.Proofs.Ytckkkdldljhehaa.Mp Go.Proofs.Ytckkkdldljhehaa.Th
open Go.ChangeShapes Go.WideShapes Go.ChangeAt Go.RowKit

theorem cells2 {W : World} {b : Nat} {x y : Value} (h : W.rowIs b 28 2 (fun i => if i = 0 then x else y)) : W.cell? ⟨b, 0, none⟩ = some x ∧ W.cell? ⟨b, 1, none⟩ = some y :=
  ⟨h.cell (i := 0) (by omega), h.cell (i := 1) (by omega)⟩
def thCells (t : Th) : List Value := [.int .i64 t.m, .int .i64 t.r.x, .int .i64 t.r.y, .int .i64 t.r.px, .int .i64 t.r.py, .int .i64 t.r.wd, .int .i64 t.r.ht, .int .i64 t.r.ms, .int .i64 t.r.rr]
theorem rowIs9 (w : World) (t : Th) : (w.alloc (.cells #[.int .i64 t.m, .int .i64 t.r.x, .int .i64 t.r.y, .int .i64 t.r.px, .int .i64 t.r.py, .int .i64 t.r.wd, .int .i64 t.r.ht, .int .i64 t.r.ms, .int .i64 t.r.rr] 43)).rowIs w.heap.size 43 9 (fun i => (thCells t).getD i undef) :=
  ⟨_, (MapKept.heap_alloc w _).1, rfl, fun i hi => by
    match i, hi with
    | 0, _ => rfl
    | 1, _ => rfl
    | 2, _ => rfl
    | 3, _ => rfl
    | 4, _ => rfl
    | 5, _ => rfl
    | 6, _ => rfl
    | 7, _ => rfl
    | 8, _ => rfl⟩
/-- A store's tables in memory that read as these. -/
def Out (W : World) (v : Value) (L : List Tab) : Prop := ∃ a n c T I R, v = .slice a n c ∧ StoreIn W a n T I R ∧ plainOf T I R n = L
theorem Out.below {W W' : World} {v : Value} {L : List Tab} (h : Out W v L) (hb : Below W.heap.size W W') : Out W' v L := by
  obtain ⟨a, n, c, T, I, R, e, h1, h2⟩ := h
  exact ⟨a, n, c, T, I, R, e, h1.below hb, h2⟩
theorem out_good {W : World} {B : Nat} {v : Value} {S : List OT} {nx : Int} (h : Own W B v S) (hg : GoodL nx (S.map (·.t))) : Out W v (S.map (·.t)) := by
  obtain ⟨a, c, rfl⟩ := own_form h.1
  obtain ⟨h1, h2⟩ := own_good h rfl hg
  exact ⟨a, _, c, _, _, _, rfl, h1, h2⟩
theorem out_copy {W w0 : World} {B n : Nat} {v : Value} {S : List OT} {a0 : Option Addr} {T : Nat → TabV} {I : Nat → Nat → Int} {R : Nat → Nat → R8} (h : Own W B v S) (hin : StoreIn w0 a0 n T I R) (hs : S.map (·.t) = plainOf T I R n) : Out W v (plainOf T I R n) := by
  have hn : n = S.length := by have := congrArg List.length hs; simpa [plainOf] using this.symm
  obtain ⟨a, c, rfl⟩ := own_form h.1
  rw [← hn] at h ⊢
  obtain ⟨T2, I2, R2, h1, h2⟩ := copy_in h hs hin
  exact ⟨a, n, c, T2, I2, R2, rfl, h1, h2⟩
/-- Alike, where both read as the same tables. -/
theorem same_out {W : World} {v : Value} {a : Option Addr} {n cap : Nat} {next : Int} {T : Nat → TabV} {I : Nat → Nat → Int} {R : Nat → Nat → R8} (h : Out W v (plainOf T I R n)) (hin : StoreIn W a n T I R) :
    Calls Try.prog 30 #[.agg #[v, .int .i64 next], .agg #[.slice a n cap, .int .i64 next]] W fun e w' => e = .returned (.bool true) ∧ Below W.heap.size W w' := by
  obtain ⟨a2, n2, c2, T2, I2, R2, rfl, h1, h2⟩ := h
  obtain ⟨rfl, h3⟩ := Cp.plain_same h2
  exact Cp.same_true a2 a n2 c2 cap next T2 T I2 I R2 R W h1 hin h3
set_option maxHeartbeats 1000000 in
set_option maxRecDepth 100000 in
theorem stored_out {w : World} {v : Value} {nx : Int} {L : List Tab} (h : Out w v L) (hg : GoodL nx L) :
    Calls Try.prog 42 #[.agg #[v, .int .i64 nx], .int .i64 nx] w fun e w' => (∃ b, e = .returned (.tuple #[.map (some b), .bool true]) ∧ w.heap.size ≤ b ∧ Mp w' b (thM L)) ∧ Below w.heap.size w w' := by
  obtain ⟨a, n, c, T, I, R, rfl, h1, h2⟩ := h
  have HT := hid (thingsOf_any a n c nx T I R _ (h1.below (bal (Below.refl _ w) (.cells #[.slice a n c, .int .i64 nx] 28))))
  have HS := hid (rowIs2 w (.slice a n c) (.int .i64 nx) 28)
  rw [h2] at HT
  clear h1 h2
  go_enter Try.func42, Try.ntmps42
  go_wp2_with fail
  refine HT.out.mono ?_
  rintro e w1 ⟨he, hb1⟩
  rcases he with ⟨_, b, rfl, hbs, hmp⟩ | ⟨hno, _⟩
  rotate_left
  · exact absurd hg hno
  have HS1 := hid (rowIs_below HS.out hb1)
  have s1 := HS1.out.cell (i := 1) (by omega)
  have hsz := HS1.out.lt
  simp only [Nat.one_ne_zero, if_false] at s1
  have HB1 := hid (bcall (bal (Below.refl _ w) (.cells #[.slice a n c, .int .i64 nx] 28)) hb1)
  have HMP := hid hmp
  have HBS : Hid (w.heap.size ≤ b) := hid (by simp at hbs; omega)
  clear hb1 hmp hbs
  go_wp2_with fail
  go_quiet (fail)
  go_wp2_with fail
  exact bodyPost_ret (v := .tuple #[.map (some b), .bool true]) (by simp [results, Try.results42, go_sem]) rfl ⟨⟨b, rfl, HBS.out, HMP.out.below (below_drewN (Below.refl _ _) _)⟩, below_drewN HB1.out _⟩
theorem next_new {next : Int} {L : List Tab} (hg : GoodL next L) : next ∉ allL L := by
  intro h
  obtain ⟨t, ht, hx⟩ := List.mem_flatMap.1 h
  have := (hg.2.2.2.2.1 t ht).2.2.1 next hx
  simp [btw] at this
  omega
theorem good_spawned {next mask : Int} {r : R8} {L : List Tab} (hg : GoodL next L) (hr : goodRowB mask r = true) (hl : (allL L).length < 10) (hx : next < 1048576) : GoodL (next + 1) (putT mask next r L) :=
  put_all hg (by omega) (by omega) (by omega) ⟨by have := hg.1; simp [btw] at this; omega, by omega⟩ (next_new hg) hr
theorem good_changed {next v mask m : Int} {q r : R8} {L : List Tab} (hg : GoodL next L) (hv : At L v m q) (hr : goodRowB mask r = true) : GoodL next (putT mask v r (killT v L)) := by
  obtain ⟨h1, h2, h3⟩ := kill_all hg (at_mem hv)
  have hl := h2.length_eq
  have hg2 := hg.2.1
  simp at hl
  have hb : btw v 0 (next - 1) = true := by
    obtain ⟨t, ht, _, j, hj, _⟩ := hv
    exact (hg.2.2.2.2.1 t ht).2.2.1 v (List.mem_of_getElem? hj)
  simp [btw] at hb
  refine put_all h1 (Int.le_refl _) (by have := hg.1; simp [btw] at this; omega) (by omega) ⟨by omega, by omega⟩ ?_ hr
  have hnd := h2.nodup_iff.2 hg.2.2.2.2.2
  exact (List.nodup_cons.1 hnd).1
/-- The things behind each. -/
theorem thM_of {nx : Int} {L' : List Tab} {M : Mth} (hg : GoodL nx L') (hu : Up M) (h : ∀ u m p, At L' u m p ↔ getM u M = some ⟨m, p⟩) : thM L' = M :=
  thM_ext hg.even hg.2.2.2.2.2 hu (fun k t => (h k t.m t.r).symm)
theorem thM_spawned {next mask : Int} {r : R8} {L : List Tab} (hg : GoodL next L) (hr : goodRowB mask r = true) (hl : (allL L).length < 10) (hx : next < 1048576) : thM (putT mask next r L) = putM next ⟨mask, r⟩ (thM L) := by
  refine thM_of (good_spawned hg hr hl hx) ((thM_up L).put _ _) (fun u m p => ?_)
  rw [at_put mask next r L hg.even, getM_put (thM_up L)]
  by_cases h : u = next
  · subst h
    rw [if_pos rfl]
    constructor
    · rintro (⟨_, rfl, rfl⟩ | h1)
      · rfl
      · exact absurd (at_mem h1) (next_new hg)
    · intro e; cases e; exact Or.inl ⟨rfl, rfl, rfl⟩
  · rw [if_neg h, thM_get hg.even hg.2.2.2.2.2]
    constructor
    · rintro (⟨h1, _⟩ | h1)
      · exact absurd h1 h
      · exact h1
    · exact Or.inr
theorem thM_killed {next v : Int} {L : List Tab} (hg : GoodL next L) (hv : v ∈ allL L) : thM (killT v L) = delM v (thM L) := by
  obtain ⟨h1, h2, h3⟩ := kill_all hg hv
  refine thM_of h1 ((thM_up L).del _) (fun u m p => ?_)
  rw [h3, getM_del (thM_up L)]
  by_cases h : u = v
  · simp [h]
  · rw [if_neg h, thM_get hg.even hg.2.2.2.2.2]
    exact ⟨fun h => h.2, fun h1 => ⟨h, h1⟩⟩
theorem thM_set {next v m : Int} {q r : R8} {L : List Tab} (hg : GoodL next L) (hv : At L v m q) (hr : goodRowB m r = true) : GoodL next (setL v r L) ∧ thM (setL v r L) = putM v ⟨m, r⟩ (delM v (thM L)) := by
  have hgs : GoodL next (setL v r L) := good_set hg (fun m' q' h' => by rw [(at_unique hg.2.2.2.2.2 h' hv).1]; exact hr)
  refine ⟨hgs, thM_of hgs (((thM_up L).del v).put _ _) (fun u p s => ?_)⟩
  rw [at_set hg.even, getM_put ((thM_up L).del v), getM_del (thM_up L)]
  by_cases h : u = v
  · subst h
    rw [if_pos rfl]
    constructor
    · rintro (⟨h1, _⟩ | ⟨_, rfl, p', h1⟩)
      · exact absurd rfl h1
      · rw [(at_unique hg.2.2.2.2.2 h1 hv).1]
    · intro e; cases e; exact Or.inr ⟨rfl, rfl, q, hv⟩
  · rw [if_neg h, if_neg h, thM_get hg.even hg.2.2.2.2.2]
    constructor
    · rintro (⟨_, h1⟩ | ⟨h1, _⟩)
      · exact h1
      · exact absurd h1 h
    · intro h1; exact Or.inl ⟨h, h1⟩
theorem thM_changed {next v mask m : Int} {q r : R8} {L : List Tab} {M : Mth} (hg : GoodL next L) (hv : At L v m q) (hr : goodRowB mask r = true) (hu : Up M) (hM : ∀ u, u ≠ v → getM u M = getM u (thM L)) : thM (putT mask v r (killT v L)) = putM v ⟨mask, r⟩ M := by
  obtain ⟨h1, h2, h3⟩ := kill_all hg (at_mem hv)
  refine thM_of (good_changed hg hv hr) (hu.put _ _) (fun u p s => ?_)
  rw [at_put mask v r _ h1.even, h3, getM_put hu]
  by_cases h : u = v
  · subst h
    rw [if_pos rfl]
    constructor
    · rintro (⟨_, rfl, rfl⟩ | ⟨h1, _⟩)
      · rfl
      · exact absurd rfl h1
    · intro e; cases e; exact Or.inl ⟨rfl, rfl, rfl⟩
  · rw [if_neg h, hM u h, thM_get hg.even hg.2.2.2.2.2]
    constructor
    · rintro (⟨h1, _⟩ | ⟨_, h1⟩)
      · exact absurd h1 h
      · exact h1
    · intro h1; exact Or.inr ⟨h, h1⟩
/-- The four, in those words. -/
theorem spawn_out {w : World} {a : Option Addr} {n : Nat} {T : Nat → TabV} {I : Nat → Nat → Int} {R : Nat → Nat → R8} (h : StoreIn w a n T I R) (cap : Nat) (next mask : Int) (r : R8) :
    Calls Try.prog 37 #[.agg #[.slice a n cap, .int .i64 next], .int .i64 mask, .agg #[.int .i64 r.x, .int .i64 r.y, .int .i64 r.px, .int .i64 r.py, .int .i64 r.wd, .int .i64 r.ht, .int .i64 r.ms, .int .i64 r.rr]] w fun e w' =>
      (∃ v nx id ec L', e = .returned (.tuple #[.agg #[v, .int .i64 nx], .int .i64 id, .int .i64 ec]) ∧ Out w' v L' ∧ SpawnOut next mask r (plainOf T I R n) nx id ec L') ∧ Below w.heap.size w w' := by
  refine (spawn_any a n cap next mask T I R r w h (fun a' n' c' B A C _ h2 _ => insertAt_any a' n' c' B A C mask h2 (by omega))).mono ?_
  rintro e w' ⟨⟨v, nx, id, ec, rfl, S, hown, hout⟩, hb⟩
  refine ⟨⟨v, nx, id, ec, _, rfl, ?_, hout⟩, hb⟩
  rcases hout with ⟨_, _, hL, _⟩ | ⟨_, _, _, hg, hr, hl, hx, hL⟩
  · rw [hL]; exact out_copy hown h hL
  · exact out_good (nx := next + 1) hown (by rw [hL]; exact good_spawned hg hr hl hx)
theorem kill_out {w : World} {a : Option Addr} {n : Nat} {T : Nat → TabV} {I : Nat → Nat → Int} {R : Nat → Nat → R8} (h : StoreIn w a n T I R) (cap : Nat) (next v : Int) :
    Calls Try.prog 38 #[.agg #[.slice a n cap, .int .i64 next], .int .i64 v] w fun e w' =>
      (∃ u ec L', e = .returned (.tuple #[.agg #[u, .int .i64 next], .int .i64 ec]) ∧ Out w' u L' ∧ KillOut next v (plainOf T I R n) ec L') ∧ Below w.heap.size w w' := by
  refine (kill_any a n cap next v T I R w h).mono ?_
  rintro e w' ⟨⟨u, ec, rfl, S, hown, hout⟩, hb⟩
  refine ⟨⟨u, ec, _, rfl, ?_, hout⟩, hb⟩
  rcases hout with ⟨_, _, hL⟩ | ⟨_, _, _, hL⟩ | ⟨_, hg, hv, hL⟩
  · rw [hL]; exact out_copy hown h hL
  · rw [hL]; exact out_copy hown h hL
  · exact out_good (nx := next) hown (by rw [hL]; exact (kill_all hg hv).1)
theorem set_out {w : World} {a : Option Addr} {n : Nat} {T : Nat → TabV} {I : Nat → Nat → Int} {R : Nat → Nat → R8} (h : StoreIn w a n T I R) (cap : Nat) (next v : Int) (r : R8) :
    Calls Try.prog 39 #[.agg #[.slice a n cap, .int .i64 next], .int .i64 v, .agg #[.int .i64 r.x, .int .i64 r.y, .int .i64 r.px, .int .i64 r.py, .int .i64 r.wd, .int .i64 r.ht, .int .i64 r.ms, .int .i64 r.rr]] w fun e w' =>
      (∃ u ec L', e = .returned (.tuple #[.agg #[u, .int .i64 next], .int .i64 ec]) ∧ Out w' u L' ∧ SetOut next v r (plainOf T I R n) ec L') ∧ Below w.heap.size w w' := by
  refine (set_any a n cap next v r T I R w h).mono ?_
  rintro e w' ⟨⟨u, ec, rfl, S, hown, hout⟩, hb⟩
  refine ⟨⟨u, ec, _, rfl, ?_, hout⟩, hb⟩
  rcases hout with ⟨_, _, hL⟩ | ⟨_, _, _, hL⟩ | ⟨_, _, _, hL⟩ | ⟨_, hg, ⟨m, q, hv, hr⟩, hL⟩
  · rw [hL]; exact out_copy hown h hL
  · rw [hL]; exact out_copy hown h hL
  · rw [hL]; exact out_copy hown h hL
  · exact out_good (nx := next) hown (by rw [hL]; exact (thM_set hg hv hr).1)
theorem change_out {w : World} {a : Option Addr} {n : Nat} {T : Nat → TabV} {I : Nat → Nat → Int} {R : Nat → Nat → R8} (h : StoreIn w a n T I R) (cap : Nat) (next v mask : Int) (r : R8) :
    Calls Try.prog 40 #[.agg #[.slice a n cap, .int .i64 next], .int .i64 v, .int .i64 mask, .agg #[.int .i64 r.x, .int .i64 r.y, .int .i64 r.px, .int .i64 r.py, .int .i64 r.wd, .int .i64 r.ht, .int .i64 r.ms, .int .i64 r.rr]] w fun e w' =>
      (∃ u ec L', e = .returned (.tuple #[.agg #[u, .int .i64 next], .int .i64 ec]) ∧ Out w' u L' ∧ ChangeOut next v mask r (plainOf T I R n) ec L') ∧ Below w.heap.size w w' := by
  refine (change_any a n cap next v mask r T I R w h).mono ?_
  rintro e w' ⟨⟨u, ec, rfl, S, hown, hout⟩, hb⟩
  refine ⟨⟨u, ec, _, rfl, ?_, hout⟩, hb⟩
  rcases hout with ⟨_, _, hL⟩ | ⟨_, _, _, hL⟩ | ⟨_, _, _, hL⟩ | ⟨_, hg, m, q, hv, hr, hL⟩
  · rw [hL]; exact out_copy hown h hL
  · rw [hL]; exact out_copy hown h hL
  · rw [hL]; exact out_copy hown h hL
  · exact out_good (nx := next) hown (by rw [hL]; exact good_changed hg hv hr)
/-! ### the parts of two masks -/
theorem bits_all : ∀ a ∈ masks, ∀ b ∈ masks, (0 ≤ bits .and .i64 a b ∧ bits .and .i64 a b ≤ 31 ∧ 0 ≤ bits .andNot .i64 a b ∧ bits .andNot .i64 a b ≤ 31 ∧
    hasR (bits .and .i64 a b) 1 = (hasB a 1 && hasB b 1) ∧ hasR (bits .and .i64 a b) 2 = (hasB a 2 && hasB b 2) ∧ hasR (bits .and .i64 a b) 4 = (hasB a 4 && hasB b 4) ∧ hasR (bits .and .i64 a b) 8 = (hasB a 8 && hasB b 8) ∧
    hasR (bits .andNot .i64 a b) 1 = (hasB a 1 && !hasB b 1) ∧ hasR (bits .andNot .i64 a b) 2 = (hasB a 2 && !hasB b 2) ∧ hasR (bits .andNot .i64 a b) 4 = (hasB a 4 && !hasB b 4) ∧ hasR (bits .andNot .i64 a b) 8 = (hasB a 8 && !hasB b 8)) := by decide +kernel
/-- Every number of a row fits 64 bits. -/
def In64 (r : R8) : Prop := (Lit.int .i64 r.x).wf = true ∧ (Lit.int .i64 r.y).wf = true ∧ (Lit.int .i64 r.px).wf = true ∧ (Lit.int .i64 r.py).wf = true ∧ (Lit.int .i64 r.wd).wf = true ∧ (Lit.int .i64 r.ht).wf = true ∧ (Lit.int .i64 r.ms).wf = true ∧ (Lit.int .i64 r.rr).wf = true
theorem sum_pick (a b : Bool) (x y : Int) (hx : (Lit.int .i64 x).wf = true) (hy : (Lit.int .i64 y).wf = true) : wrap64 ((if (a && b) = true then x else 0) + (if (a && !b) = true then y else 0)) = if a = true then (if b = true then x else y) else 0 := by
  have h1 := bounds_i64 hx
  have h2 := bounds_i64 hy
  cases a <;> cases b <;> simp <;> unfold wrap64 <;> omega
/-- What Change makes of a row, part by part. -/
theorem ch_sum {mask m : Int} {q r : R8} (hm : 0 ≤ mask ∧ mask ≤ 31) (hm' : 0 ≤ m ∧ m ≤ 31) (hq : In64 q) (hr : In64 r) :
    chR mask m q r = ⟨wrap64 ((onlyH (bits .and .i64 mask m) q).x + (onlyH (bits .andNot .i64 mask m) r).x), wrap64 ((onlyH (bits .and .i64 mask m) q).y + (onlyH (bits .andNot .i64 mask m) r).y), wrap64 ((onlyH (bits .and .i64 mask m) q).px + (onlyH (bits .andNot .i64 mask m) r).px), wrap64 ((onlyH (bits .and .i64 mask m) q).py + (onlyH (bits .andNot .i64 mask m) r).py),
      wrap64 ((onlyH (bits .and .i64 mask m) q).wd + (onlyH (bits .andNot .i64 mask m) r).wd), wrap64 ((onlyH (bits .and .i64 mask m) q).ht + (onlyH (bits .andNot .i64 mask m) r).ht), wrap64 ((onlyH (bits .and .i64 mask m) q).ms + (onlyH (bits .andNot .i64 mask m) r).ms), wrap64 ((onlyH (bits .and .i64 mask m) q).rr + (onlyH (bits .andNot .i64 mask m) r).rr)⟩ := by
  obtain ⟨_, _, _, _, a1, a2, a4, a8, b1, b2, b4, b8⟩ := bits_all mask (mem_masks hm) m (mem_masks hm')
  obtain ⟨x1, x2, x3, x4, x5, x6, x7, x8⟩ := hq
  obtain ⟨y1, y2, y3, y4, y5, y6, y7, y8⟩ := hr
  simp only [chR, onlyR, layR, zeroR, onlyH, a1, a2, a4, a8, b1, b2, b4, b8, sum_pick _ _ _ _ x1 y1, sum_pick _ _ _ _ x2 y2, sum_pick _ _ _ _ x3 y3, sum_pick _ _ _ _ x4 y4, sum_pick _ _ _ _ x5 y5, sum_pick _ _ _ _ x6 y6, sum_pick _ _ _ _ x7 y7, sum_pick _ _ _ _ x8 y8]
theorem good_in64 {m : Int} {q : R8} (h : goodRowB m q = true) : In64 q := by
  have e : goodRowB m q = isRowH m q := (isRow_good m q).symm
  rw [e] at h
  simp only [isRowH, Bool.and_eq_true] at h
  obtain ⟨_, ⟨⟨⟨h1, h2⟩, h4⟩, h8⟩, he⟩ := h
  have e := (eqR_iff _ _).1 he
  have ex := congrArg R8.x e
  have ey := congrArg R8.y e
  have epx := congrArg R8.px e
  have epy := congrArg R8.py e
  have ew := congrArg R8.wd e
  have eh := congrArg R8.ht e
  have em := congrArg R8.ms e
  have er := congrArg R8.rr e
  simp only [onlyH] at ex ey epx epy ew eh em er
  unfold p1B at h1
  unfold p2B at h2
  unfold p4B at h4
  unfold p8B at h8
  clear e he
  refine ⟨?_, ?_, ?_, ?_, ?_, ?_, ?_, ?_⟩ <;> apply Go.WalkArith.wf_i64
  · cases g : hasR m 1 <;> rw [g] at ex h1 <;> simp [btw] at ex h1 <;> omega
  · cases g : hasR m 1 <;> rw [g] at ey h1 <;> simp [btw] at ey h1 <;> omega
  · cases g : hasR m 2 <;> rw [g] at epx h2 <;> simp [btw] at epx h2 <;> omega
  · cases g : hasR m 2 <;> rw [g] at epy h2 <;> simp [btw] at epy h2 <;> omega
  · cases g : hasR m 4 <;> rw [g] at ew h4 <;> simp [btw] at ew h4 <;> omega
  · cases g : hasR m 4 <;> rw [g] at eh h4 <;> simp [btw] at eh h4 <;> omega
  · cases g : hasR m 8 <;> rw [g] at em h8 <;> simp [btw] at em h8 <;> omega
  · cases g : hasR m 8 <;> rw [g] at er h8 <;> simp [btw] at er h8 <;> omega
end Go.Proofs.Ytckkkdldljhehaa.Te
namespace Go.Proofs.Ytckkkdldljhehaa.Rh

theorem wp_act {P : Program} {c : Code} {Q : Exit → Act → World → Prop} {A0 : Act} {w : World} (h : ∀ A, A = A0 → Code.wp P c Q A w) : Code.wp P c Q A0 w := h A0 rfl
/-- All slots but those of the list are as in A. -/
def Fr (ds : List Nat) (A a : Act) : Prop := a.tmps.size = A.tmps.size ∧ a.defers = A.defers ∧ ∀ i, i ∉ ds → a.tmps[i]?.getD undef = A.tmps[i]?.getD undef
theorem Fr.refl (ds : List Nat) (A : Act) : Fr ds A A := ⟨rfl, rfl, fun _ _ => rfl⟩
theorem put_ne {a : Act} {d i : Nat} {v : Value} (h : d ≠ i) : (a.put (some d) v).tmps[i]?.getD undef = a.tmps[i]?.getD undef := by
  simp only [Act.put]
  rw [Array.getElem?_setIfInBounds_ne h]
theorem put_at {a : Act} {d : Nat} {v : Value} (h : d < a.tmps.size) : (a.put (some d) v).tmps[d]?.getD undef = v := by
  simp only [Act.put]
  rw [Array.getElem?_setIfInBounds_self_of_lt h]
  rfl
theorem ne_put {a : Act} {d i j : Nat} {v : Value} (hi : d ≠ i) (hj : d ≠ j) (h : a.tmps[i]?.getD undef ≠ a.tmps[j]?.getD undef) : (a.put (some d) v).tmps[i]?.getD undef ≠ (a.put (some d) v).tmps[j]?.getD undef := by
  rw [put_ne hi, put_ne hj]
  exact h
theorem ne_new {a : Act} {d j : Nat} {v : Value} (hd : d < a.tmps.size) (hj : d ≠ j) (h : v ≠ a.tmps[j]?.getD undef) : (a.put (some d) v).tmps[d]?.getD undef ≠ (a.put (some d) v).tmps[j]?.getD undef := by
  rw [put_at hd, put_ne hj]
  exact h
theorem put_size {a : Act} {d : Nat} {v : Value} : (a.put (some d) v).tmps.size = a.tmps.size := by simp [Act.put]
theorem Fr.put {ds : List Nat} {A a : Act} (h : Fr ds A a) {d : Nat} (hd : d ∈ ds) (v : Value) : Fr ds A (a.put (some d) v) :=
  ⟨put_size.trans h.1, h.2.1, fun i hi => (put_ne (fun e => hi (by rw [← e]; exact hd))).trans (h.2.2 i hi)⟩
theorem Fr.at {ds : List Nat} {A a : Act} (h : Fr ds A a) {d : Nat} (hd : d < A.tmps.size) (v : Value) : (a.put (some d) v).tmps[d]?.getD undef = v := put_at (by rw [h.1]; exact hd)
def puts (f : Nat → Value) : List Nat → Act → Act
  | [], A => A
  | d :: ds, A => puts f ds (A.put (some d) (f d))
theorem puts_size (f : Nat → Value) : ∀ (ds : List Nat) (A : Act), (puts f ds A).tmps.size = A.tmps.size
  | [], _ => rfl
  | _ :: ds, _ => (puts_size f ds _).trans put_size
theorem puts_defers (f : Nat → Value) : ∀ (ds : List Nat) (A : Act), (puts f ds A).defers = A.defers
  | [], _ => rfl
  | _ :: ds, _ => (puts_defers f ds _).trans rfl
theorem puts_get (f : Nat → Value) (i : Nat) : ∀ (ds : List Nat) (A : Act), i < A.tmps.size → (puts f ds A).tmps[i]?.getD undef = if i ∈ ds then f i else A.tmps[i]?.getD undef
  | [], _, _ => by simp [puts]
  | d :: ds, A, h => by
    unfold puts
    rw [puts_get f i ds _ (by rw [put_size]; exact h)]
    by_cases h1 : i ∈ ds
    · rw [if_pos h1, if_pos (List.mem_cons_of_mem _ h1)]
    · rw [if_neg h1]
      by_cases h2 : d = i
      · subst h2
        rw [put_at h, if_pos (List.mem_cons_self ..)]
      · rw [put_ne h2, if_neg (by simp; exact ⟨fun e => h2 e.symm, h1⟩)]
theorem Fr.eq {ds : List Nat} {A a : Act} (h : Fr ds A a) (f : Nat → Value) (hf : ∀ d ∈ ds, a.tmps[d]?.getD undef = f d) : a = puts f ds A := by
  have e : a.tmps = (puts f ds A).tmps := by
    refine Array.ext (h.1.trans (puts_size f ds A).symm) (fun i h1 h2 => ?_)
    have g1 : a.tmps[i]?.getD undef = a.tmps[i] := by rw [Array.getElem?_eq_getElem h1]; rfl
    have g2 : (puts f ds A).tmps[i]?.getD undef = (puts f ds A).tmps[i] := by rw [Array.getElem?_eq_getElem h2]; rfl
    rw [← g1, ← g2, puts_get f i ds A (by rw [← h.1]; exact h1)]
    by_cases hi : i ∈ ds
    · rw [if_pos hi, hf i hi]
    · rw [if_neg hi, h.2.2 i hi]
  have e2 : a.defers = (puts f ds A).defers := h.2.1.trans (puts_defers f ds A).symm
  cases a
  cases hp : puts f ds A
  rw [hp] at e e2
  simp only at e e2
  rw [e, e2]
end Go.Proofs.Ytckkkdldljhehaa.Rh
namespace Go.Proofs.Ytckkkdldljhehaa.Te
open Go.Proofs.Ytckkkdldljhehaa.Num Go.Proofs.Ytckkkdldljhehaa.St Go.Proofs.Ytckkkdldljhehaa.Mp Go.Proofs.Ytckkkdldljhehaa.Th
open Go.ChangeShapes Go.WideShapes Go.ChangeAt Go.RowKit

def findR (n : Nat) : Code → Option Code
  | .region i ops d => if i = n then some (.region i ops d) else none
  | .seq a b => match findR n a with
    | some c => some c
    | none => findR n b
  | .block _ c => findR n c
  | .scope c => findR n c
  | .loop c => findR n c
  | .cond _ a b => match findR n a with
    | some c => some c
    | none => findR n b
  | _ => none
noncomputable def reg39 : Code := ((Try.f6.body.bind (findR 39)).getD .skip)
abbrev put8 (W : World) (g : Nat) (r : R8) : World := (((((((W.setCell ⟨g, 0, none⟩ (.int .i64 r.x)).setCell ⟨g, 1, none⟩ (.int .i64 r.y)).setCell ⟨g, 2, none⟩ (.int .i64 r.px)).setCell ⟨g, 3, none⟩ (.int .i64 r.py)).setCell ⟨g, 4, none⟩ (.int .i64 r.wd)).setCell ⟨g, 5, none⟩ (.int .i64 r.ht)).setCell ⟨g, 6, none⟩ (.int .i64 r.ms)).setCell ⟨g, 7, none⟩ (.int .i64 r.rr)
theorem row8p {W : World} {g : Nat} {t : TypeId} {f : Nat → Value} (h : W.rowIs g t 8 f) (r : R8) : (put8 W g r).rowIs g t 8 (fun i => (rowCells r).getD i undef) := by
  refine ((((((((h.set 0 _).set 1 _).set 2 _).set 3 _).set 4 _).set 5 _).set 6 _).set 7 _).congr (fun i hi => ?_)
  match i, hi with
  | 0, _ => rfl
  | 1, _ => rfl
  | 2, _ => rfl
  | 3, _ => rfl
  | 4, _ => rfl
  | 5, _ => rfl
  | 6, _ => rfl
  | 7, _ => rfl
theorem row8o {W : World} {g h n : Nat} {t : TypeId} {f : Nat → Value} (hh : W.rowIs h t n f) (hne : h ≠ g) (r : R8) : (put8 W g r).rowIs h t n f := by
  unfold put8
  repeat refine World.rowIs.of_block ?_ (Below.heap_setCell _ _ _ _ hne)
  exact hh
theorem below8p {w W : World} {g : Nat} (h : Below w.heap.size w W) (hg : w.heap.size ≤ g) (r : R8) : Below w.heap.size w (put8 W g r) := by
  unfold put8
  repeat refine Below.setCell ?_ hg _
  exact h
def zf (i : Nat) : Value := (rowCells ⟨0, 0, 0, 0, 0, 0, 0, 0⟩).getD i undef
theorem zrow (w : World) : (w.alloc (.cells #[.int .i64 0, .int .i64 0, .int .i64 0, .int .i64 0, .int .i64 0, .int .i64 0, .int .i64 0, .int .i64 0] 30)).rowIs w.heap.size 30 8 zf := rowIs8 w ⟨0, 0, 0, 0, 0, 0, 0, 0⟩ 30
theorem rowCellF {W : World} {b : Nat} {t : TypeId} {f : Nat → Value} (h : W.rowIs b t 8 f) : W.cell? ⟨b, 0, none⟩ = some (f 0) ∧ W.cell? ⟨b, 1, none⟩ = some (f 1) ∧ W.cell? ⟨b, 2, none⟩ = some (f 2) ∧ W.cell? ⟨b, 3, none⟩ = some (f 3) ∧ W.cell? ⟨b, 4, none⟩ = some (f 4) ∧ W.cell? ⟨b, 5, none⟩ = some (f 5) ∧ W.cell? ⟨b, 6, none⟩ = some (f 6) ∧ W.cell? ⟨b, 7, none⟩ = some (f 7) :=
  ⟨h.cell (i := 0) (by omega), h.cell (i := 1) (by omega), h.cell (i := 2) (by omega), h.cell (i := 3) (by omega), h.cell (i := 4) (by omega), h.cell (i := 5) (by omega), h.cell (i := 6) (by omega), h.cell (i := 7) (by omega)⟩
attribute [local go_sem ↓] Go.wp_at_zero Go.wp_at_succ
set_option maxHeartbeats 16000000 in
set_option maxRecDepth 100000 in
theorem reg39_wp (K : Act → World → Prop) (Rr : Ending → World → Prop) (A : Act) (mask : Int) (t : Th) (r qo qm : R8) (tb rb : Nat) (wz : World)
    (e2 : A.tmps[2]?.getD undef = .int .i64 mask) (e24 : A.tmps[24]?.getD undef = .pointer (some ⟨tb, 0, none⟩)) (e7 : A.tmps[7]?.getD undef = .pointer (some ⟨rb, 0, none⟩)) (hsz : 308 < A.tmps.size)
    (hko : ∀ W, Calls Try.prog 29 #[.int .i64 (bits .and .i64 mask t.m), .agg #[.int .i64 t.r.x, .int .i64 t.r.y, .int .i64 t.r.px, .int .i64 t.r.py, .int .i64 t.r.wd, .int .i64 t.r.ht, .int .i64 t.r.ms, .int .i64 t.r.rr]] W fun e w' => e = .returned (.agg #[.int .i64 qo.x, .int .i64 qo.y, .int .i64 qo.px, .int .i64 qo.py, .int .i64 qo.wd, .int .i64 qo.ht, .int .i64 qo.ms, .int .i64 qo.rr]) ∧ Below W.heap.size W w')
    (hkm : ∀ W, Calls Try.prog 29 #[.int .i64 (bits .andNot .i64 mask t.m), .agg #[.int .i64 r.x, .int .i64 r.y, .int .i64 r.px, .int .i64 r.py, .int .i64 r.wd, .int .i64 r.ht, .int .i64 r.ms, .int .i64 r.rr]] W fun e w' => e = .returned (.agg #[.int .i64 qm.x, .int .i64 qm.y, .int .i64 qm.px, .int .i64 qm.py, .int .i64 qm.wd, .int .i64 qm.ht, .int .i64 qm.ms, .int .i64 qm.rr]) ∧ Below W.heap.size W w')
    (hsk : ∀ W, Below wz.heap.size wz W → W.cell? ⟨tb, 0, none⟩ = some (.int .i64 t.m) ∧ W.cell? ⟨tb, 1, none⟩ = some (.int .i64 t.r.x) ∧ W.cell? ⟨tb, 2, none⟩ = some (.int .i64 t.r.y) ∧ W.cell? ⟨tb, 3, none⟩ = some (.int .i64 t.r.px) ∧ W.cell? ⟨tb, 4, none⟩ = some (.int .i64 t.r.py) ∧ W.cell? ⟨tb, 5, none⟩ = some (.int .i64 t.r.wd) ∧ W.cell? ⟨tb, 6, none⟩ = some (.int .i64 t.r.ht) ∧ W.cell? ⟨tb, 7, none⟩ = some (.int .i64 t.r.ms) ∧ W.cell? ⟨tb, 8, none⟩ = some (.int .i64 t.r.rr) ∧ W.cell? ⟨rb, 0, none⟩ = some (.int .i64 r.x) ∧ W.cell? ⟨rb, 1, none⟩ = some (.int .i64 r.y) ∧ W.cell? ⟨rb, 2, none⟩ = some (.int .i64 r.px) ∧ W.cell? ⟨rb, 3, none⟩ = some (.int .i64 r.py) ∧ W.cell? ⟨rb, 4, none⟩ = some (.int .i64 r.wd) ∧ W.cell? ⟨rb, 5, none⟩ = some (.int .i64 r.ht) ∧ W.cell? ⟨rb, 6, none⟩ = some (.int .i64 r.ms) ∧ W.cell? ⟨rb, 7, none⟩ = some (.int .i64 r.rr))
    (h : ∀ (f : Nat → Value) (b c : Nat) (W : World), f 31 = .pointer (some ⟨b, 0, none⟩) → f 32 = .pointer (some ⟨c, 0, none⟩) → W.rowIs b 30 8 (fun i => (rowCells qo).getD i undef) → W.rowIs c 30 8 (fun i => (rowCells qm).getD i undef) → Below wz.heap.size wz W → K (Rh.puts f [31, 32, 296, 297, 298, 299, 300, 301, 302, 303, 304, 305, 306, 307, 308] A) W) :
    Code.wp Try.prog reg39 (Exit.then K (bodyPost Try.prog Try.f6 Rr)) A wz := by
  have HKO := hid hko
  have HKM := hid hkm
  have HSK := hid hsk
  have H := hid h
  clear hko hkm hsk h
  conv => arg 2; whnf
  refine Rg.wp_region_inv (by kernel_rfl) (fun Lf a1 w1 => Hid (Rh.Fr [31, 32, 296, 297, 298, 299, 300, 301, 302, 303, 304, 305, 306, 307, 308] A a1) ∧ Hid (Lf 0 = true → a1.tmps[296]?.getD undef = .int .i64 mask) ∧ Hid (Lf 1 = true → a1.tmps[297]?.getD undef = .pointer (some ⟨tb, 0, none⟩)) ∧ Hid (Lf 2 = true → a1.tmps[298]?.getD undef = .int .i64 t.m) ∧ Hid (Lf 3 = true → a1.tmps[299]?.getD undef = .int .i64 (bits .and .i64 mask t.m)) ∧ Hid (Lf 4 = true → a1.tmps[300]?.getD undef = .pointer (some ⟨tb, 1, none⟩)) ∧ Hid (Lf 5 = true → a1.tmps[301]?.getD undef = .agg #[.int .i64 t.r.x, .int .i64 t.r.y, .int .i64 t.r.px, .int .i64 t.r.py, .int .i64 t.r.wd, .int .i64 t.r.ht, .int .i64 t.r.ms, .int .i64 t.r.rr]) ∧ Hid (Lf 6 = true → a1.tmps[302]?.getD undef = .agg #[.int .i64 qo.x, .int .i64 qo.y, .int .i64 qo.px, .int .i64 qo.py, .int .i64 qo.wd, .int .i64 qo.ht, .int .i64 qo.ms, .int .i64 qo.rr]) ∧ Hid (Lf 7 = true → a1.tmps[303]?.getD undef = .int .i64 mask) ∧ Hid (Lf 8 = true → a1.tmps[304]?.getD undef = .pointer (some ⟨tb, 0, none⟩)) ∧ Hid (Lf 9 = true → a1.tmps[305]?.getD undef = .int .i64 t.m) ∧ Hid (Lf 10 = true → a1.tmps[306]?.getD undef = .int .i64 (bits .andNot .i64 mask t.m)) ∧ Hid (Lf 11 = true → a1.tmps[307]?.getD undef = .agg #[.int .i64 r.x, .int .i64 r.y, .int .i64 r.px, .int .i64 r.py, .int .i64 r.wd, .int .i64 r.ht, .int .i64 r.ms, .int .i64 r.rr]) ∧ Hid (Lf 12 = true → a1.tmps[308]?.getD undef = .agg #[.int .i64 qm.x, .int .i64 qm.y, .int .i64 qm.px, .int .i64 qm.py, .int .i64 qm.wd, .int .i64 qm.ht, .int .i64 qm.ms, .int .i64 qm.rr]) ∧ Hid (Below wz.heap.size wz w1) ∧ Hid (Lf 15 = true → Lf 13 = true ∧ Lf 14 = true) ∧ Hid (Lf 16 = true → Lf 14 = true) ∧ Hid (Lf 13 = true → ∃ b f, a1.tmps[31]?.getD undef = .pointer (some ⟨b, 0, none⟩) ∧ wz.heap.size ≤ b ∧ w1.rowIs b 30 8 f ∧ (Lf 15 = true → f = fun i => (rowCells qo).getD i undef)) ∧ Hid (Lf 14 = true → ∃ b f, a1.tmps[32]?.getD undef = .pointer (some ⟨b, 0, none⟩) ∧ wz.heap.size ≤ b ∧ w1.rowIs b 30 8 f ∧ (Lf 16 = true → f = fun i => (rowCells qm).getD i undef)) ∧ Hid (Lf 13 = true → Lf 14 = true → a1.tmps[31]?.getD undef ≠ a1.tmps[32]?.getD undef)) (by kernel_rfl) ?rs ?rg ?re
  case rs =>
    refine ⟨hid (Rh.Fr.refl _ _), hid (fun h => by cases h), hid (fun h => by cases h), hid (fun h => by cases h), hid (fun h => by cases h), hid (fun h => by cases h), hid (fun h => by cases h), hid (fun h => by cases h), hid (fun h => by cases h), hid (fun h => by cases h), hid (fun h => by cases h), hid (fun h => by cases h), hid (fun h => by cases h), hid (fun h => by cases h), hid (Below.drew (Below.refl _ _)), hid (fun h => by cases h), hid (fun h => by cases h), hid (fun h => by cases h), hid (fun h => by cases h), hid (fun h => by cases h)⟩
  case rg =>
    intro Lf a1 w1 hI
    obtain ⟨cF, c0, c1, c2, c3, c4, c5, c6, c7, c8, c9, c10, c11, c12, cB, cR, cS, c13, c14, cN⟩ := hI
    refine ⟨fun hl hd K' hK => ?o0, fun hl hd K' hK => ?o1, fun hl hd K' hK => ?o2, fun hl hd K' hK => ?o3, fun hl hd K' hK => ?o4, fun hl hd K' hK => ?o5, fun hl hd K' hK => ?o6, fun hl hd K' hK => ?o7, fun hl hd K' hK => ?o8, fun hl hd K' hK => ?o9, fun hl hd K' hK => ?o10, fun hl hd K' hK => ?o11, fun hl hd K' hK => ?o12, fun hl hd K' hK => ?o13, fun hl hd K' hK => ?o14, fun hl hd K' hK => ?o15, fun hl hd K' hK => ?o16, trivial⟩
    case o0 =>
      clear hd
      have q0 := (cF.out.2.2 2 (by decide)).trans e2
      go_simp
      refine hK.out _ _ ⟨hid (cF.out.put (by decide) _), hid (fun _ => cF.out.at (by omega) _), hid (fun h => (Rh.put_ne (by decide)).trans (c1.out (Rg.up_ne h (by decide)))), hid (fun h => (Rh.put_ne (by decide)).trans (c2.out (Rg.up_ne h (by decide)))), hid (fun h => (Rh.put_ne (by decide)).trans (c3.out (Rg.up_ne h (by decide)))), hid (fun h => (Rh.put_ne (by decide)).trans (c4.out (Rg.up_ne h (by decide)))), hid (fun h => (Rh.put_ne (by decide)).trans (c5.out (Rg.up_ne h (by decide)))), hid (fun h => (Rh.put_ne (by decide)).trans (c6.out (Rg.up_ne h (by decide)))), hid (fun h => (Rh.put_ne (by decide)).trans (c7.out (Rg.up_ne h (by decide)))), hid (fun h => (Rh.put_ne (by decide)).trans (c8.out (Rg.up_ne h (by decide)))), hid (fun h => (Rh.put_ne (by decide)).trans (c9.out (Rg.up_ne h (by decide)))), hid (fun h => (Rh.put_ne (by decide)).trans (c10.out (Rg.up_ne h (by decide)))), hid (fun h => (Rh.put_ne (by decide)).trans (c11.out (Rg.up_ne h (by decide)))), hid (fun h => (Rh.put_ne (by decide)).trans (c12.out (Rg.up_ne h (by decide)))), cB, hid (fun h => ⟨Rg.up_of (cR.out (Rg.up_ne h (by decide))).1, Rg.up_of (cR.out (Rg.up_ne h (by decide))).2⟩), hid (fun h => Rg.up_of (cS.out (Rg.up_ne h (by decide)))), hid (fun h => by obtain ⟨b, f, e1, e2', e3, e4⟩ := c13.out (Rg.up_ne h (by decide)); exact ⟨b, f, (Rh.put_ne (by decide)).trans e1, e2', e3, fun h => e4 (Rg.up_ne h (by decide))⟩), hid (fun h => by obtain ⟨b, f, e1, e2', e3, e4⟩ := c14.out (Rg.up_ne h (by decide)); exact ⟨b, f, (Rh.put_ne (by decide)).trans e1, e2', e3, fun h => e4 (Rg.up_ne h (by decide))⟩), hid (fun h h' => Rh.ne_put (by decide) (by decide) (cN.out (Rg.up_ne h (by decide)) (Rg.up_ne h' (by decide))))⟩
    case o1 =>
      clear hd
      have q0 := (cF.out.2.2 24 (by decide)).trans e24
      go_simp
      refine hK.out _ _ ⟨hid (cF.out.put (by decide) _), hid (fun h => (Rh.put_ne (by decide)).trans (c0.out (Rg.up_ne h (by decide)))), hid (fun _ => cF.out.at (by omega) _), hid (fun h => (Rh.put_ne (by decide)).trans (c2.out (Rg.up_ne h (by decide)))), hid (fun h => (Rh.put_ne (by decide)).trans (c3.out (Rg.up_ne h (by decide)))), hid (fun h => (Rh.put_ne (by decide)).trans (c4.out (Rg.up_ne h (by decide)))), hid (fun h => (Rh.put_ne (by decide)).trans (c5.out (Rg.up_ne h (by decide)))), hid (fun h => (Rh.put_ne (by decide)).trans (c6.out (Rg.up_ne h (by decide)))), hid (fun h => (Rh.put_ne (by decide)).trans (c7.out (Rg.up_ne h (by decide)))), hid (fun h => (Rh.put_ne (by decide)).trans (c8.out (Rg.up_ne h (by decide)))), hid (fun h => (Rh.put_ne (by decide)).trans (c9.out (Rg.up_ne h (by decide)))), hid (fun h => (Rh.put_ne (by decide)).trans (c10.out (Rg.up_ne h (by decide)))), hid (fun h => (Rh.put_ne (by decide)).trans (c11.out (Rg.up_ne h (by decide)))), hid (fun h => (Rh.put_ne (by decide)).trans (c12.out (Rg.up_ne h (by decide)))), cB, hid (fun h => ⟨Rg.up_of (cR.out (Rg.up_ne h (by decide))).1, Rg.up_of (cR.out (Rg.up_ne h (by decide))).2⟩), hid (fun h => Rg.up_of (cS.out (Rg.up_ne h (by decide)))), hid (fun h => by obtain ⟨b, f, e1, e2', e3, e4⟩ := c13.out (Rg.up_ne h (by decide)); exact ⟨b, f, (Rh.put_ne (by decide)).trans e1, e2', e3, fun h => e4 (Rg.up_ne h (by decide))⟩), hid (fun h => by obtain ⟨b, f, e1, e2', e3, e4⟩ := c14.out (Rg.up_ne h (by decide)); exact ⟨b, f, (Rh.put_ne (by decide)).trans e1, e2', e3, fun h => e4 (Rg.up_ne h (by decide))⟩), hid (fun h h' => Rh.ne_put (by decide) (by decide) (cN.out (Rg.up_ne h (by decide)) (Rg.up_ne h' (by decide))))⟩
    case o2 =>
      simp [Rg.deps, Region.binds] at hd
      have q0 := c1.out hd
      obtain ⟨z0, z1, z2, z3, z4, z5, z6, z7, z8, y0, y1, y2, y3, y4, y5, y6, y7⟩ := HSK.out _ cB.out
      go_simp
      refine hK.out _ _ ⟨hid (cF.out.put (by decide) _), hid (fun h => (Rh.put_ne (by decide)).trans (c0.out (Rg.up_ne h (by decide)))), hid (fun h => (Rh.put_ne (by decide)).trans (c1.out (Rg.up_ne h (by decide)))), hid (fun _ => cF.out.at (by omega) _), hid (fun h => (Rh.put_ne (by decide)).trans (c3.out (Rg.up_ne h (by decide)))), hid (fun h => (Rh.put_ne (by decide)).trans (c4.out (Rg.up_ne h (by decide)))), hid (fun h => (Rh.put_ne (by decide)).trans (c5.out (Rg.up_ne h (by decide)))), hid (fun h => (Rh.put_ne (by decide)).trans (c6.out (Rg.up_ne h (by decide)))), hid (fun h => (Rh.put_ne (by decide)).trans (c7.out (Rg.up_ne h (by decide)))), hid (fun h => (Rh.put_ne (by decide)).trans (c8.out (Rg.up_ne h (by decide)))), hid (fun h => (Rh.put_ne (by decide)).trans (c9.out (Rg.up_ne h (by decide)))), hid (fun h => (Rh.put_ne (by decide)).trans (c10.out (Rg.up_ne h (by decide)))), hid (fun h => (Rh.put_ne (by decide)).trans (c11.out (Rg.up_ne h (by decide)))), hid (fun h => (Rh.put_ne (by decide)).trans (c12.out (Rg.up_ne h (by decide)))), cB, hid (fun h => ⟨Rg.up_of (cR.out (Rg.up_ne h (by decide))).1, Rg.up_of (cR.out (Rg.up_ne h (by decide))).2⟩), hid (fun h => Rg.up_of (cS.out (Rg.up_ne h (by decide)))), hid (fun h => by obtain ⟨b, f, e1, e2', e3, e4⟩ := c13.out (Rg.up_ne h (by decide)); exact ⟨b, f, (Rh.put_ne (by decide)).trans e1, e2', e3, fun h => e4 (Rg.up_ne h (by decide))⟩), hid (fun h => by obtain ⟨b, f, e1, e2', e3, e4⟩ := c14.out (Rg.up_ne h (by decide)); exact ⟨b, f, (Rh.put_ne (by decide)).trans e1, e2', e3, fun h => e4 (Rg.up_ne h (by decide))⟩), hid (fun h h' => Rh.ne_put (by decide) (by decide) (cN.out (Rg.up_ne h (by decide)) (Rg.up_ne h' (by decide))))⟩
    case o3 =>
      simp [Rg.deps, Region.binds] at hd
      have q0 := c0.out hd.1
      have q1 := c2.out hd.2
      go_simp
      refine hK.out _ _ ⟨hid (cF.out.put (by decide) _), hid (fun h => (Rh.put_ne (by decide)).trans (c0.out (Rg.up_ne h (by decide)))), hid (fun h => (Rh.put_ne (by decide)).trans (c1.out (Rg.up_ne h (by decide)))), hid (fun h => (Rh.put_ne (by decide)).trans (c2.out (Rg.up_ne h (by decide)))), hid (fun _ => cF.out.at (by omega) _), hid (fun h => (Rh.put_ne (by decide)).trans (c4.out (Rg.up_ne h (by decide)))), hid (fun h => (Rh.put_ne (by decide)).trans (c5.out (Rg.up_ne h (by decide)))), hid (fun h => (Rh.put_ne (by decide)).trans (c6.out (Rg.up_ne h (by decide)))), hid (fun h => (Rh.put_ne (by decide)).trans (c7.out (Rg.up_ne h (by decide)))), hid (fun h => (Rh.put_ne (by decide)).trans (c8.out (Rg.up_ne h (by decide)))), hid (fun h => (Rh.put_ne (by decide)).trans (c9.out (Rg.up_ne h (by decide)))), hid (fun h => (Rh.put_ne (by decide)).trans (c10.out (Rg.up_ne h (by decide)))), hid (fun h => (Rh.put_ne (by decide)).trans (c11.out (Rg.up_ne h (by decide)))), hid (fun h => (Rh.put_ne (by decide)).trans (c12.out (Rg.up_ne h (by decide)))), cB, hid (fun h => ⟨Rg.up_of (cR.out (Rg.up_ne h (by decide))).1, Rg.up_of (cR.out (Rg.up_ne h (by decide))).2⟩), hid (fun h => Rg.up_of (cS.out (Rg.up_ne h (by decide)))), hid (fun h => by obtain ⟨b, f, e1, e2', e3, e4⟩ := c13.out (Rg.up_ne h (by decide)); exact ⟨b, f, (Rh.put_ne (by decide)).trans e1, e2', e3, fun h => e4 (Rg.up_ne h (by decide))⟩), hid (fun h => by obtain ⟨b, f, e1, e2', e3, e4⟩ := c14.out (Rg.up_ne h (by decide)); exact ⟨b, f, (Rh.put_ne (by decide)).trans e1, e2', e3, fun h => e4 (Rg.up_ne h (by decide))⟩), hid (fun h h' => Rh.ne_put (by decide) (by decide) (cN.out (Rg.up_ne h (by decide)) (Rg.up_ne h' (by decide))))⟩
    case o4 =>
      clear hd
      have q0 := (cF.out.2.2 24 (by decide)).trans e24
      go_simp
      refine hK.out _ _ ⟨hid (cF.out.put (by decide) _), hid (fun h => (Rh.put_ne (by decide)).trans (c0.out (Rg.up_ne h (by decide)))), hid (fun h => (Rh.put_ne (by decide)).trans (c1.out (Rg.up_ne h (by decide)))), hid (fun h => (Rh.put_ne (by decide)).trans (c2.out (Rg.up_ne h (by decide)))), hid (fun h => (Rh.put_ne (by decide)).trans (c3.out (Rg.up_ne h (by decide)))), hid (fun _ => cF.out.at (by omega) _), hid (fun h => (Rh.put_ne (by decide)).trans (c5.out (Rg.up_ne h (by decide)))), hid (fun h => (Rh.put_ne (by decide)).trans (c6.out (Rg.up_ne h (by decide)))), hid (fun h => (Rh.put_ne (by decide)).trans (c7.out (Rg.up_ne h (by decide)))), hid (fun h => (Rh.put_ne (by decide)).trans (c8.out (Rg.up_ne h (by decide)))), hid (fun h => (Rh.put_ne (by decide)).trans (c9.out (Rg.up_ne h (by decide)))), hid (fun h => (Rh.put_ne (by decide)).trans (c10.out (Rg.up_ne h (by decide)))), hid (fun h => (Rh.put_ne (by decide)).trans (c11.out (Rg.up_ne h (by decide)))), hid (fun h => (Rh.put_ne (by decide)).trans (c12.out (Rg.up_ne h (by decide)))), cB, hid (fun h => ⟨Rg.up_of (cR.out (Rg.up_ne h (by decide))).1, Rg.up_of (cR.out (Rg.up_ne h (by decide))).2⟩), hid (fun h => Rg.up_of (cS.out (Rg.up_ne h (by decide)))), hid (fun h => by obtain ⟨b, f, e1, e2', e3, e4⟩ := c13.out (Rg.up_ne h (by decide)); exact ⟨b, f, (Rh.put_ne (by decide)).trans e1, e2', e3, fun h => e4 (Rg.up_ne h (by decide))⟩), hid (fun h => by obtain ⟨b, f, e1, e2', e3, e4⟩ := c14.out (Rg.up_ne h (by decide)); exact ⟨b, f, (Rh.put_ne (by decide)).trans e1, e2', e3, fun h => e4 (Rg.up_ne h (by decide))⟩), hid (fun h h' => Rh.ne_put (by decide) (by decide) (cN.out (Rg.up_ne h (by decide)) (Rg.up_ne h' (by decide))))⟩
    case o5 =>
      simp [Rg.deps, Region.binds] at hd
      have q0 := c4.out hd
      obtain ⟨z0, z1, z2, z3, z4, z5, z6, z7, z8, y0, y1, y2, y3, y4, y5, y6, y7⟩ := HSK.out _ cB.out
      go_simp
      refine hK.out _ _ ⟨hid (cF.out.put (by decide) _), hid (fun h => (Rh.put_ne (by decide)).trans (c0.out (Rg.up_ne h (by decide)))), hid (fun h => (Rh.put_ne (by decide)).trans (c1.out (Rg.up_ne h (by decide)))), hid (fun h => (Rh.put_ne (by decide)).trans (c2.out (Rg.up_ne h (by decide)))), hid (fun h => (Rh.put_ne (by decide)).trans (c3.out (Rg.up_ne h (by decide)))), hid (fun h => (Rh.put_ne (by decide)).trans (c4.out (Rg.up_ne h (by decide)))), hid (fun _ => cF.out.at (by omega) _), hid (fun h => (Rh.put_ne (by decide)).trans (c6.out (Rg.up_ne h (by decide)))), hid (fun h => (Rh.put_ne (by decide)).trans (c7.out (Rg.up_ne h (by decide)))), hid (fun h => (Rh.put_ne (by decide)).trans (c8.out (Rg.up_ne h (by decide)))), hid (fun h => (Rh.put_ne (by decide)).trans (c9.out (Rg.up_ne h (by decide)))), hid (fun h => (Rh.put_ne (by decide)).trans (c10.out (Rg.up_ne h (by decide)))), hid (fun h => (Rh.put_ne (by decide)).trans (c11.out (Rg.up_ne h (by decide)))), hid (fun h => (Rh.put_ne (by decide)).trans (c12.out (Rg.up_ne h (by decide)))), cB, hid (fun h => ⟨Rg.up_of (cR.out (Rg.up_ne h (by decide))).1, Rg.up_of (cR.out (Rg.up_ne h (by decide))).2⟩), hid (fun h => Rg.up_of (cS.out (Rg.up_ne h (by decide)))), hid (fun h => by obtain ⟨b, f, e1, e2', e3, e4⟩ := c13.out (Rg.up_ne h (by decide)); exact ⟨b, f, (Rh.put_ne (by decide)).trans e1, e2', e3, fun h => e4 (Rg.up_ne h (by decide))⟩), hid (fun h => by obtain ⟨b, f, e1, e2', e3, e4⟩ := c14.out (Rg.up_ne h (by decide)); exact ⟨b, f, (Rh.put_ne (by decide)).trans e1, e2', e3, fun h => e4 (Rg.up_ne h (by decide))⟩), hid (fun h h' => Rh.ne_put (by decide) (by decide) (cN.out (Rg.up_ne h (by decide)) (Rg.up_ne h' (by decide))))⟩
    case o6 =>
      simp [Rg.deps, Region.binds] at hd
      have q0 := c3.out hd.1
      have q1 := c5.out hd.2
      go_simp
      refine (HKO.out _).mono ?_
      rintro e w2 ⟨rfl, hb⟩
      go_simp
      refine hK.out _ _ ⟨hid (cF.out.put (by decide) _), hid (fun h => (Rh.put_ne (by decide)).trans (c0.out (Rg.up_ne h (by decide)))), hid (fun h => (Rh.put_ne (by decide)).trans (c1.out (Rg.up_ne h (by decide)))), hid (fun h => (Rh.put_ne (by decide)).trans (c2.out (Rg.up_ne h (by decide)))), hid (fun h => (Rh.put_ne (by decide)).trans (c3.out (Rg.up_ne h (by decide)))), hid (fun h => (Rh.put_ne (by decide)).trans (c4.out (Rg.up_ne h (by decide)))), hid (fun h => (Rh.put_ne (by decide)).trans (c5.out (Rg.up_ne h (by decide)))), hid (fun _ => cF.out.at (by omega) _), hid (fun h => (Rh.put_ne (by decide)).trans (c7.out (Rg.up_ne h (by decide)))), hid (fun h => (Rh.put_ne (by decide)).trans (c8.out (Rg.up_ne h (by decide)))), hid (fun h => (Rh.put_ne (by decide)).trans (c9.out (Rg.up_ne h (by decide)))), hid (fun h => (Rh.put_ne (by decide)).trans (c10.out (Rg.up_ne h (by decide)))), hid (fun h => (Rh.put_ne (by decide)).trans (c11.out (Rg.up_ne h (by decide)))), hid (fun h => (Rh.put_ne (by decide)).trans (c12.out (Rg.up_ne h (by decide)))), hid (bcall cB.out hb), hid (fun h => ⟨Rg.up_of (cR.out (Rg.up_ne h (by decide))).1, Rg.up_of (cR.out (Rg.up_ne h (by decide))).2⟩), hid (fun h => Rg.up_of (cS.out (Rg.up_ne h (by decide)))), hid (fun h => by obtain ⟨b, f, e1, e2', e3, e4⟩ := c13.out (Rg.up_ne h (by decide)); exact ⟨b, f, (Rh.put_ne (by decide)).trans e1, e2', rowIs_below e3 hb, fun h => e4 (Rg.up_ne h (by decide))⟩), hid (fun h => by obtain ⟨b, f, e1, e2', e3, e4⟩ := c14.out (Rg.up_ne h (by decide)); exact ⟨b, f, (Rh.put_ne (by decide)).trans e1, e2', rowIs_below e3 hb, fun h => e4 (Rg.up_ne h (by decide))⟩), hid (fun h h' => Rh.ne_put (by decide) (by decide) (cN.out (Rg.up_ne h (by decide)) (Rg.up_ne h' (by decide))))⟩
    case o7 =>
      clear hd
      have q0 := (cF.out.2.2 2 (by decide)).trans e2
      go_simp
      refine hK.out _ _ ⟨hid (cF.out.put (by decide) _), hid (fun h => (Rh.put_ne (by decide)).trans (c0.out (Rg.up_ne h (by decide)))), hid (fun h => (Rh.put_ne (by decide)).trans (c1.out (Rg.up_ne h (by decide)))), hid (fun h => (Rh.put_ne (by decide)).trans (c2.out (Rg.up_ne h (by decide)))), hid (fun h => (Rh.put_ne (by decide)).trans (c3.out (Rg.up_ne h (by decide)))), hid (fun h => (Rh.put_ne (by decide)).trans (c4.out (Rg.up_ne h (by decide)))), hid (fun h => (Rh.put_ne (by decide)).trans (c5.out (Rg.up_ne h (by decide)))), hid (fun h => (Rh.put_ne (by decide)).trans (c6.out (Rg.up_ne h (by decide)))), hid (fun _ => cF.out.at (by omega) _), hid (fun h => (Rh.put_ne (by decide)).trans (c8.out (Rg.up_ne h (by decide)))), hid (fun h => (Rh.put_ne (by decide)).trans (c9.out (Rg.up_ne h (by decide)))), hid (fun h => (Rh.put_ne (by decide)).trans (c10.out (Rg.up_ne h (by decide)))), hid (fun h => (Rh.put_ne (by decide)).trans (c11.out (Rg.up_ne h (by decide)))), hid (fun h => (Rh.put_ne (by decide)).trans (c12.out (Rg.up_ne h (by decide)))), cB, hid (fun h => ⟨Rg.up_of (cR.out (Rg.up_ne h (by decide))).1, Rg.up_of (cR.out (Rg.up_ne h (by decide))).2⟩), hid (fun h => Rg.up_of (cS.out (Rg.up_ne h (by decide)))), hid (fun h => by obtain ⟨b, f, e1, e2', e3, e4⟩ := c13.out (Rg.up_ne h (by decide)); exact ⟨b, f, (Rh.put_ne (by decide)).trans e1, e2', e3, fun h => e4 (Rg.up_ne h (by decide))⟩), hid (fun h => by obtain ⟨b, f, e1, e2', e3, e4⟩ := c14.out (Rg.up_ne h (by decide)); exact ⟨b, f, (Rh.put_ne (by decide)).trans e1, e2', e3, fun h => e4 (Rg.up_ne h (by decide))⟩), hid (fun h h' => Rh.ne_put (by decide) (by decide) (cN.out (Rg.up_ne h (by decide)) (Rg.up_ne h' (by decide))))⟩
    case o8 =>
      clear hd
      have q0 := (cF.out.2.2 24 (by decide)).trans e24
      go_simp
      refine hK.out _ _ ⟨hid (cF.out.put (by decide) _), hid (fun h => (Rh.put_ne (by decide)).trans (c0.out (Rg.up_ne h (by decide)))), hid (fun h => (Rh.put_ne (by decide)).trans (c1.out (Rg.up_ne h (by decide)))), hid (fun h => (Rh.put_ne (by decide)).trans (c2.out (Rg.up_ne h (by decide)))), hid (fun h => (Rh.put_ne (by decide)).trans (c3.out (Rg.up_ne h (by decide)))), hid (fun h => (Rh.put_ne (by decide)).trans (c4.out (Rg.up_ne h (by decide)))), hid (fun h => (Rh.put_ne (by decide)).trans (c5.out (Rg.up_ne h (by decide)))), hid (fun h => (Rh.put_ne (by decide)).trans (c6.out (Rg.up_ne h (by decide)))), hid (fun h => (Rh.put_ne (by decide)).trans (c7.out (Rg.up_ne h (by decide)))), hid (fun _ => cF.out.at (by omega) _), hid (fun h => (Rh.put_ne (by decide)).trans (c9.out (Rg.up_ne h (by decide)))), hid (fun h => (Rh.put_ne (by decide)).trans (c10.out (Rg.up_ne h (by decide)))), hid (fun h => (Rh.put_ne (by decide)).trans (c11.out (Rg.up_ne h (by decide)))), hid (fun h => (Rh.put_ne (by decide)).trans (c12.out (Rg.up_ne h (by decide)))), cB, hid (fun h => ⟨Rg.up_of (cR.out (Rg.up_ne h (by decide))).1, Rg.up_of (cR.out (Rg.up_ne h (by decide))).2⟩), hid (fun h => Rg.up_of (cS.out (Rg.up_ne h (by decide)))), hid (fun h => by obtain ⟨b, f, e1, e2', e3, e4⟩ := c13.out (Rg.up_ne h (by decide)); exact ⟨b, f, (Rh.put_ne (by decide)).trans e1, e2', e3, fun h => e4 (Rg.up_ne h (by decide))⟩), hid (fun h => by obtain ⟨b, f, e1, e2', e3, e4⟩ := c14.out (Rg.up_ne h (by decide)); exact ⟨b, f, (Rh.put_ne (by decide)).trans e1, e2', e3, fun h => e4 (Rg.up_ne h (by decide))⟩), hid (fun h h' => Rh.ne_put (by decide) (by decide) (cN.out (Rg.up_ne h (by decide)) (Rg.up_ne h' (by decide))))⟩
    case o9 =>
      simp [Rg.deps, Region.binds] at hd
      have q0 := c8.out hd
      obtain ⟨z0, z1, z2, z3, z4, z5, z6, z7, z8, y0, y1, y2, y3, y4, y5, y6, y7⟩ := HSK.out _ cB.out
      go_simp
      refine hK.out _ _ ⟨hid (cF.out.put (by decide) _), hid (fun h => (Rh.put_ne (by decide)).trans (c0.out (Rg.up_ne h (by decide)))), hid (fun h => (Rh.put_ne (by decide)).trans (c1.out (Rg.up_ne h (by decide)))), hid (fun h => (Rh.put_ne (by decide)).trans (c2.out (Rg.up_ne h (by decide)))), hid (fun h => (Rh.put_ne (by decide)).trans (c3.out (Rg.up_ne h (by decide)))), hid (fun h => (Rh.put_ne (by decide)).trans (c4.out (Rg.up_ne h (by decide)))), hid (fun h => (Rh.put_ne (by decide)).trans (c5.out (Rg.up_ne h (by decide)))), hid (fun h => (Rh.put_ne (by decide)).trans (c6.out (Rg.up_ne h (by decide)))), hid (fun h => (Rh.put_ne (by decide)).trans (c7.out (Rg.up_ne h (by decide)))), hid (fun h => (Rh.put_ne (by decide)).trans (c8.out (Rg.up_ne h (by decide)))), hid (fun _ => cF.out.at (by omega) _), hid (fun h => (Rh.put_ne (by decide)).trans (c10.out (Rg.up_ne h (by decide)))), hid (fun h => (Rh.put_ne (by decide)).trans (c11.out (Rg.up_ne h (by decide)))), hid (fun h => (Rh.put_ne (by decide)).trans (c12.out (Rg.up_ne h (by decide)))), cB, hid (fun h => ⟨Rg.up_of (cR.out (Rg.up_ne h (by decide))).1, Rg.up_of (cR.out (Rg.up_ne h (by decide))).2⟩), hid (fun h => Rg.up_of (cS.out (Rg.up_ne h (by decide)))), hid (fun h => by obtain ⟨b, f, e1, e2', e3, e4⟩ := c13.out (Rg.up_ne h (by decide)); exact ⟨b, f, (Rh.put_ne (by decide)).trans e1, e2', e3, fun h => e4 (Rg.up_ne h (by decide))⟩), hid (fun h => by obtain ⟨b, f, e1, e2', e3, e4⟩ := c14.out (Rg.up_ne h (by decide)); exact ⟨b, f, (Rh.put_ne (by decide)).trans e1, e2', e3, fun h => e4 (Rg.up_ne h (by decide))⟩), hid (fun h h' => Rh.ne_put (by decide) (by decide) (cN.out (Rg.up_ne h (by decide)) (Rg.up_ne h' (by decide))))⟩
    case o10 =>
      simp [Rg.deps, Region.binds] at hd
      have q0 := c7.out hd.1
      have q1 := c9.out hd.2
      go_simp
      refine hK.out _ _ ⟨hid (cF.out.put (by decide) _), hid (fun h => (Rh.put_ne (by decide)).trans (c0.out (Rg.up_ne h (by decide)))), hid (fun h => (Rh.put_ne (by decide)).trans (c1.out (Rg.up_ne h (by decide)))), hid (fun h => (Rh.put_ne (by decide)).trans (c2.out (Rg.up_ne h (by decide)))), hid (fun h => (Rh.put_ne (by decide)).trans (c3.out (Rg.up_ne h (by decide)))), hid (fun h => (Rh.put_ne (by decide)).trans (c4.out (Rg.up_ne h (by decide)))), hid (fun h => (Rh.put_ne (by decide)).trans (c5.out (Rg.up_ne h (by decide)))), hid (fun h => (Rh.put_ne (by decide)).trans (c6.out (Rg.up_ne h (by decide)))), hid (fun h => (Rh.put_ne (by decide)).trans (c7.out (Rg.up_ne h (by decide)))), hid (fun h => (Rh.put_ne (by decide)).trans (c8.out (Rg.up_ne h (by decide)))), hid (fun h => (Rh.put_ne (by decide)).trans (c9.out (Rg.up_ne h (by decide)))), hid (fun _ => cF.out.at (by omega) _), hid (fun h => (Rh.put_ne (by decide)).trans (c11.out (Rg.up_ne h (by decide)))), hid (fun h => (Rh.put_ne (by decide)).trans (c12.out (Rg.up_ne h (by decide)))), cB, hid (fun h => ⟨Rg.up_of (cR.out (Rg.up_ne h (by decide))).1, Rg.up_of (cR.out (Rg.up_ne h (by decide))).2⟩), hid (fun h => Rg.up_of (cS.out (Rg.up_ne h (by decide)))), hid (fun h => by obtain ⟨b, f, e1, e2', e3, e4⟩ := c13.out (Rg.up_ne h (by decide)); exact ⟨b, f, (Rh.put_ne (by decide)).trans e1, e2', e3, fun h => e4 (Rg.up_ne h (by decide))⟩), hid (fun h => by obtain ⟨b, f, e1, e2', e3, e4⟩ := c14.out (Rg.up_ne h (by decide)); exact ⟨b, f, (Rh.put_ne (by decide)).trans e1, e2', e3, fun h => e4 (Rg.up_ne h (by decide))⟩), hid (fun h h' => Rh.ne_put (by decide) (by decide) (cN.out (Rg.up_ne h (by decide)) (Rg.up_ne h' (by decide))))⟩
    case o11 =>
      clear hd
      have q0 := (cF.out.2.2 7 (by decide)).trans e7
      obtain ⟨z0, z1, z2, z3, z4, z5, z6, z7, z8, y0, y1, y2, y3, y4, y5, y6, y7⟩ := HSK.out _ cB.out
      go_simp
      refine hK.out _ _ ⟨hid (cF.out.put (by decide) _), hid (fun h => (Rh.put_ne (by decide)).trans (c0.out (Rg.up_ne h (by decide)))), hid (fun h => (Rh.put_ne (by decide)).trans (c1.out (Rg.up_ne h (by decide)))), hid (fun h => (Rh.put_ne (by decide)).trans (c2.out (Rg.up_ne h (by decide)))), hid (fun h => (Rh.put_ne (by decide)).trans (c3.out (Rg.up_ne h (by decide)))), hid (fun h => (Rh.put_ne (by decide)).trans (c4.out (Rg.up_ne h (by decide)))), hid (fun h => (Rh.put_ne (by decide)).trans (c5.out (Rg.up_ne h (by decide)))), hid (fun h => (Rh.put_ne (by decide)).trans (c6.out (Rg.up_ne h (by decide)))), hid (fun h => (Rh.put_ne (by decide)).trans (c7.out (Rg.up_ne h (by decide)))), hid (fun h => (Rh.put_ne (by decide)).trans (c8.out (Rg.up_ne h (by decide)))), hid (fun h => (Rh.put_ne (by decide)).trans (c9.out (Rg.up_ne h (by decide)))), hid (fun h => (Rh.put_ne (by decide)).trans (c10.out (Rg.up_ne h (by decide)))), hid (fun _ => cF.out.at (by omega) _), hid (fun h => (Rh.put_ne (by decide)).trans (c12.out (Rg.up_ne h (by decide)))), cB, hid (fun h => ⟨Rg.up_of (cR.out (Rg.up_ne h (by decide))).1, Rg.up_of (cR.out (Rg.up_ne h (by decide))).2⟩), hid (fun h => Rg.up_of (cS.out (Rg.up_ne h (by decide)))), hid (fun h => by obtain ⟨b, f, e1, e2', e3, e4⟩ := c13.out (Rg.up_ne h (by decide)); exact ⟨b, f, (Rh.put_ne (by decide)).trans e1, e2', e3, fun h => e4 (Rg.up_ne h (by decide))⟩), hid (fun h => by obtain ⟨b, f, e1, e2', e3, e4⟩ := c14.out (Rg.up_ne h (by decide)); exact ⟨b, f, (Rh.put_ne (by decide)).trans e1, e2', e3, fun h => e4 (Rg.up_ne h (by decide))⟩), hid (fun h h' => Rh.ne_put (by decide) (by decide) (cN.out (Rg.up_ne h (by decide)) (Rg.up_ne h' (by decide))))⟩
    case o12 =>
      simp [Rg.deps, Region.binds] at hd
      have q0 := c10.out hd.1
      have q1 := c11.out hd.2.1
      go_simp
      refine (HKM.out _).mono ?_
      rintro e w2 ⟨rfl, hb⟩
      go_simp
      refine hK.out _ _ ⟨hid (cF.out.put (by decide) _), hid (fun h => (Rh.put_ne (by decide)).trans (c0.out (Rg.up_ne h (by decide)))), hid (fun h => (Rh.put_ne (by decide)).trans (c1.out (Rg.up_ne h (by decide)))), hid (fun h => (Rh.put_ne (by decide)).trans (c2.out (Rg.up_ne h (by decide)))), hid (fun h => (Rh.put_ne (by decide)).trans (c3.out (Rg.up_ne h (by decide)))), hid (fun h => (Rh.put_ne (by decide)).trans (c4.out (Rg.up_ne h (by decide)))), hid (fun h => (Rh.put_ne (by decide)).trans (c5.out (Rg.up_ne h (by decide)))), hid (fun h => (Rh.put_ne (by decide)).trans (c6.out (Rg.up_ne h (by decide)))), hid (fun h => (Rh.put_ne (by decide)).trans (c7.out (Rg.up_ne h (by decide)))), hid (fun h => (Rh.put_ne (by decide)).trans (c8.out (Rg.up_ne h (by decide)))), hid (fun h => (Rh.put_ne (by decide)).trans (c9.out (Rg.up_ne h (by decide)))), hid (fun h => (Rh.put_ne (by decide)).trans (c10.out (Rg.up_ne h (by decide)))), hid (fun h => (Rh.put_ne (by decide)).trans (c11.out (Rg.up_ne h (by decide)))), hid (fun _ => cF.out.at (by omega) _), hid (bcall cB.out hb), hid (fun h => ⟨Rg.up_of (cR.out (Rg.up_ne h (by decide))).1, Rg.up_of (cR.out (Rg.up_ne h (by decide))).2⟩), hid (fun h => Rg.up_of (cS.out (Rg.up_ne h (by decide)))), hid (fun h => by obtain ⟨b, f, e1, e2', e3, e4⟩ := c13.out (Rg.up_ne h (by decide)); exact ⟨b, f, (Rh.put_ne (by decide)).trans e1, e2', rowIs_below e3 hb, fun h => e4 (Rg.up_ne h (by decide))⟩), hid (fun h => by obtain ⟨b, f, e1, e2', e3, e4⟩ := c14.out (Rg.up_ne h (by decide)); exact ⟨b, f, (Rh.put_ne (by decide)).trans e1, e2', rowIs_below e3 hb, fun h => e4 (Rg.up_ne h (by decide))⟩), hid (fun h h' => Rh.ne_put (by decide) (by decide) (cN.out (Rg.up_ne h (by decide)) (Rg.up_ne h' (by decide))))⟩
    case o13 =>
      clear hd
      go_simp
      refine hK.out _ _ ⟨hid (cF.out.put (by decide) _), hid (fun h => (Rh.put_ne (by decide)).trans (c0.out (Rg.up_ne h (by decide)))), hid (fun h => (Rh.put_ne (by decide)).trans (c1.out (Rg.up_ne h (by decide)))), hid (fun h => (Rh.put_ne (by decide)).trans (c2.out (Rg.up_ne h (by decide)))), hid (fun h => (Rh.put_ne (by decide)).trans (c3.out (Rg.up_ne h (by decide)))), hid (fun h => (Rh.put_ne (by decide)).trans (c4.out (Rg.up_ne h (by decide)))), hid (fun h => (Rh.put_ne (by decide)).trans (c5.out (Rg.up_ne h (by decide)))), hid (fun h => (Rh.put_ne (by decide)).trans (c6.out (Rg.up_ne h (by decide)))), hid (fun h => (Rh.put_ne (by decide)).trans (c7.out (Rg.up_ne h (by decide)))), hid (fun h => (Rh.put_ne (by decide)).trans (c8.out (Rg.up_ne h (by decide)))), hid (fun h => (Rh.put_ne (by decide)).trans (c9.out (Rg.up_ne h (by decide)))), hid (fun h => (Rh.put_ne (by decide)).trans (c10.out (Rg.up_ne h (by decide)))), hid (fun h => (Rh.put_ne (by decide)).trans (c11.out (Rg.up_ne h (by decide)))), hid (fun h => (Rh.put_ne (by decide)).trans (c12.out (Rg.up_ne h (by decide)))), hid (bal cB.out _), hid (fun h => ⟨Rg.up_of (cR.out (Rg.up_ne h (by decide))).1, Rg.up_of (cR.out (Rg.up_ne h (by decide))).2⟩), hid (fun h => Rg.up_of (cS.out (Rg.up_ne h (by decide)))), hid (fun _ => ⟨w1.heap.size, zf, cF.out.at (by omega) _, cB.out.size, zrow w1, fun h => by have h := Rg.up_ne h (by decide); have := (cR.out h).1; rw [this] at hl; cases hl⟩), hid (fun h => by obtain ⟨b, f, e1, e2', e3, e4⟩ := c14.out (Rg.up_ne h (by decide)); exact ⟨b, f, (Rh.put_ne (by decide)).trans e1, e2', rowIs_below e3 (bal (Below.refl _ _) _), fun h => e4 (Rg.up_ne h (by decide))⟩), hid (fun _ h => by obtain ⟨b, f, e1, e2', e3, e4⟩ := c14.out (Rg.up_ne h (by decide)); exact Rh.ne_new (by rw [cF.out.1]; omega) (by decide) (fun e => by rw [e1] at e; have hlt := e3.lt; simp at e <;> omega))⟩
    case o14 =>
      clear hd
      go_simp
      refine hK.out _ _ ⟨hid (cF.out.put (by decide) _), hid (fun h => (Rh.put_ne (by decide)).trans (c0.out (Rg.up_ne h (by decide)))), hid (fun h => (Rh.put_ne (by decide)).trans (c1.out (Rg.up_ne h (by decide)))), hid (fun h => (Rh.put_ne (by decide)).trans (c2.out (Rg.up_ne h (by decide)))), hid (fun h => (Rh.put_ne (by decide)).trans (c3.out (Rg.up_ne h (by decide)))), hid (fun h => (Rh.put_ne (by decide)).trans (c4.out (Rg.up_ne h (by decide)))), hid (fun h => (Rh.put_ne (by decide)).trans (c5.out (Rg.up_ne h (by decide)))), hid (fun h => (Rh.put_ne (by decide)).trans (c6.out (Rg.up_ne h (by decide)))), hid (fun h => (Rh.put_ne (by decide)).trans (c7.out (Rg.up_ne h (by decide)))), hid (fun h => (Rh.put_ne (by decide)).trans (c8.out (Rg.up_ne h (by decide)))), hid (fun h => (Rh.put_ne (by decide)).trans (c9.out (Rg.up_ne h (by decide)))), hid (fun h => (Rh.put_ne (by decide)).trans (c10.out (Rg.up_ne h (by decide)))), hid (fun h => (Rh.put_ne (by decide)).trans (c11.out (Rg.up_ne h (by decide)))), hid (fun h => (Rh.put_ne (by decide)).trans (c12.out (Rg.up_ne h (by decide)))), hid (bal cB.out _), hid (fun h => ⟨Rg.up_of (cR.out (Rg.up_ne h (by decide))).1, Rg.up_of (cR.out (Rg.up_ne h (by decide))).2⟩), hid (fun h => Rg.up_of (cS.out (Rg.up_ne h (by decide)))), hid (fun h => by obtain ⟨b, f, e1, e2', e3, e4⟩ := c13.out (Rg.up_ne h (by decide)); exact ⟨b, f, (Rh.put_ne (by decide)).trans e1, e2', rowIs_below e3 (bal (Below.refl _ _) _), fun h => e4 (Rg.up_ne h (by decide))⟩), hid (fun _ => ⟨w1.heap.size, zf, cF.out.at (by omega) _, cB.out.size, zrow w1, fun h => by have h := Rg.up_ne h (by decide); have := (cS.out h); rw [this] at hl; cases hl⟩), hid (fun h _ => by obtain ⟨b, f, e1, e2', e3, e4⟩ := c13.out (Rg.up_ne h (by decide)); exact Ne.symm (Rh.ne_new (by rw [cF.out.1]; omega) (by decide) (fun e => by rw [e1] at e; have hlt := e3.lt; simp at e <;> omega)))⟩
    case o15 =>
      simp [Rg.deps, Region.binds] at hd
      have h13 : Lf 13 = true := by simp only [hd]
      have h14 : Lf 14 = true := by simp only [hd]
      have hv : Lf 6 = true := by simp only [hd]
      have q1 := c6.out hv
      obtain ⟨b3, f3, g3, l3, r3, p3⟩ := c13.out h13
      obtain ⟨b4, f4, g4, l4, r4, p4⟩ := c14.out h14
      have hne : b3 ≠ b4 := fun e => cN.out h13 h14 (by rw [g3, g4, e])
      obtain ⟨x0, x1, x2, x3, x4, x5, x6, x7⟩ := rowCellF r3
      have k0 := r3.frozen 0
      have k1 := r3.frozen 1
      have k2 := r3.frozen 2
      have k3 := r3.frozen 3
      have k4 := r3.frozen 4
      have k5 := r3.frozen 5
      have k6 := r3.frozen 6
      have k7 := r3.frozen 7
      have R3 := hid r3
      have R4 := hid r4
      have P3 := hid p3
      have P4 := hid p4
      have L3 := hid l3
      have L4 := hid l4
      have HNE := hid hne
      have G4 := hid g4
      have HD := hid hd
      have H13 := hid h13
      have H14 := hid h14
      clear r3 r4 p3 p4 l3 l4 hne g4 hd hv h13 h14 e2 e24 e7
      go_simp
      have r3 := R3.out
      have r4 := R4.out
      have p3 := P3.out
      have p4 := P4.out
      have l3 := L3.out
      have l4 := L4.out
      have hne := HNE.out
      have g4 := G4.out
      have h13 := H13.out
      have h14 := H14.out
      refine hK.out _ _ ⟨cF, hid (fun h => c0.out (Rg.up_ne h (by decide))), hid (fun h => c1.out (Rg.up_ne h (by decide))), hid (fun h => c2.out (Rg.up_ne h (by decide))), hid (fun h => c3.out (Rg.up_ne h (by decide))), hid (fun h => c4.out (Rg.up_ne h (by decide))), hid (fun h => c5.out (Rg.up_ne h (by decide))), hid (fun h => c6.out (Rg.up_ne h (by decide))), hid (fun h => c7.out (Rg.up_ne h (by decide))), hid (fun h => c8.out (Rg.up_ne h (by decide))), hid (fun h => c9.out (Rg.up_ne h (by decide))), hid (fun h => c10.out (Rg.up_ne h (by decide))), hid (fun h => c11.out (Rg.up_ne h (by decide))), hid (fun h => c12.out (Rg.up_ne h (by decide))), hid (below8p cB.out l3 _), hid (fun _ => ⟨Rg.up_of h13, Rg.up_of h14⟩), hid (fun h => Rg.up_of (cS.out (Rg.up_ne h (by decide)))), hid (fun _ => ⟨b3, _, g3, l3, row8p r3 _, fun _ => rfl⟩), hid (fun _ => ⟨b4, f4, g4, l4, row8o r4 (by omega) _, fun h => p4 (Rg.up_ne h (by decide))⟩), hid (fun h h' => cN.out (Rg.up_ne h (by decide)) (Rg.up_ne h' (by decide)))⟩
    case o16 =>
      simp [Rg.deps, Region.binds] at hd
      have h13 : Lf 13 = true := by simp only [hd]
      have h14 : Lf 14 = true := by simp only [hd]
      have hv : Lf 12 = true := by simp only [hd]
      have q1 := c12.out hv
      obtain ⟨b3, f3, g3, l3, r3, p3⟩ := c13.out h13
      obtain ⟨b4, f4, g4, l4, r4, p4⟩ := c14.out h14
      have hne : b3 ≠ b4 := fun e => cN.out h13 h14 (by rw [g3, g4, e])
      obtain ⟨x0, x1, x2, x3, x4, x5, x6, x7⟩ := rowCellF r4
      have k0 := r4.frozen 0
      have k1 := r4.frozen 1
      have k2 := r4.frozen 2
      have k3 := r4.frozen 3
      have k4 := r4.frozen 4
      have k5 := r4.frozen 5
      have k6 := r4.frozen 6
      have k7 := r4.frozen 7
      have R3 := hid r3
      have R4 := hid r4
      have P3 := hid p3
      have P4 := hid p4
      have L3 := hid l3
      have L4 := hid l4
      have HNE := hid hne
      have G3 := hid g3
      have HD := hid hd
      have H13 := hid h13
      have H14 := hid h14
      clear r3 r4 p3 p4 l3 l4 hne g3 hd hv h13 h14 e2 e24 e7
      go_simp
      have r3 := R3.out
      have r4 := R4.out
      have p3 := P3.out
      have p4 := P4.out
      have l3 := L3.out
      have l4 := L4.out
      have hne := HNE.out
      have g3 := G3.out
      have h13 := H13.out
      have h14 := H14.out
      refine hK.out _ _ ⟨cF, hid (fun h => c0.out (Rg.up_ne h (by decide))), hid (fun h => c1.out (Rg.up_ne h (by decide))), hid (fun h => c2.out (Rg.up_ne h (by decide))), hid (fun h => c3.out (Rg.up_ne h (by decide))), hid (fun h => c4.out (Rg.up_ne h (by decide))), hid (fun h => c5.out (Rg.up_ne h (by decide))), hid (fun h => c6.out (Rg.up_ne h (by decide))), hid (fun h => c7.out (Rg.up_ne h (by decide))), hid (fun h => c8.out (Rg.up_ne h (by decide))), hid (fun h => c9.out (Rg.up_ne h (by decide))), hid (fun h => c10.out (Rg.up_ne h (by decide))), hid (fun h => c11.out (Rg.up_ne h (by decide))), hid (fun h => c12.out (Rg.up_ne h (by decide))), hid (below8p cB.out l4 _), hid (fun h => ⟨Rg.up_of (cR.out (Rg.up_ne h (by decide))).1, Rg.up_of (cR.out (Rg.up_ne h (by decide))).2⟩), hid (fun _ => Rg.up_of h14), hid (fun _ => ⟨b3, f3, g3, l3, row8o r3 (by omega) _, fun h => p3 (Rg.up_ne h (by decide))⟩), hid (fun _ => ⟨b4, _, g4, l4, row8p r4 _, fun _ => rfl⟩), hid (fun h h' => cN.out (Rg.up_ne h (by decide)) (Rg.up_ne h' (by decide)))⟩
  case re =>
    intro Lf a1 w1 hI hall
    obtain ⟨cF, c0, c1, c2, c3, c4, c5, c6, c7, c8, c9, c10, c11, c12, cB, cR, cS, c13, c14, cN⟩ := hI
    obtain ⟨b3, f3, g3, l3, r3, p3⟩ := c13.out (hall 13 (by decide))
    obtain ⟨b4, f4, g4, l4, r4, p4⟩ := c14.out (hall 14 (by decide))
    obtain rfl := p3 (hall 15 (by decide))
    obtain rfl := p4 (hall 16 (by decide))
    have e := cF.out.eq (fun d => a1.tmps[d]?.getD undef) (fun _ _ => rfl)
    show K a1 w1
    rw [e]
    exact H.out (fun d => a1.tmps[d]?.getD undef) b3 b4 w1 g3 g4 r3 r4 cB.out
end Go.Proofs.Ytckkkdldljhehaa.Te
namespace Go.Proofs.Ytckkkdldljhehaa.Te
open Go.Proofs.Ytckkkdldljhehaa.Num Go.Proofs.Ytckkkdldljhehaa.St Go.Proofs.Ytckkkdldljhehaa.Mp Go.Proofs.Ytckkkdldljhehaa.Th
open Go.ChangeShapes Go.WideShapes Go.ChangeAt Go.RowKit

attribute [local go_sem ↓] Go.wp_at_zero Go.wp_at_succ
set_option maxHeartbeats 16000000 in
set_option maxRecDepth 100000 in
theorem storeTurns_N (a : Option Addr) (n cap : Nat) (next id mask : Int) (r : R8) (T : Nat → TabV) (I : Nat → Nat → Int) (R : Nat → Nat → R8) (w : World) (hin : StoreIn w a n T I R) (hidw : (Lit.int .i64 id).wf = true) (hr64 : In64 r) (hcase : ¬ GoodL next (plainOf T I R n)) :
    Calls Try.prog 6 #[.agg #[.slice a n cap, .int .i64 next], .int .i64 id, .int .i64 mask, .agg #[.int .i64 r.x, .int .i64 r.y, .int .i64 r.px, .int .i64 r.py, .int .i64 r.wd, .int .i64 r.ht, .int .i64 r.ms, .int .i64 r.rr]] w fun e w' => e = .returned (.bool true) ∧ Below w.heap.size w w' := by
  have HST := hid hin
  have HCASE' := hid hcase
  have HR64 := hid hr64
  clear hcase hr64
  have HA0 := hid (bal (bal (Below.refl _ w) (.cells #[.slice a n cap, .int .i64 next] 28)) (.cells #[.int .i64 r.x, .int .i64 r.y, .int .i64 r.px, .int .i64 r.py, .int .i64 r.wd, .int .i64 r.ht, .int .i64 r.ms, .int .i64 r.rr] 30))
  have HSB : Hid (((w.alloc (.cells #[.slice a n cap, .int .i64 next] 28)).alloc (.cells #[.int .i64 r.x, .int .i64 r.y, .int .i64 r.px, .int .i64 r.py, .int .i64 r.wd, .int .i64 r.ht, .int .i64 r.ms, .int .i64 r.rr] 30)).rowIs w.heap.size 28 2 (fun i => if i = 0 then .slice a n cap else .int .i64 next)) := hid (rowIs_below (rowIs2 w (.slice a n cap) (.int .i64 next) 28) (bal (Below.refl _ _) _))
  have HRB : Hid (((w.alloc (.cells #[.slice a n cap, .int .i64 next] 28)).alloc (.cells #[.int .i64 r.x, .int .i64 r.y, .int .i64 r.px, .int .i64 r.py, .int .i64 r.wd, .int .i64 r.ht, .int .i64 r.ms, .int .i64 r.rr] 30)).rowIs (w.heap.size + 1) 30 8 (fun i => (rowCells r).getD i undef)) := hid (by
    have h := World.rowIs_alloc (w.alloc (.cells #[.slice a n cap, .int .i64 next] 28)) #[.int .i64 r.x, .int .i64 r.y, .int .i64 r.px, .int .i64 r.py, .int .i64 r.wd, .int .i64 r.ht, .int .i64 r.ms, .int .i64 r.rr] 30 (fun i => (rowCells r).getD i undef) (fun i hi => by
      match i, hi with
      | 0, _ => rfl
      | 1, _ => rfl
      | 2, _ => rfl
      | 3, _ => rfl
      | 4, _ => rfl
      | 5, _ => rfl
      | 6, _ => rfl
      | 7, _ => rfl)
    rw [World.size_alloc] at h
    exact h)
  have HCP := hid (Cp.copied_any a n cap next T I R _ (hin.below HA0.out))
  clear hin
  go_enter Try.func6, Try.ntmps6
  go_wp2_with fail
  refine HCP.out.mono ?_
  rintro e w1 ⟨⟨a', c', rfl, S, hown, hsp⟩, hb1⟩
  obtain ⟨T2, I2, R2, hin2, hpl2⟩ := copy_in hown hsp HST.out
  have HIN2 := hid hin2
  have HPL := hid hpl2
  have HSB1 := hid (rowIs_below HSB.out hb1)
  have HRB1 := hid (rowIs_below HRB.out hb1)
  obtain ⟨y0, y1⟩ := cells2 HSB1.out
  have hyz := HSB1.out.lt
  have HA1 := hid (bal (Below.refl _ w1) (.cells #[.slice a' n c', .int .i64 next] 28))
  have HCB := hid (rowIs2 w1 (.slice a' n c') (.int .i64 next) 28)
  have HWC := hid (bcall (bcall HA0.out hb1) HA1.out)
  have HTO := hid (thingsOf_any a n cap next T I R _ (HST.out.below HWC.out))
  have HSB2 := hid (rowIs_below HSB1.out HA1.out)
  have HRB2 := hid (rowIs_below HRB1.out HA1.out)
  have HIN3 := hid (HIN2.out.below HA1.out)
  clear hown hsp hb1 hin2 hpl2 HCP
  go_wp2_with fail
  refine HTO.out.mono ?_
  rintro e w2 ⟨he, hb2⟩
  have HIS2 := hid ((HST.out.below HWC.out).below hb2)
  have HIC2 := hid (HIN3.out.below hb2)
  have HSB2' := hid (rowIs_below HSB2.out hb2)
  have HRB2' := hid (rowIs_below HRB2.out hb2)
  have HCB2 := hid (rowIs_below HCB.out hb2)
  have HW2 := hid (bcall HWC.out hb2)
  generalize w1.heap.size = cb at HCB2 ⊢
  have HE : Hid (∃ lv ok, e = .returned (.tuple #[lv, .bool ok]) ∧ ((GoodL next (plainOf T I R n) ∧ ok = true ∧ ∃ bm, lv = .map (some bm) ∧ Mp w2 bm (thM (plainOf T I R n))) ∨ (¬ GoodL next (plainOf T I R n) ∧ ok = false))) := hid (by
    rcases he with ⟨hgl, bm, rfl, _, hmp⟩ | ⟨hng, v, rfl⟩
    · exact ⟨_, _, rfl, Or.inl ⟨hgl, rfl, bm, rfl, hmp⟩⟩
    · exact ⟨_, _, rfl, Or.inr ⟨hng, rfl⟩⟩)
  clear he
  obtain ⟨lv, ok, rfl, HLV⟩ := HE.out
  have HLV := hid HLV
  clear hb2 HE HTO HSB HRB HSB1 HRB1 HSB2 HRB2 HIN2 HIN3 HCB HA1 HWC y0 y1 hyz HA0
  have hcz := HCB2.out.lt
  have hrz := HRB2'.out.lt
  obtain ⟨k0, k1⟩ := cells2 HCB2.out
  obtain ⟨j0, j1, j2, j3, j4, j5, j6, j7⟩ := rowCell8 HRB2'.out
  have HC := hid (spawn_out HIC2.out c' next mask r)
  rw [HPL.out] at HC
  go_wp2_with fail
  refine HC.out.mono ?_
  rintro e w3 ⟨⟨v, nx, ni, ec1, Ln1, rfl, ho, hs1⟩, h⟩
  obtain ⟨a1, n1, c1, Tn1, In1, Rn1, rfl, hi, hp⟩ := ho
  have HOn1 : Hid (Out (w3.alloc (.cells #[.slice a1 n1 c1, .int .i64 nx] 28)) (.slice a1 n1 c1) Ln1) := hid (Out.below ⟨_, _, _, _, _, _, rfl, hi, hp⟩ (bal (Below.refl _ _) _))
  have HBn1 := hid (bal h (.cells #[.slice a1 n1 c1, .int .i64 nx] 28))
  have HXn1 := hid (rowIs2 w3 (.slice a1 n1 c1) (.int .i64 nx) 28)
  have HSn1 := hid hs1
  clear HC hi hp h hs1 k0 k1 j0 j1 j2 j3 j4 j5 j6 j7 hcz hrz
  have HCBx := hid (rowIs_below HCB2.out HBn1.out)
  have HRBx := hid (rowIs_below HRB2'.out HBn1.out)
  have HICx := hid (HIC2.out.below HBn1.out)
  have HBx : Hid (Below w2.heap.size w2 (w3.alloc (.cells #[.slice a1 n1 c1, .int .i64 nx] 28))) := hid (HBn1.out)
  obtain ⟨k0, k1⟩ := cells2 HCBx.out
  obtain ⟨j0, j1, j2, j3, j4, j5, j6, j7⟩ := rowCell8 HRBx.out
  have hcz := HCBx.out.lt
  have hrz := HRBx.out.lt
  have HC := hid (kill_out HICx.out c' next id)
  rw [HPL.out] at HC
  go_wp2_with fail
  refine HC.out.mono ?_
  rintro e w4 ⟨⟨v, ec2, Ln2, rfl, ho, hs2⟩, h⟩
  obtain ⟨a2, n2, c2, Tn2, In2, Rn2, rfl, hi, hp⟩ := ho
  have HOn2 : Hid (Out (w4.alloc (.cells #[.slice a2 n2 c2, .int .i64 next] 28)) (.slice a2 n2 c2) Ln2) := hid (Out.below ⟨_, _, _, _, _, _, rfl, hi, hp⟩ (bal (Below.refl _ _) _))
  have HBn2 := hid (bal h (.cells #[.slice a2 n2 c2, .int .i64 next] 28))
  have HXn2 := hid (rowIs2 w4 (.slice a2 n2 c2) (.int .i64 next) 28)
  have HSn2 := hid hs2
  clear HC hi hp h hs2 k0 k1 j0 j1 j2 j3 j4 j5 j6 j7 hcz hrz
  have HCBx := hid (rowIs_below HCB2.out (bcall HBx.out HBn2.out))
  have HRBx := hid (rowIs_below HRB2'.out (bcall HBx.out HBn2.out))
  have HICx := hid (HIC2.out.below (bcall HBx.out HBn2.out))
  have HBx : Hid (Below w2.heap.size w2 (w4.alloc (.cells #[.slice a2 n2 c2, .int .i64 next] 28))) := hid ((bcall HBx.out HBn2.out))
  obtain ⟨k0, k1⟩ := cells2 HCBx.out
  obtain ⟨j0, j1, j2, j3, j4, j5, j6, j7⟩ := rowCell8 HRBx.out
  have hcz := HCBx.out.lt
  have hrz := HRBx.out.lt
  have HC := hid (set_out HICx.out c' next id r)
  rw [HPL.out] at HC
  go_wp2_with fail
  refine HC.out.mono ?_
  rintro e w5 ⟨⟨v, ec3, Ln3, rfl, ho, hs3⟩, h⟩
  obtain ⟨a3, n3, c3, Tn3, In3, Rn3, rfl, hi, hp⟩ := ho
  have HOn3 : Hid (Out (w5.alloc (.cells #[.slice a3 n3 c3, .int .i64 next] 28)) (.slice a3 n3 c3) Ln3) := hid (Out.below ⟨_, _, _, _, _, _, rfl, hi, hp⟩ (bal (Below.refl _ _) _))
  have HBn3 := hid (bal h (.cells #[.slice a3 n3 c3, .int .i64 next] 28))
  have HXn3 := hid (rowIs2 w5 (.slice a3 n3 c3) (.int .i64 next) 28)
  have HSn3 := hid hs3
  clear HC hi hp h hs3 k0 k1 j0 j1 j2 j3 j4 j5 j6 j7 hcz hrz
  have HCBx := hid (rowIs_below HCB2.out (bcall HBx.out HBn3.out))
  have HRBx := hid (rowIs_below HRB2'.out (bcall HBx.out HBn3.out))
  have HICx := hid (HIC2.out.below (bcall HBx.out HBn3.out))
  have HBx : Hid (Below w2.heap.size w2 (w5.alloc (.cells #[.slice a3 n3 c3, .int .i64 next] 28))) := hid ((bcall HBx.out HBn3.out))
  obtain ⟨k0, k1⟩ := cells2 HCBx.out
  obtain ⟨j0, j1, j2, j3, j4, j5, j6, j7⟩ := rowCell8 HRBx.out
  have hcz := HCBx.out.lt
  have hrz := HRBx.out.lt
  have HC := hid (change_out HICx.out c' next id mask r)
  rw [HPL.out] at HC
  go_wp2_with fail
  refine HC.out.mono ?_
  rintro e w6 ⟨⟨v, ec4, Ln4, rfl, ho, hs4⟩, h⟩
  obtain ⟨a4, n4, c4, Tn4, In4, Rn4, rfl, hi, hp⟩ := ho
  have HOn4 : Hid (Out (w6.alloc (.cells #[.slice a4 n4 c4, .int .i64 next] 28)) (.slice a4 n4 c4) Ln4) := hid (Out.below ⟨_, _, _, _, _, _, rfl, hi, hp⟩ (bal (Below.refl _ _) _))
  have HBn4 := hid (bal h (.cells #[.slice a4 n4 c4, .int .i64 next] 28))
  have HXn4 := hid (rowIs2 w6 (.slice a4 n4 c4) (.int .i64 next) 28)
  have HSn4 := hid hs4
  clear HC hi hp h hs4 k0 k1 j0 j1 j2 j3 j4 j5 j6 j7 hcz hrz
  have HCBx := hid (rowIs_below HCB2.out (bcall HBx.out HBn4.out))
  have HRBx := hid (rowIs_below HRB2'.out (bcall HBx.out HBn4.out))
  have HICx := hid (HIC2.out.below (bcall HBx.out HBn4.out))
  have HBx : Hid (Below w2.heap.size w2 (w6.alloc (.cells #[.slice a4 n4 c4, .int .i64 next] 28))) := hid ((bcall HBx.out HBn4.out))
  obtain ⟨k0, k1⟩ := cells2 HCBx.out
  obtain ⟨j0, j1, j2, j3, j4, j5, j6, j7⟩ := rowCell8 HRBx.out
  have hcz := HCBx.out.lt
  have hrz := HRBx.out.lt
  skip
  go_upto_region 7 with fail
  have HX1 := hid (rowIs_below HXn1.out (bcall (bcall HBn2.out HBn3.out) HBn4.out))
  have HX2 := hid (rowIs_below HXn2.out (bcall HBn3.out HBn4.out))
  have HX3 := hid (rowIs_below HXn3.out HBn4.out)
  have HX4 := hid HXn4.out
  have HOA := hid (HOn1.out.below (bcall (bcall HBn2.out HBn3.out) HBn4.out))
  have HOB := hid (HOn2.out.below (bcall HBn3.out HBn4.out))
  have HOD := hid (HOn3.out.below HBn4.out)
  have HOX := hid HOn4.out
  have HSX := hid (rowIs_below HSB2'.out HBx.out)
  have HIS := hid (HIS2.out.below HBx.out)
  have HOC : Hid (Out (w6.alloc (.cells #[.slice a4 n4 c4, .int .i64 next] 28)) (.slice a' n c') (plainOf T I R n)) := hid ⟨_, _, _, _, _, _, rfl, HICx.out, HPL.out⟩
  have HWW := hid (bcall HW2.out HBx.out)
  have HLW : Hid ((GoodL next (plainOf T I R n) ∧ ok = true ∧ ∃ bm, lv = .map (some bm) ∧ Mp (w6.alloc (.cells #[.slice a4 n4 c4, .int .i64 next] 28)) bm (thM (plainOf T I R n))) ∨ (¬ GoodL next (plainOf T I R n) ∧ ok = false)) := hid (by
    rcases HLV.out with ⟨h1, h2, bm, h3, h4⟩ | h
    · exact Or.inl ⟨h1, h2, bm, h3, h4.below HBx.out⟩
    · exact Or.inr h)
  clear k0 k1 j0 j1 j2 j3 j4 j5 j6 j7 hcz hrz
  clear HBn1 HBn2 HBn3 HOn1 HOn2 HOn3 HXn1 HXn2 HXn3 HLV HSB2' HRB2' HCB2 HIS2 HIC2 HW2
  clear HBn4 HXn4 HOn4 HBx HICx HPL HST
  generalize w3.heap.size = ab at HX1 ⊢
  generalize w4.heap.size = bb at HX2 ⊢
  generalize w5.heap.size = db at HX3 ⊢
  generalize w6.heap.size = xb at HX4 ⊢
  generalize w6.alloc (.cells #[.slice a4 n4 c4, .int .i64 next] 28) = W7 at HX1 HX2 HX3 HX4 HOA HOB HOD HOX HSX HIS HOC HWW HLW HCBx HRBx ⊢
  have HCL : Hid (∀ W, Below W7.heap.size W7 W → W.cell? ⟨w.heap.size, 0, none⟩ = some (.slice a n cap) ∧ W.cell? ⟨w.heap.size, 1, none⟩ = some (.int .i64 next) ∧ W.cell? ⟨w.heap.size + 1, 0, none⟩ = some (.int .i64 r.x) ∧ W.cell? ⟨w.heap.size + 1, 1, none⟩ = some (.int .i64 r.y) ∧ W.cell? ⟨w.heap.size + 1, 2, none⟩ = some (.int .i64 r.px) ∧ W.cell? ⟨w.heap.size + 1, 3, none⟩ = some (.int .i64 r.py) ∧ W.cell? ⟨w.heap.size + 1, 4, none⟩ = some (.int .i64 r.wd) ∧ W.cell? ⟨w.heap.size + 1, 5, none⟩ = some (.int .i64 r.ht) ∧ W.cell? ⟨w.heap.size + 1, 6, none⟩ = some (.int .i64 r.ms) ∧ W.cell? ⟨w.heap.size + 1, 7, none⟩ = some (.int .i64 r.rr) ∧ W.cell? ⟨ab, 0, none⟩ = some (.slice a1 n1 c1) ∧ W.cell? ⟨ab, 1, none⟩ = some (.int .i64 nx) ∧ W.cell? ⟨bb, 0, none⟩ = some (.slice a2 n2 c2) ∧ W.cell? ⟨bb, 1, none⟩ = some (.int .i64 next) ∧ W.cell? ⟨db, 0, none⟩ = some (.slice a3 n3 c3) ∧ W.cell? ⟨db, 1, none⟩ = some (.int .i64 next) ∧ W.cell? ⟨xb, 0, none⟩ = some (.slice a4 n4 c4) ∧ W.cell? ⟨xb, 1, none⟩ = some (.int .i64 next) ∧ w.heap.size < W.heap.size ∧ w.heap.size + 1 < W.heap.size ∧ ab < W.heap.size ∧ bb < W.heap.size ∧ db < W.heap.size ∧ xb < W.heap.size) := hid (fun W hb => by
    have e1 := rowIs_below HSX.out hb
    have e2 := rowIs_below HRBx.out hb
    have e3 := rowIs_below HX1.out hb
    have e4 := rowIs_below HX2.out hb
    have e5 := rowIs_below HX3.out hb
    have e6 := rowIs_below HX4.out hb
    obtain ⟨g0, g1, g2, g3, g4, g5, g6, g7⟩ := rowCell8 e2
    exact ⟨(cells2 e1).1, (cells2 e1).2, g0, g1, g2, g3, g4, g5, g6, g7, (cells2 e3).1, (cells2 e3).2, (cells2 e4).1, (cells2 e4).2, (cells2 e5).1, (cells2 e5).2, (cells2 e6).1, (cells2 e6).2, e1.lt, e2.lt, e3.lt, e4.lt, e5.lt, e6.lt⟩)
  have HSM : Hid (∀ (v : Value) (W : World), Below W7.heap.size W7 W → Out W7 v (plainOf T I R n) → Calls Try.prog 30 #[.agg #[v, .int .i64 next], .agg #[.slice a n cap, .int .i64 next]] W fun e w' => e = .returned (.bool true) ∧ Below W.heap.size W w') := hid (fun v W hb ho => same_out (ho.below hb) (HIS.out.below hb))
  have HIR : Hid (∀ (m : Int) (W : World), Calls Try.prog 27 #[.int .i64 m, .agg #[.int .i64 r.x, .int .i64 r.y, .int .i64 r.px, .int .i64 r.py, .int .i64 r.wd, .int .i64 r.ht, .int .i64 r.ms, .int .i64 r.rr]] W fun e w' => e = .returned (.bool (goodRowB m r)) ∧ Below W.heap.size W w') := hid (fun m W => by rw [← isRow_good]; exact isRow_any m r W)
  obtain ⟨k0, k1⟩ := cells2 HCBx.out
  have kz := HCBx.out.lt
  have HBZ : Hid (Below W7.heap.size W7 W7) := hid (Below.refl _ _)
  obtain ⟨s0, s1, r0, r1, r2, r3, r4, r5, r6, r7, a0, a1, b0, b1, d0, d1, x0, x1, zs, zr, za, zb, zd, zx⟩ := HCL.out _ HBZ.out
  clear HX1 HX2 HX3 HX4 HSX HRBx
  go_upto_region 9 with (first | (go_at_call 30; refine (HSM.out _ _ HBZ.out (by first | exact HOC.out | exact HOA.out | exact HOB.out | exact HOD.out | exact HOX.out)).mono ?_; rintro e wz ⟨rfl, h⟩; have HBZ := hid (bcall HBZ.out h); clear h; clear s0 s1 r0 r1 r2 r3 r4 r5 r6 r7 a0 a1 b0 b1 d0 d1 x0 x1 zs zr za zb zd zx; obtain ⟨s0, s1, r0, r1, r2, r3, r4, r5, r6, r7, a0, a1, b0, b1, d0, d1, x0, x1, zs, zr, za, zb, zd, zx⟩ := HCL.out _ HBZ.out) | (go_at_call 31; refine (thingsL_any _).mono ?_; rintro e wz ⟨rfl, h⟩; have HBZ := hid (bcall HBZ.out h); clear h; clear s0 s1 r0 r1 r2 r3 r4 r5 r6 r7 a0 a1 b0 b1 d0 d1 x0 x1 zs zr za zb zd zx; obtain ⟨s0, s1, r0, r1, r2, r3, r4, r5, r6, r7, a0, a1, b0, b1, d0, d1, x0, x1, zs, zr, za, zb, zd, zx⟩ := HCL.out _ HBZ.out))
  clear k0 k1 kz HCBx
  rcases HLW.out with ⟨hgl, rfl, bm, rfl, hmp⟩ | ⟨hng, rfl⟩
  rotate_left
  · have HN1 := HSn1.out
    have HN2 := HSn2.out
    have HN3 := HSn3.out
    have HN4 := HSn4.out
    clear HSn1 HSn2 HSn3 HSn4
    rcases HN1 with ⟨rfl, rfl, rfl, ⟨rfl, -⟩ | ⟨-, hg, -⟩ | ⟨-, hg, -⟩⟩ | ⟨-, -, -, hg, -⟩
    rotate_left
    · exact absurd hg hng
    · exact absurd hg hng
    · exact absurd hg hng
    rcases HN2 with ⟨rfl, -, rfl⟩ | ⟨-, hg, -⟩ | ⟨-, hg, -⟩
    rotate_left
    · exact absurd hg hng
    · exact absurd hg hng
    rcases HN3 with ⟨rfl, -, rfl⟩ | ⟨-, hg, -⟩ | ⟨-, hg, -⟩ | ⟨-, hg, -⟩
    rotate_left
    · exact absurd hg hng
    · exact absurd hg hng
    · exact absurd hg hng
    rcases HN4 with ⟨rfl, -, rfl⟩ | ⟨-, hg, -⟩ | ⟨-, hg, -⟩ | ⟨-, hg, -⟩
    rotate_left
    · exact absurd hg hng
    · exact absurd hg hng
    · exact absurd hg hng
    go_wp2_with (first | (go_at_call 30; refine (HSM.out _ _ HBZ.out (by first | exact HOC.out | exact HOA.out | exact HOB.out | exact HOD.out | exact HOX.out)).mono ?_; rintro e wz ⟨rfl, h⟩; have HBZ := hid (bcall HBZ.out h); clear h; clear s0 s1 r0 r1 r2 r3 r4 r5 r6 r7 a0 a1 b0 b1 d0 d1 x0 x1 zs zr za zb zd zx; obtain ⟨s0, s1, r0, r1, r2, r3, r4, r5, r6, r7, a0, a1, b0, b1, d0, d1, x0, x1, zs, zr, za, zb, zd, zx⟩ := HCL.out _ HBZ.out))
    go_ret
    exact ⟨rfl, bcall HWW.out HBZ.out⟩
  have HGL := hid hgl
  have HMP := hid hmp
  have HCO : Hid (∀ W, Below W7.heap.size W7 W → Calls Try.prog 41 #[.map (some bm)] W fun e w' => (∃ c, e = .returned (.map (some c)) ∧ W.heap.size ≤ c ∧ Mp w' c (thM (plainOf T I R n))) ∧ Below W.heap.size W w') := hid (fun W hb => copy_any bm _ W (HMP.out.below hb) (by rw [thM_len HGL.out.even HGL.out.2.2.2.2.2]; exact Nat.le_trans HGL.out.2.1 (by decide)))
  have HLEN : Hid ((thM (plainOf T I R n)).length = (allL (plainOf T I R n)).length) := hid (thM_len HGL.out.even HGL.out.2.2.2.2.2)
  have hnx0 : 0 ≤ next ∧ next ≤ 1048576 := by have := HGL.out.1; simp [btw] at this; exact this
  obtain ⟨hn0, hn1⟩ := hnx0
  have hall : (allL (plainOf T I R n)).length ≤ 10 := HGL.out.2.1
  clear hgl hmp HLW
  have HN1 := HSn1.out
  clear HSn1
  have := hidw
  exact absurd HGL.out HCASE'.out
end Go.Proofs.Ytckkkdldljhehaa.Te
