/- What WorldOrder of package ninepinskeep answers when called over any world in memory: true; nothing that was in memory before has changed. -/
import Derived.Test.YtckkkdldljhehabGreatKtWdOs
import Derived.Test.YtckkkdldljhehabGreatKtWdK
import Derived.Test.YtckkkdldljhehabGreatKtWdN
import Derived.Test.YtckkkdldljhehabGreatKtSoH
import Derived.Test.YtckkkdldljhehabGreatKtRpP
import Derived.Maps.AppendAt
import Derived.Deep.RegionHeld3
import Derived.Deep.DeepFit
import Derived.Deep.DeepCutAuto
namespace Go.Proofs.YtckkkdldljhehabGreat.Wd
open Go.Proofs.YtckkkdldljhehabGreat.Num Go.Proofs.YtckkkdldljhehabGreat.St
open Go.ChangeShapes Go.WideShapes Go.ChangeAt Go.RowKit

theorem below_grown2 {w0 w w' : World} (h : Below w0.heap.size w0 w) (hg : w.grownBy w' none) : Below w0.heap.size w0 w' :=
  ⟨hg.os.trans h.os, hg.tape.trans h.tape, hg.output.trans h.output, Nat.le_trans h.size hg.size, fun k hk => (hg.block k (by have := h.size; omega) (fun e => by cases e)).trans (h.block k hk)⟩
theorem below_grown4 {w0 w w' : World} {g : Nat} (h : Below w0.heap.size w0 w) (hg : w.grownBy w' (some g)) (hle : w0.heap.size ≤ g) : Below w0.heap.size w0 w' :=
  ⟨hg.os.trans h.os, hg.tape.trans h.tape, hg.output.trans h.output, Nat.le_trans h.size hg.size, fun k hk => (hg.block k (by have := h.size; omega) (fun e => by cases e; omega)).trans (h.block k hk)⟩
theorem below_grown' {B : Nat} {w0 w w' : World} {o : Option Nat} (h : Below B w0 w) (hg : w.grownBy w' o) (hB : B ≤ w0.heap.size) (ho : ∀ z, o = some z → B ≤ z) : Below B w0 w' :=
  ⟨hg.os.trans h.os, hg.tape.trans h.tape, hg.output.trans h.output, Nat.le_trans h.size hg.size, fun k hk => (hg.block k (by have := h.size; omega) (fun e => by have := ho k e.symm; omega)).trans (h.block k hk)⟩
theorem rowIsL3 (w : World) (m : Int) (u v : Value) (t : TypeId) : (w.alloc (.cells #[.int .i64 m, u, v] t)).cell? ⟨w.heap.size, 0, none⟩ = some (.int .i64 m) ∧ (w.alloc (.cells #[.int .i64 m, u, v] t)).cell? ⟨w.heap.size, 1, none⟩ = some u ∧ (w.alloc (.cells #[.int .i64 m, u, v] t)).cell? ⟨w.heap.size, 2, none⟩ = some v := by
  have h : (w.alloc (.cells #[.int .i64 m, u, v] t)).rowIs w.heap.size t 3 (fun i => if i = 0 then .int .i64 m else if i = 1 then u else v) := ⟨_, (MapKept.heap_alloc w _).1, rfl, fun i hi => by
    match i, hi with
    | 0, _ => rfl
    | 1, _ => rfl
    | 2, _ => rfl⟩
  exact ⟨h.cell (i := 0) (by omega), h.cell (i := 1) (by omega), h.cell (i := 2) (by omega)⟩
theorem tab_cells (w : World) (m : Int) (u v : Value) (t : TypeId) : ∀ j x, [Value.int .i64 m, u, v][j]? = some x → (w.alloc (.cells #[.int .i64 m, u, v] t)).cell? ((⟨w.heap.size, 0, none⟩ : Addr).add j) = some x := by
  intro j x hj
  have hr := rowIsL3 w m u v t
  rw [Addr.add_lit, Nat.zero_add]
  match j, hj with
  | 0, hj => cases hj; exact hr.1
  | 1, hj => cases hj; exact hr.2.1
  | 2, hj => cases hj; exact hr.2.2
  | k + 3, hj => simp at hj
theorem plain_succ (T : Nat → TabV) (I : Nat → Nat → Int) (R : Nat → Nat → R8) (j : Nat) : plainOf T I R (j + 1) = plainOf T I R j ++ [tabOf T I R j] := by simp [plainOf, List.range_succ]
theorem step_pairs {next : Int} {L : List Tab} (hg : GoodL next L) (fall wide high : Int) : (stepG L fall wide high).2.length ≤ 100 := by
  have h : ∀ (l : List (Int × Int)) (s : (Int → R8) × List (Int × Int)), (l.foldl (meet1 (mk L)) s).2.length ≤ s.2.length + l.length := by
    intro l
    induction l with
    | nil => intro s; simp
    | cons p l ih =>
      intro s
      refine Nat.le_trans (ih _) ?_
      have : (meet1 (mk L) s p).2.length ≤ s.2.length + 1 := by unfold meet1; split <;> simp
      simp only [List.length_cons]
      omega
  unfold stepG meetG
  refine Nat.le_trans (h _ _) ?_
  simp only [List.length_nil, Nat.zero_add]
  exact pairs_len _ (by unfold boxG; rw [List.length_map]; exact ids_len hg)
set_option maxHeartbeats 8000000 in
set_option maxRecDepth 100000 in
theorem order_any (a : Option Addr) (n cap : Nat) (next fall wide high : Int) (T : Nat → TabV) (I : Nat → Nat → Int) (R : Nat → Nat → R8) (k4 : Int) (w : World) (h : StoreIn w a n T I R) :
    Calls Tryz.prog 4 #[.agg #[.slice a n cap, .int .i64 next, .int .i64 fall, .int .i64 wide, .int .i64 high], .int .i64 k4] w fun e w' => e = .returned (.bool true) ∧ Below w.heap.size w w' := by
  have HIN := St.hid h
  have hnz : n ≤ 9223372036854775807 := by have := h.fits.1; omega
  have HST := St.hid (Sto.of_in cap h)
  have hW0 := St.hid (rowIs5 w (.slice a n cap) next fall wide high 26)
  clear h
  go_enter Tryz.func4, Tryz.ntmps4
  go_wp2_with fail
  refine (wgood_any next fall wide high (HST.out.below (bal (Below.refl _ _) _))).mono ?_
  rintro e w1 ⟨⟨g, rfl, hgi⟩, hb1⟩
  have hW1 := St.hid (rowIs_below hW0.out hb1)
  have HB1 := St.hid (bcall (bal (Below.refl _ w) _) hb1)
  have hz1 := hb1.size
  simp at hz1
  clear hb1 hW0
  cases g with
  | false =>
    clear hgi
    go_wp2_with (go_at_call 22; refine (worlds_any _).mono ?_; rintro e w2 ⟨rfl, hb2⟩; have HB2 := St.hid (bcall HB1.out hb2); clear hb2)
    go_ret
    exact ⟨rfl, HB2.out⟩
  | true =>
    have hgw := hgi.1 rfl
    have HGW := St.hid hgw
    clear hgi hgw
    obtain ⟨x0, x1, x2, x3, x4, -, -, -, -, -⟩ := wcells hW1.out
    have hzb : w.heap.size < w1.heap.size := by omega
    go_wp2_with fail
    have hV0 := St.hid (rowIs5 w1 (.slice none 0 0) next fall wide high 26)
    have HB2 := St.hid (bal (Below.refl _ w1) (.cells #[.slice none 0 0, .int .i64 next, .int .i64 fall, .int .i64 wide, .int .i64 high] 26))
    have hz2 : (w1.alloc (.cells #[.slice none 0 0, .int .i64 next, .int .i64 fall, .int .i64 wide, .int .i64 high] 26)).heap.size = w1.heap.size + 1 := by simp
    generalize w1.alloc (.cells #[.slice none 0 0, .int .i64 next, .int .i64 fall, .int .i64 wide, .int .i64 high] 26) = W2 at hV0 HB2 hz2 ⊢
    generalize hvb : w1.heap.size = vb at hV0 hz2 ⊢
    go_loopw [29] (fun i wr => ∃ (j : Nat) (vv : Value) (S : List OT), j ≤ n ∧ i = .int .i64 j ∧ Hid (wr.rowIs vb 26 5 (wcell vv next fall wide high)) ∧ Hid (Own wr W2.heap.size vv S ∧ S.map (·.t) = swL (fun q => (pk k4 q).toNat) (plainOf T I R j)) ∧ Hid (Below w1.heap.size w1 wr) ∧ W2.heap.size ≤ wr.heap.size) (fun i _ => n - (intOf i).toNat)
    case atStart => exact ⟨0, .slice none 0 0, [], Nat.zero_le _, rfl, hV0, St.hid ⟨⟨World.ownsRow_nil _ _ _ _, (fun o h => by cases h), by simp [blocks, Value.ownBlock]⟩, rfl⟩, HB2, Nat.le_refl _⟩
    case round =>
      obtain ⟨j, vv, S, hj, rfl, HV, HOW, HBR, hzr⟩ := hrel
      by_cases hlt : j < n
      · have hlt' : (j : Int) < (n : Int) := by omega
        have HB3 := St.hid (bcall HB1.out HBR.out)
        obtain ⟨i3, hi3, hz3, hs3, hb3⟩ := info_parts St.info3
        obtain ⟨i30, hi30, hz30, hs30, hb30⟩ := info_parts St.info30
        obtain ⟨i66, hi66, hz66, hs66, hb66⟩ := info_parts St.info66
        have hin := HIN.out.below HB3.out
        have hgt := HGW.out.1.2.2.2.2.1 (tabOf T I R j) (mem_plain.2 ⟨j, hlt, rfl⟩)
        have hids10 : (tabOf T I R j).ids.length ≤ 10 := Nat.le_trans (by
          have hs : [tabOf T I R j].Sublist (plainOf T I R n) := List.singleton_sublist.2 (mem_plain.2 ⟨j, hlt, rfl⟩)
          have := flat_le hs
          simpa [allL] using this) HGW.out.1.2.1
        have hIds := hin.ids j hlt
        have hRows := hin.rows j hlt
        obtain ⟨b, off, rfl, hb, hc⟩ := hin.tabs (by omega)
        obtain ⟨t0, t1, t2⟩ := hc j hlt
        have HPS := St.hid (plain_succ T I R j)
        have hpos : 0 < (T j).il := by have := List.length_pos_iff.2 hgt.1; simpa [tabOf] using this
        have hrl : (T j).rl = (T j).il := by have := hgt.2.1; simp [tabOf] at this; omega
        have hil10 : (T j).il ≤ 10 := by simpa [tabOf] using hids10
        have HTB : Hid (tabOf T I R j = ⟨(T j).mask, (List.range (T j).il).map (I j), (List.range (T j).il).map (R j)⟩) := St.hid (by unfold tabOf; rw [hrl])
        rw [hrl] at hRows
        obtain ⟨bi, oi, hia, hbi, hci⟩ := hIds hpos
        obtain ⟨br, or', hra, hbr, hcr⟩ := hRows hpos
        have HIC := St.hid (IdsIn.cells (ad := ⟨bi, oi, none⟩) (n := (T j).il) (f := I j) (w := wr) (fun _ => ⟨bi, oi, rfl, hbi, hci⟩))
        have HRC := St.hid (RowsIn.cells (ad := ⟨br, or', none⟩) (n := (T j).il) (r := R j) (w := wr) (fun _ => ⟨br, or', rfl, hbr, hcr⟩))
        obtain ⟨ids, HID⟩ : ∃ q, Hid (q = (List.range (T j).il).map (I j)) := ⟨_, rfl⟩
        obtain ⟨rows, HRW⟩ : ∃ q, Hid (q = (List.range (T j).il).map (R j)) := ⟨_, rfl⟩
        have hidl : ids.length = (T j).il := by rw [HID.out]; simp
        have hrwl : rows.length = (T j).il := by rw [HRW.out]; simp
        rw [← HID.out, ← HRW.out] at HTB
        rw [← HID.out] at HIC
        rw [← HRW.out] at HRC
        generalize T j = t at t0 t1 t2 HTB hpos hrl hil10 hia hra hidl hrwl HID HRW
        obtain ⟨tm, ia, il, ic, ra, rl, rc⟩ := t
        simp only at t0 t1 t2 HTB hpos hrl hil10 hia hra hidl hrwl
        subst hrl hia hra
        obtain ⟨q, hqe, hql⟩ : ∃ q : Nat, pk k4 (rl : Int) = (q : Int) ∧ q < rl := ⟨(pk k4 (rl : Int)).toNat, by have := pk_le k4 (rl : Int) (by omega); omega, by have := pk_le k4 (rl : Int) (by omega); omega⟩
        have HIDL := St.hid hidl
        have HRWL := St.hid hrwl
        clear hin hc hci hcr hIds hRows hgt hids10 HID HRW hidl hrwl x0 x1 x2 x3 x4
        have hvl := HV.out.lt
        go_upto_region 8 with fail
        have HT4 := St.hid (rowIs3 wr ⟨tm, some ⟨bi, oi, none⟩, rl, ic, some ⟨br, or', none⟩, rl, rc⟩ 53)
        have HBA := St.hid (bal (Below.refl _ wr) (.cells #[.int .i64 tm, .slice (some ⟨bi, oi, none⟩) rl ic, .slice (some ⟨br, or', none⟩) rl rc] 53))
        have hz4 : (wr.alloc (.cells #[.int .i64 tm, .slice (some ⟨bi, oi, none⟩) rl ic, .slice (some ⟨br, or', none⟩) rl rc] 53)).heap.size = wr.heap.size + 1 := by simp
        generalize htb : wr.heap.size = tb at HT4 hz4 ⊢
        have HT4' : Hid ((wr.alloc (.cells #[.int .i64 tm, .slice (some ⟨bi, oi, none⟩) rl ic, .slice (some ⟨br, or', none⟩) rl rc] 53)).rowIs tb 53 3 (tcell ⟨tm, some ⟨bi, oi, none⟩, rl, ic, some ⟨br, or', none⟩, rl, rc⟩)) := HT4
        clear HT4
        generalize wr.alloc (.cells #[.int .i64 tm, .slice (some ⟨bi, oi, none⟩) rl ic, .slice (some ⟨br, or', none⟩) rl rc] 53) = W4 at HT4' HBA hz4 ⊢
        have HIC4 : Hid (∀ W', Below W4.heap.size W4 W' → ∀ i u, (ids.map (Value.int .i64))[i]? = some u → W'.cell? ((⟨bi, oi, none⟩ : Addr).add i) = some u) := St.hid (fun W' hb i u hi => by
          have h1 := HIC.out i u hi
          rw [Addr.add_lit] at h1 ⊢
          exact ((bcall HBA.out hb).cell (p := ⟨bi, oi + i, none⟩) hbi).trans h1)
        have HRC4 : Hid (∀ W', Below W4.heap.size W4 W' → ∀ i u, (rows.flatMap rowCells)[i]? = some u → W'.cell? ((⟨br, or', none⟩ : Addr).add i) = some u) := St.hid (fun W' hb i u hi => by
          have h1 := HRC.out i u hi
          rw [Addr.add_lit] at h1 ⊢
          exact ((bcall HBA.out hb).cell (p := ⟨br, or' + i, none⟩) hbr).trans h1)
        obtain ⟨z0, z1, z2⟩ := tcells (t := ⟨tm, some ⟨bi, oi, none⟩, rl, ic, some ⟨br, or', none⟩, rl, rc⟩) HT4'.out
        have HSK : Hid (∀ W', Below W4.heap.size W4 W' → W'.cell? ⟨tb, 0, none⟩ = some (.int .i64 tm) ∧ W'.cell? ⟨tb, 1, none⟩ = some (.slice (some ⟨bi, oi, none⟩) rl ic) ∧ W'.cell? ⟨tb, 2, none⟩ = some (.slice (some ⟨br, or', none⟩) rl rc)) := St.hid (fun W' hb => tcells (t := ⟨tm, some ⟨bi, oi, none⟩, rl, ic, some ⟨br, or', none⟩, rl, rc⟩) (rowIs_below HT4'.out hb))
        go_cut [8, 9] (fun iv rv wx => ∃ W gi ci gr cr, iv = .slice (some ⟨gi, 0, none⟩) rl ci ∧ rv = .slice (some ⟨gr, 0, none⟩) rl cr ∧ W = wx ∧ gi ≠ gr ∧ Hid (W.ownsRow W4.heap.size 3 1 (.slice (some ⟨gi, 0, none⟩) rl ci) rl (ids.map (Value.int .i64))) ∧ Hid (W.ownsRow W4.heap.size 56 8 (.slice (some ⟨gr, 0, none⟩) rl cr) rl (rows.flatMap rowCells)) ∧ Hid (Below W4.heap.size W4 W))
        case first =>
          go_region_held3 (fun W' => W'.cell? ⟨tb, 0, none⟩ = some (.int .i64 tm) ∧ W'.cell? ⟨tb, 1, none⟩ = some (.slice (some ⟨bi, oi, none⟩) rl ic) ∧ W'.cell? ⟨tb, 2, none⟩ = some (.slice (some ⟨br, or', none⟩) rl rc)) (exact HSK.out _ (by repeat (first | with_reducible exact Below.refl _ _ | with_reducible exact HB6.out | with_reducible exact HB5.out | with_reducible refine Below.drew ?_)))
            (first
            | (refine step_app_nil (w := W4.drew) 50 3 i3 (.int .i64 0) 1 8 Tryz.underlying50 hi3 hz3 hs3 hb3 rfl (by decide) rfl _ _ rfl rfl ⟨bi, oi, none⟩ rl ic (ids.map (Value.int .i64)) rfl (by rw [List.length_map, HIDL.out, Nat.mul_one]) (HIC4.out _ (Below.drew (Below.refl _ _))) (ints_one _) (by unfold maxLen; omega) (by omega) hpos ?_; intro gi ci w5 ho5 hg5 hle5; have HO5 := St.hid ho5; have HB5 := St.hid (below_grown2 (Below.drew (Below.refl _ W4)) hg5); clear ho5 hg5)
            | (refine step_app_nil (w := w5) 51 56 i30 (.agg #[.int .i64 0, .int .i64 0, .int .i64 0, .int .i64 0, .int .i64 0, .int .i64 0, .int .i64 0, .int .i64 0]) 8 64 Tryz.underlying51 hi30 hz30 hs30 hb30 rfl (by decide) rfl _ _ rfl rfl ⟨br, or', none⟩ rl rc (rows.flatMap rowCells) rfl (by rw [rows_length, HRWL.out]) (HRC4.out _ HB5.out) (rowCells_one _) (by unfold maxLen; omega) (by omega) hpos ?_; intro gr cr w6 ho6 hg6 hle6; have HO6 := St.hid (owns_mono ho6 HB5.out.size); have HO5' := St.hid (owns_kept HO5.out hg6 (fun z hz e => by cases e)); have HB6 := St.hid (below_grown2 HB5.out hg6); have HGR := St.hid (Nat.lt_of_lt_of_le (HO5.out.lt gi rfl).2 hle6); clear ho6 hg6))
          all_goals
            go_wp2_with fail
            go_meet
            exact ⟨_, gi, ci, gr, cr, rfl, rfl, rfl, Nat.ne_of_lt HGR.out, HO5', HO6, HB6⟩
        case rest =>
        obtain ⟨W6, gi, ci, gr, cr, rfl, rfl, rfl, hne, HO5, HO6, HB6⟩ := hcut
        clear z0 z1 z2 HIC4 HRC4 HIC HRC
        go_wp2_with (go_at_call 23; refine (pick_any k4 _ (by omega) (by omega) _).mono ?_; rintro e W6 ⟨rfl, rfl⟩)
        try rw [hqe]
        have HQE := St.hid hqe
        obtain ⟨xi, hxi⟩ : ∃ x, ids[q]? = some x := ⟨_, List.getElem?_eq_getElem (by have := HIDL.out; omega)⟩
        obtain ⟨yi, hyi⟩ : ∃ x, ids[0]? = some x := ⟨_, List.getElem?_eq_getElem (by have := HIDL.out; omega)⟩
        have c0 : W6.cell? ⟨gi, 0, none⟩ = some (.int .i64 yi) := by rw [HO5.out.cellAt 0 (by omega), List.getElem?_map, hyi]; rfl
        have cq : W6.cell? ⟨gi, q, none⟩ = some (.int .i64 xi) := by rw [HO5.out.cellAt q (by omega), List.getElem?_map, hxi]; rfl
        have f0 : W6.frozen? ⟨gi, 0, none⟩ = false := HO5.out.frozenAt 0
        have fq : W6.frozen? ⟨gi, q, none⟩ = false := HO5.out.frozenAt q
        obtain ⟨ui, cq2⟩ : ∃ u, (W6.setCell ⟨gi, 0, none⟩ (.int .i64 xi)).cell? ⟨gi, q, none⟩ = some u := ⟨_, ((HO5.out.stored 0 (.int .i64 xi)).1.cellAt q (by omega)).trans (List.getElem?_eq_getElem (by simp; have := HIDL.out; omega))⟩
        have hql' : (q : Int) < (rl : Int) := by omega
        have hrl' : (0 : Int) < (rl : Int) := by omega
        have HXI := St.hid hxi
        have HYI := St.hid hyi
        have hgi := HO5.out.lt gi rfl
        have hgr2 := HO6.out.lt gr rfl
        clear hqe hxi hyi
        go_cut [] (fun wx => wx = ((W6.setCell ⟨gi, 0, none⟩ (.int .i64 xi)).setCell ⟨gi, q, none⟩ (.int .i64 yi)).drew)
        case first =>
          go_region
          all_goals
            go_wp2_with fail
            go_meet
            all_goals rfl
        case rest =>
        obtain rfl := hcut
        have HI7 := St.hid (owns_below (ids_swap HIDL.out.symm hql HXI.out HYI.out HO5.out) (Below.drew (Below.refl _ _)))
        have HR7 := St.hid (owns_below (owns_set (owns_set HO6.out (show (Value.slice (some ⟨gr, 0, none⟩) rl cr).ownBlock ≠ some gi from fun e => hne (Option.some.inj e).symm) 0 (.int .i64 xi)) (show (Value.slice (some ⟨gr, 0, none⟩) rl cr).ownBlock ≠ some gi from fun e => hne (Option.some.inj e).symm) q (.int .i64 yi)) (Below.drew (Below.refl _ _)))
        have HB7 := St.hid (Below.drew ((HB6.out.setCell (p := ⟨gi, 0, none⟩) hgi.1 (.int .i64 xi)).setCell (p := ⟨gi, q, none⟩) hgi.1 (.int .i64 yi)))
        generalize ((W6.setCell ⟨gi, 0, none⟩ (.int .i64 xi)).setCell ⟨gi, q, none⟩ (.int .i64 yi)).drew = W7 at HI7 HR7 HB7 ⊢
        clear c0 cq f0 fq cq2 HO5 HO6 HB6
        obtain ⟨xr, hxr⟩ : ∃ x, rows[q]? = some x := ⟨_, List.getElem?_eq_getElem (by have := HRWL.out; omega)⟩
        obtain ⟨yr, hyr⟩ : ∃ x, rows[0]? = some x := ⟨_, List.getElem?_eq_getElem (by have := HRWL.out; omega)⟩
        obtain ⟨ra0, ra1, ra2, ra3, ra4, ra5, ra6, ra7⟩ := row_at HR7.out hyr
        obtain ⟨rb0, rb1, rb2, rb3, rb4, rb5, rb6, rb7⟩ := row_at HR7.out hxr
        simp only [Nat.zero_mul, Nat.zero_add] at ra0 ra1 ra2 ra3 ra4 ra5 ra6 ra7
        have fa0 : W7.frozen? ⟨gr, 0, none⟩ = false := HR7.out.frozenAt 0
        have fa1 : W7.frozen? ⟨gr, 1, none⟩ = false := HR7.out.frozenAt 1
        have fa2 : W7.frozen? ⟨gr, 2, none⟩ = false := HR7.out.frozenAt 2
        have fa3 : W7.frozen? ⟨gr, 3, none⟩ = false := HR7.out.frozenAt 3
        have fa4 : W7.frozen? ⟨gr, 4, none⟩ = false := HR7.out.frozenAt 4
        have fa5 : W7.frozen? ⟨gr, 5, none⟩ = false := HR7.out.frozenAt 5
        have fa6 : W7.frozen? ⟨gr, 6, none⟩ = false := HR7.out.frozenAt 6
        have fa7 : W7.frozen? ⟨gr, 7, none⟩ = false := HR7.out.frozenAt 7
        have fb0 : W7.frozen? ⟨gr, q * 8, none⟩ = false := HR7.out.frozenAt (q * 8)
        have fb1 : W7.frozen? ⟨gr, q * 8 + 1, none⟩ = false := HR7.out.frozenAt (q * 8 + 1)
        have fb2 : W7.frozen? ⟨gr, q * 8 + 2, none⟩ = false := HR7.out.frozenAt (q * 8 + 2)
        have fb3 : W7.frozen? ⟨gr, q * 8 + 3, none⟩ = false := HR7.out.frozenAt (q * 8 + 3)
        have fb4 : W7.frozen? ⟨gr, q * 8 + 4, none⟩ = false := HR7.out.frozenAt (q * 8 + 4)
        have fb5 : W7.frozen? ⟨gr, q * 8 + 5, none⟩ = false := HR7.out.frozenAt (q * 8 + 5)
        have fb6 : W7.frozen? ⟨gr, q * 8 + 6, none⟩ = false := HR7.out.frozenAt (q * 8 + 6)
        have fb7 : W7.frozen? ⟨gr, q * 8 + 7, none⟩ = false := HR7.out.frozenAt (q * 8 + 7)
        obtain ⟨zr, hzr⟩ : ∃ z, (rows.set 0 xr)[q]? = some z := ⟨_, List.getElem?_eq_getElem (by simp; have := HRWL.out; omega)⟩
        obtain ⟨rc0, rc1, rc2, rc3, rc4, rc5, rc6, rc7⟩ := row_at (rows_write2 xr HRWL.out (by omega) HR7.out) hzr
        simp only [setRow8, Nat.zero_mul, Nat.zero_add] at rc0 rc1 rc2 rc3 rc4 rc5 rc6 rc7
        clear hzr
        have HXR := St.hid hxr
        have HYR := St.hid hyr
        clear hxr hyr
        go_upto_region 11 with fail
        go_cut [] (fun wx => wx = (setRow8 (setRow8 W7 gr 0 xr) gr q yr).drew)
        case first =>
          go_region
          all_goals
            go_wp2_with fail
            go_meet
            all_goals rfl
        case rest =>
        obtain rfl := hcut
        have HI8 := St.hid (owns_below (owns_kept (owns_kept HI7.out (grown_row8 W7 gr 0 xr) (fun z hz e => hne ((Option.some.inj hz).trans (Option.some.inj e).symm))) (grown_row8 _ gr q yr) (fun z hz e => hne ((Option.some.inj hz).trans (Option.some.inj e).symm))) (Below.drew (Below.refl _ _)))
        have HR8 := St.hid (owns_below (rows_swap2 HRWL.out hql HXR.out HYR.out HR7.out) (Below.drew (Below.refl _ _)))
        have HB8 := St.hid (Below.drew (below_grown4 (below_grown4 HB7.out (grown_row8 W7 gr 0 xr) hgr2.1) (grown_row8 _ gr q yr) hgr2.1))
        generalize (setRow8 (setRow8 W7 gr 0 xr) gr q yr).drew = W8 at HI8 HR8 HB8 ⊢
        clear ra0 ra1 ra2 ra3 ra4 ra5 ra6 ra7 rb0 rb1 rb2 rb3 rb4 rb5 rb6 rb7 rc0 rc1 rc2 rc3 rc4 rc5 rc6 rc7 fa0 fa1 fa2 fa3 fa4 fa5 fa6 fa7 fb0 fb1 fb2 fb3 fb4 fb5 fb6 fb7 HI7 HR7 HB7
        have HBW := St.hid (bcall HBA.out HB8.out)
        have HV8 := St.hid (rowIs_below HV.out HBW.out)
        have HOW8 := St.hid (HOW.out.1.below HBW.out)
        obtain ⟨y0, y1, y2, y3, y4, yf0, yf1, yf2, yf3, yf4⟩ := wcells HV8.out
        have hvl8 := HV8.out.lt
        obtain ⟨z0, z1, z2⟩ := HSK.out W8 HB8.out
        have hz8 := HB8.out.size
        have HOW9 := St.hid (HOW8.out.below (bal (Below.refl _ _) (.cells #[.int .i64 tm, .slice (some ⟨gi, 0, none⟩) rl ci, .slice (some ⟨gr, 0, none⟩) rl cr] 53)))
        have HI9 := St.hid (owns_below HI8.out (bal (Below.refl _ _) (.cells #[.int .i64 tm, .slice (some ⟨gi, 0, none⟩) rl ci, .slice (some ⟨gr, 0, none⟩) rl cr] 53)))
        have HR9 := St.hid (owns_below HR8.out (bal (Below.refl _ _) (.cells #[.int .i64 tm, .slice (some ⟨gi, 0, none⟩) rl ci, .slice (some ⟨gr, 0, none⟩) rl cr] 53)))
        have HV9 := St.hid (rowIs_below HV8.out (bal (Below.refl _ _) (.cells #[.int .i64 tm, .slice (some ⟨gi, 0, none⟩) rl ci, .slice (some ⟨gr, 0, none⟩) rl cr] 53)))
        have hSl : S.length ≤ 1000 := by
          have h1 := congrArg List.length HOW.out.2
          simp [swL, plainOf] at h1
          have h2 := goodL_len HGW.out.1
          simp [plainOf] at h2
          omega
        go_wp2_with (at_builtin; refine wpList_append_own_at _ rfl _ _ 22 rfl W2.heap.size 53 i66 (.agg #[.int .i64 0, .slice none 0 0, .slice none 0 0]) 3 56 Tryz.underlying22 hi66 hz66 hs66 hb66 rfl (by decide) _ _ _ rfl HOW9.out.1 ⟨W8.heap.size, 0, none⟩ 1 1 [.int .i64 tm, .slice (some ⟨gi, 0, none⟩) rl ci, .slice (some ⟨gr, 0, none⟩) rl cr] rfl ?c1 ?c2 ?c3 ?c4 ?c5 ?c6 ?_)
        case c1 => rfl
        case c2 => exact tab_cells W8 tm _ _ 53
        case c3 => intro u hu; simp at hu; rcases hu with rfl | rfl | rfl <;> rfl
        case c4 => unfold maxLen; omega
        case c5 => omega
        case c6 => simp; omega
        intro v' w9 hown9 hg9 _ hat9
        obtain ⟨av', cv', rfl, -⟩ := Sw.owns_slice hown9
        have HO10 := St.hid (own_snoc (o := ⟨⟨tm, swp ids q, swp rows q⟩, .slice (some ⟨gi, 0, none⟩) rl ci, .slice (some ⟨gr, 0, none⟩) rl cr⟩) HOW9.out ⟨by rw [swp_len, HIDL.out]; exact owns_mono HI9.out (by omega), by rw [swp_len, HRWL.out]; exact owns_mono HR9.out (by omega)⟩ (by simp [otBlocks, Value.ownBlock]; exact hne) (fun z hz hc => by
          have h1 := (HOW.out.1.lt z hc).2
          simp [otBlocks, Value.ownBlock] at hz
          rcases hz with rfl | rfl <;> omega) hg9 (by rw [hz2]; exact hown9) (by first | exact hat9 | (rw [World.size_alloc]; exact hat9)))
        have HV10 := St.hid (rowIs_grown HV9.out hg9 (fun e => by have := (HOW9.out.1.lt vb e).1; omega))
        have HB10 := St.hid (below_grown' (w0 := w1) (B := w1.heap.size) (bcall HBR.out (bcall HBW.out (bal (Below.refl _ _) (.cells #[.int .i64 tm, .slice (some ⟨gi, 0, none⟩) rl ci, .slice (some ⟨gr, 0, none⟩) rl cr] 53)))) hg9 (Nat.le_refl _) (fun z e => by have := (HOW9.out.1.lt z e).1; omega))
        have hz10 := hg9.size
        simp at hz10
        clear hown9 hg9 hat9 y0 y1 y2 y3 y4 yf0 yf1 yf2 yf3 yf4
        obtain ⟨y0, y1, y2, y3, y4, yf0, yf1, yf2, yf3, yf4⟩ := wcells HV10.out
        go_wp2_with fail
        go_roundw
        case rel =>
          refine ⟨j + 1, .slice av' (S.length + 1) cv', S ++ [⟨⟨tm, swp ids q, swp rows q⟩, .slice (some ⟨gi, 0, none⟩) rl ci, .slice (some ⟨gr, 0, none⟩) rl cr⟩], by omega, by go_num, ?_, St.hid ⟨HO10.out.set (by omega) 0 _, ?_⟩, St.hid (HB10.out.setCell (by simp; omega) _), by simp; omega⟩
          · exact (HV10.out.set 0 (.slice av' (S.length + 1) cv')).congr (fun i hi => by
              match i, hi with
              | 0, _ => rfl
              | 1, _ => rfl
              | 2, _ => rfl
              | 3, _ => rfl
              | 4, _ => rfl)
          · rw [List.map_append, HOW.out.2, HPS.out]
            simp only [swL, List.map_append, List.map_cons, List.map_nil]
            rw [HTB.out]
            simp only [swT, HIDL.out]
            rw [HQE.out]
            simp
        case measure => simp [intOf]; omega
      · have hjn : j = n := by omega
        subst hjn
        have hgs := sw_good (next := next) (f := fun q => (pk k4 q).toNat) HGW.out.1 (fun q hq => by have := pk_le k4 q (by omega); omega)
        have HGV : Hid (GoodWd next fall wide high (swL (fun q => (pk k4 q).toNat) (plainOf T I R j))) := St.hid ⟨hgs.1, HGW.out.2⟩
        have HSA := St.hid hgs.2
        have hos := HOW.out.1
        have hgm : GoodL next (S.map (·.t)) := by rw [HOW.out.2]; exact hgs.1
        obtain ⟨Fv, hsv, hFv⟩ := own_sto hos hgm
        rw [HOW.out.2] at hsv
        have HSV := St.hid hsv
        obtain ⟨av, nv, cv, rfl⟩ := hsv.one
        clear hgs hos hgm hsv hFv x0 x1 x2 x3 x4
        generalize HLv : swL (fun q => (pk k4 q).toNat) (plainOf T I R j) = Lv at HGV HSA HSV
        clear HLv HOW
        have HS0 := St.hid (HST.out.below (bcall HB1.out HBR.out))
        obtain ⟨L, HL⟩ : ∃ L, Hid (L = plainOf T I R j) := ⟨_, rfl⟩
        rw [← HL.out] at HS0 HSA HGW
        obtain ⟨x0, x1, x2, x3, x4, -, -, -, -, -⟩ := wcells (rowIs_below hW1.out HBR.out)
        have hzb2 := (rowIs_below hW1.out HBR.out).lt
        go_wp2_with fail
        refine (step_any next fall wide high HS0.out).mono ?_
        rintro e w3 ⟨⟨a3, n3, c3, u3, ec3, rfl, hout3⟩, hb3⟩
        rcases hout3 with ⟨hno, -⟩ | ⟨-, rfl, ⟨F3, hs3, -⟩, hu3⟩
        · exact absurd HGW.out hno
        obtain ⟨au3, cu3, rfl, -⟩ := Sw.owns_slice hu3
        have HS3 := St.hid hs3
        have HU3 := St.hid (Rp.PairsR.own hu3 rfl)
        have HV3 := St.hid (rowIs_below HV.out hb3)
        have HSV3 := St.hid (HSV.out.below hb3)
        have HB3 := St.hid (bcall (bcall HB1.out HBR.out) hb3)
        have HSS := St.hid (step_same HGW.out.1 HGV.out.1 HSA.out fall wide high)
        have HGA := St.hid (step_good HGW.out.1 fall wide high)
        have HGB0 := step_good HGV.out.1 fall wide high
        rw [← HSS.out] at HGB0
        have HGB := St.hid HGB0
        have HWS := St.hid (with_same HGW.out.1 HGV.out.1 HSA.out (stepG L fall wide high).1)
        clear hs3 hb3 HGB0
        have HA4 := St.hid (rowIs5 w3 (.slice a3 n3 c3) next fall wide high 26)
        have HB4 := St.hid (bal HB3.out (.cells #[.slice a3 n3 c3, .int .i64 next, .int .i64 fall, .int .i64 wide, .int .i64 high] 26))
        have HV4 := St.hid (rowIs_below HV3.out (bal (Below.refl _ _) (.cells #[.slice a3 n3 c3, .int .i64 next, .int .i64 fall, .int .i64 wide, .int .i64 high] 26)))
        have HSV4 := St.hid (HSV3.out.below (bal (Below.refl _ _) (.cells #[.slice a3 n3 c3, .int .i64 next, .int .i64 fall, .int .i64 wide, .int .i64 high] 26)))
        have HS4 := St.hid (HS3.out.below (bal (Below.refl _ _) (.cells #[.slice a3 n3 c3, .int .i64 next, .int .i64 fall, .int .i64 wide, .int .i64 high] 26)))
        have HU4 := St.hid (HU3.out.below (bal (Below.refl _ _) (.cells #[.slice a3 n3 c3, .int .i64 next, .int .i64 fall, .int .i64 wide, .int .i64 high] 26)))
        have hvl := HV3.out.lt
        have hvl2 : vb < w3.heap.size + 1 := by omega
        clear x0 x1 x2 x3 x4
        obtain ⟨y0, y1, y2, y3, y4, -, -, -, -, -⟩ := wcells HV4.out
        go_wp2_with fail
        generalize w3.heap.size = ab at HA4 hvl hvl2 ⊢
        generalize w3.alloc (.cells #[.slice a3 n3 c3, .int .i64 next, .int .i64 fall, .int .i64 wide, .int .i64 high] 26) = W4 at HA4 HB4 HV4 HSV4 HS4 HU4 y0 y1 y2 y3 y4 ⊢
        clear HB3 HV3 HSV3 HS3 HU3 hu3
        refine (step_any next fall wide high HSV4.out).mono ?_
        rintro e w5 ⟨⟨a5, n5, c5, u5, ec5, rfl, hout5⟩, hb5⟩
        rcases hout5 with ⟨hno, -⟩ | ⟨-, rfl, ⟨F5, hs5, -⟩, hu5⟩
        · exact absurd HGV.out hno
        rw [← HSS.out] at hs5 hu5
        obtain ⟨P, HPP⟩ : ∃ P, Hid (P = (stepG L fall wide high).2) := ⟨_, rfl⟩
        obtain ⟨gg, HGG⟩ : ∃ q, Hid (q = (stepG L fall wide high).1) := ⟨_, rfl⟩
        rw [← HPP.out] at hu5 HU4 ⊢
        rw [← HGG.out] at hs5 HS4 HGA HGB HWS
        obtain ⟨N, HN⟩ : ∃ N, Hid (N = P.length) := ⟨_, rfl⟩
        rw [← HN.out] at hu5 HU4 ⊢
        obtain ⟨au5, cu5, rfl, -⟩ := Sw.owns_slice hu5
        have HU5 := St.hid (Rp.PairsR.own hu5 HN.out)
        have HU5a := St.hid (HU4.out.below hb5)
        have HS5 := St.hid hs5
        have HS5a := St.hid (HS4.out.below hb5)
        have HA5 := St.hid (rowIs_below HA4.out hb5)
        have HB5 := St.hid (bcall HB4.out hb5)
        have hNz : N ≤ 100 := by rw [HN.out, HPP.out]; exact step_pairs HGW.out.1 fall wide high
        clear hs5 hu5 hb5 HA4 HB4 HV4 HSV4 HS4 HU4 y0 y1 y2 y3 y4
        have HQ5 := St.hid (rowIs5 w5 (.slice a5 n5 c5) next fall wide high 26)
        have HB6 := St.hid (bal HB5.out (.cells #[.slice a5 n5 c5, .int .i64 next, .int .i64 fall, .int .i64 wide, .int .i64 high] 26))
        have HA6 := St.hid (rowIs_below HA5.out (bal (Below.refl _ _) (.cells #[.slice a5 n5 c5, .int .i64 next, .int .i64 fall, .int .i64 wide, .int .i64 high] 26)))
        have HS6 := St.hid (HS5.out.below (bal (Below.refl _ _) (.cells #[.slice a5 n5 c5, .int .i64 next, .int .i64 fall, .int .i64 wide, .int .i64 high] 26)))
        have HS6a := St.hid (HS5a.out.below (bal (Below.refl _ _) (.cells #[.slice a5 n5 c5, .int .i64 next, .int .i64 fall, .int .i64 wide, .int .i64 high] 26)))
        have HU6 := St.hid (HU5.out.below (bal (Below.refl _ _) (.cells #[.slice a5 n5 c5, .int .i64 next, .int .i64 fall, .int .i64 wide, .int .i64 high] 26)))
        have HU6a := St.hid (HU5a.out.below (bal (Below.refl _ _) (.cells #[.slice a5 n5 c5, .int .i64 next, .int .i64 fall, .int .i64 wide, .int .i64 high] 26)))
        go_wp2_with fail
        generalize w5.heap.size = bb at HQ5 ⊢
        generalize w5.alloc (.cells #[.slice a5 n5 c5, .int .i64 next, .int .i64 fall, .int .i64 wide, .int .i64 high] 26) = W6 at HQ5 HB6 HA6 HS6 HS6a HU6 HU6a ⊢
        clear HA5 HB5 HS5 HS5a HU5 HU5a
        go_loopw [107] (fun i wr => ∃ q : Nat, q ≤ N ∧ i = .int .i64 q ∧ Hid (Below W6.heap.size W6 wr)) (fun i _ => N - (intOf i).toNat)
        case atStart => exact ⟨0, Nat.zero_le _, rfl, Below.refl _ _⟩
        case round =>
          obtain ⟨q, hq, rfl, hB⟩ := hrel
          by_cases hql : q < N
          · have hql' : (q : Int) < (N : Int) := by omega
            obtain ⟨p, hp⟩ : ∃ x, P[q]? = some x := ⟨_, List.getElem?_eq_getElem (by have := HN.out; omega)⟩
            obtain ⟨_, _, ea, ra⟩ := HU6.out.below hB.out
            obtain ⟨_, _, eb, rb⟩ := HU6a.out.below hB.out
            obtain ⟨g1, o1, rfl, l1, hc1⟩ := ra (by have := HN.out; omega)
            obtain ⟨g2, o2, rfl, l2, hc2⟩ := rb (by have := HN.out; omega)
            simp only [Value.slice.injEq] at ea eb
            obtain ⟨rfl, -, -⟩ := ea
            obtain ⟨rfl, -, -⟩ := eb
            obtain ⟨p0, p1⟩ := hc1 q p hp
            obtain ⟨q0, q1⟩ := hc2 q p hp
            obtain ⟨xa, xb⟩ := p
            simp only at p0 p1 q0 q1
            have hne := Rp.neqP xa xb xa xb
            simp only [beq_self_eq_true, Bool.and_self, Bool.not_true] at hne
            clear hc1 hc2 hp
            go_wp2_with fail
            go_region
            all_goals
              go_wp2_with fail
              go_roundw
              case rel => exact ⟨q + 1, by omega, by go_num, Below.drew hB.out⟩
              case measure => simp [intOf]; omega
          · obtain ⟨x0, x1, x2, x3, x4, -, -, -, -, -⟩ := wcells (rowIs_below HA6.out hB.out)
            obtain ⟨y0, y1, y2, y3, y4, -, -, -, -, -⟩ := wcells (rowIs_below HQ5.out hB.out)
            go_wp2_with fail
            refine (sameThings_true next (HS6a.out.below hB.out) (HS6.out.below hB.out) HGA.out HGB.out HWS.out).mono ?_
            rintro e w8 ⟨rfl, hb8⟩
            have HB8 := St.hid (bcall (bcall HB6.out hB.out) hb8)
            clear hb8 x0 x1 x2 x3 x4 y0 y1 y2 y3 y4
            go_wp2_with (go_at_call 22; refine (worlds_any _).mono ?_; rintro e w9 ⟨rfl, hb9⟩; have HB9 := St.hid (bcall HB8.out hb9); clear hb9)
            go_ret
            exact ⟨rfl, HB9.out⟩
end Go.Proofs.YtckkkdldljhehabGreat.Wd
