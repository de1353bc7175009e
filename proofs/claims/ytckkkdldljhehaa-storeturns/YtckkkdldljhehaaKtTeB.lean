/- What StoreTells of package ninepinslaw answers when called over a store in memory: true; nothing that was in memory before has changed. -/
import Derived.Test.YtckkkdldljhehaaKtTeA
namespace Go.Proofs.Ytckkkdldljhehaa.Te
open Go.Proofs.Ytckkkdldljhehaa.Num Go.Proofs.Ytckkkdldljhehaa.St Go.Proofs.Ytckkkdldljhehaa.Mp Go.Proofs.Ytckkkdldljhehaa.Th
open Go.ChangeShapes Go.WideShapes Go.ChangeAt Go.RowKit

theorem own_storeIn2 {w : World} {B n c : Nat} {a : Option Addr} {S : List OT} (h : Own w B (.slice a n c) S) (hn : n = S.length) (hz : n * 56 ≤ 140737488355328) (hl : ∀ o ∈ S, o.t.ids.length * 8 ≤ 140737488355328 ∧ o.t.rows.length * 64 ≤ 140737488355328) (hw : ∀ o ∈ S, ∀ x ∈ o.t.ids, (Lit.int .i64 x).wf = true) :
    StoreIn w a n (tvOf S) (idOf S) (rwOf S) := by
  have hget : ∀ i, i < n → ∃ o, S[i]? = some o ∧ o ∈ S := fun i hi => ⟨S[i], List.getElem?_eq_getElem (by omega), List.getElem_mem _⟩
  refine ⟨tabs_own h hn, ?_, ?_, ⟨by omega, ?_, ?_⟩, ?_⟩
  · intro i hi
    obtain ⟨o, hs, hm⟩ := hget i hi
    have := ids_own (h.2.1 o hm).1
    have ef : (idOf S i) = fun j => o.t.ids.getD j 0 := by funext j; simp [idOf, hs]
    rw [ef]
    simpa only [tvOf, hs] using this
  · intro i hi
    obtain ⟨o, hs, hm⟩ := hget i hi
    have := rows_own (h.2.1 o hm).2
    have ef : (rwOf S i) = fun j => o.t.rows.getD j zeroR := by funext j; simp [rwOf, hs]
    rw [ef]
    simpa only [tvOf, hs] using this
  · intro e
    rcases h.1.2 with ⟨_, h0⟩ | ⟨g, c', cur, e', _⟩
    · rw [hn]; exact h0
    · rw [e] at e'; cases e'
  · intro i hi
    obtain ⟨o, hs, hm⟩ := hget i hi
    have h1 := hl o hm
    have e1 := (slice_own (h.2.1 o hm).1).2
    have e2 := (slice_own (h.2.1 o hm).2).2
    simp only [tvOf, hs]
    exact ⟨by omega, by omega, e1, e2⟩
  · intro i hi j hj
    obtain ⟨o, hs, hm⟩ := hget i hi
    simp only [tvOf, hs] at hj
    simp only [idOf, hs, Option.map_some, Option.getD_some]
    have : o.t.ids.getD j 0 = o.t.ids[j] := by simp [List.getD, List.getElem?_eq_getElem hj]
    rw [this]
    exact hw o hm _ (List.getElem_mem hj)
/-- A copy of one's own is a store in memory. -/
theorem copy_in {w0 w : World} {B n c : Nat} {a a0 : Option Addr} {S : List OT} {T : Nat → TabV} {I : Nat → Nat → Int} {R : Nat → Nat → R8} (h : Own w B (.slice a n c) S) (hs : S.map (·.t) = plainOf T I R n) (hin : StoreIn w0 a0 n T I R) :
    ∃ T2 I2 R2, StoreIn w a n T2 I2 R2 ∧ plainOf T2 I2 R2 n = plainOf T I R n := by
  have hn : n = S.length := by have := congrArg List.length hs; simpa [plainOf] using this.symm
  refine ⟨tvOf S, idOf S, rwOf S, own_storeIn2 h hn hin.fits.1 ?_ ?_, by rw [← hs, hn]; exact plain_own S⟩
  · intro o ho
    have hm : o.t ∈ plainOf T I R n := by rw [← hs]; exact List.mem_map.2 ⟨o, ho, rfl⟩
    obtain ⟨i, hi, e⟩ := mem_plain.1 hm
    have := hin.fits.2.2 i hi
    rw [← e]
    simp [tabOf]
    omega
  · intro o ho x hx
    have hm : o.t ∈ plainOf T I R n := by rw [← hs]; exact List.mem_map.2 ⟨o, ho, rfl⟩
    obtain ⟨i, hi, e⟩ := mem_plain.1 hm
    rw [← e] at hx
    simp only [tabOf, List.mem_map, List.mem_range] at hx
    obtain ⟨j, hj, rfl⟩ := hx
    exact hin.wf i hi j hj
theorem eqRow (r : R8) (w : World) : (binOp .eql 30 (.agg #[.int .i64 r.x, .int .i64 r.y, .int .i64 r.px, .int .i64 r.py, .int .i64 r.wd, .int .i64 r.ht, .int .i64 r.ms, .int .i64 r.rr]) (.agg #[.int .i64 r.x, .int .i64 r.y, .int .i64 r.px, .int .i64 r.py, .int .i64 r.wd, .int .i64 r.ht, .int .i64 r.ms, .int .i64 r.rr])).run Try.prog w = .ok (.bool true) w := by
  rw [eq30]
  have e : eqR ⟨r.x, r.y, r.px, r.py, r.wd, r.ht, r.ms, r.rr⟩ ⟨r.x, r.y, r.px, r.py, r.wd, r.ht, r.ms, r.rr⟩ = true := (eqR_iff _ _).2 rfl
  rw [e]
theorem rowCell8 {W : World} {b : Nat} {r : R8} (h : W.rowIs b 30 8 (fun i => (rowCells r).getD i undef)) : W.cell? ⟨b, 0, none⟩ = some (.int .i64 r.x) ∧ W.cell? ⟨b, 1, none⟩ = some (.int .i64 r.y) ∧ W.cell? ⟨b, 2, none⟩ = some (.int .i64 r.px) ∧ W.cell? ⟨b, 3, none⟩ = some (.int .i64 r.py) ∧ W.cell? ⟨b, 4, none⟩ = some (.int .i64 r.wd) ∧ W.cell? ⟨b, 5, none⟩ = some (.int .i64 r.ht) ∧ W.cell? ⟨b, 6, none⟩ = some (.int .i64 r.ms) ∧ W.cell? ⟨b, 7, none⟩ = some (.int .i64 r.rr) :=
  ⟨h.cell (i := 0) (by omega), h.cell (i := 1) (by omega), h.cell (i := 2) (by omega), h.cell (i := 3) (by omega), h.cell (i := 4) (by omega), h.cell (i := 5) (by omega), h.cell (i := 6) (by omega), h.cell (i := 7) (by omega)⟩
attribute [local go_sem ↓] Go.wp_at_zero Go.wp_at_succ
set_option maxHeartbeats 8000000 in
set_option maxRecDepth 100000 in
theorem storeTells_any (a : Option Addr) (n cap : Nat) (next id mask : Int) (r : R8) (T : Nat → TabV) (I : Nat → Nat → Int) (R : Nat → Nat → R8) (w : World) (hin : StoreIn w a n T I R) (hidw : (Lit.int .i64 id).wf = true) :
    Calls Try.prog 5 #[.agg #[.slice a n cap, .int .i64 next], .int .i64 id, .int .i64 mask, .agg #[.int .i64 r.x, .int .i64 r.y, .int .i64 r.px, .int .i64 r.py, .int .i64 r.wd, .int .i64 r.ht, .int .i64 r.ms, .int .i64 r.rr]] w fun e w' => e = .returned (.bool true) ∧ Below w.heap.size w w' := by
  have HST := hid hin
  have HA0 := hid (bal (bal (Below.refl _ w) (.cells #[.slice a n cap, .int .i64 next] 28)) (.cells #[.int .i64 r.x, .int .i64 r.y, .int .i64 r.px, .int .i64 r.py, .int .i64 r.wd, .int .i64 r.ht, .int .i64 r.ms, .int .i64 r.rr] 30))
  have HSB : Hid (((w.alloc (.cells #[.slice a n cap, .int .i64 next] 28)).alloc (.cells #[.int .i64 r.x, .int .i64 r.y, .int .i64 r.px, .int .i64 r.py, .int .i64 r.wd, .int .i64 r.ht, .int .i64 r.ms, .int .i64 r.rr] 30)).rowIs w.heap.size 28 2 (fun i => if i = 0 then .slice a n cap else .int .i64 next)) := hid (rowIs_below (rowIs2 w (.slice a n cap) (.int .i64 next) 28) (bal (Below.refl _ _) _))
  have HRB : Hid (((w.alloc (.cells #[.slice a n cap, .int .i64 next] 28)).alloc (.cells #[.int .i64 r.x, .int .i64 r.y, .int .i64 r.px, .int .i64 r.py, .int .i64 r.wd, .int .i64 r.ht, .int .i64 r.ms, .int .i64 r.rr] 30)).rowIs (w.heap.size + 1) 30 8 (fun i => (rowCells r).getD i undef)) := hid (by
    have h := World.rowIs_alloc (w.alloc (.cells #[.slice a n cap, .int .i64 next] 28)) #[.int .i64 r.x, .int .i64 r.y, .int .i64 r.px, .int .i64 r.py, .int .i64 r.wd, .int .i64 r.ht, .int .i64 r.ms, .int .i64 r.rr] 30 (fun i => (rowCells r).getD i undef) (fun i hi => by
      match i, hi with
      | 0, _ => rfl
      | 1, _ => rfl
      | 2, _ => rfl
      | 3, _ => rfl
      | 4, _ => rfl
      | 5, _ => rfl
      | 6, _ => rfl
      | 7, _ => rfl)
    rw [World.size_alloc] at h
    exact h)
  have HCP := hid (Cp.copied_any a n cap next T I R _ (hin.below HA0.out))
  clear hin
  go_enter Try.func5, Try.ntmps5
  go_wp2_with fail
  refine HCP.out.mono ?_
  rintro e w1 ⟨⟨a', c', rfl, S, hown, hsp⟩, hb1⟩
  have HB1 := hid hb1
  obtain ⟨T2, I2, R2, hin2, hpl2⟩ := copy_in hown hsp HST.out
  have HIN2 := hid hin2
  have HPL := hid hpl2
  have HSB1 := hid (rowIs_below HSB.out hb1)
  have HRB1 := hid (rowIs_below HRB.out hb1)
  have y0 := HSB1.out.cell (i := 0) (by omega)
  have y1 := HSB1.out.cell (i := 1) (by omega)
  simp only [if_true, Nat.one_ne_zero, if_false] at y0 y1
  have hyz := HSB1.out.lt
  have HA1 := hid (bal (Below.refl _ w1) (.cells #[.slice a' n c', .int .i64 next] 28))
  have HCB := hid (rowIs2 w1 (.slice a' n c') (.int .i64 next) 28)
  have HWC := hid (bcall (bcall HA0.out hb1) HA1.out)
  have HTO := hid (thingsOf_any a n cap next T I R _ (HST.out.below HWC.out))
  have HSB2 := hid (rowIs_below HSB1.out HA1.out)
  have HRB2 := hid (rowIs_below HRB1.out HA1.out)
  have HIN3 := hid (HIN2.out.below HA1.out)
  clear hown hsp hb1 hin2 hpl2 HCP
  go_wp2_with fail
  refine HTO.out.mono ?_
  rintro e w2 ⟨he, hb2⟩
  have HIS := hid ((HST.out.below HWC.out).below hb2)
  have HIC := hid (HIN3.out.below hb2)
  have HSB3 := hid (rowIs_below HSB2.out hb2)
  have HRB3 := hid (rowIs_below HRB2.out hb2)
  have HCB3 := hid (rowIs_below HCB.out hb2)
  have HW2 := hid (bcall HWC.out hb2)
  generalize w1.heap.size = cb at HCB3 ⊢
  clear hb2 HTO HSB HRB HSB1 HRB1 HSB2 HRB2 HIN2 HIN3 HCB HA1 HWC y0 y1 hyz HB1 HA0
  have HSK : Hid (∀ W, Below w2.heap.size w2 W → W.cell? ⟨w.heap.size, 0, none⟩ = some (.slice a n cap) ∧ W.cell? ⟨w.heap.size, 1, none⟩ = some (.int .i64 next) ∧ W.cell? ⟨cb, 0, none⟩ = some (.slice a' n c') ∧ W.cell? ⟨cb, 1, none⟩ = some (.int .i64 next) ∧ W.cell? ⟨w.heap.size + 1, 0, none⟩ = some (.int .i64 r.x) ∧ W.cell? ⟨w.heap.size + 1, 1, none⟩ = some (.int .i64 r.y) ∧ W.cell? ⟨w.heap.size + 1, 2, none⟩ = some (.int .i64 r.px) ∧ W.cell? ⟨w.heap.size + 1, 3, none⟩ = some (.int .i64 r.py) ∧ W.cell? ⟨w.heap.size + 1, 4, none⟩ = some (.int .i64 r.wd) ∧ W.cell? ⟨w.heap.size + 1, 5, none⟩ = some (.int .i64 r.ht) ∧ W.cell? ⟨w.heap.size + 1, 6, none⟩ = some (.int .i64 r.ms) ∧ W.cell? ⟨w.heap.size + 1, 7, none⟩ = some (.int .i64 r.rr)) := hid (fun W hb => by
    have h1 := rowIs_below HSB3.out hb
    have h2 := rowIs_below HCB3.out hb
    exact ⟨h1.cell (i := 0) (by omega), h1.cell (i := 1) (by omega), h2.cell (i := 0) (by omega), h2.cell (i := 1) (by omega), rowCell8 (rowIs_below HRB3.out hb)⟩)
  have hcbz := HCB3.out.lt
  have HK2 : Hid (∀ W, Calls Try.prog 26 #[.int .i64 mask, .agg #[.int .i64 r.x, .int .i64 r.y, .int .i64 r.px, .int .i64 r.py, .int .i64 r.wd, .int .i64 r.ht, .int .i64 r.ms, .int .i64 r.rr]] W fun e w' => e = .returned (.bool (goodRowB mask r)) ∧ Below W.heap.size W w') := hid (fun W => goodRow_any mask r.x r.y r.px r.py r.wd r.ht r.ms r.rr W)
  have HK3 : Hid (∀ W, Calls Try.prog 27 #[.int .i64 mask, .agg #[.int .i64 r.x, .int .i64 r.y, .int .i64 r.px, .int .i64 r.py, .int .i64 r.wd, .int .i64 r.ht, .int .i64 r.ms, .int .i64 r.rr]] W fun e w' => e = .returned (.bool (goodRowB mask r)) ∧ Below W.heap.size W w') := hid (fun W => by rw [← isRow_good]; exact isRow_any mask r W)
  have h31 : 0 ≤ bits .and .i64 mask 31 ∧ bits .and .i64 mask 31 ≤ 31 := by rw [and31]; omega
  have HK4a : Hid (∀ W, Calls Try.prog 28 #[.int .i64 (bits .and .i64 mask 31), .agg #[.int .i64 r.x, .int .i64 r.y, .int .i64 r.px, .int .i64 r.py, .int .i64 r.wd, .int .i64 r.ht, .int .i64 r.ms, .int .i64 r.rr]] W fun e w' => e = .returned (rowV (onlyR (bits .and .i64 mask 31) r)) ∧ Below W.heap.size W w') := hid (fun W => only_any _ r.x r.y r.px r.py r.wd r.ht r.ms r.rr W)
  have HK5a : Hid (∀ W, Calls Try.prog 29 #[.int .i64 (bits .and .i64 mask 31), .agg #[.int .i64 r.x, .int .i64 r.y, .int .i64 r.px, .int .i64 r.py, .int .i64 r.wd, .int .i64 r.ht, .int .i64 r.ms, .int .i64 r.rr]] W fun e w' => e = .returned (rowV (onlyR (bits .and .i64 mask 31) r)) ∧ Below W.heap.size W w') := hid (fun W => only_same _ r.x r.y r.px r.py r.wd r.ht r.ms r.rr h31 W)
  obtain ⟨q, hq⟩ : ∃ q, onlyR (bits .and .i64 mask 31) r = q := ⟨_, rfl⟩
  rw [hq] at HK4a HK5a
  have HK4 : Hid (∀ W, Calls Try.prog 28 #[.int .i64 (bits .and .i64 mask 31), .agg #[.int .i64 r.x, .int .i64 r.y, .int .i64 r.px, .int .i64 r.py, .int .i64 r.wd, .int .i64 r.ht, .int .i64 r.ms, .int .i64 r.rr]] W fun e w' => e = .returned (.agg #[.int .i64 q.x, .int .i64 q.y, .int .i64 q.px, .int .i64 q.py, .int .i64 q.wd, .int .i64 q.ht, .int .i64 q.ms, .int .i64 q.rr]) ∧ Below W.heap.size W w') := HK4a
  have HK5 : Hid (∀ W, Calls Try.prog 29 #[.int .i64 (bits .and .i64 mask 31), .agg #[.int .i64 r.x, .int .i64 r.y, .int .i64 r.px, .int .i64 r.py, .int .i64 r.wd, .int .i64 r.ht, .int .i64 r.ms, .int .i64 r.rr]] W fun e w' => e = .returned (.agg #[.int .i64 q.x, .int .i64 q.y, .int .i64 q.px, .int .i64 q.py, .int .i64 q.wd, .int .i64 q.ht, .int .i64 q.ms, .int .i64 q.rr]) ∧ Below W.heap.size W w') := HK5a
  have hneq := Cp.neq30 q
  have HK6 : Hid (∀ W, Below w2.heap.size w2 W → Calls Try.prog 30 #[.agg #[.slice a' n c', .int .i64 next], .agg #[.slice a n cap, .int .i64 next]] W fun e w' => e = .returned (.bool true) ∧ Below W.heap.size W w') := hid (fun W hb => Cp.same_true a' a n c' cap next T2 T I2 I R2 R W (HIC.out.below hb) (HIS.out.below hb) (Cp.plain_same HPL.out).2)
  clear HK4a HK5a hq h31
  rcases he with ⟨hgl, b, rfl, hbs, hmp⟩ | ⟨hng, v, rfl⟩
  · have HGL := hid hgl
    have HMP := hid hmp
    have HK1 : Hid (∀ W, Below w2.heap.size w2 W → Calls Try.prog 25 #[.agg #[.slice a' n c', .int .i64 next]] W fun e w' => e = .returned (.bool true) ∧ Below W.heap.size W w') := hid (fun W hb => ((HIC.out.below hb).good c' next).mono (fun e w' h => by
      obtain ⟨⟨g, rfl, hg⟩, h2⟩ := h
      exact ⟨by rw [hg.2 (by rw [HPL.out]; exact HGL.out)], h2⟩))
    clear hgl hbs hmp
    go_upto_region 3 with fail
    have HBC : Hid (Below w2.heap.size w2 w2.drew) := hid (Below.drew (Below.refl _ _))
    go_cut [57] (fun s wx => s = .bool false ∧ ∃ W, W = wx ∧ Hid (Below w2.heap.size w2 W))
    case first =>
      go_region_held3 (fun W => W.cell? ⟨w.heap.size, 0, none⟩ = some (.slice a n cap) ∧ W.cell? ⟨w.heap.size, 1, none⟩ = some (.int .i64 next) ∧ W.cell? ⟨cb, 0, none⟩ = some (.slice a' n c') ∧ W.cell? ⟨cb, 1, none⟩ = some (.int .i64 next) ∧ W.cell? ⟨w.heap.size + 1, 0, none⟩ = some (.int .i64 r.x) ∧ W.cell? ⟨w.heap.size + 1, 1, none⟩ = some (.int .i64 r.y) ∧ W.cell? ⟨w.heap.size + 1, 2, none⟩ = some (.int .i64 r.px) ∧ W.cell? ⟨w.heap.size + 1, 3, none⟩ = some (.int .i64 r.py) ∧ W.cell? ⟨w.heap.size + 1, 4, none⟩ = some (.int .i64 r.wd) ∧ W.cell? ⟨w.heap.size + 1, 5, none⟩ = some (.int .i64 r.ht) ∧ W.cell? ⟨w.heap.size + 1, 6, none⟩ = some (.int .i64 r.ms) ∧ W.cell? ⟨w.heap.size + 1, 7, none⟩ = some (.int .i64 r.rr)) (with_reducible exact HSK.out _ HBC.out)
        (first
        | (go_at_call 25; refine (HK1.out _ HBC.out).mono ?_; rintro e w3 ⟨rfl, h⟩; have HBC := hid (bcall HBC.out h); clear h)
        | (go_at_call 26; refine (HK2.out _).mono ?_; rintro e w3 ⟨rfl, h⟩; have HBC := hid (bcall HBC.out h); clear h)
        | (go_at_call 27; refine (HK3.out _).mono ?_; rintro e w3 ⟨rfl, h⟩; have HBC := hid (bcall HBC.out h); clear h)
        | (go_at_call 28; refine (HK4.out _).mono ?_; rintro e w3 ⟨rfl, h⟩; have HBC := hid (bcall HBC.out h); clear h)
        | (go_at_call 29; refine (HK5.out _).mono ?_; rintro e w3 ⟨rfl, h⟩; have HBC := hid (bcall HBC.out h); clear h)
        | (go_at_call 30; refine (HK6.out _ HBC.out).mono ?_; rintro e w3 ⟨rfl, h⟩; have HBC := hid (bcall HBC.out h); clear h)
        | (go_at_call 31; refine (thingsL_any _).mono ?_; rintro e w3 ⟨rfl, h⟩; have HBC := hid (bcall HBC.out h); clear h))
      all_goals
        go_wp2_with fail
        go_meet
        exact ⟨rfl, _, rfl, HBC⟩
    case rest =>
    obtain ⟨rfl, W3, rfl, HB3⟩ := hcut
    have HMP3 := hid (HMP.out.below HB3.out)
    have HIC3 := hid (HIC.out.below HB3.out)
    have HCB4 := hid (rowIs_below HCB3.out HB3.out)
    have HW3 := hid (bcall HW2.out HB3.out)
    have HG2 : Hid (GoodL next (plainOf T2 I2 R2 n)) := hid (by rw [HPL.out]; exact HGL.out)
    clear HK1 HK2 HK3 HK4 HK5 HK6 HSK HBC HMP HIC HCB3 HW2 HIS HSB3 HRB3 hneq
    obtain ⟨z0, z1⟩ : W3.cell? ⟨cb, 0, none⟩ = some (.slice a' n c') ∧ W3.cell? ⟨cb, 1, none⟩ = some (.int .i64 next) := ⟨HCB4.out.cell (i := 0) (by omega), HCB4.out.cell (i := 1) (by omega)⟩
    have hcb3 := HCB4.out.lt
    have HGET : Hid (∃ t : Th, ∃ ok : Bool, Calls Try.prog 32 #[.agg #[.slice a' n c', .int .i64 next], .int .i64 id] W3 (fun e w' => e = .returned (.tuple #[.int .i64 t.m, .agg #[.int .i64 t.r.x, .int .i64 t.r.y, .int .i64 t.r.px, .int .i64 t.r.py, .int .i64 t.r.wd, .int .i64 t.r.ht, .int .i64 t.r.ms, .int .i64 t.r.rr], .bool ok]) ∧ Below W3.heap.size W3 w') ∧ (getM id (thM (plainOf T I R n))).getD zTh = t ∧ (getM id (thM (plainOf T I R n))).isSome = ok) := hid (by
      cases hgm : getM id (thM (plainOf T I R n)) with
      | none =>
        have hno := (thM_none HGL.out.even).1 hgm
        exact ⟨zTh, false, HIC3.out.get_none HG2.out.even c' next id (by rw [HPL.out]; exact hno), rfl, rfl⟩
      | some t =>
        have hat := (thM_get HGL.out.even HGL.out.2.2.2.2.2).1 hgm
        exact ⟨t, true, HIC3.out.get_some HG2.out.even HG2.out.2.2.2.2.2 c' next id t.m t.r (by rw [HPL.out]; exact hat), rfl, rfl⟩)
    obtain ⟨t, ok, HGC, HGD, HGS⟩ := HGET.out
    have HGC := hid HGC
    clear HGET
    go_upto_region 8 with (go_at_call 32; refine HGC.out.mono ?_; rintro e w4 ⟨rfl, h⟩; have HB4 := hid h; clear h)
    have HA4 := hid (bal (Below.refl _ w4) (.cells #[.int .i64 t.r.x, .int .i64 t.r.y, .int .i64 t.r.px, .int .i64 t.r.py, .int .i64 t.r.wd, .int .i64 t.r.ht, .int .i64 t.r.ms, .int .i64 t.r.rr] 30))
    have HB5 := hid (bcall HB4.out HA4.out)
    have hlk := (HMP3.out.below HB5.out).look_ok hidw
    rw [HGD, HGS] at hlk
    simp only [thV] at hlk
    have HA5 := hid (bal HB5.out (.cells #[.int .i64 t.m, .int .i64 t.r.x, .int .i64 t.r.y, .int .i64 t.r.px, .int .i64 t.r.py, .int .i64 t.r.wd, .int .i64 t.r.ht, .int .i64 t.r.ms, .int .i64 t.r.rr] 43))
    have HK7 : Hid (∀ W, Below W3.heap.size W3 W → Calls Try.prog 33 #[.agg #[.slice a' n c', .int .i64 next]] W fun e w' => e = .returned (.int .i64 (thM (plainOf T I R n)).length) ∧ Below W.heap.size W w') := hid (fun W hb => ((HIC3.out.below hb).size HG2.out c' next).mono (fun e w' h => ⟨by rw [h.1, HPL.out, thM_len HGL.out.even HGL.out.2.2.2.2.2], h.2⟩))
    have HK8 : Hid (∀ W, Below W3.heap.size W3 W → Calls Try.prog 35 #[.agg #[.slice a' n c', .int .i64 next], .int .i64 (bits .and .i64 mask 31)] W fun e w' => (∃ u, e = .returned u ∧ Rp.IntsR w' u (havM (bits .and .i64 mask 31) (thM (plainOf T I R n)))) ∧ Below W.heap.size W w') := hid (fun W hb => by
      have h := query_have (HIC3.out.below hb) HG2.out c' (bits .and .i64 mask 31)
      rw [HPL.out] at h
      exact h)
    have HK9 : Hid (∀ W, Below W3.heap.size W3 W → Calls Try.prog 36 #[.map (some b), .int .i64 (bits .and .i64 mask 31)] W fun e w' => (∃ u, e = .returned u ∧ Rp.IntsR w' u (havM (bits .and .i64 mask 31) (thM (plainOf T I R n)))) ∧ Below W.heap.size W w') := hid (fun W hb => (having_any b _ (bits .and .i64 mask 31) W (HMP3.out.below hb) (by rw [thM_len HGL.out.even HGL.out.2.2.2.2.2]; exact Nat.le_trans HGL.out.2.1 (by decide))).mono (fun e w' h => by
      obtain ⟨⟨u, rfl, ho⟩, h2⟩ := h
      exact ⟨⟨u, rfl, Rp.IntsR.own ho rfl⟩, h2⟩))
    have HK10 : Hid (∀ (W : World) (ua ub : Value), Rp.IntsR W ua (havM (bits .and .i64 mask 31) (thM (plainOf T I R n))) → Rp.IntsR W ub (havM (bits .and .i64 mask 31) (thM (plainOf T I R n))) → Calls Try.prog 34 #[ua, ub] W fun e w' => e = .returned (.bool true) ∧ Below W.heap.size W w') := hid (fun W ua ub h1 h2 => (Sw.sameIds_any ua ub _ _ W h1 h2 (by have := hav_len (m := bits .and .i64 mask 31) HGL.out; omega)).mono (fun e w' h => ⟨by rw [h.1]; simp, h.2⟩))
    have heq := eqRow t.r
    have c0 := (HB5.out.cell (p := ⟨cb, 0, none⟩) hcb3).trans z0
    have c1 := (HB5.out.cell (p := ⟨cb, 1, none⟩) hcb3).trans z1
    have hcb5 := Nat.lt_of_lt_of_le hcb3 HB5.out.size
    have d0 := (HA5.out.cell (p := ⟨cb, 0, none⟩) hcb3).trans z0
    have d1 := (HA5.out.cell (p := ⟨cb, 1, none⟩) hcb3).trans z1
    clear HGD HGS
    generalize hLE : (thM (plainOf T I R n)).length = le at HK7
    have HLE := hid hLE
    clear hLE
    go_wp2_with (first
      | (go_at_call 33; refine (HK7.out _ HA5.out).mono ?_; rintro e w6 ⟨rfl, h⟩; have HB6 := hid (bcall HA5.out h); have hln := (HMP3.out.below HB6.out).len; rw [HLE.out] at hln; have g0 := (HB6.out.cell (p := ⟨cb, 0, none⟩) hcb3).trans z0; have g1 := (HB6.out.cell (p := ⟨cb, 1, none⟩) hcb3).trans z1; have hcb6 := Nat.lt_of_lt_of_le hcb3 HB6.out.size; clear h)
      | (go_at_call 35; refine (HK8.out _ HB6.out).mono ?_; rintro e w7 ⟨⟨u7, rfl, h7⟩, h⟩; have HB7 := hid (bcall HB6.out h); have HI7 := hid h7; clear h h7)
      | (go_at_call 36; refine (HK9.out _ HB7.out).mono ?_; rintro e w8 ⟨⟨u8, rfl, h8⟩, h⟩; have HB8 := hid (bcall HB7.out h); have HI8 := hid h8; have HI7 := hid (HI7.out.below h); clear h h8)
      | (go_at_call 34; refine (HK10.out _ _ _ HI7.out HI8.out).mono ?_; rintro e w9 ⟨rfl, h⟩; have HB9 := hid (bcall HB8.out h); clear h))
    go_ret
    exact ⟨rfl, bcall HW3.out HB9.out⟩
  · have HK1 : Hid (∀ W, Below w2.heap.size w2 W → Calls Try.prog 25 #[.agg #[.slice a' n c', .int .i64 next]] W fun e w' => e = .returned (.bool false) ∧ Below W.heap.size W w') := hid (fun W hb => ((HIC.out.below hb).good c' next).mono (fun e w' h => by
      obtain ⟨⟨g, rfl, hg⟩, h2⟩ := h
      cases g with
      | false => exact ⟨rfl, h2⟩
      | true => exact absurd (by have := hg.1 rfl; rw [HPL.out] at this; exact this) hng))
    go_upto_region 3 with fail
    have HBC : Hid (Below w2.heap.size w2 w2.drew) := hid (Below.drew (Below.refl _ _))
    go_cut [57] (fun s wx => s = .bool false ∧ ∃ W, W = wx ∧ Hid (Below w2.heap.size w2 W))
    case first =>
      go_region_held3 (fun W => W.cell? ⟨w.heap.size, 0, none⟩ = some (.slice a n cap) ∧ W.cell? ⟨w.heap.size, 1, none⟩ = some (.int .i64 next) ∧ W.cell? ⟨cb, 0, none⟩ = some (.slice a' n c') ∧ W.cell? ⟨cb, 1, none⟩ = some (.int .i64 next) ∧ W.cell? ⟨w.heap.size + 1, 0, none⟩ = some (.int .i64 r.x) ∧ W.cell? ⟨w.heap.size + 1, 1, none⟩ = some (.int .i64 r.y) ∧ W.cell? ⟨w.heap.size + 1, 2, none⟩ = some (.int .i64 r.px) ∧ W.cell? ⟨w.heap.size + 1, 3, none⟩ = some (.int .i64 r.py) ∧ W.cell? ⟨w.heap.size + 1, 4, none⟩ = some (.int .i64 r.wd) ∧ W.cell? ⟨w.heap.size + 1, 5, none⟩ = some (.int .i64 r.ht) ∧ W.cell? ⟨w.heap.size + 1, 6, none⟩ = some (.int .i64 r.ms) ∧ W.cell? ⟨w.heap.size + 1, 7, none⟩ = some (.int .i64 r.rr)) (with_reducible exact HSK.out _ HBC.out)
        (first
        | (go_at_call 25; refine (HK1.out _ HBC.out).mono ?_; rintro e w3 ⟨rfl, h⟩; have HBC := hid (bcall HBC.out h); clear h)
        | (go_at_call 26; refine (HK2.out _).mono ?_; rintro e w3 ⟨rfl, h⟩; have HBC := hid (bcall HBC.out h); clear h)
        | (go_at_call 27; refine (HK3.out _).mono ?_; rintro e w3 ⟨rfl, h⟩; have HBC := hid (bcall HBC.out h); clear h)
        | (go_at_call 28; refine (HK4.out _).mono ?_; rintro e w3 ⟨rfl, h⟩; have HBC := hid (bcall HBC.out h); clear h)
        | (go_at_call 29; refine (HK5.out _).mono ?_; rintro e w3 ⟨rfl, h⟩; have HBC := hid (bcall HBC.out h); clear h)
        | (go_at_call 30; refine (HK6.out _ HBC.out).mono ?_; rintro e w3 ⟨rfl, h⟩; have HBC := hid (bcall HBC.out h); clear h)
        | (go_at_call 31; refine (thingsL_any _).mono ?_; rintro e w3 ⟨rfl, h⟩; have HBC := hid (bcall HBC.out h); clear h))
      all_goals
        go_wp2_with fail
        go_meet
        exact ⟨rfl, _, rfl, HBC⟩
    case rest =>
    obtain ⟨rfl, W3, rfl, HB3⟩ := hcut
    go_wp2_with fail
    go_ret
    exact ⟨rfl, bcall HW2.out HB3.out⟩
end Go.Proofs.Ytckkkdldljhehaa.Te
