/- The question of TopMemory (package ninepinstop), asked of a game and another that is as it was ahead of the act: true; both games are then alike, and what was told is written over; all other blocks are as they were. -/
import Derived.Test.YtckkkdldljhehacGreatKtGmMa
import Derived.Test.YtckkkdldljhehacGreatKtGmMd
import Derived.Test.YtckkkdldljhehacGreatKtGmAd
import Derived.Deep.RegionWith
namespace Go.Proofs.YtckkkdldljhehacGreat.Gm
open Go.Proofs.YtckkkdldljhehacGreat.Num Go.Proofs.YtckkkdldljhehacGreat.St Go.Proofs.YtckkkdldljhehacGreat.Wd
open Go.ChangeShapes Go.WideShapes Go.ChangeAt Go.RowKit

theorem do_rep {s : Gp} (h : GoodG s) (a : Ac) : (doG s a).2.ids.length ≤ 10 ∧ (doG s a).2.met.length ≤ 800 := by
  unfold doG
  split
  · exact ⟨by simp [no], by simp [no]⟩
  · split
    · split
      · exact ⟨by simp [no], by simp [no]⟩
      · exact ⟨by simp, by simp⟩
    · split
      · split
        · exact ⟨by simp [no], by simp [no]⟩
        · exact ⟨by simp [no], by simp [no]⟩
      · exact rep_len h.now a
theorem ids_sub {t : Tab} {L : List Tab} (h : t ∈ L) : t.ids.length ≤ (allL L).length := by
  induction L with
  | nil => cases h
  | cons x L ih =>
    simp only [allL, List.flatMap_cons, List.length_append] at ih ⊢
    rcases List.mem_cons.1 h with rfl | h
    · omega
    · have := ih h; omega
theorem tabs_few {next : Int} {L : List Tab} (h : GoodL next L) : L.length ≤ 10 := by
  have h5 := h.2.2.2.2.1
  have hl := h.2.1
  have key : ∀ K : List Tab, (∀ t ∈ K, t.ids ≠ []) → K.length ≤ (allL K).length := by
    intro K
    induction K with
    | nil => intro _; simp [allL]
    | cons x K ih =>
      intro hK
      have h1 := ih (fun t ht => hK t (List.mem_cons_of_mem _ ht))
      have h2 : 0 < x.ids.length := List.length_pos_iff.2 (hK x (List.mem_cons_self ..))
      simp only [allL, List.flatMap_cons, List.length_append, List.length_cons] at h1 ⊢
      omega
  have := key L (fun t ht => (h5 t ht).1)
  omega
theorem fieldW2 (x : Option Addr) (m c : Nat) (a b d e : Int) (w : World) : (Instr.field 45 (.agg #[.slice x m c, .int .i64 a, .int .i64 b, .int .i64 d, .int .i64 e]) 0).run Tryz.prog w = .ok (.agg #[.slice x m c, .int .i64 a]) w := by kernel_rfl
theorem fieldS2 (x : Option Addr) (m c : Nat) (a : Int) (w : World) : (Instr.field 43 (.agg #[.slice x m c, .int .i64 a]) 0).run Tryz.prog w = .ok (.slice x m c) w := by kernel_rfl
theorem tab_cells {W : World} {B g N c k : Nat} {S : List OT} {o : OT} (h : W.ownsRow B 65 3 (.slice (some ⟨g, 0, none⟩) N c) S.length (tabCells S)) (hN : N = S.length) (hk : S[k]? = some o) : W.cell? ⟨g, k * 3, none⟩ = some (.int .i64 o.t.mask) ∧ W.cell? ⟨g, k * 3 + 1, none⟩ = some o.iv ∧ W.cell? ⟨g, k * 3 + 2, none⟩ = some o.rv := by
  subst hN
  have hkl := (List.getElem?_eq_some_iff.1 hk).1
  have key : ∀ (S : List OT) (k : Nat), S[k]? = some o → (tabCells S)[k * 3]? = some (.int .i64 o.t.mask) ∧ (tabCells S)[k * 3 + 1]? = some o.iv ∧ (tabCells S)[k * 3 + 2]? = some o.rv := by
    intro S
    induction S with
    | nil => intro k h; simp at h
    | cons x S ih =>
      intro k h
      have hc : tabCells (x :: S) = .int .i64 x.t.mask :: x.iv :: x.rv :: tabCells S := rfl
      cases k with
      | zero => simp at h; subst h; rw [hc]; exact ⟨rfl, rfl, rfl⟩
      | succ k =>
        have := ih k (by simpa using h)
        rw [hc, show (k + 1) * 3 = k * 3 + 1 + 1 + 1 by omega, show k * 3 + 1 + 1 + 1 + 1 = (k * 3 + 1) + 1 + 1 + 1 by omega, show k * 3 + 1 + 1 + 1 + 2 = (k * 3 + 2) + 1 + 1 + 1 by omega]
        simp only [List.getElem?_cons_succ]
        exact this
  obtain ⟨h1, h2, h3⟩ := key S k hk
  exact ⟨(h.cellAt _ (by omega)).trans h1, (h.cellAt _ (by omega)).trans h2, (h.cellAt _ (by omega)).trans h3⟩
theorem kept_sets {P : Nat → Prop} {w W : World} (h : Kept P w W) {z : Nat} (hz : P z) (j : Nat) (u : Value) : Kept P w (W.setCell ⟨z, j, none⟩ u) := h.set (Or.inl hz) j u
attribute [local go_sem ↓] Go.wp_at_zero Go.wp_at_succ
set_option maxHeartbeats 16000000 in
set_option maxRecDepth 100000 in
theorem memQ {F F2 : Nat → Prop} {b ob cb Bi Bm : Nat} {s : Gp} {w : World} (xa : Ac) (r : Rep) (hr : r = (doG s xa).2) {ai am : Option Addr} {ci cm : Nat} (hG : Gam w F b (doG s xa).1) (hO : Gam w F2 ob s) (hg : GoodG s)
    (hc : w.rowIs cb 23 1 (fun _ => .pointer (some ⟨ob, 0, none⟩)))
    (hI : w.ownsRow Bi 3 1 (.slice ai r.ids.length ci) r.ids.length (r.ids.map (Value.int .i64))) (hM : w.ownsRow Bm 54 2 (.slice am r.met.length cm) r.met.length (r.met.flatMap Sw.pairCells))
    (hd : ∀ z, F z → ¬ F2 z) (hcF : ¬ F cb) (hcF2 : ¬ F2 cb) (hP : ∀ z, (Value.slice ai r.ids.length ci).ownBlock = some z ∨ (Value.slice am r.met.length cm).ownBlock = some z → ¬ F z ∧ ¬ F2 z ∧ z ≠ cb) :
    Calls Tryz.prog 23 #[.pointer (some ⟨b, 0, none⟩), actA xa, .agg #[.int .i64 r.code, .int .i64 r.n, .slice ai r.ids.length ci, .slice am r.met.length cm], .pointer (some ⟨cb, 0, none⟩)] w fun e w' => e = .returned (.bool true) ∧ ∃ F3, Gam w' F b (doG s xa).1 ∧ Gam w' F3 ob (doG s xa).1 ∧ (∀ z, F3 z → F2 z ∨ w.heap.size ≤ z) ∧
      Kept (fun z => F2 z ∨ (fun z => (Value.slice ai r.ids.length ci).ownBlock = some z ∨ (Value.slice am r.met.length cm).ownBlock = some z) z) w w' := by
  have hzr := do_rep hg xa
  rw [← hr] at hzr
  have hcz := hc.lt
  have HR := St.hid hr
  have HGS := St.hid hg
  have HGN := St.hid (hg.do xa)
  have HFG : Hid (∀ z, F z → z < w.heap.size) := St.hid (fun z hz => hG.lt hz)
  have HFO : Hid (∀ z, F2 z → z < w.heap.size) := St.hid (fun z hz => hO.lt hz)
  have HIL : Hid (∀ z, (Value.slice ai r.ids.length ci).ownBlock = some z ∨ (Value.slice am r.met.length cm).ownBlock = some z → z < w.heap.size) := St.hid (fun z hz => hz.elim (fun h => (hI.lt z h).2) (fun h => (hM.lt z h).2))
  have hA0 := bal (bal (Below.refl _ w) (.cells #[.int .i64 xa.kind, .int .i64 xa.id, .int .i64 xa.n, .int .i64 xa.mask, .int .i64 xa.row.x, .int .i64 xa.row.y, .int .i64 xa.row.px, .int .i64 xa.row.py, .int .i64 xa.row.wd, .int .i64 xa.row.ht, .int .i64 xa.row.ms, .int .i64 xa.row.rr, .int .i64 xa.box.id, .int .i64 xa.box.x1, .int .i64 xa.box.y1, .int .i64 xa.box.x2, .int .i64 xa.box.y2] 38)) (.cells #[.int .i64 r.code, .int .i64 r.n, .slice ai r.ids.length ci, .slice am r.met.length cm] 31)
  have HG2 := St.hid (hG.below hA0)
  have HO2 := St.hid (hO.below hA0)
  have HC2 := St.hid (rowIs_below hc hA0)
  have HI2 := St.hid (owns_below hI hA0)
  have HM2 := St.hid (owns_below hM hA0)
  have HAC : Hid (AcBox ((w.alloc (.cells #[.int .i64 xa.kind, .int .i64 xa.id, .int .i64 xa.n, .int .i64 xa.mask, .int .i64 xa.row.x, .int .i64 xa.row.y, .int .i64 xa.row.px, .int .i64 xa.row.py, .int .i64 xa.row.wd, .int .i64 xa.row.ht, .int .i64 xa.row.ms, .int .i64 xa.row.rr, .int .i64 xa.box.id, .int .i64 xa.box.x1, .int .i64 xa.box.y1, .int .i64 xa.box.x2, .int .i64 xa.box.y2] 38)).alloc (.cells #[.int .i64 r.code, .int .i64 r.n, .slice ai r.ids.length ci, .slice am r.met.length cm] 31)) w.heap.size xa) := St.hid ((acBox w xa).below (bal (Below.refl _ _) _))
  have hRB : Hid (((w.alloc (.cells #[.int .i64 xa.kind, .int .i64 xa.id, .int .i64 xa.n, .int .i64 xa.mask, .int .i64 xa.row.x, .int .i64 xa.row.y, .int .i64 xa.row.px, .int .i64 xa.row.py, .int .i64 xa.row.wd, .int .i64 xa.row.ht, .int .i64 xa.row.ms, .int .i64 xa.row.rr, .int .i64 xa.box.id, .int .i64 xa.box.x1, .int .i64 xa.box.y1, .int .i64 xa.box.x2, .int .i64 xa.box.y2] 38)).alloc (.cells #[.int .i64 r.code, .int .i64 r.n, .slice ai r.ids.length ci, .slice am r.met.length cm] 31)).rowIs (w.heap.size + 1) 31 4 (Rp.rcell r.code r.n (.slice ai r.ids.length ci) (.slice am r.met.length cm))) := St.hid (by
    have h1 := Rp.rowIs4 (w.alloc (.cells #[.int .i64 xa.kind, .int .i64 xa.id, .int .i64 xa.n, .int .i64 xa.mask, .int .i64 xa.row.x, .int .i64 xa.row.y, .int .i64 xa.row.px, .int .i64 xa.row.py, .int .i64 xa.row.wd, .int .i64 xa.row.ht, .int .i64 xa.row.ms, .int .i64 xa.row.rr, .int .i64 xa.box.id, .int .i64 xa.box.x1, .int .i64 xa.box.y1, .int .i64 xa.box.x2, .int .i64 xa.box.y2] 38)) r.code r.n (.slice ai r.ids.length ci) (.slice am r.met.length cm) 31
    rw [World.size_alloc] at h1
    exact h1)
  have HB2 := St.hid hA0
  have HD := St.hid hd
  have HP := St.hid hP
  have HCF := St.hid hcF
  have HCF2 := St.hid hcF2
  have hzW : ((w.alloc (.cells #[.int .i64 xa.kind, .int .i64 xa.id, .int .i64 xa.n, .int .i64 xa.mask, .int .i64 xa.row.x, .int .i64 xa.row.y, .int .i64 xa.row.px, .int .i64 xa.row.py, .int .i64 xa.row.wd, .int .i64 xa.row.ht, .int .i64 xa.row.ms, .int .i64 xa.row.rr, .int .i64 xa.box.id, .int .i64 xa.box.x1, .int .i64 xa.box.y1, .int .i64 xa.box.x2, .int .i64 xa.box.y2] 38)).alloc (.cells #[.int .i64 r.code, .int .i64 r.n, .slice ai r.ids.length ci, .slice am r.met.length cm] 31)).heap.size = w.heap.size + 1 + 1 := by simp
  clear hG hO hg hc hI hM hd hcF hcF2 hP hr
  go_enter Tryz.func23, Tryz.ntmps23
  go_upto_region 1 with fail
  generalize (w.alloc (.cells #[.int .i64 xa.kind, .int .i64 xa.id, .int .i64 xa.n, .int .i64 xa.mask, .int .i64 xa.row.x, .int .i64 xa.row.y, .int .i64 xa.row.px, .int .i64 xa.row.py, .int .i64 xa.row.wd, .int .i64 xa.row.ht, .int .i64 xa.row.ms, .int .i64 xa.row.rr, .int .i64 xa.box.id, .int .i64 xa.box.x1, .int .i64 xa.box.y1, .int .i64 xa.box.x2, .int .i64 xa.box.y2] 38)).alloc (.cells #[.int .i64 r.code, .int .i64 r.n, .slice ai r.ids.length ci, .slice am r.met.length cm] 31) = W at HG2 HO2 HC2 HI2 HM2 HAC hRB HB2 hzW hA0 ⊢
  clear hA0
  obtain ⟨a0, a1, a2, a3, a4, a5, a6, a7, a8, a9, a10, a11, a12, a13, a14, a15, a16⟩ := AcBox.at HAC.out
  obtain ⟨y0, y1, y2, y3⟩ := Rp.rcells hRB.out
  have c0 := HC2.out.cell (i := 0) (by omega)
  have hwW : w.heap.size < W.heap.size := by omega
  have hwW1 : w.heap.size + 1 < W.heap.size := by omega
  have hcW : cb < W.heap.size := by omega
  have HDOT : Hid (∀ W1, Below W.heap.size W W1 → Calls Tryz.prog 14 #[.pointer (some ⟨ob, 0, none⟩), actA xa] W1 (PostD W1 F2 ob (doG s xa).1 r)) := St.hid (fun W1 hb => by
    have h1 := do_any (HO2.out.below hb) HGS.out xa
    rw [← HR.out] at h1
    exact h1)
  go_cut [18] (fun s18 wx => ∃ W', W' = wx ∧ s18 = .bool false ∧ ∃ F3, Gam W' F b (doG s xa).1 ∧ Gam W' F3 ob (doG s xa).1 ∧ (∀ z, F3 z → F2 z ∨ W.heap.size ≤ z) ∧ Kept F2 W W')
  case first =>
    go_region_with (first
      | (go_at_call 14; go_fit (HDOT.out _ (by repeat (first | with_reducible exact Below.refl _ _ | with_reducible refine Below.drew ?_))); rintro e w1 ⟨aj, cj, an, cn, rfl, h1, h2, ⟨F3, h3, h4, h5⟩, hk⟩; have HK1 : Hid (Kept F2 W w1) := St.hid ((Kept.below (F := F2) (by repeat (first | with_reducible exact Below.refl _ W | with_reducible refine Below.drew ?_))).trans hk (fun z hz => Or.inl hz)); have HI1 := St.hid h1; have HM1 := St.hid h2; have HO1 := St.hid h3; have HF3 : Hid (∀ z, F3 z → F2 z ∨ W.heap.size ≤ z) := St.hid h4; have hRB1 := St.hid (rowIs_kept hRB.out HK1.out (fun h => by have := HFO.out _ h; omega)); clear h1 h2 h3 h4 h5 hk y0 y1 y2 y3; obtain ⟨y0, y1, y2, y3⟩ := Rp.rcells hRB1.out; have hz1 := HK1.out.size; have HSR := St.hid (same_rep r hzr.1 hzr.2 (Rp.IntsR.own HI1.out rfl) (Rp.PairsR.own HM1.out rfl) (Rp.IntsR.own (owns_kept' HI2.out HK1.out (fun z hz => (HP.out z (Or.inl hz)).2.1)) rfl) (Rp.PairsR.own (owns_kept' HM2.out HK1.out (fun z hz => (HP.out z (Or.inr hz)).2.1)) rfl)))
      | (go_at_call 15; go_fit HSR.out; rintro e w2 ⟨rfl, hb2⟩; have HB3 := St.hid hb2; clear hb2))
    all_goals
      go_wp2_with fail
      go_meet
      exact ⟨_, rfl, rfl, F3, (HG2.out.kept HK1.out (fun z hz => HD.out z hz)).below HB3.out, HO1.out.below HB3.out, HF3.out, HK1.out.call HB3.out⟩
  case rest =>
  obtain ⟨W1, rfl, rfl, F3, hG3, hO3, hF3, hk3⟩ := hcut
  have HG3 := St.hid hG3
  have HO3 := St.hid hO3
  have HF3 := St.hid hF3
  have HK3 := St.hid hk3
  have hRB3 := St.hid (rowIs_kept hRB.out hk3 (fun h => by have := HFO.out _ h; omega))
  have HC3 := St.hid (rowIs_kept HC2.out hk3 HCF2.out)
  have HI3 := St.hid (owns_kept' HI2.out hk3 (fun z hz => (HP.out z (Or.inl hz)).2.1))
  have HM3 := St.hid (owns_kept' HM2.out hk3 (fun z hz => (HP.out z (Or.inr hz)).2.1))
  have hz3 := hk3.size
  have HP3 : Hid (∀ z, (fun z => (Value.slice ai r.ids.length ci).ownBlock = some z ∨ (Value.slice am r.met.length cm).ownBlock = some z) z → ¬ F z ∧ ¬ F3 z ∧ z ≠ cb ∧ z < w.heap.size) := St.hid (fun z hz => ⟨(HP.out z hz).1, fun h => by
    rcases HF3.out z h with h1 | h1
    · exact (HP.out z hz).2.1 h1
    · have := HIL.out z hz; omega, (HP.out z hz).2.2, HIL.out z hz⟩)
  clear hG3 hO3 hF3 hk3 HG2 HO2 HC2 HI2 HM2 HAC hRB HDOT a0 a1 a2 a3 a4 a5 a6 a7 a8 a9 a10 a11 a12 a13 a14 a15 a16 y0 y1 y2 y3 c0
  obtain ⟨y0, y1, y2, y3⟩ := Rp.rcells hRB3.out
  have hw31 : w.heap.size + 1 < W1.heap.size := by omega
  go_wp2_with fail
  go_loopw [22] (fun i wr => ∃ k : Nat, k ≤ r.ids.length ∧ i = .int .i64 k ∧ Hid (∃ xs, wr.ownsRow Bi 3 1 (.slice ai r.ids.length ci) r.ids.length xs) ∧ Hid (∃ xs, wr.ownsRow Bm 54 2 (.slice am r.met.length cm) r.met.length xs) ∧ Hid (Kept (fun z => (Value.slice ai r.ids.length ci).ownBlock = some z ∨ (Value.slice am r.met.length cm).ownBlock = some z) W1 wr)) (fun i _ => r.ids.length - (intOf i).toNat)
  case atStart => exact ⟨0, Nat.zero_le _, rfl, St.hid ⟨_, HI3.out⟩, St.hid ⟨_, HM3.out⟩, St.hid (Kept.below (Below.refl _ _))⟩
  case round =>
    obtain ⟨k, hk, rfl, hI, hM, hK⟩ := hrel
    obtain ⟨y0, y1, y2, y3⟩ := Rp.rcells (rowIs_kept hRB3.out hK.out (fun h => by have := (HP3.out _ h).2.2.2; omega))
    have hzr1 := hK.out.size
    have hw32 : w.heap.size + 1 < wr.heap.size := by omega
    by_cases hlt : k < r.ids.length
    · have hlt' : (k : Int) < (r.ids.length : Int) := by omega
      obtain ⟨xs, hI'⟩ := hI.out
      obtain ⟨gi, cc, hai⟩ := own_some hI' (by omega)
      simp only [Value.slice.injEq] at hai
      obtain ⟨rfl, -, rfl⟩ := hai
      obtain ⟨⟨u, cu⟩, fu⟩ := ow1 hI' hlt
      have hgz := (hI'.lt gi rfl).2
      have HI5 := St.hid (lset hI' gi k (.int .i64 (-1)))
      have HM5 : Hid (∃ ys, (wr.setCell ⟨gi, k, none⟩ (.int .i64 (-1))).ownsRow Bm 54 2 (.slice am r.met.length cm) r.met.length ys) := St.hid (by
        obtain ⟨ys, h⟩ := hM.out
        exact lset h gi k _)
      have HK5 := St.hid (kept_sets hK.out (Or.inl rfl) k (.int .i64 (-1)))
      clear hI'
      go_wp2_with fail
      go_roundw
      case rel => exact ⟨k + 1, by omega, by go_num, HI5, HM5, HK5⟩
      case measure => simp [intOf]; omega
    · go_wp2_with fail
      go_loopw [33] (fun i wr => ∃ k : Nat, k ≤ r.met.length ∧ i = .int .i64 k ∧ Hid (∃ xs, wr.ownsRow Bi 3 1 (.slice ai r.ids.length ci) r.ids.length xs) ∧ Hid (∃ xs, wr.ownsRow Bm 54 2 (.slice am r.met.length cm) r.met.length xs) ∧ Hid (Kept (fun z => (Value.slice ai r.ids.length ci).ownBlock = some z ∨ (Value.slice am r.met.length cm).ownBlock = some z) W1 wr)) (fun i _ => r.met.length - (intOf i).toNat)
      case atStart => exact ⟨0, Nat.zero_le _, rfl, hI, hM, hK⟩
      case round =>
        clear hI hM hK y0 y1 y2 y3 hzr1 hw32
        obtain ⟨k, hk, rfl, hI, hM, hK⟩ := hrel
        obtain ⟨y0, y1, y2, y3⟩ := Rp.rcells (rowIs_kept hRB3.out hK.out (fun h => by have := (HP3.out _ h).2.2.2; omega))
        have hzr1 := hK.out.size
        have hw32 : w.heap.size + 1 < wr.heap.size := by omega
        by_cases hlt : k < r.met.length
        · have hlt' : (k : Int) < (r.met.length : Int) := by omega
          obtain ⟨xs, hM'⟩ := hM.out
          obtain ⟨gi, cc, hai⟩ := own_some hM' (by omega)
          simp only [Value.slice.injEq] at hai
          obtain ⟨rfl, -, rfl⟩ := hai
          obtain ⟨⟨u0, cu0⟩, fu0⟩ := owk hM' hlt (i := 0) (by omega)
          obtain ⟨⟨u1, cu1⟩, fu1⟩ := owk hM' hlt (i := 1) (by omega)
          rw [Nat.add_zero] at cu0 fu0
          have hgz := (hM'.lt gi rfl).2
          have HM5 : Hid (∃ ys, ((wr.setCell ⟨gi, k * 2, none⟩ (.int .i64 0)).setCell ⟨gi, k * 2 + 1, none⟩ (.int .i64 0)).ownsRow Bm 54 2 (.slice (some ⟨gi, 0, none⟩) r.met.length cm) r.met.length ys) := St.hid (by
            obtain ⟨ys, h⟩ := lset hM' gi (k * 2) (.int .i64 0)
            exact lset h gi (k * 2 + 1) _)
          have HI5 : Hid (∃ ys, ((wr.setCell ⟨gi, k * 2, none⟩ (.int .i64 0)).setCell ⟨gi, k * 2 + 1, none⟩ (.int .i64 0)).ownsRow Bi 3 1 (.slice ai r.ids.length ci) r.ids.length ys) := St.hid (by
            obtain ⟨ys, h⟩ := hI.out
            obtain ⟨zs, h⟩ := lset h gi (k * 2) (.int .i64 0)
            exact lset h gi (k * 2 + 1) _)
          have HK5 := St.hid (kept_sets (kept_sets hK.out (Or.inr rfl) (k * 2) (.int .i64 0)) (Or.inr rfl) (k * 2 + 1) (.int .i64 0))
          clear hM'
          go_wp2_with fail
          go_roundw
          case rel => exact ⟨k + 1, by omega, by go_num, HI5, HM5, HK5⟩
          case measure => simp [intOf]; omega
        · have HG4 := St.hid (HG3.out.kept hK.out (fun z hz h => (HP3.out z h).1 hz))
          have HO4 := St.hid (HO3.out.kept hK.out (fun z hz h => (HP3.out z h).2.1 hz))
          have HC4 := St.hid (rowIs_kept HC3.out hK.out (fun h => (HP3.out _ h).2.2.1 rfl))
          have HKW : Hid (Kept (fun z => F2 z ∨ (fun z => (Value.slice ai r.ids.length ci).ownBlock = some z ∨ (Value.slice am r.met.length cm).ownBlock = some z) z) w wr) := St.hid ((((Kept.below HB2.out).trans (HK3.out.wide (fun z hz => Or.inl hz)) (fun z hz => Or.inl hz)).trans (hK.out.wide (F' := fun z => F2 z ∨ (fun z => (Value.slice ai r.ids.length ci).ownBlock = some z ∨ (Value.slice am r.met.length cm).ownBlock = some z) z) (fun z hz => Or.inr hz)) (fun z hz => Or.inl hz)))
          have HGL : Hid (GoodL (doG s xa).1.now.next (doG s xa).1.now.L) := St.hid HGN.out.now.l
          have hbz := HG4.out.lt HG4.out.own
          clear hI hM hK y0 y1 y2 y3
          go_wp2_with fail
          generalize wr = W4 at *
          refine (world_own HG4.out).mono ?_
          rintro e w5 ⟨⟨a5, c5, S, rfl, ho5, hpl⟩, hb5⟩
          have HB5 := St.hid hb5
          have HLS := St.hid (Loose.of ho5)
          have HLEN : Hid (∀ o ∈ S, o.t.ids.length ≤ 10 ∧ o.t.rows.length = o.t.ids.length) := St.hid (fun o hoS => by
            have hm : o.t ∈ (doG s xa).1.now.L := by rw [← hpl]; exact List.mem_map.2 ⟨o, hoS, rfl⟩
            have h1 := HGL.out.even o.t hm
            have h2 : o.t.ids.length ≤ (allL (doG s xa).1.now.L).length := ids_sub hm
            have := HGL.out.2.1
            omega)
          obtain ⟨N, hN⟩ : ∃ N, N = S.length := ⟨_, rfl⟩
          have hN31 : N ≤ 10 := by
            have h1 : S.length = (doG s xa).1.now.L.length := by rw [← hpl, List.length_map]
            have := tabs_few HGL.out
            omega
          rw [← hN] at HLS
          rw [← hN]
          have HN := St.hid hN
          have hz5 := hb5.size
          clear ho5 hb5 hpl hN
          have hf0 := fieldW2
          have hf1 := fieldS2
          go_wp2_with fail
          go_loopw [47] (fun i wr => ∃ k : Nat, k ≤ N ∧ i = .int .i64 k ∧ Hid (Loose wr W4.heap.size (.slice a5 N c5) S) ∧ Hid (Below W4.heap.size W4 wr)) (fun i _ => N - (intOf i).toNat)
          case atStart => exact ⟨0, Nat.zero_le _, rfl, HLS, HB5⟩
          case round =>
            clear HLS HB5
            obtain ⟨k, hk, rfl, hL, hB⟩ := hrel
            have hzr5 := hB.out.size
            by_cases hlt : k < N
            · have hlt' : (k : Int) < (N : Int) := by omega
              obtain ⟨o, hoo⟩ : ∃ o, S[k]? = some o := ⟨_, List.getElem?_eq_getElem (by have := HN.out; omega)⟩
              have hmem : o ∈ S := List.mem_of_getElem? hoo
              obtain ⟨hl10, hlr⟩ := HLEN.out o hmem
              obtain ⟨⟨xs, hi0⟩, ⟨ys, hr0⟩⟩ := hL.out.2 o hmem
              obtain ⟨ia, ic, hiv⟩ := own_form hi0
              obtain ⟨ra, rc, hrv⟩ := own_form hr0
              have h5 := hL.out.1
              obtain ⟨g5, cc, ha5⟩ := own_some h5 (by have := HN.out; omega)
              simp only [Value.slice.injEq] at ha5
              obtain ⟨rfl, -, rfl⟩ := ha5
              obtain ⟨z0, z1, z2⟩ := tab_cells h5 HN.out hoo
              rw [hiv] at z1
              rw [hrv, hlr] at z2
              have h5z := (h5.lt g5 rfl).2
              have HIV := St.hid hiv
              have HRV := St.hid hrv
              have HLR := St.hid hlr
              have HMEM := St.hid hmem
              have HIB : Hid (∀ z, (Value.slice ia o.t.ids.length ic).ownBlock = some z → W4.heap.size ≤ z ∧ z < wr.heap.size) := St.hid (fun z hz => by rw [hiv] at hi0; exact hi0.lt z hz)
              have HRB : Hid (∀ z, (Value.slice ra o.t.ids.length rc).ownBlock = some z → W4.heap.size ≤ z ∧ z < wr.heap.size) := St.hid (fun z hz => by rw [hrv, hlr] at hr0; exact hr0.lt z hz)
              clear hi0 hr0 hmem h5 hoo hiv hrv hlr
              go_wp2_with fail
              have hA6 := bal (Below.refl _ wr) (.cells #[.int .i64 o.t.mask, .slice ia o.t.ids.length ic, .slice ra o.t.ids.length rc] 65)
              have hT6 := St.hid (Wd.rowIs3 wr ⟨o.t.mask, ia, o.t.ids.length, ic, ra, o.t.ids.length, rc⟩ 65)
              have HL6 := St.hid (hL.out.below hA6)
              have HB6 := St.hid (bal hB.out (.cells #[.int .i64 o.t.mask, .slice ia o.t.ids.length ic, .slice ra o.t.ids.length rc] 65))
              have hzW6 : wr.heap.size < (wr.alloc (.cells #[.int .i64 o.t.mask, .slice ia o.t.ids.length ic, .slice ra o.t.ids.length rc] 65)).heap.size := by simp
              generalize htb : wr.heap.size = tb at hT6 HIB HRB hzW6 hzr5
              generalize wr.alloc (.cells #[.int .i64 o.t.mask, .slice ia o.t.ids.length ic, .slice ra o.t.ids.length rc] 65) = W6 at hA6 hT6 HL6 HB6 hzW6 ⊢
              obtain ⟨q, HQ⟩ : ∃ q, Hid (q = o.t.ids.length) := ⟨_, rfl⟩
              rw [← HQ.out] at HIB HRB hT6 hl10 ⊢
              clear hA6 hL hB z0 z1 z2 htb
              go_loopw [54] (fun i wr => ∃ j : Nat, j ≤ q ∧ i = .int .i64 j ∧ Hid (Loose wr W4.heap.size (.slice (some ⟨g5, 0, none⟩) N c5) S) ∧ Hid (Below W4.heap.size W4 wr) ∧ Hid (wr.rowIs tb 65 3 (tcell ⟨o.t.mask, ia, q, ic, ra, q, rc⟩)) ∧ tb < wr.heap.size) (fun i _ => q - (intOf i).toNat)
              case atStart => exact ⟨0, Nat.zero_le _, rfl, HL6, HB6, hT6, hzW6⟩
              case round =>
                clear HL6 HB6 hT6
                obtain ⟨j, hj, rfl, hL, hB, hT, htz⟩ := hrel
                obtain ⟨t0, t1, t2⟩ := tcells hT.out
                simp only at t0 t1 t2
                by_cases hjl : j < q
                · have hjl' : (j : Int) < (q : Int) := by omega
                  obtain ⟨⟨xs, hi0⟩, ⟨ys, hr0⟩⟩ := hL.out.2 o HMEM.out
                  rw [HIV.out, ← HQ.out] at hi0
                  rw [HRV.out, HLR.out, ← HQ.out] at hr0
                  obtain ⟨gi, cc, hai⟩ := own_some hi0 (by omega)
                  simp only [Value.slice.injEq] at hai
                  obtain ⟨rfl, -, rfl⟩ := hai
                  obtain ⟨gr, cc, har⟩ := own_some hr0 (by omega)
                  simp only [Value.slice.injEq] at har
                  obtain ⟨rfl, -, rfl⟩ := har
                  have hgr : gi ≠ gr := fun e => Sw.apart_kind hi0 hr0 (by decide) gi rfl (by rw [e]; rfl)
                  have hg5i : g5 ≠ gi := fun e => Sw.apart_kind hL.out.1 hi0 (by decide) g5 rfl (by rw [e]; rfl)
                  have hg5r : g5 ≠ gr := fun e => Sw.apart_kind hL.out.1 hr0 (by decide) g5 rfl (by rw [e]; rfl)
                  obtain ⟨hib, hit⟩ := HIB.out gi rfl
                  obtain ⟨hrb, hrt⟩ := HRB.out gr rfl
                  have HQ2 : Hid (o.t.rows.length = q) := St.hid (by rw [HLR.out, HQ.out])
                  have HIV2 := HIV
                  have HRV2 := HRV
                  rw [← HQ.out] at HIV2
                  rw [HLR.out, ← HQ.out] at HRV2
                  clear hi0 hr0 t0 t1 t2
                  go_upto_region 19 with fail
                  refine Rh.wp_act ?_
                  intro A hA
                  refine mreg19_wp _ A tb gi gr g5 q j N c5 ic rc o.t.mask S o wr W4 (by rw [hA]; rfl) (by rw [hA]; rfl) (by rw [hA]; exact Nat.le_of_ble_eq_true rfl) hjl HIV2.out HRV2.out HQ.out.symm HQ2.out HMEM.out hg5i hg5r (by omega) (by omega) hib hrb ⟨hL.out, hB.out, hT.out⟩ ?_
                  intro f W7 hov
                  subst hA
                  have hL7 := St.hid hov.loose
                  have hB7 := St.hid hov.below
                  have hT7 := St.hid hov.box
                  have htz7 := hov.box.lt
                  clear hov hL hB hT
                  simp only [Rh.puts, Act.put]
                  go_simp
                  go_wp2_with fail
                  go_roundw
                  case rel => exact ⟨j + 1, by omega, by go_num, hL7, hB7, hT7, htz7⟩
                  case measure => simp [intOf]; omega
                · go_wp2_with fail
                  go_roundw
                  case rel => exact ⟨k + 1, by omega, by go_num, hL, hB⟩
                  case measure => simp [intOf]; omega
            · have HG7 := St.hid (HG4.out.below hB.out)
              have HO7 := St.hid (HO4.out.below hB.out)
              have HK7 := St.hid (HKW.out.call hB.out)
              have HC7 := St.hid (rowIs_below HC4.out hB.out)
              have c0 := HC7.out.cell (i := 0) (by omega)
              have hc7 := HC7.out.lt
              clear hL hB HG4 HO4 HC4 HKW
              go_wp2_with fail
              go_region_with (first
                | (go_at_call 17; go_fit (world_any (HG7.out.below (by repeat (first | with_reducible exact Below.refl _ _ | with_reducible refine Below.drew ?_)))); rintro e w8 ⟨⟨a8, n8, c8, rfl, F8, hs8, -⟩, hb8⟩; have HS8 := St.hid hs8; have HB8 := St.hid (bcall (by repeat (first | with_reducible exact Below.refl _ wr | with_reducible refine Below.drew ?_)) hb8 : Below wr.heap.size wr w8); clear hs8 hb8 c0; have c0 := (rowIs_below HC7.out HB8.out).cell (i := 0) (by omega))
                | (go_at_call 17; go_fit (world_any (HO7.out.below HB8.out)); rintro e w9 ⟨⟨a9, n9, c9, rfl, F9, hs9, -⟩, hb9⟩; have HSM := St.hid (same_now HGN.out.now (HS8.out.below hb9) hs9); have HB9 := St.hid (bcall HB8.out hb9); clear hs9 hb9)
                | (go_at_call 16; go_fit HSM.out; rintro e w10 ⟨rfl, hb10⟩; have HB10 := St.hid (bcall HB9.out hb10); clear hb10))
              all_goals
                go_wp2_with fail
                go_ret
                refine ⟨rfl, F3, HG7.out.below HB10.out, HO7.out.below HB10.out, fun z hz => ?_, HK7.out.call HB10.out⟩
                rcases HF3.out z hz with h | h
                · exact Or.inl h
                · exact Or.inr (by omega)
end Go.Proofs.YtckkkdldljhehacGreat.Gm
