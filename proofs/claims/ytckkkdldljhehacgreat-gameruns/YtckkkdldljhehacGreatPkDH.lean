/- Part of the proofs of GamePlays and GameRuns (package ninepinslaw): contracts of the functions that they call. -/
import Derived.Test.YtckkkdldljhehacGreatPkRB
import Derived.Test.YtckkkdldljhehacGreatPkDA
namespace Go.Proofs.YtckkkdldljhehacGreat
namespace Rf
open Num St Mp Th Wd Gm Ws
open Go.ChangeShapes Go.WideShapes Go.ChangeAt Go.RowKit
attribute [local go_sem ↓] Go.wp_at_zero Go.wp_at_succ
theorem zip_cells (ms : List Nat) (xs : List Wp) (c : Nat) (x : Wp) (h : ms.length = xs.length) : saveCells ((mvs (ms ++ [c])).zip (xs ++ [x])) = saveCells ((mvs ms).zip xs) ++ [.map (some c), .int .i64 x.next, .int .i64 x.fall, .int .i64 x.wide, .int .i64 x.high] := by
 have e : (mvs (ms ++ [c])).zip (xs ++ [x]) = (mvs ms).zip xs ++ [(.map (some c), x)] := by
  unfold mvs
  rw [List.map_append, List.zip_append (by simpa using h)]
  rfl
 rw [e]
 simp [saveCells]
theorem RGamP.addSave {W W1 : World} {F : Nat → Prop} {b : Nat} {s : Gp} {c : Nat} {av : Option Addr} {cv : Nat} {ms : List Nat} {c2 : Nat} {v' : Value} (h : RGamP W F b s c (.slice av s.saves.length cv) ms) (hA : AppR W W1 (.slice av s.saves.length cv) s.saves.length (saveCells ((mvs ms).zip s.saves)) c2 (thM s.now.L) s.now v') :
  RGamP (W1.setCell ⟨b, 5, none⟩ v') (fun z => F z ∨ z = c2 ∨ v'.ownBlock = some z) b { s with saves := s.saves ++ [s.now] } c v' (ms ++ [c2]) := by
 obtain ⟨Wm, hbm, hg⟩ := hA.via
 have hbz := h.lt b h.own
 have hcz := h.lt c h.inC.1
 have hgs := grown_set W1 b 5 v'
 have hv' : ∀ z, v'.ownBlock = some z → z ≠ b ∧ z ≠ c ∧ z ∉ ms ∧ z ≠ c2 := fun z hz => by
  rcases hA.at_ with e | ⟨y, e, h1, h2⟩
  ·rw [e] at hz
   exact ⟨(h.sep z hz).2.1, (h.sep z hz).2.2.1, (h.sep z hz).2.2.2, fun e => by have := h.lt z (h.sep z hz).1; have := hA.new; omega⟩
  ·rw [e] at hz
   cases hz
   exact ⟨fun e => by omega, fun e => by omega, fun hc => by have := h.lt _ (h.inM _ hc).1; omega, h2⟩
 have hc2b : c2 ≠ b := fun e => by have := hA.new; omega
 have hc2c : c2 ≠ c := fun e => by have := hA.new; omega
 have old : ∀ {m : Nat} {l : Mth}, Mp W m l → m ≠ b → (Value.slice av s.saves.length cv).ownBlock ≠ some m → Mp (W1.setCell ⟨b, 5, none⟩ v') m l := fun hm h1 h2 => ((hm.below hbm).kept hg (fun e => h2 e.symm)).kept hgs (fun e => h1 (by cases e; rfl))
 refine ⟨?_, ?_, by simp [h.len], old h.now h.inC.2 (fun e => (h.sep _ e).2.2.1 rfl), ?_, Or.inl h.own, ⟨Or.inl h.inC.1, h.inC.2⟩, ?_, ?_, ?_⟩
 ·refine ((rowIs_grown (rowIs_below h.row hbm) hg (fun e => (h.sep _ e).2.1 rfl)).set 5 v').congr (fun i hi => ?_)
  match i, hi with
  | 0, _ => rfl
  | 1, _ => rfl
  | 2, _ => rfl
  | 3, _ => rfl
  | 4, _ => rfl
  | 5, _ => rfl
  | 6, _ => rfl
 ·simp only [List.length_append, List.length_cons, List.length_nil]
  rw [zip_cells ms s.saves c2 s.now h.len]
  exact owns_kept hA.own hgs (fun z hz e => (hv' z hz).1 (by cases e; rfl))
 ·intro i m x h1 h2
  by_cases hi : i < ms.length
  ·rw [List.getElem?_append_left hi] at h1
   rw [List.getElem?_append_left (by rw [← h.len]; exact hi)] at h2
   have hmm := h.inM m (List.mem_of_getElem? h1)
   exact old (h.all i m x h1 h2) hmm.2.1 (fun e => (h.sep _ e).2.2.2 (List.mem_of_getElem? h1))
  ·have hi' : i = ms.length := by
    have h3 := (List.getElem?_eq_some_iff.1 h1).1
    simp at h3
    omega
   rw [hi'] at h1 h2
   rw [List.getElem?_append_right (Nat.le_refl _)] at h1
   rw [h.len, List.getElem?_append_right (Nat.le_refl _)] at h2
   simp at h1 h2
   subst h1 h2
   exact hA.map.kept hgs (fun e => hc2b (by cases e; rfl))
 ·intro m hm
  rcases List.mem_append.1 hm with h1 | h1
  ·exact ⟨Or.inl (h.inM m h1).1, (h.inM m h1).2⟩
  ·simp at h1
   subst h1
   exact ⟨Or.inr (Or.inl rfl), hc2b, hc2c⟩
 ·intro z hz
  obtain ⟨h1, h2, h3, h4⟩ := hv' z hz
  exact ⟨Or.inr (Or.inr hz), h1, h2, fun hc => by rcases List.mem_append.1 hc with h5 | h5; (exact h3 h5); (simp at h5; exact h4 h5)⟩
 ·intro z hz
  refine Nat.lt_of_lt_of_le ?_ hgs.size
  rcases hz with h1 | h1 | h1
  ·have := h.lt z h1; have := hbm.size; have := hg.size; omega
  ·subst h1; exact hA.map.lt
  ·exact (hA.own.lt z h1).2
set_option maxHeartbeats 16000000 in
set_option maxRecDepth 100000 in
theorem rdo_save {F : Nat → Prop} {b : Nat} {s : Gp} {w : World} {id n mask : Int} {row : R8} {box : Sw.B5} (hR : RIn F b s w id mask) : RDone F b s w ⟨7, id, n, mask, row, box⟩ := by
 by_cases hfl : s.saves.length = 3
 ·have hdo : doG s ⟨7, id, n, mask, row, box⟩ = ({ s with acts := s.acts + 1 }, no 5) := by
   unfold doG
   rw [if_neg (by show ¬ 150 ≤ s.acts; have := hR.a; omega), if_pos rfl, if_pos (by omega)]
  unfold RDone
  rw [hdo]
  clear hdo
  obtain ⟨o, ho⟩ : ∃ o, getM id (thM s.now.L) = o := ⟨_, rfl⟩
  refine (rdoT 7 hR o ho _).2 ?_
  intro c vs ms f tb W5 h5
  have H5 := St.hid h5
  have HL := St.hid hR.len
  have HGD := St.hid hR.g
  have HIW := hR.i
  have HA := hR.a
  dsimp only [rdoT]
  intro K1 k1
  obtain ⟨hbz, htn, htl, hcl, hz0, hz1, hz2⟩ := h5.lts
  obtain ⟨a0, a1, a2, a3, a4, a5, a6, a7, a8, a9, a10, a11, a12, a13, a14, a15, a16⟩ := acells h5.ac
  clear h5 hR
  obtain ⟨av, cv, rfl, -⟩ := Sw.owns_slice H5.out.gw.svs
  simp only at H5
  obtain ⟨x0, x1, x2, x3, x4, x5, x6, -⟩ := H5.out.gcs
  simp only at x0 x1 x2 x3 x4
  have hfew := HGD.out.few
  have hwl : wrap64 ((s.saves.length : Int) - 1) = (s.saves.length : Int) - 1 := by unfold wrap64; omega
  have h3 : ((s.saves.length : Int) == 3) = true := by simp; omega
  go_wp2_with fail
  refine (rno_any 5 _).mono ?_
  rintro e w9 ⟨rfl, hb9⟩
  have H9 := St.hid (H5.out.below hb9)
  clear hb9
  obtain ⟨p0, p1, p2, p3, p4, p5, p6, p7⟩ := H9.out.rcs
  have hpl := H9.out.rp.lt
  go_wp2_with fail
  obtain ⟨q0, q1, q2, q3⟩ := four (put4 H9.out.rp (.int .i64 5) (.int .i64 0) (.slice none 0 0) (.slice none 0 0))
  exact bodyPost_ret (v := .agg #[.int .i64 5, .int .i64 0, .slice none 0 0, .slice none 0 0]) (by simp [results, Tryz.results27, go_sem, q0, q1, q2, q3]) rfl (H9.out.no 0 5 _ _ _ _)
 ·have hfl2 := hR.g.few
  have hdo : doG s ⟨7, id, n, mask, row, box⟩ = (⟨s.now, s.saves ++ [s.now], s.acts + 1⟩, (⟨0, s.saves.length, [], []⟩ : Rep)) := by
   unfold doG
   rw [if_neg (by show ¬ 150 ≤ s.acts; have := hR.a; omega), if_pos rfl, if_neg (by omega)]
  unfold RDone
  rw [hdo]
  clear hdo
  obtain ⟨o, ho⟩ : ∃ o, getM id (thM s.now.L) = o := ⟨_, rfl⟩
  refine (rdoT 7 hR o ho _).2 ?_
  intro c vs ms f tb W5 h5
  have H5 := St.hid h5
  have HL := St.hid hR.len
  have HGD := St.hid hR.g
  have HIW := hR.i
  have HA := hR.a
  dsimp only [rdoT]
  intro K1 k1
  obtain ⟨hbz, htn, htl, hcl, hz0, hz1, hz2⟩ := h5.lts
  obtain ⟨a0, a1, a2, a3, a4, a5, a6, a7, a8, a9, a10, a11, a12, a13, a14, a15, a16⟩ := acells h5.ac
  clear h5 hR
  obtain ⟨av, cv, rfl, -⟩ := Sw.owns_slice H5.out.gw.svs
  simp only at H5
  obtain ⟨x0, x1, x2, x3, x4, x5, x6, -⟩ := H5.out.gcs
  simp only at x0 x1 x2 x3 x4
  have hfew := HGD.out.few
  have hwl : wrap64 ((s.saves.length : Int) - 1) = (s.saves.length : Int) - 1 := by unfold wrap64; omega
  have h3 : ((s.saves.length : Int) == 3) = false := by simp; omega
  go_upto_region 38 with fail
  refine Rh.wp_act ?_
  intro A hA
  refine rreg38_wp _ A b c s.saves.length cv av (saveCells ((mvs ms).zip s.saves)) (thM s.now.L) s.now W5 (by rw [hA]; rfl) (by rw [hA]; exact Nat.le_of_ble_eq_true rfl) (by omega) hz2 (fun W hb => by
   obtain ⟨y0, y1, y2, y3, y4, y5, -⟩ := (H5.out.below hb).gcs
   exact ⟨y0, y1, y2, y3, y4, y5, (H5.out.below hb).gw.row.frozen 5⟩) (fun z hz => ⟨(H5.out.gw.sep z hz).2.1, H5.out.gw.lt z (H5.out.gw.sep z hz).1⟩) (fun W hb => wcopy_any c _ s.now.next s.now.fall s.now.wide s.now.high W (H5.out.gw.now.below hb) (by have := HL.out; omega)) H5.out.gw.svs ?_
  intro f3 W8 c2 a' c' hap
  subst hA
  have HGA := St.hid (H5.out.gw.addSave hap)
  obtain ⟨Wm, hbm, hgm⟩ := hap.via
  have HNV : Hid (∀ z, (Value.slice av s.saves.length cv).ownBlock = some z → F z) := St.hid (fun z hz => (H5.out.gw.sep z hz).1)
  have HFL := St.hid H5.out.fl
  have HFA : Hid (∀ z, (F z ∨ z = c2 ∨ (Value.slice a' (s.saves.length + 1) c').ownBlock = some z) → F z ∨ w.heap.size + 2 ≤ z) := St.hid (fun z hz => by
   rcases hz with h | h | h
   ·exact Or.inl h
   ·have := hap.new; exact Or.inr (by omega)
   ·rcases hap.at_ with e | ⟨y, e, h1, -⟩
    ·rw [e] at h; exact Or.inl (HNV.out z h)
    ·rw [e] at h; cases h; exact Or.inr (by omega))
  have hRP := St.hid (rowIs_grown (rowIs_grown (rowIs_below H5.out.rp hbm) hgm (fun e => by have := HFL.out _ (HNV.out _ e); omega)) (grown_set W8 b 5 (.slice a' (s.saves.length + 1) c')) (by simp; omega))
  have HKW := St.hid (((H5.out.kw.call hbm).grown hgm (fun z e => Or.inl (HNV.out z e))).set (Or.inl H5.out.ow) 5 (.slice a' (s.saves.length + 1) c'))
  simp only [Rh.puts, Act.put]
  go_simp
  generalize W8.setCell ⟨b, 5, none⟩ (.slice a' (s.saves.length + 1) c') = W9 at HGA hRP HKW ⊢
  clear x0 x1 x2 x3 x4 x5 x6 hap hbm hgm
  obtain ⟨x0, x1, x2, x3, x4, x5, x6⟩ := rgcells HGA.out.row
  obtain ⟨p0, p1, p2, p3⟩ := Rp.rcells hRP.out
  have p4 := hRP.out.frozen 0
  have p5 := hRP.out.frozen 1
  have p6 := hRP.out.frozen 2
  have p7 := hRP.out.frozen 3
  have hpl := hRP.out.lt
  have hwl2 : wrap64 (((s.saves.length + 1 : Nat) : Int) - 1) = (s.saves.length : Int) := by unfold wrap64; omega
  have hwl3 : wrap64 ((s.saves.length : Int) + 1 - 1) = (s.saves.length : Int) := by unfold wrap64; omega
  go_wp2_with fail
  obtain ⟨q0, q1, q2, q3⟩ := four (put4 hRP.out (.int .i64 0) (.int .i64 s.saves.length) (.slice none 0 0) (.slice none 0 0))
  exact bodyPost_ret (v := .agg #[.int .i64 0, .int .i64 s.saves.length, .slice none 0 0, .slice none 0 0]) (by simp [results, Tryz.results27, go_sem, q0, q1, q2, q3]) rfl (post_no ⟨_, _, _, HGA.out⟩ (HFA.out) HFL.out HKW.out s.saves.length 0 _ _ _ _)
end Rf
end Go.Proofs.YtckkkdldljhehacGreat
