/- What load of a game in memory answers when called: the world that was saved, in memory of its own; the game as it is then; all blocks but the game's are as they were. -/
import Derived.Test.YtckkkdldljhehacGreatKtGmG
namespace Go.Proofs.YtckkkdldljhehacGreat.Gm
open Go.Proofs.YtckkkdldljhehacGreat.Num Go.Proofs.YtckkkdldljhehacGreat.St Go.Proofs.YtckkkdldljhehacGreat.Wd
open Go.ChangeShapes Go.WideShapes Go.ChangeAt Go.RowKit

def loadW (s : Gp) (n : Int) : Wp × Rep := if 0 ≤ n ∧ n < s.saves.length then (s.saves.getD n.toNat s.now, no 0) else (s.now, no 3)
/-- What is saved, by its number. -/
theorem GamP.save_at {W : World} {F : Nat → Prop} {b : Nat} {s : Gp} {v vs : Value} {sv : List Value} {Fs : Nat → Prop} (h : GamP W F b s v vs sv Fs) {k : Nat} (hk : k < s.saves.length) :
    ∃ g c u x, vs = .slice (some ⟨g, 0, none⟩) s.saves.length c ∧ s.saves[k]? = some x ∧ Sto W Fs u x.L ∧ g < W.heap.size ∧
      W.cell? ⟨g, k * 5, none⟩ = some u ∧ W.cell? ⟨g, k * 5 + 1, none⟩ = some (.int .i64 x.next) ∧ W.cell? ⟨g, k * 5 + 2, none⟩ = some (.int .i64 x.fall) ∧ W.cell? ⟨g, k * 5 + 3, none⟩ = some (.int .i64 x.wide) ∧ W.cell? ⟨g, k * 5 + 4, none⟩ = some (.int .i64 x.high) := by
  obtain ⟨g, c, hv⟩ : ∃ g c, vs = .slice (some ⟨g, 0, none⟩) s.saves.length c := by
    rcases h.svs.2 with ⟨_, h0⟩ | ⟨g, c, _, e, _⟩
    · omega
    · exact ⟨g, c, e⟩
  subst hv
  have hx := List.getElem?_eq_getElem hk
  have hu := List.getElem?_eq_getElem (show k < sv.length by rw [h.len]; exact hk)
  have hz : (sv.zip s.saves)[k]? = some (sv[k]'(by rw [h.len]; exact hk), s.saves[k]) := by
    rw [List.getElem?_zip_eq_some]; exact ⟨hu, hx⟩
  have cell : ∀ i, i < 5 → W.cell? ⟨g, k * 5 + i, none⟩ = (saveCells (sv.zip s.saves))[k * 5 + i]? := fun i hi => h.svs.cellAt _ (by omega)
  have get : ∀ (l : List (Value × Wp)) (k i : Nat) (p : Value × Wp), l[k]? = some p → i < 5 → (saveCells l)[k * 5 + i]? = [p.1, .int .i64 p.2.next, .int .i64 p.2.fall, .int .i64 p.2.wide, .int .i64 p.2.high][i]? := by
    intro l
    induction l with
    | nil => intro k i p h; simp at h
    | cons q l ih =>
      intro k i p h hi
      have e : saveCells (q :: l) = [q.1, .int .i64 q.2.next, .int .i64 q.2.fall, .int .i64 q.2.wide, .int .i64 q.2.high] ++ saveCells l := by simp [saveCells]
      rw [e]
      cases k with
      | zero =>
        simp at h
        subst h
        rw [Nat.zero_mul, Nat.zero_add, List.getElem?_append_left (by simpa using hi)]
      | succ k =>
        have e2 : (k + 1) * 5 + i = 5 + (k * 5 + i) := by omega
        rw [e2, List.getElem?_append_right (by simp)]
        simpa using ih k i p (by simpa using h) hi
  refine ⟨g, c, _, _, rfl, hx, h.all k _ _ hu hx, (h.svs.lt g rfl).2, ?_, ?_, ?_, ?_, ?_⟩
  · have e := cell 0 (by omega); rw [get _ k 0 _ hz (by omega)] at e; exact e
  · have e := cell 1 (by omega); rw [get _ k 1 _ hz (by omega)] at e; exact e
  · have e := cell 2 (by omega); rw [get _ k 2 _ hz (by omega)] at e; exact e
  · have e := cell 3 (by omega); rw [get _ k 3 _ hz (by omega)] at e; exact e
  · have e := cell 4 (by omega); rw [get _ k 4 _ hz (by omega)] at e; exact e
attribute [local go_sem ↓] Go.wp_at_zero Go.wp_at_succ
set_option maxHeartbeats 4000000 in
set_option maxRecDepth 100000 in
theorem gload_any {F : Nat → Prop} {b : Nat} {s : Gp} {w : World} (hG : Gam w F b s) (hg : GoodG s) (n : Int) :
    Calls Tryz.prog 39 #[.pointer (some ⟨b, 0, none⟩), .int .i64 n] w
      (Post w F b { s with now := (loadW s n).1 } (loadW s n).2.code (loadW s n).2.n) := by
  have HGM := St.hid hG
  have hRPW := St.hid (Rp.rowIs4 w 0 0 (.slice none 0 0) (.slice none 0 0) 31)
  have HBW := St.hid (bal (Below.refl _ w) (.cells #[.int .i64 0, .int .i64 0, .slice none 0 0, .slice none 0 0] 31))
  obtain ⟨v, vs, sv, Fs, hG⟩ := hG
  have hbz := hG.lt b hG.own
  have HG := St.hid hG
  have hfew := hg.few
  obtain ⟨asv, csv, rfl, -⟩ := Sw.owns_slice hG.svs
  obtain ⟨x0, x1, x2, x3, x4, x5, x6⟩ := gcells hG.row
  clear hG hg
  by_cases h0 : n < 0
  · have e : loadW s n = (s.now, no 3) := by unfold loadW; rw [if_neg (by omega)]
    rw [e]
    go_enter Tryz.func39, Tryz.ntmps39
    go_wp2_with fail
    refine (refused_any 3 _).mono ?_
    rintro e w2 ⟨rfl, hb2⟩
    have hRP2 := St.hid (rowIs_below hRPW.out hb2)
    have HB2 := St.hid (bcall HBW.out hb2)
    clear hb2
    obtain ⟨p0, p1, p2, p3⟩ := Rp.rcells hRP2.out
    have p4 := hRP2.out.frozen 0
    have p5 := hRP2.out.frozen 1
    have p6 := hRP2.out.frozen 2
    have p7 := hRP2.out.frozen 3
    go_wp2_with fail
    obtain ⟨q0, q1, q2, q3⟩ := four (put4 hRP2.out (.int .i64 3) (.int .i64 0) (.slice none 0 0) (.slice none 0 0))
    exact bodyPost_ret (v := .agg #[.int .i64 3, .int .i64 0, .slice none 0 0, .slice none 0 0]) (by simp [results, Tryz.results39, go_sem, q0, q1, q2, q3]) rfl (post_same HGM.out HB2.out (by omega) _ _ _ _)
  · by_cases h1 : n < s.saves.length
    · obtain ⟨k, rfl⟩ : ∃ k : Nat, n = k := ⟨n.toNat, by omega⟩
      have hk : k < s.saves.length := by omega
      obtain ⟨g, cg, u, x, hvs, hx, hsto, hgl, y0, y1, y2, y3, y4⟩ := HG.out.save_at hk
      have e : loadW s k = (x, no 0) := by
        unfold loadW
        rw [if_pos (by omega)]
        simp [List.getD_eq_getElem?_getD, hx]
      rw [e]
      obtain ⟨rfl, -, rfl⟩ : asv = some ⟨g, 0, none⟩ ∧ True ∧ csv = cg := by
        injection hvs with h1 h2 h3
        exact ⟨h1, trivial, h3⟩
      obtain ⟨au, nu, cu, rfl⟩ := hsto.one
      have HST := St.hid hsto
      obtain ⟨m, hm⟩ : ∃ m, m = s.saves.length := ⟨_, rfl⟩
      rw [← hm] at x5 hfew h1 hk
      clear hsto e hvs hx hm
      go_enter Tryz.func39, Tryz.ntmps39
      go_wp2_with fail
      refine (copied_any x.next x.fall x.wide x.high (HST.out.below HBW.out)).mono ?_
      rintro e w1 ⟨⟨a1, n1, c1, rfl, F1, hs1, hF1⟩, hb1⟩
      have hrp := St.hid (rowIs_below hRPW.out hb1)
      have HB1 := St.hid (bcall HBW.out hb1)
      have HGR := St.hid (HG.out.below HB1.out)
      have HS1 := St.hid hs1
      have HF1 : Hid (∀ z, F1 z → w.heap.size + 1 ≤ z) := St.hid (fun z hz => by have := hF1 z hz; simpa using this)
      have hz1 := hb1.size
      simp at hz1
      clear hb1 hs1 hF1 x0 x1 x2 x3 x4 x5 x6 y0 y1 y2 y3 y4
      obtain ⟨g0, g1, g2, g3, g4, g5, g6⟩ := gfrozen HGR.out.row
      obtain ⟨x0, x1, x2, x3, x4, -, -⟩ := gcells HGR.out.row
      obtain ⟨p0, p1, p2, p3⟩ := Rp.rcells hrp.out
      have p4 := hrp.out.frozen 0
      have p5 := hrp.out.frozen 1
      have p6 := hrp.out.frozen 2
      have p7 := hrp.out.frozen 3
      have hbw : b < w1.heap.size := by omega
      have hbn : ¬ (b = w.heap.size) := by omega
      have hbn' : ¬ (w.heap.size = b) := by omega
      have hwz : w.heap.size < w1.heap.size := by omega
      go_wp2_with fail
      have HG5 := St.hid (grown5 w1 b (.slice a1 n1 c1) x.next x.fall x.wide x.high)
      have hrp2 := St.hid (rowIs_grown hrp.out HG5.out (by simp; omega))
      obtain ⟨q0, q1, q2, q3⟩ := four (put4 hrp2.out (.int .i64 0) (.int .i64 0) (.slice none 0 0) (.slice none 0 0))
      refine bodyPost_ret (v := .agg #[.int .i64 0, .int .i64 0, .slice none 0 0, .slice none 0 0]) (by simp [results, Tryz.results39, go_sem, q0, q1, q2, q3]) rfl ⟨rfl, ⟨fun z => F z ∨ F1 z, ?_, fun z hz => ?_⟩, ?_⟩
      · refine Gam.grown (HGR.out.setW HS1.out (fun z hz => ?_) x.next x.fall x.wide x.high) (grown4 _ w.heap.size _ _ _ _) (fun hc => ?_)
        · exact Or.inr (fun hc => by have := HG.out.lt z hc; have := HF1.out z hz; omega)
        · rcases hc with h | h
          · have := HG.out.lt _ h; omega
          · have := HF1.out _ h; omega
      · rcases hz with h | h
        · exact Or.inl h
        · exact Or.inr (by have := HF1.out z h; omega)
      · exact kept_grown ((Kept.below HB1.out).grown HG5.out (fun z e => Or.inl (by cases e; exact HG.out.own))) (grown4 _ w.heap.size _ _ _ _) (Nat.le_refl _)
    · have e : loadW s n = (s.now, no 3) := by unfold loadW; rw [if_neg (by omega)]
      rw [e]
      obtain ⟨m, hm⟩ : ∃ m, m = s.saves.length := ⟨_, rfl⟩
      rw [← hm] at x5 hfew h1
      clear e hm
      go_enter Tryz.func39, Tryz.ntmps39
      go_wp2_with fail
      refine (refused_any 3 _).mono ?_
      rintro e w2 ⟨rfl, hb2⟩
      have hRP2 := St.hid (rowIs_below hRPW.out hb2)
      have HB2 := St.hid (bcall HBW.out hb2)
      clear hb2
      obtain ⟨p0, p1, p2, p3⟩ := Rp.rcells hRP2.out
      have p4 := hRP2.out.frozen 0
      have p5 := hRP2.out.frozen 1
      have p6 := hRP2.out.frozen 2
      have p7 := hRP2.out.frozen 3
      go_wp2_with fail
      obtain ⟨q0, q1, q2, q3⟩ := four (put4 hRP2.out (.int .i64 3) (.int .i64 0) (.slice none 0 0) (.slice none 0 0))
      exact bodyPost_ret (v := .agg #[.int .i64 3, .int .i64 0, .slice none 0 0, .slice none 0 0]) (by simp [results, Tryz.results39, go_sem, q0, q1, q2, q3]) rfl (post_same HGM.out HB2.out (by omega) _ _ _ _)
end Go.Proofs.YtckkkdldljhehacGreat.Gm
