/- What has, onePart, copied, become of package game, and World of a game in memory, answer when called; all blocks but the game's are as they were. -/
import Derived.Test.YtckkkdldljhehacGreatKtGmA
import Derived.Deep.RegionHeld3
import Derived.Deep.DeepFit
import Derived.Deep.DeepCutAuto
namespace Go.Proofs.YtckkkdldljhehacGreat.Gm
open Go.Proofs.YtckkkdldljhehacGreat.Num Go.Proofs.YtckkkdldljhehacGreat.St Go.Proofs.YtckkkdldljhehacGreat.Wd
open Go.ChangeShapes Go.WideShapes Go.ChangeAt Go.RowKit

theorem ghas_any (n a : Int) (w : World) : Calls Tryz.prog 64 #[.int .i64 n, .int .i64 a] w fun e w' => e = .returned (.bool (hasB n a)) ∧ w' = w := by
  go_enter Tryz.func64, Tryz.ntmps64
  go_wp2
  go_ret
  exact ⟨St.ret_bool rfl, rfl⟩
theorem onePart_any (m : Int) (w : World) : Calls Tryz.prog 63 #[.int .i64 m] w fun e w' => e = .returned (.bool (oneB m)) ∧ w' = w := by
  by_cases h1 : 0 < m
  · by_cases h2 : m ≤ 31
    · go_enter Tryz.func63, Tryz.ntmps63
      go_wp2
      go_ret
      refine ⟨St.ret_bool ?_, rfl⟩
      unfold oneB
      have e : wrap64 (m - 1) = m - 1 := by unfold wrap64; omega
      simp [h1, h2, e]
    · go_enter Tryz.func63, Tryz.ntmps63
      go_wp2
      go_ret
      exact ⟨St.ret_bool (by unfold oneB; simp; intros; omega), rfl⟩
  · go_enter Tryz.func63, Tryz.ntmps63
    go_wp2
    go_ret
    exact ⟨St.ret_bool (by unfold oneB; simp; intros; omega), rfl⟩
set_option maxHeartbeats 1000000 in
set_option maxRecDepth 100000 in
/-- copied: the same world, its tables in memory of their own. -/
theorem copied_any {F : Nat → Prop} {v : Value} {L : List Tab} {w : World} (next fall wide high : Int) (h : Sto w F v L) :
    Calls Tryz.prog 42 #[.agg #[v, .int .i64 next, .int .i64 fall, .int .i64 wide, .int .i64 high]] w fun e w' =>
      (∃ a n c, e = .returned (.agg #[.slice a n c, .int .i64 next, .int .i64 fall, .int .i64 wide, .int .i64 high]) ∧ ∃ F', Sto w' F' (.slice a n c) L ∧ ∀ b, F' b → w.heap.size ≤ b) ∧ Below w.heap.size w w' := by
  obtain ⟨a, n, cap, rfl⟩ := h.one
  have HST := St.hid h
  clear h
  go_enter Tryz.func42, Tryz.ntmps42
  go_wp2_with fail
  have hW0 := St.hid ((rowIs5 w (.slice a n cap) next fall wide high 45).alloc (.cells #[.slice none 0 0, .int .i64 0, .int .i64 0, .int .i64 0, .int .i64 0] 45))
  have hR0 := St.hid (rowIs5 (w.alloc (.cells #[.slice a n cap, .int .i64 next, .int .i64 fall, .int .i64 wide, .int .i64 high] 45)) (.slice none 0 0) 0 0 0 0 45)
  rw [World.size_alloc] at hR0
  refine ((HST.out.below (bal (bal (Below.refl _ _) _) _)).clone next).mono ?_
  rintro e w1 ⟨⟨a1, n1, c1, rfl, F1, hs1, hF1⟩, hb1⟩
  have hW1 := St.hid (rowIs_below hW0.out hb1)
  have hR1 := St.hid (rowIs_below hR0.out hb1)
  have HB1 := St.hid (bcall (bal (bal (Below.refl _ w) _) _) hb1)
  have HF1 : Hid (∀ b, F1 b → w.heap.size + 1 + 1 ≤ b) := St.hid (fun b hb => by have := hF1 b hb; simpa using this)
  have HS1 := St.hid hs1
  have hz1 := hb1.size
  simp at hz1
  clear hb1 hs1 hF1 hW0 hR0
  obtain ⟨x0, x1, x2, x3, x4, xf0, xf1, xf2, xf3, xf4⟩ := wcells hW1.out
  obtain ⟨y0, y1, y2, y3, y4, yf0, yf1, yf2, yf3, yf4⟩ := wcells hR1.out
  go_wp2_with fail
  refine bodyPost_ret (v := .agg #[.slice a1 n1 c1, .int .i64 next, .int .i64 fall, .int .i64 wide, .int .i64 high]) (by simp [results, Tryz.results42, go_sem, y0, y1, y2, y3, y4]) rfl ⟨⟨a1, n1, c1, rfl, F1, ?_, fun b hb => by have := HF1.out b hb; omega⟩, ?_⟩
  · have hno : ¬ F1 w.heap.size := fun hc => by have := HF1.out _ hc; omega
    have hno1 : ¬ F1 (w.heap.size + 1) := fun hc => by have := HF1.out _ hc; omega
    exact (((((((HS1.out.setCell hno _ _).setCell hno _ _).setCell hno1 _ _).setCell hno1 _ _).setCell hno1 _ _).setCell hno1 _ _).setCell hno1 _ _)
  · iterate 5 refine Below.setCell ?_ (by simp) _
    iterate 2 refine Below.setCell ?_ (by simp) _
    exact HB1.out
/-- Four cells of a reply written. -/
theorem grown4 (W : World) (b : Nat) (c n u m : Value) : W.grownBy ((((W.setCell ⟨b, 0, none⟩ c).setCell ⟨b, 1, none⟩ n).setCell ⟨b, 2, none⟩ u).setCell ⟨b, 3, none⟩ m) (some b) :=
  (((grown_set W b _ _).trans (grown_set _ b _ _)).trans (grown_set _ b _ _)).trans (grown_set _ b _ _)
theorem Gam.grown {W W' : World} {F : Nat → Prop} {b : Nat} {s : Gp} (h : Gam W F b s) {g : Nat} (hg : W.grownBy W' (some g)) (hn : ¬ F g) : Gam W' F b s :=
  h.kept (G := fun z => z = g) ⟨hg.os, hg.tape, hg.output, hg.size, fun k hk hne => hg.block k hk (fun e => hne (by cases e; rfl))⟩ (fun z hz e => hn (e ▸ hz))
theorem kept_grown {F : Nat → Prop} {a b c : World} {g : Nat} (h : Kept F a b) (hg : b.grownBy c (some g)) (ho : a.heap.size ≤ g) : Kept F a c := h.grown hg (fun z e => by cases e; exact Or.inr ho)
set_option maxHeartbeats 2000000 in
set_option maxRecDepth 100000 in
theorem become_any {F F2 : Nat → Prop} {b : Nat} {s : Gp} {v vs : Value} {sv : List Value} {Fs : Nat → Prop} {w : World} (hG : GamP w F b s v vs sv Fs) {a : Option Addr} {n c : Nat} {L : List Tab} (hs : Sto w F2 (.slice a n c) L) (hF2 : ∀ z, F2 z → Fs z ∨ ¬ F z) (next ec : Int) :
    Calls Tryz.prog 32 #[.pointer (some ⟨b, 0, none⟩), .agg #[.slice a n c, .int .i64 next], .int .i64 ec] w fun e w' =>
      e = .returned (.agg #[.int .i64 ec, .int .i64 0, .slice none 0 0, .slice none 0 0]) ∧ (∃ F', Gam w' F' b (if ec = 0 then { s with now := { s.now with L := L, next := next } } else s) ∧ ∀ z, F' z → F z ∨ F2 z) ∧ Kept F w w' := by
  have HG := St.hid hG
  have HS := St.hid hs
  have hbz := hG.lt b hG.own
  clear hG hs
  have hR0 := St.hid (Rp.rowIs4 (w.alloc (.cells #[.slice a n c, .int .i64 next] 43)) 0 0 (.slice none 0 0) (.slice none 0 0) 31)
  rw [World.size_alloc] at hR0
  have HB0 := St.hid (bal (bal (Below.refl _ w) (.cells #[.slice a n c, .int .i64 next] 43)) (.cells #[.int .i64 0, .int .i64 0, .slice none 0 0, .slice none 0 0] 31))
  by_cases he : ec = 0
  · subst he
    go_enter Tryz.func32, Tryz.ntmps32
    obtain ⟨x0, x1, x2, x3, x4, x5, x6⟩ := gcells HG.out.row
    obtain ⟨f0, f1, f2, f3, f4, f5, f6⟩ := gfrozen HG.out.row
    go_wp2_with fail
    have hbne1 : ¬ (w.heap.size + 1 = b) := by omega
    have hbne0 : ¬ (w.heap.size = b) := by omega
    refine bodyPost_ret (v := .agg #[.int .i64 0, .int .i64 0, .slice none 0 0, .slice none 0 0]) (by simp [results, Tryz.results32, go_sem]) rfl ⟨rfl, ?_, ?_⟩
    · exact ⟨fun z => F z ∨ F2 z, (HG.out.setNow HS.out hF2 next).below (bal (bal (Below.refl _ _) _) _), fun z hz => hz⟩
    · exact (((Kept.below (F := F) (Below.refl _ w)).set (Or.inl HG.out.own) _ _).set (Or.inl HG.out.own) _ _).call (bal (bal (Below.refl _ _) _) _)
  · have b1 : (ec != 0) = true := by simpa using he
    go_enter Tryz.func32, Tryz.ntmps32
    go_wp2_with fail
    refine (refused_any ec _).mono ?_
    rintro e w1 ⟨rfl, hb1⟩
    have hR1 := St.hid (rowIs_below hR0.out hb1)
    have HB1 := St.hid (bcall HB0.out hb1)
    have hz1 := hb1.size
    simp at hz1
    clear hb1
    obtain ⟨y0, y1, y2, y3⟩ := Rp.rcells hR1.out
    have g0 := hR1.out.frozen 0
    have g1 := hR1.out.frozen 1
    have g2 := hR1.out.frozen 2
    have g3 := hR1.out.frozen 3
    go_wp2_with fail
    refine bodyPost_ret (v := .agg #[.int .i64 ec, .int .i64 0, .slice none 0 0, .slice none 0 0]) (by simp [results, Tryz.results32, go_sem, y0, y1, y2, y3]) rfl ⟨rfl, ⟨F, ?_, fun z hz => Or.inl hz⟩, ?_⟩
    · exact Gam.grown ⟨_, _, _, _, HG.out.below HB1.out⟩ (grown4 w1 (w.heap.size + 1) _ _ _ _) (fun hc => by have := HG.out.lt _ hc; omega)
    · exact kept_grown (Kept.below HB1.out) (grown4 w1 (w.heap.size + 1) _ _ _ _) (by omega)
set_option maxHeartbeats 1000000 in
set_option maxRecDepth 100000 in
/-- World: the game's world, its tables in memory of their own. -/
theorem world_any {F : Nat → Prop} {b : Nat} {s : Gp} {w : World} (hG : Gam w F b s) :
    Calls Tryz.prog 17 #[.pointer (some ⟨b, 0, none⟩)] w fun e w' =>
      (∃ a n c, e = .returned (.agg #[.slice a n c, .int .i64 s.now.next, .int .i64 s.now.fall, .int .i64 s.now.wide, .int .i64 s.now.high]) ∧ ∃ F', Sto w' F' (.slice a n c) s.now.L ∧ ∀ z, F' z → w.heap.size ≤ z) ∧ Below w.heap.size w w' := by
  obtain ⟨v, vs, sv, Fs, hG⟩ := hG
  have hbz := hG.lt b hG.own
  have HN := St.hid hG.now
  obtain ⟨a, n, c, rfl⟩ := hG.now.one
  obtain ⟨x0, x1, x2, x3, x4, x5, x6⟩ := gcells hG.row
  clear hG
  have hR0 := St.hid (rowIs5 w (.slice none 0 0) 0 0 0 0 45)
  go_enter Tryz.func17, Tryz.ntmps17
  go_wp2_with fail
  refine (copied_any s.now.next s.now.fall s.now.wide s.now.high (HN.out.below (bal (Below.refl _ _) _))).mono ?_
  rintro e w1 ⟨⟨a1, n1, c1, rfl, F1, hs1, hF1⟩, hb1⟩
  have hR1 := St.hid (rowIs_below hR0.out hb1)
  have HB1 := St.hid (bcall (bal (Below.refl _ w) _) hb1)
  have HF1 : Hid (∀ b, F1 b → w.heap.size + 1 ≤ b) := St.hid (fun b hb => by have := hF1 b hb; simpa using this)
  have HS1 := St.hid hs1
  clear hb1 hs1 hF1 hR0
  obtain ⟨y0, y1, y2, y3, y4, yf0, yf1, yf2, yf3, yf4⟩ := wcells hR1.out
  go_wp2_with fail
  refine bodyPost_ret (v := .agg #[.slice a1 n1 c1, .int .i64 s.now.next, .int .i64 s.now.fall, .int .i64 s.now.wide, .int .i64 s.now.high]) (by simp [results, Tryz.results17, go_sem, y0, y1, y2, y3, y4]) rfl ⟨⟨a1, n1, c1, rfl, F1, ?_, fun b hb => by have := HF1.out b hb; omega⟩, ?_⟩
  · exact HS1.out.put5 (b := w.heap.size) (fun hc => by have := HF1.out _ hc; omega) _ _ _ _ _
  · exact below_grown HB1.out (grown5 w1 w.heap.size _ _ _ _ _) HB1.out.size (Nat.le_refl _)
end Go.Proofs.YtckkkdldljhehacGreat.Gm
