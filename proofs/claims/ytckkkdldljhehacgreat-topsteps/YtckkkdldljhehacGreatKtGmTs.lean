/- What TopSteps of package ninepinstop answers when called: true; nothing that was in memory before has changed. -/
import Derived.Test.YtckkkdldljhehacGreatKtGmAd
import Derived.Maps.AppendAt
import Derived.Laws.AppendOwnNone
import Derived.Deep.RegionHeld3
import Derived.Deep.DeepFit
import Derived.Deep.DeepCutAuto
namespace Go.Proofs.YtckkkdldljhehacGreat.Gm
open Go.Proofs.YtckkkdldljhehacGreat.Num Go.Proofs.YtckkkdldljhehacGreat.St Go.Proofs.YtckkkdldljhehacGreat.Wd
open Go.ChangeShapes Go.WideShapes Go.ChangeAt Go.RowKit

theorem mod_in (n m : Int) (hm : 1 ≤ m ∧ m ≤ 1048576) : 0 ≤ (wrap64 (n.tmod m + m)).tmod m ∧ (wrap64 (n.tmod m + m)).tmod m < m := by
  have h1 := Int.tmod_lt_of_pos n (show 0 < m by omega)
  have h2 := Int.lt_tmod_of_pos n (show 0 < m by omega)
  have e : wrap64 (n.tmod m + m) = n.tmod m + m := by unfold wrap64; omega
  rw [e]
  exact ⟨Int.tmod_nonneg _ (by omega), Int.tmod_lt_of_pos _ (by omega)⟩
theorem ne_new {v : Value} {n : Nat} {W : World} {o : Obj} (h : v.ownBlock = (Value.slice none 0 0).ownBlock ∨ v.ownBlock = some (W.alloc o).heap.size) (hn : n = W.heap.size := by rfl) : v.ownBlock ≠ some n := fun e => by
  rcases h with h | h
  · rw [h] at e; cases e
  · rw [h, World.size_alloc] at e
    have e' := Option.some.inj e
    omega
theorem ne_mid {v u : Value} {W : World} {o : Obj} (h : v.ownBlock = u.ownBlock ∨ v.ownBlock = some (W.alloc o).heap.size) (hu : u.ownBlock ≠ some W.heap.size) : v.ownBlock ≠ some W.heap.size := fun e => by
  rcases h with h | h
  · rw [h] at e; exact hu e
  · rw [h, World.size_alloc] at e
    have e' := Option.some.inj e
    omega
theorem ne_old {v u : Value} {n : Nat} {W : World} (h : v.ownBlock = u.ownBlock ∨ v.ownBlock = some W.heap.size) (hu : u.ownBlock ≠ some n) (hn : n < W.heap.size) : v.ownBlock ≠ some n := fun e => by
  rcases h with h | h
  · rw [h] at e; exact hu e
  · rw [h] at e
    have e' := Option.some.inj e
    omega
theorem box_done {W0 w8 : World} {q B NL c2 : Nat} {a2 : Option Addr} {f : Nat → Value} {xs : List Value} (hz : w8.rowIs q 31 4 f) (ho : w8.ownsRow B 54 2 (.slice a2 NL c2) NL xs) (hne : (Value.slice a2 NL c2).ownBlock ≠ some q) (hb : Below W0.heap.size W0 w8) (hq : W0.heap.size ≤ q) :
    ((((w8.setCell ⟨q, 0, none⟩ (.int .i64 0)).setCell ⟨q, 1, none⟩ (.int .i64 NL)).setCell ⟨q, 2, none⟩ (.slice none 0 0)).setCell ⟨q, 3, none⟩ (.slice a2 NL c2)).rowIs q 31 4 (Rp.rcell 0 NL (.slice none 0 0) (.slice a2 NL c2)) ∧
    ((((w8.setCell ⟨q, 0, none⟩ (.int .i64 0)).setCell ⟨q, 1, none⟩ (.int .i64 NL)).setCell ⟨q, 2, none⟩ (.slice none 0 0)).setCell ⟨q, 3, none⟩ (.slice a2 NL c2)).ownsRow B 54 2 (.slice a2 NL c2) NL xs ∧
    Below W0.heap.size W0 ((((w8.setCell ⟨q, 0, none⟩ (.int .i64 0)).setCell ⟨q, 1, none⟩ (.int .i64 NL)).setCell ⟨q, 2, none⟩ (.slice none 0 0)).setCell ⟨q, 3, none⟩ (.slice a2 NL c2)) := by
  refine ⟨((((hz.set 0 _).set 1 _).set 2 _).set 3 _).congr (fun i hi => ?_), owns_set (owns_set (owns_set (owns_set ho hne _ _) hne _ _) hne _ _) hne _ _, (((hb.setCell hq _).setCell hq _).setCell hq _).setCell hq _⟩
  match i, hi with
  | 0, _ => rfl
  | 1, _ => rfl
  | 2, _ => rfl
  | 3, _ => rfl
theorem below_size {a b : World} (h : Below a.heap.size a b) : a.heap.size ≤ b.heap.size := h.size
theorem step_app_pairs {ops : Array Oper} {o : Oper} {a : Act} {w : World} {K : Act → World → Prop} {Q : Exit → Act → World → Prop} {E : Prop} (hgd : o.guard = none) (s x : Operand) (ho : o.op = .call { callee := .builtin .append, args := #[s, x], argTypes := #[29, 29] })
    (B B' : Nat) (v u : Value) (xs ys : List (Int × Int)) (hs : a.eval s = v) (hx : a.eval x = u) (hown : w.ownsRow B 54 2 v xs.length (xs.flatMap Sw.pairCells)) (hu : w.ownsRow B' 54 2 u ys.length (ys.flatMap Sw.pairCells)) (h1 : xs.length ≤ 800) (h2 : ys.length ≤ 800) (hB : B ≤ w.heap.size)
    (h : ∀ v' w', w'.ownsRow B 54 2 v' (xs ++ ys).length ((xs ++ ys).flatMap Sw.pairCells) → w.grownBy w' v.ownBlock → (v'.ownBlock = v.ownBlock ∨ v'.ownBlock = some w.heap.size) → K (a.put o.dst v') w') : if Region.wanted o (yielded ops a.tmps) = true then Oper.wp Tryz.prog o a w K Q else E := by
  rw [if_pos (by simp [Region.wanted, hgd])]
  obtain ⟨i79, hi79, hz79, hs79, hb79⟩ := info_parts Sw.info79
  rcases hu.2 with ⟨rfl, h0⟩ | ⟨g, c, cur, rfl, _⟩
  · have hys : ys = [] := List.length_eq_zero_iff.1 h0
    subst hys
    have hrun := run_append_owned_none (P := Tryz.prog) (w := w) B 29 o.type 54 i79 2 Tryz.underlying29 hi79 v _ _ hown
    unfold Oper.wp
    simp [execOp, ho, resolve, invoke, builtin, hs, hx, hrun, Result.andThen]
    exact h v w (by rw [List.append_nil]; exact hown) ⟨rfl, rfl, rfl, Nat.le_refl _, fun _ _ _ => rfl⟩ (Or.inl rfl)
  · refine wp_append_at w s x 29 ho B 54 i79 (.agg #[.int .i64 0, .int .i64 0]) 2 16 Tryz.underlying29 hi79 hz79 hs79 hb79 rfl (by decide) v _ _ hs hown ⟨g, 0, none⟩ ys.length c (ys.flatMap Sw.pairCells) hx ?_ (hu.cells rfl) ?_ (by unfold maxLen; omega) (by omega) hB ?_
    · exact hu.1
    · intro q hq; simp [Sw.pairCells] at hq; obtain ⟨_, _, _, rfl | rfl⟩ := hq <;> rfl
    · intro v' w' h3 h4 h5
      exact h v' w' (by rw [List.length_append, List.flatMap_append]; exact h3) h4 h5
set_option maxHeartbeats 8000000 in
set_option maxRecDepth 100000 in
theorem topSteps_any (size fall : Int) (al : Option Addr) (n cap : Nat) (l : List Ac) (n3 k4 : Int) (w : World) (hl : ActL w al l) (hn : n = l.length) (hz : n * 136 ≤ 140737488355328) :
    Calls Tryz.prog 3 #[.int .i64 size, .int .i64 fall, .slice al n cap, .int .i64 n3, .int .i64 k4] w fun e w' => e = .returned (.bool true) ∧ Below w.heap.size w w' := by
  have HP : Hid (∀ W, Below w.heap.size w W → _) := St.hid (fun W hb => play_from hl hn hz size fall cap (w := W) hb)
  have HG := St.hid (playP_good size fall l)
  have HA : Hid ((playP size fall l).acts ≤ 60) := St.hid (by rw [acts_play]; omega)
  generalize playP size fall l = s at HP HG HA
  clear hl hn
  obtain ⟨N, hN⟩ : ∃ N, N = wrap64 ((wrap64 (n3.tmod 8 + 8)).tmod 8 + 1) := ⟨_, rfl⟩
  have hN8 : 1 ≤ N ∧ N ≤ 8 := by
    have h8 := mod_in n3 8 (by omega)
    rw [hN]
    generalize (wrap64 (n3.tmod 8 + 8)).tmod 8 = x8 at h8 ⊢
    unfold wrap64
    omega
  obtain ⟨K, hK⟩ : ∃ K, K = (wrap64 (k4.tmod N + N)).tmod N := ⟨_, rfl⟩
  have hKN : 0 ≤ K ∧ K < N := by rw [hK]; exact mod_in k4 N (by omega)
  have hN0 : ¬ N = 0 := by omega
  have hN1 : wrap64 ((wrap64 (n3.tmod 8 + 8)).tmod 8 + 1) = N := hN.symm
  have hK1 : (wrap64 (k4.tmod N + N)).tmod N = K := hK.symm
  clear hN hK
  go_enter Tryz.func3, Tryz.ntmps3
  go_wp2_with fail
  refine (HP.out _ (Below.refl _ _)).mono ?_
  rintro e w1 ⟨b1, F1, rfl, hG1, hF1, hb1⟩
  have HG1 := St.hid hG1
  have HF1 := St.hid hF1
  have HB1 := St.hid hb1
  have hz1 := hb1.size
  clear hG1 hF1 hb1
  go_wp2_with fail
  refine (HP.out _ HB1.out).mono ?_
  rintro e w2 ⟨b2, F2, rfl, hG2, hF2, hb2⟩
  have HG1' := St.hid (HG1.out.below hb2)
  have HF12 : Hid (∀ z, F2 z → ¬ F1 z) := St.hid (fun z h2 h1 => by have := HG1.out.lt h1; have := hF2 z h2; omega)
  have HG2 := St.hid hG2
  have HB2 := St.hid (bcall HB1.out hb2)
  have HF2 : Hid (∀ z, F2 z → w.heap.size ≤ z) := St.hid (fun z hz => by have := hF2 z hz; omega)
  clear hG2 hF2 hb2 HG1 HB1 HP
  by_cases h0 : K = 0
  · subst h0
    go_wp2_with fail
    go_ret
    exact ⟨rfl, HB2.out⟩
  · have b0 : (K == 0) = false := by simpa using h0
    obtain ⟨s1, s2, s3, ma, mb, e1, e2, e3, hnow, g1, g2, g3, la, lb⟩ := steps_story HG.out HA.out (n := N) (k := K) (by omega) (by omega) (by omega)
    have HE2 := St.hid e2
    have HE3 := St.hid e3
    clear e2 e3
    have HNOW := St.hid hnow
    have HGA := St.hid g1
    have HGB := St.hid g2
    have HGC := St.hid g3
    obtain ⟨NA, HNA⟩ : ∃ q, Hid (q = ma.length) := ⟨_, rfl⟩
    obtain ⟨NB, HNB⟩ : ∃ q, Hid (q = mb.length) := ⟨_, rfl⟩
    obtain ⟨mm, HMM⟩ : ∃ q, Hid (q = ma ++ mb) := ⟨_, rfl⟩
    rw [← HMM.out] at e1
    have HE1 := St.hid e1
    clear e1
    obtain ⟨NL, HNL⟩ : ∃ q, Hid (q = mm.length) := ⟨_, rfl⟩
    have HSUM : Hid (NL = NA + NB) := St.hid (by rw [HNL.out, HNA.out, HNB.out, HMM.out, List.length_append])
    clear hnow g1 g2 g3
    go_wp2_with fail
    have hd := do_from HG1'.out HG.out HB2.out HF1.out (stepA N)
    rw [HE1.out] at hd
    refine Calls.mono hd ?_
    clear hd
    rintro e w3 ⟨ai, ci, am, cm, F3, rfl, ⟨-, hm3⟩, hG3, hF3, hF3w, hn3, hk3, hb3⟩
    simp only [List.length_nil] at hm3 hn3 ⊢
    rw [← HNL.out] at hm3 hn3 ⊢
    have HP3 := St.hid (Rp.PairsR.own hm3 HNL.out)
    have HM3 := St.hid hm3
    have HG3 : Hid (Gam w3 F3 b1 s1) := St.hid hG3
    have HH3 := St.hid (HG2.out.kept hk3 HF12.out)
    have HF23 : Hid (∀ z, F3 z → ¬ F2 z) := St.hid (fun z h3 h2 => (hF3 z h3).elim (fun h => HF12.out z h2 h) (fun h => by have := HG2.out.lt h2; omega))
    have HMN3 : Hid (∀ z, (Value.slice am NL cm).ownBlock = some z → ¬ F2 z) := St.hid (fun z hz h2 => by have := (hm3.lt z hz).1; have := HG2.out.lt h2; omega)
    have HB3 := St.hid hb3
    have hlt2 : ∀ z, F2 z → z < w3.heap.size := fun z hz => by have := HG2.out.lt hz; have := hk3.size; omega
    clear hm3 hG3 hF3 hF3w hn3 hk3 hb3 HG1' HG2 HB2 HF12
    have HB3a := St.hid (bal HB3.out (.cells #[.int .i64 0, .int .i64 NL, .slice ai 0 ci, .slice am NL cm] 31))
    have HG3a := St.hid (HG3.out.below (bal (Below.refl _ _) (.cells #[.int .i64 0, .int .i64 NL, .slice ai 0 ci, .slice am NL cm] 31)))
    have HH3a := St.hid (HH3.out.below (bal (Below.refl _ _) (.cells #[.int .i64 0, .int .i64 NL, .slice ai 0 ci, .slice am NL cm] 31)))
    have HM3a := St.hid (owns_below HM3.out (bal (Below.refl _ _) (.cells #[.int .i64 0, .int .i64 NL, .slice ai 0 ci, .slice am NL cm] 31)))
    have HR3 := St.hid (Rp.rowIs4 w3 0 NL (.slice ai 0 ci) (.slice am NL cm) 31)
    have HNR : Hid (¬ F2 w3.heap.size) := St.hid (fun hc => by have := hlt2 _ hc; omega)
    go_wp2_with fail
    generalize hrb : w3.heap.size = rb at HR3 HNR hlt2 ⊢
    generalize w3.alloc (.cells #[.int .i64 0, .int .i64 NL, .slice ai 0 ci, .slice am NL cm] 31) = W3 at HB3a HG3a HH3a HM3a HR3 ⊢
    have hd := do_from HH3a.out HG.out HB3a.out HF2.out (stepA K)
    rw [HE2.out] at hd
    refine Calls.mono hd ?_
    clear hd
    rintro e w4 ⟨ai4, ci4, am4, cm4, F4, rfl, ⟨-, hm4⟩, hG4, hF4, hF4w, hn4, hk4, hb4⟩
    simp only [List.length_nil] at hm4 hn4 ⊢
    rw [← HNA.out] at hm4 hn4 ⊢
    have HM4 := St.hid hm4
    have HMN4 : Hid (∀ z, (Value.slice am4 NA cm4).ownBlock = some z → ¬ F4 z) := St.hid (fun z hz => hn4 z (Or.inr hz))
    have HH4 : Hid (Gam w4 F4 b2 s2) := St.hid hG4
    have HG4 := St.hid (HG3a.out.kept hk4 HF23.out)
    have HM4a := St.hid (owns_kept' HM3a.out hk4 HMN3.out)
    have HR4 := St.hid (rowIs_kept HR3.out hk4 HNR.out)
    have HF4 := St.hid hF4w
    have HF34 : Hid (∀ z, F3 z → ¬ F4 z) := St.hid (fun z h3 h4 => (hF4 z h4).elim (fun h => HF23.out z h3 h) (fun h => by have := HG3a.out.lt h3; omega))
    have HMN4a : Hid (∀ z, (Value.slice am NL cm).ownBlock = some z → ¬ F4 z) := St.hid (fun z hz h4 => (hF4 z h4).elim (fun h => HMN3.out z hz h) (fun h => by have := (HM3a.out.lt z hz).2; omega))
    have HNR4 : Hid (¬ F4 rb) := St.hid (fun h4 => (hF4 rb h4).elim (fun h => HNR.out h) (fun h => by have := HR3.out.lt; omega))
    have HB4 := St.hid hb4
    clear hm4 hG4 hF4 hF4w hn4 hk4 hb4 HG3a HH3a HM3a HR3 HB3a HB3 HG3 HH3 HM3 HP3
    have hwk : wrap64 (N - K) = N - K := by unfold wrap64; omega
    go_wp2_with fail
    have hd := do_from HH4.out HGB.out HB4.out HF4.out (stepA (N - K))
    rw [HE3.out] at hd
    refine Calls.mono hd ?_
    clear hd
    rintro e w5 ⟨ai5, ci5, am5, cm5, F5, rfl, ⟨-, hm5⟩, hG5, hF5, -, hn5, hk5, hb5⟩
    simp only [List.length_nil] at hm5 hn5 ⊢
    rw [← HNB.out] at hm5 hn5 ⊢
    have HM5 := St.hid hm5
    have HH5 : Hid (Gam w5 F5 b2 s3) := St.hid hG5
    have HG5 := St.hid (HG4.out.kept hk5 HF34.out)
    have HM5a := St.hid (owns_kept' HM4a.out hk5 HMN4a.out)
    have HM5b := St.hid (owns_kept' HM4.out hk5 HMN4.out)
    have HR5 := St.hid (rowIs_kept HR4.out hk5 HNR4.out)
    have HB5 := St.hid hb5
    clear hm5 hG5 hF5 hn5 hk5 hb5 HH4 HG4 HM4a HM4 HR4 HB4
    go_upto_region 11 with fail
    try rw [hN1]
    try rw [hK1]
    try rw [hwk]
    clear hN1 hK1 hwk
    have HQA := St.hid ((Rp.rowIs4 w5 0 NA (.slice ai4 0 ci4) (.slice am4 NA cm4) 31).alloc (.cells #[.int .i64 0, .int .i64 NB, .slice ai5 0 ci5, .slice am5 NB cm5] 31))
    have HQB := St.hid (Rp.rowIs4 (w5.alloc (.cells #[.int .i64 0, .int .i64 NA, .slice ai4 0 ci4, .slice am4 NA cm4] 31)) 0 NB (.slice ai5 0 ci5) (.slice am5 NB cm5) 31)
    rw [World.size_alloc] at HQB
    have HB00 := St.hid (bal (bal (Below.refl _ w5) (.cells #[.int .i64 0, .int .i64 NA, .slice ai4 0 ci4, .slice am4 NA cm4] 31)) (.cells #[.int .i64 0, .int .i64 NB, .slice ai5 0 ci5, .slice am5 NB cm5] 31))
    have HG6 := St.hid (HG5.out.below HB00.out)
    have HH6 := St.hid (HH5.out.below HB00.out)
    have HM6 := St.hid (owns_below HM5a.out HB00.out)
    have HMA := St.hid (owns_below HM5b.out HB00.out)
    have HMB := St.hid (owns_below HM5.out HB00.out)
    have HR6 := St.hid (rowIs_below HR5.out HB00.out)
    have HB6 := St.hid (bcall HB5.out HB00.out)
    have hqa : w5.heap.size < ((w5.alloc (.cells #[.int .i64 0, .int .i64 NA, .slice ai4 0 ci4, .slice am4 NA cm4] 31)).alloc (.cells #[.int .i64 0, .int .i64 NB, .slice ai5 0 ci5, .slice am5 NB cm5] 31)).heap.size ∧ w5.heap.size + 1 < ((w5.alloc (.cells #[.int .i64 0, .int .i64 NA, .slice ai4 0 ci4, .slice am4 NA cm4] 31)).alloc (.cells #[.int .i64 0, .int .i64 NB, .slice ai5 0 ci5, .slice am5 NB cm5] 31)).heap.size := by simp; omega
    generalize w5.heap.size + 1 = qb at HQB hqa ⊢
    generalize w5.heap.size = qa at HQA hqa HB00 ⊢
    generalize (w5.alloc (.cells #[.int .i64 0, .int .i64 NA, .slice ai4 0 ci4, .slice am4 NA cm4] 31)).alloc (.cells #[.int .i64 0, .int .i64 NB, .slice ai5 0 ci5, .slice am5 NB cm5] 31) = W0 at HQA HQB HG6 HH6 HM6 HMA HMB HR6 HB6 hqa HB00 ⊢
    clear HG5 HH5 HM5 HM5a HM5b HR5 HB5 HB00
    have HRA := HQA
    have HRB := HQB
    have HXA : Hid (∀ W', Below W0.heap.size W0 W' → W'.ownsRow 0 54 2 (.slice am4 NA cm4) ma.length (ma.flatMap Sw.pairCells)) := St.hid (fun W' hb => by
      have := owns_mono (owns_below HMA.out hb) (Nat.zero_le _)
      rw [HNA.out] at this ⊢
      exact this)
    have HXB : Hid (∀ W', Below W0.heap.size W0 W' → W'.ownsRow 0 54 2 (.slice am5 NB cm5) mb.length (mb.flatMap Sw.pairCells)) := St.hid (fun W' hb => by
      have := owns_mono (owns_below HMB.out hb) (Nat.zero_le _)
      rw [HNB.out] at this ⊢
      exact this)
    have HSW : Hid (IntKind.i64.wrap ((NA : Int) + (NB : Int)) = (NL : Int)) := St.hid (by have h1 := HSUM.out; have h2 := HNA.out; have h3 := HNB.out; rw [IntKind.wrap_i64]; omega)
    obtain ⟨x0, x1, x2, x3⟩ := Rp.rcells HRA.out
    obtain ⟨y0, y1, y2, y3⟩ := Rp.rcells HRB.out
    have HSK : Hid (∀ W', Below W0.heap.size W0 W' → W'.cell? ⟨qa, 0, none⟩ = some (.int .i64 0) ∧ W'.cell? ⟨qa, 1, none⟩ = some (.int .i64 NA) ∧ W'.cell? ⟨qa, 2, none⟩ = some (.slice ai4 0 ci4) ∧ W'.cell? ⟨qa, 3, none⟩ = some (.slice am4 NA cm4) ∧ W'.cell? ⟨qb, 0, none⟩ = some (.int .i64 0) ∧ W'.cell? ⟨qb, 1, none⟩ = some (.int .i64 NB) ∧ W'.cell? ⟨qb, 2, none⟩ = some (.slice ai5 0 ci5) ∧ W'.cell? ⟨qb, 3, none⟩ = some (.slice am5 NB cm5)) := St.hid (fun W' hb => by
      obtain ⟨x0, x1, x2, x3⟩ := Rp.rcells (rowIs_below HRA.out hb)
      obtain ⟨y0, y1, y2, y3⟩ := Rp.rcells (rowIs_below HRB.out hb)
      exact ⟨x0, x1, x2, x3, y0, y1, y2, y3⟩)
    go_cut [18] (fun p wx => ∃ q W a2 c2, p = .pointer (some ⟨q, 0, none⟩) ∧ W = wx ∧ W.rowIs q 31 4 (Rp.rcell 0 NL (.slice none 0 0) (.slice a2 NL c2)) ∧ W.ownsRow W0.heap.size 54 2 (.slice a2 NL c2) NL (mm.flatMap Sw.pairCells) ∧ Below W0.heap.size W0 W)
    case first =>
      go_region_held3 (fun W' => W'.cell? ⟨qa, 0, none⟩ = some (.int .i64 0) ∧ W'.cell? ⟨qa, 1, none⟩ = some (.int .i64 NA) ∧ W'.cell? ⟨qa, 2, none⟩ = some (.slice ai4 0 ci4) ∧ W'.cell? ⟨qa, 3, none⟩ = some (.slice am4 NA cm4) ∧ W'.cell? ⟨qb, 0, none⟩ = some (.int .i64 0) ∧ W'.cell? ⟨qb, 1, none⟩ = some (.int .i64 NB) ∧ W'.cell? ⟨qb, 2, none⟩ = some (.slice ai5 0 ci5) ∧ W'.cell? ⟨qb, 3, none⟩ = some (.slice am5 NB cm5)) (exact HSK.out _ (by repeat (first | with_reducible exact Below.refl _ _ | with_reducible exact HB8.out | with_reducible exact HB7.out | with_reducible refine Below.drew ?_ | with_reducible refine bal ?_ _ | with_reducible refine Below.setCell ?_ HQ8.out _)))
        (first | (refine step_app_pairs (w := W0.drew.alloc (.cells #[.int .i64 0, .int .i64 0, .slice none 0 0, .slice none 0 0] 31)) rfl _ _ rfl W0.heap.size 0 _ _ [] ma rfl rfl (World.ownsRow_nil _ _ _ _) (HXA.out _ (by repeat (first | with_reducible exact Below.refl _ _ | with_reducible exact HB7.out | with_reducible refine Below.drew ?_ | with_reducible refine bal ?_ _))) (by simp) (by omega) (below_size (by repeat (first | with_reducible exact Below.refl _ _ | with_reducible exact HB7.out | with_reducible refine Below.drew ?_ | with_reducible refine bal ?_ _))) ?_; intro v1 w7 ho7 hg7 hat7; have HB7 := St.hid (below_grown' (B := W0.heap.size) (w0 := W0) (by repeat (first | with_reducible exact Below.refl _ _ | with_reducible exact HB7.out | with_reducible refine Below.drew ?_ | with_reducible refine bal ?_ _)) hg7 (Nat.le_refl _) (fun z e => by cases e)); have HO7 : Hid (w7.ownsRow W0.heap.size 54 2 v1 ma.length (ma.flatMap Sw.pairCells)) := St.hid ho7; have HZ7 : Hid (w7.rowIs W0.heap.size 31 4 (Rp.rcell 0 0 (.slice none 0 0) (.slice none 0 0))) := St.hid (rowIs_grown (Rp.rowIs4 W0.drew 0 0 (.slice none 0 0) (.slice none 0 0) 31) hg7 (fun e => by cases e)); have HNE7 : Hid (v1.ownBlock ≠ some W0.heap.size) := St.hid (ne_new hat7); clear ho7 hg7 hat7 x0 x1 x2 x3 y0 y1 y2 y3; obtain ⟨x0, x1, x2, x3⟩ := Rp.rcells (rowIs_below HRA.out HB7.out); obtain ⟨y0, y1, y2, y3⟩ := Rp.rcells (rowIs_below HRB.out HB7.out)) | (refine step_app_pairs (w := W0.drew) rfl _ _ rfl W0.heap.size 0 _ _ [] ma rfl rfl (World.ownsRow_nil _ _ _ _) (HXA.out _ (by repeat (first | with_reducible exact Below.refl _ _ | with_reducible exact HB7.out | with_reducible refine Below.drew ?_ | with_reducible refine bal ?_ _))) (by simp) (by omega) (below_size (by repeat (first | with_reducible exact Below.refl _ _ | with_reducible exact HB7.out | with_reducible refine Below.drew ?_ | with_reducible refine bal ?_ _))) ?_; intro v1 w7 ho7 hg7 hat7; have HB7 := St.hid (below_grown' (B := W0.heap.size) (w0 := W0) (by repeat (first | with_reducible exact Below.refl _ _ | with_reducible exact HB7.out | with_reducible refine Below.drew ?_ | with_reducible refine bal ?_ _)) hg7 (Nat.le_refl _) (fun z e => by cases e)); have HO7 : Hid (w7.ownsRow W0.heap.size 54 2 v1 ma.length (ma.flatMap Sw.pairCells)) := St.hid ho7; clear ho7 hg7 hat7 x0 x1 x2 x3 y0 y1 y2 y3; obtain ⟨x0, x1, x2, x3⟩ := Rp.rcells (rowIs_below HRA.out HB7.out); obtain ⟨y0, y1, y2, y3⟩ := Rp.rcells (rowIs_below HRB.out HB7.out)) | (refine step_app_pairs (w := w7.alloc (.cells #[.int .i64 0, .int .i64 0, .slice none 0 0, .slice none 0 0] 31)) rfl _ _ rfl W0.heap.size 0 v1 _ ma mb rfl rfl (owns_below HO7.out (bal (Below.refl _ _) _)) (HXB.out _ (by repeat (first | with_reducible exact Below.refl _ _ | with_reducible exact HB7.out | with_reducible refine Below.drew ?_ | with_reducible refine bal ?_ _))) (by omega) (by omega) (below_size (by repeat (first | with_reducible exact Below.refl _ _ | with_reducible exact HB7.out | with_reducible refine Below.drew ?_ | with_reducible refine bal ?_ _))) ?_; intro v2 w8 ho8 hg8 hat8; have HB8 := St.hid (below_grown' (B := W0.heap.size) (w0 := W0) (by repeat (first | with_reducible exact Below.refl _ _ | with_reducible exact HB7.out | with_reducible refine Below.drew ?_ | with_reducible refine bal ?_ _)) hg8 (Nat.le_refl _) (fun z e => (HO7.out.lt z e).1)); rw [← HMM.out, ← HNL.out] at ho8; obtain ⟨a2, c2, e2, -⟩ := Sw.owns_slice ho8; subst e2; have HO8 := St.hid ho8; have HZ8 : Hid (w8.rowIs w7.heap.size 31 4 (Rp.rcell 0 0 (.slice none 0 0) (.slice none 0 0))) := St.hid (rowIs_grown (Rp.rowIs4 w7 0 0 (.slice none 0 0) (.slice none 0 0) 31) hg8 (fun e => Nat.lt_irrefl _ (HO7.out.lt _ e).2)); have HNE8 : Hid ((Value.slice a2 NL c2).ownBlock ≠ some w7.heap.size) := St.hid (ne_mid hat8 (fun e => Nat.lt_irrefl _ (HO7.out.lt _ e).2)); have HQ8 : Hid (W0.heap.size ≤ w7.heap.size) := St.hid HB7.out.size; clear ho8 hg8 hat8 x0 x1 x2 x3 y0 y1 y2 y3; obtain ⟨x0, x1, x2, x3⟩ := Rp.rcells (rowIs_below HRA.out HB8.out); obtain ⟨y0, y1, y2, y3⟩ := Rp.rcells (rowIs_below HRB.out HB8.out); obtain ⟨z0, z1, z2, z3⟩ := Rp.rcells HZ8.out; have zf0 := HZ8.out.frozen 0; have zf1 := HZ8.out.frozen 1; have zf2 := HZ8.out.frozen 2; have zf3 := HZ8.out.frozen 3) | (have HZQ := HZ7; refine step_app_pairs (w := w7) rfl _ _ rfl W0.heap.size 0 v1 _ ma mb rfl rfl (HO7.out) (HXB.out _ (by repeat (first | with_reducible exact Below.refl _ _ | with_reducible exact HB7.out | with_reducible refine Below.drew ?_ | with_reducible refine bal ?_ _))) (by omega) (by omega) (below_size (by repeat (first | with_reducible exact Below.refl _ _ | with_reducible exact HB7.out | with_reducible refine Below.drew ?_ | with_reducible refine bal ?_ _))) ?_; intro v2 w8 ho8 hg8 hat8; have HB8 := St.hid (below_grown' (B := W0.heap.size) (w0 := W0) (by repeat (first | with_reducible exact Below.refl _ _ | with_reducible exact HB7.out | with_reducible refine Below.drew ?_ | with_reducible refine bal ?_ _)) hg8 (Nat.le_refl _) (fun z e => (HO7.out.lt z e).1)); rw [← HMM.out, ← HNL.out] at ho8; obtain ⟨a2, c2, e2, -⟩ := Sw.owns_slice ho8; subst e2; have HO8 := St.hid ho8; have HZ8 : Hid (w8.rowIs W0.heap.size 31 4 (Rp.rcell 0 0 (.slice none 0 0) (.slice none 0 0))) := St.hid (rowIs_grown HZ7.out hg8 HNE7.out); have HNE8 : Hid ((Value.slice a2 NL c2).ownBlock ≠ some W0.heap.size) := St.hid (ne_old hat8 HNE7.out HZ7.out.lt); have HQ8 : Hid (W0.heap.size ≤ W0.heap.size) := St.hid (Nat.le_refl _); clear ho8 hg8 hat8 x0 x1 x2 x3 y0 y1 y2 y3; obtain ⟨x0, x1, x2, x3⟩ := Rp.rcells (rowIs_below HRA.out HB8.out); obtain ⟨y0, y1, y2, y3⟩ := Rp.rcells (rowIs_below HRB.out HB8.out); obtain ⟨z0, z1, z2, z3⟩ := Rp.rcells HZ8.out; have zf0 := HZ8.out.frozen 0; have zf1 := HZ8.out.frozen 1; have zf2 := HZ8.out.frozen 2; have zf3 := HZ8.out.frozen 3) | (refine step_app_pairs (w := w7) rfl _ _ rfl W0.heap.size 0 v1 _ ma mb rfl rfl (HO7.out) (HXB.out _ (by repeat (first | with_reducible exact Below.refl _ _ | with_reducible exact HB7.out | with_reducible refine Below.drew ?_ | with_reducible refine bal ?_ _))) (by omega) (by omega) (below_size (by repeat (first | with_reducible exact Below.refl _ _ | with_reducible exact HB7.out | with_reducible refine Below.drew ?_ | with_reducible refine bal ?_ _))) ?_; intro v2 w8 ho8 hg8 hat8; have HB8 := St.hid (below_grown' (B := W0.heap.size) (w0 := W0) (by repeat (first | with_reducible exact Below.refl _ _ | with_reducible exact HB7.out | with_reducible refine Below.drew ?_ | with_reducible refine bal ?_ _)) hg8 (Nat.le_refl _) (fun z e => (HO7.out.lt z e).1)); rw [← HMM.out, ← HNL.out] at ho8; obtain ⟨a2, c2, e2, -⟩ := Sw.owns_slice ho8; subst e2; have HO8 := St.hid ho8; clear ho8 hg8 hat8 x0 x1 x2 x3 y0 y1 y2 y3; obtain ⟨x0, x1, x2, x3⟩ := Rp.rcells (rowIs_below HRA.out HB8.out); obtain ⟨y0, y1, y2, y3⟩ := Rp.rcells (rowIs_below HRB.out HB8.out)))
      all_goals
        go_wp2_with fail
        go_meet
        rw [HSW.out]
        first
        | (have HZQ := HZ8; obtain ⟨h1, h2, h3⟩ := box_done HZ8.out HO8.out HNE8.out HB8.out HQ8.out; exact ⟨_, _, a2, c2, rfl, rfl, h1, h2, h3⟩)
        | exact ⟨_, _, a2, c2, rfl, rfl, Rp.rowIs4 w8 0 NL _ _ 31, owns_below HO8.out (bal (Below.refl _ _) _), bal HB8.out _⟩
    case rest =>
    obtain ⟨q18, W7, a7, c7, rfl, rfl, hr7, ho7, hb7⟩ := hcut
    have HR7 := St.hid hr7
    have HP7 := St.hid (Rp.PairsR.own ho7 HNL.out)
    have HP7a := St.hid (Rp.PairsR.own (owns_below HM6.out hb7) HNL.out)
    have HR7a := St.hid (rowIs_below HR6.out hb7)
    have HG7 := St.hid (HG6.out.below hb7)
    have HH7 := St.hid (HH6.out.below hb7)
    have HB7 := St.hid (bcall HB6.out hb7)
    clear hr7 ho7 hb7 x0 x1 x2 x3 y0 y1 y2 y3 HRA HRB HQA HQB HXA HXB HM6 HMA HMB HR6 HG6 HH6 HB6
    obtain ⟨x0, x1, x2, x3⟩ := Rp.rcells HR7a.out
    obtain ⟨y0, y1, y2, y3⟩ := Rp.rcells HR7.out
    have hrl := HR7a.out.lt
    have hrl2 := HR7.out.lt
    have HSR : Hid (Calls Tryz.prog 15 #[.agg #[.int .i64 0, .int .i64 NL, .slice ai 0 ci, .slice am NL cm], .agg #[.int .i64 0, .int .i64 NL, .slice none 0 0, .slice a7 NL c7]] W7 fun e w' => e = .returned (.bool true) ∧ Below W7.heap.size W7 w') := St.hid (by
      refine (Rp.tsameReply_any 0 NL 0 NL (.slice ai 0 ci) (.slice am NL cm) (.slice none 0 0) (.slice a7 NL c7) [] [] mm mm W7 (Rp.ints_nil _ _ _) HP7a.out (Rp.ints_nil _ _ _) HP7.out (by simp) (by have h1 := HNL.out; have h2 := HSUM.out; have h3 := HNA.out; have h4 := HNB.out; omega)).mono ?_
      rintro e w' ⟨rfl, hb⟩
      exact ⟨by simp, hb⟩)
    go_wp2_with fail
    refine HSR.out.mono ?_
    rintro e w8 ⟨rfl, hb8⟩
    have HG8 := St.hid (HG7.out.below hb8)
    have HH8 := St.hid (HH7.out.below hb8)
    have HB8 := St.hid (bcall HB7.out hb8)
    clear hb8 HG7 HH7 HB7 x0 x1 x2 x3 y0 y1 y2 y3
    go_wp2_with fail
    refine (world_any HG8.out).mono ?_
    rintro e w9 ⟨⟨a9, n9, c9, rfl, F9, hs9, -⟩, hb9⟩
    have HS9 := St.hid hs9
    have HH9 := St.hid (HH8.out.below hb9)
    have HB9 := St.hid (bcall HB8.out hb9)
    clear hs9 hb9 HG8 HH8 HB8
    go_wp2_with fail
    refine (world_any HH9.out).mono ?_
    rintro e w10 ⟨⟨a10, n10, c10, rfl, F10, hs10, -⟩, hb10⟩
    rw [HNOW.out] at hs10
    simp only [HNOW.out]
    have HS10 := St.hid hs10
    have HS9' := St.hid (HS9.out.below hb10)
    have HB10 := St.hid (bcall HB9.out hb10)
    clear hs10 hb10 HH9 HB9 HS9
    go_wp2_with fail
    refine (same_now HGA.out.now HS9'.out HS10.out).mono ?_
    rintro e w11 ⟨rfl, hb11⟩
    have HB11 := St.hid (bcall HB10.out hb11)
    clear hb11
    go_wp2_with fail
    go_ret
    exact ⟨rfl, HB11.out⟩
end Go.Proofs.YtckkkdldljhehacGreat.Gm
