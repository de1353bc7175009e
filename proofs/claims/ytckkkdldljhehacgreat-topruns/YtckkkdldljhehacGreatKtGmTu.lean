/- What TopRuns of package ninepinstop answers when called: true; nothing that was in memory before has changed. -/
import Derived.Test.YtckkkdldljhehacGreatKtGmRn
import Derived.Laws.AppendOwnNone
import Derived.Deep.RegionHeld3
import Derived.Deep.DeepFit
namespace Go.Proofs.YtckkkdldljhehacGreat.Gm
open Go.Proofs.YtckkkdldljhehacGreat.Num Go.Proofs.YtckkkdldljhehacGreat.St Go.Proofs.YtckkkdldljhehacGreat.Wd
open Go.ChangeShapes Go.WideShapes Go.ChangeAt Go.RowKit

theorem infoAct : (Tryz.prog.info? 38).map (fun i => (i.zero, i.size, i.bytes)) = some (some (.agg #[.int .i64 0, .int .i64 0, .int .i64 0, .int .i64 0, .int .i64 0, .int .i64 0, .int .i64 0, .int .i64 0, .int .i64 0, .int .i64 0, .int .i64 0, .int .i64 0, .int .i64 0, .int .i64 0, .int .i64 0, .int .i64 0, .int .i64 0]), 17, 136) := by kernel_rfl
theorem one_act (l : List Ac) : ∀ u ∈ l.flatMap actCells, u.oneCell' = true := by
  intro u hu
  obtain ⟨x, _, hx⟩ := List.mem_flatMap.1 hu
  simp [actCells] at hx
  rcases hx with rfl | rfl | rfl | rfl | rfl | rfl | rfl | rfl | rfl | rfl | rfl | rfl | rfl | rfl | rfl | rfl | rfl <;> rfl
theorem ActL.flat {w : World} {a : Option Addr} {l : List Ac} (h : ActL w a l) : ∀ ad, a = some ad → ∀ j u, (l.flatMap actCells)[j]? = some u → w.cell? (ad.add j) = some u := by
  intro ad ha j u hj
  have hlen := Sw.flat_len actCells 17 (fun _ => rfl) l
  have hjl : j < l.length * 17 := by rw [← hlen]; exact (List.getElem?_eq_some_iff.1 hj).1
  obtain ⟨b, off, e, _, hc⟩ := h (by omega)
  rw [e] at ha
  cases ha
  have hd : j / 17 < l.length := by omega
  have hx : l[j / 17]? = some l[j / 17] := List.getElem?_eq_getElem hd
  have e1 := Sw.flat_get actCells 17 (fun _ => rfl) l (j / 17) (j % 17) _ hx (Nat.mod_lt _ (by omega))
  have e2 : j / 17 * 17 + j % 17 = j := by omega
  rw [e2, hj] at e1
  rw [Addr.add_lit, show off + j = off + j / 17 * 17 + j % 17 by omega]
  exact hc _ _ hx (j % 17) u e1.symm
theorem actL_own {W : World} {B n c : Nat} {a : Option Addr} {l : List Ac} (h : W.ownsRow B 38 17 (.slice a n c) n (l.flatMap actCells)) (hn : n = l.length) : ActL W a l := fun hp => by
  obtain ⟨g, cc, e⟩ := own_some h (by omega)
  simp only [Value.slice.injEq] at e
  obtain ⟨rfl, -, rfl⟩ := e
  refine ⟨g, 0, rfl, (h.lt g rfl).2, fun i x hx j u hj => ?_⟩
  have hi := (List.getElem?_eq_some_iff.1 hx).1
  have hj17 : j < 17 := (List.getElem?_eq_some_iff.1 hj).1
  rw [Nat.zero_add, h.cellAt (i * 17 + j) (by omega), Sw.flat_get actCells 17 (fun _ => rfl) l i j x hx hj17, hj]
/-- Acts that are copied: append to nothing. -/
theorem wpList_copy_acts {ops : Array Oper} {rest : List Oper} {o : Oper} {a : Act} {w : World} {Q : Exit → Act → World → Prop} (hgd : o.guard = none) (x : Operand) (ho : o.op = .call { callee := .builtin .append, args := #[.const (.slice none 0 0), x], argTypes := #[22, 22] })
    (al : Option Addr) (m cap : Nat) (l : List Ac) (hx : a.eval x = .slice al m cap) (hm : m = l.length) (hl : ActL w al l) (h0 : al = none → cap = 0) (hz : m * 136 ≤ 140737488355328)
    (h : ∀ a' c' w', ActL w' a' l → Below w.heap.size w w' → wpList Tryz.prog ops Q rest (a.put o.dst (.slice a' m c')) w') : wpList Tryz.prog ops Q (o :: rest) a w := by
  obtain ⟨i0, hi, hz0, hz1, hz2⟩ := info_parts infoAct
  cases al with
  | none =>
    have hl0 : l = [] := by
      rcases Nat.eq_zero_or_pos l.length with h1 | h1
      · exact List.length_eq_zero_iff.1 h1
      · obtain ⟨b, off, e, -⟩ := hl h1; cases e
    subst hl0
    simp only [List.length_nil] at hm
    subst hm
    rw [h0 rfl] at hx
    refine wpList_append_own_none hgd _ x 22 ho w.heap.size 38 i0 17 Tryz.underlying22 hi (.slice none 0 0) 0 [] rfl (World.ownsRow_nil _ _ _ _) hx ?_
    exact h none 0 w (fun hp => absurd hp (Nat.lt_irrefl _)) (Below.refl _ _)
  | some ad =>
    refine wpList_append_own_at _ hgd _ x 22 ho w.heap.size 38 i0 (.agg #[.int .i64 0, .int .i64 0, .int .i64 0, .int .i64 0, .int .i64 0, .int .i64 0, .int .i64 0, .int .i64 0, .int .i64 0, .int .i64 0, .int .i64 0, .int .i64 0, .int .i64 0, .int .i64 0, .int .i64 0, .int .i64 0, .int .i64 0]) 17 136 Tryz.underlying22 hi hz0 hz1 hz2 rfl (by decide) (.slice none 0 0) 0 [] rfl (World.ownsRow_nil _ _ _ _) ad m cap (l.flatMap actCells) hx ?_ (hl.flat ad rfl) (one_act l) (by unfold maxLen; omega) (by omega) (Nat.le_refl _) ?_
    · rw [Sw.flat_len actCells 17 (fun _ => rfl) l, hm]
    · intro v' w' hown hg _ _
      rw [Nat.zero_add, List.nil_append] at hown
      obtain ⟨a', c', rfl, -⟩ := Sw.owns_slice hown
      exact h a' c' w' (actL_own hown hm) (below_grown' (Below.refl _ _) hg (Nat.le_refl _) (fun z e => by cases e))
theorem repG_take (s : Gp) (l : List Ac) {i k : Nat} (h : i < k) (hk : k ≤ l.length) : repG s (l.take k) i = repG s l i := by
  obtain ⟨x, hx⟩ : ∃ x, l[i]? = some x := ⟨_, List.getElem?_eq_getElem (by omega)⟩
  have hx' : (l.take k)[i]? = some x := by rw [List.getElem?_take_of_lt h]; exact hx
  rw [repG_eq s hx, repG_eq s hx', List.take_take, Nat.min_eq_left (by omega)]
theorem ActL.take {w : World} {a : Option Addr} {l : List Ac} (h : ActL w a l) (k : Nat) : ActL w a (l.take k) := fun hp => by
  obtain ⟨b, off, e, h1, h2⟩ := h (by rw [List.length_take] at hp; omega)
  refine ⟨b, off, e, h1, fun i x hi => h2 i x ?_⟩
  have hlt : i < k := by have := (List.getElem?_eq_some_iff.1 hi).1; rw [List.length_take] at this; omega
  rw [List.getElem?_take_of_lt hlt] at hi
  exact hi
set_option maxHeartbeats 8000000 in
set_option maxRecDepth 100000 in
theorem topRuns_any (size fall : Int) (al : Option Addr) (n cap : Nat) (l : List Ac) (k4 : Int) (w : World) (hl : ActL w al l) (hn : n = l.length) (hz : n * 136 ≤ 140737488355328) (h0 : al = none → cap = 0) (hcap : n ≤ cap) :
    Calls Tryz.prog 7 #[.int .i64 size, .int .i64 fall, .slice al n cap, .int .i64 k4] w fun e w' => e = .returned (.bool true) ∧ Below w.heap.size w w' := by
  have HL := St.hid hl
  have HN := St.hid hn
  have H0 := St.hid h0
  clear hl hn h0
  by_cases h60 : 60 < n
  · have b60 : (n : Int) > 60 := by omega
    go_enter Tryz.func7, Tryz.ntmps7
    go_wp2_with fail
    refine (alive_any w).mono ?_
    rintro e w1 ⟨rfl, hb1⟩
    have HB1 := St.hid hb1
    clear hb1
    go_wp2_with fail
    refine (alive_any w1).mono ?_
    rintro e w2 ⟨rfl, hb2⟩
    have HB2 := St.hid (bcall HB1.out hb2)
    clear hb2
    go_wp2_with fail
    go_ret
    exact ⟨rfl, HB2.out⟩
  · have b60 : ¬ ((n : Int) > 60) := by omega
    obtain ⟨X, hX⟩ : ∃ X, (wrap64 (size.tmod 1048576 + 1048576)).tmod 1048576 = X := ⟨_, rfl⟩
    have hXi : 0 ≤ X ∧ X < 1048576 := by rw [← hX]; exact size_in size
    obtain ⟨f, hf⟩ : ∃ f, fall.tmod 65 = f := ⟨_, rfl⟩
    have hfi : -64 ≤ f ∧ f ≤ 64 := by rw [← hf]; exact fall_in fall
    have hX1 : wrap64 (X + 1) = X + 1 := by unfold wrap64; omega
    have hn1 : wrap64 ((n : Int) + 1) = (n : Int) + 1 := by unfold wrap64; omega
    have hnz : ¬ ((n : Int) + 1 = 0) := by omega
    have hm1 := Int.tmod_lt_of_pos k4 (show (0 : Int) < (n : Int) + 1 by omega)
    have hm2 := Int.lt_tmod_of_pos k4 (show (0 : Int) < (n : Int) + 1 by omega)
    have hw2 : wrap64 (k4.tmod ((n : Int) + 1) + (n : Int)) = k4.tmod ((n : Int) + 1) + (n : Int) := by unfold wrap64; omega
    have hw3 : wrap64 (k4.tmod ((n : Int) + 1) + (n : Int) + 1) = k4.tmod ((n : Int) + 1) + (n : Int) + 1 := by unfold wrap64; omega
    obtain ⟨K, hK⟩ : ∃ K : Nat, (k4.tmod ((n : Int) + 1) + (n : Int) + 1).tmod ((n : Int) + 1) = (K : Int) := ⟨((k4.tmod ((n : Int) + 1) + (n : Int) + 1).tmod ((n : Int) + 1)).toNat, by
      have := Int.tmod_nonneg ((n : Int) + 1) (show 0 ≤ k4.tmod ((n : Int) + 1) + (n : Int) + 1 by omega)
      omega⟩
    have hKn : K ≤ n := by
      have := Int.tmod_lt_of_pos (k4.tmod ((n : Int) + 1) + (n : Int) + 1) (show (0 : Int) < (n : Int) + 1 by omega)
      omega
    clear hm1 hm2
    have HGW : Hid (GoodWd 0 f (X + 1) (X + 1) []) := St.hid ⟨good_nil, hfi, by omega, by omega⟩
    go_enter Tryz.func7, Tryz.ntmps7
    go_wp2_with fail
    refine (alive_any w).mono ?_
    rintro e w1 ⟨rfl, hb1⟩
    have HB1 := St.hid hb1
    clear hb1
    go_wp2_with (at_builtin; refine wpList_copy_acts rfl _ rfl al n cap l rfl HN.out (HL.out.below HB1.out) H0.out hz ?_)
    intro a2 c2 w2 hl2 hb2
    have HL2 := St.hid hl2
    have HB2 := St.hid (bcall HB1.out hb2)
    clear hl2 hb2
    go_wp2_with fail
    refine (run_any (X + 1) (X + 1) f a2 n c2 l w2 HN.out HL2.out (by omega) HGW.out).mono ?_
    rintro e w3 ⟨⟨a3, c3, us3, rfl, hr3⟩, hb3⟩
    have HR3 := St.hid hr3
    have HB3 := St.hid (bcall HB2.out hb3)
    clear hr3 hb3 HL2
    have hKc : (K : Int) ≤ (cap : Int) := by omega
    have HTK := St.hid (HL.out.take K)
    have hlt : (l.take K).length = K := by rw [List.length_take, ← HN.out]; omega
    go_wp2_with (at_builtin; refine wpList_copy_acts rfl _ rfl al K cap (l.take K) rfl hlt.symm (HTK.out.below HB3.out) H0.out (by omega) ?_)
    intro a4 c4 w4 hl4 hb4
    have HL4 := St.hid hl4
    have HB4 := St.hid (bcall HB3.out hb4)
    have HR4 := St.hid (HR3.out.below hb4)
    clear hl4 hb4 HR3
    go_wp2_with fail
    refine (run_any (X + 1) (X + 1) f a4 K c4 (l.take K) w4 hlt.symm HL4.out (by omega) HGW.out).mono ?_
    rintro e w5 ⟨⟨a5, c5, us5, rfl, hr5⟩, hb5⟩
    have HR5 := St.hid hr5
    have HRA := St.hid (HR4.out.below hb5)
    have HB5 := St.hid (bcall HB4.out hb5)
    clear hr5 hb5 HL4 HR4
    go_wp2_with fail
    go_loopw [13] (fun i wr => ∃ j : Nat, j ≤ K ∧ i = .int .i64 j ∧ Hid (Below w5.heap.size w5 wr)) (fun i _ => K - (intOf i).toNat)
    case atStart => exact ⟨0, Nat.zero_le _, rfl, Below.refl _ _⟩
    case round =>
      obtain ⟨j, hj, rfl, hB⟩ := hrel
      by_cases hlj : j < K
      · have hlj' : (j : Int) < (K : Int) := by omega
        have hln' : (j : Int) < (n : Int) := by omega
        obtain ⟨r, HRE⟩ : ∃ r, Hid (r = repG (newG (X + 1) (X + 1) f) l j) := ⟨_, rfl⟩
        obtain ⟨ga, ca, aia, cia, ama, cma, hua, hgla, hra⟩ := (HRA.out.below hB.out).read (k := j) (r := r) (by rw [HRE.out]; exact repsG_at _ _ (by omega))
        obtain ⟨gb, cb, aib, cib, amb, cmb, hub, hglb, hrb⟩ := (HR5.out.below hB.out).read (k := j) (r := r) (by rw [HRE.out, ← repG_take _ l hlj (by have := HN.out; omega)]; exact repsG_at _ _ hlj)
        have hzids : r.ids.length ≤ 10 ∧ r.met.length ≤ 800 := by
          obtain ⟨xa, hxa⟩ : ∃ xa, l[j]? = some xa := ⟨_, List.getElem?_eq_getElem (by have := HN.out; omega)⟩
          rw [HRE.out, repG_eq _ hxa]
          exact rep_lenG ((newGood HGW.out).doAll _) _
        simp only [Value.slice.injEq] at hua hub
        obtain ⟨rfl, -, rfl⟩ := hua
        obtain ⟨rfl, -, rfl⟩ := hub
        have HRDA := St.hid hra
        have HRDB := St.hid hrb
        clear hra hrb
        obtain ⟨x0, x1, x2, x3, hI1, hP1⟩ := HRDA.out wr (Kept.below (Below.refl _ _))
        obtain ⟨y0, y1, y2, y3, hI2, hP2⟩ := HRDB.out wr (Kept.below (Below.refl _ _))
        have HSR := St.hid (same_rep r hzids.1 hzids.2 (hI1.below (Below.drew (Below.refl _ _))) (hP1.below (Below.drew (Below.refl _ _))) (hI2.below (Below.drew (Below.refl _ _))) (hP2.below (Below.drew (Below.refl _ _))))
        clear hI1 hP1 hI2 hP2
        go_upto_region 13 with fail
        go_region_held3 (fun W' => W'.cell? ⟨ga, j * 4, none⟩ = some (.int .i64 r.code) ∧ W'.cell? ⟨ga, j * 4 + 1, none⟩ = some (.int .i64 r.n) ∧ W'.cell? ⟨ga, j * 4 + 2, none⟩ = some (.slice aia r.ids.length cia) ∧ W'.cell? ⟨ga, j * 4 + 3, none⟩ = some (.slice ama r.met.length cma) ∧ W'.cell? ⟨gb, j * 4, none⟩ = some (.int .i64 r.code) ∧ W'.cell? ⟨gb, j * 4 + 1, none⟩ = some (.int .i64 r.n) ∧ W'.cell? ⟨gb, j * 4 + 2, none⟩ = some (.slice aib r.ids.length cib) ∧ W'.cell? ⟨gb, j * 4 + 3, none⟩ = some (.slice amb r.met.length cmb)) (exact ⟨x0, x1, x2, x3, y0, y1, y2, y3⟩)
          (first | (go_at_call 15; go_fit HSR.out; rintro e w7 ⟨rfl, hb7⟩; have HK7 := St.hid (bcall (Below.drew (Below.refl _ wr)) hb7); clear hb7 x0 x1 x2 x3 y0 y1 y2 y3; obtain ⟨x0, x1, x2, x3, -, -⟩ := HRDA.out w7 (Kept.below HK7.out); obtain ⟨y0, y1, y2, y3, -, -⟩ := HRDB.out w7 (Kept.below HK7.out)))
        all_goals
          go_wp2_with fail
          go_roundw
          case rel => exact ⟨j + 1, by omega, by go_num, bcall hB.out HK7.out⟩
          case measure => simp [intOf]; omega
      · go_wp2_with fail
        go_ret
        exact ⟨rfl, bcall HB5.out hB.out⟩
end Go.Proofs.YtckkkdldljhehacGreat.Gm
