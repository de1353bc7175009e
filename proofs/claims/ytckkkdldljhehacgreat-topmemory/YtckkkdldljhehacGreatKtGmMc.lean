/- What play of package ninepinstop answers when called with the question of TopMemory beside another game that is new: true, whatever the acts; nothing that was in memory ahead of that game has changed. -/
import Derived.Test.YtckkkdldljhehacGreatKtGmMb
import Derived.Test.YtckkkdldljhehacGreatKtGmN
import Derived.Test.YtckkkdldljhehacGreatKtGmAc
import Derived.Test.YtckkkdldljhehacGreatKtGmS
namespace Go.Proofs.YtckkkdldljhehacGreat.Gm
open Go.Proofs.YtckkkdldljhehacGreat.Num Go.Proofs.YtckkkdldljhehacGreat.St Go.Proofs.YtckkkdldljhehacGreat.Wd
open Go.ChangeShapes Go.WideShapes Go.ChangeAt Go.RowKit

set_option maxHeartbeats 8000000 in
set_option maxRecDepth 100000 in
theorem playMem (size fall : Int) (al : Option Addr) (n cap : Nat) (l : List Ac) (w0 w : World) (hn : n = l.length) (hl : ActL w0 al l) (hz : n * 136 ≤ 140737488355328) (hb : Below w0.heap.size w0 w) {F2 : Nat → Prop} {ob cb : Nat} (x f : Int) (hx : x = (wrap64 (size.tmod 1048576 + 1048576)).tmod 1048576) (hf : f = fall.tmod 65)
    (hO : Gam w F2 ob (newG (x + 1) (1048576 - x) f)) (hc : w.rowIs cb 23 1 (fun _ => .pointer (some ⟨ob, 0, none⟩))) (hcF2 : ¬ F2 cb) (hF2 : ∀ z, F2 z → w0.heap.size ≤ z) :
    Calls Tryz.prog 12 #[.int .i64 size, .int .i64 fall, .slice al n cap, .func (.func 23) #[] #[.pointer (some ⟨cb, 0, none⟩)]] w fun e w' => (∃ v, e = .returned (.tuple #[v, .bool true])) ∧ Below w0.heap.size w0 w' := by
  have HL := St.hid hl
  have HN := St.hid hn
  have HBW := St.hid hb
  have HO := St.hid hO
  have HC := St.hid hc
  have HCF := St.hid hcF2
  have HF2 := St.hid hF2
  clear hl hn hb hO hc hcF2 hF2
  go_enter Tryz.func12, Tryz.ntmps12
  go_wp2_with fail
  refine (alive_any w).mono ?_
  rintro e wa ⟨rfl, hb0⟩
  have HB0 := St.hid (bcall HBW.out hb0)
  have HO0 := St.hid (HO.out.below hb0)
  have HC0 := St.hid (rowIs_below HC.out hb0)
  clear hb0 HBW HO HC
  go_wp2_with fail
  have hx2 : 0 ≤ x ∧ x < 1048576 := by rw [hx]; exact size_in size
  have hf2 : -64 ≤ f ∧ f ≤ 64 := by rw [hf]; exact fall_in fall
  have hw1 : wrap64 (x + 1) = x + 1 := by unfold wrap64; omega
  have hw2 : wrap64 (1048576 - x) = 1048576 - x := by unfold wrap64; omega
  rw [← hx, ← hf, hw1, hw2]
  refine (new_any (x + 1) (1048576 - x) f wa).mono ?_
  rintro e w1 ⟨hor, hb1⟩
  have HGD : Hid (GoodWd 0 f (x + 1) (1048576 - x) []) := St.hid ⟨good_nil, hf2, by omega, by omega⟩
  rcases hor with ⟨hno, -⟩ | ⟨-, b, F, rfl, hG, hF⟩
  · exact absurd HGD.out hno
  have HG := St.hid hG
  have HB1 := St.hid (bcall HB0.out hb1)
  have HO1 := St.hid (HO0.out.below hb1)
  have HC1 := St.hid (rowIs_below HC0.out hb1)
  have HF : Hid (∀ z, F z → w0.heap.size ≤ z) := St.hid (fun z hz => Nat.le_trans HB0.out.size (hF z hz))
  have HDJ : Hid (∀ z, F z → ¬ F2 z) := St.hid (fun z hz h => by have := hF z hz; have := HO0.out.lt h; omega)
  have HCG : Hid (¬ F cb) := St.hid (fun h => by have := hF _ h; have := HC0.out.lt; omega)
  clear hG hb1 hF hx hf hx2 hf2 hw1 hw2 HB0 HO0 HC0
  go_wp2_with fail
  have HGN := St.hid (newGood HGD.out)
  generalize newG (x + 1) (1048576 - x) f = s0 at HG HGN HO1
  clear HGD
  go_loopw [12] (fun i wr => ∃ (k : Nat) (F F3 : Nat → Prop) (s : Gp), k ≤ n ∧ k ≤ 60 ∧ i = .int .i64 k ∧ Hid (Gam wr F b s) ∧ Hid (Gam wr F3 ob s) ∧ Hid (GoodG s) ∧ Hid (∀ z, F z → w0.heap.size ≤ z) ∧ Hid (∀ z, F3 z → w0.heap.size ≤ z) ∧ Hid (∀ z, F z → ¬ F3 z) ∧ Hid (¬ F cb ∧ ¬ F3 cb) ∧ Hid (wr.rowIs cb 23 1 (fun _ => .pointer (some ⟨ob, 0, none⟩))) ∧ Hid (Below w0.heap.size w0 wr)) (fun i _ => n - (intOf i).toNat)
  case atStart => exact ⟨0, F, F2, s0, Nat.zero_le _, Nat.zero_le _, rfl, HG, HO1, HGN, HF, HF2, HDJ, St.hid ⟨HCG.out, HCF.out⟩, HC1, HB1⟩
  case round =>
    clear HG HGN HF HB1 HO1 HC1 HDJ HCG HCF HF2
    obtain ⟨k, F, F3, s, hk, hk60, rfl, HG, HO, HGN, HF, HF3, HDJ, HCC, HC, HB⟩ := hrel
    have hzr := HB.out.size
    by_cases hlt : k < n
    · by_cases h60 : k < 60
      · obtain ⟨xa, hxa⟩ : ∃ xa, l[k]? = some xa := ⟨_, List.getElem?_eq_getElem (by have := HN.out; omega)⟩
        obtain ⟨g, off, rfl, hgl, hcs⟩ := HL.out (by have := HN.out; omega)
        have HCS := St.hid (hcs k xa hxa)
        have hgr : g < wr.heap.size := by omega
        clear hcs hxa
        have cr : ∀ j u, (actCells xa)[j]? = some u → wr.cell? ⟨g, off + k * 17 + j, none⟩ = some u := fun j u hj => (HB.out.cell (p := ⟨g, off + k * 17 + j, none⟩) hgl).trans (HCS.out j u hj)
        obtain ⟨a0, a1, a2, a3, a4, a5, a6, a7, a8, a9, a10, a11, a12, a13, a14, a15, a16⟩ := act_at cr
        clear cr
        go_wp2_with fail
        refine (do_any HG.out HGN.out xa).mono ?_
        rintro e w2 ⟨ai, ci, am, cm, rfl, hi2, hm2, ⟨F4, hG2, hF4, hP4⟩, hk2⟩
        obtain ⟨r, hr⟩ : ∃ r, r = (doG s xa).2 := ⟨_, rfl⟩
        rw [← hr] at hi2 hm2 hP4 ⊢
        have HR := St.hid hr
        have hcz := HC.out.lt
        have HG2 := St.hid hG2
        have HO2 := St.hid (HO.out.kept hk2 (fun z hz h => HDJ.out z h hz))
        have HC2 := St.hid (rowIs_kept HC.out hk2 HCC.out.1)
        have HI2 := St.hid hi2
        have HM2 := St.hid hm2
        have HGN2 := St.hid (HGN.out.do xa)
        have HF4 : Hid (∀ z, F4 z → w0.heap.size ≤ z) := St.hid (fun z hz => (hF4 z hz).elim (fun h => HF.out z h) (fun h => by omega))
        have HDJ2 : Hid (∀ z, F4 z → ¬ F3 z) := St.hid (fun z hz h => by
          rcases hF4 z hz with h1 | h1
          · exact HDJ.out z h1 h
          · have := HO.out.lt h; omega)
        have HCC2 : Hid (¬ F4 cb) := St.hid (fun h => by
          rcases hF4 _ h with h1 | h1
          · exact HCC.out.1 h1
          · omega)
        have HP2 : Hid (∀ z, (Value.slice ai r.ids.length ci).ownBlock = some z ∨ (Value.slice am r.met.length cm).ownBlock = some z → ¬ F4 z ∧ ¬ F3 z ∧ z ≠ cb) := St.hid (fun z hz => by
          have hlo : wr.heap.size ≤ z := hz.elim (fun h => (hi2.lt z h).1) (fun h => (hm2.lt z h).1)
          exact ⟨hP4 z hz, fun h => by have := HO.out.lt h; omega, by omega⟩)
        have HPL : Hid (∀ z, (Value.slice ai r.ids.length ci).ownBlock = some z ∨ (Value.slice am r.met.length cm).ownBlock = some z → w0.heap.size ≤ z) := St.hid (fun z hz => by
          have hlo : wr.heap.size ≤ z := hz.elim (fun h => (hi2.lt z h).1) (fun h => (hm2.lt z h).1)
          omega)
        have HB2 := St.hid (HB.out.trans (hk2.to_below hzr HF.out))
        have hz2 := hk2.size
        clear hi2 hm2 hP4 hr hG2 hF4 hk2 a0 a1 a2 a3 a4 a5 a6 a7 a8 a9 a10 a11 a12 a13 a14 a15 a16 HG HF HO HC
        have cr : ∀ j u, (actCells xa)[j]? = some u → w2.cell? ⟨g, off + k * 17 + j, none⟩ = some u := fun j u hj => (HB2.out.cell (p := ⟨g, off + k * 17 + j, none⟩) hgl).trans (HCS.out j u hj)
        obtain ⟨a0, a1, a2, a3, a4, a5, a6, a7, a8, a9, a10, a11, a12, a13, a14, a15, a16⟩ := act_at cr
        clear cr
        have hg2 : g < w2.heap.size := by omega
        go_wp2_with fail
        have hrr := St.hid (Rp.rowIs4 w2 r.code r.n (.slice ai r.ids.length ci) (.slice am r.met.length cm) 31)
        have hA3 := bal (Below.refl _ w2) (.cells #[.int .i64 r.code, .int .i64 r.n, .slice ai r.ids.length ci, .slice am r.met.length cm] 31)
        have HB3 := St.hid (bal HB2.out (.cells #[.int .i64 r.code, .int .i64 r.n, .slice ai r.ids.length ci, .slice am r.met.length cm] 31))
        have HG3 := St.hid (HG2.out.below hA3)
        have HO3 := St.hid (HO2.out.below hA3)
        have HC3 := St.hid (rowIs_below HC2.out hA3)
        have HI3 := St.hid (owns_below HI2.out hA3)
        have HM3 := St.hid (owns_below HM2.out hA3)
        have hz3 : w2.heap.size < (w2.alloc (.cells #[.int .i64 r.code, .int .i64 r.n, .slice ai r.ids.length ci, .slice am r.met.length cm] 31)).heap.size := by simp
        have HLT4 : Hid (∀ z, F4 z → z < w2.heap.size) := St.hid (fun z hz => HG2.out.lt hz)
        clear hA3
        generalize w2.alloc (.cells #[.int .i64 r.code, .int .i64 r.n, .slice ai r.ids.length ci, .slice am r.met.length cm] 31) = W3 at hrr HB3 HG3 HO3 HC3 HI3 HM3 hz3 ⊢
        clear a0 a1 a2 a3 a4 a5 a6 a7 a8 a9 a10 a11 a12 a13 a14 a15 a16
        have cr : ∀ j u, (actCells xa)[j]? = some u → W3.cell? ⟨g, off + k * 17 + j, none⟩ = some u := fun j u hj => (HB3.out.cell (p := ⟨g, off + k * 17 + j, none⟩) hgl).trans (HCS.out j u hj)
        obtain ⟨a0, a1, a2, a3, a4, a5, a6, a7, a8, a9, a10, a11, a12, a13, a14, a15, a16⟩ := act_at cr
        clear cr
        obtain ⟨y0, y1, y2, y3⟩ := Rp.rcells hrr.out
        have hg3 : g < W3.heap.size := by omega
        have HMQ := St.hid (fun (W' : World) (hb : Below W3.heap.size W3 W') => memQ xa r HR.out (HG3.out.below hb) (HO3.out.below hb) HGN.out (rowIs_below HC3.out hb) (owns_below HI3.out hb) (owns_below HM3.out hb) HDJ2.out HCC2.out HCC.out.2 HP2.out)
        go_region_with (go_at_call 23; go_fit (HMQ.out _ (by repeat (first | with_reducible exact Below.refl _ _ | with_reducible refine Below.drew ?_))); rintro e w4 ⟨rfl, F5, h4, h5, h6, h7⟩; have HG4 := St.hid h4; have HO4 := St.hid h5; have HF5 := St.hid h6; have HK4 : Hid (Kept (fun z => F3 z ∨ ((Value.slice ai r.ids.length ci).ownBlock = some z ∨ (Value.slice am r.met.length cm).ownBlock = some z)) W3 w4) := St.hid ((Kept.below (by repeat (first | with_reducible exact Below.refl _ W3 | with_reducible refine Below.drew ?_))).trans h7 (fun z hz => Or.inl hz)); clear h4 h5 h6 h7)
        all_goals
          go_wp2_with fail
          go_roundw
          case rel =>
            refine ⟨k + 1, F4, F5, _, by omega, by omega, by go_num, HG4, HO4, HGN2, HF4, St.hid (fun z hz => ?_), St.hid (fun z hz h => ?_), St.hid ⟨HCC2.out, fun h => ?_⟩, St.hid (rowIs_kept HC3.out HK4.out (fun h => ?_)), St.hid (HB3.out.trans (HK4.out.to_below (by have := HB3.out.size; omega) (fun z hz => ?_)))⟩
            · rcases HF5.out z hz with h1 | h1
              · exact HF3.out z h1
              · have h2 : W3.heap.size ≤ z := h1
                have := HB3.out.size
                omega
            · rcases HF5.out z h with h1 | h1
              · exact HDJ2.out z hz h1
              · have h2 : W3.heap.size ≤ z := h1
                have := HLT4.out z hz
                omega
            · rcases HF5.out _ h with h1 | h1
              · exact HCC.out.2 h1
              · have h2 : W3.heap.size ≤ cb := h1
                have := HC3.out.lt
                omega
            · rcases h with h | h
              · exact HCC.out.2 h
              · exact (HP2.out _ h).2.2 rfl
            · rcases hz with h | h
              · exact HF3.out z h
              · exact HPL.out z h
          case measure => simp [intOf]; omega
      · have hke : k = 60 := by omega
        subst hke
        go_wp2_with fail
        refine bodyPost_ret (v := .tuple #[.pointer (some ⟨b, 0, none⟩), .bool true]) (by simp [results, Tryz.results12, go_sem]) rfl ⟨⟨_, rfl⟩, HB.out⟩
    · go_wp2_with fail
      refine bodyPost_ret (v := .tuple #[.pointer (some ⟨b, 0, none⟩), .bool true]) (by simp [results, Tryz.results12, go_sem]) rfl ⟨⟨_, rfl⟩, HB.out⟩
end Go.Proofs.YtckkkdldljhehacGreat.Gm
