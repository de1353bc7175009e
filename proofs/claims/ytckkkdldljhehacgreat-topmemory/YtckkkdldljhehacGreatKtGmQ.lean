/- What play of package ninepinstop answers when called with the question that is always told yes: the game that the acts lead to, in memory of its own; nothing that was in memory before has changed. -/
import Derived.Test.YtckkkdldljhehacGreatKtGmN
import Derived.Test.YtckkkdldljhehacGreatKtGmAc
import Derived.Test.YtckkkdldljhehacGreatKtGmS
namespace Go.Proofs.YtckkkdldljhehacGreat.Gm
open Go.Proofs.YtckkkdldljhehacGreat.Num Go.Proofs.YtckkkdldljhehacGreat.St Go.Proofs.YtckkkdldljhehacGreat.Wd
open Go.ChangeShapes Go.WideShapes Go.ChangeAt Go.RowKit

set_option maxHeartbeats 1000000 in
set_option maxRecDepth 100000 in
theorem quiet_any (b : Nat) (a : Ac) (c n : Int) (ai am : Option Addr) (li ci lm cm : Nat) (w : World) :
    Calls Tryz.prog 13 #[.pointer (some ⟨b, 0, none⟩), actA a, .agg #[.int .i64 c, .int .i64 n, .slice ai li ci, .slice am lm cm]] w fun e w' => e = .returned (.bool true) ∧ Below w.heap.size w w' := by
  go_enter Tryz.func13, Tryz.ntmps13
  go_wp2_with fail
  go_ret
  exact ⟨rfl, by repeat (first | with_reducible exact Below.refl _ _ | with_reducible refine bal ?_ _)⟩
set_option maxHeartbeats 4000000 in
set_option maxRecDepth 100000 in
theorem playQuiet (size fall : Int) (al : Option Addr) (n cap : Nat) (l : List Ac) (w : World) (hn : n = l.length) (hl : ActL w al l) (hz : n * 136 ≤ 140737488355328) :
    Calls Tryz.prog 12 #[.int .i64 size, .int .i64 fall, .slice al n cap, .func (.func 13) #[] #[]] w fun e w' => (∃ b F, e = .returned (.tuple #[.pointer (some ⟨b, 0, none⟩), .bool true]) ∧ Gam w' F b (playP size fall l) ∧ ∀ z, F z → w.heap.size ≤ z) ∧ Below w.heap.size w w' := by
  have HL := St.hid hl
  have HN := St.hid hn
  have HPP : Hid (playP size fall l = doAll (newG (szP size + 1) (1048576 - szP size) (flP fall)) (l.take 60)) := St.hid rfl
  generalize playP size fall l = sE at HPP ⊢
  clear hl hn
  go_enter Tryz.func12, Tryz.ntmps12
  go_wp2_with fail
  refine (alive_any w).mono ?_
  rintro e w0 ⟨rfl, hb0⟩
  have HB0 := St.hid hb0
  clear hb0
  go_wp2_with fail
  obtain ⟨x, hx⟩ : ∃ x, x = (wrap64 (size.tmod 1048576 + 1048576)).tmod 1048576 := ⟨_, rfl⟩
  obtain ⟨f, hf⟩ : ∃ f, f = fall.tmod 65 := ⟨_, rfl⟩
  have HX : Hid (x = szP size ∧ f = flP fall) := St.hid ⟨hx, hf⟩
  have hx2 : 0 ≤ x ∧ x < 1048576 := by rw [hx]; exact size_in size
  have hf2 : -64 ≤ f ∧ f ≤ 64 := by rw [hf]; exact fall_in fall
  have hw1 : wrap64 (x + 1) = x + 1 := by unfold wrap64; omega
  have hw2 : wrap64 (1048576 - x) = 1048576 - x := by unfold wrap64; omega
  rw [← hx, ← hf, hw1, hw2]
  refine (new_any (x + 1) (1048576 - x) f w0).mono ?_
  rintro e w1 ⟨hor, hb1⟩
  have HGD : Hid (GoodWd 0 f (x + 1) (1048576 - x) []) := St.hid ⟨good_nil, hf2, by omega, by omega⟩
  rcases hor with ⟨hno, -⟩ | ⟨-, b, F, rfl, hG, hF⟩
  · exact absurd HGD.out hno
  have HG := St.hid hG
  have HB1 := St.hid (HB0.out.trans (hb1.mono HB0.out.size))
  have HF : Hid (∀ z, F z → w.heap.size ≤ z) := St.hid (fun z hz => Nat.le_trans HB0.out.size (hF z hz))
  clear hG hb1 hF hx hf hx2 hf2 hw1 hw2 HB0
  go_wp2_with fail
  have HGN := St.hid (newGood HGD.out)
  have HPQ : Hid (sE = doAll (newG (x + 1) (1048576 - x) f) (l.take 60)) := St.hid (by rw [HX.out.1, HX.out.2]; exact HPP.out)
  clear HPP HX
  generalize newG (x + 1) (1048576 - x) f = s0 at HG HGN HPQ
  clear HGD
  go_loopw [12] (fun i wr => ∃ (k : Nat) (F : Nat → Prop) (s : Gp), k ≤ n ∧ k ≤ 60 ∧ i = .int .i64 k ∧ Hid (s = doAll s0 (l.take k)) ∧ Hid (Gam wr F b s) ∧ Hid (GoodG s) ∧ Hid (∀ z, F z → w.heap.size ≤ z) ∧ Hid (Below w.heap.size w wr)) (fun i _ => n - (intOf i).toNat)
  case atStart => exact ⟨0, F, s0, Nat.zero_le _, Nat.zero_le _, rfl, St.hid (by simp [doAll]), HG, HGN, HF, HB1⟩
  case round =>
    clear HG HGN HF HB1
    obtain ⟨k, F, s, hk, hk60, rfl, HSK, HG, HGN, HF, HB⟩ := hrel
    have hzr := HB.out.size
    by_cases hlt : k < n
    · by_cases h60 : k < 60
      · obtain ⟨xa, hxa⟩ : ∃ xa, l[k]? = some xa := ⟨_, List.getElem?_eq_getElem (by have := HN.out; omega)⟩
        obtain ⟨g, off, rfl, hgl, hcs⟩ := HL.out (by have := HN.out; omega)
        have HCS := St.hid (hcs k xa hxa)
        have hgr : g < wr.heap.size := by omega
        have HSN : Hid ((doG s xa).1 = doAll s0 (l.take (k + 1))) := St.hid (by rw [take_snocA hxa, doAll_snoc, ← HSK.out])
        clear hcs hxa
        have cr : ∀ j u, (actCells xa)[j]? = some u → wr.cell? ⟨g, off + k * 17 + j, none⟩ = some u := fun j u hj => (HB.out.cell (p := ⟨g, off + k * 17 + j, none⟩) hgl).trans (HCS.out j u hj)
        obtain ⟨a0, a1, a2, a3, a4, a5, a6, a7, a8, a9, a10, a11, a12, a13, a14, a15, a16⟩ := act_at cr
        clear cr
        go_wp2_with fail
        refine (do_any HG.out HGN.out xa).mono ?_
        rintro e w2 ⟨ai, ci, am, cm, rfl, -, -, ⟨F2, hG2, hF2, -⟩, hk2⟩
        have HG2 := St.hid hG2
        have HGN2 := St.hid (HGN.out.do xa)
        have HF2 : Hid (∀ z, F2 z → w.heap.size ≤ z) := St.hid (fun z hz => (hF2 z hz).elim (fun h => HF.out z h) (fun h => by omega))
        have HB2 := St.hid (HB.out.trans (hk2.to_below hzr HF.out))
        have hz2 := hk2.size
        generalize (doG s xa).1 = s2 at HG2 HGN2 HSN
        generalize (doG s xa).2.code = rc
        generalize (doG s xa).2.n = rn
        generalize (doG s xa).2.ids.length = li
        generalize (doG s xa).2.met.length = lm
        clear hG2 hF2 hk2 a0 a1 a2 a3 a4 a5 a6 a7 a8 a9 a10 a11 a12 a13 a14 a15 a16 HG HGN HF
        have cr : ∀ j u, (actCells xa)[j]? = some u → w2.cell? ⟨g, off + k * 17 + j, none⟩ = some u := fun j u hj => (HB2.out.cell (p := ⟨g, off + k * 17 + j, none⟩) hgl).trans (HCS.out j u hj)
        obtain ⟨a0, a1, a2, a3, a4, a5, a6, a7, a8, a9, a10, a11, a12, a13, a14, a15, a16⟩ := act_at cr
        clear cr
        have hg2 : g < w2.heap.size := by omega
        go_wp2_with fail
        have hrr := St.hid (Rp.rowIs4 w2 rc rn (.slice ai li ci) (.slice am lm cm) 31)
        have HB3 := St.hid (bal HB2.out (.cells #[.int .i64 rc, .int .i64 rn, .slice ai li ci, .slice am lm cm] 31))
        have HG3 := St.hid (HG2.out.below (bal (Below.refl _ _) (.cells #[.int .i64 rc, .int .i64 rn, .slice ai li ci, .slice am lm cm] 31)))
        go_region_with (go_at_call 13; go_fit (quiet_any b xa rc rn ai am li ci lm cm _); rintro e w3 ⟨rfl, hb3⟩; have HQ3 := St.hid (bcall (by repeat (first | with_reducible exact Below.refl _ (w2.alloc (.cells #[.int .i64 rc, .int .i64 rn, .slice ai li ci, .slice am lm cm] 31)) | with_reducible refine Below.drew ?_)) hb3 : Below (w2.alloc (.cells #[.int .i64 rc, .int .i64 rn, .slice ai li ci, .slice am lm cm] 31)).heap.size (w2.alloc (.cells #[.int .i64 rc, .int .i64 rn, .slice ai li ci, .slice am lm cm] 31)) w3); clear hb3)
        all_goals
          go_wp2_with fail
          go_roundw
          case rel => exact ⟨k + 1, F2, s2, by omega, by omega, by go_num, HSN, St.hid (HG3.out.below HQ3.out), HGN2, HF2, St.hid (bcall HB3.out HQ3.out)⟩
          case measure => simp [intOf]; omega
      · have hke : k = 60 := by omega
        subst hke
        go_wp2_with fail
        refine bodyPost_ret (v := .tuple #[.pointer (some ⟨b, 0, none⟩), .bool true]) (by simp [results, Tryz.results12, go_sem]) rfl ⟨⟨b, F, rfl, ?_, HF.out⟩, HB.out⟩
        rw [HPQ.out, ← HSK.out]
        exact HG.out
    · have hkn : k = n := by omega
      subst hkn
      go_wp2_with fail
      refine bodyPost_ret (v := .tuple #[.pointer (some ⟨b, 0, none⟩), .bool true]) (by simp [results, Tryz.results12, go_sem]) rfl ⟨⟨b, F, rfl, ?_, HF.out⟩, HB.out⟩
      have e : l.take 60 = l.take k := by rw [List.take_of_length_le (by have := HN.out; omega), List.take_of_length_le (by have := HN.out; omega)]
      rw [HPQ.out, e, ← HSK.out]
      exact HG.out
end Go.Proofs.YtckkkdldljhehacGreat.Gm
