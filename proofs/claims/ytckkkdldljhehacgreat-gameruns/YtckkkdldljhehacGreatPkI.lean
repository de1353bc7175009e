/- Part of the proofs of GamePlays and GameRuns (package ninepinslaw): contracts of the functions that they call. -/
import Derived.Maps.AppendAt
import Derived.Deep.DeepFit
import Derived.Deep.RegionHeld3
import Derived.Test.YtckkkdldljhehacGreatPkG
import Derived.Test.YtckkkdldljhehacGreatPkH
import Derived.Test.YtckkkdldljhehacGreatPkR
namespace Go.Proofs.YtckkkdldljhehacGreat
namespace Wd
open Num St
open Go.ChangeShapes Go.WideShapes Go.ChangeAt Go.RowKit
theorem flat5 (l : List Sw.B5) (i s : Nat) (x : Sw.B5) (hi : l[i]? = some x) (hs : s < 5) : (l.flatMap Sw.boxCells)[i * 5 + s]? = (Sw.boxCells x)[s]? := by
 induction l generalizing i with
 | nil => simp at hi
 | cons r l ih =>
  rw [List.flatMap_cons]
  have e : (Sw.boxCells r).length = 5 := rfl
  cases i with
  | zero => simp at hi; subst hi; rw [Nat.zero_mul, Nat.zero_add, List.getElem?_append_left (by rw [e]; exact hs)]
  | succ i => rw [List.getElem?_append_right (by rw [e]; omega), e, show (i + 1) * 5 + s - 5 = i * 5 + s by omega, ih i (by simpa using hi)]
theorem boxL_of {w : World} {B n c : Nat} {a : Option Addr} {l : List Sw.B5} (h : w.ownsRow B 36 5 (.slice a n c) n (l.flatMap Sw.boxCells)) (hn : n = l.length) : Sw.BoxL w a l := by
 intro hp
 obtain ⟨g, c', e⟩ := own_some h (by omega)
 cases e
 refine ⟨g, 0, rfl, (h.lt g rfl).2, fun i x hx => ?_⟩
 have hlt := (List.getElem?_eq_some_iff.1 hx).1
 have key : ∀ s, s < 5 → w.cell? ⟨g, 0 + i * 5 + s, none⟩ = (Sw.boxCells x)[s]? := fun s hs => by
  rw [Nat.zero_add, h.cellAt (i * 5 + s) (by omega), flat5 l i s x hx hs]
 exact ⟨key 0 (by omega), key 1 (by omega), key 2 (by omega), key 3 (by omega), key 4 (by omega)⟩
theorem flat2 (l : List (Int × Int)) (i s : Nat) (x : Int × Int) (hi : l[i]? = some x) (hs : s < 2) : (l.flatMap Sw.pairCells)[i * 2 + s]? = (Sw.pairCells x)[s]? := by
 induction l generalizing i with
 | nil => simp at hi
 | cons r l ih =>
  rw [List.flatMap_cons]
  have e : (Sw.pairCells r).length = 2 := rfl
  cases i with
  | zero => simp at hi; subst hi; rw [Nat.zero_mul, Nat.zero_add, List.getElem?_append_left (by rw [e]; exact hs)]
  | succ i => rw [List.getElem?_append_right (by rw [e]; omega), e, show (i + 1) * 2 + s - 2 = i * 2 + s by omega, ih i (by simpa using hi)]
def zf (i : Nat) : Value := (St.rowCells zeroR).getD i undef
theorem zrow (w : World) (b : Nat) (h : w.heap.size = b) : (w.alloc (.cells #[.int .i64 0, .int .i64 0, .int .i64 0, .int .i64 0, .int .i64 0, .int .i64 0, .int .i64 0, .int .i64 0] 34)).rowIs b 34 8 zf := by
 subst h
 exact St.rowIs8 w zeroR 34
abbrev put8 (W : World) (g : Nat) (r : R8) : World := (((((((W.setCell ⟨g, 0, none⟩ (.int .i64 r.x)).setCell ⟨g, 1, none⟩ (.int .i64 r.y)).setCell ⟨g, 2, none⟩ (.int .i64 r.px)).setCell ⟨g, 3, none⟩ (.int .i64 r.py)).setCell ⟨g, 4, none⟩ (.int .i64 r.wd)).setCell ⟨g, 5, none⟩ (.int .i64 r.ht)).setCell ⟨g, 6, none⟩ (.int .i64 r.ms)).setCell ⟨g, 7, none⟩ (.int .i64 r.rr)
theorem row8 {W : World} {g : Nat} {t : TypeId} {f : Nat → Value} (h : W.rowIs g t 8 f) (r : R8) : (put8 W g r).rowIs g t 8 (fun i => (St.rowCells r).getD i undef) := by
 refine ((((((((h.set 0 _).set 1 _).set 2 _).set 3 _).set 4 _).set 5 _).set 6 _).set 7 _).congr (fun i hi => ?_)
 match i, hi with
 | 0, _ => rfl
 | 1, _ => rfl
 | 2, _ => rfl
 | 3, _ => rfl
 | 4, _ => rfl
 | 5, _ => rfl
 | 6, _ => rfl
 | 7, _ => rfl
theorem grown8 (W : World) (g : Nat) (r : R8) : W.grownBy (put8 W g r) (some g) :=
 (((((((grown_set W g _ _).trans (grown_set _ g _ _)).trans (grown_set _ g _ _)).trans (grown_set _ g _ _)).trans (grown_set _ g _ _)).trans (grown_set _ g _ _)).trans (grown_set _ g _ _)).trans (grown_set _ g _ _)
theorem other8 {W : World} {g b n : Nat} {t : TypeId} {f : Nat → Value} {r : R8} (h : W.rowIs b t n f) (hne : b ≠ g) : (put8 W g r).rowIs b t n f := rowIs_grown h (grown8 W g r) (fun e => hne (by cases e; rfl))
theorem below8 {w W : World} {g : Nat} {r : R8} (h : Below w.heap.size w W) (hg : w.heap.size ≤ g) : Below w.heap.size w (put8 W g r) := below_grown h (grown8 W g r) h.size hg
theorem grown_none {w w' : World} {row : Option Nat} (h : w.grownBy w' none) : w.grownBy w' row := ⟨h.os, h.tape, h.output, h.size, fun b hb _ => h.block b hb (by simp)⟩
theorem set_world {W : World} {b : Nat} {v : Value} {next fall wide high : Int} (h : W.rowIs b 45 5 (wcell v next fall wide high)) (u : Value) : ((W.setCell ⟨b, 0, none⟩ u).setCell ⟨b, 1, none⟩ (.int .i64 next)).rowIs b 45 5 (wcell u next fall wide high) := by
 refine ((h.set 0 _).set 1 _).congr (fun i hi => ?_)
 match i, hi with
 | 0, _ => rfl
 | 1, _ => rfl
 | 2, _ => rfl
 | 3, _ => rfl
 | 4, _ => rfl
attribute [local go_sem ↓] Go.wp_at_zero Go.wp_at_succ
set_option maxHeartbeats 8000000 in
set_option maxRecDepth 100000 in
theorem meetAll_any {F : Nat → Prop} {v : Value} {L : List Tab} {g : Int → R8} {w : World} (next fall wide high : Int) (h : Sto w F v (withRows L g)) (hg : GoodL next L) (hr : RowsOk L g) :
  Calls Tryz.prog 98 #[.agg #[v, .int .i64 next, .int .i64 fall, .int .i64 wide, .int .i64 high]] w fun e w' =>
   (∃ a n c u, e = .returned (.tuple #[.agg #[.slice a n c, .int .i64 next, .int .i64 fall, .int .i64 wide, .int .i64 high], u]) ∧ (∃ F', Sto w' F' (.slice a n c) (withRows L (meetG (mk L) (Sw.pairsG (boxG L g)) g).1) ∧ ∀ b, F' b → F b ∨ w.heap.size ≤ b) ∧
    w'.ownsRow w.heap.size 54 2 u (meetG (mk L) (Sw.pairsG (boxG L g)) g).2.length ((meetG (mk L) (Sw.pairsG (boxG L g)) g).2.flatMap Sw.pairCells)) ∧ Below w.heap.size w w' := by
 obtain ⟨a, n, cap, rfl⟩ := h.one
 obtain ⟨i79, hi79, hz79, hs79, hb79⟩ := info_parts Sw.info79
 have HST := St.hid h
 have HGL := St.hid hg
 have HRO := St.hid hr
 have HBX : Hid (∀ W, Below w.heap.size w W → Calls Tryz.prog 18 #[.agg #[.slice a n cap, .int .i64 next]] W fun e w' =>
   (∃ u, e = .returned u ∧ w'.ownsRow W.heap.size 36 5 u (boxG L g).length ((boxG L g).flatMap Sw.boxCells)) ∧ Below W.heap.size W w') := St.hid (fun W hb => boxes_any next (h.below hb) hg hr)
 have hlb : (boxG L g).length ≤ 10 := by simp [boxG]; exact ids_len hg
 clear h hg hr
 go_enter Tryz.func98, Tryz.ntmps98
 go_wp2_with fail
 have hW0 := St.hid ((rowIs5 w (.slice a n cap) next fall wide high 45).alloc (.cells #[.slice none 0 0, .int .i64 0, .int .i64 0, .int .i64 0, .int .i64 0] 45))
 have hR0 := St.hid (rowIs5 (w.alloc (.cells #[.slice a n cap, .int .i64 next, .int .i64 fall, .int .i64 wide, .int .i64 high] 45)) (.slice none 0 0) 0 0 0 0 45)
 rw [World.size_alloc] at hR0
 refine (HBX.out _ (bal (bal (Below.refl _ _) _) _)).mono ?_
 rintro e w1 ⟨⟨u, rfl, hu⟩, hb1⟩
 obtain ⟨N, hN⟩ : ∃ N, N = (boxG L g).length := ⟨_, rfl⟩
 rw [← hN] at hu
 obtain ⟨au, cu, rfl⟩ := own_form hu
 have hau : au = none → N = 0 := by
  rcases hu.2 with ⟨_, h0⟩ | ⟨g', c', _, e', _⟩
  ·exact fun _ => h0
  ·intro e; rw [e] at e'; cases e'
 have HPR := St.hid (Sw.pairs_any au N cu (boxG L g) w1 hN (by omega) hau (boxL_of hu hN))
 have hW1 := St.hid (rowIs_below hW0.out hb1)
 have hR1 := St.hid (rowIs_below hR0.out hb1)
 have HS1 := St.hid ((HST.out.below (bal (bal (Below.refl _ _) _) _)).below hb1)
 have HB1 := St.hid (bcall (bal (bal (Below.refl _ w) _) _) hb1)
 have hz1 := hb1.size
 simp at hz1
 clear hb1 hu hau hW0 hR0 hN
 go_wp2_with fail
 refine HPR.out.mono ?_
 rintro e w2 ⟨⟨u2, rfl, hu2⟩, hb2⟩
 obtain ⟨P, HP⟩ : ∃ P, Hid (P = Sw.pairsG (boxG L g)) := ⟨_, rfl⟩
 rw [← HP.out] at hu2
 have hP100 : P.length ≤ 100 := by rw [HP.out]; exact pairs_len _ hlb
 obtain ⟨K, hK⟩ : ∃ K, K = P.length := ⟨_, rfl⟩
 rw [← hK] at hu2 hP100
 obtain ⟨ap, cp, rfl⟩ := own_form hu2
 have hW2 := St.hid (rowIs_below hW1.out hb2)
 have hR2 := St.hid (rowIs_below hR1.out hb2)
 have HS2 := St.hid (HS1.out.below hb2)
 have HB2 := St.hid (bcall HB1.out hb2)
 have HI2 := St.hid (owns_mono hu2 (show w.heap.size + 1 + 1 ≤ w1.heap.size from hz1))
 have hz2 := hb2.size
 have HK := St.hid hK
 have HPM : Hid (∀ p ∈ P, p.1 ∈ idsOf 5 L ∧ p.2 ∈ idsOf 5 L) := St.hid (fun p hp => by
  rw [HP.out] at hp
  obtain ⟨x, y, hx, hy, e1, e2⟩ := pair_mem hp
  rw [e1, e2]
  exact ⟨box_mem hx, box_mem hy⟩)
 clear hb2 hu2 hK hlb hW1 hR1 HS1 HB1 HPR HBX
 go_wp2_with fail
 go_loopw [4, 15] (fun u i wr => ∃ (k : Nat) (vk : Value) (Fk : Nat → Prop) (uu : Value), k ≤ K ∧ i = .int .i64 k ∧ uu = u ∧ Hid (wr.rowIs w.heap.size 45 5 (wcell vk next fall wide high)) ∧ Hid (wr.rowIs (w.heap.size + 1) 45 5 (wcell (.slice none 0 0) 0 0 0 0)) ∧
  Hid (wr.ownsRow (w.heap.size + 1 + 1) 54 2 (.slice ap K cp) K (P.flatMap Sw.pairCells)) ∧ Hid (wr.ownsRow (w.heap.size + 1 + 1) 54 2 uu ((P.take k).foldl (meet1 (mk L)) (g, [])).2.length (((P.take k).foldl (meet1 (mk L)) (g, [])).2.flatMap Sw.pairCells)) ∧ Hid (∀ z, (Value.slice ap K cp).ownBlock = some z → uu.ownBlock ≠ some z) ∧
  Hid (Sto wr Fk vk (withRows L ((P.take k).foldl (meet1 (mk L)) (g, [])).1)) ∧ Hid (∀ b, Fk b → F b ∨ w.heap.size + 1 + 1 ≤ b) ∧ Hid (Below w.heap.size w wr) ∧ Hid (w.heap.size + 1 + 1 ≤ wr.heap.size) ∧ Hid (∀ z, uu.ownBlock = some z → ¬ Fk z)) (fun _ i _ => K - (intOf i).toNat)
 case atStart => exact ⟨0, _, F, _, Nat.zero_le _, rfl, rfl, hW2.out, hR2.out, HI2.out, World.ownsRow_nil _ _ _ _, (fun z _ e => by cases e), HS2.out, fun b hb => Or.inl hb, HB2.out, St.hid (by omega), St.hid (fun z e => by cases e)⟩
 case round =>
  obtain ⟨k, vk, Fk, u, hk, rfl, rfl, hW, hR, hI, hO, hA, hS, hF, hB, hz, hFu⟩ := hrel
  obtain ⟨ak, nk, ck, rfl⟩ := hS.out.one
  obtain ⟨x0, x1, x2, x3, x4, xf0, xf1, xf2, xf3, xf4⟩ := wcells hW.out
  have hzz := hz.out
  by_cases hlt : k < K
  ·obtain ⟨⟨pa, pb⟩, hp⟩ : ∃ x, P[k]? = some x := ⟨_, List.getElem?_eq_getElem (by have := HK.out; omega)⟩
   obtain ⟨hma, hmb⟩ := HPM.out _ (List.mem_of_getElem? hp)
   simp only at hma hmb
   obtain ⟨st, HSK⟩ : ∃ st, Hid (st = (P.take k).foldl (meet1 (mk L)) (g, [])) := ⟨_, rfl⟩
   have hok : RowsOk L st.1 := by rw [HSK.out]; exact RowsOk.meet HGL.out.2.2.2.2.2 HRO.out _
   have hS' := hS.out
   have hO' := hO.out
   rw [← HSK.out] at hS' hO'
   have hgk := good_with HGL.out hok
   obtain ⟨h1, ⟨q1, h2⟩, -⟩ := at_ids HGL.out.even HGL.out.2.2.2.2.2 st.1 hma
   obtain ⟨h3, ⟨q2, h4⟩, -⟩ := at_ids HGL.out.even HGL.out.2.2.2.2.2 st.1 hmb
   obtain ⟨ra, HRA⟩ : ∃ r, Hid (r = bodyR (mk L pa) (st.1 pa)) := ⟨_, rfl⟩
   obtain ⟨rb, HRB⟩ : ∃ r, Hid (r = bodyR (mk L pb) (st.1 pb)) := ⟨_, rfl⟩
   obtain ⟨ma, HMA⟩ : ∃ r, Hid (r = (met ra rb).1) := ⟨_, rfl⟩
   obtain ⟨mb, HMB⟩ : ∃ r, Hid (r = (met ra rb).2) := ⟨_, rfl⟩
   obtain ⟨ov, HOV⟩ : ∃ r, Hid (r = overB ra rb) := ⟨_, rfl⟩
   have HBA : Hid (∀ W, Below wr.heap.size wr W → Calls Tryz.prog 118 #[.agg #[.slice ak nk ck, .int .i64 next], .int .i64 pa] W fun e w' => e = .returned (.agg #[.int .i64 ra.x, .int .i64 ra.y, .int .i64 ra.px, .int .i64 ra.py, .int .i64 ra.wd, .int .i64 ra.ht, .int .i64 ra.ms, .int .i64 ra.rr]) ∧ Below W.heap.size W w') :=
    St.hid (fun W hb => by rw [HRA.out]; exact body_any (hS'.below hb) next hgk pa (mk L pa) (st.1 pa) h1)
   have HBB : Hid (∀ W, Below wr.heap.size wr W → Calls Tryz.prog 118 #[.agg #[.slice ak nk ck, .int .i64 next], .int .i64 pb] W fun e w' => e = .returned (.agg #[.int .i64 rb.x, .int .i64 rb.y, .int .i64 rb.px, .int .i64 rb.py, .int .i64 rb.wd, .int .i64 rb.ht, .int .i64 rb.ms, .int .i64 rb.rr]) ∧ Below W.heap.size W w') :=
    St.hid (fun W hb => by rw [HRB.out]; exact body_any (hS'.below hb) next hgk pb (mk L pb) (st.1 pb) h3)
   have HME : Hid (∀ W, Calls Tryz.prog 117 #[.agg #[.int .i64 ra.x, .int .i64 ra.y, .int .i64 ra.px, .int .i64 ra.py, .int .i64 ra.wd, .int .i64 ra.ht, .int .i64 ra.ms, .int .i64 ra.rr], .agg #[.int .i64 rb.x, .int .i64 rb.y, .int .i64 rb.px, .int .i64 rb.py, .int .i64 rb.wd, .int .i64 rb.ht, .int .i64 rb.ms, .int .i64 rb.rr]] W fun e w' => e = .returned (.tuple #[.agg #[.int .i64 ma.x, .int .i64 ma.y, .int .i64 ma.px, .int .i64 ma.py, .int .i64 ma.wd, .int .i64 ma.ht, .int .i64 ma.ms, .int .i64 ma.rr], .agg #[.int .i64 mb.x, .int .i64 mb.y, .int .i64 mb.px, .int .i64 mb.py, .int .i64 mb.wd, .int .i64 mb.ht, .int .i64 mb.ms, .int .i64 mb.rr], .bool ov]) ∧ Below W.heap.size W w') :=
    St.hid (fun W => by rw [HMA.out, HMB.out, HOV.out]; exact meet_any ra rb W)
   obtain ⟨gp, cc, hap⟩ := own_some hI.out (by omega)
   simp only [Value.slice.injEq] at hap
   obtain ⟨rfl, -, rfl⟩ := hap
   have i0 : wr.cell? ⟨gp, k * 2, none⟩ = some (.int .i64 pa) := by have := hI.out.cellAt (k * 2 + 0) (by omega); rw [flat2 P k 0 _ hp (by omega)] at this; exact this
   have i1 : wr.cell? ⟨gp, k * 2 + 1, none⟩ = some (.int .i64 pb) := by have := hI.out.cellAt (k * 2 + 1) (by omega); rw [flat2 P k 1 _ hp (by omega)] at this; exact this
   have HGP := St.hid (hI.out.lt gp rfl)
   have hlt' : (k : Int) < (K : Int) := by omega
   have hK' : (K : Int) ≤ 100 := by omega
   go_wp2_with fail
   have hPB := St.hid (rowIs2 wr (.int .i64 pa) (.int .i64 pb) 54)
   have hW3 := St.hid (hW.out.alloc (.cells #[.int .i64 pa, .int .i64 pb] 54))
   have HB3 := St.hid (bal (Below.refl _ wr) (.cells #[.int .i64 pa, .int .i64 pb] 54))
   have hz3 : wr.heap.size < (wr.alloc (.cells #[.int .i64 pa, .int .i64 pb] 54)).heap.size := by simp
   generalize wr.alloc (.cells #[.int .i64 pa, .int .i64 pb] 54) = W at hPB hW3 HB3 hz3 ⊢
   clear x0 x1 x2 x3 x4 xf0 xf1 xf2 xf3 xf4 i0 i1
   obtain ⟨x0, x1, x2, x3, x4, xf0, xf1, xf2, xf3, xf4⟩ := wcells hW3.out
   have p0 := hPB.out.cell (i := 0) (by omega)
   have p1 := hPB.out.cell (i := 1) (by omega)
   simp at p0 p1
   have hzW : w.heap.size < W.heap.size := by omega
   have HA3 := St.hid (fun (W' : World) (hb : Below W.heap.size W W') => HBA.out W' (bcall HB3.out hb))
   have HB3' := St.hid (fun (W' : World) (hb : Below W.heap.size W W') => HBB.out W' (bcall HB3.out hb))
   go_cut [7, 8, 9] (fun s7 s8 s9 wx => ∃ W' g7 g8, W' = wx ∧ s7 = .pointer (some ⟨g7, 0, none⟩) ∧ s8 = .pointer (some ⟨g8, 0, none⟩) ∧ s9 = .bool ov ∧ W'.rowIs g7 34 8 (fun i => (St.rowCells ma).getD i undef) ∧ W'.rowIs g8 34 8 (fun i => (St.rowCells mb).getD i undef) ∧ Below W.heap.size W W' ∧ W.heap.size ≤ g7 ∧ W.heap.size ≤ g8)
   case first =>
    clear hW hR hI hO hA hS hF hB hS' hO' h1 h2 h3 h4 hok hgk hma hmb HPM HST HGL HRO HBA HBB HB3 hW2 hR2 HS2 HB2 HI2 hi79 hz79 hs79 hb79 x0 x1 x2 x3 x4 xf0 xf1 xf2 xf3 xf4 p0 p1
    refine Rh.wp_act ?_
    intro A hA
    have e1 : A.tmps[1]?.getD undef = .pointer (some ⟨w.heap.size, 0, none⟩) := by rw [hA]; rfl
    have e6 : A.tmps[6]?.getD undef = .pointer (some ⟨wr.heap.size, 0, none⟩) := by rw [hA]; rfl
    have hsz : 33 < A.tmps.size := by rw [hA]; exact Nat.le_of_ble_eq_true rfl
    have HA := St.hid hA
    clear hA
    refine Rs.wp_region (by kernel_rfl) (fun Lf a1 w1 => Hid (Rs.Sl [7, 8, 9, 19, 20, 21, 22, 23, 24, 25, 26, 27, 28, 29, 30, 31, 32, 33] A [(0, 20, .pointer (some ⟨w.heap.size, 0, none⟩)), (1, 21, .agg #[.slice ak nk ck, .int .i64 next]), (2, 22, .pointer (some ⟨wr.heap.size, 0, none⟩)), (3, 23, .int .i64 pa), (4, 24, .agg #[.int .i64 ra.x, .int .i64 ra.y, .int .i64 ra.px, .int .i64 ra.py, .int .i64 ra.wd, .int .i64 ra.ht, .int .i64 ra.ms, .int .i64 ra.rr]), (5, 25, .pointer (some ⟨w.heap.size, 0, none⟩)), (6, 26, .agg #[.slice ak nk ck, .int .i64 next]), (7, 27, .pointer (some ⟨wr.heap.size, 1, none⟩)), (8, 28, .int .i64 pb), (9, 29, .agg #[.int .i64 rb.x, .int .i64 rb.y, .int .i64 rb.px, .int .i64 rb.py, .int .i64 rb.wd, .int .i64 rb.ht, .int .i64 rb.ms, .int .i64 rb.rr]), (10, 30, .tuple #[.agg #[.int .i64 ma.x, .int .i64 ma.y, .int .i64 ma.px, .int .i64 ma.py, .int .i64 ma.wd, .int .i64 ma.ht, .int .i64 ma.ms, .int .i64 ma.rr], .agg #[.int .i64 mb.x, .int .i64 mb.y, .int .i64 mb.px, .int .i64 mb.py, .int .i64 mb.wd, .int .i64 mb.ht, .int .i64 mb.ms, .int .i64 mb.rr], .bool ov]), (11, 19, .tuple #[.agg #[.int .i64 ma.x, .int .i64 ma.y, .int .i64 ma.px, .int .i64 ma.py, .int .i64 ma.wd, .int .i64 ma.ht, .int .i64 ma.ms, .int .i64 ma.rr], .agg #[.int .i64 mb.x, .int .i64 mb.y, .int .i64 mb.px, .int .i64 mb.py, .int .i64 mb.wd, .int .i64 mb.ht, .int .i64 mb.ms, .int .i64 mb.rr], .bool ov]), (12, 31, .agg #[.int .i64 ma.x, .int .i64 ma.y, .int .i64 ma.px, .int .i64 ma.py, .int .i64 ma.wd, .int .i64 ma.ht, .int .i64 ma.ms, .int .i64 ma.rr]), (13, 32, .agg #[.int .i64 mb.x, .int .i64 mb.y, .int .i64 mb.px, .int .i64 mb.py, .int .i64 mb.wd, .int .i64 mb.ht, .int .i64 mb.ms, .int .i64 mb.rr]), (14, 33, .bool ov), (19, 9, .bool ov)] Lf a1) ∧ Hid (Below W.heap.size W w1) ∧ Hid (Lf 15 = true → Al W w1 (a1.tmps[7]?.getD undef) 34 8 (Lf 17) (fun i => (St.rowCells ma).getD i undef)) ∧ Hid (Lf 16 = true → Al W w1 (a1.tmps[8]?.getD undef) 34 8 (Lf 18) (fun i => (St.rowCells mb).getD i undef)) ∧ Hid (Lf 15 = true → Lf 16 = true → a1.tmps[7]?.getD undef ≠ a1.tmps[8]?.getD undef)) (by kernel_rfl) ?rs ?rg ?re
    case rs => exact ⟨Rs.Sl.start hsz rfl, St.hid (Below.drew (Below.refl _ _)), St.hid (fun h => by cases h), St.hid (fun h => by cases h), St.hid (fun h => by cases h)⟩
    case rg =>
     intro Lf a1 w1 hI hC
     obtain ⟨cS, cB, cA, cD, cN⟩ := hI
     iterate 4 (refine ⟨fun hl hd K' hK => ?_, ?_⟩; rotate_left)
     refine ⟨fun hl hd K' hK => ?o4, ?_⟩
     rotate_left
     iterate 4 (refine ⟨fun hl hd K' hK => ?_, ?_⟩; rotate_left)
     refine ⟨fun hl hd K' hK => ?o9, ?_⟩
     rotate_left
     refine ⟨fun hl hd K' hK => ?o10, ?_⟩
     rotate_left
     iterate 4 (refine ⟨fun hl hd K' hK => ?_, ?_⟩; rotate_left)
     refine ⟨fun hl hd K' hK => ?o15, ?_⟩
     rotate_left
     refine ⟨fun hl hd K' hK => ?o16, ?_⟩
     rotate_left
     refine ⟨fun hl hd K' hK => ?o17, ?_⟩
     rotate_left
     refine ⟨fun hl hd K' hK => ?o18, ?_⟩
     rotate_left
     refine ⟨fun hl hd K' hK => ?_, ?_⟩
     rotate_left
     exact trivial
     case o4 =>
      have q0 := Rs.Sl.at cS 1 (Rs.dep hd 1)
      have q1 := Rs.Sl.at cS 3 (Rs.dep hd 3)
      clear hd
      go_simp
      refine (HA3.out _ cB.out).mono ?_
      rintro e w2 ⟨rfl, hb⟩
      go_simp
      exact hK.out (a1.put (some _) _) _ ⟨Rs.Sl.put cS rfl rfl, St.hid (bcall cB.out hb), St.hid (fun h => by rw [Rh.put_ne (by decide)]; exact (cA.out h).below hb), St.hid (fun h => by rw [Rh.put_ne (by decide)]; exact (cD.out h).below hb), St.hid (fun h h' => by rw [Rh.put_ne (by decide), Rh.put_ne (by decide)]; exact cN.out h h')⟩
     case o9 =>
      have q0 := Rs.Sl.at cS 6 (Rs.dep hd 6)
      have q1 := Rs.Sl.at cS 8 (Rs.dep hd 8)
      clear hd
      go_simp
      refine (HB3'.out _ cB.out).mono ?_
      rintro e w2 ⟨rfl, hb⟩
      go_simp
      exact hK.out (a1.put (some _) _) _ ⟨Rs.Sl.put cS rfl rfl, St.hid (bcall cB.out hb), St.hid (fun h => by rw [Rh.put_ne (by decide)]; exact (cA.out h).below hb), St.hid (fun h => by rw [Rh.put_ne (by decide)]; exact (cD.out h).below hb), St.hid (fun h h' => by rw [Rh.put_ne (by decide), Rh.put_ne (by decide)]; exact cN.out h h')⟩
     case o10 =>
      have q0 := Rs.Sl.at cS 4 (Rs.dep hd 4)
      have q1 := Rs.Sl.at cS 9 (Rs.dep hd 9)
      clear hd
      go_simp
      refine (HME.out _).mono ?_
      rintro e w2 ⟨rfl, hb⟩
      go_simp
      exact hK.out (a1.put (some _) _) _ ⟨Rs.Sl.put cS rfl rfl, St.hid (bcall cB.out hb), St.hid (fun h => by rw [Rh.put_ne (by decide)]; exact (cA.out h).below hb), St.hid (fun h => by rw [Rh.put_ne (by decide)]; exact (cD.out h).below hb), St.hid (fun h h' => by rw [Rh.put_ne (by decide), Rh.put_ne (by decide)]; exact cN.out h h')⟩
     case o15 =>
      clear hd
      go_simp
      exact hK.out (a1.put (some _) _) _ ⟨Rs.Sl.free cS rfl rfl, St.hid (bal cB.out _), St.hid (fun _ => ⟨w1.heap.size, zf, Rs.Sl.new cS, cB.out.size, zrow w1 _ rfl, fun h => Rs.no (Rs.late hC hl 17) h⟩), St.hid (fun h => by rw [Rh.put_ne (by decide)]; exact (cD.out h).below (bal (Below.refl _ _) _)), St.hid (fun _ h => by rw [Rs.Sl.new cS, Rh.put_ne (by decide)]; exact (cD.out h).ne)⟩
     case o16 =>
      clear hd
      go_simp
      exact hK.out (a1.put (some _) _) _ ⟨Rs.Sl.free cS rfl rfl, St.hid (bal cB.out _), St.hid (fun h => by rw [Rh.put_ne (by decide)]; exact (cA.out h).below (bal (Below.refl _ _) _)), St.hid (fun _ => ⟨w1.heap.size, zf, Rs.Sl.new cS, cB.out.size, zrow w1 _ rfl, fun h => Rs.no (Rs.late hC hl 18) h⟩), St.hid (fun h _ => by rw [Rs.Sl.new cS, Rh.put_ne (by decide)]; exact (cA.out h).ne.symm)⟩
     case o17 =>
      have q1 := Rs.Sl.at cS 12 (Rs.dep hd 12)
      have H3 := St.hid (Rs.dep hd 15)
      obtain ⟨b3, f3, g3, l3, r3, -⟩ := cA.out H3.out
      obtain ⟨x0, x1, x2, x3, x4, x5, x6, x7, k0, k1, k2, k3, k4, k5, k6, k7⟩ := row8f r3
      have R3 := St.hid r3
      have L3 := St.hid l3
      clear r3 l3 hd e1 e6
      go_simp
      exact hK.out _ _ ⟨Rs.Sl.skip cS rfl, St.hid (below8 cB.out L3.out), St.hid (fun _ => ⟨b3, _, g3, L3.out, row8 R3.out _, fun _ => rfl⟩), St.hid (fun h => by obtain ⟨b, f, e1, e2, e3, e4⟩ := cD.out h; exact ⟨b, f, e1, e2, other8 e3 (fun e => cN.out H3.out h (by rw [g3, e1, e])), e4⟩), cN⟩
     case o18 =>
      have q1 := Rs.Sl.at cS 13 (Rs.dep hd 13)
      have H3 := St.hid (Rs.dep hd 16)
      obtain ⟨b3, f3, g3, l3, r3, -⟩ := cD.out H3.out
      obtain ⟨x0, x1, x2, x3, x4, x5, x6, x7, k0, k1, k2, k3, k4, k5, k6, k7⟩ := row8f r3
      have R3 := St.hid r3
      have L3 := St.hid l3
      clear r3 l3 hd e1 e6
      go_simp
      exact hK.out _ _ ⟨Rs.Sl.skip cS rfl, St.hid (below8 cB.out L3.out), St.hid (fun h => by obtain ⟨b, f, e1, e2, e3, e4⟩ := cA.out h; exact ⟨b, f, e1, e2, other8 e3 (fun e => cN.out h H3.out (by rw [g3, e1, e])), e4⟩), St.hid (fun _ => ⟨b3, _, g3, L3.out, row8 R3.out _, fun _ => rfl⟩), cN⟩
     all_goals
      have z := Rs.Sl.deps cS hd
      clear hd
      repeat (obtain ⟨_, z⟩ := z)
      have y1 := Rs.Sl.old cS e1 rfl
      have y6 := Rs.Sl.old cS e6 rfl
      obtain ⟨x0, x1, -⟩ := wcells (rowIs_below hW3.out cB.out)
      have p0 := (rowIs_below hPB.out cB.out).cell (i := 0) (by omega)
      have p1 := (rowIs_below hPB.out cB.out).cell (i := 1) (by omega)
      simp at p0 p1
      go_simp
      exact hK.out (a1.put (some _) _) _ ⟨Rs.Sl.put cS rfl rfl, cB, St.hid (fun h => by rw [Rh.put_ne (by decide)]; exact cA.out h), St.hid (fun h => by rw [Rh.put_ne (by decide)]; exact cD.out h), St.hid (fun h h' => by rw [Rh.put_ne (by decide), Rh.put_ne (by decide)]; exact cN.out h h')⟩
    case re =>
     intro Lf a1 w1 hI hall
     obtain ⟨cS, cB, cA, cD, cN⟩ := hI
     obtain ⟨b3, f3, g3, l3, r3, p3⟩ := cA.out (hall 15 (by decide))
     obtain ⟨b4, f4, g4, l4, r4, p4⟩ := cD.out (hall 16 (by decide))
     obtain rfl := p3 (hall 17 (by decide))
     obtain rfl := p4 (hall 18 (by decide))
     obtain ⟨f, hf⟩ : ∃ f : Nat → Value, f = fun d => a1.tmps[d]?.getD undef := ⟨_, rfl⟩
     have f7 : f 7 = _ := (congrFun hf 7).trans g3
     have f8 : f 8 = _ := (congrFun hf 8).trans g4
     have f9 : f 9 = _ := (congrFun hf 9).trans (Rs.Sl.at cS 19 (hall 19 (by decide)))
     rw [Rs.Sl.eq cS, ← hf]
     clear hf
     have hA := HA.out
     subst hA
     simp only [Rh.puts, Act.put, f7, f8, f9]
     go_simp
     go_wp2_with fail
     go_meet
     exact ⟨w1, b3, b4, rfl, rfl, rfl, rfl, r3, r4, cB.out, l3, l4⟩
   case rest =>
   obtain ⟨W5, g7, g8, rfl, rfl, rfl, rfl, hr7, hr8, hb5, l7, l8⟩ := hcut
   have hbw := bcall HB3.out hb5
   have hW5 := St.hid (rowIs_below hW3.out hb5)
   have hR5 := St.hid (rowIs_below hR.out hbw)
   have hI5 := St.hid (owns_below hI.out hbw)
   have hO5 := St.hid (owns_below hO' hbw)
   have hS5 := St.hid (hS'.below hbw)
   have hPB5 := St.hid (rowIs_below hPB.out hb5)
   have hB5 := St.hid (bcall hB.out hbw)
   have hr7 := St.hid hr7
   have hr8 := St.hid hr8
   have hz5 : W.heap.size ≤ W5.heap.size := hb5.size
   have HTF : Hid (∀ st', st' = meet1 (mk L) st (pa, pb) → (P.take (k + 1)).foldl (meet1 (mk L)) (g, []) = st') := St.hid (fun st' e => by rw [take_fold _ _ _ _ _ hp, ← HSK.out, e])
   have HLEN : Hid (st.2.length ≤ k) := St.hid (by
    rw [HSK.out]
    refine Nat.le_trans (met_len (mk L) (P.take k) g) ?_
    rw [List.length_take]
    omega)
   have HST' := St.hid hS'
   have HO' := St.hid hO'
   have HGK := St.hid hgk
   have HOK := St.hid hok
   have HAA := St.hid (show At (withRows L st.1) pa (mk L pa) (st.1 pa) ∧ ∃ q, At L pa (mk L pa) q from ⟨h1, q1, h2⟩)
   have HAB := St.hid (show ∃ q, At L pb (mk L pb) q from ⟨q2, h4⟩)
   have hlk := HLEN.out
   clear hb5 hbw x0 x1 x2 x3 x4 xf0 xf1 xf2 xf3 xf4 p0 p1 hS' hO' h1 h2 h3 h4 hok hgk hp hma hmb hW3 hR hI hO hS hPB hB hW HA3 HB3' HBA HBB HME
   cases ov
   ·have HNO : Hid (st = meet1 (mk L) st (pa, pb)) := St.hid (by
     unfold meet1
     rw [if_neg]
     have := HOV.out
     rw [HRA.out, HRB.out] at this
     show ¬ overG (mk L) st.1 (pa, pb) = true
     unfold overG
     rw [← this]
     simp)
    go_wp2_with fail
    go_roundw
    case rel =>
     refine ⟨k + 1, _, Fk, u, by omega, by go_num, rfl, hW5.out, hR5.out, hI5.out, ?_, hA, ?_, hF, hB5.out, St.hid (by omega), hFu⟩
     ·rw [HTF.out st HNO.out]; exact hO5.out
     ·rw [HTF.out st HNO.out]; exact hS5.out
    case measure => simp [intOf]; omega
   ·have HYES : Hid ((putG (mk L) (putG (mk L) st.1 pa ma) pb mb, st.2 ++ [(pa, pb)]) = meet1 (mk L) st (pa, pb)) := St.hid (by
     unfold meet1
     have := HOV.out
     rw [HRA.out, HRB.out] at this
     rw [if_pos (show overG (mk L) st.1 (pa, pb) = true from this.symm), HMA.out, HMB.out, HRA.out, HRB.out])
    have p0 := hPB5.out.cell (i := 0) (by omega)
    have p1 := hPB5.out.cell (i := 1) (by omega)
    simp at p0 p1
    go_wp2_with (at_builtin; refine wpList_append_own_at _ rfl _ _ 29 rfl (w.heap.size + 1 + 1) 54 i79 (.agg #[.int .i64 0, .int .i64 0]) 2 16 Tryz.underlying29 hi79 hz79 hs79 hb79 rfl (by decide) _ _ _ rfl (hO5.out.alloc _) ⟨W5.heap.size, 0, none⟩ 1 1 [.int .i64 pa, .int .i64 pb] rfl ?c1 ?c2 ?c3 ?c4 ?c5 ?c6 ?_)
    case c1 => rfl
    case c2 =>
     intro j u hj
     match j, hj with
     | 0, hj => cases hj; simp [Addr.add]
     | 1, hj => cases hj; simp [Addr.add]
    case c3 => intro u hu; simp at hu; rcases hu with rfl | rfl <;> rfl
    case c4 => unfold maxLen; omega
    case c5 => omega
    case c6 => simp; omega
    intro v6 w6 hown6 hg6 _ hat6
    have hub : ∀ z, u.ownBlock = some z → w.heap.size + 1 + 1 ≤ z ∧ z < wr.heap.size := fun z hz => HO'.out.lt z hz
    have e0 : u.ownBlock ≠ some w.heap.size := fun e => by have := (hub _ e).1; omega
    have e1 : u.ownBlock ≠ some (w.heap.size + 1) := fun e => by have := (hub _ e).1; omega
    have e2 : u.ownBlock ≠ some wr.heap.size := fun e => by have := (hub _ e).2; omega
    have e7 : u.ownBlock ≠ some g7 := fun e => by have := (hub _ e).2; omega
    have e8 : u.ownBlock ≠ some g8 := fun e => by have := (hub _ e).2; omega
    have hW6 := St.hid (rowIs_grown (hW5.out.alloc _) hg6 e0)
    have hR6 := St.hid (rowIs_grown (hR5.out.alloc _) hg6 e1)
    have hPB6 := St.hid (rowIs_grown (hPB5.out.alloc _) hg6 e2)
    have hr76 := St.hid (rowIs_grown (hr7.out.alloc _) hg6 e7)
    have hr86 := St.hid (rowIs_grown (hr8.out.alloc _) hg6 e8)
    have hI6 := St.hid (owns_kept (hI5.out.alloc _) hg6 (fun z hz e => hA.out z hz e))
    have hs5' := hS5.out.below (bal (Below.refl _ W5) (.cells #[.int .i64 pa, .int .i64 pb] 54))
    have hS6 := St.hid (hs5'.keep hg6.size (fun b hb => hg6.block b (hs5'.lt hb) (fun e => hFu.out b e.symm hb)))
    have hB6 := St.hid ((bal hB5.out (.cells #[.int .i64 pa, .int .i64 pb] 54)).grown hg6 (by simp; omega) (fun z hz => by have := (hub z hz).1; omega))
    have hO6 := St.hid hown6
    have hz6 : W5.heap.size < w6.heap.size := by have := hg6.size; simp at this; omega
    have hv6 : Hid (∀ z, v6.ownBlock = some z → ¬ Fk z ∧ z < w6.heap.size ∧ ∀ y, (Value.slice (some ⟨gp, 0, none⟩) K cp).ownBlock = some y → y ≠ z) := St.hid (fun z hz => by
     have hzl := (hO6.out.lt z hz).2
     rcases hat6 with h | h
     ·rw [h] at hz
      refine ⟨hFu.out z hz, hzl, fun y hy e => hA.out y hy (by rw [e]; exact hz)⟩
     ·rw [h] at hz
      simp at hz
      refine ⟨fun hc => by have := HST'.out.lt hc; omega, hzl, fun y hy e => ?_⟩
      have := (hI5.out.lt y hy).2
      omega)
    have HP1 : Hid (∀ W', Below w6.heap.size w6 W' → Calls Tryz.prog 115 #[.agg #[.slice ak nk ck, .int .i64 next], .int .i64 pa, .agg #[.int .i64 ma.x, .int .i64 ma.y, .int .i64 ma.px, .int .i64 ma.py, .int .i64 ma.wd, .int .i64 ma.ht, .int .i64 ma.ms, .int .i64 ma.rr]] W' fun e w' =>
      (∃ a n c, e = .returned (.agg #[.slice a n c, .int .i64 next]) ∧ ∃ F', Sto w' F' (.slice a n c) (withRows L (putG (mk L) st.1 pa ma)) ∧ ∀ b, F' b → Fk b ∨ W'.heap.size ≤ b) ∧ Below W'.heap.size W' w') := St.hid (fun W' hb => by
     obtain ⟨h1, q, h2⟩ := HAA.out
     have := put_any (hS6.out.below hb) next HGK.out pa (mk L pa) (st.1 pa) ma h1
     rw [putL_with HGL.out.2.2.2.2.2 h2] at this
     exact this)
    have HP2 : Hid (∀ W' a1 n1 c1 F1, Sto W' F1 (.slice a1 n1 c1) (withRows L (putG (mk L) st.1 pa ma)) → Calls Tryz.prog 115 #[.agg #[.slice a1 n1 c1, .int .i64 next], .int .i64 pb, .agg #[.int .i64 mb.x, .int .i64 mb.y, .int .i64 mb.px, .int .i64 mb.py, .int .i64 mb.wd, .int .i64 mb.ht, .int .i64 mb.ms, .int .i64 mb.rr]] W' fun e w' =>
      (∃ a n c, e = .returned (.agg #[.slice a n c, .int .i64 next]) ∧ ∃ F', Sto w' F' (.slice a n c) (withRows L (putG (mk L) (putG (mk L) st.1 pa ma) pb mb)) ∧ ∀ b, F' b → F1 b ∨ W'.heap.size ≤ b) ∧ Below W'.heap.size W' w') := St.hid (fun W' a1 n1 c1 F1 hs => by
     obtain ⟨q, h2⟩ := HAB.out
     have := put_any hs next (good_with HGL.out (RowsOk.put HGL.out.2.2.2.2.2 HOK.out pa ma)) pb (mk L pb) ((putG (mk L) st.1 pa ma) pb) mb ((at_with HGL.out.even _).2 ⟨⟨q, h2⟩, rfl⟩)
     rw [putL_with HGL.out.2.2.2.2.2 h2] at this
     exact this)
    clear hown6 hg6 hat6 p0 p1 hub e0 e1 e2 e7 e8 hs5' hW5 hR5 hPB5 hr7 hr8 hI5 hS5 hB5 hO5
    go_wp2_with fail
    have hnoF : ∀ F2 : Nat → Prop, (∀ b, F2 b → Fk b ∨ w6.heap.size ≤ b) → ¬ F2 w.heap.size := fun F2 h hc => by
     rcases h _ hc with h | h
     ·rcases hF.out _ h with h | h
      ·have := HST.out.lt h; omega
      ·omega
     ·omega
    refine Rh.wp_act ?_
    intro A hA
    have e1 : A.tmps[1]?.getD undef = .pointer (some ⟨w.heap.size, 0, none⟩) := by rw [hA]; rfl
    have e6 : A.tmps[6]?.getD undef = .pointer (some ⟨wr.heap.size, 0, none⟩) := by rw [hA]; rfl
    have e7 : A.tmps[7]?.getD undef = .pointer (some ⟨g7, 0, none⟩) := by rw [hA]; rfl
    have e8 : A.tmps[8]?.getD undef = .pointer (some ⟨g8, 0, none⟩) := by rw [hA]; rfl
    have hsz : 49 < A.tmps.size := by rw [hA]; exact Nat.le_of_ble_eq_true rfl
    have HA := St.hid hA
    clear hA
    refine Rs.wp_region (by kernel_rfl) (fun Lf a1 w1 => Hid (Rs.Sl [39, 40, 41, 42, 43, 44, 45, 46, 47, 48, 49] A [(0, 39, .pointer (some ⟨w.heap.size, 0, none⟩)), (1, 40, .agg #[.slice ak nk ck, .int .i64 next]), (2, 41, .pointer (some ⟨wr.heap.size, 0, none⟩)), (3, 42, .int .i64 pa), (4, 43, .agg #[.int .i64 ma.x, .int .i64 ma.y, .int .i64 ma.px, .int .i64 ma.py, .int .i64 ma.wd, .int .i64 ma.ht, .int .i64 ma.ms, .int .i64 ma.rr]), (6, 45, .pointer (some ⟨wr.heap.size, 1, none⟩)), (7, 46, .int .i64 pb), (8, 47, .agg #[.int .i64 mb.x, .int .i64 mb.y, .int .i64 mb.px, .int .i64 mb.py, .int .i64 mb.wd, .int .i64 mb.ht, .int .i64 mb.ms, .int .i64 mb.rr]), (10, 49, .pointer (some ⟨w.heap.size, 0, none⟩))] Lf a1) ∧ Hid (Lf 11 = false → Below w6.heap.size w6 w1) ∧ Hid (Lf 5 = true → Lf 11 = false → ∃ (a1' : Option Addr) (n1 d1 : Nat) (F1 : Nat → Prop), a1.tmps[44]?.getD undef = .agg #[.slice a1' n1 d1, .int .i64 next] ∧ Sto w1 F1 (.slice a1' n1 d1) (withRows L (putG (mk L) st.1 pa ma)) ∧ ∀ b, F1 b → Fk b ∨ w6.heap.size ≤ b) ∧ Hid (Lf 9 = true → Lf 11 = false → ∃ (a1' : Option Addr) (n1 d1 : Nat) (F1 : Nat → Prop), a1.tmps[48]?.getD undef = .agg #[.slice a1' n1 d1, .int .i64 next] ∧ Sto w1 F1 (.slice a1' n1 d1) (withRows L (putG (mk L) (putG (mk L) st.1 pa ma) pb mb)) ∧ ∀ b, F1 b → Fk b ∨ w6.heap.size ≤ b) ∧ Hid (Lf 11 = true → ∃ (a2 : Option Addr) (n2 d2 : Nat) (F2 : Nat → Prop), w6.grownBy w1 (some w.heap.size) ∧ w1.rowIs w.heap.size 45 5 (wcell (.slice a2 n2 d2) next fall wide high) ∧ Sto w1 F2 (.slice a2 n2 d2) (withRows L (putG (mk L) (putG (mk L) st.1 pa ma) pb mb)) ∧ ∀ b, F2 b → Fk b ∨ w6.heap.size ≤ b)) (by kernel_rfl) ?rs ?rg ?re
    case rs => exact ⟨Rs.Sl.start hsz rfl, St.hid (fun _ => Below.drew (Below.refl _ w6)), St.hid (fun h => by cases h), St.hid (fun h => by cases h), St.hid (fun h => by cases h)⟩
    case rg =>
     intro Lf a1 w1 hI hC
     obtain ⟨cS, cB, c5, c9, cF⟩ := hI
     iterate 5 (refine ⟨fun hl hd K' hK => ?_, ?_⟩; rotate_left)
     refine ⟨fun hl hd K' hK => ?o5, ?_⟩
     rotate_left
     iterate 3 (refine ⟨fun hl hd K' hK => ?_, ?_⟩; rotate_left)
     refine ⟨fun hl hd K' hK => ?o9, ?_⟩
     rotate_left
     refine ⟨fun hl hd K' hK => ?_, ?_⟩
     rotate_left
     refine ⟨fun hl hd K' hK => ?o11, ?_⟩
     rotate_left
     exact trivial
     case o5 =>
      have q0 := Rs.Sl.at cS 1 (Rs.dep hd 1)
      have q1 := Rs.Sl.at cS 3 (Rs.dep hd 3)
      have q2 := Rs.Sl.at cS 4 (Rs.dep hd 4)
      have h11 := Rs.late hC hl 11
      have hbel := cB.out h11
      clear hd
      go_simp
      refine (HP1.out _ hbel).mono ?_
      rintro e w2 ⟨⟨a2, n1, d1, rfl, F1, hs1, hF1⟩, hb⟩
      go_simp
      exact hK.out (a1.put (some _) _) _ ⟨Rs.Sl.free cS rfl rfl, St.hid (fun _ => bcall hbel hb), St.hid (fun _ _ => ⟨a2, n1, d1, F1, Rs.Sl.new cS, hs1, fun b hb2 => (hF1 b hb2).imp id (fun h => Nat.le_trans hbel.size h)⟩), St.hid (fun h _ => Rs.no (Rs.late hC hl 9) h), St.hid (fun h => Rs.no h11 h)⟩
     case o9 =>
      have h11 := Rs.late hC hl 11
      have hbel := cB.out h11
      obtain ⟨a1', n1, d1, F1, q5, hs1, hF1⟩ := c5.out (Rs.dep hd 5) h11
      have q7 := Rs.Sl.at cS 7 (Rs.dep hd 7)
      have q8 := Rs.Sl.at cS 8 (Rs.dep hd 8)
      have h5 := Rs.dep hd 5
      clear hd
      go_simp
      refine (HP2.out _ _ _ _ _ hs1).mono ?_
      rintro e w2 ⟨⟨a2, n2, d2, rfl, F2, hs2, hF2⟩, hb⟩
      go_simp
      exact hK.out (a1.put (some _) _) _ ⟨Rs.Sl.free cS rfl rfl, St.hid (fun _ => bcall hbel hb), St.hid (fun _ _ => ⟨a1', n1, d1, F1, (Rh.put_ne (by decide)).trans q5, hs1.below hb, hF1⟩), St.hid (fun _ _ => ⟨a2, n2, d2, F2, Rs.Sl.new cS, hs2, fun b hb2 => (hF2 b hb2).elim (hF1 b) (fun h => Or.inr (Nat.le_trans hbel.size h))⟩), St.hid (fun h => Rs.no h11 h)⟩
     case o11 =>
      have q0 := Rs.Sl.at cS 10 (Rs.dep hd 10)
      obtain ⟨a2, n2, d2, F2, q1, hs2, hF2⟩ := c9.out (Rs.dep hd 9) hl
      have hbel := cB.out hl
      obtain ⟨x0, x1, x2, x3, x4, y0, y1, y2, y3, y4⟩ := wcells (rowIs_below hW6.out hbel)
      clear hd e1 e6 e7 e8
      go_simp
      exact hK.out _ _ ⟨Rs.Sl.skip cS rfl, St.hid (fun h => Rs.no h rfl), St.hid (fun _ h => Rs.no h rfl), St.hid (fun _ h => Rs.no h rfl), St.hid (fun _ => ⟨a2, n2, d2, F2, (grown_none (grown_of_below hbel)).trans ((grown_set _ _ _ _).trans (grown_set _ _ _ _)), set_world (rowIs_below hW6.out hbel) _, (hs2.setCell (hnoF F2 hF2) _ _).setCell (hnoF F2 hF2) _ _, hF2⟩)⟩
     all_goals
      have z := Rs.Sl.deps cS hd
      clear hd
      repeat (obtain ⟨_, z⟩ := z)
      have y1 := Rs.Sl.old cS e1 rfl
      have y6 := Rs.Sl.old cS e6 rfl
      have y7 := Rs.Sl.old cS e7 rfl
      have y8 := Rs.Sl.old cS e8 rfl
      have h11 := Rs.late hC hl 11
      have hbel := cB.out h11
      obtain ⟨x0, x1, x2, x3, x4, y0, y1, y2, y3, y4⟩ := wcells (rowIs_below hW6.out hbel)
      have p0 := (rowIs_below hPB6.out hbel).cell (i := 0) (by omega)
      have p1 := (rowIs_below hPB6.out hbel).cell (i := 1) (by omega)
      simp at p0 p1
      obtain ⟨k0, k1, k2, k3, k4, k5, k6, k7⟩ := row8c (rowIs_below hr76.out hbel)
      obtain ⟨l0, l1, l2, l3, l4, l5, l6, l7⟩ := row8c (rowIs_below hr86.out hbel)
      go_simp
      exact hK.out (a1.put (some _) _) _ ⟨Rs.Sl.put cS rfl rfl, cB, St.hid (fun h h' => by rw [Rh.put_ne (by decide)]; exact c5.out h h'), St.hid (fun h h' => by rw [Rh.put_ne (by decide)]; exact c9.out h h'), cF⟩
    case re =>
     intro Lf a1 w1 hI hall
     obtain ⟨cS, cB, c5, c9, cF⟩ := hI
     obtain ⟨a2, n2, d2, F2, hg8, hW8, hS8, hF8⟩ := cF.out (hall 11 (by decide))
     have hub : ∀ z, v6.ownBlock = some z → w.heap.size + 1 + 1 ≤ z := fun z hz => (hO6.out.lt z hz).1
     have hpb : ∀ z, (Value.slice (some ⟨gp, 0, none⟩) K cp).ownBlock = some z → w.heap.size + 1 + 1 ≤ z := fun z hz => (hI6.out.lt z hz).1
     have hW8 := St.hid hW8
     have hR8 := St.hid (rowIs_grown hR6.out hg8 (by simp))
     have hI8 := St.hid (owns_kept hI6.out hg8 (fun z hz e => by have := hpb z hz; simp at e; omega))
     have hO8 := St.hid (owns_kept hO6.out hg8 (fun z hz e => by have := hub z hz; simp at e; omega))
     have hB8 := St.hid (below_grown hB6.out hg8 (by have := hB6.out.size; omega) (Nat.le_refl _))
     have hS8 := St.hid hS8
     have hz8 := hg8.size
     have HFN : Hid (∀ b, F2 b → F b ∨ w.heap.size + 1 + 1 ≤ b) := St.hid (fun b hb => by
      rcases hF8 b hb with h | h
      ·exact hF.out b h
      ·exact Or.inr (by omega))
     have HFV : Hid (∀ z, v6.ownBlock = some z → ¬ F2 z) := St.hid (fun z hz hc => by
      rcases hF8 z hc with h | h
      ·exact (hv6.out z hz).1 h
      ·have := (hv6.out z hz).2.1; omega)
     clear hg8 hF8 hub hpb hnoF hO6 hI6 hW6 hR6 hPB6 hr76 hr86 hS6 hB6 HP1 HP2
     rw [Rs.Sl.eq cS]
     have hA := HA.out
     subst hA
     simp only [Rh.puts, Act.put]
     go_simp
     go_wp2_with fail
     go_roundw
     case rel =>
      refine ⟨k + 1, _, F2, v6, by omega, by go_num, rfl, hW8.out, hR8.out, hI8.out, ?_, ?_, ?_, HFN.out, hB8.out, St.hid (by omega), HFV.out⟩
      ·rw [HTF.out _ HYES.out]
       have := hO8.out
       simp only [List.length_append, List.length_cons, List.length_nil, List.flatMap_append]
       exact this
      ·exact St.hid (fun y hy e => (hv6.out y e).2.2 y hy rfl)
      ·rw [HTF.out _ HYES.out]
       exact hS8.out
     case measure => simp [intOf]; omega
  ·obtain ⟨y0, y1, y2, y3, y4, yf0, yf1, yf2, yf3, yf4⟩ := wcells hR.out
   have hke : Hid (P.take k = P) := St.hid (by rw [List.take_of_length_le]; have := HK.out; omega)
   go_wp2_with fail
   refine bodyPost_ret (v := .tuple #[.agg #[.slice ak nk ck, .int .i64 next, .int .i64 fall, .int .i64 wide, .int .i64 high], u]) (by simp [results, Tryz.results98, go_sem, y0, y1, y2, y3, y4]) rfl ⟨⟨ak, nk, ck, u, rfl, ⟨Fk, ?_, fun b hb => ?_⟩, ?_⟩, ?_⟩
   ·have h1 := hS.out
    rw [hke.out, HP.out] at h1
    have hno : ¬ Fk (w.heap.size + 1) := fun hc => by
     rcases hF.out _ hc with h | h
     ·have := HST.out.lt h; omega
     ·omega
    exact ((((h1.setCell hno _ _).setCell hno _ _).setCell hno _ _).setCell hno _ _).setCell hno _ _
   ·rcases hF.out b hb with h | h
    ·exact Or.inl h
    ·exact Or.inr (by omega)
   ·have h1 := hO.out
    rw [hke.out, HP.out] at h1
    have hne : u.ownBlock ≠ some (w.heap.size + 1) := fun e => by have := (h1.lt _ e).1; omega
    exact owns_mono (owns_set (owns_set (owns_set (owns_set (owns_set h1 hne _ _) hne _ _) hne _ _) hne _ _) hne _ _) (by omega)
   ·iterate 5 refine Below.setCell ?_ (by simp) _
    exact hB.out
end Wd
end Go.Proofs.YtckkkdldljhehacGreat
