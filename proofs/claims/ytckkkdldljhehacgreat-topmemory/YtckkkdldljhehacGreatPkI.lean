/- What meetAll of package world answers over a good world: pair by pair of boxes that overlap, both have met; which pairs have; nothing that was in memory before has changed. -/
import Derived.Test.YtckkkdldljhehacGreatPkH
import Derived.Test.YtckkkdldljhehacGreatPkG
import Derived.Maps.AppendAt
import Derived.Deep.DeepFit
import Derived.Deep.RegionHeld3
namespace Go.Proofs.YtckkkdldljhehacGreat.Wd
open Go.Proofs.YtckkkdldljhehacGreat.Num Go.Proofs.YtckkkdldljhehacGreat.St
open Go.ChangeShapes Go.WideShapes Go.ChangeAt Go.RowKit

theorem flat5 (l : List Sw.B5) (i s : Nat) (x : Sw.B5) (hi : l[i]? = some x) (hs : s < 5) : (l.flatMap Sw.boxCells)[i * 5 + s]? = (Sw.boxCells x)[s]? := by
  induction l generalizing i with
  | nil => simp at hi
  | cons r l ih =>
    rw [List.flatMap_cons]
    have e : (Sw.boxCells r).length = 5 := rfl
    cases i with
    | zero => simp at hi; subst hi; rw [Nat.zero_mul, Nat.zero_add, List.getElem?_append_left (by rw [e]; exact hs)]
    | succ i => rw [List.getElem?_append_right (by rw [e]; omega), e, show (i + 1) * 5 + s - 5 = i * 5 + s by omega, ih i (by simpa using hi)]
theorem boxL_of {w : World} {B n c : Nat} {a : Option Addr} {l : List Sw.B5} (h : w.ownsRow B 36 5 (.slice a n c) n (l.flatMap Sw.boxCells)) (hn : n = l.length) : Sw.BoxL w a l := by
  intro hp
  obtain ⟨g, c', e⟩ := own_some h (by omega)
  cases e
  refine ⟨g, 0, rfl, (h.lt g rfl).2, fun i x hx => ?_⟩
  have hlt := (List.getElem?_eq_some_iff.1 hx).1
  have key : ∀ s, s < 5 → w.cell? ⟨g, 0 + i * 5 + s, none⟩ = (Sw.boxCells x)[s]? := fun s hs => by
    rw [Nat.zero_add, h.cellAt (i * 5 + s) (by omega), flat5 l i s x hx hs]
  exact ⟨key 0 (by omega), key 1 (by omega), key 2 (by omega), key 3 (by omega), key 4 (by omega)⟩
theorem flat2 (l : List (Int × Int)) (i s : Nat) (x : Int × Int) (hi : l[i]? = some x) (hs : s < 2) : (l.flatMap Sw.pairCells)[i * 2 + s]? = (Sw.pairCells x)[s]? := by
  induction l generalizing i with
  | nil => simp at hi
  | cons r l ih =>
    rw [List.flatMap_cons]
    have e : (Sw.pairCells r).length = 2 := rfl
    cases i with
    | zero => simp at hi; subst hi; rw [Nat.zero_mul, Nat.zero_add, List.getElem?_append_left (by rw [e]; exact hs)]
    | succ i => rw [List.getElem?_append_right (by rw [e]; omega), e, show (i + 1) * 2 + s - 2 = i * 2 + s by omega, ih i (by simpa using hi)]

def zf (i : Nat) : Value := (St.rowCells zeroR).getD i undef
theorem zrow (w : World) (b : Nat) (h : w.heap.size = b) : (w.alloc (.cells #[.int .i64 0, .int .i64 0, .int .i64 0, .int .i64 0, .int .i64 0, .int .i64 0, .int .i64 0, .int .i64 0] 34)).rowIs b 34 8 zf := by
  subst h
  exact St.rowIs8 w zeroR 34
theorem rfacts {W : World} {b : Nat} {t : TypeId} {f : Nat → Value} (h : W.rowIs b t 8 f) : W.cell? ⟨b, 0, none⟩ = some (f 0) ∧ W.cell? ⟨b, 1, none⟩ = some (f 1) ∧ W.cell? ⟨b, 2, none⟩ = some (f 2) ∧ W.cell? ⟨b, 3, none⟩ = some (f 3) ∧ W.cell? ⟨b, 4, none⟩ = some (f 4) ∧ W.cell? ⟨b, 5, none⟩ = some (f 5) ∧ W.cell? ⟨b, 6, none⟩ = some (f 6) ∧ W.cell? ⟨b, 7, none⟩ = some (f 7) ∧
    W.frozen? ⟨b, 0, none⟩ = false ∧ W.frozen? ⟨b, 1, none⟩ = false ∧ W.frozen? ⟨b, 2, none⟩ = false ∧ W.frozen? ⟨b, 3, none⟩ = false ∧ W.frozen? ⟨b, 4, none⟩ = false ∧ W.frozen? ⟨b, 5, none⟩ = false ∧ W.frozen? ⟨b, 6, none⟩ = false ∧ W.frozen? ⟨b, 7, none⟩ = false ∧ b < W.heap.size :=
  ⟨h.cell (i := 0) (by omega), h.cell (i := 1) (by omega), h.cell (i := 2) (by omega), h.cell (i := 3) (by omega), h.cell (i := 4) (by omega), h.cell (i := 5) (by omega), h.cell (i := 6) (by omega), h.cell (i := 7) (by omega), h.frozen 0, h.frozen 1, h.frozen 2, h.frozen 3, h.frozen 4, h.frozen 5, h.frozen 6, h.frozen 7, h.lt⟩
/-- Eight cells written. -/
abbrev put8 (W : World) (g : Nat) (r : R8) : World := (((((((W.setCell ⟨g, 0, none⟩ (.int .i64 r.x)).setCell ⟨g, 1, none⟩ (.int .i64 r.y)).setCell ⟨g, 2, none⟩ (.int .i64 r.px)).setCell ⟨g, 3, none⟩ (.int .i64 r.py)).setCell ⟨g, 4, none⟩ (.int .i64 r.wd)).setCell ⟨g, 5, none⟩ (.int .i64 r.ht)).setCell ⟨g, 6, none⟩ (.int .i64 r.ms)).setCell ⟨g, 7, none⟩ (.int .i64 r.rr)
theorem row8 {W : World} {g : Nat} {t : TypeId} {f : Nat → Value} (h : W.rowIs g t 8 f) (r : R8) : (put8 W g r).rowIs g t 8 (fun i => (St.rowCells r).getD i undef) := by
  refine ((((((((h.set 0 _).set 1 _).set 2 _).set 3 _).set 4 _).set 5 _).set 6 _).set 7 _).congr (fun i hi => ?_)
  match i, hi with
  | 0, _ => rfl
  | 1, _ => rfl
  | 2, _ => rfl
  | 3, _ => rfl
  | 4, _ => rfl
  | 5, _ => rfl
  | 6, _ => rfl
  | 7, _ => rfl
theorem grown8 (W : World) (g : Nat) (r : R8) : W.grownBy (put8 W g r) (some g) :=
  (((((((grown_set W g _ _).trans (grown_set _ g _ _)).trans (grown_set _ g _ _)).trans (grown_set _ g _ _)).trans (grown_set _ g _ _)).trans (grown_set _ g _ _)).trans (grown_set _ g _ _)).trans (grown_set _ g _ _)
theorem other8 {W : World} {g b n : Nat} {t : TypeId} {f : Nat → Value} {r : R8} (h : W.rowIs b t n f) (hne : b ≠ g) : (put8 W g r).rowIs b t n f := rowIs_grown h (grown8 W g r) (fun e => hne (by cases e; rfl))
theorem below8 {w W : World} {g : Nat} {r : R8} (h : Below w.heap.size w W) (hg : w.heap.size ≤ g) : Below w.heap.size w (put8 W g r) := below_grown h (grown8 W g r) h.size hg
theorem grown_none {w w' : World} {row : Option Nat} (h : w.grownBy w' none) : w.grownBy w' row := ⟨h.os, h.tape, h.output, h.size, fun b hb _ => h.block b hb (by simp)⟩
theorem set_world {W : World} {b : Nat} {v : Value} {next fall wide high : Int} (h : W.rowIs b 45 5 (wcell v next fall wide high)) (u : Value) : ((W.setCell ⟨b, 0, none⟩ u).setCell ⟨b, 1, none⟩ (.int .i64 next)).rowIs b 45 5 (wcell u next fall wide high) := by
  refine ((h.set 0 _).set 1 _).congr (fun i hi => ?_)
  match i, hi with
  | 0, _ => rfl
  | 1, _ => rfl
  | 2, _ => rfl
  | 3, _ => rfl
  | 4, _ => rfl
attribute [local go_sem ↓] Go.wp_at_zero Go.wp_at_succ
set_option maxHeartbeats 8000000 in
set_option maxRecDepth 100000 in
theorem meetAll_any {F : Nat → Prop} {v : Value} {L : List Tab} {g : Int → R8} {w : World} (next fall wide high : Int) (h : Sto w F v (withRows L g)) (hg : GoodL next L) (hr : RowsOk L g) :
    Calls Tryz.prog 98 #[.agg #[v, .int .i64 next, .int .i64 fall, .int .i64 wide, .int .i64 high]] w fun e w' =>
      (∃ a n c u, e = .returned (.tuple #[.agg #[.slice a n c, .int .i64 next, .int .i64 fall, .int .i64 wide, .int .i64 high], u]) ∧ (∃ F', Sto w' F' (.slice a n c) (withRows L (meetG (mk L) (Sw.pairsG (boxG L g)) g).1) ∧ ∀ b, F' b → F b ∨ w.heap.size ≤ b) ∧
        w'.ownsRow w.heap.size 54 2 u (meetG (mk L) (Sw.pairsG (boxG L g)) g).2.length ((meetG (mk L) (Sw.pairsG (boxG L g)) g).2.flatMap Sw.pairCells)) ∧ Below w.heap.size w w' := by
  obtain ⟨a, n, cap, rfl⟩ := h.one
  obtain ⟨i79, hi79, hz79, hs79, hb79⟩ := info_parts Sw.info79
  have HST := St.hid h
  have HGL := St.hid hg
  have HRO := St.hid hr
  have HBX : Hid (∀ W, Below w.heap.size w W → Calls Tryz.prog 18 #[.agg #[.slice a n cap, .int .i64 next]] W fun e w' =>
      (∃ u, e = .returned u ∧ w'.ownsRow W.heap.size 36 5 u (boxG L g).length ((boxG L g).flatMap Sw.boxCells)) ∧ Below W.heap.size W w') := St.hid (fun W hb => boxes_any next (h.below hb) hg hr)
  have hlb : (boxG L g).length ≤ 10 := by simp [boxG]; exact ids_len hg
  clear h hg hr
  go_enter Tryz.func98, Tryz.ntmps98
  go_wp2_with fail
  have hW0 := St.hid ((rowIs5 w (.slice a n cap) next fall wide high 45).alloc (.cells #[.slice none 0 0, .int .i64 0, .int .i64 0, .int .i64 0, .int .i64 0] 45))
  have hR0 := St.hid (rowIs5 (w.alloc (.cells #[.slice a n cap, .int .i64 next, .int .i64 fall, .int .i64 wide, .int .i64 high] 45)) (.slice none 0 0) 0 0 0 0 45)
  rw [World.size_alloc] at hR0
  refine (HBX.out _ (bal (bal (Below.refl _ _) _) _)).mono ?_
  rintro e w1 ⟨⟨u, rfl, hu⟩, hb1⟩
  obtain ⟨N, hN⟩ : ∃ N, N = (boxG L g).length := ⟨_, rfl⟩
  rw [← hN] at hu
  obtain ⟨au, cu, rfl⟩ := own_form hu
  have hau : au = none → N = 0 := by
    rcases hu.2 with ⟨_, h0⟩ | ⟨g', c', _, e', _⟩
    · exact fun _ => h0
    · intro e; rw [e] at e'; cases e'
  have HPR := St.hid (Sw.pairs_any au N cu (boxG L g) w1 hN (by omega) hau (boxL_of hu hN))
  have hW1 := St.hid (rowIs_below hW0.out hb1)
  have hR1 := St.hid (rowIs_below hR0.out hb1)
  have HS1 := St.hid ((HST.out.below (bal (bal (Below.refl _ _) _) _)).below hb1)
  have HB1 := St.hid (bcall (bal (bal (Below.refl _ w) _) _) hb1)
  have hz1 := hb1.size
  simp at hz1
  clear hb1 hu hau hW0 hR0 hN
  go_wp2_with fail
  refine HPR.out.mono ?_
  rintro e w2 ⟨⟨u2, rfl, hu2⟩, hb2⟩
  obtain ⟨P, HP⟩ : ∃ P, Hid (P = Sw.pairsG (boxG L g)) := ⟨_, rfl⟩
  rw [← HP.out] at hu2
  have hP100 : P.length ≤ 100 := by rw [HP.out]; exact pairs_len _ hlb
  obtain ⟨K, hK⟩ : ∃ K, K = P.length := ⟨_, rfl⟩
  rw [← hK] at hu2 hP100
  obtain ⟨ap, cp, rfl⟩ := own_form hu2
  have hW2 := St.hid (rowIs_below hW1.out hb2)
  have hR2 := St.hid (rowIs_below hR1.out hb2)
  have HS2 := St.hid (HS1.out.below hb2)
  have HB2 := St.hid (bcall HB1.out hb2)
  have HI2 := St.hid (owns_mono hu2 (show w.heap.size + 1 + 1 ≤ w1.heap.size from hz1))
  have hz2 := hb2.size
  have HK := St.hid hK
  have HPM : Hid (∀ p ∈ P, p.1 ∈ idsOf 5 L ∧ p.2 ∈ idsOf 5 L) := St.hid (fun p hp => by
    rw [HP.out] at hp
    obtain ⟨x, y, hx, hy, e1, e2⟩ := pair_mem hp
    rw [e1, e2]
    exact ⟨box_mem hx, box_mem hy⟩)
  clear hb2 hu2 hK hlb hW1 hR1 HS1 HB1 HPR HBX
  go_wp2_with fail
  go_loopw [4, 15] (fun u i wr => ∃ (k : Nat) (vk : Value) (Fk : Nat → Prop) (uu : Value), k ≤ K ∧ i = .int .i64 k ∧ uu = u ∧ Hid (wr.rowIs w.heap.size 45 5 (wcell vk next fall wide high)) ∧ Hid (wr.rowIs (w.heap.size + 1) 45 5 (wcell (.slice none 0 0) 0 0 0 0)) ∧
    Hid (wr.ownsRow (w.heap.size + 1 + 1) 54 2 (.slice ap K cp) K (P.flatMap Sw.pairCells)) ∧ Hid (wr.ownsRow (w.heap.size + 1 + 1) 54 2 uu ((P.take k).foldl (meet1 (mk L)) (g, [])).2.length (((P.take k).foldl (meet1 (mk L)) (g, [])).2.flatMap Sw.pairCells)) ∧ Hid (∀ z, (Value.slice ap K cp).ownBlock = some z → uu.ownBlock ≠ some z) ∧
    Hid (Sto wr Fk vk (withRows L ((P.take k).foldl (meet1 (mk L)) (g, [])).1)) ∧ Hid (∀ b, Fk b → F b ∨ w.heap.size + 1 + 1 ≤ b) ∧ Hid (Below w.heap.size w wr) ∧ Hid (w.heap.size + 1 + 1 ≤ wr.heap.size) ∧ Hid (∀ z, uu.ownBlock = some z → ¬ Fk z)) (fun _ i _ => K - (intOf i).toNat)
  case atStart => exact ⟨0, _, F, _, Nat.zero_le _, rfl, rfl, hW2.out, hR2.out, HI2.out, World.ownsRow_nil _ _ _ _, (fun z _ e => by cases e), HS2.out, fun b hb => Or.inl hb, HB2.out, St.hid (by omega), St.hid (fun z e => by cases e)⟩
  case round =>
    obtain ⟨k, vk, Fk, u, hk, rfl, rfl, hW, hR, hI, hO, hA, hS, hF, hB, hz, hFu⟩ := hrel
    obtain ⟨ak, nk, ck, rfl⟩ := hS.out.one
    obtain ⟨x0, x1, x2, x3, x4, xf0, xf1, xf2, xf3, xf4⟩ := wcells hW.out
    have hzz := hz.out
    by_cases hlt : k < K
    · obtain ⟨⟨pa, pb⟩, hp⟩ : ∃ x, P[k]? = some x := ⟨_, List.getElem?_eq_getElem (by have := HK.out; omega)⟩
      obtain ⟨hma, hmb⟩ := HPM.out _ (List.mem_of_getElem? hp)
      simp only at hma hmb
      obtain ⟨st, HSK⟩ : ∃ st, Hid (st = (P.take k).foldl (meet1 (mk L)) (g, [])) := ⟨_, rfl⟩
      have hok : RowsOk L st.1 := by rw [HSK.out]; exact RowsOk.meet HGL.out.2.2.2.2.2 HRO.out _
      have hS' := hS.out
      have hO' := hO.out
      rw [← HSK.out] at hS' hO'
      have hgk := good_with HGL.out hok
      obtain ⟨h1, ⟨q1, h2⟩, -⟩ := at_ids HGL.out.even HGL.out.2.2.2.2.2 st.1 hma
      obtain ⟨h3, ⟨q2, h4⟩, -⟩ := at_ids HGL.out.even HGL.out.2.2.2.2.2 st.1 hmb
      obtain ⟨ra, HRA⟩ : ∃ r, Hid (r = bodyR (mk L pa) (st.1 pa)) := ⟨_, rfl⟩
      obtain ⟨rb, HRB⟩ : ∃ r, Hid (r = bodyR (mk L pb) (st.1 pb)) := ⟨_, rfl⟩
      obtain ⟨ma, HMA⟩ : ∃ r, Hid (r = (met ra rb).1) := ⟨_, rfl⟩
      obtain ⟨mb, HMB⟩ : ∃ r, Hid (r = (met ra rb).2) := ⟨_, rfl⟩
      obtain ⟨ov, HOV⟩ : ∃ r, Hid (r = overB ra rb) := ⟨_, rfl⟩
      have HBA : Hid (∀ W, Below wr.heap.size wr W → Calls Tryz.prog 118 #[.agg #[.slice ak nk ck, .int .i64 next], .int .i64 pa] W fun e w' => e = .returned (.agg #[.int .i64 ra.x, .int .i64 ra.y, .int .i64 ra.px, .int .i64 ra.py, .int .i64 ra.wd, .int .i64 ra.ht, .int .i64 ra.ms, .int .i64 ra.rr]) ∧ Below W.heap.size W w') :=
        St.hid (fun W hb => by rw [HRA.out]; exact body_any (hS'.below hb) next hgk pa (mk L pa) (st.1 pa) h1)
      have HBB : Hid (∀ W, Below wr.heap.size wr W → Calls Tryz.prog 118 #[.agg #[.slice ak nk ck, .int .i64 next], .int .i64 pb] W fun e w' => e = .returned (.agg #[.int .i64 rb.x, .int .i64 rb.y, .int .i64 rb.px, .int .i64 rb.py, .int .i64 rb.wd, .int .i64 rb.ht, .int .i64 rb.ms, .int .i64 rb.rr]) ∧ Below W.heap.size W w') :=
        St.hid (fun W hb => by rw [HRB.out]; exact body_any (hS'.below hb) next hgk pb (mk L pb) (st.1 pb) h3)
      have HME : Hid (∀ W, Calls Tryz.prog 117 #[.agg #[.int .i64 ra.x, .int .i64 ra.y, .int .i64 ra.px, .int .i64 ra.py, .int .i64 ra.wd, .int .i64 ra.ht, .int .i64 ra.ms, .int .i64 ra.rr], .agg #[.int .i64 rb.x, .int .i64 rb.y, .int .i64 rb.px, .int .i64 rb.py, .int .i64 rb.wd, .int .i64 rb.ht, .int .i64 rb.ms, .int .i64 rb.rr]] W fun e w' => e = .returned (.tuple #[.agg #[.int .i64 ma.x, .int .i64 ma.y, .int .i64 ma.px, .int .i64 ma.py, .int .i64 ma.wd, .int .i64 ma.ht, .int .i64 ma.ms, .int .i64 ma.rr], .agg #[.int .i64 mb.x, .int .i64 mb.y, .int .i64 mb.px, .int .i64 mb.py, .int .i64 mb.wd, .int .i64 mb.ht, .int .i64 mb.ms, .int .i64 mb.rr], .bool ov]) ∧ Below W.heap.size W w') :=
        St.hid (fun W => by rw [HMA.out, HMB.out, HOV.out]; exact meet_any ra rb W)
      obtain ⟨gp, cc, hap⟩ := own_some hI.out (by omega)
      simp only [Value.slice.injEq] at hap
      obtain ⟨rfl, -, rfl⟩ := hap
      have i0 : wr.cell? ⟨gp, k * 2, none⟩ = some (.int .i64 pa) := by have := hI.out.cellAt (k * 2 + 0) (by omega); rw [flat2 P k 0 _ hp (by omega)] at this; exact this
      have i1 : wr.cell? ⟨gp, k * 2 + 1, none⟩ = some (.int .i64 pb) := by have := hI.out.cellAt (k * 2 + 1) (by omega); rw [flat2 P k 1 _ hp (by omega)] at this; exact this
      have HGP := St.hid (hI.out.lt gp rfl)
      have hlt' : (k : Int) < (K : Int) := by omega
      have hK' : (K : Int) ≤ 100 := by omega
      go_wp2_with fail
      have hPB := St.hid (rowIs2 wr (.int .i64 pa) (.int .i64 pb) 54)
      have hW3 := St.hid (hW.out.alloc (.cells #[.int .i64 pa, .int .i64 pb] 54))
      have HB3 := St.hid (bal (Below.refl _ wr) (.cells #[.int .i64 pa, .int .i64 pb] 54))
      have hz3 : wr.heap.size < (wr.alloc (.cells #[.int .i64 pa, .int .i64 pb] 54)).heap.size := by simp
      generalize wr.alloc (.cells #[.int .i64 pa, .int .i64 pb] 54) = W at hPB hW3 HB3 hz3 ⊢
      clear x0 x1 x2 x3 x4 xf0 xf1 xf2 xf3 xf4 i0 i1
      obtain ⟨x0, x1, x2, x3, x4, xf0, xf1, xf2, xf3, xf4⟩ := wcells hW3.out
      have p0 := hPB.out.cell (i := 0) (by omega)
      have p1 := hPB.out.cell (i := 1) (by omega)
      simp at p0 p1
      have hzW : w.heap.size < W.heap.size := by omega
      have HA3 := St.hid (fun (W' : World) (hb : Below W.heap.size W W') => HBA.out W' (bcall HB3.out hb))
      have HB3' := St.hid (fun (W' : World) (hb : Below W.heap.size W W') => HBB.out W' (bcall HB3.out hb))
      go_cut [7, 8, 9] (fun s7 s8 s9 wx => ∃ W' g7 g8, W' = wx ∧ s7 = .pointer (some ⟨g7, 0, none⟩) ∧ s8 = .pointer (some ⟨g8, 0, none⟩) ∧ s9 = .bool ov ∧ W'.rowIs g7 34 8 (fun i => (St.rowCells ma).getD i undef) ∧ W'.rowIs g8 34 8 (fun i => (St.rowCells mb).getD i undef) ∧ Below W.heap.size W W' ∧ W.heap.size ≤ g7 ∧ W.heap.size ≤ g8)
      case first =>
        clear hW hR hI hO hA hS hF hB hS' hO' h1 h2 h3 h4 hok hgk hma hmb HPM HST HGL HRO HBA HBB HB3 hW2 hR2 HS2 HB2 HI2 hi79 hz79 hs79 hb79 x0 x1 x2 x3 x4 xf0 xf1 xf2 xf3 xf4 p0 p1
        refine Rg.wp_region_inv (by kernel_rfl) (fun Lf a1 w1 => ∃ v20 v21 v22 v23 v24 v25 v26 v27 v28 v29 v30 v19 v31 v32 v33 v7 v8 v9 : Value, a1 = ⟨List.toArray ((.agg #[.slice a n cap, .int .i64 next, .int .i64 fall, .int .i64 wide, .int .i64 high] : Value) :: (.pointer (some ⟨w.heap.size, 0, none⟩) : Value) :: (.pointer (some ⟨w.heap.size + 1, 0, none⟩) : Value) :: (.slice none 0 0 : Value) :: (u : Value) :: (undef : Value) :: (.pointer (some ⟨wr.heap.size, 0, none⟩) : Value) :: v7 :: v8 :: v9 :: (.pointer (some ⟨w.heap.size, 0, none⟩) : Value) :: (.agg #[.slice a n cap, .int .i64 next] : Value) :: (.slice au N cu : Value) :: (.slice (some ⟨gp, 0, none⟩) K cp : Value) :: (.int .i64 K : Value) :: (.int .i64 k : Value) :: (.bool true : Value) :: (.pointer (some ⟨gp, k * 2, none⟩) : Value) :: (.agg #[.int .i64 pa, .int .i64 pb] : Value) :: v19 :: v20 :: v21 :: v22 :: v23 :: v24 :: v25 :: v26 :: v27 :: v28 :: v29 :: v30 :: v31 :: v32 :: v33 :: (u34 : Value) :: (u35 : Value) :: (u36 : Value) :: (u37 : Value) :: (u38 : Value) :: (u39 : Value) :: (u40 : Value) :: (u41 : Value) :: (u42 : Value) :: (u43 : Value) :: (u44 : Value) :: (u45 : Value) :: (u46 : Value) :: (u47 : Value) :: (u48 : Value) :: (u49 : Value) :: (u50 : Value) :: (undef : Value) :: (undef : Value) :: []), []⟩ ∧ Hid (Lf 0 = true → v20 = .pointer (some ⟨w.heap.size, 0, none⟩)) ∧ Hid (Lf 1 = true → v21 = .agg #[.slice ak nk ck, .int .i64 next]) ∧ Hid (Lf 2 = true → v22 = .pointer (some ⟨wr.heap.size, 0, none⟩)) ∧ Hid (Lf 3 = true → v23 = .int .i64 pa) ∧ Hid (Lf 4 = true → v24 = .agg #[.int .i64 ra.x, .int .i64 ra.y, .int .i64 ra.px, .int .i64 ra.py, .int .i64 ra.wd, .int .i64 ra.ht, .int .i64 ra.ms, .int .i64 ra.rr]) ∧ Hid (Lf 5 = true → v25 = .pointer (some ⟨w.heap.size, 0, none⟩)) ∧ Hid (Lf 6 = true → v26 = .agg #[.slice ak nk ck, .int .i64 next]) ∧ Hid (Lf 7 = true → v27 = .pointer (some ⟨wr.heap.size, 1, none⟩)) ∧ Hid (Lf 8 = true → v28 = .int .i64 pb) ∧ Hid (Lf 9 = true → v29 = .agg #[.int .i64 rb.x, .int .i64 rb.y, .int .i64 rb.px, .int .i64 rb.py, .int .i64 rb.wd, .int .i64 rb.ht, .int .i64 rb.ms, .int .i64 rb.rr]) ∧ Hid (Lf 10 = true → v30 = .tuple #[.agg #[.int .i64 ma.x, .int .i64 ma.y, .int .i64 ma.px, .int .i64 ma.py, .int .i64 ma.wd, .int .i64 ma.ht, .int .i64 ma.ms, .int .i64 ma.rr], .agg #[.int .i64 mb.x, .int .i64 mb.y, .int .i64 mb.px, .int .i64 mb.py, .int .i64 mb.wd, .int .i64 mb.ht, .int .i64 mb.ms, .int .i64 mb.rr], .bool ov]) ∧ Hid (Lf 11 = true → v19 = .tuple #[.agg #[.int .i64 ma.x, .int .i64 ma.y, .int .i64 ma.px, .int .i64 ma.py, .int .i64 ma.wd, .int .i64 ma.ht, .int .i64 ma.ms, .int .i64 ma.rr], .agg #[.int .i64 mb.x, .int .i64 mb.y, .int .i64 mb.px, .int .i64 mb.py, .int .i64 mb.wd, .int .i64 mb.ht, .int .i64 mb.ms, .int .i64 mb.rr], .bool ov]) ∧ Hid (Lf 12 = true → v31 = .agg #[.int .i64 ma.x, .int .i64 ma.y, .int .i64 ma.px, .int .i64 ma.py, .int .i64 ma.wd, .int .i64 ma.ht, .int .i64 ma.ms, .int .i64 ma.rr]) ∧ Hid (Lf 13 = true → v32 = .agg #[.int .i64 mb.x, .int .i64 mb.y, .int .i64 mb.px, .int .i64 mb.py, .int .i64 mb.wd, .int .i64 mb.ht, .int .i64 mb.ms, .int .i64 mb.rr]) ∧ Hid (Lf 14 = true → v33 = .bool ov) ∧ Hid (Lf 19 = true → v9 = .bool ov) ∧ Hid (Below W.heap.size W w1) ∧ Hid (Lf 15 = true → ∃ (g : Nat) (f : Nat → Value), v7 = .pointer (some ⟨g, 0, none⟩) ∧ W.heap.size ≤ g ∧ w1.rowIs g 34 8 f ∧ (Lf 17 = true → f = (fun i => (St.rowCells ma).getD i undef))) ∧ Hid (Lf 16 = true → ∃ (g : Nat) (f : Nat → Value), v8 = .pointer (some ⟨g, 0, none⟩) ∧ W.heap.size ≤ g ∧ w1.rowIs g 34 8 f ∧ (Lf 18 = true → f = (fun i => (St.rowCells mb).getD i undef))) ∧ Hid (Lf 15 = true → Lf 16 = true → v7 ≠ v8) ∧ Hid (Lf 17 = true → Lf 15 = true ∧ Lf 16 = true) ∧ Hid (Lf 18 = true → Lf 16 = true)) (by kernel_rfl) ?rs ?rg ?re
        case rs =>
          refine ⟨_, _, _, _, _, _, _, _, _, _, _, _, _, _, _, _, _, _, rfl, St.hid (fun h => by cases h), St.hid (fun h => by cases h), St.hid (fun h => by cases h), St.hid (fun h => by cases h), St.hid (fun h => by cases h), St.hid (fun h => by cases h), St.hid (fun h => by cases h), St.hid (fun h => by cases h), St.hid (fun h => by cases h), St.hid (fun h => by cases h), St.hid (fun h => by cases h), St.hid (fun h => by cases h), St.hid (fun h => by cases h), St.hid (fun h => by cases h), St.hid (fun h => by cases h), St.hid (fun h => by cases h), St.hid (Below.drew (Below.refl _ W)), St.hid (fun h => by cases h), St.hid (fun h => by cases h), St.hid (fun h => by cases h), St.hid (fun h => by cases h), St.hid (fun h => by cases h)⟩
        case rg =>
          intro Lf a1 w1 hI
          obtain ⟨v20, v21, v22, v23, v24, v25, v26, v27, v28, v29, v30, v19, v31, v32, v33, v7, v8, v9, rfl, c0, c1, c2, c3, c4, c5, c6, c7, c8, c9, c10, c11, c12, c13, c14, c19, cB, c15, c16, cN, cQ, cR⟩ := hI
          refine ⟨fun hl hd K' hK => ?o0, fun hl hd K' hK => ?o1, fun hl hd K' hK => ?o2, fun hl hd K' hK => ?o3, fun hl hd K' hK => ?o4, fun hl hd K' hK => ?o5, fun hl hd K' hK => ?o6, fun hl hd K' hK => ?o7, fun hl hd K' hK => ?o8, fun hl hd K' hK => ?o9, fun hl hd K' hK => ?o10, fun hl hd K' hK => ?o11, fun hl hd K' hK => ?o12, fun hl hd K' hK => ?o13, fun hl hd K' hK => ?o14, fun hl hd K' hK => ?o15, fun hl hd K' hK => ?o16, fun hl hd K' hK => ?o17, fun hl hd K' hK => ?o18, fun hl hd K' hK => ?o19, trivial⟩
          case o0 =>
            clear hd
            go_simp
            refine hK.out _ _ ⟨_, _, _, _, _, _, _, _, _, _, _, _, _, _, _, _, _, _, rfl, St.hid (fun _ => rfl), St.hid (fun h => c1.out (Rg.up_ne h (by decide))), St.hid (fun h => c2.out (Rg.up_ne h (by decide))), St.hid (fun h => c3.out (Rg.up_ne h (by decide))), St.hid (fun h => c4.out (Rg.up_ne h (by decide))), St.hid (fun h => c5.out (Rg.up_ne h (by decide))), St.hid (fun h => c6.out (Rg.up_ne h (by decide))), St.hid (fun h => c7.out (Rg.up_ne h (by decide))), St.hid (fun h => c8.out (Rg.up_ne h (by decide))), St.hid (fun h => c9.out (Rg.up_ne h (by decide))), St.hid (fun h => c10.out (Rg.up_ne h (by decide))), St.hid (fun h => c11.out (Rg.up_ne h (by decide))), St.hid (fun h => c12.out (Rg.up_ne h (by decide))), St.hid (fun h => c13.out (Rg.up_ne h (by decide))), St.hid (fun h => c14.out (Rg.up_ne h (by decide))), St.hid (fun h => c19.out (Rg.up_ne h (by decide))), cB, St.hid (fun h => by obtain ⟨g, f, e, h1, h2, h3⟩ := c15.out (Rg.up_ne h (by decide)); exact ⟨g, f, e, h1, h2, fun h => h3 (Rg.up_ne h (by decide))⟩), St.hid (fun h => by obtain ⟨g, f, e, h1, h2, h3⟩ := c16.out (Rg.up_ne h (by decide)); exact ⟨g, f, e, h1, h2, fun h => h3 (Rg.up_ne h (by decide))⟩), St.hid (fun h h' => cN.out (Rg.up_ne h (by decide)) (Rg.up_ne h' (by decide))), St.hid (fun h => ⟨Rg.up_of (cQ.out (Rg.up_ne h (by decide))).1, Rg.up_of (cQ.out (Rg.up_ne h (by decide))).2⟩), St.hid (fun h => Rg.up_of (cR.out (Rg.up_ne h (by decide))))⟩
          case o1 =>
            simp [Rg.deps, Region.binds] at hd
            obtain rfl := c0.out hd
            obtain ⟨x0, x1, -, -, -, -, -, -, -, -⟩ := wcells (rowIs_below hW3.out cB.out)
            go_simp
            refine hK.out _ _ ⟨_, _, _, _, _, _, _, _, _, _, _, _, _, _, _, _, _, _, rfl, St.hid (fun h => c0.out (Rg.up_ne h (by decide))), St.hid (fun _ => rfl), St.hid (fun h => c2.out (Rg.up_ne h (by decide))), St.hid (fun h => c3.out (Rg.up_ne h (by decide))), St.hid (fun h => c4.out (Rg.up_ne h (by decide))), St.hid (fun h => c5.out (Rg.up_ne h (by decide))), St.hid (fun h => c6.out (Rg.up_ne h (by decide))), St.hid (fun h => c7.out (Rg.up_ne h (by decide))), St.hid (fun h => c8.out (Rg.up_ne h (by decide))), St.hid (fun h => c9.out (Rg.up_ne h (by decide))), St.hid (fun h => c10.out (Rg.up_ne h (by decide))), St.hid (fun h => c11.out (Rg.up_ne h (by decide))), St.hid (fun h => c12.out (Rg.up_ne h (by decide))), St.hid (fun h => c13.out (Rg.up_ne h (by decide))), St.hid (fun h => c14.out (Rg.up_ne h (by decide))), St.hid (fun h => c19.out (Rg.up_ne h (by decide))), cB, St.hid (fun h => by obtain ⟨g, f, e, h1, h2, h3⟩ := c15.out (Rg.up_ne h (by decide)); exact ⟨g, f, e, h1, h2, fun h => h3 (Rg.up_ne h (by decide))⟩), St.hid (fun h => by obtain ⟨g, f, e, h1, h2, h3⟩ := c16.out (Rg.up_ne h (by decide)); exact ⟨g, f, e, h1, h2, fun h => h3 (Rg.up_ne h (by decide))⟩), St.hid (fun h h' => cN.out (Rg.up_ne h (by decide)) (Rg.up_ne h' (by decide))), St.hid (fun h => ⟨Rg.up_of (cQ.out (Rg.up_ne h (by decide))).1, Rg.up_of (cQ.out (Rg.up_ne h (by decide))).2⟩), St.hid (fun h => Rg.up_of (cR.out (Rg.up_ne h (by decide))))⟩
          case o2 =>
            clear hd
            go_simp
            refine hK.out _ _ ⟨_, _, _, _, _, _, _, _, _, _, _, _, _, _, _, _, _, _, rfl, St.hid (fun h => c0.out (Rg.up_ne h (by decide))), St.hid (fun h => c1.out (Rg.up_ne h (by decide))), St.hid (fun _ => rfl), St.hid (fun h => c3.out (Rg.up_ne h (by decide))), St.hid (fun h => c4.out (Rg.up_ne h (by decide))), St.hid (fun h => c5.out (Rg.up_ne h (by decide))), St.hid (fun h => c6.out (Rg.up_ne h (by decide))), St.hid (fun h => c7.out (Rg.up_ne h (by decide))), St.hid (fun h => c8.out (Rg.up_ne h (by decide))), St.hid (fun h => c9.out (Rg.up_ne h (by decide))), St.hid (fun h => c10.out (Rg.up_ne h (by decide))), St.hid (fun h => c11.out (Rg.up_ne h (by decide))), St.hid (fun h => c12.out (Rg.up_ne h (by decide))), St.hid (fun h => c13.out (Rg.up_ne h (by decide))), St.hid (fun h => c14.out (Rg.up_ne h (by decide))), St.hid (fun h => c19.out (Rg.up_ne h (by decide))), cB, St.hid (fun h => by obtain ⟨g, f, e, h1, h2, h3⟩ := c15.out (Rg.up_ne h (by decide)); exact ⟨g, f, e, h1, h2, fun h => h3 (Rg.up_ne h (by decide))⟩), St.hid (fun h => by obtain ⟨g, f, e, h1, h2, h3⟩ := c16.out (Rg.up_ne h (by decide)); exact ⟨g, f, e, h1, h2, fun h => h3 (Rg.up_ne h (by decide))⟩), St.hid (fun h h' => cN.out (Rg.up_ne h (by decide)) (Rg.up_ne h' (by decide))), St.hid (fun h => ⟨Rg.up_of (cQ.out (Rg.up_ne h (by decide))).1, Rg.up_of (cQ.out (Rg.up_ne h (by decide))).2⟩), St.hid (fun h => Rg.up_of (cR.out (Rg.up_ne h (by decide))))⟩
          case o3 =>
            simp [Rg.deps, Region.binds] at hd
            obtain rfl := c2.out hd
            have p0 := (rowIs_below hPB.out cB.out).cell (i := 0) (by omega)
            have p1 := (rowIs_below hPB.out cB.out).cell (i := 1) (by omega)
            simp at p0 p1
            go_simp
            refine hK.out _ _ ⟨_, _, _, _, _, _, _, _, _, _, _, _, _, _, _, _, _, _, rfl, St.hid (fun h => c0.out (Rg.up_ne h (by decide))), St.hid (fun h => c1.out (Rg.up_ne h (by decide))), St.hid (fun h => c2.out (Rg.up_ne h (by decide))), St.hid (fun _ => rfl), St.hid (fun h => c4.out (Rg.up_ne h (by decide))), St.hid (fun h => c5.out (Rg.up_ne h (by decide))), St.hid (fun h => c6.out (Rg.up_ne h (by decide))), St.hid (fun h => c7.out (Rg.up_ne h (by decide))), St.hid (fun h => c8.out (Rg.up_ne h (by decide))), St.hid (fun h => c9.out (Rg.up_ne h (by decide))), St.hid (fun h => c10.out (Rg.up_ne h (by decide))), St.hid (fun h => c11.out (Rg.up_ne h (by decide))), St.hid (fun h => c12.out (Rg.up_ne h (by decide))), St.hid (fun h => c13.out (Rg.up_ne h (by decide))), St.hid (fun h => c14.out (Rg.up_ne h (by decide))), St.hid (fun h => c19.out (Rg.up_ne h (by decide))), cB, St.hid (fun h => by obtain ⟨g, f, e, h1, h2, h3⟩ := c15.out (Rg.up_ne h (by decide)); exact ⟨g, f, e, h1, h2, fun h => h3 (Rg.up_ne h (by decide))⟩), St.hid (fun h => by obtain ⟨g, f, e, h1, h2, h3⟩ := c16.out (Rg.up_ne h (by decide)); exact ⟨g, f, e, h1, h2, fun h => h3 (Rg.up_ne h (by decide))⟩), St.hid (fun h h' => cN.out (Rg.up_ne h (by decide)) (Rg.up_ne h' (by decide))), St.hid (fun h => ⟨Rg.up_of (cQ.out (Rg.up_ne h (by decide))).1, Rg.up_of (cQ.out (Rg.up_ne h (by decide))).2⟩), St.hid (fun h => Rg.up_of (cR.out (Rg.up_ne h (by decide))))⟩
          case o4 =>
            simp [Rg.deps, Region.binds] at hd
            obtain rfl := c1.out hd.1
            obtain rfl := c3.out hd.2
            go_simp
            refine (HA3.out _ cB.out).mono ?_
            rintro e w2 ⟨rfl, hb⟩
            refine hK.out _ _ ⟨_, _, _, _, _, _, _, _, _, _, _, _, _, _, _, _, _, _, rfl, St.hid (fun h => c0.out (Rg.up_ne h (by decide))), St.hid (fun h => c1.out (Rg.up_ne h (by decide))), St.hid (fun h => c2.out (Rg.up_ne h (by decide))), St.hid (fun h => c3.out (Rg.up_ne h (by decide))), St.hid (fun _ => rfl), St.hid (fun h => c5.out (Rg.up_ne h (by decide))), St.hid (fun h => c6.out (Rg.up_ne h (by decide))), St.hid (fun h => c7.out (Rg.up_ne h (by decide))), St.hid (fun h => c8.out (Rg.up_ne h (by decide))), St.hid (fun h => c9.out (Rg.up_ne h (by decide))), St.hid (fun h => c10.out (Rg.up_ne h (by decide))), St.hid (fun h => c11.out (Rg.up_ne h (by decide))), St.hid (fun h => c12.out (Rg.up_ne h (by decide))), St.hid (fun h => c13.out (Rg.up_ne h (by decide))), St.hid (fun h => c14.out (Rg.up_ne h (by decide))), St.hid (fun h => c19.out (Rg.up_ne h (by decide))), St.hid (bcall cB.out hb), St.hid (fun h => by obtain ⟨g, f, e, h1, h2, h3⟩ := c15.out (Rg.up_ne h (by decide)); exact ⟨g, f, e, h1, rowIs_below h2 hb, fun h => h3 (Rg.up_ne h (by decide))⟩), St.hid (fun h => by obtain ⟨g, f, e, h1, h2, h3⟩ := c16.out (Rg.up_ne h (by decide)); exact ⟨g, f, e, h1, rowIs_below h2 hb, fun h => h3 (Rg.up_ne h (by decide))⟩), St.hid (fun h h' => cN.out (Rg.up_ne h (by decide)) (Rg.up_ne h' (by decide))), St.hid (fun h => ⟨Rg.up_of (cQ.out (Rg.up_ne h (by decide))).1, Rg.up_of (cQ.out (Rg.up_ne h (by decide))).2⟩), St.hid (fun h => Rg.up_of (cR.out (Rg.up_ne h (by decide))))⟩
          case o5 =>
            clear hd
            go_simp
            refine hK.out _ _ ⟨_, _, _, _, _, _, _, _, _, _, _, _, _, _, _, _, _, _, rfl, St.hid (fun h => c0.out (Rg.up_ne h (by decide))), St.hid (fun h => c1.out (Rg.up_ne h (by decide))), St.hid (fun h => c2.out (Rg.up_ne h (by decide))), St.hid (fun h => c3.out (Rg.up_ne h (by decide))), St.hid (fun h => c4.out (Rg.up_ne h (by decide))), St.hid (fun _ => rfl), St.hid (fun h => c6.out (Rg.up_ne h (by decide))), St.hid (fun h => c7.out (Rg.up_ne h (by decide))), St.hid (fun h => c8.out (Rg.up_ne h (by decide))), St.hid (fun h => c9.out (Rg.up_ne h (by decide))), St.hid (fun h => c10.out (Rg.up_ne h (by decide))), St.hid (fun h => c11.out (Rg.up_ne h (by decide))), St.hid (fun h => c12.out (Rg.up_ne h (by decide))), St.hid (fun h => c13.out (Rg.up_ne h (by decide))), St.hid (fun h => c14.out (Rg.up_ne h (by decide))), St.hid (fun h => c19.out (Rg.up_ne h (by decide))), cB, St.hid (fun h => by obtain ⟨g, f, e, h1, h2, h3⟩ := c15.out (Rg.up_ne h (by decide)); exact ⟨g, f, e, h1, h2, fun h => h3 (Rg.up_ne h (by decide))⟩), St.hid (fun h => by obtain ⟨g, f, e, h1, h2, h3⟩ := c16.out (Rg.up_ne h (by decide)); exact ⟨g, f, e, h1, h2, fun h => h3 (Rg.up_ne h (by decide))⟩), St.hid (fun h h' => cN.out (Rg.up_ne h (by decide)) (Rg.up_ne h' (by decide))), St.hid (fun h => ⟨Rg.up_of (cQ.out (Rg.up_ne h (by decide))).1, Rg.up_of (cQ.out (Rg.up_ne h (by decide))).2⟩), St.hid (fun h => Rg.up_of (cR.out (Rg.up_ne h (by decide))))⟩
          case o6 =>
            simp [Rg.deps, Region.binds] at hd
            obtain rfl := c5.out hd
            obtain ⟨x0, x1, -, -, -, -, -, -, -, -⟩ := wcells (rowIs_below hW3.out cB.out)
            go_simp
            refine hK.out _ _ ⟨_, _, _, _, _, _, _, _, _, _, _, _, _, _, _, _, _, _, rfl, St.hid (fun h => c0.out (Rg.up_ne h (by decide))), St.hid (fun h => c1.out (Rg.up_ne h (by decide))), St.hid (fun h => c2.out (Rg.up_ne h (by decide))), St.hid (fun h => c3.out (Rg.up_ne h (by decide))), St.hid (fun h => c4.out (Rg.up_ne h (by decide))), St.hid (fun h => c5.out (Rg.up_ne h (by decide))), St.hid (fun _ => rfl), St.hid (fun h => c7.out (Rg.up_ne h (by decide))), St.hid (fun h => c8.out (Rg.up_ne h (by decide))), St.hid (fun h => c9.out (Rg.up_ne h (by decide))), St.hid (fun h => c10.out (Rg.up_ne h (by decide))), St.hid (fun h => c11.out (Rg.up_ne h (by decide))), St.hid (fun h => c12.out (Rg.up_ne h (by decide))), St.hid (fun h => c13.out (Rg.up_ne h (by decide))), St.hid (fun h => c14.out (Rg.up_ne h (by decide))), St.hid (fun h => c19.out (Rg.up_ne h (by decide))), cB, St.hid (fun h => by obtain ⟨g, f, e, h1, h2, h3⟩ := c15.out (Rg.up_ne h (by decide)); exact ⟨g, f, e, h1, h2, fun h => h3 (Rg.up_ne h (by decide))⟩), St.hid (fun h => by obtain ⟨g, f, e, h1, h2, h3⟩ := c16.out (Rg.up_ne h (by decide)); exact ⟨g, f, e, h1, h2, fun h => h3 (Rg.up_ne h (by decide))⟩), St.hid (fun h h' => cN.out (Rg.up_ne h (by decide)) (Rg.up_ne h' (by decide))), St.hid (fun h => ⟨Rg.up_of (cQ.out (Rg.up_ne h (by decide))).1, Rg.up_of (cQ.out (Rg.up_ne h (by decide))).2⟩), St.hid (fun h => Rg.up_of (cR.out (Rg.up_ne h (by decide))))⟩
          case o7 =>
            clear hd
            go_simp
            refine hK.out _ _ ⟨_, _, _, _, _, _, _, _, _, _, _, _, _, _, _, _, _, _, rfl, St.hid (fun h => c0.out (Rg.up_ne h (by decide))), St.hid (fun h => c1.out (Rg.up_ne h (by decide))), St.hid (fun h => c2.out (Rg.up_ne h (by decide))), St.hid (fun h => c3.out (Rg.up_ne h (by decide))), St.hid (fun h => c4.out (Rg.up_ne h (by decide))), St.hid (fun h => c5.out (Rg.up_ne h (by decide))), St.hid (fun h => c6.out (Rg.up_ne h (by decide))), St.hid (fun _ => rfl), St.hid (fun h => c8.out (Rg.up_ne h (by decide))), St.hid (fun h => c9.out (Rg.up_ne h (by decide))), St.hid (fun h => c10.out (Rg.up_ne h (by decide))), St.hid (fun h => c11.out (Rg.up_ne h (by decide))), St.hid (fun h => c12.out (Rg.up_ne h (by decide))), St.hid (fun h => c13.out (Rg.up_ne h (by decide))), St.hid (fun h => c14.out (Rg.up_ne h (by decide))), St.hid (fun h => c19.out (Rg.up_ne h (by decide))), cB, St.hid (fun h => by obtain ⟨g, f, e, h1, h2, h3⟩ := c15.out (Rg.up_ne h (by decide)); exact ⟨g, f, e, h1, h2, fun h => h3 (Rg.up_ne h (by decide))⟩), St.hid (fun h => by obtain ⟨g, f, e, h1, h2, h3⟩ := c16.out (Rg.up_ne h (by decide)); exact ⟨g, f, e, h1, h2, fun h => h3 (Rg.up_ne h (by decide))⟩), St.hid (fun h h' => cN.out (Rg.up_ne h (by decide)) (Rg.up_ne h' (by decide))), St.hid (fun h => ⟨Rg.up_of (cQ.out (Rg.up_ne h (by decide))).1, Rg.up_of (cQ.out (Rg.up_ne h (by decide))).2⟩), St.hid (fun h => Rg.up_of (cR.out (Rg.up_ne h (by decide))))⟩
          case o8 =>
            simp [Rg.deps, Region.binds] at hd
            obtain rfl := c7.out hd
            have p0 := (rowIs_below hPB.out cB.out).cell (i := 0) (by omega)
            have p1 := (rowIs_below hPB.out cB.out).cell (i := 1) (by omega)
            simp at p0 p1
            go_simp
            refine hK.out _ _ ⟨_, _, _, _, _, _, _, _, _, _, _, _, _, _, _, _, _, _, rfl, St.hid (fun h => c0.out (Rg.up_ne h (by decide))), St.hid (fun h => c1.out (Rg.up_ne h (by decide))), St.hid (fun h => c2.out (Rg.up_ne h (by decide))), St.hid (fun h => c3.out (Rg.up_ne h (by decide))), St.hid (fun h => c4.out (Rg.up_ne h (by decide))), St.hid (fun h => c5.out (Rg.up_ne h (by decide))), St.hid (fun h => c6.out (Rg.up_ne h (by decide))), St.hid (fun h => c7.out (Rg.up_ne h (by decide))), St.hid (fun _ => rfl), St.hid (fun h => c9.out (Rg.up_ne h (by decide))), St.hid (fun h => c10.out (Rg.up_ne h (by decide))), St.hid (fun h => c11.out (Rg.up_ne h (by decide))), St.hid (fun h => c12.out (Rg.up_ne h (by decide))), St.hid (fun h => c13.out (Rg.up_ne h (by decide))), St.hid (fun h => c14.out (Rg.up_ne h (by decide))), St.hid (fun h => c19.out (Rg.up_ne h (by decide))), cB, St.hid (fun h => by obtain ⟨g, f, e, h1, h2, h3⟩ := c15.out (Rg.up_ne h (by decide)); exact ⟨g, f, e, h1, h2, fun h => h3 (Rg.up_ne h (by decide))⟩), St.hid (fun h => by obtain ⟨g, f, e, h1, h2, h3⟩ := c16.out (Rg.up_ne h (by decide)); exact ⟨g, f, e, h1, h2, fun h => h3 (Rg.up_ne h (by decide))⟩), St.hid (fun h h' => cN.out (Rg.up_ne h (by decide)) (Rg.up_ne h' (by decide))), St.hid (fun h => ⟨Rg.up_of (cQ.out (Rg.up_ne h (by decide))).1, Rg.up_of (cQ.out (Rg.up_ne h (by decide))).2⟩), St.hid (fun h => Rg.up_of (cR.out (Rg.up_ne h (by decide))))⟩
          case o9 =>
            simp [Rg.deps, Region.binds] at hd
            obtain rfl := c6.out hd.1
            obtain rfl := c8.out hd.2.1
            go_simp
            refine (HB3'.out _ cB.out).mono ?_
            rintro e w2 ⟨rfl, hb⟩
            refine hK.out _ _ ⟨_, _, _, _, _, _, _, _, _, _, _, _, _, _, _, _, _, _, rfl, St.hid (fun h => c0.out (Rg.up_ne h (by decide))), St.hid (fun h => c1.out (Rg.up_ne h (by decide))), St.hid (fun h => c2.out (Rg.up_ne h (by decide))), St.hid (fun h => c3.out (Rg.up_ne h (by decide))), St.hid (fun h => c4.out (Rg.up_ne h (by decide))), St.hid (fun h => c5.out (Rg.up_ne h (by decide))), St.hid (fun h => c6.out (Rg.up_ne h (by decide))), St.hid (fun h => c7.out (Rg.up_ne h (by decide))), St.hid (fun h => c8.out (Rg.up_ne h (by decide))), St.hid (fun _ => rfl), St.hid (fun h => c10.out (Rg.up_ne h (by decide))), St.hid (fun h => c11.out (Rg.up_ne h (by decide))), St.hid (fun h => c12.out (Rg.up_ne h (by decide))), St.hid (fun h => c13.out (Rg.up_ne h (by decide))), St.hid (fun h => c14.out (Rg.up_ne h (by decide))), St.hid (fun h => c19.out (Rg.up_ne h (by decide))), St.hid (bcall cB.out hb), St.hid (fun h => by obtain ⟨g, f, e, h1, h2, h3⟩ := c15.out (Rg.up_ne h (by decide)); exact ⟨g, f, e, h1, rowIs_below h2 hb, fun h => h3 (Rg.up_ne h (by decide))⟩), St.hid (fun h => by obtain ⟨g, f, e, h1, h2, h3⟩ := c16.out (Rg.up_ne h (by decide)); exact ⟨g, f, e, h1, rowIs_below h2 hb, fun h => h3 (Rg.up_ne h (by decide))⟩), St.hid (fun h h' => cN.out (Rg.up_ne h (by decide)) (Rg.up_ne h' (by decide))), St.hid (fun h => ⟨Rg.up_of (cQ.out (Rg.up_ne h (by decide))).1, Rg.up_of (cQ.out (Rg.up_ne h (by decide))).2⟩), St.hid (fun h => Rg.up_of (cR.out (Rg.up_ne h (by decide))))⟩
          case o10 =>
            simp [Rg.deps, Region.binds] at hd
            obtain rfl := c4.out hd.1
            obtain rfl := c9.out hd.2
            go_simp
            refine (HME.out _).mono ?_
            rintro e w2 ⟨rfl, hb⟩
            refine hK.out _ _ ⟨_, _, _, _, _, _, _, _, _, _, _, _, _, _, _, _, _, _, rfl, St.hid (fun h => c0.out (Rg.up_ne h (by decide))), St.hid (fun h => c1.out (Rg.up_ne h (by decide))), St.hid (fun h => c2.out (Rg.up_ne h (by decide))), St.hid (fun h => c3.out (Rg.up_ne h (by decide))), St.hid (fun h => c4.out (Rg.up_ne h (by decide))), St.hid (fun h => c5.out (Rg.up_ne h (by decide))), St.hid (fun h => c6.out (Rg.up_ne h (by decide))), St.hid (fun h => c7.out (Rg.up_ne h (by decide))), St.hid (fun h => c8.out (Rg.up_ne h (by decide))), St.hid (fun h => c9.out (Rg.up_ne h (by decide))), St.hid (fun _ => rfl), St.hid (fun h => c11.out (Rg.up_ne h (by decide))), St.hid (fun h => c12.out (Rg.up_ne h (by decide))), St.hid (fun h => c13.out (Rg.up_ne h (by decide))), St.hid (fun h => c14.out (Rg.up_ne h (by decide))), St.hid (fun h => c19.out (Rg.up_ne h (by decide))), St.hid (bcall cB.out hb), St.hid (fun h => by obtain ⟨g, f, e, h1, h2, h3⟩ := c15.out (Rg.up_ne h (by decide)); exact ⟨g, f, e, h1, rowIs_below h2 hb, fun h => h3 (Rg.up_ne h (by decide))⟩), St.hid (fun h => by obtain ⟨g, f, e, h1, h2, h3⟩ := c16.out (Rg.up_ne h (by decide)); exact ⟨g, f, e, h1, rowIs_below h2 hb, fun h => h3 (Rg.up_ne h (by decide))⟩), St.hid (fun h h' => cN.out (Rg.up_ne h (by decide)) (Rg.up_ne h' (by decide))), St.hid (fun h => ⟨Rg.up_of (cQ.out (Rg.up_ne h (by decide))).1, Rg.up_of (cQ.out (Rg.up_ne h (by decide))).2⟩), St.hid (fun h => Rg.up_of (cR.out (Rg.up_ne h (by decide))))⟩
          case o11 =>
            simp [Rg.deps, Region.binds] at hd
            obtain rfl := c10.out hd
            go_simp
            refine hK.out _ _ ⟨_, _, _, _, _, _, _, _, _, _, _, _, _, _, _, _, _, _, rfl, St.hid (fun h => c0.out (Rg.up_ne h (by decide))), St.hid (fun h => c1.out (Rg.up_ne h (by decide))), St.hid (fun h => c2.out (Rg.up_ne h (by decide))), St.hid (fun h => c3.out (Rg.up_ne h (by decide))), St.hid (fun h => c4.out (Rg.up_ne h (by decide))), St.hid (fun h => c5.out (Rg.up_ne h (by decide))), St.hid (fun h => c6.out (Rg.up_ne h (by decide))), St.hid (fun h => c7.out (Rg.up_ne h (by decide))), St.hid (fun h => c8.out (Rg.up_ne h (by decide))), St.hid (fun h => c9.out (Rg.up_ne h (by decide))), St.hid (fun h => c10.out (Rg.up_ne h (by decide))), St.hid (fun _ => rfl), St.hid (fun h => c12.out (Rg.up_ne h (by decide))), St.hid (fun h => c13.out (Rg.up_ne h (by decide))), St.hid (fun h => c14.out (Rg.up_ne h (by decide))), St.hid (fun h => c19.out (Rg.up_ne h (by decide))), cB, St.hid (fun h => by obtain ⟨g, f, e, h1, h2, h3⟩ := c15.out (Rg.up_ne h (by decide)); exact ⟨g, f, e, h1, h2, fun h => h3 (Rg.up_ne h (by decide))⟩), St.hid (fun h => by obtain ⟨g, f, e, h1, h2, h3⟩ := c16.out (Rg.up_ne h (by decide)); exact ⟨g, f, e, h1, h2, fun h => h3 (Rg.up_ne h (by decide))⟩), St.hid (fun h h' => cN.out (Rg.up_ne h (by decide)) (Rg.up_ne h' (by decide))), St.hid (fun h => ⟨Rg.up_of (cQ.out (Rg.up_ne h (by decide))).1, Rg.up_of (cQ.out (Rg.up_ne h (by decide))).2⟩), St.hid (fun h => Rg.up_of (cR.out (Rg.up_ne h (by decide))))⟩
          case o12 =>
            simp [Rg.deps, Region.binds] at hd
            obtain rfl := c11.out hd
            go_simp
            refine hK.out _ _ ⟨_, _, _, _, _, _, _, _, _, _, _, _, _, _, _, _, _, _, rfl, St.hid (fun h => c0.out (Rg.up_ne h (by decide))), St.hid (fun h => c1.out (Rg.up_ne h (by decide))), St.hid (fun h => c2.out (Rg.up_ne h (by decide))), St.hid (fun h => c3.out (Rg.up_ne h (by decide))), St.hid (fun h => c4.out (Rg.up_ne h (by decide))), St.hid (fun h => c5.out (Rg.up_ne h (by decide))), St.hid (fun h => c6.out (Rg.up_ne h (by decide))), St.hid (fun h => c7.out (Rg.up_ne h (by decide))), St.hid (fun h => c8.out (Rg.up_ne h (by decide))), St.hid (fun h => c9.out (Rg.up_ne h (by decide))), St.hid (fun h => c10.out (Rg.up_ne h (by decide))), St.hid (fun h => c11.out (Rg.up_ne h (by decide))), St.hid (fun _ => rfl), St.hid (fun h => c13.out (Rg.up_ne h (by decide))), St.hid (fun h => c14.out (Rg.up_ne h (by decide))), St.hid (fun h => c19.out (Rg.up_ne h (by decide))), cB, St.hid (fun h => by obtain ⟨g, f, e, h1, h2, h3⟩ := c15.out (Rg.up_ne h (by decide)); exact ⟨g, f, e, h1, h2, fun h => h3 (Rg.up_ne h (by decide))⟩), St.hid (fun h => by obtain ⟨g, f, e, h1, h2, h3⟩ := c16.out (Rg.up_ne h (by decide)); exact ⟨g, f, e, h1, h2, fun h => h3 (Rg.up_ne h (by decide))⟩), St.hid (fun h h' => cN.out (Rg.up_ne h (by decide)) (Rg.up_ne h' (by decide))), St.hid (fun h => ⟨Rg.up_of (cQ.out (Rg.up_ne h (by decide))).1, Rg.up_of (cQ.out (Rg.up_ne h (by decide))).2⟩), St.hid (fun h => Rg.up_of (cR.out (Rg.up_ne h (by decide))))⟩
          case o13 =>
            simp [Rg.deps, Region.binds] at hd
            obtain rfl := c11.out hd
            go_simp
            refine hK.out _ _ ⟨_, _, _, _, _, _, _, _, _, _, _, _, _, _, _, _, _, _, rfl, St.hid (fun h => c0.out (Rg.up_ne h (by decide))), St.hid (fun h => c1.out (Rg.up_ne h (by decide))), St.hid (fun h => c2.out (Rg.up_ne h (by decide))), St.hid (fun h => c3.out (Rg.up_ne h (by decide))), St.hid (fun h => c4.out (Rg.up_ne h (by decide))), St.hid (fun h => c5.out (Rg.up_ne h (by decide))), St.hid (fun h => c6.out (Rg.up_ne h (by decide))), St.hid (fun h => c7.out (Rg.up_ne h (by decide))), St.hid (fun h => c8.out (Rg.up_ne h (by decide))), St.hid (fun h => c9.out (Rg.up_ne h (by decide))), St.hid (fun h => c10.out (Rg.up_ne h (by decide))), St.hid (fun h => c11.out (Rg.up_ne h (by decide))), St.hid (fun h => c12.out (Rg.up_ne h (by decide))), St.hid (fun _ => rfl), St.hid (fun h => c14.out (Rg.up_ne h (by decide))), St.hid (fun h => c19.out (Rg.up_ne h (by decide))), cB, St.hid (fun h => by obtain ⟨g, f, e, h1, h2, h3⟩ := c15.out (Rg.up_ne h (by decide)); exact ⟨g, f, e, h1, h2, fun h => h3 (Rg.up_ne h (by decide))⟩), St.hid (fun h => by obtain ⟨g, f, e, h1, h2, h3⟩ := c16.out (Rg.up_ne h (by decide)); exact ⟨g, f, e, h1, h2, fun h => h3 (Rg.up_ne h (by decide))⟩), St.hid (fun h h' => cN.out (Rg.up_ne h (by decide)) (Rg.up_ne h' (by decide))), St.hid (fun h => ⟨Rg.up_of (cQ.out (Rg.up_ne h (by decide))).1, Rg.up_of (cQ.out (Rg.up_ne h (by decide))).2⟩), St.hid (fun h => Rg.up_of (cR.out (Rg.up_ne h (by decide))))⟩
          case o14 =>
            simp [Rg.deps, Region.binds] at hd
            obtain rfl := c11.out hd
            go_simp
            refine hK.out _ _ ⟨_, _, _, _, _, _, _, _, _, _, _, _, _, _, _, _, _, _, rfl, St.hid (fun h => c0.out (Rg.up_ne h (by decide))), St.hid (fun h => c1.out (Rg.up_ne h (by decide))), St.hid (fun h => c2.out (Rg.up_ne h (by decide))), St.hid (fun h => c3.out (Rg.up_ne h (by decide))), St.hid (fun h => c4.out (Rg.up_ne h (by decide))), St.hid (fun h => c5.out (Rg.up_ne h (by decide))), St.hid (fun h => c6.out (Rg.up_ne h (by decide))), St.hid (fun h => c7.out (Rg.up_ne h (by decide))), St.hid (fun h => c8.out (Rg.up_ne h (by decide))), St.hid (fun h => c9.out (Rg.up_ne h (by decide))), St.hid (fun h => c10.out (Rg.up_ne h (by decide))), St.hid (fun h => c11.out (Rg.up_ne h (by decide))), St.hid (fun h => c12.out (Rg.up_ne h (by decide))), St.hid (fun h => c13.out (Rg.up_ne h (by decide))), St.hid (fun _ => rfl), St.hid (fun h => c19.out (Rg.up_ne h (by decide))), cB, St.hid (fun h => by obtain ⟨g, f, e, h1, h2, h3⟩ := c15.out (Rg.up_ne h (by decide)); exact ⟨g, f, e, h1, h2, fun h => h3 (Rg.up_ne h (by decide))⟩), St.hid (fun h => by obtain ⟨g, f, e, h1, h2, h3⟩ := c16.out (Rg.up_ne h (by decide)); exact ⟨g, f, e, h1, h2, fun h => h3 (Rg.up_ne h (by decide))⟩), St.hid (fun h h' => cN.out (Rg.up_ne h (by decide)) (Rg.up_ne h' (by decide))), St.hid (fun h => ⟨Rg.up_of (cQ.out (Rg.up_ne h (by decide))).1, Rg.up_of (cQ.out (Rg.up_ne h (by decide))).2⟩), St.hid (fun h => Rg.up_of (cR.out (Rg.up_ne h (by decide))))⟩
          case o15 =>
            clear hd
            go_simp
            refine hK.out _ _ ⟨_, _, _, _, _, _, _, _, _, _, _, _, _, _, _, _, _, _, rfl, St.hid (fun h => c0.out (Rg.up_ne h (by decide))), St.hid (fun h => c1.out (Rg.up_ne h (by decide))), St.hid (fun h => c2.out (Rg.up_ne h (by decide))), St.hid (fun h => c3.out (Rg.up_ne h (by decide))), St.hid (fun h => c4.out (Rg.up_ne h (by decide))), St.hid (fun h => c5.out (Rg.up_ne h (by decide))), St.hid (fun h => c6.out (Rg.up_ne h (by decide))), St.hid (fun h => c7.out (Rg.up_ne h (by decide))), St.hid (fun h => c8.out (Rg.up_ne h (by decide))), St.hid (fun h => c9.out (Rg.up_ne h (by decide))), St.hid (fun h => c10.out (Rg.up_ne h (by decide))), St.hid (fun h => c11.out (Rg.up_ne h (by decide))), St.hid (fun h => c12.out (Rg.up_ne h (by decide))), St.hid (fun h => c13.out (Rg.up_ne h (by decide))), St.hid (fun h => c14.out (Rg.up_ne h (by decide))), St.hid (fun h => c19.out (Rg.up_ne h (by decide))), St.hid (bal cB.out _), St.hid (fun _ => ⟨w1.heap.size, zf, rfl, cB.out.size, zrow w1 _ rfl, fun h => by have := (cQ.out (Rg.up_ne h (by decide))).1; rw [hl] at this; cases this⟩), St.hid (fun h => by obtain ⟨g, f, e, h1, h2, h3⟩ := c16.out (Rg.up_ne h (by decide)); exact ⟨g, f, e, h1, h2.alloc _, fun h => h3 (Rg.up_ne h (by decide))⟩), St.hid (fun _ h' e => by obtain ⟨g2, f2, e2, h1, h2, h3⟩ := c16.out (Rg.up_ne h' (by decide)); rw [e2] at e; have := h2.lt; (try simp at e); (try omega)), St.hid (fun h => ⟨Rg.up_of (cQ.out (Rg.up_ne h (by decide))).1, Rg.up_of (cQ.out (Rg.up_ne h (by decide))).2⟩), St.hid (fun h => Rg.up_of (cR.out (Rg.up_ne h (by decide))))⟩
          case o16 =>
            clear hd
            go_simp
            refine hK.out _ _ ⟨_, _, _, _, _, _, _, _, _, _, _, _, _, _, _, _, _, _, rfl, St.hid (fun h => c0.out (Rg.up_ne h (by decide))), St.hid (fun h => c1.out (Rg.up_ne h (by decide))), St.hid (fun h => c2.out (Rg.up_ne h (by decide))), St.hid (fun h => c3.out (Rg.up_ne h (by decide))), St.hid (fun h => c4.out (Rg.up_ne h (by decide))), St.hid (fun h => c5.out (Rg.up_ne h (by decide))), St.hid (fun h => c6.out (Rg.up_ne h (by decide))), St.hid (fun h => c7.out (Rg.up_ne h (by decide))), St.hid (fun h => c8.out (Rg.up_ne h (by decide))), St.hid (fun h => c9.out (Rg.up_ne h (by decide))), St.hid (fun h => c10.out (Rg.up_ne h (by decide))), St.hid (fun h => c11.out (Rg.up_ne h (by decide))), St.hid (fun h => c12.out (Rg.up_ne h (by decide))), St.hid (fun h => c13.out (Rg.up_ne h (by decide))), St.hid (fun h => c14.out (Rg.up_ne h (by decide))), St.hid (fun h => c19.out (Rg.up_ne h (by decide))), St.hid (bal cB.out _), St.hid (fun h => by obtain ⟨g, f, e, h1, h2, h3⟩ := c15.out (Rg.up_ne h (by decide)); exact ⟨g, f, e, h1, h2.alloc _, fun h => h3 (Rg.up_ne h (by decide))⟩), St.hid (fun _ => ⟨w1.heap.size, zf, rfl, cB.out.size, zrow w1 _ rfl, fun h => by have := (cR.out (Rg.up_ne h (by decide))); rw [hl] at this; cases this⟩), St.hid (fun h' _ e => by obtain ⟨g2, f2, e2, h1, h2, h3⟩ := c15.out (Rg.up_ne h' (by decide)); rw [e2] at e; have := h2.lt; (try simp at e); (try omega)), St.hid (fun h => ⟨Rg.up_of (cQ.out (Rg.up_ne h (by decide))).1, Rg.up_of (cQ.out (Rg.up_ne h (by decide))).2⟩), St.hid (fun h => Rg.up_of (cR.out (Rg.up_ne h (by decide))))⟩
          case o17 =>
            simp [Rg.deps, Region.binds] at hd
            have e15 : Lf 15 = true := hd.1
            have e12 : Lf 12 = true := hd.2.1
            have hd16 : Lf 16 = true := by simp only [hd]
            obtain rfl := c12.out e12
            obtain ⟨g, f, rfl, hlo, hr, -⟩ := c15.out e15
            obtain ⟨k0, k1, k2, k3, k4, k5, k6, k7, f0, f1, f2, f3, f4, f5, f6, f7, -⟩ := rfacts hr
            have HR := St.hid hr
            clear hr
            go_simp
            refine hK.out _ _ ⟨_, _, _, _, _, _, _, _, _, _, _, _, _, _, _, _, _, _, rfl, St.hid (fun h => c0.out (Rg.up_ne h (by decide))), St.hid (fun h => c1.out (Rg.up_ne h (by decide))), St.hid (fun h => c2.out (Rg.up_ne h (by decide))), St.hid (fun h => c3.out (Rg.up_ne h (by decide))), St.hid (fun h => c4.out (Rg.up_ne h (by decide))), St.hid (fun h => c5.out (Rg.up_ne h (by decide))), St.hid (fun h => c6.out (Rg.up_ne h (by decide))), St.hid (fun h => c7.out (Rg.up_ne h (by decide))), St.hid (fun h => c8.out (Rg.up_ne h (by decide))), St.hid (fun h => c9.out (Rg.up_ne h (by decide))), St.hid (fun h => c10.out (Rg.up_ne h (by decide))), St.hid (fun h => c11.out (Rg.up_ne h (by decide))), St.hid (fun h => c12.out (Rg.up_ne h (by decide))), St.hid (fun h => c13.out (Rg.up_ne h (by decide))), St.hid (fun h => c14.out (Rg.up_ne h (by decide))), St.hid (fun h => c19.out (Rg.up_ne h (by decide))), St.hid (below8 cB.out hlo), St.hid (fun _ => ⟨g, _, rfl, hlo, row8 HR.out ma, fun _ => rfl⟩), St.hid (fun h => by obtain ⟨g2, f2, e2, h1, h2, h3⟩ := c16.out (Rg.up_ne h (by decide)); have hne : g2 ≠ g := fun e => cN.out e15 (Rg.up_ne h (by decide)) (by rw [e2, e]); exact ⟨g2, f2, e2, h1, other8 h2 hne, fun h => h3 (Rg.up_ne h (by decide))⟩), St.hid (fun h h' => cN.out (Rg.up_ne h (by decide)) (Rg.up_ne h' (by decide))), St.hid (fun _ => ⟨Rg.up_of e15, Rg.up_of hd16⟩), St.hid (fun h => Rg.up_of (cR.out (Rg.up_ne h (by decide))))⟩
          case o18 =>
            simp [Rg.deps, Region.binds] at hd
            have e16 : Lf 16 = true := hd.1
            have e13 : Lf 13 = true := hd.2.1
            obtain rfl := c13.out e13
            obtain ⟨g, f, rfl, hlo, hr, -⟩ := c16.out e16
            obtain ⟨k0, k1, k2, k3, k4, k5, k6, k7, f0, f1, f2, f3, f4, f5, f6, f7, -⟩ := rfacts hr
            have HR := St.hid hr
            clear hr
            go_simp
            refine hK.out _ _ ⟨_, _, _, _, _, _, _, _, _, _, _, _, _, _, _, _, _, _, rfl, St.hid (fun h => c0.out (Rg.up_ne h (by decide))), St.hid (fun h => c1.out (Rg.up_ne h (by decide))), St.hid (fun h => c2.out (Rg.up_ne h (by decide))), St.hid (fun h => c3.out (Rg.up_ne h (by decide))), St.hid (fun h => c4.out (Rg.up_ne h (by decide))), St.hid (fun h => c5.out (Rg.up_ne h (by decide))), St.hid (fun h => c6.out (Rg.up_ne h (by decide))), St.hid (fun h => c7.out (Rg.up_ne h (by decide))), St.hid (fun h => c8.out (Rg.up_ne h (by decide))), St.hid (fun h => c9.out (Rg.up_ne h (by decide))), St.hid (fun h => c10.out (Rg.up_ne h (by decide))), St.hid (fun h => c11.out (Rg.up_ne h (by decide))), St.hid (fun h => c12.out (Rg.up_ne h (by decide))), St.hid (fun h => c13.out (Rg.up_ne h (by decide))), St.hid (fun h => c14.out (Rg.up_ne h (by decide))), St.hid (fun h => c19.out (Rg.up_ne h (by decide))), St.hid (below8 cB.out hlo), St.hid (fun h => by obtain ⟨g2, f2, e2, h1, h2, h3⟩ := c15.out (Rg.up_ne h (by decide)); have hne : g2 ≠ g := fun e => cN.out (Rg.up_ne h (by decide)) e16 (by rw [e2, e]); exact ⟨g2, f2, e2, h1, other8 h2 hne, fun h => h3 (Rg.up_ne h (by decide))⟩), St.hid (fun _ => ⟨g, _, rfl, hlo, row8 HR.out mb, fun _ => rfl⟩), St.hid (fun h h' => cN.out (Rg.up_ne h (by decide)) (Rg.up_ne h' (by decide))), St.hid (fun h => ⟨Rg.up_of (cQ.out (Rg.up_ne h (by decide))).1, Rg.up_of (cQ.out (Rg.up_ne h (by decide))).2⟩), St.hid (fun _ => Rg.up_of e16)⟩
          case o19 =>
            simp [Rg.deps, Region.binds] at hd
            obtain rfl := c14.out hd.1
            go_simp
            refine hK.out _ _ ⟨_, _, _, _, _, _, _, _, _, _, _, _, _, _, _, _, _, _, rfl, St.hid (fun h => c0.out (Rg.up_ne h (by decide))), St.hid (fun h => c1.out (Rg.up_ne h (by decide))), St.hid (fun h => c2.out (Rg.up_ne h (by decide))), St.hid (fun h => c3.out (Rg.up_ne h (by decide))), St.hid (fun h => c4.out (Rg.up_ne h (by decide))), St.hid (fun h => c5.out (Rg.up_ne h (by decide))), St.hid (fun h => c6.out (Rg.up_ne h (by decide))), St.hid (fun h => c7.out (Rg.up_ne h (by decide))), St.hid (fun h => c8.out (Rg.up_ne h (by decide))), St.hid (fun h => c9.out (Rg.up_ne h (by decide))), St.hid (fun h => c10.out (Rg.up_ne h (by decide))), St.hid (fun h => c11.out (Rg.up_ne h (by decide))), St.hid (fun h => c12.out (Rg.up_ne h (by decide))), St.hid (fun h => c13.out (Rg.up_ne h (by decide))), St.hid (fun h => c14.out (Rg.up_ne h (by decide))), St.hid (fun _ => rfl), cB, St.hid (fun h => by obtain ⟨g, f, e, h1, h2, h3⟩ := c15.out (Rg.up_ne h (by decide)); exact ⟨g, f, e, h1, h2, fun h => h3 (Rg.up_ne h (by decide))⟩), St.hid (fun h => by obtain ⟨g, f, e, h1, h2, h3⟩ := c16.out (Rg.up_ne h (by decide)); exact ⟨g, f, e, h1, h2, fun h => h3 (Rg.up_ne h (by decide))⟩), St.hid (fun h h' => cN.out (Rg.up_ne h (by decide)) (Rg.up_ne h' (by decide))), St.hid (fun h => ⟨Rg.up_of (cQ.out (Rg.up_ne h (by decide))).1, Rg.up_of (cQ.out (Rg.up_ne h (by decide))).2⟩), St.hid (fun h => Rg.up_of (cR.out (Rg.up_ne h (by decide))))⟩
        case re =>
          intro Lf a1 w1 hI hall
          obtain ⟨v20, v21, v22, v23, v24, v25, v26, v27, v28, v29, v30, v19, v31, v32, v33, v7, v8, v9, rfl, c0, c1, c2, c3, c4, c5, c6, c7, c8, c9, c10, c11, c12, c13, c14, c19, cB, c15, c16, cN, cQ, cR⟩ := hI
          obtain ⟨g7, f7, rfl, l7, r7, e7⟩ := c15.out (hall 15 (by decide))
          obtain ⟨g8, f8, rfl, l8, r8, e8⟩ := c16.out (hall 16 (by decide))
          obtain rfl := c19.out (hall 19 (by decide))
          obtain rfl := e7 (hall 17 (by decide))
          obtain rfl := e8 (hall 18 (by decide))
          go_wp2_with fail
          go_meet
          exact ⟨w1, g7, g8, rfl, rfl, rfl, rfl, r7, r8, cB.out, l7, l8⟩
      case rest =>
      obtain ⟨W5, g7, g8, rfl, rfl, rfl, rfl, hr7, hr8, hb5, l7, l8⟩ := hcut
      have hbw := bcall HB3.out hb5
      have hW5 := St.hid (rowIs_below hW3.out hb5)
      have hR5 := St.hid (rowIs_below hR.out hbw)
      have hI5 := St.hid (owns_below hI.out hbw)
      have hO5 := St.hid (owns_below hO' hbw)
      have hS5 := St.hid (hS'.below hbw)
      have hPB5 := St.hid (rowIs_below hPB.out hb5)
      have hB5 := St.hid (bcall hB.out hbw)
      have hr7 := St.hid hr7
      have hr8 := St.hid hr8
      have hz5 : W.heap.size ≤ W5.heap.size := hb5.size
      have HTF : Hid (∀ st', st' = meet1 (mk L) st (pa, pb) → (P.take (k + 1)).foldl (meet1 (mk L)) (g, []) = st') := St.hid (fun st' e => by rw [take_fold _ _ _ _ _ hp, ← HSK.out, e])
      have HLEN : Hid (st.2.length ≤ k) := St.hid (by
        rw [HSK.out]
        refine Nat.le_trans (met_len (mk L) (P.take k) g) ?_
        rw [List.length_take]
        omega)
      have HST' := St.hid hS'
      have HO' := St.hid hO'
      have HGK := St.hid hgk
      have HOK := St.hid hok
      have HAA := St.hid (show At (withRows L st.1) pa (mk L pa) (st.1 pa) ∧ ∃ q, At L pa (mk L pa) q from ⟨h1, q1, h2⟩)
      have HAB := St.hid (show ∃ q, At L pb (mk L pb) q from ⟨q2, h4⟩)
      have hlk := HLEN.out
      clear hb5 hbw x0 x1 x2 x3 x4 xf0 xf1 xf2 xf3 xf4 p0 p1 hS' hO' h1 h2 h3 h4 hok hgk hp hma hmb hW3 hR hI hO hS hPB hB hW HA3 HB3' HBA HBB HME
      cases ov
      · have HNO : Hid (st = meet1 (mk L) st (pa, pb)) := St.hid (by
          unfold meet1
          rw [if_neg]
          have := HOV.out
          rw [HRA.out, HRB.out] at this
          show ¬ overG (mk L) st.1 (pa, pb) = true
          unfold overG
          rw [← this]
          simp)
        go_wp2_with fail
        go_roundw
        case rel =>
          refine ⟨k + 1, _, Fk, u, by omega, by go_num, rfl, hW5.out, hR5.out, hI5.out, ?_, hA, ?_, hF, hB5.out, St.hid (by omega), hFu⟩
          · rw [HTF.out st HNO.out]; exact hO5.out
          · rw [HTF.out st HNO.out]; exact hS5.out
        case measure => simp [intOf]; omega
      · have HYES : Hid ((putG (mk L) (putG (mk L) st.1 pa ma) pb mb, st.2 ++ [(pa, pb)]) = meet1 (mk L) st (pa, pb)) := St.hid (by
          unfold meet1
          have := HOV.out
          rw [HRA.out, HRB.out] at this
          rw [if_pos (show overG (mk L) st.1 (pa, pb) = true from this.symm), HMA.out, HMB.out, HRA.out, HRB.out])
        have p0 := hPB5.out.cell (i := 0) (by omega)
        have p1 := hPB5.out.cell (i := 1) (by omega)
        simp at p0 p1
        go_wp2_with (at_builtin; refine wpList_append_own_at _ rfl _ _ 29 rfl (w.heap.size + 1 + 1) 54 i79 (.agg #[.int .i64 0, .int .i64 0]) 2 16 Tryz.underlying29 hi79 hz79 hs79 hb79 rfl (by decide) _ _ _ rfl (hO5.out.alloc _) ⟨W5.heap.size, 0, none⟩ 1 1 [.int .i64 pa, .int .i64 pb] rfl ?c1 ?c2 ?c3 ?c4 ?c5 ?c6 ?_)
        case c1 => rfl
        case c2 =>
          intro j u hj
          match j, hj with
          | 0, hj => cases hj; simp [Addr.add]
          | 1, hj => cases hj; simp [Addr.add]
        case c3 => intro u hu; simp at hu; rcases hu with rfl | rfl <;> rfl
        case c4 => unfold maxLen; omega
        case c5 => omega
        case c6 => simp; omega
        intro v6 w6 hown6 hg6 _ hat6
        have hub : ∀ z, u.ownBlock = some z → w.heap.size + 1 + 1 ≤ z ∧ z < wr.heap.size := fun z hz => HO'.out.lt z hz
        have e0 : u.ownBlock ≠ some w.heap.size := fun e => by have := (hub _ e).1; omega
        have e1 : u.ownBlock ≠ some (w.heap.size + 1) := fun e => by have := (hub _ e).1; omega
        have e2 : u.ownBlock ≠ some wr.heap.size := fun e => by have := (hub _ e).2; omega
        have e7 : u.ownBlock ≠ some g7 := fun e => by have := (hub _ e).2; omega
        have e8 : u.ownBlock ≠ some g8 := fun e => by have := (hub _ e).2; omega
        have hW6 := St.hid (rowIs_grown (hW5.out.alloc _) hg6 e0)
        have hR6 := St.hid (rowIs_grown (hR5.out.alloc _) hg6 e1)
        have hPB6 := St.hid (rowIs_grown (hPB5.out.alloc _) hg6 e2)
        have hr76 := St.hid (rowIs_grown (hr7.out.alloc _) hg6 e7)
        have hr86 := St.hid (rowIs_grown (hr8.out.alloc _) hg6 e8)
        have hI6 := St.hid (owns_kept (hI5.out.alloc _) hg6 (fun z hz e => hA.out z hz e))
        have hs5' := hS5.out.below (bal (Below.refl _ W5) (.cells #[.int .i64 pa, .int .i64 pb] 54))
        have hS6 := St.hid (hs5'.keep hg6.size (fun b hb => hg6.block b (hs5'.lt hb) (fun e => hFu.out b e.symm hb)))
        have hB6 := St.hid ((bal hB5.out (.cells #[.int .i64 pa, .int .i64 pb] 54)).grown hg6 (by simp; omega) (fun z hz => by have := (hub z hz).1; omega))
        have hO6 := St.hid hown6
        have hz6 : W5.heap.size < w6.heap.size := by have := hg6.size; simp at this; omega
        have hv6 : Hid (∀ z, v6.ownBlock = some z → ¬ Fk z ∧ z < w6.heap.size ∧ ∀ y, (Value.slice (some ⟨gp, 0, none⟩) K cp).ownBlock = some y → y ≠ z) := St.hid (fun z hz => by
          have hzl := (hO6.out.lt z hz).2
          rcases hat6 with h | h
          · rw [h] at hz
            refine ⟨hFu.out z hz, hzl, fun y hy e => hA.out y hy (by rw [e]; exact hz)⟩
          · rw [h] at hz
            simp at hz
            refine ⟨fun hc => by have := HST'.out.lt hc; omega, hzl, fun y hy e => ?_⟩
            have := (hI5.out.lt y hy).2
            omega)
        have HP1 : Hid (∀ W', Below w6.heap.size w6 W' → Calls Tryz.prog 115 #[.agg #[.slice ak nk ck, .int .i64 next], .int .i64 pa, .agg #[.int .i64 ma.x, .int .i64 ma.y, .int .i64 ma.px, .int .i64 ma.py, .int .i64 ma.wd, .int .i64 ma.ht, .int .i64 ma.ms, .int .i64 ma.rr]] W' fun e w' =>
            (∃ a n c, e = .returned (.agg #[.slice a n c, .int .i64 next]) ∧ ∃ F', Sto w' F' (.slice a n c) (withRows L (putG (mk L) st.1 pa ma)) ∧ ∀ b, F' b → Fk b ∨ W'.heap.size ≤ b) ∧ Below W'.heap.size W' w') := St.hid (fun W' hb => by
          obtain ⟨h1, q, h2⟩ := HAA.out
          have := put_any (hS6.out.below hb) next HGK.out pa (mk L pa) (st.1 pa) ma h1
          rw [putL_with HGL.out.2.2.2.2.2 h2] at this
          exact this)
        have HP2 : Hid (∀ W' a1 n1 c1 F1, Sto W' F1 (.slice a1 n1 c1) (withRows L (putG (mk L) st.1 pa ma)) → Calls Tryz.prog 115 #[.agg #[.slice a1 n1 c1, .int .i64 next], .int .i64 pb, .agg #[.int .i64 mb.x, .int .i64 mb.y, .int .i64 mb.px, .int .i64 mb.py, .int .i64 mb.wd, .int .i64 mb.ht, .int .i64 mb.ms, .int .i64 mb.rr]] W' fun e w' =>
            (∃ a n c, e = .returned (.agg #[.slice a n c, .int .i64 next]) ∧ ∃ F', Sto w' F' (.slice a n c) (withRows L (putG (mk L) (putG (mk L) st.1 pa ma) pb mb)) ∧ ∀ b, F' b → F1 b ∨ W'.heap.size ≤ b) ∧ Below W'.heap.size W' w') := St.hid (fun W' a1 n1 c1 F1 hs => by
          obtain ⟨q, h2⟩ := HAB.out
          have := put_any hs next (good_with HGL.out (RowsOk.put HGL.out.2.2.2.2.2 HOK.out pa ma)) pb (mk L pb) ((putG (mk L) st.1 pa ma) pb) mb ((at_with HGL.out.even _).2 ⟨⟨q, h2⟩, rfl⟩)
          rw [putL_with HGL.out.2.2.2.2.2 h2] at this
          exact this)
        clear hown6 hg6 hat6 p0 p1 hub e0 e1 e2 e7 e8 hs5' hW5 hR5 hPB5 hr7 hr8 hI5 hS5 hB5 hO5
        go_wp2_with fail
        have hnoF : ∀ F2 : Nat → Prop, (∀ b, F2 b → Fk b ∨ w6.heap.size ≤ b) → ¬ F2 w.heap.size := fun F2 h hc => by
          rcases h _ hc with h | h
          · rcases hF.out _ h with h | h
            · have := HST.out.lt h; omega
            · omega
          · omega
        refine Rg.wp_region_inv (by kernel_rfl) (fun Lf a1 w1 => ∃ v39 v40 v41 v42 v43 v44 v45 v46 v47 v48 v49 : Value, a1 = ⟨List.toArray ((.agg #[.slice a n cap, .int .i64 next, .int .i64 fall, .int .i64 wide, .int .i64 high] : Value) :: (.pointer (some ⟨w.heap.size, 0, none⟩) : Value) :: (.pointer (some ⟨w.heap.size + 1, 0, none⟩) : Value) :: (.slice none 0 0 : Value) :: (v6 : Value) :: (undef : Value) :: (.pointer (some ⟨wr.heap.size, 0, none⟩) : Value) :: (.pointer (some ⟨g7, 0, none⟩) : Value) :: (.pointer (some ⟨g8, 0, none⟩) : Value) :: (.bool true : Value) :: (.pointer (some ⟨w.heap.size, 0, none⟩) : Value) :: (.agg #[.slice a n cap, .int .i64 next] : Value) :: (.slice au N cu : Value) :: (.slice (some ⟨gp, 0, none⟩) K cp : Value) :: (.int .i64 K : Value) :: (.int .i64 k : Value) :: (u16 : Value) :: (u17 : Value) :: (u18 : Value) :: (u19 : Value) :: (u20 : Value) :: (u21 : Value) :: (u22 : Value) :: (u23 : Value) :: (u24 : Value) :: (u25 : Value) :: (u26 : Value) :: (u27 : Value) :: (u28 : Value) :: (u29 : Value) :: (u30 : Value) :: (u31 : Value) :: (u32 : Value) :: (u33 : Value) :: (.bool true : Value) :: (u : Value) :: (.agg #[.int .i64 pa, .int .i64 pb] : Value) :: (.slice (some ⟨W5.heap.size, 0, none⟩) 1 1 : Value) :: (v6 : Value) :: v39 :: v40 :: v41 :: v42 :: v43 :: v44 :: v45 :: v46 :: v47 :: v48 :: v49 :: (u50 : Value) :: (undef : Value) :: (undef : Value) :: []), []⟩ ∧ Hid (Lf 0 = true → v39 = .pointer (some ⟨w.heap.size, 0, none⟩)) ∧ Hid (Lf 1 = true → v40 = .agg #[.slice ak nk ck, .int .i64 next]) ∧ Hid (Lf 2 = true → v41 = .pointer (some ⟨wr.heap.size, 0, none⟩)) ∧ Hid (Lf 3 = true → v42 = .int .i64 pa) ∧ Hid (Lf 4 = true → v43 = .agg #[.int .i64 ma.x, .int .i64 ma.y, .int .i64 ma.px, .int .i64 ma.py, .int .i64 ma.wd, .int .i64 ma.ht, .int .i64 ma.ms, .int .i64 ma.rr]) ∧ Hid (Lf 6 = true → v45 = .pointer (some ⟨wr.heap.size, 1, none⟩)) ∧ Hid (Lf 7 = true → v46 = .int .i64 pb) ∧ Hid (Lf 8 = true → v47 = .agg #[.int .i64 mb.x, .int .i64 mb.y, .int .i64 mb.px, .int .i64 mb.py, .int .i64 mb.wd, .int .i64 mb.ht, .int .i64 mb.ms, .int .i64 mb.rr]) ∧ Hid (Lf 10 = true → v49 = .pointer (some ⟨w.heap.size, 0, none⟩)) ∧ Hid (Lf 11 = false → Below w6.heap.size w6 w1) ∧ Hid (Lf 11 = true → ∃ (a2 : Option Addr) (n2 d2 : Nat) (F2 : Nat → Prop), w6.grownBy w1 (some w.heap.size) ∧ w1.rowIs w.heap.size 45 5 (wcell (.slice a2 n2 d2) next fall wide high) ∧ Sto w1 F2 (.slice a2 n2 d2) (withRows L (putG (mk L) (putG (mk L) st.1 pa ma) pb mb)) ∧ ∀ b, F2 b → Fk b ∨ w6.heap.size ≤ b) ∧ Hid (Lf 11 = true → ∀ j, j < 11 → Lf j = true) ∧ Hid (Lf 5 = true → Lf 11 = false → ∃ (a1 : Option Addr) (n1 d1 : Nat) (F1 : Nat → Prop), v44 = .agg #[.slice a1 n1 d1, .int .i64 next] ∧ Sto w1 F1 (.slice a1 n1 d1) (withRows L (putG (mk L) st.1 pa ma)) ∧ ∀ b, F1 b → Fk b ∨ w6.heap.size ≤ b) ∧ Hid (Lf 9 = true → Lf 11 = false → ∃ (a2 : Option Addr) (n2 d2 : Nat) (F2 : Nat → Prop), v48 = .agg #[.slice a2 n2 d2, .int .i64 next] ∧ Sto w1 F2 (.slice a2 n2 d2) (withRows L (putG (mk L) (putG (mk L) st.1 pa ma) pb mb)) ∧ ∀ b, F2 b → Fk b ∨ w6.heap.size ≤ b)) (by kernel_rfl) ?rs ?rg ?re
        case rs =>
          refine ⟨_, _, _, _, _, _, _, _, _, _, _, rfl, St.hid (fun h => by cases h), St.hid (fun h => by cases h), St.hid (fun h => by cases h), St.hid (fun h => by cases h), St.hid (fun h => by cases h), St.hid (fun h => by cases h), St.hid (fun h => by cases h), St.hid (fun h => by cases h), St.hid (fun h => by cases h), St.hid (fun _ => Below.drew (Below.refl _ w6)), St.hid (fun h => by cases h), St.hid (fun h => by cases h), St.hid (fun h => by cases h), St.hid (fun h => by cases h)⟩
        case rg =>
          intro Lf a1 w1 hI
          obtain ⟨v39, v40, v41, v42, v43, v44, v45, v46, v47, v48, v49, rfl, c0, c1, c2, c3, c4, c6, c7, c8, c10, cB, cF, cQ, c5, c9⟩ := hI
          refine ⟨fun hl hd K' hK => ?o0, fun hl hd K' hK => ?o1, fun hl hd K' hK => ?o2, fun hl hd K' hK => ?o3, fun hl hd K' hK => ?o4, fun hl hd K' hK => ?o5, fun hl hd K' hK => ?o6, fun hl hd K' hK => ?o7, fun hl hd K' hK => ?o8, fun hl hd K' hK => ?o9, fun hl hd K' hK => ?o10, fun hl hd K' hK => ?o11, trivial⟩
          case o0 =>
            clear hd
            have h11 := Rg.late cQ.out (by decide : 0 < 11) hl
            have hbel := cB.out h11
            go_simp
            refine hK.out _ _ ⟨_, _, _, _, _, _, _, _, _, _, _, rfl, St.hid (fun _ => rfl), St.hid (fun h => c1.out (Rg.up_ne h (by decide))), St.hid (fun h => c2.out (Rg.up_ne h (by decide))), St.hid (fun h => c3.out (Rg.up_ne h (by decide))), St.hid (fun h => c4.out (Rg.up_ne h (by decide))), St.hid (fun h => c6.out (Rg.up_ne h (by decide))), St.hid (fun h => c7.out (Rg.up_ne h (by decide))), St.hid (fun h => c8.out (Rg.up_ne h (by decide))), St.hid (fun h => c10.out (Rg.up_ne h (by decide))), St.hid (fun _ => hbel), St.hid (fun h => by have h0 := Rg.up_ne h (by decide); rw [h11] at h0; cases h0), St.hid (fun h => by have h0 := Rg.up_ne h (by decide); rw [h11] at h0; cases h0), St.hid (fun h _ => c5.out (Rg.up_ne h (by decide)) h11), St.hid (fun h _ => c9.out (Rg.up_ne h (by decide)) h11)⟩
          case o1 =>
            simp [Rg.deps, Region.binds] at hd
            obtain rfl := c0.out hd
            have h11 := Rg.late cQ.out (by decide : 1 < 11) hl
            have hbel := cB.out h11
            obtain ⟨x0, x1, x2, x3, x4, y0, y1, y2, y3, y4⟩ := wcells (rowIs_below hW6.out hbel)
            go_simp
            refine hK.out _ _ ⟨_, _, _, _, _, _, _, _, _, _, _, rfl, St.hid (fun h => c0.out (Rg.up_ne h (by decide))), St.hid (fun _ => rfl), St.hid (fun h => c2.out (Rg.up_ne h (by decide))), St.hid (fun h => c3.out (Rg.up_ne h (by decide))), St.hid (fun h => c4.out (Rg.up_ne h (by decide))), St.hid (fun h => c6.out (Rg.up_ne h (by decide))), St.hid (fun h => c7.out (Rg.up_ne h (by decide))), St.hid (fun h => c8.out (Rg.up_ne h (by decide))), St.hid (fun h => c10.out (Rg.up_ne h (by decide))), St.hid (fun _ => hbel), St.hid (fun h => by have h0 := Rg.up_ne h (by decide); rw [h11] at h0; cases h0), St.hid (fun h => by have h0 := Rg.up_ne h (by decide); rw [h11] at h0; cases h0), St.hid (fun h _ => c5.out (Rg.up_ne h (by decide)) h11), St.hid (fun h _ => c9.out (Rg.up_ne h (by decide)) h11)⟩
          case o2 =>
            clear hd
            have h11 := Rg.late cQ.out (by decide : 2 < 11) hl
            have hbel := cB.out h11
            go_simp
            refine hK.out _ _ ⟨_, _, _, _, _, _, _, _, _, _, _, rfl, St.hid (fun h => c0.out (Rg.up_ne h (by decide))), St.hid (fun h => c1.out (Rg.up_ne h (by decide))), St.hid (fun _ => rfl), St.hid (fun h => c3.out (Rg.up_ne h (by decide))), St.hid (fun h => c4.out (Rg.up_ne h (by decide))), St.hid (fun h => c6.out (Rg.up_ne h (by decide))), St.hid (fun h => c7.out (Rg.up_ne h (by decide))), St.hid (fun h => c8.out (Rg.up_ne h (by decide))), St.hid (fun h => c10.out (Rg.up_ne h (by decide))), St.hid (fun _ => hbel), St.hid (fun h => by have h0 := Rg.up_ne h (by decide); rw [h11] at h0; cases h0), St.hid (fun h => by have h0 := Rg.up_ne h (by decide); rw [h11] at h0; cases h0), St.hid (fun h _ => c5.out (Rg.up_ne h (by decide)) h11), St.hid (fun h _ => c9.out (Rg.up_ne h (by decide)) h11)⟩
          case o3 =>
            simp [Rg.deps, Region.binds] at hd
            obtain rfl := c2.out hd
            have h11 := Rg.late cQ.out (by decide : 3 < 11) hl
            have hbel := cB.out h11
            have p0 := (rowIs_below hPB6.out hbel).cell (i := 0) (by omega)
            have p1 := (rowIs_below hPB6.out hbel).cell (i := 1) (by omega)
            simp at p0 p1
            go_simp
            refine hK.out _ _ ⟨_, _, _, _, _, _, _, _, _, _, _, rfl, St.hid (fun h => c0.out (Rg.up_ne h (by decide))), St.hid (fun h => c1.out (Rg.up_ne h (by decide))), St.hid (fun h => c2.out (Rg.up_ne h (by decide))), St.hid (fun _ => rfl), St.hid (fun h => c4.out (Rg.up_ne h (by decide))), St.hid (fun h => c6.out (Rg.up_ne h (by decide))), St.hid (fun h => c7.out (Rg.up_ne h (by decide))), St.hid (fun h => c8.out (Rg.up_ne h (by decide))), St.hid (fun h => c10.out (Rg.up_ne h (by decide))), St.hid (fun _ => hbel), St.hid (fun h => by have h0 := Rg.up_ne h (by decide); rw [h11] at h0; cases h0), St.hid (fun h => by have h0 := Rg.up_ne h (by decide); rw [h11] at h0; cases h0), St.hid (fun h _ => c5.out (Rg.up_ne h (by decide)) h11), St.hid (fun h _ => c9.out (Rg.up_ne h (by decide)) h11)⟩
          case o4 =>
            clear hd
            have h11 := Rg.late cQ.out (by decide : 4 < 11) hl
            have hbel := cB.out h11
            obtain ⟨k0, k1, k2, k3, k4, k5, k6, k7⟩ := row8c (rowIs_below hr76.out hbel)
            go_simp
            refine hK.out _ _ ⟨_, _, _, _, _, _, _, _, _, _, _, rfl, St.hid (fun h => c0.out (Rg.up_ne h (by decide))), St.hid (fun h => c1.out (Rg.up_ne h (by decide))), St.hid (fun h => c2.out (Rg.up_ne h (by decide))), St.hid (fun h => c3.out (Rg.up_ne h (by decide))), St.hid (fun _ => rfl), St.hid (fun h => c6.out (Rg.up_ne h (by decide))), St.hid (fun h => c7.out (Rg.up_ne h (by decide))), St.hid (fun h => c8.out (Rg.up_ne h (by decide))), St.hid (fun h => c10.out (Rg.up_ne h (by decide))), St.hid (fun _ => hbel), St.hid (fun h => by have h0 := Rg.up_ne h (by decide); rw [h11] at h0; cases h0), St.hid (fun h => by have h0 := Rg.up_ne h (by decide); rw [h11] at h0; cases h0), St.hid (fun h _ => c5.out (Rg.up_ne h (by decide)) h11), St.hid (fun h _ => c9.out (Rg.up_ne h (by decide)) h11)⟩
          case o5 =>
            simp [Rg.deps, Region.binds] at hd
            obtain rfl := c1.out hd.1
            obtain rfl := c3.out hd.2.1
            obtain rfl := c4.out hd.2.2
            have h11 := Rg.late cQ.out (by decide : 5 < 11) hl
            have hbel := cB.out h11
            go_simp
            refine (HP1.out _ hbel).mono ?_
            rintro e w2 ⟨⟨a1, n1, d1, rfl, F1, hs1, hF1⟩, hb⟩
            refine hK.out _ _ ⟨_, _, _, _, _, _, _, _, _, _, _, rfl, St.hid (fun h => c0.out (Rg.up_ne h (by decide))), St.hid (fun h => c1.out (Rg.up_ne h (by decide))), St.hid (fun h => c2.out (Rg.up_ne h (by decide))), St.hid (fun h => c3.out (Rg.up_ne h (by decide))), St.hid (fun h => c4.out (Rg.up_ne h (by decide))), St.hid (fun h => c6.out (Rg.up_ne h (by decide))), St.hid (fun h => c7.out (Rg.up_ne h (by decide))), St.hid (fun h => c8.out (Rg.up_ne h (by decide))), St.hid (fun h => c10.out (Rg.up_ne h (by decide))), St.hid (fun _ => bcall hbel hb), St.hid (fun h => by have h0 := Rg.up_ne h (by decide); rw [h11] at h0; cases h0), St.hid (fun h => by have h0 := Rg.up_ne h (by decide); rw [h11] at h0; cases h0), St.hid (fun _ _ => ⟨a1, n1, d1, F1, rfl, hs1, fun b hb2 => (hF1 b hb2).imp id (fun h => Nat.le_trans hbel.size h)⟩), St.hid (fun h _ => by obtain ⟨a1, n1, d1, F1, e, h1, h2⟩ := c9.out (Rg.up_ne h (by decide)) h11; exact ⟨a1, n1, d1, F1, e, h1.below hb, h2⟩)⟩
          case o6 =>
            clear hd
            have h11 := Rg.late cQ.out (by decide : 6 < 11) hl
            have hbel := cB.out h11
            go_simp
            refine hK.out _ _ ⟨_, _, _, _, _, _, _, _, _, _, _, rfl, St.hid (fun h => c0.out (Rg.up_ne h (by decide))), St.hid (fun h => c1.out (Rg.up_ne h (by decide))), St.hid (fun h => c2.out (Rg.up_ne h (by decide))), St.hid (fun h => c3.out (Rg.up_ne h (by decide))), St.hid (fun h => c4.out (Rg.up_ne h (by decide))), St.hid (fun _ => rfl), St.hid (fun h => c7.out (Rg.up_ne h (by decide))), St.hid (fun h => c8.out (Rg.up_ne h (by decide))), St.hid (fun h => c10.out (Rg.up_ne h (by decide))), St.hid (fun _ => hbel), St.hid (fun h => by have h0 := Rg.up_ne h (by decide); rw [h11] at h0; cases h0), St.hid (fun h => by have h0 := Rg.up_ne h (by decide); rw [h11] at h0; cases h0), St.hid (fun h _ => c5.out (Rg.up_ne h (by decide)) h11), St.hid (fun h _ => c9.out (Rg.up_ne h (by decide)) h11)⟩
          case o7 =>
            simp [Rg.deps, Region.binds] at hd
            obtain rfl := c6.out hd
            have h11 := Rg.late cQ.out (by decide : 7 < 11) hl
            have hbel := cB.out h11
            have p0 := (rowIs_below hPB6.out hbel).cell (i := 0) (by omega)
            have p1 := (rowIs_below hPB6.out hbel).cell (i := 1) (by omega)
            simp at p0 p1
            go_simp
            refine hK.out _ _ ⟨_, _, _, _, _, _, _, _, _, _, _, rfl, St.hid (fun h => c0.out (Rg.up_ne h (by decide))), St.hid (fun h => c1.out (Rg.up_ne h (by decide))), St.hid (fun h => c2.out (Rg.up_ne h (by decide))), St.hid (fun h => c3.out (Rg.up_ne h (by decide))), St.hid (fun h => c4.out (Rg.up_ne h (by decide))), St.hid (fun h => c6.out (Rg.up_ne h (by decide))), St.hid (fun _ => rfl), St.hid (fun h => c8.out (Rg.up_ne h (by decide))), St.hid (fun h => c10.out (Rg.up_ne h (by decide))), St.hid (fun _ => hbel), St.hid (fun h => by have h0 := Rg.up_ne h (by decide); rw [h11] at h0; cases h0), St.hid (fun h => by have h0 := Rg.up_ne h (by decide); rw [h11] at h0; cases h0), St.hid (fun h _ => c5.out (Rg.up_ne h (by decide)) h11), St.hid (fun h _ => c9.out (Rg.up_ne h (by decide)) h11)⟩
          case o8 =>
            clear hd
            have h11 := Rg.late cQ.out (by decide : 8 < 11) hl
            have hbel := cB.out h11
            obtain ⟨k0, k1, k2, k3, k4, k5, k6, k7⟩ := row8c (rowIs_below hr86.out hbel)
            go_simp
            refine hK.out _ _ ⟨_, _, _, _, _, _, _, _, _, _, _, rfl, St.hid (fun h => c0.out (Rg.up_ne h (by decide))), St.hid (fun h => c1.out (Rg.up_ne h (by decide))), St.hid (fun h => c2.out (Rg.up_ne h (by decide))), St.hid (fun h => c3.out (Rg.up_ne h (by decide))), St.hid (fun h => c4.out (Rg.up_ne h (by decide))), St.hid (fun h => c6.out (Rg.up_ne h (by decide))), St.hid (fun h => c7.out (Rg.up_ne h (by decide))), St.hid (fun _ => rfl), St.hid (fun h => c10.out (Rg.up_ne h (by decide))), St.hid (fun _ => hbel), St.hid (fun h => by have h0 := Rg.up_ne h (by decide); rw [h11] at h0; cases h0), St.hid (fun h => by have h0 := Rg.up_ne h (by decide); rw [h11] at h0; cases h0), St.hid (fun h _ => c5.out (Rg.up_ne h (by decide)) h11), St.hid (fun h _ => c9.out (Rg.up_ne h (by decide)) h11)⟩
          case o9 =>
            simp [Rg.deps, Region.binds] at hd
            have h11 := Rg.late cQ.out (by decide : 9 < 11) hl
            have hbel := cB.out h11
            obtain ⟨a1, n1, d1, F1, rfl, hs1, hF1⟩ := c5.out hd.1 h11
            obtain rfl := c7.out hd.2.1
            obtain rfl := c8.out hd.2.2.1
            go_simp
            refine (HP2.out _ _ _ _ _ hs1).mono ?_
            rintro e w2 ⟨⟨a2, n2, d2, rfl, F2, hs2, hF2⟩, hb⟩
            refine hK.out _ _ ⟨_, _, _, _, _, _, _, _, _, _, _, rfl, St.hid (fun h => c0.out (Rg.up_ne h (by decide))), St.hid (fun h => c1.out (Rg.up_ne h (by decide))), St.hid (fun h => c2.out (Rg.up_ne h (by decide))), St.hid (fun h => c3.out (Rg.up_ne h (by decide))), St.hid (fun h => c4.out (Rg.up_ne h (by decide))), St.hid (fun h => c6.out (Rg.up_ne h (by decide))), St.hid (fun h => c7.out (Rg.up_ne h (by decide))), St.hid (fun h => c8.out (Rg.up_ne h (by decide))), St.hid (fun h => c10.out (Rg.up_ne h (by decide))), St.hid (fun _ => bcall hbel hb), St.hid (fun h => by have h0 := Rg.up_ne h (by decide); rw [h11] at h0; cases h0), St.hid (fun h => by have h0 := Rg.up_ne h (by decide); rw [h11] at h0; cases h0), St.hid (fun h _ => by obtain ⟨a1, n1, d1, F1, e, h1, h2⟩ := c5.out (Rg.up_ne h (by decide)) h11; exact ⟨a1, n1, d1, F1, e, h1.below hb, h2⟩), St.hid (fun _ _ => ⟨a2, n2, d2, F2, rfl, hs2, fun b hb2 => (hF2 b hb2).elim (hF1 b) (fun h => Or.inr (Nat.le_trans hbel.size h))⟩)⟩
          case o10 =>
            clear hd
            have h11 := Rg.late cQ.out (by decide : 10 < 11) hl
            have hbel := cB.out h11
            go_simp
            refine hK.out _ _ ⟨_, _, _, _, _, _, _, _, _, _, _, rfl, St.hid (fun h => c0.out (Rg.up_ne h (by decide))), St.hid (fun h => c1.out (Rg.up_ne h (by decide))), St.hid (fun h => c2.out (Rg.up_ne h (by decide))), St.hid (fun h => c3.out (Rg.up_ne h (by decide))), St.hid (fun h => c4.out (Rg.up_ne h (by decide))), St.hid (fun h => c6.out (Rg.up_ne h (by decide))), St.hid (fun h => c7.out (Rg.up_ne h (by decide))), St.hid (fun h => c8.out (Rg.up_ne h (by decide))), St.hid (fun _ => rfl), St.hid (fun _ => hbel), St.hid (fun h => by have h0 := Rg.up_ne h (by decide); rw [h11] at h0; cases h0), St.hid (fun h => by have h0 := Rg.up_ne h (by decide); rw [h11] at h0; cases h0), St.hid (fun h _ => c5.out (Rg.up_ne h (by decide)) h11), St.hid (fun h _ => c9.out (Rg.up_ne h (by decide)) h11)⟩
          case o11 =>
            simp [Rg.deps, Region.binds] at hd
            obtain rfl := c10.out hd.1
            obtain ⟨a2, n2, d2, F2, rfl, hs2, hF2⟩ := c9.out hd.2.1 hl
            have hbel := cB.out hl
            obtain ⟨x0, x1, x2, x3, x4, y0, y1, y2, y3, y4⟩ := wcells (rowIs_below hW6.out hbel)
            go_simp
            refine hK.out _ _ ⟨_, _, _, _, _, _, _, _, _, _, _, rfl, St.hid (fun h => c0.out (Rg.up_ne h (by decide))), St.hid (fun h => c1.out (Rg.up_ne h (by decide))), St.hid (fun h => c2.out (Rg.up_ne h (by decide))), St.hid (fun h => c3.out (Rg.up_ne h (by decide))), St.hid (fun h => c4.out (Rg.up_ne h (by decide))), St.hid (fun h => c6.out (Rg.up_ne h (by decide))), St.hid (fun h => c7.out (Rg.up_ne h (by decide))), St.hid (fun h => c8.out (Rg.up_ne h (by decide))), St.hid (fun h => c10.out (Rg.up_ne h (by decide))), St.hid (fun h => by simp [Rg.up] at h), St.hid (fun _ => ⟨a2, n2, d2, F2, (grown_none (grown_of_below hbel)).trans ((grown_set _ _ _ _).trans (grown_set _ _ _ _)), set_world (rowIs_below hW6.out hbel) _, (hs2.setCell (hnoF F2 hF2) _ _).setCell (hnoF F2 hF2) _ _, hF2⟩), St.hid (fun _ j hj => Rg.up_of (by have hj : j = 0 ∨ j = 1 ∨ j = 2 ∨ j = 3 ∨ j = 4 ∨ j = 5 ∨ j = 6 ∨ j = 7 ∨ j = 8 ∨ j = 9 ∨ j = 10 := (by omega); rcases hj with rfl | rfl | rfl | rfl | rfl | rfl | rfl | rfl | rfl | rfl | rfl <;> simp only [hd])), St.hid (fun _ h => by simp [Rg.up] at h), St.hid (fun _ h => by simp [Rg.up] at h)⟩
        case re =>
          intro Lf a1 w1 hI hall
          obtain ⟨v39, v40, v41, v42, v43, v44, v45, v46, v47, v48, v49, rfl, c0, c1, c2, c3, c4, c6, c7, c8, c10, cB, cF, cQ, c5, c9⟩ := hI
          obtain ⟨a2, n2, d2, F2, hg8, hW8, hS8, hF8⟩ := cF.out (hall 11 (by decide))
          have hub : ∀ z, v6.ownBlock = some z → w.heap.size + 1 + 1 ≤ z := fun z hz => (hO6.out.lt z hz).1
          have hpb : ∀ z, (Value.slice (some ⟨gp, 0, none⟩) K cp).ownBlock = some z → w.heap.size + 1 + 1 ≤ z := fun z hz => (hI6.out.lt z hz).1
          have hW8 := St.hid hW8
          have hR8 := St.hid (rowIs_grown hR6.out hg8 (by simp))
          have hI8 := St.hid (owns_kept hI6.out hg8 (fun z hz e => by have := hpb z hz; simp at e; omega))
          have hO8 := St.hid (owns_kept hO6.out hg8 (fun z hz e => by have := hub z hz; simp at e; omega))
          have hB8 := St.hid (below_grown hB6.out hg8 (by have := hB6.out.size; omega) (Nat.le_refl _))
          have hS8 := St.hid hS8
          have hz8 := hg8.size
          have HFN : Hid (∀ b, F2 b → F b ∨ w.heap.size + 1 + 1 ≤ b) := St.hid (fun b hb => by
            rcases hF8 b hb with h | h
            · exact hF.out b h
            · exact Or.inr (by omega))
          have HFV : Hid (∀ z, v6.ownBlock = some z → ¬ F2 z) := St.hid (fun z hz hc => by
            rcases hF8 z hc with h | h
            · exact (hv6.out z hz).1 h
            · have := (hv6.out z hz).2.1; omega)
          clear hg8 hF8 hub hpb hnoF hO6 hI6 hW6 hR6 hPB6 hr76 hr86 hS6 hB6 HP1 HP2
          go_wp2_with fail
          go_roundw
          case rel =>
            refine ⟨k + 1, _, F2, v6, by omega, by go_num, rfl, hW8.out, hR8.out, hI8.out, ?_, ?_, ?_, HFN.out, hB8.out, St.hid (by omega), HFV.out⟩
            · rw [HTF.out _ HYES.out]
              have := hO8.out
              simp only [List.length_append, List.length_cons, List.length_nil, List.flatMap_append]
              exact this
            · exact St.hid (fun y hy e => (hv6.out y e).2.2 y hy rfl)
            · rw [HTF.out _ HYES.out]
              exact hS8.out
          case measure => simp [intOf]; omega
    · obtain ⟨y0, y1, y2, y3, y4, yf0, yf1, yf2, yf3, yf4⟩ := wcells hR.out
      have hke : Hid (P.take k = P) := St.hid (by rw [List.take_of_length_le]; have := HK.out; omega)
      go_wp2_with fail
      refine bodyPost_ret (v := .tuple #[.agg #[.slice ak nk ck, .int .i64 next, .int .i64 fall, .int .i64 wide, .int .i64 high], u]) (by simp [results, Tryz.results98, go_sem, y0, y1, y2, y3, y4]) rfl ⟨⟨ak, nk, ck, u, rfl, ⟨Fk, ?_, fun b hb => ?_⟩, ?_⟩, ?_⟩
      · have h1 := hS.out
        rw [hke.out, HP.out] at h1
        have hno : ¬ Fk (w.heap.size + 1) := fun hc => by
          rcases hF.out _ hc with h | h
          · have := HST.out.lt h; omega
          · omega
        exact ((((h1.setCell hno _ _).setCell hno _ _).setCell hno _ _).setCell hno _ _).setCell hno _ _
      · rcases hF.out b hb with h | h
        · exact Or.inl h
        · exact Or.inr (by omega)
      · have h1 := hO.out
        rw [hke.out, HP.out] at h1
        have hne : u.ownBlock ≠ some (w.heap.size + 1) := fun e => by have := (h1.lt _ e).1; omega
        exact owns_mono (owns_set (owns_set (owns_set (owns_set (owns_set h1 hne _ _) hne _ _) hne _ _) hne _ _) hne _ _) (by omega)
      · iterate 5 refine Below.setCell ?_ (by simp) _
        exact hB.out
end Go.Proofs.YtckkkdldljhehacGreat.Wd
