/- Part of the proofs of GamePlays and GameRuns (package ninepinslaw): contracts of the functions that they call. -/
import Derived.Deep.DrawnRows
import Derived.WalkSmall
import Derived.Lib.SmallJoins
import Derived.Laws.OwnMore
import Derived.Deep.OwnRows
import Derived.Lib.SliceRun
import Derived.Deep.DeepCutAuto
import Derived.Test.YtckkkdldljhehacGreatPkB
namespace Go.Proofs.YtckkkdldljhehacGreat
namespace Rp
open Num St
open Go.ChangeShapes Go.WideShapes Go.ChangeAt Go.RowKit
theorem hid {p : Prop} (h : p) : Hid p := h
def IntsR (W : World) (v : Value) (l : List Int) : Prop := ∃ a c, v = .slice a l.length c ∧ (0 < l.length → ∃ b off, a = some ⟨b, off, none⟩ ∧ b < W.heap.size ∧ ∀ i x, l[i]? = some x → W.cell? ⟨b, off + i, none⟩ = some (.int .i64 x))
def PairsR (W : World) (v : Value) (l : List (Int × Int)) : Prop := ∃ a c, v = .slice a l.length c ∧ (0 < l.length → ∃ b off, a = some ⟨b, off, none⟩ ∧ b < W.heap.size ∧ ∀ i x, l[i]? = some x → W.cell? ⟨b, off + i * 2, none⟩ = some (.int .i64 x.1) ∧ W.cell? ⟨b, off + i * 2 + 1, none⟩ = some (.int .i64 x.2))
theorem ints_nil (W : World) (c : Nat) (a : Option Addr) : IntsR W (.slice a 0 c) [] := ⟨a, c, rfl, fun h => absurd h (Nat.lt_irrefl _)⟩
theorem pairs_nil (W : World) (c : Nat) (a : Option Addr) : PairsR W (.slice a 0 c) [] := ⟨a, c, rfl, fun h => absurd h (Nat.lt_irrefl _)⟩
theorem IntsR.below {W W' : World} {v : Value} {l : List Int} (h : IntsR W v l) (hb : Below W.heap.size W W') : IntsR W' v l := by
 obtain ⟨a, c, e, h⟩ := h
 refine ⟨a, c, e, fun hp => ?_⟩
 obtain ⟨b, off, e, hl, hc⟩ := h hp
 exact ⟨b, off, e, Nat.lt_of_lt_of_le hl hb.size, fun i x hx => by rw [hb.cell (p := ⟨b, off + i, none⟩) hl]; exact hc i x hx⟩
theorem PairsR.below {W W' : World} {v : Value} {l : List (Int × Int)} (h : PairsR W v l) (hb : Below W.heap.size W W') : PairsR W' v l := by
 obtain ⟨a, c, e, h⟩ := h
 refine ⟨a, c, e, fun hp => ?_⟩
 obtain ⟨b, off, e, hl, hc⟩ := h hp
 exact ⟨b, off, e, Nat.lt_of_lt_of_le hl hb.size, fun i x hx => by rw [hb.cell (p := ⟨b, off + i * 2, none⟩) hl, hb.cell (p := ⟨b, off + i * 2 + 1, none⟩) hl]; exact hc i x hx⟩
theorem IntsR.own {W : World} {B n : Nat} {v : Value} {l : List Int} (h : W.ownsRow B 3 1 v n (l.map (Value.int .i64))) (hn : n = l.length) : IntsR W v l := by
 subst hn
 rcases h.2 with ⟨rfl, h0⟩ | ⟨g, c, cur, rfl, _⟩
 ·rw [List.length_eq_zero_iff.1 h0]; exact ints_nil W 0 none
 ·refine ⟨_, c, rfl, fun hp => ⟨g, 0, rfl, (h.lt g rfl).2, fun i x hx => ?_⟩⟩
  have hlt := (List.getElem?_eq_some_iff.1 hx).1
  rw [Nat.zero_add, h.cellAt i (by omega), List.getElem?_map, hx]
  rfl
theorem flat2 (l : List (Int × Int)) (i s : Nat) (x : Int × Int) (hi : l[i]? = some x) (hs : s < 2) : (l.flatMap fun p => [Value.int .i64 p.1, .int .i64 p.2])[i * 2 + s]? = [Value.int .i64 x.1, .int .i64 x.2][s]? := by
 induction l generalizing i with
 | nil => simp at hi
 | cons r l ih =>
  rw [List.flatMap_cons]
  cases i with
  | zero => simp at hi; subst hi; rw [Nat.zero_mul, Nat.zero_add, List.getElem?_append_left (by simpa using hs)]
  | succ i => rw [List.getElem?_append_right (by simp; omega)]; simp only [List.length_cons, List.length_nil]; rw [show (i + 1) * 2 + s - (0 + 1 + 1) = i * 2 + s by omega, ih i (by simpa using hi)]
theorem PairsR.own {W : World} {B n : Nat} {t : TypeId} {v : Value} {l : List (Int × Int)} (h : W.ownsRow B t 2 v n (l.flatMap fun p => [Value.int .i64 p.1, .int .i64 p.2])) (hn : n = l.length) : PairsR W v l := by
 subst hn
 rcases h.2 with ⟨rfl, h0⟩ | ⟨g, c, cur, rfl, _⟩
 ·rw [List.length_eq_zero_iff.1 h0]; exact pairs_nil W 0 none
 ·refine ⟨_, c, rfl, fun hp => ⟨g, 0, rfl, (h.lt g rfl).2, fun i x hx => ?_⟩⟩
  have hlt := (List.getElem?_eq_some_iff.1 hx).1
  have h0 := h.cellAt (i * 2 + 0) (by omega)
  have h1 := h.cellAt (i * 2 + 1) (by omega)
  rw [flat2 l i 0 x hx (by omega)] at h0
  rw [flat2 l i 1 x hx (by omega)] at h1
  rw [Nat.zero_add]
  exact ⟨h0, h1⟩
theorem eqPn (d : Nat) (x y x' y' : Int) (w : World) :
  (Op.equalIn (d + 2) 54 (.agg #[.int .i64 x, .int .i64 y]) (.agg #[.int .i64 x', .int .i64 y'])).run Tryz.prog w = .ok (x == x' && y == y') w := by
 have h1 : Tryz.prog.underlying 54 = some (.struct (Tryz.prog.fieldsOf 54)) := by kernel_rfl
 have h2 : Tryz.prog.stoodInHeld 54 = false := by kernel_rfl
 rw [run_equalIn_struct w (d + 1) 54 _ _ h1 h2]
 simp [go_sem, Tryz.underlying54, Tryz.underlying3]
 by_cases a1 : x = x' <;> by_cases a2 : y = y' <;> simp [a1, a2]
theorem neqOf {n : Nat} {P : Program} {w : World} {t : TypeId} {xs ys : Array Value} (h : n = 10000) {v : Bool} (e : (Op.equalIn n t (.agg xs) (.agg ys)).run P w = .ok v w) :
  (binOp .neq t (.agg xs) (.agg ys)).run P w = .ok (.bool (!v)) w := by
 subst h
 rw [run_neq_struct, e]
 rfl
theorem neqP (x y x' y' : Int) (w : World) :
  (binOp .neq 54 (.agg #[.int .i64 x, .int .i64 y]) (.agg #[.int .i64 x', .int .i64 y'])).run Tryz.prog w = .ok (.bool (!(x == x' && y == y'))) w :=
 neqOf (n := 9998 + 2) rfl (eqPn 9998 _ _ _ _ w)
theorem take_eq {α : Type} {l l' : List α} {k : Nat} {x y : α} (h : l.take k = l'.take k) (hx : l[k]? = some x) (hy : l'[k]? = some y) (e : x = y) : l.take (k + 1) = l'.take (k + 1) := by
 have h1 := (List.getElem?_eq_some_iff.1 hx)
 have h2 := (List.getElem?_eq_some_iff.1 hy)
 rw [List.take_succ_eq_append_getElem h1.1, List.take_succ_eq_append_getElem h2.1, h, h1.2, h2.2, e]
theorem take_ne {α : Type} {l l' : List α} {k : Nat} {x y : α} (hx : l[k]? = some x) (hy : l'[k]? = some y) (e : x ≠ y) : l ≠ l' := fun h => by
 rw [h, hy] at hx
 exact e (Option.some.inj hx).symm
theorem ret_bool {a b : Bool} (h : a = b) : Ending.returned (.bool a) = .returned (.bool b) := by rw [h]
def rcell (c n : Int) (u v : Value) (i : Nat) : Value := if i = 0 then .int .i64 c else if i = 1 then .int .i64 n else if i = 2 then u else v
theorem rowIs4 (w : World) (c n : Int) (u v : Value) (t : TypeId) : (w.alloc (.cells #[.int .i64 c, .int .i64 n, u, v] t)).rowIs w.heap.size t 4 (rcell c n u v) :=
 ⟨_, (MapKept.heap_alloc w _).1, rfl, fun i hi => by
  match i, hi with
  | 0, _ => rfl
  | 1, _ => rfl
  | 2, _ => rfl
  | 3, _ => rfl⟩
theorem rcells {W : World} {b : Nat} {t : TypeId} {c n : Int} {u v : Value} (h : W.rowIs b t 4 (rcell c n u v)) : W.cell? ⟨b, 0, none⟩ = some (.int .i64 c) ∧ W.cell? ⟨b, 1, none⟩ = some (.int .i64 n) ∧ W.cell? ⟨b, 2, none⟩ = some u ∧ W.cell? ⟨b, 3, none⟩ = some v :=
 ⟨h.cell (i := 0) (by omega), h.cell (i := 1) (by omega), h.cell (i := 2) (by omega), h.cell (i := 3) (by omega)⟩
theorem rowBelow {w w' : World} {b n : Nat} {t : TypeId} {f : Nat → Value} (h : w.rowIs b t n f) (hb : Below w.heap.size w w') : w'.rowIs b t n f := by
 obtain ⟨cs, h1, h2, h3⟩ := h
 exact ⟨cs, by rw [hb.block b (Array.getElem?_eq_some_iff.1 h1).1]; exact h1, h2, h3⟩
end Rp
namespace Rp
open Num St
open Go.ChangeShapes Go.WideShapes Go.ChangeAt Go.RowKit
attribute [local go_sem ↓] Go.wp_at_zero Go.wp_at_succ
set_option maxHeartbeats 4000000 in
set_option maxRecDepth 100000 in
theorem sameReply_any (c n c' n' : Int) (ua ma ub mb : Value) (la lb : List Int) (ka kb : List (Int × Int)) (w : World) (h1 : IntsR w ua la) (h2 : PairsR w ma ka) (h3 : IntsR w ub lb) (h4 : PairsR w mb kb) (z1 : la.length ≤ 1000000000000) (z2 : ka.length ≤ 1000000000000) :
  Calls Tryz.prog 26 #[.agg #[.int .i64 c, .int .i64 n, ua, ma], .agg #[.int .i64 c', .int .i64 n', ub, mb]] w fun e w' => e = .returned (.bool (decide (c = c' ∧ n = n' ∧ la = lb ∧ ka = kb))) ∧ Below w.heap.size w w' := by
 have H1 := hid h1
 have H2 := hid h2
 have H3 := hid h3
 have H4 := hid h4
 obtain ⟨a1, c1, rfl, -⟩ := h1
 obtain ⟨a2, c2, rfl, -⟩ := h2
 obtain ⟨a3, c3, rfl, -⟩ := h3
 obtain ⟨a4, c4, rfl, -⟩ := h4
 obtain ⟨N, hN⟩ : ∃ N, N = la.length := ⟨_, rfl⟩
 obtain ⟨N', hN'⟩ : ∃ N, N = lb.length := ⟨_, rfl⟩
 obtain ⟨K, hK⟩ : ∃ N, N = ka.length := ⟨_, rfl⟩
 obtain ⟨K', hK'⟩ : ∃ N, N = kb.length := ⟨_, rfl⟩
 rw [← hN] at H1 ⊢ z1
 rw [← hN'] at H3 ⊢
 rw [← hK] at H2 ⊢ z2
 rw [← hK'] at H4 ⊢
 have HN := hid hN
 have HN' := hid hN'
 have HK := hid hK
 have HK' := hid hK'
 clear hN hN' hK hK'
 go_enter Tryz.func26, Tryz.ntmps26
 have HB0 := hid (bal (bal (Below.refl _ w) (.cells #[.int .i64 c, .int .i64 n, .slice a1 N c1, .slice a2 K c2] 31)) (.cells #[.int .i64 c', .int .i64 n', .slice a3 N' c3, .slice a4 K' c4] 31))
 by_cases e1 : c = c'
 case neg =>
  have b1 : (c != c') = true := by simpa using e1
  have HF : Hid (decide (c = c' ∧ n = n' ∧ la = lb ∧ ka = kb) = false) := hid (by simp [e1])
  go_wp2
  go_ret
  exact ⟨ret_bool HF.out.symm, HB0.out⟩
 case pos =>
 have b1 : (c != c') = false := by simpa using e1
 by_cases e2 : n = n'
 case neg =>
  have b2 : (n != n') = true := by simpa using e2
  have HF : Hid (decide (c = c' ∧ n = n' ∧ la = lb ∧ ka = kb) = false) := hid (by simp [e2])
  clear e1
  go_wp2
  go_ret
  exact ⟨ret_bool HF.out.symm, HB0.out⟩
 case pos =>
 have b2 : (n != n') = false := by simpa using e2
 by_cases e3 : N = N'
 case neg =>
  have b3 : ((N : Int) != (N' : Int)) = true := by rw [bne_iff_ne]; omega
  have HF : Hid (decide (c = c' ∧ n = n' ∧ la = lb ∧ ka = kb) = false) := hid (by
   have : la ≠ lb := fun e => e3 (by rw [HN.out, HN'.out, e])
   simp [this])
  clear e1 e2
  go_wp2
  go_ret
  exact ⟨ret_bool HF.out.symm, HB0.out⟩
 case pos =>
 by_cases e4 : K = K'
 case neg =>
  have b3 : ((N : Int) != (N' : Int)) = false := by rw [bne_eq_false_iff_eq]; omega
  have b4 : ((K : Int) != (K' : Int)) = true := by rw [bne_iff_ne]; omega
  have HF : Hid (decide (c = c' ∧ n = n' ∧ la = lb ∧ ka = kb) = false) := hid (by
   have : ka ≠ kb := fun e => e4 (by rw [HK.out, HK'.out, e])
   simp [this])
  clear e1 e2 e3
  go_wp2
  go_ret
  exact ⟨ret_bool HF.out.symm, HB0.out⟩
 case pos =>
 subst e3 e4
 have HE : Hid (decide (c = c' ∧ n = n' ∧ la = lb ∧ ka = kb) = (decide (la = lb) && decide (ka = kb))) := hid (by simp [e1, e2])
 clear e1 e2
 go_wp2_with fail
 have hA0 := hid ((rowIs4 w c n (.slice a1 N c1) (.slice a2 K c2) 31).alloc (.cells #[.int .i64 c', .int .i64 n', .slice a3 N c3, .slice a4 K c4] 31))
 have hB1 := hid (rowIs4 (w.alloc (.cells #[.int .i64 c, .int .i64 n, .slice a1 N c1, .slice a2 K c2] 31)) c' n' (.slice a3 N c3) (.slice a4 K c4) 31)
 rw [World.size_alloc] at hB1
 have hz0 : ((w.alloc (.cells #[.int .i64 c, .int .i64 n, .slice a1 N c1, .slice a2 K c2] 31)).alloc (.cells #[.int .i64 c', .int .i64 n', .slice a3 N c3, .slice a4 K c4] 31)).heap.size = w.heap.size + 1 + 1 := by simp
 generalize (w.alloc (.cells #[.int .i64 c, .int .i64 n, .slice a1 N c1, .slice a2 K c2] 31)).alloc (.cells #[.int .i64 c', .int .i64 n', .slice a3 N c3, .slice a4 K c4] 31) = W at hA0 hB1 HB0 hz0 ⊢
 have HZ := hid hz0
 clear hz0
 go_loopw [40] (fun i wr => ∃ k : Nat, k ≤ N ∧ i = .int .i64 k ∧ Hid (la.take k = lb.take k) ∧ Hid (Below W.heap.size W wr)) (fun i _ => N - (intOf i).toNat)
 case atStart => exact ⟨0, Nat.zero_le _, rfl, rfl, Below.refl _ _⟩
 case round =>
  obtain ⟨k, hk, rfl, ht, hb⟩ := hrel
  obtain ⟨x0, x1, x2, x3⟩ := rcells (rowBelow hA0.out hb.out)
  obtain ⟨y0, y1, y2, y3⟩ := rcells (rowBelow hB1.out hb.out)
  by_cases hlt : k < N
  ·obtain ⟨x, hx⟩ : ∃ x, la[k]? = some x := ⟨_, List.getElem?_eq_getElem (by have := HN.out; omega)⟩
   obtain ⟨y, hy⟩ : ∃ x, lb[k]? = some x := ⟨_, List.getElem?_eq_getElem (by have := HN'.out; omega)⟩
   obtain ⟨_, _, ea, ra⟩ := H1.out.below (bcall HB0.out hb.out)
   obtain ⟨_, _, eb, rb⟩ := H3.out.below (bcall HB0.out hb.out)
   obtain ⟨ba, oa, rfl, la1, hca⟩ := ra (by have := HN.out; omega)
   obtain ⟨bb, ob, rfl, lb1, hcb⟩ := rb (by have := HN'.out; omega)
   simp only [Value.slice.injEq] at ea eb
   obtain ⟨rfl, -, -⟩ := ea
   obtain ⟨rfl, -, -⟩ := eb
   have cx := hca k x hx
   have cy := hcb k y hy
   have HX := hid hx
   have HY := hid hy
   clear hca hcb hx hy
   have hlt' : (k : Int) < (N : Int) := by omega
   by_cases e : x = y
   ·have b : (x != y) = false := by simpa using e
    have HT := hid (take_eq ht.out HX.out HY.out e)
    clear e
    go_wp2_with fail
    go_region
    all_goals
     go_wp2_with fail
     exact ⟨⟨k + 1, by omega, by go_num, HT.out, hb.out.drew⟩, by simp [intOf]; omega⟩
   ·have b : (x != y) = true := by simpa using e
    have HF : Hid (decide (c = c' ∧ n = n' ∧ la = lb ∧ ka = kb) = false) := hid (by rw [HE.out]; simp [take_ne HX.out HY.out e])
    clear e
    go_wp2_with fail
    go_region
    all_goals
     go_wp2_with fail
     go_ret
     exact ⟨ret_bool HF.out.symm, bcall HB0.out hb.out.drew⟩
  ·have hke : k = N := by omega
   have HLE : Hid (la = lb) := hid (by
    have := ht.out
    rw [List.take_of_length_le (by have := HN.out; omega), List.take_of_length_le (by have := HN'.out; omega)] at this
    exact this)
   go_wp2_with fail
   have HBw := hid hb.out
   generalize wr = w1 at x0 x1 x2 x3 y0 y1 y2 y3 HBw ⊢
   clear hb
   go_loopw [58] (fun i wr => ∃ k : Nat, k ≤ K ∧ i = .int .i64 k ∧ Hid (ka.take k = kb.take k) ∧ Hid (Below W.heap.size W wr)) (fun i _ => K - (intOf i).toNat)
   case atStart => exact ⟨0, Nat.zero_le _, rfl, rfl, HBw.out⟩
   case round =>
    obtain ⟨j, hj, rfl, htj, hb⟩ := hrel
    clear x0 x1 x2 x3 y0 y1 y2 y3
    obtain ⟨x0, x1, x2, x3⟩ := rcells (rowBelow hA0.out hb.out)
    obtain ⟨y0, y1, y2, y3⟩ := rcells (rowBelow hB1.out hb.out)
    by_cases hjt : j < K
    ·obtain ⟨x, hx⟩ : ∃ x, ka[j]? = some x := ⟨_, List.getElem?_eq_getElem (by have := HK.out; omega)⟩
     obtain ⟨y, hy⟩ : ∃ x, kb[j]? = some x := ⟨_, List.getElem?_eq_getElem (by have := HK'.out; omega)⟩
     obtain ⟨_, _, ea, ra⟩ := H2.out.below (bcall HB0.out hb.out)
     obtain ⟨_, _, eb, rb⟩ := H4.out.below (bcall HB0.out hb.out)
     obtain ⟨ba, oa, rfl, la1, hca⟩ := ra (by have := HK.out; omega)
     obtain ⟨bb, ob, rfl, lb1, hcb⟩ := rb (by have := HK'.out; omega)
     simp only [Value.slice.injEq] at ea eb
     obtain ⟨rfl, -, -⟩ := ea
     obtain ⟨rfl, -, -⟩ := eb
     obtain ⟨p0, p1⟩ := hca j x hx
     obtain ⟨q0, q1⟩ := hcb j y hy
     have HX := hid hx
     have HY := hid hy
     clear hca hcb hx hy
     obtain ⟨xa, xb⟩ := x
     obtain ⟨ya, yb⟩ := y
     simp only at p0 p1 q0 q1
     have hlt' : (j : Int) < (K : Int) := by omega
     have hq := neqP xa xb ya yb
     by_cases e : xa = ya ∧ xb = yb
     ·have b : (!(xa == ya && xb == yb)) = false := by simp [e.1, e.2]
      rw [b] at hq
      have HT := hid (take_eq htj.out HX.out HY.out (by rw [e.1, e.2]))
      clear e b
      go_wp2_with fail
      go_region
      all_goals
       go_wp2_with fail
       exact ⟨⟨j + 1, by omega, by go_num, HT.out, hb.out.drew⟩, by simp [intOf]; omega⟩
     ·have b : (!(xa == ya && xb == yb)) = true := by
       cases h : (xa == ya && xb == yb)
       ·rfl
       ·simp at h; exact absurd h e
      rw [b] at hq
      have HF : Hid (decide (c = c' ∧ n = n' ∧ la = lb ∧ ka = kb) = false) := hid (by rw [HE.out]; simp [take_ne HX.out HY.out (fun h => e (by cases h; exact ⟨rfl, rfl⟩))])
      clear e b
      go_wp2_with fail
      go_region
      all_goals
       go_wp2_with fail
       go_ret
       exact ⟨ret_bool HF.out.symm, bcall HB0.out hb.out.drew⟩
    ·have HKE : Hid (ka = kb) := hid (by
      have := htj.out
      rw [List.take_of_length_le (by have := HK.out; omega), List.take_of_length_le (by have := HK'.out; omega)] at this
      exact this)
     go_wp2_with fail
     go_ret
     exact ⟨ret_bool (by rw [HE.out, HLE.out, HKE.out]; simp), bcall HB0.out hb.out⟩
end Rp
end Go.Proofs.YtckkkdldljhehacGreat
