/- Put together: Lists of numbers and of pairs as they are read in memory; two pairs held against each other. Lemmas, no walk. What SameReply of package ninepinsref answers of two replies whose lists lie in memory: whether they are alike; nothing that was in memory before has changed. 'append([]T(nil), xs...)': a copy of xs in a row of one's own, whether xs is empty or not: as a run, at an operation of a walk, at an operation of a region that draws its order. What copied of package ninepinslaw answers when called over a store in memory: the same tables in memory of their own; nothing that was in memory before has changed. What same of package ninepinslaw answers when called over two stores in memory: whether their tables, one by one, and their nexts are alike; nothing that was in memory before has changed. -/
import Derived.Test.YtckkkdldljhehabGreatPkB
import Derived.Deep.DrawnRows
import Derived.WalkSmall
import Derived.Lib.SmallJoins
import Derived.Laws.OwnMore
import Derived.Deep.OwnRows
import Derived.Lib.SliceRun
import Derived.Deep.DeepCutAuto
import Derived.Test.YtckkkdldljhehabGreatRows
import Derived.WalkKit
import Derived.OwnWalk
import Derived.Maps.AppendAt
import Derived.RegionTactic
import Derived.Deep.RegionHeld
import Derived.Test.YtckkkdldljhehabGreatPkC
import Derived.Deep.RegionHeld3
import Derived.Deep.RegionLaw
import Derived.Test.YtckkkdldljhehabGreatPkM
namespace Go.Proofs.YtckkkdldljhehabGreat.Rp
open Go.Proofs.YtckkkdldljhehabGreat.Num Go.Proofs.YtckkkdldljhehabGreat.St
open Go.ChangeShapes Go.WideShapes Go.ChangeAt Go.RowKit

theorem hid {p : Prop} (h : p) : Hid p := h
/-- A list of numbers in memory. -/
def IntsR (W : World) (v : Value) (l : List Int) : Prop := ∃ a c, v = .slice a l.length c ∧ (0 < l.length → ∃ b off, a = some ⟨b, off, none⟩ ∧ b < W.heap.size ∧ ∀ i x, l[i]? = some x → W.cell? ⟨b, off + i, none⟩ = some (.int .i64 x))
/-- A list of pairs in memory. -/
def PairsR (W : World) (v : Value) (l : List (Int × Int)) : Prop := ∃ a c, v = .slice a l.length c ∧ (0 < l.length → ∃ b off, a = some ⟨b, off, none⟩ ∧ b < W.heap.size ∧ ∀ i x, l[i]? = some x → W.cell? ⟨b, off + i * 2, none⟩ = some (.int .i64 x.1) ∧ W.cell? ⟨b, off + i * 2 + 1, none⟩ = some (.int .i64 x.2))
theorem ints_nil (W : World) (c : Nat) (a : Option Addr) : IntsR W (.slice a 0 c) [] := ⟨a, c, rfl, fun h => absurd h (Nat.lt_irrefl _)⟩
theorem pairs_nil (W : World) (c : Nat) (a : Option Addr) : PairsR W (.slice a 0 c) [] := ⟨a, c, rfl, fun h => absurd h (Nat.lt_irrefl _)⟩
theorem IntsR.below {W W' : World} {v : Value} {l : List Int} (h : IntsR W v l) (hb : Below W.heap.size W W') : IntsR W' v l := by
  obtain ⟨a, c, e, h⟩ := h
  refine ⟨a, c, e, fun hp => ?_⟩
  obtain ⟨b, off, e, hl, hc⟩ := h hp
  exact ⟨b, off, e, Nat.lt_of_lt_of_le hl hb.size, fun i x hx => by rw [hb.cell (p := ⟨b, off + i, none⟩) hl]; exact hc i x hx⟩
theorem PairsR.below {W W' : World} {v : Value} {l : List (Int × Int)} (h : PairsR W v l) (hb : Below W.heap.size W W') : PairsR W' v l := by
  obtain ⟨a, c, e, h⟩ := h
  refine ⟨a, c, e, fun hp => ?_⟩
  obtain ⟨b, off, e, hl, hc⟩ := h hp
  exact ⟨b, off, e, Nat.lt_of_lt_of_le hl hb.size, fun i x hx => by rw [hb.cell (p := ⟨b, off + i * 2, none⟩) hl, hb.cell (p := ⟨b, off + i * 2 + 1, none⟩) hl]; exact hc i x hx⟩
theorem IntsR.own {W : World} {B n : Nat} {v : Value} {l : List Int} (h : W.ownsRow B 3 1 v n (l.map (Value.int .i64))) (hn : n = l.length) : IntsR W v l := by
  subst hn
  rcases h.2 with ⟨rfl, h0⟩ | ⟨g, c, cur, rfl, _⟩
  · rw [List.length_eq_zero_iff.1 h0]; exact ints_nil W 0 none
  · refine ⟨_, c, rfl, fun hp => ⟨g, 0, rfl, (h.lt g rfl).2, fun i x hx => ?_⟩⟩
    have hlt := (List.getElem?_eq_some_iff.1 hx).1
    rw [Nat.zero_add, h.cellAt i (by omega), List.getElem?_map, hx]
    rfl
theorem flat2 (l : List (Int × Int)) (i s : Nat) (x : Int × Int) (hi : l[i]? = some x) (hs : s < 2) : (l.flatMap fun p => [Value.int .i64 p.1, .int .i64 p.2])[i * 2 + s]? = [Value.int .i64 x.1, .int .i64 x.2][s]? := by
  induction l generalizing i with
  | nil => simp at hi
  | cons r l ih =>
    rw [List.flatMap_cons]
    cases i with
    | zero => simp at hi; subst hi; rw [Nat.zero_mul, Nat.zero_add, List.getElem?_append_left (by simpa using hs)]
    | succ i => rw [List.getElem?_append_right (by simp; omega)]; simp only [List.length_cons, List.length_nil]; rw [show (i + 1) * 2 + s - (0 + 1 + 1) = i * 2 + s by omega, ih i (by simpa using hi)]
theorem PairsR.own {W : World} {B n : Nat} {t : TypeId} {v : Value} {l : List (Int × Int)} (h : W.ownsRow B t 2 v n (l.flatMap fun p => [Value.int .i64 p.1, .int .i64 p.2])) (hn : n = l.length) : PairsR W v l := by
  subst hn
  rcases h.2 with ⟨rfl, h0⟩ | ⟨g, c, cur, rfl, _⟩
  · rw [List.length_eq_zero_iff.1 h0]; exact pairs_nil W 0 none
  · refine ⟨_, c, rfl, fun hp => ⟨g, 0, rfl, (h.lt g rfl).2, fun i x hx => ?_⟩⟩
    have hlt := (List.getElem?_eq_some_iff.1 hx).1
    have h0 := h.cellAt (i * 2 + 0) (by omega)
    have h1 := h.cellAt (i * 2 + 1) (by omega)
    rw [flat2 l i 0 x hx (by omega)] at h0
    rw [flat2 l i 1 x hx (by omega)] at h1
    rw [Nat.zero_add]
    exact ⟨h0, h1⟩
theorem eqPn (d : Nat) (x y x' y' : Int) (w : World) :
    (Op.equalIn (d + 2) 58 (.agg #[.int .i64 x, .int .i64 y]) (.agg #[.int .i64 x', .int .i64 y'])).run Tryz.prog w = .ok (x == x' && y == y') w := by
  have h1 : Tryz.prog.underlying 58 = some (.struct (Tryz.prog.fieldsOf 58)) := by kernel_rfl
  have h2 : Tryz.prog.stoodInHeld 58 = false := by kernel_rfl
  rw [run_equalIn_struct w (d + 1) 58 _ _ h1 h2]
  simp [go_sem, Tryz.underlying58, Tryz.underlying3]
  by_cases a1 : x = x' <;> by_cases a2 : y = y' <;> simp [a1, a2]
theorem neqOf {n : Nat} {P : Program} {w : World} {t : TypeId} {xs ys : Array Value} (h : n = 10000) {v : Bool} (e : (Op.equalIn n t (.agg xs) (.agg ys)).run P w = .ok v w) :
    (binOp .neq t (.agg xs) (.agg ys)).run P w = .ok (.bool (!v)) w := by
  subst h
  rw [run_neq_struct, e]
  rfl
theorem neqP (x y x' y' : Int) (w : World) :
    (binOp .neq 58 (.agg #[.int .i64 x, .int .i64 y]) (.agg #[.int .i64 x', .int .i64 y'])).run Tryz.prog w = .ok (.bool (!(x == x' && y == y'))) w :=
  neqOf (n := 9998 + 2) rfl (eqPn 9998 _ _ _ _ w)
theorem take_eq {α : Type} {l l' : List α} {k : Nat} {x y : α} (h : l.take k = l'.take k) (hx : l[k]? = some x) (hy : l'[k]? = some y) (e : x = y) : l.take (k + 1) = l'.take (k + 1) := by
  have h1 := (List.getElem?_eq_some_iff.1 hx)
  have h2 := (List.getElem?_eq_some_iff.1 hy)
  rw [List.take_succ_eq_append_getElem h1.1, List.take_succ_eq_append_getElem h2.1, h, h1.2, h2.2, e]
theorem take_ne {α : Type} {l l' : List α} {k : Nat} {x y : α} (hx : l[k]? = some x) (hy : l'[k]? = some y) (e : x ≠ y) : l ≠ l' := fun h => by
  rw [h, hy] at hx
  exact e (Option.some.inj hx).symm
theorem ret_bool {a b : Bool} (h : a = b) : Ending.returned (.bool a) = .returned (.bool b) := by rw [h]
/-- A reply's four cells. -/
def rcell (c n : Int) (u v : Value) (i : Nat) : Value := if i = 0 then .int .i64 c else if i = 1 then .int .i64 n else if i = 2 then u else v
theorem rowIs4 (w : World) (c n : Int) (u v : Value) (t : TypeId) : (w.alloc (.cells #[.int .i64 c, .int .i64 n, u, v] t)).rowIs w.heap.size t 4 (rcell c n u v) :=
  ⟨_, (MapKept.heap_alloc w _).1, rfl, fun i hi => by
    match i, hi with
    | 0, _ => rfl
    | 1, _ => rfl
    | 2, _ => rfl
    | 3, _ => rfl⟩
theorem rcells {W : World} {b : Nat} {t : TypeId} {c n : Int} {u v : Value} (h : W.rowIs b t 4 (rcell c n u v)) : W.cell? ⟨b, 0, none⟩ = some (.int .i64 c) ∧ W.cell? ⟨b, 1, none⟩ = some (.int .i64 n) ∧ W.cell? ⟨b, 2, none⟩ = some u ∧ W.cell? ⟨b, 3, none⟩ = some v :=
  ⟨h.cell (i := 0) (by omega), h.cell (i := 1) (by omega), h.cell (i := 2) (by omega), h.cell (i := 3) (by omega)⟩
theorem rowBelow {w w' : World} {b n : Nat} {t : TypeId} {f : Nat → Value} (h : w.rowIs b t n f) (hb : Below w.heap.size w w') : w'.rowIs b t n f := by
  obtain ⟨cs, h1, h2, h3⟩ := h
  exact ⟨cs, by rw [hb.block b (Array.getElem?_eq_some_iff.1 h1).1]; exact h1, h2, h3⟩
end Go.Proofs.YtckkkdldljhehabGreat.Rp
namespace Go.Proofs.YtckkkdldljhehabGreat.Rp
open Go.Proofs.YtckkkdldljhehabGreat.Num Go.Proofs.YtckkkdldljhehabGreat.St
open Go.ChangeShapes Go.WideShapes Go.ChangeAt Go.RowKit

attribute [local go_sem ↓] Go.wp_at_zero Go.wp_at_succ
set_option maxHeartbeats 4000000 in
set_option maxRecDepth 100000 in
theorem sameReply_any (c n c' n' : Int) (ua ma ub mb : Value) (la lb : List Int) (ka kb : List (Int × Int)) (w : World) (h1 : IntsR w ua la) (h2 : PairsR w ma ka) (h3 : IntsR w ub lb) (h4 : PairsR w mb kb) (z1 : la.length ≤ 1000000000000) (z2 : ka.length ≤ 1000000000000) :
    Calls Tryz.prog 29 #[.agg #[.int .i64 c, .int .i64 n, ua, ma], .agg #[.int .i64 c', .int .i64 n', ub, mb]] w fun e w' => e = .returned (.bool (decide (c = c' ∧ n = n' ∧ la = lb ∧ ka = kb))) ∧ Below w.heap.size w w' := by
  have H1 := hid h1
  have H2 := hid h2
  have H3 := hid h3
  have H4 := hid h4
  obtain ⟨a1, c1, rfl, -⟩ := h1
  obtain ⟨a2, c2, rfl, -⟩ := h2
  obtain ⟨a3, c3, rfl, -⟩ := h3
  obtain ⟨a4, c4, rfl, -⟩ := h4
  obtain ⟨N, hN⟩ : ∃ N, N = la.length := ⟨_, rfl⟩
  obtain ⟨N', hN'⟩ : ∃ N, N = lb.length := ⟨_, rfl⟩
  obtain ⟨K, hK⟩ : ∃ N, N = ka.length := ⟨_, rfl⟩
  obtain ⟨K', hK'⟩ : ∃ N, N = kb.length := ⟨_, rfl⟩
  rw [← hN] at H1 ⊢ z1
  rw [← hN'] at H3 ⊢
  rw [← hK] at H2 ⊢ z2
  rw [← hK'] at H4 ⊢
  have HN := hid hN
  have HN' := hid hN'
  have HK := hid hK
  have HK' := hid hK'
  clear hN hN' hK hK'
  go_enter Tryz.func29, Tryz.ntmps29
  have HB0 := hid (bal (bal (Below.refl _ w) (.cells #[.int .i64 c, .int .i64 n, .slice a1 N c1, .slice a2 K c2] 70)) (.cells #[.int .i64 c', .int .i64 n', .slice a3 N' c3, .slice a4 K' c4] 70))
  by_cases e1 : c = c'
  case neg =>
    have b1 : (c != c') = true := by simpa using e1
    have HF : Hid (decide (c = c' ∧ n = n' ∧ la = lb ∧ ka = kb) = false) := hid (by simp [e1])
    go_wp2
    go_ret
    exact ⟨ret_bool HF.out.symm, HB0.out⟩
  case pos =>
  have b1 : (c != c') = false := by simpa using e1
  by_cases e2 : n = n'
  case neg =>
    have b2 : (n != n') = true := by simpa using e2
    have HF : Hid (decide (c = c' ∧ n = n' ∧ la = lb ∧ ka = kb) = false) := hid (by simp [e2])
    clear e1
    go_wp2
    go_ret
    exact ⟨ret_bool HF.out.symm, HB0.out⟩
  case pos =>
  have b2 : (n != n') = false := by simpa using e2
  by_cases e3 : N = N'
  case neg =>
    have b3 : ((N : Int) != (N' : Int)) = true := by rw [bne_iff_ne]; omega
    have HF : Hid (decide (c = c' ∧ n = n' ∧ la = lb ∧ ka = kb) = false) := hid (by
      have : la ≠ lb := fun e => e3 (by rw [HN.out, HN'.out, e])
      simp [this])
    clear e1 e2
    go_wp2
    go_ret
    exact ⟨ret_bool HF.out.symm, HB0.out⟩
  case pos =>
  by_cases e4 : K = K'
  case neg =>
    have b3 : ((N : Int) != (N' : Int)) = false := by rw [bne_eq_false_iff_eq]; omega
    have b4 : ((K : Int) != (K' : Int)) = true := by rw [bne_iff_ne]; omega
    have HF : Hid (decide (c = c' ∧ n = n' ∧ la = lb ∧ ka = kb) = false) := hid (by
      have : ka ≠ kb := fun e => e4 (by rw [HK.out, HK'.out, e])
      simp [this])
    clear e1 e2 e3
    go_wp2
    go_ret
    exact ⟨ret_bool HF.out.symm, HB0.out⟩
  case pos =>
  subst e3 e4
  have HE : Hid (decide (c = c' ∧ n = n' ∧ la = lb ∧ ka = kb) = (decide (la = lb) && decide (ka = kb))) := hid (by simp [e1, e2])
  clear e1 e2
  go_wp2_with fail
  have hA0 := hid ((rowIs4 w c n (.slice a1 N c1) (.slice a2 K c2) 70).alloc (.cells #[.int .i64 c', .int .i64 n', .slice a3 N c3, .slice a4 K c4] 70))
  have hB1 := hid (rowIs4 (w.alloc (.cells #[.int .i64 c, .int .i64 n, .slice a1 N c1, .slice a2 K c2] 70)) c' n' (.slice a3 N c3) (.slice a4 K c4) 70)
  rw [World.size_alloc] at hB1
  have hz0 : ((w.alloc (.cells #[.int .i64 c, .int .i64 n, .slice a1 N c1, .slice a2 K c2] 70)).alloc (.cells #[.int .i64 c', .int .i64 n', .slice a3 N c3, .slice a4 K c4] 70)).heap.size = w.heap.size + 1 + 1 := by simp
  generalize (w.alloc (.cells #[.int .i64 c, .int .i64 n, .slice a1 N c1, .slice a2 K c2] 70)).alloc (.cells #[.int .i64 c', .int .i64 n', .slice a3 N c3, .slice a4 K c4] 70) = W at hA0 hB1 HB0 hz0 ⊢
  have HZ := hid hz0
  clear hz0
  go_loopw [40] (fun i wr => ∃ k : Nat, k ≤ N ∧ i = .int .i64 k ∧ Hid (la.take k = lb.take k) ∧ Hid (Below W.heap.size W wr)) (fun i _ => N - (intOf i).toNat)
  case atStart => exact ⟨0, Nat.zero_le _, rfl, rfl, Below.refl _ _⟩
  case round =>
    obtain ⟨k, hk, rfl, ht, hb⟩ := hrel
    obtain ⟨x0, x1, x2, x3⟩ := rcells (rowBelow hA0.out hb.out)
    obtain ⟨y0, y1, y2, y3⟩ := rcells (rowBelow hB1.out hb.out)
    by_cases hlt : k < N
    · obtain ⟨x, hx⟩ : ∃ x, la[k]? = some x := ⟨_, List.getElem?_eq_getElem (by have := HN.out; omega)⟩
      obtain ⟨y, hy⟩ : ∃ x, lb[k]? = some x := ⟨_, List.getElem?_eq_getElem (by have := HN'.out; omega)⟩
      obtain ⟨_, _, ea, ra⟩ := H1.out.below (bcall HB0.out hb.out)
      obtain ⟨_, _, eb, rb⟩ := H3.out.below (bcall HB0.out hb.out)
      obtain ⟨ba, oa, rfl, la1, hca⟩ := ra (by have := HN.out; omega)
      obtain ⟨bb, ob, rfl, lb1, hcb⟩ := rb (by have := HN'.out; omega)
      simp only [Value.slice.injEq] at ea eb
      obtain ⟨rfl, -, -⟩ := ea
      obtain ⟨rfl, -, -⟩ := eb
      have cx := hca k x hx
      have cy := hcb k y hy
      have HX := hid hx
      have HY := hid hy
      clear hca hcb hx hy
      have hlt' : (k : Int) < (N : Int) := by omega
      by_cases e : x = y
      · have b : (x != y) = false := by simpa using e
        have HT := hid (take_eq ht.out HX.out HY.out e)
        clear e
        go_wp2_with fail
        go_region
        all_goals
          go_wp2_with fail
          exact ⟨⟨k + 1, by omega, by go_num, HT.out, hb.out.drew⟩, by simp [intOf]; omega⟩
      · have b : (x != y) = true := by simpa using e
        have HF : Hid (decide (c = c' ∧ n = n' ∧ la = lb ∧ ka = kb) = false) := hid (by rw [HE.out]; simp [take_ne HX.out HY.out e])
        clear e
        go_wp2_with fail
        go_region
        all_goals
          go_wp2_with fail
          go_ret
          exact ⟨ret_bool HF.out.symm, bcall HB0.out hb.out.drew⟩
    · have hke : k = N := by omega
      have HLE : Hid (la = lb) := hid (by
        have := ht.out
        rw [List.take_of_length_le (by have := HN.out; omega), List.take_of_length_le (by have := HN'.out; omega)] at this
        exact this)
      go_wp2_with fail
      have HBw := hid hb.out
      generalize wr = w1 at x0 x1 x2 x3 y0 y1 y2 y3 HBw ⊢
      clear hb
      go_loopw [58] (fun i wr => ∃ k : Nat, k ≤ K ∧ i = .int .i64 k ∧ Hid (ka.take k = kb.take k) ∧ Hid (Below W.heap.size W wr)) (fun i _ => K - (intOf i).toNat)
      case atStart => exact ⟨0, Nat.zero_le _, rfl, rfl, HBw.out⟩
      case round =>
        obtain ⟨j, hj, rfl, htj, hb⟩ := hrel
        clear x0 x1 x2 x3 y0 y1 y2 y3
        obtain ⟨x0, x1, x2, x3⟩ := rcells (rowBelow hA0.out hb.out)
        obtain ⟨y0, y1, y2, y3⟩ := rcells (rowBelow hB1.out hb.out)
        by_cases hjt : j < K
        · obtain ⟨x, hx⟩ : ∃ x, ka[j]? = some x := ⟨_, List.getElem?_eq_getElem (by have := HK.out; omega)⟩
          obtain ⟨y, hy⟩ : ∃ x, kb[j]? = some x := ⟨_, List.getElem?_eq_getElem (by have := HK'.out; omega)⟩
          obtain ⟨_, _, ea, ra⟩ := H2.out.below (bcall HB0.out hb.out)
          obtain ⟨_, _, eb, rb⟩ := H4.out.below (bcall HB0.out hb.out)
          obtain ⟨ba, oa, rfl, la1, hca⟩ := ra (by have := HK.out; omega)
          obtain ⟨bb, ob, rfl, lb1, hcb⟩ := rb (by have := HK'.out; omega)
          simp only [Value.slice.injEq] at ea eb
          obtain ⟨rfl, -, -⟩ := ea
          obtain ⟨rfl, -, -⟩ := eb
          obtain ⟨p0, p1⟩ := hca j x hx
          obtain ⟨q0, q1⟩ := hcb j y hy
          have HX := hid hx
          have HY := hid hy
          clear hca hcb hx hy
          obtain ⟨xa, xb⟩ := x
          obtain ⟨ya, yb⟩ := y
          simp only at p0 p1 q0 q1
          have hlt' : (j : Int) < (K : Int) := by omega
          have hq := neqP xa xb ya yb
          by_cases e : xa = ya ∧ xb = yb
          · have b : (!(xa == ya && xb == yb)) = false := by simp [e.1, e.2]
            rw [b] at hq
            have HT := hid (take_eq htj.out HX.out HY.out (by rw [e.1, e.2]))
            clear e b
            go_wp2_with fail
            go_region
            all_goals
              go_wp2_with fail
              exact ⟨⟨j + 1, by omega, by go_num, HT.out, hb.out.drew⟩, by simp [intOf]; omega⟩
          · have b : (!(xa == ya && xb == yb)) = true := by
              cases h : (xa == ya && xb == yb)
              · rfl
              · simp at h; exact absurd h e
            rw [b] at hq
            have HF : Hid (decide (c = c' ∧ n = n' ∧ la = lb ∧ ka = kb) = false) := hid (by rw [HE.out]; simp [take_ne HX.out HY.out (fun h => e (by cases h; exact ⟨rfl, rfl⟩))])
            clear e b
            go_wp2_with fail
            go_region
            all_goals
              go_wp2_with fail
              go_ret
              exact ⟨ret_bool HF.out.symm, bcall HB0.out hb.out.drew⟩
        · have HKE : Hid (ka = kb) := hid (by
            have := htj.out
            rw [List.take_of_length_le (by have := HK.out; omega), List.take_of_length_le (by have := HK'.out; omega)] at this
            exact this)
          go_wp2_with fail
          go_ret
          exact ⟨ret_bool (by rw [HE.out, HLE.out, HKE.out]; simp), bcall HB0.out hb.out⟩
end Go.Proofs.YtckkkdldljhehabGreat.Rp
namespace Go.Proofs.YtckkkdldljhehabGreat.Ap
open Go.ChangeShapes Go.WideShapes Go.ChangeAt Go.RowKit

section
variable {P : Program} {w : World}
theorem run_append_zero (t ty e : TypeId) (i : TypeInfo) (ht : P.underlying t = some (.slice e)) (hi : P.info? e = some i) (sa : Option Addr) (c : Nat) :
    (Builtin.append_ #[t, t] ty #[.slice none 0 0, .slice sa 0 c]).run P w = .ok (.slice none 0 0) w := by
  cases sa <;> simp [Builtin.append_, run_underlying ht, sizeOf, typeInfo, hi, Builtin.lenOf, Builtin.firstCells, loadCells, loadCellsFrom]
theorem run_append_copy (t ty e : TypeId) (i : TypeInfo) (z : Value) (size bytes : Nat) (ht : P.underlying t = some (.slice e)) (hi : P.info? e = some i) (hz : i.zero = some z)
    (hsize : i.size = size) (hby : i.bytes = bytes) (hzs : z.cells.size = size) (hsz : 0 < size)
    (sa : Option Addr) (m c : Nat) (news : List Value) (hsrc : 0 < m → ∃ ad, sa = some ad ∧ ∀ j u, news[j]? = some u → w.cell? (ad.add j) = some u) (hl : news.length = m * size) (h1 : ∀ u ∈ news, u.oneCell' = true) (h63 : m ≤ maxLen) (hbytes : m * bytes ≤ 140737488355328) :
    ∃ a' c' w', (Builtin.append_ #[t, t] ty #[.slice none 0 0, .slice sa m c]).run P w = .ok (.slice a' m c') w' ∧ w'.ownsRow w.heap.size e size (.slice a' m c') m news ∧ w.grownBy w' none := by
  rcases Nat.eq_zero_or_pos m with rfl | hm
  · have : news = [] := List.eq_nil_of_length_eq_zero (by omega)
    subst this
    exact ⟨none, 0, w, run_append_zero t ty e i ht hi sa c, World.ownsRow_nil _ _ _ _, ⟨rfl, rfl, rfl, Nat.le_refl _, fun _ _ _ => rfl⟩⟩
  · obtain ⟨ad, rfl, hc⟩ := hsrc hm
    obtain ⟨v', w', hr, h2, h3, -, -⟩ := run_append_own_at (P := P) w w.heap.size t ty e i z size bytes ht hi hz hsize hby hzs hsz (.slice none 0 0) 0 [] (World.ownsRow_nil _ _ _ _) ad m c news hl hc h1 (by omega) (by rw [Nat.zero_add]; exact hbytes) (Nat.le_refl _)
    rw [Nat.zero_add, List.nil_append] at h2
    rcases h2.2 with ⟨_, h0⟩ | ⟨g, c', _, rfl, _⟩
    · omega
    · exact ⟨_, _, w', hr, h2, h3⟩
end
section
variable {P : Program} {w : World} {ops : Array Oper} {o : Oper} {a : Act} {Q : Exit → Act → World → Prop}
theorem wp_copy {K : Act → World → Prop} (s x : Operand) (t e : TypeId) (i : TypeInfo) (z : Value) (size bytes : Nat) (ht : P.underlying t = some (.slice e)) (hi : P.info? e = some i) (hz : i.zero = some z)
    (hsize : i.size = size) (hby : i.bytes = bytes) (hzs : z.cells.size = size) (hsz : 0 < size) (ho : o.op = .call { callee := .builtin .append, args := #[s, x], argTypes := #[t, t] }) (hs : a.eval s = .slice none 0 0)
    (sa : Option Addr) (m c : Nat) (news : List Value) (hx : a.eval x = .slice sa m c) (hsrc : 0 < m → ∃ ad, sa = some ad ∧ ∀ j u, news[j]? = some u → w.cell? (ad.add j) = some u) (hl : news.length = m * size) (h1 : ∀ u ∈ news, u.oneCell' = true) (h63 : m ≤ maxLen) (hbytes : m * bytes ≤ 140737488355328)
    (h : ∀ a' c' w', w'.ownsRow w.heap.size e size (.slice a' m c') m news → w.grownBy w' none → K (a.put o.dst (.slice a' m c')) w') : Oper.wp P o a w K Q := by
  obtain ⟨a', c', w', hr, h2, h3⟩ := run_append_copy (P := P) (w := w) t o.type e i z size bytes ht hi hz hsize hby hzs hsz sa m c news hsrc hl h1 h63 hbytes
  unfold Oper.wp execOp
  simp only [ho, resolve, invoke, builtin, Sem.run_bind, Sem.run_pure, Result.andThen_ok, List.map_toArray, List.map_cons, List.map_nil, hs, hx, hr]
  exact h a' c' w' h2 h3
theorem wpList_copy {rest : List Oper} (hgd : o.guard = none) (s x : Operand) (t e : TypeId) (i : TypeInfo) (z : Value) (size bytes : Nat) (ht : P.underlying t = some (.slice e)) (hi : P.info? e = some i) (hz : i.zero = some z)
    (hsize : i.size = size) (hby : i.bytes = bytes) (hzs : z.cells.size = size) (hsz : 0 < size) (ho : o.op = .call { callee := .builtin .append, args := #[s, x], argTypes := #[t, t] }) (hs : a.eval s = .slice none 0 0)
    (sa : Option Addr) (m c : Nat) (news : List Value) (hx : a.eval x = .slice sa m c) (hsrc : 0 < m → ∃ ad, sa = some ad ∧ ∀ j u, news[j]? = some u → w.cell? (ad.add j) = some u) (hl : news.length = m * size) (h1 : ∀ u ∈ news, u.oneCell' = true) (h63 : m ≤ maxLen) (hbytes : m * bytes ≤ 140737488355328)
    (h : ∀ a' c' w', w'.ownsRow w.heap.size e size (.slice a' m c') m news → w.grownBy w' none → wpList P ops Q rest (a.put o.dst (.slice a' m c')) w') : wpList P ops Q (o :: rest) a w :=
  wpList_plain hgd fun _ hK => wp_copy s x t e i z size bytes ht hi hz hsize hby hzs hsz ho hs sa m c news hx hsrc hl h1 h63 hbytes (fun a' c' w' h2 h3 => hK _ _ (h a' c' w' h2 h3))
theorem step_copy {K : Act → World → Prop} {E : Prop} (hgd : o.guard = none) (s x : Operand) (t e : TypeId) (i : TypeInfo) (z : Value) (size bytes : Nat) (ht : P.underlying t = some (.slice e)) (hi : P.info? e = some i) (hz : i.zero = some z)
    (hsize : i.size = size) (hby : i.bytes = bytes) (hzs : z.cells.size = size) (hsz : 0 < size) (ho : o.op = .call { callee := .builtin .append, args := #[s, x], argTypes := #[t, t] }) (hs : a.eval s = .slice none 0 0)
    (sa : Option Addr) (m c : Nat) (news : List Value) (hx : a.eval x = .slice sa m c) (hsrc : 0 < m → ∃ ad, sa = some ad ∧ ∀ j u, news[j]? = some u → w.cell? (ad.add j) = some u) (hl : news.length = m * size) (h1 : ∀ u ∈ news, u.oneCell' = true) (h63 : m ≤ maxLen) (hbytes : m * bytes ≤ 140737488355328)
    (h : ∀ a' c' w', w'.ownsRow w.heap.size e size (.slice a' m c') m news → w.grownBy w' none → K (a.put o.dst (.slice a' m c')) w') : if Region.wanted o (yielded ops a.tmps) = true then Oper.wp P o a w K Q else E := by
  rw [if_pos (by simp [Region.wanted, hgd])]
  exact wp_copy s x t e i z size bytes ht hi hz hsize hby hzs hsz ho hs sa m c news hx hsrc hl h1 h63 hbytes h
/-- 'append(v, x...)' onto a row of one's own, where it draws its order. -/
theorem step_app {K : Act → World → Prop} {E : Prop} (hgd : o.guard = none) (s x : Operand) (t : TypeId)
    (ho : o.op = .call { callee := .builtin .append, args := #[s, x], argTypes := #[t, t] })
    (base : Nat) (e : TypeId) (i : TypeInfo) (z : Value) (size bytes : Nat) (ht : P.underlying t = some (.slice e)) (hi : P.info? e = some i) (hz : i.zero = some z)
    (hsize : i.size = size) (hby : i.bytes = bytes) (hzs : z.cells.size = size) (hsz : 0 < size)
    (v : Value) (n : Nat) (xs : List Value) (hs : a.eval s = v) (hown : w.ownsRow base e size v n xs)
    (ad : Addr) (m c : Nat) (news : List Value) (hx : a.eval x = .slice (some ad) m c) (hl : news.length = m * size) (hnews : ∀ j u, news[j]? = some u → w.cell? (ad.add j) = some u) (h1 : ∀ u ∈ news, u.oneCell' = true)
    (h63 : n + m ≤ maxLen) (hbytes : (n + m) * bytes ≤ 140737488355328) (hbase : base ≤ w.heap.size) (hm : 0 < m)
    (h : ∀ g c' w', w'.ownsRow base e size (.slice (some ⟨g, 0, none⟩) (n + m) c') (n + m) (xs ++ news) → w.grownBy w' v.ownBlock → (some g = v.ownBlock ∨ g = w.heap.size) → K (a.put o.dst (.slice (some ⟨g, 0, none⟩) (n + m) c')) w') : if Region.wanted o (yielded ops a.tmps) = true then Oper.wp P o a w K Q else E := by
  rw [if_pos (by simp [Region.wanted, hgd])]
  obtain ⟨v', w', hr, h2, h3, h4, h5⟩ := run_append_own_at (P := P) w base t o.type e i z size bytes ht hi hz hsize hby hzs hsz v n xs hown ad m c news hl hnews h1 h63 hbytes hbase
  unfold Oper.wp execOp
  simp only [ho, resolve, invoke, builtin, Sem.run_bind, Sem.run_pure, Result.andThen_ok, List.map_toArray, List.map_cons, List.map_nil, hs, hx, hr]
  rcases h2.2 with ⟨_, h0⟩ | ⟨g, c', _, rfl, _⟩
  · omega
  · refine h g c' w' h2 h3 ?_
    rcases h5 with h5 | h5
    · exact Or.inl h5
    · exact Or.inr (Option.some.inj h5)
end
end Go.Proofs.YtckkkdldljhehabGreat.Ap
namespace Go.Proofs.YtckkkdldljhehabGreat.Cp
open Go.Proofs.YtckkkdldljhehabGreat.Num Go.Proofs.YtckkkdldljhehabGreat.St
open Go.ChangeShapes Go.WideShapes Go.ChangeAt Go.RowKit

theorem info66 : (Tryz.prog.info? 53).map (fun i => (i.zero, i.size, i.bytes)) = some (some (.agg #[.int .i64 0, .slice none 0 0, .slice none 0 0]), 3, 56) := by kernel_rfl
theorem below_n {w0 w w' : World} (h : Below w0.heap.size w0 w) (hg : w.grownBy w' none) : Below w0.heap.size w0 w' := h.grown hg h.size (fun q hq => by cases hq)
theorem ints_one (l : List Int) : ∀ u ∈ l.map (Value.int .i64), u.oneCell' = true := by
  intro u hu
  obtain ⟨x, _, rfl⟩ := List.mem_map.1 hu
  rfl
theorem rows_one (l : List R8) : ∀ u ∈ l.flatMap rowCells, u.oneCell' = true := by
  intro u hu
  obtain ⟨x, _, hx⟩ := List.mem_flatMap.1 hu
  simp [rowCells] at hx
  rcases hx with rfl | rfl | rfl | rfl | rfl | rfl | rfl | rfl <;> rfl
theorem rows_len (l : List R8) : (l.flatMap rowCells).length = l.length * 8 := by
  induction l with
  | nil => rfl
  | cons r l ih => rw [List.flatMap_cons, List.length_append, ih, List.length_cons]; simp [rowCells]; omega
/-- The cells of a list of numbers in memory. -/
theorem ids_src {W : World} {a : Option Addr} {n : Nat} {f : Nat → Int} (h : IdsIn W a n f) : 0 < n → ∃ ad, a = some ad ∧ ∀ j u, (((List.range n).map f).map (Value.int .i64))[j]? = some u → W.cell? (ad.add j) = some u := by
  intro hp
  obtain ⟨b, off, rfl, _, hc⟩ := h hp
  refine ⟨_, rfl, fun j u hj => ?_⟩
  have hjn : j < n := by have := (List.getElem?_eq_some_iff.1 hj).1; simpa using this
  rw [List.getElem?_map, List.getElem?_map, List.getElem?_range hjn] at hj
  simp at hj
  subst hj
  rw [Addr.add_lit]
  exact hc j hjn
theorem rows_src {W : World} {a : Option Addr} {n : Nat} {f : Nat → R8} (h : St.RowsIn W a n f) : 0 < n → ∃ ad, a = some ad ∧ ∀ j u, (((List.range n).map f).flatMap rowCells)[j]? = some u → W.cell? (ad.add j) = some u := by
  intro hp
  obtain ⟨b, off, rfl, _, hc⟩ := h hp
  refine ⟨_, rfl, fun j u hj => ?_⟩
  have hl := rows_len ((List.range n).map f)
  rw [List.length_map, List.length_range] at hl
  have hjn : j < n * 8 := by have := (List.getElem?_eq_some_iff.1 hj).1; omega
  have e : j = (j / 8) * 8 + j % 8 := by omega
  rw [e, flat_get _ _ _ (by simp; omega) (by omega)] at hj
  have hd : ((List.range n).map f).getD (j / 8) zeroR = f (j / 8) := by
    rw [List.getD, List.getElem?_map, List.getElem?_range (by omega)]
    rfl
  rw [hd] at hj
  obtain ⟨r0, r1, r2, r3, r4, r5, r6, r7⟩ := hc (j / 8) (by omega)
  rw [Addr.add_lit, e]
  have h8 : j % 8 < 8 := by omega
  generalize j % 8 = s at hj h8 ⊢
  match s, h8 with
  | 0, _ => simp [rowCells] at hj; subst hj; simpa [Nat.add_assoc] using r0
  | 1, _ => simp [rowCells] at hj; subst hj; simpa [Nat.add_assoc] using r1
  | 2, _ => simp [rowCells] at hj; subst hj; simpa [Nat.add_assoc] using r2
  | 3, _ => simp [rowCells] at hj; subst hj; simpa [Nat.add_assoc] using r3
  | 4, _ => simp [rowCells] at hj; subst hj; simpa [Nat.add_assoc] using r4
  | 5, _ => simp [rowCells] at hj; subst hj; simpa [Nat.add_assoc] using r5
  | 6, _ => simp [rowCells] at hj; subst hj; simpa [Nat.add_assoc] using r6
  | 7, _ => simp [rowCells] at hj; subst hj; simpa [Nat.add_assoc] using r7
theorem rowIs3 (w : World) (x y z : Value) (t : TypeId) : (w.alloc (.cells #[x, y, z] t)).rowIs w.heap.size t 3 (fun i => if i = 0 then x else if i = 1 then y else z) :=
  ⟨_, (MapKept.heap_alloc w _).1, rfl, fun i hi => by
    match i, hi with
    | 0, _ => rfl
    | 1, _ => rfl
    | 2, _ => rfl⟩
theorem tcs {W : World} {tb : Nat} {x y z : Value} (h : W.rowIs tb 53 3 (fun i => if i = 0 then x else if i = 1 then y else z)) : W.cell? ⟨tb, 0, none⟩ = some x ∧ W.cell? ⟨tb, 1, none⟩ = some y ∧ W.cell? ⟨tb, 2, none⟩ = some z :=
  ⟨h.cell (i := 0) (by omega), h.cell (i := 1) (by omega), h.cell (i := 2) (by omega)⟩
/-- One more table. -/
theorem own_snoc {W W' : World} {B : Nat} {v v' : Value} {S : List OT} {o : OT} (h : Own W B v S) (ho : OtOwn W B o) (hd : (otBlocks o).Nodup) (hn : ∀ z ∈ otBlocks o, z ∉ v.ownBlock.toList ++ blocks S) (hg : W.grownBy W' v.ownBlock)
    (hi : W'.ownsRow B 53 3 v' (S.length + 1) (tabCells S ++ otCells o)) (hat : v'.ownBlock = v.ownBlock ∨ v'.ownBlock = some W.heap.size) : Own W' B v' (S ++ [o]) := by
  obtain ⟨h1, h2, h3⟩ := h
  have hbl := blocks_lt h2
  have hbo : ∀ z ∈ otBlocks o, z < W.heap.size := fun z hz => (blocks_lt (S := [o]) (fun x hx => by rw [List.mem_singleton.1 hx]; exact ho) z (by simpa [blocks] using hz)).2
  have hvb : ∀ z ∈ blocks S, v.ownBlock ≠ some z := by
    intro z hz e
    rw [List.nodup_append] at h3
    exact h3.2.2 z (by simp [e]) z hz rfl
  have hb : blocks (S ++ [o]) = blocks S ++ otBlocks o := by simp [blocks]
  refine ⟨?_, ?_, ?_⟩
  · rw [List.length_append, show tabCells (S ++ [o]) = tabCells S ++ otCells o by simp [tabCells]]
    exact hi
  · intro x hx
    rcases List.mem_append.1 hx with hx | hx
    · exact otOwn_kept (h2 x hx) hg (fun z hz => hvb z (List.mem_flatMap.2 ⟨x, hx, hz⟩))
    · rw [List.mem_singleton.1 hx]
      exact otOwn_kept ho hg (fun z hz e => hn z hz (List.mem_append.2 (Or.inl (by simp [e]))))
  · rw [hb, ← List.append_assoc]
    have hS : (v'.ownBlock.toList ++ blocks S).Nodup := by
      rcases hat with e | e
      · rw [e]; exact h3
      · rw [e, List.nodup_append]
        rw [List.nodup_append] at h3
        refine ⟨by simp, h3.2.1, fun x hx z hz e' => ?_⟩
        simp at hx
        have := (hbl z hz).2
        omega
    rw [List.nodup_append]
    refine ⟨hS, hd, fun x hx z hz e' => ?_⟩
    subst e'
    rcases List.mem_append.1 hx with hx | hx
    · rcases hat with e | e
      · exact hn x hz (List.mem_append.2 (Or.inl (by rw [← e]; exact hx)))
      · rw [e] at hx
        simp at hx
        have := hbo x hz
        omega
    · exact hn x hz (List.mem_append.2 (Or.inr hx))
end Go.Proofs.YtckkkdldljhehabGreat.Cp
namespace Go.Proofs.YtckkkdldljhehabGreat.Cp
open Go.Proofs.YtckkkdldljhehabGreat.Num Go.Proofs.YtckkkdldljhehabGreat.St
open Go.ChangeShapes Go.WideShapes Go.ChangeAt Go.RowKit

/-- Two tables alike. -/
def sameTo (T : Nat → TabV) (I : Nat → Nat → Int) (R : Nat → Nat → R8) (T' : Nat → TabV) (I' : Nat → Nat → Int) (R' : Nat → Nat → R8) (k : Nat) : Prop := ∀ i, i < k → tabOf T I R i = tabOf T' I' R' i
theorem same_plain {T T' : Nat → TabV} {I I' : Nat → Nat → Int} {R R' : Nat → Nat → R8} {n : Nat} (h : sameTo T I R T' I' R' n) : plainOf T I R n = plainOf T' I' R' n := by
  unfold plainOf
  apply List.map_congr_left
  intro i hi
  exact h i (List.mem_range.1 hi)
theorem plain_same {T T' : Nat → TabV} {I I' : Nat → Nat → Int} {R R' : Nat → Nat → R8} {n n' : Nat} (h : plainOf T I R n = plainOf T' I' R' n') : n = n' ∧ sameTo T I R T' I' R' n := by
  have hl : n = n' := by simpa [plainOf] using congrArg List.length h
  subst hl
  refine ⟨rfl, fun i hi => ?_⟩
  have := congrArg (fun l => l[i]?) h
  simpa [plainOf, hi] using this
theorem tab_eq {T T' : Nat → TabV} {I I' : Nat → Nat → Int} {R R' : Nat → Nat → R8} {i : Nat} (h : tabOf T I R i = tabOf T' I' R' i) :
    (T' i).mask = (T i).mask ∧ (T' i).il = (T i).il ∧ (T' i).rl = (T i).rl ∧ (∀ j, j < (T i).il → I' i j = I i j) ∧ (∀ j, j < (T i).rl → R' i j = R i j) := by
  unfold tabOf at h
  simp only [Tab.mk.injEq] at h
  obtain ⟨h1, h2, h3⟩ := h
  have e1 : (T' i).il = (T i).il := by simpa using (congrArg List.length h2).symm
  have e2 : (T' i).rl = (T i).rl := by simpa using (congrArg List.length h3).symm
  refine ⟨h1.symm, e1, e2, fun j hj => ?_, fun j hj => ?_⟩
  · have := congrArg (fun l => l[j]?) h2
    simp only [List.getElem?_map] at this
    rw [List.getElem?_range hj, List.getElem?_range (by omega)] at this
    simpa using this.symm
  · have := congrArg (fun l => l[j]?) h3
    simp only [List.getElem?_map] at this
    rw [List.getElem?_range hj, List.getElem?_range (by omega)] at this
    simpa using this.symm
theorem neq30 (r : R8) (w : World) : (binOp .neq 56 (.agg #[.int .i64 r.x, .int .i64 r.y, .int .i64 r.px, .int .i64 r.py, .int .i64 r.wd, .int .i64 r.ht, .int .i64 r.ms, .int .i64 r.rr]) (.agg #[.int .i64 r.x, .int .i64 r.y, .int .i64 r.px, .int .i64 r.py, .int .i64 r.wd, .int .i64 r.ht, .int .i64 r.ms, .int .i64 r.rr])).run Tryz.prog w = .ok (.bool false) w := by
  have h := eq30n 9998 r.x r.y r.px r.py r.wd r.ht r.ms r.rr r.x r.y r.px r.py r.wd r.ht r.ms r.rr w
  have e : eqR r r = true := (Th.eqR_iff r r).2 rfl
  rw [run_neq_struct, show (10000 : Nat) = 9998 + 2 from rfl, h]
  show Result.andThen (.ok (eqR r r) w) _ = _
  rw [e]
  rfl
attribute [local go_sem ↓] Go.wp_at_zero Go.wp_at_succ
set_option maxHeartbeats 8000000 in
set_option maxRecDepth 100000 in
theorem same_true (a a' : Option Addr) (n cap cap' : Nat) (next : Int) (T T' : Nat → TabV) (I I' : Nat → Nat → Int) (R R' : Nat → Nat → R8) (w : World) (hin : StoreIn w a n T I R) (hin' : StoreIn w a' n T' I' R') (heq : sameTo T I R T' I' R' n) :
    Calls Tryz.prog 15 #[.agg #[.slice a n cap, .int .i64 next], .agg #[.slice a' n cap', .int .i64 next]] w fun e w' => e = .returned (.bool true) ∧ Below w.heap.size w w' := by
  have hn : n * 56 ≤ 140737488355328 := hin.fits.1
  have HT : Hid _ := hin.tabs
  have HI : Hid _ := hin.ids
  have HR : Hid _ := hin.rows
  have HZ : Hid _ := hin.fits.2.2
  have HT' : Hid _ := hin'.tabs
  have HI' : Hid _ := hin'.ids
  have HR' : Hid _ := hin'.rows
  have HEQ := hid heq
  clear hin hin' heq
  have HB0 := hid (bal (bal (Below.refl _ w) (.cells #[.slice a n cap, .int .i64 next] 24)) (.cells #[.slice a' n cap', .int .i64 next] 24))
  have HS2 : Hid (((w.alloc (.cells #[.slice a n cap, .int .i64 next] 24)).alloc (.cells #[.slice a' n cap', .int .i64 next] 24)).cell? ⟨w.heap.size + 1, 0, none⟩ = some (.slice a' n cap')) := hid (by
    have h := rowIs2 (w.alloc (.cells #[.slice a n cap, .int .i64 next] 24)) (.slice a' n cap') (.int .i64 next) 24
    rw [World.size_alloc] at h
    exact h.cell (i := 0) (by omega))
  have hz0 : ((w.alloc (.cells #[.slice a n cap, .int .i64 next] 24)).alloc (.cells #[.slice a' n cap', .int .i64 next] 24)).heap.size = w.heap.size + 1 + 1 := by simp
  go_enter Tryz.func15, Tryz.ntmps15
  go_wp2_with fail
  generalize (w.alloc (.cells #[.slice a n cap, .int .i64 next] 24)).alloc (.cells #[.slice a' n cap', .int .i64 next] 24) = W0 at HB0 HS2 hz0 ⊢
  go_loopw [26] (fun i wr => ∃ k : Nat, k ≤ n ∧ i = .int .i64 k ∧ Hid (Below W0.heap.size W0 wr)) (fun i _ => n - (intOf i).toNat)
  case atStart => exact ⟨0, Nat.zero_le _, rfl, hid (Below.refl _ _)⟩
  case round =>
    obtain ⟨k, hk, rfl, HBR⟩ := hrel
    by_cases hlt : k < n
    · have hlt' : (k : Int) < (n : Int) := by omega
      have HWR := hid (bcall HB0.out HBR.out)
      have hsz := HWR.out.size
      obtain ⟨b, off, rfl, hb, hc⟩ := HT.out (by omega)
      obtain ⟨c0, c1, c2⟩ := hc k hlt
      rw [← HWR.out.cell (by exact hb)] at c0 c1 c2
      have hbz : b < wr.heap.size := by omega
      obtain ⟨b', off', rfl, hb', hc'⟩ := HT'.out (by omega)
      obtain ⟨d0, d1, d2⟩ := hc' k hlt
      rw [← HWR.out.cell (by exact hb')] at d0 d1 d2
      have hbz' : b' < wr.heap.size := by omega
      obtain ⟨e1, e2, e3, e4, e5⟩ := tab_eq (HEQ.out k hlt)
      rw [e1] at d0
      rw [e2] at d1
      rw [e3] at d2
      have hs2 := (HBR.out.cell (p := ⟨w.heap.size + 1, 0, none⟩) (by show w.heap.size + 1 < W0.heap.size; omega)).trans HS2.out
      have hs2z : w.heap.size + 1 < wr.heap.size := by have := HBR.out.size; omega
      have HE2 := hid e2
      have HE3 := hid e3
      have HE4 := hid e4
      have HE5 := hid e5
      obtain ⟨z1, z2, z3, z4⟩ := HZ.out k hlt
      clear hc hc' e1 e2 e3 e4 e5
      have HTB := hid (rowIs3 wr (.int .i64 (T k).mask) (.slice (T k).ia (T k).il (T k).ic) (.slice (T k).ra (T k).rl (T k).rc) 53)
      go_wp2_with fail
      go_quiet (fail)
      have HA2 := hid (below_drewN (bal (Below.refl _ wr) (.cells #[.int .i64 (T k).mask, .slice (T k).ia (T k).il (T k).ic, .slice (T k).ra (T k).rl (T k).rc] 53)) nq)
      have HTB2 : Hid (((wr.alloc (.cells #[.int .i64 (T k).mask, .slice (T k).ia (T k).il (T k).ic, .slice (T k).ra (T k).rl (T k).rc] 53)).drewN nq).rowIs wr.heap.size 53 3 (fun i => if i = 0 then .int .i64 (T k).mask else if i = 1 then .slice (T k).ia (T k).il (T k).ic else .slice (T k).ra (T k).rl (T k).rc)) := hid (rowIs_below HTB.out (below_drewN (Below.refl _ _) nq))
      have HD2 : Hid (((wr.alloc (.cells #[.int .i64 (T k).mask, .slice (T k).ia (T k).il (T k).ic, .slice (T k).ra (T k).rl (T k).rc] 53)).drewN nq).cell? ⟨b', off' + k * 3 + 1, none⟩ = some (.slice (T' k).ia (T k).il (T' k).ic) ∧ ((wr.alloc (.cells #[.int .i64 (T k).mask, .slice (T k).ia (T k).il (T k).ic, .slice (T k).ra (T k).rl (T k).rc] 53)).drewN nq).cell? ⟨b', off' + k * 3 + 2, none⟩ = some (.slice (T' k).ra (T k).rl (T' k).rc) ∧ ((wr.alloc (.cells #[.int .i64 (T k).mask, .slice (T k).ia (T k).il (T k).ic, .slice (T k).ra (T k).rl (T k).rc] 53)).drewN nq).cell? ⟨w.heap.size + 1, 0, none⟩ = some (.slice (some ⟨b', off', none⟩) n cap')) := hid ⟨(HA2.out.cell (p := ⟨b', off' + k * 3 + 1, none⟩) hbz').trans d1, (HA2.out.cell (p := ⟨b', off' + k * 3 + 2, none⟩) hbz').trans d2, (HA2.out.cell (p := ⟨w.heap.size + 1, 0, none⟩) hs2z).trans hs2⟩
      have HB2 := hid (bcall HBR.out HA2.out)
      have hz2 : wr.heap.size < ((wr.alloc (.cells #[.int .i64 (T k).mask, .slice (T k).ia (T k).il (T k).ic, .slice (T k).ra (T k).rl (T k).rc] 53)).drewN nq).heap.size := HTB2.out.lt
      have hw2z : w.heap.size ≤ wr.heap.size := hsz
      generalize (wr.alloc (.cells #[.int .i64 (T k).mask, .slice (T k).ia (T k).il (T k).ic, .slice (T k).ra (T k).rl (T k).rc] 53)).drewN nq = W2 at HA2 HTB2 HD2 HB2 hz2 ⊢
      have hb2 : b' < W2.heap.size := by omega
      have hs22 : w.heap.size + 1 < W2.heap.size := by omega
      generalize wr.heap.size = tb at HTB2 hz2 ⊢
      clear c0 c1 c2 d0 d1 d2 hs2 HTB HA2 HWR HBR
      have q0 := (tcs HTB2.out)
      obtain ⟨q0, q1, q2⟩ := q0
      go_wp2_with fail
      go_loopw [69] (fun i wv => ∃ j : Nat, j ≤ (T k).il ∧ i = .int .i64 j ∧ Hid (Below W2.heap.size W2 wv)) (fun i _ => (T k).il - (intOf i).toNat)
      case atStart => exact ⟨0, Nat.zero_le _, rfl, hid (Below.refl _ _)⟩
      case round =>
        obtain ⟨j, hj, rfl, HBJ⟩ := hrel
        have HWJ := hid (bcall (bcall HB0.out HB2.out) HBJ.out)
        have hszj := HBJ.out.size
        rw [← HBJ.out.cell (by exact hz2)] at q1 q2
        have x1 := (HBJ.out.cell (p := ⟨b', off' + k * 3 + 1, none⟩) hb2).trans HD2.out.1
        have x2 := (HBJ.out.cell (p := ⟨b', off' + k * 3 + 2, none⟩) hb2).trans HD2.out.2.1
        have x3 := (HBJ.out.cell (p := ⟨w.heap.size + 1, 0, none⟩) hs22).trans HD2.out.2.2
        have y1 : tb < wr.heap.size := by omega
        have y2 : b' < wr.heap.size := by omega
        have y3 : w.heap.size + 1 < wr.heap.size := by omega
        by_cases hjl : j < (T k).il
        · have hjl' : (j : Int) < ((T k).il : Int) := by omega
          obtain ⟨bi, oi, hia, hbi, hci⟩ := HI.out k hlt (by omega)
          obtain ⟨bi', oi', hia', hbi', hci'⟩ := HI'.out k hlt (by have := HE2.out; omega)
          have cj := hci j hjl
          have cj' := hci' j (by have := HE2.out; omega)
          rw [HE4.out j hjl] at cj'
          rw [← HWJ.out.cell (by exact hbi)] at cj
          rw [← HWJ.out.cell (by exact hbi')] at cj'
          have v1 : bi < wr.heap.size := by have := HWJ.out.size; omega
          have v2 : bi' < wr.heap.size := by have := HWJ.out.size; omega
          rw [hia] at q1
          rw [hia'] at x1
          clear hci hci'
          go_wp2_with fail
          go_quiet (fail)
          go_wp2_with fail
          refine ⟨⟨j + 1, by omega, by go_num, hid (below_drewN HBJ.out _)⟩, by simp [intOf]; omega⟩
        · go_wp2_with fail
          go_loopw [91] (fun i wv => ∃ q : Nat, q ≤ (T k).rl ∧ i = .int .i64 q ∧ Hid (Below W2.heap.size W2 wv)) (fun i _ => (T k).rl - (intOf i).toNat)
          case atStart => exact ⟨0, Nat.zero_le _, rfl, HBJ⟩
          case round =>
            obtain ⟨q, hq, rfl, HBQ⟩ := hrel
            have HWQ := hid (bcall (bcall HB0.out HB2.out) HBQ.out)
            have hszq := HBQ.out.size
            obtain ⟨-, p1, p2⟩ := tcs (rowIs_below HTB2.out HBQ.out)
            have x2 := (HBQ.out.cell (p := ⟨b', off' + k * 3 + 2, none⟩) hb2).trans HD2.out.2.1
            have x3 := (HBQ.out.cell (p := ⟨w.heap.size + 1, 0, none⟩) hs22).trans HD2.out.2.2
            have y1 : tb < wr.heap.size := by omega
            have y2 : b' < wr.heap.size := by omega
            have y3 : w.heap.size + 1 < wr.heap.size := by omega
            by_cases hql : q < (T k).rl
            · have hql' : (q : Int) < ((T k).rl : Int) := by omega
              obtain ⟨br, ro, hra, hbr, hcr⟩ := HR.out k hlt (by omega)
              obtain ⟨br', ro', hra', hbr', hcr'⟩ := HR'.out k hlt (by have := HE3.out; omega)
              have hcq := hcr' q (by have := HE3.out; omega)
              rw [HE5.out q hql] at hcq
              obtain ⟨r0, r1, r2, r3, r4, r5, r6, r7⟩ := hcr q hql
              obtain ⟨s0, s1, s2, s3, s4, s5, s6, s7⟩ := hcq
              rw [← HWQ.out.cell (by exact hbr)] at r0 r1 r2 r3 r4 r5 r6 r7
              rw [← HWQ.out.cell (by exact hbr')] at s0 s1 s2 s3 s4 s5 s6 s7
              have v1 : br < wr.heap.size := by have := HWQ.out.size; omega
              have v2 : br' < wr.heap.size := by have := HWQ.out.size; omega
              rw [hra] at p2
              rw [hra'] at x2
              have hne := neq30 (R k q)
              clear hcr hcr'
              go_wp2_with fail
              go_quiet (fail)
              go_wp2_with fail
              refine ⟨⟨q + 1, by omega, by go_num, hid (below_drewN HBQ.out _)⟩, by simp [intOf]; omega⟩
            · go_wp2_with fail
              refine ⟨⟨k + 1, by omega, by go_num, hid (bcall HB2.out HBQ.out)⟩, by simp [intOf]; omega⟩
    · go_wp2_with fail
      go_ret
      exact ⟨rfl, bcall HB0.out HBR.out⟩
end Go.Proofs.YtckkkdldljhehabGreat.Cp
