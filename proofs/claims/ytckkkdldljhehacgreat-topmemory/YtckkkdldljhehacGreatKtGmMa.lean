/- Tables and lists of one's own that are written over: what stays of them; World of a game, its tables in memory of their own. -/
import Derived.Test.YtckkkdldljhehacGreatKtGmU
namespace Go.Proofs.YtckkkdldljhehacGreat.Gm
open Go.Proofs.YtckkkdldljhehacGreat.Num Go.Proofs.YtckkkdldljhehacGreat.St Go.Proofs.YtckkkdldljhehacGreat.Wd
open Go.ChangeShapes Go.WideShapes Go.ChangeAt Go.RowKit

theorem lset {W : World} {B size n : Nat} {e : TypeId} {v : Value} {xs : List Value} (h : W.ownsRow B e size v n xs) (z j : Nat) (u : Value) : ∃ ys, (W.setCell ⟨z, j, none⟩ u).ownsRow B e size v n ys := by
  by_cases hz : v.ownBlock = some z
  · have h' := h
    rcases h.2 with ⟨rfl, _⟩ | ⟨g, c, cur, rfl, _⟩
    · cases hz
    · obtain rfl : g = z := Option.some.inj hz
      exact ⟨_, (h'.stored j u).1⟩
  · exact ⟨xs, owns_set h hz j u⟩
/-- Tables of one's own, whatever stands in their lists. -/
def Loose (W : World) (B : Nat) (v : Value) (S : List OT) : Prop :=
  W.ownsRow B 65 3 v S.length (tabCells S) ∧ ∀ o ∈ S, (∃ xs, W.ownsRow B 3 1 o.iv o.t.ids.length xs) ∧ ∃ ys, W.ownsRow B 34 8 o.rv o.t.rows.length ys
theorem Loose.of {W : World} {B : Nat} {v : Value} {S : List OT} (h : Own W B v S) : Loose W B v S := ⟨h.1, fun o ho => ⟨⟨_, (h.2.1 o ho).1⟩, ⟨_, (h.2.1 o ho).2⟩⟩⟩
theorem Loose.set {W : World} {B : Nat} {v : Value} {S : List OT} (h : Loose W B v S) {z : Nat} (hz : v.ownBlock ≠ some z) (j : Nat) (u : Value) : Loose (W.setCell ⟨z, j, none⟩ u) B v S :=
  ⟨owns_set h.1 hz j u, fun o ho => by
    obtain ⟨⟨xs, h1⟩, ⟨ys, h2⟩⟩ := h.2 o ho
    exact ⟨lset h1 z j u, lset h2 z j u⟩⟩
theorem Loose.below {W W' : World} {B : Nat} {v : Value} {S : List OT} (h : Loose W B v S) (hb : Below W.heap.size W W') : Loose W' B v S :=
  ⟨owns_below h.1 hb, fun o ho => by
    obtain ⟨⟨xs, h1⟩, ⟨ys, h2⟩⟩ := h.2 o ho
    exact ⟨⟨xs, owns_below h1 hb⟩, ⟨ys, owns_below h2 hb⟩⟩⟩
theorem ow1 {W : World} {B g n c k : Nat} {e : TypeId} {xs : List Value} (h : W.ownsRow B e 1 (.slice (some ⟨g, 0, none⟩) n c) n xs) (hk : k < n) : (∃ u, W.cell? ⟨g, k, none⟩ = some u) ∧ W.frozen? ⟨g, k, none⟩ = false := by
  refine ⟨⟨xs[k]'(by have := h.1; omega), ?_⟩, h.frozenAt k⟩
  rw [h.cellAt k (by omega), List.getElem?_eq_getElem]
theorem owk {W : World} {B g n c k size i : Nat} {e : TypeId} {xs : List Value} (h : W.ownsRow B e size (.slice (some ⟨g, 0, none⟩) n c) n xs) (hk : k < n) (hi : i < size) : (∃ u, W.cell? ⟨g, k * size + i, none⟩ = some u) ∧ W.frozen? ⟨g, k * size + i, none⟩ = false := by
  have hlt : k * size + i < n * size := by
    have h1 : (k + 1) * size ≤ n * size := Nat.mul_le_mul_right _ hk
    rw [Nat.succ_mul] at h1
    omega
  refine ⟨⟨xs[k * size + i]'(by have := h.1; omega), ?_⟩, h.frozenAt _⟩
  rw [h.cellAt _ hlt, List.getElem?_eq_getElem]
theorem clone_own {W : World} {F : Nat → Prop} {v : Value} {L : List Tab} (h : Sto W F v L) (next : Int) :
    Calls Tryz.prog 60 #[.agg #[v, .int .i64 next]] W fun e w' => (∃ a c S, e = .returned (.agg #[.slice a S.length c, .int .i64 next]) ∧ Own w' W.heap.size (.slice a S.length c) S ∧ S.map (·.t) = L) ∧ Below W.heap.size W w' := by
  obtain ⟨a, n, cap, T, I, R, rfl, hin, rfl⟩ := h.in_
  refine (clone_any a n cap next T I R W hin.tabs hin.ids hin.rows hin.fits).mono ?_
  rintro e w' ⟨⟨u, rfl, S, ho, hpl⟩, hb⟩
  obtain ⟨a', c', rfl⟩ := own_form ho.1
  exact ⟨⟨a', c', S, rfl, ho, hpl⟩, hb⟩
theorem own_le' {W : World} {B B' : Nat} {v : Value} {S : List OT} (h : Own W B v S) (hle : B' ≤ B) : Own W B' v S := ⟨Joins.ownsRow_le h.1 hle, fun o ho => ⟨Joins.ownsRow_le (h.2.1 o ho).1 hle, Joins.ownsRow_le (h.2.1 o ho).2 hle⟩, h.2.2⟩
set_option maxHeartbeats 1000000 in
set_option maxRecDepth 100000 in
theorem copied_own {F : Nat → Prop} {v : Value} {L : List Tab} {w : World} (next fall wide high : Int) (h : Sto w F v L) :
    Calls Tryz.prog 42 #[.agg #[v, .int .i64 next, .int .i64 fall, .int .i64 wide, .int .i64 high]] w fun e w' =>
      (∃ a c S, e = .returned (.agg #[.slice a S.length c, .int .i64 next, .int .i64 fall, .int .i64 wide, .int .i64 high]) ∧ Own w' w.heap.size (.slice a S.length c) S ∧ S.map (·.t) = L) ∧ Below w.heap.size w w' := by
  obtain ⟨a, n, cap, rfl⟩ := h.one
  have HST := St.hid h
  clear h
  go_enter Tryz.func42, Tryz.ntmps42
  go_wp2_with fail
  have hW0 := St.hid ((rowIs5 w (.slice a n cap) next fall wide high 45).alloc (.cells #[.slice none 0 0, .int .i64 0, .int .i64 0, .int .i64 0, .int .i64 0] 45))
  have hR0 := St.hid (rowIs5 (w.alloc (.cells #[.slice a n cap, .int .i64 next, .int .i64 fall, .int .i64 wide, .int .i64 high] 45)) (.slice none 0 0) 0 0 0 0 45)
  rw [World.size_alloc] at hR0
  refine (clone_own (HST.out.below (bal (bal (Below.refl _ _) _) _)) next).mono ?_
  rintro e w1 ⟨⟨a1, c1, S, rfl, ho, hpl⟩, hb1⟩
  have hW1 := St.hid (rowIs_below hW0.out hb1)
  have hR1 := St.hid (rowIs_below hR0.out hb1)
  have HB1 := St.hid (bcall (bal (bal (Below.refl _ w) _) _) hb1)
  have HO1 : Hid (Own w1 (w.heap.size + 1 + 1) (.slice a1 S.length c1) S) := St.hid (by simpa using ho)
  have HPL := St.hid hpl
  have hz1 := hb1.size
  simp at hz1
  clear hb1 ho hpl hW0 hR0
  obtain ⟨x0, x1, x2, x3, x4, xf0, xf1, xf2, xf3, xf4⟩ := wcells hW1.out
  obtain ⟨y0, y1, y2, y3, y4, yf0, yf1, yf2, yf3, yf4⟩ := wcells hR1.out
  go_wp2_with fail
  refine bodyPost_ret (v := .agg #[.slice a1 S.length c1, .int .i64 next, .int .i64 fall, .int .i64 wide, .int .i64 high]) (by simp [results, Tryz.results42, go_sem, y0, y1, y2, y3, y4]) rfl ⟨⟨a1, c1, S, rfl, ?_, HPL.out⟩, ?_⟩
  · refine own_le' ?_ (show w.heap.size ≤ w.heap.size + 1 + 1 by omega)
    exact (((((((HO1.out.set (by omega) _ _).set (by omega) _ _).set (by omega) _ _).set (by omega) _ _).set (by omega) _ _).set (by omega) _ _).set (by omega) _ _)
  · iterate 5 refine Below.setCell ?_ (by simp) _
    iterate 2 refine Below.setCell ?_ (by simp) _
    exact HB1.out
set_option maxHeartbeats 1000000 in
set_option maxRecDepth 100000 in
theorem world_own {F : Nat → Prop} {b : Nat} {s : Gp} {w : World} (hG : Gam w F b s) :
    Calls Tryz.prog 17 #[.pointer (some ⟨b, 0, none⟩)] w fun e w' =>
      (∃ a c S, e = .returned (.agg #[.slice a S.length c, .int .i64 s.now.next, .int .i64 s.now.fall, .int .i64 s.now.wide, .int .i64 s.now.high]) ∧ Own w' w.heap.size (.slice a S.length c) S ∧ S.map (·.t) = s.now.L) ∧ Below w.heap.size w w' := by
  obtain ⟨v, vs, sv, Fs, hG⟩ := hG
  have hbz := hG.lt b hG.own
  have HN := St.hid hG.now
  obtain ⟨a, n, c, rfl⟩ := hG.now.one
  obtain ⟨x0, x1, x2, x3, x4, x5, x6⟩ := gcells hG.row
  clear hG
  have hR0 := St.hid (rowIs5 w (.slice none 0 0) 0 0 0 0 45)
  go_enter Tryz.func17, Tryz.ntmps17
  go_wp2_with fail
  refine (copied_own s.now.next s.now.fall s.now.wide s.now.high (HN.out.below (bal (Below.refl _ _) _))).mono ?_
  rintro e w1 ⟨⟨a1, c1, S, rfl, ho, hpl⟩, hb1⟩
  have hR1 := St.hid (rowIs_below hR0.out hb1)
  have HB1 := St.hid (bcall (bal (Below.refl _ w) _) hb1)
  have HO1 : Hid (Own w1 (w.heap.size + 1) (.slice a1 S.length c1) S) := St.hid (by simpa using ho)
  have HPL := St.hid hpl
  clear hb1 ho hpl hR0
  obtain ⟨y0, y1, y2, y3, y4, yf0, yf1, yf2, yf3, yf4⟩ := wcells hR1.out
  go_wp2_with fail
  refine bodyPost_ret (v := .agg #[.slice a1 S.length c1, .int .i64 s.now.next, .int .i64 s.now.fall, .int .i64 s.now.wide, .int .i64 s.now.high]) (by simp [results, Tryz.results17, go_sem, y0, y1, y2, y3, y4]) rfl ⟨⟨a1, c1, S, rfl, ?_, HPL.out⟩, ?_⟩
  · refine own_le' ?_ (show w.heap.size ≤ w.heap.size + 1 by omega)
    exact (((((HO1.out.set (by omega) _ _).set (by omega) _ _).set (by omega) _ _).set (by omega) _ _).set (by omega) _ _)
  · exact below_grown HB1.out (grown5 w1 w.heap.size _ _ _ _ _) HB1.out.size (Nat.le_refl _)
end Go.Proofs.YtckkkdldljhehacGreat.Gm
