/- What Spawn of package store answers when called over a store in memory: its error, or the store with the thing more and its number; nothing that was in memory before has changed. What slices.Insert answers is asked as a premise where a table must come. -/
import Derived.Test.YtckkkdldljhehaaStPut4
import Derived.Test.YtckkkdldljhehaaStGood2
import Derived.Deep.RegionHeld3
namespace Go.Proofs.Ytckkkdldljhehaa.St
open Go.Proofs.Ytckkkdldljhehaa.Num
open Go.ChangeShapes Go.WideShapes Go.ChangeAt Go.RowKit

def SpawnOut (next mask : Int) (r : R8) (L : List Tab) (nx id ec : Int) (L' : List Tab) : Prop :=
  (nx = next ∧ id = 0 ∧ L' = L ∧ ((ec = 1 ∧ ¬ GoodL next L) ∨ (ec = 2 ∧ GoodL next L ∧ goodRowB mask r = false) ∨ (ec = 5 ∧ GoodL next L ∧ goodRowB mask r = true ∧ ((allL L).length = 10 ∨ next = 1048576)))) ∨
  (ec = 0 ∧ nx = next + 1 ∧ id = next ∧ GoodL next L ∧ goodRowB mask r = true ∧ (allL L).length < 10 ∧ next < 1048576 ∧ L' = putT mask next r L)

theorem StoreIn.hz {w : World} {a : Option Addr} {n : Nat} {T : Nat → TabV} {I : Nat → Nat → Int} {R : Nat → Nat → R8} (h : StoreIn w a n T I R) : ∀ i, i < n → (T i).il ≤ 140737488355328 ∧ (T i).rl ≤ 140737488355328 := fun i hi => by
  have := h.fits.2.2 i hi
  omega
theorem StoreIn.good {w : World} {a : Option Addr} {n : Nat} {T : Nat → TabV} {I : Nat → Nat → Int} {R : Nat → Nat → R8} (h : StoreIn w a n T I R) (cap : Nat) (next : Int) :
    Calls Try.prog 25 #[.agg #[.slice a n cap, .int .i64 next]] w fun e w' => (∃ g, e = .returned (.bool g) ∧ (g = true ↔ GoodL next (plainOf T I R n))) ∧ Below w.heap.size w w' := by
  have hf := h.fits.1
  refine (good_any a n cap next T I R w (by unfold maxLen; omega) h.tabs h.ids h.rows h.hz h.wf).mono ?_
  rintro e w' ⟨⟨g, rfl, hg⟩, hb⟩
  exact ⟨⟨g, rfl, hg.trans (goodS_iff (fun i hi => (h.hz i hi).1))⟩, hb⟩
theorem goodL_n {next : Int} {T : Nat → TabV} {I : Nat → Nat → Int} {R : Nat → Nat → R8} {n : Nat} (hz : ∀ i, i < n → (T i).il ≤ 140737488355328) (h : GoodL next (plainOf T I R n)) : n ≤ 31 ∧ sizeW T n = (allL (plainOf T I R n)).length := by
  have hs := (goodS_iff hz).2 h
  have h1 := tabsTo_le hs.2.2.1
  have h2 := tabsTo_len hs.2.2.1 hz
  have h3 := size_eq (T := T) (I := I) n (by omega)
  rw [allIds_eq T I R n, List.length_reverse] at h3
  exact ⟨by omega, h3⟩
theorem len_le {L : List Tab} {k : Nat} (h : (allL L).length ≤ k) : ∀ t ∈ L, t.ids.length ≤ k := by
  intro t ht
  have : t.ids.Sublist (allL L) := by
    obtain ⟨A, C, rfl⟩ := List.append_of_mem ht
    simp only [allL, List.flatMap_append, List.flatMap_cons]
    exact (List.sublist_append_left _ _).trans (List.sublist_append_right _ _)
  have := this.length_le
  omega
theorem rising_of {S : List OT} {L : List Tab} (e : S.map (·.t) = L) (h : L.Pairwise (fun a b => a.mask < b.mask)) : Rising S := by
  subst e
  rw [List.pairwise_map] at h
  exact h

/-- What the last region of Spawn reads. -/
def SpawnS (b q : Nat) (v : Value) (next nx : Int) (r : R8) (W : World) : Prop :=
  W.cell? ⟨b, 1, none⟩ = some (.int .i64 next) ∧ W.cell? ⟨q, 0, none⟩ = some v ∧ W.cell? ⟨q, 1, none⟩ = some (.int .i64 nx) ∧
  W.cell? ⟨b + 1, 0, none⟩ = some (.int .i64 r.x) ∧ W.cell? ⟨b + 1, 1, none⟩ = some (.int .i64 r.y) ∧ W.cell? ⟨b + 1, 2, none⟩ = some (.int .i64 r.px) ∧ W.cell? ⟨b + 1, 3, none⟩ = some (.int .i64 r.py) ∧
    W.cell? ⟨b + 1, 4, none⟩ = some (.int .i64 r.wd) ∧ W.cell? ⟨b + 1, 5, none⟩ = some (.int .i64 r.ht) ∧ W.cell? ⟨b + 1, 6, none⟩ = some (.int .i64 r.ms) ∧ W.cell? ⟨b + 1, 7, none⟩ = some (.int .i64 r.rr)
theorem spawnS_of {W : World} {b q : Nat} {v u : Value} {next nx : Int} {r : R8} {f : Nat → Value} (hB : Boxes W b u next r) (hO : W.rowIs q 28 2 f) (h0 : f 0 = v) (h1 : f 1 = .int .i64 nx) : SpawnS b q v next nx r W := by
  refine ⟨hB.s.cell (i := 1) (by omega), ?_, ?_, hB.row⟩
  · rw [hO.cell (i := 0) (by omega), h0]
  · rw [hO.cell (i := 1) (by omega), h1]
theorem spawnS_set {W : World} {b q : Nat} {v u u' : Value} {next nx : Int} {r : R8} (h : SpawnS b q v next nx r W) (hq : q ≠ b + 1 + 1) : SpawnS b q v next nx r ((W.setCell ⟨b + 1 + 1, 0, none⟩ u).setCell ⟨b + 1 + 1, 1, none⟩ u') := by
  have key : ∀ x o, x ≠ b + 1 + 1 → ((W.setCell ⟨b + 1 + 1, 0, none⟩ u).setCell ⟨b + 1 + 1, 1, none⟩ u').cell? ⟨x, o, none⟩ = W.cell? ⟨x, o, none⟩ := fun x o hx =>
    (World.cell?_of_block (a := ⟨x, o, none⟩) (Below.heap_setCell _ _ _ _ hx)).trans (World.cell?_of_block (a := ⟨x, o, none⟩) (Below.heap_setCell _ _ _ _ hx))
  unfold SpawnS at h ⊢
  rw [key b 1 (by omega), key q 0 hq, key q 1 hq, key (b + 1) 0 (by omega), key (b + 1) 1 (by omega), key (b + 1) 2 (by omega), key (b + 1) 3 (by omega), key (b + 1) 4 (by omega), key (b + 1) 5 (by omega), key (b + 1) 6 (by omega), key (b + 1) 7 (by omega)]
  exact h
theorem boxes_after {W W' : World} {b : Nat} {v : Value} {next : Int} {r : R8} (h : Boxes W b v next r) (hb : Below (b + 1 + 1 + 1) W W') : Boxes W' b v next r :=
  ⟨h.s.of_block (hb.block _ (by omega)), h.r.of_block (hb.block _ (by omega)), h.res.of_block (hb.block _ (by omega))⟩

set_option maxHeartbeats 4000000 in
set_option maxRecDepth 100000 in
theorem spawn_any (a : Option Addr) (n cap : Nat) (next mask : Int) (T : Nat → TabV) (I : Nat → Nat → Int) (R : Nat → Nat → R8) (r : R8) (w : World) (h : StoreIn w a n T I R)
    (hins : ∀ (a' : Option Addr) (n' c' B : Nat) (A C : List OT), n' ≤ 31 → n' = (A ++ C).length → (A ++ C).map (·.t) = plainOf T I R n → InsertAt a' n' c' B A C mask) :
    Calls Try.prog 37 #[.agg #[.slice a n cap, .int .i64 next], .int .i64 mask, .agg #[.int .i64 r.x, .int .i64 r.y, .int .i64 r.px, .int .i64 r.py, .int .i64 r.wd, .int .i64 r.ht, .int .i64 r.ms, .int .i64 r.rr]] w fun e w' =>
      (∃ v nx id ec, e = .returned (.tuple #[.agg #[v, .int .i64 nx], .int .i64 id, .int .i64 ec]) ∧ ∃ S, Own w' w.heap.size v S ∧ SpawnOut next mask r (plainOf T I R n) nx id ec (S.map (·.t))) ∧ Below w.heap.size w w' := by
  have HST := hid h
  have HINS := hid hins
  have hnz : n ≤ 9223372036854775807 := by have := h.fits.1; omega
  clear h hins
  go_enter Try.func37, Try.ntmps37
  go_wp2_with fail
  refine (clone_any a n cap next T I R _ (HST.out.below (bal (bal (bal (Below.refl _ _) _) _) _)).tabs (HST.out.below (bal (bal (bal (Below.refl _ _) _) _) _)).ids (HST.out.below (bal (bal (bal (Below.refl _ _) _) _) _)).rows HST.out.fits).mono ?_
  rintro e w1 ⟨⟨v, rfl, S, hown, hpl⟩, hb1⟩
  obtain ⟨a', c', rfl⟩ := own_form hown.1
  have hBX := hid ((Boxes.made w (.slice a n cap) next r).below hb1)
  have hz1 := hb1.size
  simp at hz1
  have hbw := hid (bcall (bal (bal (bal (Below.refl _ _) _) _) _) hb1)
  simp only [World.size_alloc] at hown
  have HO := hid hown
  have HPL := hid hpl
  clear hown hpl hb1
  obtain ⟨x0, x1, x2, x3, x4, x5, x6⟩ := hBX.out.cells
  have hs1 : w.heap.size < w1.heap.size := by omega
  go_wp2_with fail
  have hBA := hid (hBX.out.below (bal (Below.refl _ _) (.cells #[.slice a' S.length c', .int .i64 next] 28)))
  have hOB := hid (rowIs2 w1 (.slice a' S.length c') (.int .i64 next) 28)
  have HOA := hid (HO.out.below (bal (Below.refl _ _) (.cells #[.slice a' S.length c', .int .i64 next] 28)))
  refine ((HST.out.below (bcall hbw.out (bal (Below.refl _ _) _))).good cap next).mono ?_
  rintro e w2 ⟨⟨g, rfl, hg⟩, hb2⟩
  have hB2 := hid (hBA.out.below hb2)
  have hO2 := hid (rowIs_below hOB.out hb2)
  have HO2 := hid (HOA.out.below hb2)
  have hbw2 := hid (bcall (bcall hbw.out (bal (Below.refl _ _) _)) hb2)
  have HG := hid hg
  have hz2 := hb2.size
  simp at hz2
  have hne2 : w.heap.size + 2 ≠ w1.heap.size := by omega
  have hfin : Hid (∀ W : World, Boxes W w.heap.size (.slice a n cap) next r → Own W (w.heap.size + 1 + 1 + 1) (.slice a' S.length c') S → Own ((W.setCell ⟨w.heap.size + 1 + 1, 0, none⟩ (.slice a' S.length c')).setCell ⟨w.heap.size + 1 + 1, 1, none⟩ (.int .i64 next)) w.heap.size (.slice a' S.length c') S) := by
    refine hid (fun W hb ho => ?_)
    have hb1 := own_not_box ho hb.res (by decide)
    have h2 := (ho.set' hb1 0 (.slice a' S.length c')).set' hb1 1 (.int .i64 next)
    exact ⟨owns_mono h2.1 (by omega), fun o hm => ⟨owns_mono (h2.2.1 o hm).1 (by omega), owns_mono (h2.2.1 o hm).2 (by omega)⟩, h2.2.2⟩
  clear hg hb2 hBX HO hbw x0 x1 x2 x3 x4 x5 x6 hBA hOB HOA
  obtain ⟨x0, x1, x2, x3, x4, x5, x6⟩ := hB2.out.cells
  have o0 := hO2.out.cell (i := 0) (by omega)
  have o1 := hO2.out.cell (i := 1) (by omega)
  simp at o0 o1
  cases g
  · go_wp2_with fail
    refine bodyPost_ret (v := .tuple #[.agg #[.slice a' S.length c', .int .i64 next], .int .i64 0, .int .i64 1]) (by simp [results, Try.results37, go_sem, x3, x4]) rfl ⟨⟨_, _, _, _, rfl, S, hfin.out _ hB2.out HO2.out, Or.inl ⟨rfl, rfl, HPL.out, Or.inl ⟨rfl, fun hc => by have := HG.out.2 hc; cases this⟩⟩⟩, ?_⟩
    refine Below.setCell ?_ (by simp; omega) _
    refine Below.setCell ?_ (by simp; omega) _
    exact hbw2.out
  · obtain ⟨r0, r1, r2, r3, r4, r5, r6, r7⟩ := hB2.out.row
    have HGL : Hid (GoodL next (plainOf T I R n)) := hid (HG.out.1 rfl)
    obtain ⟨hn31, hsw⟩ := goodL_n (fun i hi => (HST.out.hz i hi).1) HGL.out
    have hb01 : 0 ≤ next ∧ next ≤ 1048576 := by have := HGL.out.1; simpa [btw] using this
    obtain ⟨hnx0, hnx1⟩ := hb01
    have hsz10 := HGL.out.2.1
    have HSW := hid hsw
    clear hsw
    go_wp2_with fail
    refine (goodRow_any _ _ _ _ _ _ _ _ _ _).mono ?_
    rintro e w3 ⟨rfl, hb3⟩
    have hB3 := hid (hB2.out.below hb3)
    have hO3 := hid (rowIs_below hO2.out hb3)
    have HO3 := hid (HO2.out.below hb3)
    have hbw3 := hid (bcall hbw2.out hb3)
    have hz3 := hb3.size
    clear hb3 x0 x1 x2 x3 x4 x5 x6 o0 o1 r0 r1 r2 r3 r4 r5 r6 r7 hB2 hO2 HO2 hbw2
    obtain ⟨x0, x1, x2, x3, x4, x5, x6⟩ := hB3.out.cells
    have o0 := hO3.out.cell (i := 0) (by omega)
    have o1 := hO3.out.cell (i := 1) (by omega)
    simp at o0 o1
    cases hgr : goodRowB mask ⟨r.x, r.y, r.px, r.py, r.wd, r.ht, r.ms, r.rr⟩
    · go_wp2_with fail
      refine bodyPost_ret (v := .tuple #[.agg #[.slice a' S.length c', .int .i64 next], .int .i64 0, .int .i64 2]) (by simp [results, Try.results37, go_sem, x3, x4]) rfl ⟨⟨_, _, _, _, rfl, S, hfin.out _ hB3.out HO3.out, Or.inl ⟨rfl, rfl, HPL.out, Or.inr (Or.inl ⟨rfl, HGL.out, hgr⟩)⟩⟩, ?_⟩
      refine Below.setCell ?_ (by simp; omega) _
      refine Below.setCell ?_ (by simp; omega) _
      exact hbw3.out
    · go_wp2_with fail
      refine (size_any a n cap next T _ (by unfold maxLen; omega) (HST.out.below hbw3.out).tabs).mono ?_
      rintro e w4 ⟨rfl, hb4⟩
      have hB4 := hid (hB3.out.below hb4)
      have hO4 := hid (rowIs_below hO3.out hb4)
      have HO4 := hid (HO3.out.below hb4)
      have hbw4 := hid (bcall hbw3.out hb4)
      have hz4 := hb4.size
      clear hb4 x0 x1 x2 x3 x4 x5 x6 o0 o1 hB3 hO3 HO3 hbw3
      obtain ⟨x0, x1, x2, x3, x4, x5, x6⟩ := hB4.out.cells
      have o0 := hO4.out.cell (i := 0) (by omega)
      have o1 := hO4.out.cell (i := 1) (by omega)
      have of1 := hO4.out.frozen 1
      simp at o0 o1
      have hw14 : w1.heap.size < w4.heap.size := by omega
      rw [HSW.out]
      by_cases h10 : (allL (plainOf T I R n)).length = 10
      · have hq : (((allL (plainOf T I R n)).length : Int) == 10) = true := by simp; omega
        have H10 := hid h10
        clear h10
        go_wp2_with fail
        refine bodyPost_ret (v := .tuple #[.agg #[.slice a' S.length c', .int .i64 next], .int .i64 0, .int .i64 5]) (by simp [results, Try.results37, go_sem, x3, x4]) rfl ⟨⟨_, _, _, _, rfl, S, hfin.out _ hB4.out HO4.out, Or.inl ⟨rfl, rfl, HPL.out, Or.inr (Or.inr ⟨rfl, HGL.out, hgr, Or.inl H10.out⟩)⟩⟩, ?_⟩
        refine Below.setCell ?_ (by simp; omega) _
        refine Below.setCell ?_ (by simp; omega) _
        exact hbw4.out
      · have hq : (((allL (plainOf T I R n)).length : Int) == 10) = false := by simp; omega
        have hl10 : (allL (plainOf T I R n)).length < 10 := by omega
        clear h10
        by_cases hnm : next = 1048576
        · have hq2 : (next == 1048576) = true := by simp [hnm]
          have HNM := hid hnm
          clear hnm
          go_wp2_with fail
          refine bodyPost_ret (v := .tuple #[.agg #[.slice a' S.length c', .int .i64 next], .int .i64 0, .int .i64 5]) (by simp [results, Try.results37, go_sem, x3, x4]) rfl ⟨⟨_, _, _, _, rfl, S, hfin.out _ hB4.out HO4.out, Or.inl ⟨rfl, rfl, HPL.out, Or.inr (Or.inr ⟨rfl, HGL.out, hgr, Or.inr HNM.out⟩)⟩⟩, ?_⟩
          refine Below.setCell ?_ (by simp; omega) _
          refine Below.setCell ?_ (by simp; omega) _
          exact hbw4.out
        · have hq2 : (next == 1048576) = false := by simp [hnm]
          have hnlt : next < 1048576 := by omega
          clear hnm
          obtain ⟨r0, r1, r2, r3, r4, r5, r6, r7⟩ := hB4.out.row
          have hwne : w1.heap.size ≠ w.heap.size := by omega
          go_wp2_with fail
          have hnb := own_not_box HO4.out hO4.out (by decide)
          have hB5 := hid (hB4.out.set (x := w1.heap.size) (Or.inr (by omega)) 1 (.int .i64 (next + 1)))
          have hO5 := hid (hO4.out.set 1 (.int .i64 (next + 1)))
          have HO5 := hid (HO4.out.set' hnb 1 (.int .i64 (next + 1)))
          have hbw5 := hid (hbw4.out.setCell (p := ⟨w1.heap.size, 1, none⟩) (show w.heap.size ≤ w1.heap.size by omega) (.int .i64 (next + 1)))
          have hz5 : Hid (w1.heap.size < (w4.setCell ⟨w1.heap.size, 1, none⟩ (.int .i64 (next + 1))).heap.size) := hid (by simpa using hw14)
          generalize w4.setCell ⟨w1.heap.size, 1, none⟩ (.int .i64 (next + 1)) = W at hB5 hO5 HO5 hbw5 hz5 ⊢
          clear hB4 hO4 HO4 hbw4 x0 x1 x2 x3 x4 x5 x6 o0 o1 of1 r0 r1 r2 r3 r4 r5 r6 r7 hnb hw14 hz4 hz3
          obtain ⟨x0, x1, x2, x3, x4, x5, x6⟩ := hB5.out.cells
          obtain ⟨r0, r1, r2, r3, r4, r5, r6, r7⟩ := hB5.out.row
          have o0 := hO5.out.cell (i := 0) (by omega)
          have o1 := hO5.out.cell (i := 1) (by omega)
          simp at o0 o1
          have hSn : Hid (S.length ≤ 31 ∧ (∀ o ∈ S, o.t.ids.length ≤ 1000 ∧ o.t.rows.length ≤ 1000) ∧ Rising S) := by
            have hp := HPL.out
            have hl : S.length = n := by have := congrArg List.length hp; simpa [plainOf] using this
            refine hid ⟨by omega, fun o ho => ?_, rising_of hp HGL.out.2.2.2.1⟩
            have hm : o.t ∈ plainOf T I R n := by rw [← hp]; exact List.mem_map.2 ⟨o, ho, rfl⟩
            have h1 := len_le HGL.out.2.1 _ hm
            have h2 := (HGL.out.2.2.2.2.1 _ hm).2.1
            omega
          have HPI : Hid (Calls Try.prog 81 #[.agg #[.slice a' S.length c', .int .i64 (next + 1)], .int .i64 mask, .int .i64 next, .agg #[.int .i64 r.x, .int .i64 r.y, .int .i64 r.px, .int .i64 r.py, .int .i64 r.wd, .int .i64 r.ht, .int .i64 r.ms, .int .i64 r.rr]] W.drew fun e w' =>
              (∃ v, e = .returned (.agg #[v, .int .i64 (next + 1)]) ∧ ∃ S', Own w' (w.heap.size + 1 + 1 + 1) v S' ∧ S'.map (·.t) = putT mask next r (S.map (·.t))) ∧ Below (w.heap.size + 1 + 1 + 1) W w' ∧ Keep W w') := by
            have hs : w.heap.size + 1 + 1 + 1 ≤ W.heap.size := by have h0 := hz5.out; omega
            refine hid ((putIn_any a' S.length c' (next + 1) next mask _ S r W.drew rfl hs (by have := hSn.out.1; omega) hSn.out.2.1 HO5.out hSn.out.2.2 (fun A C e _ _ => HINS.out a' S.length c' _ A C hSn.out.1 (by rw [e]) (by rw [← e]; exact HPL.out))).mono ?_)
            rintro e w' ⟨h1, h2, h3⟩
            exact ⟨h1, (Below.drew (Below.refl _ W)).trans h2, h3⟩
          have hsW : w.heap.size < W.heap.size := by have := hz5.out; omega
          have hne4 : w1.heap.size ≠ w.heap.size + 1 + 1 := by omega
          have hne5 : w.heap.size ≠ w.heap.size + 1 + 1 := by omega
          have hS0 := spawnS_of (v := .slice a' S.length c') (nx := next + 1) hB5.out hO5.out (by simp) (by simp)
          unfold SpawnS at hS0
          clear x0 x1 x2 x3 x4 x5 x6 o0 o1 r0 r1 r2 r3 r4 r5 r6 r7
          obtain ⟨q0, q1, q2, q3, q4, q5, q6, q7, q8, q9, q10⟩ := hS0
          go_region_held3 (fun W' => W'.cell? ⟨w.heap.size, 1, none⟩ = some (.int .i64 next) ∧ W'.cell? ⟨w1.heap.size, 0, none⟩ = some (.slice a' S.length c') ∧ W'.cell? ⟨w1.heap.size, 1, none⟩ = some (.int .i64 (next + 1)) ∧
              W'.cell? ⟨w.heap.size + 1, 0, none⟩ = some (.int .i64 r.x) ∧ W'.cell? ⟨w.heap.size + 1, 1, none⟩ = some (.int .i64 r.y) ∧ W'.cell? ⟨w.heap.size + 1, 2, none⟩ = some (.int .i64 r.px) ∧ W'.cell? ⟨w.heap.size + 1, 3, none⟩ = some (.int .i64 r.py) ∧
              W'.cell? ⟨w.heap.size + 1, 4, none⟩ = some (.int .i64 r.wd) ∧ W'.cell? ⟨w.heap.size + 1, 5, none⟩ = some (.int .i64 r.ht) ∧ W'.cell? ⟨w.heap.size + 1, 6, none⟩ = some (.int .i64 r.ms) ∧ W'.cell? ⟨w.heap.size + 1, 7, none⟩ = some (.int .i64 r.rr)) (first | (go_keep; done) | exact spawnS_set hSA hne4)
            (first | (go_at_call 81; refine HPI.out.mono ?_; rintro e w6 ⟨⟨v6, rfl, S6, ho6, hp6⟩, hb6, hk6⟩; obtain ⟨a6, c6, rfl⟩ := own_form ho6.1; have hB6 := boxes_after hB5.out hb6; have hSA := spawnS_of (v := .slice a' S.length c') (nx := next + 1) hB6 (hk6 _ _ _ hO5.out) (by simp) (by simp); unfold SpawnS at hSA; obtain ⟨y0, y1, y2, y3, y4, y5, y6⟩ := hB6.cells; have H6 := hid ho6; have HP6 := hid hp6; have HB6 := hid hb6; have HBX6 := hid hB6; clear ho6 hp6 hb6 hk6 hB6))
          all_goals
            go_wp2_with fail
            refine bodyPost_ret (v := .tuple #[.agg #[.slice a6 S6.length c6, .int .i64 (next + 1)], .int .i64 next, .int .i64 0]) (by simp [results, Try.results37, go_sem, y3, y4]) rfl ⟨⟨_, _, _, _, rfl, S6, ?_, Or.inr ⟨rfl, rfl, rfl, HGL.out, hgr, hl10, hnlt, ?_⟩⟩, ?_⟩
            · have hb1 := own_not_box H6.out HBX6.out.res (by decide)
              have h2 := (H6.out.set' hb1 0 (.slice a6 S6.length c6)).set' hb1 1 (.int .i64 (next + 1))
              exact ⟨owns_mono h2.1 (by omega), fun o hm => ⟨owns_mono (h2.2.1 o hm).1 (by omega), owns_mono (h2.2.1 o hm).2 (by omega)⟩, h2.2.2⟩
            · rw [HP6.out, HPL.out]
            · refine Below.setCell ?_ (by simp; omega) _
              refine Below.setCell ?_ (by simp; omega) _
              exact hbw5.out.trans (HB6.out.mono (by omega))
end Go.Proofs.Ytckkkdldljhehaa.St
