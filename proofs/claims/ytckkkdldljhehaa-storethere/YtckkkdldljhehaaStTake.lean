/- What takeOut of package store answers when called over tables of one's own and where a thing stands: the tables without the thing, the last of its table in its place. -/
import Derived.Test.YtckkkdldljhehaaStTakeA
import Derived.BigRegion
import Derived.Deep.DeepCutAuto
namespace Go.Proofs.Ytckkkdldljhehaa.St
open Go.Proofs.Ytckkkdldljhehaa.Num
open Go.ChangeShapes Go.WideShapes Go.ChangeAt Go.RowKit

set_option maxHeartbeats 20000000 in
set_option maxRecDepth 100000 in
theorem takeOut_own (g n c : Nat) (next : Int) (B : Nat) (A C : List OT) (o : OT) (j k : Nat) (id : Int) (r : R8) (w : World) (hN : n = (A ++ o :: C).length) (hB : B ≤ w.heap.size) (hz : n ≤ 1000) (hi : o.t.ids.length = k + 1) (hr : o.t.rows.length = k + 1) (hk : k ≤ 1000) (hj : j ≤ k)
    (hid' : o.t.ids[k]? = some id) (hrow : o.t.rows[k]? = some r) (hown : Own w B (.slice (some ⟨g, 0, none⟩) n c) (A ++ o :: C)) :
    Calls Try.prog 83 #[.agg #[.slice (some ⟨g, 0, none⟩) n c, .int .i64 next], .agg #[.int .i64 (A.length : Nat), .int .i64 j]] w fun e w' =>
      (∃ v, e = .returned (.agg #[v, .int .i64 next]) ∧ ∃ S', Own w' B v S' ∧ S'.map (·.t) = if k = 0 then (A ++ C).map (·.t) else A.map (·.t) ++ cutT j k id r o.t :: C.map (·.t)) ∧ Below B w w' ∧ Keep w w' := by
  have hAn : A.length < n := by rw [hN]; simp
  have hO := hown.2.1 o (by simp)
  rw [OtOwn, hi, hr] at hO
  obtain ⟨gi, ic, hiv⟩ := own_some hO.1 (by omega)
  obtain ⟨gr, rc, hrv⟩ := own_some hO.2 (by omega)
  have HO := hid hown
  have HI := hid hO.1
  have HR := hid hO.2
  have HN := hid hN
  have HB := hid (BoxT.made w (.slice (some ⟨g, 0, none⟩) n c) next (A.length : Nat) j)
  have HOW := hid (hown.below (bal (bal (bal (Below.refl _ _) (.cells #[.slice (some ⟨g, 0, none⟩) n c, .int .i64 next] 28)) (.cells #[.int .i64 (A.length : Nat), .int .i64 j] 98)) (.cells #[.slice none 0 0, .int .i64 0] 28)))
  have HBL := hid ((bal (bal (bal (Below.refl _ _) (.cells #[.slice (some ⟨g, 0, none⟩) n c, .int .i64 next] 28)) (.cells #[.int .i64 (A.length : Nat), .int .i64 j] 98)) (.cells #[.slice none 0 0, .int .i64 0] 28) : Below w.heap.size w _).mono hB)
  have HKW := hid ((((Keep.refl w).alloc (.cells #[.slice (some ⟨g, 0, none⟩) n c, .int .i64 next] 28)).alloc (.cells #[.int .i64 (A.length : Nat), .int .i64 j] 98)).alloc (.cells #[.slice none 0 0, .int .i64 0] 28))
  clear hown hO hN
  go_enter Try.func83, Try.ntmps83
  generalize hWE : ((w.alloc (.cells #[.slice (some ⟨g, 0, none⟩) n c, .int .i64 next] 28)).alloc (.cells #[.int .i64 (A.length : Nat), .int .i64 j] 98)).alloc (.cells #[.slice none 0 0, .int .i64 0] 28) = W at HB HOW HBL HKW
  obtain ⟨x0, x1, x2, x3, x4, x5, x6, x7, x8⟩ := HB.out.cells
  obtain ⟨t0, t1, t2⟩ := HOW.out.cell HN.out
  rw [hiv] at t1
  rw [hrv] at t2
  have HOO : Hid (W.ownsRow B 3 1 (.slice (some ⟨gi, 0, none⟩) (k + 1) ic) (k + 1) (o.t.ids.map (Value.int .i64)) ∧ W.ownsRow B 30 8 (.slice (some ⟨gr, 0, none⟩) (k + 1) rc) (k + 1) (o.t.rows.flatMap rowCells)) := by
    have := HOW.out.2.1 o (by simp)
    rw [OtOwn, hi, hr, hiv, hrv] at this
    exact hid this
  have i0 : W.cell? ⟨gi, k, none⟩ = some (.int .i64 id) := by
    rw [HOO.out.1.cellAt _ (by omega), List.getElem?_map, hid']; rfl
  obtain ⟨r0, r1, r2, r3, r4, r5, r6, r7⟩ := row_at HOO.out.2 hrow
  have hwk : IntKind.i64.wrap (k : Int) = k := by rw [IntKind.wrap_i64]; omega
  have hAz : (A.length : Int) < (n : Int) := by omega
  have hjk : (j : Int) < (k : Int) + 1 := by omega
  have hkk : (k : Int) < (k : Int) + 1 := by omega
  have HIV := hid hiv
  have HRV := hid hrv
  have HI1 := hid hi
  have HR1 := hid hr
  have HID := hid hid'
  have HRW := hid hrow
  clear hiv hrv hi hr hid' hrow
  obtain ⟨idj, hidj⟩ : ∃ u, o.t.ids[j]? = some u := ⟨_, List.getElem?_eq_getElem (by have := HI1.out; omega)⟩
  obtain ⟨rj, hrj⟩ : ∃ u, o.t.rows[j]? = some u := ⟨_, List.getElem?_eq_getElem (by have := HR1.out; omega)⟩
  have ij : W.cell? ⟨gi, j, none⟩ = some (.int .i64 idj) := by
    rw [HOO.out.1.cellAt _ (by omega), List.getElem?_map, hidj]; rfl
  obtain ⟨s0, s1, s2, s3, s4, s5, s6, s7⟩ := row_at HOO.out.2 hrj
  clear hidj hrj
  have hne := own_ne HOW.out
  rw [HIV.out, HRV.out] at hne
  have hig : gi ≠ g := fun e => hne.1 (by rw [e]; rfl)
  have hrg : gr ≠ g := fun e => hne.2 (by rw [e]; rfl)
  have hir : gi ≠ gr := fun e => by
    have h3 := HOW.out.2.2
    rw [blocks_mid, otBlocks, HIV.out, HRV.out, e] at h3
    have : ([gr, gr] : List Nat).Nodup := h3.sublist (by simp only [Value.ownBlock, Option.toList_some]; exact (List.sublist_append_left [gr, gr] _).trans ((List.sublist_append_right _ _).trans (List.sublist_append_right _ _)))
    simp at this
  clear hne
  have fi : W.frozen? ⟨gi, j, none⟩ = false := HOO.out.1.frozenAt j
  have f0 : W.frozen? ⟨gr, j * 8, none⟩ = false := HOO.out.2.frozenAt (j * 8)
  have f1 : W.frozen? ⟨gr, j * 8 + 1, none⟩ = false := HOO.out.2.frozenAt (j * 8 + 1)
  have f2 : W.frozen? ⟨gr, j * 8 + 2, none⟩ = false := HOO.out.2.frozenAt (j * 8 + 2)
  have f3 : W.frozen? ⟨gr, j * 8 + 3, none⟩ = false := HOO.out.2.frozenAt (j * 8 + 3)
  have f4 : W.frozen? ⟨gr, j * 8 + 4, none⟩ = false := HOO.out.2.frozenAt (j * 8 + 4)
  have f5 : W.frozen? ⟨gr, j * 8 + 5, none⟩ = false := HOO.out.2.frozenAt (j * 8 + 5)
  have f6 : W.frozen? ⟨gr, j * 8 + 6, none⟩ = false := HOO.out.2.frozenAt (j * 8 + 6)
  have f7 : W.frozen? ⟨gr, j * 8 + 7, none⟩ = false := HOO.out.2.frozenAt (j * 8 + 7)
  have hgiw : gi < w.heap.size := (HI.out.lt gi (by rw [HIV.out]; rfl)).2
  have hgrw : gr < w.heap.size := (HR.out.lt gr (by rw [HRV.out]; rfl)).2
  have hgiB : B ≤ gi := (HI.out.lt gi (by rw [HIV.out]; rfl)).1
  have hgrB : B ≤ gr := (HR.out.lt gr (by rw [HRV.out]; rfl)).1
  have hgB : B ≤ g := (HO.out.1.lt g rfl).1
  have hkic : k ≤ ic := by
    rcases HOO.out.1.2 with ⟨e, _⟩ | ⟨_, _, _, e, _, _, q, _⟩ <;> cases e
    omega
  have hkrc : k ≤ rc := by
    rcases HOO.out.2.2 with ⟨e, _⟩ | ⟨_, _, _, e, _, _, q, _⟩ <;> cases e
    omega
  have hgW : g < W.heap.size := (HOW.out.1.lt g rfl).2
  have hgw : g < w.heap.size := (HO.out.1.lt g rfl).2
  have hri : gr ≠ gi := fun e => hir e.symm
  have hip : gi ≠ w.heap.size + 1 := by omega
  have hrp : gr ≠ w.heap.size + 1 := by omega
  go_wp2_with fail
  go_cut [] (fun wx => wx = (setRow8 (W.setCell ⟨gi, j, none⟩ (.int .i64 id)) gr j r).drew)
  case first =>
    go_region
    all_goals
      go_wp2_with fail
      go_meet
      all_goals rfl
  case rest =>
  obtain rfl := hcut
  have HOC := hid (own_cut id r HOW.out HN.out HIV.out HRV.out HI1.out HR1.out hj hrg hir)
  have HB1 := hid (((HB.out.set (x := gi) (Or.inl hgiw) j (.int .i64 id)).grown (grown_row8 _ gr j r) (fun x e => by cases e; exact Or.inl hgrw)))
  have HBL1 := hid (((HBL.out.setCell (p := ⟨gi, j, none⟩) (show B ≤ gi from hgiB) (.int .i64 id)).grown (grown_row8 _ gr j r) (by simp; omega) (fun x e => by cases e; exact hgrB)))
  have HK1 := hid ((HKW.out.set (g := gi) (kind_of HOO.out.1 (by decide) gi rfl) j (.int .i64 id)).grown (grown_row8 _ gr j r) (by intro x e; cases e; exact kind_of (owns_set HOO.out.2 (by simp [Value.ownBlock]; exact hri) _ _) (by decide) gr rfl))
  have hbg : (setRow8 (W.setCell ⟨gi, j, none⟩ (.int .i64 id)) gr j r).heap[g]? = W.heap[g]? :=
    ((grown_row8 (W.setCell ⟨gi, j, none⟩ (.int .i64 id)) gr j r).block g (by simpa using hgW) (by simp; exact fun e => hrg e.symm)).trans ((grown_set W gi j (.int .i64 id)).block g hgW (by simp; exact fun e => hig e.symm))
  have c1 := (World.cell?_of_block (a := ⟨g, A.length * 3 + 1, none⟩) hbg).trans t1
  have c2 := (World.cell?_of_block (a := ⟨g, A.length * 3 + 2, none⟩) hbg).trans t2
  have d1 := (World.frozen?_of_block (a := ⟨g, A.length * 3 + 1, none⟩) hbg).trans (HOW.out.frozen HN.out (A.length * 3 + 1))
  have d2 := (World.frozen?_of_block (a := ⟨g, A.length * 3 + 2, none⟩) hbg).trans (HOW.out.frozen HN.out (A.length * 3 + 2))
  have hKg : Hid (∃ c e' fz, (setRow8 (W.setCell ⟨gi, j, none⟩ (.int .i64 id)) gr j r).heap[g]? = some (.cells c e' fz) ∧ e' ≠ 28) := by
    obtain ⟨c, e', fz, h1, h2⟩ := kind_of HOW.out.1 (by decide) g rfl
    exact hid ⟨c, e', fz, hbg.trans h1, h2⟩
  generalize setRow8 (W.setCell ⟨gi, j, none⟩ (.int .i64 id)) gr j r = W1 at HOC HB1 HBL1 HK1 c1 c2 d1 d2 hKg ⊢
  clear x0 x1 x2 x3 x4 x5 x6 x7 x8 t0 t1 t2 i0 r0 r1 r2 r3 r4 r5 r6 r7 ij s0 s1 s2 s3 s4 s5 s6 s7 fi f0 f1 f2 f3 f4 f5 f6 f7 hbg
  go_wp2_with fail
  go_cut [] (fun wx => wx = ((W1.setCell ⟨g, A.length * 3 + 1, none⟩ (.slice (some ⟨gi, 0, none⟩) k ic)).setCell ⟨g, A.length * 3 + 2, none⟩ (.slice (some ⟨gr, 0, none⟩) k rc)).drew.drew)
  case first =>
    go_region
    all_goals
      go_wp2_with fail
      go_meet
      all_goals rfl
  case rest =>
  obtain rfl := hcut
  have hgr : W1.grownBy ((W1.setCell ⟨g, A.length * 3 + 1, none⟩ (.slice (some ⟨gi, 0, none⟩) k ic)).setCell ⟨g, A.length * 3 + 2, none⟩ (.slice (some ⟨gr, 0, none⟩) k rc)) (some g) := (grown_set W1 g _ _).trans (grown_set _ g _ _)
  have HB2 := hid (HB1.out.grown hgr (fun x e => by cases e; exact Or.inl hgw))
  have HBL2 := hid (HBL1.out.grown hgr (by have := HBL1.out.size; omega) (fun x e => by cases e; exact hgB))
  have HK2 := hid (HK1.out.grown hgr (fun x e => by cases e; exact hKg.out))
  clear hgr
  generalize ((W1.setCell ⟨g, A.length * 3 + 1, none⟩ (.slice (some ⟨gi, 0, none⟩) k ic)).setCell ⟨g, A.length * 3 + 2, none⟩ (.slice (some ⟨gr, 0, none⟩) k rc)) = W2 at HOC HB2 HBL2 HK2 ⊢
  clear c1 c2 d1 d2 hKg HB1 HBL1 HK1 HOO HOW HB HBL HKW HI HR HO
  obtain ⟨x0, x1, x2, x3, x4, x5, x6, x7, x8⟩ := HB2.out.cells
  have hN2 : Hid (n = (A ++ (⟨cutT j k id r o.t, .slice (some ⟨gi, 0, none⟩) k ic, .slice (some ⟨gr, 0, none⟩) k rc⟩ : OT) :: C).length) := hid (by rw [HN.out]; simp)
  by_cases hk0 : k = 0
  · have hq : ((k : Int) == 0) = true := by simp [hk0]
    have HK0 := hid hk0
    clear hk0
    have hA1 : (A.length : Int) ≤ 1000 := by omega
    go_wp2_with fail
    have hdel := delete_at g n c A.length B (tabCells (A ++ (⟨cutT j k id r o.t, .slice (some ⟨gi, 0, none⟩) k ic, .slice (some ⟨gr, 0, none⟩) k rc⟩ : OT) :: C)) W2.drew.drew hAn (by have h := HOC.out.1; rw [← hN2.out] at h; exact h) HOC.out.one
    refine hdel.mono ?_
    clear hdel
    rintro e w3 ⟨rfl, hown3, hg3⟩
    replace hg3 := grown_drew (grown_drew hg3)
    have HB3 := hid (HB2.out.grown (row := some g) hg3 (fun x e => by cases e; exact Or.inl hgw))
    have HBL3 := hid (HBL2.out.grown (row := some g) hg3 (by have := HBL2.out.size; omega) (fun x e => by cases e; exact hgB))
    have HK3 := hid (HK2.out.grown (row := some g) hg3 (fun x e => by cases e; exact kind_of HOC.out.1 (by decide) g rfl))
    have HO3 : Hid (Own w3 B (.slice (some ⟨g, 0, none⟩) (n - 1) c) (A ++ C)) := by
      refine hid (own_less (W := W2) HOC.out hN2.out hg3 ?_)
      have e1 : (tabCells (A ++ (⟨cutT j k id r o.t, .slice (some ⟨gi, 0, none⟩) k ic, .slice (some ⟨gr, 0, none⟩) k rc⟩ : OT) :: C)).take (A.length * 3) = tabCells A := by
        rw [tabCells_mid, List.take_append_of_le_length (by rw [tabCells_length]; exact Nat.le_refl _), List.take_of_length_le (by rw [tabCells_length]; exact Nat.le_refl _)]
      have e2 : (tabCells (A ++ (⟨cutT j k id r o.t, .slice (some ⟨gi, 0, none⟩) k ic, .slice (some ⟨gr, 0, none⟩) k rc⟩ : OT) :: C)).drop ((A.length + 1) * 3) = tabCells C := by
        rw [tabCells_mid, List.drop_append, List.drop_of_length_le (by rw [tabCells_length]; omega), tabCells_length, show (A.length + 1) * 3 - A.length * 3 = 3 by omega]
        rfl
      rw [e1, e2] at hown3
      exact hown3
    clear hown3 hg3 x0 x1 x2 x3 x4 x5 x6 x7 x8
    obtain ⟨x0, x1, x2, x3, x4, x5, x6, x7, x8⟩ := HB3.out.cells
    go_wp2_with fail
    have hns := own_not_box HO3.out HB3.out.s (by decide)
    have hnr := own_not_box HO3.out HB3.out.res (by decide)
    refine bodyPost_ret (v := .agg #[.slice (some ⟨g, 0, none⟩) (n - 1) c, .int .i64 next]) (by simp [results, Try.results83, go_sem, x3, x4]) rfl ⟨⟨_, rfl, _, ((HO3.out.set' hns 0 _).set' hnr 0 _).set' hnr 1 _, ?_⟩, ?_, ?_⟩
    · simp
    · refine Below.setCell ?_ (by have := HBL3.out.size; simp; omega) _
      refine Below.setCell ?_ (by have := HBL3.out.size; simp; omega) _
      refine Below.setCell ?_ (by have := HBL3.out.size; simp; omega) _
      exact HBL3.out
    · exact ((HK3.out.setNew (g := w.heap.size) (by omega) 0 _).setNew (g := w.heap.size + 2) (by omega) 0 _).setNew (g := w.heap.size + 2) (by omega) 1 _
  · have hq : ((k : Int) == 0) = false := by simp; omega
    have HK0 := hid hk0
    clear hk0
    go_wp2_with fail
    have hnr := own_not_box HOC.out HB2.out.res (by decide)
    refine bodyPost_ret (v := .agg #[.slice (some ⟨g, 0, none⟩) n c, .int .i64 next]) (by simp [results, Try.results83, go_sem, x3, x4]) rfl ⟨⟨_, rfl, _, ((HOC.out.below (Below.drew (Below.drew (Below.refl _ W2)))).set' hnr 0 _).set' hnr 1 _, ?_⟩, ?_, ?_⟩
    · simp
    · refine Below.drew (Below.drew ?_)
      refine Below.setCell ?_ (by have := HBL2.out.size; simp; omega) _
      refine Below.setCell ?_ (by have := HBL2.out.size; simp; omega) _
      exact HBL2.out
    · exact ((HK2.out.setNew (g := w.heap.size + 1 + 1) (by omega) 0 _).setNew (g := w.heap.size + 1 + 1) (by omega) 1 _).drew.drew
end Go.Proofs.Ytckkkdldljhehaa.St
