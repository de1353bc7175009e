/- Part of the proofs of GamePlays and GameRuns (package ninepinslaw): contracts of the functions that they call. -/
import Derived.BigRegion
import Derived.Deep.DeepCutAuto
import Derived.Test.YtckkkdldljhehacGreatPkD
namespace Go.Proofs.YtckkkdldljhehacGreat
namespace St
open Num
open Go.ChangeShapes Go.WideShapes Go.ChangeAt Go.RowKit
structure BoxT (W : World) (b : Nat) (v : Value) (next : Int) (i j : Int) : Prop where
 s : W.rowIs b 43 2 (fun k => if k = 0 then v else .int .i64 next)
 p : W.rowIs (b + 1) 99 2 (fun k => if k = 0 then .int .i64 i else .int .i64 j)
 res : W.rowIs (b + 2) 43 2 (fun i => if i = 0 then .slice none 0 0 else .int .i64 0)
theorem BoxT.made (w : World) (v : Value) (next i j : Int) : BoxT (((w.alloc (.cells #[v, .int .i64 next] 43)).alloc (.cells #[.int .i64 i, .int .i64 j] 99)).alloc (.cells #[.slice none 0 0, .int .i64 0] 43)) w.heap.size v next i j := by
 refine ⟨((rowIs2 w _ _ _).alloc _).alloc _, ?_, ?_⟩
 ·have := rowIs2 (w.alloc (.cells #[v, .int .i64 next] 43)) (.int .i64 i) (.int .i64 j) 99
  rw [World.size_alloc] at this
  exact this.alloc _
 ·have := rowIs2 ((w.alloc (.cells #[v, .int .i64 next] 43)).alloc (.cells #[.int .i64 i, .int .i64 j] 99)) (.slice none 0 0) (.int .i64 0) 43
  rw [World.size_alloc, World.size_alloc] at this
  exact this
theorem BoxT.grown {W W' : World} {b : Nat} {v : Value} {next i j : Int} {row : Option Nat} (h : BoxT W b v next i j) (hg : W.grownBy W' row) (hne : ∀ x, row = some x → x < b ∨ b + 2 < x) : BoxT W' b v next i j :=
 ⟨rowIs_grown h.s hg (fun e => by have := hne _ e; omega), rowIs_grown h.p hg (fun e => by have := hne _ e; omega), rowIs_grown h.res hg (fun e => by have := hne _ e; omega)⟩
theorem BoxT.set {W : World} {b : Nat} {v : Value} {next i j : Int} (h : BoxT W b v next i j) {x : Nat} (hne : x < b ∨ b + 2 < x) (q : Nat) (u : Value) : BoxT (W.setCell ⟨x, q, none⟩ u) b v next i j :=
 ⟨h.s.setOther (by simp; omega) u, h.p.setOther (by simp; omega) u, h.res.setOther (by simp; omega) u⟩
theorem BoxT.setS {W : World} {b : Nat} {v : Value} {next i j : Int} (h : BoxT W b v next i j) (u : Value) : BoxT (W.setCell ⟨b, 0, none⟩ u) b u next i j :=
 ⟨(h.s.set 0 u).congr (fun i hi => by match i, hi with | 0, _ => rfl | 1, _ => rfl), h.p.setOther (by simp) u, h.res.setOther (by simp) u⟩
theorem BoxT.cells {W : World} {b : Nat} {v : Value} {next i j : Int} (h : BoxT W b v next i j) : W.cell? ⟨b, 0, none⟩ = some v ∧ W.cell? ⟨b, 1, none⟩ = some (.int .i64 next) ∧ W.frozen? ⟨b, 0, none⟩ = false ∧
  W.cell? ⟨b + 2, 0, none⟩ = some (.slice none 0 0) ∧ W.cell? ⟨b + 2, 1, none⟩ = some (.int .i64 0) ∧ W.frozen? ⟨b + 2, 0, none⟩ = false ∧ W.frozen? ⟨b + 2, 1, none⟩ = false ∧ W.cell? ⟨b + 1, 0, none⟩ = some (.int .i64 i) ∧ W.cell? ⟨b + 1, 1, none⟩ = some (.int .i64 j) :=
 ⟨h.s.cell (i := 0) (by omega), h.s.cell (i := 1) (by omega), h.s.frozen 0, h.res.cell (i := 0) (by omega), h.res.cell (i := 1) (by omega), h.res.frozen 0, h.res.frozen 1, h.p.cell (i := 0) (by omega), h.p.cell (i := 1) (by omega)⟩
theorem ids_write {W : World} {B gi k ic j : Nat} {ids : List Int} (id : Int) (h : W.ownsRow B 3 1 (.slice (some ⟨gi, 0, none⟩) (k + 1) ic) (k + 1) (ids.map (Value.int .i64))) :
  (W.setCell ⟨gi, j, none⟩ (.int .i64 id)).ownsRow B 3 1 (.slice (some ⟨gi, 0, none⟩) (k + 1) ic) (k + 1) ((ids.set j id).map (Value.int .i64)) := by
 have := (h.stored j (.int .i64 id)).1
 rw [List.map_set]
 exact this
theorem own_cut {W : World} {B g n c : Nat} {A C : List OT} {o : OT} {gi gr ic rc j k : Nat} (id : Int) (r : R8) (h : Own W B (.slice (some ⟨g, 0, none⟩) n c) (A ++ o :: C)) (hn : n = (A ++ o :: C).length) (hiv : o.iv = .slice (some ⟨gi, 0, none⟩) (k + 1) ic) (hrv : o.rv = .slice (some ⟨gr, 0, none⟩) (k + 1) rc)
  (hi : o.t.ids.length = k + 1) (hr : o.t.rows.length = k + 1) (hj : j ≤ k) (hrg : gr ≠ g) (hir : gi ≠ gr) :
  Own (((setRow8 (W.setCell ⟨gi, j, none⟩ (.int .i64 id)) gr j r).setCell ⟨g, A.length * 3 + 1, none⟩ (.slice (some ⟨gi, 0, none⟩) k ic)).setCell ⟨g, A.length * 3 + 2, none⟩ (.slice (some ⟨gr, 0, none⟩) k rc)) B (.slice (some ⟨g, 0, none⟩) n c)
   (A ++ ⟨cutT j k id r o.t, .slice (some ⟨gi, 0, none⟩) k ic, .slice (some ⟨gr, 0, none⟩) k rc⟩ :: C) := by
 have ho := h.2.1 o (by simp)
 rw [OtOwn, hi, hr, hiv, hrv] at ho
 have hl1 : ((o.t.ids.set j id).take k).length = k := by rw [List.length_take, List.length_set]; omega
 have hl2 : ((o.t.rows.set j r).take k).length = k := by rw [List.length_take, List.length_set]; omega
 have q1 := owns_part (k := k) (ids_write (j := j) id ho.1) (by omega)
 rw [Nat.mul_one, ← List.map_take] at q1
 have hO1 := own_ids (ids' := (o.t.ids.set j id).take k) (iv' := .slice (some ⟨gi, 0, none⟩) k ic) h hn (by rw [hiv]; exact grown_set W gi j (.int .i64 id)) (by rw [hl1]; exact q1) (Or.inl (by rw [hiv]; rfl))
 have hn1 : n = (A ++ (⟨⟨o.t.mask, (o.t.ids.set j id).take k, o.t.rows⟩, .slice (some ⟨gi, 0, none⟩) k ic, o.rv⟩ : OT) :: C).length := by rw [hn]; simp
 have q2 : ((W.setCell ⟨gi, j, none⟩ (.int .i64 id)).setCell ⟨g, A.length * 3 + 1, none⟩ (.slice (some ⟨gi, 0, none⟩) k ic)).ownsRow B 34 8 (.slice (some ⟨gr, 0, none⟩) (k + 1) rc) (k + 1) (o.t.rows.flatMap rowCells) :=
  owns_set (owns_set ho.2 (by simp [Value.ownBlock]; omega) _ _) (by simp [Value.ownBlock]; exact hrg) _ _
 have q3 := owns_part (k := k) (rows_write (j := j) r hr hj q2) (by omega)
 have q4 : ((o.t.rows.set j r).flatMap rowCells).take (k * 8) = ((o.t.rows.set j r).take k).flatMap rowCells := by
  have e := List.take_append_drop k (o.t.rows.set j r)
  conv => lhs; rw [← e]
  rw [List.flatMap_append, List.take_append_of_le_length (by rw [rows_length, hl2]; exact Nat.le_refl _), List.take_of_length_le (by rw [rows_length, hl2]; exact Nat.le_refl _)]
 rw [q4] at q3
 have hO2 := own_rows (rows' := (o.t.rows.set j r).take k) (rv' := .slice (some ⟨gr, 0, none⟩) k rc) hO1 hn1 (by rw [hrv]; exact grown_row8 _ gr j r) (by rw [hl2]; exact q3) (Or.inl (by rw [hrv]; rfl))
 rw [setRow8_comm _ _ _ _ _ (Ne.symm hrg)]
 exact hO2
theorem own_less {W w1 : World} {B g n c : Nat} {A C : List OT} {o : OT} (h : Own W B (.slice (some ⟨g, 0, none⟩) n c) (A ++ o :: C)) (hn : n = (A ++ o :: C).length) (hg : W.grownBy w1 (some g)) (hr : w1.ownsRow B 65 3 (.slice (some ⟨g, 0, none⟩) (n - 1) c) (n - 1) (tabCells A ++ tabCells C)) :
  Own w1 B (.slice (some ⟨g, 0, none⟩) (n - 1) c) (A ++ C) := by
 have hl : n - 1 = (A ++ C).length := by rw [hn]; simp
 have hnd : (g :: blocks (A ++ o :: C)).Nodup := by simpa [Value.ownBlock] using h.2.2
 have hgn := (List.nodup_cons.1 hnd).1
 refine ⟨?_, ?_, ?_⟩
 ·rw [← hl]
  simpa [tabCells] using hr
 ·intro x hx
  have hx' : x ∈ A ++ o :: C := by
   rcases List.mem_append.1 hx with hx | hx
   ·exact List.mem_append.2 (Or.inl hx)
   ·exact List.mem_append.2 (Or.inr (List.mem_cons_of_mem _ hx))
  exact otOwn_kept (h.2.1 x hx') hg (fun z hz e => hgn (by cases e; exact List.mem_flatMap.2 ⟨x, hx', hz⟩))
 ·have hs : (g :: blocks (A ++ C)).Sublist (g :: blocks (A ++ o :: C)) := by
   refine List.Sublist.cons_cons _ ?_
   rw [blocks_mid]
   simp only [blocks, List.flatMap_append]
   exact (List.Sublist.refl _).append (List.sublist_append_right _ _)
  simpa [Value.ownBlock] using hnd.sublist hs
end St
namespace St
open Num
open Go.ChangeShapes Go.WideShapes Go.ChangeAt Go.RowKit
set_option maxHeartbeats 20000000 in
set_option maxRecDepth 100000 in
theorem takeOut_own (g n c : Nat) (next : Int) (B : Nat) (A C : List OT) (o : OT) (j k : Nat) (id : Int) (r : R8) (w : World) (hN : n = (A ++ o :: C).length) (hB : B ≤ w.heap.size) (hz : n ≤ 1000) (hi : o.t.ids.length = k + 1) (hr : o.t.rows.length = k + 1) (hk : k ≤ 1000) (hj : j ≤ k)
  (hid' : o.t.ids[k]? = some id) (hrow : o.t.rows[k]? = some r) (hown : Own w B (.slice (some ⟨g, 0, none⟩) n c) (A ++ o :: C)) :
  Calls Tryz.prog 62 #[.agg #[.slice (some ⟨g, 0, none⟩) n c, .int .i64 next], .agg #[.int .i64 (A.length : Nat), .int .i64 j]] w fun e w' =>
   (∃ v, e = .returned (.agg #[v, .int .i64 next]) ∧ ∃ S', Own w' B v S' ∧ S'.map (·.t) = if k = 0 then (A ++ C).map (·.t) else A.map (·.t) ++ cutT j k id r o.t :: C.map (·.t)) ∧ Below B w w' ∧ Keep w w' := by
 have hAn : A.length < n := by rw [hN]; simp
 have hO := hown.2.1 o (by simp)
 rw [OtOwn, hi, hr] at hO
 obtain ⟨gi, ic, hiv⟩ := own_some hO.1 (by omega)
 obtain ⟨gr, rc, hrv⟩ := own_some hO.2 (by omega)
 have HO := hid hown
 have HI := hid hO.1
 have HR := hid hO.2
 have HN := hid hN
 have HB := hid (BoxT.made w (.slice (some ⟨g, 0, none⟩) n c) next (A.length : Nat) j)
 have HOW := hid (hown.below (bal (bal (bal (Below.refl _ _) (.cells #[.slice (some ⟨g, 0, none⟩) n c, .int .i64 next] 43)) (.cells #[.int .i64 (A.length : Nat), .int .i64 j] 99)) (.cells #[.slice none 0 0, .int .i64 0] 43)))
 have HBL := hid ((bal (bal (bal (Below.refl _ _) (.cells #[.slice (some ⟨g, 0, none⟩) n c, .int .i64 next] 43)) (.cells #[.int .i64 (A.length : Nat), .int .i64 j] 99)) (.cells #[.slice none 0 0, .int .i64 0] 43) : Below w.heap.size w _).mono hB)
 have HKW := hid ((((Keep.refl w).alloc (.cells #[.slice (some ⟨g, 0, none⟩) n c, .int .i64 next] 43)).alloc (.cells #[.int .i64 (A.length : Nat), .int .i64 j] 99)).alloc (.cells #[.slice none 0 0, .int .i64 0] 43))
 clear hown hO hN
 go_enter Tryz.func62, Tryz.ntmps62
 generalize hWE : ((w.alloc (.cells #[.slice (some ⟨g, 0, none⟩) n c, .int .i64 next] 43)).alloc (.cells #[.int .i64 (A.length : Nat), .int .i64 j] 99)).alloc (.cells #[.slice none 0 0, .int .i64 0] 43) = W at HB HOW HBL HKW
 obtain ⟨x0, x1, x2, x3, x4, x5, x6, x7, x8⟩ := HB.out.cells
 obtain ⟨t0, t1, t2⟩ := HOW.out.cell HN.out
 rw [hiv] at t1
 rw [hrv] at t2
 have HOO : Hid (W.ownsRow B 3 1 (.slice (some ⟨gi, 0, none⟩) (k + 1) ic) (k + 1) (o.t.ids.map (Value.int .i64)) ∧ W.ownsRow B 34 8 (.slice (some ⟨gr, 0, none⟩) (k + 1) rc) (k + 1) (o.t.rows.flatMap rowCells)) := by
  have := HOW.out.2.1 o (by simp)
  rw [OtOwn, hi, hr, hiv, hrv] at this
  exact hid this
 have i0 : W.cell? ⟨gi, k, none⟩ = some (.int .i64 id) := by
  rw [HOO.out.1.cellAt _ (by omega), List.getElem?_map, hid']; rfl
 obtain ⟨r0, r1, r2, r3, r4, r5, r6, r7⟩ := row_at HOO.out.2 hrow
 have hwk : IntKind.i64.wrap (k : Int) = k := by rw [IntKind.wrap_i64]; omega
 have hAz : (A.length : Int) < (n : Int) := by omega
 have hjk : (j : Int) < (k : Int) + 1 := by omega
 have hkk : (k : Int) < (k : Int) + 1 := by omega
 have HIV := hid hiv
 have HRV := hid hrv
 have HI1 := hid hi
 have HR1 := hid hr
 have HID := hid hid'
 have HRW := hid hrow
 clear hiv hrv hi hr hid' hrow
 obtain ⟨idj, hidj⟩ : ∃ u, o.t.ids[j]? = some u := ⟨_, List.getElem?_eq_getElem (by have := HI1.out; omega)⟩
 obtain ⟨rj, hrj⟩ : ∃ u, o.t.rows[j]? = some u := ⟨_, List.getElem?_eq_getElem (by have := HR1.out; omega)⟩
 have ij : W.cell? ⟨gi, j, none⟩ = some (.int .i64 idj) := by
  rw [HOO.out.1.cellAt _ (by omega), List.getElem?_map, hidj]; rfl
 obtain ⟨s0, s1, s2, s3, s4, s5, s6, s7⟩ := row_at HOO.out.2 hrj
 clear hidj hrj
 have hne := own_ne HOW.out
 rw [HIV.out, HRV.out] at hne
 have hig : gi ≠ g := fun e => hne.1 (by rw [e]; rfl)
 have hrg : gr ≠ g := fun e => hne.2 (by rw [e]; rfl)
 have hir : gi ≠ gr := fun e => by
  have h3 := HOW.out.2.2
  rw [blocks_mid, otBlocks, HIV.out, HRV.out, e] at h3
  have : ([gr, gr] : List Nat).Nodup := h3.sublist (by simp only [Value.ownBlock, Option.toList_some]; exact (List.sublist_append_left [gr, gr] _).trans ((List.sublist_append_right _ _).trans (List.sublist_append_right _ _)))
  simp at this
 clear hne
 have fi : W.frozen? ⟨gi, j, none⟩ = false := HOO.out.1.frozenAt j
 have f0 : W.frozen? ⟨gr, j * 8, none⟩ = false := HOO.out.2.frozenAt (j * 8)
 have f1 : W.frozen? ⟨gr, j * 8 + 1, none⟩ = false := HOO.out.2.frozenAt (j * 8 + 1)
 have f2 : W.frozen? ⟨gr, j * 8 + 2, none⟩ = false := HOO.out.2.frozenAt (j * 8 + 2)
 have f3 : W.frozen? ⟨gr, j * 8 + 3, none⟩ = false := HOO.out.2.frozenAt (j * 8 + 3)
 have f4 : W.frozen? ⟨gr, j * 8 + 4, none⟩ = false := HOO.out.2.frozenAt (j * 8 + 4)
 have f5 : W.frozen? ⟨gr, j * 8 + 5, none⟩ = false := HOO.out.2.frozenAt (j * 8 + 5)
 have f6 : W.frozen? ⟨gr, j * 8 + 6, none⟩ = false := HOO.out.2.frozenAt (j * 8 + 6)
 have f7 : W.frozen? ⟨gr, j * 8 + 7, none⟩ = false := HOO.out.2.frozenAt (j * 8 + 7)
 have hgiw : gi < w.heap.size := (HI.out.lt gi (by rw [HIV.out]; rfl)).2
 have hgrw : gr < w.heap.size := (HR.out.lt gr (by rw [HRV.out]; rfl)).2
 have hgiB : B ≤ gi := (HI.out.lt gi (by rw [HIV.out]; rfl)).1
 have hgrB : B ≤ gr := (HR.out.lt gr (by rw [HRV.out]; rfl)).1
 have hgB : B ≤ g := (HO.out.1.lt g rfl).1
 have hkic : k ≤ ic := by
  rcases HOO.out.1.2 with ⟨e, _⟩ | ⟨_, _, _, e, _, _, q, _⟩ <;> cases e
  omega
 have hkrc : k ≤ rc := by
  rcases HOO.out.2.2 with ⟨e, _⟩ | ⟨_, _, _, e, _, _, q, _⟩ <;> cases e
  omega
 have hgW : g < W.heap.size := (HOW.out.1.lt g rfl).2
 have hgw : g < w.heap.size := (HO.out.1.lt g rfl).2
 have hri : gr ≠ gi := fun e => hir e.symm
 have hip : gi ≠ w.heap.size + 1 := by omega
 have hrp : gr ≠ w.heap.size + 1 := by omega
 go_wp2_with fail
 go_cut [] (fun wx => wx = (setRow8 (W.setCell ⟨gi, j, none⟩ (.int .i64 id)) gr j r).drew)
 case first =>
  go_region
  all_goals
   go_wp2_with fail
   go_meet
   all_goals rfl
 case rest =>
 obtain rfl := hcut
 have HOC := hid (own_cut id r HOW.out HN.out HIV.out HRV.out HI1.out HR1.out hj hrg hir)
 have HB1 := hid (((HB.out.set (x := gi) (Or.inl hgiw) j (.int .i64 id)).grown (grown_row8 _ gr j r) (fun x e => by cases e; exact Or.inl hgrw)))
 have HBL1 := hid (((HBL.out.setCell (p := ⟨gi, j, none⟩) (show B ≤ gi from hgiB) (.int .i64 id)).grown (grown_row8 _ gr j r) (by simp; omega) (fun x e => by cases e; exact hgrB)))
 have HK1 := hid ((HKW.out.set (g := gi) (kind_of HOO.out.1 (by decide) gi rfl) j (.int .i64 id)).grown (grown_row8 _ gr j r) (by intro x e; cases e; exact kind_of (owns_set HOO.out.2 (by simp [Value.ownBlock]; exact hri) _ _) (by decide) gr rfl))
 have hbg : (setRow8 (W.setCell ⟨gi, j, none⟩ (.int .i64 id)) gr j r).heap[g]? = W.heap[g]? :=
  ((grown_row8 (W.setCell ⟨gi, j, none⟩ (.int .i64 id)) gr j r).block g (by simpa using hgW) (by simp; exact fun e => hrg e.symm)).trans ((grown_set W gi j (.int .i64 id)).block g hgW (by simp; exact fun e => hig e.symm))
 have c1 := (World.cell?_of_block (a := ⟨g, A.length * 3 + 1, none⟩) hbg).trans t1
 have c2 := (World.cell?_of_block (a := ⟨g, A.length * 3 + 2, none⟩) hbg).trans t2
 have d1 := (World.frozen?_of_block (a := ⟨g, A.length * 3 + 1, none⟩) hbg).trans (HOW.out.frozen HN.out (A.length * 3 + 1))
 have d2 := (World.frozen?_of_block (a := ⟨g, A.length * 3 + 2, none⟩) hbg).trans (HOW.out.frozen HN.out (A.length * 3 + 2))
 have hKg : Hid (∃ c e' fz, (setRow8 (W.setCell ⟨gi, j, none⟩ (.int .i64 id)) gr j r).heap[g]? = some (.cells c e' fz) ∧ e' ≠ 43) := by
  obtain ⟨c, e', fz, h1, h2⟩ := kind_of HOW.out.1 (by decide) g rfl
  exact hid ⟨c, e', fz, hbg.trans h1, h2⟩
 generalize setRow8 (W.setCell ⟨gi, j, none⟩ (.int .i64 id)) gr j r = W1 at HOC HB1 HBL1 HK1 c1 c2 d1 d2 hKg ⊢
 clear x0 x1 x2 x3 x4 x5 x6 x7 x8 t0 t1 t2 i0 r0 r1 r2 r3 r4 r5 r6 r7 ij s0 s1 s2 s3 s4 s5 s6 s7 fi f0 f1 f2 f3 f4 f5 f6 f7 hbg
 go_wp2_with fail
 go_cut [] (fun wx => wx = ((W1.setCell ⟨g, A.length * 3 + 1, none⟩ (.slice (some ⟨gi, 0, none⟩) k ic)).setCell ⟨g, A.length * 3 + 2, none⟩ (.slice (some ⟨gr, 0, none⟩) k rc)).drew.drew)
 case first =>
  go_region
  all_goals
   go_wp2_with fail
   go_meet
   all_goals rfl
 case rest =>
 obtain rfl := hcut
 have hgr : W1.grownBy ((W1.setCell ⟨g, A.length * 3 + 1, none⟩ (.slice (some ⟨gi, 0, none⟩) k ic)).setCell ⟨g, A.length * 3 + 2, none⟩ (.slice (some ⟨gr, 0, none⟩) k rc)) (some g) := (grown_set W1 g _ _).trans (grown_set _ g _ _)
 have HB2 := hid (HB1.out.grown hgr (fun x e => by cases e; exact Or.inl hgw))
 have HBL2 := hid (HBL1.out.grown hgr (by have := HBL1.out.size; omega) (fun x e => by cases e; exact hgB))
 have HK2 := hid (HK1.out.grown hgr (fun x e => by cases e; exact hKg.out))
 clear hgr
 generalize ((W1.setCell ⟨g, A.length * 3 + 1, none⟩ (.slice (some ⟨gi, 0, none⟩) k ic)).setCell ⟨g, A.length * 3 + 2, none⟩ (.slice (some ⟨gr, 0, none⟩) k rc)) = W2 at HOC HB2 HBL2 HK2 ⊢
 clear c1 c2 d1 d2 hKg HB1 HBL1 HK1 HOO HOW HB HBL HKW HI HR HO
 obtain ⟨x0, x1, x2, x3, x4, x5, x6, x7, x8⟩ := HB2.out.cells
 have hN2 : Hid (n = (A ++ (⟨cutT j k id r o.t, .slice (some ⟨gi, 0, none⟩) k ic, .slice (some ⟨gr, 0, none⟩) k rc⟩ : OT) :: C).length) := hid (by rw [HN.out]; simp)
 by_cases hk0 : k = 0
 ·have hq : ((k : Int) == 0) = true := by simp [hk0]
  have HK0 := hid hk0
  clear hk0
  have hA1 : (A.length : Int) ≤ 1000 := by omega
  go_wp2_with fail
  have hdel := delete_at g n c A.length B (tabCells (A ++ (⟨cutT j k id r o.t, .slice (some ⟨gi, 0, none⟩) k ic, .slice (some ⟨gr, 0, none⟩) k rc⟩ : OT) :: C)) W2.drew.drew hAn (by have h := HOC.out.1; rw [← hN2.out] at h; exact h) HOC.out.one
  refine hdel.mono ?_
  clear hdel
  rintro e w3 ⟨rfl, hown3, hg3⟩
  replace hg3 := grown_drew (grown_drew hg3)
  have HB3 := hid (HB2.out.grown (row := some g) hg3 (fun x e => by cases e; exact Or.inl hgw))
  have HBL3 := hid (HBL2.out.grown (row := some g) hg3 (by have := HBL2.out.size; omega) (fun x e => by cases e; exact hgB))
  have HK3 := hid (HK2.out.grown (row := some g) hg3 (fun x e => by cases e; exact kind_of HOC.out.1 (by decide) g rfl))
  have HO3 : Hid (Own w3 B (.slice (some ⟨g, 0, none⟩) (n - 1) c) (A ++ C)) := by
   refine hid (own_less (W := W2) HOC.out hN2.out hg3 ?_)
   have e1 : (tabCells (A ++ (⟨cutT j k id r o.t, .slice (some ⟨gi, 0, none⟩) k ic, .slice (some ⟨gr, 0, none⟩) k rc⟩ : OT) :: C)).take (A.length * 3) = tabCells A := by
    rw [tabCells_mid, List.take_append_of_le_length (by rw [tabCells_length]; exact Nat.le_refl _), List.take_of_length_le (by rw [tabCells_length]; exact Nat.le_refl _)]
   have e2 : (tabCells (A ++ (⟨cutT j k id r o.t, .slice (some ⟨gi, 0, none⟩) k ic, .slice (some ⟨gr, 0, none⟩) k rc⟩ : OT) :: C)).drop ((A.length + 1) * 3) = tabCells C := by
    rw [tabCells_mid, List.drop_append, List.drop_of_length_le (by rw [tabCells_length]; omega), tabCells_length, show (A.length + 1) * 3 - A.length * 3 = 3 by omega]
    rfl
   rw [e1, e2] at hown3
   exact hown3
  clear hown3 hg3 x0 x1 x2 x3 x4 x5 x6 x7 x8
  obtain ⟨x0, x1, x2, x3, x4, x5, x6, x7, x8⟩ := HB3.out.cells
  go_wp2_with fail
  have hns := own_not_box HO3.out HB3.out.s (by decide)
  have hnr := own_not_box HO3.out HB3.out.res (by decide)
  refine bodyPost_ret (v := .agg #[.slice (some ⟨g, 0, none⟩) (n - 1) c, .int .i64 next]) (by simp [results, Tryz.results62, go_sem, x3, x4]) rfl ⟨⟨_, rfl, _, ((HO3.out.set' hns 0 _).set' hnr 0 _).set' hnr 1 _, ?_⟩, ?_, ?_⟩
  ·simp
  ·refine Below.setCell ?_ (by have := HBL3.out.size; simp; omega) _
   refine Below.setCell ?_ (by have := HBL3.out.size; simp; omega) _
   refine Below.setCell ?_ (by have := HBL3.out.size; simp; omega) _
   exact HBL3.out
  ·exact ((HK3.out.setNew (g := w.heap.size) (by omega) 0 _).setNew (g := w.heap.size + 2) (by omega) 0 _).setNew (g := w.heap.size + 2) (by omega) 1 _
 ·have hq : ((k : Int) == 0) = false := by simp; omega
  have HK0 := hid hk0
  clear hk0
  go_wp2_with fail
  have hnr := own_not_box HOC.out HB2.out.res (by decide)
  refine bodyPost_ret (v := .agg #[.slice (some ⟨g, 0, none⟩) n c, .int .i64 next]) (by simp [results, Tryz.results62, go_sem, x3, x4]) rfl ⟨⟨_, rfl, _, ((HOC.out.below (Below.drew (Below.drew (Below.refl _ W2)))).set' hnr 0 _).set' hnr 1 _, ?_⟩, ?_, ?_⟩
  ·simp
  ·refine Below.drew (Below.drew ?_)
   refine Below.setCell ?_ (by have := HBL2.out.size; simp; omega) _
   refine Below.setCell ?_ (by have := HBL2.out.size; simp; omega) _
   exact HBL2.out
  ·exact ((HK2.out.setNew (g := w.heap.size + 1 + 1) (by omega) 0 _).setNew (g := w.heap.size + 1 + 1) (by omega) 1 _).drew.drew
end St
namespace St
open Num
open Go.ChangeShapes Go.WideShapes Go.ChangeAt Go.RowKit
def KillOut (next v : Int) (L : List Tab) (ec : Int) (L' : List Tab) : Prop :=
 (ec = 1 ∧ ¬ GoodL next L ∧ L' = L) ∨ (ec = 3 ∧ GoodL next L ∧ v ∉ allL L ∧ L' = L) ∨ (ec = 0 ∧ GoodL next L ∧ v ∈ allL L ∧ L' = killT v L)
set_option maxHeartbeats 1000000 in
set_option maxRecDepth 100000 in
theorem kill_any (a : Option Addr) (n cap : Nat) (next v : Int) (T : Nat → TabV) (I : Nat → Nat → Int) (R : Nat → Nat → R8) (w : World) (h : StoreIn w a n T I R) :
  Calls Tryz.prog 33 #[.agg #[.slice a n cap, .int .i64 next], .int .i64 v] w fun e w' =>
   (∃ u ec, e = .returned (.tuple #[.agg #[u, .int .i64 next], .int .i64 ec]) ∧ ∃ S, Own w' w.heap.size u S ∧ KillOut next v (plainOf T I R n) ec (S.map (·.t))) ∧ Below w.heap.size w w' := by
 have HST := hid h
 clear h
 go_enter Tryz.func33, Tryz.ntmps33
 go_wp2_with fail
 refine (clone_any a n cap next T I R _ (HST.out.below (bal (bal (Below.refl _ _) _) _)).tabs (HST.out.below (bal (bal (Below.refl _ _) _) _)).ids (HST.out.below (bal (bal (Below.refl _ _) _) _)).rows HST.out.fits).mono ?_
 rintro e w1 ⟨⟨u, rfl, S, hown, hpl⟩, hb1⟩
 obtain ⟨a', c', rfl⟩ := own_form hown.1
 obtain ⟨N, hN⟩ : ∃ N, N = S.length := ⟨_, rfl⟩
 rw [← hN] at hown ⊢
 have HN := hid hN
 clear hN
 have hs := hid (rowIs_below ((rowIs2 w (.slice a n cap) (.int .i64 next) 43).alloc (.cells #[.slice none 0 0, .int .i64 0] 43)) hb1)
 have hr := hid (rowIs_below (rowIs2 (w.alloc (.cells #[.slice a n cap, .int .i64 next] 43)) (.slice none 0 0) (.int .i64 0) 43) hb1)
 rw [World.size_alloc] at hr
 have hz1 := hb1.size
 simp at hz1
 have hbw := hid (bcall (bal (bal (Below.refl _ _) _) _) hb1)
 simp only [World.size_alloc] at hown
 have HO := hid hown
 have HPL := hid hpl
 clear hown hpl hb1
 have x0 := hs.out.cell (i := 0) (by omega)
 have x1 := hs.out.cell (i := 1) (by omega)
 simp at x0 x1
 have hs1 : w.heap.size < w1.heap.size := by omega
 go_wp2_with fail
 have hsA := hid (hs.out.alloc (.cells #[.slice a' N c', .int .i64 next] 43))
 have hrA := hid (hr.out.alloc (.cells #[.slice a' N c', .int .i64 next] 43))
 have hoA := hid (rowIs2 w1 (.slice a' N c') (.int .i64 next) 43)
 have HOA := hid (HO.out.below (bal (Below.refl _ _) (.cells #[.slice a' N c', .int .i64 next] 43)))
 refine (seek_any a n cap next v T I R _ (HST.out.below (bcall hbw.out (bal (Below.refl _ _) _)))).mono ?_
 rintro e w2 ⟨he, hb2⟩
 have hr2 := hid (rowIs_below hrA.out hb2)
 have ho2 := hid (rowIs_below hoA.out hb2)
 have HO2 := hid (HOA.out.below hb2)
 have hbw2 := hid (bcall (bcall hbw.out (bal (Below.refl _ _) _)) hb2)
 have hz2 := hb2.size
 simp at hz2
 clear hb2 hs hr HO hbw x0 x1 hsA hrA hoA HOA
 have y0 := hr2.out.cell (i := 0) (by omega)
 have y1 := hr2.out.cell (i := 1) (by omega)
 have yf0 := hr2.out.frozen 0
 have yf1 := hr2.out.frozen 1
 have o0 := ho2.out.cell (i := 0) (by omega)
 have o1 := ho2.out.cell (i := 1) (by omega)
 simp at y0 y1 o0 o1
 have hne2 : w.heap.size + 1 ≠ w1.heap.size := by omega
 have hw12 : w1.heap.size < w2.heap.size := by omega
 have hw02 : w.heap.size + 1 < w2.heap.size := by omega
 have hfin : Hid (∀ (W : World) (ec : Int), Own W (w.heap.size + 1 + 1) (.slice a' N c') S → W.rowIs (w.heap.size + 1) 43 2 (fun i => if i = 0 then .slice none 0 0 else .int .i64 0) → Own ((W.setCell ⟨w.heap.size + 1, 0, none⟩ (.slice a' N c')).setCell ⟨w.heap.size + 1, 1, none⟩ (.int .i64 next)) w.heap.size (.slice a' N c') S) := by
  refine hid (fun W _ ho hb => ?_)
  have hb1 := own_not_box ho hb (by decide)
  have h2 := (ho.set' hb1 0 (.slice a' N c')).set' hb1 1 (.int .i64 next)
  exact ⟨owns_mono h2.1 (by omega), fun o hm => ⟨owns_mono (h2.2.1 o hm).1 (by omega), owns_mono (h2.2.1 o hm).2 (by omega)⟩, h2.2.2⟩
 rcases he with ⟨rfl, hg⟩ | ⟨rfl, hg, hno⟩ | ⟨i, j, rfl, hg, hi, hj, hv⟩
 ·have HG := hid hg
  clear hg
  go_wp2_with fail
  refine bodyPost_ret (v := .tuple #[.agg #[.slice a' N c', .int .i64 next], .int .i64 1]) (by simp [results, Tryz.results33, go_sem, y0, y1, hw02]) rfl ⟨⟨_, _, rfl, S, (hfin.out _ 1 HO2.out hr2.out).below (bal (Below.refl _ _) _), Or.inl ⟨rfl, HG.out, HPL.out⟩⟩, ?_⟩
  refine bal ?_ _
  refine Below.setCell ?_ (by simp) _
  refine Below.setCell ?_ (by simp) _
  exact hbw2.out
 ·have HG := hid (And.intro hg hno)
  clear hg hno
  go_wp2_with fail
  refine bodyPost_ret (v := .tuple #[.agg #[.slice a' N c', .int .i64 next], .int .i64 3]) (by simp [results, Tryz.results33, go_sem, y0, y1, hw02]) rfl ⟨⟨_, _, rfl, S, (hfin.out _ 3 HO2.out hr2.out).below (bal (Below.refl _ _) _), Or.inr (Or.inl ⟨rfl, HG.out.1, noneTo_iff.1 HG.out.2, HPL.out⟩)⟩, ?_⟩
  refine bal ?_ _
  refine Below.setCell ?_ (by simp) _
  refine Below.setCell ?_ (by simp) _
  exact hbw2.out
 ·obtain ⟨A, o, C, rfl, hAl, hoj, hot⟩ := split_own HPL.out hi hj hv
  have hL : (A ++ o :: C).map (·.t) = A.map (·.t) ++ o.t :: C.map (·.t) := by simp
  have hgl : GoodL next ((A ++ o :: C).map (·.t)) := by rw [HPL.out]; exact hg
  obtain ⟨k, lst, q, rk, hsp⟩ := spot_of hgl.even hL hoj
  obtain ⟨hn31, -⟩ := goodL_n (fun i hi => (HST.out.hz i hi).1) hg
  have hNl : (A ++ o :: C).length = n := by have := congrArg List.length HPL.out; simpa [plainOf] using this
  have hk10 : k ≤ 9 := by
   have h1 := len_le hgl.2.1 _ (List.mem_map.2 ⟨o, by simp, rfl⟩)
   have h2 := hsp.il
   have h3 := hgl.2.1
   rw [hL, allL_mid] at h3
   simp at h3
   omega
  have hN31 : N ≤ 31 := by have := HN.out; omega
  obtain ⟨g, c, hgc⟩ := own_some (n := N) (v := .slice a' N c') (by have := HO2.out.1; rw [← HN.out] at this; exact this) (by rw [HN.out, List.length_append, List.length_cons]; omega)
  simp only [Value.slice.injEq] at hgc
  obtain ⟨rfl, -, rfl⟩ := hgc
  have HT : Hid (∀ W : World, Own W (w.heap.size + 1 + 1) (.slice (some ⟨g, 0, none⟩) N c') (A ++ o :: C) → w.heap.size + 1 + 1 ≤ W.heap.size → Calls Tryz.prog 62 #[.agg #[.slice (some ⟨g, 0, none⟩) N c', .int .i64 next], .agg #[.int .i64 (i : Nat), .int .i64 j]] W fun e w' =>
    (∃ u, e = .returned (.agg #[u, .int .i64 next]) ∧ ∃ S', Own w' (w.heap.size + 1 + 1) u S' ∧ S'.map (·.t) = killT v (plainOf T I R n)) ∧ Below (w.heap.size + 1 + 1) W w' ∧ Keep W w') := by
   refine hid (fun W ho hs => ?_)
   have ht := takeOut_own g N c' next (w.heap.size + 1 + 1) A C o j k lst rk W HN.out hs (by omega) hsp.il hsp.rl (by omega) hsp.lt hsp.li hsp.lr ho
   rw [hAl] at ht
   refine ht.mono ?_
   rintro e w' ⟨⟨u, rfl, S', ho', hm'⟩, hb'⟩
   refine ⟨⟨u, rfl, S', ho', ?_⟩, hb'⟩
   rw [hm', ← HPL.out, hL, killT_eq (by rw [← hL]; exact hgl.2.2.2.2.2) hoj hsp.il hsp.rl hsp.li hsp.lr]
   unfold takeL
   simp
  have hmem : Hid (v ∈ allL (plainOf T I R n)) := hid (by rw [← HPL.out, hL, allL_mid]; exact List.mem_append.2 (Or.inr (List.mem_append.2 (Or.inl (List.mem_of_getElem? hoj)))))
  have HG := hid hg
  clear hg hgl hsp hoj hot hL hi hj hv hNl hAl
  go_wp2_with fail
  refine (HT.out _ (HO2.out.below (bal (Below.refl _ _) _)) (by simp; omega)).mono ?_
  rintro e w3 ⟨⟨u, rfl, S', ho3, hm3⟩, hb3, hk3⟩
  obtain ⟨a3, c3, rfl⟩ := own_form ho3.1
  have hr3 := hid (hk3 _ _ _ (hr2.out.alloc _))
  have HO3 := hid ho3
  have HM3 := hid hm3
  have HB3 := hid ((bal hbw2.out _).trans (hb3.mono (by omega)))
  clear ho3 hm3 hb3 hk3 y0 y1 yf0 yf1 o0 o1
  have y0 := hr3.out.cell (i := 0) (by omega)
  have y1 := hr3.out.cell (i := 1) (by omega)
  have yf0 := hr3.out.frozen 0
  have yf1 := hr3.out.frozen 1
  simp at y0 y1
  go_wp2_with fail
  refine bodyPost_ret (v := .tuple #[.agg #[.slice a3 S'.length c3, .int .i64 next], .int .i64 0]) (by simp [results, Tryz.results33, go_sem, y0, y1]) rfl ⟨⟨_, _, rfl, S', ?_, Or.inr (Or.inr ⟨rfl, HG.out, hmem.out, HM3.out⟩)⟩, ?_⟩
  ·have hb1 := own_not_box HO3.out hr3.out (by decide)
   have h2 := (HO3.out.set' hb1 0 (.slice a3 S'.length c3)).set' hb1 1 (.int .i64 next)
   exact ⟨owns_mono h2.1 (by omega), fun o hm => ⟨owns_mono (h2.2.1 o hm).1 (by omega), owns_mono (h2.2.1 o hm).2 (by omega)⟩, h2.2.2⟩
  ·refine Below.setCell ?_ (by simp) _
   refine Below.setCell ?_ (by simp) _
   exact HB3.out
end St
end Go.Proofs.YtckkkdldljhehacGreat
