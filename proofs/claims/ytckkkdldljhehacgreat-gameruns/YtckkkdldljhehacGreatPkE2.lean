/- Part of the proofs of GamePlays and GameRuns (package ninepinslaw): contracts of the functions that they call. -/
import Derived.BigRegion
import Derived.Deep.DeepCutAuto
import Derived.Deep.DrawnRows
import Derived.Test.YtckkkdldljhehacGreatPkD
import Derived.Test.YtckkkdldljhehacGreatPkE1
namespace Go.Proofs.YtckkkdldljhehacGreat
namespace St
open Num
open Go.ChangeShapes Go.WideShapes Go.ChangeAt Go.RowKit
def SetOut (next v : Int) (r : R8) (L : List Tab) (ec : Int) (L' : List Tab) : Prop :=
 (ec = 1 ∧ ¬ GoodL next L ∧ L' = L) ∨ (ec = 3 ∧ GoodL next L ∧ v ∉ allL L ∧ L' = L) ∨
 (ec = 2 ∧ GoodL next L ∧ (∃ m q, At L v m q ∧ goodRowB m r = false) ∧ L' = L) ∨ (ec = 0 ∧ GoodL next L ∧ (∃ m q, At L v m q ∧ goodRowB m r = true) ∧ L' = setL v r L)
theorem Own.kept {w w' : World} {B g : Nat} {v : Value} {S : List OT} (h : Own w B v S) (hg : w.grownBy w' (some g)) (hlt : g < B) : Own w' B v S := by
 have hb := blocks_lt h.2.1
 refine ⟨owns_kept h.1 hg (fun z hz e => by have := h.1.lt z hz; cases e; omega), fun o ho => otOwn_kept (h.2.1 o ho) hg (fun z hz e => ?_), h.2.2⟩
 have := hb z (List.mem_flatMap.2 ⟨o, ho, hz⟩)
 cases e
 omega
theorem own_write {W : World} {B g n c : Nat} {A C : List OT} {o : OT} {gr rc j k : Nat} (r : R8) (h : Own W B (.slice (some ⟨g, 0, none⟩) n c) (A ++ o :: C)) (hrv : o.rv = .slice (some ⟨gr, 0, none⟩) (k + 1) rc) (hr : o.t.rows.length = k + 1) (hj : j ≤ k) :
  Own (setRow8 W gr j r) B (.slice (some ⟨g, 0, none⟩) n c) (A ++ ⟨⟨o.t.mask, o.t.ids, o.t.rows.set j r⟩, o.iv, o.rv⟩ :: C) := by
 obtain ⟨h1, h2, h3⟩ := h
 have hg := grown_row8 W gr j r
 have hap : ((g :: blocks A ++ o.iv.ownBlock.toList) ++ [gr] ++ blocks C).Nodup := by
  have : o.rv.ownBlock = some gr := by rw [hrv]; rfl
  have h4 := h3
  rw [blocks_mid, otBlocks, this] at h4
  simpa [Value.ownBlock] using h4
 have hrow : ∀ z, z ∈ (g :: blocks A ++ o.iv.ownBlock.toList) ∨ z ∈ blocks C → some gr ≠ some z := by
  intro z hz e
  cases e
  rw [List.append_assoc, List.nodup_append] at hap
  obtain ⟨_, hq, hd⟩ := hap
  rw [List.nodup_append] at hq
  rcases hz with hz | hz
  ·exact hd gr hz gr (List.mem_append.2 (Or.inl (by simp))) rfl
  ·exact hq.2.2 gr (by simp) gr hz rfl
 have ec : tabCells (A ++ (⟨⟨o.t.mask, o.t.ids, o.t.rows.set j r⟩, o.iv, o.rv⟩ : OT) :: C) = tabCells (A ++ o :: C) := by rw [tabCells_mid, tabCells_mid]; rfl
 have eb : blocks (A ++ (⟨⟨o.t.mask, o.t.ids, o.t.rows.set j r⟩, o.iv, o.rv⟩ : OT) :: C) = blocks (A ++ o :: C) := by rw [blocks_mid, blocks_mid]; rfl
 have el : (A ++ (⟨⟨o.t.mask, o.t.ids, o.t.rows.set j r⟩, o.iv, o.rv⟩ : OT) :: C).length = (A ++ o :: C).length := by simp
 refine ⟨?_, ?_, by rw [eb]; exact h3⟩
 ·rw [ec, el]
  exact owns_kept h1 hg (fun z hz => hrow z (Or.inl (by simp [Value.ownBlock] at hz; simp [hz])))
 ·intro x hx
  rcases List.mem_append.1 hx with hx | hx
  ·have hb : ∀ z ∈ otBlocks x, z ∈ blocks A := fun z hz => List.mem_flatMap.2 ⟨x, hx, hz⟩
   exact otOwn_kept (h2 x (List.mem_append.2 (Or.inl hx))) hg (fun z hz => hrow z (Or.inl (by simp [hb z hz])))
  ·rcases List.mem_cons.1 hx with rfl | hx
   ·have ho := h2 o (List.mem_append.2 (Or.inr (List.mem_cons_self ..)))
    refine ⟨owns_kept ho.1 hg (fun z hz => hrow z (Or.inl (by simp [hz]))), ?_⟩
    have hq := ho.2
    rw [hrv, hr] at hq
    have := rows_write (j := j) r hr hj hq
    show (setRow8 W gr j r).ownsRow B 34 8 o.rv (o.t.rows.set j r).length ((o.t.rows.set j r).flatMap rowCells)
    rw [hrv, List.length_set, hr]
    exact this
   ·have hb : ∀ z ∈ otBlocks x, z ∈ blocks C := fun z hz => List.mem_flatMap.2 ⟨x, hx, hz⟩
    exact otOwn_kept (h2 x (List.mem_append.2 (Or.inr (List.mem_cons_of_mem _ hx)))) hg (fun z hz => hrow z (Or.inr (hb z hz)))
set_option maxHeartbeats 2000000 in
set_option maxRecDepth 100000 in
theorem set_any (a : Option Addr) (n cap : Nat) (next v : Int) (r : R8) (T : Nat → TabV) (I : Nat → Nat → Int) (R : Nat → Nat → R8) (w : World) (h : StoreIn w a n T I R) :
  Calls Tryz.prog 67 #[.agg #[.slice a n cap, .int .i64 next], .int .i64 v, .agg #[.int .i64 r.x, .int .i64 r.y, .int .i64 r.px, .int .i64 r.py, .int .i64 r.wd, .int .i64 r.ht, .int .i64 r.ms, .int .i64 r.rr]] w fun e w' =>
   (∃ u ec, e = .returned (.tuple #[.agg #[u, .int .i64 next], .int .i64 ec]) ∧ ∃ S, Own w' w.heap.size u S ∧ SetOut next v r (plainOf T I R n) ec (S.map (·.t))) ∧ Below w.heap.size w w' := by
 have HST := hid h
 clear h
 go_enter Tryz.func67, Tryz.ntmps67
 go_wp2_with fail
 refine (clone_any a n cap next T I R _ (HST.out.below (bal (bal (bal (Below.refl _ _) _) _) _)).tabs (HST.out.below (bal (bal (bal (Below.refl _ _) _) _) _)).ids (HST.out.below (bal (bal (bal (Below.refl _ _) _) _) _)).rows HST.out.fits).mono ?_
 rintro e w1 ⟨⟨u, rfl, S, hown, hpl⟩, hb1⟩
 obtain ⟨a', c', rfl⟩ := own_form hown.1
 obtain ⟨N, hN⟩ : ∃ N, N = S.length := ⟨_, rfl⟩
 rw [← hN] at hown ⊢
 have HN := hid hN
 clear hN
 have hBX := hid ((Boxes.made w (.slice a n cap) next r).below hb1)
 have hz1 := hb1.size
 simp at hz1
 have hbw := hid (bcall (bal (bal (bal (Below.refl _ _) _) _) _) hb1)
 simp only [World.size_alloc] at hown
 have HO := hid hown
 have HPL := hid hpl
 clear hown hpl hb1
 obtain ⟨x0, x1, x2, x3, x4, x5, x6⟩ := hBX.out.cells
 have hs1 : w.heap.size < w1.heap.size := by omega
 go_wp2_with fail
 have hBA := hid (hBX.out.below (bal (Below.refl _ _) (.cells #[.slice a' N c', .int .i64 next] 43)))
 have hoA := hid (rowIs2 w1 (.slice a' N c') (.int .i64 next) 43)
 have HOA := hid (HO.out.below (bal (Below.refl _ _) (.cells #[.slice a' N c', .int .i64 next] 43)))
 refine (seek_any a n cap next v T I R _ (HST.out.below (bcall hbw.out (bal (Below.refl _ _) _)))).mono ?_
 rintro e w2 ⟨he, hb2⟩
 have hB2 := hid (hBA.out.below hb2)
 have ho2 := hid (rowIs_below hoA.out hb2)
 have HO2 := hid (HOA.out.below hb2)
 have hbw2 := hid (bcall (bcall hbw.out (bal (Below.refl _ _) _)) hb2)
 have hz2 := hb2.size
 simp at hz2
 clear hb2 hBX HO hbw x0 x1 x2 x3 x4 x5 x6 hBA hoA HOA
 obtain ⟨x0, x1, x2, x3, x4, x5, x6⟩ := hB2.out.cells
 have o0 := ho2.out.cell (i := 0) (by omega)
 have o1 := ho2.out.cell (i := 1) (by omega)
 simp at o0 o1
 have hne2 : w.heap.size + 1 + 1 ≠ w1.heap.size := by omega
 have hw12 : w1.heap.size < w2.heap.size := by omega
 have hw02 : w.heap.size + 1 + 1 < w2.heap.size := by omega
 have hfin : Hid (∀ (W : World) (u : Value) (S : List OT), Own W (w.heap.size + 1 + 1 + 1) u S → W.rowIs (w.heap.size + 1 + 1) 43 2 (fun i => if i = 0 then .slice none 0 0 else .int .i64 0) → Own ((W.setCell ⟨w.heap.size + 1 + 1, 0, none⟩ u).setCell ⟨w.heap.size + 1 + 1, 1, none⟩ (.int .i64 next)) w.heap.size u S) := by
  refine hid (fun W u S ho hb => ?_)
  have hb1 := own_not_box ho hb (by decide)
  have h2 := (ho.set' hb1 0 u).set' hb1 1 (.int .i64 next)
  exact ⟨owns_mono h2.1 (by omega), fun o hm => ⟨owns_mono (h2.2.1 o hm).1 (by omega), owns_mono (h2.2.1 o hm).2 (by omega)⟩, h2.2.2⟩
 rcases he with ⟨rfl, hg⟩ | ⟨rfl, hg, hno⟩ | ⟨i, j, rfl, hg, hi, hj, hv⟩
 ·have HG := hid hg
  clear hg
  go_wp2_with fail
  refine bodyPost_ret (v := .tuple #[.agg #[.slice a' N c', .int .i64 next], .int .i64 1]) (by simp [results, Tryz.results67, go_sem, x3, x4, hw02]) rfl ⟨⟨_, _, rfl, S, (hfin.out _ _ _ HO2.out hB2.out.res).below (bal (Below.refl _ _) _), Or.inl ⟨rfl, HG.out, HPL.out⟩⟩, ?_⟩
  refine bal ?_ _
  refine Below.setCell ?_ (by simp; omega) _
  refine Below.setCell ?_ (by simp; omega) _
  exact hbw2.out
 ·have HG := hid (And.intro hg hno)
  clear hg hno
  go_wp2_with fail
  refine bodyPost_ret (v := .tuple #[.agg #[.slice a' N c', .int .i64 next], .int .i64 3]) (by simp [results, Tryz.results67, go_sem, x3, x4, hw02]) rfl ⟨⟨_, _, rfl, S, (hfin.out _ _ _ HO2.out hB2.out.res).below (bal (Below.refl _ _) _), Or.inr (Or.inl ⟨rfl, HG.out.1, noneTo_iff.1 HG.out.2, HPL.out⟩)⟩, ?_⟩
  refine bal ?_ _
  refine Below.setCell ?_ (by simp; omega) _
  refine Below.setCell ?_ (by simp; omega) _
  exact hbw2.out
 ·obtain ⟨A, o, C, rfl, hAl, hoj, hot⟩ := split_own HPL.out hi hj hv
  have hL : (A ++ o :: C).map (·.t) = A.map (·.t) ++ o.t :: C.map (·.t) := by simp
  have hgl : GoodL next ((A ++ o :: C).map (·.t)) := by rw [HPL.out]; exact hg
  obtain ⟨k, lst, q, rk, hsp⟩ := spot_of hgl.even hL hoj
  obtain ⟨hn31, -⟩ := goodL_n (fun i hi => (HST.out.hz i hi).1) hg
  have hNl : (A ++ o :: C).length = n := by have := congrArg List.length HPL.out; simpa [plainOf] using this
  have hN31 : N ≤ 31 := by have := HN.out; omega
  have hiN : (i : Int) < (N : Int) := by have := HN.out; omega
  have hjk : j ≤ k := hsp.lt
  have hk10 : k ≤ 9 := by
   have h2 := hsp.il
   have h3 := hgl.2.1
   rw [hL, allL_mid] at h3
   simp at h3
   omega
  obtain ⟨g, c, hgc⟩ := own_some (n := N) (v := .slice a' N c') (by have := HO2.out.1; rw [← HN.out] at this; exact this) (by rw [HN.out, List.length_append, List.length_cons]; omega)
  simp only [Value.slice.injEq] at hgc
  obtain ⟨rfl, -, rfl⟩ := hgc
  have hat : Hid (At (plainOf T I R n) v (T i).mask q) := hid (by
   have h1 := hsp.at_
   rw [HPL.out, hot] at h1
   exact h1)
  have hL2 : Hid (A.map (·.t) ++ (⟨o.t.mask, o.t.ids, o.t.rows.set j r⟩ : Tab) :: C.map (·.t) = setL v r (plainOf T I R n)) := hid (by
   rw [← HPL.out, hL, setL_eq (by rw [← hL]; exact hgl.2.2.2.2.2) (by rw [← hL]; exact hgl.even) hoj])
  obtain ⟨b, off, rfl, hb, hc⟩ := (HST.out.below hbw2.out).tabs (by omega)
  obtain ⟨t0, -, -⟩ := hc i hi
  have hi' : (i : Int) < (n : Int) := by omega
  have hn' : (n : Int) ≤ 31 := by omega
  have HG := hid hg
  have HROWS := hid hsp.rl
  have HQ := hid hsp.row
  have HAL := hid hAl
  clear hg hgl hsp hoj hot hL hj hv hNl hc hAl
  obtain ⟨r0, r1, r2, r3, r4, r5, r6, r7⟩ := hB2.out.row
  go_wp2_with fail
  have hB3 := hid (hB2.out.below (bal (Below.refl _ _) (.cells #[.int .i64 (i : Nat), .int .i64 j] 99)))
  have ho3 := hid (ho2.out.alloc (.cells #[.int .i64 (i : Nat), .int .i64 j] 99))
  have hp3 := hid (rowIs2 w2 (.int .i64 (i : Nat)) (.int .i64 j) 99)
  have HO3 := hid (HO2.out.below (bal (Below.refl _ _) (.cells #[.int .i64 (i : Nat), .int .i64 j] 99)))
  have hbw3 := hid (bal hbw2.out (.cells #[.int .i64 (i : Nat), .int .i64 j] 99))
  have hc3 : (w2.alloc (.cells #[.int .i64 (i : Nat), .int .i64 j] 99)).cell? ⟨b, off + i * 3, none⟩ = some (.int .i64 (T i).mask) := ((bal (Below.refl _ w2) _).cell (p := ⟨b, off + i * 3, none⟩) hb).trans t0
  have hbz : b < (w2.alloc (.cells #[.int .i64 (i : Nat), .int .i64 j] 99)).heap.size := by simp; omega
  have hw13 : w1.heap.size < (w2.alloc (.cells #[.int .i64 (i : Nat), .int .i64 j] 99)).heap.size := by simp; omega
  have hw23 : w2.heap.size < (w2.alloc (.cells #[.int .i64 (i : Nat), .int .i64 j] 99)).heap.size := by simp
  generalize w2.alloc (.cells #[.int .i64 (i : Nat), .int .i64 j] 99) = W at hB3 ho3 hp3 HO3 hbw3 hc3 hbz hw13 hw23 ⊢
  clear hB2 ho2 HO2 hbw2 x0 x1 x2 x3 x4 x5 x6 o0 o1 r0 r1 r2 r3 r4 r5 r6 r7 t0
  obtain ⟨x0, x1, x2, x3, x4, x5, x6⟩ := hB3.out.cells
  obtain ⟨r0, r1, r2, r3, r4, r5, r6, r7⟩ := hB3.out.row
  have p0 := hp3.out.cell (i := 0) (by omega)
  simp at p0
  go_cut [32] (fun s32 wx => s32 = .bool (!goodRowB (T i).mask ⟨r.x, r.y, r.px, r.py, r.wd, r.ht, r.ms, r.rr⟩) ∧ Below W.heap.size W wx)
  case first =>
   go_region_with (go_at_call 88; refine (goodRow_any _ _ _ _ _ _ _ _ _ _).mono ?_; rintro e w4 ⟨rfl, hb4⟩; have HB4 := hid hb4; clear hb4)
   all_goals
    go_wp2_with fail
    go_meet
    exact ⟨rfl, (Below.drew (Below.refl _ W)).trans HB4.out⟩
  case rest =>
  obtain ⟨rfl, hb4⟩ := hcut
  have hB4 := hid (hB3.out.below hb4)
  have ho4 := hid (rowIs_below ho3.out hb4)
  have hp4 := hid (rowIs_below hp3.out hb4)
  have HO4 := hid (HO3.out.below hb4)
  have hbw4 := hid (bcall hbw3.out hb4)
  clear hB3 ho3 HO3 hbw3 x0 x1 x2 x3 x4 x5 x6 r0 r1 r2 r3 r4 r5 r6 r7 p0 hb4
  cases hgr : goodRowB (T i).mask ⟨r.x, r.y, r.px, r.py, r.wd, r.ht, r.ms, r.rr⟩
  ·obtain ⟨x0, x1, x2, x3, x4, x5, x6⟩ := hB4.out.cells
   have o0 := ho4.out.cell (i := 0) (by omega)
   have o1 := ho4.out.cell (i := 1) (by omega)
   simp at o0 o1
   go_wp2_with fail
   refine bodyPost_ret (v := .tuple #[.agg #[.slice (some ⟨g, 0, none⟩) N c', .int .i64 next], .int .i64 2]) (by simp [results, Tryz.results67, go_sem, x3, x4]) rfl ⟨⟨_, _, rfl, _, hfin.out _ _ _ HO4.out hB4.out.res, Or.inr (Or.inr (Or.inl ⟨rfl, HG.out, ⟨_, _, hat.out, hgr⟩, HPL.out⟩))⟩, ?_⟩
   refine Below.setCell ?_ (by simp; omega) _
   refine Below.setCell ?_ (by simp; omega) _
   exact hbw4.out
  ·have hO := HO4.out.2.1 o (by simp)
   rw [OtOwn, HROWS.out] at hO
   obtain ⟨gr, rc, hrv⟩ := own_some hO.2 (by omega)
   have HR := hid hO.2
   rw [hrv] at HR
   have HRV := hid hrv
   obtain ⟨-, -, t2⟩ := HO4.out.cell HN.out
   rw [HAL.out, hrv] at t2
   clear hO hrv
   obtain ⟨x0, x1, x2, x3, x4, x5, x6⟩ := hB4.out.cells
   obtain ⟨r0, r1, r2, r3, r4, r5, r6, r7⟩ := hB4.out.row
   have p0 := hp4.out.cell (i := 0) (by omega)
   have p1 := hp4.out.cell (i := 1) (by omega)
   have o0 := ho4.out.cell (i := 0) (by omega)
   have o1 := ho4.out.cell (i := 1) (by omega)
   simp at p0 p1 o0 o1
   obtain ⟨s0, s1, s2, s3, s4, s5, s6, s7⟩ := row_at HR.out HQ.out
   have f0 : wc.frozen? ⟨gr, j * 8, none⟩ = false := HR.out.frozenAt (j * 8)
   have f1 : wc.frozen? ⟨gr, j * 8 + 1, none⟩ = false := HR.out.frozenAt (j * 8 + 1)
   have f2 : wc.frozen? ⟨gr, j * 8 + 2, none⟩ = false := HR.out.frozenAt (j * 8 + 2)
   have f3 : wc.frozen? ⟨gr, j * 8 + 3, none⟩ = false := HR.out.frozenAt (j * 8 + 3)
   have f4 : wc.frozen? ⟨gr, j * 8 + 4, none⟩ = false := HR.out.frozenAt (j * 8 + 4)
   have f5 : wc.frozen? ⟨gr, j * 8 + 5, none⟩ = false := HR.out.frozenAt (j * 8 + 5)
   have f6 : wc.frozen? ⟨gr, j * 8 + 6, none⟩ = false := HR.out.frozenAt (j * 8 + 6)
   have f7 : wc.frozen? ⟨gr, j * 8 + 7, none⟩ = false := HR.out.frozenAt (j * 8 + 7)
   have hjk' : (j : Int) < (k : Int) + 1 := by omega
   go_wp2_with fail
   go_cut [] (fun wx => wx = (setRow8 wc gr j r).drew)
   case first =>
    go_region
    all_goals
     go_wp2_with fail
     go_meet
     all_goals rfl
   case rest =>
   obtain rfl := hcut
   have hgB : w.heap.size + 1 + 1 + 1 ≤ gr := (HR.out.lt gr rfl).1
   have HO5 := hid (own_write r HO4.out HRV.out HROWS.out hjk)
   have hgr1 : gr ≠ w1.heap.size := fun e => own_not_box HO4.out ho4.out (by decide) (by rw [← e]; simp [blocks_mid, otBlocks, HRV.out, Value.ownBlock])
   have hgrow := grown_row8 wc gr j r
   have hB5 := hid (hB4.out.grown hgrow (fun x e => by cases e; exact Or.inr (by omega)))
   have ho5 := hid (rowIs_grown ho4.out hgrow (fun e => hgr1 (by cases e; rfl)))
   have hbw5 := hid (hbw4.out.grown hgrow (by have := hbw4.out.size; omega) (fun x e => by cases e; omega))
   clear hgrow x0 x1 x2 x3 x4 x5 x6 r0 r1 r2 r3 r4 r5 r6 r7 p0 p1 o0 o1 s0 s1 s2 s3 s4 s5 s6 s7 f0 f1 f2 f3 f4 f5 f6 f7 t2 hB4 ho4 HO4 hbw4 HR
   generalize setRow8 wc gr j r = W5 at HO5 hB5 ho5 hbw5 ⊢
   obtain ⟨x0, x1, x2, x3, x4, x5, x6⟩ := hB5.out.cells
   have o0 := ho5.out.cell (i := 0) (by omega)
   have o1 := ho5.out.cell (i := 1) (by omega)
   simp at o0 o1
   go_wp2_with fail
   refine bodyPost_ret (v := .tuple #[.agg #[.slice (some ⟨g, 0, none⟩) N c', .int .i64 next], .int .i64 0]) (by simp [results, Tryz.results67, go_sem, x3, x4]) rfl ⟨⟨_, _, rfl, _, hfin.out _ _ _ HO5.out hB5.out.res, Or.inr (Or.inr (Or.inr ⟨rfl, HG.out, ⟨_, _, hat.out, hgr⟩, ?_⟩))⟩, ?_⟩
   ·rw [← hL2.out]; simp
   ·refine Below.drew ?_
    refine Below.setCell ?_ (by simp; omega) _
    refine Below.setCell ?_ (by simp; omega) _
    exact hbw5.out
end St
namespace St
open Num
open Go.ChangeShapes Go.WideShapes Go.ChangeAt Go.RowKit
def chR (mask m : Int) (q r : R8) : R8 := onlyR mask (layR m q r)
def ChangeOut (next v mask : Int) (r : R8) (L : List Tab) (ec : Int) (L' : List Tab) : Prop :=
 (ec = 1 ∧ ¬ GoodL next L ∧ L' = L) ∨ (ec = 3 ∧ GoodL next L ∧ v ∉ allL L ∧ L' = L) ∨
 (ec = 2 ∧ GoodL next L ∧ (∃ m q, At L v m q ∧ goodRowB mask (chR mask m q r) = false) ∧ L' = L) ∨ (ec = 0 ∧ GoodL next L ∧ ∃ m q, At L v m q ∧ goodRowB mask (chR mask m q r) = true ∧ L' = putT mask v (chR mask m q r) (killT v L))
theorem Boxes.setR {W : World} {b : Nat} {v : Value} {next : Int} {r : R8} (h : Boxes W b v next r) (q : R8) : Boxes (setRow8 W (b + 1) 0 q) b v next q := by
 have hg := grown_row8 W (b + 1) 0 q
 refine ⟨rowIs_grown h.s hg (by simp), ?_, rowIs_grown h.res hg (by simp)⟩
 unfold setRow8
 refine ((((((((h.r.set 0 _).set 1 _).set 2 _).set 3 _).set 4 _).set 5 _).set 6 _).set 7 _).congr (fun i hi => ?_)
 match i, hi with
 | 0, _ => rfl
 | 1, _ => rfl
 | 2, _ => rfl
 | 3, _ => rfl
 | 4, _ => rfl
 | 5, _ => rfl
 | 6, _ => rfl
 | 7, _ => rfl
attribute [local go_sem ↓] Go.wp_at_zero Go.wp_at_succ
set_option maxHeartbeats 20000000 in
set_option maxRecDepth 100000 in
theorem change_any (a : Option Addr) (n cap : Nat) (next v mask : Int) (r : R8) (T : Nat → TabV) (I : Nat → Nat → Int) (R : Nat → Nat → R8) (w : World) (h : StoreIn w a n T I R) :
  Calls Tryz.prog 65 #[.agg #[.slice a n cap, .int .i64 next], .int .i64 v, .int .i64 mask, .agg #[.int .i64 r.x, .int .i64 r.y, .int .i64 r.px, .int .i64 r.py, .int .i64 r.wd, .int .i64 r.ht, .int .i64 r.ms, .int .i64 r.rr]] w fun e w' =>
   (∃ u ec, e = .returned (.tuple #[.agg #[u, .int .i64 next], .int .i64 ec]) ∧ ∃ S, Own w' w.heap.size u S ∧ ChangeOut next v mask r (plainOf T I R n) ec (S.map (·.t))) ∧ Below w.heap.size w w' := by
 have HST := hid h
 clear h
 go_enter Tryz.func65, Tryz.ntmps65
 go_wp2_with fail
 refine (clone_any a n cap next T I R _ (HST.out.below (bal (bal (bal (Below.refl _ _) _) _) _)).tabs (HST.out.below (bal (bal (bal (Below.refl _ _) _) _) _)).ids (HST.out.below (bal (bal (bal (Below.refl _ _) _) _) _)).rows HST.out.fits).mono ?_
 rintro e w1 ⟨⟨u, rfl, S, hown, hpl⟩, hb1⟩
 obtain ⟨a', c', rfl⟩ := own_form hown.1
 obtain ⟨N, hN⟩ : ∃ N, N = S.length := ⟨_, rfl⟩
 rw [← hN] at hown ⊢
 have HN := hid hN
 clear hN
 have hBX := hid ((Boxes.made w (.slice a n cap) next r).below hb1)
 have hz1 := hb1.size
 simp at hz1
 have hbw := hid (bcall (bal (bal (bal (Below.refl _ _) _) _) _) hb1)
 simp only [World.size_alloc] at hown
 have HO := hid hown
 have HPL := hid hpl
 clear hown hpl hb1
 obtain ⟨x0, x1, x2, x3, x4, x5, x6⟩ := hBX.out.cells
 have hs1 : w.heap.size < w1.heap.size := by omega
 go_wp2_with fail
 have hBA := hid (hBX.out.below (bal (Below.refl _ _) (.cells #[.slice a' N c', .int .i64 next] 43)))
 have hoA := hid (rowIs2 w1 (.slice a' N c') (.int .i64 next) 43)
 have HOA := hid (HO.out.below (bal (Below.refl _ _) (.cells #[.slice a' N c', .int .i64 next] 43)))
 refine (seek_any a n cap next v T I R _ (HST.out.below (bcall hbw.out (bal (Below.refl _ _) _)))).mono ?_
 rintro e w2 ⟨he, hb2⟩
 have hB2 := hid (hBA.out.below hb2)
 have ho2 := hid (rowIs_below hoA.out hb2)
 have HO2 := hid (HOA.out.below hb2)
 have hbw2 := hid (bcall (bcall hbw.out (bal (Below.refl _ _) _)) hb2)
 have hz2 := hb2.size
 simp at hz2
 clear hb2 hBX HO hbw x0 x1 x2 x3 x4 x5 x6 hBA hoA HOA
 obtain ⟨x0, x1, x2, x3, x4, x5, x6⟩ := hB2.out.cells
 have o0 := ho2.out.cell (i := 0) (by omega)
 have o1 := ho2.out.cell (i := 1) (by omega)
 simp at o0 o1
 have hne2 : w.heap.size + 1 + 1 ≠ w1.heap.size := by omega
 have hw12 : w1.heap.size < w2.heap.size := by omega
 have hw02 : w.heap.size + 1 + 1 < w2.heap.size := by omega
 have hfin : Hid (∀ (W : World) (u : Value) (S : List OT), Own W (w.heap.size + 1 + 1 + 1) u S → W.rowIs (w.heap.size + 1 + 1) 43 2 (fun i => if i = 0 then .slice none 0 0 else .int .i64 0) → Own ((W.setCell ⟨w.heap.size + 1 + 1, 0, none⟩ u).setCell ⟨w.heap.size + 1 + 1, 1, none⟩ (.int .i64 next)) w.heap.size u S) := by
  refine hid (fun W u S ho hb => ?_)
  have hb1 := own_not_box ho hb (by decide)
  have h2 := (ho.set' hb1 0 u).set' hb1 1 (.int .i64 next)
  exact ⟨owns_mono h2.1 (by omega), fun o hm => ⟨owns_mono (h2.2.1 o hm).1 (by omega), owns_mono (h2.2.1 o hm).2 (by omega)⟩, h2.2.2⟩
 rcases he with ⟨rfl, hg⟩ | ⟨rfl, hg, hno⟩ | ⟨i, j, rfl, hg, hi, hj, hv⟩
 ·have HG := hid hg
  clear hg
  go_wp2_with fail
  refine bodyPost_ret (v := .tuple #[.agg #[.slice a' N c', .int .i64 next], .int .i64 1]) (by simp [results, Tryz.results65, go_sem, x3, x4, hw02]) rfl ⟨⟨_, _, rfl, S, (hfin.out _ _ _ HO2.out hB2.out.res).below (bal (Below.refl _ _) _), Or.inl ⟨rfl, HG.out, HPL.out⟩⟩, ?_⟩
  refine bal ?_ _
  refine Below.setCell ?_ (by simp; omega) _
  refine Below.setCell ?_ (by simp; omega) _
  exact hbw2.out
 ·have HG := hid (And.intro hg hno)
  clear hg hno
  go_wp2_with fail
  refine bodyPost_ret (v := .tuple #[.agg #[.slice a' N c', .int .i64 next], .int .i64 3]) (by simp [results, Tryz.results65, go_sem, x3, x4, hw02]) rfl ⟨⟨_, _, rfl, S, (hfin.out _ _ _ HO2.out hB2.out.res).below (bal (Below.refl _ _) _), Or.inr (Or.inl ⟨rfl, HG.out.1, noneTo_iff.1 HG.out.2, HPL.out⟩)⟩, ?_⟩
  refine bal ?_ _
  refine Below.setCell ?_ (by simp; omega) _
  refine Below.setCell ?_ (by simp; omega) _
  exact hbw2.out
 ·obtain ⟨A, o, C, rfl, hAl, hoj, hot⟩ := split_own HPL.out hi hj hv
  have hL : (A ++ o :: C).map (·.t) = A.map (·.t) ++ o.t :: C.map (·.t) := by simp
  have hgl : GoodL next ((A ++ o :: C).map (·.t)) := by rw [HPL.out]; exact hg
  obtain ⟨k, lst, q, rk, hsp⟩ := spot_of hgl.even hL hoj
  obtain ⟨hn31, -⟩ := goodL_n (fun i hi => (HST.out.hz i hi).1) hg
  have hNl : (A ++ o :: C).length = n := by have := congrArg List.length HPL.out; simpa [plainOf] using this
  have hN31 : N ≤ 31 := by have := HN.out; omega
  have hiN : (i : Int) < (N : Int) := by have := HN.out; omega
  have hjk : j ≤ k := hsp.lt
  have hk10 : k ≤ 9 := by
   have h2 := hsp.il
   have h3 := hgl.2.1
   rw [hL, allL_mid] at h3
   simp at h3
   omega
  obtain ⟨g, c, hgc⟩ := own_some (n := N) (v := .slice a' N c') (by have := HO2.out.1; rw [← HN.out] at this; exact this) (by rw [HN.out, List.length_append, List.length_cons]; omega)
  simp only [Value.slice.injEq] at hgc
  obtain ⟨rfl, -, rfl⟩ := hgc
  have hat : Hid (At (plainOf T I R n) v (T i).mask q) := hid (by
   have h1 := hsp.at_
   rw [HPL.out, hot] at h1
   exact h1)
  have hqR : q = R i j := by
   have h1 := hsp.row
   rw [hot] at h1
   have h2 := hsp.rl
   rw [hot] at h2
   simp only [tabOf, List.length_map, List.length_range] at h2
   simp only [tabOf, List.getElem?_map] at h1
   rw [List.getElem?_range (by omega)] at h1
   simpa using h1.symm
  have hrl : (T i).rl = k + 1 := by
   have h2 := hsp.rl
   rw [hot] at h2
   simpa [tabOf] using h2
  obtain ⟨rl, HRL⟩ : ∃ rl, Hid (rl = layR (T i).mask q r) := ⟨_, rfl⟩
  obtain ⟨rn, HRN⟩ : ∃ rn, Hid (rn = onlyR mask rl) := ⟨_, rfl⟩
  have hchr : Hid (rn = chR mask (T i).mask q r) := hid (by rw [HRN.out, HRL.out]; rfl)
  have HLAY : Hid (∀ W', Calls Tryz.prog 95 #[.int .i64 (T i).mask, .agg #[.int .i64 (R i j).x, .int .i64 (R i j).y, .int .i64 (R i j).px, .int .i64 (R i j).py, .int .i64 (R i j).wd, .int .i64 (R i j).ht, .int .i64 (R i j).ms, .int .i64 (R i j).rr], .agg #[.int .i64 r.x, .int .i64 r.y, .int .i64 r.px, .int .i64 r.py, .int .i64 r.wd, .int .i64 r.ht, .int .i64 r.ms, .int .i64 r.rr]] W' fun e w' =>
    e = .returned (.agg #[.int .i64 rl.x, .int .i64 rl.y, .int .i64 rl.px, .int .i64 rl.py, .int .i64 rl.wd, .int .i64 rl.ht, .int .i64 rl.ms, .int .i64 rl.rr]) ∧ Below W'.heap.size W' w') :=
   hid (fun W' => by rw [HRL.out, hqR]; exact lay_any _ _ _ _ _ _ _ _ _ _ _ _ _ _ _ _ _ W')
  have HONL : Hid (∀ W', Calls Tryz.prog 94 #[.int .i64 mask, .agg #[.int .i64 rl.x, .int .i64 rl.y, .int .i64 rl.px, .int .i64 rl.py, .int .i64 rl.wd, .int .i64 rl.ht, .int .i64 rl.ms, .int .i64 rl.rr]] W' fun e w' =>
    e = .returned (.agg #[.int .i64 rn.x, .int .i64 rn.y, .int .i64 rn.px, .int .i64 rn.py, .int .i64 rn.wd, .int .i64 rn.ht, .int .i64 rn.ms, .int .i64 rn.rr]) ∧ Below W'.heap.size W' w') :=
   hid (fun W' => by rw [HRN.out]; exact only_any _ _ _ _ _ _ _ _ _ W')
  have HT : Hid (∀ W : World, Own W (w.heap.size + 1 + 1 + 1) (.slice (some ⟨g, 0, none⟩) N c') (A ++ o :: C) → w.heap.size + 1 + 1 + 1 ≤ W.heap.size → Calls Tryz.prog 62 #[.agg #[.slice (some ⟨g, 0, none⟩) N c', .int .i64 next], .agg #[.int .i64 (i : Nat), .int .i64 j]] W fun e w' =>
    (∃ u, e = .returned (.agg #[u, .int .i64 next]) ∧ ∃ S', Own w' (w.heap.size + 1 + 1 + 1) u S' ∧ S'.map (·.t) = killT v (plainOf T I R n)) ∧ Below (w.heap.size + 1 + 1 + 1) W w' ∧ Keep W w') := by
   refine hid (fun W ho hs => ?_)
   have ht := takeOut_own g N c' next (w.heap.size + 1 + 1 + 1) A C o j k lst rk W HN.out hs (by omega) hsp.il hsp.rl (by omega) hsp.lt hsp.li hsp.lr ho
   rw [hAl] at ht
   refine ht.mono ?_
   rintro e w' ⟨⟨u, rfl, S', ho', hm'⟩, hb'⟩
   refine ⟨⟨u, rfl, S', ho', ?_⟩, hb'⟩
   rw [hm', ← HPL.out, hL, killT_eq (by rw [← hL]; exact hgl.2.2.2.2.2) hoj hsp.il hsp.rl hsp.li hsp.lr]
   unfold takeL
   simp
  have hmem : v ∈ allL (plainOf T I R n) := by rw [← HPL.out, hL, allL_mid]; exact List.mem_append.2 (Or.inr (List.mem_append.2 (Or.inl (List.mem_of_getElem? hoj))))
  have HP : Hid (∀ (W : World) (u : Value) (S' : List OT), Own W (w.heap.size + 1 + 1 + 1) u S' → S'.map (·.t) = killT v (plainOf T I R n) → w.heap.size + 1 + 1 + 1 ≤ W.heap.size → Calls Tryz.prog 89 #[.agg #[u, .int .i64 next], .int .i64 mask, .int .i64 v, .agg #[.int .i64 rn.x, .int .i64 rn.y, .int .i64 rn.px, .int .i64 rn.py, .int .i64 rn.wd, .int .i64 rn.ht, .int .i64 rn.ms, .int .i64 rn.rr]] W fun e w' =>
    (∃ u, e = .returned (.agg #[u, .int .i64 next]) ∧ ∃ S'', Own w' (w.heap.size + 1 + 1 + 1) u S'' ∧ S''.map (·.t) = putT mask v rn (killT v (plainOf T I R n))) ∧ Below (w.heap.size + 1 + 1 + 1) W w' ∧ Keep W w') := by
   refine hid (fun W u S' ho hm hs => ?_)
   obtain ⟨ka, kp, -⟩ := kill_all hg hmem
   obtain ⟨a6, c6, rfl⟩ := own_form ho.1
   have hlen : (allL (killT v (plainOf T I R n))).length ≤ 9 := by have h1 := kp.length_eq; have h2 := hg.2.1; simp at h1; omega
   have hSl : ∀ o ∈ S', o.t.ids.length ≤ 1000 ∧ o.t.rows.length ≤ 1000 := fun o ho => by
    have hm' : o.t ∈ killT v (plainOf T I R n) := by rw [← hm]; exact List.mem_map.2 ⟨o, ho, rfl⟩
    have h1 := len_le hlen _ hm'
    have h2 := (ka.2.2.2.2.1 _ hm').2.1
    omega
   have hS31 : S'.length ≤ 1000 := by
    have h1 := goodL_len ka
    rw [← hm, List.length_map] at h1
    omega
   have hp := putIn_any a6 S'.length c6 next v mask (w.heap.size + 1 + 1 + 1) S' rn W rfl hs hS31 hSl ho (rising_of hm ka.2.2.2.1) (fun A C e _ _ => insertAt_any a6 S'.length c6 _ A C mask (by rw [e]) hS31)
   rw [hm] at hp
   exact hp
  have HG := hid hg
  obtain ⟨b, off, rfl, hb, hc⟩ := (HST.out.below hbw2.out).tabs (by omega)
  obtain ⟨t0, t1, t2⟩ := hc i hi
  obtain ⟨b', off', hra, hb', hc'⟩ := (HST.out.below hbw2.out).rows i hi (by omega)
  obtain ⟨q0, q1, q2, q3, q4, q5, q6, q7⟩ := hc' j (by omega)
  rw [hra, hrl] at t2
  have hi' : (i : Int) < (n : Int) := by omega
  have hn' : (n : Int) ≤ 31 := by omega
  have hjk' : (j : Int) < (k : Int) + 1 := by omega
  have HAL := hid hAl
  clear hg hgl hsp hoj hot hL hj hv hNl hc hc' hAl hqR hmem
  obtain ⟨r0, r1, r2, r3, r4, r5, r6, r7⟩ := hB2.out.row
  have hw00 : w.heap.size < w2.heap.size := by omega
  have hw01 : w.heap.size + 1 < w2.heap.size := by omega
  go_wp2_with fail
  have hb3 : Below w2.heap.size w2 ((w2.alloc (.cells #[.int .i64 (i : Nat), .int .i64 j] 99)).alloc (.cells #[.int .i64 (T i).mask, .slice (T i).ia (T i).il (T i).ic, .slice (some ⟨b', off', none⟩) (k + 1) (T i).rc] 65)) := bal (bal (Below.refl _ w2) _) _
  have hB3 := hid (hB2.out.below hb3)
  have ho3 := hid (rowIs_below ho2.out hb3)
  have hp3 := hid ((rowIs2 w2 (.int .i64 (i : Nat)) (.int .i64 j) 99).alloc (.cells #[.int .i64 (T i).mask, .slice (T i).ia (T i).il (T i).ic, .slice (some ⟨b', off', none⟩) (k + 1) (T i).rc] 65))
  have HO3 := hid (HO2.out.below hb3)
  have hbw3 := hid (bcall hbw2.out hb3)
  have tb0 : ((w2.alloc (.cells #[.int .i64 (i : Nat), .int .i64 j] 99)).alloc (.cells #[.int .i64 (T i).mask, .slice (T i).ia (T i).il (T i).ic, .slice (some ⟨b', off', none⟩) (k + 1) (T i).rc] 65)).cell? ⟨w2.heap.size + 1, 0, none⟩ = some (.int .i64 (T i).mask) := by simp
  have tb2 : ((w2.alloc (.cells #[.int .i64 (i : Nat), .int .i64 j] 99)).alloc (.cells #[.int .i64 (T i).mask, .slice (T i).ia (T i).il (T i).ic, .slice (some ⟨b', off', none⟩) (k + 1) (T i).rc] 65)).cell? ⟨w2.heap.size + 1, 2, none⟩ = some (.slice (some ⟨b', off', none⟩) (k + 1) (T i).rc) := by simp
  have hz3 : ((w2.alloc (.cells #[.int .i64 (i : Nat), .int .i64 j] 99)).alloc (.cells #[.int .i64 (T i).mask, .slice (T i).ia (T i).il (T i).ic, .slice (some ⟨b', off', none⟩) (k + 1) (T i).rc] 65)).heap.size = w2.heap.size + 1 + 1 := by simp
  rw [← hb3.cell (by exact hb')] at q0 q1 q2 q3 q4 q5 q6 q7
  generalize (w2.alloc (.cells #[.int .i64 (i : Nat), .int .i64 j] 99)).alloc (.cells #[.int .i64 (T i).mask, .slice (T i).ia (T i).il (T i).ic, .slice (some ⟨b', off', none⟩) (k + 1) (T i).rc] 65) = W at hB3 ho3 hp3 HO3 hbw3 tb0 tb2 hz3 q0 q1 q2 q3 q4 q5 q6 q7 ⊢
  clear hb3 hB2 ho2 HO2 hbw2 x0 x1 x2 x3 x4 x5 x6 o0 o1 r0 r1 r2 r3 r4 r5 r6 r7 t0 t1 t2
  have hW01 : w.heap.size + 1 < W.heap.size := by omega
  have hW22 : w2.heap.size < W.heap.size := by omega
  have HZ3 := hid hz3
  clear hz3
  obtain ⟨r0, r1, r2, r3, r4, r5, r6, r7⟩ := hB3.out.row
  have p1 := hp3.out.cell (i := 1) (by omega)
  simp at p1
  have rf0 := hB3.out.r.frozen 0
  have rf1 := hB3.out.r.frozen 1
  have rf2 := hB3.out.r.frozen 2
  have rf3 := hB3.out.r.frozen 3
  have rf4 := hB3.out.r.frozen 4
  have rf5 := hB3.out.r.frozen 5
  have rf6 := hB3.out.r.frozen 6
  have rf7 := hB3.out.r.frozen 7
  go_cut [] (fun wx => ∃ w5, Below W.heap.size W w5 ∧ wx = setRow8 w5 (w.heap.size + 1) 0 rn)
  case first =>
   clear hfin HP HT HG hat hchr HRL HRN HPL HST HN HAL HO3 hbw3 hB3 ho3 hp3 HZ3
   go_region_with (first
    | (go_at_call 95; refine (HLAY.out _).mono ?_; rintro e w4 ⟨rfl, hb4d⟩; have hb4 : Below W.heap.size W w4 := (Below.drew (Below.refl _ W)).trans hb4d; obtain ⟨hc4, hf4⟩ := bcell hb4; have hw4 : w.heap.size + 1 < w4.heap.size := Nat.lt_of_lt_of_le hW01 hb4.size; have HB4 := hid hb4; clear hb4 hb4d)
    | (go_at_call 94; refine (HONL.out _).mono ?_; rintro e w5 ⟨rfl, hb5⟩; obtain ⟨hc5, hf5⟩ := bcell hb5; have HB5 := hid (bcall HB4.out hb5); clear hb5))
   all_goals
    go_wp2_with fail
    go_meet
    exact ⟨_, HB5.out, rfl⟩
  case rest =>
  obtain ⟨w5, hb5, rfl⟩ := hcut
  have hB5 := hid ((hB3.out.below hb5).setR rn)
  have hgr5 := grown_row8 w5 (w.heap.size + 1) 0 rn
  have ho5 := hid (rowIs_grown (rowIs_below ho3.out hb5) hgr5 (by simp; omega))
  have hp5 := hid (rowIs_grown (rowIs_below hp3.out hb5) hgr5 (by simp; omega))
  have HO5 : Hid (Own (setRow8 w5 (w.heap.size + 1) 0 rn) (w.heap.size + 1 + 1 + 1) (.slice (some ⟨g, 0, none⟩) N c') (A ++ o :: C)) := hid ((HO3.out.below hb5).kept hgr5 (by omega))
  have hbw5 := hid ((bcall hbw3.out hb5).grown hgr5 (by have := hb5.size; have := hbw3.out.size; omega) (fun x e => by cases e; omega))
  have hz5 : Hid (w2.heap.size + 1 + 1 ≤ (setRow8 w5 (w.heap.size + 1) 0 rn).heap.size) := hid (by have h1 := hb5.size; have h2 := HZ3.out; have h3 := hgr5.size; omega)
  clear hb5 hgr5 hB3 ho3 hp3 HO3 hbw3 r0 r1 r2 r3 r4 r5 r6 r7 rf0 rf1 rf2 rf3 rf4 rf5 rf6 rf7 p1 tb0 tb2 q0 q1 q2 q3 q4 q5 q6 q7
  generalize setRow8 w5 (w.heap.size + 1) 0 rn = W5 at hB5 ho5 hp5 HO5 hbw5 hz5 ⊢
  obtain ⟨r0, r1, r2, r3, r4, r5, r6, r7⟩ := hB5.out.row
  go_wp2_with fail
  refine (goodRow_any _ _ _ _ _ _ _ _ _ _).mono ?_
  rintro e w6 ⟨rfl, hb6⟩
  have hB6 := hid (hB5.out.below hb6)
  have ho6 := hid (rowIs_below ho5.out hb6)
  have hp6 := hid (rowIs_below hp5.out hb6)
  have HO6 := hid (HO5.out.below hb6)
  have hbw6 := hid (bcall hbw5.out hb6)
  have hz6 := hid (Nat.le_trans hz5.out hb6.size)
  clear hb6 hB5 ho5 hp5 HO5 hbw5 hz5 r0 r1 r2 r3 r4 r5 r6 r7
  obtain ⟨x0, x1, x2, x3, x4, x5, x6⟩ := hB6.out.cells
  obtain ⟨r0, r1, r2, r3, r4, r5, r6, r7⟩ := hB6.out.row
  have o0 := ho6.out.cell (i := 0) (by omega)
  have o1 := ho6.out.cell (i := 1) (by omega)
  have p0 := hp6.out.cell (i := 0) (by omega)
  have p1 := hp6.out.cell (i := 1) (by omega)
  simp at o0 o1 p0 p1
  cases hgr : goodRowB mask ⟨rn.x, rn.y, rn.px, rn.py, rn.wd, rn.ht, rn.ms, rn.rr⟩
  ·go_wp2_with fail
   refine bodyPost_ret (v := .tuple #[.agg #[.slice (some ⟨g, 0, none⟩) N c', .int .i64 next], .int .i64 2]) (by simp [results, Tryz.results65, go_sem, x3, x4]) rfl ⟨⟨_, _, rfl, _, hfin.out _ _ _ HO6.out hB6.out.res, Or.inr (Or.inr (Or.inl ⟨rfl, HG.out, ⟨_, _, hat.out, by rw [← hchr.out]; exact hgr⟩, HPL.out⟩))⟩, ?_⟩
   refine Below.setCell ?_ (by simp; omega) _
   refine Below.setCell ?_ (by simp; omega) _
   exact hbw6.out
  ·go_wp2_with fail
   have hs6 : w.heap.size + 1 + 1 + 1 ≤ w6.heap.size := by have := hz6.out; omega
   have HT6 : Hid (Calls Tryz.prog 62 #[.agg #[.slice (some ⟨g, 0, none⟩) N c', .int .i64 next], .agg #[.int .i64 (i : Nat), .int .i64 j]] w6.drew fun e w' =>
    (∃ u, e = .returned (.agg #[u, .int .i64 next]) ∧ ∃ S', Own w' (w.heap.size + 1 + 1 + 1) u S' ∧ S'.map (·.t) = killT v (plainOf T I R n)) ∧ Below (w.heap.size + 1 + 1 + 1) w6 w') := by
    refine hid ((HT.out w6.drew HO6.out hs6).mono ?_)
    rintro e w' ⟨h1, h2, h3⟩
    exact ⟨h1, (Below.drew (Below.refl _ w6)).trans h2⟩
   have HPL6 := hid (fun (W : World) (u : Value) (S' : List OT) (ho : Own W (w.heap.size + 1 + 1 + 1) u S') (hm : S'.map (·.t) = killT v (plainOf T I R n)) (hb : Below (w.heap.size + 1 + 1 + 1) w6 W) => HP.out W u S' ho hm (Nat.le_trans hs6 hb.size))
   have HAT := hid hat.out
   clear hfin HP HT hat HRL HRN HST HN HAL HZ3 HLAY HONL hp6 HO6 ho6
   go_region_with (first
    | (go_at_call 62; refine HT6.out.mono ?_; rintro e w7 ⟨⟨u7, rfl, S7, ho7, hm7⟩, hb7⟩; obtain ⟨a7, c7, rfl⟩ := own_form ho7.1; have hB7 := boxes_after hB6.out hb7; obtain ⟨s0, s1, s2, s3, s4, s5, s6, s7⟩ := hB7.row; have HP7 := hid (HPL6.out w7 _ S7 ho7 hm7 hb7); have HB7 := hid hb7; have HX7 := hid hB7; clear ho7 hm7 hb7 hB7)
    | (go_at_call 89; refine HP7.out.mono ?_; rintro e w8 ⟨⟨u8, rfl, S8, ho8, hm8⟩, hb8, -⟩; obtain ⟨a8, c8, rfl⟩ := own_form ho8.1; have hB8 := boxes_after HX7.out hb8; obtain ⟨y0, y1, y2, y3, y4, y5, y6⟩ := hB8.cells; have HO8 := hid ho8; have HM8 := hid hm8; have HB8 := hid (HB7.out.trans hb8); have HX8 := hid hB8; clear ho8 hm8 hb8 hB8))
   all_goals
    go_wp2_with fail
    refine bodyPost_ret (v := .tuple #[.agg #[.slice a8 S8.length c8, .int .i64 next], .int .i64 0]) (by simp [results, Tryz.results65, go_sem, y3, y4]) rfl ⟨⟨_, _, rfl, S8, ?_, Or.inr (Or.inr (Or.inr ⟨rfl, HG.out, _, _, HAT.out, by rw [← hchr.out]; exact hgr, by rw [← hchr.out]; exact HM8.out⟩))⟩, ?_⟩
    ·have hb1 := own_not_box HO8.out HX8.out.res (by decide)
     have h2 := (HO8.out.set' hb1 0 (.slice a8 S8.length c8)).set' hb1 1 (.int .i64 next)
     exact ⟨owns_mono h2.1 (by omega), fun o hm => ⟨owns_mono (h2.2.1 o hm).1 (by omega), owns_mono (h2.2.1 o hm).2 (by omega)⟩, h2.2.2⟩
    ·refine Below.setCell ?_ (by simp; omega) _
     refine Below.setCell ?_ (by simp; omega) _
     exact hbw6.out.trans (HB8.out.mono (by omega))
end St
end Go.Proofs.YtckkkdldljhehacGreat
