/- What Set of package store answers when called over any store, number and row: the store with that row of the thing, or as it was and the error; nothing that was in memory before has changed. -/
import Derived.Test.YtckkkdldljhehabGreatPkD
import Derived.BigRegion
import Derived.Deep.DeepCutAuto
namespace Go.Proofs.YtckkkdldljhehabGreat.St
open Go.Proofs.YtckkkdldljhehabGreat.Num
open Go.ChangeShapes Go.WideShapes Go.ChangeAt Go.RowKit

def SetOut (next v : Int) (r : R8) (L : List Tab) (ec : Int) (L' : List Tab) : Prop :=
  (ec = 1 ∧ ¬ GoodL next L ∧ L' = L) ∨ (ec = 3 ∧ GoodL next L ∧ v ∉ allL L ∧ L' = L) ∨
  (ec = 2 ∧ GoodL next L ∧ (∃ m q, At L v m q ∧ goodRowB m r = false) ∧ L' = L) ∨ (ec = 0 ∧ GoodL next L ∧ (∃ m q, At L v m q ∧ goodRowB m r = true) ∧ L' = setL v r L)

/-- Tables of one's own, where a block ahead of theirs has changed. -/
theorem Own.kept {w w' : World} {B g : Nat} {v : Value} {S : List OT} (h : Own w B v S) (hg : w.grownBy w' (some g)) (hlt : g < B) : Own w' B v S := by
  have hb := blocks_lt h.2.1
  refine ⟨owns_kept h.1 hg (fun z hz e => by have := h.1.lt z hz; cases e; omega), fun o ho => otOwn_kept (h.2.1 o ho) hg (fun z hz e => ?_), h.2.2⟩
  have := hb z (List.mem_flatMap.2 ⟨o, ho, hz⟩)
  cases e
  omega
/-- A row written in tables of one's own. -/
theorem own_write {W : World} {B g n c : Nat} {A C : List OT} {o : OT} {gr rc j k : Nat} (r : R8) (h : Own W B (.slice (some ⟨g, 0, none⟩) n c) (A ++ o :: C)) (hrv : o.rv = .slice (some ⟨gr, 0, none⟩) (k + 1) rc) (hr : o.t.rows.length = k + 1) (hj : j ≤ k) :
    Own (setRow8 W gr j r) B (.slice (some ⟨g, 0, none⟩) n c) (A ++ ⟨⟨o.t.mask, o.t.ids, o.t.rows.set j r⟩, o.iv, o.rv⟩ :: C) := by
  obtain ⟨h1, h2, h3⟩ := h
  have hg := grown_row8 W gr j r
  have hap : ((g :: blocks A ++ o.iv.ownBlock.toList) ++ [gr] ++ blocks C).Nodup := by
    have : o.rv.ownBlock = some gr := by rw [hrv]; rfl
    have h4 := h3
    rw [blocks_mid, otBlocks, this] at h4
    simpa [Value.ownBlock] using h4
  have hrow : ∀ z, z ∈ (g :: blocks A ++ o.iv.ownBlock.toList) ∨ z ∈ blocks C → some gr ≠ some z := by
    intro z hz e
    cases e
    rw [List.append_assoc, List.nodup_append] at hap
    obtain ⟨_, hq, hd⟩ := hap
    rw [List.nodup_append] at hq
    rcases hz with hz | hz
    · exact hd gr hz gr (List.mem_append.2 (Or.inl (by simp))) rfl
    · exact hq.2.2 gr (by simp) gr hz rfl
  have ec : tabCells (A ++ (⟨⟨o.t.mask, o.t.ids, o.t.rows.set j r⟩, o.iv, o.rv⟩ : OT) :: C) = tabCells (A ++ o :: C) := by rw [tabCells_mid, tabCells_mid]; rfl
  have eb : blocks (A ++ (⟨⟨o.t.mask, o.t.ids, o.t.rows.set j r⟩, o.iv, o.rv⟩ : OT) :: C) = blocks (A ++ o :: C) := by rw [blocks_mid, blocks_mid]; rfl
  have el : (A ++ (⟨⟨o.t.mask, o.t.ids, o.t.rows.set j r⟩, o.iv, o.rv⟩ : OT) :: C).length = (A ++ o :: C).length := by simp
  refine ⟨?_, ?_, by rw [eb]; exact h3⟩
  · rw [ec, el]
    exact owns_kept h1 hg (fun z hz => hrow z (Or.inl (by simp [Value.ownBlock] at hz; simp [hz])))
  · intro x hx
    rcases List.mem_append.1 hx with hx | hx
    · have hb : ∀ z ∈ otBlocks x, z ∈ blocks A := fun z hz => List.mem_flatMap.2 ⟨x, hx, hz⟩
      exact otOwn_kept (h2 x (List.mem_append.2 (Or.inl hx))) hg (fun z hz => hrow z (Or.inl (by simp [hb z hz])))
    · rcases List.mem_cons.1 hx with rfl | hx
      · have ho := h2 o (List.mem_append.2 (Or.inr (List.mem_cons_self ..)))
        refine ⟨owns_kept ho.1 hg (fun z hz => hrow z (Or.inl (by simp [hz]))), ?_⟩
        have hq := ho.2
        rw [hrv, hr] at hq
        have := rows_write (j := j) r hr hj hq
        show (setRow8 W gr j r).ownsRow B 56 8 o.rv (o.t.rows.set j r).length ((o.t.rows.set j r).flatMap rowCells)
        rw [hrv, List.length_set, hr]
        exact this
      · have hb : ∀ z ∈ otBlocks x, z ∈ blocks C := fun z hz => List.mem_flatMap.2 ⟨x, hx, hz⟩
        exact otOwn_kept (h2 x (List.mem_append.2 (Or.inr (List.mem_cons_of_mem _ hx)))) hg (fun z hz => hrow z (Or.inr (hb z hz)))

set_option maxHeartbeats 2000000 in
set_option maxRecDepth 100000 in
theorem set_any (a : Option Addr) (n cap : Nat) (next v : Int) (r : R8) (T : Nat → TabV) (I : Nat → Nat → Int) (R : Nat → Nat → R8) (w : World) (h : StoreIn w a n T I R) :
    Calls Tryz.prog 107 #[.agg #[.slice a n cap, .int .i64 next], .int .i64 v, .agg #[.int .i64 r.x, .int .i64 r.y, .int .i64 r.px, .int .i64 r.py, .int .i64 r.wd, .int .i64 r.ht, .int .i64 r.ms, .int .i64 r.rr]] w fun e w' =>
      (∃ u ec, e = .returned (.tuple #[.agg #[u, .int .i64 next], .int .i64 ec]) ∧ ∃ S, Own w' w.heap.size u S ∧ SetOut next v r (plainOf T I R n) ec (S.map (·.t))) ∧ Below w.heap.size w w' := by
  have HST := hid h
  clear h
  go_enter Tryz.func107, Tryz.ntmps107
  go_wp2_with fail
  refine (clone_any a n cap next T I R _ (HST.out.below (bal (bal (bal (Below.refl _ _) _) _) _)).tabs (HST.out.below (bal (bal (bal (Below.refl _ _) _) _) _)).ids (HST.out.below (bal (bal (bal (Below.refl _ _) _) _) _)).rows HST.out.fits).mono ?_
  rintro e w1 ⟨⟨u, rfl, S, hown, hpl⟩, hb1⟩
  obtain ⟨a', c', rfl⟩ := own_form hown.1
  obtain ⟨N, hN⟩ : ∃ N, N = S.length := ⟨_, rfl⟩
  rw [← hN] at hown ⊢
  have HN := hid hN
  clear hN
  have hBX := hid ((Boxes.made w (.slice a n cap) next r).below hb1)
  have hz1 := hb1.size
  simp at hz1
  have hbw := hid (bcall (bal (bal (bal (Below.refl _ _) _) _) _) hb1)
  simp only [World.size_alloc] at hown
  have HO := hid hown
  have HPL := hid hpl
  clear hown hpl hb1
  obtain ⟨x0, x1, x2, x3, x4, x5, x6⟩ := hBX.out.cells
  have hs1 : w.heap.size < w1.heap.size := by omega
  go_wp2_with fail
  have hBA := hid (hBX.out.below (bal (Below.refl _ _) (.cells #[.slice a' N c', .int .i64 next] 24)))
  have hoA := hid (rowIs2 w1 (.slice a' N c') (.int .i64 next) 24)
  have HOA := hid (HO.out.below (bal (Below.refl _ _) (.cells #[.slice a' N c', .int .i64 next] 24)))
  refine (seek_any a n cap next v T I R _ (HST.out.below (bcall hbw.out (bal (Below.refl _ _) _)))).mono ?_
  rintro e w2 ⟨he, hb2⟩
  have hB2 := hid (hBA.out.below hb2)
  have ho2 := hid (rowIs_below hoA.out hb2)
  have HO2 := hid (HOA.out.below hb2)
  have hbw2 := hid (bcall (bcall hbw.out (bal (Below.refl _ _) _)) hb2)
  have hz2 := hb2.size
  simp at hz2
  clear hb2 hBX HO hbw x0 x1 x2 x3 x4 x5 x6 hBA hoA HOA
  obtain ⟨x0, x1, x2, x3, x4, x5, x6⟩ := hB2.out.cells
  have o0 := ho2.out.cell (i := 0) (by omega)
  have o1 := ho2.out.cell (i := 1) (by omega)
  simp at o0 o1
  have hne2 : w.heap.size + 1 + 1 ≠ w1.heap.size := by omega
  have hw12 : w1.heap.size < w2.heap.size := by omega
  have hw02 : w.heap.size + 1 + 1 < w2.heap.size := by omega
  have hfin : Hid (∀ (W : World) (u : Value) (S : List OT), Own W (w.heap.size + 1 + 1 + 1) u S → W.rowIs (w.heap.size + 1 + 1) 24 2 (fun i => if i = 0 then .slice none 0 0 else .int .i64 0) → Own ((W.setCell ⟨w.heap.size + 1 + 1, 0, none⟩ u).setCell ⟨w.heap.size + 1 + 1, 1, none⟩ (.int .i64 next)) w.heap.size u S) := by
    refine hid (fun W u S ho hb => ?_)
    have hb1 := own_not_box ho hb (by decide)
    have h2 := (ho.set' hb1 0 u).set' hb1 1 (.int .i64 next)
    exact ⟨owns_mono h2.1 (by omega), fun o hm => ⟨owns_mono (h2.2.1 o hm).1 (by omega), owns_mono (h2.2.1 o hm).2 (by omega)⟩, h2.2.2⟩
  rcases he with ⟨rfl, hg⟩ | ⟨rfl, hg, hno⟩ | ⟨i, j, rfl, hg, hi, hj, hv⟩
  · have HG := hid hg
    clear hg
    go_wp2_with fail
    refine bodyPost_ret (v := .tuple #[.agg #[.slice a' N c', .int .i64 next], .int .i64 1]) (by simp [results, Tryz.results107, go_sem, x3, x4, hw02]) rfl ⟨⟨_, _, rfl, S, (hfin.out _ _ _ HO2.out hB2.out.res).below (bal (Below.refl _ _) _), Or.inl ⟨rfl, HG.out, HPL.out⟩⟩, ?_⟩
    refine bal ?_ _
    refine Below.setCell ?_ (by simp; omega) _
    refine Below.setCell ?_ (by simp; omega) _
    exact hbw2.out
  · have HG := hid (And.intro hg hno)
    clear hg hno
    go_wp2_with fail
    refine bodyPost_ret (v := .tuple #[.agg #[.slice a' N c', .int .i64 next], .int .i64 3]) (by simp [results, Tryz.results107, go_sem, x3, x4, hw02]) rfl ⟨⟨_, _, rfl, S, (hfin.out _ _ _ HO2.out hB2.out.res).below (bal (Below.refl _ _) _), Or.inr (Or.inl ⟨rfl, HG.out.1, noneTo_iff.1 HG.out.2, HPL.out⟩)⟩, ?_⟩
    refine bal ?_ _
    refine Below.setCell ?_ (by simp; omega) _
    refine Below.setCell ?_ (by simp; omega) _
    exact hbw2.out
  · obtain ⟨A, o, C, rfl, hAl, hoj, hot⟩ := split_own HPL.out hi hj hv
    have hL : (A ++ o :: C).map (·.t) = A.map (·.t) ++ o.t :: C.map (·.t) := by simp
    have hgl : GoodL next ((A ++ o :: C).map (·.t)) := by rw [HPL.out]; exact hg
    obtain ⟨k, lst, q, rk, hsp⟩ := spot_of hgl.even hL hoj
    obtain ⟨hn31, -⟩ := goodL_n (fun i hi => (HST.out.hz i hi).1) hg
    have hNl : (A ++ o :: C).length = n := by have := congrArg List.length HPL.out; simpa [plainOf] using this
    have hN31 : N ≤ 31 := by have := HN.out; omega
    have hiN : (i : Int) < (N : Int) := by have := HN.out; omega
    have hjk : j ≤ k := hsp.lt
    have hk10 : k ≤ 9 := by
      have h2 := hsp.il
      have h3 := hgl.2.1
      rw [hL, allL_mid] at h3
      simp at h3
      omega
    obtain ⟨g, c, hgc⟩ := own_some (n := N) (v := .slice a' N c') (by have := HO2.out.1; rw [← HN.out] at this; exact this) (by rw [HN.out, List.length_append, List.length_cons]; omega)
    simp only [Value.slice.injEq] at hgc
    obtain ⟨rfl, -, rfl⟩ := hgc
    have hat : Hid (At (plainOf T I R n) v (T i).mask q) := hid (by
      have h1 := hsp.at_
      rw [HPL.out, hot] at h1
      exact h1)
    have hL2 : Hid (A.map (·.t) ++ (⟨o.t.mask, o.t.ids, o.t.rows.set j r⟩ : Tab) :: C.map (·.t) = setL v r (plainOf T I R n)) := hid (by
      rw [← HPL.out, hL, setL_eq (by rw [← hL]; exact hgl.2.2.2.2.2) (by rw [← hL]; exact hgl.even) hoj])
    obtain ⟨b, off, rfl, hb, hc⟩ := (HST.out.below hbw2.out).tabs (by omega)
    obtain ⟨t0, -, -⟩ := hc i hi
    have hi' : (i : Int) < (n : Int) := by omega
    have hn' : (n : Int) ≤ 31 := by omega
    have HG := hid hg
    have HROWS := hid hsp.rl
    have HQ := hid hsp.row
    have HAL := hid hAl
    clear hg hgl hsp hoj hot hL hj hv hNl hc hAl
    obtain ⟨r0, r1, r2, r3, r4, r5, r6, r7⟩ := hB2.out.row
    go_wp2_with fail
    have hB3 := hid (hB2.out.below (bal (Below.refl _ _) (.cells #[.int .i64 (i : Nat), .int .i64 j] 108)))
    have ho3 := hid (ho2.out.alloc (.cells #[.int .i64 (i : Nat), .int .i64 j] 108))
    have hp3 := hid (rowIs2 w2 (.int .i64 (i : Nat)) (.int .i64 j) 108)
    have HO3 := hid (HO2.out.below (bal (Below.refl _ _) (.cells #[.int .i64 (i : Nat), .int .i64 j] 108)))
    have hbw3 := hid (bal hbw2.out (.cells #[.int .i64 (i : Nat), .int .i64 j] 108))
    have hc3 : (w2.alloc (.cells #[.int .i64 (i : Nat), .int .i64 j] 108)).cell? ⟨b, off + i * 3, none⟩ = some (.int .i64 (T i).mask) := ((bal (Below.refl _ w2) _).cell (p := ⟨b, off + i * 3, none⟩) hb).trans t0
    have hbz : b < (w2.alloc (.cells #[.int .i64 (i : Nat), .int .i64 j] 108)).heap.size := by simp; omega
    have hw13 : w1.heap.size < (w2.alloc (.cells #[.int .i64 (i : Nat), .int .i64 j] 108)).heap.size := by simp; omega
    have hw23 : w2.heap.size < (w2.alloc (.cells #[.int .i64 (i : Nat), .int .i64 j] 108)).heap.size := by simp
    generalize w2.alloc (.cells #[.int .i64 (i : Nat), .int .i64 j] 108) = W at hB3 ho3 hp3 HO3 hbw3 hc3 hbz hw13 hw23 ⊢
    clear hB2 ho2 HO2 hbw2 x0 x1 x2 x3 x4 x5 x6 o0 o1 r0 r1 r2 r3 r4 r5 r6 r7 t0
    obtain ⟨x0, x1, x2, x3, x4, x5, x6⟩ := hB3.out.cells
    obtain ⟨r0, r1, r2, r3, r4, r5, r6, r7⟩ := hB3.out.row
    have p0 := hp3.out.cell (i := 0) (by omega)
    simp at p0
    go_cut [32] (fun s32 wx => s32 = .bool (!goodRowB (T i).mask ⟨r.x, r.y, r.px, r.py, r.wd, r.ht, r.ms, r.rr⟩) ∧ Below W.heap.size W wx)
    case first =>
      go_region_with (go_at_call 91; refine (goodRow_any _ _ _ _ _ _ _ _ _ _).mono ?_; rintro e w4 ⟨rfl, hb4⟩; have HB4 := hid hb4; clear hb4)
      all_goals
        go_wp2_with fail
        go_meet
        exact ⟨rfl, (Below.drew (Below.refl _ W)).trans HB4.out⟩
    case rest =>
    obtain ⟨rfl, hb4⟩ := hcut
    have hB4 := hid (hB3.out.below hb4)
    have ho4 := hid (rowIs_below ho3.out hb4)
    have hp4 := hid (rowIs_below hp3.out hb4)
    have HO4 := hid (HO3.out.below hb4)
    have hbw4 := hid (bcall hbw3.out hb4)
    clear hB3 ho3 HO3 hbw3 x0 x1 x2 x3 x4 x5 x6 r0 r1 r2 r3 r4 r5 r6 r7 p0 hb4
    cases hgr : goodRowB (T i).mask ⟨r.x, r.y, r.px, r.py, r.wd, r.ht, r.ms, r.rr⟩
    · obtain ⟨x0, x1, x2, x3, x4, x5, x6⟩ := hB4.out.cells
      have o0 := ho4.out.cell (i := 0) (by omega)
      have o1 := ho4.out.cell (i := 1) (by omega)
      simp at o0 o1
      go_wp2_with fail
      refine bodyPost_ret (v := .tuple #[.agg #[.slice (some ⟨g, 0, none⟩) N c', .int .i64 next], .int .i64 2]) (by simp [results, Tryz.results107, go_sem, x3, x4]) rfl ⟨⟨_, _, rfl, _, hfin.out _ _ _ HO4.out hB4.out.res, Or.inr (Or.inr (Or.inl ⟨rfl, HG.out, ⟨_, _, hat.out, hgr⟩, HPL.out⟩))⟩, ?_⟩
      refine Below.setCell ?_ (by simp; omega) _
      refine Below.setCell ?_ (by simp; omega) _
      exact hbw4.out
    · have hO := HO4.out.2.1 o (by simp)
      rw [OtOwn, HROWS.out] at hO
      obtain ⟨gr, rc, hrv⟩ := own_some hO.2 (by omega)
      have HR := hid hO.2
      rw [hrv] at HR
      have HRV := hid hrv
      obtain ⟨-, -, t2⟩ := HO4.out.cell HN.out
      rw [HAL.out, hrv] at t2
      clear hO hrv
      obtain ⟨x0, x1, x2, x3, x4, x5, x6⟩ := hB4.out.cells
      obtain ⟨r0, r1, r2, r3, r4, r5, r6, r7⟩ := hB4.out.row
      have p0 := hp4.out.cell (i := 0) (by omega)
      have p1 := hp4.out.cell (i := 1) (by omega)
      have o0 := ho4.out.cell (i := 0) (by omega)
      have o1 := ho4.out.cell (i := 1) (by omega)
      simp at p0 p1 o0 o1
      obtain ⟨s0, s1, s2, s3, s4, s5, s6, s7⟩ := row_at HR.out HQ.out
      have f0 : wc.frozen? ⟨gr, j * 8, none⟩ = false := HR.out.frozenAt (j * 8)
      have f1 : wc.frozen? ⟨gr, j * 8 + 1, none⟩ = false := HR.out.frozenAt (j * 8 + 1)
      have f2 : wc.frozen? ⟨gr, j * 8 + 2, none⟩ = false := HR.out.frozenAt (j * 8 + 2)
      have f3 : wc.frozen? ⟨gr, j * 8 + 3, none⟩ = false := HR.out.frozenAt (j * 8 + 3)
      have f4 : wc.frozen? ⟨gr, j * 8 + 4, none⟩ = false := HR.out.frozenAt (j * 8 + 4)
      have f5 : wc.frozen? ⟨gr, j * 8 + 5, none⟩ = false := HR.out.frozenAt (j * 8 + 5)
      have f6 : wc.frozen? ⟨gr, j * 8 + 6, none⟩ = false := HR.out.frozenAt (j * 8 + 6)
      have f7 : wc.frozen? ⟨gr, j * 8 + 7, none⟩ = false := HR.out.frozenAt (j * 8 + 7)
      have hjk' : (j : Int) < (k : Int) + 1 := by omega
      go_wp2_with fail
      go_cut [] (fun wx => wx = (setRow8 wc gr j r).drew)
      case first =>
        go_region
        all_goals
          go_wp2_with fail
          go_meet
          all_goals rfl
      case rest =>
      obtain rfl := hcut
      have hgB : w.heap.size + 1 + 1 + 1 ≤ gr := (HR.out.lt gr rfl).1
      have HO5 := hid (own_write r HO4.out HRV.out HROWS.out hjk)
      have hgr1 : gr ≠ w1.heap.size := fun e => own_not_box HO4.out ho4.out (by decide) (by rw [← e]; simp [blocks_mid, otBlocks, HRV.out, Value.ownBlock])
      have hgrow := grown_row8 wc gr j r
      have hB5 := hid (hB4.out.grown hgrow (fun x e => by cases e; exact Or.inr (by omega)))
      have ho5 := hid (rowIs_grown ho4.out hgrow (fun e => hgr1 (by cases e; rfl)))
      have hbw5 := hid (hbw4.out.grown hgrow (by have := hbw4.out.size; omega) (fun x e => by cases e; omega))
      clear hgrow x0 x1 x2 x3 x4 x5 x6 r0 r1 r2 r3 r4 r5 r6 r7 p0 p1 o0 o1 s0 s1 s2 s3 s4 s5 s6 s7 f0 f1 f2 f3 f4 f5 f6 f7 t2 hB4 ho4 HO4 hbw4 HR
      generalize setRow8 wc gr j r = W5 at HO5 hB5 ho5 hbw5 ⊢
      obtain ⟨x0, x1, x2, x3, x4, x5, x6⟩ := hB5.out.cells
      have o0 := ho5.out.cell (i := 0) (by omega)
      have o1 := ho5.out.cell (i := 1) (by omega)
      simp at o0 o1
      go_wp2_with fail
      refine bodyPost_ret (v := .tuple #[.agg #[.slice (some ⟨g, 0, none⟩) N c', .int .i64 next], .int .i64 0]) (by simp [results, Tryz.results107, go_sem, x3, x4]) rfl ⟨⟨_, _, rfl, _, hfin.out _ _ _ HO5.out hB5.out.res, Or.inr (Or.inr (Or.inr ⟨rfl, HG.out, ⟨_, _, hat.out, hgr⟩, ?_⟩))⟩, ?_⟩
      · rw [← hL2.out]; simp
      · refine Below.drew ?_
        refine Below.setCell ?_ (by simp; omega) _
        refine Below.setCell ?_ (by simp; omega) _
        exact hbw5.out
end Go.Proofs.YtckkkdldljhehabGreat.St
