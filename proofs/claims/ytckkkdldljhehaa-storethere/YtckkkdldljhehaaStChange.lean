/- What Change of package store answers when called over any store, number, mask and row: the store with the thing of that mask, or as it was and the error; nothing that was in memory before has changed. -/
import Derived.Test.YtckkkdldljhehaaStSet
import Derived.Test.YtckkkdldljhehaaStKill
import Derived.Test.YtckkkdldljhehaaStInsert4
import Derived.Deep.DrawnRows
namespace Go.Proofs.Ytckkkdldljhehaa.St
open Go.Proofs.Ytckkkdldljhehaa.Num
open Go.ChangeShapes Go.WideShapes Go.ChangeAt Go.RowKit

/-- The row of a thing that comes to have another mask. -/
def chR (mask m : Int) (q r : R8) : R8 := onlyR mask (layR m q r)
def ChangeOut (next v mask : Int) (r : R8) (L : List Tab) (ec : Int) (L' : List Tab) : Prop :=
  (ec = 1 ∧ ¬ GoodL next L ∧ L' = L) ∨ (ec = 3 ∧ GoodL next L ∧ v ∉ allL L ∧ L' = L) ∨
  (ec = 2 ∧ GoodL next L ∧ (∃ m q, At L v m q ∧ goodRowB mask (chR mask m q r) = false) ∧ L' = L) ∨ (ec = 0 ∧ GoodL next L ∧ ∃ m q, At L v m q ∧ goodRowB mask (chR mask m q r) = true ∧ L' = putT mask v (chR mask m q r) (killT v L))
theorem Boxes.setR {W : World} {b : Nat} {v : Value} {next : Int} {r : R8} (h : Boxes W b v next r) (q : R8) : Boxes (setRow8 W (b + 1) 0 q) b v next q := by
  have hg := grown_row8 W (b + 1) 0 q
  refine ⟨rowIs_grown h.s hg (by simp), ?_, rowIs_grown h.res hg (by simp)⟩
  unfold setRow8
  refine ((((((((h.r.set 0 _).set 1 _).set 2 _).set 3 _).set 4 _).set 5 _).set 6 _).set 7 _).congr (fun i hi => ?_)
  match i, hi with
  | 0, _ => rfl
  | 1, _ => rfl
  | 2, _ => rfl
  | 3, _ => rfl
  | 4, _ => rfl
  | 5, _ => rfl
  | 6, _ => rfl
  | 7, _ => rfl

attribute [local go_sem ↓] Go.wp_at_zero Go.wp_at_succ
set_option maxHeartbeats 20000000 in
set_option maxRecDepth 100000 in
theorem change_any (a : Option Addr) (n cap : Nat) (next v mask : Int) (r : R8) (T : Nat → TabV) (I : Nat → Nat → Int) (R : Nat → Nat → R8) (w : World) (h : StoreIn w a n T I R) :
    Calls Try.prog 40 #[.agg #[.slice a n cap, .int .i64 next], .int .i64 v, .int .i64 mask, .agg #[.int .i64 r.x, .int .i64 r.y, .int .i64 r.px, .int .i64 r.py, .int .i64 r.wd, .int .i64 r.ht, .int .i64 r.ms, .int .i64 r.rr]] w fun e w' =>
      (∃ u ec, e = .returned (.tuple #[.agg #[u, .int .i64 next], .int .i64 ec]) ∧ ∃ S, Own w' w.heap.size u S ∧ ChangeOut next v mask r (plainOf T I R n) ec (S.map (·.t))) ∧ Below w.heap.size w w' := by
  have HST := hid h
  clear h
  go_enter Try.func40, Try.ntmps40
  go_wp2_with fail
  refine (clone_any a n cap next T I R _ (HST.out.below (bal (bal (bal (Below.refl _ _) _) _) _)).tabs (HST.out.below (bal (bal (bal (Below.refl _ _) _) _) _)).ids (HST.out.below (bal (bal (bal (Below.refl _ _) _) _) _)).rows HST.out.fits).mono ?_
  rintro e w1 ⟨⟨u, rfl, S, hown, hpl⟩, hb1⟩
  obtain ⟨a', c', rfl⟩ := own_form hown.1
  obtain ⟨N, hN⟩ : ∃ N, N = S.length := ⟨_, rfl⟩
  rw [← hN] at hown ⊢
  have HN := hid hN
  clear hN
  have hBX := hid ((Boxes.made w (.slice a n cap) next r).below hb1)
  have hz1 := hb1.size
  simp at hz1
  have hbw := hid (bcall (bal (bal (bal (Below.refl _ _) _) _) _) hb1)
  simp only [World.size_alloc] at hown
  have HO := hid hown
  have HPL := hid hpl
  clear hown hpl hb1
  obtain ⟨x0, x1, x2, x3, x4, x5, x6⟩ := hBX.out.cells
  have hs1 : w.heap.size < w1.heap.size := by omega
  go_wp2_with fail
  have hBA := hid (hBX.out.below (bal (Below.refl _ _) (.cells #[.slice a' N c', .int .i64 next] 28)))
  have hoA := hid (rowIs2 w1 (.slice a' N c') (.int .i64 next) 28)
  have HOA := hid (HO.out.below (bal (Below.refl _ _) (.cells #[.slice a' N c', .int .i64 next] 28)))
  refine (seek_any a n cap next v T I R _ (HST.out.below (bcall hbw.out (bal (Below.refl _ _) _)))).mono ?_
  rintro e w2 ⟨he, hb2⟩
  have hB2 := hid (hBA.out.below hb2)
  have ho2 := hid (rowIs_below hoA.out hb2)
  have HO2 := hid (HOA.out.below hb2)
  have hbw2 := hid (bcall (bcall hbw.out (bal (Below.refl _ _) _)) hb2)
  have hz2 := hb2.size
  simp at hz2
  clear hb2 hBX HO hbw x0 x1 x2 x3 x4 x5 x6 hBA hoA HOA
  obtain ⟨x0, x1, x2, x3, x4, x5, x6⟩ := hB2.out.cells
  have o0 := ho2.out.cell (i := 0) (by omega)
  have o1 := ho2.out.cell (i := 1) (by omega)
  simp at o0 o1
  have hne2 : w.heap.size + 1 + 1 ≠ w1.heap.size := by omega
  have hw12 : w1.heap.size < w2.heap.size := by omega
  have hw02 : w.heap.size + 1 + 1 < w2.heap.size := by omega
  have hfin : Hid (∀ (W : World) (u : Value) (S : List OT), Own W (w.heap.size + 1 + 1 + 1) u S → W.rowIs (w.heap.size + 1 + 1) 28 2 (fun i => if i = 0 then .slice none 0 0 else .int .i64 0) → Own ((W.setCell ⟨w.heap.size + 1 + 1, 0, none⟩ u).setCell ⟨w.heap.size + 1 + 1, 1, none⟩ (.int .i64 next)) w.heap.size u S) := by
    refine hid (fun W u S ho hb => ?_)
    have hb1 := own_not_box ho hb (by decide)
    have h2 := (ho.set' hb1 0 u).set' hb1 1 (.int .i64 next)
    exact ⟨owns_mono h2.1 (by omega), fun o hm => ⟨owns_mono (h2.2.1 o hm).1 (by omega), owns_mono (h2.2.1 o hm).2 (by omega)⟩, h2.2.2⟩
  rcases he with ⟨rfl, hg⟩ | ⟨rfl, hg, hno⟩ | ⟨i, j, rfl, hg, hi, hj, hv⟩
  · have HG := hid hg
    clear hg
    go_wp2_with fail
    refine bodyPost_ret (v := .tuple #[.agg #[.slice a' N c', .int .i64 next], .int .i64 1]) (by simp [results, Try.results40, go_sem, x3, x4, hw02]) rfl ⟨⟨_, _, rfl, S, (hfin.out _ _ _ HO2.out hB2.out.res).below (bal (Below.refl _ _) _), Or.inl ⟨rfl, HG.out, HPL.out⟩⟩, ?_⟩
    refine bal ?_ _
    refine Below.setCell ?_ (by simp; omega) _
    refine Below.setCell ?_ (by simp; omega) _
    exact hbw2.out
  · have HG := hid (And.intro hg hno)
    clear hg hno
    go_wp2_with fail
    refine bodyPost_ret (v := .tuple #[.agg #[.slice a' N c', .int .i64 next], .int .i64 3]) (by simp [results, Try.results40, go_sem, x3, x4, hw02]) rfl ⟨⟨_, _, rfl, S, (hfin.out _ _ _ HO2.out hB2.out.res).below (bal (Below.refl _ _) _), Or.inr (Or.inl ⟨rfl, HG.out.1, noneTo_iff.1 HG.out.2, HPL.out⟩)⟩, ?_⟩
    refine bal ?_ _
    refine Below.setCell ?_ (by simp; omega) _
    refine Below.setCell ?_ (by simp; omega) _
    exact hbw2.out
  · obtain ⟨A, o, C, rfl, hAl, hoj, hot⟩ := split_own HPL.out hi hj hv
    have hL : (A ++ o :: C).map (·.t) = A.map (·.t) ++ o.t :: C.map (·.t) := by simp
    have hgl : GoodL next ((A ++ o :: C).map (·.t)) := by rw [HPL.out]; exact hg
    obtain ⟨k, lst, q, rk, hsp⟩ := spot_of hgl.even hL hoj
    obtain ⟨hn31, -⟩ := goodL_n (fun i hi => (HST.out.hz i hi).1) hg
    have hNl : (A ++ o :: C).length = n := by have := congrArg List.length HPL.out; simpa [plainOf] using this
    have hN31 : N ≤ 31 := by have := HN.out; omega
    have hiN : (i : Int) < (N : Int) := by have := HN.out; omega
    have hjk : j ≤ k := hsp.lt
    have hk10 : k ≤ 9 := by
      have h2 := hsp.il
      have h3 := hgl.2.1
      rw [hL, allL_mid] at h3
      simp at h3
      omega
    obtain ⟨g, c, hgc⟩ := own_some (n := N) (v := .slice a' N c') (by have := HO2.out.1; rw [← HN.out] at this; exact this) (by rw [HN.out, List.length_append, List.length_cons]; omega)
    simp only [Value.slice.injEq] at hgc
    obtain ⟨rfl, -, rfl⟩ := hgc
    have hat : Hid (At (plainOf T I R n) v (T i).mask q) := hid (by
      have h1 := hsp.at_
      rw [HPL.out, hot] at h1
      exact h1)
    have hqR : q = R i j := by
      have h1 := hsp.row
      rw [hot] at h1
      have h2 := hsp.rl
      rw [hot] at h2
      simp only [tabOf, List.length_map, List.length_range] at h2
      simp only [tabOf, List.getElem?_map] at h1
      rw [List.getElem?_range (by omega)] at h1
      simpa using h1.symm
    have hrl : (T i).rl = k + 1 := by
      have h2 := hsp.rl
      rw [hot] at h2
      simpa [tabOf] using h2
    obtain ⟨rl, HRL⟩ : ∃ rl, Hid (rl = layR (T i).mask q r) := ⟨_, rfl⟩
    obtain ⟨rn, HRN⟩ : ∃ rn, Hid (rn = onlyR mask rl) := ⟨_, rfl⟩
    have hchr : Hid (rn = chR mask (T i).mask q r) := hid (by rw [HRN.out, HRL.out]; rfl)
    have HLAY : Hid (∀ W', Calls Try.prog 74 #[.int .i64 (T i).mask, .agg #[.int .i64 (R i j).x, .int .i64 (R i j).y, .int .i64 (R i j).px, .int .i64 (R i j).py, .int .i64 (R i j).wd, .int .i64 (R i j).ht, .int .i64 (R i j).ms, .int .i64 (R i j).rr], .agg #[.int .i64 r.x, .int .i64 r.y, .int .i64 r.px, .int .i64 r.py, .int .i64 r.wd, .int .i64 r.ht, .int .i64 r.ms, .int .i64 r.rr]] W' fun e w' =>
        e = .returned (.agg #[.int .i64 rl.x, .int .i64 rl.y, .int .i64 rl.px, .int .i64 rl.py, .int .i64 rl.wd, .int .i64 rl.ht, .int .i64 rl.ms, .int .i64 rl.rr]) ∧ Below W'.heap.size W' w') :=
      hid (fun W' => by rw [HRL.out, hqR]; exact lay_any _ _ _ _ _ _ _ _ _ _ _ _ _ _ _ _ _ W')
    have HONL : Hid (∀ W', Calls Try.prog 28 #[.int .i64 mask, .agg #[.int .i64 rl.x, .int .i64 rl.y, .int .i64 rl.px, .int .i64 rl.py, .int .i64 rl.wd, .int .i64 rl.ht, .int .i64 rl.ms, .int .i64 rl.rr]] W' fun e w' =>
        e = .returned (.agg #[.int .i64 rn.x, .int .i64 rn.y, .int .i64 rn.px, .int .i64 rn.py, .int .i64 rn.wd, .int .i64 rn.ht, .int .i64 rn.ms, .int .i64 rn.rr]) ∧ Below W'.heap.size W' w') :=
      hid (fun W' => by rw [HRN.out]; exact only_any _ _ _ _ _ _ _ _ _ W')
    have HT : Hid (∀ W : World, Own W (w.heap.size + 1 + 1 + 1) (.slice (some ⟨g, 0, none⟩) N c') (A ++ o :: C) → w.heap.size + 1 + 1 + 1 ≤ W.heap.size → Calls Try.prog 83 #[.agg #[.slice (some ⟨g, 0, none⟩) N c', .int .i64 next], .agg #[.int .i64 (i : Nat), .int .i64 j]] W fun e w' =>
        (∃ u, e = .returned (.agg #[u, .int .i64 next]) ∧ ∃ S', Own w' (w.heap.size + 1 + 1 + 1) u S' ∧ S'.map (·.t) = killT v (plainOf T I R n)) ∧ Below (w.heap.size + 1 + 1 + 1) W w' ∧ Keep W w') := by
      refine hid (fun W ho hs => ?_)
      have ht := takeOut_own g N c' next (w.heap.size + 1 + 1 + 1) A C o j k lst rk W HN.out hs (by omega) hsp.il hsp.rl (by omega) hsp.lt hsp.li hsp.lr ho
      rw [hAl] at ht
      refine ht.mono ?_
      rintro e w' ⟨⟨u, rfl, S', ho', hm'⟩, hb'⟩
      refine ⟨⟨u, rfl, S', ho', ?_⟩, hb'⟩
      rw [hm', ← HPL.out, hL, killT_eq (by rw [← hL]; exact hgl.2.2.2.2.2) hoj hsp.il hsp.rl hsp.li hsp.lr]
      unfold takeL
      simp
    have hmem : v ∈ allL (plainOf T I R n) := by rw [← HPL.out, hL, allL_mid]; exact List.mem_append.2 (Or.inr (List.mem_append.2 (Or.inl (List.mem_of_getElem? hoj))))
    have HP : Hid (∀ (W : World) (u : Value) (S' : List OT), Own W (w.heap.size + 1 + 1 + 1) u S' → S'.map (·.t) = killT v (plainOf T I R n) → w.heap.size + 1 + 1 + 1 ≤ W.heap.size → Calls Try.prog 81 #[.agg #[u, .int .i64 next], .int .i64 mask, .int .i64 v, .agg #[.int .i64 rn.x, .int .i64 rn.y, .int .i64 rn.px, .int .i64 rn.py, .int .i64 rn.wd, .int .i64 rn.ht, .int .i64 rn.ms, .int .i64 rn.rr]] W fun e w' =>
        (∃ u, e = .returned (.agg #[u, .int .i64 next]) ∧ ∃ S'', Own w' (w.heap.size + 1 + 1 + 1) u S'' ∧ S''.map (·.t) = putT mask v rn (killT v (plainOf T I R n))) ∧ Below (w.heap.size + 1 + 1 + 1) W w' ∧ Keep W w') := by
      refine hid (fun W u S' ho hm hs => ?_)
      obtain ⟨ka, kp, -⟩ := kill_all hg hmem
      obtain ⟨a6, c6, rfl⟩ := own_form ho.1
      have hlen : (allL (killT v (plainOf T I R n))).length ≤ 9 := by have h1 := kp.length_eq; have h2 := hg.2.1; simp at h1; omega
      have hSl : ∀ o ∈ S', o.t.ids.length ≤ 1000 ∧ o.t.rows.length ≤ 1000 := fun o ho => by
        have hm' : o.t ∈ killT v (plainOf T I R n) := by rw [← hm]; exact List.mem_map.2 ⟨o, ho, rfl⟩
        have h1 := len_le hlen _ hm'
        have h2 := (ka.2.2.2.2.1 _ hm').2.1
        omega
      have hS31 : S'.length ≤ 1000 := by
        have h1 := goodL_len ka
        rw [← hm, List.length_map] at h1
        omega
      have hp := putIn_any a6 S'.length c6 next v mask (w.heap.size + 1 + 1 + 1) S' rn W rfl hs hS31 hSl ho (rising_of hm ka.2.2.2.1) (fun A C e _ _ => insertAt_any a6 S'.length c6 _ A C mask (by rw [e]) hS31)
      rw [hm] at hp
      exact hp
    have HG := hid hg
    obtain ⟨b, off, rfl, hb, hc⟩ := (HST.out.below hbw2.out).tabs (by omega)
    obtain ⟨t0, t1, t2⟩ := hc i hi
    obtain ⟨b', off', hra, hb', hc'⟩ := (HST.out.below hbw2.out).rows i hi (by omega)
    obtain ⟨q0, q1, q2, q3, q4, q5, q6, q7⟩ := hc' j (by omega)
    rw [hra, hrl] at t2
    have hi' : (i : Int) < (n : Int) := by omega
    have hn' : (n : Int) ≤ 31 := by omega
    have hjk' : (j : Int) < (k : Int) + 1 := by omega
    have HAL := hid hAl
    clear hg hgl hsp hoj hot hL hj hv hNl hc hc' hAl hqR hmem
    obtain ⟨r0, r1, r2, r3, r4, r5, r6, r7⟩ := hB2.out.row
    have hw00 : w.heap.size < w2.heap.size := by omega
    have hw01 : w.heap.size + 1 < w2.heap.size := by omega
    go_wp2_with fail
    have hb3 : Below w2.heap.size w2 ((w2.alloc (.cells #[.int .i64 (i : Nat), .int .i64 j] 98)).alloc (.cells #[.int .i64 (T i).mask, .slice (T i).ia (T i).il (T i).ic, .slice (some ⟨b', off', none⟩) (k + 1) (T i).rc] 66)) := bal (bal (Below.refl _ w2) _) _
    have hB3 := hid (hB2.out.below hb3)
    have ho3 := hid (rowIs_below ho2.out hb3)
    have hp3 := hid ((rowIs2 w2 (.int .i64 (i : Nat)) (.int .i64 j) 98).alloc (.cells #[.int .i64 (T i).mask, .slice (T i).ia (T i).il (T i).ic, .slice (some ⟨b', off', none⟩) (k + 1) (T i).rc] 66))
    have HO3 := hid (HO2.out.below hb3)
    have hbw3 := hid (bcall hbw2.out hb3)
    have tb0 : ((w2.alloc (.cells #[.int .i64 (i : Nat), .int .i64 j] 98)).alloc (.cells #[.int .i64 (T i).mask, .slice (T i).ia (T i).il (T i).ic, .slice (some ⟨b', off', none⟩) (k + 1) (T i).rc] 66)).cell? ⟨w2.heap.size + 1, 0, none⟩ = some (.int .i64 (T i).mask) := by simp
    have tb2 : ((w2.alloc (.cells #[.int .i64 (i : Nat), .int .i64 j] 98)).alloc (.cells #[.int .i64 (T i).mask, .slice (T i).ia (T i).il (T i).ic, .slice (some ⟨b', off', none⟩) (k + 1) (T i).rc] 66)).cell? ⟨w2.heap.size + 1, 2, none⟩ = some (.slice (some ⟨b', off', none⟩) (k + 1) (T i).rc) := by simp
    have hz3 : ((w2.alloc (.cells #[.int .i64 (i : Nat), .int .i64 j] 98)).alloc (.cells #[.int .i64 (T i).mask, .slice (T i).ia (T i).il (T i).ic, .slice (some ⟨b', off', none⟩) (k + 1) (T i).rc] 66)).heap.size = w2.heap.size + 1 + 1 := by simp
    rw [← hb3.cell (by exact hb')] at q0 q1 q2 q3 q4 q5 q6 q7
    generalize (w2.alloc (.cells #[.int .i64 (i : Nat), .int .i64 j] 98)).alloc (.cells #[.int .i64 (T i).mask, .slice (T i).ia (T i).il (T i).ic, .slice (some ⟨b', off', none⟩) (k + 1) (T i).rc] 66) = W at hB3 ho3 hp3 HO3 hbw3 tb0 tb2 hz3 q0 q1 q2 q3 q4 q5 q6 q7 ⊢
    clear hb3 hB2 ho2 HO2 hbw2 x0 x1 x2 x3 x4 x5 x6 o0 o1 r0 r1 r2 r3 r4 r5 r6 r7 t0 t1 t2
    have hW01 : w.heap.size + 1 < W.heap.size := by omega
    have hW22 : w2.heap.size < W.heap.size := by omega
    have HZ3 := hid hz3
    clear hz3
    obtain ⟨r0, r1, r2, r3, r4, r5, r6, r7⟩ := hB3.out.row
    have p1 := hp3.out.cell (i := 1) (by omega)
    simp at p1
    have rf0 := hB3.out.r.frozen 0
    have rf1 := hB3.out.r.frozen 1
    have rf2 := hB3.out.r.frozen 2
    have rf3 := hB3.out.r.frozen 3
    have rf4 := hB3.out.r.frozen 4
    have rf5 := hB3.out.r.frozen 5
    have rf6 := hB3.out.r.frozen 6
    have rf7 := hB3.out.r.frozen 7
    go_cut [] (fun wx => ∃ w5, Below W.heap.size W w5 ∧ wx = setRow8 w5 (w.heap.size + 1) 0 rn)
    case first =>
      clear hfin HP HT HG hat hchr HRL HRN HPL HST HN HAL HO3 hbw3 hB3 ho3 hp3 HZ3
      go_region_with (first
        | (go_at_call 74; refine (HLAY.out _).mono ?_; rintro e w4 ⟨rfl, hb4d⟩; have hb4 : Below W.heap.size W w4 := (Below.drew (Below.refl _ W)).trans hb4d; obtain ⟨hc4, hf4⟩ := bcell hb4; have hw4 : w.heap.size + 1 < w4.heap.size := Nat.lt_of_lt_of_le hW01 hb4.size; have HB4 := hid hb4; clear hb4 hb4d)
        | (go_at_call 28; refine (HONL.out _).mono ?_; rintro e w5 ⟨rfl, hb5⟩; obtain ⟨hc5, hf5⟩ := bcell hb5; have HB5 := hid (bcall HB4.out hb5); clear hb5))
      all_goals
        go_wp2_with fail
        go_meet
        exact ⟨_, HB5.out, rfl⟩
    case rest =>
    obtain ⟨w5, hb5, rfl⟩ := hcut
    have hB5 := hid ((hB3.out.below hb5).setR rn)
    have hgr5 := grown_row8 w5 (w.heap.size + 1) 0 rn
    have ho5 := hid (rowIs_grown (rowIs_below ho3.out hb5) hgr5 (by simp; omega))
    have hp5 := hid (rowIs_grown (rowIs_below hp3.out hb5) hgr5 (by simp; omega))
    have HO5 : Hid (Own (setRow8 w5 (w.heap.size + 1) 0 rn) (w.heap.size + 1 + 1 + 1) (.slice (some ⟨g, 0, none⟩) N c') (A ++ o :: C)) := hid ((HO3.out.below hb5).kept hgr5 (by omega))
    have hbw5 := hid ((bcall hbw3.out hb5).grown hgr5 (by have := hb5.size; have := hbw3.out.size; omega) (fun x e => by cases e; omega))
    have hz5 : Hid (w2.heap.size + 1 + 1 ≤ (setRow8 w5 (w.heap.size + 1) 0 rn).heap.size) := hid (by have h1 := hb5.size; have h2 := HZ3.out; have h3 := hgr5.size; omega)
    clear hb5 hgr5 hB3 ho3 hp3 HO3 hbw3 r0 r1 r2 r3 r4 r5 r6 r7 rf0 rf1 rf2 rf3 rf4 rf5 rf6 rf7 p1 tb0 tb2 q0 q1 q2 q3 q4 q5 q6 q7
    generalize setRow8 w5 (w.heap.size + 1) 0 rn = W5 at hB5 ho5 hp5 HO5 hbw5 hz5 ⊢
    obtain ⟨r0, r1, r2, r3, r4, r5, r6, r7⟩ := hB5.out.row
    go_wp2_with fail
    refine (goodRow_any _ _ _ _ _ _ _ _ _ _).mono ?_
    rintro e w6 ⟨rfl, hb6⟩
    have hB6 := hid (hB5.out.below hb6)
    have ho6 := hid (rowIs_below ho5.out hb6)
    have hp6 := hid (rowIs_below hp5.out hb6)
    have HO6 := hid (HO5.out.below hb6)
    have hbw6 := hid (bcall hbw5.out hb6)
    have hz6 := hid (Nat.le_trans hz5.out hb6.size)
    clear hb6 hB5 ho5 hp5 HO5 hbw5 hz5 r0 r1 r2 r3 r4 r5 r6 r7
    obtain ⟨x0, x1, x2, x3, x4, x5, x6⟩ := hB6.out.cells
    obtain ⟨r0, r1, r2, r3, r4, r5, r6, r7⟩ := hB6.out.row
    have o0 := ho6.out.cell (i := 0) (by omega)
    have o1 := ho6.out.cell (i := 1) (by omega)
    have p0 := hp6.out.cell (i := 0) (by omega)
    have p1 := hp6.out.cell (i := 1) (by omega)
    simp at o0 o1 p0 p1
    cases hgr : goodRowB mask ⟨rn.x, rn.y, rn.px, rn.py, rn.wd, rn.ht, rn.ms, rn.rr⟩
    · go_wp2_with fail
      refine bodyPost_ret (v := .tuple #[.agg #[.slice (some ⟨g, 0, none⟩) N c', .int .i64 next], .int .i64 2]) (by simp [results, Try.results40, go_sem, x3, x4]) rfl ⟨⟨_, _, rfl, _, hfin.out _ _ _ HO6.out hB6.out.res, Or.inr (Or.inr (Or.inl ⟨rfl, HG.out, ⟨_, _, hat.out, by rw [← hchr.out]; exact hgr⟩, HPL.out⟩))⟩, ?_⟩
      refine Below.setCell ?_ (by simp; omega) _
      refine Below.setCell ?_ (by simp; omega) _
      exact hbw6.out
    · go_wp2_with fail
      have hs6 : w.heap.size + 1 + 1 + 1 ≤ w6.heap.size := by have := hz6.out; omega
      have HT6 : Hid (Calls Try.prog 83 #[.agg #[.slice (some ⟨g, 0, none⟩) N c', .int .i64 next], .agg #[.int .i64 (i : Nat), .int .i64 j]] w6.drew fun e w' =>
        (∃ u, e = .returned (.agg #[u, .int .i64 next]) ∧ ∃ S', Own w' (w.heap.size + 1 + 1 + 1) u S' ∧ S'.map (·.t) = killT v (plainOf T I R n)) ∧ Below (w.heap.size + 1 + 1 + 1) w6 w') := by
        refine hid ((HT.out w6.drew HO6.out hs6).mono ?_)
        rintro e w' ⟨h1, h2, h3⟩
        exact ⟨h1, (Below.drew (Below.refl _ w6)).trans h2⟩
      have HPL6 := hid (fun (W : World) (u : Value) (S' : List OT) (ho : Own W (w.heap.size + 1 + 1 + 1) u S') (hm : S'.map (·.t) = killT v (plainOf T I R n)) (hb : Below (w.heap.size + 1 + 1 + 1) w6 W) => HP.out W u S' ho hm (Nat.le_trans hs6 hb.size))
      have HAT := hid hat.out
      clear hfin HP HT hat HRL HRN HST HN HAL HZ3 HLAY HONL hp6 HO6 ho6
      go_region_with (first
        | (go_at_call 83; refine HT6.out.mono ?_; rintro e w7 ⟨⟨u7, rfl, S7, ho7, hm7⟩, hb7⟩; obtain ⟨a7, c7, rfl⟩ := own_form ho7.1; have hB7 := boxes_after hB6.out hb7; obtain ⟨s0, s1, s2, s3, s4, s5, s6, s7⟩ := hB7.row; have HP7 := hid (HPL6.out w7 _ S7 ho7 hm7 hb7); have HB7 := hid hb7; have HX7 := hid hB7; clear ho7 hm7 hb7 hB7)
        | (go_at_call 81; refine HP7.out.mono ?_; rintro e w8 ⟨⟨u8, rfl, S8, ho8, hm8⟩, hb8, -⟩; obtain ⟨a8, c8, rfl⟩ := own_form ho8.1; have hB8 := boxes_after HX7.out hb8; obtain ⟨y0, y1, y2, y3, y4, y5, y6⟩ := hB8.cells; have HO8 := hid ho8; have HM8 := hid hm8; have HB8 := hid (HB7.out.trans hb8); have HX8 := hid hB8; clear ho8 hm8 hb8 hB8))
      all_goals
        go_wp2_with fail
        refine bodyPost_ret (v := .tuple #[.agg #[.slice a8 S8.length c8, .int .i64 next], .int .i64 0]) (by simp [results, Try.results40, go_sem, y3, y4]) rfl ⟨⟨_, _, rfl, S8, ?_, Or.inr (Or.inr (Or.inr ⟨rfl, HG.out, _, _, HAT.out, by rw [← hchr.out]; exact hgr, by rw [← hchr.out]; exact HM8.out⟩))⟩, ?_⟩
        · have hb1 := own_not_box HO8.out HX8.out.res (by decide)
          have h2 := (HO8.out.set' hb1 0 (.slice a8 S8.length c8)).set' hb1 1 (.int .i64 next)
          exact ⟨owns_mono h2.1 (by omega), fun o hm => ⟨owns_mono (h2.2.1 o hm).1 (by omega), owns_mono (h2.2.1 o hm).2 (by omega)⟩, h2.2.2⟩
        · refine Below.setCell ?_ (by simp; omega) _
          refine Below.setCell ?_ (by simp; omega) _
          exact hbw6.out.trans (HB8.out.mono (by omega))
end Go.Proofs.Ytckkkdldljhehaa.St
