/- What Kill of package store answers when called over any store and number: the store without the thing, or as it was and the error; nothing that was in memory before has changed. -/
import Derived.Test.YtckkkdldljhehaaStTake
import Derived.Test.YtckkkdldljhehaaStLs
import Derived.Test.YtckkkdldljhehaaStSeek
namespace Go.Proofs.Ytckkkdldljhehaa.St
open Go.Proofs.Ytckkkdldljhehaa.Num
open Go.ChangeShapes Go.WideShapes Go.ChangeAt Go.RowKit

def KillOut (next v : Int) (L : List Tab) (ec : Int) (L' : List Tab) : Prop :=
  (ec = 1 ∧ ¬ GoodL next L ∧ L' = L) ∨ (ec = 3 ∧ GoodL next L ∧ v ∉ allL L ∧ L' = L) ∨ (ec = 0 ∧ GoodL next L ∧ v ∈ allL L ∧ L' = killT v L)

set_option maxHeartbeats 1000000 in
set_option maxRecDepth 100000 in
theorem kill_any (a : Option Addr) (n cap : Nat) (next v : Int) (T : Nat → TabV) (I : Nat → Nat → Int) (R : Nat → Nat → R8) (w : World) (h : StoreIn w a n T I R) :
    Calls Try.prog 38 #[.agg #[.slice a n cap, .int .i64 next], .int .i64 v] w fun e w' =>
      (∃ u ec, e = .returned (.tuple #[.agg #[u, .int .i64 next], .int .i64 ec]) ∧ ∃ S, Own w' w.heap.size u S ∧ KillOut next v (plainOf T I R n) ec (S.map (·.t))) ∧ Below w.heap.size w w' := by
  have HST := hid h
  clear h
  go_enter Try.func38, Try.ntmps38
  go_wp2_with fail
  refine (clone_any a n cap next T I R _ (HST.out.below (bal (bal (Below.refl _ _) _) _)).tabs (HST.out.below (bal (bal (Below.refl _ _) _) _)).ids (HST.out.below (bal (bal (Below.refl _ _) _) _)).rows HST.out.fits).mono ?_
  rintro e w1 ⟨⟨u, rfl, S, hown, hpl⟩, hb1⟩
  obtain ⟨a', c', rfl⟩ := own_form hown.1
  obtain ⟨N, hN⟩ : ∃ N, N = S.length := ⟨_, rfl⟩
  rw [← hN] at hown ⊢
  have HN := hid hN
  clear hN
  have hs := hid (rowIs_below ((rowIs2 w (.slice a n cap) (.int .i64 next) 28).alloc (.cells #[.slice none 0 0, .int .i64 0] 28)) hb1)
  have hr := hid (rowIs_below (rowIs2 (w.alloc (.cells #[.slice a n cap, .int .i64 next] 28)) (.slice none 0 0) (.int .i64 0) 28) hb1)
  rw [World.size_alloc] at hr
  have hz1 := hb1.size
  simp at hz1
  have hbw := hid (bcall (bal (bal (Below.refl _ _) _) _) hb1)
  simp only [World.size_alloc] at hown
  have HO := hid hown
  have HPL := hid hpl
  clear hown hpl hb1
  have x0 := hs.out.cell (i := 0) (by omega)
  have x1 := hs.out.cell (i := 1) (by omega)
  simp at x0 x1
  have hs1 : w.heap.size < w1.heap.size := by omega
  go_wp2_with fail
  have hsA := hid (hs.out.alloc (.cells #[.slice a' N c', .int .i64 next] 28))
  have hrA := hid (hr.out.alloc (.cells #[.slice a' N c', .int .i64 next] 28))
  have hoA := hid (rowIs2 w1 (.slice a' N c') (.int .i64 next) 28)
  have HOA := hid (HO.out.below (bal (Below.refl _ _) (.cells #[.slice a' N c', .int .i64 next] 28)))
  refine (seek_any a n cap next v T I R _ (HST.out.below (bcall hbw.out (bal (Below.refl _ _) _)))).mono ?_
  rintro e w2 ⟨he, hb2⟩
  have hr2 := hid (rowIs_below hrA.out hb2)
  have ho2 := hid (rowIs_below hoA.out hb2)
  have HO2 := hid (HOA.out.below hb2)
  have hbw2 := hid (bcall (bcall hbw.out (bal (Below.refl _ _) _)) hb2)
  have hz2 := hb2.size
  simp at hz2
  clear hb2 hs hr HO hbw x0 x1 hsA hrA hoA HOA
  have y0 := hr2.out.cell (i := 0) (by omega)
  have y1 := hr2.out.cell (i := 1) (by omega)
  have yf0 := hr2.out.frozen 0
  have yf1 := hr2.out.frozen 1
  have o0 := ho2.out.cell (i := 0) (by omega)
  have o1 := ho2.out.cell (i := 1) (by omega)
  simp at y0 y1 o0 o1
  have hne2 : w.heap.size + 1 ≠ w1.heap.size := by omega
  have hw12 : w1.heap.size < w2.heap.size := by omega
  have hw02 : w.heap.size + 1 < w2.heap.size := by omega
  have hfin : Hid (∀ (W : World) (ec : Int), Own W (w.heap.size + 1 + 1) (.slice a' N c') S → W.rowIs (w.heap.size + 1) 28 2 (fun i => if i = 0 then .slice none 0 0 else .int .i64 0) → Own ((W.setCell ⟨w.heap.size + 1, 0, none⟩ (.slice a' N c')).setCell ⟨w.heap.size + 1, 1, none⟩ (.int .i64 next)) w.heap.size (.slice a' N c') S) := by
    refine hid (fun W _ ho hb => ?_)
    have hb1 := own_not_box ho hb (by decide)
    have h2 := (ho.set' hb1 0 (.slice a' N c')).set' hb1 1 (.int .i64 next)
    exact ⟨owns_mono h2.1 (by omega), fun o hm => ⟨owns_mono (h2.2.1 o hm).1 (by omega), owns_mono (h2.2.1 o hm).2 (by omega)⟩, h2.2.2⟩
  rcases he with ⟨rfl, hg⟩ | ⟨rfl, hg, hno⟩ | ⟨i, j, rfl, hg, hi, hj, hv⟩
  · have HG := hid hg
    clear hg
    go_wp2_with fail
    refine bodyPost_ret (v := .tuple #[.agg #[.slice a' N c', .int .i64 next], .int .i64 1]) (by simp [results, Try.results38, go_sem, y0, y1, hw02]) rfl ⟨⟨_, _, rfl, S, (hfin.out _ 1 HO2.out hr2.out).below (bal (Below.refl _ _) _), Or.inl ⟨rfl, HG.out, HPL.out⟩⟩, ?_⟩
    refine bal ?_ _
    refine Below.setCell ?_ (by simp) _
    refine Below.setCell ?_ (by simp) _
    exact hbw2.out
  · have HG := hid (And.intro hg hno)
    clear hg hno
    go_wp2_with fail
    refine bodyPost_ret (v := .tuple #[.agg #[.slice a' N c', .int .i64 next], .int .i64 3]) (by simp [results, Try.results38, go_sem, y0, y1, hw02]) rfl ⟨⟨_, _, rfl, S, (hfin.out _ 3 HO2.out hr2.out).below (bal (Below.refl _ _) _), Or.inr (Or.inl ⟨rfl, HG.out.1, noneTo_iff.1 HG.out.2, HPL.out⟩)⟩, ?_⟩
    refine bal ?_ _
    refine Below.setCell ?_ (by simp) _
    refine Below.setCell ?_ (by simp) _
    exact hbw2.out
  · obtain ⟨A, o, C, rfl, hAl, hoj, hot⟩ := split_own HPL.out hi hj hv
    have hL : (A ++ o :: C).map (·.t) = A.map (·.t) ++ o.t :: C.map (·.t) := by simp
    have hgl : GoodL next ((A ++ o :: C).map (·.t)) := by rw [HPL.out]; exact hg
    obtain ⟨k, lst, q, rk, hsp⟩ := spot_of hgl.even hL hoj
    obtain ⟨hn31, -⟩ := goodL_n (fun i hi => (HST.out.hz i hi).1) hg
    have hNl : (A ++ o :: C).length = n := by have := congrArg List.length HPL.out; simpa [plainOf] using this
    have hk10 : k ≤ 9 := by
      have h1 := len_le hgl.2.1 _ (List.mem_map.2 ⟨o, by simp, rfl⟩)
      have h2 := hsp.il
      have h3 := hgl.2.1
      rw [hL, allL_mid] at h3
      simp at h3
      omega
    have hN31 : N ≤ 31 := by have := HN.out; omega
    obtain ⟨g, c, hgc⟩ := own_some (n := N) (v := .slice a' N c') (by have := HO2.out.1; rw [← HN.out] at this; exact this) (by rw [HN.out, List.length_append, List.length_cons]; omega)
    simp only [Value.slice.injEq] at hgc
    obtain ⟨rfl, -, rfl⟩ := hgc
    have HT : Hid (∀ W : World, Own W (w.heap.size + 1 + 1) (.slice (some ⟨g, 0, none⟩) N c') (A ++ o :: C) → w.heap.size + 1 + 1 ≤ W.heap.size → Calls Try.prog 83 #[.agg #[.slice (some ⟨g, 0, none⟩) N c', .int .i64 next], .agg #[.int .i64 (i : Nat), .int .i64 j]] W fun e w' =>
        (∃ u, e = .returned (.agg #[u, .int .i64 next]) ∧ ∃ S', Own w' (w.heap.size + 1 + 1) u S' ∧ S'.map (·.t) = killT v (plainOf T I R n)) ∧ Below (w.heap.size + 1 + 1) W w' ∧ Keep W w') := by
      refine hid (fun W ho hs => ?_)
      have ht := takeOut_own g N c' next (w.heap.size + 1 + 1) A C o j k lst rk W HN.out hs (by omega) hsp.il hsp.rl (by omega) hsp.lt hsp.li hsp.lr ho
      rw [hAl] at ht
      refine ht.mono ?_
      rintro e w' ⟨⟨u, rfl, S', ho', hm'⟩, hb'⟩
      refine ⟨⟨u, rfl, S', ho', ?_⟩, hb'⟩
      rw [hm', ← HPL.out, hL, killT_eq (by rw [← hL]; exact hgl.2.2.2.2.2) hoj hsp.il hsp.rl hsp.li hsp.lr]
      unfold takeL
      simp
    have hmem : Hid (v ∈ allL (plainOf T I R n)) := hid (by rw [← HPL.out, hL, allL_mid]; exact List.mem_append.2 (Or.inr (List.mem_append.2 (Or.inl (List.mem_of_getElem? hoj)))))
    have HG := hid hg
    clear hg hgl hsp hoj hot hL hi hj hv hNl hAl
    go_wp2_with fail
    refine (HT.out _ (HO2.out.below (bal (Below.refl _ _) _)) (by simp; omega)).mono ?_
    rintro e w3 ⟨⟨u, rfl, S', ho3, hm3⟩, hb3, hk3⟩
    obtain ⟨a3, c3, rfl⟩ := own_form ho3.1
    have hr3 := hid (hk3 _ _ _ (hr2.out.alloc _))
    have HO3 := hid ho3
    have HM3 := hid hm3
    have HB3 := hid ((bal hbw2.out _).trans (hb3.mono (by omega)))
    clear ho3 hm3 hb3 hk3 y0 y1 yf0 yf1 o0 o1
    have y0 := hr3.out.cell (i := 0) (by omega)
    have y1 := hr3.out.cell (i := 1) (by omega)
    have yf0 := hr3.out.frozen 0
    have yf1 := hr3.out.frozen 1
    simp at y0 y1
    go_wp2_with fail
    refine bodyPost_ret (v := .tuple #[.agg #[.slice a3 S'.length c3, .int .i64 next], .int .i64 0]) (by simp [results, Try.results38, go_sem, y0, y1]) rfl ⟨⟨_, _, rfl, S', ?_, Or.inr (Or.inr ⟨rfl, HG.out, hmem.out, HM3.out⟩)⟩, ?_⟩
    · have hb1 := own_not_box HO3.out hr3.out (by decide)
      have h2 := (HO3.out.set' hb1 0 (.slice a3 S'.length c3)).set' hb1 1 (.int .i64 next)
      exact ⟨owns_mono h2.1 (by omega), fun o hm => ⟨owns_mono (h2.2.1 o hm).1 (by omega), owns_mono (h2.2.1 o hm).2 (by omega)⟩, h2.2.2⟩
    · refine Below.setCell ?_ (by simp) _
      refine Below.setCell ?_ (by simp) _
      exact HB3.out
end Go.Proofs.Ytckkkdldljhehaa.St
