/- Proved here: over a store in memory, StoreQueries of package ninepinskeep returns true, and nothing that was in memory before has changed. -/
import Derived.Test.YtckkkdldljhehaaKtStThings
import Derived.Test.YtckkkdldljhehaaKtStQuery
namespace Go.Proofs.Ytckkkdldljhehaa.St
open Go.Proofs.Ytckkkdldljhehaa.Num
open Go.ChangeShapes Go.WideShapes Go.ChangeAt Go.RowKit

/-- What of the plain tables has the mask's parts. -/
def gathL (m : Int) (L : List Tab) : List Int := L.flatMap fun t => if hasB t.mask m then t.ids else []
theorem gath_eq (T : Nat → TabV) (I : Nat → Nat → Int) (R : Nat → Nat → R8) (m : Int) (n : Nat) : gath T I m n = gathL m (plainOf T I R n) := by
  induction n with
  | zero => rfl
  | succ n ih =>
    rw [gath, ih]
    simp only [gathL, plainOf, List.range_succ, List.map_append, List.map_cons, List.map_nil, List.flatMap_append, List.flatMap_cons, List.flatMap_nil, tabOf, List.append_nil]
    split <;> simp
theorem gathL_sub (m : Int) (L : List Tab) : (gathL m L).Sublist (allL L) := by
  induction L with
  | nil => exact List.Sublist.refl _
  | cons t L ih =>
    simp only [gathL, allL, List.flatMap_cons] at *
    refine List.Sublist.append ?_ ih
    split
    · exact List.Sublist.refl _
    · exact List.nil_sublist _
theorem gath_mono (T : Nat → TabV) (I : Nat → Nat → Int) (m : Int) {k n : Nat} (h : k ≤ n) : (gath T I m k).length ≤ (gath T I m n).length := by
  induction n with
  | zero => have : k = 0 := by omega
            subst this; exact Nat.le_refl _
  | succ n ih =>
    by_cases e : k = n + 1
    · subst e; exact Nat.le_refl _
    · have := ih (by omega)
      rw [gath.eq_2]
      split
      · rw [List.length_append]; omega
      · exact this
/-- A number that Query tells has these parts. -/
theorem gath_at {next m : Int} {L : List Tab} (hg : GoodL next L) {id : Int} (h : id ∈ gathL m L) : id ∈ allL L ∧ ∀ q r, At L id q r → hasB q m = true := by
  refine ⟨(gathL_sub m L).subset h, fun q r hat => ?_⟩
  obtain ⟨t, ht, hx⟩ := List.mem_flatMap.1 h
  by_cases hb : hasB t.mask m = true
  · rw [if_pos hb] at hx
    obtain ⟨j, hj, e⟩ := List.getElem_of_mem hx
    have hj' : j < t.rows.length := by rw [← hg.even t ht]; exact hj
    have hat' : At L id t.mask t.rows[j] := ⟨t, ht, rfl, j, by rw [List.getElem?_eq_getElem hj, e], List.getElem?_eq_getElem hj'⟩
    rw [(at_unique hg.2.2.2.2.2 hat hat').1]
    exact hb
  · rw [if_neg hb] at hx; cases hx
def cntTo (T : Nat → TabV) (m : Int) : Nat → Nat
  | 0 => 0
  | k + 1 => if hasB (T k).mask m then cntTo T m k + (T k).il else cntTo T m k
theorem cnt_eq (T : Nat → TabV) (I : Nat → Nat → Int) (m : Int) (n : Nat) : cntTo T m n = (gath T I m n).length := by
  induction n with
  | zero => rfl
  | succ n ih =>
    rw [cntTo, gath]
    split
    · rw [ih]; simp
    · exact ih
theorem sorted_get {l : List Int} (hn : l.Nodup) {i j : Nat} {x y : Int} (hij : i < j) (hi : (l.mergeSort fun x y => decide (x ≤ y))[i]? = some x) (hj : (l.mergeSort fun x y => decide (x ≤ y))[j]? = some y) : x < y := by
  obtain ⟨h1, e1⟩ := List.getElem?_eq_some_iff.1 hi
  obtain ⟨h2, e2⟩ := List.getElem?_eq_some_iff.1 hj
  have hs := List.pairwise_mergeSort (le := fun x y : Int => decide (x ≤ y)) (fun a b c h1 h2 => by simp at *; omega) (fun a b => by simp; omega) l
  have hnd : (l.mergeSort fun x y => decide (x ≤ y)).Nodup := (List.mergeSort_perm l _).nodup_iff.2 hn
  have h3 := List.pairwise_iff_getElem.1 hs i j h1 h2 hij
  have h4 := List.pairwise_iff_getElem.1 hnd i j h1 h2 hij
  rw [e1, e2] at h3 h4
  simp at h3
  omega

set_option maxHeartbeats 4000000 in
set_option maxRecDepth 100000 in
theorem queries_any (a : Option Addr) (n cap : Nat) (next mask : Int) (T : Nat → TabV) (I : Nat → Nat → Int) (R : Nat → Nat → R8) (w : World) (h : StoreIn w a n T I R) :
    Calls Try.prog 9 #[.agg #[.slice a n cap, .int .i64 next], .int .i64 mask] w fun e w' => e = .returned (.bool true) ∧ Below w.heap.size w w' := by
  have HST := hid h
  have hnz : n ≤ 9223372036854775807 := by have := h.fits.1; omega
  clear h
  go_enter Try.func9, Try.ntmps9
  go_wp2_with fail
  refine ((HST.out.below (bal (Below.refl _ _) _)).good cap next).mono ?_
  rintro e w1 ⟨⟨g, rfl, hg⟩, hb1⟩
  have hz1 := hb1.size
  simp at hz1
  have s0 := hb1.cell (p := ⟨w.heap.size, 0, none⟩) (by simp)
  have s1 := hb1.cell (p := ⟨w.heap.size, 1, none⟩) (by simp)
  simp at s0 s1
  have HB1 : Hid (Below w.heap.size w w1) := hid (bcall (bal (Below.refl _ _) _) hb1)
  have HG := hid hg
  clear hb1 hg
  cases g
  · go_wp2_with (go_at_call 44; refine (thingsK_any _).mono ?_; rintro e w2 ⟨rfl, hb2⟩)
    go_ret
    exact ⟨rfl, bcall HB1.out hb2⟩
  · have HGL : Hid (GoodL next (plainOf T I R n)) := hid (HG.out.1 rfl)
    have hw1 : w.heap.size < w1.heap.size := by omega
    generalize hmm : bits .and .i64 mask 31 = mm
    have HMM := hid hmm
    clear hmm
    have HQ : Hid (∀ W, Below w.heap.size w W → Calls Try.prog 35 #[.agg #[.slice a n cap, .int .i64 next], .int .i64 (bits .and .i64 mask 31)] W fun e w' =>
        (∃ a2 c2, e = .returned (.slice a2 (gathL mm (plainOf T I R n)).length c2) ∧ w'.ownsRow W.heap.size 3 1 (.slice a2 (gathL mm (plainOf T I R n)).length c2) (gathL mm (plainOf T I R n)).length (((gathL mm (plainOf T I R n)).mergeSort fun x y => decide (x ≤ y)).map (Value.int .i64))) ∧ Below W.heap.size W w') := by
      refine hid (fun W hW => ?_)
      rw [HMM.out]
      have hin := HST.out.below hW
      have hgl := HGL.out
      refine (query_any a n cap next mm T I W (by unfold maxLen; omega) hin.tabs hin.ids ?_ ?_).mono ?_
      · intro i hi
        have := (hgl.2.2.2.2.1 _ (mem_plain.2 ⟨i, hi, rfl⟩)).1
        simp [tabOf] at this
        omega
      · intro k hk
        have h1 := gath_mono T I mm hk
        rw [gath_eq T I R mm n] at h1
        have h2 := (gathL_sub mm (plainOf T I R n)).length_le
        have h3 := hgl.2.1
        omega
      · rintro e w' ⟨⟨v, rfl, ho⟩, hb⟩
        rw [gath_eq T I R mm n] at ho
        obtain ⟨a2, c2, rfl⟩ := own_form ho
        exact ⟨⟨a2, c2, rfl, ho⟩, hb⟩
    go_wp2_with (go_at_call 35; refine (HQ.out _ HB1.out).mono ?_; rintro e w2 ⟨⟨a2, c2, rfl, ho2⟩, hb2⟩; have y0 := (hb2.cell (p := ⟨w.heap.size, 0, none⟩) hw1).trans s0; have y1 := (hb2.cell (p := ⟨w.heap.size, 1, none⟩) hw1).trans s1; have hz2 := hb2.size; have HO2 := hid ho2; have HB2 := hid hb2; clear ho2 hb2)
    rw [HMM.out]
    have hGn : Hid ((gathL mm (plainOf T I R n)).length ≤ 10) := hid (Nat.le_trans (gathL_sub mm _).length_le HGL.out.2.1)
    have hGd : Hid ((gathL mm (plainOf T I R n)).Nodup) := hid ((gathL_sub mm _).nodup HGL.out.2.2.2.2.2)
    have hGa : Hid (∀ id ∈ gathL mm (plainOf T I R n), id ∈ allL (plainOf T I R n) ∧ ∀ q r, At (plainOf T I R n) id q r → hasB q mm = true) := hid (fun id hm => gath_at HGL.out hm)
    have hGc : Hid (∀ k, k ≤ n → cntTo T mm k ≤ 10) := hid (fun k hk => by
      have h1 := gath_mono T I mm hk
      rw [gath_eq T I R mm n] at h1
      have h2 := hGn.out
      rw [cnt_eq T I mm k]
      omega)
    have hGe : Hid (cntTo T mm n = (gathL mm (plainOf T I R n)).length) := hid (by rw [cnt_eq T I mm n, gath_eq T I R mm n])
    generalize gathL mm (plainOf T I R n) = G at HO2 hGn hGd hGa hGe ⊢
    have hG10 := hGn.out
    have hw2 : w.heap.size < w2.heap.size := by omega
    clear HQ HMM
    go_loopw [25] (fun i wr => ∃ k : Nat, k ≤ G.length ∧ i = .int .i64 k ∧ Hid (Below w2.heap.size w2 wr)) (fun i _ => G.length - (intOf i).toNat)
    case atStart => exact ⟨0, Nat.zero_le _, rfl, Below.refl _ _⟩
    case round =>
      obtain ⟨k, hk, rfl, hbl⟩ := hrel
      have x0 := (hbl.out.cell (p := ⟨w.heap.size, 0, none⟩) hw2).trans y0
      have x1 := (hbl.out.cell (p := ⟨w.heap.size, 1, none⟩) hw2).trans y1
      have hzr := hbl.out.size
      have hwr : w.heap.size < wr.heap.size := by omega
      by_cases hlt : k < G.length
      · obtain ⟨g, c, e⟩ := own_some HO2.out (by omega)
        simp only [Value.slice.injEq] at e
        obtain ⟨rfl, -, rfl⟩ := e
        have hgl := (HO2.out.lt g rfl).2
        have hql : (G.mergeSort fun x y => decide (x ≤ y)).length = G.length := by simp
        obtain ⟨id, hid0⟩ : ∃ id, (G.mergeSort fun x y => decide (x ≤ y))[k]? = some id := ⟨_, List.getElem?_eq_getElem (by omega)⟩
        have ck : wr.cell? ⟨g, 0 + k, none⟩ = some (.int .i64 id) := by
          rw [hbl.out.cell (by exact hgl), Nat.zero_add, HO2.out.cellAt k (by omega), List.getElem?_map, hid0]; rfl
        have hidm : id ∈ G := (List.mergeSort_perm G _).mem_iff.1 (List.mem_of_getElem? hid0)
        have HA := hid (hGa.out id hidm)
        have HI0 := hid hid0
        have hgr : g < wr.heap.size := by omega
        clear hid0 hidm hql
        simp only [Nat.zero_add] at ck
        go_wp2_with fail
        refine ((HST.out.below ((bcall HB1.out HB2.out).trans (hbl.out.mono (by omega)))).get HGL.out.even cap next id).mono ?_
        rintro e w3 ⟨he, hb3⟩
        have hat : ∃ (m : Int) (r : R8), e = .returned (.tuple #[.int .i64 m, .agg #[.int .i64 r.x, .int .i64 r.y, .int .i64 r.px, .int .i64 r.py, .int .i64 r.wd, .int .i64 r.ht, .int .i64 r.ms, .int .i64 r.rr], .bool true]) ∧ hasB m mm = true := by
          rcases he with ⟨_, hno⟩ | ⟨m, r, rfl, h⟩
          · exact absurd HA.out.1 hno
          · exact ⟨m, r, rfl, HA.out.2 m r h⟩
        obtain ⟨m, r, rfl, hhas⟩ := hat
        have hq : (bits .and .i64 m mm != mm) = false := by unfold hasB at hhas; simpa using hhas
        have HB3 := hid hb3
        have hz3 := hb3.size
        have hgr3 : g < w3.heap.size := by omega
        clear he hb3 hhas
        by_cases hk0 : k = 0
        · subst hk0
          go_wp2_with fail
          go_roundw
          case rel => exact ⟨1, by omega, rfl, bal (bcall hbl.out HB3.out |>.mono (Nat.le_refl _)) _⟩
          case measure => simp [intOf]; omega
        · have hpos : (0 : Int) < (k : Int) := by omega
          obtain ⟨id', hid1⟩ : ∃ id', (G.mergeSort fun x y => decide (x ≤ y))[k - 1]? = some id' := ⟨_, List.getElem?_eq_getElem (by simp; omega)⟩
          have ck1 : w3.cell? ⟨g, k - 1, none⟩ = some (.int .i64 id') := by
            rw [HB3.out.cell (by exact hgr), hbl.out.cell (by exact hgl), HO2.out.cellAt (k - 1) (by omega), List.getElem?_map, hid1]; rfl
          have hord : id' < id := sorted_get hGd.out (by omega) hid1 HI0.out
          clear hid1
          go_wp2_with fail
          go_roundw
          case rel => exact ⟨k + 1, by omega, by go_num, bal (bcall hbl.out HB3.out) _⟩
          case measure => simp [intOf]; omega
      · go_wp2_with fail
        go_loopw [6, 63] (fun nn i wv => ∃ k : Nat, k ≤ n ∧ i = .int .i64 k ∧ nn = .int .i64 (cntTo T mm k : Nat) ∧ Hid (Below w2.heap.size w2 wv)) (fun _ i _ => n - (intOf i).toNat)
        case atStart => exact ⟨0, Nat.zero_le _, rfl, rfl, hbl.out⟩
        case round =>
          obtain ⟨q, hqn, rfl, rfl, hbv⟩ := hrel
          have hzv := hbv.out.size
          by_cases hlq : q < n
          · obtain ⟨b, off, rfl, hb, hc⟩ := HST.out.tabs (by omega)
            obtain ⟨c0, c1, c2'⟩ := hc q hlq
            have hBv := hid ((bcall HB1.out HB2.out).trans (hbv.out.mono (by omega)))
            rw [← hBv.out.cell (by exact hb)] at c0 c1 c2'
            have hzb := hBv.out.size
            have hbz : b < wr.heap.size := by omega
            clear hc
            have hc1 := hGc.out (q + 1) (by omega)
            have hc0 := hGc.out q (by omega)
            cases hh : hasB (T q).mask mm
            · have hq : (bits .and .i64 (T q).mask mm == mm) = false := hh
              have hs : Hid (cntTo T mm (q + 1) = cntTo T mm q) := hid (by simp [cntTo, hh])
              go_wp2_with fail
              go_roundw
              case rel => exact ⟨q + 1, by omega, by go_num, by rw [hs.out], bal hbv.out _⟩
              case measure => simp [intOf]; omega
            · have hq : (bits .and .i64 (T q).mask mm == mm) = true := hh
              have hs : Hid (cntTo T mm (q + 1) = cntTo T mm q + (T q).il) := hid (by simp [cntTo, hh])
              rw [hs.out] at hc1
              go_wp2_with fail
              go_roundw
              case rel => exact ⟨q + 1, by omega, by go_num, by rw [hs.out]; go_num, bal hbv.out _⟩
              case measure => simp [intOf]; omega
          · have hqe : q = n := by omega
            subst hqe
            have hfin : ((cntTo T mm q : Int) == (G.length : Int)) = true := by rw [hGe.out]; simp
            go_wp2_with (go_at_call 44; refine (thingsK_any _).mono ?_; rintro e w5 ⟨rfl, hb5⟩)
            go_ret
            exact ⟨rfl, bcall ((bcall HB1.out HB2.out).trans (hbv.out.mono (by omega))) hb5⟩
end Go.Proofs.Ytckkkdldljhehaa.St
