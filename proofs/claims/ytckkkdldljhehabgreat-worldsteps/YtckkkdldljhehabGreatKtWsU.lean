/- What SamePairs of package ninepinsref, copied and same of package ninepinslaw answer when called over lists and stores in memory. Nothing that was in memory before has changed. -/
import Derived.Test.YtckkkdldljhehabGreatPkG
import Derived.Test.YtckkkdldljhehabGreatPkQ
import Derived.Test.YtckkkdldljhehabGreatKtCpR
namespace Go.Proofs.YtckkkdldljhehabGreat.Ws
open Go.Proofs.YtckkkdldljhehabGreat.Num Go.Proofs.YtckkkdldljhehabGreat.St Go.Proofs.YtckkkdldljhehabGreat.Wd
open Go.ChangeShapes Go.WideShapes Go.ChangeAt Go.RowKit

theorem samePairs_any (ma mb : Value) (ka kb : List (Int × Int)) (w : World) (h1 : Rp.PairsR w ma ka) (h2 : Rp.PairsR w mb kb) (z : ka.length ≤ 1000000000000) :
    Calls Tryz.prog 21 #[ma, mb] w fun e w' => e = .returned (.bool (decide (ka = kb))) ∧ RowKit.Below w.heap.size w w' := by
  have H := St.hid (Rp.sameReply_any 0 0 0 0 (.slice none 0 0) ma (.slice none 0 0) mb [] [] ka kb w (Rp.ints_nil _ _ _) h1 (Rp.ints_nil _ _ _) h2 (by simp) z)
  obtain ⟨a1, c1, rfl, -⟩ := h1
  obtain ⟨a2, c2, rfl, -⟩ := h2
  go_enter Tryz.func21, Tryz.ntmps21
  go_wp2_with (go_at_call 29; refine H.out.mono ?_; rintro e w' ⟨rfl, hb⟩)
  go_ret
  exact ⟨by simp, hb⟩
theorem copied_sto {W : World} {F : Nat → Prop} {v : Value} {L : List Tab} (h : Sto W F v L) (next : Int) :
    Calls Tryz.prog 11 #[.agg #[v, .int .i64 next]] W fun e w' => (∃ a n c, e = .returned (.agg #[.slice a n c, .int .i64 next]) ∧ ∃ F', Sto w' F' (.slice a n c) L ∧ ∀ b, F' b → W.heap.size ≤ b) ∧ Below W.heap.size W w' := by
  obtain ⟨a, n, cap, T, I, R, rfl, hin, rfl⟩ := h.in_
  refine (Cp.copied_any a n cap next T I R W hin).mono ?_
  rintro e w' ⟨⟨a', c', rfl, S, ho, hpl⟩, hb⟩
  have hl : S.length = n := by have := congrArg List.length hpl; simpa [plainOf] using this
  have hget : ∀ i (hi : i < S.length), S[i].t = tabOf T I R i := fun i hi => by
    have h1 : (S.map (·.t))[i]? = some S[i].t := by rw [List.getElem?_map, List.getElem?_eq_getElem hi]; rfl
    have h2 : (plainOf T I R n)[i]? = some (tabOf T I R i) := by simp [plainOf, show i < n by omega]
    rw [hpl, h2] at h1
    exact (Option.some.inj h1).symm
  have hst := Sto.of_own ho (fun W' a'' c'' e2 ho => ?_)
  · rw [hpl] at hst
    exact ⟨⟨a', n, c', rfl, _, hst, fun b hb => hb.1⟩, hb⟩
  simp only [Value.slice.injEq] at e2
  obtain ⟨rfl, -, rfl⟩ := e2
  rw [← hl] at ho
  refine ⟨tabs_own ho rfl, ?_, ?_, ⟨by have := hin.fits.1; omega, ?_, ?_⟩, ?_⟩
  · intro i hi
    have hs : S[i]? = some S[i] := List.getElem?_eq_getElem hi
    have := ids_own (ho.2.1 _ (List.getElem_mem hi)).1
    have ef : (idOf S i) = fun j => S[i].t.ids.getD j 0 := by funext j; simp [idOf, hs]
    rw [ef]
    simpa only [tvOf, hs] using this
  · intro i hi
    have hs : S[i]? = some S[i] := List.getElem?_eq_getElem hi
    have := rows_own (ho.2.1 _ (List.getElem_mem hi)).2
    have ef : (rwOf S i) = fun j => S[i].t.rows.getD j zeroR := by funext j; simp [rwOf, hs]
    rw [ef]
    simpa only [tvOf, hs] using this
  · intro e
    rcases ho.1.2 with ⟨_, h0⟩ | ⟨g, c'', cur, e', _⟩
    · exact h0
    · rw [e] at e'; cases e'
  · intro i hi
    have hs : S[i]? = some S[i] := List.getElem?_eq_getElem hi
    have h1 := hin.fits.2.2 i (by omega)
    have e1 := (slice_own (ho.2.1 _ (List.getElem_mem hi)).1).2
    have e2 := (slice_own (ho.2.1 _ (List.getElem_mem hi)).2).2
    have ht := hget i hi
    simp only [tvOf, hs]
    have l1 : S[i].t.ids.length = (T i).il := by rw [ht]; simp [tabOf]
    have l2 : S[i].t.rows.length = (T i).rl := by rw [ht]; simp [tabOf]
    exact ⟨by omega, by omega, e1, e2⟩
  · intro i hi j hj
    have hs : S[i]? = some S[i] := List.getElem?_eq_getElem hi
    simp only [tvOf, hs] at hj
    simp only [idOf, hs, Option.map_some, Option.getD_some]
    have l1 : S[i].t.ids.length = (T i).il := by rw [hget i hi]; simp [tabOf]
    have : S[i].t.ids.getD j 0 = I i j := by
      simp only [hget i hi, tabOf]
      simp [List.getD, show j < (T i).il by omega]
    rw [this]
    exact hin.wf i (by omega) j (by omega)
theorem same_sto {W : World} {F F' : Nat → Prop} {v v' : Value} {L : List Tab} (h : Sto W F v L) (h' : Sto W F' v' L) (next : Int) :
    Calls Tryz.prog 15 #[.agg #[v, .int .i64 next], .agg #[v', .int .i64 next]] W fun e w' => e = .returned (.bool true) ∧ Below W.heap.size W w' := by
  obtain ⟨a, n, cap, T, I, R, rfl, hin, hpl⟩ := h.in_
  obtain ⟨a', n', cap', T', I', R', rfl, hin', hpl'⟩ := h'.in_
  obtain ⟨e, hs⟩ := Cp.plain_same (hpl.trans hpl'.symm)
  subst e
  exact Cp.same_true a a' n cap cap' next T T' I I' R R' W hin hin' hs
end Go.Proofs.YtckkkdldljhehabGreat.Ws
