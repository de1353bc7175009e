/- What things of package ninepinskeep answers when called: true; nothing that was in memory before has changed. -/
import Derived.Test.YtckkkdldljhehaaPkC
namespace Go.Proofs.Ytckkkdldljhehaa.St
open Go.Proofs.Ytckkkdldljhehaa.Num
open Go.ChangeShapes Go.WideShapes Go.ChangeAt Go.RowKit

def r32 : R8 := ⟨3, 0, 0, 0, 0, 0, 2, 0⟩
def noT (_ : Nat) : TabV := ⟨0, none, 0, 0, none, 0, 0⟩
def noI (_ _ : Nat) : Int := 0
def noR (_ _ : Nat) : R8 := zeroR
theorem empty_in (w : World) : StoreIn w none 0 noT noI noR :=
  ⟨fun h => absurd h (Nat.lt_irrefl _), fun i hi => absurd hi (Nat.not_lt_zero _), fun i hi => absurd hi (Nat.not_lt_zero _), ⟨by omega, fun _ => rfl, fun i hi => absurd hi (Nat.not_lt_zero _)⟩, fun i hi => absurd hi (Nat.not_lt_zero _)⟩
theorem good_empty : GoodL 0 [] := ⟨rfl, by simp [allL], by simp, List.Pairwise.nil, by simp, by simp [allL]⟩
theorem row_32 : goodRowB 9 r32 = true := by decide
theorem good_one : GoodL 1 [⟨9, [0], [r32]⟩] := by
  refine ⟨rfl, by simp [allL], by simp, by simp, ?_, by simp [allL]⟩
  intro t ht
  simp at ht
  subst ht
  refine ⟨by simp, rfl, ?_, ?_⟩
  · intro x hx; simp at hx; subst hx; rfl
  · intro r hr; simp at hr; subst hr; exact row_32

/-- Spawn into the empty store. -/
theorem spawn_empty (w : World) :
    Calls Try.prog 37 #[.agg #[.slice none 0 0, .int .i64 0], .int .i64 9, .agg #[.int .i64 3, .int .i64 0, .int .i64 0, .int .i64 0, .int .i64 0, .int .i64 0, .int .i64 2, .int .i64 0]] w fun e w' =>
      (∃ a c, e = .returned (.tuple #[.agg #[.slice a 1 c, .int .i64 1], .int .i64 0, .int .i64 0]) ∧ ∃ T I R, StoreIn w' a 1 T I R ∧ plainOf T I R 1 = [⟨9, [0], [r32]⟩]) ∧ Below w.heap.size w w' := by
  refine (spawn_any none 0 0 0 9 noT noI noR r32 w (empty_in w) ?_).mono ?_
  · intro a' n' c' B A C _ hn he
    have h0 : A ++ C = [] := by simpa [plainOf] using he
    obtain ⟨rfl, rfl⟩ := List.append_eq_nil_iff.1 h0
    simp at hn
    subst hn
    exact insertAt_end a' 0 c' B [] 9 rfl (by omega)
  · rintro e w' ⟨⟨v, nx, id, ec, rfl, S, hown, hout⟩, hb⟩
    have hp0 : plainOf noT noI noR 0 = [] := rfl
    rw [hp0] at hout
    rcases hout with ⟨_, _, _, h | h | h⟩ | ⟨rfl, rfl, rfl, _, _, _, _, hS⟩
    · exact absurd good_empty h.2
    · rw [row_32] at h; cases h.2.2
    · simp [allL] at h
    · have hl : S.length = 1 := by have := congrArg List.length hS; simpa [putT] using this
      obtain ⟨a, c, rfl⟩ := own_form hown.1
      have hS' : S.map (·.t) = [⟨9, [0], [r32]⟩] := hS
      have hmem : ∀ o ∈ S, o.t = ⟨9, [0], [r32]⟩ := fun o ho => by
        have : o.t ∈ S.map (·.t) := List.mem_map.2 ⟨o, ho, rfl⟩
        rw [hS'] at this
        simpa using this
      have hin := own_storeIn hown rfl (by omega) (fun o ho => by rw [hmem o ho]; simp) (fun o ho x hx => by rw [hmem o ho] at hx; simp at hx; subst hx; decide)
      rw [hl] at hin ⊢
      refine ⟨⟨a, c, rfl, _, _, _, hin, ?_⟩, hb⟩
      have := plain_own S
      rw [hl, hS'] at this
      exact this

set_option maxHeartbeats 1000000 in
set_option maxRecDepth 100000 in
theorem thingsK_any (w : World) : Calls Try.prog 44 #[] w fun e w' => e = .returned (.bool true) ∧ Below w.heap.size w w' := by
  go_enter Try.func44, Try.ntmps44
  go_wp2_with fail
  refine (spawn_empty _).mono ?_
  rintro e w1 ⟨⟨a, c, rfl, T, I, R, hin, hpl⟩, hb1⟩
  have HIN := hid hin
  have HPL := hid hpl
  have HB1 := hid hb1
  clear hin hpl hb1
  go_wp2_with fail
  refine ((HIN.out.below (bal (Below.refl _ _) _)).get (by rw [HPL.out]; exact good_one.even) c 1 0).mono ?_
  rintro e w2 ⟨he, hb2⟩
  have hat : ∃ m r, e = .returned (.tuple #[.int .i64 m, .agg #[.int .i64 r.x, .int .i64 r.y, .int .i64 r.px, .int .i64 r.py, .int .i64 r.wd, .int .i64 r.ht, .int .i64 r.ms, .int .i64 r.rr], .bool true]) ∧ m = 9 ∧ r = r32 := by
    rw [HPL.out] at he
    rcases he with ⟨_, h⟩ | ⟨m, r, rfl, h⟩
    · exact absurd (by simp [allL]) h
    · have h9 : At [⟨9, [0], [r32]⟩] 0 9 r32 := ⟨_, List.mem_singleton.2 rfl, rfl, 0, rfl, rfl⟩
      obtain ⟨rfl, rfl⟩ := at_unique good_one.2.2.2.2.2 h h9
      exact ⟨_, _, rfl, rfl, rfl⟩
  obtain ⟨m, r, rfl, rfl, rfl⟩ := hat
  have hz2 := hb2.size
  simp at hz2
  have s0 := hb2.cell (p := ⟨w1.heap.size, 0, none⟩) (by simp)
  have s1 := hb2.cell (p := ⟨w1.heap.size, 1, none⟩) (by simp)
  simp at s0 s1
  have HB2 : Hid (Below w1.heap.size w1 w2) := hid (bcall (bal (Below.refl _ _) _) hb2)
  have hs12 : w1.heap.size < w2.heap.size := by omega
  clear he hb2
  simp only [r32]
  go_wp2_with (go_at_call 33; refine ((HIN.out.below (bcall HB2.out (bal (Below.refl _ _) _))).size (next := 1) (by rw [HPL.out]; exact good_one) c 1).mono ?_; rintro e w3 ⟨rfl, hb3⟩; rw [HPL.out])
  go_ret
  exact ⟨ret_bool rfl, bcall (bcall (bcall HB1.out HB2.out) (bal (Below.refl _ _) _)) hb3⟩
end Go.Proofs.Ytckkkdldljhehaa.St
