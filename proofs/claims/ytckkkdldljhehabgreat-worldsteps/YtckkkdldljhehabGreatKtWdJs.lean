/- Spawn of package store over stores as values in memory, in the words of plain tables; the empty store. -/
import Derived.Test.YtckkkdldljhehabGreatPkG
import Derived.Test.YtckkkdldljhehabGreatPkD
namespace Go.Proofs.YtckkkdldljhehabGreat.Wd
open Go.Proofs.YtckkkdldljhehabGreat.Num Go.Proofs.YtckkkdldljhehabGreat.St
open Go.ChangeShapes Go.WideShapes Go.ChangeAt Go.RowKit

/-- What comes of Spawn: the tables, the next number, its number, the error. -/
def spawnS (next : Int) (L : List Tab) (mask : Int) (r : R8) : List Tab × Int × Int × Int :=
  if goodRowB mask r = false then (L, next, 0, 2) else if (allL L).length = 10 ∨ next = 1048576 then (L, next, 0, 5) else (putT mask next r L, next + 1, next, 0)
theorem new_id {next : Int} {L : List Tab} (hg : GoodL next L) : next ∉ allL L := fun hc => by
  obtain ⟨t, ht, hx⟩ := List.mem_flatMap.1 hc
  have := (hg.2.2.2.2.1 t ht).2.2.1 _ hx
  simp [btw] at this
  omega
theorem next_le {next : Int} {L : List Tab} (hg : GoodL next L) : 0 ≤ next ∧ next ≤ 1048576 := by
  have hb : btw next 0 1048576 = true := hg.1
  simpa [btw] using hb
theorem good_spawn {next : Int} {L : List Tab} (hg : GoodL next L) (mask : Int) (r : R8) : GoodL (spawnS next L mask r).2.1 (spawnS next L mask r).1 := by
  unfold spawnS
  split
  · exact hg
  · rename_i hr
    split
    · exact hg
    · rename_i hf
      have hl := hg.2.1
      have hb := next_le hg
      show GoodL (next + 1) (putT mask next r L)
      exact put_all hg (by omega) (by omega) (by omega) (by omega) (new_id hg) (by simpa using hr)
theorem Sto.spawn {W : World} {F : Nat → Prop} {v : Value} {L : List Tab} (h : Sto W F v L) (next : Int) (hg : GoodL next L) (mask : Int) (r : R8) :
    Calls Tryz.prog 46 #[.agg #[v, .int .i64 next], .int .i64 mask, .agg #[.int .i64 r.x, .int .i64 r.y, .int .i64 r.px, .int .i64 r.py, .int .i64 r.wd, .int .i64 r.ht, .int .i64 r.ms, .int .i64 r.rr]] W fun e w' =>
      (∃ a n c, e = .returned (.tuple #[.agg #[.slice a n c, .int .i64 (spawnS next L mask r).2.1], .int .i64 (spawnS next L mask r).2.2.1, .int .i64 (spawnS next L mask r).2.2.2]) ∧ ∃ F', Sto w' F' (.slice a n c) (spawnS next L mask r).1 ∧ ∀ b, F' b → W.heap.size ≤ b) ∧ Below W.heap.size W w' := by
  obtain ⟨a, n, cap, T, I, R, rfl, hin, rfl⟩ := h.in_
  refine (spawn_any a n cap next mask T I R r W hin (fun a' n' c' B A C h1 h2 _ => insertAt_any a' n' c' B A C mask h2 (by omega))).mono ?_
  rintro e w' ⟨⟨u, nx, id, ec, rfl, S, ho, hout⟩, hb⟩
  obtain ⟨a', c', rfl⟩ := own_form ho.1
  have hgs := good_spawn hg mask r
  have key : (S.map (·.t), nx, id, ec) = spawnS next (plainOf T I R n) mask r := by
    unfold spawnS
    rcases hout with ⟨rfl, rfl, h3, h4 | h4 | h4⟩ | ⟨rfl, rfl, rfl, h4, h5, h6, h7, h8⟩
    · exact absurd hg h4.2
    · rw [if_pos h4.2.2, h3, h4.1]
    · rw [if_neg (by simp [h4.2.2.1]), if_pos h4.2.2.2, h3, h4.1]
    · rw [if_neg (by simp [h5]), if_neg (by omega), h8]
  rw [← key] at hgs ⊢
  exact ⟨⟨a', S.length, c', rfl, own_sto (next := nx) ho hgs⟩, hb⟩
theorem Sto.empty (W : World) : Sto W (fun _ => False) (.slice none 0 0) [] :=
  ⟨none, 0, 0, fun _ => ⟨0, none, 0, 0, none, 0, 0⟩, fun _ _ => 0, fun _ _ => zeroR, rfl, rfl, fun _ h => h.elim, fun _ _ _ => ⟨fun h => absurd h (Nat.lt_irrefl _), fun i hi => absurd hi (Nat.not_lt_zero _), fun i hi => absurd hi (Nat.not_lt_zero _), ⟨by omega, fun _ => rfl, fun i hi => absurd hi (Nat.not_lt_zero _)⟩, fun i hi => absurd hi (Nat.not_lt_zero _)⟩⟩
theorem good_nil : GoodL 0 [] := ⟨rfl, by simp [allL], by simp, List.Pairwise.nil, by simp, by simp [allL]⟩
end Go.Proofs.YtckkkdldljhehabGreat.Wd
