/- What Spawn, Kill, Set and Change of package store answer over a good store: the plain answers named here, in memory of their own; nothing that was in memory before has changed. -/
import Derived.Test.YtckkkdldljhehabGreatWdA
import Derived.Test.YtckkkdldljhehabGreatStChange
namespace Go.Proofs.YtckkkdldljhehabGreat.Wd
open Go.Proofs.YtckkkdldljhehabGreat.Num Go.Proofs.YtckkkdldljhehabGreat.St
open Go.ChangeShapes Go.WideShapes Go.ChangeAt Go.RowKit

/-- What comes of Spawn: the tables, the next number, its number, the error. -/
def spawnS (next : Int) (L : List Tab) (mask : Int) (r : R8) : List Tab × Int × Int × Int :=
  if goodRowB mask r = false then (L, next, 0, 2) else if (allL L).length = 10 ∨ next = 1048576 then (L, next, 0, 5) else (putT mask next r L, next + 1, next, 0)
def killS (L : List Tab) (id : Int) : List Tab × Int := if id ∈ allL L then (killT id L, 0) else (L, 3)
def setS (L : List Tab) (id : Int) (r : R8) : List Tab × Int := if id ∈ allL L then (if goodRowB (mk L id) r then (setL id r L, 0) else (L, 2)) else (L, 3)
def changeS (L : List Tab) (id mask : Int) (r : R8) : List Tab × Int :=
  if id ∈ allL L then (if goodRowB mask (chR mask (mk L id) (rw0 L id) r) then (putT mask id (chR mask (mk L id) (rw0 L id) r) (killT id L), 0) else (L, 2)) else (L, 3)
theorem new_id {next : Int} {L : List Tab} (hg : GoodL next L) : next ∉ allL L := fun hc => by
  obtain ⟨t, ht, hx⟩ := List.mem_flatMap.1 hc
  have := (hg.2.2.2.2.1 t ht).2.2.1 _ hx
  simp [btw] at this
  omega
theorem next_le {next : Int} {L : List Tab} (hg : GoodL next L) : 0 ≤ next ∧ next ≤ 1048576 := by
  have hb : btw next 0 1048576 = true := hg.1
  simpa [btw] using hb
theorem good_spawn {next : Int} {L : List Tab} (hg : GoodL next L) (mask : Int) (r : R8) : GoodL (spawnS next L mask r).2.1 (spawnS next L mask r).1 := by
  unfold spawnS
  split
  · exact hg
  · rename_i hr
    split
    · exact hg
    · rename_i hf
      have hl := hg.2.1
      have hb := next_le hg
      show GoodL (next + 1) (putT mask next r L)
      exact put_all hg (by omega) (by omega) (by omega) (by omega) (new_id hg) (by simpa using hr)
theorem at_of_mem {next : Int} {L : List Tab} (hg : GoodL next L) {v : Int} (hv : v ∈ allL L) : At L v (mk L v) (rw0 L v) := by
  obtain ⟨t, ht, hx⟩ := List.mem_flatMap.1 hv
  obtain ⟨j, hj, e⟩ := List.getElem_of_mem hx
  have hl := hg.even t ht
  have hat : At L v t.mask (t.rows[j]'(by omega)) := ⟨t, ht, rfl, j, by rw [List.getElem?_eq_getElem hj, e], List.getElem?_eq_getElem (by omega)⟩
  have := at_mk hg.2.2.2.2.2 hat
  rw [this.1, this.2]
  exact hat
theorem good_kill {next : Int} {L : List Tab} (hg : GoodL next L) (id : Int) : GoodL next (killS L id).1 := by
  unfold killS
  split
  · rename_i hm; exact (kill_all hg hm).1
  · exact hg
theorem good_setS {next : Int} {L : List Tab} (hg : GoodL next L) (id : Int) (r : R8) : GoodL next (setS L id r).1 := by
  unfold setS
  split
  · split
    · rename_i hr
      exact good_set hg (fun m q hat => by rw [← (at_mk hg.2.2.2.2.2 hat).1]; exact hr)
    · exact hg
  · exact hg
theorem good_change' {next : Int} {L : List Tab} (hg : GoodL next L) (id mask : Int) (r : R8) : GoodL next (changeS L id mask r).1 := by
  unfold changeS
  split
  · rename_i hm
    split
    · rename_i hr
      obtain ⟨k1, k2, _⟩ := kill_all hg hm
      have hl := hg.2.1
      have e := k2.length_eq
      have hb := next_le hg
      simp at e
      have hid := (At.good hg (at_of_mem hg hm)).2
      exact put_all k1 (Int.le_refl _) (by omega) (by omega) hid (List.nodup_cons.1 (k2.nodup_iff.2 hg.2.2.2.2.2)).1 hr
    · exact hg
  · exact hg
theorem Sto.spawn {W : World} {F : Nat → Prop} {v : Value} {L : List Tab} (h : Sto W F v L) (next : Int) (hg : GoodL next L) (mask : Int) (r : R8) :
    Calls Tryz.prog 46 #[.agg #[v, .int .i64 next], .int .i64 mask, .agg #[.int .i64 r.x, .int .i64 r.y, .int .i64 r.px, .int .i64 r.py, .int .i64 r.wd, .int .i64 r.ht, .int .i64 r.ms, .int .i64 r.rr]] W fun e w' =>
      (∃ a n c, e = .returned (.tuple #[.agg #[.slice a n c, .int .i64 (spawnS next L mask r).2.1], .int .i64 (spawnS next L mask r).2.2.1, .int .i64 (spawnS next L mask r).2.2.2]) ∧ ∃ F', Sto w' F' (.slice a n c) (spawnS next L mask r).1 ∧ ∀ b, F' b → W.heap.size ≤ b) ∧ Below W.heap.size W w' := by
  obtain ⟨a, n, cap, T, I, R, rfl, hin, rfl⟩ := h.in_
  refine (spawn_any a n cap next mask T I R r W hin (fun a' n' c' B A C h1 h2 _ => insertAt_any a' n' c' B A C mask h2 (by omega))).mono ?_
  rintro e w' ⟨⟨u, nx, id, ec, rfl, S, ho, hout⟩, hb⟩
  obtain ⟨a', c', rfl⟩ := own_form ho.1
  have hgs := good_spawn hg mask r
  have key : (S.map (·.t), nx, id, ec) = spawnS next (plainOf T I R n) mask r := by
    unfold spawnS
    rcases hout with ⟨rfl, rfl, h3, h4 | h4 | h4⟩ | ⟨rfl, rfl, rfl, h4, h5, h6, h7, h8⟩
    · exact absurd hg h4.2
    · rw [if_pos h4.2.2, h3, h4.1]
    · rw [if_neg (by simp [h4.2.2.1]), if_pos h4.2.2.2, h3, h4.1]
    · rw [if_neg (by simp [h5]), if_neg (by omega), h8]
  rw [← key] at hgs ⊢
  exact ⟨⟨a', S.length, c', rfl, own_sto (next := nx) ho hgs⟩, hb⟩
theorem Sto.kill {W : World} {F : Nat → Prop} {v : Value} {L : List Tab} (h : Sto W F v L) (next : Int) (hg : GoodL next L) (id : Int) :
    Calls Tryz.prog 65 #[.agg #[v, .int .i64 next], .int .i64 id] W fun e w' =>
      (∃ a n c, e = .returned (.tuple #[.agg #[.slice a n c, .int .i64 next], .int .i64 (killS L id).2]) ∧ ∃ F', Sto w' F' (.slice a n c) (killS L id).1 ∧ ∀ b, F' b → W.heap.size ≤ b) ∧ Below W.heap.size W w' := by
  obtain ⟨a, n, cap, T, I, R, rfl, hin, rfl⟩ := h.in_
  refine (kill_any a n cap next id T I R W hin).mono ?_
  rintro e w' ⟨⟨u, ec, rfl, S, ho, hout⟩, hb⟩
  obtain ⟨a', c', rfl⟩ := own_form ho.1
  have hgs := good_kill hg id
  have key : (S.map (·.t), ec) = killS (plainOf T I R n) id := by
    unfold killS
    rcases hout with ⟨_, h1, _⟩ | ⟨rfl, _, h1, h2⟩ | ⟨rfl, _, h1, h2⟩
    · exact absurd hg h1
    · rw [if_neg h1, h2]
    · rw [if_pos h1, h2]
  rw [← key] at hgs ⊢
  exact ⟨⟨a', S.length, c', rfl, own_sto (next := next) ho hgs⟩, hb⟩
theorem Sto.set' {W : World} {F : Nat → Prop} {v : Value} {L : List Tab} (h : Sto W F v L) (next : Int) (hg : GoodL next L) (id : Int) (r : R8) :
    Calls Tryz.prog 107 #[.agg #[v, .int .i64 next], .int .i64 id, .agg #[.int .i64 r.x, .int .i64 r.y, .int .i64 r.px, .int .i64 r.py, .int .i64 r.wd, .int .i64 r.ht, .int .i64 r.ms, .int .i64 r.rr]] W fun e w' =>
      (∃ a n c, e = .returned (.tuple #[.agg #[.slice a n c, .int .i64 next], .int .i64 (setS L id r).2]) ∧ ∃ F', Sto w' F' (.slice a n c) (setS L id r).1 ∧ ∀ b, F' b → W.heap.size ≤ b) ∧ Below W.heap.size W w' := by
  obtain ⟨a, n, cap, T, I, R, rfl, hin, rfl⟩ := h.in_
  refine (set_any a n cap next id r T I R W hin).mono ?_
  rintro e w' ⟨⟨u, ec, rfl, S, ho, hout⟩, hb⟩
  obtain ⟨a', c', rfl⟩ := own_form ho.1
  have hgs := good_setS hg id r
  have key : (S.map (·.t), ec) = setS (plainOf T I R n) id r := by
    unfold setS
    rcases hout with ⟨_, h1, _⟩ | ⟨rfl, _, h1, h2⟩ | ⟨rfl, _, ⟨m, q, h1, h2⟩, h3⟩ | ⟨rfl, _, ⟨m, q, h1, h2⟩, h3⟩
    · exact absurd hg h1
    · rw [if_neg h1, h2]
    · rw [if_pos (at_mem h1), (at_mk hg.2.2.2.2.2 h1).1, if_neg (by simp [h2]), h3]
    · rw [if_pos (at_mem h1), (at_mk hg.2.2.2.2.2 h1).1, if_pos h2, h3]
  rw [← key] at hgs ⊢
  exact ⟨⟨a', S.length, c', rfl, own_sto (next := next) ho hgs⟩, hb⟩
theorem Sto.change {W : World} {F : Nat → Prop} {v : Value} {L : List Tab} (h : Sto W F v L) (next : Int) (hg : GoodL next L) (id mask : Int) (r : R8) :
    Calls Tryz.prog 106 #[.agg #[v, .int .i64 next], .int .i64 id, .int .i64 mask, .agg #[.int .i64 r.x, .int .i64 r.y, .int .i64 r.px, .int .i64 r.py, .int .i64 r.wd, .int .i64 r.ht, .int .i64 r.ms, .int .i64 r.rr]] W fun e w' =>
      (∃ a n c, e = .returned (.tuple #[.agg #[.slice a n c, .int .i64 next], .int .i64 (changeS L id mask r).2]) ∧ ∃ F', Sto w' F' (.slice a n c) (changeS L id mask r).1 ∧ ∀ b, F' b → W.heap.size ≤ b) ∧ Below W.heap.size W w' := by
  obtain ⟨a, n, cap, T, I, R, rfl, hin, rfl⟩ := h.in_
  refine (change_any a n cap next id mask r T I R W hin).mono ?_
  rintro e w' ⟨⟨u, ec, rfl, S, ho, hout⟩, hb⟩
  obtain ⟨a', c', rfl⟩ := own_form ho.1
  have hgs := good_change' hg id mask r
  have key : (S.map (·.t), ec) = changeS (plainOf T I R n) id mask r := by
    unfold changeS
    rcases hout with ⟨_, h1, _⟩ | ⟨rfl, _, h1, h2⟩ | ⟨rfl, _, ⟨m, q, h1, h2⟩, h3⟩ | ⟨rfl, _, m, q, h1, h2, h3⟩
    · exact absurd hg h1
    · rw [if_neg h1, h2]
    · rw [if_pos (at_mem h1), (at_mk hg.2.2.2.2.2 h1).1, (at_mk hg.2.2.2.2.2 h1).2, if_neg (by simp [h2]), h3]
    · rw [if_pos (at_mem h1), (at_mk hg.2.2.2.2.2 h1).1, (at_mk hg.2.2.2.2.2 h1).2, if_pos h2, h3]
  rw [← key] at hgs ⊢
  exact ⟨⟨a', S.length, c', rfl, own_sto (next := next) ho hgs⟩, hb⟩
theorem Sto.empty (W : World) : Sto W (fun _ => False) (.slice none 0 0) [] :=
  ⟨none, 0, 0, fun _ => ⟨0, none, 0, 0, none, 0, 0⟩, fun _ _ => 0, fun _ _ => zeroR, rfl, rfl, fun _ h => h.elim, fun _ _ _ => ⟨fun h => absurd h (Nat.lt_irrefl _), fun i hi => absurd hi (Nat.not_lt_zero _), fun i hi => absurd hi (Nat.not_lt_zero _), ⟨by omega, fun _ => rfl, fun i hi => absurd hi (Nat.not_lt_zero _)⟩, fun i hi => absurd hi (Nat.not_lt_zero _)⟩⟩
theorem good_nil : GoodL 0 [] := ⟨rfl, by simp [allL], by simp, List.Pairwise.nil, by simp, by simp [allL]⟩
end Go.Proofs.YtckkkdldljhehabGreat.Wd
