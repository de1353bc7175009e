/- What Get of package store answers when called over a good store in memory, once for a number that is there and once for one that is not; tables of one's own that are good are such a store; what pick of package ninepinskeep answers is elsewhere. -/
import Derived.Test.YtckkkdldljhehaaKtStLs
import Derived.WalkArith
namespace Go.Proofs.Ytckkkdldljhehaa.St
open Go.Proofs.Ytckkkdldljhehaa.Num
open Go.ChangeShapes Go.WideShapes Go.ChangeAt Go.RowKit

theorem StoreIn.get_none {w : World} {a : Option Addr} {n : Nat} {T : Nat → TabV} {I : Nat → Nat → Int} {R : Nat → Nat → R8} (h : StoreIn w a n T I R) (he : Even (plainOf T I R n)) (cap : Nat) (next v : Int) (hv : v ∉ allL (plainOf T I R n)) :
    Calls Try.prog 32 #[.agg #[.slice a n cap, .int .i64 next], .int .i64 v] w fun e w' =>
      e = .returned (.tuple #[.int .i64 0, .agg #[.int .i64 0, .int .i64 0, .int .i64 0, .int .i64 0, .int .i64 0, .int .i64 0, .int .i64 0, .int .i64 0], .bool false]) ∧ Below w.heap.size w w' := by
  refine (h.get he cap next v).mono ?_
  rintro e w' ⟨⟨rfl, -⟩ | ⟨m, r, -, hat⟩, hb⟩
  · exact ⟨rfl, hb⟩
  · exact absurd (at_mem hat) hv
theorem StoreIn.get_some {w : World} {a : Option Addr} {n : Nat} {T : Nat → TabV} {I : Nat → Nat → Int} {R : Nat → Nat → R8} (h : StoreIn w a n T I R) (he : Even (plainOf T I R n)) (hn : (allL (plainOf T I R n)).Nodup) (cap : Nat) (next v m : Int) (r : R8) (hv : At (plainOf T I R n) v m r) :
    Calls Try.prog 32 #[.agg #[.slice a n cap, .int .i64 next], .int .i64 v] w fun e w' =>
      e = .returned (.tuple #[.int .i64 m, .agg #[.int .i64 r.x, .int .i64 r.y, .int .i64 r.px, .int .i64 r.py, .int .i64 r.wd, .int .i64 r.ht, .int .i64 r.ms, .int .i64 r.rr], .bool true]) ∧ Below w.heap.size w w' := by
  refine (h.get he cap next v).mono ?_
  rintro e w' ⟨⟨rfl, hno⟩ | ⟨m', r', rfl, hat⟩, hb⟩
  · exact absurd (at_mem hv) hno
  · obtain ⟨rfl, rfl⟩ := at_unique hn hat hv
    exact ⟨rfl, hb⟩
/-- Tables of one's own that are good are a store in memory. -/
theorem own_good {w : World} {B n c : Nat} {a : Option Addr} {S : List OT} {next : Int} (h : Own w B (.slice a n c) S) (hn : n = S.length) (hg : GoodL next (S.map (·.t))) :
    StoreIn w a n (tvOf S) (idOf S) (rwOf S) ∧ plainOf (tvOf S) (idOf S) (rwOf S) n = S.map (·.t) := by
  refine ⟨own_storeIn h hn ?_ ?_ ?_, by rw [hn]; exact plain_own S⟩
  · have := goodL_len hg
    simp at this
    omega
  · intro o ho
    have hm : o.t ∈ S.map (·.t) := List.mem_map.2 ⟨o, ho, rfl⟩
    have h1 := len_le hg.2.1 _ hm
    have h2 := (hg.2.2.2.2.1 _ hm).2.1
    omega
  · intro o ho x hx
    have hm : o.t ∈ S.map (·.t) := List.mem_map.2 ⟨o, ho, rfl⟩
    have h2 := (hg.2.2.2.2.1 _ hm).2.2.1 x hx
    have h3 := hg.1
    simp [btw] at h2 h3
    exact Go.WalkArith.wf_i64 ⟨by omega, by omega⟩
end Go.Proofs.Ytckkkdldljhehaa.St
