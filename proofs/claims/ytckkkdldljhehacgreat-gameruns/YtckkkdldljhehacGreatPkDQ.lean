/- Part of the proofs of GamePlays and GameRuns (package ninepinslaw): contracts of the functions that they call. -/
import Derived.Test.YtckkkdldljhehacGreatPkY
import Derived.Test.YtckkkdldljhehacGreatPkDB
import Derived.Test.YtckkkdldljhehacGreatPkDC
import Derived.Test.YtckkkdldljhehacGreatPkDF
import Derived.Test.YtckkkdldljhehacGreatPkDG
import Derived.Test.YtckkkdldljhehacGreatPkDH
import Derived.Test.YtckkkdldljhehacGreatPkDI
import Derived.Test.YtckkkdldljhehacGreatPkDK
import Derived.Test.YtckkkdldljhehacGreatPkDN
namespace Go.Proofs.YtckkkdldljhehacGreat
namespace Rf
open Num St Mp Th Wd Gm Ws
open Go.ChangeShapes Go.WideShapes Go.ChangeAt Go.RowKit
attribute [local go_sem ↓] Go.wp_at_zero Go.wp_at_succ
theorem rdo_gt {F : Nat → Prop} {b : Nat} {s : Gp} {w : World} {k id n mask : Int} {row : R8} {box : Sw.B5} (hR : RIn F b s w id mask) (hk : k = 3 ∨ k = 4) (hin : id ∈ allL s.now.L) : RDone F b s w ⟨k, id, n, mask, row, box⟩ := by
 obtain ⟨t, hT⟩ := there_of hR.g hin
 cases h1 : oneB mask
 ·exact rdo_not hR hk t hT (Or.inl h1)
 have hpp := one_parts h1
 by_cases h2 : hasB t.m mask = decide (k = 3)
 ·exact rdo_not hR hk t hT (Or.inr ⟨hpp, h2⟩)
 ·rcases hk with rfl | rfl
  ·have h2 : hasB t.m mask = false := by simpa using h2
   exact rdo_give_ok hR t hT h2 hpp
  ·exact rdo_take_ok hR t hT (by simpa using h2) hpp
theorem rdo_any {F : Nat → Prop} {b : Nat} {s : Gp} {w : World} (hG : RGam w F b s) (hg : GoodG s) (a : Ac) (hidw : (Lit.int .i64 a.id).wf = true) (hmw : -9223372036854775808 ≤ a.mask ∧ a.mask ≤ 9223372036854775807) :
  Calls Tryz.prog 27 #[.pointer (some ⟨b, 0, none⟩), actA a] w (PostR w F b (doG s a).1 (doG s a).2) := by
 obtain ⟨k, id, n, mask, row, box⟩ := a
 rcases Nat.lt_or_ge s.acts 150 with ha | ha
 ·have hR : RIn F b s w id mask := ⟨hG, hg, ha, hidw, hmw⟩
  by_cases h1 : k = 1
  ·subst h1; exact rdo_spawn hR
  by_cases hk : k = 2 ∨ k = 3 ∨ k = 4 ∨ k = 5
  ·by_cases hin : id ∈ allL s.now.L
   ·rcases hk with rfl | rfl | rfl | rfl
    ·exact rdo_kill hR hin
    ·exact rdo_gt hR (Or.inl rfl) hin
    ·exact rdo_gt hR (Or.inr rfl) hin
    ·exact rdo_kick hR hin
   ·exact rdo_none hR hk hin
  by_cases h6 : k = 6
  ·subst h6; exact rdo_step hR
  by_cases h7 : k = 7
  ·subst h7; exact rdo_save hR
  by_cases h8 : k = 8
  ·subst h8; exact rdo_load hR
  by_cases h9 : k = 9
  ·subst h9; exact rdo_look hR
  exact rdo_other k h1 (fun h => hk (Or.inl h)) (fun h => hk (Or.inr (Or.inl h))) (fun h => hk (Or.inr (Or.inr (Or.inl h)))) (fun h => hk (Or.inr (Or.inr (Or.inr h)))) h6 h7 h8 h9 hR
 ·exact rdo_full hG hg (by have := hg.acts; omega) k id n mask row box hidw hmw
theorem rgam_new (w : World) (wide high fall : Int) : RGam ((w.alloc (.map #[] 0)).alloc (.cells #[.map (some w.heap.size), .int .i64 0, .int .i64 fall, .int .i64 wide, .int .i64 high, .slice none 0 0, .int .i64 0] 79)) (fun z => w.heap.size ≤ z ∧ z < w.heap.size + 2) (w.heap.size + 1) (newG wide high fall) := by
 refine ⟨w.heap.size, .slice none 0 0, [], ⟨?_, World.ownsRow_nil _ _ _ _, rfl, (Mp.made w).below (bal (Below.refl _ _) _), (fun i u x h => by cases h), ⟨by omega, by omega⟩, ⟨⟨by omega, by omega⟩, by omega⟩, (fun m hm => by cases hm), (fun z hz => by cases hz), fun z hz => by simp; omega⟩⟩
 have h1 := rowIsL (w.alloc (.map #[] 0)) [.map (some w.heap.size), .int .i64 0, .int .i64 fall, .int .i64 wide, .int .i64 high, .slice none 0 0, .int .i64 0] 79
 rw [World.size_alloc] at h1
 refine h1.congr (fun i hi => ?_)
 match i, hi with
 | 0, _ => rfl
 | 1, _ => rfl
 | 2, _ => rfl
 | 3, _ => rfl
 | 4, _ => rfl
 | 5, _ => rfl
 | 6, _ => rfl
set_option maxHeartbeats 4000000 in
set_option maxRecDepth 100000 in
theorem rnew_any (wide high fall : Int) (w : World) : Calls Tryz.prog 24 #[.int .i64 wide, .int .i64 high, .int .i64 fall] w fun e w' =>
  ((¬ GoodWd 0 fall wide high [] ∧ e = .returned (.tuple #[.pointer none, .int .i64 2])) ∨
   (GoodWd 0 fall wide high [] ∧ ∃ b F, e = .returned (.tuple #[.pointer (some ⟨b, 0, none⟩), .int .i64 0]) ∧ RGam w' F b (newG wide high fall) ∧ ∀ z, F z → w.heap.size ≤ z)) ∧ Below w.heap.size w w' := by
 have hgw : GoodWd 0 fall wide high [] ↔ (btw wide 1 1048576 && (btw high 1 1048576 && btw fall (-64) 64)) = true := by
  have h0 : GoodL 0 [] := ⟨rfl, by simp [allL], by simp, List.Pairwise.nil, by simp, by simp [allL]⟩
  simp [GoodWd, btw, h0]
  omega
 have hmm := @run_makeMap Tryz.prog
 rw [hgw]
 cases hw : btw wide 1 1048576 <;> cases hh : btw high 1 1048576 <;> cases hf : btw fall (-64) 64
 all_goals
  clear hgw
  simp only [Bool.and_false, Bool.and_self, Bool.and_true, Bool.false_eq_true, not_false_eq_true, true_and, false_and, or_false, not_true_eq_false, false_or]
  go_enter Tryz.func24, Tryz.ntmps24
  go_wp2_with (go_at_call 47; refine (Th.within_any _ _ _ _).mono ?_; rintro e w' ⟨rfl, hw'⟩; replace hw' := hw'.symm; subst hw')
 all_goals first
  | exact bodyPost_ret (v := .tuple #[.pointer none, .int .i64 2]) (by simp [results, Tryz.results24, go_sem]) rfl ⟨rfl, Below.refl _ _⟩
  | exact bodyPost_ret (v := .tuple #[.pointer (some ⟨w.heap.size + 1, 0, none⟩), .int .i64 0]) (by simp [results, Tryz.results24, go_sem]) rfl ⟨⟨_, _, rfl, rgam_new w wide high fall, fun z hz => hz.1⟩, bal (bal (Below.refl _ _) _) _⟩
end Rf
end Go.Proofs.YtckkkdldljhehacGreat
