/- What New of package game answers when called: a new game in memory of its own, where the numbers are a world's; nothing that was in memory before has changed. -/
import Derived.Test.YtckkkdldljhehacGreatKtGmL
namespace Go.Proofs.YtckkkdldljhehacGreat.Gm
open Go.Proofs.YtckkkdldljhehacGreat.Num Go.Proofs.YtckkkdldljhehacGreat.St Go.Proofs.YtckkkdldljhehacGreat.Wd
open Go.ChangeShapes Go.WideShapes Go.ChangeAt Go.RowKit

theorem newGood {wide high fall : Int} (h : GoodWd 0 fall wide high []) : GoodG (newG wide high fall) := ⟨⟨h.1, h.2.1, h.2.2.1, h.2.2.2⟩, (fun x hx => by cases hx), by simp [newG], by simp [newG]⟩
theorem gam_new (w : World) (wide high fall : Int) : Gam (w.alloc (.cells #[.slice none 0 0, .int .i64 0, .int .i64 fall, .int .i64 wide, .int .i64 high, .slice none 0 0, .int .i64 0] 84)) (fun z => z = w.heap.size) w.heap.size (newG wide high fall) := by
  refine ⟨.slice none 0 0, .slice none 0 0, [], fun _ => False, ⟨?_, World.ownsRow_nil _ _ _ _, rfl, Sto.empty _, (fun i u x h => by cases h), (fun z hz => hz.elim), rfl, (fun z hz => by cases hz), fun z hz => ?_⟩⟩
  · refine (rowIsL w [.slice none 0 0, .int .i64 0, .int .i64 fall, .int .i64 wide, .int .i64 high, .slice none 0 0, .int .i64 0] 84).congr (fun i hi => ?_)
    match i, hi with
    | 0, _ => rfl
    | 1, _ => rfl
    | 2, _ => rfl
    | 3, _ => rfl
    | 4, _ => rfl
    | 5, _ => rfl
    | 6, _ => rfl
  · subst hz; simp
set_option maxHeartbeats 1000000 in
set_option maxRecDepth 100000 in
theorem new_any (wide high fall : Int) (w : World) : Calls Tryz.prog 22 #[.int .i64 wide, .int .i64 high, .int .i64 fall] w fun e w' =>
    ((¬ GoodWd 0 fall wide high [] ∧ e = .returned (.tuple #[.pointer none, .int .i64 2])) ∨
     (GoodWd 0 fall wide high [] ∧ ∃ b F, e = .returned (.tuple #[.pointer (some ⟨b, 0, none⟩), .int .i64 0]) ∧ Gam w' F b (newG wide high fall) ∧ ∀ z, F z → w.heap.size ≤ z)) ∧ Below w.heap.size w w' := by
  go_enter Tryz.func22, Tryz.ntmps22
  go_wp2_with fail
  refine (wgood_any 0 fall wide high (Sto.empty _)).mono ?_
  rintro e w1 ⟨⟨g, rfl, hg⟩, hb1⟩
  have HG := St.hid hg
  have HB1 := St.hid (bcall (bal (Below.refl _ w) _) hb1)
  have hW := St.hid (rowIs_below (rowIs5 w (.slice none 0 0) 0 fall wide high 45) hb1)
  have hz1 := hb1.size
  simp at hz1
  clear hb1 hg
  obtain ⟨x0, x1, x2, x3, x4, -, -, -, -, -⟩ := wcells hW.out
  cases g
  · go_wp2_with fail
    refine bodyPost_ret (v := .tuple #[.pointer none, .int .i64 2]) (by simp [results, Tryz.results22, go_sem]) rfl ?_
    exact ⟨Or.inl ⟨(fun h => by have := HG.out.2 h; cases this), rfl⟩, HB1.out⟩
  · have hgd := HG.out.1 rfl
    go_wp2_with fail
    refine bodyPost_ret (v := .tuple #[.pointer (some ⟨w1.heap.size, 0, none⟩), .int .i64 0]) (by simp [results, Tryz.results22, go_sem]) rfl ?_
    exact ⟨Or.inr ⟨hgd, w1.heap.size, _, rfl, gam_new w1 wide high fall, fun z hz => by subst hz; exact HB1.out.size⟩, bal HB1.out _⟩
end Go.Proofs.YtckkkdldljhehacGreat.Gm
