/- A box that came in as an argument, opened. No walk. -/
import Derived.Test.YtckkkdldljhehacGreatKtGmOpen
import Derived.Test.YtckkkdldljhehacGreatPkF
namespace Go.Proofs.YtckkkdldljhehacGreat.Gm
open Go.ChangeShapes Go.WideShapes Go.ChangeAt Go.RowKit Go.Deep Go.Joins

section
variable {H : Type} {enc : TypeId × Value → H} {W : World}
set_option maxRecDepth 100000 in
theorem open_box {r : Reach} {b0 : Nat} {v : Value} {d : DataW H} {p : List MemPlace} (hv : Value.okWide Tryz.prog W r b0 36 v) (h : DataW.Trod enc Tryz.prog W 0 (fun _ => true) true 36 v d p) :
    ∃ x : Sw.B5, v = .agg #[.int .i64 x.id, .int .i64 x.x1, .int .i64 x.y1, .int .i64 x.x2, .int .i64 x.y2] := by
  obtain ⟨cs, rfl, _⟩ := okWide_struct Tryz.underlying36 hv
  obtain ⟨fuel, hf⟩ := h
  obtain ⟨bi, bx1, by1, bx2, by2, hx⟩ := box_fields hf
  refine ⟨⟨bi, bx1, by1, bx2, by2⟩, ?_⟩
  have : cs.toList = [.int .i64 bi, .int .i64 bx1, .int .i64 by1, .int .i64 bx2, .int .i64 by2] := by simpa [Value.cells] using hx
  rw [← Array.toArray_toList (xs := cs), this]
end
end Go.Proofs.YtckkkdldljhehacGreat.Gm
