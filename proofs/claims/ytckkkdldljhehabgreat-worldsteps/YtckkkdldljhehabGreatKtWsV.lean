/- Five cells of a world written, beside a map and what was in memory before. Lemmas, no walk. -/
import Derived.Test.YtckkkdldljhehabGreatKtWsA
import Derived.Test.YtckkkdldljhehabGreatPkJ
namespace Go.Proofs.YtckkkdldljhehabGreat.Ws
open Go.Proofs.YtckkkdldljhehabGreat.Num Go.Proofs.YtckkkdldljhehabGreat.St Go.Proofs.YtckkkdldljhehabGreat.Mp Go.Proofs.YtckkkdldljhehabGreat.Th Go.Proofs.YtckkkdldljhehabGreat.Wd
open Go.ChangeShapes Go.WideShapes Go.ChangeAt Go.RowKit

theorem mp_put5 {W : World} {c b : Nat} {l : Mth} (h : Mp W c l) (hne : c ≠ b) (v : Value) (next fall wide high : Int) : Mp (put5 W b v next fall wide high) c l :=
  h.kept (grown5 W b v next fall wide high) (fun e => hne (Option.some.inj e))
theorem below5 {w W : World} {b : Nat} (h : Below w.heap.size w W) (hb : w.heap.size ≤ b) (v : Value) (next fall wide high : Int) : Below w.heap.size w (put5 W b v next fall wide high) :=
  below_grown h (grown5 W b v next fall wide high) h.size hb
end Go.Proofs.YtckkkdldljhehabGreat.Ws
