/- What Do of a game answers to the acts that are done again. Lemmas, no walk. -/
import Derived.Test.YtckkkdldljhehacGreatKtGmRl
import Derived.Test.YtckkkdldljhehacGreatKtGmAg
namespace Go.Proofs.YtckkkdldljhehacGreat.Gm
open Go.Proofs.YtckkkdldljhehacGreat.Num Go.Proofs.YtckkkdldljhehacGreat.St Go.Proofs.YtckkkdldljhehacGreat.Wd
open Go.ChangeShapes Go.WideShapes Go.ChangeAt Go.RowKit

theorem infoReply : (Tryz.prog.info? 31).map (fun i => (i.zero, i.size, i.bytes)) = some (some (.agg #[.int .i64 0, .int .i64 0, .slice none 0 0, .slice none 0 0]), 4, 64) := by kernel_rfl
theorem again_do {w0 w : World} {F : Nat → Prop} {b : Nat} {sk : Gp} {x : Wp} {more : List Ac} {k : Nat} {xa : Ac} (hG : Gam w F b sk) (hg : GoodG sk) (hb : Below w0.heap.size w0 w) (hF : ∀ z, F z → w0.heap.size ≤ z) (hx : more[k]? = some xa) (hnow : sk.now = runW x (more.take k)) (hac : sk.acts < 150) (ya : Ac) (e : ya = fixA xa) :
    Calls Tryz.prog 14 #[.pointer (some ⟨b, 0, none⟩), actA ya] w fun e w' => ∃ ai ci am cm F' s', e = .returned (.agg #[.int .i64 (repAt x more k).code, .int .i64 (repAt x more k).n, .slice ai (repAt x more k).ids.length ci, .slice am (repAt x more k).met.length cm]) ∧
      (w'.ownsRow w.heap.size 3 1 (.slice ai (repAt x more k).ids.length ci) (repAt x more k).ids.length ((repAt x more k).ids.map (Value.int .i64)) ∧ w'.ownsRow w.heap.size 54 2 (.slice am (repAt x more k).met.length cm) (repAt x more k).met.length ((repAt x more k).met.flatMap Sw.pairCells)) ∧
      (Gam w' F' b s' ∧ GoodG s' ∧ s'.now = runW x (more.take (k + 1)) ∧ s'.saves = sk.saves ∧ s'.acts = sk.acts + 1) ∧ (∀ z, F' z → F z ∨ w.heap.size ≤ z) ∧ (∀ z, F' z → w0.heap.size ≤ z) ∧
      (∀ z, (Value.slice ai (repAt x more k).ids.length ci).ownBlock = some z ∨ (Value.slice am (repAt x more k).met.length cm).ownBlock = some z → ¬ F' z) ∧ Kept F w w' ∧ Below w0.heap.size w0 w' := by
  subst e
  have hd := do_from hG hg hb hF (fixA xa)
  have hgd := hg.do (fixA xa)
  rw [do_fix xa hac] at hd hgd
  rw [runW_succ x hx, repAt_eq x hx, ← hnow]
  refine Calls.mono hd ?_
  rintro e w' ⟨ai, ci, am, cm, F', rfl, h1, h2, h3, h4, h5, h6, h7⟩
  exact ⟨ai, ci, am, cm, F', _, rfl, h1, ⟨h2, hgd, rfl, rfl, rfl⟩, h3, h4, h5, h6, h7⟩
theorem same_rep {W : World} {ai am ai' am' : Option Addr} {ci cm ci' cm' : Nat} (r : Rep) (h1 : r.ids.length ≤ 10) (h2 : r.met.length ≤ 800) (hi : Rp.IntsR W (.slice ai r.ids.length ci) r.ids) (hm : Rp.PairsR W (.slice am r.met.length cm) r.met) (hi' : Rp.IntsR W (.slice ai' r.ids.length ci') r.ids) (hm' : Rp.PairsR W (.slice am' r.met.length cm') r.met) :
    Calls Tryz.prog 15 #[.agg #[.int .i64 r.code, .int .i64 r.n, .slice ai r.ids.length ci, .slice am r.met.length cm], .agg #[.int .i64 r.code, .int .i64 r.n, .slice ai' r.ids.length ci', .slice am' r.met.length cm']] W fun e w' => e = .returned (.bool true) ∧ Below W.heap.size W w' := by
  refine (Rp.tsameReply_any r.code r.n r.code r.n _ _ _ _ r.ids r.ids r.met r.met W hi hm hi' hm' (by omega) (by omega)).mono ?_
  rintro e w' ⟨rfl, hb⟩
  exact ⟨by simp, hb⟩
theorem fix7 {a : Ac} (h : a.kind = 7) : ({ a with kind := 6 } : Ac) = fixA a := by unfold fixA; rw [if_pos (Or.inl h)]
theorem fix8 {a : Ac} (h : a.kind = 8) : ({ a with kind := 6 } : Ac) = fixA a := by unfold fixA; rw [if_pos (Or.inr h)]
theorem fix0 {a : Ac} (h7 : a.kind ≠ 7) (h8 : a.kind ≠ 8) : a = fixA a := by unfold fixA; rw [if_neg (by omega)]
end Go.Proofs.YtckkkdldljhehacGreat.Gm
