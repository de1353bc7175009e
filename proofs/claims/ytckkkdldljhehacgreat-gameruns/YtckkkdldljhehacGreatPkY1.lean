/- Part of the proofs of GamePlays and GameRuns (package ninepinslaw): contracts of the functions that they call. -/
import Derived.Deep.DrawnRows
import Derived.Deep.MidRow
import Derived.Deep.WholeRow
import Derived.Deep.DeepCutAuto
import Derived.Maps.AppendAt
import Derived.Laws.MakeOwn
import Derived.Laws.AppendOwnNone
import Derived.Deep.RegionHeld3
import Derived.Deep.DeepFit
import Derived.Test.YtckkkdldljhehacGreatPkA2
import Derived.Test.YtckkkdldljhehacGreatPkE2
import Derived.Test.YtckkkdldljhehacGreatPkG
import Derived.Test.YtckkkdldljhehacGreatPkQ
import Derived.Test.YtckkkdldljhehacGreatPkS
import Derived.Test.YtckkkdldljhehacGreatPkY
namespace Go.Proofs.YtckkkdldljhehacGreat
namespace Wd
open Num St
open Go.ChangeShapes Go.WideShapes Go.ChangeAt Go.RowKit
theorem cellB {W W' : World} {b : Nat} (h : W'.heap[b]? = W.heap[b]?) (o : Nat) : W'.cell? ⟨b, o, none⟩ = W.cell? ⟨b, o, none⟩ := World.cell?_of_block (a := ⟨b, o, none⟩) h
end Wd
namespace Gm
open Num St Wd
open Go.ChangeShapes Go.WideShapes Go.ChangeAt Go.RowKit
def doAll (s : Gp) (l : List Ac) : Gp := l.foldl (fun s a => (doG s a).1) s
theorem GoodG.doAll {s : Gp} (h : GoodG s) (l : List Ac) : GoodG (doAll s l) := by
 induction l generalizing s with
 | nil => exact h
 | cons a l ih => exact ih (h.do a)
theorem take_snocA {l : List Ac} {k : Nat} {x : Ac} (hx : l[k]? = some x) : l.take (k + 1) = l.take k ++ [x] := by rw [List.take_add_one, hx]; rfl
theorem doAll_snoc (s : Gp) (l : List Ac) (a : Ac) : doAll s (l ++ [a]) = (doG (doAll s l) a).1 := by simp [doAll]
end Gm
namespace Gm
open Num St Wd
open Go.ChangeShapes Go.WideShapes Go.ChangeAt Go.RowKit
def zeroA : Ac := ⟨0, 0, 0, 0, ⟨0, 0, 0, 0, 0, 0, 0, 0⟩, ⟨0, 0, 0, 0, 0⟩⟩
end Gm
namespace Gm
open Num St Wd
open Go.ChangeShapes Go.WideShapes Go.ChangeAt Go.RowKit
def AcBox (W : World) (b : Nat) (x : Ac) : Prop := W.rowIs b 38 17 (fun i => (actCells x).getD i undef)
theorem acBox (w : World) (x : Ac) : AcBox (w.alloc (.cells #[.int .i64 x.kind, .int .i64 x.id, .int .i64 x.n, .int .i64 x.mask, .int .i64 x.row.x, .int .i64 x.row.y, .int .i64 x.row.px, .int .i64 x.row.py, .int .i64 x.row.wd, .int .i64 x.row.ht, .int .i64 x.row.ms, .int .i64 x.row.rr, .int .i64 x.box.id, .int .i64 x.box.x1, .int .i64 x.box.y1, .int .i64 x.box.x2, .int .i64 x.box.y2] 38)) w.heap.size x := rowIsL w (actCells x) 38
theorem AcBox.below {W W' : World} {b : Nat} {x : Ac} (h : AcBox W b x) (hb : Below W.heap.size W W') : AcBox W' b x := rowIs_below h hb
theorem AcBox.kept {W W' : World} {F : Nat → Prop} {b : Nat} {x : Ac} (h : AcBox W b x) (hk : Kept F W W') (hb : ¬ F b) : AcBox W' b x := rowIs_kept h hk hb
theorem AcBox.at {W : World} {b : Nat} {x : Ac} (h : AcBox W b x) : W.cell? ⟨b, 0, none⟩ = some (.int .i64 x.kind) ∧ W.cell? ⟨b, 1, none⟩ = some (.int .i64 x.id) ∧ W.cell? ⟨b, 2, none⟩ = some (.int .i64 x.n) ∧ W.cell? ⟨b, 3, none⟩ = some (.int .i64 x.mask) ∧
  W.cell? ⟨b, 4, none⟩ = some (.int .i64 x.row.x) ∧ W.cell? ⟨b, 5, none⟩ = some (.int .i64 x.row.y) ∧ W.cell? ⟨b, 6, none⟩ = some (.int .i64 x.row.px) ∧ W.cell? ⟨b, 7, none⟩ = some (.int .i64 x.row.py) ∧
  W.cell? ⟨b, 8, none⟩ = some (.int .i64 x.row.wd) ∧ W.cell? ⟨b, 9, none⟩ = some (.int .i64 x.row.ht) ∧ W.cell? ⟨b, 10, none⟩ = some (.int .i64 x.row.ms) ∧ W.cell? ⟨b, 11, none⟩ = some (.int .i64 x.row.rr) ∧
  W.cell? ⟨b, 12, none⟩ = some (.int .i64 x.box.id) ∧ W.cell? ⟨b, 13, none⟩ = some (.int .i64 x.box.x1) ∧ W.cell? ⟨b, 14, none⟩ = some (.int .i64 x.box.y1) ∧ W.cell? ⟨b, 15, none⟩ = some (.int .i64 x.box.x2) ∧ W.cell? ⟨b, 16, none⟩ = some (.int .i64 x.box.y2) := acells h
theorem AcBox.lt {W : World} {b : Nat} {x : Ac} (h : AcBox W b x) : b < W.heap.size := World.rowIs.lt h
theorem AcBox.range {W : World} {b : Nat} {x : Ac} (h : AcBox W b x) : W.rangeAt b 0 (actCells x) := fun j v hj => by
 have hl : j < 17 := (List.getElem?_eq_some_iff.1 hj).1
 have hc := World.rowIs.cell h (i := j) hl
 rw [Nat.zero_add, hc, List.getD_eq_getElem?_getD, hj]
 rfl
theorem sizeA : (Tryz.prog.info? 38).map (·.size) = some 17 := by kernel_rfl
theorem oneA (x : Ac) : (actCells x).toArray.all (·.oneCell') = true := by simp [actCells, Value.oneCell']
theorem do_from {w0 w : World} {F : Nat → Prop} {b : Nat} {s : Gp} (hG : Gam w F b s) (hg : GoodG s) (hb : Below w0.heap.size w0 w) (hF : ∀ z, F z → w0.heap.size ≤ z) (a : Ac) :
  Calls Tryz.prog 14 #[.pointer (some ⟨b, 0, none⟩), actA a] w fun e w' => ∃ ai ci am cm F', e = .returned (.agg #[.int .i64 (doG s a).2.code, .int .i64 (doG s a).2.n, .slice ai (doG s a).2.ids.length ci, .slice am (doG s a).2.met.length cm]) ∧
   (w'.ownsRow w.heap.size 3 1 (.slice ai (doG s a).2.ids.length ci) (doG s a).2.ids.length ((doG s a).2.ids.map (Value.int .i64)) ∧ w'.ownsRow w.heap.size 54 2 (.slice am (doG s a).2.met.length cm) (doG s a).2.met.length ((doG s a).2.met.flatMap Sw.pairCells)) ∧
   Gam w' F' b (doG s a).1 ∧ (∀ z, F' z → F z ∨ w.heap.size ≤ z) ∧ (∀ z, F' z → w0.heap.size ≤ z) ∧ (∀ z, (Value.slice ai (doG s a).2.ids.length ci).ownBlock = some z ∨ (Value.slice am (doG s a).2.met.length cm).ownBlock = some z → ¬ F' z) ∧ Kept F w w' ∧ Below w0.heap.size w0 w' := by
 refine (do_any hG hg a).mono ?_
 rintro e w' ⟨ai, ci, am, cm, rfl, h1, h2, ⟨F', h3, h4, h5⟩, hk⟩
 have hs := hb.size
 exact ⟨ai, ci, am, cm, F', rfl, ⟨h1, h2⟩, h3, h4, fun z hz => (h4 z hz).elim (fun h => hF z h) (fun h => by omega), h5, hk, hb.trans (hk.to_below hs hF)⟩
theorem fieldR (c n : Int) (a : Option Addr) (k q : Nat) (a' : Option Addr) (k' q' : Nat) (w : World) : Sem.run Tryz.prog (Instr.field 31 (.agg #[.int .i64 c, .int .i64 n, .slice a k q, .slice a' k' q']) 0) w = .ok (.int .i64 c) w := by kernel_rfl
end Gm
namespace Gm
open Num St Wd
open Go.ChangeShapes Go.WideShapes Go.ChangeAt Go.RowKit
theorem Gam.grownO {W W' : World} {F : Nat → Prop} {b : Nat} {s : Gp} {o : Option Nat} (h : Gam W F b s) (hg : W.grownBy W' o) (hn : ∀ z, o = some z → ¬ F z) : Gam W' F b s :=
 h.kept (G := fun z => o = some z) ⟨hg.os, hg.tape, hg.output, hg.size, fun k hk hne => hg.block k hk (fun e => hne e.symm)⟩ (fun z hz e => hn z e hz)
theorem rep_cells (w : World) (c n : Int) (u v : Value) (t : TypeId) : ∀ j x, [Value.int .i64 c, .int .i64 n, u, v][j]? = some x → (w.alloc (.cells #[.int .i64 c, .int .i64 n, u, v] t)).cell? ((⟨w.heap.size, 0, none⟩ : Addr).add j) = some x := by
 intro j x hj
 obtain ⟨p0, p1, p2, p3⟩ := Rp.rcells (Rp.rowIs4 w c n u v t)
 rw [Addr.add_lit, Nat.zero_add]
 match j, hj with
 | 0, hj => cases hj; exact p0
 | 1, hj => cases hj; exact p1
 | 2, hj => cases hj; exact p2
 | 3, hj => cases hj; exact p3
 | k + 4, hj => simp at hj
def repCells (p : (Value × Value) × Rep) : List Value := [.int .i64 p.2.code, .int .i64 p.2.n, p.1.1, p.1.2]
structure Reps (W : World) (B : Nat) (F : Nat → Prop) (u : Value) (us : List (Value × Value)) (rs : List Rep) : Prop where
 row : W.ownsRow B 31 4 u rs.length ((us.zip rs).flatMap repCells)
 len : us.length = rs.length
 each : ∀ (i : Nat) p r, us[i]? = some p → rs[i]? = some r → W.ownsRow B 3 1 p.1 r.ids.length (r.ids.map (Value.int .i64)) ∧ W.ownsRow B 54 2 p.2 r.met.length (r.met.flatMap Sw.pairCells)
 sepR : ∀ z, u.ownBlock = some z → ¬ F z
 sep : ∀ (i : Nat) p, us[i]? = some p → ∀ z, p.1.ownBlock = some z ∨ p.2.ownBlock = some z → ¬ F z ∧ u.ownBlock ≠ some z
theorem Reps.nil (W : World) (B : Nat) (F : Nat → Prop) : Reps W B F (.slice none 0 0) [] [] :=
 ⟨World.ownsRow_nil _ _ _ _, rfl, (fun i p r h => by simp at h), (fun z h => by cases h), (fun i p h => by simp at h)⟩
theorem Reps.two {W : World} {B : Nat} {F : Nat → Prop} {u : Value} {us : List (Value × Value)} {rs : List Rep} (h : Reps W B F u us rs) {i : Nat} {p : Value × Value} (hp : us[i]? = some p) : ∃ r, rs[i]? = some r := by
 have := (List.getElem?_eq_some_iff.1 hp).1
 exact ⟨_, List.getElem?_eq_getElem (by rw [← h.len]; exact this)⟩
theorem Reps.lt {W : World} {B : Nat} {F : Nat → Prop} {u : Value} {us : List (Value × Value)} {rs : List Rep} (h : Reps W B F u us rs) {i : Nat} {p : Value × Value} (hp : us[i]? = some p) {z : Nat} (hz : p.1.ownBlock = some z ∨ p.2.ownBlock = some z) : z < W.heap.size := by
 obtain ⟨r, hr⟩ := h.two hp
 have he := h.each i p r hp hr
 rcases hz with hz | hz
 ·exact (he.1.lt z hz).2
 ·exact (he.2.lt z hz).2
theorem Reps.kept {W W' : World} {B : Nat} {F F' : Nat → Prop} {u : Value} {us : List (Value × Value)} {rs : List Rep} (h : Reps W B F u us rs) (hk : Kept F W W') (hF : ∀ z, F' z → F z ∨ W.heap.size ≤ z) : Reps W' B F' u us rs := by
 refine ⟨owns_kept' h.row hk h.sepR, h.len, fun i p r h1 h2 => ?_, fun z hz hc => ?_, fun i p hp z hz => ⟨fun hc => ?_, (h.sep i p hp z hz).2⟩⟩
 ·have he := h.each i p r h1 h2
  exact ⟨owns_kept' he.1 hk (fun z hz => (h.sep i p h1 z (Or.inl hz)).1), owns_kept' he.2 hk (fun z hz => (h.sep i p h1 z (Or.inr hz)).1)⟩
 ·rcases hF z hc with h1 | h1
  ·exact h.sepR z hz h1
  ·have := (h.row.lt z hz).2; omega
 ·rcases hF z hc with h1 | h1
  ·exact (h.sep i p hp z hz).1 h1
  ·have := h.lt hp hz; omega
theorem Reps.below {W W' : World} {B : Nat} {F : Nat → Prop} {u : Value} {us : List (Value × Value)} {rs : List Rep} (h : Reps W B F u us rs) (hb : Below W.heap.size W W') : Reps W' B F u us rs := by
 refine ⟨owns_below h.row hb, h.len, fun i p r h1 h2 => ?_, h.sepR, h.sep⟩
 have he := h.each i p r h1 h2
 exact ⟨owns_below he.1 hb, owns_below he.2 hb⟩
theorem Reps.snoc {W W' : World} {B : Nat} {F : Nat → Prop} {u : Value} {us : List (Value × Value)} {rs : List Rep} (h : Reps W B F u us rs) {v u1 u2 : Value} {r : Rep}
  (hown : W'.ownsRow B 31 4 v (rs.length + 1) ((us.zip rs).flatMap repCells ++ [.int .i64 r.code, .int .i64 r.n, u1, u2])) (hg : W.grownBy W' u.ownBlock) (hat : v.ownBlock = u.ownBlock ∨ v.ownBlock = some W.heap.size)
  (h1 : W.ownsRow B 3 1 u1 r.ids.length (r.ids.map (Value.int .i64))) (h2 : W.ownsRow B 54 2 u2 r.met.length (r.met.flatMap Sw.pairCells)) (hs : ∀ z, u1.ownBlock = some z ∨ u2.ownBlock = some z → ¬ F z ∧ u.ownBlock ≠ some z) (hF : ¬ F W.heap.size) :
  Reps W' B F v (us ++ [(u1, u2)]) (rs ++ [r]) := by
 have hsep : ∀ (i : Nat) p, (us ++ [(u1, u2)])[i]? = some p → ∀ z, p.1.ownBlock = some z ∨ p.2.ownBlock = some z → ¬ F z ∧ u.ownBlock ≠ some z ∧ z < W.heap.size := by
  intro i p hp z hz
  by_cases hi : i < us.length
  ·rw [List.getElem?_append_left hi] at hp
   exact ⟨(h.sep i p hp z hz).1, (h.sep i p hp z hz).2, h.lt hp hz⟩
  ·rw [List.getElem?_append_right (by omega)] at hp
   have e : (u1, u2) = p := by
    cases hk : i - us.length with
    | zero => rw [hk] at hp; simpa using hp
    | succ k => rw [hk] at hp; simp at hp
   subst e
   refine ⟨(hs z hz).1, (hs z hz).2, ?_⟩
   rcases hz with hz | hz
   ·exact (h1.lt z hz).2
   ·exact (h2.lt z hz).2
 refine ⟨?_, by simp [h.len], fun i p q hp hq => ?_, fun z hz => ?_, fun i p hp z hz => ⟨(hsep i p hp z hz).1, fun e => ?_⟩⟩
 ·rw [List.zip_append h.len, List.flatMap_append, List.length_append]
  exact hown
 ·have hb := fun z hz => hsep i p hp z hz
  have key : W.ownsRow B 3 1 p.1 q.ids.length (q.ids.map (Value.int .i64)) ∧ W.ownsRow B 54 2 p.2 q.met.length (q.met.flatMap Sw.pairCells) := by
   by_cases hi : i < us.length
   ·rw [List.getElem?_append_left hi] at hp
    rw [List.getElem?_append_left (by rw [← h.len]; exact hi)] at hq
    exact h.each i p q hp hq
   ·rw [List.getElem?_append_right (by omega)] at hp
    rw [List.getElem?_append_right (by rw [← h.len]; omega), ← h.len] at hq
    cases hk : i - us.length with
    | zero => rw [hk] at hp hq; simp at hp hq; subst hp hq; exact ⟨h1, h2⟩
    | succ k => rw [hk] at hp; simp at hp
  exact ⟨owns_kept key.1 hg (fun z hz e => (hb z (Or.inl hz)).2.1 e), owns_kept key.2 hg (fun z hz e => (hb z (Or.inr hz)).2.1 e)⟩
 ·rcases hat with h3 | h3
  ·rw [h3] at hz; exact h.sepR z hz
  ·rw [h3] at hz; cases hz; exact hF
 ·rcases hat with h3 | h3
  ·rw [h3] at e; exact (hsep i p hp z hz).2.1 e
  ·rw [h3] at e; cases e; have := (hsep i p hp _ hz).2.2; omega
theorem flat4 (l : List ((Value × Value) × Rep)) (i s : Nat) (x : (Value × Value) × Rep) (hi : l[i]? = some x) (hs : s < 4) : (l.flatMap repCells)[i * 4 + s]? = (repCells x)[s]? := by
 induction l generalizing i with
 | nil => simp at hi
 | cons r l ih =>
  rw [List.flatMap_cons]
  cases i with
  | zero => simp at hi; subst hi; rw [Nat.zero_mul, Nat.zero_add, List.getElem?_append_left (by simpa [repCells] using hs)]
  | succ i => rw [List.getElem?_append_right (by simp [repCells]; omega)]; simp only [repCells, List.length_cons, List.length_nil]; rw [show (i + 1) * 4 + s - (0 + 1 + 1 + 1 + 1) = i * 4 + s by omega]; exact ih i (by simpa using hi)
theorem Reps.at {W : World} {B : Nat} {F : Nat → Prop} {u : Value} {us : List (Value × Value)} {rs : List Rep} (h : Reps W B F u us rs) {k : Nat} {r : Rep} (hr : rs[k]? = some r) :
  ∃ g c ai ci am cm, u = .slice (some ⟨g, 0, none⟩) rs.length c ∧ g < W.heap.size ∧ W.cell? ⟨g, k * 4, none⟩ = some (.int .i64 r.code) ∧ W.cell? ⟨g, k * 4 + 1, none⟩ = some (.int .i64 r.n) ∧ W.cell? ⟨g, k * 4 + 2, none⟩ = some (.slice ai r.ids.length ci) ∧ W.cell? ⟨g, k * 4 + 3, none⟩ = some (.slice am r.met.length cm) ∧
   Rp.IntsR W (.slice ai r.ids.length ci) r.ids ∧ Rp.PairsR W (.slice am r.met.length cm) r.met := by
 have hlt := (List.getElem?_eq_some_iff.1 hr).1
 obtain ⟨p, hp⟩ : ∃ p, us[k]? = some p := ⟨_, List.getElem?_eq_getElem (by rw [h.len]; exact hlt)⟩
 obtain ⟨e1, e2⟩ := h.each k p r hp hr
 have hz : (us.zip rs)[k]? = some (p, r) := by rw [List.getElem?_zip_eq_some]; exact ⟨hp, hr⟩
 obtain ⟨g, c, rfl⟩ := own_some h.row (by omega)
 have cr : ∀ s, s < 4 → W.cell? ⟨g, k * 4 + s, none⟩ = (repCells (p, r))[s]? := fun s hs => by rw [h.row.cellAt (k * 4 + s) (by omega), flat4 _ _ _ _ hz hs]
 have i1 := Rp.IntsR.own e1 rfl
 have i2 := Rp.PairsR.own e2 rfl
 obtain ⟨p1, p2⟩ := p
 obtain ⟨ai, ci, e3, -⟩ := id i1
 obtain ⟨am, cm, e4, -⟩ := id i2
 simp only at e3 e4 i1 i2
 subst e3 e4
 exact ⟨g, c, ai, ci, am, cm, rfl, (h.row.lt g rfl).2, cr 0 (by omega), cr 1 (by omega), cr 2 (by omega), cr 3 (by omega), i1, i2⟩
theorem Reps.read {W : World} {B : Nat} {F : Nat → Prop} {u : Value} {us : List (Value × Value)} {rs : List Rep} (h : Reps W B F u us rs) {k : Nat} {r : Rep} (hr : rs[k]? = some r) :
  ∃ g c ai ci am cm, u = .slice (some ⟨g, 0, none⟩) rs.length c ∧ g < W.heap.size ∧ ∀ W', Kept F W W' → W'.cell? ⟨g, k * 4, none⟩ = some (.int .i64 r.code) ∧ W'.cell? ⟨g, k * 4 + 1, none⟩ = some (.int .i64 r.n) ∧ W'.cell? ⟨g, k * 4 + 2, none⟩ = some (.slice ai r.ids.length ci) ∧ W'.cell? ⟨g, k * 4 + 3, none⟩ = some (.slice am r.met.length cm) ∧
   Rp.IntsR W' (.slice ai r.ids.length ci) r.ids ∧ Rp.PairsR W' (.slice am r.met.length cm) r.met := by
 obtain ⟨g, c, ai, ci, am, cm, e, hl, c0, c1, c2, c3, -, -⟩ := h.at hr
 refine ⟨g, c, ai, ci, am, cm, e, hl, fun W' hk => ?_⟩
 have hblk : W'.heap[g]? = W.heap[g]? := hk.block g hl (h.sepR g (by rw [e]; rfl))
 have h' := h.kept hk (fun z hz => Or.inl hz)
 obtain ⟨g', c', ai', ci', am', cm', e', -, d0, d1, d2, d3, j1, j2⟩ := h'.at hr
 have hg : g' = g := by
  have := e'.symm.trans e
  simp only [Value.slice.injEq, Option.some.injEq, Addr.mk.injEq] at this
  exact this.1.1
 subst hg
 have e2 := d2.symm.trans ((cellB hblk _).trans c2)
 have e3 := d3.symm.trans ((cellB hblk _).trans c3)
 simp only [Option.some.injEq, Value.slice.injEq] at e2 e3
 obtain ⟨rfl, -, rfl⟩ := e2
 obtain ⟨rfl, -, rfl⟩ := e3
 exact ⟨d0, d1, d2, d3, j1, j2⟩
end Gm
namespace Gm
open Num St Wd
open Go.ChangeShapes Go.WideShapes Go.ChangeAt Go.RowKit
theorem infoReply : (Tryz.prog.info? 31).map (fun i => (i.zero, i.size, i.bytes)) = some (some (.agg #[.int .i64 0, .int .i64 0, .slice none 0 0, .slice none 0 0]), 4, 64) := by kernel_rfl
end Gm
namespace Gm
open Num St Wd
open Go.ChangeShapes Go.WideShapes Go.ChangeAt Go.RowKit
def repG (s : Gp) (l : List Ac) (i : Nat) : Rep := (doG (doAll s (l.take i)) (l.getD i zeroA)).2
def repsG (s : Gp) (l : List Ac) (k : Nat) : List Rep := (List.range k).map (repG s l)
theorem repsG_len (s : Gp) (l : List Ac) (k : Nat) : (repsG s l k).length = k := by simp [repsG]
theorem repsG_at (s : Gp) (l : List Ac) {k i : Nat} (h : i < k) : (repsG s l k)[i]? = some (repG s l i) := by simp [repsG, h]
theorem repsG_succ (s : Gp) (l : List Ac) (k : Nat) : repsG s l (k + 1) = repsG s l k ++ [repG s l k] := by simp [repsG, List.range_succ]
theorem repG_eq (s : Gp) {l : List Ac} {k : Nat} {a : Ac} (hx : l[k]? = some a) : repG s l k = (doG (doAll s (l.take k)) a).2 := by
 unfold repG
 rw [List.getD_eq_getElem?_getD, hx]
 rfl
theorem Reps.weak {W : World} {B B' : Nat} {F F' : Nat → Prop} {u : Value} {us : List (Value × Value)} {rs : List Rep} (h : Reps W B F u us rs) (hB : B' ≤ B) (hF : ∀ z, F' z → F z) : Reps W B' F' u us rs :=
 ⟨owns_mono h.row hB, h.len, fun i p r h1 h2 => ⟨owns_mono (h.each i p r h1 h2).1 hB, owns_mono (h.each i p r h1 h2).2 hB⟩, fun z hz hc => h.sepR z hz (hF z hc), fun i p hp z hz => ⟨fun hc => (h.sep i p hp z hz).1 (hF z hc), (h.sep i p hp z hz).2⟩⟩
set_option maxHeartbeats 8000000 in
set_option maxRecDepth 100000 in
theorem run_any (wide high fall : Int) (al : Option Addr) (n cap : Nat) (l : List Ac) (w : World) (hn : n = l.length) (hl : ActL w al l) (h150 : n ≤ 150) (hgw : GoodWd 0 fall wide high []) :
  Calls Tryz.prog 21 #[.int .i64 wide, .int .i64 high, .int .i64 fall, .slice al n cap] w fun e w' => (∃ a c us, e = .returned (.tuple #[.slice a n c, .int .i64 0]) ∧ Reps w' w.heap.size (fun _ => False) (.slice a n c) us (repsG (newG wide high fall) l n)) ∧ Below w.heap.size w w' := by
 have HL := St.hid hl
 have HN := St.hid hn
 have HGW := St.hid hgw
 obtain ⟨i70, hi70, hz70, hs70, hb70⟩ := info_parts infoReply
 clear hl hn hgw
 go_enter Tryz.func21, Tryz.ntmps21
 go_wp2_with fail
 refine (new_any wide high fall w).mono ?_
 rintro e w1 ⟨hor, hb1⟩
 rcases hor with ⟨hno, -⟩ | ⟨-, b, F1, rfl, hG1, hF1⟩
 ·exact absurd HGW.out hno
 have HG1 := St.hid hG1
 have HF1 := St.hid hF1
 have HB1 := St.hid hb1
 have HGN := St.hid (newGood HGW.out)
 have hz1 := hb1.size
 clear hG1 hF1 hb1
 obtain ⟨w2, hrun, hown2, hg2⟩ := run_make_own (P := Tryz.prog) w1 w1.heap.size 58 31 i70 (.agg #[.int .i64 0, .int .i64 0, .slice none 0 0, .slice none 0 0]) 4 Tryz.underlying58 hi70 hz70 hs70 .i64 .i64 n (by rw [hb70]; omega) (by unfold maxLen; omega) (Nat.le_refl _)
 have b150 : ¬ ((n : Int) > 150) := by omega
 go_wp2_with fail
 have HG2 := St.hid (HG1.out.grownO hg2 (fun z e => by cases e))
 have HK2 := St.hid ((Kept.below (F := F1) (Below.refl _ w1)).grown hg2 (fun z e => by cases e))
 have HR2 : Hid (Reps w2 w1.heap.size F1 (.slice (some ⟨w1.heap.size, 0, none⟩) 0 n) [] []) := St.hid ⟨hown2, rfl, (fun i p r h => by simp at h), (fun z hz hc => by have e : w1.heap.size = z := Option.some.inj hz; have := HG1.out.lt hc; omega), (fun i p h => by simp at h)⟩
 clear hrun hown2 hg2 HG1
 go_loopw [12, 33] (fun v i wr => ∃ (k : Nat) (F : Nat → Prop) (sk : Gp) (us : List (Value × Value)), k ≤ n ∧ i = .int .i64 k ∧ Hid (sk = doAll (newG wide high fall) (l.take k) ∧ GoodG sk) ∧ Hid (Gam wr F b sk) ∧ Hid (∀ z, F z → F1 z ∨ w1.heap.size ≤ z) ∧ Hid (Kept F1 w1 wr) ∧ Hid (Reps wr w1.heap.size F v us (repsG (newG wide high fall) l k))) (fun _ i _ => n - (intOf i).toNat)
 case atStart => exact ⟨0, F1, _, [], Nat.zero_le _, rfl, St.hid ⟨rfl, HGN.out⟩, HG2, St.hid (fun z hz => Or.inl hz), HK2, HR2⟩
 case round =>
  clear HG2 HK2 HR2
  obtain ⟨k, F, sk, us, hk, rfl, HSK, HGK, HFK, HKK, HRK⟩ := hrel
  have HBK := St.hid (HB1.out.trans (HKK.out.to_below HB1.out.size HF1.out))
  have HFW : Hid (∀ z, F z → w.heap.size ≤ z) := St.hid (fun z hz => (HFK.out z hz).elim (fun h => HF1.out z h) (fun h => by omega))
  by_cases hlt : k < n
  ·have hlt' : (k : Int) < (n : Int) := by omega
   obtain ⟨xa, hxa⟩ : ∃ xa, l[k]? = some xa := ⟨_, List.getElem?_eq_getElem (by have := HN.out; omega)⟩
   obtain ⟨g, off, rfl, hgl, hcs⟩ := HL.out (by have := HN.out; omega)
   have hgr : g < wr.heap.size := by have := HBK.out.size; omega
   have HXA := St.hid hxa
   have HRA : Hid (wr.rangeAt g (off + k * 17) (actCells xa)) := St.hid (fun j u hj => (HBK.out.cell (p := ⟨g, off + k * 17 + j, none⟩) hgl).trans (hcs k xa hxa j u hj))
   clear hcs hxa
   go_upto_region 9 with fail
   go_cut [14] (fun p wx => p = .pointer (some ⟨wr.heap.size, 0, none⟩) ∧ ∃ W, W = wx ∧ AcBox W wr.heap.size xa ∧ Below wr.heap.size wr W)
   case first =>
    go_wp2_with (first | (refine wpList_load_mid rfl 38 _ rfl g (off + k * 17) rfl (actCells xa) _ HRA.out Tryz.underlying38 rfl sizeA ?_) | (refine wpList_store_row rfl 38 _ _ rfl wr.heap.size (actCells xa).toArray rfl rfl 38 _ (heap_alloc_last _ _) sizeA rfl (oneA xa) ?_; rw [World.setRow_alloc_new]))
    go_meet
    exact ⟨rfl, _, rfl, acBox wr xa, bal (Below.refl _ wr) _⟩
   case rest =>
   obtain ⟨rfl, W5, rfl, hA5, hB5⟩ := hcut
   have HA5 := St.hid hA5
   have HB5 := St.hid hB5
   clear hA5 hB5
   have hab5 := HA5.out.lt
   have HRB := St.hid HA5.out.range
   go_wp2_with (refine wpList_load_mid rfl 38 _ rfl wr.heap.size 0 rfl (actCells xa) _ HRB.out Tryz.underlying38 rfl sizeA ?_)
   refine (do_from (HGK.out.below HB5.out) HSK.out.2 (bcall HBK.out HB5.out) HFW.out xa).mono ?_
   rintro e w6 ⟨aj, cj, an, cn, F6, rfl, ⟨hi6, hm6⟩, hG6, hF6, -, hn6, hk6, -⟩
   have HREP := St.hid (repsG_succ (newG wide high fall) l k)
   rw [repG_eq _ HXA.out, ← HSK.out.1] at HREP
   have HS6 : Hid ((doG sk xa).1 = doAll (newG wide high fall) (l.take (k + 1)) ∧ GoodG (doG sk xa).1) := St.hid ⟨by rw [take_snocA HXA.out, doAll_snoc, ← HSK.out.1], HSK.out.2.do xa⟩
   generalize (doG sk xa).1 = s6 at hG6 HS6
   generalize (doG sk xa).2 = r at hi6 hm6 hn6 HREP ⊢
   have HR6 := St.hid ((HRK.out.below HB5.out).kept hk6 hF6)
   have HRW : Hid (∀ z, u12.ownBlock = some z → z < wr.heap.size) := St.hid (fun z hz => (HRK.out.row.lt z hz).2)
   have HI6 := St.hid hi6
   have HM6 := St.hid hm6
   have HN6 := St.hid hn6
   have HG6 := St.hid hG6
   have HF6 : Hid (∀ z, F6 z → F1 z ∨ w1.heap.size ≤ z) := St.hid (fun z hz => (hF6 z hz).elim (fun h => HFK.out z h) (fun h => Or.inr (by have := HKK.out.size; have := HB5.out.size; omega)))
   have HK6 := St.hid ((HKK.out.call HB5.out).trans hk6 (fun z hz => HFK.out z hz))
   have hz6 := hk6.size
   have hz5 := HB5.out.size
   have hzr := HKK.out.size
   clear hi6 hm6 hn6 hG6 hF6 hk6 HGK HRK HSK HFK HKK HA5 HB5
   have HR6a := St.hid (HR6.out.below (bal (Below.refl _ _) (.cells #[.int .i64 r.code, .int .i64 r.n, .slice aj r.ids.length cj, .slice an r.met.length cn] 31)))
   have HG6a := St.hid (HG6.out.below (bal (Below.refl _ _) (.cells #[.int .i64 r.code, .int .i64 r.n, .slice aj r.ids.length cj, .slice an r.met.length cn] 31)))
   have hlen := repsG_len (newG wide high fall) l k
   go_wp2_with (at_builtin; refine wpList_append_own_at _ rfl _ _ 58 rfl w1.heap.size 31 i70 (.agg #[.int .i64 0, .int .i64 0, .slice none 0 0, .slice none 0 0]) 4 64 Tryz.underlying58 hi70 hz70 hs70 hb70 rfl (by decide) _ _ _ rfl HR6a.out.row ⟨w6.heap.size, 0, none⟩ 1 1 [.int .i64 r.code, .int .i64 r.n, .slice aj r.ids.length cj, .slice an r.met.length cn] rfl ?c1 ?c2 ?c3 ?c4 ?c5 ?c6 ?_)
   case c1 => rfl
   case c2 => exact rep_cells w6 _ _ _ _ 31
   case c3 => intro u hu; simp at hu; rcases hu with rfl | rfl | rfl | rfl <;> rfl
   case c4 => unfold maxLen; omega
   case c5 => omega
   case c6 => simp; omega
   intro v' w7 hown7 hg7 _ hat7
   have HO7 := St.hid hown7
   have HGR7 := St.hid hg7
   have HAT7 := St.hid hat7
   clear hown7 hg7 hat7
   go_wp2_with fail
   go_roundw
   case rel =>
    refine ⟨k + 1, F6, s6, us ++ [(.slice aj r.ids.length cj, .slice an r.met.length cn)], by omega, by go_num, HS6, St.hid (HG6a.out.grownO HGR7.out (fun z hz => HR6a.out.sepR z hz)), HF6, St.hid ((HK6.out.call (bal (Below.refl _ _) _)).grown HGR7.out (fun z hz => Or.inr (HR6a.out.row.lt z hz).1)), ?_⟩
    rw [HREP.out]
    refine St.hid (HR6a.out.snoc (r := r) (by rw [repsG_len]; exact HO7.out) HGR7.out (by rw [World.size_alloc]; exact HAT7.out) (owns_mono (owns_below HI6.out (bal (Below.refl _ _) _)) (by omega)) (owns_mono (owns_below HM6.out (bal (Below.refl _ _) _)) (by omega)) (fun z hz => ⟨HN6.out z hz, fun e => ?_⟩) (fun hc => by have := HG6.out.lt hc; simp at this; omega))
    rcases hz with hz | hz
    ·have := (HI6.out.lt z hz).1; have := HRW.out z e; omega
    ·have := (HM6.out.lt z hz).1; have := HRW.out z e; omega
   case measure => simp [intOf]; omega
  ·have hkn : k = n := by omega
   subst hkn
   have hrow := HRK.out.row
   rw [repsG_len] at hrow
   obtain ⟨av, cv, rfl, -⟩ := Sw.owns_slice hrow
   clear hrow
   go_wp2_with fail
   exact bodyPost_ret (v := .tuple #[.slice av k cv, .int .i64 0]) (by simp [results, Tryz.results21, go_sem]) rfl ⟨⟨av, cv, us, rfl, HRK.out.weak hz1 (fun z h => h.elim)⟩, HBK.out⟩
end Gm
namespace Gm
open Num St Wd
open Go.ChangeShapes Go.WideShapes Go.ChangeAt Go.RowKit
theorem infoAct : (Tryz.prog.info? 38).map (fun i => (i.zero, i.size, i.bytes)) = some (some (.agg #[.int .i64 0, .int .i64 0, .int .i64 0, .int .i64 0, .int .i64 0, .int .i64 0, .int .i64 0, .int .i64 0, .int .i64 0, .int .i64 0, .int .i64 0, .int .i64 0, .int .i64 0, .int .i64 0, .int .i64 0, .int .i64 0, .int .i64 0]), 17, 136) := by kernel_rfl
theorem one_act (l : List Ac) : ∀ u ∈ l.flatMap actCells, u.oneCell' = true := by
 intro u hu
 obtain ⟨x, _, hx⟩ := List.mem_flatMap.1 hu
 simp [actCells] at hx
 rcases hx with rfl | rfl | rfl | rfl | rfl | rfl | rfl | rfl | rfl | rfl | rfl | rfl | rfl | rfl | rfl | rfl | rfl <;> rfl
theorem ActL.flat {w : World} {a : Option Addr} {l : List Ac} (h : ActL w a l) : ∀ ad, a = some ad → ∀ j u, (l.flatMap actCells)[j]? = some u → w.cell? (ad.add j) = some u := by
 intro ad ha j u hj
 have hlen := Sw.flat_len actCells 17 (fun _ => rfl) l
 have hjl : j < l.length * 17 := by rw [← hlen]; exact (List.getElem?_eq_some_iff.1 hj).1
 obtain ⟨b, off, e, _, hc⟩ := h (by omega)
 rw [e] at ha
 cases ha
 have hd : j / 17 < l.length := by omega
 have hx : l[j / 17]? = some l[j / 17] := List.getElem?_eq_getElem hd
 have e1 := Sw.flat_get actCells 17 (fun _ => rfl) l (j / 17) (j % 17) _ hx (Nat.mod_lt _ (by omega))
 have e2 : j / 17 * 17 + j % 17 = j := by omega
 rw [e2, hj] at e1
 rw [Addr.add_lit, show off + j = off + j / 17 * 17 + j % 17 by omega]
 exact hc _ _ hx (j % 17) u e1.symm
theorem actL_own {W : World} {B n c : Nat} {a : Option Addr} {l : List Ac} (h : W.ownsRow B 38 17 (.slice a n c) n (l.flatMap actCells)) (hn : n = l.length) : ActL W a l := fun hp => by
 obtain ⟨g, cc, e⟩ := own_some h (by omega)
 simp only [Value.slice.injEq] at e
 obtain ⟨rfl, -, rfl⟩ := e
 refine ⟨g, 0, rfl, (h.lt g rfl).2, fun i x hx j u hj => ?_⟩
 have hi := (List.getElem?_eq_some_iff.1 hx).1
 have hj17 : j < 17 := (List.getElem?_eq_some_iff.1 hj).1
 rw [Nat.zero_add, h.cellAt (i * 17 + j) (by omega), Sw.flat_get actCells 17 (fun _ => rfl) l i j x hx hj17, hj]
theorem wpList_copy_acts {ops : Array Oper} {rest : List Oper} {o : Oper} {a : Act} {w : World} {Q : Exit → Act → World → Prop} (hgd : o.guard = none) (x : Operand) (ho : o.op = .call { callee := .builtin .append, args := #[.const (.slice none 0 0), x], argTypes := #[22, 22] })
  (al : Option Addr) (m cap : Nat) (l : List Ac) (hx : a.eval x = .slice al m cap) (hm : m = l.length) (hl : ActL w al l) (h0 : al = none → cap = 0) (hz : m * 136 ≤ 140737488355328)
  (h : ∀ a' c' w', ActL w' a' l → Below w.heap.size w w' → wpList Tryz.prog ops Q rest (a.put o.dst (.slice a' m c')) w') : wpList Tryz.prog ops Q (o :: rest) a w := by
 obtain ⟨i0, hi, hz0, hz1, hz2⟩ := info_parts infoAct
 cases al with
 | none =>
  have hl0 : l = [] := by
   rcases Nat.eq_zero_or_pos l.length with h1 | h1
   ·exact List.length_eq_zero_iff.1 h1
   ·obtain ⟨b, off, e, -⟩ := hl h1; cases e
  subst hl0
  simp only [List.length_nil] at hm
  subst hm
  rw [h0 rfl] at hx
  refine wpList_append_own_none hgd _ x 22 ho w.heap.size 38 i0 17 Tryz.underlying22 hi (.slice none 0 0) 0 [] rfl (World.ownsRow_nil _ _ _ _) hx ?_
  exact h none 0 w (fun hp => absurd hp (Nat.lt_irrefl _)) (Below.refl _ _)
 | some ad =>
  refine wpList_append_own_at _ hgd _ x 22 ho w.heap.size 38 i0 (.agg #[.int .i64 0, .int .i64 0, .int .i64 0, .int .i64 0, .int .i64 0, .int .i64 0, .int .i64 0, .int .i64 0, .int .i64 0, .int .i64 0, .int .i64 0, .int .i64 0, .int .i64 0, .int .i64 0, .int .i64 0, .int .i64 0, .int .i64 0]) 17 136 Tryz.underlying22 hi hz0 hz1 hz2 rfl (by decide) (.slice none 0 0) 0 [] rfl (World.ownsRow_nil _ _ _ _) ad m cap (l.flatMap actCells) hx ?_ (hl.flat ad rfl) (one_act l) (by unfold maxLen; omega) (by omega) (Nat.le_refl _) ?_
  ·rw [Sw.flat_len actCells 17 (fun _ => rfl) l, hm]
  ·intro v' w' hown hg _ _
   rw [Nat.zero_add, List.nil_append] at hown
   obtain ⟨a', c', rfl, -⟩ := Sw.owns_slice hown
   exact h a' c' w' (actL_own hown hm) (below_grown' (Below.refl _ _) hg (Nat.le_refl _) (fun z e => by cases e))
theorem ActL.take {w : World} {a : Option Addr} {l : List Ac} (h : ActL w a l) (k : Nat) : ActL w a (l.take k) := fun hp => by
 obtain ⟨b, off, e, h1, h2⟩ := h (by rw [List.length_take] at hp; omega)
 refine ⟨b, off, e, h1, fun i x hi => h2 i x ?_⟩
 have hlt : i < k := by have := (List.getElem?_eq_some_iff.1 hi).1; rw [List.length_take] at this; omega
 rw [List.getElem?_take_of_lt hlt] at hi
 exact hi
end Gm
end Go.Proofs.YtckkkdldljhehacGreat
