/- What fromLeft of package sweep, slices.Clone and slices.SortFunc over boxes, and slices.SortFunc over pairs answer when called: the boxes by where they begin, in memory of their own; the pairs in their order. -/
import Derived.Test.YtckkkdldljhehaaKtSwD
import Derived.Lib.SliceRun
namespace Go.Proofs.Ytckkkdldljhehaa.Sw
open Go.ChangeShapes Go.WideShapes Go.ChangeAt Go.RowKit Go.Sort Go.Shelf Go.Lib

theorem info70 : (Try.prog.info? 70).map (fun i => (i.zero, i.size, i.bytes)) = some (some (.agg #[.int .i64 0, .int .i64 0, .int .i64 0, .int .i64 0, .int .i64 0]), 5, 40) := by kernel_rfl
theorem info79 : (Try.prog.info? 79).map (fun i => (i.zero, i.size, i.bytes)) = some (some (.agg #[.int .i64 0, .int .i64 0]), 2, 16) := by kernel_rfl

set_option maxHeartbeats 400000 in
set_option maxRecDepth 100000 in
theorem cloneB_any (a : Option Addr) (n cap : Nat) (xs : List Value) (w : World) (hn : n * 40 ≤ 140737488355328) (hl : xs.length = n * 5) (ha : a = none → n = 0)
    (hx : ∀ ad, a = some ad → ∀ j u, xs[j]? = some u → w.cell? (ad.add j) = some u) (h1 : ∀ u ∈ xs, u.oneCell' = true) :
    Calls Try.prog 111 #[.slice a n cap] w fun e w' => (∃ v, e = .returned v ∧ w'.ownsRow w.heap.size 70 5 v n xs) ∧ RowKit.Below w.heap.size w w' := by
  have q : ∀ (w : World) (a : Option Addr) (n c n' c' : Nat), (binOp .eql 68 (.slice a n c) (.slice none n' c')).run Try.prog w = .ok (.bool a.isNone) w := fun w a n c n' c' => Lib.run_eql_slice_nil w _ _ a n c n' c' Try.underlying68
  obtain ⟨i0, hi, hz0, hz1, hz2⟩ := info_parts info70
  have HX := hid hx
  have H1 := hid h1
  have HL := hid hl
  have HA := hid ha
  clear hx h1 hl ha
  cases a with
  | none =>
    have H0 : Hid (n = 0) := HA.out rfl
    go_enter Try.func111, Try.ntmps111
    go_wp2
    go_ret
    have h0 := H0.out
    have hl := HL.out
    rw [h0] at hl
    have hxs : xs = [] := List.length_eq_zero_iff.1 (by simpa using hl)
    exact ⟨⟨_, rfl, by rw [hxs, h0]; exact ⟨by simp, Or.inl ⟨rfl, rfl⟩⟩⟩, Below.refl _ _⟩
  | some ad =>
    go_enter Try.func111, Try.ntmps111
    go_wp2_with (at_builtin; refine wpList_append_own _ rfl _ _ 68 rfl w.heap.size 70 i0 (.agg #[.int .i64 0, .int .i64 0, .int .i64 0, .int .i64 0, .int .i64 0]) 5 40 Try.underlying68 hi hz0 hz1 hz2 rfl (by decide) _ _ _ rfl (World.ownsRow_made w #[] 0 (Nat.le_refl _) (Nat.zero_le _) rfl) ad n cap xs rfl ?qc1 ?qc2 ?qc3 ?qc4 ?qc5 ?qc6 ?_)
    case qc1 => exact HL.out
    case qc2 => intro j u hj; exact Lib.cell?_alloc_some _ (HX.out ad rfl j u hj)
    case qc3 => exact H1.out
    case qc4 => unfold maxLen; omega
    case qc5 => omega
    case qc6 => simp
    intro v' w1 hown hgrow hnil
    clear hnil
    go_wp2
    go_ret
    exact ⟨⟨v', rfl, by simpa using hown⟩, ((Below.refl _ w).alloc (Nat.le_refl _) _).grown hgrow (by simp) (by intro k hk; simp [Value.ownBlock] at hk; omega)⟩

theorem one_box (l : List B5) : ∀ u ∈ l.flatMap boxCells, u.oneCell' = true := by
  intro u hu
  obtain ⟨x, _, hx⟩ := List.mem_flatMap.1 hu
  simp [boxCells] at hx
  rcases hx with rfl | rfl | rfl | rfl | rfl <;> rfl
theorem BoxL.flat {w : World} {a : Option Addr} {l : List B5} (h : BoxL w a l) : ∀ ad, a = some ad → ∀ j u, (l.flatMap boxCells)[j]? = some u → w.cell? (ad.add j) = some u := by
  intro ad ha j u hj
  have hlen := flat_len boxCells 5 (fun _ => rfl) l
  have hjl : j < l.length * 5 := by rw [← hlen]; exact (List.getElem?_eq_some_iff.1 hj).1
  obtain ⟨b, off, e, _, hc⟩ := h (by omega)
  rw [e] at ha
  cases ha
  have hd : j / 5 < l.length := by omega
  have hx : l[j / 5]? = some l[j / 5] := List.getElem?_eq_getElem hd
  have e1 := flat_get boxCells 5 (fun _ => rfl) l (j / 5) (j % 5) _ hx (Nat.mod_lt _ (by omega))
  have e2 : j / 5 * 5 + j % 5 = j := by omega
  rw [e2, hj] at e1
  obtain ⟨c0, c1, c2, c3, c4⟩ := hc _ _ hx
  rw [Addr.add_lit]
  have hm : j % 5 < 5 := Nat.mod_lt _ (by omega)
  have e3 : off + j = off + j / 5 * 5 + j % 5 := by omega
  rw [e3]
  generalize j % 5 = q at e1 hm ⊢
  match q, hm with
  | 0, _ => rw [e1]; exact c0
  | 1, _ => rw [e1]; exact c1
  | 2, _ => rw [e1]; exact c2
  | 3, _ => rw [e1]; exact c3
  | 4, _ => rw [e1]; exact c4

theorem swoB : SWO (ltOf cmpB) where
  irrefl x := by unfold ltOf; rw [cmpB_lt]; simp
  trans x y z h1 h2 := by unfold ltOf at *; rw [cmpB_lt] at *; simp at *; omega
  ntrans x y z h1 h2 := by unfold ltOf at *; rw [cmpB_lt] at *; simp at *; omega
theorem swoP : SWO (ltOf cmpP) where
  irrefl x := by unfold ltOf; rw [cmpP_lt]; simp
  trans x y z h1 h2 := by unfold ltOf at *; rw [cmpP_lt] at *; simp at *; omega
  ntrans x y z h1 h2 := by unfold ltOf at *; rw [cmpP_lt] at *; simp at *; omega
theorem totP (x y : Int × Int) (h1 : ltOf cmpP x y = false) (h2 : ltOf cmpP y x = false) : x = y := by
  unfold ltOf at *
  rw [cmpP_lt] at *
  simp at *
  ext <;> omega
theorem laysB (blk off size : Nat) (w : World) : CmpLays Try.prog 113 #[] boxCells 5 cmpB blk off size w := fun _ _ _ _ x y => cmpB_any x.id x.x1 x.y1 x.x2 x.y2 y.id y.x1 y.y1 y.x2 y.y2 _
theorem laysP (blk off size : Nat) (w : World) : CmpLays Try.prog 90 #[] pairCells 2 cmpP blk off size w := fun _ _ _ _ x y => cmpP_any x.1 x.2 y.1 y.2 _
/-- By where they begin. -/
def Left (l : List B5) : Prop := l.Pairwise (fun a b => a.x1 ≤ b.x1)
theorem left_of {d : Array B5} (h : SortedIn (ltOf cmpB) 0 d.size d) : Left d.toList := by
  unfold Left
  rw [List.pairwise_iff_getElem]
  intro i j hi hj hij
  have := h i j (Nat.zero_le _) hij (by simpa using hj)
  rw [getElem!_pos d j (by simpa using hj), getElem!_pos d i (by simpa using hi)] at this
  unfold ltOf at this
  rw [cmpB_lt] at this
  simp at this
  simp only [Array.getElem_toList]
  omega
theorem sortB_own (B g c n : Nat) (l : List B5) (w : World) (hn : n = l.length) (hz : n < 4611686018427387904) (h : w.ownsRow B 70 5 (.slice (some ⟨g, 0, none⟩) n c) n (l.flatMap boxCells)) :
    Calls Try.prog 112 #[.slice (some ⟨g, 0, none⟩) n c, .func (.func 113) #[] #[]] w fun e w' => e = .returned (.tuple #[]) ∧ ∃ l', l'.Perm l ∧ Left l' ∧ w'.ownsRow B 70 5 (.slice (some ⟨g, 0, none⟩) n c) n (l'.flatMap boxCells) ∧ w.grownBy w' (some g) := by
  subst hn
  have eg : ∀ args w, (callFunc 113 args).run Try.prog w = .ok (.enter 113 args) w := enters_of Try.func113 (by kernel_rfl) rfl
  have hcon := AnyQ.slices_SortFunc Try.sortBox 5 Try.isAgg70 Try.sizeOf70 boxCells (fun _ => rfl) (fun x v hv => one_box [x] v (by simpa using hv)) cmpB swoB 113 #[] g 0 c l.toArray w eg (laysB g 0 _ w) (holdsK_of_owns boxCells 5 (fun _ => rfl) h) (h.lt g rfl).2 (by simpa using hz)
  simp only [List.size_toArray] at hcon
  refine Calls.mono (P := Try.prog) hcon ?_
  rintro e w' ⟨rfl, d', m, os, hp, hs, rfl⟩
  have hsz : d'.size = l.length := by simpa using hp.1
  have hperm : d'.toList.Perm l := by
    have := hp.2.2
    simp at this
    rwa [List.take_of_length_le (by simp [hsz])] at this
  refine ⟨rfl, d'.toList, hperm, left_of (by rw [hsz]; exact hs), ?_, grownBy_sortedK _ _ _⟩
  have := owns_sortedK boxCells 5 (fun _ => rfl) (m := m) (os := os) h d'.toList (by simpa using hsz)
  simpa using this
theorem one_pair (l : List (Int × Int)) : ∀ u ∈ l.flatMap pairCells, u.oneCell' = true := by
  intro u hu
  obtain ⟨x, _, hx⟩ := List.mem_flatMap.1 hu
  simp [pairCells] at hx
  rcases hx with rfl | rfl <;> rfl
/-- Pairs in their order. -/
def sortP (l : List (Int × Int)) : List (Int × Int) := l.mergeSort fun x y => !(ltOf cmpP) y x
theorem sortP_len (l : List (Int × Int)) : (sortP l).length = l.length := List.length_mergeSort _
theorem sortP_perm (l : List (Int × Int)) : (sortP l).Perm l := List.mergeSort_perm _ _
theorem sortP_eq {l l' : List (Int × Int)} (h : l.Perm l') : sortP l = sortP l' := by
  have hs : ∀ l, (sortP l).Pairwise (fun x y => (!(ltOf cmpP) y x) = true) := fun l => List.pairwise_mergeSort (le := fun x y => !(ltOf cmpP) y x)
    (fun a b c h1 h2 => by simp only [ltOf, cmpP_lt] at *; simp at *; omega) (fun a b => by simp only [ltOf, cmpP_lt]; simp; omega) l
  refine List.Perm.eq_of_pairwise (le := fun x y => (!(ltOf cmpP) y x) = true) ?_ (hs l) (hs l') ((sortP_perm l).trans (h.trans (sortP_perm l').symm))
  intro a b _ _ ha hb
  exact totP a b (by simpa using hb) (by simpa using ha)
theorem sortP_own (B g c n : Nat) (l : List (Int × Int)) (w : World) (hn : n = l.length) (hz : n < 4611686018427387904) (h : w.ownsRow B 79 2 (.slice (some ⟨g, 0, none⟩) n c) n (l.flatMap pairCells)) :
    Calls Try.prog 89 #[.slice (some ⟨g, 0, none⟩) n c, .func (.func 90) #[] #[]] w fun e w' => e = .returned (.tuple #[]) ∧ w'.ownsRow B 79 2 (.slice (some ⟨g, 0, none⟩) n c) n ((sortP l).flatMap pairCells) ∧ w.grownBy w' (some g) := by
  subst hn
  have eg : ∀ args w, (callFunc 90 args).run Try.prog w = .ok (.enter 90 args) w := enters_of Try.func90 (by kernel_rfl) rfl
  have hcon := AnyQ.slices_SortFunc_total Try.sortPair 2 Try.isAgg79 Try.sizeOf79 pairCells (fun _ => rfl) (fun x v hv => one_pair [x] v (by simpa using hv)) cmpP swoP 90 #[] g 0 c l.toArray w eg (laysP g 0 _ w) (holdsK_of_owns pairCells 2 (fun _ => rfl) h) (h.lt g rfl).2 (by simpa using hz) totP
  simp only [List.size_toArray] at hcon
  refine Calls.mono (P := Try.prog) hcon ?_
  rintro e w' ⟨rfl, m, os, rfl⟩
  exact ⟨rfl, owns_sortedK pairCells 2 (fun _ => rfl) (m := m) (os := os) h (sortP l) (sortP_len l), grownBy_sortedK _ _ _⟩

theorem sortB_call (B n : Nat) (v : Value) (l : List B5) (w : World) (hn : n = l.length) (hz : n < 4611686018427387904) (h : w.ownsRow B 70 5 v n (l.flatMap boxCells)) :
    Calls Try.prog 112 #[v, .func (.func 113) #[] #[]] w fun e w' => e = .returned (.tuple #[]) ∧ ∃ l', l'.Perm l ∧ Left l' ∧ w'.ownsRow B 70 5 v n (l'.flatMap boxCells) ∧ w.grownBy w' v.ownBlock := by
  rcases h.2 with ⟨hv, h0⟩ | ⟨g, c, cur, hv, _⟩
  · subst hv
    refine Calls.mono (P := Try.prog) (AnyF.slices_SortFunc_none Try.sortBox none 0 (.func (.func 113) #[] #[]) w) ?_
    rintro e w' ⟨rfl, rfl⟩
    have hl0 : l = [] := List.length_eq_zero_iff.1 (by omega)
    subst hl0
    exact ⟨rfl, [], List.Perm.refl _, List.Pairwise.nil, h, rfl, rfl, rfl, Nat.le_refl _, fun _ _ _ => rfl⟩
  · subst hv
    exact sortB_own B g c n l w hn hz h
theorem sortP_call (B n : Nat) (v : Value) (l : List (Int × Int)) (w : World) (hn : n = l.length) (hz : n < 4611686018427387904) (h : w.ownsRow B 79 2 v n (l.flatMap pairCells)) :
    Calls Try.prog 89 #[v, .func (.func 90) #[] #[]] w fun e w' => e = .returned (.tuple #[]) ∧ w'.ownsRow B 79 2 v n ((sortP l).flatMap pairCells) ∧ w.grownBy w' v.ownBlock := by
  rcases h.2 with ⟨hv, h0⟩ | ⟨g, c, cur, hv, _⟩
  · subst hv
    refine Calls.mono (P := Try.prog) (AnyF.slices_SortFunc_none Try.sortPair none 0 (.func (.func 90) #[] #[]) w) ?_
    rintro e w' ⟨rfl, rfl⟩
    have hl0 : l = [] := List.length_eq_zero_iff.1 (by omega)
    subst hl0
    exact ⟨rfl, by simpa [sortP] using h, rfl, rfl, rfl, Nat.le_refl _, fun _ _ _ => rfl⟩
  · subst hv
    exact sortP_own B g c n l w hn hz h

set_option maxHeartbeats 1000000 in
set_option maxRecDepth 100000 in
theorem fromLeft_any (a : Option Addr) (n cap : Nat) (l : List B5) (w : World) (hn : n = l.length) (hz : n * 40 ≤ 140737488355328) (ha : a = none → n = 0) (hB : BoxL w a l) :
    Calls Try.prog 85 #[.slice a n cap] w fun e w' => (∃ v, e = .returned v ∧ ∃ l', l'.Perm l ∧ Left l' ∧ w'.ownsRow w.heap.size 70 5 v n (l'.flatMap boxCells)) ∧ RowKit.Below w.heap.size w w' := by
  have hc := cloneB_any a n cap (l.flatMap boxCells) w hz (by rw [flat_len boxCells 5 (fun _ => rfl), hn]) ha hB.flat (one_box l)
  have HC := hid hc
  have HN := hid hn
  clear hc hn hB ha
  go_enter Try.func85, Try.ntmps85
  go_wp2_with (go_at_call 111; refine HC.out.mono ?_; rintro e w1 ⟨⟨v, rfl, h1⟩, h2⟩; have H1 := hid h1; have H2 := hid h2; clear h1 h2)
  have HS := hid (sortB_call w.heap.size n v l w1 HN.out (by omega) H1.out)
  refine HS.out.mono ?_
  rintro e w2 ⟨rfl, l', hp, hl, h3, h4⟩
  have H3 := hid h3
  have H4 := hid h4
  have HP := hid hp
  have HL := hid hl
  clear h3 h4 hp hl
  go_wp2_with fail
  go_ret
  exact ⟨⟨v, rfl, l', HP.out, HL.out, H3.out⟩, H2.out.grown H4.out (by have := H2.out.size; omega) (fun q hq => (H1.out.lt q hq).1)⟩
end Go.Proofs.Ytckkkdldljhehaa.Sw
