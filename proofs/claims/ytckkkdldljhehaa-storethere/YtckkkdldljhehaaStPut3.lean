/- What putIn of package store answers when called over tables of one's own among which the mask does not stand: the tables and the mask's own, with the one thing, in its place; each list in memory of one's own. What slices.Insert answers there is asked as a premise. -/
import Derived.Test.YtckkkdldljhehaaStPut2
namespace Go.Proofs.Ytckkkdldljhehaa.St
open Go.Proofs.Ytckkkdldljhehaa.Num
open Go.ChangeShapes Go.WideShapes Go.ChangeAt Go.RowKit

/-- What is asked of slices.Insert at that place. -/
def InsertAt (a : Option Addr) (n c B : Nat) (A C : List OT) (m : Int) : Prop :=
  ∀ (W : World) (vb : Nat), B ≤ W.heap.size → vb < W.heap.size → (∀ x, a.map Addr.block = some x → x ≠ vb) → W.ownsRow B 66 3 (.slice a n c) n (tabCells A ++ tabCells C) →
    W.heap[vb]? = some (.cells #[.int .i64 m, .slice none 0 0, .slice none 0 0] 66 (0, 0)) → (∀ u ∈ tabCells A ++ tabCells C, u.oneCell' = true) →
    Calls Try.prog 109 #[.slice a n c, .int .i64 (A.length : Nat), .slice (some ⟨vb, 0, none⟩) 1 1] W fun e w' =>
      ∃ v', e = .returned v' ∧ w'.ownsRow B 66 3 v' (n + 1) (tabCells A ++ ([.int .i64 m, .slice none 0 0, .slice none 0 0] ++ tabCells C)) ∧ W.grownBy w' (Value.slice a n c).ownBlock ∧ Lies W (.slice a n c) v'

theorem one_row {w : World} {B size n : Nat} {e : TypeId} {v : Value} {xs : List Value} (h : w.ownsRow B e size v n xs) : v.oneCell' = true := by
  rcases h.2 with ⟨rfl, _⟩ | ⟨g, c, _, rfl, _⟩ <;> rfl
theorem Own.one {w : World} {B : Nat} {v : Value} {S : List OT} (h : Own w B v S) : ∀ u ∈ tabCells S, u.oneCell' = true := by
  intro u hu
  obtain ⟨o, ho, hu⟩ := List.mem_flatMap.1 hu
  have h2 := h.2.1 o ho
  simp only [otCells, List.mem_cons, List.not_mem_nil, or_false] at hu
  rcases hu with rfl | rfl | rfl
  · rfl
  · exact one_row h2.1
  · exact one_row h2.2
theorem mk_left {A C : List OT} {q : Nat} (h : q < A.length) : ∃ o ∈ A, mk (A ++ C) q = o.t.mask :=
  ⟨A[q], List.getElem_mem h, by simp [mk, List.getElem?_append_left h, List.getElem?_eq_getElem h]⟩
theorem mk_right {A C : List OT} {q : Nat} (h : A.length ≤ q) (h' : q < (A ++ C).length) : ∃ o ∈ C, mk (A ++ C) q = o.t.mask := by
  have hl : q - A.length < C.length := by simp at h'; omega
  exact ⟨C[q - A.length], List.getElem_mem hl, by simp [mk, List.getElem?_append_right h, List.getElem?_eq_getElem hl]⟩
theorem own_some {w : World} {B size n : Nat} {e : TypeId} {v : Value} {xs : List Value} (h : w.ownsRow B e size v n xs) (hn : 0 < n) : ∃ g c, v = .slice (some ⟨g, 0, none⟩) n c := by
  rcases h.2 with ⟨_, h0⟩ | ⟨g, c, _, e, _⟩
  · omega
  · exact ⟨g, c, e⟩

set_option maxHeartbeats 4000000 in
set_option maxRecDepth 100000 in
theorem putIn_new (a : Option Addr) (n c0 : Nat) (next id m : Int) (B : Nat) (A C : List OT) (r : R8) (w : World) (hN : n = (A ++ C).length) (hB : B ≤ w.heap.size) (hz : n ≤ 1000)
    (hown : Own w B (.slice a n c0) (A ++ C)) (hris : Rising (A ++ C)) (hA : ∀ o ∈ A, o.t.mask < m) (hC : ∀ o ∈ C, m < o.t.mask) (hins : InsertAt a n c0 B A C m) :
    Calls Try.prog 81 #[.agg #[.slice a n c0, .int .i64 next], .int .i64 m, .int .i64 id, .agg #[.int .i64 r.x, .int .i64 r.y, .int .i64 r.px, .int .i64 r.py, .int .i64 r.wd, .int .i64 r.ht, .int .i64 r.ms, .int .i64 r.rr]] w fun e w' =>
      (∃ v, e = .returned (.agg #[v, .int .i64 next]) ∧ ∃ iv rv, Own w' B v (A ++ ⟨⟨m, [id], [r]⟩, iv, rv⟩ :: C)) ∧ Below B w w' ∧ Keep w w' := by
  have HS := hid (fun w' (hb : Below w.heap.size w w') => search_own a n c0 m B (A ++ C) w' hN (by omega) (hown.below hb) hris)
  have HO := hid hown
  have HNn := hid hN
  have HA := hid hA
  have HC := hid hC
  have HINS := hid hins
  have hAn : A.length ≤ n := by rw [hN]; simp
  clear hown hris hA hC hins hN
  go_enter Try.func81, Try.ntmps81
  go_wp2_with fail
  refine (HS.out _ (bal (bal (bal (Below.refl _ _) _) _) _)).mono ?_
  rintro e w0 ⟨⟨i, rfl, hin, hlo, hhi⟩, hb1⟩
  have hiA : i = A.length := by
    rcases Nat.lt_trichotomy i A.length with h | h | h
    · obtain ⟨o, ho, e⟩ := mk_left (C := C) h
      have h1 := hhi i (Nat.le_refl _) (by omega)
      have h2 := HA.out o ho
      omega
    · exact h
    · obtain ⟨o, ho, e⟩ := mk_right (A := A) (C := C) (q := A.length) (Nat.le_refl _) (by rw [← HNn.out]; omega)
      have h1 := hlo A.length h
      have h2 := HC.out o ho
      omega
  subst hiA
  have hnf : ¬ (A.length < n ∧ mk (A ++ C) A.length = m) := by
    rintro ⟨h1, h2⟩
    obtain ⟨o, ho, e⟩ := mk_right (A := A) (C := C) (q := A.length) (Nat.le_refl _) (by rw [← HNn.out]; omega)
    have := HC.out o ho
    omega
  rw [decide_eq_false hnf]
  have hW0 : Hid (Own w0 B (.slice a n c0) (A ++ C)) := HO.out.below (bcall (bal (bal (bal (Below.refl _ _) _) _) _) hb1)
  have hBX0 : Hid (Boxes w0 w.heap.size (.slice a n c0) next r) := (Boxes.made w _ next r).below hb1
  have hBW0 : Hid (Below B w w0) := (bcall (bal (bal (bal (Below.refl _ _) _) _) _) hb1).mono hB
  have hKW0 : Hid (Keep w w0) := hid ((((Keep.refl w).alloc _).alloc _).alloc _ |>.below hb1)
  have hz0 := hb1.size
  simp at hz0
  clear hlo hhi hnf hb1 hin
  obtain ⟨x0, x1, x2, x3, x4, x5, x6⟩ := hBX0.out.cells
  have hzs : w.heap.size < w0.heap.size := by omega
  go_wp2_with fail
  refine (HINS.out _ w0.heap.size (by simp; omega) (by simp) ?q1 ?q2 ?q3 ?q4).mono ?_
  case q1 => intro x e; have := (hW0.out.1.lt x (by rw [ob_slice]; exact e)).2; omega
  case q2 =>
    have := (hW0.out.below (bal (Below.refl _ _) (.cells #[.int .i64 m, .slice none 0 0, .slice none 0 0] 66))).1
    rw [← HNn.out] at this
    simpa [tabCells] using this
  case q3 => exact (MapKept.heap_alloc w0 _).1
  case q4 => have := hW0.out.one; simpa [tabCells] using this
  rintro e w2 ⟨v', rfl, hv, hg, hl⟩
  obtain ⟨g, c, rfl⟩ := own_some hv (by omega)
  have hgo := hv.lt g rfl
  have hWa := hid (hW0.out.below (bal (Below.refl _ _) (.cells #[.int .i64 m, .slice none 0 0, .slice none 0 0] 66)))
  have hW2 := hid (own_insert (m := m) hWa.out hg (by rw [← HNn.out]; exact hv) hl)
  have hbold : ∀ x ∈ (Value.slice a n c0).ownBlock.toList ++ blocks (A ++ C), B ≤ x ∧ x < w.heap.size := HO.out.lt
  have hgb : g < w.heap.size ∨ w.heap.size + 2 < g := by
    rcases hl with e | ⟨y, hy, e⟩
    · exact Or.inl (hbold g (List.mem_append.2 (Or.inl (by rw [← e]; simp [Value.ownBlock])))).2
    · simp [Value.ownBlock] at e; simp at hy; omega
  have hBX2 := hid (((hBX0.out.below (bal (Below.refl _ _) (.cells #[.int .i64 m, .slice none 0 0, .slice none 0 0] 66))).grown hg (fun x e => Or.inl (hbold x (List.mem_append.2 (Or.inl (by rw [e]; simp)))).2)).setS (.slice (some ⟨g, 0, none⟩) (n + 1) c))
  have hBW2 := hid (((hBW0.out.alloc (by omega) (.cells #[.int .i64 m, .slice none 0 0, .slice none 0 0] 66)).grown hg (by simp; omega) (fun x e => (hbold x (List.mem_append.2 (Or.inl (by rw [e]; simp)))).1)).setCell (p := ⟨w.heap.size, 0, none⟩) hB (.slice (some ⟨g, 0, none⟩) (n + 1) c))
  have hKW := hid (((hKW0.out.alloc (.cells #[.int .i64 m, .slice none 0 0, .slice none 0 0] 66)).grown hg (kind_of hWa.out.1 (by decide))).setNew (Nat.le_refl _) 0 (.slice (some ⟨g, 0, none⟩) (n + 1) c))
  have hz2 := hg.size
  simp at hz2
  have y0 := ((hBX0.out.below (bal (Below.refl _ _) (.cells #[.int .i64 m, .slice none 0 0, .slice none 0 0] 66))).grown hg (fun x e => Or.inl (hbold x (List.mem_append.2 (Or.inl (by rw [e]; simp)))).2)).cells
  obtain ⟨y0, y1, y2, -, -, -, -⟩ := y0
  obtain ⟨o, hoE⟩ : ∃ o : OT, o = ⟨⟨m, [], []⟩, .slice none 0 0, .slice none 0 0⟩ := ⟨_, rfl⟩
  have HOE := hid hoE
  have hob : Hid (∀ x, o.iv.ownBlock = some x ∨ o.rv.ownBlock = some x → B ≤ x ∧ (x < w.heap.size ∨ w.heap.size + 2 < x)) := hid (fun x hx => by rw [hoE] at hx; simp [Value.ownBlock] at hx)
  have hgB : B ≤ g := hgo.1
  have hbn : w.heap.size ∉ (Value.slice (some ⟨g, 0, none⟩) (n + 1) c).ownBlock.toList ++ blocks (A ++ ⟨⟨m, [], []⟩, .slice none 0 0, .slice none 0 0⟩ :: C) := by
    have e : blocks (A ++ ⟨⟨m, [], []⟩, .slice none 0 0, .slice none 0 0⟩ :: C) = blocks (A ++ C) := by simp [blocks, otBlocks, Value.ownBlock]
    rw [e]
    intro hm
    rcases List.mem_append.1 hm with hm | hm
    · simp [Value.ownBlock] at hm; omega
    · have := (hbold _ (List.mem_append.2 (Or.inr hm))).2; omega
  have hW3 := hid (hW2.out.set' hbn 0 (.slice (some ⟨g, 0, none⟩) (n + 1) c))
  rw [← hoE] at hW3
  have hms : Hid (o.t.mask = m) := hid (by rw [hoE])
  have hi1 : o.t.ids.length ≤ 1000 := by rw [hoE]; simp
  have hr1 : o.t.rows.length ≤ 1000 := by rw [hoE]; simp
  obtain ⟨t0, t1, t2⟩ := hW2.out.cell (by simp [HNn.out]; omega)
  have hgne : g ≠ w.heap.size := by omega
  have t1f := hW2.out.frozen (by simp [HNn.out]; omega) (A.length * 3 + 1)
  have t1' : w2.cell? ⟨g, A.length * 3 + 1, none⟩ = some o.iv := by rw [hoE]; exact t1
  have hsz : (w2.setCell ⟨w.heap.size, 0, none⟩ (.slice (some ⟨g, 0, none⟩) (n + 1) c)).heap.size = w2.heap.size := World.size_setCell ..
  have HSZ := hid hsz
  have hN' : Hid (n + 1 = (A ++ o :: C).length) := hid (by have := HNn.out; simp at this ⊢; omega)
  clear hoE hv hg hl hWa hW2 hbold hW0 hBX0 hBW0 hKW0 x0 x1 x2 x3 x4 x5 x6 hbn hgo t0 t1 t2 hsz
  go_wp2_with (at_builtin; generalize w2.setCell ⟨w.heap.size, 0, none⟩ (.slice (some ⟨g, 0, none⟩) (n + 1) c) = w1 at hW3 hBX2 hBW2 hKW HSZ ⊢; have HIO := hid (hW3.out.2.1 o (by simp)).1; refine append_list rfl _ _ 47 rfl B 3 (.int .i64 0) 1 8 Try.underlying47 info3 rfl (by decide) _ _ _ rfl (HIO.out.alloc _) ⟨w2.heap.size, 0, none⟩ 1 1 [.int .i64 id] rfl rfl ?c1 ?c2 ?c3 ?c4 ?c5 ?_)
  case c1 =>
    intro j u hj
    match j, hj with
    | 0, hj => cases hj; rw [← HSZ.out]; simp [Addr.add]
  case c2 => intro u hu; simp at hu; subst hu; rfl
  case c3 => unfold maxLen; omega
  case c4 => omega
  case c5 => have := HSZ.out; simp; omega
  intro a2 c2 w4 h1 h2 h3
  have hsw1 := HSZ.out
  have hA := hid (hW3.out.below (bal (Below.refl _ _) (.cells #[.int .i64 id] 3)))
  have hne := own_ne hW3.out
  obtain ⟨p1, p2, p3⟩ := own_pre hA.out hN'.out h2 hne.1
  have p3' := p3 (A.length * 3 + 1)
  have HOW := hid (own_ids (ids' := o.t.ids ++ [id]) hA.out hN'.out h2 (by simpa using h1) (by simpa using h3))
  have HBX := hid (((hBX2.out.below (bal (Below.refl _ _) (.cells #[.int .i64 id] 3))).grown h2 (fun x e => (hob.out x (Or.inl e)).2)).set (x := g) hgb (A.length * 3 + 1) (.slice a2 (o.t.ids.length + 1) c2))
  have HBW := hid ((((hBW2.out.alloc (by omega) (.cells #[.int .i64 id] 3)).grown h2 (by simp; omega) (fun x e => (hob.out x (Or.inl e)).1))).setCell (p := ⟨g, A.length * 3 + 1, none⟩) (show B ≤ g from hgB) (.slice a2 (o.t.ids.length + 1) c2))
  have HKW := hid (((hKW.out.alloc (.cells #[.int .i64 id] 3)).grown h2 (kind_of (HIO.out.alloc _) (by decide))).set (g := g) (kind_of (owns_kept hA.out.1 h2 (fun z hz => by simp [Value.ownBlock] at hz; subst hz; exact hne.1)) (by decide) g rfl) (A.length * 3 + 1) (.slice a2 (o.t.ids.length + 1) c2))
  clear hKW
  clear h1 h2 h3 p3 t1' t1f hA hW3 hBX2 hBW2 HIO y0 y1 y2 hz2 hsw1
  go_wp2_with fail
  generalize w4.setCell ⟨g, A.length * 3 + 1, none⟩ (.slice a2 (o.t.ids.length + 1) c2) = W at HOW HBX HBW HKW ⊢
  clear p1 p2 p3' hne
  obtain ⟨x0, x1, x2, x3, x4, x5, x6⟩ := HBX.out.cells
  obtain ⟨r0, r1, r2, r3, r4, r5, r6, r7⟩ := HBX.out.row
  have hlen : Hid (n + 1 = (A ++ (⟨⟨o.t.mask, o.t.ids ++ [id], o.t.rows⟩, .slice a2 (o.t.ids.length + 1) c2, o.rv⟩ : OT) :: C).length) := by have := hN'.out; simp at this ⊢; exact hid this
  obtain ⟨t0, t1, t2⟩ := HOW.out.cell hlen.out
  have t2f := HOW.out.frozen hlen.out (A.length * 3 + 2)
  have hgl : g < W.heap.size := (HOW.out.1.lt g rfl).2
  have hzW : w.heap.size + 2 < W.heap.size := HBX.out.res.lt
  have HRO : Hid (W.ownsRow B 30 8 o.rv o.t.rows.length (o.t.rows.flatMap rowCells)) := (HOW.out.2.1 _ (List.mem_append.2 (Or.inr (List.mem_cons_self ..)))).2
  have hne := own_ne HOW.out
  have hA := hid (HOW.out.below (bal (Below.refl _ _) (.cells #[.int .i64 r.x, .int .i64 r.y, .int .i64 r.px, .int .i64 r.py, .int .i64 r.wd, .int .i64 r.ht, .int .i64 r.ms, .int .i64 r.rr] 30)))
  have hzr1 : w.heap.size + 1 < W.heap.size := by omega
  simp only at t0 t1 t2
  clear x0 x1 x2 x3 x4 x5 x6 t0 t1
  go_region_law (refine append_step rfl _ _ 64 rfl B 30 (.agg #[.int .i64 0, .int .i64 0, .int .i64 0, .int .i64 0, .int .i64 0, .int .i64 0, .int .i64 0, .int .i64 0]) 8 64 Try.underlying64 info30 rfl (by decide) _ _ _ rfl (HRO.out.alloc _) ⟨W.heap.size, 0, none⟩ 1 1 (rowCells r) rfl rfl (by intro j u hj; exact row_news _ r j u hj) (by simpa using rowCells_one [r]) (by unfold maxLen; omega) (by omega) (by simp; omega) ?_; intro a3 c3 w3 h1 h2 h3; obtain ⟨p1, p2, p3⟩ := own_pre hA.out hlen.out (grown_drew h2) hne.2; have p3' := p3 (A.length * 3 + 2); have H1 := hid h1; have H2 := hid (grown_drew h2); have H3 := hid (lies_drew h3); clear h1 h2 h3 p1 p3)
  all_goals
    have HOF := hid (own_rows (rows' := o.t.rows ++ [r]) hA.out hlen.out H2.out (by simpa using H1.out) H3.out)
    have HBF := hid (((HBX.out.below (bal (Below.refl _ _) (.cells #[.int .i64 r.x, .int .i64 r.y, .int .i64 r.px, .int .i64 r.py, .int .i64 r.wd, .int .i64 r.ht, .int .i64 r.ms, .int .i64 r.rr] 30))).grown H2.out (fun x e => (hob.out x (Or.inr e)).2)).set (x := g) hgb (A.length * 3 + 2) (.slice a3 (o.t.rows.length + 1) c3))
    have HBL := hid ((((HBW.out.alloc (by omega) (.cells #[.int .i64 r.x, .int .i64 r.y, .int .i64 r.px, .int .i64 r.py, .int .i64 r.wd, .int .i64 r.ht, .int .i64 r.ms, .int .i64 r.rr] 30)).grown H2.out (by simp; omega) (fun x e => (hob.out x (Or.inr e)).1))).setCell (p := ⟨g, A.length * 3 + 2, none⟩) (show B ≤ g from hgB) (.slice a3 (o.t.rows.length + 1) c3))
    have HKF := hid (((HKW.out.alloc (.cells #[.int .i64 r.x, .int .i64 r.y, .int .i64 r.px, .int .i64 r.py, .int .i64 r.wd, .int .i64 r.ht, .int .i64 r.ms, .int .i64 r.rr] 30)).grown H2.out (kind_of (HRO.out.alloc _) (by decide))).set (g := g) (kind_of (owns_kept hA.out.1 H2.out (fun z hz => by simp [Value.ownBlock] at hz; subst hz; exact hne.2)) (by decide) g rfl) (A.length * 3 + 2) (.slice a3 (o.t.rows.length + 1) c3))
    clear H1 H2 H3 p2 p3' t2 t2f r0 r1 r2 r3 r4 r5 r6 r7 hA HRO
    obtain ⟨x0, x1, x2, x3, x4, x5, x6⟩ := HBF.out.cells
    go_wp2_with fail
    refine bodyPost_ret (v := .agg #[.slice (some ⟨g, 0, none⟩) (n + 1) c, .int .i64 next]) (by simp [results, Try.results81, go_sem, x3, x4]) rfl ⟨⟨_, rfl, .slice a2 (o.t.ids.length + 1) c2, .slice a3 (o.t.rows.length + 1) c3, ?_⟩, ?_⟩
    · have hb1 := own_not_box HOF.out HBF.out.res (by decide)
      have h1 := HOF.out.set' hb1 0 (.slice (some ⟨g, 0, none⟩) (n + 1) c)
      have h2 := h1.set' hb1 1 (.int .i64 next)
      have e : (⟨o.t.mask, o.t.ids ++ [id], o.t.rows ++ [r]⟩ : Tab) = ⟨m, [id], [r]⟩ := by rw [HOE.out]; rfl
      rw [e] at h2
      exact h2
    · refine ⟨?_, (HKF.out.setNew (by omega) _ _).setNew (by omega) _ _⟩
      refine Below.setCell ?_ (by simp; omega) _
      refine Below.setCell ?_ (by simp; omega) _
      exact HBL.out
end Go.Proofs.Ytckkkdldljhehaa.St
