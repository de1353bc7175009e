/- What putIn of package store answers when called over tables of one's own among which the mask stands: the tables with the thing more in the mask's; each list in memory of one's own. -/
import Derived.Test.YtckkkdldljhehaaStPut
namespace Go.Proofs.Ytckkkdldljhehaa.St
open Go.Proofs.Ytckkkdldljhehaa.Num
open Go.ChangeShapes Go.WideShapes Go.ChangeAt Go.RowKit

/-- Masks rise. -/
def Rising (S : List OT) : Prop := S.Pairwise (fun a b => a.t.mask < b.t.mask)
theorem own_at {w : World} {B g n c : Nat} {S : List OT} (h : Own w B (.slice (some ⟨g, 0, none⟩) n c) S) (hn : n = S.length) (i : Nat) (o : OT) (hi : S[i]? = some o) :
    w.cell? ⟨g, i * 3, none⟩ = some (.int .i64 o.t.mask) ∧ w.cell? ⟨g, i * 3 + 1, none⟩ = some o.iv ∧ w.cell? ⟨g, i * 3 + 2, none⟩ = some o.rv := by
  have hlt : i < S.length := (List.getElem?_eq_some_iff.1 hi).1
  have e : S = S.take i ++ o :: S.drop (i + 1) := by
    have h1 : S.take i ++ S.drop i = S := List.take_append_drop i S
    rw [List.drop_eq_getElem_cons hlt] at h1
    rw [(List.getElem?_eq_some_iff.1 hi).2] at h1
    exact h1.symm
  have hl : (S.take i).length = i := by rw [List.length_take]; omega
  rw [e] at h
  have := h.cell (by rw [hn, ← e])
  rw [hl] at this
  exact this
def mk (S : List OT) (i : Nat) : Int := (S[i]?.map (·.t.mask)).getD 0
theorem search_own (a : Option Addr) (n c : Nat) (m : Int) (B : Nat) (S : List OT) (w : World) (hn : n = S.length) (hz : n ≤ 4611686018427387903) (h : Own w B (.slice a n c) S) (hr : Rising S) :
    Calls Try.prog 107 #[.slice a n c, .int .i64 m, .func (.func 108) #[] #[]] w fun e w' =>
      (∃ i : Nat, e = .returned (.tuple #[.int .i64 i, .bool (decide (i < n ∧ mk S i = m))]) ∧ i ≤ n ∧ (∀ q, q < i → mk S q < m) ∧ ∀ q, i ≤ q → q < n → m ≤ mk S q) ∧ Below w.heap.size w w' := by
  rcases Nat.eq_zero_or_pos n with h0 | hp
  · subst h0
    refine (search_empty a c m w).mono ?_
    rintro e w' ⟨rfl, rfl⟩
    exact ⟨⟨0, by simp, Nat.le_refl _, fun q hq => absurd hq (Nat.not_lt_zero _), fun q _ hq => absurd hq (Nat.not_lt_zero _)⟩, Below.refl _ _⟩
  · have hf : ∃ g, a = some ⟨g, 0, none⟩ := by
      rcases h.1.2 with ⟨_, h2⟩ | ⟨g, c', _, e, _⟩
      · omega
      · cases e; exact ⟨g, rfl⟩
    obtain ⟨g, rfl⟩ := hf
    have hg := h.1.lt g rfl
    refine search_any g 0 n c m (mk S) (fun i => (S[i]?.map (·.iv)).getD undef) (fun i => (S[i]?.map (·.rv)).getD undef) w hz hg.2 ?_ ?_
    · intro i hi
      have hs : S[i]? = some S[i] := List.getElem?_eq_getElem (by omega)
      have := own_at h hn i _ hs
      simp only [Nat.zero_add, mk, hs, Option.map_some, Option.getD_some]
      exact this
    · intro i j hij hj
      have hi : S[i]? = some S[i] := List.getElem?_eq_getElem (by omega)
      have hj' : S[j]? = some S[j] := List.getElem?_eq_getElem (by omega)
      simp only [mk, hi, hj', Option.map_some, Option.getD_some]
      exact (List.pairwise_iff_getElem.1 hr) i j (by omega) (by omega) hij
theorem rising_mid {A C : List OT} {o : OT} (h : Rising (A ++ o :: C)) {i : Nat} (hi : i < (A ++ o :: C).length) (he : mk (A ++ o :: C) i = o.t.mask) : i = A.length := by
  have hi' : (A ++ o :: C)[i]? = some (A ++ o :: C)[i] := List.getElem?_eq_getElem hi
  have ho : (A ++ o :: C)[A.length]? = some o := by simp
  have hl : A.length < (A ++ o :: C).length := by simp
  have e1 : (A ++ o :: C)[i].t.mask = o.t.mask := by simpa [mk, hi'] using he
  have e2 : (A ++ o :: C)[A.length] = o := (List.getElem?_eq_some_iff.1 ho).2
  rcases Nat.lt_trichotomy i A.length with hlt | heq | hgt
  · have := (List.pairwise_iff_getElem.1 h) i A.length hi hl hlt
    rw [e2] at this; omega
  · exact heq
  · have := (List.pairwise_iff_getElem.1 h) A.length i hl hi hgt
    rw [e2] at this; omega

theorem grown_drew {w w' : World} {row : Option Nat} (h : w.drew.grownBy w' row) : w.grownBy w' row := ⟨h.os, h.tape, h.output, h.size, h.block⟩
theorem lies_drew {w : World} {v v' : Value} (h : Lies w.drew v v') : Lies w v v' := h
theorem row_news (w : World) (r : R8) : ∀ j u, (rowCells r)[j]? = some u → (w.alloc (.cells #[.int .i64 r.x, .int .i64 r.y, .int .i64 r.px, .int .i64 r.py, .int .i64 r.wd, .int .i64 r.ht, .int .i64 r.ms, .int .i64 r.rr] 30)).cell? ((⟨w.heap.size, 0, none⟩ : Addr).add j) = some u := by
  intro j u hj
  have hj8 : j < 8 := by simpa [rowCells] using (List.getElem?_eq_some_iff.1 hj).1
  rw [Addr.add_lit, Nat.zero_add, (rowIs8 w r 30).cell hj8]
  simp [List.getD, hj]
theorem own_kind {w : World} {B size n : Nat} {e : TypeId} {v : Value} {xs : List Value} (h : w.ownsRow B e size v n xs) : ∀ g, v.ownBlock = some g → ∃ c fz, w.heap[g]? = some (.cells c e fz) := by
  intro g hg
  rcases h.2 with ⟨rfl, _⟩ | ⟨g', c, cur, rfl, _, hb, _⟩
  · cases hg
  · simp [Value.ownBlock] at hg
    subst hg
    exact ⟨cur, _, hb⟩
theorem own_not_box {W : World} {B b n : Nat} {v : Value} {S : List OT} {t : TypeId} {f : Nat → Value} (h : Own W B v S) (hb : W.rowIs b t n f) (ht : t ≠ 66 ∧ t ≠ 3 ∧ t ≠ 30) : b ∉ v.ownBlock.toList ++ blocks S := by
  obtain ⟨cb, hcb, _⟩ := hb
  intro hm
  rcases List.mem_append.1 hm with hm | hm
  · obtain ⟨c, fz, e⟩ := own_kind h.1 b (by simpa using hm)
    rw [hcb] at e; cases e; exact ht.1 rfl
  · simp only [blocks, List.mem_flatMap, otBlocks, List.mem_append] at hm
    obtain ⟨o, ho, hm | hm⟩ := hm
    · obtain ⟨c, fz, e⟩ := own_kind (h.2.1 o ho).1 b (by simpa using hm)
      rw [hcb] at e; cases e; exact ht.2.1 rfl
    · obtain ⟨c, fz, e⟩ := own_kind (h.2.1 o ho).2 b (by simpa using hm)
      rw [hcb] at e; cases e; exact ht.2.2 rfl
theorem own_ne {W : World} {B g n c : Nat} {A C : List OT} {o : OT} (h : Own W B (.slice (some ⟨g, 0, none⟩) n c) (A ++ o :: C)) : o.iv.ownBlock ≠ some g ∧ o.rv.ownBlock ≠ some g := by
  have h3 := h.2.2
  rw [blocks_mid] at h3
  have hh : g ∉ blocks A ++ (otBlocks o ++ blocks C) := by
    have : (g :: (blocks A ++ (otBlocks o ++ blocks C))).Nodup := by simpa [Value.ownBlock] using h3
    exact (List.nodup_cons.1 this).1
  refine ⟨fun e => hh ?_, fun e => hh ?_⟩
  · exact List.mem_append.2 (Or.inr (List.mem_append.2 (Or.inl (by simp [otBlocks, e]))))
  · exact List.mem_append.2 (Or.inr (List.mem_append.2 (Or.inl (by simp [otBlocks, e]))))
theorem own_pre {W w1 : World} {B g n c : Nat} {A C : List OT} {o : OT} {row : Option Nat} (h : Own W B (.slice (some ⟨g, 0, none⟩) n c) (A ++ o :: C)) (hn : n = (A ++ o :: C).length) (hg : W.grownBy w1 row) (hne : row ≠ some g) :
    w1.cell? ⟨g, A.length * 3 + 1, none⟩ = some o.iv ∧ w1.cell? ⟨g, A.length * 3 + 2, none⟩ = some o.rv ∧ ∀ j, w1.frozen? ⟨g, j, none⟩ = false := by
  have hb := hg.block g (h.1.lt g rfl).2 (fun e => hne e.symm)
  obtain ⟨_, c1, c2⟩ := h.cell hn
  exact ⟨(World.cell?_of_block (a := ⟨g, A.length * 3 + 1, none⟩) hb).trans c1, (World.cell?_of_block (a := ⟨g, A.length * 3 + 2, none⟩) hb).trans c2, fun j => (World.frozen?_of_block (a := ⟨g, j, none⟩) hb).trans (h.frozen hn j)⟩

set_option maxHeartbeats 4000000 in
set_option maxRecDepth 100000 in
theorem putIn_found (g n c : Nat) (next id : Int) (B : Nat) (A C : List OT) (o : OT) (r : R8) (w : World) (hN : n = (A ++ o :: C).length) (hB : B ≤ w.heap.size) (hz : n ≤ 1000) (hi1 : o.t.ids.length ≤ 1000) (hr1 : o.t.rows.length ≤ 1000)
    (hown : Own w B (.slice (some ⟨g, 0, none⟩) n c) (A ++ o :: C)) (hris : Rising (A ++ o :: C)) :
    Calls Try.prog 81 #[.agg #[.slice (some ⟨g, 0, none⟩) n c, .int .i64 next], .int .i64 o.t.mask, .int .i64 id, .agg #[.int .i64 r.x, .int .i64 r.y, .int .i64 r.px, .int .i64 r.py, .int .i64 r.wd, .int .i64 r.ht, .int .i64 r.ms, .int .i64 r.rr]] w fun e w' =>
      (∃ v, e = .returned (.agg #[v, .int .i64 next]) ∧ ∃ iv rv, Own w' B v (A ++ ⟨⟨o.t.mask, o.t.ids ++ [id], o.t.rows ++ [r]⟩, iv, rv⟩ :: C)) ∧ Below B w w' ∧ Keep w w' := by
  have HS := hid (fun w' (hb : Below w.heap.size w w') => search_own (some ⟨g, 0, none⟩) n c o.t.mask B (A ++ o :: C) w' hN (by omega) (hown.below hb) hris)
  have HO := hid hown
  have HRI := hid hris
  have HN := hid hN
  have hAn : A.length < n := by rw [hN]; simp
  clear hown hris
  have hN' : Hid (n = (A ++ o :: C).length) := hN
  clear hN
  go_enter Try.func81, Try.ntmps81
  go_wp2_with fail
  refine (HS.out _ (bal (bal (bal (Below.refl _ _) _) _) _)).mono ?_
  rintro e w1 ⟨⟨i, rfl, hin, hlo, hhi⟩, hb1⟩
  have hfound : i < n ∧ mk (A ++ o :: C) i = o.t.mask := by
    have hmid : mk (A ++ o :: C) A.length = o.t.mask := by simp [mk]
    have h1 : ¬ A.length < i := fun h => by have := hlo A.length h; omega
    have h2 : ¬ i < A.length := fun h => by
      have h3 := hhi i (Nat.le_refl _) (by omega)
      have hlt : A.length < (A ++ o :: C).length := by simp
      have hil : i < (A ++ o :: C).length := by omega
      have := (List.pairwise_iff_getElem.1 HRI.out) i A.length hil hlt h
      have e1 : mk (A ++ o :: C) i = (A ++ o :: C)[i].t.mask := by simp only [mk, List.getElem?_eq_getElem hil, Option.map_some, Option.getD_some]
      have e2 : mk (A ++ o :: C) A.length = (A ++ o :: C)[A.length].t.mask := by simp only [mk, List.getElem?_eq_getElem hlt, Option.map_some, Option.getD_some]
      omega
    have : i = A.length := by omega
    subst this
    exact ⟨hAn, hmid⟩
  have hiA : i = A.length := rising_mid HRI.out (by rw [← hN'.out]; exact hfound.1) hfound.2
  subst hiA
  rw [decide_eq_true hfound]
  have hW : Hid (Own w1 B (.slice (some ⟨g, 0, none⟩) n c) (A ++ o :: C)) := HO.out.below (bcall (bal (bal (bal (Below.refl _ _) _) _) _) hb1)
  have hBX : Hid (Boxes w1 w.heap.size (.slice (some ⟨g, 0, none⟩) n c) next r) := (Boxes.made w _ next r).below hb1
  have hBW : Hid (Below B w w1) := (bcall (bal (bal (bal (Below.refl _ _) _) _) _) hb1).mono hB
  have hKW : Hid (Keep w w1) := hid ((((Keep.refl w).alloc _).alloc _).alloc _ |>.below hb1)
  have hz1 := hb1.size
  simp at hz1
  clear hlo hhi hfound hb1 hin
  have hgW := hW.out.1.lt g rfl
  obtain ⟨t0, t1, t2⟩ := hW.out.cell hN'.out
  have t1f := hW.out.frozen hN'.out (A.length * 3 + 1)
  obtain ⟨x0, x1, x2, x3, x4, x5, x6⟩ := hBX.out.cells
  have HIO := hid (hW.out.2.1 o (by simp)).1
  have hgl : g < w1.heap.size := hgW.2
  have hgb : g < w.heap.size := (HO.out.1.lt g rfl).2
  go_wp2_with (at_builtin; refine append_list rfl _ _ 47 rfl B 3 (.int .i64 0) 1 8 Try.underlying47 info3 rfl (by decide) _ _ _ rfl (HIO.out.alloc _) ⟨w1.heap.size, 0, none⟩ 1 1 [.int .i64 id] rfl rfl ?c1 ?c2 ?c3 ?c4 ?c5 ?_)
  case c1 =>
    intro j u hj
    match j, hj with
    | 0, hj => cases hj; simp [Addr.add]
  case c2 => intro u hu; simp at hu; subst hu; rfl
  case c3 => unfold maxLen; omega
  case c4 => omega
  case c5 => simp; omega
  intro a2 c2 w2 h1 h2 h3
  have hA := hid (hW.out.below (bal (Below.refl _ _) (.cells #[.int .i64 id] 3)))
  have hne := own_ne hW.out
  obtain ⟨p1, p2, p3⟩ := own_pre hA.out hN'.out h2 hne.1
  have p3' := p3 (A.length * 3 + 1)
  have HOW := hid (own_ids (ids' := o.t.ids ++ [id]) hA.out hN'.out h2 (by simpa using h1) (by simpa using h3))
  have hob : ∀ x, o.iv.ownBlock = some x → x < w.heap.size := fun x e => (HO.out.lt x (List.mem_append.2 (Or.inr (by rw [blocks_mid]; simp [otBlocks, e])))).2
  have HBX := hid (((hBX.out.below (bal (Below.refl _ _) (.cells #[.int .i64 id] 3))).grown h2 (fun x e => Or.inl (hob x e))).set (x := g) (Or.inl hgb) (A.length * 3 + 1) (.slice a2 (o.t.ids.length + 1) c2))
  have HBW := hid ((((hBW.out.alloc (by omega) (.cells #[.int .i64 id] 3)).grown h2 (by simp; omega) (fun x e => (HO.out.lt x (List.mem_append.2 (Or.inr (by rw [blocks_mid]; simp [otBlocks, e])))).1))).setCell (p := ⟨g, A.length * 3 + 1, none⟩) (show B ≤ g from hgW.1) (.slice a2 (o.t.ids.length + 1) c2))
  have HKW := hid (((hKW.out.alloc (.cells #[.int .i64 id] 3)).grown h2 (kind_of (HIO.out.alloc _) (by decide))).set (g := g) (kind_of (owns_kept hA.out.1 h2 (fun z hz => by simp [Value.ownBlock] at hz; subst hz; exact hne.1)) (by decide) g rfl) (A.length * 3 + 1) (.slice a2 (o.t.ids.length + 1) c2))
  have HZ2 : Hid (w1.heap.size + 1 ≤ w2.heap.size) := by have := h2.size; simp at this; exact hid this
  have hz2 := HZ2.out
  clear h1 h2 h3 p3 t0 t1 t2 t1f hA hW hBX hBW HIO HZ2 hKW
  go_wp2_with fail
  generalize w2.setCell ⟨g, A.length * 3 + 1, none⟩ (.slice a2 (o.t.ids.length + 1) c2) = W at HOW HBX HBW HKW ⊢
  clear p1 p2 p3' x0 x1 x2 x3 x4 x5 x6 hz2 hne hgl hgW hz1 hob
  obtain ⟨x0, x1, x2, x3, x4, x5, x6⟩ := HBX.out.cells
  obtain ⟨r0, r1, r2, r3, r4, r5, r6, r7⟩ := HBX.out.row
  have hlen : Hid (n = (A ++ (⟨⟨o.t.mask, o.t.ids ++ [id], o.t.rows⟩, .slice a2 (o.t.ids.length + 1) c2, o.rv⟩ : OT) :: C).length) := by have := hN'.out; simp at this ⊢; exact hid this
  obtain ⟨t0, t1, t2⟩ := HOW.out.cell hlen.out
  have t2f := HOW.out.frozen hlen.out (A.length * 3 + 2)
  have hgl : g < W.heap.size := (HOW.out.1.lt g rfl).2
  have hzW : w.heap.size + 2 < W.heap.size := HBX.out.res.lt
  have HRO : Hid (W.ownsRow B 30 8 o.rv o.t.rows.length (o.t.rows.flatMap rowCells)) := (HOW.out.2.1 _ (List.mem_append.2 (Or.inr (List.mem_cons_self ..)))).2
  have hne := own_ne HOW.out
  have hA := hid (HOW.out.below (bal (Below.refl _ _) (.cells #[.int .i64 r.x, .int .i64 r.y, .int .i64 r.px, .int .i64 r.py, .int .i64 r.wd, .int .i64 r.ht, .int .i64 r.ms, .int .i64 r.rr] 30)))
  have hzr1 : w.heap.size + 1 < W.heap.size := by omega
  simp only at t0 t1 t2
  clear x0 x1 x2 x3 x4 x5 x6 t0 t1
  go_region_law (refine append_step rfl _ _ 64 rfl B 30 (.agg #[.int .i64 0, .int .i64 0, .int .i64 0, .int .i64 0, .int .i64 0, .int .i64 0, .int .i64 0, .int .i64 0]) 8 64 Try.underlying64 info30 rfl (by decide) _ _ _ rfl (HRO.out.alloc _) ⟨W.heap.size, 0, none⟩ 1 1 (rowCells r) rfl rfl (by intro j u hj; exact row_news _ r j u hj) (by simpa using rowCells_one [r]) (by unfold maxLen; omega) (by omega) (by simp; omega) ?_; intro a3 c3 w3 h1 h2 h3; obtain ⟨p1, p2, p3⟩ := own_pre hA.out hlen.out (grown_drew h2) hne.2; have p3' := p3 (A.length * 3 + 2); have H1 := hid h1; have H2 := hid (grown_drew h2); have H3 := hid (lies_drew h3); clear h1 h2 h3 p1 p3)
  all_goals
    have HOF := hid (own_rows (rows' := o.t.rows ++ [r]) hA.out hlen.out H2.out (by simpa using H1.out) H3.out)
    have hob : ∀ x, o.rv.ownBlock = some x → B ≤ x ∧ x < w.heap.size := fun x e => HO.out.lt x (List.mem_append.2 (Or.inr (by rw [blocks_mid]; simp [otBlocks, e])))
    have HBF := hid (((HBX.out.below (bal (Below.refl _ _) (.cells #[.int .i64 r.x, .int .i64 r.y, .int .i64 r.px, .int .i64 r.py, .int .i64 r.wd, .int .i64 r.ht, .int .i64 r.ms, .int .i64 r.rr] 30))).grown H2.out (fun x e => Or.inl (hob x e).2)).set (x := g) (Or.inl hgb) (A.length * 3 + 2) (.slice a3 (o.t.rows.length + 1) c3))
    have HBL := hid ((((HBW.out.alloc (by omega) (.cells #[.int .i64 r.x, .int .i64 r.y, .int .i64 r.px, .int .i64 r.py, .int .i64 r.wd, .int .i64 r.ht, .int .i64 r.ms, .int .i64 r.rr] 30)).grown H2.out (by simp; omega) (fun x e => (hob x e).1))).setCell (p := ⟨g, A.length * 3 + 2, none⟩) (show B ≤ g from (HO.out.1.lt g rfl).1) (.slice a3 (o.t.rows.length + 1) c3))
    have HKF := hid (((HKW.out.alloc (.cells #[.int .i64 r.x, .int .i64 r.y, .int .i64 r.px, .int .i64 r.py, .int .i64 r.wd, .int .i64 r.ht, .int .i64 r.ms, .int .i64 r.rr] 30)).grown H2.out (kind_of (HRO.out.alloc _) (by decide))).set (g := g) (kind_of (owns_kept hA.out.1 H2.out (fun z hz => by simp [Value.ownBlock] at hz; subst hz; exact hne.2)) (by decide) g rfl) (A.length * 3 + 2) (.slice a3 (o.t.rows.length + 1) c3))
    clear H1 H2 H3 p2 p3' t2 t2f r0 r1 r2 r3 r4 r5 r6 r7 hA HRO
    obtain ⟨x0, x1, x2, x3, x4, x5, x6⟩ := HBF.out.cells
    go_wp2_with fail
    refine bodyPost_ret (v := .agg #[.slice (some ⟨g, 0, none⟩) n c, .int .i64 next]) (by simp [results, Try.results81, go_sem, x3, x4]) rfl ⟨⟨_, rfl, .slice a2 (o.t.ids.length + 1) c2, .slice a3 (o.t.rows.length + 1) c3, ?_⟩, ?_⟩
    · have hb1 := own_not_box HOF.out HBF.out.res (by decide)
      have h1 := HOF.out.set' hb1 0 (.slice (some ⟨g, 0, none⟩) n c)
      exact h1.set' hb1 1 (.int .i64 next)
    · refine ⟨?_, (HKF.out.setNew (by omega) _ _).setNew (by omega) _ _⟩
      refine Below.setCell ?_ (by simp; omega) _
      refine Below.setCell ?_ (by simp; omega) _
      exact HBL.out
end Go.Proofs.Ytckkkdldljhehaa.St
