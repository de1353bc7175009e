/- What copied of package ninepinslaw answers when called over a store in memory: the same tables in memory of their own; nothing that was in memory before has changed. -/
import Derived.Test.YtckkkdldljhehabGreatPkQ
import Derived.Test.YtckkkdldljhehabGreatPkC
import Derived.Test.YtckkkdldljhehabGreatPkG
namespace Go.Proofs.YtckkkdldljhehabGreat.Cp
open Go.Proofs.YtckkkdldljhehabGreat.Num Go.Proofs.YtckkkdldljhehabGreat.St
open Go.ChangeShapes Go.WideShapes Go.ChangeAt Go.RowKit

theorem plain_succ {T : Nat → TabV} {I : Nat → Nat → Int} {R : Nat → Nat → R8} (k : Nat) : plainOf T I R (k + 1) = plainOf T I R k ++ [tabOf T I R k] := by simp [plainOf, List.range_succ]
theorem own_nil (w : World) (B : Nat) : Own w B (.slice none 0 0) [] := ⟨World.ownsRow_nil _ _ _ _, fun o ho => (by cases ho), List.nodup_nil⟩
theorem set2 {W : World} {b : Nat} {t : TypeId} {f : Nat → Value} (h : W.rowIs b t 2 f) (u : Value) : (W.setCell ⟨b, 0, none⟩ u).rowIs b t 2 (fun i => if i = 0 then u else f i) := (h.set 0 u).congr (fun i hi => by
  match i, hi with
  | 0, _ => rfl
  | 1, _ => rfl)
theorem src3 (w : World) (x y z : Value) (t : TypeId) : ∀ j u, [x, y, z][j]? = some u → (w.alloc (.cells #[x, y, z] t)).cell? ((⟨w.heap.size, 0, none⟩ : Addr).add j) = some u := by
  intro j u hj
  have h := rowIs3 w x y z t
  match j, hj with
  | 0, hj => cases hj; rw [Addr.add_lit]; exact h.cell (i := 0) (by omega)
  | 1, hj => cases hj; rw [Addr.add_lit]; exact h.cell (i := 1) (by omega)
  | 2, hj => cases hj; rw [Addr.add_lit]; exact h.cell (i := 2) (by omega)
theorem ot_nodup {t : Tab} {ai ar : Option Addr} {n m c d p : Nat} (h1 : ∀ z, (Value.slice ai n c).ownBlock = some z → z < p) (h2 : ∀ z, (Value.slice ar m d).ownBlock = some z → p ≤ z) : (otBlocks ⟨t, .slice ai n c, .slice ar m d⟩).Nodup := by
  unfold otBlocks
  rw [List.nodup_append]
  refine ⟨by cases (Value.slice ai n c).ownBlock <;> simp, by cases (Value.slice ar m d).ownBlock <;> simp, fun x hx y hy e => ?_⟩
  have := h1 x (by simpa using hx)
  have := h2 y (by simpa using hy)
  omega
theorem own_le {W : World} {B B' : Nat} {v : Value} {S : List OT} (h : Own W B v S) (hle : B' ≤ B) : Own W B' v S := ⟨Joins.ownsRow_le h.1 hle, fun o ho => ⟨Joins.ownsRow_le (h.2.1 o ho).1 hle, Joins.ownsRow_le (h.2.1 o ho).2 hle⟩, h.2.2⟩
theorem tb_alloc {W W1 : World} {tb : Nat} {x : Obj} (hx : W1.heap[tb]? = some x) (h : W.heap[tb]? = W1.heap[tb]?) (o : Obj) : (W.alloc o).heap[tb]? = W1.heap[tb]? := by
  rw [(MapKept.heap_alloc W o).2 tb (by rw [hx] at h; exact (Array.getElem?_eq_some_iff.1 h).1)]
  exact h
theorem tb_set {W W1 : World} {tb b i : Nat} (h : W.heap[tb]? = W1.heap[tb]?) (hne : tb ≠ b) (u : Value) : (W.setCell ⟨b, i, none⟩ u).heap[tb]? = W1.heap[tb]? := by
  rw [Below.heap_setCell _ _ _ _ hne]
  exact h
theorem src3r {W : World} {g : Nat} {x y z : Value} (h : W.rowIs g 53 3 (fun i => if i = 0 then x else if i = 1 then y else z)) : ∀ j u, [x, y, z][j]? = some u → W.cell? ((⟨g, 0, none⟩ : Addr).add j) = some u := by
  intro j u hj
  obtain ⟨h0, h1, h2⟩ := tcs h
  match j, hj with
  | 0, hj => cases hj; rw [Addr.add_lit]; exact h0
  | 1, hj => cases hj; rw [Addr.add_lit]; exact h1
  | 2, hj => cases hj; rw [Addr.add_lit]; exact h2
/-- A list of numbers copied; a list of rows copied. -/
def PI (B il : Nat) (ids : List Int) (w : World) (v : Value) : Prop := ∃ a c, v = .slice a il c ∧ w.ownsRow B 3 1 v il (ids.map (Value.int .i64))
def PR (B rl : Nat) (rows : List R8) (w : World) (u v : Value) : Prop := ∃ a c, v = .slice a rl c ∧ w.ownsRow B 56 8 v rl (rows.flatMap rowCells) ∧ ∀ z, u.ownBlock = some z → v.ownBlock ≠ some z
theorem PI.below {B il : Nat} {ids : List Int} {w w' : World} {v : Value} (h : PI B il ids w v) (hb : Below w.heap.size w w') : PI B il ids w' v := by
  obtain ⟨a, c, e, h⟩ := h
  exact ⟨a, c, e, owns_below h hb⟩
theorem PI.lt {B il : Nat} {ids : List Int} {w : World} {v : Value} (h : PI B il ids w v) {z : Nat} (hz : v.ownBlock = some z) : z < w.heap.size := by
  obtain ⟨a, c, e, h⟩ := h
  exact (h.lt z hz).2
theorem PR.below {B rl : Nat} {rows : List R8} {w w' : World} {u v : Value} (h : PR B rl rows w u v) (hb : Below w.heap.size w w') : PR B rl rows w' u v := by
  obtain ⟨a, c, e, h, h2⟩ := h
  exact ⟨a, c, e, owns_below h hb, h2⟩
/-- One table more, between the append and the store. -/
def MidC (B : Nat) (w0 : World) (k : Nat) (S : List OT) (t : Tab) (next : Int) (old : Value) (w : World) (v : Value) : Prop :=
  ∃ g c, v = .slice (some ⟨g, 0, none⟩) (k + 1) c ∧ (∃ o : OT, o.t = t ∧ Own w (B + 1 + 1 + 1) v (S ++ [o])) ∧ w.rowIs (B + 1 + 1) 24 2 (fun i => if i = 0 then old else .int .i64 next) ∧ w.rowIs (B + 1) 24 2 (fun i => if i = 0 then .slice none 0 0 else .int .i64 0) ∧ Below w0.heap.size w0 w
theorem mid_mk {w W1 w1 w2 : World} {k tb g7 c7 il rl ci cr c' : Nat} {a' ai ar : Option Addr} {S : List OT} {T : Nat → TabV} {I : Nat → Nat → Int} {R : Nat → Nat → R8} {next : Int} {tm : Int}
    (hown : Own W1 (w.heap.size + 1 + 1 + 1) (.slice a' k c') S) (hsl : S.length = k) (hlt : ∀ z, (Value.slice a' k c').ownBlock = some z → w.heap.size + 1 + 1 + 1 ≤ z ∧ z < tb) (hbs : ∀ z ∈ blocks S, z < tb) (hz1 : W1.heap.size = tb + 1) (hbel : Below W1.heap.size W1 w1)
    (h6 : w1.ownsRow W1.heap.size 3 1 (.slice ai il ci) il (((List.range il).map (I k)).map (Value.int .i64))) (h9 : w1.ownsRow W1.heap.size 56 8 (.slice ar rl cr) rl (((List.range rl).map (R k)).flatMap rowCells)) (hap : ∀ z, (Value.slice ai il ci).ownBlock = some z → (Value.slice ar rl cr).ownBlock ≠ some z)
    (ho : w2.ownsRow (w.heap.size + 1 + 1 + 1) 53 3 (.slice (some ⟨g7, 0, none⟩) (k + 1) c7) (k + 1) (tabCells S ++ [.int .i64 tm, .slice ai il ci, .slice ar rl cr])) (hg : w1.grownBy w2 (Value.slice a' k c').ownBlock) (hat : some g7 = (Value.slice a' k c').ownBlock ∨ g7 = w1.heap.size)
    (hob : W1.rowIs (w.heap.size + 1 + 1) 24 2 (fun i => if i = 0 then .slice a' k c' else .int .i64 next)) (hrb : W1.rowIs (w.heap.size + 1) 24 2 (fun i => if i = 0 then .slice none 0 0 else .int .i64 0)) (hbl : Below w.heap.size w W1) (hTm : (T k).mask = tm := by rfl) (hil : (T k).il = il := by rfl) (hrl : (T k).rl = rl := by rfl) (htb : w.heap.size + 1 + 1 < tb := by omega) :
    MidC w.heap.size w k S (tabOf T I R k) next (.slice a' k c') w2 (.slice (some ⟨g7, 0, none⟩) (k + 1) c7) := by
  refine ⟨g7, c7, rfl, ⟨⟨tabOf T I R k, .slice ai il ci, .slice ar rl cr⟩, rfl, ?_⟩, rowIs_grown (rowIs_below hob hbel) hg (fun e => by have := (hlt _ e).1; omega), rowIs_grown (rowIs_below hrb hbel) hg (fun e => by have := (hlt _ e).1; omega), (bcall hbl hbel).grown hg (bcall hbl hbel).size (fun z e => by have := (hlt _ e).1; omega)⟩
  have hle : w.heap.size + 1 + 1 + 1 ≤ W1.heap.size := by omega
  refine own_snoc (hown.below hbel) ⟨?_, ?_⟩ ?_ ?_ hg (by rw [hsl]; subst hTm; exact ho) (by rcases hat with h | h; exact Or.inl h; exact Or.inr (by rw [h]; rfl))
  · subst hil
    simpa [tabOf] using Joins.ownsRow_le h6 hle
  · subst hrl
    simpa [tabOf] using Joins.ownsRow_le h9 hle
  · unfold otBlocks
    rw [List.nodup_append]
    refine ⟨by cases (Value.slice ai il ci).ownBlock <;> simp, by cases (Value.slice ar rl cr).ownBlock <;> simp, fun x hx y hy e => ?_⟩
    subst e
    exact hap x (by simpa using hx) (by simpa using hy)
  · intro z hz hm
    have hz5 : W1.heap.size ≤ z := by
      rcases List.mem_append.1 hz with h | h
      · exact (h6.lt z (by simpa using h)).1
      · exact (h9.lt z (by simpa using h)).1
    rcases List.mem_append.1 hm with h | h
    · have := (hlt z (by simpa using h)).2; omega
    · have := hbs z h; omega
theorem mid_end {w0 : World} {k : Nat} {S : List OT} {t : Tab} {next : Int} {old : Value} {w : World} {g7 c7 : Nat} (h : MidC w0.heap.size w0 k S t next old w (.slice (some ⟨g7, 0, none⟩) (k + 1) c7)) :
    (∃ o : OT, o.t = t ∧ Own (w.setCell ⟨w0.heap.size + 1 + 1, 0, none⟩ (.slice (some ⟨g7, 0, none⟩) (k + 1) c7)) (w0.heap.size + 1 + 1 + 1) (.slice (some ⟨g7, 0, none⟩) (k + 1) c7) (S ++ [o])) ∧
    (w.setCell ⟨w0.heap.size + 1 + 1, 0, none⟩ (.slice (some ⟨g7, 0, none⟩) (k + 1) c7)).rowIs (w0.heap.size + 1 + 1) 24 2 (fun i => if i = 0 then .slice (some ⟨g7, 0, none⟩) (k + 1) c7 else .int .i64 next) ∧
    (w.setCell ⟨w0.heap.size + 1 + 1, 0, none⟩ (.slice (some ⟨g7, 0, none⟩) (k + 1) c7)).rowIs (w0.heap.size + 1) 24 2 (fun i => if i = 0 then .slice none 0 0 else .int .i64 0) ∧ Below w0.heap.size w0 (w.setCell ⟨w0.heap.size + 1 + 1, 0, none⟩ (.slice (some ⟨g7, 0, none⟩) (k + 1) c7)) := by
  obtain ⟨g, c, e, ⟨o, h1, h2⟩, h3, h4, h5⟩ := h
  refine ⟨⟨o, h1, h2.set (by omega) 0 _⟩, (set2 h3 _).congr (fun i hi => ?_), h4.of_block (Below.heap_setCell _ _ _ _ (by show w0.heap.size + 1 ≠ w0.heap.size + 1 + 1; omega)), Below.setCell h5 (by show w0.heap.size ≤ w0.heap.size + 1 + 1; omega) _⟩
  match i, hi with
  | 0, _ => rfl
  | 1, _ => rfl
/-- Who waits for whom. -/
def D : List (Nat × Nat) := [(1, 0), (3, 2), (5, 4), (6, 5), (8, 7), (9, 8), (9, 6), (10, 3), (10, 6), (10, 9), (11, 10), (12, 1), (12, 11), (12, 9)]
def Dn (L : Nat → Bool) : Prop := ∀ p ∈ D, L p.1 = true → L p.2 = true
theorem Dn.up {L : Nat → Bool} (h : Dn L) {i : Nat} (hd : ∀ p ∈ D, p.1 = i → L p.2 = true) : Dn (Rg.up L i) := fun p hp hk => by
  by_cases e : p.1 = i
  · exact Rg.up_of (hd p hp e)
  · exact Rg.up_of (h p hp (Rg.up_ne hk e))
theorem Dn.late {L : Nat → Bool} (h : Dn L) {j : Nat} (hj : j ∈ [0, 1, 2, 3, 4, 5, 6, 7, 8, 9, 10, 11]) (hl : L j = false) : L 12 = false := by
  cases e : L 12 with
  | false => rfl
  | true =>
    have q1 := h (12, 1) (by simp [D]) e
    have q0 := h (1, 0) (by simp [D]) q1
    have q11 := h (12, 11) (by simp [D]) e
    have q10 := h (11, 10) (by simp [D]) q11
    have q3 := h (10, 3) (by simp [D]) q10
    have q2 := h (3, 2) (by simp [D]) q3
    have q6 := h (10, 6) (by simp [D]) q10
    have q9 := h (10, 9) (by simp [D]) q10
    have q5 := h (6, 5) (by simp [D]) q6
    have q4 := h (5, 4) (by simp [D]) q5
    have q8 := h (9, 8) (by simp [D]) q9
    have q7 := h (8, 7) (by simp [D]) q8
    simp only at q0 q1 q2 q3 q4 q5 q6 q7 q8 q9 q10 q11
    simp at hj
    rcases hj with rfl | rfl | rfl | rfl | rfl | rfl | rfl | rfl | rfl | rfl | rfl | rfl <;> simp_all
attribute [local go_sem ↓] Go.wp_at_zero Go.wp_at_succ
set_option maxHeartbeats 8000000 in
set_option maxRecDepth 100000 in
theorem copied_any (a : Option Addr) (n cap : Nat) (next : Int) (T : Nat → TabV) (I : Nat → Nat → Int) (R : Nat → Nat → R8) (w : World) (hin : StoreIn w a n T I R) :
    Calls Tryz.prog 11 #[.agg #[.slice a n cap, .int .i64 next]] w fun e w' => (∃ a' c', e = .returned (.agg #[.slice a' n c', .int .i64 next]) ∧ ∃ S, Own w' w.heap.size (.slice a' n c') S ∧ S.map (·.t) = plainOf T I R n) ∧ Below w.heap.size w w' := by
  obtain ⟨i3, hi3, hz3, hs3, hb3⟩ := info_parts info3
  obtain ⟨i30, hi30, hz30, hs30, hb30⟩ := info_parts info30
  obtain ⟨i66, hi66, hz66, hs66, hb66⟩ := info_parts info66
  have hn : n * 56 ≤ 140737488355328 := hin.fits.1
  have HT : Hid _ := hin.tabs
  have HI : Hid _ := hin.ids
  have HR : Hid _ := hin.rows
  have HZ : Hid _ := hin.fits.2.2
  clear hin
  go_enter Tryz.func11, Tryz.ntmps11
  go_wp2_with fail
  have HRB0 : Hid ((((w.alloc (.cells #[.slice a n cap, .int .i64 next] 24)).alloc (.cells #[.slice none 0 0, .int .i64 0] 24)).alloc (.cells #[.slice none 0 0, .int .i64 next] 24)).rowIs (w.heap.size + 1) 24 2 (fun i => if i = 0 then .slice none 0 0 else .int .i64 0)) := hid (by
    have h := rowIs2 (w.alloc (.cells #[.slice a n cap, .int .i64 next] 24)) (.slice none 0 0) (.int .i64 0) 24
    rw [World.size_alloc] at h
    exact rowIs_below h (bal (Below.refl _ _) _))
  have HOB0 : Hid ((((w.alloc (.cells #[.slice a n cap, .int .i64 next] 24)).alloc (.cells #[.slice none 0 0, .int .i64 0] 24)).alloc (.cells #[.slice none 0 0, .int .i64 next] 24)).rowIs (w.heap.size + 1 + 1) 24 2 (fun i => if i = 0 then .slice none 0 0 else .int .i64 next)) := hid (by
    have h := rowIs2 ((w.alloc (.cells #[.slice a n cap, .int .i64 next] 24)).alloc (.cells #[.slice none 0 0, .int .i64 0] 24)) (.slice none 0 0) (.int .i64 next) 24
    rw [World.size_alloc, World.size_alloc] at h
    exact h)
  have HB0 := hid (bal (bal (bal (Below.refl _ w) (.cells #[.slice a n cap, .int .i64 next] 24)) (.cells #[.slice none 0 0, .int .i64 0] 24)) (.cells #[.slice none 0 0, .int .i64 next] 24))
  go_loopw [12] (fun i wr => ∃ k a' c' S, k ≤ n ∧ i = .int .i64 k ∧ Hid (Own wr (w.heap.size + 1 + 1 + 1) (.slice a' k c') S) ∧ Hid (S.map (·.t) = plainOf T I R k) ∧ Hid (wr.rowIs (w.heap.size + 1 + 1) 24 2 (fun i => if i = 0 then .slice a' k c' else .int .i64 next)) ∧ Hid (wr.rowIs (w.heap.size + 1) 24 2 (fun i => if i = 0 then .slice none 0 0 else .int .i64 0)) ∧ Hid (Below w.heap.size w wr)) (fun i _ => n - (intOf i).toNat)
  case atStart => exact ⟨0, none, 0, [], Nat.zero_le _, rfl, hid (own_nil _ _), hid rfl, HOB0, HRB0, HB0⟩
  case round =>
    obtain ⟨k, a', c', S, hk, rfl, HOW, HSP, HOB, HRB, HBL⟩ := hrel
    have hobz := HOB.out.lt
    by_cases hlt : k < n
    · obtain ⟨b, off, rfl, hb, hc⟩ := HT.out (by omega)
      obtain ⟨c0, c1, c2⟩ := hc k hlt
      rw [← HBL.out.cell (by exact hb)] at c0 c1 c2
      have hbz : b < wr.heap.size := by have := HBL.out.size; omega
      obtain ⟨z1, z2, z3, z4⟩ := HZ.out k hlt
      have HII := hid ((HI.out k hlt).below HBL.out)
      have HRR := hid ((HR.out k hlt).below HBL.out)
      clear hc
      go_upto_region 5 with fail
      have HTB0 := hid (rowIs3 wr (.int .i64 (T k).mask) (.slice (T k).ia (T k).il (T k).ic) (.slice (T k).ra (T k).rl (T k).rc) 53)
      have HA := hid (bal (Below.refl _ wr) (.cells #[.int .i64 (T k).mask, .slice (T k).ia (T k).il (T k).ic, .slice (T k).ra (T k).rl (T k).rc] 53))
      have hz1 : (wr.alloc (.cells #[.int .i64 (T k).mask, .slice (T k).ia (T k).il (T k).ic, .slice (T k).ra (T k).rl (T k).rc] 53)).heap.size = wr.heap.size + 1 := by simp
      clear c0 c1 c2
      have HLT : Hid (∀ z, (Value.slice a' k c').ownBlock = some z → w.heap.size + 1 + 1 + 1 ≤ z ∧ z < wr.heap.size) := hid (fun z hz => HOW.out.1.lt z hz)
      have HBS : Hid (∀ z ∈ blocks S, z < wr.heap.size) := hid (fun z hz => (blocks_lt HOW.out.2.1 z hz).2)
      generalize htb : wr.heap.size = tb at HTB0 hz1 hobz hbz HLT HBS ⊢
      generalize wr.alloc (.cells #[.int .i64 (T k).mask, .slice (T k).ia (T k).il (T k).ic, .slice (T k).ra (T k).rl (T k).rc] 53) = W1 at HTB0 HA hz1 ⊢
      have HOW1 : Hid (Own W1 (w.heap.size + 1 + 1 + 1) (.slice a' k c') S) := hid (HOW.out.below HA.out)
      have HOB1 := hid (rowIs_below HOB.out HA.out)
      have HRB1 := hid (rowIs_below HRB.out HA.out)
      have HBL1 := hid (bcall HBL.out HA.out)
      have HI1 := hid (HII.out.below HA.out)
      have HR1 := hid (HRR.out.below HA.out)
      clear htb HOW HOB HRB HBL HA HII HRR
      have HSL : Hid (S.length = k) := hid (by have := congrArg List.length HSP.out; simpa [plainOf] using this)
      refine Rg.wp_region_inv (by kernel_rfl) (fun Lf a1 w1 => ∃ v16 v17 v18 v19 v20 v21 v22 v23 v24 v25 v26 v27 v28 v29 : Value, a1 = ⟨List.toArray ((.agg #[.slice (some ⟨b, off, none⟩) n cap, .int .i64 next] : Value) :: (.pointer (some ⟨w.heap.size, 0, none⟩) : Value) :: (.pointer (some ⟨w.heap.size + 1, 0, none⟩) : Value) :: (.pointer (some ⟨w.heap.size + 1 + 1, 0, none⟩) : Value) :: (undef : Value) :: (.pointer (some ⟨tb, 0, none⟩) : Value) :: (.pointer (some ⟨w.heap.size, 1, none⟩) : Value) :: (.int .i64 next : Value) :: (.agg #[.slice none 0 0, .int .i64 next] : Value) :: (.pointer (some ⟨w.heap.size, 0, none⟩) : Value) :: (.slice (some ⟨b, off, none⟩) n cap : Value) :: (.int .i64 n : Value) :: (.int .i64 k : Value) :: (.bool true : Value) :: (.pointer (some ⟨b, off + k * 3, none⟩) : Value) :: (.agg #[.int .i64 (T k).mask, .slice (T k).ia (T k).il (T k).ic, .slice (T k).ra (T k).rl (T k).rc] : Value) :: v16 :: v17 :: v18 :: v19 :: v20 :: v21 :: v22 :: v23 :: v24 :: v25 :: v26 :: v27 :: v28 :: v29 :: (u30 : Value) :: (undef : Value) :: []), []⟩ ∧ Hid (Lf 0 = true → v16 = .pointer (some ⟨w.heap.size + 1 + 1, 0, none⟩)) ∧ Hid (Lf 1 = true → v17 = .slice a' k c') ∧ Hid (Lf 2 = true → v18 = .pointer (some ⟨tb, 0, none⟩)) ∧ Hid (Lf 3 = true → v19 = .int .i64 (T k).mask) ∧ Hid (Lf 4 = true → v20 = .pointer (some ⟨tb, 1, none⟩)) ∧ Hid (Lf 5 = true → v21 = .slice (T k).ia (T k).il (T k).ic) ∧ Hid (Lf 7 = true → v23 = .pointer (some ⟨tb, 2, none⟩)) ∧ Hid (Lf 8 = true → v24 = .slice (T k).ra (T k).rl (T k).rc) ∧ Hid (Lf 13 = true → v29 = .pointer (some ⟨w.heap.size + 1 + 1, 0, none⟩)) ∧ Hid (Lf 12 = false → Below W1.heap.size W1 w1) ∧ Hid (Dn Lf) ∧ Hid (Lf 14 = true → ∀ j, j < 14 → Lf j = true) ∧ Hid (Lf 6 = true → Lf 12 = false → PI W1.heap.size (T k).il ((List.range (T k).il).map (I k)) w1 v22) ∧ Hid (Lf 9 = true → Lf 12 = false → PR W1.heap.size (T k).rl ((List.range (T k).rl).map (R k)) w1 v22 v25) ∧ Hid (Lf 10 = true → v26 = .agg #[.int .i64 (T k).mask, v22, v25]) ∧ Hid (Lf 11 = true → Lf 12 = false → ∃ g, v27 = .slice (some ⟨g, 0, none⟩) 1 1 ∧ w1.rowIs g 53 3 (fun i => if i = 0 then .int .i64 (T k).mask else if i = 1 then v22 else v25)) ∧ Hid (Lf 12 = true → Lf 14 = false → MidC w.heap.size w k S (tabOf T I R k) next (.slice a' k c') w1 v28) ∧ Hid (Lf 14 = true → ∃ W7 g7 cq7, MidC w.heap.size w k S (tabOf T I R k) next (.slice a' k c') W7 (.slice (some ⟨g7, 0, none⟩) (k + 1) cq7) ∧ w1 = W7.setCell ⟨w.heap.size + 1 + 1, 0, none⟩ (.slice (some ⟨g7, 0, none⟩) (k + 1) cq7))) (by kernel_rfl) ?rs ?rg ?re
      case rs =>
        refine ⟨_, _, _, _, _, _, _, _, _, _, _, _, _, _, rfl, St.hid (fun h => by cases h), St.hid (fun h => by cases h), St.hid (fun h => by cases h), St.hid (fun h => by cases h), St.hid (fun h => by cases h), St.hid (fun h => by cases h), St.hid (fun h => by cases h), St.hid (fun h => by cases h), St.hid (fun h => by cases h), St.hid (fun _ => Below.drew (Below.refl _ W1)), St.hid (fun p _ h => by cases h), St.hid (fun h => by cases h), St.hid (fun h => by cases h), St.hid (fun h => by cases h), St.hid (fun h => by cases h), St.hid (fun h => by cases h), St.hid (fun h => by cases h), St.hid (fun h => by cases h)⟩
      case rg =>
        intro Lf a1 w1 hI
        obtain ⟨v16, v17, v18, v19, v20, v21, v22, v23, v24, v25, v26, v27, v28, v29, rfl, c0, c1, c2, c3, c4, c5, c7, c8, c13, cB, cT, cR, c6, c9, c10, c11, c12, cF⟩ := hI
        refine ⟨fun hl hd K' hK => ?o0, fun hl hd K' hK => ?o1, fun hl hd K' hK => ?o2, fun hl hd K' hK => ?o3, fun hl hd K' hK => ?o4, fun hl hd K' hK => ?o5, fun hl hd K' hK => ?o6, fun hl hd K' hK => ?o7, fun hl hd K' hK => ?o8, fun hl hd K' hK => ?o9, fun hl hd K' hK => ?o10, fun hl hd K' hK => ?o11, fun hl hd K' hK => ?o12, fun hl hd K' hK => ?o13, fun hl hd K' hK => ?o14, trivial⟩
        case o0 =>
          clear hd
          have h12 := Dn.late cT.out (by decide : 0 ∈ [0, 1, 2, 3, 4, 5, 6, 7, 8, 9, 10, 11]) hl
          have h14 := Rg.late cR.out (by decide : 0 < 14) hl
          have hbel := cB.out h12
          go_simp
          refine hK.out _ _ ⟨_, _, _, _, _, _, _, _, _, _, _, _, _, _, rfl, St.hid (fun _ => rfl), St.hid (fun h => c1.out (Rg.up_ne h (by decide))), St.hid (fun h => c2.out (Rg.up_ne h (by decide))), St.hid (fun h => c3.out (Rg.up_ne h (by decide))), St.hid (fun h => c4.out (Rg.up_ne h (by decide))), St.hid (fun h => c5.out (Rg.up_ne h (by decide))), St.hid (fun h => c7.out (Rg.up_ne h (by decide))), St.hid (fun h => c8.out (Rg.up_ne h (by decide))), St.hid (fun h => c13.out (Rg.up_ne h (by decide))), St.hid (fun _ => hbel), St.hid (cT.out.up (fun p hp e => by simp [D] at hp; rcases hp with rfl | rfl | rfl | rfl | rfl | rfl | rfl | rfl | rfl | rfl | rfl | rfl | rfl | rfl <;> first | (exfalso; revert e; decide) | exact hd | exact hd.1 | exact hd.2 | exact hd.2.1 | exact hd.2.2 | exact hd.2.2.1)), St.hid (fun h => by have h0 := Rg.up_ne h (by decide); rw [h14] at h0; cases h0), St.hid (fun h _ => c6.out (Rg.up_ne h (by decide)) h12), St.hid (fun h _ => c9.out (Rg.up_ne h (by decide)) h12), St.hid (fun h => c10.out (Rg.up_ne h (by decide))), St.hid (fun h _ => c11.out (Rg.up_ne h (by decide)) h12), St.hid (fun h _ => by have h0 := Rg.up_ne h (by decide); rw [h12] at h0; cases h0), St.hid (fun h => by have h0 := Rg.up_ne h (by decide); rw [h14] at h0; cases h0)⟩
        case o1 =>
          simp [Rg.deps, Region.binds] at hd
          obtain rfl := c0.out hd
          have h12 := Dn.late cT.out (by decide : 1 ∈ [0, 1, 2, 3, 4, 5, 6, 7, 8, 9, 10, 11]) hl
          have h14 := Rg.late cR.out (by decide : 1 < 14) hl
          have hbel := cB.out h12
          have cob := (rowIs_below HOB1.out hbel).cell (i := 0) (by omega)
          simp only [if_true] at cob
          go_simp
          refine hK.out _ _ ⟨_, _, _, _, _, _, _, _, _, _, _, _, _, _, rfl, St.hid (fun h => c0.out (Rg.up_ne h (by decide))), St.hid (fun _ => rfl), St.hid (fun h => c2.out (Rg.up_ne h (by decide))), St.hid (fun h => c3.out (Rg.up_ne h (by decide))), St.hid (fun h => c4.out (Rg.up_ne h (by decide))), St.hid (fun h => c5.out (Rg.up_ne h (by decide))), St.hid (fun h => c7.out (Rg.up_ne h (by decide))), St.hid (fun h => c8.out (Rg.up_ne h (by decide))), St.hid (fun h => c13.out (Rg.up_ne h (by decide))), St.hid (fun _ => hbel), St.hid (cT.out.up (fun p hp e => by simp [D] at hp; rcases hp with rfl | rfl | rfl | rfl | rfl | rfl | rfl | rfl | rfl | rfl | rfl | rfl | rfl | rfl <;> first | (exfalso; revert e; decide) | exact hd | exact hd.1 | exact hd.2 | exact hd.2.1 | exact hd.2.2 | exact hd.2.2.1)), St.hid (fun h => by have h0 := Rg.up_ne h (by decide); rw [h14] at h0; cases h0), St.hid (fun h _ => c6.out (Rg.up_ne h (by decide)) h12), St.hid (fun h _ => c9.out (Rg.up_ne h (by decide)) h12), St.hid (fun h => c10.out (Rg.up_ne h (by decide))), St.hid (fun h _ => c11.out (Rg.up_ne h (by decide)) h12), St.hid (fun h _ => by have h0 := Rg.up_ne h (by decide); rw [h12] at h0; cases h0), St.hid (fun h => by have h0 := Rg.up_ne h (by decide); rw [h14] at h0; cases h0)⟩
        case o2 =>
          clear hd
          have h12 := Dn.late cT.out (by decide : 2 ∈ [0, 1, 2, 3, 4, 5, 6, 7, 8, 9, 10, 11]) hl
          have h14 := Rg.late cR.out (by decide : 2 < 14) hl
          have hbel := cB.out h12
          go_simp
          refine hK.out _ _ ⟨_, _, _, _, _, _, _, _, _, _, _, _, _, _, rfl, St.hid (fun h => c0.out (Rg.up_ne h (by decide))), St.hid (fun h => c1.out (Rg.up_ne h (by decide))), St.hid (fun _ => rfl), St.hid (fun h => c3.out (Rg.up_ne h (by decide))), St.hid (fun h => c4.out (Rg.up_ne h (by decide))), St.hid (fun h => c5.out (Rg.up_ne h (by decide))), St.hid (fun h => c7.out (Rg.up_ne h (by decide))), St.hid (fun h => c8.out (Rg.up_ne h (by decide))), St.hid (fun h => c13.out (Rg.up_ne h (by decide))), St.hid (fun _ => hbel), St.hid (cT.out.up (fun p hp e => by simp [D] at hp; rcases hp with rfl | rfl | rfl | rfl | rfl | rfl | rfl | rfl | rfl | rfl | rfl | rfl | rfl | rfl <;> first | (exfalso; revert e; decide) | exact hd | exact hd.1 | exact hd.2 | exact hd.2.1 | exact hd.2.2 | exact hd.2.2.1)), St.hid (fun h => by have h0 := Rg.up_ne h (by decide); rw [h14] at h0; cases h0), St.hid (fun h _ => c6.out (Rg.up_ne h (by decide)) h12), St.hid (fun h _ => c9.out (Rg.up_ne h (by decide)) h12), St.hid (fun h => c10.out (Rg.up_ne h (by decide))), St.hid (fun h _ => c11.out (Rg.up_ne h (by decide)) h12), St.hid (fun h _ => by have h0 := Rg.up_ne h (by decide); rw [h12] at h0; cases h0), St.hid (fun h => by have h0 := Rg.up_ne h (by decide); rw [h14] at h0; cases h0)⟩
        case o3 =>
          simp [Rg.deps, Region.binds] at hd
          obtain rfl := c2.out hd
          have h12 := Dn.late cT.out (by decide : 3 ∈ [0, 1, 2, 3, 4, 5, 6, 7, 8, 9, 10, 11]) hl
          have h14 := Rg.late cR.out (by decide : 3 < 14) hl
          have hbel := cB.out h12
          obtain ⟨t0, t1, t2⟩ := tcs (rowIs_below HTB0.out hbel)
          go_simp
          refine hK.out _ _ ⟨_, _, _, _, _, _, _, _, _, _, _, _, _, _, rfl, St.hid (fun h => c0.out (Rg.up_ne h (by decide))), St.hid (fun h => c1.out (Rg.up_ne h (by decide))), St.hid (fun h => c2.out (Rg.up_ne h (by decide))), St.hid (fun _ => rfl), St.hid (fun h => c4.out (Rg.up_ne h (by decide))), St.hid (fun h => c5.out (Rg.up_ne h (by decide))), St.hid (fun h => c7.out (Rg.up_ne h (by decide))), St.hid (fun h => c8.out (Rg.up_ne h (by decide))), St.hid (fun h => c13.out (Rg.up_ne h (by decide))), St.hid (fun _ => hbel), St.hid (cT.out.up (fun p hp e => by simp [D] at hp; rcases hp with rfl | rfl | rfl | rfl | rfl | rfl | rfl | rfl | rfl | rfl | rfl | rfl | rfl | rfl <;> first | (exfalso; revert e; decide) | exact hd | exact hd.1 | exact hd.2 | exact hd.2.1 | exact hd.2.2 | exact hd.2.2.1)), St.hid (fun h => by have h0 := Rg.up_ne h (by decide); rw [h14] at h0; cases h0), St.hid (fun h _ => c6.out (Rg.up_ne h (by decide)) h12), St.hid (fun h _ => c9.out (Rg.up_ne h (by decide)) h12), St.hid (fun h => c10.out (Rg.up_ne h (by decide))), St.hid (fun h _ => c11.out (Rg.up_ne h (by decide)) h12), St.hid (fun h _ => by have h0 := Rg.up_ne h (by decide); rw [h12] at h0; cases h0), St.hid (fun h => by have h0 := Rg.up_ne h (by decide); rw [h14] at h0; cases h0)⟩
        case o4 =>
          clear hd
          have h12 := Dn.late cT.out (by decide : 4 ∈ [0, 1, 2, 3, 4, 5, 6, 7, 8, 9, 10, 11]) hl
          have h14 := Rg.late cR.out (by decide : 4 < 14) hl
          have hbel := cB.out h12
          go_simp
          refine hK.out _ _ ⟨_, _, _, _, _, _, _, _, _, _, _, _, _, _, rfl, St.hid (fun h => c0.out (Rg.up_ne h (by decide))), St.hid (fun h => c1.out (Rg.up_ne h (by decide))), St.hid (fun h => c2.out (Rg.up_ne h (by decide))), St.hid (fun h => c3.out (Rg.up_ne h (by decide))), St.hid (fun _ => rfl), St.hid (fun h => c5.out (Rg.up_ne h (by decide))), St.hid (fun h => c7.out (Rg.up_ne h (by decide))), St.hid (fun h => c8.out (Rg.up_ne h (by decide))), St.hid (fun h => c13.out (Rg.up_ne h (by decide))), St.hid (fun _ => hbel), St.hid (cT.out.up (fun p hp e => by simp [D] at hp; rcases hp with rfl | rfl | rfl | rfl | rfl | rfl | rfl | rfl | rfl | rfl | rfl | rfl | rfl | rfl <;> first | (exfalso; revert e; decide) | exact hd | exact hd.1 | exact hd.2 | exact hd.2.1 | exact hd.2.2 | exact hd.2.2.1)), St.hid (fun h => by have h0 := Rg.up_ne h (by decide); rw [h14] at h0; cases h0), St.hid (fun h _ => c6.out (Rg.up_ne h (by decide)) h12), St.hid (fun h _ => c9.out (Rg.up_ne h (by decide)) h12), St.hid (fun h => c10.out (Rg.up_ne h (by decide))), St.hid (fun h _ => c11.out (Rg.up_ne h (by decide)) h12), St.hid (fun h _ => by have h0 := Rg.up_ne h (by decide); rw [h12] at h0; cases h0), St.hid (fun h => by have h0 := Rg.up_ne h (by decide); rw [h14] at h0; cases h0)⟩
        case o5 =>
          simp [Rg.deps, Region.binds] at hd
          obtain rfl := c4.out hd
          have h12 := Dn.late cT.out (by decide : 5 ∈ [0, 1, 2, 3, 4, 5, 6, 7, 8, 9, 10, 11]) hl
          have h14 := Rg.late cR.out (by decide : 5 < 14) hl
          have hbel := cB.out h12
          obtain ⟨t0, t1, t2⟩ := tcs (rowIs_below HTB0.out hbel)
          go_simp
          refine hK.out _ _ ⟨_, _, _, _, _, _, _, _, _, _, _, _, _, _, rfl, St.hid (fun h => c0.out (Rg.up_ne h (by decide))), St.hid (fun h => c1.out (Rg.up_ne h (by decide))), St.hid (fun h => c2.out (Rg.up_ne h (by decide))), St.hid (fun h => c3.out (Rg.up_ne h (by decide))), St.hid (fun h => c4.out (Rg.up_ne h (by decide))), St.hid (fun _ => rfl), St.hid (fun h => c7.out (Rg.up_ne h (by decide))), St.hid (fun h => c8.out (Rg.up_ne h (by decide))), St.hid (fun h => c13.out (Rg.up_ne h (by decide))), St.hid (fun _ => hbel), St.hid (cT.out.up (fun p hp e => by simp [D] at hp; rcases hp with rfl | rfl | rfl | rfl | rfl | rfl | rfl | rfl | rfl | rfl | rfl | rfl | rfl | rfl <;> first | (exfalso; revert e; decide) | exact hd | exact hd.1 | exact hd.2 | exact hd.2.1 | exact hd.2.2 | exact hd.2.2.1)), St.hid (fun h => by have h0 := Rg.up_ne h (by decide); rw [h14] at h0; cases h0), St.hid (fun h _ => c6.out (Rg.up_ne h (by decide)) h12), St.hid (fun h _ => c9.out (Rg.up_ne h (by decide)) h12), St.hid (fun h => c10.out (Rg.up_ne h (by decide))), St.hid (fun h _ => c11.out (Rg.up_ne h (by decide)) h12), St.hid (fun h _ => by have h0 := Rg.up_ne h (by decide); rw [h12] at h0; cases h0), St.hid (fun h => by have h0 := Rg.up_ne h (by decide); rw [h14] at h0; cases h0)⟩
        case o6 =>
          simp [Rg.deps, Region.binds] at hd
          obtain rfl := c5.out hd
          have h12 := Dn.late cT.out (by decide : 6 ∈ [0, 1, 2, 3, 4, 5, 6, 7, 8, 9, 10, 11]) hl
          have h14 := Rg.late cR.out (by decide : 6 < 14) hl
          have hbel := cB.out h12
          refine Ap.step_copy (w := w1) rfl _ _ 50 3 i3 (.int .i64 0) 1 8 Tryz.underlying50 hi3 hz3 hs3 hb3 rfl (by decide) rfl rfl (T k).ia (T k).il (T k).ic (((List.range (T k).il).map (I k)).map (Value.int .i64)) rfl (ids_src (HI1.out.below hbel)) (by simp) (ints_one _) (by unfold maxLen; omega) (by omega) ?_
          intro ai ci w2 ho hg
          have hb := below_n (Below.refl _ w1) hg
          refine hK.out _ _ ⟨_, _, _, _, _, _, _, _, _, _, _, _, _, _, rfl, St.hid (fun h => c0.out (Rg.up_ne h (by decide))), St.hid (fun h => c1.out (Rg.up_ne h (by decide))), St.hid (fun h => c2.out (Rg.up_ne h (by decide))), St.hid (fun h => c3.out (Rg.up_ne h (by decide))), St.hid (fun h => c4.out (Rg.up_ne h (by decide))), St.hid (fun h => c5.out (Rg.up_ne h (by decide))), St.hid (fun h => c7.out (Rg.up_ne h (by decide))), St.hid (fun h => c8.out (Rg.up_ne h (by decide))), St.hid (fun h => c13.out (Rg.up_ne h (by decide))), St.hid (fun _ => bcall hbel hb), St.hid (cT.out.up (fun p hp e => by simp [D] at hp; rcases hp with rfl | rfl | rfl | rfl | rfl | rfl | rfl | rfl | rfl | rfl | rfl | rfl | rfl | rfl <;> first | (exfalso; revert e; decide) | exact hd | exact hd.1 | exact hd.2 | exact hd.2.1 | exact hd.2.2 | exact hd.2.2.1)), St.hid (fun h => by have h0 := Rg.up_ne h (by decide); rw [h14] at h0; cases h0), St.hid (fun _ _ => ⟨ai, ci, rfl, Joins.ownsRow_le ho hbel.size⟩), St.hid (fun h _ => by have h0 := Rg.up_ne h (by decide); have h1 := cT.out (9, 6) (by simp [D]) h0; rw [hl] at h1; cases h1), St.hid (fun h => by have h0 := Rg.up_ne h (by decide); have h1 := cT.out (10, 6) (by simp [D]) h0; rw [hl] at h1; cases h1), St.hid (fun h _ => by have h0 := Rg.up_ne h (by decide); have h1 := cT.out (11, 10) (by simp [D]) h0; have h2 := cT.out (10, 6) (by simp [D]) h1; rw [hl] at h2; cases h2), St.hid (fun h _ => by have h0 := Rg.up_ne h (by decide); rw [h12] at h0; cases h0), St.hid (fun h => by have h0 := Rg.up_ne h (by decide); rw [h14] at h0; cases h0)⟩
        case o7 =>
          clear hd
          have h12 := Dn.late cT.out (by decide : 7 ∈ [0, 1, 2, 3, 4, 5, 6, 7, 8, 9, 10, 11]) hl
          have h14 := Rg.late cR.out (by decide : 7 < 14) hl
          have hbel := cB.out h12
          go_simp
          refine hK.out _ _ ⟨_, _, _, _, _, _, _, _, _, _, _, _, _, _, rfl, St.hid (fun h => c0.out (Rg.up_ne h (by decide))), St.hid (fun h => c1.out (Rg.up_ne h (by decide))), St.hid (fun h => c2.out (Rg.up_ne h (by decide))), St.hid (fun h => c3.out (Rg.up_ne h (by decide))), St.hid (fun h => c4.out (Rg.up_ne h (by decide))), St.hid (fun h => c5.out (Rg.up_ne h (by decide))), St.hid (fun _ => rfl), St.hid (fun h => c8.out (Rg.up_ne h (by decide))), St.hid (fun h => c13.out (Rg.up_ne h (by decide))), St.hid (fun _ => hbel), St.hid (cT.out.up (fun p hp e => by simp [D] at hp; rcases hp with rfl | rfl | rfl | rfl | rfl | rfl | rfl | rfl | rfl | rfl | rfl | rfl | rfl | rfl <;> first | (exfalso; revert e; decide) | exact hd | exact hd.1 | exact hd.2 | exact hd.2.1 | exact hd.2.2 | exact hd.2.2.1)), St.hid (fun h => by have h0 := Rg.up_ne h (by decide); rw [h14] at h0; cases h0), St.hid (fun h _ => c6.out (Rg.up_ne h (by decide)) h12), St.hid (fun h _ => c9.out (Rg.up_ne h (by decide)) h12), St.hid (fun h => c10.out (Rg.up_ne h (by decide))), St.hid (fun h _ => c11.out (Rg.up_ne h (by decide)) h12), St.hid (fun h _ => by have h0 := Rg.up_ne h (by decide); rw [h12] at h0; cases h0), St.hid (fun h => by have h0 := Rg.up_ne h (by decide); rw [h14] at h0; cases h0)⟩
        case o8 =>
          simp [Rg.deps, Region.binds] at hd
          obtain rfl := c7.out hd
          have h12 := Dn.late cT.out (by decide : 8 ∈ [0, 1, 2, 3, 4, 5, 6, 7, 8, 9, 10, 11]) hl
          have h14 := Rg.late cR.out (by decide : 8 < 14) hl
          have hbel := cB.out h12
          obtain ⟨t0, t1, t2⟩ := tcs (rowIs_below HTB0.out hbel)
          go_simp
          refine hK.out _ _ ⟨_, _, _, _, _, _, _, _, _, _, _, _, _, _, rfl, St.hid (fun h => c0.out (Rg.up_ne h (by decide))), St.hid (fun h => c1.out (Rg.up_ne h (by decide))), St.hid (fun h => c2.out (Rg.up_ne h (by decide))), St.hid (fun h => c3.out (Rg.up_ne h (by decide))), St.hid (fun h => c4.out (Rg.up_ne h (by decide))), St.hid (fun h => c5.out (Rg.up_ne h (by decide))), St.hid (fun h => c7.out (Rg.up_ne h (by decide))), St.hid (fun _ => rfl), St.hid (fun h => c13.out (Rg.up_ne h (by decide))), St.hid (fun _ => hbel), St.hid (cT.out.up (fun p hp e => by simp [D] at hp; rcases hp with rfl | rfl | rfl | rfl | rfl | rfl | rfl | rfl | rfl | rfl | rfl | rfl | rfl | rfl <;> first | (exfalso; revert e; decide) | exact hd | exact hd.1 | exact hd.2 | exact hd.2.1 | exact hd.2.2 | exact hd.2.2.1)), St.hid (fun h => by have h0 := Rg.up_ne h (by decide); rw [h14] at h0; cases h0), St.hid (fun h _ => c6.out (Rg.up_ne h (by decide)) h12), St.hid (fun h _ => c9.out (Rg.up_ne h (by decide)) h12), St.hid (fun h => c10.out (Rg.up_ne h (by decide))), St.hid (fun h _ => c11.out (Rg.up_ne h (by decide)) h12), St.hid (fun h _ => by have h0 := Rg.up_ne h (by decide); rw [h12] at h0; cases h0), St.hid (fun h => by have h0 := Rg.up_ne h (by decide); rw [h14] at h0; cases h0)⟩
        case o9 =>
          simp [Rg.deps, Region.binds] at hd
          obtain rfl := c8.out hd.1
          have h12 := Dn.late cT.out (by decide : 9 ∈ [0, 1, 2, 3, 4, 5, 6, 7, 8, 9, 10, 11]) hl
          have h14 := Rg.late cR.out (by decide : 9 < 14) hl
          have hbel := cB.out h12
          have hp6 := c6.out hd.2 h12
          refine Ap.step_copy (w := w1) rfl _ _ 51 56 i30 (.agg #[.int .i64 0, .int .i64 0, .int .i64 0, .int .i64 0, .int .i64 0, .int .i64 0, .int .i64 0, .int .i64 0]) 8 64 Tryz.underlying51 hi30 hz30 hs30 hb30 rfl (by decide) rfl rfl (T k).ra (T k).rl (T k).rc (((List.range (T k).rl).map (R k)).flatMap rowCells) rfl (rows_src (HR1.out.below hbel)) (by rw [rows_len]; simp) (rows_one _) (by unfold maxLen; omega) (by omega) ?_
          intro ar cr w2 ho hg
          have hb := below_n (Below.refl _ w1) hg
          refine hK.out _ _ ⟨_, _, _, _, _, _, _, _, _, _, _, _, _, _, rfl, St.hid (fun h => c0.out (Rg.up_ne h (by decide))), St.hid (fun h => c1.out (Rg.up_ne h (by decide))), St.hid (fun h => c2.out (Rg.up_ne h (by decide))), St.hid (fun h => c3.out (Rg.up_ne h (by decide))), St.hid (fun h => c4.out (Rg.up_ne h (by decide))), St.hid (fun h => c5.out (Rg.up_ne h (by decide))), St.hid (fun h => c7.out (Rg.up_ne h (by decide))), St.hid (fun h => c8.out (Rg.up_ne h (by decide))), St.hid (fun h => c13.out (Rg.up_ne h (by decide))), St.hid (fun _ => bcall hbel hb), St.hid (cT.out.up (fun p hp e => by simp [D] at hp; rcases hp with rfl | rfl | rfl | rfl | rfl | rfl | rfl | rfl | rfl | rfl | rfl | rfl | rfl | rfl <;> first | (exfalso; revert e; decide) | exact hd | exact hd.1 | exact hd.2 | exact hd.2.1 | exact hd.2.2 | exact hd.2.2.1)), St.hid (fun h => by have h0 := Rg.up_ne h (by decide); rw [h14] at h0; cases h0), St.hid (fun h _ => (c6.out (Rg.up_ne h (by decide)) h12).below hb), St.hid (fun _ _ => ⟨ar, cr, rfl, Joins.ownsRow_le ho hbel.size, fun z hz e => by have h1 := hp6.lt hz; have h2 := (ho.lt z e).1; omega⟩), St.hid (fun h => by have h0 := Rg.up_ne h (by decide); have h1 := cT.out (10, 9) (by simp [D]) h0; rw [hl] at h1; cases h1), St.hid (fun h _ => by have h0 := Rg.up_ne h (by decide); have h1 := cT.out (11, 10) (by simp [D]) h0; have h2 := cT.out (10, 9) (by simp [D]) h1; rw [hl] at h2; cases h2), St.hid (fun h _ => by have h0 := Rg.up_ne h (by decide); rw [h12] at h0; cases h0), St.hid (fun h => by have h0 := Rg.up_ne h (by decide); rw [h14] at h0; cases h0)⟩
        case o10 =>
          simp [Rg.deps, Region.binds] at hd
          obtain rfl := c3.out hd.1
          have h12 := Dn.late cT.out (by decide : 10 ∈ [0, 1, 2, 3, 4, 5, 6, 7, 8, 9, 10, 11]) hl
          have h14 := Rg.late cR.out (by decide : 10 < 14) hl
          have hbel := cB.out h12
          obtain ⟨ai, ci, rfl, h6⟩ := c6.out hd.2.1 h12
          obtain ⟨ar, cr, rfl, h9, hap⟩ := c9.out hd.2.2 h12
          go_simp
          refine hK.out _ _ ⟨_, _, _, _, _, _, _, _, _, _, _, _, _, _, rfl, St.hid (fun h => c0.out (Rg.up_ne h (by decide))), St.hid (fun h => c1.out (Rg.up_ne h (by decide))), St.hid (fun h => c2.out (Rg.up_ne h (by decide))), St.hid (fun h => c3.out (Rg.up_ne h (by decide))), St.hid (fun h => c4.out (Rg.up_ne h (by decide))), St.hid (fun h => c5.out (Rg.up_ne h (by decide))), St.hid (fun h => c7.out (Rg.up_ne h (by decide))), St.hid (fun h => c8.out (Rg.up_ne h (by decide))), St.hid (fun h => c13.out (Rg.up_ne h (by decide))), St.hid (fun _ => hbel), St.hid (cT.out.up (fun p hp e => by simp [D] at hp; rcases hp with rfl | rfl | rfl | rfl | rfl | rfl | rfl | rfl | rfl | rfl | rfl | rfl | rfl | rfl <;> first | (exfalso; revert e; decide) | exact hd | exact hd.1 | exact hd.2 | exact hd.2.1 | exact hd.2.2 | exact hd.2.2.1)), St.hid (fun h => by have h0 := Rg.up_ne h (by decide); rw [h14] at h0; cases h0), St.hid (fun _ _ => ⟨ai, ci, rfl, h6⟩), St.hid (fun _ _ => ⟨ar, cr, rfl, h9, hap⟩), St.hid (fun _ => rfl), St.hid (fun h _ => by have h0 := Rg.up_ne h (by decide); have h1 := cT.out (11, 10) (by simp [D]) h0; rw [hl] at h1; cases h1), St.hid (fun h _ => by have h0 := Rg.up_ne h (by decide); rw [h12] at h0; cases h0), St.hid (fun h => by have h0 := Rg.up_ne h (by decide); rw [h14] at h0; cases h0)⟩
        case o11 =>
          simp [Rg.deps, Region.binds] at hd
          have h12 := Dn.late cT.out (by decide : 11 ∈ [0, 1, 2, 3, 4, 5, 6, 7, 8, 9, 10, 11]) hl
          have h14 := Rg.late cR.out (by decide : 11 < 14) hl
          have hbel := cB.out h12
          have q9 := cT.out (10, 9) (by simp [D]) hd
          have q6 := cT.out (10, 6) (by simp [D]) hd
          obtain rfl := c10.out hd
          obtain ⟨ai, ci, rfl, h6⟩ := c6.out q6 h12
          obtain ⟨ar, cr, rfl, h9, hap⟩ := c9.out q9 h12
          go_simp
          have hb := bal (Below.refl _ w1) (.cells #[.int .i64 (T k).mask, .slice ai (T k).il ci, .slice ar (T k).rl cr] 53)
          refine hK.out _ _ ⟨_, _, _, _, _, _, _, _, _, _, _, _, _, _, rfl, St.hid (fun h => c0.out (Rg.up_ne h (by decide))), St.hid (fun h => c1.out (Rg.up_ne h (by decide))), St.hid (fun h => c2.out (Rg.up_ne h (by decide))), St.hid (fun h => c3.out (Rg.up_ne h (by decide))), St.hid (fun h => c4.out (Rg.up_ne h (by decide))), St.hid (fun h => c5.out (Rg.up_ne h (by decide))), St.hid (fun h => c7.out (Rg.up_ne h (by decide))), St.hid (fun h => c8.out (Rg.up_ne h (by decide))), St.hid (fun h => c13.out (Rg.up_ne h (by decide))), St.hid (fun _ => bcall hbel hb), St.hid (cT.out.up (fun p hp e => by simp [D] at hp; rcases hp with rfl | rfl | rfl | rfl | rfl | rfl | rfl | rfl | rfl | rfl | rfl | rfl | rfl | rfl <;> first | (exfalso; revert e; decide) | exact hd | exact hd.1 | exact hd.2 | exact hd.2.1 | exact hd.2.2 | exact hd.2.2.1)), St.hid (fun h => by have h0 := Rg.up_ne h (by decide); rw [h14] at h0; cases h0), St.hid (fun _ _ => ⟨ai, ci, rfl, owns_below h6 hb⟩), St.hid (fun _ _ => ⟨ar, cr, rfl, owns_below h9 hb, hap⟩), St.hid (fun _ => rfl), St.hid (fun _ _ => ⟨_, rfl, rowIs3 w1 _ _ _ 53⟩), St.hid (fun h _ => by have h0 := Rg.up_ne h (by decide); rw [h12] at h0; cases h0), St.hid (fun h => by have h0 := Rg.up_ne h (by decide); rw [h14] at h0; cases h0)⟩
        case o12 =>
          simp [Rg.deps, Region.binds] at hd
          have h14 := Rg.late cR.out (by decide : 12 < 14) hl
          obtain rfl := c1.out hd.1
          have hbel := cB.out hl
          have q10 := cT.out (11, 10) (by simp [D]) hd.2.1
          have q9 := cT.out (10, 9) (by simp [D]) q10
          have q6 := cT.out (10, 6) (by simp [D]) q10
          have h6 := c6.out q6 hl
          have h9 := c9.out q9 hl
          obtain ⟨g, rfl, hrow⟩ := c11.out hd.2.1 hl
          obtain ⟨ai, ci, rfl, h6⟩ := h6
          obtain ⟨ar, cr, rfl, h9, hap⟩ := h9
          have hgw := hrow.lt
          refine Ap.step_app (w := w1) rfl _ _ 22 rfl (w.heap.size + 1 + 1 + 1) 53 i66 (.agg #[.int .i64 0, .slice none 0 0, .slice none 0 0]) 3 56 Tryz.underlying22 hi66 hz66 hs66 hb66 rfl (by decide) (.slice a' k c') k (tabCells S) rfl (by have h := owns_below HOW1.out.1 hbel; rw [HSL.out] at h; exact h) ⟨g, 0, none⟩ 1 1 [.int .i64 (T k).mask, .slice ai (T k).il ci, .slice ar (T k).rl cr] rfl rfl (src3r hrow) (by intro u hu; simp at hu; rcases hu with rfl | rfl | rfl <;> rfl) (by unfold maxLen; omega) (by omega) (by have := hbel.size; omega) (by decide) ?_
          intro g7 cq7 w2 ho hg hat
          have hmid := mid_mk (tm := (T k).mask) HOW1.out HSL.out HLT.out HBS.out hz1 hbel h6 h9 hap ho hg hat HOB1.out HRB1.out HBL1.out
          refine hK.out _ _ ⟨_, _, _, _, _, _, _, _, _, _, _, _, _, _, rfl, St.hid (fun h => c0.out (Rg.up_ne h (by decide))), St.hid (fun h => c1.out (Rg.up_ne h (by decide))), St.hid (fun h => c2.out (Rg.up_ne h (by decide))), St.hid (fun h => c3.out (Rg.up_ne h (by decide))), St.hid (fun h => c4.out (Rg.up_ne h (by decide))), St.hid (fun h => c5.out (Rg.up_ne h (by decide))), St.hid (fun h => c7.out (Rg.up_ne h (by decide))), St.hid (fun h => c8.out (Rg.up_ne h (by decide))), St.hid (fun h => c13.out (Rg.up_ne h (by decide))), St.hid (fun h => by simp [Rg.up] at h), St.hid (cT.out.up (fun p hp e => by simp [D] at hp; rcases hp with rfl | rfl | rfl | rfl | rfl | rfl | rfl | rfl | rfl | rfl | rfl | rfl | rfl | rfl <;> first | (exfalso; revert e; decide) | exact hd | exact hd.1 | exact hd.2 | exact hd.2.1 | exact hd.2.2 | exact hd.2.2.1)), St.hid (fun h => by have h0 := Rg.up_ne h (by decide); rw [h14] at h0; cases h0), St.hid (fun _ h => by simp [Rg.up] at h), St.hid (fun _ h => by simp [Rg.up] at h), St.hid (fun h => c10.out (Rg.up_ne h (by decide))), St.hid (fun _ h => by simp [Rg.up] at h), St.hid (fun _ _ => hmid), St.hid (fun h => by have h0 := Rg.up_ne h (by decide); rw [h14] at h0; cases h0)⟩
        case o13 =>
          clear hd
          have h14 := Rg.late cR.out (by decide : 13 < 14) hl
          go_simp
          refine hK.out _ _ ⟨_, _, _, _, _, _, _, _, _, _, _, _, _, _, rfl, St.hid (fun h => c0.out (Rg.up_ne h (by decide))), St.hid (fun h => c1.out (Rg.up_ne h (by decide))), St.hid (fun h => c2.out (Rg.up_ne h (by decide))), St.hid (fun h => c3.out (Rg.up_ne h (by decide))), St.hid (fun h => c4.out (Rg.up_ne h (by decide))), St.hid (fun h => c5.out (Rg.up_ne h (by decide))), St.hid (fun h => c7.out (Rg.up_ne h (by decide))), St.hid (fun h => c8.out (Rg.up_ne h (by decide))), St.hid (fun _ => rfl), St.hid (fun h => cB.out (Rg.up_f h)), St.hid (cT.out.up (fun p hp e => by simp [D] at hp; rcases hp with rfl | rfl | rfl | rfl | rfl | rfl | rfl | rfl | rfl | rfl | rfl | rfl | rfl | rfl <;> first | (exfalso; revert e; decide) | exact hd | exact hd.1 | exact hd.2 | exact hd.2.1 | exact hd.2.2 | exact hd.2.2.1)), St.hid (fun h => by have h0 := Rg.up_ne h (by decide); rw [h14] at h0; cases h0), St.hid (fun h h2 => c6.out (Rg.up_ne h (by decide)) (Rg.up_f h2)), St.hid (fun h h2 => c9.out (Rg.up_ne h (by decide)) (Rg.up_f h2)), St.hid (fun h => c10.out (Rg.up_ne h (by decide))), St.hid (fun h h2 => c11.out (Rg.up_ne h (by decide)) (Rg.up_f h2)), St.hid (fun h h2 => c12.out (Rg.up_ne h (by decide)) (Rg.up_f h2)), St.hid (fun h => by have h0 := Rg.up_ne h (by decide); rw [h14] at h0; cases h0)⟩
        case o14 =>
          simp [Rg.deps, Region.binds] at hd
          have hall14 : ∀ j, j < 14 → Rg.up Lf 14 j = true := fun j hj => Rg.up_of (by have hj : j = 0 ∨ j = 1 ∨ j = 2 ∨ j = 3 ∨ j = 4 ∨ j = 5 ∨ j = 6 ∨ j = 7 ∨ j = 8 ∨ j = 9 ∨ j = 10 ∨ j = 11 ∨ j = 12 ∨ j = 13 := (by omega); rcases hj with rfl | rfl | rfl | rfl | rfl | rfl | rfl | rfl | rfl | rfl | rfl | rfl | rfl | rfl <;> simp only [hd])
          obtain rfl := c13.out hd.1
          obtain ⟨g7, cq7, rfl, ho8, hob8, hrb8, hbl8⟩ := c12.out hd.2.1 hl
          have cob := hob8.cell (i := 0) (by omega)
          have fob := hob8.frozen 0
          go_simp
          refine hK.out _ _ ⟨_, _, _, _, _, _, _, _, _, _, _, _, _, _, rfl, St.hid (fun h => c0.out (Rg.up_ne h (by decide))), St.hid (fun h => c1.out (Rg.up_ne h (by decide))), St.hid (fun h => c2.out (Rg.up_ne h (by decide))), St.hid (fun h => c3.out (Rg.up_ne h (by decide))), St.hid (fun h => c4.out (Rg.up_ne h (by decide))), St.hid (fun h => c5.out (Rg.up_ne h (by decide))), St.hid (fun h => c7.out (Rg.up_ne h (by decide))), St.hid (fun h => c8.out (Rg.up_ne h (by decide))), St.hid (fun h => c13.out (Rg.up_ne h (by decide))), St.hid (fun h => by have h0 := Rg.up_f h; simp [h0] at hd), St.hid (cT.out.up (fun p hp e => by simp [D] at hp; rcases hp with rfl | rfl | rfl | rfl | rfl | rfl | rfl | rfl | rfl | rfl | rfl | rfl | rfl | rfl <;> first | (exfalso; revert e; decide) | exact hd | exact hd.1 | exact hd.2 | exact hd.2.1 | exact hd.2.2 | exact hd.2.2.1)), St.hid (fun _ j hj => hall14 j hj), St.hid (fun _ h => by have h0 := Rg.up_f h; simp [h0] at hd), St.hid (fun _ h => by have h0 := Rg.up_f h; simp [h0] at hd), St.hid (fun h => c10.out (Rg.up_ne h (by decide))), St.hid (fun _ h => by have h0 := Rg.up_f h; simp [h0] at hd), St.hid (fun _ h => by simp [Rg.up] at h), St.hid (fun _ => ⟨_, g7, cq7, ⟨g7, cq7, rfl, ho8, hob8, hrb8, hbl8⟩, rfl⟩)⟩
      case re =>
        intro Lf a1 w1 hI hall
        obtain ⟨v16, v17, v18, v19, v20, v21, v22, v23, v24, v25, v26, v27, v28, v29, rfl, c0, c1, c2, c3, c4, c5, c7, c8, c13, cB, cT, cR, c6, c9, c10, c11, c12, cF⟩ := hI
        obtain ⟨W7, g7, cq7, hM, rfl⟩ := cF.out (hall 14 (by decide))
        obtain ⟨HF, HOB8, HRB8, HBL8⟩ := mid_end hM
        generalize W7.setCell ⟨w.heap.size + 1 + 1, 0, none⟩ (.slice (some ⟨g7, 0, none⟩) (k + 1) cq7) = W8 at HF HOB8 HRB8 HBL8 ⊢
        obtain ⟨o, hot, HF⟩ := HF
        go_wp2_with fail
        refine ⟨⟨k + 1, _, _, _, by omega, by go_num, hid HF, hid ?_, hid HOB8, hid HRB8, hid HBL8⟩, by simp [intOf]; omega⟩
        rw [List.map_append, HSP.out, plain_succ]
        simp [hot]
    · have hke : k = n := by omega
      subst hke
      have p0 := HOB.out.cell (i := 0) (by omega)
      have p1 := HOB.out.cell (i := 1) (by omega)
      have q0 := HRB.out.cell (i := 0) (by omega)
      have q1 := HRB.out.cell (i := 1) (by omega)
      have f0 := HRB.out.frozen 0
      have f1 := HRB.out.frozen 1
      have hrl := HRB.out.lt
      simp only [if_true, Nat.one_ne_zero, if_false] at p0 p1 q0 q1
      have hr2 := (HRB.out.set 0 (.slice a' k c')).set 1 (.int .i64 next)
      have r0 := hr2.cell (i := 0) (by omega)
      have r1 := hr2.cell (i := 1) (by omega)
      simp only [if_true, Nat.one_ne_zero, Nat.zero_ne_one, if_false] at r0 r1
      go_wp2_with fail
      refine bodyPost_ret (v := .agg #[.slice a' k c', .int .i64 next]) (by simp [results, Tryz.results11, go_sem, r0, r1]) rfl ⟨⟨a', c', rfl, S, ?_, HSP.out⟩, ?_⟩
      · have h := (HOW.out.set (b := w.heap.size + 1) (by omega) 0 (.slice a' k c')).set (b := w.heap.size + 1) (by omega) 1 (.int .i64 next)
        exact own_le h (by omega)
      · exact Below.setCell (Below.setCell HBL.out (by show w.heap.size ≤ w.heap.size + 1; omega) _) (by show w.heap.size ≤ w.heap.size + 1; omega) _
end Go.Proofs.YtckkkdldljhehabGreat.Cp
