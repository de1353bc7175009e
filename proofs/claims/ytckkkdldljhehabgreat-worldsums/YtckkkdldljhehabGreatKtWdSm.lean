/- A world's step as plain tables, where nothing falls and nothing is fixed or near an edge: all pushes together stay what they are. Plain lists, no program. -/
import Derived.Test.YtckkkdldljhehabGreatPkG
import Derived.Test.YtckkkdldljhehabGreatPkA
namespace Go.Proofs.YtckkkdldljhehabGreat.Wd
open Go.Proofs.YtckkkdldljhehabGreat.Num Go.Proofs.YtckkkdldljhehabGreat.St

def sumOver (f : Int → Int) (l : List Int) : Int := (l.map f).sum
theorem sum_cons (f : Int → Int) (x : Int) (l : List Int) : sumOver f (x :: l) = f x + sumOver f l := by simp [sumOver]
theorem sum_congr {f f' : Int → Int} {l : List Int} (h : ∀ v ∈ l, f v = f' v) : sumOver f l = sumOver f' l := by
  unfold sumOver
  rw [List.map_congr_left h]
theorem sum_upd {l : List Int} (hn : l.Nodup) {a : Int} (ha : a ∈ l) (f : Int → Int) (y : Int) : sumOver (fun v => if v = a then y else f v) l = sumOver f l - f a + y := by
  induction l with
  | nil => cases ha
  | cons x l ih =>
    have hx := List.nodup_cons.1 hn
    rw [sum_cons, sum_cons]
    by_cases e : x = a
    · subst e
      have : sumOver (fun v => if v = x then y else f v) l = sumOver f l := sum_congr (fun v hv => if_neg (fun e : v = x => hx.1 (by rw [← e]; exact hv)))
      rw [this]
      simp
      omega
    · rw [ih hx.2 ((List.mem_cons.1 ha).resolve_left (Ne.symm e))]
      simp [e]
      omega
theorem sum_le {f : Int → Int} {l : List Int} {k : Int} (h : ∀ v ∈ l, f v ≤ k) : sumOver f l ≤ k * l.length := by
  induction l with
  | nil => simp [sumOver]
  | cons x l ih =>
    have h1 := h x (List.mem_cons_self ..)
    have h2 := ih (fun v hv => h v (List.mem_cons_of_mem _ hv))
    have e : k * ((x :: l).length : Int) = k * (l.length : Int) + k := by simp [Int.mul_add]
    rw [sum_cons, e]
    omega
theorem sum_nonneg {f : Int → Int} {l : List Int} (h : ∀ v ∈ l, 0 ≤ f v) : 0 ≤ sumOver f l := by
  induction l with
  | nil => simp [sumOver]
  | cons x l ih =>
    have h1 := h x (List.mem_cons_self ..)
    have h2 := ih (fun v hv => h v (List.mem_cons_of_mem _ hv))
    rw [sum_cons]
    omega
theorem le_sum {f : Int → Int} {l : List Int} (h : ∀ v ∈ l, 0 ≤ f v) {a : Int} (ha : a ∈ l) : f a ≤ sumOver f l := by
  induction l with
  | nil => cases ha
  | cons x l ih =>
    have h1 := h x (List.mem_cons_self ..)
    have h2 := sum_nonneg (fun v hv => h v (List.mem_cons_of_mem x hv))
    rw [sum_cons]
    rcases List.mem_cons.1 ha with rfl | ha
    · omega
    · have := ih (fun v hv => h v (List.mem_cons_of_mem _ hv)) ha
      omega
theorem sum_upd2 {l : List Int} (hn : l.Nodup) {a b : Int} (ha : a ∈ l) (hb : b ∈ l) (hne : a ≠ b) (F : R8 → Int) (g : Int → R8) (x y : R8) :
    sumOver (fun v => F (upd (upd g a x) b y v)) l = sumOver (fun v => F (g v)) l - F (g a) - F (g b) + F x + F y := by
  have e1 : (fun v => F (upd (upd g a x) b y v)) = fun v => if v = b then F y else (fun u => if u = a then F x else F (g u)) v := by
    funext v
    unfold upd
    by_cases h1 : v = b
    · simp [h1]
    · by_cases h2 : v = a
      · simp [h2, hne]
      · simp [h1, h2]
  rw [e1, sum_upd hn hb, sum_upd hn ha]
  simp only [if_neg (Ne.symm hne)]
  omega
def enX (r : R8) : Int := cOf r.ms * (r.px * r.px)
def enY (r : R8) : Int := cOf r.ms * (r.py * r.py)
/-- All pushes far from the bounds, all places far from the edges, by so much for each meeting that is still to come. -/
structure CalmW (M : Int → Int) (ids : List Int) (wide high P0 P1 : Int) (g : Int → R8) (S : Int) (c : Int → Int) : Prop where
  ex : sumOver (fun v => enX (g v)) ids ≤ 2520 * (S * S)
  ey : sumOver (fun v => enY (g v)) ids ≤ 2520 * (S * S)
  px : sumOver (fun v => (g v).px) ids = P0
  py : sumOver (fun v => (g v).py) ids = P1
  x : ∀ v ∈ ids, 10000 + 4096 * c v ≤ (g v).x ∧ (g v).x ≤ wide - 10000 - 4096 * c v
  y : ∀ v ∈ ids, 10000 + 4096 * c v ≤ (g v).y ∧ (g v).y ≤ high - 10000 - 4096 * c v
  mv : ∀ v ∈ ids, hasB (M v) 11 = true ∧ goodRowB (M v) (g v) = true
theorem row_mass {m : Int} {r : R8} (h : goodRowB m r = true) (hm : hasB m 11 = true) : 1 ≤ r.ms ∧ r.ms ≤ 9 := by
  have b8 := (has_parts (goodRow_mask h) hm).2.2
  simp only [goodRowB, Bool.and_eq_true] at h
  have hp := h.2.2
  simp only [goodPartsB, b8] at hp
  split at hp
  · exact absurd hp (by simp)
  · split at hp
    · exact absurd hp (by simp)
    · rename_i c
      simpa [btw] using c
theorem en_nonneg {r : R8} (h : 1 ≤ r.ms ∧ r.ms ≤ 9) : 0 ≤ enX r ∧ 0 ≤ enY r := by
  have h0 := cOf_pos h
  have key : ∀ z : Int, 0 ≤ z * z := fun z => by
    rcases Int.le_total 0 z with h | h
    · exact Int.mul_nonneg h h
    · rw [← Int.neg_mul_neg]; exact Int.mul_nonneg (by omega) (by omega)
  exact ⟨Int.mul_nonneg (by omega) (key _), Int.mul_nonneg (by omega) (key _)⟩
theorem share_half {m n d : Int} (hm : m ≠ 0) (hn : n ≠ 0) (hd : 0 ≤ d ∧ d ≤ 8192) : (0 ≤ shareOf m n d ∧ shareOf m n d ≤ 4096) ∧ (0 ≤ d - shareOf m n d ∧ d - shareOf m n d ≤ 4096) := by
  unfold shareOf
  rw [if_neg hm, if_neg hn, Int.tdiv_eq_ediv_of_nonneg hd.1]
  omega
theorem atA_in {a m n d way : Int} (ha : -1044480 ≤ a ∧ a ≤ 1044480) (hm : m ≠ 0) (hn : n ≠ 0) (hd : 0 ≤ d ∧ d ≤ 8192) (hw : way = 1 ∨ way = -1) : a - 4096 ≤ atA a m n d way ∧ atA a m n d way ≤ a + 4096 := by
  have h := share_half hm hn hd
  unfold atA
  generalize shareOf m n d = s at *
  rcases hw with rfl | rfl <;> rw [ad_self _ _ _ (by omega) (by omega) (by omega) (by omega)] <;> omega
theorem atB_in {b m n d way : Int} (hb : -1044480 ≤ b ∧ b ≤ 1044480) (hm : m ≠ 0) (hn : n ≠ 0) (hd : 0 ≤ d ∧ d ≤ 8192) (hw : way = 1 ∨ way = -1) : b - 4096 ≤ atB b m n d way ∧ atB b m n d way ≤ b + 4096 := by
  have h := share_half hm hn hd
  unfold atB
  generalize shareOf m n d = s at *
  rcases hw with rfl | rfl <;> rw [ad_self _ _ _ (by omega) (by omega) (by omega) (by omega)] <;> omega
theorem depth_le {a b u v : Int} (hu : u ≤ 4096) (hv : v ≤ 4096) : depthOf a b u v ≤ 8192 := by unfold depthOf ab; omega
theorem sq_mono {S : Int} (hS : 0 ≤ S) : 2520 * (S * S) ≤ 2520 * ((S + 36) * (S + 36)) := by
  have := en_grow (2520 * (S * S)) S 0 (Int.le_refl _) (by omega)
  omega
/-- Both written: what the sums are behind it. -/
theorem CalmW.two {M : Int → Int} {ids : List Int} {wide high P0 P1 : Int} {g : Int → R8} {S : Int} {c c' : Int → Int} {a b : Int} (h : CalmW M ids wide high P0 P1 g S c) (hn : ids.Nodup) (ha : a ∈ ids) (hb : b ∈ ids) (hne : a ≠ b)
    (hc : ∀ v, v ≠ a → v ≠ b → c' v ≤ c v) {x y : R8} {P Q : Int} (hP : P ≤ 18 * S) (hQ : Q ≤ 18 * S) (e1 : enX x + enX y ≤ enX (g a) + enX (g b) + 10080 * P) (e2 : enY x + enY y ≤ enY (g a) + enY (g b) + 10080 * Q) (p1 : x.px + y.px = (g a).px + (g b).px) (p2 : x.py + y.py = (g a).py + (g b).py)
    (xa : 10000 + 4096 * c' a ≤ x.x ∧ x.x ≤ wide - 10000 - 4096 * c' a) (ya : 10000 + 4096 * c' a ≤ x.y ∧ x.y ≤ high - 10000 - 4096 * c' a)
    (xb : 10000 + 4096 * c' b ≤ y.x ∧ y.x ≤ wide - 10000 - 4096 * c' b) (yb : 10000 + 4096 * c' b ≤ y.y ∧ y.y ≤ high - 10000 - 4096 * c' b)
    (ga : goodRowB (M a) x = true) (gb : goodRowB (M b) y = true) : CalmW M ids wide high P0 P1 (putG M (putG M g a x) b y) (S + 36) c' := by
  have e : putG M (putG M g a x) b y = upd (upd g a x) b y := by
    unfold putG
    rw [(h.mv a ha).1, (h.mv b hb).1, ga, gb]
    rfl
  have key : ∀ {Φ : Int → R8 → Prop}, Φ a x → Φ b y → (∀ v ∈ ids, v ≠ a → v ≠ b → Φ v (g v)) → ∀ v ∈ ids, Φ v (upd (upd g a x) b y v) := by
    intro Φ h1 h2 h3 v hv
    unfold upd
    by_cases q1 : v = b
    · simp [q1]; exact h2
    · by_cases q2 : v = a
      · subst q2; simp [q1]; exact h1
      · simp [q1, q2]; exact h3 v hv q2 q1
  rw [e]
  refine ⟨?_, ?_, ?_, ?_, ?_, ?_, ?_⟩
  · have := sum_upd2 hn ha hb hne enX g x y
    have h1 := h.ex
    have h2 := en_grow _ S P h.ex hP
    omega
  · have := sum_upd2 hn ha hb hne enY g x y
    have h1 := h.ey
    have h2 := en_grow _ S Q h.ey hQ
    omega
  · have := sum_upd2 hn ha hb hne (fun r => r.px) g x y
    have h1 := h.px
    omega
  · have := sum_upd2 hn ha hb hne (fun r => r.py) g x y
    have h1 := h.py
    omega
  · exact key (Φ := fun v r => 10000 + 4096 * c' v ≤ r.x ∧ r.x ≤ wide - 10000 - 4096 * c' v) xa xb (fun v hv q1 q2 => by have := h.x v hv; have := hc v q1 q2; omega)
  · exact key (Φ := fun v r => 10000 + 4096 * c' v ≤ r.y ∧ r.y ≤ high - 10000 - 4096 * c' v) ya yb (fun v hv q1 q2 => by have := h.y v hv; have := hc v q1 q2; omega)
  · exact key (Φ := fun v r => hasB (M v) 11 = true ∧ goodRowB (M v) r = true) ⟨(h.mv a ha).1, ga⟩ ⟨(h.mv b hb).1, gb⟩ (fun v hv _ _ => h.mv v hv)
/-- One meeting. -/
theorem CalmW.meet {M : Int → Int} {ids : List Int} {wide high P0 P1 : Int} {s : (Int → R8) × List (Int × Int)} {S : Int} {c c' : Int → Int} {a b : Int} (h : CalmW M ids wide high P0 P1 s.1 S c) (hn : ids.Nodup) (ha : a ∈ ids) (hb : b ∈ ids) (hne : a ≠ b) (hw : wide ≤ 1048576) (hh : high ≤ 1048576) (hS : 0 ≤ S ∧ S ≤ 60000)
    (hc : ∀ v, 0 ≤ c' v ∧ c' v ≤ c v) (hca : c a = c' a + 1) (hcb : c b = c' b + 1) : CalmW M ids wide high P0 P1 (meet1 M s (a, b)).1 (S + 36) c' := by
  obtain ⟨ma, ga⟩ := h.mv a ha
  obtain ⟨mb, gb⟩ := h.mv b hb
  unfold meet1
  by_cases ho : overG M s.1 (a, b) = true
  · rw [if_pos ho]
    simp only [overG, bodyR, ma, mb] at ho ⊢
    simp only [if_true] at ho ⊢
    obtain ⟨pa, pb, hdx, hdy⟩ := over_of ho
    have na := row_mass ga ma
    have nb := row_mass gb mb
    have h1 := h.x a ha
    have h2 := h.x b hb
    have h3 := h.y a ha
    have h4 := h.y b hb
    have ca := hc a
    have cb := hc b
    have nonx : ∀ v ∈ ids, 0 ≤ enX (s.1 v) := fun v hv => (en_nonneg (row_mass (h.mv v hv).2 (h.mv v hv).1)).1
    have nony : ∀ v ∈ ids, 0 ≤ enY (s.1 v) := fun v hv => (en_nonneg (row_mass (h.mv v hv).2 (h.mv v hv).1)).2
    have sxa := en_sq na (Int.le_trans (le_sum nonx ha) h.ex)
    have sxb := en_sq nb (Int.le_trans (le_sum nonx hb) h.ex)
    have sya := en_sq na (Int.le_trans (le_sum nony ha) h.ey)
    have syb := en_sq nb (Int.le_trans (le_sum nony hb) h.ey)
    have dlx : depthOf (s.1 a).x (s.1 b).x (s.1 a).wd (s.1 b).wd ≤ 8192 := depth_le pa.wd.2 pb.wd.2
    have dly : depthOf (s.1 a).y (s.1 b).y (s.1 a).ht (s.1 b).ht ≤ 8192 := depth_le pa.ht.2 pb.ht.2
    have hrr : 0 ≤ min (s.1 a).rr (s.1 b).rr ∧ min (s.1 a).rr (s.1 b).rr ≤ 256 := by have := pa.rr; have := pb.rr; omega
    have bax := pa.x; have bbx := pb.x; have bay := pa.y; have bby := pb.y
    unfold met
    rw [if_pos ho, if_neg (fun e => by have := e.1; omega)]
    split
    · obtain ⟨q1, P, q2, q3⟩ := push_en (s.1 a).px (s.1 b).px (s.1 a).ms (s.1 b).ms (min (s.1 a).rr (s.1 b).rr) (wayOf (s.1 a).x (s.1 b).x) S na nb hrr (way_or _ _) hS sxa sxb
      have i1 := atA_in (a := (s.1 a).x) (m := (s.1 a).ms) (n := (s.1 b).ms) (d := depthOf (s.1 a).x (s.1 b).x (s.1 a).wd (s.1 b).wd) (way := wayOf (s.1 a).x (s.1 b).x) (by omega) (by omega) (by omega) ⟨by omega, dlx⟩ (way_or _ _)
      have i2 := atB_in (b := (s.1 b).x) (m := (s.1 a).ms) (n := (s.1 b).ms) (d := depthOf (s.1 a).x (s.1 b).x (s.1 a).wd (s.1 b).wd) (way := wayOf (s.1 a).x (s.1 b).x) (by omega) (by omega) (by omega) ⟨by omega, dlx⟩ (way_or _ _)
      refine h.two hn ha hb hne (fun v _ _ => (hc v).2) (P := P) (Q := 0) q2 (by omega) q3 (by show enY (s.1 a) + enY (s.1 b) ≤ _; omega) q1 rfl ?_ ?_ ?_ ?_ ?_ ?_
      · show _ ≤ atA _ _ _ _ _ ∧ atA _ _ _ _ _ ≤ _
        omega
      · show _ ≤ (s.1 a).y ∧ (s.1 a).y ≤ _
        omega
      · show _ ≤ atB _ _ _ _ _ ∧ atB _ _ _ _ _ ≤ _
        omega
      · show _ ≤ (s.1 b).y ∧ (s.1 b).y ≤ _
        omega
      · exact good_change ga ma rfl rfl rfl rfl (ad_le _ _ _ (by omega)) bay (pushA_le _ _ _ _ _ _ pa.px) pa.py
      · exact good_change gb mb rfl rfl rfl rfl (ad_le _ _ _ (by omega)) bby (pushB_le _ _ _ _ _ _ pb.px) pb.py
    · obtain ⟨q1, P, q2, q3⟩ := push_en (s.1 a).py (s.1 b).py (s.1 a).ms (s.1 b).ms (min (s.1 a).rr (s.1 b).rr) (wayOf (s.1 a).y (s.1 b).y) S na nb hrr (way_or _ _) hS sya syb
      have i1 := atA_in (a := (s.1 a).y) (m := (s.1 a).ms) (n := (s.1 b).ms) (d := depthOf (s.1 a).y (s.1 b).y (s.1 a).ht (s.1 b).ht) (way := wayOf (s.1 a).y (s.1 b).y) (by omega) (by omega) (by omega) ⟨by omega, dly⟩ (way_or _ _)
      have i2 := atB_in (b := (s.1 b).y) (m := (s.1 a).ms) (n := (s.1 b).ms) (d := depthOf (s.1 a).y (s.1 b).y (s.1 a).ht (s.1 b).ht) (way := wayOf (s.1 a).y (s.1 b).y) (by omega) (by omega) (by omega) ⟨by omega, dly⟩ (way_or _ _)
      refine h.two hn ha hb hne (fun v _ _ => (hc v).2) (P := 0) (Q := P) (by omega) q2 (by show enX (s.1 a) + enX (s.1 b) ≤ _; omega) q3 rfl q1 ?_ ?_ ?_ ?_ ?_ ?_
      · show _ ≤ (s.1 a).x ∧ (s.1 a).x ≤ _
        omega
      · show _ ≤ atA _ _ _ _ _ ∧ atA _ _ _ _ _ ≤ _
        omega
      · show _ ≤ (s.1 b).x ∧ (s.1 b).x ≤ _
        omega
      · show _ ≤ atB _ _ _ _ _ ∧ atB _ _ _ _ _ ≤ _
        omega
      · exact good_change ga ma rfl rfl rfl rfl bax (ad_le _ _ _ (by omega)) pa.px (pushA_le _ _ _ _ _ _ pa.py)
      · exact good_change gb mb rfl rfl rfl rfl bbx (ad_le _ _ _ (by omega)) pb.px (pushB_le _ _ _ _ _ _ pb.py)
  · rw [if_neg ho]
    exact ⟨Int.le_trans h.ex (sq_mono hS.1), Int.le_trans h.ey (sq_mono hS.1), h.px, h.py, fun v hv => by have := h.x v hv; have := hc v; omega, fun v hv => by have := h.y v hv; have := hc v; omega, h.mv⟩
def hits (v : Int) (p : Int × Int) : Bool := p.1 == v || p.2 == v
def cnt (l : List (Int × Int)) (v : Int) : Int := (l.countP (hits v) : Int)
theorem CalmW.fold {M : Int → Int} {ids : List Int} {wide high P0 P1 : Int} (hn : ids.Nodup) (hw : wide ≤ 1048576) (hh : high ≤ 1048576) (l : List (Int × Int)) : ∀ (s : (Int → R8) × List (Int × Int)) (S : Int), (∀ p ∈ l, p.1 ∈ ids ∧ p.2 ∈ ids ∧ p.1 ≠ p.2) → 0 ≤ S → S + 36 * l.length ≤ 60000 → CalmW M ids wide high P0 P1 s.1 S (cnt l) →
    CalmW M ids wide high P0 P1 (l.foldl (meet1 M) s).1 (S + 36 * l.length) (cnt []) := by
  induction l with
  | nil =>
    intro s S _ _ _ h
    rw [show S + 36 * (([] : List (Int × Int)).length : Int) = S by simp]
    exact h
  | cons p l ih =>
    intro s S hp h0 hS h
    obtain ⟨a, b⟩ := p
    obtain ⟨ha, hb, hne⟩ := hp (a, b) (List.mem_cons_self ..)
    simp only [List.length_cons] at hS
    have hm := h.meet (c' := cnt l) hn ha hb hne hw hh ⟨h0, by omega⟩
      (fun v => ⟨by unfold cnt; omega, by unfold cnt; rw [List.countP_cons]; omega⟩)
      (by unfold cnt; rw [List.countP_cons]; simp [hits])
      (by unfold cnt; rw [List.countP_cons]; simp [hits])
    have := ih (meet1 M s (a, b)) (S + 36) (fun p hp' => hp p (List.mem_cons_of_mem _ hp')) (by omega) (by omega) hm
    rw [List.foldl_cons, show S + 36 * (((a, b) :: l).length : Int) = S + 36 + 36 * (l.length : Int) by simp; omega]
    exact this

/-! How often a thing may meet others. -/
theorem q1_hits {v : Int} {x : Sw.B5} {l : List Sw.B5} (h : x.id ≠ v) (hn : (l.map (·.id)).Nodup) : (Sw.q1 x l).countP (hits v) ≤ if v ∈ l.map (·.id) then 1 else 0 := by
  induction l with
  | nil => simp [Sw.q1]
  | cons o l ih =>
    rw [List.map_cons] at hn
    have hn' := List.nodup_cons.1 hn
    have ih' := ih hn'.2
    rw [Sw.q1_cons, List.countP_append]
    have hone : ((if Sw.meetB x o then [Sw.pr x o] else []) : List (Int × Int)).countP (hits v) ≤ if o.id = v then 1 else 0 := by
      split
      · rw [List.countP_singleton]
        by_cases e : o.id = v
        · simp [e]; split <;> omega
        · have : hits v (Sw.pr x o) = false := by
            unfold hits Sw.pr
            by_cases hle : x.id ≤ o.id <;> simp [hle, h, e]
          simp [this, e]
      · simp
    by_cases e : o.id = v
    · subst e
      rw [if_neg hn'.1] at ih'
      simp at hone ⊢
      omega
    · rw [if_neg e] at hone
      have : (v ∈ List.map (·.id) (o :: l)) = (v ∈ List.map (·.id) l) := by simp [Ne.symm e]
      simp only [this]
      omega
theorem qs_hits {v : Int} {l : List Sw.B5} (hn : (l.map (·.id)).Nodup) : (Sw.qs l).countP (hits v) ≤ (if v ∈ l.map (·.id) then l.length - 1 else 0) := by
  induction l with
  | nil => simp [Sw.qs]
  | cons o l ih =>
    rw [List.map_cons] at hn
    have hn' := List.nodup_cons.1 hn
    have ih' := ih hn'.2
    rw [Sw.qs, List.countP_append]
    by_cases e : o.id = v
    · subst e
      rw [if_neg hn'.1] at ih'
      have h1 : (Sw.q1 o l).countP (hits o.id) ≤ l.length := by
        refine Nat.le_trans List.countP_le_length ?_
        unfold Sw.q1
        rw [List.length_map]
        exact List.length_filter_le _ _
      simp
      omega
    · have h1 := q1_hits e hn'.2
      have : (v ∈ List.map (·.id) (o :: l)) = (v ∈ List.map (·.id) l) := by simp [Ne.symm e]
      simp only [this]
      by_cases hm : v ∈ List.map (·.id) l
      · rw [if_pos hm] at h1 ih' ⊢
        have : 0 < l.length := by
          cases l with
          | nil => simp at hm
          | cons _ _ => simp
        simp
        omega
      · rw [if_neg hm] at h1 ih' ⊢
        omega
theorem pairs_hits {v : Int} {l : List Sw.B5} (hn : (l.map (·.id)).Nodup) (hl : l.length ≤ 10) : cnt (Sw.pairsG l) v ≤ 9 := by
  unfold cnt Sw.pairsG
  split
  · rw [((Sw.sortP_perm _).trans (Sw.pairsOf_qs l)).countP_eq]
    have := qs_hits (v := v) hn
    split at this <;> omega
  · simp
theorem qs_ne {l : List Sw.B5} (hn : (l.map (·.id)).Nodup) {p : Int × Int} (h : p ∈ Sw.qs l) : p.1 ≠ p.2 := by
  induction l with
  | nil => simp [Sw.qs] at h
  | cons x l ih =>
    rw [List.map_cons] at hn
    have hn' := List.nodup_cons.1 hn
    rw [Sw.qs] at h
    rcases List.mem_append.1 h with h | h
    · unfold Sw.q1 at h
      obtain ⟨o, ho, rfl⟩ := List.mem_map.1 h
      have ho' := (List.mem_filter.1 ho).1
      have hne : x.id ≠ o.id := fun e => hn'.1 (e ▸ List.mem_map.2 ⟨o, ho', rfl⟩)
      unfold Sw.pr
      by_cases hle : x.id ≤ o.id
      · simp [hle]; exact hne
      · simp [hle]; exact Ne.symm hne
    · exact ih hn'.2 h
theorem pairs_ne {l : List Sw.B5} (hn : (l.map (·.id)).Nodup) {p : Int × Int} (h : p ∈ Sw.pairsG l) : p.1 ≠ p.2 := by
  unfold Sw.pairsG at h
  split at h
  · exact qs_ne hn ((Sw.pairsOf_qs l).mem_iff.1 ((Sw.sortP_perm _).mem_iff.1 h))
  · cases h
theorem box_ids (L : List Tab) (g : Int → R8) : (boxG L g).map (·.id) = idsOf 5 L := by
  unfold boxG
  rw [List.map_map]
  conv => rhs; rw [← List.map_id (idsOf 5 L)]
  exact List.map_congr_left (fun v _ => rfl)

/-- What goes on: each thing that moves by itself. -/
theorem go_row {next : Int} {L : List Tab} (hg : GoodL next L) {g : Int → R8} (hr : RowsOk L g) {fall v : Int} (hv : v ∈ idsOf 11 L) : goOnG (mk L) fall (idsOf 11 L) g v = goRow (fallR fall (mk L v) (g v)) := by
  obtain ⟨_, ⟨q, hat⟩, hb⟩ := at_ids hg.even hg.2.2.2.2.2 g hv
  have hgood := hr v _ _ hat
  have hbd := row_bounds hgood
  rw [go_each, each_at (ids_nodup hg 11), if_pos hv, if_pos]
  simp only [hb, Bool.true_and]
  refine good_change hgood hb ?_ ?_ ?_ ?_ (ad_le _ _ _ (by omega)) (ad_le _ _ _ (by omega)) ?_ ?_
  · unfold goRow fallR; split <;> rfl
  · unfold goRow fallR; split <;> rfl
  · unfold goRow fallR; split <;> rfl
  · unfold goRow fallR; split <;> rfl
  · have e : (goRow (fallR fall (mk L v) (g v))).px = (g v).px := by unfold goRow fallR; split <;> rfl
    rw [e]; exact hbd.2.2.1
  · show -16777216 ≤ (fallR fall (mk L v) (g v)).py ∧ (fallR fall (mk L v) (g v)).py ≤ 16777216
    unfold fallR
    split
    · exact ad_le _ _ _ (by omega)
    · exact hbd.2.2.2.1
theorem has5 {m : Int} (hm : 1 ≤ m ∧ m ≤ 31) (h : hasB m 5 = true) : hasB m 4 = true := by
  have key : ∀ k : Fin 32, hasB (k.val : Int) 5 = true → hasB (k.val : Int) 4 = true := by decide
  have e : m = ((⟨m.toNat, by omega⟩ : Fin 32).val : Int) := by simp; omega
  rw [e] at h ⊢
  exact key _ h
/-- Nothing falls, nothing is fixed or near an edge. -/
def Free (L : List Tab) (wide high : Int) : Prop := ∀ v m r, At L v m r → (hasB m 11 = false → hasB m 4 = false) ∧ hasB m 16 = false ∧ CalmP r ∧ (hasB m 11 = true → (110000 ≤ r.x ∧ r.x ≤ wide - 110000) ∧ (110000 ≤ r.y ∧ r.y ≤ high - 110000))
theorem step_sums {next : Int} {L : List Tab} (hg : GoodL next L) {fall wide high : Int} (hw : wide ≤ 1048576) (hh : high ≤ 1048576) (hf : Free L wide high) :
    sumOver (fun v => ((stepG L fall wide high).1 v).px) (idsOf 11 L) = sumOver (fun v => (rw0 L v).px) (idsOf 11 L) ∧ sumOver (fun v => ((stepG L fall wide high).1 v).py) (idsOf 11 L) = sumOver (fun v => (rw0 L v).py) (idsOf 11 L) := by
  have hn := hg.2.2.2.2.2
  have hok := rows_ok hg
  have hids := ids_nodup hg 11
  have hat : ∀ v ∈ idsOf 11 L, At L v (mk L v) (rw0 L v) ∧ hasB (mk L v) 11 = true := fun v hv => by
    obtain ⟨_, ⟨q, h1⟩, h2⟩ := at_ids hg.even hn (rw0 L) hv
    rw [(at_mk hn h1).2]
    exact ⟨h1, h2⟩
  have hgo : ∀ v ∈ idsOf 11 L, goOnG (mk L) fall (idsOf 11 L) (rw0 L) v = goRow (rw0 L v) := fun v hv => by
    rw [go_row hg hok hv]
    have := (hf v _ _ (hat v hv).1).2.1
    unfold fallR
    rw [this]
    rfl
  have hok1 : RowsOk L (goOnG (mk L) fall (idsOf 11 L) (rw0 L)) := RowsOk.go hn hok _ _
  generalize hg1 : goOnG (mk L) fall (idsOf 11 L) (rw0 L) = g1 at *
  have hbn : ((boxG L g1).map (·.id)).Nodup := by rw [box_ids]; exact ids_nodup hg 5
  have hbl : (boxG L g1).length ≤ 10 := by simp [boxG]; exact ids_len hg
  have hl100 := pairs_len (boxG L g1) hbl
  have hl10 : (idsOf 11 L).length ≤ 10 := ids_len hg
  have hpm : ∀ p ∈ Sw.pairsG (boxG L g1), p.1 ∈ idsOf 11 L ∧ p.2 ∈ idsOf 11 L ∧ p.1 ≠ p.2 := by
    have key : ∀ v ∈ idsOf 5 L, v ∈ idsOf 11 L := fun v hv => by
      obtain ⟨q, r, h1, h2⟩ := (mem_ids hg.even).1 hv
      have hm := goodRow_mask (At.good hg h1).1
      have h4 := has5 hm h2
      refine (mem_ids hg.even).2 ⟨q, r, h1, ?_⟩
      cases h11 : hasB q 11
      · rw [(hf v q r h1).1 h11] at h4; exact absurd h4 (by simp)
      · rfl
    intro p hp
    obtain ⟨x, y, hx, hy, e1, e2⟩ := pair_mem hp
    refine ⟨key _ (by rw [e1]; exact box_mem hx), key _ (by rw [e2]; exact box_mem hy), pairs_ne hbn hp⟩
  have hstart : CalmW (mk L) (idsOf 11 L) wide high (sumOver (fun v => (rw0 L v).px) (idsOf 11 L)) (sumOver (fun v => (rw0 L v).py) (idsOf 11 L)) g1 51820 (cnt (Sw.pairsG (boxG L g1))) := by
    have hsq : ∀ z : Int, (-16384 ≤ z ∧ z ≤ 16384) → z * z ≤ 268435456 := fun z hz => by have := mul_le z z 16384 hz hz; omega
    have hen : ∀ {m z : Int}, (1 ≤ m ∧ m ≤ 9) → (-16384 ≤ z ∧ z ≤ 16384) → cOf m * (z * z) ≤ 676457349120 := fun {m z} hm hz => by
      have h0 := cOf_pos hm
      have h1 : cOf m ≤ 2520 := by
        have := cOf_mul hm
        have h2 : cOf m * 1 ≤ cOf m * m := Int.mul_le_mul_of_nonneg_left hm.1 (by omega)
        omega
      have h2 := hsq z hz
      have h3 : cOf m * (z * z) ≤ cOf m * 268435456 := Int.mul_le_mul_of_nonneg_left h2 (by omega)
      omega
    refine ⟨?_, ?_, ?_, ?_, ?_, ?_, ?_⟩
    · have hs : sumOver (fun v => enX (g1 v)) (idsOf 11 L) ≤ 676457349120 * ((idsOf 11 L).length : Int) := sum_le (fun v hv => by
        have h1 := hat v hv
        have hm := row_mass (hok v _ _ h1.1) h1.2
        have hp := (hf v _ _ h1.1).2.2.1.px
        rw [hgo v hv]
        generalize rw0 L v = r at hm hp
        exact hen (m := r.ms) (z := r.px) hm hp)
      omega
    · have hs : sumOver (fun v => enY (g1 v)) (idsOf 11 L) ≤ 676457349120 * ((idsOf 11 L).length : Int) := sum_le (fun v hv => by
        have h1 := hat v hv
        have hm := row_mass (hok v _ _ h1.1) h1.2
        have hp := (hf v _ _ h1.1).2.2.1.py
        rw [hgo v hv]
        generalize rw0 L v = r at hm hp
        exact hen (m := r.ms) (z := r.py) hm hp)
      omega
    · exact sum_congr (fun v hv => by rw [hgo v hv]; generalize rw0 L v = r; rfl)
    · exact sum_congr (fun v hv => by rw [hgo v hv]; generalize rw0 L v = r; rfl)
    · intro v hv
      have h1 := hat v hv
      have h2 := ((hf v _ _ h1.1).2.2.2 h1.2).1
      have h3 := (hf v _ _ h1.1).2.2.1.px
      have h4 := spd_le (rw0 L v).px (rw0 L v).ms 16384 (by omega) h3
      have h5 := pairs_hits (v := v) hbn hbl
      rw [hgo v hv]
      show _ ≤ ad _ _ _ ∧ ad _ _ _ ≤ _
      rw [ad_self _ _ _ (by omega) (by omega) (by omega) (by omega)]
      omega
    · intro v hv
      have h1 := hat v hv
      have h2 := ((hf v _ _ h1.1).2.2.2 h1.2).2
      have h3 := (hf v _ _ h1.1).2.2.1.py
      have h4 := spd_le (rw0 L v).py (rw0 L v).ms 16384 (by omega) h3
      have h5 := pairs_hits (v := v) hbn hbl
      rw [hgo v hv]
      show _ ≤ ad _ _ _ ∧ ad _ _ _ ≤ _
      rw [ad_self _ _ _ (by omega) (by omega) (by omega) (by omega)]
      omega
    · intro v hv
      exact ⟨(hat v hv).2, hok1 v _ _ (hat v hv).1⟩
  have hend := CalmW.fold hids hw hh (Sw.pairsG (boxG L g1)) (g1, []) 51820 hpm (by omega) (by omega) hstart
  have e : ∀ v ∈ idsOf 11 L, (stepG L fall wide high).1 v = ((Sw.pairsG (boxG L g1)).foldl (meet1 (mk L)) (g1, [])).1 v := fun v hv => by
    unfold stepG
    rw [hg1]
    show wallG (mk L) wide high (idsOf 11 L) (meetG (mk L) (Sw.pairsG (boxG L g1)) g1).1 v = _
    rw [wall_each, each_at hids, if_pos hv]
    unfold meetG
    generalize ((Sw.pairsG (boxG L g1)).foldl (meet1 (mk L)) (g1, [])).1 = g2 at *
    have hx := hend.x v hv
    have hy := hend.y v hv
    have hb := row_bounds (hend.mv v hv).2
    have hc : cnt [] v = 0 := rfl
    have ew : wallY high (wallX wide (g2 v)) = g2 v := by
      have e1 : wallX wide (g2 v) = g2 v := by
        unfold wallX wallAt wallPush
        rw [if_neg (by omega), if_neg (by omega), if_neg (by omega), if_neg (by omega)]
      rw [e1]
      unfold wallY wallAt wallPush
      rw [if_neg (by omega), if_neg (by omega), if_neg (by omega), if_neg (by omega)]
    rw [ew]
    split <;> rfl
  refine ⟨?_, ?_⟩
  · rw [← hend.px]
    exact sum_congr (fun v hv => by rw [e v hv])
  · rw [← hend.py]
    exact sum_congr (fun v hv => by rw [e v hv])
end Go.Proofs.YtckkkdldljhehabGreat.Wd
