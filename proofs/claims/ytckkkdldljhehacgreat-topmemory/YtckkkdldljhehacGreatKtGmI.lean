/- What save of a game in memory answers when called: the world is saved behind those that were; all blocks but the game's are as they were. -/
import Derived.Test.YtckkkdldljhehacGreatKtGmH
import Derived.Test.YtckkkdldljhehacGreatPkG
namespace Go.Proofs.YtckkkdldljhehacGreat.Gm
open Go.Proofs.YtckkkdldljhehacGreat.Num Go.Proofs.YtckkkdldljhehacGreat.St Go.Proofs.YtckkkdldljhehacGreat.Wd
open Go.ChangeShapes Go.WideShapes Go.ChangeAt Go.RowKit

/-- The builtin append at an operation, with where the row then lies. -/
theorem wp_append_at {P : Program} (w : World) {o : Oper} {a : Act} {K : Act → World → Prop} {Q : Exit → Act → World → Prop} (s x : Operand) (t : TypeId)
    (ho : o.op = .call { callee := .builtin .append, args := #[s, x], argTypes := #[t, t] })
    (base : Nat) (e : TypeId) (i : TypeInfo) (z : Value) (size bytes : Nat) (ht : P.underlying t = some (.slice e)) (hi : P.info? e = some i) (hz : i.zero = some z)
    (hsize : i.size = size) (hby : i.bytes = bytes) (hzs : z.cells.size = size) (hsz : 0 < size)
    (v : Value) (n : Nat) (xs : List Value) (hs : a.eval s = v) (hown : w.ownsRow base e size v n xs)
    (ad : Addr) (m c : Nat) (news : List Value) (hx : a.eval x = .slice (some ad) m c) (hl : news.length = m * size) (hnews : ∀ j u, news[j]? = some u → w.cell? (ad.add j) = some u) (h1 : ∀ u ∈ news, u.oneCell' = true)
    (h63 : n + m ≤ maxLen) (hbytes : (n + m) * bytes ≤ 140737488355328) (hbase : base ≤ w.heap.size)
    (h : ∀ v' w', w'.ownsRow base e size v' (n + m) (xs ++ news) → w.grownBy w' v.ownBlock → (v'.ownBlock = v.ownBlock ∨ v'.ownBlock = some w.heap.size) → K (a.put o.dst v') w') : o.wp P a w K Q := by
  obtain ⟨v', w', hr, h2, h3, h4, h5⟩ := run_append_own_at (P := P) w base t o.type e i z size bytes ht hi hz hsize hby hzs hsz v n xs hown ad m c news hl hnews h1 h63 hbytes hbase
  unfold Oper.wp execOp
  simp only [ho, resolve, invoke, builtin, Sem.run_bind, Sem.run_pure, Result.andThen_ok, List.map_toArray, List.map_cons, List.map_nil, hs, hx, hr]
  exact h v' w' h2 h3 h5
def saveG (s : Gp) : Gp × Rep := if 3 ≤ s.saves.length then (s, no 5) else ({ s with saves := s.saves ++ [s.now] }, ⟨0, s.saves.length, [], []⟩)
theorem zip_snoc {A B : Type} : ∀ (l : List A) (m : List B) (x : A) (y : B), l.length = m.length → (l ++ [x]).zip (m ++ [y]) = l.zip m ++ [(x, y)] := by
  intro l
  induction l with
  | nil => intro m x y h; cases m <;> simp at h ⊢
  | cons a l ih =>
    intro m x y h
    cases m with
    | nil => simp at h
    | cons b m => simp at h ⊢; exact ih m x y h
/-- A row appended to what is saved, between the append and the store. -/
structure Mid (W : World) (s : Gp) (asv : Option Addr) (m csv : Nat) (sv : List Value) (W1 : World) (v' : Value) (u : Value) (F1 : Nat → Prop) : Prop where
  form : ∃ a' c', v' = .slice a' (m + 1) c'
  own : W1.ownsRow 0 45 5 v' (m + 1) (saveCells (sv.zip s.saves) ++ [u, .int .i64 s.now.next, .int .i64 s.now.fall, .int .i64 s.now.wide, .int .i64 s.now.high])
  via : ∃ Wm, Below W.heap.size W Wm ∧ Wm.grownBy W1 (Value.slice asv m csv).ownBlock
  sto : Sto W1 F1 u s.now.L
  new : ∀ z, F1 z → W.heap.size ≤ z
  at_ : v'.ownBlock = (Value.slice asv m csv).ownBlock ∨ ∃ z, v'.ownBlock = some z ∧ W.heap.size ≤ z ∧ ¬ F1 z
theorem GamP.grownRow {W Wm W1 : World} {F : Nat → Prop} {b : Nat} {s : Gp} {v vs : Value} {sv : List Value} {Fs : Nat → Prop} (h : GamP W F b s v vs sv Fs) (hb : Below W.heap.size W Wm) (hg : Wm.grownBy W1 vs.ownBlock) : W1.rowIs b 84 7 (gcell v s.now vs s.acts) :=
  rowIs_grown (rowIs_below h.row hb) hg (fun e => (h.sep b e).2.1 rfl)
theorem GamP.addSave {W W1 : World} {F F1 : Nat → Prop} {b : Nat} {s : Gp} {v v' u : Value} {sv : List Value} {Fs : Nat → Prop} {asv : Option Addr} {m csv : Nat} (h : GamP W F b s v (.slice asv m csv) sv Fs) (hm : m = s.saves.length) (hM : Mid W s asv m csv sv W1 v' u F1) :
    Gam (W1.setCell ⟨b, 5, none⟩ v') (fun z => F z ∨ F1 z ∨ v'.ownBlock = some z) b { s with saves := s.saves ++ [s.now] } := by
  obtain ⟨Wm, hbm, hg⟩ := hM.via
  have hbz := h.lt b h.own
  have hv'b : ∀ z, v'.ownBlock = some z → z ≠ b ∧ ¬ Fs z ∧ ¬ F1 z := fun z hz => by
    rcases hM.at_ with e | ⟨y, e, h1, h2⟩
    · rw [e] at hz
      exact ⟨(h.sep z hz).2.1, (h.sep z hz).2.2, fun hc => by have := h.lt z (h.sep z hz).1; have := hM.new z hc; omega⟩
    · rw [e] at hz
      cases hz
      exact ⟨fun e => by omega, fun hc => by have := h.lt z (h.inF z hc).1; omega, h2⟩
  have kept : ∀ {x : Value} {L : List Tab}, Sto W Fs x L → Sto W1 Fs x L := fun hx => (hx.below hbm).keep hg.size (fun z hz => hg.block z ((hx.below hbm).lt hz) (fun e => (h.sep z e.symm).2.2 hz))
  have ltW1 : ∀ z, Fs z → z < W1.heap.size := fun z hz => (kept h.now).lt hz
  have lt2 : ∀ z, Fs z ∨ F1 z → z < W1.heap.size := fun z hz => hz.elim (ltW1 z) (fun h1 => hM.sto.lt h1)
  have hnb : ¬ (Fs b ∨ F1 b) := fun hc => hc.elim (fun h1 => (h.inF b h1).2 rfl) (fun h1 => by have := hM.new b h1; omega)
  have hgs := grown_set W1 b 5 v'
  refine ⟨v, v', sv ++ [u], fun z => Fs z ∨ F1 z, ⟨?_, ?_, ?_, ?_, ?_, ?_, Or.inl h.own, ?_, ?_⟩⟩
  · refine ((h.grownRow hbm hg).set 5 v').congr (fun i hi => ?_)
    match i, hi with
    | 0, _ => rfl
    | 1, _ => rfl
    | 2, _ => rfl
    | 3, _ => rfl
    | 4, _ => rfl
    | 5, _ => rfl
    | 6, _ => rfl
  · have hl : sv.length = s.saves.length := h.len
    show (W1.setCell ⟨b, 5, none⟩ v').ownsRow 0 45 5 v' (s.saves ++ [s.now]).length (saveCells ((sv ++ [u]).zip (s.saves ++ [s.now])))
    rw [zip_snoc _ _ _ _ hl]
    have e : saveCells (sv.zip s.saves ++ [(u, s.now)]) = saveCells (sv.zip s.saves) ++ [u, .int .i64 s.now.next, .int .i64 s.now.fall, .int .i64 s.now.wide, .int .i64 s.now.high] := by simp [saveCells]
    have e2 : (s.saves ++ [s.now]).length = m + 1 := by simp [hm]
    rw [e, e2]
    exact owns_kept hM.own hgs (fun z hz e => by cases e; exact (hv'b b hz).1 rfl)
  · show (sv ++ [u]).length = (s.saves ++ [s.now]).length
    simp [h.len]
  · exact grown_keep ((kept h.now).wide (fun z hz => Or.inl hz) lt2) hgs hnb
  · intro i q x h1 h2
    change (s.saves ++ [s.now])[i]? = some x at h2
    by_cases hi : i < sv.length
    · rw [List.getElem?_append_left hi] at h1
      rw [List.getElem?_append_left (by rw [← h.len]; exact hi)] at h2
      exact grown_keep ((kept (h.all i q x h1 h2)).wide (fun z hz => Or.inl hz) lt2) hgs hnb
    · have hl := h.len
      rw [List.getElem?_append_right (by omega)] at h1
      rw [List.getElem?_append_right (by omega)] at h2
      have e : i - sv.length = 0 := by
        rcases Nat.lt_or_ge (i - sv.length) 1 with hh | hh
        · omega
        · rw [List.getElem?_eq_none (by simpa using hh)] at h1; cases h1
      have e2 : i - s.saves.length = 0 := by omega
      rw [e] at h1
      rw [e2] at h2
      cases h1
      cases h2
      exact grown_keep (hM.sto.wide (fun z hz => Or.inr hz) lt2) hgs hnb
  · intro z hz
    rcases hz with h1 | h1
    · exact ⟨Or.inl (h.inF z h1).1, (h.inF z h1).2⟩
    · exact ⟨Or.inr (Or.inl h1), fun e => by have := hM.new z h1; omega⟩
  · intro z hz
    exact ⟨Or.inr (Or.inr hz), (hv'b z hz).1, fun hc => hc.elim (hv'b z hz).2.1 (hv'b z hz).2.2⟩
  · intro z hz
    have hs : (W1.setCell ⟨b, 5, none⟩ v').heap.size = W1.heap.size := by simp [World.setCell]
    rw [hs]
    have hle : W.heap.size ≤ W1.heap.size := Nat.le_trans hbm.size hg.size
    rcases hz with h1 | h1 | h1
    · have := h.lt z h1; omega
    · exact hM.sto.lt h1
    · exact (hM.own.lt z h1).2
/-- Who waits for whom. -/
def D : List (Nat × Nat) := [(2, 1), (3, 2), (4, 3), (6, 5), (7, 6), (8, 7), (9, 8), (10, 9), (11, 4), (11, 10), (13, 12)]
def Dn (L : Nat → Bool) : Prop := ∀ p ∈ D, L p.1 = true → L p.2 = true
theorem Dn.up {L : Nat → Bool} (h : Dn L) {i : Nat} (hd : ∀ p ∈ D, p.1 = i → L p.2 = true) : Dn (Rg.up L i) := fun p hp hk => by
  by_cases e : p.1 = i
  · exact Rg.up_of (hd p hp e)
  · exact Rg.up_of (h p hp (Rg.up_ne hk e))
theorem Dn.late {L : Nat → Bool} (h : Dn L) {j : Nat} (hj : j ∈ [1, 2, 3, 4, 5, 6, 7, 8, 9, 10]) (hl : L j = false) : L 11 = false := by
  cases e : L 11 with
  | false => rfl
  | true =>
    have q4 := h (11, 4) (by simp [D]) e
    have q3 := h (4, 3) (by simp [D]) q4
    have q2 := h (3, 2) (by simp [D]) q3
    have q1 := h (2, 1) (by simp [D]) q2
    have q10 := h (11, 10) (by simp [D]) e
    have q9 := h (10, 9) (by simp [D]) q10
    have q8 := h (9, 8) (by simp [D]) q9
    have q7 := h (8, 7) (by simp [D]) q8
    have q6 := h (7, 6) (by simp [D]) q7
    have q5 := h (6, 5) (by simp [D]) q6
    simp only at q1 q2 q3 q4 q5 q6 q7 q8 q9 q10
    simp at hj
    rcases hj with rfl | rfl | rfl | rfl | rfl | rfl | rfl | rfl | rfl | rfl <;> simp_all
theorem info26 : (Tryz.prog.info? 45).map (fun i => (i.zero, i.size, i.bytes)) = some (some (.agg #[.slice none 0 0, .int .i64 0, .int .i64 0, .int .i64 0, .int .i64 0]), 5, 56) := by kernel_rfl
attribute [local go_sem ↓] Go.wp_at_zero Go.wp_at_succ
set_option maxHeartbeats 4000000 in
set_option maxRecDepth 100000 in
theorem gsave_any {F : Nat → Prop} {b : Nat} {s : Gp} {w : World} (hG : Gam w F b s) (hg : GoodG s) :
    Calls Tryz.prog 38 #[.pointer (some ⟨b, 0, none⟩)] w
      (Post w F b (saveG s).1 (saveG s).2.code (saveG s).2.n) := by
  have HGM := St.hid hG
  have hRPW := St.hid (Rp.rowIs4 w 0 0 (.slice none 0 0) (.slice none 0 0) 31)
  have HBW := St.hid (bal (Below.refl _ w) (.cells #[.int .i64 0, .int .i64 0, .slice none 0 0, .slice none 0 0] 31))
  obtain ⟨v, vs, sv, Fs, hG⟩ := hG
  have hbz := hG.lt b hG.own
  have HG := St.hid hG
  have hfew := hg.few
  obtain ⟨asv, csv, rfl, -⟩ := Sw.owns_slice hG.svs
  obtain ⟨a, n, c, rfl⟩ := hG.now.one
  obtain ⟨x0, x1, x2, x3, x4, x5, x6⟩ := gcells hG.row
  clear hG hg
  obtain ⟨m, hm⟩ : ∃ m, m = s.saves.length := ⟨_, rfl⟩
  by_cases h0 : 3 ≤ s.saves.length
  · have e : saveG s = (s, no 5) := by unfold saveG; rw [if_pos h0]
    rw [e]
    rw [← hm] at x5 hfew h0
    clear e hm
    go_enter Tryz.func38, Tryz.ntmps38
    go_wp2_with fail
    refine (refused_any 5 _).mono ?_
    rintro e w2 ⟨rfl, hb2⟩
    have hRP2 := St.hid (rowIs_below hRPW.out hb2)
    have HB2 := St.hid (bcall HBW.out hb2)
    clear hb2
    obtain ⟨p0, p1, p2, p3⟩ := Rp.rcells hRP2.out
    have p4 := hRP2.out.frozen 0
    have p5 := hRP2.out.frozen 1
    have p6 := hRP2.out.frozen 2
    have p7 := hRP2.out.frozen 3
    go_wp2_with fail
    obtain ⟨q0, q1, q2, q3⟩ := four (put4 hRP2.out (.int .i64 5) (.int .i64 0) (.slice none 0 0) (.slice none 0 0))
    exact bodyPost_ret (v := .agg #[.int .i64 5, .int .i64 0, .slice none 0 0, .slice none 0 0]) (by simp [results, Tryz.results38, go_sem, q0, q1, q2, q3]) rfl (post_same HGM.out HB2.out (by omega) _ _ _ _)
  · have e : saveG s = ({ s with saves := s.saves ++ [s.now] }, ⟨0, s.saves.length, [], []⟩) := by unfold saveG; rw [if_neg h0]
    rw [e]
    rw [← hm] at x5 hfew h0
    simp only []
    rw [← hm]
    have HM := St.hid hm
    clear e hm
    go_enter Tryz.func38, Tryz.ntmps38
    go_wp2_with fail
    have hzW : (w.alloc (.cells #[.int .i64 0, .int .i64 0, .slice none 0 0, .slice none 0 0] 31)).heap.size = w.heap.size + 1 := by simp
    have HGR := St.hid (HG.out.below HBW.out)
    have HSV : Hid ((w.alloc (.cells #[.int .i64 0, .int .i64 0, .slice none 0 0, .slice none 0 0] 31)).ownsRow 0 45 5 (.slice asv m csv) m (saveCells (sv.zip s.saves))) := St.hid (by have h := HGR.out.svs; rw [← HM.out] at h; exact h)
    rw [← HM.out] at HGR
    obtain ⟨i26, hi26, hz26, hs26, hb26⟩ := info_parts info26
    generalize w.alloc (.cells #[.int .i64 0, .int .i64 0, .slice none 0 0, .slice none 0 0] 31) = W at hRPW HBW HGR HSV hzW ⊢
    clear x0 x1 x2 x3 x4 x5 x6
    refine Rg.wp_region_inv (by kernel_rfl) (fun Lf a1 w1 => ∃ v12 v13 v14 v15 v16 v17 v18 v19 v20 v21 v22 v23 v24 v25 : Value, a1 = ⟨List.toArray ((.pointer (some ⟨b, 0, none⟩) : Value) :: (undef : Value) :: (.pointer (some ⟨w.heap.size, 0, none⟩) : Value) :: (.int .i64 m : Value) :: (.pointer (some ⟨b, 0, none⟩) : Value) :: (.pointer (some ⟨b, 0, none⟩) : Value) :: (.pointer (some ⟨b, 5, none⟩) : Value) :: (.slice asv m csv : Value) :: (.int .i64 m : Value) :: (.int .i64 m : Value) :: (.bool (decide (3 ≤ (m : Int))) : Value) :: (undef : Value) :: v12 :: v13 :: v14 :: v15 :: v16 :: v17 :: v18 :: v19 :: v20 :: v21 :: v22 :: v23 :: v24 :: v25 :: (undef : Value) :: (undef : Value) :: []), []⟩ ∧ Hid (Lf 0 = true → v12 = .pointer (some ⟨b, 0, none⟩)) ∧ Hid (Lf 1 = true → v13 = .pointer (some ⟨b, 0, none⟩)) ∧ Hid (Lf 2 = true → v14 = .pointer (some ⟨b, 0, none⟩)) ∧ Hid (Lf 3 = true → v15 = .pointer (some ⟨b, 5, none⟩)) ∧ Hid (Lf 4 = true → v16 = .slice asv m csv) ∧ Hid (Lf 5 = true → v17 = .pointer (some ⟨b, 0, none⟩)) ∧ Hid (Lf 6 = true → v18 = .pointer (some ⟨b, 0, none⟩)) ∧ Hid (Lf 7 = true → v19 = .pointer (some ⟨b, 0, none⟩)) ∧ Hid (Lf 8 = true → v20 = .agg #[.slice a n c, .int .i64 s.now.next, .int .i64 s.now.fall, .int .i64 s.now.wide, .int .i64 s.now.high]) ∧ Hid (Lf 12 = true → v24 = .pointer (some ⟨b, 0, none⟩)) ∧ Hid (Lf 13 = true → v25 = .pointer (some ⟨b, 5, none⟩)) ∧ Hid (Lf 11 = false → Below W.heap.size W w1) ∧ Hid (Dn Lf) ∧ Hid (Lf 14 = true → ∀ j, j < 14 → Lf j = true) ∧ Hid (Lf 9 = true → Lf 11 = false → ∃ (a1 : Option Addr) (n1 d1 : Nat) (F1 : Nat → Prop), v21 = .agg #[.slice a1 n1 d1, .int .i64 s.now.next, .int .i64 s.now.fall, .int .i64 s.now.wide, .int .i64 s.now.high] ∧ Sto w1 F1 (.slice a1 n1 d1) s.now.L ∧ ∀ z, F1 z → W.heap.size ≤ z) ∧ Hid (Lf 10 = true → Lf 11 = false → ∃ (a1 : Option Addr) (n1 d1 : Nat) (F1 : Nat → Prop) (g : Nat), v22 = .slice (some ⟨g, 0, none⟩) 1 1 ∧ w1.rowIs g 45 5 (wcell (.slice a1 n1 d1) s.now.next s.now.fall s.now.wide s.now.high) ∧ Sto w1 F1 (.slice a1 n1 d1) s.now.L ∧ (∀ z, F1 z → W.heap.size ≤ z) ∧ ¬ F1 g ∧ W.heap.size ≤ g) ∧ Hid (Lf 11 = true → Lf 14 = false → ∃ (u : Value) (F1 : Nat → Prop), Mid W s asv m csv sv w1 v23 u F1) ∧ Hid (Lf 14 = true → ∃ (W1 : World) (v1 u : Value) (F1 : Nat → Prop), Mid W s asv m csv sv W1 v1 u F1 ∧ w1 = W1.setCell ⟨b, 5, none⟩ v1)) (by kernel_rfl) ?rs ?rg ?re
    case rs =>
      refine ⟨_, _, _, _, _, _, _, _, _, _, _, _, _, _, rfl, St.hid (fun h => by cases h), St.hid (fun h => by cases h), St.hid (fun h => by cases h), St.hid (fun h => by cases h), St.hid (fun h => by cases h), St.hid (fun h => by cases h), St.hid (fun h => by cases h), St.hid (fun h => by cases h), St.hid (fun h => by cases h), St.hid (fun h => by cases h), St.hid (fun h => by cases h), St.hid (fun _ => Below.drew (Below.refl _ W)), St.hid (fun p _ h => by cases h), St.hid (fun h => by cases h), St.hid (fun h => by cases h), St.hid (fun h => by cases h), St.hid (fun h => by cases h), St.hid (fun h => by cases h)⟩
    case rg =>
      intro Lf a1 w1 hI
      obtain ⟨v12, v13, v14, v15, v16, v17, v18, v19, v20, v21, v22, v23, v24, v25, rfl, c0, c1, c2, c3, c4, c5, c6, c7, c8, c12, c13, cB, cT, cR, c9, c10, c11, cF⟩ := hI
      refine ⟨fun hl hd K' hK => ?o0, fun hl hd K' hK => ?o1, fun hl hd K' hK => ?o2, fun hl hd K' hK => ?o3, fun hl hd K' hK => ?o4, fun hl hd K' hK => ?o5, fun hl hd K' hK => ?o6, fun hl hd K' hK => ?o7, fun hl hd K' hK => ?o8, fun hl hd K' hK => ?o9, fun hl hd K' hK => ?o10, fun hl hd K' hK => ?o11, fun hl hd K' hK => ?o12, fun hl hd K' hK => ?o13, fun hl hd K' hK => ?o14, trivial⟩
      case o0 =>
        clear hd
        have h14 := Rg.late cR.out (by decide : 0 < 14) hl
        go_simp
        refine hK.out _ _ ⟨_, _, _, _, _, _, _, _, _, _, _, _, _, _, rfl, St.hid (fun _ => rfl), St.hid (fun h => c1.out (Rg.up_ne h (by decide))), St.hid (fun h => c2.out (Rg.up_ne h (by decide))), St.hid (fun h => c3.out (Rg.up_ne h (by decide))), St.hid (fun h => c4.out (Rg.up_ne h (by decide))), St.hid (fun h => c5.out (Rg.up_ne h (by decide))), St.hid (fun h => c6.out (Rg.up_ne h (by decide))), St.hid (fun h => c7.out (Rg.up_ne h (by decide))), St.hid (fun h => c8.out (Rg.up_ne h (by decide))), St.hid (fun h => c12.out (Rg.up_ne h (by decide))), St.hid (fun h => c13.out (Rg.up_ne h (by decide))), St.hid (fun h => cB.out (Rg.up_f h)), St.hid (cT.out.up (fun p hp e => by simp [D] at hp; rcases hp with rfl | rfl | rfl | rfl | rfl | rfl | rfl | rfl | rfl | rfl | rfl <;> first | (exfalso; revert e; decide) | exact hd | exact hd.1 | exact hd.2.1)), St.hid (fun h => by have h0 := Rg.up_ne h (by decide); rw [h14] at h0; cases h0), St.hid (fun h h2 => c9.out (Rg.up_ne h (by decide)) (Rg.up_f h2)), St.hid (fun h h2 => c10.out (Rg.up_ne h (by decide)) (Rg.up_f h2)), St.hid (fun h h2 => c11.out (Rg.up_ne h (by decide)) (Rg.up_f h2)), St.hid (fun h => by have h0 := Rg.up_ne h (by decide); rw [h14] at h0; cases h0)⟩
      case o1 =>
        clear hd
        have h11 := Dn.late cT.out (by decide : 1 ∈ [1, 2, 3, 4, 5, 6, 7, 8, 9, 10]) hl
        have h14 := Rg.late cR.out (by decide : 1 < 14) hl
        have hbel := cB.out h11
        go_simp
        refine hK.out _ _ ⟨_, _, _, _, _, _, _, _, _, _, _, _, _, _, rfl, St.hid (fun h => c0.out (Rg.up_ne h (by decide))), St.hid (fun _ => rfl), St.hid (fun h => c2.out (Rg.up_ne h (by decide))), St.hid (fun h => c3.out (Rg.up_ne h (by decide))), St.hid (fun h => c4.out (Rg.up_ne h (by decide))), St.hid (fun h => c5.out (Rg.up_ne h (by decide))), St.hid (fun h => c6.out (Rg.up_ne h (by decide))), St.hid (fun h => c7.out (Rg.up_ne h (by decide))), St.hid (fun h => c8.out (Rg.up_ne h (by decide))), St.hid (fun h => c12.out (Rg.up_ne h (by decide))), St.hid (fun h => c13.out (Rg.up_ne h (by decide))), St.hid (fun _ => hbel), St.hid (cT.out.up (fun p hp e => by simp [D] at hp; rcases hp with rfl | rfl | rfl | rfl | rfl | rfl | rfl | rfl | rfl | rfl | rfl <;> first | (exfalso; revert e; decide) | exact hd | exact hd.1 | exact hd.2.1)), St.hid (fun h => by have h0 := Rg.up_ne h (by decide); rw [h14] at h0; cases h0), St.hid (fun h _ => c9.out (Rg.up_ne h (by decide)) h11), St.hid (fun h _ => c10.out (Rg.up_ne h (by decide)) h11), St.hid (fun h _ => by have h0 := Rg.up_ne h (by decide); rw [h11] at h0; cases h0), St.hid (fun h => by have h0 := Rg.up_ne h (by decide); rw [h14] at h0; cases h0)⟩
      case o2 =>
        simp [Rg.deps, Region.binds] at hd
        obtain rfl := c1.out hd
        have h11 := Dn.late cT.out (by decide : 2 ∈ [1, 2, 3, 4, 5, 6, 7, 8, 9, 10]) hl
        have h14 := Rg.late cR.out (by decide : 2 < 14) hl
        have hbel := cB.out h11
        go_simp
        refine hK.out _ _ ⟨_, _, _, _, _, _, _, _, _, _, _, _, _, _, rfl, St.hid (fun h => c0.out (Rg.up_ne h (by decide))), St.hid (fun h => c1.out (Rg.up_ne h (by decide))), St.hid (fun _ => rfl), St.hid (fun h => c3.out (Rg.up_ne h (by decide))), St.hid (fun h => c4.out (Rg.up_ne h (by decide))), St.hid (fun h => c5.out (Rg.up_ne h (by decide))), St.hid (fun h => c6.out (Rg.up_ne h (by decide))), St.hid (fun h => c7.out (Rg.up_ne h (by decide))), St.hid (fun h => c8.out (Rg.up_ne h (by decide))), St.hid (fun h => c12.out (Rg.up_ne h (by decide))), St.hid (fun h => c13.out (Rg.up_ne h (by decide))), St.hid (fun _ => hbel), St.hid (cT.out.up (fun p hp e => by simp [D] at hp; rcases hp with rfl | rfl | rfl | rfl | rfl | rfl | rfl | rfl | rfl | rfl | rfl <;> first | (exfalso; revert e; decide) | exact hd | exact hd.1 | exact hd.2.1)), St.hid (fun h => by have h0 := Rg.up_ne h (by decide); rw [h14] at h0; cases h0), St.hid (fun h _ => c9.out (Rg.up_ne h (by decide)) h11), St.hid (fun h _ => c10.out (Rg.up_ne h (by decide)) h11), St.hid (fun h _ => by have h0 := Rg.up_ne h (by decide); rw [h11] at h0; cases h0), St.hid (fun h => by have h0 := Rg.up_ne h (by decide); rw [h14] at h0; cases h0)⟩
      case o3 =>
        simp [Rg.deps, Region.binds] at hd
        obtain rfl := c2.out hd
        have h11 := Dn.late cT.out (by decide : 3 ∈ [1, 2, 3, 4, 5, 6, 7, 8, 9, 10]) hl
        have h14 := Rg.late cR.out (by decide : 3 < 14) hl
        have hbel := cB.out h11
        go_simp
        refine hK.out _ _ ⟨_, _, _, _, _, _, _, _, _, _, _, _, _, _, rfl, St.hid (fun h => c0.out (Rg.up_ne h (by decide))), St.hid (fun h => c1.out (Rg.up_ne h (by decide))), St.hid (fun h => c2.out (Rg.up_ne h (by decide))), St.hid (fun _ => rfl), St.hid (fun h => c4.out (Rg.up_ne h (by decide))), St.hid (fun h => c5.out (Rg.up_ne h (by decide))), St.hid (fun h => c6.out (Rg.up_ne h (by decide))), St.hid (fun h => c7.out (Rg.up_ne h (by decide))), St.hid (fun h => c8.out (Rg.up_ne h (by decide))), St.hid (fun h => c12.out (Rg.up_ne h (by decide))), St.hid (fun h => c13.out (Rg.up_ne h (by decide))), St.hid (fun _ => hbel), St.hid (cT.out.up (fun p hp e => by simp [D] at hp; rcases hp with rfl | rfl | rfl | rfl | rfl | rfl | rfl | rfl | rfl | rfl | rfl <;> first | (exfalso; revert e; decide) | exact hd | exact hd.1 | exact hd.2.1)), St.hid (fun h => by have h0 := Rg.up_ne h (by decide); rw [h14] at h0; cases h0), St.hid (fun h _ => c9.out (Rg.up_ne h (by decide)) h11), St.hid (fun h _ => c10.out (Rg.up_ne h (by decide)) h11), St.hid (fun h _ => by have h0 := Rg.up_ne h (by decide); rw [h11] at h0; cases h0), St.hid (fun h => by have h0 := Rg.up_ne h (by decide); rw [h14] at h0; cases h0)⟩
      case o4 =>
        simp [Rg.deps, Region.binds] at hd
        obtain rfl := c3.out hd
        have h11 := Dn.late cT.out (by decide : 4 ∈ [1, 2, 3, 4, 5, 6, 7, 8, 9, 10]) hl
        have h14 := Rg.late cR.out (by decide : 4 < 14) hl
        have hbel := cB.out h11
        obtain ⟨x0, x1, x2, x3, x4, x5, x6⟩ := gcells (HGR.out.below hbel).row
        go_simp
        refine hK.out _ _ ⟨_, _, _, _, _, _, _, _, _, _, _, _, _, _, rfl, St.hid (fun h => c0.out (Rg.up_ne h (by decide))), St.hid (fun h => c1.out (Rg.up_ne h (by decide))), St.hid (fun h => c2.out (Rg.up_ne h (by decide))), St.hid (fun h => c3.out (Rg.up_ne h (by decide))), St.hid (fun _ => rfl), St.hid (fun h => c5.out (Rg.up_ne h (by decide))), St.hid (fun h => c6.out (Rg.up_ne h (by decide))), St.hid (fun h => c7.out (Rg.up_ne h (by decide))), St.hid (fun h => c8.out (Rg.up_ne h (by decide))), St.hid (fun h => c12.out (Rg.up_ne h (by decide))), St.hid (fun h => c13.out (Rg.up_ne h (by decide))), St.hid (fun _ => hbel), St.hid (cT.out.up (fun p hp e => by simp [D] at hp; rcases hp with rfl | rfl | rfl | rfl | rfl | rfl | rfl | rfl | rfl | rfl | rfl <;> first | (exfalso; revert e; decide) | exact hd | exact hd.1 | exact hd.2.1)), St.hid (fun h => by have h0 := Rg.up_ne h (by decide); rw [h14] at h0; cases h0), St.hid (fun h _ => c9.out (Rg.up_ne h (by decide)) h11), St.hid (fun h _ => c10.out (Rg.up_ne h (by decide)) h11), St.hid (fun h _ => by have h0 := Rg.up_ne h (by decide); rw [h11] at h0; cases h0), St.hid (fun h => by have h0 := Rg.up_ne h (by decide); rw [h14] at h0; cases h0)⟩
      case o5 =>
        clear hd
        have h11 := Dn.late cT.out (by decide : 5 ∈ [1, 2, 3, 4, 5, 6, 7, 8, 9, 10]) hl
        have h14 := Rg.late cR.out (by decide : 5 < 14) hl
        have hbel := cB.out h11
        go_simp
        refine hK.out _ _ ⟨_, _, _, _, _, _, _, _, _, _, _, _, _, _, rfl, St.hid (fun h => c0.out (Rg.up_ne h (by decide))), St.hid (fun h => c1.out (Rg.up_ne h (by decide))), St.hid (fun h => c2.out (Rg.up_ne h (by decide))), St.hid (fun h => c3.out (Rg.up_ne h (by decide))), St.hid (fun h => c4.out (Rg.up_ne h (by decide))), St.hid (fun _ => rfl), St.hid (fun h => c6.out (Rg.up_ne h (by decide))), St.hid (fun h => c7.out (Rg.up_ne h (by decide))), St.hid (fun h => c8.out (Rg.up_ne h (by decide))), St.hid (fun h => c12.out (Rg.up_ne h (by decide))), St.hid (fun h => c13.out (Rg.up_ne h (by decide))), St.hid (fun _ => hbel), St.hid (cT.out.up (fun p hp e => by simp [D] at hp; rcases hp with rfl | rfl | rfl | rfl | rfl | rfl | rfl | rfl | rfl | rfl | rfl <;> first | (exfalso; revert e; decide) | exact hd | exact hd.1 | exact hd.2.1)), St.hid (fun h => by have h0 := Rg.up_ne h (by decide); rw [h14] at h0; cases h0), St.hid (fun h _ => c9.out (Rg.up_ne h (by decide)) h11), St.hid (fun h _ => c10.out (Rg.up_ne h (by decide)) h11), St.hid (fun h _ => by have h0 := Rg.up_ne h (by decide); rw [h11] at h0; cases h0), St.hid (fun h => by have h0 := Rg.up_ne h (by decide); rw [h14] at h0; cases h0)⟩
      case o6 =>
        simp [Rg.deps, Region.binds] at hd
        obtain rfl := c5.out hd
        have h11 := Dn.late cT.out (by decide : 6 ∈ [1, 2, 3, 4, 5, 6, 7, 8, 9, 10]) hl
        have h14 := Rg.late cR.out (by decide : 6 < 14) hl
        have hbel := cB.out h11
        go_simp
        refine hK.out _ _ ⟨_, _, _, _, _, _, _, _, _, _, _, _, _, _, rfl, St.hid (fun h => c0.out (Rg.up_ne h (by decide))), St.hid (fun h => c1.out (Rg.up_ne h (by decide))), St.hid (fun h => c2.out (Rg.up_ne h (by decide))), St.hid (fun h => c3.out (Rg.up_ne h (by decide))), St.hid (fun h => c4.out (Rg.up_ne h (by decide))), St.hid (fun h => c5.out (Rg.up_ne h (by decide))), St.hid (fun _ => rfl), St.hid (fun h => c7.out (Rg.up_ne h (by decide))), St.hid (fun h => c8.out (Rg.up_ne h (by decide))), St.hid (fun h => c12.out (Rg.up_ne h (by decide))), St.hid (fun h => c13.out (Rg.up_ne h (by decide))), St.hid (fun _ => hbel), St.hid (cT.out.up (fun p hp e => by simp [D] at hp; rcases hp with rfl | rfl | rfl | rfl | rfl | rfl | rfl | rfl | rfl | rfl | rfl <;> first | (exfalso; revert e; decide) | exact hd | exact hd.1 | exact hd.2.1)), St.hid (fun h => by have h0 := Rg.up_ne h (by decide); rw [h14] at h0; cases h0), St.hid (fun h _ => c9.out (Rg.up_ne h (by decide)) h11), St.hid (fun h _ => c10.out (Rg.up_ne h (by decide)) h11), St.hid (fun h _ => by have h0 := Rg.up_ne h (by decide); rw [h11] at h0; cases h0), St.hid (fun h => by have h0 := Rg.up_ne h (by decide); rw [h14] at h0; cases h0)⟩
      case o7 =>
        simp [Rg.deps, Region.binds] at hd
        obtain rfl := c6.out hd
        have h11 := Dn.late cT.out (by decide : 7 ∈ [1, 2, 3, 4, 5, 6, 7, 8, 9, 10]) hl
        have h14 := Rg.late cR.out (by decide : 7 < 14) hl
        have hbel := cB.out h11
        go_simp
        refine hK.out _ _ ⟨_, _, _, _, _, _, _, _, _, _, _, _, _, _, rfl, St.hid (fun h => c0.out (Rg.up_ne h (by decide))), St.hid (fun h => c1.out (Rg.up_ne h (by decide))), St.hid (fun h => c2.out (Rg.up_ne h (by decide))), St.hid (fun h => c3.out (Rg.up_ne h (by decide))), St.hid (fun h => c4.out (Rg.up_ne h (by decide))), St.hid (fun h => c5.out (Rg.up_ne h (by decide))), St.hid (fun h => c6.out (Rg.up_ne h (by decide))), St.hid (fun _ => rfl), St.hid (fun h => c8.out (Rg.up_ne h (by decide))), St.hid (fun h => c12.out (Rg.up_ne h (by decide))), St.hid (fun h => c13.out (Rg.up_ne h (by decide))), St.hid (fun _ => hbel), St.hid (cT.out.up (fun p hp e => by simp [D] at hp; rcases hp with rfl | rfl | rfl | rfl | rfl | rfl | rfl | rfl | rfl | rfl | rfl <;> first | (exfalso; revert e; decide) | exact hd | exact hd.1 | exact hd.2.1)), St.hid (fun h => by have h0 := Rg.up_ne h (by decide); rw [h14] at h0; cases h0), St.hid (fun h _ => c9.out (Rg.up_ne h (by decide)) h11), St.hid (fun h _ => c10.out (Rg.up_ne h (by decide)) h11), St.hid (fun h _ => by have h0 := Rg.up_ne h (by decide); rw [h11] at h0; cases h0), St.hid (fun h => by have h0 := Rg.up_ne h (by decide); rw [h14] at h0; cases h0)⟩
      case o8 =>
        simp [Rg.deps, Region.binds] at hd
        obtain rfl := c7.out hd
        have h11 := Dn.late cT.out (by decide : 8 ∈ [1, 2, 3, 4, 5, 6, 7, 8, 9, 10]) hl
        have h14 := Rg.late cR.out (by decide : 8 < 14) hl
        have hbel := cB.out h11
        obtain ⟨x0, x1, x2, x3, x4, x5, x6⟩ := gcells (HGR.out.below hbel).row
        go_simp
        refine hK.out _ _ ⟨_, _, _, _, _, _, _, _, _, _, _, _, _, _, rfl, St.hid (fun h => c0.out (Rg.up_ne h (by decide))), St.hid (fun h => c1.out (Rg.up_ne h (by decide))), St.hid (fun h => c2.out (Rg.up_ne h (by decide))), St.hid (fun h => c3.out (Rg.up_ne h (by decide))), St.hid (fun h => c4.out (Rg.up_ne h (by decide))), St.hid (fun h => c5.out (Rg.up_ne h (by decide))), St.hid (fun h => c6.out (Rg.up_ne h (by decide))), St.hid (fun h => c7.out (Rg.up_ne h (by decide))), St.hid (fun _ => rfl), St.hid (fun h => c12.out (Rg.up_ne h (by decide))), St.hid (fun h => c13.out (Rg.up_ne h (by decide))), St.hid (fun _ => hbel), St.hid (cT.out.up (fun p hp e => by simp [D] at hp; rcases hp with rfl | rfl | rfl | rfl | rfl | rfl | rfl | rfl | rfl | rfl | rfl <;> first | (exfalso; revert e; decide) | exact hd | exact hd.1 | exact hd.2.1)), St.hid (fun h => by have h0 := Rg.up_ne h (by decide); rw [h14] at h0; cases h0), St.hid (fun h _ => c9.out (Rg.up_ne h (by decide)) h11), St.hid (fun h _ => c10.out (Rg.up_ne h (by decide)) h11), St.hid (fun h _ => by have h0 := Rg.up_ne h (by decide); rw [h11] at h0; cases h0), St.hid (fun h => by have h0 := Rg.up_ne h (by decide); rw [h14] at h0; cases h0)⟩
      case o9 =>
        simp [Rg.deps, Region.binds] at hd
        obtain rfl := c8.out hd
        have h11 := Dn.late cT.out (by decide : 9 ∈ [1, 2, 3, 4, 5, 6, 7, 8, 9, 10]) hl
        have h14 := Rg.late cR.out (by decide : 9 < 14) hl
        have hbel := cB.out h11
        go_simp
        refine (copied_any s.now.next s.now.fall s.now.wide s.now.high (HGR.out.now.below hbel)).mono ?_
        rintro e w2 ⟨⟨a1, n1, d1, rfl, F1, hs1, hF1⟩, hb⟩
        refine hK.out _ _ ⟨_, _, _, _, _, _, _, _, _, _, _, _, _, _, rfl, St.hid (fun h => c0.out (Rg.up_ne h (by decide))), St.hid (fun h => c1.out (Rg.up_ne h (by decide))), St.hid (fun h => c2.out (Rg.up_ne h (by decide))), St.hid (fun h => c3.out (Rg.up_ne h (by decide))), St.hid (fun h => c4.out (Rg.up_ne h (by decide))), St.hid (fun h => c5.out (Rg.up_ne h (by decide))), St.hid (fun h => c6.out (Rg.up_ne h (by decide))), St.hid (fun h => c7.out (Rg.up_ne h (by decide))), St.hid (fun h => c8.out (Rg.up_ne h (by decide))), St.hid (fun h => c12.out (Rg.up_ne h (by decide))), St.hid (fun h => c13.out (Rg.up_ne h (by decide))), St.hid (fun _ => bcall hbel hb), St.hid (cT.out.up (fun p hp e => by simp [D] at hp; rcases hp with rfl | rfl | rfl | rfl | rfl | rfl | rfl | rfl | rfl | rfl | rfl <;> first | (exfalso; revert e; decide) | exact hd | exact hd.1 | exact hd.2.1)), St.hid (fun h => by have h0 := Rg.up_ne h (by decide); rw [h14] at h0; cases h0), St.hid (fun _ _ => ⟨a1, n1, d1, F1, rfl, hs1, fun z hz => Nat.le_trans hbel.size (hF1 z hz)⟩), St.hid (fun h _ => by obtain ⟨p1, p2, p3, p4, p5, p6, p7, p8, p9⟩ := c10.out (Rg.up_ne h (by decide)) h11; exact ⟨p1, p2, p3, p4, p5, p6, rowIs_below p7 hb, p8.below hb, p9⟩), St.hid (fun h _ => by have h0 := Rg.up_ne h (by decide); rw [h11] at h0; cases h0), St.hid (fun h => by have h0 := Rg.up_ne h (by decide); rw [h14] at h0; cases h0)⟩
      case o10 =>
        simp [Rg.deps, Region.binds] at hd
        have h11 := Dn.late cT.out (by decide : 10 ∈ [1, 2, 3, 4, 5, 6, 7, 8, 9, 10]) hl
        have h14 := Rg.late cR.out (by decide : 10 < 14) hl
        have hbel := cB.out h11
        obtain ⟨a1, n1, d1, F1, rfl, hs1, hF1⟩ := c9.out hd h11
        go_simp
        refine hK.out _ _ ⟨_, _, _, _, _, _, _, _, _, _, _, _, _, _, rfl, St.hid (fun h => c0.out (Rg.up_ne h (by decide))), St.hid (fun h => c1.out (Rg.up_ne h (by decide))), St.hid (fun h => c2.out (Rg.up_ne h (by decide))), St.hid (fun h => c3.out (Rg.up_ne h (by decide))), St.hid (fun h => c4.out (Rg.up_ne h (by decide))), St.hid (fun h => c5.out (Rg.up_ne h (by decide))), St.hid (fun h => c6.out (Rg.up_ne h (by decide))), St.hid (fun h => c7.out (Rg.up_ne h (by decide))), St.hid (fun h => c8.out (Rg.up_ne h (by decide))), St.hid (fun h => c12.out (Rg.up_ne h (by decide))), St.hid (fun h => c13.out (Rg.up_ne h (by decide))), St.hid (fun _ => bal hbel _), St.hid (cT.out.up (fun p hp e => by simp [D] at hp; rcases hp with rfl | rfl | rfl | rfl | rfl | rfl | rfl | rfl | rfl | rfl | rfl <;> first | (exfalso; revert e; decide) | exact hd | exact hd.1 | exact hd.2.1)), St.hid (fun h => by have h0 := Rg.up_ne h (by decide); rw [h14] at h0; cases h0), St.hid (fun _ _ => ⟨a1, n1, d1, F1, rfl, hs1.below (bal (Below.refl _ _) _), hF1⟩), St.hid (fun _ _ => ⟨a1, n1, d1, F1, _, rfl, rowIs5 _ _ _ _ _ _ _, hs1.below (bal (Below.refl _ _) _), hF1, (fun hc => by have := hs1.lt hc; omega), hbel.size⟩), St.hid (fun h _ => by have h0 := Rg.up_ne h (by decide); rw [h11] at h0; cases h0), St.hid (fun h => by have h0 := Rg.up_ne h (by decide); rw [h14] at h0; cases h0)⟩
      case o11 =>
        simp [Rg.deps, Region.binds] at hd
        have h14 := Rg.late cR.out (by decide : 11 < 14) hl
        obtain rfl := c4.out hd.1
        obtain ⟨a1, n1, d1, F1, g, rfl, hrow, hs1, hF1, hng, hgl⟩ := c10.out hd.2.1 hl
        have hbel := cB.out hl
        have hsv := owns_below HSV.out hbel
        obtain ⟨k0, k1, k2, k3, k4, -, -, -, -, -⟩ := wcells hrow
        have hgw := hrow.lt
        rw [if_pos (by rfl)]
        refine wp_append_at w1 (.tmp 16) (.tmp 22) 82 rfl 0 45 i26 (.agg #[.slice none 0 0, .int .i64 0, .int .i64 0, .int .i64 0, .int .i64 0]) 5 56 Tryz.underlying82 hi26 hz26 hs26 hb26 rfl (by decide) _ _ _ rfl hsv ⟨g, 0, none⟩ 1 1 [.slice a1 n1 d1, .int .i64 s.now.next, .int .i64 s.now.fall, .int .i64 s.now.wide, .int .i64 s.now.high] rfl rfl ?d2 ?d3 ?d4 ?d5 (Nat.zero_le _) ?_
        case d2 =>
          intro j u hj
          match j, hj with
          | 0, hj => cases hj; exact k0
          | 1, hj => cases hj; exact k1
          | 2, hj => cases hj; exact k2
          | 3, hj => cases hj; exact k3
          | 4, hj => cases hj; exact k4
        case d3 => intro u hu; simp at hu; rcases hu with rfl | rfl | rfl | rfl | rfl <;> rfl
        case d4 => unfold maxLen; omega
        case d5 => omega
        intro v' w2 hown2 hg2 hat2
        have hMid : Mid W s asv m csv sv w2 v' (.slice a1 n1 d1) F1 := by
          refine ⟨own_form hown2, hown2, ⟨w1, hbel, hg2⟩, hs1.keep hg2.size (fun z hz => hg2.block z (hs1.lt hz) (fun e => ?_)), hF1, ?_⟩
          · have h1 := (HSV.out.lt z e.symm).2; have h2 := hF1 z hz; omega
          · rcases hat2 with h | h
            · exact Or.inl h
            · exact Or.inr ⟨_, h, hbel.size, fun hc => by have := hs1.lt hc; omega⟩
        refine hK.out _ _ ⟨_, _, _, _, _, _, _, _, _, _, _, _, _, _, rfl, St.hid (fun h => c0.out (Rg.up_ne h (by decide))), St.hid (fun h => c1.out (Rg.up_ne h (by decide))), St.hid (fun h => c2.out (Rg.up_ne h (by decide))), St.hid (fun h => c3.out (Rg.up_ne h (by decide))), St.hid (fun h => c4.out (Rg.up_ne h (by decide))), St.hid (fun h => c5.out (Rg.up_ne h (by decide))), St.hid (fun h => c6.out (Rg.up_ne h (by decide))), St.hid (fun h => c7.out (Rg.up_ne h (by decide))), St.hid (fun h => c8.out (Rg.up_ne h (by decide))), St.hid (fun h => c12.out (Rg.up_ne h (by decide))), St.hid (fun h => c13.out (Rg.up_ne h (by decide))), St.hid (fun h => by simp [Rg.up] at h), St.hid (cT.out.up (fun p hp e => by simp [D] at hp; rcases hp with rfl | rfl | rfl | rfl | rfl | rfl | rfl | rfl | rfl | rfl | rfl <;> first | (exfalso; revert e; decide) | exact hd | exact hd.1 | exact hd.2.1)), St.hid (fun h => by have h0 := Rg.up_ne h (by decide); rw [h14] at h0; cases h0), St.hid (fun _ h => by simp [Rg.up] at h), St.hid (fun _ h => by simp [Rg.up] at h), St.hid (fun _ _ => ⟨_, F1, hMid⟩), St.hid (fun h => by have h0 := Rg.up_ne h (by decide); rw [h14] at h0; cases h0)⟩
      case o12 =>
        simp [Rg.deps, Region.binds] at hd
        have h14 := Rg.late cR.out (by decide : 12 < 14) hl
        obtain rfl := c0.out hd.1
        go_simp
        refine hK.out _ _ ⟨_, _, _, _, _, _, _, _, _, _, _, _, _, _, rfl, St.hid (fun h => c0.out (Rg.up_ne h (by decide))), St.hid (fun h => c1.out (Rg.up_ne h (by decide))), St.hid (fun h => c2.out (Rg.up_ne h (by decide))), St.hid (fun h => c3.out (Rg.up_ne h (by decide))), St.hid (fun h => c4.out (Rg.up_ne h (by decide))), St.hid (fun h => c5.out (Rg.up_ne h (by decide))), St.hid (fun h => c6.out (Rg.up_ne h (by decide))), St.hid (fun h => c7.out (Rg.up_ne h (by decide))), St.hid (fun h => c8.out (Rg.up_ne h (by decide))), St.hid (fun _ => rfl), St.hid (fun h => c13.out (Rg.up_ne h (by decide))), St.hid (fun h => cB.out (Rg.up_f h)), St.hid (cT.out.up (fun p hp e => by simp [D] at hp; rcases hp with rfl | rfl | rfl | rfl | rfl | rfl | rfl | rfl | rfl | rfl | rfl <;> first | (exfalso; revert e; decide) | exact hd | exact hd.1 | exact hd.2.1)), St.hid (fun h => by have h0 := Rg.up_ne h (by decide); rw [h14] at h0; cases h0), St.hid (fun h h2 => c9.out (Rg.up_ne h (by decide)) (Rg.up_f h2)), St.hid (fun h h2 => c10.out (Rg.up_ne h (by decide)) (Rg.up_f h2)), St.hid (fun h h2 => c11.out (Rg.up_ne h (by decide)) (Rg.up_f h2)), St.hid (fun h => by have h0 := Rg.up_ne h (by decide); rw [h14] at h0; cases h0)⟩
      case o13 =>
        simp [Rg.deps, Region.binds] at hd
        have h14 := Rg.late cR.out (by decide : 13 < 14) hl
        obtain rfl := c12.out hd.1
        go_simp
        refine hK.out _ _ ⟨_, _, _, _, _, _, _, _, _, _, _, _, _, _, rfl, St.hid (fun h => c0.out (Rg.up_ne h (by decide))), St.hid (fun h => c1.out (Rg.up_ne h (by decide))), St.hid (fun h => c2.out (Rg.up_ne h (by decide))), St.hid (fun h => c3.out (Rg.up_ne h (by decide))), St.hid (fun h => c4.out (Rg.up_ne h (by decide))), St.hid (fun h => c5.out (Rg.up_ne h (by decide))), St.hid (fun h => c6.out (Rg.up_ne h (by decide))), St.hid (fun h => c7.out (Rg.up_ne h (by decide))), St.hid (fun h => c8.out (Rg.up_ne h (by decide))), St.hid (fun h => c12.out (Rg.up_ne h (by decide))), St.hid (fun _ => rfl), St.hid (fun h => cB.out (Rg.up_f h)), St.hid (cT.out.up (fun p hp e => by simp [D] at hp; rcases hp with rfl | rfl | rfl | rfl | rfl | rfl | rfl | rfl | rfl | rfl | rfl <;> first | (exfalso; revert e; decide) | exact hd | exact hd.1 | exact hd.2.1)), St.hid (fun h => by have h0 := Rg.up_ne h (by decide); rw [h14] at h0; cases h0), St.hid (fun h h2 => c9.out (Rg.up_ne h (by decide)) (Rg.up_f h2)), St.hid (fun h h2 => c10.out (Rg.up_ne h (by decide)) (Rg.up_f h2)), St.hid (fun h h2 => c11.out (Rg.up_ne h (by decide)) (Rg.up_f h2)), St.hid (fun h => by have h0 := Rg.up_ne h (by decide); rw [h14] at h0; cases h0)⟩
      case o14 =>
        simp [Rg.deps, Region.binds] at hd
        have h12 := cT.out (13, 12) (by simp [D]) hd.1
        have hall14 : ∀ j, j < 14 → Rg.up Lf 14 j = true := fun j hj => Rg.up_of (by have hj : j = 0 ∨ j = 1 ∨ j = 2 ∨ j = 3 ∨ j = 4 ∨ j = 5 ∨ j = 6 ∨ j = 7 ∨ j = 8 ∨ j = 9 ∨ j = 10 ∨ j = 11 ∨ j = 12 ∨ j = 13 := (by omega); rcases hj with rfl | rfl | rfl | rfl | rfl | rfl | rfl | rfl | rfl | rfl | rfl | rfl | rfl | rfl <;> simp only [hd, h12])
        obtain rfl := c13.out hd.1
        obtain ⟨u, F1, hMid⟩ := c11.out hd.2.1 hl
        obtain ⟨a', c', rfl⟩ := hMid.form
        obtain ⟨Wm, hbm, hgm⟩ := hMid.via
        have hrw := HGR.out.grownRow hbm hgm
        have hcell := hrw.cell (i := 5) (by omega)
        have hfr := hrw.frozen 5
        go_simp
        refine hK.out _ _ ⟨_, _, _, _, _, _, _, _, _, _, _, _, _, _, rfl, St.hid (fun h => c0.out (Rg.up_ne h (by decide))), St.hid (fun h => c1.out (Rg.up_ne h (by decide))), St.hid (fun h => c2.out (Rg.up_ne h (by decide))), St.hid (fun h => c3.out (Rg.up_ne h (by decide))), St.hid (fun h => c4.out (Rg.up_ne h (by decide))), St.hid (fun h => c5.out (Rg.up_ne h (by decide))), St.hid (fun h => c6.out (Rg.up_ne h (by decide))), St.hid (fun h => c7.out (Rg.up_ne h (by decide))), St.hid (fun h => c8.out (Rg.up_ne h (by decide))), St.hid (fun h => c12.out (Rg.up_ne h (by decide))), St.hid (fun h => c13.out (Rg.up_ne h (by decide))), St.hid (fun h => by have h0 := Rg.up_f h; simp [h0] at hd), St.hid (cT.out.up (fun p hp e => by simp [D] at hp; rcases hp with rfl | rfl | rfl | rfl | rfl | rfl | rfl | rfl | rfl | rfl | rfl <;> first | (exfalso; revert e; decide) | exact hd | exact hd.1 | exact hd.2.1)), St.hid (fun _ j hj => hall14 j hj), St.hid (fun _ h => by have h0 := Rg.up_f h; simp [h0] at hd), St.hid (fun _ h => by have h0 := Rg.up_f h; simp [h0] at hd), St.hid (fun _ h => by simp [Rg.up] at h), St.hid (fun _ => ⟨_, _, u, F1, hMid, rfl⟩)⟩
    case re =>
      intro Lf a1 w1 hI hall
      obtain ⟨v12, v13, v14, v15, v16, v17, v18, v19, v20, v21, v22, v23, v24, v25, rfl, c0, c1, c2, c3, c4, c5, c6, c7, c8, c12, c13, cB, cT, cR, c9, c10, c11, cF⟩ := hI
      obtain ⟨W1, v1, u, F1, hMid, rfl⟩ := cF.out (hall 14 (by decide))
      obtain ⟨Wm, hbm, hgm⟩ := hMid.via
      have HGA := St.hid (HGR.out.addSave HM.out hMid)
      have HFA : Hid (∀ z, (F z ∨ F1 z ∨ v1.ownBlock = some z) → F z ∨ w.heap.size + 1 ≤ z) := St.hid (fun z hz => by
        rcases hz with h | h | h
        · exact Or.inl h
        · exact Or.inr (by have := hMid.new z h; omega)
        · rcases hMid.at_ with e | ⟨y, e, h1, -⟩
          · rw [e] at h; exact Or.inl (HGR.out.sep z h).1
          · rw [e] at h; cases h; exact Or.inr (by omega))
      have hrp := St.hid (rowIs_grown (rowIs_grown (rowIs_below hRPW.out hbm) hgm (fun e => by have := HG.out.lt _ (HGR.out.sep _ e).1; omega)) (grown_set W1 b 5 v1) (fun e => by cases e; omega))
      have HKP := St.hid (((Kept.below (F := F) (bcall HBW.out hbm)).grown hgm (fun z e => Or.inl (HGR.out.sep z e).1)).set (Or.inl HG.out.own) 5 v1)
      have hz2 : W.heap.size ≤ (W1.setCell ⟨b, 5, none⟩ v1).heap.size := by
        have h1 := hbm.size
        have h2 := hgm.size
        simp [World.setCell]
        omega
      obtain ⟨F', hF'⟩ : ∃ F' : Nat → Prop, F' = (fun z => F z ∨ F1 z ∨ v1.ownBlock = some z) := ⟨_, rfl⟩
      rw [← hF'] at HGA
      have HFA : Hid (∀ z, F' z → F z ∨ w.heap.size + 1 ≤ z) := St.hid (fun z hz => HFA.out z (by rw [hF'] at hz; exact hz))
      clear hF'
      generalize W1.setCell ⟨b, 5, none⟩ v1 = W2 at HGA hrp HKP hz2 ⊢
      obtain ⟨p0, p1, p2, p3⟩ := Rp.rcells hrp.out
      have p4 := hrp.out.frozen 0
      have p5 := hrp.out.frozen 1
      have p6 := hrp.out.frozen 2
      have p7 := hrp.out.frozen 3
      have hlt2 : w.heap.size < W2.heap.size := by omega
      go_wp2_with fail
      obtain ⟨q0, q1, q2, q3⟩ := four (put4 hrp.out (.int .i64 0) (.int .i64 m) (.slice none 0 0) (.slice none 0 0))
      refine bodyPost_ret (v := .agg #[.int .i64 0, .int .i64 m, .slice none 0 0, .slice none 0 0]) (by simp [results, Tryz.results38, go_sem, q0, q1, q2, q3]) rfl ⟨rfl, ⟨F', Gam.grown HGA.out (grown4 W2 w.heap.size _ _ _ _) (fun hc => ?_), fun z hz => ?_⟩, kept_grown HKP.out (grown4 W2 w.heap.size _ _ _ _) (Nat.le_refl _)⟩
      · rcases HFA.out _ hc with h | h
        · have := HG.out.lt _ h; omega
        · omega
      · rcases HFA.out _ hz with h | h
        · exact Or.inl h
        · exact Or.inr (by omega)
end Go.Proofs.YtckkkdldljhehacGreat.Gm
