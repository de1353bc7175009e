/- What spawn, give, take and kick of a game in memory answer when called: the plain replies, and the game as it is then; all blocks but the game's are as they were. -/
import Derived.Test.YtckkkdldljhehacGreatKtGmB
namespace Go.Proofs.YtckkkdldljhehacGreat.Gm
open Go.Proofs.YtckkkdldljhehacGreat.Num Go.Proofs.YtckkkdldljhehacGreat.St Go.Proofs.YtckkkdldljhehacGreat.Wd
open Go.ChangeShapes Go.WideShapes Go.ChangeAt Go.RowKit

/-- What a method without lists leaves: its reply, the game, all else as it was. -/
def Post (w : World) (F : Nat → Prop) (b : Nat) (s : Gp) (c n : Int) (e : Ending) (w' : World) : Prop :=
  e = .returned (.agg #[.int .i64 c, .int .i64 n, .slice none 0 0, .slice none 0 0]) ∧ (∃ F', Gam w' F' b s ∧ ∀ z, F' z → F z ∨ w.heap.size ≤ z) ∧ Kept F w w'
theorem new_not {F F2 : Nat → Prop} {Fs : Nat → Prop} {n m : Nat} (hF : ∀ z, F z → z < n) (h : ∀ z, F2 z → m ≤ z) (hm : n ≤ m) : ∀ z, F2 z → Fs z ∨ ¬ F z := fun z hz => Or.inr (fun hc => by have := hF z hc; have := h z hz; omega)
theorem pass {p q : Prop} (h : p) (k : p → q) : q := k h
theorem rowDrew {W : World} {g n : Nat} {t : TypeId} {f : Nat → Value} (h : W.rowIs g t n f) : W.drew.rowIs g t n f := h
def zs (i : Nat) : Value := if i = 0 then .slice none 0 0 else .int .i64 0
theorem zstore (w : World) (g : Nat) (h : w.heap.size = g) : (w.alloc (.cells #[.slice none 0 0, .int .i64 0] 43)).rowIs g 43 2 zs := by
  subst h
  exact rowIs2 w (.slice none 0 0) (.int .i64 0) 43
theorem two_facts {W : World} {g : Nat} {t : TypeId} {f : Nat → Value} (h : W.rowIs g t 2 f) : W.cell? ⟨g, 0, none⟩ = some (f 0) ∧ W.cell? ⟨g, 1, none⟩ = some (f 1) ∧ W.frozen? ⟨g, 0, none⟩ = false ∧ W.frozen? ⟨g, 1, none⟩ = false ∧ g < W.heap.size :=
  ⟨h.cell (i := 0) (by omega), h.cell (i := 1) (by omega), h.frozen 0, h.frozen 1, h.lt⟩
theorem set2row {W : World} {g : Nat} {t : TypeId} {f : Nat → Value} (h : W.rowIs g t 2 f) (u v : Value) : ((W.setCell ⟨g, 0, none⟩ u).setCell ⟨g, 1, none⟩ v).rowIs g t 2 (fun i => if i = 0 then u else v) := by
  refine ((h.set 0 _).set 1 _).congr (fun i hi => ?_)
  match i, hi with
  | 0, _ => rfl
  | 1, _ => rfl
theorem put4 {W : World} {g : Nat} {f : Nat → Value} (h : W.rowIs g 31 4 f) (c n u m : Value) : ((((W.setCell ⟨g, 0, none⟩ c).setCell ⟨g, 1, none⟩ n).setCell ⟨g, 2, none⟩ u).setCell ⟨g, 3, none⟩ m).rowIs g 31 4 (fun i => if i = 0 then c else if i = 1 then n else if i = 2 then u else m) := by
  refine ((((h.set 0 c).set 1 n).set 2 u).set 3 m).congr (fun i hi => ?_)
  match i, hi with
  | 0, _ => rfl
  | 1, _ => rfl
  | 2, _ => rfl
  | 3, _ => rfl
theorem four {W : World} {g : Nat} {c n u m : Value} (h : W.rowIs g 31 4 (fun i => if i = 0 then c else if i = 1 then n else if i = 2 then u else m)) : W.cell? ⟨g, 0, none⟩ = some c ∧ W.cell? ⟨g, 1, none⟩ = some n ∧ W.cell? ⟨g, 2, none⟩ = some u ∧ W.cell? ⟨g, 3, none⟩ = some m :=
  ⟨h.cell (i := 0) (by omega), h.cell (i := 1) (by omega), h.cell (i := 2) (by omega), h.cell (i := 3) (by omega)⟩
attribute [local go_sem ↓] Go.wp_at_zero Go.wp_at_succ
set_option maxHeartbeats 4000000 in
set_option maxRecDepth 100000 in
theorem spawn_any {F : Nat → Prop} {b : Nat} {s : Gp} {w : World} (hG : Gam w F b s) (hg : GoodG s) (mask : Int) (r : R8) :
    Calls Tryz.prog 31 #[.pointer (some ⟨b, 0, none⟩), .int .i64 mask, .agg #[.int .i64 r.x, .int .i64 r.y, .int .i64 r.px, .int .i64 r.py, .int .i64 r.wd, .int .i64 r.ht, .int .i64 r.ms, .int .i64 r.rr]] w
      (Post w F b { s with now := (spawnW s.now mask r).1 } (spawnW s.now mask r).2.code (spawnW s.now mask r).2.n) := by
  obtain ⟨v, vs, sv, Fs, hG⟩ := hG
  have hbz := hG.lt b hG.own
  have HG := St.hid hG
  obtain ⟨a, n, c, rfl⟩ := hG.now.one
  have HSP : Hid (∀ W', Below w.heap.size w W' → Calls Tryz.prog 59 #[.agg #[.slice a n c, .int .i64 s.now.next], .int .i64 mask, .agg #[.int .i64 r.x, .int .i64 r.y, .int .i64 r.px, .int .i64 r.py, .int .i64 r.wd, .int .i64 r.ht, .int .i64 r.ms, .int .i64 r.rr]] W' fun e w' =>
      (∃ a n c, e = .returned (.tuple #[.agg #[.slice a n c, .int .i64 (spawnS s.now.next s.now.L mask r).2.1], .int .i64 (spawnS s.now.next s.now.L mask r).2.2.1, .int .i64 (spawnS s.now.next s.now.L mask r).2.2.2]) ∧ ∃ F', Sto w' F' (.slice a n c) (spawnS s.now.next s.now.L mask r).1 ∧ ∀ b, F' b → W'.heap.size ≤ b) ∧ Below W'.heap.size W' w') :=
    St.hid (fun W' hb => (hG.now.below hb).spawn s.now.next hg.now.l mask r)
  have HEQ : Hid ((spawnS s.now.next s.now.L mask r).2.2.2 ≠ 0 → ({ s with now := (spawnW s.now mask r).1 } : Gp) = s) := St.hid (fun hne => by
    unfold spawnW spawnS at *
    split at hne
    · rename_i h; simp [h]
    · split at hne
      · rename_i h h'; simp [h, h']
      · simp at hne)
  have HS1 : Hid ((spawnW s.now mask r).1 = { s.now with L := (spawnS s.now.next s.now.L mask r).1, next := (spawnS s.now.next s.now.L mask r).2.1 }) := St.hid rfl
  have HS2 : Hid ((spawnW s.now mask r).2.code = (spawnS s.now.next s.now.L mask r).2.2.2 ∧ (spawnW s.now mask r).2.n = (spawnS s.now.next s.now.L mask r).2.2.1) := St.hid ⟨rfl, rfl⟩
  rw [HS2.out.1, HS2.out.2]
  rw [HS1.out] at HEQ ⊢
  generalize (spawnS s.now.next s.now.L mask r).1 = L' at HSP HEQ ⊢
  generalize (spawnS s.now.next s.now.L mask r).2.1 = nx at HSP HEQ ⊢
  generalize (spawnS s.now.next s.now.L mask r).2.2.1 = id at HSP ⊢
  generalize (spawnS s.now.next s.now.L mask r).2.2.2 = ec at HSP HEQ ⊢
  obtain ⟨x0, x1, x2, x3, x4, x5, x6⟩ := gcells hG.row
  clear hG hg HS1 HS2
  go_enter Tryz.func31, Tryz.ntmps31
  go_wp2_with fail
  have hG2 := St.hid (HG.out.below (bal (bal (Below.refl _ w) (.cells #[.int .i64 r.x, .int .i64 r.y, .int .i64 r.px, .int .i64 r.py, .int .i64 r.wd, .int .i64 r.ht, .int .i64 r.ms, .int .i64 r.rr] 34)) (.cells #[.int .i64 0, .int .i64 0, .slice none 0 0, .slice none 0 0] 31)))
  have hRW := St.hid ((St.rowIs8 w r 34).alloc (.cells #[.int .i64 0, .int .i64 0, .slice none 0 0, .slice none 0 0] 31))
  have hRP := St.hid (Rp.rowIs4 (w.alloc (.cells #[.int .i64 r.x, .int .i64 r.y, .int .i64 r.px, .int .i64 r.py, .int .i64 r.wd, .int .i64 r.ht, .int .i64 r.ms, .int .i64 r.rr] 34)) 0 0 (.slice none 0 0) (.slice none 0 0) 31)
  rw [World.size_alloc] at hRP
  have HBW := St.hid (bal (bal (Below.refl _ w) (.cells #[.int .i64 r.x, .int .i64 r.y, .int .i64 r.px, .int .i64 r.py, .int .i64 r.wd, .int .i64 r.ht, .int .i64 r.ms, .int .i64 r.rr] 34)) (.cells #[.int .i64 0, .int .i64 0, .slice none 0 0, .slice none 0 0] 31))
  have hzW : ((w.alloc (.cells #[.int .i64 r.x, .int .i64 r.y, .int .i64 r.px, .int .i64 r.py, .int .i64 r.wd, .int .i64 r.ht, .int .i64 r.ms, .int .i64 r.rr] 34)).alloc (.cells #[.int .i64 0, .int .i64 0, .slice none 0 0, .slice none 0 0] 31)).heap.size = w.heap.size + 1 + 1 := by simp
  generalize (w.alloc (.cells #[.int .i64 r.x, .int .i64 r.y, .int .i64 r.px, .int .i64 r.py, .int .i64 r.wd, .int .i64 r.ht, .int .i64 r.ms, .int .i64 r.rr] 34)).alloc (.cells #[.int .i64 0, .int .i64 0, .slice none 0 0, .slice none 0 0] 31) = W at hG2 hRW hRP HBW hzW ⊢
  have HZW := St.hid hzW
  have hzw : w.heap.size + 1 < W.heap.size := by omega
  clear x0 x1 x2 x3 x4 x5 x6 hzW
  obtain ⟨x0, x1, -, -, -, -, -⟩ := gcells hG2.out.row
  obtain ⟨r0, r1, r2, r3, r4, r5, r6, r7⟩ := row8c hRW.out
  have nb : W.heap.size ≠ b := by omega
  have nr : W.heap.size ≠ w.heap.size := by omega
  have HSP1 := St.hid (fun (W' : World) (hb : Below W.heap.size W W') => HSP.out W' (bcall HBW.out hb))
  go_cut [7, 8, 9] (fun s7 s8 s9 wx => ∃ (W1 : World) (g7 : Nat) (a1 : Option Addr) (n1 c1 : Nat) (F1 : Nat → Prop), W1 = wx ∧ s7 = .pointer (some ⟨g7, 0, none⟩) ∧ s8 = .int .i64 id ∧ s9 = .int .i64 ec ∧ W1.rowIs g7 43 2 (fun i => if i = 0 then .slice a1 n1 c1 else .int .i64 nx) ∧ Sto W1 F1 (.slice a1 n1 c1) L' ∧ (∀ z, F1 z → W.heap.size ≤ z) ∧ ¬ F1 g7 ∧ Below W.heap.size W W1 ∧ W.heap.size ≤ g7)
  case first =>
    clear HG HSP HEQ hRP
    go_region_held3 (fun W' => W'.cell? ⟨b, 0, none⟩ = some (.slice a n c) ∧ W'.cell? ⟨b, 1, none⟩ = some (.int .i64 s.now.next) ∧ W'.cell? ⟨w.heap.size, 0, none⟩ = some (.int .i64 r.x) ∧ W'.cell? ⟨w.heap.size, 1, none⟩ = some (.int .i64 r.y) ∧ W'.cell? ⟨w.heap.size, 2, none⟩ = some (.int .i64 r.px) ∧ W'.cell? ⟨w.heap.size, 3, none⟩ = some (.int .i64 r.py) ∧ W'.cell? ⟨w.heap.size, 4, none⟩ = some (.int .i64 r.wd) ∧ W'.cell? ⟨w.heap.size, 5, none⟩ = some (.int .i64 r.ht) ∧ W'.cell? ⟨w.heap.size, 6, none⟩ = some (.int .i64 r.ms) ∧ W'.cell? ⟨w.heap.size, 7, none⟩ = some (.int .i64 r.rr)) (go_keep)
      (first
      | (go_at_call 59; go_fit (HSP1.out _ (by repeat (first | with_reducible exact Below.refl _ _ | with_reducible refine Below.drew ?_ | with_reducible refine bal ?_ _))); rintro e w2 ⟨⟨a1, n1, c1, rfl, F1, hs1, hF1⟩, hb⟩; have HQ1 := St.hid (bcall (by repeat (first | with_reducible exact Below.refl _ W | with_reducible refine Below.drew ?_ | with_reducible refine bal ?_ _)) hb : Below W.heap.size W w2); have HS1 := St.hid hs1; have HF1 := St.hid hF1; (try (refine pass (p := Hid (w2.rowIs W.heap.size 43 2 zs)) ?_ ?_; refine rowIs_below ?_ hb; (first | with_reducible refine zstore _ _ ?_ | (with_reducible refine rowDrew ?_; with_reducible refine zstore _ _ ?_)); rfl; intro zz; refine pass zz.out ?_; intro q; obtain ⟨q0, q1, q2, q3, q4⟩ := two_facts q)); have z2 := HQ1.out.size; clear hb hs1 hF1 x0 x1 r0 r1 r2 r3 r4 r5 r6 r7; obtain ⟨x0, x1, -, -, -, -, -⟩ := gcells (hG2.out.below HQ1.out).row; obtain ⟨r0, r1, r2, r3, r4, r5, r6, r7⟩ := row8c (rowIs_below hRW.out HQ1.out); have n2b : w2.heap.size ≠ b := (by omega); have n2r : w2.heap.size ≠ w.heap.size := (by omega)))
    all_goals
      go_wp2_with fail
      go_meet
    · exact ⟨_, w2.heap.size, a1, n1, c1, F1, rfl, rfl, rfl, rfl, rowIs2 w2 _ _ _, HS1.out.below (bal (Below.refl _ _) _), (fun z hz => HF1.out z hz), (fun hc => by have := HS1.out.lt hc; omega), bal HQ1.out _, HQ1.out.size⟩
    · have hlo : ∀ z, F1 z → W.heap.size + 1 ≤ z := fun z hz => by have := HF1.out z hz; simpa using this
      have hno : ¬ F1 W.heap.size := fun hc => by have := hlo _ hc; omega
      exact ⟨_, W.heap.size, a1, n1, c1, F1, rfl, rfl, rfl, rfl, set2row q _ _, (HS1.out.setCell hno _ _).setCell hno _ _, (fun z hz => by have := hlo z hz; omega), hno, (HQ1.out.setCell (Nat.le_refl _) _).setCell (Nat.le_refl _) _, Nat.le_refl _⟩
  case rest =>
  obtain ⟨W1, g7, a1, n1, c1, F1, rfl, rfl, rfl, rfl, hg7, hs1, hF1, hn7, hb1, hl7⟩ := hcut
  have hG3 := St.hid (hG2.out.below hb1)
  have hRP1 := St.hid (rowIs_below hRP.out hb1)
  have HB1 := St.hid (bcall HBW.out hb1)
  obtain ⟨y0, y1, y2, y3, y4⟩ := two_facts hg7
  have HS1 := St.hid hs1
  have hFlt : ∀ z, F z → z < w.heap.size := HG.out.lt
  have HNN := St.hid (new_not (F := F) (F2 := F1) (Fs := Fs) hFlt hF1 (show w.heap.size ≤ W.heap.size by omega))
  have HFL := St.hid hFlt
  have HF1 := St.hid hF1
  have hz1 := hb1.size
  simp only [if_true] at y0
  simp at y1
  clear hb1 hs1 hg7 x0 x1 r0 r1 r2 r3 r4 r5 r6 r7 hFlt hF1 hRP hG2 hRW HSP HSP1
  go_wp2_with fail
  refine (become_any hG3.out HS1.out HNN.out nx ec).mono ?_
  rintro e w3 ⟨rfl, ⟨F3, hG4, hF3⟩, hk3⟩
  have hRP3 := St.hid (rowIs_kept hRP1.out hk3 (fun hc => by have := HFL.out _ hc; omega))
  have HG4 := St.hid hG4
  have HK3 := St.hid hk3
  have hz3 := hk3.size
  have HF3 := St.hid hF3
  clear hG4 hk3 hF3 y0 y1 y2 y3 y4 hRP1 hG3
  obtain ⟨p0, p1, p2, p3⟩ := Rp.rcells hRP3.out
  have p4 := hRP3.out.frozen 0
  have p5 := hRP3.out.frozen 1
  have p6 := hRP3.out.frozen 2
  have p7 := hRP3.out.frozen 3
  have pz : w.heap.size + 1 < w3.heap.size := hRP3.out.lt
  go_wp2_with fail
  have hno : ¬ F3 (w.heap.size + 1) := fun hc => by
    rcases HF3.out _ hc with h1 | h1
    · have := HFL.out _ h1; omega
    · have := HF1.out _ h1; omega
  have hst : (if ec = 0 then ({ s with now := { s.now with L := L', next := nx } } : Gp) else s) = { s with now := { s.now with L := L', next := nx } } := by
    by_cases h : ec = 0
    · rw [if_pos h]
    · rw [if_neg h]; exact (HEQ.out h).symm
  obtain ⟨q0, q1, q2, q3⟩ := four ((put4 hRP3.out (.int .i64 ec) (.int .i64 id) (.slice none 0 0) (.slice none 0 0)).alloc (.cells #[.int .i64 ec, .int .i64 id, .slice none 0 0, .slice none 0 0] 31))
  refine bodyPost_ret (v := .agg #[.int .i64 ec, .int .i64 id, .slice none 0 0, .slice none 0 0]) (by simp [results, Tryz.results31, go_sem, q0, q1, q2, q3]) rfl ⟨rfl, ⟨F3, ?_, fun z hz => ?_⟩, ?_⟩
  · rw [← hst]
    exact (Gam.grown HG4.out (grown4 w3 (w.heap.size + 1) _ _ _ _) hno).below (bal (Below.refl _ _) _)
  · rcases HF3.out _ hz with h1 | h1
    · exact Or.inl h1
    · have := HF1.out _ h1; exact Or.inr (by omega)
  · exact (kept_grown ((Kept.below HB1.out).trans HK3.out (fun z h => Or.inl h)) (grown4 w3 (w.heap.size + 1) _ _ _ _) (by omega)).call (bal (Below.refl _ _) _)
end Go.Proofs.YtckkkdldljhehacGreat.Gm
