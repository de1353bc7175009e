/- Plain games: how many acts were done; that what is refused changes nothing; steps in a row; who is killed is gone and never met again. Plain lists, no program. -/
import Derived.Test.YtckkkdldljhehacGreatKtGmS
namespace Go.Proofs.YtckkkdldljhehacGreat.Gm
open Go.Proofs.YtckkkdldljhehacGreat.Num Go.Proofs.YtckkkdldljhehacGreat.St Go.Proofs.YtckkkdldljhehacGreat.Wd
open Go.ChangeShapes Go.WideShapes Go.ChangeAt Go.RowKit

/-! How many acts were done. -/
theorem acts_do {s : Gp} (a : Ac) (h : s.acts < 150) : (doG s a).1.acts = s.acts + 1 := by
  unfold doG
  rw [if_neg (by omega)]
  split
  · split <;> rfl
  · split
    · split <;> rfl
    · rfl
theorem acts_all (l : List Ac) (s : Gp) (h : s.acts + l.length ≤ 150) : (doAll s l).acts = s.acts + l.length := by
  induction l generalizing s with
  | nil => rfl
  | cons a l ih =>
    simp only [List.length_cons] at h ⊢
    have e := acts_do a (s := s) (by omega)
    have h2 := ih (doG s a).1 (by rw [e]; omega)
    show (doAll (doG s a).1 l).acts = _
    rw [h2, e]
    omega
theorem acts_play (size fall : Int) (l : List Ac) : (playP size fall l).acts = min l.length 60 := by
  unfold playP
  rw [acts_all _ _ (by simp [newG]; omega)]
  simp [newG]
  omega
theorem full_do {s : Gp} (a : Ac) (h : 150 ≤ s.acts) : doG s a = (s, no 5) := by
  unfold doG
  rw [if_pos h]

/-! What is refused changes nothing. -/
theorem spawnS_no (next : Int) (L : List Tab) (m : Int) (r : R8) : (spawnS next L m r).2.2.2 = 0 ∨ ∃ c, spawnS next L m r = (L, next, 0, c) := by
  unfold spawnS
  split
  · exact Or.inr ⟨_, rfl⟩
  · split
    · exact Or.inr ⟨_, rfl⟩
    · exact Or.inl rfl
theorem killS_no (L : List Tab) (id : Int) : (killS L id).2 = 0 ∨ ∃ c, killS L id = (L, c) := by
  unfold killS
  split
  · exact Or.inl rfl
  · exact Or.inr ⟨_, rfl⟩
theorem setS_no (L : List Tab) (id : Int) (r : R8) : (setS L id r).2 = 0 ∨ ∃ c, setS L id r = (L, c) := by
  unfold setS
  split
  · split
    · exact Or.inl rfl
    · exact Or.inr ⟨_, rfl⟩
  · exact Or.inr ⟨_, rfl⟩
theorem changeS_no (L : List Tab) (id m : Int) (r : R8) : (changeS L id m r).2 = 0 ∨ ∃ c, changeS L id m r = (L, c) := by
  unfold changeS
  split
  · split
    · exact Or.inl rfl
    · exact Or.inr ⟨_, rfl⟩
  · exact Or.inr ⟨_, rfl⟩
/-- Done, or refused and nothing changed. -/
def Or0 (x : Wp) (p : Wp × Rep) : Prop := p.2.code = 0 ∨ ∃ c, p = (x, no c)
theorem spawnW_no (x : Wp) (m : Int) (r : R8) : Or0 x (spawnW x m r) := by
  unfold spawnW
  rcases spawnS_no x.next x.L m r with h | ⟨c, h⟩
  · exact Or.inl h
  · rw [h]; exact Or.inr ⟨c, rfl⟩
theorem killW_no (x : Wp) (id : Int) : Or0 x (killW x id) := by
  unfold killW
  rcases killS_no x.L id with h | ⟨c, h⟩
  · exact Or.inl h
  · rw [h]; exact Or.inr ⟨c, rfl⟩
theorem setW_no (x : Wp) (id : Int) (r : R8) : Or0 x (setW x id r) := by
  unfold setW
  rcases setS_no x.L id r with h | ⟨c, h⟩
  · exact Or.inl h
  · rw [h]; exact Or.inr ⟨c, rfl⟩
theorem changeW_no (x : Wp) (id m : Int) (r : R8) : Or0 x (changeW x id m r) := by
  unfold changeW
  rcases changeS_no x.L id m r with h | ⟨c, h⟩
  · exact Or.inl h
  · rw [h]; exact Or.inr ⟨c, rfl⟩
theorem giveW_no (x : Wp) (id m : Int) (r : R8) : Or0 x (giveW x id m r) := by
  unfold giveW
  split
  · split
    · exact Or.inr ⟨_, rfl⟩
    · exact changeW_no _ _ _ _
  · exact Or.inr ⟨_, rfl⟩
theorem takeW_no (x : Wp) (id m : Int) : Or0 x (takeW x id m) := by
  unfold takeW
  split
  · split
    · exact Or.inr ⟨_, rfl⟩
    · exact changeW_no _ _ _ _
  · exact Or.inr ⟨_, rfl⟩
theorem kickW_no (x : Wp) (id : Int) (r : R8) : Or0 x (kickW x id r) := by
  unfold kickW
  split
  · split
    · exact Or.inr ⟨_, rfl⟩
    · exact setW_no _ _ _
  · exact Or.inr ⟨_, rfl⟩
theorem goW_no (x : Wp) (n : Int) : Or0 x (goW x n) := by
  unfold goW
  split
  · exact Or.inr ⟨_, rfl⟩
  · exact Or.inl rfl
theorem actW_no (x : Wp) (a : Ac) : Or0 x (actW x a) := by
  unfold actW
  split
  · exact spawnW_no _ _ _
  · split
    · exact killW_no _ _
    · split
      · exact giveW_no _ _ _ _
      · split
        · exact takeW_no _ _ _
        · split
          · exact kickW_no _ _ _
          · split
            · exact goW_no _ _
            · split
              · exact Or.inl rfl
              · exact Or.inr ⟨_, rfl⟩
/-- An act that is refused tells nothing more, and the world is as it was. -/
theorem do_refused {s : Gp} (a : Ac) : (doG s a).2.code = 0 ∨ ((doG s a).2.n = 0 ∧ (doG s a).2.ids = [] ∧ (doG s a).2.met = [] ∧ (doG s a).1.now = s.now) := by
  unfold doG
  split
  · exact Or.inr ⟨rfl, rfl, rfl, rfl⟩
  · split
    · split
      · exact Or.inr ⟨rfl, rfl, rfl, rfl⟩
      · exact Or.inl rfl
    · split
      · split
        · exact Or.inl rfl
        · exact Or.inr ⟨rfl, rfl, rfl, rfl⟩
      · rcases actW_no s.now a with h | ⟨c, h⟩
        · exact Or.inl h
        · rw [h]
          exact Or.inr ⟨rfl, rfl, rfl, rfl⟩

/-! Steps in a row. -/
theorem stepsW_add (a b : Nat) (x : Wp) : stepsW (a + b) x = stepsW b (stepsW a x) := by
  induction b with
  | zero => rfl
  | succ b ih =>
    show stepW (stepsW (a + b) x) = stepW (stepsW b (stepsW a x))
    rw [ih]
theorem stepsM_add (a b : Nat) (x : Wp) : stepsM (a + b) x = stepsM a x ++ stepsM b (stepsW a x) := by
  induction b with
  | zero => simp [stepsM]
  | succ b ih =>
    show stepsM (a + b) x ++ stepM (stepsW (a + b) x) = stepsM a x ++ (stepsM b (stepsW a x) ++ stepM (stepsW b (stepsW a x)))
    rw [ih, stepsW_add, List.append_assoc]
def stepA (n : Int) : Ac := ⟨6, 0, n, 0, ⟨0, 0, 0, 0, 0, 0, 0, 0⟩, ⟨0, 0, 0, 0, 0⟩⟩
theorem do_stepA {s : Gp} (h : s.acts < 150) {n : Int} (h1 : 1 ≤ n) (h8 : n ≤ 8) : doG s (stepA n) = ({ s with now := stepsW n.toNat s.now, acts := s.acts + 1 }, ⟨0, (stepsM n.toNat s.now).length, [], stepsM n.toNat s.now⟩) := by
  have ea : actW s.now (stepA n) = (stepsW n.toNat s.now, ⟨0, (stepsM n.toNat s.now).length, [], stepsM n.toNat s.now⟩) := by
    have e : actW s.now (stepA n) = goW s.now n := by simp [actW, stepA]
    rw [e]
    unfold goW
    rw [if_neg (by omega)]
  unfold doG
  rw [if_neg (by omega), if_neg (by simp [stepA]), if_neg (by simp [stepA]), ea]

/-! Who is killed. -/
def killA (id : Int) : Ac := ⟨2, id, 0, 0, ⟨0, 0, 0, 0, 0, 0, 0, 0⟩, ⟨0, 0, 0, 0, 0⟩⟩
theorem do_killA {s : Gp} (h : s.acts < 150) (id : Int) : doG s (killA id) = ({ s with now := { s.now with L := (killS s.now.L id).1 }, acts := s.acts + 1 }, no (killS s.now.L id).2) := by
  have ea : actW s.now (killA id) = killW s.now id := by simp [actW, killA]
  unfold doG
  rw [if_neg (by omega), if_neg (by simp [killA]), if_neg (by simp [killA]), ea]
  rfl
theorem kill_gone {next : Int} {L : List Tab} (hg : GoodL next L) (id : Int) : id ∉ allL (killS L id).1 := by
  unfold killS
  split
  · rename_i hm
    obtain ⟨-, k2, -⟩ := kill_all hg hm
    exact (List.nodup_cons.1 (k2.nodup_iff.2 hg.2.2.2.2.2)).1
  · rename_i hm; exact hm
theorem kill_code (L : List Tab) (id : Int) : (killS L id).2 = if id ∈ allL L then 0 else 3 := by
  unfold killS
  split <;> rfl
theorem steps_allL (k : Nat) (x : Wp) : allL (stepsW k x).L = allL x.L := by
  induction k with
  | zero => rfl
  | succ k ih =>
    show allL (withRows (stepsW k x).L _) = _
    rw [allL_with, ih]
theorem meet_sub (M : Int → Int) (l : List (Int × Int)) (s : (Int → R8) × List (Int × Int)) {p : Int × Int} (h : p ∈ (l.foldl (Wd.meet1 M) s).2) : p ∈ s.2 ∨ p ∈ l := by
  induction l generalizing s with
  | nil => exact Or.inl h
  | cons q l ih =>
    rcases ih _ h with h1 | h1
    · unfold Wd.meet1 at h1
      split at h1
      · rcases List.mem_append.1 h1 with h2 | h2
        · exact Or.inl h2
        · exact Or.inr (by rw [List.mem_singleton.1 h2]; exact List.mem_cons_self ..)
      · exact Or.inl h1
    · exact Or.inr (List.mem_cons_of_mem _ h1)
theorem ids_all {m v : Int} {L : List Tab} (h : v ∈ idsOf m L) : v ∈ allL L := by
  unfold idsOf at h
  rw [List.mem_mergeSort] at h
  exact (gath_sub m L).subset h
theorem stepM_mem {x : Wp} {p : Int × Int} (h : p ∈ stepM x) : p.1 ∈ allL x.L ∧ p.2 ∈ allL x.L := by
  unfold stepM Wd.stepG at h
  rcases meet_sub _ _ _ h with h1 | h1
  · cases h1
  · obtain ⟨a, b, ha, hb, e1, e2⟩ := pair_mem h1
    rw [e1, e2]
    exact ⟨ids_all (box_mem ha), ids_all (box_mem hb)⟩
theorem stepsM_mem {k : Nat} {x : Wp} {p : Int × Int} (h : p ∈ stepsM k x) : p.1 ∈ allL x.L ∧ p.2 ∈ allL x.L := by
  induction k with
  | zero => cases h
  | succ k ih =>
    rcases List.mem_append.1 h with h1 | h1
    · exact ih h1
    · have := stepM_mem h1
      rw [steps_allL] at this
      exact this
/-- What comes of a kill, of three steps, and of the same kill again. -/
theorem kill_story {s : Gp} (hg : GoodG s) (ha : s.acts ≤ 60) (id : Int) : (∃ s1, doG s (killA id) = (s1, no 3)) ∨
    ∃ s1 s2 s3 m, doG s (killA id) = (s1, no 0) ∧ GoodG s1 ∧ id ∉ allL s1.now.L ∧ doG s1 (stepA 3) = (s2, ⟨0, (m.length : Int), [], m⟩) ∧ GoodG s2 ∧ m.length ≤ 300 ∧ (∀ p ∈ m, p.1 ≠ id ∧ p.2 ≠ id) ∧ doG s2 (killA id) = (s3, no 3) := by
  have e1 := do_killA (s := s) (by omega) id
  have h1 := hg.do (killA id)
  have hno := kill_gone hg.now.l id
  rw [e1] at h1
  rw [kill_code] at e1
  by_cases hin : id ∈ allL s.now.L
  · rw [if_pos hin] at e1
    refine Or.inr ?_
    generalize hs1 : ({ s with now := { s.now with L := (killS s.now.L id).1 }, acts := s.acts + 1 } : Gp) = s1 at e1 h1
    have hno1 : id ∉ allL s1.now.L := by rw [← hs1]; exact hno
    have ha1 : s1.acts ≤ 61 := by rw [← hs1]; show s.acts + 1 ≤ 61; omega
    have e2 := do_stepA (s := s1) (by omega) (n := 3) (by omega) (by omega)
    have h2 := h1.do (stepA 3)
    rw [e2] at h2
    generalize hs2 : ({ s1 with now := stepsW (3 : Int).toNat s1.now, acts := s1.acts + 1 } : Gp) = s2 at e2 h2
    have ha2 : s2.acts ≤ 62 := by rw [← hs2]; show s1.acts + 1 ≤ 62; omega
    have hno2 : id ∉ allL s2.now.L := by rw [← hs2]; show id ∉ allL (stepsW 3 s1.now).L; rw [steps_allL]; exact hno1
    have e3 := do_killA (s := s2) (by omega) id
    rw [kill_code, if_neg hno2] at e3
    refine ⟨s1, s2, _, stepsM (3 : Int).toNat s1.now, e1, h1, hno1, e2, h2, stepsM_len h1.now 3, fun p hp => ?_, e3⟩
    have := stepsM_mem hp
    exact ⟨fun e => hno1 (e ▸ this.1), fun e => hno1 (e ▸ this.2)⟩
  · rw [if_neg hin] at e1
    exact Or.inl ⟨_, e1⟩
/-- So many steps are some, and the others. -/
theorem steps_story {s : Gp} (hg : GoodG s) (ha : s.acts ≤ 60) {n k : Int} (h1 : 1 ≤ k) (h2 : k < n) (h3 : n ≤ 8) :
    ∃ s1 s2 s3 ma mb, doG s (stepA n) = (s1, ⟨0, ((ma ++ mb).length : Int), [], ma ++ mb⟩) ∧ doG s (stepA k) = (s2, ⟨0, (ma.length : Int), [], ma⟩) ∧ doG s2 (stepA (n - k)) = (s3, ⟨0, (mb.length : Int), [], mb⟩) ∧ s3.now = s1.now ∧ GoodG s1 ∧ GoodG s2 ∧ GoodG s3 ∧ ma.length ≤ 800 ∧ mb.length ≤ 800 := by
  have e1 := do_stepA (s := s) (by omega) (n := n) (by omega) h3
  have e2 := do_stepA (s := s) (by omega) (n := k) h1 (by omega)
  have g1 := hg.do (stepA n)
  have g2 := hg.do (stepA k)
  rw [e1] at g1
  rw [e2] at g2
  generalize hs2 : ({ s with now := stepsW k.toNat s.now, acts := s.acts + 1 } : Gp) = s2 at e2 g2
  have ha2 : s2.acts ≤ 61 := by rw [← hs2]; show s.acts + 1 ≤ 61; omega
  have hw2 : s2.now = stepsW k.toNat s.now := by rw [← hs2]
  have e3 := do_stepA (s := s2) (by omega) (n := n - k) (by omega) (by omega)
  have g3 := g2.do (stepA (n - k))
  rw [e3] at g3
  rw [hw2] at e3 g3
  have en : n.toNat = k.toNat + (n - k).toNat := by omega
  have em : stepsM n.toNat s.now = stepsM k.toNat s.now ++ stepsM (n - k).toNat (stepsW k.toNat s.now) := by rw [en, stepsM_add]
  have ew : stepsW n.toNat s.now = stepsW (n - k).toNat (stepsW k.toNat s.now) := by rw [en, stepsW_add]
  rw [em, ew] at e1
  rw [ew] at g1
  have l1 := stepsM_len hg.now k.toNat
  have l2 := stepsM_len (hg.now.steps k.toNat) (n - k).toNat
  exact ⟨_, s2, _, _, _, e1, e2, e3, rfl, g1, g2, g3, by omega, by omega⟩
def zeroA : Ac := ⟨0, 0, 0, 0, ⟨0, 0, 0, 0, 0, 0, 0, 0⟩, ⟨0, 0, 0, 0, 0⟩⟩
theorem do_zero {s : Gp} (h : s.acts < 150) : doG s zeroA = ({ s with acts := s.acts + 1 }, no 4) := by
  have ea : actW s.now zeroA = (s.now, no 4) := by simp [actW, zeroA]
  unfold doG
  rw [if_neg (by omega), if_neg (by simp [zeroA]), if_neg (by simp [zeroA]), ea]
end Go.Proofs.YtckkkdldljhehacGreat.Gm
