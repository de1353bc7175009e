/- What StoreThere of package ninepinskeep answers when called over any store, mask, row and number: true; nothing that was in memory before has changed. -/
import Derived.Test.YtckkkdldljhehaaStKeeps
import Derived.Deep.DeepFit
namespace Go.Proofs.Ytckkkdldljhehaa.St
open Go.Proofs.Ytckkkdldljhehaa.Num
open Go.ChangeShapes Go.WideShapes Go.ChangeAt Go.RowKit

theorem neqOf {n : Nat} {P : Program} {w : World} {t : TypeId} {xs ys : Array Value} (h : n = 10000) {v : Bool} (e : (Op.equalIn n t (.agg xs) (.agg ys)).run P w = .ok v w) :
    (binOp .neq t (.agg xs) (.agg ys)).run P w = .ok (.bool (!v)) w := by
  subst h
  rw [run_neq_struct, e]
  rfl
/-- Two rows held against each other. -/
theorem neq30 (x y px py wd ht ms rr x' y' px' py' wd' ht' ms' rr' : Int) (w : World) :
    (binOp .neq 30 (.agg #[.int .i64 x, .int .i64 y, .int .i64 px, .int .i64 py, .int .i64 wd, .int .i64 ht, .int .i64 ms, .int .i64 rr]) (.agg #[.int .i64 x', .int .i64 y', .int .i64 px', .int .i64 py', .int .i64 wd', .int .i64 ht', .int .i64 ms', .int .i64 rr'])).run Try.prog w = .ok (.bool (!(eqR ⟨x, y, px, py, wd, ht, ms, rr⟩ ⟨x', y', px', py', wd', ht', ms', rr'⟩))) w :=
  neqOf (n := 9998 + 2) rfl (eq30n 9998 _ _ _ _ _ _ _ _ _ _ _ _ _ _ _ _ w)

def oneR : R8 := ⟨0, 0, 0, 0, 1, 1, 1, 0⟩
theorem mask_more (m : Fin 32) (k : Fin 5) (p : Fin 4) : hasB (m.val : Int) ((2 : Int) ^ p.val) = true → hasB (bits .or .i64 (m.val : Int) ((2 : Int) ^ k.val)) ((2 : Int) ^ p.val) = true := by
  revert m k p
  decide +kernel
/-- Given a part and taken it again. -/
theorem again {mask part : Int} {r : R8} (hr : goodRowB mask r = true) (hp : part = 1 ∨ part = 2 ∨ part = 4 ∨ part = 8 ∨ part = 16) : chR mask (bits .or .i64 mask part) (chR (bits .or .i64 mask part) mask r oneR) zeroR = r := by
  have hm := goodRow_mask hr
  have key : ∀ p : Int, p = 1 ∨ p = 2 ∨ p = 4 ∨ p = 8 → hasB mask p = true → hasB (bits .or .i64 mask part) p = true := by
    intro p hp' h
    obtain ⟨m, rfl⟩ : ∃ m : Fin 32, mask = (m.val : Int) := ⟨⟨mask.toNat, by omega⟩, by simp; omega⟩
    obtain ⟨k, rfl⟩ : ∃ k : Fin 5, part = (2 : Int) ^ k.val := by rcases hp with rfl | rfl | rfl | rfl | rfl <;> first | exact ⟨0, rfl⟩ | exact ⟨1, rfl⟩ | exact ⟨2, rfl⟩ | exact ⟨3, rfl⟩ | exact ⟨4, rfl⟩
    obtain ⟨j, rfl⟩ : ∃ j : Fin 4, p = (2 : Int) ^ j.val := by rcases hp' with rfl | rfl | rfl | rfl <;> first | exact ⟨0, rfl⟩ | exact ⟨1, rfl⟩ | exact ⟨2, rfl⟩ | exact ⟨3, rfl⟩
    exact mask_more m k j h
  have he : onlyR mask r = r := by
    have h1 : eqR r (onlyR mask r) = true := by simp [goodRowB] at hr; exact hr.2.1
    generalize onlyR mask r = q at h1 ⊢
    cases r
    cases q
    simp [eqR] at h1
    simp [h1]
  have hf : ∀ (p x y : Int), p = 1 ∨ p = 2 ∨ p = 4 ∨ p = 8 → (if hasB mask p = true then (if hasB (bits .or .i64 mask part) p = true then (if hasB (bits .or .i64 mask part) p = true then (if hasB mask p = true then x else y) else 0) else 0) else 0) = if hasB mask p = true then x else 0 := by
    intro p x y hp'
    by_cases h : hasB mask p = true
    · simp [h, key p hp' h]
    · simp [h]
  conv => rhs; rw [← he]
  simp only [chR, onlyR, layR, zeroR, oneR]
  rw [hf 1 r.x 0 (by simp), hf 1 r.y 0 (by simp), hf 2 r.px 0 (by simp), hf 2 r.py 0 (by simp), hf 4 r.wd 1 (by simp), hf 4 r.ht 1 (by simp), hf 8 r.ms 1 (by simp), hf 8 r.rr 0 (by simp)]

attribute [local go_sem ↓] Go.wp_at_zero Go.wp_at_succ
set_option maxHeartbeats 8000000 in
set_option maxRecDepth 100000 in
theorem there_any (a : Option Addr) (n cap : Nat) (next mask more : Int) (r : R8) (T : Nat → TabV) (I : Nat → Nat → Int) (R : Nat → Nat → R8) (w : World) (h : StoreIn w a n T I R) :
    Calls Try.prog 8 #[.agg #[.slice a n cap, .int .i64 next], .int .i64 mask, .agg #[.int .i64 r.x, .int .i64 r.y, .int .i64 r.px, .int .i64 r.py, .int .i64 r.wd, .int .i64 r.ht, .int .i64 r.ms, .int .i64 r.rr], .int .i64 more] w fun e w' => e = .returned (.bool true) ∧ Below w.heap.size w w' := by
  have HST := hid h
  clear h
  go_enter Try.func8, Try.ntmps8
  go_wp2_with fail
  refine (spawn_any a n cap next mask T I R r _ (HST.out.below (bal (bal (Below.refl _ _) _) _)) (fun a' n' c' B A C h1 h2 _ => insertAt_any a' n' c' B A C mask h2 (by omega))).mono ?_
  rintro e w1 ⟨⟨u, nx, id, ec, rfl, S, hown, hout⟩, hb1⟩
  obtain ⟨a1, c1, rfl⟩ := own_form hown.1
  obtain ⟨N, hN⟩ : ∃ N, N = S.length := ⟨_, rfl⟩
  rw [← hN] at hown ⊢
  have HN := hid hN
  have hz1 := hb1.size
  simp at hz1
  have hS1 := hid (rowIs_below ((rowIs2 w (.slice a n cap) (.int .i64 next) 28).alloc (.cells #[.int .i64 r.x, .int .i64 r.y, .int .i64 r.px, .int .i64 r.py, .int .i64 r.wd, .int .i64 r.ht, .int .i64 r.ms, .int .i64 r.rr] 30)) hb1)
  have hR1 := hid (rowIs_below (rowIs8 (w.alloc (.cells #[.slice a n cap, .int .i64 next] 28)) r 30) hb1)
  rw [World.size_alloc] at hR1
  have HB1 : Hid (Below w.heap.size w w1) := hid (bcall (bal (bal (Below.refl _ _) _) _) hb1)
  have HO1 := hid hown
  have HOUT := hid hout
  clear hb1 hown hout hN
  rcases HOUT.out with ⟨-, -, -, hec⟩ | ⟨rfl, rfl, hid2, hg, hr, hl, hn, hLx⟩
  · have hec' : ec ≠ 0 := by rcases hec with ⟨rfl, _⟩ | ⟨rfl, _⟩ | ⟨rfl, _⟩ <;> decide
    have hq : (ec != 0) = true := by simp [hec']
    clear hec hec'
    go_wp2_with (go_at_call 44; refine (thingsK_any _).mono ?_; rintro e w2 ⟨rfl, hb2⟩)
    go_ret
    exact ⟨rfl, bcall (bal HB1.out _) hb2⟩
  · have hid3 := hid2.symm
    subst hid3
    have hK := kept_spawn HOUT.out
    have hgx : GoodL (next + 1) (S.map (·.t)) := by
      rcases hK with h | h
      · exact absurd rfl h
      · exact h.2.1
    have hatx : At (S.map (·.t)) next mask r := by rw [hLx]; exact (at_put _ _ _ _ hg.even).2 (Or.inl ⟨rfl, rfl, rfl⟩)
    have hnew : next ∉ allL (plainOf T I R n) := fun hc => by
      obtain ⟨m, q, hat⟩ := at_of_mem hg.even hc
      have := (At.good hg hat).2
      omega
    have hlx : (allL (S.map (·.t))).length = (allL (plainOf T I R n)).length + 1 := by rw [hLx]; simpa using (perm_put mask next r (plainOf T I R n)).length_eq
    have hmk := goodRow_mask hr
    have hbn := hg.1
    simp [btw] at hbn
    have hS2 := hid (hS1.out.alloc (.cells #[.slice a1 N c1, .int .i64 (next + 1)] 28))
    have hR2 := hid (hR1.out.alloc (.cells #[.slice a1 N c1, .int .i64 (next + 1)] 28))
    have hX2 := hid (rowIs2 w1 (.slice a1 N c1) (.int .i64 (next + 1)) 28)
    have HO2 := hid (HO1.out.below (bal (Below.refl _ _) (.cells #[.slice a1 N c1, .int .i64 (next + 1)] 28)))
    have HB2 := hid (bal HB1.out (.cells #[.slice a1 N c1, .int .i64 (next + 1)] 28))
    have hz2 : (w1.alloc (.cells #[.slice a1 N c1, .int .i64 (next + 1)] 28)).heap.size = w1.heap.size + 1 := by simp
    go_wp2_with fail
    refine (thingsK_any _).mono ?_
    rintro e w2 ⟨rfl, hb2⟩
    generalize w1.alloc (.cells #[.slice a1 N c1, .int .i64 (next + 1)] 28) = V at hS2 hR2 hX2 HO2 HB2 hz2 hb2
    have HINS := hid (HST.out.below HB2.out)
    obtain ⟨hinx, hplx⟩ := own_good HO2.out HN.out hgx
    have HINX := hid hinx
    have HPLX := hid hplx
    have HS : Hid (∀ W, Below V.heap.size V W → W.cell? ⟨w.heap.size, 0, none⟩ = some (.slice a n cap) ∧ W.cell? ⟨w.heap.size, 1, none⟩ = some (.int .i64 next) ∧ W.cell? ⟨w1.heap.size, 0, none⟩ = some (.slice a1 N c1) ∧ W.cell? ⟨w1.heap.size, 1, none⟩ = some (.int .i64 (next + 1)) ∧ w.heap.size + 1 < W.heap.size ∧ w1.heap.size < W.heap.size) := hid (fun W hb => by
      have h1 := rowIs_below hS2.out hb
      have h2 := rowIs_below hX2.out hb
      have h3 := hb.size
      exact ⟨h1.cell (i := 0) (by omega), h1.cell (i := 1) (by omega), h2.cell (i := 0) (by omega), h2.cell (i := 1) (by omega), by omega, by omega⟩)
    have HR : Hid (∀ W, Below V.heap.size V W → W.rowIs (w.heap.size + 1) 30 8 (fun i => (rowCells r).getD i undef)) := hid (fun W hb => rowIs_below hR2.out hb)
    have HG0 : Hid (∀ W, Below V.heap.size V W → Calls Try.prog 32 #[.agg #[.slice a n cap, .int .i64 next], .int .i64 next] W fun e w' => e = .returned (.tuple #[.int .i64 0, .agg #[.int .i64 0, .int .i64 0, .int .i64 0, .int .i64 0, .int .i64 0, .int .i64 0, .int .i64 0, .int .i64 0], .bool false]) ∧ Below W.heap.size W w') :=
      hid (fun W hb => (HINS.out.below hb).get_none hg.even cap next next hnew)
    have HGX : Hid (∀ W, Below V.heap.size V W → Calls Try.prog 32 #[.agg #[.slice a1 N c1, .int .i64 (next + 1)], .int .i64 next] W fun e w' => e = .returned (.tuple #[.int .i64 mask, .agg #[.int .i64 r.x, .int .i64 r.y, .int .i64 r.px, .int .i64 r.py, .int .i64 r.wd, .int .i64 r.ht, .int .i64 r.ms, .int .i64 r.rr], .bool true]) ∧ Below W.heap.size W w') :=
      hid (fun W hb => (HINX.out.below hb).get_some (by rw [hplx]; exact hgx.even) (by rw [hplx]; exact hgx.2.2.2.2.2) c1 (next + 1) next mask r (by rw [hplx]; exact hatx))
    obtain ⟨sz, hsz⟩ : ∃ sz : Nat, sz = (allL (plainOf T I R n)).length := ⟨_, rfl⟩
    have hsz9 : sz < 10 := by omega
    have HSS : Hid (∀ W, Below V.heap.size V W → Calls Try.prog 33 #[.agg #[.slice a n cap, .int .i64 next]] W fun e w' => e = .returned (.int .i64 sz) ∧ Below W.heap.size W w') :=
      hid (fun W hb => by rw [hsz]; exact (HINS.out.below hb).size hg cap next)
    have HSX : Hid (∀ W, Below V.heap.size V W → Calls Try.prog 33 #[.agg #[.slice a1 N c1, .int .i64 (next + 1)]] W fun e w' => e = .returned (.int .i64 ((sz : Int) + 1)) ∧ Below W.heap.size W w') :=
      hid (fun W hb => by
        have := (HINX.out.below hb).size (next := next + 1) (by rw [hplx]; exact hgx) c1 (next + 1)
        rw [hplx, hlx, ← hsz] at this
        exact this)
    have HCH : Hid (∀ part : Int, (part = 1 ∨ part = 2 ∨ part = 4 ∨ part = 8 ∨ part = 16) → ∀ W, Below V.heap.size V W → Calls Try.prog 40 #[.agg #[.slice a1 N c1, .int .i64 (next + 1)], .int .i64 next, .int .i64 (bits .or .i64 mask part), .agg #[.int .i64 0, .int .i64 0, .int .i64 0, .int .i64 0, .int .i64 1, .int .i64 1, .int .i64 1, .int .i64 0]] W fun e w' =>
        (∃ (a3 : Option Addr) (M c3 : Nat) (ec : Int), e = .returned (.tuple #[.agg #[.slice a3 M c3, .int .i64 (next + 1)], .int .i64 ec]) ∧ (ec = 0 → ∀ W', Below w'.heap.size w' W' → Calls Try.prog 40 #[.agg #[.slice a3 M c3, .int .i64 (next + 1)], .int .i64 next, .int .i64 mask, .agg #[.int .i64 0, .int .i64 0, .int .i64 0, .int .i64 0, .int .i64 0, .int .i64 0, .int .i64 0, .int .i64 0]] W' fun e w'' =>
          (∃ (a4 : Option Addr) (K c4 : Nat), e = .returned (.tuple #[.agg #[.slice a4 K c4, .int .i64 (next + 1)], .int .i64 0]) ∧ ∃ S4, Own w'' W'.heap.size (.slice a4 K c4) S4 ∧ K = S4.length ∧ GoodL (next + 1) (S4.map (·.t)) ∧ At (S4.map (·.t)) next mask r) ∧ Below W'.heap.size W' w'')) ∧ Below W.heap.size W w') := by
      refine hid (fun part hp W hb => ?_)
      refine (change_any a1 N c1 (next + 1) next (bits .or .i64 mask part) oneR _ _ _ W (HINX.out.below hb)).mono ?_
      rintro e w' ⟨⟨u, ec, rfl, S3, ho3, hout3⟩, hb3⟩
      obtain ⟨a3, c3, rfl⟩ := own_form ho3.1
      refine ⟨⟨a3, S3.length, c3, ec, rfl, fun hec W' hb' => ?_⟩, hb3⟩
      subst hec
      rw [hplx] at hout3
      have hk3 := kept_change hout3
      rcases hout3 with ⟨h, _⟩ | ⟨h, _⟩ | ⟨h, _⟩ | ⟨-, -, m, q, hat3, hr3, hL3⟩
      · cases h
      · cases h
      · cases h
      obtain ⟨rfl, rfl⟩ := at_unique hgx.2.2.2.2.2 hat3 hatx
      have hg3 : GoodL (next + 1) (S3.map (·.t)) := by
        rcases hk3 with h | h
        · exact absurd rfl h
        · exact h.2.1
      obtain ⟨k1, k2, k3⟩ := kill_all hgx (at_mem hatx)
      have hat4 : At (S3.map (·.t)) next (bits .or .i64 m part) (chR (bits .or .i64 m part) m q oneR) := by rw [hL3]; exact (at_put _ _ _ _ k1.even).2 (Or.inl ⟨rfl, rfl, rfl⟩)
      obtain ⟨hin3, hpl3⟩ := own_good ho3 rfl hg3
      refine (change_any a3 S3.length c3 (next + 1) next m zeroR _ _ _ W' (hin3.below hb')).mono ?_
      rintro e w'' ⟨⟨u, ec, rfl, S4, ho4, hout4⟩, hb4⟩
      obtain ⟨a4, c4, rfl⟩ := own_form ho4.1
      rw [hpl3] at hout4
      have hk4 := kept_change hout4
      rcases hout4 with ⟨_, h, _⟩ | ⟨_, _, h, _⟩ | ⟨_, _, ⟨m', q', h1, h2⟩, _⟩ | ⟨rfl, -, m', q', h1, h2, hL4⟩
      · exact absurd hg3 h
      · exact absurd (at_mem hat4) h
      · obtain ⟨rfl, rfl⟩ := at_unique hg3.2.2.2.2.2 h1 hat4
        rw [again hr hp, hr] at h2
        cases h2
      · obtain ⟨rfl, rfl⟩ := at_unique hg3.2.2.2.2.2 h1 hat4
        rw [again hr hp] at hL4
        have hg4 : GoodL (next + 1) (S4.map (·.t)) := by
          rcases hk4 with h | h
          · exact absurd rfl h
          · exact h.2.1
        obtain ⟨l1, l2, l3⟩ := kill_all hg3 (at_mem hat4)
        have hat5 : At (S4.map (·.t)) next m q := by rw [hL4]; exact (at_put _ _ _ _ l1.even).2 (Or.inl ⟨rfl, rfl, rfl⟩)
        exact ⟨⟨a4, S4.length, c4, rfl, S4, ho4, rfl, hg4, hat5⟩, hb4⟩
    have HKL : Hid (∀ W, Below V.heap.size V W → Calls Try.prog 38 #[.agg #[.slice a1 N c1, .int .i64 (next + 1)], .int .i64 next] W fun e w' =>
        (∃ (a3 : Option Addr) (M c3 : Nat), e = .returned (.tuple #[.agg #[.slice a3 M c3, .int .i64 (next + 1)], .int .i64 0]) ∧ (∀ W', Below w'.heap.size w' W' → Calls Try.prog 32 #[.agg #[.slice a3 M c3, .int .i64 (next + 1)], .int .i64 next] W' fun e w5 => e = .returned (.tuple #[.int .i64 0, .agg #[.int .i64 0, .int .i64 0, .int .i64 0, .int .i64 0, .int .i64 0, .int .i64 0, .int .i64 0, .int .i64 0], .bool false]) ∧ Below W'.heap.size W' w5) ∧
          ∀ W', Below w'.heap.size w' W' → Calls Try.prog 33 #[.agg #[.slice a3 M c3, .int .i64 (next + 1)]] W' fun e w5 => e = .returned (.int .i64 sz) ∧ Below W'.heap.size W' w5) ∧ Below W.heap.size W w') := by
      refine hid (fun W hb => ?_)
      refine (kill_any a1 N c1 (next + 1) next _ _ _ W (HINX.out.below hb)).mono ?_
      rintro e w' ⟨⟨u, ec, rfl, S3, ho3, hout3⟩, hb3⟩
      obtain ⟨a3, c3, rfl⟩ := own_form ho3.1
      rw [hplx] at hout3
      rcases hout3 with ⟨_, h, _⟩ | ⟨_, _, h, _⟩ | ⟨rfl, -, -, hL3⟩
      · exact absurd hgx h
      · exact absurd (at_mem hatx) h
      obtain ⟨k1, k2, k3⟩ := kill_all hgx (at_mem hatx)
      have hg3 : GoodL (next + 1) (S3.map (·.t)) := by rw [hL3]; exact k1
      obtain ⟨hin3, hpl3⟩ := own_good ho3 rfl hg3
      refine ⟨⟨a3, S3.length, c3, rfl, fun W' hb' => (hin3.below hb').get_none (by rw [hpl3]; exact hg3.even) c3 (next + 1) next ?_, fun W' hb' => ?_⟩, hb3⟩
      · rw [hpl3, hL3]
        exact (List.nodup_cons.1 (k2.nodup_iff.2 hgx.2.2.2.2.2)).1
      · have h1 := (hin3.below hb').size (next := next + 1) (by rw [hpl3]; exact hg3) c3 (next + 1)
        have h2 : (allL (S3.map (·.t))).length = sz := by
          rw [hL3]
          have := k2.length_eq
          simp at this
          omega
        rw [hpl3, h2] at h1
        exact h1
    have HMK := hid hmk
    clear hgx hatx hnew hlx hK hinx hplx hg hr hl hn hLx HOUT HINS HINX HPLX HO1 HO2 HN hS1 hR1 HB1 hS2 hR2 hX2 HST hsz hmk
    have HL2 := hid hb2
    clear hb2
    obtain ⟨s0, s1, x0, x1, z0, z1⟩ := HS.out _ HL2.out
    have z00 : w.heap.size < w2.heap.size := by omega
    go_wp2_with fail
    refine (HG0.out _ HL2.out).mono ?_
    rintro e w3 ⟨rfl, hb3⟩
    have HL3 := hid (bcall HL2.out hb3)
    clear hb3 s0 s1 x0 x1 z0 z1 z00
    obtain ⟨s0, s1, x0, x1, z0, z1⟩ := HS.out _ HL3.out
    go_wp2_with fail
    refine (HGX.out _ (bal HL3.out _)).mono ?_
    rintro e w4 ⟨rfl, hb4⟩
    have HL4 := hid (bcall (bal HL3.out _) hb4)
    clear hb4 s0 s1 x0 x1 z0 z1
    go_wp2_with fail
    have HL5 := hid (bal HL4.out (.cells #[.int .i64 r.x, .int .i64 r.y, .int .i64 r.px, .int .i64 r.py, .int .i64 r.wd, .int .i64 r.ht, .int .i64 r.ms, .int .i64 r.rr] 30))
    obtain ⟨c0, c1', c2, c3, c4, c5, c6, c7⟩ := row8_cells (rowIs8 w4 r 30)
    generalize w4.alloc (.cells #[.int .i64 r.x, .int .i64 r.y, .int .i64 r.px, .int .i64 r.py, .int .i64 r.wd, .int .i64 r.ht, .int .i64 r.ms, .int .i64 r.rr] 30) = W at HL5 c0 c1' c2 c3 c4 c5 c6 c7 ⊢
    obtain ⟨s0, s1, x0, x1, z0, z1⟩ := HS.out _ HL5.out
    obtain ⟨d0, d1, d2, d3, d4, d5, d6, d7⟩ := row8_cells (HR.out _ HL5.out)
    have hne := neq30
    have hqq : eqR ⟨r.x, r.y, r.px, r.py, r.wd, r.ht, r.ms, r.rr⟩ ⟨r.x, r.y, r.px, r.py, r.wd, r.ht, r.ms, r.rr⟩ = true := by simp [eqR]
    have hmm : (mask != mask) = false := by simp
    have hz00 : w.heap.size < W.heap.size := by omega
    have hws : IntKind.i64.wrap ((sz : Int) + 1) = (sz : Int) + 1 := by rw [IntKind.wrap_i64]; omega
    go_cut [78] (fun s78 wx => s78 = .bool false ∧ ∃ W6, W6 = wx ∧ Below W.heap.size W W6)
    case first =>
      clear HKL HCH HGX HG0 HR
      have HSS5 := hid (fun (W' : World) (hb : Below W.heap.size W W') => HSS.out W' (bcall HL5.out hb))
      have HSX5 := hid (fun (W' : World) (hb : Below W.heap.size W W') => HSX.out W' (bcall HL5.out hb))
      clear HSS HSX HL5 HL4 HL3 HL2 HS
      go_region_with (first
        | (go_at_call 33; go_fit (HSS5.out _ (by first | exact Below.drew (Below.refl _ W) | exact HWX.out)); rintro e ws ⟨rfl, hbs⟩; have HWS : Hid (Below W.heap.size W ws) := hid (by first | exact (Below.drew (Below.refl _ W)).trans hbs | exact bcall HWX.out hbs); obtain ⟨hcs, hfs⟩ := bcell HWS.out; clear hbs hfs)
        | (go_at_call 33; go_fit (HSX5.out _ (by first | exact Below.drew (Below.refl _ W) | exact HWS.out)); rintro e wx ⟨rfl, hbx⟩; have HWX : Hid (Below W.heap.size W wx) := hid (by first | exact (Below.drew (Below.refl _ W)).trans hbx | exact bcall HWS.out hbx); obtain ⟨hcx, hfx⟩ := bcell HWX.out; clear hbx hfx))
      all_goals
        go_wp2_with fail
        go_meet
        refine ⟨by simp, _, rfl, ?_⟩
        first | exact HWX.out | exact HWS.out
    case rest =>
    obtain ⟨rfl, W6, rfl, hb6⟩ := hcut
    have HL6 := hid (bcall HL5.out hb6)
    clear hb6 s0 s1 x0 x1 z0 z1 d0 d1 d2 d3 d4 d5 d6 d7 c0 c1' c2 c3 c4 c5 c6 c7 hz00 HL5 HL4 HL3 HL2
    go_upto_region 10 with fail
    go_cut [18] (fun s18 wx => ∃ part : Int, s18 = .int .i64 part ∧ (part = 1 ∨ part = 2 ∨ part = 4 ∨ part = 8 ∨ part = 16) ∧ W6 = wx)
    case first =>
      have hpk := pk_le more 5 (by omega)
      have hcases : pk more 5 = 0 ∨ pk more 5 = 1 ∨ pk more 5 = 2 ∨ pk more 5 = 3 ∨ pk more 5 = 4 := by omega
      clear hpk
      rcases hcases with e0 | e0 | e0 | e0 | e0
      all_goals
        have E0 := hid e0
        clear e0
        go_wp2_with (go_at_call 45; refine (pick_any _ _ (by decide) (by decide) _).mono ?_; rintro e w' ⟨rfl, rfl⟩; rw [E0.out])
        go_meet
        exact ⟨_, rfl, by decide, rfl⟩
    case rest =>
    obtain ⟨part, rfl, hp, rfl⟩ := hcut
    have HCP := hid (HCH.out part hp)
    have HP := hid hp
    clear hp HCH
    obtain ⟨s0, s1, x0, x1, z0, z1⟩ := HS.out _ HL6.out
    go_upto_if 86 with fail
    go_cut [] (fun wx => ∃ W7, W7 = wx ∧ Below W6.heap.size W6 W7)
    case first =>
      by_cases hbit : bits .and .i64 mask part = 0
      · have hq : (bits .and .i64 mask part == 0) = true := by simp [hbit]
        clear hbit
        go_wp2_with fail
        refine (HCP.out _ HL6.out).mono ?_
        rintro e w7 ⟨⟨a7, M7, c7, ec, rfl, hok⟩, hb7⟩
        have HOK := hid hok
        have HB7 := hid hb7
        have hz7 := hb7.size
        clear hok hb7
        by_cases hec : ec = 0
        · subst hec
          have HOK0 := hid (HOK.out rfl)
          clear HOK
          go_wp2_with fail
          have hY := hid (rowIs2 w7 (.slice a7 M7 c7) (.int .i64 (next + 1)) 28)
          refine (HOK0.out _ (bal (Below.refl _ _) _)).mono ?_
          rintro e w8 ⟨⟨a8, K, c8, rfl, S4, ho8, hK, hg8, hat8⟩, hb8⟩
          have hY8 := hid (rowIs_below hY.out hb8)
          have HB8 := hid (bcall (bal HB7.out _) hb8)
          have hz8 := hb8.size
          simp at hz8
          have HO8 := hid ho8
          have HF8 := hid (And.intro hK (And.intro hg8 hat8))
          clear hb8 ho8 hK hg8 hat8 hY
          have y0 := hY8.out.cell (i := 0) (by omega)
          have y1 := hY8.out.cell (i := 1) (by omega)
          have yf0 := hY8.out.frozen 0
          have yf1 := hY8.out.frozen 1
          simp at y0 y1
          have hz78 : w7.heap.size < w8.heap.size := by omega
          go_wp2_with fail
          have hyy : w7.heap.size < (w7.alloc (.cells #[.slice a7 M7 c7, .int .i64 (next + 1)] 28)).heap.size := by simp
          have HO9 := hid ((HO8.out.set hyy 0 (.slice a8 K c8)).set hyy 1 (.int .i64 (next + 1)))
          have HB9 := hid ((HB8.out.setCell (p := ⟨w7.heap.size, 0, none⟩) (show W6.heap.size ≤ w7.heap.size from hz7) (.slice a8 K c8)).setCell (p := ⟨w7.heap.size, 1, none⟩) (show W6.heap.size ≤ w7.heap.size from hz7) (.int .i64 (next + 1)))
          obtain ⟨hin9, hpl9⟩ := own_good HO9.out HF8.out.1 HF8.out.2.1
          refine (hin9.get_some (by rw [hpl9]; exact HF8.out.2.1.even) (by rw [hpl9]; exact HF8.out.2.1.2.2.2.2.2) c8 (next + 1) next mask r (by rw [hpl9]; exact HF8.out.2.2)).mono ?_
          rintro e w9 ⟨rfl, hb9⟩
          have HB10 := hid (bcall HB9.out hb9)
          have HL10 := hid (bcall HL6.out HB10.out)
          clear hin9 hpl9 hb9 y0 y1 yf0 yf1 s0 s1 x0 x1 z0 z1
          obtain ⟨d0, d1, d2, d3, d4, d5, d6, d7⟩ := row8_cells (HR.out _ HL10.out)
          obtain ⟨s0, s1, x0, x1, z0, z1⟩ := HS.out _ HL10.out
          go_wp2_with fail
          go_meet
          exact ⟨_, rfl, bal HB10.out _⟩
        · have hq2 : (ec == 0) = false := by simp [hec]
          clear hec
          go_wp2_with fail
          go_meet
          exact ⟨_, rfl, bal HB7.out _⟩
      · have hq : (bits .and .i64 mask part == 0) = false := by simp [hbit]
        clear hbit
        go_wp2_with fail
        go_meet
        exact ⟨_, rfl, Below.refl _ _⟩
    case rest =>
    obtain ⟨W7, rfl, hb7⟩ := hcut
    have HL7 := hid (bcall HL6.out hb7)
    clear hb7 s0 s1 x0 x1 z0 z1 HL6
    obtain ⟨s0, s1, x0, x1, z0, z1⟩ := HS.out _ HL7.out
    go_wp2_with fail
    refine (HKL.out _ HL7.out).mono ?_
    rintro e w8 ⟨⟨a8, M, c8, rfl, hg8, hs8⟩, hb8⟩
    have HG8 := hid hg8
    have HS8 := hid hs8
    have HL8 := hid (bcall HL7.out hb8)
    clear hg8 hs8 hb8 s0 s1 x0 x1 z0 z1
    go_wp2_with fail
    have hZ8 := hid (rowIs2 w8 (.slice a8 M c8) (.int .i64 (next + 1)) 28)
    refine (HG8.out _ (bal (Below.refl _ _) _)).mono ?_
    rintro e w9 ⟨rfl, hb9⟩
    have hZ9 := hid (rowIs_below hZ8.out hb9)
    have HW9 := hid (bcall (bal (Below.refl _ w8) _) hb9)
    clear hb9 hZ8
    go_wp2_with fail
    have HW10 := hid (bal HW9.out (.cells #[.int .i64 0, .int .i64 0, .int .i64 0, .int .i64 0, .int .i64 0, .int .i64 0, .int .i64 0, .int .i64 0] 30))
    have hZ10 := hid (hZ9.out.alloc (.cells #[.int .i64 0, .int .i64 0, .int .i64 0, .int .i64 0, .int .i64 0, .int .i64 0, .int .i64 0, .int .i64 0] 30))
    generalize w9.alloc (.cells #[.int .i64 0, .int .i64 0, .int .i64 0, .int .i64 0, .int .i64 0, .int .i64 0, .int .i64 0, .int .i64 0] 30) = U at HW10 hZ10 ⊢
    have HLU := hid (bcall HL8.out HW10.out)
    obtain ⟨s0, s1, x0, x1, z0, z1⟩ := HS.out _ HLU.out
    have y0 := hZ10.out.cell (i := 0) (by omega)
    have y1 := hZ10.out.cell (i := 1) (by omega)
    have zy := hZ10.out.lt
    simp at y0 y1
    have z00 : w.heap.size < U.heap.size := by omega
    have HSSU := hid (fun (W' : World) (hb : Below U.heap.size U W') => HSS.out W' (bcall HLU.out hb))
    have HSXU := hid (fun (W' : World) (hb : Below U.heap.size U W') => HS8.out W' (bcall HW10.out hb))
    have HBU := hid (HB2.out.trans (HLU.out.mono HB2.out.size))
    clear HSS HSX HL8 HS HG8 HS8 HKL HGX HG0 HW9 hZ9 HW10 hZ10 HLU
    go_region_with (first
      | (go_at_call 33; go_fit (HSSU.out _ (by first | exact Below.drew (Below.refl _ U) | exact HWX.out)); rintro e ws ⟨rfl, hbs⟩; have HWS : Hid (Below U.heap.size U ws) := hid (by first | exact (Below.drew (Below.refl _ U)).trans hbs | exact bcall HWX.out hbs); obtain ⟨hcs, hfs⟩ := bcell HWS.out; clear hbs hfs)
      | (go_at_call 33; go_fit (HSXU.out _ (by first | exact Below.drew (Below.refl _ U) | exact HWS.out)); rintro e wx ⟨rfl, hbx⟩; have HWX : Hid (Below U.heap.size U wx) := hid (by first | exact (Below.drew (Below.refl _ U)).trans hbx | exact bcall HWS.out hbx); obtain ⟨hcx, hfx⟩ := bcell HWX.out; clear hbx hfx))
    all_goals
      go_wp2_with fail
      go_ret
      refine ⟨ret_bool (by simp), ?_⟩
      first | exact bcall HBU.out HWX.out | exact bcall HBU.out HWS.out
end Go.Proofs.Ytckkkdldljhehaa.St
