/- What StoreKeeps of package ninepinskeep answers when called over any store, numbers, mask and row: true; nothing that was in memory before has changed. -/
import Derived.Test.YtckkkdldljhehaaStGetX
import Derived.Test.YtckkkdldljhehaaStThings
import Derived.Test.YtckkkdldljhehaaStKill
import Derived.Test.YtckkkdldljhehaaStSet
import Derived.Test.YtckkkdldljhehaaStChange
import Derived.WalkSmall
namespace Go.Proofs.Ytckkkdldljhehaa.St
open Go.Proofs.Ytckkkdldljhehaa.Num
open Go.ChangeShapes Go.WideShapes Go.ChangeAt Go.RowKit

def pk (k n : Int) : Int := if k.tmod n < 0 then k.tmod n + n else k.tmod n
theorem pk_le (k n : Int) (hn : 0 < n) : 0 ≤ pk k n ∧ pk k n < n := by
  have h1 := Int.lt_tmod_of_pos k hn
  have h2 := Int.tmod_lt_of_pos k hn
  unfold pk; split <;> omega
theorem pick_any (k n : Int) (hn : 0 < n) (hn2 : n ≤ 1048576) (w : World) :
    Calls Try.prog 45 #[.int .i64 k, .int .i64 n] w fun e w' => e = .returned (.int .i64 (pk k n)) ∧ w' = w := by
  have h1 := Int.lt_tmod_of_pos k hn
  have h2 := Int.tmod_lt_of_pos k hn
  by_cases h : k.tmod n < 0
  all_goals
    go_enter Try.func45, Try.ntmps45
    go_wp2
    go_ret
    exact ⟨ret_int (by unfold pk; first | rw [if_pos h] | rw [if_neg (by omega)]), rfl⟩

theorem row8_cells {W : World} {b : Nat} {r : R8} (h : W.rowIs b 30 8 (fun i => (rowCells r).getD i undef)) : W.cell? ⟨b, 0, none⟩ = some (.int .i64 r.x) ∧ W.cell? ⟨b, 1, none⟩ = some (.int .i64 r.y) ∧ W.cell? ⟨b, 2, none⟩ = some (.int .i64 r.px) ∧ W.cell? ⟨b, 3, none⟩ = some (.int .i64 r.py) ∧
    W.cell? ⟨b, 4, none⟩ = some (.int .i64 r.wd) ∧ W.cell? ⟨b, 5, none⟩ = some (.int .i64 r.ht) ∧ W.cell? ⟨b, 6, none⟩ = some (.int .i64 r.ms) ∧ W.cell? ⟨b, 7, none⟩ = some (.int .i64 r.rr) :=
  ⟨h.cell (i := 0) (by omega), h.cell (i := 1) (by omega), h.cell (i := 2) (by omega), h.cell (i := 3) (by omega), h.cell (i := 4) (by omega), h.cell (i := 5) (by omega), h.cell (i := 6) (by omega), h.cell (i := 7) (by omega)⟩
/-- What comes of a turn: an error, or a good store in which all others are as they were. -/
def Kept (L : List Tab) (ec id' next' : Int) (L' : List Tab) : Prop := ec ≠ 0 ∨ (ec = 0 ∧ GoodL next' L' ∧ ∀ u m q, u ≠ id' → (At L' u m q ↔ At L u m q))
theorem kept_kill {next v : Int} {L L' : List Tab} {ec : Int} (h : KillOut next v L ec L') : Kept L ec v next L' := by
  rcases h with ⟨rfl, _⟩ | ⟨rfl, _⟩ | ⟨rfl, hg, hv, rfl⟩
  · exact Or.inl (by decide)
  · exact Or.inl (by decide)
  · obtain ⟨h1, -, h3⟩ := kill_all hg hv
    exact Or.inr ⟨rfl, h1, fun u m q hu => by rw [h3]; exact ⟨fun x => x.2, fun x => ⟨hu, x⟩⟩⟩
theorem kept_set {next v : Int} {r : R8} {L L' : List Tab} {ec : Int} (h : SetOut next v r L ec L') : Kept L ec v next L' := by
  rcases h with ⟨rfl, _⟩ | ⟨rfl, _⟩ | ⟨rfl, _⟩ | ⟨rfl, hg, ⟨m, q, hat, hr⟩, rfl⟩
  · exact Or.inl (by decide)
  · exact Or.inl (by decide)
  · exact Or.inl (by decide)
  · refine Or.inr ⟨rfl, good_set hg (fun m' q' h' => ?_), fun u m' q' hu => ?_⟩
    · obtain ⟨rfl, -⟩ := at_unique hg.2.2.2.2.2 h' hat
      exact hr
    · rw [at_set hg.even]
      exact ⟨fun x => x.elim (fun y => y.2) (fun y => absurd y.1 hu), fun x => Or.inl ⟨hu, x⟩⟩
theorem kept_change {next v mask : Int} {r : R8} {L L' : List Tab} {ec : Int} (h : ChangeOut next v mask r L ec L') : Kept L ec v next L' := by
  rcases h with ⟨rfl, _⟩ | ⟨rfl, _⟩ | ⟨rfl, _⟩ | ⟨rfl, hg, m, q, hat, hr, rfl⟩
  · exact Or.inl (by decide)
  · exact Or.inl (by decide)
  · exact Or.inl (by decide)
  · obtain ⟨h1, h2, h3⟩ := kill_all hg (at_mem hat)
    have h4 := (At.good hg hat).2
    have h5 := hg.1
    simp [btw] at h5
    have hnd := List.nodup_cons.1 (h2.nodup_iff.2 hg.2.2.2.2.2)
    refine Or.inr ⟨rfl, put_all h1 (Int.le_refl _) (by omega) ?_ h4 hnd.1 hr, fun u m' q' hu => ?_⟩
    · have := h2.length_eq
      have := hg.2.1
      simp at *
      omega
    · rw [at_put _ _ _ _ h1.even, h3]
      exact ⟨fun x => x.elim (fun y => absurd y.1 hu) (fun y => y.2), fun x => Or.inr ⟨hu, x⟩⟩
theorem kept_spawn {next mask nx id ec : Int} {r : R8} {L L' : List Tab} (h : SpawnOut next mask r L nx id ec L') : Kept L ec id nx L' := by
  rcases h with ⟨_, _, _, h⟩ | ⟨rfl, rfl, rfl, hg, hr, hl, hn, rfl⟩
  · rcases h with ⟨rfl, _⟩ | ⟨rfl, _⟩ | ⟨rfl, _⟩ <;> exact Or.inl (by decide)
  · have h5 := hg.1
    simp [btw] at h5
    have hnew : id ∉ allL L := fun hc => by
      obtain ⟨m, q, hat⟩ := at_of_mem hg.even hc
      have := (At.good hg hat).2
      omega
    refine Or.inr ⟨rfl, put_all hg (by omega) (by omega) (by omega) ⟨by omega, by omega⟩ hnew hr, fun u m' q' hu => ?_⟩
    rw [at_put _ _ _ _ hg.even]
    exact ⟨fun x => x.elim (fun y => absurd y.1 hu) (fun y => y), fun x => Or.inr x⟩

set_option maxHeartbeats 4000000 in
set_option maxRecDepth 100000 in
theorem keeps_any (a : Option Addr) (n cap : Nat) (next id other kind mask : Int) (r : R8) (T : Nat → TabV) (I : Nat → Nat → Int) (R : Nat → Nat → R8) (w : World) (h : StoreIn w a n T I R) :
    Calls Try.prog 7 #[.agg #[.slice a n cap, .int .i64 next], .int .i64 id, .int .i64 other, .int .i64 kind, .int .i64 mask, .agg #[.int .i64 r.x, .int .i64 r.y, .int .i64 r.px, .int .i64 r.py, .int .i64 r.wd, .int .i64 r.ht, .int .i64 r.ms, .int .i64 r.rr]] w fun e w' => e = .returned (.bool true) ∧ Below w.heap.size w w' := by
  have HST := hid h
  clear h
  go_enter Try.func7, Try.ntmps7
  go_wp2_with fail
  refine ((HST.out.below (bal (bal (Below.refl _ _) _) _)).good cap next).mono ?_
  rintro e w1 ⟨⟨g, rfl, hg⟩, hb1⟩
  have hz1 := hb1.size
  simp at hz1
  have hS1 := hid (rowIs_below ((rowIs2 w (.slice a n cap) (.int .i64 next) 28).alloc (.cells #[.int .i64 r.x, .int .i64 r.y, .int .i64 r.px, .int .i64 r.py, .int .i64 r.wd, .int .i64 r.ht, .int .i64 r.ms, .int .i64 r.rr] 30)) hb1)
  have hR1 := hid (rowIs_below (rowIs8 (w.alloc (.cells #[.slice a n cap, .int .i64 next] 28)) r 30) hb1)
  rw [World.size_alloc] at hR1
  have HB1 : Hid (Below w.heap.size w w1) := hid (bcall (bal (bal (Below.refl _ _) _) _) hb1)
  have HG := hid hg
  clear hb1 hg
  cases g
  · go_wp2_with (go_at_call 44; refine (thingsK_any _).mono ?_; rintro e w2 ⟨rfl, hb2⟩)
    go_ret
    exact ⟨rfl, bcall HB1.out hb2⟩
  · have HGL : Hid (GoodL next (plainOf T I R n)) := hid (HG.out.1 rfl)
    by_cases hoi : other = id
    · have hq : (other == id) = true := by simp [hoi]
      clear hoi
      go_wp2_with (go_at_call 44; refine (thingsK_any _).mono ?_; rintro e w2 ⟨rfl, hb2⟩)
      go_ret
      exact ⟨rfl, bcall HB1.out hb2⟩
    · have hq : (other == id) = false := by simp [hoi]
      have HOI := hid hoi
      clear hoi
      have s0 := hS1.out.cell (i := 0) (by omega)
      have s1 := hS1.out.cell (i := 1) (by omega)
      simp at s0 s1
      have hw01 : w.heap.size < w1.heap.size := by omega
      have hw11 : w.heap.size + 1 < w1.heap.size := by omega
      obtain ⟨r0, r1, r2, r3, r4, r5, r6, r7⟩ := row8_cells hR1.out
      have hpk := pk_le kind 4 (by omega)
      have hcases : pk kind 4 = 0 ∨ pk kind 4 = 1 ∨ pk kind 4 = 2 ∨ pk kind 4 = 3 := by omega
      have HIN : Hid (StoreIn (w1.alloc (.cells #[.slice none 0 0, .int .i64 0] 28)) a n T I R) := hid (HST.out.below (bal HB1.out _))
      have hX1 := hid (rowIs2 w1 (.slice none 0 0) (.int .i64 0) 28)
      have hS2 := hid (hS1.out.alloc (.cells #[.slice none 0 0, .int .i64 0] 28))
      have HB2 : Hid (Below w.heap.size w (w1.alloc (.cells #[.slice none 0 0, .int .i64 0] 28))) := hid (bal HB1.out _)
      clear hpk
      rcases hcases with e0 | e0 | e0 | e0
      · have E0 := hid e0
        clear e0
        go_wp2_with (go_at_call 45; refine (pick_any _ _ (by decide) (by decide) _).mono ?_; rintro e w' ⟨rfl, rfl⟩; rw [E0.out])
        refine (spawn_any a n cap next mask T I R r _ HIN.out (fun a' n' c' B A C h1 h2 _ => insertAt_any a' n' c' B A C mask h2 (by omega))).mono ?_
        rintro e w3 ⟨⟨u, nx, id2, ec, rfl, S, hown, hout⟩, hb3⟩
        obtain ⟨a3, c3, rfl⟩ := own_form hown.1
        obtain ⟨N, hN⟩ : ∃ N, N = S.length := ⟨_, rfl⟩
        rw [← hN] at hown ⊢
        have HN := hid hN
        have HK := hid (kept_spawn hout)
        have hX3 := hid (rowIs_below hX1.out hb3)
        have hS3 := hid (rowIs_below hS2.out hb3)
        have HO3 := hid hown
        have HB3 := hid (bcall HB2.out hb3)
        have hz3 := hb3.size
        simp at hz3
        clear hb3 hown hout hN hX1 hS1 hR1 hS2 HB2 HIN s0 s1 r0 r1 r2 r3 r4 r5 r6 r7
        have x0 := hX3.out.cell (i := 0) (by omega)
        have x1 := hX3.out.cell (i := 1) (by omega)
        have xf0 := hX3.out.frozen 0
        have xf1 := hX3.out.frozen 1
        have s0 := hS3.out.cell (i := 0) (by omega)
        have s1 := hS3.out.cell (i := 1) (by omega)
        simp at x0 x1 s0 s1
        have hne1 : w.heap.size ≠ w1.heap.size := by omega
        rcases HK.out with hec | ⟨rfl, hgx, hatx⟩
        · have hq2 : (ec == 0) = false := by simp [hec]
          have hq3 : (ec != 0) = true := by simp [hec]
          have HEC := hid hec
          clear hec
          go_wp2_with (go_at_call 44; refine (thingsK_any _).mono ?_; rintro e w4 ⟨rfl, hb4⟩)
          go_ret
          refine ⟨rfl, bcall ?_ hb4⟩
          refine Below.setCell ?_ (by simp; omega) _
          refine Below.setCell ?_ (by simp; omega) _
          exact HB3.out
        · have HGX := hid hgx
          have HATX := hid hatx
          clear hgx hatx
          by_cases hno : other = id2
          · have hq4 : (other == id2) = true := by simp [hno]
            clear hno
            go_wp2_with (go_at_call 44; refine (thingsK_any _).mono ?_; rintro e w4 ⟨rfl, hb4⟩)
            go_ret
            refine ⟨rfl, bcall ?_ hb4⟩
            refine Below.setCell ?_ (by simp; omega) _
            refine Below.setCell ?_ (by simp; omega) _
            exact HB3.out
          have hq4 : (other == id2) = false := by simp [hno]
          have HNE := hid hno
          clear hno
          go_wp2_with fail
          have hX4 := hid (((hX3.out.set 0 (.slice a3 N c3)).set 1 (.int .i64 nx)).congr (g := fun i => if i = 0 then .slice a3 N c3 else .int .i64 nx) (fun i hi => by match i, hi with | 0, _ => rfl | 1, _ => rfl))
          have hS4 := hid ((hS3.out.setOther (a := ⟨w1.heap.size, 0, none⟩) (by simp; omega) (.slice a3 N c3)).setOther (a := ⟨w1.heap.size, 1, none⟩) (by simp; omega) (.int .i64 nx))
          have hnb := own_not_box HO3.out hX3.out (by decide)
          have HO4 := hid ((HO3.out.set' hnb 0 (.slice a3 N c3)).set' hnb 1 (.int .i64 nx))
          have HB4 := hid ((HB3.out.setCell (p := ⟨w1.heap.size, 0, none⟩) (show w.heap.size ≤ w1.heap.size by omega) (.slice a3 N c3)).setCell (p := ⟨w1.heap.size, 1, none⟩) (show w.heap.size ≤ w1.heap.size by omega) (.int .i64 nx))
          have hz4 : Hid (w1.heap.size < ((w3.setCell ⟨w1.heap.size, 0, none⟩ (.slice a3 N c3)).setCell ⟨w1.heap.size, 1, none⟩ (.int .i64 nx)).heap.size) := hid (by simp; omega)
          generalize (w3.setCell ⟨w1.heap.size, 0, none⟩ (.slice a3 N c3)).setCell ⟨w1.heap.size, 1, none⟩ (.int .i64 nx) = W4 at hX4 hS4 HO4 HB4 hz4 ⊢
          clear hX3 hS3 HO3 HB3 x0 x1 xf0 xf1 s0 s1 hnb
          have HIN4 := hid (HST.out.below HB4.out)
          obtain ⟨hinx, hplx⟩ := own_good HO4.out HN.out HGX.out
          have HInx := hid hinx
          have HPLX := hid hplx
          clear hinx hplx
          obtain ⟨m, q, ok, HGS, HGT⟩ : ∃ (m : Int) (q : R8) (ok : Bool),
              Hid (∀ W, Below W4.heap.size W4 W → Calls Try.prog 32 #[.agg #[.slice a n cap, .int .i64 next], .int .i64 other] W fun e w' => e = .returned (.tuple #[.int .i64 m, .agg #[.int .i64 q.x, .int .i64 q.y, .int .i64 q.px, .int .i64 q.py, .int .i64 q.wd, .int .i64 q.ht, .int .i64 q.ms, .int .i64 q.rr], .bool ok]) ∧ Below W.heap.size W w') ∧
              Hid (∀ W, Below W4.heap.size W4 W → Calls Try.prog 32 #[.agg #[.slice a3 N c3, .int .i64 nx], .int .i64 other] W fun e w' => e = .returned (.tuple #[.int .i64 m, .agg #[.int .i64 q.x, .int .i64 q.y, .int .i64 q.px, .int .i64 q.py, .int .i64 q.wd, .int .i64 q.ht, .int .i64 q.ms, .int .i64 q.rr], .bool ok]) ∧ Below W.heap.size W w') := by
            have hgl := HGL.out
            have hgx := HGX.out
            rw [← HPLX.out] at hgx
            have hx : ∀ m q, At (plainOf (tvOf S) (idOf S) (rwOf S) N) other m q ↔ At (plainOf T I R n) other m q := fun m q => by rw [HPLX.out]; exact HATX.out other m q HNE.out
            by_cases hm : other ∈ allL (plainOf T I R n)
            · obtain ⟨m, q, hat⟩ := at_of_mem hgl.even hm
              exact ⟨m, q, true, hid (fun W hb => (HIN4.out.below hb).get_some hgl.even hgl.2.2.2.2.2 cap next other m q hat), hid (fun W hb => (HInx.out.below hb).get_some hgx.even hgx.2.2.2.2.2 c3 nx other m q ((hx m q).2 hat))⟩
            · have hm' : other ∉ allL (plainOf (tvOf S) (idOf S) (rwOf S) N) := fun hc => by
                obtain ⟨m, q, hat⟩ := at_of_mem hgx.even hc
                exact hm (at_mem ((hx m q).1 hat))
              exact ⟨0, zeroR, false, hid (fun W hb => (HIN4.out.below hb).get_none hgl.even cap next other hm), hid (fun W hb => (HInx.out.below hb).get_none hgx.even c3 nx other hm')⟩
          have HGG : Hid (∀ W, Below W4.heap.size W4 W → Calls Try.prog 25 #[.agg #[.slice a3 N c3, .int .i64 nx]] W fun e w' => e = .returned (.bool true) ∧ Below W.heap.size W w') := by
            refine hid (fun W hb => ((HInx.out.below hb).good c3 nx).mono ?_)
            rintro e w' ⟨⟨g, rfl, hg⟩, hb'⟩
            rw [HPLX.out] at hg
            have : g = true := hg.2 HGX.out
            subst this
            exact ⟨rfl, hb'⟩
          clear HIN4 HInx HST HGL HGX HATX HPLX HO4
          have s0 := hS4.out.cell (i := 0) (by omega)
          have s1 := hS4.out.cell (i := 1) (by omega)
          simp at s0 s1
          have hz40 : w.heap.size < W4.heap.size := by have := hz4.out; omega
          refine (HGS.out _ (Below.refl _ _)).mono ?_
          rintro e w5 ⟨rfl, hb5⟩
          have hX5 := hid (rowIs_below hX4.out hb5)
          have HB5 := hid (bcall HB4.out hb5)
          have HL5 := hid hb5
          have hz5 := hid (Nat.lt_of_lt_of_le hz4.out hb5.size)
          clear hb5 s0 s1
          have x0 := hX5.out.cell (i := 0) (by omega)
          have x1 := hX5.out.cell (i := 1) (by omega)
          simp at x0 x1
          have hz51 : w1.heap.size < w5.heap.size := hz5.out
          go_wp2_with fail
          have hX6 := hid (hX5.out.alloc (.cells #[.int .i64 q.x, .int .i64 q.y, .int .i64 q.px, .int .i64 q.py, .int .i64 q.wd, .int .i64 q.ht, .int .i64 q.ms, .int .i64 q.rr] 30))
          have hA6 := hid (rowIs8 w5 q 30)
          refine (HGT.out _ (bal HL5.out _)).mono ?_
          rintro e w6 ⟨rfl, hb6⟩
          have hX7 := hid (rowIs_below hX6.out hb6)
          have hA7 := hid (rowIs_below hA6.out hb6)
          have HB7 := hid (bcall (bal HB5.out _) hb6)
          have HL7 := hid (bcall (bal HL5.out _) hb6)
          have hz7 := hb6.size
          simp at hz7
          clear hb6 x0 x1 hX6 hA6 hX5
          have x0 := hX7.out.cell (i := 0) (by omega)
          have x1 := hX7.out.cell (i := 1) (by omega)
          simp at x0 x1
          have hz71 : w1.heap.size < w6.heap.size := by omega
          go_wp2_with fail
          have hA8 := hid (hA7.out.alloc (.cells #[.int .i64 q.x, .int .i64 q.y, .int .i64 q.px, .int .i64 q.py, .int .i64 q.wd, .int .i64 q.ht, .int .i64 q.ms, .int .i64 q.rr] 30))
          have hB8 := hid (rowIs8 w6 q 30)
          refine (HGG.out _ (bal HL7.out _)).mono ?_
          rintro e w8 ⟨rfl, hb8⟩
          obtain ⟨c0, c1, c2, c3', c4, c5, c6, c7⟩ := row8_cells (rowIs_below hA8.out hb8)
          obtain ⟨d0, d1, d2, d3, d4, d5, d6, d7⟩ := row8_cells (rowIs_below hB8.out hb8)
          have HB8 := hid (bcall (bal HB7.out _) hb8)
          clear hb8 x0 x1
          have heq := eq30
          have hqq : eqR ⟨q.x, q.y, q.px, q.py, q.wd, q.ht, q.ms, q.rr⟩ ⟨q.x, q.y, q.px, q.py, q.wd, q.ht, q.ms, q.rr⟩ = true := by simp [eqR]
          go_wp2_with (go_at_call 44; refine (thingsK_any _).mono ?_; rintro e w9 ⟨rfl, hb9⟩)
          go_ret
          exact ⟨rfl, bcall HB8.out hb9⟩
      · have E0 := hid e0
        clear e0
        go_wp2_with (go_at_call 45; refine (pick_any _ _ (by decide) (by decide) _).mono ?_; rintro e w' ⟨rfl, rfl⟩; rw [E0.out])
        refine (kill_any a n cap next id T I R _ HIN.out).mono ?_
        rintro e w3 ⟨⟨u, ec, rfl, S, hown, hout⟩, hb3⟩
        obtain ⟨a3, c3, rfl⟩ := own_form hown.1
        obtain ⟨N, hN⟩ : ∃ N, N = S.length := ⟨_, rfl⟩
        rw [← hN] at hown ⊢
        have HN := hid hN
        have HK := hid (kept_kill hout)
        have hX3 := hid (rowIs_below hX1.out hb3)
        have hS3 := hid (rowIs_below hS2.out hb3)
        have HO3 := hid hown
        have HB3 := hid (bcall HB2.out hb3)
        have hz3 := hb3.size
        simp at hz3
        clear hb3 hown hout hN hX1 hS1 hR1 hS2 HB2 HIN s0 s1 r0 r1 r2 r3 r4 r5 r6 r7
        have x0 := hX3.out.cell (i := 0) (by omega)
        have x1 := hX3.out.cell (i := 1) (by omega)
        have xf0 := hX3.out.frozen 0
        have xf1 := hX3.out.frozen 1
        have s0 := hS3.out.cell (i := 0) (by omega)
        have s1 := hS3.out.cell (i := 1) (by omega)
        simp at x0 x1 s0 s1
        have hne1 : w.heap.size ≠ w1.heap.size := by omega
        rcases HK.out with hec | ⟨rfl, hgx, hatx⟩
        · have hq2 : (ec == 0) = false := by simp [hec]
          have hq3 : (ec != 0) = true := by simp [hec]
          have HEC := hid hec
          clear hec
          go_wp2_with (go_at_call 44; refine (thingsK_any _).mono ?_; rintro e w4 ⟨rfl, hb4⟩)
          go_ret
          refine ⟨rfl, bcall ?_ hb4⟩
          refine Below.setCell ?_ (by simp; omega) _
          refine Below.setCell ?_ (by simp; omega) _
          exact HB3.out
        · have HGX := hid hgx
          have HATX := hid hatx
          clear hgx hatx
          have HNE := hid HOI.out
          go_wp2_with fail
          have hX4 := hid (((hX3.out.set 0 (.slice a3 N c3)).set 1 (.int .i64 next)).congr (g := fun i => if i = 0 then .slice a3 N c3 else .int .i64 next) (fun i hi => by match i, hi with | 0, _ => rfl | 1, _ => rfl))
          have hS4 := hid ((hS3.out.setOther (a := ⟨w1.heap.size, 0, none⟩) (by simp; omega) (.slice a3 N c3)).setOther (a := ⟨w1.heap.size, 1, none⟩) (by simp; omega) (.int .i64 next))
          have hnb := own_not_box HO3.out hX3.out (by decide)
          have HO4 := hid ((HO3.out.set' hnb 0 (.slice a3 N c3)).set' hnb 1 (.int .i64 next))
          have HB4 := hid ((HB3.out.setCell (p := ⟨w1.heap.size, 0, none⟩) (show w.heap.size ≤ w1.heap.size by omega) (.slice a3 N c3)).setCell (p := ⟨w1.heap.size, 1, none⟩) (show w.heap.size ≤ w1.heap.size by omega) (.int .i64 next))
          have hz4 : Hid (w1.heap.size < ((w3.setCell ⟨w1.heap.size, 0, none⟩ (.slice a3 N c3)).setCell ⟨w1.heap.size, 1, none⟩ (.int .i64 next)).heap.size) := hid (by simp; omega)
          generalize (w3.setCell ⟨w1.heap.size, 0, none⟩ (.slice a3 N c3)).setCell ⟨w1.heap.size, 1, none⟩ (.int .i64 next) = W4 at hX4 hS4 HO4 HB4 hz4 ⊢
          clear hX3 hS3 HO3 HB3 x0 x1 xf0 xf1 s0 s1 hnb
          have HIN4 := hid (HST.out.below HB4.out)
          obtain ⟨hinx, hplx⟩ := own_good HO4.out HN.out HGX.out
          have HInext := hid hinx
          have HPLX := hid hplx
          clear hinx hplx
          obtain ⟨m, q, ok, HGS, HGT⟩ : ∃ (m : Int) (q : R8) (ok : Bool),
              Hid (∀ W, Below W4.heap.size W4 W → Calls Try.prog 32 #[.agg #[.slice a n cap, .int .i64 next], .int .i64 other] W fun e w' => e = .returned (.tuple #[.int .i64 m, .agg #[.int .i64 q.x, .int .i64 q.y, .int .i64 q.px, .int .i64 q.py, .int .i64 q.wd, .int .i64 q.ht, .int .i64 q.ms, .int .i64 q.rr], .bool ok]) ∧ Below W.heap.size W w') ∧
              Hid (∀ W, Below W4.heap.size W4 W → Calls Try.prog 32 #[.agg #[.slice a3 N c3, .int .i64 next], .int .i64 other] W fun e w' => e = .returned (.tuple #[.int .i64 m, .agg #[.int .i64 q.x, .int .i64 q.y, .int .i64 q.px, .int .i64 q.py, .int .i64 q.wd, .int .i64 q.ht, .int .i64 q.ms, .int .i64 q.rr], .bool ok]) ∧ Below W.heap.size W w') := by
            have hgl := HGL.out
            have hgx := HGX.out
            rw [← HPLX.out] at hgx
            have hx : ∀ m q, At (plainOf (tvOf S) (idOf S) (rwOf S) N) other m q ↔ At (plainOf T I R n) other m q := fun m q => by rw [HPLX.out]; exact HATX.out other m q HNE.out
            by_cases hm : other ∈ allL (plainOf T I R n)
            · obtain ⟨m, q, hat⟩ := at_of_mem hgl.even hm
              exact ⟨m, q, true, hid (fun W hb => (HIN4.out.below hb).get_some hgl.even hgl.2.2.2.2.2 cap next other m q hat), hid (fun W hb => (HInext.out.below hb).get_some hgx.even hgx.2.2.2.2.2 c3 next other m q ((hx m q).2 hat))⟩
            · have hm' : other ∉ allL (plainOf (tvOf S) (idOf S) (rwOf S) N) := fun hc => by
                obtain ⟨m, q, hat⟩ := at_of_mem hgx.even hc
                exact hm (at_mem ((hx m q).1 hat))
              exact ⟨0, zeroR, false, hid (fun W hb => (HIN4.out.below hb).get_none hgl.even cap next other hm), hid (fun W hb => (HInext.out.below hb).get_none hgx.even c3 next other hm')⟩
          have HGG : Hid (∀ W, Below W4.heap.size W4 W → Calls Try.prog 25 #[.agg #[.slice a3 N c3, .int .i64 next]] W fun e w' => e = .returned (.bool true) ∧ Below W.heap.size W w') := by
            refine hid (fun W hb => ((HInext.out.below hb).good c3 next).mono ?_)
            rintro e w' ⟨⟨g, rfl, hg⟩, hb'⟩
            rw [HPLX.out] at hg
            have : g = true := hg.2 HGX.out
            subst this
            exact ⟨rfl, hb'⟩
          clear HIN4 HInext HST HGL HGX HATX HPLX HO4
          have s0 := hS4.out.cell (i := 0) (by omega)
          have s1 := hS4.out.cell (i := 1) (by omega)
          simp at s0 s1
          have hz40 : w.heap.size < W4.heap.size := by have := hz4.out; omega
          refine (HGS.out _ (Below.refl _ _)).mono ?_
          rintro e w5 ⟨rfl, hb5⟩
          have hX5 := hid (rowIs_below hX4.out hb5)
          have HB5 := hid (bcall HB4.out hb5)
          have HL5 := hid hb5
          have hz5 := hid (Nat.lt_of_lt_of_le hz4.out hb5.size)
          clear hb5 s0 s1
          have x0 := hX5.out.cell (i := 0) (by omega)
          have x1 := hX5.out.cell (i := 1) (by omega)
          simp at x0 x1
          have hz51 : w1.heap.size < w5.heap.size := hz5.out
          go_wp2_with fail
          have hX6 := hid (hX5.out.alloc (.cells #[.int .i64 q.x, .int .i64 q.y, .int .i64 q.px, .int .i64 q.py, .int .i64 q.wd, .int .i64 q.ht, .int .i64 q.ms, .int .i64 q.rr] 30))
          have hA6 := hid (rowIs8 w5 q 30)
          refine (HGT.out _ (bal HL5.out _)).mono ?_
          rintro e w6 ⟨rfl, hb6⟩
          have hX7 := hid (rowIs_below hX6.out hb6)
          have hA7 := hid (rowIs_below hA6.out hb6)
          have HB7 := hid (bcall (bal HB5.out _) hb6)
          have HL7 := hid (bcall (bal HL5.out _) hb6)
          have hz7 := hb6.size
          simp at hz7
          clear hb6 x0 x1 hX6 hA6 hX5
          have x0 := hX7.out.cell (i := 0) (by omega)
          have x1 := hX7.out.cell (i := 1) (by omega)
          simp at x0 x1
          have hz71 : w1.heap.size < w6.heap.size := by omega
          go_wp2_with fail
          have hA8 := hid (hA7.out.alloc (.cells #[.int .i64 q.x, .int .i64 q.y, .int .i64 q.px, .int .i64 q.py, .int .i64 q.wd, .int .i64 q.ht, .int .i64 q.ms, .int .i64 q.rr] 30))
          have hB8 := hid (rowIs8 w6 q 30)
          refine (HGG.out _ (bal HL7.out _)).mono ?_
          rintro e w8 ⟨rfl, hb8⟩
          obtain ⟨c0, c1, c2, c3', c4, c5, c6, c7⟩ := row8_cells (rowIs_below hA8.out hb8)
          obtain ⟨d0, d1, d2, d3, d4, d5, d6, d7⟩ := row8_cells (rowIs_below hB8.out hb8)
          have HB8 := hid (bcall (bal HB7.out _) hb8)
          clear hb8 x0 x1
          have heq := eq30
          have hqq : eqR ⟨q.x, q.y, q.px, q.py, q.wd, q.ht, q.ms, q.rr⟩ ⟨q.x, q.y, q.px, q.py, q.wd, q.ht, q.ms, q.rr⟩ = true := by simp [eqR]
          go_wp2_with (go_at_call 44; refine (thingsK_any _).mono ?_; rintro e w9 ⟨rfl, hb9⟩)
          go_ret
          exact ⟨rfl, bcall HB8.out hb9⟩
      · have E0 := hid e0
        clear e0
        go_wp2_with (go_at_call 45; refine (pick_any _ _ (by decide) (by decide) _).mono ?_; rintro e w' ⟨rfl, rfl⟩; rw [E0.out])
        refine (set_any a n cap next id r T I R _ HIN.out).mono ?_
        rintro e w3 ⟨⟨u, ec, rfl, S, hown, hout⟩, hb3⟩
        obtain ⟨a3, c3, rfl⟩ := own_form hown.1
        obtain ⟨N, hN⟩ : ∃ N, N = S.length := ⟨_, rfl⟩
        rw [← hN] at hown ⊢
        have HN := hid hN
        have HK := hid (kept_set hout)
        have hX3 := hid (rowIs_below hX1.out hb3)
        have hS3 := hid (rowIs_below hS2.out hb3)
        have HO3 := hid hown
        have HB3 := hid (bcall HB2.out hb3)
        have hz3 := hb3.size
        simp at hz3
        clear hb3 hown hout hN hX1 hS1 hR1 hS2 HB2 HIN s0 s1 r0 r1 r2 r3 r4 r5 r6 r7
        have x0 := hX3.out.cell (i := 0) (by omega)
        have x1 := hX3.out.cell (i := 1) (by omega)
        have xf0 := hX3.out.frozen 0
        have xf1 := hX3.out.frozen 1
        have s0 := hS3.out.cell (i := 0) (by omega)
        have s1 := hS3.out.cell (i := 1) (by omega)
        simp at x0 x1 s0 s1
        have hne1 : w.heap.size ≠ w1.heap.size := by omega
        rcases HK.out with hec | ⟨rfl, hgx, hatx⟩
        · have hq2 : (ec == 0) = false := by simp [hec]
          have hq3 : (ec != 0) = true := by simp [hec]
          have HEC := hid hec
          clear hec
          go_wp2_with (go_at_call 44; refine (thingsK_any _).mono ?_; rintro e w4 ⟨rfl, hb4⟩)
          go_ret
          refine ⟨rfl, bcall ?_ hb4⟩
          refine Below.setCell ?_ (by simp; omega) _
          refine Below.setCell ?_ (by simp; omega) _
          exact HB3.out
        · have HGX := hid hgx
          have HATX := hid hatx
          clear hgx hatx
          have HNE := hid HOI.out
          go_wp2_with fail
          have hX4 := hid (((hX3.out.set 0 (.slice a3 N c3)).set 1 (.int .i64 next)).congr (g := fun i => if i = 0 then .slice a3 N c3 else .int .i64 next) (fun i hi => by match i, hi with | 0, _ => rfl | 1, _ => rfl))
          have hS4 := hid ((hS3.out.setOther (a := ⟨w1.heap.size, 0, none⟩) (by simp; omega) (.slice a3 N c3)).setOther (a := ⟨w1.heap.size, 1, none⟩) (by simp; omega) (.int .i64 next))
          have hnb := own_not_box HO3.out hX3.out (by decide)
          have HO4 := hid ((HO3.out.set' hnb 0 (.slice a3 N c3)).set' hnb 1 (.int .i64 next))
          have HB4 := hid ((HB3.out.setCell (p := ⟨w1.heap.size, 0, none⟩) (show w.heap.size ≤ w1.heap.size by omega) (.slice a3 N c3)).setCell (p := ⟨w1.heap.size, 1, none⟩) (show w.heap.size ≤ w1.heap.size by omega) (.int .i64 next))
          have hz4 : Hid (w1.heap.size < ((w3.setCell ⟨w1.heap.size, 0, none⟩ (.slice a3 N c3)).setCell ⟨w1.heap.size, 1, none⟩ (.int .i64 next)).heap.size) := hid (by simp; omega)
          generalize (w3.setCell ⟨w1.heap.size, 0, none⟩ (.slice a3 N c3)).setCell ⟨w1.heap.size, 1, none⟩ (.int .i64 next) = W4 at hX4 hS4 HO4 HB4 hz4 ⊢
          clear hX3 hS3 HO3 HB3 x0 x1 xf0 xf1 s0 s1 hnb
          have HIN4 := hid (HST.out.below HB4.out)
          obtain ⟨hinx, hplx⟩ := own_good HO4.out HN.out HGX.out
          have HInext := hid hinx
          have HPLX := hid hplx
          clear hinx hplx
          obtain ⟨m, q, ok, HGS, HGT⟩ : ∃ (m : Int) (q : R8) (ok : Bool),
              Hid (∀ W, Below W4.heap.size W4 W → Calls Try.prog 32 #[.agg #[.slice a n cap, .int .i64 next], .int .i64 other] W fun e w' => e = .returned (.tuple #[.int .i64 m, .agg #[.int .i64 q.x, .int .i64 q.y, .int .i64 q.px, .int .i64 q.py, .int .i64 q.wd, .int .i64 q.ht, .int .i64 q.ms, .int .i64 q.rr], .bool ok]) ∧ Below W.heap.size W w') ∧
              Hid (∀ W, Below W4.heap.size W4 W → Calls Try.prog 32 #[.agg #[.slice a3 N c3, .int .i64 next], .int .i64 other] W fun e w' => e = .returned (.tuple #[.int .i64 m, .agg #[.int .i64 q.x, .int .i64 q.y, .int .i64 q.px, .int .i64 q.py, .int .i64 q.wd, .int .i64 q.ht, .int .i64 q.ms, .int .i64 q.rr], .bool ok]) ∧ Below W.heap.size W w') := by
            have hgl := HGL.out
            have hgx := HGX.out
            rw [← HPLX.out] at hgx
            have hx : ∀ m q, At (plainOf (tvOf S) (idOf S) (rwOf S) N) other m q ↔ At (plainOf T I R n) other m q := fun m q => by rw [HPLX.out]; exact HATX.out other m q HNE.out
            by_cases hm : other ∈ allL (plainOf T I R n)
            · obtain ⟨m, q, hat⟩ := at_of_mem hgl.even hm
              exact ⟨m, q, true, hid (fun W hb => (HIN4.out.below hb).get_some hgl.even hgl.2.2.2.2.2 cap next other m q hat), hid (fun W hb => (HInext.out.below hb).get_some hgx.even hgx.2.2.2.2.2 c3 next other m q ((hx m q).2 hat))⟩
            · have hm' : other ∉ allL (plainOf (tvOf S) (idOf S) (rwOf S) N) := fun hc => by
                obtain ⟨m, q, hat⟩ := at_of_mem hgx.even hc
                exact hm (at_mem ((hx m q).1 hat))
              exact ⟨0, zeroR, false, hid (fun W hb => (HIN4.out.below hb).get_none hgl.even cap next other hm), hid (fun W hb => (HInext.out.below hb).get_none hgx.even c3 next other hm')⟩
          have HGG : Hid (∀ W, Below W4.heap.size W4 W → Calls Try.prog 25 #[.agg #[.slice a3 N c3, .int .i64 next]] W fun e w' => e = .returned (.bool true) ∧ Below W.heap.size W w') := by
            refine hid (fun W hb => ((HInext.out.below hb).good c3 next).mono ?_)
            rintro e w' ⟨⟨g, rfl, hg⟩, hb'⟩
            rw [HPLX.out] at hg
            have : g = true := hg.2 HGX.out
            subst this
            exact ⟨rfl, hb'⟩
          clear HIN4 HInext HST HGL HGX HATX HPLX HO4
          have s0 := hS4.out.cell (i := 0) (by omega)
          have s1 := hS4.out.cell (i := 1) (by omega)
          simp at s0 s1
          have hz40 : w.heap.size < W4.heap.size := by have := hz4.out; omega
          refine (HGS.out _ (Below.refl _ _)).mono ?_
          rintro e w5 ⟨rfl, hb5⟩
          have hX5 := hid (rowIs_below hX4.out hb5)
          have HB5 := hid (bcall HB4.out hb5)
          have HL5 := hid hb5
          have hz5 := hid (Nat.lt_of_lt_of_le hz4.out hb5.size)
          clear hb5 s0 s1
          have x0 := hX5.out.cell (i := 0) (by omega)
          have x1 := hX5.out.cell (i := 1) (by omega)
          simp at x0 x1
          have hz51 : w1.heap.size < w5.heap.size := hz5.out
          go_wp2_with fail
          have hX6 := hid (hX5.out.alloc (.cells #[.int .i64 q.x, .int .i64 q.y, .int .i64 q.px, .int .i64 q.py, .int .i64 q.wd, .int .i64 q.ht, .int .i64 q.ms, .int .i64 q.rr] 30))
          have hA6 := hid (rowIs8 w5 q 30)
          refine (HGT.out _ (bal HL5.out _)).mono ?_
          rintro e w6 ⟨rfl, hb6⟩
          have hX7 := hid (rowIs_below hX6.out hb6)
          have hA7 := hid (rowIs_below hA6.out hb6)
          have HB7 := hid (bcall (bal HB5.out _) hb6)
          have HL7 := hid (bcall (bal HL5.out _) hb6)
          have hz7 := hb6.size
          simp at hz7
          clear hb6 x0 x1 hX6 hA6 hX5
          have x0 := hX7.out.cell (i := 0) (by omega)
          have x1 := hX7.out.cell (i := 1) (by omega)
          simp at x0 x1
          have hz71 : w1.heap.size < w6.heap.size := by omega
          go_wp2_with fail
          have hA8 := hid (hA7.out.alloc (.cells #[.int .i64 q.x, .int .i64 q.y, .int .i64 q.px, .int .i64 q.py, .int .i64 q.wd, .int .i64 q.ht, .int .i64 q.ms, .int .i64 q.rr] 30))
          have hB8 := hid (rowIs8 w6 q 30)
          refine (HGG.out _ (bal HL7.out _)).mono ?_
          rintro e w8 ⟨rfl, hb8⟩
          obtain ⟨c0, c1, c2, c3', c4, c5, c6, c7⟩ := row8_cells (rowIs_below hA8.out hb8)
          obtain ⟨d0, d1, d2, d3, d4, d5, d6, d7⟩ := row8_cells (rowIs_below hB8.out hb8)
          have HB8 := hid (bcall (bal HB7.out _) hb8)
          clear hb8 x0 x1
          have heq := eq30
          have hqq : eqR ⟨q.x, q.y, q.px, q.py, q.wd, q.ht, q.ms, q.rr⟩ ⟨q.x, q.y, q.px, q.py, q.wd, q.ht, q.ms, q.rr⟩ = true := by simp [eqR]
          go_wp2_with (go_at_call 44; refine (thingsK_any _).mono ?_; rintro e w9 ⟨rfl, hb9⟩)
          go_ret
          exact ⟨rfl, bcall HB8.out hb9⟩
      · have E0 := hid e0
        clear e0
        go_wp2_with (go_at_call 45; refine (pick_any _ _ (by decide) (by decide) _).mono ?_; rintro e w' ⟨rfl, rfl⟩; rw [E0.out])
        refine (change_any a n cap next id mask r T I R _ HIN.out).mono ?_
        rintro e w3 ⟨⟨u, ec, rfl, S, hown, hout⟩, hb3⟩
        obtain ⟨a3, c3, rfl⟩ := own_form hown.1
        obtain ⟨N, hN⟩ : ∃ N, N = S.length := ⟨_, rfl⟩
        rw [← hN] at hown ⊢
        have HN := hid hN
        have HK := hid (kept_change hout)
        have hX3 := hid (rowIs_below hX1.out hb3)
        have hS3 := hid (rowIs_below hS2.out hb3)
        have HO3 := hid hown
        have HB3 := hid (bcall HB2.out hb3)
        have hz3 := hb3.size
        simp at hz3
        clear hb3 hown hout hN hX1 hS1 hR1 hS2 HB2 HIN s0 s1 r0 r1 r2 r3 r4 r5 r6 r7
        have x0 := hX3.out.cell (i := 0) (by omega)
        have x1 := hX3.out.cell (i := 1) (by omega)
        have xf0 := hX3.out.frozen 0
        have xf1 := hX3.out.frozen 1
        have s0 := hS3.out.cell (i := 0) (by omega)
        have s1 := hS3.out.cell (i := 1) (by omega)
        simp at x0 x1 s0 s1
        have hne1 : w.heap.size ≠ w1.heap.size := by omega
        rcases HK.out with hec | ⟨rfl, hgx, hatx⟩
        · have hq2 : (ec == 0) = false := by simp [hec]
          have hq3 : (ec != 0) = true := by simp [hec]
          have HEC := hid hec
          clear hec
          go_wp2_with (go_at_call 44; refine (thingsK_any _).mono ?_; rintro e w4 ⟨rfl, hb4⟩)
          go_ret
          refine ⟨rfl, bcall ?_ hb4⟩
          refine Below.setCell ?_ (by simp; omega) _
          refine Below.setCell ?_ (by simp; omega) _
          exact HB3.out
        · have HGX := hid hgx
          have HATX := hid hatx
          clear hgx hatx
          have HNE := hid HOI.out
          go_wp2_with fail
          have hX4 := hid (((hX3.out.set 0 (.slice a3 N c3)).set 1 (.int .i64 next)).congr (g := fun i => if i = 0 then .slice a3 N c3 else .int .i64 next) (fun i hi => by match i, hi with | 0, _ => rfl | 1, _ => rfl))
          have hS4 := hid ((hS3.out.setOther (a := ⟨w1.heap.size, 0, none⟩) (by simp; omega) (.slice a3 N c3)).setOther (a := ⟨w1.heap.size, 1, none⟩) (by simp; omega) (.int .i64 next))
          have hnb := own_not_box HO3.out hX3.out (by decide)
          have HO4 := hid ((HO3.out.set' hnb 0 (.slice a3 N c3)).set' hnb 1 (.int .i64 next))
          have HB4 := hid ((HB3.out.setCell (p := ⟨w1.heap.size, 0, none⟩) (show w.heap.size ≤ w1.heap.size by omega) (.slice a3 N c3)).setCell (p := ⟨w1.heap.size, 1, none⟩) (show w.heap.size ≤ w1.heap.size by omega) (.int .i64 next))
          have hz4 : Hid (w1.heap.size < ((w3.setCell ⟨w1.heap.size, 0, none⟩ (.slice a3 N c3)).setCell ⟨w1.heap.size, 1, none⟩ (.int .i64 next)).heap.size) := hid (by simp; omega)
          generalize (w3.setCell ⟨w1.heap.size, 0, none⟩ (.slice a3 N c3)).setCell ⟨w1.heap.size, 1, none⟩ (.int .i64 next) = W4 at hX4 hS4 HO4 HB4 hz4 ⊢
          clear hX3 hS3 HO3 HB3 x0 x1 xf0 xf1 s0 s1 hnb
          have HIN4 := hid (HST.out.below HB4.out)
          obtain ⟨hinx, hplx⟩ := own_good HO4.out HN.out HGX.out
          have HInext := hid hinx
          have HPLX := hid hplx
          clear hinx hplx
          obtain ⟨m, q, ok, HGS, HGT⟩ : ∃ (m : Int) (q : R8) (ok : Bool),
              Hid (∀ W, Below W4.heap.size W4 W → Calls Try.prog 32 #[.agg #[.slice a n cap, .int .i64 next], .int .i64 other] W fun e w' => e = .returned (.tuple #[.int .i64 m, .agg #[.int .i64 q.x, .int .i64 q.y, .int .i64 q.px, .int .i64 q.py, .int .i64 q.wd, .int .i64 q.ht, .int .i64 q.ms, .int .i64 q.rr], .bool ok]) ∧ Below W.heap.size W w') ∧
              Hid (∀ W, Below W4.heap.size W4 W → Calls Try.prog 32 #[.agg #[.slice a3 N c3, .int .i64 next], .int .i64 other] W fun e w' => e = .returned (.tuple #[.int .i64 m, .agg #[.int .i64 q.x, .int .i64 q.y, .int .i64 q.px, .int .i64 q.py, .int .i64 q.wd, .int .i64 q.ht, .int .i64 q.ms, .int .i64 q.rr], .bool ok]) ∧ Below W.heap.size W w') := by
            have hgl := HGL.out
            have hgx := HGX.out
            rw [← HPLX.out] at hgx
            have hx : ∀ m q, At (plainOf (tvOf S) (idOf S) (rwOf S) N) other m q ↔ At (plainOf T I R n) other m q := fun m q => by rw [HPLX.out]; exact HATX.out other m q HNE.out
            by_cases hm : other ∈ allL (plainOf T I R n)
            · obtain ⟨m, q, hat⟩ := at_of_mem hgl.even hm
              exact ⟨m, q, true, hid (fun W hb => (HIN4.out.below hb).get_some hgl.even hgl.2.2.2.2.2 cap next other m q hat), hid (fun W hb => (HInext.out.below hb).get_some hgx.even hgx.2.2.2.2.2 c3 next other m q ((hx m q).2 hat))⟩
            · have hm' : other ∉ allL (plainOf (tvOf S) (idOf S) (rwOf S) N) := fun hc => by
                obtain ⟨m, q, hat⟩ := at_of_mem hgx.even hc
                exact hm (at_mem ((hx m q).1 hat))
              exact ⟨0, zeroR, false, hid (fun W hb => (HIN4.out.below hb).get_none hgl.even cap next other hm), hid (fun W hb => (HInext.out.below hb).get_none hgx.even c3 next other hm')⟩
          have HGG : Hid (∀ W, Below W4.heap.size W4 W → Calls Try.prog 25 #[.agg #[.slice a3 N c3, .int .i64 next]] W fun e w' => e = .returned (.bool true) ∧ Below W.heap.size W w') := by
            refine hid (fun W hb => ((HInext.out.below hb).good c3 next).mono ?_)
            rintro e w' ⟨⟨g, rfl, hg⟩, hb'⟩
            rw [HPLX.out] at hg
            have : g = true := hg.2 HGX.out
            subst this
            exact ⟨rfl, hb'⟩
          clear HIN4 HInext HST HGL HGX HATX HPLX HO4
          have s0 := hS4.out.cell (i := 0) (by omega)
          have s1 := hS4.out.cell (i := 1) (by omega)
          simp at s0 s1
          have hz40 : w.heap.size < W4.heap.size := by have := hz4.out; omega
          refine (HGS.out _ (Below.refl _ _)).mono ?_
          rintro e w5 ⟨rfl, hb5⟩
          have hX5 := hid (rowIs_below hX4.out hb5)
          have HB5 := hid (bcall HB4.out hb5)
          have HL5 := hid hb5
          have hz5 := hid (Nat.lt_of_lt_of_le hz4.out hb5.size)
          clear hb5 s0 s1
          have x0 := hX5.out.cell (i := 0) (by omega)
          have x1 := hX5.out.cell (i := 1) (by omega)
          simp at x0 x1
          have hz51 : w1.heap.size < w5.heap.size := hz5.out
          go_wp2_with fail
          have hX6 := hid (hX5.out.alloc (.cells #[.int .i64 q.x, .int .i64 q.y, .int .i64 q.px, .int .i64 q.py, .int .i64 q.wd, .int .i64 q.ht, .int .i64 q.ms, .int .i64 q.rr] 30))
          have hA6 := hid (rowIs8 w5 q 30)
          refine (HGT.out _ (bal HL5.out _)).mono ?_
          rintro e w6 ⟨rfl, hb6⟩
          have hX7 := hid (rowIs_below hX6.out hb6)
          have hA7 := hid (rowIs_below hA6.out hb6)
          have HB7 := hid (bcall (bal HB5.out _) hb6)
          have HL7 := hid (bcall (bal HL5.out _) hb6)
          have hz7 := hb6.size
          simp at hz7
          clear hb6 x0 x1 hX6 hA6 hX5
          have x0 := hX7.out.cell (i := 0) (by omega)
          have x1 := hX7.out.cell (i := 1) (by omega)
          simp at x0 x1
          have hz71 : w1.heap.size < w6.heap.size := by omega
          go_wp2_with fail
          have hA8 := hid (hA7.out.alloc (.cells #[.int .i64 q.x, .int .i64 q.y, .int .i64 q.px, .int .i64 q.py, .int .i64 q.wd, .int .i64 q.ht, .int .i64 q.ms, .int .i64 q.rr] 30))
          have hB8 := hid (rowIs8 w6 q 30)
          refine (HGG.out _ (bal HL7.out _)).mono ?_
          rintro e w8 ⟨rfl, hb8⟩
          obtain ⟨c0, c1, c2, c3', c4, c5, c6, c7⟩ := row8_cells (rowIs_below hA8.out hb8)
          obtain ⟨d0, d1, d2, d3, d4, d5, d6, d7⟩ := row8_cells (rowIs_below hB8.out hb8)
          have HB8 := hid (bcall (bal HB7.out _) hb8)
          clear hb8 x0 x1
          have heq := eq30
          have hqq : eqR ⟨q.x, q.y, q.px, q.py, q.wd, q.ht, q.ms, q.rr⟩ ⟨q.x, q.y, q.px, q.py, q.wd, q.ht, q.ms, q.rr⟩ = true := by simp [eqR]
          go_wp2_with (go_at_call 44; refine (thingsK_any _).mono ?_; rintro e w9 ⟨rfl, hb9⟩)
          go_ret
          exact ⟨rfl, bcall HB8.out hb9⟩
end Go.Proofs.Ytckkkdldljhehaa.St
