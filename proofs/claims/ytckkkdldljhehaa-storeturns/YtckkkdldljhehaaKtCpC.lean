/- What same of package ninepinslaw answers when called over two stores in memory: whether their tables, one by one, and their nexts are alike; nothing that was in memory before has changed. -/
import Derived.Test.YtckkkdldljhehaaKtCpA
import Derived.Test.YtckkkdldljhehaaKtThB
namespace Go.Proofs.Ytckkkdldljhehaa.Cp
open Go.Proofs.Ytckkkdldljhehaa.Num Go.Proofs.Ytckkkdldljhehaa.St
open Go.ChangeShapes Go.WideShapes Go.ChangeAt Go.RowKit

/-- Two tables alike. -/
def sameTo (T : Nat → TabV) (I : Nat → Nat → Int) (R : Nat → Nat → R8) (T' : Nat → TabV) (I' : Nat → Nat → Int) (R' : Nat → Nat → R8) (k : Nat) : Prop := ∀ i, i < k → tabOf T I R i = tabOf T' I' R' i
theorem same_plain {T T' : Nat → TabV} {I I' : Nat → Nat → Int} {R R' : Nat → Nat → R8} {n : Nat} (h : sameTo T I R T' I' R' n) : plainOf T I R n = plainOf T' I' R' n := by
  unfold plainOf
  apply List.map_congr_left
  intro i hi
  exact h i (List.mem_range.1 hi)
theorem plain_same {T T' : Nat → TabV} {I I' : Nat → Nat → Int} {R R' : Nat → Nat → R8} {n n' : Nat} (h : plainOf T I R n = plainOf T' I' R' n') : n = n' ∧ sameTo T I R T' I' R' n := by
  have hl : n = n' := by simpa [plainOf] using congrArg List.length h
  subst hl
  refine ⟨rfl, fun i hi => ?_⟩
  have := congrArg (fun l => l[i]?) h
  simpa [plainOf, hi] using this
theorem tab_eq {T T' : Nat → TabV} {I I' : Nat → Nat → Int} {R R' : Nat → Nat → R8} {i : Nat} (h : tabOf T I R i = tabOf T' I' R' i) :
    (T' i).mask = (T i).mask ∧ (T' i).il = (T i).il ∧ (T' i).rl = (T i).rl ∧ (∀ j, j < (T i).il → I' i j = I i j) ∧ (∀ j, j < (T i).rl → R' i j = R i j) := by
  unfold tabOf at h
  simp only [Tab.mk.injEq] at h
  obtain ⟨h1, h2, h3⟩ := h
  have e1 : (T' i).il = (T i).il := by simpa using (congrArg List.length h2).symm
  have e2 : (T' i).rl = (T i).rl := by simpa using (congrArg List.length h3).symm
  refine ⟨h1.symm, e1, e2, fun j hj => ?_, fun j hj => ?_⟩
  · have := congrArg (fun l => l[j]?) h2
    simp only [List.getElem?_map] at this
    rw [List.getElem?_range hj, List.getElem?_range (by omega)] at this
    simpa using this.symm
  · have := congrArg (fun l => l[j]?) h3
    simp only [List.getElem?_map] at this
    rw [List.getElem?_range hj, List.getElem?_range (by omega)] at this
    simpa using this.symm
theorem neq30 (r : R8) (w : World) : (binOp .neq 30 (.agg #[.int .i64 r.x, .int .i64 r.y, .int .i64 r.px, .int .i64 r.py, .int .i64 r.wd, .int .i64 r.ht, .int .i64 r.ms, .int .i64 r.rr]) (.agg #[.int .i64 r.x, .int .i64 r.y, .int .i64 r.px, .int .i64 r.py, .int .i64 r.wd, .int .i64 r.ht, .int .i64 r.ms, .int .i64 r.rr])).run Try.prog w = .ok (.bool false) w := by
  have h := eq30n 9998 r.x r.y r.px r.py r.wd r.ht r.ms r.rr r.x r.y r.px r.py r.wd r.ht r.ms r.rr w
  have e : eqR r r = true := (Th.eqR_iff r r).2 rfl
  rw [run_neq_struct, show (10000 : Nat) = 9998 + 2 from rfl, h]
  show Result.andThen (.ok (eqR r r) w) _ = _
  rw [e]
  rfl
attribute [local go_sem ↓] Go.wp_at_zero Go.wp_at_succ
set_option maxHeartbeats 8000000 in
set_option maxRecDepth 100000 in
theorem same_true (a a' : Option Addr) (n cap cap' : Nat) (next : Int) (T T' : Nat → TabV) (I I' : Nat → Nat → Int) (R R' : Nat → Nat → R8) (w : World) (hin : StoreIn w a n T I R) (hin' : StoreIn w a' n T' I' R') (heq : sameTo T I R T' I' R' n) :
    Calls Try.prog 30 #[.agg #[.slice a n cap, .int .i64 next], .agg #[.slice a' n cap', .int .i64 next]] w fun e w' => e = .returned (.bool true) ∧ Below w.heap.size w w' := by
  have hn : n * 56 ≤ 140737488355328 := hin.fits.1
  have HT : Hid _ := hin.tabs
  have HI : Hid _ := hin.ids
  have HR : Hid _ := hin.rows
  have HZ : Hid _ := hin.fits.2.2
  have HT' : Hid _ := hin'.tabs
  have HI' : Hid _ := hin'.ids
  have HR' : Hid _ := hin'.rows
  have HEQ := hid heq
  clear hin hin' heq
  have HB0 := hid (bal (bal (Below.refl _ w) (.cells #[.slice a n cap, .int .i64 next] 28)) (.cells #[.slice a' n cap', .int .i64 next] 28))
  have HS2 : Hid (((w.alloc (.cells #[.slice a n cap, .int .i64 next] 28)).alloc (.cells #[.slice a' n cap', .int .i64 next] 28)).cell? ⟨w.heap.size + 1, 0, none⟩ = some (.slice a' n cap')) := hid (by
    have h := rowIs2 (w.alloc (.cells #[.slice a n cap, .int .i64 next] 28)) (.slice a' n cap') (.int .i64 next) 28
    rw [World.size_alloc] at h
    exact h.cell (i := 0) (by omega))
  have hz0 : ((w.alloc (.cells #[.slice a n cap, .int .i64 next] 28)).alloc (.cells #[.slice a' n cap', .int .i64 next] 28)).heap.size = w.heap.size + 1 + 1 := by simp
  go_enter Try.func30, Try.ntmps30
  go_wp2_with fail
  generalize (w.alloc (.cells #[.slice a n cap, .int .i64 next] 28)).alloc (.cells #[.slice a' n cap', .int .i64 next] 28) = W0 at HB0 HS2 hz0 ⊢
  go_loopw [26] (fun i wr => ∃ k : Nat, k ≤ n ∧ i = .int .i64 k ∧ Hid (Below W0.heap.size W0 wr)) (fun i _ => n - (intOf i).toNat)
  case atStart => exact ⟨0, Nat.zero_le _, rfl, hid (Below.refl _ _)⟩
  case round =>
    obtain ⟨k, hk, rfl, HBR⟩ := hrel
    by_cases hlt : k < n
    · have hlt' : (k : Int) < (n : Int) := by omega
      have HWR := hid (bcall HB0.out HBR.out)
      have hsz := HWR.out.size
      obtain ⟨b, off, rfl, hb, hc⟩ := HT.out (by omega)
      obtain ⟨c0, c1, c2⟩ := hc k hlt
      rw [← HWR.out.cell (by exact hb)] at c0 c1 c2
      have hbz : b < wr.heap.size := by omega
      obtain ⟨b', off', rfl, hb', hc'⟩ := HT'.out (by omega)
      obtain ⟨d0, d1, d2⟩ := hc' k hlt
      rw [← HWR.out.cell (by exact hb')] at d0 d1 d2
      have hbz' : b' < wr.heap.size := by omega
      obtain ⟨e1, e2, e3, e4, e5⟩ := tab_eq (HEQ.out k hlt)
      rw [e1] at d0
      rw [e2] at d1
      rw [e3] at d2
      have hs2 := (HBR.out.cell (p := ⟨w.heap.size + 1, 0, none⟩) (by show w.heap.size + 1 < W0.heap.size; omega)).trans HS2.out
      have hs2z : w.heap.size + 1 < wr.heap.size := by have := HBR.out.size; omega
      have HE2 := hid e2
      have HE3 := hid e3
      have HE4 := hid e4
      have HE5 := hid e5
      obtain ⟨z1, z2, z3, z4⟩ := HZ.out k hlt
      clear hc hc' e1 e2 e3 e4 e5
      have HTB := hid (rowIs3 wr (.int .i64 (T k).mask) (.slice (T k).ia (T k).il (T k).ic) (.slice (T k).ra (T k).rl (T k).rc) 66)
      go_wp2_with fail
      go_quiet (fail)
      have HA2 := hid (below_drewN (bal (Below.refl _ wr) (.cells #[.int .i64 (T k).mask, .slice (T k).ia (T k).il (T k).ic, .slice (T k).ra (T k).rl (T k).rc] 66)) nq)
      have HTB2 : Hid (((wr.alloc (.cells #[.int .i64 (T k).mask, .slice (T k).ia (T k).il (T k).ic, .slice (T k).ra (T k).rl (T k).rc] 66)).drewN nq).rowIs wr.heap.size 66 3 (fun i => if i = 0 then .int .i64 (T k).mask else if i = 1 then .slice (T k).ia (T k).il (T k).ic else .slice (T k).ra (T k).rl (T k).rc)) := hid (rowIs_below HTB.out (below_drewN (Below.refl _ _) nq))
      have HD2 : Hid (((wr.alloc (.cells #[.int .i64 (T k).mask, .slice (T k).ia (T k).il (T k).ic, .slice (T k).ra (T k).rl (T k).rc] 66)).drewN nq).cell? ⟨b', off' + k * 3 + 1, none⟩ = some (.slice (T' k).ia (T k).il (T' k).ic) ∧ ((wr.alloc (.cells #[.int .i64 (T k).mask, .slice (T k).ia (T k).il (T k).ic, .slice (T k).ra (T k).rl (T k).rc] 66)).drewN nq).cell? ⟨b', off' + k * 3 + 2, none⟩ = some (.slice (T' k).ra (T k).rl (T' k).rc) ∧ ((wr.alloc (.cells #[.int .i64 (T k).mask, .slice (T k).ia (T k).il (T k).ic, .slice (T k).ra (T k).rl (T k).rc] 66)).drewN nq).cell? ⟨w.heap.size + 1, 0, none⟩ = some (.slice (some ⟨b', off', none⟩) n cap')) := hid ⟨(HA2.out.cell (p := ⟨b', off' + k * 3 + 1, none⟩) hbz').trans d1, (HA2.out.cell (p := ⟨b', off' + k * 3 + 2, none⟩) hbz').trans d2, (HA2.out.cell (p := ⟨w.heap.size + 1, 0, none⟩) hs2z).trans hs2⟩
      have HB2 := hid (bcall HBR.out HA2.out)
      have hz2 : wr.heap.size < ((wr.alloc (.cells #[.int .i64 (T k).mask, .slice (T k).ia (T k).il (T k).ic, .slice (T k).ra (T k).rl (T k).rc] 66)).drewN nq).heap.size := HTB2.out.lt
      have hw2z : w.heap.size ≤ wr.heap.size := hsz
      generalize (wr.alloc (.cells #[.int .i64 (T k).mask, .slice (T k).ia (T k).il (T k).ic, .slice (T k).ra (T k).rl (T k).rc] 66)).drewN nq = W2 at HA2 HTB2 HD2 HB2 hz2 ⊢
      have hb2 : b' < W2.heap.size := by omega
      have hs22 : w.heap.size + 1 < W2.heap.size := by omega
      generalize wr.heap.size = tb at HTB2 hz2 ⊢
      clear c0 c1 c2 d0 d1 d2 hs2 HTB HA2 HWR HBR
      have q0 := (tcs HTB2.out)
      obtain ⟨q0, q1, q2⟩ := q0
      go_wp2_with fail
      go_loopw [69] (fun i wv => ∃ j : Nat, j ≤ (T k).il ∧ i = .int .i64 j ∧ Hid (Below W2.heap.size W2 wv)) (fun i _ => (T k).il - (intOf i).toNat)
      case atStart => exact ⟨0, Nat.zero_le _, rfl, hid (Below.refl _ _)⟩
      case round =>
        obtain ⟨j, hj, rfl, HBJ⟩ := hrel
        have HWJ := hid (bcall (bcall HB0.out HB2.out) HBJ.out)
        have hszj := HBJ.out.size
        rw [← HBJ.out.cell (by exact hz2)] at q1 q2
        have x1 := (HBJ.out.cell (p := ⟨b', off' + k * 3 + 1, none⟩) hb2).trans HD2.out.1
        have x2 := (HBJ.out.cell (p := ⟨b', off' + k * 3 + 2, none⟩) hb2).trans HD2.out.2.1
        have x3 := (HBJ.out.cell (p := ⟨w.heap.size + 1, 0, none⟩) hs22).trans HD2.out.2.2
        have y1 : tb < wr.heap.size := by omega
        have y2 : b' < wr.heap.size := by omega
        have y3 : w.heap.size + 1 < wr.heap.size := by omega
        by_cases hjl : j < (T k).il
        · have hjl' : (j : Int) < ((T k).il : Int) := by omega
          obtain ⟨bi, oi, hia, hbi, hci⟩ := HI.out k hlt (by omega)
          obtain ⟨bi', oi', hia', hbi', hci'⟩ := HI'.out k hlt (by have := HE2.out; omega)
          have cj := hci j hjl
          have cj' := hci' j (by have := HE2.out; omega)
          rw [HE4.out j hjl] at cj'
          rw [← HWJ.out.cell (by exact hbi)] at cj
          rw [← HWJ.out.cell (by exact hbi')] at cj'
          have v1 : bi < wr.heap.size := by have := HWJ.out.size; omega
          have v2 : bi' < wr.heap.size := by have := HWJ.out.size; omega
          rw [hia] at q1
          rw [hia'] at x1
          clear hci hci'
          go_wp2_with fail
          go_quiet (fail)
          go_wp2_with fail
          refine ⟨⟨j + 1, by omega, by go_num, hid (below_drewN HBJ.out _)⟩, by simp [intOf]; omega⟩
        · go_wp2_with fail
          go_loopw [91] (fun i wv => ∃ q : Nat, q ≤ (T k).rl ∧ i = .int .i64 q ∧ Hid (Below W2.heap.size W2 wv)) (fun i _ => (T k).rl - (intOf i).toNat)
          case atStart => exact ⟨0, Nat.zero_le _, rfl, HBJ⟩
          case round =>
            obtain ⟨q, hq, rfl, HBQ⟩ := hrel
            have HWQ := hid (bcall (bcall HB0.out HB2.out) HBQ.out)
            have hszq := HBQ.out.size
            obtain ⟨-, p1, p2⟩ := tcs (rowIs_below HTB2.out HBQ.out)
            have x2 := (HBQ.out.cell (p := ⟨b', off' + k * 3 + 2, none⟩) hb2).trans HD2.out.2.1
            have x3 := (HBQ.out.cell (p := ⟨w.heap.size + 1, 0, none⟩) hs22).trans HD2.out.2.2
            have y1 : tb < wr.heap.size := by omega
            have y2 : b' < wr.heap.size := by omega
            have y3 : w.heap.size + 1 < wr.heap.size := by omega
            by_cases hql : q < (T k).rl
            · have hql' : (q : Int) < ((T k).rl : Int) := by omega
              obtain ⟨br, ro, hra, hbr, hcr⟩ := HR.out k hlt (by omega)
              obtain ⟨br', ro', hra', hbr', hcr'⟩ := HR'.out k hlt (by have := HE3.out; omega)
              have hcq := hcr' q (by have := HE3.out; omega)
              rw [HE5.out q hql] at hcq
              obtain ⟨r0, r1, r2, r3, r4, r5, r6, r7⟩ := hcr q hql
              obtain ⟨s0, s1, s2, s3, s4, s5, s6, s7⟩ := hcq
              rw [← HWQ.out.cell (by exact hbr)] at r0 r1 r2 r3 r4 r5 r6 r7
              rw [← HWQ.out.cell (by exact hbr')] at s0 s1 s2 s3 s4 s5 s6 s7
              have v1 : br < wr.heap.size := by have := HWQ.out.size; omega
              have v2 : br' < wr.heap.size := by have := HWQ.out.size; omega
              rw [hra] at p2
              rw [hra'] at x2
              have hne := neq30 (R k q)
              clear hcr hcr'
              go_wp2_with fail
              go_quiet (fail)
              go_wp2_with fail
              refine ⟨⟨q + 1, by omega, by go_num, hid (below_drewN HBQ.out _)⟩, by simp [intOf]; omega⟩
            · go_wp2_with fail
              refine ⟨⟨k + 1, by omega, by go_num, hid (bcall HB2.out HBQ.out)⟩, by simp [intOf]; omega⟩
    · go_wp2_with fail
      go_ret
      exact ⟨rfl, bcall HB0.out HBR.out⟩
end Go.Proofs.Ytckkkdldljhehaa.Cp
