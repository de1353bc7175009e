/- What TopAsks of package ninepinstop answers when called: true; nothing that was in memory before has changed. -/
import Derived.Test.YtckkkdldljhehacGreatKtGmU
import Derived.Test.YtckkkdldljhehacGreatKtGmLk
import Derived.Test.YtckkkdldljhehacGreatPkH
import Derived.Deep.RegionHeld3
import Derived.Deep.DeepFit
namespace Go.Proofs.YtckkkdldljhehacGreat.Gm
open Go.Proofs.YtckkkdldljhehacGreat.Num Go.Proofs.YtckkkdldljhehacGreat.St Go.Proofs.YtckkkdldljhehacGreat.Wd
open Go.ChangeShapes Go.WideShapes Go.ChangeAt Go.RowKit

def BxBox (W : World) (b : Nat) (x : Sw.B5) : Prop := W.rowIs b 36 5 (fun i => (Sw.boxCells x).getD i undef)
theorem bxBox (w : World) (bx : Sw.B5) : BxBox (w.alloc (.cells #[.int .i64 bx.id, .int .i64 bx.x1, .int .i64 bx.y1, .int .i64 bx.x2, .int .i64 bx.y2] 36)) w.heap.size bx := rowIsL w (Sw.boxCells bx) 36
theorem BxBox.at {W : World} {b : Nat} {x : Sw.B5} (h : BxBox W b x) : W.cell? ⟨b, 0, none⟩ = some (.int .i64 x.id) ∧ W.cell? ⟨b, 1, none⟩ = some (.int .i64 x.x1) ∧ W.cell? ⟨b, 2, none⟩ = some (.int .i64 x.y1) ∧ W.cell? ⟨b, 3, none⟩ = some (.int .i64 x.x2) ∧ W.cell? ⟨b, 4, none⟩ = some (.int .i64 x.y2) :=
  ⟨World.rowIs.cell h (i := 0) (by omega), World.rowIs.cell h (i := 1) (by omega), World.rowIs.cell h (i := 2) (by omega), World.rowIs.cell h (i := 3) (by omega), World.rowIs.cell h (i := 4) (by omega)⟩
theorem look_pre {l : List Sw.B5} {k : Nat} {x b : Sw.B5} (hx : l[k]? = some x) (hm : Sw.meetB x b = true) : (Sw.lookL l b)[(Sw.lookL (l.take k) b).length]? = some x.id := by
  have hs : Sw.lookL l b = Sw.lookL (l.take (k + 1)) b ++ Sw.lookL (l.drop (k + 1)) b := by
    unfold Sw.lookL
    rw [← List.map_append, ← List.filter_append, List.take_append_drop]
  rw [hs, Sw.lookL_met hx hm, List.append_assoc, List.getElem?_append_right (Nat.le_refl _)]
  simp
attribute [local go_sem ↓] Go.wp_at_zero Go.wp_at_succ
set_option maxHeartbeats 8000000 in
set_option maxRecDepth 100000 in
theorem topAsks_any (size fall : Int) (al : Option Addr) (n cap : Nat) (l : List Ac) (bx : Sw.B5) (w : World) (hl : ActL w al l) (hn : n = l.length) (hz : n * 136 ≤ 140737488355328) :
    Calls Tryz.prog 4 #[.int .i64 size, .int .i64 fall, .slice al n cap, .agg #[.int .i64 bx.id, .int .i64 bx.x1, .int .i64 bx.y1, .int .i64 bx.x2, .int .i64 bx.y2]] w fun e w' => e = .returned (.bool true) ∧ Below w.heap.size w w' := by
  have HP : Hid (∀ W, Below w.heap.size w W → _) := St.hid (fun W hb => play_from hl hn hz size fall cap (w := W) hb)
  have HG := St.hid (playP_good size fall l)
  have HAC : Hid ((playP size fall l).acts ≤ 60) := St.hid (by rw [acts_play]; omega)
  generalize playP size fall l = s at HP HG HAC
  clear hl hn
  go_enter Tryz.func4, Tryz.ntmps4
  go_wp2_with fail
  have HX0 := St.hid (bxBox w bx)
  have HB0 := St.hid (bal (Below.refl _ w) (.cells #[.int .i64 bx.id, .int .i64 bx.x1, .int .i64 bx.y1, .int .i64 bx.x2, .int .i64 bx.y2] 36))
  have hz0 : w.heap.size < (w.alloc (.cells #[.int .i64 bx.id, .int .i64 bx.x1, .int .i64 bx.y1, .int .i64 bx.x2, .int .i64 bx.y2] 36)).heap.size := by simp
  generalize w.alloc (.cells #[.int .i64 bx.id, .int .i64 bx.x1, .int .i64 bx.y1, .int .i64 bx.x2, .int .i64 bx.y2] 36) = W0 at HX0 HB0 hz0 ⊢
  refine (HP.out _ HB0.out).mono ?_
  rintro e w1 ⟨b, F1, rfl, hG1, hF1, hb1⟩
  have HG1 := St.hid hG1
  have HF1 : Hid (∀ z, F1 z → w.heap.size < z) := St.hid (fun z hz => by have := hF1 z hz; omega)
  have HX1 := St.hid (rowIs_below HX0.out hb1)
  have HB1 := St.hid (bcall HB0.out hb1)
  clear hG1 hF1 hb1 HX0 HB0 HP
  go_wp2_with fail
  refine (world_any HG1.out).mono ?_
  rintro e w3 ⟨⟨a3, n3, c3, rfl, F3, hs3, hF3⟩, hb3⟩
  have HS3 := St.hid hs3
  have HF3 : Hid (∀ z, F3 z → ¬ F1 z) := St.hid (fun z h3 h1 => by have := hF3 z h3; have := HG1.out.lt h1; omega)
  have HB3 := St.hid (bcall HB1.out hb3)
  have HG3 := St.hid (HG1.out.below hb3)
  have HX3 := St.hid (rowIs_below HX1.out hb3)
  clear hs3 hF3 hb3 HG1 HX1 HB1
  have HB3a := St.hid (bal HB3.out (.cells #[.slice a3 n3 c3, .int .i64 s.now.next, .int .i64 s.now.fall, .int .i64 s.now.wide, .int .i64 s.now.high] 45))
  have HG3a := St.hid (HG3.out.below (bal (Below.refl _ _) (.cells #[.slice a3 n3 c3, .int .i64 s.now.next, .int .i64 s.now.fall, .int .i64 s.now.wide, .int .i64 s.now.high] 45)))
  have HS3a := St.hid (HS3.out.below (bal (Below.refl _ _) (.cells #[.slice a3 n3 c3, .int .i64 s.now.next, .int .i64 s.now.fall, .int .i64 s.now.wide, .int .i64 s.now.high] 45)))
  have HX3a : Hid (BxBox _ _ _) := St.hid (rowIs_below HX3.out (bal (Below.refl _ _) (.cells #[.slice a3 n3 c3, .int .i64 s.now.next, .int .i64 s.now.fall, .int .i64 s.now.wide, .int .i64 s.now.high] 45)))
  have HW3 := St.hid (rowIs5 w3 (.slice a3 n3 c3) s.now.next s.now.fall s.now.wide s.now.high 45)
  have HNW : Hid (¬ F1 w3.heap.size) := St.hid (fun hc => by have := HG3.out.lt hc; omega)
  obtain ⟨q0, q1, q2, q3, q4⟩ := HX3a.out.at
  have hzz := HX3.out.lt
  have hzz' : w.heap.size < w3.heap.size + 1 := by omega
  go_wp2_with fail
  generalize w3.heap.size = wb at HW3 HNW hzz hzz' ⊢
  generalize w3.alloc (.cells #[.slice a3 n3 c3, .int .i64 s.now.next, .int .i64 s.now.fall, .int .i64 s.now.wide, .int .i64 s.now.high] 45) = W3 at HB3a HG3a HS3a HX3a HW3 q0 q1 q2 q3 q4 ⊢
  clear HB3 HG3 HS3 HX3
  have hd := do_from HG3a.out HG.out HB3a.out (fun z hz => by have := HF1.out z hz; omega) (lookA bx)
  have hgd := HG.out.do (lookA bx)
  rw [do_lookA HG.out (by have := HAC.out; omega) bx] at hd hgd
  refine Calls.mono hd ?_
  clear hd
  rintro e w4 ⟨ai, ci, am, cm, F4, rfl, ⟨hi4, -⟩, hG4, -, -, -, hk4, hb4⟩
  simp only [List.length_nil] at hi4 ⊢
  have HI4 := St.hid (Rp.IntsR.own hi4 rfl)
  have HS4 := St.hid (Sto.kept HS3a.out hk4 HF3.out)
  have HW4 := St.hid (rowIs_kept HW3.out hk4 HNW.out)
  have HX4 : Hid (BxBox _ _ _) := St.hid (rowIs_kept HX3a.out hk4 (fun hc => by have := HF1.out _ hc; omega))
  have HG4 := St.hid hG4
  have HB4 := St.hid hb4
  have hwb4 := HW4.out.lt
  clear hi4 hk4 hG4 hb4 HG3a HB3a HS3a HX3a HW3 q0 q1 q2 q3 q4
  obtain ⟨B, HBX⟩ : ∃ B, Hid (B = boxG s.now.L (rw0 s.now.L)) := ⟨_, rfl⟩
  rw [← HBX.out] at HI4 ⊢
  obtain ⟨NI, HNI⟩ : ∃ N, Hid (N = (Sw.lookL B bx).length) := ⟨_, rfl⟩
  rw [← HNI.out] at HI4 ⊢
  have HGN4 := St.hid hgd
  clear hgd
  have HB4a := St.hid (bal HB4.out (.cells #[.int .i64 0, .int .i64 0, .slice ai NI ci, .slice am 0 cm] 31))
  have HG4a := St.hid (HG4.out.below (bal (Below.refl _ _) (.cells #[.int .i64 0, .int .i64 0, .slice ai NI ci, .slice am 0 cm] 31)))
  have HS4a := St.hid (HS4.out.below (bal (Below.refl _ _) (.cells #[.int .i64 0, .int .i64 0, .slice ai NI ci, .slice am 0 cm] 31)))
  have HX4a : Hid (BxBox _ _ _) := St.hid (rowIs_below HX4.out (bal (Below.refl _ _) (.cells #[.int .i64 0, .int .i64 0, .slice ai NI ci, .slice am 0 cm] 31)))
  have HW4a := St.hid (rowIs_below HW4.out (bal (Below.refl _ _) (.cells #[.int .i64 0, .int .i64 0, .slice ai NI ci, .slice am 0 cm] 31)))
  have HI4a := St.hid (HI4.out.below (bal (Below.refl _ _) (.cells #[.int .i64 0, .int .i64 0, .slice ai NI ci, .slice am 0 cm] 31)))
  have HR4 := St.hid (Rp.rowIs4 w4 0 0 (.slice ai NI ci) (.slice am 0 cm) 31)
  obtain ⟨x0, x1, x2, x3, x4, -, -, -, -, -⟩ := wcells HW4a.out
  have hwb5 : wb < w4.heap.size + 1 := by omega
  go_wp2_with fail
  generalize w4.heap.size = rb at HR4 hwb4 hwb5 ⊢
  generalize w4.alloc (.cells #[.int .i64 0, .int .i64 0, .slice ai NI ci, .slice am 0 cm] 31) = W4 at HB4a HG4a HS4a HX4a HW4a HI4a HR4 x0 x1 x2 x3 x4 ⊢
  clear HB4 HG4 HS4 HX4 HW4 HI4 x0 x1 x2 x3 x4
  refine (boxes_any (L := s.now.L) (g := rw0 s.now.L) s.now.next (by rw [with_self HG.out.now.l]; exact HS4a.out) HG.out.now.l (rows_ok HG.out.now.l)).mono ?_
  rintro e w5 ⟨⟨u, rfl, hu⟩, hb5⟩
  rw [← HBX.out] at hu
  obtain ⟨au, cu, rfl, -⟩ := Sw.owns_slice hu
  obtain ⟨M, HMM⟩ : ∃ N, Hid (N = B.length) := ⟨_, rfl⟩
  have hM10 : M ≤ 10 := by rw [HMM.out, HBX.out]; unfold boxG; rw [List.length_map]; exact ids_len HG.out.now.l
  rw [← HMM.out] at hu ⊢
  have HU5 := St.hid hu
  have HB5 := St.hid (bcall HB4a.out hb5)
  have HG5 := St.hid (HG4a.out.below hb5)
  have HS5 := St.hid (HS4a.out.below hb5)
  have HX5 : Hid (BxBox _ _ _) := St.hid (rowIs_below HX4a.out hb5)
  have HW5 := St.hid (rowIs_below HW4a.out hb5)
  have HI5 := St.hid (HI4a.out.below hb5)
  have HR5 := St.hid (rowIs_below HR4.out hb5)
  clear hu hb5 HB4a HG4a HS4a HX4a HW4a HI4a HR4
  go_wp2_with fail
  go_loopw [13, 35] (fun c i wr => ∃ k : Nat, k ≤ M ∧ i = .int .i64 k ∧ c = .int .i64 ((Sw.lookL (B.take k) bx).length : Nat) ∧ Hid (Below w5.heap.size w5 wr)) (fun _ i _ => M - (intOf i).toNat)
  case atStart => exact ⟨0, Nat.zero_le _, rfl, by simp [Sw.lookL], Below.refl _ _⟩
  case round =>
    obtain ⟨k, hk, rfl, rfl, hB⟩ := hrel
    by_cases hlt : k < M
    · have hlt' : (k : Int) < (M : Int) := by omega
      obtain ⟨x, hx⟩ : ∃ x, B[k]? = some x := ⟨_, List.getElem?_eq_getElem (by have := HMM.out; omega)⟩
      have HUr := St.hid (owns_below HU5.out hB.out)
      obtain ⟨gi, cc, hau⟩ := own_some HUr.out (by omega)
      simp only [Value.slice.injEq] at hau
      obtain ⟨rfl, -, rfl⟩ := hau
      obtain ⟨p0, p1, p2, p3, p4⟩ := Sw.box_at HUr.out hx
      have hgi := (HUr.out.lt gi rfl).2
      obtain ⟨q0, q1, q2, q3, q4⟩ := BxBox.at (rowIs_below HX5.out hB.out)
      have hq := (rowIs_below HX5.out hB.out).lt
      obtain ⟨r0, r1, r2, r3⟩ := Rp.rcells (rowIs_below HR5.out hB.out)
      have hr := (rowIs_below HR5.out hB.out).lt
      have HK := St.hid hx
      clear hx
      by_cases c1 : x.x1 < bx.x2
      case neg =>
        have hm : Sw.meetB x bx = false := by simp [Sw.meetB]; omega
        have el := Sw.lookL_not HK.out hm
        go_wp2_with fail
        go_roundw
        case rel => exact ⟨k + 1, by omega, by go_num, by rw [el], bal hB.out _⟩
        case measure => simp [intOf]; omega
      case pos =>
      by_cases c2 : bx.x1 < x.x2
      case neg =>
        have hm : Sw.meetB x bx = false := by simp [Sw.meetB, c1]; omega
        have el := Sw.lookL_not HK.out hm
        go_wp2_with fail
        go_roundw
        case rel => exact ⟨k + 1, by omega, by go_num, by rw [el], bal hB.out _⟩
        case measure => simp [intOf]; omega
      case pos =>
      by_cases c3 : x.y1 < bx.y2
      case neg =>
        have hm : Sw.meetB x bx = false := by simp [Sw.meetB, c1, c2]; omega
        have el := Sw.lookL_not HK.out hm
        go_wp2_with fail
        go_roundw
        case rel => exact ⟨k + 1, by omega, by go_num, by rw [el], bal hB.out _⟩
        case measure => simp [intOf]; omega
      case pos =>
      by_cases c4 : bx.y1 < x.y2
      case neg =>
        have hm : Sw.meetB x bx = false := by simp [Sw.meetB, c1, c2, c3]; omega
        have el := Sw.lookL_not HK.out hm
        go_wp2_with fail
        go_roundw
        case rel => exact ⟨k + 1, by omega, by go_num, by rw [el], bal hB.out _⟩
        case measure => simp [intOf]; omega
      case pos =>
      have hm : Sw.meetB x bx = true := by simp [Sw.meetB, c1, c2, c3, c4]
      have HEL := St.hid (Sw.lookL_met HK.out hm)
      have hp := look_pre HK.out hm
      obtain ⟨cnt, hcnt⟩ : ∃ N, N = (Sw.lookL (B.take k) bx).length := ⟨_, rfl⟩
      rw [← hcnt] at hp ⊢
      have hci : cnt < NI := by rw [HNI.out]; exact (List.getElem?_eq_some_iff.1 hp).1
      obtain ⟨_, _, ea, ra⟩ := HI5.out.below hB.out
      obtain ⟨g2, off2, rfl, hgl2, hcc2⟩ := ra (by have := HNI.out; omega)
      simp only [Value.slice.injEq] at ea
      obtain ⟨rfl, -, -⟩ := ea
      have i0 := hcc2 cnt x.id hp
      have hci' : (cnt : Int) < (NI : Int) := by omega
      have hnle : ¬ (NI ≤ cnt) := by omega
      have hwc : wrap64 ((cnt : Int) + 1) = (cnt : Int) + 1 := by
        have h1 := Sw.lookL_len B bx
        have h2 := HNI.out
        have h3 := HMM.out
        unfold wrap64
        omega
      have hdec : decide (NI ≤ cnt) = false := by simpa using hci
      have HCN := St.hid hcnt
      clear hcc2 hp hm hcnt
      go_wp2_with fail
      go_region
      all_goals
        go_wp2_with fail
        go_roundw
        case rel => exact ⟨k + 1, by omega, by go_num, by rw [HEL.out, List.length_append, ← HCN.out, hwc]; simp, Below.drew (bal hB.out _)⟩
        case measure => simp [intOf]; omega
    · have hke : k = M := by omega
      have el : (Sw.lookL (B.take k) bx).length = NI := by rw [List.take_of_length_le (by have := HMM.out; omega), HNI.out]
      rw [el]
      have HW6 := St.hid (rowIs_below HW5.out hB.out)
      have HR6 := St.hid (rowIs_below HR5.out hB.out)
      have HG6 : Hid (Gam wr.drew F4 b ⟨s.now, s.saves, s.acts + 1⟩) := St.hid ((HG5.out.below hB.out).below (Below.drew (Below.refl _ _)))
      have HS6 := St.hid ((HS5.out.below hB.out).below (Below.drew (Below.refl _ _)))
      have HB6 := St.hid (bcall HB5.out hB.out)
      obtain ⟨x0, x1, x2, x3, x4, -, -, -, -, -⟩ := wcells HW6.out
      obtain ⟨r0, r1, r2, r3⟩ := Rp.rcells HR6.out
      clear hke el
      go_wp2_with fail
      go_region_held3 (fun W' => W'.cell? ⟨wb, 0, none⟩ = some (.slice a3 n3 c3) ∧ W'.cell? ⟨wb, 1, none⟩ = some (.int .i64 s.now.next) ∧ W'.cell? ⟨wb, 2, none⟩ = some (.int .i64 s.now.fall) ∧ W'.cell? ⟨wb, 3, none⟩ = some (.int .i64 s.now.wide) ∧ W'.cell? ⟨wb, 4, none⟩ = some (.int .i64 s.now.high) ∧ W'.cell? ⟨rb, 0, none⟩ = some (.int .i64 0) ∧ W'.cell? ⟨rb, 1, none⟩ = some (.int .i64 0) ∧ W'.cell? ⟨rb, 2, none⟩ = some (.slice ai NI ci) ∧ W'.cell? ⟨rb, 3, none⟩ = some (.slice am 0 cm)) (exact ⟨x0, x1, x2, x3, x4, r0, r1, r2, r3⟩)
        (first
        | (go_at_call 17; go_fit (world_any HG6.out); rintro e w7 ⟨⟨a7, n7, c7, rfl, F7, hs7, -⟩, hb7⟩; simp only at hs7 ⊢; have HS7 := St.hid hs7; have HS7' := St.hid (HS6.out.below hb7); have HW7 := St.hid (rowIs_below (rowIs_below HW6.out (Below.drew (Below.refl _ _))) hb7); have HR7 := St.hid (rowIs_below (rowIs_below HR6.out (Below.drew (Below.refl _ _))) hb7); have HB7 := St.hid (bcall (Below.drew HB6.out) hb7); clear hs7 hb7 x0 x1 x2 x3 x4 r0 r1 r2 r3; obtain ⟨x0, x1, x2, x3, x4, -, -, -, -, -⟩ := wcells HW7.out; obtain ⟨r0, r1, r2, r3⟩ := Rp.rcells HR7.out)
        | (go_at_call 16; go_fit (same_now HG.out.now HS7.out HS7'.out); rintro e w8 ⟨rfl, hb8⟩; have HW8 := St.hid (rowIs_below HW7.out hb8); have HR8 := St.hid (rowIs_below HR7.out hb8); have HB8 := St.hid (bcall HB7.out hb8); clear hb8 x0 x1 x2 x3 x4 r0 r1 r2 r3; obtain ⟨x0, x1, x2, x3, x4, -, -, -, -, -⟩ := wcells HW8.out; obtain ⟨r0, r1, r2, r3⟩ := Rp.rcells HR8.out))
      all_goals
        go_wp2_with fail
        go_ret
        exact ⟨rfl, HB8.out⟩
end Go.Proofs.YtckkkdldljhehacGreat.Gm
