/- What TopKills of package ninepinstop answers when called: true; nothing that was in memory before has changed. -/
import Derived.Test.YtckkkdldljhehacGreatKtGmU
namespace Go.Proofs.YtckkkdldljhehacGreat.Gm
open Go.Proofs.YtckkkdldljhehacGreat.Num Go.Proofs.YtckkkdldljhehacGreat.St Go.Proofs.YtckkkdldljhehacGreat.Wd
open Go.ChangeShapes Go.WideShapes Go.ChangeAt Go.RowKit

set_option maxHeartbeats 4000000 in
set_option maxRecDepth 100000 in
theorem topKills_any (size fall : Int) (al : Option Addr) (n cap : Nat) (l : List Ac) (id : Int) (w : World) (hl : ActL w al l) (hn : n = l.length) (hz : n * 136 ≤ 140737488355328) :
    Calls Tryz.prog 5 #[.int .i64 size, .int .i64 fall, .slice al n cap, .int .i64 id] w fun e w' => e = .returned (.bool true) ∧ Below w.heap.size w w' := by
  have HP := St.hid (play_from hl hn hz size fall cap (Below.refl _ w))
  have HG := St.hid (playP_good size fall l)
  have HR := St.hid (kill_story (playP_good size fall l) (by rw [acts_play]; omega) id)
  generalize playP size fall l = s at HP HG HR
  clear hl hn
  go_enter Tryz.func5, Tryz.ntmps5
  go_wp2_with fail
  refine HP.out.mono ?_
  rintro e w1 ⟨b, F1, rfl, hG1, hF1, hb1⟩
  have HG1 := St.hid hG1
  have HF1 := St.hid hF1
  have HB1 := St.hid hb1
  have hz1 := hb1.size
  clear hG1 hF1 hb1
  go_wp2_with fail
  have hd := do_from HG1.out HG.out HB1.out HF1.out (killA id)
  rcases HR.out with ⟨s1, e1⟩ | ⟨s1, s2, s3, m, e1, g1, no1, e2, g2, hml, hmn, e3⟩
  · rw [e1] at hd
    refine Calls.mono hd ?_
    clear hd
    rintro e w2 ⟨ai, ci, am, cm, F2, rfl, -, hG2, -, -, -, hk2, hb2⟩
    simp only [no, List.length_nil]
    have HB2 := St.hid hb2
    clear hG2 hk2 hb2
    go_wp2_with fail
    go_ret
    exact ⟨rfl, bal HB2.out _⟩
  · rw [e1] at hd
    refine Calls.mono hd ?_
    clear hd
    rintro e w2 ⟨ai, ci, am, cm, F2, rfl, -, hG2, -, hF2, -, hk2, hb2⟩
    simp only [no, List.length_nil]
    have HB2 := St.hid hb2
    have HG2 : Hid (Gam w2 F2 b s1) := St.hid hG2
    have HF2 := St.hid hF2
    have HGN1 := St.hid g1
    have HE2 := St.hid e2
    have HE3 := St.hid e3
    have HGN2 := St.hid g2
    have HNO := St.hid no1
    have HMN := St.hid hmn
    clear hG2 hF2 hk2 hb2 HG1 HF1 HB1 e1 e2 e3 g1 g2 no1 hmn
    go_wp2_with fail
    have HB2a := St.hid (bal HB2.out (.cells #[.int .i64 0, .int .i64 0, .slice ai 0 ci, .slice am 0 cm] 31))
    have HG2a := St.hid (HG2.out.below (bal (Below.refl _ _) (.cells #[.int .i64 0, .int .i64 0, .slice ai 0 ci, .slice am 0 cm] 31)))
    generalize w2.alloc (.cells #[.int .i64 0, .int .i64 0, .slice ai 0 ci, .slice am 0 cm] 31) = W2 at HB2a HG2a ⊢
    clear HB2 HG2
    refine (world_any HG2a.out).mono ?_
    rintro e w3 ⟨⟨a3, n3, c3, rfl, F3, hs3, -⟩, hb3⟩
    have HS3 := St.hid hs3
    have HB3 := St.hid (bcall HB2a.out hb3)
    have HG3 := St.hid (HG2a.out.below hb3)
    clear hs3 hb3 HB2a HG2a
    go_wp2_with fail
    rw [fieldW]
    go_wp2_with fail
    refine (HS3.out.get_none HGN1.out.now.l s1.now.next id HNO.out).mono ?_
    rintro e w4 ⟨rfl, hb4⟩
    have HB4 := St.hid (bcall HB3.out hb4)
    have HG4 := St.hid (HG3.out.below hb4)
    clear hb4 HB3 HG3 HS3
    go_wp2_with fail
    have HB4a := St.hid (bal HB4.out (.cells #[.int .i64 0, .int .i64 0, .int .i64 0, .int .i64 0, .int .i64 0, .int .i64 0, .int .i64 0, .int .i64 0] 34))
    have HG4a := St.hid (HG4.out.below (bal (Below.refl _ _) (.cells #[.int .i64 0, .int .i64 0, .int .i64 0, .int .i64 0, .int .i64 0, .int .i64 0, .int .i64 0, .int .i64 0] 34)))
    generalize w4.alloc (.cells #[.int .i64 0, .int .i64 0, .int .i64 0, .int .i64 0, .int .i64 0, .int .i64 0, .int .i64 0, .int .i64 0] 34) = W4 at HB4a HG4a ⊢
    clear HB4 HG4
    have hd := do_from HG4a.out HGN1.out HB4a.out HF2.out (stepA 3)
    rw [HE2.out] at hd
    refine Calls.mono hd ?_
    clear hd
    rintro e w5 ⟨aj, cj, an, cn, F5, rfl, ⟨-, hm5⟩, hG5, -, hF5, hn5, hk5, hb5⟩
    simp only [List.length_nil] at hm5 hn5 ⊢
    have HM5 := St.hid hm5
    have HG5 : Hid (Gam w5 F5 b s2) := St.hid hG5
    have HF5 := St.hid hF5
    have HB5 := St.hid hb5
    obtain ⟨N, hN⟩ : ∃ N, N = m.length := ⟨_, rfl⟩
    rw [← hN] at HM5 ⊢ hml
    have HN := St.hid hN
    clear hm5 hG5 hF5 hn5 hk5 hb5 HB4a HG4a hN
    go_wp2_with fail
    have HB5a := St.hid (bal HB5.out (.cells #[.int .i64 0, .int .i64 N, .slice aj 0 cj, .slice an N cn] 31))
    have HG5a := St.hid (HG5.out.below (bal (Below.refl _ _) (.cells #[.int .i64 0, .int .i64 N, .slice aj 0 cj, .slice an N cn] 31)))
    have HP5 := St.hid ((Rp.PairsR.own HM5.out HN.out).below (bal (Below.refl _ _) (.cells #[.int .i64 0, .int .i64 N, .slice aj 0 cj, .slice an N cn] 31)))
    generalize w5.alloc (.cells #[.int .i64 0, .int .i64 N, .slice aj 0 cj, .slice an N cn] 31) = W5 at HB5a HG5a HP5 ⊢
    clear HB5 HG5 HM5
    go_loopw [52] (fun i wr => ∃ k : Nat, k ≤ N ∧ i = .int .i64 k ∧ Hid (Below W5.heap.size W5 wr)) (fun i _ => N - (intOf i).toNat)
    case atStart => exact ⟨0, Nat.zero_le _, rfl, Below.refl _ _⟩
    case round =>
      obtain ⟨k, hk, rfl, hB⟩ := hrel
      by_cases hlt : k < N
      · have hlt' : (k : Int) < (N : Int) := by omega
        obtain ⟨p, hp⟩ : ∃ x, m[k]? = some x := ⟨_, List.getElem?_eq_getElem (by have := HN.out; omega)⟩
        obtain ⟨_, _, ea, ra⟩ := HP5.out.below hB.out
        obtain ⟨g, off, rfl, hgl, hcc⟩ := ra (by have := HN.out; omega)
        simp only [Value.slice.injEq] at ea
        obtain ⟨rfl, -, -⟩ := ea
        obtain ⟨p0, p1⟩ := hcc k p hp
        have hne := HMN.out p (List.mem_of_getElem? hp)
        have b0 : (p.1 == id) = false := by simpa using hne.1
        have b1 : (p.2 == id) = false := by simpa using hne.2
        clear hcc hp hne
        go_wp2_with fail
        go_roundw
        case rel => exact ⟨k + 1, by omega, by go_num, bal hB.out _⟩
        case measure => simp [intOf]; omega
      · have HG6 := St.hid (HG5a.out.below hB.out)
        have HB6 := St.hid (bcall HB5a.out hB.out)
        go_wp2_with fail
        have hd := do_from HG6.out HGN2.out HB6.out HF5.out (killA id)
        rw [HE3.out] at hd
        refine Calls.mono hd ?_
        clear hd
        rintro e w7 ⟨ap, cp, aq, cq, F7, rfl, -, -, -, -, -, -, hb7⟩
        simp only [no, List.length_nil]
        have HB7 := St.hid hb7
        clear hb7
        go_wp2_with fail
        rw [fieldR]
        go_wp2_with fail
        go_ret
        exact ⟨rfl, HB7.out⟩
end Go.Proofs.YtckkkdldljhehacGreat.Gm
