/- What step of a game in memory answers when called: the plain steps and who met in them, in memory of its own; the game as it is then; all blocks but the game's are as they were. -/
import Derived.Test.YtckkkdldljhehacGreatKtGmD
import Derived.Laws.AppendOwnNone
import Derived.Maps.AppendAt
namespace Go.Proofs.YtckkkdldljhehacGreat.Gm
open Go.Proofs.YtckkkdldljhehacGreat.Num Go.Proofs.YtckkkdldljhehacGreat.St Go.Proofs.YtckkkdldljhehacGreat.Wd
open Go.ChangeShapes Go.WideShapes Go.ChangeAt Go.RowKit

/-- Another world in the place of the game's. -/
theorem GamP.setW {W : World} {F F2 : Nat → Prop} {b : Nat} {s : Gp} {v vs : Value} {sv : List Value} {Fs : Nat → Prop} (h : GamP W F b s v vs sv Fs) {u : Value} {L : List Tab} (hu : Sto W F2 u L) (hF2 : ∀ z, F2 z → Fs z ∨ ¬ F z) (next fall wide high : Int) :
    Gam (put5 W b u next fall wide high) (fun z => F z ∨ F2 z) b { s with now := ⟨L, next, fall, wide, high⟩ } := by
  have hb2 : ∀ z, F2 z → z ≠ b := fun z hz e => by
    rcases hF2 z hz with h1 | h1
    · exact (h.inF z h1).2 e
    · exact h1 (e ▸ h.own)
  have hg := grown5 W b u next fall wide high
  have hs0 : Sto (put5 W b u next fall wide high) (fun z => Fs z ∨ F2 z) u L := grown_keep (hu.wide (fun z hz => Or.inr hz) (fun z hz => hz.elim (fun h1 => h.now.lt h1) (fun h1 => hu.lt h1))) hg (fun hc => hc.elim (fun h1 => (h.inF b h1).2 rfl) (fun h1 => hb2 b h1 rfl))
  refine ⟨u, vs, sv, fun z => Fs z ∨ F2 z, ⟨?_, ?_, h.len, hs0, fun i q x h1 h2 => ?_, ?_, Or.inl h.own, ?_, ?_⟩⟩
  · refine (((((h.row.set 0 u).set 1 (.int .i64 next)).set 2 (.int .i64 fall)).set 3 (.int .i64 wide)).set 4 (.int .i64 high)).congr (fun i hi => ?_)
    match i, hi with
    | 0, _ => rfl
    | 1, _ => rfl
    | 2, _ => rfl
    | 3, _ => rfl
    | 4, _ => rfl
    | 5, _ => rfl
    | 6, _ => rfl
  · exact owns_kept h.svs hg (fun z hz e => by cases e; exact (h.sep b hz).2.1 rfl)
  · exact grown_keep ((h.all i q x h1 h2).wide (fun z hz => Or.inl hz) (fun z hz => hz.elim (fun h1 => h.now.lt h1) (fun h1 => hu.lt h1))) hg (fun hc => hc.elim (fun h1 => (h.inF b h1).2 rfl) (fun h1 => hb2 b h1 rfl))
  · intro z hz
    rcases hz with h1 | h1
    · exact ⟨Or.inl (h.inF z h1).1, (h.inF z h1).2⟩
    · exact ⟨Or.inr h1, hb2 z h1⟩
  · intro z hz
    have h1 := h.sep z hz
    refine ⟨Or.inl h1.1, h1.2.1, fun hc => hc.elim h1.2.2 (fun h2 => ?_)⟩
    rcases hF2 z h2 with h3 | h3
    · exact h1.2.2 h3
    · exact h3 h1.1
  · intro z hz
    have hs : (put5 W b u next fall wide high).heap.size = W.heap.size := by simp [World.setCell]
    rw [hs]
    exact hz.elim (h.lt z) (fun h1 => hu.lt h1)
theorem below_grown' {B : Nat} {w0 w w' : World} {o : Option Nat} (h : Below B w0 w) (hg : w.grownBy w' o) (hB : B ≤ w0.heap.size) (ho : ∀ z, o = some z → B ≤ z) : Below B w0 w' :=
  ⟨hg.os.trans h.os, hg.tape.trans h.tape, hg.output.trans h.output, Nat.le_trans h.size hg.size, fun k hk => (hg.block k (by have := h.size; omega) (fun e => by have := ho k e.symm; omega)).trans (h.block k hk)⟩
theorem stepsW_same (k : Nat) (x : Wp) : (stepsW k x).next = x.next ∧ (stepsW k x).fall = x.fall ∧ (stepsW k x).wide = x.wide ∧ (stepsW k x).high = x.high := by
  induction k with
  | zero => exact ⟨rfl, rfl, rfl, rfl⟩
  | succ k ih => exact ih
theorem stepM_len {x : Wp} (h : GoodW x) : (stepM x).length ≤ 100 := by
  unfold stepM Wd.stepG
  refine Nat.le_trans (met_len _ _ _) (pairs_len _ ?_)
  simp [boxG]
  exact ids_len h.l
theorem stepsM_len {x : Wp} (h : GoodW x) (k : Nat) : (stepsM k x).length ≤ 100 * k := by
  induction k with
  | zero => simp [stepsM]
  | succ k ih =>
    simp only [stepsM, List.length_append]
    have := stepM_len (h.steps k)
    omega
/-- What a method with a list of pairs leaves. -/
def PostM (w : World) (F : Nat → Prop) (b : Nat) (s : Gp) (c n : Int) (met : List (Int × Int)) (e : Ending) (w' : World) : Prop :=
  ∃ vm, e = .returned (.agg #[.int .i64 c, .int .i64 n, .slice none 0 0, vm]) ∧ w'.ownsRow w.heap.size 54 2 vm met.length (met.flatMap Sw.pairCells) ∧
    (∃ F', Gam w' F' b s ∧ (∀ z, F' z → F z ∨ w.heap.size ≤ z) ∧ ∀ z, vm.ownBlock = some z → ¬ F' z) ∧ Kept F w w'
theorem Post.toM {w w' : World} {F : Nat → Prop} {b : Nat} {s : Gp} {c n : Int} {e : Ending} (h : Post w F b s c n e w') : PostM w F b s c n [] e w' := by
  obtain ⟨rfl, ⟨F', h1, h2⟩, h3⟩ := h
  exact ⟨_, rfl, World.ownsRow_nil _ _ _ _, ⟨F', h1, h2, fun z hz => by cases hz⟩, h3⟩
attribute [local go_sem ↓] Go.wp_at_zero Go.wp_at_succ
set_option maxHeartbeats 4000000 in
set_option maxRecDepth 100000 in
theorem gstep_any {F : Nat → Prop} {b : Nat} {s : Gp} {w : World} (hG : Gam w F b s) (hg : GoodG s) (n : Int) :
    Calls Tryz.prog 37 #[.pointer (some ⟨b, 0, none⟩), .int .i64 n] w
      (PostM w F b { s with now := (goW s.now n).1 } (goW s.now n).2.code (goW s.now n).2.n (goW s.now n).2.met) := by
  have HGM := St.hid hG
  have hRPW := St.hid (Rp.rowIs4 w 0 0 (.slice none 0 0) (.slice none 0 0) 31)
  have HBW := St.hid (bal (Below.refl _ w) (.cells #[.int .i64 0, .int .i64 0, .slice none 0 0, .slice none 0 0] 31))
  by_cases hn : n < 1 ∨ 8 < n
  · have e : goW s.now n = (s.now, no 2) := by unfold goW; rw [if_pos hn]
    rw [e]
    refine Calls.mono (R := Post w F b s 2 0) ?_ (fun _ _ h => h.toM)
    clear hG
    rcases (show n < 1 ∨ (1 ≤ n ∧ 8 < n) by omega) with h1 | ⟨h1, h2⟩
    · go_enter Tryz.func37, Tryz.ntmps37
      go_wp2_with fail
      refine (refused_any 2 _).mono ?_
      rintro e w2 ⟨rfl, hb2⟩
      have hRP2 := St.hid (rowIs_below hRPW.out hb2)
      have HB2 := St.hid (bcall HBW.out hb2)
      clear hb2
      obtain ⟨p0, p1, p2, p3⟩ := Rp.rcells hRP2.out
      have p4 := hRP2.out.frozen 0
      have p5 := hRP2.out.frozen 1
      have p6 := hRP2.out.frozen 2
      have p7 := hRP2.out.frozen 3
      go_wp2_with fail
      obtain ⟨q0, q1, q2, q3⟩ := four (put4 hRP2.out (.int .i64 2) (.int .i64 0) (.slice none 0 0) (.slice none 0 0))
      exact bodyPost_ret (v := .agg #[.int .i64 2, .int .i64 0, .slice none 0 0, .slice none 0 0]) (by simp [results, Tryz.results37, go_sem, q0, q1, q2, q3]) rfl (post_same HGM.out HB2.out (by omega) _ _ _ _)
    · go_enter Tryz.func37, Tryz.ntmps37
      go_wp2_with fail
      refine (refused_any 2 _).mono ?_
      rintro e w2 ⟨rfl, hb2⟩
      have hRP2 := St.hid (rowIs_below hRPW.out hb2)
      have HB2 := St.hid (bcall HBW.out hb2)
      clear hb2
      obtain ⟨p0, p1, p2, p3⟩ := Rp.rcells hRP2.out
      have p4 := hRP2.out.frozen 0
      have p5 := hRP2.out.frozen 1
      have p6 := hRP2.out.frozen 2
      have p7 := hRP2.out.frozen 3
      go_wp2_with fail
      obtain ⟨q0, q1, q2, q3⟩ := four (put4 hRP2.out (.int .i64 2) (.int .i64 0) (.slice none 0 0) (.slice none 0 0))
      exact bodyPost_ret (v := .agg #[.int .i64 2, .int .i64 0, .slice none 0 0, .slice none 0 0]) (by simp [results, Tryz.results37, go_sem, q0, q1, q2, q3]) rfl (post_same HGM.out HB2.out (by omega) _ _ _ _)
  · obtain ⟨N, rfl⟩ : ∃ N : Nat, n = N := ⟨n.toNat, by omega⟩
    have hN1 : 1 ≤ N := by omega
    have hN8 : N ≤ 8 := by omega
    have e : goW s.now N = (stepsW N s.now, ⟨0, (stepsM N s.now).length, [], stepsM N s.now⟩) := by unfold goW; rw [if_neg hn]; simp
    rw [e]
    clear e hn
    obtain ⟨i79, hi79, hz79, hs79, hb79⟩ := info_parts Sw.info79
    obtain ⟨v, vs, sv, Fs, hG⟩ := hG
    have hbz := hG.lt b hG.own
    have HG := St.hid hG
    have HGD := St.hid hg
    obtain ⟨a, n, c, rfl⟩ := hG.now.one
    obtain ⟨x0, x1, x2, x3, x4, -, -⟩ := gcells hG.row
    have HFs : Hid (∀ z, Fs z → z < w.heap.size) := St.hid (fun z hz => hG.lt z (hG.inF z hz).1)
    clear hG hg
    go_enter Tryz.func37, Tryz.ntmps37
    go_wp2_with fail
    have hWW := St.hid (rowIs5 (w.alloc (.cells #[.int .i64 0, .int .i64 0, .slice none 0 0, .slice none 0 0] 31)) (.slice a n c) s.now.next s.now.fall s.now.wide s.now.high 45)
    rw [World.size_alloc] at hWW
    have hRW := St.hid (hRPW.out.alloc (.cells #[.slice a n c, .int .i64 s.now.next, .int .i64 s.now.fall, .int .i64 s.now.wide, .int .i64 s.now.high] 45))
    have HB0 := St.hid (bal HBW.out (.cells #[.slice a n c, .int .i64 s.now.next, .int .i64 s.now.fall, .int .i64 s.now.wide, .int .i64 s.now.high] 45))
    clear hRPW HBW x0 x1 x2 x3 x4
    go_loopw [6, 22] (fun u i wr => ∃ (k : Nat) (vk : Value) (Fk : Nat → Prop) (uu : Value), k ≤ N ∧ i = .int .i64 k ∧ uu = u ∧ Hid (wr.rowIs w.heap.size 31 4 (Rp.rcell 0 0 (.slice none 0 0) (.slice none 0 0))) ∧ Hid (wr.rowIs (w.heap.size + 1) 45 5 (wcell vk s.now.next s.now.fall s.now.wide s.now.high)) ∧
      Hid (Sto wr Fk vk (stepsW k s.now).L) ∧ Hid (∀ z, Fk z → Fs z ∨ w.heap.size + 1 + 1 ≤ z) ∧ Hid (wr.ownsRow (w.heap.size + 1 + 1) 54 2 uu (stepsM k s.now).length ((stepsM k s.now).flatMap Sw.pairCells)) ∧ Hid (∀ z, uu.ownBlock = some z → ¬ Fk z) ∧ Hid (Below w.heap.size w wr) ∧ w.heap.size + 1 + 1 ≤ wr.heap.size) (fun _ i _ => N - (intOf i).toNat)
    case atStart => exact ⟨0, _, Fs, _, Nat.zero_le _, rfl, rfl, hRW, hWW, St.hid (HG.out.now.below HB0.out), St.hid (fun z hz => Or.inl hz), St.hid (World.ownsRow_nil _ _ _ _), St.hid (fun z hz => by cases hz), HB0, by simp⟩
    case round =>
      obtain ⟨k, vk, Fk, uu, hk, rfl, rfl, hrp, hww, hst, hFk, hown, hsep, hbl, hzr⟩ := hrel
      have hzs := hbl.out.size
      obtain ⟨ak, nk, ck, rfl⟩ := hst.out.one
      by_cases hlt : k < N
      · have HGW : Hid (GoodWd s.now.next s.now.fall s.now.wide s.now.high (stepsW k s.now).L) := St.hid (by
          have h := HGD.out.now.steps k
          obtain ⟨e1, e2, e3, e4⟩ := stepsW_same k s.now
          have h1 := h.l
          have h2 := h.fall
          have h3 := h.wide
          have h4 := h.high
          rw [e1] at h1
          rw [e2] at h2
          rw [e3] at h3
          rw [e4] at h4
          exact ⟨h1, h2, h3, h4⟩)
        have hl1 := stepsM_len HGD.out.now k
        have hl2 := stepM_len (HGD.out.now.steps k)
        have HM : Hid (Wd.stepG (stepsW k s.now).L s.now.fall s.now.wide s.now.high = Wd.stepG (stepsW k s.now).L (stepsW k s.now).fall (stepsW k s.now).wide (stepsW k s.now).high) := St.hid (by
          obtain ⟨e1, e2, e3, e4⟩ := stepsW_same k s.now
          rw [e2, e3, e4])
        obtain ⟨y0, y1, y2, y3, y4, yf0, yf1, yf2, yf3, yf4⟩ := wcells hww.out
        go_wp2_with fail
        refine (step_any s.now.next s.now.fall s.now.wide s.now.high hst.out).mono ?_
        rintro e w1 ⟨⟨a1, n1, c1, um, ec, rfl, hor⟩, hb1⟩
        rcases hor with ⟨hno, -⟩ | ⟨-, rfl, ⟨F1, hs1, hF1⟩, hum⟩
        · exact absurd HGW.out hno
        have HL1 : Hid (withRows (stepsW k s.now).L (Wd.stepG (stepsW k s.now).L s.now.fall s.now.wide s.now.high).1 = (stepsW (k + 1) s.now).L) := St.hid (by rw [HM.out]; rfl)
        have HM1 : Hid (stepsM (k + 1) s.now = stepsM k s.now ++ (Wd.stepG (stepsW k s.now).L s.now.fall s.now.wide s.now.high).2) := St.hid (by rw [HM.out]; rfl)
        rw [HL1.out] at hs1
        have HM2 : Hid ((Wd.stepG (stepsW k s.now).L s.now.fall s.now.wide s.now.high).2.length ≤ 100) := St.hid (by rw [HM.out]; exact hl2)
        generalize (Wd.stepG (stepsW k s.now).L s.now.fall s.now.wide s.now.high).2 = ms at hum HM1 HM2
        clear HM HL1 HGW hl2
        have HS1 := St.hid hs1
        have HF1 := St.hid hF1
        have HUM := St.hid hum
        have hrp1 := St.hid (rowIs_below hrp.out hb1)
        have hww1 := St.hid (rowIs_below hww.out hb1)
        have hown1 := St.hid (owns_below hown.out hb1)
        have HB1 := St.hid (bcall hbl.out hb1)
        have hz1 := hb1.size
        clear hb1 hs1 hF1 hum y0 y1 y2 y3 y4 yf0 yf1 yf2 yf3 yf4 hrp hww hst
        obtain ⟨y0, y1, y2, y3, y4, yf0, yf1, yf2, yf3, yf4⟩ := wcells hww1.out
        have hne : ¬ (w1.heap.size = w.heap.size + 1) := by omega
        have hne' : ¬ (w.heap.size + 1 = w1.heap.size) := by omega
        have hlw : w.heap.size + 1 < w1.heap.size := by omega
        have HLN : Hid ((stepsM k s.now).length ≤ 800) := St.hid (by omega)
        have hu7 := HUM.out
        have HG5 := St.hid (grown5 w1 (w.heap.size + 1) (.slice a1 n1 c1) s.now.next s.now.fall s.now.wide s.now.high)
        have hrp2 := St.hid ((rowIs_grown hrp1.out HG5.out (by simp)).alloc (.cells #[.slice a1 n1 c1, .int .i64 s.now.next, .int .i64 s.now.fall, .int .i64 s.now.wide, .int .i64 s.now.high] 45))
        have hww2 := St.hid ((row5 hww1.out (.slice a1 n1 c1) s.now.next s.now.fall s.now.wide s.now.high).alloc (.cells #[.slice a1 n1 c1, .int .i64 s.now.next, .int .i64 s.now.fall, .int .i64 s.now.wide, .int .i64 s.now.high] 45))
        have HS2 := St.hid ((HS1.out.put5 (b := w.heap.size + 1) (fun hc => by have := HF1.out _ hc; omega) (.slice a1 n1 c1) s.now.next s.now.fall s.now.wide s.now.high).below (bal (Below.refl _ _) (.cells #[.slice a1 n1 c1, .int .i64 s.now.next, .int .i64 s.now.fall, .int .i64 s.now.wide, .int .i64 s.now.high] 45)))
        have hown2 := St.hid ((owns_kept hown1.out HG5.out (fun z hz e => by cases e; have := (hown1.out.lt _ hz).1; omega)).alloc (.cells #[.slice a1 n1 c1, .int .i64 s.now.next, .int .i64 s.now.fall, .int .i64 s.now.wide, .int .i64 s.now.high] 45))
        have HUM2 := St.hid ((owns_kept HUM.out HG5.out (fun z hz e => by cases e; have := (HUM.out.lt _ hz).1; omega)).alloc (.cells #[.slice a1 n1 c1, .int .i64 s.now.next, .int .i64 s.now.fall, .int .i64 s.now.wide, .int .i64 s.now.high] 45))
        have HB2 := St.hid (bal (below_grown HB1.out HG5.out HB1.out.size (by omega)) (.cells #[.slice a1 n1 c1, .int .i64 s.now.next, .int .i64 s.now.fall, .int .i64 s.now.wide, .int .i64 s.now.high] 45))
        have hz2 : w1.heap.size + 1 = ((put5 w1 (w.heap.size + 1) (.slice a1 n1 c1) s.now.next s.now.fall s.now.wide s.now.high).alloc (.cells #[.slice a1 n1 c1, .int .i64 s.now.next, .int .i64 s.now.fall, .int .i64 s.now.wide, .int .i64 s.now.high] 45)).heap.size := by simp [World.setCell]
        obtain ⟨hul, hu0 | ⟨gm, cm, cur, hu1, -⟩⟩ := hu7
        · obtain ⟨rfl, h0⟩ := hu0
          have hms : ms = [] := List.length_eq_zero_iff.1 h0
          subst hms
          go_wp2_with (at_builtin; refine wpList_append_own_none rfl _ _ 29 rfl (w.heap.size + 1 + 1) 54 i79 2 Tryz.underlying29 hi79 _ _ _ rfl hown2.out rfl ?_)
          go_roundw
          case rel =>
            refine ⟨k + 1, _, F1, uu, by omega, by go_num, rfl, hrp2, hww2, HS2, St.hid (fun z hz => Or.inr (by have := HF1.out z hz; omega)), ?_, St.hid (fun z hz hc => by have := (hown.out.lt z hz).2; have := HF1.out z hc; omega), HB2, by simp [World.setCell]; omega⟩
            rw [HM1.out, List.append_nil]
            exact hown2
          case measure => simp [intOf]; omega
        · subst hu1
          have hl2 := HM2.out
          have hl3 := HLN.out
          go_wp2_with (at_builtin; refine wpList_append_own_at _ rfl _ _ 29 rfl (w.heap.size + 1 + 1) 54 i79 (.agg #[.int .i64 0, .int .i64 0]) 2 16 Tryz.underlying29 hi79 hz79 hs79 hb79 rfl (by decide) _ _ _ rfl hown2.out ⟨gm, 0, none⟩ ms.length cm (ms.flatMap Sw.pairCells) rfl ?c1 ?c2 ?c3 ?c4 ?c5 ?c6 ?_)
          case c1 => exact hul
          case c2 => exact HUM2.out.cells rfl
          case c3 => intro u hu; simp [Sw.pairCells] at hu; obtain ⟨_, _, _, rfl | rfl⟩ := hu <;> rfl
          case c4 => unfold maxLen; omega
          case c5 => omega
          case c6 => simp [World.setCell]; omega
          intro v' w3 hown3 hg3 _ hat3
          have hub : ∀ z, uu.ownBlock = some z → w.heap.size + 1 + 1 ≤ z ∧ z < wr.heap.size := fun z hz => hown.out.lt z hz
          have e0 : uu.ownBlock ≠ some w.heap.size := fun e => by have := (hub _ e).1; omega
          have e1 : uu.ownBlock ≠ some (w.heap.size + 1) := fun e => by have := (hub _ e).1; omega
          have HUB := St.hid hub
          have HAT := St.hid hat3
          have HO3 := St.hid hown3
          have HG3 := St.hid hg3
          have hz3 := hg3.size
          simp [World.setCell] at hz3
          clear hown3 hg3 hub hat3
          go_wp2_with fail
          go_roundw
          case rel =>
            refine ⟨k + 1, _, F1, v', by omega, by go_num, rfl, St.hid (rowIs_grown hrp2.out HG3.out e0), St.hid (rowIs_grown hww2.out HG3.out e1), St.hid (HS2.out.keep HG3.out.size (fun z hz => HG3.out.block z (HS2.out.lt hz) (fun e => ?_))), St.hid (fun z hz => Or.inr (by have := HF1.out z hz; omega)), ?_, St.hid (fun z hz hc => ?_), St.hid (below_grown' HB2.out HG3.out (Nat.le_refl _) ?_), by omega⟩
            · have := (HUB.out z e.symm).2; have := HF1.out z hz; omega
            · have h3 := HO3.out
              rw [HM1.out, List.length_append, List.flatMap_append]
              exact St.hid h3
            · rcases HAT.out with h | h
              · rw [h] at hz; have := (HUB.out z hz).2; have := HF1.out z hc; omega
              · rw [h] at hz
                have e : ((put5 w1 (w.heap.size + 1) (.slice a1 n1 c1) s.now.next s.now.fall s.now.wide s.now.high).alloc (.cells #[.slice a1 n1 c1, .int .i64 s.now.next, .int .i64 s.now.fall, .int .i64 s.now.wide, .int .i64 s.now.high] 45)).heap.size = z := Option.some.inj hz
                have := HS2.out.lt hc
                omega
            · intro z hz; have := (HUB.out z hz).1; omega
          case measure => simp [intOf]; omega
      · have hke : k = N := by omega
        subst hke
        obtain ⟨y0, y1, y2, y3, y4, yf0, yf1, yf2, yf3, yf4⟩ := wcells hww.out
        have HGR := St.hid (HG.out.below hbl.out)
        obtain ⟨g0, g1, g2, g3, g4, g5, g6⟩ := gfrozen HGR.out.row
        obtain ⟨x0, x1, x2, x3, x4, -, -⟩ := gcells HGR.out.row
        obtain ⟨p0, p1, p2, p3⟩ := Rp.rcells hrp.out
        have p4 := hrp.out.frozen 0
        have p5 := hrp.out.frozen 1
        have p6 := hrp.out.frozen 2
        have p7 := hrp.out.frozen 3
        have hbw : b < wr.heap.size := by omega
        have hbn : ¬ (b = w.heap.size) := by omega
        have hbn' : ¬ (w.heap.size = b) := by omega
        have hwz : w.heap.size < wr.heap.size := by omega
        obtain ⟨au, cu, rfl, -⟩ := Sw.owns_slice hown.out
        go_wp2_with fail
        have HG5 := St.hid (grown5 wr b (.slice ak nk ck) s.now.next s.now.fall s.now.wide s.now.high)
        have hrp2 := St.hid (rowIs_grown hrp.out HG5.out (by simp; omega))
        obtain ⟨q0, q1, q2, q3⟩ := four (put4 hrp2.out (.int .i64 0) (.int .i64 (stepsM k s.now).length) (.slice none 0 0) (.slice au (stepsM k s.now).length cu))
        refine bodyPost_ret (v := .agg #[.int .i64 0, .int .i64 (stepsM k s.now).length, .slice none 0 0, .slice au (stepsM k s.now).length cu]) (by simp [results, Tryz.results37, go_sem, q0, q1, q2, q3]) rfl ⟨_, rfl, ?_, ⟨fun z => F z ∨ Fk z, ?_, fun z hz => ?_, fun z hz hc => ?_⟩, ?_⟩
        · refine owns_mono (owns_kept (owns_kept hown.out HG5.out (fun z hz e => ?_)) (grown4 _ w.heap.size _ _ _ _) (fun z hz e => ?_)) (by omega)
          · cases e; have := (hown.out.lt _ hz).1; omega
          · cases e; have := (hown.out.lt _ hz).1; omega
        · have hs : stepsW k s.now = ⟨(stepsW k s.now).L, s.now.next, s.now.fall, s.now.wide, s.now.high⟩ := by
            obtain ⟨e1, e2, e3, e4⟩ := stepsW_same k s.now
            rw [← e1, ← e2, ← e3, ← e4]
          rw [hs]
          refine Gam.grown (HGR.out.setW hst.out (fun z hz => ?_) s.now.next s.now.fall s.now.wide s.now.high) (grown4 _ w.heap.size _ _ _ _) (fun hc => ?_)
          · rcases hFk.out z hz with h | h
            · exact Or.inl h
            · exact Or.inr (fun hc => by have := HG.out.lt z hc; omega)
          · rcases hc with h | h
            · have := HG.out.lt _ h; omega
            · rcases hFk.out _ h with h | h
              · have := HFs.out _ h; omega
              · omega
        · rcases hz with h | h
          · exact Or.inl h
          · rcases hFk.out _ h with h | h
            · exact Or.inl (HG.out.inF z h).1
            · exact Or.inr (by omega)
        · rcases hc with h | h
          · have := HG.out.lt _ h; have := (hown.out.lt _ hz).1; omega
          · exact hsep.out z hz h
        · exact kept_grown ((Kept.below hbl.out).grown HG5.out (fun z e => Or.inl (by cases e; exact HG.out.own))) (grown4 _ w.heap.size _ _ _ _) (Nat.le_refl _)
end Go.Proofs.YtckkkdldljhehacGreat.Gm
