/- Part of the proofs of GamePlays and GameRuns (package ninepinslaw): contracts of the functions that they call. -/
import Derived.Laws.AppendOwnNone
import Derived.Maps.AppendAt
import Derived.Test.YtckkkdldljhehacGreatPkR
import Derived.Test.YtckkkdldljhehacGreatPkU1
namespace Go.Proofs.YtckkkdldljhehacGreat
namespace Gm
open Num St Wd
open Go.ChangeShapes Go.WideShapes Go.ChangeAt Go.RowKit
theorem GamP.setW {W : World} {F F2 : Nat → Prop} {b : Nat} {s : Gp} {v vs : Value} {sv : List Value} {Fs : Nat → Prop} (h : GamP W F b s v vs sv Fs) {u : Value} {L : List Tab} (hu : Sto W F2 u L) (hF2 : ∀ z, F2 z → Fs z ∨ ¬ F z) (next fall wide high : Int) :
  Gam (put5 W b u next fall wide high) (fun z => F z ∨ F2 z) b { s with now := ⟨L, next, fall, wide, high⟩ } := by
 have hb2 : ∀ z, F2 z → z ≠ b := fun z hz e => by
  rcases hF2 z hz with h1 | h1
  ·exact (h.inF z h1).2 e
  ·exact h1 (e ▸ h.own)
 have hg := grown5 W b u next fall wide high
 have hs0 : Sto (put5 W b u next fall wide high) (fun z => Fs z ∨ F2 z) u L := grown_keep (hu.wide (fun z hz => Or.inr hz) (fun z hz => hz.elim (fun h1 => h.now.lt h1) (fun h1 => hu.lt h1))) hg (fun hc => hc.elim (fun h1 => (h.inF b h1).2 rfl) (fun h1 => hb2 b h1 rfl))
 refine ⟨u, vs, sv, fun z => Fs z ∨ F2 z, ⟨?_, ?_, h.len, hs0, fun i q x h1 h2 => ?_, ?_, Or.inl h.own, ?_, ?_⟩⟩
 ·refine (((((h.row.set 0 u).set 1 (.int .i64 next)).set 2 (.int .i64 fall)).set 3 (.int .i64 wide)).set 4 (.int .i64 high)).congr (fun i hi => ?_)
  match i, hi with
  | 0, _ => rfl
  | 1, _ => rfl
  | 2, _ => rfl
  | 3, _ => rfl
  | 4, _ => rfl
  | 5, _ => rfl
  | 6, _ => rfl
 ·exact owns_kept h.svs hg (fun z hz e => by cases e; exact (h.sep b hz).2.1 rfl)
 ·exact grown_keep ((h.all i q x h1 h2).wide (fun z hz => Or.inl hz) (fun z hz => hz.elim (fun h1 => h.now.lt h1) (fun h1 => hu.lt h1))) hg (fun hc => hc.elim (fun h1 => (h.inF b h1).2 rfl) (fun h1 => hb2 b h1 rfl))
 ·intro z hz
  rcases hz with h1 | h1
  ·exact ⟨Or.inl (h.inF z h1).1, (h.inF z h1).2⟩
  ·exact ⟨Or.inr h1, hb2 z h1⟩
 ·intro z hz
  have h1 := h.sep z hz
  refine ⟨Or.inl h1.1, h1.2.1, fun hc => hc.elim h1.2.2 (fun h2 => ?_)⟩
  rcases hF2 z h2 with h3 | h3
  ·exact h1.2.2 h3
  ·exact h3 h1.1
 ·intro z hz
  have hs : (put5 W b u next fall wide high).heap.size = W.heap.size := by simp [World.setCell]
  rw [hs]
  exact hz.elim (h.lt z) (fun h1 => hu.lt h1)
theorem below_grown' {B : Nat} {w0 w w' : World} {o : Option Nat} (h : Below B w0 w) (hg : w.grownBy w' o) (hB : B ≤ w0.heap.size) (ho : ∀ z, o = some z → B ≤ z) : Below B w0 w' :=
 ⟨hg.os.trans h.os, hg.tape.trans h.tape, hg.output.trans h.output, Nat.le_trans h.size hg.size, fun k hk => (hg.block k (by have := h.size; omega) (fun e => by have := ho k e.symm; omega)).trans (h.block k hk)⟩
theorem stepsW_same (k : Nat) (x : Wp) : (stepsW k x).next = x.next ∧ (stepsW k x).fall = x.fall ∧ (stepsW k x).wide = x.wide ∧ (stepsW k x).high = x.high := by
 induction k with
 | zero => exact ⟨rfl, rfl, rfl, rfl⟩
 | succ k ih => exact ih
theorem stepM_len {x : Wp} (h : GoodW x) : (stepM x).length ≤ 100 := by
 unfold stepM Wd.stepG
 refine Nat.le_trans (met_len _ _ _) (pairs_len _ ?_)
 simp [boxG]
 exact ids_len h.l
theorem stepsM_len {x : Wp} (h : GoodW x) (k : Nat) : (stepsM k x).length ≤ 100 * k := by
 induction k with
 | zero => simp [stepsM]
 | succ k ih =>
  simp only [stepsM, List.length_append]
  have := stepM_len (h.steps k)
  omega
def PostM (w : World) (F : Nat → Prop) (b : Nat) (s : Gp) (c n : Int) (met : List (Int × Int)) (e : Ending) (w' : World) : Prop :=
 ∃ vm, e = .returned (.agg #[.int .i64 c, .int .i64 n, .slice none 0 0, vm]) ∧ w'.ownsRow w.heap.size 54 2 vm met.length (met.flatMap Sw.pairCells) ∧
  (∃ F', Gam w' F' b s ∧ (∀ z, F' z → F z ∨ w.heap.size ≤ z) ∧ ∀ z, vm.ownBlock = some z → ¬ F' z) ∧ Kept F w w'
theorem Post.toM {w w' : World} {F : Nat → Prop} {b : Nat} {s : Gp} {c n : Int} {e : Ending} (h : Post w F b s c n e w') : PostM w F b s c n [] e w' := by
 obtain ⟨rfl, ⟨F', h1, h2⟩, h3⟩ := h
 exact ⟨_, rfl, World.ownsRow_nil _ _ _ _, ⟨F', h1, h2, fun z hz => by cases hz⟩, h3⟩
attribute [local go_sem ↓] Go.wp_at_zero Go.wp_at_succ
set_option maxHeartbeats 4000000 in
set_option maxRecDepth 100000 in
theorem gstep_any {F : Nat → Prop} {b : Nat} {s : Gp} {w : World} (hG : Gam w F b s) (hg : GoodG s) (n : Int) :
  Calls Tryz.prog 37 #[.pointer (some ⟨b, 0, none⟩), .int .i64 n] w
   (PostM w F b { s with now := (goW s.now n).1 } (goW s.now n).2.code (goW s.now n).2.n (goW s.now n).2.met) := by
 have HGM := St.hid hG
 have hRPW := St.hid (Rp.rowIs4 w 0 0 (.slice none 0 0) (.slice none 0 0) 31)
 have HBW := St.hid (bal (Below.refl _ w) (.cells #[.int .i64 0, .int .i64 0, .slice none 0 0, .slice none 0 0] 31))
 by_cases hn : n < 1 ∨ 8 < n
 ·have e : goW s.now n = (s.now, no 2) := by unfold goW; rw [if_pos hn]
  rw [e]
  refine Calls.mono (R := Post w F b s 2 0) ?_ (fun _ _ h => h.toM)
  clear hG
  rcases (show n < 1 ∨ (1 ≤ n ∧ 8 < n) by omega) with h1 | ⟨h1, h2⟩
  ·go_enter Tryz.func37, Tryz.ntmps37
   go_wp2_with fail
   refine (refused_any 2 _).mono ?_
   rintro e w2 ⟨rfl, hb2⟩
   have hRP2 := St.hid (rowIs_below hRPW.out hb2)
   have HB2 := St.hid (bcall HBW.out hb2)
   clear hb2
   obtain ⟨p0, p1, p2, p3⟩ := Rp.rcells hRP2.out
   have p4 := hRP2.out.frozen 0
   have p5 := hRP2.out.frozen 1
   have p6 := hRP2.out.frozen 2
   have p7 := hRP2.out.frozen 3
   go_wp2_with fail
   obtain ⟨q0, q1, q2, q3⟩ := four (put4 hRP2.out (.int .i64 2) (.int .i64 0) (.slice none 0 0) (.slice none 0 0))
   exact bodyPost_ret (v := .agg #[.int .i64 2, .int .i64 0, .slice none 0 0, .slice none 0 0]) (by simp [results, Tryz.results37, go_sem, q0, q1, q2, q3]) rfl (post_same HGM.out HB2.out (by omega) _ _ _ _)
  ·go_enter Tryz.func37, Tryz.ntmps37
   go_wp2_with fail
   refine (refused_any 2 _).mono ?_
   rintro e w2 ⟨rfl, hb2⟩
   have hRP2 := St.hid (rowIs_below hRPW.out hb2)
   have HB2 := St.hid (bcall HBW.out hb2)
   clear hb2
   obtain ⟨p0, p1, p2, p3⟩ := Rp.rcells hRP2.out
   have p4 := hRP2.out.frozen 0
   have p5 := hRP2.out.frozen 1
   have p6 := hRP2.out.frozen 2
   have p7 := hRP2.out.frozen 3
   go_wp2_with fail
   obtain ⟨q0, q1, q2, q3⟩ := four (put4 hRP2.out (.int .i64 2) (.int .i64 0) (.slice none 0 0) (.slice none 0 0))
   exact bodyPost_ret (v := .agg #[.int .i64 2, .int .i64 0, .slice none 0 0, .slice none 0 0]) (by simp [results, Tryz.results37, go_sem, q0, q1, q2, q3]) rfl (post_same HGM.out HB2.out (by omega) _ _ _ _)
 ·obtain ⟨N, rfl⟩ : ∃ N : Nat, n = N := ⟨n.toNat, by omega⟩
  have hN1 : 1 ≤ N := by omega
  have hN8 : N ≤ 8 := by omega
  have e : goW s.now N = (stepsW N s.now, ⟨0, (stepsM N s.now).length, [], stepsM N s.now⟩) := by unfold goW; rw [if_neg hn]; simp
  rw [e]
  clear e hn
  obtain ⟨i79, hi79, hz79, hs79, hb79⟩ := info_parts Sw.info79
  obtain ⟨v, vs, sv, Fs, hG⟩ := hG
  have hbz := hG.lt b hG.own
  have HG := St.hid hG
  have HGD := St.hid hg
  obtain ⟨a, n, c, rfl⟩ := hG.now.one
  obtain ⟨x0, x1, x2, x3, x4, -, -⟩ := gcells hG.row
  have HFs : Hid (∀ z, Fs z → z < w.heap.size) := St.hid (fun z hz => hG.lt z (hG.inF z hz).1)
  clear hG hg
  go_enter Tryz.func37, Tryz.ntmps37
  go_wp2_with fail
  have hWW := St.hid (rowIs5 (w.alloc (.cells #[.int .i64 0, .int .i64 0, .slice none 0 0, .slice none 0 0] 31)) (.slice a n c) s.now.next s.now.fall s.now.wide s.now.high 45)
  rw [World.size_alloc] at hWW
  have hRW := St.hid (hRPW.out.alloc (.cells #[.slice a n c, .int .i64 s.now.next, .int .i64 s.now.fall, .int .i64 s.now.wide, .int .i64 s.now.high] 45))
  have HB0 := St.hid (bal HBW.out (.cells #[.slice a n c, .int .i64 s.now.next, .int .i64 s.now.fall, .int .i64 s.now.wide, .int .i64 s.now.high] 45))
  clear hRPW HBW x0 x1 x2 x3 x4
  go_loopw [6, 22] (fun u i wr => ∃ (k : Nat) (vk : Value) (Fk : Nat → Prop) (uu : Value), k ≤ N ∧ i = .int .i64 k ∧ uu = u ∧ Hid (wr.rowIs w.heap.size 31 4 (Rp.rcell 0 0 (.slice none 0 0) (.slice none 0 0))) ∧ Hid (wr.rowIs (w.heap.size + 1) 45 5 (wcell vk s.now.next s.now.fall s.now.wide s.now.high)) ∧
   Hid (Sto wr Fk vk (stepsW k s.now).L) ∧ Hid (∀ z, Fk z → Fs z ∨ w.heap.size + 1 + 1 ≤ z) ∧ Hid (wr.ownsRow (w.heap.size + 1 + 1) 54 2 uu (stepsM k s.now).length ((stepsM k s.now).flatMap Sw.pairCells)) ∧ Hid (∀ z, uu.ownBlock = some z → ¬ Fk z) ∧ Hid (Below w.heap.size w wr) ∧ w.heap.size + 1 + 1 ≤ wr.heap.size) (fun _ i _ => N - (intOf i).toNat)
  case atStart => exact ⟨0, _, Fs, _, Nat.zero_le _, rfl, rfl, hRW, hWW, St.hid (HG.out.now.below HB0.out), St.hid (fun z hz => Or.inl hz), St.hid (World.ownsRow_nil _ _ _ _), St.hid (fun z hz => by cases hz), HB0, by simp⟩
  case round =>
   obtain ⟨k, vk, Fk, uu, hk, rfl, rfl, hrp, hww, hst, hFk, hown, hsep, hbl, hzr⟩ := hrel
   have hzs := hbl.out.size
   obtain ⟨ak, nk, ck, rfl⟩ := hst.out.one
   by_cases hlt : k < N
   ·have HGW : Hid (GoodWd s.now.next s.now.fall s.now.wide s.now.high (stepsW k s.now).L) := St.hid (by
     have h := HGD.out.now.steps k
     obtain ⟨e1, e2, e3, e4⟩ := stepsW_same k s.now
     have h1 := h.l
     have h2 := h.fall
     have h3 := h.wide
     have h4 := h.high
     rw [e1] at h1
     rw [e2] at h2
     rw [e3] at h3
     rw [e4] at h4
     exact ⟨h1, h2, h3, h4⟩)
    have hl1 := stepsM_len HGD.out.now k
    have hl2 := stepM_len (HGD.out.now.steps k)
    have HM : Hid (Wd.stepG (stepsW k s.now).L s.now.fall s.now.wide s.now.high = Wd.stepG (stepsW k s.now).L (stepsW k s.now).fall (stepsW k s.now).wide (stepsW k s.now).high) := St.hid (by
     obtain ⟨e1, e2, e3, e4⟩ := stepsW_same k s.now
     rw [e2, e3, e4])
    obtain ⟨y0, y1, y2, y3, y4, yf0, yf1, yf2, yf3, yf4⟩ := wcells hww.out
    go_wp2_with fail
    refine (step_any s.now.next s.now.fall s.now.wide s.now.high hst.out).mono ?_
    rintro e w1 ⟨⟨a1, n1, c1, um, ec, rfl, hor⟩, hb1⟩
    rcases hor with ⟨hno, -⟩ | ⟨-, rfl, ⟨F1, hs1, hF1⟩, hum⟩
    ·exact absurd HGW.out hno
    have HL1 : Hid (withRows (stepsW k s.now).L (Wd.stepG (stepsW k s.now).L s.now.fall s.now.wide s.now.high).1 = (stepsW (k + 1) s.now).L) := St.hid (by rw [HM.out]; rfl)
    have HM1 : Hid (stepsM (k + 1) s.now = stepsM k s.now ++ (Wd.stepG (stepsW k s.now).L s.now.fall s.now.wide s.now.high).2) := St.hid (by rw [HM.out]; rfl)
    rw [HL1.out] at hs1
    have HM2 : Hid ((Wd.stepG (stepsW k s.now).L s.now.fall s.now.wide s.now.high).2.length ≤ 100) := St.hid (by rw [HM.out]; exact hl2)
    generalize (Wd.stepG (stepsW k s.now).L s.now.fall s.now.wide s.now.high).2 = ms at hum HM1 HM2
    clear HM HL1 HGW hl2
    have HS1 := St.hid hs1
    have HF1 := St.hid hF1
    have HUM := St.hid hum
    have hrp1 := St.hid (rowIs_below hrp.out hb1)
    have hww1 := St.hid (rowIs_below hww.out hb1)
    have hown1 := St.hid (owns_below hown.out hb1)
    have HB1 := St.hid (bcall hbl.out hb1)
    have hz1 := hb1.size
    clear hb1 hs1 hF1 hum y0 y1 y2 y3 y4 yf0 yf1 yf2 yf3 yf4 hrp hww hst
    obtain ⟨y0, y1, y2, y3, y4, yf0, yf1, yf2, yf3, yf4⟩ := wcells hww1.out
    have hne : ¬ (w1.heap.size = w.heap.size + 1) := by omega
    have hne' : ¬ (w.heap.size + 1 = w1.heap.size) := by omega
    have hlw : w.heap.size + 1 < w1.heap.size := by omega
    have HLN : Hid ((stepsM k s.now).length ≤ 800) := St.hid (by omega)
    have hu7 := HUM.out
    have HG5 := St.hid (grown5 w1 (w.heap.size + 1) (.slice a1 n1 c1) s.now.next s.now.fall s.now.wide s.now.high)
    have hrp2 := St.hid ((rowIs_grown hrp1.out HG5.out (by simp)).alloc (.cells #[.slice a1 n1 c1, .int .i64 s.now.next, .int .i64 s.now.fall, .int .i64 s.now.wide, .int .i64 s.now.high] 45))
    have hww2 := St.hid ((row5 hww1.out (.slice a1 n1 c1) s.now.next s.now.fall s.now.wide s.now.high).alloc (.cells #[.slice a1 n1 c1, .int .i64 s.now.next, .int .i64 s.now.fall, .int .i64 s.now.wide, .int .i64 s.now.high] 45))
    have HS2 := St.hid ((HS1.out.put5 (b := w.heap.size + 1) (fun hc => by have := HF1.out _ hc; omega) (.slice a1 n1 c1) s.now.next s.now.fall s.now.wide s.now.high).below (bal (Below.refl _ _) (.cells #[.slice a1 n1 c1, .int .i64 s.now.next, .int .i64 s.now.fall, .int .i64 s.now.wide, .int .i64 s.now.high] 45)))
    have hown2 := St.hid ((owns_kept hown1.out HG5.out (fun z hz e => by cases e; have := (hown1.out.lt _ hz).1; omega)).alloc (.cells #[.slice a1 n1 c1, .int .i64 s.now.next, .int .i64 s.now.fall, .int .i64 s.now.wide, .int .i64 s.now.high] 45))
    have HUM2 := St.hid ((owns_kept HUM.out HG5.out (fun z hz e => by cases e; have := (HUM.out.lt _ hz).1; omega)).alloc (.cells #[.slice a1 n1 c1, .int .i64 s.now.next, .int .i64 s.now.fall, .int .i64 s.now.wide, .int .i64 s.now.high] 45))
    have HB2 := St.hid (bal (below_grown HB1.out HG5.out HB1.out.size (by omega)) (.cells #[.slice a1 n1 c1, .int .i64 s.now.next, .int .i64 s.now.fall, .int .i64 s.now.wide, .int .i64 s.now.high] 45))
    have hz2 : w1.heap.size + 1 = ((put5 w1 (w.heap.size + 1) (.slice a1 n1 c1) s.now.next s.now.fall s.now.wide s.now.high).alloc (.cells #[.slice a1 n1 c1, .int .i64 s.now.next, .int .i64 s.now.fall, .int .i64 s.now.wide, .int .i64 s.now.high] 45)).heap.size := by simp [World.setCell]
    obtain ⟨hul, hu0 | ⟨gm, cm, cur, hu1, -⟩⟩ := hu7
    ·obtain ⟨rfl, h0⟩ := hu0
     have hms : ms = [] := List.length_eq_zero_iff.1 h0
     subst hms
     go_wp2_with (at_builtin; refine wpList_append_own_none rfl _ _ 29 rfl (w.heap.size + 1 + 1) 54 i79 2 Tryz.underlying29 hi79 _ _ _ rfl hown2.out rfl ?_)
     go_roundw
     case rel =>
      refine ⟨k + 1, _, F1, uu, by omega, by go_num, rfl, hrp2, hww2, HS2, St.hid (fun z hz => Or.inr (by have := HF1.out z hz; omega)), ?_, St.hid (fun z hz hc => by have := (hown.out.lt z hz).2; have := HF1.out z hc; omega), HB2, by simp [World.setCell]; omega⟩
      rw [HM1.out, List.append_nil]
      exact hown2
     case measure => simp [intOf]; omega
    ·subst hu1
     have hl2 := HM2.out
     have hl3 := HLN.out
     go_wp2_with (at_builtin; refine wpList_append_own_at _ rfl _ _ 29 rfl (w.heap.size + 1 + 1) 54 i79 (.agg #[.int .i64 0, .int .i64 0]) 2 16 Tryz.underlying29 hi79 hz79 hs79 hb79 rfl (by decide) _ _ _ rfl hown2.out ⟨gm, 0, none⟩ ms.length cm (ms.flatMap Sw.pairCells) rfl ?c1 ?c2 ?c3 ?c4 ?c5 ?c6 ?_)
     case c1 => exact hul
     case c2 => exact HUM2.out.cells rfl
     case c3 => intro u hu; simp [Sw.pairCells] at hu; obtain ⟨_, _, _, rfl | rfl⟩ := hu <;> rfl
     case c4 => unfold maxLen; omega
     case c5 => omega
     case c6 => simp [World.setCell]; omega
     intro v' w3 hown3 hg3 _ hat3
     have hub : ∀ z, uu.ownBlock = some z → w.heap.size + 1 + 1 ≤ z ∧ z < wr.heap.size := fun z hz => hown.out.lt z hz
     have e0 : uu.ownBlock ≠ some w.heap.size := fun e => by have := (hub _ e).1; omega
     have e1 : uu.ownBlock ≠ some (w.heap.size + 1) := fun e => by have := (hub _ e).1; omega
     have HUB := St.hid hub
     have HAT := St.hid hat3
     have HO3 := St.hid hown3
     have HG3 := St.hid hg3
     have hz3 := hg3.size
     simp [World.setCell] at hz3
     clear hown3 hg3 hub hat3
     go_wp2_with fail
     go_roundw
     case rel =>
      refine ⟨k + 1, _, F1, v', by omega, by go_num, rfl, St.hid (rowIs_grown hrp2.out HG3.out e0), St.hid (rowIs_grown hww2.out HG3.out e1), St.hid (HS2.out.keep HG3.out.size (fun z hz => HG3.out.block z (HS2.out.lt hz) (fun e => ?_))), St.hid (fun z hz => Or.inr (by have := HF1.out z hz; omega)), ?_, St.hid (fun z hz hc => ?_), St.hid (below_grown' HB2.out HG3.out (Nat.le_refl _) ?_), by omega⟩
      ·have := (HUB.out z e.symm).2; have := HF1.out z hz; omega
      ·have h3 := HO3.out
       rw [HM1.out, List.length_append, List.flatMap_append]
       exact St.hid h3
      ·rcases HAT.out with h | h
       ·rw [h] at hz; have := (HUB.out z hz).2; have := HF1.out z hc; omega
       ·rw [h] at hz
        have e : ((put5 w1 (w.heap.size + 1) (.slice a1 n1 c1) s.now.next s.now.fall s.now.wide s.now.high).alloc (.cells #[.slice a1 n1 c1, .int .i64 s.now.next, .int .i64 s.now.fall, .int .i64 s.now.wide, .int .i64 s.now.high] 45)).heap.size = z := Option.some.inj hz
        have := HS2.out.lt hc
        omega
      ·intro z hz; have := (HUB.out z hz).1; omega
     case measure => simp [intOf]; omega
   ·have hke : k = N := by omega
    subst hke
    obtain ⟨y0, y1, y2, y3, y4, yf0, yf1, yf2, yf3, yf4⟩ := wcells hww.out
    have HGR := St.hid (HG.out.below hbl.out)
    obtain ⟨g0, g1, g2, g3, g4, g5, g6⟩ := gfrozen HGR.out.row
    obtain ⟨x0, x1, x2, x3, x4, -, -⟩ := gcells HGR.out.row
    obtain ⟨p0, p1, p2, p3⟩ := Rp.rcells hrp.out
    have p4 := hrp.out.frozen 0
    have p5 := hrp.out.frozen 1
    have p6 := hrp.out.frozen 2
    have p7 := hrp.out.frozen 3
    have hbw : b < wr.heap.size := by omega
    have hbn : ¬ (b = w.heap.size) := by omega
    have hbn' : ¬ (w.heap.size = b) := by omega
    have hwz : w.heap.size < wr.heap.size := by omega
    obtain ⟨au, cu, rfl, -⟩ := Sw.owns_slice hown.out
    go_wp2_with fail
    have HG5 := St.hid (grown5 wr b (.slice ak nk ck) s.now.next s.now.fall s.now.wide s.now.high)
    have hrp2 := St.hid (rowIs_grown hrp.out HG5.out (by simp; omega))
    obtain ⟨q0, q1, q2, q3⟩ := four (put4 hrp2.out (.int .i64 0) (.int .i64 (stepsM k s.now).length) (.slice none 0 0) (.slice au (stepsM k s.now).length cu))
    refine bodyPost_ret (v := .agg #[.int .i64 0, .int .i64 (stepsM k s.now).length, .slice none 0 0, .slice au (stepsM k s.now).length cu]) (by simp [results, Tryz.results37, go_sem, q0, q1, q2, q3]) rfl ⟨_, rfl, ?_, ⟨fun z => F z ∨ Fk z, ?_, fun z hz => ?_, fun z hz hc => ?_⟩, ?_⟩
    ·refine owns_mono (owns_kept (owns_kept hown.out HG5.out (fun z hz e => ?_)) (grown4 _ w.heap.size _ _ _ _) (fun z hz e => ?_)) (by omega)
     ·cases e; have := (hown.out.lt _ hz).1; omega
     ·cases e; have := (hown.out.lt _ hz).1; omega
    ·have hs : stepsW k s.now = ⟨(stepsW k s.now).L, s.now.next, s.now.fall, s.now.wide, s.now.high⟩ := by
      obtain ⟨e1, e2, e3, e4⟩ := stepsW_same k s.now
      rw [← e1, ← e2, ← e3, ← e4]
     rw [hs]
     refine Gam.grown (HGR.out.setW hst.out (fun z hz => ?_) s.now.next s.now.fall s.now.wide s.now.high) (grown4 _ w.heap.size _ _ _ _) (fun hc => ?_)
     ·rcases hFk.out z hz with h | h
      ·exact Or.inl h
      ·exact Or.inr (fun hc => by have := HG.out.lt z hc; omega)
     ·rcases hc with h | h
      ·have := HG.out.lt _ h; omega
      ·rcases hFk.out _ h with h | h
       ·have := HFs.out _ h; omega
       ·omega
    ·rcases hz with h | h
     ·exact Or.inl h
     ·rcases hFk.out _ h with h | h
      ·exact Or.inl (HG.out.inF z h).1
      ·exact Or.inr (by omega)
    ·rcases hc with h | h
     ·have := HG.out.lt _ h; have := (hown.out.lt _ hz).1; omega
     ·exact hsep.out z hz h
    ·exact kept_grown ((Kept.below hbl.out).grown HG5.out (fun z e => Or.inl (by cases e; exact HG.out.own))) (grown4 _ w.heap.size _ _ _ _) (Nat.le_refl _)
end Gm
namespace Gm
open Num St Wd
open Go.ChangeShapes Go.WideShapes Go.ChangeAt Go.RowKit
def loadW (s : Gp) (n : Int) : Wp × Rep := if 0 ≤ n ∧ n < s.saves.length then (s.saves.getD n.toNat s.now, no 0) else (s.now, no 3)
theorem GamP.save_at {W : World} {F : Nat → Prop} {b : Nat} {s : Gp} {v vs : Value} {sv : List Value} {Fs : Nat → Prop} (h : GamP W F b s v vs sv Fs) {k : Nat} (hk : k < s.saves.length) :
  ∃ g c u x, vs = .slice (some ⟨g, 0, none⟩) s.saves.length c ∧ s.saves[k]? = some x ∧ Sto W Fs u x.L ∧ g < W.heap.size ∧
   W.cell? ⟨g, k * 5, none⟩ = some u ∧ W.cell? ⟨g, k * 5 + 1, none⟩ = some (.int .i64 x.next) ∧ W.cell? ⟨g, k * 5 + 2, none⟩ = some (.int .i64 x.fall) ∧ W.cell? ⟨g, k * 5 + 3, none⟩ = some (.int .i64 x.wide) ∧ W.cell? ⟨g, k * 5 + 4, none⟩ = some (.int .i64 x.high) := by
 obtain ⟨g, c, hv⟩ : ∃ g c, vs = .slice (some ⟨g, 0, none⟩) s.saves.length c := by
  rcases h.svs.2 with ⟨_, h0⟩ | ⟨g, c, _, e, _⟩
  ·omega
  ·exact ⟨g, c, e⟩
 subst hv
 have hx := List.getElem?_eq_getElem hk
 have hu := List.getElem?_eq_getElem (show k < sv.length by rw [h.len]; exact hk)
 have hz : (sv.zip s.saves)[k]? = some (sv[k]'(by rw [h.len]; exact hk), s.saves[k]) := by
  rw [List.getElem?_zip_eq_some]; exact ⟨hu, hx⟩
 have cell : ∀ i, i < 5 → W.cell? ⟨g, k * 5 + i, none⟩ = (saveCells (sv.zip s.saves))[k * 5 + i]? := fun i hi => h.svs.cellAt _ (by omega)
 have get : ∀ (l : List (Value × Wp)) (k i : Nat) (p : Value × Wp), l[k]? = some p → i < 5 → (saveCells l)[k * 5 + i]? = [p.1, .int .i64 p.2.next, .int .i64 p.2.fall, .int .i64 p.2.wide, .int .i64 p.2.high][i]? := by
  intro l
  induction l with
  | nil => intro k i p h; simp at h
  | cons q l ih =>
   intro k i p h hi
   have e : saveCells (q :: l) = [q.1, .int .i64 q.2.next, .int .i64 q.2.fall, .int .i64 q.2.wide, .int .i64 q.2.high] ++ saveCells l := by simp [saveCells]
   rw [e]
   cases k with
   | zero =>
    simp at h
    subst h
    rw [Nat.zero_mul, Nat.zero_add, List.getElem?_append_left (by simpa using hi)]
   | succ k =>
    have e2 : (k + 1) * 5 + i = 5 + (k * 5 + i) := by omega
    rw [e2, List.getElem?_append_right (by simp)]
    simpa using ih k i p (by simpa using h) hi
 refine ⟨g, c, _, _, rfl, hx, h.all k _ _ hu hx, (h.svs.lt g rfl).2, ?_, ?_, ?_, ?_, ?_⟩
 ·have e := cell 0 (by omega); rw [get _ k 0 _ hz (by omega)] at e; exact e
 ·have e := cell 1 (by omega); rw [get _ k 1 _ hz (by omega)] at e; exact e
 ·have e := cell 2 (by omega); rw [get _ k 2 _ hz (by omega)] at e; exact e
 ·have e := cell 3 (by omega); rw [get _ k 3 _ hz (by omega)] at e; exact e
 ·have e := cell 4 (by omega); rw [get _ k 4 _ hz (by omega)] at e; exact e
attribute [local go_sem ↓] Go.wp_at_zero Go.wp_at_succ
set_option maxHeartbeats 4000000 in
set_option maxRecDepth 100000 in
theorem gload_any {F : Nat → Prop} {b : Nat} {s : Gp} {w : World} (hG : Gam w F b s) (hg : GoodG s) (n : Int) :
  Calls Tryz.prog 39 #[.pointer (some ⟨b, 0, none⟩), .int .i64 n] w
   (Post w F b { s with now := (loadW s n).1 } (loadW s n).2.code (loadW s n).2.n) := by
 have HGM := St.hid hG
 have hRPW := St.hid (Rp.rowIs4 w 0 0 (.slice none 0 0) (.slice none 0 0) 31)
 have HBW := St.hid (bal (Below.refl _ w) (.cells #[.int .i64 0, .int .i64 0, .slice none 0 0, .slice none 0 0] 31))
 obtain ⟨v, vs, sv, Fs, hG⟩ := hG
 have hbz := hG.lt b hG.own
 have HG := St.hid hG
 have hfew := hg.few
 obtain ⟨asv, csv, rfl, -⟩ := Sw.owns_slice hG.svs
 obtain ⟨x0, x1, x2, x3, x4, x5, x6⟩ := gcells hG.row
 clear hG hg
 by_cases h0 : n < 0
 ·have e : loadW s n = (s.now, no 3) := by unfold loadW; rw [if_neg (by omega)]
  rw [e]
  go_enter Tryz.func39, Tryz.ntmps39
  go_wp2_with fail
  refine (refused_any 3 _).mono ?_
  rintro e w2 ⟨rfl, hb2⟩
  have hRP2 := St.hid (rowIs_below hRPW.out hb2)
  have HB2 := St.hid (bcall HBW.out hb2)
  clear hb2
  obtain ⟨p0, p1, p2, p3⟩ := Rp.rcells hRP2.out
  have p4 := hRP2.out.frozen 0
  have p5 := hRP2.out.frozen 1
  have p6 := hRP2.out.frozen 2
  have p7 := hRP2.out.frozen 3
  go_wp2_with fail
  obtain ⟨q0, q1, q2, q3⟩ := four (put4 hRP2.out (.int .i64 3) (.int .i64 0) (.slice none 0 0) (.slice none 0 0))
  exact bodyPost_ret (v := .agg #[.int .i64 3, .int .i64 0, .slice none 0 0, .slice none 0 0]) (by simp [results, Tryz.results39, go_sem, q0, q1, q2, q3]) rfl (post_same HGM.out HB2.out (by omega) _ _ _ _)
 ·by_cases h1 : n < s.saves.length
  ·obtain ⟨k, rfl⟩ : ∃ k : Nat, n = k := ⟨n.toNat, by omega⟩
   have hk : k < s.saves.length := by omega
   obtain ⟨g, cg, u, x, hvs, hx, hsto, hgl, y0, y1, y2, y3, y4⟩ := HG.out.save_at hk
   have e : loadW s k = (x, no 0) := by
    unfold loadW
    rw [if_pos (by omega)]
    simp [List.getD_eq_getElem?_getD, hx]
   rw [e]
   obtain ⟨rfl, -, rfl⟩ : asv = some ⟨g, 0, none⟩ ∧ True ∧ csv = cg := by
    injection hvs with h1 h2 h3
    exact ⟨h1, trivial, h3⟩
   obtain ⟨au, nu, cu, rfl⟩ := hsto.one
   have HST := St.hid hsto
   obtain ⟨m, hm⟩ : ∃ m, m = s.saves.length := ⟨_, rfl⟩
   rw [← hm] at x5 hfew h1 hk
   clear hsto e hvs hx hm
   go_enter Tryz.func39, Tryz.ntmps39
   go_wp2_with fail
   refine (copied_any x.next x.fall x.wide x.high (HST.out.below HBW.out)).mono ?_
   rintro e w1 ⟨⟨a1, n1, c1, rfl, F1, hs1, hF1⟩, hb1⟩
   have hrp := St.hid (rowIs_below hRPW.out hb1)
   have HB1 := St.hid (bcall HBW.out hb1)
   have HGR := St.hid (HG.out.below HB1.out)
   have HS1 := St.hid hs1
   have HF1 : Hid (∀ z, F1 z → w.heap.size + 1 ≤ z) := St.hid (fun z hz => by have := hF1 z hz; simpa using this)
   have hz1 := hb1.size
   simp at hz1
   clear hb1 hs1 hF1 x0 x1 x2 x3 x4 x5 x6 y0 y1 y2 y3 y4
   obtain ⟨g0, g1, g2, g3, g4, g5, g6⟩ := gfrozen HGR.out.row
   obtain ⟨x0, x1, x2, x3, x4, -, -⟩ := gcells HGR.out.row
   obtain ⟨p0, p1, p2, p3⟩ := Rp.rcells hrp.out
   have p4 := hrp.out.frozen 0
   have p5 := hrp.out.frozen 1
   have p6 := hrp.out.frozen 2
   have p7 := hrp.out.frozen 3
   have hbw : b < w1.heap.size := by omega
   have hbn : ¬ (b = w.heap.size) := by omega
   have hbn' : ¬ (w.heap.size = b) := by omega
   have hwz : w.heap.size < w1.heap.size := by omega
   go_wp2_with fail
   have HG5 := St.hid (grown5 w1 b (.slice a1 n1 c1) x.next x.fall x.wide x.high)
   have hrp2 := St.hid (rowIs_grown hrp.out HG5.out (by simp; omega))
   obtain ⟨q0, q1, q2, q3⟩ := four (put4 hrp2.out (.int .i64 0) (.int .i64 0) (.slice none 0 0) (.slice none 0 0))
   refine bodyPost_ret (v := .agg #[.int .i64 0, .int .i64 0, .slice none 0 0, .slice none 0 0]) (by simp [results, Tryz.results39, go_sem, q0, q1, q2, q3]) rfl ⟨rfl, ⟨fun z => F z ∨ F1 z, ?_, fun z hz => ?_⟩, ?_⟩
   ·refine Gam.grown (HGR.out.setW HS1.out (fun z hz => ?_) x.next x.fall x.wide x.high) (grown4 _ w.heap.size _ _ _ _) (fun hc => ?_)
    ·exact Or.inr (fun hc => by have := HG.out.lt z hc; have := HF1.out z hz; omega)
    ·rcases hc with h | h
     ·have := HG.out.lt _ h; omega
     ·have := HF1.out _ h; omega
   ·rcases hz with h | h
    ·exact Or.inl h
    ·exact Or.inr (by have := HF1.out z h; omega)
   ·exact kept_grown ((Kept.below HB1.out).grown HG5.out (fun z e => Or.inl (by cases e; exact HG.out.own))) (grown4 _ w.heap.size _ _ _ _) (Nat.le_refl _)
  ·have e : loadW s n = (s.now, no 3) := by unfold loadW; rw [if_neg (by omega)]
   rw [e]
   obtain ⟨m, hm⟩ : ∃ m, m = s.saves.length := ⟨_, rfl⟩
   rw [← hm] at x5 hfew h1
   clear e hm
   go_enter Tryz.func39, Tryz.ntmps39
   go_wp2_with fail
   refine (refused_any 3 _).mono ?_
   rintro e w2 ⟨rfl, hb2⟩
   have hRP2 := St.hid (rowIs_below hRPW.out hb2)
   have HB2 := St.hid (bcall HBW.out hb2)
   clear hb2
   obtain ⟨p0, p1, p2, p3⟩ := Rp.rcells hRP2.out
   have p4 := hRP2.out.frozen 0
   have p5 := hRP2.out.frozen 1
   have p6 := hRP2.out.frozen 2
   have p7 := hRP2.out.frozen 3
   go_wp2_with fail
   obtain ⟨q0, q1, q2, q3⟩ := four (put4 hRP2.out (.int .i64 3) (.int .i64 0) (.slice none 0 0) (.slice none 0 0))
   exact bodyPost_ret (v := .agg #[.int .i64 3, .int .i64 0, .slice none 0 0, .slice none 0 0]) (by simp [results, Tryz.results39, go_sem, q0, q1, q2, q3]) rfl (post_same HGM.out HB2.out (by omega) _ _ _ _)
end Gm
namespace Gm
open Num St Wd
open Go.ChangeShapes Go.WideShapes Go.ChangeAt Go.RowKit
theorem wp_append_at {P : Program} (w : World) {o : Oper} {a : Act} {K : Act → World → Prop} {Q : Exit → Act → World → Prop} (s x : Operand) (t : TypeId)
  (ho : o.op = .call { callee := .builtin .append, args := #[s, x], argTypes := #[t, t] })
  (base : Nat) (e : TypeId) (i : TypeInfo) (z : Value) (size bytes : Nat) (ht : P.underlying t = some (.slice e)) (hi : P.info? e = some i) (hz : i.zero = some z)
  (hsize : i.size = size) (hby : i.bytes = bytes) (hzs : z.cells.size = size) (hsz : 0 < size)
  (v : Value) (n : Nat) (xs : List Value) (hs : a.eval s = v) (hown : w.ownsRow base e size v n xs)
  (ad : Addr) (m c : Nat) (news : List Value) (hx : a.eval x = .slice (some ad) m c) (hl : news.length = m * size) (hnews : ∀ j u, news[j]? = some u → w.cell? (ad.add j) = some u) (h1 : ∀ u ∈ news, u.oneCell' = true)
  (h63 : n + m ≤ maxLen) (hbytes : (n + m) * bytes ≤ 140737488355328) (hbase : base ≤ w.heap.size)
  (h : ∀ v' w', w'.ownsRow base e size v' (n + m) (xs ++ news) → w.grownBy w' v.ownBlock → (v'.ownBlock = v.ownBlock ∨ v'.ownBlock = some w.heap.size) → K (a.put o.dst v') w') : o.wp P a w K Q := by
 obtain ⟨v', w', hr, h2, h3, h4, h5⟩ := run_append_own_at (P := P) w base t o.type e i z size bytes ht hi hz hsize hby hzs hsz v n xs hown ad m c news hl hnews h1 h63 hbytes hbase
 unfold Oper.wp execOp
 simp only [ho, resolve, invoke, builtin, Sem.run_bind, Sem.run_pure, Result.andThen_ok, List.map_toArray, List.map_cons, List.map_nil, hs, hx, hr]
 exact h v' w' h2 h3 h5
def saveG (s : Gp) : Gp × Rep := if 3 ≤ s.saves.length then (s, no 5) else ({ s with saves := s.saves ++ [s.now] }, ⟨0, s.saves.length, [], []⟩)
theorem zip_snoc {A B : Type} : ∀ (l : List A) (m : List B) (x : A) (y : B), l.length = m.length → (l ++ [x]).zip (m ++ [y]) = l.zip m ++ [(x, y)] := by
 intro l
 induction l with
 | nil => intro m x y h; cases m <;> simp at h ⊢
 | cons a l ih =>
  intro m x y h
  cases m with
  | nil => simp at h
  | cons b m => simp at h ⊢; exact ih m x y h
structure Mid (W : World) (s : Gp) (asv : Option Addr) (m csv : Nat) (sv : List Value) (W1 : World) (v' : Value) (u : Value) (F1 : Nat → Prop) : Prop where
 form : ∃ a' c', v' = .slice a' (m + 1) c'
 own : W1.ownsRow 0 45 5 v' (m + 1) (saveCells (sv.zip s.saves) ++ [u, .int .i64 s.now.next, .int .i64 s.now.fall, .int .i64 s.now.wide, .int .i64 s.now.high])
 via : ∃ Wm, Below W.heap.size W Wm ∧ Wm.grownBy W1 (Value.slice asv m csv).ownBlock
 sto : Sto W1 F1 u s.now.L
 new : ∀ z, F1 z → W.heap.size ≤ z
 at_ : v'.ownBlock = (Value.slice asv m csv).ownBlock ∨ ∃ z, v'.ownBlock = some z ∧ W.heap.size ≤ z ∧ ¬ F1 z
theorem GamP.grownRow {W Wm W1 : World} {F : Nat → Prop} {b : Nat} {s : Gp} {v vs : Value} {sv : List Value} {Fs : Nat → Prop} (h : GamP W F b s v vs sv Fs) (hb : Below W.heap.size W Wm) (hg : Wm.grownBy W1 vs.ownBlock) : W1.rowIs b 84 7 (gcell v s.now vs s.acts) :=
 rowIs_grown (rowIs_below h.row hb) hg (fun e => (h.sep b e).2.1 rfl)
theorem GamP.addSave {W W1 : World} {F F1 : Nat → Prop} {b : Nat} {s : Gp} {v v' u : Value} {sv : List Value} {Fs : Nat → Prop} {asv : Option Addr} {m csv : Nat} (h : GamP W F b s v (.slice asv m csv) sv Fs) (hm : m = s.saves.length) (hM : Mid W s asv m csv sv W1 v' u F1) :
  Gam (W1.setCell ⟨b, 5, none⟩ v') (fun z => F z ∨ F1 z ∨ v'.ownBlock = some z) b { s with saves := s.saves ++ [s.now] } := by
 obtain ⟨Wm, hbm, hg⟩ := hM.via
 have hbz := h.lt b h.own
 have hv'b : ∀ z, v'.ownBlock = some z → z ≠ b ∧ ¬ Fs z ∧ ¬ F1 z := fun z hz => by
  rcases hM.at_ with e | ⟨y, e, h1, h2⟩
  ·rw [e] at hz
   exact ⟨(h.sep z hz).2.1, (h.sep z hz).2.2, fun hc => by have := h.lt z (h.sep z hz).1; have := hM.new z hc; omega⟩
  ·rw [e] at hz
   cases hz
   exact ⟨fun e => by omega, fun hc => by have := h.lt z (h.inF z hc).1; omega, h2⟩
 have kept : ∀ {x : Value} {L : List Tab}, Sto W Fs x L → Sto W1 Fs x L := fun hx => (hx.below hbm).keep hg.size (fun z hz => hg.block z ((hx.below hbm).lt hz) (fun e => (h.sep z e.symm).2.2 hz))
 have ltW1 : ∀ z, Fs z → z < W1.heap.size := fun z hz => (kept h.now).lt hz
 have lt2 : ∀ z, Fs z ∨ F1 z → z < W1.heap.size := fun z hz => hz.elim (ltW1 z) (fun h1 => hM.sto.lt h1)
 have hnb : ¬ (Fs b ∨ F1 b) := fun hc => hc.elim (fun h1 => (h.inF b h1).2 rfl) (fun h1 => by have := hM.new b h1; omega)
 have hgs := grown_set W1 b 5 v'
 refine ⟨v, v', sv ++ [u], fun z => Fs z ∨ F1 z, ⟨?_, ?_, ?_, ?_, ?_, ?_, Or.inl h.own, ?_, ?_⟩⟩
 ·refine ((h.grownRow hbm hg).set 5 v').congr (fun i hi => ?_)
  match i, hi with
  | 0, _ => rfl
  | 1, _ => rfl
  | 2, _ => rfl
  | 3, _ => rfl
  | 4, _ => rfl
  | 5, _ => rfl
  | 6, _ => rfl
 ·have hl : sv.length = s.saves.length := h.len
  show (W1.setCell ⟨b, 5, none⟩ v').ownsRow 0 45 5 v' (s.saves ++ [s.now]).length (saveCells ((sv ++ [u]).zip (s.saves ++ [s.now])))
  rw [zip_snoc _ _ _ _ hl]
  have e : saveCells (sv.zip s.saves ++ [(u, s.now)]) = saveCells (sv.zip s.saves) ++ [u, .int .i64 s.now.next, .int .i64 s.now.fall, .int .i64 s.now.wide, .int .i64 s.now.high] := by simp [saveCells]
  have e2 : (s.saves ++ [s.now]).length = m + 1 := by simp [hm]
  rw [e, e2]
  exact owns_kept hM.own hgs (fun z hz e => by cases e; exact (hv'b b hz).1 rfl)
 ·show (sv ++ [u]).length = (s.saves ++ [s.now]).length
  simp [h.len]
 ·exact grown_keep ((kept h.now).wide (fun z hz => Or.inl hz) lt2) hgs hnb
 ·intro i q x h1 h2
  change (s.saves ++ [s.now])[i]? = some x at h2
  by_cases hi : i < sv.length
  ·rw [List.getElem?_append_left hi] at h1
   rw [List.getElem?_append_left (by rw [← h.len]; exact hi)] at h2
   exact grown_keep ((kept (h.all i q x h1 h2)).wide (fun z hz => Or.inl hz) lt2) hgs hnb
  ·have hl := h.len
   rw [List.getElem?_append_right (by omega)] at h1
   rw [List.getElem?_append_right (by omega)] at h2
   have e : i - sv.length = 0 := by
    rcases Nat.lt_or_ge (i - sv.length) 1 with hh | hh
    ·omega
    ·rw [List.getElem?_eq_none (by simpa using hh)] at h1; cases h1
   have e2 : i - s.saves.length = 0 := by omega
   rw [e] at h1
   rw [e2] at h2
   cases h1
   cases h2
   exact grown_keep (hM.sto.wide (fun z hz => Or.inr hz) lt2) hgs hnb
 ·intro z hz
  rcases hz with h1 | h1
  ·exact ⟨Or.inl (h.inF z h1).1, (h.inF z h1).2⟩
  ·exact ⟨Or.inr (Or.inl h1), fun e => by have := hM.new z h1; omega⟩
 ·intro z hz
  exact ⟨Or.inr (Or.inr hz), (hv'b z hz).1, fun hc => hc.elim (hv'b z hz).2.1 (hv'b z hz).2.2⟩
 ·intro z hz
  have hs : (W1.setCell ⟨b, 5, none⟩ v').heap.size = W1.heap.size := by simp [World.setCell]
  rw [hs]
  have hle : W.heap.size ≤ W1.heap.size := Nat.le_trans hbm.size hg.size
  rcases hz with h1 | h1 | h1
  ·have := h.lt z h1; omega
  ·exact hM.sto.lt h1
  ·exact (hM.own.lt z h1).2
theorem info26 : (Tryz.prog.info? 45).map (fun i => (i.zero, i.size, i.bytes)) = some (some (.agg #[.slice none 0 0, .int .i64 0, .int .i64 0, .int .i64 0, .int .i64 0]), 5, 56) := by kernel_rfl
attribute [local go_sem ↓] Go.wp_at_zero Go.wp_at_succ
set_option maxHeartbeats 4000000 in
set_option maxRecDepth 100000 in
theorem gsave_any {F : Nat → Prop} {b : Nat} {s : Gp} {w : World} (hG : Gam w F b s) (hg : GoodG s) :
  Calls Tryz.prog 38 #[.pointer (some ⟨b, 0, none⟩)] w
   (Post w F b (saveG s).1 (saveG s).2.code (saveG s).2.n) := by
 have HGM := St.hid hG
 have hRPW := St.hid (Rp.rowIs4 w 0 0 (.slice none 0 0) (.slice none 0 0) 31)
 have HBW := St.hid (bal (Below.refl _ w) (.cells #[.int .i64 0, .int .i64 0, .slice none 0 0, .slice none 0 0] 31))
 obtain ⟨v, vs, sv, Fs, hG⟩ := hG
 have hbz := hG.lt b hG.own
 have HG := St.hid hG
 have hfew := hg.few
 obtain ⟨asv, csv, rfl, -⟩ := Sw.owns_slice hG.svs
 obtain ⟨a, n, c, rfl⟩ := hG.now.one
 obtain ⟨x0, x1, x2, x3, x4, x5, x6⟩ := gcells hG.row
 clear hG hg
 obtain ⟨m, hm⟩ : ∃ m, m = s.saves.length := ⟨_, rfl⟩
 by_cases h0 : 3 ≤ s.saves.length
 ·have e : saveG s = (s, no 5) := by unfold saveG; rw [if_pos h0]
  rw [e]
  rw [← hm] at x5 hfew h0
  clear e hm
  go_enter Tryz.func38, Tryz.ntmps38
  go_wp2_with fail
  refine (refused_any 5 _).mono ?_
  rintro e w2 ⟨rfl, hb2⟩
  have hRP2 := St.hid (rowIs_below hRPW.out hb2)
  have HB2 := St.hid (bcall HBW.out hb2)
  clear hb2
  obtain ⟨p0, p1, p2, p3⟩ := Rp.rcells hRP2.out
  have p4 := hRP2.out.frozen 0
  have p5 := hRP2.out.frozen 1
  have p6 := hRP2.out.frozen 2
  have p7 := hRP2.out.frozen 3
  go_wp2_with fail
  obtain ⟨q0, q1, q2, q3⟩ := four (put4 hRP2.out (.int .i64 5) (.int .i64 0) (.slice none 0 0) (.slice none 0 0))
  exact bodyPost_ret (v := .agg #[.int .i64 5, .int .i64 0, .slice none 0 0, .slice none 0 0]) (by simp [results, Tryz.results38, go_sem, q0, q1, q2, q3]) rfl (post_same HGM.out HB2.out (by omega) _ _ _ _)
 ·have e : saveG s = ({ s with saves := s.saves ++ [s.now] }, ⟨0, s.saves.length, [], []⟩) := by unfold saveG; rw [if_neg h0]
  rw [e]
  rw [← hm] at x5 hfew h0
  simp only []
  rw [← hm]
  have HM := St.hid hm
  clear e hm
  go_enter Tryz.func38, Tryz.ntmps38
  go_wp2_with fail
  have hzW : (w.alloc (.cells #[.int .i64 0, .int .i64 0, .slice none 0 0, .slice none 0 0] 31)).heap.size = w.heap.size + 1 := by simp
  have HGR := St.hid (HG.out.below HBW.out)
  have HSV : Hid ((w.alloc (.cells #[.int .i64 0, .int .i64 0, .slice none 0 0, .slice none 0 0] 31)).ownsRow 0 45 5 (.slice asv m csv) m (saveCells (sv.zip s.saves))) := St.hid (by have h := HGR.out.svs; rw [← HM.out] at h; exact h)
  rw [← HM.out] at HGR
  obtain ⟨i26, hi26, hz26, hs26, hb26⟩ := info_parts info26
  generalize w.alloc (.cells #[.int .i64 0, .int .i64 0, .slice none 0 0, .slice none 0 0] 31) = W at hRPW HBW HGR HSV hzW ⊢
  clear x0 x1 x2 x3 x4 x5 x6
  refine Rh.wp_act ?_
  intro A hA
  have e0 : A.tmps[0]?.getD undef = .pointer (some ⟨b, 0, none⟩) := by rw [hA]; rfl
  have hsz : 25 < A.tmps.size := by rw [hA]; exact Nat.le_of_ble_eq_true rfl
  have HA := St.hid hA
  clear hA
  refine Rs.wp_region (by kernel_rfl) (fun Lf a1 w1 => Hid (Rs.Sl [12, 13, 14, 15, 16, 17, 18, 19, 20, 21, 22, 23, 24, 25] A [(0, 12, .pointer (some ⟨b, 0, none⟩)), (1, 13, .pointer (some ⟨b, 0, none⟩)), (2, 14, .pointer (some ⟨b, 0, none⟩)), (3, 15, .pointer (some ⟨b, 5, none⟩)), (4, 16, .slice asv m csv), (5, 17, .pointer (some ⟨b, 0, none⟩)), (6, 18, .pointer (some ⟨b, 0, none⟩)), (7, 19, .pointer (some ⟨b, 0, none⟩)), (8, 20, .agg #[.slice a n c, .int .i64 s.now.next, .int .i64 s.now.fall, .int .i64 s.now.wide, .int .i64 s.now.high]), (12, 24, .pointer (some ⟨b, 0, none⟩)), (13, 25, .pointer (some ⟨b, 5, none⟩))] Lf a1) ∧ Hid (Lf 11 = false → Below W.heap.size W w1) ∧ Hid (Lf 9 = true → Lf 11 = false → ∃ (au : Option Addr) (n1 d1 : Nat) (F1 : Nat → Prop), a1.tmps[21]?.getD undef = .agg #[.slice au n1 d1, .int .i64 s.now.next, .int .i64 s.now.fall, .int .i64 s.now.wide, .int .i64 s.now.high] ∧ Sto w1 F1 (.slice au n1 d1) s.now.L ∧ ∀ z, F1 z → W.heap.size ≤ z) ∧ Hid (Lf 10 = true → Lf 11 = false → ∃ (au : Option Addr) (n1 d1 : Nat) (F1 : Nat → Prop) (q : Nat), a1.tmps[22]?.getD undef = .slice (some ⟨q, 0, none⟩) 1 1 ∧ w1.rowIs q 45 5 (wcell (.slice au n1 d1) s.now.next s.now.fall s.now.wide s.now.high) ∧ Sto w1 F1 (.slice au n1 d1) s.now.L ∧ (∀ z, F1 z → W.heap.size ≤ z) ∧ ¬ F1 q ∧ W.heap.size ≤ q) ∧ Hid (Lf 11 = true → Lf 14 = false → ∃ (u : Value) (F1 : Nat → Prop), Mid W s asv m csv sv w1 (a1.tmps[23]?.getD undef) u F1) ∧ Hid (Lf 14 = true → ∃ (W1 : World) (v1 u : Value) (F1 : Nat → Prop), Mid W s asv m csv sv W1 v1 u F1 ∧ w1 = W1.setCell ⟨b, 5, none⟩ v1)) (by kernel_rfl) ?rs ?rg ?re
  case rs => exact ⟨Rs.Sl.start hsz rfl, St.hid (fun _ => Below.drew (Below.refl _ W)), St.hid (fun h => by cases h), St.hid (fun h => by cases h), St.hid (fun h => by cases h), St.hid (fun h => by cases h)⟩
  case rg =>
   intro Lf a1 w1 hI hC
   obtain ⟨cS, cB, c9, c10, c11, cF⟩ := hI
   iterate 4 (refine ⟨fun hl hd K' hK => ?_, ?_⟩; rotate_left)
   refine ⟨fun hl hd K' hK => ?o4, ?_⟩
   rotate_left
   iterate 3 (refine ⟨fun hl hd K' hK => ?_, ?_⟩; rotate_left)
   refine ⟨fun hl hd K' hK => ?o8, ?_⟩
   rotate_left
   refine ⟨fun hl hd K' hK => ?o9, ?_⟩
   rotate_left
   refine ⟨fun hl hd K' hK => ?o10, ?_⟩
   rotate_left
   refine ⟨fun hl hd K' hK => ?o11, ?_⟩
   rotate_left
   iterate 2 (refine ⟨fun hl hd K' hK => ?_, ?_⟩; rotate_left)
   refine ⟨fun hl hd K' hK => ?o14, ?_⟩
   rotate_left
   exact trivial
   case o4 =>
    have q0 := Rs.Sl.at cS 3 (Rs.dep hd 3)
    obtain ⟨x0, x1, x2, x3, x4, x5, x6⟩ := gcells (HGR.out.below (cB.out (Rs.late hC hl 11))).row
    clear hd
    go_simp
    exact hK.out (a1.put (some _) _) _ ⟨Rs.Sl.put cS rfl rfl, cB, St.hid (fun h h' => by rw [Rh.put_ne (by decide)]; exact c9.out h h'), St.hid (fun h h' => by rw [Rh.put_ne (by decide)]; exact c10.out h h'), St.hid (fun h h' => by rw [Rh.put_ne (by decide)]; exact c11.out h h'), cF⟩
   case o8 =>
    have q0 := Rs.Sl.at cS 7 (Rs.dep hd 7)
    obtain ⟨x0, x1, x2, x3, x4, x5, x6⟩ := gcells (HGR.out.below (cB.out (Rs.late hC hl 11))).row
    clear hd
    go_simp
    exact hK.out (a1.put (some _) _) _ ⟨Rs.Sl.put cS rfl rfl, cB, St.hid (fun h h' => by rw [Rh.put_ne (by decide)]; exact c9.out h h'), St.hid (fun h h' => by rw [Rh.put_ne (by decide)]; exact c10.out h h'), St.hid (fun h h' => by rw [Rh.put_ne (by decide)]; exact c11.out h h'), cF⟩
   case o9 =>
    have q0 := Rs.Sl.at cS 8 (Rs.dep hd 8)
    have hbel := cB.out (Rs.late hC hl 11)
    clear hd
    go_simp
    refine (copied_any s.now.next s.now.fall s.now.wide s.now.high (HGR.out.now.below hbel)).mono ?_
    rintro e w2 ⟨⟨au, n1, d1, rfl, F1, hs1, hF1⟩, hb⟩
    go_simp
    exact hK.out (a1.put (some _) _) _ ⟨Rs.Sl.free cS rfl rfl, St.hid (fun _ => bcall hbel hb), St.hid (fun _ _ => ⟨au, n1, d1, F1, Rs.Sl.new cS, hs1, fun z hz => Nat.le_trans hbel.size (hF1 z hz)⟩), St.hid (fun h _ => Rs.no (Rs.late hC hl 10) h), St.hid (fun h => Rs.no (Rs.late hC hl 11) h), St.hid (fun h => Rs.no (Rs.late hC hl 14) h)⟩
   case o10 =>
    have h11 := Rs.late hC hl 11
    have hbel := cB.out h11
    obtain ⟨au, n1, d1, F1, q0, hs1, hF1⟩ := c9.out (Rs.dep hd 9) h11
    clear hd
    go_simp
    exact hK.out (a1.put (some _) _) _ ⟨Rs.Sl.free cS rfl rfl, St.hid (fun _ => bal hbel _), St.hid (fun _ _ => ⟨au, n1, d1, F1, (Rh.put_ne (by decide)).trans q0, hs1.below (bal (Below.refl _ _) _), hF1⟩), St.hid (fun _ _ => ⟨au, n1, d1, F1, _, Rs.Sl.new cS, rowIs5 _ _ _ _ _ _ _, hs1.below (bal (Below.refl _ _) _), hF1, (fun hc => by have := hs1.lt hc; omega), hbel.size⟩), St.hid (fun h => Rs.no (h11) h), St.hid (fun h => Rs.no (Rs.late hC hl 14) h)⟩
   case o11 =>
    have q0 := Rs.Sl.at cS 4 (Rs.dep hd 4)
    obtain ⟨au, n1, d1, F1, q, q1, hrow, hs1, hF1, hng, hgl⟩ := c10.out (Rs.dep hd 10) hl
    have hbel := cB.out hl
    obtain ⟨k0, k1, k2, k3, k4, -, -, -, -, -⟩ := wcells hrow
    have hgw := hrow.lt
    clear hd
    rw [if_pos (by rfl)]
    refine wp_append_at w1 (.tmp 16) (.tmp 22) 82 rfl 0 45 i26 (.agg #[.slice none 0 0, .int .i64 0, .int .i64 0, .int .i64 0, .int .i64 0]) 5 56 Tryz.underlying82 hi26 hz26 hs26 hb26 rfl (by decide) (.slice asv m csv) m _ (by simpa [Act.eval] using q0) (owns_below HSV.out hbel) ⟨q, 0, none⟩ 1 1 [.slice au n1 d1, .int .i64 s.now.next, .int .i64 s.now.fall, .int .i64 s.now.wide, .int .i64 s.now.high] (by simpa [Act.eval] using q1) rfl ?d2 ?d3 ?d4 ?d5 (Nat.zero_le _) ?_
    case d2 =>
     intro j u hj
     match j, hj with
     | 0, hj => cases hj; exact k0
     | 1, hj => cases hj; exact k1
     | 2, hj => cases hj; exact k2
     | 3, hj => cases hj; exact k3
     | 4, hj => cases hj; exact k4
    case d3 => intro u hu; simp at hu; rcases hu with rfl | rfl | rfl | rfl | rfl <;> rfl
    case d4 => unfold maxLen; omega
    case d5 => omega
    intro v' w2 hown2 hg2 hat2
    have hMid : Mid W s asv m csv sv w2 v' (.slice au n1 d1) F1 := by
     refine ⟨own_form hown2, hown2, ⟨w1, hbel, hg2⟩, hs1.keep hg2.size (fun z hz => hg2.block z (hs1.lt hz) (fun e => ?_)), hF1, ?_⟩
     ·have h1 := (HSV.out.lt z e.symm).2; have h2 := hF1 z hz; omega
     ·rcases hat2 with h | h
      ·exact Or.inl h
      ·exact Or.inr ⟨_, h, hbel.size, fun hc => by have := hs1.lt hc; omega⟩
    exact hK.out (a1.put (some _) _) _ ⟨Rs.Sl.free cS rfl rfl, St.hid (fun h => Rs.no h rfl), St.hid (fun _ h => Rs.no h rfl), St.hid (fun _ h => Rs.no h rfl), St.hid (fun _ _ => ⟨_, F1, by rw [Rs.Sl.new cS]; exact hMid⟩), St.hid (fun h => Rs.no (Rs.late hC hl 14) h)⟩
   case o14 =>
    have h11 := Rs.dep hd 11
    have q0 := Rs.Sl.at cS 13 (Rs.dep hd 13)
    obtain ⟨u, F1, hMid⟩ := c11.out h11 hl
    obtain ⟨a', c', q1⟩ := hMid.form
    rw [q1] at hMid
    obtain ⟨Wm, hbm, hgm⟩ := hMid.via
    have hrw := HGR.out.grownRow hbm hgm
    have hcell := hrw.cell (i := 5) (by omega)
    have hfr := hrw.frozen 5
    clear hd e0
    go_simp
    exact hK.out _ _ ⟨Rs.Sl.skip cS rfl, St.hid (fun h => Rs.no h h11), St.hid (fun _ h => Rs.no h h11), St.hid (fun _ h => Rs.no h h11), St.hid (fun _ h => Rs.no h rfl), St.hid (fun _ => ⟨_, _, u, F1, hMid, rfl⟩)⟩
   all_goals
    have z := Rs.Sl.deps cS hd
    clear hd
    repeat (obtain ⟨_, z⟩ := z)
    have y0 := Rs.Sl.old cS e0 rfl
    go_simp
    exact hK.out (a1.put (some _) _) _ ⟨Rs.Sl.put cS rfl rfl, cB, St.hid (fun h h' => by rw [Rh.put_ne (by decide)]; exact c9.out h h'), St.hid (fun h h' => by rw [Rh.put_ne (by decide)]; exact c10.out h h'), St.hid (fun h h' => by rw [Rh.put_ne (by decide)]; exact c11.out h h'), cF⟩
  case re =>
   intro Lf a1 w1 hI hall
   obtain ⟨cS, cB, c9, c10, c11, cF⟩ := hI
   obtain ⟨W1, v1, u, F1, hMid, rfl⟩ := cF.out (hall 14 (by decide))
   obtain ⟨Wm, hbm, hgm⟩ := hMid.via
   have HGA := St.hid (HGR.out.addSave HM.out hMid)
   have HFA : Hid (∀ z, (F z ∨ F1 z ∨ v1.ownBlock = some z) → F z ∨ w.heap.size + 1 ≤ z) := St.hid (fun z hz => by
    rcases hz with h | h | h
    ·exact Or.inl h
    ·exact Or.inr (by have := hMid.new z h; omega)
    ·rcases hMid.at_ with e | ⟨y, e, h1, -⟩
     ·rw [e] at h; exact Or.inl (HGR.out.sep z h).1
     ·rw [e] at h; cases h; exact Or.inr (by omega))
   have hrp := St.hid (rowIs_grown (rowIs_grown (rowIs_below hRPW.out hbm) hgm (fun e => by have := HG.out.lt _ (HGR.out.sep _ e).1; omega)) (grown_set W1 b 5 v1) (fun e => by cases e; omega))
   have HKP := St.hid (((Kept.below (F := F) (bcall HBW.out hbm)).grown hgm (fun z e => Or.inl (HGR.out.sep z e).1)).set (Or.inl HG.out.own) 5 v1)
   have hz2 : W.heap.size ≤ (W1.setCell ⟨b, 5, none⟩ v1).heap.size := by
    have h1 := hbm.size
    have h2 := hgm.size
    simp [World.setCell]
    omega
   obtain ⟨F', hF'⟩ : ∃ F' : Nat → Prop, F' = (fun z => F z ∨ F1 z ∨ v1.ownBlock = some z) := ⟨_, rfl⟩
   rw [← hF'] at HGA
   have HFA : Hid (∀ z, F' z → F z ∨ w.heap.size + 1 ≤ z) := St.hid (fun z hz => HFA.out z (by rw [hF'] at hz; exact hz))
   clear hF'
   generalize W1.setCell ⟨b, 5, none⟩ v1 = W2 at HGA hrp HKP hz2 ⊢
   obtain ⟨p0, p1, p2, p3⟩ := Rp.rcells hrp.out
   have p4 := hrp.out.frozen 0
   have p5 := hrp.out.frozen 1
   have p6 := hrp.out.frozen 2
   have p7 := hrp.out.frozen 3
   have hlt2 : w.heap.size < W2.heap.size := by omega
   rw [Rs.Sl.eq cS]
   have hA := HA.out
   subst hA
   simp only [Rh.puts, Act.put]
   go_simp
   go_wp2_with fail
   obtain ⟨q0, q1, q2, q3⟩ := four (put4 hrp.out (.int .i64 0) (.int .i64 m) (.slice none 0 0) (.slice none 0 0))
   refine bodyPost_ret (v := .agg #[.int .i64 0, .int .i64 m, .slice none 0 0, .slice none 0 0]) (by simp [results, Tryz.results38, go_sem, q0, q1, q2, q3]) rfl ⟨rfl, ⟨F', Gam.grown HGA.out (grown4 W2 w.heap.size _ _ _ _) (fun hc => ?_), fun z hz => ?_⟩, kept_grown HKP.out (grown4 W2 w.heap.size _ _ _ _) (Nat.le_refl _)⟩
   ·rcases HFA.out _ hc with h | h
    ·have := HG.out.lt _ h; omega
    ·omega
   ·rcases HFA.out _ hz with h | h
    ·exact Or.inl h
    ·exact Or.inr (by omega)
end Gm
end Go.Proofs.YtckkkdldljhehacGreat
