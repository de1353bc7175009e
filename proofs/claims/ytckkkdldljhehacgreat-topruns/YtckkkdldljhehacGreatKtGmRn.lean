/- What Run of package game answers when called with a good world and few acts: the replies of the plain game, in memory of their own; nothing that was in memory before has changed. -/
import Derived.Test.YtckkkdldljhehacGreatKtGmAd
import Derived.Maps.AppendAt
import Derived.Laws.MakeOwn
import Derived.Deep.MidRow
import Derived.Deep.WholeRow
import Derived.Deep.DeepCutAuto
namespace Go.Proofs.YtckkkdldljhehacGreat.Gm
open Go.Proofs.YtckkkdldljhehacGreat.Num Go.Proofs.YtckkkdldljhehacGreat.St Go.Proofs.YtckkkdldljhehacGreat.Wd
open Go.ChangeShapes Go.WideShapes Go.ChangeAt Go.RowKit

/-- The reply to one of the acts, and to the first of them. -/
def repG (s : Gp) (l : List Ac) (i : Nat) : Rep := (doG (doAll s (l.take i)) (l.getD i zeroA)).2
def repsG (s : Gp) (l : List Ac) (k : Nat) : List Rep := (List.range k).map (repG s l)
theorem repsG_len (s : Gp) (l : List Ac) (k : Nat) : (repsG s l k).length = k := by simp [repsG]
theorem repsG_at (s : Gp) (l : List Ac) {k i : Nat} (h : i < k) : (repsG s l k)[i]? = some (repG s l i) := by simp [repsG, h]
theorem repsG_succ (s : Gp) (l : List Ac) (k : Nat) : repsG s l (k + 1) = repsG s l k ++ [repG s l k] := by simp [repsG, List.range_succ]
theorem repG_eq (s : Gp) {l : List Ac} {k : Nat} {a : Ac} (hx : l[k]? = some a) : repG s l k = (doG (doAll s (l.take k)) a).2 := by
  unfold repG
  rw [List.getD_eq_getElem?_getD, hx]
  rfl
theorem rep_lenG {s : Gp} (h : GoodG s) (a : Ac) : (doG s a).2.ids.length ≤ 10 ∧ (doG s a).2.met.length ≤ 800 := by
  have h0 : ∀ c, (no c).ids.length ≤ 10 ∧ (no c).met.length ≤ 800 := fun c => ⟨by simp [no], by simp [no]⟩
  unfold doG
  split
  · exact h0 _
  · split
    · split
      · exact h0 _
      · exact ⟨by simp, by simp⟩
    · split
      · split
        · exact h0 _
        · exact h0 _
      · exact rep_len h.now a
theorem Reps.weak {W : World} {B B' : Nat} {F F' : Nat → Prop} {u : Value} {us : List (Value × Value)} {rs : List Rep} (h : Reps W B F u us rs) (hB : B' ≤ B) (hF : ∀ z, F' z → F z) : Reps W B' F' u us rs :=
  ⟨owns_mono h.row hB, h.len, fun i p r h1 h2 => ⟨owns_mono (h.each i p r h1 h2).1 hB, owns_mono (h.each i p r h1 h2).2 hB⟩, fun z hz hc => h.sepR z hz (hF z hc), fun i p hp z hz => ⟨fun hc => (h.sep i p hp z hz).1 (hF z hc), (h.sep i p hp z hz).2⟩⟩
set_option maxHeartbeats 8000000 in
set_option maxRecDepth 100000 in
theorem run_any (wide high fall : Int) (al : Option Addr) (n cap : Nat) (l : List Ac) (w : World) (hn : n = l.length) (hl : ActL w al l) (h150 : n ≤ 150) (hgw : GoodWd 0 fall wide high []) :
    Calls Tryz.prog 21 #[.int .i64 wide, .int .i64 high, .int .i64 fall, .slice al n cap] w fun e w' => (∃ a c us, e = .returned (.tuple #[.slice a n c, .int .i64 0]) ∧ Reps w' w.heap.size (fun _ => False) (.slice a n c) us (repsG (newG wide high fall) l n)) ∧ Below w.heap.size w w' := by
  have HL := St.hid hl
  have HN := St.hid hn
  have HGW := St.hid hgw
  obtain ⟨i70, hi70, hz70, hs70, hb70⟩ := info_parts infoReply
  clear hl hn hgw
  go_enter Tryz.func21, Tryz.ntmps21
  go_wp2_with fail
  refine (new_any wide high fall w).mono ?_
  rintro e w1 ⟨hor, hb1⟩
  rcases hor with ⟨hno, -⟩ | ⟨-, b, F1, rfl, hG1, hF1⟩
  · exact absurd HGW.out hno
  have HG1 := St.hid hG1
  have HF1 := St.hid hF1
  have HB1 := St.hid hb1
  have HGN := St.hid (newGood HGW.out)
  have hz1 := hb1.size
  clear hG1 hF1 hb1
  obtain ⟨w2, hrun, hown2, hg2⟩ := run_make_own (P := Tryz.prog) w1 w1.heap.size 58 31 i70 (.agg #[.int .i64 0, .int .i64 0, .slice none 0 0, .slice none 0 0]) 4 Tryz.underlying58 hi70 hz70 hs70 .i64 .i64 n (by rw [hb70]; omega) (by unfold maxLen; omega) (Nat.le_refl _)
  have b150 : ¬ ((n : Int) > 150) := by omega
  go_wp2_with fail
  have HG2 := St.hid (HG1.out.grownO hg2 (fun z e => by cases e))
  have HK2 := St.hid ((Kept.below (F := F1) (Below.refl _ w1)).grown hg2 (fun z e => by cases e))
  have HR2 : Hid (Reps w2 w1.heap.size F1 (.slice (some ⟨w1.heap.size, 0, none⟩) 0 n) [] []) := St.hid ⟨hown2, rfl, (fun i p r h => by simp at h), (fun z hz hc => by have e : w1.heap.size = z := Option.some.inj hz; have := HG1.out.lt hc; omega), (fun i p h => by simp at h)⟩
  clear hrun hown2 hg2 HG1
  go_loopw [12, 33] (fun v i wr => ∃ (k : Nat) (F : Nat → Prop) (sk : Gp) (us : List (Value × Value)), k ≤ n ∧ i = .int .i64 k ∧ Hid (sk = doAll (newG wide high fall) (l.take k) ∧ GoodG sk) ∧ Hid (Gam wr F b sk) ∧ Hid (∀ z, F z → F1 z ∨ w1.heap.size ≤ z) ∧ Hid (Kept F1 w1 wr) ∧ Hid (Reps wr w1.heap.size F v us (repsG (newG wide high fall) l k))) (fun _ i _ => n - (intOf i).toNat)
  case atStart => exact ⟨0, F1, _, [], Nat.zero_le _, rfl, St.hid ⟨rfl, HGN.out⟩, HG2, St.hid (fun z hz => Or.inl hz), HK2, HR2⟩
  case round =>
    clear HG2 HK2 HR2
    obtain ⟨k, F, sk, us, hk, rfl, HSK, HGK, HFK, HKK, HRK⟩ := hrel
    have HBK := St.hid (HB1.out.trans (HKK.out.to_below HB1.out.size HF1.out))
    have HFW : Hid (∀ z, F z → w.heap.size ≤ z) := St.hid (fun z hz => (HFK.out z hz).elim (fun h => HF1.out z h) (fun h => by omega))
    by_cases hlt : k < n
    · have hlt' : (k : Int) < (n : Int) := by omega
      obtain ⟨xa, hxa⟩ : ∃ xa, l[k]? = some xa := ⟨_, List.getElem?_eq_getElem (by have := HN.out; omega)⟩
      obtain ⟨g, off, rfl, hgl, hcs⟩ := HL.out (by have := HN.out; omega)
      have hgr : g < wr.heap.size := by have := HBK.out.size; omega
      have HXA := St.hid hxa
      have HRA : Hid (wr.rangeAt g (off + k * 17) (actCells xa)) := St.hid (fun j u hj => (HBK.out.cell (p := ⟨g, off + k * 17 + j, none⟩) hgl).trans (hcs k xa hxa j u hj))
      clear hcs hxa
      go_upto_region 9 with fail
      go_cut [14] (fun p wx => p = .pointer (some ⟨wr.heap.size, 0, none⟩) ∧ ∃ W, W = wx ∧ AcBox W wr.heap.size xa ∧ Below wr.heap.size wr W)
      case first =>
        go_wp2_with (first | (refine wpList_load_mid rfl 38 _ rfl g (off + k * 17) rfl (actCells xa) _ HRA.out Tryz.underlying38 rfl sizeA ?_) | (refine wpList_store_row rfl 38 _ _ rfl wr.heap.size (actCells xa).toArray rfl rfl 38 _ (heap_alloc_last _ _) sizeA rfl (oneA xa) ?_; rw [World.setRow_alloc_new]))
        go_meet
        exact ⟨rfl, _, rfl, acBox wr xa, bal (Below.refl _ wr) _⟩
      case rest =>
      obtain ⟨rfl, W5, rfl, hA5, hB5⟩ := hcut
      have HA5 := St.hid hA5
      have HB5 := St.hid hB5
      clear hA5 hB5
      have hab5 := HA5.out.lt
      have HRB := St.hid HA5.out.range
      go_wp2_with (refine wpList_load_mid rfl 38 _ rfl wr.heap.size 0 rfl (actCells xa) _ HRB.out Tryz.underlying38 rfl sizeA ?_)
      refine (do_from (HGK.out.below HB5.out) HSK.out.2 (bcall HBK.out HB5.out) HFW.out xa).mono ?_
      rintro e w6 ⟨aj, cj, an, cn, F6, rfl, ⟨hi6, hm6⟩, hG6, hF6, -, hn6, hk6, -⟩
      have HREP := St.hid (repsG_succ (newG wide high fall) l k)
      rw [repG_eq _ HXA.out, ← HSK.out.1] at HREP
      have HS6 : Hid ((doG sk xa).1 = doAll (newG wide high fall) (l.take (k + 1)) ∧ GoodG (doG sk xa).1) := St.hid ⟨by rw [take_snocA HXA.out, doAll_snoc, ← HSK.out.1], HSK.out.2.do xa⟩
      generalize (doG sk xa).1 = s6 at hG6 HS6
      generalize (doG sk xa).2 = r at hi6 hm6 hn6 HREP ⊢
      have HR6 := St.hid ((HRK.out.below HB5.out).kept hk6 hF6)
      have HRW : Hid (∀ z, u12.ownBlock = some z → z < wr.heap.size) := St.hid (fun z hz => (HRK.out.row.lt z hz).2)
      have HI6 := St.hid hi6
      have HM6 := St.hid hm6
      have HN6 := St.hid hn6
      have HG6 := St.hid hG6
      have HF6 : Hid (∀ z, F6 z → F1 z ∨ w1.heap.size ≤ z) := St.hid (fun z hz => (hF6 z hz).elim (fun h => HFK.out z h) (fun h => Or.inr (by have := HKK.out.size; have := HB5.out.size; omega)))
      have HK6 := St.hid ((HKK.out.call HB5.out).trans hk6 (fun z hz => HFK.out z hz))
      have hz6 := hk6.size
      have hz5 := HB5.out.size
      have hzr := HKK.out.size
      clear hi6 hm6 hn6 hG6 hF6 hk6 HGK HRK HSK HFK HKK HA5 HB5
      have HR6a := St.hid (HR6.out.below (bal (Below.refl _ _) (.cells #[.int .i64 r.code, .int .i64 r.n, .slice aj r.ids.length cj, .slice an r.met.length cn] 31)))
      have HG6a := St.hid (HG6.out.below (bal (Below.refl _ _) (.cells #[.int .i64 r.code, .int .i64 r.n, .slice aj r.ids.length cj, .slice an r.met.length cn] 31)))
      have hlen := repsG_len (newG wide high fall) l k
      go_wp2_with (at_builtin; refine wpList_append_own_at _ rfl _ _ 58 rfl w1.heap.size 31 i70 (.agg #[.int .i64 0, .int .i64 0, .slice none 0 0, .slice none 0 0]) 4 64 Tryz.underlying58 hi70 hz70 hs70 hb70 rfl (by decide) _ _ _ rfl HR6a.out.row ⟨w6.heap.size, 0, none⟩ 1 1 [.int .i64 r.code, .int .i64 r.n, .slice aj r.ids.length cj, .slice an r.met.length cn] rfl ?c1 ?c2 ?c3 ?c4 ?c5 ?c6 ?_)
      case c1 => rfl
      case c2 => exact rep_cells w6 _ _ _ _ 31
      case c3 => intro u hu; simp at hu; rcases hu with rfl | rfl | rfl | rfl <;> rfl
      case c4 => unfold maxLen; omega
      case c5 => omega
      case c6 => simp; omega
      intro v' w7 hown7 hg7 _ hat7
      have HO7 := St.hid hown7
      have HGR7 := St.hid hg7
      have HAT7 := St.hid hat7
      clear hown7 hg7 hat7
      go_wp2_with fail
      go_roundw
      case rel =>
        refine ⟨k + 1, F6, s6, us ++ [(.slice aj r.ids.length cj, .slice an r.met.length cn)], by omega, by go_num, HS6, St.hid (HG6a.out.grownO HGR7.out (fun z hz => HR6a.out.sepR z hz)), HF6, St.hid ((HK6.out.call (bal (Below.refl _ _) _)).grown HGR7.out (fun z hz => Or.inr (HR6a.out.row.lt z hz).1)), ?_⟩
        rw [HREP.out]
        refine St.hid (HR6a.out.snoc (r := r) (by rw [repsG_len]; exact HO7.out) HGR7.out (by rw [World.size_alloc]; exact HAT7.out) (owns_mono (owns_below HI6.out (bal (Below.refl _ _) _)) (by omega)) (owns_mono (owns_below HM6.out (bal (Below.refl _ _) _)) (by omega)) (fun z hz => ⟨HN6.out z hz, fun e => ?_⟩) (fun hc => by have := HG6.out.lt hc; simp at this; omega))
        rcases hz with hz | hz
        · have := (HI6.out.lt z hz).1; have := HRW.out z e; omega
        · have := (HM6.out.lt z hz).1; have := HRW.out z e; omega
      case measure => simp [intOf]; omega
    · have hkn : k = n := by omega
      subst hkn
      have hrow := HRK.out.row
      rw [repsG_len] at hrow
      obtain ⟨av, cv, rfl, -⟩ := Sw.owns_slice hrow
      clear hrow
      go_wp2_with fail
      exact bodyPost_ret (v := .tuple #[.slice av k cv, .int .i64 0]) (by simp [results, Tryz.results21, go_sem]) rfl ⟨⟨av, cv, us, rfl, HRK.out.weak hz1 (fun z h => h.elim)⟩, HBK.out⟩
end Go.Proofs.YtckkkdldljhehacGreat.Gm
