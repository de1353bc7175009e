/- What Query of package store answers when called over tables in memory none of which is empty: the numbers of all tables that have the mask's parts, sorted, in memory of its own; nothing that was in memory before has changed. There are at most a thousand numbers. -/
import Derived.Test.YtckkkdldljhehaaPkC
import Derived.Test.YtckkkdldljhehaaShelf
import Derived.Sort.OwnSortedInts
namespace Go.Proofs.Ytckkkdldljhehaa.St
open Go.Proofs.Ytckkkdldljhehaa.Num
open Go.ChangeShapes Go.WideShapes Go.ChangeAt Go.RowKit

/-- What the first k tables give. -/
def gath (T : Nat → TabV) (I : Nat → Nat → Int) (m : Int) : Nat → List Int
  | 0 => []
  | k + 1 => if hasB (T k).mask m then gath T I m k ++ (List.range (T k).il).map (I k) else gath T I m k
def leI (x y : Int) : Bool := decide (x ≤ y)

set_option maxHeartbeats 1000000 in
set_option maxRecDepth 100000 in
theorem query_any (a : Option Addr) (n cap : Nat) (next m : Int) (T : Nat → TabV) (I : Nat → Nat → Int) (w : World) (hn : n ≤ maxLen) (hT : TabsIn w a n T)
    (hI : ∀ i, i < n → IdsIn w (T i).ia (T i).il (I i)) (hp : ∀ i, i < n → 0 < (T i).il) (hG : ∀ k, k ≤ n → (gath T I m k).length ≤ 1000) :
    Calls Try.prog 35 #[.agg #[.slice a n cap, .int .i64 next], .int .i64 m] w fun e w' =>
      (∃ v, e = .returned v ∧ w'.ownsRow w.heap.size 3 1 v (gath T I m n).length (((gath T I m n).mergeSort fun x y => decide (x ≤ y)).map (Value.int .i64))) ∧ Below w.heap.size w w' := by
  obtain ⟨i0, hi, hz0, hz1, hz2⟩ := info_parts info3
  have HT : Hid _ := hT
  have HI : Hid _ := hI
  have HP : Hid _ := hp
  have HG : Hid _ := hG
  clear hT hI hp hG
  unfold maxLen at hn
  go_enter Try.func35, Try.ntmps35
  go_wp2_with fail
  go_loopw [5, 11] (fun v i wr => ∃ k : Nat, k ≤ n ∧ i = .int .i64 k ∧ Hid (wr.ownsRow (w.heap.size + 1) 3 1 v (gath T I m k).length ((gath T I m k).map (Value.int .i64))) ∧ Below w.heap.size w wr ∧ w.heap.size < wr.heap.size) (fun _ i _ => n - (intOf i).toNat)
  case atStart => exact ⟨0, Nat.zero_le _, rfl, World.ownsRow_nil _ _ _ _, bal (Below.refl _ _) _, by simp⟩
  case round =>
    obtain ⟨k, hk, rfl, hown, hbl, hzr⟩ := hrel
    have HL : Hid _ := hbl
    clear hbl
    by_cases hlt : k < n
    · obtain ⟨b, off, rfl, hb, hc⟩ := HT.out (by omega)
      obtain ⟨c0, c1, c2⟩ := hc k hlt
      rw [← HL.out.cell (by exact hb)] at c0 c1 c2
      clear hc
      obtain ⟨bi, oi, hia, hbi, hci⟩ := HI.out k hlt (HP.out k hlt)
      have HCI : Hid _ := hci
      clear hci
      rw [hia] at c1
      have hbz : b < wr.heap.size := by omega
      have hg1 := HG.out (k + 1) (by omega)
      cases hq : hasB (T k).mask m
      · have HS : Hid (gath T I m (k + 1) = gath T I m k) := by simp [Hid, gath, hq]
        go_wp2_with (go_at_call 77; refine (has_any _ _ _).mono ?_; rintro e w' ⟨rfl, rfl⟩)
        go_roundw
        case rel => exact ⟨k + 1, by omega, by go_num, by rw [HS.out]; exact hown.out.alloc _, bal HL.out _, by simp; omega⟩
        case measure => simp [intOf]; omega
      · have hs : gath T I m (k + 1) = gath T I m k ++ (List.range (T k).il).map (I k) := by simp [gath, hq]
        rw [hs] at hg1
        simp only [List.length_append, List.length_map, List.length_range] at hg1
        have HS : Hid _ := hs
        clear hs
        go_wp2_with (first
          | (go_at_call 77; refine (has_any _ _ _).mono ?_; rintro e w' ⟨rfl, rfl⟩)
          | (at_builtin; refine wpList_append_own _ rfl _ _ 47 rfl (w.heap.size + 1) 3 i0 (.int .i64 0) 1 8 Try.underlying47 hi hz0 hz1 hz2 rfl (by decide) _ _ _ rfl (hown.out.alloc _) ⟨bi, oi, none⟩ (T k).il (T k).ic (((List.range (T k).il).map (I k)).map (Value.int .i64)) rfl ?c1 ?c2 ?c3 ?c4 ?c5 ?c6 ?_))
        case c1 => simp
        case c2 =>
          intro j u hj
          have hjl : j < (T k).il := by simpa using (List.getElem?_eq_some_iff.1 hj).1
          have e : (((List.range (T k).il).map (I k)).map (Value.int .i64))[j]? = some (.int .i64 (I k j)) := by simp [hjl]
          rw [e] at hj
          cases hj
          rw [Addr.add_lit]
          exact ((bal HL.out _).cell (p := ⟨bi, oi + j, none⟩) hbi).trans (HCI.out j hjl)
        case c3 => intro u hu; simp at hu; obtain ⟨_, _, rfl⟩ := hu; rfl
        case c4 => unfold maxLen; omega
        case c5 => omega
        case c6 => simp; omega
        intro v' w1 hown1 hgrow1 _
        have HO1 : Hid _ := hown1
        have HG1 : Hid _ := hgrow1
        clear hown1 hgrow1
        go_wp2_with fail
        go_roundw
        case rel =>
          refine ⟨k + 1, by omega, by go_num, ?_, ?_, ?_⟩
          · have := HO1.out
            rw [HS.out, List.length_append, List.map_append, List.length_map, List.length_range, List.map_map]
            exact this
          · exact (bal HL.out _).grown HG1.out (by simp; omega) (fun q hq' => by have := (hown.out.lt q hq').1; omega)
          · have := HG1.out.size; simp at this; omega
        case measure => simp [intOf]; omega
    · have hke : k = n := by omega
      subst hke
      have hgl := HG.out k (by omega)
      rcases hown.out.2 with ⟨hv, hz⟩ | ⟨g, c, cur, hv, hbase, hblk, h1, h2, h3, h4⟩
      · subst hv
        have HZ : Hid _ := hz
        clear hz
        go_wp2_with (go_at_call 78; refine (Try.slices_Sort_int_none _ _ _).mono ?_; rintro e w' ⟨rfl, rfl⟩)
        go_ret
        have : gath T I m k = [] := List.length_eq_zero_iff.1 HZ.out
        exact ⟨⟨_, rfl, by rw [this]; exact ⟨by simp, Or.inl ⟨rfl, by simp⟩⟩⟩, HL.out⟩
      · subst hv
        have hH := Go.holds_of_blockI hblk (by simpa using h4)
        have hbl : g < wr.heap.size := (Array.getElem?_eq_some_iff.1 hblk).1
        have HB : Hid _ := hblk
        have H1 : Hid _ := h1
        have H2 : Hid _ := h2
        have H3 : Hid _ := h3
        clear hblk h1 h2 h3 h4
        go_wp2_with (go_at_call 78; refine (Try.slices_Sort_int g 0 c (gath T I m k) _ hH hbl (by omega)).mono ?_; rintro e w' ⟨rfl, q, os, rfl⟩)
        go_ret
        exact ⟨⟨_, rfl, ownsRow_sortedI (by simp) (by omega) HB.out H1.out H2.out H3.out⟩, HL.out.grown (grownBy_sortedI _) (by omega) (fun j hj => by cases hj; omega)⟩
end Go.Proofs.Ytckkkdldljhehaa.St
