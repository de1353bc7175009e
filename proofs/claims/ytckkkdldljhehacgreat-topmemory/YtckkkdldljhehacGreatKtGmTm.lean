/- What TopMemory of package ninepinstop answers when called over acts in memory: true; nothing that was in memory before has changed. -/
import Derived.Test.YtckkkdldljhehacGreatKtGmMc
namespace Go.Proofs.YtckkkdldljhehacGreat.Gm
open Go.Proofs.YtckkkdldljhehacGreat.Num Go.Proofs.YtckkkdldljhehacGreat.St Go.Proofs.YtckkkdldljhehacGreat.Wd
open Go.ChangeShapes Go.WideShapes Go.ChangeAt Go.RowKit

theorem ptr_box (w : World) (v : Value) (t : TypeId) : (w.alloc (.cells #[v] t)).rowIs w.heap.size t 1 (fun _ => v) :=
  ⟨_, (MapKept.heap_alloc w _).1, rfl, fun i hi => by
    match i, hi with
    | 0, _ => rfl⟩
set_option maxHeartbeats 4000000 in
set_option maxRecDepth 100000 in
theorem topMemory_any (size fall : Int) (al : Option Addr) (n cap : Nat) (l : List Ac) (w : World) (hl : ActL w al l) (hn : n = l.length) (hz : n * 136 ≤ 140737488355328) :
    Calls Tryz.prog 8 #[.int .i64 size, .int .i64 fall, .slice al n cap] w fun e w' => e = .returned (.bool true) ∧ Below w.heap.size w w' := by
  have HL := St.hid hl
  have HN := St.hid hn
  clear hl hn
  go_enter Tryz.func8, Tryz.ntmps8
  go_wp2_with fail
  refine (alive_any w).mono ?_
  rintro e w0 ⟨rfl, hb0⟩
  have HB0 := St.hid hb0
  clear hb0
  go_wp2_with fail
  obtain ⟨x, hx⟩ : ∃ x, x = (wrap64 (size.tmod 1048576 + 1048576)).tmod 1048576 := ⟨_, rfl⟩
  obtain ⟨f, hf⟩ : ∃ f, f = fall.tmod 65 := ⟨_, rfl⟩
  have hx2 : 0 ≤ x ∧ x < 1048576 := by rw [hx]; exact size_in size
  have hf2 : -64 ≤ f ∧ f ≤ 64 := by rw [hf]; exact fall_in fall
  have hw1 : wrap64 (x + 1) = x + 1 := by unfold wrap64; omega
  have hw2 : wrap64 (1048576 - x) = 1048576 - x := by unfold wrap64; omega
  rw [← hx, ← hf, hw1, hw2]
  refine (new_any (x + 1) (1048576 - x) f w0).mono ?_
  rintro e w1 ⟨hor, hb1⟩
  have HGD : Hid (GoodWd 0 f (x + 1) (1048576 - x) []) := St.hid ⟨good_nil, hf2, by omega, by omega⟩
  rcases hor with ⟨hno, -⟩ | ⟨-, ob, F2, rfl, hO, hF2⟩
  · exact absurd HGD.out hno
  have hA := bal (Below.refl _ w1) (.cells #[.pointer (some ⟨ob, 0, none⟩)] 23)
  have HPM := St.hid (playMem size fall al n cap l w (w1.alloc (.cells #[.pointer (some ⟨ob, 0, none⟩)] 23)) HN.out HL.out hz (bcall (bcall HB0.out hb1) hA) x f hx hf (hO.below hA) (ptr_box w1 _ 23) (fun h => by have := hO.lt h; omega) (fun z hz => Nat.le_trans HB0.out.size (hF2 z hz)))
  clear hO hb1 hF2 hA hx hf hx2 hf2 hw1 hw2 HGD
  go_wp2_with fail
  refine HPM.out.mono ?_
  rintro e w2 ⟨⟨v, rfl⟩, hb2⟩
  have HB2 := St.hid hb2
  clear hb2
  go_wp2_with fail
  go_ret
  exact ⟨rfl, HB2.out⟩
end Go.Proofs.YtckkkdldljhehacGreat.Gm
