/- What clone of package store answers when called over tables in memory: the same tables, each list in memory of its own; nothing that was in memory before has changed. All sizes are within the form's reach. -/
import Derived.Test.YtckkkdldljhehaaStClone2
namespace Go.Proofs.Ytckkkdldljhehaa.St
open Go.Proofs.Ytckkkdldljhehaa.Num
open Go.ChangeShapes Go.WideShapes Go.ChangeAt Go.RowKit

/-- What is asked of the sizes and of nil slices. -/
def Fits (a : Option Addr) (n : Nat) (T : Nat → TabV) : Prop :=
  n * 56 ≤ 140737488355328 ∧ (a = none → n = 0) ∧ ∀ i, i < n → (T i).il * 8 ≤ 140737488355328 ∧ (T i).rl * 64 ≤ 140737488355328 ∧ ((T i).ia = none → (T i).il = 0) ∧ ((T i).ra = none → (T i).rl = 0)

theorem hid {p : Prop} (h : p) : Hid p := h
theorem own_form {w : World} {B size n : Nat} {e : TypeId} {v : Value} {xs : List Value} (h : w.ownsRow B e size v n xs) : ∃ a c, v = .slice a n c := by
  rcases h.2 with ⟨rfl, rfl⟩ | ⟨g, c, _, rfl, _⟩
  · exact ⟨none, 0, rfl⟩
  · exact ⟨_, c, rfl⟩
theorem row_step {wr w2 w3 : World} {b g n i j : Nat} {t : TypeId} {f : Nat → Value} {u u' : Value} (h : wr.rowIs b t n f) (hne : b ≠ g) (hb2 : Below wr.heap.size wr w2) (hb3 : Below w2.heap.size (w2.setCell ⟨g, i, none⟩ u) w3) : (w3.setCell ⟨g, j, none⟩ u').rowIs b t n f := by
  have hl := h.lt
  have hz := hb2.size
  exact ((((h.of_block (hb2.block b hl))).setOther hne u).of_block (hb3.block b (by omega))).setOther hne u'
theorem rowIs2 (w : World) (x y : Value) (t : TypeId) : (w.alloc (.cells #[x, y] t)).rowIs w.heap.size t 2 (fun i => if i = 0 then x else y) :=
  ⟨#[x, y], (MapKept.heap_alloc w _).1, rfl, fun i hi => by
    match i, hi with
    | 0, _ => rfl
    | 1, _ => rfl⟩

set_option maxHeartbeats 2000000 in
set_option maxRecDepth 100000 in
theorem clone_any (a : Option Addr) (n cap : Nat) (next : Int) (T : Nat → TabV) (I : Nat → Nat → Int) (R : Nat → Nat → R8) (w : World) (hT : TabsIn w a n T)
    (hI : ∀ i, i < n → IdsIn w (T i).ia (T i).il (I i)) (hR : ∀ i, i < n → RowsIn w (T i).ra (T i).rl (R i)) (hF : Fits a n T) :
    Calls Try.prog 80 #[.agg #[.slice a n cap, .int .i64 next]] w fun e w' =>
      (∃ v, e = .returned (.agg #[v, .int .i64 next]) ∧ ∃ S, Own w' w.heap.size v S ∧ S.map (·.t) = plainOf T I R n) ∧ Below w.heap.size w w' := by
  obtain ⟨hn, ha, hF⟩ := hF
  have HC : Hid (∀ w', Below w.heap.size w w' → Calls Try.prog 104 #[.slice a n cap] w' fun e w'' => (∃ v, e = .returned v ∧ w''.ownsRow w'.heap.size 66 3 v n (oldCells T 0 n)) ∧ Below w'.heap.size w' w'') :=
    fun w' hb => cloneT_any a n cap (oldCells T 0 n) w' hn (oldCells_length _ _ _) ha (fun ad e j u hj => by subst e; exact (hT.below hb).cells j u hj) (oldCells_one _ _ _)
  have HI : Hid (∀ k, k < n → ∀ w', Below w.heap.size w w' → Calls Try.prog 105 #[.slice (T k).ia (T k).il (T k).ic] w' fun e w'' => (∃ v, e = .returned v ∧ w''.ownsRow w'.heap.size 3 1 v (T k).il (((List.range (T k).il).map (I k)).map (Value.int .i64))) ∧ Below w'.heap.size w' w'') :=
    fun k hk w' hb => cloneI_any _ _ _ _ w' (hF k hk).1 (by simp) (hF k hk).2.2.1 (fun ad e j u hj => by have := (hI k hk).below hb; rw [e] at this; exact this.cells j u hj) (ints_one _)
  have HR : Hid (∀ k, k < n → ∀ w', Below w.heap.size w w' → Calls Try.prog 106 #[.slice (T k).ra (T k).rl (T k).rc] w' fun e w'' => (∃ v, e = .returned v ∧ w''.ownsRow w'.heap.size 30 8 v (T k).rl (((List.range (T k).rl).map (R k)).flatMap rowCells)) ∧ Below w'.heap.size w' w'') :=
    fun k hk w' hb => cloneR_any _ _ _ _ w' (hF k hk).2.1 (by rw [rows_length]; simp) (hF k hk).2.2.2 (fun ad e j u hj => by have := (hR k hk).below hb; rw [e] at this; exact this.cells j u hj) (rowCells_one _)
  clear hT hI hR ha hF
  have hn' : n ≤ 9223372036854775807 := by omega
  go_enter Try.func80, Try.ntmps80
  go_wp2_with fail
  refine (HC.out _ (bal (bal (Below.refl _ _) _) _)).mono ?_
  rintro e w1 ⟨⟨v, rfl, hown⟩, hb1⟩
  have hz1 := hb1.size
  simp at hz1
  have hbox : w1.rowIs w.heap.size 28 2 (fun i => if i = 0 then .slice a n cap else .int .i64 next) :=
    ((rowIs2 w _ _ _).alloc _).of_block (hb1.block _ (by simp; omega))
  have hres : w1.rowIs (w.heap.size + 1) 28 2 (fun i => if i = 0 then .slice none 0 0 else .int .i64 0) := by
    have := rowIs2 (w.alloc (.cells #[.slice a n cap, .int .i64 next] 28)) (.slice none 0 0) (.int .i64 0) 28
    rw [World.size_alloc] at this
    exact this.of_block (hb1.block _ (by simp))
  have h01 : Below w.heap.size w w1 := bcall (bal (bal (Below.refl _ _) _) _) hb1
  have H01 := hid h01
  simp only [World.size_alloc] at hown
  have s0 := hbox.cell (i := 0) (by omega)
  have f0 := hbox.frozen 0
  simp only [if_true] at s0
  have HBOX := hid hbox
  have HRES := hid hres
  have HO := hid hown
  clear h01 hb1 hbox hres hown
  have s1 := HBOX.out.cell (i := 1) (by omega)
  have r0 := HRES.out.cell (i := 0) (by omega)
  have r1 := HRES.out.cell (i := 1) (by omega)
  have g0 := HRES.out.frozen 0
  have g1 := HRES.out.frozen 1
  simp at s1 r0 r1
  have hx := HO.out.2
  rcases hx with ⟨rfl, hx⟩ | ⟨g, c, cur, rfl, hgb, hgh, -, -, -, -⟩
  · have HX := hid hx
    clear hx
    go_wp2
    go_loop [12] (fun i => i = .int .i64 0) (fun _ => 0)
    case atStart => rfl
    case round =>
      subst hrel
      go_wp2
      refine bodyPost_ret (v := .agg #[.slice none 0 0, .int .i64 next]) (by simp [results, Try.results80, go_sem, r0, r1]) rfl ⟨⟨_, rfl, [], ⟨⟨by simp [tabCells], Or.inl ⟨rfl, rfl⟩⟩, by simp, by simp [blocks, Value.ownBlock]⟩, by rw [HX.out]; rfl⟩, ?_⟩
      refine Below.setCell ?_ (by simp) _
      refine Below.setCell ?_ (by simp) _
      refine Below.setCell ?_ (by simp) _
      exact H01.out
  · have hgl : g < w1.heap.size := (Array.getElem?_eq_some_iff.1 hgh).1
    have hg1 : w.heap.size ≠ g := by omega
    have hg2 : w.heap.size + 1 ≠ g := by omega
    clear hgh s0 s1 f0 r0 r1 g0 g1
    have s0 := HBOX.out.cell (i := 0) (by omega)
    have f0 := HBOX.out.frozen 0
    simp only [if_true] at s0
    go_wp2
    go_loopw [12] (fun i wr => ∃ (k : Nat) (D : List OT), k ≤ n ∧ i = .int .i64 k ∧ Hid (CInv T I R wr (w.heap.size + 2) g c n k D) ∧ Hid (Below w.heap.size w wr) ∧ Hid (wr.rowIs w.heap.size 28 2 (fun i => if i = 0 then .slice (some ⟨g, 0, none⟩) n c else .int .i64 next)) ∧ Hid (wr.rowIs (w.heap.size + 1) 28 2 (fun i => if i = 0 then .slice none 0 0 else .int .i64 0))) (fun i _ => n - (intOf i).toNat)
    case atStart =>
      refine ⟨0, [], Nat.zero_le _, rfl, ⟨?_, rfl, rfl, by simp, by simp [blocks]⟩, H01.out.setCell (by simp) _, (HBOX.out.set 0 _).congr ?_, HRES.out.setOther (by simp) _⟩
      · exact owns_set HO.out (by simp [Value.ownBlock]; omega) 0 _
      · intro i hi
        match i, hi with
        | 0, _ => rfl
        | 1, _ => rfl
    case round =>
      obtain ⟨k, D, hk, rfl, hinv, hbl, hbox, hres⟩ := hrel
      have s0 := hbox.out.cell (i := 0) (by omega)
      have s1 := hbox.out.cell (i := 1) (by omega)
      simp at s0 s1
      have hgr := (hinv.out.tabs.lt g rfl).2
      have hsr := hbox.out.lt
      by_cases hlt : k < n
      · obtain ⟨c0, c1, c2⟩ := hinv.out.cell hlt
        have c1f := hinv.out.tabs.frozenAt (k * 3 + 1)
        have hgr1 : g < wr.heap.size + 1 := by omega
        have hsr1 : w.heap.size < wr.heap.size + 1 := by omega
        go_wp2_with fail
        go_region_with (go_at_call 105; refine (HI.out k hlt _ (by first | exact (bal hbl.out _).drew | exact bal hbl.out _)).mono ?_; rintro e w2 ⟨⟨iv, rfl, hiv⟩, hb2⟩; obtain ⟨ai, ci, rfl⟩ := own_form hiv; obtain ⟨hc2, hf2⟩ := bcell hb2; have HB2 := hid hb2; have HIV := hid hiv; clear hb2 hiv)
        all_goals
          have hz2 := HB2.out.size
          simp at hz2
          have c2f := hinv.out.tabs.frozenAt (k * 3 + 2)
          have hsr2 : w.heap.size < w2.heap.size := by omega
          have hgr2 : g < w2.heap.size := by omega
          have htr2 : wr.heap.size < w2.heap.size := by omega
          have hne3 : wr.heap.size ≠ g := by omega
          have H12 : Hid (Below wr.heap.size wr w2) := bcall ((bal (Below.refl _ _) _).drew) HB2.out
          have H02 : Hid (Below w.heap.size w w2) := bcall hbl.out H12.out
          have HI2 : Hid (w2.ownsRow wr.heap.size 3 1 (.slice ai (T k).il ci) (T k).il (((List.range (T k).il).map (I k)).map (Value.int .i64))) := owns_mono HIV.out (by simp)
          clear HB2 HIV
          go_wp2_with fail
          go_region_with (go_at_call 106; refine (HR.out k hlt _ ((H02.out.setCell (by simp; omega) _).drew)).mono ?_; rintro e w3 ⟨⟨rv, rfl, hrv⟩, hb3⟩; obtain ⟨ar, cr, rfl⟩ := own_form hrv; obtain ⟨hc3, hf3⟩ := bcell hb3; have HB3 := hid hb3; have HRV := hid hrv; clear hb3 hrv)
          all_goals
            have H3 : Hid (Below w2.heap.size (w2.setCell ⟨g, k * 3 + 1, none⟩ (.slice ai (T k).il ci)) w3) := (Below.drew (Below.refl _ _)).trans (by simpa using HB3.out)
            have HR3 : Hid (w3.ownsRow w2.heap.size 30 8 (.slice ar (T k).rl cr) (T k).rl (((List.range (T k).rl).map (R k)).flatMap rowCells)) := hid (by simpa using HRV.out)
            clear HB3 HRV hc3 hf3
            go_wp2_with fail
            go_roundw
            case rel =>
              refine ⟨k + 1, D ++ [⟨tabOf T I R k, .slice ai (T k).il ci, .slice ar (T k).rl cr⟩], by omega, by go_num, ?_, ?_, ?_, ?_⟩
              · exact clone_step hinv.out hlt (by have := hres.out.lt; omega) H12.out HI2.out H3.out HR3.out
              · have hd : Below w.heap.size w (w2.setCell ⟨g, k * 3 + 1, none⟩ (.slice ai (T k).il ci)) := H02.out.setCell (by simp; omega) _
                exact (hd.trans (H3.out.mono (by omega))).setCell (by simp; omega) _
              · exact row_step hbox.out hg1 H12.out H3.out
              · exact row_step hres.out hg2 H12.out H3.out
            case measure => simp [intOf]; omega
      · have r0 := hres.out.cell (i := 0) (by omega)
        have r1 := hres.out.cell (i := 1) (by omega)
        have g0 := hres.out.frozen 0
        have g1 := hres.out.frozen 1
        simp at r0 r1
        have hke : k = n := by omega
        subst hke
        have hnd : Hid (Own ((wr.setCell ⟨w.heap.size + 1, 0, none⟩ (.slice (some ⟨g, 0, none⟩) k c)).setCell ⟨w.heap.size + 1, 1, none⟩ (.int .i64 next)) w.heap.size (.slice (some ⟨g, 0, none⟩) k c) D) := by
          have hi := hinv.out
          have hlt := blocks_lt hi.own
          have e : tabCells D ++ oldCells T k (k - k) = tabCells D := by simp [oldCells]
          refine ⟨?_, fun o ho => ?_, by simpa [Value.ownBlock] using hi.apart⟩
          · have := hi.tabs
            rw [e] at this
            rw [hi.len]
            exact owns_set (owns_set (owns_mono this (by omega)) (by simp [Value.ownBlock]; omega) _ _) (by simp [Value.ownBlock]; omega) _ _
          · have hne : w.heap.size + 1 ∉ otBlocks o := fun hg => by have := hlt _ (List.mem_flatMap.2 ⟨o, ho, hg⟩); omega
            have h1 := otOwn_set (otOwn_set (hi.own o ho) hne 0 (.slice (some ⟨g, 0, none⟩) k c)) hne 1 (.int .i64 next)
            exact ⟨owns_mono h1.1 (by omega), owns_mono h1.2 (by omega)⟩
        have hpl := hid hinv.out.plain
        go_wp2_with fail
        refine bodyPost_ret (v := .agg #[.slice (some ⟨g, 0, none⟩) k c, .int .i64 next]) (by simp [results, Try.results80, go_sem, r0, r1]) rfl ⟨⟨_, rfl, D, hnd.out, hpl.out⟩, ?_⟩
        refine Below.setCell ?_ (by simp) _
        refine Below.setCell ?_ (by simp) _
        exact hbl.out
end Go.Proofs.Ytckkkdldljhehaa.St
