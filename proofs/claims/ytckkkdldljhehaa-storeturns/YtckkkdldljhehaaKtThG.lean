/- What Having of things by number (package ninepinsref) answers when called over a map in memory: the numbers of the things that have all parts of a mask, rising, in memory of their own; nothing that was in memory before has changed. Condition: at most a million things. -/
import Derived.Test.YtckkkdldljhehaaKtThF
namespace Go.Proofs.Ytckkkdldljhehaa.Th
open Go.Proofs.Ytckkkdldljhehaa.Num Go.Proofs.Ytckkkdldljhehaa.St Go.Proofs.Ytckkkdldljhehaa.Mp
open Go.ChangeShapes Go.WideShapes Go.ChangeAt Go.RowKit Go.Sort Go.Shelf Go.Lib

theorem fieldM (t : Th) (w : World) : (Instr.field 43 (.agg #[.int .i64 t.m, .int .i64 t.r.x, .int .i64 t.r.y, .int .i64 t.r.px, .int .i64 t.r.py, .int .i64 t.r.wd, .int .i64 t.r.ht, .int .i64 t.r.ms, .int .i64 t.r.rr]) 0).run Try.prog w = .ok (.int .i64 t.m) w := by kernel_rfl
theorem fieldR (t : Th) (w : World) : (Instr.field 43 (.agg #[.int .i64 t.m, .int .i64 t.r.x, .int .i64 t.r.y, .int .i64 t.r.px, .int .i64 t.r.py, .int .i64 t.r.wd, .int .i64 t.r.ht, .int .i64 t.r.ms, .int .i64 t.r.rr]) 1).run Try.prog w = .ok (.agg #[.int .i64 t.r.x, .int .i64 t.r.y, .int .i64 t.r.px, .int .i64 t.r.py, .int .i64 t.r.wd, .int .i64 t.r.ht, .int .i64 t.r.ms, .int .i64 t.r.rr]) w := by kernel_rfl
/-- The numbers of those that have all parts of the mask. -/
def havM (m : Int) (l : Mth) : List Int := (l.filter (fun p => hasB p.2.m m)).map (·.1)
theorem havM_snoc {l : Mth} {k : Nat} {p : Int × Th} {m : Int} (h : l[k]? = some p) : havM m (l.take (k + 1)) = havM m (l.take k) ++ (if hasB p.2.m m then [p.1] else []) := by
  have hk := (List.getElem?_eq_some_iff.1 h).1
  rw [List.take_succ_eq_append_getElem hk, (List.getElem?_eq_some_iff.1 h).2]
  unfold havM
  rw [List.filter_append, List.map_append]
  cases hb : hasB p.2.m m <;> simp [hb]
theorem havM_len (m : Int) (l : Mth) : (havM m l).length ≤ l.length := by
  unfold havM
  rw [List.length_map]
  exact List.length_filter_le _ _
set_option maxHeartbeats 8000000 in
set_option maxRecDepth 100000 in
theorem having_any (b : Nat) (l : Mth) (m : Int) (w : World) (h : Mp w b l) (hl : l.length ≤ 1000000) :
    Calls Try.prog 36 #[.map (some b), .int .i64 m] w fun e w' => (∃ u, e = .returned u ∧ w'.ownsRow w.heap.size 3 1 u (havM m l).length ((havM m l).map (Value.int .i64))) ∧ Below w.heap.size w w' := by
  obtain ⟨i0, hi, hz0, hz1, hz2⟩ := info_parts Sw.info3
  have hbz := h.lt
  have HH := hidT h
  have HL := hidT hl
  have HS := hidT (sorted_any b l w h hl)
  clear h hl
  have hfm := fieldM
  go_enter Try.func36, Try.ntmps36
  go_wp2_with (go_at_call 79; refine HS.out.mono ?_; rintro e w1 ⟨⟨u, rfl, ho1⟩, hb1⟩; have HO1 := hidT ho1; have HB1 := hidT hb1; clear ho1 hb1; obtain ⟨a1, c1, rfl, -⟩ := Sw.owns_slice HO1.out)
  have hz1w := HB1.out.size
  have hlc : (l.length : Int) ≤ 1000000 := by have := HL.out; omega
  go_loopw [5, 11] (fun v i wr => ∃ k : Nat, k ≤ l.length ∧ i = .int .i64 k ∧ Hid (wr.ownsRow w1.heap.size 3 1 v (havM m (l.take k)).length ((havM m (l.take k)).map (Value.int .i64))) ∧ Hid (Below w1.heap.size w1 wr)) (fun _ i _ => l.length - (intOf i).toNat)
  case atStart => exact ⟨0, Nat.zero_le _, rfl, hidT (by exact World.ownsRow_nil _ _ _ _), hidT (Below.refl _ _)⟩
  case round =>
    obtain ⟨k, hk, rfl, hown, hbl⟩ := hrel
    by_cases hlt : k < l.length
    · have hlt' : (k : Int) < (l.length : Int) := by omega
      obtain ⟨p, hp⟩ : ∃ p, l[k]? = some p := ⟨_, List.getElem?_eq_getElem hlt⟩
      have HP := hidT hp
      have hoR := owns_below HO1.out hbl.out
      obtain ⟨g1, c1', e1⟩ := Sw.own_some2 hoR (by omega)
      cases e1
      have ck : wr.cell? ⟨g1, k, none⟩ = some (.int .i64 p.1) := by
        rw [hoR.cellAt k (by omega), List.getElem?_map, List.getElem?_map, hp]
        rfl
      have hg1 := (hoR.lt g1 rfl).2
      have HMP : Hid (Mp wr b l) := hidT ((HH.out.below HB1.out).below hbl.out)
      have hgm : getM p.1 l = some p.2 := getM_of_mem HH.out.up (List.mem_of_getElem? hp)
      have hwf := HH.out.wf hgm
      have hlk := HMP.out.look hwf
      rw [hgm] at hlk
      simp only [Option.getD_some, thV] at hlk
      have HSN := hidT (havM_snoc (m := m) HP.out)
      clear hoR hp hgm
      cases hb : hasB p.2.m m
      · have hb' : (bits .and .i64 p.2.m m == m) = false := hb
        rw [hb] at HSN
        go_wp2_with fail
        refine ⟨⟨k + 1, by omega, by go_num, ?_, hbl⟩, by simp [intOf]; omega⟩
        rw [HSN.out]
        simp only [Bool.false_eq_true, if_false, List.append_nil]
        exact hown
      · have hb' : (bits .and .i64 p.2.m m == m) = true := hb
        rw [hb] at HSN
        simp only [if_true] at HSN
        obtain ⟨out, HOUT⟩ : ∃ o, Hid (o = havM m (l.take k)) := ⟨_, rfl⟩
        rw [← HOUT.out] at hown HSN
        obtain ⟨n, HN⟩ : ∃ n, Hid (n = out.length) := ⟨_, rfl⟩
        rw [← HN.out] at hown
        have hml : n ≤ 1000000 := by
          have h1 := HN.out
          rw [HOUT.out] at h1
          have h2 := havM_len m (l.take k)
          rw [List.length_take] at h2
          have := HL.out
          omega
        obtain ⟨av, cv, rfl, -⟩ := Sw.owns_slice hown.out
        have HO4 := hidT (owns_below hown.out (bal (Below.refl _ wr) (.cells #[.int .i64 p.1] 3)))
        have hbs := hbl.out.size
        go_wp2_with (at_builtin; refine wpList_append_own_at _ rfl _ _ 47 rfl w1.heap.size 3 i0 (.int .i64 0) 1 8 Try.underlying47 hi hz0 hz1 hz2 rfl (by decide) _ _ _ rfl HO4.out ⟨wr.heap.size, 0, none⟩ 1 1 [.int .i64 p.1] rfl ?c1 ?c2 ?c3 ?c4 ?c5 ?c6 ?_)
        case c1 => rfl
        case c2 =>
          intro j u hj
          match j, hj with
          | 0, hj => cases hj; simp [Addr.add]
        case c3 => intro u hu; simp at hu; subst hu; rfl
        case c4 => unfold maxLen; omega
        case c5 => omega
        case c6 => simp; omega
        intro v' w7 hown7 hg7 _ _
        have hvb : ∀ z, (Value.slice av n cv).ownBlock = some z → w1.heap.size ≤ z ∧ z < wr.heap.size := fun z hz => hown.out.lt z hz
        have HB7 : Hid (Below w1.heap.size w1 w7) := hidT ((bal hbl.out (.cells #[.int .i64 p.1] 3)).grown hg7 (bal hbl.out _).size (fun z e => (hvb z e).1))
        rw [← List.map_nil (f := Value.int .i64), ← List.map_cons, ← List.map_append, ← HSN.out] at hown7
        have HO7 := hidT hown7
        clear hown7 hg7 HO4
        go_wp2_with fail
        refine ⟨⟨k + 1, by omega, by go_num, ?_, HB7⟩, by simp [intOf]; omega⟩
        have e : n + 1 = (havM m (l.take (k + 1))).length := by rw [HSN.out, List.length_append]; have := HN.out; simp; omega
        rw [← e]
        exact HO7
    · have hkn : k = l.length := by omega
      subst hkn
      go_wp2_with fail
      go_ret
      refine ⟨⟨_, rfl, ?_⟩, bcall HB1.out hbl.out⟩
      have h1 := hown.out
      rw [List.take_length] at h1
      exact Joins.ownsRow_le h1 hz1w
end Go.Proofs.Ytckkkdldljhehaa.Th
