/- Put together: A row that is handed over, with the bounds of its numbers; and StoreTurns of package ninepinslaw over any store in memory: true. Proved: for every store, number, mask and row, StoreTurns of package ninepinslaw returns true, and its arguments read as before. No conditions. -/
import Derived.Test.YtckkkdldljhehaaPkX
import Derived.Test.YtckkkdldljhehaaPkY
import Derived.Test.YtckkkdldljhehaaPkZ
import Derived.Test.YtckkkdldljhehaaKtStOpen
import Derived.WalkKit
import Derived.ProofKit
import Derived.OpenShut
import Derived.SizedLaws
namespace Go.Proofs.Ytckkkdldljhehaa.Te
open Go.Proofs.Ytckkkdldljhehaa.Num Go.Proofs.Ytckkkdldljhehaa.St Go.Proofs.Ytckkkdldljhehaa.Mp Go.Proofs.Ytckkkdldljhehaa.Th
open Go.ChangeShapes Go.WideShapes Go.ChangeAt Go.RowKit

section
variable {H : Type} {enc : TypeId × Value → H} {W : World}
set_option maxRecDepth 100000 in
theorem row_fields64 {fuel : Nat} {cs : List Value} {x : DataW H × List MemPlace} (h : DataW.trod enc Try.prog W 0 (fun _ => true) true fuel 30 cs = some x) : ∃ r : R8, cs = rowCells r ∧ In64 r := by
  obtain ⟨xs, n, _, rfl, hl, hlen, hf⟩ := DataW.trod_struct Try.underlying30 h
  rw [cells30] at hl
  match cs, hl with
  | [c0, c1, c2, c3, c4, c5, c6, c7], _ =>
    match xs, hlen with
    | [y0, y1, y2, y3, y4, y5, y6, y7], _ =>
      have k : ∀ {c : Value} {y : DataW H × List MemPlace}, DataW.trod enc Try.prog W 0 (fun _ => true) true n 3 [c] = some y → ∃ q, c = .int .i64 q ∧ (Lit.int .i64 q).wf = true := fun hq => by
        obtain ⟨q, e, _, hw⟩ := DataW.trod_int Try.underlying3 hq
        exact ⟨q, by simpa using e, hw⟩
      have g0 := hf 0 _ rfl
      have g1 := hf 1 _ rfl
      have g2 := hf 2 _ rfl
      have g3 := hf 3 _ rfl
      have g4 := hf 4 _ rfl
      have g5 := hf 5 _ rfl
      have g6 := hf 6 _ rfl
      have g7 := hf 7 _ rfl
      simp [cells3] at g0 g1 g2 g3 g4 g5 g6 g7
      obtain ⟨q0, rfl, w0⟩ := k g0
      obtain ⟨q1, rfl, w1⟩ := k g1
      obtain ⟨q2, rfl, w2⟩ := k g2
      obtain ⟨q3, rfl, w3⟩ := k g3
      obtain ⟨q4, rfl, w4⟩ := k g4
      obtain ⟨q5, rfl, w5⟩ := k g5
      obtain ⟨q6, rfl, w6⟩ := k g6
      obtain ⟨q7, rfl, w7⟩ := k g7
      exact ⟨⟨q0, q1, q2, q3, q4, q5, q6, q7⟩, rfl, w0, w1, w2, w3, w4, w5, w6, w7⟩

set_option maxRecDepth 100000 in
theorem open_row64 {r : Reach} {b0 : Nat} {v : Value} {d : DataW H} {p : List MemPlace} (hv : Value.okWide Try.prog W r b0 30 v) (h : DataW.Trod enc Try.prog W 0 (fun _ => true) true 30 v d p) :
    ∃ x : R8, v = .agg #[.int .i64 x.x, .int .i64 x.y, .int .i64 x.px, .int .i64 x.py, .int .i64 x.wd, .int .i64 x.ht, .int .i64 x.ms, .int .i64 x.rr] ∧ In64 x := by
  obtain ⟨cs, rfl, _⟩ := okWide_struct Try.underlying30 hv
  obtain ⟨fuel, hf⟩ := h
  obtain ⟨x, hx, hi⟩ := row_fields64 hf
  refine ⟨x, ?_, hi⟩
  have : cs.toList = rowCells x := by simpa [Value.cells] using hx
  rw [← Array.toArray_toList (xs := cs), this]
  rfl
end
theorem storeTurns_any (a : Option Addr) (n cap : Nat) (next id mask : Int) (r : R8) (T : Nat → TabV) (I : Nat → Nat → Int) (R : Nat → Nat → R8) (w : World) (hin : StoreIn w a n T I R) (hidw : (Lit.int .i64 id).wf = true) (hr64 : In64 r) :
    Calls Try.prog 6 #[.agg #[.slice a n cap, .int .i64 next], .int .i64 id, .int .i64 mask, .agg #[.int .i64 r.x, .int .i64 r.y, .int .i64 r.px, .int .i64 r.py, .int .i64 r.wd, .int .i64 r.ht, .int .i64 r.ms, .int .i64 r.rr]] w fun e w' => e = .returned (.bool true) ∧ Below w.heap.size w w' := by
  by_cases h1 : GoodL next (plainOf T I R n)
  · by_cases h2 : goodRowB mask r = true
    · by_cases h3 : (allL (plainOf T I R n)).length = 10
      · exact storeTurns_Q a n cap next id mask r T I R w hin hidw hr64 ⟨h2, h3⟩
      · by_cases h4 : next = 1048576
        · exact storeTurns_T a n cap next id mask r T I R w hin hidw hr64 ⟨h2, h3, h4⟩
        · exact storeTurns_S a n cap next id mask r T I R w hin hidw hr64 ⟨h2, h3, h4⟩
    · exact storeTurns_P a n cap next id mask r T I R w hin hidw hr64 (by simpa using h2)
  · exact storeTurns_N a n cap next id mask r T I R w hin hidw hr64 h1
end Go.Proofs.Ytckkkdldljhehaa.Te
namespace Go.Proofs.Ytckkkdldljhehaa.storeTurns
open St Num Te
open Go.ChangeShapes Go.WideShapes Go.ChangeAt Go.RowKit

theorem own : ownKnob Try.prog.godebug = none := by kernel_rfl
theorem laidOut : laidOutB Try.prog = true := by kernel_rfl

set_option maxRecDepth 100000 in
theorem lifted (os : Os) (started : os.Started) (H : Type) (enc : TypeId × Value → H) :
    ReturnsInHanded {} Try.checked os 6 .any (Rows.storeTurnsSpec.pre6 enc Try.prog Try.f6 Rows.storeTurnsRow.domain false) (Rows.storeTurnsSpec.post enc Try.prog Try.f6 false true false false) := by
  refine returnsInHanded_of_change_sized (C := Try.checked) own started (by kernel_rfl) Try.func6
    (ChangeSpec.witness6 (enc := enc) (C := Try.checked) false ⟨#[], #[.agg #[.slice none 0 0, .int .i64 0], .int .i64 0, .int .i64 0, .agg #[.int .i64 0, .int .i64 0, .int .i64 0, .int .i64 0, .int .i64 0, .int .i64 0, .int .i64 0, .int .i64 0]], []⟩ 8 (by kernel_rfl) (by kernel_rfl) (by kernel_rfl) (by kernel_rfl)) ?_
  intro W base args ds gs before hval0 hW _ hsz0 _
  have hsz : (DataW.weightsEach Try.prog (Try.f6.params.toList ++ Rows.storeTurnsSpec.plain.varTypes Try.prog) (ds ++ gs)).all (· ≤ reachBytes) = true := hsz0
  have hval : ∀ (j : Nat) t v, Try.f6.params[j]? = some t → args[j]? = some v → Value.okWide Try.prog W .any base t v := hval0
  have hW' := hW
  obtain ⟨p, q, hA0, hV, rfl, _, _⟩ := hW
  have hA : DataW.TrodAll enc Try.prog W 0 (fun _ => true) true Try.f6.params.toList args.toList ds p := hA0
  rw [Try.params6] at hA hval hsz
  obtain ⟨v0, vs0, d0, ds0, p0, q0, hargs, rfl, rfl, h0, r0⟩ := trodAll_cons hA
  obtain ⟨v1, vs1, d1, ds1, p1, q1, rfl, rfl, rfl, h1, r1⟩ := trodAll_cons r0
  obtain ⟨v2, vs2, d2, ds2, p2, q2, rfl, rfl, rfl, h2, r2⟩ := trodAll_cons r1
  obtain ⟨v3, vs3, d3, ds3, p3, q3, rfl, rfl, rfl, h3, r3⟩ := trodAll_cons r2
  obtain ⟨rfl, rfl, rfl⟩ := trodAll_nil r3
  obtain rfl : args = #[v0, v1, v2, v3] := by cases args; simp_all
  obtain ⟨rfl, rfl⟩ := trodVars_none hV
  have hlt : ∀ x ∈ p0 ++ (p1 ++ (p2 ++ (p3 ++ []))), x.block < W.heap.size := fun x hx => by simpa using hW'.lt x (by simpa using hx)
  have hk0 : ∀ (W' : World), Below W.heap.size W W' → DataW.Trod enc Try.prog W' 0 (fun b => decide (b < W.heap.size)) true 28 v0 d0 p0 :=
    fun W' hn => Below.trod laidOut (by kernel_rfl) (of_decide_eq_true (by kernel_rfl)) h0 hn (fun x hx => hlt x (List.mem_append.2 (Or.inl hx)))
  have hk1 : ∀ (W' : World), Below W.heap.size W W' → DataW.Trod enc Try.prog W' 0 (fun b => decide (b < W.heap.size)) true 3 v1 d1 p1 :=
    fun W' hn => Below.trod laidOut (by kernel_rfl) (of_decide_eq_true (by kernel_rfl)) h1 hn (fun x hx => hlt x (List.mem_append.2 (Or.inr (List.mem_append.2 (Or.inl hx)))))
  have hk2 : ∀ (W' : World), Below W.heap.size W W' → DataW.Trod enc Try.prog W' 0 (fun b => decide (b < W.heap.size)) true 3 v2 d2 p2 :=
    fun W' hn => Below.trod laidOut (by kernel_rfl) (of_decide_eq_true (by kernel_rfl)) h2 hn (fun x hx => hlt x (List.mem_append.2 (Or.inr (List.mem_append.2 (Or.inr (List.mem_append.2 (Or.inl hx)))))))
  have hk3 : ∀ (W' : World), Below W.heap.size W W' → DataW.Trod enc Try.prog W' 0 (fun b => decide (b < W.heap.size)) true 30 v3 d3 p3 :=
    fun W' hn => Below.trod laidOut (by kernel_rfl) (of_decide_eq_true (by kernel_rfl)) h3 hn (fun x hx => hlt x (List.mem_append.2 (Or.inr (List.mem_append.2 (Or.inr (List.mem_append.2 (Or.inr (List.mem_append.2 (Or.inl hx)))))))))
  obtain ⟨a0, n0, cap0, next0, T0, I0, R0, rfl, hin0, hnx0⟩ := open_store (hval 0 28 v0 rfl rfl) h0 (fun x hx => by
    have := List.all_eq_true.1 hsz x (DataW.weights_mem_each (j := 0) (t := 28) (d := d0) rfl rfl x hx)
    simpa using this)
  obtain ⟨i1, rfl, -, -, w1⟩ := open_int Try.underlying3 (hval 1 3 v1 rfl rfl) h1
  obtain ⟨i2, rfl, -, -, -⟩ := open_int Try.underlying3 (hval 2 3 v2 rfl rfl) h2
  obtain ⟨rw3, rfl, w3⟩ := open_row64 (hval 3 30 v3 rfl rfl) h3
  simp only [List.append_nil] at hW'
  refine (storeTurns_any a0 n0 cap0 next0 i1 i2 rw3 T0 I0 R0 W hin0 w1 w3).mono fun e W' ⟨he, hb⟩ => ?_
  subst he
  refine ⟨_, rfl, _, _, _, [], p0 ++ (p1 ++ (p2 ++ (p3 ++ []))), [], hW', ?_, ?_, rfl, hb.frame _, fun h => by cases h⟩
  · exact trodAll_cons_mk (shut_bool Try.underlying4 _) trodAll_mk0
  · exact trodAll_cons_mk (hk0 _ hb) (trodAll_cons_mk (hk1 _ hb) (trodAll_cons_mk (hk2 _ hb) (trodAll_cons_mk (hk3 _ hb) trodAll_mk0)))

theorem over : Rows.storeTurnsRow.holds Try.pinned (OpenSpec.ofChange Rows.storeTurnsSpec) :=
  OpenClaim.holds_of_wide 6 Try.f6 rfl rfl rfl rfl rfl rfl rfl ⟨rfl, rfl, rfl, rfl, rfl⟩ rfl rfl rfl rfl rfl (by kernel_rfl) Try.func6 (by kernel_rfl)
    (of_decide_eq_true (by kernel_rfl)) (by unfold Func.isWrapper; first | (rw [if_pos (by decide +kernel)]; kernel_rfl) | (rw [if_neg (by decide +kernel)]; exact ⟨rfl, rfl⟩))
    (fun os started H enc _ => lifted os started H enc)

theorem proved : Rows.StoreTurnsSaid :=
  over
#print axioms proved
end Go.Proofs.Ytckkkdldljhehaa.storeTurns
namespace Go.Proofs.Ytckkkdldljhehaa
theorem storeTurns_holds : Rows.StoreTurnsSaid := storeTurns.proved
end Go.Proofs.Ytckkkdldljhehaa
