/- Part of the proofs of GamePlays and GameRuns (package ninepinslaw): contracts of the functions that they call. -/
import Derived.Test.YtckkkdldljhehacGreatPkRA
namespace Go.Proofs.YtckkkdldljhehacGreat
namespace Rf
open Num St Mp Th Wd Gm Ws
open Go.ChangeShapes Go.WideShapes Go.ChangeAt Go.RowKit
attribute [local go_sem ↓] Go.wp_at_zero Go.wp_at_succ
structure S5 (w : World) (F G : Nat → Prop) (b : Nat) (s : Gp) (x : Ac) (t : Th) (c : Nat) (vs : Value) (ms : List Nat) (tb : Nat) (W : World) : Prop where
 ac : W.rowIs w.heap.size 38 17 (fun i => (actCells x).getD i undef)
 rp : W.rowIs (w.heap.size + 1) 31 4 (Rp.rcell 0 0 (.slice none 0 0) (.slice none 0 0))
 gw : RGamP W G b s c vs ms
 kw : Gm.Kept F w W
 th : W.rowIs tb 105 9 (fun i => (thCells t).getD i undef)
 tn : w.heap.size + 1 < tb
 tg : ¬ G tb
 cn : c < w.heap.size ∨ w.heap.size + 1 < c
 ow : F b
 fl : ∀ z, F z → z < w.heap.size
 fn : ∀ z, G z → F z ∨ w.heap.size + 2 ≤ z
theorem wp_world {P : Program} {c : Code} {Q : Exit → Act → World → Prop} {A : Act} {w0 : World} (h : ∀ W, W = w0 → Code.wp P c Q A W) : Code.wp P c Q A w0 := h w0 rfl
section
variable {w W W' : World} {F G : Nat → Prop} {b : Nat} {s : Gp} {x : Ac} {t : Th} {c : Nat} {vs : Value} {ms : List Nat} {tb : Nat}
theorem S5.below (h : S5 w F G b s x t c vs ms tb W) (hb : Below W.heap.size W W') : S5 w F G b s x t c vs ms tb W' :=
 ⟨rowIs_below h.ac hb, rowIs_below h.rp hb, h.gw.below hb, h.kw.call hb, rowIs_below h.th hb, h.tn, h.tg, h.cn, h.ow, h.fl, h.fn⟩
theorem S5.drew (h : S5 w F G b s x t c vs ms tb W) : S5 w F G b s x t c vs ms tb W.drew := h.below (Below.drew (Below.refl _ _))
theorem S5.lts (h : S5 w F G b s x t c vs ms tb W) : b < w.heap.size ∧ w.heap.size + 1 < tb ∧ tb < W.heap.size ∧ c < W.heap.size ∧ w.heap.size < W.heap.size ∧ w.heap.size + 1 < W.heap.size ∧ b < W.heap.size := by
 have h1 := h.fl b h.ow
 have h2 := h.tn
 have h3 := h.th.lt
 exact ⟨h1, h2, h3, h.gw.lt c h.gw.inC.1, by omega, by omega, by omega⟩
theorem S5.rcs (h : S5 w F G b s x t c vs ms tb W) : W.cell? ⟨w.heap.size + 1, 0, none⟩ = some (.int .i64 0) ∧ W.cell? ⟨w.heap.size + 1, 1, none⟩ = some (.int .i64 0) ∧ W.cell? ⟨w.heap.size + 1, 2, none⟩ = some (.slice none 0 0) ∧ W.cell? ⟨w.heap.size + 1, 3, none⟩ = some (.slice none 0 0) ∧ W.frozen? ⟨w.heap.size + 1, 0, none⟩ = false ∧ W.frozen? ⟨w.heap.size + 1, 1, none⟩ = false ∧ W.frozen? ⟨w.heap.size + 1, 2, none⟩ = false ∧ W.frozen? ⟨w.heap.size + 1, 3, none⟩ = false := by
 obtain ⟨p0, p1, p2, p3⟩ := Rp.rcells h.rp
 exact ⟨p0, p1, p2, p3, h.rp.frozen 0, h.rp.frozen 1, h.rp.frozen 2, h.rp.frozen 3⟩
theorem S5.gcs (h : S5 w F G b s x t c vs ms tb W) : W.cell? ⟨b, 0, none⟩ = some (.map (some c)) ∧ W.cell? ⟨b, 1, none⟩ = some (.int .i64 s.now.next) ∧ W.cell? ⟨b, 2, none⟩ = some (.int .i64 s.now.fall) ∧ W.cell? ⟨b, 3, none⟩ = some (.int .i64 s.now.wide) ∧ W.cell? ⟨b, 4, none⟩ = some (.int .i64 s.now.high) ∧ W.cell? ⟨b, 5, none⟩ = some (vs) ∧ W.cell? ⟨b, 6, none⟩ = some (.int .i64 s.acts) ∧ W.frozen? ⟨b, 0, none⟩ = false ∧ W.frozen? ⟨b, 1, none⟩ = false ∧ W.frozen? ⟨b, 2, none⟩ = false ∧ W.frozen? ⟨b, 3, none⟩ = false ∧ W.frozen? ⟨b, 4, none⟩ = false := by
 obtain ⟨x0, x1, x2, x3, x4, x5, x6⟩ := rgcells h.gw.row
 exact ⟨x0, x1, x2, x3, x4, x5, x6, h.gw.row.frozen 0, h.gw.row.frozen 1, h.gw.row.frozen 2, h.gw.row.frozen 3, h.gw.row.frozen 4⟩
theorem S5.grownO (h : S5 w F G b s x t c vs ms tb W) {o : Option Nat} (hg : W.grownBy W' o) (ho : ∀ z, o = some z → w.heap.size + 1 < z ∧ z ≠ tb ∧ ¬ G z) : S5 w F G b s x t c vs ms tb W' :=
 ⟨rowIs_grown h.ac hg (fun e => by have := ho _ e; omega), rowIs_grown h.rp hg (fun e => by have := ho _ e; omega), h.gw.kept (G := fun y => o = some y) (Gm.Kept.grown (Gm.Kept.below (Below.refl _ W)) hg (fun y e => Or.inl e)) (fun y hy e => (ho y e).2.2 hy), h.kw.grown hg (fun y e => Or.inr (by have := ho y e; omega)), rowIs_grown h.th hg (fun e => (ho _ e).2.1 rfl), h.tn, h.tg, h.cn, h.ow, h.fl, h.fn⟩
theorem S5.grown (h : S5 w F G b s x t c vs ms tb W) {z : Nat} (hg : W.grownBy W' (some z)) (h1 : w.heap.size + 1 < z) (h2 : z ≠ tb) (h3 : ¬ G z) : S5 w F G b s x t c vs ms tb W' := h.grownO hg (fun _ e => by cases e; exact ⟨h1, h2, h3⟩)
theorem S5.thing (h : S5 w F G b s x t c vs ms tb W) {t' : Th} (hg : W.grownBy W' (some tb)) (ht : W'.rowIs tb 105 9 (fun i => (thCells t').getD i undef)) : S5 w F G b s x t' c vs ms tb W' := by
 have h1 := h.tn
 exact ⟨rowIs_grown h.ac hg (fun e => by cases e; omega), rowIs_grown h.rp hg (fun e => by cases e; omega), h.gw.kept (G := fun y => y = tb) (Gm.Kept.grown (Gm.Kept.below (Below.refl _ W)) hg (fun y e => Or.inl (by cases e; rfl))) (fun y hy e => h.tg (e ▸ hy)), h.kw.grown hg (fun y e => Or.inr (by cases e; omega)), ht, h.tn, h.tg, h.cn, h.ow, h.fl, h.fn⟩
theorem S5.loaded {c2 : Nat} {y : Wp} {V : World} (h : S5 w F G b s x t c vs ms tb W) (hb : Below W.heap.size W W') (hc : W.heap.size ≤ c2) (hm : Mp W' c2 (thM y.L)) (hV : V = put5 W' b (.map (some c2)) y.next y.fall y.wide y.high) : S5 w F (fun z => G z ∨ z = c2) b { s with now := y } x t c2 vs ms tb V := by
 subst hV
 have h6 := h.below hb
 have hg := grown5 W' b (.map (some c2)) y.next y.fall y.wide y.high
 obtain ⟨z0, z1, z2, -⟩ := h.lts
 exact ⟨rowIs_grown h6.ac hg (fun e => by cases e; omega), rowIs_grown h6.rp hg (fun e => by cases e; omega), h6.gw.setNow (x := y) hm (fun hf => by have := h.gw.lt _ hf; omega), h6.kw.grown hg (fun z e => Or.inl (by cases e; exact h.ow)), rowIs_grown h6.th hg (fun e => by cases e; omega), h.tn, fun hc => hc.elim h.tg (fun e => by omega), Or.inr (by omega), h.ow, h.fl, fun z hz => hz.elim (h.fn z) (fun e => Or.inr (by omega))⟩
theorem S5.copied {c2 : Nat} {V : World} (h : S5 w F G b s x t c vs ms tb W) (hb : Below W.heap.size W W') (hc : W.heap.size ≤ c2) (hm : Mp W' c2 (thM s.now.L)) (hV : V = put5 W' b (.map (some c2)) s.now.next s.now.fall s.now.wide s.now.high) : S5 w F (fun z => G z ∨ z = c2) b s x t c2 vs ms tb V := h.loaded (y := s.now) hb hc hm hV
theorem S5.turned {L : List Tab} (h : S5 w F G b s x t c vs ms tb W) (ht : W.drew.mapTurned W' c) (hm : Mp W' c (thM L)) : S5 w F G b { s with now := { s.now with L := L } } x t c vs ms tb W' := by
 have h1 := h.drew
 have hg : W.drew.grownBy W' (some c) := ht.grown
 have hc := h.cn
 exact ⟨rowIs_grown h1.ac hg (fun e => by cases e; omega), rowIs_grown h1.rp hg (fun e => by cases e; omega), h1.gw.turn ht hm, h1.kw.grown hg (fun y e => by cases e; exact (h.fn c h.gw.inC.1).imp (fun h => h) (fun h => by omega)), rowIs_grown h1.th hg (fun e => h.tg (by cases e; exact h.gw.inC.1)), h.tn, h.tg, h.cn, h.ow, h.fl, h.fn⟩
theorem S5.no (h : S5 w F G b s x t c vs ms tb W) (n k : Int) (x0 x1 x2 x3 : Value) : PostR w F b s ⟨k, n, [], []⟩ (.returned (.agg #[.int .i64 k, .int .i64 n, .slice none 0 0, .slice none 0 0])) ((((W.setCell ⟨w.heap.size + 1, 0, none⟩ x0).setCell ⟨w.heap.size + 1, 1, none⟩ x1).setCell ⟨w.heap.size + 1, 2, none⟩ x2).setCell ⟨w.heap.size + 1, 3, none⟩ x3) := post_no ⟨_, _, _, h.gw⟩ h.fn h.fl h.kw n k x0 x1 x2 x3
end
structure RIn (F : Nat → Prop) (b : Nat) (s : Gp) (w : World) (id mask : Int) : Prop where
 G : RGam w F b s
 g : GoodG s
 a : s.acts < 150
 i : (Lit.int .i64 id).wf = true
 m : -9223372036854775808 ≤ mask ∧ mask ≤ 9223372036854775807
theorem RIn.len {F : Nat → Prop} {b : Nat} {s : Gp} {w : World} {id mask : Int} (h : RIn F b s w id mask) : (thM s.now.L).length ≤ 10 := by rw [thM_len h.g.now.l.even h.g.now.l.2.2.2.2.2]; exact h.g.now.l.2.1
def RDone (F : Nat → Prop) (b : Nat) (s : Gp) (w : World) (x : Ac) : Prop := Calls Tryz.prog 27 #[.pointer (some ⟨b, 0, none⟩), actA x] w (PostR w F b (doG s x).1 (doG s x).2)
structure There (s : Gp) (id : Int) (t : Th) : Prop where
 get : getM id (thM s.now.L) = some t
 inn : id ∈ allL s.now.L
 msk : mk s.now.L id = t.m
 rw : rw0 s.now.L id = t.r
 at_ : At s.now.L id t.m t.r
 good : goodRowB t.m t.r = true
theorem there_of {s : Gp} {id : Int} (hg : GoodG s) (hin : id ∈ allL s.now.L) : ∃ t, There s id t := by
 have hgl := hg.now.l
 obtain ⟨m, q, hat⟩ := at_of_mem hgl.even hin
 obtain ⟨hmk, hrw⟩ := at_mk hgl.2.2.2.2.2 hat
 exact ⟨⟨m, q⟩, (thM_get hgl.even hgl.2.2.2.2.2).2 hat, hin, hmk, hrw, hat, (At.good hgl hat).1⟩
theorem do_act {s : Gp} {x : Ac} {r : Wp × Rep} (ha : s.acts < 150) (h7 : ¬ x.kind = 7) (h8 : ¬ x.kind = 8) (h : actW s.now x = r) : doG s x = ({ s with now := r.1, acts := s.acts + 1 }, r.2) := by
 unfold doG
 rw [if_neg (by show ¬ 150 ≤ s.acts; omega), if_neg h7, if_neg h8, h]
set_option maxHeartbeats 16000000 in
set_option maxRecDepth 100000 in
noncomputable def rdoT {F : Nat → Prop} {b : Nat} {s : Gp} {w : World} (k : Int) {id n mask : Int} {row : R8} {box : Sw.B5} (hR : RIn F b s w id mask) (o : Option Th) (ho : getM id (thM s.now.L) = o) (PX : Ending → World → Prop) :
  { T : Nat → Value → List Nat → (Nat → Value) → Nat → World → Prop // (∀ c vs ms f tb W, S5 w F F b { s with acts := s.acts + 1 } ⟨k, id, n, mask, row, box⟩ (o.getD zTh) c vs ms tb W → T c vs ms f tb W) → Calls Tryz.prog 27 #[.pointer (some ⟨b, 0, none⟩), actV k id n mask row.x row.y row.px row.py row.wd row.ht row.ms row.rr box.id box.x1 box.y1 box.x2 box.y2] w PX } := by
 apply Subtype.mk
 ·intro hT
  obtain ⟨c, vs, ms, hG⟩ := hR.G
  have ha := hR.a
  have hidw := hR.i
  have HT := St.hid hT
  have HO := St.hid ho
  have HOWN := St.hid hG.own
  have HFL := St.hid hG.lt
  obtain ⟨V, hV⟩ : ∃ V, V = ((w.setCell ⟨b, 6, none⟩ (.int .i64 ((s.acts : Int) + 1))).alloc (.cells #[.int .i64 k, .int .i64 id, .int .i64 n, .int .i64 mask, .int .i64 row.x, .int .i64 row.y, .int .i64 row.px, .int .i64 row.py, .int .i64 row.wd, .int .i64 row.ht, .int .i64 row.ms, .int .i64 row.rr, .int .i64 box.id, .int .i64 box.x1, .int .i64 box.y1, .int .i64 box.x2, .int .i64 box.y2] 38)).alloc (.cells #[.int .i64 0, .int .i64 0, .slice none 0 0, .slice none 0 0] 31) := ⟨_, rfl⟩
  have HG2 := St.hid (hG.below (bal (bal (Below.refl _ w) (.cells #[.int .i64 k, .int .i64 id, .int .i64 n, .int .i64 mask, .int .i64 row.x, .int .i64 row.y, .int .i64 row.px, .int .i64 row.py, .int .i64 row.wd, .int .i64 row.ht, .int .i64 row.ms, .int .i64 row.rr, .int .i64 box.id, .int .i64 box.x1, .int .i64 box.y1, .int .i64 box.x2, .int .i64 box.y2] 38)) (.cells #[.int .i64 0, .int .i64 0, .slice none 0 0, .slice none 0 0] 31)))
  obtain ⟨-, -, -, -, -, -, x6⟩ := rgcells HG2.out.row
  have f6 := HG2.out.row.frozen 6
  have h150 : ((s.acts : Int) == 150) = false := by simp; omega
  have hai : (s.acts : Int) < 150 := by omega
  have hsz : (w.setCell ⟨b, 6, none⟩ (.int .i64 ((s.acts : Int) + 1))).heap.size = w.heap.size := by simp [World.setCell]
  have hAC : Hid (V.rowIs w.heap.size 38 17 (fun i => (actCells ⟨k, id, n, mask, row, box⟩).getD i undef)) := St.hid (by
   have h1 := (rowIsL (w.setCell ⟨b, 6, none⟩ (.int .i64 ((s.acts : Int) + 1))) (actCells ⟨k, id, n, mask, row, box⟩) 38).alloc (.cells #[.int .i64 0, .int .i64 0, .slice none 0 0, .slice none 0 0] 31)
   rw [hsz] at h1
   rw [hV]
   exact h1)
  have hRP : Hid (V.rowIs (w.heap.size + 1) 31 4 (Rp.rcell 0 0 (.slice none 0 0) (.slice none 0 0))) := St.hid (by
   have h1 := Rp.rowIs4 ((w.setCell ⟨b, 6, none⟩ (.int .i64 ((s.acts : Int) + 1))).alloc (.cells #[.int .i64 k, .int .i64 id, .int .i64 n, .int .i64 mask, .int .i64 row.x, .int .i64 row.y, .int .i64 row.px, .int .i64 row.py, .int .i64 row.wd, .int .i64 row.ht, .int .i64 row.ms, .int .i64 row.rr, .int .i64 box.id, .int .i64 box.x1, .int .i64 box.y1, .int .i64 box.x2, .int .i64 box.y2] 38)) 0 0 (.slice none 0 0) (.slice none 0 0) 31
   rw [World.size_alloc, hsz] at h1
   rw [hV]
   exact h1)
  have HGW : Hid (RGamP V F b { s with acts := s.acts + 1 } c vs ms) := St.hid (by rw [hV]; exact (hG.acts (s.acts + 1)).below (bal (bal (Below.refl _ _) _) _))
  have HKW : Hid (Gm.Kept F w V) := St.hid (by rw [hV]; exact ((Gm.Kept.below (F := F) (Below.refl _ w)).set (Or.inl hG.own) 6 (.int .i64 ((s.acts : Int) + 1))).call (bal (bal (Below.refl _ _) _) _))
  have hzV : V.heap.size = w.heap.size + 1 + 1 := by rw [hV]; simp [World.setCell]
  have hbz := hG.lt b hG.own
  have HV := St.hid hV
  clear hG HG2 hV hT
  go_enter Tryz.func27, Tryz.ntmps27
  go_upto_region 5 with fail
  rw [← HV.out]
  clear x6 f6 h150 HV
  have HSK : Hid (∀ W, Below V.heap.size V W → W.cell? ⟨b, 0, none⟩ = some (.map (some c)) ∧ W.cell? ⟨w.heap.size, 1, none⟩ = some (.int .i64 id) ∧ (Instr.lookup 71 (.map (some c)) (.int .i64 id) true).run Tryz.prog W = .ok (.tuple #[.agg #[.int .i64 (o.getD zTh).m, .int .i64 (o.getD zTh).r.x, .int .i64 (o.getD zTh).r.y, .int .i64 (o.getD zTh).r.px, .int .i64 (o.getD zTh).r.py, .int .i64 (o.getD zTh).r.wd, .int .i64 (o.getD zTh).r.ht, .int .i64 (o.getD zTh).r.ms, .int .i64 (o.getD zTh).r.rr], .bool o.isSome]) W) := St.hid (fun W hb => by
   obtain ⟨x0, -⟩ := rgcells (HGW.out.below hb).row
   obtain ⟨-, a1, -⟩ := acells (rowIs_below hAC.out hb)
   have h1 := (HGW.out.below hb).now.look_ok hidw
   simp only at h1
   rw [HO.out] at h1
   exact ⟨x0, a1, h1⟩)
  refine Rh.wp_act ?_
  intro A hA
  refine rreg5_wp _ A b c w.heap.size id (o.getD zTh) o.isSome V (by rw [hA]; rfl) (by rw [hA]; rfl) (by rw [hA]; exact Nat.le_of_ble_eq_true rfl) HSK.out ?_
  intro f tb W5 hf6 hf7 hrt hlt5 hb5
  subst hA
  simp only [Rh.puts, Act.put, hf6, hf7]
  go_simp
  rename_i K1 k1
  revert K1 k1
  exact HT.out c vs ms f tb W5 ⟨rowIs_below hAC.out hb5, rowIs_below hRP.out hb5, HGW.out.below hb5, HKW.out.call hb5, hrt, by omega, fun h => by have := HFL.out _ h; omega, Or.inl (HFL.out _ HGW.out.inC.1), HOWN.out, HFL.out, fun z hz => Or.inl hz⟩
set_option maxHeartbeats 16000000 in
set_option maxRecDepth 100000 in
theorem rdo_other {F : Nat → Prop} {b : Nat} {s : Gp} {w : World} (k : Int) (h1 : ¬ k = 1) (h2 : ¬ k = 2) (h3 : ¬ k = 3) (h4 : ¬ k = 4) (h5 : ¬ k = 5) (h6 : ¬ k = 6) (h7 : ¬ k = 7) (h8 : ¬ k = 8) (h9 : ¬ k = 9) {id n mask : Int} {row : R8} {box : Sw.B5} (hR : RIn F b s w id mask) : RDone F b s w ⟨k, id, n, mask, row, box⟩ := by
 unfold RDone
 rw [do_act (r := (s.now, no 4)) hR.a (by assumption) (by assumption) (by simp [actW, h1, h2, h3, h4, h5, h6, h9])]
 have e1 : (k == 1) = false := by simp [h1]
 have e2 : (k == 2) = false := by simp [h2]
 have e3 : (k == 3) = false := by simp [h3]
 have e4 : (k == 4) = false := by simp [h4]
 have e5 : (k == 5) = false := by simp [h5]
 have e6 : (k == 6) = false := by simp [h6]
 have e7 : (k == 7) = false := by simp [h7]
 have e8 : (k == 8) = false := by simp [h8]
 have e9 : (k == 9) = false := by simp [h9]
 obtain ⟨o, ho⟩ : ∃ o, getM id (thM s.now.L) = o := ⟨_, rfl⟩
 refine (rdoT k hR o ho _).2 ?_
 intro c vs ms f tb W5 h5
 have H5 := St.hid h5
 have HL := St.hid hR.len
 have HGD := St.hid hR.g
 have HIW := hR.i
 have HA := hR.a
 dsimp only [rdoT]
 intro K1 k1
 obtain ⟨hbz, htn, htl, hcl, hz0, hz1, hz2⟩ := h5.lts
 obtain ⟨a0, a1, a2, a3, a4, a5, a6, a7, a8, a9, a10, a11, a12, a13, a14, a15, a16⟩ := acells h5.ac
 clear h5 hR
 go_wp2_with fail
 refine (rno_any 4 _).mono ?_
 rintro e w9 ⟨rfl, hb9⟩
 have H9 := St.hid (H5.out.below hb9)
 clear hb9
 obtain ⟨p0, p1, p2, p3, p4, p5, p6, p7⟩ := H9.out.rcs
 have hpl := H9.out.rp.lt
 go_wp2_with fail
 obtain ⟨q0, q1, q2, q3⟩ := four (put4 H9.out.rp (.int .i64 4) (.int .i64 0) (.slice none 0 0) (.slice none 0 0))
 exact bodyPost_ret (v := .agg #[.int .i64 4, .int .i64 0, .slice none 0 0, .slice none 0 0]) (by simp [results, Tryz.results27, go_sem, q0, q1, q2, q3]) rfl (H9.out.no 0 4 _ _ _ _)
set_option maxHeartbeats 16000000 in
set_option maxRecDepth 100000 in
theorem rdo_full {F : Nat → Prop} {b : Nat} {s : Gp} {w : World} (hG : RGam w F b s) (hg : GoodG s) (ha : s.acts = 150) (k : Int) (id n mask : Int) (row : R8) (box : Sw.B5) (hidw : (Lit.int .i64 id).wf = true) (hmw : -9223372036854775808 ≤ mask ∧ mask ≤ 9223372036854775807) :
  Calls Tryz.prog 27 #[.pointer (some ⟨b, 0, none⟩), actV k id n mask row.x row.y row.px row.py row.wd row.ht row.ms row.rr box.id box.x1 box.y1 box.x2 box.y2] w (PostR w F b (doG s ⟨k, id, n, mask, row, box⟩).1 (doG s ⟨k, id, n, mask, row, box⟩).2) := by
 obtain ⟨c, vs, ms, hG⟩ := hG
 have HMW := St.hid hmw
 have HIW := St.hid hidw
 have HGD := St.hid hg
 have hbz := hG.lt b hG.own
 have HFL : Hid (∀ z, F z → z < w.heap.size) := St.hid hG.lt
 have HDO : doG s ⟨k, id, n, mask, row, box⟩ = (s, no 5) := by
  unfold doG
  rw [if_pos (by show 150 ≤ s.acts; omega)]
 rw [HDO]
 have HGW := St.hid (hG.below (bal (bal (Below.refl _ w) (.cells #[.int .i64 k, .int .i64 id, .int .i64 n, .int .i64 mask, .int .i64 row.x, .int .i64 row.y, .int .i64 row.px, .int .i64 row.py, .int .i64 row.wd, .int .i64 row.ht, .int .i64 row.ms, .int .i64 row.rr, .int .i64 box.id, .int .i64 box.x1, .int .i64 box.y1, .int .i64 box.x2, .int .i64 box.y2] 38)) (.cells #[.int .i64 0, .int .i64 0, .slice none 0 0, .slice none 0 0] 31)))
 obtain ⟨-, -, -, -, -, -, x6⟩ := rgcells HGW.out.row
 rw [ha] at x6
 have hRP : Hid (((w.alloc (.cells #[.int .i64 k, .int .i64 id, .int .i64 n, .int .i64 mask, .int .i64 row.x, .int .i64 row.y, .int .i64 row.px, .int .i64 row.py, .int .i64 row.wd, .int .i64 row.ht, .int .i64 row.ms, .int .i64 row.rr, .int .i64 box.id, .int .i64 box.x1, .int .i64 box.y1, .int .i64 box.x2, .int .i64 box.y2] 38)).alloc (.cells #[.int .i64 0, .int .i64 0, .slice none 0 0, .slice none 0 0] 31)).rowIs (w.heap.size + 1) 31 4 (Rp.rcell 0 0 (.slice none 0 0) (.slice none 0 0))) := St.hid (by
  have h1 := Rp.rowIs4 (w.alloc (.cells #[.int .i64 k, .int .i64 id, .int .i64 n, .int .i64 mask, .int .i64 row.x, .int .i64 row.y, .int .i64 row.px, .int .i64 row.py, .int .i64 row.wd, .int .i64 row.ht, .int .i64 row.ms, .int .i64 row.rr, .int .i64 box.id, .int .i64 box.x1, .int .i64 box.y1, .int .i64 box.x2, .int .i64 box.y2] 38)) 0 0 (.slice none 0 0) (.slice none 0 0) 31
  rw [World.size_alloc] at h1
  exact h1)
 have HKW : Hid (Gm.Kept F w ((w.alloc (.cells #[.int .i64 k, .int .i64 id, .int .i64 n, .int .i64 mask, .int .i64 row.x, .int .i64 row.y, .int .i64 row.px, .int .i64 row.py, .int .i64 row.wd, .int .i64 row.ht, .int .i64 row.ms, .int .i64 row.rr, .int .i64 box.id, .int .i64 box.x1, .int .i64 box.y1, .int .i64 box.x2, .int .i64 box.y2] 38)).alloc (.cells #[.int .i64 0, .int .i64 0, .slice none 0 0, .slice none 0 0] 31))) := St.hid ((Gm.Kept.below (F := F) (Below.refl _ w)).call (bal (bal (Below.refl _ _) (.cells #[.int .i64 k, .int .i64 id, .int .i64 n, .int .i64 mask, .int .i64 row.x, .int .i64 row.y, .int .i64 row.px, .int .i64 row.py, .int .i64 row.wd, .int .i64 row.ht, .int .i64 row.ms, .int .i64 row.rr, .int .i64 box.id, .int .i64 box.x1, .int .i64 box.y1, .int .i64 box.x2, .int .i64 box.y2] 38)) (.cells #[.int .i64 0, .int .i64 0, .slice none 0 0, .slice none 0 0] 31)))
 clear hG hg HDO
 go_enter Tryz.func27, Tryz.ntmps27
 go_wp2_with fail
 refine (rno_any 5 _).mono ?_
 rintro e w9 ⟨rfl, hb9⟩
 have hRP9 := St.hid (rowIs_below hRP.out hb9)
 have HG9 := St.hid (HGW.out.below hb9)
 have HK9 := St.hid (HKW.out.call hb9)
 clear hb9
 obtain ⟨p0, p1, p2, p3⟩ := Rp.rcells hRP9.out
 have p4 := hRP9.out.frozen 0
 have p5 := hRP9.out.frozen 1
 have p6 := hRP9.out.frozen 2
 have p7 := hRP9.out.frozen 3
 have hpl := hRP9.out.lt
 go_wp2_with fail
 obtain ⟨q0, q1, q2, q3⟩ := four (put4 hRP9.out (.int .i64 5) (.int .i64 0) (.slice none 0 0) (.slice none 0 0))
 exact bodyPost_ret (v := .agg #[.int .i64 5, .int .i64 0, .slice none 0 0, .slice none 0 0]) (by simp [results, Tryz.results27, go_sem, q0, q1, q2, q3]) rfl (post_no ⟨_, _, _, HG9.out⟩ (fun z hz => Or.inl hz) HFL.out HK9.out 0 5 _ _ _ _)
end Rf
end Go.Proofs.YtckkkdldljhehacGreat
