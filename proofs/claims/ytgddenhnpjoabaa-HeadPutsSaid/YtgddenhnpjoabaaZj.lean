/-
  Are two heads the same? Conditions: they read as they are said to, and are small.
-/
import Derived.Test.YtgddenhnpjoabaaZi

namespace Go.Proofs.Ytgddenhnpjoabaa
open Go.RowKit Go.BigFrame
set_option linter.unusedSimpArgs false
set_option linter.unusedVariables false
set_option maxRecDepth 100000
theorem hnumbers_any (a : HA) (w : World) : Calls Try.prog 58 #[.agg a.cs] w fun e w' => e = .returned (.agg a.six) ∧ Below w.heap.size w w' := by
  unfold HA.cs
  go_enter Try.func58, Try.ntmps58
  go_wp2
  refine bodyPost_ret (results_cell_row rfl _ _ (w.heap.size + 1) 101 a.six (0, 0) _ rfl (blk_two _ _ _ _) Try.underlying101 rfl (by kernel_rfl)) rfl ?_
  exact ⟨rfl, (below_alloc w _).alloc (by simp) _⟩
theorem hv_iff (a b : HA) : a.v = b.v ↔ SixSame a b ∧ SameV a.vw b.vw ∧ a.sn.map SA.v = b.sn.map SA.v := by
  unfold HA.v SameV SixSame
  rw [HdV.mk.injEq]
  constructor
  · rintro ⟨a, b, c, d, e, f, g, h, i, j⟩; exact ⟨⟨a, c, d, h, i, j⟩, ⟨b, f, g⟩, e⟩
  · rintro ⟨⟨a, c, d, h, i, j⟩, ⟨b, f, g⟩, e⟩; exact ⟨a, b, c, d, e, f, g, h, i, j⟩
theorem hv_yes {a b : HA} (h1 : SixSame a b) (h2 : SameV a.vw b.vw) (h3 : a.sn.map SA.v = b.sn.map SA.v) : a.v = b.v := (hv_iff a b).2 ⟨h1, h2, h3⟩
theorem hv_no {a b : HA} (h : ¬ SixSame a b ∨ ¬ SameV a.vw b.vw ∨ a.sn.map SA.v ≠ b.sn.map SA.v) : (false = true ↔ a.v = b.v) := by
  refine ⟨fun h => (by cases h), fun e => ?_⟩
  obtain ⟨x, y, z⟩ := (hv_iff a b).1 e
  rcases h with h | h | h
  · exact absurd x h
  · exact absurd y h
  · exact absurd z h
set_option maxHeartbeats 16000000 in
theorem hsame_any (a b : HA) (w : World) (ha : a.R SA.cells w) (hb : b.R SA.cells w) (hSa : a.Sm) (hSb : b.Sm) : Calls Try.prog 20 #[.agg a.cs, .agg b.cs] w (SameTo w (a.v = b.v)) := by
  obtain ⟨w8, hw8⟩ : ∃ w8, w8 = (w.alloc (.cells a.cs 36)).alloc (.cells b.cs 36) := ⟨_, rfl⟩
  have hb8 : Below w.heap.size w w8 := by rw [hw8]; exact (below_alloc w _).alloc (by simp) _
  have HB8 := Lib.hid hb8
  have HB1 : Hid (∀ W, Below w8.heap.size w8 W → Blk W w.heap.size 36 #[.int .i64 a.id, .int .i64 a.vw.size, .int .i64 a.obj, .int .i64 a.seq, .slice a.S a.sn.length a.cs', .bool a.vw.on, .bool a.vw.good, .slice a.vw.M a.vw.row.length a.vw.cm, .string (strOf a.vw.par), .int .i64 a.vw.ps, .int .i64 a.vw.ov, .int .i64 a.ow, .int .i64 a.it, .int .i64 a.tg]) := Lib.hid fun W hW => by
    have k8 : Blk w8 w.heap.size 36 a.cs := by rw [hw8]; exact (Blk.new w _ _).alloc _
    exact k8.of (hW.block _ k8.lt)
  have HB2 : Hid (∀ W, Below w8.heap.size w8 W → Blk W (w.heap.size + 1) 36 #[.int .i64 b.id, .int .i64 b.vw.size, .int .i64 b.obj, .int .i64 b.seq, .slice b.S b.sn.length b.cs', .bool b.vw.on, .bool b.vw.good, .slice b.vw.M b.vw.row.length b.vw.cm, .string (strOf b.vw.par), .int .i64 b.vw.ps, .int .i64 b.vw.ov, .int .i64 b.ow, .int .i64 b.it, .int .i64 b.tg]) := Lib.hid fun W hW => by
    have k8 : Blk w8 (w.heap.size + 1) 36 b.cs := by rw [hw8]; exact blk_two w _ _ _
    exact k8.of (hW.block _ k8.lt)
  have HN1 : Hid (∀ W, Below w8.heap.size w8 W → Calls Try.prog 58 #[.agg #[.int .i64 a.id, .int .i64 a.vw.size, .int .i64 a.obj, .int .i64 a.seq, .slice a.S a.sn.length a.cs', .bool a.vw.on, .bool a.vw.good, .slice a.vw.M a.vw.row.length a.vw.cm, .string (strOf a.vw.par), .int .i64 a.vw.ps, .int .i64 a.vw.ov, .int .i64 a.ow, .int .i64 a.it, .int .i64 a.tg]] W fun e w' => e = .returned (.agg a.six) ∧ Below W.heap.size W w') := Lib.hid fun W hW => hnumbers_any a W
  have HN2 : Hid (∀ W, Below w8.heap.size w8 W → Calls Try.prog 58 #[.agg #[.int .i64 b.id, .int .i64 b.vw.size, .int .i64 b.obj, .int .i64 b.seq, .slice b.S b.sn.length b.cs', .bool b.vw.on, .bool b.vw.good, .slice b.vw.M b.vw.row.length b.vw.cm, .string (strOf b.vw.par), .int .i64 b.vw.ps, .int .i64 b.vw.ov, .int .i64 b.ow, .int .i64 b.it, .int .i64 b.tg]] W fun e w' => e = .returned (.agg b.six) ∧ Below W.heap.size W w') := Lib.hid fun W hW => hnumbers_any b W
  have HV1 : Hid (∀ W, Below w8.heap.size w8 W → Calls Try.prog 35 #[.agg #[.int .i64 a.id, .int .i64 a.vw.size, .int .i64 a.obj, .int .i64 a.seq, .slice a.S a.sn.length a.cs', .bool a.vw.on, .bool a.vw.good, .slice a.vw.M a.vw.row.length a.vw.cm, .string (strOf a.vw.par), .int .i64 a.vw.ps, .int .i64 a.vw.ov, .int .i64 a.ow, .int .i64 a.it, .int .i64 a.tg]] W fun e w' => e = .returned (.agg a.vw.cs) ∧ Below W.heap.size W w') := Lib.hid fun W hW => hview_any a W
  have HV2 : Hid (∀ W, Below w8.heap.size w8 W → Calls Try.prog 35 #[.agg #[.int .i64 b.id, .int .i64 b.vw.size, .int .i64 b.obj, .int .i64 b.seq, .slice b.S b.sn.length b.cs', .bool b.vw.on, .bool b.vw.good, .slice b.vw.M b.vw.row.length b.vw.cm, .string (strOf b.vw.par), .int .i64 b.vw.ps, .int .i64 b.vw.ov, .int .i64 b.ow, .int .i64 b.it, .int .i64 b.tg]] W fun e w' => e = .returned (.agg b.vw.cs) ∧ Below W.heap.size W w') := Lib.hid fun W hW => hview_any b W
  have HVS : Hid (∀ W, Below w8.heap.size w8 W → Calls Try.prog 59 #[.agg a.vw.cs, .agg b.vw.cs] W (SameTo W (SameV a.vw b.vw))) := Lib.hid fun W hW => vsame_any a.vw b.vw W ((ha.vw.since hb8).since hW) ((hb.vw.since hb8).since hW)
  have HSS : Hid (∀ W, Below w8.heap.size w8 W → Calls Try.prog 60 #[.slice a.S a.sn.length a.cs', .slice b.S b.sn.length b.cs', .func (.func 61) #[] #[]] W (SameTo W (a.sn.map SA.v = b.sn.map SA.v))) := Lib.hid fun W hW => by
    have ra := (ha.since hb8).since hW
    have rb := (hb.since hb8).since hW
    exact eqsnaps_any a.sn b.sn a.S b.S a.cs' b.cs' W (Nat.le_trans hSa.cn (by omega)) (Nat.le_trans hSb.cn (by omega)) ra.row rb.row (fun s hs => ⟨ra.sn s hs, Nat.le_trans (hSa.sn s hs).ch (by omega)⟩) (fun s hs => ⟨rb.sn s hs, Nat.le_trans (hSb.sn s hs).ch (by omega)⟩)
  have hsix := run_six_eql a b
  obtain ⟨r1, q1⟩ : ∃ r, decide (SixSame a b) = r := ⟨_, rfl⟩
  simp only [q1] at hsix
  have H1 : Hid (r1 = true ↔ SixSame a b) := Lib.hid (b_iff q1)
  have HW8 := Lib.hid hw8
  clear ha hb hb8 hw8 hSa hSb q1
  unfold HA.cs at *
  go_enter Try.func20, Try.ntmps20
  go_upto_region 1 with (fail)
  rw [← HW8.out]
  clear HW8
  have hS : Below w8.heap.size w8 w8.drew := (Below.refl _ w8).drew
  refine any_beginL (fun W => Below w8.heap.size w8 W) 99 (by kernel_rfl) ?_
  refine S_take (i := 0) (v := .agg #[.int .i64 a.id, .int .i64 a.vw.size, .int .i64 a.obj, .int .i64 a.seq, .slice a.S a.sn.length a.cs', .bool a.vw.on, .bool a.vw.good, .slice a.vw.M a.vw.row.length a.vw.cm, .string (strOf a.vw.par), .int .i64 a.vw.ps, .int .i64 a.vw.ov, .int .i64 a.ow, .int .i64 a.it, .int .i64 a.tg]) rfl rfl (by kernel_rfl) (by kernel_rfl) (by kernel_rfl) (fun _ _ _ h => h) (Or.inl ⟨by rfl, fun W hw => by have k0 : W.cell? ⟨w.heap.size, 0, none⟩ = some (.int .i64 a.id) := (HB1.out W hw).cell 0; have k1 : W.cell? ⟨w.heap.size, 1, none⟩ = some (.int .i64 a.vw.size) := (HB1.out W hw).cell 1; have k2 : W.cell? ⟨w.heap.size, 2, none⟩ = some (.int .i64 a.obj) := (HB1.out W hw).cell 2; have k3 : W.cell? ⟨w.heap.size, 3, none⟩ = some (.int .i64 a.seq) := (HB1.out W hw).cell 3; have k4 : W.cell? ⟨w.heap.size, 4, none⟩ = some (.slice a.S a.sn.length a.cs') := (HB1.out W hw).cell 4; have k5 : W.cell? ⟨w.heap.size, 5, none⟩ = some (.bool a.vw.on) := (HB1.out W hw).cell 5; have k6 : W.cell? ⟨w.heap.size, 6, none⟩ = some (.bool a.vw.good) := (HB1.out W hw).cell 6; have k7 : W.cell? ⟨w.heap.size, 7, none⟩ = some (.slice a.vw.M a.vw.row.length a.vw.cm) := (HB1.out W hw).cell 7; have k8 : W.cell? ⟨w.heap.size, 8, none⟩ = some (.string (strOf a.vw.par)) := (HB1.out W hw).cell 8; have k9 : W.cell? ⟨w.heap.size, 9, none⟩ = some (.int .i64 a.vw.ps) := (HB1.out W hw).cell 9; have k10 : W.cell? ⟨w.heap.size, 10, none⟩ = some (.int .i64 a.vw.ov) := (HB1.out W hw).cell 10; have k11 : W.cell? ⟨w.heap.size, 11, none⟩ = some (.int .i64 a.ow) := (HB1.out W hw).cell 11; have k12 : W.cell? ⟨w.heap.size, 12, none⟩ = some (.int .i64 a.it) := (HB1.out W hw).cell 12; have k13 : W.cell? ⟨w.heap.size, 13, none⟩ = some (.int .i64 a.tg) := (HB1.out W hw).cell 13; go_simp⟩) hS ?_
  simp only [Act.put, List.getElem_toArray, List.getElem_cons_succ, List.getElem_cons_zero, List.setIfInBounds_toArray, List.set_cons_zero, List.set_cons_succ]
  refine S_take (i := 2) (v := .agg #[.int .i64 b.id, .int .i64 b.vw.size, .int .i64 b.obj, .int .i64 b.seq, .slice b.S b.sn.length b.cs', .bool b.vw.on, .bool b.vw.good, .slice b.vw.M b.vw.row.length b.vw.cm, .string (strOf b.vw.par), .int .i64 b.vw.ps, .int .i64 b.vw.ov, .int .i64 b.ow, .int .i64 b.it, .int .i64 b.tg]) rfl rfl (by kernel_rfl) (by kernel_rfl) (by kernel_rfl) (fun _ _ _ h => h) (Or.inl ⟨by rfl, fun W hw => by have k0 : W.cell? ⟨(w.heap.size + 1), 0, none⟩ = some (.int .i64 b.id) := (HB2.out W hw).cell 0; have k1 : W.cell? ⟨(w.heap.size + 1), 1, none⟩ = some (.int .i64 b.vw.size) := (HB2.out W hw).cell 1; have k2 : W.cell? ⟨(w.heap.size + 1), 2, none⟩ = some (.int .i64 b.obj) := (HB2.out W hw).cell 2; have k3 : W.cell? ⟨(w.heap.size + 1), 3, none⟩ = some (.int .i64 b.seq) := (HB2.out W hw).cell 3; have k4 : W.cell? ⟨(w.heap.size + 1), 4, none⟩ = some (.slice b.S b.sn.length b.cs') := (HB2.out W hw).cell 4; have k5 : W.cell? ⟨(w.heap.size + 1), 5, none⟩ = some (.bool b.vw.on) := (HB2.out W hw).cell 5; have k6 : W.cell? ⟨(w.heap.size + 1), 6, none⟩ = some (.bool b.vw.good) := (HB2.out W hw).cell 6; have k7 : W.cell? ⟨(w.heap.size + 1), 7, none⟩ = some (.slice b.vw.M b.vw.row.length b.vw.cm) := (HB2.out W hw).cell 7; have k8 : W.cell? ⟨(w.heap.size + 1), 8, none⟩ = some (.string (strOf b.vw.par)) := (HB2.out W hw).cell 8; have k9 : W.cell? ⟨(w.heap.size + 1), 9, none⟩ = some (.int .i64 b.vw.ps) := (HB2.out W hw).cell 9; have k10 : W.cell? ⟨(w.heap.size + 1), 10, none⟩ = some (.int .i64 b.vw.ov) := (HB2.out W hw).cell 10; have k11 : W.cell? ⟨(w.heap.size + 1), 11, none⟩ = some (.int .i64 b.ow) := (HB2.out W hw).cell 11; have k12 : W.cell? ⟨(w.heap.size + 1), 12, none⟩ = some (.int .i64 b.it) := (HB2.out W hw).cell 12; have k13 : W.cell? ⟨(w.heap.size + 1), 13, none⟩ = some (.int .i64 b.tg) := (HB2.out W hw).cell 13; go_simp⟩) hS ?_
  simp only [Act.put, List.getElem_toArray, List.getElem_cons_succ, List.getElem_cons_zero, List.setIfInBounds_toArray, List.set_cons_zero, List.set_cons_succ]
  refine L_one (j := 1) (by kernel_rfl) rfl (by rfl) ?_
  simp only [Act.put, List.getElem_toArray, List.getElem_cons_succ, List.getElem_cons_zero, List.setIfInBounds_toArray, List.set_cons_zero, List.set_cons_succ]
  refine wp_called (by go_simp) (HN1.out _ hS) ?_
  rintro e W1 ⟨rfl, b⟩
  have hS : Below w8.heap.size w8 W1 := hS.trans (b.mono hS.size)
  clear b
  refine ⟨_, rfl, hS, ?_⟩
  simp only [Act.put, List.getElem_toArray, List.getElem_cons_succ, List.getElem_cons_zero, List.setIfInBounds_toArray, List.set_cons_zero, List.set_cons_succ]
  refine L_one (j := 3) (by kernel_rfl) rfl (by rfl) ?_
  simp only [Act.put, List.getElem_toArray, List.getElem_cons_succ, List.getElem_cons_zero, List.setIfInBounds_toArray, List.set_cons_zero, List.set_cons_succ]
  refine wp_called (by go_simp) (HN2.out _ hS) ?_
  rintro e W3 ⟨rfl, b⟩
  have hS : Below w8.heap.size w8 W3 := hS.trans (b.mono hS.size)
  clear b
  refine ⟨_, rfl, hS, ?_⟩
  simp only [Act.put, List.getElem_toArray, List.getElem_cons_succ, List.getElem_cons_zero, List.setIfInBounds_toArray, List.set_cons_zero, List.set_cons_succ]
  refine S_take (i := 4) (v := .bool r1) rfl rfl (by kernel_rfl) (by kernel_rfl) (by kernel_rfl) (fun _ _ _ h => h) (Or.inl ⟨by rfl, fun W hw => by go_simp⟩) hS ?_
  simp only [Act.put, List.getElem_toArray, List.getElem_cons_succ, List.getElem_cons_zero, List.setIfInBounds_toArray, List.set_cons_zero, List.set_cons_succ]
  cases r1 with
  | true =>
    refine S_take (i := 5) (v := .bool true) rfl rfl (by kernel_rfl) (by kernel_rfl) (by kernel_rfl) (fun _ _ _ h => h) (Or.inl ⟨by rfl, fun W hw => by go_simp⟩) hS ?_
    simp only [Act.put, List.getElem_toArray, List.getElem_cons_succ, List.getElem_cons_zero, List.setIfInBounds_toArray, List.set_cons_zero, List.set_cons_succ]
    refine S_take (i := 6) (v := .agg #[.int .i64 a.id, .int .i64 a.vw.size, .int .i64 a.obj, .int .i64 a.seq, .slice a.S a.sn.length a.cs', .bool a.vw.on, .bool a.vw.good, .slice a.vw.M a.vw.row.length a.vw.cm, .string (strOf a.vw.par), .int .i64 a.vw.ps, .int .i64 a.vw.ov, .int .i64 a.ow, .int .i64 a.it, .int .i64 a.tg]) rfl rfl (by kernel_rfl) (by kernel_rfl) (by kernel_rfl) (fun _ _ _ h => h) (Or.inl ⟨by rfl, fun W hw => by have k0 : W.cell? ⟨w.heap.size, 0, none⟩ = some (.int .i64 a.id) := (HB1.out W hw).cell 0; have k1 : W.cell? ⟨w.heap.size, 1, none⟩ = some (.int .i64 a.vw.size) := (HB1.out W hw).cell 1; have k2 : W.cell? ⟨w.heap.size, 2, none⟩ = some (.int .i64 a.obj) := (HB1.out W hw).cell 2; have k3 : W.cell? ⟨w.heap.size, 3, none⟩ = some (.int .i64 a.seq) := (HB1.out W hw).cell 3; have k4 : W.cell? ⟨w.heap.size, 4, none⟩ = some (.slice a.S a.sn.length a.cs') := (HB1.out W hw).cell 4; have k5 : W.cell? ⟨w.heap.size, 5, none⟩ = some (.bool a.vw.on) := (HB1.out W hw).cell 5; have k6 : W.cell? ⟨w.heap.size, 6, none⟩ = some (.bool a.vw.good) := (HB1.out W hw).cell 6; have k7 : W.cell? ⟨w.heap.size, 7, none⟩ = some (.slice a.vw.M a.vw.row.length a.vw.cm) := (HB1.out W hw).cell 7; have k8 : W.cell? ⟨w.heap.size, 8, none⟩ = some (.string (strOf a.vw.par)) := (HB1.out W hw).cell 8; have k9 : W.cell? ⟨w.heap.size, 9, none⟩ = some (.int .i64 a.vw.ps) := (HB1.out W hw).cell 9; have k10 : W.cell? ⟨w.heap.size, 10, none⟩ = some (.int .i64 a.vw.ov) := (HB1.out W hw).cell 10; have k11 : W.cell? ⟨w.heap.size, 11, none⟩ = some (.int .i64 a.ow) := (HB1.out W hw).cell 11; have k12 : W.cell? ⟨w.heap.size, 12, none⟩ = some (.int .i64 a.it) := (HB1.out W hw).cell 12; have k13 : W.cell? ⟨w.heap.size, 13, none⟩ = some (.int .i64 a.tg) := (HB1.out W hw).cell 13; go_simp⟩) hS ?_
    simp only [Act.put, List.getElem_toArray, List.getElem_cons_succ, List.getElem_cons_zero, List.setIfInBounds_toArray, List.set_cons_zero, List.set_cons_succ]
    refine S_take (i := 8) (v := .agg #[.int .i64 b.id, .int .i64 b.vw.size, .int .i64 b.obj, .int .i64 b.seq, .slice b.S b.sn.length b.cs', .bool b.vw.on, .bool b.vw.good, .slice b.vw.M b.vw.row.length b.vw.cm, .string (strOf b.vw.par), .int .i64 b.vw.ps, .int .i64 b.vw.ov, .int .i64 b.ow, .int .i64 b.it, .int .i64 b.tg]) rfl rfl (by kernel_rfl) (by kernel_rfl) (by kernel_rfl) (fun _ _ _ h => h) (Or.inl ⟨by rfl, fun W hw => by have k0 : W.cell? ⟨(w.heap.size + 1), 0, none⟩ = some (.int .i64 b.id) := (HB2.out W hw).cell 0; have k1 : W.cell? ⟨(w.heap.size + 1), 1, none⟩ = some (.int .i64 b.vw.size) := (HB2.out W hw).cell 1; have k2 : W.cell? ⟨(w.heap.size + 1), 2, none⟩ = some (.int .i64 b.obj) := (HB2.out W hw).cell 2; have k3 : W.cell? ⟨(w.heap.size + 1), 3, none⟩ = some (.int .i64 b.seq) := (HB2.out W hw).cell 3; have k4 : W.cell? ⟨(w.heap.size + 1), 4, none⟩ = some (.slice b.S b.sn.length b.cs') := (HB2.out W hw).cell 4; have k5 : W.cell? ⟨(w.heap.size + 1), 5, none⟩ = some (.bool b.vw.on) := (HB2.out W hw).cell 5; have k6 : W.cell? ⟨(w.heap.size + 1), 6, none⟩ = some (.bool b.vw.good) := (HB2.out W hw).cell 6; have k7 : W.cell? ⟨(w.heap.size + 1), 7, none⟩ = some (.slice b.vw.M b.vw.row.length b.vw.cm) := (HB2.out W hw).cell 7; have k8 : W.cell? ⟨(w.heap.size + 1), 8, none⟩ = some (.string (strOf b.vw.par)) := (HB2.out W hw).cell 8; have k9 : W.cell? ⟨(w.heap.size + 1), 9, none⟩ = some (.int .i64 b.vw.ps) := (HB2.out W hw).cell 9; have k10 : W.cell? ⟨(w.heap.size + 1), 10, none⟩ = some (.int .i64 b.vw.ov) := (HB2.out W hw).cell 10; have k11 : W.cell? ⟨(w.heap.size + 1), 11, none⟩ = some (.int .i64 b.ow) := (HB2.out W hw).cell 11; have k12 : W.cell? ⟨(w.heap.size + 1), 12, none⟩ = some (.int .i64 b.it) := (HB2.out W hw).cell 12; have k13 : W.cell? ⟨(w.heap.size + 1), 13, none⟩ = some (.int .i64 b.tg) := (HB2.out W hw).cell 13; go_simp⟩) hS ?_
    simp only [Act.put, List.getElem_toArray, List.getElem_cons_succ, List.getElem_cons_zero, List.setIfInBounds_toArray, List.set_cons_zero, List.set_cons_succ]
    refine L_one (j := 7) (by kernel_rfl) rfl (by rfl) ?_
    simp only [Act.put, List.getElem_toArray, List.getElem_cons_succ, List.getElem_cons_zero, List.setIfInBounds_toArray, List.set_cons_zero, List.set_cons_succ]
    refine wp_called (by go_simp) (HV1.out _ hS) ?_
    rintro e W7 ⟨rfl, b⟩
    have hS : Below w8.heap.size w8 W7 := hS.trans (b.mono hS.size)
    clear b
    refine ⟨_, rfl, hS, ?_⟩
    simp only [Act.put, List.getElem_toArray, List.getElem_cons_succ, List.getElem_cons_zero, List.setIfInBounds_toArray, List.set_cons_zero, List.set_cons_succ]
    refine L_one (j := 9) (by kernel_rfl) rfl (by rfl) ?_
    simp only [Act.put, List.getElem_toArray, List.getElem_cons_succ, List.getElem_cons_zero, List.setIfInBounds_toArray, List.set_cons_zero, List.set_cons_succ]
    refine wp_called (by go_simp) (HV2.out _ hS) ?_
    rintro e W9 ⟨rfl, b⟩
    have hS : Below w8.heap.size w8 W9 := hS.trans (b.mono hS.size)
    clear b
    refine ⟨_, rfl, hS, ?_⟩
    simp only [Act.put, List.getElem_toArray, List.getElem_cons_succ, List.getElem_cons_zero, List.setIfInBounds_toArray, List.set_cons_zero, List.set_cons_succ]
    refine L_one (j := 10) (by kernel_rfl) rfl (by rfl) ?_
    simp only [Act.put, List.getElem_toArray, List.getElem_cons_succ, List.getElem_cons_zero, List.setIfInBounds_toArray, List.set_cons_zero, List.set_cons_succ]
    refine wp_called (by go_simp) (HVS.out _ hS) ?_
    rintro e W10 ⟨r4, rfl, h4, b⟩
    have hS : Below w8.heap.size w8 W10 := hS.trans (b.mono hS.size)
    clear b
    have H4 := Lib.hid h4
    clear h4
    refine ⟨_, rfl, hS, ?_⟩
    simp only [Act.put, List.getElem_toArray, List.getElem_cons_succ, List.getElem_cons_zero, List.setIfInBounds_toArray, List.set_cons_zero, List.set_cons_succ]
    cases r4 with
    | true =>
      refine S_take (i := 11) (v := .bool true) rfl rfl (by kernel_rfl) (by kernel_rfl) (by kernel_rfl) (fun _ _ _ h => h) (Or.inl ⟨by rfl, fun W hw => by go_simp⟩) hS ?_
      simp only [Act.put, List.getElem_toArray, List.getElem_cons_succ, List.getElem_cons_zero, List.setIfInBounds_toArray, List.set_cons_zero, List.set_cons_succ]
      refine S_take (i := 12) (v := .bool true) rfl rfl (by kernel_rfl) (by kernel_rfl) (by kernel_rfl) (fun _ _ _ h => h) (Or.inl ⟨by rfl, fun W hw => by go_simp⟩) hS ?_
      simp only [Act.put, List.getElem_toArray, List.getElem_cons_succ, List.getElem_cons_zero, List.setIfInBounds_toArray, List.set_cons_zero, List.set_cons_succ]
      refine S_take (i := 13) (v := .pointer (some ⟨w.heap.size, 4, none⟩)) rfl rfl (by kernel_rfl) (by kernel_rfl) (by kernel_rfl) (fun _ _ _ h => h) (Or.inl ⟨by rfl, fun W hw => by go_simp⟩) hS ?_
      simp only [Act.put, List.getElem_toArray, List.getElem_cons_succ, List.getElem_cons_zero, List.setIfInBounds_toArray, List.set_cons_zero, List.set_cons_succ]
      refine S_take (i := 14) (v := .slice a.S a.sn.length a.cs') rfl rfl (by kernel_rfl) (by kernel_rfl) (by kernel_rfl) (fun _ _ _ h => h) (Or.inl ⟨by rfl, fun W hw => by have k0 : W.cell? ⟨w.heap.size, 4, none⟩ = some (.slice a.S a.sn.length a.cs') := (HB1.out W hw).cell 4; go_simp⟩) hS ?_
      simp only [Act.put, List.getElem_toArray, List.getElem_cons_succ, List.getElem_cons_zero, List.setIfInBounds_toArray, List.set_cons_zero, List.set_cons_succ]
      refine S_take (i := 15) (v := .pointer (some ⟨(w.heap.size + 1), 4, none⟩)) rfl rfl (by kernel_rfl) (by kernel_rfl) (by kernel_rfl) (fun _ _ _ h => h) (Or.inl ⟨by rfl, fun W hw => by go_simp⟩) hS ?_
      simp only [Act.put, List.getElem_toArray, List.getElem_cons_succ, List.getElem_cons_zero, List.setIfInBounds_toArray, List.set_cons_zero, List.set_cons_succ]
      refine S_take (i := 16) (v := .slice b.S b.sn.length b.cs') rfl rfl (by kernel_rfl) (by kernel_rfl) (by kernel_rfl) (fun _ _ _ h => h) (Or.inl ⟨by rfl, fun W hw => by have k0 : W.cell? ⟨(w.heap.size + 1), 4, none⟩ = some (.slice b.S b.sn.length b.cs') := (HB2.out W hw).cell 4; go_simp⟩) hS ?_
      simp only [Act.put, List.getElem_toArray, List.getElem_cons_succ, List.getElem_cons_zero, List.setIfInBounds_toArray, List.set_cons_zero, List.set_cons_succ]
      refine L_one (j := 17) (by kernel_rfl) rfl (by rfl) ?_
      simp only [Act.put, List.getElem_toArray, List.getElem_cons_succ, List.getElem_cons_zero, List.setIfInBounds_toArray, List.set_cons_zero, List.set_cons_succ]
      refine wp_called (by go_simp) (HSS.out _ hS) ?_
      rintro e W17 ⟨r5, rfl, h5, b⟩
      have hS : Below w8.heap.size w8 W17 := hS.trans (b.mono hS.size)
      clear b
      have H5 := Lib.hid h5
      clear h5
      refine ⟨_, rfl, hS, ?_⟩
      simp only [Act.put, List.getElem_toArray, List.getElem_cons_succ, List.getElem_cons_zero, List.setIfInBounds_toArray, List.set_cons_zero, List.set_cons_succ]
      cases r5 with
      | true =>
        refine S_take (i := 18) (v := .bool true) rfl rfl (by kernel_rfl) (by kernel_rfl) (by kernel_rfl) (fun _ _ _ h => h) (Or.inl ⟨by rfl, fun W hw => by go_simp⟩) hS ?_
        simp only [Act.put, List.getElem_toArray, List.getElem_cons_succ, List.getElem_cons_zero, List.setIfInBounds_toArray, List.set_cons_zero, List.set_cons_succ]
        refine S_take (i := 19) (v := .bool true) rfl rfl (by kernel_rfl) (by kernel_rfl) (by kernel_rfl) (fun _ _ _ h => h) (Or.inl ⟨by rfl, fun W hw => by go_simp⟩) hS ?_
        simp only [Act.put, List.getElem_toArray, List.getElem_cons_succ, List.getElem_cons_zero, List.setIfInBounds_toArray, List.set_cons_zero, List.set_cons_succ]
        refine L_done (by kernel_rfl) ?_
        refine NoPanic.normal ?_
        have HS9 := Lib.hid hS
        clear hS
        go_wp2
        go_ret
        exact ⟨true, rfl, ⟨fun _ => hv_yes (H1.out.1 (by trivial)) (H4.out.1 (by trivial)) (H5.out.1 (by trivial)), fun _ => rfl⟩, HB8.out.trans (HS9.out.mono HB8.out.size)⟩
      | false =>
        refine S_take (i := 18) (v := .bool false) rfl rfl (by kernel_rfl) (by kernel_rfl) (by kernel_rfl) (fun _ _ _ h => h) (Or.inl ⟨by rfl, fun W hw => by go_simp⟩) hS ?_
        simp only [Act.put, List.getElem_toArray, List.getElem_cons_succ, List.getElem_cons_zero, List.setIfInBounds_toArray, List.set_cons_zero, List.set_cons_succ]
        refine S_take (i := 19) (v := .bool false) rfl rfl (by kernel_rfl) (by kernel_rfl) (by kernel_rfl) (fun _ _ _ h => h) (Or.inl ⟨by rfl, fun W hw => by go_simp⟩) hS ?_
        simp only [Act.put, List.getElem_toArray, List.getElem_cons_succ, List.getElem_cons_zero, List.setIfInBounds_toArray, List.set_cons_zero, List.set_cons_succ]
        refine L_done (by kernel_rfl) ?_
        refine NoPanic.normal ?_
        have HS9 := Lib.hid hS
        clear hS
        go_wp2
        go_ret
        exact ⟨false, rfl, hv_no (.inr (.inr (fun e => by have := H5.out.2 e; cases this))), HB8.out.trans (HS9.out.mono HB8.out.size)⟩
    | false =>
      refine S_take (i := 11) (v := .bool false) rfl rfl (by kernel_rfl) (by kernel_rfl) (by kernel_rfl) (fun _ _ _ h => h) (Or.inl ⟨by rfl, fun W hw => by go_simp⟩) hS ?_
      simp only [Act.put, List.getElem_toArray, List.getElem_cons_succ, List.getElem_cons_zero, List.setIfInBounds_toArray, List.set_cons_zero, List.set_cons_succ]
      refine S_take (i := 12) (v := .bool false) rfl rfl (by kernel_rfl) (by kernel_rfl) (by kernel_rfl) (fun _ _ _ h => h) (Or.inl ⟨by rfl, fun W hw => by go_simp⟩) hS ?_
      simp only [Act.put, List.getElem_toArray, List.getElem_cons_succ, List.getElem_cons_zero, List.setIfInBounds_toArray, List.set_cons_zero, List.set_cons_succ]
      refine S_take (i := 13) (v := undef) rfl rfl (by kernel_rfl) (by kernel_rfl) (by kernel_rfl) (fun _ _ _ h => h) (Or.inr ⟨by rfl, rfl⟩) hS ?_
      simp only [Act.put, List.getElem_toArray, List.getElem_cons_succ, List.getElem_cons_zero, List.setIfInBounds_toArray, List.set_cons_zero, List.set_cons_succ]
      refine S_take (i := 14) (v := undef) rfl rfl (by kernel_rfl) (by kernel_rfl) (by kernel_rfl) (fun _ _ _ h => h) (Or.inr ⟨by rfl, rfl⟩) hS ?_
      simp only [Act.put, List.getElem_toArray, List.getElem_cons_succ, List.getElem_cons_zero, List.setIfInBounds_toArray, List.set_cons_zero, List.set_cons_succ]
      refine S_take (i := 15) (v := undef) rfl rfl (by kernel_rfl) (by kernel_rfl) (by kernel_rfl) (fun _ _ _ h => h) (Or.inr ⟨by rfl, rfl⟩) hS ?_
      simp only [Act.put, List.getElem_toArray, List.getElem_cons_succ, List.getElem_cons_zero, List.setIfInBounds_toArray, List.set_cons_zero, List.set_cons_succ]
      refine S_take (i := 16) (v := undef) rfl rfl (by kernel_rfl) (by kernel_rfl) (by kernel_rfl) (fun _ _ _ h => h) (Or.inr ⟨by rfl, rfl⟩) hS ?_
      simp only [Act.put, List.getElem_toArray, List.getElem_cons_succ, List.getElem_cons_zero, List.setIfInBounds_toArray, List.set_cons_zero, List.set_cons_succ]
      refine S_take (i := 17) (v := undef) rfl rfl (by kernel_rfl) (by kernel_rfl) (by kernel_rfl) (fun _ _ _ h => h) (Or.inr ⟨by rfl, rfl⟩) hS ?_
      simp only [Act.put, List.getElem_toArray, List.getElem_cons_succ, List.getElem_cons_zero, List.setIfInBounds_toArray, List.set_cons_zero, List.set_cons_succ]
      refine S_take (i := 18) (v := .bool false) rfl rfl (by kernel_rfl) (by kernel_rfl) (by kernel_rfl) (fun _ _ _ h => h) (Or.inl ⟨by rfl, fun W hw => by go_simp⟩) hS ?_
      simp only [Act.put, List.getElem_toArray, List.getElem_cons_succ, List.getElem_cons_zero, List.setIfInBounds_toArray, List.set_cons_zero, List.set_cons_succ]
      refine S_take (i := 19) (v := .bool false) rfl rfl (by kernel_rfl) (by kernel_rfl) (by kernel_rfl) (fun _ _ _ h => h) (Or.inl ⟨by rfl, fun W hw => by go_simp⟩) hS ?_
      simp only [Act.put, List.getElem_toArray, List.getElem_cons_succ, List.getElem_cons_zero, List.setIfInBounds_toArray, List.set_cons_zero, List.set_cons_succ]
      refine L_done (by kernel_rfl) ?_
      refine NoPanic.normal ?_
      have HS9 := Lib.hid hS
      clear hS
      go_wp2
      go_ret
      exact ⟨false, rfl, hv_no (.inr (.inl (fun e => by have := H4.out.2 e; cases this))), HB8.out.trans (HS9.out.mono HB8.out.size)⟩
  | false =>
    refine S_take (i := 5) (v := .bool false) rfl rfl (by kernel_rfl) (by kernel_rfl) (by kernel_rfl) (fun _ _ _ h => h) (Or.inl ⟨by rfl, fun W hw => by go_simp⟩) hS ?_
    simp only [Act.put, List.getElem_toArray, List.getElem_cons_succ, List.getElem_cons_zero, List.setIfInBounds_toArray, List.set_cons_zero, List.set_cons_succ]
    refine S_take (i := 6) (v := undef) rfl rfl (by kernel_rfl) (by kernel_rfl) (by kernel_rfl) (fun _ _ _ h => h) (Or.inr ⟨by rfl, rfl⟩) hS ?_
    simp only [Act.put, List.getElem_toArray, List.getElem_cons_succ, List.getElem_cons_zero, List.setIfInBounds_toArray, List.set_cons_zero, List.set_cons_succ]
    refine S_take (i := 7) (v := undef) rfl rfl (by kernel_rfl) (by kernel_rfl) (by kernel_rfl) (fun _ _ _ h => h) (Or.inr ⟨by rfl, rfl⟩) hS ?_
    simp only [Act.put, List.getElem_toArray, List.getElem_cons_succ, List.getElem_cons_zero, List.setIfInBounds_toArray, List.set_cons_zero, List.set_cons_succ]
    refine S_take (i := 8) (v := undef) rfl rfl (by kernel_rfl) (by kernel_rfl) (by kernel_rfl) (fun _ _ _ h => h) (Or.inr ⟨by rfl, rfl⟩) hS ?_
    simp only [Act.put, List.getElem_toArray, List.getElem_cons_succ, List.getElem_cons_zero, List.setIfInBounds_toArray, List.set_cons_zero, List.set_cons_succ]
    refine S_take (i := 9) (v := undef) rfl rfl (by kernel_rfl) (by kernel_rfl) (by kernel_rfl) (fun _ _ _ h => h) (Or.inr ⟨by rfl, rfl⟩) hS ?_
    simp only [Act.put, List.getElem_toArray, List.getElem_cons_succ, List.getElem_cons_zero, List.setIfInBounds_toArray, List.set_cons_zero, List.set_cons_succ]
    refine S_take (i := 10) (v := undef) rfl rfl (by kernel_rfl) (by kernel_rfl) (by kernel_rfl) (fun _ _ _ h => h) (Or.inr ⟨by rfl, rfl⟩) hS ?_
    simp only [Act.put, List.getElem_toArray, List.getElem_cons_succ, List.getElem_cons_zero, List.setIfInBounds_toArray, List.set_cons_zero, List.set_cons_succ]
    refine S_take (i := 11) (v := .bool false) rfl rfl (by kernel_rfl) (by kernel_rfl) (by kernel_rfl) (fun _ _ _ h => h) (Or.inl ⟨by rfl, fun W hw => by go_simp⟩) hS ?_
    simp only [Act.put, List.getElem_toArray, List.getElem_cons_succ, List.getElem_cons_zero, List.setIfInBounds_toArray, List.set_cons_zero, List.set_cons_succ]
    refine S_take (i := 12) (v := .bool false) rfl rfl (by kernel_rfl) (by kernel_rfl) (by kernel_rfl) (fun _ _ _ h => h) (Or.inl ⟨by rfl, fun W hw => by go_simp⟩) hS ?_
    simp only [Act.put, List.getElem_toArray, List.getElem_cons_succ, List.getElem_cons_zero, List.setIfInBounds_toArray, List.set_cons_zero, List.set_cons_succ]
    refine S_take (i := 13) (v := undef) rfl rfl (by kernel_rfl) (by kernel_rfl) (by kernel_rfl) (fun _ _ _ h => h) (Or.inr ⟨by rfl, rfl⟩) hS ?_
    simp only [Act.put, List.getElem_toArray, List.getElem_cons_succ, List.getElem_cons_zero, List.setIfInBounds_toArray, List.set_cons_zero, List.set_cons_succ]
    refine S_take (i := 14) (v := undef) rfl rfl (by kernel_rfl) (by kernel_rfl) (by kernel_rfl) (fun _ _ _ h => h) (Or.inr ⟨by rfl, rfl⟩) hS ?_
    simp only [Act.put, List.getElem_toArray, List.getElem_cons_succ, List.getElem_cons_zero, List.setIfInBounds_toArray, List.set_cons_zero, List.set_cons_succ]
    refine S_take (i := 15) (v := undef) rfl rfl (by kernel_rfl) (by kernel_rfl) (by kernel_rfl) (fun _ _ _ h => h) (Or.inr ⟨by rfl, rfl⟩) hS ?_
    simp only [Act.put, List.getElem_toArray, List.getElem_cons_succ, List.getElem_cons_zero, List.setIfInBounds_toArray, List.set_cons_zero, List.set_cons_succ]
    refine S_take (i := 16) (v := undef) rfl rfl (by kernel_rfl) (by kernel_rfl) (by kernel_rfl) (fun _ _ _ h => h) (Or.inr ⟨by rfl, rfl⟩) hS ?_
    simp only [Act.put, List.getElem_toArray, List.getElem_cons_succ, List.getElem_cons_zero, List.setIfInBounds_toArray, List.set_cons_zero, List.set_cons_succ]
    refine S_take (i := 17) (v := undef) rfl rfl (by kernel_rfl) (by kernel_rfl) (by kernel_rfl) (fun _ _ _ h => h) (Or.inr ⟨by rfl, rfl⟩) hS ?_
    simp only [Act.put, List.getElem_toArray, List.getElem_cons_succ, List.getElem_cons_zero, List.setIfInBounds_toArray, List.set_cons_zero, List.set_cons_succ]
    refine S_take (i := 18) (v := .bool false) rfl rfl (by kernel_rfl) (by kernel_rfl) (by kernel_rfl) (fun _ _ _ h => h) (Or.inl ⟨by rfl, fun W hw => by go_simp⟩) hS ?_
    simp only [Act.put, List.getElem_toArray, List.getElem_cons_succ, List.getElem_cons_zero, List.setIfInBounds_toArray, List.set_cons_zero, List.set_cons_succ]
    refine S_take (i := 19) (v := .bool false) rfl rfl (by kernel_rfl) (by kernel_rfl) (by kernel_rfl) (fun _ _ _ h => h) (Or.inl ⟨by rfl, fun W hw => by go_simp⟩) hS ?_
    simp only [Act.put, List.getElem_toArray, List.getElem_cons_succ, List.getElem_cons_zero, List.setIfInBounds_toArray, List.set_cons_zero, List.set_cons_succ]
    refine L_done (by kernel_rfl) ?_
    refine NoPanic.normal ?_
    have HS9 := Lib.hid hS
    clear hS
    go_wp2
    go_ret
    exact ⟨false, rfl, hv_no (.inl (fun e => by have := H1.out.2 e; cases this)), HB8.out.trans (HS9.out.mono HB8.out.size)⟩
end Go.Proofs.Ytgddenhnpjoabaa

/-
  Rows of the call's own. Conditions: the row reads as it is said to, and is not long.
-/
namespace Go.Proofs.Ytgddenhnpjoabaa
open Go.RowKit Go.BigFrame
set_option linter.unusedSimpArgs false
set_option linter.unusedVariables false
set_option maxRecDepth 100000
theorem flat_one (f : SA → List Value) (hf : ∀ s, ∀ u ∈ f s, u.oneCell' = true) (l : List SA) : ∀ u ∈ l.flatMap f, u.oneCell' = true := by
  intro u hu
  obtain ⟨s, _, h⟩ := List.mem_flatMap.1 hu
  exact hf s u h
set_option maxHeartbeats 2000000 in
theorem ownm_any (A : Option Addr) (n c : Nat) (bs : List Nat) (w : World) (B : Nat) (hn : n ≤ 10000000) (hb : Bytes w B A n bs) :
    Calls Try.prog 166 #[.slice A n c] w fun e w' => ∃ v, e = .returned v ∧ Own w' w.heap.size v n bs ∧ Below w.heap.size w w' := by
  obtain ⟨i0, hi0, hz0, hz1, hz2⟩ := info_parts byte_info
  have H := Lib.hid hb.1
  go_enter Try.func166, Try.ntmps166
  go_wp2_with (refine wpList_append_any w rfl (.const (.slice none 0 0)) (.tmp 3) 33 rfl w.heap.size 5 i0 _ 1 1 Try.underlying33 hi0 hz0 hz1 hz2 rfl (by omega) (.slice none 0 0) 0 [] rfl (World.ownsRow_nil _ _ _ 1) B A n c (u8s bs) rfl H.out (oneCell_u8s _) (by simp only [maxLen]; omega) (by omega) (Nat.le_refl _) ?_
               intro v2 w2 h2 g2 a2)
  go_ret
  exact ⟨v2, rfl, by simpa [Own, u8s] using h2, (Below.refl _ w).grown g2 (Nat.le_refl _) (fun k e => by simp [Value.ownBlock] at e)⟩
set_option maxHeartbeats 2000000 in
theorem owns_any (A : Option Addr) (c : Nat) (l : List (List Nat)) (w : World) (B : Nat) (hn : l.length ≤ 1000000) (hb : Reads w B 1 A l.length (strs l)) :
    Calls Try.prog 168 #[.slice A l.length c] w fun e w' => ∃ v, e = .returned v ∧ OwnS w' w.heap.size v l ∧ Below w.heap.size w w' := by
  obtain ⟨i0, hi0, hz0, hz1, hz2⟩ := info_parts str_info
  have H := Lib.hid hb
  go_enter Try.func168, Try.ntmps168
  go_wp2_with (refine wpList_append_any w rfl (.const (.slice none 0 0)) (.tmp 3) 64 rfl w.heap.size 9 i0 _ 1 16 Try.underlying64 hi0 hz0 hz1 hz2 rfl (by omega) (.slice none 0 0) 0 [] rfl (World.ownsRow_nil _ _ _ 1) B A l.length c (strs l) rfl H.out (strs_one _) (by simp only [maxLen]; omega) (by omega) (Nat.le_refl _) ?_
               intro v2 w2 h2 g2 a2)
  go_ret
  exact ⟨v2, rfl, by simpa [OwnS] using h2, (Below.refl _ w).grown g2 (Nat.le_refl _) (fun k e => by simp [Value.ownBlock] at e)⟩
set_option maxHeartbeats 2000000 in
theorem ownsn_any (A : Option Addr) (c : Nat) (l : List SA) (w : World) (B : Nat) (hn : l.length ≤ 1000000) (hb : Reads w B 11 A l.length (l.flatMap SA.cells)) :
    Calls Try.prog 167 #[.slice A l.length c] w fun e w' => ∃ v, e = .returned v ∧ w'.ownsRow w.heap.size 66 11 v l.length (l.flatMap SA.cells) ∧ Below w.heap.size w w' := by
  obtain ⟨i0, hi0, hz0, hz1, hz2⟩ := info_parts snap_info
  have H := Lib.hid hb
  go_enter Try.func167, Try.ntmps167
  go_wp2_with (refine wpList_append_any w rfl (.const (.slice none 0 0)) (.tmp 3) 32 rfl w.heap.size 66 i0 _ 11 120 Try.underlying32 hi0 hz0 hz1 hz2 rfl (by omega) (.slice none 0 0) 0 [] rfl (World.ownsRow_nil _ _ _ 11) B A l.length c (l.flatMap SA.cells) rfl H.out (flat_one _ SA.cells_one _) (by simp only [maxLen]; omega) (by omega) (Nat.le_refl _) ?_
               intro v2 w2 h2 g2 a2)
  go_ret
  exact ⟨v2, rfl, by simpa using h2, (Below.refl _ w).grown g2 (Nat.le_refl _) (fun k e => by simp [Value.ownBlock] at e)⟩
end Go.Proofs.Ytgddenhnpjoabaa

/-
  The document's: marks the same, how many objects, a flag's byte. Conditions: rows read as they are said to.
-/
namespace Go.Proofs.Ytgddenhnpjoabaa
open Go.RowKit Go.BigFrame
set_option linter.unusedSimpArgs false
set_option linter.unusedVariables false
set_option maxRecDepth 100000
theorem dflag_any (f : Bool) (w : World) : Calls Try.prog 57 #[.bool f] w fun e w' => e = .returned (.int .u8 (if f then 1 else 0)) ∧ w = w' := by
  cases f with
  | true =>
    go_enter Try.func57, Try.ntmps57
    go_wp2
    go_ret
    exact ⟨rfl, rfl⟩
  | false =>
    go_enter Try.func57, Try.ntmps57
    go_wp2
    go_ret
    exact ⟨rfl, rfl⟩
theorem objs_two {size obj : Int} (h1 : 1 ≤ size) (h2 : 1 ≤ obj) : (size % obj = 0 → objsOf size obj = size / obj) ∧ (size % obj ≠ 0 → objsOf size obj = size / obj + 1) := by
  have he : objsOf size obj = (size - 1) / obj + 1 := by unfold objsOf; rw [if_neg (by omega)]
  have a := Int.mul_ediv_add_emod (size - 1) obj
  have b := Int.emod_nonneg (size - 1) (show obj ≠ 0 by omega)
  have c := Int.emod_lt_of_pos (size - 1) (show 0 < obj by omega)
  rw [he]
  by_cases e : (size - 1) % obj + 1 = obj
  · have hu := (Int.ediv_emod_unique (a := size) (b := obj) (r := 0) (q := (size - 1) / obj + 1) (by omega)).2 ⟨by rw [Int.mul_add, Int.mul_one]; omega, by omega, by omega⟩
    exact ⟨fun _ => hu.1.symm, fun h => absurd hu.2 h⟩
  · have hu := (Int.ediv_emod_unique (a := size) (b := obj) (r := (size - 1) % obj + 1) (q := (size - 1) / obj) (by omega)).2 ⟨by omega, by omega, by omega⟩
    exact ⟨fun h => absurd (hu.2.symm.trans h) (by omega), fun _ => by rw [hu.1]⟩
theorem dobjects_any (size obj : Int) (h1 : I64 size) (h2 : I64 obj) (w : World) : Calls Try.prog 39 #[.int .i64 size, .int .i64 obj] w fun e w' => e = .returned (.int .i64 (objsOf size obj)) ∧ w = w' := by
  by_cases a : size < 1
  · have hd1 : decide (size < (1 : Int)) = true := decide_eq_true a
    have he : objsOf size obj = 0 := by unfold objsOf; rw [if_pos (.inl a)]
    rw [he]
    go_enter Try.func39, Try.ntmps39
    go_wp2
    go_ret
    exact ⟨rfl, rfl⟩
  · have hd1 : decide (size < (1 : Int)) = false := decide_eq_false a
    by_cases b : obj < 1
    · have hd2 : decide (obj < (1 : Int)) = true := decide_eq_true b
      have he : objsOf size obj = 0 := by unfold objsOf; rw [if_pos (.inr b)]
      rw [he]
      go_enter Try.func39, Try.ntmps39
      go_wp2
      go_ret
      exact ⟨rfl, rfl⟩
    · have hd2 : decide (obj < (1 : Int)) = false := decide_eq_false b
      have hq : size.tdiv obj = size / obj := Int.tdiv_eq_ediv_of_nonneg (by omega)
      have hm : size.tmod obj = size % obj := Int.tmod_eq_emod_of_nonneg (by omega)
      have hne : obj ≠ 0 := by omega
      have hne2 : (obj == 0) = false := by simpa using hne
      have two := objs_two (show 1 ≤ size by omega) (show 1 ≤ obj by omega)
      have hr := objs_range h1 h2
      have g1 : 0 ≤ size / obj := Int.ediv_nonneg (by omega) (by omega)
      have g2 : size / obj ≤ size := Int.ediv_le_self _ (by omega)
      have g3 : 0 ≤ size % obj := Int.emod_nonneg _ hne
      have g4 : size % obj < obj := Int.emod_lt_of_pos _ (by omega)
      have w1 : IntKind.i64.wrap (size / obj) = size / obj := wrap_in (by unfold I64 at *; clear hq hm two hr; omega)
      have w2 : IntKind.i64.wrap (size % obj) = size % obj := wrap_in (by unfold I64 at *; clear hq hm two hr w1; omega)
      by_cases c : size % obj = 0
      · have he := two.1 c
        have d3 : (size % obj == 0) = true := by simpa using c
        rw [he]
        clear two hr g1 g2 g3 g4 h1 h2 a b he
        go_enter Try.func39, Try.ntmps39
        go_wp2
        go_ret
        exact ⟨rfl, rfl⟩
      · have he := two.2 c
        have d3 : (size % obj == 0) = false := by simpa using c
        rw [he] at hr ⊢
        have w3 : IntKind.i64.wrap (size / obj + 1) = size / obj + 1 := wrap_in hr
        clear two hr g1 g2 g3 g4 h1 h2 a b he
        go_enter Try.func39, Try.ntmps39
        go_wp2
        go_ret
        exact ⟨rfl, rfl⟩
-- {SM
set_option maxHeartbeats 2000000 in
theorem dsamemarks_any (a b : VA) (w : World) (ha : a.R w) (hb : b.R w) : Calls Try.prog 48 #[.agg #[.bool a.on, .bool a.good, .slice a.M a.row.length a.cm], .agg #[.bool b.on, .bool b.good, .slice b.M b.row.length b.cm]] w (SameTo w (a.mk' = b.mk')) := by
  have B0 := Lib.hid ((below_alloc w (.cells #[.bool a.on, .bool a.good, .slice a.M a.row.length a.cm] 25)).alloc (by simp) (.cells #[.bool b.on, .bool b.good, .slice b.M b.row.length b.cm] 25))
  have k1 := str_of (P := Try.prog) (ha.row.since B0.out) a.cm 23 9 5 Try.underlying23 Try.underlying5 Try.underlying9
  have k2 := str_of (P := Try.prog) (hb.row.since B0.out) b.cm 23 9 5 Try.underlying23 Try.underlying5 Try.underlying9
  have he := str_eq ha.row.2 hb.row.2
  obtain ⟨s1, hs1⟩ : ∃ s, s = strOf a.row := ⟨_, rfl⟩
  obtain ⟨s2, hs2⟩ : ∃ s, s = strOf b.row := ⟨_, rfl⟩
  rw [← hs1] at k1 he
  rw [← hs2] at k2 he
  clear hs1 hs2 ha hb
  by_cases c1 : a.on = b.on
  · have d1 : (a.on == b.on) = true := by simpa using c1
    by_cases c2 : a.good = b.good
    · have d2 : (a.good == b.good) = true := by simpa using c2
      have C := Lib.hid (And.intro c1 c2)
      clear c1 c2
      by_cases c3 : a.row = b.row
      · rw [decide_eq_true c3] at he
        replace c3 := Lib.hid c3
        go_enter Try.func48, Try.ntmps48
        go_wp2
        go_ret
        exact ⟨true, by simp [he], ⟨fun _ => by unfold VA.mk'; rw [C.out.1, C.out.2, c3.out], fun _ => rfl⟩, B0.out⟩
      · rw [decide_eq_false c3] at he
        replace c3 := Lib.hid c3
        go_enter Try.func48, Try.ntmps48
        go_wp2
        go_ret
        exact ⟨false, by simp [he], ⟨fun h => (by cases h), fun h => absurd (congrArg MkV.row h) c3.out⟩, B0.out⟩
    · have d2 : (a.good == b.good) = false := by simpa using c2
      replace c2 := Lib.hid c2
      clear c1
      go_enter Try.func48, Try.ntmps48
      go_wp2
      go_ret
      exact ⟨false, rfl, ⟨fun h => (by cases h), fun h => absurd (congrArg MkV.good h) c2.out⟩, B0.out⟩
  · have d1 : (a.on == b.on) = false := by simpa using c1
    replace c1 := Lib.hid c1
    go_enter Try.func48, Try.ntmps48
    go_wp2
    go_ret
    exact ⟨false, rfl, ⟨fun h => (by cases h), fun h => absurd (congrArg MkV.on h) c1.out⟩, B0.out⟩
end Go.Proofs.Ytgddenhnpjoabaa

/-
  The document's: where a snapshot stands. Conditions: the head reads as it is said to, and is not long.
-/
namespace Go.Proofs.Ytgddenhnpjoabaa
open Go.RowKit Go.BigFrame
set_option linter.unusedSimpArgs false
set_option linter.unusedVariables false
set_option maxRecDepth 100000
set_option maxHeartbeats 4000000 in
theorem dnumber_any (a : HA) (n : Int) (w : World) (hR : a.R SA.dcells w) (hl : a.sn.length ≤ 1000000) :
    Calls Try.prog 43 #[.agg a.cs, .int .i64 n] w fun e w' => e = .returned (.int .i64 (idxI (fun s : SA => s.num == n) a.sn)) ∧ Below w.heap.size w w' := by
  have B0 := Lib.hid (below_alloc w (.cells a.cs 29))
  have H := Lib.hid hR.row
  obtain ⟨p, hp⟩ : ∃ p : SA → Bool, p = fun s : SA => s.num == n := ⟨_, rfl⟩
  rw [← hp]
  have HP : Hid (∀ s : SA, p s = (s.num == n)) := Lib.hid fun s => by rw [hp]
  have HK : Hid (Blk (w.alloc (.cells a.cs 29)) w.heap.size 29 a.cs) := Lib.hid (Blk.new w _ _)
  clear hR hp
  unfold HA.cs at *
  go_enter Try.func43, Try.ntmps43
  go_wp2
  generalize hw0 : w.alloc _ = w0 at *
  go_loopw [5] (fun i wr => ∃ k : Nat, k ≤ a.sn.length ∧ i = .int .i64 k ∧ wr = w0 ∧ ∀ j s, j < k → a.sn[j]? = some s → p s = false) (fun i _ => a.sn.length - (intOf i).toNat)
  case atStart => exact ⟨0, by omega, rfl, by trivial, fun j s h => by omega⟩
  case round =>
    obtain ⟨k, hk, rfl, rfl, hall⟩ := hrel
    have HA := Lib.hid hall
    have hwk : IntKind.i64.wrap ((k : Int) + 1) = (k : Int) + 1 := by rw [IntKind.wrap_i64]; omega
    have q4 : wr.cell? ⟨w.heap.size, 4, none⟩ = some (.slice a.S a.sn.length a.cs') := HK.out.cell 4
    clear hall
    by_cases hlt : k < a.sn.length
    · obtain ⟨s, hs⟩ : ∃ s, a.sn[k]? = some s := ⟨_, List.getElem?_eq_getElem hlt⟩
      obtain ⟨ad, had, -, hc⟩ := snap_at SA.dcells_len (H.out.since B0.out) hs
      have k7 : wr.cell? (ad.add (k * 11)) = some (.int .i64 s.num) := hc 0 _ rfl
      have HS := Lib.hid hs
      generalize a.S = sS at *
      subst had
      clear hs hc
      cases hp : p s with
      | true =>
        have HI := Lib.hid (idx_skip p a.sn k hk HA.out s HS.out hp)
        rw [HP.out] at hp
        go_wp2
        go_ret
        exact ⟨by rw [HI.out]; rfl, B0.out⟩
      | false =>
        have HQ := Lib.hid hp
        rw [HP.out] at hp
        go_wp2
        go_roundw
        case rel => exact ⟨k + 1, by omega, by go_num, by trivial, fun j x hj hx => by
          rcases Nat.lt_succ_iff_lt_or_eq.1 hj with h | rfl
          · exact HA.out j x h hx
          · rw [HS.out] at hx; injection hx with hx; subst hx; exact HQ.out⟩
        case measure => simp [intOf]; omega
    · obtain rfl : k = a.sn.length := by omega
      have HI := Lib.hid (idx_none p a.sn fun j x hx => HA.out j x (List.getElem?_eq_some_iff.1 hx).1 hx)
      go_wp2
      go_ret
      exact ⟨by rw [HI.out]; rfl, B0.out⟩
set_option maxHeartbeats 4000000 in
theorem dfind_any (a : HA) (bs : List Nat) (hbs : ∀ b ∈ bs, b < 256) (w : World) (hR : a.R SA.dcells w) (hl : a.sn.length ≤ 1000000) :
    Calls Try.prog 41 #[.agg a.cs, .string (strOf bs)] w fun e w' => e = .returned (.int .i64 (idxI (fun s : SA => decide (s.name = bs)) a.sn)) ∧ Below w.heap.size w w' := by
  have B0 := Lib.hid (below_alloc w (.cells a.cs 29))
  have H := Lib.hid hR.row
  have HSN : Hid (∀ s ∈ a.sn, ((strOf s.name).toList == (strOf bs).toList) = decide (s.name = bs)) := Lib.hid fun s hs => str_eq (hR.sn s hs).name hbs
  obtain ⟨p, hp⟩ : ∃ p : SA → Bool, p = fun s : SA => decide (s.name = bs) := ⟨_, rfl⟩
  rw [← hp]
  have HP : Hid (∀ s : SA, p s = decide (s.name = bs)) := Lib.hid fun s => by rw [hp]
  have HK : Hid (Blk (w.alloc (.cells a.cs 29)) w.heap.size 29 a.cs) := Lib.hid (Blk.new w _ _)
  clear hR hp
  unfold HA.cs at *
  go_enter Try.func41, Try.ntmps41
  go_wp2
  generalize hw0 : w.alloc _ = w0 at *
  go_loopw [5] (fun i wr => ∃ k : Nat, k ≤ a.sn.length ∧ i = .int .i64 k ∧ wr = w0 ∧ ∀ j s, j < k → a.sn[j]? = some s → p s = false) (fun i _ => a.sn.length - (intOf i).toNat)
  case atStart => exact ⟨0, by omega, rfl, by trivial, fun j s h => by omega⟩
  case round =>
    obtain ⟨k, hk, rfl, rfl, hall⟩ := hrel
    have HA := Lib.hid hall
    have hwk : IntKind.i64.wrap ((k : Int) + 1) = (k : Int) + 1 := by rw [IntKind.wrap_i64]; omega
    have q4 : wr.cell? ⟨w.heap.size, 4, none⟩ = some (.slice a.S a.sn.length a.cs') := HK.out.cell 4
    clear hall
    by_cases hlt : k < a.sn.length
    · obtain ⟨s, hs⟩ : ∃ s, a.sn[k]? = some s := ⟨_, List.getElem?_eq_getElem hlt⟩
      obtain ⟨ad, had, -, hc⟩ := snap_at SA.dcells_len (H.out.since B0.out) hs
      have k7 : wr.cell? ⟨(ad.add (k * 11)).block, (ad.add (k * 11)).off + 2, none⟩ = some (.string (strOf s.name)) := hc 2 _ rfl
      have hse := HSN.out s (List.mem_of_getElem? hs)
      have HS := Lib.hid hs
      generalize a.S = sS at *
      subst had
      clear hs hc
      cases hp : p s with
      | true =>
        have HI := Lib.hid (idx_skip p a.sn k hk HA.out s HS.out hp)
        rw [HP.out] at hp
        rw [hp] at hse
        clear hp
        go_wp2
        go_ret
        exact ⟨by rw [HI.out]; rfl, B0.out⟩
      | false =>
        have HQ := Lib.hid hp
        rw [HP.out] at hp
        rw [hp] at hse
        clear hp
        go_wp2
        go_roundw
        case rel => exact ⟨k + 1, by omega, by go_num, by trivial, fun j x hj hx => by
          rcases Nat.lt_succ_iff_lt_or_eq.1 hj with h | rfl
          · exact HA.out j x h hx
          · rw [HS.out] at hx; injection hx with hx; subst hx; exact HQ.out⟩
        case measure => simp [intOf]; omega
    · obtain rfl : k = a.sn.length := by omega
      have HI := Lib.hid (idx_none p a.sn fun j x hx => HA.out j x (List.getElem?_eq_some_iff.1 hx).1 hx)
      go_wp2
      go_ret
      exact ⟨by rw [HI.out]; rfl, B0.out⟩
end Go.Proofs.Ytgddenhnpjoabaa

/-
  The document's: a name. Conditions: bytes, and not long.
-/
namespace Go.Proofs.Ytgddenhnpjoabaa
open Go.RowKit Go.BigFrame
set_option linter.unusedSimpArgs false
set_option linter.unusedVariables false
set_option maxRecDepth 100000
theorem strOf_list (bs : List Nat) : (strOf bs).data.toList = bs.map UInt8.ofNat := by
  have := strOf_data bs
  exact this
theorem run_index_str (bs : List Nat) (hb : ∀ b ∈ bs, b < 256) (k b : Nat) (hk : bs[k]? = some b) (w : World) : (Instr.index 9 (.string (strOf bs)) (.int .i64 k)).run Try.prog w = .ok (.int .u8 b) w := by
  have hlt : k < bs.length := (List.getElem?_eq_some_iff.1 hk).1
  have hsz : (strOf bs).size = bs.length := strOf_size bs
  have hsz2 : (strOf bs).data.size = bs.length := hsz
  have h6 : (k : Int) < ((strOf bs).size : Int) := by omega
  have hq : (strOf bs).data[k]? = some (UInt8.ofNat b) := by
    rw [← Array.getElem?_toList, strOf_list, List.getElem?_map, hk]
    rfl
  have hq2 : (strOf bs).data[k]'(by omega) = UInt8.ofNat b := by
    rw [Array.getElem?_eq_getElem (by omega)] at hq
    exact Option.some.inj hq
  have hb2 : b < 256 := hb b (List.mem_of_getElem? hk)
  have hn : (UInt8.ofNat b).toNat = b := by simp; omega
  simp [Instr.index, run_underlying Try.underlying9, asIntOf, h6, hlt, hsz, hsz2, hq, hq2, hn, Result.andThen, go_sem]
  show ((((strOf bs).data[k]'(by omega)).toNat : Int)) = b
  rw [hq2, hn]
set_option maxHeartbeats 4000000 in
theorem dnamed_any (bs : List Nat) (hb : ∀ b ∈ bs, b < 256) (hl : bs.length ≤ 1000000) (w : World) : Calls Try.prog 42 #[.string (strOf bs)] w fun e w' => e = .returned (.bool (namedB bs)) ∧ w = w' := by
  have hsz := strOf_size bs
  have HX : Hid (∀ (k b : Nat), bs[k]? = some b → ∀ W, (Instr.index 9 (.string (strOf bs)) (.int .i64 k)).run Try.prog W = .ok (.int .u8 b) W) := Lib.hid fun k b h W => run_index_str bs hb k b h W
  clear hb
  generalize strOf bs = st at *
  unfold namedB
  by_cases h1 : 1 ≤ bs.length
  · have hd1 : decide ((bs.length : Int) < 1) = false := decide_eq_false (by omega)
    have hd1' : decide (1 ≤ bs.length) = true := decide_eq_true h1
    by_cases h2 : bs.length ≤ 20
    · have hd2 : decide (20 < (bs.length : Int)) = false := decide_eq_false (by omega)
      have hd2' : decide (bs.length ≤ 20) = true := decide_eq_true h2
      have hr' : ∀ q, (decide (1 ≤ bs.length) && decide (bs.length ≤ 20) && q) = q := fun q => by rw [hd1', hd2']; cases q <;> rfl
      rw [hr']
      clear hr'
      go_enter Try.func42, Try.ntmps42
      go_wp2
      go_loopw [3] (fun i wr => ∃ k : Nat, k ≤ bs.length ∧ i = .int .i64 k ∧ wr = w ∧ (bs.take k).all okSign = true) (fun i _ => bs.length - (intOf i).toNat)
      case atStart => exact ⟨0, by omega, rfl, by trivial, rfl⟩
      case round =>
        obtain ⟨k, hk, rfl, rfl, hall⟩ := hrel
        have HA := Lib.hid hall
        clear hall
        have hwk : IntKind.i64.wrap ((k : Int) + 1) = (k : Int) + 1 := by rw [IntKind.wrap_i64]; omega
        by_cases hlt : k < bs.length
        · obtain ⟨b, hbk⟩ : ∃ b, bs[k]? = some b := ⟨_, List.getElem?_eq_getElem hlt⟩
          have hx := HX.out k b hbk
          have hts : (bs.take (k + 1)).all okSign = okSign b := by
            rw [List.take_add_one, hbk, List.all_append, HA.out]
            simp
          have HBK := Lib.hid hbk
          have HTS := Lib.hid hts
          clear hts hbk
          rcases sign_cases b with ⟨hok, hs⟩ | ⟨hok, hs1, hs2, hs3⟩
          · have HOK := Lib.hid hok
            clear hok
            rcases hs with ⟨ha, hz⟩ | ⟨ha, hz⟩ | rfl
            · have d1 : decide (97 ≤ (b : Int)) = true := decide_eq_true (by omega)
              have d2 : decide ((b : Int) ≤ 122) = true := decide_eq_true (by omega)
              clear ha hz
              go_wp2
              go_roundw
              case rel => exact ⟨k + 1, by omega, by go_num, by trivial, by rw [HTS.out]; exact HOK.out⟩
              case measure => simp [intOf]; omega
            · have d1 : decide (97 ≤ (b : Int)) = false := decide_eq_false (by omega)
              have d3 : decide (48 ≤ (b : Int)) = true := decide_eq_true (by omega)
              have d4 : decide ((b : Int) ≤ 57) = true := decide_eq_true (by omega)
              clear ha hz
              go_wp2
              go_roundw
              case rel => exact ⟨k + 1, by omega, by go_num, by trivial, by rw [HTS.out]; exact HOK.out⟩
              case measure => simp [intOf]; omega
            · have d1 : decide (97 ≤ ((45 : Nat) : Int)) = false := by decide
              have d3 : decide (48 ≤ ((45 : Nat) : Int)) = false := by decide
              have d5 : ((((45 : Nat) : Int)) == 45) = true := by decide
              go_wp2
              go_roundw
              case rel => exact ⟨k + 1, by omega, by go_num, by trivial, by rw [HTS.out]; exact HOK.out⟩
              case measure => simp [intOf]; omega
          · have HNO : Hid (bs.all okSign = false) := Lib.hid (by
              rw [Bool.eq_false_iff]
              intro h
              have := List.all_eq_true.1 h b (List.mem_of_getElem? HBK.out)
              rw [hok] at this
              cases this)
            have d5 : ((b : Int) == 45) = false := by rw [beq_eq_false_iff_ne]; omega
            clear hok
            by_cases e1 : 97 ≤ b
            · have d1 : decide (97 ≤ (b : Int)) = true := decide_eq_true (by omega)
              have d2 : decide ((b : Int) ≤ 122) = false := decide_eq_false (by omega)
              have d3 : decide (48 ≤ (b : Int)) = true := decide_eq_true (by omega)
              have d4 : decide ((b : Int) ≤ 57) = false := decide_eq_false (by omega)
              clear hs1 hs2 hs3 e1
              go_wp2
              go_ret
              exact ⟨by rw [HNO.out]; rfl, by first | rfl | trivial⟩
            · have d1 : decide (97 ≤ (b : Int)) = false := decide_eq_false (by omega)
              by_cases e2 : 48 ≤ b
              · have d3 : decide (48 ≤ (b : Int)) = true := decide_eq_true (by omega)
                have d4 : decide ((b : Int) ≤ 57) = false := decide_eq_false (by omega)
                clear hs1 hs2 hs3 e1 e2
                go_wp2
                go_ret
                exact ⟨by rw [HNO.out]; rfl, by first | rfl | trivial⟩
              · have d3 : decide (48 ≤ (b : Int)) = false := decide_eq_false (by omega)
                clear hs1 hs2 hs3 e1 e2
                go_wp2
                go_ret
                exact ⟨by rw [HNO.out]; rfl, by first | rfl | trivial⟩
        · obtain rfl : k = bs.length := by omega
          have HALL : Hid (bs.all okSign = true) := Lib.hid (by have := HA.out; rwa [List.take_length] at this)
          go_wp2
          go_ret
          exact ⟨by rw [HALL.out]; rfl, by first | rfl | trivial⟩
    · have hd2 : decide (20 < (bs.length : Int)) = true := decide_eq_true (by omega)
      have hd2' : decide (bs.length ≤ 20) = false := decide_eq_false h2
      rw [hd2']
      go_enter Try.func42, Try.ntmps42
      go_wp2
      go_ret
      exact ⟨by simp, rfl⟩
  · have hd1 : decide ((bs.length : Int) < 1) = true := decide_eq_true (by omega)
    have hd1' : decide (1 ≤ bs.length) = false := decide_eq_false h1
    rw [hd1']
    go_enter Try.func42, Try.ntmps42
    go_wp2
    go_ret
    exact ⟨by simp, rfl⟩
end Go.Proofs.Ytgddenhnpjoabaa

/-
  The document's: a good link, good marks. Conditions: the view reads as it is said to.
-/
namespace Go.Proofs.Ytgddenhnpjoabaa
open Go.RowKit Go.BigFrame
set_option linter.unusedSimpArgs false
set_option linter.unusedVariables false
set_option maxRecDepth 100000
set_option maxHeartbeats 4000000 in
theorem dgoodlink_any (v : VA) (w : World) (h : v.R w) (hl : v.par.length ≤ 1000000) : Calls Try.prog 40 #[.agg #[.string (strOf v.par), .int .i64 v.ps, .int .i64 v.ov], .int .i64 v.size] w fun e w' => e = .returned (.bool (v.lk.B v.size)) ∧ Below w.heap.size w w' := by
  obtain ⟨size, on, good, row, M, cm, par, ps, ov⟩ := v
  have hpar := h.par
  have hlk : (VA.lk ⟨size, on, good, row, M, cm, par, ps, ov⟩).B size = if par.isEmpty then decide (ps = 0) && decide (ov = 0) else namedB par && decide (1 ≤ ps) && decide (0 ≤ ov) && decide (ov ≤ size) := rfl
  simp only at hpar hl ⊢
  rw [hlk]
  clear h hlk
  have B0 := Lib.hid (below_alloc w (.cells #[.string (strOf par), .int .i64 ps, .int .i64 ov] 27))
  have hes := empty_list par hpar
  have HN := Lib.hid (fun w => dnamed_any par hpar hl w)
  obtain ⟨R, hR⟩ : ∃ R, R = if par.isEmpty then decide (ps = 0) && decide (ov = 0) else namedB par && decide (1 ≤ ps) && decide (0 ≤ ov) && decide (ov ≤ size) := ⟨_, rfl⟩
  rw [← hR]
  have HB : Hid (R = if par.isEmpty then decide (ps = 0) && decide (ov = 0) else namedB par && decide (1 ≤ ps) && decide (0 ≤ ov) && decide (ov ≤ size)) := Lib.hid hR
  clear hR
  cases hp : par.isEmpty with
  | true =>
    rw [hp] at hes HB
    simp only [if_true] at HB
    clear HN hp
    by_cases c1 : ps = 0
    · subst c1
      rw [decide_eq_true rfl, Bool.true_and] at HB
      by_cases c2 : ov = 0
      · subst c2
        rw [decide_eq_true rfl] at HB
        go_enter Try.func40, Try.ntmps40
        go_wp2
        go_ret
        exact ⟨by rw [HB.out]; rfl, B0.out⟩
      · have d2 : (ov == 0) = false := by simpa using c2
        have e2 : decide (ov = 0) = false := decide_eq_false c2
        rw [e2] at HB
        clear c2 e2
        go_enter Try.func40, Try.ntmps40
        go_wp2
        go_ret
        exact ⟨by rw [HB.out]; rfl, B0.out⟩
    · have d1 : (ps == 0) = false := by simpa using c1
      have e1 : decide (ps = 0) = false := decide_eq_false c1
      rw [e1, Bool.false_and] at HB
      clear c1 e1
      go_enter Try.func40, Try.ntmps40
      go_wp2
      go_ret
      exact ⟨by rw [HB.out]; rfl, B0.out⟩
  | false =>
    rw [hp] at hes HB
    simp only [Bool.false_eq_true, if_false] at HB
    clear hp
    obtain ⟨r, hr⟩ : ∃ r, namedB par = r := ⟨_, rfl⟩
    simp only [hr] at HN
    rw [hr] at HB
    clear hr
    cases r with
    | false =>
      simp only [Bool.false_and] at HB
      go_enter Try.func40, Try.ntmps40
      go_wp2_with fail
      refine (HN.out _).mono ?_
      rintro e w1 ⟨rfl, rfl⟩
      go_wp2
      go_ret
      exact ⟨by rw [HB.out]; rfl, B0.out⟩
    | true =>
      rw [Bool.true_and] at HB
      cases e1 : decide (1 ≤ ps) with
      | false =>
        rw [e1, Bool.false_and, Bool.false_and] at HB
        go_enter Try.func40, Try.ntmps40
        go_wp2_with fail
        refine (HN.out _).mono ?_
        rintro e w1 ⟨rfl, rfl⟩
        go_wp2
        go_ret
        exact ⟨by rw [HB.out]; rfl, B0.out⟩
      | true =>
        rw [e1, Bool.true_and] at HB
        cases e2 : decide (0 ≤ ov) with
        | false =>
          rw [e2, Bool.false_and] at HB
          go_enter Try.func40, Try.ntmps40
          go_wp2_with fail
          refine (HN.out _).mono ?_
          rintro e w1 ⟨rfl, rfl⟩
          go_wp2
          go_ret
          exact ⟨by rw [HB.out]; rfl, B0.out⟩
        | true =>
          rw [e2, Bool.true_and] at HB
          cases e3 : decide (ov ≤ size) with
          | false =>
            rw [e3] at HB
            go_enter Try.func40, Try.ntmps40
            go_wp2_with fail
            refine (HN.out _).mono ?_
            rintro e w1 ⟨rfl, rfl⟩
            go_wp2
            go_ret
            exact ⟨by rw [HB.out]; rfl, B0.out⟩
          | true =>
            rw [e3] at HB
            go_enter Try.func40, Try.ntmps40
            go_wp2_with fail
            refine (HN.out _).mono ?_
            rintro e w1 ⟨rfl, rfl⟩
            go_wp2
            go_ret
            exact ⟨by rw [HB.out]; rfl, B0.out⟩
end Go.Proofs.Ytgddenhnpjoabaa

/-
  The document's: good marks of a view. Conditions: the view reads as it is said to, and is not long.
-/
namespace Go.Proofs.Ytgddenhnpjoabaa
open Go.RowKit Go.BigFrame
set_option linter.unusedSimpArgs false
set_option linter.unusedVariables false
set_option maxRecDepth 100000
set_option maxHeartbeats 4000000 in
theorem dgoodmarks_any (v : VA) (n : Int) (w : World) (h : v.R w) (hl : v.row.length ≤ 1000000) : Calls Try.prog 38 #[.agg #[.bool v.on, .bool v.good, .slice v.M v.row.length v.cm], .int .i64 n] w fun e w' => e = .returned (.bool (v.mk'.B n)) ∧ Below w.heap.size w w' := by
  obtain ⟨size, on, good, row, M, cm, par, ps, ov⟩ := v
  have B0 := Lib.hid (below_alloc w (.cells #[.bool on, .bool good, .slice M row.length cm] 25))
  have hlk : (VA.mk' ⟨size, on, good, row, M, cm, par, ps, ov⟩).B n = if on then decide (Good row) && decide ((row.length : Int) = n) else row.isEmpty && !good := rfl
  have hrow := (h.row.since B0.out)
  simp only at hl hrow ⊢
  rw [hlk]
  have HG := Lib.hid (dgood_any M row.length cm _ row _ hl hrow)
  clear h hlk hrow
  cases on with
  | false =>
    simp only [Bool.false_eq_true, if_false]
    have HE : Hid (row.isEmpty = ((row.length : Int) == 0)) := Lib.hid (by cases row <;> simp; omega)
    rw [HE.out]
    clear HG HE
    cases good with
    | true =>
      go_enter Try.func38, Try.ntmps38
      go_wp2
      go_ret
      exact ⟨by simp, B0.out⟩
    | false =>
      cases d : ((row.length : Int) == 0) with
      | true =>
        go_enter Try.func38, Try.ntmps38
        go_wp2
        go_ret
        exact ⟨by simp, by first | exact B0.out | (have := B0.out; simp_all)⟩
      | false =>
        go_enter Try.func38, Try.ntmps38
        go_wp2
        go_ret
        exact ⟨by simp, B0.out⟩
  | true =>
    simp only [if_true]
    obtain ⟨g, hg⟩ : ∃ g, decide (Good row) = g := ⟨_, rfl⟩
    simp only [hg] at HG ⊢
    clear hg
    have he : decide ((row.length : Int) = n) = ((row.length : Int) == n) := by rw [Bool.eq_iff_iff]; simp
    rw [he]
    obtain ⟨r, hr⟩ : ∃ r, ((row.length : Int) == n) = r := ⟨_, rfl⟩
    rw [hr]
    clear he
    cases g with
    | true =>
      cases r with
      | true =>
        go_enter Try.func38, Try.ntmps38
        go_wp2_with fail
        refine HG.out.mono ?_
        rintro e w1 ⟨rfl, rfl⟩
        go_wp2
        go_ret
        exact ⟨by simp, B0.out⟩
      | false =>
        go_enter Try.func38, Try.ntmps38
        go_wp2_with fail
        refine HG.out.mono ?_
        rintro e w1 ⟨rfl, rfl⟩
        go_wp2
        go_ret
        exact ⟨by simp, B0.out⟩
    | false =>
      go_enter Try.func38, Try.ntmps38
      go_wp2_with fail
      refine HG.out.mono ?_
      rintro e w1 ⟨rfl, rfl⟩
      go_wp2
      go_ret
      exact ⟨by simp, B0.out⟩
end Go.Proofs.Ytgddenhnpjoabaa

/-
  A good head's snapshots: no number and no name stands twice. No condition.
-/
namespace Go.Proofs.Ytgddenhnpjoabaa
set_option linter.unusedSimpArgs false
set_option linter.unusedVariables false
theorem idx_found {α : Type} (p : α → Bool) : ∀ (l : List α) (k : Nat) (x : α), l[k]? = some x → p x = true → ∃ (j : Nat) (y : α), idxI p l = (j : Nat) ∧ j ≤ k ∧ l[j]? = some y ∧ p y = true
  | [], k, x, h, _ => by simp at h
  | y :: l, k, x, h, hp => by
    cases hy : p y with
    | true => exact ⟨0, y, by rw [idxI, if_pos hy]; rfl, by omega, rfl, hy⟩
    | false =>
      cases k with
      | zero => simp at h; subst h; rw [hp] at hy; cases hy
      | succ k =>
        obtain ⟨j, z, e, hj, hz, hpz⟩ := idx_found p l k x (by simpa using h) hp
        refine ⟨j + 1, z, ?_, by omega, by simpa using hz, hpz⟩
        rw [idxI, if_neg (by rw [hy]; simp), e, if_neg (by omega)]
        push_cast
        rfl
theorem snaps_low {obj seq : Int} : ∀ {last : Int} {l : List SnV}, snapsB obj seq last l = true → ∀ s ∈ l, last < s.num
  | last, [], _, s, h => by cases h
  | last, x :: r, h, s, hs => by
    simp only [snapsB, Bool.and_eq_true] at h
    have hx : last < x.num := by
      have := h.1
      simp only [snapB, Bool.and_eq_true, decide_eq_true_eq] at this
      exact this.1.1.1.1
    rcases List.mem_cons.1 hs with rfl | hs
    · exact hx
    · exact Int.lt_trans hx (snaps_low h.2 s hs)
theorem snaps_one {obj seq : Int} : ∀ {last : Int} {l : List SnV}, snapsB obj seq last l = true → ∀ {j k : Nat} {x y : SnV}, l[j]? = some x → l[k]? = some y → x.num = y.num → j = k
  | last, [], _, j, k, x, y, hj, _, _ => by simp at hj
  | last, z :: r, h, j, k, x, y, hj, hk, e => by
    simp only [snapsB, Bool.and_eq_true] at h
    cases j with
    | zero =>
      cases k with
      | zero => rfl
      | succ k =>
        simp at hj hk
        subst hj
        have := snaps_low h.2 y (List.mem_of_getElem? hk)
        omega
    | succ j =>
      cases k with
      | zero =>
        simp at hj hk
        subst hk
        have := snaps_low h.2 x (List.mem_of_getElem? hj)
        omega
      | succ k =>
        simp at hj hk
        rw [snaps_one h.2 hj hk e]
theorem good_sn {q : HA} (h : q.v.B = true) : snapsB q.obj q.seq 0 (q.sn.map SA.v) = true ∧ ((q.sn.map SA.v).map SnV.name).Nodup := by
  simp only [HdV.B, Bool.and_eq_true] at h
  have h5 : q.v.snB = true := h.1.1.1.2
  simp only [HdV.snB, Bool.and_eq_true, decide_eq_true_eq] at h5
  exact ⟨h5.1.2, h5.2⟩
theorem nums_one {q : HA} (h : q.v.B = true) {j k : Nat} {x y : SA} (hj : q.sn[j]? = some x) (hk : q.sn[k]? = some y) (e : x.num = y.num) : j = k :=
  snaps_one (good_sn h).1 (x := x.v) (y := y.v) (by rw [List.getElem?_map, hj]; rfl) (by rw [List.getElem?_map, hk]; rfl) e
theorem names_one {q : HA} (h : q.v.B = true) {j k : Nat} {x y : SA} (hj : q.sn[j]? = some x) (hk : q.sn[k]? = some y) (e : x.name = y.name) : j = k := by
  have hn := (good_sn h).2
  have e1 : ((q.sn.map SA.v).map SnV.name)[j]? = some x.name := by rw [List.getElem?_map, List.getElem?_map, hj]; rfl
  have e2 : ((q.sn.map SA.v).map SnV.name)[k]? = some y.name := by rw [List.getElem?_map, List.getElem?_map, hk]; rfl
  exact (List.getElem?_inj (List.getElem?_eq_some_iff.1 e1).1 hn).1 (by rw [e1, e2, e])
theorem objs_fit {x1 x2 n : Int} (h1 : x1 ≤ 1099511627776) (h2 : x2 ≤ 1048576) (h3 : 1 ≤ x1) (h4 : 1 ≤ x2) (hn : objsOf x1 x2 = n) :
    n * x2 < 1099514000000 ∧ x1 ≤ n * x2 ∧ (n - 1) * x2 < x1 ∧ 0 ≤ (n - 1) * x2 ∧ 1 ≤ n ∧ n ≤ 1099511627776 := by
  have he : objsOf x1 x2 = (x1 - 1) / x2 + 1 := by unfold objsOf; rw [if_neg (by omega)]
  rw [he] at hn
  have a := Int.mul_ediv_add_emod (x1 - 1) x2
  have b := Int.emod_nonneg (x1 - 1) (show x2 ≠ 0 by omega)
  have c := Int.emod_lt_of_pos (x1 - 1) (show 0 < x2 by omega)
  have d : 0 ≤ (x1 - 1) / x2 := Int.ediv_nonneg (by omega) (by omega)
  have d2 : (x1 - 1) / x2 ≤ x1 - 1 := Int.ediv_le_self _ (by omega)
  have e1 : n * x2 = x2 * ((x1 - 1) / x2) + x2 := by rw [← hn, Int.add_mul, Int.one_mul, Int.mul_comm]
  have e2 : (n - 1) * x2 = x2 * ((x1 - 1) / x2) := by rw [← hn, Int.add_sub_cancel, Int.mul_comm]
  have e3 : 0 ≤ x2 * ((x1 - 1) / x2) := Int.mul_nonneg (by omega) d
  generalize x2 * ((x1 - 1) / x2) = m at *
  generalize (x1 - 1) % x2 = r at *
  generalize (x1 - 1) / x2 = t at *
  refine ⟨by omega, by omega, by omega, by omega, by omega, by omega⟩
theorem run_str_neq (a : ByteArray) (w : World) : (binOp .neq 9 (.string a) (.string a)).run Try.prog w = .ok (.bool false) w := by
  have h : (binOp .neq 9 (.string a) (.string a)).run Try.prog w = .ok (.bool (!(a.toList == a.toList))) w := by kernel_rfl
  rw [h]
  simp
end Go.Proofs.Ytgddenhnpjoabaa

/-
  The document's Good of heads: what its tests tell, one by one.
-/
namespace Go.Proofs.Ytgddenhnpjoabaa
open Go.RowKit Go.BigFrame
set_option linter.unusedSimpArgs false
set_option linter.unusedVariables false
/-- a name is found at its own place just if none ahead of it is the same -/
theorem idx_self {α β : Type} [DecidableEq β] (nm : α → β) (l : List α) (k : Nat) (x : α) (hk : l[k]? = some x) :
    idxI (fun s => decide (nm s = nm x)) l = (k : Int) ↔ nm x ∉ (l.take k).map nm := by
  constructor
  · intro e hm
    obtain ⟨y, hy, hn⟩ := List.mem_map.1 hm
    obtain ⟨j, hj⟩ := List.getElem?_of_mem hy
    have hjk : j < k := by
      by_cases q : j < k
      · exact q
      · rw [List.getElem?_take, if_neg q] at hj
        simp at hj
    rw [List.getElem?_take, if_pos hjk] at hj
    obtain ⟨j2, z, e2, h2, -, -⟩ := idx_found (fun s => decide (nm s = nm x)) l j y hj (by simp [hn])
    omega
  · intro hm
    obtain ⟨j, z, e2, h2, hz, hp⟩ := idx_found (fun s => decide (nm s = nm x)) l k x hk (by simp)
    by_cases q : j = k
    · rw [e2, q]
    · exfalso
      apply hm
      refine List.mem_map.2 ⟨z, List.mem_of_getElem? (i := j) (by rw [List.getElem?_take, if_pos (by omega)]; exact hz), by simpa using hp⟩
theorem nodup_next {α β : Type} (nm : α → β) (l : List α) (k : Nat) (x : α) (hk : l[k]? = some x) (h : ((l.take k).map nm).Nodup) (hx : nm x ∉ (l.take k).map nm) : ((l.take (k + 1)).map nm).Nodup := by
  rw [List.take_add_one, hk, List.map_append]
  refine List.nodup_append.2 ⟨h, by simp, ?_⟩
  intro a ha b hb
  have : b = nm x := by simpa using hb
  intro e
  exact hx (by rw [← this, ← e]; exact ha)
theorem nodup_not {α β : Type} (nm : α → β) (l : List α) (k : Nat) (x : α) (hk : l[k]? = some x) (hx : nm x ∈ (l.take k).map nm) : ¬ (l.map nm).Nodup := by
  intro h
  have e : l = l.take (k + 1) ++ l.drop (k + 1) := (List.take_append_drop _ _).symm
  rw [e, List.map_append] at h
  have h2 := (List.nodup_append.1 h).1
  rw [List.take_add_one, hk, List.map_append] at h2
  exact (List.nodup_append.1 h2).2.2 (nm x) hx (nm x) (by simp) rfl
/-- the name ahead of the k-th -/
def prevS (l : List (List Nat)) : Nat → List Nat
  | 0 => []
  | k + 1 => (l[k]?).getD []
theorem ltS_nil {c : List Nat} (h : namedB c = true) : ltS [] c = true := by
  have hl := (named_len h).1
  cases c with
  | nil => simp at hl
  | cons x r =>
    have e1 : (strOf []).toList = [] := by rw [ByteArray.toList_eq, strOf_list]; rfl
    have e2 : (strOf (x :: r)).toList = UInt8.ofNat x :: r.map UInt8.ofNat := by rw [ByteArray.toList_eq, strOf_list]; rfl
    unfold ltS
    rw [e1, e2]
    rfl
theorem up_step {l : List (List Nat)} {k : Nat} {c : List Nat} (hk : l[k]? = some c) :
    upB (prevS l k) (l.drop k) = (namedB c && ltS (prevS l k) c && upB (prevS l (k + 1)) (l.drop (k + 1))) := by
  have hlt : k < l.length := (List.getElem?_eq_some_iff.1 hk).1
  rw [List.drop_eq_getElem_cons hlt, upB]
  have e : l[k] = c := (List.getElem?_eq_some_iff.1 hk).2
  rw [e]
  have e3 : prevS l (k + 1) = c := by rw [prevS, hk]; rfl
  rw [e3]
theorem up_end {l : List (List Nat)} : upB (prevS l l.length) (l.drop l.length) = true := by rw [List.drop_length]; rfl
/-- what the document's Good asks of a snapshot, but for its name's place -/
theorem snapB_view {obj seq last : Int} {s : SnV} : snapB obj seq last s = (decide (last < s.num) && decide (s.num ≤ seq) && namedB s.name && (decide (0 ≤ s.size) && decide (s.size ≤ 4096) && s.mx.B (objsOf s.size obj) && s.lk.B s.size) && (upB [] s.ch && (s.prot || s.ch.isEmpty))) := rfl
/-- the number ahead of the k-th snapshot -/
def prevN (l : List SnV) : Nat → Int
  | 0 => 0
  | k + 1 => ((l[k]?).map SnV.num).getD 0
theorem snaps_step {obj seq : Int} {l : List SnV} {k : Nat} {s : SnV} (hk : l[k]? = some s) :
    snapsB obj seq (prevN l k) (l.drop k) = (snapB obj seq (prevN l k) s && snapsB obj seq (prevN l (k + 1)) (l.drop (k + 1))) := by
  have hlt : k < l.length := (List.getElem?_eq_some_iff.1 hk).1
  rw [List.drop_eq_getElem_cons hlt, snapsB]
  have e : l[k] = s := (List.getElem?_eq_some_iff.1 hk).2
  rw [e]
  have e3 : prevN l (k + 1) = s.num := by rw [prevN, hk]; rfl
  rw [e3]
theorem snaps_end {obj seq : Int} {l : List SnV} : snapsB obj seq (prevN l l.length) (l.drop l.length) = true := by rw [List.drop_length]; rfl
theorem snap_no {obj seq : Int} {l : List SnV} {k : Nat} {s : SnV} (hk : l[k]? = some s) (h0 : snapsB obj seq 0 l = snapsB obj seq (prevN l k) (l.drop k)) (h : snapB obj seq (prevN l k) s = false) : snapsB obj seq 0 l = false := by
  rw [h0, snaps_step hk, h, Bool.false_and]
theorem snap_go {obj seq : Int} {l : List SnV} {k : Nat} {s : SnV} (hk : l[k]? = some s) (h0 : snapsB obj seq 0 l = snapsB obj seq (prevN l k) (l.drop k)) (h : snapB obj seq (prevN l k) s = true) : snapsB obj seq 0 l = snapsB obj seq (prevN l (k + 1)) (l.drop (k + 1)) := by
  rw [h0, snaps_step hk, h, Bool.true_and]
/-- the document's whole Good -/
theorem B_split (h : HdV) : h.B = (isObjB h.obj && (decide (0 ≤ h.id) && decide (0 ≤ h.seq) && decide (0 ≤ h.size) && decide (h.size ≤ 4096) && decide (h.sn.length ≤ 16) && decide (-1 ≤ h.ow) && decide (h.ow < 8) && decide (0 ≤ h.it) && decide (h.it ≤ 5)) && (h.mx.B (objsOf h.size h.obj) && h.lk.B h.size) && (snapsB h.obj h.seq 0 h.sn && decide (h.sn.map SnV.name).Nodup) && h.itB) := by
  have hit : h.itB = (decide (0 ≤ h.it) && decide (h.it ≤ 5) && h.itB) := by
    by_cases q : 0 ≤ h.it ∧ h.it ≤ 5
    · rw [decide_eq_true q.1, decide_eq_true q.2]; rfl
    · have : h.itB = false := by
        unfold HdV.itB
        rw [if_neg (by omega), if_neg (by omega), if_neg (by omega)]
      rw [this, Bool.and_false]
  have e : h.B = (decide (0 ≤ h.id) && decide (0 ≤ h.seq) && isObjB h.obj && (decide (0 ≤ h.size) && decide (h.size ≤ 4096) && h.mx.B (objsOf h.size h.obj) && h.lk.B h.size) && (decide (h.sn.length ≤ 16) && snapsB h.obj h.seq 0 h.sn && decide (h.sn.map SnV.name).Nodup) && decide (-1 ≤ h.ow) && decide (h.ow < 8) && h.itB) := rfl
  rw [e, hit]
  cases decide (0 ≤ h.id) <;> cases decide (0 ≤ h.seq) <;> cases isObjB h.obj <;> cases decide (0 ≤ h.size) <;> cases decide (h.size ≤ 4096) <;> simp [Bool.and_assoc, Bool.and_comm, Bool.and_left_comm]
/-- what the document's Good asks of the k-th snapshot -/
structure SnOk (obj seq : Int) (L : List SnV) (k : Nat) (s : SnV) : Prop where
  a : 1 ≤ s.num
  b : s.num ≤ seq
  c : 0 < k → prevN L k < s.num
  d : s.name ∉ (L.take k).map SnV.name
  e : namedB s.name = true
  f : 0 ≤ s.size
  g : s.size ≤ 4096
  h : s.mx.B (objsOf s.size obj) = true
  i : s.lk.B s.size = true
  j : s.prot = true ∨ s.ch = []
  k : upB [] s.ch = true
theorem sn_go {obj seq : Int} {L : List SnV} {k : Nat} {s : SnV} (hk : L[k]? = some s) (h0 : snapsB obj seq 0 L = snapsB obj seq (prevN L k) (L.drop k)) (hl : 0 ≤ prevN L k) (hn : ((L.take k).map SnV.name).Nodup) (q : SnOk obj seq L k s) :
    snapsB obj seq 0 L = snapsB obj seq (prevN L (k + 1)) (L.drop (k + 1)) ∧ 0 ≤ prevN L (k + 1) ∧ ((L.take (k + 1)).map SnV.name).Nodup := by
  have hlast : prevN L k < s.num := by
    cases k with
    | zero => have := q.a; show (0 : Int) < s.num; omega
    | succ m => exact q.c (by omega)
  have e3 : prevN L (k + 1) = s.num := by rw [prevN, hk]; rfl
  have hj : (s.prot || s.ch.isEmpty) = true := by
    rcases q.j with h | h
    · rw [h]; rfl
    · rw [h]; simp
  refine ⟨snap_go hk h0 ?_, by rw [e3]; have := q.a; omega, nodup_next SnV.name L k s hk hn q.d⟩
  rw [snapB_view, decide_eq_true hlast, decide_eq_true q.b, q.e, decide_eq_true q.f, decide_eq_true q.g, q.h, q.i, q.k, hj]
  rfl
theorem sn_no {obj seq : Int} {L : List SnV} {k : Nat} {s : SnV} (hk : L[k]? = some s) (h0 : snapsB obj seq 0 L = snapsB obj seq (prevN L k) (L.drop k)) (hl : 0 ≤ prevN L k) (q : ¬ SnOk obj seq L k s) :
    (snapsB obj seq 0 L && decide (L.map SnV.name).Nodup) = false := by
  by_cases hd : s.name ∈ (L.take k).map SnV.name
  · rw [decide_eq_false (nodup_not SnV.name L k s hk hd), Bool.and_false]
  · have hb : snapB obj seq (prevN L k) s = false := by
      rw [← Bool.not_eq_true]
      intro h
      rw [snapB_view] at h
      simp only [Bool.and_eq_true, decide_eq_true_eq, Bool.or_eq_true] at h
      obtain ⟨⟨⟨⟨h1, h2⟩, h3⟩, ⟨⟨h4, h5⟩, h6⟩, h7⟩, h8, h9⟩ := h
      exact q ⟨by omega, h2, fun _ => h1, hd, h3, h4, h5, h6, h7, h9.imp id List.isEmpty_iff.1, h8⟩
    rw [snap_no hk h0 hb, Bool.false_and]
/-- what it asks of the head's own numbers -/
structure HdNum (h : HdV) : Prop where
  n1 : 0 ≤ h.id
  n2 : 0 ≤ h.seq
  n3 : 0 ≤ h.size
  n4 : h.size ≤ 4096
  n5 : h.sn.length ≤ 16
  n6 : -1 ≤ h.ow
  n7 : h.ow < 8
  n8 : 0 ≤ h.it
  n9 : h.it ≤ 5
theorem hd_no {h : HdV} (q : isObjB h.obj = false ∨ ¬ HdNum h ∨ h.mx.B (objsOf h.size h.obj) = false ∨ h.lk.B h.size = false ∨ (snapsB h.obj h.seq 0 h.sn && decide (h.sn.map SnV.name).Nodup) = false ∨ h.itB = false) : h.B = false := by
  rw [← Bool.not_eq_true]
  intro hb
  rw [B_split] at hb
  simp only [Bool.and_eq_true, decide_eq_true_eq] at hb
  obtain ⟨⟨⟨⟨h1, h2⟩, h3, h4⟩, h5, h6⟩, h7⟩ := hb
  rcases q with q | q | q | q | q | q
  · rw [h1] at q; cases q
  · obtain ⟨⟨⟨⟨⟨⟨⟨⟨a, b⟩, c⟩, d⟩, e⟩, f⟩, g⟩, i⟩, j⟩ := h2
    exact q ⟨a, b, c, d, e, f, g, i, j⟩
  · rw [h3] at q; cases q
  · rw [h4] at q; cases q
  · rw [h5, decide_eq_true h6] at q; cases q
  · rw [h7] at q; cases q
theorem hd_yes {h : HdV} (h1 : isObjB h.obj = true) (h2 : HdNum h) (h3 : h.mx.B (objsOf h.size h.obj) = true) (h4 : h.lk.B h.size = true) (h5 : snapsB h.obj h.seq 0 h.sn = true) (h6 : (h.sn.map SnV.name).Nodup) : h.B = h.itB := by
  rw [B_split, h1, h3, h4, h5, decide_eq_true h6, decide_eq_true h2.n1, decide_eq_true h2.n2, decide_eq_true h2.n3, decide_eq_true h2.n4, decide_eq_true h2.n5, decide_eq_true h2.n6, decide_eq_true h2.n7, decide_eq_true h2.n8, decide_eq_true h2.n9]
  rfl
theorem run_str_geq (a b : ByteArray) (w : World) : (binOp .geq 9 (.string a) (.string b)).run Try.prog w = .ok (.bool (!(Op.bytesLess a.toList b.toList))) w := by kernel_rfl
end Go.Proofs.Ytgddenhnpjoabaa
