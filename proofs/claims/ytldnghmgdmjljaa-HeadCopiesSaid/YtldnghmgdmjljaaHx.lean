/-
  Two rows of six numbers compared; the numbers of a head; heads that are the same. Conditions: the heads read as they are said to, and are small.
-/
import Derived.Test.YtldnghmgdmjljaaHw
import Derived.Stop.BytesEq
namespace Go.Proofs.Ytldnghmgdmjljaa
open Go.RowKit Go.BigFrame
set_option linter.unusedSimpArgs false
set_option linter.unusedVariables false
set_option maxRecDepth 100000
def HA.six (a : HA) : Array Value := #[.int .i64 a.id, .int .i64 a.obj, .int .i64 a.seq, .int .i64 a.ow, .int .i64 a.it, .int .i64 a.tg]
def SixSame (a b : HA) : Prop := a.id = b.id ∧ a.obj = b.obj ∧ a.seq = b.seq ∧ a.ow = b.ow ∧ a.it = b.it ∧ a.tg = b.tg
instance (a b : HA) : Decidable (SixSame a b) := by unfold SixSame; infer_instance
theorem run_six_in (a1 a2 a3 a4 a5 a6 b1 b2 b3 b4 b5 b6 : Int) (w : World) : (Op.equalIn 10000 94 (.agg #[.int .i64 a1, .int .i64 a2, .int .i64 a3, .int .i64 a4, .int .i64 a5, .int .i64 a6]) (.agg #[.int .i64 b1, .int .i64 b2, .int .i64 b3, .int .i64 b4, .int .i64 b5, .int .i64 b6])).run Try.prog w = .ok (decide (a1 = b1 ∧ a2 = b2 ∧ a3 = b3 ∧ a4 = b4 ∧ a5 = b5 ∧ a6 = b6)) w := by
  have hsz : (sizeOf 3).run Try.prog w = .ok 1 w := by kernel_rfl
  have pe : ∀ (x y : Int), (Op.equalIn (9998 + 1) 3 (.int .i64 x) (.int .i64 y)).run Try.prog w = .ok (x == y) w := fun x y => run_equalIn_int w 9998 3 .i64 .i64 x y Try.underlying3
  rw [show (10000 : Nat) = (9998 + 1) + 1 from rfl, Op.equalIn]
  simp only [Sem.run_bind, run_underlying Try.underlying94, Result.andThen_ok, hsz, Std.Legacy.Range.forIn_eq_forIn_range', Std.Legacy.Range.size, Nat.sub_zero, Nat.add_sub_cancel, Nat.div_one]
  simp only [List.range', List.forIn_cons, List.forIn_nil, Sem.run_bind]
  have p0 : ∀ x1 x2 x3 x4 x5 x6 : Int, (Go.part 3 #[Value.int .i64 x1, .int .i64 x2, .int .i64 x3, .int .i64 x4, .int .i64 x5, .int .i64 x6] 0).run Try.prog w = Result.ok (.int .i64 x1) w := fun x1 x2 x3 x4 x5 x6 => by first | kernel_rfl | rfl | simp [Go.part, Go.isAgg, run_underlying Try.underlying3]
  have p1 : ∀ x1 x2 x3 x4 x5 x6 : Int, (Go.part 3 #[Value.int .i64 x1, .int .i64 x2, .int .i64 x3, .int .i64 x4, .int .i64 x5, .int .i64 x6] 1).run Try.prog w = Result.ok (.int .i64 x2) w := fun x1 x2 x3 x4 x5 x6 => by first | kernel_rfl | rfl | simp [Go.part, Go.isAgg, run_underlying Try.underlying3]
  have p2 : ∀ x1 x2 x3 x4 x5 x6 : Int, (Go.part 3 #[Value.int .i64 x1, .int .i64 x2, .int .i64 x3, .int .i64 x4, .int .i64 x5, .int .i64 x6] 2).run Try.prog w = Result.ok (.int .i64 x3) w := fun x1 x2 x3 x4 x5 x6 => by first | kernel_rfl | rfl | simp [Go.part, Go.isAgg, run_underlying Try.underlying3]
  have p3 : ∀ x1 x2 x3 x4 x5 x6 : Int, (Go.part 3 #[Value.int .i64 x1, .int .i64 x2, .int .i64 x3, .int .i64 x4, .int .i64 x5, .int .i64 x6] 3).run Try.prog w = Result.ok (.int .i64 x4) w := fun x1 x2 x3 x4 x5 x6 => by first | kernel_rfl | rfl | simp [Go.part, Go.isAgg, run_underlying Try.underlying3]
  have p4 : ∀ x1 x2 x3 x4 x5 x6 : Int, (Go.part 3 #[Value.int .i64 x1, .int .i64 x2, .int .i64 x3, .int .i64 x4, .int .i64 x5, .int .i64 x6] 4).run Try.prog w = Result.ok (.int .i64 x5) w := fun x1 x2 x3 x4 x5 x6 => by first | kernel_rfl | rfl | simp [Go.part, Go.isAgg, run_underlying Try.underlying3]
  have p5 : ∀ x1 x2 x3 x4 x5 x6 : Int, (Go.part 3 #[Value.int .i64 x1, .int .i64 x2, .int .i64 x3, .int .i64 x4, .int .i64 x5, .int .i64 x6] 5).run Try.prog w = Result.ok (.int .i64 x6) w := fun x1 x2 x3 x4 x5 x6 => by first | kernel_rfl | rfl | simp [Go.part, Go.isAgg, run_underlying Try.underlying3]
  have pe1 : ∀ (x y : Int), x ≠ y → (Op.equalIn (9998 + 1) 3 (.int .i64 x) (.int .i64 y)).run Try.prog w = .ok false w := fun x y h => by rw [pe, beq_eq_false_iff_ne.2 h]
  have pe2 : ∀ (x : Int), (Op.equalIn (9998 + 1) 3 (.int .i64 x) (.int .i64 x)).run Try.prog w = .ok true w := fun x => by rw [pe, beq_self_eq_true]
  clear pe
  generalize Op.equalIn (9998 + 1) 3 = eq at *
  by_cases h1 : a1 = b1
  rotate_left
  · simp [p0, p1, p2, p3, p4, p5, pe1, h1]
  subst h1
  by_cases h2 : a2 = b2
  rotate_left
  · simp [p0, p1, p2, p3, p4, p5, pe1, pe2, h2]
  subst h2
  by_cases h3 : a3 = b3
  rotate_left
  · simp [p0, p1, p2, p3, p4, p5, pe1, pe2, h3]
  subst h3
  by_cases h4 : a4 = b4
  rotate_left
  · simp [p0, p1, p2, p3, p4, p5, pe1, pe2, h4]
  subst h4
  by_cases h5 : a5 = b5
  rotate_left
  · simp [p0, p1, p2, p3, p4, p5, pe1, pe2, h5]
  subst h5
  by_cases h6 : a6 = b6
  rotate_left
  · simp [p0, p1, p2, p3, p4, p5, pe1, pe2, h6]
  subst h6
  simp [p0, p1, p2, p3, p4, p5, pe2]
theorem run_six_eql (a b : HA) (w : World) : (binOp .eql 94 (.agg a.six) (.agg b.six)).run Try.prog w = .ok (.bool (decide (SixSame a b))) w := by
  rw [run_eql_struct]
  unfold HA.six
  rw [run_six_in]
  rfl
end Go.Proofs.Ytldnghmgdmjljaa

namespace Go.Proofs.Ytldnghmgdmjljaa
open Go.RowKit Go.BigFrame
set_option linter.unusedSimpArgs false
set_option linter.unusedVariables false
set_option maxRecDepth 100000
theorem hnumbers_any (a : HA) (w : World) : Calls Try.prog 54 #[.agg a.cs] w fun e w' => e = .returned (.agg a.six) ∧ Below w.heap.size w w' := by
  unfold HA.cs
  go_enter Try.func54, Try.ntmps54
  go_wp2
  refine bodyPost_ret (results_cell_row rfl _ _ (w.heap.size + 1) 94 a.six (0, 0) _ rfl (blk_two _ _ _ _) Try.underlying94 rfl (by kernel_rfl)) rfl ?_
  exact ⟨rfl, (below_alloc w _).alloc (by simp) _⟩
theorem hv_iff (a b : HA) : a.v = b.v ↔ SixSame a b ∧ SameV a.vw b.vw ∧ a.sn.map SA.v = b.sn.map SA.v := by
  unfold HA.v SameV SixSame
  rw [HdV.mk.injEq]
  constructor
  · rintro ⟨a, b, c, d, e, f, g, h, i, j⟩; exact ⟨⟨a, c, d, h, i, j⟩, ⟨b, f, g⟩, e⟩
  · rintro ⟨⟨a, c, d, h, i, j⟩, ⟨b, f, g⟩, e⟩; exact ⟨a, b, c, d, e, f, g, h, i, j⟩
theorem hv_yes {a b : HA} (h1 : SixSame a b) (h2 : SameV a.vw b.vw) (h3 : a.sn.map SA.v = b.sn.map SA.v) : a.v = b.v := (hv_iff a b).2 ⟨h1, h2, h3⟩
theorem hv_no {a b : HA} (h : ¬ SixSame a b ∨ ¬ SameV a.vw b.vw ∨ a.sn.map SA.v ≠ b.sn.map SA.v) : (false = true ↔ a.v = b.v) := by
  refine ⟨fun h => (by cases h), fun e => ?_⟩
  obtain ⟨x, y, z⟩ := (hv_iff a b).1 e
  rcases h with h | h | h
  · exact absurd x h
  · exact absurd y h
  · exact absurd z h
set_option maxHeartbeats 16000000 in
theorem hsame_any (a b : HA) (w : World) (ha : a.R SA.cells w) (hb : b.R SA.cells w) (hSa : a.Sm) (hSb : b.Sm) : Calls Try.prog 19 #[.agg a.cs, .agg b.cs] w (SameTo w (a.v = b.v)) := by
  obtain ⟨w8, hw8⟩ : ∃ w8, w8 = (w.alloc (.cells a.cs 36)).alloc (.cells b.cs 36) := ⟨_, rfl⟩
  have hb8 : Below w.heap.size w w8 := by rw [hw8]; exact (below_alloc w _).alloc (by simp) _
  have HB8 := Lib.hid hb8
  have HB1 : Hid (∀ W, Below w8.heap.size w8 W → Blk W w.heap.size 36 #[.int .i64 a.id, .int .i64 a.vw.size, .int .i64 a.obj, .int .i64 a.seq, .slice a.S a.sn.length a.cs', .bool a.vw.on, .bool a.vw.good, .slice a.vw.M a.vw.row.length a.vw.cm, .string (strOf a.vw.par), .int .i64 a.vw.ps, .int .i64 a.vw.ov, .int .i64 a.ow, .int .i64 a.it, .int .i64 a.tg]) := Lib.hid fun W hW => by
    have k8 : Blk w8 w.heap.size 36 a.cs := by rw [hw8]; exact (Blk.new w _ _).alloc _
    exact k8.of (hW.block _ k8.lt)
  have HB2 : Hid (∀ W, Below w8.heap.size w8 W → Blk W (w.heap.size + 1) 36 #[.int .i64 b.id, .int .i64 b.vw.size, .int .i64 b.obj, .int .i64 b.seq, .slice b.S b.sn.length b.cs', .bool b.vw.on, .bool b.vw.good, .slice b.vw.M b.vw.row.length b.vw.cm, .string (strOf b.vw.par), .int .i64 b.vw.ps, .int .i64 b.vw.ov, .int .i64 b.ow, .int .i64 b.it, .int .i64 b.tg]) := Lib.hid fun W hW => by
    have k8 : Blk w8 (w.heap.size + 1) 36 b.cs := by rw [hw8]; exact blk_two w _ _ _
    exact k8.of (hW.block _ k8.lt)
  have HN1 : Hid (∀ W, Below w8.heap.size w8 W → Calls Try.prog 54 #[.agg #[.int .i64 a.id, .int .i64 a.vw.size, .int .i64 a.obj, .int .i64 a.seq, .slice a.S a.sn.length a.cs', .bool a.vw.on, .bool a.vw.good, .slice a.vw.M a.vw.row.length a.vw.cm, .string (strOf a.vw.par), .int .i64 a.vw.ps, .int .i64 a.vw.ov, .int .i64 a.ow, .int .i64 a.it, .int .i64 a.tg]] W fun e w' => e = .returned (.agg a.six) ∧ Below W.heap.size W w') := Lib.hid fun W hW => hnumbers_any a W
  have HN2 : Hid (∀ W, Below w8.heap.size w8 W → Calls Try.prog 54 #[.agg #[.int .i64 b.id, .int .i64 b.vw.size, .int .i64 b.obj, .int .i64 b.seq, .slice b.S b.sn.length b.cs', .bool b.vw.on, .bool b.vw.good, .slice b.vw.M b.vw.row.length b.vw.cm, .string (strOf b.vw.par), .int .i64 b.vw.ps, .int .i64 b.vw.ov, .int .i64 b.ow, .int .i64 b.it, .int .i64 b.tg]] W fun e w' => e = .returned (.agg b.six) ∧ Below W.heap.size W w') := Lib.hid fun W hW => hnumbers_any b W
  have HV1 : Hid (∀ W, Below w8.heap.size w8 W → Calls Try.prog 31 #[.agg #[.int .i64 a.id, .int .i64 a.vw.size, .int .i64 a.obj, .int .i64 a.seq, .slice a.S a.sn.length a.cs', .bool a.vw.on, .bool a.vw.good, .slice a.vw.M a.vw.row.length a.vw.cm, .string (strOf a.vw.par), .int .i64 a.vw.ps, .int .i64 a.vw.ov, .int .i64 a.ow, .int .i64 a.it, .int .i64 a.tg]] W fun e w' => e = .returned (.agg a.vw.cs) ∧ Below W.heap.size W w') := Lib.hid fun W hW => hview_any a W
  have HV2 : Hid (∀ W, Below w8.heap.size w8 W → Calls Try.prog 31 #[.agg #[.int .i64 b.id, .int .i64 b.vw.size, .int .i64 b.obj, .int .i64 b.seq, .slice b.S b.sn.length b.cs', .bool b.vw.on, .bool b.vw.good, .slice b.vw.M b.vw.row.length b.vw.cm, .string (strOf b.vw.par), .int .i64 b.vw.ps, .int .i64 b.vw.ov, .int .i64 b.ow, .int .i64 b.it, .int .i64 b.tg]] W fun e w' => e = .returned (.agg b.vw.cs) ∧ Below W.heap.size W w') := Lib.hid fun W hW => hview_any b W
  have HVS : Hid (∀ W, Below w8.heap.size w8 W → Calls Try.prog 55 #[.agg a.vw.cs, .agg b.vw.cs] W (SameTo W (SameV a.vw b.vw))) := Lib.hid fun W hW => vsame_any a.vw b.vw W ((ha.vw.since hb8).since hW) ((hb.vw.since hb8).since hW)
  have HSS : Hid (∀ W, Below w8.heap.size w8 W → Calls Try.prog 56 #[.slice a.S a.sn.length a.cs', .slice b.S b.sn.length b.cs', .func (.func 57) #[] #[]] W (SameTo W (a.sn.map SA.v = b.sn.map SA.v))) := Lib.hid fun W hW => by
    have ra := (ha.since hb8).since hW
    have rb := (hb.since hb8).since hW
    exact eqsnaps_any a.sn b.sn a.S b.S a.cs' b.cs' W (Nat.le_trans hSa.cn (by omega)) (Nat.le_trans hSb.cn (by omega)) ra.row rb.row (fun s hs => ⟨ra.sn s hs, Nat.le_trans (hSa.sn s hs).ch (by omega)⟩) (fun s hs => ⟨rb.sn s hs, Nat.le_trans (hSb.sn s hs).ch (by omega)⟩)
  have hsix := run_six_eql a b
  obtain ⟨r1, q1⟩ : ∃ r, decide (SixSame a b) = r := ⟨_, rfl⟩
  simp only [q1] at hsix
  have H1 : Hid (r1 = true ↔ SixSame a b) := Lib.hid (b_iff q1)
  have HW8 := Lib.hid hw8
  clear ha hb hb8 hw8 hSa hSb q1
  unfold HA.cs at *
  go_enter Try.func19, Try.ntmps19
  go_upto_region 1 with (fail)
  rw [← HW8.out]
  clear HW8
  have hS : Below w8.heap.size w8 w8.drew := (Below.refl _ w8).drew
  refine any_beginL (fun W => Below w8.heap.size w8 W) 99 (by kernel_rfl) ?_
  refine S_take (i := 0) (v := .agg #[.int .i64 a.id, .int .i64 a.vw.size, .int .i64 a.obj, .int .i64 a.seq, .slice a.S a.sn.length a.cs', .bool a.vw.on, .bool a.vw.good, .slice a.vw.M a.vw.row.length a.vw.cm, .string (strOf a.vw.par), .int .i64 a.vw.ps, .int .i64 a.vw.ov, .int .i64 a.ow, .int .i64 a.it, .int .i64 a.tg]) rfl rfl (by kernel_rfl) (by kernel_rfl) (by kernel_rfl) (fun _ _ _ h => h) (Or.inl ⟨by rfl, fun W hw => by have k0 : W.cell? ⟨w.heap.size, 0, none⟩ = some (.int .i64 a.id) := (HB1.out W hw).cell 0; have k1 : W.cell? ⟨w.heap.size, 1, none⟩ = some (.int .i64 a.vw.size) := (HB1.out W hw).cell 1; have k2 : W.cell? ⟨w.heap.size, 2, none⟩ = some (.int .i64 a.obj) := (HB1.out W hw).cell 2; have k3 : W.cell? ⟨w.heap.size, 3, none⟩ = some (.int .i64 a.seq) := (HB1.out W hw).cell 3; have k4 : W.cell? ⟨w.heap.size, 4, none⟩ = some (.slice a.S a.sn.length a.cs') := (HB1.out W hw).cell 4; have k5 : W.cell? ⟨w.heap.size, 5, none⟩ = some (.bool a.vw.on) := (HB1.out W hw).cell 5; have k6 : W.cell? ⟨w.heap.size, 6, none⟩ = some (.bool a.vw.good) := (HB1.out W hw).cell 6; have k7 : W.cell? ⟨w.heap.size, 7, none⟩ = some (.slice a.vw.M a.vw.row.length a.vw.cm) := (HB1.out W hw).cell 7; have k8 : W.cell? ⟨w.heap.size, 8, none⟩ = some (.string (strOf a.vw.par)) := (HB1.out W hw).cell 8; have k9 : W.cell? ⟨w.heap.size, 9, none⟩ = some (.int .i64 a.vw.ps) := (HB1.out W hw).cell 9; have k10 : W.cell? ⟨w.heap.size, 10, none⟩ = some (.int .i64 a.vw.ov) := (HB1.out W hw).cell 10; have k11 : W.cell? ⟨w.heap.size, 11, none⟩ = some (.int .i64 a.ow) := (HB1.out W hw).cell 11; have k12 : W.cell? ⟨w.heap.size, 12, none⟩ = some (.int .i64 a.it) := (HB1.out W hw).cell 12; have k13 : W.cell? ⟨w.heap.size, 13, none⟩ = some (.int .i64 a.tg) := (HB1.out W hw).cell 13; go_simp⟩) hS ?_
  simp only [Act.put, List.getElem_toArray, List.getElem_cons_succ, List.getElem_cons_zero, List.setIfInBounds_toArray, List.set_cons_zero, List.set_cons_succ]
  refine S_take (i := 2) (v := .agg #[.int .i64 b.id, .int .i64 b.vw.size, .int .i64 b.obj, .int .i64 b.seq, .slice b.S b.sn.length b.cs', .bool b.vw.on, .bool b.vw.good, .slice b.vw.M b.vw.row.length b.vw.cm, .string (strOf b.vw.par), .int .i64 b.vw.ps, .int .i64 b.vw.ov, .int .i64 b.ow, .int .i64 b.it, .int .i64 b.tg]) rfl rfl (by kernel_rfl) (by kernel_rfl) (by kernel_rfl) (fun _ _ _ h => h) (Or.inl ⟨by rfl, fun W hw => by have k0 : W.cell? ⟨(w.heap.size + 1), 0, none⟩ = some (.int .i64 b.id) := (HB2.out W hw).cell 0; have k1 : W.cell? ⟨(w.heap.size + 1), 1, none⟩ = some (.int .i64 b.vw.size) := (HB2.out W hw).cell 1; have k2 : W.cell? ⟨(w.heap.size + 1), 2, none⟩ = some (.int .i64 b.obj) := (HB2.out W hw).cell 2; have k3 : W.cell? ⟨(w.heap.size + 1), 3, none⟩ = some (.int .i64 b.seq) := (HB2.out W hw).cell 3; have k4 : W.cell? ⟨(w.heap.size + 1), 4, none⟩ = some (.slice b.S b.sn.length b.cs') := (HB2.out W hw).cell 4; have k5 : W.cell? ⟨(w.heap.size + 1), 5, none⟩ = some (.bool b.vw.on) := (HB2.out W hw).cell 5; have k6 : W.cell? ⟨(w.heap.size + 1), 6, none⟩ = some (.bool b.vw.good) := (HB2.out W hw).cell 6; have k7 : W.cell? ⟨(w.heap.size + 1), 7, none⟩ = some (.slice b.vw.M b.vw.row.length b.vw.cm) := (HB2.out W hw).cell 7; have k8 : W.cell? ⟨(w.heap.size + 1), 8, none⟩ = some (.string (strOf b.vw.par)) := (HB2.out W hw).cell 8; have k9 : W.cell? ⟨(w.heap.size + 1), 9, none⟩ = some (.int .i64 b.vw.ps) := (HB2.out W hw).cell 9; have k10 : W.cell? ⟨(w.heap.size + 1), 10, none⟩ = some (.int .i64 b.vw.ov) := (HB2.out W hw).cell 10; have k11 : W.cell? ⟨(w.heap.size + 1), 11, none⟩ = some (.int .i64 b.ow) := (HB2.out W hw).cell 11; have k12 : W.cell? ⟨(w.heap.size + 1), 12, none⟩ = some (.int .i64 b.it) := (HB2.out W hw).cell 12; have k13 : W.cell? ⟨(w.heap.size + 1), 13, none⟩ = some (.int .i64 b.tg) := (HB2.out W hw).cell 13; go_simp⟩) hS ?_
  simp only [Act.put, List.getElem_toArray, List.getElem_cons_succ, List.getElem_cons_zero, List.setIfInBounds_toArray, List.set_cons_zero, List.set_cons_succ]
  refine L_one (j := 1) (by kernel_rfl) rfl (by rfl) ?_
  simp only [Act.put, List.getElem_toArray, List.getElem_cons_succ, List.getElem_cons_zero, List.setIfInBounds_toArray, List.set_cons_zero, List.set_cons_succ]
  refine wp_called (by go_simp) (HN1.out _ hS) ?_
  rintro e W1 ⟨rfl, b⟩
  have hS : Below w8.heap.size w8 W1 := hS.trans (b.mono hS.size)
  clear b
  refine ⟨_, rfl, hS, ?_⟩
  simp only [Act.put, List.getElem_toArray, List.getElem_cons_succ, List.getElem_cons_zero, List.setIfInBounds_toArray, List.set_cons_zero, List.set_cons_succ]
  refine L_one (j := 3) (by kernel_rfl) rfl (by rfl) ?_
  simp only [Act.put, List.getElem_toArray, List.getElem_cons_succ, List.getElem_cons_zero, List.setIfInBounds_toArray, List.set_cons_zero, List.set_cons_succ]
  refine wp_called (by go_simp) (HN2.out _ hS) ?_
  rintro e W3 ⟨rfl, b⟩
  have hS : Below w8.heap.size w8 W3 := hS.trans (b.mono hS.size)
  clear b
  refine ⟨_, rfl, hS, ?_⟩
  simp only [Act.put, List.getElem_toArray, List.getElem_cons_succ, List.getElem_cons_zero, List.setIfInBounds_toArray, List.set_cons_zero, List.set_cons_succ]
  refine S_take (i := 4) (v := .bool r1) rfl rfl (by kernel_rfl) (by kernel_rfl) (by kernel_rfl) (fun _ _ _ h => h) (Or.inl ⟨by rfl, fun W hw => by go_simp⟩) hS ?_
  simp only [Act.put, List.getElem_toArray, List.getElem_cons_succ, List.getElem_cons_zero, List.setIfInBounds_toArray, List.set_cons_zero, List.set_cons_succ]
  cases r1 with
  | true =>
    refine S_take (i := 5) (v := .bool true) rfl rfl (by kernel_rfl) (by kernel_rfl) (by kernel_rfl) (fun _ _ _ h => h) (Or.inl ⟨by rfl, fun W hw => by go_simp⟩) hS ?_
    simp only [Act.put, List.getElem_toArray, List.getElem_cons_succ, List.getElem_cons_zero, List.setIfInBounds_toArray, List.set_cons_zero, List.set_cons_succ]
    refine S_take (i := 6) (v := .agg #[.int .i64 a.id, .int .i64 a.vw.size, .int .i64 a.obj, .int .i64 a.seq, .slice a.S a.sn.length a.cs', .bool a.vw.on, .bool a.vw.good, .slice a.vw.M a.vw.row.length a.vw.cm, .string (strOf a.vw.par), .int .i64 a.vw.ps, .int .i64 a.vw.ov, .int .i64 a.ow, .int .i64 a.it, .int .i64 a.tg]) rfl rfl (by kernel_rfl) (by kernel_rfl) (by kernel_rfl) (fun _ _ _ h => h) (Or.inl ⟨by rfl, fun W hw => by have k0 : W.cell? ⟨w.heap.size, 0, none⟩ = some (.int .i64 a.id) := (HB1.out W hw).cell 0; have k1 : W.cell? ⟨w.heap.size, 1, none⟩ = some (.int .i64 a.vw.size) := (HB1.out W hw).cell 1; have k2 : W.cell? ⟨w.heap.size, 2, none⟩ = some (.int .i64 a.obj) := (HB1.out W hw).cell 2; have k3 : W.cell? ⟨w.heap.size, 3, none⟩ = some (.int .i64 a.seq) := (HB1.out W hw).cell 3; have k4 : W.cell? ⟨w.heap.size, 4, none⟩ = some (.slice a.S a.sn.length a.cs') := (HB1.out W hw).cell 4; have k5 : W.cell? ⟨w.heap.size, 5, none⟩ = some (.bool a.vw.on) := (HB1.out W hw).cell 5; have k6 : W.cell? ⟨w.heap.size, 6, none⟩ = some (.bool a.vw.good) := (HB1.out W hw).cell 6; have k7 : W.cell? ⟨w.heap.size, 7, none⟩ = some (.slice a.vw.M a.vw.row.length a.vw.cm) := (HB1.out W hw).cell 7; have k8 : W.cell? ⟨w.heap.size, 8, none⟩ = some (.string (strOf a.vw.par)) := (HB1.out W hw).cell 8; have k9 : W.cell? ⟨w.heap.size, 9, none⟩ = some (.int .i64 a.vw.ps) := (HB1.out W hw).cell 9; have k10 : W.cell? ⟨w.heap.size, 10, none⟩ = some (.int .i64 a.vw.ov) := (HB1.out W hw).cell 10; have k11 : W.cell? ⟨w.heap.size, 11, none⟩ = some (.int .i64 a.ow) := (HB1.out W hw).cell 11; have k12 : W.cell? ⟨w.heap.size, 12, none⟩ = some (.int .i64 a.it) := (HB1.out W hw).cell 12; have k13 : W.cell? ⟨w.heap.size, 13, none⟩ = some (.int .i64 a.tg) := (HB1.out W hw).cell 13; go_simp⟩) hS ?_
    simp only [Act.put, List.getElem_toArray, List.getElem_cons_succ, List.getElem_cons_zero, List.setIfInBounds_toArray, List.set_cons_zero, List.set_cons_succ]
    refine S_take (i := 8) (v := .agg #[.int .i64 b.id, .int .i64 b.vw.size, .int .i64 b.obj, .int .i64 b.seq, .slice b.S b.sn.length b.cs', .bool b.vw.on, .bool b.vw.good, .slice b.vw.M b.vw.row.length b.vw.cm, .string (strOf b.vw.par), .int .i64 b.vw.ps, .int .i64 b.vw.ov, .int .i64 b.ow, .int .i64 b.it, .int .i64 b.tg]) rfl rfl (by kernel_rfl) (by kernel_rfl) (by kernel_rfl) (fun _ _ _ h => h) (Or.inl ⟨by rfl, fun W hw => by have k0 : W.cell? ⟨(w.heap.size + 1), 0, none⟩ = some (.int .i64 b.id) := (HB2.out W hw).cell 0; have k1 : W.cell? ⟨(w.heap.size + 1), 1, none⟩ = some (.int .i64 b.vw.size) := (HB2.out W hw).cell 1; have k2 : W.cell? ⟨(w.heap.size + 1), 2, none⟩ = some (.int .i64 b.obj) := (HB2.out W hw).cell 2; have k3 : W.cell? ⟨(w.heap.size + 1), 3, none⟩ = some (.int .i64 b.seq) := (HB2.out W hw).cell 3; have k4 : W.cell? ⟨(w.heap.size + 1), 4, none⟩ = some (.slice b.S b.sn.length b.cs') := (HB2.out W hw).cell 4; have k5 : W.cell? ⟨(w.heap.size + 1), 5, none⟩ = some (.bool b.vw.on) := (HB2.out W hw).cell 5; have k6 : W.cell? ⟨(w.heap.size + 1), 6, none⟩ = some (.bool b.vw.good) := (HB2.out W hw).cell 6; have k7 : W.cell? ⟨(w.heap.size + 1), 7, none⟩ = some (.slice b.vw.M b.vw.row.length b.vw.cm) := (HB2.out W hw).cell 7; have k8 : W.cell? ⟨(w.heap.size + 1), 8, none⟩ = some (.string (strOf b.vw.par)) := (HB2.out W hw).cell 8; have k9 : W.cell? ⟨(w.heap.size + 1), 9, none⟩ = some (.int .i64 b.vw.ps) := (HB2.out W hw).cell 9; have k10 : W.cell? ⟨(w.heap.size + 1), 10, none⟩ = some (.int .i64 b.vw.ov) := (HB2.out W hw).cell 10; have k11 : W.cell? ⟨(w.heap.size + 1), 11, none⟩ = some (.int .i64 b.ow) := (HB2.out W hw).cell 11; have k12 : W.cell? ⟨(w.heap.size + 1), 12, none⟩ = some (.int .i64 b.it) := (HB2.out W hw).cell 12; have k13 : W.cell? ⟨(w.heap.size + 1), 13, none⟩ = some (.int .i64 b.tg) := (HB2.out W hw).cell 13; go_simp⟩) hS ?_
    simp only [Act.put, List.getElem_toArray, List.getElem_cons_succ, List.getElem_cons_zero, List.setIfInBounds_toArray, List.set_cons_zero, List.set_cons_succ]
    refine L_one (j := 7) (by kernel_rfl) rfl (by rfl) ?_
    simp only [Act.put, List.getElem_toArray, List.getElem_cons_succ, List.getElem_cons_zero, List.setIfInBounds_toArray, List.set_cons_zero, List.set_cons_succ]
    refine wp_called (by go_simp) (HV1.out _ hS) ?_
    rintro e W7 ⟨rfl, b⟩
    have hS : Below w8.heap.size w8 W7 := hS.trans (b.mono hS.size)
    clear b
    refine ⟨_, rfl, hS, ?_⟩
    simp only [Act.put, List.getElem_toArray, List.getElem_cons_succ, List.getElem_cons_zero, List.setIfInBounds_toArray, List.set_cons_zero, List.set_cons_succ]
    refine L_one (j := 9) (by kernel_rfl) rfl (by rfl) ?_
    simp only [Act.put, List.getElem_toArray, List.getElem_cons_succ, List.getElem_cons_zero, List.setIfInBounds_toArray, List.set_cons_zero, List.set_cons_succ]
    refine wp_called (by go_simp) (HV2.out _ hS) ?_
    rintro e W9 ⟨rfl, b⟩
    have hS : Below w8.heap.size w8 W9 := hS.trans (b.mono hS.size)
    clear b
    refine ⟨_, rfl, hS, ?_⟩
    simp only [Act.put, List.getElem_toArray, List.getElem_cons_succ, List.getElem_cons_zero, List.setIfInBounds_toArray, List.set_cons_zero, List.set_cons_succ]
    refine L_one (j := 10) (by kernel_rfl) rfl (by rfl) ?_
    simp only [Act.put, List.getElem_toArray, List.getElem_cons_succ, List.getElem_cons_zero, List.setIfInBounds_toArray, List.set_cons_zero, List.set_cons_succ]
    refine wp_called (by go_simp) (HVS.out _ hS) ?_
    rintro e W10 ⟨r4, rfl, h4, b⟩
    have hS : Below w8.heap.size w8 W10 := hS.trans (b.mono hS.size)
    clear b
    have H4 := Lib.hid h4
    clear h4
    refine ⟨_, rfl, hS, ?_⟩
    simp only [Act.put, List.getElem_toArray, List.getElem_cons_succ, List.getElem_cons_zero, List.setIfInBounds_toArray, List.set_cons_zero, List.set_cons_succ]
    cases r4 with
    | true =>
      refine S_take (i := 11) (v := .bool true) rfl rfl (by kernel_rfl) (by kernel_rfl) (by kernel_rfl) (fun _ _ _ h => h) (Or.inl ⟨by rfl, fun W hw => by go_simp⟩) hS ?_
      simp only [Act.put, List.getElem_toArray, List.getElem_cons_succ, List.getElem_cons_zero, List.setIfInBounds_toArray, List.set_cons_zero, List.set_cons_succ]
      refine S_take (i := 12) (v := .bool true) rfl rfl (by kernel_rfl) (by kernel_rfl) (by kernel_rfl) (fun _ _ _ h => h) (Or.inl ⟨by rfl, fun W hw => by go_simp⟩) hS ?_
      simp only [Act.put, List.getElem_toArray, List.getElem_cons_succ, List.getElem_cons_zero, List.setIfInBounds_toArray, List.set_cons_zero, List.set_cons_succ]
      refine S_take (i := 13) (v := .pointer (some ⟨w.heap.size, 4, none⟩)) rfl rfl (by kernel_rfl) (by kernel_rfl) (by kernel_rfl) (fun _ _ _ h => h) (Or.inl ⟨by rfl, fun W hw => by go_simp⟩) hS ?_
      simp only [Act.put, List.getElem_toArray, List.getElem_cons_succ, List.getElem_cons_zero, List.setIfInBounds_toArray, List.set_cons_zero, List.set_cons_succ]
      refine S_take (i := 14) (v := .slice a.S a.sn.length a.cs') rfl rfl (by kernel_rfl) (by kernel_rfl) (by kernel_rfl) (fun _ _ _ h => h) (Or.inl ⟨by rfl, fun W hw => by have k0 : W.cell? ⟨w.heap.size, 4, none⟩ = some (.slice a.S a.sn.length a.cs') := (HB1.out W hw).cell 4; go_simp⟩) hS ?_
      simp only [Act.put, List.getElem_toArray, List.getElem_cons_succ, List.getElem_cons_zero, List.setIfInBounds_toArray, List.set_cons_zero, List.set_cons_succ]
      refine S_take (i := 15) (v := .pointer (some ⟨(w.heap.size + 1), 4, none⟩)) rfl rfl (by kernel_rfl) (by kernel_rfl) (by kernel_rfl) (fun _ _ _ h => h) (Or.inl ⟨by rfl, fun W hw => by go_simp⟩) hS ?_
      simp only [Act.put, List.getElem_toArray, List.getElem_cons_succ, List.getElem_cons_zero, List.setIfInBounds_toArray, List.set_cons_zero, List.set_cons_succ]
      refine S_take (i := 16) (v := .slice b.S b.sn.length b.cs') rfl rfl (by kernel_rfl) (by kernel_rfl) (by kernel_rfl) (fun _ _ _ h => h) (Or.inl ⟨by rfl, fun W hw => by have k0 : W.cell? ⟨(w.heap.size + 1), 4, none⟩ = some (.slice b.S b.sn.length b.cs') := (HB2.out W hw).cell 4; go_simp⟩) hS ?_
      simp only [Act.put, List.getElem_toArray, List.getElem_cons_succ, List.getElem_cons_zero, List.setIfInBounds_toArray, List.set_cons_zero, List.set_cons_succ]
      refine L_one (j := 17) (by kernel_rfl) rfl (by rfl) ?_
      simp only [Act.put, List.getElem_toArray, List.getElem_cons_succ, List.getElem_cons_zero, List.setIfInBounds_toArray, List.set_cons_zero, List.set_cons_succ]
      refine wp_called (by go_simp) (HSS.out _ hS) ?_
      rintro e W17 ⟨r5, rfl, h5, b⟩
      have hS : Below w8.heap.size w8 W17 := hS.trans (b.mono hS.size)
      clear b
      have H5 := Lib.hid h5
      clear h5
      refine ⟨_, rfl, hS, ?_⟩
      simp only [Act.put, List.getElem_toArray, List.getElem_cons_succ, List.getElem_cons_zero, List.setIfInBounds_toArray, List.set_cons_zero, List.set_cons_succ]
      cases r5 with
      | true =>
        refine S_take (i := 18) (v := .bool true) rfl rfl (by kernel_rfl) (by kernel_rfl) (by kernel_rfl) (fun _ _ _ h => h) (Or.inl ⟨by rfl, fun W hw => by go_simp⟩) hS ?_
        simp only [Act.put, List.getElem_toArray, List.getElem_cons_succ, List.getElem_cons_zero, List.setIfInBounds_toArray, List.set_cons_zero, List.set_cons_succ]
        refine S_take (i := 19) (v := .bool true) rfl rfl (by kernel_rfl) (by kernel_rfl) (by kernel_rfl) (fun _ _ _ h => h) (Or.inl ⟨by rfl, fun W hw => by go_simp⟩) hS ?_
        simp only [Act.put, List.getElem_toArray, List.getElem_cons_succ, List.getElem_cons_zero, List.setIfInBounds_toArray, List.set_cons_zero, List.set_cons_succ]
        refine L_done (by kernel_rfl) ?_
        refine NoPanic.normal ?_
        have HS9 := Lib.hid hS
        clear hS
        go_wp2
        go_ret
        exact ⟨true, rfl, ⟨fun _ => hv_yes (H1.out.1 (by trivial)) (H4.out.1 (by trivial)) (H5.out.1 (by trivial)), fun _ => rfl⟩, HB8.out.trans (HS9.out.mono HB8.out.size)⟩
      | false =>
        refine S_take (i := 18) (v := .bool false) rfl rfl (by kernel_rfl) (by kernel_rfl) (by kernel_rfl) (fun _ _ _ h => h) (Or.inl ⟨by rfl, fun W hw => by go_simp⟩) hS ?_
        simp only [Act.put, List.getElem_toArray, List.getElem_cons_succ, List.getElem_cons_zero, List.setIfInBounds_toArray, List.set_cons_zero, List.set_cons_succ]
        refine S_take (i := 19) (v := .bool false) rfl rfl (by kernel_rfl) (by kernel_rfl) (by kernel_rfl) (fun _ _ _ h => h) (Or.inl ⟨by rfl, fun W hw => by go_simp⟩) hS ?_
        simp only [Act.put, List.getElem_toArray, List.getElem_cons_succ, List.getElem_cons_zero, List.setIfInBounds_toArray, List.set_cons_zero, List.set_cons_succ]
        refine L_done (by kernel_rfl) ?_
        refine NoPanic.normal ?_
        have HS9 := Lib.hid hS
        clear hS
        go_wp2
        go_ret
        exact ⟨false, rfl, hv_no (.inr (.inr (fun e => by have := H5.out.2 e; cases this))), HB8.out.trans (HS9.out.mono HB8.out.size)⟩
    | false =>
      refine S_take (i := 11) (v := .bool false) rfl rfl (by kernel_rfl) (by kernel_rfl) (by kernel_rfl) (fun _ _ _ h => h) (Or.inl ⟨by rfl, fun W hw => by go_simp⟩) hS ?_
      simp only [Act.put, List.getElem_toArray, List.getElem_cons_succ, List.getElem_cons_zero, List.setIfInBounds_toArray, List.set_cons_zero, List.set_cons_succ]
      refine S_take (i := 12) (v := .bool false) rfl rfl (by kernel_rfl) (by kernel_rfl) (by kernel_rfl) (fun _ _ _ h => h) (Or.inl ⟨by rfl, fun W hw => by go_simp⟩) hS ?_
      simp only [Act.put, List.getElem_toArray, List.getElem_cons_succ, List.getElem_cons_zero, List.setIfInBounds_toArray, List.set_cons_zero, List.set_cons_succ]
      refine S_take (i := 13) (v := undef) rfl rfl (by kernel_rfl) (by kernel_rfl) (by kernel_rfl) (fun _ _ _ h => h) (Or.inr ⟨by rfl, rfl⟩) hS ?_
      simp only [Act.put, List.getElem_toArray, List.getElem_cons_succ, List.getElem_cons_zero, List.setIfInBounds_toArray, List.set_cons_zero, List.set_cons_succ]
      refine S_take (i := 14) (v := undef) rfl rfl (by kernel_rfl) (by kernel_rfl) (by kernel_rfl) (fun _ _ _ h => h) (Or.inr ⟨by rfl, rfl⟩) hS ?_
      simp only [Act.put, List.getElem_toArray, List.getElem_cons_succ, List.getElem_cons_zero, List.setIfInBounds_toArray, List.set_cons_zero, List.set_cons_succ]
      refine S_take (i := 15) (v := undef) rfl rfl (by kernel_rfl) (by kernel_rfl) (by kernel_rfl) (fun _ _ _ h => h) (Or.inr ⟨by rfl, rfl⟩) hS ?_
      simp only [Act.put, List.getElem_toArray, List.getElem_cons_succ, List.getElem_cons_zero, List.setIfInBounds_toArray, List.set_cons_zero, List.set_cons_succ]
      refine S_take (i := 16) (v := undef) rfl rfl (by kernel_rfl) (by kernel_rfl) (by kernel_rfl) (fun _ _ _ h => h) (Or.inr ⟨by rfl, rfl⟩) hS ?_
      simp only [Act.put, List.getElem_toArray, List.getElem_cons_succ, List.getElem_cons_zero, List.setIfInBounds_toArray, List.set_cons_zero, List.set_cons_succ]
      refine S_take (i := 17) (v := undef) rfl rfl (by kernel_rfl) (by kernel_rfl) (by kernel_rfl) (fun _ _ _ h => h) (Or.inr ⟨by rfl, rfl⟩) hS ?_
      simp only [Act.put, List.getElem_toArray, List.getElem_cons_succ, List.getElem_cons_zero, List.setIfInBounds_toArray, List.set_cons_zero, List.set_cons_succ]
      refine S_take (i := 18) (v := .bool false) rfl rfl (by kernel_rfl) (by kernel_rfl) (by kernel_rfl) (fun _ _ _ h => h) (Or.inl ⟨by rfl, fun W hw => by go_simp⟩) hS ?_
      simp only [Act.put, List.getElem_toArray, List.getElem_cons_succ, List.getElem_cons_zero, List.setIfInBounds_toArray, List.set_cons_zero, List.set_cons_succ]
      refine S_take (i := 19) (v := .bool false) rfl rfl (by kernel_rfl) (by kernel_rfl) (by kernel_rfl) (fun _ _ _ h => h) (Or.inl ⟨by rfl, fun W hw => by go_simp⟩) hS ?_
      simp only [Act.put, List.getElem_toArray, List.getElem_cons_succ, List.getElem_cons_zero, List.setIfInBounds_toArray, List.set_cons_zero, List.set_cons_succ]
      refine L_done (by kernel_rfl) ?_
      refine NoPanic.normal ?_
      have HS9 := Lib.hid hS
      clear hS
      go_wp2
      go_ret
      exact ⟨false, rfl, hv_no (.inr (.inl (fun e => by have := H4.out.2 e; cases this))), HB8.out.trans (HS9.out.mono HB8.out.size)⟩
  | false =>
    refine S_take (i := 5) (v := .bool false) rfl rfl (by kernel_rfl) (by kernel_rfl) (by kernel_rfl) (fun _ _ _ h => h) (Or.inl ⟨by rfl, fun W hw => by go_simp⟩) hS ?_
    simp only [Act.put, List.getElem_toArray, List.getElem_cons_succ, List.getElem_cons_zero, List.setIfInBounds_toArray, List.set_cons_zero, List.set_cons_succ]
    refine S_take (i := 6) (v := undef) rfl rfl (by kernel_rfl) (by kernel_rfl) (by kernel_rfl) (fun _ _ _ h => h) (Or.inr ⟨by rfl, rfl⟩) hS ?_
    simp only [Act.put, List.getElem_toArray, List.getElem_cons_succ, List.getElem_cons_zero, List.setIfInBounds_toArray, List.set_cons_zero, List.set_cons_succ]
    refine S_take (i := 7) (v := undef) rfl rfl (by kernel_rfl) (by kernel_rfl) (by kernel_rfl) (fun _ _ _ h => h) (Or.inr ⟨by rfl, rfl⟩) hS ?_
    simp only [Act.put, List.getElem_toArray, List.getElem_cons_succ, List.getElem_cons_zero, List.setIfInBounds_toArray, List.set_cons_zero, List.set_cons_succ]
    refine S_take (i := 8) (v := undef) rfl rfl (by kernel_rfl) (by kernel_rfl) (by kernel_rfl) (fun _ _ _ h => h) (Or.inr ⟨by rfl, rfl⟩) hS ?_
    simp only [Act.put, List.getElem_toArray, List.getElem_cons_succ, List.getElem_cons_zero, List.setIfInBounds_toArray, List.set_cons_zero, List.set_cons_succ]
    refine S_take (i := 9) (v := undef) rfl rfl (by kernel_rfl) (by kernel_rfl) (by kernel_rfl) (fun _ _ _ h => h) (Or.inr ⟨by rfl, rfl⟩) hS ?_
    simp only [Act.put, List.getElem_toArray, List.getElem_cons_succ, List.getElem_cons_zero, List.setIfInBounds_toArray, List.set_cons_zero, List.set_cons_succ]
    refine S_take (i := 10) (v := undef) rfl rfl (by kernel_rfl) (by kernel_rfl) (by kernel_rfl) (fun _ _ _ h => h) (Or.inr ⟨by rfl, rfl⟩) hS ?_
    simp only [Act.put, List.getElem_toArray, List.getElem_cons_succ, List.getElem_cons_zero, List.setIfInBounds_toArray, List.set_cons_zero, List.set_cons_succ]
    refine S_take (i := 11) (v := .bool false) rfl rfl (by kernel_rfl) (by kernel_rfl) (by kernel_rfl) (fun _ _ _ h => h) (Or.inl ⟨by rfl, fun W hw => by go_simp⟩) hS ?_
    simp only [Act.put, List.getElem_toArray, List.getElem_cons_succ, List.getElem_cons_zero, List.setIfInBounds_toArray, List.set_cons_zero, List.set_cons_succ]
    refine S_take (i := 12) (v := .bool false) rfl rfl (by kernel_rfl) (by kernel_rfl) (by kernel_rfl) (fun _ _ _ h => h) (Or.inl ⟨by rfl, fun W hw => by go_simp⟩) hS ?_
    simp only [Act.put, List.getElem_toArray, List.getElem_cons_succ, List.getElem_cons_zero, List.setIfInBounds_toArray, List.set_cons_zero, List.set_cons_succ]
    refine S_take (i := 13) (v := undef) rfl rfl (by kernel_rfl) (by kernel_rfl) (by kernel_rfl) (fun _ _ _ h => h) (Or.inr ⟨by rfl, rfl⟩) hS ?_
    simp only [Act.put, List.getElem_toArray, List.getElem_cons_succ, List.getElem_cons_zero, List.setIfInBounds_toArray, List.set_cons_zero, List.set_cons_succ]
    refine S_take (i := 14) (v := undef) rfl rfl (by kernel_rfl) (by kernel_rfl) (by kernel_rfl) (fun _ _ _ h => h) (Or.inr ⟨by rfl, rfl⟩) hS ?_
    simp only [Act.put, List.getElem_toArray, List.getElem_cons_succ, List.getElem_cons_zero, List.setIfInBounds_toArray, List.set_cons_zero, List.set_cons_succ]
    refine S_take (i := 15) (v := undef) rfl rfl (by kernel_rfl) (by kernel_rfl) (by kernel_rfl) (fun _ _ _ h => h) (Or.inr ⟨by rfl, rfl⟩) hS ?_
    simp only [Act.put, List.getElem_toArray, List.getElem_cons_succ, List.getElem_cons_zero, List.setIfInBounds_toArray, List.set_cons_zero, List.set_cons_succ]
    refine S_take (i := 16) (v := undef) rfl rfl (by kernel_rfl) (by kernel_rfl) (by kernel_rfl) (fun _ _ _ h => h) (Or.inr ⟨by rfl, rfl⟩) hS ?_
    simp only [Act.put, List.getElem_toArray, List.getElem_cons_succ, List.getElem_cons_zero, List.setIfInBounds_toArray, List.set_cons_zero, List.set_cons_succ]
    refine S_take (i := 17) (v := undef) rfl rfl (by kernel_rfl) (by kernel_rfl) (by kernel_rfl) (fun _ _ _ h => h) (Or.inr ⟨by rfl, rfl⟩) hS ?_
    simp only [Act.put, List.getElem_toArray, List.getElem_cons_succ, List.getElem_cons_zero, List.setIfInBounds_toArray, List.set_cons_zero, List.set_cons_succ]
    refine S_take (i := 18) (v := .bool false) rfl rfl (by kernel_rfl) (by kernel_rfl) (by kernel_rfl) (fun _ _ _ h => h) (Or.inl ⟨by rfl, fun W hw => by go_simp⟩) hS ?_
    simp only [Act.put, List.getElem_toArray, List.getElem_cons_succ, List.getElem_cons_zero, List.setIfInBounds_toArray, List.set_cons_zero, List.set_cons_succ]
    refine S_take (i := 19) (v := .bool false) rfl rfl (by kernel_rfl) (by kernel_rfl) (by kernel_rfl) (fun _ _ _ h => h) (Or.inl ⟨by rfl, fun W hw => by go_simp⟩) hS ?_
    simp only [Act.put, List.getElem_toArray, List.getElem_cons_succ, List.getElem_cons_zero, List.setIfInBounds_toArray, List.set_cons_zero, List.set_cons_succ]
    refine L_done (by kernel_rfl) ?_
    refine NoPanic.normal ?_
    have HS9 := Lib.hid hS
    clear hS
    go_wp2
    go_ret
    exact ⟨false, rfl, hv_no (.inl (fun e => by have := H1.out.2 e; cases this)), HB8.out.trans (HS9.out.mono HB8.out.size)⟩
end Go.Proofs.Ytldnghmgdmjljaa
