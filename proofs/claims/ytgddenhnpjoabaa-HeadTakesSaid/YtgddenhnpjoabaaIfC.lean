/-
  The document's: two heads are the same. Conditions: they read as they are said to, and are small.
-/
import Derived.Test.YtgddenhnpjoabaaEh
namespace Go.Proofs.Ytgddenhnpjoabaa
open Go.RowKit Go.BigFrame
set_option linter.unusedSimpArgs false
set_option linter.unusedVariables false
set_option maxRecDepth 100000
theorem run_dlink_neq (a b : ByteArray) (p q r s : Int) (w : World) : (binOp .neq 27 (.agg #[.string a, .int .i64 p, .int .i64 q]) (.agg #[.string b, .int .i64 r, .int .i64 s])).run Try.prog w = .ok (.bool (!((a.toList == b.toList) && decide (p = r) && decide (q = s)))) w := by
  go_simp
  by_cases h1 : a.toList = b.toList <;> by_cases h2 : p = r <;> by_cases h3 : q = s <;> simp [h1, h2, h3]
theorem run_dlink_same (a : ByteArray) (p q : Int) (w : World) : (binOp .neq 27 (.agg #[.string a, .int .i64 p, .int .i64 q]) (.agg #[.string a, .int .i64 p, .int .i64 q])).run Try.prog w = .ok (.bool false) w := by
  rw [run_dlink_neq]
  simp
theorem run_dlink_diff {a b : List Nat} (ha : ∀ x ∈ a, x < 256) (hb : ∀ x ∈ b, x < 256) {p q r s : Int} (h : ¬ (⟨a, p, q⟩ : LkV) = ⟨b, r, s⟩) (w : World) : (binOp .neq 27 (.agg #[.string (strOf a), .int .i64 p, .int .i64 q]) (.agg #[.string (strOf b), .int .i64 r, .int .i64 s])).run Try.prog w = .ok (.bool true) w := by
  rw [run_dlink_neq, str_eq ha hb]
  congr 2
  by_cases h1 : a = b <;> by_cases h2 : p = r <;> by_cases h3 : q = s <;> simp [h1, h2, h3]
  exact h (by rw [h1, h2, h3])
theorem run_str_diff {a b : List Nat} (ha : ∀ x ∈ a, x < 256) (hb : ∀ x ∈ b, x < 256) (h : ¬ a = b) (w : World) : (binOp .neq 9 (.string (strOf a)) (.string (strOf b))).run Try.prog w = .ok (.bool true) w := by
  have h' : (binOp .neq 9 (.string (strOf a)) (.string (strOf b))).run Try.prog w = .ok (.bool (!((strOf a).toList == (strOf b).toList))) w := by kernel_rfl
  rw [h', str_eq ha hb]
  simp [h]
/-- two heads of which all but the snapshots is alike -/
structure Top (a b : HA) : Prop where
  id : a.id = b.id
  size : a.vw.size = b.vw.size
  obj : a.obj = b.obj
  seq : a.seq = b.seq
  mx : a.vw.mk' = b.vw.mk'
  lk : a.vw.lk = b.vw.lk
  ow : a.ow = b.ow
  it : a.it = b.it
  tg : a.tg = b.tg
  len : a.sn.length = b.sn.length
theorem Top.all {a b : HA} (h : Top a b) (hs : a.sn.map SA.v = b.sn.map SA.v) : a.v = b.v := by
  unfold HA.v
  rw [h.id, h.size, h.obj, h.seq, h.mx, h.lk, h.ow, h.it, h.tg, hs]
theorem v_ne_at {a b : HA} {k : Nat} {s t : SA} (hs : a.sn[k]? = some s) (ht : b.sn[k]? = some t) (h : ¬ s.v = t.v) : ¬ a.v = b.v := fun e => by
  have e1 : a.sn.map SA.v = b.sn.map SA.v := congrArg HdV.sn e
  have e2 := congrArg (fun l => l[k]?) e1
  simp only [List.getElem?_map, hs, ht, Option.map_some, Option.some.injEq] at e2
  exact h e2
def DSameTo (w : World) (a b : HA) (e : Ending) (w' : World) : Prop := SameTo w (a.v = b.v) e w'
set_option maxHeartbeats 64000000 in
theorem dsame_any (a b : HA) (w : World) (ha : a.R SA.dcells w) (hb : b.R SA.dcells w) (hSa : a.Sm) (hSb : b.Sm) : Calls Try.prog 14 #[.agg a.cs, .agg b.cs] w (SameTo w (a.v = b.v)) := by
  obtain ⟨W1, hW1⟩ : ∃ W, W = (w.alloc (.cells #[.int .i64 a.id, .int .i64 a.vw.size, .int .i64 a.obj, .int .i64 a.seq, .slice a.S a.sn.length a.cs', .bool a.vw.on, .bool a.vw.good, .slice a.vw.M a.vw.row.length a.vw.cm, .string (strOf a.vw.par), .int .i64 a.vw.ps, .int .i64 a.vw.ov, .int .i64 a.ow, .int .i64 a.it, .int .i64 a.tg] 29)).alloc (.cells #[.int .i64 b.id, .int .i64 b.vw.size, .int .i64 b.obj, .int .i64 b.seq, .slice b.S b.sn.length b.cs', .bool b.vw.on, .bool b.vw.good, .slice b.vw.M b.vw.row.length b.vw.cm, .string (strOf b.vw.par), .int .i64 b.vw.ps, .int .i64 b.vw.ov, .int .i64 b.ow, .int .i64 b.it, .int .i64 b.tg] 29) := ⟨_, rfl⟩
  have h1 : Below w.heap.size w W1 ∧ W1.heap.size = w.heap.size + 2 ∧ Blk W1 w.heap.size 29 #[.int .i64 a.id, .int .i64 a.vw.size, .int .i64 a.obj, .int .i64 a.seq, .slice a.S a.sn.length a.cs', .bool a.vw.on, .bool a.vw.good, .slice a.vw.M a.vw.row.length a.vw.cm, .string (strOf a.vw.par), .int .i64 a.vw.ps, .int .i64 a.vw.ov, .int .i64 a.ow, .int .i64 a.it, .int .i64 a.tg] ∧ Blk W1 (w.heap.size + 1) 29 #[.int .i64 b.id, .int .i64 b.vw.size, .int .i64 b.obj, .int .i64 b.seq, .slice b.S b.sn.length b.cs', .bool b.vw.on, .bool b.vw.good, .slice b.vw.M b.vw.row.length b.vw.cm, .string (strOf b.vw.par), .int .i64 b.vw.ps, .int .i64 b.vw.ov, .int .i64 b.ow, .int .i64 b.it, .int .i64 b.tg] := by
    rw [hW1]
    exact ⟨(below_alloc w _).alloc (by simp) _, by simp, (Blk.new w _ _).alloc _, blk_two _ _ _ _⟩
  have HW1 := Lib.hid hW1
  have H1 := Lib.hid h1
  have HA' := Lib.hid ha
  have HB' := Lib.hid hb
  have HSA := Lib.hid hSa
  have HSB := Lib.hid hSb
  have hca := hSa.cn
  have hcb := hSb.cn
  have HM : Hid (∀ W, Below w.heap.size w W → Calls Try.prog 48 #[.agg #[.bool a.vw.on, .bool a.vw.good, .slice a.vw.M a.vw.row.length a.vw.cm], .agg #[.bool b.vw.on, .bool b.vw.good, .slice b.vw.M b.vw.row.length b.vw.cm]] W (SameTo W (a.vw.mk' = b.vw.mk'))) := Lib.hid fun W hW => dsamemarks_any a.vw b.vw W (ha.vw.since hW) (hb.vw.since hW)
  have hdiff : Hid (¬ a.vw.lk = b.vw.lk → ∀ W, (binOp .neq 27 (.agg #[.string (strOf a.vw.par), .int .i64 a.vw.ps, .int .i64 a.vw.ov]) (.agg #[.string (strOf b.vw.par), .int .i64 b.vw.ps, .int .i64 b.vw.ov])).run Try.prog W = .ok (.bool true) W) := Lib.hid fun h W => run_dlink_diff ha.vw.par hb.vw.par h W
  clear hW1 h1 ha hb hSa hSb
  unfold HA.cs
  obtain ⟨b1, z1, k1, r1⟩ := H1.out
  have HB1 := Lib.hid b1
  go_enter Try.func14, Try.ntmps14
  go_upto_region 1 with (fail)
  rw [← HW1.out]
  clear HW1
  have p0 : W1.cell? ⟨w.heap.size, 0, none⟩ = some (.int .i64 a.id) := k1.cell 0
  have p1 : W1.cell? ⟨w.heap.size, 1, none⟩ = some (.int .i64 a.vw.size) := k1.cell 1
  have p2 : W1.cell? ⟨w.heap.size, 2, none⟩ = some (.int .i64 a.obj) := k1.cell 2
  have p3 : W1.cell? ⟨w.heap.size, 3, none⟩ = some (.int .i64 a.seq) := k1.cell 3
  have p4 : W1.cell? ⟨w.heap.size, 4, none⟩ = some (.slice a.S a.sn.length a.cs') := k1.cell 4
  have p5 : W1.cell? ⟨w.heap.size, 5, none⟩ = some (.bool a.vw.on) := k1.cell 5
  have p6 : W1.cell? ⟨w.heap.size, 6, none⟩ = some (.bool a.vw.good) := k1.cell 6
  have p7 : W1.cell? ⟨w.heap.size, 7, none⟩ = some (.slice a.vw.M a.vw.row.length a.vw.cm) := k1.cell 7
  have p8 : W1.cell? ⟨w.heap.size, 8, none⟩ = some (.string (strOf a.vw.par)) := k1.cell 8
  have p9 : W1.cell? ⟨w.heap.size, 9, none⟩ = some (.int .i64 a.vw.ps) := k1.cell 9
  have p10 : W1.cell? ⟨w.heap.size, 10, none⟩ = some (.int .i64 a.vw.ov) := k1.cell 10
  have p11 : W1.cell? ⟨w.heap.size, 11, none⟩ = some (.int .i64 a.ow) := k1.cell 11
  have p12 : W1.cell? ⟨w.heap.size, 12, none⟩ = some (.int .i64 a.it) := k1.cell 12
  have p13 : W1.cell? ⟨w.heap.size, 13, none⟩ = some (.int .i64 a.tg) := k1.cell 13
  have q0 : W1.cell? ⟨w.heap.size + 1, 0, none⟩ = some (.int .i64 b.id) := r1.cell 0
  have q1 : W1.cell? ⟨w.heap.size + 1, 1, none⟩ = some (.int .i64 b.vw.size) := r1.cell 1
  have q2 : W1.cell? ⟨w.heap.size + 1, 2, none⟩ = some (.int .i64 b.obj) := r1.cell 2
  have q3 : W1.cell? ⟨w.heap.size + 1, 3, none⟩ = some (.int .i64 b.seq) := r1.cell 3
  have q4 : W1.cell? ⟨w.heap.size + 1, 4, none⟩ = some (.slice b.S b.sn.length b.cs') := r1.cell 4
  have q5 : W1.cell? ⟨w.heap.size + 1, 5, none⟩ = some (.bool b.vw.on) := r1.cell 5
  have q6 : W1.cell? ⟨w.heap.size + 1, 6, none⟩ = some (.bool b.vw.good) := r1.cell 6
  have q7 : W1.cell? ⟨w.heap.size + 1, 7, none⟩ = some (.slice b.vw.M b.vw.row.length b.vw.cm) := r1.cell 7
  have q8 : W1.cell? ⟨w.heap.size + 1, 8, none⟩ = some (.string (strOf b.vw.par)) := r1.cell 8
  have q9 : W1.cell? ⟨w.heap.size + 1, 9, none⟩ = some (.int .i64 b.vw.ps) := r1.cell 9
  have q10 : W1.cell? ⟨w.heap.size + 1, 10, none⟩ = some (.int .i64 b.vw.ov) := r1.cell 10
  have q11 : W1.cell? ⟨w.heap.size + 1, 11, none⟩ = some (.int .i64 b.ow) := r1.cell 11
  have q12 : W1.cell? ⟨w.heap.size + 1, 12, none⟩ = some (.int .i64 b.it) := r1.cell 12
  have q13 : W1.cell? ⟨w.heap.size + 1, 13, none⟩ = some (.int .i64 b.tg) := r1.cell 13
  clear b1 k1 r1
  by_cases c0 : a.id = b.id
  rotate_left
  · have n0 : (a.id == b.id) = false := beq_eq_false_iff_ne.2 c0
    have m0 : (a.id != b.id) = true := by rw [bne, n0]; rfl
    go_wp2
    go_ret
    exact ⟨false, rfl, ⟨fun h => (by cases h), fun h => absurd (congrArg HdV.id h) (by assumption)⟩, HB1.out⟩
  rw [← c0] at q0
  have C0 := Lib.hid c0
  clear c0
  by_cases c1 : a.vw.size = b.vw.size
  rotate_left
  · have n1 : (a.vw.size == b.vw.size) = false := beq_eq_false_iff_ne.2 c1
    have m1 : (a.vw.size != b.vw.size) = true := by rw [bne, n1]; rfl
    go_wp2
    go_ret
    exact ⟨false, rfl, ⟨fun h => (by cases h), fun h => absurd (congrArg HdV.size h) (by assumption)⟩, HB1.out⟩
  rw [← c1] at q1
  have C1 := Lib.hid c1
  clear c1
  by_cases c2 : a.obj = b.obj
  rotate_left
  · have n2 : (a.obj == b.obj) = false := beq_eq_false_iff_ne.2 c2
    have m2 : (a.obj != b.obj) = true := by rw [bne, n2]; rfl
    go_wp2
    go_ret
    exact ⟨false, rfl, ⟨fun h => (by cases h), fun h => absurd (congrArg HdV.obj h) (by assumption)⟩, HB1.out⟩
  rw [← c2] at q2
  have C2 := Lib.hid c2
  clear c2
  by_cases c3 : a.seq = b.seq
  rotate_left
  · have n3 : (a.seq == b.seq) = false := beq_eq_false_iff_ne.2 c3
    have m3 : (a.seq != b.seq) = true := by rw [bne, n3]; rfl
    go_wp2
    go_ret
    exact ⟨false, rfl, ⟨fun h => (by cases h), fun h => absurd (congrArg HdV.seq h) (by assumption)⟩, HB1.out⟩
  rw [← c3] at q3
  have C3 := Lib.hid c3
  clear c3
  go_wp2_with fail
  refine (HM.out W1 HB1.out).mono ?_
  rintro e w2 ⟨r, rfl, hr, b2⟩
  have HB2 := Lib.hid (HB1.out.trans (b2.mono HB1.out.size))
  cases r with
  | false =>
    have hmx : ¬ a.vw.mk' = b.vw.mk' := fun h => by have := hr.2 h; cases this
    clear hr b2
    go_wp2
    go_ret
    exact ⟨false, rfl, ⟨fun h => (by cases h), fun h => absurd (congrArg HdV.mx h) (by assumption)⟩, HB2.out⟩
  | true =>
    have CM := Lib.hid (hr.1 rfl)
    have k2 := H1.out.2.2.1.of (b2.block _ H1.out.2.2.1.lt)
    have r2 := H1.out.2.2.2.of (b2.block _ H1.out.2.2.2.lt)
    clear hr p0 q0 p1 q1 p2 q2 p3 q3 p4 q4 p5 q5 p6 q6 p7 q7 p8 q8 p9 q9 p10 q10 p11 q11 p12 q12 p13 q13
    have p0 : w2.cell? ⟨w.heap.size, 0, none⟩ = some (.int .i64 a.id) := k2.cell 0
    have p1 : w2.cell? ⟨w.heap.size, 1, none⟩ = some (.int .i64 a.vw.size) := k2.cell 1
    have p2 : w2.cell? ⟨w.heap.size, 2, none⟩ = some (.int .i64 a.obj) := k2.cell 2
    have p3 : w2.cell? ⟨w.heap.size, 3, none⟩ = some (.int .i64 a.seq) := k2.cell 3
    have p4 : w2.cell? ⟨w.heap.size, 4, none⟩ = some (.slice a.S a.sn.length a.cs') := k2.cell 4
    have p5 : w2.cell? ⟨w.heap.size, 5, none⟩ = some (.bool a.vw.on) := k2.cell 5
    have p6 : w2.cell? ⟨w.heap.size, 6, none⟩ = some (.bool a.vw.good) := k2.cell 6
    have p7 : w2.cell? ⟨w.heap.size, 7, none⟩ = some (.slice a.vw.M a.vw.row.length a.vw.cm) := k2.cell 7
    have p8 : w2.cell? ⟨w.heap.size, 8, none⟩ = some (.string (strOf a.vw.par)) := k2.cell 8
    have p9 : w2.cell? ⟨w.heap.size, 9, none⟩ = some (.int .i64 a.vw.ps) := k2.cell 9
    have p10 : w2.cell? ⟨w.heap.size, 10, none⟩ = some (.int .i64 a.vw.ov) := k2.cell 10
    have p11 : w2.cell? ⟨w.heap.size, 11, none⟩ = some (.int .i64 a.ow) := k2.cell 11
    have p12 : w2.cell? ⟨w.heap.size, 12, none⟩ = some (.int .i64 a.it) := k2.cell 12
    have p13 : w2.cell? ⟨w.heap.size, 13, none⟩ = some (.int .i64 a.tg) := k2.cell 13
    have q0 : w2.cell? ⟨w.heap.size + 1, 0, none⟩ = some (.int .i64 b.id) := r2.cell 0
    have q1 : w2.cell? ⟨w.heap.size + 1, 1, none⟩ = some (.int .i64 b.vw.size) := r2.cell 1
    have q2 : w2.cell? ⟨w.heap.size + 1, 2, none⟩ = some (.int .i64 b.obj) := r2.cell 2
    have q3 : w2.cell? ⟨w.heap.size + 1, 3, none⟩ = some (.int .i64 b.seq) := r2.cell 3
    have q4 : w2.cell? ⟨w.heap.size + 1, 4, none⟩ = some (.slice b.S b.sn.length b.cs') := r2.cell 4
    have q5 : w2.cell? ⟨w.heap.size + 1, 5, none⟩ = some (.bool b.vw.on) := r2.cell 5
    have q6 : w2.cell? ⟨w.heap.size + 1, 6, none⟩ = some (.bool b.vw.good) := r2.cell 6
    have q7 : w2.cell? ⟨w.heap.size + 1, 7, none⟩ = some (.slice b.vw.M b.vw.row.length b.vw.cm) := r2.cell 7
    have q8 : w2.cell? ⟨w.heap.size + 1, 8, none⟩ = some (.string (strOf b.vw.par)) := r2.cell 8
    have q9 : w2.cell? ⟨w.heap.size + 1, 9, none⟩ = some (.int .i64 b.vw.ps) := r2.cell 9
    have q10 : w2.cell? ⟨w.heap.size + 1, 10, none⟩ = some (.int .i64 b.vw.ov) := r2.cell 10
    have q11 : w2.cell? ⟨w.heap.size + 1, 11, none⟩ = some (.int .i64 b.ow) := r2.cell 11
    have q12 : w2.cell? ⟨w.heap.size + 1, 12, none⟩ = some (.int .i64 b.it) := r2.cell 12
    have q13 : w2.cell? ⟨w.heap.size + 1, 13, none⟩ = some (.int .i64 b.tg) := r2.cell 13
    have K2 := Lib.hid (And.intro k2 r2)
    clear k2 r2 b2
    by_cases cl : a.vw.lk = b.vw.lk
    rotate_left
    · have hnl := hdiff.out cl
      go_wp2
      go_ret
      exact ⟨false, rfl, ⟨fun h => (by cases h), fun h => absurd (congrArg HdV.lk h) (by assumption)⟩, HB2.out⟩
    have l1 : a.vw.par = b.vw.par := congrArg LkV.par cl
    have l2 : a.vw.ps = b.vw.ps := congrArg LkV.ps cl
    have l3 : a.vw.ov = b.vw.ov := congrArg LkV.ov cl
    rw [← l1] at q8
    rw [← l2] at q9
    rw [← l3] at q10
    have CL := Lib.hid cl
    have hsl := fun W => run_dlink_same (strOf a.vw.par) a.vw.ps a.vw.ov W
    clear l1 l2 l3 cl
    by_cases c20 : a.ow = b.ow
    rotate_left
    · have n20 : (a.ow == b.ow) = false := beq_eq_false_iff_ne.2 c20
      have m20 : (a.ow != b.ow) = true := by rw [bne, n20]; rfl
      go_wp2
      go_ret
      exact ⟨false, rfl, ⟨fun h => (by cases h), fun h => absurd (congrArg HdV.ow h) (by assumption)⟩, HB2.out⟩
    rw [← c20] at q11
    have C20 := Lib.hid c20
    clear c20
    by_cases c21 : a.it = b.it
    rotate_left
    · have n21 : (a.it == b.it) = false := beq_eq_false_iff_ne.2 c21
      have m21 : (a.it != b.it) = true := by rw [bne, n21]; rfl
      go_wp2
      go_ret
      exact ⟨false, rfl, ⟨fun h => (by cases h), fun h => absurd (congrArg HdV.it h) (by assumption)⟩, HB2.out⟩
    rw [← c21] at q12
    have C21 := Lib.hid c21
    clear c21
    by_cases c22 : a.tg = b.tg
    rotate_left
    · have n22 : (a.tg == b.tg) = false := beq_eq_false_iff_ne.2 c22
      have m22 : (a.tg != b.tg) = true := by rw [bne, n22]; rfl
      go_wp2
      go_ret
      exact ⟨false, rfl, ⟨fun h => (by cases h), fun h => absurd (congrArg HdV.tg h) (by assumption)⟩, HB2.out⟩
    rw [← c22] at q13
    have C22 := Lib.hid c22
    clear c22
    by_cases cn : a.sn.length = b.sn.length
    rotate_left
    · have n30 : ((a.sn.length : Int) == (b.sn.length : Int)) = false := beq_eq_false_iff_ne.2 (by omega)
      have m30 : ((a.sn.length : Int) != (b.sn.length : Int)) = true := by rw [bne, n30]; rfl
      have cn2 : ¬ (a.sn.map SA.v).length = (b.sn.map SA.v).length := by simpa using cn
      have CN2 := Lib.hid cn2
      clear cn cn2
      go_wp2
      go_ret
      exact ⟨false, rfl, ⟨fun h => (by cases h), fun h => absurd (congrArg (fun x => x.sn.length) h) CN2.out⟩, HB2.out⟩
    rw [← cn] at q4
    have HT : Hid (Top a b) := Lib.hid ⟨C0.out, C1.out, C2.out, C3.out, CM.out, CL.out, C20.out, C21.out, C22.out, cn⟩
    clear cn C0 C1 C2 C3 CM CL C20 C21 C22 hdiff HM
    have hlen := HT.out.len
    go_wp2
    clear p0 q0 p1 q1 p2 q2 p3 q3 p4 q4 p5 q5 p6 q6 p7 q7 p8 q8 p9 q9 p10 q10 p11 q11 p12 q12 p13 q13 hsl hlen
    go_loopw [5] (fun i wr => ∃ k : Nat, k ≤ a.sn.length ∧ i = .int .i64 k ∧ (a.sn.take k).map SA.v = (b.sn.take k).map SA.v ∧ Blk wr w.heap.size 29 #[.int .i64 a.id, .int .i64 a.vw.size, .int .i64 a.obj, .int .i64 a.seq, .slice a.S a.sn.length a.cs', .bool a.vw.on, .bool a.vw.good, .slice a.vw.M a.vw.row.length a.vw.cm, .string (strOf a.vw.par), .int .i64 a.vw.ps, .int .i64 a.vw.ov, .int .i64 a.ow, .int .i64 a.it, .int .i64 a.tg] ∧ Blk wr (w.heap.size + 1) 29 #[.int .i64 b.id, .int .i64 b.vw.size, .int .i64 b.obj, .int .i64 b.seq, .slice b.S b.sn.length b.cs', .bool b.vw.on, .bool b.vw.good, .slice b.vw.M b.vw.row.length b.vw.cm, .string (strOf b.vw.par), .int .i64 b.vw.ps, .int .i64 b.vw.ov, .int .i64 b.ow, .int .i64 b.it, .int .i64 b.tg] ∧ Below w.heap.size w wr) (fun i _ => a.sn.length - (intOf i).toNat)
    case atStart => exact ⟨0, by omega, rfl, by simp, K2.out.1, K2.out.2, HB2.out⟩
    case round =>
      obtain ⟨k, hk, rfl, hup, hk1, hk2, hb'⟩ := hrel
      obtain ⟨wo, hwo⟩ : ∃ wo, wo = wr := ⟨_, rfl⟩
      subst hwo
      have HUP := Lib.hid hup
      have HK1 := Lib.hid hk1
      have HK2 := Lib.hid hk2
      have HB := Lib.hid hb'
      have p4 : wo.cell? ⟨w.heap.size, 4, none⟩ = some (.slice a.S a.sn.length a.cs') := hk1.cell 4
      have q4 : wo.cell? ⟨w.heap.size + 1, 4, none⟩ = some (.slice b.S a.sn.length b.cs') := by rw [HT.out.len]; exact hk2.cell 4
      by_cases hlt : k < a.sn.length
      · have dl : decide ((k : Int) < (a.sn.length : Int)) = true := decide_eq_true (by omega)
        have hwk : IntKind.i64.wrap ((k : Int) + 1) = (k : Int) + 1 := by rw [IntKind.wrap_i64]; omega
        obtain ⟨s, hs⟩ : ∃ s, a.sn[k]? = some s := ⟨_, List.getElem?_eq_getElem hlt⟩
        obtain ⟨t, ht⟩ : ∃ t, b.sn[k]? = some t := ⟨_, List.getElem?_eq_getElem (by rw [← HT.out.len]; exact hlt)⟩
        have hRa := HA'.out.since hb'
        have hRb := HB'.out.since hb'
        have hsR := hRa.sn s (List.mem_of_getElem? hs)
        have htR := hRb.sn t (List.mem_of_getElem? ht)
        obtain ⟨ad, had, -, hca'⟩ := snap_at SA.dcells_len hRa.row hs
        obtain ⟨bd, hbd, hlb, hcb'⟩ := snap_at SA.dcells_len hRb.row ht
        obtain ⟨W5, hW5⟩ : ∃ W, W = wo.alloc (.cells s.dcells.toArray 74) := ⟨_, rfl⟩
        obtain ⟨W6, hW6⟩ : ∃ W, W = W5.alloc (.cells t.dcells.toArray 74) := ⟨_, rfl⟩
        have hz5 : W5.heap.size = wo.heap.size + 1 := by rw [hW5]; simp
        have hb5 : Below wo.heap.size wo W5 := by rw [hW5]; exact below_alloc wo _
        have hb6 : Below wo.heap.size wo W6 := by rw [hW6]; exact hb5.alloc hb5.size _
        have hk5 : Blk W6 wo.heap.size 74 #[.int .i64 s.num, .int .i64 s.vw.size, .string (strOf s.name), .bool s.prot, .bool s.vw.on, .bool s.vw.good, .slice s.vw.M s.vw.row.length s.vw.cm, .string (strOf s.vw.par), .int .i64 s.vw.ps, .int .i64 s.vw.ov, .slice s.C s.ch.length s.cc] := by
          rw [hW6, hW5]
          exact (Blk.new wo _ _).alloc _
        have hk6 : Blk W6 (wo.heap.size + 1) 74 #[.int .i64 t.num, .int .i64 t.vw.size, .string (strOf t.name), .bool t.prot, .bool t.vw.on, .bool t.vw.good, .slice t.vw.M t.vw.row.length t.vw.cm, .string (strOf t.vw.par), .int .i64 t.vw.ps, .int .i64 t.vw.ov, .slice t.C t.ch.length t.cc] := by
          have := Blk.new W5 74 t.dcells.toArray
          rw [hz5, ← hW6] at this
          exact this
        have hcb5 : ∀ j v, [.int .i64 t.num, .int .i64 t.vw.size, .string (strOf t.name), .bool t.prot, .bool t.vw.on, .bool t.vw.good, .slice t.vw.M t.vw.row.length t.vw.cm, .string (strOf t.vw.par), .int .i64 t.vw.ps, .int .i64 t.vw.ov, .slice t.C t.ch.length t.cc][j]? = some v → (wo.alloc (.cells #[.int .i64 s.num, .int .i64 s.vw.size, .string (strOf s.name), .bool s.prot, .bool s.vw.on, .bool s.vw.good, .slice s.vw.M s.vw.row.length s.vw.cm, .string (strOf s.vw.par), .int .i64 s.vw.ps, .int .i64 s.vw.ov, .slice s.C s.ch.length s.cc] 74)).cell? ((bd.add (k * 11)).add j) = some v := fun j v hj => by
          rw [World.cell?_alloc_lt _ _ _ (by rw [block_of_add, block_of_add]; exact hlb)]
          exact hcb' j v hj
        have hq4 : (wo.alloc (.cells #[.int .i64 s.num, .int .i64 s.vw.size, .string (strOf s.name), .bool s.prot, .bool s.vw.on, .bool s.vw.good, .slice s.vw.M s.vw.row.length s.vw.cm, .string (strOf s.vw.par), .int .i64 s.vw.ps, .int .i64 s.vw.ov, .slice s.C s.ch.length s.cc] 74)).cell? ⟨w.heap.size + 1, 4, none⟩ = some (.slice (some bd) a.sn.length b.cs') := by
          rw [World.cell?_alloc_lt _ _ _ (hk2.lt), ← hbd]
          exact q4
        have HW : Hid (W6 = (wo.alloc (.cells #[.int .i64 s.num, .int .i64 s.vw.size, .string (strOf s.name), .bool s.prot, .bool s.vw.on, .bool s.vw.good, .slice s.vw.M s.vw.row.length s.vw.cm, .string (strOf s.vw.par), .int .i64 s.vw.ps, .int .i64 s.vw.ov, .slice s.C s.ch.length s.cc] 74)).alloc (.cells #[.int .i64 t.num, .int .i64 t.vw.size, .string (strOf t.name), .bool t.prot, .bool t.vw.on, .bool t.vw.good, .slice t.vw.M t.vw.row.length t.vw.cm, .string (strOf t.vw.par), .int .i64 t.vw.ps, .int .i64 t.vw.ov, .slice t.C t.ch.length t.cc] 74)) := Lib.hid (by rw [hW6, hW5]; rfl)
        have HB6 := Lib.hid hb6
        have HK5 := Lib.hid hk5
        have HK6 := Lib.hid hk6
        have HS := Lib.hid (And.intro hs ht)
        have HR := Lib.hid (And.intro hsR htR)
        have HAD := Lib.hid (And.intro had hbd)
        rw [had] at p4
        rw [hbd] at q4
        clear hW5 hW6 hb5 hb6 hk5 hk6 hz5 hs ht hsR htR hRa hRb hcb' hlb hup hk1 hk2 hb' had hbd
        go_upto_region 8 with (first
          | (have _h := hca'; refine wpList_loadp rfl 74 (.tmp 90) rfl _ [.int .i64 s.num, .int .i64 s.vw.size, .string (strOf s.name), .bool s.prot, .bool s.vw.on, .bool s.vw.good, .slice s.vw.M s.vw.row.length s.vw.cm, .string (strOf s.vw.par), .int .i64 s.vw.ps, .int .i64 s.vw.ov, .slice s.C s.ch.length s.cc] _ rfl hca' Try.underlying74 rfl (by kernel_rfl) ?_; clear _h hca')
          | (have _h := hcb5; refine wpList_loadp rfl 74 (.tmp 95) rfl _ [.int .i64 t.num, .int .i64 t.vw.size, .string (strOf t.name), .bool t.prot, .bool t.vw.on, .bool t.vw.good, .slice t.vw.M t.vw.row.length t.vw.cm, .string (strOf t.vw.par), .int .i64 t.vw.ps, .int .i64 t.vw.ov, .slice t.C t.ch.length t.cc] _ rfl hcb5 Try.underlying74 rfl (by kernel_rfl) ?_; clear _h hcb5))
        rw [← HW.out]
        clear HW p4 q4 hq4
        have p0 : W6.cell? ⟨wo.heap.size, 0, none⟩ = some (.int .i64 s.num) := HK5.out.cell 0
        have p1 : W6.cell? ⟨wo.heap.size, 1, none⟩ = some (.int .i64 s.vw.size) := HK5.out.cell 1
        have p2 : W6.cell? ⟨wo.heap.size, 2, none⟩ = some (.string (strOf s.name)) := HK5.out.cell 2
        have p3 : W6.cell? ⟨wo.heap.size, 3, none⟩ = some (.bool s.prot) := HK5.out.cell 3
        have p4 : W6.cell? ⟨wo.heap.size, 4, none⟩ = some (.bool s.vw.on) := HK5.out.cell 4
        have p5 : W6.cell? ⟨wo.heap.size, 5, none⟩ = some (.bool s.vw.good) := HK5.out.cell 5
        have p6 : W6.cell? ⟨wo.heap.size, 6, none⟩ = some (.slice s.vw.M s.vw.row.length s.vw.cm) := HK5.out.cell 6
        have p7 : W6.cell? ⟨wo.heap.size, 7, none⟩ = some (.string (strOf s.vw.par)) := HK5.out.cell 7
        have p8 : W6.cell? ⟨wo.heap.size, 8, none⟩ = some (.int .i64 s.vw.ps) := HK5.out.cell 8
        have p9 : W6.cell? ⟨wo.heap.size, 9, none⟩ = some (.int .i64 s.vw.ov) := HK5.out.cell 9
        have p10 : W6.cell? ⟨wo.heap.size, 10, none⟩ = some (.slice s.C s.ch.length s.cc) := HK5.out.cell 10
        have q0 : W6.cell? ⟨wo.heap.size + 1, 0, none⟩ = some (.int .i64 t.num) := HK6.out.cell 0
        have q1 : W6.cell? ⟨wo.heap.size + 1, 1, none⟩ = some (.int .i64 t.vw.size) := HK6.out.cell 1
        have q2 : W6.cell? ⟨wo.heap.size + 1, 2, none⟩ = some (.string (strOf t.name)) := HK6.out.cell 2
        have q3 : W6.cell? ⟨wo.heap.size + 1, 3, none⟩ = some (.bool t.prot) := HK6.out.cell 3
        have q4 : W6.cell? ⟨wo.heap.size + 1, 4, none⟩ = some (.bool t.vw.on) := HK6.out.cell 4
        have q5 : W6.cell? ⟨wo.heap.size + 1, 5, none⟩ = some (.bool t.vw.good) := HK6.out.cell 5
        have q6 : W6.cell? ⟨wo.heap.size + 1, 6, none⟩ = some (.slice t.vw.M t.vw.row.length t.vw.cm) := HK6.out.cell 6
        have q7 : W6.cell? ⟨wo.heap.size + 1, 7, none⟩ = some (.string (strOf t.vw.par)) := HK6.out.cell 7
        have q8 : W6.cell? ⟨wo.heap.size + 1, 8, none⟩ = some (.int .i64 t.vw.ps) := HK6.out.cell 8
        have q9 : W6.cell? ⟨wo.heap.size + 1, 9, none⟩ = some (.int .i64 t.vw.ov) := HK6.out.cell 9
        have q10 : W6.cell? ⟨wo.heap.size + 1, 10, none⟩ = some (.slice t.C t.ch.length t.cc) := HK6.out.cell 10
        have HBB : Hid (Below w.heap.size w W6) := Lib.hid (HB.out.trans (HB6.out.mono HB.out.size))
        have HM2 : Hid (∀ W, Below wo.heap.size wo W → Calls Try.prog 48 #[.agg #[.bool s.vw.on, .bool s.vw.good, .slice s.vw.M s.vw.row.length s.vw.cm], .agg #[.bool t.vw.on, .bool t.vw.good, .slice t.vw.M t.vw.row.length t.vw.cm]] W (SameTo W (s.vw.mk' = t.vw.mk'))) := Lib.hid fun W hW => dsamemarks_any s.vw t.vw W (HR.out.1.vw.since hW) (HR.out.2.vw.since hW)
        by_cases d40 : s.num = t.num
        rotate_left
        · have D40 := Lib.hid d40
          have n40 : (s.num == t.num) = false := beq_eq_false_iff_ne.2 d40
          have m40 : (s.num != t.num) = true := by rw [bne, n40]; rfl
          go_wp2
          go_ret
          exact ⟨false, rfl, ⟨fun h => (by cases h), fun h => absurd h (v_ne_at HS.out.1 HS.out.2 (fun e => D40.out (congrArg SnV.num e)))⟩, HBB.out⟩
        rw [← d40] at q0
        have D40 := Lib.hid d40
        clear d40
        by_cases d41 : s.vw.size = t.vw.size
        rotate_left
        · have D41 := Lib.hid d41
          have n41 : (s.vw.size == t.vw.size) = false := beq_eq_false_iff_ne.2 d41
          have m41 : (s.vw.size != t.vw.size) = true := by rw [bne, n41]; rfl
          go_wp2
          go_ret
          exact ⟨false, rfl, ⟨fun h => (by cases h), fun h => absurd h (v_ne_at HS.out.1 HS.out.2 (fun e => D41.out (congrArg SnV.size e)))⟩, HBB.out⟩
        rw [← d41] at q1
        have D41 := Lib.hid d41
        clear d41
        by_cases d42 : s.name = t.name
        rotate_left
        · have D42 := Lib.hid d42
          have e42 : ((strOf s.name).toList == (strOf t.name).toList) = false := by rw [str_eq HR.out.1.name HR.out.2.name]; exact decide_eq_false d42
          have f42 : ¬ (strOf s.name).toList = (strOf t.name).toList := by simpa using e42
          clear d42
          go_wp2
          go_ret
          exact ⟨false, rfl, ⟨fun h => (by cases h), fun h => absurd h (v_ne_at HS.out.1 HS.out.2 (fun e => D42.out (congrArg SnV.name e)))⟩, HBB.out⟩
        rw [← d42] at q2
        have D42 := Lib.hid d42
        clear d42
        have hs42 := fun W => run_str_neq (strOf s.name) W
        by_cases d43 : s.prot = t.prot
        rotate_left
        · have D43 := Lib.hid d43
          have n43 : (s.prot == t.prot) = false := beq_eq_false_iff_ne.2 d43
          have m43 : (s.prot != t.prot) = true := by rw [bne, n43]; rfl
          go_wp2
          go_ret
          exact ⟨false, rfl, ⟨fun h => (by cases h), fun h => absurd h (v_ne_at HS.out.1 HS.out.2 (fun e => D43.out (congrArg SnV.prot e)))⟩, HBB.out⟩
        rw [← d43] at q3
        have D43 := Lib.hid d43
        clear d43
        go_wp2_with fail
        refine (HM2.out W6 HB6.out).mono ?_
        rintro e w7 ⟨r, rfl, hr, b7⟩
        have HB7 := Lib.hid (HB6.out.trans (b7.mono HB6.out.size))
        have HBC : Hid (Below w.heap.size w w7) := Lib.hid (HB.out.trans (HB7.out.mono HB.out.size))
        cases r with
        | false =>
          have hmx : ¬ s.vw.mk' = t.vw.mk' := fun h => by have := hr.2 h; cases this
          have HMX := Lib.hid hmx
          clear hr b7 hmx
          go_wp2
          go_ret
          exact ⟨false, rfl, ⟨fun h => (by cases h), fun h => absurd h (v_ne_at HS.out.1 HS.out.2 (fun e => HMX.out (congrArg SnV.mx e)))⟩, HBC.out⟩
        | true =>
          have DM := Lib.hid (hr.1 rfl)
          have k7 := HK5.out.of (b7.block _ HK5.out.lt)
          have r7 := HK6.out.of (b7.block _ HK6.out.lt)
          clear hr p0 q0 p1 q1 p2 q2 p3 q3 p4 q4 p5 q5 p6 q6 p7 q7 p8 q8 p9 q9 p10 q10 hs42
          have p0 : w7.cell? ⟨wo.heap.size, 0, none⟩ = some (.int .i64 s.num) := k7.cell 0
          have p1 : w7.cell? ⟨wo.heap.size, 1, none⟩ = some (.int .i64 s.vw.size) := k7.cell 1
          have p2 : w7.cell? ⟨wo.heap.size, 2, none⟩ = some (.string (strOf s.name)) := k7.cell 2
          have p3 : w7.cell? ⟨wo.heap.size, 3, none⟩ = some (.bool s.prot) := k7.cell 3
          have p4 : w7.cell? ⟨wo.heap.size, 4, none⟩ = some (.bool s.vw.on) := k7.cell 4
          have p5 : w7.cell? ⟨wo.heap.size, 5, none⟩ = some (.bool s.vw.good) := k7.cell 5
          have p6 : w7.cell? ⟨wo.heap.size, 6, none⟩ = some (.slice s.vw.M s.vw.row.length s.vw.cm) := k7.cell 6
          have p7 : w7.cell? ⟨wo.heap.size, 7, none⟩ = some (.string (strOf s.vw.par)) := k7.cell 7
          have p8 : w7.cell? ⟨wo.heap.size, 8, none⟩ = some (.int .i64 s.vw.ps) := k7.cell 8
          have p9 : w7.cell? ⟨wo.heap.size, 9, none⟩ = some (.int .i64 s.vw.ov) := k7.cell 9
          have p10 : w7.cell? ⟨wo.heap.size, 10, none⟩ = some (.slice s.C s.ch.length s.cc) := k7.cell 10
          have q0 : w7.cell? ⟨wo.heap.size + 1, 0, none⟩ = some (.int .i64 t.num) := r7.cell 0
          have q1 : w7.cell? ⟨wo.heap.size + 1, 1, none⟩ = some (.int .i64 t.vw.size) := r7.cell 1
          have q2 : w7.cell? ⟨wo.heap.size + 1, 2, none⟩ = some (.string (strOf t.name)) := r7.cell 2
          have q3 : w7.cell? ⟨wo.heap.size + 1, 3, none⟩ = some (.bool t.prot) := r7.cell 3
          have q4 : w7.cell? ⟨wo.heap.size + 1, 4, none⟩ = some (.bool t.vw.on) := r7.cell 4
          have q5 : w7.cell? ⟨wo.heap.size + 1, 5, none⟩ = some (.bool t.vw.good) := r7.cell 5
          have q6 : w7.cell? ⟨wo.heap.size + 1, 6, none⟩ = some (.slice t.vw.M t.vw.row.length t.vw.cm) := r7.cell 6
          have q7 : w7.cell? ⟨wo.heap.size + 1, 7, none⟩ = some (.string (strOf t.vw.par)) := r7.cell 7
          have q8 : w7.cell? ⟨wo.heap.size + 1, 8, none⟩ = some (.int .i64 t.vw.ps) := r7.cell 8
          have q9 : w7.cell? ⟨wo.heap.size + 1, 9, none⟩ = some (.int .i64 t.vw.ov) := r7.cell 9
          have q10 : w7.cell? ⟨wo.heap.size + 1, 10, none⟩ = some (.slice t.C t.ch.length t.cc) := r7.cell 10
          have K7 := Lib.hid (And.intro k7 r7)
          clear k7 r7 b7 HM2
          by_cases d44 : s.vw.lk = t.vw.lk
          rotate_left
          · have D44 := Lib.hid d44
            have hnl := fun W => run_dlink_diff HR.out.1.vw.par HR.out.2.vw.par d44 W
            go_wp2
            go_ret
            exact ⟨false, rfl, ⟨fun h => (by cases h), fun h => absurd h (v_ne_at HS.out.1 HS.out.2 (fun e => D44.out (congrArg SnV.lk e)))⟩, HBC.out⟩
          have l1 : s.vw.par = t.vw.par := congrArg LkV.par d44
          have l2 : s.vw.ps = t.vw.ps := congrArg LkV.ps d44
          have l3 : s.vw.ov = t.vw.ov := congrArg LkV.ov d44
          rw [← l1] at q7
          rw [← l2] at q8
          rw [← l3] at q9
          have D44 := Lib.hid d44
          have hsl := fun W => run_dlink_same (strOf s.vw.par) s.vw.ps s.vw.ov W
          clear l1 l2 l3 d44
          by_cases d45 : s.ch.length = t.ch.length
          rotate_left
          · have n45 : ((s.ch.length : Int) == (t.ch.length : Int)) = false := beq_eq_false_iff_ne.2 (by omega)
            have m45 : ((s.ch.length : Int) != (t.ch.length : Int)) = true := by rw [bne, n45]; rfl
            have D45 := Lib.hid d45
            clear d45
            go_wp2
            go_ret
            exact ⟨false, rfl, ⟨fun h => (by cases h), fun h => absurd h (v_ne_at HS.out.1 HS.out.2 (fun e => D45.out (congrArg (fun x => x.ch.length) e)))⟩, HBC.out⟩
          have hcl := (HSA.out.sn s (List.mem_of_getElem? HS.out.1)).ch
          rw [← d45] at q10
          have D45 := Lib.hid d45
          clear d45
          go_wp2
          clear p0 q0 p1 q1 p2 q2 p3 q3 p4 q4 p5 q5 p6 q6 p7 q7 p8 q8 p9 q9 p10 q10 hsl
          have hcl2 : s.ch.length ≤ 10000 := hcl
          go_loopw [8] (fun i W => ∃ j : Nat, j ≤ s.ch.length ∧ i = .int .i64 j ∧ s.ch.take j = t.ch.take j ∧ Below w7.heap.size w7 W) (fun i _ => s.ch.length - (intOf i).toNat)
          case atStart => exact ⟨0, by omega, rfl, by simp, Below.refl _ _⟩
          case round =>
            obtain ⟨j, hj, rfl, hcup, hbw⟩ := hrel
            have HCU := Lib.hid hcup
            have HBW := Lib.hid hbw
            have k8 := K7.out.1.of (hbw.block _ K7.out.1.lt)
            have r8 := K7.out.2.of (hbw.block _ K7.out.2.lt)
            have K8 := Lib.hid (And.intro k8 r8)
            have p10 : wr.cell? ⟨wo.heap.size, 10, none⟩ = some (.slice s.C s.ch.length s.cc) := k8.cell 10
            have q10 : wr.cell? ⟨wo.heap.size + 1, 10, none⟩ = some (.slice t.C s.ch.length t.cc) := by rw [D45.out]; exact r8.cell 10
            clear hcup k8 r8
            by_cases hjl : j < s.ch.length
            · have djl : decide ((j : Int) < (s.ch.length : Int)) = true := decide_eq_true (by omega)
              have hwj : IntKind.i64.wrap ((j : Int) + 1) = (j : Int) + 1 := by rw [IntKind.wrap_i64]; omega
              have hRs := (HR.out.1.since (HB7.out.trans (hbw.mono HB7.out.size)))
              have hRt := (HR.out.2.since (HB7.out.trans (hbw.mono HB7.out.size)))
              obtain ⟨ad2, x, e1, hx, hx2, cx⟩ := Strs.at_ hRs.ch hjl
              obtain ⟨bd2, y, e2, hy, hy2, cy⟩ := Strs.at_ hRt.ch (show j < t.ch.length by rw [← D45.out]; exact hjl)
              have HXY := Lib.hid (And.intro (And.intro hx hx2) (And.intro hy hy2))
              rw [e1] at p10
              rw [e2] at q10
              clear hRs hRt hbw hx hy e1 e2
              by_cases hxy : x = y
              · rw [← hxy] at cy
                have HXE := Lib.hid hxy
                have hsx := fun W => run_str_neq (strOf x) W
                clear hxy hx2 hy2
                go_upto_region 13 with (fail)
                go_quiet (fail)
                go_wp2
                refine ⟨⟨j + 1, by omega, by go_num, ?_, below_drewN HBW.out _⟩, by simp only [intOf]; omega⟩
                rw [List.take_add_one, List.take_add_one, HXY.out.1.1, HXY.out.2.1, HCU.out, HXE.out]
              · have HXE := Lib.hid hxy
                have e50 : ((strOf x).toList == (strOf y).toList) = false := by rw [str_eq hx2 hy2]; exact decide_eq_false hxy
                have f50 : ¬ (strOf x).toList = (strOf y).toList := by simpa using e50
                have hno : ¬ s.v = t.v := fun e => HXE.out (by
                  have e3 : s.ch = t.ch := congrArg SnV.ch e
                  have e4 := HXY.out.1.1
                  rw [e3, HXY.out.2.1] at e4
                  injection e4 with e4
                  exact e4.symm)
                have HNO := Lib.hid hno
                clear hxy hx2 hy2 hno
                go_upto_region 13 with (fail)
                go_quiet (fail)
                go_wp2
                go_ret
                exact ⟨false, rfl, ⟨fun h => (by cases h), fun h => absurd h (v_ne_at HS.out.1 HS.out.2 HNO.out)⟩, below_drewN (HBC.out.trans (HBW.out.mono HBC.out.size)) _⟩
            · obtain rfl : j = s.ch.length := by omega
              have djl : decide ((s.ch.length : Int) < (s.ch.length : Int)) = false := decide_eq_false (by omega)
              have hch : s.ch = t.ch := by
                have := HCU.out
                rw [List.take_length] at this
                rw [D45.out, List.take_length] at this
                exact this
              have HCH := Lib.hid hch
              have hbt := HBC.out.trans (hbw.mono HBC.out.size)
              have HBT := Lib.hid hbt
              have hbu := HB7.out.trans (hbw.mono HB7.out.size)
              have HBU := Lib.hid hbu
              clear hch hbw hbt hbu
              go_wp2
              refine ⟨⟨k + 1, by omega, by go_num, ?_, HK1.out.of (HBU.out.block _ HK1.out.lt), HK2.out.of (HBU.out.block _ HK2.out.lt), HBT.out⟩, by simp only [intOf]; omega⟩
              have hst : s.v = t.v := by
                unfold SA.v
                rw [D40.out, D41.out, D42.out, D43.out, DM.out, D44.out, HCH.out]
              rw [List.take_add_one, List.take_add_one, HS.out.1, HS.out.2, List.map_append, List.map_append, HUP.out]
              show _ ++ [s.v] = _ ++ [t.v]
              rw [hst]
      · obtain rfl : k = a.sn.length := by omega
        have dl : decide ((a.sn.length : Int) < (a.sn.length : Int)) = false := decide_eq_false (by omega)
        rw [List.take_length, HT.out.len, List.take_length] at hup
        have HUP2 := Lib.hid hup
        clear hup hk1 hk2 hb'
        go_wp2
        go_ret
        exact ⟨true, rfl, ⟨fun _ => HT.out.all HUP2.out, fun _ => rfl⟩, HB.out⟩
end Go.Proofs.Ytgddenhnpjoabaa
