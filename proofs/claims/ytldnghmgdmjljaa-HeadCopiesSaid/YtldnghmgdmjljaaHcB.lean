/-
  The law HeadCopies: for all pairs of heads it returns true and changes nothing that was there. No condition.
-/
import Derived.Test.YtldnghmgdmjljaaIf
import Derived.Test.YtldnghmgdmjljaaHp
import Derived.Test.YtldnghmgdmjljaaHcA
namespace Go.Proofs.Ytldnghmgdmjljaa
open Go.RowKit Go.BigFrame
set_option linter.unusedSimpArgs false
set_option linter.unusedVariables false
set_option maxRecDepth 100000
theorem small_lm {q a : HA} (e : q.v = a.v) (h : a.Lm) : q.Sm := by
  have e1 : q.vw.row = a.vw.row := congrArg (fun v => v.mx.row) e
  have e2 : q.vw.par = a.vw.par := congrArg (fun v => v.lk.par) e
  have e3 : q.sn.map SA.v = a.sn.map SA.v := congrArg HdV.sn e
  have e4 : q.sn.length = a.sn.length := by have := congrArg List.length e3; simpa using this
  refine ⟨⟨by rw [e1]; exact Nat.le_trans h.row (by omega), by rw [e2]; exact Nat.le_trans h.par (by omega)⟩, by have := h.cn; omega, fun s hs => ?_⟩
  have hm : s.v ∈ a.sn.map SA.v := e3 ▸ List.mem_map.2 ⟨s, hs, rfl⟩
  obtain ⟨t, ht, et⟩ := List.mem_map.1 hm
  have l := h.sn t ht
  have f1 : t.vw.row = s.vw.row := congrArg (fun v => v.mx.row) et
  have f2 : t.vw.par = s.vw.par := congrArg (fun v => v.lk.par) et
  have f3 : t.name = s.name := congrArg SnV.name et
  have f4 : t.ch = s.ch := congrArg SnV.ch et
  exact ⟨⟨by rw [← f1]; exact Nat.le_trans l.row (by omega), by rw [← f2]; exact Nat.le_trans l.par (by omega)⟩, by rw [← f3]; exact Nat.le_trans l.name (by omega), by rw [← f4]; exact Nat.le_trans l.ch (by omega), fun c hc => Nat.le_trans (l.cl c (by rw [f4]; exact hc)) (by omega)⟩
theorem L_three {P : Program} {ops : Array Oper} {Q : Exit → Act → World → Prop} {md : Region.Mode} {S : World → Prop} {L : Nat} {i j m : Nat} {oi oj om : Oper} {f : Nat} {l : Array Bool} {a : Act} {w : World} (hr : Region.ready md ops l = [i, j, m]) (hoi : ops[i]? = some oi) (hoj : ops[j]? = some oj) (hom : ops[m]? = some om) (hwi : Region.wanted oi (yielded ops a.tmps) = true) (hwj : Region.wanted oj (yielded ops a.tmps) = true) (hwm : Region.wanted om (yielded ops a.tmps) = true)
    (hi : Oper.wp P oi a w (fun a' w' => S w' ∧ wpAnyL P md ops Q S L f (l.setIfInBounds i true) a' w') Q) (hj : Oper.wp P oj a w (fun a' w' => S w' ∧ wpAnyL P md ops Q S L f (l.setIfInBounds j true) a' w') Q) (hm : Oper.wp P om a w (fun a' w' => S w' ∧ wpAnyL P md ops Q S L f (l.setIfInBounds m true) a' w') Q) : wpAnyL P md ops Q S L (f + 1) l a w := by
  refine ⟨fun h0 => absurd (hr ▸ h0) (by simp), fun k hk => ?_⟩
  rw [hr] at hk
  simp only [List.mem_cons, List.not_mem_nil, or_false] at hk
  rcases hk with rfl | rfl | rfl
  · refine wpOp_step hoi (fun K hK => ?_)
    rw [if_pos hwi]
    exact Oper.wp_mono (fun a' w' h' => hK a' w' ⟨fun _ => h'.1, h'.2⟩) hi
  · refine wpOp_step hoj (fun K hK => ?_)
    rw [if_pos hwj]
    exact Oper.wp_mono (fun a' w' h' => hK a' w' ⟨fun _ => h'.1, h'.2⟩) hj
  · refine wpOp_step hom (fun K hK => ?_)
    rw [if_pos hwm]
    exact Oper.wp_mono (fun a' w' h' => hK a' w' ⟨fun _ => h'.1, h'.2⟩) hm
/-- two heads, and the program's of each -/
structure Cw (w : World) (a b : HA) (g4 g5 : Nat) (p q : HA) (W : World) : Prop where
  k0 : Blk W (w.heap.size) 29 #[.int .i64 a.id, .int .i64 a.vw.size, .int .i64 a.obj, .int .i64 a.seq, .slice a.S a.sn.length a.cs', .bool a.vw.on, .bool a.vw.good, .slice a.vw.M a.vw.row.length a.vw.cm, .string (strOf a.vw.par), .int .i64 a.vw.ps, .int .i64 a.vw.ov, .int .i64 a.ow, .int .i64 a.it, .int .i64 a.tg]
  k1 : Blk W (w.heap.size + 1) 29 #[.int .i64 b.id, .int .i64 b.vw.size, .int .i64 b.obj, .int .i64 b.seq, .slice b.S b.sn.length b.cs', .bool b.vw.on, .bool b.vw.good, .slice b.vw.M b.vw.row.length b.vw.cm, .string (strOf b.vw.par), .int .i64 b.vw.ps, .int .i64 b.vw.ov, .int .i64 b.ow, .int .i64 b.it, .int .i64 b.tg]
  k4 : Blk W g4 36 #[.int .i64 p.id, .int .i64 p.vw.size, .int .i64 p.obj, .int .i64 p.seq, .slice p.S p.sn.length p.cs', .bool p.vw.on, .bool p.vw.good, .slice p.vw.M p.vw.row.length p.vw.cm, .string (strOf p.vw.par), .int .i64 p.vw.ps, .int .i64 p.vw.ov, .int .i64 p.ow, .int .i64 p.it, .int .i64 p.tg]
  k5 : Blk W g5 36 #[.int .i64 q.id, .int .i64 q.vw.size, .int .i64 q.obj, .int .i64 q.seq, .slice q.S q.sn.length q.cs', .bool q.vw.on, .bool q.vw.good, .slice q.vw.M q.vw.row.length q.vw.cm, .string (strOf q.vw.par), .int .i64 q.vw.ps, .int .i64 q.vw.ov, .int .i64 q.ow, .int .i64 q.it, .int .i64 q.tg]
  hp : p.N W w.heap.size []
  hq : q.N W w.heap.size []
  ep : p.v = a.v
  eq : q.v = b.v
  bel : Below w.heap.size w W
theorem Cw.next {w W W' : World} {a b p q : HA} {g4 g5 : Nat} (h : Cw w a b g4 g5 p q W) (hb : Below W.heap.size W W') : Cw w a b g4 g5 p q W' :=
  ⟨h.k0.of (hb.block _ h.k0.lt), h.k1.of (hb.block _ h.k1.lt), h.k4.of (hb.block _ h.k4.lt), h.k5.of (hb.block _ h.k5.lt), h.hp.below hb, h.hq.below hb, h.ep, h.eq, h.bel.trans (hb.mono h.bel.size)⟩
set_option maxHeartbeats 64000000 in
theorem headCopies_walk (a : HA) (w : World) (hRa : a.R SA.dcells w) (b : HA) (hRb : b.R SA.dcells w) : Calls Try.prog 5 #[.agg a.cs, .agg b.cs] w fun e w' => e = .returned (.bool true) ∧ Below w.heap.size w w' := by
  obtain ⟨w0, hw0⟩ : ∃ w0, w0 = (w.alloc (.cells #[.int .i64 a.id, .int .i64 a.vw.size, .int .i64 a.obj, .int .i64 a.seq, .slice a.S a.sn.length a.cs', .bool a.vw.on, .bool a.vw.good, .slice a.vw.M a.vw.row.length a.vw.cm, .string (strOf a.vw.par), .int .i64 a.vw.ps, .int .i64 a.vw.ov, .int .i64 a.ow, .int .i64 a.it, .int .i64 a.tg] 29)).alloc (.cells #[.int .i64 b.id, .int .i64 b.vw.size, .int .i64 b.obj, .int .i64 b.seq, .slice b.S b.sn.length b.cs', .bool b.vw.on, .bool b.vw.good, .slice b.vw.M b.vw.row.length b.vw.cm, .string (strOf b.vw.par), .int .i64 b.vw.ps, .int .i64 b.vw.ov, .int .i64 b.ow, .int .i64 b.it, .int .i64 b.tg] 29) := ⟨_, rfl⟩
  have b0 : Below w.heap.size w w0 := by rw [hw0]; exact (below_alloc w _).alloc (by simp) _
  have B0 := Lib.hid b0
  have hz0 : w0.heap.size = w.heap.size + 2 := by rw [hw0]; simp
  have HB1 : Hid (∀ W, Below w0.heap.size w0 W → Blk W (w.heap.size) 29 #[.int .i64 a.id, .int .i64 a.vw.size, .int .i64 a.obj, .int .i64 a.seq, .slice a.S a.sn.length a.cs', .bool a.vw.on, .bool a.vw.good, .slice a.vw.M a.vw.row.length a.vw.cm, .string (strOf a.vw.par), .int .i64 a.vw.ps, .int .i64 a.vw.ov, .int .i64 a.ow, .int .i64 a.it, .int .i64 a.tg]) := Lib.hid fun W hW => by
    have k8 : Blk w0 (w.heap.size) 29 #[.int .i64 a.id, .int .i64 a.vw.size, .int .i64 a.obj, .int .i64 a.seq, .slice a.S a.sn.length a.cs', .bool a.vw.on, .bool a.vw.good, .slice a.vw.M a.vw.row.length a.vw.cm, .string (strOf a.vw.par), .int .i64 a.vw.ps, .int .i64 a.vw.ov, .int .i64 a.ow, .int .i64 a.it, .int .i64 a.tg] := by rw [hw0]; exact (Blk.new w _ _).alloc _
    exact k8.of (hW.block _ k8.lt)
  have HB2 : Hid (∀ W, Below w0.heap.size w0 W → Blk W (w.heap.size + 1) 29 #[.int .i64 b.id, .int .i64 b.vw.size, .int .i64 b.obj, .int .i64 b.seq, .slice b.S b.sn.length b.cs', .bool b.vw.on, .bool b.vw.good, .slice b.vw.M b.vw.row.length b.vw.cm, .string (strOf b.vw.par), .int .i64 b.vw.ps, .int .i64 b.vw.ov, .int .i64 b.ow, .int .i64 b.it, .int .i64 b.tg]) := Lib.hid fun W hW => by
    have k8 : Blk w0 (w.heap.size + 1) 29 #[.int .i64 b.id, .int .i64 b.vw.size, .int .i64 b.obj, .int .i64 b.seq, .slice b.S b.sn.length b.cs', .bool b.vw.on, .bool b.vw.good, .slice b.vw.M b.vw.row.length b.vw.cm, .string (strOf b.vw.par), .int .i64 b.vw.ps, .int .i64 b.vw.ov, .int .i64 b.ow, .int .i64 b.it, .int .i64 b.tg] := by rw [hw0]; exact blk_two _ _ _ _
    exact k8.of (hW.block _ k8.lt)
  have HAL : Hid (∀ W, Calls Try.prog 7 #[] W fun e w' => e = .returned (.bool true) ∧ Below W.heap.size W w') := Lib.hid fun W => halive_any W
  have HLA : Hid (∀ W, Below w0.heap.size w0 W → Calls Try.prog 8 #[.agg #[.int .i64 a.id, .int .i64 a.vw.size, .int .i64 a.obj, .int .i64 a.seq, .slice a.S a.sn.length a.cs', .bool a.vw.on, .bool a.vw.good, .slice a.vw.M a.vw.row.length a.vw.cm, .string (strOf a.vw.par), .int .i64 a.vw.ps, .int .i64 a.vw.ov, .int .i64 a.ow, .int .i64 a.it, .int .i64 a.tg]] W (LargeTo W a)) := Lib.hid fun W hW => hlarge_any a W ((hRa.since b0).since hW)
  have HLB : Hid (∀ W, Below w0.heap.size w0 W → Calls Try.prog 8 #[.agg #[.int .i64 b.id, .int .i64 b.vw.size, .int .i64 b.obj, .int .i64 b.seq, .slice b.S b.sn.length b.cs', .bool b.vw.on, .bool b.vw.good, .slice b.vw.M b.vw.row.length b.vw.cm, .string (strOf b.vw.par), .int .i64 b.vw.ps, .int .i64 b.vw.ov, .int .i64 b.ow, .int .i64 b.it, .int .i64 b.tg]] W (LargeTo W b)) := Lib.hid fun W hW => hlarge_any b W ((hRb.since b0).since hW)
  have HPA : Hid (∀ W, Below w0.heap.size w0 W → a.Lm → Calls Try.prog 9 #[.agg #[.int .i64 a.id, .int .i64 a.vw.size, .int .i64 a.obj, .int .i64 a.seq, .slice a.S a.sn.length a.cs', .bool a.vw.on, .bool a.vw.good, .slice a.vw.M a.vw.row.length a.vw.cm, .string (strOf a.vw.par), .int .i64 a.vw.ps, .int .i64 a.vw.ov, .int .i64 a.ow, .int .i64 a.it, .int .i64 a.tg]] W (ProgTo W a)) := Lib.hid fun W hW hl => hprogram_any a W ((hRa.since b0).since hW) hl
  have HPB : Hid (∀ W, Below w0.heap.size w0 W → b.Lm → Calls Try.prog 9 #[.agg #[.int .i64 b.id, .int .i64 b.vw.size, .int .i64 b.obj, .int .i64 b.seq, .slice b.S b.sn.length b.cs', .bool b.vw.on, .bool b.vw.good, .slice b.vw.M b.vw.row.length b.vw.cm, .string (strOf b.vw.par), .int .i64 b.vw.ps, .int .i64 b.vw.ov, .int .i64 b.ow, .int .i64 b.it, .int .i64 b.tg]] W (ProgTo W b)) := Lib.hid fun W hW hl => hprogram_any b W ((hRb.since b0).since hW) hl
  have HW0 := Lib.hid hw0
  have HRR := Lib.hid (And.intro hRa hRb)
  clear hRa hRb b0 hw0
  unfold HA.cs
  go_enter Try.func5, Try.ntmps5
  go_wp2_with fail
  rw [← HW0.out]
  clear HW0
  refine (HAL.out _).mono ?_
  rintro e W1 ⟨rfl, b1⟩
  have K1 := HB1.out _ b1
  have H1 := Lib.hid b1
  clear b1
  go_wp2_with (have _h := K1; refine wpList_loadq rfl 29 (.tmp 2) rfl (w.heap.size) [.int .i64 a.id, .int .i64 a.vw.size, .int .i64 a.obj, .int .i64 a.seq, .slice a.S a.sn.length a.cs', .bool a.vw.on, .bool a.vw.good, .slice a.vw.M a.vw.row.length a.vw.cm, .string (strOf a.vw.par), .int .i64 a.vw.ps, .int .i64 a.vw.ov, .int .i64 a.ow, .int .i64 a.it, .int .i64 a.tg] _ rfl K1 Try.underlying29 rfl (by kernel_rfl) ?_; clear _h K1)
  refine (HLA.out _ H1.out).mono ?_
  rintro e W2 ⟨bl, rfl, b2, hlm⟩
  have H2 := Lib.hid (H1.out.trans (b2.mono H1.out.size))
  have HE2 : Hid (Below w.heap.size w W2) := Lib.hid (B0.out.trans (H2.out.mono B0.out.size))
  have HLM := Lib.hid hlm
  clear b2 hlm
  cases bl with
  | true =>
    go_wp2
    go_ret
    exact ⟨rfl, HE2.out⟩
  | false =>
    have HLa := Lib.hid (HLM.out rfl)
    have K2 := HB2.out _ H2.out
    have x0 : W2.cell? ⟨w.heap.size + 1, 0, none⟩ = some (.int .i64 b.id) := K2.cell 0
    have x1 : W2.cell? ⟨w.heap.size + 1, 1, none⟩ = some (.int .i64 b.vw.size) := K2.cell 1
    have x2 : W2.cell? ⟨w.heap.size + 1, 2, none⟩ = some (.int .i64 b.obj) := K2.cell 2
    have x3 : W2.cell? ⟨w.heap.size + 1, 3, none⟩ = some (.int .i64 b.seq) := K2.cell 3
    have x4 : W2.cell? ⟨w.heap.size + 1, 4, none⟩ = some (.slice b.S b.sn.length b.cs') := K2.cell 4
    have x5 : W2.cell? ⟨w.heap.size + 1, 5, none⟩ = some (.bool b.vw.on) := K2.cell 5
    have x6 : W2.cell? ⟨w.heap.size + 1, 6, none⟩ = some (.bool b.vw.good) := K2.cell 6
    have x7 : W2.cell? ⟨w.heap.size + 1, 7, none⟩ = some (.slice b.vw.M b.vw.row.length b.vw.cm) := K2.cell 7
    have x8 : W2.cell? ⟨w.heap.size + 1, 8, none⟩ = some (.string (strOf b.vw.par)) := K2.cell 8
    have x9 : W2.cell? ⟨w.heap.size + 1, 9, none⟩ = some (.int .i64 b.vw.ps) := K2.cell 9
    have x10 : W2.cell? ⟨w.heap.size + 1, 10, none⟩ = some (.int .i64 b.vw.ov) := K2.cell 10
    have x11 : W2.cell? ⟨w.heap.size + 1, 11, none⟩ = some (.int .i64 b.ow) := K2.cell 11
    have x12 : W2.cell? ⟨w.heap.size + 1, 12, none⟩ = some (.int .i64 b.it) := K2.cell 12
    have x13 : W2.cell? ⟨w.heap.size + 1, 13, none⟩ = some (.int .i64 b.tg) := K2.cell 13
    clear K2
    go_wp2_with fail
    clear x0 x1 x2 x3 x4 x5 x6 x7 x8 x9 x10 x11 x12 x13
    refine (HLB.out _ H2.out).mono ?_
    rintro e W3 ⟨bl, rfl, b3, hlm⟩
    have H3 := Lib.hid (H2.out.trans (b3.mono H2.out.size))
    have HE3 : Hid (Below w.heap.size w W3) := Lib.hid (B0.out.trans (H3.out.mono B0.out.size))
    have HLN := Lib.hid hlm
    clear b3 hlm
    cases bl with
    | true =>
      go_wp2
      go_ret
      exact ⟨rfl, HE3.out⟩
    | false =>
      have HLb := Lib.hid (HLN.out rfl)
      clear HLM HLN HLA HLB HAL
      go_upto_region 5 with (fail)
      refine Code.wp_mono (Q := fun e a' W' => e = .normal ∧ ∃ (g4 g5 : Nat) (p q : HA), a' = { tmps := #[.agg #[.int .i64 a.id, .int .i64 a.vw.size, .int .i64 a.obj, .int .i64 a.seq, .slice a.S a.sn.length a.cs', .bool a.vw.on, .bool a.vw.good, .slice a.vw.M a.vw.row.length a.vw.cm, .string (strOf a.vw.par), .int .i64 a.vw.ps, .int .i64 a.vw.ov, .int .i64 a.ow, .int .i64 a.it, .int .i64 a.tg], .agg #[.int .i64 b.id, .int .i64 b.vw.size, .int .i64 b.obj, .int .i64 b.seq, .slice b.S b.sn.length b.cs', .bool b.vw.on, .bool b.vw.good, .slice b.vw.M b.vw.row.length b.vw.cm, .string (strOf b.vw.par), .int .i64 b.vw.ps, .int .i64 b.vw.ov, .int .i64 b.ow, .int .i64 b.it, .int .i64 b.tg], .pointer (some ⟨w.heap.size, 0, none⟩), .pointer (some ⟨w.heap.size + 1, 0, none⟩), .bool false, .pointer (some ⟨g4, 0, none⟩), .pointer (some ⟨g5, 0, none⟩), undef, .bool true, .bool false, .agg #[.int .i64 a.id, .int .i64 a.vw.size, .int .i64 a.obj, .int .i64 a.seq, .slice a.S a.sn.length a.cs', .bool a.vw.on, .bool a.vw.good, .slice a.vw.M a.vw.row.length a.vw.cm, .string (strOf a.vw.par), .int .i64 a.vw.ps, .int .i64 a.vw.ov, .int .i64 a.ow, .int .i64 a.it, .int .i64 a.tg], .bool false, .bool false, .agg #[.int .i64 b.id, .int .i64 b.vw.size, .int .i64 b.obj, .int .i64 b.seq, .slice b.S b.sn.length b.cs', .bool b.vw.on, .bool b.vw.good, .slice b.vw.M b.vw.row.length b.vw.cm, .string (strOf b.vw.par), .int .i64 b.vw.ps, .int .i64 b.vw.ov, .int .i64 b.ow, .int .i64 b.it, .int .i64 b.tg], .bool false, .bool false, .agg #[.int .i64 a.id, .int .i64 a.vw.size, .int .i64 a.obj, .int .i64 a.seq, .slice a.S a.sn.length a.cs', .bool a.vw.on, .bool a.vw.good, .slice a.vw.M a.vw.row.length a.vw.cm, .string (strOf a.vw.par), .int .i64 a.vw.ps, .int .i64 a.vw.ov, .int .i64 a.ow, .int .i64 a.it, .int .i64 a.tg], .agg #[.int .i64 p.id, .int .i64 p.vw.size, .int .i64 p.obj, .int .i64 p.seq, .slice p.S p.sn.length p.cs', .bool p.vw.on, .bool p.vw.good, .slice p.vw.M p.vw.row.length p.vw.cm, .string (strOf p.vw.par), .int .i64 p.vw.ps, .int .i64 p.vw.ov, .int .i64 p.ow, .int .i64 p.it, .int .i64 p.tg], .agg #[.int .i64 b.id, .int .i64 b.vw.size, .int .i64 b.obj, .int .i64 b.seq, .slice b.S b.sn.length b.cs', .bool b.vw.on, .bool b.vw.good, .slice b.vw.M b.vw.row.length b.vw.cm, .string (strOf b.vw.par), .int .i64 b.vw.ps, .int .i64 b.vw.ov, .int .i64 b.ow, .int .i64 b.it, .int .i64 b.tg], .agg #[.int .i64 q.id, .int .i64 q.vw.size, .int .i64 q.obj, .int .i64 q.seq, .slice q.S q.sn.length q.cs', .bool q.vw.on, .bool q.vw.good, .slice q.vw.M q.vw.row.length q.vw.cm, .string (strOf q.vw.par), .int .i64 q.vw.ps, .int .i64 q.vw.ov, .int .i64 q.ow, .int .i64 q.it, .int .i64 q.tg], undef, undef, undef, undef, undef, undef, undef, undef, undef, undef, undef, undef, undef, undef, undef, undef, undef, undef, undef, undef, undef, undef, undef, undef, undef, undef, undef, undef], defers := [] } ∧ Cw w a b g4 g5 p q W') ?_ ?_
      rotate_left
      · have hS : Below w0.heap.size w0 W3.drew := H3.out.drew
        refine any_beginL (fun W => Below w0.heap.size w0 W) 99 (by kernel_rfl) ?_
        refine S_take (i := 0) (v := .agg #[.int .i64 a.id, .int .i64 a.vw.size, .int .i64 a.obj, .int .i64 a.seq, .slice a.S a.sn.length a.cs', .bool a.vw.on, .bool a.vw.good, .slice a.vw.M a.vw.row.length a.vw.cm, .string (strOf a.vw.par), .int .i64 a.vw.ps, .int .i64 a.vw.ov, .int .i64 a.ow, .int .i64 a.it, .int .i64 a.tg]) rfl rfl (by kernel_rfl) (by kernel_rfl) (by kernel_rfl) (fun _ _ _ h => h) (Or.inl ⟨by rfl, fun W hw => by have k0 : W.cell? ⟨w.heap.size, 0, none⟩ = some (.int .i64 a.id) := (HB1.out W hw).cell 0; have k1 : W.cell? ⟨w.heap.size, 1, none⟩ = some (.int .i64 a.vw.size) := (HB1.out W hw).cell 1; have k2 : W.cell? ⟨w.heap.size, 2, none⟩ = some (.int .i64 a.obj) := (HB1.out W hw).cell 2; have k3 : W.cell? ⟨w.heap.size, 3, none⟩ = some (.int .i64 a.seq) := (HB1.out W hw).cell 3; have k4 : W.cell? ⟨w.heap.size, 4, none⟩ = some (.slice a.S a.sn.length a.cs') := (HB1.out W hw).cell 4; have k5 : W.cell? ⟨w.heap.size, 5, none⟩ = some (.bool a.vw.on) := (HB1.out W hw).cell 5; have k6 : W.cell? ⟨w.heap.size, 6, none⟩ = some (.bool a.vw.good) := (HB1.out W hw).cell 6; have k7 : W.cell? ⟨w.heap.size, 7, none⟩ = some (.slice a.vw.M a.vw.row.length a.vw.cm) := (HB1.out W hw).cell 7; have k8 : W.cell? ⟨w.heap.size, 8, none⟩ = some (.string (strOf a.vw.par)) := (HB1.out W hw).cell 8; have k9 : W.cell? ⟨w.heap.size, 9, none⟩ = some (.int .i64 a.vw.ps) := (HB1.out W hw).cell 9; have k10 : W.cell? ⟨w.heap.size, 10, none⟩ = some (.int .i64 a.vw.ov) := (HB1.out W hw).cell 10; have k11 : W.cell? ⟨w.heap.size, 11, none⟩ = some (.int .i64 a.ow) := (HB1.out W hw).cell 11; have k12 : W.cell? ⟨w.heap.size, 12, none⟩ = some (.int .i64 a.it) := (HB1.out W hw).cell 12; have k13 : W.cell? ⟨w.heap.size, 13, none⟩ = some (.int .i64 a.tg) := (HB1.out W hw).cell 13; go_simp⟩) hS ?_
        simp only [Act.put, List.getElem_toArray, List.getElem_cons_succ, List.getElem_cons_zero, List.setIfInBounds_toArray, List.set_cons_zero, List.set_cons_succ]
        refine S_take (i := 2) (v := .agg #[.int .i64 b.id, .int .i64 b.vw.size, .int .i64 b.obj, .int .i64 b.seq, .slice b.S b.sn.length b.cs', .bool b.vw.on, .bool b.vw.good, .slice b.vw.M b.vw.row.length b.vw.cm, .string (strOf b.vw.par), .int .i64 b.vw.ps, .int .i64 b.vw.ov, .int .i64 b.ow, .int .i64 b.it, .int .i64 b.tg]) rfl rfl (by kernel_rfl) (by kernel_rfl) (by kernel_rfl) (fun _ _ _ h => h) (Or.inl ⟨by rfl, fun W hw => by have k0 : W.cell? ⟨w.heap.size + 1, 0, none⟩ = some (.int .i64 b.id) := (HB2.out W hw).cell 0; have k1 : W.cell? ⟨w.heap.size + 1, 1, none⟩ = some (.int .i64 b.vw.size) := (HB2.out W hw).cell 1; have k2 : W.cell? ⟨w.heap.size + 1, 2, none⟩ = some (.int .i64 b.obj) := (HB2.out W hw).cell 2; have k3 : W.cell? ⟨w.heap.size + 1, 3, none⟩ = some (.int .i64 b.seq) := (HB2.out W hw).cell 3; have k4 : W.cell? ⟨w.heap.size + 1, 4, none⟩ = some (.slice b.S b.sn.length b.cs') := (HB2.out W hw).cell 4; have k5 : W.cell? ⟨w.heap.size + 1, 5, none⟩ = some (.bool b.vw.on) := (HB2.out W hw).cell 5; have k6 : W.cell? ⟨w.heap.size + 1, 6, none⟩ = some (.bool b.vw.good) := (HB2.out W hw).cell 6; have k7 : W.cell? ⟨w.heap.size + 1, 7, none⟩ = some (.slice b.vw.M b.vw.row.length b.vw.cm) := (HB2.out W hw).cell 7; have k8 : W.cell? ⟨w.heap.size + 1, 8, none⟩ = some (.string (strOf b.vw.par)) := (HB2.out W hw).cell 8; have k9 : W.cell? ⟨w.heap.size + 1, 9, none⟩ = some (.int .i64 b.vw.ps) := (HB2.out W hw).cell 9; have k10 : W.cell? ⟨w.heap.size + 1, 10, none⟩ = some (.int .i64 b.vw.ov) := (HB2.out W hw).cell 10; have k11 : W.cell? ⟨w.heap.size + 1, 11, none⟩ = some (.int .i64 b.ow) := (HB2.out W hw).cell 11; have k12 : W.cell? ⟨w.heap.size + 1, 12, none⟩ = some (.int .i64 b.it) := (HB2.out W hw).cell 12; have k13 : W.cell? ⟨w.heap.size + 1, 13, none⟩ = some (.int .i64 b.tg) := (HB2.out W hw).cell 13; go_simp⟩) hS ?_
        simp only [Act.put, List.getElem_toArray, List.getElem_cons_succ, List.getElem_cons_zero, List.setIfInBounds_toArray, List.set_cons_zero, List.set_cons_succ]
        generalize World.drew W3 = Wd at *
        refine L_three (i := 1) (j := 4) (m := 5) (by kernel_rfl) rfl rfl rfl (by rfl) (by rfl) (by rfl) ?_ ?_ ?_
        · skip
          simp only [Act.put, List.getElem_toArray, List.getElem_cons_succ, List.getElem_cons_zero, List.setIfInBounds_toArray, List.set_cons_zero, List.set_cons_succ]
          refine wp_called (by go_simp) (HPA.out _ hS HLa.out) ?_
          rintro e X0 ⟨p, rfl, ep, hp0, bx⟩
          have c0x : Below w0.heap.size w0 X0 := hS.trans (bx.mono hS.size)
          have hp := hp0.weaken (show w.heap.size ≤ _ from Nat.le_trans B0.out.size hS.size)
          clear hp0 bx
          refine ⟨_, rfl, c0x, ?_⟩
          simp only [Act.put, List.getElem_toArray, List.getElem_cons_succ, List.getElem_cons_zero, List.setIfInBounds_toArray, List.set_cons_zero, List.set_cons_succ]
          unfold HA.cs
          refine L_three (i := 3) (j := 4) (m := 5) (by kernel_rfl) rfl rfl rfl (by rfl) (by rfl) (by rfl) ?_ ?_ ?_
          · skip
            simp only [Act.put, List.getElem_toArray, List.getElem_cons_succ, List.getElem_cons_zero, List.setIfInBounds_toArray, List.set_cons_zero, List.set_cons_succ]
            refine wp_called (by go_simp) (HPB.out _ c0x HLb.out) ?_
            rintro e X1 ⟨q, rfl, eq, hq0, bx⟩
            have c1x : Below w0.heap.size w0 X1 := c0x.trans (bx.mono c0x.size)
            have hq := hq0.weaken (show w.heap.size ≤ _ from Nat.le_trans B0.out.size c0x.size)
            have hp := hp.below bx
            clear hq0 bx
            refine ⟨_, rfl, c1x, ?_⟩
            simp only [Act.put, List.getElem_toArray, List.getElem_cons_succ, List.getElem_cons_zero, List.setIfInBounds_toArray, List.set_cons_zero, List.set_cons_succ]
            unfold HA.cs
            refine L_two (i := 4) (j := 5) (by kernel_rfl) rfl rfl (by rfl) (by rfl) ?_ ?_
            · skip
              simp only [Act.put, List.getElem_toArray, List.getElem_cons_succ, List.getElem_cons_zero, List.setIfInBounds_toArray, List.set_cons_zero, List.set_cons_succ]
              obtain ⟨X2, hW⟩ : ∃ W', W' = World.alloc X1 (.cells #[.int .i64 0, .int .i64 0, .int .i64 0, .int .i64 0, .slice none 0 0, .bool false, .bool false, .slice none 0 0, .string ⟨#[]⟩, .int .i64 0, .int .i64 0, .int .i64 0, .int .i64 0, .int .i64 0] 36) := ⟨_, rfl⟩
              have bx : Below (X1).heap.size X1 X2 := by rw [hW]; exact below_alloc _ _
              have c2x : Below w0.heap.size w0 X2 := c1x.trans (bx.mono c1x.size)
              have h4 : Blk X2 (X1).heap.size 36 #[.int .i64 0, .int .i64 0, .int .i64 0, .int .i64 0, .slice none 0 0, .bool false, .bool false, .slice none 0 0, .string ⟨#[]⟩, .int .i64 0, .int .i64 0, .int .i64 0, .int .i64 0, .int .i64 0] := by rw [hW]; exact Blk.new _ _ _
              have z4 : w0.heap.size ≤ (X1).heap.size := c1x.size
              have hp := hp.below bx
              have hq := hq.below bx
              refine wp_ran (v := .pointer (some ⟨(X1).heap.size, 0, none⟩)) (w' := X2) (by rw [hW]; exact (by go_simp)) ⟨c2x, ?_⟩
              simp only [Act.put, List.getElem_toArray, List.getElem_cons_succ, List.getElem_cons_zero, List.setIfInBounds_toArray, List.set_cons_zero, List.set_cons_succ]
              clear hW bx
              refine L_one (j := 5) (by kernel_rfl) rfl (by rfl) ?_
              simp only [Act.put, List.getElem_toArray, List.getElem_cons_succ, List.getElem_cons_zero, List.setIfInBounds_toArray, List.set_cons_zero, List.set_cons_succ]
              obtain ⟨X3, hW⟩ : ∃ W', W' = World.alloc X2 (.cells #[.int .i64 0, .int .i64 0, .int .i64 0, .int .i64 0, .slice none 0 0, .bool false, .bool false, .slice none 0 0, .string ⟨#[]⟩, .int .i64 0, .int .i64 0, .int .i64 0, .int .i64 0, .int .i64 0] 36) := ⟨_, rfl⟩
              have bx : Below (X2).heap.size X2 X3 := by rw [hW]; exact below_alloc _ _
              have c3x : Below w0.heap.size w0 X3 := c2x.trans (bx.mono c2x.size)
              have h5 : Blk X3 (X2).heap.size 36 #[.int .i64 0, .int .i64 0, .int .i64 0, .int .i64 0, .slice none 0 0, .bool false, .bool false, .slice none 0 0, .string ⟨#[]⟩, .int .i64 0, .int .i64 0, .int .i64 0, .int .i64 0, .int .i64 0] := by rw [hW]; exact Blk.new _ _ _
              have z5 : w0.heap.size ≤ (X2).heap.size := c2x.size
              have hp := hp.below bx
              have hq := hq.below bx
              have lt4 := h4.lt
              have h4 := h4.of (bx.block _ h4.lt)
              refine wp_ran (v := .pointer (some ⟨(X2).heap.size, 0, none⟩)) (w' := X3) (by rw [hW]; exact (by go_simp)) ⟨c3x, ?_⟩
              simp only [Act.put, List.getElem_toArray, List.getElem_cons_succ, List.getElem_cons_zero, List.setIfInBounds_toArray, List.set_cons_zero, List.set_cons_succ]
              clear hW bx
              refine L_one (j := 6) (by kernel_rfl) rfl (by rfl) ?_
              simp only [Act.put, List.getElem_toArray, List.getElem_cons_succ, List.getElem_cons_zero, List.setIfInBounds_toArray, List.set_cons_zero, List.set_cons_succ]
              refine wp_storeq 36 (.tmp 5) (.tmp 17) rfl _ _ [.int .i64 p.id, .int .i64 p.vw.size, .int .i64 p.obj, .int .i64 p.seq, .slice p.S p.sn.length p.cs', .bool p.vw.on, .bool p.vw.good, .slice p.vw.M p.vw.row.length p.vw.cm, .string (strOf p.vw.par), .int .i64 p.vw.ps, .int .i64 p.vw.ov, .int .i64 p.ow, .int .i64 p.it, .int .i64 p.tg] rfl rfl h4 rfl (by kernel_rfl) (one14 _ _ _ _ _ _ _ _ _ _ _ _ _ _ _ _ _ _) ?_
              intro X8 K8 o8 s8
              have c8 := c3x.trans (o8.below (fun x hx => by simp at hx; omega) c3x.size)
              have p8 := hp.stay h4 o8
              have q8 := hq.stay h4 o8
              have h58 := h5.only o8 (by simp; omega)
              refine ⟨c8, ?_⟩
              simp only [Act.put, List.getElem_toArray, List.getElem_cons_succ, List.getElem_cons_zero, List.setIfInBounds_toArray, List.set_cons_zero, List.set_cons_succ]
              refine L_one (j := 7) (by kernel_rfl) rfl (by rfl) ?_
              simp only [Act.put, List.getElem_toArray, List.getElem_cons_succ, List.getElem_cons_zero, List.setIfInBounds_toArray, List.set_cons_zero, List.set_cons_succ]
              refine wp_storeq 36 (.tmp 6) (.tmp 19) rfl _ _ [.int .i64 q.id, .int .i64 q.vw.size, .int .i64 q.obj, .int .i64 q.seq, .slice q.S q.sn.length q.cs', .bool q.vw.on, .bool q.vw.good, .slice q.vw.M q.vw.row.length q.vw.cm, .string (strOf q.vw.par), .int .i64 q.vw.ps, .int .i64 q.vw.ov, .int .i64 q.ow, .int .i64 q.it, .int .i64 q.tg] rfl rfl h58 rfl (by kernel_rfl) (one14 _ _ _ _ _ _ _ _ _ _ _ _ _ _ _ _ _ _) ?_
              intro X9 K9 o9 s9
              have c9 := c8.trans (o9.below (fun x hx => by simp at hx; omega) c8.size)
              refine ⟨c9, ?_⟩
              simp only [Act.put, List.getElem_toArray, List.getElem_cons_succ, List.getElem_cons_zero, List.setIfInBounds_toArray, List.set_cons_zero, List.set_cons_succ]
              refine L_done (by kernel_rfl) ?_
              refine NoPanic.normal ?_
              exact ⟨by first | trivial | rfl, _, _, p, q, rfl, ⟨HB1.out _ c9, HB2.out _ c9, Blk.only K8 o9 (by simp; omega), K9, p8.stay h58 o9, q8.stay h58 o9, ep, eq, B0.out.trans (c9.mono B0.out.size)⟩⟩
            · skip
              simp only [Act.put, List.getElem_toArray, List.getElem_cons_succ, List.getElem_cons_zero, List.setIfInBounds_toArray, List.set_cons_zero, List.set_cons_succ]
              obtain ⟨X5, hW⟩ : ∃ W', W' = World.alloc X1 (.cells #[.int .i64 0, .int .i64 0, .int .i64 0, .int .i64 0, .slice none 0 0, .bool false, .bool false, .slice none 0 0, .string ⟨#[]⟩, .int .i64 0, .int .i64 0, .int .i64 0, .int .i64 0, .int .i64 0] 36) := ⟨_, rfl⟩
              have bx : Below (X1).heap.size X1 X5 := by rw [hW]; exact below_alloc _ _
              have c5x : Below w0.heap.size w0 X5 := c1x.trans (bx.mono c1x.size)
              have h5 : Blk X5 (X1).heap.size 36 #[.int .i64 0, .int .i64 0, .int .i64 0, .int .i64 0, .slice none 0 0, .bool false, .bool false, .slice none 0 0, .string ⟨#[]⟩, .int .i64 0, .int .i64 0, .int .i64 0, .int .i64 0, .int .i64 0] := by rw [hW]; exact Blk.new _ _ _
              have z5 : w0.heap.size ≤ (X1).heap.size := c1x.size
              have hp := hp.below bx
              have hq := hq.below bx
              refine wp_ran (v := .pointer (some ⟨(X1).heap.size, 0, none⟩)) (w' := X5) (by rw [hW]; exact (by go_simp)) ⟨c5x, ?_⟩
              simp only [Act.put, List.getElem_toArray, List.getElem_cons_succ, List.getElem_cons_zero, List.setIfInBounds_toArray, List.set_cons_zero, List.set_cons_succ]
              clear hW bx
              refine L_one (j := 4) (by kernel_rfl) rfl (by rfl) ?_
              simp only [Act.put, List.getElem_toArray, List.getElem_cons_succ, List.getElem_cons_zero, List.setIfInBounds_toArray, List.set_cons_zero, List.set_cons_succ]
              obtain ⟨X6, hW⟩ : ∃ W', W' = World.alloc X5 (.cells #[.int .i64 0, .int .i64 0, .int .i64 0, .int .i64 0, .slice none 0 0, .bool false, .bool false, .slice none 0 0, .string ⟨#[]⟩, .int .i64 0, .int .i64 0, .int .i64 0, .int .i64 0, .int .i64 0] 36) := ⟨_, rfl⟩
              have bx : Below (X5).heap.size X5 X6 := by rw [hW]; exact below_alloc _ _
              have c6x : Below w0.heap.size w0 X6 := c5x.trans (bx.mono c5x.size)
              have h4 : Blk X6 (X5).heap.size 36 #[.int .i64 0, .int .i64 0, .int .i64 0, .int .i64 0, .slice none 0 0, .bool false, .bool false, .slice none 0 0, .string ⟨#[]⟩, .int .i64 0, .int .i64 0, .int .i64 0, .int .i64 0, .int .i64 0] := by rw [hW]; exact Blk.new _ _ _
              have z4 : w0.heap.size ≤ (X5).heap.size := c5x.size
              have hp := hp.below bx
              have hq := hq.below bx
              have lt5 := h5.lt
              have h5 := h5.of (bx.block _ h5.lt)
              refine wp_ran (v := .pointer (some ⟨(X5).heap.size, 0, none⟩)) (w' := X6) (by rw [hW]; exact (by go_simp)) ⟨c6x, ?_⟩
              simp only [Act.put, List.getElem_toArray, List.getElem_cons_succ, List.getElem_cons_zero, List.setIfInBounds_toArray, List.set_cons_zero, List.set_cons_succ]
              clear hW bx
              refine L_one (j := 6) (by kernel_rfl) rfl (by rfl) ?_
              simp only [Act.put, List.getElem_toArray, List.getElem_cons_succ, List.getElem_cons_zero, List.setIfInBounds_toArray, List.set_cons_zero, List.set_cons_succ]
              refine wp_storeq 36 (.tmp 5) (.tmp 17) rfl _ _ [.int .i64 p.id, .int .i64 p.vw.size, .int .i64 p.obj, .int .i64 p.seq, .slice p.S p.sn.length p.cs', .bool p.vw.on, .bool p.vw.good, .slice p.vw.M p.vw.row.length p.vw.cm, .string (strOf p.vw.par), .int .i64 p.vw.ps, .int .i64 p.vw.ov, .int .i64 p.ow, .int .i64 p.it, .int .i64 p.tg] rfl rfl h4 rfl (by kernel_rfl) (one14 _ _ _ _ _ _ _ _ _ _ _ _ _ _ _ _ _ _) ?_
              intro X8 K8 o8 s8
              have c8 := c6x.trans (o8.below (fun x hx => by simp at hx; omega) c6x.size)
              have p8 := hp.stay h4 o8
              have q8 := hq.stay h4 o8
              have h58 := h5.only o8 (by simp; omega)
              refine ⟨c8, ?_⟩
              simp only [Act.put, List.getElem_toArray, List.getElem_cons_succ, List.getElem_cons_zero, List.setIfInBounds_toArray, List.set_cons_zero, List.set_cons_succ]
              refine L_one (j := 7) (by kernel_rfl) rfl (by rfl) ?_
              simp only [Act.put, List.getElem_toArray, List.getElem_cons_succ, List.getElem_cons_zero, List.setIfInBounds_toArray, List.set_cons_zero, List.set_cons_succ]
              refine wp_storeq 36 (.tmp 6) (.tmp 19) rfl _ _ [.int .i64 q.id, .int .i64 q.vw.size, .int .i64 q.obj, .int .i64 q.seq, .slice q.S q.sn.length q.cs', .bool q.vw.on, .bool q.vw.good, .slice q.vw.M q.vw.row.length q.vw.cm, .string (strOf q.vw.par), .int .i64 q.vw.ps, .int .i64 q.vw.ov, .int .i64 q.ow, .int .i64 q.it, .int .i64 q.tg] rfl rfl h58 rfl (by kernel_rfl) (one14 _ _ _ _ _ _ _ _ _ _ _ _ _ _ _ _ _ _) ?_
              intro X9 K9 o9 s9
              have c9 := c8.trans (o9.below (fun x hx => by simp at hx; omega) c8.size)
              refine ⟨c9, ?_⟩
              simp only [Act.put, List.getElem_toArray, List.getElem_cons_succ, List.getElem_cons_zero, List.setIfInBounds_toArray, List.set_cons_zero, List.set_cons_succ]
              refine L_done (by kernel_rfl) ?_
              refine NoPanic.normal ?_
              exact ⟨by first | trivial | rfl, _, _, p, q, rfl, ⟨HB1.out _ c9, HB2.out _ c9, Blk.only K8 o9 (by simp; omega), K9, p8.stay h58 o9, q8.stay h58 o9, ep, eq, B0.out.trans (c9.mono B0.out.size)⟩⟩
          · skip
            simp only [Act.put, List.getElem_toArray, List.getElem_cons_succ, List.getElem_cons_zero, List.setIfInBounds_toArray, List.set_cons_zero, List.set_cons_succ]
            obtain ⟨X8, hW⟩ : ∃ W', W' = World.alloc X0 (.cells #[.int .i64 0, .int .i64 0, .int .i64 0, .int .i64 0, .slice none 0 0, .bool false, .bool false, .slice none 0 0, .string ⟨#[]⟩, .int .i64 0, .int .i64 0, .int .i64 0, .int .i64 0, .int .i64 0] 36) := ⟨_, rfl⟩
            have bx : Below (X0).heap.size X0 X8 := by rw [hW]; exact below_alloc _ _
            have c8x : Below w0.heap.size w0 X8 := c0x.trans (bx.mono c0x.size)
            have h4 : Blk X8 (X0).heap.size 36 #[.int .i64 0, .int .i64 0, .int .i64 0, .int .i64 0, .slice none 0 0, .bool false, .bool false, .slice none 0 0, .string ⟨#[]⟩, .int .i64 0, .int .i64 0, .int .i64 0, .int .i64 0, .int .i64 0] := by rw [hW]; exact Blk.new _ _ _
            have z4 : w0.heap.size ≤ (X0).heap.size := c0x.size
            have hp := hp.below bx
            refine wp_ran (v := .pointer (some ⟨(X0).heap.size, 0, none⟩)) (w' := X8) (by rw [hW]; exact (by go_simp)) ⟨c8x, ?_⟩
            simp only [Act.put, List.getElem_toArray, List.getElem_cons_succ, List.getElem_cons_zero, List.setIfInBounds_toArray, List.set_cons_zero, List.set_cons_succ]
            clear hW bx
            refine L_two (i := 3) (j := 5) (by kernel_rfl) rfl rfl (by rfl) (by rfl) ?_ ?_
            · skip
              simp only [Act.put, List.getElem_toArray, List.getElem_cons_succ, List.getElem_cons_zero, List.setIfInBounds_toArray, List.set_cons_zero, List.set_cons_succ]
              refine wp_called (by go_simp) (HPB.out _ c8x HLb.out) ?_
              rintro e X9 ⟨q, rfl, eq, hq0, bx⟩
              have c9x : Below w0.heap.size w0 X9 := c8x.trans (bx.mono c8x.size)
              have hq := hq0.weaken (show w.heap.size ≤ _ from Nat.le_trans B0.out.size c8x.size)
              have hp := hp.below bx
              have h4 := h4.of (bx.block _ h4.lt)
              clear hq0 bx
              refine ⟨_, rfl, c9x, ?_⟩
              simp only [Act.put, List.getElem_toArray, List.getElem_cons_succ, List.getElem_cons_zero, List.setIfInBounds_toArray, List.set_cons_zero, List.set_cons_succ]
              unfold HA.cs
              refine L_one (j := 5) (by kernel_rfl) rfl (by rfl) ?_
              simp only [Act.put, List.getElem_toArray, List.getElem_cons_succ, List.getElem_cons_zero, List.setIfInBounds_toArray, List.set_cons_zero, List.set_cons_succ]
              obtain ⟨X10, hW⟩ : ∃ W', W' = World.alloc X9 (.cells #[.int .i64 0, .int .i64 0, .int .i64 0, .int .i64 0, .slice none 0 0, .bool false, .bool false, .slice none 0 0, .string ⟨#[]⟩, .int .i64 0, .int .i64 0, .int .i64 0, .int .i64 0, .int .i64 0] 36) := ⟨_, rfl⟩
              have bx : Below (X9).heap.size X9 X10 := by rw [hW]; exact below_alloc _ _
              have c10x : Below w0.heap.size w0 X10 := c9x.trans (bx.mono c9x.size)
              have h5 : Blk X10 (X9).heap.size 36 #[.int .i64 0, .int .i64 0, .int .i64 0, .int .i64 0, .slice none 0 0, .bool false, .bool false, .slice none 0 0, .string ⟨#[]⟩, .int .i64 0, .int .i64 0, .int .i64 0, .int .i64 0, .int .i64 0] := by rw [hW]; exact Blk.new _ _ _
              have z5 : w0.heap.size ≤ (X9).heap.size := c9x.size
              have hp := hp.below bx
              have hq := hq.below bx
              have lt4 := h4.lt
              have h4 := h4.of (bx.block _ h4.lt)
              refine wp_ran (v := .pointer (some ⟨(X9).heap.size, 0, none⟩)) (w' := X10) (by rw [hW]; exact (by go_simp)) ⟨c10x, ?_⟩
              simp only [Act.put, List.getElem_toArray, List.getElem_cons_succ, List.getElem_cons_zero, List.setIfInBounds_toArray, List.set_cons_zero, List.set_cons_succ]
              clear hW bx
              refine L_one (j := 6) (by kernel_rfl) rfl (by rfl) ?_
              simp only [Act.put, List.getElem_toArray, List.getElem_cons_succ, List.getElem_cons_zero, List.setIfInBounds_toArray, List.set_cons_zero, List.set_cons_succ]
              refine wp_storeq 36 (.tmp 5) (.tmp 17) rfl _ _ [.int .i64 p.id, .int .i64 p.vw.size, .int .i64 p.obj, .int .i64 p.seq, .slice p.S p.sn.length p.cs', .bool p.vw.on, .bool p.vw.good, .slice p.vw.M p.vw.row.length p.vw.cm, .string (strOf p.vw.par), .int .i64 p.vw.ps, .int .i64 p.vw.ov, .int .i64 p.ow, .int .i64 p.it, .int .i64 p.tg] rfl rfl h4 rfl (by kernel_rfl) (one14 _ _ _ _ _ _ _ _ _ _ _ _ _ _ _ _ _ _) ?_
              intro X8 K8 o8 s8
              have c8 := c10x.trans (o8.below (fun x hx => by simp at hx; omega) c10x.size)
              have p8 := hp.stay h4 o8
              have q8 := hq.stay h4 o8
              have h58 := h5.only o8 (by simp; omega)
              refine ⟨c8, ?_⟩
              simp only [Act.put, List.getElem_toArray, List.getElem_cons_succ, List.getElem_cons_zero, List.setIfInBounds_toArray, List.set_cons_zero, List.set_cons_succ]
              refine L_one (j := 7) (by kernel_rfl) rfl (by rfl) ?_
              simp only [Act.put, List.getElem_toArray, List.getElem_cons_succ, List.getElem_cons_zero, List.setIfInBounds_toArray, List.set_cons_zero, List.set_cons_succ]
              refine wp_storeq 36 (.tmp 6) (.tmp 19) rfl _ _ [.int .i64 q.id, .int .i64 q.vw.size, .int .i64 q.obj, .int .i64 q.seq, .slice q.S q.sn.length q.cs', .bool q.vw.on, .bool q.vw.good, .slice q.vw.M q.vw.row.length q.vw.cm, .string (strOf q.vw.par), .int .i64 q.vw.ps, .int .i64 q.vw.ov, .int .i64 q.ow, .int .i64 q.it, .int .i64 q.tg] rfl rfl h58 rfl (by kernel_rfl) (one14 _ _ _ _ _ _ _ _ _ _ _ _ _ _ _ _ _ _) ?_
              intro X9 K9 o9 s9
              have c9 := c8.trans (o9.below (fun x hx => by simp at hx; omega) c8.size)
              refine ⟨c9, ?_⟩
              simp only [Act.put, List.getElem_toArray, List.getElem_cons_succ, List.getElem_cons_zero, List.setIfInBounds_toArray, List.set_cons_zero, List.set_cons_succ]
              refine L_done (by kernel_rfl) ?_
              refine NoPanic.normal ?_
              exact ⟨by first | trivial | rfl, _, _, p, q, rfl, ⟨HB1.out _ c9, HB2.out _ c9, Blk.only K8 o9 (by simp; omega), K9, p8.stay h58 o9, q8.stay h58 o9, ep, eq, B0.out.trans (c9.mono B0.out.size)⟩⟩
            · skip
              simp only [Act.put, List.getElem_toArray, List.getElem_cons_succ, List.getElem_cons_zero, List.setIfInBounds_toArray, List.set_cons_zero, List.set_cons_succ]
              obtain ⟨X12, hW⟩ : ∃ W', W' = World.alloc X8 (.cells #[.int .i64 0, .int .i64 0, .int .i64 0, .int .i64 0, .slice none 0 0, .bool false, .bool false, .slice none 0 0, .string ⟨#[]⟩, .int .i64 0, .int .i64 0, .int .i64 0, .int .i64 0, .int .i64 0] 36) := ⟨_, rfl⟩
              have bx : Below (X8).heap.size X8 X12 := by rw [hW]; exact below_alloc _ _
              have c12x : Below w0.heap.size w0 X12 := c8x.trans (bx.mono c8x.size)
              have h5 : Blk X12 (X8).heap.size 36 #[.int .i64 0, .int .i64 0, .int .i64 0, .int .i64 0, .slice none 0 0, .bool false, .bool false, .slice none 0 0, .string ⟨#[]⟩, .int .i64 0, .int .i64 0, .int .i64 0, .int .i64 0, .int .i64 0] := by rw [hW]; exact Blk.new _ _ _
              have z5 : w0.heap.size ≤ (X8).heap.size := c8x.size
              have hp := hp.below bx
              have lt4 := h4.lt
              have h4 := h4.of (bx.block _ h4.lt)
              refine wp_ran (v := .pointer (some ⟨(X8).heap.size, 0, none⟩)) (w' := X12) (by rw [hW]; exact (by go_simp)) ⟨c12x, ?_⟩
              simp only [Act.put, List.getElem_toArray, List.getElem_cons_succ, List.getElem_cons_zero, List.setIfInBounds_toArray, List.set_cons_zero, List.set_cons_succ]
              clear hW bx
              refine L_one (j := 3) (by kernel_rfl) rfl (by rfl) ?_
              simp only [Act.put, List.getElem_toArray, List.getElem_cons_succ, List.getElem_cons_zero, List.setIfInBounds_toArray, List.set_cons_zero, List.set_cons_succ]
              refine wp_called (by go_simp) (HPB.out _ c12x HLb.out) ?_
              rintro e X13 ⟨q, rfl, eq, hq0, bx⟩
              have c13x : Below w0.heap.size w0 X13 := c12x.trans (bx.mono c12x.size)
              have hq := hq0.weaken (show w.heap.size ≤ _ from Nat.le_trans B0.out.size c12x.size)
              have hp := hp.below bx
              have h4 := h4.of (bx.block _ h4.lt)
              have h5 := h5.of (bx.block _ h5.lt)
              clear hq0 bx
              refine ⟨_, rfl, c13x, ?_⟩
              simp only [Act.put, List.getElem_toArray, List.getElem_cons_succ, List.getElem_cons_zero, List.setIfInBounds_toArray, List.set_cons_zero, List.set_cons_succ]
              unfold HA.cs
              refine L_one (j := 6) (by kernel_rfl) rfl (by rfl) ?_
              simp only [Act.put, List.getElem_toArray, List.getElem_cons_succ, List.getElem_cons_zero, List.setIfInBounds_toArray, List.set_cons_zero, List.set_cons_succ]
              refine wp_storeq 36 (.tmp 5) (.tmp 17) rfl _ _ [.int .i64 p.id, .int .i64 p.vw.size, .int .i64 p.obj, .int .i64 p.seq, .slice p.S p.sn.length p.cs', .bool p.vw.on, .bool p.vw.good, .slice p.vw.M p.vw.row.length p.vw.cm, .string (strOf p.vw.par), .int .i64 p.vw.ps, .int .i64 p.vw.ov, .int .i64 p.ow, .int .i64 p.it, .int .i64 p.tg] rfl rfl h4 rfl (by kernel_rfl) (one14 _ _ _ _ _ _ _ _ _ _ _ _ _ _ _ _ _ _) ?_
              intro X8 K8 o8 s8
              have c8 := c13x.trans (o8.below (fun x hx => by simp at hx; omega) c13x.size)
              have p8 := hp.stay h4 o8
              have q8 := hq.stay h4 o8
              have h58 := h5.only o8 (by simp; omega)
              refine ⟨c8, ?_⟩
              simp only [Act.put, List.getElem_toArray, List.getElem_cons_succ, List.getElem_cons_zero, List.setIfInBounds_toArray, List.set_cons_zero, List.set_cons_succ]
              refine L_one (j := 7) (by kernel_rfl) rfl (by rfl) ?_
              simp only [Act.put, List.getElem_toArray, List.getElem_cons_succ, List.getElem_cons_zero, List.setIfInBounds_toArray, List.set_cons_zero, List.set_cons_succ]
              refine wp_storeq 36 (.tmp 6) (.tmp 19) rfl _ _ [.int .i64 q.id, .int .i64 q.vw.size, .int .i64 q.obj, .int .i64 q.seq, .slice q.S q.sn.length q.cs', .bool q.vw.on, .bool q.vw.good, .slice q.vw.M q.vw.row.length q.vw.cm, .string (strOf q.vw.par), .int .i64 q.vw.ps, .int .i64 q.vw.ov, .int .i64 q.ow, .int .i64 q.it, .int .i64 q.tg] rfl rfl h58 rfl (by kernel_rfl) (one14 _ _ _ _ _ _ _ _ _ _ _ _ _ _ _ _ _ _) ?_
              intro X9 K9 o9 s9
              have c9 := c8.trans (o9.below (fun x hx => by simp at hx; omega) c8.size)
              refine ⟨c9, ?_⟩
              simp only [Act.put, List.getElem_toArray, List.getElem_cons_succ, List.getElem_cons_zero, List.setIfInBounds_toArray, List.set_cons_zero, List.set_cons_succ]
              refine L_done (by kernel_rfl) ?_
              refine NoPanic.normal ?_
              exact ⟨by first | trivial | rfl, _, _, p, q, rfl, ⟨HB1.out _ c9, HB2.out _ c9, Blk.only K8 o9 (by simp; omega), K9, p8.stay h58 o9, q8.stay h58 o9, ep, eq, B0.out.trans (c9.mono B0.out.size)⟩⟩
          · skip
            simp only [Act.put, List.getElem_toArray, List.getElem_cons_succ, List.getElem_cons_zero, List.setIfInBounds_toArray, List.set_cons_zero, List.set_cons_succ]
            obtain ⟨X15, hW⟩ : ∃ W', W' = World.alloc X0 (.cells #[.int .i64 0, .int .i64 0, .int .i64 0, .int .i64 0, .slice none 0 0, .bool false, .bool false, .slice none 0 0, .string ⟨#[]⟩, .int .i64 0, .int .i64 0, .int .i64 0, .int .i64 0, .int .i64 0] 36) := ⟨_, rfl⟩
            have bx : Below (X0).heap.size X0 X15 := by rw [hW]; exact below_alloc _ _
            have c15x : Below w0.heap.size w0 X15 := c0x.trans (bx.mono c0x.size)
            have h5 : Blk X15 (X0).heap.size 36 #[.int .i64 0, .int .i64 0, .int .i64 0, .int .i64 0, .slice none 0 0, .bool false, .bool false, .slice none 0 0, .string ⟨#[]⟩, .int .i64 0, .int .i64 0, .int .i64 0, .int .i64 0, .int .i64 0] := by rw [hW]; exact Blk.new _ _ _
            have z5 : w0.heap.size ≤ (X0).heap.size := c0x.size
            have hp := hp.below bx
            refine wp_ran (v := .pointer (some ⟨(X0).heap.size, 0, none⟩)) (w' := X15) (by rw [hW]; exact (by go_simp)) ⟨c15x, ?_⟩
            simp only [Act.put, List.getElem_toArray, List.getElem_cons_succ, List.getElem_cons_zero, List.setIfInBounds_toArray, List.set_cons_zero, List.set_cons_succ]
            clear hW bx
            refine L_two (i := 3) (j := 4) (by kernel_rfl) rfl rfl (by rfl) (by rfl) ?_ ?_
            · skip
              simp only [Act.put, List.getElem_toArray, List.getElem_cons_succ, List.getElem_cons_zero, List.setIfInBounds_toArray, List.set_cons_zero, List.set_cons_succ]
              refine wp_called (by go_simp) (HPB.out _ c15x HLb.out) ?_
              rintro e X16 ⟨q, rfl, eq, hq0, bx⟩
              have c16x : Below w0.heap.size w0 X16 := c15x.trans (bx.mono c15x.size)
              have hq := hq0.weaken (show w.heap.size ≤ _ from Nat.le_trans B0.out.size c15x.size)
              have hp := hp.below bx
              have h5 := h5.of (bx.block _ h5.lt)
              clear hq0 bx
              refine ⟨_, rfl, c16x, ?_⟩
              simp only [Act.put, List.getElem_toArray, List.getElem_cons_succ, List.getElem_cons_zero, List.setIfInBounds_toArray, List.set_cons_zero, List.set_cons_succ]
              unfold HA.cs
              refine L_one (j := 4) (by kernel_rfl) rfl (by rfl) ?_
              simp only [Act.put, List.getElem_toArray, List.getElem_cons_succ, List.getElem_cons_zero, List.setIfInBounds_toArray, List.set_cons_zero, List.set_cons_succ]
              obtain ⟨X17, hW⟩ : ∃ W', W' = World.alloc X16 (.cells #[.int .i64 0, .int .i64 0, .int .i64 0, .int .i64 0, .slice none 0 0, .bool false, .bool false, .slice none 0 0, .string ⟨#[]⟩, .int .i64 0, .int .i64 0, .int .i64 0, .int .i64 0, .int .i64 0] 36) := ⟨_, rfl⟩
              have bx : Below (X16).heap.size X16 X17 := by rw [hW]; exact below_alloc _ _
              have c17x : Below w0.heap.size w0 X17 := c16x.trans (bx.mono c16x.size)
              have h4 : Blk X17 (X16).heap.size 36 #[.int .i64 0, .int .i64 0, .int .i64 0, .int .i64 0, .slice none 0 0, .bool false, .bool false, .slice none 0 0, .string ⟨#[]⟩, .int .i64 0, .int .i64 0, .int .i64 0, .int .i64 0, .int .i64 0] := by rw [hW]; exact Blk.new _ _ _
              have z4 : w0.heap.size ≤ (X16).heap.size := c16x.size
              have hp := hp.below bx
              have hq := hq.below bx
              have lt5 := h5.lt
              have h5 := h5.of (bx.block _ h5.lt)
              refine wp_ran (v := .pointer (some ⟨(X16).heap.size, 0, none⟩)) (w' := X17) (by rw [hW]; exact (by go_simp)) ⟨c17x, ?_⟩
              simp only [Act.put, List.getElem_toArray, List.getElem_cons_succ, List.getElem_cons_zero, List.setIfInBounds_toArray, List.set_cons_zero, List.set_cons_succ]
              clear hW bx
              refine L_one (j := 6) (by kernel_rfl) rfl (by rfl) ?_
              simp only [Act.put, List.getElem_toArray, List.getElem_cons_succ, List.getElem_cons_zero, List.setIfInBounds_toArray, List.set_cons_zero, List.set_cons_succ]
              refine wp_storeq 36 (.tmp 5) (.tmp 17) rfl _ _ [.int .i64 p.id, .int .i64 p.vw.size, .int .i64 p.obj, .int .i64 p.seq, .slice p.S p.sn.length p.cs', .bool p.vw.on, .bool p.vw.good, .slice p.vw.M p.vw.row.length p.vw.cm, .string (strOf p.vw.par), .int .i64 p.vw.ps, .int .i64 p.vw.ov, .int .i64 p.ow, .int .i64 p.it, .int .i64 p.tg] rfl rfl h4 rfl (by kernel_rfl) (one14 _ _ _ _ _ _ _ _ _ _ _ _ _ _ _ _ _ _) ?_
              intro X8 K8 o8 s8
              have c8 := c17x.trans (o8.below (fun x hx => by simp at hx; omega) c17x.size)
              have p8 := hp.stay h4 o8
              have q8 := hq.stay h4 o8
              have h58 := h5.only o8 (by simp; omega)
              refine ⟨c8, ?_⟩
              simp only [Act.put, List.getElem_toArray, List.getElem_cons_succ, List.getElem_cons_zero, List.setIfInBounds_toArray, List.set_cons_zero, List.set_cons_succ]
              refine L_one (j := 7) (by kernel_rfl) rfl (by rfl) ?_
              simp only [Act.put, List.getElem_toArray, List.getElem_cons_succ, List.getElem_cons_zero, List.setIfInBounds_toArray, List.set_cons_zero, List.set_cons_succ]
              refine wp_storeq 36 (.tmp 6) (.tmp 19) rfl _ _ [.int .i64 q.id, .int .i64 q.vw.size, .int .i64 q.obj, .int .i64 q.seq, .slice q.S q.sn.length q.cs', .bool q.vw.on, .bool q.vw.good, .slice q.vw.M q.vw.row.length q.vw.cm, .string (strOf q.vw.par), .int .i64 q.vw.ps, .int .i64 q.vw.ov, .int .i64 q.ow, .int .i64 q.it, .int .i64 q.tg] rfl rfl h58 rfl (by kernel_rfl) (one14 _ _ _ _ _ _ _ _ _ _ _ _ _ _ _ _ _ _) ?_
              intro X9 K9 o9 s9
              have c9 := c8.trans (o9.below (fun x hx => by simp at hx; omega) c8.size)
              refine ⟨c9, ?_⟩
              simp only [Act.put, List.getElem_toArray, List.getElem_cons_succ, List.getElem_cons_zero, List.setIfInBounds_toArray, List.set_cons_zero, List.set_cons_succ]
              refine L_done (by kernel_rfl) ?_
              refine NoPanic.normal ?_
              exact ⟨by first | trivial | rfl, _, _, p, q, rfl, ⟨HB1.out _ c9, HB2.out _ c9, Blk.only K8 o9 (by simp; omega), K9, p8.stay h58 o9, q8.stay h58 o9, ep, eq, B0.out.trans (c9.mono B0.out.size)⟩⟩
            · skip
              simp only [Act.put, List.getElem_toArray, List.getElem_cons_succ, List.getElem_cons_zero, List.setIfInBounds_toArray, List.set_cons_zero, List.set_cons_succ]
              obtain ⟨X19, hW⟩ : ∃ W', W' = World.alloc X15 (.cells #[.int .i64 0, .int .i64 0, .int .i64 0, .int .i64 0, .slice none 0 0, .bool false, .bool false, .slice none 0 0, .string ⟨#[]⟩, .int .i64 0, .int .i64 0, .int .i64 0, .int .i64 0, .int .i64 0] 36) := ⟨_, rfl⟩
              have bx : Below (X15).heap.size X15 X19 := by rw [hW]; exact below_alloc _ _
              have c19x : Below w0.heap.size w0 X19 := c15x.trans (bx.mono c15x.size)
              have h4 : Blk X19 (X15).heap.size 36 #[.int .i64 0, .int .i64 0, .int .i64 0, .int .i64 0, .slice none 0 0, .bool false, .bool false, .slice none 0 0, .string ⟨#[]⟩, .int .i64 0, .int .i64 0, .int .i64 0, .int .i64 0, .int .i64 0] := by rw [hW]; exact Blk.new _ _ _
              have z4 : w0.heap.size ≤ (X15).heap.size := c15x.size
              have hp := hp.below bx
              have lt5 := h5.lt
              have h5 := h5.of (bx.block _ h5.lt)
              refine wp_ran (v := .pointer (some ⟨(X15).heap.size, 0, none⟩)) (w' := X19) (by rw [hW]; exact (by go_simp)) ⟨c19x, ?_⟩
              simp only [Act.put, List.getElem_toArray, List.getElem_cons_succ, List.getElem_cons_zero, List.setIfInBounds_toArray, List.set_cons_zero, List.set_cons_succ]
              clear hW bx
              refine L_one (j := 3) (by kernel_rfl) rfl (by rfl) ?_
              simp only [Act.put, List.getElem_toArray, List.getElem_cons_succ, List.getElem_cons_zero, List.setIfInBounds_toArray, List.set_cons_zero, List.set_cons_succ]
              refine wp_called (by go_simp) (HPB.out _ c19x HLb.out) ?_
              rintro e X20 ⟨q, rfl, eq, hq0, bx⟩
              have c20x : Below w0.heap.size w0 X20 := c19x.trans (bx.mono c19x.size)
              have hq := hq0.weaken (show w.heap.size ≤ _ from Nat.le_trans B0.out.size c19x.size)
              have hp := hp.below bx
              have h4 := h4.of (bx.block _ h4.lt)
              have h5 := h5.of (bx.block _ h5.lt)
              clear hq0 bx
              refine ⟨_, rfl, c20x, ?_⟩
              simp only [Act.put, List.getElem_toArray, List.getElem_cons_succ, List.getElem_cons_zero, List.setIfInBounds_toArray, List.set_cons_zero, List.set_cons_succ]
              unfold HA.cs
              refine L_one (j := 6) (by kernel_rfl) rfl (by rfl) ?_
              simp only [Act.put, List.getElem_toArray, List.getElem_cons_succ, List.getElem_cons_zero, List.setIfInBounds_toArray, List.set_cons_zero, List.set_cons_succ]
              refine wp_storeq 36 (.tmp 5) (.tmp 17) rfl _ _ [.int .i64 p.id, .int .i64 p.vw.size, .int .i64 p.obj, .int .i64 p.seq, .slice p.S p.sn.length p.cs', .bool p.vw.on, .bool p.vw.good, .slice p.vw.M p.vw.row.length p.vw.cm, .string (strOf p.vw.par), .int .i64 p.vw.ps, .int .i64 p.vw.ov, .int .i64 p.ow, .int .i64 p.it, .int .i64 p.tg] rfl rfl h4 rfl (by kernel_rfl) (one14 _ _ _ _ _ _ _ _ _ _ _ _ _ _ _ _ _ _) ?_
              intro X8 K8 o8 s8
              have c8 := c20x.trans (o8.below (fun x hx => by simp at hx; omega) c20x.size)
              have p8 := hp.stay h4 o8
              have q8 := hq.stay h4 o8
              have h58 := h5.only o8 (by simp; omega)
              refine ⟨c8, ?_⟩
              simp only [Act.put, List.getElem_toArray, List.getElem_cons_succ, List.getElem_cons_zero, List.setIfInBounds_toArray, List.set_cons_zero, List.set_cons_succ]
              refine L_one (j := 7) (by kernel_rfl) rfl (by rfl) ?_
              simp only [Act.put, List.getElem_toArray, List.getElem_cons_succ, List.getElem_cons_zero, List.setIfInBounds_toArray, List.set_cons_zero, List.set_cons_succ]
              refine wp_storeq 36 (.tmp 6) (.tmp 19) rfl _ _ [.int .i64 q.id, .int .i64 q.vw.size, .int .i64 q.obj, .int .i64 q.seq, .slice q.S q.sn.length q.cs', .bool q.vw.on, .bool q.vw.good, .slice q.vw.M q.vw.row.length q.vw.cm, .string (strOf q.vw.par), .int .i64 q.vw.ps, .int .i64 q.vw.ov, .int .i64 q.ow, .int .i64 q.it, .int .i64 q.tg] rfl rfl h58 rfl (by kernel_rfl) (one14 _ _ _ _ _ _ _ _ _ _ _ _ _ _ _ _ _ _) ?_
              intro X9 K9 o9 s9
              have c9 := c8.trans (o9.below (fun x hx => by simp at hx; omega) c8.size)
              refine ⟨c9, ?_⟩
              simp only [Act.put, List.getElem_toArray, List.getElem_cons_succ, List.getElem_cons_zero, List.setIfInBounds_toArray, List.set_cons_zero, List.set_cons_succ]
              refine L_done (by kernel_rfl) ?_
              refine NoPanic.normal ?_
              exact ⟨by first | trivial | rfl, _, _, p, q, rfl, ⟨HB1.out _ c9, HB2.out _ c9, Blk.only K8 o9 (by simp; omega), K9, p8.stay h58 o9, q8.stay h58 o9, ep, eq, B0.out.trans (c9.mono B0.out.size)⟩⟩
        · skip
          simp only [Act.put, List.getElem_toArray, List.getElem_cons_succ, List.getElem_cons_zero, List.setIfInBounds_toArray, List.set_cons_zero, List.set_cons_succ]
          obtain ⟨X22, hW⟩ : ∃ W', W' = World.alloc Wd (.cells #[.int .i64 0, .int .i64 0, .int .i64 0, .int .i64 0, .slice none 0 0, .bool false, .bool false, .slice none 0 0, .string ⟨#[]⟩, .int .i64 0, .int .i64 0, .int .i64 0, .int .i64 0, .int .i64 0] 36) := ⟨_, rfl⟩
          have bx : Below (Wd).heap.size Wd X22 := by rw [hW]; exact below_alloc _ _
          have c22x : Below w0.heap.size w0 X22 := hS.trans (bx.mono hS.size)
          have h4 : Blk X22 (Wd).heap.size 36 #[.int .i64 0, .int .i64 0, .int .i64 0, .int .i64 0, .slice none 0 0, .bool false, .bool false, .slice none 0 0, .string ⟨#[]⟩, .int .i64 0, .int .i64 0, .int .i64 0, .int .i64 0, .int .i64 0] := by rw [hW]; exact Blk.new _ _ _
          have z4 : w0.heap.size ≤ (Wd).heap.size := hS.size
          refine wp_ran (v := .pointer (some ⟨(Wd).heap.size, 0, none⟩)) (w' := X22) (by rw [hW]; exact (by go_simp)) ⟨c22x, ?_⟩
          simp only [Act.put, List.getElem_toArray, List.getElem_cons_succ, List.getElem_cons_zero, List.setIfInBounds_toArray, List.set_cons_zero, List.set_cons_succ]
          clear hW bx
          refine L_two (i := 1) (j := 5) (by kernel_rfl) rfl rfl (by rfl) (by rfl) ?_ ?_
          · skip
            simp only [Act.put, List.getElem_toArray, List.getElem_cons_succ, List.getElem_cons_zero, List.setIfInBounds_toArray, List.set_cons_zero, List.set_cons_succ]
            refine wp_called (by go_simp) (HPA.out _ c22x HLa.out) ?_
            rintro e X23 ⟨p, rfl, ep, hp0, bx⟩
            have c23x : Below w0.heap.size w0 X23 := c22x.trans (bx.mono c22x.size)
            have hp := hp0.weaken (show w.heap.size ≤ _ from Nat.le_trans B0.out.size c22x.size)
            have h4 := h4.of (bx.block _ h4.lt)
            clear hp0 bx
            refine ⟨_, rfl, c23x, ?_⟩
            simp only [Act.put, List.getElem_toArray, List.getElem_cons_succ, List.getElem_cons_zero, List.setIfInBounds_toArray, List.set_cons_zero, List.set_cons_succ]
            unfold HA.cs
            refine L_two (i := 3) (j := 5) (by kernel_rfl) rfl rfl (by rfl) (by rfl) ?_ ?_
            · skip
              simp only [Act.put, List.getElem_toArray, List.getElem_cons_succ, List.getElem_cons_zero, List.setIfInBounds_toArray, List.set_cons_zero, List.set_cons_succ]
              refine wp_called (by go_simp) (HPB.out _ c23x HLb.out) ?_
              rintro e X24 ⟨q, rfl, eq, hq0, bx⟩
              have c24x : Below w0.heap.size w0 X24 := c23x.trans (bx.mono c23x.size)
              have hq := hq0.weaken (show w.heap.size ≤ _ from Nat.le_trans B0.out.size c23x.size)
              have hp := hp.below bx
              have h4 := h4.of (bx.block _ h4.lt)
              clear hq0 bx
              refine ⟨_, rfl, c24x, ?_⟩
              simp only [Act.put, List.getElem_toArray, List.getElem_cons_succ, List.getElem_cons_zero, List.setIfInBounds_toArray, List.set_cons_zero, List.set_cons_succ]
              unfold HA.cs
              refine L_one (j := 5) (by kernel_rfl) rfl (by rfl) ?_
              simp only [Act.put, List.getElem_toArray, List.getElem_cons_succ, List.getElem_cons_zero, List.setIfInBounds_toArray, List.set_cons_zero, List.set_cons_succ]
              obtain ⟨X25, hW⟩ : ∃ W', W' = World.alloc X24 (.cells #[.int .i64 0, .int .i64 0, .int .i64 0, .int .i64 0, .slice none 0 0, .bool false, .bool false, .slice none 0 0, .string ⟨#[]⟩, .int .i64 0, .int .i64 0, .int .i64 0, .int .i64 0, .int .i64 0] 36) := ⟨_, rfl⟩
              have bx : Below (X24).heap.size X24 X25 := by rw [hW]; exact below_alloc _ _
              have c25x : Below w0.heap.size w0 X25 := c24x.trans (bx.mono c24x.size)
              have h5 : Blk X25 (X24).heap.size 36 #[.int .i64 0, .int .i64 0, .int .i64 0, .int .i64 0, .slice none 0 0, .bool false, .bool false, .slice none 0 0, .string ⟨#[]⟩, .int .i64 0, .int .i64 0, .int .i64 0, .int .i64 0, .int .i64 0] := by rw [hW]; exact Blk.new _ _ _
              have z5 : w0.heap.size ≤ (X24).heap.size := c24x.size
              have hp := hp.below bx
              have hq := hq.below bx
              have lt4 := h4.lt
              have h4 := h4.of (bx.block _ h4.lt)
              refine wp_ran (v := .pointer (some ⟨(X24).heap.size, 0, none⟩)) (w' := X25) (by rw [hW]; exact (by go_simp)) ⟨c25x, ?_⟩
              simp only [Act.put, List.getElem_toArray, List.getElem_cons_succ, List.getElem_cons_zero, List.setIfInBounds_toArray, List.set_cons_zero, List.set_cons_succ]
              clear hW bx
              refine L_one (j := 6) (by kernel_rfl) rfl (by rfl) ?_
              simp only [Act.put, List.getElem_toArray, List.getElem_cons_succ, List.getElem_cons_zero, List.setIfInBounds_toArray, List.set_cons_zero, List.set_cons_succ]
              refine wp_storeq 36 (.tmp 5) (.tmp 17) rfl _ _ [.int .i64 p.id, .int .i64 p.vw.size, .int .i64 p.obj, .int .i64 p.seq, .slice p.S p.sn.length p.cs', .bool p.vw.on, .bool p.vw.good, .slice p.vw.M p.vw.row.length p.vw.cm, .string (strOf p.vw.par), .int .i64 p.vw.ps, .int .i64 p.vw.ov, .int .i64 p.ow, .int .i64 p.it, .int .i64 p.tg] rfl rfl h4 rfl (by kernel_rfl) (one14 _ _ _ _ _ _ _ _ _ _ _ _ _ _ _ _ _ _) ?_
              intro X8 K8 o8 s8
              have c8 := c25x.trans (o8.below (fun x hx => by simp at hx; omega) c25x.size)
              have p8 := hp.stay h4 o8
              have q8 := hq.stay h4 o8
              have h58 := h5.only o8 (by simp; omega)
              refine ⟨c8, ?_⟩
              simp only [Act.put, List.getElem_toArray, List.getElem_cons_succ, List.getElem_cons_zero, List.setIfInBounds_toArray, List.set_cons_zero, List.set_cons_succ]
              refine L_one (j := 7) (by kernel_rfl) rfl (by rfl) ?_
              simp only [Act.put, List.getElem_toArray, List.getElem_cons_succ, List.getElem_cons_zero, List.setIfInBounds_toArray, List.set_cons_zero, List.set_cons_succ]
              refine wp_storeq 36 (.tmp 6) (.tmp 19) rfl _ _ [.int .i64 q.id, .int .i64 q.vw.size, .int .i64 q.obj, .int .i64 q.seq, .slice q.S q.sn.length q.cs', .bool q.vw.on, .bool q.vw.good, .slice q.vw.M q.vw.row.length q.vw.cm, .string (strOf q.vw.par), .int .i64 q.vw.ps, .int .i64 q.vw.ov, .int .i64 q.ow, .int .i64 q.it, .int .i64 q.tg] rfl rfl h58 rfl (by kernel_rfl) (one14 _ _ _ _ _ _ _ _ _ _ _ _ _ _ _ _ _ _) ?_
              intro X9 K9 o9 s9
              have c9 := c8.trans (o9.below (fun x hx => by simp at hx; omega) c8.size)
              refine ⟨c9, ?_⟩
              simp only [Act.put, List.getElem_toArray, List.getElem_cons_succ, List.getElem_cons_zero, List.setIfInBounds_toArray, List.set_cons_zero, List.set_cons_succ]
              refine L_done (by kernel_rfl) ?_
              refine NoPanic.normal ?_
              exact ⟨by first | trivial | rfl, _, _, p, q, rfl, ⟨HB1.out _ c9, HB2.out _ c9, Blk.only K8 o9 (by simp; omega), K9, p8.stay h58 o9, q8.stay h58 o9, ep, eq, B0.out.trans (c9.mono B0.out.size)⟩⟩
            · skip
              simp only [Act.put, List.getElem_toArray, List.getElem_cons_succ, List.getElem_cons_zero, List.setIfInBounds_toArray, List.set_cons_zero, List.set_cons_succ]
              obtain ⟨X27, hW⟩ : ∃ W', W' = World.alloc X23 (.cells #[.int .i64 0, .int .i64 0, .int .i64 0, .int .i64 0, .slice none 0 0, .bool false, .bool false, .slice none 0 0, .string ⟨#[]⟩, .int .i64 0, .int .i64 0, .int .i64 0, .int .i64 0, .int .i64 0] 36) := ⟨_, rfl⟩
              have bx : Below (X23).heap.size X23 X27 := by rw [hW]; exact below_alloc _ _
              have c27x : Below w0.heap.size w0 X27 := c23x.trans (bx.mono c23x.size)
              have h5 : Blk X27 (X23).heap.size 36 #[.int .i64 0, .int .i64 0, .int .i64 0, .int .i64 0, .slice none 0 0, .bool false, .bool false, .slice none 0 0, .string ⟨#[]⟩, .int .i64 0, .int .i64 0, .int .i64 0, .int .i64 0, .int .i64 0] := by rw [hW]; exact Blk.new _ _ _
              have z5 : w0.heap.size ≤ (X23).heap.size := c23x.size
              have hp := hp.below bx
              have lt4 := h4.lt
              have h4 := h4.of (bx.block _ h4.lt)
              refine wp_ran (v := .pointer (some ⟨(X23).heap.size, 0, none⟩)) (w' := X27) (by rw [hW]; exact (by go_simp)) ⟨c27x, ?_⟩
              simp only [Act.put, List.getElem_toArray, List.getElem_cons_succ, List.getElem_cons_zero, List.setIfInBounds_toArray, List.set_cons_zero, List.set_cons_succ]
              clear hW bx
              refine L_one (j := 3) (by kernel_rfl) rfl (by rfl) ?_
              simp only [Act.put, List.getElem_toArray, List.getElem_cons_succ, List.getElem_cons_zero, List.setIfInBounds_toArray, List.set_cons_zero, List.set_cons_succ]
              refine wp_called (by go_simp) (HPB.out _ c27x HLb.out) ?_
              rintro e X28 ⟨q, rfl, eq, hq0, bx⟩
              have c28x : Below w0.heap.size w0 X28 := c27x.trans (bx.mono c27x.size)
              have hq := hq0.weaken (show w.heap.size ≤ _ from Nat.le_trans B0.out.size c27x.size)
              have hp := hp.below bx
              have h4 := h4.of (bx.block _ h4.lt)
              have h5 := h5.of (bx.block _ h5.lt)
              clear hq0 bx
              refine ⟨_, rfl, c28x, ?_⟩
              simp only [Act.put, List.getElem_toArray, List.getElem_cons_succ, List.getElem_cons_zero, List.setIfInBounds_toArray, List.set_cons_zero, List.set_cons_succ]
              unfold HA.cs
              refine L_one (j := 6) (by kernel_rfl) rfl (by rfl) ?_
              simp only [Act.put, List.getElem_toArray, List.getElem_cons_succ, List.getElem_cons_zero, List.setIfInBounds_toArray, List.set_cons_zero, List.set_cons_succ]
              refine wp_storeq 36 (.tmp 5) (.tmp 17) rfl _ _ [.int .i64 p.id, .int .i64 p.vw.size, .int .i64 p.obj, .int .i64 p.seq, .slice p.S p.sn.length p.cs', .bool p.vw.on, .bool p.vw.good, .slice p.vw.M p.vw.row.length p.vw.cm, .string (strOf p.vw.par), .int .i64 p.vw.ps, .int .i64 p.vw.ov, .int .i64 p.ow, .int .i64 p.it, .int .i64 p.tg] rfl rfl h4 rfl (by kernel_rfl) (one14 _ _ _ _ _ _ _ _ _ _ _ _ _ _ _ _ _ _) ?_
              intro X8 K8 o8 s8
              have c8 := c28x.trans (o8.below (fun x hx => by simp at hx; omega) c28x.size)
              have p8 := hp.stay h4 o8
              have q8 := hq.stay h4 o8
              have h58 := h5.only o8 (by simp; omega)
              refine ⟨c8, ?_⟩
              simp only [Act.put, List.getElem_toArray, List.getElem_cons_succ, List.getElem_cons_zero, List.setIfInBounds_toArray, List.set_cons_zero, List.set_cons_succ]
              refine L_one (j := 7) (by kernel_rfl) rfl (by rfl) ?_
              simp only [Act.put, List.getElem_toArray, List.getElem_cons_succ, List.getElem_cons_zero, List.setIfInBounds_toArray, List.set_cons_zero, List.set_cons_succ]
              refine wp_storeq 36 (.tmp 6) (.tmp 19) rfl _ _ [.int .i64 q.id, .int .i64 q.vw.size, .int .i64 q.obj, .int .i64 q.seq, .slice q.S q.sn.length q.cs', .bool q.vw.on, .bool q.vw.good, .slice q.vw.M q.vw.row.length q.vw.cm, .string (strOf q.vw.par), .int .i64 q.vw.ps, .int .i64 q.vw.ov, .int .i64 q.ow, .int .i64 q.it, .int .i64 q.tg] rfl rfl h58 rfl (by kernel_rfl) (one14 _ _ _ _ _ _ _ _ _ _ _ _ _ _ _ _ _ _) ?_
              intro X9 K9 o9 s9
              have c9 := c8.trans (o9.below (fun x hx => by simp at hx; omega) c8.size)
              refine ⟨c9, ?_⟩
              simp only [Act.put, List.getElem_toArray, List.getElem_cons_succ, List.getElem_cons_zero, List.setIfInBounds_toArray, List.set_cons_zero, List.set_cons_succ]
              refine L_done (by kernel_rfl) ?_
              refine NoPanic.normal ?_
              exact ⟨by first | trivial | rfl, _, _, p, q, rfl, ⟨HB1.out _ c9, HB2.out _ c9, Blk.only K8 o9 (by simp; omega), K9, p8.stay h58 o9, q8.stay h58 o9, ep, eq, B0.out.trans (c9.mono B0.out.size)⟩⟩
          · skip
            simp only [Act.put, List.getElem_toArray, List.getElem_cons_succ, List.getElem_cons_zero, List.setIfInBounds_toArray, List.set_cons_zero, List.set_cons_succ]
            obtain ⟨X30, hW⟩ : ∃ W', W' = World.alloc X22 (.cells #[.int .i64 0, .int .i64 0, .int .i64 0, .int .i64 0, .slice none 0 0, .bool false, .bool false, .slice none 0 0, .string ⟨#[]⟩, .int .i64 0, .int .i64 0, .int .i64 0, .int .i64 0, .int .i64 0] 36) := ⟨_, rfl⟩
            have bx : Below (X22).heap.size X22 X30 := by rw [hW]; exact below_alloc _ _
            have c30x : Below w0.heap.size w0 X30 := c22x.trans (bx.mono c22x.size)
            have h5 : Blk X30 (X22).heap.size 36 #[.int .i64 0, .int .i64 0, .int .i64 0, .int .i64 0, .slice none 0 0, .bool false, .bool false, .slice none 0 0, .string ⟨#[]⟩, .int .i64 0, .int .i64 0, .int .i64 0, .int .i64 0, .int .i64 0] := by rw [hW]; exact Blk.new _ _ _
            have z5 : w0.heap.size ≤ (X22).heap.size := c22x.size
            have lt4 := h4.lt
            have h4 := h4.of (bx.block _ h4.lt)
            refine wp_ran (v := .pointer (some ⟨(X22).heap.size, 0, none⟩)) (w' := X30) (by rw [hW]; exact (by go_simp)) ⟨c30x, ?_⟩
            simp only [Act.put, List.getElem_toArray, List.getElem_cons_succ, List.getElem_cons_zero, List.setIfInBounds_toArray, List.set_cons_zero, List.set_cons_succ]
            clear hW bx
            refine L_one (j := 1) (by kernel_rfl) rfl (by rfl) ?_
            simp only [Act.put, List.getElem_toArray, List.getElem_cons_succ, List.getElem_cons_zero, List.setIfInBounds_toArray, List.set_cons_zero, List.set_cons_succ]
            refine wp_called (by go_simp) (HPA.out _ c30x HLa.out) ?_
            rintro e X31 ⟨p, rfl, ep, hp0, bx⟩
            have c31x : Below w0.heap.size w0 X31 := c30x.trans (bx.mono c30x.size)
            have hp := hp0.weaken (show w.heap.size ≤ _ from Nat.le_trans B0.out.size c30x.size)
            have h4 := h4.of (bx.block _ h4.lt)
            have h5 := h5.of (bx.block _ h5.lt)
            clear hp0 bx
            refine ⟨_, rfl, c31x, ?_⟩
            simp only [Act.put, List.getElem_toArray, List.getElem_cons_succ, List.getElem_cons_zero, List.setIfInBounds_toArray, List.set_cons_zero, List.set_cons_succ]
            unfold HA.cs
            refine L_one (j := 3) (by kernel_rfl) rfl (by rfl) ?_
            simp only [Act.put, List.getElem_toArray, List.getElem_cons_succ, List.getElem_cons_zero, List.setIfInBounds_toArray, List.set_cons_zero, List.set_cons_succ]
            refine wp_called (by go_simp) (HPB.out _ c31x HLb.out) ?_
            rintro e X32 ⟨q, rfl, eq, hq0, bx⟩
            have c32x : Below w0.heap.size w0 X32 := c31x.trans (bx.mono c31x.size)
            have hq := hq0.weaken (show w.heap.size ≤ _ from Nat.le_trans B0.out.size c31x.size)
            have hp := hp.below bx
            have h4 := h4.of (bx.block _ h4.lt)
            have h5 := h5.of (bx.block _ h5.lt)
            clear hq0 bx
            refine ⟨_, rfl, c32x, ?_⟩
            simp only [Act.put, List.getElem_toArray, List.getElem_cons_succ, List.getElem_cons_zero, List.setIfInBounds_toArray, List.set_cons_zero, List.set_cons_succ]
            unfold HA.cs
            refine L_one (j := 6) (by kernel_rfl) rfl (by rfl) ?_
            simp only [Act.put, List.getElem_toArray, List.getElem_cons_succ, List.getElem_cons_zero, List.setIfInBounds_toArray, List.set_cons_zero, List.set_cons_succ]
            refine wp_storeq 36 (.tmp 5) (.tmp 17) rfl _ _ [.int .i64 p.id, .int .i64 p.vw.size, .int .i64 p.obj, .int .i64 p.seq, .slice p.S p.sn.length p.cs', .bool p.vw.on, .bool p.vw.good, .slice p.vw.M p.vw.row.length p.vw.cm, .string (strOf p.vw.par), .int .i64 p.vw.ps, .int .i64 p.vw.ov, .int .i64 p.ow, .int .i64 p.it, .int .i64 p.tg] rfl rfl h4 rfl (by kernel_rfl) (one14 _ _ _ _ _ _ _ _ _ _ _ _ _ _ _ _ _ _) ?_
            intro X8 K8 o8 s8
            have c8 := c32x.trans (o8.below (fun x hx => by simp at hx; omega) c32x.size)
            have p8 := hp.stay h4 o8
            have q8 := hq.stay h4 o8
            have h58 := h5.only o8 (by simp; omega)
            refine ⟨c8, ?_⟩
            simp only [Act.put, List.getElem_toArray, List.getElem_cons_succ, List.getElem_cons_zero, List.setIfInBounds_toArray, List.set_cons_zero, List.set_cons_succ]
            refine L_one (j := 7) (by kernel_rfl) rfl (by rfl) ?_
            simp only [Act.put, List.getElem_toArray, List.getElem_cons_succ, List.getElem_cons_zero, List.setIfInBounds_toArray, List.set_cons_zero, List.set_cons_succ]
            refine wp_storeq 36 (.tmp 6) (.tmp 19) rfl _ _ [.int .i64 q.id, .int .i64 q.vw.size, .int .i64 q.obj, .int .i64 q.seq, .slice q.S q.sn.length q.cs', .bool q.vw.on, .bool q.vw.good, .slice q.vw.M q.vw.row.length q.vw.cm, .string (strOf q.vw.par), .int .i64 q.vw.ps, .int .i64 q.vw.ov, .int .i64 q.ow, .int .i64 q.it, .int .i64 q.tg] rfl rfl h58 rfl (by kernel_rfl) (one14 _ _ _ _ _ _ _ _ _ _ _ _ _ _ _ _ _ _) ?_
            intro X9 K9 o9 s9
            have c9 := c8.trans (o9.below (fun x hx => by simp at hx; omega) c8.size)
            refine ⟨c9, ?_⟩
            simp only [Act.put, List.getElem_toArray, List.getElem_cons_succ, List.getElem_cons_zero, List.setIfInBounds_toArray, List.set_cons_zero, List.set_cons_succ]
            refine L_done (by kernel_rfl) ?_
            refine NoPanic.normal ?_
            exact ⟨by first | trivial | rfl, _, _, p, q, rfl, ⟨HB1.out _ c9, HB2.out _ c9, Blk.only K8 o9 (by simp; omega), K9, p8.stay h58 o9, q8.stay h58 o9, ep, eq, B0.out.trans (c9.mono B0.out.size)⟩⟩
        · skip
          simp only [Act.put, List.getElem_toArray, List.getElem_cons_succ, List.getElem_cons_zero, List.setIfInBounds_toArray, List.set_cons_zero, List.set_cons_succ]
          obtain ⟨X34, hW⟩ : ∃ W', W' = World.alloc Wd (.cells #[.int .i64 0, .int .i64 0, .int .i64 0, .int .i64 0, .slice none 0 0, .bool false, .bool false, .slice none 0 0, .string ⟨#[]⟩, .int .i64 0, .int .i64 0, .int .i64 0, .int .i64 0, .int .i64 0] 36) := ⟨_, rfl⟩
          have bx : Below (Wd).heap.size Wd X34 := by rw [hW]; exact below_alloc _ _
          have c34x : Below w0.heap.size w0 X34 := hS.trans (bx.mono hS.size)
          have h5 : Blk X34 (Wd).heap.size 36 #[.int .i64 0, .int .i64 0, .int .i64 0, .int .i64 0, .slice none 0 0, .bool false, .bool false, .slice none 0 0, .string ⟨#[]⟩, .int .i64 0, .int .i64 0, .int .i64 0, .int .i64 0, .int .i64 0] := by rw [hW]; exact Blk.new _ _ _
          have z5 : w0.heap.size ≤ (Wd).heap.size := hS.size
          refine wp_ran (v := .pointer (some ⟨(Wd).heap.size, 0, none⟩)) (w' := X34) (by rw [hW]; exact (by go_simp)) ⟨c34x, ?_⟩
          simp only [Act.put, List.getElem_toArray, List.getElem_cons_succ, List.getElem_cons_zero, List.setIfInBounds_toArray, List.set_cons_zero, List.set_cons_succ]
          clear hW bx
          refine L_two (i := 1) (j := 4) (by kernel_rfl) rfl rfl (by rfl) (by rfl) ?_ ?_
          · skip
            simp only [Act.put, List.getElem_toArray, List.getElem_cons_succ, List.getElem_cons_zero, List.setIfInBounds_toArray, List.set_cons_zero, List.set_cons_succ]
            refine wp_called (by go_simp) (HPA.out _ c34x HLa.out) ?_
            rintro e X35 ⟨p, rfl, ep, hp0, bx⟩
            have c35x : Below w0.heap.size w0 X35 := c34x.trans (bx.mono c34x.size)
            have hp := hp0.weaken (show w.heap.size ≤ _ from Nat.le_trans B0.out.size c34x.size)
            have h5 := h5.of (bx.block _ h5.lt)
            clear hp0 bx
            refine ⟨_, rfl, c35x, ?_⟩
            simp only [Act.put, List.getElem_toArray, List.getElem_cons_succ, List.getElem_cons_zero, List.setIfInBounds_toArray, List.set_cons_zero, List.set_cons_succ]
            unfold HA.cs
            refine L_two (i := 3) (j := 4) (by kernel_rfl) rfl rfl (by rfl) (by rfl) ?_ ?_
            · skip
              simp only [Act.put, List.getElem_toArray, List.getElem_cons_succ, List.getElem_cons_zero, List.setIfInBounds_toArray, List.set_cons_zero, List.set_cons_succ]
              refine wp_called (by go_simp) (HPB.out _ c35x HLb.out) ?_
              rintro e X36 ⟨q, rfl, eq, hq0, bx⟩
              have c36x : Below w0.heap.size w0 X36 := c35x.trans (bx.mono c35x.size)
              have hq := hq0.weaken (show w.heap.size ≤ _ from Nat.le_trans B0.out.size c35x.size)
              have hp := hp.below bx
              have h5 := h5.of (bx.block _ h5.lt)
              clear hq0 bx
              refine ⟨_, rfl, c36x, ?_⟩
              simp only [Act.put, List.getElem_toArray, List.getElem_cons_succ, List.getElem_cons_zero, List.setIfInBounds_toArray, List.set_cons_zero, List.set_cons_succ]
              unfold HA.cs
              refine L_one (j := 4) (by kernel_rfl) rfl (by rfl) ?_
              simp only [Act.put, List.getElem_toArray, List.getElem_cons_succ, List.getElem_cons_zero, List.setIfInBounds_toArray, List.set_cons_zero, List.set_cons_succ]
              obtain ⟨X37, hW⟩ : ∃ W', W' = World.alloc X36 (.cells #[.int .i64 0, .int .i64 0, .int .i64 0, .int .i64 0, .slice none 0 0, .bool false, .bool false, .slice none 0 0, .string ⟨#[]⟩, .int .i64 0, .int .i64 0, .int .i64 0, .int .i64 0, .int .i64 0] 36) := ⟨_, rfl⟩
              have bx : Below (X36).heap.size X36 X37 := by rw [hW]; exact below_alloc _ _
              have c37x : Below w0.heap.size w0 X37 := c36x.trans (bx.mono c36x.size)
              have h4 : Blk X37 (X36).heap.size 36 #[.int .i64 0, .int .i64 0, .int .i64 0, .int .i64 0, .slice none 0 0, .bool false, .bool false, .slice none 0 0, .string ⟨#[]⟩, .int .i64 0, .int .i64 0, .int .i64 0, .int .i64 0, .int .i64 0] := by rw [hW]; exact Blk.new _ _ _
              have z4 : w0.heap.size ≤ (X36).heap.size := c36x.size
              have hp := hp.below bx
              have hq := hq.below bx
              have lt5 := h5.lt
              have h5 := h5.of (bx.block _ h5.lt)
              refine wp_ran (v := .pointer (some ⟨(X36).heap.size, 0, none⟩)) (w' := X37) (by rw [hW]; exact (by go_simp)) ⟨c37x, ?_⟩
              simp only [Act.put, List.getElem_toArray, List.getElem_cons_succ, List.getElem_cons_zero, List.setIfInBounds_toArray, List.set_cons_zero, List.set_cons_succ]
              clear hW bx
              refine L_one (j := 6) (by kernel_rfl) rfl (by rfl) ?_
              simp only [Act.put, List.getElem_toArray, List.getElem_cons_succ, List.getElem_cons_zero, List.setIfInBounds_toArray, List.set_cons_zero, List.set_cons_succ]
              refine wp_storeq 36 (.tmp 5) (.tmp 17) rfl _ _ [.int .i64 p.id, .int .i64 p.vw.size, .int .i64 p.obj, .int .i64 p.seq, .slice p.S p.sn.length p.cs', .bool p.vw.on, .bool p.vw.good, .slice p.vw.M p.vw.row.length p.vw.cm, .string (strOf p.vw.par), .int .i64 p.vw.ps, .int .i64 p.vw.ov, .int .i64 p.ow, .int .i64 p.it, .int .i64 p.tg] rfl rfl h4 rfl (by kernel_rfl) (one14 _ _ _ _ _ _ _ _ _ _ _ _ _ _ _ _ _ _) ?_
              intro X8 K8 o8 s8
              have c8 := c37x.trans (o8.below (fun x hx => by simp at hx; omega) c37x.size)
              have p8 := hp.stay h4 o8
              have q8 := hq.stay h4 o8
              have h58 := h5.only o8 (by simp; omega)
              refine ⟨c8, ?_⟩
              simp only [Act.put, List.getElem_toArray, List.getElem_cons_succ, List.getElem_cons_zero, List.setIfInBounds_toArray, List.set_cons_zero, List.set_cons_succ]
              refine L_one (j := 7) (by kernel_rfl) rfl (by rfl) ?_
              simp only [Act.put, List.getElem_toArray, List.getElem_cons_succ, List.getElem_cons_zero, List.setIfInBounds_toArray, List.set_cons_zero, List.set_cons_succ]
              refine wp_storeq 36 (.tmp 6) (.tmp 19) rfl _ _ [.int .i64 q.id, .int .i64 q.vw.size, .int .i64 q.obj, .int .i64 q.seq, .slice q.S q.sn.length q.cs', .bool q.vw.on, .bool q.vw.good, .slice q.vw.M q.vw.row.length q.vw.cm, .string (strOf q.vw.par), .int .i64 q.vw.ps, .int .i64 q.vw.ov, .int .i64 q.ow, .int .i64 q.it, .int .i64 q.tg] rfl rfl h58 rfl (by kernel_rfl) (one14 _ _ _ _ _ _ _ _ _ _ _ _ _ _ _ _ _ _) ?_
              intro X9 K9 o9 s9
              have c9 := c8.trans (o9.below (fun x hx => by simp at hx; omega) c8.size)
              refine ⟨c9, ?_⟩
              simp only [Act.put, List.getElem_toArray, List.getElem_cons_succ, List.getElem_cons_zero, List.setIfInBounds_toArray, List.set_cons_zero, List.set_cons_succ]
              refine L_done (by kernel_rfl) ?_
              refine NoPanic.normal ?_
              exact ⟨by first | trivial | rfl, _, _, p, q, rfl, ⟨HB1.out _ c9, HB2.out _ c9, Blk.only K8 o9 (by simp; omega), K9, p8.stay h58 o9, q8.stay h58 o9, ep, eq, B0.out.trans (c9.mono B0.out.size)⟩⟩
            · skip
              simp only [Act.put, List.getElem_toArray, List.getElem_cons_succ, List.getElem_cons_zero, List.setIfInBounds_toArray, List.set_cons_zero, List.set_cons_succ]
              obtain ⟨X39, hW⟩ : ∃ W', W' = World.alloc X35 (.cells #[.int .i64 0, .int .i64 0, .int .i64 0, .int .i64 0, .slice none 0 0, .bool false, .bool false, .slice none 0 0, .string ⟨#[]⟩, .int .i64 0, .int .i64 0, .int .i64 0, .int .i64 0, .int .i64 0] 36) := ⟨_, rfl⟩
              have bx : Below (X35).heap.size X35 X39 := by rw [hW]; exact below_alloc _ _
              have c39x : Below w0.heap.size w0 X39 := c35x.trans (bx.mono c35x.size)
              have h4 : Blk X39 (X35).heap.size 36 #[.int .i64 0, .int .i64 0, .int .i64 0, .int .i64 0, .slice none 0 0, .bool false, .bool false, .slice none 0 0, .string ⟨#[]⟩, .int .i64 0, .int .i64 0, .int .i64 0, .int .i64 0, .int .i64 0] := by rw [hW]; exact Blk.new _ _ _
              have z4 : w0.heap.size ≤ (X35).heap.size := c35x.size
              have hp := hp.below bx
              have lt5 := h5.lt
              have h5 := h5.of (bx.block _ h5.lt)
              refine wp_ran (v := .pointer (some ⟨(X35).heap.size, 0, none⟩)) (w' := X39) (by rw [hW]; exact (by go_simp)) ⟨c39x, ?_⟩
              simp only [Act.put, List.getElem_toArray, List.getElem_cons_succ, List.getElem_cons_zero, List.setIfInBounds_toArray, List.set_cons_zero, List.set_cons_succ]
              clear hW bx
              refine L_one (j := 3) (by kernel_rfl) rfl (by rfl) ?_
              simp only [Act.put, List.getElem_toArray, List.getElem_cons_succ, List.getElem_cons_zero, List.setIfInBounds_toArray, List.set_cons_zero, List.set_cons_succ]
              refine wp_called (by go_simp) (HPB.out _ c39x HLb.out) ?_
              rintro e X40 ⟨q, rfl, eq, hq0, bx⟩
              have c40x : Below w0.heap.size w0 X40 := c39x.trans (bx.mono c39x.size)
              have hq := hq0.weaken (show w.heap.size ≤ _ from Nat.le_trans B0.out.size c39x.size)
              have hp := hp.below bx
              have h4 := h4.of (bx.block _ h4.lt)
              have h5 := h5.of (bx.block _ h5.lt)
              clear hq0 bx
              refine ⟨_, rfl, c40x, ?_⟩
              simp only [Act.put, List.getElem_toArray, List.getElem_cons_succ, List.getElem_cons_zero, List.setIfInBounds_toArray, List.set_cons_zero, List.set_cons_succ]
              unfold HA.cs
              refine L_one (j := 6) (by kernel_rfl) rfl (by rfl) ?_
              simp only [Act.put, List.getElem_toArray, List.getElem_cons_succ, List.getElem_cons_zero, List.setIfInBounds_toArray, List.set_cons_zero, List.set_cons_succ]
              refine wp_storeq 36 (.tmp 5) (.tmp 17) rfl _ _ [.int .i64 p.id, .int .i64 p.vw.size, .int .i64 p.obj, .int .i64 p.seq, .slice p.S p.sn.length p.cs', .bool p.vw.on, .bool p.vw.good, .slice p.vw.M p.vw.row.length p.vw.cm, .string (strOf p.vw.par), .int .i64 p.vw.ps, .int .i64 p.vw.ov, .int .i64 p.ow, .int .i64 p.it, .int .i64 p.tg] rfl rfl h4 rfl (by kernel_rfl) (one14 _ _ _ _ _ _ _ _ _ _ _ _ _ _ _ _ _ _) ?_
              intro X8 K8 o8 s8
              have c8 := c40x.trans (o8.below (fun x hx => by simp at hx; omega) c40x.size)
              have p8 := hp.stay h4 o8
              have q8 := hq.stay h4 o8
              have h58 := h5.only o8 (by simp; omega)
              refine ⟨c8, ?_⟩
              simp only [Act.put, List.getElem_toArray, List.getElem_cons_succ, List.getElem_cons_zero, List.setIfInBounds_toArray, List.set_cons_zero, List.set_cons_succ]
              refine L_one (j := 7) (by kernel_rfl) rfl (by rfl) ?_
              simp only [Act.put, List.getElem_toArray, List.getElem_cons_succ, List.getElem_cons_zero, List.setIfInBounds_toArray, List.set_cons_zero, List.set_cons_succ]
              refine wp_storeq 36 (.tmp 6) (.tmp 19) rfl _ _ [.int .i64 q.id, .int .i64 q.vw.size, .int .i64 q.obj, .int .i64 q.seq, .slice q.S q.sn.length q.cs', .bool q.vw.on, .bool q.vw.good, .slice q.vw.M q.vw.row.length q.vw.cm, .string (strOf q.vw.par), .int .i64 q.vw.ps, .int .i64 q.vw.ov, .int .i64 q.ow, .int .i64 q.it, .int .i64 q.tg] rfl rfl h58 rfl (by kernel_rfl) (one14 _ _ _ _ _ _ _ _ _ _ _ _ _ _ _ _ _ _) ?_
              intro X9 K9 o9 s9
              have c9 := c8.trans (o9.below (fun x hx => by simp at hx; omega) c8.size)
              refine ⟨c9, ?_⟩
              simp only [Act.put, List.getElem_toArray, List.getElem_cons_succ, List.getElem_cons_zero, List.setIfInBounds_toArray, List.set_cons_zero, List.set_cons_succ]
              refine L_done (by kernel_rfl) ?_
              refine NoPanic.normal ?_
              exact ⟨by first | trivial | rfl, _, _, p, q, rfl, ⟨HB1.out _ c9, HB2.out _ c9, Blk.only K8 o9 (by simp; omega), K9, p8.stay h58 o9, q8.stay h58 o9, ep, eq, B0.out.trans (c9.mono B0.out.size)⟩⟩
          · skip
            simp only [Act.put, List.getElem_toArray, List.getElem_cons_succ, List.getElem_cons_zero, List.setIfInBounds_toArray, List.set_cons_zero, List.set_cons_succ]
            obtain ⟨X42, hW⟩ : ∃ W', W' = World.alloc X34 (.cells #[.int .i64 0, .int .i64 0, .int .i64 0, .int .i64 0, .slice none 0 0, .bool false, .bool false, .slice none 0 0, .string ⟨#[]⟩, .int .i64 0, .int .i64 0, .int .i64 0, .int .i64 0, .int .i64 0] 36) := ⟨_, rfl⟩
            have bx : Below (X34).heap.size X34 X42 := by rw [hW]; exact below_alloc _ _
            have c42x : Below w0.heap.size w0 X42 := c34x.trans (bx.mono c34x.size)
            have h4 : Blk X42 (X34).heap.size 36 #[.int .i64 0, .int .i64 0, .int .i64 0, .int .i64 0, .slice none 0 0, .bool false, .bool false, .slice none 0 0, .string ⟨#[]⟩, .int .i64 0, .int .i64 0, .int .i64 0, .int .i64 0, .int .i64 0] := by rw [hW]; exact Blk.new _ _ _
            have z4 : w0.heap.size ≤ (X34).heap.size := c34x.size
            have lt5 := h5.lt
            have h5 := h5.of (bx.block _ h5.lt)
            refine wp_ran (v := .pointer (some ⟨(X34).heap.size, 0, none⟩)) (w' := X42) (by rw [hW]; exact (by go_simp)) ⟨c42x, ?_⟩
            simp only [Act.put, List.getElem_toArray, List.getElem_cons_succ, List.getElem_cons_zero, List.setIfInBounds_toArray, List.set_cons_zero, List.set_cons_succ]
            clear hW bx
            refine L_one (j := 1) (by kernel_rfl) rfl (by rfl) ?_
            simp only [Act.put, List.getElem_toArray, List.getElem_cons_succ, List.getElem_cons_zero, List.setIfInBounds_toArray, List.set_cons_zero, List.set_cons_succ]
            refine wp_called (by go_simp) (HPA.out _ c42x HLa.out) ?_
            rintro e X43 ⟨p, rfl, ep, hp0, bx⟩
            have c43x : Below w0.heap.size w0 X43 := c42x.trans (bx.mono c42x.size)
            have hp := hp0.weaken (show w.heap.size ≤ _ from Nat.le_trans B0.out.size c42x.size)
            have h4 := h4.of (bx.block _ h4.lt)
            have h5 := h5.of (bx.block _ h5.lt)
            clear hp0 bx
            refine ⟨_, rfl, c43x, ?_⟩
            simp only [Act.put, List.getElem_toArray, List.getElem_cons_succ, List.getElem_cons_zero, List.setIfInBounds_toArray, List.set_cons_zero, List.set_cons_succ]
            unfold HA.cs
            refine L_one (j := 3) (by kernel_rfl) rfl (by rfl) ?_
            simp only [Act.put, List.getElem_toArray, List.getElem_cons_succ, List.getElem_cons_zero, List.setIfInBounds_toArray, List.set_cons_zero, List.set_cons_succ]
            refine wp_called (by go_simp) (HPB.out _ c43x HLb.out) ?_
            rintro e X44 ⟨q, rfl, eq, hq0, bx⟩
            have c44x : Below w0.heap.size w0 X44 := c43x.trans (bx.mono c43x.size)
            have hq := hq0.weaken (show w.heap.size ≤ _ from Nat.le_trans B0.out.size c43x.size)
            have hp := hp.below bx
            have h4 := h4.of (bx.block _ h4.lt)
            have h5 := h5.of (bx.block _ h5.lt)
            clear hq0 bx
            refine ⟨_, rfl, c44x, ?_⟩
            simp only [Act.put, List.getElem_toArray, List.getElem_cons_succ, List.getElem_cons_zero, List.setIfInBounds_toArray, List.set_cons_zero, List.set_cons_succ]
            unfold HA.cs
            refine L_one (j := 6) (by kernel_rfl) rfl (by rfl) ?_
            simp only [Act.put, List.getElem_toArray, List.getElem_cons_succ, List.getElem_cons_zero, List.setIfInBounds_toArray, List.set_cons_zero, List.set_cons_succ]
            refine wp_storeq 36 (.tmp 5) (.tmp 17) rfl _ _ [.int .i64 p.id, .int .i64 p.vw.size, .int .i64 p.obj, .int .i64 p.seq, .slice p.S p.sn.length p.cs', .bool p.vw.on, .bool p.vw.good, .slice p.vw.M p.vw.row.length p.vw.cm, .string (strOf p.vw.par), .int .i64 p.vw.ps, .int .i64 p.vw.ov, .int .i64 p.ow, .int .i64 p.it, .int .i64 p.tg] rfl rfl h4 rfl (by kernel_rfl) (one14 _ _ _ _ _ _ _ _ _ _ _ _ _ _ _ _ _ _) ?_
            intro X8 K8 o8 s8
            have c8 := c44x.trans (o8.below (fun x hx => by simp at hx; omega) c44x.size)
            have p8 := hp.stay h4 o8
            have q8 := hq.stay h4 o8
            have h58 := h5.only o8 (by simp; omega)
            refine ⟨c8, ?_⟩
            simp only [Act.put, List.getElem_toArray, List.getElem_cons_succ, List.getElem_cons_zero, List.setIfInBounds_toArray, List.set_cons_zero, List.set_cons_succ]
            refine L_one (j := 7) (by kernel_rfl) rfl (by rfl) ?_
            simp only [Act.put, List.getElem_toArray, List.getElem_cons_succ, List.getElem_cons_zero, List.setIfInBounds_toArray, List.set_cons_zero, List.set_cons_succ]
            refine wp_storeq 36 (.tmp 6) (.tmp 19) rfl _ _ [.int .i64 q.id, .int .i64 q.vw.size, .int .i64 q.obj, .int .i64 q.seq, .slice q.S q.sn.length q.cs', .bool q.vw.on, .bool q.vw.good, .slice q.vw.M q.vw.row.length q.vw.cm, .string (strOf q.vw.par), .int .i64 q.vw.ps, .int .i64 q.vw.ov, .int .i64 q.ow, .int .i64 q.it, .int .i64 q.tg] rfl rfl h58 rfl (by kernel_rfl) (one14 _ _ _ _ _ _ _ _ _ _ _ _ _ _ _ _ _ _) ?_
            intro X9 K9 o9 s9
            have c9 := c8.trans (o9.below (fun x hx => by simp at hx; omega) c8.size)
            refine ⟨c9, ?_⟩
            simp only [Act.put, List.getElem_toArray, List.getElem_cons_succ, List.getElem_cons_zero, List.setIfInBounds_toArray, List.set_cons_zero, List.set_cons_succ]
            refine L_done (by kernel_rfl) ?_
            refine NoPanic.normal ?_
            exact ⟨by first | trivial | rfl, _, _, p, q, rfl, ⟨HB1.out _ c9, HB2.out _ c9, Blk.only K8 o9 (by simp; omega), K9, p8.stay h58 o9, q8.stay h58 o9, ep, eq, B0.out.trans (c9.mono B0.out.size)⟩⟩
      rintro e a' W5 ⟨rfl, g4, g5, p, q, rfl, hCw⟩
      have HCW := Lib.hid hCw
      have HPS := Lib.hid (small_lm hCw.ep HLa.out)
      have HQS := Lib.hid (small_lm hCw.eq HLb.out)
      have HAS := Lib.hid (small_lm (rfl : a.v = a.v) HLa.out)
      have HBS := Lib.hid (small_lm (rfl : b.v = b.v) HLb.out)
      have K4 := hCw.k4
      have HCP := Lib.hid (hcopy_any p W5 hCw.hp.R HPS.out)
      clear hCw HPA HPB
      unfold HA.cs at HCP
      go_wp2_with (have _h := K4; refine wpList_loadq rfl 36 (.tmp 5) rfl (g4) [.int .i64 p.id, .int .i64 p.vw.size, .int .i64 p.obj, .int .i64 p.seq, .slice p.S p.sn.length p.cs', .bool p.vw.on, .bool p.vw.good, .slice p.vw.M p.vw.row.length p.vw.cm, .string (strOf p.vw.par), .int .i64 p.vw.ps, .int .i64 p.vw.ov, .int .i64 p.ow, .int .i64 p.it, .int .i64 p.tg] _ rfl K4 Try.underlying36 rfl (by kernel_rfl) ?_; clear _h K4)
      refine HCP.out.mono ?_
      rintro e W6 ⟨c, rfl, hcv, hcN, hcD, hcl, b6⟩
      unfold HA.cs
      obtain ⟨W7, hW7⟩ : ∃ W, W = W6.alloc (.cells #[.int .i64 c.id, .int .i64 c.vw.size, .int .i64 c.obj, .int .i64 c.seq, .slice c.S c.sn.length c.cs', .bool c.vw.on, .bool c.vw.good, .slice c.vw.M c.vw.row.length c.vw.cm, .string (strOf c.vw.par), .int .i64 c.vw.ps, .int .i64 c.vw.ov, .int .i64 c.ow, .int .i64 c.it, .int .i64 c.tg] 36) := ⟨_, rfl⟩
      have h7 : Below W5.heap.size W5 W7 := by rw [hW7]; exact b6.alloc b6.size _
      have h67 : Below W6.heap.size W6 W7 := by rw [hW7]; exact below_alloc _ _
      have k7 : Blk W7 W6.heap.size 36 #[.int .i64 c.id, .int .i64 c.vw.size, .int .i64 c.obj, .int .i64 c.seq, .slice c.S c.sn.length c.cs', .bool c.vw.on, .bool c.vw.good, .slice c.vw.M c.vw.row.length c.vw.cm, .string (strOf c.vw.par), .int .i64 c.vw.ps, .int .i64 c.vw.ov, .int .i64 c.ow, .int .i64 c.it, .int .i64 c.tg] := by rw [hW7]; exact Blk.new _ _ _
      have HCW7 : Hid (∀ W, Below W7.heap.size W7 W → Cw w a b g4 g5 p q W) := Lib.hid fun W hW => (HCW.out.next h7).next hW
      have HK7 : Hid (∀ W, Below W7.heap.size W7 W → Blk W W6.heap.size 36 #[.int .i64 c.id, .int .i64 c.vw.size, .int .i64 c.obj, .int .i64 c.seq, .slice c.S c.sn.length c.cs', .bool c.vw.on, .bool c.vw.good, .slice c.vw.M c.vw.row.length c.vw.cm, .string (strOf c.vw.par), .int .i64 c.vw.ps, .int .i64 c.vw.ov, .int .i64 c.ow, .int .i64 c.it, .int .i64 c.tg]) := Lib.hid fun W hW => k7.of (hW.block _ k7.lt)
      have HCN : Hid (∀ W, Below W7.heap.size W7 W → c.N W W5.heap.size []) := Lib.hid fun W hW => (hcN.below h67).below hW
      have HCS := Lib.hid (small_lm (hcv.trans HCW.out.ep) HLa.out)
      have HCV := Lib.hid (hcv.trans HCW.out.ep)
      have HCD := Lib.hid hcD
      have H7 := Lib.hid h7
      have HW7 := Lib.hid hW7
      have HPL : Hid (∀ W, Below W7.heap.size W7 W → Calls Try.prog 14 #[.agg #[.int .i64 c.id, .int .i64 c.vw.size, .int .i64 c.obj, .int .i64 c.seq, .slice c.S c.sn.length c.cs', .bool c.vw.on, .bool c.vw.good, .slice c.vw.M c.vw.row.length c.vw.cm, .string (strOf c.vw.par), .int .i64 c.vw.ps, .int .i64 c.vw.ov, .int .i64 c.ow, .int .i64 c.it, .int .i64 c.tg]] W (PlainTo W c)) := Lib.hid fun W hW => hplain_any c W (HCN.out W hW).R HCS.out
      have HAR : Hid (∀ W, Below w.heap.size w W → a.R SA.dcells W ∧ b.R SA.dcells W) := Lib.hid fun W hW => ⟨HRR.out.1.since hW, HRR.out.2.since hW⟩
      clear hcv hcN hcD hcl b6 h7 h67 k7 hW7 HCP
      go_upto_region 7 with (fail)
      rw [← HW7.out]
      clear HW7
      have hS : Below W7.heap.size W7 W7.drew := (Below.refl _ W7).drew
      refine any_beginL (fun W => Below W7.heap.size W7 W) 99 (by kernel_rfl) ?_
      refine S_take (i := 0) (v := .agg #[.int .i64 c.id, .int .i64 c.vw.size, .int .i64 c.obj, .int .i64 c.seq, .slice c.S c.sn.length c.cs', .bool c.vw.on, .bool c.vw.good, .slice c.vw.M c.vw.row.length c.vw.cm, .string (strOf c.vw.par), .int .i64 c.vw.ps, .int .i64 c.vw.ov, .int .i64 c.ow, .int .i64 c.it, .int .i64 c.tg]) rfl rfl (by kernel_rfl) (by kernel_rfl) (by kernel_rfl) (fun _ _ _ h => h) (Or.inl ⟨by rfl, fun W hw => by have k0 : W.cell? ⟨W6.heap.size, 0, none⟩ = some (.int .i64 c.id) := (HK7.out W hw).cell 0; have k1 : W.cell? ⟨W6.heap.size, 1, none⟩ = some (.int .i64 c.vw.size) := (HK7.out W hw).cell 1; have k2 : W.cell? ⟨W6.heap.size, 2, none⟩ = some (.int .i64 c.obj) := (HK7.out W hw).cell 2; have k3 : W.cell? ⟨W6.heap.size, 3, none⟩ = some (.int .i64 c.seq) := (HK7.out W hw).cell 3; have k4 : W.cell? ⟨W6.heap.size, 4, none⟩ = some (.slice c.S c.sn.length c.cs') := (HK7.out W hw).cell 4; have k5 : W.cell? ⟨W6.heap.size, 5, none⟩ = some (.bool c.vw.on) := (HK7.out W hw).cell 5; have k6 : W.cell? ⟨W6.heap.size, 6, none⟩ = some (.bool c.vw.good) := (HK7.out W hw).cell 6; have k7 : W.cell? ⟨W6.heap.size, 7, none⟩ = some (.slice c.vw.M c.vw.row.length c.vw.cm) := (HK7.out W hw).cell 7; have k8 : W.cell? ⟨W6.heap.size, 8, none⟩ = some (.string (strOf c.vw.par)) := (HK7.out W hw).cell 8; have k9 : W.cell? ⟨W6.heap.size, 9, none⟩ = some (.int .i64 c.vw.ps) := (HK7.out W hw).cell 9; have k10 : W.cell? ⟨W6.heap.size, 10, none⟩ = some (.int .i64 c.vw.ov) := (HK7.out W hw).cell 10; have k11 : W.cell? ⟨W6.heap.size, 11, none⟩ = some (.int .i64 c.ow) := (HK7.out W hw).cell 11; have k12 : W.cell? ⟨W6.heap.size, 12, none⟩ = some (.int .i64 c.it) := (HK7.out W hw).cell 12; have k13 : W.cell? ⟨W6.heap.size, 13, none⟩ = some (.int .i64 c.tg) := (HK7.out W hw).cell 13; go_simp⟩) hS ?_
      simp only [Act.put, List.getElem_toArray, List.getElem_cons_succ, List.getElem_cons_zero, List.setIfInBounds_toArray, List.set_cons_zero, List.set_cons_succ]
      refine S_take (i := 2) (v := .agg #[.int .i64 a.id, .int .i64 a.vw.size, .int .i64 a.obj, .int .i64 a.seq, .slice a.S a.sn.length a.cs', .bool a.vw.on, .bool a.vw.good, .slice a.vw.M a.vw.row.length a.vw.cm, .string (strOf a.vw.par), .int .i64 a.vw.ps, .int .i64 a.vw.ov, .int .i64 a.ow, .int .i64 a.it, .int .i64 a.tg]) rfl rfl (by kernel_rfl) (by kernel_rfl) (by kernel_rfl) (fun _ _ _ h => h) (Or.inl ⟨by rfl, fun W hw => by have k0 : W.cell? ⟨w.heap.size, 0, none⟩ = some (.int .i64 a.id) := ((HCW7.out W hw).k0).cell 0; have k1 : W.cell? ⟨w.heap.size, 1, none⟩ = some (.int .i64 a.vw.size) := ((HCW7.out W hw).k0).cell 1; have k2 : W.cell? ⟨w.heap.size, 2, none⟩ = some (.int .i64 a.obj) := ((HCW7.out W hw).k0).cell 2; have k3 : W.cell? ⟨w.heap.size, 3, none⟩ = some (.int .i64 a.seq) := ((HCW7.out W hw).k0).cell 3; have k4 : W.cell? ⟨w.heap.size, 4, none⟩ = some (.slice a.S a.sn.length a.cs') := ((HCW7.out W hw).k0).cell 4; have k5 : W.cell? ⟨w.heap.size, 5, none⟩ = some (.bool a.vw.on) := ((HCW7.out W hw).k0).cell 5; have k6 : W.cell? ⟨w.heap.size, 6, none⟩ = some (.bool a.vw.good) := ((HCW7.out W hw).k0).cell 6; have k7 : W.cell? ⟨w.heap.size, 7, none⟩ = some (.slice a.vw.M a.vw.row.length a.vw.cm) := ((HCW7.out W hw).k0).cell 7; have k8 : W.cell? ⟨w.heap.size, 8, none⟩ = some (.string (strOf a.vw.par)) := ((HCW7.out W hw).k0).cell 8; have k9 : W.cell? ⟨w.heap.size, 9, none⟩ = some (.int .i64 a.vw.ps) := ((HCW7.out W hw).k0).cell 9; have k10 : W.cell? ⟨w.heap.size, 10, none⟩ = some (.int .i64 a.vw.ov) := ((HCW7.out W hw).k0).cell 10; have k11 : W.cell? ⟨w.heap.size, 11, none⟩ = some (.int .i64 a.ow) := ((HCW7.out W hw).k0).cell 11; have k12 : W.cell? ⟨w.heap.size, 12, none⟩ = some (.int .i64 a.it) := ((HCW7.out W hw).k0).cell 12; have k13 : W.cell? ⟨w.heap.size, 13, none⟩ = some (.int .i64 a.tg) := ((HCW7.out W hw).k0).cell 13; go_simp⟩) hS ?_
      simp only [Act.put, List.getElem_toArray, List.getElem_cons_succ, List.getElem_cons_zero, List.setIfInBounds_toArray, List.set_cons_zero, List.set_cons_succ]
      refine L_one (j := 1) (by kernel_rfl) rfl (by rfl) ?_
      simp only [Act.put, List.getElem_toArray, List.getElem_cons_succ, List.getElem_cons_zero, List.setIfInBounds_toArray, List.set_cons_zero, List.set_cons_succ]
      refine wp_called (by go_simp) (HPL.out _ hS) ?_
      rintro e Ya1 ⟨d, rfl, hdv, hdR, -, -, bx⟩
      have hS := hS.trans (bx.mono hS.size)
      clear bx
      unfold HA.cs
      refine ⟨_, rfl, hS, ?_⟩
      simp only [Act.put, List.getElem_toArray, List.getElem_cons_succ, List.getElem_cons_zero, List.setIfInBounds_toArray, List.set_cons_zero, List.set_cons_succ]
      refine L_one (j := 3) (by kernel_rfl) rfl (by rfl) ?_
      simp only [Act.put, List.getElem_toArray, List.getElem_cons_succ, List.getElem_cons_zero, List.setIfInBounds_toArray, List.set_cons_zero, List.set_cons_succ]
      refine wp_called (by go_simp; exact ⟨rfl, rfl⟩) (dsame_any d a _ hdR (HAR.out _ (HCW7.out _ hS).bel).1 (small_lm (hdv.trans HCV.out) HLa.out) HAS.out) ?_
      rintro e Ya3 ⟨r, rfl, hr, bx⟩
      have hS := hS.trans (bx.mono hS.size)
      clear bx
      obtain rfl : r = true := hr.2 (hdv.trans HCV.out)
      clear hr
      refine ⟨_, rfl, hS, ?_⟩
      simp only [Act.put, List.getElem_toArray, List.getElem_cons_succ, List.getElem_cons_zero, List.setIfInBounds_toArray, List.set_cons_zero, List.set_cons_succ]
      refine S_take (i := 4) (v := .bool false) rfl rfl (by kernel_rfl) (by kernel_rfl) (by kernel_rfl) (fun _ _ _ h => h) (Or.inl ⟨by rfl, fun W hw => by go_simp⟩) hS ?_
      simp only [Act.put, List.getElem_toArray, List.getElem_cons_succ, List.getElem_cons_zero, List.setIfInBounds_toArray, List.set_cons_zero, List.set_cons_succ]
      refine S_take (i := 5) (v := .bool false) rfl rfl (by kernel_rfl) (by kernel_rfl) (by kernel_rfl) (fun _ _ _ h => h) (Or.inl ⟨by rfl, fun W hw => by go_simp⟩) hS ?_
      simp only [Act.put, List.getElem_toArray, List.getElem_cons_succ, List.getElem_cons_zero, List.setIfInBounds_toArray, List.set_cons_zero, List.set_cons_succ]
      refine S_take (i := 6) (v := .agg #[.int .i64 c.id, .int .i64 c.vw.size, .int .i64 c.obj, .int .i64 c.seq, .slice c.S c.sn.length c.cs', .bool c.vw.on, .bool c.vw.good, .slice c.vw.M c.vw.row.length c.vw.cm, .string (strOf c.vw.par), .int .i64 c.vw.ps, .int .i64 c.vw.ov, .int .i64 c.ow, .int .i64 c.it, .int .i64 c.tg]) rfl rfl (by kernel_rfl) (by kernel_rfl) (by kernel_rfl) (fun _ _ _ h => h) (Or.inl ⟨by rfl, fun W hw => by have k0 : W.cell? ⟨W6.heap.size, 0, none⟩ = some (.int .i64 c.id) := (HK7.out W hw).cell 0; have k1 : W.cell? ⟨W6.heap.size, 1, none⟩ = some (.int .i64 c.vw.size) := (HK7.out W hw).cell 1; have k2 : W.cell? ⟨W6.heap.size, 2, none⟩ = some (.int .i64 c.obj) := (HK7.out W hw).cell 2; have k3 : W.cell? ⟨W6.heap.size, 3, none⟩ = some (.int .i64 c.seq) := (HK7.out W hw).cell 3; have k4 : W.cell? ⟨W6.heap.size, 4, none⟩ = some (.slice c.S c.sn.length c.cs') := (HK7.out W hw).cell 4; have k5 : W.cell? ⟨W6.heap.size, 5, none⟩ = some (.bool c.vw.on) := (HK7.out W hw).cell 5; have k6 : W.cell? ⟨W6.heap.size, 6, none⟩ = some (.bool c.vw.good) := (HK7.out W hw).cell 6; have k7 : W.cell? ⟨W6.heap.size, 7, none⟩ = some (.slice c.vw.M c.vw.row.length c.vw.cm) := (HK7.out W hw).cell 7; have k8 : W.cell? ⟨W6.heap.size, 8, none⟩ = some (.string (strOf c.vw.par)) := (HK7.out W hw).cell 8; have k9 : W.cell? ⟨W6.heap.size, 9, none⟩ = some (.int .i64 c.vw.ps) := (HK7.out W hw).cell 9; have k10 : W.cell? ⟨W6.heap.size, 10, none⟩ = some (.int .i64 c.vw.ov) := (HK7.out W hw).cell 10; have k11 : W.cell? ⟨W6.heap.size, 11, none⟩ = some (.int .i64 c.ow) := (HK7.out W hw).cell 11; have k12 : W.cell? ⟨W6.heap.size, 12, none⟩ = some (.int .i64 c.it) := (HK7.out W hw).cell 12; have k13 : W.cell? ⟨W6.heap.size, 13, none⟩ = some (.int .i64 c.tg) := (HK7.out W hw).cell 13; go_simp⟩) hS ?_
      simp only [Act.put, List.getElem_toArray, List.getElem_cons_succ, List.getElem_cons_zero, List.setIfInBounds_toArray, List.set_cons_zero, List.set_cons_succ]
      refine S_take (i := 7) (v := .agg #[.int .i64 p.id, .int .i64 p.vw.size, .int .i64 p.obj, .int .i64 p.seq, .slice p.S p.sn.length p.cs', .bool p.vw.on, .bool p.vw.good, .slice p.vw.M p.vw.row.length p.vw.cm, .string (strOf p.vw.par), .int .i64 p.vw.ps, .int .i64 p.vw.ov, .int .i64 p.ow, .int .i64 p.it, .int .i64 p.tg]) rfl rfl (by kernel_rfl) (by kernel_rfl) (by kernel_rfl) (fun _ _ _ h => h) (Or.inl ⟨by rfl, fun W hw => by have k0 : W.cell? ⟨g4, 0, none⟩ = some (.int .i64 p.id) := ((HCW7.out W hw).k4).cell 0; have k1 : W.cell? ⟨g4, 1, none⟩ = some (.int .i64 p.vw.size) := ((HCW7.out W hw).k4).cell 1; have k2 : W.cell? ⟨g4, 2, none⟩ = some (.int .i64 p.obj) := ((HCW7.out W hw).k4).cell 2; have k3 : W.cell? ⟨g4, 3, none⟩ = some (.int .i64 p.seq) := ((HCW7.out W hw).k4).cell 3; have k4 : W.cell? ⟨g4, 4, none⟩ = some (.slice p.S p.sn.length p.cs') := ((HCW7.out W hw).k4).cell 4; have k5 : W.cell? ⟨g4, 5, none⟩ = some (.bool p.vw.on) := ((HCW7.out W hw).k4).cell 5; have k6 : W.cell? ⟨g4, 6, none⟩ = some (.bool p.vw.good) := ((HCW7.out W hw).k4).cell 6; have k7 : W.cell? ⟨g4, 7, none⟩ = some (.slice p.vw.M p.vw.row.length p.vw.cm) := ((HCW7.out W hw).k4).cell 7; have k8 : W.cell? ⟨g4, 8, none⟩ = some (.string (strOf p.vw.par)) := ((HCW7.out W hw).k4).cell 8; have k9 : W.cell? ⟨g4, 9, none⟩ = some (.int .i64 p.vw.ps) := ((HCW7.out W hw).k4).cell 9; have k10 : W.cell? ⟨g4, 10, none⟩ = some (.int .i64 p.vw.ov) := ((HCW7.out W hw).k4).cell 10; have k11 : W.cell? ⟨g4, 11, none⟩ = some (.int .i64 p.ow) := ((HCW7.out W hw).k4).cell 11; have k12 : W.cell? ⟨g4, 12, none⟩ = some (.int .i64 p.it) := ((HCW7.out W hw).k4).cell 12; have k13 : W.cell? ⟨g4, 13, none⟩ = some (.int .i64 p.tg) := ((HCW7.out W hw).k4).cell 13; go_simp⟩) hS ?_
      simp only [Act.put, List.getElem_toArray, List.getElem_cons_succ, List.getElem_cons_zero, List.setIfInBounds_toArray, List.set_cons_zero, List.set_cons_succ]
      refine L_one (j := 8) (by kernel_rfl) rfl (by rfl) ?_
      simp only [Act.put, List.getElem_toArray, List.getElem_cons_succ, List.getElem_cons_zero, List.setIfInBounds_toArray, List.set_cons_zero, List.set_cons_succ]
      refine wp_called (by go_simp; exact ⟨rfl, rfl⟩) (hsame_any c p _ (HCN.out _ hS).R (HCW7.out _ hS).hp.R HCS.out HPS.out) ?_
      rintro e Ya8 ⟨r, rfl, hr, bx⟩
      have hS := hS.trans (bx.mono hS.size)
      clear bx
      obtain rfl : r = true := hr.2 (HCV.out.trans HCW.out.ep.symm)
      clear hr
      refine ⟨_, rfl, hS, ?_⟩
      simp only [Act.put, List.getElem_toArray, List.getElem_cons_succ, List.getElem_cons_zero, List.setIfInBounds_toArray, List.set_cons_zero, List.set_cons_succ]
      refine S_take (i := 9) (v := .bool false) rfl rfl (by kernel_rfl) (by kernel_rfl) (by kernel_rfl) (fun _ _ _ h => h) (Or.inl ⟨by rfl, fun W hw => by go_simp⟩) hS ?_
      simp only [Act.put, List.getElem_toArray, List.getElem_cons_succ, List.getElem_cons_zero, List.setIfInBounds_toArray, List.set_cons_zero, List.set_cons_succ]
      refine S_take (i := 10) (v := .bool false) rfl rfl (by kernel_rfl) (by kernel_rfl) (by kernel_rfl) (fun _ _ _ h => h) (Or.inl ⟨by rfl, fun W hw => by go_simp⟩) hS ?_
      simp only [Act.put, List.getElem_toArray, List.getElem_cons_succ, List.getElem_cons_zero, List.setIfInBounds_toArray, List.set_cons_zero, List.set_cons_succ]
      refine S_take (i := 11) (v := .bool false) rfl rfl (by kernel_rfl) (by kernel_rfl) (by kernel_rfl) (fun _ _ _ h => h) (Or.inl ⟨by rfl, fun W hw => by go_simp⟩) hS ?_
      simp only [Act.put, List.getElem_toArray, List.getElem_cons_succ, List.getElem_cons_zero, List.setIfInBounds_toArray, List.set_cons_zero, List.set_cons_succ]
      refine S_take (i := 12) (v := .agg #[.int .i64 p.id, .int .i64 p.vw.size, .int .i64 p.obj, .int .i64 p.seq, .slice p.S p.sn.length p.cs', .bool p.vw.on, .bool p.vw.good, .slice p.vw.M p.vw.row.length p.vw.cm, .string (strOf p.vw.par), .int .i64 p.vw.ps, .int .i64 p.vw.ov, .int .i64 p.ow, .int .i64 p.it, .int .i64 p.tg]) rfl rfl (by kernel_rfl) (by kernel_rfl) (by kernel_rfl) (fun _ _ _ h => h) (Or.inl ⟨by rfl, fun W hw => by have k0 : W.cell? ⟨g4, 0, none⟩ = some (.int .i64 p.id) := ((HCW7.out W hw).k4).cell 0; have k1 : W.cell? ⟨g4, 1, none⟩ = some (.int .i64 p.vw.size) := ((HCW7.out W hw).k4).cell 1; have k2 : W.cell? ⟨g4, 2, none⟩ = some (.int .i64 p.obj) := ((HCW7.out W hw).k4).cell 2; have k3 : W.cell? ⟨g4, 3, none⟩ = some (.int .i64 p.seq) := ((HCW7.out W hw).k4).cell 3; have k4 : W.cell? ⟨g4, 4, none⟩ = some (.slice p.S p.sn.length p.cs') := ((HCW7.out W hw).k4).cell 4; have k5 : W.cell? ⟨g4, 5, none⟩ = some (.bool p.vw.on) := ((HCW7.out W hw).k4).cell 5; have k6 : W.cell? ⟨g4, 6, none⟩ = some (.bool p.vw.good) := ((HCW7.out W hw).k4).cell 6; have k7 : W.cell? ⟨g4, 7, none⟩ = some (.slice p.vw.M p.vw.row.length p.vw.cm) := ((HCW7.out W hw).k4).cell 7; have k8 : W.cell? ⟨g4, 8, none⟩ = some (.string (strOf p.vw.par)) := ((HCW7.out W hw).k4).cell 8; have k9 : W.cell? ⟨g4, 9, none⟩ = some (.int .i64 p.vw.ps) := ((HCW7.out W hw).k4).cell 9; have k10 : W.cell? ⟨g4, 10, none⟩ = some (.int .i64 p.vw.ov) := ((HCW7.out W hw).k4).cell 10; have k11 : W.cell? ⟨g4, 11, none⟩ = some (.int .i64 p.ow) := ((HCW7.out W hw).k4).cell 11; have k12 : W.cell? ⟨g4, 12, none⟩ = some (.int .i64 p.it) := ((HCW7.out W hw).k4).cell 12; have k13 : W.cell? ⟨g4, 13, none⟩ = some (.int .i64 p.tg) := ((HCW7.out W hw).k4).cell 13; go_simp⟩) hS ?_
      simp only [Act.put, List.getElem_toArray, List.getElem_cons_succ, List.getElem_cons_zero, List.setIfInBounds_toArray, List.set_cons_zero, List.set_cons_succ]
      refine S_take (i := 13) (v := .agg #[.int .i64 q.id, .int .i64 q.vw.size, .int .i64 q.obj, .int .i64 q.seq, .slice q.S q.sn.length q.cs', .bool q.vw.on, .bool q.vw.good, .slice q.vw.M q.vw.row.length q.vw.cm, .string (strOf q.vw.par), .int .i64 q.vw.ps, .int .i64 q.vw.ov, .int .i64 q.ow, .int .i64 q.it, .int .i64 q.tg]) rfl rfl (by kernel_rfl) (by kernel_rfl) (by kernel_rfl) (fun _ _ _ h => h) (Or.inl ⟨by rfl, fun W hw => by have k0 : W.cell? ⟨g5, 0, none⟩ = some (.int .i64 q.id) := ((HCW7.out W hw).k5).cell 0; have k1 : W.cell? ⟨g5, 1, none⟩ = some (.int .i64 q.vw.size) := ((HCW7.out W hw).k5).cell 1; have k2 : W.cell? ⟨g5, 2, none⟩ = some (.int .i64 q.obj) := ((HCW7.out W hw).k5).cell 2; have k3 : W.cell? ⟨g5, 3, none⟩ = some (.int .i64 q.seq) := ((HCW7.out W hw).k5).cell 3; have k4 : W.cell? ⟨g5, 4, none⟩ = some (.slice q.S q.sn.length q.cs') := ((HCW7.out W hw).k5).cell 4; have k5 : W.cell? ⟨g5, 5, none⟩ = some (.bool q.vw.on) := ((HCW7.out W hw).k5).cell 5; have k6 : W.cell? ⟨g5, 6, none⟩ = some (.bool q.vw.good) := ((HCW7.out W hw).k5).cell 6; have k7 : W.cell? ⟨g5, 7, none⟩ = some (.slice q.vw.M q.vw.row.length q.vw.cm) := ((HCW7.out W hw).k5).cell 7; have k8 : W.cell? ⟨g5, 8, none⟩ = some (.string (strOf q.vw.par)) := ((HCW7.out W hw).k5).cell 8; have k9 : W.cell? ⟨g5, 9, none⟩ = some (.int .i64 q.vw.ps) := ((HCW7.out W hw).k5).cell 9; have k10 : W.cell? ⟨g5, 10, none⟩ = some (.int .i64 q.vw.ov) := ((HCW7.out W hw).k5).cell 10; have k11 : W.cell? ⟨g5, 11, none⟩ = some (.int .i64 q.ow) := ((HCW7.out W hw).k5).cell 11; have k12 : W.cell? ⟨g5, 12, none⟩ = some (.int .i64 q.it) := ((HCW7.out W hw).k5).cell 12; have k13 : W.cell? ⟨g5, 13, none⟩ = some (.int .i64 q.tg) := ((HCW7.out W hw).k5).cell 13; go_simp⟩) hS ?_
      simp only [Act.put, List.getElem_toArray, List.getElem_cons_succ, List.getElem_cons_zero, List.setIfInBounds_toArray, List.set_cons_zero, List.set_cons_succ]
      refine S_take (i := 15) (v := .agg #[.int .i64 a.id, .int .i64 a.vw.size, .int .i64 a.obj, .int .i64 a.seq, .slice a.S a.sn.length a.cs', .bool a.vw.on, .bool a.vw.good, .slice a.vw.M a.vw.row.length a.vw.cm, .string (strOf a.vw.par), .int .i64 a.vw.ps, .int .i64 a.vw.ov, .int .i64 a.ow, .int .i64 a.it, .int .i64 a.tg]) rfl rfl (by kernel_rfl) (by kernel_rfl) (by kernel_rfl) (fun _ _ _ h => h) (Or.inl ⟨by rfl, fun W hw => by have k0 : W.cell? ⟨w.heap.size, 0, none⟩ = some (.int .i64 a.id) := ((HCW7.out W hw).k0).cell 0; have k1 : W.cell? ⟨w.heap.size, 1, none⟩ = some (.int .i64 a.vw.size) := ((HCW7.out W hw).k0).cell 1; have k2 : W.cell? ⟨w.heap.size, 2, none⟩ = some (.int .i64 a.obj) := ((HCW7.out W hw).k0).cell 2; have k3 : W.cell? ⟨w.heap.size, 3, none⟩ = some (.int .i64 a.seq) := ((HCW7.out W hw).k0).cell 3; have k4 : W.cell? ⟨w.heap.size, 4, none⟩ = some (.slice a.S a.sn.length a.cs') := ((HCW7.out W hw).k0).cell 4; have k5 : W.cell? ⟨w.heap.size, 5, none⟩ = some (.bool a.vw.on) := ((HCW7.out W hw).k0).cell 5; have k6 : W.cell? ⟨w.heap.size, 6, none⟩ = some (.bool a.vw.good) := ((HCW7.out W hw).k0).cell 6; have k7 : W.cell? ⟨w.heap.size, 7, none⟩ = some (.slice a.vw.M a.vw.row.length a.vw.cm) := ((HCW7.out W hw).k0).cell 7; have k8 : W.cell? ⟨w.heap.size, 8, none⟩ = some (.string (strOf a.vw.par)) := ((HCW7.out W hw).k0).cell 8; have k9 : W.cell? ⟨w.heap.size, 9, none⟩ = some (.int .i64 a.vw.ps) := ((HCW7.out W hw).k0).cell 9; have k10 : W.cell? ⟨w.heap.size, 10, none⟩ = some (.int .i64 a.vw.ov) := ((HCW7.out W hw).k0).cell 10; have k11 : W.cell? ⟨w.heap.size, 11, none⟩ = some (.int .i64 a.ow) := ((HCW7.out W hw).k0).cell 11; have k12 : W.cell? ⟨w.heap.size, 12, none⟩ = some (.int .i64 a.it) := ((HCW7.out W hw).k0).cell 12; have k13 : W.cell? ⟨w.heap.size, 13, none⟩ = some (.int .i64 a.tg) := ((HCW7.out W hw).k0).cell 13; go_simp⟩) hS ?_
      simp only [Act.put, List.getElem_toArray, List.getElem_cons_succ, List.getElem_cons_zero, List.setIfInBounds_toArray, List.set_cons_zero, List.set_cons_succ]
      refine S_take (i := 16) (v := .agg #[.int .i64 b.id, .int .i64 b.vw.size, .int .i64 b.obj, .int .i64 b.seq, .slice b.S b.sn.length b.cs', .bool b.vw.on, .bool b.vw.good, .slice b.vw.M b.vw.row.length b.vw.cm, .string (strOf b.vw.par), .int .i64 b.vw.ps, .int .i64 b.vw.ov, .int .i64 b.ow, .int .i64 b.it, .int .i64 b.tg]) rfl rfl (by kernel_rfl) (by kernel_rfl) (by kernel_rfl) (fun _ _ _ h => h) (Or.inl ⟨by rfl, fun W hw => by have k0 : W.cell? ⟨w.heap.size + 1, 0, none⟩ = some (.int .i64 b.id) := ((HCW7.out W hw).k1).cell 0; have k1 : W.cell? ⟨w.heap.size + 1, 1, none⟩ = some (.int .i64 b.vw.size) := ((HCW7.out W hw).k1).cell 1; have k2 : W.cell? ⟨w.heap.size + 1, 2, none⟩ = some (.int .i64 b.obj) := ((HCW7.out W hw).k1).cell 2; have k3 : W.cell? ⟨w.heap.size + 1, 3, none⟩ = some (.int .i64 b.seq) := ((HCW7.out W hw).k1).cell 3; have k4 : W.cell? ⟨w.heap.size + 1, 4, none⟩ = some (.slice b.S b.sn.length b.cs') := ((HCW7.out W hw).k1).cell 4; have k5 : W.cell? ⟨w.heap.size + 1, 5, none⟩ = some (.bool b.vw.on) := ((HCW7.out W hw).k1).cell 5; have k6 : W.cell? ⟨w.heap.size + 1, 6, none⟩ = some (.bool b.vw.good) := ((HCW7.out W hw).k1).cell 6; have k7 : W.cell? ⟨w.heap.size + 1, 7, none⟩ = some (.slice b.vw.M b.vw.row.length b.vw.cm) := ((HCW7.out W hw).k1).cell 7; have k8 : W.cell? ⟨w.heap.size + 1, 8, none⟩ = some (.string (strOf b.vw.par)) := ((HCW7.out W hw).k1).cell 8; have k9 : W.cell? ⟨w.heap.size + 1, 9, none⟩ = some (.int .i64 b.vw.ps) := ((HCW7.out W hw).k1).cell 9; have k10 : W.cell? ⟨w.heap.size + 1, 10, none⟩ = some (.int .i64 b.vw.ov) := ((HCW7.out W hw).k1).cell 10; have k11 : W.cell? ⟨w.heap.size + 1, 11, none⟩ = some (.int .i64 b.ow) := ((HCW7.out W hw).k1).cell 11; have k12 : W.cell? ⟨w.heap.size + 1, 12, none⟩ = some (.int .i64 b.it) := ((HCW7.out W hw).k1).cell 12; have k13 : W.cell? ⟨w.heap.size + 1, 13, none⟩ = some (.int .i64 b.tg) := ((HCW7.out W hw).k1).cell 13; go_simp⟩) hS ?_
      simp only [Act.put, List.getElem_toArray, List.getElem_cons_succ, List.getElem_cons_zero, List.setIfInBounds_toArray, List.set_cons_zero, List.set_cons_succ]
      refine L_one (j := 14) (by kernel_rfl) rfl (by rfl) ?_
      simp only [Act.put, List.getElem_toArray, List.getElem_cons_succ, List.getElem_cons_zero, List.setIfInBounds_toArray, List.set_cons_zero, List.set_cons_succ]
      refine wp_called (by go_simp; exact ⟨rfl, rfl⟩) (hsame_any p q _ (HCW7.out _ hS).hp.R (HCW7.out _ hS).hq.R HPS.out HQS.out) ?_
      rintro e Ya14 ⟨r1, rfl, hr1, bx⟩
      have hS := hS.trans (bx.mono hS.size)
      clear bx
      refine ⟨_, rfl, hS, ?_⟩
      simp only [Act.put, List.getElem_toArray, List.getElem_cons_succ, List.getElem_cons_zero, List.setIfInBounds_toArray, List.set_cons_zero, List.set_cons_succ]
      refine L_one (j := 17) (by kernel_rfl) rfl (by rfl) ?_
      simp only [Act.put, List.getElem_toArray, List.getElem_cons_succ, List.getElem_cons_zero, List.setIfInBounds_toArray, List.set_cons_zero, List.set_cons_succ]
      refine wp_called (by go_simp; exact ⟨rfl, rfl⟩) (dsame_any a b _ (HAR.out _ (HCW7.out _ hS).bel).1 (HAR.out _ (HCW7.out _ hS).bel).2 HAS.out HBS.out) ?_
      rintro e Ya17 ⟨r2, rfl, hr2, bx⟩
      have hS := hS.trans (bx.mono hS.size)
      clear bx
      obtain rfl : r1 = r2 := by
        rw [HCW.out.ep, HCW.out.eq] at hr1
        exact Bool.eq_iff_iff.2 (hr1.trans hr2.symm)
      clear hr1 hr2
      refine ⟨_, rfl, hS, ?_⟩
      simp only [Act.put, List.getElem_toArray, List.getElem_cons_succ, List.getElem_cons_zero, List.setIfInBounds_toArray, List.set_cons_zero, List.set_cons_succ]
      refine S_take (i := 18) (v := .bool false) rfl rfl (by kernel_rfl) (by kernel_rfl) (by kernel_rfl) (fun _ _ _ h => h) (Or.inl ⟨by rfl, fun W hw => by cases r1 <;> go_simp⟩) hS ?_
      simp only [Act.put, List.getElem_toArray, List.getElem_cons_succ, List.getElem_cons_zero, List.setIfInBounds_toArray, List.set_cons_zero, List.set_cons_succ]
      refine S_take (i := 19) (v := .bool false) rfl rfl (by kernel_rfl) (by kernel_rfl) (by kernel_rfl) (fun _ _ _ h => h) (Or.inl ⟨by rfl, fun W hw => by go_simp⟩) hS ?_
      simp only [Act.put, List.getElem_toArray, List.getElem_cons_succ, List.getElem_cons_zero, List.setIfInBounds_toArray, List.set_cons_zero, List.set_cons_succ]
      refine L_done (by kernel_rfl) ?_
      refine NoPanic.normal ?_
      have HS8 := Lib.hid hS
      have K7 := HK7.out _ hS
      have hcn := HCN.out _ hS
      have HSP := Lib.hid (hspoil_any c _ W5.heap.size hcn HCD.out HCS.out (Nat.le_trans H7.out.size hS.size))
      unfold HA.cs at HSP
      clear hS hcn
      go_wp2_with (have _h := K7; refine wpList_loadq rfl 36 (.tmp 7) rfl (W6.heap.size) [.int .i64 c.id, .int .i64 c.vw.size, .int .i64 c.obj, .int .i64 c.seq, .slice c.S c.sn.length c.cs', .bool c.vw.on, .bool c.vw.good, .slice c.vw.M c.vw.row.length c.vw.cm, .string (strOf c.vw.par), .int .i64 c.vw.ps, .int .i64 c.vw.ov, .int .i64 c.ow, .int .i64 c.it, .int .i64 c.tg] _ rfl K7 Try.underlying36 rfl (by kernel_rfl) ?_; clear _h K7)
      refine HSP.out.mono ?_
      rintro e W9 ⟨rfl, b9⟩
      have HCW9 := Lib.hid (HCW.out.next ((H7.out.trans (HS8.out.mono H7.out.size)).trans b9))
      have HC9 : Hid (∀ W, Below W9.heap.size W9 W → Cw w a b g4 g5 p q W) := Lib.hid fun W hW => HCW9.out.next hW
      have HPL : Hid (∀ W, Below W9.heap.size W9 W → Calls Try.prog 14 #[.agg #[.int .i64 p.id, .int .i64 p.vw.size, .int .i64 p.obj, .int .i64 p.seq, .slice p.S p.sn.length p.cs', .bool p.vw.on, .bool p.vw.good, .slice p.vw.M p.vw.row.length p.vw.cm, .string (strOf p.vw.par), .int .i64 p.vw.ps, .int .i64 p.vw.ov, .int .i64 p.ow, .int .i64 p.it, .int .i64 p.tg]] W (PlainTo W p)) := Lib.hid fun W hW => hplain_any p W (HC9.out W hW).hp.R HPS.out
      clear b9 HSP
      go_upto_region 10 with (fail)
      have hS : Below W9.heap.size W9 W9.drew := (Below.refl _ W9).drew
      refine any_beginL (fun W => Below W9.heap.size W9 W) 99 (by kernel_rfl) ?_
      refine S_take (i := 0) (v := .agg #[.int .i64 p.id, .int .i64 p.vw.size, .int .i64 p.obj, .int .i64 p.seq, .slice p.S p.sn.length p.cs', .bool p.vw.on, .bool p.vw.good, .slice p.vw.M p.vw.row.length p.vw.cm, .string (strOf p.vw.par), .int .i64 p.vw.ps, .int .i64 p.vw.ov, .int .i64 p.ow, .int .i64 p.it, .int .i64 p.tg]) rfl rfl (by kernel_rfl) (by kernel_rfl) (by kernel_rfl) (fun _ _ _ h => h) (Or.inl ⟨by rfl, fun W hw => by have k0 : W.cell? ⟨g4, 0, none⟩ = some (.int .i64 p.id) := ((HC9.out W hw).k4).cell 0; have k1 : W.cell? ⟨g4, 1, none⟩ = some (.int .i64 p.vw.size) := ((HC9.out W hw).k4).cell 1; have k2 : W.cell? ⟨g4, 2, none⟩ = some (.int .i64 p.obj) := ((HC9.out W hw).k4).cell 2; have k3 : W.cell? ⟨g4, 3, none⟩ = some (.int .i64 p.seq) := ((HC9.out W hw).k4).cell 3; have k4 : W.cell? ⟨g4, 4, none⟩ = some (.slice p.S p.sn.length p.cs') := ((HC9.out W hw).k4).cell 4; have k5 : W.cell? ⟨g4, 5, none⟩ = some (.bool p.vw.on) := ((HC9.out W hw).k4).cell 5; have k6 : W.cell? ⟨g4, 6, none⟩ = some (.bool p.vw.good) := ((HC9.out W hw).k4).cell 6; have k7 : W.cell? ⟨g4, 7, none⟩ = some (.slice p.vw.M p.vw.row.length p.vw.cm) := ((HC9.out W hw).k4).cell 7; have k8 : W.cell? ⟨g4, 8, none⟩ = some (.string (strOf p.vw.par)) := ((HC9.out W hw).k4).cell 8; have k9 : W.cell? ⟨g4, 9, none⟩ = some (.int .i64 p.vw.ps) := ((HC9.out W hw).k4).cell 9; have k10 : W.cell? ⟨g4, 10, none⟩ = some (.int .i64 p.vw.ov) := ((HC9.out W hw).k4).cell 10; have k11 : W.cell? ⟨g4, 11, none⟩ = some (.int .i64 p.ow) := ((HC9.out W hw).k4).cell 11; have k12 : W.cell? ⟨g4, 12, none⟩ = some (.int .i64 p.it) := ((HC9.out W hw).k4).cell 12; have k13 : W.cell? ⟨g4, 13, none⟩ = some (.int .i64 p.tg) := ((HC9.out W hw).k4).cell 13; go_simp⟩) hS ?_
      simp only [Act.put, List.getElem_toArray, List.getElem_cons_succ, List.getElem_cons_zero, List.setIfInBounds_toArray, List.set_cons_zero, List.set_cons_succ]
      refine S_take (i := 2) (v := .agg #[.int .i64 a.id, .int .i64 a.vw.size, .int .i64 a.obj, .int .i64 a.seq, .slice a.S a.sn.length a.cs', .bool a.vw.on, .bool a.vw.good, .slice a.vw.M a.vw.row.length a.vw.cm, .string (strOf a.vw.par), .int .i64 a.vw.ps, .int .i64 a.vw.ov, .int .i64 a.ow, .int .i64 a.it, .int .i64 a.tg]) rfl rfl (by kernel_rfl) (by kernel_rfl) (by kernel_rfl) (fun _ _ _ h => h) (Or.inl ⟨by rfl, fun W hw => by have k0 : W.cell? ⟨w.heap.size, 0, none⟩ = some (.int .i64 a.id) := ((HC9.out W hw).k0).cell 0; have k1 : W.cell? ⟨w.heap.size, 1, none⟩ = some (.int .i64 a.vw.size) := ((HC9.out W hw).k0).cell 1; have k2 : W.cell? ⟨w.heap.size, 2, none⟩ = some (.int .i64 a.obj) := ((HC9.out W hw).k0).cell 2; have k3 : W.cell? ⟨w.heap.size, 3, none⟩ = some (.int .i64 a.seq) := ((HC9.out W hw).k0).cell 3; have k4 : W.cell? ⟨w.heap.size, 4, none⟩ = some (.slice a.S a.sn.length a.cs') := ((HC9.out W hw).k0).cell 4; have k5 : W.cell? ⟨w.heap.size, 5, none⟩ = some (.bool a.vw.on) := ((HC9.out W hw).k0).cell 5; have k6 : W.cell? ⟨w.heap.size, 6, none⟩ = some (.bool a.vw.good) := ((HC9.out W hw).k0).cell 6; have k7 : W.cell? ⟨w.heap.size, 7, none⟩ = some (.slice a.vw.M a.vw.row.length a.vw.cm) := ((HC9.out W hw).k0).cell 7; have k8 : W.cell? ⟨w.heap.size, 8, none⟩ = some (.string (strOf a.vw.par)) := ((HC9.out W hw).k0).cell 8; have k9 : W.cell? ⟨w.heap.size, 9, none⟩ = some (.int .i64 a.vw.ps) := ((HC9.out W hw).k0).cell 9; have k10 : W.cell? ⟨w.heap.size, 10, none⟩ = some (.int .i64 a.vw.ov) := ((HC9.out W hw).k0).cell 10; have k11 : W.cell? ⟨w.heap.size, 11, none⟩ = some (.int .i64 a.ow) := ((HC9.out W hw).k0).cell 11; have k12 : W.cell? ⟨w.heap.size, 12, none⟩ = some (.int .i64 a.it) := ((HC9.out W hw).k0).cell 12; have k13 : W.cell? ⟨w.heap.size, 13, none⟩ = some (.int .i64 a.tg) := ((HC9.out W hw).k0).cell 13; go_simp⟩) hS ?_
      simp only [Act.put, List.getElem_toArray, List.getElem_cons_succ, List.getElem_cons_zero, List.setIfInBounds_toArray, List.set_cons_zero, List.set_cons_succ]
      refine L_one (j := 1) (by kernel_rfl) rfl (by rfl) ?_
      simp only [Act.put, List.getElem_toArray, List.getElem_cons_succ, List.getElem_cons_zero, List.setIfInBounds_toArray, List.set_cons_zero, List.set_cons_succ]
      refine wp_called (by go_simp) (HPL.out _ hS) ?_
      rintro e Yb1 ⟨d2, rfl, hdv2, hdR2, -, -, bx⟩
      have hS := hS.trans (bx.mono hS.size)
      clear bx
      unfold HA.cs
      refine ⟨_, rfl, hS, ?_⟩
      simp only [Act.put, List.getElem_toArray, List.getElem_cons_succ, List.getElem_cons_zero, List.setIfInBounds_toArray, List.set_cons_zero, List.set_cons_succ]
      refine L_one (j := 3) (by kernel_rfl) rfl (by rfl) ?_
      simp only [Act.put, List.getElem_toArray, List.getElem_cons_succ, List.getElem_cons_zero, List.setIfInBounds_toArray, List.set_cons_zero, List.set_cons_succ]
      refine wp_called (by go_simp; exact ⟨rfl, rfl⟩) (dsame_any d2 a _ hdR2 (HAR.out _ (HC9.out _ hS).bel).1 (small_lm (hdv2.trans HCW.out.ep) HLa.out) HAS.out) ?_
      rintro e Yb3 ⟨r, rfl, hr, bx⟩
      have hS := hS.trans (bx.mono hS.size)
      clear bx
      obtain rfl : r = true := hr.2 (hdv2.trans HCW.out.ep)
      clear hr
      refine ⟨_, rfl, hS, ?_⟩
      simp only [Act.put, List.getElem_toArray, List.getElem_cons_succ, List.getElem_cons_zero, List.setIfInBounds_toArray, List.set_cons_zero, List.set_cons_succ]
      refine S_take (i := 4) (v := .bool true) rfl rfl (by kernel_rfl) (by kernel_rfl) (by kernel_rfl) (fun _ _ _ h => h) (Or.inl ⟨by rfl, fun W hw => by go_simp⟩) hS ?_
      simp only [Act.put, List.getElem_toArray, List.getElem_cons_succ, List.getElem_cons_zero, List.setIfInBounds_toArray, List.set_cons_zero, List.set_cons_succ]
      refine L_done (by kernel_rfl) ?_
      refine NoPanic.normal ?_
      have HEND := Lib.hid (HC9.out _ hS).bel
      clear hS
      go_wp2
      go_ret
      exact ⟨rfl, HEND.out⟩
end Go.Proofs.Ytldnghmgdmjljaa

namespace Go.Proofs.Ytldnghmgdmjljaa.headCopies
open Go.ChangeShapes Go.WideShapes Go.ChangeAt Go.RowKit
set_option maxRecDepth 100000

set_option maxRecDepth 100000 in
theorem lifted (os : Os) (started : os.Started) (H : Type) (enc : TypeId × Value → H) :
    ReturnsInHanded {} Try.checked os 5 .any (Rows.headCopiesSpec.pre6 enc Try.prog Try.f5 Rows.headCopiesRow.domain false) (Rows.headCopiesSpec.post enc Try.prog Try.f5 false true false false) := by
  refine returnsInHanded_of_change (C := Try.checked) own started (by kernel_rfl) Try.func5
    (ChangeSpec.witness6 (enc := enc) (C := Try.checked) false ⟨#[], #[.agg #[.int .i64 0, .int .i64 0, .int .i64 0, .int .i64 0, .slice none 0 0, .bool false, .bool false, .slice none 0 0, .string ⟨#[]⟩, .int .i64 0, .int .i64 0, .int .i64 0, .int .i64 0, .int .i64 0], .agg #[.int .i64 0, .int .i64 0, .int .i64 0, .int .i64 0, .slice none 0 0, .bool false, .bool false, .slice none 0 0, .string ⟨#[]⟩, .int .i64 0, .int .i64 0, .int .i64 0, .int .i64 0, .int .i64 0]], []⟩ 8 (by kernel_rfl) (by kernel_rfl) (by kernel_rfl) (by kernel_rfl)) ?_
  intro W base args ds gs before hval0 hW hcnd _
  have hval : ∀ (j : Nat) t v, Try.f5.params[j]? = some t → args[j]? = some v → Value.okWide Try.prog W .any base t v := hval0
  have hW' := hW
  obtain ⟨p, q, hA0, hV, rfl, hfz, hnd⟩ := hW
  have hA : DataW.TrodAll enc Try.prog W 0 (fun _ => true) true Try.f5.params.toList args.toList ds p := hA0
  rw [Try.params5] at hA hval
  obtain ⟨v0, vs0, d0, ds0, p0, q0, hargs, rfl, rfl, h0, r0⟩ := trodAll_cons hA
  obtain ⟨v1, vs1, d1, ds1, p1, q1, rfl, rfl, rfl, h1, r1⟩ := trodAll_cons r0
  obtain ⟨rfl, rfl, rfl⟩ := trodAll_nil r1
  obtain rfl : args = #[v0, v1] := by cases args; simp_all
  obtain ⟨rfl, rfl⟩ := trodVars_none hV
  have k0 := h0
  have lt0 : ∀ x ∈ p0, x.block < W.heap.size := by obtain ⟨m, hm⟩ := k0; exact DataW.trod_lt m _ _ _ hm
  obtain ⟨a0, rfl, r0'⟩ := open_ha (hval 0 29 v0 rfl rfl) h0
  have k1 := h1
  have lt1 : ∀ x ∈ p1, x.block < W.heap.size := by obtain ⟨m, hm⟩ := k1; exact DataW.trod_lt m _ _ _ hm
  obtain ⟨a1, rfl, r1'⟩ := open_ha (hval 1 29 v1 rfl rfl) h1
  clear hA0 hval0
  refine (headCopies_walk a0 W r0' a1 r1').mono fun e W' ⟨he, bel⟩ => ?_
  subst he
  exact ⟨_, rfl, _, _, _, [], _, [], hW', trodAll_mk1 (shut_bool Try.underlying4 _), (trodAll_cons_mk (Below.trod laidOut (by kernel_rfl) (of_decide_eq_true (by kernel_rfl)) k0 bel lt0) (trodAll_cons_mk (Below.trod laidOut (by kernel_rfl) (of_decide_eq_true (by kernel_rfl)) k1 bel lt1) trodAll_mk0)), rfl, bel.frame _, fun h => by cases h⟩

theorem said : Rows.HeadCopiesSaid :=
  OpenClaim.holds_of_wide 5 Try.f5 rfl rfl rfl rfl rfl rfl rfl ⟨rfl, rfl, rfl, rfl, rfl⟩ rfl rfl rfl rfl rfl (by kernel_rfl) Try.func5 (by kernel_rfl)
    (of_decide_eq_true (by kernel_rfl)) (by unfold Func.isWrapper; first | (rw [if_pos (by decide +kernel)]; kernel_rfl) | (rw [if_neg (by decide +kernel)]; exact ⟨rfl, rfl⟩))
    (fun os started H enc _ => lifted os started H enc)
end Go.Proofs.Ytldnghmgdmjljaa.headCopies
