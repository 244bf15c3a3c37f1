/-
  A head as the document's. Conditions: it reads as it is said to, and is small.
-/
import Derived.Test.YtgddenhnpjoabaaEg

namespace Go.Proofs.Ytgddenhnpjoabaa
open Go.RowKit Go.BigFrame
set_option linter.unusedSimpArgs false
set_option linter.unusedVariables false
set_option maxRecDepth 100000
theorem dsnap_info : (Try.prog.info? 74).map (fun i => (i.zero, i.size, i.bytes)) = some (some (.agg #[.int .i64 0, .int .i64 0, .string ⟨#[]⟩, .bool false, .bool false, .bool false, .slice none 0 0, .string ⟨#[]⟩, .int .i64 0, .int .i64 0, .slice none 0 0]), 11, 128) := by kernel_rfl
theorem three_blk (w : World) (o1 o2 : Obj) (t : TypeId) (cs : Array Value) : Blk (((w.alloc o1).alloc o2).alloc (.cells cs t)) (w.heap.size + 2) t cs := by
  have := Blk.new ((w.alloc o1).alloc o2) t cs
  rwa [World.size_alloc, World.size_alloc] at this
/-- what plain hands back -/
def PlainTo (w : World) (a : HA) (e : Ending) (w' : World) : Prop := ∃ d : HA, e = .returned (.agg d.cs) ∧ d.v = a.v ∧ d.R SA.dcells w' ∧ d.sn = a.sn ∧ d.vw = a.vw ∧ Below w.heap.size w w'
set_option maxHeartbeats 16000000 in
theorem hplain_any (a : HA) (w : World) (hR : a.R SA.cells w) (hS : a.Sm) : Calls Try.prog 15 #[.agg a.cs] w (PlainTo w a) := by
  obtain ⟨W1, hW1⟩ : ∃ W, W = (w.alloc (.cells a.cs 36)).alloc (.cells #[.int .i64 0, .int .i64 0, .int .i64 0, .int .i64 0, .slice none 0 0, .bool false, .bool false, .slice none 0 0, .string ⟨#[]⟩, .int .i64 0, .int .i64 0, .int .i64 0, .int .i64 0, .int .i64 0] 29) := ⟨_, rfl⟩
  have h1 : Below w.heap.size w W1 ∧ W1.heap.size = w.heap.size + 2 ∧ Blk W1 w.heap.size 36 #[.int .i64 a.id, .int .i64 a.vw.size, .int .i64 a.obj, .int .i64 a.seq, .slice a.S a.sn.length a.cs', .bool a.vw.on, .bool a.vw.good, .slice a.vw.M a.vw.row.length a.vw.cm, .string (strOf a.vw.par), .int .i64 a.vw.ps, .int .i64 a.vw.ov, .int .i64 a.ow, .int .i64 a.it, .int .i64 a.tg] ∧ Blk W1 (w.heap.size + 1) 29 #[.int .i64 0, .int .i64 0, .int .i64 0, .int .i64 0, .slice none 0 0, .bool false, .bool false, .slice none 0 0, .string ⟨#[]⟩, .int .i64 0, .int .i64 0, .int .i64 0, .int .i64 0, .int .i64 0] := by
    rw [hW1]
    exact ⟨(below_alloc w _).alloc (by simp) _, by simp, (Blk.new w _ _).alloc _, blk_two _ _ _ _⟩
  have HW1 := Lib.hid hW1
  have H1 := Lib.hid h1
  have HR := Lib.hid hR
  have HS := Lib.hid hS
  have hcn := hS.cn
  have hz := head_zero
  clear hW1 h1 hR hS
  unfold HA.cs at HW1 ⊢
  go_enter Try.func15, Try.ntmps15
  go_upto_region 1 with (fail)
  rw [← HW1.out]
  clear HW1
  obtain ⟨b1, z1, k1, r1⟩ := H1.out
  have q0 : W1.cell? ⟨w.heap.size, 0, none⟩ = some (.int .i64 a.id) := k1.cell 0
  have q1 : W1.cell? ⟨w.heap.size, 1, none⟩ = some (.int .i64 a.vw.size) := k1.cell 1
  have q2 : W1.cell? ⟨w.heap.size, 2, none⟩ = some (.int .i64 a.obj) := k1.cell 2
  have q3 : W1.cell? ⟨w.heap.size, 3, none⟩ = some (.int .i64 a.seq) := k1.cell 3
  have q4 : W1.cell? ⟨w.heap.size, 4, none⟩ = some (.slice a.S a.sn.length a.cs') := k1.cell 4
  have q5 : W1.cell? ⟨w.heap.size, 5, none⟩ = some (.bool a.vw.on) := k1.cell 5
  have q6 : W1.cell? ⟨w.heap.size, 6, none⟩ = some (.bool a.vw.good) := k1.cell 6
  have q7 : W1.cell? ⟨w.heap.size, 7, none⟩ = some (.slice a.vw.M a.vw.row.length a.vw.cm) := k1.cell 7
  have q8 : W1.cell? ⟨w.heap.size, 8, none⟩ = some (.string (strOf a.vw.par)) := k1.cell 8
  have q9 : W1.cell? ⟨w.heap.size, 9, none⟩ = some (.int .i64 a.vw.ps) := k1.cell 9
  have q10 : W1.cell? ⟨w.heap.size, 10, none⟩ = some (.int .i64 a.vw.ov) := k1.cell 10
  have q11 : W1.cell? ⟨w.heap.size, 11, none⟩ = some (.int .i64 a.ow) := k1.cell 11
  have q12 : W1.cell? ⟨w.heap.size, 12, none⟩ = some (.int .i64 a.it) := k1.cell 12
  have q13 : W1.cell? ⟨w.heap.size, 13, none⟩ = some (.int .i64 a.tg) := k1.cell 13
  obtain ⟨W2, hW2⟩ : ∃ W, W = W1.alloc (.cells #[.int .i64 a.id, .int .i64 a.vw.size, .int .i64 a.obj, .int .i64 a.seq, .slice none 0 0, .bool a.vw.on, .bool a.vw.good, .slice a.vw.M a.vw.row.length a.vw.cm, .string (strOf a.vw.par), .int .i64 a.vw.ps, .int .i64 a.vw.ov, .int .i64 a.ow, .int .i64 a.it, .int .i64 a.tg] 29) := ⟨_, rfl⟩
  have h2 : Below w.heap.size w W2 ∧ W2.heap.size = w.heap.size + 3 ∧ Blk W2 w.heap.size 36 #[.int .i64 a.id, .int .i64 a.vw.size, .int .i64 a.obj, .int .i64 a.seq, .slice a.S a.sn.length a.cs', .bool a.vw.on, .bool a.vw.good, .slice a.vw.M a.vw.row.length a.vw.cm, .string (strOf a.vw.par), .int .i64 a.vw.ps, .int .i64 a.vw.ov, .int .i64 a.ow, .int .i64 a.it, .int .i64 a.tg] ∧ Blk W2 (w.heap.size + 1) 29 #[.int .i64 0, .int .i64 0, .int .i64 0, .int .i64 0, .slice none 0 0, .bool false, .bool false, .slice none 0 0, .string ⟨#[]⟩, .int .i64 0, .int .i64 0, .int .i64 0, .int .i64 0, .int .i64 0] ∧ Blk W2 (w.heap.size + 2) 29 #[.int .i64 a.id, .int .i64 a.vw.size, .int .i64 a.obj, .int .i64 a.seq, .slice none 0 0, .bool a.vw.on, .bool a.vw.good, .slice a.vw.M a.vw.row.length a.vw.cm, .string (strOf a.vw.par), .int .i64 a.vw.ps, .int .i64 a.vw.ov, .int .i64 a.ow, .int .i64 a.it, .int .i64 a.tg] := by
    rw [hW2]
    exact ⟨b1.alloc b1.size _, by simp [z1], k1.alloc _, r1.alloc _, by have := Blk.new W1 29 #[.int .i64 a.id, .int .i64 a.vw.size, .int .i64 a.obj, .int .i64 a.seq, .slice none 0 0, .bool a.vw.on, .bool a.vw.good, .slice a.vw.M a.vw.row.length a.vw.cm, .string (strOf a.vw.par), .int .i64 a.vw.ps, .int .i64 a.vw.ov, .int .i64 a.ow, .int .i64 a.it, .int .i64 a.tg]; rwa [z1] at this⟩
  have HW2 := Lib.hid hW2
  have H2 := Lib.hid h2
  clear b1 k1 r1 hW2 h2 H1
  go_upto_region 2 with (fail)
  try rw [z1]
  rw [← HW2.out]
  clear HW2 z1 q0 q1 q2 q3 q5 q6 q7 q8 q9 q10 q11 q12 q13
  have q4 : W2.cell? ⟨w.heap.size, 4, none⟩ = some (.slice a.S a.sn.length a.cs') := H2.out.2.2.1.cell 4
  go_wp2
  clear q4
  go_loopw [33] (fun i wr => ∃ (k : Nat) (A : Option Addr) (c : Nat), k ≤ a.sn.length ∧ i = .int .i64 k ∧ Blk wr w.heap.size 36 #[.int .i64 a.id, .int .i64 a.vw.size, .int .i64 a.obj, .int .i64 a.seq, .slice a.S a.sn.length a.cs', .bool a.vw.on, .bool a.vw.good, .slice a.vw.M a.vw.row.length a.vw.cm, .string (strOf a.vw.par), .int .i64 a.vw.ps, .int .i64 a.vw.ov, .int .i64 a.ow, .int .i64 a.it, .int .i64 a.tg] ∧ Blk wr (w.heap.size + 1) 29 #[.int .i64 0, .int .i64 0, .int .i64 0, .int .i64 0, .slice none 0 0, .bool false, .bool false, .slice none 0 0, .string ⟨#[]⟩, .int .i64 0, .int .i64 0, .int .i64 0, .int .i64 0, .int .i64 0] ∧ Blk wr (w.heap.size + 2) 29 #[.int .i64 a.id, .int .i64 a.vw.size, .int .i64 a.obj, .int .i64 a.seq, .slice A k c, .bool a.vw.on, .bool a.vw.good, .slice a.vw.M a.vw.row.length a.vw.cm, .string (strOf a.vw.par), .int .i64 a.vw.ps, .int .i64 a.vw.ov, .int .i64 a.ow, .int .i64 a.it, .int .i64 a.tg] ∧ wr.ownsRow (w.heap.size + 3) 74 11 (.slice A k c) k ((a.sn.take k).flatMap SA.dcells) ∧ Below w.heap.size w wr ∧ w.heap.size + 3 ≤ wr.heap.size) (fun i _ => a.sn.length - (intOf i).toNat)
  case atStart =>
    obtain ⟨b2, z2, k2, r2, o2⟩ := H2.out
    exact ⟨0, none, 0, by omega, rfl, k2, r2, o2, World.ownsRow_nil _ _ _ 11, b2, by omega⟩
  case round =>
    obtain ⟨k, A, c, hk, rfl, hk0, hk1, hk2, hrow, hb, hsz⟩ := hrel
    have HK0 := Lib.hid hk0
    have HK1 := Lib.hid hk1
    have HK2 := Lib.hid hk2
    have HRW := Lib.hid hrow
    have HB := Lib.hid hb
    by_cases hlt : k < a.sn.length
    · have dl : decide ((k : Int) < (a.sn.length : Int)) = true := decide_eq_true (by omega)
      obtain ⟨s, hs⟩ : ∃ s, a.sn[k]? = some s := ⟨_, List.getElem?_eq_getElem hlt⟩
      have hwk : IntKind.i64.wrap ((k : Int) + 1) = (k : Int) + 1 := by rw [IntKind.wrap_i64]; omega
      have hR1 := HR.out.since hb
      obtain ⟨ad, had, -, hc⟩ := snap_at SA.cells_len hR1.row hs
      obtain ⟨W5, hW5⟩ : ∃ W, W = wr.alloc (.cells s.cells.toArray 66) := ⟨_, rfl⟩
      have hb5 : Below wr.heap.size wr W5 := by rw [hW5]; exact below_alloc wr _
      have hk5 : Blk W5 wr.heap.size 66 #[.int .i64 s.num, .int .i64 s.vw.size, .string (strOf s.name), .bool s.vw.on, .bool s.vw.good, .bool s.prot, .slice s.vw.M s.vw.row.length s.vw.cm, .string (strOf s.vw.par), .int .i64 s.vw.ps, .int .i64 s.vw.ov, .slice s.C s.ch.length s.cc] := by rw [hW5]; exact Blk.new wr _ _
      have HW5 := Lib.hid hW5
      have HB5 := Lib.hid hb5
      have HK5 := Lib.hid hk5
      have HSK := Lib.hid hs
      have HAD := Lib.hid had
      have HSM := Lib.hid (HS.out.sn s (List.mem_of_getElem? hs))
      generalize a.S = sS at *
      subst had
      clear hs hR1 hW5 hb5 hk5 hk0 hk1 hk2 hrow hb
      go_upto_region 5 with (have _h := hc; refine wpList_loadp rfl 66 (.tmp 35) rfl _ [.int .i64 s.num, .int .i64 s.vw.size, .string (strOf s.name), .bool s.vw.on, .bool s.vw.good, .bool s.prot, .slice s.vw.M s.vw.row.length s.vw.cm, .string (strOf s.vw.par), .int .i64 s.vw.ps, .int .i64 s.vw.ov, .slice s.C s.ch.length s.cc] _ rfl hc Try.underlying66 rfl (by kernel_rfl) ?_; clear _h hc)
      unfold SA.cells at HW5
      rw [← HW5.out]
      have HK25 : Blk W5 (w.heap.size + 2) 29 #[.int .i64 a.id, .int .i64 a.vw.size, .int .i64 a.obj, .int .i64 a.seq, .slice A k c, .bool a.vw.on, .bool a.vw.good, .slice a.vw.M a.vw.row.length a.vw.cm, .string (strOf a.vw.par), .int .i64 a.vw.ps, .int .i64 a.vw.ov, .int .i64 a.ow, .int .i64 a.it, .int .i64 a.tg] := HK2.out.of (HB5.out.block _ HK2.out.lt)
      have q4 : W5.cell? ⟨w.heap.size + 2, 4, none⟩ = some (.slice A k c) := HK25.cell 4
      have x0 : W5.cell? ⟨wr.heap.size, 0, none⟩ = some (.int .i64 s.num) := HK5.out.cell 0
      have x1 : W5.cell? ⟨wr.heap.size, 1, none⟩ = some (.int .i64 s.vw.size) := HK5.out.cell 1
      have x2 : W5.cell? ⟨wr.heap.size, 2, none⟩ = some (.string (strOf s.name)) := HK5.out.cell 2
      have x3 : W5.cell? ⟨wr.heap.size, 3, none⟩ = some (.bool s.vw.on) := HK5.out.cell 3
      have x4 : W5.cell? ⟨wr.heap.size, 4, none⟩ = some (.bool s.vw.good) := HK5.out.cell 4
      have x5 : W5.cell? ⟨wr.heap.size, 5, none⟩ = some (.bool s.prot) := HK5.out.cell 5
      have x6 : W5.cell? ⟨wr.heap.size, 6, none⟩ = some (.slice s.vw.M s.vw.row.length s.vw.cm) := HK5.out.cell 6
      have x7 : W5.cell? ⟨wr.heap.size, 7, none⟩ = some (.string (strOf s.vw.par)) := HK5.out.cell 7
      have x8 : W5.cell? ⟨wr.heap.size, 8, none⟩ = some (.int .i64 s.vw.ps) := HK5.out.cell 8
      have x9 : W5.cell? ⟨wr.heap.size, 9, none⟩ = some (.int .i64 s.vw.ov) := HK5.out.cell 9
      have x10 : W5.cell? ⟨wr.heap.size, 10, none⟩ = some (.slice s.C s.ch.length s.cc) := HK5.out.cell 10
      have HRW5 : W5.ownsRow (w.heap.size + 3) 74 11 (.slice A k c) k ((a.sn.take k).flatMap SA.dcells) := own_below HRW.out HB5.out
      have HK := Lib.hid HK25
      have HW := Lib.hid HRW5
      clear HK25 HRW5 HW5
      obtain ⟨i2, hi2, hv0, hv1, hv2⟩ := info_parts dsnap_info
      go_wp2_with (first
        | (refine wpList_append_any _ rfl (.tmp 38) (.tmp 59) 22 rfl (w.heap.size + 3) 74 i2 _ 11 128 Try.underlying22 hi2 hv0 hv1 hv2 rfl (by omega) (.slice A k c) k ((a.sn.take k).flatMap SA.dcells) rfl (own_below HW.out (below_alloc W5 (.cells #[.int .i64 s.num, .int .i64 s.vw.size, .string (strOf s.name), .bool s.prot, .bool s.vw.on, .bool s.vw.good, .slice s.vw.M s.vw.row.length s.vw.cm, .string (strOf s.vw.par), .int .i64 s.vw.ps, .int .i64 s.vw.ov, .slice s.C s.ch.length s.cc] 74))) (W5.heap.size + 1) (some ⟨W5.heap.size, 0, none⟩) 1 1 s.dcells rfl (Reads.newN W5 s.dcells 1 11 74 (0, 0) rfl) (SA.dcells_one s) (by simp only [maxLen]; omega) (by omega) (by have := HB5.out.size; simp; omega) ?_; intro v7 W7 h7 g7 a7; obtain ⟨A7, c7, rfl⟩ := own_form h7)
        | (have _h := q4; refine wpList_setq rfl 22 (.tmp 61) (.tmp 60) rfl (w.heap.size + 2) 4 _ _ (.slice A7 (k + 1) c7) rfl rfl ((HK.out.alloc _).grown g7 (fun e => own_blk_ne HW.out HK.out (by decide) e.symm)) (by simp) (by kernel_rfl) rfl ?_; clear _h q4; intro W8 K8 o8 s8))
      have hr8 : W8.ownsRow (w.heap.size + 3) 74 11 (.slice A7 (k + 1) c7) (k + 1) ((a.sn.take k).flatMap SA.dcells ++ s.dcells) := row_of h7 fun j hj => o8.block j (row_under h7 j hj) (fun hm => by simp at hm; have := (World.ownsRow.lt h7 j (mem_rowOf.1 hj)).1; omega)
      have e8 : (a.sn.take (k + 1)).flatMap SA.dcells = (a.sn.take k).flatMap SA.dcells ++ s.dcells := by rw [List.take_add_one, HSK.out, List.flatMap_append]; simp
      have hb7 : Below w.heap.size w W7 := ((HB.out.trans (HB5.out.mono HB.out.size)).alloc (Nat.le_trans HB.out.size HB5.out.size) _).grown g7 (by have := HB.out.size; have := HB5.out.size; simp; omega) (fun j hj => by have := (World.ownsRow.lt HW.out j hj).1; omega)
      have hb8 : Below w.heap.size w W8 := hb7.trans (o8.below (fun x hx => by simp at hx; omega) hb7.size)
      have hs8 : w.heap.size + 3 ≤ W8.heap.size := by have := g7.size; simp at this; have := HB5.out.size; omega
      exact ⟨⟨k + 1, A7, c7, by omega, by go_num, ((((HK0.out.of (HB5.out.block _ HK0.out.lt)).alloc _).grown g7 (fun e => own_blk_ne HW.out (HK0.out.of (HB5.out.block _ HK0.out.lt)) (by decide) e.symm)).only o8 (by simp)), ((((HK1.out.of (HB5.out.block _ HK1.out.lt)).alloc _).grown g7 (fun e => own_blk_ne HW.out (HK1.out.of (HB5.out.block _ HK1.out.lt)) (by decide) e.symm)).only o8 (by simp)), K8, by rw [e8]; exact hr8, hb8, hs8⟩, by simp only [intOf]; omega⟩
    · obtain rfl : k = a.sn.length := by omega
      have dl : decide ((a.sn.length : Int) < (a.sn.length : Int)) = false := decide_eq_false (by omega)
      have q4 : wr.cell? ⟨w.heap.size, 4, none⟩ = some (.slice a.S a.sn.length a.cs') := hk0.cell 4
      have x0 : wr.cell? ⟨w.heap.size + 2, 0, none⟩ = some (.int .i64 a.id) := hk2.cell 0
      have x1 : wr.cell? ⟨w.heap.size + 2, 1, none⟩ = some (.int .i64 a.vw.size) := hk2.cell 1
      have x2 : wr.cell? ⟨w.heap.size + 2, 2, none⟩ = some (.int .i64 a.obj) := hk2.cell 2
      have x3 : wr.cell? ⟨w.heap.size + 2, 3, none⟩ = some (.int .i64 a.seq) := hk2.cell 3
      have x4 : wr.cell? ⟨w.heap.size + 2, 4, none⟩ = some (.slice A a.sn.length c) := hk2.cell 4
      have x5 : wr.cell? ⟨w.heap.size + 2, 5, none⟩ = some (.bool a.vw.on) := hk2.cell 5
      have x6 : wr.cell? ⟨w.heap.size + 2, 6, none⟩ = some (.bool a.vw.good) := hk2.cell 6
      have x7 : wr.cell? ⟨w.heap.size + 2, 7, none⟩ = some (.slice a.vw.M a.vw.row.length a.vw.cm) := hk2.cell 7
      have x8 : wr.cell? ⟨w.heap.size + 2, 8, none⟩ = some (.string (strOf a.vw.par)) := hk2.cell 8
      have x9 : wr.cell? ⟨w.heap.size + 2, 9, none⟩ = some (.int .i64 a.vw.ps) := hk2.cell 9
      have x10 : wr.cell? ⟨w.heap.size + 2, 10, none⟩ = some (.int .i64 a.vw.ov) := hk2.cell 10
      have x11 : wr.cell? ⟨w.heap.size + 2, 11, none⟩ = some (.int .i64 a.ow) := hk2.cell 11
      have x12 : wr.cell? ⟨w.heap.size + 2, 12, none⟩ = some (.int .i64 a.it) := hk2.cell 12
      have x13 : wr.cell? ⟨w.heap.size + 2, 13, none⟩ = some (.int .i64 a.tg) := hk2.cell 13
      have hk1' := hk1
      clear hk0 hk1 hk2 hrow hb
      go_wp2_with (have _h := hk1'; refine wpList_storeq rfl 29 (.tmp 2) (.tmp 63) rfl (w.heap.size + 1) _ [.int .i64 a.id, .int .i64 a.vw.size, .int .i64 a.obj, .int .i64 a.seq, .slice A a.sn.length c, .bool a.vw.on, .bool a.vw.good, .slice a.vw.M a.vw.row.length a.vw.cm, .string (strOf a.vw.par), .int .i64 a.vw.ps, .int .i64 a.vw.ov, .int .i64 a.ow, .int .i64 a.it, .int .i64 a.tg] rfl rfl hk1' rfl (by kernel_rfl) (one14 _ _ _ _ _ _ _ _ _ _ _ _ _ _ _ _ _ _) ?_; clear _h hk1' x0 x1 x2 x3 x4 x5 x6 x7 x8 x9 x10 x11 x12 x13 q4; intro w2 K2 o2 s2)
      refine bodyPost_ret (results_cell_row rfl _ _ (w.heap.size + 1) 29 _ (0, 0) _ rfl K2 Try.underlying29 rfl (by kernel_rfl)) rfl ?_
      have hb2 : Below w.heap.size w w2 := HB.out.trans (o2.below (fun x hx => by simp at hx; omega) HB.out.size)
      have hR2 := HR.out.since hb2
      have hr2 : w2.ownsRow (w.heap.size + 3) 74 11 (.slice A a.sn.length c) a.sn.length ((a.sn.take a.sn.length).flatMap SA.dcells) := row_of HRW.out fun j hj => o2.block j (row_under HRW.out j hj) (fun hm => by simp at hm; have := (World.ownsRow.lt HRW.out j (mem_rowOf.1 hj)).1; omega)
      rw [List.take_length] at hr2
      obtain ⟨-, c1, c2, -⟩ := own_shape hr2
      unfold maxLen at c2
      exact ⟨⟨a.id, a.obj, a.seq, A, c, a.sn, a.vw, a.ow, a.it, a.tg⟩, rfl, rfl, ⟨hR2.vw, Reads.of_own hr2, hR2.sn, hR2.id, hR2.obj, hR2.seq, hR2.ow, hR2.it, hR2.tg, hR2.l1, c1⟩, rfl, rfl, hb2⟩
end Go.Proofs.Ytgddenhnpjoabaa

/-
  A good head's snapshots: no number and no name stands twice. No condition.
-/
namespace Go.Proofs.Ytgddenhnpjoabaa
set_option linter.unusedSimpArgs false
set_option linter.unusedVariables false
theorem idx_found {α : Type} (p : α → Bool) : ∀ (l : List α) (k : Nat) (x : α), l[k]? = some x → p x = true → ∃ (j : Nat) (y : α), idxI p l = (j : Nat) ∧ j ≤ k ∧ l[j]? = some y ∧ p y = true
  | [], k, x, h, _ => by simp at h
  | y :: l, k, x, h, hp => by
    cases hy : p y with
    | true => exact ⟨0, y, by rw [idxI, if_pos hy]; rfl, by omega, rfl, hy⟩
    | false =>
      cases k with
      | zero => simp at h; subst h; rw [hp] at hy; cases hy
      | succ k =>
        obtain ⟨j, z, e, hj, hz, hpz⟩ := idx_found p l k x (by simpa using h) hp
        refine ⟨j + 1, z, ?_, by omega, by simpa using hz, hpz⟩
        rw [idxI, if_neg (by rw [hy]; simp), e, if_neg (by omega)]
        push_cast
        rfl
theorem snaps_low {obj seq : Int} : ∀ {last : Int} {l : List SnV}, snapsB obj seq last l = true → ∀ s ∈ l, last < s.num
  | last, [], _, s, h => by cases h
  | last, x :: r, h, s, hs => by
    simp only [snapsB, Bool.and_eq_true] at h
    have hx : last < x.num := by
      have := h.1
      simp only [snapB, Bool.and_eq_true, decide_eq_true_eq] at this
      exact this.1.1.1.1
    rcases List.mem_cons.1 hs with rfl | hs
    · exact hx
    · exact Int.lt_trans hx (snaps_low h.2 s hs)
theorem snaps_one {obj seq : Int} : ∀ {last : Int} {l : List SnV}, snapsB obj seq last l = true → ∀ {j k : Nat} {x y : SnV}, l[j]? = some x → l[k]? = some y → x.num = y.num → j = k
  | last, [], _, j, k, x, y, hj, _, _ => by simp at hj
  | last, z :: r, h, j, k, x, y, hj, hk, e => by
    simp only [snapsB, Bool.and_eq_true] at h
    cases j with
    | zero =>
      cases k with
      | zero => rfl
      | succ k =>
        simp at hj hk
        subst hj
        have := snaps_low h.2 y (List.mem_of_getElem? hk)
        omega
    | succ j =>
      cases k with
      | zero =>
        simp at hj hk
        subst hk
        have := snaps_low h.2 x (List.mem_of_getElem? hj)
        omega
      | succ k =>
        simp at hj hk
        rw [snaps_one h.2 hj hk e]
theorem good_sn {q : HA} (h : q.v.B = true) : snapsB q.obj q.seq 0 (q.sn.map SA.v) = true ∧ ((q.sn.map SA.v).map SnV.name).Nodup := by
  simp only [HdV.B, Bool.and_eq_true] at h
  have h5 : q.v.snB = true := h.1.1.1.2
  simp only [HdV.snB, Bool.and_eq_true, decide_eq_true_eq] at h5
  exact ⟨h5.1.2, h5.2⟩
theorem nums_one {q : HA} (h : q.v.B = true) {j k : Nat} {x y : SA} (hj : q.sn[j]? = some x) (hk : q.sn[k]? = some y) (e : x.num = y.num) : j = k :=
  snaps_one (good_sn h).1 (x := x.v) (y := y.v) (by rw [List.getElem?_map, hj]; rfl) (by rw [List.getElem?_map, hk]; rfl) e
theorem names_one {q : HA} (h : q.v.B = true) {j k : Nat} {x y : SA} (hj : q.sn[j]? = some x) (hk : q.sn[k]? = some y) (e : x.name = y.name) : j = k := by
  have hn := (good_sn h).2
  have e1 : ((q.sn.map SA.v).map SnV.name)[j]? = some x.name := by rw [List.getElem?_map, List.getElem?_map, hj]; rfl
  have e2 : ((q.sn.map SA.v).map SnV.name)[k]? = some y.name := by rw [List.getElem?_map, List.getElem?_map, hk]; rfl
  exact (List.getElem?_inj (List.getElem?_eq_some_iff.1 e1).1 hn).1 (by rw [e1, e2, e])
theorem objs_fit {x1 x2 n : Int} (h1 : x1 ≤ 1099511627776) (h2 : x2 ≤ 1048576) (h3 : 1 ≤ x1) (h4 : 1 ≤ x2) (hn : objsOf x1 x2 = n) :
    n * x2 < 1099514000000 ∧ x1 ≤ n * x2 ∧ (n - 1) * x2 < x1 ∧ 0 ≤ (n - 1) * x2 ∧ 1 ≤ n ∧ n ≤ 1099511627776 := by
  have he : objsOf x1 x2 = (x1 - 1) / x2 + 1 := by unfold objsOf; rw [if_neg (by omega)]
  rw [he] at hn
  have a := Int.mul_ediv_add_emod (x1 - 1) x2
  have b := Int.emod_nonneg (x1 - 1) (show x2 ≠ 0 by omega)
  have c := Int.emod_lt_of_pos (x1 - 1) (show 0 < x2 by omega)
  have d : 0 ≤ (x1 - 1) / x2 := Int.ediv_nonneg (by omega) (by omega)
  have d2 : (x1 - 1) / x2 ≤ x1 - 1 := Int.ediv_le_self _ (by omega)
  have e1 : n * x2 = x2 * ((x1 - 1) / x2) + x2 := by rw [← hn, Int.add_mul, Int.one_mul, Int.mul_comm]
  have e2 : (n - 1) * x2 = x2 * ((x1 - 1) / x2) := by rw [← hn, Int.add_sub_cancel, Int.mul_comm]
  have e3 : 0 ≤ x2 * ((x1 - 1) / x2) := Int.mul_nonneg (by omega) d
  generalize x2 * ((x1 - 1) / x2) = m at *
  generalize (x1 - 1) % x2 = r at *
  generalize (x1 - 1) / x2 = t at *
  refine ⟨by omega, by omega, by omega, by omega, by omega, by omega⟩
theorem run_str_neq (a : ByteArray) (w : World) : (binOp .neq 9 (.string a) (.string a)).run Try.prog w = .ok (.bool false) w := by
  have h : (binOp .neq 9 (.string a) (.string a)).run Try.prog w = .ok (.bool (!(a.toList == a.toList))) w := by kernel_rfl
  rw [h]
  simp
end Go.Proofs.Ytgddenhnpjoabaa

/-
  The document's Good of heads: what its tests tell, one by one.
-/
namespace Go.Proofs.Ytgddenhnpjoabaa
open Go.RowKit Go.BigFrame
set_option linter.unusedSimpArgs false
set_option linter.unusedVariables false
/-- a name is found at its own place just if none ahead of it is the same -/
theorem idx_self {α β : Type} [DecidableEq β] (nm : α → β) (l : List α) (k : Nat) (x : α) (hk : l[k]? = some x) :
    idxI (fun s => decide (nm s = nm x)) l = (k : Int) ↔ nm x ∉ (l.take k).map nm := by
  constructor
  · intro e hm
    obtain ⟨y, hy, hn⟩ := List.mem_map.1 hm
    obtain ⟨j, hj⟩ := List.getElem?_of_mem hy
    have hjk : j < k := by
      by_cases q : j < k
      · exact q
      · rw [List.getElem?_take, if_neg q] at hj
        simp at hj
    rw [List.getElem?_take, if_pos hjk] at hj
    obtain ⟨j2, z, e2, h2, -, -⟩ := idx_found (fun s => decide (nm s = nm x)) l j y hj (by simp [hn])
    omega
  · intro hm
    obtain ⟨j, z, e2, h2, hz, hp⟩ := idx_found (fun s => decide (nm s = nm x)) l k x hk (by simp)
    by_cases q : j = k
    · rw [e2, q]
    · exfalso
      apply hm
      refine List.mem_map.2 ⟨z, List.mem_of_getElem? (i := j) (by rw [List.getElem?_take, if_pos (by omega)]; exact hz), by simpa using hp⟩
theorem nodup_next {α β : Type} (nm : α → β) (l : List α) (k : Nat) (x : α) (hk : l[k]? = some x) (h : ((l.take k).map nm).Nodup) (hx : nm x ∉ (l.take k).map nm) : ((l.take (k + 1)).map nm).Nodup := by
  rw [List.take_add_one, hk, List.map_append]
  refine List.nodup_append.2 ⟨h, by simp, ?_⟩
  intro a ha b hb
  have : b = nm x := by simpa using hb
  intro e
  exact hx (by rw [← this, ← e]; exact ha)
theorem nodup_not {α β : Type} (nm : α → β) (l : List α) (k : Nat) (x : α) (hk : l[k]? = some x) (hx : nm x ∈ (l.take k).map nm) : ¬ (l.map nm).Nodup := by
  intro h
  have e : l = l.take (k + 1) ++ l.drop (k + 1) := (List.take_append_drop _ _).symm
  rw [e, List.map_append] at h
  have h2 := (List.nodup_append.1 h).1
  rw [List.take_add_one, hk, List.map_append] at h2
  exact (List.nodup_append.1 h2).2.2 (nm x) hx (nm x) (by simp) rfl
/-- the name ahead of the k-th -/
def prevS (l : List (List Nat)) : Nat → List Nat
  | 0 => []
  | k + 1 => (l[k]?).getD []
theorem ltS_nil {c : List Nat} (h : namedB c = true) : ltS [] c = true := by
  have hl := (named_len h).1
  cases c with
  | nil => simp at hl
  | cons x r =>
    have e1 : (strOf []).toList = [] := by rw [ByteArray.toList_eq, strOf_list]; rfl
    have e2 : (strOf (x :: r)).toList = UInt8.ofNat x :: r.map UInt8.ofNat := by rw [ByteArray.toList_eq, strOf_list]; rfl
    unfold ltS
    rw [e1, e2]
    rfl
theorem up_step {l : List (List Nat)} {k : Nat} {c : List Nat} (hk : l[k]? = some c) :
    upB (prevS l k) (l.drop k) = (namedB c && ltS (prevS l k) c && upB (prevS l (k + 1)) (l.drop (k + 1))) := by
  have hlt : k < l.length := (List.getElem?_eq_some_iff.1 hk).1
  rw [List.drop_eq_getElem_cons hlt, upB]
  have e : l[k] = c := (List.getElem?_eq_some_iff.1 hk).2
  rw [e]
  have e3 : prevS l (k + 1) = c := by rw [prevS, hk]; rfl
  rw [e3]
theorem up_end {l : List (List Nat)} : upB (prevS l l.length) (l.drop l.length) = true := by rw [List.drop_length]; rfl
/-- what the document's Good asks of a snapshot, but for its name's place -/
theorem snapB_view {obj seq last : Int} {s : SnV} : snapB obj seq last s = (decide (last < s.num) && decide (s.num ≤ seq) && namedB s.name && (decide (0 ≤ s.size) && decide (s.size ≤ 4096) && s.mx.B (objsOf s.size obj) && s.lk.B s.size) && (upB [] s.ch && (s.prot || s.ch.isEmpty))) := rfl
/-- the number ahead of the k-th snapshot -/
def prevN (l : List SnV) : Nat → Int
  | 0 => 0
  | k + 1 => ((l[k]?).map SnV.num).getD 0
theorem snaps_step {obj seq : Int} {l : List SnV} {k : Nat} {s : SnV} (hk : l[k]? = some s) :
    snapsB obj seq (prevN l k) (l.drop k) = (snapB obj seq (prevN l k) s && snapsB obj seq (prevN l (k + 1)) (l.drop (k + 1))) := by
  have hlt : k < l.length := (List.getElem?_eq_some_iff.1 hk).1
  rw [List.drop_eq_getElem_cons hlt, snapsB]
  have e : l[k] = s := (List.getElem?_eq_some_iff.1 hk).2
  rw [e]
  have e3 : prevN l (k + 1) = s.num := by rw [prevN, hk]; rfl
  rw [e3]
theorem snaps_end {obj seq : Int} {l : List SnV} : snapsB obj seq (prevN l l.length) (l.drop l.length) = true := by rw [List.drop_length]; rfl
theorem snap_no {obj seq : Int} {l : List SnV} {k : Nat} {s : SnV} (hk : l[k]? = some s) (h0 : snapsB obj seq 0 l = snapsB obj seq (prevN l k) (l.drop k)) (h : snapB obj seq (prevN l k) s = false) : snapsB obj seq 0 l = false := by
  rw [h0, snaps_step hk, h, Bool.false_and]
theorem snap_go {obj seq : Int} {l : List SnV} {k : Nat} {s : SnV} (hk : l[k]? = some s) (h0 : snapsB obj seq 0 l = snapsB obj seq (prevN l k) (l.drop k)) (h : snapB obj seq (prevN l k) s = true) : snapsB obj seq 0 l = snapsB obj seq (prevN l (k + 1)) (l.drop (k + 1)) := by
  rw [h0, snaps_step hk, h, Bool.true_and]
/-- the document's whole Good -/
theorem B_split (h : HdV) : h.B = (isObjB h.obj && (decide (0 ≤ h.id) && decide (0 ≤ h.seq) && decide (0 ≤ h.size) && decide (h.size ≤ 4096) && decide (h.sn.length ≤ 16) && decide (-1 ≤ h.ow) && decide (h.ow < 8) && decide (0 ≤ h.it) && decide (h.it ≤ 5)) && (h.mx.B (objsOf h.size h.obj) && h.lk.B h.size) && (snapsB h.obj h.seq 0 h.sn && decide (h.sn.map SnV.name).Nodup) && h.itB) := by
  have hit : h.itB = (decide (0 ≤ h.it) && decide (h.it ≤ 5) && h.itB) := by
    by_cases q : 0 ≤ h.it ∧ h.it ≤ 5
    · rw [decide_eq_true q.1, decide_eq_true q.2]; rfl
    · have : h.itB = false := by
        unfold HdV.itB
        rw [if_neg (by omega), if_neg (by omega), if_neg (by omega)]
      rw [this, Bool.and_false]
  have e : h.B = (decide (0 ≤ h.id) && decide (0 ≤ h.seq) && isObjB h.obj && (decide (0 ≤ h.size) && decide (h.size ≤ 4096) && h.mx.B (objsOf h.size h.obj) && h.lk.B h.size) && (decide (h.sn.length ≤ 16) && snapsB h.obj h.seq 0 h.sn && decide (h.sn.map SnV.name).Nodup) && decide (-1 ≤ h.ow) && decide (h.ow < 8) && h.itB) := rfl
  rw [e, hit]
  cases decide (0 ≤ h.id) <;> cases decide (0 ≤ h.seq) <;> cases isObjB h.obj <;> cases decide (0 ≤ h.size) <;> cases decide (h.size ≤ 4096) <;> simp [Bool.and_assoc, Bool.and_comm, Bool.and_left_comm]
/-- what the document's Good asks of the k-th snapshot -/
structure SnOk (obj seq : Int) (L : List SnV) (k : Nat) (s : SnV) : Prop where
  a : 1 ≤ s.num
  b : s.num ≤ seq
  c : 0 < k → prevN L k < s.num
  d : s.name ∉ (L.take k).map SnV.name
  e : namedB s.name = true
  f : 0 ≤ s.size
  g : s.size ≤ 4096
  h : s.mx.B (objsOf s.size obj) = true
  i : s.lk.B s.size = true
  j : s.prot = true ∨ s.ch = []
  k : upB [] s.ch = true
theorem sn_go {obj seq : Int} {L : List SnV} {k : Nat} {s : SnV} (hk : L[k]? = some s) (h0 : snapsB obj seq 0 L = snapsB obj seq (prevN L k) (L.drop k)) (hl : 0 ≤ prevN L k) (hn : ((L.take k).map SnV.name).Nodup) (q : SnOk obj seq L k s) :
    snapsB obj seq 0 L = snapsB obj seq (prevN L (k + 1)) (L.drop (k + 1)) ∧ 0 ≤ prevN L (k + 1) ∧ ((L.take (k + 1)).map SnV.name).Nodup := by
  have hlast : prevN L k < s.num := by
    cases k with
    | zero => have := q.a; show (0 : Int) < s.num; omega
    | succ m => exact q.c (by omega)
  have e3 : prevN L (k + 1) = s.num := by rw [prevN, hk]; rfl
  have hj : (s.prot || s.ch.isEmpty) = true := by
    rcases q.j with h | h
    · rw [h]; rfl
    · rw [h]; simp
  refine ⟨snap_go hk h0 ?_, by rw [e3]; have := q.a; omega, nodup_next SnV.name L k s hk hn q.d⟩
  rw [snapB_view, decide_eq_true hlast, decide_eq_true q.b, q.e, decide_eq_true q.f, decide_eq_true q.g, q.h, q.i, q.k, hj]
  rfl
theorem sn_no {obj seq : Int} {L : List SnV} {k : Nat} {s : SnV} (hk : L[k]? = some s) (h0 : snapsB obj seq 0 L = snapsB obj seq (prevN L k) (L.drop k)) (hl : 0 ≤ prevN L k) (q : ¬ SnOk obj seq L k s) :
    (snapsB obj seq 0 L && decide (L.map SnV.name).Nodup) = false := by
  by_cases hd : s.name ∈ (L.take k).map SnV.name
  · rw [decide_eq_false (nodup_not SnV.name L k s hk hd), Bool.and_false]
  · have hb : snapB obj seq (prevN L k) s = false := by
      rw [← Bool.not_eq_true]
      intro h
      rw [snapB_view] at h
      simp only [Bool.and_eq_true, decide_eq_true_eq, Bool.or_eq_true] at h
      obtain ⟨⟨⟨⟨h1, h2⟩, h3⟩, ⟨⟨h4, h5⟩, h6⟩, h7⟩, h8, h9⟩ := h
      exact q ⟨by omega, h2, fun _ => h1, hd, h3, h4, h5, h6, h7, h9.imp id List.isEmpty_iff.1, h8⟩
    rw [snap_no hk h0 hb, Bool.false_and]
/-- what it asks of the head's own numbers -/
structure HdNum (h : HdV) : Prop where
  n1 : 0 ≤ h.id
  n2 : 0 ≤ h.seq
  n3 : 0 ≤ h.size
  n4 : h.size ≤ 4096
  n5 : h.sn.length ≤ 16
  n6 : -1 ≤ h.ow
  n7 : h.ow < 8
  n8 : 0 ≤ h.it
  n9 : h.it ≤ 5
theorem hd_no {h : HdV} (q : isObjB h.obj = false ∨ ¬ HdNum h ∨ h.mx.B (objsOf h.size h.obj) = false ∨ h.lk.B h.size = false ∨ (snapsB h.obj h.seq 0 h.sn && decide (h.sn.map SnV.name).Nodup) = false ∨ h.itB = false) : h.B = false := by
  rw [← Bool.not_eq_true]
  intro hb
  rw [B_split] at hb
  simp only [Bool.and_eq_true, decide_eq_true_eq] at hb
  obtain ⟨⟨⟨⟨h1, h2⟩, h3, h4⟩, h5, h6⟩, h7⟩ := hb
  rcases q with q | q | q | q | q | q
  · rw [h1] at q; cases q
  · obtain ⟨⟨⟨⟨⟨⟨⟨⟨a, b⟩, c⟩, d⟩, e⟩, f⟩, g⟩, i⟩, j⟩ := h2
    exact q ⟨a, b, c, d, e, f, g, i, j⟩
  · rw [h3] at q; cases q
  · rw [h4] at q; cases q
  · rw [h5, decide_eq_true h6] at q; cases q
  · rw [h7] at q; cases q
theorem hd_yes {h : HdV} (h1 : isObjB h.obj = true) (h2 : HdNum h) (h3 : h.mx.B (objsOf h.size h.obj) = true) (h4 : h.lk.B h.size = true) (h5 : snapsB h.obj h.seq 0 h.sn = true) (h6 : (h.sn.map SnV.name).Nodup) : h.B = h.itB := by
  rw [B_split, h1, h3, h4, h5, decide_eq_true h6, decide_eq_true h2.n1, decide_eq_true h2.n2, decide_eq_true h2.n3, decide_eq_true h2.n4, decide_eq_true h2.n5, decide_eq_true h2.n6, decide_eq_true h2.n7, decide_eq_true h2.n8, decide_eq_true h2.n9]
  rfl
theorem run_str_geq (a b : ByteArray) (w : World) : (binOp .geq 9 (.string a) (.string b)).run Try.prog w = .ok (.bool (!(Op.bytesLess a.toList b.toList))) w := by kernel_rfl
end Go.Proofs.Ytgddenhnpjoabaa

/-
  The document's links as bytes. Conditions: the name reads as bytes, and is no more than a million.
-/
namespace Go.Proofs.Ytgddenhnpjoabaa
open Go.RowKit Go.BigFrame
set_option linter.unusedSimpArgs false
set_option linter.unusedVariables false
set_option maxRecDepth 100000
set_option maxHeartbeats 2000000 in
theorem dputlink_any (l : LkV) (w : World) (hb : ∀ b ∈ l.par, b < 256) (hl : l.par.length ≤ 1000000) : Calls Try.prog 56 #[.agg #[.string (strOf l.par), .int .i64 l.ps, .int .i64 l.ov]] w fun e w' => ∃ v, e = .returned v ∧ OwnB w w' v (putLk l) := by
  obtain ⟨W1, hW1⟩ : ∃ W, W = w.alloc (.cells #[.string (strOf l.par), .int .i64 l.ps, .int .i64 l.ov] 27) := ⟨_, rfl⟩
  have b1 : Below w.heap.size w W1 := by rw [hW1]; exact below_alloc w _
  have k1 : Blk W1 w.heap.size 27 #[.string (strOf l.par), .int .i64 l.ps, .int .i64 l.ov] := by rw [hW1]; exact Blk.new w _ _
  obtain ⟨cap, W2, hr, b2, hby⟩ := conv_str W1 l.par hb
  have k2 := k1.of (b2.block _ k1.lt)
  have HW1 := Lib.hid hW1
  have q0 : W1.cell? ⟨w.heap.size, 0, none⟩ = some (.string (strOf l.par)) := k1.cell 0
  have HB2 := Lib.hid (b1.trans (b2.mono b1.size))
  have HK2 := Lib.hid k2
  have HD := Lib.hid (dbytes_any (some ⟨W1.heap.size, 0, none⟩) l.par.length cap _ l.par W2 hby (by omega))
  clear hW1 b1 k1 b2 k2 hby hb
  go_enter Try.func56, Try.ntmps56
  go_upto_region 1 with (fail)
  rw [← HW1.out]
  clear HW1
  go_wp2_with fail
  refine HD.out.mono ?_
  rintro e w3 ⟨v, rfl, ho, b3⟩
  have k3 := HK2.out.of (b3.block _ HK2.out.lt)
  have q1 : w3.cell? ⟨w.heap.size, 1, none⟩ = some (.int .i64 l.ps) := k3.cell 1
  have HO3 := Lib.hid (ho.weaken (show w.heap.size ≤ _ from HB2.out.size))
  have HB3 := Lib.hid (HB2.out.trans (b3.mono HB2.out.size))
  have HK3 := Lib.hid k3
  have HN := Lib.hid (dnum_any l.ps w3)
  clear ho b3 k3 HD hr q0
  go_wp2_with fail
  refine HN.out.mono ?_
  rintro e w4 ⟨v4, rfl, h4, b4⟩
  obtain ⟨A4, c4, rfl, -, -, -⟩ := h4.form
  obtain ⟨A3, c3, rfl, -, -, -⟩ := HO3.out.form
  have HO4 := Lib.hid (Own.below HO3.out b4)
  have HB4 := Lib.hid (HB3.out.trans (b4.mono HB3.out.size))
  have HK4 := Lib.hid (HK3.out.of (b4.block _ HK3.out.lt))
  have hx4 := h4.bytes (numB_lt l.ps)
  clear b4 q1 HN
  go_wp2_with (refine app_bytes (.tmp 8) (.tmp 11) rfl rfl w.heap.size (.slice A3 (8 + l.par.length) c3) (8 + l.par.length) (numB l.par.length ++ l.par) rfl HO4.out _ A4 8 c4 (numB l.ps) rfl hx4 (by omega) HB4.out.size ?_; intro v5 w5 h5 g5 a5; have q2 : w5.cell? ⟨w.heap.size, 2, none⟩ = some (.int .i64 l.ov) := (HK4.out.grown g5 (fun e => own_blk_ne HO4.out HK4.out (by decide) e.symm)).cell 2)
  have HB5 := Lib.hid (below_own HB4.out HO4.out (Nat.le_refl _) g5 HB4.out.size)
  obtain ⟨A5, c5, rfl, -, -, -⟩ := h5.form
  have HO5 := Lib.hid h5
  clear h5 g5 a5 hx4
  refine (dnum_any l.ov w5).mono ?_
  rintro e w6 ⟨v6, rfl, h6, b6⟩
  obtain ⟨A6, c6, rfl, -, -, -⟩ := h6.form
  have HO6 := Lib.hid (Own.below HO5.out b6)
  have HB6 := Lib.hid (HB5.out.trans (b6.mono HB5.out.size))
  have hx6 := h6.bytes (numB_lt l.ov)
  clear b6 q2
  go_wp2_with (refine app_bytes (.tmp 13) (.tmp 16) rfl rfl w.heap.size (.slice A5 (8 + l.par.length + 8) c5) (8 + l.par.length + 8) (numB l.par.length ++ l.par ++ numB l.ps) rfl HO6.out _ A6 8 c6 (numB l.ov) rfl hx6 (by omega) HB6.out.size ?_; intro v7 w7 h7 g7 a7)
  go_ret
  refine ⟨v7, rfl, ?_, below_own HB6.out HO6.out (Nat.le_refl _) g7 HB6.out.size⟩
  have e : putLk l = numB l.par.length ++ l.par ++ numB l.ps ++ numB l.ov := by simp [putLk, txt]
  have e2 : (putLk l).length = 8 + l.par.length + 8 + 8 := by rw [e]; simp [numB_len]; omega
  rw [e2, e]
  exact h7
end Go.Proofs.Ytgddenhnpjoabaa

/-
  The document's marks as bytes. Conditions: they read as they are said to, and are good ones.
-/
namespace Go.Proofs.Ytgddenhnpjoabaa
open Go.RowKit Go.BigFrame
set_option linter.unusedSimpArgs false
set_option linter.unusedVariables false
set_option maxRecDepth 100000
def fN (f : Bool) : Nat := if f then 1 else 0
theorem fN_lt (f : Bool) : fN f < 256 := by cases f <;> decide
theorem dflagN_any (f : Bool) (w : World) : Calls Try.prog 57 #[.bool f] w fun e w' => e = .returned (.int .u8 ((fN f : Nat) : Int)) ∧ w = w' :=
  (dflag_any f w).mono fun e w' q => ⟨by rw [q.1]; cases f <;> rfl, q.2⟩
set_option maxHeartbeats 8000000 in
theorem dputmarks_any (m : MkV) (M : Option Addr) (cm : Nat) (w : World) (hr : Bytes w w.heap.size M m.row.length m.row) (hg : Good m.row) : Calls Try.prog 55 #[.agg #[.bool m.on, .bool m.good, .slice M m.row.length cm]] w fun e w' => ∃ v, e = .returned v ∧ OwnB w w' v (putMk m) := by
  obtain ⟨W1, hW1⟩ : ∃ W, W = w.alloc (.cells #[.bool m.on, .bool m.good, .slice M m.row.length cm] 25) := ⟨_, rfl⟩
  have b1 : Below w.heap.size w W1 := by rw [hW1]; exact below_alloc w _
  have k1 : Blk W1 w.heap.size 25 #[.bool m.on, .bool m.good, .slice M m.row.length cm] := by rw [hW1]; exact Blk.new w _ _
  have HW1 := Lib.hid hW1
  have HR : Hid (∀ W, Below w.heap.size w W → Bytes W W.heap.size M m.row.length m.row) := Lib.hid fun W hW => (hr.since hW).more hW.size
  have HG := Lib.hid hg
  have hS : Blk (World.drew W1) w.heap.size 25 #[.bool m.on, .bool m.good, .slice M m.row.length cm] ∧ Below w.heap.size w (World.drew W1) := ⟨k1, b1.drew⟩
  have hpl : (putM m.row).length ≤ 1000 := by rw [putM_len]; have := hg.1; omega
  obtain ⟨n1, h1⟩ : ∃ n1, n1 = fN m.on := ⟨_, rfl⟩
  obtain ⟨n2, h2⟩ : ∃ n2, n2 = fN m.good := ⟨_, rfl⟩
  have HF1 : Hid (∀ W, Calls Try.prog 57 #[.bool m.on] W fun e w' => e = .returned (.int .u8 (n1 : Int)) ∧ W = w') := Lib.hid fun W => by rw [h1]; exact dflagN_any m.on W
  have HF2 : Hid (∀ W, Calls Try.prog 57 #[.bool m.good] W fun e w' => e = .returned (.int .u8 (n2 : Int)) ∧ W = w') := Lib.hid fun W => by rw [h2]; exact dflagN_any m.good W
  have HE : Hid (putMk m = [n1, n2] ++ (numB (putM m.row).length ++ putM m.row)) := Lib.hid (by rw [h1, h2]; rfl)
  have HLT : Hid (n1 < 256 ∧ n2 < 256) := Lib.hid ⟨by rw [h1]; exact fN_lt _, by rw [h2]; exact fN_lt _⟩
  obtain ⟨pm, hpm⟩ : ∃ pm, pm = putM m.row := ⟨_, rfl⟩
  have HPM : Hid (∀ W, Below w.heap.size w W → Calls Try.prog 102 #[.slice M m.row.length cm] W fun e w' => ∃ v, e = .returned v ∧ OwnB W w' v pm) := Lib.hid fun W hW => by rw [hpm]; exact dput_any M m.row.length cm m.row W (HR.out W hW) hg
  have HPL : Hid (∀ b ∈ pm, b < 256) := Lib.hid (by rw [hpm]; exact putM_lt hg)
  rw [← hpm] at HE hpl
  clear hW1 b1 k1 hr hg h1 h2 hpm
  go_enter Try.func55, Try.ntmps55
  go_upto_region 1 with (fail)
  rw [← HW1.out]
  clear HW1
  refine any_beginL (fun W => Blk W w.heap.size 25 #[.bool m.on, .bool m.good, .slice M m.row.length cm] ∧ Below w.heap.size w W) 99 (by kernel_rfl) ?_
  refine S_take (i := 0) (v := .pointer (some ⟨w.heap.size, 0, none⟩)) rfl rfl (by kernel_rfl) (by kernel_rfl) (by kernel_rfl) (fun _ _ _ h => h) (Or.inl ⟨by rfl, fun W hw => by go_simp⟩) hS ?_
  simp only [Act.put, List.getElem_toArray, List.getElem_cons_succ, List.getElem_cons_zero, List.setIfInBounds_toArray, List.set_cons_zero, List.set_cons_succ]
  refine S_take (i := 1) (v := .bool m.on) rfl rfl (by kernel_rfl) (by kernel_rfl) (by kernel_rfl) (fun _ _ _ h => h) (Or.inl ⟨by rfl, fun W hw => by have k : W.cell? ⟨w.heap.size, 0, none⟩ = some (.bool m.on) := hw.1.cell 0; go_simp⟩) hS ?_
  simp only [Act.put, List.getElem_toArray, List.getElem_cons_succ, List.getElem_cons_zero, List.setIfInBounds_toArray, List.set_cons_zero, List.set_cons_succ]
  refine S_take (i := 3) (v := .pointer (some ⟨w.heap.size, 1, none⟩)) rfl rfl (by kernel_rfl) (by kernel_rfl) (by kernel_rfl) (fun _ _ _ h => h) (Or.inl ⟨by rfl, fun W hw => by go_simp⟩) hS ?_
  simp only [Act.put, List.getElem_toArray, List.getElem_cons_succ, List.getElem_cons_zero, List.setIfInBounds_toArray, List.set_cons_zero, List.set_cons_succ]
  refine S_take (i := 4) (v := .bool m.good) rfl rfl (by kernel_rfl) (by kernel_rfl) (by kernel_rfl) (fun _ _ _ h => h) (Or.inl ⟨by rfl, fun W hw => by have k : W.cell? ⟨w.heap.size, 1, none⟩ = some (.bool m.good) := hw.1.cell 1; go_simp⟩) hS ?_
  simp only [Act.put, List.getElem_toArray, List.getElem_cons_succ, List.getElem_cons_zero, List.setIfInBounds_toArray, List.set_cons_zero, List.set_cons_succ]
  refine S_take (i := 7) (v := .pointer (some ⟨w.heap.size, 2, none⟩)) rfl rfl (by kernel_rfl) (by kernel_rfl) (by kernel_rfl) (fun _ _ _ h => h) (Or.inl ⟨by rfl, fun W hw => by go_simp⟩) hS ?_
  simp only [Act.put, List.getElem_toArray, List.getElem_cons_succ, List.getElem_cons_zero, List.setIfInBounds_toArray, List.set_cons_zero, List.set_cons_succ]
  refine S_take (i := 8) (v := .slice M m.row.length cm) rfl rfl (by kernel_rfl) (by kernel_rfl) (by kernel_rfl) (fun _ _ _ h => h) (Or.inl ⟨by rfl, fun W hw => by have k : W.cell? ⟨w.heap.size, 2, none⟩ = some (.slice M m.row.length cm) := hw.1.cell 2; go_simp⟩) hS ?_
  simp only [Act.put, List.getElem_toArray, List.getElem_cons_succ, List.getElem_cons_zero, List.setIfInBounds_toArray, List.set_cons_zero, List.set_cons_succ]
  refine L_one (j := 2) (by kernel_rfl) rfl (by rfl) ?_
  simp only [Act.put, List.getElem_toArray, List.getElem_cons_succ, List.getElem_cons_zero, List.setIfInBounds_toArray, List.set_cons_zero, List.set_cons_succ]
  refine wp_called (by go_simp) (HF1.out _) ?_
  rintro e W ⟨rfl, rfl⟩
  refine ⟨_, rfl, hS, ?_⟩
  simp only [Act.put, List.getElem_toArray, List.getElem_cons_succ, List.getElem_cons_zero, List.setIfInBounds_toArray, List.set_cons_zero, List.set_cons_succ]
  refine L_one (j := 5) (by kernel_rfl) rfl (by rfl) ?_
  simp only [Act.put, List.getElem_toArray, List.getElem_cons_succ, List.getElem_cons_zero, List.setIfInBounds_toArray, List.set_cons_zero, List.set_cons_succ]
  refine wp_called (by go_simp) (HF2.out _) ?_
  rintro e W ⟨rfl, rfl⟩
  refine ⟨_, rfl, hS, ?_⟩
  simp only [Act.put, List.getElem_toArray, List.getElem_cons_succ, List.getElem_cons_zero, List.setIfInBounds_toArray, List.set_cons_zero, List.set_cons_succ]
  generalize World.drew W1 = W0 at *
  refine L_two (i := 6) (j := 9) (by kernel_rfl) rfl rfl (by rfl) (by rfl) ?_ ?_
  · skip
    simp only [Act.put, List.getElem_toArray, List.getElem_cons_succ, List.getElem_cons_zero, List.setIfInBounds_toArray, List.set_cons_zero, List.set_cons_succ]
    obtain ⟨X0, hW⟩ : ∃ W', W' = World.alloc W0 (.cells #[.int .u8 (n1 : Int), .int .u8 (n2 : Int)] 5) := ⟨_, rfl⟩
    have bx : Below (W0).heap.size W0 X0 := by rw [hW]; exact below_alloc _ _
    have c0 := And.intro (hS.1.of (bx.block _ hS.1.lt)) (hS.2.trans (bx.mono hS.2.size))
    have hE : Own X0 w.heap.size (.slice (some ⟨(W0).heap.size, 0, none⟩) 2 2) 2 [n1, n2] := by
      rw [hW]
      exact Own.of_blk (bs := [n1, n2]) (by have := Blk.new W0 5 (u8s [n1, n2]).toArray; simpa [u8s, u8] using this) rfl hS.2.size (by omega)
    refine wp_ran (v := .slice (some ⟨(W0).heap.size, 0, none⟩) 2 2) (w' := X0) (by rw [hW]; exact (by go_simp)) ⟨c0, ?_⟩
    simp only [Act.put, List.getElem_toArray, List.getElem_cons_succ, List.getElem_cons_zero, List.setIfInBounds_toArray, List.set_cons_zero, List.set_cons_succ]
    clear hW bx
    refine L_one (j := 9) (by kernel_rfl) rfl (by rfl) ?_
    simp only [Act.put, List.getElem_toArray, List.getElem_cons_succ, List.getElem_cons_zero, List.setIfInBounds_toArray, List.set_cons_zero, List.set_cons_succ]
    refine wp_called (by go_simp) (HPM.out _ c0.2) ?_
    rintro e X1 ⟨vP, rfl, hP, bx⟩
    have c1 := And.intro (c0.1.of (bx.block _ c0.1.lt)) (c0.2.trans (bx.mono c0.2.size))
    have hP := Own.weaken hP (show w.heap.size ≤ _ from c0.2.size)
    have hE := Own.below hE bx
    obtain ⟨AP, cP, rfl, -, -, -⟩ := hP.form
    clear bx
    refine ⟨_, rfl, c1, ?_⟩
    simp only [Act.put, List.getElem_toArray, List.getElem_cons_succ, List.getElem_cons_zero, List.setIfInBounds_toArray, List.set_cons_zero, List.set_cons_succ]
    refine L_one (j := 10) (by kernel_rfl) rfl (by rfl) ?_
    simp only [Act.put, List.getElem_toArray, List.getElem_cons_succ, List.getElem_cons_zero, List.setIfInBounds_toArray, List.set_cons_zero, List.set_cons_succ]
    refine wp_called (by go_simp) (dbytes_any AP pm.length cP _ pm X1 (hP.bytes HPL.out) (by omega)) ?_
    rintro e X2 ⟨vQ, rfl, hQ, bx⟩
    have c2 := And.intro (c1.1.of (bx.block _ c1.1.lt)) (c1.2.trans (bx.mono c1.2.size))
    have hQ := Own.weaken hQ (show w.heap.size ≤ _ from c1.2.size)
    have hE := Own.below hE bx
    obtain ⟨AQ, cQ, rfl, -, -, -⟩ := hQ.form
    clear bx
    refine ⟨_, rfl, c2, ?_⟩
    simp only [Act.put, List.getElem_toArray, List.getElem_cons_succ, List.getElem_cons_zero, List.setIfInBounds_toArray, List.set_cons_zero, List.set_cons_succ]
    refine L_one (j := 11) (by kernel_rfl) rfl (by rfl) ?_
    simp only [Act.put, List.getElem_toArray, List.getElem_cons_succ, List.getElem_cons_zero, List.setIfInBounds_toArray, List.set_cons_zero, List.set_cons_succ]
    obtain ⟨i0, hi0, hz0, hz1, hz2⟩ := info_parts byte_info
    refine wp_append_any _ (.tmp 9) (.tmp 13) 23 rfl w.heap.size 5 i0 _ 1 1 Try.underlying23 hi0 hz0 hz1 hz2 rfl (by omega) _ 2 (u8s [n1, n2]) rfl hE _ AQ (8 + pm.length) cQ (u8s (numB pm.length ++ pm)) rfl (hQ.bytes (fun b hb => (List.mem_append.1 hb).elim (numB_lt _ b) (HPL.out b))).1 (oneCell_u8s _) (by simp only [maxLen]; omega) (by omega) c2.2.size ?_
    intro v5 W5 h5 g5 a5
    have cS5 := And.intro (c2.1.grown g5 (fun e => own_blk_ne hE c2.1 (by decide) e.symm)) (c2.2.grown g5 c2.2.size (fun j hj => (World.ownsRow.lt hE j hj).1))
    refine ⟨cS5, ?_⟩
    simp only [Act.put, List.getElem_toArray, List.getElem_cons_succ, List.getElem_cons_zero, List.setIfInBounds_toArray, List.set_cons_zero, List.set_cons_succ]
    refine L_one (j := 12) (by kernel_rfl) rfl (by rfl) ?_
    simp only [Act.put, List.getElem_toArray, List.getElem_cons_succ, List.getElem_cons_zero, List.setIfInBounds_toArray, List.set_cons_zero, List.set_cons_succ]
    refine wp_ran (v := v5) (w' := W5) (by go_simp) ⟨cS5, ?_⟩
    simp only [Act.put, List.getElem_toArray, List.getElem_cons_succ, List.getElem_cons_zero, List.setIfInBounds_toArray, List.set_cons_zero, List.set_cons_succ]
    refine L_done (by kernel_rfl) ?_
    refine NoPanic.normal ?_
    go_wp2
    go_ret
    refine ⟨v5, rfl, ?_, cS5.2⟩
    rw [HE.out]
    have e2 : ([n1, n2] ++ (numB pm.length ++ pm)).length = 2 + (8 + pm.length) := by simp [numB_len]; omega
    rw [e2]
    have h6 := h5
    unfold Own
    simpa [u8s] using h6
  · skip
    simp only [Act.put, List.getElem_toArray, List.getElem_cons_succ, List.getElem_cons_zero, List.setIfInBounds_toArray, List.set_cons_zero, List.set_cons_succ]
    refine wp_called (by go_simp) (HPM.out _ hS.2) ?_
    rintro e X4 ⟨vP, rfl, hP, bx⟩
    have c4 := And.intro (hS.1.of (bx.block _ hS.1.lt)) (hS.2.trans (bx.mono hS.2.size))
    have hP := Own.weaken hP (show w.heap.size ≤ _ from hS.2.size)
    obtain ⟨AP, cP, rfl, -, -, -⟩ := hP.form
    clear bx
    refine ⟨_, rfl, c4, ?_⟩
    simp only [Act.put, List.getElem_toArray, List.getElem_cons_succ, List.getElem_cons_zero, List.setIfInBounds_toArray, List.set_cons_zero, List.set_cons_succ]
    refine L_two (i := 6) (j := 10) (by kernel_rfl) rfl rfl (by rfl) (by rfl) ?_ ?_
    · skip
      simp only [Act.put, List.getElem_toArray, List.getElem_cons_succ, List.getElem_cons_zero, List.setIfInBounds_toArray, List.set_cons_zero, List.set_cons_succ]
      obtain ⟨X5, hW⟩ : ∃ W', W' = World.alloc X4 (.cells #[.int .u8 (n1 : Int), .int .u8 (n2 : Int)] 5) := ⟨_, rfl⟩
      have bx : Below (X4).heap.size X4 X5 := by rw [hW]; exact below_alloc _ _
      have c5 := And.intro (c4.1.of (bx.block _ c4.1.lt)) (c4.2.trans (bx.mono c4.2.size))
      have hE : Own X5 w.heap.size (.slice (some ⟨(X4).heap.size, 0, none⟩) 2 2) 2 [n1, n2] := by
        rw [hW]
        exact Own.of_blk (bs := [n1, n2]) (by have := Blk.new X4 5 (u8s [n1, n2]).toArray; simpa [u8s, u8] using this) rfl c4.2.size (by omega)
      have hP := Own.below hP bx
      refine wp_ran (v := .slice (some ⟨(X4).heap.size, 0, none⟩) 2 2) (w' := X5) (by rw [hW]; exact (by go_simp)) ⟨c5, ?_⟩
      simp only [Act.put, List.getElem_toArray, List.getElem_cons_succ, List.getElem_cons_zero, List.setIfInBounds_toArray, List.set_cons_zero, List.set_cons_succ]
      clear hW bx
      refine L_one (j := 10) (by kernel_rfl) rfl (by rfl) ?_
      simp only [Act.put, List.getElem_toArray, List.getElem_cons_succ, List.getElem_cons_zero, List.setIfInBounds_toArray, List.set_cons_zero, List.set_cons_succ]
      refine wp_called (by go_simp) (dbytes_any AP pm.length cP _ pm X5 (hP.bytes HPL.out) (by omega)) ?_
      rintro e X6 ⟨vQ, rfl, hQ, bx⟩
      have c6 := And.intro (c5.1.of (bx.block _ c5.1.lt)) (c5.2.trans (bx.mono c5.2.size))
      have hQ := Own.weaken hQ (show w.heap.size ≤ _ from c5.2.size)
      have hE := Own.below hE bx
      obtain ⟨AQ, cQ, rfl, -, -, -⟩ := hQ.form
      clear bx
      refine ⟨_, rfl, c6, ?_⟩
      simp only [Act.put, List.getElem_toArray, List.getElem_cons_succ, List.getElem_cons_zero, List.setIfInBounds_toArray, List.set_cons_zero, List.set_cons_succ]
      refine L_one (j := 11) (by kernel_rfl) rfl (by rfl) ?_
      simp only [Act.put, List.getElem_toArray, List.getElem_cons_succ, List.getElem_cons_zero, List.setIfInBounds_toArray, List.set_cons_zero, List.set_cons_succ]
      obtain ⟨i0, hi0, hz0, hz1, hz2⟩ := info_parts byte_info
      refine wp_append_any _ (.tmp 9) (.tmp 13) 23 rfl w.heap.size 5 i0 _ 1 1 Try.underlying23 hi0 hz0 hz1 hz2 rfl (by omega) _ 2 (u8s [n1, n2]) rfl hE _ AQ (8 + pm.length) cQ (u8s (numB pm.length ++ pm)) rfl (hQ.bytes (fun b hb => (List.mem_append.1 hb).elim (numB_lt _ b) (HPL.out b))).1 (oneCell_u8s _) (by simp only [maxLen]; omega) (by omega) c6.2.size ?_
      intro v5 W5 h5 g5 a5
      have cS5 := And.intro (c6.1.grown g5 (fun e => own_blk_ne hE c6.1 (by decide) e.symm)) (c6.2.grown g5 c6.2.size (fun j hj => (World.ownsRow.lt hE j hj).1))
      refine ⟨cS5, ?_⟩
      simp only [Act.put, List.getElem_toArray, List.getElem_cons_succ, List.getElem_cons_zero, List.setIfInBounds_toArray, List.set_cons_zero, List.set_cons_succ]
      refine L_one (j := 12) (by kernel_rfl) rfl (by rfl) ?_
      simp only [Act.put, List.getElem_toArray, List.getElem_cons_succ, List.getElem_cons_zero, List.setIfInBounds_toArray, List.set_cons_zero, List.set_cons_succ]
      refine wp_ran (v := v5) (w' := W5) (by go_simp) ⟨cS5, ?_⟩
      simp only [Act.put, List.getElem_toArray, List.getElem_cons_succ, List.getElem_cons_zero, List.setIfInBounds_toArray, List.set_cons_zero, List.set_cons_succ]
      refine L_done (by kernel_rfl) ?_
      refine NoPanic.normal ?_
      go_wp2
      go_ret
      refine ⟨v5, rfl, ?_, cS5.2⟩
      rw [HE.out]
      have e2 : ([n1, n2] ++ (numB pm.length ++ pm)).length = 2 + (8 + pm.length) := by simp [numB_len]; omega
      rw [e2]
      have h6 := h5
      unfold Own
      simpa [u8s] using h6
    · skip
      simp only [Act.put, List.getElem_toArray, List.getElem_cons_succ, List.getElem_cons_zero, List.setIfInBounds_toArray, List.set_cons_zero, List.set_cons_succ]
      refine wp_called (by go_simp) (dbytes_any AP pm.length cP _ pm X4 (hP.bytes HPL.out) (by omega)) ?_
      rintro e X8 ⟨vQ, rfl, hQ, bx⟩
      have c8 := And.intro (c4.1.of (bx.block _ c4.1.lt)) (c4.2.trans (bx.mono c4.2.size))
      have hQ := Own.weaken hQ (show w.heap.size ≤ _ from c4.2.size)
      obtain ⟨AQ, cQ, rfl, -, -, -⟩ := hQ.form
      clear bx
      refine ⟨_, rfl, c8, ?_⟩
      simp only [Act.put, List.getElem_toArray, List.getElem_cons_succ, List.getElem_cons_zero, List.setIfInBounds_toArray, List.set_cons_zero, List.set_cons_succ]
      refine L_one (j := 6) (by kernel_rfl) rfl (by rfl) ?_
      simp only [Act.put, List.getElem_toArray, List.getElem_cons_succ, List.getElem_cons_zero, List.setIfInBounds_toArray, List.set_cons_zero, List.set_cons_succ]
      obtain ⟨X9, hW⟩ : ∃ W', W' = World.alloc X8 (.cells #[.int .u8 (n1 : Int), .int .u8 (n2 : Int)] 5) := ⟨_, rfl⟩
      have bx : Below (X8).heap.size X8 X9 := by rw [hW]; exact below_alloc _ _
      have c9 := And.intro (c8.1.of (bx.block _ c8.1.lt)) (c8.2.trans (bx.mono c8.2.size))
      have hE : Own X9 w.heap.size (.slice (some ⟨(X8).heap.size, 0, none⟩) 2 2) 2 [n1, n2] := by
        rw [hW]
        exact Own.of_blk (bs := [n1, n2]) (by have := Blk.new X8 5 (u8s [n1, n2]).toArray; simpa [u8s, u8] using this) rfl c8.2.size (by omega)
      have hQ := Own.below hQ bx
      refine wp_ran (v := .slice (some ⟨(X8).heap.size, 0, none⟩) 2 2) (w' := X9) (by rw [hW]; exact (by go_simp)) ⟨c9, ?_⟩
      simp only [Act.put, List.getElem_toArray, List.getElem_cons_succ, List.getElem_cons_zero, List.setIfInBounds_toArray, List.set_cons_zero, List.set_cons_succ]
      clear hW bx
      refine L_one (j := 11) (by kernel_rfl) rfl (by rfl) ?_
      simp only [Act.put, List.getElem_toArray, List.getElem_cons_succ, List.getElem_cons_zero, List.setIfInBounds_toArray, List.set_cons_zero, List.set_cons_succ]
      obtain ⟨i0, hi0, hz0, hz1, hz2⟩ := info_parts byte_info
      refine wp_append_any _ (.tmp 9) (.tmp 13) 23 rfl w.heap.size 5 i0 _ 1 1 Try.underlying23 hi0 hz0 hz1 hz2 rfl (by omega) _ 2 (u8s [n1, n2]) rfl hE _ AQ (8 + pm.length) cQ (u8s (numB pm.length ++ pm)) rfl (hQ.bytes (fun b hb => (List.mem_append.1 hb).elim (numB_lt _ b) (HPL.out b))).1 (oneCell_u8s _) (by simp only [maxLen]; omega) (by omega) c9.2.size ?_
      intro v5 W5 h5 g5 a5
      have cS5 := And.intro (c9.1.grown g5 (fun e => own_blk_ne hE c9.1 (by decide) e.symm)) (c9.2.grown g5 c9.2.size (fun j hj => (World.ownsRow.lt hE j hj).1))
      refine ⟨cS5, ?_⟩
      simp only [Act.put, List.getElem_toArray, List.getElem_cons_succ, List.getElem_cons_zero, List.setIfInBounds_toArray, List.set_cons_zero, List.set_cons_succ]
      refine L_one (j := 12) (by kernel_rfl) rfl (by rfl) ?_
      simp only [Act.put, List.getElem_toArray, List.getElem_cons_succ, List.getElem_cons_zero, List.setIfInBounds_toArray, List.set_cons_zero, List.set_cons_succ]
      refine wp_ran (v := v5) (w' := W5) (by go_simp) ⟨cS5, ?_⟩
      simp only [Act.put, List.getElem_toArray, List.getElem_cons_succ, List.getElem_cons_zero, List.setIfInBounds_toArray, List.set_cons_zero, List.set_cons_succ]
      refine L_done (by kernel_rfl) ?_
      refine NoPanic.normal ?_
      go_wp2
      go_ret
      refine ⟨v5, rfl, ?_, cS5.2⟩
      rw [HE.out]
      have e2 : ([n1, n2] ++ (numB pm.length ++ pm)).length = 2 + (8 + pm.length) := by simp [numB_len]; omega
      rw [e2]
      have h6 := h5
      unfold Own
      simpa [u8s] using h6
end Go.Proofs.Ytgddenhnpjoabaa

/-
  The document's text of a head. Conditions: the head reads as it is said to, its marks are good ones, its text is no more than a million bytes.
-/
namespace Go.Proofs.Ytgddenhnpjoabaa
open Go.RowKit Go.BigFrame
set_option linter.unusedSimpArgs false
set_option linter.unusedVariables false
set_option maxRecDepth 100000
/-- a text so far, what is still to be put, and blocks that stay -/
structure Pt (w : World) (T : List Nat) (bl : List (Nat × TypeId × Array Value)) (W : World) (v : Value) (rest : List Nat) : Prop where
  pu : ∃ acc, OwnB w W v acc ∧ acc ++ rest = T
  bl : ∀ x ∈ bl, Blk W x.1 x.2.1 x.2.2 ∧ x.2.1 ≠ 5
section
variable {w W W' : World} {T rest piece : List Nat} {bl bl' : List (Nat × TypeId × Array Value)} {v : Value}
theorem Pt.form (h : Pt w T bl W v rest) : ∃ A n c, v = .slice A n c := by
  obtain ⟨acc, h1, -⟩ := h.pu
  obtain ⟨A, c, e, -⟩ := h1.1.form
  exact ⟨A, _, c, e⟩
theorem Pt.below (h : Pt w T bl W v rest) (hb : Below W.heap.size W W') : Pt w T bl W' v rest := by
  obtain ⟨acc, h1, h2⟩ := h.pu
  exact ⟨⟨acc, ⟨Own.below h1.1 hb, h1.2.trans (hb.mono h1.2.size)⟩, h2⟩, fun x hx => ⟨(h.bl x hx).1.of (hb.block _ (h.bl x hx).1.lt), (h.bl x hx).2⟩⟩
theorem Pt.more (h : Pt w T bl W v rest) (hb : ∀ x ∈ bl', Blk W x.1 x.2.1 x.2.2 ∧ x.2.1 ≠ 5) : Pt w T bl' W v rest := ⟨h.pu, hb⟩
theorem Pt.sz (h : Pt w T bl W v rest) : Below w.heap.size w W := by
  obtain ⟨acc, h1, -⟩ := h.pu
  exact h1.2
theorem wpList_put {ops : Array Oper} {rs : List Oper} {o : Oper} {a : Act} {Q : Exit → Act → World → Prop} (s x : Operand) (hgd : o.guard = none) (ho : o.op = .call { callee := .builtin .append, args := #[s, x], argTypes := #[23, 23] })
    (hs : a.eval s = v) (H : Pt w T bl W v (piece ++ rest)) (hT : T.length ≤ 1000000) (B : Nat) (A : Option Addr) (m c : Nat) (hx : a.eval x = .slice A m c) (hr : Bytes W B A m piece)
    (h : ∀ v' W', Pt w T bl W' v' rest → wpList Try.prog ops Q rs (a.put o.dst v') W') : wpList Try.prog ops Q (o :: rs) a W := by
  obtain ⟨acc, h1, h2⟩ := H.pu
  have hm := hr.len
  have hl : acc.length + m ≤ 1000000 := by
    have := congrArg List.length h2
    simp only [List.length_append] at this
    omega
  refine app_bytes s x hgd ho w.heap.size v acc.length acc hs h1.1 B A m c piece hx hr (by omega) h1.2.size ?_
  intro v' W' h5 g5 a5
  refine h v' W' ⟨⟨acc ++ piece, ⟨by rw [List.length_append, hm]; exact h5, below_own h1.2 h1.1 (Nat.le_refl _) g5 h1.2.size⟩, by rw [List.append_assoc]; exact h2⟩, fun y hy => ⟨(H.bl y hy).1.grown g5 (fun e => own_blk_ne h1.1 (H.bl y hy).1 (Ne.symm (H.bl y hy).2) e.symm), (H.bl y hy).2⟩⟩
end
theorem putMk_lt {m : MkV} (h : Good m.row) : ∀ b ∈ putMk m, b < 256 := fun b hb => putVw_lt (l := ⟨[], 0, 0⟩) h (by simp) b (List.mem_append.2 (.inl hb))
theorem putLk_lt {l : LkV} (h : ∀ b ∈ l.par, b < 256) : ∀ b ∈ putLk l, b < 256 := fun b hb => putVw_lt (m := ⟨false, false, []⟩) (by decide) h b (List.mem_append.2 (.inr hb))
theorem putSn_app (s : SnV) (R : List Nat) : putSn s ++ R = numB s.num ++ (txt s.name ++ (numB s.size ++ (putMk s.mx ++ (putLk s.lk ++ (flagB s.prot ++ (numB s.ch.length ++ (s.ch.flatMap txt ++ R))))))) := by
  simp only [putSn, putVw, List.append_assoc]
theorem put_eq (h : HdV) : h.put = numB h.id ++ (numB h.size ++ (numB h.obj ++ (numB h.seq ++ (numB h.sn.length ++ (h.sn.flatMap putSn ++ (putMk h.mx ++ (putLk h.lk ++ (numB h.ow ++ (numB h.it ++ numB h.tg))))))))) := by
  simp only [HdV.put, putVw, List.append_assoc]
set_option maxHeartbeats 32000000 in
theorem dputhead_any (a : HA) (w : World) (hR : a.R SA.dcells w) (hg : Good a.vw.row) (hgs : ∀ s ∈ a.sn, Good s.vw.row) (hT : a.v.put.length ≤ 1000000) (hsm : a.Sm) : Calls Try.prog 19 #[.agg a.cs] w fun e w' => ∃ v, e = .returned v ∧ OwnB w w' v a.v.put := by
  obtain ⟨W1, hW1⟩ : ∃ W, W = w.alloc (.cells #[.int .i64 a.id, .int .i64 a.vw.size, .int .i64 a.obj, .int .i64 a.seq, .slice a.S a.sn.length a.cs', .bool a.vw.on, .bool a.vw.good, .slice a.vw.M a.vw.row.length a.vw.cm, .string (strOf a.vw.par), .int .i64 a.vw.ps, .int .i64 a.vw.ov, .int .i64 a.ow, .int .i64 a.it, .int .i64 a.tg] 29) := ⟨_, rfl⟩
  have b1 : Below w.heap.size w W1 := by rw [hW1]; exact below_alloc w _
  have k1 : Blk W1 w.heap.size 29 #[.int .i64 a.id, .int .i64 a.vw.size, .int .i64 a.obj, .int .i64 a.seq, .slice a.S a.sn.length a.cs', .bool a.vw.on, .bool a.vw.good, .slice a.vw.M a.vw.row.length a.vw.cm, .string (strOf a.vw.par), .int .i64 a.vw.ps, .int .i64 a.vw.ov, .int .i64 a.ow, .int .i64 a.it, .int .i64 a.tg] := by rw [hW1]; exact Blk.new w _ _
  have HW1 := Lib.hid hW1
  have HR := Lib.hid hR
  have HG := Lib.hid (And.intro hg hgs)
  have HSM := Lib.hid hsm
  have hcn := hsm.cn
  obtain ⟨T, hTe⟩ : ∃ T, T = a.v.put := ⟨_, rfl⟩
  rw [← hTe] at hT ⊢
  have hpe : T = numB a.id ++ (numB a.vw.size ++ (numB a.obj ++ (numB a.seq ++ (numB (a.sn.length : Nat) ++ ((a.sn.map SA.v).flatMap putSn ++ (putMk a.vw.mk' ++ (putLk a.vw.lk ++ (numB a.ow ++ (numB a.it ++ numB a.tg))))))))) := by
    rw [hTe, put_eq]
    simp [HA.v]
  have HTE := Lib.hid hpe
  obtain ⟨tl, htl⟩ : ∃ tl, tl = putMk a.vw.mk' ++ (putLk a.vw.lk ++ (numB a.ow ++ (numB a.it ++ numB a.tg))) := ⟨_, rfl⟩
  rw [← htl] at HTE
  have HTL := Lib.hid htl
  have HB1 := Lib.hid b1
  have HK1 := Lib.hid k1
  have q0 : W1.cell? ⟨w.heap.size, 0, none⟩ = some (.int .i64 a.id) := k1.cell 0
  clear hW1 b1 k1 hR hg hgs hTe hpe htl hsm
  unfold HA.cs
  go_enter Try.func19, Try.ntmps19
  go_upto_region 1 with (fail)
  rw [← HW1.out]
  clear HW1
  go_wp2_with fail
  refine (dnum_any a.id W1).mono ?_
  rintro e X0 ⟨v0, rfl, h0, b0⟩
  have P0 : Hid (Pt w T [(w.heap.size, 29, (#[.int .i64 a.id, .int .i64 a.vw.size, .int .i64 a.obj, .int .i64 a.seq, .slice a.S a.sn.length a.cs', .bool a.vw.on, .bool a.vw.good, .slice a.vw.M a.vw.row.length a.vw.cm, .string (strOf a.vw.par), .int .i64 a.vw.ps, .int .i64 a.vw.ov, .int .i64 a.ow, .int .i64 a.it, .int .i64 a.tg] : Array Value))] X0 v0 (numB a.vw.size ++ (numB a.obj ++ (numB a.seq ++ (numB (a.sn.length : Nat) ++ ((a.sn.map SA.v).flatMap putSn ++ tl)))))) := Lib.hid ⟨⟨numB a.id, ⟨by rw [numB_len]; exact Own.weaken h0 HB1.out.size, HB1.out.trans (b0.mono HB1.out.size)⟩, HTE.out.symm⟩, fun x hx => by simp at hx; subst hx; exact ⟨HK1.out.of (b0.block _ HK1.out.lt), by simp⟩⟩
  clear h0 b0 q0
  have q1 : X0.cell? ⟨w.heap.size, 1, none⟩ = some (.int .i64 a.vw.size) := (P0.out.bl (w.heap.size, 29, (#[.int .i64 a.id, .int .i64 a.vw.size, .int .i64 a.obj, .int .i64 a.seq, .slice a.S a.sn.length a.cs', .bool a.vw.on, .bool a.vw.good, .slice a.vw.M a.vw.row.length a.vw.cm, .string (strOf a.vw.par), .int .i64 a.vw.ps, .int .i64 a.vw.ov, .int .i64 a.ow, .int .i64 a.it, .int .i64 a.tg] : Array Value)) (by simp)).1.cell 1
  go_wp2_with fail
  refine (dnum_any (a.vw.size) X0).mono ?_
  rintro e Y1 ⟨u1, rfl, h1, b1⟩
  obtain ⟨D1, d1, rfl, -, -, -⟩ := h1.form
  have Q1 := Lib.hid (P0.out.below b1)
  have r1 := h1.bytes (numB_lt _)
  clear q1 h1 b1
  go_wp2_with (refine wpList_put (.tmp 10) (.tmp 13) rfl rfl rfl Q1.out hT _ D1 8 d1 rfl r1 ?_; clear r1; intro v1 X1 p1; have q2 : X1.cell? ⟨w.heap.size, 2, none⟩ = some (.int .i64 a.obj) := (p1.bl (w.heap.size, 29, (#[.int .i64 a.id, .int .i64 a.vw.size, .int .i64 a.obj, .int .i64 a.seq, .slice a.S a.sn.length a.cs', .bool a.vw.on, .bool a.vw.good, .slice a.vw.M a.vw.row.length a.vw.cm, .string (strOf a.vw.par), .int .i64 a.vw.ps, .int .i64 a.vw.ov, .int .i64 a.ow, .int .i64 a.it, .int .i64 a.tg] : Array Value)) (by simp)).1.cell 2; have P1 := Lib.hid p1; clear p1)
  go_wp2_with fail
  refine (dnum_any (a.obj) X1).mono ?_
  rintro e Y2 ⟨u2, rfl, h2, b2⟩
  obtain ⟨D2, d2, rfl, -, -, -⟩ := h2.form
  have Q2 := Lib.hid (P1.out.below b2)
  have r2 := h2.bytes (numB_lt _)
  clear q2 h2 b2
  go_wp2_with (refine wpList_put (.tmp 15) (.tmp 18) rfl rfl rfl Q2.out hT _ D2 8 d2 rfl r2 ?_; clear r2; intro v2 X2 p2; have q3 : X2.cell? ⟨w.heap.size, 3, none⟩ = some (.int .i64 a.seq) := (p2.bl (w.heap.size, 29, (#[.int .i64 a.id, .int .i64 a.vw.size, .int .i64 a.obj, .int .i64 a.seq, .slice a.S a.sn.length a.cs', .bool a.vw.on, .bool a.vw.good, .slice a.vw.M a.vw.row.length a.vw.cm, .string (strOf a.vw.par), .int .i64 a.vw.ps, .int .i64 a.vw.ov, .int .i64 a.ow, .int .i64 a.it, .int .i64 a.tg] : Array Value)) (by simp)).1.cell 3; have P2 := Lib.hid p2; clear p2)
  go_wp2_with fail
  refine (dnum_any (a.seq) X2).mono ?_
  rintro e Y3 ⟨u3, rfl, h3, b3⟩
  obtain ⟨D3, d3, rfl, -, -, -⟩ := h3.form
  have Q3 := Lib.hid (P2.out.below b3)
  have r3 := h3.bytes (numB_lt _)
  clear q3 h3 b3
  go_wp2_with (refine wpList_put (.tmp 20) (.tmp 23) rfl rfl rfl Q3.out hT _ D3 8 d3 rfl r3 ?_; clear r3; intro v3 X3 p3; have q4 : X3.cell? ⟨w.heap.size, 4, none⟩ = some (.slice a.S a.sn.length a.cs') := (p3.bl (w.heap.size, 29, (#[.int .i64 a.id, .int .i64 a.vw.size, .int .i64 a.obj, .int .i64 a.seq, .slice a.S a.sn.length a.cs', .bool a.vw.on, .bool a.vw.good, .slice a.vw.M a.vw.row.length a.vw.cm, .string (strOf a.vw.par), .int .i64 a.vw.ps, .int .i64 a.vw.ov, .int .i64 a.ow, .int .i64 a.it, .int .i64 a.tg] : Array Value)) (by simp)).1.cell 4; have P3 := Lib.hid p3; clear p3)
  go_wp2_with fail
  refine (dnum_any ((a.sn.length : Nat)) X3).mono ?_
  rintro e Y4 ⟨u4, rfl, h4, b4⟩
  obtain ⟨D4, d4, rfl, -, -, -⟩ := h4.form
  have Q4 := Lib.hid (P3.out.below b4)
  have r4 := h4.bytes (numB_lt _)
  clear q4 h4 b4
  go_wp2_with (refine wpList_put (.tmp 25) (.tmp 29) rfl rfl rfl Q4.out hT _ D4 8 d4 rfl r4 ?_; clear r4; intro v4 X4 p4; skip; have P4 := Lib.hid p4; clear p4)
  go_loopw [3, 4] (fun lv i wr => ∃ k : Nat, k ≤ a.sn.length ∧ i = .int .i64 k ∧ Pt w T [(w.heap.size, 29, (#[.int .i64 a.id, .int .i64 a.vw.size, .int .i64 a.obj, .int .i64 a.seq, .slice a.S a.sn.length a.cs', .bool a.vw.on, .bool a.vw.good, .slice a.vw.M a.vw.row.length a.vw.cm, .string (strOf a.vw.par), .int .i64 a.vw.ps, .int .i64 a.vw.ov, .int .i64 a.ow, .int .i64 a.it, .int .i64 a.tg] : Array Value))] wr lv (((a.sn.drop k).map SA.v).flatMap putSn ++ tl)) (fun _ i _ => a.sn.length - (intOf i).toNat)
  case atStart => exact ⟨0, by omega, rfl, by simpa using P4.out⟩
  case round =>
    obtain ⟨k, hk, rfl, hp⟩ := hrel
    obtain ⟨wo, hwo⟩ : ∃ wo, wo = wr := ⟨_, rfl⟩
    subst hwo
    obtain ⟨A10, n10, c10, rfl⟩ := hp.form
    have PL := Lib.hid hp
    have q4 : wo.cell? ⟨w.heap.size, 4, none⟩ = some (.slice a.S a.sn.length a.cs') := (hp.bl (w.heap.size, 29, (#[.int .i64 a.id, .int .i64 a.vw.size, .int .i64 a.obj, .int .i64 a.seq, .slice a.S a.sn.length a.cs', .bool a.vw.on, .bool a.vw.good, .slice a.vw.M a.vw.row.length a.vw.cm, .string (strOf a.vw.par), .int .i64 a.vw.ps, .int .i64 a.vw.ov, .int .i64 a.ow, .int .i64 a.it, .int .i64 a.tg] : Array Value)) (by simp)).1.cell 4
    by_cases hlt : k < a.sn.length
    · have dl : decide ((k : Int) < (a.sn.length : Int)) = true := decide_eq_true (by omega)
      have hwk : IntKind.i64.wrap ((k : Int) + 1) = (k : Int) + 1 := by rw [IntKind.wrap_i64]; omega
      obtain ⟨s, hs⟩ : ∃ s, a.sn[k]? = some s := ⟨_, List.getElem?_eq_getElem hlt⟩
      have hR1 := HR.out.since hp.sz
      obtain ⟨ad, had, -, hc⟩ := snap_at SA.dcells_len hR1.row hs
      have hd : a.sn.drop k = s :: a.sn.drop (k + 1) := by
        rw [List.drop_eq_getElem_cons hlt]
        congr 1
        rw [List.getElem?_eq_getElem hlt] at hs
        injection hs
      obtain ⟨R, hRe⟩ : ∃ R, R = ((a.sn.drop (k + 1)).map SA.v).flatMap putSn ++ tl := ⟨_, rfl⟩
      have hp2 : Pt w T [(w.heap.size, 29, (#[.int .i64 a.id, .int .i64 a.vw.size, .int .i64 a.obj, .int .i64 a.seq, .slice a.S a.sn.length a.cs', .bool a.vw.on, .bool a.vw.good, .slice a.vw.M a.vw.row.length a.vw.cm, .string (strOf a.vw.par), .int .i64 a.vw.ps, .int .i64 a.vw.ov, .int .i64 a.ow, .int .i64 a.it, .int .i64 a.tg] : Array Value))] wo (.slice A10 n10 c10) (numB s.num ++ (txt s.name ++ (numB s.vw.size ++ (putMk s.vw.mk' ++ (putLk s.vw.lk ++ (flagB s.prot ++ (numB (s.ch.length : Nat) ++ (s.ch.flatMap txt ++ R)))))))) := by
        have h9 := hp
        rw [hd, List.map_cons, List.flatMap_cons, List.append_assoc, ← hRe, putSn_app] at h9
        exact h9
      obtain ⟨W5, hW5⟩ : ∃ W, W = wo.alloc (.cells s.dcells.toArray 74) := ⟨_, rfl⟩
      obtain ⟨g3, hg3⟩ : ∃ g3, g3 = wo.heap.size := ⟨_, rfl⟩
      have hb5 : Below wo.heap.size wo W5 := by rw [hW5]; exact below_alloc wo _
      have hk5 : Blk W5 g3 74 #[.int .i64 s.num, .int .i64 s.vw.size, .string (strOf s.name), .bool s.prot, .bool s.vw.on, .bool s.vw.good, .slice s.vw.M s.vw.row.length s.vw.cm, .string (strOf s.vw.par), .int .i64 s.vw.ps, .int .i64 s.vw.ov, .slice s.C s.ch.length s.cc] := by rw [hW5, hg3]; exact Blk.new wo _ _
      have HP5 : Hid (Pt w T [(w.heap.size, 29, (#[.int .i64 a.id, .int .i64 a.vw.size, .int .i64 a.obj, .int .i64 a.seq, .slice a.S a.sn.length a.cs', .bool a.vw.on, .bool a.vw.good, .slice a.vw.M a.vw.row.length a.vw.cm, .string (strOf a.vw.par), .int .i64 a.vw.ps, .int .i64 a.vw.ov, .int .i64 a.ow, .int .i64 a.it, .int .i64 a.tg] : Array Value)), (g3, 74, (#[.int .i64 s.num, .int .i64 s.vw.size, .string (strOf s.name), .bool s.prot, .bool s.vw.on, .bool s.vw.good, .slice s.vw.M s.vw.row.length s.vw.cm, .string (strOf s.vw.par), .int .i64 s.vw.ps, .int .i64 s.vw.ov, .slice s.C s.ch.length s.cc] : Array Value))] W5 (.slice A10 n10 c10) (numB s.num ++ (txt s.name ++ (numB s.vw.size ++ (putMk s.vw.mk' ++ (putLk s.vw.lk ++ (flagB s.prot ++ (numB (s.ch.length : Nat) ++ (s.ch.flatMap txt ++ R))))))))) := Lib.hid ((hp2.below hb5).more (fun x hx => by
        simp only [List.mem_cons, List.not_mem_nil, or_false] at hx
        rcases hx with rfl | rfl
        · exact (hp2.below hb5).bl _ (by simp)
        · exact ⟨hk5, by simp⟩))
      have HW5 : Hid (W5 = wo.alloc (.cells #[.int .i64 s.num, .int .i64 s.vw.size, .string (strOf s.name), .bool s.prot, .bool s.vw.on, .bool s.vw.good, .slice s.vw.M s.vw.row.length s.vw.cm, .string (strOf s.vw.par), .int .i64 s.vw.ps, .int .i64 s.vw.ov, .slice s.C s.ch.length s.cc] 74) ∧ g3 = wo.heap.size) := Lib.hid ⟨by rw [hW5]; rfl, hg3⟩
      have HSR := Lib.hid (HR.out.sn s (List.mem_of_getElem? hs))
      have HSS := Lib.hid (HSM.out.sn s (List.mem_of_getElem? hs))
      have HSG := Lib.hid (HG.out.2 s (List.mem_of_getElem? hs))
      have HRE := Lib.hid hRe
      have HAD := Lib.hid had
      rw [had] at q4
      clear hs hR1 hd hRe hp hp2 hW5 hg3 hb5 hk5 had
      go_upto_region 10 with (have _h := hc; refine wpList_loadp rfl 74 (.tmp 41) rfl _ [.int .i64 s.num, .int .i64 s.vw.size, .string (strOf s.name), .bool s.prot, .bool s.vw.on, .bool s.vw.good, .slice s.vw.M s.vw.row.length s.vw.cm, .string (strOf s.vw.par), .int .i64 s.vw.ps, .int .i64 s.vw.ov, .slice s.C s.ch.length s.cc] _ rfl hc Try.underlying74 rfl (by kernel_rfl) ?_; clear _h hc)
      rw [← HW5.out.1, ← HW5.out.2]
      clear HW5 q4
      have q5 : W5.cell? ⟨g3, 0, none⟩ = some (.int .i64 s.num) := (HP5.out.bl (g3, 74, (#[.int .i64 s.num, .int .i64 s.vw.size, .string (strOf s.name), .bool s.prot, .bool s.vw.on, .bool s.vw.good, .slice s.vw.M s.vw.row.length s.vw.cm, .string (strOf s.vw.par), .int .i64 s.vw.ps, .int .i64 s.vw.ov, .slice s.C s.ch.length s.cc] : Array Value)) (by simp)).1.cell 0
      go_wp2_with fail
      refine (dnum_any (s.num) W5).mono ?_
      rintro e Y5 ⟨u5, rfl, h5, b5⟩
      obtain ⟨D5, d5, rfl, -, -, -⟩ := h5.form
      have Q5 := Lib.hid (HP5.out.below b5)
      have r5 := h5.bytes (numB_lt _)
      clear q5 h5 b5
      go_wp2_with (refine wpList_put (.tmp 43) (.tmp 46) rfl rfl rfl Q5.out hT _ D5 8 d5 rfl r5 ?_; clear r5; intro v5 X5 p5; have q6 : X5.cell? ⟨g3, 2, none⟩ = some (.string (strOf s.name)) := (p5.bl (g3, 74, (#[.int .i64 s.num, .int .i64 s.vw.size, .string (strOf s.name), .bool s.prot, .bool s.vw.on, .bool s.vw.good, .slice s.vw.M s.vw.row.length s.vw.cm, .string (strOf s.vw.par), .int .i64 s.vw.ps, .int .i64 s.vw.ov, .slice s.C s.ch.length s.cc] : Array Value)) (by simp)).1.cell 2; obtain ⟨k6, Z6, f6, t6, y6⟩ := conv_str X5 s.name (HSR.out.name); have T6 := Lib.hid (And.intro t6 y6); clear t6 y6; have P5 := Lib.hid p5; clear p5)
      go_wp2_with fail
      refine (dbytes_any (some ⟨X5.heap.size, 0, none⟩) s.name.length k6 _ s.name Z6 T6.out.2 (by have := HSS.out.name; omega)).mono ?_
      rintro e Y6 ⟨u6, rfl, h6, b6⟩
      obtain ⟨D6, d6, rfl, -, -, -⟩ := h6.form
      have Q6 := Lib.hid ((P5.out.below T6.out.1).below b6)
      have r6 := h6.bytes (txt_lt (HSR.out.name))
      clear q6 h6 b6 f6
      go_wp2_with (refine wpList_put (.tmp 48) (.tmp 52) rfl rfl rfl Q6.out hT _ D6 (8 + s.name.length) d6 rfl r6 ?_; clear r6; intro v6 X6 p6; have q7 : X6.cell? ⟨g3, 1, none⟩ = some (.int .i64 s.vw.size) := (p6.bl (g3, 74, (#[.int .i64 s.num, .int .i64 s.vw.size, .string (strOf s.name), .bool s.prot, .bool s.vw.on, .bool s.vw.good, .slice s.vw.M s.vw.row.length s.vw.cm, .string (strOf s.vw.par), .int .i64 s.vw.ps, .int .i64 s.vw.ov, .slice s.C s.ch.length s.cc] : Array Value)) (by simp)).1.cell 1; have P6 := Lib.hid p6; clear p6)
      go_wp2_with fail
      refine (dnum_any (s.vw.size) X6).mono ?_
      rintro e Y7 ⟨u7, rfl, h7, b7⟩
      obtain ⟨D7, d7, rfl, -, -, -⟩ := h7.form
      have Q7 := Lib.hid (P6.out.below b7)
      have r7 := h7.bytes (numB_lt _)
      clear q7 h7 b7
      go_wp2_with (refine wpList_put (.tmp 54) (.tmp 57) rfl rfl rfl Q7.out hT _ D7 8 d7 rfl r7 ?_; clear r7; intro v7 X7 p7; have x8_0 : X7.cell? ⟨g3, 4, none⟩ = some (.bool s.vw.on) := (p7.bl (g3, 74, (#[.int .i64 s.num, .int .i64 s.vw.size, .string (strOf s.name), .bool s.prot, .bool s.vw.on, .bool s.vw.good, .slice s.vw.M s.vw.row.length s.vw.cm, .string (strOf s.vw.par), .int .i64 s.vw.ps, .int .i64 s.vw.ov, .slice s.C s.ch.length s.cc] : Array Value)) (by simp)).1.cell 4; have x8_1 : X7.cell? ⟨g3, 5, none⟩ = some (.bool s.vw.good) := (p7.bl (g3, 74, (#[.int .i64 s.num, .int .i64 s.vw.size, .string (strOf s.name), .bool s.prot, .bool s.vw.on, .bool s.vw.good, .slice s.vw.M s.vw.row.length s.vw.cm, .string (strOf s.vw.par), .int .i64 s.vw.ps, .int .i64 s.vw.ov, .slice s.C s.ch.length s.cc] : Array Value)) (by simp)).1.cell 5; have x8_2 : X7.cell? ⟨g3, 6, none⟩ = some (.slice s.vw.M s.vw.row.length s.vw.cm) := (p7.bl (g3, 74, (#[.int .i64 s.num, .int .i64 s.vw.size, .string (strOf s.name), .bool s.prot, .bool s.vw.on, .bool s.vw.good, .slice s.vw.M s.vw.row.length s.vw.cm, .string (strOf s.vw.par), .int .i64 s.vw.ps, .int .i64 s.vw.ov, .slice s.C s.ch.length s.cc] : Array Value)) (by simp)).1.cell 6; have P7 := Lib.hid p7; clear p7)
      go_wp2_with fail
      refine (dputmarks_any s.vw.mk' s.vw.M s.vw.cm X7 ((HSR.out.since P7.out.sz).vw.row) HSG.out).mono ?_
      rintro e Y8 ⟨u8, rfl, h8, b8⟩
      obtain ⟨D8, d8, rfl, -, -, -⟩ := h8.form
      have Q8 := Lib.hid (P7.out.below b8)
      have r8 := h8.bytes (putMk_lt HSG.out)
      clear h8 b8
      go_wp2_with (refine wpList_put (.tmp 59) (.tmp 62) rfl rfl rfl Q8.out hT _ D8 (putMk s.vw.mk').length d8 rfl r8 ?_; clear r8; intro v8 X8 p8; have x9_0 : X8.cell? ⟨g3, 7, none⟩ = some (.string (strOf s.vw.par)) := (p8.bl (g3, 74, (#[.int .i64 s.num, .int .i64 s.vw.size, .string (strOf s.name), .bool s.prot, .bool s.vw.on, .bool s.vw.good, .slice s.vw.M s.vw.row.length s.vw.cm, .string (strOf s.vw.par), .int .i64 s.vw.ps, .int .i64 s.vw.ov, .slice s.C s.ch.length s.cc] : Array Value)) (by simp)).1.cell 7; have x9_1 : X8.cell? ⟨g3, 8, none⟩ = some (.int .i64 s.vw.ps) := (p8.bl (g3, 74, (#[.int .i64 s.num, .int .i64 s.vw.size, .string (strOf s.name), .bool s.prot, .bool s.vw.on, .bool s.vw.good, .slice s.vw.M s.vw.row.length s.vw.cm, .string (strOf s.vw.par), .int .i64 s.vw.ps, .int .i64 s.vw.ov, .slice s.C s.ch.length s.cc] : Array Value)) (by simp)).1.cell 8; have x9_2 : X8.cell? ⟨g3, 9, none⟩ = some (.int .i64 s.vw.ov) := (p8.bl (g3, 74, (#[.int .i64 s.num, .int .i64 s.vw.size, .string (strOf s.name), .bool s.prot, .bool s.vw.on, .bool s.vw.good, .slice s.vw.M s.vw.row.length s.vw.cm, .string (strOf s.vw.par), .int .i64 s.vw.ps, .int .i64 s.vw.ov, .slice s.C s.ch.length s.cc] : Array Value)) (by simp)).1.cell 9; have P8 := Lib.hid p8; clear p8)
      go_wp2_with fail
      refine (dputlink_any s.vw.lk X8 HSR.out.vw.par HSS.out.vw.par).mono ?_
      rintro e Y9 ⟨u9, rfl, h9, b9⟩
      obtain ⟨D9, d9, rfl, -, -, -⟩ := h9.form
      have Q9 := Lib.hid (P8.out.below b9)
      have r9 := h9.bytes (putLk_lt HSR.out.vw.par)
      clear h9 b9
      go_wp2_with (refine wpList_put (.tmp 64) (.tmp 67) rfl rfl rfl Q9.out hT _ D9 (putLk s.vw.lk).length d9 rfl r9 ?_; clear r9; intro v9 X9 p9; have q10 : X9.cell? ⟨g3, 3, none⟩ = some (.bool s.prot) := (p9.bl (g3, 74, (#[.int .i64 s.num, .int .i64 s.vw.size, .string (strOf s.name), .bool s.prot, .bool s.vw.on, .bool s.vw.good, .slice s.vw.M s.vw.row.length s.vw.cm, .string (strOf s.vw.par), .int .i64 s.vw.ps, .int .i64 s.vw.ov, .slice s.C s.ch.length s.cc] : Array Value)) (by simp)).1.cell 3; have P9 := Lib.hid p9; clear p9)
      go_wp2_with fail
      refine (dflagN_any s.prot X9).mono ?_
      rintro e Y10 ⟨rfl, rfl⟩
      have r10 : Bytes (X9.alloc (.cells #[.int .u8 ((fN s.prot : Nat) : Int)] 5)) (X9.heap.size + 1) (some ⟨X9.heap.size, 0, none⟩) 1 (flagB s.prot) := Bytes.new X9 (flagB s.prot) 5 (0, 0) (fun b hb => by simp [flagB] at hb; subst hb; exact fN_lt _)
      have Q10 := Lib.hid (P9.out.below (below_alloc X9 (.cells #[.int .u8 ((fN s.prot : Nat) : Int)] 5)))
      go_wp2_with (refine wpList_put (.tmp 69) (.tmp 73) rfl rfl rfl Q10.out hT _ _ 1 1 rfl r10 ?_; clear r10; intro v10 X10 p10; have q11 : X10.cell? ⟨g3, 10, none⟩ = some (.slice s.C s.ch.length s.cc) := (p10.bl (g3, 74, (#[.int .i64 s.num, .int .i64 s.vw.size, .string (strOf s.name), .bool s.prot, .bool s.vw.on, .bool s.vw.good, .slice s.vw.M s.vw.row.length s.vw.cm, .string (strOf s.vw.par), .int .i64 s.vw.ps, .int .i64 s.vw.ov, .slice s.C s.ch.length s.cc] : Array Value)) (by simp)).1.cell 10; have P10 := Lib.hid p10; clear p10)
      go_wp2_with fail
      refine (dnum_any ((s.ch.length : Nat)) X10).mono ?_
      rintro e Y11 ⟨u11, rfl, h11, b11⟩
      obtain ⟨D11, d11, rfl, -, -, -⟩ := h11.form
      have Q11 := Lib.hid (P10.out.below b11)
      have r11 := h11.bytes (numB_lt _)
      clear q11 h11 b11
      go_wp2_with (refine wpList_put (.tmp 75) (.tmp 79) rfl rfl rfl Q11.out hT _ D11 8 d11 rfl r11 ?_; clear r11; intro v11 X11 p11; skip; have P11 := Lib.hid p11; clear p11)
      have hcl := HSS.out.ch
      go_loopw [3, 6] (fun lv i wr => ∃ j : Nat, j ≤ s.ch.length ∧ i = .int .i64 j ∧ Pt w T [(w.heap.size, 29, (#[.int .i64 a.id, .int .i64 a.vw.size, .int .i64 a.obj, .int .i64 a.seq, .slice a.S a.sn.length a.cs', .bool a.vw.on, .bool a.vw.good, .slice a.vw.M a.vw.row.length a.vw.cm, .string (strOf a.vw.par), .int .i64 a.vw.ps, .int .i64 a.vw.ov, .int .i64 a.ow, .int .i64 a.it, .int .i64 a.tg] : Array Value)), (g3, 74, (#[.int .i64 s.num, .int .i64 s.vw.size, .string (strOf s.name), .bool s.prot, .bool s.vw.on, .bool s.vw.good, .slice s.vw.M s.vw.row.length s.vw.cm, .string (strOf s.vw.par), .int .i64 s.vw.ps, .int .i64 s.vw.ov, .slice s.C s.ch.length s.cc] : Array Value))] wr lv ((s.ch.drop j).flatMap txt ++ R)) (fun _ i _ => s.ch.length - (intOf i).toNat)
      case atStart => exact ⟨0, by omega, rfl, by simpa using P11.out⟩
      case round =>
        obtain ⟨j, hj, rfl, hp⟩ := hrel
        obtain ⟨A11, n11, c11, rfl⟩ := hp.form
        have PJ := Lib.hid hp
        have q10 : wr.cell? ⟨g3, 10, none⟩ = some (.slice s.C s.ch.length s.cc) := (hp.bl (g3, 74, (#[.int .i64 s.num, .int .i64 s.vw.size, .string (strOf s.name), .bool s.prot, .bool s.vw.on, .bool s.vw.good, .slice s.vw.M s.vw.row.length s.vw.cm, .string (strOf s.vw.par), .int .i64 s.vw.ps, .int .i64 s.vw.ov, .slice s.C s.ch.length s.cc] : Array Value)) (by simp)).1.cell 10
        by_cases hjl : j < s.ch.length
        · have djl : decide ((j : Int) < (s.ch.length : Int)) = true := decide_eq_true (by omega)
          have hwj : IntKind.i64.wrap ((j : Int) + 1) = (j : Int) + 1 := by rw [IntKind.wrap_i64]; omega
          obtain ⟨ad2, x, e1, hx, hx2, cx⟩ := Strs.at_ (HSR.out.since hp.sz).ch hjl
          have hd2 : s.ch.drop j = x :: s.ch.drop (j + 1) := by
            rw [List.drop_eq_getElem_cons hjl]
            congr 1
            rw [List.getElem?_eq_getElem hjl] at hx
            injection hx
          have hp2 : Pt w T [(w.heap.size, 29, (#[.int .i64 a.id, .int .i64 a.vw.size, .int .i64 a.obj, .int .i64 a.seq, .slice a.S a.sn.length a.cs', .bool a.vw.on, .bool a.vw.good, .slice a.vw.M a.vw.row.length a.vw.cm, .string (strOf a.vw.par), .int .i64 a.vw.ps, .int .i64 a.vw.ov, .int .i64 a.ow, .int .i64 a.it, .int .i64 a.tg] : Array Value)), (g3, 74, (#[.int .i64 s.num, .int .i64 s.vw.size, .string (strOf s.name), .bool s.prot, .bool s.vw.on, .bool s.vw.good, .slice s.vw.M s.vw.row.length s.vw.cm, .string (strOf s.vw.par), .int .i64 s.vw.ps, .int .i64 s.vw.ov, .slice s.C s.ch.length s.cc] : Array Value))] wr (.slice A11 n11 c11) (txt x ++ ((s.ch.drop (j + 1)).flatMap txt ++ R)) := by
            have h9 := hp
            rw [hd2, List.flatMap_cons, List.append_assoc] at h9
            exact h9
          obtain ⟨k2, Z2, f2, t2, y2⟩ := conv_str wr x hx2
          have T2 := Lib.hid (And.intro t2 y2)
          have HP2 := Lib.hid hp2
          have hxl := HSS.out.cl x (List.mem_of_getElem? hx)
          rw [e1] at q10
          clear t2 y2 hp2 hp hd2 hx e1
          go_wp2_with fail
          refine (dbytes_any (some ⟨wr.heap.size, 0, none⟩) x.length k2 _ x Z2 T2.out.2 (by omega)).mono ?_
          rintro e Y2 ⟨u2, rfl, h2, b2⟩
          obtain ⟨D2, d2, rfl, -, -, -⟩ := h2.form
          have Q2 := Lib.hid ((HP2.out.below T2.out.1).below b2)
          have r2 := h2.bytes (txt_lt hx2)
          clear q10 h2 b2 f2 cx
          go_wp2_with (refine wpList_put (.tmp 88) (.tmp 95) rfl rfl rfl Q2.out hT _ D2 (8 + x.length) d2 rfl r2 ?_; clear r2; intro v2 X2 p2; have P2 := Lib.hid p2; clear p2)
          exact ⟨⟨j + 1, by omega, by go_num, P2.out⟩, by simp only [intOf]; omega⟩
        · obtain rfl : j = s.ch.length := by omega
          have djl : decide ((s.ch.length : Int) < (s.ch.length : Int)) = false := decide_eq_false (by omega)
          have hp3 : Pt w T [(w.heap.size, 29, (#[.int .i64 a.id, .int .i64 a.vw.size, .int .i64 a.obj, .int .i64 a.seq, .slice a.S a.sn.length a.cs', .bool a.vw.on, .bool a.vw.good, .slice a.vw.M a.vw.row.length a.vw.cm, .string (strOf a.vw.par), .int .i64 a.vw.ps, .int .i64 a.vw.ov, .int .i64 a.ow, .int .i64 a.it, .int .i64 a.tg] : Array Value))] wr (.slice A11 n11 c11) R := by
            have h9 := hp
            rw [List.drop_length] at h9
            exact (show Pt w T [(w.heap.size, 29, (#[.int .i64 a.id, .int .i64 a.vw.size, .int .i64 a.obj, .int .i64 a.seq, .slice a.S a.sn.length a.cs', .bool a.vw.on, .bool a.vw.good, .slice a.vw.M a.vw.row.length a.vw.cm, .string (strOf a.vw.par), .int .i64 a.vw.ps, .int .i64 a.vw.ov, .int .i64 a.ow, .int .i64 a.it, .int .i64 a.tg] : Array Value)), (g3, 74, (#[.int .i64 s.num, .int .i64 s.vw.size, .string (strOf s.name), .bool s.prot, .bool s.vw.on, .bool s.vw.good, .slice s.vw.M s.vw.row.length s.vw.cm, .string (strOf s.vw.par), .int .i64 s.vw.ps, .int .i64 s.vw.ov, .slice s.C s.ch.length s.cc] : Array Value))] wr (.slice A11 n11 c11) R from h9).more (fun x hx => h9.bl x (by simp at hx ⊢; exact .inl hx))
          rw [HRE.out] at hp3
          have HP3 := Lib.hid hp3
          clear hp hp3
          go_wp2
          exact ⟨⟨k + 1, by omega, by go_num, HP3.out⟩, by simp only [intOf]; omega⟩
    · obtain rfl : k = a.sn.length := by omega
      have dl : decide ((a.sn.length : Int) < (a.sn.length : Int)) = false := decide_eq_false (by omega)
      have hpe : Pt w T [(w.heap.size, 29, (#[.int .i64 a.id, .int .i64 a.vw.size, .int .i64 a.obj, .int .i64 a.seq, .slice a.S a.sn.length a.cs', .bool a.vw.on, .bool a.vw.good, .slice a.vw.M a.vw.row.length a.vw.cm, .string (strOf a.vw.par), .int .i64 a.vw.ps, .int .i64 a.vw.ov, .int .i64 a.ow, .int .i64 a.it, .int .i64 a.tg] : Array Value))] wo (.slice A10 n10 c10) (putMk a.vw.mk' ++ (putLk a.vw.lk ++ (numB a.ow ++ (numB a.it ++ (numB a.tg ++ []))))) := by
        have h9 := hp
        rw [List.drop_length] at h9
        rw [List.append_nil, ← HTL.out]
        exact h9
      have PE := Lib.hid hpe
      have z5 : wo.cell? ⟨w.heap.size, 5, none⟩ = some (.bool a.vw.on) := (hpe.bl (w.heap.size, 29, (#[.int .i64 a.id, .int .i64 a.vw.size, .int .i64 a.obj, .int .i64 a.seq, .slice a.S a.sn.length a.cs', .bool a.vw.on, .bool a.vw.good, .slice a.vw.M a.vw.row.length a.vw.cm, .string (strOf a.vw.par), .int .i64 a.vw.ps, .int .i64 a.vw.ov, .int .i64 a.ow, .int .i64 a.it, .int .i64 a.tg] : Array Value)) (by simp)).1.cell 5
      have z6 : wo.cell? ⟨w.heap.size, 6, none⟩ = some (.bool a.vw.good) := (hpe.bl (w.heap.size, 29, (#[.int .i64 a.id, .int .i64 a.vw.size, .int .i64 a.obj, .int .i64 a.seq, .slice a.S a.sn.length a.cs', .bool a.vw.on, .bool a.vw.good, .slice a.vw.M a.vw.row.length a.vw.cm, .string (strOf a.vw.par), .int .i64 a.vw.ps, .int .i64 a.vw.ov, .int .i64 a.ow, .int .i64 a.it, .int .i64 a.tg] : Array Value)) (by simp)).1.cell 6
      have z7 : wo.cell? ⟨w.heap.size, 7, none⟩ = some (.slice a.vw.M a.vw.row.length a.vw.cm) := (hpe.bl (w.heap.size, 29, (#[.int .i64 a.id, .int .i64 a.vw.size, .int .i64 a.obj, .int .i64 a.seq, .slice a.S a.sn.length a.cs', .bool a.vw.on, .bool a.vw.good, .slice a.vw.M a.vw.row.length a.vw.cm, .string (strOf a.vw.par), .int .i64 a.vw.ps, .int .i64 a.vw.ov, .int .i64 a.ow, .int .i64 a.it, .int .i64 a.tg] : Array Value)) (by simp)).1.cell 7
      clear hp hpe
      go_wp2_with fail
      refine (dputmarks_any a.vw.mk' a.vw.M a.vw.cm wo ((HR.out.since PE.out.sz).vw.row) HG.out.1).mono ?_
      rintro e Y12 ⟨u12, rfl, h12, b12⟩
      obtain ⟨D12, d12, rfl, -, -, -⟩ := h12.form
      have Q12 := Lib.hid (PE.out.below b12)
      have r12 := h12.bytes (putMk_lt HG.out.1)
      clear h12 b12
      go_wp2_with (refine wpList_put (.tmp 97) (.tmp 100) rfl rfl rfl Q12.out hT _ D12 (putMk a.vw.mk').length d12 rfl r12 ?_; clear r12; intro v12 X12 p12; have x13_0 : X12.cell? ⟨w.heap.size, 8, none⟩ = some (.string (strOf a.vw.par)) := (p12.bl (w.heap.size, 29, (#[.int .i64 a.id, .int .i64 a.vw.size, .int .i64 a.obj, .int .i64 a.seq, .slice a.S a.sn.length a.cs', .bool a.vw.on, .bool a.vw.good, .slice a.vw.M a.vw.row.length a.vw.cm, .string (strOf a.vw.par), .int .i64 a.vw.ps, .int .i64 a.vw.ov, .int .i64 a.ow, .int .i64 a.it, .int .i64 a.tg] : Array Value)) (by simp)).1.cell 8; have x13_1 : X12.cell? ⟨w.heap.size, 9, none⟩ = some (.int .i64 a.vw.ps) := (p12.bl (w.heap.size, 29, (#[.int .i64 a.id, .int .i64 a.vw.size, .int .i64 a.obj, .int .i64 a.seq, .slice a.S a.sn.length a.cs', .bool a.vw.on, .bool a.vw.good, .slice a.vw.M a.vw.row.length a.vw.cm, .string (strOf a.vw.par), .int .i64 a.vw.ps, .int .i64 a.vw.ov, .int .i64 a.ow, .int .i64 a.it, .int .i64 a.tg] : Array Value)) (by simp)).1.cell 9; have x13_2 : X12.cell? ⟨w.heap.size, 10, none⟩ = some (.int .i64 a.vw.ov) := (p12.bl (w.heap.size, 29, (#[.int .i64 a.id, .int .i64 a.vw.size, .int .i64 a.obj, .int .i64 a.seq, .slice a.S a.sn.length a.cs', .bool a.vw.on, .bool a.vw.good, .slice a.vw.M a.vw.row.length a.vw.cm, .string (strOf a.vw.par), .int .i64 a.vw.ps, .int .i64 a.vw.ov, .int .i64 a.ow, .int .i64 a.it, .int .i64 a.tg] : Array Value)) (by simp)).1.cell 10; have P12 := Lib.hid p12; clear p12)
      go_wp2_with fail
      refine (dputlink_any a.vw.lk X12 HR.out.vw.par HSM.out.vw.par).mono ?_
      rintro e Y13 ⟨u13, rfl, h13, b13⟩
      obtain ⟨D13, d13, rfl, -, -, -⟩ := h13.form
      have Q13 := Lib.hid (P12.out.below b13)
      have r13 := h13.bytes (putLk_lt HR.out.vw.par)
      clear h13 b13
      go_wp2_with (refine wpList_put (.tmp 102) (.tmp 105) rfl rfl rfl Q13.out hT _ D13 (putLk a.vw.lk).length d13 rfl r13 ?_; clear r13; intro v13 X13 p13; have q14 : X13.cell? ⟨w.heap.size, 11, none⟩ = some (.int .i64 a.ow) := (p13.bl (w.heap.size, 29, (#[.int .i64 a.id, .int .i64 a.vw.size, .int .i64 a.obj, .int .i64 a.seq, .slice a.S a.sn.length a.cs', .bool a.vw.on, .bool a.vw.good, .slice a.vw.M a.vw.row.length a.vw.cm, .string (strOf a.vw.par), .int .i64 a.vw.ps, .int .i64 a.vw.ov, .int .i64 a.ow, .int .i64 a.it, .int .i64 a.tg] : Array Value)) (by simp)).1.cell 11; have P13 := Lib.hid p13; clear p13)
      go_wp2_with fail
      refine (dnum_any (a.ow) X13).mono ?_
      rintro e Y14 ⟨u14, rfl, h14, b14⟩
      obtain ⟨D14, d14, rfl, -, -, -⟩ := h14.form
      have Q14 := Lib.hid (P13.out.below b14)
      have r14 := h14.bytes (numB_lt _)
      clear q14 h14 b14
      go_wp2_with (refine wpList_put (.tmp 107) (.tmp 110) rfl rfl rfl Q14.out hT _ D14 8 d14 rfl r14 ?_; clear r14; intro v14 X14 p14; have q15 : X14.cell? ⟨w.heap.size, 12, none⟩ = some (.int .i64 a.it) := (p14.bl (w.heap.size, 29, (#[.int .i64 a.id, .int .i64 a.vw.size, .int .i64 a.obj, .int .i64 a.seq, .slice a.S a.sn.length a.cs', .bool a.vw.on, .bool a.vw.good, .slice a.vw.M a.vw.row.length a.vw.cm, .string (strOf a.vw.par), .int .i64 a.vw.ps, .int .i64 a.vw.ov, .int .i64 a.ow, .int .i64 a.it, .int .i64 a.tg] : Array Value)) (by simp)).1.cell 12; have P14 := Lib.hid p14; clear p14)
      go_wp2_with fail
      refine (dnum_any (a.it) X14).mono ?_
      rintro e Y15 ⟨u15, rfl, h15, b15⟩
      obtain ⟨D15, d15, rfl, -, -, -⟩ := h15.form
      have Q15 := Lib.hid (P14.out.below b15)
      have r15 := h15.bytes (numB_lt _)
      clear q15 h15 b15
      go_wp2_with (refine wpList_put (.tmp 112) (.tmp 115) rfl rfl rfl Q15.out hT _ D15 8 d15 rfl r15 ?_; clear r15; intro v15 X15 p15; have q16 : X15.cell? ⟨w.heap.size, 13, none⟩ = some (.int .i64 a.tg) := (p15.bl (w.heap.size, 29, (#[.int .i64 a.id, .int .i64 a.vw.size, .int .i64 a.obj, .int .i64 a.seq, .slice a.S a.sn.length a.cs', .bool a.vw.on, .bool a.vw.good, .slice a.vw.M a.vw.row.length a.vw.cm, .string (strOf a.vw.par), .int .i64 a.vw.ps, .int .i64 a.vw.ov, .int .i64 a.ow, .int .i64 a.it, .int .i64 a.tg] : Array Value)) (by simp)).1.cell 13; have P15 := Lib.hid p15; clear p15)
      go_wp2_with fail
      refine (dnum_any (a.tg) X15).mono ?_
      rintro e Y16 ⟨u16, rfl, h16, b16⟩
      obtain ⟨D16, d16, rfl, -, -, -⟩ := h16.form
      have Q16 := Lib.hid (P15.out.below b16)
      have r16 := h16.bytes (numB_lt _)
      clear q16 h16 b16
      go_wp2_with (refine wpList_put (.tmp 117) (.tmp 120) rfl rfl rfl Q16.out hT _ D16 8 d16 rfl r16 ?_; clear r16; intro v16 X16 p16; skip; have P16 := Lib.hid p16; clear p16)
      go_ret
      obtain ⟨acc, h1, h2⟩ := P16.out.pu
      rw [List.append_nil] at h2
      subst h2
      exact ⟨_, rfl, h1⟩
end Go.Proofs.Ytgddenhnpjoabaa
