/-
  A head as the document's. Conditions: it reads as it is said to, and is small.
-/
import Derived.Test.YtgddenhnpjoabaaZj

namespace Go.Proofs.Ytgddenhnpjoabaa
open Go.RowKit Go.BigFrame
set_option linter.unusedSimpArgs false
set_option linter.unusedVariables false
set_option maxRecDepth 100000
theorem dsnap_info : (Try.prog.info? 74).map (fun i => (i.zero, i.size, i.bytes)) = some (some (.agg #[.int .i64 0, .int .i64 0, .string ⟨#[]⟩, .bool false, .bool false, .bool false, .slice none 0 0, .string ⟨#[]⟩, .int .i64 0, .int .i64 0, .slice none 0 0]), 11, 128) := by kernel_rfl
theorem three_blk (w : World) (o1 o2 : Obj) (t : TypeId) (cs : Array Value) : Blk (((w.alloc o1).alloc o2).alloc (.cells cs t)) (w.heap.size + 2) t cs := by
  have := Blk.new ((w.alloc o1).alloc o2) t cs
  rwa [World.size_alloc, World.size_alloc] at this
/-- what plain hands back -/
def PlainTo (w : World) (a : HA) (e : Ending) (w' : World) : Prop := ∃ d : HA, e = .returned (.agg d.cs) ∧ d.v = a.v ∧ d.R SA.dcells w' ∧ d.sn = a.sn ∧ d.vw = a.vw ∧ Below w.heap.size w w'
set_option maxHeartbeats 16000000 in
theorem hplain_any (a : HA) (w : World) (hR : a.R SA.cells w) (hS : a.Sm) : Calls Try.prog 15 #[.agg a.cs] w (PlainTo w a) := by
  obtain ⟨W1, hW1⟩ : ∃ W, W = (w.alloc (.cells a.cs 36)).alloc (.cells #[.int .i64 0, .int .i64 0, .int .i64 0, .int .i64 0, .slice none 0 0, .bool false, .bool false, .slice none 0 0, .string ⟨#[]⟩, .int .i64 0, .int .i64 0, .int .i64 0, .int .i64 0, .int .i64 0] 29) := ⟨_, rfl⟩
  have h1 : Below w.heap.size w W1 ∧ W1.heap.size = w.heap.size + 2 ∧ Blk W1 w.heap.size 36 #[.int .i64 a.id, .int .i64 a.vw.size, .int .i64 a.obj, .int .i64 a.seq, .slice a.S a.sn.length a.cs', .bool a.vw.on, .bool a.vw.good, .slice a.vw.M a.vw.row.length a.vw.cm, .string (strOf a.vw.par), .int .i64 a.vw.ps, .int .i64 a.vw.ov, .int .i64 a.ow, .int .i64 a.it, .int .i64 a.tg] ∧ Blk W1 (w.heap.size + 1) 29 #[.int .i64 0, .int .i64 0, .int .i64 0, .int .i64 0, .slice none 0 0, .bool false, .bool false, .slice none 0 0, .string ⟨#[]⟩, .int .i64 0, .int .i64 0, .int .i64 0, .int .i64 0, .int .i64 0] := by
    rw [hW1]
    exact ⟨(below_alloc w _).alloc (by simp) _, by simp, (Blk.new w _ _).alloc _, blk_two _ _ _ _⟩
  have HW1 := Lib.hid hW1
  have H1 := Lib.hid h1
  have HR := Lib.hid hR
  have HS := Lib.hid hS
  have hcn := hS.cn
  have hz := head_zero
  clear hW1 h1 hR hS
  unfold HA.cs at HW1 ⊢
  go_enter Try.func15, Try.ntmps15
  go_upto_region 1 with (fail)
  rw [← HW1.out]
  clear HW1
  obtain ⟨b1, z1, k1, r1⟩ := H1.out
  have q0 : W1.cell? ⟨w.heap.size, 0, none⟩ = some (.int .i64 a.id) := k1.cell 0
  have q1 : W1.cell? ⟨w.heap.size, 1, none⟩ = some (.int .i64 a.vw.size) := k1.cell 1
  have q2 : W1.cell? ⟨w.heap.size, 2, none⟩ = some (.int .i64 a.obj) := k1.cell 2
  have q3 : W1.cell? ⟨w.heap.size, 3, none⟩ = some (.int .i64 a.seq) := k1.cell 3
  have q4 : W1.cell? ⟨w.heap.size, 4, none⟩ = some (.slice a.S a.sn.length a.cs') := k1.cell 4
  have q5 : W1.cell? ⟨w.heap.size, 5, none⟩ = some (.bool a.vw.on) := k1.cell 5
  have q6 : W1.cell? ⟨w.heap.size, 6, none⟩ = some (.bool a.vw.good) := k1.cell 6
  have q7 : W1.cell? ⟨w.heap.size, 7, none⟩ = some (.slice a.vw.M a.vw.row.length a.vw.cm) := k1.cell 7
  have q8 : W1.cell? ⟨w.heap.size, 8, none⟩ = some (.string (strOf a.vw.par)) := k1.cell 8
  have q9 : W1.cell? ⟨w.heap.size, 9, none⟩ = some (.int .i64 a.vw.ps) := k1.cell 9
  have q10 : W1.cell? ⟨w.heap.size, 10, none⟩ = some (.int .i64 a.vw.ov) := k1.cell 10
  have q11 : W1.cell? ⟨w.heap.size, 11, none⟩ = some (.int .i64 a.ow) := k1.cell 11
  have q12 : W1.cell? ⟨w.heap.size, 12, none⟩ = some (.int .i64 a.it) := k1.cell 12
  have q13 : W1.cell? ⟨w.heap.size, 13, none⟩ = some (.int .i64 a.tg) := k1.cell 13
  obtain ⟨W2, hW2⟩ : ∃ W, W = W1.alloc (.cells #[.int .i64 a.id, .int .i64 a.vw.size, .int .i64 a.obj, .int .i64 a.seq, .slice none 0 0, .bool a.vw.on, .bool a.vw.good, .slice a.vw.M a.vw.row.length a.vw.cm, .string (strOf a.vw.par), .int .i64 a.vw.ps, .int .i64 a.vw.ov, .int .i64 a.ow, .int .i64 a.it, .int .i64 a.tg] 29) := ⟨_, rfl⟩
  have h2 : Below w.heap.size w W2 ∧ W2.heap.size = w.heap.size + 3 ∧ Blk W2 w.heap.size 36 #[.int .i64 a.id, .int .i64 a.vw.size, .int .i64 a.obj, .int .i64 a.seq, .slice a.S a.sn.length a.cs', .bool a.vw.on, .bool a.vw.good, .slice a.vw.M a.vw.row.length a.vw.cm, .string (strOf a.vw.par), .int .i64 a.vw.ps, .int .i64 a.vw.ov, .int .i64 a.ow, .int .i64 a.it, .int .i64 a.tg] ∧ Blk W2 (w.heap.size + 1) 29 #[.int .i64 0, .int .i64 0, .int .i64 0, .int .i64 0, .slice none 0 0, .bool false, .bool false, .slice none 0 0, .string ⟨#[]⟩, .int .i64 0, .int .i64 0, .int .i64 0, .int .i64 0, .int .i64 0] ∧ Blk W2 (w.heap.size + 2) 29 #[.int .i64 a.id, .int .i64 a.vw.size, .int .i64 a.obj, .int .i64 a.seq, .slice none 0 0, .bool a.vw.on, .bool a.vw.good, .slice a.vw.M a.vw.row.length a.vw.cm, .string (strOf a.vw.par), .int .i64 a.vw.ps, .int .i64 a.vw.ov, .int .i64 a.ow, .int .i64 a.it, .int .i64 a.tg] := by
    rw [hW2]
    exact ⟨b1.alloc b1.size _, by simp [z1], k1.alloc _, r1.alloc _, by have := Blk.new W1 29 #[.int .i64 a.id, .int .i64 a.vw.size, .int .i64 a.obj, .int .i64 a.seq, .slice none 0 0, .bool a.vw.on, .bool a.vw.good, .slice a.vw.M a.vw.row.length a.vw.cm, .string (strOf a.vw.par), .int .i64 a.vw.ps, .int .i64 a.vw.ov, .int .i64 a.ow, .int .i64 a.it, .int .i64 a.tg]; rwa [z1] at this⟩
  have HW2 := Lib.hid hW2
  have H2 := Lib.hid h2
  clear b1 k1 r1 hW2 h2 H1
  go_upto_region 2 with (fail)
  try rw [z1]
  rw [← HW2.out]
  clear HW2 z1 q0 q1 q2 q3 q5 q6 q7 q8 q9 q10 q11 q12 q13
  have q4 : W2.cell? ⟨w.heap.size, 4, none⟩ = some (.slice a.S a.sn.length a.cs') := H2.out.2.2.1.cell 4
  go_wp2
  clear q4
  go_loopw [33] (fun i wr => ∃ (k : Nat) (A : Option Addr) (c : Nat), k ≤ a.sn.length ∧ i = .int .i64 k ∧ Blk wr w.heap.size 36 #[.int .i64 a.id, .int .i64 a.vw.size, .int .i64 a.obj, .int .i64 a.seq, .slice a.S a.sn.length a.cs', .bool a.vw.on, .bool a.vw.good, .slice a.vw.M a.vw.row.length a.vw.cm, .string (strOf a.vw.par), .int .i64 a.vw.ps, .int .i64 a.vw.ov, .int .i64 a.ow, .int .i64 a.it, .int .i64 a.tg] ∧ Blk wr (w.heap.size + 1) 29 #[.int .i64 0, .int .i64 0, .int .i64 0, .int .i64 0, .slice none 0 0, .bool false, .bool false, .slice none 0 0, .string ⟨#[]⟩, .int .i64 0, .int .i64 0, .int .i64 0, .int .i64 0, .int .i64 0] ∧ Blk wr (w.heap.size + 2) 29 #[.int .i64 a.id, .int .i64 a.vw.size, .int .i64 a.obj, .int .i64 a.seq, .slice A k c, .bool a.vw.on, .bool a.vw.good, .slice a.vw.M a.vw.row.length a.vw.cm, .string (strOf a.vw.par), .int .i64 a.vw.ps, .int .i64 a.vw.ov, .int .i64 a.ow, .int .i64 a.it, .int .i64 a.tg] ∧ wr.ownsRow (w.heap.size + 3) 74 11 (.slice A k c) k ((a.sn.take k).flatMap SA.dcells) ∧ Below w.heap.size w wr ∧ w.heap.size + 3 ≤ wr.heap.size) (fun i _ => a.sn.length - (intOf i).toNat)
  case atStart =>
    obtain ⟨b2, z2, k2, r2, o2⟩ := H2.out
    exact ⟨0, none, 0, by omega, rfl, k2, r2, o2, World.ownsRow_nil _ _ _ 11, b2, by omega⟩
  case round =>
    obtain ⟨k, A, c, hk, rfl, hk0, hk1, hk2, hrow, hb, hsz⟩ := hrel
    have HK0 := Lib.hid hk0
    have HK1 := Lib.hid hk1
    have HK2 := Lib.hid hk2
    have HRW := Lib.hid hrow
    have HB := Lib.hid hb
    by_cases hlt : k < a.sn.length
    · have dl : decide ((k : Int) < (a.sn.length : Int)) = true := decide_eq_true (by omega)
      obtain ⟨s, hs⟩ : ∃ s, a.sn[k]? = some s := ⟨_, List.getElem?_eq_getElem hlt⟩
      have hwk : IntKind.i64.wrap ((k : Int) + 1) = (k : Int) + 1 := by rw [IntKind.wrap_i64]; omega
      have hR1 := HR.out.since hb
      obtain ⟨ad, had, -, hc⟩ := snap_at SA.cells_len hR1.row hs
      obtain ⟨W5, hW5⟩ : ∃ W, W = wr.alloc (.cells s.cells.toArray 66) := ⟨_, rfl⟩
      have hb5 : Below wr.heap.size wr W5 := by rw [hW5]; exact below_alloc wr _
      have hk5 : Blk W5 wr.heap.size 66 #[.int .i64 s.num, .int .i64 s.vw.size, .string (strOf s.name), .bool s.vw.on, .bool s.vw.good, .bool s.prot, .slice s.vw.M s.vw.row.length s.vw.cm, .string (strOf s.vw.par), .int .i64 s.vw.ps, .int .i64 s.vw.ov, .slice s.C s.ch.length s.cc] := by rw [hW5]; exact Blk.new wr _ _
      have HW5 := Lib.hid hW5
      have HB5 := Lib.hid hb5
      have HK5 := Lib.hid hk5
      have HSK := Lib.hid hs
      have HAD := Lib.hid had
      have HSM := Lib.hid (HS.out.sn s (List.mem_of_getElem? hs))
      generalize a.S = sS at *
      subst had
      clear hs hR1 hW5 hb5 hk5 hk0 hk1 hk2 hrow hb
      go_upto_region 5 with (have _h := hc; refine wpList_loadp rfl 66 (.tmp 35) rfl _ [.int .i64 s.num, .int .i64 s.vw.size, .string (strOf s.name), .bool s.vw.on, .bool s.vw.good, .bool s.prot, .slice s.vw.M s.vw.row.length s.vw.cm, .string (strOf s.vw.par), .int .i64 s.vw.ps, .int .i64 s.vw.ov, .slice s.C s.ch.length s.cc] _ rfl hc Try.underlying66 rfl (by kernel_rfl) ?_; clear _h hc)
      unfold SA.cells at HW5
      rw [← HW5.out]
      have HK25 : Blk W5 (w.heap.size + 2) 29 #[.int .i64 a.id, .int .i64 a.vw.size, .int .i64 a.obj, .int .i64 a.seq, .slice A k c, .bool a.vw.on, .bool a.vw.good, .slice a.vw.M a.vw.row.length a.vw.cm, .string (strOf a.vw.par), .int .i64 a.vw.ps, .int .i64 a.vw.ov, .int .i64 a.ow, .int .i64 a.it, .int .i64 a.tg] := HK2.out.of (HB5.out.block _ HK2.out.lt)
      have q4 : W5.cell? ⟨w.heap.size + 2, 4, none⟩ = some (.slice A k c) := HK25.cell 4
      have x0 : W5.cell? ⟨wr.heap.size, 0, none⟩ = some (.int .i64 s.num) := HK5.out.cell 0
      have x1 : W5.cell? ⟨wr.heap.size, 1, none⟩ = some (.int .i64 s.vw.size) := HK5.out.cell 1
      have x2 : W5.cell? ⟨wr.heap.size, 2, none⟩ = some (.string (strOf s.name)) := HK5.out.cell 2
      have x3 : W5.cell? ⟨wr.heap.size, 3, none⟩ = some (.bool s.vw.on) := HK5.out.cell 3
      have x4 : W5.cell? ⟨wr.heap.size, 4, none⟩ = some (.bool s.vw.good) := HK5.out.cell 4
      have x5 : W5.cell? ⟨wr.heap.size, 5, none⟩ = some (.bool s.prot) := HK5.out.cell 5
      have x6 : W5.cell? ⟨wr.heap.size, 6, none⟩ = some (.slice s.vw.M s.vw.row.length s.vw.cm) := HK5.out.cell 6
      have x7 : W5.cell? ⟨wr.heap.size, 7, none⟩ = some (.string (strOf s.vw.par)) := HK5.out.cell 7
      have x8 : W5.cell? ⟨wr.heap.size, 8, none⟩ = some (.int .i64 s.vw.ps) := HK5.out.cell 8
      have x9 : W5.cell? ⟨wr.heap.size, 9, none⟩ = some (.int .i64 s.vw.ov) := HK5.out.cell 9
      have x10 : W5.cell? ⟨wr.heap.size, 10, none⟩ = some (.slice s.C s.ch.length s.cc) := HK5.out.cell 10
      have HRW5 : W5.ownsRow (w.heap.size + 3) 74 11 (.slice A k c) k ((a.sn.take k).flatMap SA.dcells) := own_below HRW.out HB5.out
      have HK := Lib.hid HK25
      have HW := Lib.hid HRW5
      clear HK25 HRW5 HW5
      obtain ⟨i2, hi2, hv0, hv1, hv2⟩ := info_parts dsnap_info
      go_wp2_with (first
        | (refine wpList_append_any _ rfl (.tmp 38) (.tmp 59) 22 rfl (w.heap.size + 3) 74 i2 _ 11 128 Try.underlying22 hi2 hv0 hv1 hv2 rfl (by omega) (.slice A k c) k ((a.sn.take k).flatMap SA.dcells) rfl (own_below HW.out (below_alloc W5 (.cells #[.int .i64 s.num, .int .i64 s.vw.size, .string (strOf s.name), .bool s.prot, .bool s.vw.on, .bool s.vw.good, .slice s.vw.M s.vw.row.length s.vw.cm, .string (strOf s.vw.par), .int .i64 s.vw.ps, .int .i64 s.vw.ov, .slice s.C s.ch.length s.cc] 74))) (W5.heap.size + 1) (some ⟨W5.heap.size, 0, none⟩) 1 1 s.dcells rfl (Reads.newN W5 s.dcells 1 11 74 (0, 0) rfl) (SA.dcells_one s) (by simp only [maxLen]; omega) (by omega) (by have := HB5.out.size; simp; omega) ?_; intro v7 W7 h7 g7 a7; obtain ⟨A7, c7, rfl⟩ := own_form h7)
        | (have _h := q4; refine wpList_setq rfl 22 (.tmp 61) (.tmp 60) rfl (w.heap.size + 2) 4 _ _ (.slice A7 (k + 1) c7) rfl rfl ((HK.out.alloc _).grown g7 (fun e => own_blk_ne HW.out HK.out (by decide) e.symm)) (by simp) (by kernel_rfl) rfl ?_; clear _h q4; intro W8 K8 o8 s8))
      have hr8 : W8.ownsRow (w.heap.size + 3) 74 11 (.slice A7 (k + 1) c7) (k + 1) ((a.sn.take k).flatMap SA.dcells ++ s.dcells) := row_of h7 fun j hj => o8.block j (row_under h7 j hj) (fun hm => by simp at hm; have := (World.ownsRow.lt h7 j (mem_rowOf.1 hj)).1; omega)
      have e8 : (a.sn.take (k + 1)).flatMap SA.dcells = (a.sn.take k).flatMap SA.dcells ++ s.dcells := by rw [List.take_add_one, HSK.out, List.flatMap_append]; simp
      have hb7 : Below w.heap.size w W7 := ((HB.out.trans (HB5.out.mono HB.out.size)).alloc (Nat.le_trans HB.out.size HB5.out.size) _).grown g7 (by have := HB.out.size; have := HB5.out.size; simp; omega) (fun j hj => by have := (World.ownsRow.lt HW.out j hj).1; omega)
      have hb8 : Below w.heap.size w W8 := hb7.trans (o8.below (fun x hx => by simp at hx; omega) hb7.size)
      have hs8 : w.heap.size + 3 ≤ W8.heap.size := by have := g7.size; simp at this; have := HB5.out.size; omega
      exact ⟨⟨k + 1, A7, c7, by omega, by go_num, ((((HK0.out.of (HB5.out.block _ HK0.out.lt)).alloc _).grown g7 (fun e => own_blk_ne HW.out (HK0.out.of (HB5.out.block _ HK0.out.lt)) (by decide) e.symm)).only o8 (by simp)), ((((HK1.out.of (HB5.out.block _ HK1.out.lt)).alloc _).grown g7 (fun e => own_blk_ne HW.out (HK1.out.of (HB5.out.block _ HK1.out.lt)) (by decide) e.symm)).only o8 (by simp)), K8, by rw [e8]; exact hr8, hb8, hs8⟩, by simp only [intOf]; omega⟩
    · obtain rfl : k = a.sn.length := by omega
      have dl : decide ((a.sn.length : Int) < (a.sn.length : Int)) = false := decide_eq_false (by omega)
      have q4 : wr.cell? ⟨w.heap.size, 4, none⟩ = some (.slice a.S a.sn.length a.cs') := hk0.cell 4
      have x0 : wr.cell? ⟨w.heap.size + 2, 0, none⟩ = some (.int .i64 a.id) := hk2.cell 0
      have x1 : wr.cell? ⟨w.heap.size + 2, 1, none⟩ = some (.int .i64 a.vw.size) := hk2.cell 1
      have x2 : wr.cell? ⟨w.heap.size + 2, 2, none⟩ = some (.int .i64 a.obj) := hk2.cell 2
      have x3 : wr.cell? ⟨w.heap.size + 2, 3, none⟩ = some (.int .i64 a.seq) := hk2.cell 3
      have x4 : wr.cell? ⟨w.heap.size + 2, 4, none⟩ = some (.slice A a.sn.length c) := hk2.cell 4
      have x5 : wr.cell? ⟨w.heap.size + 2, 5, none⟩ = some (.bool a.vw.on) := hk2.cell 5
      have x6 : wr.cell? ⟨w.heap.size + 2, 6, none⟩ = some (.bool a.vw.good) := hk2.cell 6
      have x7 : wr.cell? ⟨w.heap.size + 2, 7, none⟩ = some (.slice a.vw.M a.vw.row.length a.vw.cm) := hk2.cell 7
      have x8 : wr.cell? ⟨w.heap.size + 2, 8, none⟩ = some (.string (strOf a.vw.par)) := hk2.cell 8
      have x9 : wr.cell? ⟨w.heap.size + 2, 9, none⟩ = some (.int .i64 a.vw.ps) := hk2.cell 9
      have x10 : wr.cell? ⟨w.heap.size + 2, 10, none⟩ = some (.int .i64 a.vw.ov) := hk2.cell 10
      have x11 : wr.cell? ⟨w.heap.size + 2, 11, none⟩ = some (.int .i64 a.ow) := hk2.cell 11
      have x12 : wr.cell? ⟨w.heap.size + 2, 12, none⟩ = some (.int .i64 a.it) := hk2.cell 12
      have x13 : wr.cell? ⟨w.heap.size + 2, 13, none⟩ = some (.int .i64 a.tg) := hk2.cell 13
      have hk1' := hk1
      clear hk0 hk1 hk2 hrow hb
      go_wp2_with (have _h := hk1'; refine wpList_storeq rfl 29 (.tmp 2) (.tmp 63) rfl (w.heap.size + 1) _ [.int .i64 a.id, .int .i64 a.vw.size, .int .i64 a.obj, .int .i64 a.seq, .slice A a.sn.length c, .bool a.vw.on, .bool a.vw.good, .slice a.vw.M a.vw.row.length a.vw.cm, .string (strOf a.vw.par), .int .i64 a.vw.ps, .int .i64 a.vw.ov, .int .i64 a.ow, .int .i64 a.it, .int .i64 a.tg] rfl rfl hk1' rfl (by kernel_rfl) (one14 _ _ _ _ _ _ _ _ _ _ _ _ _ _ _ _ _ _) ?_; clear _h hk1' x0 x1 x2 x3 x4 x5 x6 x7 x8 x9 x10 x11 x12 x13 q4; intro w2 K2 o2 s2)
      refine bodyPost_ret (results_cell_row rfl _ _ (w.heap.size + 1) 29 _ (0, 0) _ rfl K2 Try.underlying29 rfl (by kernel_rfl)) rfl ?_
      have hb2 : Below w.heap.size w w2 := HB.out.trans (o2.below (fun x hx => by simp at hx; omega) HB.out.size)
      have hR2 := HR.out.since hb2
      have hr2 : w2.ownsRow (w.heap.size + 3) 74 11 (.slice A a.sn.length c) a.sn.length ((a.sn.take a.sn.length).flatMap SA.dcells) := row_of HRW.out fun j hj => o2.block j (row_under HRW.out j hj) (fun hm => by simp at hm; have := (World.ownsRow.lt HRW.out j (mem_rowOf.1 hj)).1; omega)
      rw [List.take_length] at hr2
      obtain ⟨-, c1, c2, -⟩ := own_shape hr2
      unfold maxLen at c2
      exact ⟨⟨a.id, a.obj, a.seq, A, c, a.sn, a.vw, a.ow, a.it, a.tg⟩, rfl, rfl, ⟨hR2.vw, Reads.of_own hr2, hR2.sn, hR2.id, hR2.obj, hR2.seq, hR2.ow, hR2.it, hR2.tg, hR2.l1, c1⟩, rfl, rfl, hb2⟩
end Go.Proofs.Ytgddenhnpjoabaa

/-
  What is read of a head, with its snapshots. Conditions: the reader lies where it is said to; its bytes are no more than a million.
-/
namespace Go.Proofs.Ytgddenhnpjoabaa
open Go.RowKit Go.BigFrame
set_option linter.unusedSimpArgs false
set_option linter.unusedVariables false
set_option maxRecDepth 100000
theorem itL_snoc {α σ : Type} (f : σ → α) (g : σ → σ) : ∀ (k : Nat) (s : σ), itL f g (k + 1) s = itL f g k s ++ [f (itT g k s)] ∧ itT g (k + 1) s = g (itT g k s)
  | 0, s => ⟨rfl, rfl⟩
  | k + 1, s => by
    obtain ⟨h1, h2⟩ := itL_snoc f g k (g s)
    refine ⟨?_, ?_⟩
    · show f s :: itL f g (k + 1) (g s) = (f s :: itL f g k (g s)) ++ [f (itT g k (g s))]
      rw [h1]
      rfl
    · exact h2
theorem itT_le {σ : Type} (g : σ → σ) (m : σ → Nat) (h : ∀ s, m (g s) ≤ m s) : ∀ (k : Nat) (s : σ), m (itT g k s) ≤ m s
  | 0, s => Nat.le_refl _
  | k + 1, s => Nat.le_trans (itT_le g m h k (g s)) (h s)
theorem snL_snoc (k : Nat) (s : RD) : RD.snL (k + 1) s = RD.snL k s ++ [(RD.snT k s).snv] ∧ RD.snT (k + 1) s = (RD.snT k s).snTo := by
  unfold RD.snL RD.snT
  exact itL_snoc RD.snv RD.snTo k s
theorem snT_le (k : Nat) (s : RD) : (RD.snT k s).bs.length ≤ s.bs.length := by
  unfold RD.snT
  exact itT_le RD.snTo (fun s => s.bs.length) snTo_le k s
theorem hdv_all (s : RD) (va : VA) (M : Option Addr) (cm : Nat) (l : List SA) (hl : l.map SA.v = RD.snL s.cnt (s.four.take 8)) (h : va = ⟨(s.take 8).num, s.hd1.flag, s.hd1.flagTo.flag, marksOf s.hd1.flagTo.flagTo.bytes, M, cm, s.hd1.mkTo.lkv.par, s.hd1.mkTo.lkv.ps, s.hd1.mkTo.lkv.ov⟩) (S : Option Addr) (c : Nat) :
    HA.v ⟨s.num, ((s.take 8).take 8).num, (((s.take 8).take 8).take 8).num, S, c, l, va, s.hd1.mkTo.lkTo.num, (s.hd1.mkTo.lkTo.take 8).num, ((s.hd1.mkTo.lkTo.take 8).take 8).num⟩ = s.hdv ∧ s.hdTo = ((s.hd1.mkTo.lkTo.take 8).take 8).take 8 := by
  subst h
  unfold HA.v RD.hdv RD.hdTo RD.hd2
  rw [← hl]
  exact ⟨rfl, rfl⟩
theorem wpList_min {ops : Array Oper} {rest : List Oper} {w : World} {o : Oper} {a : Act} {Q : Exit → Act → World → Prop} (hgd : o.guard = none) (x y : Operand) (ho : o.op = .call { callee := .builtin .min, args := #[x, y], argTypes := #[3, 3] })
    (m n r : Int) (hx : a.eval x = .int .i64 m) (hy : a.eval y = .int .i64 n) (hr : min m n = r) (h : wpList Try.prog ops Q rest (a.put o.dst (.int .i64 r)) w) : wpList Try.prog ops Q (o :: rest) a w :=
  wpList_plain hgd fun _ hK => by
    have e : (if n < m then n else m) = r := by rw [← hr]; omega
    unfold Oper.wp execOp
    simp only [ho, resolve, invoke, builtin, Sem.run_bind, Sem.run_pure, Result.andThen_ok, List.map_toArray, List.map_cons, List.map_nil, hx, hy, run_min_int2, e]
    exact hK _ _ h
/-- the snapshots read so far: rows of the call's own, out of the way of the reader -/
structure Sr (w : World) (base : Nat) (G : List Nat) (S : Option Addr) (cS : Nat) (l : List SA) : Prop where
  n : ∀ x ∈ l, x.N w base G
  own : w.ownsRow base 66 11 (.slice S l.length cS) l.length (l.flatMap SA.cells)
  far : ∀ k ∈ rowOf (.slice S 0 0), k ∉ G
theorem Sr.read {w w' : World} {base : Nat} {G G' : List Nat} {S : Option Addr} {cS : Nat} {l : List SA} (h : Sr w base G S cS l) (o : Only G w w') (f : Fresh w G G') : Sr w' base G' S cS l :=
  ⟨fun x hx => (h.n x hx).read o f, row_of h.own fun k hk => o.block k (row_under h.own k hk) (h.far k (by rw [row_slice S 0 0 l.length cS]; exact hk)), fun k hk => far_of (w' := w') (row_under h.own k (by rw [row_slice S l.length cS 0 0]; exact hk)) (h.far k hk) f⟩
theorem Sr.head {w w' : World} {base g : Nat} {G : List Nat} {S : Option Addr} {cS : Nat} {l : List SA} {cs : Array Value} (h : Sr w base G S cS l) (hk : Blk w g 36 cs) (o : Only [g] w w') : Sr w' base G S cS l :=
  ⟨fun x hx => (h.n x hx).stay (stay_only hk (by decide) (by decide) o), row_of h.own fun k hm => o.block k (row_under h.own k hm) (fun hx => by
    simp at hx
    subst hx
    obtain ⟨cs', hb⟩ := own_ty h.own hm
    exact hb.ne_ hk (by decide) rfl), h.far⟩
theorem sr_app {w W4 W5 : World} {base : Nat} {F G : List Nat} {p : Option Addr} {s : RD} {g2 g3 : Nat} {Z2 cs3 : Array Value} {S A5 : Option Addr} {cS c5 : Nat} {l : List SA} {a : SA} (h : Tb base w W4 F G p s 36 g2 g3 Z2 cs3) (hr : Sr W4 w.heap.size G S cS l) (ha : a.N W4 w.heap.size G)
    (h5 : W5.ownsRow w.heap.size 66 11 (.slice A5 (l.length + 1) c5) (l.length + 1) (l.flatMap SA.cells ++ a.cells)) (g5 : W4.grownBy W5 (Value.slice S l.length cS).ownBlock) (a5 : (Value.slice A5 (l.length + 1) c5).ownBlock = (Value.slice S l.length cS).ownBlock ∨ (Value.slice A5 (l.length + 1) c5).ownBlock = some W4.heap.size) :
    Tb base w W5 F G p s 36 g2 g3 Z2 cs3 ∧ Sr W5 w.heap.size G A5 c5 (l ++ [a]) := by
  have hty : ∀ j, (Value.slice S l.length cS).ownBlock = some j → ∃ cs, Blk W4 j 66 cs := fun j hj => own_ty hr.own (mem_rowOf.2 hj)
  have hN : ∀ x : SA, x.N W4 w.heap.size G → x.N W5 w.heap.size G := fun x hx => hx.of (fun k hk => g5.block k (hx.vw.under hk) (fun e => by
    obtain ⟨cs, hb⟩ := hty k e.symm
    obtain ⟨cs', hb'⟩ := hx.vw.ty hk
    exact hb.ne_ hb' (by decide) rfl)) (fun k hk => g5.block k (hx.under hk) (fun e => by
    obtain ⟨cs, hb⟩ := hty k e.symm
    obtain ⟨cs', hb'⟩ := hx.ty hk
    exact hb.ne_ hb' (by decide) rfl))
  refine ⟨h.grow g5 (fun j hj => ⟨hr.far j (by rw [row_slice S 0 0 l.length cS]; exact mem_rowOf.2 hj), ?_, ?_, (World.ownsRow.lt hr.own j hj).1⟩), fun x hx => ?_, ?_, fun k hk => ?_⟩
  · obtain ⟨cs, hb⟩ := hty j hj
    exact hb.ne_ h.k2 (by decide)
  · obtain ⟨cs, hb⟩ := hty j hj
    exact hb.ne_ h.k3 (by decide)
  · rcases List.mem_append.1 hx with hx | hx
    · exact hN x (hr.n x hx)
    · simp only [List.mem_singleton] at hx
      subst hx
      exact hN x ha
  · rw [List.flatMap_append, List.length_append]
    simpa using h5
  · rw [row_slice A5 0 0 (l.length + 1) c5, mem_rowOf] at hk
    rcases a5 with e | e
    · rw [e] at hk
      exact hr.far k (by rw [row_slice S 0 0 l.length cS]; exact mem_rowOf.2 hk)
    · rw [e] at hk
      injection hk with hk
      subst hk
      exact fun hm => by have := h.rd.under _ hm; omega
theorem Sr.below {w w' : World} {base : Nat} {G : List Nat} {S : Option Addr} {cS : Nat} {l : List SA} (h : Sr w base G S cS l) (hb : Below w.heap.size w w') : Sr w' base G S cS l :=
  ⟨fun x hx => (h.n x hx).below hb, own_below h.own hb, h.far⟩
set_option maxHeartbeats 16000000 in
theorem thead_any (w : World) (base : Nat) (F : List Nat) (p : Option Addr) (s : RD) (h : Rd w base F p s) (hB : base ≤ w.heap.size) (hs : s.bs.length ≤ 1000000) :
    Calls Try.prog 50 #[.pointer p] w (THeadTo w base F p s) := by
  obtain ⟨w0, hw0⟩ : ∃ w0, w0 = w.alloc (.cells #[.int .i64 0, .int .i64 0, .int .i64 0, .int .i64 0, .slice none 0 0, .bool false, .bool false, .slice none 0 0, .string ⟨#[]⟩, .int .i64 0, .int .i64 0, .int .i64 0, .int .i64 0, .int .i64 0] 36) := ⟨_, rfl⟩
  have hb0 : Below w.heap.size w w0 := by rw [hw0]; exact below_alloc w _
  have k0 : Blk w0 w.heap.size 36 #[.int .i64 0, .int .i64 0, .int .i64 0, .int .i64 0, .slice none 0 0, .bool false, .bool false, .slice none 0 0, .string ⟨#[]⟩, .int .i64 0, .int .i64 0, .int .i64 0, .int .i64 0, .int .i64 0] := by rw [hw0]; exact Blk.new w _ _
  have hn : w.heap.size ∉ F := fun hm => by have := h.under _ hm; omega
  have HR0 := Lib.hid (h.below hb0)
  have HW := Lib.hid hw0
  have HK := Lib.hid (And.intro k0 hn)
  have HB0 := Lib.hid hb0
  have hz := head_zero
  obtain ⟨s5, hs5⟩ : ∃ s5, s5 = s.four.take 8 := ⟨_, rfl⟩
  have HL : Hid (s5.bs.length ≤ 1000000) := Lib.hid (by rw [hs5]; exact Nat.le_trans (RD.take_le _ _) (Nat.le_trans (RD.take_le _ _) (Nat.le_trans (RD.take_le _ _) (Nat.le_trans (RD.take_le _ _) (Nat.le_trans (RD.take_le _ _) hs)))))
  have HS5 := Lib.hid hs5
  obtain ⟨n, hn0⟩ : ∃ n, n = s.cnt := ⟨_, rfl⟩
  have hn16 : n ≤ 16 := by rw [hn0]; unfold RD.cnt; omega
  obtain ⟨vb, hvb⟩ : ∃ vb, vb = min s.four.num 16 := ⟨_, rfl⟩
  have hnv : n = vb.toNat := by rw [hn0, hvb]; rfl
  obtain ⟨s6, hs6⟩ : ∃ s6, s6 = s.hd1 := ⟨_, rfl⟩
  have H56 : Hid (s6 = RD.snT n s5) := Lib.hid (by rw [hs6, hn0, hs5]; rfl)
  have HHV := Lib.hid (hdv_all s)
  rw [← hs6, ← hn0, ← hs5] at HHV
  have HVB := Lib.hid hvb
  have HLK : Hid (∀ k, (RD.snT k s5).bs.length ≤ 1000000) := Lib.hid fun k => Nat.le_trans (snT_le k s5) HL.out
  have HL6 : Hid (s6.bs.length ≤ 1000000) := Lib.hid (by rw [H56.out]; exact HLK.out n)
  obtain ⟨i1, hi1⟩ : ∃ i1, i1 = s.num := ⟨_, rfl⟩
  obtain ⟨i2, hi2⟩ : ∃ i2, i2 = (s.take 8).num := ⟨_, rfl⟩
  obtain ⟨i3, hi3⟩ : ∃ i3, i3 = ((s.take 8).take 8).num := ⟨_, rfl⟩
  obtain ⟨i4, hi4⟩ : ∃ i4, i4 = (((s.take 8).take 8).take 8).num := ⟨_, rfl⟩
  rw [← hi1, ← hi2, ← hi3, ← hi4] at HHV
  have HI := Lib.hid (And.intro hi1 (And.intro hi2 (And.intro hi3 hi4)))
  have HI2 : Hid (I64 i2) := Lib.hid (by rw [hi2]; exact num_range _)
  clear h hw0 k0 hn hb0 hs5 hs hn0 hvb hs6 hi1 hi2 hi3 hi4
  go_enter Try.func50, Try.ntmps50
  go_upto_region 1 with (fail)
  rw [← HW.out]
  clear HW hz
  go_wp2_with fail
  refine (rnum_any w0 base F p _ HR0.out (Nat.le_trans hB HB0.out.size)).mono ?_
  rintro e w1 ⟨rfl, G1, r, o, f⟩
  rw [← HI.out.1]
  have H1 := Lib.hid (And.intro r (And.intro o f))
  clear r o f
  go_wp2_with fail
  refine (rnum_any w1 base G1 p _ H1.out.1 (Nat.le_trans hB (Nat.le_trans HB0.out.size H1.out.2.1.size))).mono ?_
  rintro e w2 ⟨rfl, G2, r, o, f⟩
  rw [← HI.out.2.1]
  have H2 := Lib.hid (And.intro r (And.intro (H1.out.2.1.trans o H1.out.2.2) (H1.out.2.2.trans f H1.out.2.1.size)))
  clear r o f
  go_wp2_with fail
  refine (rnum_any w2 base G2 p _ H2.out.1 (Nat.le_trans hB (Nat.le_trans HB0.out.size H2.out.2.1.size))).mono ?_
  rintro e w3 ⟨rfl, G3, r, o, f⟩
  rw [← HI.out.2.2.1]
  have H3 := Lib.hid (And.intro r (And.intro (H2.out.2.1.trans o H2.out.2.2) (H2.out.2.2.trans f H2.out.2.1.size)))
  clear r o f
  go_wp2_with fail
  refine (rnum_any w3 base G3 p _ H3.out.1 (Nat.le_trans hB (Nat.le_trans HB0.out.size H3.out.2.1.size))).mono ?_
  rintro e w4 ⟨rfl, G4, r, o, f⟩
  rw [← HI.out.2.2.2]
  have H4 := Lib.hid (And.intro r (And.intro (H3.out.2.1.trans o H3.out.2.2) (H3.out.2.2.trans f H3.out.2.1.size)))
  clear r o f
  obtain ⟨w5, hw5⟩ : ∃ w5, w5 = w4.alloc (.cells #[.int .i64 i1, .int .i64 i2, .int .i64 i3, .int .i64 i4, .slice none 0 0, .bool false, .bool false, .slice none 0 0, .string ⟨#[]⟩, .int .i64 0, .int .i64 0, .int .i64 0, .int .i64 0, .int .i64 0] 36) := ⟨_, rfl⟩
  obtain ⟨g3, hg3⟩ : ∃ g3, g3 = w4.heap.size := ⟨_, rfl⟩
  have hlt03 : w.heap.size < w4.heap.size := Nat.lt_of_lt_of_le HK.out.1.lt H4.out.2.1.size
  have HT5 : Hid (Tb base w w5 F G4 p s.four 36 w.heap.size g3 #[.int .i64 0, .int .i64 0, .int .i64 0, .int .i64 0, .slice none 0 0, .bool false, .bool false, .slice none 0 0, .string ⟨#[]⟩, .int .i64 0, .int .i64 0, .int .i64 0, .int .i64 0, .int .i64 0] #[.int .i64 i1, .int .i64 i2, .int .i64 i3, .int .i64 i4, .slice none 0 0, .bool false, .bool false, .slice none 0 0, .string ⟨#[]⟩, .int .i64 0, .int .i64 0, .int .i64 0, .int .i64 0, .int .i64 0]) := Lib.hid (by
    have hb4 : Below w4.heap.size w4 w5 := by rw [hw5]; exact below_alloc w4 _
    refine ⟨H4.out.1.below hb4, (Only.of_below HB0.out F).trans (H4.out.2.1.trans (Only.of_below hb4 G4) H4.out.2.2) (Fresh.refl _ _), fun x hx => (H4.out.2.2 x hx).imp id (Nat.le_trans HB0.out.size), (HK.out.1.of (H4.out.2.1.block _ HK.out.1.lt HK.out.2)).of (hb4.block _ hlt03), far_of (w' := w4) HK.out.1.lt HK.out.2 H4.out.2.2, ?_, ?_, ?_, ?_⟩
    · rw [hw5, hg3]; exact Blk.new w4 _ _
    · rw [hg3]; exact fun hm => by have := H4.out.1.under _ hm; omega
    · exact Nat.le_refl _
    · omega)
  have HNE : Hid (w.heap.size ≠ g3) := Lib.hid (by rw [hg3]; omega)
  have HW5 := Lib.hid (And.intro hw5 hg3)
  clear hw5 hg3
  go_upto_region 2 with (fail)
  rw [← HW5.out.1, ← HW5.out.2]
  clear HW5
  have hb5 := Nat.le_trans hB HT5.out.only.size
  go_wp2_with fail
  refine (rnum_any w5 base G4 p _ HT5.out.rd hb5).mono ?_
  rintro e w6 ⟨rfl, G6, r, o, f⟩
  rw [← HS5.out] at r
  have HT6 := Lib.hid (HT5.out.read r o f)
  clear r o f hb5
  go_wp2_with (refine wpList_min rfl (.tmp 14) (.const (.int .i64 16)) rfl s.four.num 16 vb rfl rfl HVB.out.symm ?_)
  go_loopw [16] (fun i wr => ∃ (k : Nat) (l : List SA) (S : Option Addr) (cS : Nat) (G : List Nat), k ≤ n ∧ i = .int .i64 k ∧ l.length = k ∧ l.map SA.v = RD.snL k s5 ∧ Tb base w wr F G p (RD.snT k s5) 36 w.heap.size g3 #[.int .i64 0, .int .i64 0, .int .i64 0, .int .i64 0, .slice none 0 0, .bool false, .bool false, .slice none 0 0, .string ⟨#[]⟩, .int .i64 0, .int .i64 0, .int .i64 0, .int .i64 0, .int .i64 0] #[.int .i64 i1, .int .i64 i2, .int .i64 i3, .int .i64 i4, .slice S l.length cS, .bool false, .bool false, .slice none 0 0, .string ⟨#[]⟩, .int .i64 0, .int .i64 0, .int .i64 0, .int .i64 0, .int .i64 0] ∧ Sr wr w.heap.size G S cS l) (fun i _ => n - (intOf i).toNat)
  case atStart => exact ⟨0, [], none, 0, _, by omega, rfl, rfl, rfl, HT6.out, ⟨fun x hx => (by cases hx), World.ownsRow_nil _ _ _ 11, fun k hk => (by cases hk)⟩⟩
  case round =>
  obtain ⟨k, l, S, cS, G6, hk, rfl, hll, hlv, hT, hR⟩ := hrel
  have hlv0 := hlv
  by_cases hlt : k < n
  · have dl : decide ((k : Int) < vb) = true := decide_eq_true (by omega)
    have hwk : IntKind.i64.wrap ((k : Int) + 1) = (k : Int) + 1 := by rw [IntKind.wrap_i64]; omega
    have HTK := Lib.hid hT
    have HRK := Lib.hid hR
    have HLV := Lib.hid (And.intro hll hlv)
    clear hll hlv hlv0 hT hR
    go_upto_region 4 with (fail)
    have hS : Blk (World.drew wr) g3 36 #[.int .i64 i1, .int .i64 i2, .int .i64 i3, .int .i64 i4, .slice S l.length cS, .bool false, .bool false, .slice none 0 0, .string ⟨#[]⟩, .int .i64 0, .int .i64 0, .int .i64 0, .int .i64 0, .int .i64 0] := HTK.out.k3
    refine any_beginL (fun W => Blk W g3 36 #[.int .i64 i1, .int .i64 i2, .int .i64 i3, .int .i64 i4, .slice S l.length cS, .bool false, .bool false, .slice none 0 0, .string ⟨#[]⟩, .int .i64 0, .int .i64 0, .int .i64 0, .int .i64 0, .int .i64 0]) 7 (by kernel_rfl) ?_
    refine L_take (i := 0) (v := .pointer (some ⟨g3, 4, none⟩)) rfl rfl (by kernel_rfl) (by kernel_rfl) (by kernel_rfl) (by kernel_rfl) (fun _ _ _ h => h) (Or.inl ⟨by rfl, fun W hw => by go_simp⟩) hS ?_
    simp only [Act.put, List.getElem_toArray, List.getElem_cons_succ, List.getElem_cons_zero, List.setIfInBounds_toArray, List.set_cons_zero, List.set_cons_succ]
    refine L_take (i := 1) (v := .slice S l.length cS) rfl rfl (by kernel_rfl) (by kernel_rfl) (by kernel_rfl) (by kernel_rfl) (fun _ _ _ h => h) (Or.inl ⟨by rfl, fun W hw => by have q : W.cell? ⟨g3, 4, none⟩ = some (.slice S l.length cS) := hw.cell 4; go_simp⟩) hS ?_
    simp only [Act.put, List.getElem_toArray, List.getElem_cons_succ, List.getElem_cons_zero, List.setIfInBounds_toArray, List.set_cons_zero, List.set_cons_succ]
    refine L_take (i := 2) (v := .pointer p) rfl rfl (by kernel_rfl) (by kernel_rfl) (by kernel_rfl) (by kernel_rfl) (fun _ _ _ h => h) (Or.inl ⟨by rfl, fun W hw => by go_simp⟩) hS ?_
    simp only [Act.put, List.getElem_toArray, List.getElem_cons_succ, List.getElem_cons_zero, List.setIfInBounds_toArray, List.set_cons_zero, List.set_cons_succ]
    have hTd : Tb base w (World.drew wr) F G6 p (RD.snT k s5) 36 w.heap.size g3 #[.int .i64 0, .int .i64 0, .int .i64 0, .int .i64 0, .slice none 0 0, .bool false, .bool false, .slice none 0 0, .string ⟨#[]⟩, .int .i64 0, .int .i64 0, .int .i64 0, .int .i64 0, .int .i64 0] #[.int .i64 i1, .int .i64 i2, .int .i64 i3, .int .i64 i4, .slice S l.length cS, .bool false, .bool false, .slice none 0 0, .string ⟨#[]⟩, .int .i64 0, .int .i64 0, .int .i64 0, .int .i64 0, .int .i64 0] := HTK.out.next (Below.refl _ wr).drew
    have hRd : Sr (World.drew wr) w.heap.size G6 S cS l := HRK.out.below (Below.refl _ wr).drew
    have HTd := Lib.hid hTd
    have HRd := Lib.hid hRd
    clear hTd hRd
    refine L_one (j := 3) (by kernel_rfl) rfl (by rfl) ?_
    simp only [Act.put, List.getElem_toArray, List.getElem_cons_succ, List.getElem_cons_zero, List.setIfInBounds_toArray, List.set_cons_zero, List.set_cons_succ]
    refine wp_called (by go_simp) (tsnap_any (World.drew wr) base G6 p (RD.snT k s5) HTd.out.rd (Nat.le_trans hB HTd.out.only.size) (HLK.out k)) ?_
    rintro e W3 ⟨a, G7, rfl, hav, haN, r, o, f⟩
    have HT3 := Lib.hid (HTd.out.read r o f)
    have HR3 := Lib.hid (HRd.out.read o f)
    have HN3 := Lib.hid (haN.weaken (show w.heap.size ≤ _ from HTd.out.only.size))
    have HAV := Lib.hid hav
    clear r o f haN hav
    refine ⟨_, rfl, HT3.out.k3, ?_⟩
    unfold SA.cells
    simp only [Act.put, List.getElem_toArray, List.getElem_cons_succ, List.getElem_cons_zero, List.setIfInBounds_toArray, List.set_cons_zero, List.set_cons_succ]
    refine L_one (j := 4) (by kernel_rfl) rfl (by rfl) ?_
    simp only [Act.put, List.getElem_toArray, List.getElem_cons_succ, List.getElem_cons_zero, List.setIfInBounds_toArray, List.set_cons_zero, List.set_cons_succ]
    obtain ⟨W4, hW4⟩ : ∃ W', W' = World.alloc W3 (.cells a.cells.toArray 66) := ⟨_, rfl⟩
    have hb4 : Below W3.heap.size W3 W4 := by rw [hW4]; exact below_alloc _ _
    have hn4 : Reads W4 (W3.heap.size + 1) 11 (some ⟨W3.heap.size, 0, none⟩) 1 a.cells := by rw [hW4]; exact Reads.newN W3 a.cells 1 11 66 (0, 0) rfl
    refine wp_ran (v := .slice (some ⟨W3.heap.size, 0, none⟩) 1 1) (w' := W4) (by rw [hW4]; unfold SA.cells; go_simp) ⟨(HT3.out.next hb4).k3, ?_⟩
    simp only [Act.put, List.getElem_toArray, List.getElem_cons_succ, List.getElem_cons_zero, List.setIfInBounds_toArray, List.set_cons_zero, List.set_cons_succ]
    have HT4 := Lib.hid (HT3.out.next hb4)
    have HR4 := Lib.hid (HR3.out.below hb4)
    have HN4 := Lib.hid (HN3.out.below hb4)
    have hz4 : W3.heap.size ≤ W4.heap.size := hb4.size
    clear hW4 hb4
    refine L_one (j := 5) (by kernel_rfl) rfl (by rfl) ?_
    simp only [Act.put, List.getElem_toArray, List.getElem_cons_succ, List.getElem_cons_zero, List.setIfInBounds_toArray, List.set_cons_zero, List.set_cons_succ]
    obtain ⟨i0, hi0, hz0, hz1, hz2⟩ := info_parts snap_info
    refine wp_append_any _ (.tmp 19) (.tmp 22) 32 rfl w.heap.size 66 i0 _ 11 120 Try.underlying32 hi0 hz0 hz1 hz2 rfl (by omega) (.slice S l.length cS) l.length (l.flatMap SA.cells) rfl HR4.out.own (W3.heap.size + 1) (some ⟨W3.heap.size, 0, none⟩) 1 1 a.cells rfl hn4 (SA.cells_one a) (by have := HLV.out.1; simp only [maxLen]; omega) (by have := HLV.out.1; omega) HT4.out.only.size ?_
    intro v5 W5 h5 g5 a5
    obtain ⟨A5, c5, rfl⟩ := own_form h5
    have HS5' := Lib.hid (sr_app HT4.out HR4.out HN4.out h5 g5 a5)
    refine ⟨HS5'.out.1.k3, ?_⟩
    simp only [Act.put, List.getElem_toArray, List.getElem_cons_succ, List.getElem_cons_zero, List.setIfInBounds_toArray, List.set_cons_zero, List.set_cons_succ]
    refine L_take (i := 6) (v := .pointer (some ⟨g3, 4, none⟩)) rfl rfl (by kernel_rfl) (by kernel_rfl) (by kernel_rfl) (by kernel_rfl) (fun _ _ _ h => h) (Or.inl ⟨by rfl, fun W hw => by go_simp⟩) HS5'.out.1.k3 ?_
    simp only [Act.put, List.getElem_toArray, List.getElem_cons_succ, List.getElem_cons_zero, List.setIfInBounds_toArray, List.set_cons_zero, List.set_cons_succ]
    refine L_last (by kernel_rfl) rfl (by rfl) (by kernel_rfl) ?_
    simp only [Act.put, List.getElem_toArray, List.getElem_cons_succ, List.getElem_cons_zero, List.setIfInBounds_toArray, List.set_cons_zero, List.set_cons_succ]
    refine wp_setq 32 (.tmp 24) (.tmp 23) rfl g3 4 36 _ (.slice A5 (l.length + 1) c5) rfl rfl HS5'.out.1.k3 (by simp) (by kernel_rfl) rfl ?_
    intro W6 K6 o6 z6
    refine NoPanic.normal ?_
    have HT6 := Lib.hid (HS5'.out.1.store HNE.out K6 o6 z6)
    have HR6 := Lib.hid (HS5'.out.2.head HS5'.out.1.k3 o6)
    clear h5 g5 a5 K6 o6 z6 hn4
    go_wp2
    have e := snL_snoc k s5
    exact ⟨⟨k + 1, l ++ [a], A5, c5, G7, by omega, by go_num, by simp [HLV.out.1], by rw [e.1, List.map_append, HLV.out.2]; simp [HAV.out], by rw [e.2]; simpa using HT6.out, HR6.out⟩, by simp only [intOf]; omega⟩
  · obtain rfl : k = n := by omega
    have dl : decide ((k : Int) < vb) = false := decide_eq_false (by omega)
    have HT6 : Hid (Tb base w wr F G6 p s6 36 w.heap.size g3 #[.int .i64 0, .int .i64 0, .int .i64 0, .int .i64 0, .slice none 0 0, .bool false, .bool false, .slice none 0 0, .string ⟨#[]⟩, .int .i64 0, .int .i64 0, .int .i64 0, .int .i64 0, .int .i64 0] #[.int .i64 i1, .int .i64 i2, .int .i64 i3, .int .i64 i4, .slice S l.length cS, .bool false, .bool false, .slice none 0 0, .string ⟨#[]⟩, .int .i64 0, .int .i64 0, .int .i64 0, .int .i64 0, .int .i64 0]) := Lib.hid (by rw [H56.out]; exact hT)
    have HR6 := Lib.hid hR
    have HLV := Lib.hid (And.intro hll hlv)
    clear hll hlv hlv0 hT hR
    go_upto_region 6 with (fail)
    have hb6 := Nat.le_trans hB HT6.out.only.size
    go_wp2_with fail
    refine (rflag_any wr base G6 p _ HT6.out.rd hb6).mono ?_
    rintro e w7 ⟨rfl, G7, r, o, f⟩
    have HT7 := Lib.hid (HT6.out.read r o f)
    have HR7 := Lib.hid (HR6.out.read o f)
    clear r o f hb6
    have hb7 := Nat.le_trans hB HT7.out.only.size
    go_wp2_with fail
    refine (rflag_any w7 base G7 p _ HT7.out.rd hb7).mono ?_
    rintro e w8 ⟨rfl, G8, r, o, f⟩
    have HT8 := Lib.hid (HT7.out.read r o f)
    have HR8 := Lib.hid (HR7.out.read o f)
    clear r o f hb7
    have hb8 := Nat.le_trans hB HT8.out.only.size
    have hl8 : s6.flagTo.flagTo.bs.length ≤ 1000000 := Nat.le_trans (flagTo_le _) (Nat.le_trans (flagTo_le _) HL6.out)
    go_wp2_with fail
    refine (tmarks_any w8 base G8 p _ HT8.out.rd hb8 hl8).mono ?_
    rintro e w9 ⟨M, cm, G9, rfl, hm, r, o, f, far⟩
    have HT9 := Lib.hid (HT8.out.read r o f)
    have HR9 := Lib.hid (HR8.out.read o f)
    have HM9 := Lib.hid (And.intro (Own.weaken (base' := w.heap.size) hm HT8.out.only.size) far)
    clear r o f hb8 hl8 hm far
    have hb9 := Nat.le_trans hB HT9.out.only.size
    go_wp2_with fail
    refine (tlink_any w9 base G9 p _ HT9.out.rd hb9).mono ?_
    rintro e w10 ⟨rfl, G10, r, o, f⟩
    obtain ⟨s7, hs7⟩ : ∃ s7, s7 = s6.mkTo.lkTo := ⟨_, rfl⟩
    have HT10 : Hid (Tb base w w10 F G10 p s7 36 w.heap.size g3 #[.int .i64 0, .int .i64 0, .int .i64 0, .int .i64 0, .slice none 0 0, .bool false, .bool false, .slice none 0 0, .string ⟨#[]⟩, .int .i64 0, .int .i64 0, .int .i64 0, .int .i64 0, .int .i64 0] #[.int .i64 i1, .int .i64 i2, .int .i64 i3, .int .i64 i4, .slice S l.length cS, .bool false, .bool false, .slice none 0 0, .string ⟨#[]⟩, .int .i64 0, .int .i64 0, .int .i64 0, .int .i64 0, .int .i64 0]) := Lib.hid (by rw [hs7]; exact HT9.out.read r o f)
    obtain ⟨va, hva⟩ : ∃ va : VA, va = ⟨i2, s6.flag, s6.flagTo.flag, marksOf s6.flagTo.flagTo.bytes, M, cm, s6.mkTo.lkv.par, s6.mkTo.lkv.ps, s6.mkTo.lkv.ov⟩ := ⟨_, rfl⟩
    have HVA10 : Hid (va.N w10 w.heap.size G10) := Lib.hid (by
      have hk : ∀ k ∈ rowOf (.slice M 0 0), k < w9.heap.size := fun k hk => row_under HM9.out.1 k (by rw [row_slice M _ _ 0 0]; exact hk)
      have hg := HT9.out.rd.good
      have hle : s6.mkTo.lkv.par.length ≤ 1000000 := Nat.le_trans (bytes_le _) (Nat.le_trans (mkTo_le _) HL6.out)
      subst hva
      exact ⟨row_of HM9.out.1 (fun k h9 => o.block k (row_under HM9.out.1 k h9) (HM9.out.2 k (by rw [row_slice M 0 0 (marksOf s6.flagTo.flagTo.bytes).length cm]; exact h9))), fun k h9 => far_of (w' := w10) (hk k h9) (HM9.out.2 k h9) f, fun b hb => by have := (marksOf_good s6.flagTo.flagTo.bytes).2 b hb; omega, RD.got_lt (RD.take_good hg 8) _, HI2.out, num_range _, num_range _, hle⟩)
    have HVE := Lib.hid hva
    have HHF := Lib.hid (HHV.out va M cm l HLV.out.2 hva S cS)
    have K10 := HT10.out.k3
    rw [← hs7] at HHF
    have HS7 := Lib.hid hs7
    have HR10 := Lib.hid (HR9.out.read o f)
    clear r o f hb9 hva hs7 HHV
    go_wp2_with (first
      | (have _h := K10; refine wpList_setq rfl 4 (.tmp 34) (.tmp 27) rfl g3 5 36 _ (.bool s6.flag) rfl rfl K10 (by simp) (by kernel_rfl) rfl ?_; clear _h K10; intro wA KA oA sA)
      | (have _h := KA; refine wpList_setq rfl 4 (.tmp 35) (.tmp 29) rfl g3 6 36 _ (.bool s6.flagTo.flag) rfl rfl KA (by simp) (by kernel_rfl) rfl ?_; have KA' := KA; clear _h KA; intro wB KB oB sB)
      | (have _h := KB; refine wpList_setq rfl 33 (.tmp 36) (.tmp 31) rfl g3 7 36 _ (.slice M (marksOf s6.flagTo.flagTo.bytes).length cm) rfl rfl KB (by simp) (by kernel_rfl) rfl ?_; have KB' := KB; clear _h KB; intro wC KC oC sC)
      | (have _h := KC; refine wpList_set3 rfl 34 (.tmp 37) (.tmp 33) rfl g3 8 36 _ (.string (strOf s6.mkTo.lkv.par)) (.int .i64 s6.mkTo.lkv.ps) (.int .i64 s6.mkTo.lkv.ov) rfl rfl KC (by simp) (by kernel_rfl) rfl rfl rfl ?_; have KC' := KC; clear _h KC; intro wD KD oD sD; have KD' := KD; clear KD))
    have HTD : Hid (Tb base w wD F G10 p s7 36 w.heap.size g3 #[.int .i64 0, .int .i64 0, .int .i64 0, .int .i64 0, .slice none 0 0, .bool false, .bool false, .slice none 0 0, .string ⟨#[]⟩, .int .i64 0, .int .i64 0, .int .i64 0, .int .i64 0, .int .i64 0] #[.int .i64 i1, .int .i64 va.size, .int .i64 i3, .int .i64 i4, .slice S l.length cS, .bool va.on, .bool va.good, .slice va.M va.row.length va.cm, .string (strOf va.par), .int .i64 va.ps, .int .i64 va.ov, .int .i64 0, .int .i64 0, .int .i64 0]) := Lib.hid (by
      have := (((HT10.out.store HNE.out KA' oA sA).store HNE.out KB' oB sB).store HNE.out KC' oC sC).store HNE.out KD' oD sD
      rw [HVE.out]
      simpa using this)
    have HVD : Hid (va.N wD w.heap.size G10) := Lib.hid ((((HVA10.out.stay (stay_only HT10.out.k3 (by decide) (by decide) oA)).stay (stay_only KA' (by decide) (by decide) oB)).stay (stay_only KB' (by decide) (by decide) oC)).stay (stay_only KC' (by decide) (by decide) oD))
    have HRD := Lib.hid ((((HR10.out.head HT10.out.k3 oA).head KA' oB).head KB' oC).head KC' oD)
    clear KA' KB' KC' KD' oA oB oC oD sA sB sC sD
    obtain ⟨j1, hj1⟩ : ∃ j1, j1 = s7.num := ⟨_, rfl⟩
    obtain ⟨j2, hj2⟩ : ∃ j2, j2 = (s7.take 8).num := ⟨_, rfl⟩
    obtain ⟨j3, hj3⟩ : ∃ j3, j3 = ((s7.take 8).take 8).num := ⟨_, rfl⟩
    rw [← hj1, ← hj2, ← hj3] at HHF
    have HJ := Lib.hid (And.intro hj1 (And.intro hj2 hj3))
    clear hj1 hj2 hj3
    have hbx := Nat.le_trans hB HTD.out.only.size
    go_wp2_with fail
    refine (rnum_any wD base G10 p _ HTD.out.rd hbx).mono ?_
    rintro e y0 ⟨rfl, K0, r, o, f⟩
    rw [← HJ.out.1]
    have HTY0 := Lib.hid (HTD.out.read r o f)
    have HRY0 := Lib.hid (HRD.out.read o f)
    have HVY0 := Lib.hid (HVD.out.read o f)
    clear r o f hbx
    have hbx := Nat.le_trans hB HTY0.out.only.size
    go_wp2_with fail
    refine (rnum_any y0 base K0 p _ HTY0.out.rd hbx).mono ?_
    rintro e y1 ⟨rfl, K1, r, o, f⟩
    rw [← HJ.out.2.1]
    have HTY1 := Lib.hid (HTY0.out.read r o f)
    have HRY1 := Lib.hid (HRY0.out.read o f)
    have HVY1 := Lib.hid (HVY0.out.read o f)
    clear r o f hbx
    have hbx := Nat.le_trans hB HTY1.out.only.size
    go_wp2_with fail
    refine (rnum_any y1 base K1 p _ HTY1.out.rd hbx).mono ?_
    rintro e y2 ⟨rfl, K2, r, o, f⟩
    rw [← HJ.out.2.2]
    have HTY2 := Lib.hid (HTY1.out.read r o f)
    have HRY2 := Lib.hid (HRY1.out.read o f)
    have HVY2 := Lib.hid (HVY1.out.read o f)
    clear r o f hbx
    have KY := HTY2.out.k3
    go_upto_region 8 with (first
      | (have _h := KY; refine wpList_setq rfl 3 (.tmp 44) (.tmp 39) rfl g3 11 36 _ (.int .i64 j1) rfl rfl KY (by simp) (by kernel_rfl) rfl ?_; clear _h KY; intro wA KA oA sA)
      | (have _h := KA; refine wpList_setq rfl 3 (.tmp 45) (.tmp 41) rfl g3 12 36 _ (.int .i64 j2) rfl rfl KA (by simp) (by kernel_rfl) rfl ?_; have KA' := KA; clear _h KA; intro wB KB oB sB)
      | (have _h := KB; refine wpList_setq rfl 3 (.tmp 46) (.tmp 43) rfl g3 13 36 _ (.int .i64 j3) rfl rfl KB (by simp) (by kernel_rfl) rfl ?_; have KB' := KB; clear _h KB; intro wC KC oC sC; have KC' := KC; clear KC))
    have HTE : Hid (Tb base w wC F K2 p (((s7.take 8).take 8).take 8) 36 w.heap.size g3 #[.int .i64 0, .int .i64 0, .int .i64 0, .int .i64 0, .slice none 0 0, .bool false, .bool false, .slice none 0 0, .string ⟨#[]⟩, .int .i64 0, .int .i64 0, .int .i64 0, .int .i64 0, .int .i64 0] #[.int .i64 i1, .int .i64 va.size, .int .i64 i3, .int .i64 i4, .slice S l.length cS, .bool va.on, .bool va.good, .slice va.M va.row.length va.cm, .string (strOf va.par), .int .i64 va.ps, .int .i64 va.ov, .int .i64 j1, .int .i64 j2, .int .i64 j3]) := Lib.hid (by
      have := ((HTY2.out.store HNE.out KA' oA sA).store HNE.out KB' oB sB).store HNE.out KC' oC sC
      simpa using this)
    have HVZ : Hid (va.N wC w.heap.size K2) := Lib.hid (((HVY2.out.stay (stay_only HTY2.out.k3 (by decide) (by decide) oA)).stay (stay_only KA' (by decide) (by decide) oB)).stay (stay_only KB' (by decide) (by decide) oC))
    have HRE := Lib.hid (((HRY2.out.head HTY2.out.k3 oA).head KA' oB).head KB' oC)
    have K3 := HTE.out.k3
    have Q2 := HTE.out.k2
    clear KA' KB' KC' oA oB oC sA sB sC
    go_wp2_with (first
      | (have _h := K3; refine wpList_loadq rfl 36 (.tmp 3) rfl g3 [.int .i64 i1, .int .i64 va.size, .int .i64 i3, .int .i64 i4, .slice S l.length cS, .bool va.on, .bool va.good, .slice va.M va.row.length va.cm, .string (strOf va.par), .int .i64 va.ps, .int .i64 va.ov, .int .i64 j1, .int .i64 j2, .int .i64 j3] _ rfl K3 Try.underlying36 rfl (by kernel_rfl) ?_; clear _h K3)
      | (have _h := Q2; refine wpList_storeq rfl 36 (.tmp 2) (.tmp 47) rfl w.heap.size _ [.int .i64 i1, .int .i64 va.size, .int .i64 i3, .int .i64 i4, .slice S l.length cS, .bool va.on, .bool va.good, .slice va.M va.row.length va.cm, .string (strOf va.par), .int .i64 va.ps, .int .i64 va.ov, .int .i64 j1, .int .i64 j2, .int .i64 j3] rfl rfl Q2 (by simp) (by kernel_rfl) (one14 _ _ _ _ _ _ _ _ _ _ _ _ _ _ _ _ _ _) ?_; clear _h Q2; intro w99 K99 o9 s9))
    refine bodyPost_ret (results_cell_row rfl _ _ w.heap.size 36 _ (0, 0) _ rfl K99 Try.underlying36 rfl (by kernel_rfl)) rfl ?_
    have hT := HTE.out
    have st := stay_only hT.k2 (by decide) (by decide) o9
    have hR9 := HRE.out.head hT.k2 o9
    refine ⟨⟨i1, i3, i4, S, cS, l, va, j1, j2, j3⟩, K2, rfl, HHF.out.1, HVZ.out.stay st, hR9.n, hR9.own, hR9.far, ?_, ?_, hT.fresh⟩
    · rw [HHF.out.2]
      exact hT.rd.of (by omega) (fun j hj => o9.block j (hT.rd.under j hj) (fun hm => by simp at hm; subst hm; exact hT.n2 hj))
    · exact ⟨o9.os.trans hT.only.os, o9.tape.trans hT.only.tape, o9.output.trans hT.only.output, by have := hT.only.size; omega, fun i hi hn => (o9.block i (by have := hT.only.size; omega) (by simp; omega)).trans (hT.only.block i hi hn)⟩
end Go.Proofs.Ytgddenhnpjoabaa

/-
  The document's links as bytes. Conditions: the name reads as bytes, and is no more than a million.
-/
namespace Go.Proofs.Ytgddenhnpjoabaa
open Go.RowKit Go.BigFrame
set_option linter.unusedSimpArgs false
set_option linter.unusedVariables false
set_option maxRecDepth 100000
set_option maxHeartbeats 2000000 in
theorem dputlink_any (l : LkV) (w : World) (hb : ∀ b ∈ l.par, b < 256) (hl : l.par.length ≤ 1000000) : Calls Try.prog 56 #[.agg #[.string (strOf l.par), .int .i64 l.ps, .int .i64 l.ov]] w fun e w' => ∃ v, e = .returned v ∧ OwnB w w' v (putLk l) := by
  obtain ⟨W1, hW1⟩ : ∃ W, W = w.alloc (.cells #[.string (strOf l.par), .int .i64 l.ps, .int .i64 l.ov] 27) := ⟨_, rfl⟩
  have b1 : Below w.heap.size w W1 := by rw [hW1]; exact below_alloc w _
  have k1 : Blk W1 w.heap.size 27 #[.string (strOf l.par), .int .i64 l.ps, .int .i64 l.ov] := by rw [hW1]; exact Blk.new w _ _
  obtain ⟨cap, W2, hr, b2, hby⟩ := conv_str W1 l.par hb
  have k2 := k1.of (b2.block _ k1.lt)
  have HW1 := Lib.hid hW1
  have q0 : W1.cell? ⟨w.heap.size, 0, none⟩ = some (.string (strOf l.par)) := k1.cell 0
  have HB2 := Lib.hid (b1.trans (b2.mono b1.size))
  have HK2 := Lib.hid k2
  have HD := Lib.hid (dbytes_any (some ⟨W1.heap.size, 0, none⟩) l.par.length cap _ l.par W2 hby (by omega))
  clear hW1 b1 k1 b2 k2 hby hb
  go_enter Try.func56, Try.ntmps56
  go_upto_region 1 with (fail)
  rw [← HW1.out]
  clear HW1
  go_wp2_with fail
  refine HD.out.mono ?_
  rintro e w3 ⟨v, rfl, ho, b3⟩
  have k3 := HK2.out.of (b3.block _ HK2.out.lt)
  have q1 : w3.cell? ⟨w.heap.size, 1, none⟩ = some (.int .i64 l.ps) := k3.cell 1
  have HO3 := Lib.hid (ho.weaken (show w.heap.size ≤ _ from HB2.out.size))
  have HB3 := Lib.hid (HB2.out.trans (b3.mono HB2.out.size))
  have HK3 := Lib.hid k3
  have HN := Lib.hid (dnum_any l.ps w3)
  clear ho b3 k3 HD hr q0
  go_wp2_with fail
  refine HN.out.mono ?_
  rintro e w4 ⟨v4, rfl, h4, b4⟩
  obtain ⟨A4, c4, rfl, -, -, -⟩ := h4.form
  obtain ⟨A3, c3, rfl, -, -, -⟩ := HO3.out.form
  have HO4 := Lib.hid (Own.below HO3.out b4)
  have HB4 := Lib.hid (HB3.out.trans (b4.mono HB3.out.size))
  have HK4 := Lib.hid (HK3.out.of (b4.block _ HK3.out.lt))
  have hx4 := h4.bytes (numB_lt l.ps)
  clear b4 q1 HN
  go_wp2_with (refine app_bytes (.tmp 8) (.tmp 11) rfl rfl w.heap.size (.slice A3 (8 + l.par.length) c3) (8 + l.par.length) (numB l.par.length ++ l.par) rfl HO4.out _ A4 8 c4 (numB l.ps) rfl hx4 (by omega) HB4.out.size ?_; intro v5 w5 h5 g5 a5; have q2 : w5.cell? ⟨w.heap.size, 2, none⟩ = some (.int .i64 l.ov) := (HK4.out.grown g5 (fun e => own_blk_ne HO4.out HK4.out (by decide) e.symm)).cell 2)
  have HB5 := Lib.hid (below_own HB4.out HO4.out (Nat.le_refl _) g5 HB4.out.size)
  obtain ⟨A5, c5, rfl, -, -, -⟩ := h5.form
  have HO5 := Lib.hid h5
  clear h5 g5 a5 hx4
  refine (dnum_any l.ov w5).mono ?_
  rintro e w6 ⟨v6, rfl, h6, b6⟩
  obtain ⟨A6, c6, rfl, -, -, -⟩ := h6.form
  have HO6 := Lib.hid (Own.below HO5.out b6)
  have HB6 := Lib.hid (HB5.out.trans (b6.mono HB5.out.size))
  have hx6 := h6.bytes (numB_lt l.ov)
  clear b6 q2
  go_wp2_with (refine app_bytes (.tmp 13) (.tmp 16) rfl rfl w.heap.size (.slice A5 (8 + l.par.length + 8) c5) (8 + l.par.length + 8) (numB l.par.length ++ l.par ++ numB l.ps) rfl HO6.out _ A6 8 c6 (numB l.ov) rfl hx6 (by omega) HB6.out.size ?_; intro v7 w7 h7 g7 a7)
  go_ret
  refine ⟨v7, rfl, ?_, below_own HB6.out HO6.out (Nat.le_refl _) g7 HB6.out.size⟩
  have e : putLk l = numB l.par.length ++ l.par ++ numB l.ps ++ numB l.ov := by simp [putLk, txt]
  have e2 : (putLk l).length = 8 + l.par.length + 8 + 8 := by rw [e]; simp [numB_len]; omega
  rw [e2, e]
  exact h7
end Go.Proofs.Ytgddenhnpjoabaa

/-
  The document's marks as bytes. Conditions: they read as they are said to, and are good ones.
-/
namespace Go.Proofs.Ytgddenhnpjoabaa
open Go.RowKit Go.BigFrame
set_option linter.unusedSimpArgs false
set_option linter.unusedVariables false
set_option maxRecDepth 100000
def fN (f : Bool) : Nat := if f then 1 else 0
theorem fN_lt (f : Bool) : fN f < 256 := by cases f <;> decide
theorem dflagN_any (f : Bool) (w : World) : Calls Try.prog 57 #[.bool f] w fun e w' => e = .returned (.int .u8 ((fN f : Nat) : Int)) ∧ w = w' :=
  (dflag_any f w).mono fun e w' q => ⟨by rw [q.1]; cases f <;> rfl, q.2⟩
set_option maxHeartbeats 8000000 in
theorem dputmarks_any (m : MkV) (M : Option Addr) (cm : Nat) (w : World) (hr : Bytes w w.heap.size M m.row.length m.row) (hg : Good m.row) : Calls Try.prog 55 #[.agg #[.bool m.on, .bool m.good, .slice M m.row.length cm]] w fun e w' => ∃ v, e = .returned v ∧ OwnB w w' v (putMk m) := by
  obtain ⟨W1, hW1⟩ : ∃ W, W = w.alloc (.cells #[.bool m.on, .bool m.good, .slice M m.row.length cm] 25) := ⟨_, rfl⟩
  have b1 : Below w.heap.size w W1 := by rw [hW1]; exact below_alloc w _
  have k1 : Blk W1 w.heap.size 25 #[.bool m.on, .bool m.good, .slice M m.row.length cm] := by rw [hW1]; exact Blk.new w _ _
  have HW1 := Lib.hid hW1
  have HR : Hid (∀ W, Below w.heap.size w W → Bytes W W.heap.size M m.row.length m.row) := Lib.hid fun W hW => (hr.since hW).more hW.size
  have HG := Lib.hid hg
  have hS : Blk (World.drew W1) w.heap.size 25 #[.bool m.on, .bool m.good, .slice M m.row.length cm] ∧ Below w.heap.size w (World.drew W1) := ⟨k1, b1.drew⟩
  have hpl : (putM m.row).length ≤ 1000 := by rw [putM_len]; have := hg.1; omega
  obtain ⟨n1, h1⟩ : ∃ n1, n1 = fN m.on := ⟨_, rfl⟩
  obtain ⟨n2, h2⟩ : ∃ n2, n2 = fN m.good := ⟨_, rfl⟩
  have HF1 : Hid (∀ W, Calls Try.prog 57 #[.bool m.on] W fun e w' => e = .returned (.int .u8 (n1 : Int)) ∧ W = w') := Lib.hid fun W => by rw [h1]; exact dflagN_any m.on W
  have HF2 : Hid (∀ W, Calls Try.prog 57 #[.bool m.good] W fun e w' => e = .returned (.int .u8 (n2 : Int)) ∧ W = w') := Lib.hid fun W => by rw [h2]; exact dflagN_any m.good W
  have HE : Hid (putMk m = [n1, n2] ++ (numB (putM m.row).length ++ putM m.row)) := Lib.hid (by rw [h1, h2]; rfl)
  have HLT : Hid (n1 < 256 ∧ n2 < 256) := Lib.hid ⟨by rw [h1]; exact fN_lt _, by rw [h2]; exact fN_lt _⟩
  obtain ⟨pm, hpm⟩ : ∃ pm, pm = putM m.row := ⟨_, rfl⟩
  have HPM : Hid (∀ W, Below w.heap.size w W → Calls Try.prog 102 #[.slice M m.row.length cm] W fun e w' => ∃ v, e = .returned v ∧ OwnB W w' v pm) := Lib.hid fun W hW => by rw [hpm]; exact dput_any M m.row.length cm m.row W (HR.out W hW) hg
  have HPL : Hid (∀ b ∈ pm, b < 256) := Lib.hid (by rw [hpm]; exact putM_lt hg)
  rw [← hpm] at HE hpl
  clear hW1 b1 k1 hr hg h1 h2 hpm
  go_enter Try.func55, Try.ntmps55
  go_upto_region 1 with (fail)
  rw [← HW1.out]
  clear HW1
  refine any_beginL (fun W => Blk W w.heap.size 25 #[.bool m.on, .bool m.good, .slice M m.row.length cm] ∧ Below w.heap.size w W) 99 (by kernel_rfl) ?_
  refine S_take (i := 0) (v := .pointer (some ⟨w.heap.size, 0, none⟩)) rfl rfl (by kernel_rfl) (by kernel_rfl) (by kernel_rfl) (fun _ _ _ h => h) (Or.inl ⟨by rfl, fun W hw => by go_simp⟩) hS ?_
  simp only [Act.put, List.getElem_toArray, List.getElem_cons_succ, List.getElem_cons_zero, List.setIfInBounds_toArray, List.set_cons_zero, List.set_cons_succ]
  refine S_take (i := 1) (v := .bool m.on) rfl rfl (by kernel_rfl) (by kernel_rfl) (by kernel_rfl) (fun _ _ _ h => h) (Or.inl ⟨by rfl, fun W hw => by have k : W.cell? ⟨w.heap.size, 0, none⟩ = some (.bool m.on) := hw.1.cell 0; go_simp⟩) hS ?_
  simp only [Act.put, List.getElem_toArray, List.getElem_cons_succ, List.getElem_cons_zero, List.setIfInBounds_toArray, List.set_cons_zero, List.set_cons_succ]
  refine S_take (i := 3) (v := .pointer (some ⟨w.heap.size, 1, none⟩)) rfl rfl (by kernel_rfl) (by kernel_rfl) (by kernel_rfl) (fun _ _ _ h => h) (Or.inl ⟨by rfl, fun W hw => by go_simp⟩) hS ?_
  simp only [Act.put, List.getElem_toArray, List.getElem_cons_succ, List.getElem_cons_zero, List.setIfInBounds_toArray, List.set_cons_zero, List.set_cons_succ]
  refine S_take (i := 4) (v := .bool m.good) rfl rfl (by kernel_rfl) (by kernel_rfl) (by kernel_rfl) (fun _ _ _ h => h) (Or.inl ⟨by rfl, fun W hw => by have k : W.cell? ⟨w.heap.size, 1, none⟩ = some (.bool m.good) := hw.1.cell 1; go_simp⟩) hS ?_
  simp only [Act.put, List.getElem_toArray, List.getElem_cons_succ, List.getElem_cons_zero, List.setIfInBounds_toArray, List.set_cons_zero, List.set_cons_succ]
  refine S_take (i := 7) (v := .pointer (some ⟨w.heap.size, 2, none⟩)) rfl rfl (by kernel_rfl) (by kernel_rfl) (by kernel_rfl) (fun _ _ _ h => h) (Or.inl ⟨by rfl, fun W hw => by go_simp⟩) hS ?_
  simp only [Act.put, List.getElem_toArray, List.getElem_cons_succ, List.getElem_cons_zero, List.setIfInBounds_toArray, List.set_cons_zero, List.set_cons_succ]
  refine S_take (i := 8) (v := .slice M m.row.length cm) rfl rfl (by kernel_rfl) (by kernel_rfl) (by kernel_rfl) (fun _ _ _ h => h) (Or.inl ⟨by rfl, fun W hw => by have k : W.cell? ⟨w.heap.size, 2, none⟩ = some (.slice M m.row.length cm) := hw.1.cell 2; go_simp⟩) hS ?_
  simp only [Act.put, List.getElem_toArray, List.getElem_cons_succ, List.getElem_cons_zero, List.setIfInBounds_toArray, List.set_cons_zero, List.set_cons_succ]
  refine L_one (j := 2) (by kernel_rfl) rfl (by rfl) ?_
  simp only [Act.put, List.getElem_toArray, List.getElem_cons_succ, List.getElem_cons_zero, List.setIfInBounds_toArray, List.set_cons_zero, List.set_cons_succ]
  refine wp_called (by go_simp) (HF1.out _) ?_
  rintro e W ⟨rfl, rfl⟩
  refine ⟨_, rfl, hS, ?_⟩
  simp only [Act.put, List.getElem_toArray, List.getElem_cons_succ, List.getElem_cons_zero, List.setIfInBounds_toArray, List.set_cons_zero, List.set_cons_succ]
  refine L_one (j := 5) (by kernel_rfl) rfl (by rfl) ?_
  simp only [Act.put, List.getElem_toArray, List.getElem_cons_succ, List.getElem_cons_zero, List.setIfInBounds_toArray, List.set_cons_zero, List.set_cons_succ]
  refine wp_called (by go_simp) (HF2.out _) ?_
  rintro e W ⟨rfl, rfl⟩
  refine ⟨_, rfl, hS, ?_⟩
  simp only [Act.put, List.getElem_toArray, List.getElem_cons_succ, List.getElem_cons_zero, List.setIfInBounds_toArray, List.set_cons_zero, List.set_cons_succ]
  generalize World.drew W1 = W0 at *
  refine L_two (i := 6) (j := 9) (by kernel_rfl) rfl rfl (by rfl) (by rfl) ?_ ?_
  · skip
    simp only [Act.put, List.getElem_toArray, List.getElem_cons_succ, List.getElem_cons_zero, List.setIfInBounds_toArray, List.set_cons_zero, List.set_cons_succ]
    obtain ⟨X0, hW⟩ : ∃ W', W' = World.alloc W0 (.cells #[.int .u8 (n1 : Int), .int .u8 (n2 : Int)] 5) := ⟨_, rfl⟩
    have bx : Below (W0).heap.size W0 X0 := by rw [hW]; exact below_alloc _ _
    have c0 := And.intro (hS.1.of (bx.block _ hS.1.lt)) (hS.2.trans (bx.mono hS.2.size))
    have hE : Own X0 w.heap.size (.slice (some ⟨(W0).heap.size, 0, none⟩) 2 2) 2 [n1, n2] := by
      rw [hW]
      exact Own.of_blk (bs := [n1, n2]) (by have := Blk.new W0 5 (u8s [n1, n2]).toArray; simpa [u8s, u8] using this) rfl hS.2.size (by omega)
    refine wp_ran (v := .slice (some ⟨(W0).heap.size, 0, none⟩) 2 2) (w' := X0) (by rw [hW]; exact (by go_simp)) ⟨c0, ?_⟩
    simp only [Act.put, List.getElem_toArray, List.getElem_cons_succ, List.getElem_cons_zero, List.setIfInBounds_toArray, List.set_cons_zero, List.set_cons_succ]
    clear hW bx
    refine L_one (j := 9) (by kernel_rfl) rfl (by rfl) ?_
    simp only [Act.put, List.getElem_toArray, List.getElem_cons_succ, List.getElem_cons_zero, List.setIfInBounds_toArray, List.set_cons_zero, List.set_cons_succ]
    refine wp_called (by go_simp) (HPM.out _ c0.2) ?_
    rintro e X1 ⟨vP, rfl, hP, bx⟩
    have c1 := And.intro (c0.1.of (bx.block _ c0.1.lt)) (c0.2.trans (bx.mono c0.2.size))
    have hP := Own.weaken hP (show w.heap.size ≤ _ from c0.2.size)
    have hE := Own.below hE bx
    obtain ⟨AP, cP, rfl, -, -, -⟩ := hP.form
    clear bx
    refine ⟨_, rfl, c1, ?_⟩
    simp only [Act.put, List.getElem_toArray, List.getElem_cons_succ, List.getElem_cons_zero, List.setIfInBounds_toArray, List.set_cons_zero, List.set_cons_succ]
    refine L_one (j := 10) (by kernel_rfl) rfl (by rfl) ?_
    simp only [Act.put, List.getElem_toArray, List.getElem_cons_succ, List.getElem_cons_zero, List.setIfInBounds_toArray, List.set_cons_zero, List.set_cons_succ]
    refine wp_called (by go_simp) (dbytes_any AP pm.length cP _ pm X1 (hP.bytes HPL.out) (by omega)) ?_
    rintro e X2 ⟨vQ, rfl, hQ, bx⟩
    have c2 := And.intro (c1.1.of (bx.block _ c1.1.lt)) (c1.2.trans (bx.mono c1.2.size))
    have hQ := Own.weaken hQ (show w.heap.size ≤ _ from c1.2.size)
    have hE := Own.below hE bx
    obtain ⟨AQ, cQ, rfl, -, -, -⟩ := hQ.form
    clear bx
    refine ⟨_, rfl, c2, ?_⟩
    simp only [Act.put, List.getElem_toArray, List.getElem_cons_succ, List.getElem_cons_zero, List.setIfInBounds_toArray, List.set_cons_zero, List.set_cons_succ]
    refine L_one (j := 11) (by kernel_rfl) rfl (by rfl) ?_
    simp only [Act.put, List.getElem_toArray, List.getElem_cons_succ, List.getElem_cons_zero, List.setIfInBounds_toArray, List.set_cons_zero, List.set_cons_succ]
    obtain ⟨i0, hi0, hz0, hz1, hz2⟩ := info_parts byte_info
    refine wp_append_any _ (.tmp 9) (.tmp 13) 23 rfl w.heap.size 5 i0 _ 1 1 Try.underlying23 hi0 hz0 hz1 hz2 rfl (by omega) _ 2 (u8s [n1, n2]) rfl hE _ AQ (8 + pm.length) cQ (u8s (numB pm.length ++ pm)) rfl (hQ.bytes (fun b hb => (List.mem_append.1 hb).elim (numB_lt _ b) (HPL.out b))).1 (oneCell_u8s _) (by simp only [maxLen]; omega) (by omega) c2.2.size ?_
    intro v5 W5 h5 g5 a5
    have cS5 := And.intro (c2.1.grown g5 (fun e => own_blk_ne hE c2.1 (by decide) e.symm)) (c2.2.grown g5 c2.2.size (fun j hj => (World.ownsRow.lt hE j hj).1))
    refine ⟨cS5, ?_⟩
    simp only [Act.put, List.getElem_toArray, List.getElem_cons_succ, List.getElem_cons_zero, List.setIfInBounds_toArray, List.set_cons_zero, List.set_cons_succ]
    refine L_one (j := 12) (by kernel_rfl) rfl (by rfl) ?_
    simp only [Act.put, List.getElem_toArray, List.getElem_cons_succ, List.getElem_cons_zero, List.setIfInBounds_toArray, List.set_cons_zero, List.set_cons_succ]
    refine wp_ran (v := v5) (w' := W5) (by go_simp) ⟨cS5, ?_⟩
    simp only [Act.put, List.getElem_toArray, List.getElem_cons_succ, List.getElem_cons_zero, List.setIfInBounds_toArray, List.set_cons_zero, List.set_cons_succ]
    refine L_done (by kernel_rfl) ?_
    refine NoPanic.normal ?_
    go_wp2
    go_ret
    refine ⟨v5, rfl, ?_, cS5.2⟩
    rw [HE.out]
    have e2 : ([n1, n2] ++ (numB pm.length ++ pm)).length = 2 + (8 + pm.length) := by simp [numB_len]; omega
    rw [e2]
    have h6 := h5
    unfold Own
    simpa [u8s] using h6
  · skip
    simp only [Act.put, List.getElem_toArray, List.getElem_cons_succ, List.getElem_cons_zero, List.setIfInBounds_toArray, List.set_cons_zero, List.set_cons_succ]
    refine wp_called (by go_simp) (HPM.out _ hS.2) ?_
    rintro e X4 ⟨vP, rfl, hP, bx⟩
    have c4 := And.intro (hS.1.of (bx.block _ hS.1.lt)) (hS.2.trans (bx.mono hS.2.size))
    have hP := Own.weaken hP (show w.heap.size ≤ _ from hS.2.size)
    obtain ⟨AP, cP, rfl, -, -, -⟩ := hP.form
    clear bx
    refine ⟨_, rfl, c4, ?_⟩
    simp only [Act.put, List.getElem_toArray, List.getElem_cons_succ, List.getElem_cons_zero, List.setIfInBounds_toArray, List.set_cons_zero, List.set_cons_succ]
    refine L_two (i := 6) (j := 10) (by kernel_rfl) rfl rfl (by rfl) (by rfl) ?_ ?_
    · skip
      simp only [Act.put, List.getElem_toArray, List.getElem_cons_succ, List.getElem_cons_zero, List.setIfInBounds_toArray, List.set_cons_zero, List.set_cons_succ]
      obtain ⟨X5, hW⟩ : ∃ W', W' = World.alloc X4 (.cells #[.int .u8 (n1 : Int), .int .u8 (n2 : Int)] 5) := ⟨_, rfl⟩
      have bx : Below (X4).heap.size X4 X5 := by rw [hW]; exact below_alloc _ _
      have c5 := And.intro (c4.1.of (bx.block _ c4.1.lt)) (c4.2.trans (bx.mono c4.2.size))
      have hE : Own X5 w.heap.size (.slice (some ⟨(X4).heap.size, 0, none⟩) 2 2) 2 [n1, n2] := by
        rw [hW]
        exact Own.of_blk (bs := [n1, n2]) (by have := Blk.new X4 5 (u8s [n1, n2]).toArray; simpa [u8s, u8] using this) rfl c4.2.size (by omega)
      have hP := Own.below hP bx
      refine wp_ran (v := .slice (some ⟨(X4).heap.size, 0, none⟩) 2 2) (w' := X5) (by rw [hW]; exact (by go_simp)) ⟨c5, ?_⟩
      simp only [Act.put, List.getElem_toArray, List.getElem_cons_succ, List.getElem_cons_zero, List.setIfInBounds_toArray, List.set_cons_zero, List.set_cons_succ]
      clear hW bx
      refine L_one (j := 10) (by kernel_rfl) rfl (by rfl) ?_
      simp only [Act.put, List.getElem_toArray, List.getElem_cons_succ, List.getElem_cons_zero, List.setIfInBounds_toArray, List.set_cons_zero, List.set_cons_succ]
      refine wp_called (by go_simp) (dbytes_any AP pm.length cP _ pm X5 (hP.bytes HPL.out) (by omega)) ?_
      rintro e X6 ⟨vQ, rfl, hQ, bx⟩
      have c6 := And.intro (c5.1.of (bx.block _ c5.1.lt)) (c5.2.trans (bx.mono c5.2.size))
      have hQ := Own.weaken hQ (show w.heap.size ≤ _ from c5.2.size)
      have hE := Own.below hE bx
      obtain ⟨AQ, cQ, rfl, -, -, -⟩ := hQ.form
      clear bx
      refine ⟨_, rfl, c6, ?_⟩
      simp only [Act.put, List.getElem_toArray, List.getElem_cons_succ, List.getElem_cons_zero, List.setIfInBounds_toArray, List.set_cons_zero, List.set_cons_succ]
      refine L_one (j := 11) (by kernel_rfl) rfl (by rfl) ?_
      simp only [Act.put, List.getElem_toArray, List.getElem_cons_succ, List.getElem_cons_zero, List.setIfInBounds_toArray, List.set_cons_zero, List.set_cons_succ]
      obtain ⟨i0, hi0, hz0, hz1, hz2⟩ := info_parts byte_info
      refine wp_append_any _ (.tmp 9) (.tmp 13) 23 rfl w.heap.size 5 i0 _ 1 1 Try.underlying23 hi0 hz0 hz1 hz2 rfl (by omega) _ 2 (u8s [n1, n2]) rfl hE _ AQ (8 + pm.length) cQ (u8s (numB pm.length ++ pm)) rfl (hQ.bytes (fun b hb => (List.mem_append.1 hb).elim (numB_lt _ b) (HPL.out b))).1 (oneCell_u8s _) (by simp only [maxLen]; omega) (by omega) c6.2.size ?_
      intro v5 W5 h5 g5 a5
      have cS5 := And.intro (c6.1.grown g5 (fun e => own_blk_ne hE c6.1 (by decide) e.symm)) (c6.2.grown g5 c6.2.size (fun j hj => (World.ownsRow.lt hE j hj).1))
      refine ⟨cS5, ?_⟩
      simp only [Act.put, List.getElem_toArray, List.getElem_cons_succ, List.getElem_cons_zero, List.setIfInBounds_toArray, List.set_cons_zero, List.set_cons_succ]
      refine L_one (j := 12) (by kernel_rfl) rfl (by rfl) ?_
      simp only [Act.put, List.getElem_toArray, List.getElem_cons_succ, List.getElem_cons_zero, List.setIfInBounds_toArray, List.set_cons_zero, List.set_cons_succ]
      refine wp_ran (v := v5) (w' := W5) (by go_simp) ⟨cS5, ?_⟩
      simp only [Act.put, List.getElem_toArray, List.getElem_cons_succ, List.getElem_cons_zero, List.setIfInBounds_toArray, List.set_cons_zero, List.set_cons_succ]
      refine L_done (by kernel_rfl) ?_
      refine NoPanic.normal ?_
      go_wp2
      go_ret
      refine ⟨v5, rfl, ?_, cS5.2⟩
      rw [HE.out]
      have e2 : ([n1, n2] ++ (numB pm.length ++ pm)).length = 2 + (8 + pm.length) := by simp [numB_len]; omega
      rw [e2]
      have h6 := h5
      unfold Own
      simpa [u8s] using h6
    · skip
      simp only [Act.put, List.getElem_toArray, List.getElem_cons_succ, List.getElem_cons_zero, List.setIfInBounds_toArray, List.set_cons_zero, List.set_cons_succ]
      refine wp_called (by go_simp) (dbytes_any AP pm.length cP _ pm X4 (hP.bytes HPL.out) (by omega)) ?_
      rintro e X8 ⟨vQ, rfl, hQ, bx⟩
      have c8 := And.intro (c4.1.of (bx.block _ c4.1.lt)) (c4.2.trans (bx.mono c4.2.size))
      have hQ := Own.weaken hQ (show w.heap.size ≤ _ from c4.2.size)
      obtain ⟨AQ, cQ, rfl, -, -, -⟩ := hQ.form
      clear bx
      refine ⟨_, rfl, c8, ?_⟩
      simp only [Act.put, List.getElem_toArray, List.getElem_cons_succ, List.getElem_cons_zero, List.setIfInBounds_toArray, List.set_cons_zero, List.set_cons_succ]
      refine L_one (j := 6) (by kernel_rfl) rfl (by rfl) ?_
      simp only [Act.put, List.getElem_toArray, List.getElem_cons_succ, List.getElem_cons_zero, List.setIfInBounds_toArray, List.set_cons_zero, List.set_cons_succ]
      obtain ⟨X9, hW⟩ : ∃ W', W' = World.alloc X8 (.cells #[.int .u8 (n1 : Int), .int .u8 (n2 : Int)] 5) := ⟨_, rfl⟩
      have bx : Below (X8).heap.size X8 X9 := by rw [hW]; exact below_alloc _ _
      have c9 := And.intro (c8.1.of (bx.block _ c8.1.lt)) (c8.2.trans (bx.mono c8.2.size))
      have hE : Own X9 w.heap.size (.slice (some ⟨(X8).heap.size, 0, none⟩) 2 2) 2 [n1, n2] := by
        rw [hW]
        exact Own.of_blk (bs := [n1, n2]) (by have := Blk.new X8 5 (u8s [n1, n2]).toArray; simpa [u8s, u8] using this) rfl c8.2.size (by omega)
      have hQ := Own.below hQ bx
      refine wp_ran (v := .slice (some ⟨(X8).heap.size, 0, none⟩) 2 2) (w' := X9) (by rw [hW]; exact (by go_simp)) ⟨c9, ?_⟩
      simp only [Act.put, List.getElem_toArray, List.getElem_cons_succ, List.getElem_cons_zero, List.setIfInBounds_toArray, List.set_cons_zero, List.set_cons_succ]
      clear hW bx
      refine L_one (j := 11) (by kernel_rfl) rfl (by rfl) ?_
      simp only [Act.put, List.getElem_toArray, List.getElem_cons_succ, List.getElem_cons_zero, List.setIfInBounds_toArray, List.set_cons_zero, List.set_cons_succ]
      obtain ⟨i0, hi0, hz0, hz1, hz2⟩ := info_parts byte_info
      refine wp_append_any _ (.tmp 9) (.tmp 13) 23 rfl w.heap.size 5 i0 _ 1 1 Try.underlying23 hi0 hz0 hz1 hz2 rfl (by omega) _ 2 (u8s [n1, n2]) rfl hE _ AQ (8 + pm.length) cQ (u8s (numB pm.length ++ pm)) rfl (hQ.bytes (fun b hb => (List.mem_append.1 hb).elim (numB_lt _ b) (HPL.out b))).1 (oneCell_u8s _) (by simp only [maxLen]; omega) (by omega) c9.2.size ?_
      intro v5 W5 h5 g5 a5
      have cS5 := And.intro (c9.1.grown g5 (fun e => own_blk_ne hE c9.1 (by decide) e.symm)) (c9.2.grown g5 c9.2.size (fun j hj => (World.ownsRow.lt hE j hj).1))
      refine ⟨cS5, ?_⟩
      simp only [Act.put, List.getElem_toArray, List.getElem_cons_succ, List.getElem_cons_zero, List.setIfInBounds_toArray, List.set_cons_zero, List.set_cons_succ]
      refine L_one (j := 12) (by kernel_rfl) rfl (by rfl) ?_
      simp only [Act.put, List.getElem_toArray, List.getElem_cons_succ, List.getElem_cons_zero, List.setIfInBounds_toArray, List.set_cons_zero, List.set_cons_succ]
      refine wp_ran (v := v5) (w' := W5) (by go_simp) ⟨cS5, ?_⟩
      simp only [Act.put, List.getElem_toArray, List.getElem_cons_succ, List.getElem_cons_zero, List.setIfInBounds_toArray, List.set_cons_zero, List.set_cons_succ]
      refine L_done (by kernel_rfl) ?_
      refine NoPanic.normal ?_
      go_wp2
      go_ret
      refine ⟨v5, rfl, ?_, cS5.2⟩
      rw [HE.out]
      have e2 : ([n1, n2] ++ (numB pm.length ++ pm)).length = 2 + (8 + pm.length) := by simp [numB_len]; omega
      rw [e2]
      have h6 := h5
      unfold Own
      simpa [u8s] using h6
end Go.Proofs.Ytgddenhnpjoabaa
