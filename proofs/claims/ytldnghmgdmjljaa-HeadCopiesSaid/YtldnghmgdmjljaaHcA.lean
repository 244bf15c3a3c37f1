/-
  A head as the document's; a copy of a head, of its own memory; a head's memory is written over. Conditions: the head reads as it is said to, and is small; what is written over is the call's own.
-/
import Derived.Test.YtldnghmgdmjljaaHg
import Derived.Test.YtldnghmgdmjljaaHz
namespace Go.Proofs.Ytldnghmgdmjljaa
open Go.RowKit Go.BigFrame
set_option linter.unusedSimpArgs false
set_option linter.unusedVariables false
set_option maxRecDepth 100000
theorem dsnap_info : (Try.prog.info? 67).map (fun i => (i.zero, i.size, i.bytes)) = some (some (.agg #[.int .i64 0, .int .i64 0, .string ⟨#[]⟩, .bool false, .bool false, .bool false, .slice none 0 0, .string ⟨#[]⟩, .int .i64 0, .int .i64 0, .slice none 0 0]), 11, 128) := by kernel_rfl
theorem three_blk (w : World) (o1 o2 : Obj) (t : TypeId) (cs : Array Value) : Blk (((w.alloc o1).alloc o2).alloc (.cells cs t)) (w.heap.size + 2) t cs := by
  have := Blk.new ((w.alloc o1).alloc o2) t cs
  rwa [World.size_alloc, World.size_alloc] at this
/-- what plain hands back -/
def PlainTo (w : World) (a : HA) (e : Ending) (w' : World) : Prop := ∃ d : HA, e = .returned (.agg d.cs) ∧ d.v = a.v ∧ d.R SA.dcells w' ∧ d.sn = a.sn ∧ d.vw = a.vw ∧ Below w.heap.size w w'
set_option maxHeartbeats 16000000 in
theorem hplain_any (a : HA) (w : World) (hR : a.R SA.cells w) (hS : a.Sm) : Calls Try.prog 14 #[.agg a.cs] w (PlainTo w a) := by
  obtain ⟨W1, hW1⟩ : ∃ W, W = (w.alloc (.cells a.cs 36)).alloc (.cells #[.int .i64 0, .int .i64 0, .int .i64 0, .int .i64 0, .slice none 0 0, .bool false, .bool false, .slice none 0 0, .string ⟨#[]⟩, .int .i64 0, .int .i64 0, .int .i64 0, .int .i64 0, .int .i64 0] 29) := ⟨_, rfl⟩
  have h1 : Below w.heap.size w W1 ∧ W1.heap.size = w.heap.size + 2 ∧ Blk W1 w.heap.size 36 #[.int .i64 a.id, .int .i64 a.vw.size, .int .i64 a.obj, .int .i64 a.seq, .slice a.S a.sn.length a.cs', .bool a.vw.on, .bool a.vw.good, .slice a.vw.M a.vw.row.length a.vw.cm, .string (strOf a.vw.par), .int .i64 a.vw.ps, .int .i64 a.vw.ov, .int .i64 a.ow, .int .i64 a.it, .int .i64 a.tg] ∧ Blk W1 (w.heap.size + 1) 29 #[.int .i64 0, .int .i64 0, .int .i64 0, .int .i64 0, .slice none 0 0, .bool false, .bool false, .slice none 0 0, .string ⟨#[]⟩, .int .i64 0, .int .i64 0, .int .i64 0, .int .i64 0, .int .i64 0] := by
    rw [hW1]
    exact ⟨(below_alloc w _).alloc (by simp) _, by simp, (Blk.new w _ _).alloc _, blk_two _ _ _ _⟩
  have HW1 := Lib.hid hW1
  have H1 := Lib.hid h1
  have HR := Lib.hid hR
  have HS := Lib.hid hS
  have hcn := hS.cn
  have hz := head_zero
  clear hW1 h1 hR hS
  unfold HA.cs at HW1 ⊢
  go_enter Try.func14, Try.ntmps14
  go_upto_region 1 with (fail)
  rw [← HW1.out]
  clear HW1
  obtain ⟨b1, z1, k1, r1⟩ := H1.out
  have q0 : W1.cell? ⟨w.heap.size, 0, none⟩ = some (.int .i64 a.id) := k1.cell 0
  have q1 : W1.cell? ⟨w.heap.size, 1, none⟩ = some (.int .i64 a.vw.size) := k1.cell 1
  have q2 : W1.cell? ⟨w.heap.size, 2, none⟩ = some (.int .i64 a.obj) := k1.cell 2
  have q3 : W1.cell? ⟨w.heap.size, 3, none⟩ = some (.int .i64 a.seq) := k1.cell 3
  have q4 : W1.cell? ⟨w.heap.size, 4, none⟩ = some (.slice a.S a.sn.length a.cs') := k1.cell 4
  have q5 : W1.cell? ⟨w.heap.size, 5, none⟩ = some (.bool a.vw.on) := k1.cell 5
  have q6 : W1.cell? ⟨w.heap.size, 6, none⟩ = some (.bool a.vw.good) := k1.cell 6
  have q7 : W1.cell? ⟨w.heap.size, 7, none⟩ = some (.slice a.vw.M a.vw.row.length a.vw.cm) := k1.cell 7
  have q8 : W1.cell? ⟨w.heap.size, 8, none⟩ = some (.string (strOf a.vw.par)) := k1.cell 8
  have q9 : W1.cell? ⟨w.heap.size, 9, none⟩ = some (.int .i64 a.vw.ps) := k1.cell 9
  have q10 : W1.cell? ⟨w.heap.size, 10, none⟩ = some (.int .i64 a.vw.ov) := k1.cell 10
  have q11 : W1.cell? ⟨w.heap.size, 11, none⟩ = some (.int .i64 a.ow) := k1.cell 11
  have q12 : W1.cell? ⟨w.heap.size, 12, none⟩ = some (.int .i64 a.it) := k1.cell 12
  have q13 : W1.cell? ⟨w.heap.size, 13, none⟩ = some (.int .i64 a.tg) := k1.cell 13
  obtain ⟨W2, hW2⟩ : ∃ W, W = W1.alloc (.cells #[.int .i64 a.id, .int .i64 a.vw.size, .int .i64 a.obj, .int .i64 a.seq, .slice none 0 0, .bool a.vw.on, .bool a.vw.good, .slice a.vw.M a.vw.row.length a.vw.cm, .string (strOf a.vw.par), .int .i64 a.vw.ps, .int .i64 a.vw.ov, .int .i64 a.ow, .int .i64 a.it, .int .i64 a.tg] 29) := ⟨_, rfl⟩
  have h2 : Below w.heap.size w W2 ∧ W2.heap.size = w.heap.size + 3 ∧ Blk W2 w.heap.size 36 #[.int .i64 a.id, .int .i64 a.vw.size, .int .i64 a.obj, .int .i64 a.seq, .slice a.S a.sn.length a.cs', .bool a.vw.on, .bool a.vw.good, .slice a.vw.M a.vw.row.length a.vw.cm, .string (strOf a.vw.par), .int .i64 a.vw.ps, .int .i64 a.vw.ov, .int .i64 a.ow, .int .i64 a.it, .int .i64 a.tg] ∧ Blk W2 (w.heap.size + 1) 29 #[.int .i64 0, .int .i64 0, .int .i64 0, .int .i64 0, .slice none 0 0, .bool false, .bool false, .slice none 0 0, .string ⟨#[]⟩, .int .i64 0, .int .i64 0, .int .i64 0, .int .i64 0, .int .i64 0] ∧ Blk W2 (w.heap.size + 2) 29 #[.int .i64 a.id, .int .i64 a.vw.size, .int .i64 a.obj, .int .i64 a.seq, .slice none 0 0, .bool a.vw.on, .bool a.vw.good, .slice a.vw.M a.vw.row.length a.vw.cm, .string (strOf a.vw.par), .int .i64 a.vw.ps, .int .i64 a.vw.ov, .int .i64 a.ow, .int .i64 a.it, .int .i64 a.tg] := by
    rw [hW2]
    exact ⟨b1.alloc b1.size _, by simp [z1], k1.alloc _, r1.alloc _, by have := Blk.new W1 29 #[.int .i64 a.id, .int .i64 a.vw.size, .int .i64 a.obj, .int .i64 a.seq, .slice none 0 0, .bool a.vw.on, .bool a.vw.good, .slice a.vw.M a.vw.row.length a.vw.cm, .string (strOf a.vw.par), .int .i64 a.vw.ps, .int .i64 a.vw.ov, .int .i64 a.ow, .int .i64 a.it, .int .i64 a.tg]; rwa [z1] at this⟩
  have HW2 := Lib.hid hW2
  have H2 := Lib.hid h2
  clear b1 k1 r1 hW2 h2 H1
  go_upto_region 2 with (fail)
  try rw [z1]
  rw [← HW2.out]
  clear HW2 z1 q0 q1 q2 q3 q5 q6 q7 q8 q9 q10 q11 q12 q13
  have q4 : W2.cell? ⟨w.heap.size, 4, none⟩ = some (.slice a.S a.sn.length a.cs') := H2.out.2.2.1.cell 4
  go_wp2
  clear q4
  go_loopw [33] (fun i wr => ∃ (k : Nat) (A : Option Addr) (c : Nat), k ≤ a.sn.length ∧ i = .int .i64 k ∧ Blk wr w.heap.size 36 #[.int .i64 a.id, .int .i64 a.vw.size, .int .i64 a.obj, .int .i64 a.seq, .slice a.S a.sn.length a.cs', .bool a.vw.on, .bool a.vw.good, .slice a.vw.M a.vw.row.length a.vw.cm, .string (strOf a.vw.par), .int .i64 a.vw.ps, .int .i64 a.vw.ov, .int .i64 a.ow, .int .i64 a.it, .int .i64 a.tg] ∧ Blk wr (w.heap.size + 1) 29 #[.int .i64 0, .int .i64 0, .int .i64 0, .int .i64 0, .slice none 0 0, .bool false, .bool false, .slice none 0 0, .string ⟨#[]⟩, .int .i64 0, .int .i64 0, .int .i64 0, .int .i64 0, .int .i64 0] ∧ Blk wr (w.heap.size + 2) 29 #[.int .i64 a.id, .int .i64 a.vw.size, .int .i64 a.obj, .int .i64 a.seq, .slice A k c, .bool a.vw.on, .bool a.vw.good, .slice a.vw.M a.vw.row.length a.vw.cm, .string (strOf a.vw.par), .int .i64 a.vw.ps, .int .i64 a.vw.ov, .int .i64 a.ow, .int .i64 a.it, .int .i64 a.tg] ∧ wr.ownsRow (w.heap.size + 3) 67 11 (.slice A k c) k ((a.sn.take k).flatMap SA.dcells) ∧ Below w.heap.size w wr ∧ w.heap.size + 3 ≤ wr.heap.size) (fun i _ => a.sn.length - (intOf i).toNat)
  case atStart =>
    obtain ⟨b2, z2, k2, r2, o2⟩ := H2.out
    exact ⟨0, none, 0, by omega, rfl, k2, r2, o2, World.ownsRow_nil _ _ _ 11, b2, by omega⟩
  case round =>
    obtain ⟨k, A, c, hk, rfl, hk0, hk1, hk2, hrow, hb, hsz⟩ := hrel
    have HK0 := Lib.hid hk0
    have HK1 := Lib.hid hk1
    have HK2 := Lib.hid hk2
    have HRW := Lib.hid hrow
    have HB := Lib.hid hb
    by_cases hlt : k < a.sn.length
    · have dl : decide ((k : Int) < (a.sn.length : Int)) = true := decide_eq_true (by omega)
      obtain ⟨s, hs⟩ : ∃ s, a.sn[k]? = some s := ⟨_, List.getElem?_eq_getElem hlt⟩
      have hwk : IntKind.i64.wrap ((k : Int) + 1) = (k : Int) + 1 := by rw [IntKind.wrap_i64]; omega
      have hR1 := HR.out.since hb
      obtain ⟨ad, had, -, hc⟩ := snap_at SA.cells_len hR1.row hs
      obtain ⟨W5, hW5⟩ : ∃ W, W = wr.alloc (.cells s.cells.toArray 62) := ⟨_, rfl⟩
      have hb5 : Below wr.heap.size wr W5 := by rw [hW5]; exact below_alloc wr _
      have hk5 : Blk W5 wr.heap.size 62 #[.int .i64 s.num, .int .i64 s.vw.size, .string (strOf s.name), .bool s.vw.on, .bool s.vw.good, .bool s.prot, .slice s.vw.M s.vw.row.length s.vw.cm, .string (strOf s.vw.par), .int .i64 s.vw.ps, .int .i64 s.vw.ov, .slice s.C s.ch.length s.cc] := by rw [hW5]; exact Blk.new wr _ _
      have HW5 := Lib.hid hW5
      have HB5 := Lib.hid hb5
      have HK5 := Lib.hid hk5
      have HSK := Lib.hid hs
      have HAD := Lib.hid had
      have HSM := Lib.hid (HS.out.sn s (List.mem_of_getElem? hs))
      generalize a.S = sS at *
      subst had
      clear hs hR1 hW5 hb5 hk5 hk0 hk1 hk2 hrow hb
      go_upto_region 5 with (have _h := hc; refine wpList_loadp rfl 62 (.tmp 35) rfl _ [.int .i64 s.num, .int .i64 s.vw.size, .string (strOf s.name), .bool s.vw.on, .bool s.vw.good, .bool s.prot, .slice s.vw.M s.vw.row.length s.vw.cm, .string (strOf s.vw.par), .int .i64 s.vw.ps, .int .i64 s.vw.ov, .slice s.C s.ch.length s.cc] _ rfl hc Try.underlying62 rfl (by kernel_rfl) ?_; clear _h hc)
      unfold SA.cells at HW5
      rw [← HW5.out]
      have HK25 : Blk W5 (w.heap.size + 2) 29 #[.int .i64 a.id, .int .i64 a.vw.size, .int .i64 a.obj, .int .i64 a.seq, .slice A k c, .bool a.vw.on, .bool a.vw.good, .slice a.vw.M a.vw.row.length a.vw.cm, .string (strOf a.vw.par), .int .i64 a.vw.ps, .int .i64 a.vw.ov, .int .i64 a.ow, .int .i64 a.it, .int .i64 a.tg] := HK2.out.of (HB5.out.block _ HK2.out.lt)
      have q4 : W5.cell? ⟨w.heap.size + 2, 4, none⟩ = some (.slice A k c) := HK25.cell 4
      have x0 : W5.cell? ⟨wr.heap.size, 0, none⟩ = some (.int .i64 s.num) := HK5.out.cell 0
      have x1 : W5.cell? ⟨wr.heap.size, 1, none⟩ = some (.int .i64 s.vw.size) := HK5.out.cell 1
      have x2 : W5.cell? ⟨wr.heap.size, 2, none⟩ = some (.string (strOf s.name)) := HK5.out.cell 2
      have x3 : W5.cell? ⟨wr.heap.size, 3, none⟩ = some (.bool s.vw.on) := HK5.out.cell 3
      have x4 : W5.cell? ⟨wr.heap.size, 4, none⟩ = some (.bool s.vw.good) := HK5.out.cell 4
      have x5 : W5.cell? ⟨wr.heap.size, 5, none⟩ = some (.bool s.prot) := HK5.out.cell 5
      have x6 : W5.cell? ⟨wr.heap.size, 6, none⟩ = some (.slice s.vw.M s.vw.row.length s.vw.cm) := HK5.out.cell 6
      have x7 : W5.cell? ⟨wr.heap.size, 7, none⟩ = some (.string (strOf s.vw.par)) := HK5.out.cell 7
      have x8 : W5.cell? ⟨wr.heap.size, 8, none⟩ = some (.int .i64 s.vw.ps) := HK5.out.cell 8
      have x9 : W5.cell? ⟨wr.heap.size, 9, none⟩ = some (.int .i64 s.vw.ov) := HK5.out.cell 9
      have x10 : W5.cell? ⟨wr.heap.size, 10, none⟩ = some (.slice s.C s.ch.length s.cc) := HK5.out.cell 10
      have HRW5 : W5.ownsRow (w.heap.size + 3) 67 11 (.slice A k c) k ((a.sn.take k).flatMap SA.dcells) := own_below HRW.out HB5.out
      have HK := Lib.hid HK25
      have HW := Lib.hid HRW5
      clear HK25 HRW5 HW5
      obtain ⟨i2, hi2, hv0, hv1, hv2⟩ := info_parts dsnap_info
      go_wp2_with (first
        | (refine wpList_append_any _ rfl (.tmp 38) (.tmp 59) 22 rfl (w.heap.size + 3) 67 i2 _ 11 128 Try.underlying22 hi2 hv0 hv1 hv2 rfl (by omega) (.slice A k c) k ((a.sn.take k).flatMap SA.dcells) rfl (own_below HW.out (below_alloc W5 (.cells #[.int .i64 s.num, .int .i64 s.vw.size, .string (strOf s.name), .bool s.prot, .bool s.vw.on, .bool s.vw.good, .slice s.vw.M s.vw.row.length s.vw.cm, .string (strOf s.vw.par), .int .i64 s.vw.ps, .int .i64 s.vw.ov, .slice s.C s.ch.length s.cc] 67))) (W5.heap.size + 1) (some ⟨W5.heap.size, 0, none⟩) 1 1 s.dcells rfl (Reads.newN W5 s.dcells 1 11 67 (0, 0) rfl) (SA.dcells_one s) (by simp only [maxLen]; omega) (by omega) (by have := HB5.out.size; simp; omega) ?_; intro v7 W7 h7 g7 a7; obtain ⟨A7, c7, rfl⟩ := own_form h7)
        | (have _h := q4; refine wpList_setq rfl 22 (.tmp 61) (.tmp 60) rfl (w.heap.size + 2) 4 _ _ (.slice A7 (k + 1) c7) rfl rfl ((HK.out.alloc _).grown g7 (fun e => own_blk_ne HW.out HK.out (by decide) e.symm)) (by simp) (by kernel_rfl) rfl ?_; clear _h q4; intro W8 K8 o8 s8))
      have hr8 : W8.ownsRow (w.heap.size + 3) 67 11 (.slice A7 (k + 1) c7) (k + 1) ((a.sn.take k).flatMap SA.dcells ++ s.dcells) := row_of h7 fun j hj => o8.block j (row_under h7 j hj) (fun hm => by simp at hm; have := (World.ownsRow.lt h7 j (mem_rowOf.1 hj)).1; omega)
      have e8 : (a.sn.take (k + 1)).flatMap SA.dcells = (a.sn.take k).flatMap SA.dcells ++ s.dcells := by rw [List.take_add_one, HSK.out, List.flatMap_append]; simp
      have hb7 : Below w.heap.size w W7 := ((HB.out.trans (HB5.out.mono HB.out.size)).alloc (Nat.le_trans HB.out.size HB5.out.size) _).grown g7 (by have := HB.out.size; have := HB5.out.size; simp; omega) (fun j hj => by have := (World.ownsRow.lt HW.out j hj).1; omega)
      have hb8 : Below w.heap.size w W8 := hb7.trans (o8.below (fun x hx => by simp at hx; omega) hb7.size)
      have hs8 : w.heap.size + 3 ≤ W8.heap.size := by have := g7.size; simp at this; have := HB5.out.size; omega
      exact ⟨⟨k + 1, A7, c7, by omega, by go_num, ((((HK0.out.of (HB5.out.block _ HK0.out.lt)).alloc _).grown g7 (fun e => own_blk_ne HW.out (HK0.out.of (HB5.out.block _ HK0.out.lt)) (by decide) e.symm)).only o8 (by simp)), ((((HK1.out.of (HB5.out.block _ HK1.out.lt)).alloc _).grown g7 (fun e => own_blk_ne HW.out (HK1.out.of (HB5.out.block _ HK1.out.lt)) (by decide) e.symm)).only o8 (by simp)), K8, by rw [e8]; exact hr8, hb8, hs8⟩, by simp only [intOf]; omega⟩
    · obtain rfl : k = a.sn.length := by omega
      have dl : decide ((a.sn.length : Int) < (a.sn.length : Int)) = false := decide_eq_false (by omega)
      have q4 : wr.cell? ⟨w.heap.size, 4, none⟩ = some (.slice a.S a.sn.length a.cs') := hk0.cell 4
      have x0 : wr.cell? ⟨w.heap.size + 2, 0, none⟩ = some (.int .i64 a.id) := hk2.cell 0
      have x1 : wr.cell? ⟨w.heap.size + 2, 1, none⟩ = some (.int .i64 a.vw.size) := hk2.cell 1
      have x2 : wr.cell? ⟨w.heap.size + 2, 2, none⟩ = some (.int .i64 a.obj) := hk2.cell 2
      have x3 : wr.cell? ⟨w.heap.size + 2, 3, none⟩ = some (.int .i64 a.seq) := hk2.cell 3
      have x4 : wr.cell? ⟨w.heap.size + 2, 4, none⟩ = some (.slice A a.sn.length c) := hk2.cell 4
      have x5 : wr.cell? ⟨w.heap.size + 2, 5, none⟩ = some (.bool a.vw.on) := hk2.cell 5
      have x6 : wr.cell? ⟨w.heap.size + 2, 6, none⟩ = some (.bool a.vw.good) := hk2.cell 6
      have x7 : wr.cell? ⟨w.heap.size + 2, 7, none⟩ = some (.slice a.vw.M a.vw.row.length a.vw.cm) := hk2.cell 7
      have x8 : wr.cell? ⟨w.heap.size + 2, 8, none⟩ = some (.string (strOf a.vw.par)) := hk2.cell 8
      have x9 : wr.cell? ⟨w.heap.size + 2, 9, none⟩ = some (.int .i64 a.vw.ps) := hk2.cell 9
      have x10 : wr.cell? ⟨w.heap.size + 2, 10, none⟩ = some (.int .i64 a.vw.ov) := hk2.cell 10
      have x11 : wr.cell? ⟨w.heap.size + 2, 11, none⟩ = some (.int .i64 a.ow) := hk2.cell 11
      have x12 : wr.cell? ⟨w.heap.size + 2, 12, none⟩ = some (.int .i64 a.it) := hk2.cell 12
      have x13 : wr.cell? ⟨w.heap.size + 2, 13, none⟩ = some (.int .i64 a.tg) := hk2.cell 13
      have hk1' := hk1
      clear hk0 hk1 hk2 hrow hb
      go_wp2_with (have _h := hk1'; refine wpList_storeq rfl 29 (.tmp 2) (.tmp 63) rfl (w.heap.size + 1) _ [.int .i64 a.id, .int .i64 a.vw.size, .int .i64 a.obj, .int .i64 a.seq, .slice A a.sn.length c, .bool a.vw.on, .bool a.vw.good, .slice a.vw.M a.vw.row.length a.vw.cm, .string (strOf a.vw.par), .int .i64 a.vw.ps, .int .i64 a.vw.ov, .int .i64 a.ow, .int .i64 a.it, .int .i64 a.tg] rfl rfl hk1' rfl (by kernel_rfl) (one14 _ _ _ _ _ _ _ _ _ _ _ _ _ _ _ _ _ _) ?_; clear _h hk1' x0 x1 x2 x3 x4 x5 x6 x7 x8 x9 x10 x11 x12 x13 q4; intro w2 K2 o2 s2)
      refine bodyPost_ret (results_cell_row rfl _ _ (w.heap.size + 1) 29 _ (0, 0) _ rfl K2 Try.underlying29 rfl (by kernel_rfl)) rfl ?_
      have hb2 : Below w.heap.size w w2 := HB.out.trans (o2.below (fun x hx => by simp at hx; omega) HB.out.size)
      have hR2 := HR.out.since hb2
      have hr2 : w2.ownsRow (w.heap.size + 3) 67 11 (.slice A a.sn.length c) a.sn.length ((a.sn.take a.sn.length).flatMap SA.dcells) := row_of HRW.out fun j hj => o2.block j (row_under HRW.out j hj) (fun hm => by simp at hm; have := (World.ownsRow.lt HRW.out j (mem_rowOf.1 hj)).1; omega)
      rw [List.take_length] at hr2
      obtain ⟨-, c1, c2, -⟩ := own_shape hr2
      unfold maxLen at c2
      exact ⟨⟨a.id, a.obj, a.seq, A, c, a.sn, a.vw, a.ow, a.it, a.tg⟩, rfl, rfl, ⟨hR2.vw, Reads.of_own hr2, hR2.sn, hR2.id, hR2.obj, hR2.seq, hR2.ow, hR2.it, hR2.tg, hR2.l1, c1⟩, rfl, rfl, hb2⟩
end Go.Proofs.Ytldnghmgdmjljaa

namespace Go.Proofs.Ytldnghmgdmjljaa
set_option linter.unusedSimpArgs false
set_option linter.unusedVariables false
theorem idx_found {α : Type} (p : α → Bool) : ∀ (l : List α) (k : Nat) (x : α), l[k]? = some x → p x = true → ∃ (j : Nat) (y : α), idxI p l = (j : Nat) ∧ j ≤ k ∧ l[j]? = some y ∧ p y = true
  | [], k, x, h, _ => by simp at h
  | y :: l, k, x, h, hp => by
    cases hy : p y with
    | true => exact ⟨0, y, by rw [idxI, if_pos hy]; rfl, by omega, rfl, hy⟩
    | false =>
      cases k with
      | zero => simp at h; subst h; rw [hp] at hy; cases hy
      | succ k =>
        obtain ⟨j, z, e, hj, hz, hpz⟩ := idx_found p l k x (by simpa using h) hp
        refine ⟨j + 1, z, ?_, by omega, by simpa using hz, hpz⟩
        rw [idxI, if_neg (by rw [hy]; simp), e, if_neg (by omega)]
        push_cast
        rfl
theorem snaps_low {obj seq : Int} : ∀ {last : Int} {l : List SnV}, snapsB obj seq last l = true → ∀ s ∈ l, last < s.num
  | last, [], _, s, h => by cases h
  | last, x :: r, h, s, hs => by
    simp only [snapsB, Bool.and_eq_true] at h
    have hx : last < x.num := by
      have := h.1
      simp only [snapB, Bool.and_eq_true, decide_eq_true_eq] at this
      exact this.1.1.1.1
    rcases List.mem_cons.1 hs with rfl | hs
    · exact hx
    · exact Int.lt_trans hx (snaps_low h.2 s hs)
theorem snaps_one {obj seq : Int} : ∀ {last : Int} {l : List SnV}, snapsB obj seq last l = true → ∀ {j k : Nat} {x y : SnV}, l[j]? = some x → l[k]? = some y → x.num = y.num → j = k
  | last, [], _, j, k, x, y, hj, _, _ => by simp at hj
  | last, z :: r, h, j, k, x, y, hj, hk, e => by
    simp only [snapsB, Bool.and_eq_true] at h
    cases j with
    | zero =>
      cases k with
      | zero => rfl
      | succ k =>
        simp at hj hk
        subst hj
        have := snaps_low h.2 y (List.mem_of_getElem? hk)
        omega
    | succ j =>
      cases k with
      | zero =>
        simp at hj hk
        subst hk
        have := snaps_low h.2 x (List.mem_of_getElem? hj)
        omega
      | succ k =>
        simp at hj hk
        rw [snaps_one h.2 hj hk e]
theorem good_sn {q : HA} (h : q.v.B = true) : snapsB q.obj q.seq 0 (q.sn.map SA.v) = true ∧ ((q.sn.map SA.v).map SnV.name).Nodup := by
  simp only [HdV.B, Bool.and_eq_true] at h
  have h5 : q.v.snB = true := h.1.1.1.2
  simp only [HdV.snB, Bool.and_eq_true, decide_eq_true_eq] at h5
  exact ⟨h5.1.2, h5.2⟩
theorem nums_one {q : HA} (h : q.v.B = true) {j k : Nat} {x y : SA} (hj : q.sn[j]? = some x) (hk : q.sn[k]? = some y) (e : x.num = y.num) : j = k :=
  snaps_one (good_sn h).1 (x := x.v) (y := y.v) (by rw [List.getElem?_map, hj]; rfl) (by rw [List.getElem?_map, hk]; rfl) e
theorem names_one {q : HA} (h : q.v.B = true) {j k : Nat} {x y : SA} (hj : q.sn[j]? = some x) (hk : q.sn[k]? = some y) (e : x.name = y.name) : j = k := by
  have hn := (good_sn h).2
  have e1 : ((q.sn.map SA.v).map SnV.name)[j]? = some x.name := by rw [List.getElem?_map, List.getElem?_map, hj]; rfl
  have e2 : ((q.sn.map SA.v).map SnV.name)[k]? = some y.name := by rw [List.getElem?_map, List.getElem?_map, hk]; rfl
  exact (List.getElem?_inj (List.getElem?_eq_some_iff.1 e1).1 hn).1 (by rw [e1, e2, e])
theorem objs_fit {x1 x2 n : Int} (h1 : x1 ≤ 1099511627776) (h2 : x2 ≤ 1048576) (h3 : 1 ≤ x1) (h4 : 1 ≤ x2) (hn : objsOf x1 x2 = n) :
    n * x2 < 1099514000000 ∧ x1 ≤ n * x2 ∧ (n - 1) * x2 < x1 ∧ 0 ≤ (n - 1) * x2 ∧ 1 ≤ n ∧ n ≤ 1099511627776 := by
  have he : objsOf x1 x2 = (x1 - 1) / x2 + 1 := by unfold objsOf; rw [if_neg (by omega)]
  rw [he] at hn
  have a := Int.mul_ediv_add_emod (x1 - 1) x2
  have b := Int.emod_nonneg (x1 - 1) (show x2 ≠ 0 by omega)
  have c := Int.emod_lt_of_pos (x1 - 1) (show 0 < x2 by omega)
  have d : 0 ≤ (x1 - 1) / x2 := Int.ediv_nonneg (by omega) (by omega)
  have d2 : (x1 - 1) / x2 ≤ x1 - 1 := Int.ediv_le_self _ (by omega)
  have e1 : n * x2 = x2 * ((x1 - 1) / x2) + x2 := by rw [← hn, Int.add_mul, Int.one_mul, Int.mul_comm]
  have e2 : (n - 1) * x2 = x2 * ((x1 - 1) / x2) := by rw [← hn, Int.add_sub_cancel, Int.mul_comm]
  have e3 : 0 ≤ x2 * ((x1 - 1) / x2) := Int.mul_nonneg (by omega) d
  generalize x2 * ((x1 - 1) / x2) = m at *
  generalize (x1 - 1) % x2 = r at *
  generalize (x1 - 1) / x2 = t at *
  refine ⟨by omega, by omega, by omega, by omega, by omega, by omega⟩
theorem run_str_neq (a : ByteArray) (w : World) : (binOp .neq 9 (.string a) (.string a)).run Try.prog w = .ok (.bool false) w := by
  have h : (binOp .neq 9 (.string a) (.string a)).run Try.prog w = .ok (.bool (!(a.toList == a.toList))) w := by kernel_rfl
  rw [h]
  simp
end Go.Proofs.Ytldnghmgdmjljaa

namespace Go.Proofs.Ytldnghmgdmjljaa
open Go.RowKit Go.BigFrame
set_option linter.unusedSimpArgs false
set_option linter.unusedVariables false
set_option maxRecDepth 100000
theorem own_set {e : TypeId} {w : World} {base size m c g : Nat} {xs : List Value} (h : w.ownsRow base e size (.slice (some ⟨g, 0, none⟩) m c) m xs) (j : Nat) (u : Value) : (w.setCell ⟨g, j, none⟩ u).ownsRow base e size (.slice (some ⟨g, 0, none⟩) m c) m (xs.set j u) := by
  refine ⟨by rw [List.length_set]; exact h.1, ?_⟩
  rcases h.2 with ⟨e1, -⟩ | ⟨g', cap, cur, hv, hbg, hg, hnc, hcm, hcs, htake⟩
  · injection e1 with e2; cases e2
  · injection hv with e1 e2 e3
    injection e1 with e1
    injection e1 with e1
    subst e1
    subst e3
    refine .inr ⟨g, _, cur.setIfInBounds j u, rfl, hbg, by simp [World.setCell, Array.getElem?_modify, hg], hnc, hcm, by simpa using hcs, ?_⟩
    rw [Array.toList_setIfInBounds, List.take_set, htake]
theorem own_frozen {e : TypeId} {w : World} {base size m c g : Nat} {xs : List Value} (h : w.ownsRow base e size (.slice (some ⟨g, 0, none⟩) m c) m xs) (j : Nat) : w.frozen? ⟨g, j, none⟩ = false := by
  obtain ⟨cs, hb⟩ := own_ty h (k := g) (by simp [rowOf, Value.ownBlock])
  exact hb.frozen j
theorem flat_len11 (l : List SA) : (l.flatMap SA.cells).length = l.length * 11 := by
  induction l with
  | nil => rfl
  | cons e l ih => rw [List.flatMap_cons, List.length_append, ih, SA.cells_len]; simp; omega
theorem flat_set_mid {d r : List SA} {s s' : SA} {j : Nat} {v : Value} (hj : j < 11) (h : s'.cells = s.cells.set j v) : ((d ++ s :: r).flatMap SA.cells).set (d.length * 11 + j) v = (d ++ s' :: r).flatMap SA.cells := by
  rw [List.flatMap_append, List.flatMap_append, List.flatMap_cons, List.flatMap_cons, List.set_append_right _ _ (by rw [flat_len11]; omega), flat_len11, show d.length * 11 + j - d.length * 11 = j by omega, List.set_append_left _ _ (by rw [SA.cells_len]; exact hj), ← h]
theorem own_elem {w : World} {base m c : Nat} {A : Option Addr} {d r : List SA} {s : SA} (h : w.ownsRow base 62 11 (.slice A m c) m ((d ++ s :: r).flatMap SA.cells)) : ∃ g, A = some ⟨g, 0, none⟩ ∧ base ≤ g ∧ g < w.heap.size ∧ ∀ j v, s.cells[j]? = some v → w.cell? ⟨g, d.length * 11 + j, none⟩ = some v := by
  have hm : m = (d ++ s :: r).length := by have := h.1; rw [flat_len11] at this; omega
  obtain ⟨-, -, -, hA⟩ := own_shape h
  obtain ⟨ad, e, hb, hc⟩ := (Reads.of_own h).2 (by rw [hm]; simp; omega)
  rcases hA with hA | ⟨g, hA, hg1, hg2⟩
  · rw [hA] at e; cases e
  · rw [hA] at e
    injection e with e
    subst e
    refine ⟨g, hA, hg1, hg2, fun j v hj => ?_⟩
    have hj2 : j < 11 := by have := (List.getElem?_eq_some_iff.1 hj).1; rwa [SA.cells_len] at this
    have := hc (d.length * 11 + j) v (by rw [flat_at SA.cells 11 SA.cells_len (d ++ s :: r) d.length j s (by simp) hj2]; exact hj)
    rw [add_zero_off] at this
    exact this
/-- the blocks of marks, of children -/
def mrows (l : List SA) : List Nat := l.flatMap fun s => rowOf (.slice s.vw.M 0 0)
def crows (l : List SA) : List Nat := l.flatMap fun s => rowOf (.slice s.C 0 0)
/-- each row lies in a block of its own -/
structure HA.Dj (c : HA) : Prop where
  m : (rowOf (.slice c.vw.M 0 0) ++ mrows c.sn).Nodup
  c : (crows c.sn).Nodup
def CopyTo (w : World) (a : HA) (e : Ending) (w' : World) : Prop := ∃ c : HA, e = .returned (.agg c.cs) ∧ c.v = a.v ∧ c.N w' w.heap.size [] ∧ c.Dj ∧ c.sn.length = a.sn.length ∧ Below w.heap.size w w'
/-- the copy so far: the snapshots ahead are done, those behind are the given ones -/
structure Cp (w : World) (a : HA) (M1 : Option Addr) (c1 : Nat) (S1 : Option Addr) (cS : Nat) (d r : List SA) (wr : World) : Prop where
  src : Blk wr w.heap.size 36 #[.int .i64 a.id, .int .i64 a.vw.size, .int .i64 a.obj, .int .i64 a.seq, .slice S1 a.sn.length cS, .bool a.vw.on, .bool a.vw.good, .slice M1 a.vw.row.length c1, .string (strOf a.vw.par), .int .i64 a.vw.ps, .int .i64 a.vw.ov, .int .i64 a.ow, .int .i64 a.it, .int .i64 a.tg]
  res : Blk wr (w.heap.size + 1) 36 #[.int .i64 0, .int .i64 0, .int .i64 0, .int .i64 0, .slice none 0 0, .bool false, .bool false, .slice none 0 0, .string ⟨#[]⟩, .int .i64 0, .int .i64 0, .int .i64 0, .int .i64 0, .int .i64 0]
  m : Own wr w.heap.size (.slice M1 a.vw.row.length c1) a.vw.row.length a.vw.row
  n : ∀ s ∈ d, s.N wr w.heap.size []
  dm : (rowOf (.slice M1 0 0) ++ mrows d).Nodup
  dc : (crows d).Nodup
  row : wr.ownsRow w.heap.size 62 11 (.slice S1 a.sn.length cS) a.sn.length ((d ++ r).flatMap SA.cells)
  bel : Below w.heap.size w wr
section
variable {w : World} {a : HA} {M1 S1 : Option Addr} {c1 cS : Nat} {d r : List SA} {s s' : SA} {wr w' : World}
theorem Cp.below (h : Cp w a M1 c1 S1 cS d r wr) (hb : Below wr.heap.size wr w') : Cp w a M1 c1 S1 cS d r w' :=
  ⟨h.src.of (hb.block _ h.src.lt), h.res.of (hb.block _ h.res.lt), own_below h.m hb, fun s hs => (h.n s hs).below hb, h.dm, h.dc, own_below h.row hb, h.bel.trans (hb.mono h.bel.size)⟩
theorem Cp.elem (h : Cp w a M1 c1 S1 cS d (s :: r) wr) : ∃ g, S1 = some ⟨g, 0, none⟩ ∧ w.heap.size ≤ g ∧ g < wr.heap.size ∧ ∀ j v, s.cells[j]? = some v → wr.cell? ⟨g, d.length * 11 + j, none⟩ = some v := own_elem h.row
theorem Cp.set_ {g j : Nat} {v : Value} (h : Cp w a M1 c1 (some ⟨g, 0, none⟩) cS d (s :: r) wr) (hj : j < 11) (he : s'.cells = s.cells.set j v) : Cp w a M1 c1 (some ⟨g, 0, none⟩) cS d (s' :: r) (wr.setCell ⟨g, d.length * 11 + j, none⟩ v) := by
  obtain ⟨cs, hg⟩ := own_ty h.row (k := g) (by simp [rowOf, Value.ownBlock])
  have hbg : w.heap.size ≤ g := (World.ownsRow.lt h.row g rfl).1
  have o : Only [g] wr (wr.setCell ⟨g, d.length * 11 + j, none⟩ v) := (Only.refl _ _).setCell (.inl (by simp)) _
  have st := stay_only hg (by decide) (by decide) o
  refine ⟨h.src.only o ?_, h.res.only o ?_, ?_, fun x hx => (h.n x hx).stay st, h.dm, h.dc, ?_, h.bel.setCell hbg _⟩
  · simp only [List.mem_singleton]; exact h.src.ne_ hg (by decide)
  · simp only [List.mem_singleton]; exact h.res.ne_ hg (by decide)
  · exact row_of h.m fun k hk => by obtain ⟨cs', hb⟩ := own_ty h.m hk; exact st k _ cs' hb (.inl rfl)
  · have := own_set h.row (d.length * 11 + j) v
    rwa [flat_set_mid hj he] at this
theorem Cp.frozen {g : Nat} (h : Cp w a M1 c1 (some ⟨g, 0, none⟩) cS d r wr) (j : Nat) : wr.frozen? ⟨g, j, none⟩ = false := own_frozen h.row j
theorem Cp.under_m (h : Cp w a M1 c1 S1 cS d r wr) : ∀ k ∈ rowOf (.slice M1 0 0) ++ mrows d, k < wr.heap.size := by
  intro k hk
  rcases List.mem_append.1 hk with hk | hk
  · exact row_under h.m k (by rw [row_slice M1 a.vw.row.length c1 0 0]; exact hk)
  · obtain ⟨s, hs, hk⟩ := List.mem_flatMap.1 hk
    exact (h.n s hs).vw.under hk
theorem Cp.under_c (h : Cp w a M1 c1 S1 cS d r wr) : ∀ k ∈ crows d, k < wr.heap.size := by
  intro k hk
  obtain ⟨s, hs, hk⟩ := List.mem_flatMap.1 hk
  exact (h.n s hs).under hk
theorem rowOf_nodup (v : Value) : (rowOf v).Nodup := by
  unfold rowOf
  cases v.ownBlock <;> simp
theorem Cp.push (h : Cp w a M1 c1 S1 cS d (s :: r) wr) (hN : s.N wr w.heap.size []) (hm : ∀ k ∈ rowOf (.slice s.vw.M 0 0), k ∉ rowOf (.slice M1 0 0) ++ mrows d) (hc : ∀ k ∈ rowOf (.slice s.C 0 0), k ∉ crows d) : Cp w a M1 c1 S1 cS (d ++ [s]) r wr := by
  have e1 : mrows (d ++ [s]) = mrows d ++ rowOf (.slice s.vw.M 0 0) := by simp [mrows]
  have e2 : crows (d ++ [s]) = crows d ++ rowOf (.slice s.C 0 0) := by simp [crows]
  refine ⟨h.src, h.res, h.m, fun x hx => ?_, ?_, ?_, by rw [List.append_assoc]; exact h.row, h.bel⟩
  · rcases List.mem_append.1 hx with hx | hx
    · exact h.n x hx
    · simp at hx; subst hx; exact hN
  · rw [e1, ← List.append_assoc, List.nodup_append]
    exact ⟨h.dm, rowOf_nodup _, fun x hx y hy e => by subst e; exact hm x hy hx⟩
  · rw [e2, List.nodup_append]
    exact ⟨h.dc, rowOf_nodup _, fun x hx y hy e => by subst e; exact hc x hy hx⟩
end
set_option maxHeartbeats 32000000 in
theorem hcopy_any (a : HA) (w : World) (hR : a.R SA.cells w) (hS : a.Sm) : Calls Try.prog 24 #[.agg a.cs] w (CopyTo w a) := by
  obtain ⟨W1, hW1⟩ : ∃ W, W = (w.alloc (.cells #[.int .i64 a.id, .int .i64 a.vw.size, .int .i64 a.obj, .int .i64 a.seq, .slice a.S a.sn.length a.cs', .bool a.vw.on, .bool a.vw.good, .slice a.vw.M a.vw.row.length a.vw.cm, .string (strOf a.vw.par), .int .i64 a.vw.ps, .int .i64 a.vw.ov, .int .i64 a.ow, .int .i64 a.it, .int .i64 a.tg] 36)).alloc (.cells #[.int .i64 0, .int .i64 0, .int .i64 0, .int .i64 0, .slice none 0 0, .bool false, .bool false, .slice none 0 0, .string ⟨#[]⟩, .int .i64 0, .int .i64 0, .int .i64 0, .int .i64 0, .int .i64 0] 36) := ⟨_, rfl⟩
  have h1 : Below w.heap.size w W1 ∧ W1.heap.size = w.heap.size + 2 ∧ Blk W1 w.heap.size 36 #[.int .i64 a.id, .int .i64 a.vw.size, .int .i64 a.obj, .int .i64 a.seq, .slice a.S a.sn.length a.cs', .bool a.vw.on, .bool a.vw.good, .slice a.vw.M a.vw.row.length a.vw.cm, .string (strOf a.vw.par), .int .i64 a.vw.ps, .int .i64 a.vw.ov, .int .i64 a.ow, .int .i64 a.it, .int .i64 a.tg] ∧ Blk W1 (w.heap.size + 1) 36 #[.int .i64 0, .int .i64 0, .int .i64 0, .int .i64 0, .slice none 0 0, .bool false, .bool false, .slice none 0 0, .string ⟨#[]⟩, .int .i64 0, .int .i64 0, .int .i64 0, .int .i64 0, .int .i64 0] := by
    rw [hW1]
    exact ⟨(below_alloc w _).alloc (by simp) _, by simp, (Blk.new w _ _).alloc _, blk_two _ _ _ _⟩
  have HW1 := Lib.hid hW1
  have H1 := Lib.hid h1
  have HR := Lib.hid hR
  have HSM := Lib.hid hS
  have hcn := hS.cn
  have hrl := hS.vw.row
  have hz := head_zero
  have HOM := Lib.hid (ownm_any a.vw.M a.vw.row.length a.vw.cm a.vw.row W1 W1.heap.size (by omega) (((hR.since h1.1).vw.row)))
  have hb1 := h1.1
  have HOS : Hid (∀ W, Below w.heap.size w W → Calls Try.prog 64 #[.slice a.S a.sn.length a.cs'] W fun e w' => ∃ v, e = .returned v ∧ w'.ownsRow W.heap.size 62 11 v a.sn.length (a.sn.flatMap SA.cells) ∧ Below W.heap.size W w') := Lib.hid fun W hW => ownsn_any a.S a.cs' a.sn W W.heap.size (by omega) (hR.since hW).row
  clear hW1 h1 hR hS hb1
  unfold HA.cs at HW1 ⊢
  go_enter Try.func24, Try.ntmps24
  go_upto_region 1 with (fail)
  rw [← HW1.out]
  clear HW1
  obtain ⟨b1, z1, k1, r1⟩ := H1.out
  have q7 : W1.cell? ⟨w.heap.size, 7, none⟩ = some (.slice a.vw.M a.vw.row.length a.vw.cm) := k1.cell 7
  have HB1 := Lib.hid b1
  clear b1 k1 r1
  go_wp2_with fail
  refine HOM.out.mono ?_
  rintro e w2 ⟨v, rfl, ho, b2⟩
  obtain ⟨M1, c1, rfl⟩ := own_form ho
  have k2 := H1.out.2.2.1.of (b2.block _ H1.out.2.2.1.lt)
  have r2 := H1.out.2.2.2.of (b2.block _ H1.out.2.2.2.lt)
  have HO := Lib.hid ho
  have HB2 := Lib.hid (HB1.out.trans (b2.mono HB1.out.size))
  have HR2 := Lib.hid r2
  have hz2 : w.heap.size + 2 ≤ w2.heap.size := by have := b2.size; omega
  clear q7 HOM ho b2 r2
  go_wp2_with (have _h := k2; refine wpList_setq rfl 33 (.tmp 8) (.tmp 7) rfl w.heap.size 7 _ _ (.slice M1 a.vw.row.length c1) rfl rfl k2 (by simp) (by kernel_rfl) rfl ?_; clear _h k2; intro w3 K3 o3 s3; have k3 : Blk w3 w.heap.size 36 #[.int .i64 a.id, .int .i64 a.vw.size, .int .i64 a.obj, .int .i64 a.seq, .slice a.S a.sn.length a.cs', .bool a.vw.on, .bool a.vw.good, .slice M1 a.vw.row.length c1, .string (strOf a.vw.par), .int .i64 a.vw.ps, .int .i64 a.vw.ov, .int .i64 a.ow, .int .i64 a.it, .int .i64 a.tg] := K3; have q4 : w3.cell? ⟨w.heap.size, 4, none⟩ = some (.slice a.S a.sn.length a.cs') := k3.cell 4)
  have hb3 : Below w.heap.size w w3 := HB2.out.trans (o3.below (fun x hx => by simp at hx; omega) HB2.out.size)
  have hm3 : Own w3 w.heap.size (.slice M1 a.vw.row.length c1) a.vw.row.length a.vw.row := row_weaken (row_of HO.out fun k hk => o3.block k (row_under HO.out k hk) (fun hx => by simp at hx; have := (World.ownsRow.lt HO.out k (mem_rowOf.1 hk)).1; omega)) (show w.heap.size ≤ W1.heap.size by omega)
  have r3 := HR2.out.only o3 (by simp)
  refine (HOS.out w3 hb3).mono ?_
  rintro e w4 ⟨v4, rfl, ho4, b4⟩
  obtain ⟨S1, cS, rfl⟩ := own_form ho4
  have hC0 : Blk w4 w.heap.size 36 #[.int .i64 a.id, .int .i64 a.vw.size, .int .i64 a.obj, .int .i64 a.seq, .slice a.S a.sn.length a.cs', .bool a.vw.on, .bool a.vw.good, .slice M1 a.vw.row.length c1, .string (strOf a.vw.par), .int .i64 a.vw.ps, .int .i64 a.vw.ov, .int .i64 a.ow, .int .i64 a.it, .int .i64 a.tg] := k3.of (b4.block _ k3.lt)
  have HC9 := Lib.hid hC0
  have HX := Lib.hid (And.intro (r3.of (b4.block _ r3.lt)) (And.intro (own_below hm3 b4) (And.intro ho4 (hb3.trans (b4.mono hb3.size)))))
  have hz3 : w.heap.size + 2 ≤ w3.heap.size := by omega
  clear q4 k3 K3 hm3 r3 o3 ho4 b4 HOS
  go_wp2_with (have _h := hC0; refine wpList_setq rfl 32 (.tmp 12) (.tmp 11) rfl w.heap.size 4 _ _ (.slice S1 a.sn.length cS) rfl rfl hC0 (by simp) (by kernel_rfl) rfl ?_; clear _h hC0; intro w5 K5 o5 s5; have k5 : Blk w5 w.heap.size 36 #[.int .i64 a.id, .int .i64 a.vw.size, .int .i64 a.obj, .int .i64 a.seq, .slice S1 a.sn.length cS, .bool a.vw.on, .bool a.vw.good, .slice M1 a.vw.row.length c1, .string (strOf a.vw.par), .int .i64 a.vw.ps, .int .i64 a.vw.ov, .int .i64 a.ow, .int .i64 a.it, .int .i64 a.tg] := K5; have q4 : w5.cell? ⟨w.heap.size, 4, none⟩ = some (.slice S1 a.sn.length cS) := k5.cell 4)
  have hCp : Cp w a M1 c1 S1 cS [] a.sn w5 := by
    obtain ⟨h1, h2, h3, h4⟩ := HX.out
    refine ⟨k5, h1.only o5 (by simp), ?_, fun s hs => (by cases hs), ?_, by simp [crows], ?_, h4.trans (o5.below (fun x hx => by simp at hx; omega) h4.size)⟩
    · exact row_of h2 fun k hk => o5.block k (row_under h2 k hk) (fun hx => by simp at hx; obtain ⟨cs, hb⟩ := own_ty h2 hk; subst hx; exact hb.ne_ HC9.out (by decide) rfl)
    · simp only [mrows, List.flatMap_nil, List.append_nil]; exact rowOf_nodup _
    · exact row_weaken (row_of h3 fun k hk => o5.block k (row_under h3 k hk) (fun hx => by simp at hx; have := (World.ownsRow.lt h3 k (mem_rowOf.1 hk)).1; omega)) (by omega)
  have HCP := Lib.hid hCp
  clear hCp q4 k5 K5 o5
  go_loopw [16] (fun i wr => ∃ d : List SA, d.length ≤ a.sn.length ∧ i = .int .i64 d.length ∧ d.map SA.v = (a.sn.take d.length).map SA.v ∧ Cp w a M1 c1 S1 cS d (a.sn.drop d.length) wr) (fun i _ => a.sn.length - (intOf i).toNat)
  case atStart => exact ⟨[], by simp, rfl, rfl, HCP.out⟩
  case round =>
    obtain ⟨d, hd, rfl, hup, hcp⟩ := hrel
    by_cases hlt : d.length < a.sn.length
    · have dl : decide ((d.length : Int) < (a.sn.length : Int)) = true := decide_eq_true (by omega)
      have hwk : IntKind.i64.wrap ((d.length : Int) + 1) = (d.length : Int) + 1 := by rw [IntKind.wrap_i64]; omega
      obtain ⟨s, hs⟩ : ∃ s, a.sn[d.length]? = some s := ⟨_, List.getElem?_eq_getElem hlt⟩
      have hdr : a.sn.drop d.length = s :: a.sn.drop (d.length + 1) := by
        rw [List.drop_eq_getElem_cons hlt]
        congr 1
        rw [List.getElem?_eq_getElem hlt] at hs
        injection hs
      rw [hdr] at hcp
      obtain ⟨g, rfl, hgb, hgl, hc⟩ := hcp.elem
      have hsR := (HR.out.since hcp.bel).sn s (List.mem_of_getElem? hs)
      have hsS := HSM.out.sn s (List.mem_of_getElem? hs)
      obtain ⟨i0, hi0⟩ : ∃ i0, i0 = d.length * 11 := ⟨_, rfl⟩
      have q4 : wr.cell? ⟨w.heap.size, 4, none⟩ = some (.slice (some ⟨g, 0, none⟩) a.sn.length cS) := hcp.src.cell 4
      have c6 : wr.cell? ⟨g, d.length * 11 + 6, none⟩ = some (.slice s.vw.M s.vw.row.length s.vw.cm) := hc 6 _ rfl
      have HOM := Lib.hid (ownm_any s.vw.M s.vw.row.length s.vw.cm s.vw.row wr wr.heap.size (by have := hsS.vw.row; omega) hsR.vw.row)
      have HCP1 := Lib.hid hcp
      have HSK := Lib.hid (And.intro hs (And.intro hdr hup))
      have HSR := Lib.hid (And.intro hsR hsS)
      clear hc hcp hs hdr hup hsR hsS
      go_wp2_with fail
      refine HOM.out.mono ?_
      rintro e wA ⟨v, rfl, ho, bA⟩
      obtain ⟨M2, c2, rfl⟩ := own_form ho
      have hA := HCP1.out.below bA
      obtain ⟨g', eg, -, -, hcA⟩ := hA.elem
      injection eg with eg
      injection eg with eg
      subst eg
      have c6A : wA.cell? ⟨g, d.length * 11 + 6, none⟩ = some (.slice s.vw.M s.vw.row.length s.vw.cm) := hcA 6 _ rfl
      have fzA : wA.frozen? ⟨g, d.length * 11 + 6, none⟩ = false := hA.frozen _
      obtain ⟨s1, hs1⟩ : ∃ s1 : SA, s1 = ⟨s.num, s.name, s.prot, ⟨s.vw.size, s.vw.on, s.vw.good, s.vw.row, M2, c2, s.vw.par, s.vw.ps, s.vw.ov⟩, s.ch, s.C, s.cc⟩ := ⟨_, rfl⟩
      have hB : Cp w a M1 c1 (some ⟨g, 0, none⟩) cS d (s1 :: a.sn.drop (d.length + 1)) (wA.setCell ⟨g, d.length * 11 + 6, none⟩ (.slice M2 s.vw.row.length c2)) := hA.set_ (j := 6) (by omega) (by rw [hs1]; rfl)
      have hgT : ∃ cs, Blk wA g 62 cs := own_ty hA.row (by simp [rowOf, Value.ownBlock])
      obtain ⟨csg, hgT⟩ := hgT
      have stB := stay_only hgT (by decide) (by decide) (show Only [g] wA (wA.setCell ⟨g, d.length * 11 + 6, none⟩ (.slice M2 s.vw.row.length c2)) from (Only.refl _ _).setCell (.inl (by simp)) _)
      have hoB : Own (wA.setCell ⟨g, d.length * 11 + 6, none⟩ (.slice M2 s.vw.row.length c2)) wr.heap.size (.slice M2 s.vw.row.length c2) s.vw.row.length s.vw.row := row_of ho fun k hk => by obtain ⟨cs', hb⟩ := own_ty ho hk; exact stB k _ cs' hb (.inl rfl)
      have hzB : wr.heap.size ≤ (wA.setCell ⟨g, d.length * 11 + 6, none⟩ (.slice M2 s.vw.row.length c2)).heap.size := by have := bA.size; simp [World.setCell]; omega
      have HB' := Lib.hid (And.intro hB (And.intro hoB hzB))
      clear q4 c6 HOM ho bA hA hcA hgT stB hB hoB hzB
      go_upto_region 8 with (fail)
      clear c6A fzA
      generalize World.setCell wA _ _ = wB at *
      obtain ⟨hB, hoB, hzB⟩ := HB'.out
      obtain ⟨g', eg, -, -, hcB⟩ := hB.elem
      injection eg with eg
      injection eg with eg
      subst eg
      have c10 : wB.cell? ⟨g, d.length * 11 + 10, none⟩ = some (.slice s.C s.ch.length s.cc) := by rw [hs1] at hcB; exact hcB 10 _ rfl
      have hsR := (HR.out.since hB.bel).sn s (List.mem_of_getElem? HSK.out.1)
      have HOC := Lib.hid (owns_any s.C s.cc s.ch wB wB.heap.size (by have := HSR.out.2.ch; omega) hsR.ch.1)
      have HS1 := Lib.hid hs1
      clear hB hoB hzB hcB hsR hs1
      go_wp2_with fail
      refine HOC.out.mono ?_
      rintro e wC ⟨v, rfl, ho, bC⟩
      obtain ⟨C2, cc2, rfl⟩ := own_form ho
      obtain ⟨hB, hoB, hzB⟩ := HB'.out
      have hC := hB.below bC
      obtain ⟨g', eg, -, -, hcC⟩ := hC.elem
      injection eg with eg
      injection eg with eg
      subst eg
      have c10C : wC.cell? ⟨g, d.length * 11 + 10, none⟩ = some (.slice s.C s.ch.length s.cc) := by rw [HS1.out] at hcC; exact hcC 10 _ rfl
      have fzC : wC.frozen? ⟨g, d.length * 11 + 10, none⟩ = false := hC.frozen _
      obtain ⟨s2, hs2⟩ : ∃ s2 : SA, s2 = ⟨s.num, s.name, s.prot, ⟨s.vw.size, s.vw.on, s.vw.good, s.vw.row, M2, c2, s.vw.par, s.vw.ps, s.vw.ov⟩, s.ch, C2, cc2⟩ := ⟨_, rfl⟩
      have hD : Cp w a M1 c1 (some ⟨g, 0, none⟩) cS d (s2 :: a.sn.drop (d.length + 1)) (wC.setCell ⟨g, d.length * 11 + 10, none⟩ (.slice C2 s.ch.length cc2)) := hC.set_ (j := 10) (by omega) (by rw [hs2, HS1.out]; rfl)
      obtain ⟨csg, hgT⟩ := own_ty hC.row (k := g) (by simp [rowOf, Value.ownBlock])
      have stD := stay_only hgT (by decide) (by decide) (show Only [g] wC (wC.setCell ⟨g, d.length * 11 + 10, none⟩ (.slice C2 s.ch.length cc2)) from (Only.refl _ _).setCell (.inl (by simp)) _)
      have hoM := own_below hoB bC
      have hM9 : Own (wC.setCell ⟨g, d.length * 11 + 10, none⟩ (.slice C2 s.ch.length cc2)) wr.heap.size (.slice M2 s.vw.row.length c2) s.vw.row.length s.vw.row := row_of hoM fun k hk => by obtain ⟨cs', hb⟩ := own_ty hoM hk; exact stD k _ cs' hb (.inl rfl)
      have hC9 : (wC.setCell ⟨g, d.length * 11 + 10, none⟩ (.slice C2 s.ch.length cc2)).ownsRow wB.heap.size 9 1 (.slice C2 s.ch.length cc2) s.ch.length (strs s.ch) := row_of ho fun k hk => by obtain ⟨cs', hb⟩ := own_ty ho hk; exact stD k _ cs' hb (.inr rfl)
      have hwb : w.heap.size ≤ wr.heap.size := HCP1.out.bel.size
      have hN2 : s2.N (wC.setCell ⟨g, d.length * 11 + 10, none⟩ (.slice C2 s.ch.length cc2)) w.heap.size [] := by
        rw [hs2]
        have R := HSR.out.1
        have S := HSR.out.2
        exact ⟨⟨row_weaken hM9 hwb, fun _ _ hm => (by cases hm), R.vw.row.2, R.vw.par, R.vw.size, R.vw.ps, R.vw.ov, S.vw.par⟩, row_weaken hC9 (by omega), fun _ _ hm => (by cases hm), R.ch.2, R.name, R.num, S.name⟩
      have hm2 : ∀ k ∈ rowOf (.slice s2.vw.M 0 0), k ∉ rowOf (.slice M1 0 0) ++ mrows d := by
        intro k hk hk2
        rw [hs2] at hk
        have h1 := HCP1.out.under_m k hk2
        have h2 := (World.ownsRow.lt hM9 k (mem_rowOf.1 (by rw [row_slice M2 0 0 s.vw.row.length c2] at hk; exact hk))).1
        omega
      have hc2 : ∀ k ∈ rowOf (.slice s2.C 0 0), k ∉ crows d := by
        intro k hk hk2
        rw [hs2] at hk
        have h1 := HCP1.out.under_c k hk2
        have h2 := (World.ownsRow.lt hC9 k (mem_rowOf.1 (by rw [row_slice C2 0 0 s.ch.length cc2] at hk; exact hk))).1
        omega
      have HE := Lib.hid (hD.push hN2 hm2 hc2)
      have HV : Hid (s2.v = s.v) := Lib.hid (by rw [hs2]; rfl)
      clear c10 HOC ho bC hB hoB hzB hC hcC hs2 hD hgT stD hoM hM9 hC9 hN2 hm2 hc2
      go_wp2
      exact ⟨⟨d ++ [s2], by simp; omega, by simp, by simp [List.take_add_one, HSK.out.1, HSK.out.2.2, HV.out], by simpa using HE.out⟩, by simp only [intOf]; omega⟩
    · have hdn : d.length = a.sn.length := by omega
      have dl : decide ((d.length : Int) < (a.sn.length : Int)) = false := decide_eq_false (by omega)
      have hk1 := hcp.src
      have hk2 := hcp.res
      have x0 : wr.cell? ⟨w.heap.size, 0, none⟩ = some (.int .i64 a.id) := hk1.cell 0
      have x1 : wr.cell? ⟨w.heap.size, 1, none⟩ = some (.int .i64 a.vw.size) := hk1.cell 1
      have x2 : wr.cell? ⟨w.heap.size, 2, none⟩ = some (.int .i64 a.obj) := hk1.cell 2
      have x3 : wr.cell? ⟨w.heap.size, 3, none⟩ = some (.int .i64 a.seq) := hk1.cell 3
      have x4 : wr.cell? ⟨w.heap.size, 4, none⟩ = some (.slice S1 a.sn.length cS) := hk1.cell 4
      have x5 : wr.cell? ⟨w.heap.size, 5, none⟩ = some (.bool a.vw.on) := hk1.cell 5
      have x6 : wr.cell? ⟨w.heap.size, 6, none⟩ = some (.bool a.vw.good) := hk1.cell 6
      have x7 : wr.cell? ⟨w.heap.size, 7, none⟩ = some (.slice M1 a.vw.row.length c1) := hk1.cell 7
      have x8 : wr.cell? ⟨w.heap.size, 8, none⟩ = some (.string (strOf a.vw.par)) := hk1.cell 8
      have x9 : wr.cell? ⟨w.heap.size, 9, none⟩ = some (.int .i64 a.vw.ps) := hk1.cell 9
      have x10 : wr.cell? ⟨w.heap.size, 10, none⟩ = some (.int .i64 a.vw.ov) := hk1.cell 10
      have x11 : wr.cell? ⟨w.heap.size, 11, none⟩ = some (.int .i64 a.ow) := hk1.cell 11
      have x12 : wr.cell? ⟨w.heap.size, 12, none⟩ = some (.int .i64 a.it) := hk1.cell 12
      have x13 : wr.cell? ⟨w.heap.size, 13, none⟩ = some (.int .i64 a.tg) := hk1.cell 13
      have HCP1 := Lib.hid hcp
      have HDN := Lib.hid (And.intro hdn hup)
      clear hcp hk1 hdn hup
      go_wp2_with (have _h := hk2; refine wpList_storeq rfl 36 (.tmp 2) (.tmp 40) rfl (w.heap.size + 1) _ [.int .i64 a.id, .int .i64 a.vw.size, .int .i64 a.obj, .int .i64 a.seq, .slice S1 a.sn.length cS, .bool a.vw.on, .bool a.vw.good, .slice M1 a.vw.row.length c1, .string (strOf a.vw.par), .int .i64 a.vw.ps, .int .i64 a.vw.ov, .int .i64 a.ow, .int .i64 a.it, .int .i64 a.tg] rfl rfl hk2 rfl (by kernel_rfl) (one14 _ _ _ _ _ _ _ _ _ _ _ _ _ _ _ _ _ _) ?_; clear _h hk2 x0 x1 x2 x3 x4 x5 x6 x7 x8 x9 x10 x11 x12 x13; intro w9 K9 o9 s9)
      refine bodyPost_ret (results_cell_row rfl _ _ (w.heap.size + 1) 36 _ (0, 0) _ rfl K9 Try.underlying36 rfl (by kernel_rfl)) rfl ?_
      obtain ⟨hdn, hup⟩ := HDN.out
      have h := HCP1.out
      have st := stay_only h.res (by decide) (by decide) o9
      have hv := HR.out
      rw [hdn, List.take_length] at hup
      have hrow : w9.ownsRow w.heap.size 62 11 (.slice S1 a.sn.length cS) a.sn.length ((d ++ a.sn.drop d.length).flatMap SA.cells) := row_of h.row fun k hk => o9.block k (row_under h.row k hk) (fun hx => by
        simp at hx
        subst hx
        obtain ⟨cs', hb⟩ := own_ty h.row hk
        exact hb.ne_ h.res (by decide) rfl)
      rw [hdn, List.drop_length, List.append_nil] at hrow
      refine ⟨⟨a.id, a.obj, a.seq, S1, cS, d, ⟨a.vw.size, a.vw.on, a.vw.good, a.vw.row, M1, c1, a.vw.par, a.vw.ps, a.vw.ov⟩, a.ow, a.it, a.tg⟩, ?_, ?_, ⟨⟨row_of h.m fun k hk => by obtain ⟨cs', hb⟩ := own_ty h.m hk; exact st k _ cs' hb (.inl rfl), fun _ _ hm => (by cases hm), hv.vw.row.2, hv.vw.par, hv.vw.size, hv.vw.ps, hv.vw.ov, HSM.out.vw.par⟩, fun x hx => (h.n x hx).stay st, by rw [hdn]; exact hrow, hv.id, hv.obj, hv.seq, hv.ow, hv.it, hv.tg⟩, ⟨h.dm, h.dc⟩, hdn, h.bel.trans (o9.below (fun x hx => by simp at hx; omega) h.bel.size)⟩
      · unfold HA.cs
        simp only [hdn]
      · unfold HA.v
        simp only [hup]
        rfl
end Go.Proofs.Ytldnghmgdmjljaa

namespace Go.Proofs.Ytldnghmgdmjljaa
open Go.RowKit Go.BigFrame
set_option linter.unusedSimpArgs false
set_option linter.unusedVariables false
set_option maxRecDepth 100000
theorem own_sets {e : TypeId} {base size m c g : Nat} : ∀ (vs : List Value) (o : Nat) (w : World) (xs : List Value), w.ownsRow base e size (.slice (some ⟨g, 0, none⟩) m c) m xs → ∃ ys, (w.setCells g o vs).ownsRow base e size (.slice (some ⟨g, 0, none⟩) m c) m ys ∧ ys.drop (o + vs.length) = xs.drop (o + vs.length)
  | [], o, w, xs, h => ⟨xs, h, rfl⟩
  | v :: vs, o, w, xs, h => by
    obtain ⟨ys, h1, h2⟩ := own_sets vs (o + 1) _ _ (own_set h o v)
    refine ⟨ys, h1, ?_⟩
    rw [List.length_cons, show o + (vs.length + 1) = o + 1 + vs.length by omega, h2, List.drop_set, if_pos (by omega)]
theorem mrows_app (a b : List SA) : mrows (a ++ b) = mrows a ++ mrows b := by simp [mrows]
theorem crows_app (a b : List SA) : crows (a ++ b) = crows a ++ crows b := by simp [crows]
theorem mem_take {l : List SA} {i : Nat} {s : SA} (h : l[i]? = some s) : s ∈ l.take (i + 1) := by
  rw [List.take_add_one, h]; simp
theorem mem_drop {l : List SA} {i j : Nat} {s : SA} (h : l[j]? = some s) (hij : i < j) : s ∈ l.drop (i + 1) := by
  refine List.mem_of_getElem? (i := j - (i + 1)) ?_
  rw [List.getElem?_drop, show i + 1 + (j - (i + 1)) = j by omega, h]
theorem HA.Dj.ms {c : HA} (h : c.Dj) {i j : Nat} {s t : SA} (hs : c.sn[i]? = some s) (ht : c.sn[j]? = some t) (hij : i < j) : ∀ k ∈ rowOf (.slice t.vw.M 0 0), k ∉ rowOf (.slice s.vw.M 0 0) := by
  intro k hk hk2
  have hm := (List.nodup_append.1 h.m).2.1
  rw [← List.take_append_drop (i + 1) c.sn, mrows_app, List.nodup_append] at hm
  exact hm.2.2 k (List.mem_flatMap.2 ⟨s, mem_take hs, hk2⟩) k (List.mem_flatMap.2 ⟨t, mem_drop ht hij, hk⟩) rfl
theorem HA.Dj.cs {c : HA} (h : c.Dj) {i j : Nat} {s t : SA} (hs : c.sn[i]? = some s) (ht : c.sn[j]? = some t) (hij : i < j) : ∀ k ∈ rowOf (.slice t.C 0 0), k ∉ rowOf (.slice s.C 0 0) := by
  intro k hk hk2
  have hm := h.c
  rw [← List.take_append_drop (i + 1) c.sn, crows_app, List.nodup_append] at hm
  exact hm.2.2 k (List.mem_flatMap.2 ⟨s, mem_take hs, hk2⟩) k (List.mem_flatMap.2 ⟨t, mem_drop ht hij, hk⟩) rfl
theorem HA.Dj.m0 {c : HA} (h : c.Dj) {j : Nat} {t : SA} (ht : c.sn[j]? = some t) : ∀ k ∈ rowOf (.slice t.vw.M 0 0), k ∉ rowOf (.slice c.vw.M 0 0) := by
  intro k hk hk2
  exact (List.nodup_append.1 h.m).2.2 k hk2 k (List.mem_flatMap.2 ⟨t, List.mem_of_getElem? ht, hk⟩) rfl
/-- a snapshot's rows stay where none of them is written -/
theorem SA.N.only {s : SA} {w w' : World} {base : Nat} {F : List Nat} (h : s.N w base []) (o : Only F w w') (hm : ∀ k ∈ rowOf (.slice s.vw.M 0 0), k ∉ F) (hc : ∀ k ∈ rowOf (.slice s.C 0 0), k ∉ F) : s.N w' base [] :=
  h.of (fun k hk => o.block k (h.vw.under hk) (hm k hk)) (fun k hk => o.block k (h.under hk) (hc k hk))
/-- all is in its place from snapshot i on; the rows of those from n on are not touched -/
structure Sp (c : HA) (base : Nat) (w : World) (i n : Nat) (wr : World) : Prop where
  blk : Blk wr w.heap.size 36 #[.int .i64 c.id, .int .i64 c.vw.size, .int .i64 c.obj, .int .i64 c.seq, .slice c.S c.sn.length c.cs', .bool c.vw.on, .bool c.vw.good, .slice c.vw.M c.vw.row.length c.vw.cm, .string (strOf c.vw.par), .int .i64 c.vw.ps, .int .i64 c.vw.ov, .int .i64 c.ow, .int .i64 c.it, .int .i64 c.tg]
  row : ∃ xs, wr.ownsRow base 62 11 (.slice c.S c.sn.length c.cs') c.sn.length xs ∧ xs.drop (i * 11) = (c.sn.drop i).flatMap SA.cells
  n : ∀ j s, n ≤ j → c.sn[j]? = some s → s.N wr base []
  bel : Below base w wr
  sz : base ≤ wr.heap.size
section
variable {c : HA} {base i n : Nat} {w wr w' : World}
theorem Sp.below (h : Sp c base w i n wr) (hb : Below wr.heap.size wr w') : Sp c base w i n w' := by
  obtain ⟨xs, h1, h2⟩ := h.row
  exact ⟨h.blk.of (hb.block _ h.blk.lt), ⟨xs, own_below h1 hb, h2⟩, fun j s hj hs => (h.n j s hj hs).below hb, h.bel.trans (hb.mono h.sz), Nat.le_trans h.sz hb.size⟩
theorem Sp.elem (h : Sp c base w i n wr) {s : SA} (hs : c.sn[i]? = some s) : ∃ g, c.S = some ⟨g, 0, none⟩ ∧ base ≤ g ∧ g < wr.heap.size ∧ (∃ cs, Blk wr g 62 cs) ∧ ∀ j v, s.cells[j]? = some v → wr.cell? ⟨g, i * 11 + j, none⟩ = some v := by
  obtain ⟨xs, h1, h2⟩ := h.row
  have hi := (List.getElem?_eq_some_iff.1 hs).1
  obtain ⟨-, -, -, hA⟩ := own_shape h1
  obtain ⟨ad, e, hb, hc⟩ := (Reads.of_own h1).2 (by omega)
  rcases hA with hA | ⟨g, hA, hg1, hg2⟩
  · rw [hA] at e; cases e
  · rw [hA] at e
    injection e with e
    subst e
    refine ⟨g, hA, hg1, hg2, ?_, fun j v hj => ?_⟩
    · rw [hA] at h1; exact own_ty h1 (by simp [rowOf, Value.ownBlock])
    have hd : c.sn.drop i = s :: c.sn.drop (i + 1) := by
      rw [List.drop_eq_getElem_cons hi]
      congr 1
      rw [List.getElem?_eq_getElem hi] at hs
      injection hs
    have hx : xs[i * 11 + j]? = some v := by
      rw [← List.getElem?_drop, h2, hd, List.flatMap_cons, List.getElem?_append_left (by have := (List.getElem?_eq_some_iff.1 hj).1; exact this)]
      exact hj
    have := hc _ _ hx
    rw [add_zero_off] at this
    exact this
/-- blocks of bytes or of strings are written, of no snapshot behind -/
theorem Sp.only {F : List Nat} {m : Nat} (h : Sp c base w i n wr) (o : Only F wr w') (hF : ∀ k ∈ F, base ≤ k ∧ ∃ t cs, Blk wr k t cs ∧ (t = 5 ∨ t = 9)) (hnm : n ≤ m)
    (hm : ∀ j s, m ≤ j → c.sn[j]? = some s → (∀ k ∈ rowOf (.slice s.vw.M 0 0), k ∉ F) ∧ (∀ k ∈ rowOf (.slice s.C 0 0), k ∉ F)) : Sp c base w i m w' := by
  obtain ⟨xs, h1, h2⟩ := h.row
  refine ⟨h.blk.only o (fun hx => ?_), ⟨xs, row_of h1 fun k hk => o.block k (row_under h1 k hk) (fun hx => ?_), h2⟩, fun j s hj hs => (h.n j s (by omega) hs).only o (hm j s hj hs).1 (hm j s hj hs).2, h.bel.trans (o.below (fun x hx => (hF x hx).1) h.sz), Nat.le_trans h.sz o.size⟩
  · obtain ⟨-, t, cs, hb, ht⟩ := hF _ hx
    rcases ht with rfl | rfl <;> exact hb.ne_ h.blk (by decide) rfl
  · obtain ⟨-, t, cs, hb, ht⟩ := hF _ hx
    obtain ⟨cs', hb'⟩ := own_ty h1 hk
    rcases ht with rfl | rfl <;> exact hb.ne_ hb' (by decide) rfl
end
theorem own_blk {e : TypeId} {w : World} {base size m c g : Nat} {xs : List Value} (h : w.ownsRow base e size (.slice (some ⟨g, 0, none⟩) m c) m xs) : ∃ cs, Blk w g e cs ∧ m * size ≤ cs.size := by
  rcases h.2 with ⟨e1, -⟩ | ⟨g', cap, cur, hv, hbg, hg, hnc, hcm, hcs, htake⟩
  · injection e1 with e2; cases e2
  · injection hv with e1 e2 e3
    injection e1 with e1
    injection e1 with e1
    subst e1
    exact ⟨cur, hg, by rw [hcs]; exact Nat.mul_le_mul_right _ hnc⟩
theorem wpList_store_el {P : Program} {ops : Array Oper} {rest : List Oper} {o : Oper} {a : Act} {w : World} {Q : Exit → Act → World → Prop} (hgd : o.guard = none) (ty : TypeId) (x y : Operand) (ho : o.op = .store ty x y)
    (g k : Nat) (t : TypeId) (cs : Array Value) (vs : List Value) (hx : a.eval x = .pointer (some ⟨g, k, none⟩)) (hy : a.eval y = .agg vs.toArray) (hB : Blk w g t cs) (hs : k + vs.length ≤ cs.size) (hi : (P.info? ty).map (·.size) = some vs.length) (h1 : ∀ v ∈ vs, v.oneCell' = true)
    (h : ∀ w', w' = w.setCells g k vs → wpList P ops Q rest (a.put o.dst undef) w') : wpList P ops Q (o :: rest) a w :=
  wpList_store_mid hgd ty x y ho g k vs.toArray hx hy (hB.there (by simpa using hs)) (by simpa using hi) (all_oneCell_toArray h1) (by simpa using h _ rfl)
def zeroSn : List Value := [.int .i64 0, .int .i64 0, .string ⟨#[]⟩, .bool false, .bool false, .bool false, .slice none 0 0, .string ⟨#[]⟩, .int .i64 0, .int .i64 0, .slice none 0 0]
theorem zeroSn_one : ∀ u ∈ zeroSn, u.oneCell' = true := by
  intro u hu
  unfold zeroSn at hu
  repeat (rcases List.mem_cons.1 hu with rfl | hu; rfl)
  cases hu
theorem zero_fits {k n z : Nat} (h : k < n) (hz : n * 11 ≤ z) : k * 11 + zeroSn.length ≤ z := by
  have : zeroSn.length = 11 := rfl
  omega
theorem drop_at {l : List SA} {k : Nat} (hk : k < l.length) : ∃ s, l.drop k = s :: l.drop (k + 1) := ⟨l[k], List.drop_eq_getElem_cons hk⟩
theorem zero_drop (xs : List Value) (l : List SA) (k : Nat) (hk : k < l.length) (h : xs.drop (k * 11) = (l.drop k).flatMap SA.cells) : xs.drop ((k + 1) * 11) = (l.drop (k + 1)).flatMap SA.cells := by
  obtain ⟨s, hs⟩ := drop_at hk
  rw [hs, List.flatMap_cons] at h
  rw [show (k + 1) * 11 = k * 11 + 11 by omega, ← List.drop_drop, h]
  exact List.drop_left' rfl
theorem Sp.wipe {c : HA} {base k : Nat} {w wr : World} {g : Nat} (h : Sp c base w k (k + 1) wr) (hS : c.S = some ⟨g, 0, none⟩) (hk : k < c.sn.length) : Sp c base w (k + 1) (k + 1) (wr.setCells g (k * 11) zeroSn) := by
  obtain ⟨xs, h1, h2⟩ := h.row
  rw [hS] at h1
  obtain ⟨cs, hb, -⟩ := own_blk h1
  obtain ⟨ys, h3, h4⟩ := own_sets zeroSn (k * 11) wr xs h1
  have o : Only [g] wr (wr.setCells g (k * 11) zeroSn) := (Only.refl _ _).grown (setCells_grown g zeroSn (k * 11) wr).1 (fun x e => .inl (by injection e with e; simp [e]))
  have hz := (setCells_grown g zeroSn (k * 11) wr).2
  have hgb : base ≤ g := (World.ownsRow.lt h1 g rfl).1
  have st := stay_only hb (by decide) (by decide) o
  refine ⟨h.blk.only o ?_, ⟨ys, by rw [hS]; exact h3, ?_⟩, fun j s hj hs => (h.n j s hj hs).stay st, h.bel.trans (o.below (fun x hx => by simp at hx; omega) h.sz), by rw [hz]; exact h.sz⟩
  · simp only [List.mem_singleton]; exact h.blk.ne_ hb (by decide)
  · have e11 : zeroSn.length = 11 := rfl
    rw [e11] at h4
    rw [show (k + 1) * 11 = k * 11 + 11 by omega, h4, ← show (k + 1) * 11 = k * 11 + 11 by omega]
    exact zero_drop xs c.sn k hk h2
set_option maxHeartbeats 16000000 in
theorem hspoil_any (c : HA) (w : World) (base : Nat) (hN : c.N w base []) (hD : c.Dj) (hS : c.Sm) (hb : base ≤ w.heap.size) : Calls Try.prog 25 #[.agg c.cs] w fun e w' => e = .returned (.tuple #[]) ∧ Below base w w' := by
  have hB0 : Below base w (w.alloc (.cells #[.int .i64 c.id, .int .i64 c.vw.size, .int .i64 c.obj, .int .i64 c.seq, .slice c.S c.sn.length c.cs', .bool c.vw.on, .bool c.vw.good, .slice c.vw.M c.vw.row.length c.vw.cm, .string (strOf c.vw.par), .int .i64 c.vw.ps, .int .i64 c.vw.ov, .int .i64 c.ow, .int .i64 c.it, .int .i64 c.tg] 36)) := (below_alloc w _).mono hb
  have HN := Lib.hid hN
  have HD := Lib.hid hD
  have HSM := Lib.hid hS
  have hSp0 : Sp c base w 0 0 (w.alloc (.cells #[.int .i64 c.id, .int .i64 c.vw.size, .int .i64 c.obj, .int .i64 c.seq, .slice c.S c.sn.length c.cs', .bool c.vw.on, .bool c.vw.good, .slice c.vw.M c.vw.row.length c.vw.cm, .string (strOf c.vw.par), .int .i64 c.vw.ps, .int .i64 c.vw.ov, .int .i64 c.ow, .int .i64 c.it, .int .i64 c.tg] 36)) :=
    ⟨Blk.new w _ _, ⟨_, own_below hN.own (below_alloc w _), by simp⟩, fun j s _ hs => (hN.sn s (List.mem_of_getElem? hs)).below (below_alloc w _), hB0, by simp; omega⟩
  have HO0 := Lib.hid (hN.vw.below (below_alloc w (.cells #[.int .i64 c.id, .int .i64 c.vw.size, .int .i64 c.obj, .int .i64 c.seq, .slice c.S c.sn.length c.cs', .bool c.vw.on, .bool c.vw.good, .slice c.vw.M c.vw.row.length c.vw.cm, .string (strOf c.vw.par), .int .i64 c.vw.ps, .int .i64 c.vw.ov, .int .i64 c.ow, .int .i64 c.it, .int .i64 c.tg] 36)))
  have HSP0 := Lib.hid hSp0
  have hcn := hS.cn
  have hrl := hS.vw.row
  clear hN hD hS hSp0 hB0
  unfold HA.cs
  go_enter Try.func25, Try.ntmps25
  go_wp2_with fail
  refine (over_any _ base _ c.vw.row.length c.vw.row HO0.out.own HO0.out.ok (by omega)).mono ?_
  rintro e w1 ⟨rfl, o1⟩
  have hSp1 : Sp c base w 0 0 w1 := HSP0.out.only o1 (fun k hk => by
    obtain ⟨cs, hb⟩ := own_ty HO0.out.own hk
    exact ⟨(World.ownsRow.lt HO0.out.own k (mem_rowOf.1 hk)).1, _, cs, hb, .inl rfl⟩) (by omega) (fun j s _ hs => ⟨fun k hk hx => HD.out.m0 hs k hk (by rw [row_slice c.vw.M c.vw.row.length c.vw.cm 0 0] at hx; exact hx), fun k hk hx => by
      obtain ⟨cs, hb⟩ := own_ty HO0.out.own hx
      obtain ⟨cs2, hb2⟩ := (HSP0.out.n j s (by omega) hs).ty hk
      exact hb.ne_ hb2 (by decide) rfl⟩)
  have HSP1 := Lib.hid hSp1
  have q4 : w1.cell? ⟨w.heap.size, 4, none⟩ = some (.slice c.S c.sn.length c.cs') := hSp1.blk.cell 4
  clear o1 hSp1
  go_wp2
  clear q4
  go_loopw [11] (fun i wr => ∃ k : Nat, k ≤ c.sn.length ∧ i = .int .i64 k ∧ Sp c base w k k wr) (fun i _ => c.sn.length - (intOf i).toNat)
  case atStart => exact ⟨0, by omega, rfl, HSP1.out⟩
  case round =>
    obtain ⟨k, hk, rfl, hsp⟩ := hrel
    obtain ⟨wo, hwo⟩ : ∃ wo, wo = wr := ⟨_, rfl⟩
    subst hwo
    by_cases hlt : k < c.sn.length
    · have dl : decide ((k : Int) < (c.sn.length : Int)) = true := decide_eq_true (by omega)
      have hwk : IntKind.i64.wrap ((k : Int) + 1) = (k : Int) + 1 := by rw [IntKind.wrap_i64]; omega
      obtain ⟨s, hs⟩ : ∃ s, c.sn[k]? = some s := ⟨_, List.getElem?_eq_getElem hlt⟩
      obtain ⟨g, hcS, hgb, hgl, -, hc⟩ := hsp.elem hs
      obtain ⟨W5, hW5⟩ : ∃ W, W = wo.alloc (.cells s.cells.toArray 62) := ⟨_, rfl⟩
      have hb5 : Below wo.heap.size wo W5 := by rw [hW5]; exact below_alloc wo _
      have hk5 : Blk W5 wo.heap.size 62 #[.int .i64 s.num, .int .i64 s.vw.size, .string (strOf s.name), .bool s.vw.on, .bool s.vw.good, .bool s.prot, .slice s.vw.M s.vw.row.length s.vw.cm, .string (strOf s.vw.par), .int .i64 s.vw.ps, .int .i64 s.vw.ov, .slice s.C s.ch.length s.cc] := by rw [hW5]; exact Blk.new wo _ _
      have HW5 : Hid (W5 = wo.alloc (.cells #[.int .i64 s.num, .int .i64 s.vw.size, .string (strOf s.name), .bool s.vw.on, .bool s.vw.good, .bool s.prot, .slice s.vw.M s.vw.row.length s.vw.cm, .string (strOf s.vw.par), .int .i64 s.vw.ps, .int .i64 s.vw.ov, .slice s.C s.ch.length s.cc] 62)) := Lib.hid (by rw [hW5]; rfl)
      have HSP5 := Lib.hid (hsp.below hb5)
      have HN5 := Lib.hid ((hsp.n k s (by omega) hs).below hb5)
      have HK5 := Lib.hid hk5
      have HSK := Lib.hid (And.intro hs hcS)
      have hsl := (HSM.out.sn s (List.mem_of_getElem? hs)).vw.row
      have hcl := (HSM.out.sn s (List.mem_of_getElem? hs)).ch
      have y0 : wo.cell? ⟨g, k * 11, none⟩ = some (.int .i64 s.num) := hc 0 _ rfl
      have y1 : wo.cell? ⟨g, k * 11 + 1, none⟩ = some (.int .i64 s.vw.size) := hc 1 _ rfl
      have y2 : wo.cell? ⟨g, k * 11 + 2, none⟩ = some (.string (strOf s.name)) := hc 2 _ rfl
      have y3 : wo.cell? ⟨g, k * 11 + 3, none⟩ = some (.bool s.vw.on) := hc 3 _ rfl
      have y4 : wo.cell? ⟨g, k * 11 + 4, none⟩ = some (.bool s.vw.good) := hc 4 _ rfl
      have y5 : wo.cell? ⟨g, k * 11 + 5, none⟩ = some (.bool s.prot) := hc 5 _ rfl
      have y6 : wo.cell? ⟨g, k * 11 + 6, none⟩ = some (.slice s.vw.M s.vw.row.length s.vw.cm) := hc 6 _ rfl
      have y7 : wo.cell? ⟨g, k * 11 + 7, none⟩ = some (.string (strOf s.vw.par)) := hc 7 _ rfl
      have y8 : wo.cell? ⟨g, k * 11 + 8, none⟩ = some (.int .i64 s.vw.ps) := hc 8 _ rfl
      have y9 : wo.cell? ⟨g, k * 11 + 9, none⟩ = some (.int .i64 s.vw.ov) := hc 9 _ rfl
      have y10 : wo.cell? ⟨g, k * 11 + 10, none⟩ = some (.slice s.C s.ch.length s.cc) := hc 10 _ rfl
      rw [hcS]
      clear hW5 hb5 hk5 hsp hs hc hcS
      go_upto_region 5 with (fail)
      rw [← HW5.out]
      clear HW5 y0 y1 y2 y3 y4 y5 y6 y7 y8 y9 y10
      have x6 : W5.cell? ⟨wo.heap.size, 6, none⟩ = some (.slice s.vw.M s.vw.row.length s.vw.cm) := HK5.out.cell 6
      go_wp2_with fail
      refine (over_any _ base _ s.vw.row.length s.vw.row HN5.out.vw.own HN5.out.vw.ok (by omega)).mono ?_
      rintro e w6 ⟨rfl, o6⟩
      have hF : ∀ k ∈ rowOf (.slice s.vw.M s.vw.row.length s.vw.cm), base ≤ k ∧ ∃ t cs, Blk W5 k t cs ∧ (t = 5 ∨ t = 9) := fun x hx => by
        obtain ⟨cs, hb⟩ := own_ty HN5.out.vw.own hx
        exact ⟨(World.ownsRow.lt HN5.out.vw.own x (mem_rowOf.1 hx)).1, _, cs, hb, .inl rfl⟩
      have h6 : Sp c base w k (k + 1) w6 := HSP5.out.only o6 hF (by omega) (fun j t hj ht => ⟨fun x hx hx2 => HD.out.ms HSK.out.1 ht (by omega) x hx (by rw [row_slice s.vw.M s.vw.row.length s.vw.cm 0 0] at hx2; exact hx2), fun x hx hx2 => by
        obtain ⟨cs, hb⟩ := own_ty HN5.out.vw.own hx2
        obtain ⟨cs2, hb2⟩ := (HSP5.out.n j t (by omega) ht).ty hx
        exact hb.ne_ hb2 (by decide) rfl⟩)
      have k6 : Blk w6 wo.heap.size 62 #[.int .i64 s.num, .int .i64 s.vw.size, .string (strOf s.name), .bool s.vw.on, .bool s.vw.good, .bool s.prot, .slice s.vw.M s.vw.row.length s.vw.cm, .string (strOf s.vw.par), .int .i64 s.vw.ps, .int .i64 s.vw.ov, .slice s.C s.ch.length s.cc] := HK5.out.only o6 (fun hx => by
        obtain ⟨cs, hb⟩ := own_ty HN5.out.vw.own hx
        exact hb.ne_ HK5.out (by decide) rfl)
      have hC6 : w6.ownsRow base 9 1 (.slice s.C s.ch.length s.cc) s.ch.length (strs s.ch) := row_of HN5.out.own fun x hx => o6.block x (row_under HN5.out.own x hx) (fun hx2 => by
        obtain ⟨cs, hb⟩ := own_ty HN5.out.vw.own hx2
        obtain ⟨cs2, hb2⟩ := own_ty HN5.out.own hx
        exact hb.ne_ hb2 (by decide) rfl)
      have H6 := Lib.hid h6
      have K6 := Lib.hid k6
      have C6 := Lib.hid hC6
      have x10 : w6.cell? ⟨wo.heap.size, 10, none⟩ = some (.slice s.C s.ch.length s.cc) := k6.cell 10
      clear o6 hF h6 k6 hC6 x6
      go_wp2
      clear x10
      go_loopw [22] (fun i W => ∃ (j : Nat) (ys : List Value), j ≤ s.ch.length ∧ i = .int .i64 j ∧ W.ownsRow base 9 1 (.slice s.C s.ch.length s.cc) s.ch.length ys ∧ Only (rowOf (.slice s.C 0 0)) w6 W) (fun i _ => s.ch.length - (intOf i).toNat)
      case atStart => exact ⟨0, _, by omega, rfl, C6.out, Only.refl _ _⟩
      case round =>
        obtain ⟨j, ys, hj, rfl, hrow, hon⟩ := hrel
        have hFC : ∀ x ∈ rowOf (.slice s.C 0 0), base ≤ x ∧ ∃ t cs, Blk w6 x t cs ∧ (t = 5 ∨ t = 9) := fun x hx => by
          rw [row_slice s.C 0 0 s.ch.length s.cc] at hx
          obtain ⟨cs, hb⟩ := own_ty C6.out hx
          exact ⟨(World.ownsRow.lt C6.out x (mem_rowOf.1 hx)).1, _, cs, hb, .inr rfl⟩
        have k7 : Blk wr wo.heap.size 62 #[.int .i64 s.num, .int .i64 s.vw.size, .string (strOf s.name), .bool s.vw.on, .bool s.vw.good, .bool s.prot, .slice s.vw.M s.vw.row.length s.vw.cm, .string (strOf s.vw.par), .int .i64 s.vw.ps, .int .i64 s.vw.ov, .slice s.C s.ch.length s.cc] := K6.out.only hon (fun hx => by
          obtain ⟨-, t, cs, hb, ht⟩ := hFC _ hx
          rcases ht with rfl | rfl <;> exact hb.ne_ K6.out (by decide) rfl)
        have x10 : wr.cell? ⟨wo.heap.size, 10, none⟩ = some (.slice s.C s.ch.length s.cc) := k7.cell 10
        by_cases hjl : j < s.ch.length
        · have djl : decide ((j : Int) < (s.ch.length : Int)) = true := decide_eq_true (by omega)
          have hwj : IntKind.i64.wrap ((j : Int) + 1) = (j : Int) + 1 := by rw [IntKind.wrap_i64]; omega
          obtain ⟨ad, u, e1, hab, hu, hcu⟩ := (Reads.of_own hrow).at_ hjl
          obtain ⟨-, -, -, hA⟩ := own_shape hrow
          obtain ⟨gc, hgc, hgb2, -⟩ : ∃ b, s.C = some ⟨b, 0, none⟩ ∧ base ≤ b ∧ b < wr.heap.size := by
            rcases hA with hA | hA
            · rw [hA] at e1; cases e1
            · exact hA
          rw [hgc] at e1
          injection e1 with e1
          subst e1
          rw [add_zero_off] at hcu
          rw [hgc] at hrow hon
          have fz := own_frozen hrow j
          have hr2 := own_set hrow j (.string ⟨#[99, 104, 97, 110, 103, 101, 100]⟩)
          have ho2 : Only (rowOf (.slice (some ⟨gc, 0, none⟩) 0 0)) w6 (wr.setCell ⟨gc, j, none⟩ (.string ⟨#[99, 104, 97, 110, 103, 101, 100]⟩)) := hon.setCell (.inl (by simp [rowOf, Value.ownBlock])) _
          have HH := Lib.hid (And.intro hr2 ho2)
          have HGC := Lib.hid hgc
          rw [hgc] at x10
          clear hrow hon hFC k7 hu hab hA hr2 ho2 hgc
          go_wp2
          rw [HGC.out]
          exact ⟨⟨j + 1, _, by omega, by go_num, HH.out.1, HH.out.2⟩, by simp only [intOf]; omega⟩
        · obtain rfl : j = s.ch.length := by omega
          have djl : decide ((s.ch.length : Int) < (s.ch.length : Int)) = false := decide_eq_false (by omega)
          have h7 : Sp c base w k (k + 1) wr := H6.out.only hon hFC (by omega) (fun j t hj ht => ⟨fun x hx hx2 => by
            obtain ⟨cs2, hb2⟩ := (H6.out.n j t hj ht).vw.ty hx
            rw [row_slice s.C 0 0 s.ch.length s.cc] at hx2
            obtain ⟨cs, hb⟩ := own_ty C6.out hx2
            exact hb.ne_ hb2 (by decide) rfl, HD.out.cs HSK.out.1 ht (by omega)⟩)
          have q4 : wr.cell? ⟨w.heap.size, 4, none⟩ = some (.slice (some ⟨g, 0, none⟩) c.sn.length c.cs') := by have := h7.blk.cell 4; rw [HSK.out.2] at this; exact this
          obtain ⟨xs, hx1, -⟩ := h7.row
          rw [HSK.out.2] at hx1
          obtain ⟨csg, hbg, hsz⟩ := own_blk hx1
          have H8 := Lib.hid (h7.wipe HSK.out.2 hlt)
          clear hrow hon hFC k7 x10 h7 hx1
          go_wp2_with (refine wpList_store_el rfl 62 (.tmp 34) (.tmp 33) rfl g (k * 11) 62 csg zeroSn rfl rfl hbg (zero_fits hlt hsz) (by kernel_rfl) zeroSn_one ?_; intro w8 e8; have H9 : Hid (Sp c base w (k + 1) (k + 1) w8) := Lib.hid (by rw [e8]; exact H8.out); clear e8)
          exact ⟨⟨k + 1, by omega, by go_num, H9.out⟩, by simp only [intOf]; omega⟩
    · obtain rfl : k = c.sn.length := by omega
      have dl : decide ((c.sn.length : Int) < (c.sn.length : Int)) = false := decide_eq_false (by omega)
      have hbel := hsp.bel
      have HBE := Lib.hid hbel
      clear hsp hbel
      go_wp2
      refine bodyPost_end (results_none rfl _ _ _) rfl ?_
      exact ⟨rfl, HBE.out⟩
end Go.Proofs.Ytldnghmgdmjljaa
