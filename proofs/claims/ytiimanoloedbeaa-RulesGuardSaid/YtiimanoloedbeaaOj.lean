/-
  What a call of the law's program comes to (do), and which calls are too wide. Conditions: the head and the call read as they are said to, and are small.
-/
import Derived.Test.YtiimanoloedbeaaOi

namespace Go.Proofs.Ytiimanoloedbeaa
open Go.RowKit Go.BigFrame
set_option linter.unusedSimpArgs false
set_option linter.unusedVariables false
set_option maxRecDepth 100000
/-- what a call comes to -/
def DoTo (w : World) (h : HA) (x : CA) (e : Ending) (w' : World) : Prop :=
  Below w.heap.size w w' ∧ ((∃ k, e = .returned (.tuple #[.agg #[.int .i64 0, .int .i64 0, .int .i64 0, .int .i64 0, .slice none 0 0, .bool false, .bool false, .slice none 0 0, .string ⟨#[]⟩, .int .i64 0, .int .i64 0, .int .i64 0, .int .i64 0, .int .i64 0], .int .i64 0, errV (k + 1)]) ∧ CallE h.v x (k + 1)) ∨ (∃ (q : HA) (who : Int), e = .returned (.tuple #[.agg q.cs, .int .i64 who, .nilIface]) ∧ h.v.B = true ∧ CallO h.v x q.v ∧ q.R SA.cells w' ∧ (x.kind ≠ 4 → q.N w' w.heap.size []) ∧ (x.kind = 4 → q = h) ∧ who = if x.kind = 3 then h.ow else 0))
/-- what a walk of do starts with -/
structure Do0 (w : World) (h : HA) (x : CA) (W1 : World) : Prop where
  b : Below w.heap.size w W1
  z : W1.heap.size = w.heap.size + 4
  kh : Blk W1 w.heap.size 36 #[.int .i64 h.id, .int .i64 h.vw.size, .int .i64 h.obj, .int .i64 h.seq, .slice h.S h.sn.length h.cs', .bool h.vw.on, .bool h.vw.good, .slice h.vw.M h.vw.row.length h.vw.cm, .string (strOf h.vw.par), .int .i64 h.vw.ps, .int .i64 h.vw.ov, .int .i64 h.ow, .int .i64 h.it, .int .i64 h.tg]
  kx : Blk W1 (w.heap.size + 1) 59 #[.int .i64 x.kind, .int .i64 x.n, .int .i64 x.m, .string (strOf x.name), .string (strOf x.child), .slice x.A x.row.length x.cm, .bool x.on, .bool x.good]
  kr : Blk W1 (w.heap.size + 2) 36 #[.int .i64 0, .int .i64 0, .int .i64 0, .int .i64 0, .slice none 0 0, .bool false, .bool false, .slice none 0 0, .string ⟨#[]⟩, .int .i64 0, .int .i64 0, .int .i64 0, .int .i64 0, .int .i64 0]
  ko : Blk W1 (w.heap.size + 3) 36 #[.int .i64 0, .int .i64 0, .int .i64 0, .int .i64 0, .slice none 0 0, .bool false, .bool false, .slice none 0 0, .string ⟨#[]⟩, .int .i64 0, .int .i64 0, .int .i64 0, .int .i64 0, .int .i64 0]
theorem do0 (w : World) (h : HA) (x : CA) : Do0 w h x ((((w.alloc (.cells #[.int .i64 h.id, .int .i64 h.vw.size, .int .i64 h.obj, .int .i64 h.seq, .slice h.S h.sn.length h.cs', .bool h.vw.on, .bool h.vw.good, .slice h.vw.M h.vw.row.length h.vw.cm, .string (strOf h.vw.par), .int .i64 h.vw.ps, .int .i64 h.vw.ov, .int .i64 h.ow, .int .i64 h.it, .int .i64 h.tg] 36)).alloc (.cells #[.int .i64 x.kind, .int .i64 x.n, .int .i64 x.m, .string (strOf x.name), .string (strOf x.child), .slice x.A x.row.length x.cm, .bool x.on, .bool x.good] 59)).alloc (.cells #[.int .i64 0, .int .i64 0, .int .i64 0, .int .i64 0, .slice none 0 0, .bool false, .bool false, .slice none 0 0, .string ⟨#[]⟩, .int .i64 0, .int .i64 0, .int .i64 0, .int .i64 0, .int .i64 0] 36)).alloc (.cells #[.int .i64 0, .int .i64 0, .int .i64 0, .int .i64 0, .slice none 0 0, .bool false, .bool false, .slice none 0 0, .string ⟨#[]⟩, .int .i64 0, .int .i64 0, .int .i64 0, .int .i64 0, .int .i64 0] 36)) := by
  refine ⟨(((below_alloc w _).alloc (by simp) _).alloc (by simp <;> omega) _).alloc (by simp <;> omega) _, by simp, (((Blk.new w _ _).alloc _).alloc _).alloc _, ((blk_two _ _ _ _).alloc _).alloc _, ?_, ?_⟩
  · have := Blk.new ((w.alloc (.cells #[.int .i64 h.id, .int .i64 h.vw.size, .int .i64 h.obj, .int .i64 h.seq, .slice h.S h.sn.length h.cs', .bool h.vw.on, .bool h.vw.good, .slice h.vw.M h.vw.row.length h.vw.cm, .string (strOf h.vw.par), .int .i64 h.vw.ps, .int .i64 h.vw.ov, .int .i64 h.ow, .int .i64 h.it, .int .i64 h.tg] 36)).alloc (.cells #[.int .i64 x.kind, .int .i64 x.n, .int .i64 x.m, .string (strOf x.name), .string (strOf x.child), .slice x.A x.row.length x.cm, .bool x.on, .bool x.good] 59)) 36 #[.int .i64 0, .int .i64 0, .int .i64 0, .int .i64 0, .slice none 0 0, .bool false, .bool false, .slice none 0 0, .string ⟨#[]⟩, .int .i64 0, .int .i64 0, .int .i64 0, .int .i64 0, .int .i64 0]
    have := this.alloc (.cells #[.int .i64 0, .int .i64 0, .int .i64 0, .int .i64 0, .slice none 0 0, .bool false, .bool false, .slice none 0 0, .string ⟨#[]⟩, .int .i64 0, .int .i64 0, .int .i64 0, .int .i64 0, .int .i64 0] 36)
    simpa using this
  · have := Blk.new (((w.alloc (.cells #[.int .i64 h.id, .int .i64 h.vw.size, .int .i64 h.obj, .int .i64 h.seq, .slice h.S h.sn.length h.cs', .bool h.vw.on, .bool h.vw.good, .slice h.vw.M h.vw.row.length h.vw.cm, .string (strOf h.vw.par), .int .i64 h.vw.ps, .int .i64 h.vw.ov, .int .i64 h.ow, .int .i64 h.it, .int .i64 h.tg] 36)).alloc (.cells #[.int .i64 x.kind, .int .i64 x.n, .int .i64 x.m, .string (strOf x.name), .string (strOf x.child), .slice x.A x.row.length x.cm, .bool x.on, .bool x.good] 59)).alloc (.cells #[.int .i64 0, .int .i64 0, .int .i64 0, .int .i64 0, .slice none 0 0, .bool false, .bool false, .slice none 0 0, .string ⟨#[]⟩, .int .i64 0, .int .i64 0, .int .i64 0, .int .i64 0, .int .i64 0] 36)) 36 #[.int .i64 0, .int .i64 0, .int .i64 0, .int .i64 0, .slice none 0 0, .bool false, .bool false, .slice none 0 0, .string ⟨#[]⟩, .int .i64 0, .int .i64 0, .int .i64 0, .int .i64 0, .int .i64 0]
    simpa using this
theorem Do0.at2 {w W1 w2 : World} {h : HA} {x : CA} (d : Do0 w h x W1) (b : Below W1.heap.size W1 w2) : Below w.heap.size w w2 ∧ w.heap.size + 4 ≤ w2.heap.size ∧ Blk w2 (w.heap.size + 2) 36 #[.int .i64 0, .int .i64 0, .int .i64 0, .int .i64 0, .slice none 0 0, .bool false, .bool false, .slice none 0 0, .string ⟨#[]⟩, .int .i64 0, .int .i64 0, .int .i64 0, .int .i64 0, .int .i64 0] ∧ Blk w2 (w.heap.size + 3) 36 #[.int .i64 0, .int .i64 0, .int .i64 0, .int .i64 0, .slice none 0 0, .bool false, .bool false, .slice none 0 0, .string ⟨#[]⟩, .int .i64 0, .int .i64 0, .int .i64 0, .int .i64 0, .int .i64 0] :=
  ⟨d.b.trans (b.mono d.b.size), by have := d.z; have := b.size; omega, d.kr.of (b.block _ d.kr.lt), d.ko.of (b.block _ d.ko.lt)⟩
set_option maxHeartbeats 16000000 in
theorem do1_any (h : HA) (x : CA) (w : World) (hR : h.R SA.cells w) (hS : h.Sm) (hx : x.R w) (hxs : x.Sm) (hk : x.kind = 1) : Calls Try.prog 29 #[.agg h.cs, .agg x.cells.toArray] w (DoTo w h x) := by
  obtain ⟨W1, hW1⟩ : ∃ W, W = (((w.alloc (.cells #[.int .i64 h.id, .int .i64 h.vw.size, .int .i64 h.obj, .int .i64 h.seq, .slice h.S h.sn.length h.cs', .bool h.vw.on, .bool h.vw.good, .slice h.vw.M h.vw.row.length h.vw.cm, .string (strOf h.vw.par), .int .i64 h.vw.ps, .int .i64 h.vw.ov, .int .i64 h.ow, .int .i64 h.it, .int .i64 h.tg] 36)).alloc (.cells #[.int .i64 x.kind, .int .i64 x.n, .int .i64 x.m, .string (strOf x.name), .string (strOf x.child), .slice x.A x.row.length x.cm, .bool x.on, .bool x.good] 59)).alloc (.cells #[.int .i64 0, .int .i64 0, .int .i64 0, .int .i64 0, .slice none 0 0, .bool false, .bool false, .slice none 0 0, .string ⟨#[]⟩, .int .i64 0, .int .i64 0, .int .i64 0, .int .i64 0, .int .i64 0] 36)).alloc (.cells #[.int .i64 0, .int .i64 0, .int .i64 0, .int .i64 0, .slice none 0 0, .bool false, .bool false, .slice none 0 0, .string ⟨#[]⟩, .int .i64 0, .int .i64 0, .int .i64 0, .int .i64 0, .int .i64 0] 36) := ⟨_, rfl⟩
  have hd : Do0 w h x W1 := by rw [hW1]; exact do0 w h x
  have HD := Lib.hid hd
  have HR := Lib.hid (hR.since hd.b)
  have HS := Lib.hid hS
  have HX := Lib.hid (And.intro (hx.since hd.b) hxs)
  have HKD := Lib.hid hk
  have HW1 := Lib.hid hW1
  have hz := head_zero
  have K1 := hd.kh
  have q0 : W1.cell? ⟨w.heap.size + 1, 0, none⟩ = some (.int .i64 1) := by have h := hd.kx.cell 0; rw [h]; show some (Value.int .i64 x.kind) = _; rw [hk]
  have q1 : W1.cell? ⟨w.heap.size + 1, 1, none⟩ = some (.int .i64 x.n) := hd.kx.cell 1
  clear hR hS hx hxs hd hW1 hk
  unfold HA.cs CA.cells at *
  go_enter Try.func29, Try.ntmps29
  go_upto_region 4 with (fail)
  rw [← HW1.out]
  clear HW1
  go_wp2_with (have _h := K1; refine wpList_loadq rfl 36 (.tmp 2) rfl (w.heap.size) [.int .i64 h.id, .int .i64 h.vw.size, .int .i64 h.obj, .int .i64 h.seq, .slice h.S h.sn.length h.cs', .bool h.vw.on, .bool h.vw.good, .slice h.vw.M h.vw.row.length h.vw.cm, .string (strOf h.vw.par), .int .i64 h.vw.ps, .int .i64 h.vw.ov, .int .i64 h.ow, .int .i64 h.it, .int .i64 h.tg] _ rfl K1 Try.underlying36 rfl (by kernel_rfl) ?_; clear _h K1)
  refine (acquire_any h W1 x.n HX.out.1.n HR.out HS.out).mono ?_
  rintro e w2 ⟨b, h2⟩
  have H2 := Lib.hid (HD.out.at2 b)
  have HB2 := Lib.hid b
  have ko2 := H2.out.2.2.2
  have hz2 := H2.out.2.1
  clear b q1
  rcases h2 with ⟨hB, rfl⟩ | ⟨hB, k, rfl, hk0, hp⟩ | ⟨hB, q, rfl, hqN, ho⟩
  · have HE := Lib.hid hB
    clear hB
    simp only [errV, Z14]
    go_wp2_with (first | (have _h := ko2; refine wpList_storeq rfl 36 (.tmp 8) (.tmp 20) rfl (w.heap.size + 3) _ [.int .i64 0, .int .i64 0, .int .i64 0, .int .i64 0, .slice none 0 0, .bool false, .bool false, .slice none 0 0, .string ⟨#[]⟩, .int .i64 0, .int .i64 0, .int .i64 0, .int .i64 0, .int .i64 0] rfl rfl ko2 (by simp) (by kernel_rfl) (one14 _ _ _ _ _ _ _ _ _ _ _ _ _ _ _ _ _ _) ?_; clear _h ko2; intro w9 K9 o9 s9; have kr9 : Blk w9 (w.heap.size + 2) 36 #[.int .i64 0, .int .i64 0, .int .i64 0, .int .i64 0, .slice none 0 0, .bool false, .bool false, .slice none 0 0, .string ⟨#[]⟩, .int .i64 0, .int .i64 0, .int .i64 0, .int .i64 0, .int .i64 0] := H2.out.2.2.1.only o9 (by simp); have HO9 := Lib.hid (And.intro o9 s9); clear o9 s9) | (have _h := K9; refine wpList_loadq rfl 36 (.tmp 8) rfl (w.heap.size + 3) [.int .i64 0, .int .i64 0, .int .i64 0, .int .i64 0, .slice none 0 0, .bool false, .bool false, .slice none 0 0, .string ⟨#[]⟩, .int .i64 0, .int .i64 0, .int .i64 0, .int .i64 0, .int .i64 0] _ rfl K9 Try.underlying36 rfl (by kernel_rfl) ?_; clear _h K9) | (have _h := kr9; refine wpList_storeq rfl 36 (.tmp 4) (.tmp 168) rfl (w.heap.size + 2) _ [.int .i64 0, .int .i64 0, .int .i64 0, .int .i64 0, .slice none 0 0, .bool false, .bool false, .slice none 0 0, .string ⟨#[]⟩, .int .i64 0, .int .i64 0, .int .i64 0, .int .i64 0, .int .i64 0] rfl rfl kr9 (by simp) (by kernel_rfl) (one14 _ _ _ _ _ _ _ _ _ _ _ _ _ _ _ _ _ _) ?_; clear _h kr9; intro w10 K10 o10 s10))
    refine bodyPost_ret (results_three rfl _ _ (w.heap.size + 2) 36 _ (0, 0) _ _ _ rfl rfl rfl K10 Try.underlying36 rfl (by kernel_rfl)) rfl ?_
    have hb8 : Below w.heap.size w2 w9 := HO9.out.1.below (B := w.heap.size) (fun z hz => by simp at hz; omega) H2.out.1.size
    have hz9 : w.heap.size ≤ w9.heap.size := Nat.le_trans H2.out.1.size hb8.size
    have hb9 : Below w.heap.size w w10 := H2.out.1.trans (hb8.trans (o10.below (B := w.heap.size) (fun z hz => by simp at hz; omega) hz9))
    exact ⟨hb9, .inl ⟨1, rfl, .inl ⟨HE.out, rfl⟩⟩⟩
  · obtain ⟨k, rfl⟩ : ∃ k', k = k' + 1 := ⟨k - 1, by omega⟩
    have HE := Lib.hid (And.intro hB hp)
    clear hB hp hk0
    simp only [errV, Z14]
    go_wp2_with (first | (have _h := ko2; refine wpList_storeq rfl 36 (.tmp 8) (.tmp 20) rfl (w.heap.size + 3) _ [.int .i64 0, .int .i64 0, .int .i64 0, .int .i64 0, .slice none 0 0, .bool false, .bool false, .slice none 0 0, .string ⟨#[]⟩, .int .i64 0, .int .i64 0, .int .i64 0, .int .i64 0, .int .i64 0] rfl rfl ko2 (by simp) (by kernel_rfl) (one14 _ _ _ _ _ _ _ _ _ _ _ _ _ _ _ _ _ _) ?_; clear _h ko2; intro w9 K9 o9 s9; have kr9 : Blk w9 (w.heap.size + 2) 36 #[.int .i64 0, .int .i64 0, .int .i64 0, .int .i64 0, .slice none 0 0, .bool false, .bool false, .slice none 0 0, .string ⟨#[]⟩, .int .i64 0, .int .i64 0, .int .i64 0, .int .i64 0, .int .i64 0] := H2.out.2.2.1.only o9 (by simp); have HO9 := Lib.hid (And.intro o9 s9); clear o9 s9) | (have _h := K9; refine wpList_loadq rfl 36 (.tmp 8) rfl (w.heap.size + 3) [.int .i64 0, .int .i64 0, .int .i64 0, .int .i64 0, .slice none 0 0, .bool false, .bool false, .slice none 0 0, .string ⟨#[]⟩, .int .i64 0, .int .i64 0, .int .i64 0, .int .i64 0, .int .i64 0] _ rfl K9 Try.underlying36 rfl (by kernel_rfl) ?_; clear _h K9) | (have _h := kr9; refine wpList_storeq rfl 36 (.tmp 4) (.tmp 168) rfl (w.heap.size + 2) _ [.int .i64 0, .int .i64 0, .int .i64 0, .int .i64 0, .slice none 0 0, .bool false, .bool false, .slice none 0 0, .string ⟨#[]⟩, .int .i64 0, .int .i64 0, .int .i64 0, .int .i64 0, .int .i64 0] rfl rfl kr9 (by simp) (by kernel_rfl) (one14 _ _ _ _ _ _ _ _ _ _ _ _ _ _ _ _ _ _) ?_; clear _h kr9; intro w10 K10 o10 s10))
    refine bodyPost_ret (results_three rfl _ _ (w.heap.size + 2) 36 _ (0, 0) _ _ _ rfl rfl rfl K10 Try.underlying36 rfl (by kernel_rfl)) rfl ?_
    have hb8 : Below w.heap.size w2 w9 := HO9.out.1.below (B := w.heap.size) (fun z hz => by simp at hz; omega) H2.out.1.size
    have hz9 : w.heap.size ≤ w9.heap.size := Nat.le_trans H2.out.1.size hb8.size
    have hb9 : Below w.heap.size w w10 := H2.out.1.trans (hb8.trans (o10.below (B := w.heap.size) (fun z hz => by simp at hz; omega) hz9))
    exact ⟨hb9, .inl ⟨k, rfl, .inr ⟨HE.out.1, .inl ⟨HKD.out, HE.out.2⟩⟩⟩⟩
  · have HE := Lib.hid (And.intro hB (And.intro hqN ho))
    clear hB hqN ho
    try unfold HA.cs at *
    go_wp2_with (first | (have _h := ko2; refine wpList_storeq rfl 36 (.tmp 8) (.tmp 20) rfl (w.heap.size + 3) _ [.int .i64 q.id, .int .i64 q.vw.size, .int .i64 q.obj, .int .i64 q.seq, .slice q.S q.sn.length q.cs', .bool q.vw.on, .bool q.vw.good, .slice q.vw.M q.vw.row.length q.vw.cm, .string (strOf q.vw.par), .int .i64 q.vw.ps, .int .i64 q.vw.ov, .int .i64 q.ow, .int .i64 q.it, .int .i64 q.tg] rfl rfl ko2 (by simp) (by kernel_rfl) (one14 _ _ _ _ _ _ _ _ _ _ _ _ _ _ _ _ _ _) ?_; clear _h ko2; intro w9 K9 o9 s9; have kr9 : Blk w9 (w.heap.size + 2) 36 #[.int .i64 0, .int .i64 0, .int .i64 0, .int .i64 0, .slice none 0 0, .bool false, .bool false, .slice none 0 0, .string ⟨#[]⟩, .int .i64 0, .int .i64 0, .int .i64 0, .int .i64 0, .int .i64 0] := H2.out.2.2.1.only o9 (by simp); have HO9 := Lib.hid (And.intro o9 s9); clear o9 s9) | (have _h := K9; refine wpList_loadq rfl 36 (.tmp 8) rfl (w.heap.size + 3) [.int .i64 q.id, .int .i64 q.vw.size, .int .i64 q.obj, .int .i64 q.seq, .slice q.S q.sn.length q.cs', .bool q.vw.on, .bool q.vw.good, .slice q.vw.M q.vw.row.length q.vw.cm, .string (strOf q.vw.par), .int .i64 q.vw.ps, .int .i64 q.vw.ov, .int .i64 q.ow, .int .i64 q.it, .int .i64 q.tg] _ rfl K9 Try.underlying36 rfl (by kernel_rfl) ?_; clear _h K9) | (have _h := kr9; refine wpList_storeq rfl 36 (.tmp 4) (.tmp 168) rfl (w.heap.size + 2) _ [.int .i64 q.id, .int .i64 q.vw.size, .int .i64 q.obj, .int .i64 q.seq, .slice q.S q.sn.length q.cs', .bool q.vw.on, .bool q.vw.good, .slice q.vw.M q.vw.row.length q.vw.cm, .string (strOf q.vw.par), .int .i64 q.vw.ps, .int .i64 q.vw.ov, .int .i64 q.ow, .int .i64 q.it, .int .i64 q.tg] rfl rfl kr9 (by simp) (by kernel_rfl) (one14 _ _ _ _ _ _ _ _ _ _ _ _ _ _ _ _ _ _) ?_; clear _h kr9; intro w10 K10 o10 s10))
    refine bodyPost_ret (results_three rfl _ _ (w.heap.size + 2) 36 _ (0, 0) _ _ _ rfl rfl rfl K10 Try.underlying36 rfl (by kernel_rfl)) rfl ?_
    have hb8 : Below w.heap.size w2 w9 := HO9.out.1.below (B := w.heap.size) (fun z hz => by simp at hz; omega) H2.out.1.size
    have hz9 : w.heap.size ≤ w9.heap.size := Nat.le_trans H2.out.1.size hb8.size
    have hb9 : Below w.heap.size w w10 := H2.out.1.trans (hb8.trans (o10.below (B := w.heap.size) (fun z hz => by simp at hz; omega) hz9))
    have n9 := HE.out.2.1.stay H2.out.2.2.2 HO9.out.1
    have n10 := (n9.stay (H2.out.2.2.1.only HO9.out.1 (by simp)) o10).weaken (base' := w.heap.size) (by have := HD.out.z; omega)
    exact ⟨hb9, .inr ⟨q, 0, rfl, HE.out.1, .inl ⟨HKD.out, HE.out.2.2⟩, n10.R, fun _ => n10, fun h4 => (by rw [HKD.out] at h4; omega), by rw [HKD.out]; rfl⟩⟩
set_option maxHeartbeats 16000000 in
theorem do2_any (h : HA) (x : CA) (w : World) (hR : h.R SA.cells w) (hS : h.Sm) (hx : x.R w) (hxs : x.Sm) (hk : x.kind = 2) : Calls Try.prog 29 #[.agg h.cs, .agg x.cells.toArray] w (DoTo w h x) := by
  obtain ⟨W1, hW1⟩ : ∃ W, W = (((w.alloc (.cells #[.int .i64 h.id, .int .i64 h.vw.size, .int .i64 h.obj, .int .i64 h.seq, .slice h.S h.sn.length h.cs', .bool h.vw.on, .bool h.vw.good, .slice h.vw.M h.vw.row.length h.vw.cm, .string (strOf h.vw.par), .int .i64 h.vw.ps, .int .i64 h.vw.ov, .int .i64 h.ow, .int .i64 h.it, .int .i64 h.tg] 36)).alloc (.cells #[.int .i64 x.kind, .int .i64 x.n, .int .i64 x.m, .string (strOf x.name), .string (strOf x.child), .slice x.A x.row.length x.cm, .bool x.on, .bool x.good] 59)).alloc (.cells #[.int .i64 0, .int .i64 0, .int .i64 0, .int .i64 0, .slice none 0 0, .bool false, .bool false, .slice none 0 0, .string ⟨#[]⟩, .int .i64 0, .int .i64 0, .int .i64 0, .int .i64 0, .int .i64 0] 36)).alloc (.cells #[.int .i64 0, .int .i64 0, .int .i64 0, .int .i64 0, .slice none 0 0, .bool false, .bool false, .slice none 0 0, .string ⟨#[]⟩, .int .i64 0, .int .i64 0, .int .i64 0, .int .i64 0, .int .i64 0] 36) := ⟨_, rfl⟩
  have hd : Do0 w h x W1 := by rw [hW1]; exact do0 w h x
  have HD := Lib.hid hd
  have HR := Lib.hid (hR.since hd.b)
  have HS := Lib.hid hS
  have HX := Lib.hid (And.intro (hx.since hd.b) hxs)
  have HKD := Lib.hid hk
  have HW1 := Lib.hid hW1
  have hz := head_zero
  have K1 := hd.kh
  have q0 : W1.cell? ⟨w.heap.size + 1, 0, none⟩ = some (.int .i64 2) := by have h := hd.kx.cell 0; rw [h]; show some (Value.int .i64 x.kind) = _; rw [hk]
  have q1 : W1.cell? ⟨w.heap.size + 1, 1, none⟩ = some (.int .i64 x.n) := hd.kx.cell 1
  clear hR hS hx hxs hd hW1 hk
  unfold HA.cs CA.cells at *
  go_enter Try.func29, Try.ntmps29
  go_upto_region 4 with (fail)
  rw [← HW1.out]
  clear HW1
  go_wp2_with (have _h := K1; refine wpList_loadq rfl 36 (.tmp 2) rfl (w.heap.size) [.int .i64 h.id, .int .i64 h.vw.size, .int .i64 h.obj, .int .i64 h.seq, .slice h.S h.sn.length h.cs', .bool h.vw.on, .bool h.vw.good, .slice h.vw.M h.vw.row.length h.vw.cm, .string (strOf h.vw.par), .int .i64 h.vw.ps, .int .i64 h.vw.ov, .int .i64 h.ow, .int .i64 h.it, .int .i64 h.tg] _ rfl K1 Try.underlying36 rfl (by kernel_rfl) ?_; clear _h K1)
  refine (release_any h W1 x.n HR.out HS.out).mono ?_
  rintro e w2 ⟨b, h2⟩
  have H2 := Lib.hid (HD.out.at2 b)
  have HB2 := Lib.hid b
  have ko2 := H2.out.2.2.2
  have hz2 := H2.out.2.1
  clear b q1
  rcases h2 with ⟨hB, rfl⟩ | ⟨hB, k, rfl, hk0, hp⟩ | ⟨hB, q, rfl, hqN, ho⟩
  · have HE := Lib.hid hB
    clear hB
    simp only [errV, Z14]
    go_wp2_with (first | (have _h := ko2; refine wpList_storeq rfl 36 (.tmp 8) (.tmp 29) rfl (w.heap.size + 3) _ [.int .i64 0, .int .i64 0, .int .i64 0, .int .i64 0, .slice none 0 0, .bool false, .bool false, .slice none 0 0, .string ⟨#[]⟩, .int .i64 0, .int .i64 0, .int .i64 0, .int .i64 0, .int .i64 0] rfl rfl ko2 (by simp) (by kernel_rfl) (one14 _ _ _ _ _ _ _ _ _ _ _ _ _ _ _ _ _ _) ?_; clear _h ko2; intro w9 K9 o9 s9; have kr9 : Blk w9 (w.heap.size + 2) 36 #[.int .i64 0, .int .i64 0, .int .i64 0, .int .i64 0, .slice none 0 0, .bool false, .bool false, .slice none 0 0, .string ⟨#[]⟩, .int .i64 0, .int .i64 0, .int .i64 0, .int .i64 0, .int .i64 0] := H2.out.2.2.1.only o9 (by simp); have HO9 := Lib.hid (And.intro o9 s9); clear o9 s9) | (have _h := K9; refine wpList_loadq rfl 36 (.tmp 8) rfl (w.heap.size + 3) [.int .i64 0, .int .i64 0, .int .i64 0, .int .i64 0, .slice none 0 0, .bool false, .bool false, .slice none 0 0, .string ⟨#[]⟩, .int .i64 0, .int .i64 0, .int .i64 0, .int .i64 0, .int .i64 0] _ rfl K9 Try.underlying36 rfl (by kernel_rfl) ?_; clear _h K9) | (have _h := kr9; refine wpList_storeq rfl 36 (.tmp 4) (.tmp 168) rfl (w.heap.size + 2) _ [.int .i64 0, .int .i64 0, .int .i64 0, .int .i64 0, .slice none 0 0, .bool false, .bool false, .slice none 0 0, .string ⟨#[]⟩, .int .i64 0, .int .i64 0, .int .i64 0, .int .i64 0, .int .i64 0] rfl rfl kr9 (by simp) (by kernel_rfl) (one14 _ _ _ _ _ _ _ _ _ _ _ _ _ _ _ _ _ _) ?_; clear _h kr9; intro w10 K10 o10 s10))
    refine bodyPost_ret (results_three rfl _ _ (w.heap.size + 2) 36 _ (0, 0) _ _ _ rfl rfl rfl K10 Try.underlying36 rfl (by kernel_rfl)) rfl ?_
    have hb8 : Below w.heap.size w2 w9 := HO9.out.1.below (B := w.heap.size) (fun z hz => by simp at hz; omega) H2.out.1.size
    have hz9 : w.heap.size ≤ w9.heap.size := Nat.le_trans H2.out.1.size hb8.size
    have hb9 : Below w.heap.size w w10 := H2.out.1.trans (hb8.trans (o10.below (B := w.heap.size) (fun z hz => by simp at hz; omega) hz9))
    exact ⟨hb9, .inl ⟨1, rfl, .inl ⟨HE.out, rfl⟩⟩⟩
  · obtain ⟨k, rfl⟩ : ∃ k', k = k' + 1 := ⟨k - 1, by omega⟩
    have HE := Lib.hid (And.intro hB hp)
    clear hB hp hk0
    simp only [errV, Z14]
    go_wp2_with (first | (have _h := ko2; refine wpList_storeq rfl 36 (.tmp 8) (.tmp 29) rfl (w.heap.size + 3) _ [.int .i64 0, .int .i64 0, .int .i64 0, .int .i64 0, .slice none 0 0, .bool false, .bool false, .slice none 0 0, .string ⟨#[]⟩, .int .i64 0, .int .i64 0, .int .i64 0, .int .i64 0, .int .i64 0] rfl rfl ko2 (by simp) (by kernel_rfl) (one14 _ _ _ _ _ _ _ _ _ _ _ _ _ _ _ _ _ _) ?_; clear _h ko2; intro w9 K9 o9 s9; have kr9 : Blk w9 (w.heap.size + 2) 36 #[.int .i64 0, .int .i64 0, .int .i64 0, .int .i64 0, .slice none 0 0, .bool false, .bool false, .slice none 0 0, .string ⟨#[]⟩, .int .i64 0, .int .i64 0, .int .i64 0, .int .i64 0, .int .i64 0] := H2.out.2.2.1.only o9 (by simp); have HO9 := Lib.hid (And.intro o9 s9); clear o9 s9) | (have _h := K9; refine wpList_loadq rfl 36 (.tmp 8) rfl (w.heap.size + 3) [.int .i64 0, .int .i64 0, .int .i64 0, .int .i64 0, .slice none 0 0, .bool false, .bool false, .slice none 0 0, .string ⟨#[]⟩, .int .i64 0, .int .i64 0, .int .i64 0, .int .i64 0, .int .i64 0] _ rfl K9 Try.underlying36 rfl (by kernel_rfl) ?_; clear _h K9) | (have _h := kr9; refine wpList_storeq rfl 36 (.tmp 4) (.tmp 168) rfl (w.heap.size + 2) _ [.int .i64 0, .int .i64 0, .int .i64 0, .int .i64 0, .slice none 0 0, .bool false, .bool false, .slice none 0 0, .string ⟨#[]⟩, .int .i64 0, .int .i64 0, .int .i64 0, .int .i64 0, .int .i64 0] rfl rfl kr9 (by simp) (by kernel_rfl) (one14 _ _ _ _ _ _ _ _ _ _ _ _ _ _ _ _ _ _) ?_; clear _h kr9; intro w10 K10 o10 s10))
    refine bodyPost_ret (results_three rfl _ _ (w.heap.size + 2) 36 _ (0, 0) _ _ _ rfl rfl rfl K10 Try.underlying36 rfl (by kernel_rfl)) rfl ?_
    have hb8 : Below w.heap.size w2 w9 := HO9.out.1.below (B := w.heap.size) (fun z hz => by simp at hz; omega) H2.out.1.size
    have hz9 : w.heap.size ≤ w9.heap.size := Nat.le_trans H2.out.1.size hb8.size
    have hb9 : Below w.heap.size w w10 := H2.out.1.trans (hb8.trans (o10.below (B := w.heap.size) (fun z hz => by simp at hz; omega) hz9))
    exact ⟨hb9, .inl ⟨k, rfl, .inr ⟨HE.out.1, .inr (.inl ⟨HKD.out, HE.out.2⟩)⟩⟩⟩
  · have HE := Lib.hid (And.intro hB (And.intro hqN ho))
    clear hB hqN ho
    try unfold HA.cs at *
    go_wp2_with (first | (have _h := ko2; refine wpList_storeq rfl 36 (.tmp 8) (.tmp 29) rfl (w.heap.size + 3) _ [.int .i64 q.id, .int .i64 q.vw.size, .int .i64 q.obj, .int .i64 q.seq, .slice q.S q.sn.length q.cs', .bool q.vw.on, .bool q.vw.good, .slice q.vw.M q.vw.row.length q.vw.cm, .string (strOf q.vw.par), .int .i64 q.vw.ps, .int .i64 q.vw.ov, .int .i64 q.ow, .int .i64 q.it, .int .i64 q.tg] rfl rfl ko2 (by simp) (by kernel_rfl) (one14 _ _ _ _ _ _ _ _ _ _ _ _ _ _ _ _ _ _) ?_; clear _h ko2; intro w9 K9 o9 s9; have kr9 : Blk w9 (w.heap.size + 2) 36 #[.int .i64 0, .int .i64 0, .int .i64 0, .int .i64 0, .slice none 0 0, .bool false, .bool false, .slice none 0 0, .string ⟨#[]⟩, .int .i64 0, .int .i64 0, .int .i64 0, .int .i64 0, .int .i64 0] := H2.out.2.2.1.only o9 (by simp); have HO9 := Lib.hid (And.intro o9 s9); clear o9 s9) | (have _h := K9; refine wpList_loadq rfl 36 (.tmp 8) rfl (w.heap.size + 3) [.int .i64 q.id, .int .i64 q.vw.size, .int .i64 q.obj, .int .i64 q.seq, .slice q.S q.sn.length q.cs', .bool q.vw.on, .bool q.vw.good, .slice q.vw.M q.vw.row.length q.vw.cm, .string (strOf q.vw.par), .int .i64 q.vw.ps, .int .i64 q.vw.ov, .int .i64 q.ow, .int .i64 q.it, .int .i64 q.tg] _ rfl K9 Try.underlying36 rfl (by kernel_rfl) ?_; clear _h K9) | (have _h := kr9; refine wpList_storeq rfl 36 (.tmp 4) (.tmp 168) rfl (w.heap.size + 2) _ [.int .i64 q.id, .int .i64 q.vw.size, .int .i64 q.obj, .int .i64 q.seq, .slice q.S q.sn.length q.cs', .bool q.vw.on, .bool q.vw.good, .slice q.vw.M q.vw.row.length q.vw.cm, .string (strOf q.vw.par), .int .i64 q.vw.ps, .int .i64 q.vw.ov, .int .i64 q.ow, .int .i64 q.it, .int .i64 q.tg] rfl rfl kr9 (by simp) (by kernel_rfl) (one14 _ _ _ _ _ _ _ _ _ _ _ _ _ _ _ _ _ _) ?_; clear _h kr9; intro w10 K10 o10 s10))
    refine bodyPost_ret (results_three rfl _ _ (w.heap.size + 2) 36 _ (0, 0) _ _ _ rfl rfl rfl K10 Try.underlying36 rfl (by kernel_rfl)) rfl ?_
    have hb8 : Below w.heap.size w2 w9 := HO9.out.1.below (B := w.heap.size) (fun z hz => by simp at hz; omega) H2.out.1.size
    have hz9 : w.heap.size ≤ w9.heap.size := Nat.le_trans H2.out.1.size hb8.size
    have hb9 : Below w.heap.size w w10 := H2.out.1.trans (hb8.trans (o10.below (B := w.heap.size) (fun z hz => by simp at hz; omega) hz9))
    have n9 := HE.out.2.1.stay H2.out.2.2.2 HO9.out.1
    have n10 := (n9.stay (H2.out.2.2.1.only HO9.out.1 (by simp)) o10).weaken (base' := w.heap.size) (by have := HD.out.z; omega)
    exact ⟨hb9, .inr ⟨q, 0, rfl, HE.out.1, .inr (.inl ⟨HKD.out, HE.out.2.2⟩), n10.R, fun _ => n10, fun h4 => (by rw [HKD.out] at h4; omega), by rw [HKD.out]; rfl⟩⟩
set_option maxHeartbeats 16000000 in
theorem do3_any (h : HA) (x : CA) (w : World) (hR : h.R SA.cells w) (hS : h.Sm) (hx : x.R w) (hxs : x.Sm) (hk : x.kind = 3) : Calls Try.prog 29 #[.agg h.cs, .agg x.cells.toArray] w (DoTo w h x) := by
  obtain ⟨W1, hW1⟩ : ∃ W, W = (((w.alloc (.cells #[.int .i64 h.id, .int .i64 h.vw.size, .int .i64 h.obj, .int .i64 h.seq, .slice h.S h.sn.length h.cs', .bool h.vw.on, .bool h.vw.good, .slice h.vw.M h.vw.row.length h.vw.cm, .string (strOf h.vw.par), .int .i64 h.vw.ps, .int .i64 h.vw.ov, .int .i64 h.ow, .int .i64 h.it, .int .i64 h.tg] 36)).alloc (.cells #[.int .i64 x.kind, .int .i64 x.n, .int .i64 x.m, .string (strOf x.name), .string (strOf x.child), .slice x.A x.row.length x.cm, .bool x.on, .bool x.good] 59)).alloc (.cells #[.int .i64 0, .int .i64 0, .int .i64 0, .int .i64 0, .slice none 0 0, .bool false, .bool false, .slice none 0 0, .string ⟨#[]⟩, .int .i64 0, .int .i64 0, .int .i64 0, .int .i64 0, .int .i64 0] 36)).alloc (.cells #[.int .i64 0, .int .i64 0, .int .i64 0, .int .i64 0, .slice none 0 0, .bool false, .bool false, .slice none 0 0, .string ⟨#[]⟩, .int .i64 0, .int .i64 0, .int .i64 0, .int .i64 0, .int .i64 0] 36) := ⟨_, rfl⟩
  have hd : Do0 w h x W1 := by rw [hW1]; exact do0 w h x
  have HD := Lib.hid hd
  have HR := Lib.hid (hR.since hd.b)
  have HS := Lib.hid hS
  have HX := Lib.hid (And.intro (hx.since hd.b) hxs)
  have HKD := Lib.hid hk
  have HW1 := Lib.hid hW1
  have hz := head_zero
  have K1 := hd.kh
  have q0 : W1.cell? ⟨w.heap.size + 1, 0, none⟩ = some (.int .i64 3) := by have h := hd.kx.cell 0; rw [h]; show some (Value.int .i64 x.kind) = _; rw [hk]
  clear hR hS hx hxs hd hW1 hk
  unfold HA.cs CA.cells at *
  go_enter Try.func29, Try.ntmps29
  go_upto_region 4 with (fail)
  rw [← HW1.out]
  clear HW1
  go_wp2_with (have _h := K1; refine wpList_loadq rfl 36 (.tmp 2) rfl (w.heap.size) [.int .i64 h.id, .int .i64 h.vw.size, .int .i64 h.obj, .int .i64 h.seq, .slice h.S h.sn.length h.cs', .bool h.vw.on, .bool h.vw.good, .slice h.vw.M h.vw.row.length h.vw.cm, .string (strOf h.vw.par), .int .i64 h.vw.ps, .int .i64 h.vw.ov, .int .i64 h.ow, .int .i64 h.it, .int .i64 h.tg] _ rfl K1 Try.underlying36 rfl (by kernel_rfl) ?_; clear _h K1)
  refine (break_any h W1 HR.out HS.out).mono ?_
  rintro e w2 ⟨b, h2⟩
  have H2 := Lib.hid (HD.out.at2 b)
  have HB2 := Lib.hid b
  have ko2 := H2.out.2.2.2
  have hz2 := H2.out.2.1
  clear b
  rcases h2 with ⟨hB, rfl⟩ | ⟨hB, hp, rfl⟩ | ⟨hB, q, rfl, hqN, ho⟩
  · have HE := Lib.hid hB
    clear hB
    simp only [errV, Z14]
    go_wp2_with (first | (have _h := ko2; refine wpList_storeq rfl 36 (.tmp 8) (.tmp 36) rfl (w.heap.size + 3) _ [.int .i64 0, .int .i64 0, .int .i64 0, .int .i64 0, .slice none 0 0, .bool false, .bool false, .slice none 0 0, .string ⟨#[]⟩, .int .i64 0, .int .i64 0, .int .i64 0, .int .i64 0, .int .i64 0] rfl rfl ko2 (by simp) (by kernel_rfl) (one14 _ _ _ _ _ _ _ _ _ _ _ _ _ _ _ _ _ _) ?_; clear _h ko2; intro w9 K9 o9 s9; have kr9 : Blk w9 (w.heap.size + 2) 36 #[.int .i64 0, .int .i64 0, .int .i64 0, .int .i64 0, .slice none 0 0, .bool false, .bool false, .slice none 0 0, .string ⟨#[]⟩, .int .i64 0, .int .i64 0, .int .i64 0, .int .i64 0, .int .i64 0] := H2.out.2.2.1.only o9 (by simp); have HO9 := Lib.hid (And.intro o9 s9); clear o9 s9) | (have _h := K9; refine wpList_loadq rfl 36 (.tmp 8) rfl (w.heap.size + 3) [.int .i64 0, .int .i64 0, .int .i64 0, .int .i64 0, .slice none 0 0, .bool false, .bool false, .slice none 0 0, .string ⟨#[]⟩, .int .i64 0, .int .i64 0, .int .i64 0, .int .i64 0, .int .i64 0] _ rfl K9 Try.underlying36 rfl (by kernel_rfl) ?_; clear _h K9) | (have _h := kr9; refine wpList_storeq rfl 36 (.tmp 4) (.tmp 168) rfl (w.heap.size + 2) _ [.int .i64 0, .int .i64 0, .int .i64 0, .int .i64 0, .slice none 0 0, .bool false, .bool false, .slice none 0 0, .string ⟨#[]⟩, .int .i64 0, .int .i64 0, .int .i64 0, .int .i64 0, .int .i64 0] rfl rfl kr9 (by simp) (by kernel_rfl) (one14 _ _ _ _ _ _ _ _ _ _ _ _ _ _ _ _ _ _) ?_; clear _h kr9; intro w10 K10 o10 s10))
    refine bodyPost_ret (results_three rfl _ _ (w.heap.size + 2) 36 _ (0, 0) _ _ _ rfl rfl rfl K10 Try.underlying36 rfl (by kernel_rfl)) rfl ?_
    have hb8 : Below w.heap.size w2 w9 := HO9.out.1.below (B := w.heap.size) (fun z hz => by simp at hz; omega) H2.out.1.size
    have hz9 : w.heap.size ≤ w9.heap.size := Nat.le_trans H2.out.1.size hb8.size
    have hb9 : Below w.heap.size w w10 := H2.out.1.trans (hb8.trans (o10.below (B := w.heap.size) (fun z hz => by simp at hz; omega) hz9))
    exact ⟨hb9, .inl ⟨1, rfl, .inl ⟨HE.out, rfl⟩⟩⟩
  · have HE := Lib.hid (And.intro hB hp)
    clear hB hp
    simp only [errV, Z14]
    go_wp2_with (first | (have _h := ko2; refine wpList_storeq rfl 36 (.tmp 8) (.tmp 36) rfl (w.heap.size + 3) _ [.int .i64 0, .int .i64 0, .int .i64 0, .int .i64 0, .slice none 0 0, .bool false, .bool false, .slice none 0 0, .string ⟨#[]⟩, .int .i64 0, .int .i64 0, .int .i64 0, .int .i64 0, .int .i64 0] rfl rfl ko2 (by simp) (by kernel_rfl) (one14 _ _ _ _ _ _ _ _ _ _ _ _ _ _ _ _ _ _) ?_; clear _h ko2; intro w9 K9 o9 s9; have kr9 : Blk w9 (w.heap.size + 2) 36 #[.int .i64 0, .int .i64 0, .int .i64 0, .int .i64 0, .slice none 0 0, .bool false, .bool false, .slice none 0 0, .string ⟨#[]⟩, .int .i64 0, .int .i64 0, .int .i64 0, .int .i64 0, .int .i64 0] := H2.out.2.2.1.only o9 (by simp); have HO9 := Lib.hid (And.intro o9 s9); clear o9 s9) | (have _h := K9; refine wpList_loadq rfl 36 (.tmp 8) rfl (w.heap.size + 3) [.int .i64 0, .int .i64 0, .int .i64 0, .int .i64 0, .slice none 0 0, .bool false, .bool false, .slice none 0 0, .string ⟨#[]⟩, .int .i64 0, .int .i64 0, .int .i64 0, .int .i64 0, .int .i64 0] _ rfl K9 Try.underlying36 rfl (by kernel_rfl) ?_; clear _h K9) | (have _h := kr9; refine wpList_storeq rfl 36 (.tmp 4) (.tmp 168) rfl (w.heap.size + 2) _ [.int .i64 0, .int .i64 0, .int .i64 0, .int .i64 0, .slice none 0 0, .bool false, .bool false, .slice none 0 0, .string ⟨#[]⟩, .int .i64 0, .int .i64 0, .int .i64 0, .int .i64 0, .int .i64 0] rfl rfl kr9 (by simp) (by kernel_rfl) (one14 _ _ _ _ _ _ _ _ _ _ _ _ _ _ _ _ _ _) ?_; clear _h kr9; intro w10 K10 o10 s10))
    refine bodyPost_ret (results_three rfl _ _ (w.heap.size + 2) 36 _ (0, 0) _ _ _ rfl rfl rfl K10 Try.underlying36 rfl (by kernel_rfl)) rfl ?_
    have hb8 : Below w.heap.size w2 w9 := HO9.out.1.below (B := w.heap.size) (fun z hz => by simp at hz; omega) H2.out.1.size
    have hz9 : w.heap.size ≤ w9.heap.size := Nat.le_trans H2.out.1.size hb8.size
    have hb9 : Below w.heap.size w w10 := H2.out.1.trans (hb8.trans (o10.below (B := w.heap.size) (fun z hz => by simp at hz; omega) hz9))
    exact ⟨hb9, .inl ⟨5, rfl, .inr ⟨HE.out.1, .inr (.inr (.inl ⟨HKD.out, HE.out.2⟩))⟩⟩⟩
  · have HE := Lib.hid (And.intro hB (And.intro hqN ho))
    clear hB hqN ho
    try unfold HA.cs at *
    go_wp2_with (first | (have _h := ko2; refine wpList_storeq rfl 36 (.tmp 8) (.tmp 36) rfl (w.heap.size + 3) _ [.int .i64 q.id, .int .i64 q.vw.size, .int .i64 q.obj, .int .i64 q.seq, .slice q.S q.sn.length q.cs', .bool q.vw.on, .bool q.vw.good, .slice q.vw.M q.vw.row.length q.vw.cm, .string (strOf q.vw.par), .int .i64 q.vw.ps, .int .i64 q.vw.ov, .int .i64 q.ow, .int .i64 q.it, .int .i64 q.tg] rfl rfl ko2 (by simp) (by kernel_rfl) (one14 _ _ _ _ _ _ _ _ _ _ _ _ _ _ _ _ _ _) ?_; clear _h ko2; intro w9 K9 o9 s9; have kr9 : Blk w9 (w.heap.size + 2) 36 #[.int .i64 0, .int .i64 0, .int .i64 0, .int .i64 0, .slice none 0 0, .bool false, .bool false, .slice none 0 0, .string ⟨#[]⟩, .int .i64 0, .int .i64 0, .int .i64 0, .int .i64 0, .int .i64 0] := H2.out.2.2.1.only o9 (by simp); have HO9 := Lib.hid (And.intro o9 s9); clear o9 s9) | (have _h := K9; refine wpList_loadq rfl 36 (.tmp 8) rfl (w.heap.size + 3) [.int .i64 q.id, .int .i64 q.vw.size, .int .i64 q.obj, .int .i64 q.seq, .slice q.S q.sn.length q.cs', .bool q.vw.on, .bool q.vw.good, .slice q.vw.M q.vw.row.length q.vw.cm, .string (strOf q.vw.par), .int .i64 q.vw.ps, .int .i64 q.vw.ov, .int .i64 q.ow, .int .i64 q.it, .int .i64 q.tg] _ rfl K9 Try.underlying36 rfl (by kernel_rfl) ?_; clear _h K9) | (have _h := kr9; refine wpList_storeq rfl 36 (.tmp 4) (.tmp 168) rfl (w.heap.size + 2) _ [.int .i64 q.id, .int .i64 q.vw.size, .int .i64 q.obj, .int .i64 q.seq, .slice q.S q.sn.length q.cs', .bool q.vw.on, .bool q.vw.good, .slice q.vw.M q.vw.row.length q.vw.cm, .string (strOf q.vw.par), .int .i64 q.vw.ps, .int .i64 q.vw.ov, .int .i64 q.ow, .int .i64 q.it, .int .i64 q.tg] rfl rfl kr9 (by simp) (by kernel_rfl) (one14 _ _ _ _ _ _ _ _ _ _ _ _ _ _ _ _ _ _) ?_; clear _h kr9; intro w10 K10 o10 s10))
    refine bodyPost_ret (results_three rfl _ _ (w.heap.size + 2) 36 _ (0, 0) _ _ _ rfl rfl rfl K10 Try.underlying36 rfl (by kernel_rfl)) rfl ?_
    have hb8 : Below w.heap.size w2 w9 := HO9.out.1.below (B := w.heap.size) (fun z hz => by simp at hz; omega) H2.out.1.size
    have hz9 : w.heap.size ≤ w9.heap.size := Nat.le_trans H2.out.1.size hb8.size
    have hb9 : Below w.heap.size w w10 := H2.out.1.trans (hb8.trans (o10.below (B := w.heap.size) (fun z hz => by simp at hz; omega) hz9))
    have n9 := HE.out.2.1.stay H2.out.2.2.2 HO9.out.1
    have n10 := (n9.stay (H2.out.2.2.1.only HO9.out.1 (by simp)) o10).weaken (base' := w.heap.size) (by have := HD.out.z; omega)
    exact ⟨hb9, .inr ⟨q, h.ow, rfl, HE.out.1, .inr (.inr (.inl ⟨HKD.out, HE.out.2.2⟩)), n10.R, fun _ => n10, fun h4 => (by rw [HKD.out] at h4; omega), by rw [HKD.out]; rfl⟩⟩
set_option maxHeartbeats 16000000 in
theorem do4_any (h : HA) (x : CA) (w : World) (hR : h.R SA.cells w) (hS : h.Sm) (hx : x.R w) (hxs : x.Sm) (hk : x.kind = 4) : Calls Try.prog 29 #[.agg h.cs, .agg x.cells.toArray] w (DoTo w h x) := by
  obtain ⟨W1, hW1⟩ : ∃ W, W = (((w.alloc (.cells #[.int .i64 h.id, .int .i64 h.vw.size, .int .i64 h.obj, .int .i64 h.seq, .slice h.S h.sn.length h.cs', .bool h.vw.on, .bool h.vw.good, .slice h.vw.M h.vw.row.length h.vw.cm, .string (strOf h.vw.par), .int .i64 h.vw.ps, .int .i64 h.vw.ov, .int .i64 h.ow, .int .i64 h.it, .int .i64 h.tg] 36)).alloc (.cells #[.int .i64 x.kind, .int .i64 x.n, .int .i64 x.m, .string (strOf x.name), .string (strOf x.child), .slice x.A x.row.length x.cm, .bool x.on, .bool x.good] 59)).alloc (.cells #[.int .i64 0, .int .i64 0, .int .i64 0, .int .i64 0, .slice none 0 0, .bool false, .bool false, .slice none 0 0, .string ⟨#[]⟩, .int .i64 0, .int .i64 0, .int .i64 0, .int .i64 0, .int .i64 0] 36)).alloc (.cells #[.int .i64 0, .int .i64 0, .int .i64 0, .int .i64 0, .slice none 0 0, .bool false, .bool false, .slice none 0 0, .string ⟨#[]⟩, .int .i64 0, .int .i64 0, .int .i64 0, .int .i64 0, .int .i64 0] 36) := ⟨_, rfl⟩
  have hd : Do0 w h x W1 := by rw [hW1]; exact do0 w h x
  have HD := Lib.hid hd
  have HR := Lib.hid (hR.since hd.b)
  have HRW := Lib.hid hR
  have HS := Lib.hid hS
  have HX := Lib.hid (And.intro (hx.since hd.b) hxs)
  have HKD := Lib.hid hk
  have HW1 := Lib.hid hW1
  have hz := head_zero
  have K1 := hd.kh
  have q0 : W1.cell? ⟨w.heap.size + 1, 0, none⟩ = some (.int .i64 4) := by have h := hd.kx.cell 0; rw [h]; show some (Value.int .i64 x.kind) = _; rw [hk]
  have q1 : W1.cell? ⟨w.heap.size + 1, 1, none⟩ = some (.int .i64 x.n) := hd.kx.cell 1
  clear hR hS hx hxs hd hW1 hk
  unfold HA.cs CA.cells at *
  go_enter Try.func29, Try.ntmps29
  go_upto_region 4 with (fail)
  rw [← HW1.out]
  clear HW1
  have ko1 := HD.out.ko
  go_wp2_with (first
    | (have _h := K1; refine wpList_loadq rfl 36 (.tmp 2) rfl (w.heap.size) [.int .i64 h.id, .int .i64 h.vw.size, .int .i64 h.obj, .int .i64 h.seq, .slice h.S h.sn.length h.cs', .bool h.vw.on, .bool h.vw.good, .slice h.vw.M h.vw.row.length h.vw.cm, .string (strOf h.vw.par), .int .i64 h.vw.ps, .int .i64 h.vw.ov, .int .i64 h.ow, .int .i64 h.it, .int .i64 h.tg] _ rfl K1 Try.underlying36 rfl (by kernel_rfl) ?_; clear _h K1)
    | (have _h := ko1; refine wpList_storeq rfl 36 (.tmp 8) (.tmp 41) rfl (w.heap.size + 3) _ [.int .i64 h.id, .int .i64 h.vw.size, .int .i64 h.obj, .int .i64 h.seq, .slice h.S h.sn.length h.cs', .bool h.vw.on, .bool h.vw.good, .slice h.vw.M h.vw.row.length h.vw.cm, .string (strOf h.vw.par), .int .i64 h.vw.ps, .int .i64 h.vw.ov, .int .i64 h.ow, .int .i64 h.it, .int .i64 h.tg] rfl rfl ko1 (by simp) (by kernel_rfl) (one14 _ _ _ _ _ _ _ _ _ _ _ _ _ _ _ _ _ _) ?_; clear _h ko1; intro w3 K3 o3 s3; have HB3 : Hid (Below w.heap.size w w3) := Lib.hid (HD.out.b.trans (o3.below (fun z hz => by simp at hz; omega) HD.out.b.size)); have hlow : Only [w.heap.size + 3] W1 w3 := o3; have HR3 : Hid (h.R SA.cells w3) := Lib.hid (HRW.out.since HB3.out); have K1b : Blk w3 w.heap.size 36 #[.int .i64 h.id, .int .i64 h.vw.size, .int .i64 h.obj, .int .i64 h.seq, .slice h.S h.sn.length h.cs', .bool h.vw.on, .bool h.vw.good, .slice h.vw.M h.vw.row.length h.vw.cm, .string (strOf h.vw.par), .int .i64 h.vw.ps, .int .i64 h.vw.ov, .int .i64 h.ow, .int .i64 h.it, .int .i64 h.tg] := HD.out.kh.only o3 (by simp); have q1b : w3.cell? ⟨w.heap.size + 1, 1, none⟩ = some (.int .i64 x.n) := (HD.out.kx.only o3 (by simp)).cell 1; have HK3 := Lib.hid K3; have HKR3 : Hid (Blk w3 (w.heap.size + 2) 36 #[.int .i64 0, .int .i64 0, .int .i64 0, .int .i64 0, .slice none 0 0, .bool false, .bool false, .slice none 0 0, .string ⟨#[]⟩, .int .i64 0, .int .i64 0, .int .i64 0, .int .i64 0, .int .i64 0]) := Lib.hid (HD.out.kr.only o3 (by simp)); have HZ3 : Hid (w3.heap.size = w.heap.size + 4) := Lib.hid (by rw [s3]; exact HD.out.z); clear o3 s3 hlow K3)
    | (have _h := K1b; refine wpList_loadq rfl 36 (.tmp 2) rfl (w.heap.size) [.int .i64 h.id, .int .i64 h.vw.size, .int .i64 h.obj, .int .i64 h.seq, .slice h.S h.sn.length h.cs', .bool h.vw.on, .bool h.vw.good, .slice h.vw.M h.vw.row.length h.vw.cm, .string (strOf h.vw.par), .int .i64 h.vw.ps, .int .i64 h.vw.ov, .int .i64 h.ow, .int .i64 h.it, .int .i64 h.tg] _ rfl K1b Try.underlying36 rfl (by kernel_rfl) ?_; clear _h K1b))
  refine (ownsc_any h w3 x.n HR3.out HS.out).mono ?_
  rintro e w2 ⟨b, h2⟩
  have H2 : Hid (Below w.heap.size w w2 ∧ w.heap.size + 4 ≤ w2.heap.size ∧ Blk w2 (w.heap.size + 2) 36 #[.int .i64 0, .int .i64 0, .int .i64 0, .int .i64 0, .slice none 0 0, .bool false, .bool false, .slice none 0 0, .string ⟨#[]⟩, .int .i64 0, .int .i64 0, .int .i64 0, .int .i64 0, .int .i64 0] ∧ Blk w2 (w.heap.size + 3) 36 #[.int .i64 h.id, .int .i64 h.vw.size, .int .i64 h.obj, .int .i64 h.seq, .slice h.S h.sn.length h.cs', .bool h.vw.on, .bool h.vw.good, .slice h.vw.M h.vw.row.length h.vw.cm, .string (strOf h.vw.par), .int .i64 h.vw.ps, .int .i64 h.vw.ov, .int .i64 h.ow, .int .i64 h.it, .int .i64 h.tg]) := Lib.hid ⟨HB3.out.trans (b.mono HB3.out.size), by have := HZ3.out; have := b.size; omega, HKR3.out.of (b.block _ HKR3.out.lt), HK3.out.of (b.block _ HK3.out.lt)⟩
  have ko2 := H2.out.2.2.2
  have hz2 := H2.out.2.1
  clear b q1b
  rcases h2 with ⟨hB, rfl⟩ | ⟨hB, hp, rfl⟩ | ⟨hB, hp, rfl⟩
  · have HE := Lib.hid hB
    clear hB
    simp only [errV]
    go_wp2_with (first | (have _h := ko2; refine wpList_storeq rfl 36 (.tmp 8) (.tmp 48) rfl (w.heap.size + 3) _ [.int .i64 0, .int .i64 0, .int .i64 0, .int .i64 0, .slice none 0 0, .bool false, .bool false, .slice none 0 0, .string ⟨#[]⟩, .int .i64 0, .int .i64 0, .int .i64 0, .int .i64 0, .int .i64 0] rfl rfl ko2 (by simp) (by kernel_rfl) (one14 _ _ _ _ _ _ _ _ _ _ _ _ _ _ _ _ _ _) ?_; clear _h ko2; intro w9 K9 o9 s9; have kr9 : Blk w9 (w.heap.size + 2) 36 #[.int .i64 0, .int .i64 0, .int .i64 0, .int .i64 0, .slice none 0 0, .bool false, .bool false, .slice none 0 0, .string ⟨#[]⟩, .int .i64 0, .int .i64 0, .int .i64 0, .int .i64 0, .int .i64 0] := H2.out.2.2.1.only o9 (by simp); have HO9 := Lib.hid (And.intro o9 s9); clear o9 s9) | (have _h := K9; refine wpList_loadq rfl 36 (.tmp 8) rfl (w.heap.size + 3) [.int .i64 0, .int .i64 0, .int .i64 0, .int .i64 0, .slice none 0 0, .bool false, .bool false, .slice none 0 0, .string ⟨#[]⟩, .int .i64 0, .int .i64 0, .int .i64 0, .int .i64 0, .int .i64 0] _ rfl K9 Try.underlying36 rfl (by kernel_rfl) ?_; clear _h K9) | (have _h := kr9; refine wpList_storeq rfl 36 (.tmp 4) (.tmp 168) rfl (w.heap.size + 2) _ [.int .i64 0, .int .i64 0, .int .i64 0, .int .i64 0, .slice none 0 0, .bool false, .bool false, .slice none 0 0, .string ⟨#[]⟩, .int .i64 0, .int .i64 0, .int .i64 0, .int .i64 0, .int .i64 0] rfl rfl kr9 (by simp) (by kernel_rfl) (one14 _ _ _ _ _ _ _ _ _ _ _ _ _ _ _ _ _ _) ?_; clear _h kr9; intro w10 K10 o10 s10))
    refine bodyPost_ret (results_three rfl _ _ (w.heap.size + 2) 36 _ (0, 0) _ _ _ rfl rfl rfl K10 Try.underlying36 rfl (by kernel_rfl)) rfl ?_
    have hb8 : Below w.heap.size w2 w9 := HO9.out.1.below (B := w.heap.size) (fun z hz => by simp at hz; omega) H2.out.1.size
    have hz9 : w.heap.size ≤ w9.heap.size := Nat.le_trans H2.out.1.size hb8.size
    have hb9 : Below w.heap.size w w10 := H2.out.1.trans (hb8.trans (o10.below (B := w.heap.size) (fun z hz => by simp at hz; omega) hz9))
    exact ⟨hb9, .inl ⟨1, rfl, .inl ⟨HE.out, rfl⟩⟩⟩
  · have HE := Lib.hid (And.intro hB hp)
    clear hB hp
    simp only [errV]
    go_wp2_with (first | (have _h := ko2; refine wpList_storeq rfl 36 (.tmp 8) (.tmp 48) rfl (w.heap.size + 3) _ [.int .i64 0, .int .i64 0, .int .i64 0, .int .i64 0, .slice none 0 0, .bool false, .bool false, .slice none 0 0, .string ⟨#[]⟩, .int .i64 0, .int .i64 0, .int .i64 0, .int .i64 0, .int .i64 0] rfl rfl ko2 (by simp) (by kernel_rfl) (one14 _ _ _ _ _ _ _ _ _ _ _ _ _ _ _ _ _ _) ?_; clear _h ko2; intro w9 K9 o9 s9; have kr9 : Blk w9 (w.heap.size + 2) 36 #[.int .i64 0, .int .i64 0, .int .i64 0, .int .i64 0, .slice none 0 0, .bool false, .bool false, .slice none 0 0, .string ⟨#[]⟩, .int .i64 0, .int .i64 0, .int .i64 0, .int .i64 0, .int .i64 0] := H2.out.2.2.1.only o9 (by simp); have HO9 := Lib.hid (And.intro o9 s9); clear o9 s9) | (have _h := K9; refine wpList_loadq rfl 36 (.tmp 8) rfl (w.heap.size + 3) [.int .i64 0, .int .i64 0, .int .i64 0, .int .i64 0, .slice none 0 0, .bool false, .bool false, .slice none 0 0, .string ⟨#[]⟩, .int .i64 0, .int .i64 0, .int .i64 0, .int .i64 0, .int .i64 0] _ rfl K9 Try.underlying36 rfl (by kernel_rfl) ?_; clear _h K9) | (have _h := kr9; refine wpList_storeq rfl 36 (.tmp 4) (.tmp 168) rfl (w.heap.size + 2) _ [.int .i64 0, .int .i64 0, .int .i64 0, .int .i64 0, .slice none 0 0, .bool false, .bool false, .slice none 0 0, .string ⟨#[]⟩, .int .i64 0, .int .i64 0, .int .i64 0, .int .i64 0, .int .i64 0] rfl rfl kr9 (by simp) (by kernel_rfl) (one14 _ _ _ _ _ _ _ _ _ _ _ _ _ _ _ _ _ _) ?_; clear _h kr9; intro w10 K10 o10 s10))
    refine bodyPost_ret (results_three rfl _ _ (w.heap.size + 2) 36 _ (0, 0) _ _ _ rfl rfl rfl K10 Try.underlying36 rfl (by kernel_rfl)) rfl ?_
    have hb8 : Below w.heap.size w2 w9 := HO9.out.1.below (B := w.heap.size) (fun z hz => by simp at hz; omega) H2.out.1.size
    have hz9 : w.heap.size ≤ w9.heap.size := Nat.le_trans H2.out.1.size hb8.size
    have hb9 : Below w.heap.size w w10 := H2.out.1.trans (hb8.trans (o10.below (B := w.heap.size) (fun z hz => by simp at hz; omega) hz9))
    exact ⟨hb9, .inl ⟨9, rfl, .inr ⟨HE.out.1, .inr (.inr (.inr (.inl ⟨HKD.out, HE.out.2, rfl⟩)))⟩⟩⟩
  · have HE := Lib.hid (And.intro hB hp)
    have HR2 : Hid (h.R SA.cells w2) := Lib.hid (HRW.out.since H2.out.1)
    have K9 := ko2
    have kr9 := H2.out.2.2.1
    clear hB hp ko2
    go_wp2_with (first | (have _h := K9; refine wpList_loadq rfl 36 (.tmp 8) rfl (w.heap.size + 3) [.int .i64 h.id, .int .i64 h.vw.size, .int .i64 h.obj, .int .i64 h.seq, .slice h.S h.sn.length h.cs', .bool h.vw.on, .bool h.vw.good, .slice h.vw.M h.vw.row.length h.vw.cm, .string (strOf h.vw.par), .int .i64 h.vw.ps, .int .i64 h.vw.ov, .int .i64 h.ow, .int .i64 h.it, .int .i64 h.tg] _ rfl K9 Try.underlying36 rfl (by kernel_rfl) ?_; clear _h K9) | (have _h := kr9; refine wpList_storeq rfl 36 (.tmp 4) (.tmp 168) rfl (w.heap.size + 2) _ [.int .i64 h.id, .int .i64 h.vw.size, .int .i64 h.obj, .int .i64 h.seq, .slice h.S h.sn.length h.cs', .bool h.vw.on, .bool h.vw.good, .slice h.vw.M h.vw.row.length h.vw.cm, .string (strOf h.vw.par), .int .i64 h.vw.ps, .int .i64 h.vw.ov, .int .i64 h.ow, .int .i64 h.it, .int .i64 h.tg] rfl rfl kr9 (by simp) (by kernel_rfl) (one14 _ _ _ _ _ _ _ _ _ _ _ _ _ _ _ _ _ _) ?_; clear _h kr9; intro w10 K10 o10 s10))
    refine bodyPost_ret (results_three rfl _ _ (w.heap.size + 2) 36 _ (0, 0) _ _ _ rfl rfl rfl K10 Try.underlying36 rfl (by kernel_rfl)) rfl ?_
    have hb9 : Below w.heap.size w w10 := H2.out.1.trans (o10.below (B := w.heap.size) (fun z hz => by simp at hz; omega) H2.out.1.size)
    exact ⟨hb9, .inr ⟨h, 0, rfl, HE.out.1, .inr (.inr (.inr (.inl ⟨HKD.out, HE.out.2, rfl⟩))), HRW.out.since hb9, fun hne => absurd HKD.out hne, fun _ => rfl, by rw [HKD.out]; rfl⟩⟩
set_option maxHeartbeats 16000000 in
theorem do5_any (h : HA) (x : CA) (w : World) (hR : h.R SA.cells w) (hS : h.Sm) (hx : x.R w) (hxs : x.Sm) (hk : x.kind = 5) : Calls Try.prog 29 #[.agg h.cs, .agg x.cells.toArray] w (DoTo w h x) := by
  obtain ⟨W1, hW1⟩ : ∃ W, W = (((w.alloc (.cells #[.int .i64 h.id, .int .i64 h.vw.size, .int .i64 h.obj, .int .i64 h.seq, .slice h.S h.sn.length h.cs', .bool h.vw.on, .bool h.vw.good, .slice h.vw.M h.vw.row.length h.vw.cm, .string (strOf h.vw.par), .int .i64 h.vw.ps, .int .i64 h.vw.ov, .int .i64 h.ow, .int .i64 h.it, .int .i64 h.tg] 36)).alloc (.cells #[.int .i64 x.kind, .int .i64 x.n, .int .i64 x.m, .string (strOf x.name), .string (strOf x.child), .slice x.A x.row.length x.cm, .bool x.on, .bool x.good] 59)).alloc (.cells #[.int .i64 0, .int .i64 0, .int .i64 0, .int .i64 0, .slice none 0 0, .bool false, .bool false, .slice none 0 0, .string ⟨#[]⟩, .int .i64 0, .int .i64 0, .int .i64 0, .int .i64 0, .int .i64 0] 36)).alloc (.cells #[.int .i64 0, .int .i64 0, .int .i64 0, .int .i64 0, .slice none 0 0, .bool false, .bool false, .slice none 0 0, .string ⟨#[]⟩, .int .i64 0, .int .i64 0, .int .i64 0, .int .i64 0, .int .i64 0] 36) := ⟨_, rfl⟩
  have hd : Do0 w h x W1 := by rw [hW1]; exact do0 w h x
  have HD := Lib.hid hd
  have HR := Lib.hid (hR.since hd.b)
  have HS := Lib.hid hS
  have HX := Lib.hid (And.intro (hx.since hd.b) hxs)
  have HKD := Lib.hid hk
  have HW1 := Lib.hid hW1
  have hz := head_zero
  have K1 := hd.kh
  have q0 : W1.cell? ⟨w.heap.size + 1, 0, none⟩ = some (.int .i64 5) := by have h := hd.kx.cell 0; rw [h]; show some (Value.int .i64 x.kind) = _; rw [hk]
  have q3 : W1.cell? ⟨w.heap.size + 1, 3, none⟩ = some (.string (strOf x.name)) := hd.kx.cell 3
  clear hR hS hx hxs hd hW1 hk
  unfold HA.cs CA.cells at *
  go_enter Try.func29, Try.ntmps29
  go_upto_region 4 with (fail)
  rw [← HW1.out]
  clear HW1
  go_wp2_with (have _h := K1; refine wpList_loadq rfl 36 (.tmp 2) rfl (w.heap.size) [.int .i64 h.id, .int .i64 h.vw.size, .int .i64 h.obj, .int .i64 h.seq, .slice h.S h.sn.length h.cs', .bool h.vw.on, .bool h.vw.good, .slice h.vw.M h.vw.row.length h.vw.cm, .string (strOf h.vw.par), .int .i64 h.vw.ps, .int .i64 h.vw.ov, .int .i64 h.ow, .int .i64 h.it, .int .i64 h.tg] _ rfl K1 Try.underlying36 rfl (by kernel_rfl) ?_; clear _h K1)
  refine (snapmake_any h W1 x.name HX.out.1.name (by have := HX.out.2.name; omega) HR.out HS.out).mono ?_
  rintro e w2 ⟨b, h2⟩
  have H2 := Lib.hid (HD.out.at2 b)
  have HB2 := Lib.hid b
  have ko2 := H2.out.2.2.2
  have hz2 := H2.out.2.1
  clear b q3
  rcases h2 with ⟨hB, rfl⟩ | ⟨hB, k, rfl, hk0, hp⟩ | ⟨hB, q, rfl, hqN, ho⟩
  · have HE := Lib.hid hB
    clear hB
    simp only [errV, Z14]
    go_wp2_with (first | (have _h := ko2; refine wpList_storeq rfl 36 (.tmp 8) (.tmp 56) rfl (w.heap.size + 3) _ [.int .i64 0, .int .i64 0, .int .i64 0, .int .i64 0, .slice none 0 0, .bool false, .bool false, .slice none 0 0, .string ⟨#[]⟩, .int .i64 0, .int .i64 0, .int .i64 0, .int .i64 0, .int .i64 0] rfl rfl ko2 (by simp) (by kernel_rfl) (one14 _ _ _ _ _ _ _ _ _ _ _ _ _ _ _ _ _ _) ?_; clear _h ko2; intro w9 K9 o9 s9; have kr9 : Blk w9 (w.heap.size + 2) 36 #[.int .i64 0, .int .i64 0, .int .i64 0, .int .i64 0, .slice none 0 0, .bool false, .bool false, .slice none 0 0, .string ⟨#[]⟩, .int .i64 0, .int .i64 0, .int .i64 0, .int .i64 0, .int .i64 0] := H2.out.2.2.1.only o9 (by simp); have HO9 := Lib.hid (And.intro o9 s9); clear o9 s9) | (have _h := K9; refine wpList_loadq rfl 36 (.tmp 8) rfl (w.heap.size + 3) [.int .i64 0, .int .i64 0, .int .i64 0, .int .i64 0, .slice none 0 0, .bool false, .bool false, .slice none 0 0, .string ⟨#[]⟩, .int .i64 0, .int .i64 0, .int .i64 0, .int .i64 0, .int .i64 0] _ rfl K9 Try.underlying36 rfl (by kernel_rfl) ?_; clear _h K9) | (have _h := kr9; refine wpList_storeq rfl 36 (.tmp 4) (.tmp 168) rfl (w.heap.size + 2) _ [.int .i64 0, .int .i64 0, .int .i64 0, .int .i64 0, .slice none 0 0, .bool false, .bool false, .slice none 0 0, .string ⟨#[]⟩, .int .i64 0, .int .i64 0, .int .i64 0, .int .i64 0, .int .i64 0] rfl rfl kr9 (by simp) (by kernel_rfl) (one14 _ _ _ _ _ _ _ _ _ _ _ _ _ _ _ _ _ _) ?_; clear _h kr9; intro w10 K10 o10 s10))
    refine bodyPost_ret (results_three rfl _ _ (w.heap.size + 2) 36 _ (0, 0) _ _ _ rfl rfl rfl K10 Try.underlying36 rfl (by kernel_rfl)) rfl ?_
    have hb8 : Below w.heap.size w2 w9 := HO9.out.1.below (B := w.heap.size) (fun z hz => by simp at hz; omega) H2.out.1.size
    have hz9 : w.heap.size ≤ w9.heap.size := Nat.le_trans H2.out.1.size hb8.size
    have hb9 : Below w.heap.size w w10 := H2.out.1.trans (hb8.trans (o10.below (B := w.heap.size) (fun z hz => by simp at hz; omega) hz9))
    exact ⟨hb9, .inl ⟨1, rfl, .inl ⟨HE.out, rfl⟩⟩⟩
  · obtain ⟨k, rfl⟩ : ∃ k', k = k' + 1 := ⟨k - 1, by omega⟩
    have HE := Lib.hid (And.intro hB hp)
    clear hB hp hk0
    simp only [errV, Z14]
    go_wp2_with (first | (have _h := ko2; refine wpList_storeq rfl 36 (.tmp 8) (.tmp 56) rfl (w.heap.size + 3) _ [.int .i64 0, .int .i64 0, .int .i64 0, .int .i64 0, .slice none 0 0, .bool false, .bool false, .slice none 0 0, .string ⟨#[]⟩, .int .i64 0, .int .i64 0, .int .i64 0, .int .i64 0, .int .i64 0] rfl rfl ko2 (by simp) (by kernel_rfl) (one14 _ _ _ _ _ _ _ _ _ _ _ _ _ _ _ _ _ _) ?_; clear _h ko2; intro w9 K9 o9 s9; have kr9 : Blk w9 (w.heap.size + 2) 36 #[.int .i64 0, .int .i64 0, .int .i64 0, .int .i64 0, .slice none 0 0, .bool false, .bool false, .slice none 0 0, .string ⟨#[]⟩, .int .i64 0, .int .i64 0, .int .i64 0, .int .i64 0, .int .i64 0] := H2.out.2.2.1.only o9 (by simp); have HO9 := Lib.hid (And.intro o9 s9); clear o9 s9) | (have _h := K9; refine wpList_loadq rfl 36 (.tmp 8) rfl (w.heap.size + 3) [.int .i64 0, .int .i64 0, .int .i64 0, .int .i64 0, .slice none 0 0, .bool false, .bool false, .slice none 0 0, .string ⟨#[]⟩, .int .i64 0, .int .i64 0, .int .i64 0, .int .i64 0, .int .i64 0] _ rfl K9 Try.underlying36 rfl (by kernel_rfl) ?_; clear _h K9) | (have _h := kr9; refine wpList_storeq rfl 36 (.tmp 4) (.tmp 168) rfl (w.heap.size + 2) _ [.int .i64 0, .int .i64 0, .int .i64 0, .int .i64 0, .slice none 0 0, .bool false, .bool false, .slice none 0 0, .string ⟨#[]⟩, .int .i64 0, .int .i64 0, .int .i64 0, .int .i64 0, .int .i64 0] rfl rfl kr9 (by simp) (by kernel_rfl) (one14 _ _ _ _ _ _ _ _ _ _ _ _ _ _ _ _ _ _) ?_; clear _h kr9; intro w10 K10 o10 s10))
    refine bodyPost_ret (results_three rfl _ _ (w.heap.size + 2) 36 _ (0, 0) _ _ _ rfl rfl rfl K10 Try.underlying36 rfl (by kernel_rfl)) rfl ?_
    have hb8 : Below w.heap.size w2 w9 := HO9.out.1.below (B := w.heap.size) (fun z hz => by simp at hz; omega) H2.out.1.size
    have hz9 : w.heap.size ≤ w9.heap.size := Nat.le_trans H2.out.1.size hb8.size
    have hb9 : Below w.heap.size w w10 := H2.out.1.trans (hb8.trans (o10.below (B := w.heap.size) (fun z hz => by simp at hz; omega) hz9))
    exact ⟨hb9, .inl ⟨k, rfl, .inr ⟨HE.out.1, .inr (.inr (.inr (.inr (.inl ⟨HKD.out, HE.out.2⟩))))⟩⟩⟩
  · have HE := Lib.hid (And.intro hB (And.intro hqN ho))
    clear hB hqN ho
    try unfold HA.cs at *
    go_wp2_with (first | (have _h := ko2; refine wpList_storeq rfl 36 (.tmp 8) (.tmp 56) rfl (w.heap.size + 3) _ [.int .i64 q.id, .int .i64 q.vw.size, .int .i64 q.obj, .int .i64 q.seq, .slice q.S q.sn.length q.cs', .bool q.vw.on, .bool q.vw.good, .slice q.vw.M q.vw.row.length q.vw.cm, .string (strOf q.vw.par), .int .i64 q.vw.ps, .int .i64 q.vw.ov, .int .i64 q.ow, .int .i64 q.it, .int .i64 q.tg] rfl rfl ko2 (by simp) (by kernel_rfl) (one14 _ _ _ _ _ _ _ _ _ _ _ _ _ _ _ _ _ _) ?_; clear _h ko2; intro w9 K9 o9 s9; have kr9 : Blk w9 (w.heap.size + 2) 36 #[.int .i64 0, .int .i64 0, .int .i64 0, .int .i64 0, .slice none 0 0, .bool false, .bool false, .slice none 0 0, .string ⟨#[]⟩, .int .i64 0, .int .i64 0, .int .i64 0, .int .i64 0, .int .i64 0] := H2.out.2.2.1.only o9 (by simp); have HO9 := Lib.hid (And.intro o9 s9); clear o9 s9) | (have _h := K9; refine wpList_loadq rfl 36 (.tmp 8) rfl (w.heap.size + 3) [.int .i64 q.id, .int .i64 q.vw.size, .int .i64 q.obj, .int .i64 q.seq, .slice q.S q.sn.length q.cs', .bool q.vw.on, .bool q.vw.good, .slice q.vw.M q.vw.row.length q.vw.cm, .string (strOf q.vw.par), .int .i64 q.vw.ps, .int .i64 q.vw.ov, .int .i64 q.ow, .int .i64 q.it, .int .i64 q.tg] _ rfl K9 Try.underlying36 rfl (by kernel_rfl) ?_; clear _h K9) | (have _h := kr9; refine wpList_storeq rfl 36 (.tmp 4) (.tmp 168) rfl (w.heap.size + 2) _ [.int .i64 q.id, .int .i64 q.vw.size, .int .i64 q.obj, .int .i64 q.seq, .slice q.S q.sn.length q.cs', .bool q.vw.on, .bool q.vw.good, .slice q.vw.M q.vw.row.length q.vw.cm, .string (strOf q.vw.par), .int .i64 q.vw.ps, .int .i64 q.vw.ov, .int .i64 q.ow, .int .i64 q.it, .int .i64 q.tg] rfl rfl kr9 (by simp) (by kernel_rfl) (one14 _ _ _ _ _ _ _ _ _ _ _ _ _ _ _ _ _ _) ?_; clear _h kr9; intro w10 K10 o10 s10))
    refine bodyPost_ret (results_three rfl _ _ (w.heap.size + 2) 36 _ (0, 0) _ _ _ rfl rfl rfl K10 Try.underlying36 rfl (by kernel_rfl)) rfl ?_
    have hb8 : Below w.heap.size w2 w9 := HO9.out.1.below (B := w.heap.size) (fun z hz => by simp at hz; omega) H2.out.1.size
    have hz9 : w.heap.size ≤ w9.heap.size := Nat.le_trans H2.out.1.size hb8.size
    have hb9 : Below w.heap.size w w10 := H2.out.1.trans (hb8.trans (o10.below (B := w.heap.size) (fun z hz => by simp at hz; omega) hz9))
    have n9 := HE.out.2.1.stay H2.out.2.2.2 HO9.out.1
    have n10 := (n9.stay (H2.out.2.2.1.only HO9.out.1 (by simp)) o10).weaken (base' := w.heap.size) (by have := HD.out.z; omega)
    exact ⟨hb9, .inr ⟨q, 0, rfl, HE.out.1, .inr (.inr (.inr (.inr (.inl ⟨HKD.out, HE.out.2.2⟩)))), n10.R, fun _ => n10, fun h4 => (by rw [HKD.out] at h4; omega), by rw [HKD.out]; rfl⟩⟩
set_option maxHeartbeats 16000000 in
theorem do6_any (h : HA) (x : CA) (w : World) (hR : h.R SA.cells w) (hS : h.Sm) (hx : x.R w) (hxs : x.Sm) (hk : x.kind = 6) : Calls Try.prog 29 #[.agg h.cs, .agg x.cells.toArray] w (DoTo w h x) := by
  obtain ⟨W1, hW1⟩ : ∃ W, W = (((w.alloc (.cells #[.int .i64 h.id, .int .i64 h.vw.size, .int .i64 h.obj, .int .i64 h.seq, .slice h.S h.sn.length h.cs', .bool h.vw.on, .bool h.vw.good, .slice h.vw.M h.vw.row.length h.vw.cm, .string (strOf h.vw.par), .int .i64 h.vw.ps, .int .i64 h.vw.ov, .int .i64 h.ow, .int .i64 h.it, .int .i64 h.tg] 36)).alloc (.cells #[.int .i64 x.kind, .int .i64 x.n, .int .i64 x.m, .string (strOf x.name), .string (strOf x.child), .slice x.A x.row.length x.cm, .bool x.on, .bool x.good] 59)).alloc (.cells #[.int .i64 0, .int .i64 0, .int .i64 0, .int .i64 0, .slice none 0 0, .bool false, .bool false, .slice none 0 0, .string ⟨#[]⟩, .int .i64 0, .int .i64 0, .int .i64 0, .int .i64 0, .int .i64 0] 36)).alloc (.cells #[.int .i64 0, .int .i64 0, .int .i64 0, .int .i64 0, .slice none 0 0, .bool false, .bool false, .slice none 0 0, .string ⟨#[]⟩, .int .i64 0, .int .i64 0, .int .i64 0, .int .i64 0, .int .i64 0] 36) := ⟨_, rfl⟩
  have hd : Do0 w h x W1 := by rw [hW1]; exact do0 w h x
  have HD := Lib.hid hd
  have HR := Lib.hid (hR.since hd.b)
  have HS := Lib.hid hS
  have HX := Lib.hid (And.intro (hx.since hd.b) hxs)
  have HKD := Lib.hid hk
  have HW1 := Lib.hid hW1
  have hz := head_zero
  have K1 := hd.kh
  have q0 : W1.cell? ⟨w.heap.size + 1, 0, none⟩ = some (.int .i64 6) := by have h := hd.kx.cell 0; rw [h]; show some (Value.int .i64 x.kind) = _; rw [hk]
  have q3 : W1.cell? ⟨w.heap.size + 1, 3, none⟩ = some (.string (strOf x.name)) := hd.kx.cell 3
  clear hR hS hx hxs hd hW1 hk
  unfold HA.cs CA.cells at *
  go_enter Try.func29, Try.ntmps29
  go_upto_region 4 with (fail)
  rw [← HW1.out]
  clear HW1
  go_wp2_with (have _h := K1; refine wpList_loadq rfl 36 (.tmp 2) rfl (w.heap.size) [.int .i64 h.id, .int .i64 h.vw.size, .int .i64 h.obj, .int .i64 h.seq, .slice h.S h.sn.length h.cs', .bool h.vw.on, .bool h.vw.good, .slice h.vw.M h.vw.row.length h.vw.cm, .string (strOf h.vw.par), .int .i64 h.vw.ps, .int .i64 h.vw.ov, .int .i64 h.ow, .int .i64 h.it, .int .i64 h.tg] _ rfl K1 Try.underlying36 rfl (by kernel_rfl) ?_; clear _h K1)
  refine (protect_any h W1 x.name HX.out.1.name HR.out HS.out).mono ?_
  rintro e w2 ⟨b, h2⟩
  have H2 := Lib.hid (HD.out.at2 b)
  have HB2 := Lib.hid b
  have ko2 := H2.out.2.2.2
  have hz2 := H2.out.2.1
  clear b q3
  rcases h2 with ⟨hB, rfl⟩ | ⟨hB, k, rfl, hk0, hp⟩ | ⟨hB, q, rfl, hqN, ho⟩
  · have HE := Lib.hid hB
    clear hB
    simp only [errV, Z14]
    go_wp2_with (first | (have _h := ko2; refine wpList_storeq rfl 36 (.tmp 8) (.tmp 65) rfl (w.heap.size + 3) _ [.int .i64 0, .int .i64 0, .int .i64 0, .int .i64 0, .slice none 0 0, .bool false, .bool false, .slice none 0 0, .string ⟨#[]⟩, .int .i64 0, .int .i64 0, .int .i64 0, .int .i64 0, .int .i64 0] rfl rfl ko2 (by simp) (by kernel_rfl) (one14 _ _ _ _ _ _ _ _ _ _ _ _ _ _ _ _ _ _) ?_; clear _h ko2; intro w9 K9 o9 s9; have kr9 : Blk w9 (w.heap.size + 2) 36 #[.int .i64 0, .int .i64 0, .int .i64 0, .int .i64 0, .slice none 0 0, .bool false, .bool false, .slice none 0 0, .string ⟨#[]⟩, .int .i64 0, .int .i64 0, .int .i64 0, .int .i64 0, .int .i64 0] := H2.out.2.2.1.only o9 (by simp); have HO9 := Lib.hid (And.intro o9 s9); clear o9 s9) | (have _h := K9; refine wpList_loadq rfl 36 (.tmp 8) rfl (w.heap.size + 3) [.int .i64 0, .int .i64 0, .int .i64 0, .int .i64 0, .slice none 0 0, .bool false, .bool false, .slice none 0 0, .string ⟨#[]⟩, .int .i64 0, .int .i64 0, .int .i64 0, .int .i64 0, .int .i64 0] _ rfl K9 Try.underlying36 rfl (by kernel_rfl) ?_; clear _h K9) | (have _h := kr9; refine wpList_storeq rfl 36 (.tmp 4) (.tmp 168) rfl (w.heap.size + 2) _ [.int .i64 0, .int .i64 0, .int .i64 0, .int .i64 0, .slice none 0 0, .bool false, .bool false, .slice none 0 0, .string ⟨#[]⟩, .int .i64 0, .int .i64 0, .int .i64 0, .int .i64 0, .int .i64 0] rfl rfl kr9 (by simp) (by kernel_rfl) (one14 _ _ _ _ _ _ _ _ _ _ _ _ _ _ _ _ _ _) ?_; clear _h kr9; intro w10 K10 o10 s10))
    refine bodyPost_ret (results_three rfl _ _ (w.heap.size + 2) 36 _ (0, 0) _ _ _ rfl rfl rfl K10 Try.underlying36 rfl (by kernel_rfl)) rfl ?_
    have hb8 : Below w.heap.size w2 w9 := HO9.out.1.below (B := w.heap.size) (fun z hz => by simp at hz; omega) H2.out.1.size
    have hz9 : w.heap.size ≤ w9.heap.size := Nat.le_trans H2.out.1.size hb8.size
    have hb9 : Below w.heap.size w w10 := H2.out.1.trans (hb8.trans (o10.below (B := w.heap.size) (fun z hz => by simp at hz; omega) hz9))
    exact ⟨hb9, .inl ⟨1, rfl, .inl ⟨HE.out, rfl⟩⟩⟩
  · obtain ⟨k, rfl⟩ : ∃ k', k = k' + 1 := ⟨k - 1, by omega⟩
    have HE := Lib.hid (And.intro hB hp)
    clear hB hp hk0
    simp only [errV, Z14]
    go_wp2_with (first | (have _h := ko2; refine wpList_storeq rfl 36 (.tmp 8) (.tmp 65) rfl (w.heap.size + 3) _ [.int .i64 0, .int .i64 0, .int .i64 0, .int .i64 0, .slice none 0 0, .bool false, .bool false, .slice none 0 0, .string ⟨#[]⟩, .int .i64 0, .int .i64 0, .int .i64 0, .int .i64 0, .int .i64 0] rfl rfl ko2 (by simp) (by kernel_rfl) (one14 _ _ _ _ _ _ _ _ _ _ _ _ _ _ _ _ _ _) ?_; clear _h ko2; intro w9 K9 o9 s9; have kr9 : Blk w9 (w.heap.size + 2) 36 #[.int .i64 0, .int .i64 0, .int .i64 0, .int .i64 0, .slice none 0 0, .bool false, .bool false, .slice none 0 0, .string ⟨#[]⟩, .int .i64 0, .int .i64 0, .int .i64 0, .int .i64 0, .int .i64 0] := H2.out.2.2.1.only o9 (by simp); have HO9 := Lib.hid (And.intro o9 s9); clear o9 s9) | (have _h := K9; refine wpList_loadq rfl 36 (.tmp 8) rfl (w.heap.size + 3) [.int .i64 0, .int .i64 0, .int .i64 0, .int .i64 0, .slice none 0 0, .bool false, .bool false, .slice none 0 0, .string ⟨#[]⟩, .int .i64 0, .int .i64 0, .int .i64 0, .int .i64 0, .int .i64 0] _ rfl K9 Try.underlying36 rfl (by kernel_rfl) ?_; clear _h K9) | (have _h := kr9; refine wpList_storeq rfl 36 (.tmp 4) (.tmp 168) rfl (w.heap.size + 2) _ [.int .i64 0, .int .i64 0, .int .i64 0, .int .i64 0, .slice none 0 0, .bool false, .bool false, .slice none 0 0, .string ⟨#[]⟩, .int .i64 0, .int .i64 0, .int .i64 0, .int .i64 0, .int .i64 0] rfl rfl kr9 (by simp) (by kernel_rfl) (one14 _ _ _ _ _ _ _ _ _ _ _ _ _ _ _ _ _ _) ?_; clear _h kr9; intro w10 K10 o10 s10))
    refine bodyPost_ret (results_three rfl _ _ (w.heap.size + 2) 36 _ (0, 0) _ _ _ rfl rfl rfl K10 Try.underlying36 rfl (by kernel_rfl)) rfl ?_
    have hb8 : Below w.heap.size w2 w9 := HO9.out.1.below (B := w.heap.size) (fun z hz => by simp at hz; omega) H2.out.1.size
    have hz9 : w.heap.size ≤ w9.heap.size := Nat.le_trans H2.out.1.size hb8.size
    have hb9 : Below w.heap.size w w10 := H2.out.1.trans (hb8.trans (o10.below (B := w.heap.size) (fun z hz => by simp at hz; omega) hz9))
    exact ⟨hb9, .inl ⟨k, rfl, .inr ⟨HE.out.1, .inr (.inr (.inr (.inr (.inr (.inl ⟨HKD.out, HE.out.2⟩)))))⟩⟩⟩
  · have HE := Lib.hid (And.intro hB (And.intro hqN ho))
    clear hB hqN ho
    try unfold HA.cs at *
    go_wp2_with (first | (have _h := ko2; refine wpList_storeq rfl 36 (.tmp 8) (.tmp 65) rfl (w.heap.size + 3) _ [.int .i64 q.id, .int .i64 q.vw.size, .int .i64 q.obj, .int .i64 q.seq, .slice q.S q.sn.length q.cs', .bool q.vw.on, .bool q.vw.good, .slice q.vw.M q.vw.row.length q.vw.cm, .string (strOf q.vw.par), .int .i64 q.vw.ps, .int .i64 q.vw.ov, .int .i64 q.ow, .int .i64 q.it, .int .i64 q.tg] rfl rfl ko2 (by simp) (by kernel_rfl) (one14 _ _ _ _ _ _ _ _ _ _ _ _ _ _ _ _ _ _) ?_; clear _h ko2; intro w9 K9 o9 s9; have kr9 : Blk w9 (w.heap.size + 2) 36 #[.int .i64 0, .int .i64 0, .int .i64 0, .int .i64 0, .slice none 0 0, .bool false, .bool false, .slice none 0 0, .string ⟨#[]⟩, .int .i64 0, .int .i64 0, .int .i64 0, .int .i64 0, .int .i64 0] := H2.out.2.2.1.only o9 (by simp); have HO9 := Lib.hid (And.intro o9 s9); clear o9 s9) | (have _h := K9; refine wpList_loadq rfl 36 (.tmp 8) rfl (w.heap.size + 3) [.int .i64 q.id, .int .i64 q.vw.size, .int .i64 q.obj, .int .i64 q.seq, .slice q.S q.sn.length q.cs', .bool q.vw.on, .bool q.vw.good, .slice q.vw.M q.vw.row.length q.vw.cm, .string (strOf q.vw.par), .int .i64 q.vw.ps, .int .i64 q.vw.ov, .int .i64 q.ow, .int .i64 q.it, .int .i64 q.tg] _ rfl K9 Try.underlying36 rfl (by kernel_rfl) ?_; clear _h K9) | (have _h := kr9; refine wpList_storeq rfl 36 (.tmp 4) (.tmp 168) rfl (w.heap.size + 2) _ [.int .i64 q.id, .int .i64 q.vw.size, .int .i64 q.obj, .int .i64 q.seq, .slice q.S q.sn.length q.cs', .bool q.vw.on, .bool q.vw.good, .slice q.vw.M q.vw.row.length q.vw.cm, .string (strOf q.vw.par), .int .i64 q.vw.ps, .int .i64 q.vw.ov, .int .i64 q.ow, .int .i64 q.it, .int .i64 q.tg] rfl rfl kr9 (by simp) (by kernel_rfl) (one14 _ _ _ _ _ _ _ _ _ _ _ _ _ _ _ _ _ _) ?_; clear _h kr9; intro w10 K10 o10 s10))
    refine bodyPost_ret (results_three rfl _ _ (w.heap.size + 2) 36 _ (0, 0) _ _ _ rfl rfl rfl K10 Try.underlying36 rfl (by kernel_rfl)) rfl ?_
    have hb8 : Below w.heap.size w2 w9 := HO9.out.1.below (B := w.heap.size) (fun z hz => by simp at hz; omega) H2.out.1.size
    have hz9 : w.heap.size ≤ w9.heap.size := Nat.le_trans H2.out.1.size hb8.size
    have hb9 : Below w.heap.size w w10 := H2.out.1.trans (hb8.trans (o10.below (B := w.heap.size) (fun z hz => by simp at hz; omega) hz9))
    have n9 := HE.out.2.1.stay H2.out.2.2.2 HO9.out.1
    have n10 := (n9.stay (H2.out.2.2.1.only HO9.out.1 (by simp)) o10).weaken (base' := w.heap.size) (by have := HD.out.z; omega)
    exact ⟨hb9, .inr ⟨q, 0, rfl, HE.out.1, .inr (.inr (.inr (.inr (.inr (.inl ⟨HKD.out, HE.out.2.2⟩))))), n10.R, fun _ => n10, fun h4 => (by rw [HKD.out] at h4; omega), by rw [HKD.out]; rfl⟩⟩
set_option maxHeartbeats 16000000 in
theorem do7_any (h : HA) (x : CA) (w : World) (hR : h.R SA.cells w) (hS : h.Sm) (hx : x.R w) (hxs : x.Sm) (hk : x.kind = 7) : Calls Try.prog 29 #[.agg h.cs, .agg x.cells.toArray] w (DoTo w h x) := by
  obtain ⟨W1, hW1⟩ : ∃ W, W = (((w.alloc (.cells #[.int .i64 h.id, .int .i64 h.vw.size, .int .i64 h.obj, .int .i64 h.seq, .slice h.S h.sn.length h.cs', .bool h.vw.on, .bool h.vw.good, .slice h.vw.M h.vw.row.length h.vw.cm, .string (strOf h.vw.par), .int .i64 h.vw.ps, .int .i64 h.vw.ov, .int .i64 h.ow, .int .i64 h.it, .int .i64 h.tg] 36)).alloc (.cells #[.int .i64 x.kind, .int .i64 x.n, .int .i64 x.m, .string (strOf x.name), .string (strOf x.child), .slice x.A x.row.length x.cm, .bool x.on, .bool x.good] 59)).alloc (.cells #[.int .i64 0, .int .i64 0, .int .i64 0, .int .i64 0, .slice none 0 0, .bool false, .bool false, .slice none 0 0, .string ⟨#[]⟩, .int .i64 0, .int .i64 0, .int .i64 0, .int .i64 0, .int .i64 0] 36)).alloc (.cells #[.int .i64 0, .int .i64 0, .int .i64 0, .int .i64 0, .slice none 0 0, .bool false, .bool false, .slice none 0 0, .string ⟨#[]⟩, .int .i64 0, .int .i64 0, .int .i64 0, .int .i64 0, .int .i64 0] 36) := ⟨_, rfl⟩
  have hd : Do0 w h x W1 := by rw [hW1]; exact do0 w h x
  have HD := Lib.hid hd
  have HR := Lib.hid (hR.since hd.b)
  have HS := Lib.hid hS
  have HX := Lib.hid (And.intro (hx.since hd.b) hxs)
  have HKD := Lib.hid hk
  have HW1 := Lib.hid hW1
  have hz := head_zero
  have K1 := hd.kh
  have q0 : W1.cell? ⟨w.heap.size + 1, 0, none⟩ = some (.int .i64 7) := by have h := hd.kx.cell 0; rw [h]; show some (Value.int .i64 x.kind) = _; rw [hk]
  have q3 : W1.cell? ⟨w.heap.size + 1, 3, none⟩ = some (.string (strOf x.name)) := hd.kx.cell 3
  clear hR hS hx hxs hd hW1 hk
  unfold HA.cs CA.cells at *
  go_enter Try.func29, Try.ntmps29
  go_upto_region 4 with (fail)
  rw [← HW1.out]
  clear HW1
  go_wp2_with (have _h := K1; refine wpList_loadq rfl 36 (.tmp 2) rfl (w.heap.size) [.int .i64 h.id, .int .i64 h.vw.size, .int .i64 h.obj, .int .i64 h.seq, .slice h.S h.sn.length h.cs', .bool h.vw.on, .bool h.vw.good, .slice h.vw.M h.vw.row.length h.vw.cm, .string (strOf h.vw.par), .int .i64 h.vw.ps, .int .i64 h.vw.ov, .int .i64 h.ow, .int .i64 h.it, .int .i64 h.tg] _ rfl K1 Try.underlying36 rfl (by kernel_rfl) ?_; clear _h K1)
  refine (unprotect_any h W1 x.name HX.out.1.name HR.out HS.out).mono ?_
  rintro e w2 ⟨b, h2⟩
  have H2 := Lib.hid (HD.out.at2 b)
  have HB2 := Lib.hid b
  have ko2 := H2.out.2.2.2
  have hz2 := H2.out.2.1
  clear b q3
  rcases h2 with ⟨hB, rfl⟩ | ⟨hB, k, rfl, hk0, hp⟩ | ⟨hB, q, rfl, hqN, ho⟩
  · have HE := Lib.hid hB
    clear hB
    simp only [errV, Z14]
    go_wp2_with (first | (have _h := ko2; refine wpList_storeq rfl 36 (.tmp 8) (.tmp 74) rfl (w.heap.size + 3) _ [.int .i64 0, .int .i64 0, .int .i64 0, .int .i64 0, .slice none 0 0, .bool false, .bool false, .slice none 0 0, .string ⟨#[]⟩, .int .i64 0, .int .i64 0, .int .i64 0, .int .i64 0, .int .i64 0] rfl rfl ko2 (by simp) (by kernel_rfl) (one14 _ _ _ _ _ _ _ _ _ _ _ _ _ _ _ _ _ _) ?_; clear _h ko2; intro w9 K9 o9 s9; have kr9 : Blk w9 (w.heap.size + 2) 36 #[.int .i64 0, .int .i64 0, .int .i64 0, .int .i64 0, .slice none 0 0, .bool false, .bool false, .slice none 0 0, .string ⟨#[]⟩, .int .i64 0, .int .i64 0, .int .i64 0, .int .i64 0, .int .i64 0] := H2.out.2.2.1.only o9 (by simp); have HO9 := Lib.hid (And.intro o9 s9); clear o9 s9) | (have _h := K9; refine wpList_loadq rfl 36 (.tmp 8) rfl (w.heap.size + 3) [.int .i64 0, .int .i64 0, .int .i64 0, .int .i64 0, .slice none 0 0, .bool false, .bool false, .slice none 0 0, .string ⟨#[]⟩, .int .i64 0, .int .i64 0, .int .i64 0, .int .i64 0, .int .i64 0] _ rfl K9 Try.underlying36 rfl (by kernel_rfl) ?_; clear _h K9) | (have _h := kr9; refine wpList_storeq rfl 36 (.tmp 4) (.tmp 168) rfl (w.heap.size + 2) _ [.int .i64 0, .int .i64 0, .int .i64 0, .int .i64 0, .slice none 0 0, .bool false, .bool false, .slice none 0 0, .string ⟨#[]⟩, .int .i64 0, .int .i64 0, .int .i64 0, .int .i64 0, .int .i64 0] rfl rfl kr9 (by simp) (by kernel_rfl) (one14 _ _ _ _ _ _ _ _ _ _ _ _ _ _ _ _ _ _) ?_; clear _h kr9; intro w10 K10 o10 s10))
    refine bodyPost_ret (results_three rfl _ _ (w.heap.size + 2) 36 _ (0, 0) _ _ _ rfl rfl rfl K10 Try.underlying36 rfl (by kernel_rfl)) rfl ?_
    have hb8 : Below w.heap.size w2 w9 := HO9.out.1.below (B := w.heap.size) (fun z hz => by simp at hz; omega) H2.out.1.size
    have hz9 : w.heap.size ≤ w9.heap.size := Nat.le_trans H2.out.1.size hb8.size
    have hb9 : Below w.heap.size w w10 := H2.out.1.trans (hb8.trans (o10.below (B := w.heap.size) (fun z hz => by simp at hz; omega) hz9))
    exact ⟨hb9, .inl ⟨1, rfl, .inl ⟨HE.out, rfl⟩⟩⟩
  · obtain ⟨k, rfl⟩ : ∃ k', k = k' + 1 := ⟨k - 1, by omega⟩
    have HE := Lib.hid (And.intro hB hp)
    clear hB hp hk0
    simp only [errV, Z14]
    go_wp2_with (first | (have _h := ko2; refine wpList_storeq rfl 36 (.tmp 8) (.tmp 74) rfl (w.heap.size + 3) _ [.int .i64 0, .int .i64 0, .int .i64 0, .int .i64 0, .slice none 0 0, .bool false, .bool false, .slice none 0 0, .string ⟨#[]⟩, .int .i64 0, .int .i64 0, .int .i64 0, .int .i64 0, .int .i64 0] rfl rfl ko2 (by simp) (by kernel_rfl) (one14 _ _ _ _ _ _ _ _ _ _ _ _ _ _ _ _ _ _) ?_; clear _h ko2; intro w9 K9 o9 s9; have kr9 : Blk w9 (w.heap.size + 2) 36 #[.int .i64 0, .int .i64 0, .int .i64 0, .int .i64 0, .slice none 0 0, .bool false, .bool false, .slice none 0 0, .string ⟨#[]⟩, .int .i64 0, .int .i64 0, .int .i64 0, .int .i64 0, .int .i64 0] := H2.out.2.2.1.only o9 (by simp); have HO9 := Lib.hid (And.intro o9 s9); clear o9 s9) | (have _h := K9; refine wpList_loadq rfl 36 (.tmp 8) rfl (w.heap.size + 3) [.int .i64 0, .int .i64 0, .int .i64 0, .int .i64 0, .slice none 0 0, .bool false, .bool false, .slice none 0 0, .string ⟨#[]⟩, .int .i64 0, .int .i64 0, .int .i64 0, .int .i64 0, .int .i64 0] _ rfl K9 Try.underlying36 rfl (by kernel_rfl) ?_; clear _h K9) | (have _h := kr9; refine wpList_storeq rfl 36 (.tmp 4) (.tmp 168) rfl (w.heap.size + 2) _ [.int .i64 0, .int .i64 0, .int .i64 0, .int .i64 0, .slice none 0 0, .bool false, .bool false, .slice none 0 0, .string ⟨#[]⟩, .int .i64 0, .int .i64 0, .int .i64 0, .int .i64 0, .int .i64 0] rfl rfl kr9 (by simp) (by kernel_rfl) (one14 _ _ _ _ _ _ _ _ _ _ _ _ _ _ _ _ _ _) ?_; clear _h kr9; intro w10 K10 o10 s10))
    refine bodyPost_ret (results_three rfl _ _ (w.heap.size + 2) 36 _ (0, 0) _ _ _ rfl rfl rfl K10 Try.underlying36 rfl (by kernel_rfl)) rfl ?_
    have hb8 : Below w.heap.size w2 w9 := HO9.out.1.below (B := w.heap.size) (fun z hz => by simp at hz; omega) H2.out.1.size
    have hz9 : w.heap.size ≤ w9.heap.size := Nat.le_trans H2.out.1.size hb8.size
    have hb9 : Below w.heap.size w w10 := H2.out.1.trans (hb8.trans (o10.below (B := w.heap.size) (fun z hz => by simp at hz; omega) hz9))
    exact ⟨hb9, .inl ⟨k, rfl, .inr ⟨HE.out.1, .inr (.inr (.inr (.inr (.inr (.inr (.inl ⟨HKD.out, HE.out.2⟩))))))⟩⟩⟩
  · have HE := Lib.hid (And.intro hB (And.intro hqN ho))
    clear hB hqN ho
    try unfold HA.cs at *
    go_wp2_with (first | (have _h := ko2; refine wpList_storeq rfl 36 (.tmp 8) (.tmp 74) rfl (w.heap.size + 3) _ [.int .i64 q.id, .int .i64 q.vw.size, .int .i64 q.obj, .int .i64 q.seq, .slice q.S q.sn.length q.cs', .bool q.vw.on, .bool q.vw.good, .slice q.vw.M q.vw.row.length q.vw.cm, .string (strOf q.vw.par), .int .i64 q.vw.ps, .int .i64 q.vw.ov, .int .i64 q.ow, .int .i64 q.it, .int .i64 q.tg] rfl rfl ko2 (by simp) (by kernel_rfl) (one14 _ _ _ _ _ _ _ _ _ _ _ _ _ _ _ _ _ _) ?_; clear _h ko2; intro w9 K9 o9 s9; have kr9 : Blk w9 (w.heap.size + 2) 36 #[.int .i64 0, .int .i64 0, .int .i64 0, .int .i64 0, .slice none 0 0, .bool false, .bool false, .slice none 0 0, .string ⟨#[]⟩, .int .i64 0, .int .i64 0, .int .i64 0, .int .i64 0, .int .i64 0] := H2.out.2.2.1.only o9 (by simp); have HO9 := Lib.hid (And.intro o9 s9); clear o9 s9) | (have _h := K9; refine wpList_loadq rfl 36 (.tmp 8) rfl (w.heap.size + 3) [.int .i64 q.id, .int .i64 q.vw.size, .int .i64 q.obj, .int .i64 q.seq, .slice q.S q.sn.length q.cs', .bool q.vw.on, .bool q.vw.good, .slice q.vw.M q.vw.row.length q.vw.cm, .string (strOf q.vw.par), .int .i64 q.vw.ps, .int .i64 q.vw.ov, .int .i64 q.ow, .int .i64 q.it, .int .i64 q.tg] _ rfl K9 Try.underlying36 rfl (by kernel_rfl) ?_; clear _h K9) | (have _h := kr9; refine wpList_storeq rfl 36 (.tmp 4) (.tmp 168) rfl (w.heap.size + 2) _ [.int .i64 q.id, .int .i64 q.vw.size, .int .i64 q.obj, .int .i64 q.seq, .slice q.S q.sn.length q.cs', .bool q.vw.on, .bool q.vw.good, .slice q.vw.M q.vw.row.length q.vw.cm, .string (strOf q.vw.par), .int .i64 q.vw.ps, .int .i64 q.vw.ov, .int .i64 q.ow, .int .i64 q.it, .int .i64 q.tg] rfl rfl kr9 (by simp) (by kernel_rfl) (one14 _ _ _ _ _ _ _ _ _ _ _ _ _ _ _ _ _ _) ?_; clear _h kr9; intro w10 K10 o10 s10))
    refine bodyPost_ret (results_three rfl _ _ (w.heap.size + 2) 36 _ (0, 0) _ _ _ rfl rfl rfl K10 Try.underlying36 rfl (by kernel_rfl)) rfl ?_
    have hb8 : Below w.heap.size w2 w9 := HO9.out.1.below (B := w.heap.size) (fun z hz => by simp at hz; omega) H2.out.1.size
    have hz9 : w.heap.size ≤ w9.heap.size := Nat.le_trans H2.out.1.size hb8.size
    have hb9 : Below w.heap.size w w10 := H2.out.1.trans (hb8.trans (o10.below (B := w.heap.size) (fun z hz => by simp at hz; omega) hz9))
    have n9 := HE.out.2.1.stay H2.out.2.2.2 HO9.out.1
    have n10 := (n9.stay (H2.out.2.2.1.only HO9.out.1 (by simp)) o10).weaken (base' := w.heap.size) (by have := HD.out.z; omega)
    exact ⟨hb9, .inr ⟨q, 0, rfl, HE.out.1, .inr (.inr (.inr (.inr (.inr (.inr (.inl ⟨HKD.out, HE.out.2.2⟩)))))), n10.R, fun _ => n10, fun h4 => (by rw [HKD.out] at h4; omega), by rw [HKD.out]; rfl⟩⟩
end Go.Proofs.Ytiimanoloedbeaa
