/-
  What a call of the law's program comes to (do), and which calls are too wide. Conditions: the head and the call read as they are said to, and are small.
-/
import Derived.Test.YtiimanoloedbeaaOj

namespace Go.Proofs.Ytiimanoloedbeaa
open Go.RowKit Go.BigFrame
set_option linter.unusedSimpArgs false
set_option linter.unusedVariables false
set_option maxRecDepth 100000
set_option maxHeartbeats 16000000 in
theorem do8_any (h : HA) (x : CA) (w : World) (hR : h.R SA.cells w) (hS : h.Sm) (hx : x.R w) (hxs : x.Sm) (hk : x.kind = 8) : Calls Try.prog 29 #[.agg h.cs, .agg x.cells.toArray] w (DoTo w h x) := by
  obtain ⟨W1, hW1⟩ : ∃ W, W = (((w.alloc (.cells #[.int .i64 h.id, .int .i64 h.vw.size, .int .i64 h.obj, .int .i64 h.seq, .slice h.S h.sn.length h.cs', .bool h.vw.on, .bool h.vw.good, .slice h.vw.M h.vw.row.length h.vw.cm, .string (strOf h.vw.par), .int .i64 h.vw.ps, .int .i64 h.vw.ov, .int .i64 h.ow, .int .i64 h.it, .int .i64 h.tg] 36)).alloc (.cells #[.int .i64 x.kind, .int .i64 x.n, .int .i64 x.m, .string (strOf x.name), .string (strOf x.child), .slice x.A x.row.length x.cm, .bool x.on, .bool x.good] 59)).alloc (.cells #[.int .i64 0, .int .i64 0, .int .i64 0, .int .i64 0, .slice none 0 0, .bool false, .bool false, .slice none 0 0, .string ⟨#[]⟩, .int .i64 0, .int .i64 0, .int .i64 0, .int .i64 0, .int .i64 0] 36)).alloc (.cells #[.int .i64 0, .int .i64 0, .int .i64 0, .int .i64 0, .slice none 0 0, .bool false, .bool false, .slice none 0 0, .string ⟨#[]⟩, .int .i64 0, .int .i64 0, .int .i64 0, .int .i64 0, .int .i64 0] 36) := ⟨_, rfl⟩
  have hd : Do0 w h x W1 := by rw [hW1]; exact do0 w h x
  have HD := Lib.hid hd
  have HR := Lib.hid (hR.since hd.b)
  have HS := Lib.hid hS
  have HX := Lib.hid (And.intro (hx.since hd.b) hxs)
  have HKD := Lib.hid hk
  have HW1 := Lib.hid hW1
  have hz := head_zero
  have K1 := hd.kh
  have q0 : W1.cell? ⟨w.heap.size + 1, 0, none⟩ = some (.int .i64 8) := by have h := hd.kx.cell 0; rw [h]; show some (Value.int .i64 x.kind) = _; rw [hk]
  have q3 : W1.cell? ⟨w.heap.size + 1, 3, none⟩ = some (.string (strOf x.name)) := hd.kx.cell 3
  have q4 : W1.cell? ⟨w.heap.size + 1, 4, none⟩ = some (.string (strOf x.child)) := hd.kx.cell 4
  clear hR hS hx hxs hd hW1 hk
  unfold HA.cs CA.cells at *
  go_enter Try.func29, Try.ntmps29
  go_upto_region 4 with (fail)
  rw [← HW1.out]
  clear HW1
  go_wp2_with (have _h := K1; refine wpList_loadq rfl 36 (.tmp 2) rfl (w.heap.size) [.int .i64 h.id, .int .i64 h.vw.size, .int .i64 h.obj, .int .i64 h.seq, .slice h.S h.sn.length h.cs', .bool h.vw.on, .bool h.vw.good, .slice h.vw.M h.vw.row.length h.vw.cm, .string (strOf h.vw.par), .int .i64 h.vw.ps, .int .i64 h.vw.ov, .int .i64 h.ow, .int .i64 h.it, .int .i64 h.tg] _ rfl K1 Try.underlying36 rfl (by kernel_rfl) ?_; clear _h K1)
  refine (addchild_any h W1 x.name x.child HX.out.1.name HX.out.1.child (by have := HX.out.2.child; omega) HR.out HS.out).mono ?_
  rintro e w2 ⟨b, h2⟩
  have H2 := Lib.hid (HD.out.at2 b)
  have HB2 := Lib.hid b
  have ko2 := H2.out.2.2.2
  have hz2 := H2.out.2.1
  clear b q3 q4
  rcases h2 with ⟨hB, rfl⟩ | ⟨hB, k, rfl, hk0, hp⟩ | ⟨hB, q, rfl, hqN, ho⟩
  · have HE := Lib.hid hB
    clear hB
    simp only [errV, Z14]
    go_wp2_with (first | (have _h := ko2; refine wpList_storeq rfl 36 (.tmp 8) (.tmp 85) rfl (w.heap.size + 3) _ [.int .i64 0, .int .i64 0, .int .i64 0, .int .i64 0, .slice none 0 0, .bool false, .bool false, .slice none 0 0, .string ⟨#[]⟩, .int .i64 0, .int .i64 0, .int .i64 0, .int .i64 0, .int .i64 0] rfl rfl ko2 (by simp) (by kernel_rfl) (one14 _ _ _ _ _ _ _ _ _ _ _ _ _ _ _ _ _ _) ?_; clear _h ko2; intro w9 K9 o9 s9; have kr9 : Blk w9 (w.heap.size + 2) 36 #[.int .i64 0, .int .i64 0, .int .i64 0, .int .i64 0, .slice none 0 0, .bool false, .bool false, .slice none 0 0, .string ⟨#[]⟩, .int .i64 0, .int .i64 0, .int .i64 0, .int .i64 0, .int .i64 0] := H2.out.2.2.1.only o9 (by simp); have HO9 := Lib.hid (And.intro o9 s9); clear o9 s9) | (have _h := K9; refine wpList_loadq rfl 36 (.tmp 8) rfl (w.heap.size + 3) [.int .i64 0, .int .i64 0, .int .i64 0, .int .i64 0, .slice none 0 0, .bool false, .bool false, .slice none 0 0, .string ⟨#[]⟩, .int .i64 0, .int .i64 0, .int .i64 0, .int .i64 0, .int .i64 0] _ rfl K9 Try.underlying36 rfl (by kernel_rfl) ?_; clear _h K9) | (have _h := kr9; refine wpList_storeq rfl 36 (.tmp 4) (.tmp 168) rfl (w.heap.size + 2) _ [.int .i64 0, .int .i64 0, .int .i64 0, .int .i64 0, .slice none 0 0, .bool false, .bool false, .slice none 0 0, .string ⟨#[]⟩, .int .i64 0, .int .i64 0, .int .i64 0, .int .i64 0, .int .i64 0] rfl rfl kr9 (by simp) (by kernel_rfl) (one14 _ _ _ _ _ _ _ _ _ _ _ _ _ _ _ _ _ _) ?_; clear _h kr9; intro w10 K10 o10 s10))
    refine bodyPost_ret (results_three rfl _ _ (w.heap.size + 2) 36 _ (0, 0) _ _ _ rfl rfl rfl K10 Try.underlying36 rfl (by kernel_rfl)) rfl ?_
    have hb8 : Below w.heap.size w2 w9 := HO9.out.1.below (B := w.heap.size) (fun z hz => by simp at hz; omega) H2.out.1.size
    have hz9 : w.heap.size ≤ w9.heap.size := Nat.le_trans H2.out.1.size hb8.size
    have hb9 : Below w.heap.size w w10 := H2.out.1.trans (hb8.trans (o10.below (B := w.heap.size) (fun z hz => by simp at hz; omega) hz9))
    exact ⟨hb9, .inl ⟨1, rfl, .inl ⟨HE.out, rfl⟩⟩⟩
  · obtain ⟨k, rfl⟩ : ∃ k', k = k' + 1 := ⟨k - 1, by omega⟩
    have HE := Lib.hid (And.intro hB hp)
    clear hB hp hk0
    simp only [errV, Z14]
    go_wp2_with (first | (have _h := ko2; refine wpList_storeq rfl 36 (.tmp 8) (.tmp 85) rfl (w.heap.size + 3) _ [.int .i64 0, .int .i64 0, .int .i64 0, .int .i64 0, .slice none 0 0, .bool false, .bool false, .slice none 0 0, .string ⟨#[]⟩, .int .i64 0, .int .i64 0, .int .i64 0, .int .i64 0, .int .i64 0] rfl rfl ko2 (by simp) (by kernel_rfl) (one14 _ _ _ _ _ _ _ _ _ _ _ _ _ _ _ _ _ _) ?_; clear _h ko2; intro w9 K9 o9 s9; have kr9 : Blk w9 (w.heap.size + 2) 36 #[.int .i64 0, .int .i64 0, .int .i64 0, .int .i64 0, .slice none 0 0, .bool false, .bool false, .slice none 0 0, .string ⟨#[]⟩, .int .i64 0, .int .i64 0, .int .i64 0, .int .i64 0, .int .i64 0] := H2.out.2.2.1.only o9 (by simp); have HO9 := Lib.hid (And.intro o9 s9); clear o9 s9) | (have _h := K9; refine wpList_loadq rfl 36 (.tmp 8) rfl (w.heap.size + 3) [.int .i64 0, .int .i64 0, .int .i64 0, .int .i64 0, .slice none 0 0, .bool false, .bool false, .slice none 0 0, .string ⟨#[]⟩, .int .i64 0, .int .i64 0, .int .i64 0, .int .i64 0, .int .i64 0] _ rfl K9 Try.underlying36 rfl (by kernel_rfl) ?_; clear _h K9) | (have _h := kr9; refine wpList_storeq rfl 36 (.tmp 4) (.tmp 168) rfl (w.heap.size + 2) _ [.int .i64 0, .int .i64 0, .int .i64 0, .int .i64 0, .slice none 0 0, .bool false, .bool false, .slice none 0 0, .string ⟨#[]⟩, .int .i64 0, .int .i64 0, .int .i64 0, .int .i64 0, .int .i64 0] rfl rfl kr9 (by simp) (by kernel_rfl) (one14 _ _ _ _ _ _ _ _ _ _ _ _ _ _ _ _ _ _) ?_; clear _h kr9; intro w10 K10 o10 s10))
    refine bodyPost_ret (results_three rfl _ _ (w.heap.size + 2) 36 _ (0, 0) _ _ _ rfl rfl rfl K10 Try.underlying36 rfl (by kernel_rfl)) rfl ?_
    have hb8 : Below w.heap.size w2 w9 := HO9.out.1.below (B := w.heap.size) (fun z hz => by simp at hz; omega) H2.out.1.size
    have hz9 : w.heap.size ≤ w9.heap.size := Nat.le_trans H2.out.1.size hb8.size
    have hb9 : Below w.heap.size w w10 := H2.out.1.trans (hb8.trans (o10.below (B := w.heap.size) (fun z hz => by simp at hz; omega) hz9))
    exact ⟨hb9, .inl ⟨k, rfl, .inr ⟨HE.out.1, .inr (.inr (.inr (.inr (.inr (.inr (.inr (.inl ⟨HKD.out, HE.out.2⟩)))))))⟩⟩⟩
  · have HE := Lib.hid (And.intro hB (And.intro hqN ho))
    clear hB hqN ho
    try unfold HA.cs at *
    go_wp2_with (first | (have _h := ko2; refine wpList_storeq rfl 36 (.tmp 8) (.tmp 85) rfl (w.heap.size + 3) _ [.int .i64 q.id, .int .i64 q.vw.size, .int .i64 q.obj, .int .i64 q.seq, .slice q.S q.sn.length q.cs', .bool q.vw.on, .bool q.vw.good, .slice q.vw.M q.vw.row.length q.vw.cm, .string (strOf q.vw.par), .int .i64 q.vw.ps, .int .i64 q.vw.ov, .int .i64 q.ow, .int .i64 q.it, .int .i64 q.tg] rfl rfl ko2 (by simp) (by kernel_rfl) (one14 _ _ _ _ _ _ _ _ _ _ _ _ _ _ _ _ _ _) ?_; clear _h ko2; intro w9 K9 o9 s9; have kr9 : Blk w9 (w.heap.size + 2) 36 #[.int .i64 0, .int .i64 0, .int .i64 0, .int .i64 0, .slice none 0 0, .bool false, .bool false, .slice none 0 0, .string ⟨#[]⟩, .int .i64 0, .int .i64 0, .int .i64 0, .int .i64 0, .int .i64 0] := H2.out.2.2.1.only o9 (by simp); have HO9 := Lib.hid (And.intro o9 s9); clear o9 s9) | (have _h := K9; refine wpList_loadq rfl 36 (.tmp 8) rfl (w.heap.size + 3) [.int .i64 q.id, .int .i64 q.vw.size, .int .i64 q.obj, .int .i64 q.seq, .slice q.S q.sn.length q.cs', .bool q.vw.on, .bool q.vw.good, .slice q.vw.M q.vw.row.length q.vw.cm, .string (strOf q.vw.par), .int .i64 q.vw.ps, .int .i64 q.vw.ov, .int .i64 q.ow, .int .i64 q.it, .int .i64 q.tg] _ rfl K9 Try.underlying36 rfl (by kernel_rfl) ?_; clear _h K9) | (have _h := kr9; refine wpList_storeq rfl 36 (.tmp 4) (.tmp 168) rfl (w.heap.size + 2) _ [.int .i64 q.id, .int .i64 q.vw.size, .int .i64 q.obj, .int .i64 q.seq, .slice q.S q.sn.length q.cs', .bool q.vw.on, .bool q.vw.good, .slice q.vw.M q.vw.row.length q.vw.cm, .string (strOf q.vw.par), .int .i64 q.vw.ps, .int .i64 q.vw.ov, .int .i64 q.ow, .int .i64 q.it, .int .i64 q.tg] rfl rfl kr9 (by simp) (by kernel_rfl) (one14 _ _ _ _ _ _ _ _ _ _ _ _ _ _ _ _ _ _) ?_; clear _h kr9; intro w10 K10 o10 s10))
    refine bodyPost_ret (results_three rfl _ _ (w.heap.size + 2) 36 _ (0, 0) _ _ _ rfl rfl rfl K10 Try.underlying36 rfl (by kernel_rfl)) rfl ?_
    have hb8 : Below w.heap.size w2 w9 := HO9.out.1.below (B := w.heap.size) (fun z hz => by simp at hz; omega) H2.out.1.size
    have hz9 : w.heap.size ≤ w9.heap.size := Nat.le_trans H2.out.1.size hb8.size
    have hb9 : Below w.heap.size w w10 := H2.out.1.trans (hb8.trans (o10.below (B := w.heap.size) (fun z hz => by simp at hz; omega) hz9))
    have n9 := HE.out.2.1.stay H2.out.2.2.2 HO9.out.1
    have n10 := (n9.stay (H2.out.2.2.1.only HO9.out.1 (by simp)) o10).weaken (base' := w.heap.size) (by have := HD.out.z; omega)
    exact ⟨hb9, .inr ⟨q, 0, rfl, HE.out.1, .inr (.inr (.inr (.inr (.inr (.inr (.inr (.inl ⟨HKD.out, HE.out.2.2⟩))))))), n10.R, fun _ => n10, fun h4 => (by rw [HKD.out] at h4; omega), by rw [HKD.out]; rfl⟩⟩
set_option maxHeartbeats 16000000 in
theorem do9_any (h : HA) (x : CA) (w : World) (hR : h.R SA.cells w) (hS : h.Sm) (hx : x.R w) (hxs : x.Sm) (hk : x.kind = 9) : Calls Try.prog 29 #[.agg h.cs, .agg x.cells.toArray] w (DoTo w h x) := by
  obtain ⟨W1, hW1⟩ : ∃ W, W = (((w.alloc (.cells #[.int .i64 h.id, .int .i64 h.vw.size, .int .i64 h.obj, .int .i64 h.seq, .slice h.S h.sn.length h.cs', .bool h.vw.on, .bool h.vw.good, .slice h.vw.M h.vw.row.length h.vw.cm, .string (strOf h.vw.par), .int .i64 h.vw.ps, .int .i64 h.vw.ov, .int .i64 h.ow, .int .i64 h.it, .int .i64 h.tg] 36)).alloc (.cells #[.int .i64 x.kind, .int .i64 x.n, .int .i64 x.m, .string (strOf x.name), .string (strOf x.child), .slice x.A x.row.length x.cm, .bool x.on, .bool x.good] 59)).alloc (.cells #[.int .i64 0, .int .i64 0, .int .i64 0, .int .i64 0, .slice none 0 0, .bool false, .bool false, .slice none 0 0, .string ⟨#[]⟩, .int .i64 0, .int .i64 0, .int .i64 0, .int .i64 0, .int .i64 0] 36)).alloc (.cells #[.int .i64 0, .int .i64 0, .int .i64 0, .int .i64 0, .slice none 0 0, .bool false, .bool false, .slice none 0 0, .string ⟨#[]⟩, .int .i64 0, .int .i64 0, .int .i64 0, .int .i64 0, .int .i64 0] 36) := ⟨_, rfl⟩
  have hd : Do0 w h x W1 := by rw [hW1]; exact do0 w h x
  have HD := Lib.hid hd
  have HR := Lib.hid (hR.since hd.b)
  have HS := Lib.hid hS
  have HX := Lib.hid (And.intro (hx.since hd.b) hxs)
  have HKD := Lib.hid hk
  have HW1 := Lib.hid hW1
  have hz := head_zero
  have K1 := hd.kh
  have q0 : W1.cell? ⟨w.heap.size + 1, 0, none⟩ = some (.int .i64 9) := by have h := hd.kx.cell 0; rw [h]; show some (Value.int .i64 x.kind) = _; rw [hk]
  have q1 : W1.cell? ⟨w.heap.size + 1, 1, none⟩ = some (.int .i64 x.n) := hd.kx.cell 1
  have q4 : W1.cell? ⟨w.heap.size + 1, 4, none⟩ = some (.string (strOf x.child)) := hd.kx.cell 4
  clear hR hS hx hxs hd hW1 hk
  unfold HA.cs CA.cells at *
  go_enter Try.func29, Try.ntmps29
  go_upto_region 4 with (fail)
  rw [← HW1.out]
  clear HW1
  go_wp2_with (have _h := K1; refine wpList_loadq rfl 36 (.tmp 2) rfl (w.heap.size) [.int .i64 h.id, .int .i64 h.vw.size, .int .i64 h.obj, .int .i64 h.seq, .slice h.S h.sn.length h.cs', .bool h.vw.on, .bool h.vw.good, .slice h.vw.M h.vw.row.length h.vw.cm, .string (strOf h.vw.par), .int .i64 h.vw.ps, .int .i64 h.vw.ov, .int .i64 h.ow, .int .i64 h.it, .int .i64 h.tg] _ rfl K1 Try.underlying36 rfl (by kernel_rfl) ?_; clear _h K1)
  refine (dropchild_any h W1 x.n HX.out.1.n x.child HX.out.1.child HR.out HS.out).mono ?_
  rintro e w2 ⟨b, h2⟩
  have H2 := Lib.hid (HD.out.at2 b)
  have HB2 := Lib.hid b
  have ko2 := H2.out.2.2.2
  have hz2 := H2.out.2.1
  clear b q1 q4
  rcases h2 with ⟨hB, rfl⟩ | ⟨hB, k, rfl, hk0, hp⟩ | ⟨hB, q, rfl, hqN, ho⟩
  · have HE := Lib.hid hB
    clear hB
    simp only [errV, Z14]
    go_wp2_with (first | (have _h := ko2; refine wpList_storeq rfl 36 (.tmp 8) (.tmp 96) rfl (w.heap.size + 3) _ [.int .i64 0, .int .i64 0, .int .i64 0, .int .i64 0, .slice none 0 0, .bool false, .bool false, .slice none 0 0, .string ⟨#[]⟩, .int .i64 0, .int .i64 0, .int .i64 0, .int .i64 0, .int .i64 0] rfl rfl ko2 (by simp) (by kernel_rfl) (one14 _ _ _ _ _ _ _ _ _ _ _ _ _ _ _ _ _ _) ?_; clear _h ko2; intro w9 K9 o9 s9; have kr9 : Blk w9 (w.heap.size + 2) 36 #[.int .i64 0, .int .i64 0, .int .i64 0, .int .i64 0, .slice none 0 0, .bool false, .bool false, .slice none 0 0, .string ⟨#[]⟩, .int .i64 0, .int .i64 0, .int .i64 0, .int .i64 0, .int .i64 0] := H2.out.2.2.1.only o9 (by simp); have HO9 := Lib.hid (And.intro o9 s9); clear o9 s9) | (have _h := K9; refine wpList_loadq rfl 36 (.tmp 8) rfl (w.heap.size + 3) [.int .i64 0, .int .i64 0, .int .i64 0, .int .i64 0, .slice none 0 0, .bool false, .bool false, .slice none 0 0, .string ⟨#[]⟩, .int .i64 0, .int .i64 0, .int .i64 0, .int .i64 0, .int .i64 0] _ rfl K9 Try.underlying36 rfl (by kernel_rfl) ?_; clear _h K9) | (have _h := kr9; refine wpList_storeq rfl 36 (.tmp 4) (.tmp 168) rfl (w.heap.size + 2) _ [.int .i64 0, .int .i64 0, .int .i64 0, .int .i64 0, .slice none 0 0, .bool false, .bool false, .slice none 0 0, .string ⟨#[]⟩, .int .i64 0, .int .i64 0, .int .i64 0, .int .i64 0, .int .i64 0] rfl rfl kr9 (by simp) (by kernel_rfl) (one14 _ _ _ _ _ _ _ _ _ _ _ _ _ _ _ _ _ _) ?_; clear _h kr9; intro w10 K10 o10 s10))
    refine bodyPost_ret (results_three rfl _ _ (w.heap.size + 2) 36 _ (0, 0) _ _ _ rfl rfl rfl K10 Try.underlying36 rfl (by kernel_rfl)) rfl ?_
    have hb8 : Below w.heap.size w2 w9 := HO9.out.1.below (B := w.heap.size) (fun z hz => by simp at hz; omega) H2.out.1.size
    have hz9 : w.heap.size ≤ w9.heap.size := Nat.le_trans H2.out.1.size hb8.size
    have hb9 : Below w.heap.size w w10 := H2.out.1.trans (hb8.trans (o10.below (B := w.heap.size) (fun z hz => by simp at hz; omega) hz9))
    exact ⟨hb9, .inl ⟨1, rfl, .inl ⟨HE.out, rfl⟩⟩⟩
  · obtain ⟨k, rfl⟩ : ∃ k', k = k' + 1 := ⟨k - 1, by omega⟩
    have HE := Lib.hid (And.intro hB hp)
    clear hB hp hk0
    simp only [errV, Z14]
    go_wp2_with (first | (have _h := ko2; refine wpList_storeq rfl 36 (.tmp 8) (.tmp 96) rfl (w.heap.size + 3) _ [.int .i64 0, .int .i64 0, .int .i64 0, .int .i64 0, .slice none 0 0, .bool false, .bool false, .slice none 0 0, .string ⟨#[]⟩, .int .i64 0, .int .i64 0, .int .i64 0, .int .i64 0, .int .i64 0] rfl rfl ko2 (by simp) (by kernel_rfl) (one14 _ _ _ _ _ _ _ _ _ _ _ _ _ _ _ _ _ _) ?_; clear _h ko2; intro w9 K9 o9 s9; have kr9 : Blk w9 (w.heap.size + 2) 36 #[.int .i64 0, .int .i64 0, .int .i64 0, .int .i64 0, .slice none 0 0, .bool false, .bool false, .slice none 0 0, .string ⟨#[]⟩, .int .i64 0, .int .i64 0, .int .i64 0, .int .i64 0, .int .i64 0] := H2.out.2.2.1.only o9 (by simp); have HO9 := Lib.hid (And.intro o9 s9); clear o9 s9) | (have _h := K9; refine wpList_loadq rfl 36 (.tmp 8) rfl (w.heap.size + 3) [.int .i64 0, .int .i64 0, .int .i64 0, .int .i64 0, .slice none 0 0, .bool false, .bool false, .slice none 0 0, .string ⟨#[]⟩, .int .i64 0, .int .i64 0, .int .i64 0, .int .i64 0, .int .i64 0] _ rfl K9 Try.underlying36 rfl (by kernel_rfl) ?_; clear _h K9) | (have _h := kr9; refine wpList_storeq rfl 36 (.tmp 4) (.tmp 168) rfl (w.heap.size + 2) _ [.int .i64 0, .int .i64 0, .int .i64 0, .int .i64 0, .slice none 0 0, .bool false, .bool false, .slice none 0 0, .string ⟨#[]⟩, .int .i64 0, .int .i64 0, .int .i64 0, .int .i64 0, .int .i64 0] rfl rfl kr9 (by simp) (by kernel_rfl) (one14 _ _ _ _ _ _ _ _ _ _ _ _ _ _ _ _ _ _) ?_; clear _h kr9; intro w10 K10 o10 s10))
    refine bodyPost_ret (results_three rfl _ _ (w.heap.size + 2) 36 _ (0, 0) _ _ _ rfl rfl rfl K10 Try.underlying36 rfl (by kernel_rfl)) rfl ?_
    have hb8 : Below w.heap.size w2 w9 := HO9.out.1.below (B := w.heap.size) (fun z hz => by simp at hz; omega) H2.out.1.size
    have hz9 : w.heap.size ≤ w9.heap.size := Nat.le_trans H2.out.1.size hb8.size
    have hb9 : Below w.heap.size w w10 := H2.out.1.trans (hb8.trans (o10.below (B := w.heap.size) (fun z hz => by simp at hz; omega) hz9))
    exact ⟨hb9, .inl ⟨k, rfl, .inr ⟨HE.out.1, .inr (.inr (.inr (.inr (.inr (.inr (.inr (.inr (.inl ⟨HKD.out, HE.out.2⟩))))))))⟩⟩⟩
  · have HE := Lib.hid (And.intro hB (And.intro hqN ho))
    clear hB hqN ho
    try unfold HA.cs at *
    go_wp2_with (first | (have _h := ko2; refine wpList_storeq rfl 36 (.tmp 8) (.tmp 96) rfl (w.heap.size + 3) _ [.int .i64 q.id, .int .i64 q.vw.size, .int .i64 q.obj, .int .i64 q.seq, .slice q.S q.sn.length q.cs', .bool q.vw.on, .bool q.vw.good, .slice q.vw.M q.vw.row.length q.vw.cm, .string (strOf q.vw.par), .int .i64 q.vw.ps, .int .i64 q.vw.ov, .int .i64 q.ow, .int .i64 q.it, .int .i64 q.tg] rfl rfl ko2 (by simp) (by kernel_rfl) (one14 _ _ _ _ _ _ _ _ _ _ _ _ _ _ _ _ _ _) ?_; clear _h ko2; intro w9 K9 o9 s9; have kr9 : Blk w9 (w.heap.size + 2) 36 #[.int .i64 0, .int .i64 0, .int .i64 0, .int .i64 0, .slice none 0 0, .bool false, .bool false, .slice none 0 0, .string ⟨#[]⟩, .int .i64 0, .int .i64 0, .int .i64 0, .int .i64 0, .int .i64 0] := H2.out.2.2.1.only o9 (by simp); have HO9 := Lib.hid (And.intro o9 s9); clear o9 s9) | (have _h := K9; refine wpList_loadq rfl 36 (.tmp 8) rfl (w.heap.size + 3) [.int .i64 q.id, .int .i64 q.vw.size, .int .i64 q.obj, .int .i64 q.seq, .slice q.S q.sn.length q.cs', .bool q.vw.on, .bool q.vw.good, .slice q.vw.M q.vw.row.length q.vw.cm, .string (strOf q.vw.par), .int .i64 q.vw.ps, .int .i64 q.vw.ov, .int .i64 q.ow, .int .i64 q.it, .int .i64 q.tg] _ rfl K9 Try.underlying36 rfl (by kernel_rfl) ?_; clear _h K9) | (have _h := kr9; refine wpList_storeq rfl 36 (.tmp 4) (.tmp 168) rfl (w.heap.size + 2) _ [.int .i64 q.id, .int .i64 q.vw.size, .int .i64 q.obj, .int .i64 q.seq, .slice q.S q.sn.length q.cs', .bool q.vw.on, .bool q.vw.good, .slice q.vw.M q.vw.row.length q.vw.cm, .string (strOf q.vw.par), .int .i64 q.vw.ps, .int .i64 q.vw.ov, .int .i64 q.ow, .int .i64 q.it, .int .i64 q.tg] rfl rfl kr9 (by simp) (by kernel_rfl) (one14 _ _ _ _ _ _ _ _ _ _ _ _ _ _ _ _ _ _) ?_; clear _h kr9; intro w10 K10 o10 s10))
    refine bodyPost_ret (results_three rfl _ _ (w.heap.size + 2) 36 _ (0, 0) _ _ _ rfl rfl rfl K10 Try.underlying36 rfl (by kernel_rfl)) rfl ?_
    have hb8 : Below w.heap.size w2 w9 := HO9.out.1.below (B := w.heap.size) (fun z hz => by simp at hz; omega) H2.out.1.size
    have hz9 : w.heap.size ≤ w9.heap.size := Nat.le_trans H2.out.1.size hb8.size
    have hb9 : Below w.heap.size w w10 := H2.out.1.trans (hb8.trans (o10.below (B := w.heap.size) (fun z hz => by simp at hz; omega) hz9))
    have n9 := HE.out.2.1.stay H2.out.2.2.2 HO9.out.1
    have n10 := (n9.stay (H2.out.2.2.1.only HO9.out.1 (by simp)) o10).weaken (base' := w.heap.size) (by have := HD.out.z; omega)
    exact ⟨hb9, .inr ⟨q, 0, rfl, HE.out.1, .inr (.inr (.inr (.inr (.inr (.inr (.inr (.inr (.inl ⟨HKD.out, HE.out.2.2⟩)))))))), n10.R, fun _ => n10, fun h4 => (by rw [HKD.out] at h4; omega), by rw [HKD.out]; rfl⟩⟩
set_option maxHeartbeats 16000000 in
theorem do10_any (h : HA) (x : CA) (w : World) (hR : h.R SA.cells w) (hS : h.Sm) (hx : x.R w) (hxs : x.Sm) (hk : x.kind = 10) : Calls Try.prog 29 #[.agg h.cs, .agg x.cells.toArray] w (DoTo w h x) := by
  obtain ⟨W1, hW1⟩ : ∃ W, W = (((w.alloc (.cells #[.int .i64 h.id, .int .i64 h.vw.size, .int .i64 h.obj, .int .i64 h.seq, .slice h.S h.sn.length h.cs', .bool h.vw.on, .bool h.vw.good, .slice h.vw.M h.vw.row.length h.vw.cm, .string (strOf h.vw.par), .int .i64 h.vw.ps, .int .i64 h.vw.ov, .int .i64 h.ow, .int .i64 h.it, .int .i64 h.tg] 36)).alloc (.cells #[.int .i64 x.kind, .int .i64 x.n, .int .i64 x.m, .string (strOf x.name), .string (strOf x.child), .slice x.A x.row.length x.cm, .bool x.on, .bool x.good] 59)).alloc (.cells #[.int .i64 0, .int .i64 0, .int .i64 0, .int .i64 0, .slice none 0 0, .bool false, .bool false, .slice none 0 0, .string ⟨#[]⟩, .int .i64 0, .int .i64 0, .int .i64 0, .int .i64 0, .int .i64 0] 36)).alloc (.cells #[.int .i64 0, .int .i64 0, .int .i64 0, .int .i64 0, .slice none 0 0, .bool false, .bool false, .slice none 0 0, .string ⟨#[]⟩, .int .i64 0, .int .i64 0, .int .i64 0, .int .i64 0, .int .i64 0] 36) := ⟨_, rfl⟩
  have hd : Do0 w h x W1 := by rw [hW1]; exact do0 w h x
  have HD := Lib.hid hd
  have HR := Lib.hid (hR.since hd.b)
  have HS := Lib.hid hS
  have HX := Lib.hid (And.intro (hx.since hd.b) hxs)
  have HKD := Lib.hid hk
  have HW1 := Lib.hid hW1
  have hz := head_zero
  have K1 := hd.kh
  have q0 : W1.cell? ⟨w.heap.size + 1, 0, none⟩ = some (.int .i64 10) := by have h := hd.kx.cell 0; rw [h]; show some (Value.int .i64 x.kind) = _; rw [hk]
  have q1 : W1.cell? ⟨w.heap.size + 1, 1, none⟩ = some (.int .i64 x.n) := hd.kx.cell 1
  clear hR hS hx hxs hd hW1 hk
  unfold HA.cs CA.cells at *
  go_enter Try.func29, Try.ntmps29
  go_upto_region 4 with (fail)
  rw [← HW1.out]
  clear HW1
  go_wp2_with (have _h := K1; refine wpList_loadq rfl 36 (.tmp 2) rfl (w.heap.size) [.int .i64 h.id, .int .i64 h.vw.size, .int .i64 h.obj, .int .i64 h.seq, .slice h.S h.sn.length h.cs', .bool h.vw.on, .bool h.vw.good, .slice h.vw.M h.vw.row.length h.vw.cm, .string (strOf h.vw.par), .int .i64 h.vw.ps, .int .i64 h.vw.ov, .int .i64 h.ow, .int .i64 h.it, .int .i64 h.tg] _ rfl K1 Try.underlying36 rfl (by kernel_rfl) ?_; clear _h K1)
  refine (grow_any h W1 x.n HR.out HS.out).mono ?_
  rintro e w2 ⟨b, h2⟩
  have H2 := Lib.hid (HD.out.at2 b)
  have HB2 := Lib.hid b
  have ko2 := H2.out.2.2.2
  have hz2 := H2.out.2.1
  clear b q1
  rcases h2 with ⟨hB, rfl⟩ | ⟨hB, k, rfl, hk0, hp⟩ | ⟨hB, q, rfl, hqN, ho⟩
  · have HE := Lib.hid hB
    clear hB
    simp only [errV, Z14]
    go_wp2_with (first | (have _h := ko2; refine wpList_storeq rfl 36 (.tmp 8) (.tmp 105) rfl (w.heap.size + 3) _ [.int .i64 0, .int .i64 0, .int .i64 0, .int .i64 0, .slice none 0 0, .bool false, .bool false, .slice none 0 0, .string ⟨#[]⟩, .int .i64 0, .int .i64 0, .int .i64 0, .int .i64 0, .int .i64 0] rfl rfl ko2 (by simp) (by kernel_rfl) (one14 _ _ _ _ _ _ _ _ _ _ _ _ _ _ _ _ _ _) ?_; clear _h ko2; intro w9 K9 o9 s9; have kr9 : Blk w9 (w.heap.size + 2) 36 #[.int .i64 0, .int .i64 0, .int .i64 0, .int .i64 0, .slice none 0 0, .bool false, .bool false, .slice none 0 0, .string ⟨#[]⟩, .int .i64 0, .int .i64 0, .int .i64 0, .int .i64 0, .int .i64 0] := H2.out.2.2.1.only o9 (by simp); have HO9 := Lib.hid (And.intro o9 s9); clear o9 s9) | (have _h := K9; refine wpList_loadq rfl 36 (.tmp 8) rfl (w.heap.size + 3) [.int .i64 0, .int .i64 0, .int .i64 0, .int .i64 0, .slice none 0 0, .bool false, .bool false, .slice none 0 0, .string ⟨#[]⟩, .int .i64 0, .int .i64 0, .int .i64 0, .int .i64 0, .int .i64 0] _ rfl K9 Try.underlying36 rfl (by kernel_rfl) ?_; clear _h K9) | (have _h := kr9; refine wpList_storeq rfl 36 (.tmp 4) (.tmp 168) rfl (w.heap.size + 2) _ [.int .i64 0, .int .i64 0, .int .i64 0, .int .i64 0, .slice none 0 0, .bool false, .bool false, .slice none 0 0, .string ⟨#[]⟩, .int .i64 0, .int .i64 0, .int .i64 0, .int .i64 0, .int .i64 0] rfl rfl kr9 (by simp) (by kernel_rfl) (one14 _ _ _ _ _ _ _ _ _ _ _ _ _ _ _ _ _ _) ?_; clear _h kr9; intro w10 K10 o10 s10))
    refine bodyPost_ret (results_three rfl _ _ (w.heap.size + 2) 36 _ (0, 0) _ _ _ rfl rfl rfl K10 Try.underlying36 rfl (by kernel_rfl)) rfl ?_
    have hb8 : Below w.heap.size w2 w9 := HO9.out.1.below (B := w.heap.size) (fun z hz => by simp at hz; omega) H2.out.1.size
    have hz9 : w.heap.size ≤ w9.heap.size := Nat.le_trans H2.out.1.size hb8.size
    have hb9 : Below w.heap.size w w10 := H2.out.1.trans (hb8.trans (o10.below (B := w.heap.size) (fun z hz => by simp at hz; omega) hz9))
    exact ⟨hb9, .inl ⟨1, rfl, .inl ⟨HE.out, rfl⟩⟩⟩
  · obtain ⟨k, rfl⟩ : ∃ k', k = k' + 1 := ⟨k - 1, by omega⟩
    have HE := Lib.hid (And.intro hB hp)
    clear hB hp hk0
    simp only [errV, Z14]
    go_wp2_with (first | (have _h := ko2; refine wpList_storeq rfl 36 (.tmp 8) (.tmp 105) rfl (w.heap.size + 3) _ [.int .i64 0, .int .i64 0, .int .i64 0, .int .i64 0, .slice none 0 0, .bool false, .bool false, .slice none 0 0, .string ⟨#[]⟩, .int .i64 0, .int .i64 0, .int .i64 0, .int .i64 0, .int .i64 0] rfl rfl ko2 (by simp) (by kernel_rfl) (one14 _ _ _ _ _ _ _ _ _ _ _ _ _ _ _ _ _ _) ?_; clear _h ko2; intro w9 K9 o9 s9; have kr9 : Blk w9 (w.heap.size + 2) 36 #[.int .i64 0, .int .i64 0, .int .i64 0, .int .i64 0, .slice none 0 0, .bool false, .bool false, .slice none 0 0, .string ⟨#[]⟩, .int .i64 0, .int .i64 0, .int .i64 0, .int .i64 0, .int .i64 0] := H2.out.2.2.1.only o9 (by simp); have HO9 := Lib.hid (And.intro o9 s9); clear o9 s9) | (have _h := K9; refine wpList_loadq rfl 36 (.tmp 8) rfl (w.heap.size + 3) [.int .i64 0, .int .i64 0, .int .i64 0, .int .i64 0, .slice none 0 0, .bool false, .bool false, .slice none 0 0, .string ⟨#[]⟩, .int .i64 0, .int .i64 0, .int .i64 0, .int .i64 0, .int .i64 0] _ rfl K9 Try.underlying36 rfl (by kernel_rfl) ?_; clear _h K9) | (have _h := kr9; refine wpList_storeq rfl 36 (.tmp 4) (.tmp 168) rfl (w.heap.size + 2) _ [.int .i64 0, .int .i64 0, .int .i64 0, .int .i64 0, .slice none 0 0, .bool false, .bool false, .slice none 0 0, .string ⟨#[]⟩, .int .i64 0, .int .i64 0, .int .i64 0, .int .i64 0, .int .i64 0] rfl rfl kr9 (by simp) (by kernel_rfl) (one14 _ _ _ _ _ _ _ _ _ _ _ _ _ _ _ _ _ _) ?_; clear _h kr9; intro w10 K10 o10 s10))
    refine bodyPost_ret (results_three rfl _ _ (w.heap.size + 2) 36 _ (0, 0) _ _ _ rfl rfl rfl K10 Try.underlying36 rfl (by kernel_rfl)) rfl ?_
    have hb8 : Below w.heap.size w2 w9 := HO9.out.1.below (B := w.heap.size) (fun z hz => by simp at hz; omega) H2.out.1.size
    have hz9 : w.heap.size ≤ w9.heap.size := Nat.le_trans H2.out.1.size hb8.size
    have hb9 : Below w.heap.size w w10 := H2.out.1.trans (hb8.trans (o10.below (B := w.heap.size) (fun z hz => by simp at hz; omega) hz9))
    exact ⟨hb9, .inl ⟨k, rfl, .inr ⟨HE.out.1, .inr (.inr (.inr (.inr (.inr (.inr (.inr (.inr (.inr (.inl ⟨HKD.out, HE.out.2⟩)))))))))⟩⟩⟩
  · have HE := Lib.hid (And.intro hB (And.intro hqN ho))
    clear hB hqN ho
    try unfold HA.cs at *
    go_wp2_with (first | (have _h := ko2; refine wpList_storeq rfl 36 (.tmp 8) (.tmp 105) rfl (w.heap.size + 3) _ [.int .i64 q.id, .int .i64 q.vw.size, .int .i64 q.obj, .int .i64 q.seq, .slice q.S q.sn.length q.cs', .bool q.vw.on, .bool q.vw.good, .slice q.vw.M q.vw.row.length q.vw.cm, .string (strOf q.vw.par), .int .i64 q.vw.ps, .int .i64 q.vw.ov, .int .i64 q.ow, .int .i64 q.it, .int .i64 q.tg] rfl rfl ko2 (by simp) (by kernel_rfl) (one14 _ _ _ _ _ _ _ _ _ _ _ _ _ _ _ _ _ _) ?_; clear _h ko2; intro w9 K9 o9 s9; have kr9 : Blk w9 (w.heap.size + 2) 36 #[.int .i64 0, .int .i64 0, .int .i64 0, .int .i64 0, .slice none 0 0, .bool false, .bool false, .slice none 0 0, .string ⟨#[]⟩, .int .i64 0, .int .i64 0, .int .i64 0, .int .i64 0, .int .i64 0] := H2.out.2.2.1.only o9 (by simp); have HO9 := Lib.hid (And.intro o9 s9); clear o9 s9) | (have _h := K9; refine wpList_loadq rfl 36 (.tmp 8) rfl (w.heap.size + 3) [.int .i64 q.id, .int .i64 q.vw.size, .int .i64 q.obj, .int .i64 q.seq, .slice q.S q.sn.length q.cs', .bool q.vw.on, .bool q.vw.good, .slice q.vw.M q.vw.row.length q.vw.cm, .string (strOf q.vw.par), .int .i64 q.vw.ps, .int .i64 q.vw.ov, .int .i64 q.ow, .int .i64 q.it, .int .i64 q.tg] _ rfl K9 Try.underlying36 rfl (by kernel_rfl) ?_; clear _h K9) | (have _h := kr9; refine wpList_storeq rfl 36 (.tmp 4) (.tmp 168) rfl (w.heap.size + 2) _ [.int .i64 q.id, .int .i64 q.vw.size, .int .i64 q.obj, .int .i64 q.seq, .slice q.S q.sn.length q.cs', .bool q.vw.on, .bool q.vw.good, .slice q.vw.M q.vw.row.length q.vw.cm, .string (strOf q.vw.par), .int .i64 q.vw.ps, .int .i64 q.vw.ov, .int .i64 q.ow, .int .i64 q.it, .int .i64 q.tg] rfl rfl kr9 (by simp) (by kernel_rfl) (one14 _ _ _ _ _ _ _ _ _ _ _ _ _ _ _ _ _ _) ?_; clear _h kr9; intro w10 K10 o10 s10))
    refine bodyPost_ret (results_three rfl _ _ (w.heap.size + 2) 36 _ (0, 0) _ _ _ rfl rfl rfl K10 Try.underlying36 rfl (by kernel_rfl)) rfl ?_
    have hb8 : Below w.heap.size w2 w9 := HO9.out.1.below (B := w.heap.size) (fun z hz => by simp at hz; omega) H2.out.1.size
    have hz9 : w.heap.size ≤ w9.heap.size := Nat.le_trans H2.out.1.size hb8.size
    have hb9 : Below w.heap.size w w10 := H2.out.1.trans (hb8.trans (o10.below (B := w.heap.size) (fun z hz => by simp at hz; omega) hz9))
    have n9 := HE.out.2.1.stay H2.out.2.2.2 HO9.out.1
    have n10 := (n9.stay (H2.out.2.2.1.only HO9.out.1 (by simp)) o10).weaken (base' := w.heap.size) (by have := HD.out.z; omega)
    exact ⟨hb9, .inr ⟨q, 0, rfl, HE.out.1, .inr (.inr (.inr (.inr (.inr (.inr (.inr (.inr (.inr (.inl ⟨HKD.out, HE.out.2.2⟩))))))))), n10.R, fun _ => n10, fun h4 => (by rw [HKD.out] at h4; omega), by rw [HKD.out]; rfl⟩⟩
set_option maxHeartbeats 16000000 in
theorem do11_any (h : HA) (x : CA) (w : World) (hR : h.R SA.cells w) (hS : h.Sm) (hx : x.R w) (hxs : x.Sm) (hk : x.kind = 11) : Calls Try.prog 29 #[.agg h.cs, .agg x.cells.toArray] w (DoTo w h x) := by
  obtain ⟨W1, hW1⟩ : ∃ W, W = (((w.alloc (.cells #[.int .i64 h.id, .int .i64 h.vw.size, .int .i64 h.obj, .int .i64 h.seq, .slice h.S h.sn.length h.cs', .bool h.vw.on, .bool h.vw.good, .slice h.vw.M h.vw.row.length h.vw.cm, .string (strOf h.vw.par), .int .i64 h.vw.ps, .int .i64 h.vw.ov, .int .i64 h.ow, .int .i64 h.it, .int .i64 h.tg] 36)).alloc (.cells #[.int .i64 x.kind, .int .i64 x.n, .int .i64 x.m, .string (strOf x.name), .string (strOf x.child), .slice x.A x.row.length x.cm, .bool x.on, .bool x.good] 59)).alloc (.cells #[.int .i64 0, .int .i64 0, .int .i64 0, .int .i64 0, .slice none 0 0, .bool false, .bool false, .slice none 0 0, .string ⟨#[]⟩, .int .i64 0, .int .i64 0, .int .i64 0, .int .i64 0, .int .i64 0] 36)).alloc (.cells #[.int .i64 0, .int .i64 0, .int .i64 0, .int .i64 0, .slice none 0 0, .bool false, .bool false, .slice none 0 0, .string ⟨#[]⟩, .int .i64 0, .int .i64 0, .int .i64 0, .int .i64 0, .int .i64 0] 36) := ⟨_, rfl⟩
  have hd : Do0 w h x W1 := by rw [hW1]; exact do0 w h x
  have HD := Lib.hid hd
  have HR := Lib.hid (hR.since hd.b)
  have HS := Lib.hid hS
  have HX := Lib.hid (And.intro (hx.since hd.b) hxs)
  have HKD := Lib.hid hk
  have HW1 := Lib.hid hW1
  have hz := head_zero
  have K1 := hd.kh
  have q0 : W1.cell? ⟨w.heap.size + 1, 0, none⟩ = some (.int .i64 11) := by have h := hd.kx.cell 0; rw [h]; show some (Value.int .i64 x.kind) = _; rw [hk]
  have q1 : W1.cell? ⟨w.heap.size + 1, 1, none⟩ = some (.int .i64 x.n) := hd.kx.cell 1
  have q2 : W1.cell? ⟨w.heap.size + 1, 2, none⟩ = some (.int .i64 x.m) := hd.kx.cell 2
  clear hR hS hx hxs hd hW1 hk
  unfold HA.cs CA.cells at *
  go_enter Try.func29, Try.ntmps29
  go_upto_region 4 with (fail)
  rw [← HW1.out]
  clear HW1
  go_wp2_with (have _h := K1; refine wpList_loadq rfl 36 (.tmp 2) rfl (w.heap.size) [.int .i64 h.id, .int .i64 h.vw.size, .int .i64 h.obj, .int .i64 h.seq, .slice h.S h.sn.length h.cs', .bool h.vw.on, .bool h.vw.good, .slice h.vw.M h.vw.row.length h.vw.cm, .string (strOf h.vw.par), .int .i64 h.vw.ps, .int .i64 h.vw.ov, .int .i64 h.ow, .int .i64 h.it, .int .i64 h.tg] _ rfl K1 Try.underlying36 rfl (by kernel_rfl) ?_; clear _h K1)
  refine (begin_any h W1 x.n x.m HX.out.1.n HX.out.1.m HR.out HS.out).mono ?_
  rintro e w2 ⟨b, h2⟩
  have H2 := Lib.hid (HD.out.at2 b)
  have HB2 := Lib.hid b
  have ko2 := H2.out.2.2.2
  have hz2 := H2.out.2.1
  clear b q1 q2
  rcases h2 with ⟨hB, rfl⟩ | ⟨hB, k, rfl, hk0, hp⟩ | ⟨hB, q, rfl, hqN, ho⟩
  · have HE := Lib.hid hB
    clear hB
    simp only [errV, Z14]
    go_wp2_with (first | (have _h := ko2; refine wpList_storeq rfl 36 (.tmp 8) (.tmp 116) rfl (w.heap.size + 3) _ [.int .i64 0, .int .i64 0, .int .i64 0, .int .i64 0, .slice none 0 0, .bool false, .bool false, .slice none 0 0, .string ⟨#[]⟩, .int .i64 0, .int .i64 0, .int .i64 0, .int .i64 0, .int .i64 0] rfl rfl ko2 (by simp) (by kernel_rfl) (one14 _ _ _ _ _ _ _ _ _ _ _ _ _ _ _ _ _ _) ?_; clear _h ko2; intro w9 K9 o9 s9; have kr9 : Blk w9 (w.heap.size + 2) 36 #[.int .i64 0, .int .i64 0, .int .i64 0, .int .i64 0, .slice none 0 0, .bool false, .bool false, .slice none 0 0, .string ⟨#[]⟩, .int .i64 0, .int .i64 0, .int .i64 0, .int .i64 0, .int .i64 0] := H2.out.2.2.1.only o9 (by simp); have HO9 := Lib.hid (And.intro o9 s9); clear o9 s9) | (have _h := K9; refine wpList_loadq rfl 36 (.tmp 8) rfl (w.heap.size + 3) [.int .i64 0, .int .i64 0, .int .i64 0, .int .i64 0, .slice none 0 0, .bool false, .bool false, .slice none 0 0, .string ⟨#[]⟩, .int .i64 0, .int .i64 0, .int .i64 0, .int .i64 0, .int .i64 0] _ rfl K9 Try.underlying36 rfl (by kernel_rfl) ?_; clear _h K9) | (have _h := kr9; refine wpList_storeq rfl 36 (.tmp 4) (.tmp 168) rfl (w.heap.size + 2) _ [.int .i64 0, .int .i64 0, .int .i64 0, .int .i64 0, .slice none 0 0, .bool false, .bool false, .slice none 0 0, .string ⟨#[]⟩, .int .i64 0, .int .i64 0, .int .i64 0, .int .i64 0, .int .i64 0] rfl rfl kr9 (by simp) (by kernel_rfl) (one14 _ _ _ _ _ _ _ _ _ _ _ _ _ _ _ _ _ _) ?_; clear _h kr9; intro w10 K10 o10 s10))
    refine bodyPost_ret (results_three rfl _ _ (w.heap.size + 2) 36 _ (0, 0) _ _ _ rfl rfl rfl K10 Try.underlying36 rfl (by kernel_rfl)) rfl ?_
    have hb8 : Below w.heap.size w2 w9 := HO9.out.1.below (B := w.heap.size) (fun z hz => by simp at hz; omega) H2.out.1.size
    have hz9 : w.heap.size ≤ w9.heap.size := Nat.le_trans H2.out.1.size hb8.size
    have hb9 : Below w.heap.size w w10 := H2.out.1.trans (hb8.trans (o10.below (B := w.heap.size) (fun z hz => by simp at hz; omega) hz9))
    exact ⟨hb9, .inl ⟨1, rfl, .inl ⟨HE.out, rfl⟩⟩⟩
  · obtain ⟨k, rfl⟩ : ∃ k', k = k' + 1 := ⟨k - 1, by omega⟩
    have HE := Lib.hid (And.intro hB hp)
    clear hB hp hk0
    simp only [errV, Z14]
    go_wp2_with (first | (have _h := ko2; refine wpList_storeq rfl 36 (.tmp 8) (.tmp 116) rfl (w.heap.size + 3) _ [.int .i64 0, .int .i64 0, .int .i64 0, .int .i64 0, .slice none 0 0, .bool false, .bool false, .slice none 0 0, .string ⟨#[]⟩, .int .i64 0, .int .i64 0, .int .i64 0, .int .i64 0, .int .i64 0] rfl rfl ko2 (by simp) (by kernel_rfl) (one14 _ _ _ _ _ _ _ _ _ _ _ _ _ _ _ _ _ _) ?_; clear _h ko2; intro w9 K9 o9 s9; have kr9 : Blk w9 (w.heap.size + 2) 36 #[.int .i64 0, .int .i64 0, .int .i64 0, .int .i64 0, .slice none 0 0, .bool false, .bool false, .slice none 0 0, .string ⟨#[]⟩, .int .i64 0, .int .i64 0, .int .i64 0, .int .i64 0, .int .i64 0] := H2.out.2.2.1.only o9 (by simp); have HO9 := Lib.hid (And.intro o9 s9); clear o9 s9) | (have _h := K9; refine wpList_loadq rfl 36 (.tmp 8) rfl (w.heap.size + 3) [.int .i64 0, .int .i64 0, .int .i64 0, .int .i64 0, .slice none 0 0, .bool false, .bool false, .slice none 0 0, .string ⟨#[]⟩, .int .i64 0, .int .i64 0, .int .i64 0, .int .i64 0, .int .i64 0] _ rfl K9 Try.underlying36 rfl (by kernel_rfl) ?_; clear _h K9) | (have _h := kr9; refine wpList_storeq rfl 36 (.tmp 4) (.tmp 168) rfl (w.heap.size + 2) _ [.int .i64 0, .int .i64 0, .int .i64 0, .int .i64 0, .slice none 0 0, .bool false, .bool false, .slice none 0 0, .string ⟨#[]⟩, .int .i64 0, .int .i64 0, .int .i64 0, .int .i64 0, .int .i64 0] rfl rfl kr9 (by simp) (by kernel_rfl) (one14 _ _ _ _ _ _ _ _ _ _ _ _ _ _ _ _ _ _) ?_; clear _h kr9; intro w10 K10 o10 s10))
    refine bodyPost_ret (results_three rfl _ _ (w.heap.size + 2) 36 _ (0, 0) _ _ _ rfl rfl rfl K10 Try.underlying36 rfl (by kernel_rfl)) rfl ?_
    have hb8 : Below w.heap.size w2 w9 := HO9.out.1.below (B := w.heap.size) (fun z hz => by simp at hz; omega) H2.out.1.size
    have hz9 : w.heap.size ≤ w9.heap.size := Nat.le_trans H2.out.1.size hb8.size
    have hb9 : Below w.heap.size w w10 := H2.out.1.trans (hb8.trans (o10.below (B := w.heap.size) (fun z hz => by simp at hz; omega) hz9))
    exact ⟨hb9, .inl ⟨k, rfl, .inr ⟨HE.out.1, .inr (.inr (.inr (.inr (.inr (.inr (.inr (.inr (.inr (.inr (.inl ⟨HKD.out, HE.out.2⟩))))))))))⟩⟩⟩
  · have HE := Lib.hid (And.intro hB (And.intro hqN ho))
    clear hB hqN ho
    try unfold HA.cs at *
    go_wp2_with (first | (have _h := ko2; refine wpList_storeq rfl 36 (.tmp 8) (.tmp 116) rfl (w.heap.size + 3) _ [.int .i64 q.id, .int .i64 q.vw.size, .int .i64 q.obj, .int .i64 q.seq, .slice q.S q.sn.length q.cs', .bool q.vw.on, .bool q.vw.good, .slice q.vw.M q.vw.row.length q.vw.cm, .string (strOf q.vw.par), .int .i64 q.vw.ps, .int .i64 q.vw.ov, .int .i64 q.ow, .int .i64 q.it, .int .i64 q.tg] rfl rfl ko2 (by simp) (by kernel_rfl) (one14 _ _ _ _ _ _ _ _ _ _ _ _ _ _ _ _ _ _) ?_; clear _h ko2; intro w9 K9 o9 s9; have kr9 : Blk w9 (w.heap.size + 2) 36 #[.int .i64 0, .int .i64 0, .int .i64 0, .int .i64 0, .slice none 0 0, .bool false, .bool false, .slice none 0 0, .string ⟨#[]⟩, .int .i64 0, .int .i64 0, .int .i64 0, .int .i64 0, .int .i64 0] := H2.out.2.2.1.only o9 (by simp); have HO9 := Lib.hid (And.intro o9 s9); clear o9 s9) | (have _h := K9; refine wpList_loadq rfl 36 (.tmp 8) rfl (w.heap.size + 3) [.int .i64 q.id, .int .i64 q.vw.size, .int .i64 q.obj, .int .i64 q.seq, .slice q.S q.sn.length q.cs', .bool q.vw.on, .bool q.vw.good, .slice q.vw.M q.vw.row.length q.vw.cm, .string (strOf q.vw.par), .int .i64 q.vw.ps, .int .i64 q.vw.ov, .int .i64 q.ow, .int .i64 q.it, .int .i64 q.tg] _ rfl K9 Try.underlying36 rfl (by kernel_rfl) ?_; clear _h K9) | (have _h := kr9; refine wpList_storeq rfl 36 (.tmp 4) (.tmp 168) rfl (w.heap.size + 2) _ [.int .i64 q.id, .int .i64 q.vw.size, .int .i64 q.obj, .int .i64 q.seq, .slice q.S q.sn.length q.cs', .bool q.vw.on, .bool q.vw.good, .slice q.vw.M q.vw.row.length q.vw.cm, .string (strOf q.vw.par), .int .i64 q.vw.ps, .int .i64 q.vw.ov, .int .i64 q.ow, .int .i64 q.it, .int .i64 q.tg] rfl rfl kr9 (by simp) (by kernel_rfl) (one14 _ _ _ _ _ _ _ _ _ _ _ _ _ _ _ _ _ _) ?_; clear _h kr9; intro w10 K10 o10 s10))
    refine bodyPost_ret (results_three rfl _ _ (w.heap.size + 2) 36 _ (0, 0) _ _ _ rfl rfl rfl K10 Try.underlying36 rfl (by kernel_rfl)) rfl ?_
    have hb8 : Below w.heap.size w2 w9 := HO9.out.1.below (B := w.heap.size) (fun z hz => by simp at hz; omega) H2.out.1.size
    have hz9 : w.heap.size ≤ w9.heap.size := Nat.le_trans H2.out.1.size hb8.size
    have hb9 : Below w.heap.size w w10 := H2.out.1.trans (hb8.trans (o10.below (B := w.heap.size) (fun z hz => by simp at hz; omega) hz9))
    have n9 := HE.out.2.1.stay H2.out.2.2.2 HO9.out.1
    have n10 := (n9.stay (H2.out.2.2.1.only HO9.out.1 (by simp)) o10).weaken (base' := w.heap.size) (by have := HD.out.z; omega)
    exact ⟨hb9, .inr ⟨q, 0, rfl, HE.out.1, .inr (.inr (.inr (.inr (.inr (.inr (.inr (.inr (.inr (.inr (.inl ⟨HKD.out, HE.out.2.2⟩)))))))))), n10.R, fun _ => n10, fun h4 => (by rw [HKD.out] at h4; omega), by rw [HKD.out]; rfl⟩⟩
set_option maxHeartbeats 16000000 in
theorem do12_any (h : HA) (x : CA) (w : World) (hR : h.R SA.cells w) (hS : h.Sm) (hx : x.R w) (hxs : x.Sm) (hk : x.kind = 12) : Calls Try.prog 29 #[.agg h.cs, .agg x.cells.toArray] w (DoTo w h x) := by
  obtain ⟨W1, hW1⟩ : ∃ W, W = (((w.alloc (.cells #[.int .i64 h.id, .int .i64 h.vw.size, .int .i64 h.obj, .int .i64 h.seq, .slice h.S h.sn.length h.cs', .bool h.vw.on, .bool h.vw.good, .slice h.vw.M h.vw.row.length h.vw.cm, .string (strOf h.vw.par), .int .i64 h.vw.ps, .int .i64 h.vw.ov, .int .i64 h.ow, .int .i64 h.it, .int .i64 h.tg] 36)).alloc (.cells #[.int .i64 x.kind, .int .i64 x.n, .int .i64 x.m, .string (strOf x.name), .string (strOf x.child), .slice x.A x.row.length x.cm, .bool x.on, .bool x.good] 59)).alloc (.cells #[.int .i64 0, .int .i64 0, .int .i64 0, .int .i64 0, .slice none 0 0, .bool false, .bool false, .slice none 0 0, .string ⟨#[]⟩, .int .i64 0, .int .i64 0, .int .i64 0, .int .i64 0, .int .i64 0] 36)).alloc (.cells #[.int .i64 0, .int .i64 0, .int .i64 0, .int .i64 0, .slice none 0 0, .bool false, .bool false, .slice none 0 0, .string ⟨#[]⟩, .int .i64 0, .int .i64 0, .int .i64 0, .int .i64 0, .int .i64 0] 36) := ⟨_, rfl⟩
  have hd : Do0 w h x W1 := by rw [hW1]; exact do0 w h x
  have HD := Lib.hid hd
  have HR := Lib.hid (hR.since hd.b)
  have HS := Lib.hid hS
  have HX := Lib.hid (And.intro (hx.since hd.b) hxs)
  have HKD := Lib.hid hk
  have HW1 := Lib.hid hW1
  have hz := head_zero
  have K1 := hd.kh
  have q0 : W1.cell? ⟨w.heap.size + 1, 0, none⟩ = some (.int .i64 12) := by have h := hd.kx.cell 0; rw [h]; show some (Value.int .i64 x.kind) = _; rw [hk]
  clear hR hS hx hxs hd hW1 hk
  unfold HA.cs CA.cells at *
  go_enter Try.func29, Try.ntmps29
  go_upto_region 4 with (fail)
  rw [← HW1.out]
  clear HW1
  go_wp2_with (have _h := K1; refine wpList_loadq rfl 36 (.tmp 2) rfl (w.heap.size) [.int .i64 h.id, .int .i64 h.vw.size, .int .i64 h.obj, .int .i64 h.seq, .slice h.S h.sn.length h.cs', .bool h.vw.on, .bool h.vw.good, .slice h.vw.M h.vw.row.length h.vw.cm, .string (strOf h.vw.par), .int .i64 h.vw.ps, .int .i64 h.vw.ov, .int .i64 h.ow, .int .i64 h.it, .int .i64 h.tg] _ rfl K1 Try.underlying36 rfl (by kernel_rfl) ?_; clear _h K1)
  refine (finish_any h W1 HR.out HS.out).mono ?_
  rintro e w2 ⟨b, h2⟩
  have H2 := Lib.hid (HD.out.at2 b)
  have HB2 := Lib.hid b
  have ko2 := H2.out.2.2.2
  have hz2 := H2.out.2.1
  clear b
  rcases h2 with ⟨hB, rfl⟩ | ⟨hB, k, rfl, hk0, hp⟩ | ⟨hB, q, rfl, hqN, ho⟩
  · have HE := Lib.hid hB
    clear hB
    simp only [errV, Z14]
    go_wp2_with (first | (have _h := ko2; refine wpList_storeq rfl 36 (.tmp 8) (.tmp 123) rfl (w.heap.size + 3) _ [.int .i64 0, .int .i64 0, .int .i64 0, .int .i64 0, .slice none 0 0, .bool false, .bool false, .slice none 0 0, .string ⟨#[]⟩, .int .i64 0, .int .i64 0, .int .i64 0, .int .i64 0, .int .i64 0] rfl rfl ko2 (by simp) (by kernel_rfl) (one14 _ _ _ _ _ _ _ _ _ _ _ _ _ _ _ _ _ _) ?_; clear _h ko2; intro w9 K9 o9 s9; have kr9 : Blk w9 (w.heap.size + 2) 36 #[.int .i64 0, .int .i64 0, .int .i64 0, .int .i64 0, .slice none 0 0, .bool false, .bool false, .slice none 0 0, .string ⟨#[]⟩, .int .i64 0, .int .i64 0, .int .i64 0, .int .i64 0, .int .i64 0] := H2.out.2.2.1.only o9 (by simp); have HO9 := Lib.hid (And.intro o9 s9); clear o9 s9) | (have _h := K9; refine wpList_loadq rfl 36 (.tmp 8) rfl (w.heap.size + 3) [.int .i64 0, .int .i64 0, .int .i64 0, .int .i64 0, .slice none 0 0, .bool false, .bool false, .slice none 0 0, .string ⟨#[]⟩, .int .i64 0, .int .i64 0, .int .i64 0, .int .i64 0, .int .i64 0] _ rfl K9 Try.underlying36 rfl (by kernel_rfl) ?_; clear _h K9) | (have _h := kr9; refine wpList_storeq rfl 36 (.tmp 4) (.tmp 168) rfl (w.heap.size + 2) _ [.int .i64 0, .int .i64 0, .int .i64 0, .int .i64 0, .slice none 0 0, .bool false, .bool false, .slice none 0 0, .string ⟨#[]⟩, .int .i64 0, .int .i64 0, .int .i64 0, .int .i64 0, .int .i64 0] rfl rfl kr9 (by simp) (by kernel_rfl) (one14 _ _ _ _ _ _ _ _ _ _ _ _ _ _ _ _ _ _) ?_; clear _h kr9; intro w10 K10 o10 s10))
    refine bodyPost_ret (results_three rfl _ _ (w.heap.size + 2) 36 _ (0, 0) _ _ _ rfl rfl rfl K10 Try.underlying36 rfl (by kernel_rfl)) rfl ?_
    have hb8 : Below w.heap.size w2 w9 := HO9.out.1.below (B := w.heap.size) (fun z hz => by simp at hz; omega) H2.out.1.size
    have hz9 : w.heap.size ≤ w9.heap.size := Nat.le_trans H2.out.1.size hb8.size
    have hb9 : Below w.heap.size w w10 := H2.out.1.trans (hb8.trans (o10.below (B := w.heap.size) (fun z hz => by simp at hz; omega) hz9))
    exact ⟨hb9, .inl ⟨1, rfl, .inl ⟨HE.out, rfl⟩⟩⟩
  · obtain ⟨k, rfl⟩ : ∃ k', k = k' + 1 := ⟨k - 1, by omega⟩
    have HE := Lib.hid (And.intro hB hp)
    clear hB hp hk0
    simp only [errV, Z14]
    go_wp2_with (first | (have _h := ko2; refine wpList_storeq rfl 36 (.tmp 8) (.tmp 123) rfl (w.heap.size + 3) _ [.int .i64 0, .int .i64 0, .int .i64 0, .int .i64 0, .slice none 0 0, .bool false, .bool false, .slice none 0 0, .string ⟨#[]⟩, .int .i64 0, .int .i64 0, .int .i64 0, .int .i64 0, .int .i64 0] rfl rfl ko2 (by simp) (by kernel_rfl) (one14 _ _ _ _ _ _ _ _ _ _ _ _ _ _ _ _ _ _) ?_; clear _h ko2; intro w9 K9 o9 s9; have kr9 : Blk w9 (w.heap.size + 2) 36 #[.int .i64 0, .int .i64 0, .int .i64 0, .int .i64 0, .slice none 0 0, .bool false, .bool false, .slice none 0 0, .string ⟨#[]⟩, .int .i64 0, .int .i64 0, .int .i64 0, .int .i64 0, .int .i64 0] := H2.out.2.2.1.only o9 (by simp); have HO9 := Lib.hid (And.intro o9 s9); clear o9 s9) | (have _h := K9; refine wpList_loadq rfl 36 (.tmp 8) rfl (w.heap.size + 3) [.int .i64 0, .int .i64 0, .int .i64 0, .int .i64 0, .slice none 0 0, .bool false, .bool false, .slice none 0 0, .string ⟨#[]⟩, .int .i64 0, .int .i64 0, .int .i64 0, .int .i64 0, .int .i64 0] _ rfl K9 Try.underlying36 rfl (by kernel_rfl) ?_; clear _h K9) | (have _h := kr9; refine wpList_storeq rfl 36 (.tmp 4) (.tmp 168) rfl (w.heap.size + 2) _ [.int .i64 0, .int .i64 0, .int .i64 0, .int .i64 0, .slice none 0 0, .bool false, .bool false, .slice none 0 0, .string ⟨#[]⟩, .int .i64 0, .int .i64 0, .int .i64 0, .int .i64 0, .int .i64 0] rfl rfl kr9 (by simp) (by kernel_rfl) (one14 _ _ _ _ _ _ _ _ _ _ _ _ _ _ _ _ _ _) ?_; clear _h kr9; intro w10 K10 o10 s10))
    refine bodyPost_ret (results_three rfl _ _ (w.heap.size + 2) 36 _ (0, 0) _ _ _ rfl rfl rfl K10 Try.underlying36 rfl (by kernel_rfl)) rfl ?_
    have hb8 : Below w.heap.size w2 w9 := HO9.out.1.below (B := w.heap.size) (fun z hz => by simp at hz; omega) H2.out.1.size
    have hz9 : w.heap.size ≤ w9.heap.size := Nat.le_trans H2.out.1.size hb8.size
    have hb9 : Below w.heap.size w w10 := H2.out.1.trans (hb8.trans (o10.below (B := w.heap.size) (fun z hz => by simp at hz; omega) hz9))
    exact ⟨hb9, .inl ⟨k, rfl, .inr ⟨HE.out.1, .inr (.inr (.inr (.inr (.inr (.inr (.inr (.inr (.inr (.inr (.inr (.inl ⟨HKD.out, HE.out.2⟩)))))))))))⟩⟩⟩
  · have HE := Lib.hid (And.intro hB (And.intro hqN ho))
    clear hB hqN ho
    try unfold HA.cs at *
    go_wp2_with (first | (have _h := ko2; refine wpList_storeq rfl 36 (.tmp 8) (.tmp 123) rfl (w.heap.size + 3) _ [.int .i64 q.id, .int .i64 q.vw.size, .int .i64 q.obj, .int .i64 q.seq, .slice q.S q.sn.length q.cs', .bool q.vw.on, .bool q.vw.good, .slice q.vw.M q.vw.row.length q.vw.cm, .string (strOf q.vw.par), .int .i64 q.vw.ps, .int .i64 q.vw.ov, .int .i64 q.ow, .int .i64 q.it, .int .i64 q.tg] rfl rfl ko2 (by simp) (by kernel_rfl) (one14 _ _ _ _ _ _ _ _ _ _ _ _ _ _ _ _ _ _) ?_; clear _h ko2; intro w9 K9 o9 s9; have kr9 : Blk w9 (w.heap.size + 2) 36 #[.int .i64 0, .int .i64 0, .int .i64 0, .int .i64 0, .slice none 0 0, .bool false, .bool false, .slice none 0 0, .string ⟨#[]⟩, .int .i64 0, .int .i64 0, .int .i64 0, .int .i64 0, .int .i64 0] := H2.out.2.2.1.only o9 (by simp); have HO9 := Lib.hid (And.intro o9 s9); clear o9 s9) | (have _h := K9; refine wpList_loadq rfl 36 (.tmp 8) rfl (w.heap.size + 3) [.int .i64 q.id, .int .i64 q.vw.size, .int .i64 q.obj, .int .i64 q.seq, .slice q.S q.sn.length q.cs', .bool q.vw.on, .bool q.vw.good, .slice q.vw.M q.vw.row.length q.vw.cm, .string (strOf q.vw.par), .int .i64 q.vw.ps, .int .i64 q.vw.ov, .int .i64 q.ow, .int .i64 q.it, .int .i64 q.tg] _ rfl K9 Try.underlying36 rfl (by kernel_rfl) ?_; clear _h K9) | (have _h := kr9; refine wpList_storeq rfl 36 (.tmp 4) (.tmp 168) rfl (w.heap.size + 2) _ [.int .i64 q.id, .int .i64 q.vw.size, .int .i64 q.obj, .int .i64 q.seq, .slice q.S q.sn.length q.cs', .bool q.vw.on, .bool q.vw.good, .slice q.vw.M q.vw.row.length q.vw.cm, .string (strOf q.vw.par), .int .i64 q.vw.ps, .int .i64 q.vw.ov, .int .i64 q.ow, .int .i64 q.it, .int .i64 q.tg] rfl rfl kr9 (by simp) (by kernel_rfl) (one14 _ _ _ _ _ _ _ _ _ _ _ _ _ _ _ _ _ _) ?_; clear _h kr9; intro w10 K10 o10 s10))
    refine bodyPost_ret (results_three rfl _ _ (w.heap.size + 2) 36 _ (0, 0) _ _ _ rfl rfl rfl K10 Try.underlying36 rfl (by kernel_rfl)) rfl ?_
    have hb8 : Below w.heap.size w2 w9 := HO9.out.1.below (B := w.heap.size) (fun z hz => by simp at hz; omega) H2.out.1.size
    have hz9 : w.heap.size ≤ w9.heap.size := Nat.le_trans H2.out.1.size hb8.size
    have hb9 : Below w.heap.size w w10 := H2.out.1.trans (hb8.trans (o10.below (B := w.heap.size) (fun z hz => by simp at hz; omega) hz9))
    have n9 := HE.out.2.1.stay H2.out.2.2.2 HO9.out.1
    have n10 := (n9.stay (H2.out.2.2.1.only HO9.out.1 (by simp)) o10).weaken (base' := w.heap.size) (by have := HD.out.z; omega)
    exact ⟨hb9, .inr ⟨q, 0, rfl, HE.out.1, .inr (.inr (.inr (.inr (.inr (.inr (.inr (.inr (.inr (.inr (.inr (.inl ⟨HKD.out, HE.out.2.2⟩))))))))))), n10.R, fun _ => n10, fun h4 => (by rw [HKD.out] at h4; omega), by rw [HKD.out]; rfl⟩⟩
set_option maxHeartbeats 16000000 in
theorem do13_any (h : HA) (x : CA) (w : World) (hR : h.R SA.cells w) (hS : h.Sm) (hx : x.R w) (hxs : x.Sm) (hk : x.kind = 13) : Calls Try.prog 29 #[.agg h.cs, .agg x.cells.toArray] w (DoTo w h x) := by
  obtain ⟨W1, hW1⟩ : ∃ W, W = (((w.alloc (.cells #[.int .i64 h.id, .int .i64 h.vw.size, .int .i64 h.obj, .int .i64 h.seq, .slice h.S h.sn.length h.cs', .bool h.vw.on, .bool h.vw.good, .slice h.vw.M h.vw.row.length h.vw.cm, .string (strOf h.vw.par), .int .i64 h.vw.ps, .int .i64 h.vw.ov, .int .i64 h.ow, .int .i64 h.it, .int .i64 h.tg] 36)).alloc (.cells #[.int .i64 x.kind, .int .i64 x.n, .int .i64 x.m, .string (strOf x.name), .string (strOf x.child), .slice x.A x.row.length x.cm, .bool x.on, .bool x.good] 59)).alloc (.cells #[.int .i64 0, .int .i64 0, .int .i64 0, .int .i64 0, .slice none 0 0, .bool false, .bool false, .slice none 0 0, .string ⟨#[]⟩, .int .i64 0, .int .i64 0, .int .i64 0, .int .i64 0, .int .i64 0] 36)).alloc (.cells #[.int .i64 0, .int .i64 0, .int .i64 0, .int .i64 0, .slice none 0 0, .bool false, .bool false, .slice none 0 0, .string ⟨#[]⟩, .int .i64 0, .int .i64 0, .int .i64 0, .int .i64 0, .int .i64 0] 36) := ⟨_, rfl⟩
  have hd : Do0 w h x W1 := by rw [hW1]; exact do0 w h x
  have HD := Lib.hid hd
  have HR := Lib.hid (hR.since hd.b)
  have HS := Lib.hid hS
  have HX := Lib.hid (And.intro (hx.since hd.b) hxs)
  have HKD := Lib.hid hk
  have HW1 := Lib.hid hW1
  have hz := head_zero
  have K1 := hd.kh
  have q0 : W1.cell? ⟨w.heap.size + 1, 0, none⟩ = some (.int .i64 13) := by have h := hd.kx.cell 0; rw [h]; show some (Value.int .i64 x.kind) = _; rw [hk]
  have q1 : W1.cell? ⟨w.heap.size + 1, 1, none⟩ = some (.int .i64 x.n) := hd.kx.cell 1
  have q2 : W1.cell? ⟨w.heap.size + 1, 2, none⟩ = some (.int .i64 x.m) := hd.kx.cell 2
  clear hR hS hx hxs hd hW1 hk
  unfold HA.cs CA.cells at *
  go_enter Try.func29, Try.ntmps29
  go_upto_region 4 with (fail)
  rw [← HW1.out]
  clear HW1
  obtain ⟨mv, hmv⟩ : ∃ mv : Int, mv = ((mB x.m : Nat) : Int) := ⟨_, rfl⟩
  have HMK : Hid (Calls Try.prog 79 #[.agg #[.int .i64 h.id, .int .i64 h.vw.size, .int .i64 h.obj, .int .i64 h.seq, .slice h.S h.sn.length h.cs', .bool h.vw.on, .bool h.vw.good, .slice h.vw.M h.vw.row.length h.vw.cm, .string (strOf h.vw.par), .int .i64 h.vw.ps, .int .i64 h.vw.ov, .int .i64 h.ow, .int .i64 h.it, .int .i64 h.tg], .int .i64 x.n, .int .u8 mv] W1 (AnsTo W1 h.v (fun k => MarE h.v x.n (mB x.m) k) (fun v => MarO h.v x.n (mB x.m) v))) := Lib.hid (by
    rw [hmv]
    exact mark_any h W1 x.n HX.out.1.n (mB x.m) (by unfold mB; split <;> omega) HR.out HS.out)
  have hmi : mv = if 0 ≤ x.m ∧ x.m < 9 then x.m else 9 := by rw [hmv]; unfold mB; split <;> omega
  clear hmv
  by_cases c1 : 0 ≤ x.m
  · by_cases c2 : x.m < 9
    · rw [if_pos ⟨c1, c2⟩] at hmi
      have hwm : IntKind.u8.wrap x.m = x.m := by rw [IntKind.wrap_u8]; omega
      rw [← hmi] at q2 c1 c2 hwm
      have e1 : decide (0 ≤ mv) = true := decide_eq_true c1
      have e2 : decide (mv < 9) = true := decide_eq_true c2
      clear c1 c2 hmi
      go_wp2_with (have _h := K1; refine wpList_loadq rfl 36 (.tmp 2) rfl (w.heap.size) [.int .i64 h.id, .int .i64 h.vw.size, .int .i64 h.obj, .int .i64 h.seq, .slice h.S h.sn.length h.cs', .bool h.vw.on, .bool h.vw.good, .slice h.vw.M h.vw.row.length h.vw.cm, .string (strOf h.vw.par), .int .i64 h.vw.ps, .int .i64 h.vw.ov, .int .i64 h.ow, .int .i64 h.it, .int .i64 h.tg] _ rfl K1 Try.underlying36 rfl (by kernel_rfl) ?_; clear _h K1)
      refine (HMK.out).mono ?_
      rintro e w2 ⟨b, h2⟩
      have H2 := Lib.hid (HD.out.at2 b)
      have HB2 := Lib.hid b
      have ko2 := H2.out.2.2.2
      have hz2 := H2.out.2.1
      clear b q1 q2
      rcases h2 with ⟨hB, rfl⟩ | ⟨hB, k, rfl, hk0, hp⟩ | ⟨hB, q, rfl, hqN, ho⟩
      · have HE := Lib.hid hB
        clear hB
        simp only [errV, Z14]
        go_wp2_with (first | (have _h := ko2; refine wpList_storeq rfl 36 (.tmp 8) (.tmp 144) rfl (w.heap.size + 3) _ [.int .i64 0, .int .i64 0, .int .i64 0, .int .i64 0, .slice none 0 0, .bool false, .bool false, .slice none 0 0, .string ⟨#[]⟩, .int .i64 0, .int .i64 0, .int .i64 0, .int .i64 0, .int .i64 0] rfl rfl ko2 (by simp) (by kernel_rfl) (one14 _ _ _ _ _ _ _ _ _ _ _ _ _ _ _ _ _ _) ?_; clear _h ko2; intro w9 K9 o9 s9; have kr9 : Blk w9 (w.heap.size + 2) 36 #[.int .i64 0, .int .i64 0, .int .i64 0, .int .i64 0, .slice none 0 0, .bool false, .bool false, .slice none 0 0, .string ⟨#[]⟩, .int .i64 0, .int .i64 0, .int .i64 0, .int .i64 0, .int .i64 0] := H2.out.2.2.1.only o9 (by simp); have HO9 := Lib.hid (And.intro o9 s9); clear o9 s9) | (have _h := K9; refine wpList_loadq rfl 36 (.tmp 8) rfl (w.heap.size + 3) [.int .i64 0, .int .i64 0, .int .i64 0, .int .i64 0, .slice none 0 0, .bool false, .bool false, .slice none 0 0, .string ⟨#[]⟩, .int .i64 0, .int .i64 0, .int .i64 0, .int .i64 0, .int .i64 0] _ rfl K9 Try.underlying36 rfl (by kernel_rfl) ?_; clear _h K9) | (have _h := kr9; refine wpList_storeq rfl 36 (.tmp 4) (.tmp 168) rfl (w.heap.size + 2) _ [.int .i64 0, .int .i64 0, .int .i64 0, .int .i64 0, .slice none 0 0, .bool false, .bool false, .slice none 0 0, .string ⟨#[]⟩, .int .i64 0, .int .i64 0, .int .i64 0, .int .i64 0, .int .i64 0] rfl rfl kr9 (by simp) (by kernel_rfl) (one14 _ _ _ _ _ _ _ _ _ _ _ _ _ _ _ _ _ _) ?_; clear _h kr9; intro w10 K10 o10 s10))
        refine bodyPost_ret (results_three rfl _ _ (w.heap.size + 2) 36 _ (0, 0) _ _ _ rfl rfl rfl K10 Try.underlying36 rfl (by kernel_rfl)) rfl ?_
        have hb8 : Below w.heap.size w2 w9 := HO9.out.1.below (B := w.heap.size) (fun z hz => by simp at hz; omega) H2.out.1.size
        have hz9 : w.heap.size ≤ w9.heap.size := Nat.le_trans H2.out.1.size hb8.size
        have hb9 : Below w.heap.size w w10 := H2.out.1.trans (hb8.trans (o10.below (B := w.heap.size) (fun z hz => by simp at hz; omega) hz9))
        exact ⟨hb9, .inl ⟨1, rfl, .inl ⟨HE.out, rfl⟩⟩⟩
      · obtain ⟨k, rfl⟩ : ∃ k', k = k' + 1 := ⟨k - 1, by omega⟩
        have HE := Lib.hid (And.intro hB hp)
        clear hB hp hk0
        simp only [errV, Z14]
        go_wp2_with (first | (have _h := ko2; refine wpList_storeq rfl 36 (.tmp 8) (.tmp 144) rfl (w.heap.size + 3) _ [.int .i64 0, .int .i64 0, .int .i64 0, .int .i64 0, .slice none 0 0, .bool false, .bool false, .slice none 0 0, .string ⟨#[]⟩, .int .i64 0, .int .i64 0, .int .i64 0, .int .i64 0, .int .i64 0] rfl rfl ko2 (by simp) (by kernel_rfl) (one14 _ _ _ _ _ _ _ _ _ _ _ _ _ _ _ _ _ _) ?_; clear _h ko2; intro w9 K9 o9 s9; have kr9 : Blk w9 (w.heap.size + 2) 36 #[.int .i64 0, .int .i64 0, .int .i64 0, .int .i64 0, .slice none 0 0, .bool false, .bool false, .slice none 0 0, .string ⟨#[]⟩, .int .i64 0, .int .i64 0, .int .i64 0, .int .i64 0, .int .i64 0] := H2.out.2.2.1.only o9 (by simp); have HO9 := Lib.hid (And.intro o9 s9); clear o9 s9) | (have _h := K9; refine wpList_loadq rfl 36 (.tmp 8) rfl (w.heap.size + 3) [.int .i64 0, .int .i64 0, .int .i64 0, .int .i64 0, .slice none 0 0, .bool false, .bool false, .slice none 0 0, .string ⟨#[]⟩, .int .i64 0, .int .i64 0, .int .i64 0, .int .i64 0, .int .i64 0] _ rfl K9 Try.underlying36 rfl (by kernel_rfl) ?_; clear _h K9) | (have _h := kr9; refine wpList_storeq rfl 36 (.tmp 4) (.tmp 168) rfl (w.heap.size + 2) _ [.int .i64 0, .int .i64 0, .int .i64 0, .int .i64 0, .slice none 0 0, .bool false, .bool false, .slice none 0 0, .string ⟨#[]⟩, .int .i64 0, .int .i64 0, .int .i64 0, .int .i64 0, .int .i64 0] rfl rfl kr9 (by simp) (by kernel_rfl) (one14 _ _ _ _ _ _ _ _ _ _ _ _ _ _ _ _ _ _) ?_; clear _h kr9; intro w10 K10 o10 s10))
        refine bodyPost_ret (results_three rfl _ _ (w.heap.size + 2) 36 _ (0, 0) _ _ _ rfl rfl rfl K10 Try.underlying36 rfl (by kernel_rfl)) rfl ?_
        have hb8 : Below w.heap.size w2 w9 := HO9.out.1.below (B := w.heap.size) (fun z hz => by simp at hz; omega) H2.out.1.size
        have hz9 : w.heap.size ≤ w9.heap.size := Nat.le_trans H2.out.1.size hb8.size
        have hb9 : Below w.heap.size w w10 := H2.out.1.trans (hb8.trans (o10.below (B := w.heap.size) (fun z hz => by simp at hz; omega) hz9))
        exact ⟨hb9, .inl ⟨k, rfl, .inr ⟨HE.out.1, .inr (.inr (.inr (.inr (.inr (.inr (.inr (.inr (.inr (.inr (.inr (.inr (.inl ⟨HKD.out, HE.out.2⟩))))))))))))⟩⟩⟩
      · have HE := Lib.hid (And.intro hB (And.intro hqN ho))
        clear hB hqN ho
        try unfold HA.cs at *
        go_wp2_with (first | (have _h := ko2; refine wpList_storeq rfl 36 (.tmp 8) (.tmp 144) rfl (w.heap.size + 3) _ [.int .i64 q.id, .int .i64 q.vw.size, .int .i64 q.obj, .int .i64 q.seq, .slice q.S q.sn.length q.cs', .bool q.vw.on, .bool q.vw.good, .slice q.vw.M q.vw.row.length q.vw.cm, .string (strOf q.vw.par), .int .i64 q.vw.ps, .int .i64 q.vw.ov, .int .i64 q.ow, .int .i64 q.it, .int .i64 q.tg] rfl rfl ko2 (by simp) (by kernel_rfl) (one14 _ _ _ _ _ _ _ _ _ _ _ _ _ _ _ _ _ _) ?_; clear _h ko2; intro w9 K9 o9 s9; have kr9 : Blk w9 (w.heap.size + 2) 36 #[.int .i64 0, .int .i64 0, .int .i64 0, .int .i64 0, .slice none 0 0, .bool false, .bool false, .slice none 0 0, .string ⟨#[]⟩, .int .i64 0, .int .i64 0, .int .i64 0, .int .i64 0, .int .i64 0] := H2.out.2.2.1.only o9 (by simp); have HO9 := Lib.hid (And.intro o9 s9); clear o9 s9) | (have _h := K9; refine wpList_loadq rfl 36 (.tmp 8) rfl (w.heap.size + 3) [.int .i64 q.id, .int .i64 q.vw.size, .int .i64 q.obj, .int .i64 q.seq, .slice q.S q.sn.length q.cs', .bool q.vw.on, .bool q.vw.good, .slice q.vw.M q.vw.row.length q.vw.cm, .string (strOf q.vw.par), .int .i64 q.vw.ps, .int .i64 q.vw.ov, .int .i64 q.ow, .int .i64 q.it, .int .i64 q.tg] _ rfl K9 Try.underlying36 rfl (by kernel_rfl) ?_; clear _h K9) | (have _h := kr9; refine wpList_storeq rfl 36 (.tmp 4) (.tmp 168) rfl (w.heap.size + 2) _ [.int .i64 q.id, .int .i64 q.vw.size, .int .i64 q.obj, .int .i64 q.seq, .slice q.S q.sn.length q.cs', .bool q.vw.on, .bool q.vw.good, .slice q.vw.M q.vw.row.length q.vw.cm, .string (strOf q.vw.par), .int .i64 q.vw.ps, .int .i64 q.vw.ov, .int .i64 q.ow, .int .i64 q.it, .int .i64 q.tg] rfl rfl kr9 (by simp) (by kernel_rfl) (one14 _ _ _ _ _ _ _ _ _ _ _ _ _ _ _ _ _ _) ?_; clear _h kr9; intro w10 K10 o10 s10))
        refine bodyPost_ret (results_three rfl _ _ (w.heap.size + 2) 36 _ (0, 0) _ _ _ rfl rfl rfl K10 Try.underlying36 rfl (by kernel_rfl)) rfl ?_
        have hb8 : Below w.heap.size w2 w9 := HO9.out.1.below (B := w.heap.size) (fun z hz => by simp at hz; omega) H2.out.1.size
        have hz9 : w.heap.size ≤ w9.heap.size := Nat.le_trans H2.out.1.size hb8.size
        have hb9 : Below w.heap.size w w10 := H2.out.1.trans (hb8.trans (o10.below (B := w.heap.size) (fun z hz => by simp at hz; omega) hz9))
        have n9 := HE.out.2.1.stay H2.out.2.2.2 HO9.out.1
        have n10 := (n9.stay (H2.out.2.2.1.only HO9.out.1 (by simp)) o10).weaken (base' := w.heap.size) (by have := HD.out.z; omega)
        exact ⟨hb9, .inr ⟨q, 0, rfl, HE.out.1, .inr (.inr (.inr (.inr (.inr (.inr (.inr (.inr (.inr (.inr (.inr (.inr (.inl ⟨HKD.out, HE.out.2.2⟩)))))))))))), n10.R, fun _ => n10, fun h4 => (by rw [HKD.out] at h4; omega), by rw [HKD.out]; rfl⟩⟩
    · rw [if_neg (by omega)] at hmi
      subst hmi
      have e1 : decide (0 ≤ x.m) = true := decide_eq_true c1
      have e2 : decide (x.m < 9) = false := decide_eq_false c2
      clear c1 c2
      go_wp2_with (have _h := K1; refine wpList_loadq rfl 36 (.tmp 2) rfl (w.heap.size) [.int .i64 h.id, .int .i64 h.vw.size, .int .i64 h.obj, .int .i64 h.seq, .slice h.S h.sn.length h.cs', .bool h.vw.on, .bool h.vw.good, .slice h.vw.M h.vw.row.length h.vw.cm, .string (strOf h.vw.par), .int .i64 h.vw.ps, .int .i64 h.vw.ov, .int .i64 h.ow, .int .i64 h.it, .int .i64 h.tg] _ rfl K1 Try.underlying36 rfl (by kernel_rfl) ?_; clear _h K1)
      refine (HMK.out).mono ?_
      rintro e w2 ⟨b, h2⟩
      have H2 := Lib.hid (HD.out.at2 b)
      have HB2 := Lib.hid b
      have ko2 := H2.out.2.2.2
      have hz2 := H2.out.2.1
      clear b q1 q2
      rcases h2 with ⟨hB, rfl⟩ | ⟨hB, k, rfl, hk0, hp⟩ | ⟨hB, q, rfl, hqN, ho⟩
      · have HE := Lib.hid hB
        clear hB
        simp only [errV, Z14]
        go_wp2_with (first | (have _h := ko2; refine wpList_storeq rfl 36 (.tmp 8) (.tmp 144) rfl (w.heap.size + 3) _ [.int .i64 0, .int .i64 0, .int .i64 0, .int .i64 0, .slice none 0 0, .bool false, .bool false, .slice none 0 0, .string ⟨#[]⟩, .int .i64 0, .int .i64 0, .int .i64 0, .int .i64 0, .int .i64 0] rfl rfl ko2 (by simp) (by kernel_rfl) (one14 _ _ _ _ _ _ _ _ _ _ _ _ _ _ _ _ _ _) ?_; clear _h ko2; intro w9 K9 o9 s9; have kr9 : Blk w9 (w.heap.size + 2) 36 #[.int .i64 0, .int .i64 0, .int .i64 0, .int .i64 0, .slice none 0 0, .bool false, .bool false, .slice none 0 0, .string ⟨#[]⟩, .int .i64 0, .int .i64 0, .int .i64 0, .int .i64 0, .int .i64 0] := H2.out.2.2.1.only o9 (by simp); have HO9 := Lib.hid (And.intro o9 s9); clear o9 s9) | (have _h := K9; refine wpList_loadq rfl 36 (.tmp 8) rfl (w.heap.size + 3) [.int .i64 0, .int .i64 0, .int .i64 0, .int .i64 0, .slice none 0 0, .bool false, .bool false, .slice none 0 0, .string ⟨#[]⟩, .int .i64 0, .int .i64 0, .int .i64 0, .int .i64 0, .int .i64 0] _ rfl K9 Try.underlying36 rfl (by kernel_rfl) ?_; clear _h K9) | (have _h := kr9; refine wpList_storeq rfl 36 (.tmp 4) (.tmp 168) rfl (w.heap.size + 2) _ [.int .i64 0, .int .i64 0, .int .i64 0, .int .i64 0, .slice none 0 0, .bool false, .bool false, .slice none 0 0, .string ⟨#[]⟩, .int .i64 0, .int .i64 0, .int .i64 0, .int .i64 0, .int .i64 0] rfl rfl kr9 (by simp) (by kernel_rfl) (one14 _ _ _ _ _ _ _ _ _ _ _ _ _ _ _ _ _ _) ?_; clear _h kr9; intro w10 K10 o10 s10))
        refine bodyPost_ret (results_three rfl _ _ (w.heap.size + 2) 36 _ (0, 0) _ _ _ rfl rfl rfl K10 Try.underlying36 rfl (by kernel_rfl)) rfl ?_
        have hb8 : Below w.heap.size w2 w9 := HO9.out.1.below (B := w.heap.size) (fun z hz => by simp at hz; omega) H2.out.1.size
        have hz9 : w.heap.size ≤ w9.heap.size := Nat.le_trans H2.out.1.size hb8.size
        have hb9 : Below w.heap.size w w10 := H2.out.1.trans (hb8.trans (o10.below (B := w.heap.size) (fun z hz => by simp at hz; omega) hz9))
        exact ⟨hb9, .inl ⟨1, rfl, .inl ⟨HE.out, rfl⟩⟩⟩
      · obtain ⟨k, rfl⟩ : ∃ k', k = k' + 1 := ⟨k - 1, by omega⟩
        have HE := Lib.hid (And.intro hB hp)
        clear hB hp hk0
        simp only [errV, Z14]
        go_wp2_with (first | (have _h := ko2; refine wpList_storeq rfl 36 (.tmp 8) (.tmp 144) rfl (w.heap.size + 3) _ [.int .i64 0, .int .i64 0, .int .i64 0, .int .i64 0, .slice none 0 0, .bool false, .bool false, .slice none 0 0, .string ⟨#[]⟩, .int .i64 0, .int .i64 0, .int .i64 0, .int .i64 0, .int .i64 0] rfl rfl ko2 (by simp) (by kernel_rfl) (one14 _ _ _ _ _ _ _ _ _ _ _ _ _ _ _ _ _ _) ?_; clear _h ko2; intro w9 K9 o9 s9; have kr9 : Blk w9 (w.heap.size + 2) 36 #[.int .i64 0, .int .i64 0, .int .i64 0, .int .i64 0, .slice none 0 0, .bool false, .bool false, .slice none 0 0, .string ⟨#[]⟩, .int .i64 0, .int .i64 0, .int .i64 0, .int .i64 0, .int .i64 0] := H2.out.2.2.1.only o9 (by simp); have HO9 := Lib.hid (And.intro o9 s9); clear o9 s9) | (have _h := K9; refine wpList_loadq rfl 36 (.tmp 8) rfl (w.heap.size + 3) [.int .i64 0, .int .i64 0, .int .i64 0, .int .i64 0, .slice none 0 0, .bool false, .bool false, .slice none 0 0, .string ⟨#[]⟩, .int .i64 0, .int .i64 0, .int .i64 0, .int .i64 0, .int .i64 0] _ rfl K9 Try.underlying36 rfl (by kernel_rfl) ?_; clear _h K9) | (have _h := kr9; refine wpList_storeq rfl 36 (.tmp 4) (.tmp 168) rfl (w.heap.size + 2) _ [.int .i64 0, .int .i64 0, .int .i64 0, .int .i64 0, .slice none 0 0, .bool false, .bool false, .slice none 0 0, .string ⟨#[]⟩, .int .i64 0, .int .i64 0, .int .i64 0, .int .i64 0, .int .i64 0] rfl rfl kr9 (by simp) (by kernel_rfl) (one14 _ _ _ _ _ _ _ _ _ _ _ _ _ _ _ _ _ _) ?_; clear _h kr9; intro w10 K10 o10 s10))
        refine bodyPost_ret (results_three rfl _ _ (w.heap.size + 2) 36 _ (0, 0) _ _ _ rfl rfl rfl K10 Try.underlying36 rfl (by kernel_rfl)) rfl ?_
        have hb8 : Below w.heap.size w2 w9 := HO9.out.1.below (B := w.heap.size) (fun z hz => by simp at hz; omega) H2.out.1.size
        have hz9 : w.heap.size ≤ w9.heap.size := Nat.le_trans H2.out.1.size hb8.size
        have hb9 : Below w.heap.size w w10 := H2.out.1.trans (hb8.trans (o10.below (B := w.heap.size) (fun z hz => by simp at hz; omega) hz9))
        exact ⟨hb9, .inl ⟨k, rfl, .inr ⟨HE.out.1, .inr (.inr (.inr (.inr (.inr (.inr (.inr (.inr (.inr (.inr (.inr (.inr (.inl ⟨HKD.out, HE.out.2⟩))))))))))))⟩⟩⟩
      · have HE := Lib.hid (And.intro hB (And.intro hqN ho))
        clear hB hqN ho
        try unfold HA.cs at *
        go_wp2_with (first | (have _h := ko2; refine wpList_storeq rfl 36 (.tmp 8) (.tmp 144) rfl (w.heap.size + 3) _ [.int .i64 q.id, .int .i64 q.vw.size, .int .i64 q.obj, .int .i64 q.seq, .slice q.S q.sn.length q.cs', .bool q.vw.on, .bool q.vw.good, .slice q.vw.M q.vw.row.length q.vw.cm, .string (strOf q.vw.par), .int .i64 q.vw.ps, .int .i64 q.vw.ov, .int .i64 q.ow, .int .i64 q.it, .int .i64 q.tg] rfl rfl ko2 (by simp) (by kernel_rfl) (one14 _ _ _ _ _ _ _ _ _ _ _ _ _ _ _ _ _ _) ?_; clear _h ko2; intro w9 K9 o9 s9; have kr9 : Blk w9 (w.heap.size + 2) 36 #[.int .i64 0, .int .i64 0, .int .i64 0, .int .i64 0, .slice none 0 0, .bool false, .bool false, .slice none 0 0, .string ⟨#[]⟩, .int .i64 0, .int .i64 0, .int .i64 0, .int .i64 0, .int .i64 0] := H2.out.2.2.1.only o9 (by simp); have HO9 := Lib.hid (And.intro o9 s9); clear o9 s9) | (have _h := K9; refine wpList_loadq rfl 36 (.tmp 8) rfl (w.heap.size + 3) [.int .i64 q.id, .int .i64 q.vw.size, .int .i64 q.obj, .int .i64 q.seq, .slice q.S q.sn.length q.cs', .bool q.vw.on, .bool q.vw.good, .slice q.vw.M q.vw.row.length q.vw.cm, .string (strOf q.vw.par), .int .i64 q.vw.ps, .int .i64 q.vw.ov, .int .i64 q.ow, .int .i64 q.it, .int .i64 q.tg] _ rfl K9 Try.underlying36 rfl (by kernel_rfl) ?_; clear _h K9) | (have _h := kr9; refine wpList_storeq rfl 36 (.tmp 4) (.tmp 168) rfl (w.heap.size + 2) _ [.int .i64 q.id, .int .i64 q.vw.size, .int .i64 q.obj, .int .i64 q.seq, .slice q.S q.sn.length q.cs', .bool q.vw.on, .bool q.vw.good, .slice q.vw.M q.vw.row.length q.vw.cm, .string (strOf q.vw.par), .int .i64 q.vw.ps, .int .i64 q.vw.ov, .int .i64 q.ow, .int .i64 q.it, .int .i64 q.tg] rfl rfl kr9 (by simp) (by kernel_rfl) (one14 _ _ _ _ _ _ _ _ _ _ _ _ _ _ _ _ _ _) ?_; clear _h kr9; intro w10 K10 o10 s10))
        refine bodyPost_ret (results_three rfl _ _ (w.heap.size + 2) 36 _ (0, 0) _ _ _ rfl rfl rfl K10 Try.underlying36 rfl (by kernel_rfl)) rfl ?_
        have hb8 : Below w.heap.size w2 w9 := HO9.out.1.below (B := w.heap.size) (fun z hz => by simp at hz; omega) H2.out.1.size
        have hz9 : w.heap.size ≤ w9.heap.size := Nat.le_trans H2.out.1.size hb8.size
        have hb9 : Below w.heap.size w w10 := H2.out.1.trans (hb8.trans (o10.below (B := w.heap.size) (fun z hz => by simp at hz; omega) hz9))
        have n9 := HE.out.2.1.stay H2.out.2.2.2 HO9.out.1
        have n10 := (n9.stay (H2.out.2.2.1.only HO9.out.1 (by simp)) o10).weaken (base' := w.heap.size) (by have := HD.out.z; omega)
        exact ⟨hb9, .inr ⟨q, 0, rfl, HE.out.1, .inr (.inr (.inr (.inr (.inr (.inr (.inr (.inr (.inr (.inr (.inr (.inr (.inl ⟨HKD.out, HE.out.2.2⟩)))))))))))), n10.R, fun _ => n10, fun h4 => (by rw [HKD.out] at h4; omega), by rw [HKD.out]; rfl⟩⟩
  · rw [if_neg (by omega)] at hmi
    subst hmi
    have e1 : decide (0 ≤ x.m) = false := decide_eq_false c1
    clear c1
    go_wp2_with (have _h := K1; refine wpList_loadq rfl 36 (.tmp 2) rfl (w.heap.size) [.int .i64 h.id, .int .i64 h.vw.size, .int .i64 h.obj, .int .i64 h.seq, .slice h.S h.sn.length h.cs', .bool h.vw.on, .bool h.vw.good, .slice h.vw.M h.vw.row.length h.vw.cm, .string (strOf h.vw.par), .int .i64 h.vw.ps, .int .i64 h.vw.ov, .int .i64 h.ow, .int .i64 h.it, .int .i64 h.tg] _ rfl K1 Try.underlying36 rfl (by kernel_rfl) ?_; clear _h K1)
    refine (HMK.out).mono ?_
    rintro e w2 ⟨b, h2⟩
    have H2 := Lib.hid (HD.out.at2 b)
    have HB2 := Lib.hid b
    have ko2 := H2.out.2.2.2
    have hz2 := H2.out.2.1
    clear b q1 q2
    rcases h2 with ⟨hB, rfl⟩ | ⟨hB, k, rfl, hk0, hp⟩ | ⟨hB, q, rfl, hqN, ho⟩
    · have HE := Lib.hid hB
      clear hB
      simp only [errV, Z14]
      go_wp2_with (first | (have _h := ko2; refine wpList_storeq rfl 36 (.tmp 8) (.tmp 144) rfl (w.heap.size + 3) _ [.int .i64 0, .int .i64 0, .int .i64 0, .int .i64 0, .slice none 0 0, .bool false, .bool false, .slice none 0 0, .string ⟨#[]⟩, .int .i64 0, .int .i64 0, .int .i64 0, .int .i64 0, .int .i64 0] rfl rfl ko2 (by simp) (by kernel_rfl) (one14 _ _ _ _ _ _ _ _ _ _ _ _ _ _ _ _ _ _) ?_; clear _h ko2; intro w9 K9 o9 s9; have kr9 : Blk w9 (w.heap.size + 2) 36 #[.int .i64 0, .int .i64 0, .int .i64 0, .int .i64 0, .slice none 0 0, .bool false, .bool false, .slice none 0 0, .string ⟨#[]⟩, .int .i64 0, .int .i64 0, .int .i64 0, .int .i64 0, .int .i64 0] := H2.out.2.2.1.only o9 (by simp); have HO9 := Lib.hid (And.intro o9 s9); clear o9 s9) | (have _h := K9; refine wpList_loadq rfl 36 (.tmp 8) rfl (w.heap.size + 3) [.int .i64 0, .int .i64 0, .int .i64 0, .int .i64 0, .slice none 0 0, .bool false, .bool false, .slice none 0 0, .string ⟨#[]⟩, .int .i64 0, .int .i64 0, .int .i64 0, .int .i64 0, .int .i64 0] _ rfl K9 Try.underlying36 rfl (by kernel_rfl) ?_; clear _h K9) | (have _h := kr9; refine wpList_storeq rfl 36 (.tmp 4) (.tmp 168) rfl (w.heap.size + 2) _ [.int .i64 0, .int .i64 0, .int .i64 0, .int .i64 0, .slice none 0 0, .bool false, .bool false, .slice none 0 0, .string ⟨#[]⟩, .int .i64 0, .int .i64 0, .int .i64 0, .int .i64 0, .int .i64 0] rfl rfl kr9 (by simp) (by kernel_rfl) (one14 _ _ _ _ _ _ _ _ _ _ _ _ _ _ _ _ _ _) ?_; clear _h kr9; intro w10 K10 o10 s10))
      refine bodyPost_ret (results_three rfl _ _ (w.heap.size + 2) 36 _ (0, 0) _ _ _ rfl rfl rfl K10 Try.underlying36 rfl (by kernel_rfl)) rfl ?_
      have hb8 : Below w.heap.size w2 w9 := HO9.out.1.below (B := w.heap.size) (fun z hz => by simp at hz; omega) H2.out.1.size
      have hz9 : w.heap.size ≤ w9.heap.size := Nat.le_trans H2.out.1.size hb8.size
      have hb9 : Below w.heap.size w w10 := H2.out.1.trans (hb8.trans (o10.below (B := w.heap.size) (fun z hz => by simp at hz; omega) hz9))
      exact ⟨hb9, .inl ⟨1, rfl, .inl ⟨HE.out, rfl⟩⟩⟩
    · obtain ⟨k, rfl⟩ : ∃ k', k = k' + 1 := ⟨k - 1, by omega⟩
      have HE := Lib.hid (And.intro hB hp)
      clear hB hp hk0
      simp only [errV, Z14]
      go_wp2_with (first | (have _h := ko2; refine wpList_storeq rfl 36 (.tmp 8) (.tmp 144) rfl (w.heap.size + 3) _ [.int .i64 0, .int .i64 0, .int .i64 0, .int .i64 0, .slice none 0 0, .bool false, .bool false, .slice none 0 0, .string ⟨#[]⟩, .int .i64 0, .int .i64 0, .int .i64 0, .int .i64 0, .int .i64 0] rfl rfl ko2 (by simp) (by kernel_rfl) (one14 _ _ _ _ _ _ _ _ _ _ _ _ _ _ _ _ _ _) ?_; clear _h ko2; intro w9 K9 o9 s9; have kr9 : Blk w9 (w.heap.size + 2) 36 #[.int .i64 0, .int .i64 0, .int .i64 0, .int .i64 0, .slice none 0 0, .bool false, .bool false, .slice none 0 0, .string ⟨#[]⟩, .int .i64 0, .int .i64 0, .int .i64 0, .int .i64 0, .int .i64 0] := H2.out.2.2.1.only o9 (by simp); have HO9 := Lib.hid (And.intro o9 s9); clear o9 s9) | (have _h := K9; refine wpList_loadq rfl 36 (.tmp 8) rfl (w.heap.size + 3) [.int .i64 0, .int .i64 0, .int .i64 0, .int .i64 0, .slice none 0 0, .bool false, .bool false, .slice none 0 0, .string ⟨#[]⟩, .int .i64 0, .int .i64 0, .int .i64 0, .int .i64 0, .int .i64 0] _ rfl K9 Try.underlying36 rfl (by kernel_rfl) ?_; clear _h K9) | (have _h := kr9; refine wpList_storeq rfl 36 (.tmp 4) (.tmp 168) rfl (w.heap.size + 2) _ [.int .i64 0, .int .i64 0, .int .i64 0, .int .i64 0, .slice none 0 0, .bool false, .bool false, .slice none 0 0, .string ⟨#[]⟩, .int .i64 0, .int .i64 0, .int .i64 0, .int .i64 0, .int .i64 0] rfl rfl kr9 (by simp) (by kernel_rfl) (one14 _ _ _ _ _ _ _ _ _ _ _ _ _ _ _ _ _ _) ?_; clear _h kr9; intro w10 K10 o10 s10))
      refine bodyPost_ret (results_three rfl _ _ (w.heap.size + 2) 36 _ (0, 0) _ _ _ rfl rfl rfl K10 Try.underlying36 rfl (by kernel_rfl)) rfl ?_
      have hb8 : Below w.heap.size w2 w9 := HO9.out.1.below (B := w.heap.size) (fun z hz => by simp at hz; omega) H2.out.1.size
      have hz9 : w.heap.size ≤ w9.heap.size := Nat.le_trans H2.out.1.size hb8.size
      have hb9 : Below w.heap.size w w10 := H2.out.1.trans (hb8.trans (o10.below (B := w.heap.size) (fun z hz => by simp at hz; omega) hz9))
      exact ⟨hb9, .inl ⟨k, rfl, .inr ⟨HE.out.1, .inr (.inr (.inr (.inr (.inr (.inr (.inr (.inr (.inr (.inr (.inr (.inr (.inl ⟨HKD.out, HE.out.2⟩))))))))))))⟩⟩⟩
    · have HE := Lib.hid (And.intro hB (And.intro hqN ho))
      clear hB hqN ho
      try unfold HA.cs at *
      go_wp2_with (first | (have _h := ko2; refine wpList_storeq rfl 36 (.tmp 8) (.tmp 144) rfl (w.heap.size + 3) _ [.int .i64 q.id, .int .i64 q.vw.size, .int .i64 q.obj, .int .i64 q.seq, .slice q.S q.sn.length q.cs', .bool q.vw.on, .bool q.vw.good, .slice q.vw.M q.vw.row.length q.vw.cm, .string (strOf q.vw.par), .int .i64 q.vw.ps, .int .i64 q.vw.ov, .int .i64 q.ow, .int .i64 q.it, .int .i64 q.tg] rfl rfl ko2 (by simp) (by kernel_rfl) (one14 _ _ _ _ _ _ _ _ _ _ _ _ _ _ _ _ _ _) ?_; clear _h ko2; intro w9 K9 o9 s9; have kr9 : Blk w9 (w.heap.size + 2) 36 #[.int .i64 0, .int .i64 0, .int .i64 0, .int .i64 0, .slice none 0 0, .bool false, .bool false, .slice none 0 0, .string ⟨#[]⟩, .int .i64 0, .int .i64 0, .int .i64 0, .int .i64 0, .int .i64 0] := H2.out.2.2.1.only o9 (by simp); have HO9 := Lib.hid (And.intro o9 s9); clear o9 s9) | (have _h := K9; refine wpList_loadq rfl 36 (.tmp 8) rfl (w.heap.size + 3) [.int .i64 q.id, .int .i64 q.vw.size, .int .i64 q.obj, .int .i64 q.seq, .slice q.S q.sn.length q.cs', .bool q.vw.on, .bool q.vw.good, .slice q.vw.M q.vw.row.length q.vw.cm, .string (strOf q.vw.par), .int .i64 q.vw.ps, .int .i64 q.vw.ov, .int .i64 q.ow, .int .i64 q.it, .int .i64 q.tg] _ rfl K9 Try.underlying36 rfl (by kernel_rfl) ?_; clear _h K9) | (have _h := kr9; refine wpList_storeq rfl 36 (.tmp 4) (.tmp 168) rfl (w.heap.size + 2) _ [.int .i64 q.id, .int .i64 q.vw.size, .int .i64 q.obj, .int .i64 q.seq, .slice q.S q.sn.length q.cs', .bool q.vw.on, .bool q.vw.good, .slice q.vw.M q.vw.row.length q.vw.cm, .string (strOf q.vw.par), .int .i64 q.vw.ps, .int .i64 q.vw.ov, .int .i64 q.ow, .int .i64 q.it, .int .i64 q.tg] rfl rfl kr9 (by simp) (by kernel_rfl) (one14 _ _ _ _ _ _ _ _ _ _ _ _ _ _ _ _ _ _) ?_; clear _h kr9; intro w10 K10 o10 s10))
      refine bodyPost_ret (results_three rfl _ _ (w.heap.size + 2) 36 _ (0, 0) _ _ _ rfl rfl rfl K10 Try.underlying36 rfl (by kernel_rfl)) rfl ?_
      have hb8 : Below w.heap.size w2 w9 := HO9.out.1.below (B := w.heap.size) (fun z hz => by simp at hz; omega) H2.out.1.size
      have hz9 : w.heap.size ≤ w9.heap.size := Nat.le_trans H2.out.1.size hb8.size
      have hb9 : Below w.heap.size w w10 := H2.out.1.trans (hb8.trans (o10.below (B := w.heap.size) (fun z hz => by simp at hz; omega) hz9))
      have n9 := HE.out.2.1.stay H2.out.2.2.2 HO9.out.1
      have n10 := (n9.stay (H2.out.2.2.1.only HO9.out.1 (by simp)) o10).weaken (base' := w.heap.size) (by have := HD.out.z; omega)
      exact ⟨hb9, .inr ⟨q, 0, rfl, HE.out.1, .inr (.inr (.inr (.inr (.inr (.inr (.inr (.inr (.inr (.inr (.inr (.inr (.inl ⟨HKD.out, HE.out.2.2⟩)))))))))))), n10.R, fun _ => n10, fun h4 => (by rw [HKD.out] at h4; omega), by rw [HKD.out]; rfl⟩⟩
set_option maxHeartbeats 16000000 in
theorem do14_any (h : HA) (x : CA) (w : World) (hR : h.R SA.cells w) (hS : h.Sm) (hx : x.R w) (hxs : x.Sm) (hk : x.kind = 14) : Calls Try.prog 29 #[.agg h.cs, .agg x.cells.toArray] w (DoTo w h x) := by
  obtain ⟨W1, hW1⟩ : ∃ W, W = (((w.alloc (.cells #[.int .i64 h.id, .int .i64 h.vw.size, .int .i64 h.obj, .int .i64 h.seq, .slice h.S h.sn.length h.cs', .bool h.vw.on, .bool h.vw.good, .slice h.vw.M h.vw.row.length h.vw.cm, .string (strOf h.vw.par), .int .i64 h.vw.ps, .int .i64 h.vw.ov, .int .i64 h.ow, .int .i64 h.it, .int .i64 h.tg] 36)).alloc (.cells #[.int .i64 x.kind, .int .i64 x.n, .int .i64 x.m, .string (strOf x.name), .string (strOf x.child), .slice x.A x.row.length x.cm, .bool x.on, .bool x.good] 59)).alloc (.cells #[.int .i64 0, .int .i64 0, .int .i64 0, .int .i64 0, .slice none 0 0, .bool false, .bool false, .slice none 0 0, .string ⟨#[]⟩, .int .i64 0, .int .i64 0, .int .i64 0, .int .i64 0, .int .i64 0] 36)).alloc (.cells #[.int .i64 0, .int .i64 0, .int .i64 0, .int .i64 0, .slice none 0 0, .bool false, .bool false, .slice none 0 0, .string ⟨#[]⟩, .int .i64 0, .int .i64 0, .int .i64 0, .int .i64 0, .int .i64 0] 36) := ⟨_, rfl⟩
  have hd : Do0 w h x W1 := by rw [hW1]; exact do0 w h x
  have HD := Lib.hid hd
  have HR := Lib.hid (hR.since hd.b)
  have HS := Lib.hid hS
  have HX := Lib.hid (And.intro (hx.since hd.b) hxs)
  have HKD := Lib.hid hk
  have HW1 := Lib.hid hW1
  have hz := head_zero
  have K1 := hd.kh
  have q0 : W1.cell? ⟨w.heap.size + 1, 0, none⟩ = some (.int .i64 14) := by have h := hd.kx.cell 0; rw [h]; show some (Value.int .i64 x.kind) = _; rw [hk]
  have q1 : W1.cell? ⟨w.heap.size + 1, 1, none⟩ = some (.int .i64 x.n) := hd.kx.cell 1
  have q5 : W1.cell? ⟨w.heap.size + 1, 5, none⟩ = some (.slice x.A x.row.length x.cm) := hd.kx.cell 5
  clear hR hS hx hxs hd hW1 hk
  unfold HA.cs CA.cells at *
  go_enter Try.func29, Try.ntmps29
  go_upto_region 4 with (fail)
  rw [← HW1.out]
  clear HW1
  go_wp2_with (have _h := K1; refine wpList_loadq rfl 36 (.tmp 2) rfl (w.heap.size) [.int .i64 h.id, .int .i64 h.vw.size, .int .i64 h.obj, .int .i64 h.seq, .slice h.S h.sn.length h.cs', .bool h.vw.on, .bool h.vw.good, .slice h.vw.M h.vw.row.length h.vw.cm, .string (strOf h.vw.par), .int .i64 h.vw.ps, .int .i64 h.vw.ov, .int .i64 h.ow, .int .i64 h.it, .int .i64 h.tg] _ rfl K1 Try.underlying36 rfl (by kernel_rfl) ?_; clear _h K1)
  refine (rebuilt_any h W1 x.n HX.out.1.n x.A x.cm x.row (by have := HX.out.2.row; omega) HX.out.1.row HR.out HS.out).mono ?_
  rintro e w2 ⟨b, h2⟩
  have H2 := Lib.hid (HD.out.at2 b)
  have HB2 := Lib.hid b
  have ko2 := H2.out.2.2.2
  have hz2 := H2.out.2.1
  clear b q1 q5
  rcases h2 with ⟨hB, rfl⟩ | ⟨hB, k, rfl, hk0, hp⟩ | ⟨hB, q, rfl, hqN, ho⟩
  · have HE := Lib.hid hB
    clear hB
    simp only [errV, Z14]
    go_wp2_with (first | (have _h := ko2; refine wpList_storeq rfl 36 (.tmp 8) (.tmp 155) rfl (w.heap.size + 3) _ [.int .i64 0, .int .i64 0, .int .i64 0, .int .i64 0, .slice none 0 0, .bool false, .bool false, .slice none 0 0, .string ⟨#[]⟩, .int .i64 0, .int .i64 0, .int .i64 0, .int .i64 0, .int .i64 0] rfl rfl ko2 (by simp) (by kernel_rfl) (one14 _ _ _ _ _ _ _ _ _ _ _ _ _ _ _ _ _ _) ?_; clear _h ko2; intro w9 K9 o9 s9; have kr9 : Blk w9 (w.heap.size + 2) 36 #[.int .i64 0, .int .i64 0, .int .i64 0, .int .i64 0, .slice none 0 0, .bool false, .bool false, .slice none 0 0, .string ⟨#[]⟩, .int .i64 0, .int .i64 0, .int .i64 0, .int .i64 0, .int .i64 0] := H2.out.2.2.1.only o9 (by simp); have HO9 := Lib.hid (And.intro o9 s9); clear o9 s9) | (have _h := K9; refine wpList_loadq rfl 36 (.tmp 8) rfl (w.heap.size + 3) [.int .i64 0, .int .i64 0, .int .i64 0, .int .i64 0, .slice none 0 0, .bool false, .bool false, .slice none 0 0, .string ⟨#[]⟩, .int .i64 0, .int .i64 0, .int .i64 0, .int .i64 0, .int .i64 0] _ rfl K9 Try.underlying36 rfl (by kernel_rfl) ?_; clear _h K9) | (have _h := kr9; refine wpList_storeq rfl 36 (.tmp 4) (.tmp 168) rfl (w.heap.size + 2) _ [.int .i64 0, .int .i64 0, .int .i64 0, .int .i64 0, .slice none 0 0, .bool false, .bool false, .slice none 0 0, .string ⟨#[]⟩, .int .i64 0, .int .i64 0, .int .i64 0, .int .i64 0, .int .i64 0] rfl rfl kr9 (by simp) (by kernel_rfl) (one14 _ _ _ _ _ _ _ _ _ _ _ _ _ _ _ _ _ _) ?_; clear _h kr9; intro w10 K10 o10 s10))
    refine bodyPost_ret (results_three rfl _ _ (w.heap.size + 2) 36 _ (0, 0) _ _ _ rfl rfl rfl K10 Try.underlying36 rfl (by kernel_rfl)) rfl ?_
    have hb8 : Below w.heap.size w2 w9 := HO9.out.1.below (B := w.heap.size) (fun z hz => by simp at hz; omega) H2.out.1.size
    have hz9 : w.heap.size ≤ w9.heap.size := Nat.le_trans H2.out.1.size hb8.size
    have hb9 : Below w.heap.size w w10 := H2.out.1.trans (hb8.trans (o10.below (B := w.heap.size) (fun z hz => by simp at hz; omega) hz9))
    exact ⟨hb9, .inl ⟨1, rfl, .inl ⟨HE.out, rfl⟩⟩⟩
  · obtain ⟨k, rfl⟩ : ∃ k', k = k' + 1 := ⟨k - 1, by omega⟩
    have HE := Lib.hid (And.intro hB hp)
    clear hB hp hk0
    simp only [errV, Z14]
    go_wp2_with (first | (have _h := ko2; refine wpList_storeq rfl 36 (.tmp 8) (.tmp 155) rfl (w.heap.size + 3) _ [.int .i64 0, .int .i64 0, .int .i64 0, .int .i64 0, .slice none 0 0, .bool false, .bool false, .slice none 0 0, .string ⟨#[]⟩, .int .i64 0, .int .i64 0, .int .i64 0, .int .i64 0, .int .i64 0] rfl rfl ko2 (by simp) (by kernel_rfl) (one14 _ _ _ _ _ _ _ _ _ _ _ _ _ _ _ _ _ _) ?_; clear _h ko2; intro w9 K9 o9 s9; have kr9 : Blk w9 (w.heap.size + 2) 36 #[.int .i64 0, .int .i64 0, .int .i64 0, .int .i64 0, .slice none 0 0, .bool false, .bool false, .slice none 0 0, .string ⟨#[]⟩, .int .i64 0, .int .i64 0, .int .i64 0, .int .i64 0, .int .i64 0] := H2.out.2.2.1.only o9 (by simp); have HO9 := Lib.hid (And.intro o9 s9); clear o9 s9) | (have _h := K9; refine wpList_loadq rfl 36 (.tmp 8) rfl (w.heap.size + 3) [.int .i64 0, .int .i64 0, .int .i64 0, .int .i64 0, .slice none 0 0, .bool false, .bool false, .slice none 0 0, .string ⟨#[]⟩, .int .i64 0, .int .i64 0, .int .i64 0, .int .i64 0, .int .i64 0] _ rfl K9 Try.underlying36 rfl (by kernel_rfl) ?_; clear _h K9) | (have _h := kr9; refine wpList_storeq rfl 36 (.tmp 4) (.tmp 168) rfl (w.heap.size + 2) _ [.int .i64 0, .int .i64 0, .int .i64 0, .int .i64 0, .slice none 0 0, .bool false, .bool false, .slice none 0 0, .string ⟨#[]⟩, .int .i64 0, .int .i64 0, .int .i64 0, .int .i64 0, .int .i64 0] rfl rfl kr9 (by simp) (by kernel_rfl) (one14 _ _ _ _ _ _ _ _ _ _ _ _ _ _ _ _ _ _) ?_; clear _h kr9; intro w10 K10 o10 s10))
    refine bodyPost_ret (results_three rfl _ _ (w.heap.size + 2) 36 _ (0, 0) _ _ _ rfl rfl rfl K10 Try.underlying36 rfl (by kernel_rfl)) rfl ?_
    have hb8 : Below w.heap.size w2 w9 := HO9.out.1.below (B := w.heap.size) (fun z hz => by simp at hz; omega) H2.out.1.size
    have hz9 : w.heap.size ≤ w9.heap.size := Nat.le_trans H2.out.1.size hb8.size
    have hb9 : Below w.heap.size w w10 := H2.out.1.trans (hb8.trans (o10.below (B := w.heap.size) (fun z hz => by simp at hz; omega) hz9))
    exact ⟨hb9, .inl ⟨k, rfl, .inr ⟨HE.out.1, .inr (.inr (.inr (.inr (.inr (.inr (.inr (.inr (.inr (.inr (.inr (.inr (.inr (.inl ⟨HKD.out, HE.out.2⟩)))))))))))))⟩⟩⟩
  · have HE := Lib.hid (And.intro hB (And.intro hqN ho))
    clear hB hqN ho
    try unfold HA.cs at *
    go_wp2_with (first | (have _h := ko2; refine wpList_storeq rfl 36 (.tmp 8) (.tmp 155) rfl (w.heap.size + 3) _ [.int .i64 q.id, .int .i64 q.vw.size, .int .i64 q.obj, .int .i64 q.seq, .slice q.S q.sn.length q.cs', .bool q.vw.on, .bool q.vw.good, .slice q.vw.M q.vw.row.length q.vw.cm, .string (strOf q.vw.par), .int .i64 q.vw.ps, .int .i64 q.vw.ov, .int .i64 q.ow, .int .i64 q.it, .int .i64 q.tg] rfl rfl ko2 (by simp) (by kernel_rfl) (one14 _ _ _ _ _ _ _ _ _ _ _ _ _ _ _ _ _ _) ?_; clear _h ko2; intro w9 K9 o9 s9; have kr9 : Blk w9 (w.heap.size + 2) 36 #[.int .i64 0, .int .i64 0, .int .i64 0, .int .i64 0, .slice none 0 0, .bool false, .bool false, .slice none 0 0, .string ⟨#[]⟩, .int .i64 0, .int .i64 0, .int .i64 0, .int .i64 0, .int .i64 0] := H2.out.2.2.1.only o9 (by simp); have HO9 := Lib.hid (And.intro o9 s9); clear o9 s9) | (have _h := K9; refine wpList_loadq rfl 36 (.tmp 8) rfl (w.heap.size + 3) [.int .i64 q.id, .int .i64 q.vw.size, .int .i64 q.obj, .int .i64 q.seq, .slice q.S q.sn.length q.cs', .bool q.vw.on, .bool q.vw.good, .slice q.vw.M q.vw.row.length q.vw.cm, .string (strOf q.vw.par), .int .i64 q.vw.ps, .int .i64 q.vw.ov, .int .i64 q.ow, .int .i64 q.it, .int .i64 q.tg] _ rfl K9 Try.underlying36 rfl (by kernel_rfl) ?_; clear _h K9) | (have _h := kr9; refine wpList_storeq rfl 36 (.tmp 4) (.tmp 168) rfl (w.heap.size + 2) _ [.int .i64 q.id, .int .i64 q.vw.size, .int .i64 q.obj, .int .i64 q.seq, .slice q.S q.sn.length q.cs', .bool q.vw.on, .bool q.vw.good, .slice q.vw.M q.vw.row.length q.vw.cm, .string (strOf q.vw.par), .int .i64 q.vw.ps, .int .i64 q.vw.ov, .int .i64 q.ow, .int .i64 q.it, .int .i64 q.tg] rfl rfl kr9 (by simp) (by kernel_rfl) (one14 _ _ _ _ _ _ _ _ _ _ _ _ _ _ _ _ _ _) ?_; clear _h kr9; intro w10 K10 o10 s10))
    refine bodyPost_ret (results_three rfl _ _ (w.heap.size + 2) 36 _ (0, 0) _ _ _ rfl rfl rfl K10 Try.underlying36 rfl (by kernel_rfl)) rfl ?_
    have hb8 : Below w.heap.size w2 w9 := HO9.out.1.below (B := w.heap.size) (fun z hz => by simp at hz; omega) H2.out.1.size
    have hz9 : w.heap.size ≤ w9.heap.size := Nat.le_trans H2.out.1.size hb8.size
    have hb9 : Below w.heap.size w w10 := H2.out.1.trans (hb8.trans (o10.below (B := w.heap.size) (fun z hz => by simp at hz; omega) hz9))
    have n9 := HE.out.2.1.stay H2.out.2.2.2 HO9.out.1
    have n10 := (n9.stay (H2.out.2.2.1.only HO9.out.1 (by simp)) o10).weaken (base' := w.heap.size) (by have := HD.out.z; omega)
    exact ⟨hb9, .inr ⟨q, 0, rfl, HE.out.1, .inr (.inr (.inr (.inr (.inr (.inr (.inr (.inr (.inr (.inr (.inr (.inr (.inr (.inl ⟨HKD.out, HE.out.2.2⟩))))))))))))), n10.R, fun _ => n10, fun h4 => (by rw [HKD.out] at h4; omega), by rw [HKD.out]; rfl⟩⟩
set_option maxHeartbeats 16000000 in
theorem do15_any (h : HA) (x : CA) (w : World) (hR : h.R SA.cells w) (hS : h.Sm) (hx : x.R w) (hxs : x.Sm) (hk : x.kind = 15) : Calls Try.prog 29 #[.agg h.cs, .agg x.cells.toArray] w (DoTo w h x) := by
  obtain ⟨W1, hW1⟩ : ∃ W, W = (((w.alloc (.cells #[.int .i64 h.id, .int .i64 h.vw.size, .int .i64 h.obj, .int .i64 h.seq, .slice h.S h.sn.length h.cs', .bool h.vw.on, .bool h.vw.good, .slice h.vw.M h.vw.row.length h.vw.cm, .string (strOf h.vw.par), .int .i64 h.vw.ps, .int .i64 h.vw.ov, .int .i64 h.ow, .int .i64 h.it, .int .i64 h.tg] 36)).alloc (.cells #[.int .i64 x.kind, .int .i64 x.n, .int .i64 x.m, .string (strOf x.name), .string (strOf x.child), .slice x.A x.row.length x.cm, .bool x.on, .bool x.good] 59)).alloc (.cells #[.int .i64 0, .int .i64 0, .int .i64 0, .int .i64 0, .slice none 0 0, .bool false, .bool false, .slice none 0 0, .string ⟨#[]⟩, .int .i64 0, .int .i64 0, .int .i64 0, .int .i64 0, .int .i64 0] 36)).alloc (.cells #[.int .i64 0, .int .i64 0, .int .i64 0, .int .i64 0, .slice none 0 0, .bool false, .bool false, .slice none 0 0, .string ⟨#[]⟩, .int .i64 0, .int .i64 0, .int .i64 0, .int .i64 0, .int .i64 0] 36) := ⟨_, rfl⟩
  have hd : Do0 w h x W1 := by rw [hW1]; exact do0 w h x
  have HD := Lib.hid hd
  have HR := Lib.hid (hR.since hd.b)
  have HS := Lib.hid hS
  have HX := Lib.hid (And.intro (hx.since hd.b) hxs)
  have HKD := Lib.hid hk
  have HW1 := Lib.hid hW1
  have hz := head_zero
  have K1 := hd.kh
  have q0 : W1.cell? ⟨w.heap.size + 1, 0, none⟩ = some (.int .i64 15) := by have h := hd.kx.cell 0; rw [h]; show some (Value.int .i64 x.kind) = _; rw [hk]
  have q6 : W1.cell? ⟨w.heap.size + 1, 6, none⟩ = some (.bool x.on) := hd.kx.cell 6
  have q7 : W1.cell? ⟨w.heap.size + 1, 7, none⟩ = some (.bool x.good) := hd.kx.cell 7
  clear hR hS hx hxs hd hW1 hk
  unfold HA.cs CA.cells at *
  go_enter Try.func29, Try.ntmps29
  go_upto_region 4 with (fail)
  rw [← HW1.out]
  clear HW1
  go_wp2_with (have _h := K1; refine wpList_loadq rfl 36 (.tmp 2) rfl (w.heap.size) [.int .i64 h.id, .int .i64 h.vw.size, .int .i64 h.obj, .int .i64 h.seq, .slice h.S h.sn.length h.cs', .bool h.vw.on, .bool h.vw.good, .slice h.vw.M h.vw.row.length h.vw.cm, .string (strOf h.vw.par), .int .i64 h.vw.ps, .int .i64 h.vw.ov, .int .i64 h.ow, .int .i64 h.it, .int .i64 h.tg] _ rfl K1 Try.underlying36 rfl (by kernel_rfl) ?_; clear _h K1)
  refine (mapturn_any h W1 x.on x.good HR.out HS.out).mono ?_
  rintro e w2 ⟨b, h2⟩
  have H2 := Lib.hid (HD.out.at2 b)
  have HB2 := Lib.hid b
  have ko2 := H2.out.2.2.2
  have hz2 := H2.out.2.1
  clear b q6 q7
  rcases h2 with ⟨hB, rfl⟩ | ⟨hB, k, rfl, hk0, hp⟩ | ⟨hB, q, rfl, hqN, ho⟩
  · have HE := Lib.hid hB
    clear hB
    simp only [errV, Z14]
    go_wp2_with (first | (have _h := ko2; refine wpList_storeq rfl 36 (.tmp 8) (.tmp 166) rfl (w.heap.size + 3) _ [.int .i64 0, .int .i64 0, .int .i64 0, .int .i64 0, .slice none 0 0, .bool false, .bool false, .slice none 0 0, .string ⟨#[]⟩, .int .i64 0, .int .i64 0, .int .i64 0, .int .i64 0, .int .i64 0] rfl rfl ko2 (by simp) (by kernel_rfl) (one14 _ _ _ _ _ _ _ _ _ _ _ _ _ _ _ _ _ _) ?_; clear _h ko2; intro w9 K9 o9 s9; have kr9 : Blk w9 (w.heap.size + 2) 36 #[.int .i64 0, .int .i64 0, .int .i64 0, .int .i64 0, .slice none 0 0, .bool false, .bool false, .slice none 0 0, .string ⟨#[]⟩, .int .i64 0, .int .i64 0, .int .i64 0, .int .i64 0, .int .i64 0] := H2.out.2.2.1.only o9 (by simp); have HO9 := Lib.hid (And.intro o9 s9); clear o9 s9) | (have _h := K9; refine wpList_loadq rfl 36 (.tmp 8) rfl (w.heap.size + 3) [.int .i64 0, .int .i64 0, .int .i64 0, .int .i64 0, .slice none 0 0, .bool false, .bool false, .slice none 0 0, .string ⟨#[]⟩, .int .i64 0, .int .i64 0, .int .i64 0, .int .i64 0, .int .i64 0] _ rfl K9 Try.underlying36 rfl (by kernel_rfl) ?_; clear _h K9) | (have _h := kr9; refine wpList_storeq rfl 36 (.tmp 4) (.tmp 168) rfl (w.heap.size + 2) _ [.int .i64 0, .int .i64 0, .int .i64 0, .int .i64 0, .slice none 0 0, .bool false, .bool false, .slice none 0 0, .string ⟨#[]⟩, .int .i64 0, .int .i64 0, .int .i64 0, .int .i64 0, .int .i64 0] rfl rfl kr9 (by simp) (by kernel_rfl) (one14 _ _ _ _ _ _ _ _ _ _ _ _ _ _ _ _ _ _) ?_; clear _h kr9; intro w10 K10 o10 s10))
    refine bodyPost_ret (results_three rfl _ _ (w.heap.size + 2) 36 _ (0, 0) _ _ _ rfl rfl rfl K10 Try.underlying36 rfl (by kernel_rfl)) rfl ?_
    have hb8 : Below w.heap.size w2 w9 := HO9.out.1.below (B := w.heap.size) (fun z hz => by simp at hz; omega) H2.out.1.size
    have hz9 : w.heap.size ≤ w9.heap.size := Nat.le_trans H2.out.1.size hb8.size
    have hb9 : Below w.heap.size w w10 := H2.out.1.trans (hb8.trans (o10.below (B := w.heap.size) (fun z hz => by simp at hz; omega) hz9))
    exact ⟨hb9, .inl ⟨1, rfl, .inl ⟨HE.out, rfl⟩⟩⟩
  · obtain ⟨k, rfl⟩ : ∃ k', k = k' + 1 := ⟨k - 1, by omega⟩
    have HE := Lib.hid (And.intro hB hp)
    clear hB hp hk0
    simp only [errV, Z14]
    go_wp2_with (first | (have _h := ko2; refine wpList_storeq rfl 36 (.tmp 8) (.tmp 166) rfl (w.heap.size + 3) _ [.int .i64 0, .int .i64 0, .int .i64 0, .int .i64 0, .slice none 0 0, .bool false, .bool false, .slice none 0 0, .string ⟨#[]⟩, .int .i64 0, .int .i64 0, .int .i64 0, .int .i64 0, .int .i64 0] rfl rfl ko2 (by simp) (by kernel_rfl) (one14 _ _ _ _ _ _ _ _ _ _ _ _ _ _ _ _ _ _) ?_; clear _h ko2; intro w9 K9 o9 s9; have kr9 : Blk w9 (w.heap.size + 2) 36 #[.int .i64 0, .int .i64 0, .int .i64 0, .int .i64 0, .slice none 0 0, .bool false, .bool false, .slice none 0 0, .string ⟨#[]⟩, .int .i64 0, .int .i64 0, .int .i64 0, .int .i64 0, .int .i64 0] := H2.out.2.2.1.only o9 (by simp); have HO9 := Lib.hid (And.intro o9 s9); clear o9 s9) | (have _h := K9; refine wpList_loadq rfl 36 (.tmp 8) rfl (w.heap.size + 3) [.int .i64 0, .int .i64 0, .int .i64 0, .int .i64 0, .slice none 0 0, .bool false, .bool false, .slice none 0 0, .string ⟨#[]⟩, .int .i64 0, .int .i64 0, .int .i64 0, .int .i64 0, .int .i64 0] _ rfl K9 Try.underlying36 rfl (by kernel_rfl) ?_; clear _h K9) | (have _h := kr9; refine wpList_storeq rfl 36 (.tmp 4) (.tmp 168) rfl (w.heap.size + 2) _ [.int .i64 0, .int .i64 0, .int .i64 0, .int .i64 0, .slice none 0 0, .bool false, .bool false, .slice none 0 0, .string ⟨#[]⟩, .int .i64 0, .int .i64 0, .int .i64 0, .int .i64 0, .int .i64 0] rfl rfl kr9 (by simp) (by kernel_rfl) (one14 _ _ _ _ _ _ _ _ _ _ _ _ _ _ _ _ _ _) ?_; clear _h kr9; intro w10 K10 o10 s10))
    refine bodyPost_ret (results_three rfl _ _ (w.heap.size + 2) 36 _ (0, 0) _ _ _ rfl rfl rfl K10 Try.underlying36 rfl (by kernel_rfl)) rfl ?_
    have hb8 : Below w.heap.size w2 w9 := HO9.out.1.below (B := w.heap.size) (fun z hz => by simp at hz; omega) H2.out.1.size
    have hz9 : w.heap.size ≤ w9.heap.size := Nat.le_trans H2.out.1.size hb8.size
    have hb9 : Below w.heap.size w w10 := H2.out.1.trans (hb8.trans (o10.below (B := w.heap.size) (fun z hz => by simp at hz; omega) hz9))
    exact ⟨hb9, .inl ⟨k, rfl, .inr ⟨HE.out.1, .inr (.inr (.inr (.inr (.inr (.inr (.inr (.inr (.inr (.inr (.inr (.inr (.inr (.inr (⟨HKD.out, HE.out.2⟩))))))))))))))⟩⟩⟩
  · have HE := Lib.hid (And.intro hB (And.intro hqN ho))
    clear hB hqN ho
    try unfold HA.cs at *
    go_wp2_with (first | (have _h := ko2; refine wpList_storeq rfl 36 (.tmp 8) (.tmp 166) rfl (w.heap.size + 3) _ [.int .i64 q.id, .int .i64 q.vw.size, .int .i64 q.obj, .int .i64 q.seq, .slice q.S q.sn.length q.cs', .bool q.vw.on, .bool q.vw.good, .slice q.vw.M q.vw.row.length q.vw.cm, .string (strOf q.vw.par), .int .i64 q.vw.ps, .int .i64 q.vw.ov, .int .i64 q.ow, .int .i64 q.it, .int .i64 q.tg] rfl rfl ko2 (by simp) (by kernel_rfl) (one14 _ _ _ _ _ _ _ _ _ _ _ _ _ _ _ _ _ _) ?_; clear _h ko2; intro w9 K9 o9 s9; have kr9 : Blk w9 (w.heap.size + 2) 36 #[.int .i64 0, .int .i64 0, .int .i64 0, .int .i64 0, .slice none 0 0, .bool false, .bool false, .slice none 0 0, .string ⟨#[]⟩, .int .i64 0, .int .i64 0, .int .i64 0, .int .i64 0, .int .i64 0] := H2.out.2.2.1.only o9 (by simp); have HO9 := Lib.hid (And.intro o9 s9); clear o9 s9) | (have _h := K9; refine wpList_loadq rfl 36 (.tmp 8) rfl (w.heap.size + 3) [.int .i64 q.id, .int .i64 q.vw.size, .int .i64 q.obj, .int .i64 q.seq, .slice q.S q.sn.length q.cs', .bool q.vw.on, .bool q.vw.good, .slice q.vw.M q.vw.row.length q.vw.cm, .string (strOf q.vw.par), .int .i64 q.vw.ps, .int .i64 q.vw.ov, .int .i64 q.ow, .int .i64 q.it, .int .i64 q.tg] _ rfl K9 Try.underlying36 rfl (by kernel_rfl) ?_; clear _h K9) | (have _h := kr9; refine wpList_storeq rfl 36 (.tmp 4) (.tmp 168) rfl (w.heap.size + 2) _ [.int .i64 q.id, .int .i64 q.vw.size, .int .i64 q.obj, .int .i64 q.seq, .slice q.S q.sn.length q.cs', .bool q.vw.on, .bool q.vw.good, .slice q.vw.M q.vw.row.length q.vw.cm, .string (strOf q.vw.par), .int .i64 q.vw.ps, .int .i64 q.vw.ov, .int .i64 q.ow, .int .i64 q.it, .int .i64 q.tg] rfl rfl kr9 (by simp) (by kernel_rfl) (one14 _ _ _ _ _ _ _ _ _ _ _ _ _ _ _ _ _ _) ?_; clear _h kr9; intro w10 K10 o10 s10))
    refine bodyPost_ret (results_three rfl _ _ (w.heap.size + 2) 36 _ (0, 0) _ _ _ rfl rfl rfl K10 Try.underlying36 rfl (by kernel_rfl)) rfl ?_
    have hb8 : Below w.heap.size w2 w9 := HO9.out.1.below (B := w.heap.size) (fun z hz => by simp at hz; omega) H2.out.1.size
    have hz9 : w.heap.size ≤ w9.heap.size := Nat.le_trans H2.out.1.size hb8.size
    have hb9 : Below w.heap.size w w10 := H2.out.1.trans (hb8.trans (o10.below (B := w.heap.size) (fun z hz => by simp at hz; omega) hz9))
    have n9 := HE.out.2.1.stay H2.out.2.2.2 HO9.out.1
    have n10 := (n9.stay (H2.out.2.2.1.only HO9.out.1 (by simp)) o10).weaken (base' := w.heap.size) (by have := HD.out.z; omega)
    exact ⟨hb9, .inr ⟨q, 0, rfl, HE.out.1, .inr (.inr (.inr (.inr (.inr (.inr (.inr (.inr (.inr (.inr (.inr (.inr (.inr (.inr (⟨HKD.out, HE.out.2.2⟩)))))))))))))), n10.R, fun _ => n10, fun h4 => (by rw [HKD.out] at h4; omega), by rw [HKD.out]; rfl⟩⟩
theorem do_any (h : HA) (x : CA) (w : World) (hR : h.R SA.cells w) (hS : h.Sm) (hx : x.R w) (hxs : x.Sm) : Calls Try.prog 29 #[.agg h.cs, .agg x.cells.toArray] w (DoTo w h x) := by
  have h1 := hxs.lo
  have h2 := hxs.hi
  by_cases k1 : x.kind = 1
  · exact do1_any h x w hR hS hx hxs k1
  by_cases k2 : x.kind = 2
  · exact do2_any h x w hR hS hx hxs k2
  by_cases k3 : x.kind = 3
  · exact do3_any h x w hR hS hx hxs k3
  by_cases k4 : x.kind = 4
  · exact do4_any h x w hR hS hx hxs k4
  by_cases k5 : x.kind = 5
  · exact do5_any h x w hR hS hx hxs k5
  by_cases k6 : x.kind = 6
  · exact do6_any h x w hR hS hx hxs k6
  by_cases k7 : x.kind = 7
  · exact do7_any h x w hR hS hx hxs k7
  by_cases k8 : x.kind = 8
  · exact do8_any h x w hR hS hx hxs k8
  by_cases k9 : x.kind = 9
  · exact do9_any h x w hR hS hx hxs k9
  by_cases k10 : x.kind = 10
  · exact do10_any h x w hR hS hx hxs k10
  by_cases k11 : x.kind = 11
  · exact do11_any h x w hR hS hx hxs k11
  by_cases k12 : x.kind = 12
  · exact do12_any h x w hR hS hx hxs k12
  by_cases k13 : x.kind = 13
  · exact do13_any h x w hR hS hx hxs k13
  by_cases k14 : x.kind = 14
  · exact do14_any h x w hR hS hx hxs k14
  exact do15_any h x w hR hS hx hxs (by omega)
end Go.Proofs.Ytiimanoloedbeaa

/-
  How a script of calls that came in is opened. No condition.
-/
namespace Go.Proofs.Ytiimanoloedbeaa
open Go.ChangeShapes Go.WideShapes Go.ChangeAt Go.RowKit Go.Deep
set_option maxRecDepth 100000
set_option linter.unusedSimpArgs false
set_option linter.unusedVariables false
instance : Inhabited CA := ⟨⟨0, 0, 0, [], [], none, [], 0, false, false⟩⟩
theorem CA.cells_len (x : CA) : x.cells.length = 8 := rfl
set_option maxRecDepth 100000 in
set_option maxHeartbeats 4000000 in
theorem ca_of {H : Type} {enc : TypeId × Value → H} {W : World} {n : Nat} {cs : List Value} {y : DataW H × List MemPlace} (h : DataW.trod enc Try.prog W 0 (fun _ => true) true n 59 cs = some y) (hl : cs.length = 8) : ∃ x : CA, cs = x.cells ∧ x.R W := by
  obtain ⟨ys, n', _, _, hlen, hyl, hf⟩ := DataW.trod_struct Try.underlying59 h
  have f0 : DataW.trod enc Try.prog W 0 (fun _ => true) true n' 3 (List.take (Try.prog.cellsOf 3) (List.drop 0 cs)) = ys[0]? := hf 0 _ rfl
  have f1 : DataW.trod enc Try.prog W 0 (fun _ => true) true n' 3 (List.take (Try.prog.cellsOf 3) (List.drop 1 cs)) = ys[1]? := hf 1 _ rfl
  have f2 : DataW.trod enc Try.prog W 0 (fun _ => true) true n' 3 (List.take (Try.prog.cellsOf 3) (List.drop 2 cs)) = ys[2]? := hf 2 _ rfl
  have f3 : DataW.trod enc Try.prog W 0 (fun _ => true) true n' 9 (List.take (Try.prog.cellsOf 9) (List.drop 3 cs)) = ys[3]? := hf 3 _ rfl
  have f4 : DataW.trod enc Try.prog W 0 (fun _ => true) true n' 9 (List.take (Try.prog.cellsOf 9) (List.drop 4 cs)) = ys[4]? := hf 4 _ rfl
  have f5 : DataW.trod enc Try.prog W 0 (fun _ => true) true n' 23 (List.take (Try.prog.cellsOf 23) (List.drop 5 cs)) = ys[5]? := hf 5 _ rfl
  have f6 : DataW.trod enc Try.prog W 0 (fun _ => true) true n' 4 (List.take (Try.prog.cellsOf 4) (List.drop 6 cs)) = ys[6]? := hf 6 _ rfl
  have f7 : DataW.trod enc Try.prog W 0 (fun _ => true) true n' 4 (List.take (Try.prog.cellsOf 4) (List.drop 7 cs)) = ys[7]? := hf 7 _ rfl
  have c_0 : Try.prog.cellsOf 3 = 1 := by kernel_rfl
  rw [c_0] at f0 f1 f2
  have c_1 : Try.prog.cellsOf 9 = 1 := by kernel_rfl
  rw [c_1] at f3 f4
  have c_2 : Try.prog.cellsOf 23 = 1 := by kernel_rfl
  rw [c_2] at f5
  have c_3 : Try.prog.cellsOf 4 = 1 := by kernel_rfl
  rw [c_3] at f6 f7
  have g0 := f0.trans (List.getElem?_eq_getElem (by rw [hyl]; decide))
  have g1 := f1.trans (List.getElem?_eq_getElem (by rw [hyl]; decide))
  have g2 := f2.trans (List.getElem?_eq_getElem (by rw [hyl]; decide))
  have g3 := f3.trans (List.getElem?_eq_getElem (by rw [hyl]; decide))
  have g4 := f4.trans (List.getElem?_eq_getElem (by rw [hyl]; decide))
  have g5 := f5.trans (List.getElem?_eq_getElem (by rw [hyl]; decide))
  have g6 := f6.trans (List.getElem?_eq_getElem (by rw [hyl]; decide))
  have g7 := f7.trans (List.getElem?_eq_getElem (by rw [hyl]; decide))
  rw [take1 (by omega)] at g0 g1 g2 g3 g4 g5 g6 g7
  obtain ⟨n0, e0, _, w0⟩ := DataW.trod_int Try.underlying3 g0
  obtain ⟨n1, e1, _, w1⟩ := DataW.trod_int Try.underlying3 g1
  obtain ⟨n2, e2, _, w2⟩ := DataW.trod_int Try.underlying3 g2
  obtain ⟨s3, e3, _, w3⟩ := DataW.trod_string Try.underlying9 g3
  obtain ⟨s4, e4, _, w4⟩ := DataW.trod_string Try.underlying9 g4
  obtain ⟨M, m, c, l, e5, hc, hb⟩ := bytes_of g5
  obtain ⟨p6, e6, _⟩ := DataW.trod_bool Try.underlying4 g6
  obtain ⟨p7, e7, _⟩ := DataW.trod_bool Try.underlying4 g7
  have hl2 := hb.len
  subst hl2
  refine ⟨⟨n0, n1, n2, s3.data.toList.map UInt8.toNat, s4.data.toList.map UInt8.toNat, M, l, c, p6, p7⟩, ?_, ⟨str_small s3, str_small s4, hb, i64_of w0, i64_of w1, i64_of w2, hc.1, by simp only; omega, by simp only; rw [str_len]; unfold maxLen at w3; omega, by simp only; rw [str_len]; unfold maxLen at w4; omega⟩⟩
  unfold CA.cells
  simp only
  rw [str_form, str_form]
  match cs, hl, e0, e1, e2, e3, e4, e5, e6, e7 with
  | [a0, a1, a2, a3, a4, a5, a6, a7], _, e0, e1, e2, e3, e4, e5, e6, e7 =>
    simp at e0 e1 e2 e3 e4 e5 e6 e7
    subst e0 e1 e2 e3 e4 e5 e6 e7
    rfl
set_option maxRecDepth 100000 in
theorem cas_of {H : Type} {enc : TypeId × Value → H} {W : World} {n : Nat} {v : Value} {y : DataW H × List MemPlace} (h : DataW.trod enc Try.prog W 0 (fun _ => true) true n 57 [v] = some y) :
    ∃ (A : Option Addr) (c : Nat) (l : List CA), v = .slice A l.length c ∧ (l.length ≤ c ∧ c ≤ 9223372036854775807) ∧ Reads W W.heap.size 8 A l.length (l.flatMap CA.cells) ∧ ∀ x ∈ l, x.R W := by
  rcases open_slice Try.underlying57 h with ⟨hcs, _⟩ | ⟨a, len, cap, m, n', D, Pl, hcs, _, hl, hm, hmm, _, hr⟩
  · simp only [List.cons.injEq, and_true] at hcs
    subst hcs
    exact ⟨none, 0, [], rfl, ⟨by simp, by omega⟩, Reads.none_, fun s hs => by cases hs⟩
  · simp only [List.cons.injEq, and_true] at hcs
    subst hcs
    simp only [if_true] at hmm
    unfold maxLen at hm
    have c6 : Try.prog.cellsOf 59 = 8 := by kernel_rfl
    have hex : ∀ i, i < len → ∃ s : CA, (∀ j v, s.cells[j]? = some v → W.cell? (a.add (i * 8 + j)) = some v) ∧ s.R W := by
      intro i hi
      obtain ⟨cs', hc, ht'⟩ := hr i (by omega)
      rw [c6] at hc
      obtain ⟨_, hcl, hat⟩ := World.cells?_some hc
      obtain ⟨s, rfl, hs⟩ := ca_of ht' (by omega)
      refine ⟨s, fun j v hj => ?_, hs⟩
      have hj6 : j < 8 := by have := (List.getElem?_eq_some_iff.1 hj).1; rwa [CA.cells_len] at this
      have := hat j hj6
      rw [← Go.Deep.add_add, this, hj]
    obtain ⟨f, hf⟩ := choose_lt_x hex
    have hat : ∀ k, k < len → ((List.range len).map f)[k]? = some (f k) := fun k hk => by rw [List.getElem?_map, List.getElem?_range hk]; rfl
    have hfl : (((List.range len).map f).flatMap CA.cells).length = len * 8 := by
      rw [flat_len CA.cells_len]
      simp
    refine ⟨some a, cap, (List.range len).map f, by simp, ⟨by simpa using hl, by omega⟩, ⟨by simpa using hfl, fun hn => ⟨a, rfl, ?_, fun j u hu => ?_⟩⟩, fun s hs => ?_⟩
    · have := lt_of_cell ((hf 0 (by simpa using hn)).1 0 _ rfl)
      rwa [block_of_add] at this
    · have hj : j < len * 8 := by
        rcases Nat.lt_or_ge j (len * 8) with h | h
        · exact h
        · rw [List.getElem?_eq_none (by rw [hfl]; exact h)] at hu; cases hu
      have hk : j / 8 < len := by omega
      have h5 := flat_at CA.cells 8 CA.cells_len _ (j / 8) (j % 8) (f (j / 8)) (hat (j / 8) hk) (by omega)
      rw [show j / 8 * 8 + j % 8 = j by omega, hu] at h5
      have := (hf (j / 8) hk).1 (j % 8) u h5.symm
      rwa [show j / 8 * 8 + j % 8 = j by omega] at this
    · obtain ⟨i, hi, rfl⟩ := List.mem_map.1 hs
      exact (hf i (List.mem_range.1 hi)).2
set_option maxRecDepth 100000 in
theorem open_cas {H : Type} {enc : TypeId × Value → H} {W : World} {base : Nat} {v : Value} {d : DataW H} {p : List MemPlace} (hval : Value.okWide Try.prog W .any base 57 v)
    (h : DataW.Trod enc Try.prog W 0 (fun _ => true) true 57 v d p) : ∃ (A : Option Addr) (c : Nat) (l : List CA), v = .slice A l.length c ∧ l.length ≤ c ∧ c ≤ 9223372036854775807 ∧ Reads W W.heap.size 8 A l.length (l.flatMap CA.cells) ∧ ∀ x ∈ l, x.R W := by
  obtain ⟨a0, len0, cap0, rfl⟩ := okWide_slice Try.underlying57 hval
  obtain ⟨fuel, hf⟩ := h
  obtain ⟨A, c, l, e, h1, h2, h3⟩ := cas_of hf
  exact ⟨A, c, l, e, h1.1, h1.2, h2, h3⟩
end Go.Proofs.Ytiimanoloedbeaa

/-
  A head as the document's. Conditions: it reads as it is said to, and is small.
-/
namespace Go.Proofs.Ytiimanoloedbeaa
open Go.RowKit Go.BigFrame
set_option linter.unusedSimpArgs false
set_option linter.unusedVariables false
set_option maxRecDepth 100000
end Go.Proofs.Ytiimanoloedbeaa
