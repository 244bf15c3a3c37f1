/-
  The laws' fixed example stands: alive returns true. No condition.
-/
import Derived.Test.YtgcghoalepkdfaaNil

namespace Go.Proofs.Ytgcghoalepkdfaa
open Go.RowKit
set_option linter.unusedSimpArgs false
attribute [local go_sem ↓] Go.wp_at_zero Go.wp_at_succ
def a1 : DM := DM.new 4
def s1 : Sec := Sec.full 1 (by omega)
def s2 : Sec := Sec.full 2 (by omega)
def s3 : Sec := Sec.full 3 (by omega)
def a2 : DM := a1.write 0 s1
def a3 : DM := a2.flush
def a4 : DM := a3.write 0 s2
def a5 : DM := a4.write 1 s3
def a6 : DM := a5.crash [false, true]
theorem e1 : a1.writeErr 0 = 0 := rfl
theorem e2 : a2.stepErr = 0 := rfl
theorem e3 : a3.writeErr 0 = 0 := rfl
theorem e4 : a4.writeErr 1 = 0 := rfl
theorem e5 : a5.wait.length = 2 := rfl
theorem e6 : a6.read 0 = s1 := rfl
theorem e7 : a6.readErr 0 = 0 := rfl
theorem e8 : a6.read 1 = s3 := rfl
theorem e9 : a6.readErr 1 = 0 := rfl
theorem e10 : a6.steps = 4 := rfl
/-- a disk that the call made since w0 -/
def Has (w0 w : World) (g : Nat) (d : DM) : Prop := ∃ F, DiskAt w w0.heap.size F g d ∧ Below w0.heap.size w0 w
section
variable {w0 w w' : World} {g : Nat} {d : DM}
theorem Has.below (h : Has w0 w g d) (hb : Below w.heap.size w w') : Has w0 w' g d := by
  obtain ⟨F, h1, h2⟩ := h
  exact ⟨F, h1.of (below_keeps hb h1.under), h2.trans (hb.mono h2.size)⟩
theorem Has.alloc (h : Has w0 w g d) (o : Obj) : Has w0 (w.alloc o) g d := h.below ((Below.refl _ _).alloc (Nat.le_refl _) _)
theorem Has.drew (h : Has w0 w g d) : Has w0 w.drew g d := h.below (Below.refl _ _).drew
theorem Has.made {e : Ending} {n : Nat} (hb : Below w0.heap.size w0 w) (h : MadeDisk w w0.heap.size n e w') : ∃ g, e = .returned (.tuple #[.pointer (some ⟨g, 0, none⟩), .nilIface]) ∧ Has w0 w' g (DM.new n) := by
  obtain ⟨g, F, he, h1, h2, h3⟩ := h
  exact ⟨g, he, F, h1, hb.trans (h2.mono hb.size)⟩
theorem Has.to {F : List Nat} {d' : DM} (h1 : DiskAt w w0.heap.size F g d) (h2 : Below w0.heap.size w0 w) (h : DTo w w0.heap.size F g d' w') : Has w0 w' g d' := by
  obtain ⟨F', h3, h4, h5⟩ := h
  exact ⟨F', h3, h2.trans (h4.below h1.over h2.size)⟩
theorem has_write (h : Has w0 w g d) (i : Int) (s : Sec) (hs : d.steps < 4611686018427387904) (hl : d.left ≤ 9223372036854775807) (hw : d.wait.length ≤ 1000000) :
    Calls Try.prog 17 #[.pointer (some ⟨g, 0, none⟩), .int .i64 i, s.v] w fun e w' => e = .returned (errV (d.writeErr i)) ∧ Has w0 w' g (d.write i s) := by
  obtain ⟨F, h1, h2⟩ := h
  exact (write_any w _ g F d i s h1 hs hl hw h2.size).mono fun e w' ⟨he, ht⟩ => ⟨he, Has.to h1 h2 ht⟩
theorem has_flush (h : Has w0 w g d) (hs : d.steps < 4611686018427387904) (hl : d.left ≤ 9223372036854775807) (hw : d.wait.length ≤ 1000000) :
    Calls Try.prog 19 #[.pointer (some ⟨g, 0, none⟩)] w fun e w' => e = .returned (errV d.stepErr) ∧ Has w0 w' g d.flush := by
  obtain ⟨F, h1, h2⟩ := h
  exact (flush_any w _ g F d h1 hs hl hw).mono fun e w' ⟨he, ht⟩ => ⟨he, Has.to h1 h2 ht⟩
theorem has_read (h : Has w0 w g d) (i : Int) (hw : d.wait.length ≤ 1000000) :
    Calls Try.prog 21 #[.pointer (some ⟨g, 0, none⟩), .int .i64 i] w fun e w' => e = .returned (.tuple #[(d.read i).v, errV (d.readErr i)]) ∧ Has w0 w' g d ∧ Below w.heap.size w w' := by
  obtain ⟨F, ⟨gm, v, rfl, h1⟩, h2⟩ := h
  exact (read_any w _ g gm v d i h1 hw).mono fun e w' ⟨he, ht⟩ => ⟨he, Has.below ⟨_, ⟨gm, v, rfl, h1⟩, h2⟩ ht, ht⟩
theorem has_waiting (h : Has w0 w g d) : Calls Try.prog 23 #[.pointer (some ⟨g, 0, none⟩)] w fun e w' => e = .returned (.int .i64 d.wait.length) ∧ w = w' := by
  obtain ⟨F, ⟨gm, v, rfl, h1⟩, h2⟩ := h
  exact waiting_any w _ g gm v d h1
theorem has_steps (h : Has w0 w g d) : Calls Try.prog 26 #[.pointer (some ⟨g, 0, none⟩)] w fun e w' => e = .returned (.int .i64 d.steps) ∧ w = w' := by
  obtain ⟨F, ⟨gm, v, rfl, h1⟩, h2⟩ := h
  exact steps_any w _ g gm v d h1
theorem has_crash (h : Has w0 w g d) (hw : d.wait.length ≤ 1000000) (A : Option Addr) (c B : Nat) (keep : List Bool) (hR : ∀ F, DiskAt w w0.heap.size F g d → ∀ W', Only F w W' → Reads W' B 1 A keep.length (flags keep)) :
    Calls Try.prog 20 #[.pointer (some ⟨g, 0, none⟩), .slice A keep.length c] w fun e w' => e = .returned (.tuple #[]) ∧ Has w0 w' g (d.crash keep) := by
  obtain ⟨F, h1, h2⟩ := h
  exact (crash_any w _ g F d A c B keep h1 hw (hR F h1)).mono fun e w' ⟨he, ht⟩ => ⟨he, Has.to h1 h2 ht⟩
end
theorem full_1 (w : World) : Calls Try.prog 18 #[.int .u8 1] w fun e w' => e = .returned s1.v ∧ Below w.heap.size w w' := full_any 1 (by omega) w
theorem full_3 (w : World) : Calls Try.prog 18 #[.int .u8 3] w fun e w' => e = .returned s3.v ∧ Below w.heap.size w w' := full_any 3 (by omega) w
theorem sa_below {w w1 w2 : World} {b3 b4 g : Nat} {d : DM} (h3 : Blk w1 b3 47 s1.cs.toArray) (h4 : Blk w1 b4 47 s3.cs.toArray) (hd : Has w w1 g d) (hb : Below w1.heap.size w1 w2) :
    w2.rangeAt b3 0 s1.cs ∧ w2.rangeAt b4 0 s3.cs ∧ Blk w2 b3 47 s1.cs.toArray ∧ Blk w2 b4 47 s3.cs.toArray ∧ Has w w2 g d :=
  ⟨(h3.below hb h3.lt).range, (h4.below hb h4.lt).range, h3.below hb h3.lt, h4.below hb h4.lt, hd.below hb⟩
set_option maxRecDepth 100000 in
set_option maxHeartbeats 1000000 in
theorem alive_any (w : World) : Calls Try.prog 9 #[] w fun e w' => e = .returned (.bool true) ∧ Below w.heap.size w w' := by
  go_enter Try.func9, Try.ntmps9
  go_wp2_with fail
  refine (new_good w w.heap.size 4 (by omega) (by omega) (Nat.le_refl _)).mono ?_
  intro e w1 hm
  obtain ⟨g, rfl, h1⟩ := Has.made (Below.refl _ _) hm
  clear hm
  have H1 : Hid (Has w w1 g a1) := Lib.hid h1
  clear h1
  go_wp2_with fail
  refine (full_any 1 (by omega) _).mono ?_
  rintro e x1 ⟨rfl, b1⟩
  have K1 : Hid (Has w x1 g a1) := Lib.hid (H1.out.below b1)
  clear b1
  go_wp2_with fail
  refine (has_write K1.out 0 s1 (by decide) (by decide) (by decide)).mono ?_
  rintro e w2 ⟨rfl, h2⟩
  have H2 : Hid (Has w w2 g a2) := Lib.hid h2
  clear h2
  rw [e1]
  simp only [errV]
  go_wp2_with fail
  refine (has_flush H2.out (by decide) (by decide) (by decide)).mono ?_
  rintro e w3 ⟨rfl, h3⟩
  have H3 : Hid (Has w w3 g a3) := Lib.hid h3
  clear h3
  rw [e2]
  simp only [errV]
  go_wp2_with fail
  refine (full_any 2 (by omega) _).mono ?_
  rintro e x3 ⟨rfl, b3⟩
  have K3 : Hid (Has w x3 g a3) := Lib.hid (H3.out.below b3)
  clear b3
  go_wp2_with fail
  refine (has_write K3.out 0 s2 (by decide) (by decide) (by decide)).mono ?_
  rintro e w4 ⟨rfl, h4⟩
  have H4 : Hid (Has w w4 g a4) := Lib.hid h4
  clear h4
  rw [e3]
  simp only [errV]
  go_wp2_with fail
  refine (full_any 3 (by omega) _).mono ?_
  rintro e x4 ⟨rfl, b4⟩
  have K4 : Hid (Has w x4 g a4) := Lib.hid (H4.out.below b4)
  clear b4
  go_wp2_with fail
  refine (has_write K4.out 1 s3 (by decide) (by decide) (by decide)).mono ?_
  rintro e w5 ⟨rfl, h5⟩
  have H5 : Hid (Has w w5 g a5) := Lib.hid h5
  clear h5
  rw [e4]
  simp only [errV]
  go_wp2_with fail
  refine (has_waiting H5.out).mono ?_
  rintro e w' ⟨rfl, rfl⟩
  rw [e5]
  go_wp2_with fail
  obtain ⟨F5, hA5, hB5⟩ := H5.out
  have hA5' : DiskAt (w5.alloc (.cells #[.bool false, .bool true] 4)) w.heap.size F5 g a5 := hA5.of (fun k hk => Below.heap_alloc _ _ _ (hA5.under k hk))
  have hr5 : Reads (w5.alloc (.cells #[.bool false, .bool true] 4)) (w5.heap.size + 1) 1 (some ⟨w5.heap.size, 0, none⟩) 2 (flags [false, true]) := Reads.new w5 (flags [false, true]) _ _
  refine (crash_any _ w.heap.size g F5 a5 (some ⟨w5.heap.size, 0, none⟩) 2 (w5.heap.size + 1) [false, true] hA5' (by decide) (fun W' hO => reads_only hr5 hO (fun ad e => by injection e with e; subst e; exact ⟨by simp, fun hm => by have := hA5.under _ hm; simp at this⟩))).mono ?_
  rintro e w6 ⟨rfl, h6⟩
  have H6 : Hid (Has w w6 g a6) := Lib.hid (Has.to hA5' (hB5.alloc hB5.size _) h6)
  clear h6 hA5 hA5' hB5 hr5
  obtain ⟨Zs, hZ, hZs⟩ : ∃ Zs : Array Value, (∀ w, (zeroValue 47).run Try.prog w = .ok (.agg Zs) w) ∧ Zs.size = 128 := ⟨_, sec_zero, by simp [Sec.cs_len]⟩
  have hi1 : (Try.prog.info? 47).map (·.size) = some s1.cs.length := by rw [Sec.cs_len]; exact sec_size
  have hi3 : (Try.prog.info? 47).map (·.size) = some s3.cs.length := by rw [Sec.cs_len]; exact sec_size
  have hl1 : Zs.size = s1.cs.length := by rw [hZs, Sec.cs_len]
  have hl3 : Zs.size = s3.cs.length := by rw [hZs, Sec.cs_len]
  have HL1 := Lib.hid hl1
  have HL3 := Lib.hid hl3
  clear hl1 hl3 hZs
  go_wp2_with fail
  refine (has_read H6.out 0 (by decide)).mono ?_
  rintro e w7 ⟨rfl, h7, -⟩
  rw [e6, e7]
  simp only [errV, Sec.v]
  have H7 : Hid (Has w (w7.alloc (.cells s1.cs.toArray 47)) g a6) := Lib.hid (h7.alloc _)
  have B7 := Blk.new w7 47 s1.cs.toArray
  have hb7 := h7
  clear h7
  go_wp2_with (refine wpList_store_newN rfl 47 (.tmp 3) (.tmp 48) rfl w7.heap.size rfl s1.cs Zs rfl rfl hi1 HL1.out s1.one ?_)
  refine (has_read H7.out 1 (by decide)).mono ?_
  rintro e w8 ⟨rfl, h8, b8⟩
  rw [e8, e9]
  simp only [errV, Sec.v]
  have H8 : Has w (w8.alloc (.cells s3.cs.toArray 47)) g a6 := h8.alloc _
  have B3 : Blk (w8.alloc (.cells s3.cs.toArray 47)) w7.heap.size 47 s1.cs.toArray := (B7.of (b8.block _ (by simp))).alloc _
  have B4 := Blk.new w8 47 s3.cs.toArray
  have hu := Try.underlying47
  have hq := run_sec_in
  have hss : secEq s1 s1 = true := secEq_same s1
  have hss3 : secEq s3 s3 = true := secEq_same s3
  have hst := e10
  clear h8 b8 hb7 B7
  have HU := Lib.hid hu
  clear hu
  go_wp2_with (refine wpList_store_newN rfl 47 (.tmp 4) (.tmp 53) rfl w8.heap.size rfl s3.cs Zs rfl rfl hi3 HL3.out s3.one ?_)
  have hu := HU.out
  have hi1' := hi1
  have hi3' := hi3
  generalize w8.alloc (.cells s3.cs.toArray 47) = w9 at *
  have R3 : w9.drew.rangeAt w7.heap.size 0 s1.cs := B3.drew.range
  refine any_begin (by kernel_rfl) ?_
  refine do_one (i := 0) (by kernel_rfl) rfl (by rfl) ?_
  simp only [Act.put, List.getElem_toArray, List.getElem_cons_succ, List.getElem_cons_zero, List.setIfInBounds_toArray, List.set_cons_zero, List.set_cons_succ]
  refine wp_ran (v := .nilIface) (w' := w9.drew) (by kernel_rfl) ?_
  simp only [Act.put, List.getElem_toArray, List.getElem_cons_succ, List.getElem_cons_zero, List.setIfInBounds_toArray, List.set_cons_zero, List.set_cons_succ]
  refine do_one (i := 1) (by kernel_rfl) rfl (by rfl) ?_
  simp only [Act.put, List.getElem_toArray, List.getElem_cons_succ, List.getElem_cons_zero, List.setIfInBounds_toArray, List.set_cons_zero, List.set_cons_succ]
  refine wp_ran (v := .bool true) (w' := w9.drew) (by kernel_rfl) ?_
  simp only [Act.put, List.getElem_toArray, List.getElem_cons_succ, List.getElem_cons_zero, List.setIfInBounds_toArray, List.set_cons_zero, List.set_cons_succ]
  refine do_one (i := 2) (by kernel_rfl) rfl (by rfl) ?_
  simp only [Act.put, List.getElem_toArray, List.getElem_cons_succ, List.getElem_cons_zero, List.setIfInBounds_toArray, List.set_cons_zero, List.set_cons_succ]
  refine wp_ran (v := .bool true) (w' := w9.drew) (by kernel_rfl) ?_
  simp only [Act.put, List.getElem_toArray, List.getElem_cons_succ, List.getElem_cons_zero, List.setIfInBounds_toArray, List.set_cons_zero, List.set_cons_succ]
  refine do_one (i := 3) (by kernel_rfl) rfl (by rfl) ?_
  simp only [Act.put, List.getElem_toArray, List.getElem_cons_succ, List.getElem_cons_zero, List.setIfInBounds_toArray, List.set_cons_zero, List.set_cons_succ]
  refine wp_ran (v := .nilIface) (w' := w9.drew) (by kernel_rfl) ?_
  simp only [Act.put, List.getElem_toArray, List.getElem_cons_succ, List.getElem_cons_zero, List.setIfInBounds_toArray, List.set_cons_zero, List.set_cons_succ]
  refine do_one (i := 4) (by kernel_rfl) rfl (by rfl) ?_
  simp only [Act.put, List.getElem_toArray, List.getElem_cons_succ, List.getElem_cons_zero, List.setIfInBounds_toArray, List.set_cons_zero, List.set_cons_succ]
  refine wp_ran (v := .bool true) (w' := w9.drew) (by kernel_rfl) ?_
  simp only [Act.put, List.getElem_toArray, List.getElem_cons_succ, List.getElem_cons_zero, List.setIfInBounds_toArray, List.set_cons_zero, List.set_cons_succ]
  refine do_one (i := 5) (by kernel_rfl) rfl (by rfl) ?_
  simp only [Act.put, List.getElem_toArray, List.getElem_cons_succ, List.getElem_cons_zero, List.setIfInBounds_toArray, List.set_cons_zero, List.set_cons_succ]
  refine wp_ran (v := .bool true) (w' := w9.drew) (by kernel_rfl) ?_
  simp only [Act.put, List.getElem_toArray, List.getElem_cons_succ, List.getElem_cons_zero, List.setIfInBounds_toArray, List.set_cons_zero, List.set_cons_succ]
  refine do_one (i := 6) (by kernel_rfl) rfl (by rfl) ?_
  simp only [Act.put, List.getElem_toArray, List.getElem_cons_succ, List.getElem_cons_zero, List.setIfInBounds_toArray, List.set_cons_zero, List.set_cons_succ]
  refine wp_ran (v := .bool true) (w' := w9.drew) (by kernel_rfl) ?_
  simp only [Act.put, List.getElem_toArray, List.getElem_cons_succ, List.getElem_cons_zero, List.setIfInBounds_toArray, List.set_cons_zero, List.set_cons_succ]
  refine T_take (i := 7) (v := .agg s1.cs.toArray) (T := fun w' => w'.rangeAt w7.heap.size 0 s1.cs) rfl (by kernel_rfl) (by kernel_rfl) (by kernel_rfl) (fun _ _ _ h => h)
    (yieldsIf_load_mid (by rfl) 47 (.tmp 3) rfl w7.heap.size 0 rfl s1.cs _ (fun _ h => h) hu rfl hi1') R3 ?_
  simp only [Act.put, List.getElem_toArray, List.getElem_cons_succ, List.getElem_cons_zero, List.setIfInBounds_toArray, List.set_cons_zero, List.set_cons_succ]
  refine T_one (j := 8) (by kernel_rfl) rfl (by rfl) (by kernel_rfl) ?_
  simp only [Act.put, List.getElem_toArray, List.getElem_cons_succ, List.getElem_cons_zero, List.setIfInBounds_toArray, List.set_cons_zero, List.set_cons_succ]
  refine wp_called (by kernel_rfl) (full_1 _) ?_
  rintro e x9 ⟨rfl, c9⟩
  have B3x : Blk x9 w7.heap.size 47 s1.cs.toArray := B3.drew.below c9 B3.drew.lt
  have B4x : Blk x9 w8.heap.size 47 s3.cs.toArray := B4.drew.below c9 B4.drew.lt
  have H8x : Has w x9 g a6 := H8.drew.below c9
  refine ⟨_, rfl, B3x.range, ?_⟩
  simp only [Sec.v]
  simp only [Act.put, List.getElem_toArray, List.getElem_cons_succ, List.getElem_cons_zero, List.setIfInBounds_toArray, List.set_cons_zero, List.set_cons_succ]
  refine T_off (j := 9) (by kernel_rfl) rfl (by rfl) (by kernel_rfl) ?_
  simp only [Act.put, List.getElem_toArray, List.getElem_cons_succ, List.getElem_cons_zero, List.setIfInBounds_toArray, List.set_cons_zero, List.set_cons_succ]
  refine wp_ran (v := .bool true) (w' := x9) (by have := run_sec_eq s1 s1 x9; rw [secEq_same] at this; simp [execOp, Act.eval, this, run_sec_guard, Result.andThen]) ?_
  simp only [Act.put, List.getElem_toArray, List.getElem_cons_succ, List.getElem_cons_zero, List.setIfInBounds_toArray, List.set_cons_zero, List.set_cons_succ]
  refine do_one (i := 10) (by kernel_rfl) rfl (by rfl) ?_
  simp only [Act.put, List.getElem_toArray, List.getElem_cons_succ, List.getElem_cons_zero, List.setIfInBounds_toArray, List.set_cons_zero, List.set_cons_succ]
  refine wp_ran (v := .bool true) (w' := x9) (by kernel_rfl) ?_
  simp only [Act.put, List.getElem_toArray, List.getElem_cons_succ, List.getElem_cons_zero, List.setIfInBounds_toArray, List.set_cons_zero, List.set_cons_succ]
  refine do_one (i := 11) (by kernel_rfl) rfl (by rfl) ?_
  simp only [Act.put, List.getElem_toArray, List.getElem_cons_succ, List.getElem_cons_zero, List.setIfInBounds_toArray, List.set_cons_zero, List.set_cons_succ]
  refine wp_ran (v := .bool true) (w' := x9) (by kernel_rfl) ?_
  simp only [Act.put, List.getElem_toArray, List.getElem_cons_succ, List.getElem_cons_zero, List.setIfInBounds_toArray, List.set_cons_zero, List.set_cons_succ]
  refine T_take (i := 12) (v := .agg s3.cs.toArray) (T := fun w' => w'.rangeAt w8.heap.size 0 s3.cs) rfl (by kernel_rfl) (by kernel_rfl) (by kernel_rfl) (fun _ _ _ h => h)
    (yieldsIf_load_mid (by rfl) 47 (.tmp 4) rfl w8.heap.size 0 rfl s3.cs _ (fun _ h => h) hu rfl hi3') B4x.range ?_
  simp only [Act.put, List.getElem_toArray, List.getElem_cons_succ, List.getElem_cons_zero, List.setIfInBounds_toArray, List.set_cons_zero, List.set_cons_succ]
  refine T_one (j := 13) (by kernel_rfl) rfl (by rfl) (by kernel_rfl) ?_
  simp only [Act.put, List.getElem_toArray, List.getElem_cons_succ, List.getElem_cons_zero, List.setIfInBounds_toArray, List.set_cons_zero, List.set_cons_succ]
  refine wp_called (by kernel_rfl) (full_3 _) ?_
  rintro e y9 ⟨rfl, d9⟩
  have B4y : Blk y9 w8.heap.size 47 s3.cs.toArray := B4x.below d9 B4x.lt
  have H8y : Has w y9 g a6 := H8x.below d9
  refine ⟨_, rfl, B4y.range, ?_⟩
  simp only [Sec.v]
  simp only [Act.put, List.getElem_toArray, List.getElem_cons_succ, List.getElem_cons_zero, List.setIfInBounds_toArray, List.set_cons_zero, List.set_cons_succ]
  refine T_off (j := 14) (by kernel_rfl) rfl (by rfl) (by kernel_rfl) ?_
  simp only [Act.put, List.getElem_toArray, List.getElem_cons_succ, List.getElem_cons_zero, List.setIfInBounds_toArray, List.set_cons_zero, List.set_cons_succ]
  refine wp_ran (v := .bool true) (w' := y9) (by have := run_sec_eq s3 s3 y9; rw [secEq_same] at this; simp [execOp, Act.eval, this, run_sec_guard, Result.andThen]) ?_
  simp only [Act.put, List.getElem_toArray, List.getElem_cons_succ, List.getElem_cons_zero, List.setIfInBounds_toArray, List.set_cons_zero, List.set_cons_succ]
  refine do_one (i := 15) (by kernel_rfl) rfl (by rfl) ?_
  simp only [Act.put, List.getElem_toArray, List.getElem_cons_succ, List.getElem_cons_zero, List.setIfInBounds_toArray, List.set_cons_zero, List.set_cons_succ]
  refine wp_ran (v := .bool true) (w' := y9) (by kernel_rfl) ?_
  simp only [Act.put, List.getElem_toArray, List.getElem_cons_succ, List.getElem_cons_zero, List.setIfInBounds_toArray, List.set_cons_zero, List.set_cons_succ]
  refine do_one (i := 16) (by kernel_rfl) rfl (by rfl) ?_
  simp only [Act.put, List.getElem_toArray, List.getElem_cons_succ, List.getElem_cons_zero, List.setIfInBounds_toArray, List.set_cons_zero, List.set_cons_succ]
  refine wp_ran (v := .bool true) (w' := y9) (by kernel_rfl) ?_
  simp only [Act.put, List.getElem_toArray, List.getElem_cons_succ, List.getElem_cons_zero, List.setIfInBounds_toArray, List.set_cons_zero, List.set_cons_succ]
  refine do_one (i := 17) (by kernel_rfl) rfl (by rfl) ?_
  simp only [Act.put, List.getElem_toArray, List.getElem_cons_succ, List.getElem_cons_zero, List.setIfInBounds_toArray, List.set_cons_zero, List.set_cons_succ]
  refine wp_ran (v := .pointer (some ⟨g, 0, none⟩)) (w' := y9) (by kernel_rfl) ?_
  simp only [Act.put, List.getElem_toArray, List.getElem_cons_succ, List.getElem_cons_zero, List.setIfInBounds_toArray, List.set_cons_zero, List.set_cons_succ]
  refine do_one (i := 18) (by kernel_rfl) rfl (by rfl) ?_
  simp only [Act.put, List.getElem_toArray, List.getElem_cons_succ, List.getElem_cons_zero, List.setIfInBounds_toArray, List.set_cons_zero, List.set_cons_succ]
  refine wp_called (by kernel_rfl) (has_steps H8y) ?_
  rintro e w' ⟨rfl, rfl⟩
  refine ⟨_, rfl, ?_⟩
  rw [e10]
  simp only [Act.put, List.getElem_toArray, List.getElem_cons_succ, List.getElem_cons_zero, List.setIfInBounds_toArray, List.set_cons_zero, List.set_cons_succ]
  refine do_one (i := 19) (by kernel_rfl) rfl (by rfl) ?_
  simp only [Act.put, List.getElem_toArray, List.getElem_cons_succ, List.getElem_cons_zero, List.setIfInBounds_toArray, List.set_cons_zero, List.set_cons_succ]
  refine wp_ran (v := .bool true) (w' := y9) (by kernel_rfl) ?_
  simp only [Act.put, List.getElem_toArray, List.getElem_cons_succ, List.getElem_cons_zero, List.setIfInBounds_toArray, List.set_cons_zero, List.set_cons_succ]
  refine do_one (i := 20) (by kernel_rfl) rfl (by rfl) ?_
  simp only [Act.put, List.getElem_toArray, List.getElem_cons_succ, List.getElem_cons_zero, List.setIfInBounds_toArray, List.set_cons_zero, List.set_cons_succ]
  refine wp_ran (v := .bool true) (w' := y9) (by kernel_rfl) ?_
  simp only [Act.put, List.getElem_toArray, List.getElem_cons_succ, List.getElem_cons_zero, List.setIfInBounds_toArray, List.set_cons_zero, List.set_cons_succ]
  refine do_one (i := 21) (by kernel_rfl) rfl (by rfl) ?_
  simp only [Act.put, List.getElem_toArray, List.getElem_cons_succ, List.getElem_cons_zero, List.setIfInBounds_toArray, List.set_cons_zero, List.set_cons_succ]
  refine wp_ran (v := .bool true) (w' := y9) (by kernel_rfl) ?_
  simp only [Act.put, List.getElem_toArray, List.getElem_cons_succ, List.getElem_cons_zero, List.setIfInBounds_toArray, List.set_cons_zero, List.set_cons_succ]
  refine wpAny_done (by kernel_rfl) ?_ _
  refine NoPanic.normal ?_
  obtain ⟨F, -, hBf⟩ := H8y
  clear B3 B4 H8 H7 H6 H5 H4 H3 H2 H1 K1 K3 K4 hi1 hi3 hi1' hi3' hu hq hss hss3 hst R3 B3x B4x H8x B4y
  go_wp2
  go_ret
  exact ⟨rfl, hBf⟩
end Go.Proofs.Ytgcghoalepkdfaa
