/-
  What the disk's Write returns and turns. Conditions: the disk lies where it is said to; its numbers are below 2^62; no more than a million writes wait.
-/
import Derived.Test.YtgcghoalepkdfaaPower
import Derived.Test.YtgcghoalepkdfaaFacts
import Derived.Test.YtgcghoalepkdfaaReg
import Derived.Deep.DrawnRows
namespace Go.Proofs.Ytgcghoalepkdfaa
open Go.RowKit
set_option linter.unusedSimpArgs false
attribute [local go_sem ↓] Go.wp_at_zero Go.wp_at_succ
set_option maxRecDepth 100000 in
theorem write_in (w : World) (base g gm : Nat) (v : Value) (d : DM) (i : Int) (s : Sec) (h : Lies w base g gm v d) (hs : d.steps < 4611686018427387904) (hl : d.left ≤ 9223372036854775807) (hd : d.has i = true) (ho : d.off = false) (hw : d.wait.length ≤ 1000000) (hB : base ≤ w.heap.size) :
    Calls Try.prog 17 #[.pointer (some ⟨g, 0, none⟩), .int .i64 i, s.v] w fun e w' => e = .returned (errV (d.writeErr i)) ∧ DTo w base (g :: gm :: rowOf v) g (d.write i s) w' := by
  unfold Sec.v
  have hse : d.stepErr = 0 := by simp [DM.stepErr, ho]
  have Hd := Lib.hid hd; have Ho := Lib.hid ho; have Hse := Lib.hid hse
  clear hd ho hse
  have H := Lib.hid h
  clear h
  go_enter Try.func17, Try.ntmps17
  go_wp2_with fail
  refine (has_any _ base g gm v d i (H.out.alloc _)).mono ?_
  rintro e w' ⟨rfl, rfl⟩
  rw [Hd.out]
  go_wp2_with fail
  refine (step_any _ base g gm v d (H.out.alloc _) hs hl).mono ?_
  rintro e w1 ⟨rfl, h1, o1⟩
  rw [Hse.out]
  have hgw := H.out.blk.lt
  obtain ⟨-, -, -, -, -, -, c6, hf⟩ := h1.cells
  have f6 := hf 6
  have hbx : Blk w1 w.heap.size 47 s.cs.toArray := (Blk.new w _ _).of (o1.block _ (by simp) (by simp; omega))
  have hr : w1.rangeAt w.heap.size 0 s.cs := by have := World.rangeAt_of_block hbx 0 128; simpa [s.cs_len, List.take_of_length_le] using this
  have hrow : w1.ownsRow base 76 129 v d.wait.length (d.wait.flatMap wrc) := by have := h1.row; unfold DM.step at this; rw [Ho.out] at this; exact this
  have hsz : w.heap.size + 1 ≤ w1.heap.size := by have := o1.size; simpa using this
  have g6 : v.ownBlock ≠ some g := own_blk_ne hrow h1.blk (by decide)
  have gb : v.ownBlock ≠ some w.heap.size := own_blk_ne hrow hbx (by decide)
  have hu := Try.underlying47
  have hi : (Try.prog.info? 47).map (·.size) = some s.cs.length := by rw [s.cs_len]; exact sec_size
  obtain ⟨i0, hi0, hz0, hz1, hz2⟩ := info_parts write_info
  have hg1 : g < w1.heap.size := by omega
  have hne : w.heap.size ≠ g := by omega
  have H1 := Lib.hid h1
  have Hrow := Lib.hid hrow
  have Hf := Lib.hid hf
  have Hbx := Lib.hid hbx
  clear h1 hrow hf hbx
  simp only [errV]
  go_wp2
  refine any_begin (by kernel_rfl) ?_
  refine wpAny_take (i := 0) (v := .pointer (some ⟨g, 0, none⟩)) rfl (by kernel_rfl) (by kernel_rfl) (by kernel_rfl) (fun _ _ _ h => h) (Or.inl ⟨by rfl, fun w => by kernel_rfl⟩) ?_
  simp only [Act.put, List.getElem_toArray, List.getElem_cons_succ, List.getElem_cons_zero, List.setIfInBounds_toArray, List.set_cons_zero, List.set_cons_succ]
  refine wpAny_take (i := 1) (v := .pointer (some ⟨g, 0, none⟩)) rfl (by kernel_rfl) (by kernel_rfl) (by kernel_rfl) (fun _ _ _ h => h) (Or.inl ⟨by rfl, fun w => by kernel_rfl⟩) ?_
  simp only [Act.put, List.getElem_toArray, List.getElem_cons_succ, List.getElem_cons_zero, List.setIfInBounds_toArray, List.set_cons_zero, List.set_cons_succ]
  refine wpAny_take (i := 2) (v := .pointer (some ⟨g, 0, none⟩)) rfl (by kernel_rfl) (by kernel_rfl) (by kernel_rfl) (fun _ _ _ h => h) (Or.inl ⟨by rfl, fun w => by kernel_rfl⟩) ?_
  simp only [Act.put, List.getElem_toArray, List.getElem_cons_succ, List.getElem_cons_zero, List.setIfInBounds_toArray, List.set_cons_zero, List.set_cons_succ]
  refine wpAny_take (i := 3) (v := .pointer (some ⟨g, 6, none⟩)) rfl (by kernel_rfl) (by kernel_rfl) (by kernel_rfl) (fun _ _ _ h => h) (Or.inl ⟨by rfl, fun w => by kernel_rfl⟩) ?_
  simp only [Act.put, List.getElem_toArray, List.getElem_cons_succ, List.getElem_cons_zero, List.setIfInBounds_toArray, List.set_cons_zero, List.set_cons_succ]
  refine wpAny_take (i := 6) (v := .int .i64 i) rfl (by kernel_rfl) (by kernel_rfl) (by kernel_rfl) (fun _ _ _ h => h) (Or.inl ⟨by rfl, fun w => by kernel_rfl⟩) ?_
  simp only [Act.put, List.getElem_toArray, List.getElem_cons_succ, List.getElem_cons_zero, List.setIfInBounds_toArray, List.set_cons_zero, List.set_cons_succ]
  have hrd : w1.drew.rangeAt w.heap.size 0 s.cs := hr
  have c6d : w1.drew.cell? ⟨g, 6, none⟩ = some v := c6
  refine T_take (i := 4) (v := v) (T := fun w' => w'.cell? ⟨g, 6, none⟩ = some v) rfl (by kernel_rfl) (by kernel_rfl) (by kernel_rfl) (fun _ _ _ h => h) (Or.inl ⟨by rfl, fun w' hw' => by go_simp⟩) c6d ?_
  simp only [Act.put, List.getElem_toArray, List.getElem_cons_succ, List.getElem_cons_zero, List.setIfInBounds_toArray, List.set_cons_zero, List.set_cons_succ]
  refine T_one (j := 5) (by kernel_rfl) rfl (by rfl) (by kernel_rfl) ?_
  simp only [Act.put, List.getElem_toArray, List.getElem_cons_succ, List.getElem_cons_zero, List.setIfInBounds_toArray, List.set_cons_zero, List.set_cons_succ]
  refine wp_load_mid 47 (.tmp 5) (by rfl) w.heap.size 0 (by rfl) s.cs _ hrd hu (by rfl) hi ⟨c6d, ?_⟩
  simp only [Act.put, List.getElem_toArray, List.getElem_cons_succ, List.getElem_cons_zero, List.setIfInBounds_toArray, List.set_cons_zero, List.set_cons_succ]
  refine T_one (j := 7) (by kernel_rfl) rfl (by rfl) (by kernel_rfl) ?_
  simp only [Act.put, List.getElem_toArray, List.getElem_cons_succ, List.getElem_cons_zero, List.setIfInBounds_toArray, List.set_cons_zero, List.set_cons_succ]
  refine wp_ran (v := .agg (wrc (i, s)).toArray) (w' := w1.drew) (by have := build_write s i w1.drew; simp [execOp, Act.eval, this]) ⟨c6d, ?_⟩
  simp only [Act.put, List.getElem_toArray, List.getElem_cons_succ, List.getElem_cons_zero, List.setIfInBounds_toArray, List.set_cons_zero, List.set_cons_succ]
  refine T_one (j := 8) (by kernel_rfl) rfl (by rfl) (by kernel_rfl) ?_
  simp only [Act.put, List.getElem_toArray, List.getElem_cons_succ, List.getElem_cons_zero, List.setIfInBounds_toArray, List.set_cons_zero, List.set_cons_succ]
  refine wp_ran (v := .slice (some ⟨w1.heap.size, 0, none⟩) 1 1) (w' := w1.drew.alloc (.cells (wrc (i, s)).toArray 76)) (by have := slice_write (i, s) w1.drew; simp [execOp, Act.eval, this]) ⟨(World.cell?_alloc_lt w1.drew _ ⟨g, 6, none⟩ hg1).trans c6d, ?_⟩
  simp only [Act.put, List.getElem_toArray, List.getElem_cons_succ, List.getElem_cons_zero, List.setIfInBounds_toArray, List.set_cons_zero, List.set_cons_succ]
  refine T_off (j := 9) (by kernel_rfl) rfl (by rfl) (by kernel_rfl) ?_
  simp only [Act.put, List.getElem_toArray, List.getElem_cons_succ, List.getElem_cons_zero, List.setIfInBounds_toArray, List.set_cons_zero, List.set_cons_succ]
  refine wp_append_any _ (.tmp 27) (.tmp 31) 65 rfl base 76 i0 _ 129 136 Try.underlying65 hi0 hz0 hz1 hz2 (by simp [Value.cells, wr_len]) (by omega) v d.wait.length (d.wait.flatMap wrc) rfl (Hrow.out.drew.alloc _) (w1.heap.size + 1) (some ⟨w1.heap.size, 0, none⟩) 1 1 (wrc (i, s)) rfl (Reads.newN w1.drew (wrc (i, s)) 1 129 _ _ (by simp [wr_len])) (wr_one (i, s)) (by simp only [maxLen]; omega) (by omega) (by simp; omega) ?_
  intro v2 w2 hown hgrow hat
  obtain ⟨g2, cap2, rfl, hb2, hlt2⟩ := hown.form (Nat.succ_pos _)
  have c62 : w2.cell? ⟨g, 6, none⟩ = some v := (hgrow.cell_far _ (by simp; omega) (Ne.symm g6)).trans ((World.cell?_alloc_lt w1.drew _ ⟨g, 6, none⟩ hg1).trans c6d)
  have f62 : w2.frozen? ⟨g, 6, none⟩ = false := (hgrow.frozen_far _ (by simp; omega) (Ne.symm g6)).trans ((World.frozen?_of_block (w := w1) (Below.heap_alloc w1 _ _ hg1)).trans f6)
  simp only [Act.put, List.getElem_toArray, List.getElem_cons_succ, List.getElem_cons_zero, List.setIfInBounds_toArray, List.set_cons_zero, List.set_cons_succ]
  refine do_one (i := 10) (by kernel_rfl) rfl (by rfl) ?_
  simp only [Act.put, List.getElem_toArray, List.getElem_cons_succ, List.getElem_cons_zero, List.setIfInBounds_toArray, List.set_cons_zero, List.set_cons_succ]
  refine wp_ran (v := .pointer (some ⟨g, 0, none⟩)) (w' := w2) (by kernel_rfl) ?_
  simp only [Act.put, List.getElem_toArray, List.getElem_cons_succ, List.getElem_cons_zero, List.setIfInBounds_toArray, List.set_cons_zero, List.set_cons_succ]
  refine do_one (i := 11) (by kernel_rfl) rfl (by rfl) ?_
  simp only [Act.put, List.getElem_toArray, List.getElem_cons_succ, List.getElem_cons_zero, List.setIfInBounds_toArray, List.set_cons_zero, List.set_cons_succ]
  refine wp_ran (v := .pointer (some ⟨g, 6, none⟩)) (w' := w2) (by kernel_rfl) ?_
  simp only [Act.put, List.getElem_toArray, List.getElem_cons_succ, List.getElem_cons_zero, List.setIfInBounds_toArray, List.set_cons_zero, List.set_cons_succ]
  refine do_one (i := 12) (by kernel_rfl) rfl (by rfl) ?_
  simp only [Act.put, List.getElem_toArray, List.getElem_cons_succ, List.getElem_cons_zero, List.setIfInBounds_toArray, List.set_cons_zero, List.set_cons_succ]
  go_simp
  refine wpAny_done (by kernel_rfl) ?_ _
  refine NoPanic.normal ?_
  have Hown := Lib.hid hown; have Hgrow := Lib.hid hgrow; have Hat := Lib.hid hat
  clear hown hgrow hat
  go_wp2
  go_ret
  have ow : Only (g :: gm :: rowOf v) w w1.drew := (((Only.refl _ w).alloc _).trans o1 (fun k hk => by simp at hk; subst hk; simp)).drew
  have o2 := ((ow.alloc (Obj.cells (wrc (i, s)).toArray 76)).grown Hgrow.out (fun k hk => .inl (by simp [mem_rowOf, hk]))).setCell (p := ⟨g, 6, none⟩) (.inl (by simp)) (Value.slice (some ⟨g2, 0, none⟩) (d.wait.length + 1) cap2)
  have h2 := H1.out.waits Hgrow.out (v2 := Value.slice (some ⟨g2, 0, none⟩) (d.wait.length + 1) cap2) (x := (i, s)) (by rw [DM.step_wait]; exact Hown.out)
  rw [DM.step_wait] at h2
  refine ⟨by unfold DM.writeErr; rw [Hd.out, Ho.out]; rfl, _, ⟨gm, Value.slice (some ⟨g2, 0, none⟩) (d.wait.length + 1) cap2, rfl, ?_⟩, o2, ?_⟩
  · unfold DM.write
    rw [Hd.out, Ho.out]
    exact h2
  · intro k hk
    simp only [List.mem_cons] at hk ⊢
    rcases hk with rfl | rfl | hk
    · simp
    · simp
    · rw [mem_rowOf] at hk
      rcases Hat.out with e | e
      · exact .inl (.inr (.inr (mem_rowOf.2 (e ▸ hk))))
      · rw [e] at hk
        injection hk with hk
        subst hk
        exact .inr (by simp; omega)
theorem write_any (w : World) (base g : Nat) (F : List Nat) (d : DM) (i : Int) (s : Sec) (h : DiskAt w base F g d) (hs : d.steps < 4611686018427387904) (hl : d.left ≤ 9223372036854775807) (hw : d.wait.length ≤ 1000000) (hB : base ≤ w.heap.size) :
    Calls Try.prog 17 #[.pointer (some ⟨g, 0, none⟩), .int .i64 i, s.v] w fun e w' => e = .returned (errV (d.writeErr i)) ∧ DTo w base F g (d.write i s) w' := by
  obtain ⟨gm, v, rfl, h⟩ := h
  cases hd : d.has i with
  | false =>
    have Hd := Lib.hid hd
    have H := Lib.hid h
    clear hd h
    unfold Sec.v
    go_enter Try.func17, Try.ntmps17
    go_wp2_with fail
    refine (has_any _ base g gm v d i (H.out.alloc _)).mono ?_
    rintro e w' ⟨rfl, rfl⟩
    rw [Hd.out]
    go_wp2
    go_ret
    refine ⟨by unfold DM.writeErr; rw [Hd.out]; rfl, ?_⟩
    unfold DM.write
    rw [Hd.out]
    exact ⟨_, ⟨gm, v, rfl, H.out.alloc _⟩, (Only.refl _ _).alloc _, Fresh.refl _ _⟩
  | true =>
    cases ho : d.off with
    | false => exact write_in w base g gm v d i s h hs hl hd ho hw hB
    | true =>
      have hse : d.stepErr = 3 := by simp [DM.stepErr, ho]
      have Hd := Lib.hid hd
      have Ho := Lib.hid ho
      have Hse := Lib.hid hse
      have H := Lib.hid h
      clear hd h ho hse
      unfold Sec.v
      go_enter Try.func17, Try.ntmps17
      go_wp2_with fail
      refine (has_any _ base g gm v d i (H.out.alloc _)).mono ?_
      rintro e w' ⟨rfl, rfl⟩
      rw [Hd.out]
      go_wp2_with fail
      refine (step_any _ base g gm v d (H.out.alloc _) hs hl).mono ?_
      rintro e w1 ⟨rfl, h1, o1⟩
      have H1 := Lib.hid h1
      have hgw := H.out.blk.lt
      clear h1
      rw [Hse.out]
      simp only [errV]
      go_wp2
      go_ret
      refine ⟨by unfold DM.writeErr; rw [Hd.out, Ho.out]; rfl, ?_⟩
      unfold DM.write
      rw [Hd.out, Ho.out]
      exact ⟨_, ⟨gm, v, rfl, H1.out⟩, ((Only.refl _ w).alloc _).trans (o1.mono (fun k hk => by simp at hk; simp [hk])) (Fresh.refl _ _), Fresh.refl _ _⟩
end Go.Proofs.Ytgcghoalepkdfaa
