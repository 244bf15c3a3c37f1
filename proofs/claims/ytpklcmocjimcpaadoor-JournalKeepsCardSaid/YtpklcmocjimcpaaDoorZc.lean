/-
  What the disk's Write returns and turns. Conditions: the disk lies where it is said to; its numbers are below 2^62; no more than a million writes wait.
-/
import Derived.Test.YtpklcmocjimcpaaDoorZb
import Derived.Deep.DrawnRows
import Derived.RangeFuncNested
import Derived.RangeFuncBound
import Derived.RangeFuncCalls
import Derived.RangeFuncLeaves
import Derived.Shelf.Abstract
import Derived.Shelf.RegionOpen
import Derived.WalkKit
import Derived.OwnWalkIn
import Derived.TacticsInMore
import Derived.LoopNIn
import Derived.LoopIn
import Derived.Shelf.SlMaps.Clone
import Derived.Laws.StructEq

namespace Go.Proofs.YtpklcmocjimcpaaDoor
open Go.RowKit
set_option maxRecDepth 100000
set_option linter.unusedSimpArgs false
attribute [local go_sem ↓] Go.wp_at_zero Go.wp_at_succ
set_option maxRecDepth 100000 in
theorem write_in (w : World) (base g gm : Nat) (v : Value) (d : DM) (i : Int) (s : Sec) (h : Lies w base g gm v d) (hs : d.steps < 4611686018427387904) (hl : d.left ≤ 9223372036854775807) (hd : d.has i = true) (ho : d.off = false) (hw : d.wait.length ≤ 1000000) (hB : base ≤ w.heap.size) :
    Calls Tryd.prog 55 #[.pointer (some ⟨g, 0, none⟩), .int .i64 i, s.v] w fun e w' => e = .returned (errV (d.writeErr i)) ∧ DTo w base (g :: gm :: rowOf v) g (d.write i s) w' := by
  unfold Sec.v
  have hse : d.stepErr = 0 := by simp [DM.stepErr, ho]
  have Hd := Lib.hid hd; have Ho := Lib.hid ho; have Hse := Lib.hid hse
  clear hd ho hse
  have H := Lib.hid h
  clear h
  go_enter Tryd.func55, Tryd.ntmps55
  go_wp2_with fail
  refine (has_any _ base g gm v d i (H.out.alloc _)).mono ?_
  rintro e w' ⟨rfl, rfl⟩
  rw [Hd.out]
  go_wp2_with fail
  refine (step_any _ base g gm v d (H.out.alloc _) hs hl).mono ?_
  rintro e w1 ⟨rfl, h1, o1⟩
  rw [Hse.out]
  have hgw := H.out.blk.lt
  obtain ⟨-, -, -, -, -, -, c6, hf⟩ := h1.cells
  have f6 := hf 6
  have hbx : Blk w1 w.heap.size 90 s.cs.toArray := (Blk.new w _ _).of (o1.block _ (by simp) (by simp; omega))
  have hr : w1.rangeAt w.heap.size 0 s.cs := by have := World.rangeAt_of_block hbx 0 128; simpa [s.cs_len, List.take_of_length_le] using this
  have hrow : w1.ownsRow base 92 129 v d.wait.length (d.wait.flatMap wrc) := by have := h1.row; unfold DM.step at this; rw [Ho.out] at this; exact this
  have hsz : w.heap.size + 1 ≤ w1.heap.size := by have := o1.size; simpa using this
  have g6 : v.ownBlock ≠ some g := own_blk_ne hrow h1.blk (by decide)
  have gb : v.ownBlock ≠ some w.heap.size := own_blk_ne hrow hbx (by decide)
  have hu := Tryd.underlying90
  have hi : (Tryd.prog.info? 90).map (·.size) = some s.cs.length := by rw [s.cs_len]; exact sec_size
  obtain ⟨i0, hi0, hz0, hz1, hz2⟩ := info_parts write_info
  have hg1 : g < w1.heap.size := by omega
  have hne : w.heap.size ≠ g := by omega
  have H1 := Lib.hid h1
  have Hrow := Lib.hid hrow
  have Hf := Lib.hid hf
  have Hbx := Lib.hid hbx
  clear h1 hrow hf hbx
  simp only [errV]
  go_wp2
  refine any_begin (by kernel_rfl) ?_
  refine wpAny_take (i := 0) (v := .pointer (some ⟨g, 0, none⟩)) rfl (by kernel_rfl) (by kernel_rfl) (by kernel_rfl) (fun _ _ _ h => h) (Or.inl ⟨by rfl, fun w => by kernel_rfl⟩) ?_
  simp only [Act.put, List.getElem_toArray, List.getElem_cons_succ, List.getElem_cons_zero, List.setIfInBounds_toArray, List.set_cons_zero, List.set_cons_succ]
  refine wpAny_take (i := 1) (v := .pointer (some ⟨g, 0, none⟩)) rfl (by kernel_rfl) (by kernel_rfl) (by kernel_rfl) (fun _ _ _ h => h) (Or.inl ⟨by rfl, fun w => by kernel_rfl⟩) ?_
  simp only [Act.put, List.getElem_toArray, List.getElem_cons_succ, List.getElem_cons_zero, List.setIfInBounds_toArray, List.set_cons_zero, List.set_cons_succ]
  refine wpAny_take (i := 2) (v := .pointer (some ⟨g, 0, none⟩)) rfl (by kernel_rfl) (by kernel_rfl) (by kernel_rfl) (fun _ _ _ h => h) (Or.inl ⟨by rfl, fun w => by kernel_rfl⟩) ?_
  simp only [Act.put, List.getElem_toArray, List.getElem_cons_succ, List.getElem_cons_zero, List.setIfInBounds_toArray, List.set_cons_zero, List.set_cons_succ]
  refine wpAny_take (i := 3) (v := .pointer (some ⟨g, 6, none⟩)) rfl (by kernel_rfl) (by kernel_rfl) (by kernel_rfl) (fun _ _ _ h => h) (Or.inl ⟨by rfl, fun w => by kernel_rfl⟩) ?_
  simp only [Act.put, List.getElem_toArray, List.getElem_cons_succ, List.getElem_cons_zero, List.setIfInBounds_toArray, List.set_cons_zero, List.set_cons_succ]
  refine wpAny_take (i := 6) (v := .int .i64 i) rfl (by kernel_rfl) (by kernel_rfl) (by kernel_rfl) (fun _ _ _ h => h) (Or.inl ⟨by rfl, fun w => by kernel_rfl⟩) ?_
  simp only [Act.put, List.getElem_toArray, List.getElem_cons_succ, List.getElem_cons_zero, List.setIfInBounds_toArray, List.set_cons_zero, List.set_cons_succ]
  have hrd : w1.drew.rangeAt w.heap.size 0 s.cs := hr
  have c6d : w1.drew.cell? ⟨g, 6, none⟩ = some v := c6
  refine T_take (i := 4) (v := v) (T := fun w' => w'.cell? ⟨g, 6, none⟩ = some v) rfl (by kernel_rfl) (by kernel_rfl) (by kernel_rfl) (fun _ _ _ h => h) (Or.inl ⟨by rfl, fun w' hw' => by go_simp⟩) c6d ?_
  simp only [Act.put, List.getElem_toArray, List.getElem_cons_succ, List.getElem_cons_zero, List.setIfInBounds_toArray, List.set_cons_zero, List.set_cons_succ]
  refine T_one (j := 5) (by kernel_rfl) rfl (by rfl) (by kernel_rfl) ?_
  simp only [Act.put, List.getElem_toArray, List.getElem_cons_succ, List.getElem_cons_zero, List.setIfInBounds_toArray, List.set_cons_zero, List.set_cons_succ]
  refine wp_load_mid 90 (.tmp 5) (by rfl) w.heap.size 0 (by rfl) s.cs _ hrd hu (by rfl) hi ⟨c6d, ?_⟩
  simp only [Act.put, List.getElem_toArray, List.getElem_cons_succ, List.getElem_cons_zero, List.setIfInBounds_toArray, List.set_cons_zero, List.set_cons_succ]
  refine T_one (j := 7) (by kernel_rfl) rfl (by rfl) (by kernel_rfl) ?_
  simp only [Act.put, List.getElem_toArray, List.getElem_cons_succ, List.getElem_cons_zero, List.setIfInBounds_toArray, List.set_cons_zero, List.set_cons_succ]
  refine wp_ran (v := .agg (wrc (i, s)).toArray) (w' := w1.drew) (by have := build_write s i w1.drew; simp [execOp, Act.eval, this]) ⟨c6d, ?_⟩
  simp only [Act.put, List.getElem_toArray, List.getElem_cons_succ, List.getElem_cons_zero, List.setIfInBounds_toArray, List.set_cons_zero, List.set_cons_succ]
  refine T_one (j := 8) (by kernel_rfl) rfl (by rfl) (by kernel_rfl) ?_
  simp only [Act.put, List.getElem_toArray, List.getElem_cons_succ, List.getElem_cons_zero, List.setIfInBounds_toArray, List.set_cons_zero, List.set_cons_succ]
  refine wp_ran (v := .slice (some ⟨w1.heap.size, 0, none⟩) 1 1) (w' := w1.drew.alloc (.cells (wrc (i, s)).toArray 92)) (by have := slice_write (i, s) w1.drew; simp [execOp, Act.eval, this]) ⟨(World.cell?_alloc_lt w1.drew _ ⟨g, 6, none⟩ hg1).trans c6d, ?_⟩
  simp only [Act.put, List.getElem_toArray, List.getElem_cons_succ, List.getElem_cons_zero, List.setIfInBounds_toArray, List.set_cons_zero, List.set_cons_succ]
  refine T_off (j := 9) (by kernel_rfl) rfl (by rfl) (by kernel_rfl) ?_
  simp only [Act.put, List.getElem_toArray, List.getElem_cons_succ, List.getElem_cons_zero, List.setIfInBounds_toArray, List.set_cons_zero, List.set_cons_succ]
  refine wp_append_any _ (.tmp 27) (.tmp 31) 60 rfl base 92 i0 _ 129 136 Tryd.underlying60 hi0 hz0 hz1 hz2 (by simp [Value.cells, wr_len]) (by omega) v d.wait.length (d.wait.flatMap wrc) rfl (Hrow.out.drew.alloc _) (w1.heap.size + 1) (some ⟨w1.heap.size, 0, none⟩) 1 1 (wrc (i, s)) rfl (Reads.newN w1.drew (wrc (i, s)) 1 129 _ _ (by simp [wr_len])) (wr_one (i, s)) (by simp only [maxLen]; omega) (by omega) (by simp; omega) ?_
  intro v2 w2 hown hgrow hat
  obtain ⟨g2, cap2, rfl, hb2, hlt2⟩ := hown.form (Nat.succ_pos _)
  have c62 : w2.cell? ⟨g, 6, none⟩ = some v := (hgrow.cell_far _ (by simp; omega) (Ne.symm g6)).trans ((World.cell?_alloc_lt w1.drew _ ⟨g, 6, none⟩ hg1).trans c6d)
  have f62 : w2.frozen? ⟨g, 6, none⟩ = false := (hgrow.frozen_far _ (by simp; omega) (Ne.symm g6)).trans ((World.frozen?_of_block (w := w1) (Below.heap_alloc w1 _ _ hg1)).trans f6)
  simp only [Act.put, List.getElem_toArray, List.getElem_cons_succ, List.getElem_cons_zero, List.setIfInBounds_toArray, List.set_cons_zero, List.set_cons_succ]
  refine do_one (i := 10) (by kernel_rfl) rfl (by rfl) ?_
  simp only [Act.put, List.getElem_toArray, List.getElem_cons_succ, List.getElem_cons_zero, List.setIfInBounds_toArray, List.set_cons_zero, List.set_cons_succ]
  refine wp_ran (v := .pointer (some ⟨g, 0, none⟩)) (w' := w2) (by kernel_rfl) ?_
  simp only [Act.put, List.getElem_toArray, List.getElem_cons_succ, List.getElem_cons_zero, List.setIfInBounds_toArray, List.set_cons_zero, List.set_cons_succ]
  refine do_one (i := 11) (by kernel_rfl) rfl (by rfl) ?_
  simp only [Act.put, List.getElem_toArray, List.getElem_cons_succ, List.getElem_cons_zero, List.setIfInBounds_toArray, List.set_cons_zero, List.set_cons_succ]
  refine wp_ran (v := .pointer (some ⟨g, 6, none⟩)) (w' := w2) (by kernel_rfl) ?_
  simp only [Act.put, List.getElem_toArray, List.getElem_cons_succ, List.getElem_cons_zero, List.setIfInBounds_toArray, List.set_cons_zero, List.set_cons_succ]
  refine do_one (i := 12) (by kernel_rfl) rfl (by rfl) ?_
  simp only [Act.put, List.getElem_toArray, List.getElem_cons_succ, List.getElem_cons_zero, List.setIfInBounds_toArray, List.set_cons_zero, List.set_cons_succ]
  go_simp
  refine wpAny_done (by kernel_rfl) ?_ _
  refine NoPanic.normal ?_
  have Hown := Lib.hid hown; have Hgrow := Lib.hid hgrow; have Hat := Lib.hid hat
  clear hown hgrow hat
  go_wp2
  go_ret
  have ow : Only (g :: gm :: rowOf v) w w1.drew := (((Only.refl _ w).alloc _).trans o1 (fun k hk => by simp at hk; subst hk; simp)).drew
  have o2 := ((ow.alloc (Obj.cells (wrc (i, s)).toArray 92)).grown Hgrow.out (fun k hk => .inl (by simp [mem_rowOf, hk]))).setCell (p := ⟨g, 6, none⟩) (.inl (by simp)) (Value.slice (some ⟨g2, 0, none⟩) (d.wait.length + 1) cap2)
  have h2 := H1.out.waits Hgrow.out (v2 := Value.slice (some ⟨g2, 0, none⟩) (d.wait.length + 1) cap2) (x := (i, s)) (by rw [DM.step_wait]; exact Hown.out)
  rw [DM.step_wait] at h2
  refine ⟨by unfold DM.writeErr; rw [Hd.out, Ho.out]; rfl, _, ⟨gm, Value.slice (some ⟨g2, 0, none⟩) (d.wait.length + 1) cap2, rfl, ?_⟩, o2, ?_⟩
  · unfold DM.write
    rw [Hd.out, Ho.out]
    exact h2
  · intro k hk
    simp only [List.mem_cons] at hk ⊢
    rcases hk with rfl | rfl | hk
    · simp
    · simp
    · rw [mem_rowOf] at hk
      rcases Hat.out with e | e
      · exact .inl (.inr (.inr (mem_rowOf.2 (e ▸ hk))))
      · rw [e] at hk
        injection hk with hk
        subst hk
        exact .inr (by simp; omega)
theorem write_any (w : World) (base g : Nat) (F : List Nat) (d : DM) (i : Int) (s : Sec) (h : DiskAt w base F g d) (hs : d.steps < 4611686018427387904) (hl : d.left ≤ 9223372036854775807) (hw : d.wait.length ≤ 1000000) (hB : base ≤ w.heap.size) :
    Calls Tryd.prog 55 #[.pointer (some ⟨g, 0, none⟩), .int .i64 i, s.v] w fun e w' => e = .returned (errV (d.writeErr i)) ∧ DTo w base F g (d.write i s) w' := by
  obtain ⟨gm, v, rfl, h⟩ := h
  cases hd : d.has i with
  | false =>
    have Hd := Lib.hid hd
    have H := Lib.hid h
    clear hd h
    unfold Sec.v
    go_enter Tryd.func55, Tryd.ntmps55
    go_wp2_with fail
    refine (has_any _ base g gm v d i (H.out.alloc _)).mono ?_
    rintro e w' ⟨rfl, rfl⟩
    rw [Hd.out]
    go_wp2
    go_ret
    refine ⟨by unfold DM.writeErr; rw [Hd.out]; rfl, ?_⟩
    unfold DM.write
    rw [Hd.out]
    exact ⟨_, ⟨gm, v, rfl, H.out.alloc _⟩, (Only.refl _ _).alloc _, Fresh.refl _ _⟩
  | true =>
    cases ho : d.off with
    | false => exact write_in w base g gm v d i s h hs hl hd ho hw hB
    | true =>
      have hse : d.stepErr = 3 := by simp [DM.stepErr, ho]
      have Hd := Lib.hid hd
      have Ho := Lib.hid ho
      have Hse := Lib.hid hse
      have H := Lib.hid h
      clear hd h ho hse
      unfold Sec.v
      go_enter Tryd.func55, Tryd.ntmps55
      go_wp2_with fail
      refine (has_any _ base g gm v d i (H.out.alloc _)).mono ?_
      rintro e w' ⟨rfl, rfl⟩
      rw [Hd.out]
      go_wp2_with fail
      refine (step_any _ base g gm v d (H.out.alloc _) hs hl).mono ?_
      rintro e w1 ⟨rfl, h1, o1⟩
      have H1 := Lib.hid h1
      have hgw := H.out.blk.lt
      clear h1
      rw [Hse.out]
      simp only [errV]
      go_wp2
      go_ret
      refine ⟨by unfold DM.writeErr; rw [Hd.out, Ho.out]; rfl, ?_⟩
      unfold DM.write
      rw [Hd.out, Ho.out]
      exact ⟨_, ⟨gm, v, rfl, H1.out⟩, ((Only.refl _ w).alloc _).trans (o1.mono (fun k hk => by simp at hk; simp [hk])) (Fresh.refl _ _), Fresh.refl _ _⟩
end Go.Proofs.YtpklcmocjimcpaaDoor

/-
  What the disk's settle turns: the writes that wait are done whose place is kept. Conditions: the disk lies where it is said to; no more than a million writes wait; the function that tells what is kept has a contract of its own.
-/
namespace Go.Proofs.YtpklcmocjimcpaaDoor
open Go.RowKit
set_option maxRecDepth 100000
set_option linter.unusedSimpArgs false
attribute [local go_sem ↓] Go.wp_at_zero Go.wp_at_succ
theorem settle_any (w : World) (base g gm : Nat) (v : Value) (d : DM) (h : Lies w base g gm v d) (hw : d.wait.length ≤ 1000000) (f : Nat) (cap : Array Value) (kept : Nat → Bool) (I : World → Prop) (hI0 : I w)
    (hIs : ∀ W W', Only [gm] W W' → I W → I W') (hcf : ∀ args W, (callFunc f args).run Tryd.prog W = .ok (.enter f args) W)
    (hK : ∀ (k : Nat) W, k < d.wait.length → I W → Calls Tryd.prog f (#[.int .i64 k] ++ cap) W fun e W' => e = .returned (.bool (kept k)) ∧ W = W') :
    Calls Tryd.prog 36 #[.pointer (some ⟨g, 0, none⟩), .func (.func f) #[] cap] w fun e w' => e = .returned (.tuple #[]) ∧ Lies w' base g gm (.slice none 0 0) (d.settle kept) ∧ Only [g, gm] w w' := by
  obtain ⟨-, -, -, -, -, c5, c6, hf⟩ := h.cells
  have f6 := hf 6
  clear hf
  obtain ⟨A, cp, rfl⟩ : ∃ A cp, v = .slice A d.wait.length cp := by
    rcases h.row.2 with ⟨rfl, hn⟩ | ⟨g', cap, cur, rfl, _⟩
    · rw [hn]; exact ⟨_, _, rfl⟩
    · exact ⟨_, _, rfl⟩
  have HI0 := Lib.hid hI0
  have HIs := Lib.hid hIs
  have HK := Lib.hid hK
  have H := Lib.hid h
  clear h hI0 hIs hK
  go_enter Tryd.func36, Tryd.ntmps36
  go_wp2
  go_loopw [11] (fun i wr => ∃ k : Nat, k ≤ d.wait.length ∧ i = .int .i64 k ∧ Lies wr base g gm (.slice A d.wait.length cp) { d with sure := settled kept 0 (d.wait.take k) d.sure } ∧ Only [gm] w wr ∧ I wr) (fun i _ => d.wait.length - (intOf i).toNat)
  case atStart => exact ⟨0, Nat.zero_le _, rfl, by simpa [settled] using H.out, Only.refl _ _, HI0.out⟩
  case round =>
    obtain ⟨k, hk, rfl, hL, ho, hI⟩ := hrel
    by_cases hlt : k < d.wait.length
    · obtain ⟨gw, x, rfl, hnc, hx, hr, hbg, hgl⟩ := row_at wr_len hL.row rfl hlt
      have hu := Tryd.underlying92
      have hi : (Tryd.prog.info? 92).map (·.size) = some (wrc x).length := by rw [wr_len]; exact write_size
      obtain ⟨Z, hZ1, hZ2⟩ := write_zero_at
      have Hx := Lib.hid hx
      have HL := Lib.hid hL
      have HI := Lib.hid hI
      have Ho := Lib.hid ho
      clear hx hL hI ho
      go_wp2_with (first
        | (refine wpList_load_mid rfl 92 (.tmp 14) rfl gw (k * 129) rfl (wrc x) _ hr hu rfl hi ?_)
        | (refine wpList_store_new rfl 92 (.tmp 5) (.tmp 15) rfl (wrc x) Z rfl rfl hi (by rw [hZ2, wr_len]) (wr_one x) ?_))
      refine (HK.out k _ hlt (HIs.out _ _ ((Only.refl _ _).alloc _) HI.out)).mono ?_
      rintro e w' ⟨rfl, rfl⟩
      cases hkp : kept k with
      | false =>
        have Hkp := Lib.hid hkp
        clear hkp
        go_wp2
        go_roundw
        case rel =>
          refine ⟨k + 1, by omega, by go_num, ?_, Ho.out.alloc _, HIs.out _ _ ((Only.refl _ _).alloc _) HI.out⟩
          rw [List.take_add_one, Hx.out, Option.toList_some, settled_snoc, List.length_take, Nat.min_eq_left hk, Nat.zero_add, Hkp.out]
          exact HL.out.alloc _
        case measure => simp [intOf]; omega
      | true =>
        have Hkp := Lib.hid hkp
        clear hkp
        go_wp2
        have HLa := Lib.hid (HL.out.alloc (.cells (wrc x).toArray 92))
        have HIa := Lib.hid (HIs.out _ _ ((Only.refl _ wr).alloc (.cells (wrc x).toArray 92)) HI.out)
        have Hoa := Lib.hid (Ho.out.alloc (.cells (wrc x).toArray 92))
        have hbx : Blk (wr.alloc (.cells (wrc x).toArray 92)) wr.heap.size 92 (wrc x).toArray := Blk.new wr _ _
        have hwa : (wr.alloc (.cells (wrc x).toArray 92)).heap.size = wr.heap.size + 1 := by simp
        generalize hga : wr.alloc (.cells (wrc x).toArray 92) = wa at *
        clear hga
        obtain ⟨f0, hm0, hf0⟩ := HLa.out.map
        obtain ⟨-, -, -, -, -, k5, -, -⟩ := HLa.out.cells
        obtain ⟨w3, hrun, hm3, hg3, hs3⟩ := run_mapUpdate_map (P := Tryd.prog) (w := wa.drew) Tryd.underlying57 Tryd.underlying3 (hm0.of rfl) x.1 x.2.v
        unfold Sec.v at hrun
        have hgm : gm ≠ g := hm0.ne_blk HLa.out.blk
        have hgb : gm ≠ wr.heap.size := hm0.ne_blk hbx
        have hgl1 := HLa.out.blk.lt
        have cat : wa.cell? ⟨wr.heap.size, 128, none⟩ = some (.int .i64 x.1) := by
          rw [hbx.cell]
          simp [wrc, x.2.cs_len]
        have rat : wa.rangeAt wr.heap.size 0 x.2.cs := fun j u hj => by
          rw [Nat.zero_add, hbx.cell]
          have : j < x.2.cs.length := (List.getElem?_eq_some_iff.1 hj).1
          simp only [wrc, List.getElem?_toArray]
          rw [List.getElem?_append_left this]
          exact hj
        have hu2 := Tryd.underlying90
        have hi2 : (Tryd.prog.info? 90).map (·.size) = some x.2.cs.length := by rw [x.2.cs_len]; exact sec_size
        clear hu hi
        have Hm3 := Lib.hid hm3
        have Hg3 := Lib.hid hg3
        have Hs3 := Lib.hid hs3
        have Hf0 := Lib.hid hf0
        have Hbx := Lib.hid hbx
        have Hwa := Lib.hid hwa
        clear hm3 hg3 hs3 hf0 hbx hwa
        go_region_held3 (fun w' => w'.cell? ⟨g, 5, none⟩ = some (.map (some gm)) ∧ w'.cell? ⟨wr.heap.size, 128, none⟩ = some (.int .i64 x.1) ∧ w'.rangeAt wr.heap.size 0 x.2.cs)
          (first
            | exact ⟨k5, cat, rat⟩
            | exact ⟨(Hg3.out.cell_far _ hgl1 (by simpa using Ne.symm hgm)).trans k5, (Hg3.out.cell_far _ Hbx.out.lt (by simpa using Ne.symm hgb)).trans cat, fun j u hj => (Hg3.out.cell_far _ Hbx.out.lt (by simpa using Ne.symm hgb)).trans (rat j u hj)⟩)
          (fail)
        go_wp2
        go_roundw
        case rel =>
          refine ⟨k + 1, by omega, by go_num, ?_, Hoa.out.drew.grown Hg3.out (fun j e => .inl (by injection e with e; simp [e])), HIs.out _ _ ((Only.refl _ wa).drew.grown Hg3.out (fun j e => .inl (by injection e with e; simp [e]))) HIa.out⟩
          rw [List.take_add_one, Hx.out, Option.toList_some, settled_snoc, List.length_take, Nat.min_eq_left hk, Nat.zero_add, Hkp.out, if_pos rfl]
          exact (HLa.out.drew).maps Hf0.out Hg3.out Hm3.out
        case measure => simp [intOf]; omega
    · obtain rfl : k = d.wait.length := by omega
      obtain ⟨-, -, -, -, -, -, r6, rf⟩ := hL.cells
      have rf6 := rf 6
      clear rf
      have HL := Lib.hid hL
      have HI := Lib.hid hI
      have Ho := Lib.hid ho
      clear hL hI ho
      go_wp2
      go_end0
      rw [List.take_length] at HL
      have o2 : Only [g, gm] w (wr.setCell ⟨g, 6, none⟩ (.slice none 0 0)) := (Ho.out.mono (fun k hk => by simp at hk; simp [hk])).setCell (by simp) _
      refine ⟨rfl, ?_, o2⟩
      have hb := HL.out.blk.set_ 6 (.slice none 0 0)
      obtain ⟨f0, hm0, hf0⟩ := HL.out.map
      exact ⟨hb, ⟨f0, hm0.of (Below.heap_setCell _ _ _ _ (hm0.ne_blk HL.out.blk)), hf0⟩, World.ownsRow_nil _ _ _ _, H.out.bg, H.out.bm⟩
theorem yes_any (k : Int) (w : World) : Calls Tryd.prog 67 #[.int .i64 k] w fun e w' => e = .returned (.bool true) ∧ w = w' := by
  go_enter Tryd.func67, Tryd.ntmps67
  go_wp2
  go_ret
  exact ⟨rfl, rfl⟩
/-- the flags of what is kept, as cells -/
def flags (l : List Bool) : List Value := l.map Value.bool
theorem kept_flag (A : Option Addr) (c B b : Nat) (keep : List Bool) (k : Nat) (w : World) (hb : w.cell? ⟨b, 0, none⟩ = some (.slice A keep.length c)) (hr : Reads w B 1 A keep.length (flags keep)) :
    Calls Tryd.prog 37 #[.int .i64 k, .pointer (some ⟨b, 0, none⟩)] w fun e w' => e = .returned (.bool (keptOf keep k)) ∧ w = w' := by
  by_cases hlt : k < keep.length
  · obtain ⟨ad, u, rfl, _, hu, hc⟩ := hr.at_ hlt
    have hu2 : u = .bool (keptOf keep k) := by
      simp only [flags, List.getElem?_map, List.getElem?_eq_getElem hlt, Option.map_some, Option.some.injEq] at hu
      rw [← hu]
      simp [keptOf, hlt]
    have HU := Lib.hid hu2
    have hd : decide ((k : Int) < (keep.length : Int)) = true := by simpa using hlt
    clear hu2 hu hr
    have hc2 : w.cell? (ad.add k) = some (.bool (keptOf keep k)) := by rw [← HU.out]; exact hc
    clear hc HU
    go_enter Tryd.func37, Tryd.ntmps37
    go_wp2
    go_ret
    exact ⟨by simp, rfl⟩
  · have hd : decide ((k : Int) < (keep.length : Int)) = false := by simpa using hlt
    have hu2 : keptOf keep k = false := by simp [keptOf, List.getElem?_eq_none (Nat.le_of_not_lt hlt)]
    have HU := Lib.hid hu2
    clear hu2 hr
    go_enter Tryd.func37, Tryd.ntmps37
    go_wp2
    go_ret
    exact ⟨by rw [HU.out]; rfl, rfl⟩
theorem only_two {w w' : World} {g gm : Nat} {v : Value} (h : Only [g, gm] w w') : Only (g :: gm :: rowOf v) w w' := h.mono (fun k hk => by simp at hk ⊢; rcases hk with rfl | rfl <;> simp)
theorem flush_any (w : World) (base g : Nat) (F : List Nat) (d : DM) (h : DiskAt w base F g d) (hs : d.steps < 4611686018427387904) (hl : d.left ≤ 9223372036854775807) (hw : d.wait.length ≤ 1000000) :
    Calls Tryd.prog 56 #[.pointer (some ⟨g, 0, none⟩)] w fun e w' => e = .returned (errV d.stepErr) ∧ DTo w base F g d.flush w' := by
  obtain ⟨gm, v, rfl, h⟩ := h
  cases ho : d.off with
  | true =>
    have hse : d.stepErr = 3 := by simp [DM.stepErr, ho]
    have Ho := Lib.hid ho
    have Hse := Lib.hid hse
    have H := Lib.hid h
    clear h ho hse
    go_enter Tryd.func56, Tryd.ntmps56
    go_wp2_with fail
    refine (step_any _ base g gm v d H.out hs hl).mono ?_
    rintro e w1 ⟨rfl, h1, o1⟩
    have H1 := Lib.hid h1
    clear h1
    rw [Hse.out]
    simp only [errV]
    go_wp2
    go_ret
    refine ⟨by rw [Hse.out]; rfl, ?_⟩
    unfold DM.flush
    rw [Ho.out]
    exact H1.out.to o1
  | false =>
    have hse : d.stepErr = 0 := by simp [DM.stepErr, ho]
    have Ho := Lib.hid ho
    have Hse := Lib.hid hse
    have H := Lib.hid h
    clear h ho hse
    go_enter Tryd.func56, Tryd.ntmps56
    go_wp2_with fail
    refine (step_any _ base g gm v d H.out hs hl).mono ?_
    rintro e w1 ⟨rfl, h1, o1⟩
    have H1 := Lib.hid h1
    clear h1
    rw [Hse.out]
    simp only [errV]
    go_wp2_with fail
    refine (settle_any w1 base g gm v d.step H1.out (by rw [DM.step_wait]; exact hw) 67 #[] (fun _ => true) (fun _ => True) trivial (fun _ _ _ _ => trivial) (fun _ _ => rfl) (fun k W _ _ => yes_any k W)).mono ?_
    rintro e w2 ⟨rfl, h2, o2⟩
    have H2 := Lib.hid h2
    clear h2
    go_wp2
    go_ret
    refine ⟨by rw [Hse.out]; rfl, ?_⟩
    unfold DM.flush
    rw [Ho.out]
    exact ⟨_, ⟨gm, _, rfl, H2.out⟩, (o1.mono (fun k hk => by simp at hk; simp [hk])).trans (only_two o2) (Fresh.refl _ _), fun k hk => .inl (by simp [rowOf, Value.ownBlock] at hk; rcases hk with rfl | rfl <;> simp)⟩
theorem crash_any (w : World) (base g : Nat) (F : List Nat) (d : DM) (A : Option Addr) (c B : Nat) (keep : List Bool) (h : DiskAt w base F g d) (hw : d.wait.length ≤ 1000000) (hR : ∀ W', Only F w W' → Reads W' B 1 A keep.length (flags keep)) :
    Calls Tryd.prog 15 #[.pointer (some ⟨g, 0, none⟩), .slice A keep.length c] w fun e w' => e = .returned (.tuple #[]) ∧ DTo w base F g (d.crash keep) w' := by
  obtain ⟨gm, v, rfl, h⟩ := h
  have H := Lib.hid h
  have HR := Lib.hid hR
  have hgw := h.blk.lt
  obtain ⟨f0, hm0, -⟩ := h.map
  have hgm := hm0.lt
  clear h hR hm0
  go_enter Tryd.func15, Tryd.ntmps15
  go_wp2_with fail
  have o0 : Only (g :: gm :: rowOf v) w (w.alloc (.cells #[.slice A keep.length c] 23)) := (Only.refl _ _).alloc _
  refine (settle_any _ base g gm v d (H.out.alloc _) hw 37 #[.pointer (some ⟨w.heap.size, 0, none⟩)] (keptOf keep)
    (fun W => W.cell? ⟨w.heap.size, 0, none⟩ = some (.slice A keep.length c) ∧ Only (g :: gm :: rowOf v) w W) ⟨?_, o0⟩ ?_ (fun _ _ => rfl)
    (fun k W _ hI => kept_flag A c B w.heap.size keep k W hI.1 (HR.out W hI.2))).mono ?_
  · rw [(Blk.new w _ _).cell]; rfl
  · intro W W' hO hI
    refine ⟨(hO.cell (p := ⟨w.heap.size, 0, none⟩) (block_lt_of_cell hI.1) (by simp; omega)).trans hI.1, hI.2.trans (hO.mono (fun k hk => ?_)) (Fresh.refl _ _)⟩
    simp at hk
    simp [hk]
  rintro e w2 ⟨rfl, h2, o2⟩
  have H2 := Lib.hid h2
  have O2 := Lib.hid (o0.trans (only_two o2) (Fresh.refl _ _))
  clear h2 o2 o0
  go_wp2_with fail
  refine (restore_any w2 base g gm _ _ H2.out).mono ?_
  rintro e w3 ⟨rfl, h3, o3⟩
  have H3 := Lib.hid h3
  have O3 := Lib.hid (O2.out.trans (o3.mono (fun k hk => by simp at hk; simp [hk])) (Fresh.refl _ _))
  clear h3 o3
  go_wp2
  go_end0
  exact ⟨rfl, _, ⟨gm, _, rfl, H3.out⟩, O3.out, fun k hk => .inl (by simp [rowOf, Value.ownBlock] at hk; rcases hk with rfl | rfl <;> simp)⟩
end Go.Proofs.YtpklcmocjimcpaaDoor

/-
  Loads and stores of many cells inside a fence; the fence's own small words. No condition.
-/
namespace Go.Proofs.YtpklcmocjimcpaaDoor
open Go.RowKit Go.Shelf
set_option maxRecDepth 100000
section
variable {F : Fence} {nF : Nat} {P : Program} {ops : Array Oper} {rest : List Oper} {o : Oper} {a : Act} {w : World} {Q : Exit → Act → World → Prop}
theorem wpListIn_load_mid (hg : o.guard = none) (ty : TypeId) (x : Operand) (ho : o.op = .load ty x)
    (b off : Nat) (hx : a.eval x = .pointer (some ⟨b, off, none⟩)) (cs : List Value) (d : TypeDesc) (hc : w.rangeAt b off cs)
    (hu : P.underlying ty = some d) (hd : d.isRow = true) (hi : (P.info? ty).map (·.size) = some cs.length)
    (h : wpListIn F nF P ops Q rest (a.put o.dst (.agg cs.toArray)) w) : wpListIn F nF P ops Q (o :: rest) a w := by
  refine wpListIn_plain hg fun K' hK' => ?_
  unfold Oper.wpIn
  refine ⟨by simp [Oper.about, ho], ?_⟩
  rw [Oper.semAt_plain F _ _ (by rw [ho]; intro c hc'; cases hc')]
  unfold execOp
  simp only [ho, hx, Instr.loadAt, Instr.sureAddr, Sem.run_bind, Sem.run_pure, Result.andThen_ok, run_loadVar_mid w b off ty cs d hc hu hd hi]
  exact hK' _ _ h
theorem wpListIn_store_mid (hg : o.guard = none) (ty : TypeId) (x y : Operand) (ho : o.op = .store ty x y)
    (b off : Nat) (cells : Array Value) (hx : a.eval x = .pointer (some ⟨b, off, none⟩)) (hy : a.eval y = .agg cells)
    (ht : w.there b off cells.size) (hi : (P.info? ty).map (·.size) = some cells.size) (h1 : cells.all (·.oneCell') = true)
    (h : wpListIn F nF P ops Q rest (a.put o.dst undef) (w.setCells b off cells.toList)) : wpListIn F nF P ops Q (o :: rest) a w := by
  refine wpListIn_plain hg fun K' hK' => ?_
  unfold Oper.wpIn
  refine ⟨by simp [Oper.about, ho], ?_⟩
  rw [Oper.semAt_plain F _ _ (by rw [ho]; intro c hc'; cases hc')]
  unfold execOp
  simp only [ho, hx, hy, Instr.storeAt, Instr.sureAddr, Sem.run_bind, Sem.run_pure, Result.andThen_ok, run_storeVar_mid w b off ty cells ht hi h1]
  exact hK' _ _ h
theorem wpListIn_store_new (hg : o.guard = none) (ty : TypeId) (x y : Operand) (ho : o.op = .store ty x y)
    (cells : List Value) (Z : Array Value) (hx : a.eval x = .pointer (some ⟨w.heap.size, 0, none⟩)) (hy : a.eval y = .agg cells.toArray) (hi : (P.info? ty).map (·.size) = some cells.length) (hz : Z.size = cells.length) (h1 : ∀ v ∈ cells, v.oneCell' = true)
    (h : wpListIn F nF P ops Q rest (a.put o.dst undef) (w.alloc (.cells cells.toArray ty))) : wpListIn F nF P ops Q (o :: rest) a (w.alloc (.cells Z ty)) := by
  refine wpListIn_plain hg fun K' hK' => ?_
  unfold Oper.wpIn
  refine ⟨by simp [Oper.about, ho], ?_⟩
  rw [Oper.semAt_plain F _ _ (by rw [ho]; intro c hc'; cases hc')]
  have hr := run_storeAt_new (P := P) w ty Z cells.toArray (by simpa using hi) (by simpa using hz) (all_oneCell_toArray h1)
  unfold execOp
  simp only [ho, hx, hy, Sem.run_bind, hr, Result.andThen_ok]
  exact hK' _ _ h
end
end Go.Proofs.YtpklcmocjimcpaaDoor

/-
  slices.Backward over the writes that wait: its iterator hands the elements from the last one on. Conditions: the slice's row lies below n₀, and the loop's body keeps what lies there.
-/
namespace Go.Proofs.YtpklcmocjimcpaaDoor
open Go.RowKit Go.Shelf
set_option maxRecDepth 100000
attribute [local go_sem] Oper.semAt_some
/-- the first k that come, of L, from the last one on -/
def back (L : List (Int × Sec)) (k : Nat) : List (Nat × (Int × Sec)) := (List.range k).map fun j => (L.length - 1 - j, L[L.length - 1 - j]?.getD (0, Sec.zero))
theorem back_succ (L : List (Int × Sec)) (k : Nat) : back L (k + 1) = back L k ++ [(L.length - 1 - k, L[L.length - 1 - k]?.getD (0, Sec.zero))] := by simp [back, List.range_succ]
theorem back_len (L : List (Int × Sec)) (k : Nat) : (back L k).length = k := by simp [back]
theorem back_map (L : List (Int × Sec)) (k : Nat) (hk : k ≤ L.length) : (back L k).map (·.2) = L.reverse.take k := by
  apply List.ext_getElem
  · simp [back]; omega
  · intro j h1 h2
    have hj : j < k := by simp [back] at h1; exact h1
    simp only [back, List.map_map, List.getElem_map, List.getElem_range, Function.comp, List.getElem_take, List.getElem_reverse]
    rw [List.getElem?_eq_getElem (by omega)]
    rfl
theorem last_none (L : List (Int × Sec)) (i : Int) (h : ∀ p ∈ back L L.length, p.2.1 ≠ i) : lastOf i L = none := by
  have hm := back_map L L.length (Nat.le_refl _)
  rw [List.take_of_length_le (by simp)] at hm
  unfold lastOf
  rw [← hm, Option.map_eq_none_iff, List.find?_eq_none]
  intro x hx
  obtain ⟨p, hp, rfl⟩ := List.mem_map.1 hx
  simpa using h p hp
theorem last_some (L : List (Int × Sec)) (i : Int) (k : Nat) (hk : k ≤ L.length) (ini : List (Nat × (Int × Sec))) (x : Nat × (Int × Sec)) (e : back L k = ini ++ [x]) (h : ∀ p ∈ ini, p.2.1 ≠ i) (hx : x.2.1 = i) : lastOf i L = some x.2.2 := by
  have hm := back_map L k hk
  rw [e] at hm
  have hr : L.reverse = (ini.map (·.2) ++ [x.2]) ++ L.reverse.drop k := by
    have := List.take_append_drop k L.reverse
    rw [← hm] at this
    rw [List.map_append, List.map_cons, List.map_nil] at this
    exact this.symm
  unfold lastOf
  rw [hr, List.append_assoc, List.find?_append, List.find?_eq_none.2 (fun y hy => by
    obtain ⟨p, hp, rfl⟩ := List.mem_map.1 hy
    simpa using h p hp)]
  simp [hx]
def encB (x : Nat × (Int × Sec)) : Array Value := #[.int .i64 (x.1 : Int), .agg (wrc x.2).toArray]
set_option maxRecDepth 100000 in
set_option maxHeartbeats 2000000 in
theorem back1_in (F : Fence) (n : Nat) (hF : ∀ k, F.fn k) (hro : F.round = none) (hn : 1 ≤ n) (l Bs n₀ base : Nat) (A : Option Addr) (cap : Nat) (L : List (Int × Sec)) (hL : L.length ≤ 1000000) (J Jx : List (Nat × (Int × Sec)) → World → Prop)
    (hY : ∀ pre x W, J pre W → pre.length < L.length → YieldAt F (n - 1) Tryd.prog l (encB x) W fun e W' =>
      (e = .returned (.bool true) ∧ J (pre ++ [x]) W' ∧ Below n₀ W W') ∨ (e = .returned (.bool false) ∧ Jx (pre ++ [x]) W'))
    (W : World) (hBs : Bs < n₀) (hBc : W.cell? ⟨Bs, 0, none⟩ = some (.slice A L.length cap)) (hrow : W.ownsRow base 92 129 (.slice A L.length cap) L.length (L.flatMap wrc)) (hlt : ∀ k, k ∈ rowOf (.slice A L.length cap) → k < n₀) (h0 : J [] W) :
    CallsIn F n Tryd.prog 79 #[.func (.yield l) #[] #[], .pointer (some ⟨Bs, 0, none⟩)] W fun e W' => (∃ v, e = .returned v) ∧
      ((∃ ys, ys = back L L.length ∧ J ys W') ∨ (∃ pre, (∃ k, k ≤ L.length ∧ pre = back L k) ∧ Jx pre W')) := by
  refine callsIn_of_wp Tryd.func79 rfl (hF _) ?_ hro
  simp only [Tryd.ntmps79, List.size_toArray, List.length_cons, List.length_nil, Nat.reduceAdd, Nat.reduceSub, Array.replicate_succ, Array.replicate_zero, List.push_toArray, List.append_toArray, List.nil_append, List.cons_append]
  have Hrow := Lib.hid hrow
  have Hlt := Lib.hid hlt
  have HY := Lib.hid hY
  clear hrow hlt hY
  gi_wp2
  gi_loopw [3] (fun i wr => ∃ k : Nat, k ≤ L.length ∧ i = .int .i64 ((L.length : Int) - 1 - k) ∧ J (back L k) wr ∧ Below n₀ W wr)
    (fun i _ => (intOf i + 1).toNat)
  case atStart => exact ⟨0, Nat.zero_le _, by simp, h0, Below.refl _ _⟩
  case round =>
    obtain ⟨k, hk, rfl, hJs, hnx⟩ := hrel
    have hc1 : wr.cell? ⟨Bs, 0, none⟩ = some (.slice A L.length cap) := (hnx.cell (p := ⟨Bs, 0, none⟩) hBs).trans hBc
    by_cases hlt : k < L.length
    · have hrw := row_of (w' := wr) Hrow.out (fun j hj => hnx.block j (Hlt.out j hj))
      obtain ⟨j, hj⟩ : ∃ j : Nat, j = L.length - 1 - k := ⟨_, rfl⟩
      have hji : (L.length : Int) - 1 - k = (j : Int) := by omega
      obtain ⟨gw, x, rfl, hnc, hx, hr, hbg, hgl⟩ := row_at wr_len hrw rfl (show j < L.length by omega)
      have hxx : L[L.length - 1 - k]?.getD (0, Sec.zero) = x := by rw [← hj, hx]; rfl
      obtain ⟨fn, tmps, assign, body, hy, hR⟩ := HY.out _ (j, x) wr hJs (by rw [back_len]; exact hlt)
      have Hs := Lib.hid (show back L (k + 1) = back L k ++ [(j, x)] by rw [back_succ, hxx, hj])
      have hjl : j < L.length := by omega
      have hu := Tryd.underlying92
      have hi : (Tryd.prog.info? 92).map (·.size) = some (wrc x).length := by rw [wr_len]; exact write_size
      have Hj := Lib.hid hj
      have Hji := Lib.hid hji
      clear hxx hx hj
      rw [hji]
      clear hji
      dsimp only [encB] at hy
      gi_wp2_with (refine wpListIn_load_mid rfl 92 (.tmp 15) rfl gw (j * 129) rfl (wrc x) _ hr hu rfl hi ?_)
      refine hR.mono ?_
      rintro e W3 (⟨rfl, hJ3, hk3⟩ | ⟨rfl, hJx3⟩)
      · gi_wp2
        go_roundw
        case rel => exact ⟨k + 1, by omega, by have := Hji.out; congr 1; omega, by rw [Hs.out]; exact hJ3, hnx.trans hk3⟩
        case measure => simp [intOf]
      · gi_wp2
        refine bodyPost_ret (results_none rfl _ _ _) rfl ?_
        exact ⟨⟨_, rfl⟩, .inr ⟨_, ⟨k + 1, by omega, Hs.out.symm⟩, hJx3⟩⟩
    · obtain rfl : k = L.length := by omega
      gi_wp2
      go_end0
      exact ⟨⟨_, rfl⟩, .inl ⟨_, rfl, hJs⟩⟩
theorem backward_any (a : Option Addr) (len cap : Nat) (w : World) :
    Calls Tryd.prog 74 #[.slice a len cap] w fun e w' => e = .returned (.func (.func 79) #[] #[.pointer (some ⟨w.heap.size, 0, none⟩)]) ∧ w' = w.alloc (.cells #[.slice a len cap] 60) := by
  go_enter Tryd.func74, Tryd.ntmps74
  go_wp2
  go_ret
  exact ⟨rfl, rfl⟩
theorem back_stops (F : Fence) (n : Nat) (hF : ∀ k, F.fn k) (hro : F.round = none) (hn : 1 ≤ n) (Bs n₀ base : Nat) (A : Option Addr) (cap : Nat) (L : List (Int × Sec)) (hL : L.length ≤ 1000000) (w : World) (hBs : Bs < n₀) (hn₀ : n₀ ≤ w.heap.size)
    (hc : w.cell? ⟨Bs, 0, none⟩ = some (.slice A L.length cap)) (hrow : w.ownsRow base 92 129 (.slice A L.length cap) L.length (L.flatMap wrc)) (hlt : ∀ k, k ∈ rowOf (.slice A L.length cap) → k < n₀) :
    SeqStopsK F n Tryd.prog 79 #[.pointer (some ⟨Bs, 0, none⟩)] encB (Below n₀) (fun ys => ys = back L L.length) (fun pre => ∃ k, k ≤ L.length ∧ pre = back L k) L.length w := fun l J Jx W hW _ _ hY h0 =>
  back1_in F n hF hro hn l Bs n₀ base A cap L hL J Jx hY W hBs ((hW.cell (p := ⟨Bs, 0, none⟩) (by show Bs < w.heap.size; omega)).trans hc) (row_of hrow (fun j hj => hW.block j (by have := hlt j hj; omega))) hlt h0
end Go.Proofs.YtpklcmocjimcpaaDoor

/-
  What the disk's Read returns: the last write of the sector that waits, or else what is sure of it. Conditions: the disk lies where it is said to; no more than a million writes wait.
-/
namespace Go.Proofs.YtpklcmocjimcpaaDoor
open Go.RowKit Go.Shelf
set_option maxRecDepth 100000
attribute [local go_sem] Oper.semAt_some
theorem read_results (W : World) (tmps : Array Value) (bs be : Nat) (s : Sec) (e : Value) (h4 : tmps.getD 4 undef = .pointer (some ⟨bs, 0, none⟩)) (h5 : tmps.getD 5 undef = .pointer (some ⟨be, 0, none⟩))
    (h1 : Blk W bs 90 s.cs.toArray) (h2 : Boxed W be 28 e) : (results Tryd.f61 tmps).run Tryd.prog W = .ok (.tuple #[s.v, e]) W := by
  have hl := run_loadVar_row (P := Tryd.prog) W bs 90 90 s.cs.toArray (0, 0) _ h1 Tryd.underlying90 rfl (by rw [List.size_toArray, s.cs_len]; exact sec_size)
  have hc := h2.cell
  have hr : Tryd.f61.results = #[.cell 4 90, .cell 5 28] := rfl
  have h4' : tmps[4]?.getD undef = .pointer (some ⟨bs, 0, none⟩) := by simpa using h4
  have h5' : tmps[5]?.getD undef = .pointer (some ⟨be, 0, none⟩) := by simpa using h5
  unfold results
  rw [hr]
  have hv : (loadVar 28 ⟨be, 0, none⟩).run Tryd.prog W = .ok e W := by simp [go_sem, hc]
  simp [h4', h5', asAddr, hl, hv, Sec.v]
set_option maxRecDepth 100000 in
set_option maxHeartbeats 2000000 in
theorem read_in (w : World) (base g gm : Nat) (v : Value) (d : DM) (i : Int) (h : Lies w base g gm v d) (hw : d.wait.length ≤ 1000000) (hd : d.has i = true) (hg : d.gone = false) :
    CallsIn Fence.wide 5 Tryd.prog 61 #[.pointer (some ⟨g, 0, none⟩), .int .i64 i] w fun e w' => e = .returned (.tuple #[(d.read i).v, errV (d.readErr i)]) ∧ Below w.heap.size w w' := by
  have hro : Fence.wide.round = none := rfl
  have h1 : 1 ≤ 5 := by omega
  have Hd := Lib.hid hd
  have Hg := Lib.hid hg
  have H := Lib.hid h
  clear hd hg h
  refine callsIn_of_wp_marks Tryd.func61 rfl trivial ?_ hro
  simp only [Tryd.ntmps61, List.size_toArray, List.length_cons, List.length_nil, Nat.reduceAdd, Nat.reduceSub, Array.replicate_succ, Array.replicate_zero, List.push_toArray, List.append_toArray, List.nil_append, List.cons_append]
  obtain ⟨Zs, hZ⟩ : ∃ Zs : Array Value, ∀ w, (zeroValue 90).run Tryd.prog w = .ok (.agg Zs) w := ⟨_, sec_zero⟩
  have hrow := H.out.row
  obtain ⟨A, cap, rfl⟩ : ∃ A cap, v = .slice A d.wait.length cap := by
    rcases hrow.2 with ⟨rfl, hn⟩ | ⟨g', cap, cur, rfl, _⟩
    · rw [hn]; exact ⟨_, _, rfl⟩
    · exact ⟨_, _, rfl⟩
  have Hrow := Lib.hid hrow
  clear hrow
  have hgs := H.out.blk.lt
  obtain ⟨-, -, -, -, -, -, c6, -⟩ := H.out.cells
  have c6' : ∀ o1 o2 o3, (((w.alloc o1).alloc o2).alloc o3).cell? ⟨g, 6, none⟩ = some (.slice A d.wait.length cap) := fun o1 o2 o3 => by
    rw [((((H.out.alloc o1).alloc o2).alloc o3)).blk.cell]; rfl
  have HD := Lib.hid (fun W (hL : Lies W base g gm (.slice A d.wait.length cap) d) => down_any W base g gm _ d hL)
  have HH := Lib.hid (fun W (hL : Lies W base g gm (.slice A d.wait.length cap) d) => has_any W base g gm _ d i hL)
  gi_wp2_with (first
    | (refine ⟨trivial, ?_⟩; gi_at_call 73; refine (callsIn_wide.2 (HD.out _ (((H.out.alloc _).alloc _).alloc _))).mono ?_; rintro e w' ⟨rfl, rfl⟩; rw [Hg.out])
    | (refine ⟨trivial, ?_⟩; gi_at_call 65; refine (callsIn_wide.2 (HH.out _ (((H.out.alloc _).alloc _).alloc _))).mono ?_; rintro e w' ⟨rfl, rfl⟩; rw [Hd.out])
    | (refine ⟨trivial, ?_⟩; gi_at_call 74; refine (callsIn_wide.2 (backward_any _ _ _ _)).mono ?_; rintro e w' ⟨rfl, rfl⟩))
  have hbi : Boxed ((((w.alloc (.cells #[.int .i64 i] 3)).alloc (.cells Zs 90)).alloc (.cells #[.nilIface] 28)).alloc (.cells #[.slice A d.wait.length cap] 60)) w.heap.size 3 (.int .i64 i) := (((Boxed.new w _ _).alloc _).alloc _).alloc _
  have hbs : Blk ((((w.alloc (.cells #[.int .i64 i] 3)).alloc (.cells Zs 90)).alloc (.cells #[.nilIface] 28)).alloc (.cells #[.slice A d.wait.length cap] 60)) (w.heap.size + 1) 90 Zs := by
    have := ((Blk.new (w.alloc (.cells #[.int .i64 i] 3)) 90 Zs).alloc (.cells #[.nilIface] 28)).alloc (.cells #[.slice A d.wait.length cap] 60)
    simpa using this
  have hbe : Boxed ((((w.alloc (.cells #[.int .i64 i] 3)).alloc (.cells Zs 90)).alloc (.cells #[.nilIface] 28)).alloc (.cells #[.slice A d.wait.length cap] 60)) (w.heap.size + 1 + 1) 28 .nilIface := by
    have := (Boxed.new ((w.alloc (.cells #[.int .i64 i] 3)).alloc (.cells Zs 90)) 28 .nilIface).alloc (.cells #[.slice A d.wait.length cap] 60)
    simpa using this
  have hbn : Boxed ((((w.alloc (.cells #[.int .i64 i] 3)).alloc (.cells Zs 90)).alloc (.cells #[.nilIface] 28)).alloc (.cells #[.slice A d.wait.length cap] 60)) (w.heap.size + 1 + 1 + 1) 60 (.slice A d.wait.length cap) := by
    have := Boxed.new (((w.alloc (.cells #[.int .i64 i] 3)).alloc (.cells Zs 90)).alloc (.cells #[.nilIface] 28)) 60 (.slice A d.wait.length cap)
    simpa using this
  have hB0 : Below w.heap.size w ((((w.alloc (.cells #[.int .i64 i] 3)).alloc (.cells Zs 90)).alloc (.cells #[.nilIface] 28)).alloc (.cells #[.slice A d.wait.length cap] 60)) := ((((Below.refl _ w).alloc (Nat.le_refl _) _).alloc (by simp) _).alloc (by simp; omega) _).alloc (by simp; omega) _
  have hsz : ((((w.alloc (.cells #[.int .i64 i] 3)).alloc (.cells Zs 90)).alloc (.cells #[.nilIface] 28)).alloc (.cells #[.slice A d.wait.length cap] 60)).heap.size = w.heap.size + 4 := by simp
  obtain ⟨W0, hW0⟩ : ∃ W0, ((((w.alloc (.cells #[.int .i64 i] 3)).alloc (.cells Zs 90)).alloc (.cells #[.nilIface] 28)).alloc (.cells #[.slice A d.wait.length cap] 60)) = W0 := ⟨_, rfl⟩
  rw [hW0] at hbi hbs hbe hbn hB0 hsz ⊢
  clear hW0
  have hZs : Zs.size = 128 := by
    have h1 := hZ w
    have h2 := sec_zero w
    rw [h1] at h2
    injection h2 with h2
    injection h2 with h2
    rw [h2]
    simp [Sec.cs_len]
  have hrl : ∀ k, k ∈ rowOf (.slice A d.wait.length cap) → k < w.heap.size := fun k hk => row_under Hrow.out k hk
  refine wpIn_rangeFunc_ownH hro h1 (gf := 79) (lb := #[.pointer (some ⟨w.heap.size + 1 + 1 + 1, 0, none⟩)]) rfl trivial (enters_of Tryd.func79 (by kernel_rfl) rfl)
    (back_stops Fence.wide 4 (fun _ => trivial) hro (by omega) (w.heap.size + 1 + 1 + 1) W0.heap.size base A cap d.wait hw W0 (by omega) (Nat.le_refl _) hbn.cell (row_of Hrow.out (fun k hk => hB0.block k (hrl k hk))) (fun k hk => by have := hrl k hk; omega)) belowK_t (belowK_b (Nat.le_refl _)) (Below.refl _ _) (fun _ => rfl)
    (fun pre W => (((∀ p ∈ pre, p.2.1 ≠ i) ∧ Boxed W w.heap.size 3 (.int .i64 i)) ∧ (Blk W (w.heap.size + 1) 90 Zs ∧ (Boxed W (w.heap.size + 1 + 1) 28 .nilIface ∧ Boxed W (w.heap.size + 1 + 1 + 1) 60 (.slice A d.wait.length cap)))) ∧ Below w.heap.size w W)
    (fun c pre W => ((c = .ret ∧ ∃ ini last, pre = ini ++ [last] ∧ (∀ p ∈ ini, p.2.1 ≠ i) ∧ last.2.1 = i ∧ Blk W (w.heap.size + 1) 90 last.2.2.cs.toArray) ∧ Boxed W (w.heap.size + 1 + 1) 28 .nilIface) ∧ Below w.heap.size w W)
    ?own1 ?own2 ⟨⟨⟨by simp, hbi⟩, hbs, hbe, hbn⟩, hB0⟩
    (fun x a' W => ∃ Bx, W0.heap.size ≤ Bx ∧ Blk W Bx 92 (wrc x.2).toArray ∧ a' = { tmps := #[.pointer (some ⟨g, 0, none⟩), .int .i64 i, undef, .pointer (some ⟨w.heap.size, 0, none⟩), .pointer (some ⟨w.heap.size + 1, 0, none⟩), .pointer (some ⟨w.heap.size + 1 + 1, 0, none⟩), undef, .pointer (some ⟨Bx, 0, none⟩), .pointer (some ⟨g, 0, none⟩), .bool false, undef, undef, .pointer (some ⟨g, 0, none⟩), .int .i64 i, .bool true, .bool false, undef, undef, .pointer (some ⟨g, 0, none⟩), .pointer (some ⟨g, 0, none⟩), .pointer (some ⟨g, 6, none⟩), .slice A d.wait.length cap, .func (.func 79) #[] #[.pointer (some ⟨w.heap.size + 1 + 1 + 1, 0, none⟩)], .int .i64 (x.1 : Int), .agg (wrc x.2).toArray, undef, undef, undef, undef, undef, undef, undef, undef, undef, undef, undef, undef], defers := [] })
    ?own3 ?assign ?body ?done ?stop
  case own1 =>
    refine OwnFrom.and (OwnFrom.and (OwnFrom.and (ownFrom_pure _ _) (Own.from (boxed_own _ _ _) _)) (OwnFrom.and (fun s W W' row hs hg hr => Blk.of hs (hg.block _ (Blk.lt hs) (fun e => ?_))) (OwnFrom.and (Own.from (boxed_own _ _ _) _) (Own.from (boxed_own _ _ _) _)))) (ownFrom_below (Nat.le_refl _) (by omega))
    have := (hr _ e.symm).1
    omega
  case own2 =>
    intro c
    refine OwnFrom.and (OwnFrom.and (fun s W W' row hs hg hr => ?_) (Own.from (boxed_own _ _ _) _)) (ownFrom_below (Nat.le_refl _) (by omega))
    obtain ⟨hc, ini, last, e1, e2, e3, e4⟩ := hs
    refine ⟨hc, ini, last, e1, e2, e3, e4.of (hg.block _ e4.lt (fun e => ?_))⟩
    have := (hr _ e.symm).1
    omega
  case own3 =>
    intro x a' s W W' row hs hg hr
    obtain ⟨Bx, g1, g2, g3⟩ := hs
    refine ⟨Bx, g1, g2.of (hg.block _ g2.lt (fun e => ?_)), g3⟩
    obtain ⟨_, o, ho, hc⟩ := hr _ e.symm
    unfold Blk at g2
    rw [g2] at ho
    cases ho
    cases hc
  case assign =>
    rintro l pre x W K ⟨⟨⟨hp, b1⟩, b2, b3, b4⟩, hB⟩ hK
    obtain ⟨Z, hZ1, hZ2⟩ := write_zero_at
    have hi : (Tryd.prog.info? 92).map (·.size) = some (wrc x.2).length := by rw [wr_len]; exact write_size
    have HK := Lib.hid hK
    have Hp := Lib.hid hp
    clear hK hp
    unfold encB
    gi_wp2_with (refine wpListIn_store_new rfl 92 (.tmp 7) (.tmp 24) rfl (wrc x.2) Z rfl rfl hi (by rw [hZ2, wr_len]) (wr_one x.2) ?_)
    have hws : W0.heap.size ≤ W.heap.size := by have := b4.lt; omega
    exact HK.out _ _ ((KeepsOthers.alloc _ _).from _) ((Below.refl _ W).alloc hws _) ⟨⟨⟨Hp.out, b1.alloc _⟩, b2.alloc _, b3.alloc _, b4.alloc _⟩, hB.alloc hB.size _⟩ ⟨W.heap.size, hws, Blk.new W _ _, rfl⟩
  case body =>
    rintro l pre x a' W hl - ⟨⟨⟨hp, b1⟩, b2, b3, b4⟩, hB⟩ ⟨Bx, hBx, bX, rfl⟩ hlt
    have c1 := b1.cell
    have c3 := b3.cell
    have f3 := b3.frozen
    have cat : W.cell? ⟨Bx, 128, none⟩ = some (.int .i64 x.2.1) := by
      rw [bX.cell]
      simp [wrc, x.2.2.cs_len]
    have rat : W.rangeAt Bx 0 x.2.2.cs := fun j u hj => by
      rw [Nat.zero_add, bX.cell]
      have : j < x.2.2.cs.length := (List.getElem?_eq_some_iff.1 hj).1
      simp only [wrc, List.getElem?_toArray]
      rw [List.getElem?_append_left this]
      exact hj
    have hu := Tryd.underlying90
    have hi : (Tryd.prog.info? 90).map (·.size) = some x.2.2.cs.length := by rw [x.2.2.cs_len]; exact sec_size
    have hia : (Tryd.prog.info? 90).map (·.size) = some x.2.2.cs.toArray.size := by rw [List.size_toArray]; exact hi
    have hth : W.there (w.heap.size + 1) 0 x.2.2.cs.toArray.size := b2.there (by simp [x.2.2.cs_len, hZs])
    have hsg := (setCells_grown (w.heap.size + 1) x.2.2.cs 0 W)
    have ce : (W.setCells (w.heap.size + 1) 0 x.2.2.cs).cell? ⟨w.heap.size + 1 + 1, 0, none⟩ = some .nilIface := (hsg.1.cell_far _ b3.lt (by simp)).trans c3
    have fe : (W.setCells (w.heap.size + 1) 0 x.2.2.cs).frozen? ⟨w.heap.size + 1 + 1, 0, none⟩ = false := (World.frozen?_setCells _ _ _ _ _).trans f3
    have Hp := Lib.hid hp
    have Hsg := Lib.hid hsg
    have Hia := Lib.hid hi
    clear hp hsg
    by_cases hm : x.2.1 = i
    · have hmb : (x.2.1 == i) = true := by simpa using hm
      have Hm := Lib.hid hm
      clear hm
      gi_wp2_with (first
        | (refine wpListIn_load_mid rfl 90 (.tmp 29) rfl Bx 0 rfl x.2.2.cs _ rat hu rfl hi ?_)
        | (refine wpListIn_store_mid rfl 90 (.tmp 4) (.tmp 30) rfl (w.heap.size + 1) 0 x.2.2.cs.toArray rfl rfl hth hia (all_oneCell_toArray x.2.2.one) ?_))
      have hk1 : KeepsFrom W0.heap.size W (W.setCells (w.heap.size + 1) 0 x.2.2.cs) := KeepsFrom.of_grownBy Hsg.out.1 (fun j e => by injection e with e; omega)
      refine ⟨hk1.trans ((KeepsOthers.setCell _ _ _).from _), ⟨⟨rfl, pre, x, rfl, Hp.out, Hm.out, ?_⟩, ?_⟩, ?_⟩
      · exact (b2.over x.2.2.cs (by rw [x.2.2.cs_len, hZs])).far (by simp) _
      · exact (b3.kept Hsg.out.1 (by simp)).set _
      · exact (hB.grown Hsg.out.1 hB.size (fun k e => by injection e with e; omega)).setCell (p := ⟨w.heap.size + 1 + 1, 0, none⟩) (by show _ ≤ w.heap.size + 1 + 1; omega) _
    · have hmb : (x.2.1 == i) = false := by simpa using hm
      have Hm := Lib.hid hm
      clear hm
      gi_wp2
      refine ⟨KeepsFrom.refl _ _, Below.refl _ _, ⟨⟨fun p hp' => ?_, b1⟩, b2, b3, b4⟩, hB⟩
      rcases List.mem_append.1 hp' with h | h
      · exact Hp.out p h
      · obtain rfl := List.mem_singleton.1 h
        exact Hm.out
  case done =>
    rintro D ys W hD rfl ⟨⟨⟨hp, b1⟩, b2, b3, b4⟩, hB⟩ hK
    have hL := H.out.below hB
    obtain ⟨-, -, -, -, -, k5, -, -⟩ := hL.cells
    obtain ⟨f0, hm0, hf0⟩ := hL.map
    have lk : ∀ W', MapAt W' gm f0 → (Instr.lookup 57 (.map (some gm)) (.int .i64 i) false).run Tryd.prog W' = .ok (.agg (d.sure i).cs.toArray) W' := fun W' h => by
      rw [run_lookup_map Tryd.underlying57 Tryd.underlying3 sec_zero h, hf0]; rfl
    have c1 := b1.cell
    have c3 := b3.cell
    have f3 := b3.frozen
    have hgs2 := hL.blk.lt
    have hgm2 := hm0.lt
    have hmw : gm < w.heap.size := by
      have := H.out.under
      exact this gm (by simp)
    have hu := Tryd.underlying90
    have hi : (Tryd.prog.info? 90).map (·.size) = some (d.sure i).cs.length := by rw [(d.sure i).cs_len]; exact sec_size
    have hcl := (d.sure i).cs_len
    have hone := (d.sure i).one
    have hth : W.there (w.heap.size + 1) 0 128 := b2.there (by omega)
    have hsg := (setCells_grown (w.heap.size + 1) (d.sure i).cs 0 W.drew)
    have sB : (W.drew.setCells (w.heap.size + 1) 0 (d.sure i).cs).cell? ⟨g, 5, none⟩ = some (.map (some gm)) ∧ (W.drew.setCells (w.heap.size + 1) 0 (d.sure i).cs).cell? ⟨w.heap.size, 0, none⟩ = some (.int .i64 i) ∧ (Instr.lookup 57 (.map (some gm)) (.int .i64 i) false).run Tryd.prog (W.drew.setCells (w.heap.size + 1) 0 (d.sure i).cs) = .ok (.agg (d.sure i).cs.toArray) (W.drew.setCells (w.heap.size + 1) 0 (d.sure i).cs) ∧ (W.drew.setCells (w.heap.size + 1) 0 (d.sure i).cs).there (w.heap.size + 1) 0 128 ∧ (W.drew.setCells (w.heap.size + 1) 0 (d.sure i).cs).cell? ⟨w.heap.size + 1 + 1, 0, none⟩ = some .nilIface ∧ (W.drew.setCells (w.heap.size + 1) 0 (d.sure i).cs).frozen? ⟨w.heap.size + 1 + 1, 0, none⟩ = false :=
      ⟨(hsg.1.cell_far ⟨g, 5, none⟩ hgs2 (by simp; omega)).trans k5, (hsg.1.cell_far ⟨w.heap.size, 0, none⟩ b1.lt (by simp)).trans c1, lk _ (hm0.of (hsg.1.block gm hgm2 (by simp; omega))), World.there_setCells (w := W.drew) hth _ _ _, (hsg.1.cell_far ⟨w.heap.size + 1 + 1, 0, none⟩ b3.lt (by simp)).trans c3, (World.frozen?_setCells _ _ _ _ _).trans f3⟩
    have hb4 : Blk (W.drew.setCells (w.heap.size + 1) 0 (d.sure i).cs) (w.heap.size + 1) 90 (d.sure i).cs.toArray := (b2.drew).over _ (by rw [hcl, hZs])
    have hm4 : MapAt (W.drew.setCells (w.heap.size + 1) 0 (d.sure i).cs) gm f0 := hm0.of (hsg.1.block gm hgm2 (by simp; omega))
    have hB4 : Below w.heap.size w (W.drew.setCells (w.heap.size + 1) 0 (d.sure i).cs) := (hB.drew).grown hsg.1 hB.size (fun k e => by injection e with e; omega)
    have hK4 : (W.drew.setCells (w.heap.size + 1) 0 (d.sure i).cs).heap[D]? = some (.deferred (some [])) := (hsg.1.block D ((Array.getElem?_eq_some_iff.1 hK).1) (by simp; omega)).trans hK
    have hs4 := hsg.2
    have hbe4 := (show Boxed W.drew _ _ _ from b3).kept hsg.1 (by simp)
    obtain ⟨W4, hW4⟩ : ∃ W4, W.drew.setCells (w.heap.size + 1) 0 (d.sure i).cs = W4 := ⟨_, rfl⟩
    rw [hW4] at sB hb4 hm4 hB4 hK4 hs4 hbe4
    obtain ⟨s1, s2, s3, s4, s5, s6⟩ := sB
    have sC : (W4.setCell ⟨w.heap.size + 1 + 1, 0, none⟩ .nilIface).cell? ⟨g, 5, none⟩ = some (.map (some gm)) ∧ (W4.setCell ⟨w.heap.size + 1 + 1, 0, none⟩ .nilIface).cell? ⟨w.heap.size, 0, none⟩ = some (.int .i64 i) ∧ (Instr.lookup 57 (.map (some gm)) (.int .i64 i) false).run Tryd.prog (W4.setCell ⟨w.heap.size + 1 + 1, 0, none⟩ .nilIface) = .ok (.agg (d.sure i).cs.toArray) (W4.setCell ⟨w.heap.size + 1 + 1, 0, none⟩ .nilIface) ∧ (W4.setCell ⟨w.heap.size + 1 + 1, 0, none⟩ .nilIface).there (w.heap.size + 1) 0 128 ∧ (W4.setCell ⟨w.heap.size + 1 + 1, 0, none⟩ .nilIface).cell? ⟨w.heap.size + 1 + 1, 0, none⟩ = some .nilIface ∧ (W4.setCell ⟨w.heap.size + 1 + 1, 0, none⟩ .nilIface).frozen? ⟨w.heap.size + 1 + 1, 0, none⟩ = false :=
      ⟨(World.cell?_setCell_other _ _ _ _ (fun e => by injection e with e; omega)).trans s1, (World.cell?_setCell_other _ _ _ _ (by simp)).trans s2, lk _ (hm4.of (Below.heap_setCell _ _ _ _ (by show gm ≠ w.heap.size + 1 + 1; omega))), (hb4.far (by simp) _).there (by simp [hcl]), World.cell?_setCell_same' _ _ _ (by rw [s5]; rfl), by rw [World.frozen?_setCell]; exact s6⟩
    have hb5 : Blk (W4.setCell ⟨w.heap.size + 1 + 1, 0, none⟩ .nilIface) (w.heap.size + 1) 90 (d.sure i).cs.toArray := hb4.far (by simp) _
    have c5 : (W4.setCell ⟨w.heap.size + 1 + 1, 0, none⟩ .nilIface).cell? ⟨w.heap.size + 1 + 1, 0, none⟩ = some .nilIface := sC.2.2.2.2.1
    have hB5 : Below w.heap.size w (W4.setCell ⟨w.heap.size + 1 + 1, 0, none⟩ .nilIface) := hB4.setCell (p := ⟨w.heap.size + 1 + 1, 0, none⟩) (by show _ ≤ w.heap.size + 1 + 1; omega) _
    have hK5 : (W4.setCell ⟨w.heap.size + 1 + 1, 0, none⟩ .nilIface).heap[D]? = some (.deferred (some [])) := (Below.heap_setCell _ _ _ _ (by show D ≠ w.heap.size + 1 + 1; omega)).trans hK4
    have hread : d.read i = d.sure i := by
      unfold DM.read
      rw [Hg.out, Hd.out, last_none d.wait i hp]
      rfl
    have herr : d.readErr i = 0 := by unfold DM.readErr; rw [Hg.out, Hd.out]; rfl
    have Hbx := Lib.hid (show Boxed (W4.setCell ⟨w.heap.size + 1 + 1, 0, none⟩ .nilIface) (w.heap.size + 1 + 1) 28 .nilIface from ((show Boxed W4 (w.heap.size + 1 + 1) 28 .nilIface from hbe4).set _))
    have SA := Lib.hid (⟨k5, c1, lk _ hm0, hth, c3, f3⟩ : W.drew.cell? ⟨g, 5, none⟩ = some (.map (some gm)) ∧ W.drew.cell? ⟨w.heap.size, 0, none⟩ = some (.int .i64 i) ∧ (Instr.lookup 57 (.map (some gm)) (.int .i64 i) false).run Tryd.prog W.drew = .ok (.agg (d.sure i).cs.toArray) W.drew ∧ W.drew.there (w.heap.size + 1) 0 128 ∧ W.drew.cell? ⟨w.heap.size + 1 + 1, 0, none⟩ = some .nilIface ∧ W.drew.frozen? ⟨w.heap.size + 1 + 1, 0, none⟩ = false)
    have SB := Lib.hid (⟨s1, s2, s3, s4, s5, s6⟩ : W4.cell? ⟨g, 5, none⟩ = some (.map (some gm)) ∧ W4.cell? ⟨w.heap.size, 0, none⟩ = some (.int .i64 i) ∧ (Instr.lookup 57 (.map (some gm)) (.int .i64 i) false).run Tryd.prog W4 = .ok (.agg (d.sure i).cs.toArray) W4 ∧ W4.there (w.heap.size + 1) 0 128 ∧ W4.cell? ⟨w.heap.size + 1 + 1, 0, none⟩ = some .nilIface ∧ W4.frozen? ⟨w.heap.size + 1 + 1, 0, none⟩ = false)
    rw [← hW4] at SB
    have SC := Lib.hid sC
    rw [← hW4] at SC hb5 c5 hB5 hK5 Hbx
    have HW4 := Lib.hid hW4
    have Hread := Lib.hid hread
    have Herr := Lib.hid herr
    clear lk hf0 hL hp hsg hK sC hread herr hW4 s1 s2 s3 s4 s5 s6 hm4 hb4 hB4 hK4 hs4 hbe4 c1 c3 f3 k5 hth
    gi_wp2
    refine wpIn_wide.2 ?_
    go_region_held3 (fun w' => w'.cell? ⟨g, 5, none⟩ = some (.map (some gm)) ∧ w'.cell? ⟨w.heap.size, 0, none⟩ = some (.int .i64 i) ∧ (Instr.lookup 57 (.map (some gm)) (.int .i64 i) false).run Tryd.prog w' = .ok (.agg (d.sure i).cs.toArray) w' ∧ w'.there (w.heap.size + 1) 0 128 ∧ w'.cell? ⟨w.heap.size + 1 + 1, 0, none⟩ = some .nilIface ∧ w'.frozen? ⟨w.heap.size + 1 + 1, 0, none⟩ = false)
      (first | exact SA.out | exact SB.out | exact SC.out)
      (fail)
    gi_wp2
    refine ⟨by simp, .inl ⟨_, _, rfl, run_takeDeferred hK5, ?_⟩⟩
    have hkp := grownBy_putObj' ((W.drew.setCells (w.heap.size + 1) 0 (d.sure i).cs).setCell ⟨w.heap.size + 1 + 1, 0, none⟩ .nilIface) D (.deferred none)
    refine ⟨_, read_results _ _ (w.heap.size + 1) (w.heap.size + 1 + 1) (d.sure i) .nilIface rfl rfl (hb5.of (hkp.block _ hb5.lt (by simp; omega))) ?_, ?_, ?_⟩
    · have hbx : Boxed ((W.drew.setCells (w.heap.size + 1) 0 (d.sure i).cs).setCell ⟨w.heap.size + 1 + 1, 0, none⟩ .nilIface) (w.heap.size + 1 + 1) 28 .nilIface := Hbx.out
      exact hbx.kept hkp (by simp; omega)
    · rw [Hread.out, Herr.out]; rfl
    · exact hB5.trans (belowK_b (w := w) (Nat.le_refl _) _ D _ _ (by omega) hK5 rfl rfl)
  case stop =>
    rintro D c pre W hD ⟨k, hk, rfl⟩ ⟨⟨⟨rfl, ini, last, e1, e2, e3, e4⟩, b3⟩, hB⟩ hK
    have hread : d.read i = last.2.2 := by
      unfold DM.read
      rw [Hg.out, Hd.out, last_some d.wait i k hk ini last e1 e2 e3]
      rfl
    have herr : d.readErr i = 0 := by unfold DM.readErr; rw [Hg.out, Hd.out]; rfl
    have Hread := Lib.hid hread
    have Herr := Lib.hid herr
    have HK := Lib.hid hK
    clear hread herr hK e1 e2 e3
    gi_wp2
    refine ⟨by simp, .inl ⟨_, _, rfl, run_takeDeferred HK.out, ?_⟩⟩
    have hkp := grownBy_putObj' W D (.deferred none)
    refine ⟨_, read_results _ _ (w.heap.size + 1) (w.heap.size + 1 + 1) last.2.2 .nilIface rfl rfl (e4.of (hkp.block _ e4.lt (by simp; omega))) (b3.kept hkp (by simp; omega)), ?_, ?_⟩
    · rw [Hread.out, Herr.out]; rfl
    · exact hB.trans (belowK_b (w := w) (Nat.le_refl _) _ D _ _ (by omega) HK.out rfl rfl)
set_option maxRecDepth 100000 in
set_option maxHeartbeats 2000000 in
theorem read_down (w : World) (base g gm : Nat) (v : Value) (d : DM) (i : Int) (h : Lies w base g gm v d) (hg : d.gone = true) :
    CallsIn Fence.wide 5 Tryd.prog 61 #[.pointer (some ⟨g, 0, none⟩), .int .i64 i] w fun e w' => e = .returned (.tuple #[(d.read i).v, errV (d.readErr i)]) ∧ Below w.heap.size w w' := by
  have hro : Fence.wide.round = none := rfl
  have h1 : 1 ≤ 5 := by omega
  have Hg := Lib.hid hg
  have H := Lib.hid h
  clear hg h
  refine callsIn_of_wp_marks Tryd.func61 rfl trivial ?_ hro
  simp only [Tryd.ntmps61, List.size_toArray, List.length_cons, List.length_nil, Nat.reduceAdd, Nat.reduceSub, Array.replicate_succ, Array.replicate_zero, List.push_toArray, List.append_toArray, List.nil_append, List.cons_append]
  obtain ⟨Zs, hZ, hZb⟩ : ∃ Zs : List Value, (∀ w, (zeroValue 90).run Tryd.prog w = .ok (.agg Zs.toArray) w) ∧ Zs = Sec.zero.cs := ⟨_, sec_zero, rfl⟩
  have hbl : Blk (((w.alloc (.cells #[.int .i64 i] 3)).alloc (.cells Zs.toArray 90)).alloc (.cells #[.nilIface] 28)) (w.heap.size + 1) 90 Zs.toArray := by
    have := (Blk.new (w.alloc (.cells #[.int .i64 i] 3)) 90 Zs.toArray).alloc (.cells #[.nilIface] 28)
    simpa using this
  have hbe : Boxed (((w.alloc (.cells #[.int .i64 i] 3)).alloc (.cells Zs.toArray 90)).alloc (.cells #[.nilIface] 28)) (w.heap.size + 1 + 1) 28 .nilIface := by
    have := Boxed.new ((w.alloc (.cells #[.int .i64 i] 3)).alloc (.cells Zs.toArray 90)) 28 .nilIface
    simpa using this
  have hlen : Zs.length = 128 := by rw [hZb, Sec.cs_len]
  have hia : (Tryd.prog.info? 90).map (·.size) = some Zs.toArray.size := by rw [List.size_toArray, hlen]; exact sec_size
  have hth := hbl.there (o := 0) (n := Zs.toArray.size) (by simp)
  have hone : ∀ u ∈ Zs, u.oneCell' = true := by rw [hZb]; exact Sec.zero.one
  have hsg := setCells_grown (w.heap.size + 1) Zs 0 (((w.alloc (.cells #[.int .i64 i] 3)).alloc (.cells Zs.toArray 90)).alloc (.cells #[.nilIface] 28))
  have hbe2 := hbe.kept hsg.1 (by simp)
  have hbl2 := hbl.over Zs (by simp)
  have hB2 : Below w.heap.size w ((((w.alloc (.cells #[.int .i64 i] 3)).alloc (.cells Zs.toArray 90)).alloc (.cells #[.nilIface] 28)).setCells (w.heap.size + 1) 0 Zs) :=
    ((((Below.refl _ w).alloc (Nat.le_refl _) _).alloc (by simp) _).alloc (by simp; omega) _).grown hsg.1 (by simp; omega) (fun k e => by injection e with e; omega)
  have c3 := hbe2.cell
  have f3 := hbe2.frozen
  have HZb := Lib.hid hZb
  have Hsg := Lib.hid hsg
  have Hbe2 := Lib.hid hbe2
  clear hZb hsg hbe2
  gi_wp2_with (first
    | (refine ⟨trivial, ?_⟩; gi_at_call 73; refine (callsIn_wide.2 (down_any _ base g gm v d (((H.out.alloc _).alloc _).alloc _))).mono ?_; rintro e w' ⟨rfl, rfl⟩; rw [Hg.out])
    | (refine wpListIn_store_mid rfl 90 (.tmp 4) (.tmp 10) rfl (w.heap.size + 1) 0 Zs.toArray rfl rfl hth hia (all_oneCell_toArray hone) ?_))
  refine ⟨_, read_results _ _ (w.heap.size + 1) (w.heap.size + 1 + 1) Sec.zero (errV 3) rfl rfl ?_ (Hbe2.out.set _), ?_, ?_⟩
  · rw [← HZb.out]; exact hbl2.far (by simp) _
  · have hread : d.read i = Sec.zero := by unfold DM.read; rw [Hg.out]; rfl
    have herr : d.readErr i = 3 := by unfold DM.readErr; rw [Hg.out]; rfl
    rw [hread, herr]
  · exact hB2.setCell (p := ⟨w.heap.size + 1 + 1, 0, none⟩) (by show _ ≤ w.heap.size + 1 + 1; omega) _
set_option maxRecDepth 100000 in
set_option maxHeartbeats 2000000 in
theorem read_range (w : World) (base g gm : Nat) (v : Value) (d : DM) (i : Int) (h : Lies w base g gm v d) (hg : d.gone = false) (hd : d.has i = false) :
    CallsIn Fence.wide 5 Tryd.prog 61 #[.pointer (some ⟨g, 0, none⟩), .int .i64 i] w fun e w' => e = .returned (.tuple #[(d.read i).v, errV (d.readErr i)]) ∧ Below w.heap.size w w' := by
  have hro : Fence.wide.round = none := rfl
  have h1 : 1 ≤ 5 := by omega
  have Hg := Lib.hid hg
  have Hd := Lib.hid hd
  have H := Lib.hid h
  clear hg hd h
  refine callsIn_of_wp_marks Tryd.func61 rfl trivial ?_ hro
  simp only [Tryd.ntmps61, List.size_toArray, List.length_cons, List.length_nil, Nat.reduceAdd, Nat.reduceSub, Array.replicate_succ, Array.replicate_zero, List.push_toArray, List.append_toArray, List.nil_append, List.cons_append]
  obtain ⟨Zs, hZ, hZb⟩ : ∃ Zs : List Value, (∀ w, (zeroValue 90).run Tryd.prog w = .ok (.agg Zs.toArray) w) ∧ Zs = Sec.zero.cs := ⟨_, sec_zero, rfl⟩
  have hbl : Blk (((w.alloc (.cells #[.int .i64 i] 3)).alloc (.cells Zs.toArray 90)).alloc (.cells #[.nilIface] 28)) (w.heap.size + 1) 90 Zs.toArray := by
    have := (Blk.new (w.alloc (.cells #[.int .i64 i] 3)) 90 Zs.toArray).alloc (.cells #[.nilIface] 28)
    simpa using this
  have hbe : Boxed (((w.alloc (.cells #[.int .i64 i] 3)).alloc (.cells Zs.toArray 90)).alloc (.cells #[.nilIface] 28)) (w.heap.size + 1 + 1) 28 .nilIface := by
    have := Boxed.new ((w.alloc (.cells #[.int .i64 i] 3)).alloc (.cells Zs.toArray 90)) 28 .nilIface
    simpa using this
  have hlen : Zs.length = 128 := by rw [hZb, Sec.cs_len]
  have hia : (Tryd.prog.info? 90).map (·.size) = some Zs.toArray.size := by rw [List.size_toArray, hlen]; exact sec_size
  have hth := hbl.there (o := 0) (n := Zs.toArray.size) (by simp)
  have hone : ∀ u ∈ Zs, u.oneCell' = true := by rw [hZb]; exact Sec.zero.one
  have hsg := setCells_grown (w.heap.size + 1) Zs 0 (((w.alloc (.cells #[.int .i64 i] 3)).alloc (.cells Zs.toArray 90)).alloc (.cells #[.nilIface] 28))
  have hbe2 := hbe.kept hsg.1 (by simp)
  have hbl2 := hbl.over Zs (by simp)
  have hB2 : Below w.heap.size w ((((w.alloc (.cells #[.int .i64 i] 3)).alloc (.cells Zs.toArray 90)).alloc (.cells #[.nilIface] 28)).setCells (w.heap.size + 1) 0 Zs) :=
    ((((Below.refl _ w).alloc (Nat.le_refl _) _).alloc (by simp) _).alloc (by simp; omega) _).grown hsg.1 (by simp; omega) (fun k e => by injection e with e; omega)
  have c3 := hbe2.cell
  have f3 := hbe2.frozen
  have HZb := Lib.hid hZb
  have Hsg := Lib.hid hsg
  have Hbe2 := Lib.hid hbe2
  clear hZb hsg hbe2
  gi_wp2_with (first
    | (refine ⟨trivial, ?_⟩; gi_at_call 73; refine (callsIn_wide.2 (down_any _ base g gm v d (((H.out.alloc _).alloc _).alloc _))).mono ?_; rintro e w' ⟨rfl, rfl⟩; rw [Hg.out])
    | (refine ⟨trivial, ?_⟩; gi_at_call 65; refine (callsIn_wide.2 (has_any _ base g gm v d i (((H.out.alloc _).alloc _).alloc _))).mono ?_; rintro e w' ⟨rfl, rfl⟩; rw [Hd.out])
    | (refine wpListIn_store_mid rfl 90 (.tmp 4) (.tmp 16) rfl (w.heap.size + 1) 0 Zs.toArray rfl rfl hth hia (all_oneCell_toArray hone) ?_))
  refine ⟨_, read_results _ _ (w.heap.size + 1) (w.heap.size + 1 + 1) Sec.zero (errV 1) rfl rfl ?_ (Hbe2.out.set _), ?_, ?_⟩
  · rw [← HZb.out]; exact hbl2.far (by simp) _
  · have hread : d.read i = Sec.zero := by unfold DM.read; rw [Hg.out, Hd.out]; rfl
    have herr : d.readErr i = 1 := by unfold DM.readErr; rw [Hg.out, Hd.out]; rfl
    rw [hread, herr]
  · exact hB2.setCell (p := ⟨w.heap.size + 1 + 1, 0, none⟩) (by show _ ≤ w.heap.size + 1 + 1; omega) _
theorem read_any (w : World) (base g gm : Nat) (v : Value) (d : DM) (i : Int) (h : Lies w base g gm v d) (hw : d.wait.length ≤ 1000000) :
    Calls Tryd.prog 61 #[.pointer (some ⟨g, 0, none⟩), .int .i64 i] w fun e w' => e = .returned (.tuple #[(d.read i).v, errV (d.readErr i)]) ∧ Below w.heap.size w w' := by
  cases hg : d.gone with
  | true => exact callsIn_wide.1 (read_down w base g gm v d i h hg)
  | false =>
    cases hd : d.has i with
    | false => exact callsIn_wide.1 (read_range w base g gm v d i h hg hd)
    | true => exact callsIn_wide.1 (read_in w base g gm v d i h hw hd hg)
end Go.Proofs.YtpklcmocjimcpaaDoor

/-
  What the disk's New, Sure, Copy return. Conditions: the disk lies where it is said to.
-/
namespace Go.Proofs.YtpklcmocjimcpaaDoor
open Go.RowKit
set_option maxRecDepth 100000
/-- New's answer -/
def MadeDisk (w : World) (base n : Nat) (e : Ending) (w' : World) : Prop := ∃ g F, e = .returned (.tuple #[.pointer (some ⟨g, 0, none⟩), .nilIface]) ∧ DiskAt w' base F g (DM.new n) ∧ Below w.heap.size w w' ∧ Over w.heap.size F
theorem new_good (w : World) (base n : Nat) (h0 : 1 ≤ n) (h1 : n ≤ 4096) (hB : base ≤ w.heap.size) :
    Calls Tryd.prog 9 #[.int .i64 n] w (MadeDisk w base n) := by
  have hmm := @run_makeMap Tryd.prog
  go_enter Tryd.func9, Tryd.ntmps9
  go_wp2
  go_ret2
  refine ⟨w.heap.size + 1, _, rfl, ⟨w.heap.size, .slice none 0 0, rfl, ⟨?_, ⟨fun _ => none, (MapAt.new w).of (Below.heap_alloc _ _ _ (by simp)), fun k => rfl⟩, World.ownsRow_nil _ _ _ _, by omega, hB⟩⟩, ((Below.refl _ _).alloc (Nat.le_refl _) _).alloc (by simp) _, ?_⟩
  · have := Blk.new (w.alloc (.map #[] 0)) 62 (dcells (DM.new n) w.heap.size (.slice none 0 0))
    rw [World.size_alloc] at this
    exact this
  · intro k hk
    simp [rowOf, Value.ownBlock] at hk
    omega
theorem new_bad (w : World) (n : Int) (h1 : n < 1 ∨ 4096 < n) :
    Calls Tryd.prog 9 #[.int .i64 n] w fun e w' => e = .returned (.tuple #[.pointer none, errV 1]) ∧ w = w' := by
  rcases h1 with h1 | h1
  · go_enter Tryd.func9, Tryd.ntmps9
    go_wp2
    go_ret2
    exact ⟨rfl, rfl⟩
  · have h2 : decide (n < 1) = false := by simp; omega
    go_enter Tryd.func9, Tryd.ntmps9
    go_wp2
    go_ret2
    exact ⟨rfl, rfl⟩
end Go.Proofs.YtpklcmocjimcpaaDoor

/-
  What the disk's Copy returns: another disk like it. Conditions: the disk lies where it is said to; no more than a million writes wait.
-/
namespace Go.Proofs.YtpklcmocjimcpaaDoor
open Go.RowKit
set_option maxRecDepth 100000
attribute [local go_sem ↓] Go.wp_at_zero Go.wp_at_succ
def CopyTo (w : World) (base : Nat) (d : DM) (e : Ending) (w' : World) : Prop := ∃ g F, e = .returned (.pointer (some ⟨g, 0, none⟩)) ∧ DiskAt w' base F g d ∧ Below w.heap.size w w' ∧ Over w.heap.size F
end Go.Proofs.YtpklcmocjimcpaaDoor

/-
  Arrays of bytes held against each other. No condition.
-/
namespace Go.Proofs.YtpklcmocjimcpaaDoor
open Go.RowKit
set_option maxRecDepth 100000
theorem eq_loop (P : Program) (e : TypeId) (d : Nat) (a b : List Nat) (hl : a.length = b.length) (he : P.underlying e = some (.int .u8))
    (hp : ∀ (w : World) (cs : Array Value) (i v : Nat), cs[i]? = some (.int .u8 (v : Int)) → (Go.part e cs i).run P w = .ok (.int .u8 (v : Int)) w) (w : World) : ∀ m s, s + m = a.length →
    (Sem.run P (forIn (List.range' s m 1) (none, ()) fun i (_ : Option Bool × Unit) => do
        let x ← Go.part e (u8s a).toArray (i * 1)
        let y ← Go.part e (u8s b).toArray (i * 1)
        let r ← Op.equalIn (d + 1) e x y
        if (!r) = true then pure (ForInStep.done (some false, ())) else pure (ForInStep.yield (none, ()))) w) = .ok (if a.drop s = b.drop s then (none, ()) else (some false, ())) w
  | 0, s, h => by
    rw [List.drop_of_length_le (by omega), List.drop_of_length_le (by omega)]
    simp
  | m + 1, s, h => by
    have h1 : s < a.length := by omega
    have h2 : s < b.length := by omega
    have pa := hp w (u8s a).toArray s (a[s]) (by simp [u8s, u8, h1])
    have pb := hp w (u8s b).toArray s (b[s]) (by simp [u8s, u8, h2])
    have ih := eq_loop P e d a b hl he hp w m (s + 1) (by omega)
    rw [List.range'_succ, List.forIn_cons]
    simp only [Nat.mul_one] at ih ⊢
    simp only [Sem.run_bind, pa, pb, Result.andThen_ok, run_equalIn_int w d e .u8 .u8 _ _ he]
    have hd : (a.drop s = b.drop s) ↔ (a[s] = b[s] ∧ a.drop (s + 1) = b.drop (s + 1)) := by
      rw [List.drop_eq_getElem_cons h1, List.drop_eq_getElem_cons h2, List.cons.injEq]
    by_cases hx : a[s] = b[s]
    · have hb : (((a[s] : Nat) : Int) == ((b[s] : Nat) : Int)) = true := by rw [hx]; simp
      rw [hb]
      simp only [Bool.not_true, Bool.false_eq_true, if_false, Sem.run_pure, Result.andThen_ok]
      rw [ih]
      by_cases hy : a.drop (s + 1) = b.drop (s + 1)
      · rw [if_pos hy, if_pos (hd.2 ⟨hx, hy⟩)]
      · rw [if_neg hy, if_neg (fun h => hy (hd.1 h).2)]
    · have hb : (((a[s] : Nat) : Int) == ((b[s] : Nat) : Int)) = false := by simp; omega
      rw [hb, if_neg (fun h => hx (hd.1 h).1)]
      simp
theorem run_equalIn_bytes (P : Program) (t e : TypeId) (d : Nat) (a b : List Nat) (w : World) (ht : P.underlying t = some (.array a.length e)) (he : P.underlying e = some (.int .u8)) (hs : (sizeOf e).run P w = .ok 1 w) (hl : a.length = b.length)
    (hp : ∀ (w : World) (cs : Array Value) (i v : Nat), cs[i]? = some (.int .u8 (v : Int)) → (Go.part e cs i).run P w = .ok (.int .u8 (v : Int)) w) :
    (Op.equalIn (d + 1 + 1) t (.agg (u8s a).toArray) (.agg (u8s b).toArray)).run P w = .ok (a == b) w := by
  have h0 := eq_loop P e d a b hl he hp w a.length 0 (by omega)
  rw [Op.equalIn]
  simp only [Sem.run_bind, run_underlying ht, Result.andThen_ok, hs]
  rw [Std.Legacy.Range.forIn_eq_forIn_range']
  simp only [Std.Legacy.Range.size] at h0 ⊢
  simp only [Nat.sub_zero, Nat.div_one, Nat.add_one_sub_one] at h0 ⊢
  rw [h0]
  simp only [List.drop_zero]
  by_cases hx : a = b
  · simp [hx]
  · simp [hx]
theorem byte_part (w : World) (cs : Array Value) (i v : Nat) (h : cs[i]? = some (.int .u8 (v : Int))) : (Go.part 5 cs i).run Tryd.prog w = .ok (.int .u8 (v : Int)) w := by
  have hu := Tryd.underlying5
  simp [Go.part, isAgg, run_underlying hu, h]
theorem byte_one (w : World) : (sizeOf 5).run Tryd.prog w = .ok 1 w := by kernel_rfl
def secEq (s t : Sec) : Bool := s.l == t.l
theorem secEq_iff (s t : Sec) : secEq s t = true ↔ s = t := by
  unfold secEq
  rw [beq_iff_eq]
  exact ⟨Sec.ext_, fun h => by rw [h]⟩
theorem secEq_same (s : Sec) : secEq s s = true := (secEq_iff s s).2 rfl
theorem run_sec_in (s t : Sec) (w : World) : (Op.equalIn 10000 90 (.agg s.cs.toArray) (.agg t.cs.toArray)).run Tryd.prog w = .ok (secEq s t) w := by
  have := run_equalIn_bytes Tryd.prog 90 5 9998 s.l t.l w (by rw [s.len]; exact Tryd.underlying90) Tryd.underlying5 (byte_one w) (by rw [s.len, t.len]) byte_part
  unfold Sec.cs
  exact this
theorem run_sec_guard (op : BinOp) (x y : Operand) (a b : Array Value) (w : World) : (eqGuard op 90 x y (.agg a) (.agg b)).run Tryd.prog w = .ok () w := run_eqGuard_agg w op _ x y a b (by kernel_rfl)
theorem run_sec_eq (s t : Sec) (w : World) : (binOp .eql 90 (.agg s.cs.toArray) (.agg t.cs.toArray)).run Tryd.prog w = .ok (.bool (secEq s t)) w := by
  rw [run_eql_struct]
  have := run_equalIn_bytes Tryd.prog 90 5 9998 s.l t.l w (by rw [s.len]; exact Tryd.underlying90) Tryd.underlying5 (byte_one w) (by rw [s.len, t.len]) byte_part
  unfold Sec.cs
  rw [this]
  rfl
theorem run_sec_neq (s t : Sec) (w : World) : (binOp .neq 90 (.agg s.cs.toArray) (.agg t.cs.toArray)).run Tryd.prog w = .ok (.bool (!secEq s t)) w := by
  rw [run_neq_struct]
  have := run_equalIn_bytes Tryd.prog 90 5 9998 s.l t.l w (by rw [s.len]; exact Tryd.underlying90) Tryd.underlying5 (byte_one w) (by rw [s.len, t.len]) byte_part
  unfold Sec.cs
  rw [this]
  rfl
end Go.Proofs.YtpklcmocjimcpaaDoor

/-
  What the calls of a nil disk return. No condition.
-/
namespace Go.Proofs.YtpklcmocjimcpaaDoor
open Go.RowKit Go.Shelf
set_option maxRecDepth 100000

theorem len_nil (w : World) : Calls Tryd.prog 27 #[.pointer none] w fun e w' => e = .returned (.int .i64 0) ∧ w = w' := by
  go_enter Tryd.func27, Tryd.ntmps27
  go_wp2
  go_ret
  exact ⟨rfl, rfl⟩
theorem waiting_nil (w : World) : Calls Tryd.prog 26 #[.pointer none] w fun e w' => e = .returned (.int .i64 0) ∧ w = w' := by
  go_enter Tryd.func26, Tryd.ntmps26
  go_wp2
  go_ret
  exact ⟨rfl, rfl⟩
theorem down_nil (w : World) : Calls Tryd.prog 73 #[.pointer none] w fun e w' => e = .returned (.bool true) ∧ w = w' := by
  go_enter Tryd.func73, Tryd.ntmps73
  go_wp2
  go_ret
  exact ⟨rfl, rfl⟩
theorem flush_nil (w : World) : Calls Tryd.prog 56 #[.pointer none] w fun e w' => e = .returned (errV 3) ∧ w = w' := by
  go_enter Tryd.func56, Tryd.ntmps56
  go_wp2
  go_ret
  exact ⟨rfl, rfl⟩
theorem arm_nil (w : World) (i : Int) : Calls Tryd.prog 11 #[.pointer none, .int .i64 i] w fun e w' => e = .returned (errV 3) ∧ w = w' := by
  go_enter Tryd.func11, Tryd.ntmps11
  go_wp2
  go_ret
  exact ⟨rfl, rfl⟩
theorem write_nil (w : World) (i : Int) (s : Sec) : Calls Tryd.prog 55 #[.pointer none, .int .i64 i, .agg s.cs.toArray] w fun e w' => e = .returned (errV 3) ∧ Below w.heap.size w w' := by
  go_enter Tryd.func55, Tryd.ntmps55
  go_wp2
  go_ret
  exact ⟨rfl, (Below.refl _ _).alloc (Nat.le_refl _) _⟩
theorem crash_nil (w : World) (A : Option Addr) (n c : Nat) : Calls Tryd.prog 15 #[.pointer none, .slice A n c] w fun e w' => e = .returned (.tuple #[]) ∧ Below w.heap.size w w' := by
  go_enter Tryd.func15, Tryd.ntmps15
  go_wp2
  go_returns
  exact ⟨rfl, (Below.refl _ _).alloc (Nat.le_refl _) _⟩
set_option maxRecDepth 100000 in
set_option maxHeartbeats 2000000 in
theorem read_nil_in (w : World) (i : Int) :
    CallsIn Fence.wide 5 Tryd.prog 61 #[.pointer none, .int .i64 i] w fun e w' => e = .returned (.tuple #[Sec.zero.v, errV 3]) ∧ Below w.heap.size w w' := by
  have hro : Fence.wide.round = none := rfl
  have h1 : 1 ≤ 5 := by omega
  refine callsIn_of_wp_marks Tryd.func61 rfl trivial ?_ hro
  simp only [Tryd.ntmps61, List.size_toArray, List.length_cons, List.length_nil, Nat.reduceAdd, Nat.reduceSub, Array.replicate_succ, Array.replicate_zero, List.push_toArray, List.append_toArray, List.nil_append, List.cons_append]
  obtain ⟨Zs, hZ, hZb⟩ : ∃ Zs : List Value, (∀ w, (zeroValue 90).run Tryd.prog w = .ok (.agg Zs.toArray) w) ∧ Zs = Sec.zero.cs := ⟨_, sec_zero, rfl⟩
  have hbl : Blk (((w.alloc (.cells #[.int .i64 i] 3)).alloc (.cells Zs.toArray 90)).alloc (.cells #[.nilIface] 28)) (w.heap.size + 1) 90 Zs.toArray := by
    have := (Blk.new (w.alloc (.cells #[.int .i64 i] 3)) 90 Zs.toArray).alloc (.cells #[.nilIface] 28)
    simpa using this
  have hbe : Boxed (((w.alloc (.cells #[.int .i64 i] 3)).alloc (.cells Zs.toArray 90)).alloc (.cells #[.nilIface] 28)) (w.heap.size + 1 + 1) 28 .nilIface := by
    have := Boxed.new ((w.alloc (.cells #[.int .i64 i] 3)).alloc (.cells Zs.toArray 90)) 28 .nilIface
    simpa using this
  have hlen : Zs.length = 128 := by rw [hZb, Sec.cs_len]
  have hia : (Tryd.prog.info? 90).map (·.size) = some Zs.toArray.size := by rw [List.size_toArray, hlen]; exact sec_size
  have hth := hbl.there (o := 0) (n := Zs.toArray.size) (by simp)
  have hone : ∀ u ∈ Zs, u.oneCell' = true := by rw [hZb]; exact Sec.zero.one
  have hsg := setCells_grown (w.heap.size + 1) Zs 0 (((w.alloc (.cells #[.int .i64 i] 3)).alloc (.cells Zs.toArray 90)).alloc (.cells #[.nilIface] 28))
  have hbe2 := hbe.kept hsg.1 (by simp)
  have hbl2 := hbl.over Zs (by simp)
  have hB2 : Below w.heap.size w ((((w.alloc (.cells #[.int .i64 i] 3)).alloc (.cells Zs.toArray 90)).alloc (.cells #[.nilIface] 28)).setCells (w.heap.size + 1) 0 Zs) :=
    ((((Below.refl _ w).alloc (Nat.le_refl _) _).alloc (by simp) _).alloc (by simp; omega) _).grown hsg.1 (by simp; omega) (fun k e => by injection e with e; omega)
  have c3 := hbe2.cell
  have f3 := hbe2.frozen
  have HZb := Lib.hid hZb
  have Hsg := Lib.hid hsg
  have Hbe2 := Lib.hid hbe2
  clear hZb hsg hbe2
  gi_wp2_with (first
    | (refine ⟨trivial, ?_⟩; gi_at_call 73; refine (callsIn_wide.2 (down_nil _)).mono ?_; rintro e w' ⟨rfl, rfl⟩)
    | (refine wpListIn_store_mid rfl 90 (.tmp 4) (.tmp 10) rfl (w.heap.size + 1) 0 Zs.toArray rfl rfl hth hia (all_oneCell_toArray hone) ?_))
  refine ⟨_, read_results _ _ (w.heap.size + 1) (w.heap.size + 1 + 1) Sec.zero (errV 3) rfl rfl ?_ (Hbe2.out.set _), ?_, ?_⟩
  · rw [← HZb.out]; exact hbl2.far (by simp) _
  · rfl
  · exact hB2.setCell (p := ⟨w.heap.size + 1 + 1, 0, none⟩) (by show _ ≤ w.heap.size + 1 + 1; omega) _
theorem read_nil (w : World) (i : Int) : Calls Tryd.prog 61 #[.pointer none, .int .i64 i] w fun e w' => e = .returned (.tuple #[Sec.zero.v, errV 3]) ∧ Below w.heap.size w w' := callsIn_wide.1 (read_nil_in w i)
end Go.Proofs.YtpklcmocjimcpaaDoor

/-
  The laws' fixed example stands: alive returns true. No condition.
-/
namespace Go.Proofs.YtpklcmocjimcpaaDoor
open Go.RowKit
set_option maxRecDepth 100000
set_option linter.unusedSimpArgs false
attribute [local go_sem ↓] Go.wp_at_zero Go.wp_at_succ
def a1 : DM := DM.new 4
def s1 : Sec := Sec.full 1 (by omega)
def s2 : Sec := Sec.full 2 (by omega)
def s3 : Sec := Sec.full 3 (by omega)
def a2 : DM := a1.write 0 s1
def a3 : DM := a2.flush
def a4 : DM := a3.write 0 s2
def a5 : DM := a4.write 1 s3
def a6 : DM := a5.crash [false, true]
theorem e1 : a1.writeErr 0 = 0 := rfl
theorem e2 : a2.stepErr = 0 := rfl
theorem e3 : a3.writeErr 0 = 0 := rfl
theorem e4 : a4.writeErr 1 = 0 := rfl
theorem e5 : a5.wait.length = 2 := rfl
theorem e6 : a6.read 0 = s1 := rfl
theorem e7 : a6.readErr 0 = 0 := rfl
theorem e8 : a6.read 1 = s3 := rfl
theorem e9 : a6.readErr 1 = 0 := rfl
theorem e10 : a6.steps = 4 := rfl
/-- a disk that the call made since w0 -/
def Has (w0 w : World) (g : Nat) (d : DM) : Prop := ∃ F, DiskAt w w0.heap.size F g d ∧ Below w0.heap.size w0 w
section
variable {w0 w w' : World} {g : Nat} {d : DM}
theorem Has.below (h : Has w0 w g d) (hb : Below w.heap.size w w') : Has w0 w' g d := by
  obtain ⟨F, h1, h2⟩ := h
  exact ⟨F, h1.of (below_keeps hb h1.under), h2.trans (hb.mono h2.size)⟩
theorem Has.alloc (h : Has w0 w g d) (o : Obj) : Has w0 (w.alloc o) g d := h.below ((Below.refl _ _).alloc (Nat.le_refl _) _)
theorem Has.drew (h : Has w0 w g d) : Has w0 w.drew g d := h.below (Below.refl _ _).drew
theorem Has.made {e : Ending} {n : Nat} (hb : Below w0.heap.size w0 w) (h : MadeDisk w w0.heap.size n e w') : ∃ g, e = .returned (.tuple #[.pointer (some ⟨g, 0, none⟩), .nilIface]) ∧ Has w0 w' g (DM.new n) := by
  obtain ⟨g, F, he, h1, h2, h3⟩ := h
  exact ⟨g, he, F, h1, hb.trans (h2.mono hb.size)⟩
theorem Has.to {F : List Nat} {d' : DM} (h1 : DiskAt w w0.heap.size F g d) (h2 : Below w0.heap.size w0 w) (h : DTo w w0.heap.size F g d' w') : Has w0 w' g d' := by
  obtain ⟨F', h3, h4, h5⟩ := h
  exact ⟨F', h3, h2.trans (h4.below h1.over h2.size)⟩
theorem has_write (h : Has w0 w g d) (i : Int) (s : Sec) (hs : d.steps < 4611686018427387904) (hl : d.left ≤ 9223372036854775807) (hw : d.wait.length ≤ 1000000) :
    Calls Tryd.prog 55 #[.pointer (some ⟨g, 0, none⟩), .int .i64 i, s.v] w fun e w' => e = .returned (errV (d.writeErr i)) ∧ Has w0 w' g (d.write i s) := by
  obtain ⟨F, h1, h2⟩ := h
  exact (write_any w _ g F d i s h1 hs hl hw h2.size).mono fun e w' ⟨he, ht⟩ => ⟨he, Has.to h1 h2 ht⟩
theorem has_flush (h : Has w0 w g d) (hs : d.steps < 4611686018427387904) (hl : d.left ≤ 9223372036854775807) (hw : d.wait.length ≤ 1000000) :
    Calls Tryd.prog 56 #[.pointer (some ⟨g, 0, none⟩)] w fun e w' => e = .returned (errV d.stepErr) ∧ Has w0 w' g d.flush := by
  obtain ⟨F, h1, h2⟩ := h
  exact (flush_any w _ g F d h1 hs hl hw).mono fun e w' ⟨he, ht⟩ => ⟨he, Has.to h1 h2 ht⟩
theorem has_read (h : Has w0 w g d) (i : Int) (hw : d.wait.length ≤ 1000000) :
    Calls Tryd.prog 61 #[.pointer (some ⟨g, 0, none⟩), .int .i64 i] w fun e w' => e = .returned (.tuple #[(d.read i).v, errV (d.readErr i)]) ∧ Has w0 w' g d ∧ Below w.heap.size w w' := by
  obtain ⟨F, ⟨gm, v, rfl, h1⟩, h2⟩ := h
  exact (read_any w _ g gm v d i h1 hw).mono fun e w' ⟨he, ht⟩ => ⟨he, Has.below ⟨_, ⟨gm, v, rfl, h1⟩, h2⟩ ht, ht⟩
theorem has_waiting (h : Has w0 w g d) : Calls Tryd.prog 26 #[.pointer (some ⟨g, 0, none⟩)] w fun e w' => e = .returned (.int .i64 d.wait.length) ∧ w = w' := by
  obtain ⟨F, ⟨gm, v, rfl, h1⟩, h2⟩ := h
  exact waiting_any w _ g gm v d h1
theorem has_crash (h : Has w0 w g d) (hw : d.wait.length ≤ 1000000) (A : Option Addr) (c B : Nat) (keep : List Bool) (hR : ∀ F, DiskAt w w0.heap.size F g d → ∀ W', Only F w W' → Reads W' B 1 A keep.length (flags keep)) :
    Calls Tryd.prog 15 #[.pointer (some ⟨g, 0, none⟩), .slice A keep.length c] w fun e w' => e = .returned (.tuple #[]) ∧ Has w0 w' g (d.crash keep) := by
  obtain ⟨F, h1, h2⟩ := h
  exact (crash_any w _ g F d A c B keep h1 hw (hR F h1)).mono fun e w' ⟨he, ht⟩ => ⟨he, Has.to h1 h2 ht⟩
end
theorem sa_below {w w1 w2 : World} {b3 b4 g : Nat} {d : DM} (h3 : Blk w1 b3 90 s1.cs.toArray) (h4 : Blk w1 b4 90 s3.cs.toArray) (hd : Has w w1 g d) (hb : Below w1.heap.size w1 w2) :
    w2.rangeAt b3 0 s1.cs ∧ w2.rangeAt b4 0 s3.cs ∧ Blk w2 b3 90 s1.cs.toArray ∧ Blk w2 b4 90 s3.cs.toArray ∧ Has w w2 g d :=
  ⟨(h3.below hb h3.lt).range, (h4.below hb h4.lt).range, h3.below hb h3.lt, h4.below hb h4.lt, hd.below hb⟩
end Go.Proofs.YtpklcmocjimcpaaDoor

/-
  A script of acts, as cells: what long answers of it. No condition.
-/
namespace Go.Proofs.YtpklcmocjimcpaaDoor
open Go.RowKit
set_option maxRecDepth 100000
set_option linter.unusedSimpArgs false
set_option linter.unusedVariables false
/-- an act: its kind, its number, its byte, what is kept -/
structure OpV where
  kind : Int
  n : Int
  b : Nat
  A : Option Addr
  c : Nat
  keep : List Bool
def OpV.kv (o : OpV) : Value := .slice o.A o.keep.length o.c
def OpV.cs (o : OpV) : List Value := [.int .i64 o.kind, .int .i64 o.n, .int .u8 o.b, o.kv]
def Script (w : World) (B : Nat) (A : Option Addr) (m : Nat) (os : List OpV) : Prop :=
  Reads w B 4 A m (os.flatMap OpV.cs) ∧ ∀ o ∈ os, o.b < 256 ∧ Reads w B 1 o.A o.keep.length (flags o.keep)
theorem Script.len {w : World} {B : Nat} {A : Option Addr} {m : Nat} {os : List OpV} (h : Script w B A m os) : os.length = m := by
  have h1 := h.1.1
  have h2 : (os.flatMap OpV.cs).length = os.length * 4 := by
    clear h1 h
    induction os with
    | nil => rfl
    | cons o l ih => rw [List.flatMap_cons, List.length_append, ih]; simp [OpV.cs]; omega
  omega
theorem ops_at : ∀ (os : List OpV) (k : Nat) (o : OpV), os[k]? = some o → ∀ j, j < 4 → (os.flatMap OpV.cs)[k * 4 + j]? = o.cs[j]?
  | [], k, o, h, _, _ => by simp at h
  | a :: l, 0, o, h, j, hj => by
    simp at h
    subst h
    rw [List.flatMap_cons, List.getElem?_append_left (by simp [OpV.cs]; omega)]
    simp
  | a :: l, k + 1, o, h, j, hj => by
    rw [List.flatMap_cons, List.getElem?_append_right (by simp [OpV.cs]; omega)]
    have := ops_at l k o (by simpa using h) j hj
    rw [show (k + 1) * 4 + j - a.cs.length = k * 4 + j by simp [OpV.cs]; omega]
    exact this
theorem Script.below {w w' : World} {B : Nat} {A : Option Addr} {m : Nat} {os : List OpV} (h : Script w B A m os) (hb : Below B w w') : Script w' B A m os :=
  ⟨h.1.below hb, fun o ho => ⟨(h.2 o ho).1, (h.2 o ho).2.below hb⟩⟩
theorem Script.at_ {w : World} {B : Nat} {A : Option Addr} {m k : Nat} {os : List OpV} (h : Script w B A m os) (hk : k < m) : ∃ ad o, A = some ad ∧ ad.block < B ∧ os[k]? = some o ∧
    w.cell? (ad.add (k * 4)) = some (.int .i64 o.kind) ∧ w.cell? ((ad.add (k * 4)).add 1) = some (.int .i64 o.n) ∧ w.cell? ((ad.add (k * 4)).add 2) = some (.int .u8 o.b) ∧ w.cell? ((ad.add (k * 4)).add 3) = some o.kv ∧ o.b < 256 ∧ Reads w B 1 o.A o.keep.length (flags o.keep) := by
  have hl := h.len
  obtain ⟨ad, rfl, hb, hc⟩ := h.1.2 (by omega)
  have ho : os[k]? = some os[k] := List.getElem?_eq_getElem (by omega)
  have hh := h.2 _ (List.getElem_mem (show k < os.length by omega))
  refine ⟨ad, os[k], rfl, hb, ho, ?_, ?_, ?_, ?_, hh.1, hh.2⟩
  · exact hc (k * 4) _ (by rw [show k * 4 = k * 4 + 0 by omega, ops_at os k _ ho 0 (by omega)]; rfl)
  · rw [add_of_add]; exact hc (k * 4 + 1) _ (by rw [ops_at os k _ ho 1 (by omega)]; rfl)
  · rw [add_of_add]; exact hc (k * 4 + 2) _ (by rw [ops_at os k _ ho 2 (by omega)]; rfl)
  · rw [add_of_add]; exact hc (k * 4 + 3) _ (by rw [ops_at os k _ ho 3 (by omega)]; rfl)
theorem take_snoc_any {α : Type} {l : List α} {k : Nat} {x : α} (h : l[k]? = some x) : l.take (k + 1) = l.take k ++ [x] := by
  rw [List.take_add_one, h]; rfl
theorem run_loadVar_at {P : Program} (w : World) (p : Addr) (ty : TypeId) (cs : List Value) (d : TypeDesc) (hc : ∀ j v, cs[j]? = some v → w.cell? (p.add j) = some v)
    (hu : P.underlying ty = some d) (hd : d.isRow = true) (hi : (P.info? ty).map (·.size) = some cs.length) :
    (loadVar ty p).run P w = .ok (.agg cs.toArray) w := by
  have hl : (loadCells p cs.length).run P w = .ok cs.toArray w := run_loadCells_list (P := P) w p cs hc
  cases hq : P.info? ty with
  | none => simp [hq] at hi
  | some i =>
    have hs : i.size = cs.length := by simpa [hq] using hi
    have hagg : (isAgg ty).run P w = .ok true w := by
      unfold isAgg
      rw [Sem.run_bind, run_underlying hu w]
      cases d <;> simp_all
    simp [loadVar, Sem.run_bind, hagg, sizeOf, typeInfo, hq, hs, hl]
theorem wpList_load_at {P : Program} {ops : Array Oper} {rest : List Oper} {op : Oper} {a : Act} {w : World} {Q : Exit → Act → World → Prop} (hgd : op.guard = none) (ty : TypeId) (x : Operand) (ho : op.op = .load ty x)
    (p : Addr) (hx : a.eval x = .pointer (some p)) (cs : List Value) (d : TypeDesc) (hc : ∀ j v, cs[j]? = some v → w.cell? (p.add j) = some v)
    (hu : P.underlying ty = some d) (hd : d.isRow = true) (hi : (P.info? ty).map (·.size) = some cs.length)
    (h : wpList P ops Q rest (a.put op.dst (.agg cs.toArray)) w) : wpList P ops Q (op :: rest) a w :=
  wpList_plain hgd fun _ hK => by
    unfold Oper.wp execOp
    simp only [ho, hx, Instr.loadAt, Instr.sureAddr, Sem.run_bind, Sem.run_pure, Result.andThen_ok, run_loadVar_at w p ty cs d hc hu hd hi]
    exact hK _ _ h
theorem OpV.one (o : OpV) : ∀ u ∈ o.cs, u.oneCell' = true := by
  intro u hu
  simp [OpV.cs, OpV.kv] at hu
  rcases hu with rfl | rfl | rfl | rfl <;> rfl
/-- the cells of the k-th act -/
theorem Script.get {w : World} {B : Nat} {A : Option Addr} {m k : Nat} {os : List OpV} (h : Script w B A m os) (hk : k < m) : ∃ ad o, A = some ad ∧ ad.block < B ∧ os[k]? = some o ∧
    (∀ j v, o.cs[j]? = some v → w.cell? ((ad.add (k * 4)).add j) = some v) ∧ o.b < 256 ∧ Reads w B 1 o.A o.keep.length (flags o.keep) := by
  have hl := h.len
  obtain ⟨ad, rfl, hb, hc⟩ := h.1.2 (by omega)
  have ho : os[k]? = some os[k] := List.getElem?_eq_getElem (by omega)
  have hh := h.2 _ (List.getElem_mem (show k < os.length by omega))
  refine ⟨ad, os[k], rfl, hb, ho, fun j v hv => ?_, hh.1, hh.2⟩
  have hj : j < 4 := by
    rcases Nat.lt_or_ge j 4 with h' | h'
    · exact h'
    · rw [List.getElem?_eq_none (by simp [OpV.cs]; omega)] at hv; cases hv
  rw [add_of_add]
  exact hc _ _ (by rw [ops_at os k _ ho j hj]; exact hv)
end Go.Proofs.YtpklcmocjimcpaaDoor
