/-
  The law DiskWhole, walked: it returns true and changes nothing that was there. No condition.
-/
import Derived.Test.YtbppfdcoajjjdaaMay
import Derived.Deep.LoopGhost
import Derived.Deep.CutRange
import Derived.Deep.DeepCutAuto
import Derived.Deep.CutBlock
namespace Go.Proofs.Ytbppfdcoajjjdaa
open Go.RowKit
set_option linter.unusedSimpArgs false
set_option linter.unusedVariables false
theorem Script.more' {w : World} {B B' : Nat} {A : Option Addr} {m : Nat} {os : List OpV} (h : Script w B A m os) (hB : B ≤ B') : Script w B' A m os :=
  ⟨h.1.more hB, fun o ho => ⟨(h.2 o ho).1, (h.2 o ho).2.more hB⟩⟩
theorem one_sector (cs : List Value) (hc : cs.length = 128) (w : World) : (Instr.buildSlice 33 1 #[(0, .agg cs.toArray)]).run Try.prog w = .ok (.slice (some ⟨w.heap.size, 0, none⟩) 1 1) (w.alloc (.cells cs.toArray 47)) :=
  run_buildSlice_one (size := 128) (v := .agg cs.toArray) Try.underlying33 (by kernel_rfl) (by omega) (by omega) (by simpa [Value.cells] using hc) w
theorem wp_one_sector {ops : Array Oper} {o : Oper} {a : Act} {w : World} {K : Act → World → Prop} {Q : Exit → Act → World → Prop} (x : Operand) (ho : o.op = .buildSlice 33 1 #[(0, x)])
    (cs : List Value) (hx : a.eval x = .agg cs.toArray) (hc : cs.length = 128) (h : K (a.put o.dst (.slice (some ⟨w.heap.size, 0, none⟩) 1 1)) (w.alloc (.cells cs.toArray 47))) : Oper.wp Try.prog o a w K Q := by
  refine wp_ran (v := .slice (some ⟨w.heap.size, 0, none⟩) 1 1) (w' := w.alloc (.cells cs.toArray 47)) ?_ h
  simp [execOp, ho, hx, one_sector cs hc, Result.andThen]
theorem wpList_one_sector {ops : Array Oper} {rest : List Oper} {o : Oper} {a : Act} {w : World} {Q : Exit → Act → World → Prop} (hg : o.guard = none) (x : Operand) (ho : o.op = .buildSlice 33 1 #[(0, x)])
    (cs : List Value) (hx : a.eval x = .agg cs.toArray) (hc : cs.length = 128) (h : wpList Try.prog ops Q rest (a.put o.dst (.slice (some ⟨w.heap.size, 0, none⟩) 1 1)) (w.alloc (.cells cs.toArray 47))) : wpList Try.prog ops Q (o :: rest) a w :=
  wpList_plain hg fun _ hK => wp_one_sector (ops := ops) x ho cs hx hc (hK _ _ h)
set_option maxRecDepth 100000 in
set_option maxHeartbeats 8000000 in
theorem diskWhole_walk (A0 : Option Addr) (n0 c0 : Nat) (os : List OpV) (A1 : Option Addr) (c1 : Nat) (keep : List Bool) (m0 : n0 ≤ 9223372036854775807) (o0 : ∀ o ∈ os, o.keep.length ≤ 9223372036854775807 ∧ -9223372036854775808 ≤ o.n ∧ o.n ≤ 9223372036854775807) {w : World} (hS : Script w w.heap.size A0 n0 os) (hK : Reads w w.heap.size 1 A1 keep.length (flags keep)) :
    Calls Try.prog 4 #[.slice A0 n0 c0, .slice A1 keep.length c1] w fun e w' => e = .returned (.bool true) ∧ Below w.heap.size w w' := by
  have HS := Lib.hid hS
  have HO := Lib.hid o0
  have HK := Lib.hid hK
  clear hS o0 hK
  obtain ⟨i0, hi0, hz0', hz1', hz2⟩ := info_parts sec_info
  obtain ⟨z0, hz0, hz1, hz3⟩ : ∃ z0, i0.zero = some z0 ∧ i0.size = 128 ∧ z0.cells.size = 128 := ⟨_, hz0', hz1', by simp [Sec.v, Value.cells, Sec.cs_len]⟩
  clear hz0' hz1'
  have HI := Lib.hid (And.intro hi0 (And.intro hz0 (And.intro hz1 (And.intro hz2 hz3))))
  clear hi0 hz0 hz1 hz2 hz3
  go_enter Try.func4, Try.ntmps4
  go_wp2_with fail
  refine (alive_any _).mono ?_
  rintro e w1 ⟨rfl, b1⟩
  have S1 := (HS.out.below b1).more' b1.size
  go_wp2_with fail
  refine (long_any A0 n0 c0 os w1 S1 m0 (fun o ho => (HO.out o ho).1)).mono ?_
  rintro e w2 ⟨r, rfl, b2, hr⟩
  have B2 := b1.trans (b2.mono b1.size)
  clear S1 b1 b2
  cases r with
  | true =>
    go_wp2
    go_ret
    exact ⟨rfl, B2⟩
  | false =>
    obtain ⟨hn81, -⟩ := hr rfl
    clear hr
    by_cases h300 : keep.length ≤ 300
    · have hd300 : decide (300 < (keep.length : Int)) = false := by simp; omega
      go_wp2_with fail
      refine (new_good w2 w.heap.size 6 (by omega) (by omega) B2.size).mono ?_
      intro e w3 hm
      obtain ⟨g, rfl, h3⟩ := Holds.made B2 hm
      have H3 := Lib.hid h3
      clear hm h3 hd300
      go_wp2_with fail
      have M4 : Hid (MayAt (w3.alloc (.cells #[.slice none 0 0, .slice none 0 0, .slice none 0 0, .slice none 0 0, .slice none 0 0, .slice none 0 0] 45)) w.heap.size w3.heap.size 0 (fun _ => 0) (fun _ => .slice none 0 0) (fun _ => [Sec.zero])) :=
        Lib.hid ⟨by omega, Blk.new _ _ _, fun j hj => by omega, fun i j hi => by omega⟩
      have H4 := Lib.hid (H3.out.push (.cells #[.slice none 0 0, .slice none 0 0, .slice none 0 0, .slice none 0 0, .slice none 0 0, .slice none 0 0] 45))
      have hgl : w.heap.size ≤ w3.heap.size := H3.out.size
      clear H3
      generalize hw4 : w3.alloc _ = w4 at *
      generalize w3.heap.size = gl at *
      clear hw4 B2
      obtain ⟨Zt, hZ, hZt⟩ : ∃ Zt : List Value, (∀ w, (zeroValue 47).run Try.prog w = .ok (.agg Zt.toArray) w) ∧ Zt = Sec.zero.cs := ⟨_, sec_zero, rfl⟩
      have hZl : Zt.length = 128 := by rw [hZt, Sec.cs_len]
      have HZt := Lib.hid hZt
      clear hZt
      go_loopg [36] 6 (fun gj i wr => ∃ (j : Nat) (R : Nat → Nat) (vs : Nat → Value), j ≤ 6 ∧ gj = 6 - j ∧ i = .int .i64 j ∧ MayAt wr w.heap.size gl j R vs (fun _ => [Sec.zero]) ∧ Holds w wr g (DM.new 6) (mayBlocks gl j R))
      case atStart => exact ⟨0, _, _, by omega, by omega, rfl, M4.out, H4.out⟩
      case round =>
        obtain ⟨j, R, vs, hj, rfl, rfl, hm, hh⟩ := hrel
        by_cases hj6 : j < 6
        · have hc : (wr.alloc (.cells Zt.toArray 47)).cell? ⟨gl, j, none⟩ = some (vs j) := by rw [(hm.blk.alloc _).cell]; simp [hj6]
          have hf : (wr.alloc (.cells Zt.toArray 47)).frozen? ⟨gl, j, none⟩ = false := (hm.blk.alloc _).frozen _
          have Hm := Lib.hid hm
          have Hh := Lib.hid hh
          have hj0 : (0 : Int) ≤ (j : Int) := by omega
          have hj7 : (j : Int) < 6 := by omega
          clear hm hh
          go_wp2_with (refine wpList_one_sector rfl (.tmp 40) rfl Zt rfl hZl ?_)
          go_roundg (6 - (j + 1))
          case measure => omega
          case rel =>
            have hbl : Below wr.heap.size wr (wr.alloc (.cells Zt.toArray 47)) := (Below.refl _ _).alloc (Nat.le_refl _) _
            have hsw : w.heap.size ≤ wr.heap.size := Hh.out.size
            have hrow : SecRow (wr.alloc (.cells Zt.toArray 47)) w.heap.size wr.heap.size (.slice (some ⟨wr.heap.size, 0, none⟩) 1 1) [Sec.zero] := by rw [HZt.out]; exact SecRow.new wr Sec.zero hsw
            have hlt := hrow.lt
            have hM := (Hm.out.below hbl).put (m := j + 1) (j := j) (.inr ⟨rfl, rfl⟩) (by omega) hrow (.inr fun i hi he => by have := (Hm.out.rows i hi).lt; omega)
            have hL : (fun i => if i = j then [Sec.zero] else [Sec.zero]) = (fun _ : Nat => [Sec.zero]) := by funext i; split <;> rfl
            rw [hL] at hM
            exact ⟨j + 1, _, _, by omega, rfl, by go_num, hM, Hh.out.rows (m := j + 1) (j := j) (by omega) (fun _ => rfl) (Only.of_below hbl _) (Hm.out.over hgl) (.inr (Nat.le_refl _)) hlt⟩
        · obtain rfl : j = 6 := by omega
          have M6 := Lib.hid hm
          have H6 := Lib.hid hh
          clear hm hh M4 H4
          go_wp2
          go_loopg [46] n0 (fun gk i wx => ∃ (k : Nat) (d : DM) (R : Nat → Nat) (vs : Nat → Value) (L : Nat → List Sec), k ≤ n0 ∧ gk = n0 - k ∧ i = .int .i64 k ∧ Whole d L k ∧ MayAt wx w.heap.size gl 6 R vs L ∧ Holds w wx g d (mayBlocks gl 6 R))
          case atStart => exact ⟨0, _, _, _, _, by omega, by omega, rfl, Whole.new, M6.out, H6.out⟩
          case round =>
            clear H6 M6
            obtain ⟨k, d, R, vs, L, hk, rfl, rfl, hd, hm, hh⟩ := hrel
            by_cases hlt : k < n0
            · obtain ⟨ad, o, rfl, hadb, ho, hc, hob, -⟩ := (HS.out.below hh.since).get hlt
              have hon := (HO.out o (List.mem_of_getElem? ho)).2
              have hu := Try.underlying40
              have hi : (Try.prog.info? 40).map (·.size) = some o.cs.length := op_size
              have hzo := op_zero
              have B0 := Lib.hid (Blk.new wr 40 o.cs.toArray)
              have D0 := Lib.hid (hh.push (.cells o.cs.toArray 40))
              have M0 := Lib.hid (hm.below ((Below.refl _ _).alloc (Nat.le_refl _) (.cells o.cs.toArray 40)))
              have q0 : (wr.alloc (.cells o.cs.toArray 40)).cell? ⟨wr.heap.size, 0, none⟩ = some (.int .i64 o.kind) := by rw [B0.out.cell]; rfl
              have WD := Lib.hid hd
              have h64 : d.steps < 4611686018427387904 := by have := hd.steps; omega
              have hlf : d.left ≤ 9223372036854775807 := by have := hd.left; omega
              have hwl : d.wait.length ≤ 1000000 := by have := hd.wait; omega
              clear hh hm hd ho
              by_cases h1 : o.kind = 1
              · skip
                -- {K1
                have hd1 : (o.kind == 1) = true := by simpa using h1
                go_wp2_with (first
                  | (refine wpList_load_at rfl 40 (.tmp 48) rfl _ rfl o.cs _ hc hu rfl hi ?_)
                  | (refine wpList_store_newN rfl 40 (.tmp 10) (.tmp 49) rfl wr.heap.size rfl o.cs _ rfl rfl hi rfl o.one ?_))
                generalize hgb : wr.heap.size = gb at *
                generalize wr.alloc (.cells o.cs.toArray 40) = w5 at *
                by_cases hr : 0 ≤ o.n ∧ o.n < 6
                · obtain ⟨nn, hnn⟩ := Int.eq_ofNat_of_zero_le hr.1
                  have hn6 : nn < 6 := by omega
                  have S1 : ∀ w', Blk w' gb 40 o.cs.toArray → w'.cell? ⟨gb, 1, none⟩ = some (.int .i64 nn) := fun w' h => by rw [h.cell, ← hnn]; rfl
                  have S2 : ∀ w', Blk w' gb 40 o.cs.toArray → w'.cell? ⟨gb, 2, none⟩ = some (.int .u8 o.b) := fun w' h => by rw [h.cell]; rfl
                  obtain ⟨hw1, hw2⟩ := WD.out.write hn6 (Sec.full o.b hob)
                  have HW1 := Lib.hid hw1
                  have HW2 := Lib.hid hw2
                  have HN := Lib.hid hnn
                  have HR := Lib.hid hr
                  clear hw1 hw2 hnn hr hd1 h1 q0
                  go_region_held3 (fun w' => Blk w' gb 40 o.cs.toArray)
                    (first | exact B0.out | exact B0.out.below (below_drew' b7) B0.out.lt | exact k8.blk (by simp) (B0.out.below (below_drew' b7) B0.out.lt))
                    (first
                      | (go_at_call 18; refine (full_any o.b hob _).mono ?_; rintro e w7 ⟨rfl, b7⟩)
                      | (go_at_call 17; refine (hold_write (D0.out.below (below_drew' b7)) nn (Sec.full o.b hob) h64 hlf hwl).mono ?_; rintro e w8 ⟨rfl, h8, k8⟩; rw [HW2.out]; simp only [errV]))
                  have B8 := Lib.hid (k8.blk (by simp) (B0.out.below (below_drew' b7) B0.out.lt))
                  have M8 := Lib.hid ((M0.out.below (below_drew' b7)).keep (k8.mono fun k hk => List.mem_cons_of_mem _ hk))
                  have D8 := Lib.hid h8
                  have q1 := S1 _ B8.out
                  have hd3 : decide ((nn : Int) < 0) = false := decide_eq_false (by omega)
                  have hd4 : decide ((6 : Int) ≤ (nn : Int)) = false := decide_eq_false (by omega)
                  clear k8 b7 h8 B0 D0 M0
                  go_wp2_with fail
                  have hn0 : (0 : Int) ≤ (nn : Int) := by omega
                  have hn7 : (nn : Int) < 6 := by omega
                  have hS8 : Blk w8.drew gb 40 o.cs.toArray ∧ w8.drew.cell? ⟨gl, nn, none⟩ = some (vs nn) := ⟨B8.out, M8.out.cell hn6⟩
                  clear q1 hd3 hd4
                  obtain ⟨hi0, hz0, hz1, hz2, hz3⟩ := HI.out
                  refine any_beginL (fun w' => Blk w' gb 40 o.cs.toArray ∧ w'.cell? ⟨gl, nn, none⟩ = some (vs nn)) 12 (by kernel_rfl) ?_
                  refine L_take (i := 0) (v := .pointer (some ⟨gb, 1, none⟩)) rfl rfl (by kernel_rfl) (by kernel_rfl) (by kernel_rfl) (by kernel_rfl) (fun _ _ _ h => h) (Or.inl ⟨by rfl, fun w _ => by kernel_rfl⟩) hS8 ?_
                  simp only [Act.put, List.getElem_toArray, List.getElem_cons_succ, List.getElem_cons_zero, List.setIfInBounds_toArray, List.set_cons_zero, List.set_cons_succ]
                  refine L_take (i := 2) (v := .pointer (some ⟨gb, 1, none⟩)) rfl rfl (by kernel_rfl) (by kernel_rfl) (by kernel_rfl) (by kernel_rfl) (fun _ _ _ h => h) (Or.inl ⟨by rfl, fun w _ => by kernel_rfl⟩) hS8 ?_
                  simp only [Act.put, List.getElem_toArray, List.getElem_cons_succ, List.getElem_cons_zero, List.setIfInBounds_toArray, List.set_cons_zero, List.set_cons_succ]
                  refine L_take (i := 6) (v := .pointer (some ⟨gb, 2, none⟩)) rfl rfl (by kernel_rfl) (by kernel_rfl) (by kernel_rfl) (by kernel_rfl) (fun _ _ _ h => h) (Or.inl ⟨by rfl, fun w _ => by kernel_rfl⟩) hS8 ?_
                  simp only [Act.put, List.getElem_toArray, List.getElem_cons_succ, List.getElem_cons_zero, List.setIfInBounds_toArray, List.set_cons_zero, List.set_cons_succ]
                  refine L_take (i := 1) (v := .int .i64 nn) rfl rfl (by kernel_rfl) (by kernel_rfl) (by kernel_rfl) (by kernel_rfl) (fun _ _ _ h => h) (Or.inl ⟨by rfl, fun w hw => by have q := S1 _ hw.1; go_simp⟩) hS8 ?_
                  simp only [Act.put, List.getElem_toArray, List.getElem_cons_succ, List.getElem_cons_zero, List.setIfInBounds_toArray, List.set_cons_zero, List.set_cons_succ]
                  refine L_take (i := 3) (v := .int .i64 nn) rfl rfl (by kernel_rfl) (by kernel_rfl) (by kernel_rfl) (by kernel_rfl) (fun _ _ _ h => h) (Or.inl ⟨by rfl, fun w hw => by have q := S1 _ hw.1; go_simp⟩) hS8 ?_
                  simp only [Act.put, List.getElem_toArray, List.getElem_cons_succ, List.getElem_cons_zero, List.setIfInBounds_toArray, List.set_cons_zero, List.set_cons_succ]
                  refine L_take (i := 7) (v := .int .u8 o.b) rfl rfl (by kernel_rfl) (by kernel_rfl) (by kernel_rfl) (by kernel_rfl) (fun _ _ _ h => h) (Or.inl ⟨by rfl, fun w hw => by have q := S2 _ hw.1; go_simp⟩) hS8 ?_
                  simp only [Act.put, List.getElem_toArray, List.getElem_cons_succ, List.getElem_cons_zero, List.setIfInBounds_toArray, List.set_cons_zero, List.set_cons_succ]
                  refine L_take (i := 4) (v := .pointer (some ⟨gl, nn, none⟩)) rfl rfl (by kernel_rfl) (by kernel_rfl) (by kernel_rfl) (by kernel_rfl) (fun _ _ _ h => h) (Or.inl ⟨by rfl, fun w _ => by go_simp⟩) hS8 ?_
                  simp only [Act.put, List.getElem_toArray, List.getElem_cons_succ, List.getElem_cons_zero, List.setIfInBounds_toArray, List.set_cons_zero, List.set_cons_succ]
                  refine L_take (i := 5) (v := vs nn) rfl rfl (by kernel_rfl) (by kernel_rfl) (by kernel_rfl) (by kernel_rfl) (fun _ _ _ h => h) (Or.inl ⟨by rfl, fun w hw => by have q := hw.2; go_simp⟩) hS8 ?_
                  simp only [Act.put, List.getElem_toArray, List.getElem_cons_succ, List.getElem_cons_zero, List.setIfInBounds_toArray, List.set_cons_zero, List.set_cons_succ]
                  refine L_one (j := 8) (by kernel_rfl) rfl (by rfl) ?_
                  simp only [Act.put, List.getElem_toArray, List.getElem_cons_succ, List.getElem_cons_zero, List.setIfInBounds_toArray, List.set_cons_zero, List.set_cons_succ]
                  refine wp_called (by kernel_rfl) (full_any o.b hob _) ?_
                  rintro e w9 ⟨rfl, b9⟩
                  have B9 := B8.out.below (below_drew' b9) B8.out.lt
                  have M9 := M8.out.below (below_drew' b9)
                  have D9 := D8.out.below (below_drew' b9)
                  refine ⟨_, rfl, ⟨B9, M9.cell hn6⟩, ?_⟩
                  simp only [Sec.v]
                  simp only [Act.put, List.getElem_toArray, List.getElem_cons_succ, List.getElem_cons_zero, List.setIfInBounds_toArray, List.set_cons_zero, List.set_cons_succ]
                  refine L_one (j := 9) (by kernel_rfl) rfl (by rfl) ?_
                  simp only [Act.put, List.getElem_toArray, List.getElem_cons_succ, List.getElem_cons_zero, List.setIfInBounds_toArray, List.set_cons_zero, List.set_cons_succ]
                  refine wp_one_sector (ops := #[]) (.tmp 78) rfl (Sec.full o.b hob).cs rfl (Sec.cs_len _) ?_
                  have hbl : Below w9.heap.size w9 (w9.alloc (.cells (Sec.full o.b hob).cs.toArray 47)) := (Below.refl _ _).alloc (Nat.le_refl _) _
                  have hnew : ∀ j u, (Sec.full o.b hob).cs[j]? = some u → (w9.alloc (.cells (Sec.full o.b hob).cs.toArray 47)).cell? ((⟨w9.heap.size, 0, none⟩ : Addr).add j) = some u := fun j u hj => by
                    rw [add_zero_off, (Blk.new w9 _ _).cell]; simpa using hj
                  have B10 := B9.below hbl B9.lt
                  have M10 := M9.below hbl
                  have D10 := D9.below hbl
                  generalize hwA : w9.alloc (.cells (Sec.full o.b hob).cs.toArray 47) = wA at *
                  generalize w9.heap.size = ga at *
                  refine ⟨⟨B10, M10.cell hn6⟩, ?_⟩
                  simp only [Act.put, List.getElem_toArray, List.getElem_cons_succ, List.getElem_cons_zero, List.setIfInBounds_toArray, List.set_cons_zero, List.set_cons_succ]
                  refine L_one (j := 10) (by kernel_rfl) rfl (by rfl) ?_
                  simp only [Act.put, List.getElem_toArray, List.getElem_cons_succ, List.getElem_cons_zero, List.setIfInBounds_toArray, List.set_cons_zero, List.set_cons_succ]
                  refine wp_append_row (.tmp 75) (.tmp 79) 33 rfl rfl Try.underlying33 hi0 hz0 hz1 hz2 hz3 (M10.rows nn hn6) (by have := (WD.out.long nn hn6).2; omega) D10.size (A := ⟨ga, 0, none⟩) (c := 1) rfl hnew ?_
                  intro v' wB g' hrow honly hg'
                  obtain ⟨off', cap', len', rfl⟩ : ∃ off' cap' len', v' = .slice (some ⟨g', off', none⟩) len' cap' := by
                    obtain ⟨off', cap', h, -⟩ := hrow.get
                    exact ⟨_, _, _, h⟩
                  have hgRb : gb ≠ R nn := Ne.symm ((M10.rows nn hn6).ne_blk B10 (by decide))
                  have hgRl : gl ≠ R nn := Ne.symm ((M10.rows nn hn6).ne_blk M10.blk (by decide))
                  have BB : Blk wB gb 40 o.cs.toArray := B10.of (honly.block gb B10.lt (by simpa using hgRb))
                  have BL : Blk wB gl 45 ((List.range 6).map vs).toArray := M10.blk.of (honly.block gl M10.blk.lt (by simpa using hgRl))
                  have cl : wB.cell? ⟨gl, nn, none⟩ = some (vs nn) := by rw [BL.cell]; simp [hn6]
                  have fl : wB.frozen? ⟨gl, nn, none⟩ = false := BL.frozen _
                  refine ⟨⟨BB, cl⟩, ?_⟩
                  simp only [Act.put, List.getElem_toArray, List.getElem_cons_succ, List.getElem_cons_zero, List.setIfInBounds_toArray, List.set_cons_zero, List.set_cons_succ]
                  refine L_one (j := 11) (by kernel_rfl) rfl (by rfl) ?_
                  simp only [Act.put, List.getElem_toArray, List.getElem_cons_succ, List.getElem_cons_zero, List.setIfInBounds_toArray, List.set_cons_zero, List.set_cons_succ]
                  refine wp_ran (v := .pointer (some ⟨gl, nn, none⟩)) (w' := wB) (by go_simp) ⟨⟨BB, cl⟩, ?_⟩
                  simp only [Act.put, List.getElem_toArray, List.getElem_cons_succ, List.getElem_cons_zero, List.setIfInBounds_toArray, List.set_cons_zero, List.set_cons_succ]
                  refine L_last (by kernel_rfl) rfl (by rfl) (by kernel_rfl) ?_
                  simp only [Act.put, List.getElem_toArray, List.getElem_cons_succ, List.getElem_cons_zero, List.setIfInBounds_toArray, List.set_cons_zero, List.set_cons_succ]
                  go_simp
                  refine NoPanic.normal ?_
                  have M11 := Lib.hid (M10.turn hn6 honly hrow hg')
                  have D11 := Lib.hid ((D10.mono (fun k hk => List.mem_cons_of_mem _ hk)).rows (v' := .slice (some ⟨g', off', none⟩) len' cap') (n := 6) (m := 6) (j := nn) (by omega) (fun h => by omega) (honly.mono (fun k hk => by simp at hk; subst hk; exact mem_may.2 (.inr ⟨nn, hn6, rfl⟩))) (M10.over hgl) (hg'.elim (fun h => .inl ⟨hn6, h⟩) .inr) hrow.lt)
                  clear hnew B9 M9 D9 B10 M10 D10 hbl hS8 BB BL cl fl hg' honly hrow hgRb hgRl S1 S2 hi0 hz0 hz1 hz2 hz3 b9
                  go_wp2
                  go_roundg (n0 - (k + 1))
                  case measure => omega
                  case rel => exact ⟨k + 1, _, _, _, _, by omega, rfl, by go_num, HW1.out, M11.out, D11.out⟩
                · obtain ⟨hw1, hw2⟩ := WD.out.bad hr (Sec.full o.b hob)
                  have HW1 := Lib.hid hw1
                  have HW2 := Lib.hid hw2
                  have S1 : ∀ w', Blk w' gb 40 o.cs.toArray → w'.cell? ⟨gb, 1, none⟩ = some (.int .i64 o.n) := fun w' h => by rw [h.cell]; rfl
                  have S2 : ∀ w', Blk w' gb 40 o.cs.toArray → w'.cell? ⟨gb, 2, none⟩ = some (.int .u8 o.b) := fun w' h => by rw [h.cell]; rfl
                  clear hw1 hw2 hr hd1 h1 q0
                  go_region_held3 (fun w' => Blk w' gb 40 o.cs.toArray)
                    (first | exact B0.out | exact B0.out.below (below_drew' b7) B0.out.lt | exact k8.blk (by simp) (B0.out.below (below_drew' b7) B0.out.lt))
                    (first
                      | (go_at_call 18; refine (full_any o.b hob _).mono ?_; rintro e w7 ⟨rfl, b7⟩)
                      | (go_at_call 17; refine (hold_write (D0.out.below (below_drew' b7)) o.n (Sec.full o.b hob) h64 hlf hwl).mono ?_; rintro e w8 ⟨rfl, h8, k8⟩; rw [HW2.out]; simp only [errV]))
                  rw [HW1.out] at h8
                  have M8 := Lib.hid ((M0.out.below (below_drew' b7)).keep (k8.mono fun k hk => List.mem_cons_of_mem _ hk))
                  have D8 := Lib.hid (h8.mono (fun k hk => List.mem_cons_of_mem _ hk))
                  clear k8 b7 h8 B0 D0 M0 S1 S2
                  go_wp2
                  go_roundg (n0 - (k + 1))
                  case measure => omega
                  case rel => exact ⟨k + 1, _, _, _, _, by omega, rfl, by go_num, WD.out.mono, M8.out, D8.out⟩
                -- K1}
              · have hd1 : (o.kind == 1) = false := by simpa using h1
                by_cases h2 : o.kind = 2
                · skip
                  -- {K2
                  have hd2 : (o.kind == 2) = true := by simpa using h2
                  go_wp2_with (first
                    | (refine wpList_load_at rfl 40 (.tmp 48) rfl _ rfl o.cs _ hc hu rfl hi ?_)
                    | (refine wpList_store_newN rfl 40 (.tmp 10) (.tmp 49) rfl wr.heap.size rfl o.cs _ rfl rfl hi rfl o.one ?_))
                  generalize hgb : wr.heap.size = gb at *
                  generalize wr.alloc (.cells o.cs.toArray 40) = w5 at *
                  have hfl := WD.out.flush
                  have hse := WD.out.stepErr
                  have HFL := Lib.hid hfl
                  have HSE := Lib.hid hse
                  have HLG := Lib.hid WD.out.long
                  clear hse hfl hd1 h1 hd2 h2 q0 hi hzo
                  refine (hold_flush D0.out h64 hlf hwl).mono ?_
                  rintro e w6 ⟨rfl, h6, k6⟩
                  rw [HSE.out]
                  simp only [errV]
                  have M6 := Lib.hid (M0.out.keep (k6.mono fun k hk => List.mem_cons_of_mem _ hk))
                  have D6 := Lib.hid (h6.mono (Y := mayBlocks gl 6 R) (fun k hk => List.mem_cons_of_mem _ hk))
                  clear h6 k6 M0 D0 B0
                  obtain ⟨VS, hVl, hVc, hVb⟩ : ∃ VS : List Value, VS.length = 6 ∧ (∀ j, j < 6 → VS[j]? = some (vs j)) ∧ VS = (List.range 6).map vs := ⟨_, by simp, fun j hj => by simp [hj], rfl⟩
                  have hrg : w6.rangeAt gl 0 VS := by rw [hVb]; exact M6.out.blk.range
                  have hu6 := Try.underlying45
                  have hi6 : (Try.prog.info? 45).map (·.size) = some VS.length := by rw [hVl]; kernel_rfl
                  have HVC := Lib.hid hVc
                  clear hVc hVb
                  go_wp2_with (refine wpList_load_mid rfl 45 (.tmp 7) rfl gl 0 rfl VS _ hrg hu6 rfl hi6 ?_)
                  go_loopg [88] 6 (fun gj i wx => ∃ (j : Nat) (vs' : Nat → Value) (L' : Nat → List Sec), j ≤ 6 ∧ gj = 6 - j ∧ i = .int .i64 j ∧ MayAt wx w.heap.size gl 6 R vs' L' ∧ (∀ i, i < j → L' i = [(L i).getLastD Sec.zero]) ∧ (∀ i, j ≤ i → vs' i = vs i ∧ L' i = L i) ∧ Holds w wx g d.flush (mayBlocks gl 6 R))
                  case atStart => exact ⟨0, vs, L, by omega, by omega, rfl, M6.out, fun i hi => by omega, fun i _ => ⟨rfl, rfl⟩, D6.out⟩
                  case round =>
                    clear M6 D6 hrg
                    obtain ⟨j, vs', L', hj, rfl, rfl, hm, hlo, hhi, hh⟩ := hrel
                    by_cases hj6 : j < 6
                    · obtain ⟨l', s, hls⟩ : ∃ l' s, L j = l' ++ [s] := by
                        have := (HLG.out j hj6).1
                        rcases List.eq_nil_or_concat (L j) with h | ⟨l', s, h⟩
                        · rw [h] at this; simp at this
                        · exact ⟨l', s, by simpa using h⟩
                      have hll : l'.length ≤ 1000 := by have := (HLG.out j hj6).2; rw [hls] at this; simp at this; omega
                      have hrow := hm.rows j hj6
                      rw [(hhi j (Nat.le_refl _)).1, (hhi j (Nat.le_refl _)).2, hls] at hrow
                      obtain ⟨off, cap, hv, hcl, hcm, -⟩ := hrow.get
                      rw [hv] at hrow
                      have hlast := Lib.hid hrow.last
                      have hidx := HVC.out j hj6
                      rw [hv, show (l' ++ [s]).length = l'.length + 1 by simp] at hidx
                      rw [show (l' ++ [s]).length = l'.length + 1 by simp] at hcl
                      have hix := run_index_six (P := Try.prog) 45 33 VS j _ Try.underlying45 (by kernel_rfl) (fun w => by kernel_rfl) hj6 hidx wr
                      have hcc : wr.cell? ⟨gl, j, none⟩ = some (vs' j) := hm.cell hj6
                      have hcf : wr.frozen? ⟨gl, j, none⟩ = false := hm.blk.frozen _
                      have Hm := Lib.hid hm
                      have Hlo := Lib.hid hlo
                      have Hhi := Lib.hid hhi
                      have Hh := Lib.hid hh
                      have Hls := Lib.hid hls
                      have hj0 : (0 : Int) ≤ (j : Int) := by omega
                      have hj7 : (j : Int) < 6 := by omega
                      unfold maxLen at hcm
                      clear hrow hv hm hlo hhi hh hls hidx hll
                      have hl0 : (0 : Int) ≤ (l'.length : Int) := by omega
                      have hl1 : ((l'.length : Int) + 1 - 1) = (l'.length : Int) := by omega
                      go_wp2
                      go_roundg (6 - (j + 1))
                      case measure => omega
                      case rel =>
                        have hM := Hm.out.put (m := 6) (j := j) (.inl ⟨rfl, hj6⟩) (by omega) hlast.out (.inl ⟨hj6, rfl⟩)
                        have hRR := row_same R j
                        rw [hRR] at hM
                        refine ⟨j + 1, _, _, by omega, rfl, by go_num, hM, fun i hi => ?_, fun i hi => ?_, Hh.out.kept (j := gl) (mem_may.2 (.inl rfl)) ((Only.refl _ _).setCell (.inl (by simp)) _) hgl⟩
                        · by_cases hij : i = j
                          · subst hij; simp [Hls.out]
                          · simp only [hij, if_false]; exact Hlo.out i (by omega)
                        · have hij : i ≠ j := by omega
                          simp only [hij, if_false]
                          exact Hhi.out i (by omega)
                    · obtain rfl : j = 6 := by omega
                      have hM := Lib.hid (hm.same (M := fun j => [(L j).getLastD Sec.zero]) hlo)
                      have Hh := Lib.hid hh
                      clear hm hlo hhi hh hi6 hu6
                      go_wp2
                      go_roundg (n0 - (k + 1))
                      case measure => omega
                      case rel => exact ⟨k + 1, _, _, _, _, by omega, rfl, by go_num, HFL.out, hM.out, Hh.out⟩
                  -- K2}
                · have hd2 : (o.kind == 2) = false := by simpa using h2
                  go_wp2_with (first
                    | (refine wpList_load_at rfl 40 (.tmp 48) rfl _ rfl o.cs _ hc hu rfl hi ?_)
                    | (refine wpList_store_newN rfl 40 (.tmp 10) (.tmp 49) rfl wr.heap.size rfl o.cs _ rfl rfl hi rfl o.one ?_))
                  go_roundg (n0 - (k + 1))
                  case measure => omega
                  case rel => exact ⟨k + 1, d, R, vs, L, by omega, rfl, by go_num, WD.out.mono, M0.out, D0.out.mono (fun k hk => List.mem_cons_of_mem _ hk)⟩
            · have hwl : d.wait.length ≤ 1000000 := by have := hd.wait; omega
              have hcr := hd.crash keep
              have HLG := Lib.hid hd.long
              have HCR := Lib.hid hcr
              have Hm := Lib.hid hm
              have Hh := Lib.hid hh
              clear hm hh hd hcr
              go_wp2_with fail
              refine (hold_crash Hh.out hwl A1 c1 w.heap.size keep (fun F hF W' ho => HK.out.below (Hh.out.since.trans (ho.below hF.over Hh.out.size)))).mono ?_
              rintro e wS ⟨rfl, hS, kS⟩
              have MS := Lib.hid (Hm.out.keep kS)
              have DS := Lib.hid hS
              clear Hm Hh kS hS
              generalize hdc : d.crash keep = dc at *
              obtain ⟨VS, hVl, hVc, hVb⟩ : ∃ VS : List Value, VS.length = 6 ∧ (∀ j, j < 6 → VS[j]? = some (vs j)) ∧ VS = (List.range 6).map vs := ⟨_, by simp, fun j hj => by simp [hj], rfl⟩
              have hrg : wS.rangeAt gl 0 VS := by rw [hVb]; exact MS.out.blk.range
              have hu6 := Try.underlying45
              have hi6 : (Try.prog.info? 45).map (·.size) = some VS.length := by rw [hVl]; kernel_rfl
              have HVC := Lib.hid hVc
              clear hVc hVb
              go_wp2_with (refine wpList_load_mid rfl 45 (.tmp 7) rfl gl 0 rfl VS _ hrg hu6 rfl hi6 ?_)
              clear hrg hu6 hi6
              go_loopg [105] 6 (fun gj i wx => ∃ (j : Nat), j ≤ 6 ∧ gj = 6 - j ∧ i = .int .i64 j ∧ Below wS.heap.size wS wx)
              case atStart => exact ⟨0, by omega, by omega, rfl, Below.refl _ _⟩
              case round =>
                obtain ⟨j, hj, rfl, rfl, hbx⟩ := hrel
                by_cases hj6 : j < 6
                · have hj0 : (0 : Int) ≤ (j : Int) := by omega
                  have hj7 : (j : Int) < 6 := by omega
                  obtain ⟨off, cap, hv, hcl, hcm, -⟩ := (MS.out.rows j hj6).get
                  have hidx := HVC.out j hj6
                  rw [hv] at hidx
                  have hix := run_index_six (P := Try.prog) 45 33 VS j _ Try.underlying45 (by kernel_rfl) (fun w => by kernel_rfl) hj6 hidx wr
                  have hwl : dc.wait.length ≤ 1000000 := by rw [HCR.out.2.1]; simp
                  obtain ⟨hin, hre, hsu⟩ := HCR.out.2.2 j hj6
                  have Hin := Lib.hid hin
                  have Hre := Lib.hid hre
                  have Hsu := Lib.hid hsu
                  have Hv := Lib.hid hv
                  have Hbx := Lib.hid hbx
                  clear hv hidx hin hre hsu hbx hcm
                  go_wp2_with fail
                  refine (hold_read (DS.out.below Hbx.out) j hwl).mono ?_
                  rintro e w8 ⟨rfl, b8⟩
                  rw [Hre.out]
                  simp only [errV, Sec.v]
                  have B8 := Lib.hid (Hbx.out.trans (b8.mono Hbx.out.size))
                  have hib : (Try.prog.info? 47).map (·.size) = some (dc.read j).cs.length := by rw [Sec.cs_len]; exact sec_size
                  have hlz : Zt.toArray.size = (dc.read j).cs.length := by rw [List.size_toArray, hZl, Sec.cs_len]
                  have hus := Try.underlying47
                  have HUS := Lib.hid (And.intro hus (And.intro hib hlz))
                  clear b8 hus hib hlz
                  go_wp2_with (refine wpList_store_newN rfl 47 (.tmp 15) (.tmp 113) rfl w8.heap.size rfl (dc.read j).cs Zt.toArray rfl rfl HUS.out.2.1 HUS.out.2.2 (dc.read j).one ?_)
                  have B9 := Lib.hid (B8.out.alloc B8.out.size (.cells (dc.read j).cs.toArray 47))
                  have R9 := Lib.hid (Blk.new w8 47 (dc.read j).cs.toArray)
                  generalize w8.alloc (.cells (dc.read j).cs.toArray 47) = w9 at *
                  generalize w8.heap.size = gs at *
                  have hrngS := ((MS.out.rows j hj6).get)
                  rw [Hv.out] at hrngS
                  obtain ⟨off', cap', hv', -, -, hrngS⟩ := hrngS
                  simp only [Value.slice.injEq, Option.some.injEq, Addr.mk.injEq, and_true, true_and] at hv'
                  obtain ⟨rfl, rfl⟩ := hv'
                  have HRG := Lib.hid hrngS
                  have hRj : R j < wS.heap.size := (MS.out.rows j hj6).lt
                  have hlb : (L j).length ≤ 1000 := by have := (HLG.out j hj6).2; omega
                  have hks : k + 1 ≤ 1000 := by omega
                  clear hrngS hix
                  generalize hll : L j = ll at *
                  generalize hsd : dc.read j = s at *
                  go_loopg [17, 117] ll.length (fun gx okv i wx => ∃ x : Nat, x ≤ ll.length ∧ gx = ll.length - x ∧ okv = .bool (decide (s ∈ ll.take x)) ∧ i = .int .i64 x ∧ Below w9.heap.size w9 wx)
                  case atStart => exact ⟨0, by omega, by omega, by simp, rfl, Below.refl _ _⟩
                  case round =>
                    obtain ⟨x, hx, rfl, rfl, rfl, hbx⟩ := hrel
                    by_cases hxl : x < ll.length
                    · obtain ⟨y, hy⟩ : ∃ y, ll[x]? = some y := ⟨_, List.getElem?_eq_getElem hxl⟩
                      have hrg := range_below (HRG.out x y hy) (B9.out.trans (hbx.mono B9.out.size)) hRj
                      have hus := Try.underlying47
                      have hib : (Try.prog.info? 47).map (·.size) = some y.cs.length := by rw [Sec.cs_len]; exact sec_size
                      have hib2 : (Try.prog.info? 47).map (·.size) = some s.cs.length := by rw [Sec.cs_len]; exact sec_size
                      have hlz : Zt.toArray.size = y.cs.length := by rw [List.size_toArray, hZl, Sec.cs_len]
                      have hyx := Lib.hid (Blk.new wr 47 y.cs.toArray).range
                      have hsx := Lib.hid (((R9.out.below hbx R9.out.lt).alloc (.cells y.cs.toArray 47)).range)
                      have Hb := Lib.hid hbx
                      have hx0 : (0 : Int) ≤ (x : Int) := by omega
                      have hx1 : (x : Int) < (ll.length : Int) := by omega
                      have Hy := Lib.hid hy
                      clear hy hbx
                      by_cases hmem : s ∈ ll.take x
                      · have hdm : decide (s ∈ ll.take x) = true := by simpa using hmem
                        rw [hdm]
                        go_wp2_with (first
                          | (refine wpList_load_mid rfl 47 (.tmp 119) rfl (R j) (off + x * 128) rfl y.cs _ hrg hus rfl hib ?_)
                          | (refine wpList_store_newN rfl 47 (.tmp 19) (.tmp 120) rfl wr.heap.size rfl y.cs Zt.toArray rfl rfl hib hlz y.one ?_))
                        go_roundg (ll.length - (x + 1))
                        case measure => omega
                        case rel =>
                          have h1 : decide (s ∈ ll.take (x + 1)) = true := by rw [take_snoc_any Hy.out]; simp [hmem]
                          exact ⟨x + 1, by omega, rfl, by rw [h1], by go_num, Hb.out.alloc Hb.out.size _⟩
                      · have hdm : decide (s ∈ ll.take x) = false := by simpa using hmem
                        rw [hdm]
                        go_upto_region 40 with (first
                          | (refine wpList_load_mid rfl 47 (.tmp 119) rfl (R j) (off + x * 128) rfl y.cs _ hrg hus rfl hib ?_)
                          | (refine wpList_store_newN rfl 47 (.tmp 19) (.tmp 120) rfl wr.heap.size rfl y.cs Zt.toArray rfl rfl hib hlz y.one ?_))
                        have Hb2 := Lib.hid (Hb.out.alloc Hb.out.size (.cells y.cs.toArray 47))
                        clear Hb hrg
                        generalize wr.alloc (.cells y.cs.toArray 47) = wt at *
                        generalize wr.heap.size = gx at *
                        go_wp2_with (first
                          | (refine wpListG_load_mid (by kernel_rfl) 47 (.tmp 19) rfl gx 0 rfl y.cs _ hyx.out hus rfl hib ?_)
                          | (refine wpListG_load_mid (by kernel_rfl) 47 (.tmp 15) rfl gs 0 rfl s.cs _ hsx.out hus rfl hib2 ?_)
                          | (refine wpListG_sec_eq (by kernel_rfl) (.tmp 123) (.tmp 124) rfl y s rfl rfl ?_))
                        go_roundg (ll.length - (x + 1))
                        case measure => omega
                        case rel =>
                          have h1 : decide (s ∈ ll.take (x + 1)) = secEq y s := by
                            rw [take_snoc_any Hy.out, Bool.eq_iff_iff, secEq_iff, decide_eq_true_iff]
                            simp [hmem, eq_comm]
                          exact ⟨x + 1, by omega, rfl, by rw [h1], by go_num, Hb2.out⟩
                    · obtain rfl : x = ll.length := by omega
                      have hok : decide (s ∈ ll.take ll.length) = true := by rw [List.take_length]; simpa using Hin.out
                      rw [hok]
                      go_wp2_with fail
                      have RS := Lib.hid ((R9.out.below hbx R9.out.lt).drew.range)
                      have BX := Lib.hid (B9.out.trans (hbx.mono B9.out.size))
                      have hib2 : (Try.prog.info? 47).map (·.size) = some s.cs.length := by rw [Sec.cs_len]; exact sec_size
                      have hus := Try.underlying47
                      have hgs : gs < wr.heap.size := (R9.out.below hbx R9.out.lt).lt
                      clear hbx hok
                      refine any_begin (by kernel_rfl) ?_
                      refine do_one (i := 0) (by kernel_rfl) rfl (by rfl) ?_
                      simp only [Act.put, List.getElem_toArray, List.getElem_cons_succ, List.getElem_cons_zero, List.setIfInBounds_toArray, List.set_cons_zero, List.set_cons_succ]
                      refine wp_ran (v := .nilIface) (w' := wr.drew) (by kernel_rfl) ?_
                      simp only [Act.put, List.getElem_toArray, List.getElem_cons_succ, List.getElem_cons_zero, List.setIfInBounds_toArray, List.set_cons_zero, List.set_cons_succ]
                      refine do_one (i := 1) (by kernel_rfl) rfl (by rfl) ?_
                      simp only [Act.put, List.getElem_toArray, List.getElem_cons_succ, List.getElem_cons_zero, List.setIfInBounds_toArray, List.set_cons_zero, List.set_cons_succ]
                      refine wp_ran (v := .bool false) (w' := wr.drew) (by kernel_rfl) ?_
                      simp only [Act.put, List.getElem_toArray, List.getElem_cons_succ, List.getElem_cons_zero, List.setIfInBounds_toArray, List.set_cons_zero, List.set_cons_succ]
                      refine do_one (i := 2) (by kernel_rfl) rfl (by rfl) ?_
                      simp only [Act.put, List.getElem_toArray, List.getElem_cons_succ, List.getElem_cons_zero, List.setIfInBounds_toArray, List.set_cons_zero, List.set_cons_succ]
                      refine wp_ran (v := .bool false) (w' := wr.drew) (by kernel_rfl) ?_
                      simp only [Act.put, List.getElem_toArray, List.getElem_cons_succ, List.getElem_cons_zero, List.setIfInBounds_toArray, List.set_cons_zero, List.set_cons_succ]
                      refine do_one (i := 3) (by kernel_rfl) rfl (by rfl) ?_
                      simp only [Act.put, List.getElem_toArray, List.getElem_cons_succ, List.getElem_cons_zero, List.setIfInBounds_toArray, List.set_cons_zero, List.set_cons_succ]
                      refine wp_ran (v := .bool true) (w' := wr.drew) (by kernel_rfl) ?_
                      simp only [Act.put, List.getElem_toArray, List.getElem_cons_succ, List.getElem_cons_zero, List.setIfInBounds_toArray, List.set_cons_zero, List.set_cons_succ]
                      refine do_one (i := 4) (by kernel_rfl) rfl (by rfl) ?_
                      simp only [Act.put, List.getElem_toArray, List.getElem_cons_succ, List.getElem_cons_zero, List.setIfInBounds_toArray, List.set_cons_zero, List.set_cons_succ]
                      refine wp_ran (v := .bool false) (w' := wr.drew) (by kernel_rfl) ?_
                      simp only [Act.put, List.getElem_toArray, List.getElem_cons_succ, List.getElem_cons_zero, List.setIfInBounds_toArray, List.set_cons_zero, List.set_cons_succ]
                      refine do_one (i := 5) (by kernel_rfl) rfl (by rfl) ?_
                      simp only [Act.put, List.getElem_toArray, List.getElem_cons_succ, List.getElem_cons_zero, List.setIfInBounds_toArray, List.set_cons_zero, List.set_cons_succ]
                      refine wp_ran (v := .bool false) (w' := wr.drew) (by kernel_rfl) ?_
                      simp only [Act.put, List.getElem_toArray, List.getElem_cons_succ, List.getElem_cons_zero, List.setIfInBounds_toArray, List.set_cons_zero, List.set_cons_succ]
                      refine do_one (i := 6) (by kernel_rfl) rfl (by rfl) ?_
                      simp only [Act.put, List.getElem_toArray, List.getElem_cons_succ, List.getElem_cons_zero, List.setIfInBounds_toArray, List.set_cons_zero, List.set_cons_succ]
                      refine wp_ran (v := .bool false) (w' := wr.drew) (by kernel_rfl) ?_
                      simp only [Act.put, List.getElem_toArray, List.getElem_cons_succ, List.getElem_cons_zero, List.setIfInBounds_toArray, List.set_cons_zero, List.set_cons_succ]
                      refine wpAny_take (i := 8) (v := .pointer (some ⟨g, 0, none⟩)) rfl (by kernel_rfl) (by kernel_rfl) (by kernel_rfl) (fun _ _ _ h => h) (Or.inl ⟨by rfl, fun w => by kernel_rfl⟩) ?_
                      simp only [Act.put, List.getElem_toArray, List.getElem_cons_succ, List.getElem_cons_zero, List.setIfInBounds_toArray, List.set_cons_zero, List.set_cons_succ]
                      refine wpAny_take (i := 9) (v := .int .i64 j) rfl (by kernel_rfl) (by kernel_rfl) (by kernel_rfl) (fun _ _ _ h => h) (Or.inl ⟨by rfl, fun w => by kernel_rfl⟩) ?_
                      simp only [Act.put, List.getElem_toArray, List.getElem_cons_succ, List.getElem_cons_zero, List.setIfInBounds_toArray, List.set_cons_zero, List.set_cons_succ]
                      refine T_take (i := 7) (v := .agg s.cs.toArray) (T := fun w' => w'.rangeAt gs 0 s.cs) rfl (by kernel_rfl) (by kernel_rfl) (by kernel_rfl) (fun _ _ _ h => h) (yieldsIf_load_mid (by rfl) 47 (.tmp 15) rfl gs 0 rfl s.cs _ (fun _ h => h) hus rfl hib2) RS.out ?_
                      simp only [Act.put, List.getElem_toArray, List.getElem_cons_succ, List.getElem_cons_zero, List.setIfInBounds_toArray, List.set_cons_zero, List.set_cons_succ]
                      refine T_one (j := 10) (by kernel_rfl) rfl (by rfl) (by kernel_rfl) ?_
                      simp only [Act.put, List.getElem_toArray, List.getElem_cons_succ, List.getElem_cons_zero, List.setIfInBounds_toArray, List.set_cons_zero, List.set_cons_succ]
                      refine wp_called (by kernel_rfl) (hold_sure (DS.out.below BX.out).drew j) ?_
                      rintro e w7 ⟨rfl, b7⟩
                      have BY := Lib.hid (BX.out.trans ((below_drew' b7).mono BX.out.size))
                      rw [Hsu.out]
                      refine ⟨_, rfl, range_below RS.out b7 hgs, ?_⟩
                      simp only [Sec.v]
                      simp only [Act.put, List.getElem_toArray, List.getElem_cons_succ, List.getElem_cons_zero, List.setIfInBounds_toArray, List.set_cons_zero, List.set_cons_succ]
                      refine T_off (j := 11) (by kernel_rfl) rfl (by rfl) (by kernel_rfl) ?_
                      simp only [Act.put, List.getElem_toArray, List.getElem_cons_succ, List.getElem_cons_zero, List.setIfInBounds_toArray, List.set_cons_zero, List.set_cons_succ]
                      refine wp_ran (v := .bool false) (w' := w7) (by have := run_sec_neq s s w7; rw [secEq_same] at this; simp [execOp, Act.eval, this, run_sec_guard, Result.andThen]) ?_
                      simp only [Act.put, List.getElem_toArray, List.getElem_cons_succ, List.getElem_cons_zero, List.setIfInBounds_toArray, List.set_cons_zero, List.set_cons_succ]
                      refine do_one (i := 12) (by kernel_rfl) rfl (by rfl) ?_
                      simp only [Act.put, List.getElem_toArray, List.getElem_cons_succ, List.getElem_cons_zero, List.setIfInBounds_toArray, List.set_cons_zero, List.set_cons_succ]
                      refine wp_ran (v := .bool false) (w' := w7) (by kernel_rfl) ?_
                      simp only [Act.put, List.getElem_toArray, List.getElem_cons_succ, List.getElem_cons_zero, List.setIfInBounds_toArray, List.set_cons_zero, List.set_cons_succ]
                      refine wpAny_done (by kernel_rfl) ?_ _
                      refine NoPanic.normal ?_
                      clear hus hib2 b7
                      go_wp2
                      go_roundg (6 - (j + 1))
                      case measure => omega
                      case rel => exact ⟨j + 1, by omega, rfl, by go_num, BY.out⟩
                · obtain rfl : j = 6 := by omega
                  have D9 := DS.out.below hbx
                  have hw0 : dc.wait.length = 0 := by rw [HCR.out.2.1]; rfl
                  have hgn : dc.gone = false := HCR.out.1
                  have Hw := Lib.hid hw0
                  have Hg := Lib.hid hgn
                  have HD := Lib.hid D9
                  clear D9 hw0 hgn hbx
                  go_wp2_with fail
                  refine (hold_waiting HD.out).mono ?_
                  rintro e w7 ⟨rfl, rfl⟩
                  rw [Hw.out]
                  go_wp2_with fail
                  refine (hold_down HD.out).mono ?_
                  rintro e w7 ⟨rfl, rfl⟩
                  rw [Hg.out]
                  go_wp2
                  go_ret
                  exact ⟨rfl, HD.out.since⟩
    · have hd300 : decide (300 < (keep.length : Int)) = true := by simp; omega
      go_wp2
      go_ret
      exact ⟨rfl, B2⟩
end Go.Proofs.Ytbppfdcoajjjdaa
