/-
  The law DiskLast, walked: it returns true and changes nothing that was there. No condition.
-/
import Derived.Test.YtidcnlneabnedaaFine
import Derived.Deep.LoopGhost
import Derived.Deep.CutRange
import Derived.Deep.DeepCutAuto
import Derived.Deep.CutBlock
namespace Go.Proofs.Ytidcnlneabnedaa
open Go.RowKit
set_option linter.unusedSimpArgs false
set_option linter.unusedVariables false
theorem six_zero : ∀ w, (zeroValue 61).run Try.prog w = .ok (.agg (sixCells (fun _ => Sec.zero) 6).toArray) w := fun w => by kernel_rfl
theorem six_build : ∀ w, (Instr.build 61 #[]).run Try.prog w = .ok (.agg (sixCells (fun _ => Sec.zero) 6).toArray) w := fun w => by kernel_rfl
theorem six_size : (Try.prog.info? 61).map (·.size) = some 768 := by kernel_rfl
theorem six_one (f : Nat → Sec) (n : Nat) : ∀ u ∈ sixCells f n, u.oneCell' = true := by
  intro u hu
  obtain ⟨i, _, h⟩ := List.mem_flatMap.1 hu
  exact (f i).one u h
theorem Script.more {w : World} {B B' : Nat} {A : Option Addr} {m : Nat} {os : List OpV} (h : Script w B A m os) (hB : B ≤ B') : Script w B' A m os :=
  ⟨h.1.more hB, fun o ho => ⟨(h.2 o ho).1, (h.2 o ho).2.more hB⟩⟩
set_option maxRecDepth 100000 in
set_option maxHeartbeats 1000000 in
theorem diskLast_walk (A0 : Option Addr) (n0 c0 : Nat) (os : List OpV) (m0 : n0 ≤ 9223372036854775807) (o0 : ∀ o ∈ os, o.keep.length ≤ 9223372036854775807 ∧ -9223372036854775808 ≤ o.n ∧ o.n ≤ 9223372036854775807) {w : World} (hS : Script w w.heap.size A0 n0 os) :
    Calls Try.prog 8 #[.slice A0 n0 c0] w fun e w' => e = .returned (.bool true) ∧ Below w.heap.size w w' := by
  have HS := Lib.hid hS
  have HO := Lib.hid o0
  obtain ⟨Zs, hZ, hbd, hZs⟩ : ∃ Zs : List Value, (∀ w, (zeroValue 61).run Try.prog w = .ok (.agg Zs.toArray) w) ∧ (∀ w, (Instr.build 61 #[]).run Try.prog w = .ok (.agg Zs.toArray) w) ∧ Zs = sixCells (fun _ => Sec.zero) 6 := ⟨_, six_zero, six_build, rfl⟩
  have hi6 : (Try.prog.info? 61).map (·.size) = some Zs.length := by rw [hZs, six_len]; exact six_size
  have hone6 : ∀ v ∈ Zs, v.oneCell' = true := by rw [hZs]; exact six_one _ _
  have HZ := Lib.hid hZs
  clear hS o0 hZs
  go_enter Try.func8, Try.ntmps8
  go_wp2_with fail
  refine (alive_any _).mono ?_
  rintro e w1 ⟨rfl, b1⟩
  have S1 := (HS.out.below b1).more b1.size
  go_wp2_with fail
  refine (long_any A0 n0 c0 os w1 S1 m0 (fun o ho => (HO.out o ho).1)).mono ?_
  rintro e w2 ⟨r, rfl, b2, hr⟩
  have B2 := b1.trans (b2.mono b1.size)
  clear S1 b1 b2
  cases r with
  | true =>
    go_wp2
    go_ret
    exact ⟨rfl, B2⟩
  | false =>
    obtain ⟨hn81, -⟩ := hr rfl
    clear hr
    go_wp2_with fail
    refine (new_good w2 w.heap.size 6 (by omega) (by omega) B2.size).mono ?_
    intro e w3 hm
    obtain ⟨g, rfl, h3⟩ := Holds.made B2 hm
    have H3 := Lib.hid h3
    clear hm h3
    go_wp2_with (first | (refine wpList_store_newN rfl 61 (.tmp 5) (.tmp 22) rfl w3.heap.size rfl Zs Zs.toArray rfl rfl hi6 (by simp) hone6 ?_))
    have H4 := Lib.hid (H3.out.push (.cells Zs.toArray 61))
    have HB4 : Hid (Blk (w3.alloc (.cells Zs.toArray 61)) w3.heap.size 61 (sixCells (fun _ => Sec.zero) 6).toArray) := Lib.hid (by rw [← HZ.out]; exact Blk.new _ _ _)
    have hgl : w.heap.size ≤ w3.heap.size := H3.out.size
    clear H3
    generalize hw4 : w3.alloc (.cells Zs.toArray 61) = w4 at *
    generalize w3.heap.size = gl at *
    clear hw4 B2 HZ hZ hbd hi6 hone6
    go_loopg [25] n0 (fun gk i wr => ∃ (k : Nat) (d : DM) (f : Nat → Sec), k ≤ n0 ∧ gk = n0 - k ∧ i = .int .i64 k ∧ Fine d f (2 * k) ∧ Holds w wr g d [gl] ∧ Blk wr gl 61 (sixCells f 6).toArray)
    case atStart => exact ⟨0, DM.new 6, _, by omega, by omega, rfl, Fine.new, H4.out, HB4.out⟩
    case round =>
      obtain ⟨k, d, f, hk, rfl, rfl, hf, hd, hb⟩ := hrel
      by_cases hlt : k < n0
      · obtain ⟨ad, o, rfl, hadb, ho, hc, hob, -⟩ := (HS.out.below hd.since).get hlt
        have hon := (HO.out o (List.mem_of_getElem? ho)).2
        have hu := Try.underlying40
        have hi : (Try.prog.info? 40).map (·.size) = some o.cs.length := op_size
        have hzo := op_zero
        have B0 := Lib.hid (Blk.new wr 40 o.cs.toArray)
        have D0 := Lib.hid (hd.push (.cells o.cs.toArray 40))
        have L0 := Lib.hid (hb.alloc (.cells o.cs.toArray 40))
        have q0 : (wr.alloc (.cells o.cs.toArray 40)).cell? ⟨wr.heap.size, 0, none⟩ = some (.int .i64 o.kind) := by rw [B0.out.cell]; rfl
        have Hf := Lib.hid hf
        clear hd hb hf ho
        go_upto_if 31 with (first
            | (refine wpList_load_at rfl 40 (.tmp 27) rfl _ rfl o.cs _ hc hu rfl hi ?_)
            | (refine wpList_store_newN rfl 40 (.tmp 7) (.tmp 28) rfl wr.heap.size rfl o.cs _ rfl rfl hi rfl o.one ?_))
        generalize hgb : wr.heap.size = gb at *
        generalize wr.alloc (.cells o.cs.toArray 40) = w5 at *
        go_cut [] from 26 to 92 (fun wx => ∃ d1, Fine d1 f (2 * k + 1) ∧ Holds w wx g d1 [gb, gl] ∧ Blk wx gb 40 o.cs.toArray ∧ Blk wx gl 61 (sixCells f 6).toArray)
        case first =>
          have hfl := Hf.out.flush
          have hse := Hf.out.stepErr
          have h64 : d.steps < 4611686018427387904 := by have := Hf.out.steps; omega
          have hlf : d.left ≤ 9223372036854775807 := by have := Hf.out.left; omega
          have hwl : d.wait.length ≤ 1000000 := by have := Hf.out.wait; omega
          have HFL := Lib.hid hfl
          have HSE := Lib.hid hse
          clear hse hfl
          by_cases h2 : o.kind = 2
          · have hd2 : (o.kind == 2) = true := by simpa using h2
            rw [hd2, h2]
            clear hd2 h2
            go_wp2_with fail
            refine (hold_flush D0.out h64 hlf hwl).mono ?_
            rintro e w6 ⟨rfl, h6, k6⟩
            rw [HSE.out]
            simp only [errV]
            have H6 := Lib.hid h6
            have B6 := Lib.hid (k6.blk (by simp) B0.out)
            have L6 := Lib.hid (k6.blk (by simp) L0.out)
            clear h6 k6 q0
            go_wp2_with fail
            go_loopg [35] 6 (fun gj i wx => ∃ j : Nat, j ≤ 6 ∧ gj = 6 - j ∧ i = .int .i64 j ∧ Below w6.heap.size w6 wx)
            case atStart => exact ⟨0, by omega, by omega, rfl, Below.refl _ _⟩
            case round =>
              obtain ⟨j, hj, rfl, rfl, hbx⟩ := hrel
              by_cases hj6 : j < 6
              · have hrg := six_range (L6.out.below hbx L6.out.lt) hj6
                have hib : (Try.prog.info? 47).map (·.size) = some (f j).cs.length := by rw [Sec.cs_len]; exact sec_size
                have hus := Try.underlying47
                have hbx' := Lib.hid hbx
                have hsu : d.flush.sure j = f j := HFL.out.2 j hj6
                have hsame := secEq_same (f j)
                have hneq := run_sec_neq (f j) (f j)
                rw [hsame] at hneq
                have hq := run_sec_in (f j) (f j)
                rw [hsame] at hq
                have Hsu := Lib.hid hsu
                have hj7 : (j : Int) < 6 := by omega
                have hj0 : (0 : Int) ≤ (j : Int) := by omega
                clear hsu hsame hbx
                go_wp2
                go_region_held3 (fun w' => w'.rangeAt gl (j * 128) (f j).cs)
                  (first
                    | exact hrg
                    | exact (six_range (L6.out.below (hbx'.out.trans (Below.mono (below_drew' (by assumption)) hbx'.out.size)) L6.out.lt) hj6))
                  ((refine (hold_sure (H6.out.below hbx'.out).drew j).mono ?_; rintro e w7 ⟨rfl, b7⟩; rw [Hsu.out]; simp only [Sec.v]))
                go_wp2
                go_roundg (6 - (j + 1))
                case measure => omega
                case rel => exact ⟨j + 1, by omega, rfl, by go_num, hbx'.out.trans ((below_drew' b7).mono hbx'.out.size)⟩
              · go_wp2
                go_meet
                exact ⟨d.flush, HFL.out.1, H6.out.below hbx, B6.out.below hbx B6.out.lt, L6.out.below hbx L6.out.lt⟩
          · have hd2 : (o.kind == 2) = false := by simpa using h2
            go_wp2_with fail
            go_meet
            exact ⟨d, Hf.out.mono, D0.out, B0.out, L0.out⟩
        case rest =>
          obtain ⟨d1, hf1, hd1, hb1, hl1⟩ := hcut
          have q0 : wc.cell? ⟨gb, 0, none⟩ = some (.int .i64 o.kind) := by rw [hb1.cell]; rfl
          have q1 : wc.cell? ⟨gb, 1, none⟩ = some (.int .i64 o.n) := by rw [hb1.cell]; rfl
          have q2 : wc.cell? ⟨gb, 2, none⟩ = some (.int .u8 o.b) := by rw [hb1.cell]; rfl
          have h64 : d1.steps < 4611686018427387904 := by have := hf1.steps; omega
          have hlf : d1.left ≤ 9223372036854775807 := by have := hf1.left; omega
          have hwl : d1.wait.length ≤ 1000000 := by have := hf1.wait; omega
          have F1 := Lib.hid hf1
          have D1 := Lib.hid hd1
          have B1 := Lib.hid hb1
          have L1 := Lib.hid hl1
          clear hf1 hd1 hb1 hl1 hc q0
          have q0 : wc.cell? ⟨gb, 0, none⟩ = some (.int .i64 o.kind) := by rw [B1.out.cell]; rfl
          go_upto_region 21 with (fail)
          go_cut [58] from 26 to 92 (fun s wx => ∃ (b : Bool) (d2 : DM), s = .bool b ∧ Holds w wx g d2 [gb, gl] ∧ Blk wx gb 40 o.cs.toArray ∧ Blk wx gl 61 (sixCells f 6).toArray ∧
            (b = true → 0 ≤ o.n ∧ o.n < 6 ∧ Fine d2 (fun j => if j = o.n.toNat then Sec.full o.b hob else f j) (2 * k + 2)) ∧ (b = false → Fine d2 f (2 * k + 2)))
          case first =>
            have S0 : ∀ w', Blk w' gb 40 o.cs.toArray → w'.cell? ⟨gb, 0, none⟩ = some (.int .i64 o.kind) := fun w' h => by rw [h.cell]; rfl
            have S1 : ∀ w', Blk w' gb 40 o.cs.toArray → w'.cell? ⟨gb, 1, none⟩ = some (.int .i64 o.n) := fun w' h => by rw [h.cell]; rfl
            have S2 : ∀ w', Blk w' gb 40 o.cs.toArray → w'.cell? ⟨gb, 2, none⟩ = some (.int .u8 o.b) := fun w' h => by rw [h.cell]; rfl
            by_cases h1 : o.kind = 1
            · have hd1 : (o.kind == 1) = true := by simpa using h1
              by_cases hr : 0 ≤ o.n ∧ o.n < 6
              · obtain ⟨hw1, hw2⟩ := F1.out.write hr.1 hr.2 (Sec.full o.b hob)
                have HW1 := Lib.hid hw1
                have HW2 := Lib.hid hw2
                clear hw1 hw2
                go_region_held3 (fun w' => Blk w' gb 40 o.cs.toArray)
                  (first | exact B1.out | exact B1.out.below (below_drew' b7) B1.out.lt | exact k8.blk (by simp) (B1.out.below (below_drew' b7) B1.out.lt))
                  (first
                    | (go_at_call 18; refine (full_any o.b hob _).mono ?_; rintro e w7 ⟨rfl, b7⟩)
                    | (go_at_call 17; refine (hold_write (D1.out.below (below_drew' b7)) o.n (Sec.full o.b hob) h64 hlf hwl).mono ?_; rintro e w8 ⟨rfl, h8, k8⟩; rw [HW2.out]; simp only [errV]))
                go_wp2
                go_meet
                exact ⟨true, _, rfl, h8, k8.blk (by simp) (B1.out.below (below_drew' b7) B1.out.lt), k8.blk (by simp) (L1.out.below (below_drew' b7) L1.out.lt), fun _ => ⟨hr.1, hr.2, HW1.out⟩, (fun h => by cases h)⟩
              · obtain ⟨hw1, hw2⟩ := F1.out.bad hr (Sec.full o.b hob)
                have HW1 := Lib.hid hw1
                have HW2 := Lib.hid hw2
                clear hw1 hw2
                go_region_held3 (fun w' => Blk w' gb 40 o.cs.toArray)
                  (first | exact B1.out | exact B1.out.below (below_drew' b7) B1.out.lt | exact k8.blk (by simp) (B1.out.below (below_drew' b7) B1.out.lt))
                  (first
                    | (go_at_call 18; refine (full_any o.b hob _).mono ?_; rintro e w7 ⟨rfl, b7⟩)
                    | (go_at_call 17; refine (hold_write (D1.out.below (below_drew' b7)) o.n (Sec.full o.b hob) h64 hlf hwl).mono ?_; rintro e w8 ⟨rfl, h8, k8⟩; rw [HW2.out]; simp only [errV]))
                go_wp2
                go_meet
                rw [HW1.out] at h8
                exact ⟨false, _, rfl, h8, k8.blk (by simp) (B1.out.below (below_drew' b7) B1.out.lt), k8.blk (by simp) (L1.out.below (below_drew' b7) L1.out.lt), (fun h => by cases h), fun _ => F1.out.mono⟩
            · have hd1 : (o.kind == 1) = false := by simpa using h1
              go_quiet (fail)
              go_wp2
              go_meet
              exact ⟨false, _, rfl, D1.out.below (below_drewN (Below.refl _ _) _), B1.out, L1.out, (fun h => by cases h), fun _ => F1.out.mono⟩
          case rest =>
            clear q0 q1 q2 h64 hlf hwl
            obtain ⟨b, d2, rfl, hd2, hb2, hl2, ht, hf2⟩ := hcut
            have D2 := Lib.hid hd2
            have B2 := Lib.hid hb2
            have L2 := Lib.hid hl2
            have T2 := Lib.hid ht
            have F2 := Lib.hid hf2
            clear hd2 hb2 hl2 ht hf2
            go_upto_if 58 with (fail)
            go_cut [] from 26 to 92 (fun wx => ∃ (d3 : DM) (f3 : Nat → Sec), Fine d3 f3 (2 * k + 2) ∧ Holds w wx g d3 [gl] ∧ Blk wx gl 61 (sixCells f3 6).toArray)
            case first =>
              cases b with
              | false =>
                go_wp2
                go_meet
                exact ⟨d2, f, F2.out (by first | rfl | trivial), D2.out.mono (fun k hk => by simp at hk; simp [hk]), L2.out⟩
              | true =>
                obtain ⟨h0, h6, hF⟩ := T2.out (by first | rfl | trivial)
                obtain ⟨nn, hnn⟩ := Int.eq_ofNat_of_zero_le h0
                rw [hnn] at h0 h6 hF
                have HF := Lib.hid hF
                have hn6 : nn < 6 := by omega
                have hd1 : decide ((nn : Int) < 0) = false := decide_eq_false (by omega)
                have hd3 : decide ((6 : Int) ≤ (nn : Int)) = false := decide_eq_false (by omega)
                have S1 : ∀ w', Blk w' gb 40 o.cs.toArray → w'.cell? ⟨gb, 1, none⟩ = some (.int .i64 nn) := fun w' h => by rw [h.cell, ← hnn]; rfl
                have S2 : ∀ w', Blk w' gb 40 o.cs.toArray → w'.cell? ⟨gb, 2, none⟩ = some (.int .u8 o.b) := fun w' h => by rw [h.cell]; rfl
                have q1 := S1 _ B2.out
                have q2 := S2 _ B2.out
                have HN := Lib.hid hnn
                clear hF hnn
                have hib : (Try.prog.info? 47).map (·.size) = some (Sec.full o.b hob).cs.length := by rw [Sec.cs_len]; exact sec_size
                have hone := (Sec.full o.b hob).one
                have hn0 : (0 : Int) ≤ (nn : Int) := by omega
                go_wp2_with fail
                refine any_begin (by kernel_rfl) ?_
                refine wpAny_take (i := 0) (v := .pointer (some ⟨gb, 1, none⟩)) rfl (by kernel_rfl) (by kernel_rfl) (by kernel_rfl) (fun _ _ _ h => h) (Or.inl ⟨by rfl, fun w => by kernel_rfl⟩) ?_
                simp only [Act.put, List.getElem_toArray, List.getElem_cons_succ, List.getElem_cons_zero, List.setIfInBounds_toArray, List.set_cons_zero, List.set_cons_succ]
                refine wpAny_take (i := 2) (v := .pointer (some ⟨gb, 2, none⟩)) rfl (by kernel_rfl) (by kernel_rfl) (by kernel_rfl) (fun _ _ _ h => h) (Or.inl ⟨by rfl, fun w => by kernel_rfl⟩) ?_
                simp only [Act.put, List.getElem_toArray, List.getElem_cons_succ, List.getElem_cons_zero, List.setIfInBounds_toArray, List.set_cons_zero, List.set_cons_succ]
                refine T_take (i := 1) (v := .int .i64 nn) (T := fun w' => w'.cell? ⟨gb, 1, none⟩ = some (.int .i64 nn)) rfl (by kernel_rfl) (by kernel_rfl) (by kernel_rfl) (fun _ _ _ h => h) (Or.inl ⟨by rfl, fun w' hw' => by go_simp⟩) q1 ?_
                simp only [Act.put, List.getElem_toArray, List.getElem_cons_succ, List.getElem_cons_zero, List.setIfInBounds_toArray, List.set_cons_zero, List.set_cons_succ]
                refine T_one (j := 3) (by kernel_rfl) rfl (by rfl) (by kernel_rfl) ?_
                simp only [Act.put, List.getElem_toArray, List.getElem_cons_succ, List.getElem_cons_zero, List.setIfInBounds_toArray, List.set_cons_zero, List.set_cons_succ]
                refine wp_ran (v := .int .u8 o.b) (w' := wc.drew) (by have q2' : wc.drew.cell? ⟨gb, 2, none⟩ = some (.int .u8 o.b) := q2; go_simp) ⟨q1, ?_⟩
                simp only [Act.put, List.getElem_toArray, List.getElem_cons_succ, List.getElem_cons_zero, List.setIfInBounds_toArray, List.set_cons_zero, List.set_cons_succ]
                refine T_one (j := 4) (by kernel_rfl) rfl (by rfl) (by kernel_rfl) ?_
                simp only [Act.put, List.getElem_toArray, List.getElem_cons_succ, List.getElem_cons_zero, List.setIfInBounds_toArray, List.set_cons_zero, List.set_cons_succ]
                refine wp_called (by kernel_rfl) (full_any o.b hob _) ?_
                rintro e w7 ⟨rfl, b7⟩
                have B7 := B2.out.below (below_drew' b7) B2.out.lt
                have L7 := L2.out.below (below_drew' b7) L2.out.lt
                have D7 := D2.out.below (below_drew' b7)
                have hth : w7.there gl (nn * 128) (Sec.full o.b hob).cs.toArray.size := by rw [List.size_toArray, Sec.cs_len]; exact six_there L7 hn6
                refine ⟨_, rfl, S1 _ B7, ?_⟩
                simp only [Act.put, List.getElem_toArray, List.getElem_cons_succ, List.getElem_cons_zero, List.setIfInBounds_toArray, List.set_cons_zero, List.set_cons_succ]
                refine T_off (j := 5) (by kernel_rfl) rfl (by rfl) (by kernel_rfl) ?_
                simp only [Act.put, List.getElem_toArray, List.getElem_cons_succ, List.getElem_cons_zero, List.setIfInBounds_toArray, List.set_cons_zero, List.set_cons_succ]
                refine wp_ran (v := .pointer (some ⟨gl, nn * 128, none⟩)) (w' := w7) (by go_simp) ?_
                simp only [Act.put, List.getElem_toArray, List.getElem_cons_succ, List.getElem_cons_zero, List.setIfInBounds_toArray, List.set_cons_zero, List.set_cons_succ]
                refine do_one (i := 6) (by kernel_rfl) rfl (by rfl) ?_
                simp only [Act.put, List.getElem_toArray, List.getElem_cons_succ, List.getElem_cons_zero, List.setIfInBounds_toArray, List.set_cons_zero, List.set_cons_succ]
                refine wp_store_mid 47 (.tmp 72) (.tmp 71) (by rfl) gl (nn * 128) (Sec.full o.b hob).cs.toArray (by rfl) (by rfl) hth (by rw [List.size_toArray]; exact hib) (all_oneCell_toArray hone) ?_
                simp only [Act.put, List.getElem_toArray, List.getElem_cons_succ, List.getElem_cons_zero, List.setIfInBounds_toArray, List.set_cons_zero, List.set_cons_succ]
                refine wpAny_done (by kernel_rfl) ?_ _
                refine NoPanic.normal ?_
                have hset := setCells_any (Sec.full o.b hob).cs (nn * 128) L7 (by rw [six_len, Sec.cs_len]; omega)
                rw [six_put f (Sec.full o.b hob) 6 nn hn6] at hset
                have Hset := Lib.hid hset
                have ho7 : Only [gl] w7 (w7.setCells gl (nn * 128) (Sec.full o.b hob).cs) := (Only.refl _ _).grown (setCells_grown gl (Sec.full o.b hob).cs (nn * 128) w7).1 (fun j e => .inl (by injection e with e; simp [e]))
                have D8 := Lib.hid (D7.kept (j := gl) (by simp) ho7 hgl)
                clear hset ho7 D7 L7 B7 hth b7 q1 q2 S1 S2
                go_wp2
                go_meet
                exact ⟨d2, _, HF.out, D8.out.mono (fun k hk => by simp at hk; simp [hk]), Hset.out⟩
            case rest =>
              obtain ⟨d3, f3, hf3, hd3, hl3⟩ := hcut
              have F3 := Lib.hid hf3
              have D3 := Lib.hid hd3
              have L3 := Lib.hid hl3
              have hwl : d3.wait.length ≤ 1000000 := by have := hf3.wait; omega
              obtain ⟨Zt, hZt, hZts⟩ : ∃ Zs : Array Value, (∀ w, (zeroValue 47).run Try.prog w = .ok (.agg Zs) w) ∧ Zs.size = 128 := ⟨_, sec_zero, by simp [Sec.cs_len]⟩
              have HZt := Lib.hid hZts
              clear hf3 hd3 hl3 hZts D2 B2 L2 T2 F2 D1 B1 L1 F1 D0 B0 L0 Hf hzo
              go_wp2_with fail
              go_loopg [73] 6 (fun gj i wx => ∃ j : Nat, j ≤ 6 ∧ gj = 6 - j ∧ i = .int .i64 j ∧ Below wc.heap.size wc wx)
              case atStart => exact ⟨0, by omega, by omega, rfl, Below.refl _ _⟩
              case round =>
                obtain ⟨j, hj, rfl, rfl, hbx⟩ := hrel
                by_cases hj6 : j < 6
                · have hbx' := Lib.hid hbx
                  have hrd := F3.out.reads j hj6
                  have hre := F3.out.readErr j hj6
                  have Hrd := Lib.hid hrd
                  have Hre := Lib.hid hre
                  have hus := Try.underlying47
                  have HUS := Lib.hid hus
                  have hib : (Try.prog.info? 47).map (·.size) = some (f3 j).cs.length := by rw [Sec.cs_len]; exact sec_size
                  have hlz : Zt.size = (f3 j).cs.length := by rw [HZt.out, Sec.cs_len]
                  have HLZ := Lib.hid hlz
                  have hj7 : (j : Int) < 6 := by omega
                  have hj0 : (0 : Int) ≤ (j : Int) := by omega
                  clear hrd hre hbx hus hlz
                  go_wp2_with fail
                  refine (hold_read (D3.out.below hbx'.out) j hwl).mono ?_
                  rintro e w8 ⟨rfl, b8⟩
                  rw [Hrd.out, Hre.out]
                  simp only [errV, Sec.v]
                  have B8 := Lib.hid (hbx'.out.trans (b8.mono hbx'.out.size))
                  clear b8
                  go_wp2_with (refine wpList_store_newN rfl 47 (.tmp 10) (.tmp 80) rfl w8.heap.size rfl (f3 j).cs Zt rfl rfl hib HLZ.out (f3 j).one ?_)
                  have hus := HUS.out
                  have B9 := Lib.hid (B8.out.alloc B8.out.size (.cells (f3 j).cs.toArray 47))
                  have hnb : (w8.alloc (.cells (f3 j).cs.toArray 47)).drew.rangeAt w8.heap.size 0 (f3 j).cs := (Blk.new w8 47 (f3 j).cs.toArray).drew.range
                  have hlb : (w8.alloc (.cells (f3 j).cs.toArray 47)).drew.rangeAt gl (j * 128) (f3 j).cs := six_range (L3.out.below B9.out L3.out.lt).drew hj6
                  generalize w8.alloc (.cells (f3 j).cs.toArray 47) = w9 at *
                  generalize w8.heap.size = gs at *
                  refine any_begin (by kernel_rfl) ?_
                  refine do_one (i := 0) (by kernel_rfl) rfl (by rfl) ?_
                  simp only [Act.put, List.getElem_toArray, List.getElem_cons_succ, List.getElem_cons_zero, List.setIfInBounds_toArray, List.set_cons_zero, List.set_cons_succ]
                  refine wp_ran (v := .nilIface) (w' := w9.drew) (by kernel_rfl) ?_
                  simp only [Act.put, List.getElem_toArray, List.getElem_cons_succ, List.getElem_cons_zero, List.setIfInBounds_toArray, List.set_cons_zero, List.set_cons_succ]
                  refine do_one (i := 1) (by kernel_rfl) rfl (by rfl) ?_
                  simp only [Act.put, List.getElem_toArray, List.getElem_cons_succ, List.getElem_cons_zero, List.setIfInBounds_toArray, List.set_cons_zero, List.set_cons_succ]
                  refine wp_ran (v := .bool false) (w' := w9.drew) (by kernel_rfl) ?_
                  simp only [Act.put, List.getElem_toArray, List.getElem_cons_succ, List.getElem_cons_zero, List.setIfInBounds_toArray, List.set_cons_zero, List.set_cons_succ]
                  refine do_one (i := 2) (by kernel_rfl) rfl (by rfl) ?_
                  simp only [Act.put, List.getElem_toArray, List.getElem_cons_succ, List.getElem_cons_zero, List.setIfInBounds_toArray, List.set_cons_zero, List.set_cons_succ]
                  refine wp_ran (v := .bool false) (w' := w9.drew) (by kernel_rfl) ?_
                  simp only [Act.put, List.getElem_toArray, List.getElem_cons_succ, List.getElem_cons_zero, List.setIfInBounds_toArray, List.set_cons_zero, List.set_cons_succ]
                  refine wpAny_take (i := 4) (v := .int .i64 j) rfl (by kernel_rfl) (by kernel_rfl) (by kernel_rfl) (fun _ _ _ h => h) (Or.inl ⟨by rfl, fun w => by kernel_rfl⟩) ?_
                  simp only [Act.put, List.getElem_toArray, List.getElem_cons_succ, List.getElem_cons_zero, List.setIfInBounds_toArray, List.set_cons_zero, List.set_cons_succ]
                  refine wpAny_take (i := 5) (v := .pointer (some ⟨gl, j * 128, none⟩)) rfl (by kernel_rfl) (by kernel_rfl) (by kernel_rfl) (fun _ _ _ h => h) (Or.inl ⟨by rfl, fun w => by go_simp⟩) ?_
                  simp only [Act.put, List.getElem_toArray, List.getElem_cons_succ, List.getElem_cons_zero, List.setIfInBounds_toArray, List.set_cons_zero, List.set_cons_succ]
                  refine T_take (i := 3) (v := .agg (f3 j).cs.toArray) (T := fun w' => w'.rangeAt gs 0 (f3 j).cs) rfl (by kernel_rfl) (by kernel_rfl) (by kernel_rfl) (fun _ _ _ h => h) (yieldsIf_load_mid (by rfl) 47 (.tmp 10) rfl gs 0 rfl (f3 j).cs _ (fun _ h => h) hus rfl hib) hnb ?_
                  simp only [Act.put, List.getElem_toArray, List.getElem_cons_succ, List.getElem_cons_zero, List.setIfInBounds_toArray, List.set_cons_zero, List.set_cons_succ]
                  refine T_one (j := 6) (by kernel_rfl) rfl (by rfl) (by kernel_rfl) ?_
                  simp only [Act.put, List.getElem_toArray, List.getElem_cons_succ, List.getElem_cons_zero, List.setIfInBounds_toArray, List.set_cons_zero, List.set_cons_succ]
                  refine wp_load_mid 47 (.tmp 87) (by rfl) gl (j * 128) (by rfl) (f3 j).cs _ hlb hus (by rfl) hib ⟨hnb, ?_⟩
                  simp only [Act.put, List.getElem_toArray, List.getElem_cons_succ, List.getElem_cons_zero, List.setIfInBounds_toArray, List.set_cons_zero, List.set_cons_succ]
                  refine T_off (j := 7) (by kernel_rfl) rfl (by rfl) (by kernel_rfl) ?_
                  simp only [Act.put, List.getElem_toArray, List.getElem_cons_succ, List.getElem_cons_zero, List.setIfInBounds_toArray, List.set_cons_zero, List.set_cons_succ]
                  refine wp_ran (v := .bool false) (w' := w9.drew) (by have := run_sec_neq (f3 j) (f3 j) w9.drew; rw [secEq_same] at this; simp [execOp, Act.eval, this, run_sec_guard, Result.andThen]) ?_
                  simp only [Act.put, List.getElem_toArray, List.getElem_cons_succ, List.getElem_cons_zero, List.setIfInBounds_toArray, List.set_cons_zero, List.set_cons_succ]
                  refine do_one (i := 8) (by kernel_rfl) rfl (by rfl) ?_
                  simp only [Act.put, List.getElem_toArray, List.getElem_cons_succ, List.getElem_cons_zero, List.setIfInBounds_toArray, List.set_cons_zero, List.set_cons_succ]
                  refine wp_ran (v := .bool false) (w' := w9.drew) (by kernel_rfl) ?_
                  simp only [Act.put, List.getElem_toArray, List.getElem_cons_succ, List.getElem_cons_zero, List.setIfInBounds_toArray, List.set_cons_zero, List.set_cons_succ]
                  refine wpAny_done (by kernel_rfl) ?_ _
                  refine NoPanic.normal ?_
                  clear hus hnb hlb
                  go_wp2
                  go_roundg (6 - (j + 1))
                  case measure => omega
                  case rel => exact ⟨j + 1, by omega, rfl, by go_num, B9.out.drew⟩
                · have hj7 : ¬ (j : Int) < 6 := by omega
                  go_wp2
                  go_roundg (n0 - (k + 1))
                  case measure => omega
                  case rel => exact ⟨k + 1, d3, f3, by omega, rfl, by go_num, F3.out, D3.out.below hbx, L3.out.below hbx L3.out.lt⟩
      · go_wp2_with fail
        refine (hold_down hd).mono ?_
        rintro e w' ⟨rfl, rfl⟩
        rw [hf.up]
        go_wp2
        go_ret
        exact ⟨rfl, hd.since⟩
end Go.Proofs.Ytidcnlneabnedaa
