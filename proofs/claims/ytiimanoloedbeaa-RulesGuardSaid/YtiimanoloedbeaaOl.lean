/-
  What the law of package rules takes for large, and a head as the program's. Conditions: the head reads as it is said to.
-/
import Derived.Test.YtiimanoloedbeaaOk

namespace Go.Proofs.Ytiimanoloedbeaa
open Go.RowKit Go.BigFrame
set_option linter.unusedSimpArgs false
set_option linter.unusedVariables false
set_option maxRecDepth 100000
set_option maxHeartbeats 8000000 in
theorem rlarge_any (a : HA) (w : World) (hR : a.R SA.dcells w) : Calls Try.prog 26 #[.agg a.cs] w (LargeTo w a) := by
  have B0 := Lib.hid (below_alloc w (.cells a.cs 29))
  have HR := Lib.hid hR
  have hps := strOf_size a.vw.par
  have hl1 := hR.l1
  have hl2 := hR.vw.l1
  have hl3 := hR.vw.l2
  clear hR
  unfold HA.cs at *
  by_cases c1 : a.sn.length ≤ 20
  · have d1 : decide (20 < (a.sn.length : Int)) = false := decide_eq_false (by omega)
    by_cases c2 : a.vw.row.length ≤ 500
    · have d2 : decide (500 < (a.vw.row.length : Int)) = false := decide_eq_false (by omega)
      by_cases c3 : a.vw.par.length ≤ 100
      · have d3 : decide (100 < (a.vw.par.length : Int)) = false := decide_eq_false (by omega)
        go_enter Try.func26, Try.ntmps26
        go_wp2
        generalize hw0 : w.alloc _ = w0 at *
        go_loopw [28] (fun i wr => ∃ k : Nat, k ≤ a.sn.length ∧ i = .int .i64 k ∧ Below w0.heap.size w0 wr ∧ ∀ j s, j < k → a.sn[j]? = some s → s.Lm) (fun i _ => a.sn.length - (intOf i).toNat)
        case atStart => exact ⟨0, by omega, rfl, Below.refl _ _, fun j s h => by omega⟩
        case round =>
          obtain ⟨k, hk, rfl, hb, hall⟩ := hrel
          have HALL := Lib.hid hall
          have HB := Lib.hid (B0.out.trans (hb.mono B0.out.size))
          have hb0 := Lib.hid hb
          have hwk : IntKind.i64.wrap ((k : Int) + 1) = (k : Int) + 1 := by rw [IntKind.wrap_i64]; omega
          clear hall hb
          by_cases hlt : k < a.sn.length
          · obtain ⟨s, hs⟩ : ∃ s, a.sn[k]? = some s := ⟨_, List.getElem?_eq_getElem hlt⟩
            have hR1 := HR.out.since HB.out
            obtain ⟨ad, had, -, hc⟩ := snap_at SA.dcells_len hR1.row hs
            have hsR := hR1.sn s (List.mem_of_getElem? hs)
            have HS := Lib.hid hs
            have HSR := Lib.hid hsR
            have hsn := strOf_size s.name
            have hsp := strOf_size s.vw.par
            have m1 := hsR.l1
            have m2 := hsR.l2
            have m3 := hsR.vw.l1
            have m4 := hsR.vw.l2
            obtain ⟨wB, hwB⟩ : ∃ wB, wB = wr.alloc (.cells #[.int .i64 s.num, .int .i64 s.vw.size, .string (strOf s.name), .bool s.prot, .bool s.vw.on, .bool s.vw.good, .slice s.vw.M s.vw.row.length s.vw.cm, .string (strOf s.vw.par), .int .i64 s.vw.ps, .int .i64 s.vw.ov, .slice s.C s.ch.length s.cc] 74) := ⟨_, rfl⟩
            have hbB : Below wr.heap.size wr wB := by rw [hwB]; exact below_alloc wr _
            have HBB := Lib.hid (And.intro (HB.out.trans (hbB.mono HB.out.size)) (hb0.out.trans (hbB.mono hb0.out.size)))
            have KB : Blk wB wr.heap.size 74 #[.int .i64 s.num, .int .i64 s.vw.size, .string (strOf s.name), .bool s.prot, .bool s.vw.on, .bool s.vw.good, .slice s.vw.M s.vw.row.length s.vw.cm, .string (strOf s.vw.par), .int .i64 s.vw.ps, .int .i64 s.vw.ov, .slice s.C s.ch.length s.cc] := by rw [hwB]; exact Blk.new wr _ _
            have q2 : wB.cell? ⟨wr.heap.size, 2, none⟩ = some (.string (strOf s.name)) := KB.cell 2
            have q6 : wB.cell? ⟨wr.heap.size, 6, none⟩ = some (.slice s.vw.M s.vw.row.length s.vw.cm) := KB.cell 6
            have q7 : wB.cell? ⟨wr.heap.size, 7, none⟩ = some (.string (strOf s.vw.par)) := KB.cell 7
            have q10 : wB.cell? ⟨wr.heap.size, 10, none⟩ = some (.slice s.C s.ch.length s.cc) := KB.cell 10
            have HWB := Lib.hid hwB
            have HCH : Hid (Strs wB wB.heap.size s.C s.ch.length s.ch) := Lib.hid ((hsR.ch.since hbB).more hbB.size)
            have HADS : Hid (a.sn[k]? = some s) := HS
            generalize a.S = sS at *
            subst had
            clear hs hsR hR1 hwB hbB KB
            go_upto_region 6 with (have _h := hc; refine wpList_loadp rfl 74 (.tmp 30) rfl _ [.int .i64 s.num, .int .i64 s.vw.size, .string (strOf s.name), .bool s.prot, .bool s.vw.on, .bool s.vw.good, .slice s.vw.M s.vw.row.length s.vw.cm, .string (strOf s.vw.par), .int .i64 s.vw.ps, .int .i64 s.vw.ov, .slice s.C s.ch.length s.cc] _ rfl hc Try.underlying74 rfl (by kernel_rfl) ?_; clear _h hc)
            rw [← HWB.out]
            clear HWB
            by_cases e1 : s.ch.length ≤ 50
            · have f1 : decide (50 < (s.ch.length : Int)) = false := decide_eq_false (by omega)
              by_cases e2 : s.vw.row.length ≤ 500
              · have f2 : decide (500 < (s.vw.row.length : Int)) = false := decide_eq_false (by omega)
                by_cases e3 : s.name.length ≤ 100
                · have f3 : decide (100 < (s.name.length : Int)) = false := decide_eq_false (by omega)
                  by_cases e4 : s.vw.par.length ≤ 100
                  · have f4 : decide (100 < (s.vw.par.length : Int)) = false := decide_eq_false (by omega)
                    go_wp2
                    go_loopw [59] (fun i wr => ∃ q : Nat, q ≤ s.ch.length ∧ i = .int .i64 q ∧ wr = wB ∧ ∀ j c, j < q → s.ch[j]? = some c → c.length ≤ 100) (fun i _ => s.ch.length - (intOf i).toNat)
                    case atStart => exact ⟨0, by omega, rfl, by trivial, fun j c h => by omega⟩
                    case round =>
                      obtain ⟨q, hq, rfl, rfl, hql⟩ := hrel
                      have HQL := Lib.hid hql
                      have hwq : IntKind.i64.wrap ((q : Int) + 1) = (q : Int) + 1 := by rw [IntKind.wrap_i64]; omega
                      clear hql
                      by_cases hlq : q < s.ch.length
                      · obtain ⟨adc, c, hadc, hck, hc2, hcell⟩ := HCH.out.at_ hlq
                        have HCK := Lib.hid hck
                        have hcs := strOf_size c
                        generalize s.C = sC at *
                        subst hadc
                        clear hck
                        by_cases g1 : c.length ≤ 100
                        · have x1 : decide (100 < (c.length : Int)) = false := decide_eq_false (by omega)
                          go_wp2
                          go_roundw
                          case rel => exact ⟨q + 1, by omega, by go_num, by trivial, fun j c' hj hc' => by
                            rcases Nat.lt_succ_iff_lt_or_eq.1 hj with h | rfl
                            · exact HQL.out j c' h hc'
                            · rw [HCK.out] at hc'; injection hc' with hc'; subst hc'; exact g1⟩
                          case measure => simp [intOf]; omega
                        · have x1 : decide (100 < (c.length : Int)) = true := decide_eq_true (by omega)
                          go_wp2
                          go_ret
                          exact ⟨true, rfl, HBB.out.1, fun h => by cases h⟩
                      · obtain rfl : q = s.ch.length := by omega
                        go_wp2
                        go_roundw
                        case rel => exact ⟨k + 1, by omega, by go_num, HBB.out.2, fun j s' hj hs' => by
                          rcases Nat.lt_succ_iff_lt_or_eq.1 hj with h | rfl
                          · exact HALL.out j s' h hs'
                          · rw [HS.out] at hs'; injection hs' with hs'; subst hs'
                            exact ⟨e1, e2, e3, e4, fun c hc => by obtain ⟨j, hj, rfl⟩ := List.mem_iff_getElem.1 hc; exact HQL.out j _ hj (List.getElem?_eq_getElem hj)⟩⟩
                        case measure => simp [intOf]; omega
                  · have f4 : decide (100 < (s.vw.par.length : Int)) = true := decide_eq_true (by omega)
                    go_wp2
                    go_ret
                    exact ⟨true, rfl, HBB.out.1, fun h => by cases h⟩
                · have f3 : decide (100 < (s.name.length : Int)) = true := decide_eq_true (by omega)
                  go_wp2
                  go_ret
                  exact ⟨true, rfl, HBB.out.1, fun h => by cases h⟩
              · have f2 : decide (500 < (s.vw.row.length : Int)) = true := decide_eq_true (by omega)
                go_wp2
                go_ret
                exact ⟨true, rfl, HBB.out.1, fun h => by cases h⟩
            · have f1 : decide (50 < (s.ch.length : Int)) = true := decide_eq_true (by omega)
              go_wp2
              go_ret
              exact ⟨true, rfl, HBB.out.1, fun h => by cases h⟩
          · obtain rfl : k = a.sn.length := by omega
            go_wp2
            go_ret
            exact ⟨false, rfl, HB.out, fun _ => ⟨c1, c2, c3, fun s hs => by obtain ⟨j, hj, rfl⟩ := List.mem_iff_getElem.1 hs; exact HALL.out j _ hj (List.getElem?_eq_getElem hj)⟩⟩
      · have d3 : decide (100 < (a.vw.par.length : Int)) = true := decide_eq_true (by omega)
        go_enter Try.func26, Try.ntmps26
        go_wp2
        go_ret
        exact ⟨true, rfl, B0.out, fun h => by cases h⟩
    · have d2 : decide (500 < (a.vw.row.length : Int)) = true := decide_eq_true (by omega)
      go_enter Try.func26, Try.ntmps26
      go_wp2
      go_ret
      exact ⟨true, rfl, B0.out, fun h => by cases h⟩
  · have d1 : decide (20 < (a.sn.length : Int)) = true := decide_eq_true (by omega)
    go_enter Try.func26, Try.ntmps26
    go_wp2
    go_ret
    exact ⟨true, rfl, B0.out, fun h => by cases h⟩
set_option maxHeartbeats 32000000 in
theorem rprogram_any (a : HA) (w : World) (hR : a.R SA.dcells w) (hL : a.Lm) : Calls Try.prog 27 #[.agg a.cs] w (ProgTo w a) := by
  obtain ⟨w0, hw0⟩ : ∃ w0, w0 = (w.alloc (.cells a.cs 29)).alloc (.cells #[.int .i64 0, .int .i64 0, .int .i64 0, .int .i64 0, .slice none 0 0, .bool false, .bool false, .slice none 0 0, .string ⟨#[]⟩, .int .i64 0, .int .i64 0, .int .i64 0, .int .i64 0, .int .i64 0] 36) := ⟨_, rfl⟩
  have HP0 : Hid (Pre w a w0) := Lib.hid (by
    refine ⟨?_, ?_, ?_, by rw [hw0]; simp, hR, hL⟩
    · rw [hw0]; exact blk_two w _ _ _
    · rw [hw0]; exact (Blk.new w _ _).alloc _
    · rw [hw0]; exact (below_alloc w _).alloc (by simp) _)
  have HW := Lib.hid hw0
  have HW0 : Hid (w.heap.size ≤ w0.heap.size) := Lib.hid HP0.out.bel.size
  have HSRC : Hid (∀ W, Below w0.heap.size w0 W → Blk W w.heap.size 29 #[.int .i64 a.id, .int .i64 a.vw.size, .int .i64 a.obj, .int .i64 a.seq, .slice a.S a.sn.length a.cs', .bool a.vw.on, .bool a.vw.good, .slice a.vw.M a.vw.row.length a.vw.cm, .string (strOf a.vw.par), .int .i64 a.vw.ps, .int .i64 a.vw.ov, .int .i64 a.ow, .int .i64 a.it, .int .i64 a.tg]) := Lib.hid fun W hW => HP0.out.src.of (hW.block _ HP0.out.src.lt)
  have HROW : Hid (∀ W, Below w0.heap.size w0 W → Bytes W W.heap.size a.vw.M a.vw.row.length a.vw.row) := Lib.hid fun W hW => by
    have b := HP0.out.bel.trans (hW.mono HP0.out.bel.size)
    exact (hR.vw.row.since b).more b.size
  have hrl := hL.row
  have HRL := Lib.hid (And.intro hR hL)
  have hsl := hL.cn
  have hz := head_zero
  have hws := HP0.out.sz
  clear hR hL hw0
  unfold HA.cs at *
  go_enter Try.func27, Try.ntmps27
  go_upto_region 1 with (fail)
  rw [← HW.out]
  clear HW hz
  refine Code.wp_mono (Q := fun e a' W' => e = .normal ∧ ∃ (g3 c : Nat) (D : Option Addr) (v20 : Value), a' = { tmps := #[.agg #[.int .i64 a.id, .int .i64 a.vw.size, .int .i64 a.obj, .int .i64 a.seq, .slice a.S a.sn.length a.cs', .bool a.vw.on, .bool a.vw.good, .slice a.vw.M a.vw.row.length a.vw.cm, .string (strOf a.vw.par), .int .i64 a.vw.ps, .int .i64 a.vw.ov, .int .i64 a.ow, .int .i64 a.it, .int .i64 a.tg], .pointer (some ⟨w.heap.size, 0, none⟩), .pointer (some ⟨w.heap.size + 1, 0, none⟩), .pointer (some ⟨g3, 0, none⟩), undef, undef, .pointer (some ⟨w.heap.size, 0, none⟩), .int .i64 a.id, .pointer (some ⟨w.heap.size, 1, none⟩), .int .i64 a.vw.size, .pointer (some ⟨w.heap.size, 2, none⟩), .int .i64 a.obj, .pointer (some ⟨w.heap.size, 3, none⟩), .int .i64 a.seq, .pointer (some ⟨w.heap.size, 5, none⟩), .pointer (some ⟨w.heap.size, 5, none⟩), .bool a.vw.on, .pointer (some ⟨w.heap.size, 5, none⟩), .pointer (some ⟨w.heap.size, 6, none⟩), .bool a.vw.good, v20, .pointer (some ⟨w.heap.size, 5, none⟩), .pointer (some ⟨w.heap.size, 7, none⟩), .slice a.vw.M a.vw.row.length a.vw.cm, .slice D a.vw.row.length c, .pointer (some ⟨w.heap.size, 8, none⟩), .agg #[.string (strOf a.vw.par), .int .i64 a.vw.ps, .int .i64 a.vw.ov], .pointer (some ⟨w.heap.size, 11, none⟩), .int .i64 a.ow, .pointer (some ⟨w.heap.size, 12, none⟩), .int .i64 a.it, .pointer (some ⟨w.heap.size, 13, none⟩), .int .i64 a.tg, .agg #[.int .i64 a.id, .int .i64 a.vw.size, .int .i64 a.obj, .int .i64 a.seq, .slice none 0 0, .bool a.vw.on, .bool a.vw.good, .slice D a.vw.row.length c, .string (strOf a.vw.par), .int .i64 a.vw.ps, .int .i64 a.vw.ov, .int .i64 a.ow, .int .i64 a.it, .int .i64 a.tg], undef, undef, undef, undef, undef, undef, undef, undef, undef, undef, undef, undef, undef, undef, undef, undef, undef, undef, undef, undef, undef, undef, undef, undef, undef, undef, undef, undef, undef, undef, undef, undef, undef, undef, undef, undef, undef, undef, undef, undef], defers := [] } ∧ Pg w a g3 0 ⟨a.id, a.obj, a.seq, none, 0, [], ⟨a.vw.size, a.vw.on, a.vw.good, a.vw.row, D, c, a.vw.par, a.vw.ps, a.vw.ov⟩, a.ow, a.it, a.tg⟩ W') ?_ ?_
  rotate_left
  · obtain ⟨i0, hi0, hz0, hz1, hz2⟩ := info_parts byte_info
    have hS : Below w0.heap.size w0 w0.drew := (Below.refl _ w0).drew
    have hd0 : w0.drew.heap.size = w0.heap.size := rfl
    refine any_beginL (fun W => Below w0.heap.size w0 W) 99 (by kernel_rfl) ?_
    refine S_take (i := 0) (v := .pointer (some ⟨w.heap.size, 0, none⟩)) rfl rfl (by kernel_rfl) (by kernel_rfl) (by kernel_rfl) (fun _ _ _ h => h) (Or.inl ⟨by rfl, fun W hw => by go_simp⟩) hS ?_
    simp only [Act.put, List.getElem_toArray, List.getElem_cons_succ, List.getElem_cons_zero, List.setIfInBounds_toArray, List.set_cons_zero, List.set_cons_succ]
    refine S_take (i := 1) (v := .int .i64 a.id) rfl rfl (by kernel_rfl) (by kernel_rfl) (by kernel_rfl) (fun _ _ _ h => h) (Or.inl ⟨by rfl, fun W hw => by have k0 : W.cell? ⟨w.heap.size, 0, none⟩ = some (.int .i64 a.id) := (HSRC.out W hw).cell 0; go_simp⟩) hS ?_
    simp only [Act.put, List.getElem_toArray, List.getElem_cons_succ, List.getElem_cons_zero, List.setIfInBounds_toArray, List.set_cons_zero, List.set_cons_succ]
    refine S_take (i := 2) (v := .pointer (some ⟨w.heap.size, 1, none⟩)) rfl rfl (by kernel_rfl) (by kernel_rfl) (by kernel_rfl) (fun _ _ _ h => h) (Or.inl ⟨by rfl, fun W hw => by go_simp⟩) hS ?_
    simp only [Act.put, List.getElem_toArray, List.getElem_cons_succ, List.getElem_cons_zero, List.setIfInBounds_toArray, List.set_cons_zero, List.set_cons_succ]
    refine S_take (i := 3) (v := .int .i64 a.vw.size) rfl rfl (by kernel_rfl) (by kernel_rfl) (by kernel_rfl) (fun _ _ _ h => h) (Or.inl ⟨by rfl, fun W hw => by have k0 : W.cell? ⟨w.heap.size, 1, none⟩ = some (.int .i64 a.vw.size) := (HSRC.out W hw).cell 1; go_simp⟩) hS ?_
    simp only [Act.put, List.getElem_toArray, List.getElem_cons_succ, List.getElem_cons_zero, List.setIfInBounds_toArray, List.set_cons_zero, List.set_cons_succ]
    refine S_take (i := 4) (v := .pointer (some ⟨w.heap.size, 2, none⟩)) rfl rfl (by kernel_rfl) (by kernel_rfl) (by kernel_rfl) (fun _ _ _ h => h) (Or.inl ⟨by rfl, fun W hw => by go_simp⟩) hS ?_
    simp only [Act.put, List.getElem_toArray, List.getElem_cons_succ, List.getElem_cons_zero, List.setIfInBounds_toArray, List.set_cons_zero, List.set_cons_succ]
    refine S_take (i := 5) (v := .int .i64 a.obj) rfl rfl (by kernel_rfl) (by kernel_rfl) (by kernel_rfl) (fun _ _ _ h => h) (Or.inl ⟨by rfl, fun W hw => by have k0 : W.cell? ⟨w.heap.size, 2, none⟩ = some (.int .i64 a.obj) := (HSRC.out W hw).cell 2; go_simp⟩) hS ?_
    simp only [Act.put, List.getElem_toArray, List.getElem_cons_succ, List.getElem_cons_zero, List.setIfInBounds_toArray, List.set_cons_zero, List.set_cons_succ]
    refine S_take (i := 6) (v := .pointer (some ⟨w.heap.size, 3, none⟩)) rfl rfl (by kernel_rfl) (by kernel_rfl) (by kernel_rfl) (fun _ _ _ h => h) (Or.inl ⟨by rfl, fun W hw => by go_simp⟩) hS ?_
    simp only [Act.put, List.getElem_toArray, List.getElem_cons_succ, List.getElem_cons_zero, List.setIfInBounds_toArray, List.set_cons_zero, List.set_cons_succ]
    refine S_take (i := 7) (v := .int .i64 a.seq) rfl rfl (by kernel_rfl) (by kernel_rfl) (by kernel_rfl) (fun _ _ _ h => h) (Or.inl ⟨by rfl, fun W hw => by have k0 : W.cell? ⟨w.heap.size, 3, none⟩ = some (.int .i64 a.seq) := (HSRC.out W hw).cell 3; go_simp⟩) hS ?_
    simp only [Act.put, List.getElem_toArray, List.getElem_cons_succ, List.getElem_cons_zero, List.setIfInBounds_toArray, List.set_cons_zero, List.set_cons_succ]
    refine S_take (i := 8) (v := .pointer (some ⟨w.heap.size, 5, none⟩)) rfl rfl (by kernel_rfl) (by kernel_rfl) (by kernel_rfl) (fun _ _ _ h => h) (Or.inl ⟨by rfl, fun W hw => by go_simp⟩) hS ?_
    simp only [Act.put, List.getElem_toArray, List.getElem_cons_succ, List.getElem_cons_zero, List.setIfInBounds_toArray, List.set_cons_zero, List.set_cons_succ]
    refine S_take (i := 9) (v := .pointer (some ⟨w.heap.size, 5, none⟩)) rfl rfl (by kernel_rfl) (by kernel_rfl) (by kernel_rfl) (fun _ _ _ h => h) (Or.inl ⟨by rfl, fun W hw => by go_simp⟩) hS ?_
    simp only [Act.put, List.getElem_toArray, List.getElem_cons_succ, List.getElem_cons_zero, List.setIfInBounds_toArray, List.set_cons_zero, List.set_cons_succ]
    refine S_take (i := 10) (v := .bool a.vw.on) rfl rfl (by kernel_rfl) (by kernel_rfl) (by kernel_rfl) (fun _ _ _ h => h) (Or.inl ⟨by rfl, fun W hw => by have k0 : W.cell? ⟨w.heap.size, 5, none⟩ = some (.bool a.vw.on) := (HSRC.out W hw).cell 5; go_simp⟩) hS ?_
    simp only [Act.put, List.getElem_toArray, List.getElem_cons_succ, List.getElem_cons_zero, List.setIfInBounds_toArray, List.set_cons_zero, List.set_cons_succ]
    refine S_take (i := 11) (v := .pointer (some ⟨w.heap.size, 5, none⟩)) rfl rfl (by kernel_rfl) (by kernel_rfl) (by kernel_rfl) (fun _ _ _ h => h) (Or.inl ⟨by rfl, fun W hw => by go_simp⟩) hS ?_
    simp only [Act.put, List.getElem_toArray, List.getElem_cons_succ, List.getElem_cons_zero, List.setIfInBounds_toArray, List.set_cons_zero, List.set_cons_succ]
    refine S_take (i := 12) (v := .pointer (some ⟨w.heap.size, 6, none⟩)) rfl rfl (by kernel_rfl) (by kernel_rfl) (by kernel_rfl) (fun _ _ _ h => h) (Or.inl ⟨by rfl, fun W hw => by go_simp⟩) hS ?_
    simp only [Act.put, List.getElem_toArray, List.getElem_cons_succ, List.getElem_cons_zero, List.setIfInBounds_toArray, List.set_cons_zero, List.set_cons_succ]
    refine S_take (i := 13) (v := .bool a.vw.good) rfl rfl (by kernel_rfl) (by kernel_rfl) (by kernel_rfl) (fun _ _ _ h => h) (Or.inl ⟨by rfl, fun W hw => by have k0 : W.cell? ⟨w.heap.size, 6, none⟩ = some (.bool a.vw.good) := (HSRC.out W hw).cell 6; go_simp⟩) hS ?_
    simp only [Act.put, List.getElem_toArray, List.getElem_cons_succ, List.getElem_cons_zero, List.setIfInBounds_toArray, List.set_cons_zero, List.set_cons_succ]
    refine S_take (i := 15) (v := .pointer (some ⟨w.heap.size, 5, none⟩)) rfl rfl (by kernel_rfl) (by kernel_rfl) (by kernel_rfl) (fun _ _ _ h => h) (Or.inl ⟨by rfl, fun W hw => by go_simp⟩) hS ?_
    simp only [Act.put, List.getElem_toArray, List.getElem_cons_succ, List.getElem_cons_zero, List.setIfInBounds_toArray, List.set_cons_zero, List.set_cons_succ]
    refine S_take (i := 16) (v := .pointer (some ⟨w.heap.size, 7, none⟩)) rfl rfl (by kernel_rfl) (by kernel_rfl) (by kernel_rfl) (fun _ _ _ h => h) (Or.inl ⟨by rfl, fun W hw => by go_simp⟩) hS ?_
    simp only [Act.put, List.getElem_toArray, List.getElem_cons_succ, List.getElem_cons_zero, List.setIfInBounds_toArray, List.set_cons_zero, List.set_cons_succ]
    refine S_take (i := 17) (v := .slice a.vw.M a.vw.row.length a.vw.cm) rfl rfl (by kernel_rfl) (by kernel_rfl) (by kernel_rfl) (fun _ _ _ h => h) (Or.inl ⟨by rfl, fun W hw => by have k0 : W.cell? ⟨w.heap.size, 7, none⟩ = some (.slice a.vw.M a.vw.row.length a.vw.cm) := (HSRC.out W hw).cell 7; go_simp⟩) hS ?_
    simp only [Act.put, List.getElem_toArray, List.getElem_cons_succ, List.getElem_cons_zero, List.setIfInBounds_toArray, List.set_cons_zero, List.set_cons_succ]
    refine S_take (i := 19) (v := .pointer (some ⟨w.heap.size, 8, none⟩)) rfl rfl (by kernel_rfl) (by kernel_rfl) (by kernel_rfl) (fun _ _ _ h => h) (Or.inl ⟨by rfl, fun W hw => by go_simp⟩) hS ?_
    simp only [Act.put, List.getElem_toArray, List.getElem_cons_succ, List.getElem_cons_zero, List.setIfInBounds_toArray, List.set_cons_zero, List.set_cons_succ]
    refine S_take (i := 20) (v := .agg #[.string (strOf a.vw.par), .int .i64 a.vw.ps, .int .i64 a.vw.ov]) rfl rfl (by kernel_rfl) (by kernel_rfl) (by kernel_rfl) (fun _ _ _ h => h) (Or.inl ⟨by rfl, fun W hw => by have k0 : W.cell? ⟨w.heap.size, 8, none⟩ = some (.string (strOf a.vw.par)) := (HSRC.out W hw).cell 8; have k1 : W.cell? ⟨w.heap.size, 9, none⟩ = some (.int .i64 a.vw.ps) := (HSRC.out W hw).cell 9; have k2 : W.cell? ⟨w.heap.size, 10, none⟩ = some (.int .i64 a.vw.ov) := (HSRC.out W hw).cell 10; go_simp⟩) hS ?_
    simp only [Act.put, List.getElem_toArray, List.getElem_cons_succ, List.getElem_cons_zero, List.setIfInBounds_toArray, List.set_cons_zero, List.set_cons_succ]
    refine S_take (i := 21) (v := .pointer (some ⟨w.heap.size, 11, none⟩)) rfl rfl (by kernel_rfl) (by kernel_rfl) (by kernel_rfl) (fun _ _ _ h => h) (Or.inl ⟨by rfl, fun W hw => by go_simp⟩) hS ?_
    simp only [Act.put, List.getElem_toArray, List.getElem_cons_succ, List.getElem_cons_zero, List.setIfInBounds_toArray, List.set_cons_zero, List.set_cons_succ]
    refine S_take (i := 22) (v := .int .i64 a.ow) rfl rfl (by kernel_rfl) (by kernel_rfl) (by kernel_rfl) (fun _ _ _ h => h) (Or.inl ⟨by rfl, fun W hw => by have k0 : W.cell? ⟨w.heap.size, 11, none⟩ = some (.int .i64 a.ow) := (HSRC.out W hw).cell 11; go_simp⟩) hS ?_
    simp only [Act.put, List.getElem_toArray, List.getElem_cons_succ, List.getElem_cons_zero, List.setIfInBounds_toArray, List.set_cons_zero, List.set_cons_succ]
    refine S_take (i := 23) (v := .pointer (some ⟨w.heap.size, 12, none⟩)) rfl rfl (by kernel_rfl) (by kernel_rfl) (by kernel_rfl) (fun _ _ _ h => h) (Or.inl ⟨by rfl, fun W hw => by go_simp⟩) hS ?_
    simp only [Act.put, List.getElem_toArray, List.getElem_cons_succ, List.getElem_cons_zero, List.setIfInBounds_toArray, List.set_cons_zero, List.set_cons_succ]
    refine S_take (i := 24) (v := .int .i64 a.it) rfl rfl (by kernel_rfl) (by kernel_rfl) (by kernel_rfl) (fun _ _ _ h => h) (Or.inl ⟨by rfl, fun W hw => by have k0 : W.cell? ⟨w.heap.size, 12, none⟩ = some (.int .i64 a.it) := (HSRC.out W hw).cell 12; go_simp⟩) hS ?_
    simp only [Act.put, List.getElem_toArray, List.getElem_cons_succ, List.getElem_cons_zero, List.setIfInBounds_toArray, List.set_cons_zero, List.set_cons_succ]
    refine S_take (i := 25) (v := .pointer (some ⟨w.heap.size, 13, none⟩)) rfl rfl (by kernel_rfl) (by kernel_rfl) (by kernel_rfl) (fun _ _ _ h => h) (Or.inl ⟨by rfl, fun W hw => by go_simp⟩) hS ?_
    simp only [Act.put, List.getElem_toArray, List.getElem_cons_succ, List.getElem_cons_zero, List.setIfInBounds_toArray, List.set_cons_zero, List.set_cons_succ]
    refine S_take (i := 26) (v := .int .i64 a.tg) rfl rfl (by kernel_rfl) (by kernel_rfl) (by kernel_rfl) (fun _ _ _ h => h) (Or.inl ⟨by rfl, fun W hw => by have k0 : W.cell? ⟨w.heap.size, 13, none⟩ = some (.int .i64 a.tg) := (HSRC.out W hw).cell 13; go_simp⟩) hS ?_
    simp only [Act.put, List.getElem_toArray, List.getElem_cons_succ, List.getElem_cons_zero, List.setIfInBounds_toArray, List.set_cons_zero, List.set_cons_succ]
    refine L_two (i := 14) (j := 28) (by kernel_rfl) rfl rfl (by rfl) (by rfl) ?_ ?_
    · skip
      simp only [Act.put, List.getElem_toArray, List.getElem_cons_succ, List.getElem_cons_zero, List.setIfInBounds_toArray, List.set_cons_zero, List.set_cons_succ]
      obtain ⟨W1, hW⟩ : ∃ W', W' = World.alloc w0.drew (.cells #[] 5) := ⟨_, rfl⟩
      have hx : Below (w0.drew).heap.size w0.drew W1 := by rw [hW]; exact below_alloc _ _
      have hb1 : Below w0.heap.size w0 W1 := hS.trans (hx.mono hS.size)
      have hg1 : w0.heap.size ≤ (w0.drew).heap.size := hS.size
      have hoE : Own W1 w.heap.size (.slice (some ⟨(w0.drew).heap.size, 0, none⟩) 0 0) 0 [] := by rw [hW]; exact Own.new _ _ (by omega)
      refine wp_ran (v := .slice (some ⟨(w0.drew).heap.size, 0, none⟩) 0 0) (w' := W1) (by rw [hW]; exact (by go_simp)) ⟨hb1, ?_⟩
      simp only [Act.put, List.getElem_toArray, List.getElem_cons_succ, List.getElem_cons_zero, List.setIfInBounds_toArray, List.set_cons_zero, List.set_cons_succ]
      clear hW hx
      refine L_two (i := 18) (j := 28) (by kernel_rfl) rfl rfl (by rfl) (by rfl) ?_ ?_
      · skip
        simp only [Act.put, List.getElem_toArray, List.getElem_cons_succ, List.getElem_cons_zero, List.setIfInBounds_toArray, List.set_cons_zero, List.set_cons_succ]
        refine wp_append_any _ (.tmp 20) (.tmp 23) 23 rfl w.heap.size 5 i0 _ 1 1 Try.underlying23 hi0 hz0 hz1 hz2 rfl (by omega) (.slice (some ⟨(w0.drew).heap.size, 0, none⟩) 0 0) 0 (u8s []) rfl hoE _ a.vw.M a.vw.row.length a.vw.cm (u8s a.vw.row) rfl (HROW.out _ hb1).1 (oneCell_u8s _) (by simp only [maxLen]; omega) (by omega) (Nat.le_trans HW0.out hb1.size) ?_
        intro v2 W2 hap hgr hav
        have hoD : Own W2 w.heap.size v2 a.vw.row.length a.vw.row := by have h7 := hap; rw [Nat.zero_add] at h7; simpa [Own, u8s] using h7
        obtain ⟨D2, c2, rfl⟩ := own_form hoD
        have hb2 : Below w0.heap.size w0 W2 := hb1.grown hgr hb1.size (fun k e => by simp [Value.ownBlock] at e; omega)
        refine ⟨hb2, ?_⟩
        simp only [Act.put, List.getElem_toArray, List.getElem_cons_succ, List.getElem_cons_zero, List.setIfInBounds_toArray, List.set_cons_zero, List.set_cons_succ]
        refine S_take (i := 27) (v := .agg #[.int .i64 a.id, .int .i64 a.vw.size, .int .i64 a.obj, .int .i64 a.seq, .slice none 0 0, .bool a.vw.on, .bool a.vw.good, .slice D2 a.vw.row.length c2, .string (strOf a.vw.par), .int .i64 a.vw.ps, .int .i64 a.vw.ov, .int .i64 a.ow, .int .i64 a.it, .int .i64 a.tg]) rfl rfl (by kernel_rfl) (by kernel_rfl) (by kernel_rfl) (fun _ _ _ h => h) (Or.inl ⟨by rfl, fun W hw => by kernel_rfl⟩) hb2 ?_
        simp only [Act.put, List.getElem_toArray, List.getElem_cons_succ, List.getElem_cons_zero, List.setIfInBounds_toArray, List.set_cons_zero, List.set_cons_succ]
        refine L_one (j := 28) (by kernel_rfl) rfl (by rfl) ?_
        simp only [Act.put, List.getElem_toArray, List.getElem_cons_succ, List.getElem_cons_zero, List.setIfInBounds_toArray, List.set_cons_zero, List.set_cons_succ]
        obtain ⟨W3, hW⟩ : ∃ W', W' = World.alloc W2 (.cells #[.int .i64 0, .int .i64 0, .int .i64 0, .int .i64 0, .slice none 0 0, .bool false, .bool false, .slice none 0 0, .string ⟨#[]⟩, .int .i64 0, .int .i64 0, .int .i64 0, .int .i64 0, .int .i64 0] 36) := ⟨_, rfl⟩
        have hx : Below (W2).heap.size W2 W3 := by rw [hW]; exact below_alloc _ _
        have hb3 : Below w0.heap.size w0 W3 := hb2.trans (hx.mono hb2.size)
        have hg3 : w0.heap.size ≤ (W2).heap.size := hb2.size
        have hK : Blk W3 (W2).heap.size 36 #[.int .i64 0, .int .i64 0, .int .i64 0, .int .i64 0, .slice none 0 0, .bool false, .bool false, .slice none 0 0, .string ⟨#[]⟩, .int .i64 0, .int .i64 0, .int .i64 0, .int .i64 0, .int .i64 0] := by rw [hW]; exact Blk.new _ _ _
        have hoD := Own.below hoD hx
        refine wp_ran (v := .pointer (some ⟨(W2).heap.size, 0, none⟩)) (w' := W3) (by rw [hW]; exact (by go_simp)) ⟨hb3, ?_⟩
        simp only [Act.put, List.getElem_toArray, List.getElem_cons_succ, List.getElem_cons_zero, List.setIfInBounds_toArray, List.set_cons_zero, List.set_cons_succ]
        clear hW hx
        refine L_one (j := 29) (by kernel_rfl) rfl (by rfl) ?_
        simp only [Act.put, List.getElem_toArray, List.getElem_cons_succ, List.getElem_cons_zero, List.setIfInBounds_toArray, List.set_cons_zero, List.set_cons_succ]
        refine wp_storeq 36 (.tmp 3) (.tmp 33) rfl (W2).heap.size _ [.int .i64 a.id, .int .i64 a.vw.size, .int .i64 a.obj, .int .i64 a.seq, .slice none 0 0, .bool a.vw.on, .bool a.vw.good, .slice D2 a.vw.row.length c2, .string (strOf a.vw.par), .int .i64 a.vw.ps, .int .i64 a.vw.ov, .int .i64 a.ow, .int .i64 a.it, .int .i64 a.tg] rfl rfl hK (by simp) (by kernel_rfl) (one14 _ _ _ _ _ _ _ _ _ _ _ _ _ _ _ _ _ _) ?_
        intro W9 K9 o9 s9
        have hS9 : Below w0.heap.size w0 W9 := hb3.trans (o9.below (fun x hx => by simp at hx; omega) hb3.size)
        refine ⟨hS9, ?_⟩
        simp only [Act.put, List.getElem_toArray, List.getElem_cons_succ, List.getElem_cons_zero, List.setIfInBounds_toArray, List.set_cons_zero, List.set_cons_succ]
        refine L_done (by kernel_rfl) ?_
        refine NoPanic.normal ?_
        exact ⟨by first | trivial | rfl, _, _, _, _, rfl, pg_start HP0.out hS9 K9 (row_of hoD fun k hk => o9.block k (row_under hoD k hk) (fun hm => by simp at hm; subst hm; obtain ⟨cs, hbk⟩ := own_ty hoD hk; exact hbk.ne_ hK (by decide) rfl)) (by omega)⟩
      · skip
        simp only [Act.put, List.getElem_toArray, List.getElem_cons_succ, List.getElem_cons_zero, List.setIfInBounds_toArray, List.set_cons_zero, List.set_cons_succ]
        obtain ⟨W5, hW⟩ : ∃ W', W' = World.alloc W1 (.cells #[.int .i64 0, .int .i64 0, .int .i64 0, .int .i64 0, .slice none 0 0, .bool false, .bool false, .slice none 0 0, .string ⟨#[]⟩, .int .i64 0, .int .i64 0, .int .i64 0, .int .i64 0, .int .i64 0] 36) := ⟨_, rfl⟩
        have hx : Below (W1).heap.size W1 W5 := by rw [hW]; exact below_alloc _ _
        have hb5 : Below w0.heap.size w0 W5 := hb1.trans (hx.mono hb1.size)
        have hg5 : w0.heap.size ≤ (W1).heap.size := hb1.size
        have hK : Blk W5 (W1).heap.size 36 #[.int .i64 0, .int .i64 0, .int .i64 0, .int .i64 0, .slice none 0 0, .bool false, .bool false, .slice none 0 0, .string ⟨#[]⟩, .int .i64 0, .int .i64 0, .int .i64 0, .int .i64 0, .int .i64 0] := by rw [hW]; exact Blk.new _ _ _
        have hoE := Own.below hoE hx
        refine wp_ran (v := .pointer (some ⟨(W1).heap.size, 0, none⟩)) (w' := W5) (by rw [hW]; exact (by go_simp)) ⟨hb5, ?_⟩
        simp only [Act.put, List.getElem_toArray, List.getElem_cons_succ, List.getElem_cons_zero, List.setIfInBounds_toArray, List.set_cons_zero, List.set_cons_succ]
        clear hW hx
        refine L_one (j := 18) (by kernel_rfl) rfl (by rfl) ?_
        simp only [Act.put, List.getElem_toArray, List.getElem_cons_succ, List.getElem_cons_zero, List.setIfInBounds_toArray, List.set_cons_zero, List.set_cons_succ]
        refine wp_append_any _ (.tmp 20) (.tmp 23) 23 rfl w.heap.size 5 i0 _ 1 1 Try.underlying23 hi0 hz0 hz1 hz2 rfl (by omega) (.slice (some ⟨(w0.drew).heap.size, 0, none⟩) 0 0) 0 (u8s []) rfl hoE _ a.vw.M a.vw.row.length a.vw.cm (u8s a.vw.row) rfl (HROW.out _ hb5).1 (oneCell_u8s _) (by simp only [maxLen]; omega) (by omega) (Nat.le_trans HW0.out hb5.size) ?_
        intro v6 W6 hap hgr hav
        have hoD : Own W6 w.heap.size v6 a.vw.row.length a.vw.row := by have h7 := hap; rw [Nat.zero_add] at h7; simpa [Own, u8s] using h7
        obtain ⟨D6, c6, rfl⟩ := own_form hoD
        have hb6 : Below w0.heap.size w0 W6 := hb5.grown hgr hb5.size (fun k e => by simp [Value.ownBlock] at e; omega)
        have hK := hK.grown hgr (fun e => own_blk_ne hoE hK (by decide) e.symm)
        refine ⟨hb6, ?_⟩
        simp only [Act.put, List.getElem_toArray, List.getElem_cons_succ, List.getElem_cons_zero, List.setIfInBounds_toArray, List.set_cons_zero, List.set_cons_succ]
        refine S_take (i := 27) (v := .agg #[.int .i64 a.id, .int .i64 a.vw.size, .int .i64 a.obj, .int .i64 a.seq, .slice none 0 0, .bool a.vw.on, .bool a.vw.good, .slice D6 a.vw.row.length c6, .string (strOf a.vw.par), .int .i64 a.vw.ps, .int .i64 a.vw.ov, .int .i64 a.ow, .int .i64 a.it, .int .i64 a.tg]) rfl rfl (by kernel_rfl) (by kernel_rfl) (by kernel_rfl) (fun _ _ _ h => h) (Or.inl ⟨by rfl, fun W hw => by kernel_rfl⟩) hb6 ?_
        simp only [Act.put, List.getElem_toArray, List.getElem_cons_succ, List.getElem_cons_zero, List.setIfInBounds_toArray, List.set_cons_zero, List.set_cons_succ]
        refine L_one (j := 29) (by kernel_rfl) rfl (by rfl) ?_
        simp only [Act.put, List.getElem_toArray, List.getElem_cons_succ, List.getElem_cons_zero, List.setIfInBounds_toArray, List.set_cons_zero, List.set_cons_succ]
        refine wp_storeq 36 (.tmp 3) (.tmp 33) rfl (W1).heap.size _ [.int .i64 a.id, .int .i64 a.vw.size, .int .i64 a.obj, .int .i64 a.seq, .slice none 0 0, .bool a.vw.on, .bool a.vw.good, .slice D6 a.vw.row.length c6, .string (strOf a.vw.par), .int .i64 a.vw.ps, .int .i64 a.vw.ov, .int .i64 a.ow, .int .i64 a.it, .int .i64 a.tg] rfl rfl hK (by simp) (by kernel_rfl) (one14 _ _ _ _ _ _ _ _ _ _ _ _ _ _ _ _ _ _) ?_
        intro W9 K9 o9 s9
        have hS9 : Below w0.heap.size w0 W9 := hb6.trans (o9.below (fun x hx => by simp at hx; omega) hb6.size)
        refine ⟨hS9, ?_⟩
        simp only [Act.put, List.getElem_toArray, List.getElem_cons_succ, List.getElem_cons_zero, List.setIfInBounds_toArray, List.set_cons_zero, List.set_cons_succ]
        refine L_done (by kernel_rfl) ?_
        refine NoPanic.normal ?_
        exact ⟨by first | trivial | rfl, _, _, _, _, rfl, pg_start HP0.out hS9 K9 (row_of hoD fun k hk => o9.block k (row_under hoD k hk) (fun hm => by simp at hm; subst hm; obtain ⟨cs, hbk⟩ := own_ty hoD hk; exact hbk.ne_ hK (by decide) rfl)) (by omega)⟩
    · skip
      simp only [Act.put, List.getElem_toArray, List.getElem_cons_succ, List.getElem_cons_zero, List.setIfInBounds_toArray, List.set_cons_zero, List.set_cons_succ]
      obtain ⟨W8, hW⟩ : ∃ W', W' = World.alloc w0.drew (.cells #[.int .i64 0, .int .i64 0, .int .i64 0, .int .i64 0, .slice none 0 0, .bool false, .bool false, .slice none 0 0, .string ⟨#[]⟩, .int .i64 0, .int .i64 0, .int .i64 0, .int .i64 0, .int .i64 0] 36) := ⟨_, rfl⟩
      have hx : Below (w0.drew).heap.size w0.drew W8 := by rw [hW]; exact below_alloc _ _
      have hb8 : Below w0.heap.size w0 W8 := hS.trans (hx.mono hS.size)
      have hg8 : w0.heap.size ≤ (w0.drew).heap.size := hS.size
      have hK : Blk W8 (w0.drew).heap.size 36 #[.int .i64 0, .int .i64 0, .int .i64 0, .int .i64 0, .slice none 0 0, .bool false, .bool false, .slice none 0 0, .string ⟨#[]⟩, .int .i64 0, .int .i64 0, .int .i64 0, .int .i64 0, .int .i64 0] := by rw [hW]; exact Blk.new _ _ _
      refine wp_ran (v := .pointer (some ⟨(w0.drew).heap.size, 0, none⟩)) (w' := W8) (by rw [hW]; exact (by go_simp)) ⟨hb8, ?_⟩
      simp only [Act.put, List.getElem_toArray, List.getElem_cons_succ, List.getElem_cons_zero, List.setIfInBounds_toArray, List.set_cons_zero, List.set_cons_succ]
      clear hW hx
      refine L_one (j := 14) (by kernel_rfl) rfl (by rfl) ?_
      simp only [Act.put, List.getElem_toArray, List.getElem_cons_succ, List.getElem_cons_zero, List.setIfInBounds_toArray, List.set_cons_zero, List.set_cons_succ]
      obtain ⟨W9, hW⟩ : ∃ W', W' = World.alloc W8 (.cells #[] 5) := ⟨_, rfl⟩
      have hx : Below (W8).heap.size W8 W9 := by rw [hW]; exact below_alloc _ _
      have hb9 : Below w0.heap.size w0 W9 := hb8.trans (hx.mono hb8.size)
      have hg9 : w0.heap.size ≤ (W8).heap.size := hb8.size
      have hoE : Own W9 w.heap.size (.slice (some ⟨(W8).heap.size, 0, none⟩) 0 0) 0 [] := by rw [hW]; exact Own.new _ _ (by omega)
      have hK := hK.of (hx.block _ hK.lt)
      refine wp_ran (v := .slice (some ⟨(W8).heap.size, 0, none⟩) 0 0) (w' := W9) (by rw [hW]; exact (by go_simp)) ⟨hb9, ?_⟩
      simp only [Act.put, List.getElem_toArray, List.getElem_cons_succ, List.getElem_cons_zero, List.setIfInBounds_toArray, List.set_cons_zero, List.set_cons_succ]
      clear hW hx
      refine L_one (j := 18) (by kernel_rfl) rfl (by rfl) ?_
      simp only [Act.put, List.getElem_toArray, List.getElem_cons_succ, List.getElem_cons_zero, List.setIfInBounds_toArray, List.set_cons_zero, List.set_cons_succ]
      refine wp_append_any _ (.tmp 20) (.tmp 23) 23 rfl w.heap.size 5 i0 _ 1 1 Try.underlying23 hi0 hz0 hz1 hz2 rfl (by omega) (.slice (some ⟨(W8).heap.size, 0, none⟩) 0 0) 0 (u8s []) rfl hoE _ a.vw.M a.vw.row.length a.vw.cm (u8s a.vw.row) rfl (HROW.out _ hb9).1 (oneCell_u8s _) (by simp only [maxLen]; omega) (by omega) (Nat.le_trans HW0.out hb9.size) ?_
      intro v10 W10 hap hgr hav
      have hoD : Own W10 w.heap.size v10 a.vw.row.length a.vw.row := by have h7 := hap; rw [Nat.zero_add] at h7; simpa [Own, u8s] using h7
      obtain ⟨D10, c10, rfl⟩ := own_form hoD
      have hb10 : Below w0.heap.size w0 W10 := hb9.grown hgr hb9.size (fun k e => by simp [Value.ownBlock] at e; omega)
      have hK := hK.grown hgr (fun e => own_blk_ne hoE hK (by decide) e.symm)
      refine ⟨hb10, ?_⟩
      simp only [Act.put, List.getElem_toArray, List.getElem_cons_succ, List.getElem_cons_zero, List.setIfInBounds_toArray, List.set_cons_zero, List.set_cons_succ]
      refine S_take (i := 27) (v := .agg #[.int .i64 a.id, .int .i64 a.vw.size, .int .i64 a.obj, .int .i64 a.seq, .slice none 0 0, .bool a.vw.on, .bool a.vw.good, .slice D10 a.vw.row.length c10, .string (strOf a.vw.par), .int .i64 a.vw.ps, .int .i64 a.vw.ov, .int .i64 a.ow, .int .i64 a.it, .int .i64 a.tg]) rfl rfl (by kernel_rfl) (by kernel_rfl) (by kernel_rfl) (fun _ _ _ h => h) (Or.inl ⟨by rfl, fun W hw => by kernel_rfl⟩) hb10 ?_
      simp only [Act.put, List.getElem_toArray, List.getElem_cons_succ, List.getElem_cons_zero, List.setIfInBounds_toArray, List.set_cons_zero, List.set_cons_succ]
      refine L_one (j := 29) (by kernel_rfl) rfl (by rfl) ?_
      simp only [Act.put, List.getElem_toArray, List.getElem_cons_succ, List.getElem_cons_zero, List.setIfInBounds_toArray, List.set_cons_zero, List.set_cons_succ]
      refine wp_storeq 36 (.tmp 3) (.tmp 33) rfl (w0.drew).heap.size _ [.int .i64 a.id, .int .i64 a.vw.size, .int .i64 a.obj, .int .i64 a.seq, .slice none 0 0, .bool a.vw.on, .bool a.vw.good, .slice D10 a.vw.row.length c10, .string (strOf a.vw.par), .int .i64 a.vw.ps, .int .i64 a.vw.ov, .int .i64 a.ow, .int .i64 a.it, .int .i64 a.tg] rfl rfl hK (by simp) (by kernel_rfl) (one14 _ _ _ _ _ _ _ _ _ _ _ _ _ _ _ _ _ _) ?_
      intro W9 K9 o9 s9
      have hS9 : Below w0.heap.size w0 W9 := hb10.trans (o9.below (fun x hx => by simp at hx; omega) hb10.size)
      refine ⟨hS9, ?_⟩
      simp only [Act.put, List.getElem_toArray, List.getElem_cons_succ, List.getElem_cons_zero, List.setIfInBounds_toArray, List.set_cons_zero, List.set_cons_succ]
      refine L_done (by kernel_rfl) ?_
      refine NoPanic.normal ?_
      exact ⟨by first | trivial | rfl, _, _, _, _, rfl, pg_start HP0.out hS9 K9 (row_of hoD fun k hk => o9.block k (row_under hoD k hk) (fun hm => by simp at hm; subst hm; obtain ⟨cs, hbk⟩ := own_ty hoD hk; exact hbk.ne_ hK (by decide) rfl)) (by omega)⟩
  · intro e a' W' hq
    obtain ⟨rfl, g3, c, D, v20, rfl, hpg⟩ := hq
    have HPG := Lib.hid hpg
    have q4 : W'.cell? ⟨w.heap.size, 4, none⟩ = some (.slice a.S a.sn.length a.cs') := hpg.src.cell 4
    clear hpg HSRC HROW HP0
    go_wp2
    clear q4
    go_loopw [37] (fun i wr => ∃ (k : Nat) (q : HA), k ≤ a.sn.length ∧ i = .int .i64 k ∧ Pg w a g3 k q wr) (fun i _ => a.sn.length - (intOf i).toNat)
    case atStart => exact ⟨0, _, by omega, rfl, HPG.out⟩
    case round =>
      obtain ⟨k, q, hk, rfl, hP⟩ := hrel
      have HP := Lib.hid hP
      have hwk : IntKind.i64.wrap ((k : Int) + 1) = (k : Int) + 1 := by rw [IntKind.wrap_i64]; omega
      have hql : q.sn.length = k := by
        have := congrArg List.length hP.vs
        simp at this
        omega
      clear hP
      by_cases hlt : k < a.sn.length
      · obtain ⟨s, hs⟩ : ∃ s, a.sn[k]? = some s := ⟨_, List.getElem?_eq_getElem hlt⟩
        have hR1 := HRL.out.1.since HP.out.bel
        obtain ⟨ad, had, -, hc⟩ := snap_at SA.dcells_len hR1.row hs
        have hsm := List.mem_of_getElem? hs
        have HSS : Hid (a.sn[k]? = some s ∧ s.R w ∧ s.Lm) := Lib.hid ⟨hs, HRL.out.1.sn s hsm, HRL.out.2.sn s hsm⟩
        have hrl2 := (HRL.out.2.sn s hsm).row
        have hcl2 := (HRL.out.2.sn s hsm).ch
        obtain ⟨w8, hw8⟩ : ∃ w8, w8 = wr.alloc (.cells #[.int .i64 s.num, .int .i64 s.vw.size, .string (strOf s.name), .bool s.prot, .bool s.vw.on, .bool s.vw.good, .slice s.vw.M s.vw.row.length s.vw.cm, .string (strOf s.vw.par), .int .i64 s.vw.ps, .int .i64 s.vw.ov, .slice s.C s.ch.length s.cc] 74) := ⟨_, rfl⟩
        have hb8 : Below wr.heap.size wr w8 := by rw [hw8]; exact below_alloc wr _
        obtain ⟨g5, hg5⟩ : ∃ g5, g5 = wr.heap.size := ⟨_, rfl⟩
        have K5 : Blk w8 g5 74 #[.int .i64 s.num, .int .i64 s.vw.size, .string (strOf s.name), .bool s.prot, .bool s.vw.on, .bool s.vw.good, .slice s.vw.M s.vw.row.length s.vw.cm, .string (strOf s.vw.par), .int .i64 s.vw.ps, .int .i64 s.vw.ov, .slice s.C s.ch.length s.cc] := by rw [hw8, hg5]; exact Blk.new wr _ _
        have HP8 := Lib.hid (HP.out.next hb8)
        have HSB : Hid (∀ W, Below w8.heap.size w8 W → Blk W g3 36 #[.int .i64 q.id, .int .i64 q.vw.size, .int .i64 q.obj, .int .i64 q.seq, .slice q.S q.sn.length q.cs', .bool q.vw.on, .bool q.vw.good, .slice q.vw.M q.vw.row.length q.vw.cm, .string (strOf q.vw.par), .int .i64 q.vw.ps, .int .i64 q.vw.ov, .int .i64 q.ow, .int .i64 q.it, .int .i64 q.tg] ∧ Blk W g5 74 #[.int .i64 s.num, .int .i64 s.vw.size, .string (strOf s.name), .bool s.prot, .bool s.vw.on, .bool s.vw.good, .slice s.vw.M s.vw.row.length s.vw.cm, .string (strOf s.vw.par), .int .i64 s.vw.ps, .int .i64 s.vw.ov, .slice s.C s.ch.length s.cc]) := Lib.hid fun W hW => ⟨HP8.out.blk.of (hW.block _ HP8.out.blk.lt), K5.of (hW.block _ K5.lt)⟩
        have HSR : Hid (∀ W, Below w8.heap.size w8 W → s.R W) := Lib.hid fun W hW => HSS.out.2.1.since (HP8.out.bel.trans (hW.mono HP8.out.bel.size))
        have hws8 := HP8.out.bel.size
        have HW8 := Lib.hid (And.intro hw8 hg5)
        generalize a.S = sS at *
        subst had
        clear hs hsm hR1 hw8 hg5 hb8 K5
        go_upto_region 5 with (have _h := hc; refine wpList_loadp rfl 74 (.tmp 39) rfl _ [.int .i64 s.num, .int .i64 s.vw.size, .string (strOf s.name), .bool s.prot, .bool s.vw.on, .bool s.vw.good, .slice s.vw.M s.vw.row.length s.vw.cm, .string (strOf s.vw.par), .int .i64 s.vw.ps, .int .i64 s.vw.ov, .slice s.C s.ch.length s.cc] _ rfl hc Try.underlying74 rfl (by kernel_rfl) ?_; clear _h hc)
        rw [← HW8.out.1, ← HW8.out.2]
        clear HW8
        obtain ⟨i0, hi0, hz0, hz1, hz2⟩ := info_parts byte_info
        obtain ⟨i1, hi1, hy0, hy1, hy2⟩ := info_parts str_info
        obtain ⟨i2, hi2, hv0, hv1, hv2⟩ := info_parts snap_info
        have hS : Below w8.heap.size w8 w8.drew := (Below.refl _ w8).drew
        have hd8 : w8.drew.heap.size = w8.heap.size := rfl
        refine any_beginL (fun W => Blk W g3 36 #[.int .i64 q.id, .int .i64 q.vw.size, .int .i64 q.obj, .int .i64 q.seq, .slice q.S q.sn.length q.cs', .bool q.vw.on, .bool q.vw.good, .slice q.vw.M q.vw.row.length q.vw.cm, .string (strOf q.vw.par), .int .i64 q.vw.ps, .int .i64 q.vw.ov, .int .i64 q.ow, .int .i64 q.it, .int .i64 q.tg] ∧ Blk W g5 74 #[.int .i64 s.num, .int .i64 s.vw.size, .string (strOf s.name), .bool s.prot, .bool s.vw.on, .bool s.vw.good, .slice s.vw.M s.vw.row.length s.vw.cm, .string (strOf s.vw.par), .int .i64 s.vw.ps, .int .i64 s.vw.ov, .slice s.C s.ch.length s.cc]) 31 (by kernel_rfl) ?_
        refine L_take (i := 0) (v := .pointer (some ⟨g3, 4, none⟩)) rfl rfl (by kernel_rfl) (by kernel_rfl) (by kernel_rfl) (by kernel_rfl) (fun _ _ _ h => h) (Or.inl ⟨by rfl, fun W hw => by go_simp⟩) (HSB.out _ hS) ?_
        simp only [Act.put, List.getElem_toArray, List.getElem_cons_succ, List.getElem_cons_zero, List.setIfInBounds_toArray, List.set_cons_zero, List.set_cons_succ]
        refine L_take (i := 1) (v := .slice q.S q.sn.length q.cs') rfl rfl (by kernel_rfl) (by kernel_rfl) (by kernel_rfl) (by kernel_rfl) (fun _ _ _ h => h) (Or.inl ⟨by rfl, fun W hw => by have k0 : W.cell? ⟨g3, 4, none⟩ = some (.slice q.S q.sn.length q.cs') := hw.1.cell 4; go_simp⟩) (HSB.out _ hS) ?_
        simp only [Act.put, List.getElem_toArray, List.getElem_cons_succ, List.getElem_cons_zero, List.setIfInBounds_toArray, List.set_cons_zero, List.set_cons_succ]
        refine L_take (i := 2) (v := .pointer (some ⟨g5, 0, none⟩)) rfl rfl (by kernel_rfl) (by kernel_rfl) (by kernel_rfl) (by kernel_rfl) (fun _ _ _ h => h) (Or.inl ⟨by rfl, fun W hw => by go_simp⟩) (HSB.out _ hS) ?_
        simp only [Act.put, List.getElem_toArray, List.getElem_cons_succ, List.getElem_cons_zero, List.setIfInBounds_toArray, List.set_cons_zero, List.set_cons_succ]
        refine L_take (i := 3) (v := .int .i64 s.num) rfl rfl (by kernel_rfl) (by kernel_rfl) (by kernel_rfl) (by kernel_rfl) (fun _ _ _ h => h) (Or.inl ⟨by rfl, fun W hw => by have k0 : W.cell? ⟨g5, 0, none⟩ = some (.int .i64 s.num) := hw.2.cell 0; go_simp⟩) (HSB.out _ hS) ?_
        simp only [Act.put, List.getElem_toArray, List.getElem_cons_succ, List.getElem_cons_zero, List.setIfInBounds_toArray, List.set_cons_zero, List.set_cons_succ]
        refine L_take (i := 4) (v := .pointer (some ⟨g5, 1, none⟩)) rfl rfl (by kernel_rfl) (by kernel_rfl) (by kernel_rfl) (by kernel_rfl) (fun _ _ _ h => h) (Or.inl ⟨by rfl, fun W hw => by go_simp⟩) (HSB.out _ hS) ?_
        simp only [Act.put, List.getElem_toArray, List.getElem_cons_succ, List.getElem_cons_zero, List.setIfInBounds_toArray, List.set_cons_zero, List.set_cons_succ]
        refine L_take (i := 5) (v := .int .i64 s.vw.size) rfl rfl (by kernel_rfl) (by kernel_rfl) (by kernel_rfl) (by kernel_rfl) (fun _ _ _ h => h) (Or.inl ⟨by rfl, fun W hw => by have k0 : W.cell? ⟨g5, 1, none⟩ = some (.int .i64 s.vw.size) := hw.2.cell 1; go_simp⟩) (HSB.out _ hS) ?_
        simp only [Act.put, List.getElem_toArray, List.getElem_cons_succ, List.getElem_cons_zero, List.setIfInBounds_toArray, List.set_cons_zero, List.set_cons_succ]
        refine L_take (i := 6) (v := .pointer (some ⟨g5, 2, none⟩)) rfl rfl (by kernel_rfl) (by kernel_rfl) (by kernel_rfl) (by kernel_rfl) (fun _ _ _ h => h) (Or.inl ⟨by rfl, fun W hw => by go_simp⟩) (HSB.out _ hS) ?_
        simp only [Act.put, List.getElem_toArray, List.getElem_cons_succ, List.getElem_cons_zero, List.setIfInBounds_toArray, List.set_cons_zero, List.set_cons_succ]
        refine L_take (i := 7) (v := .string (strOf s.name)) rfl rfl (by kernel_rfl) (by kernel_rfl) (by kernel_rfl) (by kernel_rfl) (fun _ _ _ h => h) (Or.inl ⟨by rfl, fun W hw => by have k0 : W.cell? ⟨g5, 2, none⟩ = some (.string (strOf s.name)) := hw.2.cell 2; go_simp⟩) (HSB.out _ hS) ?_
        simp only [Act.put, List.getElem_toArray, List.getElem_cons_succ, List.getElem_cons_zero, List.setIfInBounds_toArray, List.set_cons_zero, List.set_cons_succ]
        refine L_take (i := 8) (v := .pointer (some ⟨g5, 4, none⟩)) rfl rfl (by kernel_rfl) (by kernel_rfl) (by kernel_rfl) (by kernel_rfl) (fun _ _ _ h => h) (Or.inl ⟨by rfl, fun W hw => by go_simp⟩) (HSB.out _ hS) ?_
        simp only [Act.put, List.getElem_toArray, List.getElem_cons_succ, List.getElem_cons_zero, List.setIfInBounds_toArray, List.set_cons_zero, List.set_cons_succ]
        refine L_take (i := 9) (v := .pointer (some ⟨g5, 4, none⟩)) rfl rfl (by kernel_rfl) (by kernel_rfl) (by kernel_rfl) (by kernel_rfl) (fun _ _ _ h => h) (Or.inl ⟨by rfl, fun W hw => by go_simp⟩) (HSB.out _ hS) ?_
        simp only [Act.put, List.getElem_toArray, List.getElem_cons_succ, List.getElem_cons_zero, List.setIfInBounds_toArray, List.set_cons_zero, List.set_cons_succ]
        refine L_take (i := 10) (v := .bool s.vw.on) rfl rfl (by kernel_rfl) (by kernel_rfl) (by kernel_rfl) (by kernel_rfl) (fun _ _ _ h => h) (Or.inl ⟨by rfl, fun W hw => by have k0 : W.cell? ⟨g5, 4, none⟩ = some (.bool s.vw.on) := hw.2.cell 4; go_simp⟩) (HSB.out _ hS) ?_
        simp only [Act.put, List.getElem_toArray, List.getElem_cons_succ, List.getElem_cons_zero, List.setIfInBounds_toArray, List.set_cons_zero, List.set_cons_succ]
        refine L_take (i := 11) (v := .pointer (some ⟨g5, 4, none⟩)) rfl rfl (by kernel_rfl) (by kernel_rfl) (by kernel_rfl) (by kernel_rfl) (fun _ _ _ h => h) (Or.inl ⟨by rfl, fun W hw => by go_simp⟩) (HSB.out _ hS) ?_
        simp only [Act.put, List.getElem_toArray, List.getElem_cons_succ, List.getElem_cons_zero, List.setIfInBounds_toArray, List.set_cons_zero, List.set_cons_succ]
        refine L_take (i := 12) (v := .pointer (some ⟨g5, 5, none⟩)) rfl rfl (by kernel_rfl) (by kernel_rfl) (by kernel_rfl) (by kernel_rfl) (fun _ _ _ h => h) (Or.inl ⟨by rfl, fun W hw => by go_simp⟩) (HSB.out _ hS) ?_
        simp only [Act.put, List.getElem_toArray, List.getElem_cons_succ, List.getElem_cons_zero, List.setIfInBounds_toArray, List.set_cons_zero, List.set_cons_succ]
        refine L_take (i := 13) (v := .bool s.vw.good) rfl rfl (by kernel_rfl) (by kernel_rfl) (by kernel_rfl) (by kernel_rfl) (fun _ _ _ h => h) (Or.inl ⟨by rfl, fun W hw => by have k0 : W.cell? ⟨g5, 5, none⟩ = some (.bool s.vw.good) := hw.2.cell 5; go_simp⟩) (HSB.out _ hS) ?_
        simp only [Act.put, List.getElem_toArray, List.getElem_cons_succ, List.getElem_cons_zero, List.setIfInBounds_toArray, List.set_cons_zero, List.set_cons_succ]
        refine L_take (i := 14) (v := .pointer (some ⟨g5, 3, none⟩)) rfl rfl (by kernel_rfl) (by kernel_rfl) (by kernel_rfl) (by kernel_rfl) (fun _ _ _ h => h) (Or.inl ⟨by rfl, fun W hw => by go_simp⟩) (HSB.out _ hS) ?_
        simp only [Act.put, List.getElem_toArray, List.getElem_cons_succ, List.getElem_cons_zero, List.setIfInBounds_toArray, List.set_cons_zero, List.set_cons_succ]
        refine L_take (i := 15) (v := .bool s.prot) rfl rfl (by kernel_rfl) (by kernel_rfl) (by kernel_rfl) (by kernel_rfl) (fun _ _ _ h => h) (Or.inl ⟨by rfl, fun W hw => by have k0 : W.cell? ⟨g5, 3, none⟩ = some (.bool s.prot) := hw.2.cell 3; go_simp⟩) (HSB.out _ hS) ?_
        simp only [Act.put, List.getElem_toArray, List.getElem_cons_succ, List.getElem_cons_zero, List.setIfInBounds_toArray, List.set_cons_zero, List.set_cons_succ]
        refine L_take (i := 17) (v := .pointer (some ⟨g5, 4, none⟩)) rfl rfl (by kernel_rfl) (by kernel_rfl) (by kernel_rfl) (by kernel_rfl) (fun _ _ _ h => h) (Or.inl ⟨by rfl, fun W hw => by go_simp⟩) (HSB.out _ hS) ?_
        simp only [Act.put, List.getElem_toArray, List.getElem_cons_succ, List.getElem_cons_zero, List.setIfInBounds_toArray, List.set_cons_zero, List.set_cons_succ]
        refine L_take (i := 18) (v := .pointer (some ⟨g5, 6, none⟩)) rfl rfl (by kernel_rfl) (by kernel_rfl) (by kernel_rfl) (by kernel_rfl) (fun _ _ _ h => h) (Or.inl ⟨by rfl, fun W hw => by go_simp⟩) (HSB.out _ hS) ?_
        simp only [Act.put, List.getElem_toArray, List.getElem_cons_succ, List.getElem_cons_zero, List.setIfInBounds_toArray, List.set_cons_zero, List.set_cons_succ]
        refine L_take (i := 19) (v := .slice s.vw.M s.vw.row.length s.vw.cm) rfl rfl (by kernel_rfl) (by kernel_rfl) (by kernel_rfl) (by kernel_rfl) (fun _ _ _ h => h) (Or.inl ⟨by rfl, fun W hw => by have k0 : W.cell? ⟨g5, 6, none⟩ = some (.slice s.vw.M s.vw.row.length s.vw.cm) := hw.2.cell 6; go_simp⟩) (HSB.out _ hS) ?_
        simp only [Act.put, List.getElem_toArray, List.getElem_cons_succ, List.getElem_cons_zero, List.setIfInBounds_toArray, List.set_cons_zero, List.set_cons_succ]
        refine L_take (i := 21) (v := .pointer (some ⟨g5, 7, none⟩)) rfl rfl (by kernel_rfl) (by kernel_rfl) (by kernel_rfl) (by kernel_rfl) (fun _ _ _ h => h) (Or.inl ⟨by rfl, fun W hw => by go_simp⟩) (HSB.out _ hS) ?_
        simp only [Act.put, List.getElem_toArray, List.getElem_cons_succ, List.getElem_cons_zero, List.setIfInBounds_toArray, List.set_cons_zero, List.set_cons_succ]
        refine L_take (i := 22) (v := .agg #[.string (strOf s.vw.par), .int .i64 s.vw.ps, .int .i64 s.vw.ov]) rfl rfl (by kernel_rfl) (by kernel_rfl) (by kernel_rfl) (by kernel_rfl) (fun _ _ _ h => h) (Or.inl ⟨by rfl, fun W hw => by have k0 : W.cell? ⟨g5, 7, none⟩ = some (.string (strOf s.vw.par)) := hw.2.cell 7; have k1 : W.cell? ⟨g5, 8, none⟩ = some (.int .i64 s.vw.ps) := hw.2.cell 8; have k2 : W.cell? ⟨g5, 9, none⟩ = some (.int .i64 s.vw.ov) := hw.2.cell 9; go_simp⟩) (HSB.out _ hS) ?_
        simp only [Act.put, List.getElem_toArray, List.getElem_cons_succ, List.getElem_cons_zero, List.setIfInBounds_toArray, List.set_cons_zero, List.set_cons_succ]
        refine L_take (i := 24) (v := .pointer (some ⟨g5, 10, none⟩)) rfl rfl (by kernel_rfl) (by kernel_rfl) (by kernel_rfl) (by kernel_rfl) (fun _ _ _ h => h) (Or.inl ⟨by rfl, fun W hw => by go_simp⟩) (HSB.out _ hS) ?_
        simp only [Act.put, List.getElem_toArray, List.getElem_cons_succ, List.getElem_cons_zero, List.setIfInBounds_toArray, List.set_cons_zero, List.set_cons_succ]
        refine L_take (i := 25) (v := .slice s.C s.ch.length s.cc) rfl rfl (by kernel_rfl) (by kernel_rfl) (by kernel_rfl) (by kernel_rfl) (fun _ _ _ h => h) (Or.inl ⟨by rfl, fun W hw => by have k0 : W.cell? ⟨g5, 10, none⟩ = some (.slice s.C s.ch.length s.cc) := hw.2.cell 10; go_simp⟩) (HSB.out _ hS) ?_
        simp only [Act.put, List.getElem_toArray, List.getElem_cons_succ, List.getElem_cons_zero, List.setIfInBounds_toArray, List.set_cons_zero, List.set_cons_succ]
        refine L_two (i := 16) (j := 23) (by kernel_rfl) rfl rfl (by rfl) (by rfl) ?_ ?_
        · skip
          simp only [Act.put, List.getElem_toArray, List.getElem_cons_succ, List.getElem_cons_zero, List.setIfInBounds_toArray, List.set_cons_zero, List.set_cons_succ]
          obtain ⟨W1, hW⟩ : ∃ W', W' = World.alloc w8.drew (.cells #[] 5) := ⟨_, rfl⟩
          have hx : Below (w8.drew).heap.size w8.drew W1 := by rw [hW]; exact below_alloc _ _
          have hb1 : Below w8.heap.size w8 W1 := hS.trans (hx.mono hS.size)
          have hg1 : w8.heap.size ≤ (w8.drew).heap.size := hS.size
          have hoE : Own W1 w.heap.size (.slice (some ⟨(w8.drew).heap.size, 0, none⟩) 0 0) 0 [] := by rw [hW]; exact Own.new _ _ (by omega)
          refine wp_ran (v := .slice (some ⟨(w8.drew).heap.size, 0, none⟩) 0 0) (w' := W1) (by rw [hW]; exact (by go_simp)) ⟨HSB.out _ hb1, ?_⟩
          simp only [Act.put, List.getElem_toArray, List.getElem_cons_succ, List.getElem_cons_zero, List.setIfInBounds_toArray, List.set_cons_zero, List.set_cons_succ]
          clear hW hx
          refine L_two (i := 20) (j := 23) (by kernel_rfl) rfl rfl (by rfl) (by rfl) ?_ ?_
          · skip
            simp only [Act.put, List.getElem_toArray, List.getElem_cons_succ, List.getElem_cons_zero, List.setIfInBounds_toArray, List.set_cons_zero, List.set_cons_succ]
            refine wp_append_any _ (.tmp 57) (.tmp 60) 23 rfl w.heap.size 5 i0 _ 1 1 Try.underlying23 hi0 hz0 hz1 hz2 rfl (by omega) (.slice (some ⟨(w8.drew).heap.size, 0, none⟩) 0 0) 0 (u8s []) rfl hoE _ s.vw.M s.vw.row.length s.vw.cm (u8s s.vw.row) rfl (HSR.out _ hb1).vw.row.1 (oneCell_u8s _) (by simp only [maxLen]; omega) (by omega) (by have := hb1.size; omega) ?_
            intro v2 W2 hap hgr hav
            have hoD : Own W2 w.heap.size v2 s.vw.row.length s.vw.row := by have h7 := hap; rw [Nat.zero_add] at h7; simpa [Own, u8s] using h7
            obtain ⟨D2, c2, rfl⟩ := own_form hoD
            have hb2 : Below w8.heap.size w8 W2 := hb1.grown hgr hb1.size (fun k e => by simp [Value.ownBlock] at e; omega)
            refine ⟨HSB.out _ hb2, ?_⟩
            simp only [Act.put, List.getElem_toArray, List.getElem_cons_succ, List.getElem_cons_zero, List.setIfInBounds_toArray, List.set_cons_zero, List.set_cons_succ]
            refine L_one (j := 23) (by kernel_rfl) rfl (by rfl) ?_
            simp only [Act.put, List.getElem_toArray, List.getElem_cons_succ, List.getElem_cons_zero, List.setIfInBounds_toArray, List.set_cons_zero, List.set_cons_succ]
            obtain ⟨W3, hW⟩ : ∃ W', W' = World.alloc W2 (.cells #[] 9) := ⟨_, rfl⟩
            have hx : Below (W2).heap.size W2 W3 := by rw [hW]; exact below_alloc _ _
            have hb3 : Below w8.heap.size w8 W3 := hb2.trans (hx.mono hb2.size)
            have hg3 : w8.heap.size ≤ (W2).heap.size := hb2.size
            have hoD := Own.below hoD hx
            have hoZ : OwnS W3 w.heap.size (.slice (some ⟨(W2).heap.size, 0, none⟩) 0 0) [] := by rw [hW]; exact OwnS.new _ _ (by omega)
            refine wp_ran (v := .slice (some ⟨(W2).heap.size, 0, none⟩) 0 0) (w' := W3) (by rw [hW]; exact (by go_simp)) ⟨HSB.out _ hb3, ?_⟩
            simp only [Act.put, List.getElem_toArray, List.getElem_cons_succ, List.getElem_cons_zero, List.setIfInBounds_toArray, List.set_cons_zero, List.set_cons_succ]
            clear hW hx
            refine L_one (j := 26) (by kernel_rfl) rfl (by rfl) ?_
            simp only [Act.put, List.getElem_toArray, List.getElem_cons_succ, List.getElem_cons_zero, List.setIfInBounds_toArray, List.set_cons_zero, List.set_cons_succ]
            refine wp_append_any _ (.tmp 64) (.tmp 66) 64 rfl w.heap.size 9 i1 _ 1 16 Try.underlying64 hi1 hy0 hy1 hy2 rfl (by omega) (.slice (some ⟨(W2).heap.size, 0, none⟩) 0 0) 0 (strs []) rfl hoZ _ s.C s.ch.length s.cc (strs s.ch) rfl (HSR.out _ hb3).ch.1 (strs_one _) (by simp only [maxLen]; omega) (by omega) (by have := hb3.size; omega) ?_
            intro v4 W4 hap hgr hav
            have hoS : OwnS W4 w.heap.size v4 s.ch := by have h7 := hap; rw [Nat.zero_add] at h7; simpa [OwnS, strs] using h7
            obtain ⟨C4, d4, rfl⟩ := own_form hoS
            have hb4 : Below w8.heap.size w8 W4 := hb3.grown hgr hb3.size (fun k e => by simp [Value.ownBlock] at e; omega)
            have hoD : Own W4 w.heap.size _ s.vw.row.length s.vw.row := own_grow_ne hoD hoZ (by decide) hgr
            refine ⟨HSB.out _ hb4, ?_⟩
            simp only [Act.put, List.getElem_toArray, List.getElem_cons_succ, List.getElem_cons_zero, List.setIfInBounds_toArray, List.set_cons_zero, List.set_cons_succ]
            refine L_take (i := 27) (v := .agg #[.int .i64 s.num, .int .i64 s.vw.size, .string (strOf s.name), .bool s.vw.on, .bool s.vw.good, .bool s.prot, .slice D2 s.vw.row.length c2, .string (strOf s.vw.par), .int .i64 s.vw.ps, .int .i64 s.vw.ov, .slice C4 s.ch.length d4]) rfl rfl (by kernel_rfl) (by kernel_rfl) (by kernel_rfl) (by kernel_rfl) (fun _ _ _ h => h) (Or.inl ⟨by rfl, fun W hw => by kernel_rfl⟩) (HSB.out _ hb4) ?_
            simp only [Act.put, List.getElem_toArray, List.getElem_cons_succ, List.getElem_cons_zero, List.setIfInBounds_toArray, List.set_cons_zero, List.set_cons_succ]
            refine L_one (j := 28) (by kernel_rfl) rfl (by rfl) ?_
            simp only [Act.put, List.getElem_toArray, List.getElem_cons_succ, List.getElem_cons_zero, List.setIfInBounds_toArray, List.set_cons_zero, List.set_cons_succ]
            obtain ⟨W28, hW⟩ : ∃ W', W' = World.alloc W4 (.cells #[.int .i64 s.num, .int .i64 s.vw.size, .string (strOf s.name), .bool s.vw.on, .bool s.vw.good, .bool s.prot, .slice D2 s.vw.row.length c2, .string (strOf s.vw.par), .int .i64 s.vw.ps, .int .i64 s.vw.ov, .slice C4 s.ch.length d4] 66) := ⟨_, rfl⟩
            have hx : Below (W4).heap.size W4 W28 := by rw [hW]; exact below_alloc _ _
            have hb28 : Below w8.heap.size w8 W28 := hb4.trans (hx.mono hb4.size)
            have hone : Reads W28 ((W4).heap.size + 1) 11 (some ⟨(W4).heap.size, 0, none⟩) 1 ([(⟨s.num, s.name, s.prot, ⟨s.vw.size, s.vw.on, s.vw.good, s.vw.row, D2, c2, s.vw.par, s.vw.ps, s.vw.ov⟩, s.ch, C4, d4⟩ : SA)].flatMap SA.cells) := by
              rw [hW]
              have := Reads.newN (W4) (SA.cells ⟨s.num, s.name, s.prot, ⟨s.vw.size, s.vw.on, s.vw.good, s.vw.row, D2, c2, s.vw.par, s.vw.ps, s.vw.ov⟩, s.ch, C4, d4⟩) 1 11 66 (0, 0) rfl
              simpa [SA.cells] using this
            have hoD := Own.below hoD hx
            have hoS : OwnS W28 w.heap.size (.slice C4 s.ch.length d4) s.ch := own_below hoS hx
            have hP28 := HP8.out.next hb28
            refine wp_ran (v := .slice (some ⟨(W4).heap.size, 0, none⟩) 1 1) (w' := W28) (by rw [hW]; exact (by go_simp <;> rfl)) ⟨HSB.out _ hb28, ?_⟩
            simp only [Act.put, List.getElem_toArray, List.getElem_cons_succ, List.getElem_cons_zero, List.setIfInBounds_toArray, List.set_cons_zero, List.set_cons_succ]
            clear hW hx
            refine L_one (j := 29) (by kernel_rfl) rfl (by rfl) ?_
            simp only [Act.put, List.getElem_toArray, List.getElem_cons_succ, List.getElem_cons_zero, List.setIfInBounds_toArray, List.set_cons_zero, List.set_cons_succ]
            refine wp_append_any _ (.tmp 42) (.tmp 69) 32 rfl w.heap.size 66 i2 _ 11 120 Try.underlying32 hi2 hv0 hv1 hv2 rfl (by omega) (.slice q.S q.sn.length q.cs') q.sn.length (q.sn.flatMap SA.cells) rfl hP28.n.own _ (some ⟨(W4).heap.size, 0, none⟩) 1 1 _ rfl hone (by intro u hu; simp only [List.flatMap_cons, List.flatMap_nil, List.append_nil] at hu; exact SA.cells_one _ u hu) (by simp only [maxLen]; omega) (by omega) hP28.bel.size ?_
            intro v29 W29 h29 gr29 a29
            obtain ⟨A5, c5, rfl⟩ := own_form h29
            have K29 : Blk W29 g3 36 #[.int .i64 q.id, .int .i64 q.vw.size, .int .i64 q.obj, .int .i64 q.seq, .slice q.S q.sn.length q.cs', .bool q.vw.on, .bool q.vw.good, .slice q.vw.M q.vw.row.length q.vw.cm, .string (strOf q.vw.par), .int .i64 q.vw.ps, .int .i64 q.vw.ov, .int .i64 q.ow, .int .i64 q.it, .int .i64 q.tg] := hP28.blk.grown gr29 (fun e => own_blk_ne hP28.n.own hP28.blk (by decide) e.symm)
            have X29 : Blk W29 g5 74 #[.int .i64 s.num, .int .i64 s.vw.size, .string (strOf s.name), .bool s.prot, .bool s.vw.on, .bool s.vw.good, .slice s.vw.M s.vw.row.length s.vw.cm, .string (strOf s.vw.par), .int .i64 s.vw.ps, .int .i64 s.vw.ov, .slice s.C s.ch.length s.cc] := (HSB.out _ hb28).2.grown gr29 (fun e => own_blk_ne hP28.n.own (HSB.out _ hb28).2 (by decide) e.symm)
            refine ⟨⟨K29, X29⟩, ?_⟩
            simp only [Act.put, List.getElem_toArray, List.getElem_cons_succ, List.getElem_cons_zero, List.setIfInBounds_toArray, List.set_cons_zero, List.set_cons_succ]
            refine L_take (i := 30) (v := .pointer (some ⟨g3, 4, none⟩)) rfl rfl (by kernel_rfl) (by kernel_rfl) (by kernel_rfl) (by kernel_rfl) (fun _ _ _ h => h) (Or.inl ⟨by rfl, fun W hw => by go_simp⟩) ⟨K29, X29⟩ ?_
            simp only [Act.put, List.getElem_toArray, List.getElem_cons_succ, List.getElem_cons_zero, List.setIfInBounds_toArray, List.set_cons_zero, List.set_cons_succ]
            refine L_last (by kernel_rfl) rfl (by rfl) (by kernel_rfl) ?_
            simp only [Act.put, List.getElem_toArray, List.getElem_cons_succ, List.getElem_cons_zero, List.setIfInBounds_toArray, List.set_cons_zero, List.set_cons_succ]
            refine wp_setq 32 (.tmp 71) (.tmp 70) rfl g3 4 36 _ (.slice A5 (q.sn.length + 1) c5) rfl rfl K29 (by simp) (by kernel_rfl) rfl ?_
            intro W31 K31 o31 s31
            have HNEW : Hid (∃ q2, Pg w a g3 (k + 1) q2 W31) := Lib.hid ⟨_, pg_more hP28 hoD hoS HSS.out.1 HSS.out.2.1 HSS.out.2.2 h29 gr29 (by simpa using K31) o31⟩
            clear K31 o31 s31 K29 X29 h29 gr29 a29 hone hP28 hoD hoS
            refine NoPanic.normal ?_
            simp only [Act.put, List.getElem_toArray, List.getElem_cons_succ, List.getElem_cons_zero, List.setIfInBounds_toArray, List.set_cons_zero, List.set_cons_succ]
            go_wp2
            obtain ⟨q2, hq2⟩ := HNEW.out
            exact ⟨⟨k + 1, q2, by omega, by go_num, hq2⟩, by simp only [intOf]; omega⟩
          · skip
            simp only [Act.put, List.getElem_toArray, List.getElem_cons_succ, List.getElem_cons_zero, List.setIfInBounds_toArray, List.set_cons_zero, List.set_cons_succ]
            obtain ⟨W5, hW⟩ : ∃ W', W' = World.alloc W1 (.cells #[] 9) := ⟨_, rfl⟩
            have hx : Below (W1).heap.size W1 W5 := by rw [hW]; exact below_alloc _ _
            have hb5 : Below w8.heap.size w8 W5 := hb1.trans (hx.mono hb1.size)
            have hg5 : w8.heap.size ≤ (W1).heap.size := hb1.size
            have hoE := Own.below hoE hx
            have hoZ : OwnS W5 w.heap.size (.slice (some ⟨(W1).heap.size, 0, none⟩) 0 0) [] := by rw [hW]; exact OwnS.new _ _ (by omega)
            refine wp_ran (v := .slice (some ⟨(W1).heap.size, 0, none⟩) 0 0) (w' := W5) (by rw [hW]; exact (by go_simp)) ⟨HSB.out _ hb5, ?_⟩
            simp only [Act.put, List.getElem_toArray, List.getElem_cons_succ, List.getElem_cons_zero, List.setIfInBounds_toArray, List.set_cons_zero, List.set_cons_succ]
            clear hW hx
            refine L_one (j := 20) (by kernel_rfl) rfl (by rfl) ?_
            simp only [Act.put, List.getElem_toArray, List.getElem_cons_succ, List.getElem_cons_zero, List.setIfInBounds_toArray, List.set_cons_zero, List.set_cons_succ]
            refine wp_append_any _ (.tmp 57) (.tmp 60) 23 rfl w.heap.size 5 i0 _ 1 1 Try.underlying23 hi0 hz0 hz1 hz2 rfl (by omega) (.slice (some ⟨(w8.drew).heap.size, 0, none⟩) 0 0) 0 (u8s []) rfl hoE _ s.vw.M s.vw.row.length s.vw.cm (u8s s.vw.row) rfl (HSR.out _ hb5).vw.row.1 (oneCell_u8s _) (by simp only [maxLen]; omega) (by omega) (by have := hb5.size; omega) ?_
            intro v6 W6 hap hgr hav
            have hoD : Own W6 w.heap.size v6 s.vw.row.length s.vw.row := by have h7 := hap; rw [Nat.zero_add] at h7; simpa [Own, u8s] using h7
            obtain ⟨D6, c6, rfl⟩ := own_form hoD
            have hb6 : Below w8.heap.size w8 W6 := hb5.grown hgr hb5.size (fun k e => by simp [Value.ownBlock] at e; omega)
            have hoZ : OwnS W6 w.heap.size _ [] := own_grow_ne hoZ hoE (by decide) hgr
            refine ⟨HSB.out _ hb6, ?_⟩
            simp only [Act.put, List.getElem_toArray, List.getElem_cons_succ, List.getElem_cons_zero, List.setIfInBounds_toArray, List.set_cons_zero, List.set_cons_succ]
            refine L_one (j := 26) (by kernel_rfl) rfl (by rfl) ?_
            simp only [Act.put, List.getElem_toArray, List.getElem_cons_succ, List.getElem_cons_zero, List.setIfInBounds_toArray, List.set_cons_zero, List.set_cons_succ]
            refine wp_append_any _ (.tmp 64) (.tmp 66) 64 rfl w.heap.size 9 i1 _ 1 16 Try.underlying64 hi1 hy0 hy1 hy2 rfl (by omega) (.slice (some ⟨(W1).heap.size, 0, none⟩) 0 0) 0 (strs []) rfl hoZ _ s.C s.ch.length s.cc (strs s.ch) rfl (HSR.out _ hb6).ch.1 (strs_one _) (by simp only [maxLen]; omega) (by omega) (by have := hb6.size; omega) ?_
            intro v7 W7 hap hgr hav
            have hoS : OwnS W7 w.heap.size v7 s.ch := by have h7 := hap; rw [Nat.zero_add] at h7; simpa [OwnS, strs] using h7
            obtain ⟨C7, d7, rfl⟩ := own_form hoS
            have hb7 : Below w8.heap.size w8 W7 := hb6.grown hgr hb6.size (fun k e => by simp [Value.ownBlock] at e; omega)
            have hoD : Own W7 w.heap.size _ s.vw.row.length s.vw.row := own_grow_ne hoD hoZ (by decide) hgr
            refine ⟨HSB.out _ hb7, ?_⟩
            simp only [Act.put, List.getElem_toArray, List.getElem_cons_succ, List.getElem_cons_zero, List.setIfInBounds_toArray, List.set_cons_zero, List.set_cons_succ]
            refine L_take (i := 27) (v := .agg #[.int .i64 s.num, .int .i64 s.vw.size, .string (strOf s.name), .bool s.vw.on, .bool s.vw.good, .bool s.prot, .slice D6 s.vw.row.length c6, .string (strOf s.vw.par), .int .i64 s.vw.ps, .int .i64 s.vw.ov, .slice C7 s.ch.length d7]) rfl rfl (by kernel_rfl) (by kernel_rfl) (by kernel_rfl) (by kernel_rfl) (fun _ _ _ h => h) (Or.inl ⟨by rfl, fun W hw => by kernel_rfl⟩) (HSB.out _ hb7) ?_
            simp only [Act.put, List.getElem_toArray, List.getElem_cons_succ, List.getElem_cons_zero, List.setIfInBounds_toArray, List.set_cons_zero, List.set_cons_succ]
            refine L_one (j := 28) (by kernel_rfl) rfl (by rfl) ?_
            simp only [Act.put, List.getElem_toArray, List.getElem_cons_succ, List.getElem_cons_zero, List.setIfInBounds_toArray, List.set_cons_zero, List.set_cons_succ]
            obtain ⟨W28, hW⟩ : ∃ W', W' = World.alloc W7 (.cells #[.int .i64 s.num, .int .i64 s.vw.size, .string (strOf s.name), .bool s.vw.on, .bool s.vw.good, .bool s.prot, .slice D6 s.vw.row.length c6, .string (strOf s.vw.par), .int .i64 s.vw.ps, .int .i64 s.vw.ov, .slice C7 s.ch.length d7] 66) := ⟨_, rfl⟩
            have hx : Below (W7).heap.size W7 W28 := by rw [hW]; exact below_alloc _ _
            have hb28 : Below w8.heap.size w8 W28 := hb7.trans (hx.mono hb7.size)
            have hone : Reads W28 ((W7).heap.size + 1) 11 (some ⟨(W7).heap.size, 0, none⟩) 1 ([(⟨s.num, s.name, s.prot, ⟨s.vw.size, s.vw.on, s.vw.good, s.vw.row, D6, c6, s.vw.par, s.vw.ps, s.vw.ov⟩, s.ch, C7, d7⟩ : SA)].flatMap SA.cells) := by
              rw [hW]
              have := Reads.newN (W7) (SA.cells ⟨s.num, s.name, s.prot, ⟨s.vw.size, s.vw.on, s.vw.good, s.vw.row, D6, c6, s.vw.par, s.vw.ps, s.vw.ov⟩, s.ch, C7, d7⟩) 1 11 66 (0, 0) rfl
              simpa [SA.cells] using this
            have hoD := Own.below hoD hx
            have hoS : OwnS W28 w.heap.size (.slice C7 s.ch.length d7) s.ch := own_below hoS hx
            have hP28 := HP8.out.next hb28
            refine wp_ran (v := .slice (some ⟨(W7).heap.size, 0, none⟩) 1 1) (w' := W28) (by rw [hW]; exact (by go_simp <;> rfl)) ⟨HSB.out _ hb28, ?_⟩
            simp only [Act.put, List.getElem_toArray, List.getElem_cons_succ, List.getElem_cons_zero, List.setIfInBounds_toArray, List.set_cons_zero, List.set_cons_succ]
            clear hW hx
            refine L_one (j := 29) (by kernel_rfl) rfl (by rfl) ?_
            simp only [Act.put, List.getElem_toArray, List.getElem_cons_succ, List.getElem_cons_zero, List.setIfInBounds_toArray, List.set_cons_zero, List.set_cons_succ]
            refine wp_append_any _ (.tmp 42) (.tmp 69) 32 rfl w.heap.size 66 i2 _ 11 120 Try.underlying32 hi2 hv0 hv1 hv2 rfl (by omega) (.slice q.S q.sn.length q.cs') q.sn.length (q.sn.flatMap SA.cells) rfl hP28.n.own _ (some ⟨(W7).heap.size, 0, none⟩) 1 1 _ rfl hone (by intro u hu; simp only [List.flatMap_cons, List.flatMap_nil, List.append_nil] at hu; exact SA.cells_one _ u hu) (by simp only [maxLen]; omega) (by omega) hP28.bel.size ?_
            intro v29 W29 h29 gr29 a29
            obtain ⟨A5, c5, rfl⟩ := own_form h29
            have K29 : Blk W29 g3 36 #[.int .i64 q.id, .int .i64 q.vw.size, .int .i64 q.obj, .int .i64 q.seq, .slice q.S q.sn.length q.cs', .bool q.vw.on, .bool q.vw.good, .slice q.vw.M q.vw.row.length q.vw.cm, .string (strOf q.vw.par), .int .i64 q.vw.ps, .int .i64 q.vw.ov, .int .i64 q.ow, .int .i64 q.it, .int .i64 q.tg] := hP28.blk.grown gr29 (fun e => own_blk_ne hP28.n.own hP28.blk (by decide) e.symm)
            have X29 : Blk W29 g5 74 #[.int .i64 s.num, .int .i64 s.vw.size, .string (strOf s.name), .bool s.prot, .bool s.vw.on, .bool s.vw.good, .slice s.vw.M s.vw.row.length s.vw.cm, .string (strOf s.vw.par), .int .i64 s.vw.ps, .int .i64 s.vw.ov, .slice s.C s.ch.length s.cc] := (HSB.out _ hb28).2.grown gr29 (fun e => own_blk_ne hP28.n.own (HSB.out _ hb28).2 (by decide) e.symm)
            refine ⟨⟨K29, X29⟩, ?_⟩
            simp only [Act.put, List.getElem_toArray, List.getElem_cons_succ, List.getElem_cons_zero, List.setIfInBounds_toArray, List.set_cons_zero, List.set_cons_succ]
            refine L_take (i := 30) (v := .pointer (some ⟨g3, 4, none⟩)) rfl rfl (by kernel_rfl) (by kernel_rfl) (by kernel_rfl) (by kernel_rfl) (fun _ _ _ h => h) (Or.inl ⟨by rfl, fun W hw => by go_simp⟩) ⟨K29, X29⟩ ?_
            simp only [Act.put, List.getElem_toArray, List.getElem_cons_succ, List.getElem_cons_zero, List.setIfInBounds_toArray, List.set_cons_zero, List.set_cons_succ]
            refine L_last (by kernel_rfl) rfl (by rfl) (by kernel_rfl) ?_
            simp only [Act.put, List.getElem_toArray, List.getElem_cons_succ, List.getElem_cons_zero, List.setIfInBounds_toArray, List.set_cons_zero, List.set_cons_succ]
            refine wp_setq 32 (.tmp 71) (.tmp 70) rfl g3 4 36 _ (.slice A5 (q.sn.length + 1) c5) rfl rfl K29 (by simp) (by kernel_rfl) rfl ?_
            intro W31 K31 o31 s31
            have HNEW : Hid (∃ q2, Pg w a g3 (k + 1) q2 W31) := Lib.hid ⟨_, pg_more hP28 hoD hoS HSS.out.1 HSS.out.2.1 HSS.out.2.2 h29 gr29 (by simpa using K31) o31⟩
            clear K31 o31 s31 K29 X29 h29 gr29 a29 hone hP28 hoD hoS
            refine NoPanic.normal ?_
            simp only [Act.put, List.getElem_toArray, List.getElem_cons_succ, List.getElem_cons_zero, List.setIfInBounds_toArray, List.set_cons_zero, List.set_cons_succ]
            go_wp2
            obtain ⟨q2, hq2⟩ := HNEW.out
            exact ⟨⟨k + 1, q2, by omega, by go_num, hq2⟩, by simp only [intOf]; omega⟩
        · skip
          simp only [Act.put, List.getElem_toArray, List.getElem_cons_succ, List.getElem_cons_zero, List.setIfInBounds_toArray, List.set_cons_zero, List.set_cons_succ]
          obtain ⟨W8, hW⟩ : ∃ W', W' = World.alloc w8.drew (.cells #[] 9) := ⟨_, rfl⟩
          have hx : Below (w8.drew).heap.size w8.drew W8 := by rw [hW]; exact below_alloc _ _
          have hb8 : Below w8.heap.size w8 W8 := hS.trans (hx.mono hS.size)
          have hg8 : w8.heap.size ≤ (w8.drew).heap.size := hS.size
          have hoZ : OwnS W8 w.heap.size (.slice (some ⟨(w8.drew).heap.size, 0, none⟩) 0 0) [] := by rw [hW]; exact OwnS.new _ _ (by omega)
          refine wp_ran (v := .slice (some ⟨(w8.drew).heap.size, 0, none⟩) 0 0) (w' := W8) (by rw [hW]; exact (by go_simp)) ⟨HSB.out _ hb8, ?_⟩
          simp only [Act.put, List.getElem_toArray, List.getElem_cons_succ, List.getElem_cons_zero, List.setIfInBounds_toArray, List.set_cons_zero, List.set_cons_succ]
          clear hW hx
          refine L_one (j := 16) (by kernel_rfl) rfl (by rfl) ?_
          simp only [Act.put, List.getElem_toArray, List.getElem_cons_succ, List.getElem_cons_zero, List.setIfInBounds_toArray, List.set_cons_zero, List.set_cons_succ]
          obtain ⟨W9, hW⟩ : ∃ W', W' = World.alloc W8 (.cells #[] 5) := ⟨_, rfl⟩
          have hx : Below (W8).heap.size W8 W9 := by rw [hW]; exact below_alloc _ _
          have hb9 : Below w8.heap.size w8 W9 := hb8.trans (hx.mono hb8.size)
          have hg9 : w8.heap.size ≤ (W8).heap.size := hb8.size
          have hoZ : OwnS W9 w.heap.size _ [] := own_below hoZ hx
          have hoE : Own W9 w.heap.size (.slice (some ⟨(W8).heap.size, 0, none⟩) 0 0) 0 [] := by rw [hW]; exact Own.new _ _ (by omega)
          refine wp_ran (v := .slice (some ⟨(W8).heap.size, 0, none⟩) 0 0) (w' := W9) (by rw [hW]; exact (by go_simp)) ⟨HSB.out _ hb9, ?_⟩
          simp only [Act.put, List.getElem_toArray, List.getElem_cons_succ, List.getElem_cons_zero, List.setIfInBounds_toArray, List.set_cons_zero, List.set_cons_succ]
          clear hW hx
          refine L_one (j := 20) (by kernel_rfl) rfl (by rfl) ?_
          simp only [Act.put, List.getElem_toArray, List.getElem_cons_succ, List.getElem_cons_zero, List.setIfInBounds_toArray, List.set_cons_zero, List.set_cons_succ]
          refine wp_append_any _ (.tmp 57) (.tmp 60) 23 rfl w.heap.size 5 i0 _ 1 1 Try.underlying23 hi0 hz0 hz1 hz2 rfl (by omega) (.slice (some ⟨(W8).heap.size, 0, none⟩) 0 0) 0 (u8s []) rfl hoE _ s.vw.M s.vw.row.length s.vw.cm (u8s s.vw.row) rfl (HSR.out _ hb9).vw.row.1 (oneCell_u8s _) (by simp only [maxLen]; omega) (by omega) (by have := hb9.size; omega) ?_
          intro v10 W10 hap hgr hav
          have hoD : Own W10 w.heap.size v10 s.vw.row.length s.vw.row := by have h7 := hap; rw [Nat.zero_add] at h7; simpa [Own, u8s] using h7
          obtain ⟨D10, c10, rfl⟩ := own_form hoD
          have hb10 : Below w8.heap.size w8 W10 := hb9.grown hgr hb9.size (fun k e => by simp [Value.ownBlock] at e; omega)
          have hoZ : OwnS W10 w.heap.size _ [] := own_grow_ne hoZ hoE (by decide) hgr
          refine ⟨HSB.out _ hb10, ?_⟩
          simp only [Act.put, List.getElem_toArray, List.getElem_cons_succ, List.getElem_cons_zero, List.setIfInBounds_toArray, List.set_cons_zero, List.set_cons_succ]
          refine L_one (j := 26) (by kernel_rfl) rfl (by rfl) ?_
          simp only [Act.put, List.getElem_toArray, List.getElem_cons_succ, List.getElem_cons_zero, List.setIfInBounds_toArray, List.set_cons_zero, List.set_cons_succ]
          refine wp_append_any _ (.tmp 64) (.tmp 66) 64 rfl w.heap.size 9 i1 _ 1 16 Try.underlying64 hi1 hy0 hy1 hy2 rfl (by omega) (.slice (some ⟨(w8.drew).heap.size, 0, none⟩) 0 0) 0 (strs []) rfl hoZ _ s.C s.ch.length s.cc (strs s.ch) rfl (HSR.out _ hb10).ch.1 (strs_one _) (by simp only [maxLen]; omega) (by omega) (by have := hb10.size; omega) ?_
          intro v11 W11 hap hgr hav
          have hoS : OwnS W11 w.heap.size v11 s.ch := by have h7 := hap; rw [Nat.zero_add] at h7; simpa [OwnS, strs] using h7
          obtain ⟨C11, d11, rfl⟩ := own_form hoS
          have hb11 : Below w8.heap.size w8 W11 := hb10.grown hgr hb10.size (fun k e => by simp [Value.ownBlock] at e; omega)
          have hoD : Own W11 w.heap.size _ s.vw.row.length s.vw.row := own_grow_ne hoD hoZ (by decide) hgr
          refine ⟨HSB.out _ hb11, ?_⟩
          simp only [Act.put, List.getElem_toArray, List.getElem_cons_succ, List.getElem_cons_zero, List.setIfInBounds_toArray, List.set_cons_zero, List.set_cons_succ]
          refine L_take (i := 27) (v := .agg #[.int .i64 s.num, .int .i64 s.vw.size, .string (strOf s.name), .bool s.vw.on, .bool s.vw.good, .bool s.prot, .slice D10 s.vw.row.length c10, .string (strOf s.vw.par), .int .i64 s.vw.ps, .int .i64 s.vw.ov, .slice C11 s.ch.length d11]) rfl rfl (by kernel_rfl) (by kernel_rfl) (by kernel_rfl) (by kernel_rfl) (fun _ _ _ h => h) (Or.inl ⟨by rfl, fun W hw => by kernel_rfl⟩) (HSB.out _ hb11) ?_
          simp only [Act.put, List.getElem_toArray, List.getElem_cons_succ, List.getElem_cons_zero, List.setIfInBounds_toArray, List.set_cons_zero, List.set_cons_succ]
          refine L_one (j := 28) (by kernel_rfl) rfl (by rfl) ?_
          simp only [Act.put, List.getElem_toArray, List.getElem_cons_succ, List.getElem_cons_zero, List.setIfInBounds_toArray, List.set_cons_zero, List.set_cons_succ]
          obtain ⟨W28, hW⟩ : ∃ W', W' = World.alloc W11 (.cells #[.int .i64 s.num, .int .i64 s.vw.size, .string (strOf s.name), .bool s.vw.on, .bool s.vw.good, .bool s.prot, .slice D10 s.vw.row.length c10, .string (strOf s.vw.par), .int .i64 s.vw.ps, .int .i64 s.vw.ov, .slice C11 s.ch.length d11] 66) := ⟨_, rfl⟩
          have hx : Below (W11).heap.size W11 W28 := by rw [hW]; exact below_alloc _ _
          have hb28 : Below w8.heap.size w8 W28 := hb11.trans (hx.mono hb11.size)
          have hone : Reads W28 ((W11).heap.size + 1) 11 (some ⟨(W11).heap.size, 0, none⟩) 1 ([(⟨s.num, s.name, s.prot, ⟨s.vw.size, s.vw.on, s.vw.good, s.vw.row, D10, c10, s.vw.par, s.vw.ps, s.vw.ov⟩, s.ch, C11, d11⟩ : SA)].flatMap SA.cells) := by
            rw [hW]
            have := Reads.newN (W11) (SA.cells ⟨s.num, s.name, s.prot, ⟨s.vw.size, s.vw.on, s.vw.good, s.vw.row, D10, c10, s.vw.par, s.vw.ps, s.vw.ov⟩, s.ch, C11, d11⟩) 1 11 66 (0, 0) rfl
            simpa [SA.cells] using this
          have hoD := Own.below hoD hx
          have hoS : OwnS W28 w.heap.size (.slice C11 s.ch.length d11) s.ch := own_below hoS hx
          have hP28 := HP8.out.next hb28
          refine wp_ran (v := .slice (some ⟨(W11).heap.size, 0, none⟩) 1 1) (w' := W28) (by rw [hW]; exact (by go_simp <;> rfl)) ⟨HSB.out _ hb28, ?_⟩
          simp only [Act.put, List.getElem_toArray, List.getElem_cons_succ, List.getElem_cons_zero, List.setIfInBounds_toArray, List.set_cons_zero, List.set_cons_succ]
          clear hW hx
          refine L_one (j := 29) (by kernel_rfl) rfl (by rfl) ?_
          simp only [Act.put, List.getElem_toArray, List.getElem_cons_succ, List.getElem_cons_zero, List.setIfInBounds_toArray, List.set_cons_zero, List.set_cons_succ]
          refine wp_append_any _ (.tmp 42) (.tmp 69) 32 rfl w.heap.size 66 i2 _ 11 120 Try.underlying32 hi2 hv0 hv1 hv2 rfl (by omega) (.slice q.S q.sn.length q.cs') q.sn.length (q.sn.flatMap SA.cells) rfl hP28.n.own _ (some ⟨(W11).heap.size, 0, none⟩) 1 1 _ rfl hone (by intro u hu; simp only [List.flatMap_cons, List.flatMap_nil, List.append_nil] at hu; exact SA.cells_one _ u hu) (by simp only [maxLen]; omega) (by omega) hP28.bel.size ?_
          intro v29 W29 h29 gr29 a29
          obtain ⟨A5, c5, rfl⟩ := own_form h29
          have K29 : Blk W29 g3 36 #[.int .i64 q.id, .int .i64 q.vw.size, .int .i64 q.obj, .int .i64 q.seq, .slice q.S q.sn.length q.cs', .bool q.vw.on, .bool q.vw.good, .slice q.vw.M q.vw.row.length q.vw.cm, .string (strOf q.vw.par), .int .i64 q.vw.ps, .int .i64 q.vw.ov, .int .i64 q.ow, .int .i64 q.it, .int .i64 q.tg] := hP28.blk.grown gr29 (fun e => own_blk_ne hP28.n.own hP28.blk (by decide) e.symm)
          have X29 : Blk W29 g5 74 #[.int .i64 s.num, .int .i64 s.vw.size, .string (strOf s.name), .bool s.prot, .bool s.vw.on, .bool s.vw.good, .slice s.vw.M s.vw.row.length s.vw.cm, .string (strOf s.vw.par), .int .i64 s.vw.ps, .int .i64 s.vw.ov, .slice s.C s.ch.length s.cc] := (HSB.out _ hb28).2.grown gr29 (fun e => own_blk_ne hP28.n.own (HSB.out _ hb28).2 (by decide) e.symm)
          refine ⟨⟨K29, X29⟩, ?_⟩
          simp only [Act.put, List.getElem_toArray, List.getElem_cons_succ, List.getElem_cons_zero, List.setIfInBounds_toArray, List.set_cons_zero, List.set_cons_succ]
          refine L_take (i := 30) (v := .pointer (some ⟨g3, 4, none⟩)) rfl rfl (by kernel_rfl) (by kernel_rfl) (by kernel_rfl) (by kernel_rfl) (fun _ _ _ h => h) (Or.inl ⟨by rfl, fun W hw => by go_simp⟩) ⟨K29, X29⟩ ?_
          simp only [Act.put, List.getElem_toArray, List.getElem_cons_succ, List.getElem_cons_zero, List.setIfInBounds_toArray, List.set_cons_zero, List.set_cons_succ]
          refine L_last (by kernel_rfl) rfl (by rfl) (by kernel_rfl) ?_
          simp only [Act.put, List.getElem_toArray, List.getElem_cons_succ, List.getElem_cons_zero, List.setIfInBounds_toArray, List.set_cons_zero, List.set_cons_succ]
          refine wp_setq 32 (.tmp 71) (.tmp 70) rfl g3 4 36 _ (.slice A5 (q.sn.length + 1) c5) rfl rfl K29 (by simp) (by kernel_rfl) rfl ?_
          intro W31 K31 o31 s31
          have HNEW : Hid (∃ q2, Pg w a g3 (k + 1) q2 W31) := Lib.hid ⟨_, pg_more hP28 hoD hoS HSS.out.1 HSS.out.2.1 HSS.out.2.2 h29 gr29 (by simpa using K31) o31⟩
          clear K31 o31 s31 K29 X29 h29 gr29 a29 hone hP28 hoD hoS
          refine NoPanic.normal ?_
          simp only [Act.put, List.getElem_toArray, List.getElem_cons_succ, List.getElem_cons_zero, List.setIfInBounds_toArray, List.set_cons_zero, List.set_cons_succ]
          go_wp2
          obtain ⟨q2, hq2⟩ := HNEW.out
          exact ⟨⟨k + 1, q2, by omega, by go_num, hq2⟩, by simp only [intOf]; omega⟩
      · obtain rfl : k = a.sn.length := by omega
        have K3 := HP.out.blk
        have Q2 := HP.out.res
        go_wp2_with (first
          | (have _h := K3; refine wpList_loadq rfl 36 (.tmp 3) rfl g3 [.int .i64 q.id, .int .i64 q.vw.size, .int .i64 q.obj, .int .i64 q.seq, .slice q.S q.sn.length q.cs', .bool q.vw.on, .bool q.vw.good, .slice q.vw.M q.vw.row.length q.vw.cm, .string (strOf q.vw.par), .int .i64 q.vw.ps, .int .i64 q.vw.ov, .int .i64 q.ow, .int .i64 q.it, .int .i64 q.tg] _ rfl K3 Try.underlying36 rfl (by kernel_rfl) ?_; clear _h K3)
          | (have _h := Q2; refine wpList_storeq rfl 36 (.tmp 2) (.tmp 73) rfl (w.heap.size + 1) _ [.int .i64 q.id, .int .i64 q.vw.size, .int .i64 q.obj, .int .i64 q.seq, .slice q.S q.sn.length q.cs', .bool q.vw.on, .bool q.vw.good, .slice q.vw.M q.vw.row.length q.vw.cm, .string (strOf q.vw.par), .int .i64 q.vw.ps, .int .i64 q.vw.ov, .int .i64 q.ow, .int .i64 q.it, .int .i64 q.tg] rfl rfl Q2 (by simp) (by kernel_rfl) (one14 _ _ _ _ _ _ _ _ _ _ _ _ _ _ _ _ _ _) ?_; clear _h Q2; intro w9 K9 o9 s9))
        refine bodyPost_ret (results_cell_row rfl _ _ (w.heap.size + 1) 36 _ (0, 0) _ rfl K9 Try.underlying36 rfl (by kernel_rfl)) rfl ?_
        have hp := HP.out
        refine ⟨q, rfl, ?_, hp.n.stay hp.res o9, hp.bel.trans (o9.below (fun x hx => by simp at hx; omega) hp.bel.size)⟩
        obtain ⟨e1, e2, e3, e4, e5, e6, e7, e8, e9⟩ := hp.eq
        have e10 := hp.vs
        rw [List.take_of_length_le (Nat.le_refl _)] at e10
        unfold HA.v
        rw [e1, e2, e3, e4, e5, e6, e7, e8, e9, e10]
end Go.Proofs.Ytiimanoloedbeaa

/-
  The walk of what RulesUndo says: for every head that reads as the document's, every client and all names. No condition beyond that.
-/
namespace Go.Proofs.Ytiimanoloedbeaa
open Go.RowKit Go.BigFrame
set_option linter.unusedSimpArgs false
set_option linter.unusedVariables false
set_option maxRecDepth 100000
theorem rsm_lm {q a : HA} (e : q.v = a.v) (h : a.Lm) : q.Sm := by
  have e1 : q.vw.row = a.vw.row := congrArg (fun v => v.mx.row) e
  have e2 : q.vw.par = a.vw.par := congrArg (fun v => v.lk.par) e
  have e3 : q.sn.map SA.v = a.sn.map SA.v := congrArg HdV.sn e
  have e4 : q.sn.length = a.sn.length := by have := congrArg List.length e3; simpa using this
  refine ⟨⟨by rw [e1]; exact Nat.le_trans h.row (by omega), by rw [e2]; exact Nat.le_trans h.par (by omega)⟩, by have := h.cn; omega, fun s hs => ?_⟩
  have hm : s.v ∈ a.sn.map SA.v := e3 ▸ List.mem_map.2 ⟨s, hs, rfl⟩
  obtain ⟨t, ht, et⟩ := List.mem_map.1 hm
  have l := h.sn t ht
  have f1 : t.vw.row = s.vw.row := congrArg (fun v => v.mx.row) et
  have f2 : t.vw.par = s.vw.par := congrArg (fun v => v.lk.par) et
  have f3 : t.name = s.name := congrArg SnV.name et
  have f4 : t.ch = s.ch := congrArg SnV.ch et
  exact ⟨⟨by rw [← f1]; exact Nat.le_trans l.row (by omega), by rw [← f2]; exact Nat.le_trans l.par (by omega)⟩, by rw [← f3]; exact Nat.le_trans l.name (by omega), by rw [← f4]; exact Nat.le_trans l.ch (by omega), fun c hc => Nat.le_trans (l.cl c (by rw [f4]; exact hc)) (by omega)⟩
theorem rfew_lm {q a : HA} (e : q.v = a.v) (h : a.Lm) : Few 50 q.v := by
  rw [e]
  intro s hs
  obtain ⟨t, ht, rfl⟩ := List.mem_map.1 hs
  exact (h.sn t ht).ch
end Go.Proofs.Ytiimanoloedbeaa

/-
  The walk of RulesGood: for every head and script that read as they are said to. No condition beyond that.
-/
namespace Go.Proofs.Ytiimanoloedbeaa
open Go.RowKit Go.BigFrame
set_option linter.unusedSimpArgs false
set_option linter.unusedVariables false
set_option maxRecDepth 100000
/-- a head in a variable that no store to the variable spoils -/
def Rob (w : World) (g : Nat) (q : HA) : Prop := ∀ w2, Only [g] w w2 → q.R SA.cells w2
theorem Rob.below {w w' : World} {g : Nat} {q : HA} (h : Rob w g q) (b : Below w.heap.size w w') : Rob w' g q := fun w2 o => h w2 ((Only.of_below b _).trans o (fun x hx => .inl hx))
theorem Rob.only {w w' : World} {g : Nat} {q : HA} (h : Rob w g q) (o1 : Only [g] w w') : Rob w' g q := fun w2 o => h w2 (o1.trans o (fun x hx => .inl hx))
theorem rob_of {w : World} {g base : Nat} {q : HA} {cs : Array Value} (hN : q.N w base []) (k : Blk w g 36 cs) : Rob w g q := fun w2 o => (hN.stay k o).R
theorem ca_at {w : World} {B : Nat} {A : Option Addr} {l : List CA} (h : Reads w B 8 A l.length (l.flatMap CA.cells)) {k : Nat} {s : CA} (hk : l[k]? = some s) : ∃ ad, A = some ad ∧ ad.block < B ∧ ∀ j v, s.cells[j]? = some v → w.cell? ((ad.add (k * 8)).add j) = some v := by
  have hl := (List.getElem?_eq_some_iff.1 hk).1
  obtain ⟨ad, e, hb, hc⟩ := h.2 (by omega)
  refine ⟨ad, e, hb, fun j v hj => ?_⟩
  rw [add_of_add]
  have hj2 : j < 8 := by have := (List.getElem?_eq_some_iff.1 hj).1; rwa [CA.cells_len] at this
  exact hc _ v (by rw [flat_at CA.cells 8 CA.cells_len l k j s hk hj2]; exact hj)
def WideTo (w : World) (x : CA) (e : Ending) (w' : World) : Prop := ∃ b, e = .returned (.bool b) ∧ Below w.heap.size w w' ∧ (b = false → x.Sm)
set_option maxHeartbeats 8000000 in
theorem wide_any (x : CA) (w : World) (hx : x.R w) : Calls Try.prog 28 #[.agg x.cells.toArray] w (WideTo w x) := by
  obtain ⟨W1, hW1⟩ : ∃ W, W = w.alloc (.cells #[.int .i64 x.kind, .int .i64 x.n, .int .i64 x.m, .string (strOf x.name), .string (strOf x.child), .slice x.A x.row.length x.cm, .bool x.on, .bool x.good] 59) := ⟨_, rfl⟩
  have HB : Hid (Below w.heap.size w W1) := Lib.hid (by rw [hW1]; exact below_alloc w _)
  have k1 : Blk W1 w.heap.size 59 #[.int .i64 x.kind, .int .i64 x.n, .int .i64 x.m, .string (strOf x.name), .string (strOf x.child), .slice x.A x.row.length x.cm, .bool x.on, .bool x.good] := by rw [hW1]; exact Blk.new w _ _
  have hps1 := strOf_size x.name
  have hps2 := strOf_size x.child
  have q0 : W1.cell? ⟨w.heap.size, 0, none⟩ = some (.int .i64 x.kind) := k1.cell 0
  have q3 : W1.cell? ⟨w.heap.size, 3, none⟩ = some (.string (strOf x.name)) := k1.cell 3
  have q4 : W1.cell? ⟨w.heap.size, 4, none⟩ = some (.string (strOf x.child)) := k1.cell 4
  have q5 : W1.cell? ⟨w.heap.size, 5, none⟩ = some (.slice x.A x.row.length x.cm) := k1.cell 5
  have HW1 := Lib.hid hW1
  clear k1 hW1 hx
  show Calls Try.prog 28 #[.agg #[.int .i64 x.kind, .int .i64 x.n, .int .i64 x.m, .string (strOf x.name), .string (strOf x.child), .slice x.A x.row.length x.cm, .bool x.on, .bool x.good]] w (WideTo w x)
  go_enter Try.func28, Try.ntmps28
  go_upto_region 1 with (fail)
  rw [← HW1.out]
  clear HW1
  by_cases c1 : 100 < x.name.length
  · have d1 : decide (100 < (x.name.length : Int)) = true := decide_eq_true (by omega)
    go_wp2
    go_ret
    exact ⟨_, rfl, HB.out, fun h => by cases h⟩
  have d1 : decide (100 < (x.name.length : Int)) = false := decide_eq_false (by omega)
  by_cases c2 : 100 < x.child.length
  · have d2 : decide (100 < (x.child.length : Int)) = true := decide_eq_true (by omega)
    go_wp2
    go_ret
    exact ⟨_, rfl, HB.out, fun h => by cases h⟩
  have d2 : decide (100 < (x.child.length : Int)) = false := decide_eq_false (by omega)
  by_cases c3 : 500 < x.row.length
  · have d3 : decide (500 < (x.row.length : Int)) = true := decide_eq_true (by omega)
    go_wp2
    go_ret
    exact ⟨_, rfl, HB.out, fun h => by cases h⟩
  have d3 : decide (500 < (x.row.length : Int)) = false := decide_eq_false (by omega)
  by_cases c4 : x.kind < 1
  · have d4 : decide (x.kind < 1) = true := decide_eq_true c4
    go_wp2
    go_ret
    exact ⟨_, rfl, HB.out, fun h => by cases h⟩
  have d4 : decide (x.kind < 1) = false := decide_eq_false c4
  by_cases c5 : 15 < x.kind
  · have d5 : decide (15 < x.kind) = true := decide_eq_true c5
    go_wp2
    go_ret
    exact ⟨_, rfl, HB.out, fun h => by first | cases h | (rw [d5] at h; cases h)⟩
  have d5 : decide (15 < x.kind) = false := decide_eq_false c5
  have HS : Hid x.Sm := Lib.hid ⟨by omega, by omega, by omega, by omega, by omega⟩
  clear c1 c2 c3 c4 c5
  go_wp2
  go_ret
  exact ⟨_, rfl, HB.out, fun _ => HS.out⟩
set_option maxHeartbeats 32000000 in
theorem rulesGood_walk (a : HA) (w : World) (hR : a.R SA.dcells w) (A0 : Option Addr) (c : Nat) (l : List CA) (hlc : l.length ≤ c) (hcm : c ≤ 9223372036854775807) (hr : Reads w w.heap.size 8 A0 l.length (l.flatMap CA.cells)) (hxs : ∀ x ∈ l, x.R w) :
    Calls Try.prog 5 #[.agg a.cs, .slice A0 l.length c] w fun e w' => e = .returned (.bool true) ∧ Below w.heap.size w w' := by
  obtain ⟨w0, hw0⟩ : ∃ w0, w0 = w.alloc (.cells a.cs 29) := ⟨_, rfl⟩
  have b0 : Below w.heap.size w w0 := by rw [hw0]; exact below_alloc w _
  have B0 := Lib.hid b0
  have HB1 : Hid (∀ W, Below w0.heap.size w0 W → Blk W w.heap.size 29 #[.int .i64 a.id, .int .i64 a.vw.size, .int .i64 a.obj, .int .i64 a.seq, .slice a.S a.sn.length a.cs', .bool a.vw.on, .bool a.vw.good, .slice a.vw.M a.vw.row.length a.vw.cm, .string (strOf a.vw.par), .int .i64 a.vw.ps, .int .i64 a.vw.ov, .int .i64 a.ow, .int .i64 a.it, .int .i64 a.tg]) := Lib.hid fun W hW => by
    have k8 : Blk w0 w.heap.size 29 a.cs := by rw [hw0]; exact Blk.new w _ _
    exact k8.of (hW.block _ k8.lt)
  have HLG : Hid (∀ W, Below w0.heap.size w0 W → Calls Try.prog 26 #[.agg #[.int .i64 a.id, .int .i64 a.vw.size, .int .i64 a.obj, .int .i64 a.seq, .slice a.S a.sn.length a.cs', .bool a.vw.on, .bool a.vw.good, .slice a.vw.M a.vw.row.length a.vw.cm, .string (strOf a.vw.par), .int .i64 a.vw.ps, .int .i64 a.vw.ov, .int .i64 a.ow, .int .i64 a.it, .int .i64 a.tg]] W (LargeTo W a)) := Lib.hid fun W hW => rlarge_any a W ((hR.since b0).since hW)
  have HPR : Hid (∀ W, Below w0.heap.size w0 W → a.Lm → Calls Try.prog 27 #[.agg #[.int .i64 a.id, .int .i64 a.vw.size, .int .i64 a.obj, .int .i64 a.seq, .slice a.S a.sn.length a.cs', .bool a.vw.on, .bool a.vw.good, .slice a.vw.M a.vw.row.length a.vw.cm, .string (strOf a.vw.par), .int .i64 a.vw.ps, .int .i64 a.vw.ov, .int .i64 a.ow, .int .i64 a.it, .int .i64 a.tg]] W (ProgTo W a)) := Lib.hid fun W hW hl => rprogram_any a W ((hR.since b0).since hW) hl
  obtain ⟨n, hn⟩ : ∃ n, n = l.length := ⟨_, rfl⟩
  rw [← hn] at hlc hr ⊢
  have HL : Hid (n = l.length ∧ n ≤ c ∧ c ≤ 9223372036854775807 ∧ Reads w w.heap.size 8 A0 n (l.flatMap CA.cells) ∧ ∀ x ∈ l, x.R w) := Lib.hid ⟨hn, hlc, hcm, hr, hxs⟩
  have HW0 := Lib.hid hw0
  have hz := head_zero
  clear hR b0 hw0 hn hlc hcm hr hxs
  unfold HA.cs at *
  go_enter Try.func5, Try.ntmps5
  go_wp2_with fail
  rw [← HW0.out]
  clear HW0
  refine (ralive_any w0).mono ?_
  rintro e W1 ⟨rfl, b1⟩
  have K1 := HB1.out _ b1
  have H1 := Lib.hid b1
  clear b1
  go_wp2_with (have _h := K1; refine wpList_loadq rfl 29 (.tmp 2) rfl (w.heap.size) [.int .i64 a.id, .int .i64 a.vw.size, .int .i64 a.obj, .int .i64 a.seq, .slice a.S a.sn.length a.cs', .bool a.vw.on, .bool a.vw.good, .slice a.vw.M a.vw.row.length a.vw.cm, .string (strOf a.vw.par), .int .i64 a.vw.ps, .int .i64 a.vw.ov, .int .i64 a.ow, .int .i64 a.it, .int .i64 a.tg] _ rfl K1 Try.underlying29 rfl (by kernel_rfl) ?_; clear _h K1)
  refine (HLG.out _ H1.out).mono ?_
  rintro e W2 ⟨bl, rfl, b2, hlm⟩
  have H2 := Lib.hid (H1.out.trans (b2.mono H1.out.size))
  have HEND : Hid (Below w.heap.size w W2) := Lib.hid (B0.out.trans (H2.out.mono B0.out.size))
  clear b2 H1
  cases bl with
  | true =>
    clear hlm
    go_wp2
    go_ret
    exact ⟨rfl, HEND.out⟩
  | false =>
  have HLM := Lib.hid (hlm rfl)
  clear hlm
  by_cases c1 : 30 < n
  · have d1 : decide (30 < (n : Int)) = true := decide_eq_true (by omega)
    go_wp2
    go_ret
    exact ⟨rfl, HEND.out⟩
  have d1 : decide (30 < (n : Int)) = false := decide_eq_false (by omega)
  have hn30 : n ≤ 30 := by omega
  have K2 := HB1.out _ H2.out
  clear c1
  go_wp2_with (have _h := K2; refine wpList_loadq rfl 29 (.tmp 2) rfl (w.heap.size) [.int .i64 a.id, .int .i64 a.vw.size, .int .i64 a.obj, .int .i64 a.seq, .slice a.S a.sn.length a.cs', .bool a.vw.on, .bool a.vw.good, .slice a.vw.M a.vw.row.length a.vw.cm, .string (strOf a.vw.par), .int .i64 a.vw.ps, .int .i64 a.vw.ov, .int .i64 a.ow, .int .i64 a.it, .int .i64 a.tg] _ rfl K2 Try.underlying29 rfl (by kernel_rfl) ?_; clear _h K2)
  refine (HPR.out _ H2.out HLM.out).mono ?_
  rintro e W3 ⟨p, rfl, hpv, hpN, b3⟩
  have HSp : Hid p.Sm := Lib.hid (rsm_lm hpv HLM.out)
  have HFW : Hid (Few 50 p.v) := Lib.hid (rfew_lm hpv HLM.out)
  have HBW : Hid (Below w.heap.size w W3) := Lib.hid (HEND.out.trans (b3.mono HEND.out.size))
  have HRp := Lib.hid hpN.R
  have HNp := Lib.hid hpN
  have HGP : Hid (w.heap.size ≤ W3.heap.size) := Lib.hid HBW.out.size
  have KN : Blk (W3.alloc (.cells #[.int .i64 0, .int .i64 0, .int .i64 0, .int .i64 0, .slice none 0 0, .bool false, .bool false, .slice none 0 0, .string ⟨#[]⟩, .int .i64 0, .int .i64 0, .int .i64 0, .int .i64 0, .int .i64 0] 36)) W3.heap.size 36 #[.int .i64 0, .int .i64 0, .int .i64 0, .int .i64 0, .slice none 0 0, .bool false, .bool false, .slice none 0 0, .string ⟨#[]⟩, .int .i64 0, .int .i64 0, .int .i64 0, .int .i64 0, .int .i64 0] := Blk.new _ _ _
  clear hpv hpN b3 HEND H2 HB1 HLG HPR B0 HLM d1
  unfold HA.cs
  go_wp2_with (first
    | (have _h := KN; refine wpList_storeq rfl 36 (.tmp 5) (.tmp 21) rfl (W3.heap.size) _ [.int .i64 p.id, .int .i64 p.vw.size, .int .i64 p.obj, .int .i64 p.seq, .slice p.S p.sn.length p.cs', .bool p.vw.on, .bool p.vw.good, .slice p.vw.M p.vw.row.length p.vw.cm, .string (strOf p.vw.par), .int .i64 p.vw.ps, .int .i64 p.vw.ov, .int .i64 p.ow, .int .i64 p.it, .int .i64 p.tg] rfl rfl KN (by simp) (by kernel_rfl) (one14 _ _ _ _ _ _ _ _ _ _ _ _ _ _ _ _ _ _) ?_; clear _h KN; intro w4 K4 o4 s4; have HB4 := Lib.hid (HBW.out.trans ((new_below o4).mono HBW.out.size)); have HL4 := Lib.hid (new_loc HRp.out o4 K4); have HN4 := Lib.hid (new_below o4); clear o4 s4)
    | (have _h := K4; refine wpList_loadq rfl 36 (.tmp 5) rfl (W3.heap.size) [.int .i64 p.id, .int .i64 p.vw.size, .int .i64 p.obj, .int .i64 p.seq, .slice p.S p.sn.length p.cs', .bool p.vw.on, .bool p.vw.good, .slice p.vw.M p.vw.row.length p.vw.cm, .string (strOf p.vw.par), .int .i64 p.vw.ps, .int .i64 p.vw.ov, .int .i64 p.ow, .int .i64 p.it, .int .i64 p.tg] _ rfl K4 Try.underlying36 rfl (by kernel_rfl) ?_; clear _h K4))
  refine (good_head p w4 HL4.out.R HSp.out).mono ?_
  rintro e w5 ⟨rfl, b5⟩
  have HB5 : Hid (Below w.heap.size w w5) := Lib.hid (HB4.out.trans (b5.mono HB4.out.size))
  have HL5 : Hid (Loc w5 (W3.heap.size) p) := Lib.hid (HL4.out.below b5)
  have HO5 : Hid (Rob w5 W3.heap.size p) := Lib.hid (rob_of ((HNp.out.below (HN4.out)).below b5) HL5.out.blk)
  clear b5 HB4 HL4
  cases hB : p.v.B with
  | false =>
    clear hB
    go_wp2
    go_ret
    exact ⟨rfl, HB5.out⟩
  | true =>
  have HB := Lib.hid hB
  clear hB
  go_wp2_with fail
  go_loopw [27] (fun i wr => ∃ (k : Nat) (q : HA), i = .int .i64 k ∧ k ≤ n ∧ Below w.heap.size w wr ∧ Loc wr W3.heap.size q ∧ Rob wr W3.heap.size q ∧ q.v.B = true ∧ Few (50 + k) q.v) (fun i _ => n - (intOf i).toNat)
  case atStart => exact ⟨0, p, rfl, Nat.zero_le _, HB5.out, HL5.out, HO5.out, HB.out, HFW.out⟩
  case round =>
    obtain ⟨k, q, rfl, hk, hbw, hloc, hrob, hqB, hqF⟩ := hrel
    have HBR := Lib.hid hbw
    have HLQ := Lib.hid hloc
    have HRB := Lib.hid hrob
    have HQ := Lib.hid (And.intro hqB hqF)
    clear hbw hloc hrob hqB hqF HL5 HB5 HB HFW HSp HRp HO5 HNp
    by_cases hlt : k < n
    · have dl : decide ((k : Int) < (n : Int)) = true := decide_eq_true (by omega)
      have hwk : IntKind.i64.wrap ((k : Int) + 1) = (k : Int) + 1 := by rw [IntKind.wrap_i64]; omega
      obtain ⟨x, hx⟩ : ∃ x, l[k]? = some x := ⟨_, List.getElem?_eq_getElem (by have := HL.out.1; omega)⟩
      have hrw : Reads wr w.heap.size 8 A0 l.length (l.flatMap CA.cells) := by have h := HL.out.2.2.2.1; rw [HL.out.1] at h; exact h.below HBR.out
      obtain ⟨ad, had, hadl, hc⟩ := ca_at hrw hx
      have HXR : Hid (x.R w) := Lib.hid (HL.out.2.2.2.2 x (List.mem_of_getElem? hx))
      have HQS : Hid q.Sm := Lib.hid (sm_good HQ.out.1 (HQ.out.2.mono (by omega)))
      have hzc : ∀ w, (zeroValue 59).run Try.prog w = .ok (.agg #[.int .i64 0, .int .i64 0, .int .i64 0, .string ⟨#[]⟩, .string ⟨#[]⟩, .slice none 0 0, .bool false, .bool false]) w := fun w => by kernel_rfl
      subst had
      have KX : Blk (wr.alloc (.cells #[.int .i64 0, .int .i64 0, .int .i64 0, .string ⟨#[]⟩, .string ⟨#[]⟩, .slice none 0 0, .bool false, .bool false] 59)) wr.heap.size 59 #[.int .i64 0, .int .i64 0, .int .i64 0, .string ⟨#[]⟩, .string ⟨#[]⟩, .slice none 0 0, .bool false, .bool false] := Blk.new _ _ _
      clear hx hrw
      go_wp2_with (first
        | (have _h := hc; refine wpList_loadp rfl 59 (.tmp 29) rfl _ x.cells _ rfl hc Try.underlying59 rfl (by kernel_rfl) ?_; clear _h hc; unfold CA.cells)
        | (have _h := KX; refine wpList_storeq rfl 59 (.tmp 7) (.tmp 30) rfl (wr.heap.size) _ [.int .i64 x.kind, .int .i64 x.n, .int .i64 x.m, .string (strOf x.name), .string (strOf x.child), .slice x.A x.row.length x.cm, .bool x.on, .bool x.good] rfl rfl KX (by simp) (by kernel_rfl) (by intro u hu; simp at hu; rcases hu with h | h | h | h | h | h | h | h <;> subst h <;> rfl) ?_; clear _h KX; intro w6 K6 o6 s6; have HN6 := Lib.hid (new_below o6); have HK6 := Lib.hid K6; clear o6 s6)
        | (have _h := K6; refine wpList_loadq rfl 59 (.tmp 7) rfl (wr.heap.size) [.int .i64 x.kind, .int .i64 x.n, .int .i64 x.m, .string (strOf x.name), .string (strOf x.child), .slice x.A x.row.length x.cm, .bool x.on, .bool x.good] _ rfl K6 Try.underlying59 rfl (by kernel_rfl) ?_; clear _h K6))
      have HB6 : Hid (Below w.heap.size w w6) := Lib.hid (HBR.out.trans (HN6.out.mono HBR.out.size))
      have HL6 : Hid (Loc w6 W3.heap.size q) := Lib.hid (HLQ.out.below HN6.out)
      refine (wide_any x w6 (HXR.out.since HB6.out)).mono ?_
      rintro e w7 ⟨bw, rfl, b7, hsm⟩
      have HB7 : Hid (Below w.heap.size w w7) := Lib.hid (HB6.out.trans (b7.mono HB6.out.size))
      have HL7 : Hid (Loc w7 W3.heap.size q) := Lib.hid (HL6.out.below b7)
      have HB67 := Lib.hid b7
      have K7 : Blk w7 wr.heap.size 59 #[.int .i64 x.kind, .int .i64 x.n, .int .i64 x.m, .string (strOf x.name), .string (strOf x.child), .slice x.A x.row.length x.cm, .bool x.on, .bool x.good] := HK6.out.of (b7.block _ HK6.out.lt)
      clear b7
      cases bw with
      | true =>
        clear hsm K7
        go_wp2
        go_ret
        exact ⟨rfl, HB7.out⟩
      | false =>
      have HXS := Lib.hid (hsm rfl)
      clear hsm
      have KQ : Blk w7 W3.heap.size 36 #[.int .i64 q.id, .int .i64 q.vw.size, .int .i64 q.obj, .int .i64 q.seq, .slice q.S q.sn.length q.cs', .bool q.vw.on, .bool q.vw.good, .slice q.vw.M q.vw.row.length q.vw.cm, .string (strOf q.vw.par), .int .i64 q.vw.ps, .int .i64 q.vw.ov, .int .i64 q.ow, .int .i64 q.it, .int .i64 q.tg] := HL7.out.blk
      have HK7 := Lib.hid K7
      go_wp2_with (first | (have _h := KQ; refine wpList_loadq rfl 36 (.tmp 5) rfl (W3.heap.size) [.int .i64 q.id, .int .i64 q.vw.size, .int .i64 q.obj, .int .i64 q.seq, .slice q.S q.sn.length q.cs', .bool q.vw.on, .bool q.vw.good, .slice q.vw.M q.vw.row.length q.vw.cm, .string (strOf q.vw.par), .int .i64 q.vw.ps, .int .i64 q.vw.ov, .int .i64 q.ow, .int .i64 q.it, .int .i64 q.tg] _ rfl KQ Try.underlying36 rfl (by kernel_rfl) ?_; clear _h KQ) | (have _h := K7; refine wpList_loadq rfl 59 (.tmp 7) rfl (wr.heap.size) [.int .i64 x.kind, .int .i64 x.n, .int .i64 x.m, .string (strOf x.name), .string (strOf x.child), .slice x.A x.row.length x.cm, .bool x.on, .bool x.good] _ rfl K7 Try.underlying59 rfl (by kernel_rfl) ?_; clear _h K7))
      refine (do_any q x w7 HL7.out.R HQS.out (HXR.out.since HB7.out) HXS.out).mono ?_
      rintro e w8 ⟨b8, ⟨kk, rfl, _⟩ | ⟨nx, who, rfl, hB8, hO8, hR8, hN8, hE8, -⟩⟩
      · have HB8 : Hid (Below w.heap.size w w8) := Lib.hid (HB7.out.trans (b8.mono HB7.out.size))
        have HL8 : Hid (Loc w8 W3.heap.size q) := Lib.hid (HL7.out.below b8)
        have HRB8 : Hid (Rob w8 W3.heap.size q) := Lib.hid ((((HRB.out.below HN6.out).below HB67.out)).below b8)
        have KN8 : Blk (w8.alloc (.cells #[.int .i64 0, .int .i64 0, .int .i64 0, .int .i64 0, .slice none 0 0, .bool false, .bool false, .slice none 0 0, .string ⟨#[]⟩, .int .i64 0, .int .i64 0, .int .i64 0, .int .i64 0, .int .i64 0] 36)) w8.heap.size 36 #[.int .i64 0, .int .i64 0, .int .i64 0, .int .i64 0, .slice none 0 0, .bool false, .bool false, .slice none 0 0, .string ⟨#[]⟩, .int .i64 0, .int .i64 0, .int .i64 0, .int .i64 0, .int .i64 0] := Blk.new _ _ _
        clear b8
        simp only [errV]
        go_wp2_with (have _h := KN8; refine wpList_storeq rfl 36 (.tmp 8) (.tmp 37) rfl (w8.heap.size) _ [.int .i64 0, .int .i64 0, .int .i64 0, .int .i64 0, .slice none 0 0, .bool false, .bool false, .slice none 0 0, .string ⟨#[]⟩, .int .i64 0, .int .i64 0, .int .i64 0, .int .i64 0, .int .i64 0] rfl rfl KN8 (by simp) (by kernel_rfl) (one14 _ _ _ _ _ _ _ _ _ _ _ _ _ _ _ _ _ _) ?_; clear _h KN8; intro w9 K9 o9 s9; have HN9 := Lib.hid (new_below o9); clear o9 s9 K9)
        exact ⟨⟨k + 1, q, by go_num, by omega, HB8.out.trans (HN9.out.mono HB8.out.size), HL8.out.below HN9.out, HRB8.out.below HN9.out, HQ.out.1, HQ.out.2.mono (by omega)⟩, by simp only [intOf]; omega⟩
      · have HB8 : Hid (Below w.heap.size w w8) := Lib.hid (HB7.out.trans (b8.mono HB7.out.size))
        have HL8 : Hid (Loc w8 W3.heap.size q) := Lib.hid (HL7.out.below b8)
        have HRB8 : Hid (Rob w8 W3.heap.size q) := Lib.hid ((((HRB.out.below HN6.out).below HB67.out)).below b8)
        have HNB : Hid (nx.v.B = true ∧ Few (50 + (k + 1)) nx.v) := Lib.hid ⟨call_B hO8 HQ.out.1 HL8.out.R.seq.2, by have := call_few hO8 HQ.out.2; exact this⟩
        have HNS : Hid nx.Sm := Lib.hid (sm_good HNB.out.1 (HNB.out.2.mono (by omega)))
        have HNR := Lib.hid hR8
        have HNO : Hid (Rob w8 W3.heap.size nx) := Lib.hid (by
          by_cases h4 : x.kind = 4
          · rw [hE8 h4]; exact HRB8.out
          · exact rob_of (hN8 h4) HL8.out.blk)
        have KN8 : Blk (w8.alloc (.cells #[.int .i64 0, .int .i64 0, .int .i64 0, .int .i64 0, .slice none 0 0, .bool false, .bool false, .slice none 0 0, .string ⟨#[]⟩, .int .i64 0, .int .i64 0, .int .i64 0, .int .i64 0, .int .i64 0] 36)) w8.heap.size 36 #[.int .i64 0, .int .i64 0, .int .i64 0, .int .i64 0, .slice none 0 0, .bool false, .bool false, .slice none 0 0, .string ⟨#[]⟩, .int .i64 0, .int .i64 0, .int .i64 0, .int .i64 0, .int .i64 0] := Blk.new _ _ _
        have HLB : Hid (Below w7.heap.size w7 w8) := Lib.hid b8
        clear b8 hB8 hO8 hR8 hN8 hE8
        try unfold HA.cs at *
        go_wp2_with (first
          | (have _h := KN8; refine wpList_storeq rfl 36 (.tmp 8) (.tmp 37) rfl (w8.heap.size) _ [.int .i64 nx.id, .int .i64 nx.vw.size, .int .i64 nx.obj, .int .i64 nx.seq, .slice nx.S nx.sn.length nx.cs', .bool nx.vw.on, .bool nx.vw.good, .slice nx.vw.M nx.vw.row.length nx.vw.cm, .string (strOf nx.vw.par), .int .i64 nx.vw.ps, .int .i64 nx.vw.ov, .int .i64 nx.ow, .int .i64 nx.it, .int .i64 nx.tg] rfl rfl KN8 (by simp) (by kernel_rfl) (one14 _ _ _ _ _ _ _ _ _ _ _ _ _ _ _ _ _ _) ?_; clear _h KN8; intro w9 K9 o9 s9; have HN9 := Lib.hid (new_below o9); have HLN := Lib.hid (new_loc HNR.out o9 K9); clear o9 s9)
          | (have _h := K9; refine wpList_loadq rfl 36 (.tmp 8) rfl (w8.heap.size) [.int .i64 nx.id, .int .i64 nx.vw.size, .int .i64 nx.obj, .int .i64 nx.seq, .slice nx.S nx.sn.length nx.cs', .bool nx.vw.on, .bool nx.vw.good, .slice nx.vw.M nx.vw.row.length nx.vw.cm, .string (strOf nx.vw.par), .int .i64 nx.vw.ps, .int .i64 nx.vw.ov, .int .i64 nx.ow, .int .i64 nx.it, .int .i64 nx.tg] _ rfl K9 Try.underlying36 rfl (by kernel_rfl) ?_; clear _h K9))
        have HB9 : Hid (Below w.heap.size w w9) := Lib.hid (HB8.out.trans (HN9.out.mono HB8.out.size))
        have HL9 : Hid (Loc w9 W3.heap.size q) := Lib.hid (HL8.out.below HN9.out)
        refine (good_head nx w9 HLN.out.R HNS.out).mono ?_
        rintro e w10 ⟨rfl, b10⟩
        rw [HNB.out.1]
        have HB10 : Hid (Below w.heap.size w w10) := Lib.hid (HB9.out.trans (b10.mono HB9.out.size))
        have HLN10 := Lib.hid (HLN.out.below b10)
        have KN10 : Blk w10 w8.heap.size 36 #[.int .i64 nx.id, .int .i64 nx.vw.size, .int .i64 nx.obj, .int .i64 nx.seq, .slice nx.S nx.sn.length nx.cs', .bool nx.vw.on, .bool nx.vw.good, .slice nx.vw.M nx.vw.row.length nx.vw.cm, .string (strOf nx.vw.par), .int .i64 nx.vw.ps, .int .i64 nx.vw.ov, .int .i64 nx.ow, .int .i64 nx.it, .int .i64 nx.tg] := HLN10.out.blk
        have KP10 : Blk w10 W3.heap.size 36 #[.int .i64 q.id, .int .i64 q.vw.size, .int .i64 q.obj, .int .i64 q.seq, .slice q.S q.sn.length q.cs', .bool q.vw.on, .bool q.vw.good, .slice q.vw.M q.vw.row.length q.vw.cm, .string (strOf q.vw.par), .int .i64 q.vw.ps, .int .i64 q.vw.ov, .int .i64 q.ow, .int .i64 q.it, .int .i64 q.tg] := (HL9.out.below b10).blk
        have HNEP : Hid (W3.heap.size < w8.heap.size) := Lib.hid HL8.out.blk.lt
        have HFRE : Hid (Rob w10 W3.heap.size nx) := Lib.hid ((HNO.out.below HN9.out).below b10)
        clear b10
        go_wp2_with (first
          | (have _h := KN10; refine wpList_loadq rfl 36 (.tmp 8) rfl (w8.heap.size) [.int .i64 nx.id, .int .i64 nx.vw.size, .int .i64 nx.obj, .int .i64 nx.seq, .slice nx.S nx.sn.length nx.cs', .bool nx.vw.on, .bool nx.vw.good, .slice nx.vw.M nx.vw.row.length nx.vw.cm, .string (strOf nx.vw.par), .int .i64 nx.vw.ps, .int .i64 nx.vw.ov, .int .i64 nx.ow, .int .i64 nx.it, .int .i64 nx.tg] _ rfl KN10 Try.underlying36 rfl (by kernel_rfl) ?_; clear _h KN10)
          | (have _h := KP10; refine wpList_storeq rfl 36 (.tmp 5) (.tmp 45) rfl (W3.heap.size) _ [.int .i64 nx.id, .int .i64 nx.vw.size, .int .i64 nx.obj, .int .i64 nx.seq, .slice nx.S nx.sn.length nx.cs', .bool nx.vw.on, .bool nx.vw.good, .slice nx.vw.M nx.vw.row.length nx.vw.cm, .string (strOf nx.vw.par), .int .i64 nx.vw.ps, .int .i64 nx.vw.ov, .int .i64 nx.ow, .int .i64 nx.it, .int .i64 nx.tg] rfl rfl KP10 (by simp) (by kernel_rfl) (one14 _ _ _ _ _ _ _ _ _ _ _ _ _ _ _ _ _ _) ?_; clear _h KP10; intro w11 K11 o11 s11))
        exact ⟨⟨k + 1, nx, by go_num, by omega, HB10.out.trans (o11.below (fun z hz => by simp at hz; have := HGP.out; omega) HB10.out.size), ⟨K11, HFRE.out w11 o11⟩, HFRE.out.only o11, HNB.out.1, HNB.out.2⟩, by simp only [intOf]; omega⟩
    · have dl : decide ((k : Int) < (n : Int)) = false := decide_eq_false (by omega)
      go_wp2
      go_ret
      exact ⟨rfl, HBR.out⟩
end Go.Proofs.Ytiimanoloedbeaa
