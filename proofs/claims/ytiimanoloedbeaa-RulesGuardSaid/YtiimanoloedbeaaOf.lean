/-
  A snapshot of a copy is made. Conditions: the copy is the call's own.
-/
import Derived.Test.YtiimanoloedbeaaOe
import Derived.Shelf.Spec.SlicesInsertGrow
import Derived.Shelf.Slices.Delete
import Derived.Lib.RowBridge

namespace Go.Proofs.Ytiimanoloedbeaa
open Go.RowKit Go.BigFrame
set_option linter.unusedSimpArgs false
set_option linter.unusedVariables false
set_option maxRecDepth 100000
theorem frozen_lt {bs : List Nat} (h : ∀ b ∈ bs, b < 256) : ∀ b ∈ frozenM bs, b < 256 := fun b hb => by
  obtain ⟨x, hx, rfl⟩ := List.mem_map.1 hb
  have := h x hx
  unfold frz
  split <;> omega
def SnpE (v : HdV) (n : List Nat) (k : Nat) : Prop := (v.it ≠ 0 ∧ k = 9) ∨ (v.it = 0 ∧ namedB n = false ∧ k = 1) ∨ (v.it = 0 ∧ namedB n = true ∧ 0 ≤ idxS v n ∧ k = 5) ∨ (v.it = 0 ∧ namedB n = true ∧ idxS v n < 0 ∧ (16 ≤ v.sn.length ∨ v.seq = 9223372036854775807) ∧ k = 4)
def SnpV (v : HdV) (n : List Nat) : HdV := { v with seq := v.seq + 1, sn := v.sn ++ [⟨v.seq + 1, v.size, n, false, v.mx, v.lk, []⟩], mx := ⟨v.mx.on, v.mx.good, frozenM v.mx.row⟩ }
def SnpO (v : HdV) (n : List Nat) (v' : HdV) : Prop := v.it = 0 ∧ namedB n = true ∧ idxS v n < 0 ∧ v.sn.length < 16 ∧ v.seq ≠ 9223372036854775807 ∧ v' = SnpV v n
set_option maxHeartbeats 32000000 in
theorem snp1_any (W : World) (base g : Nat) (c : HA) (gn : Nat) (n : List Nat) (hb : base ≤ W.heap.size) (hg : base ≤ g) (k : Blk W g 36 c.cs) (hN : c.N W base []) (hc : c.sn.length ≤ 1000) (hrow : c.vw.row.length ≤ 10000) (hgn : gn < base) (hn : ∀ b ∈ n, b < 256) (hnl : n.length ≤ 1000000) (kn : W.cell? ⟨gn, 0, none⟩ = some (.string (strOf n))) :
    Calls Try.prog 113 #[.pointer (some ⟨g, 0, none⟩), .pointer (some ⟨gn, 0, none⟩)] W (DoesTo base [] g (fun k _ => SnpE c.v n k) (fun v _ => SnpO c.v n v) W) := by
  obtain ⟨ix, hix⟩ : ∃ ix, ix = idxI (fun s : SA => decide (s.name = n)) c.sn := ⟨_, rfl⟩
  obtain ⟨bn, hbn⟩ : ∃ b, b = namedB n := ⟨_, rfl⟩
  have HNM : Hid (∀ W', Calls Try.prog 95 #[.string (strOf n)] W' fun e w' => e = .returned (.bool bn) ∧ Below W'.heap.size W' w') := Lib.hid fun W' => by rw [hbn]; exact named_any n hn hnl W'
  have HFN : Hid (∀ W', Below W.heap.size W W' → Calls Try.prog 114 #[.agg #[.int .i64 c.id, .int .i64 c.vw.size, .int .i64 c.obj, .int .i64 c.seq, .slice c.S c.sn.length c.cs', .bool c.vw.on, .bool c.vw.good, .slice c.vw.M c.vw.row.length c.vw.cm, .string (strOf c.vw.par), .int .i64 c.vw.ps, .int .i64 c.vw.ov, .int .i64 c.ow, .int .i64 c.it, .int .i64 c.tg], .string (strOf n)] W' fun e w' => e = .returned (.int .i64 ix) ∧ Below W'.heap.size W' w') := Lib.hid fun W' hW' => by rw [hix]; exact find_any c n hn W' (hN.R.since hW') (by omega)
  have HIX : Hid (idxS c.v n = ix ∧ namedB n = bn) := Lib.hid ⟨by rw [idxS_own, hix], hbn.symm⟩
  have HB1 : Hid (∀ W', Below W.heap.size W W' → Blk W' g 36 #[.int .i64 c.id, .int .i64 c.vw.size, .int .i64 c.obj, .int .i64 c.seq, .slice c.S c.sn.length c.cs', .bool c.vw.on, .bool c.vw.good, .slice c.vw.M c.vw.row.length c.vw.cm, .string (strOf c.vw.par), .int .i64 c.vw.ps, .int .i64 c.vw.ov, .int .i64 c.ow, .int .i64 c.it, .int .i64 c.tg]) := Lib.hid fun W' hW' => by
    have k1 : Blk W g 36 #[.int .i64 c.id, .int .i64 c.vw.size, .int .i64 c.obj, .int .i64 c.seq, .slice c.S c.sn.length c.cs', .bool c.vw.on, .bool c.vw.good, .slice c.vw.M c.vw.row.length c.vw.cm, .string (strOf c.vw.par), .int .i64 c.vw.ps, .int .i64 c.vw.ov, .int .i64 c.ow, .int .i64 c.it, .int .i64 c.tg] := k
    exact k1.of (hW'.block _ k.lt)
  have HKN : Hid (∀ W', Below base W W' → W'.cell? ⟨gn, 0, none⟩ = some (.string (strOf n))) := Lib.hid fun W' hW' => (hW'.cell hgn).trans kn
  have HGN := Lib.hid hgn
  have HNN := Lib.hid (And.intro hn (And.intro hnl (And.intro hc hrow)))
  have hseq := hN.seq
  unfold I64 at hseq
  have K0 : Blk W g 36 #[.int .i64 c.id, .int .i64 c.vw.size, .int .i64 c.obj, .int .i64 c.seq, .slice c.S c.sn.length c.cs', .bool c.vw.on, .bool c.vw.good, .slice c.vw.M c.vw.row.length c.vw.cm, .string (strOf c.vw.par), .int .i64 c.vw.ps, .int .i64 c.vw.ov, .int .i64 c.ow, .int .i64 c.it, .int .i64 c.tg] := k
  have HK := Lib.hid (And.intro k (And.intro hN (And.intro hb hg)))
  have HS : Hid (∀ n, Below base W (W.drewN n)) := Lib.hid fun n => ⟨rfl, rfl, rfl, Nat.le_refl _, fun _ _ => rfl⟩
  clear k hN hb hg hc hgn hn hnl hix hbn hrow
  have q12 : W.cell? ⟨g, 12, none⟩ = some (.int .i64 c.it) := K0.cell 12
  go_enter Try.func113, Try.ntmps113
  by_cases c0 : c.it = 0
  rotate_left
  · have d0 : (c.it != 0) = true := by simpa using c0
    have HC := Lib.hid c0
    clear c0
    go_wp2
    go_ret
    exact ⟨Frm.of (Below.refl _ _), .inl ⟨9, rfl, by omega, .inl ⟨HC.out, rfl⟩⟩⟩
  have d0 : (c.it != 0) = false := by simpa using c0
  have HC0 := Lib.hid c0
  clear c0
  go_wp2_with fail
  refine (HNM.out W).mono ?_
  rintro e w1 ⟨rfl, b1⟩
  have HS1 := Lib.hid b1
  clear b1 kn
  cases bn with
  | false =>
    go_wp2
    go_ret
    exact ⟨Frm.of (HS1.out.mono HK.out.2.2.1), .inl ⟨1, rfl, by omega, .inr (.inl ⟨HC0.out, HIX.out.2, rfl⟩)⟩⟩
  | true =>
    by_cases c1 : 0 ≤ ix
    · have d1 : decide (0 ≤ ix) = true := decide_eq_true c1
      have HC := Lib.hid c1
      clear c1
      go_upto_region 5 with (fail)
      have hS : Below W.heap.size W w1.drew := HS1.out.drew
      refine any_beginL (fun W' => Below W.heap.size W W') 99 (by kernel_rfl) ?_
      refine S_take (i := 0) (v := .pointer (some ⟨g, 0, none⟩)) rfl rfl (by kernel_rfl) (by kernel_rfl) (by kernel_rfl) (fun _ _ _ h => h) (Or.inl ⟨by rfl, fun W hw => by go_simp⟩) hS ?_
      simp only [Act.put, List.getElem_toArray, List.getElem_cons_succ, List.getElem_cons_zero, List.setIfInBounds_toArray, List.set_cons_zero, List.set_cons_succ]
      refine S_take (i := 1) (v := .pointer (some ⟨g, 0, none⟩)) rfl rfl (by kernel_rfl) (by kernel_rfl) (by kernel_rfl) (fun _ _ _ h => h) (Or.inl ⟨by rfl, fun W hw => by go_simp⟩) hS ?_
      simp only [Act.put, List.getElem_toArray, List.getElem_cons_succ, List.getElem_cons_zero, List.setIfInBounds_toArray, List.set_cons_zero, List.set_cons_succ]
      refine S_take (i := 2) (v := .agg #[.int .i64 c.id, .int .i64 c.vw.size, .int .i64 c.obj, .int .i64 c.seq, .slice c.S c.sn.length c.cs', .bool c.vw.on, .bool c.vw.good, .slice c.vw.M c.vw.row.length c.vw.cm, .string (strOf c.vw.par), .int .i64 c.vw.ps, .int .i64 c.vw.ov, .int .i64 c.ow, .int .i64 c.it, .int .i64 c.tg]) rfl rfl (by kernel_rfl) (by kernel_rfl) (by kernel_rfl) (fun _ _ _ h => h) (Or.inl ⟨by rfl, fun W hw => by have k0 : W.cell? ⟨g, 0, none⟩ = some (.int .i64 c.id) := (HB1.out W hw).cell 0; have k1 : W.cell? ⟨g, 1, none⟩ = some (.int .i64 c.vw.size) := (HB1.out W hw).cell 1; have k2 : W.cell? ⟨g, 2, none⟩ = some (.int .i64 c.obj) := (HB1.out W hw).cell 2; have k3 : W.cell? ⟨g, 3, none⟩ = some (.int .i64 c.seq) := (HB1.out W hw).cell 3; have k4 : W.cell? ⟨g, 4, none⟩ = some (.slice c.S c.sn.length c.cs') := (HB1.out W hw).cell 4; have k5 : W.cell? ⟨g, 5, none⟩ = some (.bool c.vw.on) := (HB1.out W hw).cell 5; have k6 : W.cell? ⟨g, 6, none⟩ = some (.bool c.vw.good) := (HB1.out W hw).cell 6; have k7 : W.cell? ⟨g, 7, none⟩ = some (.slice c.vw.M c.vw.row.length c.vw.cm) := (HB1.out W hw).cell 7; have k8 : W.cell? ⟨g, 8, none⟩ = some (.string (strOf c.vw.par)) := (HB1.out W hw).cell 8; have k9 : W.cell? ⟨g, 9, none⟩ = some (.int .i64 c.vw.ps) := (HB1.out W hw).cell 9; have k10 : W.cell? ⟨g, 10, none⟩ = some (.int .i64 c.vw.ov) := (HB1.out W hw).cell 10; have k11 : W.cell? ⟨g, 11, none⟩ = some (.int .i64 c.ow) := (HB1.out W hw).cell 11; have k12 : W.cell? ⟨g, 12, none⟩ = some (.int .i64 c.it) := (HB1.out W hw).cell 12; have k13 : W.cell? ⟨g, 13, none⟩ = some (.int .i64 c.tg) := (HB1.out W hw).cell 13; go_simp⟩) hS ?_
      simp only [Act.put, List.getElem_toArray, List.getElem_cons_succ, List.getElem_cons_zero, List.setIfInBounds_toArray, List.set_cons_zero, List.set_cons_succ]
      refine S_take (i := 3) (v := .string (strOf n)) rfl rfl (by kernel_rfl) (by kernel_rfl) (by kernel_rfl) (fun _ _ _ h => h) (Or.inl ⟨by rfl, fun W hw => by have k1 := HKN.out W (hw.mono HK.out.2.2.1); go_simp⟩) hS ?_
      simp only [Act.put, List.getElem_toArray, List.getElem_cons_succ, List.getElem_cons_zero, List.setIfInBounds_toArray, List.set_cons_zero, List.set_cons_succ]
      refine L_one (j := 4) (by kernel_rfl) rfl (by rfl) ?_
      simp only [Act.put, List.getElem_toArray, List.getElem_cons_succ, List.getElem_cons_zero, List.setIfInBounds_toArray, List.set_cons_zero, List.set_cons_succ]
      refine wp_called (by go_simp) (HFN.out _ hS) ?_
      rintro e W4 ⟨rfl, b⟩
      have hS : Below W.heap.size W W4 := hS.trans (b.mono hS.size)
      clear b
      refine ⟨_, rfl, hS, ?_⟩
      simp only [Act.put, List.getElem_toArray, List.getElem_cons_succ, List.getElem_cons_zero, List.setIfInBounds_toArray, List.set_cons_zero, List.set_cons_succ]
      refine S_take (i := 5) (v := .bool true) rfl rfl (by kernel_rfl) (by kernel_rfl) (by kernel_rfl) (fun _ _ _ h => h) (Or.inl ⟨by rfl, fun W hw => by go_simp⟩) hS ?_
      simp only [Act.put, List.getElem_toArray, List.getElem_cons_succ, List.getElem_cons_zero, List.setIfInBounds_toArray, List.set_cons_zero, List.set_cons_succ]
      refine S_take (i := 6) (v := .bool true) rfl rfl (by kernel_rfl) (by kernel_rfl) (by kernel_rfl) (fun _ _ _ h => h) (Or.inl ⟨by rfl, fun W hw => by go_simp⟩) hS ?_
      simp only [Act.put, List.getElem_toArray, List.getElem_cons_succ, List.getElem_cons_zero, List.setIfInBounds_toArray, List.set_cons_zero, List.set_cons_succ]
      refine L_done (by kernel_rfl) ?_
      refine NoPanic.normal ?_
      have HS5 := Lib.hid hS
      clear hS
      go_wp2
      go_ret
      exact ⟨Frm.of (HS5.out.mono HK.out.2.2.1), .inl ⟨5, rfl, by omega, .inr (.inr (.inl ⟨HC0.out, HIX.out.2, by rw [HIX.out.1]; exact HC.out, rfl⟩))⟩⟩
    have d1 : decide (0 ≤ ix) = false := decide_eq_false c1
    have HC1 : Hid (idxS c.v n < 0) := Lib.hid (by rw [HIX.out.1]; omega)
    clear c1
    go_upto_region 5 with (fail)
    have hS : Below W.heap.size W w1.drew := HS1.out.drew
    refine any_beginL (fun W' => Below W.heap.size W W') 99 (by kernel_rfl) ?_
    refine S_take (i := 0) (v := .pointer (some ⟨g, 0, none⟩)) rfl rfl (by kernel_rfl) (by kernel_rfl) (by kernel_rfl) (fun _ _ _ h => h) (Or.inl ⟨by rfl, fun W hw => by go_simp⟩) hS ?_
    simp only [Act.put, List.getElem_toArray, List.getElem_cons_succ, List.getElem_cons_zero, List.setIfInBounds_toArray, List.set_cons_zero, List.set_cons_succ]
    refine S_take (i := 1) (v := .pointer (some ⟨g, 0, none⟩)) rfl rfl (by kernel_rfl) (by kernel_rfl) (by kernel_rfl) (fun _ _ _ h => h) (Or.inl ⟨by rfl, fun W hw => by go_simp⟩) hS ?_
    simp only [Act.put, List.getElem_toArray, List.getElem_cons_succ, List.getElem_cons_zero, List.setIfInBounds_toArray, List.set_cons_zero, List.set_cons_succ]
    refine S_take (i := 2) (v := .agg #[.int .i64 c.id, .int .i64 c.vw.size, .int .i64 c.obj, .int .i64 c.seq, .slice c.S c.sn.length c.cs', .bool c.vw.on, .bool c.vw.good, .slice c.vw.M c.vw.row.length c.vw.cm, .string (strOf c.vw.par), .int .i64 c.vw.ps, .int .i64 c.vw.ov, .int .i64 c.ow, .int .i64 c.it, .int .i64 c.tg]) rfl rfl (by kernel_rfl) (by kernel_rfl) (by kernel_rfl) (fun _ _ _ h => h) (Or.inl ⟨by rfl, fun W hw => by have k0 : W.cell? ⟨g, 0, none⟩ = some (.int .i64 c.id) := (HB1.out W hw).cell 0; have k1 : W.cell? ⟨g, 1, none⟩ = some (.int .i64 c.vw.size) := (HB1.out W hw).cell 1; have k2 : W.cell? ⟨g, 2, none⟩ = some (.int .i64 c.obj) := (HB1.out W hw).cell 2; have k3 : W.cell? ⟨g, 3, none⟩ = some (.int .i64 c.seq) := (HB1.out W hw).cell 3; have k4 : W.cell? ⟨g, 4, none⟩ = some (.slice c.S c.sn.length c.cs') := (HB1.out W hw).cell 4; have k5 : W.cell? ⟨g, 5, none⟩ = some (.bool c.vw.on) := (HB1.out W hw).cell 5; have k6 : W.cell? ⟨g, 6, none⟩ = some (.bool c.vw.good) := (HB1.out W hw).cell 6; have k7 : W.cell? ⟨g, 7, none⟩ = some (.slice c.vw.M c.vw.row.length c.vw.cm) := (HB1.out W hw).cell 7; have k8 : W.cell? ⟨g, 8, none⟩ = some (.string (strOf c.vw.par)) := (HB1.out W hw).cell 8; have k9 : W.cell? ⟨g, 9, none⟩ = some (.int .i64 c.vw.ps) := (HB1.out W hw).cell 9; have k10 : W.cell? ⟨g, 10, none⟩ = some (.int .i64 c.vw.ov) := (HB1.out W hw).cell 10; have k11 : W.cell? ⟨g, 11, none⟩ = some (.int .i64 c.ow) := (HB1.out W hw).cell 11; have k12 : W.cell? ⟨g, 12, none⟩ = some (.int .i64 c.it) := (HB1.out W hw).cell 12; have k13 : W.cell? ⟨g, 13, none⟩ = some (.int .i64 c.tg) := (HB1.out W hw).cell 13; go_simp⟩) hS ?_
    simp only [Act.put, List.getElem_toArray, List.getElem_cons_succ, List.getElem_cons_zero, List.setIfInBounds_toArray, List.set_cons_zero, List.set_cons_succ]
    refine S_take (i := 3) (v := .string (strOf n)) rfl rfl (by kernel_rfl) (by kernel_rfl) (by kernel_rfl) (fun _ _ _ h => h) (Or.inl ⟨by rfl, fun W hw => by have k1 := HKN.out W (hw.mono HK.out.2.2.1); go_simp⟩) hS ?_
    simp only [Act.put, List.getElem_toArray, List.getElem_cons_succ, List.getElem_cons_zero, List.setIfInBounds_toArray, List.set_cons_zero, List.set_cons_succ]
    refine L_one (j := 4) (by kernel_rfl) rfl (by rfl) ?_
    simp only [Act.put, List.getElem_toArray, List.getElem_cons_succ, List.getElem_cons_zero, List.setIfInBounds_toArray, List.set_cons_zero, List.set_cons_succ]
    refine wp_called (by go_simp) (HFN.out _ hS) ?_
    rintro e W4 ⟨rfl, b⟩
    have hS : Below W.heap.size W W4 := hS.trans (b.mono hS.size)
    clear b
    refine ⟨_, rfl, hS, ?_⟩
    simp only [Act.put, List.getElem_toArray, List.getElem_cons_succ, List.getElem_cons_zero, List.setIfInBounds_toArray, List.set_cons_zero, List.set_cons_succ]
    refine S_take (i := 5) (v := .bool false) rfl rfl (by kernel_rfl) (by kernel_rfl) (by kernel_rfl) (fun _ _ _ h => h) (Or.inl ⟨by rfl, fun W hw => by go_simp⟩) hS ?_
    simp only [Act.put, List.getElem_toArray, List.getElem_cons_succ, List.getElem_cons_zero, List.setIfInBounds_toArray, List.set_cons_zero, List.set_cons_succ]
    refine S_take (i := 6) (v := .bool false) rfl rfl (by kernel_rfl) (by kernel_rfl) (by kernel_rfl) (fun _ _ _ h => h) (Or.inl ⟨by rfl, fun W hw => by go_simp⟩) hS ?_
    simp only [Act.put, List.getElem_toArray, List.getElem_cons_succ, List.getElem_cons_zero, List.setIfInBounds_toArray, List.set_cons_zero, List.set_cons_succ]
    refine L_done (by kernel_rfl) ?_
    refine NoPanic.normal ?_
    have HS5 := Lib.hid hS
    clear hS
    have KW := HB1.out _ HS5.out
    have q4 : W4.cell? ⟨g, 4, none⟩ = some (.slice c.S c.sn.length c.cs') := KW.cell 4
    have q3 : W4.cell? ⟨g, 3, none⟩ = some (.int .i64 c.seq) := KW.cell 3
    have hll : c.v.sn.length = c.sn.length := List.length_map ..
    have HLL := Lib.hid hll
    clear hll
    obtain ⟨m, hm⟩ : ∃ m, m = c.sn.length := ⟨_, rfl⟩
    rw [← hm] at q4
    have HM := Lib.hid hm
    clear hm
    by_cases c2 : 16 ≤ m
    · have d2 : decide (16 ≤ m) = true := decide_eq_true c2
      have d2' : decide ((16 : Int) ≤ (m : Int)) = true := decide_eq_true (by omega)
      have HC := Lib.hid c2
      clear c2 KW
      go_wp2
      go_ret
      exact ⟨Frm.of (HS5.out.mono HK.out.2.2.1), .inl ⟨4, rfl, by omega, .inr (.inr (.inr ⟨HC0.out, HIX.out.2, HC1.out, .inl (by rw [HLL.out, ← HM.out]; exact HC.out), rfl⟩))⟩⟩
    have d2 : decide (16 ≤ m) = false := decide_eq_false c2
    have d2' : decide ((16 : Int) ≤ (m : Int)) = false := decide_eq_false (by omega)
    by_cases c3 : c.seq = 9223372036854775807
    · have d3 : (c.seq == 9223372036854775807) = true := by simpa using c3
      have HC := Lib.hid c3
      clear c3 c2 KW
      go_wp2
      go_ret
      exact ⟨Frm.of (HS5.out.mono HK.out.2.2.1), .inl ⟨4, rfl, by omega, .inr (.inr (.inr ⟨HC0.out, HIX.out.2, HC1.out, .inr HC.out, rfl⟩))⟩⟩
    have d3 : (c.seq == 9223372036854775807) = false := by simpa using c3
    have hws : IntKind.i64.wrap (c.seq + 1) = c.seq + 1 := by rw [IntKind.wrap_i64]; omega
    have HC2 := Lib.hid (And.intro c2 c3)
    clear c2 c3
    go_wp2_with (have _h := KW; refine wpList_setq rfl 3 (.tmp 45) (.tmp 43) rfl g 3 36 _ (.int .i64 (c.seq + 1)) rfl rfl KW (by simp) (by kernel_rfl) rfl ?_; clear _h KW; intro V9 K9 o9 s9)
    have KV : Blk V9 g 36 #[.int .i64 c.id, .int .i64 c.vw.size, .int .i64 c.obj, .int .i64 (c.seq + 1), .slice c.S c.sn.length c.cs', .bool c.vw.on, .bool c.vw.good, .slice c.vw.M c.vw.row.length c.vw.cm, .string (strOf c.vw.par), .int .i64 c.vw.ps, .int .i64 c.vw.ov, .int .i64 c.ow, .int .i64 c.it, .int .i64 c.tg] := K9
    have kc5 : Blk W4 g 36 c.cs := HB1.out _ HS5.out
    have n9 : c.N V9 base [] := (HK.out.2.1.below HS5.out).stay kc5 o9
    have hb9 : Below base W V9 := (HS5.out.mono HK.out.2.2.1).trans (o9.below (fun x hx => by simp at hx; have := HK.out.2.2.2; omega) (Nat.le_trans HK.out.2.2.1 HS5.out.size))
    have HV9 := Lib.hid (And.intro n9 (And.intro hb9 KV))
    clear K9 o9 s9 kc5 n9 hb9 KV q3 q4
    go_upto_region 10 with (fail)
    have hdr0 : Below V9.heap.size V9 V9.drew := (Below.refl _ V9).drew
    refine any_beginL (fun W' => Blk W' g 36 #[.int .i64 c.id, .int .i64 c.vw.size, .int .i64 c.obj, .int .i64 (c.seq + 1), .slice c.S c.sn.length c.cs', .bool c.vw.on, .bool c.vw.good, .slice c.vw.M c.vw.row.length c.vw.cm, .string (strOf c.vw.par), .int .i64 c.vw.ps, .int .i64 c.vw.ov, .int .i64 c.ow, .int .i64 c.it, .int .i64 c.tg] ∧ W'.cell? ⟨gn, 0, none⟩ = some (.string (strOf n))) 35 (by kernel_rfl) ?_
    generalize World.drew V9 = Wd at *
    have hdr := hdr0
    clear hdr0
    have hS : Blk Wd g 36 #[.int .i64 c.id, .int .i64 c.vw.size, .int .i64 c.obj, .int .i64 (c.seq + 1), .slice c.S c.sn.length c.cs', .bool c.vw.on, .bool c.vw.good, .slice c.vw.M c.vw.row.length c.vw.cm, .string (strOf c.vw.par), .int .i64 c.vw.ps, .int .i64 c.vw.ov, .int .i64 c.ow, .int .i64 c.it, .int .i64 c.tg] ∧ Wd.cell? ⟨gn, 0, none⟩ = some (.string (strOf n)) := ⟨HV9.out.2.2.of (hdr.block _ HV9.out.2.2.lt), (hdr.cell (show gn < _ by have := HV9.out.2.1.size; have := HK.out.2.2.1; have := HGN.out; omega)).trans (HKN.out _ HV9.out.2.1)⟩
    have HZD : Hid (V9.heap.size ≤ Wd.heap.size) := Lib.hid hdr.size
    have HND := Lib.hid (HV9.out.1.below hdr)
    have HBX : Hid (∀ W', (Blk W' g 36 #[.int .i64 c.id, .int .i64 c.vw.size, .int .i64 c.obj, .int .i64 (c.seq + 1), .slice c.S c.sn.length c.cs', .bool c.vw.on, .bool c.vw.good, .slice c.vw.M c.vw.row.length c.vw.cm, .string (strOf c.vw.par), .int .i64 c.vw.ps, .int .i64 c.vw.ov, .int .i64 c.ow, .int .i64 c.it, .int .i64 c.tg] ∧ W'.cell? ⟨gn, 0, none⟩ = some (.string (strOf n))) → Blk W' g 36 #[.int .i64 c.id, .int .i64 c.vw.size, .int .i64 c.obj, .int .i64 (c.seq + 1), .slice c.S c.sn.length c.cs', .bool c.vw.on, .bool c.vw.good, .slice c.vw.M c.vw.row.length c.vw.cm, .string (strOf c.vw.par), .int .i64 c.vw.ps, .int .i64 c.vw.ov, .int .i64 c.ow, .int .i64 c.it, .int .i64 c.tg]) := Lib.hid fun W' h => h.1
    refine L_take (i := 0) (v := .pointer (some ⟨g, 0, none⟩)) rfl rfl (by kernel_rfl) (by kernel_rfl) (by kernel_rfl) (by kernel_rfl) (fun _ _ _ h => h) (Or.inl ⟨by rfl, fun W hw => by go_simp⟩) hS ?_
    simp only [Act.put, List.getElem_toArray, List.getElem_cons_succ, List.getElem_cons_zero, List.setIfInBounds_toArray, List.set_cons_zero, List.set_cons_succ]
    refine L_take (i := 1) (v := .pointer (some ⟨g, 0, none⟩)) rfl rfl (by kernel_rfl) (by kernel_rfl) (by kernel_rfl) (by kernel_rfl) (fun _ _ _ h => h) (Or.inl ⟨by rfl, fun W hw => by go_simp⟩) hS ?_
    simp only [Act.put, List.getElem_toArray, List.getElem_cons_succ, List.getElem_cons_zero, List.setIfInBounds_toArray, List.set_cons_zero, List.set_cons_succ]
    refine L_take (i := 2) (v := .pointer (some ⟨g, 0, none⟩)) rfl rfl (by kernel_rfl) (by kernel_rfl) (by kernel_rfl) (by kernel_rfl) (fun _ _ _ h => h) (Or.inl ⟨by rfl, fun W hw => by go_simp⟩) hS ?_
    simp only [Act.put, List.getElem_toArray, List.getElem_cons_succ, List.getElem_cons_zero, List.setIfInBounds_toArray, List.set_cons_zero, List.set_cons_succ]
    refine L_take (i := 3) (v := .pointer (some ⟨g, 4, none⟩)) rfl rfl (by kernel_rfl) (by kernel_rfl) (by kernel_rfl) (by kernel_rfl) (fun _ _ _ h => h) (Or.inl ⟨by rfl, fun W hw => by go_simp⟩) hS ?_
    simp only [Act.put, List.getElem_toArray, List.getElem_cons_succ, List.getElem_cons_zero, List.setIfInBounds_toArray, List.set_cons_zero, List.set_cons_succ]
    refine L_take (i := 4) (v := .slice c.S c.sn.length c.cs') rfl rfl (by kernel_rfl) (by kernel_rfl) (by kernel_rfl) (by kernel_rfl) (fun _ _ _ h => h) (Or.inl ⟨by rfl, fun W hw => by have k0 : W.cell? ⟨g, 4, none⟩ = some (.slice c.S c.sn.length c.cs') := (HBX.out W hw).cell 4; go_simp⟩) hS ?_
    simp only [Act.put, List.getElem_toArray, List.getElem_cons_succ, List.getElem_cons_zero, List.setIfInBounds_toArray, List.set_cons_zero, List.set_cons_succ]
    refine L_take (i := 5) (v := .pointer (some ⟨g, 0, none⟩)) rfl rfl (by kernel_rfl) (by kernel_rfl) (by kernel_rfl) (by kernel_rfl) (fun _ _ _ h => h) (Or.inl ⟨by rfl, fun W hw => by go_simp⟩) hS ?_
    simp only [Act.put, List.getElem_toArray, List.getElem_cons_succ, List.getElem_cons_zero, List.setIfInBounds_toArray, List.set_cons_zero, List.set_cons_succ]
    refine L_take (i := 6) (v := .pointer (some ⟨g, 0, none⟩)) rfl rfl (by kernel_rfl) (by kernel_rfl) (by kernel_rfl) (by kernel_rfl) (fun _ _ _ h => h) (Or.inl ⟨by rfl, fun W hw => by go_simp⟩) hS ?_
    simp only [Act.put, List.getElem_toArray, List.getElem_cons_succ, List.getElem_cons_zero, List.setIfInBounds_toArray, List.set_cons_zero, List.set_cons_succ]
    refine L_take (i := 7) (v := .pointer (some ⟨g, 3, none⟩)) rfl rfl (by kernel_rfl) (by kernel_rfl) (by kernel_rfl) (by kernel_rfl) (fun _ _ _ h => h) (Or.inl ⟨by rfl, fun W hw => by go_simp⟩) hS ?_
    simp only [Act.put, List.getElem_toArray, List.getElem_cons_succ, List.getElem_cons_zero, List.setIfInBounds_toArray, List.set_cons_zero, List.set_cons_succ]
    refine L_take (i := 8) (v := .int .i64 (c.seq + 1)) rfl rfl (by kernel_rfl) (by kernel_rfl) (by kernel_rfl) (by kernel_rfl) (fun _ _ _ h => h) (Or.inl ⟨by rfl, fun W hw => by have k0 : W.cell? ⟨g, 3, none⟩ = some (.int .i64 (c.seq + 1)) := (HBX.out W hw).cell 3; go_simp⟩) hS ?_
    simp only [Act.put, List.getElem_toArray, List.getElem_cons_succ, List.getElem_cons_zero, List.setIfInBounds_toArray, List.set_cons_zero, List.set_cons_succ]
    refine L_take (i := 9) (v := .string (strOf n)) rfl rfl (by kernel_rfl) (by kernel_rfl) (by kernel_rfl) (by kernel_rfl) (fun _ _ _ h => h) (Or.inl ⟨by rfl, fun W hw => by have k1 := hw.2; go_simp⟩) hS ?_
    simp only [Act.put, List.getElem_toArray, List.getElem_cons_succ, List.getElem_cons_zero, List.setIfInBounds_toArray, List.set_cons_zero, List.set_cons_succ]
    refine L_take (i := 10) (v := .pointer (some ⟨g, 0, none⟩)) rfl rfl (by kernel_rfl) (by kernel_rfl) (by kernel_rfl) (by kernel_rfl) (fun _ _ _ h => h) (Or.inl ⟨by rfl, fun W hw => by go_simp⟩) hS ?_
    simp only [Act.put, List.getElem_toArray, List.getElem_cons_succ, List.getElem_cons_zero, List.setIfInBounds_toArray, List.set_cons_zero, List.set_cons_succ]
    refine L_take (i := 11) (v := .pointer (some ⟨g, 0, none⟩)) rfl rfl (by kernel_rfl) (by kernel_rfl) (by kernel_rfl) (by kernel_rfl) (fun _ _ _ h => h) (Or.inl ⟨by rfl, fun W hw => by go_simp⟩) hS ?_
    simp only [Act.put, List.getElem_toArray, List.getElem_cons_succ, List.getElem_cons_zero, List.setIfInBounds_toArray, List.set_cons_zero, List.set_cons_succ]
    refine L_take (i := 12) (v := .pointer (some ⟨g, 1, none⟩)) rfl rfl (by kernel_rfl) (by kernel_rfl) (by kernel_rfl) (by kernel_rfl) (fun _ _ _ h => h) (Or.inl ⟨by rfl, fun W hw => by go_simp⟩) hS ?_
    simp only [Act.put, List.getElem_toArray, List.getElem_cons_succ, List.getElem_cons_zero, List.setIfInBounds_toArray, List.set_cons_zero, List.set_cons_succ]
    refine L_take (i := 13) (v := .int .i64 c.vw.size) rfl rfl (by kernel_rfl) (by kernel_rfl) (by kernel_rfl) (by kernel_rfl) (fun _ _ _ h => h) (Or.inl ⟨by rfl, fun W hw => by have k0 : W.cell? ⟨g, 1, none⟩ = some (.int .i64 c.vw.size) := (HBX.out W hw).cell 1; go_simp⟩) hS ?_
    simp only [Act.put, List.getElem_toArray, List.getElem_cons_succ, List.getElem_cons_zero, List.setIfInBounds_toArray, List.set_cons_zero, List.set_cons_succ]
    refine L_take (i := 14) (v := .pointer (some ⟨g, 0, none⟩)) rfl rfl (by kernel_rfl) (by kernel_rfl) (by kernel_rfl) (by kernel_rfl) (fun _ _ _ h => h) (Or.inl ⟨by rfl, fun W hw => by go_simp⟩) hS ?_
    simp only [Act.put, List.getElem_toArray, List.getElem_cons_succ, List.getElem_cons_zero, List.setIfInBounds_toArray, List.set_cons_zero, List.set_cons_succ]
    refine L_take (i := 15) (v := .pointer (some ⟨g, 0, none⟩)) rfl rfl (by kernel_rfl) (by kernel_rfl) (by kernel_rfl) (by kernel_rfl) (fun _ _ _ h => h) (Or.inl ⟨by rfl, fun W hw => by go_simp⟩) hS ?_
    simp only [Act.put, List.getElem_toArray, List.getElem_cons_succ, List.getElem_cons_zero, List.setIfInBounds_toArray, List.set_cons_zero, List.set_cons_succ]
    refine L_take (i := 16) (v := .pointer (some ⟨g, 5, none⟩)) rfl rfl (by kernel_rfl) (by kernel_rfl) (by kernel_rfl) (by kernel_rfl) (fun _ _ _ h => h) (Or.inl ⟨by rfl, fun W hw => by go_simp⟩) hS ?_
    simp only [Act.put, List.getElem_toArray, List.getElem_cons_succ, List.getElem_cons_zero, List.setIfInBounds_toArray, List.set_cons_zero, List.set_cons_succ]
    refine L_take (i := 17) (v := .bool c.vw.on) rfl rfl (by kernel_rfl) (by kernel_rfl) (by kernel_rfl) (by kernel_rfl) (fun _ _ _ h => h) (Or.inl ⟨by rfl, fun W hw => by have k0 : W.cell? ⟨g, 5, none⟩ = some (.bool c.vw.on) := (HBX.out W hw).cell 5; go_simp⟩) hS ?_
    simp only [Act.put, List.getElem_toArray, List.getElem_cons_succ, List.getElem_cons_zero, List.setIfInBounds_toArray, List.set_cons_zero, List.set_cons_succ]
    refine L_take (i := 18) (v := .pointer (some ⟨g, 0, none⟩)) rfl rfl (by kernel_rfl) (by kernel_rfl) (by kernel_rfl) (by kernel_rfl) (fun _ _ _ h => h) (Or.inl ⟨by rfl, fun W hw => by go_simp⟩) hS ?_
    simp only [Act.put, List.getElem_toArray, List.getElem_cons_succ, List.getElem_cons_zero, List.setIfInBounds_toArray, List.set_cons_zero, List.set_cons_succ]
    refine L_take (i := 19) (v := .pointer (some ⟨g, 0, none⟩)) rfl rfl (by kernel_rfl) (by kernel_rfl) (by kernel_rfl) (by kernel_rfl) (fun _ _ _ h => h) (Or.inl ⟨by rfl, fun W hw => by go_simp⟩) hS ?_
    simp only [Act.put, List.getElem_toArray, List.getElem_cons_succ, List.getElem_cons_zero, List.setIfInBounds_toArray, List.set_cons_zero, List.set_cons_succ]
    refine L_take (i := 20) (v := .pointer (some ⟨g, 6, none⟩)) rfl rfl (by kernel_rfl) (by kernel_rfl) (by kernel_rfl) (by kernel_rfl) (fun _ _ _ h => h) (Or.inl ⟨by rfl, fun W hw => by go_simp⟩) hS ?_
    simp only [Act.put, List.getElem_toArray, List.getElem_cons_succ, List.getElem_cons_zero, List.setIfInBounds_toArray, List.set_cons_zero, List.set_cons_succ]
    refine L_take (i := 21) (v := .bool c.vw.good) rfl rfl (by kernel_rfl) (by kernel_rfl) (by kernel_rfl) (by kernel_rfl) (fun _ _ _ h => h) (Or.inl ⟨by rfl, fun W hw => by have k0 : W.cell? ⟨g, 6, none⟩ = some (.bool c.vw.good) := (HBX.out W hw).cell 6; go_simp⟩) hS ?_
    simp only [Act.put, List.getElem_toArray, List.getElem_cons_succ, List.getElem_cons_zero, List.setIfInBounds_toArray, List.set_cons_zero, List.set_cons_succ]
    refine L_take (i := 22) (v := .pointer (some ⟨g, 0, none⟩)) rfl rfl (by kernel_rfl) (by kernel_rfl) (by kernel_rfl) (by kernel_rfl) (fun _ _ _ h => h) (Or.inl ⟨by rfl, fun W hw => by go_simp⟩) hS ?_
    simp only [Act.put, List.getElem_toArray, List.getElem_cons_succ, List.getElem_cons_zero, List.setIfInBounds_toArray, List.set_cons_zero, List.set_cons_succ]
    refine L_take (i := 23) (v := .pointer (some ⟨g, 0, none⟩)) rfl rfl (by kernel_rfl) (by kernel_rfl) (by kernel_rfl) (by kernel_rfl) (fun _ _ _ h => h) (Or.inl ⟨by rfl, fun W hw => by go_simp⟩) hS ?_
    simp only [Act.put, List.getElem_toArray, List.getElem_cons_succ, List.getElem_cons_zero, List.setIfInBounds_toArray, List.set_cons_zero, List.set_cons_succ]
    refine L_take (i := 24) (v := .pointer (some ⟨g, 7, none⟩)) rfl rfl (by kernel_rfl) (by kernel_rfl) (by kernel_rfl) (by kernel_rfl) (fun _ _ _ h => h) (Or.inl ⟨by rfl, fun W hw => by go_simp⟩) hS ?_
    simp only [Act.put, List.getElem_toArray, List.getElem_cons_succ, List.getElem_cons_zero, List.setIfInBounds_toArray, List.set_cons_zero, List.set_cons_succ]
    refine L_take (i := 25) (v := .slice c.vw.M c.vw.row.length c.vw.cm) rfl rfl (by kernel_rfl) (by kernel_rfl) (by kernel_rfl) (by kernel_rfl) (fun _ _ _ h => h) (Or.inl ⟨by rfl, fun W hw => by have k0 : W.cell? ⟨g, 7, none⟩ = some (.slice c.vw.M c.vw.row.length c.vw.cm) := (HBX.out W hw).cell 7; go_simp⟩) hS ?_
    simp only [Act.put, List.getElem_toArray, List.getElem_cons_succ, List.getElem_cons_zero, List.setIfInBounds_toArray, List.set_cons_zero, List.set_cons_succ]
    refine L_take (i := 26) (v := .pointer (some ⟨g, 0, none⟩)) rfl rfl (by kernel_rfl) (by kernel_rfl) (by kernel_rfl) (by kernel_rfl) (fun _ _ _ h => h) (Or.inl ⟨by rfl, fun W hw => by go_simp⟩) hS ?_
    simp only [Act.put, List.getElem_toArray, List.getElem_cons_succ, List.getElem_cons_zero, List.setIfInBounds_toArray, List.set_cons_zero, List.set_cons_succ]
    refine L_take (i := 27) (v := .pointer (some ⟨g, 0, none⟩)) rfl rfl (by kernel_rfl) (by kernel_rfl) (by kernel_rfl) (by kernel_rfl) (fun _ _ _ h => h) (Or.inl ⟨by rfl, fun W hw => by go_simp⟩) hS ?_
    simp only [Act.put, List.getElem_toArray, List.getElem_cons_succ, List.getElem_cons_zero, List.setIfInBounds_toArray, List.set_cons_zero, List.set_cons_succ]
    refine L_take (i := 28) (v := .pointer (some ⟨g, 8, none⟩)) rfl rfl (by kernel_rfl) (by kernel_rfl) (by kernel_rfl) (by kernel_rfl) (fun _ _ _ h => h) (Or.inl ⟨by rfl, fun W hw => by go_simp⟩) hS ?_
    simp only [Act.put, List.getElem_toArray, List.getElem_cons_succ, List.getElem_cons_zero, List.setIfInBounds_toArray, List.set_cons_zero, List.set_cons_succ]
    refine L_take (i := 29) (v := .agg #[.string (strOf c.vw.par), .int .i64 c.vw.ps, .int .i64 c.vw.ov]) rfl rfl (by kernel_rfl) (by kernel_rfl) (by kernel_rfl) (by kernel_rfl) (fun _ _ _ h => h) (Or.inl ⟨by rfl, fun W hw => by have k0 : W.cell? ⟨g, 8, none⟩ = some (.string (strOf c.vw.par)) := (HBX.out W hw).cell 8; have k1 : W.cell? ⟨g, 9, none⟩ = some (.int .i64 c.vw.ps) := (HBX.out W hw).cell 9; have k2 : W.cell? ⟨g, 10, none⟩ = some (.int .i64 c.vw.ov) := (HBX.out W hw).cell 10; go_simp⟩) hS ?_
    simp only [Act.put, List.getElem_toArray, List.getElem_cons_succ, List.getElem_cons_zero, List.setIfInBounds_toArray, List.set_cons_zero, List.set_cons_succ]
    refine L_take (i := 30) (v := .agg #[.int .i64 (c.seq + 1), .int .i64 c.vw.size, .string (strOf n), .bool c.vw.on, .bool c.vw.good, .bool false, .slice c.vw.M c.vw.row.length c.vw.cm, .string (strOf c.vw.par), .int .i64 c.vw.ps, .int .i64 c.vw.ov, .slice none 0 0]) rfl rfl (by kernel_rfl) (by kernel_rfl) (by kernel_rfl) (by kernel_rfl) (fun _ _ _ h => h) (Or.inl ⟨by rfl, fun W hw => by go_simp⟩) hS ?_
    simp only [Act.put, List.getElem_toArray, List.getElem_cons_succ, List.getElem_cons_zero, List.setIfInBounds_toArray, List.set_cons_zero, List.set_cons_succ]
    refine L_one (j := 31) (by kernel_rfl) rfl (by rfl) ?_
    simp only [Act.put, List.getElem_toArray, List.getElem_cons_succ, List.getElem_cons_zero, List.setIfInBounds_toArray, List.set_cons_zero, List.set_cons_succ]
    obtain ⟨W5, hW5⟩ : ∃ W', W' = World.alloc Wd (.cells #[.int .i64 (c.seq + 1), .int .i64 c.vw.size, .string (strOf n), .bool c.vw.on, .bool c.vw.good, .bool false, .slice c.vw.M c.vw.row.length c.vw.cm, .string (strOf c.vw.par), .int .i64 c.vw.ps, .int .i64 c.vw.ov, .slice none 0 0] 66) := ⟨_, rfl⟩
    have b5 : Below Wd.heap.size Wd W5 := by rw [hW5]; exact below_alloc Wd _
    have hn5 : Reads W5 (Wd.heap.size + 1) 11 (some ⟨Wd.heap.size, 0, none⟩) 1 (⟨c.seq + 1, n, false, c.vw, [], none, 0⟩ : SA).cells := by rw [hW5]; exact Reads.newN Wd (⟨c.seq + 1, n, false, c.vw, [], none, 0⟩ : SA).cells 1 11 66 (0, 0) rfl
    have hS5 := hS.1.of (b5.block _ hS.1.lt)
    have hgn5 : gn < Wd.heap.size := by have := HGN.out; have := HV9.out.2.1.size; have := HK.out.2.2.1; have := HZD.out; omega
    have hS : Blk W5 g 36 #[.int .i64 c.id, .int .i64 c.vw.size, .int .i64 c.obj, .int .i64 (c.seq + 1), .slice c.S c.sn.length c.cs', .bool c.vw.on, .bool c.vw.good, .slice c.vw.M c.vw.row.length c.vw.cm, .string (strOf c.vw.par), .int .i64 c.vw.ps, .int .i64 c.vw.ov, .int .i64 c.ow, .int .i64 c.it, .int .i64 c.tg] ∧ W5.cell? ⟨gn, 0, none⟩ = some (.string (strOf n)) := ⟨hS5, (b5.cell hgn5).trans hS.2⟩
    refine wp_ran (v := .slice (some ⟨Wd.heap.size, 0, none⟩) 1 1) (w' := W5) (by rw [hW5]; go_simp) ⟨hS, ?_⟩
    simp only [Act.put, List.getElem_toArray, List.getElem_cons_succ, List.getElem_cons_zero, List.setIfInBounds_toArray, List.set_cons_zero, List.set_cons_succ]
    clear hW5 hS5
    refine L_one (j := 32) (by kernel_rfl) rfl (by rfl) ?_
    simp only [Act.put, List.getElem_toArray, List.getElem_cons_succ, List.getElem_cons_zero, List.setIfInBounds_toArray, List.set_cons_zero, List.set_cons_succ]
    obtain ⟨i0, hi0, hz0, hz1, hz2⟩ := info_parts snap_info
    have n5 := HND.out.below b5
    refine wp_append_any _ (.tmp 50) (.tmp 77) 32 rfl base 66 i0 _ 11 120 Try.underlying32 hi0 hz0 hz1 hz2 rfl (by omega) (.slice c.S c.sn.length c.cs') c.sn.length (c.sn.flatMap SA.cells) rfl n5.own (Wd.heap.size + 1) (some ⟨Wd.heap.size, 0, none⟩) 1 1 (⟨c.seq + 1, n, false, c.vw, [], none, 0⟩ : SA).cells rfl hn5 (SA.cells_one _) (by have := HNN.out.2.2.1; simp only [maxLen]; omega) (by have := HNN.out.2.2.1; omega) (by have := b5.size; have := HV9.out.2.1.size; have := HK.out.2.2.1; have := HZD.out; omega) ?_
    intro v6 W6 h6 g6 a6
    obtain ⟨A6, c6, rfl⟩ := own_form h6
    have hbl : ∀ k ty cs, Blk W5 k ty cs → ty ≠ 66 → W6.heap[k]? = W5.heap[k]? := fun k ty cs hk hne => g6.block k hk.lt (fun e => own_blk_ne n5.own hk (Ne.symm hne) e.symm)
    have hlow : Below base W5 W6 := ⟨g6.os, g6.tape, g6.output, g6.size, fun k hk => g6.block k (by have := b5.size; have := HV9.out.2.1.size; have := HK.out.2.2.1; have := HZD.out; omega) (fun e => by have := (World.ownsRow.lt n5.own k e.symm).1; omega)⟩
    have hS : Blk W6 g 36 #[.int .i64 c.id, .int .i64 c.vw.size, .int .i64 c.obj, .int .i64 (c.seq + 1), .slice c.S c.sn.length c.cs', .bool c.vw.on, .bool c.vw.good, .slice c.vw.M c.vw.row.length c.vw.cm, .string (strOf c.vw.par), .int .i64 c.vw.ps, .int .i64 c.vw.ov, .int .i64 c.ow, .int .i64 c.it, .int .i64 c.tg] ∧ W6.cell? ⟨gn, 0, none⟩ = some (.string (strOf n)) := ⟨hS.1.of (hbl g _ _ hS.1 (by decide)), (hlow.cell (HGN.out)).trans hS.2⟩
    refine ⟨hS, ?_⟩
    simp only [Act.put, List.getElem_toArray, List.getElem_cons_succ, List.getElem_cons_zero, List.setIfInBounds_toArray, List.set_cons_zero, List.set_cons_succ]
    clear hi0 hz0 hz1 hz2
    refine L_one (j := 33) (by kernel_rfl) rfl (by rfl) ?_
    simp only [Act.put, List.getElem_toArray, List.getElem_cons_succ, List.getElem_cons_zero, List.setIfInBounds_toArray, List.set_cons_zero, List.set_cons_succ]
    refine wp_ran (v := .pointer (some ⟨g, 0, none⟩)) (w' := W6) (by go_simp) ⟨hS, ?_⟩
    simp only [Act.put, List.getElem_toArray, List.getElem_cons_succ, List.getElem_cons_zero, List.setIfInBounds_toArray, List.set_cons_zero, List.set_cons_succ]
    refine L_take (i := 34) (v := .pointer (some ⟨g, 4, none⟩)) rfl rfl (by kernel_rfl) (by kernel_rfl) (by kernel_rfl) (by kernel_rfl) (fun _ _ _ h => h) (Or.inl ⟨by rfl, fun W hw => by go_simp⟩) hS ?_
    simp only [Act.put, List.getElem_toArray, List.getElem_cons_succ, List.getElem_cons_zero, List.setIfInBounds_toArray, List.set_cons_zero, List.set_cons_succ]
    refine L_last (by kernel_rfl) rfl (by rfl) (by kernel_rfl) ?_
    simp only [Act.put, List.getElem_toArray, List.getElem_cons_succ, List.getElem_cons_zero, List.setIfInBounds_toArray, List.set_cons_zero, List.set_cons_succ]
    refine wp_setq 32 (.tmp 80) (.tmp 78) rfl g 4 36 _ (.slice A6 (c.sn.length + 1) c6) rfl rfl hS.1 (by simp) (by kernel_rfl) rfl ?_
    intro W8 K8 o8 s8
    refine NoPanic.normal ?_
    have nvw : c.vw.N W8 base [] := ((n5.vw.of fun k hk => by obtain ⟨cs, kb⟩ := n5.vw.ty hk; exact hbl k _ _ kb (by decide))).stay (stay_only hS.1 (by decide) (by decide) o8)
    have nsn : ∀ x ∈ c.sn, x.N W8 base [] := fun x hx => ((n5.sn x hx).of (fun k hk => by obtain ⟨cs, kb⟩ := (n5.sn x hx).vw.ty hk; exact hbl k _ _ kb (by decide)) (fun k hk => by obtain ⟨cs, kb⟩ := (n5.sn x hx).ty hk; exact hbl k _ _ kb (by decide))).stay (stay_only hS.1 (by decide) (by decide) o8)
    have how : W8.ownsRow base 66 11 (.slice A6 (c.sn.length + 1) c6) (c.sn.length + 1) (c.sn.flatMap SA.cells ++ (⟨c.seq + 1, n, false, c.vw, [], none, 0⟩ : SA).cells) := row_of h6 fun k hk => o8.block k (row_under h6 k hk) (fun hx => by simp at hx; subst hx; obtain ⟨cs, kb⟩ := own_ty h6 hk; exact kb.ne_ hS.1 (by decide) rfl)
    have hb8 : Below base W W8 := (HV9.out.2.1.trans ((hdr.mono (Nat.le_trans HK.out.2.2.1 HV9.out.2.1.size)).trans ((b5.mono (by have := HV9.out.2.1.size; have := HK.out.2.2.1; have := HZD.out; omega)).trans hlow))).trans (o8.below (fun x hx => by simp at hx; have := HK.out.2.2.2; omega) (by have := g6.size; have := b5.size; have := HV9.out.2.1.size; have := HK.out.2.2.1; have := HZD.out; omega))
    have K8' : Blk W8 g 36 #[.int .i64 c.id, .int .i64 c.vw.size, .int .i64 c.obj, .int .i64 (c.seq + 1), .slice A6 (c.sn.length + 1) c6, .bool c.vw.on, .bool c.vw.good, .slice c.vw.M c.vw.row.length c.vw.cm, .string (strOf c.vw.par), .int .i64 c.vw.ps, .int .i64 c.vw.ov, .int .i64 c.ow, .int .i64 c.it, .int .i64 c.tg] := K8
    have H8 := Lib.hid (And.intro nvw (And.intro nsn (And.intro how (And.intro hb8 K8'))))
    have HFZ : Hid (Calls Try.prog 115 #[.slice c.vw.M c.vw.row.length c.vw.cm] W8 fun e w' => ∃ gf, e = .returned (.slice (some ⟨gf, 0, none⟩) c.vw.row.length c.vw.row.length) ∧ W8.heap.size ≤ gf ∧ Blk w' gf 5 (u8s (frozenM c.vw.row)).toArray ∧ Below W8.heap.size W8 w') := Lib.hid ((frozen_any c.vw.M c.vw.row.length c.vw.cm c.vw.row W8 HNN.out.2.2.2 nvw.R.row).mono fun e w' q => ⟨W8.heap.size, q.1, Nat.le_refl _, q.2.1, q.2.2⟩)
    clear nvw nsn how hb8 K8 o8 s8 hS h6 g6 a6 hbl hlow n5 hn5 b5
    have q7 : W8.cell? ⟨g, 7, none⟩ = some (.slice c.vw.M c.vw.row.length c.vw.cm) := K8'.cell 7
    clear K8'
    go_wp2_with fail
    refine HFZ.out.mono ?_
    rintro e Wf ⟨gf, rfl, hgf, kf, bf⟩
    have Kf : Blk Wf g 36 #[.int .i64 c.id, .int .i64 c.vw.size, .int .i64 c.obj, .int .i64 (c.seq + 1), .slice A6 (c.sn.length + 1) c6, .bool c.vw.on, .bool c.vw.good, .slice c.vw.M c.vw.row.length c.vw.cm, .string (strOf c.vw.par), .int .i64 c.vw.ps, .int .i64 c.vw.ov, .int .i64 c.ow, .int .i64 c.it, .int .i64 c.tg] := H8.out.2.2.2.2.of (bf.block _ H8.out.2.2.2.2.lt)
    have HF := Lib.hid (And.intro hgf (And.intro kf (And.intro bf Kf)))
    clear hgf kf bf HFZ q7
    go_wp2_with (have _h := Kf; refine wpList_setq rfl 33 (.tmp 88) (.tmp 86) rfl g 7 36 _ (.slice (some ⟨gf, 0, none⟩) c.vw.row.length c.vw.row.length) rfl rfl Kf (by simp) (by kernel_rfl) rfl ?_; clear _h Kf; intro Wz Kz oz sz)
    go_ret
    have bf := HF.out.2.2.1
    have KF := HF.out.2.2.2
    have hfl : (frozenM c.vw.row).length = c.vw.row.length := by simp [frozenM]
    have hsl : (c.sn ++ [(⟨c.seq + 1, n, false, c.vw, [], none, 0⟩ : SA)]).length = c.sn.length + 1 := by simp
    have st := stay_only KF (by decide) (by decide) oz
    have hgg : g < W8.heap.size := H8.out.2.2.2.2.lt
    have nvz := (H8.out.1.below bf).stay st
    have kfz : Blk Wz gf 5 (u8s (frozenM c.vw.row)).toArray := HF.out.2.1.only oz (by have := HF.out.1; simp; omega)
    have hbz : Below base W Wz := (H8.out.2.2.2.1.trans (bf.mono (by have := H8.out.2.2.2.1.size; have := HK.out.2.2.1; omega))).trans (oz.below (fun x hx => by simp at hx; have := HK.out.2.2.2; omega) (by have := bf.size; have := H8.out.2.2.2.1.size; have := HK.out.2.2.1; omega))
    have hox : Own Wz base (.slice (some ⟨gf, 0, none⟩) c.vw.row.length c.vw.row.length) c.vw.row.length (frozenM c.vw.row) := Own.of_blk kfz hfl (by have := HF.out.1; have := H8.out.2.2.2.1.size; have := HK.out.2.2.1; omega) (by have := HNN.out.2.2.2; omega)
    have howz : Wz.ownsRow base 66 11 (.slice A6 (c.sn.length + 1) c6) (c.sn.length + 1) (c.sn.flatMap SA.cells ++ (⟨c.seq + 1, n, false, c.vw, [], none, 0⟩ : SA).cells) := row_of (own_below H8.out.2.2.1 bf) fun k hk => oz.block k (row_under (own_below H8.out.2.2.1 bf) k hk) (fun hx => by simp at hx; subst hx; obtain ⟨cs, kb⟩ := own_ty (own_below H8.out.2.2.1 bf) hk; exact kb.ne_ KF (by decide) rfl)
    refine ⟨Frm.of hbz, .inr ⟨rfl, ⟨c.id, c.obj, c.seq + 1, A6, c6, c.sn ++ [(⟨c.seq + 1, n, false, c.vw, [], none, 0⟩ : SA)], { c.vw with row := frozenM c.vw.row, M := some ⟨gf, 0, none⟩, cm := c.vw.row.length }, c.ow, c.it, c.tg⟩, ?_, ⟨⟨?_, fun _ _ h => (by cases h), frozen_lt nvz.ok, nvz.par, nvz.size, nvz.ps, nvz.ov, nvz.pl⟩, fun x hx => ?_, ?_, HK.out.2.1.id, HK.out.2.1.obj, ?_, HK.out.2.1.ow, HK.out.2.1.it, HK.out.2.1.tg⟩, ?_⟩⟩
    · unfold HA.cs
      simp only [hfl, hsl]
      exact Kz
    · show Own Wz base (.slice (some ⟨gf, 0, none⟩) (frozenM c.vw.row).length c.vw.row.length) (frozenM c.vw.row).length (frozenM c.vw.row)
      rw [hfl]; exact hox
    · rcases List.mem_append.1 hx with hx | hx
      · exact ((H8.out.2.1 x hx).below bf).stay st
      · simp only [List.mem_singleton] at hx
        subst hx
        exact ⟨nvz, World.ownsRow_nil _ _ _ 1, fun _ _ h => (by cases h), fun c hc => (by cases hc), HNN.out.1, (by show I64 (c.seq + 1); unfold I64; have := HC2.out.2; omega), HNN.out.2.1⟩
    · show Wz.ownsRow base 66 11 (.slice A6 (c.sn ++ [(⟨c.seq + 1, n, false, c.vw, [], none, 0⟩ : SA)]).length c6) (c.sn ++ [(⟨c.seq + 1, n, false, c.vw, [], none, 0⟩ : SA)]).length _
      rw [hsl, List.flatMap_append]
      simpa using howz
    · show I64 (c.seq + 1)
      unfold I64; have := HC2.out.2; omega
    · refine ⟨HC0.out, HIX.out.2, HC1.out, by rw [HLL.out, ← HM.out]; have := HC2.out.1; omega, HC2.out.2, ?_⟩
      show HdV.mk _ _ _ _ _ _ _ _ _ _ = _
      unfold SnpV
      rw [List.map_append]
      rfl
end Go.Proofs.Ytiimanoloedbeaa

/-
  SnapMake: what it answers. Conditions: the head reads as it is said to, and is small.
-/
namespace Go.Proofs.Ytiimanoloedbeaa
open Go.RowKit Go.BigFrame
set_option linter.unusedSimpArgs false
set_option linter.unusedVariables false
set_option maxRecDepth 100000
set_option maxHeartbeats 16000000 in
theorem snapmake_any (h : HA) (w : World) (n : List Nat) (hn : ∀ b ∈ n, b < 256) (hnl : n.length ≤ 1000000) (hR : h.R SA.cells w) (hS : h.Sm) : Calls Try.prog 71 #[.agg h.cs, .string (strOf n)] w (AnsTo w h.v (fun k => SnpE h.v n k) (fun v => SnpO h.v n v)) := by
  obtain ⟨W1, hW1⟩ : ∃ W, W = ((w.alloc (.cells #[.int .i64 h.id, .int .i64 h.vw.size, .int .i64 h.obj, .int .i64 h.seq, .slice h.S h.sn.length h.cs', .bool h.vw.on, .bool h.vw.good, .slice h.vw.M h.vw.row.length h.vw.cm, .string (strOf h.vw.par), .int .i64 h.vw.ps, .int .i64 h.vw.ov, .int .i64 h.ow, .int .i64 h.it, .int .i64 h.tg] 36)).alloc (.cells #[.string (strOf n)] 9)).alloc (.cells #[.int .i64 0, .int .i64 0, .int .i64 0, .int .i64 0, .slice none 0 0, .bool false, .bool false, .slice none 0 0, .string ⟨#[]⟩, .int .i64 0, .int .i64 0, .int .i64 0, .int .i64 0, .int .i64 0] 36) := ⟨_, rfl⟩
  have h1 : Below w.heap.size w W1 ∧ W1.heap.size = w.heap.size + 3 ∧ Blk W1 w.heap.size 36 #[.int .i64 h.id, .int .i64 h.vw.size, .int .i64 h.obj, .int .i64 h.seq, .slice h.S h.sn.length h.cs', .bool h.vw.on, .bool h.vw.good, .slice h.vw.M h.vw.row.length h.vw.cm, .string (strOf h.vw.par), .int .i64 h.vw.ps, .int .i64 h.vw.ov, .int .i64 h.ow, .int .i64 h.it, .int .i64 h.tg] ∧ Blk W1 (w.heap.size + 2) 36 #[.int .i64 0, .int .i64 0, .int .i64 0, .int .i64 0, .slice none 0 0, .bool false, .bool false, .slice none 0 0, .string ⟨#[]⟩, .int .i64 0, .int .i64 0, .int .i64 0, .int .i64 0, .int .i64 0] := by
    rw [hW1]
    refine ⟨(((below_alloc w _).alloc (by simp <;> omega) _).alloc (by simp <;> omega) _), by simp, (((Blk.new w _ _).alloc _).alloc _), ?_⟩
    have := Blk.new ((w.alloc (.cells #[.int .i64 h.id, .int .i64 h.vw.size, .int .i64 h.obj, .int .i64 h.seq, .slice h.S h.sn.length h.cs', .bool h.vw.on, .bool h.vw.good, .slice h.vw.M h.vw.row.length h.vw.cm, .string (strOf h.vw.par), .int .i64 h.vw.ps, .int .i64 h.vw.ov, .int .i64 h.ow, .int .i64 h.it, .int .i64 h.tg] 36)).alloc (.cells #[.string (strOf n)] 9)) 36 #[.int .i64 0, .int .i64 0, .int .i64 0, .int .i64 0, .slice none 0 0, .bool false, .bool false, .slice none 0 0, .string ⟨#[]⟩, .int .i64 0, .int .i64 0, .int .i64 0, .int .i64 0, .int .i64 0]
    simpa using this
  have p0 : Blk W1 (w.heap.size + 1) 9 #[.string (strOf n)] := by
    have := Blk.new (w.alloc (.cells #[.int .i64 h.id, .int .i64 h.vw.size, .int .i64 h.obj, .int .i64 h.seq, .slice h.S h.sn.length h.cs', .bool h.vw.on, .bool h.vw.good, .slice h.vw.M h.vw.row.length h.vw.cm, .string (strOf h.vw.par), .int .i64 h.vw.ps, .int .i64 h.vw.ov, .int .i64 h.ow, .int .i64 h.it, .int .i64 h.tg] 36)) 9 #[.string (strOf n)]
    rw [hW1]
    exact ((by simpa using this : Blk ((w.alloc (.cells #[.int .i64 h.id, .int .i64 h.vw.size, .int .i64 h.obj, .int .i64 h.seq, .slice h.S h.sn.length h.cs', .bool h.vw.on, .bool h.vw.good, .slice h.vw.M h.vw.row.length h.vw.cm, .string (strOf h.vw.par), .int .i64 h.vw.ps, .int .i64 h.vw.ov, .int .i64 h.ow, .int .i64 h.it, .int .i64 h.tg] 36)).alloc (.cells #[.string (strOf n)] 9)) (w.heap.size + 1) 9 #[.string (strOf n)]).alloc _)
  have HCH := Lib.hid (change_any h W1 (hR.since h1.1) hS 113 (fun args w => by kernel_rfl) #[.pointer (some ⟨w.heap.size + 1, 0, none⟩)] [] (fun k hk => by cases hk) (fun k _ => SnpE h.v n k) (fun v _ => SnpO h.v n v) (fun _ _ _ _ p => p) (fun _ _ _ _ p => p) (fun W base g c hb1 hb2 hbw hg hk hN hD hcv hB => by
    rw [← hcv]; exact snp1_any W base g c (w.heap.size + 1) n hb2 hg hk hN (by have e : c.sn.length = h.sn.length := by { have := congrArg (fun v => v.sn.length) hcv; simpa [HA.v] using this }; have := hS.cn; omega) (by have e : c.vw.row = h.vw.row := congrArg (fun v => v.mx.row) hcv; rw [e]; exact hS.vw.row) (by have := h1.2.1; omega) hn hnl ((p0.of (hbw.block _ p0.lt)).cell 0)))
  have HW1 := Lib.hid hW1
  have H1 := Lib.hid h1
  clear hW1 h1 hR hS p0
  unfold HA.cs at *
  have hz := head_zero
  go_enter Try.func71, Try.ntmps71
  go_upto_region 1 with (fail)
  rw [← HW1.out]
  clear HW1
  have K1 := H1.out.2.2.1
  go_wp2_with (have _h := K1; refine wpList_loadq rfl 36 (.tmp 2) rfl (w.heap.size) [.int .i64 h.id, .int .i64 h.vw.size, .int .i64 h.obj, .int .i64 h.seq, .slice h.S h.sn.length h.cs', .bool h.vw.on, .bool h.vw.good, .slice h.vw.M h.vw.row.length h.vw.cm, .string (strOf h.vw.par), .int .i64 h.vw.ps, .int .i64 h.vw.ov, .int .i64 h.ow, .int .i64 h.it, .int .i64 h.tg] _ rfl K1 Try.underlying36 rfl (by kernel_rfl) ?_; clear _h K1)
  refine HCH.out.mono ?_
  rintro e w2 ⟨f2, h2⟩
  have b2 : Below W1.heap.size W1 w2 := f2.below
  have K2 : Blk w2 (w.heap.size + 2) 36 #[.int .i64 0, .int .i64 0, .int .i64 0, .int .i64 0, .slice none 0 0, .bool false, .bool false, .slice none 0 0, .string ⟨#[]⟩, .int .i64 0, .int .i64 0, .int .i64 0, .int .i64 0, .int .i64 0] := H1.out.2.2.2.of (b2.block _ H1.out.2.2.2.lt)
  have HB2 : Hid (Below w.heap.size w w2) := Lib.hid (H1.out.1.trans (b2.mono H1.out.1.size))
  have hz2 := HB2.out.size
  have HR2 := Lib.hid K2
  clear b2 f2 HCH
  rcases h2 with ⟨hB, rfl⟩ | ⟨hB, k, rfl, hk0, hpe⟩ | ⟨hB, q, rfl, hqN, hpo⟩
  · have HH := Lib.hid hB
    clear hB
    simp only [errV, Z14]
    go_wp2_with (have _h := K2; refine wpList_storeq rfl 36 (.tmp 4) (.tmp 9) rfl (w.heap.size + 2) _ [.int .i64 0, .int .i64 0, .int .i64 0, .int .i64 0, .slice none 0 0, .bool false, .bool false, .slice none 0 0, .string ⟨#[]⟩, .int .i64 0, .int .i64 0, .int .i64 0, .int .i64 0, .int .i64 0] rfl rfl K2 (by simp) (by kernel_rfl) (one14 _ _ _ _ _ _ _ _ _ _ _ _ _ _ _ _ _ _) ?_; clear _h K2; intro w9 K9 o9 s9)
    refine bodyPost_ret (results_cell_tmp9 rfl _ _ (w.heap.size + 2) 36 _ (0, 0) _ _ rfl rfl K9 Try.underlying36 rfl (by kernel_rfl)) rfl ?_
    exact ⟨HB2.out.trans (o9.below (fun x hx => by simp at hx; omega) hz2), .inl ⟨HH.out, rfl⟩⟩
  · obtain ⟨k, rfl⟩ : ∃ k', k = k' + 1 := ⟨k - 1, by omega⟩
    have HH := Lib.hid (And.intro hB hpe)
    clear hB hpe hk0
    simp only [errV, Z14]
    go_wp2_with (have _h := K2; refine wpList_storeq rfl 36 (.tmp 4) (.tmp 9) rfl (w.heap.size + 2) _ [.int .i64 0, .int .i64 0, .int .i64 0, .int .i64 0, .slice none 0 0, .bool false, .bool false, .slice none 0 0, .string ⟨#[]⟩, .int .i64 0, .int .i64 0, .int .i64 0, .int .i64 0, .int .i64 0] rfl rfl K2 (by simp) (by kernel_rfl) (one14 _ _ _ _ _ _ _ _ _ _ _ _ _ _ _ _ _ _) ?_; clear _h K2; intro w9 K9 o9 s9)
    refine bodyPost_ret (results_cell_tmp9 rfl _ _ (w.heap.size + 2) 36 _ (0, 0) _ _ rfl rfl K9 Try.underlying36 rfl (by kernel_rfl)) rfl ?_
    exact ⟨HB2.out.trans (o9.below (fun x hx => by simp at hx; omega) hz2), .inr (.inl ⟨HH.out.1, k + 1, rfl, by omega, HH.out.2⟩)⟩
  · have HH := Lib.hid (And.intro hB (And.intro hqN hpo))
    clear hB hqN hpo
    unfold HA.cs
    go_wp2_with (have _h := K2; refine wpList_storeq rfl 36 (.tmp 4) (.tmp 9) rfl (w.heap.size + 2) _ [.int .i64 q.id, .int .i64 q.vw.size, .int .i64 q.obj, .int .i64 q.seq, .slice q.S q.sn.length q.cs', .bool q.vw.on, .bool q.vw.good, .slice q.vw.M q.vw.row.length q.vw.cm, .string (strOf q.vw.par), .int .i64 q.vw.ps, .int .i64 q.vw.ov, .int .i64 q.ow, .int .i64 q.it, .int .i64 q.tg] rfl rfl K2 (by simp) (by kernel_rfl) (one14 _ _ _ _ _ _ _ _ _ _ _ _ _ _ _ _ _ _) ?_; clear _h K2; intro w9 K9 o9 s9)
    refine bodyPost_ret (results_cell_tmp9 rfl _ _ (w.heap.size + 2) 36 _ (0, 0) _ _ rfl rfl K9 Try.underlying36 rfl (by kernel_rfl)) rfl ?_
    exact ⟨HB2.out.trans (o9.below (fun x hx => by simp at hx; omega) hz2), .inr (.inr ⟨HH.out.1, q, rfl, (HH.out.2.1.stay HR2.out o9).weaken (by have := H1.out.2.1; omega), HH.out.2.2⟩)⟩
end Go.Proofs.Ytiimanoloedbeaa

/-
  MapTurn, changeSnap, Protect, Unprotect: what they answer. Conditions: the head reads as it is said to, and is small.
-/
namespace Go.Proofs.Ytiimanoloedbeaa
open Go.RowKit Go.BigFrame
set_option linter.unusedSimpArgs false
set_option linter.unusedVariables false
set_option maxRecDepth 100000
set_option maxHeartbeats 16000000 in
theorem mapturn_any (h : HA) (w : World) (on good : Bool) (hR : h.R SA.cells w) (hS : h.Sm) : Calls Try.prog 81 #[.agg h.cs, .bool on, .bool good] w (AnsTo w h.v (fun k => MtE on good k) (fun v => MtO h.v on good v)) := by
  obtain ⟨W1, hW1⟩ : ∃ W, W = (((w.alloc (.cells #[.int .i64 h.id, .int .i64 h.vw.size, .int .i64 h.obj, .int .i64 h.seq, .slice h.S h.sn.length h.cs', .bool h.vw.on, .bool h.vw.good, .slice h.vw.M h.vw.row.length h.vw.cm, .string (strOf h.vw.par), .int .i64 h.vw.ps, .int .i64 h.vw.ov, .int .i64 h.ow, .int .i64 h.it, .int .i64 h.tg] 36)).alloc (.cells #[.bool on] 4)).alloc (.cells #[.bool good] 4)).alloc (.cells #[.int .i64 0, .int .i64 0, .int .i64 0, .int .i64 0, .slice none 0 0, .bool false, .bool false, .slice none 0 0, .string ⟨#[]⟩, .int .i64 0, .int .i64 0, .int .i64 0, .int .i64 0, .int .i64 0] 36) := ⟨_, rfl⟩
  have h1 : Below w.heap.size w W1 ∧ W1.heap.size = w.heap.size + 4 ∧ Blk W1 w.heap.size 36 #[.int .i64 h.id, .int .i64 h.vw.size, .int .i64 h.obj, .int .i64 h.seq, .slice h.S h.sn.length h.cs', .bool h.vw.on, .bool h.vw.good, .slice h.vw.M h.vw.row.length h.vw.cm, .string (strOf h.vw.par), .int .i64 h.vw.ps, .int .i64 h.vw.ov, .int .i64 h.ow, .int .i64 h.it, .int .i64 h.tg] ∧ Blk W1 (w.heap.size + 3) 36 #[.int .i64 0, .int .i64 0, .int .i64 0, .int .i64 0, .slice none 0 0, .bool false, .bool false, .slice none 0 0, .string ⟨#[]⟩, .int .i64 0, .int .i64 0, .int .i64 0, .int .i64 0, .int .i64 0] := by
    rw [hW1]
    refine ⟨((((below_alloc w _).alloc (by simp <;> omega) _).alloc (by simp <;> omega) _).alloc (by simp <;> omega) _), by simp, ((((Blk.new w _ _).alloc _).alloc _).alloc _), ?_⟩
    have := Blk.new (((w.alloc (.cells #[.int .i64 h.id, .int .i64 h.vw.size, .int .i64 h.obj, .int .i64 h.seq, .slice h.S h.sn.length h.cs', .bool h.vw.on, .bool h.vw.good, .slice h.vw.M h.vw.row.length h.vw.cm, .string (strOf h.vw.par), .int .i64 h.vw.ps, .int .i64 h.vw.ov, .int .i64 h.ow, .int .i64 h.it, .int .i64 h.tg] 36)).alloc (.cells #[.bool on] 4)).alloc (.cells #[.bool good] 4)) 36 #[.int .i64 0, .int .i64 0, .int .i64 0, .int .i64 0, .slice none 0 0, .bool false, .bool false, .slice none 0 0, .string ⟨#[]⟩, .int .i64 0, .int .i64 0, .int .i64 0, .int .i64 0, .int .i64 0]
    simpa using this
  have p0 : Blk W1 (w.heap.size + 1) 4 #[.bool on] := by
    have := Blk.new (w.alloc (.cells #[.int .i64 h.id, .int .i64 h.vw.size, .int .i64 h.obj, .int .i64 h.seq, .slice h.S h.sn.length h.cs', .bool h.vw.on, .bool h.vw.good, .slice h.vw.M h.vw.row.length h.vw.cm, .string (strOf h.vw.par), .int .i64 h.vw.ps, .int .i64 h.vw.ov, .int .i64 h.ow, .int .i64 h.it, .int .i64 h.tg] 36)) 4 #[.bool on]
    rw [hW1]
    exact (((by simpa using this : Blk ((w.alloc (.cells #[.int .i64 h.id, .int .i64 h.vw.size, .int .i64 h.obj, .int .i64 h.seq, .slice h.S h.sn.length h.cs', .bool h.vw.on, .bool h.vw.good, .slice h.vw.M h.vw.row.length h.vw.cm, .string (strOf h.vw.par), .int .i64 h.vw.ps, .int .i64 h.vw.ov, .int .i64 h.ow, .int .i64 h.it, .int .i64 h.tg] 36)).alloc (.cells #[.bool on] 4)) (w.heap.size + 1) 4 #[.bool on]).alloc _).alloc _)
  have p1 : Blk W1 (w.heap.size + 2) 4 #[.bool good] := by
    have := Blk.new ((w.alloc (.cells #[.int .i64 h.id, .int .i64 h.vw.size, .int .i64 h.obj, .int .i64 h.seq, .slice h.S h.sn.length h.cs', .bool h.vw.on, .bool h.vw.good, .slice h.vw.M h.vw.row.length h.vw.cm, .string (strOf h.vw.par), .int .i64 h.vw.ps, .int .i64 h.vw.ov, .int .i64 h.ow, .int .i64 h.it, .int .i64 h.tg] 36)).alloc (.cells #[.bool on] 4)) 4 #[.bool good]
    rw [hW1]
    exact ((by simpa using this : Blk (((w.alloc (.cells #[.int .i64 h.id, .int .i64 h.vw.size, .int .i64 h.obj, .int .i64 h.seq, .slice h.S h.sn.length h.cs', .bool h.vw.on, .bool h.vw.good, .slice h.vw.M h.vw.row.length h.vw.cm, .string (strOf h.vw.par), .int .i64 h.vw.ps, .int .i64 h.vw.ov, .int .i64 h.ow, .int .i64 h.it, .int .i64 h.tg] 36)).alloc (.cells #[.bool on] 4)).alloc (.cells #[.bool good] 4)) (w.heap.size + 2) 4 #[.bool good]).alloc _)
  have HCH := Lib.hid (change_any h W1 (hR.since h1.1) hS 135 (fun args w => by kernel_rfl) #[.pointer (some ⟨w.heap.size + 2, 0, none⟩), .pointer (some ⟨w.heap.size + 1, 0, none⟩)] [] (fun k hk => by cases hk) (fun k _ => MtE on good k) (fun v _ => MtO h.v on good v) (fun _ _ _ _ p => p) (fun _ _ _ _ p => p) (fun W base g c hb1 hb2 hbw hg hk hN hD hcv hB => by
    rw [← hcv]; exact mt1_any W base g c (w.heap.size + 2) (w.heap.size + 1) on good hb2 hg hk hN (hcv ▸ hB) (by have := h1.2.1; omega) (by have := h1.2.1; omega) ((p1.of (hbw.block _ p1.lt)).cell 0) ((p0.of (hbw.block _ p0.lt)).cell 0)))
  have HW1 := Lib.hid hW1
  have H1 := Lib.hid h1
  clear hW1 h1 hR hS p0 p1
  unfold HA.cs at *
  have hz := head_zero
  go_enter Try.func81, Try.ntmps81
  go_upto_region 1 with (fail)
  rw [← HW1.out]
  clear HW1
  have K1 := H1.out.2.2.1
  go_wp2_with (have _h := K1; refine wpList_loadq rfl 36 (.tmp 3) rfl (w.heap.size) [.int .i64 h.id, .int .i64 h.vw.size, .int .i64 h.obj, .int .i64 h.seq, .slice h.S h.sn.length h.cs', .bool h.vw.on, .bool h.vw.good, .slice h.vw.M h.vw.row.length h.vw.cm, .string (strOf h.vw.par), .int .i64 h.vw.ps, .int .i64 h.vw.ov, .int .i64 h.ow, .int .i64 h.it, .int .i64 h.tg] _ rfl K1 Try.underlying36 rfl (by kernel_rfl) ?_; clear _h K1)
  refine HCH.out.mono ?_
  rintro e w2 ⟨f2, h2⟩
  have b2 : Below W1.heap.size W1 w2 := f2.below
  have K2 : Blk w2 (w.heap.size + 3) 36 #[.int .i64 0, .int .i64 0, .int .i64 0, .int .i64 0, .slice none 0 0, .bool false, .bool false, .slice none 0 0, .string ⟨#[]⟩, .int .i64 0, .int .i64 0, .int .i64 0, .int .i64 0, .int .i64 0] := H1.out.2.2.2.of (b2.block _ H1.out.2.2.2.lt)
  have HB2 : Hid (Below w.heap.size w w2) := Lib.hid (H1.out.1.trans (b2.mono H1.out.1.size))
  have hz2 := HB2.out.size
  have HR2 := Lib.hid K2
  clear b2 f2 HCH
  rcases h2 with ⟨hB, rfl⟩ | ⟨hB, k, rfl, hk0, hpe⟩ | ⟨hB, q, rfl, hqN, hpo⟩
  · have HH := Lib.hid hB
    clear hB
    simp only [errV, Z14]
    go_wp2_with (have _h := K2; refine wpList_storeq rfl 36 (.tmp 6) (.tmp 11) rfl (w.heap.size + 3) _ [.int .i64 0, .int .i64 0, .int .i64 0, .int .i64 0, .slice none 0 0, .bool false, .bool false, .slice none 0 0, .string ⟨#[]⟩, .int .i64 0, .int .i64 0, .int .i64 0, .int .i64 0, .int .i64 0] rfl rfl K2 (by simp) (by kernel_rfl) (one14 _ _ _ _ _ _ _ _ _ _ _ _ _ _ _ _ _ _) ?_; clear _h K2; intro w9 K9 o9 s9)
    refine bodyPost_ret (results_cell_tmp9 rfl _ _ (w.heap.size + 3) 36 _ (0, 0) _ _ rfl rfl K9 Try.underlying36 rfl (by kernel_rfl)) rfl ?_
    exact ⟨HB2.out.trans (o9.below (fun x hx => by simp at hx; omega) hz2), .inl ⟨HH.out, rfl⟩⟩
  · obtain ⟨k, rfl⟩ : ∃ k', k = k' + 1 := ⟨k - 1, by omega⟩
    have HH := Lib.hid (And.intro hB hpe)
    clear hB hpe hk0
    simp only [errV, Z14]
    go_wp2_with (have _h := K2; refine wpList_storeq rfl 36 (.tmp 6) (.tmp 11) rfl (w.heap.size + 3) _ [.int .i64 0, .int .i64 0, .int .i64 0, .int .i64 0, .slice none 0 0, .bool false, .bool false, .slice none 0 0, .string ⟨#[]⟩, .int .i64 0, .int .i64 0, .int .i64 0, .int .i64 0, .int .i64 0] rfl rfl K2 (by simp) (by kernel_rfl) (one14 _ _ _ _ _ _ _ _ _ _ _ _ _ _ _ _ _ _) ?_; clear _h K2; intro w9 K9 o9 s9)
    refine bodyPost_ret (results_cell_tmp9 rfl _ _ (w.heap.size + 3) 36 _ (0, 0) _ _ rfl rfl K9 Try.underlying36 rfl (by kernel_rfl)) rfl ?_
    exact ⟨HB2.out.trans (o9.below (fun x hx => by simp at hx; omega) hz2), .inr (.inl ⟨HH.out.1, k + 1, rfl, by omega, HH.out.2⟩)⟩
  · have HH := Lib.hid (And.intro hB (And.intro hqN hpo))
    clear hB hqN hpo
    unfold HA.cs
    go_wp2_with (have _h := K2; refine wpList_storeq rfl 36 (.tmp 6) (.tmp 11) rfl (w.heap.size + 3) _ [.int .i64 q.id, .int .i64 q.vw.size, .int .i64 q.obj, .int .i64 q.seq, .slice q.S q.sn.length q.cs', .bool q.vw.on, .bool q.vw.good, .slice q.vw.M q.vw.row.length q.vw.cm, .string (strOf q.vw.par), .int .i64 q.vw.ps, .int .i64 q.vw.ov, .int .i64 q.ow, .int .i64 q.it, .int .i64 q.tg] rfl rfl K2 (by simp) (by kernel_rfl) (one14 _ _ _ _ _ _ _ _ _ _ _ _ _ _ _ _ _ _) ?_; clear _h K2; intro w9 K9 o9 s9)
    refine bodyPost_ret (results_cell_tmp9 rfl _ _ (w.heap.size + 3) 36 _ (0, 0) _ _ rfl rfl K9 Try.underlying36 rfl (by kernel_rfl)) rfl ?_
    exact ⟨HB2.out.trans (o9.below (fun x hx => by simp at hx; omega) hz2), .inr (.inr ⟨HH.out.1, q, rfl, (HH.out.2.1.stay HR2.out o9).weaken (by have := H1.out.2.1; omega), HH.out.2.2⟩)⟩
def ChsEP (v : HdV) (n : List Nat) (PE : SnV → Nat → Prop) (k : Nat) : Prop := (idxS v n < 0 ∧ k = 6) ∨ ∃ (i : Nat) (s : SnV), idxS v n = i ∧ v.sn[i]? = some s ∧ PE s k
def ChsOP (v : HdV) (n : List Nat) (PO : Nat → SnV → HdV → Prop) (v' : HdV) : Prop := ∃ (i : Nat) (s : SnV), idxS v n = i ∧ v.sn[i]? = some s ∧ PO i s v'
set_option maxHeartbeats 16000000 in
theorem changeSnap_any (h : HA) (w : World) (n : List Nat) (hn : ∀ b ∈ n, b < 256) (fn : Nat) (hEN : Enters Try.prog fn) (caps : Array Value) (PE : SnV → Nat → Prop) (PO : Nat → SnV → HdV → Prop) (HD : ∀ W1 base, Below w.heap.size w W1 → W1.heap.size ≤ base → SnDoes fn caps [] h.v base W1 (fun s k _ => PE s k) (fun i s v _ => PO i s v)) (hR : h.R SA.cells w) (hS : h.Sm) : Calls Try.prog 116 #[.agg h.cs, .string (strOf n), .func (.func fn) #[] caps] w (AnsTo w h.v (fun k => ChsEP h.v n PE k) (fun v => ChsOP h.v n PO v)) := by
  obtain ⟨W1, hW1⟩ : ∃ W, W = (((w.alloc (.cells #[.int .i64 h.id, .int .i64 h.vw.size, .int .i64 h.obj, .int .i64 h.seq, .slice h.S h.sn.length h.cs', .bool h.vw.on, .bool h.vw.good, .slice h.vw.M h.vw.row.length h.vw.cm, .string (strOf h.vw.par), .int .i64 h.vw.ps, .int .i64 h.vw.ov, .int .i64 h.ow, .int .i64 h.it, .int .i64 h.tg] 36)).alloc (.cells #[.string (strOf n)] 9)).alloc (.cells #[.func (.func fn) #[] caps] 153)).alloc (.cells #[.int .i64 0, .int .i64 0, .int .i64 0, .int .i64 0, .slice none 0 0, .bool false, .bool false, .slice none 0 0, .string ⟨#[]⟩, .int .i64 0, .int .i64 0, .int .i64 0, .int .i64 0, .int .i64 0] 36) := ⟨_, rfl⟩
  have h1 : Below w.heap.size w W1 ∧ W1.heap.size = w.heap.size + 4 ∧ Blk W1 w.heap.size 36 #[.int .i64 h.id, .int .i64 h.vw.size, .int .i64 h.obj, .int .i64 h.seq, .slice h.S h.sn.length h.cs', .bool h.vw.on, .bool h.vw.good, .slice h.vw.M h.vw.row.length h.vw.cm, .string (strOf h.vw.par), .int .i64 h.vw.ps, .int .i64 h.vw.ov, .int .i64 h.ow, .int .i64 h.it, .int .i64 h.tg] ∧ Blk W1 (w.heap.size + 3) 36 #[.int .i64 0, .int .i64 0, .int .i64 0, .int .i64 0, .slice none 0 0, .bool false, .bool false, .slice none 0 0, .string ⟨#[]⟩, .int .i64 0, .int .i64 0, .int .i64 0, .int .i64 0, .int .i64 0] := by
    rw [hW1]
    refine ⟨((((below_alloc w _).alloc (by simp <;> omega) _).alloc (by simp <;> omega) _).alloc (by simp <;> omega) _), by simp, ((((Blk.new w _ _).alloc _).alloc _).alloc _), ?_⟩
    have := Blk.new (((w.alloc (.cells #[.int .i64 h.id, .int .i64 h.vw.size, .int .i64 h.obj, .int .i64 h.seq, .slice h.S h.sn.length h.cs', .bool h.vw.on, .bool h.vw.good, .slice h.vw.M h.vw.row.length h.vw.cm, .string (strOf h.vw.par), .int .i64 h.vw.ps, .int .i64 h.vw.ov, .int .i64 h.ow, .int .i64 h.it, .int .i64 h.tg] 36)).alloc (.cells #[.string (strOf n)] 9)).alloc (.cells #[.func (.func fn) #[] caps] 153)) 36 #[.int .i64 0, .int .i64 0, .int .i64 0, .int .i64 0, .slice none 0 0, .bool false, .bool false, .slice none 0 0, .string ⟨#[]⟩, .int .i64 0, .int .i64 0, .int .i64 0, .int .i64 0, .int .i64 0]
    simpa using this
  have p0 : Blk W1 (w.heap.size + 1) 9 #[.string (strOf n)] := by
    have := Blk.new (w.alloc (.cells #[.int .i64 h.id, .int .i64 h.vw.size, .int .i64 h.obj, .int .i64 h.seq, .slice h.S h.sn.length h.cs', .bool h.vw.on, .bool h.vw.good, .slice h.vw.M h.vw.row.length h.vw.cm, .string (strOf h.vw.par), .int .i64 h.vw.ps, .int .i64 h.vw.ov, .int .i64 h.ow, .int .i64 h.it, .int .i64 h.tg] 36)) 9 #[.string (strOf n)]
    rw [hW1]
    exact (((by simpa using this : Blk ((w.alloc (.cells #[.int .i64 h.id, .int .i64 h.vw.size, .int .i64 h.obj, .int .i64 h.seq, .slice h.S h.sn.length h.cs', .bool h.vw.on, .bool h.vw.good, .slice h.vw.M h.vw.row.length h.vw.cm, .string (strOf h.vw.par), .int .i64 h.vw.ps, .int .i64 h.vw.ov, .int .i64 h.ow, .int .i64 h.it, .int .i64 h.tg] 36)).alloc (.cells #[.string (strOf n)] 9)) (w.heap.size + 1) 9 #[.string (strOf n)]).alloc _).alloc _)
  have p1 : Blk W1 (w.heap.size + 2) 153 #[.func (.func fn) #[] caps] := by
    have := Blk.new ((w.alloc (.cells #[.int .i64 h.id, .int .i64 h.vw.size, .int .i64 h.obj, .int .i64 h.seq, .slice h.S h.sn.length h.cs', .bool h.vw.on, .bool h.vw.good, .slice h.vw.M h.vw.row.length h.vw.cm, .string (strOf h.vw.par), .int .i64 h.vw.ps, .int .i64 h.vw.ov, .int .i64 h.ow, .int .i64 h.it, .int .i64 h.tg] 36)).alloc (.cells #[.string (strOf n)] 9)) 153 #[.func (.func fn) #[] caps]
    rw [hW1]
    exact ((by simpa using this : Blk (((w.alloc (.cells #[.int .i64 h.id, .int .i64 h.vw.size, .int .i64 h.obj, .int .i64 h.seq, .slice h.S h.sn.length h.cs', .bool h.vw.on, .bool h.vw.good, .slice h.vw.M h.vw.row.length h.vw.cm, .string (strOf h.vw.par), .int .i64 h.vw.ps, .int .i64 h.vw.ov, .int .i64 h.ow, .int .i64 h.it, .int .i64 h.tg] 36)).alloc (.cells #[.string (strOf n)] 9)).alloc (.cells #[.func (.func fn) #[] caps] 153)) (w.heap.size + 2) 153 #[.func (.func fn) #[] caps]).alloc _)
  have HCH := Lib.hid (change_any h W1 (hR.since h1.1) hS 152 (fun args w => by kernel_rfl) #[.pointer (some ⟨w.heap.size + 1, 0, none⟩), .pointer (some ⟨w.heap.size + 2, 0, none⟩)] [] (fun k hk => by cases hk) (fun k _ => ChsEP h.v n PE k) (fun v _ => ChsOP h.v n PO v) (fun _ _ _ _ p => p) (fun _ _ _ _ p => p) (fun W base g c hb1 hb2 hbw hg hk hN hD hcv hB => by
    rw [← hcv]; exact chs1_any W W1 base g (w.heap.size + 1) (w.heap.size + 2) fn hEN caps [] n c (fun s k _ => PE s k) (fun i s v _ => PO i s v) hb2 hbw hg hk hN hD (by have e : c.sn.length = h.sn.length := by { have := congrArg (fun v => v.sn.length) hcv; simpa [HA.v] using this }; have := hS.cn; omega) hn (by have := h1.2.1; omega) (by have := h1.2.1; omega) (by simp) ((p0.of (hbw.block _ p0.lt)).cell 0) ((p1.of (hbw.block _ p1.lt)).cell 0) (hcv ▸ HD W1 base h1.1 hb1)))
  have HW1 := Lib.hid hW1
  have H1 := Lib.hid h1
  clear hW1 h1 hR hS p0 p1
  unfold HA.cs at *
  have hz := head_zero
  go_enter Try.func116, Try.ntmps116
  go_upto_region 1 with (fail)
  rw [← HW1.out]
  clear HW1
  have K1 := H1.out.2.2.1
  go_wp2_with (have _h := K1; refine wpList_loadq rfl 36 (.tmp 3) rfl (w.heap.size) [.int .i64 h.id, .int .i64 h.vw.size, .int .i64 h.obj, .int .i64 h.seq, .slice h.S h.sn.length h.cs', .bool h.vw.on, .bool h.vw.good, .slice h.vw.M h.vw.row.length h.vw.cm, .string (strOf h.vw.par), .int .i64 h.vw.ps, .int .i64 h.vw.ov, .int .i64 h.ow, .int .i64 h.it, .int .i64 h.tg] _ rfl K1 Try.underlying36 rfl (by kernel_rfl) ?_; clear _h K1)
  refine HCH.out.mono ?_
  rintro e w2 ⟨f2, h2⟩
  have b2 : Below W1.heap.size W1 w2 := f2.below
  have K2 : Blk w2 (w.heap.size + 3) 36 #[.int .i64 0, .int .i64 0, .int .i64 0, .int .i64 0, .slice none 0 0, .bool false, .bool false, .slice none 0 0, .string ⟨#[]⟩, .int .i64 0, .int .i64 0, .int .i64 0, .int .i64 0, .int .i64 0] := H1.out.2.2.2.of (b2.block _ H1.out.2.2.2.lt)
  have HB2 : Hid (Below w.heap.size w w2) := Lib.hid (H1.out.1.trans (b2.mono H1.out.1.size))
  have hz2 := HB2.out.size
  have HR2 := Lib.hid K2
  clear b2 f2 HCH
  rcases h2 with ⟨hB, rfl⟩ | ⟨hB, k, rfl, hk0, hpe⟩ | ⟨hB, q, rfl, hqN, hpo⟩
  · have HH := Lib.hid hB
    clear hB
    simp only [errV, Z14]
    go_wp2_with (have _h := K2; refine wpList_storeq rfl 36 (.tmp 6) (.tmp 11) rfl (w.heap.size + 3) _ [.int .i64 0, .int .i64 0, .int .i64 0, .int .i64 0, .slice none 0 0, .bool false, .bool false, .slice none 0 0, .string ⟨#[]⟩, .int .i64 0, .int .i64 0, .int .i64 0, .int .i64 0, .int .i64 0] rfl rfl K2 (by simp) (by kernel_rfl) (one14 _ _ _ _ _ _ _ _ _ _ _ _ _ _ _ _ _ _) ?_; clear _h K2; intro w9 K9 o9 s9)
    refine bodyPost_ret (results_cell_tmp9 rfl _ _ (w.heap.size + 3) 36 _ (0, 0) _ _ rfl rfl K9 Try.underlying36 rfl (by kernel_rfl)) rfl ?_
    exact ⟨HB2.out.trans (o9.below (fun x hx => by simp at hx; omega) hz2), .inl ⟨HH.out, rfl⟩⟩
  · obtain ⟨k, rfl⟩ : ∃ k', k = k' + 1 := ⟨k - 1, by omega⟩
    have HH := Lib.hid (And.intro hB hpe)
    clear hB hpe hk0
    simp only [errV, Z14]
    go_wp2_with (have _h := K2; refine wpList_storeq rfl 36 (.tmp 6) (.tmp 11) rfl (w.heap.size + 3) _ [.int .i64 0, .int .i64 0, .int .i64 0, .int .i64 0, .slice none 0 0, .bool false, .bool false, .slice none 0 0, .string ⟨#[]⟩, .int .i64 0, .int .i64 0, .int .i64 0, .int .i64 0, .int .i64 0] rfl rfl K2 (by simp) (by kernel_rfl) (one14 _ _ _ _ _ _ _ _ _ _ _ _ _ _ _ _ _ _) ?_; clear _h K2; intro w9 K9 o9 s9)
    refine bodyPost_ret (results_cell_tmp9 rfl _ _ (w.heap.size + 3) 36 _ (0, 0) _ _ rfl rfl K9 Try.underlying36 rfl (by kernel_rfl)) rfl ?_
    exact ⟨HB2.out.trans (o9.below (fun x hx => by simp at hx; omega) hz2), .inr (.inl ⟨HH.out.1, k + 1, rfl, by omega, HH.out.2⟩)⟩
  · have HH := Lib.hid (And.intro hB (And.intro hqN hpo))
    clear hB hqN hpo
    unfold HA.cs
    go_wp2_with (have _h := K2; refine wpList_storeq rfl 36 (.tmp 6) (.tmp 11) rfl (w.heap.size + 3) _ [.int .i64 q.id, .int .i64 q.vw.size, .int .i64 q.obj, .int .i64 q.seq, .slice q.S q.sn.length q.cs', .bool q.vw.on, .bool q.vw.good, .slice q.vw.M q.vw.row.length q.vw.cm, .string (strOf q.vw.par), .int .i64 q.vw.ps, .int .i64 q.vw.ov, .int .i64 q.ow, .int .i64 q.it, .int .i64 q.tg] rfl rfl K2 (by simp) (by kernel_rfl) (one14 _ _ _ _ _ _ _ _ _ _ _ _ _ _ _ _ _ _) ?_; clear _h K2; intro w9 K9 o9 s9)
    refine bodyPost_ret (results_cell_tmp9 rfl _ _ (w.heap.size + 3) 36 _ (0, 0) _ _ rfl rfl K9 Try.underlying36 rfl (by kernel_rfl)) rfl ?_
    exact ⟨HB2.out.trans (o9.below (fun x hx => by simp at hx; omega) hz2), .inr (.inr ⟨HH.out.1, q, rfl, (HH.out.2.1.stay HR2.out o9).weaken (by have := H1.out.2.1; omega), HH.out.2.2⟩)⟩
set_option maxHeartbeats 16000000 in
theorem protect_any (h : HA) (w : World) (n : List Nat) (hn : ∀ b ∈ n, b < 256) (hR : h.R SA.cells w) (hS : h.Sm) : Calls Try.prog 72 #[.agg h.cs, .string (strOf n)] w (AnsTo w h.v (fun k => ChsEP h.v n (ProE h.it h.tg) k) (fun v => ChsOP h.v n (fun i s v => ProO h.it h.tg s ∧ v = h.v.setSn i { s with prot := true }) v)) := by
  obtain ⟨W1, hW1⟩ : ∃ W, W = (w.alloc (.cells #[.int .i64 h.id, .int .i64 h.vw.size, .int .i64 h.obj, .int .i64 h.seq, .slice h.S h.sn.length h.cs', .bool h.vw.on, .bool h.vw.good, .slice h.vw.M h.vw.row.length h.vw.cm, .string (strOf h.vw.par), .int .i64 h.vw.ps, .int .i64 h.vw.ov, .int .i64 h.ow, .int .i64 h.it, .int .i64 h.tg] 36)).alloc (.cells #[.int .i64 0, .int .i64 0, .int .i64 0, .int .i64 0, .slice none 0 0, .bool false, .bool false, .slice none 0 0, .string ⟨#[]⟩, .int .i64 0, .int .i64 0, .int .i64 0, .int .i64 0, .int .i64 0] 36) := ⟨_, rfl⟩
  have h1 : Below w.heap.size w W1 ∧ W1.heap.size = w.heap.size + 2 ∧ Blk W1 w.heap.size 36 #[.int .i64 h.id, .int .i64 h.vw.size, .int .i64 h.obj, .int .i64 h.seq, .slice h.S h.sn.length h.cs', .bool h.vw.on, .bool h.vw.good, .slice h.vw.M h.vw.row.length h.vw.cm, .string (strOf h.vw.par), .int .i64 h.vw.ps, .int .i64 h.vw.ov, .int .i64 h.ow, .int .i64 h.it, .int .i64 h.tg] ∧ Blk W1 (w.heap.size + 1) 36 #[.int .i64 0, .int .i64 0, .int .i64 0, .int .i64 0, .slice none 0 0, .bool false, .bool false, .slice none 0 0, .string ⟨#[]⟩, .int .i64 0, .int .i64 0, .int .i64 0, .int .i64 0, .int .i64 0] := by
    rw [hW1]
    exact ⟨(below_alloc w _).alloc (by simp) _, by simp, (Blk.new w _ _).alloc _, blk_two _ _ _ _⟩
  have HCH := Lib.hid (changeSnap_any h W1 n hn 117 (fun args w => by kernel_rfl) #[.pointer (some ⟨w.heap.size, 0, none⟩)] (ProE h.it h.tg) (fun i s v => ProO h.it h.tg s ∧ v = h.v.setSn i { s with prot := true }) (fun W2 base h12 hb2 => fun W g gS k c s h0 hb hg kg hN hD hcv hSg hs => by rw [← hcv]; exact pro1_any W base g gS w.heap.size k c s h.it h.tg hb hg kg hN hSg hs (((h1.2.2.1.of (h12.block _ h1.2.2.1.lt)).of (h0.block _ (Nat.lt_of_lt_of_le h1.2.2.1.lt h12.size))).cell 12) (((h1.2.2.1.of (h12.block _ h1.2.2.1.lt)).of (h0.block _ (Nat.lt_of_lt_of_le h1.2.2.1.lt h12.size))).cell 13)) (hR.since h1.1) hS)
  have HW1 := Lib.hid hW1
  have H1 := Lib.hid h1
  clear hW1 h1 hR hS
  unfold HA.cs at *
  have hz := head_zero
  go_enter Try.func72, Try.ntmps72
  go_upto_region 1 with (fail)
  rw [← HW1.out]
  clear HW1
  have K1 := H1.out.2.2.1
  go_wp2_with (have _h := K1; refine wpList_loadq rfl 36 (.tmp 2) rfl (w.heap.size) [.int .i64 h.id, .int .i64 h.vw.size, .int .i64 h.obj, .int .i64 h.seq, .slice h.S h.sn.length h.cs', .bool h.vw.on, .bool h.vw.good, .slice h.vw.M h.vw.row.length h.vw.cm, .string (strOf h.vw.par), .int .i64 h.vw.ps, .int .i64 h.vw.ov, .int .i64 h.ow, .int .i64 h.it, .int .i64 h.tg] _ rfl K1 Try.underlying36 rfl (by kernel_rfl) ?_; clear _h K1)
  refine HCH.out.mono ?_
  rintro e w2 ⟨b2, h2⟩
  have K2 : Blk w2 (w.heap.size + 1) 36 #[.int .i64 0, .int .i64 0, .int .i64 0, .int .i64 0, .slice none 0 0, .bool false, .bool false, .slice none 0 0, .string ⟨#[]⟩, .int .i64 0, .int .i64 0, .int .i64 0, .int .i64 0, .int .i64 0] := H1.out.2.2.2.of (b2.block _ H1.out.2.2.2.lt)
  have HB2 : Hid (Below w.heap.size w w2) := Lib.hid (H1.out.1.trans (b2.mono H1.out.1.size))
  have hz2 := HB2.out.size
  have HR2 := Lib.hid K2
  clear b2 HCH
  rcases h2 with ⟨hB, rfl⟩ | ⟨hB, k, rfl, hk0, hpe⟩ | ⟨hB, q, rfl, hqN, hpo⟩
  · have HH := Lib.hid hB
    clear hB
    simp only [errV, Z14]
    go_wp2_with (have _h := K2; refine wpList_storeq rfl 36 (.tmp 4) (.tmp 10) rfl (w.heap.size + 1) _ [.int .i64 0, .int .i64 0, .int .i64 0, .int .i64 0, .slice none 0 0, .bool false, .bool false, .slice none 0 0, .string ⟨#[]⟩, .int .i64 0, .int .i64 0, .int .i64 0, .int .i64 0, .int .i64 0] rfl rfl K2 (by simp) (by kernel_rfl) (one14 _ _ _ _ _ _ _ _ _ _ _ _ _ _ _ _ _ _) ?_; clear _h K2; intro w9 K9 o9 s9)
    refine bodyPost_ret (results_cell_tmp9 rfl _ _ (w.heap.size + 1) 36 _ (0, 0) _ _ rfl rfl K9 Try.underlying36 rfl (by kernel_rfl)) rfl ?_
    exact ⟨HB2.out.trans (o9.below (fun x hx => by simp at hx; omega) hz2), .inl ⟨HH.out, rfl⟩⟩
  · obtain ⟨k, rfl⟩ : ∃ k', k = k' + 1 := ⟨k - 1, by omega⟩
    have HH := Lib.hid (And.intro hB hpe)
    clear hB hpe hk0
    simp only [errV, Z14]
    go_wp2_with (have _h := K2; refine wpList_storeq rfl 36 (.tmp 4) (.tmp 10) rfl (w.heap.size + 1) _ [.int .i64 0, .int .i64 0, .int .i64 0, .int .i64 0, .slice none 0 0, .bool false, .bool false, .slice none 0 0, .string ⟨#[]⟩, .int .i64 0, .int .i64 0, .int .i64 0, .int .i64 0, .int .i64 0] rfl rfl K2 (by simp) (by kernel_rfl) (one14 _ _ _ _ _ _ _ _ _ _ _ _ _ _ _ _ _ _) ?_; clear _h K2; intro w9 K9 o9 s9)
    refine bodyPost_ret (results_cell_tmp9 rfl _ _ (w.heap.size + 1) 36 _ (0, 0) _ _ rfl rfl K9 Try.underlying36 rfl (by kernel_rfl)) rfl ?_
    exact ⟨HB2.out.trans (o9.below (fun x hx => by simp at hx; omega) hz2), .inr (.inl ⟨HH.out.1, k + 1, rfl, by omega, HH.out.2⟩)⟩
  · have HH := Lib.hid (And.intro hB (And.intro hqN hpo))
    clear hB hqN hpo
    unfold HA.cs
    go_wp2_with (have _h := K2; refine wpList_storeq rfl 36 (.tmp 4) (.tmp 10) rfl (w.heap.size + 1) _ [.int .i64 q.id, .int .i64 q.vw.size, .int .i64 q.obj, .int .i64 q.seq, .slice q.S q.sn.length q.cs', .bool q.vw.on, .bool q.vw.good, .slice q.vw.M q.vw.row.length q.vw.cm, .string (strOf q.vw.par), .int .i64 q.vw.ps, .int .i64 q.vw.ov, .int .i64 q.ow, .int .i64 q.it, .int .i64 q.tg] rfl rfl K2 (by simp) (by kernel_rfl) (one14 _ _ _ _ _ _ _ _ _ _ _ _ _ _ _ _ _ _) ?_; clear _h K2; intro w9 K9 o9 s9)
    refine bodyPost_ret (results_cell_tmp9 rfl _ _ (w.heap.size + 1) 36 _ (0, 0) _ _ rfl rfl K9 Try.underlying36 rfl (by kernel_rfl)) rfl ?_
    exact ⟨HB2.out.trans (o9.below (fun x hx => by simp at hx; omega) hz2), .inr (.inr ⟨HH.out.1, q, rfl, (HH.out.2.1.stay HR2.out o9).weaken (by have := H1.out.2.1; omega), HH.out.2.2⟩)⟩
set_option maxHeartbeats 16000000 in
theorem unprotect_any (h : HA) (w : World) (n : List Nat) (hn : ∀ b ∈ n, b < 256) (hR : h.R SA.cells w) (hS : h.Sm) : Calls Try.prog 73 #[.agg h.cs, .string (strOf n)] w (AnsTo w h.v (fun k => ChsEP h.v n UnpE k) (fun v => ChsOP h.v n (fun i s v => UnpO s ∧ v = h.v.setSn i { s with prot := false }) v)) := by
  obtain ⟨W1, hW1⟩ : ∃ W, W = (w.alloc (.cells #[.int .i64 h.id, .int .i64 h.vw.size, .int .i64 h.obj, .int .i64 h.seq, .slice h.S h.sn.length h.cs', .bool h.vw.on, .bool h.vw.good, .slice h.vw.M h.vw.row.length h.vw.cm, .string (strOf h.vw.par), .int .i64 h.vw.ps, .int .i64 h.vw.ov, .int .i64 h.ow, .int .i64 h.it, .int .i64 h.tg] 36)).alloc (.cells #[.int .i64 0, .int .i64 0, .int .i64 0, .int .i64 0, .slice none 0 0, .bool false, .bool false, .slice none 0 0, .string ⟨#[]⟩, .int .i64 0, .int .i64 0, .int .i64 0, .int .i64 0, .int .i64 0] 36) := ⟨_, rfl⟩
  have h1 : Below w.heap.size w W1 ∧ W1.heap.size = w.heap.size + 2 ∧ Blk W1 w.heap.size 36 #[.int .i64 h.id, .int .i64 h.vw.size, .int .i64 h.obj, .int .i64 h.seq, .slice h.S h.sn.length h.cs', .bool h.vw.on, .bool h.vw.good, .slice h.vw.M h.vw.row.length h.vw.cm, .string (strOf h.vw.par), .int .i64 h.vw.ps, .int .i64 h.vw.ov, .int .i64 h.ow, .int .i64 h.it, .int .i64 h.tg] ∧ Blk W1 (w.heap.size + 1) 36 #[.int .i64 0, .int .i64 0, .int .i64 0, .int .i64 0, .slice none 0 0, .bool false, .bool false, .slice none 0 0, .string ⟨#[]⟩, .int .i64 0, .int .i64 0, .int .i64 0, .int .i64 0, .int .i64 0] := by
    rw [hW1]
    exact ⟨(below_alloc w _).alloc (by simp) _, by simp, (Blk.new w _ _).alloc _, blk_two _ _ _ _⟩
  have HCH := Lib.hid (changeSnap_any h W1 n hn 118 (fun args w => by kernel_rfl) #[] UnpE (fun i s v => UnpO s ∧ v = h.v.setSn i { s with prot := false }) (fun W2 base h12 hb2 => fun W g gS k c s h0 hb hg kg hN hD hcv hSg hs => by rw [← hcv]; exact unp1_any W base g gS k c s hb hg kg hN hSg hs) (hR.since h1.1) hS)
  have HW1 := Lib.hid hW1
  have H1 := Lib.hid h1
  clear hW1 h1 hR hS
  unfold HA.cs at *
  have hz := head_zero
  go_enter Try.func73, Try.ntmps73
  go_upto_region 1 with (fail)
  rw [← HW1.out]
  clear HW1
  have K1 := H1.out.2.2.1
  go_wp2_with (have _h := K1; refine wpList_loadq rfl 36 (.tmp 2) rfl (w.heap.size) [.int .i64 h.id, .int .i64 h.vw.size, .int .i64 h.obj, .int .i64 h.seq, .slice h.S h.sn.length h.cs', .bool h.vw.on, .bool h.vw.good, .slice h.vw.M h.vw.row.length h.vw.cm, .string (strOf h.vw.par), .int .i64 h.vw.ps, .int .i64 h.vw.ov, .int .i64 h.ow, .int .i64 h.it, .int .i64 h.tg] _ rfl K1 Try.underlying36 rfl (by kernel_rfl) ?_; clear _h K1)
  refine HCH.out.mono ?_
  rintro e w2 ⟨b2, h2⟩
  have K2 : Blk w2 (w.heap.size + 1) 36 #[.int .i64 0, .int .i64 0, .int .i64 0, .int .i64 0, .slice none 0 0, .bool false, .bool false, .slice none 0 0, .string ⟨#[]⟩, .int .i64 0, .int .i64 0, .int .i64 0, .int .i64 0, .int .i64 0] := H1.out.2.2.2.of (b2.block _ H1.out.2.2.2.lt)
  have HB2 : Hid (Below w.heap.size w w2) := Lib.hid (H1.out.1.trans (b2.mono H1.out.1.size))
  have hz2 := HB2.out.size
  have HR2 := Lib.hid K2
  clear b2 HCH
  rcases h2 with ⟨hB, rfl⟩ | ⟨hB, k, rfl, hk0, hpe⟩ | ⟨hB, q, rfl, hqN, hpo⟩
  · have HH := Lib.hid hB
    clear hB
    simp only [errV, Z14]
    go_wp2_with (have _h := K2; refine wpList_storeq rfl 36 (.tmp 4) (.tmp 9) rfl (w.heap.size + 1) _ [.int .i64 0, .int .i64 0, .int .i64 0, .int .i64 0, .slice none 0 0, .bool false, .bool false, .slice none 0 0, .string ⟨#[]⟩, .int .i64 0, .int .i64 0, .int .i64 0, .int .i64 0, .int .i64 0] rfl rfl K2 (by simp) (by kernel_rfl) (one14 _ _ _ _ _ _ _ _ _ _ _ _ _ _ _ _ _ _) ?_; clear _h K2; intro w9 K9 o9 s9)
    refine bodyPost_ret (results_cell_tmp9 rfl _ _ (w.heap.size + 1) 36 _ (0, 0) _ _ rfl rfl K9 Try.underlying36 rfl (by kernel_rfl)) rfl ?_
    exact ⟨HB2.out.trans (o9.below (fun x hx => by simp at hx; omega) hz2), .inl ⟨HH.out, rfl⟩⟩
  · obtain ⟨k, rfl⟩ : ∃ k', k = k' + 1 := ⟨k - 1, by omega⟩
    have HH := Lib.hid (And.intro hB hpe)
    clear hB hpe hk0
    simp only [errV, Z14]
    go_wp2_with (have _h := K2; refine wpList_storeq rfl 36 (.tmp 4) (.tmp 9) rfl (w.heap.size + 1) _ [.int .i64 0, .int .i64 0, .int .i64 0, .int .i64 0, .slice none 0 0, .bool false, .bool false, .slice none 0 0, .string ⟨#[]⟩, .int .i64 0, .int .i64 0, .int .i64 0, .int .i64 0, .int .i64 0] rfl rfl K2 (by simp) (by kernel_rfl) (one14 _ _ _ _ _ _ _ _ _ _ _ _ _ _ _ _ _ _) ?_; clear _h K2; intro w9 K9 o9 s9)
    refine bodyPost_ret (results_cell_tmp9 rfl _ _ (w.heap.size + 1) 36 _ (0, 0) _ _ rfl rfl K9 Try.underlying36 rfl (by kernel_rfl)) rfl ?_
    exact ⟨HB2.out.trans (o9.below (fun x hx => by simp at hx; omega) hz2), .inr (.inl ⟨HH.out.1, k + 1, rfl, by omega, HH.out.2⟩)⟩
  · have HH := Lib.hid (And.intro hB (And.intro hqN hpo))
    clear hB hqN hpo
    unfold HA.cs
    go_wp2_with (have _h := K2; refine wpList_storeq rfl 36 (.tmp 4) (.tmp 9) rfl (w.heap.size + 1) _ [.int .i64 q.id, .int .i64 q.vw.size, .int .i64 q.obj, .int .i64 q.seq, .slice q.S q.sn.length q.cs', .bool q.vw.on, .bool q.vw.good, .slice q.vw.M q.vw.row.length q.vw.cm, .string (strOf q.vw.par), .int .i64 q.vw.ps, .int .i64 q.vw.ov, .int .i64 q.ow, .int .i64 q.it, .int .i64 q.tg] rfl rfl K2 (by simp) (by kernel_rfl) (one14 _ _ _ _ _ _ _ _ _ _ _ _ _ _ _ _ _ _) ?_; clear _h K2; intro w9 K9 o9 s9)
    refine bodyPost_ret (results_cell_tmp9 rfl _ _ (w.heap.size + 1) 36 _ (0, 0) _ _ rfl rfl K9 Try.underlying36 rfl (by kernel_rfl)) rfl ?_
    exact ⟨HB2.out.trans (o9.below (fun x hx => by simp at hx; omega) hz2), .inr (.inr ⟨HH.out.1, q, rfl, (HH.out.2.1.stay HR2.out o9).weaken (by have := H1.out.2.1; omega), HH.out.2.2⟩)⟩
end Go.Proofs.Ytiimanoloedbeaa

/-
  slices.BinarySearch on strings: where a text stands or belongs, of any list. Conditions: the list is fewer than a million long.
-/
namespace Go.Proofs.Ytiimanoloedbeaa
open Go.RowKit Go.BigFrame
set_option linter.unusedSimpArgs false
set_option linter.unusedVariables false
set_option maxRecDepth 100000
theorem nan_any (x : ByteArray) (w : World) : Calls Try.prog 169 #[.string x] w fun e w' => e = .returned (.bool false) ∧ w' = w := by
  go_enter Try.func169, Try.ntmps169
  go_wp2
  go_ret
  exact ⟨by simp, rfl⟩
theorem snan_any (x : ByteArray) (w : World) : Calls Try.prog 154 #[.string x] w fun e w' => e = .returned (.bool false) ∧ w' = w := by
  go_enter Try.func154, Try.ntmps154
  go_wp2
  go_ret
  exact ⟨by simp, rfl⟩
theorem cless_any (x y : ByteArray) (w : World) : Calls Try.prog 153 #[.string x, .string y] w fun e w' => e = .returned (.bool (Op.bytesLess x.toList y.toList)) ∧ w' = w := by
  go_enter Try.func153, Try.ntmps153
  go_wp2_with (refine (nan_any _ _).mono ?_; rintro e w' ⟨rfl, rfl⟩)
  go_ret
  exact ⟨rfl, rfl⟩
/-- what the search finds: i, with what stands below it smaller and what stands at it not smaller; whether it is there -/
structure Fnd (l : List (List Nat)) (t : List Nat) (i : Nat) (is : Bool) : Prop where
  le : i ≤ l.length
  lo : ∀ c, 0 < i → l[i - 1]? = some c → ltS c t = true
  hi : ∀ c, l[i]? = some c → ltS c t = false
  is : is = decide (l[i]? = some t)
set_option maxHeartbeats 8000000 in
theorem bsearch_any (c : Nat) (l : List (List Nat)) (C : Option Addr) (t : List Nat) (w : World) (hl : l.length ≤ 1000000) (hr : Strs w w.heap.size C l.length l) (ht : ∀ b ∈ t, b < 256) :
    Calls Try.prog 120 #[.slice C l.length c, .string (strOf t)] w fun e w' => ∃ (i : Nat) (is : Bool), e = .returned (.tuple #[.int .i64 i, .bool is]) ∧ Fnd l t i is ∧ Below w.heap.size w w' := by
  obtain ⟨n, hn⟩ : ∃ n, l.length = n := ⟨_, rfl⟩
  rw [hn] at hr hl ⊢
  have H := Lib.hid hr
  have HN := Lib.hid hn
  have HT := Lib.hid ht
  clear hr hn ht
  go_enter Try.func120, Try.ntmps120
  go_wp2
  go_loopw [7, 8] (fun s7 s8 wr => ∃ lo hi : Nat, s7 = .int .i64 lo ∧ s8 = .int .i64 hi ∧ lo ≤ hi ∧ hi ≤ n ∧ Below w.heap.size w wr ∧ (∀ c, 0 < lo → l[lo - 1]? = some c → ltS c t = true) ∧ (∀ c, l[hi]? = some c → ltS c t = false)) (fun s7 s8 _ => (intOf s8).toNat - (intOf s7).toNat)
  case atStart => exact ⟨0, n, rfl, rfl, by omega, by omega, Below.refl _ _, fun c h => by omega, fun c h => by rw [List.getElem?_eq_none (by have := HN.out; omega)] at h; cases h⟩
  case round =>
    obtain ⟨lo, hi, rfl, rfl, hlh, hin, hb, h1, h2⟩ := hrel
    have HB := Lib.hid hb
    have HL := Lib.hid h1
    have HH := Lib.hid h2
    clear hb h1 h2
    by_cases hlt : lo < hi
    · obtain ⟨ad, x, hA1, hx, hx2, hc⟩ := (H.out.since HB.out).at_ (k := (lo + hi) / 2) (by omega)
      have HX := Lib.hid hx
      subst hA1
      clear hx hx2
      obtain ⟨lt, hlt2⟩ : ∃ lt, Op.bytesLess (strOf x).toList (strOf t).toList = lt := ⟨_, rfl⟩
      have HLT : Hid (ltS x t = lt) := Lib.hid hlt2
      cases lt with
      | false =>
        go_wp2_with (refine (cless_any _ _ _).mono ?_; rintro e w' ⟨rfl, rfl⟩; try rw [hlt2])
        go_roundw
        case rel => exact ⟨lo, (lo + hi) / 2, rfl, by rw [show ((lo : Int) + (hi : Int)) / 2 = (((lo + hi) / 2 : Nat) : Int) by omega], by omega, by omega, HB.out, HL.out, fun c h => by rw [HX.out] at h; injection h with h; subst h; exact HLT.out⟩
        case measure => simp [intOf]; omega
      | true =>
        go_wp2_with (refine (cless_any _ _ _).mono ?_; rintro e w' ⟨rfl, rfl⟩; try rw [hlt2])
        go_roundw
        case rel => exact ⟨(lo + hi) / 2 + 1, hi, by rw [show ((lo : Int) + (hi : Int)) / 2 + 1 = (((lo + hi) / 2 + 1 : Nat) : Int) by omega], rfl, by omega, hin, HB.out, fun c _ h => by rw [Nat.add_sub_cancel, HX.out] at h; injection h with h; subst h; exact HLT.out, HH.out⟩
        case measure => simp [intOf]; omega
    · obtain rfl : hi = lo := by omega
      by_cases hn : hi < n
      · obtain ⟨ad, x, hA1, hx, hx2, hc⟩ := (H.out.since HB.out).at_ hn
        have he := str_eq hx2 HT.out
        have HX := Lib.hid hx
        subst hA1
        clear hx hx2
        by_cases hxx : x = t
        · have hd : ((strOf x).toList == (strOf t).toList) = true := by rw [he]; exact decide_eq_true hxx
          clear he
          have HXX := Lib.hid hxx
          clear hxx
          go_wp2_with (refine (snan_any _ _).mono ?_; rintro e w' ⟨rfl, rfl⟩)
          go_ret2
          exact ⟨hi, true, rfl, ⟨by have := HN.out; omega, HL.out, HH.out, by rw [HX.out, HXX.out]; simp⟩, by first | exact HB.out | exact below_drewN HB.out _⟩
        · have hd : ((strOf x).toList == (strOf t).toList) = false := by rw [he]; exact decide_eq_false hxx
          clear he
          have HXX := Lib.hid hxx
          clear hxx
          go_wp2_with (refine (snan_any _ _).mono ?_; rintro e w' ⟨rfl, rfl⟩)
          all_goals
            go_ret2
            exact ⟨hi, false, rfl, ⟨by have := HN.out; omega, HL.out, HH.out, by rw [HX.out]; simp [HXX.out]⟩, by first | exact HB.out | exact below_drewN HB.out _⟩
      · obtain rfl : hi = n := by omega
        go_wp2_with (refine (snan_any _ _).mono ?_; rintro e w' ⟨rfl, rfl⟩)
        go_ret2
        exact ⟨hi, false, rfl, ⟨by have := HN.out; omega, HL.out, HH.out, by rw [List.getElem?_eq_none (by have := HN.out; omega)]; rfl⟩, by first | exact HB.out | exact below_drewN HB.out _⟩
end Go.Proofs.Ytiimanoloedbeaa

/-
  slices.Insert of one text into a row of texts that is the call's own: the library's contract, at this program; then in the words of rows. Conditions: the row is fewer than a million long.
-/
namespace Go.Proofs.Ytiimanoloedbeaa
open Go.RowKit Go.BigFrame Go.Shelf
set_option linter.unusedSimpArgs false
set_option linter.unusedVariables false
set_option maxRecDepth 100000
def insRen : Go.Shelf.Ren := ⟨fun | 22 => 121 | 29 => 155 | 30 => 156 | 36 => 170 | 17 => 172 | n => n, fun | 24 => 64 | 9 => 9 | 3 => 3 | 4 => 4 | 0 => 0 | n => n, fun | n => n⟩
theorem insLays : Go.Proofs.Lays2.n22 Try.prog insRen := {
  mixed := by kernel_rfl
  f17 := Try.func172.trans (congrArg some (by kernel_rfl))
  f22 := Try.func121.trans (congrArg some (by kernel_rfl))
  f29 := Try.func155.trans (congrArg some (by kernel_rfl))
  f30 := Try.func156.trans (congrArg some (by kernel_rfl))
  f36 := Try.func170.trans (congrArg some (by kernel_rfl))
  t0 := Try.underlying0
  a0 := Try.isAgg0
  z0 := Try.sizeOf0
  v0 := Try.zeroValue0
  t3 := Try.underlying3
  a3 := Try.isAgg3
  z3 := Try.sizeOf3
  v3 := Try.zeroValue3
  t4 := Try.underlying4
  a4 := Try.isAgg4
  z4 := Try.sizeOf4
  v4 := Try.zeroValue4
  t9 := Try.underlying9
  a9 := Try.isAgg9
  z9 := Try.sizeOf9
  v9 := Try.zeroValue9
  t24 := Try.underlying64
  a24 := Try.isAgg64
  z24 := Try.sizeOf64
  v24 := Try.zeroValue64
  i9 := by kernel_rfl }
theorem Blk.lay {g : Nat} {t : TypeId} : ∀ (vs : List Value) (o : Nat) {w : World} {cs : Array Value}, Blk w g t cs → o + vs.length ≤ cs.size →
    ∃ cs', Blk (w.setCells g o vs) g t cs' ∧ cs'.size = cs.size ∧ ∀ j : Nat, cs'[j]? = if o ≤ j ∧ j < o + vs.length then vs[j - o]? else cs[j]?
  | [], o, w, cs, h, hl => ⟨cs, h, rfl, fun j => by rw [if_neg (by rintro ⟨h1, h2⟩; simp at h2; omega)]⟩
  | v :: vs, o, w, cs, h, hl => by
    have hl' : o + 1 + vs.length ≤ cs.size := by simp at hl; omega
    obtain ⟨cs', h1, h2, h3⟩ := Blk.lay vs (o + 1) (h.set_ o v) (by simpa using hl')
    refine ⟨cs', h1, by simpa using h2, fun j => ?_⟩
    rw [h3 j]
    by_cases hj : j = o
    · subst hj
      rw [if_neg (by omega), if_pos (by simp)]
      simp [show j < cs.size by omega]
    · by_cases hk : o + 1 ≤ j ∧ j < o + 1 + vs.length
      · rw [if_pos hk, if_pos (by simp; omega), show j - o = (j - (o + 1)) + 1 by omega]
        simp
      · rw [if_neg hk, if_neg (by simp; omega), Array.getElem?_setIfInBounds_ne (Ne.symm hj)]
/-- a list with x at i -/
def insL (xs : List Value) (i : Nat) (x : Value) : List Value := xs.take i ++ x :: xs.drop i
theorem insL_len (xs : List Value) (i : Nat) (x : Value) (hi : i ≤ xs.length) : (insL xs i x).length = xs.length + 1 := by unfold insL; simp; omega
theorem insL_at (xs : List Value) (i : Nat) (x : Value) (hi : i ≤ xs.length) (j : Nat) : (insL xs i x)[j]? = if j < i then xs[j]? else if j = i then some x else xs[j - 1]? := by
  unfold insL
  by_cases h1 : j < i
  · rw [if_pos h1, List.getElem?_append_left (by simp; omega), List.getElem?_take, if_pos h1]
  · rw [if_neg h1, List.getElem?_append_right (by simp; omega), List.length_take, Nat.min_eq_left hi]
    by_cases h2 : j = i
    · subst h2; simp
    · rw [if_neg h2, show j - i = (j - i - 1) + 1 by omega, List.getElem?_cons_succ, List.getElem?_drop, show i + (j - i - 1) = j - 1 by omega]
theorem own_by {w : World} {base e g n c : Nat} {cur : Array Value} {L : List Value} (k : Blk w g e cur) (hg : base ≤ g) (hn : n ≤ c) (hc : c ≤ maxLen) (hs : cur.size = c) (hl : L.length = n) (ha : ∀ j, j < n → cur[j]? = L[j]?) :
    w.ownsRow base e 1 (.slice (some ⟨g, 0, none⟩) n c) n L := by
  refine ⟨by omega, .inr ⟨g, c, cur, rfl, hg, k, hn, hc, by omega, ?_⟩⟩
  rw [Nat.mul_one]
  apply List.ext_getElem?
  intro j
  rw [List.getElem?_take]
  by_cases hj : j < n
  · rw [if_pos hj, ← ha j hj]; simp
  · rw [if_neg hj, List.getElem?_eq_none (by omega)]
theorem Blk.shape {w : World} {g : Nat} {t : TypeId} {cs : Array Value} (k : Blk w g t cs) : w.shape? g = some (t, cs.size) := by
  unfold World.shape?
  rw [show w.heap[g]? = _ from k]
theorem Blk.thaw {w : World} {g : Nat} {t : TypeId} {cs : Array Value} (k : Blk w g t cs) (j : Nat) : w.frozen? ⟨g, j, none⟩ = false := by simp [World.frozen?, show w.heap[g]? = _ from k]
theorem top_at (L : List Value) (Z : Array Value) (j : Nat) (h : j < L.length) : (L.toArray ++ Z)[j]? = L[j]? := by rw [Array.getElem?_append_left (by simpa using h)]; simp
theorem insL_end (xs : List Value) (x : Value) : insL xs xs.length x = xs ++ [x] := by simp [insL]
theorem size_of (L : List Value) (G m : Nat) (h : L.length = m) (hm : m ≤ G) : (L.toArray ++ Builtin.zeroCells (Value.string ⟨#[]⟩).cells (G - m)).size = G := by
  simp [Builtin.zeroCells, Value.cells]; omega
theorem size_of2 (L : List Value) (G m r : Nat) (h : L.length + r = m) (hm : m ≤ G) : (L.toArray ++ Builtin.zeroCells (Value.string ⟨#[]⟩).cells r ++ Builtin.zeroCells (Value.string ⟨#[]⟩).cells (G - m)).size = G := by
  simp [Builtin.zeroCells, Value.cells]; omega
set_option maxHeartbeats 4000000 in
theorem ins_any (base i n c vb vc : Nat) (C : Option Addr) (xs : List Value) (x : Value) (w : World) (hb : base ≤ w.heap.size) (ho : w.ownsRow base 9 1 (.slice C n c) n xs) (hi : i ≤ n) (hn : n ≤ 1000000)
    (kv : Blk w vb 9 #[x]) (hv : ∀ k ∈ rowOf (.slice C 0 0), k ≠ vb) (h1 : ∀ v ∈ xs, v.oneCell' = true) (hx : x.oneCell' = true) :
    Calls Try.prog 121 #[.slice C n c, .int .i64 i, .slice (some ⟨vb, 0, none⟩) 1 vc] w fun e w' =>
      ∃ C' c', e = .returned (.slice C' (n + 1) c') ∧ w'.ownsRow base 9 1 (.slice C' (n + 1) c') (n + 1) (insL xs i x) ∧ Only (rowOf (.slice C 0 0)) w w' ∧ ∀ k ∈ rowOf (.slice C' 0 0), k ∈ rowOf (.slice C 0 0) ∨ w.heap.size ≤ k := by
  have hxl : xs.length = n := by have := ho.1; omega
  have hvs : ∀ (j : Nat) (v : Value), [x][j]? = some v → w.cell? ⟨vb, 0 + j, none⟩ = some v := fun j v h => by
    cases j with
    | zero => simp at h; subst h; exact kv.cell 0
    | succ j => simp at h
  have h1v : ∀ v ∈ [x], v.oneCell' = true := fun v h => by simp at h; subst h; exact hx
  have grown : ∀ (g : Nat) (cur : Array Value) (w' : World) (G : Nat), Blk w' g 9 cur → base ≤ g → G ≤ maxLen → cur.size = G → n + 1 ≤ G → (∀ j, j < n + 1 → cur[j]? = (insL xs i x)[j]?) → w'.ownsRow base 9 1 (.slice (some ⟨g, 0, none⟩) (n + 1) G) (n + 1) (insL xs i x) :=
    fun g cur w' G k hg hG hs hm ha => own_by k hg hm hG hs (by rw [insL_len xs i x (by omega), hxl]) ha
  have hG : ∀ c, n + 1 ≤ grownCap w (n + 1) c 9 ∧ grownCap w (n + 1) c 9 ≤ maxLen := fun c => ⟨grownCap_ge w _ _ _, grownCap_le_maxLen w (n + 1) c 9 (by unfold maxLen; omega)⟩
  rcases ho.2 with ⟨hC, h0⟩ | ⟨g, cap, cur, hC, hg, kg, hnc, hcm, hcs, htk⟩
  · injection hC with hC _ hc
    subst hC hc h0
    obtain rfl : i = 0 := by omega
    obtain rfl : xs = [] := List.length_eq_zero_iff.1 hxl
    refine (Any2.slices_Insert_string_end_grow insLays none 0 0 vb 0 1 vc [] [x] w (by omega) (by omega) (by omega) (by omega) rfl rfl (fun _ => rfl) (fun a h => by cases h) hvs h1v).mono ?_
    rintro e w' ⟨rfl, rfl⟩
    obtain ⟨g1, g2⟩ := hG 0
    exact ⟨_, _, rfl, grown w.heap.size _ _ _ (heap_alloc_new w.drew _) hb g2 (size_of [x] _ _ rfl g1) g1 (fun j hj => by rw [show insL [] 0 x = [x] from rfl]; exact top_at [x] _ j hj), (Only.refl _ w).drew.alloc _, fun k hk => .inr (by simp [rowOf, Value.ownBlock] at hk; omega)⟩
  · injection hC with hC _ hc
    subst hC hc
    rw [Nat.mul_one] at htk hcs
    have kg : Blk w g 9 cur := kg
    have hcur : ∀ j, j < n → cur[j]? = xs[j]? := fun j hj => by rw [← htk, List.getElem?_take, if_pos hj]; simp
    have hce : ∀ (j : Nat) (v : Value), xs[j]? = some v → w.cell? ⟨g, 0 + j, none⟩ = some v := fun j v h => by
      have hj : j < n := by have := (List.getElem?_eq_some_iff.1 h).1; omega
      rw [Nat.zero_add, ← h, ← hcur j hj]; exact kg.cell j
    have hsp : ∀ j, j < c → (w.cell? ⟨g, 0 + j, none⟩).isSome = true := fun j hj => by rw [Nat.zero_add, show w.cell? ⟨g, j, none⟩ = cur[j]? from kg.cell j, Array.getElem?_eq_getElem (by omega)]; rfl
    have hfz : ∀ j, w.frozen? ⟨g, 0 + j, none⟩ = false := fun j => kg.thaw _
    have hgv : vb ≠ g := fun e => hv g (by simp [rowOf, Value.ownBlock]) e.symm
    have hc63 : c ≤ 9223372036854775807 := by unfold maxLen at hcm; omega
    have hrow : ∀ k, k ∈ rowOf (.slice (some ⟨g, 0, none⟩) 0 0) ↔ k = g := fun k => by simp [rowOf, Value.ownBlock]
    have hgw : g < w.heap.size := (Array.getElem?_eq_some_iff.1 kg).1
    obtain ⟨g1, g2⟩ := hG c
    by_cases hin : i = n
    · subst hin
      have hE : insL xs i x = xs ++ [x] := by rw [← hxl]; exact insL_end xs x
      by_cases hr : i + 1 ≤ c
      · refine (Any2.slices_Insert_string_end_room insLays g 0 i c vb 0 1 vc [x] w (by omega) hr hc63 rfl (fun j hj => by rw [Nat.add_assoc]; exact hsp _ (by omega)) (fun j hj => by rw [Nat.add_assoc]; exact hfz _) hvs h1v).mono ?_
        rintro e w' ⟨rfl, rfl⟩
        obtain ⟨cur', k', hs', ha'⟩ := kg.lay [x] (0 + i) (by simp; omega)
        exact ⟨_, _, rfl, grown g cur' _ _ k' hg hcm (by omega) hr (fun j hj => by
          rw [ha' j, hE]
          by_cases hj2 : j = i
          · subst hj2; rw [if_pos (by simp), List.getElem?_append_right (by omega), hxl]; simp
          · rw [if_neg (by simp; omega), List.getElem?_append_left (by omega)]; exact hcur j (by omega)), (Only.refl _ w).grown (setCells_grown g [x] (0 + i) w).1 (fun k hk => .inl ((hrow k).2 (by injection hk with hk; exact hk.symm))), fun k hk => .inl hk⟩
      · refine (Any2.slices_Insert_string_end_grow insLays (some ⟨g, 0, none⟩) i c vb 0 1 vc xs [x] w (by omega) hnc (by omega) (by omega) hxl rfl (fun h => by cases h) (fun a h j v hj => by injection h with h; subst h; rw [Addr.add_lit]; exact hce j v hj) hvs h1v).mono ?_
        rintro e w' ⟨rfl, rfl⟩
        exact ⟨_, _, rfl, grown w.heap.size _ _ _ (heap_alloc_new w.drew _) hb g2 (size_of (xs ++ [x]) _ _ (by simp; omega) g1) g1 (fun j hj => by rw [hE]; exact top_at _ _ j (by simp; omega)), (Only.refl _ w).drew.alloc _, fun k hk => .inr (by simp [rowOf, Value.ownBlock] at hk; omega)⟩
    · have hlt : i < n := by omega
      have hdl : (xs.drop i).length = n - i := by rw [List.length_drop, hxl]
      by_cases hr : n + 1 ≤ c
      · refine (Any2.slices_Insert_string_shift insLays g 0 n c i vb 0 1 vc xs [x] w hlt (by omega) hr hc63 hgv hxl rfl hce (fun j hj => hsp j (by omega)) (fun j _ => hfz j) hvs h1 h1v 9 9 1 c kv.shape (by rw [kg.shape, hcs]) (by omega) (kv.thaw _) (kv.thaw _)).mono ?_
        rintro e w' ⟨rfl, rfl⟩
        obtain ⟨cur1, k1, hs1, ha1⟩ := Blk.lay (w := w.drew) (xs.drop i) (0 + (i + 1)) kg (by omega)
        obtain ⟨cur2, k2, hs2, ha2⟩ := k1.lay [x] (0 + i) (by simp; omega)
        exact ⟨_, _, rfl, grown g cur2 _ _ k2 hg hcm (by omega) hr (fun j hj => by
          rw [ha2 j, ha1 j, insL_at xs i x (by omega) j, hdl]
          by_cases hj1 : j < i
          · rw [if_neg (by simp; omega), if_neg (by omega), if_pos hj1]; exact hcur j (by omega)
          · rw [if_neg hj1]
            by_cases hj2 : j = i
            · subst hj2; rw [if_pos (by simp), if_pos rfl]; simp
            · rw [if_neg (by simp; omega), if_pos (by omega), if_neg hj2, List.getElem?_drop, show i + (j - (0 + (i + 1))) = j - 1 by omega]),
          ((Only.refl _ w).drew.grown (setCells_grown g _ _ _).1 (fun k hk => .inl ((hrow k).2 (by injection hk with hk; exact hk.symm)))).grown (setCells_grown g [x] (0 + i) _).1 (fun k hk => .inl ((hrow k).2 (by injection hk with hk; exact hk.symm))), fun k hk => .inl hk⟩
      · refine (Any2.slices_Insert_string_grow insLays g 0 n c i vb 0 1 vc xs [x] w hlt (by omega) hnc (by omega) (by omega) hxl rfl hce hvs h1 h1v).mono ?_
        rintro e w' ⟨rfl, rfl⟩
        obtain ⟨cur1, k1, hs1, ha1⟩ := Blk.lay (w := (w.alloc _).drew) [x] i (heap_alloc_new w _) (by rw [size_of2 (xs.take i) _ (n + 1) (n + 1 - i) (by rw [List.length_take, hxl]; omega) g1]; simp; omega)
        rw [size_of2 (xs.take i) _ (n + 1) (n + 1 - i) (by rw [List.length_take, hxl]; omega) g1] at hs1
        obtain ⟨cur2, k2, hs2, ha2⟩ := Blk.lay (w := ((w.alloc _).drew.setCells w.heap.size i [x]).drew) (xs.drop i) (i + 1) k1 (by omega)
        refine ⟨_, _, rfl, grown w.heap.size cur2 _ _ k2 hb g2 (hs2.trans hs1) g1 (fun j hj => ?_), ?_, fun k hk => .inr (by simp [rowOf, Value.ownBlock] at hk; omega)⟩
        · rw [ha2 j, ha1 j, insL_at xs i x (by omega) j, hdl]
          by_cases hj1 : j < i
          · rw [if_neg (by omega), if_neg (by simp; omega), if_pos hj1, Array.append_assoc, top_at _ _ j (by rw [List.length_take, hxl]; omega), List.getElem?_take, if_pos hj1]
          · rw [if_neg hj1]
            by_cases hj2 : j = i
            · subst hj2; rw [if_neg (by omega), if_pos (by simp), if_pos rfl]; simp
            · rw [if_pos (by omega), if_neg hj2, List.getElem?_drop, show i + (j - (i + 1)) = j - 1 by omega]
        · exact (((((Only.refl _ w).alloc _).drew).grown (setCells_grown w.heap.size [x] i _).1 (fun k hk => .inr (by injection hk with hk; omega))).drew).grown (setCells_grown w.heap.size _ _ _).1 (fun k hk => .inr (by injection hk with hk; omega))
end Go.Proofs.Ytiimanoloedbeaa

/-
  slices.Delete of one text out of a row of texts that is the call's own: the library's contract, at this program; then in the words of rows.
-/
namespace Go.Proofs.Ytiimanoloedbeaa
open Go.RowKit Go.BigFrame Go.Shelf Go.Sort
set_option linter.unusedSimpArgs false
set_option linter.unusedVariables false
set_option maxRecDepth 100000
def delRen : Go.Shelf.Ren := ⟨fun | 24 => 123 | n => n, fun | 24 => 64 | 9 => 9 | 3 => 3 | 4 => 4 | 0 => 0 | n => n, fun | n => n⟩
theorem delLays : Go.Proofs.Lays2.n24 Try.prog delRen := {
  mixed := by kernel_rfl
  f24 := Try.func123.trans (congrArg some (by kernel_rfl))
  t0 := Try.underlying0
  a0 := Try.isAgg0
  z0 := Try.sizeOf0
  v0 := Try.zeroValue0
  t3 := Try.underlying3
  a3 := Try.isAgg3
  z3 := Try.sizeOf3
  v3 := Try.zeroValue3
  t4 := Try.underlying4
  a4 := Try.isAgg4
  z4 := Try.sizeOf4
  v4 := Try.zeroValue4
  t9 := Try.underlying9
  a9 := Try.isAgg9
  z9 := Try.sizeOf9
  v9 := Try.zeroValue9
  t24 := Try.underlying64
  a24 := Try.isAgg64
  z24 := Try.sizeOf64
  v24 := Try.zeroValue64
  i9 := by kernel_rfl }
theorem erase_map {α β : Type} (f : α → β) : ∀ (l : List α) (i : Nat), (l.map f).eraseIdx i = (l.eraseIdx i).map f
  | [], _ => rfl
  | _ :: _, 0 => rfl
  | a :: l, i + 1 => congrArg (f a :: ·) (erase_map f l i)
def b8 (c : List Nat) : List UInt8 := c.map UInt8.ofNat
theorem enc_b8 (c : List Nat) : encStr (b8 c) = .string (strOf c) := by
  show Value.string ⟨(b8 c).toArray⟩ = _
  congr 1
  rw [show b8 c = (strOf c).data.toList from (strOf_list c).symm]
set_option maxHeartbeats 4000000 in
theorem del_any (base i n c : Nat) (C : Option Addr) (l : List (List Nat)) (w : World) (hb : base ≤ w.heap.size) (ho : w.ownsRow base 9 1 (.slice C n c) n (strs l)) (hi : i < n) (hn : n ≤ 1000000) :
    Calls Try.prog 123 #[.slice C n c, .int .i64 i, .int .i64 ((i : Int) + 1)] w fun e w' =>
      e = .returned (.slice C (n - 1) c) ∧ w'.ownsRow base 9 1 (.slice C (n - 1) c) (n - 1) (strs (l.eraseIdx i)) ∧ Only (rowOf (.slice C 0 0)) w w' := by
  have hxl : l.length = n := by have := ho.1; simp [strs] at this; omega
  rcases ho.2 with ⟨hC, h0⟩ | ⟨g, cap, cur, hC, hg, kg, hnc, hcm, hcs, htk⟩
  · omega
  injection hC with hC _ hc
  subst hC hc
  rw [Nat.mul_one] at htk hcs
  have kg : Blk w g 9 cur := kg
  obtain ⟨zs, hzs⟩ : ∃ zs, zs = l.map b8 := ⟨_, rfl⟩
  have hzl : zs.length = n := by rw [hzs]; simp [hxl]
  have hcur : ∀ j, j < n → cur[j]? = (strs l)[j]? := fun j hj => by rw [← htk, List.getElem?_take, if_pos hj]; simp
  have hH : Holds encStr w g 0 zs.toArray := fun j hj => by
    have hj' : j < n := by simp at hj; omega
    refine ⟨?_, kg.thaw _⟩
    rw [Nat.zero_add, show w.cell? ⟨g, j, none⟩ = cur[j]? from kg.cell j, hcur j hj', getElem!_pos zs.toArray j hj]
    subst hzs
    simp [strs, enc_b8, hxl, hj']
  have h := Any.slices_Delete_string delLays g 0 c i (i + 1) zs w hH (by omega) (by unfold maxLen at hcm; omega) (by omega) (by omega)
  rw [hzl] at h
  refine h.mono ?_
  rintro e w' ⟨rfl, q, rfl⟩
  have hl2 : (zs.take i ++ zs.drop (i + 1) ++ List.replicate (i + 1 - i) []).length = zs.toArray.size := by simp; omega
  rw [Go.Lib.putRow_eq_setCells encStr w g 0 zs.toArray _ q hH hl2]
  obtain ⟨cur', k', hs', ha'⟩ := Blk.lay (w := w.drewN q) ((zs.take i ++ zs.drop (i + 1) ++ List.replicate (i + 1 - i) []).map encStr) 0 kg (by rw [List.length_map, hl2]; simp; omega)
  refine ⟨by rw [show i + 1 - i = 1 by omega], own_by k' hg (by omega) hcm (by omega) (by simp only [strs, List.length_map]; rw [List.length_eraseIdx, if_pos (by omega)]; omega) fun j hj => ?_, ((Only.refl _ w).drewN q).grown (setCells_grown g _ 0 _).1 (fun k hk => .inl (by injection hk with hk; subst hk; simp [rowOf, Value.ownBlock]))⟩
  rw [ha' j, if_pos (by rw [List.length_map, hl2]; simp; omega), Nat.sub_zero, List.map_append, List.getElem?_append_left (by simp; omega), ← List.eraseIdx_eq_take_drop_succ, hzs, erase_map, List.map_map]
  have e : (encStr ∘ b8) = fun c => Value.string (strOf c) := funext enc_b8
  rw [e]
  rfl
end Go.Proofs.Ytiimanoloedbeaa

/-
  What AddChild does with a snapshot of a copy. Conditions: the copy is the call's own.
-/
namespace Go.Proofs.Ytiimanoloedbeaa
open Go.RowKit Go.BigFrame
set_option linter.unusedSimpArgs false
set_option linter.unusedVariables false
set_option maxRecDepth 100000
open Go.Shelf
theorem crows_apart : ∀ {l : List SA}, (crows l).Nodup → ∀ {i j : Nat} {s t : SA}, l[i]? = some s → l[j]? = some t → i ≠ j → ∀ {k : Nat}, k ∈ rowOf (.slice s.C 0 0) → k ∉ rowOf (.slice t.C 0 0)
  | [], _, i, j, s, t, hi, _, _, k, _ => by cases i <;> cases hi
  | a :: r, h, i, j, s, t, hi, hj, hne, k, hk => by
    have h2 : (rowOf (.slice a.C 0 0) ++ crows r).Nodup := h
    obtain ⟨n1, n2, n3⟩ := List.nodup_append.1 h2
    cases i with
    | zero =>
      cases j with
      | zero => exact absurd rfl hne
      | succ j =>
        simp at hi hj
        subst hi
        intro hm
        exact n3 k hk k (List.mem_flatMap.2 ⟨t, List.mem_of_getElem? hj, hm⟩) rfl
    | succ i =>
      cases j with
      | zero =>
        simp at hi hj
        subst hj
        intro hm
        exact n3 k hm k (List.mem_flatMap.2 ⟨s, List.mem_of_getElem? hi, hk⟩) rfl
      | succ j =>
        simp at hi hj
        exact crows_apart n2 hi hj (by omega) hk
/-- behind a new row of children for a snapshot of the copy -/
theorem does_kids {W w4 w' : World} {base g gS k : Nat} {c : HA} {s : SA} {C' : Option Addr} {c' : Nat} {ch' : List (List Nat)} {PE : Nat → World → Prop} {PO : HdV → World → Prop} (hb : base ≤ W.heap.size) (kg : Blk W g 36 c.cs) (hN : c.N W base []) (hdj : c.Dj) (hS : c.S = some ⟨gS, 0, none⟩) (hs : c.sn[k]? = some s)
    (o4 : Only (rowOf (.slice s.C 0 0)) W w4) (ho4 : w4.ownsRow base 9 1 (.slice C' ch'.length c') ch'.length (strs ch')) (hk8 : ∀ c ∈ ch', ∀ b ∈ c, b < 256)
    (o : Only [gS] w4 w') (ho : w'.ownsRow base 66 11 (.slice (some ⟨gS, 0, none⟩) c.sn.length c.cs') c.sn.length ((c.sn.flatMap SA.cells).set (k * 11 + 10) (.slice C' ch'.length c')))
    (po : PO (c.v.setSn k { s.v with ch := ch' }) w') : w'.heap[g]? = W.heap[g]? ∧ DoesTo base [] g PE PO W (.returned .nilIface) w' := by
  have hsN := hN.sn s (List.mem_of_getElem? hs)
  obtain ⟨cs, kS⟩ := own_ty hN.own (k := gS) (by rw [hS]; simp [rowOf, Value.ownBlock])
  have hge : base ≤ gS := (World.ownsRow.lt hN.own gS (by rw [hS]; rfl)).1
  have kS4 : Blk w4 gS 66 cs := kS.of (o4.block gS kS.lt (fun hm => by obtain ⟨cs2, kb⟩ := hsN.ty hm; exact kb.ne_ kS (by decide) rfl))
  have kg4 : Blk w4 g 36 c.cs := kg.of (o4.block g kg.lt (fun hm => by obtain ⟨cs2, kb⟩ := hsN.ty hm; exact kb.ne_ kg (by decide) rfl))
  have kg' : Blk w' g 36 c.cs := kg4.only o (by intro hx; simp at hx; subst hx; exact kg4.ne_ kS4 (by decide) rfl)
  have hgb : w'.heap[g]? = W.heap[g]? := (show w'.heap[g]? = _ from kg').trans (show W.heap[g]? = _ from kg).symm
  have st := stay_only kS4 (by decide) (by decide) o
  have hW4 : Below base W w4 := o4.below (fun q hq => row_over hsN.own q (by rw [row_slice s.C s.ch.length s.cc 0 0]; exact hq)) hb
  have hW' : Below base W w' := hW4.trans (o.below (fun x hx => by simp at hx; omega) (Nat.le_trans hb hW4.size))
  have hl : (c.sn.set k { s with ch := ch', C := C', cc := c' }).length = c.sn.length := by simp
  have hv4 : ∀ (v : VA), v.N W base [] → v.N w4 base [] := fun v h => h.of fun q hq => o4.block q (h.under hq) (fun hm => by
    obtain ⟨c1, k1⟩ := h.ty hq
    obtain ⟨c2, k2⟩ := hsN.ty hm
    exact k1.ne_ k2 (by decide) rfl)
  refine ⟨hgb, Frm.of hW', .inr ⟨rfl, { c with sn := c.sn.set k { s with ch := ch', C := C', cc := c' } }, ?_, ⟨(hv4 _ hN.vw).stay st, fun x hx => ?_, ?_, hN.id, hN.obj, hN.seq, hN.ow, hN.it, hN.tg⟩, ?_⟩⟩
  · unfold HA.cs
    simp only [hl]
    exact kg'
  · obtain ⟨j, hj⟩ := List.mem_iff_getElem?.1 hx
    rw [List.getElem?_set] at hj
    by_cases hjk : k = j
    · rw [if_pos hjk] at hj
      split at hj
      · injection hj with hj
        subst hj
        exact ⟨(hv4 _ hsN.vw).stay st, row_of ho4 fun q hq => o.block q (row_under ho4 q hq) (fun hx => by simp at hx; subst hx; obtain ⟨c2, kb⟩ := own_ty ho4 hq; exact kb.ne_ kS4 (by decide) rfl), fun _ _ h => (by cases h), hk8, hsN.name, hsN.num, hsN.nl⟩
      · cases hj
    · rw [if_neg hjk] at hj
      have hxN := hN.sn x (List.mem_of_getElem? hj)
      exact SA.N.stay (hxN.of (fun q hq => o4.block q (hxN.vw.under hq) (fun hm => by
        obtain ⟨c1, k1⟩ := hxN.vw.ty hq
        obtain ⟨c2, k2⟩ := hsN.ty hm
        exact k1.ne_ k2 (by decide) rfl)) (fun q hq => o4.block q (hxN.under hq) (fun hm => crows_apart hdj.c hs hj hjk hm hq))) st
  · show w'.ownsRow base 66 11 (.slice c.S (c.sn.set k _).length c.cs') (c.sn.set k _).length _
    rw [hl, hS, ← flat_set_at c.sn k 10 s { s with ch := ch', C := C', cc := c' } (.slice C' ch'.length c') hs (by omega) rfl]
    exact ho
  · have : (HA.v { c with sn := c.sn.set k { s with ch := ch', C := C', cc := c' } }) = c.v.setSn k { s.v with ch := ch' } := by
      unfold HA.v HdV.setSn
      simp only [List.map_set]
      rfl
    rw [this]
    exact po
/-- one cell of a row of the call's own is stored, in a region that draws -/
theorem wp_setrow {P : Program} {o : Oper} {a : Act} {w : World} {K : Act → World → Prop} {Q : Exit → Act → World → Prop} (ty : TypeId) (x y : Operand) (ho : o.op = .store ty x y)
    (g j : Nat) (e : TypeId) (base size m c : Nat) (xs : List Value) (v : Value) (hx : a.eval x = .pointer (some ⟨g, j, none⟩)) (hy : a.eval y = v) (hO : w.ownsRow base e size (.slice (some ⟨g, 0, none⟩) m c) m xs) (hj : j < xs.length) (hi : (P.info? ty).map (·.size) = some 1) (h1 : v.oneCell' = true)
    (h : ∀ w', w'.ownsRow base e size (.slice (some ⟨g, 0, none⟩) m c) m (xs.set j v) → Only [g] w w' → w'.heap.size = w.heap.size → K (a.put o.dst undef) w') : o.wp P a w K Q := by
  have hth : w.there g j 1 := by
    rcases hO.2 with ⟨e1, _⟩ | ⟨g', cap, cur, hv, hbg, hg, hnc, hcm, hcs, htake⟩
    · cases e1
    · injection hv with e1 e2 e3
      injection e1 with e1
      injection e1 with e1
      subst e1
      have hb : Blk w g e cur := hg
      refine hb.there ?_
      have : xs.length ≤ cur.size := by rw [hO.1, hcs]; exact Nat.mul_le_mul_right _ hnc
      omega
  unfold Oper.wp execOp
  simp only [ho, hx, hy, Instr.storeAt, Instr.sureAddr, Sem.run_bind, Sem.run_pure, Result.andThen_ok, run_store_cell w g j ty v hth hi h1]
  exact h _ (own_set hO j v) ((Only.refl _ _).setCell (.inl (by simp)) _) (by simp [World.setCell])
end Go.Proofs.Ytiimanoloedbeaa

/-
  AddChild's closure. Conditions: the copy is the call's own; the child's name is short.
-/
namespace Go.Proofs.Ytiimanoloedbeaa
open Go.RowKit Go.BigFrame
set_option linter.unusedSimpArgs false
set_option linter.unusedVariables false
set_option maxRecDepth 100000
def AddE (x : List Nat) (s : SnV) (k : Nat) : Prop := (namedB x = false ∧ k = 1) ∨ (namedB x = true ∧ s.prot = false ∧ k = 13) ∨ (namedB x = true ∧ s.prot = true ∧ (∃ i, Fnd s.ch x i true) ∧ k = 5)
def AddO (x : List Nat) (s : SnV) (s' : SnV) : Prop := namedB x = true ∧ s.prot = true ∧ ∃ i, Fnd s.ch x i false ∧ s' = { s with ch := s.ch.take i ++ x :: s.ch.drop i }
theorem strs_ins (l : List (List Nat)) (i : Nat) (x : List Nat) : insL (strs l) i (.string (strOf x)) = strs (l.take i ++ x :: l.drop i) := by simp [insL, strs, List.map_take, List.map_drop]
set_option maxHeartbeats 16000000 in
theorem add1_any (W : World) (base g gS gx k : Nat) (c : HA) (s : SA) (x : List Nat) (hb : base ≤ W.heap.size) (hg : base ≤ g) (kg : Blk W g 36 c.cs) (hN : c.N W base []) (hdj : c.Dj) (hS : c.S = some ⟨gS, 0, none⟩) (hs : c.sn[k]? = some s) (hx : ∀ b ∈ x, b < 256) (hxl : x.length ≤ 1000000) (hcl : s.ch.length ≤ 1000000) (hgx : gx < base) (kx : W.cell? ⟨gx, 0, none⟩ = some (.string (strOf x))) :
    Calls Try.prog 119 #[.pointer (some ⟨gS, k * 11, none⟩), .pointer (some ⟨gx, 0, none⟩)] W (fun e w' => w'.heap[g]? = W.heap[g]? ∧ DoesTo base [] g (fun e _ => AddE x s.v e) (fun v _ => ∃ s', AddO x s.v s' ∧ v = c.v.setSn k s') W e w') := by
  obtain ⟨gS', hS', -, hgw, hcc⟩ := sn_at hN hs
  obtain rfl : gS' = gS := by rw [hS] at hS'; injection hS' with h; injection h with h; exact h.symm
  obtain ⟨bn, hbn⟩ : ∃ b, b = namedB x := ⟨_, rfl⟩
  obtain ⟨m, hm⟩ : ∃ m, m = s.ch.length := ⟨_, rfl⟩
  have hsN := hN.sn s (List.mem_of_getElem? hs)
  have HNM : Hid (∀ W', Calls Try.prog 95 #[.string (strOf x)] W' fun e w' => e = .returned (.bool bn) ∧ Below W'.heap.size W' w') := Lib.hid fun W' => by rw [hbn]; exact named_any x hx hxl W'
  have H5 : Hid (∀ W', Below W.heap.size W W' → W'.cell? ⟨gS', k * 11 + 5, none⟩ = some (.bool s.prot)) := Lib.hid fun W' h => (h.cell hgw).trans (hcc 5 _ rfl)
  have H10 : Hid (∀ W', Below W.heap.size W W' → W'.cell? ⟨gS', k * 11 + 10, none⟩ = some (.slice s.C m s.cc)) := Lib.hid fun W' h => by rw [hm]; exact (h.cell hgw).trans (hcc 10 _ rfl)
  have HKX : Hid (∀ W', Below W.heap.size W W' → W'.cell? ⟨gx, 0, none⟩ = some (.string (strOf x))) := Lib.hid fun W' h => (h.cell (by show gx < _; omega)).trans kx
  have HBS : Hid (∀ W', Below W.heap.size W W' → Calls Try.prog 120 #[.slice s.C m s.cc, .string (strOf x)] W' fun e w' => ∃ (i : Nat) (is : Bool), e = .returned (.tuple #[.int .i64 i, .bool is]) ∧ Fnd s.ch x i is ∧ Below W'.heap.size W' w') := Lib.hid fun W' h => by
    rw [hm]
    exact bsearch_any s.cc s.ch s.C x W' hcl ((hsN.R.ch.since h).more h.size) hx
  have HIN : Hid (∀ (W' : World) (i vb : Nat), Below W.heap.size W W' → i ≤ m → W.heap.size ≤ vb → Blk W' vb 9 #[.string (strOf x)] → Calls Try.prog 121 #[.slice s.C m s.cc, .int .i64 i, .slice (some ⟨vb, 0, none⟩) 1 1] W' fun e w' =>
      ∃ C' c', e = .returned (.slice C' (m + 1) c') ∧ w'.ownsRow base 9 1 (.slice C' (m + 1) c') (m + 1) (insL (strs s.ch) i (.string (strOf x))) ∧ Only (rowOf (.slice s.C 0 0)) W' w') := Lib.hid fun W' i vb h hi hv kv => by
    have hlow : ∀ q ∈ rowOf (.slice s.C 0 0), q < W.heap.size := fun q hq => hsN.under hq
    have ho : W'.ownsRow base 9 1 (.slice s.C m s.cc) m (strs s.ch) := by rw [hm]; exact row_of hsN.own fun q hq => h.block q (row_under hsN.own q hq)
    refine (ins_any base i m s.cc vb 1 s.C (strs s.ch) (.string (strOf x)) W' (Nat.le_trans hb h.size) ho hi (by omega) kv (fun q hq => by have := hlow q hq; omega) (fun v hv => by obtain ⟨c, _, rfl⟩ := List.mem_map.1 hv; rfl) rfl).mono ?_
    rintro e w' ⟨C', c', e1, e2, e3, -⟩
    exact ⟨C', c', e1, e2, e3⟩
  have hsw : ∀ q, q ∈ rowOf (.slice s.C 0 0) → q ≠ gS' ∧ base ≤ q := fun q hq => by
    obtain ⟨c2, kb⟩ := hsN.ty hq
    obtain ⟨c3, kS⟩ := own_ty hN.own (k := gS') (by rw [hS]; simp [rowOf, Value.ownBlock])
    exact ⟨kb.ne_ kS (by decide), row_over hsN.own q (by rw [row_slice s.C s.ch.length s.cc 0 0]; exact hq)⟩
  have HK := Lib.hid (And.intro hb (And.intro hg (And.intro kg (And.intro hN (And.intro hS (And.intro hs (And.intro hdj (And.intro hm (And.intro hx (And.intro hgx (And.intro hgw (And.intro hbn hsw))))))))))))
  have q0 : W.cell? ⟨gx, 0, none⟩ = some (.string (strOf x)) := kx
  clear hcc hb hg kg hN hS hS' hs hx hxl hcl hgx kx hbn hm hsN hdj hgw hsw
  go_enter Try.func119, Try.ntmps119
  go_wp2_with fail
  refine (HNM.out _).mono ?_
  rintro e w1 ⟨rfl, b1⟩
  clear q0
  cases bn with
  | false =>
    have HB := Lib.hid b1
    clear b1
    go_wp2
    go_ret
    exact ⟨HB.out.block _ HK.out.2.2.1.lt, Frm.of (HB.out.mono HK.out.1), .inl ⟨1, rfl, by omega, .inl ⟨HK.out.2.2.2.2.2.2.2.2.2.2.2.1.symm, rfl⟩⟩⟩
  | true =>
  have q5 := H5.out _ b1
  cases hp : s.prot with
  | false =>
    have HB := Lib.hid b1
    have HP := Lib.hid hp
    rw [hp] at q5
    clear b1 hp
    go_wp2
    go_ret
    exact ⟨HB.out.block _ HK.out.2.2.1.lt, Frm.of (HB.out.mono HK.out.1), .inl ⟨13, rfl, by omega, .inr (.inl ⟨HK.out.2.2.2.2.2.2.2.2.2.2.2.1.symm, HP.out, rfl⟩)⟩⟩
  | true =>
  have HP := Lib.hid hp
  rw [hp] at q5
  have HB1 := Lib.hid b1
  clear hp b1
  go_upto_region 5 with (fail)
  have hS : Below W.heap.size W w1.drew := HB1.out.drew
  refine any_beginL (fun W' => Below W.heap.size W W') 99 (by kernel_rfl) ?_
  refine S_take (i := 0) (v := .pointer (some ⟨gS', k * 11, none⟩)) rfl rfl (by kernel_rfl) (by kernel_rfl) (by kernel_rfl) (fun _ _ _ h => h) (Or.inl ⟨by rfl, fun W' hw => by go_simp⟩) hS ?_
  simp only [Act.put, List.getElem_toArray, List.getElem_cons_succ, List.getElem_cons_zero, List.setIfInBounds_toArray, List.set_cons_zero, List.set_cons_succ]
  refine S_take (i := 1) (v := .pointer (some ⟨gS', k * 11, none⟩)) rfl rfl (by kernel_rfl) (by kernel_rfl) (by kernel_rfl) (fun _ _ _ h => h) (Or.inl ⟨by rfl, fun W' hw => by go_simp⟩) hS ?_
  simp only [Act.put, List.getElem_toArray, List.getElem_cons_succ, List.getElem_cons_zero, List.setIfInBounds_toArray, List.set_cons_zero, List.set_cons_succ]
  refine S_take (i := 2) (v := .pointer (some ⟨gS', k * 11 + 10, none⟩)) rfl rfl (by kernel_rfl) (by kernel_rfl) (by kernel_rfl) (fun _ _ _ h => h) (Or.inl ⟨by rfl, fun W' hw => by go_simp⟩) hS ?_
  simp only [Act.put, List.getElem_toArray, List.getElem_cons_succ, List.getElem_cons_zero, List.setIfInBounds_toArray, List.set_cons_zero, List.set_cons_succ]
  refine S_take (i := 3) (v := .slice s.C m s.cc) rfl rfl (by kernel_rfl) (by kernel_rfl) (by kernel_rfl) (fun _ _ _ h => h) (Or.inl ⟨by rfl, fun W' hw => by have k1 := H10.out _ hw; go_simp⟩) hS ?_
  simp only [Act.put, List.getElem_toArray, List.getElem_cons_succ, List.getElem_cons_zero, List.setIfInBounds_toArray, List.set_cons_zero, List.set_cons_succ]
  refine S_take (i := 4) (v := .string (strOf x)) rfl rfl (by kernel_rfl) (by kernel_rfl) (by kernel_rfl) (fun _ _ _ h => h) (Or.inl ⟨by rfl, fun W' hw => by have k1 := HKX.out _ hw; go_simp⟩) hS ?_
  simp only [Act.put, List.getElem_toArray, List.getElem_cons_succ, List.getElem_cons_zero, List.setIfInBounds_toArray, List.set_cons_zero, List.set_cons_succ]
  refine L_one (j := 5) (by kernel_rfl) rfl (by rfl) ?_
  simp only [Act.put, List.getElem_toArray, List.getElem_cons_succ, List.getElem_cons_zero, List.setIfInBounds_toArray, List.set_cons_zero, List.set_cons_succ]
  refine wp_called (by go_simp) (HBS.out _ hS) ?_
  rintro e w2 ⟨ix, is, rfl, hf, b2⟩
  have hS := hS.trans (b2.mono hS.size)
  have HF := Lib.hid hf
  clear b2 hf
  refine ⟨_, rfl, hS, ?_⟩
  simp only [Act.put, List.getElem_toArray, List.getElem_cons_succ, List.getElem_cons_zero, List.setIfInBounds_toArray, List.set_cons_zero, List.set_cons_succ]
  refine S_take (i := 6) (v := .tuple #[.int .i64 ix, .bool is]) rfl rfl (by kernel_rfl) (by kernel_rfl) (by kernel_rfl) (fun _ _ _ h => h) (Or.inl ⟨by rfl, fun W' hw => by go_simp⟩) hS ?_
  simp only [Act.put, List.getElem_toArray, List.getElem_cons_succ, List.getElem_cons_zero, List.setIfInBounds_toArray, List.set_cons_zero, List.set_cons_succ]
  refine S_take (i := 7) (v := .int .i64 ix) rfl rfl (by kernel_rfl) (by kernel_rfl) (by kernel_rfl) (fun _ _ _ h => h) (Or.inl ⟨by rfl, fun W' hw => by go_simp⟩) hS ?_
  simp only [Act.put, List.getElem_toArray, List.getElem_cons_succ, List.getElem_cons_zero, List.setIfInBounds_toArray, List.set_cons_zero, List.set_cons_succ]
  refine S_take (i := 8) (v := .bool is) rfl rfl (by kernel_rfl) (by kernel_rfl) (by kernel_rfl) (fun _ _ _ h => h) (Or.inl ⟨by rfl, fun W' hw => by go_simp⟩) hS ?_
  simp only [Act.put, List.getElem_toArray, List.getElem_cons_succ, List.getElem_cons_zero, List.setIfInBounds_toArray, List.set_cons_zero, List.set_cons_succ]
  refine S_take (i := 9) (v := .int .i64 ix) rfl rfl (by kernel_rfl) (by kernel_rfl) (by kernel_rfl) (fun _ _ _ h => h) (Or.inl ⟨by rfl, fun W' hw => by go_simp⟩) hS ?_
  simp only [Act.put, List.getElem_toArray, List.getElem_cons_succ, List.getElem_cons_zero, List.setIfInBounds_toArray, List.set_cons_zero, List.set_cons_succ]
  refine S_take (i := 10) (v := .bool is) rfl rfl (by kernel_rfl) (by kernel_rfl) (by kernel_rfl) (fun _ _ _ h => h) (Or.inl ⟨by rfl, fun W' hw => by go_simp⟩) hS ?_
  simp only [Act.put, List.getElem_toArray, List.getElem_cons_succ, List.getElem_cons_zero, List.setIfInBounds_toArray, List.set_cons_zero, List.set_cons_succ]
  refine L_done (by kernel_rfl) ?_
  refine NoPanic.normal ?_
  have HB2 := Lib.hid hS
  clear hS q5
  cases is with
  | true =>
    go_wp2
    go_ret
    exact ⟨HB2.out.block _ HK.out.2.2.1.lt, Frm.of (HB2.out.mono HK.out.1), .inl ⟨5, rfl, by omega, .inr (.inr ⟨HK.out.2.2.2.2.2.2.2.2.2.2.2.1.symm, HP.out, ⟨ix, HF.out⟩, rfl⟩)⟩⟩
  | false =>
  go_upto_region 8 with (fail)
  have HB3 : Hid (Below W.heap.size W w2.drew) := Lib.hid HB2.out.drew
  refine any_beginL (fun W' => W'.cell? ⟨gS', k * 11 + 10, none⟩ = some (.slice s.C m s.cc) ∧ W'.cell? ⟨gx, 0, none⟩ = some (.string (strOf x))) 11 (by kernel_rfl) ?_
  generalize World.drew w2 = w3 at *
  have hS : w3.cell? ⟨gS', k * 11 + 10, none⟩ = some (.slice s.C m s.cc) ∧ w3.cell? ⟨gx, 0, none⟩ = some (.string (strOf x)) := ⟨H10.out _ HB3.out, HKX.out _ HB3.out⟩
  refine L_take (i := 0) (v := .pointer (some ⟨gS', k * 11, none⟩)) rfl rfl (by kernel_rfl) (by kernel_rfl) (by kernel_rfl) (by kernel_rfl) (fun _ _ _ h => h) (Or.inl ⟨by rfl, fun W' hw => by go_simp⟩) hS ?_
  simp only [Act.put, List.getElem_toArray, List.getElem_cons_succ, List.getElem_cons_zero, List.setIfInBounds_toArray, List.set_cons_zero, List.set_cons_succ]
  refine L_take (i := 1) (v := .pointer (some ⟨gS', k * 11, none⟩)) rfl rfl (by kernel_rfl) (by kernel_rfl) (by kernel_rfl) (by kernel_rfl) (fun _ _ _ h => h) (Or.inl ⟨by rfl, fun W' hw => by go_simp⟩) hS ?_
  simp only [Act.put, List.getElem_toArray, List.getElem_cons_succ, List.getElem_cons_zero, List.setIfInBounds_toArray, List.set_cons_zero, List.set_cons_succ]
  refine L_take (i := 2) (v := .pointer (some ⟨gS', k * 11, none⟩)) rfl rfl (by kernel_rfl) (by kernel_rfl) (by kernel_rfl) (by kernel_rfl) (fun _ _ _ h => h) (Or.inl ⟨by rfl, fun W' hw => by go_simp⟩) hS ?_
  simp only [Act.put, List.getElem_toArray, List.getElem_cons_succ, List.getElem_cons_zero, List.setIfInBounds_toArray, List.set_cons_zero, List.set_cons_succ]
  refine L_take (i := 3) (v := .pointer (some ⟨gS', k * 11 + 10, none⟩)) rfl rfl (by kernel_rfl) (by kernel_rfl) (by kernel_rfl) (by kernel_rfl) (fun _ _ _ h => h) (Or.inl ⟨by rfl, fun W' hw => by go_simp⟩) hS ?_
  simp only [Act.put, List.getElem_toArray, List.getElem_cons_succ, List.getElem_cons_zero, List.setIfInBounds_toArray, List.set_cons_zero, List.set_cons_succ]
  refine L_take (i := 4) (v := .slice s.C m s.cc) rfl rfl (by kernel_rfl) (by kernel_rfl) (by kernel_rfl) (by kernel_rfl) (fun _ _ _ h => h) (Or.inl ⟨by rfl, fun W' hw => by have k1 := hw.1; go_simp⟩) hS ?_
  simp only [Act.put, List.getElem_toArray, List.getElem_cons_succ, List.getElem_cons_zero, List.setIfInBounds_toArray, List.set_cons_zero, List.set_cons_succ]
  refine L_take (i := 5) (v := .int .i64 ix) rfl rfl (by kernel_rfl) (by kernel_rfl) (by kernel_rfl) (by kernel_rfl) (fun _ _ _ h => h) (Or.inl ⟨by rfl, fun W' hw => by go_simp⟩) hS ?_
  simp only [Act.put, List.getElem_toArray, List.getElem_cons_succ, List.getElem_cons_zero, List.setIfInBounds_toArray, List.set_cons_zero, List.set_cons_succ]
  refine L_take (i := 6) (v := .string (strOf x)) rfl rfl (by kernel_rfl) (by kernel_rfl) (by kernel_rfl) (by kernel_rfl) (fun _ _ _ h => h) (Or.inl ⟨by rfl, fun W' hw => by have k1 := hw.2; go_simp⟩) hS ?_
  simp only [Act.put, List.getElem_toArray, List.getElem_cons_succ, List.getElem_cons_zero, List.setIfInBounds_toArray, List.set_cons_zero, List.set_cons_succ]
  have hbs := run_buildSlice_one (P := Try.prog) (t := 64) (e := 9) (size := 1) (v := .string (strOf x)) Try.underlying64 (by kernel_rfl) (by omega) (by omega) rfl w3
  refine L_one (j := 7) (by kernel_rfl) rfl (by rfl) ?_
  simp only [Act.put, List.getElem_toArray, List.getElem_cons_succ, List.getElem_cons_zero, List.setIfInBounds_toArray, List.set_cons_zero, List.set_cons_succ]
  have hB4 : Below W.heap.size W (w3.alloc (.cells (Value.string (strOf x)).cells 9)) := HB3.out.alloc (by exact HB3.out.size) _
  have k4 : Blk (w3.alloc (.cells (Value.string (strOf x)).cells 9)) w3.heap.size 9 #[.string (strOf x)] := Blk.new w3 9 #[.string (strOf x)]
  have hS : (w3.alloc (.cells (Value.string (strOf x)).cells 9)).cell? ⟨gS', k * 11 + 10, none⟩ = some (.slice s.C m s.cc) ∧ (w3.alloc (.cells (Value.string (strOf x)).cells 9)).cell? ⟨gx, 0, none⟩ = some (.string (strOf x)) := ⟨H10.out _ hB4, HKX.out _ hB4⟩
  refine wp_ran (v := .slice (some ⟨w3.heap.size, 0, none⟩) 1 1) (w' := w3.alloc (.cells (Value.string (strOf x)).cells 9)) (by go_simp) ⟨hS, ?_⟩
  simp only [Act.put, List.getElem_toArray, List.getElem_cons_succ, List.getElem_cons_zero, List.setIfInBounds_toArray, List.set_cons_zero, List.set_cons_succ]
  clear hbs
  obtain ⟨vb, hvb⟩ : ∃ v, v = w3.heap.size := ⟨_, rfl⟩
  have hvb2 : W.heap.size ≤ vb := by rw [hvb]; exact HB3.out.size
  rw [← hvb] at k4 ⊢
  clear hvb
  generalize World.alloc w3 _ = w4 at *
  refine L_one (j := 8) (by kernel_rfl) rfl (by rfl) ?_
  simp only [Act.put, List.getElem_toArray, List.getElem_cons_succ, List.getElem_cons_zero, List.setIfInBounds_toArray, List.set_cons_zero, List.set_cons_succ]
  have hixm : ix ≤ m := by have := HF.out.le; have e := HK.out.2.2.2.2.2.2.2.1; show ix ≤ m; rw [e]; exact this
  refine wp_called (by go_simp) (HIN.out w4 ix vb hB4 hixm hvb2 k4) ?_
  rintro e w5 ⟨C', c', rfl, ho5, o5⟩
  have hsw := HK.out.2.2.2.2.2.2.2.2.2.2.2.2
  have hgx := HK.out.2.2.2.2.2.2.2.2.2.1
  have hgw := HK.out.2.2.2.2.2.2.2.2.2.2.1
  have hS : w5.cell? ⟨gS', k * 11 + 10, none⟩ = some (.slice s.C m s.cc) ∧ w5.cell? ⟨gx, 0, none⟩ = some (.string (strOf x)) := ⟨(o5.cell (Nat.lt_of_lt_of_le hgw hB4.size) (fun hm => (hsw _ hm).1 rfl)).trans hS.1, (o5.cell (Nat.lt_of_lt_of_le hgx (Nat.le_trans HK.out.1 hB4.size)) (fun hm => by have := (hsw _ hm).2; show False; change base ≤ gx at this; omega)).trans hS.2⟩
  have oW : Only (rowOf (.slice s.C 0 0)) W w5 := (Only.of_below hB4 _).trans o5 (fun k h => .inl h)
  have H5' := Lib.hid (And.intro ho5 (And.intro oW hixm))
  clear ho5 oW hixm o5 hB4 k4 hvb2 hsw hgx hgw
  refine ⟨_, rfl, hS, ?_⟩
  simp only [Act.put, List.getElem_toArray, List.getElem_cons_succ, List.getElem_cons_zero, List.setIfInBounds_toArray, List.set_cons_zero, List.set_cons_succ]
  refine L_one (j := 9) (by kernel_rfl) rfl (by rfl) ?_
  simp only [Act.put, List.getElem_toArray, List.getElem_cons_succ, List.getElem_cons_zero, List.setIfInBounds_toArray, List.set_cons_zero, List.set_cons_succ]
  refine wp_ran (v := .pointer (some ⟨gS', k * 11, none⟩)) (w' := w5) (by go_simp) ⟨hS, ?_⟩
  simp only [Act.put, List.getElem_toArray, List.getElem_cons_succ, List.getElem_cons_zero, List.setIfInBounds_toArray, List.set_cons_zero, List.set_cons_succ]
  refine L_one (j := 10) (by kernel_rfl) rfl (by rfl) ?_
  simp only [Act.put, List.getElem_toArray, List.getElem_cons_succ, List.getElem_cons_zero, List.setIfInBounds_toArray, List.set_cons_zero, List.set_cons_succ]
  refine wp_ran (v := .pointer (some ⟨gS', k * 11 + 10, none⟩)) (w' := w5) (by go_simp) ⟨hS, ?_⟩
  simp only [Act.put, List.getElem_toArray, List.getElem_cons_succ, List.getElem_cons_zero, List.setIfInBounds_toArray, List.set_cons_zero, List.set_cons_succ]
  refine L_last (by kernel_rfl) rfl (by rfl) (by kernel_rfl) ?_
  simp only [Act.put, List.getElem_toArray, List.getElem_cons_succ, List.getElem_cons_zero, List.setIfInBounds_toArray, List.set_cons_zero, List.set_cons_succ]
  have hOS : w5.ownsRow base 66 11 (.slice (some ⟨gS', 0, none⟩) c.sn.length c.cs') c.sn.length (c.sn.flatMap SA.cells) := by
    have := HK.out.2.2.2.1.own
    rw [HK.out.2.2.2.2.1] at this
    exact row_of this fun q hq => H5'.out.2.1.block q (row_under this q hq) (fun hm => by
      obtain rfl : q = gS' := by simpa [rowOf, Value.ownBlock] using hq
      exact (HK.out.2.2.2.2.2.2.2.2.2.2.2.2 _ hm).1 rfl)
  have hlt : k < c.sn.length := (List.getElem?_eq_some_iff.1 HK.out.2.2.2.2.2.1).1
  refine wp_setrow 64 (.tmp 37) (.tmp 35) rfl gS' (k * 11 + 10) 66 base 11 c.sn.length c.cs' (c.sn.flatMap SA.cells) (.slice C' (m + 1) c') rfl rfl hOS (by rw [flat_len11]; omega) (by kernel_rfl) rfl ?_
  intro w9 K9 o9 s9
  refine NoPanic.normal ?_
  have H9 := Lib.hid (And.intro K9 (And.intro o9 s9))
  clear K9 o9 s9 hOS hS hlt
  go_wp2
  go_ret
  have hcl : (s.ch.take ix ++ x :: s.ch.drop ix).length = m + 1 := by have e := HK.out.2.2.2.2.2.2.2.1; have h := H5'.out.2.2; simp; omega
  refine does_kids (C' := C') (c' := c') (ch' := s.ch.take ix ++ x :: s.ch.drop ix) HK.out.1 HK.out.2.2.1 HK.out.2.2.2.1 HK.out.2.2.2.2.2.2.1 HK.out.2.2.2.2.1 HK.out.2.2.2.2.2.1 H5'.out.2.1 ?_ ?_ H9.out.2.1 ?_ ?_
  · rw [hcl, ← strs_ins]
    exact H5'.out.1
  · intro y hy
    rcases List.mem_append.1 hy with hy | hy
    · exact (HK.out.2.2.2.1.sn s (List.mem_of_getElem? HK.out.2.2.2.2.2.1)).ok y (List.mem_of_mem_take hy)
    · rcases List.mem_cons.1 hy with rfl | hy
      · exact HK.out.2.2.2.2.2.2.2.2.1
      · exact (HK.out.2.2.2.1.sn s (List.mem_of_getElem? HK.out.2.2.2.2.2.1)).ok y (List.mem_of_mem_drop hy)
  · rw [hcl]
    exact H9.out.1
  · exact ⟨_, ⟨HK.out.2.2.2.2.2.2.2.2.2.2.2.1.symm, HP.out, ix, HF.out, rfl⟩, rfl⟩
end Go.Proofs.Ytiimanoloedbeaa
