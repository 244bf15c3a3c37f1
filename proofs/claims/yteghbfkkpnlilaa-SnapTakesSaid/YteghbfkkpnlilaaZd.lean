/-
  Bytes are written into an object's head. Conditions: the object lies where it is said to; the bytes read as they are said to.
-/
import Derived.Test.YteghbfkkpnlilaaZc
import Derived.Lib.SlBytesConst
import Derived.WideShapes
import Derived.Laws.Strings

namespace Go.Proofs.Yteghbfkkpnlilaa
open Go.RowKit Go.BigFrame
set_option linter.unusedSimpArgs false
set_option linter.unusedVariables false
set_option maxRecDepth 100000
def GrowTo (w : World) (g base : Nat) (q : OA) (n : Nat) (e : Ending) (w' : World) : Prop := e = .returned (.tuple #[]) ∧ ∃ (D' : Option Addr) (c' : Nat), Blk w' g 36 #[.bool q.th, .slice D' (q.dt ++ List.replicate (n - q.dt.length) 0).length c', .int .i64 q.sq, .slice q.C q.cl.length q.cc] ∧ Own w' base (.slice D' (q.dt ++ List.replicate (n - q.dt.length) 0).length c') (q.dt ++ List.replicate (n - q.dt.length) 0).length (q.dt ++ List.replicate (n - q.dt.length) 0) ∧ Only (g :: rowOf (.slice q.D 0 0)) w w' ∧ ∀ k ∈ rowOf (.slice D' 0 0), k ∈ rowOf (.slice q.D 0 0) ∨ w.heap.size ≤ k
set_option maxHeartbeats 4000000 in
theorem grow_any {w : World} {g base n : Nat} (q : OA) (K : Blk w g 36 q.cs) (hN : q.N w base) (hS : q.dt.length ≤ 10000) (hb : base ≤ w.heap.size) (hn : n ≤ 100000) : Calls Try.prog 75 #[.pointer (some ⟨g, 0, none⟩), .int .i64 (n : Int)] w (GrowTo w g base q n) := by
  have hown := hN.dt
  obtain ⟨-, hl, hmc, hD⟩ := own_len hown
  obtain ⟨m, hm⟩ : ∃ m, m = q.dt.length := ⟨_, rfl⟩
  obtain ⟨kk, hkk⟩ : ∃ kk, kk = n - m := ⟨_, rfl⟩
  have happ : ∃ (D1 : Option Addr) (c1 : Nat) (w1 : World), (Builtin.append_ #[22, 3] 22 #[.slice q.D m q.cd, .int .i64 (kk : Int)]).run Try.prog w.drew = .ok (.slice D1 (m + kk) c1) w1 ∧ Own w1 base (.slice D1 (m + kk) c1) (m + kk) (q.dt ++ List.replicate kk 0) ∧ w.drew.grownBy w1 (Value.slice q.D m q.cd).ownBlock ∧ ((Value.slice D1 (m + kk) c1).ownBlock = (Value.slice q.D m q.cd).ownBlock ∨ (Value.slice D1 (m + kk) c1).ownBlock = some w.heap.size) := by
    rw [← hm] at hown
    rcases Nat.eq_zero_or_pos kk with h0 | h0
    · rw [h0]
      refine ⟨q.D, q.cd, w.drew, run_zeros_none (w := w.drew) hown _, ?_, World.grownBy.refl _ _, .inl rfl⟩
      simpa using hown.drew
    · have hz : u8s q.dt ++ List.replicate kk (Value.int .u8 0) = u8s (q.dt ++ List.replicate kk 0) := by simp [u8s, u8]
      obtain ⟨v', w1, hrun, ho1, hg1, hv1⟩ := run_zeros_own (w := w.drew) (k := kk) hown h0 (by omega) hb 22
      rw [hz] at ho1
      obtain ⟨D1, c1, rfl, -⟩ := Own.form (show Own w1 base v' (m + kk) (q.dt ++ List.replicate kk 0) from ho1)
      exact ⟨D1, c1, w1, hrun, ho1, hg1, hv1⟩
  obtain ⟨D1, c1, w1, hrun, ho1, hg1, hv1⟩ := happ
  have hlen : (q.dt ++ List.replicate (n - q.dt.length) 0).length = m + kk := by rw [hkk, hm]; simp
  have hrowD : (Value.slice q.D m q.cd).ownBlock = (Value.slice q.D 0 0).ownBlock := by cases q.D <;> rfl
  have hrow1 : (Value.slice D1 (m + kk) c1).ownBlock = (Value.slice D1 0 0).ownBlock := by cases D1 <;> rfl
  rw [hrowD] at hg1 hv1
  rw [hrow1] at hv1
  have hoD := OA.P.dU hN
  have K1 : Blk w1 g 36 #[.bool q.th, .slice q.D q.dt.length q.cd, .int .i64 q.sq, .slice q.C q.cl.length q.cc] := (K.drew).grown hg1 (fun e => by
    obtain ⟨_, _, cs, hbb⟩ := hoD g (mem_rowOf.2 e.symm)
    exact hbb.ne_ K (by decide) rfl)
  have hon1 : Only (g :: rowOf (.slice q.D 0 0)) w w1 := ((Only.refl _ w).drew).grown hg1 (fun k e => .inl (by simp [mem_rowOf.2 e]))
  have HFIN : Hid (∀ w2, Blk w2 g 36 (#[.bool q.th, .slice q.D m q.cd, .int .i64 q.sq, .slice q.C q.cl.length q.cc].setIfInBounds 1 (.slice D1 (m + kk) c1)) → Only [g] w1 w2 → GrowTo w g base q n (.returned (.tuple #[])) w2) := Lib.hid fun w2 K2 ho2 => by
    refine ⟨rfl, D1, c1, ?_, ?_, hon1.trans ho2 (fun k hk => .inl (by simp at hk; simp [hk])), fun k hk => ?_⟩
    · rw [hlen]; simpa using K2
    · rw [hlen]
      have e : q.dt ++ List.replicate (n - q.dt.length) 0 = q.dt ++ List.replicate kk 0 := by rw [hkk, hm]
      rw [e]
      exact row_of ho1 fun k hk => ho2.block k (row_under ho1 k hk) (fun hm => by simp at hm; subst hm; obtain ⟨cs, hbb⟩ := own_ty ho1 hk; exact hbb.ne_ K1 (by decide) rfl)
    · rcases hv1 with e | e
      · left; rw [mem_rowOf] at hk ⊢; rw [← e]; exact hk
      · right
        rw [mem_rowOf, e] at hk
        injection hk with hk
        omega
  have HRUN := Lib.hid (And.intro hrun K1)
  have HKK := Lib.hid hkk
  have hC : ∀ w' : World, Blk w' g 36 #[.bool q.th, .slice q.D m q.cd, .int .i64 q.sq, .slice q.C q.cl.length q.cc] → w'.cell? ⟨g, 1, none⟩ = some (.slice q.D m q.cd) := fun w' h => h.cell 1
  have HC := Lib.hid hC
  have hS7 : Blk w.drew g 36 #[.bool q.th, .slice q.D m q.cd, .int .i64 q.sq, .slice q.C q.cl.length q.cc] := by rw [hm]; exact K.drew
  have hwd : IntKind.i64.wrap ((n : Int) - (m : Int)) = (n : Int) - (m : Int) := by rw [IntKind.wrap_i64]; omega
  have K1' : Blk w1 g 36 #[.bool q.th, .slice q.D m q.cd, .int .i64 q.sq, .slice q.C q.cl.length q.cc] := by rw [hm]; exact K1
  have HK1 := Lib.hid K1'
  clear hown hmc hD hrun ho1 hg1 hv1 hlen hrowD hrow1 hoD K1 hon1 hC K hN hm hl K1'
  go_enter Try.func75, Try.ntmps75
  go_upto_region 0 with (fail)
  refine any_beginL (fun w' => Blk w' g 36 #[.bool q.th, .slice q.D m q.cd, .int .i64 q.sq, .slice q.C q.cl.length q.cc]) 16 (by kernel_rfl) ?_
  refine L_take (i := 0) (v := .pointer (some ⟨g, 0, none⟩)) rfl rfl (by kernel_rfl) (by kernel_rfl) (by kernel_rfl) (by kernel_rfl) (fun _ _ _ h => h) (Or.inl ⟨by rfl, fun w hw => by kernel_rfl⟩) hS7 ?_
  simp only [Act.put, List.getElem_toArray, List.getElem_cons_succ, List.getElem_cons_zero, List.setIfInBounds_toArray, List.set_cons_zero, List.set_cons_succ]
  refine L_take (i := 1) (v := .pointer (some ⟨g, 0, none⟩)) rfl rfl (by kernel_rfl) (by kernel_rfl) (by kernel_rfl) (by kernel_rfl) (fun _ _ _ h => h) (Or.inl ⟨by rfl, fun w hw => by kernel_rfl⟩) hS7 ?_
  simp only [Act.put, List.getElem_toArray, List.getElem_cons_succ, List.getElem_cons_zero, List.setIfInBounds_toArray, List.set_cons_zero, List.set_cons_succ]
  refine L_take (i := 2) (v := .pointer (some ⟨g, 0, none⟩)) rfl rfl (by kernel_rfl) (by kernel_rfl) (by kernel_rfl) (by kernel_rfl) (fun _ _ _ h => h) (Or.inl ⟨by rfl, fun w hw => by kernel_rfl⟩) hS7 ?_
  simp only [Act.put, List.getElem_toArray, List.getElem_cons_succ, List.getElem_cons_zero, List.setIfInBounds_toArray, List.set_cons_zero, List.set_cons_succ]
  refine L_take (i := 3) (v := .pointer (some ⟨g, 1, none⟩)) rfl rfl (by kernel_rfl) (by kernel_rfl) (by kernel_rfl) (by kernel_rfl) (fun _ _ _ h => h) (Or.inl ⟨by rfl, fun w hw => by go_simp⟩) hS7 ?_
  simp only [Act.put, List.getElem_toArray, List.getElem_cons_succ, List.getElem_cons_zero, List.setIfInBounds_toArray, List.set_cons_zero, List.set_cons_succ]
  refine L_take (i := 4) (v := .slice q.D m q.cd) rfl rfl (by kernel_rfl) (by kernel_rfl) (by kernel_rfl) (by kernel_rfl) (fun _ _ _ h => h) (Or.inl ⟨by rfl, fun w hw => by have q1 := HC.out w hw; go_simp⟩) hS7 ?_
  simp only [Act.put, List.getElem_toArray, List.getElem_cons_succ, List.getElem_cons_zero, List.setIfInBounds_toArray, List.set_cons_zero, List.set_cons_succ]
  refine L_take (i := 5) (v := .int .i64 (n : Int)) rfl rfl (by kernel_rfl) (by kernel_rfl) (by kernel_rfl) (by kernel_rfl) (fun _ _ _ h => h) (Or.inl ⟨by rfl, fun w hw => by kernel_rfl⟩) hS7 ?_
  simp only [Act.put, List.getElem_toArray, List.getElem_cons_succ, List.getElem_cons_zero, List.setIfInBounds_toArray, List.set_cons_zero, List.set_cons_succ]
  refine L_take (i := 6) (v := .pointer (some ⟨g, 0, none⟩)) rfl rfl (by kernel_rfl) (by kernel_rfl) (by kernel_rfl) (by kernel_rfl) (fun _ _ _ h => h) (Or.inl ⟨by rfl, fun w hw => by kernel_rfl⟩) hS7 ?_
  simp only [Act.put, List.getElem_toArray, List.getElem_cons_succ, List.getElem_cons_zero, List.setIfInBounds_toArray, List.set_cons_zero, List.set_cons_succ]
  refine L_take (i := 7) (v := .pointer (some ⟨g, 0, none⟩)) rfl rfl (by kernel_rfl) (by kernel_rfl) (by kernel_rfl) (by kernel_rfl) (fun _ _ _ h => h) (Or.inl ⟨by rfl, fun w hw => by kernel_rfl⟩) hS7 ?_
  simp only [Act.put, List.getElem_toArray, List.getElem_cons_succ, List.getElem_cons_zero, List.setIfInBounds_toArray, List.set_cons_zero, List.set_cons_succ]
  refine L_take (i := 8) (v := .pointer (some ⟨g, 1, none⟩)) rfl rfl (by kernel_rfl) (by kernel_rfl) (by kernel_rfl) (by kernel_rfl) (fun _ _ _ h => h) (Or.inl ⟨by rfl, fun w hw => by go_simp⟩) hS7 ?_
  simp only [Act.put, List.getElem_toArray, List.getElem_cons_succ, List.getElem_cons_zero, List.setIfInBounds_toArray, List.set_cons_zero, List.set_cons_succ]
  refine L_take (i := 9) (v := .slice q.D m q.cd) rfl rfl (by kernel_rfl) (by kernel_rfl) (by kernel_rfl) (by kernel_rfl) (fun _ _ _ h => h) (Or.inl ⟨by rfl, fun w hw => by have q1 := HC.out w hw; go_simp⟩) hS7 ?_
  simp only [Act.put, List.getElem_toArray, List.getElem_cons_succ, List.getElem_cons_zero, List.setIfInBounds_toArray, List.set_cons_zero, List.set_cons_succ]
  refine L_take (i := 10) (v := .int .i64 (m : Int)) rfl rfl (by kernel_rfl) (by kernel_rfl) (by kernel_rfl) (by kernel_rfl) (fun _ _ _ h => h) (Or.inl ⟨by rfl, fun w hw => by go_simp⟩) hS7 ?_
  simp only [Act.put, List.getElem_toArray, List.getElem_cons_succ, List.getElem_cons_zero, List.setIfInBounds_toArray, List.set_cons_zero, List.set_cons_succ]
  refine L_take (i := 11) (v := .int .i64 ((n : Int) - (m : Int))) rfl rfl (by kernel_rfl) (by kernel_rfl) (by kernel_rfl) (by kernel_rfl) (fun _ _ _ h => h) (Or.inl ⟨by rfl, fun w hw => by go_simp⟩) hS7 ?_
  simp only [Act.put, List.getElem_toArray, List.getElem_cons_succ, List.getElem_cons_zero, List.setIfInBounds_toArray, List.set_cons_zero, List.set_cons_succ]
  refine L_take (i := 12) (v := .int .i64 (kk : Int)) rfl rfl (by kernel_rfl) (by kernel_rfl) (by kernel_rfl) (by kernel_rfl) (fun _ _ _ h => h) (Or.inl ⟨by rfl, fun w hw => by
    by_cases hnm : n ≤ m
    · have hz : kk = 0 := by omega
      clear hkk HKK
      subst hz
      have hd : decide ((0 : Int) < (n : Int) - (m : Int)) = false := decide_eq_false (by omega)
      go_simp <;> omega
    · have hd : decide ((0 : Int) < (n : Int) - (m : Int)) = true := decide_eq_true (by omega)
      go_simp <;> omega⟩) hS7 ?_
  simp only [Act.put, List.getElem_toArray, List.getElem_cons_succ, List.getElem_cons_zero, List.setIfInBounds_toArray, List.set_cons_zero, List.set_cons_succ]
  refine L_one (j := 13) (by kernel_rfl) rfl (by rfl) ?_
  simp only [Act.put, List.getElem_toArray, List.getElem_cons_succ, List.getElem_cons_zero, List.setIfInBounds_toArray, List.set_cons_zero, List.set_cons_succ]
  refine Lib.wp_append_run w.drew (.tmp 8) (.tmp 16) 22 3 rfl (.slice q.D m q.cd) (.int .i64 (kk : Int)) rfl rfl (.slice D1 (m + kk) c1) w1 HRUN.out.1 ?_
  refine ⟨HK1.out, ?_⟩
  simp only [Act.put, List.getElem_toArray, List.getElem_cons_succ, List.getElem_cons_zero, List.setIfInBounds_toArray, List.set_cons_zero, List.set_cons_succ]
  refine L_one (j := 14) (by kernel_rfl) rfl (by rfl) ?_
  simp only [Act.put, List.getElem_toArray, List.getElem_cons_succ, List.getElem_cons_zero, List.setIfInBounds_toArray, List.set_cons_zero, List.set_cons_succ]
  refine wp_ran (v := .pointer (some ⟨g, 0, none⟩)) (w' := w1) (by kernel_rfl) ⟨HK1.out, ?_⟩
  simp only [Act.put, List.getElem_toArray, List.getElem_cons_succ, List.getElem_cons_zero, List.setIfInBounds_toArray, List.set_cons_zero, List.set_cons_succ]
  refine L_one (j := 15) (by kernel_rfl) rfl (by rfl) ?_
  simp only [Act.put, List.getElem_toArray, List.getElem_cons_succ, List.getElem_cons_zero, List.setIfInBounds_toArray, List.set_cons_zero, List.set_cons_succ]
  refine wp_ran (v := .pointer (some ⟨g, 1, none⟩)) (w' := w1) (by go_simp) ⟨HK1.out, ?_⟩
  simp only [Act.put, List.getElem_toArray, List.getElem_cons_succ, List.getElem_cons_zero, List.setIfInBounds_toArray, List.set_cons_zero, List.set_cons_succ]
  refine L_last (by kernel_rfl) rfl (by rfl) (by kernel_rfl) ?_
  simp only [Act.put, List.getElem_toArray, List.getElem_cons_succ, List.getElem_cons_zero, List.setIfInBounds_toArray, List.set_cons_zero, List.set_cons_succ]
  refine wp_setq 22 (.tmp 19) (.tmp 17) rfl g 1 36 _ (.slice D1 (m + kk) c1) rfl rfl HK1.out (by simp) (by kernel_rfl) rfl ?_
  intro w2 K2 ho2 hs2
  refine NoPanic.normal ?_
  simp only [Act.put, List.getElem_toArray, List.getElem_cons_succ, List.getElem_cons_zero, List.setIfInBounds_toArray, List.set_cons_zero, List.set_cons_succ]
  have HF2 := Lib.hid (HFIN.out w2 K2 ho2)
  clear K2 ho2 hs2 hS7 HC
  go_wp2
  refine bodyPost_end (results_none rfl _ _ _) rfl ?_
  exact HF2.out
end Go.Proofs.Yteghbfkkpnlilaa

/-
  Bytes are written into an object's head. Conditions: the object lies where it is said to; the bytes read as they are said to.
-/
namespace Go.Proofs.Yteghbfkkpnlilaa
open Go.RowKit Go.BigFrame
set_option linter.unusedSimpArgs false
set_option linter.unusedVariables false
set_option maxRecDepth 100000
def writeK (a : Int) (n : Nat) : Nat := if a < 0 ∨ 256 - (n : Int) < a then 1 else 0
def writeD (d : List Nat) (a : Nat) (nb : List Nat) : List Nat := (d ++ List.replicate (a + nb.length - d.length) 0).take a ++ nb ++ (d ++ List.replicate (a + nb.length - d.length) 0).drop (a + nb.length)
theorem writeD_len (d : List Nat) (a : Nat) (nb : List Nat) : (writeD d a nb).length = max d.length (a + nb.length) := by simp [writeD]; omega
theorem writeMay {w : World} {pa pd n c : Nat} {A : Option Addr} (a : Int) (Ka : Blk w pa 3 #[.int .i64 a]) (Kd : Blk w pd 22 #[.slice A n c]) (hn : n ≤ 100000) : MayC w 73 #[.pointer (some ⟨pa, 0, none⟩), .pointer (some ⟨pd, 0, none⟩)] (writeK a n) := fun w1 hb => by
  have ca : w1.cell? ⟨pa, 0, none⟩ = some (.int .i64 a) := (Ka.of (hb.block _ Ka.lt)).cell 0
  have cd : w1.cell? ⟨pd, 0, none⟩ = some (.slice A n c) := (Kd.of (hb.block _ Kd.lt)).cell 0
  clear Ka Kd hb
  have hw : IntKind.i64.wrap (256 - (n : Int)) = 256 - (n : Int) := by rw [IntKind.wrap_i64]; omega
  by_cases h0 : a < 0
  · have d0 : decide (a < 0) = true := decide_eq_true h0
    have HK : Hid (writeK a n = 1) := Lib.hid (by unfold writeK; rw [if_pos (.inl h0)])
    clear h0
    go_enter Try.func73, Try.ntmps73
    go_wp2
    go_ret
    rw [HK.out]
    exact ⟨rfl, Below.refl _ _⟩
  · have d0 : decide (a < 0) = false := decide_eq_false h0
    by_cases h1 : 256 - (n : Int) < a
    · have d1 : decide (256 - (n : Int) < a) = true := decide_eq_true h1
      have HK : Hid (writeK a n = 1) := Lib.hid (by unfold writeK; rw [if_pos (.inr h1)])
      clear h0 h1
      go_enter Try.func73, Try.ntmps73
      go_wp2
      go_ret
      rw [HK.out]
      exact ⟨rfl, Below.refl _ _⟩
    · have d1 : decide (256 - (n : Int) < a) = false := decide_eq_false h1
      have HK : Hid (writeK a n = 0) := Lib.hid (by unfold writeK; rw [if_neg (by omega)])
      clear h0 h1
      go_enter Try.func73, Try.ntmps73
      go_wp2
      go_ret
      rw [HK.out]
      exact ⟨rfl, Below.refl _ _⟩
theorem run_copy_none (w : World) (A1 A2 : Option Addr) (m1 c1 c2 : Nat) : (Builtin.copy_ #[22, 22] 3 #[.slice A1 m1 c1, .slice A2 0 c2]).run Try.prog w = .ok (.int .i64 0) w := by
  obtain ⟨i0, hi0, hz0, hz1, hz2⟩ := info_parts byte_info
  cases A1 <;> cases A2 <;> simp [Builtin.copy_, run_underlying Try.underlying22, Builtin.lenOf, Builtin.firstCells, sizeOf, typeInfo, hi0, hz1, storeCells, loadCells, loadCellsFrom, goInt]
theorem copy_part {w : World} {base m c a n B cs : Nat} {D As : Option Addr} {R nb : List Nat} (h : Own w base (.slice D m c) m R) (hk : a + n ≤ m) (hB : Bytes w B As n nb) : ∃ A1 w' r, (Instr.slice 22 (.slice D m c) (some (.int .i64 (a : Int))) none none).run Try.prog w = .ok (.slice A1 (m - a) (c - a)) w ∧
    (Builtin.copy_ #[22, 22] 3 #[.slice A1 (m - a) (c - a), .slice As n cs]).run Try.prog w = .ok (.int .i64 r) w' ∧ Own w' base (.slice D m c) m (R.take a ++ nb ++ R.drop (a + nb.length)) ∧ Only (rowOf (.slice D 0 0)) w w' := by
  obtain ⟨-, hl, hmc, hD⟩ := own_len h
  have h1 := run_cut_bytes D m c a (by omega) w
  have hnl := hB.len
  rcases Nat.eq_zero_or_pos n with hk0 | hk0
  · subst hk0
    obtain rfl : nb = [] := List.eq_nil_of_length_eq_zero hnl
    refine ⟨_, w, 0, h1, run_copy_none w _ _ _ _ _, ?_, Only.refl _ _⟩
    have : R.take a ++ [] ++ R.drop (a + ([] : List Nat).length) = R := by simp
    rw [this]
    exact h
  · obtain ⟨b, rfl⟩ : ∃ b, D = some ⟨b, 0, none⟩ := by
      rcases hD with rfl | hb
      · rcases h.2 with ⟨_, e0⟩ | ⟨_, _, _, e, _⟩
        · omega
        · cases e
      · exact hb
    have e1 : (if c = a then some (⟨b, 0, none⟩ : Addr) else (some (⟨b, 0, none⟩ : Addr)).map (·.add (a * 1))) = some ⟨b, a, none⟩ := by
      rw [if_neg (by omega), Option.map_some, Nat.mul_one, add_zero_off]
    rw [e1] at h1
    obtain ⟨a2, rfl, -, hcell⟩ := hB.1.2 hk0
    obtain ⟨cur, hcur, hfit, hown2, hon2⟩ := own_copy (at_ := a) (nb := nb) h (by omega)
    have hcp := run_copy_row (P := Try.prog) w 22 22 3 5 b a (m - a) (c - a) a2 n cs cur 5 (u8s nb) Try.underlying22 (by kernel_rfl) hcur (by rw [u8s_length]; have : Nat.min n (m - a) = n := Nat.min_eq_left (by omega); omega) hcell (by rw [u8s_length]; exact hfit) (oneCell_u8s _)
    exact ⟨_, _, _, h1, hcp, hown2, hon2.mono (fun k hk => by simp at hk; subst hk; simp [rowOf, Value.ownBlock])⟩
set_option maxHeartbeats 8000000 in
theorem writeDoes {w : World} {pa pd n c : Nat} {A : Option Addr} (q0 : OV) (a : Nat) (nb : List Nat) (ha : a + n ≤ 256) (Ka : Blk w pa 3 #[.int .i64 (a : Int)]) (Kd : Blk w pd 22 #[.slice A n c]) (hdat : Bytes w w.heap.size A n nb) : DoesC w 74 #[.pointer (some ⟨pa, 0, none⟩), .pointer (some ⟨pd, 0, none⟩)] q0 (some (writeD q0.dt a nb)) := fun w1 g q hb hg K hN hS hv => by
  subst hv
  have hz1 := hb.size
  have Ka1 := Ka.of (hb.block _ Ka.lt)
  have Kd1 := Kd.of (hb.block _ Kd.lt)
  have hd1 : Bytes w1 w.heap.size A n nb := hdat.below hb
  have hnl := hdat.len
  have HK := Lib.hid (And.intro K (And.intro Ka1 (And.intro Kd1 (And.intro hd1 hnl))))
  have HN := Lib.hid hN
  have HS := Lib.hid hS
  have HPP : Hid (pa < w.heap.size ∧ pd < w.heap.size ∧ w.heap.size ≤ w1.heap.size ∧ g < w1.heap.size) := Lib.hid ⟨Ka.lt, Kd.lt, hz1, K.lt⟩
  have hgl := K.lt
  have hK := K
  clear hb Ka Kd hdat Ka1 Kd1 hd1 hN hS K hz1 hgl hnl
  show Calls Try.prog 74 #[.pointer (some ⟨g, 0, none⟩), .pointer (some ⟨pa, 0, none⟩), .pointer (some ⟨pd, 0, none⟩)] w1 _
  go_enter Try.func74, Try.ntmps74
  go_upto_region 1 with (have _h := hK; refine wpList_setq rfl 4 (.tmp 6) (.const (.bool true)) rfl g 0 36 q.cs (.bool true) rfl rfl hK (by simp [OA.cs]) (by kernel_rfl) rfl ?_; clear _h hK; intro wA KA hoA hsA)
  have KA' : Blk wA g 36 (OA.cs {q with th := true}) := by simpa [OA.cs] using KA
  have hNA : OA.N {q with th := true} wA w.heap.size := by
    have h1 : q.N wA w.heap.size := HN.out.typed fun k t cs hb ht => hoA.block k hb.lt (fun hm => by
      simp at hm
      subst hm
      refine hb.ne_ HK.out.1 ?_ rfl
      rcases ht with rfl | rfl | rfl <;> decide)
    exact ⟨h1.dt, h1.ok, h1.row, h1.cl, h1.q1, h1.q2, h1.dD, h1.dS⟩
  have hsz : wA.heap.size = w1.heap.size := hsA
  have hlo : ∀ k, k < w.heap.size → k ≠ g := fun k hk e => by omega
  have KaA : Blk wA pa 3 #[.int .i64 (a : Int)] := HK.out.2.1.only hoA (fun hm => by simp at hm; exact hlo pa HPP.out.1 hm)
  have KdA : Blk wA pd 22 #[.slice A n c] := HK.out.2.2.1.only hoA (fun hm => by simp at hm; exact hlo pd HPP.out.2.1 hm)
  have ca : wA.cell? ⟨pa, 0, none⟩ = some (.int .i64 (a : Int)) := KaA.cell 0
  have cd : wA.cell? ⟨pd, 0, none⟩ = some (.slice A n c) := KdA.cell 0
  have hwr : IntKind.i64.wrap ((a : Int) + (n : Int)) = ((a + n : Nat) : Int) := by rw [IntKind.wrap_i64]; omega
  have HGR := Lib.hid (grow_any (n := a + n) {q with th := true} KA' hNA HS.out.dt (by rw [hsz]; exact HPP.out.2.2.1) (by omega))
  have HA := Lib.hid (And.intro KA' (And.intro hNA (And.intro KaA (And.intro KdA (And.intro hoA hsz)))))
  clear KA KA' hNA KaA KdA hoA hsA hsz hlo
  obtain ⟨an, han⟩ : ∃ an, an = a + n := ⟨_, rfl⟩
  have HAN := Lib.hid han
  rw [← han] at HGR hwr
  clear han
  go_wp2_with fail
  refine HGR.out.mono ?_
  rintro e w2 ⟨rfl, D2, c2, K2, ho2, hon2, hnew2⟩
  obtain ⟨L2, hL2⟩ : ∃ L2, L2 = (q.dt ++ List.replicate (an - q.dt.length) 0).length := ⟨_, rfl⟩
  have hL2' : L2 = max q.dt.length (a + n) := by rw [hL2, HAN.out]; simp; omega
  have K2' : Blk w2 g 36 #[.bool true, .slice D2 L2 c2, .int .i64 q.sq, .slice q.C q.cl.length q.cc] := by rw [hL2]; exact K2
  have ho2' : Own w2 w.heap.size (.slice D2 L2 c2) L2 (q.dt ++ List.replicate (an - q.dt.length) 0) := by rw [hL2]; exact ho2
  have hF2 : ∀ k ∈ g :: rowOf (.slice q.D 0 0), w.heap.size ≤ k := fun k hk => by
    rcases List.mem_cons.1 hk with e | hk
    · omega
    · exact (OA.P.dU HN.out k hk).1
  have Ka2 : Blk w2 pa 3 #[.int .i64 (a : Int)] := HA.out.2.2.1.only hon2 (fun hm => by have := hF2 _ hm; have := HPP.out.1; omega)
  have Kd2 : Blk w2 pd 22 #[.slice A n c] := HA.out.2.2.2.1.only hon2 (fun hm => by have := hF2 _ hm; have := HPP.out.2.1; omega)
  have hon12 : Only (g :: rowOf (.slice q.D 0 0)) w1 w2 := (HA.out.2.2.2.2.1.mono (fun k hk => by simp at hk; simp [hk])).trans hon2 (fun k hk => .inl hk)
  have hd2 : Bytes w2.drew w.heap.size A n nb := Bytes.keep HK.out.2.2.2.1 (fun p hp => World.cell?_of_block (hon12.block p.block (by have := HPP.out.2.2.1; omega) (fun hm => by have := hF2 _ hm; omega)))
  obtain ⟨A1, w3, r, hsl, hcp, ho3, hon3⟩ := copy_part (w := w2.drew) (a := a) (cs := c) (ho2'.drew) (by omega) hd2
  have hfin : DoesTo w1 g w.heap.size q (some (writeD q.v.dt a nb)) (.returned (.tuple #[])) w3 := by
    have hn := HK.out.2.2.2.2
    have e1 : (q.dt ++ List.replicate (an - q.dt.length) 0).take a ++ nb ++ (q.dt ++ List.replicate (an - q.dt.length) 0).drop (a + nb.length) = writeD q.dt a nb := by unfold writeD; rw [HAN.out, hn]
    rw [e1] at ho3
    have hl3 : (writeD q.dt a nb).length = L2 := by rw [writeD_len, hL2', hn]
    have hon3' : Only (rowOf (.slice D2 0 0)) w2 w3 := ⟨hon3.os, hon3.tape, hon3.output, hon3.size, hon3.block⟩
    have hsz := HA.out.2.2.2.2.2
    have hon13 : Only (g :: rowOf (.slice q.D 0 0)) w1 w3 := hon12.trans hon3' (fun k hk => by
      rcases hnew2 k hk with h | h
      · exact .inl (by simp only [List.mem_cons]; exact .inr h)
      · exact .inr (by omega))
    refine DoesTo.of (D' := D2) (bs := writeD q.dt a nb) (c' := c2) (th := true) HN.out HS.out HK.out.1 hon13 (by rw [hl3]; exact ho3) (fun b hb => ?_) (fun k hk => by
      rcases hnew2 k hk with h | h
      · exact .inl h
      · exact .inr (by omega)) (by rw [hl3, hL2']; have := HS.out.dt; omega) ?_ rfl (fun h => (by cases h))
    · have hR : ∀ b ∈ q.dt ++ List.replicate (a + nb.length - q.dt.length) 0, b < 256 := fun b hb => by
        rcases List.mem_append.1 hb with hb | hb
        · exact HN.out.ok b hb
        · have := (List.mem_replicate.1 hb).2; omega
      unfold writeD at hb
      rcases List.mem_append.1 hb with hb | hb
      · rcases List.mem_append.1 hb with hb | hb
        · exact hR b (List.mem_of_mem_take hb)
        · exact HK.out.2.2.2.1.2 b hb
      · exact hR b (List.mem_of_mem_drop hb)
    · rw [hl3]
      exact K2'.of (hon3'.block g K2'.lt (fun hm => by
        have hty : ∃ cs, Blk w2 g 5 cs := own_ty ho2' (by rw [row_slice _ L2 c2 0 0]; exact hm)
        obtain ⟨cs, hbb⟩ := hty
        exact hbb.ne_ K2' (by decide) rfl))
  have HFIN := Lib.hid hfin
  have HS3 : Hid (Blk w3 g 36 #[.bool true, .slice D2 L2 c2, .int .i64 q.sq, .slice q.C q.cl.length q.cc] ∧ Blk w3 pa 3 #[.int .i64 (a : Int)] ∧ Blk w3 pd 22 #[.slice A n c]) := Lib.hid (by
    have hon3' : Only (rowOf (.slice D2 0 0)) w2 w3 := ⟨hon3.os, hon3.tape, hon3.output, hon3.size, hon3.block⟩
    have hty : ∀ k ∈ rowOf (.slice D2 0 0), ∃ cs, Blk w2 k 5 cs := fun k hm => own_ty ho2' (by rw [row_slice _ L2 c2 0 0]; exact hm)
    refine ⟨K2'.only hon3' (fun hm => ?_), Ka2.only hon3' (fun hm => ?_), Kd2.only hon3' (fun hm => ?_)⟩
    · obtain ⟨cs, hbb⟩ := hty _ hm; exact hbb.ne_ K2' (by decide) rfl
    · obtain ⟨cs, hbb⟩ := hty _ hm; exact hbb.ne_ Ka2 (by decide) rfl
    · obtain ⟨cs, hbb⟩ := hty _ hm; exact hbb.ne_ Kd2 (by decide) rfl)
  have hC : ∀ w' : World, (Blk w' g 36 #[.bool true, .slice D2 L2 c2, .int .i64 q.sq, .slice q.C q.cl.length q.cc] ∧ Blk w' pa 3 #[.int .i64 (a : Int)] ∧ Blk w' pd 22 #[.slice A n c]) → w'.cell? ⟨g, 1, none⟩ = some (.slice D2 L2 c2) ∧ w'.cell? ⟨pa, 0, none⟩ = some (.int .i64 (a : Int)) ∧ w'.cell? ⟨pd, 0, none⟩ = some (.slice A n c) := fun w' h => ⟨h.1.cell 1, h.2.1.cell 0, h.2.2.cell 0⟩
  have HC := Lib.hid hC
  have hS7 : Blk w2.drew g 36 #[.bool true, .slice D2 L2 c2, .int .i64 q.sq, .slice q.C q.cl.length q.cc] ∧ Blk w2.drew pa 3 #[.int .i64 (a : Int)] ∧ Blk w2.drew pd 22 #[.slice A n c] := ⟨K2'.drew, Ka2.drew, Kd2.drew⟩
  have HL := Lib.hid hL2
  clear hfin hC K2 K2' ho2 ho2' Ka2 Kd2 hon12 hd2 ho3 hon3 hF2 hon2 hnew2 hL2' HGR hwr ca cd hL2
  go_upto_region 2 with (fail)
  refine any_beginL (fun w' => Blk w' g 36 #[.bool true, .slice D2 L2 c2, .int .i64 q.sq, .slice q.C q.cl.length q.cc] ∧ Blk w' pa 3 #[.int .i64 (a : Int)] ∧ Blk w' pd 22 #[.slice A n c]) 99 (by kernel_rfl) ?_
  refine S_take (i := 0) (v := .pointer (some ⟨g, 0, none⟩)) rfl (by kernel_rfl) (by kernel_rfl) (by kernel_rfl) (by kernel_rfl) (fun _ _ _ h => h) (Or.inl ⟨by rfl, fun w hw => by kernel_rfl⟩) hS7 ?_
  simp only [Act.put, List.getElem_toArray, List.getElem_cons_succ, List.getElem_cons_zero, List.setIfInBounds_toArray, List.set_cons_zero, List.set_cons_succ]
  refine S_take (i := 1) (v := .pointer (some ⟨g, 0, none⟩)) rfl (by kernel_rfl) (by kernel_rfl) (by kernel_rfl) (by kernel_rfl) (fun _ _ _ h => h) (Or.inl ⟨by rfl, fun w hw => by kernel_rfl⟩) hS7 ?_
  simp only [Act.put, List.getElem_toArray, List.getElem_cons_succ, List.getElem_cons_zero, List.setIfInBounds_toArray, List.set_cons_zero, List.set_cons_succ]
  refine S_take (i := 2) (v := .pointer (some ⟨g, 1, none⟩)) rfl (by kernel_rfl) (by kernel_rfl) (by kernel_rfl) (by kernel_rfl) (fun _ _ _ h => h) (Or.inl ⟨by rfl, fun w hw => by go_simp⟩) hS7 ?_
  simp only [Act.put, List.getElem_toArray, List.getElem_cons_succ, List.getElem_cons_zero, List.setIfInBounds_toArray, List.set_cons_zero, List.set_cons_succ]
  refine S_take (i := 3) (v := .slice D2 L2 c2) rfl (by kernel_rfl) (by kernel_rfl) (by kernel_rfl) (by kernel_rfl) (fun _ _ _ h => h) (Or.inl ⟨by rfl, fun w hw => by have q1 := (HC.out w hw).1; go_simp⟩) hS7 ?_
  simp only [Act.put, List.getElem_toArray, List.getElem_cons_succ, List.getElem_cons_zero, List.setIfInBounds_toArray, List.set_cons_zero, List.set_cons_succ]
  refine S_take (i := 4) (v := .int .i64 (a : Int)) rfl (by kernel_rfl) (by kernel_rfl) (by kernel_rfl) (by kernel_rfl) (fun _ _ _ h => h) (Or.inl ⟨by rfl, fun w hw => by have q1 := (HC.out w hw).2.1; go_simp⟩) hS7 ?_
  simp only [Act.put, List.getElem_toArray, List.getElem_cons_succ, List.getElem_cons_zero, List.setIfInBounds_toArray, List.set_cons_zero, List.set_cons_succ]
  refine S_take (i := 6) (v := .slice A n c) rfl (by kernel_rfl) (by kernel_rfl) (by kernel_rfl) (by kernel_rfl) (fun _ _ _ h => h) (Or.inl ⟨by rfl, fun w hw => by have q1 := (HC.out w hw).2.2; go_simp⟩) hS7 ?_
  simp only [Act.put, List.getElem_toArray, List.getElem_cons_succ, List.getElem_cons_zero, List.setIfInBounds_toArray, List.set_cons_zero, List.set_cons_succ]
  refine L_one (j := 5) (by kernel_rfl) rfl (by rfl) ?_
  simp only [Act.put, List.getElem_toArray, List.getElem_cons_succ, List.getElem_cons_zero, List.setIfInBounds_toArray, List.set_cons_zero, List.set_cons_succ]
  refine wp_ran (v := .slice A1 (L2 - a) (c2 - a)) (w' := w2.drew) (by go_simp) ⟨hS7, ?_⟩
  simp only [Act.put, List.getElem_toArray, List.getElem_cons_succ, List.getElem_cons_zero, List.setIfInBounds_toArray, List.set_cons_zero, List.set_cons_succ]
  refine L_one (j := 7) (by kernel_rfl) rfl (by rfl) ?_
  simp only [Act.put, List.getElem_toArray, List.getElem_cons_succ, List.getElem_cons_zero, List.setIfInBounds_toArray, List.set_cons_zero, List.set_cons_succ]
  refine wp_ran (v := .int .i64 r) (w' := w3) (by go_simp) ⟨HS3.out, ?_⟩
  simp only [Act.put, List.getElem_toArray, List.getElem_cons_succ, List.getElem_cons_zero, List.setIfInBounds_toArray, List.set_cons_zero, List.set_cons_succ]
  refine L_done (by kernel_rfl) ?_
  refine NoPanic.normal ?_
  clear hsl hcp hS7 HC
  go_wp2
  refine bodyPost_end (results_none rfl _ _ _) rfl ?_
  exact HFIN.out
end Go.Proofs.Yteghbfkkpnlilaa

/-
  The changes of an object: Write, Zero, Cut, Drop, Back. Conditions: the object, the context and the bytes read as they are said to.
-/
namespace Go.Proofs.Yteghbfkkpnlilaa
open Go.RowKit Go.BigFrame
set_option linter.unusedSimpArgs false
set_option linter.unusedVariables false
set_option maxRecDepth 100000
set_option maxHeartbeats 8000000 in
theorem snWrite {w : World} (o : OA) (c : XA) (a : Int) (A : Option Addr) (n c2 : Nat) (nb : List Nat) (i1 : -9223372036854775808 ≤ a) (i2 : a ≤ 9223372036854775807) (ho : o.R w) (hoS : o.Sm) (hc : c.R w) (hd : Bytes w w.heap.size A n nb) (hn : n ≤ 100000) : Calls Try.prog 37 #[.agg o.cs, .agg c.cells, .int .i64 a, .slice A n c2] w (ChTo w (ChR o.v c.v (writeK a n) (some (writeD o.dt a.toNat nb)))) := by
  obtain ⟨w0, hw0⟩ : ∃ w0, w0 = (((((w).alloc (.cells o.cs 36)).alloc (.cells c.cells 28)).alloc (.cells #[.int .i64 a] 3)).alloc (.cells #[.slice A n c2] 22)).alloc (.cells #[.bool false, .slice none 0 0, .int .i64 0, .slice none 0 0] 36) := ⟨_, rfl⟩
  have hbel : Below w.heap.size w w0 := by rw [hw0]; exact (((((Below.refl _ w).alloc (Nat.le_refl _) _).alloc (by simp) _).alloc (by simp; omega) _).alloc (by simp; omega) _).alloc (by simp; omega) _
  have b0 : Blk w0 (w.heap.size) 36 o.cs := by
    have := ((((Blk.new (w) 36 o.cs).alloc (.cells c.cells 28)).alloc (.cells #[.int .i64 a] 3)).alloc (.cells #[.slice A n c2] 22)).alloc (.cells #[.bool false, .slice none 0 0, .int .i64 0, .slice none 0 0] 36)
    rw [hw0]
    simpa using this
  have b1 : Blk w0 (w.heap.size + 1) 28 c.cells := by
    have := (((Blk.new ((w).alloc (.cells o.cs 36)) 28 c.cells).alloc (.cells #[.int .i64 a] 3)).alloc (.cells #[.slice A n c2] 22)).alloc (.cells #[.bool false, .slice none 0 0, .int .i64 0, .slice none 0 0] 36)
    rw [hw0]
    simpa using this
  have b2 : Blk w0 (w.heap.size + 1 + 1) 3 #[.int .i64 a] := by
    have := ((Blk.new (((w).alloc (.cells o.cs 36)).alloc (.cells c.cells 28)) 3 #[.int .i64 a]).alloc (.cells #[.slice A n c2] 22)).alloc (.cells #[.bool false, .slice none 0 0, .int .i64 0, .slice none 0 0] 36)
    rw [hw0]
    simpa using this
  have b3 : Blk w0 (w.heap.size + 1 + 1 + 1) 22 #[.slice A n c2] := by
    have := (Blk.new ((((w).alloc (.cells o.cs 36)).alloc (.cells c.cells 28)).alloc (.cells #[.int .i64 a] 3)) 22 #[.slice A n c2]).alloc (.cells #[.bool false, .slice none 0 0, .int .i64 0, .slice none 0 0] 36)
    rw [hw0]
    simpa using this
  have b4 : Blk w0 (w.heap.size + 1 + 1 + 1 + 1) 36 #[.bool false, .slice none 0 0, .int .i64 0, .slice none 0 0] := by
    have := Blk.new (((((w).alloc (.cells o.cs 36)).alloc (.cells c.cells 28)).alloc (.cells #[.int .i64 a] 3)).alloc (.cells #[.slice A n c2] 22)) 36 #[.bool false, .slice none 0 0, .int .i64 0, .slice none 0 0]
    rw [hw0]
    simpa using this
  have hz0 : w0.heap.size = w.heap.size + 5 := by rw [hw0]; simp
  have hres : w.heap.size + 1 + 1 + 1 + 1 < w0.heap.size := by omega
  have HCH := Lib.hid (change_any (w := w0) o c 73 74 #[.pointer (some ⟨w.heap.size + 1 + 1, 0, none⟩), .pointer (some ⟨w.heap.size + 1 + 1 + 1, 0, none⟩)] #[.pointer (some ⟨w.heap.size + 1 + 1, 0, none⟩), .pointer (some ⟨w.heap.size + 1 + 1 + 1, 0, none⟩)] (enters_of Try.func73 (by kernel_rfl) rfl) (enters_of Try.func74 (by kernel_rfl) rfl) (writeK a n) (some (writeD o.dt a.toNat nb)) (ho.since hbel) hoS (hc.since hbel) (fun hg => writeMay a b2 b3 hn) (fun hg hcg hle hk hl => (by
      unfold writeK at hk
      split at hk
      · cases hk
      rename_i h1
      obtain ⟨p, rfl⟩ : ∃ p : Nat, a = p := ⟨a.toNat, by omega⟩
      exact writeDoes (seeO o.v c.v) p nb (by omega) b2 b3 ((hd.since hbel).more hbel.size))))
  have HB := Lib.hid (And.intro hbel (And.intro b4 hres))
  have hW := hw0
  unfold OA.cs XA.cells at hW
  have HW := Lib.hid hW
  have hcs : o.cs = #[.bool o.th, .slice o.D o.dt.length o.cd, .int .i64 o.sq, .slice o.C o.cl.length o.cc] := rfl
  have hxs : c.cells = #[.int .i64 c.sq, .slice c.S c.sn.length c.cs] := rfl
  rw [hcs, hxs] at HCH
  rw [hcs] at b0
  rw [hxs] at b1
  rw [hcs, hxs]
  clear hcs hxs hw0 hW hbel hres hz0 ho hoS hc b2 b3 b4
  go_enter Try.func37, Try.ntmps37
  go_upto_region 1 with (fail)
  rw [← HW.out]
  go_wp2_with (first
    | (have _h := b0; refine wpList_loadq rfl 36 (.tmp 4) rfl (w.heap.size) [.bool o.th, .slice o.D o.dt.length o.cd, .int .i64 o.sq, .slice o.C o.cl.length o.cc] _ rfl b0 Try.underlying36 rfl (by kernel_rfl) ?_; clear _h b0)
    | (have _h := b1; refine wpList_loadq rfl 28 (.tmp 5) rfl (w.heap.size + 1) [.int .i64 c.sq, .slice c.S c.sn.length c.cs] _ rfl b1 Try.underlying28 rfl (by kernel_rfl) ?_; clear _h b1))
  refine HCH.out.mono ?_
  rintro e w1 ⟨q, k, rfl, hr, hN, hS, hb⟩
  have K1 := HB.out.2.1.of (hb.block _ HB.out.2.2)
  have HR := Lib.hid (And.intro hr (And.intro hN (And.intro hS hb)))
  have hqs : q.cs = #[.bool q.th, .slice q.D q.dt.length q.cd, .int .i64 q.sq, .slice q.C q.cl.length q.cc] := rfl
  rw [hqs]
  obtain ⟨ek, hek⟩ : ∃ ek, ek = errV k := ⟨_, rfl⟩
  have HEK := Lib.hid hek
  rw [← hek]
  clear hqs hr hN hS hb HCH hek
  go_wp2_with (have _h := K1; refine wpList_storeq rfl 36 (.tmp 8) (.tmp 17) rfl (w.heap.size + 1 + 1 + 1 + 1) #[.bool false, .slice none 0 0, .int .i64 0, .slice none 0 0] [.bool q.th, .slice q.D q.dt.length q.cd, .int .i64 q.sq, .slice q.C q.cl.length q.cc] rfl rfl K1 rfl (by kernel_rfl) (OA.cs_one q) ?_; clear _h; intro w9 K9 ho9 hs9)
  refine bodyPost_ret (res_cell_tmp rfl _ _ (w.heap.size + 1 + 1 + 1 + 1) [.bool q.th, .slice q.D q.dt.length q.cd, .int .i64 q.sq, .slice q.C q.cl.length q.cc] _ _ rfl rfl K9 Try.underlying36 rfl (by kernel_rfl)) rfl ?_
  refine ⟨q, k, by rw [HEK.out]; rfl, HR.out.1, OA.P.weaken (OA.P.typed HR.out.2.1 fun k t cs hb ht => ho9.block k hb.lt (fun hm => ?_)) HB.out.1.size, HR.out.2.2.1, ?_⟩
  · simp at hm
    subst hm
    refine hb.ne_ K1 ?_ rfl
    rcases ht with rfl | rfl | rfl <;> decide
  · have h1 : Below w.heap.size w w1 := HB.out.1.trans (HR.out.2.2.2.mono HB.out.1.size)
    exact h1.trans (ho9.below (B := w.heap.size) (fun k hk => by simp at hk; omega) h1.size)
end Go.Proofs.Yteghbfkkpnlilaa

/-
  Numbers, or clones, are deleted from a row of the call's own. Conditions: the row reads as it is said to.
-/
namespace Go.Proofs.Yteghbfkkpnlilaa
open Go.RowKit Go.BigFrame
set_option linter.unusedSimpArgs false
set_option linter.unusedVariables false
set_option maxRecDepth 100000
end Go.Proofs.Yteghbfkkpnlilaa

/-
  Clones without snapshots are deleted from a row of the call's own. Conditions: the row reads as it is said to.
-/
namespace Go.Proofs.Yteghbfkkpnlilaa
open Go.RowKit Go.BigFrame
set_option linter.unusedSimpArgs false
set_option linter.unusedVariables false
set_option maxRecDepth 100000
end Go.Proofs.Yteghbfkkpnlilaa

/-
  A snapshot is forgotten. Conditions: the object reads as it is said to, and is small.
-/
namespace Go.Proofs.Yteghbfkkpnlilaa
open Go.RowKit Go.BigFrame
set_option linter.unusedSimpArgs false
set_option linter.unusedVariables false
set_option maxRecDepth 100000
end Go.Proofs.Yteghbfkkpnlilaa

/-
  The chapter's example. No condition.
-/
namespace Go.Proofs.Yteghbfkkpnlilaa
open Go.RowKit Go.BigFrame
set_option linter.unusedSimpArgs false
set_option linter.unusedVariables false
set_option maxRecDepth 100000
def ex1 : OV := ⟨true, [111, 108, 100], 0, []⟩
def ex2 : OV := ⟨true, [111, 78, 69], 1, [⟨[1], [111, 108, 100]⟩]⟩
theorem good_zero : Good OV.zero := ⟨by decide, by decide, fun _ => rfl, by decide, fun c hc => (by cases hc), List.Pairwise.nil, fun s hs => (by cases hs)⟩
theorem good_ex1 : Good ex1 := ⟨by decide, by decide, fun h => (by cases h), by decide, fun c hc => (by cases hc), List.Pairwise.nil, fun s hs => (by cases hs)⟩
theorem good_ex2 : Good ex2 := by
  rw [good_iff]
  refine ⟨⟨by decide, by decide, fun h => (by cases h), by decide⟩, fun c hc => ?_, rfl, by decide⟩
  simp [ex2] at hc
  subst hc
  exact ⟨by decide, by decide⟩
theorem cx_zero : CxG ⟨0, []⟩ := ⟨by decide, by decide, List.Pairwise.nil, fun s hs => (by cases hs)⟩
theorem cx_one : CxG ⟨1, [1]⟩ := ⟨by decide, by decide, List.pairwise_singleton _ _, fun s hs => (by simp at hs; subst hs; exact ⟨by decide, by decide⟩)⟩
theorem ch_ex1 : ChR OV.zero ⟨0, []⟩ (writeK 0 3) (some (writeD [] (0 : Int).toNat [111, 108, 100])) ex1 0 := by
  have h := ChR.ok (hd := some (writeD [] (0 : Int).toNat [111, 108, 100])) good_zero cx_zero (show OV.zero.sq ≤ (0 : Int) by decide) (show writeK 0 3 = 0 by decide) (by decide)
  exact h
theorem ch_ex2 : ChR ex1 ⟨1, [1]⟩ (writeK 1 2) (some (writeD ex1.dt (1 : Int).toNat [78, 69])) ex2 0 := by
  have h := ChR.ok (hd := some (writeD ex1.dt (1 : Int).toNat [78, 69])) good_ex1 cx_one (show ex1.sq ≤ (1 : Int) by decide) (show writeK 1 2 = 0 by decide) (by decide)
  exact h
theorem at_ex2 : atO ex2 1 = some [111, 108, 100] ∧ atO ex2 0 = some [111, 78, 69] := by decide
set_option maxHeartbeats 8000000 in
theorem alive_any (w : World) : Calls Try.prog 9 #[] w fun e w' => e = .returned (.bool true) ∧ Below w.heap.size w w' := by
  obtain ⟨w0, hw0⟩ : ∃ w0, w0 = w.alloc (.cells #[.int .u8 111, .int .u8 108, .int .u8 100] 5 (3, 4)) := ⟨_, rfl⟩
  have hb0 : Below w.heap.size w w0 := by rw [hw0]; exact below_alloc w _
  have hd0 : Bytes w0 w0.heap.size (some ⟨w.heap.size, 0, none⟩) 3 [111, 108, 100] := by
    rw [hw0]
    exact (Bytes.new w [111, 108, 100] 5 (3, 4) (by decide)).more (by simp)
  have H0 := Lib.hid (And.intro hb0 (And.intro hd0 hw0))
  have hW1 := snWrite (w := w0) OA.zero ⟨0, [], none, 0⟩ 0 (some ⟨w.heap.size, 0, none⟩) 3 3 [111, 108, 100] (by decide) (by decide) (OA.zero_R _) OA.zero_Sm ⟨Reads.none_, fun s hs => (by cases hs), by decide, by decide, by decide, by decide⟩ hd0 (by decide)
  have HW1 := Lib.hid hW1
  clear hb0 hd0 hw0 hW1
  have kc := fun (w : World) (C : Array Value) (n c : Nat) => Lib.run_convert_bytes_const (P := Try.prog) w 22 5 C n c Try.underlying22 Try.underlying5
  go_enter Try.func9, Try.ntmps9
  go_wp2_with fail
  have hw0 := H0.out.2.2
  rw [← hw0]
  clear hw0
  refine HW1.out.mono ?_
  rintro e w1 ⟨q1, k1, rfl, hr1, hN1, hS1, hb1⟩
  obtain ⟨hv1, rfl⟩ := hr1.one ch_ex1
  have HQ1 := Lib.hid (And.intro hv1 (And.intro hN1.R (And.intro hS1 hb1)))
  clear hr1 hN1 hS1 hb1 hv1 HW1
  have hq1 : q1.cs = #[.bool q1.th, .slice q1.D q1.dt.length q1.cd, .int .i64 q1.sq, .slice q1.C q1.cl.length q1.cc] := rfl
  unfold errV
  rw [hq1]
  clear hq1
  go_upto_region 2 with (fail)
  obtain ⟨w2, hw2⟩ : ∃ w2, w2 = w1.alloc (.cells #[.bool q1.th, .slice q1.D q1.dt.length q1.cd, .int .i64 q1.sq, .slice q1.C q1.cl.length q1.cc] 36) := ⟨_, rfl⟩
  rw [← hw2]
  have K2 : Blk w2 w1.heap.size 36 [Value.bool q1.th, .slice q1.D q1.dt.length q1.cd, .int .i64 q1.sq, .slice q1.C q1.cl.length q1.cc].toArray := by rw [hw2]; exact Blk.new w1 _ _
  have hb2 : Below w1.heap.size w1 w2 := by rw [hw2]; exact below_alloc w1 _
  clear hw2
  have HB2 := Lib.hid (And.intro K2 (And.intro hb2 ((H0.out.1.trans (HQ1.out.2.2.2.mono H0.out.1.size)).trans (hb2.mono (by have := H0.out.1.size; have := HQ1.out.2.2.2.size; omega)))))
  have HR2 := Lib.hid (HQ1.out.2.1.since hb2)
  clear hb2 kc
  obtain ⟨g1, hg1⟩ : ∃ g1, g1 = w1.heap.size := ⟨_, rfl⟩
  rw [← hg1] at K2 HB2 ⊢
  clear hg1
  have kc := Lib.run_convert_bytes_const (P := Try.prog) (w2.alloc (.cells #[.int .i64 1] 3)) 22 5 #[.int .u8 78, .int .u8 69] 2 2 Try.underlying22 Try.underlying5
  rw [World.size_alloc] at kc
  obtain ⟨w3, hw3⟩ : ∃ w3, w3 = (w2.alloc (.cells #[.int .i64 1] 3)).alloc (.cells #[.int .u8 78, .int .u8 69] 5 (2, 3)) := ⟨_, rfl⟩
  have hb3 : Below w2.heap.size w2 w3 := by rw [hw3]; exact (below_alloc w2 _).alloc (by simp) _
  have hd3 : Bytes w3 w3.heap.size (some ⟨w2.heap.size + 1, 0, none⟩) 2 [78, 69] := by
    rw [hw3]
    have := (Bytes.new (w2.alloc (.cells #[.int .i64 1] 3)) [78, 69] 5 (2, 3) (by decide)).more (B' := ((w2.alloc (.cells #[.int .i64 1] 3)).alloc (.cells #[.int .u8 78, .int .u8 69] 5 (2, 3))).heap.size) (by simp)
    simp only [World.size_alloc] at this ⊢
    exact this
  have hi3 : Ints w3 w3.heap.size (some ⟨w2.heap.size, 0, none⟩) 1 [1] := by
    rw [hw3]
    have := Reads.new w2 (i64s [1]) 3 (0, 0)
    exact (Reads.alloc (B := w2.heap.size + 1) this (by simp) _).more (by simp)
  have hW3 := snWrite (w := w3) q1 ⟨1, [1], some ⟨w2.heap.size, 0, none⟩, 1⟩ 1 (some ⟨w2.heap.size + 1, 0, none⟩) 2 2 [78, 69] (by decide) (by decide) (HR2.out.since hb3) HQ1.out.2.2.1 ⟨hi3, fun s hs => (by simp at hs; omega), (by show (-9223372036854775808 : Int) ≤ 1; decide), (by show (1 : Int) ≤ 9223372036854775807; decide), (by show (1 : Nat) ≤ 9223372036854775807; decide), Nat.le_refl _⟩ hd3 (by decide)
  have hq1 : q1.cs = #[.bool q1.th, .slice q1.D q1.dt.length q1.cd, .int .i64 q1.sq, .slice q1.C q1.cl.length q1.cc] := rfl
  rw [hq1] at hW3
  have HW3 := Lib.hid (And.intro hW3 (And.intro hw3 hb3))
  clear hq1 hb3 hd3 hi3 hW3 hw3
  go_wp2_with (have _h := K2; refine wpList_loadq rfl 36 (.tmp 1) rfl g1 [.bool q1.th, .slice q1.D q1.dt.length q1.cd, .int .i64 q1.sq, .slice q1.C q1.cl.length q1.cc] _ rfl K2 Try.underlying36 rfl (by kernel_rfl) ?_; clear _h K2)
  rw [← HW3.out.2.1]
  refine HW3.out.1.mono ?_
  rintro e w4 ⟨q2, k2, rfl, hr2, hN2, hS2, hb4⟩
  have hv1 := HQ1.out.1
  have hdt1 : q1.dt = ex1.dt := congrArg OV.dt hv1
  rw [hv1, hdt1] at hr2
  obtain ⟨hv2, rfl⟩ := hr2.one ch_ex2
  have HQ2 := Lib.hid (And.intro hv2 (And.intro hN2.R (And.intro hS2 hb4)))
  clear hr2 hN2 hS2 hb4 hv2 hv1 hdt1 kc
  have hq2 : q2.cs = #[.bool q2.th, .slice q2.D q2.dt.length q2.cd, .int .i64 q2.sq, .slice q2.C q2.cl.length q2.cc] := rfl
  unfold errV
  rw [hq2]
  clear hq2
  go_upto_region 5 with (fail)
  obtain ⟨w5, hw5⟩ : ∃ w5, w5 = w4.alloc (.cells #[.bool q2.th, .slice q2.D q2.dt.length q2.cd, .int .i64 q2.sq, .slice q2.C q2.cl.length q2.cc] 36) := ⟨_, rfl⟩
  rw [← hw5]
  have K5 : Blk w5 w4.heap.size 36 [Value.bool q2.th, .slice q2.D q2.dt.length q2.cd, .int .i64 q2.sq, .slice q2.C q2.cl.length q2.cc].toArray := by rw [hw5]; exact Blk.new w4 _ _
  have hb5 : Below w4.heap.size w4 w5 := by rw [hw5]; exact below_alloc w4 _
  clear hw5
  have hz3 := HW3.out.2.2.size
  have hz2 := HB2.out.2.2.size
  have HB5 : Hid (Below w.heap.size w w5) := Lib.hid (((HB2.out.2.2.trans (HW3.out.2.2.mono hz2)).trans (HQ2.out.2.2.2.mono (by omega))).trans (hb5.mono (by have := HQ2.out.2.2.2.size; omega)))
  have hR5 := HQ2.out.2.1.since hb5
  obtain ⟨g2, hg2⟩ : ∃ g2, g2 = w4.heap.size := ⟨_, rfl⟩
  rw [← hg2] at K5 ⊢
  have HA1 := Lib.hid (sat_any q2 1 hR5 HQ2.out.2.2.1)
  have HK5 := Lib.hid (And.intro K5 hR5)
  have hq2 : q2.cs = #[.bool q2.th, .slice q2.D q2.dt.length q2.cd, .int .i64 q2.sq, .slice q2.C q2.cl.length q2.cc] := rfl
  rw [hq2] at HA1
  clear hg2 hb5 hR5 hz3 hz2
  go_wp2_with (have _h := K5; refine wpList_loadq rfl 36 (.tmp 3) rfl g2 [.bool q2.th, .slice q2.D q2.dt.length q2.cd, .int .i64 q2.sq, .slice q2.C q2.cl.length q2.cc] _ rfl K5 Try.underlying36 rfl (by kernel_rfl) ?_; clear _h K5)
  refine HA1.out.mono ?_
  rintro e w6 ⟨hb6, ⟨d, v, -, -, hat, rfl, hv6, hd6⟩ | ⟨hno, _⟩⟩
  rotate_left
  · rw [HQ2.out.1] at hno
    have := hno good_ex2 (by decide)
    rw [at_ex2.1] at this
    cases this
  rw [HQ2.out.1, at_ex2.1] at hat
  injection hat with hat
  subst hat
  obtain ⟨D6, c6, rfl, -⟩ := hv6.form
  have K6 := HK5.out.1.of (hb6.block _ HK5.out.1.lt)
  have hR6 := HK5.out.2.since hb6
  have HA0 := Lib.hid (sat_any q2 0 hR6 HQ2.out.2.2.1)
  rw [hq2] at HA0
  have HB6 := Lib.hid (And.intro hv6 (And.intro hb6 K6))
  clear hb6 hv6 hd6 hR6 HA1 hq2
  go_wp2_with (have _h := K6; refine wpList_loadq rfl 36 (.tmp 3) rfl g2 [.bool q2.th, .slice q2.D q2.dt.length q2.cd, .int .i64 q2.sq, .slice q2.C q2.cl.length q2.cc] _ rfl K6 Try.underlying36 rfl (by kernel_rfl) ?_; clear _h K6)
  refine HA0.out.mono ?_
  rintro e w7 ⟨hb7, ⟨d, v, -, -, hat, rfl, hv7, hd7⟩ | ⟨hno, _⟩⟩
  rotate_left
  · rw [HQ2.out.1] at hno
    have := hno good_ex2 (by decide)
    rw [at_ex2.2] at this
    cases this
  rw [HQ2.out.1, at_ex2.2] at hat
  injection hat with hat
  subst hat
  obtain ⟨D7, c7, rfl, -⟩ := hv7.form
  have K7 := HB6.out.2.2.of (hb7.block _ HB6.out.2.2.lt)
  have k1 := str_of (P := Try.prog) ((HB6.out.1.below hb7).bytes (by decide)) c6 22 9 5 Try.underlying22 Try.underlying5 Try.underlying9
  have k2 := str_of (P := Try.prog) (hv7.bytes (by decide)) c7 22 9 5 Try.underlying22 Try.underlying5 Try.underlying9
  have c3 : w7.cell? ⟨g2, 3, none⟩ = some (.slice q2.C q2.cl.length q2.cc) := K7.cell 3
  have hcl : q2.cl.length = 1 := by
    have h1 : q2.vs = ex2.cl := congrArg OV.cl HQ2.out.1
    rw [← OA.vs_len, h1]
    rfl
  rw [hcl] at c3
  have s1 : (strOf [111, 108, 100]) = ⟨#[111, 108, 100]⟩ := by decide
  have s2 : (strOf [111, 78, 69]) = ⟨#[111, 78, 69]⟩ := by decide
  simp only [List.length_cons, List.length_nil, Nat.zero_add, Nat.reduceAdd] at k1 k2 ⊢
  rw [s1] at k1
  rw [s2] at k2
  have HB7 : Hid (Below w.heap.size w w7) := Lib.hid ((HB5.out.trans (HB6.out.2.1.mono HB5.out.size)).trans (hb7.mono (by have := HB5.out.size; have := HB6.out.2.1.size; omega)))
  clear hb7 hv7 hd7 K7 hcl s1 s2 HA0
  go_wp2
  go_ret
  exact ⟨rfl, HB7.out⟩
end Go.Proofs.Yteghbfkkpnlilaa

/-
  What the laws' own functions return: what is too large, a change by the program. Conditions: what came in reads as it is said to.
-/
namespace Go.Proofs.Yteghbfkkpnlilaa
open Go.RowKit Go.BigFrame
set_option linter.unusedSimpArgs false
set_option linter.unusedVariables false
set_option maxRecDepth 100000
end Go.Proofs.Yteghbfkkpnlilaa

/-
  Changes in memory: how a script of them lies, how one is read; what a change and what forgetting come to. Conditions: the script reads as it is said to.
-/
namespace Go.Proofs.Yteghbfkkpnlilaa
open Go.RowKit Go.BigFrame
set_option linter.unusedSimpArgs false
set_option linter.unusedVariables false
set_option maxRecDepth 100000
/-! ### what a change comes to -/
/-! ### is an object empty? -/
end Go.Proofs.Yteghbfkkpnlilaa

/-
  Memory while a script is gone through: an object and a context, each in its variable. No condition but the sizes.
-/
namespace Go.Proofs.Yteghbfkkpnlilaa
open Go.RowKit Go.BigFrame
set_option linter.unusedSimpArgs false
set_option linter.unusedVariables false
set_option maxRecDepth 100000
section
variable {w wr wr' : World} {g c : Nat} {q : OA} {L : List Int} {S : Option Addr}
end
end Go.Proofs.Yteghbfkkpnlilaa

/-
  The document's answer for the wire: its numbers as bytes. Conditions: the sizes.
-/
namespace Go.Proofs.Yteghbfkkpnlilaa
open Go.RowKit
set_option linter.unusedSimpArgs false
set_option maxRecDepth 100000
set_option linter.unusedVariables false
theorem dnum_any (n : Int) (w : World) : Calls Try.prog 51 #[.int .i64 n] w fun e w' => ∃ v, e = .returned v ∧ Own w' w.heap.size v 8 (numB n) ∧ Below w.heap.size w w' := by
  have hu := nat64_lt n
  have hwn : IntKind.u64.wrap n = ((nat64 n : Nat) : Int) := by rw [IntKind.wrap_u64]; unfold nat64; omega
  generalize hq : nat64 n = u at *
  unfold numB
  rw [hq]
  go_enter Try.func51, Try.ntmps51
  go_wp2
  go_loopw [4, 3, 5] (fun v q i wr => ∃ k : Nat, k ≤ 8 ∧ i = .int .i64 k ∧ q = .int .u64 ((u / 256 ^ k : Nat) : Int) ∧ Own wr w.heap.size v k (le k u) ∧ Below w.heap.size w wr) (fun _ _ i _ => 8 - (intOf i).toNat)
  case atStart => exact ⟨0, by omega, rfl, by simp, Own.nil _ _, Below.refl _ _⟩
  case round =>
    obtain ⟨k, hk, rfl, rfl, ho, hb⟩ := hrel
    by_cases hlt : k < 8
    · obtain ⟨A1, c1, rfl, -, -, -⟩ := ho.form
      have HO := Lib.hid ho
      have Hb := Lib.hid hb
      clear ho hb
      obtain ⟨b, hvb, hb256, hbe⟩ : ∃ b : Nat, ((u / 256 ^ k : Nat) : Int) % 256 = (b : Int) ∧ b < 256 ∧ b = u / 256 ^ k % 256 := ⟨u / 256 ^ k % 256, by omega, Nat.mod_lt _ (by omega), rfl⟩
      obtain ⟨v2, hv2, hve⟩ : ∃ v2 : Nat, ((u / 256 ^ k : Nat) : Int) / 256 = (v2 : Int) ∧ v2 = u / 256 ^ (k + 1) := ⟨u / 256 ^ k / 256, by omega, by rw [Nat.div_div_eq_div_mul, Nat.pow_succ]⟩
      have hvlt : u / 256 ^ k ≤ u := Nat.div_le_self _ _
      have Hbe := Lib.hid hbe
      have Hve := Lib.hid hve
      clear hbe hve
      generalize hv : u / 256 ^ k = v at *
      have HS := Lib.hid (HO.out.alloc (.cells (u8s [b]).toArray 5))
      have hnew := Bytes.new wr [b] 5 (0, 0) (by simpa using hb256)
      have hbs := Lib.hid (Hb.out.alloc Hb.out.size (.cells (u8s [b]).toArray 5))
      go_wp2_with (refine app_bytes (.tmp 12) (.tmp 16) rfl rfl w.heap.size (.slice A1 k c1) k (le k u) rfl HS.out _ _ 1 1 [b] rfl hnew (by omega) hbs.out.size ?_
                   intro v3 w3 h3 g3 a3)
      go_roundw
      case rel =>
        refine ⟨k + 1, by omega, by go_num, by rw [Hve.out], ?_, below_own hbs.out HS.out (Nat.le_refl _) g3 hbs.out.size⟩
        rw [le_snoc, hv, ← Hbe.out]
        exact h3
      case measure => simp [intOf]; omega
    · obtain rfl : k = 8 := by omega
      go_wp2
      go_ret
      exact ⟨_, rfl, ho, hb⟩
theorem dbytes_any (A : Option Addr) (n c B : Nat) (bs : List Nat) (w : World) (hb : Bytes w B A n bs) (hn : n ≤ 9000000) :
    Calls Try.prog 50 #[.slice A n c] w fun e w' => ∃ v, e = .returned v ∧ Own w' w.heap.size v (8 + n) (numB n ++ bs) ∧ Below w.heap.size w w' := by
  go_enter Try.func50, Try.ntmps50
  go_wp2_with fail
  refine (dnum_any n w).mono ?_
  rintro e w1 ⟨v, rfl, h1, b1⟩
  have hb1 := hb.since b1
  obtain ⟨A1, c1, rfl, -, -, -⟩ := h1.form
  go_wp2_with (refine app_bytes (.tmp 5) (.tmp 6) rfl rfl w.heap.size (.slice A1 8 c1) 8 (numB n) rfl h1 B A n c bs rfl hb1 (by omega) b1.size ?_
               intro v3 w3 h3 g3 a3)
  go_ret
  exact ⟨v3, rfl, h3, below_own b1 h1 (Nat.le_refl _) g3 b1.size⟩
theorem dnums_any (A : Option Addr) (n c B : Nat) (l : List Int) (w : World) (hb : Ints w B A n l) (hn : n ≤ 900000) :
    Calls Try.prog 52 #[.slice A n c] w fun e w' => ∃ v, e = .returned v ∧ Own w' w.heap.size v (8 + 8 * n) (numsB l) ∧ Below w.heap.size w w' := by
  have hl := hb.len
  have H := Lib.hid hb
  clear hb
  go_enter Try.func52, Try.ntmps52
  go_wp2_with fail
  refine (dnum_any n w).mono ?_
  rintro e w1 ⟨v, rfl, h1, b1⟩
  have H1 := Lib.hid h1
  have HB1 := Lib.hid b1
  clear h1 b1
  go_wp2
  go_loopw [3, 4] (fun v i wr => ∃ k : Nat, k ≤ n ∧ i = .int .i64 k ∧ Own wr w.heap.size v (8 + 8 * k) (numB n ++ (l.take k).flatMap numB) ∧ Below w.heap.size w wr) (fun _ i _ => n - (intOf i).toNat)
  case atStart => exact ⟨0, by omega, rfl, by simpa using H1.out, HB1.out⟩
  case round =>
    obtain ⟨k, hk, rfl, ho, hb⟩ := hrel
    by_cases hlt : k < n
    · obtain ⟨A1, c1, rfl, -, -, -⟩ := ho.form
      obtain ⟨ad, x, rfl, hx, hc⟩ := (show Ints wr B A n l from ⟨H.out.1, (Reads.since H.out (Below.mono hb (Nat.le_refl _))).2⟩).at_ hlt
      have HO := Lib.hid ho
      have Hb := Lib.hid hb
      have Hx := Lib.hid hx
      clear ho hb hx
      go_wp2_with fail
      refine (dnum_any x wr).mono ?_
      rintro e w2 ⟨v2, rfl, h2, b2⟩
      obtain ⟨A2, c2, rfl, -, -, -⟩ := h2.form
      have HO2 := Lib.hid (HO.out.below b2)
      have HB2 := Lib.hid (Hb.out.trans (b2.mono Hb.out.size))
      have hby := h2.bytes (numB_lt x)
      go_wp2_with (refine app_bytes (.tmp 14) (.tmp 19) rfl rfl w.heap.size (.slice A1 (8 + 8 * k) c1) (8 + 8 * k) _ rfl HO2.out _ A2 8 c2 (numB x) rfl hby (by omega) HB2.out.size ?_
                   intro v3 w3 h3 g3 a3)
      go_roundw
      case rel =>
        refine ⟨k + 1, by omega, by go_num, ?_, below_own HB2.out HO2.out (Nat.le_refl _) g3 HB2.out.size⟩
        have e : l.take (k + 1) = l.take k ++ [x] := by rw [List.take_add_one, Hx.out]; rfl
        rw [e, List.flatMap_append, ← List.append_assoc, show 8 + 8 * (k + 1) = 8 + 8 * k + 8 by omega]
        simpa using h3
      case measure => simp [intOf]; omega
    · obtain rfl : k = n := by omega
      have HO : Hid (Own wr w.heap.size u3 (8 + 8 * k) (numsB l)) := by
        rw [List.take_of_length_le (by omega)] at ho
        unfold numsB
        rw [hl]
        exact Lib.hid ho
      have Hb := Lib.hid hb
      clear ho hb
      go_wp2
      go_ret
      exact ⟨_, rfl, HO.out, Hb.out⟩
end Go.Proofs.Yteghbfkkpnlilaa

/-
  The document's Put. Conditions: the object reads as it is said to, and is no larger than what is looked at.
-/
namespace Go.Proofs.Yteghbfkkpnlilaa
open Go.RowKit Go.BigFrame
set_option linter.unusedSimpArgs false
set_option linter.unusedVariables false
set_option maxRecDepth 100000
def bytesB (bs : List Nat) : List Nat := numB bs.length ++ bs
def clT (c : ClV) : List Nat := numsB c.sn ++ bytesB c.dt
def putV (o : OV) : List Nat := [if o.th then 1 else 0] ++ bytesB o.dt ++ numB o.sq ++ numB o.cl.length ++ o.cl.flatMap clT
theorem bytesB_len (bs : List Nat) : (bytesB bs).length = 8 + bs.length := by rw [bytesB, List.length_append, numB_len]
theorem clT_len (c : ClV) : (clT c).length = 16 + 8 * c.sn.length + c.dt.length := by rw [clT, List.length_append, numsB_len, bytesB_len]; omega
theorem bytesB_lt {bs : List Nat} (h : ∀ b ∈ bs, b < 256) : ∀ b ∈ bytesB bs, b < 256 := fun b hb => by
  rcases List.mem_append.1 hb with h' | h'
  · exact numB_lt _ b h'
  · exact h b h'
theorem numsB_lt (l : List Int) : ∀ b ∈ numsB l, b < 256 := fun b hb => by
  rcases List.mem_append.1 hb with h' | h'
  · exact numB_lt _ b h'
  · obtain ⟨x, _, hx⟩ := List.mem_flatMap.1 h'
    exact numB_lt _ b hx
theorem clT_lt {c : ClV} (h : ∀ b ∈ c.dt, b < 256) : ∀ b ∈ clT c, b < 256 := fun b hb => by
  rcases List.mem_append.1 hb with h' | h'
  · exact numsB_lt _ b h'
  · exact bytesB_lt h b h'
theorem cls_len (cl : List CA) (h : ∀ c ∈ cl, c.sn.length ≤ 10000 ∧ c.dt.length ≤ 10000) : (cl.flatMap fun c => clT c.v).length ≤ 100000 * cl.length := by
  induction cl with
  | nil => simp
  | cons c cl ih =>
    have h1 := h c (by simp)
    have h2 := ih (fun c hc => h c (by simp [hc]))
    rw [List.flatMap_cons, List.length_append, List.length_cons, clT_len]
    simp only [CA.v]
    simp only [CA.v] at h2
    omega
def OwnP (w0 : World) (v : Value) (L : List Nat) (wr : World) : Prop := Own wr w0.heap.size v L.length L ∧ Below w0.heap.size w0 wr
theorem OwnP.next {w0 wr w1 : World} {v : Value} {L : List Nat} (h : OwnP w0 v L wr) (hb : Below wr.heap.size wr w1) : OwnP w0 v L w1 := ⟨h.1.below hb, h.2.trans (hb.mono h.2.size)⟩
theorem OwnP.app {w0 w1 w2 : World} {v v2 : Value} {L news : List Nat} {m : Nat} (h : OwnP w0 v L w1) (h5 : Own w2 w0.heap.size v2 (L.length + m) (L ++ news)) (hm : news.length = m) (hg : w1.grownBy w2 v.ownBlock) : OwnP w0 v2 (L ++ news) w2 :=
  ⟨by rw [List.length_append, hm]; exact h5, h.2.grown hg h.2.size (fun b hb => (World.ownsRow.lt h.1 b hb).1)⟩
theorem Own.of_blk9 {w : World} {base g n : Nat} {bs : List Nat} (h : Blk w g 5 (u8s bs).toArray) (hl : bs.length = n) (hb : base ≤ g) (hn : n ≤ 9000000) : Own w base (.slice (some ⟨g, 0, none⟩) n n) n bs :=
  ⟨by rw [u8s_length]; omega, .inr ⟨g, n, _, rfl, hb, h, Nat.le_refl _, by simp [maxLen]; omega, by simp [u8s_length, hl], by rw [List.take_of_length_le (by simp [u8s_length, hl])]⟩⟩
theorem OwnP.wordNew (w0 : World) (x : Nat) : OwnP w0 (.slice (some ⟨w0.heap.size, 0, none⟩) 1 1) [x] (w0.alloc (.cells #[.int .u8 (x : Int)] 5)) :=
  ⟨Own.of_blk9 (bs := [x]) (Blk.new w0 5 (u8s [x]).toArray) rfl (Nat.le_refl _) (by omega), below_alloc _ _⟩
set_option maxHeartbeats 8000000 in
theorem rput_any {w : World} (o : OA) (h : o.R w) (hS : o.Sm) : Calls Try.prog 30 #[.agg o.cs] w fun e w' => ∃ v, e = .returned v ∧ Own w' w.heap.size v (putV o.v).length (putV o.v) ∧ Below w.heap.size w w' := by
  obtain ⟨w0, hw0⟩ : ∃ w0, w0 = w.alloc (.cells o.cs 25) := ⟨_, rfl⟩
  have hb0 : Below w.heap.size w w0 := by rw [hw0]; exact below_alloc w _
  have hz0 : w0.heap.size = w.heap.size + 1 := by rw [hw0]; simp
  have K0 : Blk w0 w.heap.size 25 o.cs := by rw [hw0]; exact Blk.new w _ _
  have H := Lib.hid (And.intro hb0 (And.intro K0 (h.since hb0)))
  have HS := Lib.hid hS
  have HC : Hid (∀ wr, Below w0.heap.size w0 wr → wr.cell? ⟨w.heap.size, 0, none⟩ = some (.bool o.th) ∧ wr.cell? ⟨w.heap.size, 1, none⟩ = some (.slice o.D o.dt.length o.cd) ∧ wr.cell? ⟨w.heap.size, 2, none⟩ = some (.int .i64 o.sq) ∧ wr.cell? ⟨w.heap.size, 3, none⟩ = some (.slice o.C o.cl.length o.cc)) := Lib.hid fun wr hb => by
    have K := K0.of (hb.block _ (by omega))
    exact ⟨K.cell 0, K.cell 1, K.cell 2, K.cell 3⟩
  have hcn := hS.cn
  have hdn := hS.dt
  have HWE := Lib.hid hw0
  have hcs : o.cs = #[.bool o.th, .slice o.D o.dt.length o.cd, .int .i64 o.sq, .slice o.C o.cl.length o.cc] := rfl
  rw [hcs] at HWE ⊢
  have HW1 : Hid (OwnP w0 (.slice (some ⟨w0.heap.size, 0, none⟩) 1 1) [0] (w0.alloc (.cells #[.int .u8 0] 5))) := Lib.hid (OwnP.wordNew w0 0)
  have HW2 : Hid (OwnP w0 (.slice (some ⟨w0.heap.size, 0, none⟩) 1 1) [1] (w0.alloc (.cells #[.int .u8 1] 5))) := Lib.hid (OwnP.wordNew w0 1)
  have HZ0 := Lib.hid hz0
  have hx0 := (HC.out _ HW1.out.2)
  have hy0 := HC.out _ HW2.out.2
  clear h hS hw0 hb0 K0 hcs hz0
  have HV : Hid (o.v = ⟨o.th, o.dt, o.sq, o.cl.map CA.v⟩) := Lib.hid rfl
  cases hth : o.th with
  | false =>
    rw [hth] at hx0 hy0
    have x0 := hx0.1
    have x1 := hx0.2.1
    clear hx0 hy0
    rw [hth] at HWE
    go_enter Try.func30, Try.ntmps30
    go_upto_region 1 with (fail)
    rw [← HWE.out]
    clear HWE
    go_wp2_with fail
    have HP1 := HW1
    have HX : Hid ((0 : Nat) = if o.v.th then 1 else 0) := Lib.hid (by rw [HV.out]; simp only []; rw [hth]; rfl)
    clear HW1 HW2
    generalize w0.alloc (.cells #[.int .u8 0] 5) = W1 at *
    refine (dbytes_any o.D o.dt.length o.cd _ o.dt W1 (H.out.2.2.since HP1.out.2).dt (by omega)).mono ?_
    rintro e w2 ⟨v2, rfl, h2, b2⟩
    obtain ⟨A2, c2, rfl, -⟩ := h2.form
    have HP2 := Lib.hid (HP1.out.next b2)
    have HY2 := Lib.hid (h2.bytes (bytesB_lt H.out.2.2.dt.2))
    clear h2 b2 x0 x1
    go_wp2_with (refine app_bytes (.tmp 10) (.tmp 13) rfl rfl w0.heap.size _ _ _ rfl HP2.out.1 _ A2 (8 + o.dt.length) c2 (bytesB o.dt) rfl HY2.out (by simp only [List.length_cons, List.length_nil]; omega) HP2.out.2.size ?_
                 intro v3 w3 h3 g3 a3
                 have HP3 := Lib.hid (HP2.out.app h3 (bytesB_len _) g3)
                 clear h3 g3 a3
                 have x2 := (HC.out w3 HP3.out.2).2.2.1)
    refine (dnum_any o.sq w3).mono ?_
    rintro e w4 ⟨v4, rfl, h4, b4⟩
    obtain ⟨A4, c4, rfl, -⟩ := h4.form
    have HP4 := Lib.hid (HP3.out.next b4)
    have HY4 := Lib.hid (h4.bytes (numB_lt _))
    have hl4 : ([0] ++ bytesB o.dt).length = 9 + o.dt.length := by rw [List.length_append, bytesB_len]; simp only [List.length_cons, List.length_nil]; omega
    clear h4 b4 x2
    go_wp2_with (refine app_bytes (.tmp 15) (.tmp 18) rfl rfl w0.heap.size _ _ _ rfl HP4.out.1 _ A4 8 c4 (numB o.sq) rfl HY4.out (by rw [hl4]; omega) HP4.out.2.size ?_
                 intro v5 w5 h5 g5 a5
                 have HP5 := Lib.hid (HP4.out.app h5 (numB_len _) g5)
                 clear h5 g5 a5
                 have x3 := (HC.out w5 HP5.out.2).2.2.2)
    refine (dnum_any o.cl.length w5).mono ?_
    rintro e w6 ⟨v6, rfl, h6, b6⟩
    obtain ⟨A6, c6, rfl, -⟩ := h6.form
    have HP6 := Lib.hid (HP5.out.next b6)
    have HY6 := Lib.hid (h6.bytes (numB_lt _))
    have hl6 : ([0] ++ bytesB o.dt ++ numB o.sq).length = 17 + o.dt.length := by rw [List.length_append, hl4, numB_len]; omega
    clear h6 b6 x3
    go_wp2_with (refine app_bytes (.tmp 20) (.tmp 24) rfl rfl w0.heap.size _ _ _ rfl HP6.out.1 _ A6 8 c6 (numB o.cl.length) rfl HY6.out (by rw [hl6]; omega) HP6.out.2.size ?_
                 intro v7 w7 h7 g7 a7
                 have HP7 := Lib.hid (HP6.out.app h7 (numB_len _) g7)
                 clear h7 g7 a7)
    have hl7 : ([0] ++ bytesB o.dt ++ numB o.sq ++ numB o.cl.length).length ≤ 20000 := by rw [List.length_append, hl6, numB_len]; omega
    have HL7 := Lib.hid hl7
    have HE7 : Hid ([0] ++ bytesB o.dt ++ numB o.sq ++ numB o.cl.length = [if o.v.th then 1 else 0] ++ bytesB o.v.dt ++ numB o.v.sq ++ numB o.v.cl.length) := Lib.hid (by rw [← HX.out, HV.out]; simp only [List.length_map])
    clear hl4 hl6 hl7
    generalize [0] ++ bytesB o.dt ++ numB o.sq ++ numB o.cl.length = L0 at *
    go_loopw [3, 4] (fun v i wr => ∃ k : Nat, k ≤ o.cl.length ∧ i = .int .i64 k ∧ OwnP w0 v (L0 ++ (o.cl.take k).flatMap fun c => clT c.v) wr) (fun _ i _ => o.cl.length - (intOf i).toNat)
    case atStart => exact ⟨0, by omega, rfl, by simpa using HP7.out⟩
    case round =>
      obtain ⟨k, hk, rfl, ho⟩ := hrel
      have HP := Lib.hid ho
      have x3 := (HC.out wr ho.2).2.2.2
      have hwk : IntKind.i64.wrap ((k : Int) + 1) = (k : Int) + 1 := by rw [IntKind.wrap_i64]; omega
      have hlk : (L0 ++ (o.cl.take k).flatMap fun c => clT c.v).length ≤ 20000 + 100000 * k := by
        have h1 := cls_len (o.cl.take k) (fun c hc => HS.out.cl c (List.mem_of_mem_take hc))
        have h2 : (o.cl.take k).length ≤ k := by rw [List.length_take]; omega
        rw [List.length_append]
        have := HL7.out
        have : 100000 * (o.cl.take k).length ≤ 100000 * k := Nat.mul_le_mul_left _ h2
        omega
      have HLK := Lib.hid hlk
      clear ho hlk HP7
      by_cases hlt : k < o.cl.length
      · obtain ⟨c, hck⟩ : ∃ c, o.cl[k]? = some c := ⟨_, List.getElem?_eq_getElem hlt⟩
        have hRr := H.out.2.2.since HP.out.2
        obtain ⟨ad, had, hl, hc⟩ := hRr.get hck
        have hcR := hRr.cl c (List.mem_of_getElem? hck)
        have hsm := HS.out.cl c (List.mem_of_getElem? hck)
        have hc0 := hc 0 _ rfl
        have c0' : wr.cell? (ad.add (k * 2)) = some (.slice c.S c.sn.length c.cs) := by simpa [Addr.add] using hc0
        have HSN : Hid ((o.cl.take (k + 1)).flatMap (fun c => clT c.v) = (o.cl.take k).flatMap (fun c => clT c.v) ++ clT c.v) := Lib.hid (by rw [take_snocI hck, List.flatMap_append]; simp)
        have HCK := Lib.hid (And.intro hck (And.intro hcR hsm))
        have hsm1 := hsm.1
        have hsm2 := hsm.2
        have HH := Lib.hid had
        have HRC : Hid (∀ w', Below w0.heap.size w0 w' → w'.cell? ⟨w.heap.size, 3, none⟩ = some (.slice o.C o.cl.length o.cc) ∧ w'.cell? ((ad.add (k * 2)).add 1) = some (.slice c.D c.dt.length c.cd) ∧ c.R w') := Lib.hid fun w' hb => by
          have h1 := hb
          obtain ⟨ad', e, _, hc'⟩ := (H.out.2.2.since h1).get hck
          rw [had] at e
          injection e with e
          subst e
          exact ⟨(HC.out w' h1).2.2.2, hc' 1 _ rfl, (H.out.2.2.since h1).cl c (List.mem_of_getElem? hck)⟩
        generalize o.C = oC at *
        subst had
        clear hck hcR hc hsm hRr hc0
        generalize hLL : L0 ++ (o.cl.take k).flatMap (fun c => clT c.v) = L at *
        have HLL := Lib.hid hLL
        clear hLL
        go_wp2_with fail
        refine (dnums_any c.S c.sn.length c.cs _ c.sn wr HCK.out.2.1.sn (by omega)).mono ?_
        rintro e w2 ⟨v2, rfl, h2, b2⟩
        obtain ⟨A2, c2, rfl, -⟩ := h2.form
        have HQ2 := Lib.hid (HP.out.next b2)
        have HB2 := Lib.hid b2
        have HY2 := Lib.hid (h2.bytes (numsB_lt _))
        clear h2 b2 x3 c0'
        go_wp2_with (refine app_bytes (.tmp 33) (.tmp 40) rfl rfl w0.heap.size _ _ _ rfl HQ2.out.1 _ A2 (8 + 8 * c.sn.length) c2 (numsB c.sn) rfl HY2.out (by have := HLK.out; omega) HQ2.out.2.size ?_
                     intro v3 w3 h3 g3 a3
                     have HQ3 := Lib.hid (HQ2.out.app h3 (numsB_len _) g3)
                     have HB3 : Hid (c.R w3 ∧ Below w0.heap.size w0 w3) := Lib.hid ⟨(HRC.out w3 HQ3.out.2).2.2, HQ3.out.2⟩
                     have x3 : w3.cell? ⟨w.heap.size, 3, none⟩ = some (.slice (some ad) o.cl.length o.cc) := (HRC.out w3 HQ3.out.2).1
                     have c1 : w3.cell? ((ad.add (k * 2)).add 1) = some (.slice c.D c.dt.length c.cd) := (HRC.out w3 HQ3.out.2).2.1
                     have c1' : w3.cell? ⟨(ad.add (k * 2)).block, (ad.add (k * 2)).off + 1, none⟩ = some (.slice c.D c.dt.length c.cd) := by simpa [Addr.add] using c1
                     clear h3 g3 a3)
        refine (dbytes_any c.D c.dt.length c.cd _ c.dt w3 HB3.out.1.dt (by omega)).mono ?_
        rintro e w4 ⟨v4, rfl, h4, b4⟩
        obtain ⟨A4, c4, rfl, -⟩ := h4.form
        have HQ4 := Lib.hid (HQ3.out.next b4)
        have HY4 := Lib.hid (h4.bytes (bytesB_lt HB3.out.1.dt.2))
        clear h4 b4 x3 c1 c1'
        go_wp2_with (refine app_bytes (.tmp 42) (.tmp 49) rfl rfl w0.heap.size _ _ _ rfl HQ4.out.1 _ A4 (8 + c.dt.length) c4 (bytesB c.dt) rfl HY4.out (by rw [List.length_append, numsB_len]; have := HLK.out; omega) HQ4.out.2.size ?_
                     intro v5 w5 h5 g5 a5
                     have HQ5 := Lib.hid (HQ4.out.app h5 (bytesB_len _) g5)
                     clear h5 g5 a5)
        go_roundw
        case rel =>
          refine ⟨k + 1, by omega, by go_num, ?_⟩
          rw [HSN.out, ← List.append_assoc, HLL.out]
          have := HQ5.out
          rwa [List.append_assoc] at this
        case measure => simp [intOf]; omega
      · obtain rfl : k = o.cl.length := by omega
        go_wp2
        go_ret
        refine ⟨_, rfl, ?_⟩
        have h9 := HP.out
        rw [List.take_length, HE7.out] at h9
        have e9 : [if o.v.th then 1 else 0] ++ bytesB o.v.dt ++ numB o.v.sq ++ numB o.v.cl.length ++ o.cl.flatMap (fun c => clT c.v) = putV o.v := by
          rw [putV]
          congr 1
          rw [HV.out]
          simp only [List.flatMap_map]
        rw [e9] at h9
        exact ⟨h9.1.weaken (by have := HZ0.out; omega), H.out.1.trans (h9.2.mono (by have := HZ0.out; omega))⟩
  | true =>
    rw [hth] at hx0 hy0
    have x0 := hx0.1
    have x1 := hy0.2.1
    clear hx0 hy0
    rw [hth] at HWE
    go_enter Try.func30, Try.ntmps30
    go_upto_region 1 with (fail)
    rw [← HWE.out]
    clear HWE
    go_wp2_with fail
    have HP1 := HW2
    have HX : Hid ((1 : Nat) = if o.v.th then 1 else 0) := Lib.hid (by rw [HV.out]; simp only []; rw [hth]; rfl)
    clear HW1 HW2
    generalize w0.alloc (.cells #[.int .u8 1] 5) = W1 at *
    refine (dbytes_any o.D o.dt.length o.cd _ o.dt W1 (H.out.2.2.since HP1.out.2).dt (by omega)).mono ?_
    rintro e w2 ⟨v2, rfl, h2, b2⟩
    obtain ⟨A2, c2, rfl, -⟩ := h2.form
    have HP2 := Lib.hid (HP1.out.next b2)
    have HY2 := Lib.hid (h2.bytes (bytesB_lt H.out.2.2.dt.2))
    clear h2 b2 x0 x1
    go_wp2_with (refine app_bytes (.tmp 10) (.tmp 13) rfl rfl w0.heap.size _ _ _ rfl HP2.out.1 _ A2 (8 + o.dt.length) c2 (bytesB o.dt) rfl HY2.out (by simp only [List.length_cons, List.length_nil]; omega) HP2.out.2.size ?_
                 intro v3 w3 h3 g3 a3
                 have HP3 := Lib.hid (HP2.out.app h3 (bytesB_len _) g3)
                 clear h3 g3 a3
                 have x2 := (HC.out w3 HP3.out.2).2.2.1)
    refine (dnum_any o.sq w3).mono ?_
    rintro e w4 ⟨v4, rfl, h4, b4⟩
    obtain ⟨A4, c4, rfl, -⟩ := h4.form
    have HP4 := Lib.hid (HP3.out.next b4)
    have HY4 := Lib.hid (h4.bytes (numB_lt _))
    have hl4 : ([1] ++ bytesB o.dt).length = 9 + o.dt.length := by rw [List.length_append, bytesB_len]; simp only [List.length_cons, List.length_nil]; omega
    clear h4 b4 x2
    go_wp2_with (refine app_bytes (.tmp 15) (.tmp 18) rfl rfl w0.heap.size _ _ _ rfl HP4.out.1 _ A4 8 c4 (numB o.sq) rfl HY4.out (by rw [hl4]; omega) HP4.out.2.size ?_
                 intro v5 w5 h5 g5 a5
                 have HP5 := Lib.hid (HP4.out.app h5 (numB_len _) g5)
                 clear h5 g5 a5
                 have x3 := (HC.out w5 HP5.out.2).2.2.2)
    refine (dnum_any o.cl.length w5).mono ?_
    rintro e w6 ⟨v6, rfl, h6, b6⟩
    obtain ⟨A6, c6, rfl, -⟩ := h6.form
    have HP6 := Lib.hid (HP5.out.next b6)
    have HY6 := Lib.hid (h6.bytes (numB_lt _))
    have hl6 : ([1] ++ bytesB o.dt ++ numB o.sq).length = 17 + o.dt.length := by rw [List.length_append, hl4, numB_len]; omega
    clear h6 b6 x3
    go_wp2_with (refine app_bytes (.tmp 20) (.tmp 24) rfl rfl w0.heap.size _ _ _ rfl HP6.out.1 _ A6 8 c6 (numB o.cl.length) rfl HY6.out (by rw [hl6]; omega) HP6.out.2.size ?_
                 intro v7 w7 h7 g7 a7
                 have HP7 := Lib.hid (HP6.out.app h7 (numB_len _) g7)
                 clear h7 g7 a7)
    have hl7 : ([1] ++ bytesB o.dt ++ numB o.sq ++ numB o.cl.length).length ≤ 20000 := by rw [List.length_append, hl6, numB_len]; omega
    have HL7 := Lib.hid hl7
    have HE7 : Hid ([1] ++ bytesB o.dt ++ numB o.sq ++ numB o.cl.length = [if o.v.th then 1 else 0] ++ bytesB o.v.dt ++ numB o.v.sq ++ numB o.v.cl.length) := Lib.hid (by rw [← HX.out, HV.out]; simp only [List.length_map])
    clear hl4 hl6 hl7
    generalize [1] ++ bytesB o.dt ++ numB o.sq ++ numB o.cl.length = L0 at *
    go_loopw [3, 4] (fun v i wr => ∃ k : Nat, k ≤ o.cl.length ∧ i = .int .i64 k ∧ OwnP w0 v (L0 ++ (o.cl.take k).flatMap fun c => clT c.v) wr) (fun _ i _ => o.cl.length - (intOf i).toNat)
    case atStart => exact ⟨0, by omega, rfl, by simpa using HP7.out⟩
    case round =>
      obtain ⟨k, hk, rfl, ho⟩ := hrel
      have HP := Lib.hid ho
      have x3 := (HC.out wr ho.2).2.2.2
      have hwk : IntKind.i64.wrap ((k : Int) + 1) = (k : Int) + 1 := by rw [IntKind.wrap_i64]; omega
      have hlk : (L0 ++ (o.cl.take k).flatMap fun c => clT c.v).length ≤ 20000 + 100000 * k := by
        have h1 := cls_len (o.cl.take k) (fun c hc => HS.out.cl c (List.mem_of_mem_take hc))
        have h2 : (o.cl.take k).length ≤ k := by rw [List.length_take]; omega
        rw [List.length_append]
        have := HL7.out
        have : 100000 * (o.cl.take k).length ≤ 100000 * k := Nat.mul_le_mul_left _ h2
        omega
      have HLK := Lib.hid hlk
      clear ho hlk HP7
      by_cases hlt : k < o.cl.length
      · obtain ⟨c, hck⟩ : ∃ c, o.cl[k]? = some c := ⟨_, List.getElem?_eq_getElem hlt⟩
        have hRr := H.out.2.2.since HP.out.2
        obtain ⟨ad, had, hl, hc⟩ := hRr.get hck
        have hcR := hRr.cl c (List.mem_of_getElem? hck)
        have hsm := HS.out.cl c (List.mem_of_getElem? hck)
        have hc0 := hc 0 _ rfl
        have c0' : wr.cell? (ad.add (k * 2)) = some (.slice c.S c.sn.length c.cs) := by simpa [Addr.add] using hc0
        have HSN : Hid ((o.cl.take (k + 1)).flatMap (fun c => clT c.v) = (o.cl.take k).flatMap (fun c => clT c.v) ++ clT c.v) := Lib.hid (by rw [take_snocI hck, List.flatMap_append]; simp)
        have HCK := Lib.hid (And.intro hck (And.intro hcR hsm))
        have hsm1 := hsm.1
        have hsm2 := hsm.2
        have HH := Lib.hid had
        have HRC : Hid (∀ w', Below w0.heap.size w0 w' → w'.cell? ⟨w.heap.size, 3, none⟩ = some (.slice o.C o.cl.length o.cc) ∧ w'.cell? ((ad.add (k * 2)).add 1) = some (.slice c.D c.dt.length c.cd) ∧ c.R w') := Lib.hid fun w' hb => by
          have h1 := hb
          obtain ⟨ad', e, _, hc'⟩ := (H.out.2.2.since h1).get hck
          rw [had] at e
          injection e with e
          subst e
          exact ⟨(HC.out w' h1).2.2.2, hc' 1 _ rfl, (H.out.2.2.since h1).cl c (List.mem_of_getElem? hck)⟩
        generalize o.C = oC at *
        subst had
        clear hck hcR hc hsm hRr hc0
        generalize hLL : L0 ++ (o.cl.take k).flatMap (fun c => clT c.v) = L at *
        have HLL := Lib.hid hLL
        clear hLL
        go_wp2_with fail
        refine (dnums_any c.S c.sn.length c.cs _ c.sn wr HCK.out.2.1.sn (by omega)).mono ?_
        rintro e w2 ⟨v2, rfl, h2, b2⟩
        obtain ⟨A2, c2, rfl, -⟩ := h2.form
        have HQ2 := Lib.hid (HP.out.next b2)
        have HB2 := Lib.hid b2
        have HY2 := Lib.hid (h2.bytes (numsB_lt _))
        clear h2 b2 x3 c0'
        go_wp2_with (refine app_bytes (.tmp 33) (.tmp 40) rfl rfl w0.heap.size _ _ _ rfl HQ2.out.1 _ A2 (8 + 8 * c.sn.length) c2 (numsB c.sn) rfl HY2.out (by have := HLK.out; omega) HQ2.out.2.size ?_
                     intro v3 w3 h3 g3 a3
                     have HQ3 := Lib.hid (HQ2.out.app h3 (numsB_len _) g3)
                     have HB3 : Hid (c.R w3 ∧ Below w0.heap.size w0 w3) := Lib.hid ⟨(HRC.out w3 HQ3.out.2).2.2, HQ3.out.2⟩
                     have x3 : w3.cell? ⟨w.heap.size, 3, none⟩ = some (.slice (some ad) o.cl.length o.cc) := (HRC.out w3 HQ3.out.2).1
                     have c1 : w3.cell? ((ad.add (k * 2)).add 1) = some (.slice c.D c.dt.length c.cd) := (HRC.out w3 HQ3.out.2).2.1
                     have c1' : w3.cell? ⟨(ad.add (k * 2)).block, (ad.add (k * 2)).off + 1, none⟩ = some (.slice c.D c.dt.length c.cd) := by simpa [Addr.add] using c1
                     clear h3 g3 a3)
        refine (dbytes_any c.D c.dt.length c.cd _ c.dt w3 HB3.out.1.dt (by omega)).mono ?_
        rintro e w4 ⟨v4, rfl, h4, b4⟩
        obtain ⟨A4, c4, rfl, -⟩ := h4.form
        have HQ4 := Lib.hid (HQ3.out.next b4)
        have HY4 := Lib.hid (h4.bytes (bytesB_lt HB3.out.1.dt.2))
        clear h4 b4 x3 c1 c1'
        go_wp2_with (refine app_bytes (.tmp 42) (.tmp 49) rfl rfl w0.heap.size _ _ _ rfl HQ4.out.1 _ A4 (8 + c.dt.length) c4 (bytesB c.dt) rfl HY4.out (by rw [List.length_append, numsB_len]; have := HLK.out; omega) HQ4.out.2.size ?_
                     intro v5 w5 h5 g5 a5
                     have HQ5 := Lib.hid (HQ4.out.app h5 (bytesB_len _) g5)
                     clear h5 g5 a5)
        go_roundw
        case rel =>
          refine ⟨k + 1, by omega, by go_num, ?_⟩
          rw [HSN.out, ← List.append_assoc, HLL.out]
          have := HQ5.out
          rwa [List.append_assoc] at this
        case measure => simp [intOf]; omega
      · obtain rfl : k = o.cl.length := by omega
        go_wp2
        go_ret
        refine ⟨_, rfl, ?_⟩
        have h9 := HP.out
        rw [List.take_length, HE7.out] at h9
        have e9 : [if o.v.th then 1 else 0] ++ bytesB o.v.dt ++ numB o.v.sq ++ numB o.v.cl.length ++ o.cl.flatMap (fun c => clT c.v) = putV o.v := by
          rw [putV]
          congr 1
          rw [HV.out]
          simp only [List.flatMap_map]
        rw [e9] at h9
        exact ⟨h9.1.weaken (by have := HZ0.out; omega), H.out.1.trans (h9.2.mono (by have := HZ0.out; omega))⟩
end Go.Proofs.Yteghbfkkpnlilaa

/-
  What snap.Put returns. Conditions: the object reads as it is said to.
-/
namespace Go.Proofs.Yteghbfkkpnlilaa
open Go.RowKit Go.BigFrame
set_option linter.unusedSimpArgs false
set_option linter.unusedVariables false
set_option maxRecDepth 100000
theorem writer_zero9 (w : World) : (zeroValue 87).run Try.prog w = .ok (.agg #[.slice none 0 0]) w := by kernel_rfl
theorem Wr.made9 (w : World) : Wr (w.alloc (.cells #[.slice none 0 0] 87)) w.heap.size [w.heap.size] (some ⟨w.heap.size, 0, none⟩) [] :=
  .inr ⟨_, rfl, .slice none 0 0, by simp [rowOf, Value.ownBlock], Blk.new _ _ _, Own.nil _ _, Nat.le_refl _, fun b hb => by cases hb⟩
theorem plus_some (g : Addr) (a b : List Nat) : plus (some g) a b = a ++ b := rfl
def SPutTo (w : World) (o : OV) (e : Ending) (w' : World) : Prop :=
  Below w.heap.size w w' ∧ ((Good o ∧ ∃ v, e = .returned (.tuple #[v, .nilIface]) ∧ Own w' w.heap.size v (putV o).length (putV o)) ∨ (¬ Good o ∧ e = .returned (.tuple #[.slice none 0 0, errV 2])))
structure Wrt (w1 wr : World) (F : List Nat) (g : Nat) (L : List Nat) : Prop where
  wrt : Wr wr w1.heap.size F (some ⟨g, 0, none⟩) L
  bel : Below w1.heap.size w1 wr
theorem Wrt.then_ {w1 wr w2 : World} {F : List Nat} {g : Nat} {L L' : List Nat} (h : Wrt w1 wr F g L) (ht : WTo wr w1.heap.size F (some ⟨g, 0, none⟩) L' w2) : ∃ F', Wrt w1 w2 F' g L' := by
  obtain ⟨F', h1, h2, h3⟩ := ht
  exact ⟨F', h1, h.bel.trans (h2.below h.wrt.over h.bel.size)⟩
theorem Wrt.next {w1 wr w2 : World} {F : List Nat} {g : Nat} {L : List Nat} (h : Wrt w1 wr F g L) (hb : Below wr.heap.size wr w2) : Wrt w1 w2 F g L := ⟨h.wrt.below hb, h.bel.trans (hb.mono h.bel.size)⟩
theorem Wrt.far {w1 wr : World} {F : List Nat} {g : Nat} {L : List Nat} (h : Wrt w1 wr F g L) {n size : Nat} {A : Option Addr} {xs : List Value} (hr : Reads w1 w1.heap.size size A n xs) : ∀ a, A = some a → 0 < n → a.block ∉ F := by
  intro a ha hn hm
  obtain ⟨ad, e, hb, _⟩ := hr.2 hn
  rw [ha] at e
  injection e with e
  subst e
  have := h.wrt.over a.block hm
  omega
set_option maxHeartbeats 8000000 in
theorem sput_any {w : World} (o : OA) (h : o.R w) (hS : o.Sm) : Calls Try.prog 24 #[.agg o.cs] w (SPutTo w o.v) := by
  obtain ⟨w0, hw0⟩ : ∃ w0, w0 = w.alloc (.cells o.cs 36) := ⟨_, rfl⟩
  have hb0 : Below w.heap.size w w0 := by rw [hw0]; exact below_alloc w _
  have hz0 : w0.heap.size = w.heap.size + 1 := by rw [hw0]; simp
  have K0 : Blk w0 w.heap.size 36 o.cs := by rw [hw0]; exact Blk.new w _ _
  have HC : Hid (∀ wr, Below w0.heap.size w0 wr → wr.cell? ⟨w.heap.size, 0, none⟩ = some (.bool o.th) ∧ wr.cell? ⟨w.heap.size, 1, none⟩ = some (.slice o.D o.dt.length o.cd) ∧ wr.cell? ⟨w.heap.size, 2, none⟩ = some (.int .i64 o.sq) ∧ wr.cell? ⟨w.heap.size, 3, none⟩ = some (.slice o.C o.cl.length o.cc)) := Lib.hid fun wr hb => by
    have K := K0.of (hb.block _ (by omega))
    exact ⟨K.cell 0, K.cell 1, K.cell 2, K.cell 3⟩
  have HR0 := Lib.hid (And.intro hb0 (h.since hb0))
  have HS := Lib.hid hS
  have HGd := Lib.hid (sgood_any o (h.since hb0))
  have HWE := Lib.hid hw0
  have hcs : o.cs = #[.bool o.th, .slice o.D o.dt.length o.cd, .int .i64 o.sq, .slice o.C o.cl.length o.cc] := rfl
  rw [hcs] at HWE HGd ⊢
  obtain ⟨x0, x1, x2, x3⟩ := HC.out w0 (Below.refl _ _)
  have hzw := writer_zero9
  clear h hw0 hb0 K0 hcs
  go_enter Try.func24, Try.ntmps24
  go_upto_region 1 with (fail)
  rw [← HWE.out]
  clear HWE
  go_wp2_with fail
  refine HGd.out.mono ?_
  rintro e w1 ⟨b, rfl, hbg, b1⟩
  have HB1 := Lib.hid b1
  have HB01 := Lib.hid (HR0.out.1.trans (b1.mono HR0.out.1.size))
  have HR1 := Lib.hid (HR0.out.2.since b1)
  have HV : Hid (o.v = ⟨o.th, o.dt, o.sq, o.cl.map CA.v⟩) := Lib.hid rfl
  cases b with
  | false =>
    have HN : Hid (¬ Good o.v) := Lib.hid fun g => by have := hbg.2 g; cases this
    clear b1 hbg x0 x1 x2 x3
    go_wp2
    go_ret2
    exact ⟨HB01.out, .inr ⟨HN.out, rfl⟩⟩
  | true =>
    have HGo := Lib.hid (hbg.1 rfl)
    clear b1 hbg x0 x1 x2 x3 HGd
    have HX : Hid (∀ w', Below w1.heap.size w1 w' → w'.cell? ⟨w.heap.size, 0, none⟩ = some (.bool o.th) ∧ w'.cell? ⟨w.heap.size, 1, none⟩ = some (.slice o.D o.dt.length o.cd) ∧ w'.cell? ⟨w.heap.size, 2, none⟩ = some (.int .i64 o.sq) ∧ w'.cell? ⟨w.heap.size, 3, none⟩ = some (.slice o.C o.cl.length o.cc)) := Lib.hid fun w' hb => HC.out w' (HB1.out.trans (hb.mono HB1.out.size))
    have hdl : o.dt.length ≤ 256 := by have := HGo.out.dt; rw [HV.out] at this; exact this
    have hcl : o.cl.length ≤ 16 := by have := HGo.out.cn; rw [HV.out] at this; simpa using this
    have x0 : ∀ ob, (w1.alloc ob).cell? ⟨w.heap.size, 0, none⟩ = some (.bool o.th) := fun ob => (HX.out _ (below_alloc w1 ob)).1
    have hmade := Wr.made9 w1
    have HW0 : Hid (Wrt w1 (w1.alloc (.cells #[.slice none 0 0] 87)) [w1.heap.size] w1.heap.size []) := Lib.hid ⟨hmade, below_alloc _ _⟩
    clear hmade
    go_wp2_with fail
    generalize w1.alloc (.cells #[.slice none 0 0] 87) = wA at *
    obtain ⟨g1, hg1⟩ : ∃ g1, g1 = w1.heap.size := ⟨_, rfl⟩
    rw [← hg1] at HW0 ⊢
    clear hg1
    refine (wflag_any wA w1.heap.size _ _ _ o.th HW0.out.wrt (by simp) HW0.out.bel.size).mono ?_
    rintro e w2 ⟨rfl, ht⟩
    obtain ⟨F2, hW2⟩ := HW0.out.then_ ht
    rw [plus_some, List.nil_append] at hW2
    have HW2 := Lib.hid hW2
    have x1 := (HX.out w2 hW2.bel).2.1
    clear ht hW2 x0
    go_wp2_with fail
    refine (wbytes_any w2 w1.heap.size _ _ _ o.dt _ o.D o.dt.length o.cd HW2.out.wrt (HR1.out.since HW2.out.bel).dt (HW2.out.far HR1.out.dt.1) (by simp only [List.length_cons, List.length_nil]; omega) HW2.out.bel.size).mono ?_
    rintro e w3 ⟨rfl, ht⟩
    obtain ⟨F3, hW3⟩ := HW2.out.then_ ht
    rw [plus_some] at hW3
    have HW3 := Lib.hid (show Wrt w1 w3 F3 g1 ([if o.th then 1 else 0] ++ bytesB o.dt) from hW3)
    have x2 := (HX.out w3 hW3.bel).2.2.1
    have hl3 : ([if o.th then 1 else 0] ++ bytesB o.dt).length ≤ 1000 := by rw [List.length_append, bytesB_len]; simp only [List.length_cons, List.length_nil]; omega
    obtain ⟨L3, hL3⟩ : ∃ L3, L3 = [if o.th then 1 else 0] ++ bytesB o.dt := ⟨_, rfl⟩
    rw [← hL3] at HW3 hl3
    have HL3 := Lib.hid hL3
    clear ht hW3 x1 hL3
    go_wp2_with fail
    refine (wnum_any w3 w1.heap.size _ _ _ o.sq HW3.out.wrt (by omega) HW3.out.bel.size).mono ?_
    rintro e w4 ⟨rfl, ht⟩
    obtain ⟨F4, hW4⟩ := HW3.out.then_ ht
    rw [plus_some] at hW4
    have HW4 := Lib.hid hW4
    have x3 := (HX.out w4 hW4.bel).2.2.2
    clear ht hW4 x2
    go_wp2_with fail
    refine (wnum_any w4 w1.heap.size _ _ _ o.cl.length HW4.out.wrt (by rw [List.length_append, numB_len]; omega) HW4.out.bel.size).mono ?_
    rintro e w5 ⟨rfl, ht⟩
    obtain ⟨F5, hW5⟩ := HW4.out.then_ ht
    rw [plus_some] at hW5
    have HW5 := Lib.hid hW5
    have x3 := (HX.out w5 hW5.bel).2.2.2
    have hl5 : (L3 ++ numB o.sq ++ numB o.cl.length).length ≤ 2000 := by rw [List.length_append, List.length_append, numB_len, numB_len]; omega
    have HE5 := Lib.hid (rfl : L3 ++ numB o.sq ++ numB o.cl.length = L3 ++ numB o.sq ++ numB o.cl.length)
    obtain ⟨L5, hL5⟩ : ∃ L5, L5 = L3 ++ numB o.sq ++ numB o.cl.length := ⟨_, rfl⟩
    rw [← hL5] at HW5 hl5
    have HL5 := Lib.hid hL5
    clear ht hW5 hL5 HE5
    go_wp2
    go_loopw [33] (fun i wr => ∃ (k : Nat) (F : List Nat), k ≤ o.cl.length ∧ i = .int .i64 k ∧ Wrt w1 wr F g1 (L5 ++ (o.cl.take k).flatMap fun c => clT c.v)) (fun i _ => o.cl.length - (intOf i).toNat)
    case atStart => exact ⟨0, F5, by omega, rfl, by simpa using HW5.out⟩
    case round =>
      obtain ⟨k, F, hk, rfl, ho⟩ := hrel
      have HP := Lib.hid ho
      have hwk : IntKind.i64.wrap ((k : Int) + 1) = (k : Int) + 1 := by rw [IntKind.wrap_i64]; omega
      have hcls : ∀ c ∈ o.cl, c.sn.length ≤ 10000 ∧ c.dt.length ≤ 10000 := HS.out.cl
      have hlk : (L5 ++ (o.cl.take k).flatMap fun c => clT c.v).length ≤ 2000 + 100000 * k := by
        have h1 := cls_len (o.cl.take k) (fun c hc => by have := hcls c (List.mem_of_mem_take hc); omega)
        have h2 : (o.cl.take k).length ≤ k := by rw [List.length_take]; omega
        rw [List.length_append]
        have : 100000 * (o.cl.take k).length ≤ 100000 * k := Nat.mul_le_mul_left _ h2
        omega
      have HLK := Lib.hid hlk
      have HCLS := Lib.hid hcls
      clear ho hlk hcls HW5 x3
      by_cases hlt : k < o.cl.length
      · obtain ⟨c, hck⟩ : ∃ c, o.cl[k]? = some c := ⟨_, List.getElem?_eq_getElem hlt⟩
        have hRr := HR1.out.since HP.out.bel
        obtain ⟨ad, had, hl, hc⟩ := hRr.get hck
        have hcR := HR1.out.cl c (List.mem_of_getElem? hck)
        have hsm := HCLS.out c (List.mem_of_getElem? hck)
        have HSN : Hid ((o.cl.take (k + 1)).flatMap (fun c => clT c.v) = (o.cl.take k).flatMap (fun c => clT c.v) ++ clT c.v) := Lib.hid (by rw [take_snocI hck, List.flatMap_append]; simp)
        have HCK := Lib.hid (And.intro hck (And.intro hcR hsm))
        have hsm1 := hsm.1
        have hsm2 := hsm.2
        have hba : Below wr.heap.size wr (wr.alloc (.cells #[.slice c.S c.sn.length c.cs, .slice c.D c.dt.length c.cd] 79)) := below_alloc wr _
        have HPA := Lib.hid (HP.out.next hba)
        have KC := Lib.hid (Blk.new wr 79 #[.slice c.S c.sn.length c.cs, .slice c.D c.dt.length c.cd])
        generalize o.C = oC at *
        subst had
        clear hck hcR hsm hRr hba
        generalize hLL : L5 ++ (o.cl.take k).flatMap (fun c => clT c.v) = L at *
        have HLL := Lib.hid hLL
        clear hLL
        go_wp2_with (have _h := hc; refine wpList_load_scl rfl (.tmp 35) rfl _ rfl c hc ?_; clear _h hc)
        generalize wr.alloc (.cells #[.slice c.S c.sn.length c.cs, .slice c.D c.dt.length c.cd] 79) = w6 at *
        refine (wnums_any w6 w1.heap.size _ _ _ _ c.S c.sn.length c.cs c.sn HPA.out.wrt (HCK.out.2.1.since HPA.out.bel).sn (HPA.out.far HCK.out.2.1.sn) (by have := HLK.out; omega) HPA.out.bel.size).mono ?_
        rintro e w7 ⟨rfl, ht⟩
        have hc7 : w7.cell? ⟨wr.heap.size, 1, none⟩ = some (.slice c.D c.dt.length c.cd) := by
          obtain ⟨F', _, h2, _⟩ := ht
          have hlt6 := KC.out.lt
          exact (KC.out.of (h2.block wr.heap.size hlt6 (fun hm => by have := HP.out.wrt.under wr.heap.size hm; omega))).cell 1
        obtain ⟨F7, hW7⟩ := HPA.out.then_ ht
        rw [plus_some] at hW7
        have HW7 := Lib.hid hW7
        clear ht hW7
        go_wp2_with fail
        refine (wbytes_any w7 w1.heap.size _ _ _ c.dt _ c.D c.dt.length c.cd HW7.out.wrt (HCK.out.2.1.since HW7.out.bel).dt (HW7.out.far HCK.out.2.1.dt.1) (by rw [List.length_append, numsB_len]; have := HLK.out; omega) HW7.out.bel.size).mono ?_
        rintro e w8 ⟨rfl, ht⟩
        obtain ⟨F8, hW8⟩ := HW7.out.then_ ht
        rw [plus_some] at hW8
        have HW8 := Lib.hid hW8
        clear ht hW8 hc7
        go_wp2
        go_roundw
        case rel =>
          refine ⟨k + 1, F8, by omega, by go_num, ?_⟩
          rw [HSN.out, ← List.append_assoc, HLL.out]
          have := HW8.out
          rwa [List.append_assoc] at this
        case measure => simp [intOf]; omega
      · obtain rfl : k = o.cl.length := by omega
        go_wp2_with fail
        refine (out_any wr w1.heap.size F _ _ HP.out.wrt (by have := HLK.out; omega)).mono ?_
        rintro e w8 ⟨v8, rfl, h8, b8⟩
        go_wp2
        go_ret2
        have e9 : L5 ++ (o.cl.take o.cl.length).flatMap (fun c => clT c.v) = putV o.v := by
          rw [List.take_length, HL5.out, HL3.out, putV, HV.out]
          simp only [List.flatMap_map, List.length_map]
        rw [e9] at h8
        exact ⟨HB01.out.trans ((HP.out.bel.trans (b8.mono HP.out.bel.size)).mono HB01.out.size), .inl ⟨HGo.out, _, rfl, h8.weaken (Nat.le_trans HB01.out.size HP.out.bel.size)⟩⟩
end Go.Proofs.Yteghbfkkpnlilaa

/-
  What was put is read back: numbers, bytes, rows of numbers, flags. No condition but the sizes.
-/
namespace Go.Proofs.Yteghbfkkpnlilaa
open Go.RowKit
set_option linter.unusedSimpArgs false
set_option linter.unusedVariables false
theorem take_num (n : Int) (rest : List Nat) (h1 : -9223372036854775808 ≤ n) (h2 : n ≤ 9223372036854775807) : (⟨numB n ++ rest, false⟩ : RD).take 8 = ⟨rest, false⟩ ∧ (⟨numB n ++ rest, false⟩ : RD).num = n := by
  obtain ⟨e1, e2⟩ := RD.take_fit (s := ⟨numB n ++ rest, false⟩) (k := 8) rfl (by simp [numB_len])
  refine ⟨e1.trans (by rw [List.drop_left' (numB_len n)]), ?_⟩
  have : (⟨numB n ++ rest, false⟩ : RD).num = numOf ((⟨numB n ++ rest, false⟩ : RD).got 8) := rfl
  rw [this]
  exact (congrArg numOf (e2.trans (List.take_left' (numB_len n)))).trans (numOf_numB n h1 h2)
theorem take_bs (b rest : List Nat) : (⟨b ++ rest, false⟩ : RD).take (b.length : Nat) = ⟨rest, false⟩ ∧ (⟨b ++ rest, false⟩ : RD).got (b.length : Nat) = b := by
  obtain ⟨e1, e2⟩ := RD.take_fit (s := ⟨b ++ rest, false⟩) (k := b.length) rfl (by simp)
  exact ⟨e1.trans (by rw [List.drop_left' rfl]), e2.trans (List.take_left' rfl)⟩
theorem take_one (b : Nat) (rest : List Nat) : (⟨b :: rest, false⟩ : RD).take 1 = ⟨rest, false⟩ ∧ (⟨b :: rest, false⟩ : RD).byte = b := by
  have h := take_bs [b] rest
  refine ⟨h.1, ?_⟩
  have : (⟨b :: rest, false⟩ : RD).byte = ((⟨b :: rest, false⟩ : RD).got 1).headD 0 := rfl
  rw [this, show (⟨b :: rest, false⟩ : RD).got 1 = [b] from h.2]
  rfl
theorem run_nums (l : List Int) (rest : List Nat) (hw : ∀ x ∈ l, -9223372036854775808 ≤ x ∧ x ≤ 9223372036854775807) : ∀ k, k ≤ l.length →
    RD.run k ⟨l.flatMap numB ++ rest, false⟩ = ⟨(l.drop k).flatMap numB ++ rest, false⟩ ∧ RD.rows ⟨l.flatMap numB ++ rest, false⟩ k = l.take k
  | 0, _ => ⟨rfl, rfl⟩
  | k + 1, hk => by
    obtain ⟨h1, h2⟩ := run_nums l rest hw k (by omega)
    have hx := hw _ (List.getElem_mem (show k < l.length by omega))
    have hd : l.drop k = l[k] :: l.drop (k + 1) := List.drop_eq_getElem_cons (by omega)
    have e : (⟨(l.drop k).flatMap numB ++ rest, false⟩ : RD) = ⟨numB l[k] ++ ((l.drop (k + 1)).flatMap numB ++ rest), false⟩ := by rw [hd, List.flatMap_cons, List.append_assoc]
    obtain ⟨t1, t2⟩ := take_num l[k] ((l.drop (k + 1)).flatMap numB ++ rest) hx.1 hx.2
    refine ⟨by rw [RD.run, h1, e, t1], ?_⟩
    rw [RD.rows, h1, h2, e, t2, List.take_add_one, List.getElem?_eq_getElem (by omega)]
    rfl
theorem bytes_back (b rest : List Nat) (hb : b.length ≤ 1000000) : (⟨(numB b.length ++ b) ++ rest, false⟩ : RD).bytesTo = ⟨rest, false⟩ ∧ (⟨(numB b.length ++ b) ++ rest, false⟩ : RD).bytes = b := by
  rw [List.append_assoc]
  obtain ⟨t1, t2⟩ := take_num (b.length : Nat) (b ++ rest) (by omega) (by omega)
  obtain ⟨u1, u2⟩ := take_bs b rest
  exact ⟨by rw [RD.bytesTo, t1, t2, u1], by rw [RD.bytes, t1, t2, u2]⟩
theorem many_len (l : List Int) : (l.flatMap numB).length = 8 * l.length := by
  have := numsB_len l
  unfold numsB at this
  rw [List.length_append, numB_len] at this
  omega
theorem nums_back (l : List Int) (rest : List Nat) (hl : l.length ≤ 1000000) (hw : ∀ x ∈ l, -9223372036854775808 ≤ x ∧ x ≤ 9223372036854775807) : (⟨numsB l ++ rest, false⟩ : RD).numsTo = ⟨rest, false⟩ ∧ (⟨numsB l ++ rest, false⟩ : RD).nums = l := by
  unfold numsB
  rw [List.append_assoc]
  obtain ⟨t1, t2⟩ := take_num (l.length : Nat) (l.flatMap numB ++ rest) (by omega) (by omega)
  obtain ⟨r1, r2⟩ := run_nums l rest hw l.length (Nat.le_refl _)
  have hm : (⟨numB (l.length : Nat) ++ (l.flatMap numB ++ rest), false⟩ : RD).many = true := by
    simp only [RD.many, t1, t2, Bool.and_eq_true, decide_eq_true_eq, Bool.not_false, and_true]
    refine ⟨by omega, ?_⟩
    rw [List.length_append, many_len]
    omega
  have hto : (l.length : Int).toNat = l.length := by omega
  refine ⟨?_, ?_⟩
  · rw [RD.numsTo, if_pos hm, t1, t2, hto, r1]
    simp
  · rw [RD.nums, if_pos hm, t1, t2, hto, r2, List.take_length]
theorem flag_back (f : Bool) (rest : List Nat) : (⟨(if f then 1 else 0) :: rest, false⟩ : RD).flagTo = ⟨rest, false⟩ ∧ (⟨(if f then 1 else 0) :: rest, false⟩ : RD).flag = f := by
  obtain ⟨t1, t2⟩ := take_one (if f then 1 else 0) rest
  refine ⟨?_, ?_⟩
  · rw [RD.flagTo, t1, t2, if_neg (by cases f <;> decide)]
  · rw [RD.flag, t2]
    cases f <;> rfl
end Go.Proofs.Yteghbfkkpnlilaa

/-
  What the program's reader reads as numbers: these lie apart from the reader. Conditions: the reader lies where it is said to; it has no more than nine million bytes.
-/
namespace Go.Proofs.Yteghbfkkpnlilaa
open Go.RowKit
set_option linter.unusedSimpArgs false
set_option maxRecDepth 100000
set_option linter.unusedVariables false
theorem rnums_far (w : World) (base : Nat) (F : List Nat) (p : Option Addr) (s : RD) (h : Rd w base F p s) (hB : base ≤ w.heap.size) (hs : s.bs.length ≤ 9000000) :
    Calls Try.prog 57 #[.pointer p] w fun e w' => ∃ v F', e = .returned v ∧ OwnI w' w.heap.size v s.nums.length s.nums ∧ Rd w' base F' p s.numsTo ∧ Only F w w' ∧ Fresh w F F' ∧ (∀ k, v.ownBlock = some k → k ∉ F') := by
  have hFu := h.under
  have hl8 := RD.take_le s 8
  by_cases hneg : s.num < 0
  · have hd : decide (s.num < 0) = true := by simpa using hneg
    have hmany : s.many = false := by simp [RD.many]; omega
    have e1 : s.numsTo = RD.spoilt := by unfold RD.numsTo; rw [hmany]; rfl
    have e2 : s.nums = [] := by unfold RD.nums; rw [hmany]; rfl
    rw [e1, e2]
    go_enter Try.func57, Try.ntmps57
    go_wp2_with fail
    refine (rnum_any w base F p s h hB).mono ?_
    rintro e w1 ⟨rfl, F1, r1, o1, f1⟩
    go_wp2_with fail
    refine (spoil_any w1 base F1 p _ r1).mono ?_
    rintro e w2 ⟨rfl, r2⟩
    go_wp2
    go_ret
    obtain ⟨F9, x1, x2, x3⟩ := r2.after o1 f1
    exact ⟨_, F9, rfl, World.ownsRow_nil _ _ _ _, x1, x2, x3, fun k hk => by simp [Value.ownBlock] at hk⟩
  · obtain ⟨q, hq⟩ := Int.eq_ofNat_of_zero_le (show 0 ≤ s.num by omega)
    have hd : decide ((q : Int) < 0) = false := decide_eq_false (by omega)
    by_cases hbig : (s.take 8).bs.length / 8 < q
    · have hmany : s.many = false := by simp [RD.many, hq]; omega
      have e1 : s.numsTo = RD.spoilt := by unfold RD.numsTo; rw [hmany]; rfl
      have e2 : s.nums = [] := by unfold RD.nums; rw [hmany]; rfl
      rw [e1, e2]
      go_enter Try.func57, Try.ntmps57
      go_wp2_with fail
      refine (rnum_any w base F p s h hB).mono ?_
      rintro e w1 ⟨rfl, F1, r1, o1, f1⟩
      go_wp2_with fail
      refine (left_any w1 base F1 p _ r1).mono ?_
      rintro e w2 ⟨rfl, rfl⟩
      go_wp2_with fail
      refine (spoil_any w1 base F1 p _ r1).mono ?_
      rintro e w2 ⟨rfl, r2⟩
      go_wp2
      go_ret
      obtain ⟨F9, x1, x2, x3⟩ := r2.after o1 f1
      exact ⟨_, F9, rfl, World.ownsRow_nil _ _ _ _, x1, x2, x3, fun k hk => by simp [Value.ownBlock] at hk⟩
    · have hto : s.numsTo = RD.run q (s.take 8) ∧ s.nums = RD.rows (s.take 8) q := by
        cases hb : (s.take 8).bad with
        | true =>
          have hf : s.fits 8 = false := by
            cases hf : s.fits 8 with
            | false => rfl
            | true => simp [RD.take, hf] at hb
          have hn : s.num = 0 := by simp [RD.num, RD.got, hf, numOf, un, wrap64]
          obtain rfl : q = 0 := by omega
          have hmany : s.many = false := by simp [RD.many, hb]
          have ht : s.take 8 = RD.spoilt := by simp [RD.take, hf]
          simp [RD.numsTo, RD.nums, hmany, RD.run, RD.rows, ht]
        | false =>
          have hmany : s.many = true := by simp [RD.many, hq, hb]; omega
          simp [RD.numsTo, RD.nums, hmany, hq]
      rw [hto.1, hto.2, RD.rows_len]
      have hq9 : q ≤ 9000000 := by omega
      have hd2 : decide (((s.take 8).bs.length : Int) / 8 < (q : Int)) = false := decide_eq_false (by omega)
      have hmk := make_ints q hq9
      obtain ⟨Zq, hZq⟩ : ∃ Zq, Zq = (List.replicate q (Value.int .i64 0)).toArray := ⟨_, rfl⟩
      rw [← hZq] at hmk
      have HZ := Lib.hid hZq
      clear hZq hto
      go_enter Try.func57, Try.ntmps57
      go_wp2_with fail
      refine (rnum_any w base F p s h hB).mono ?_
      rintro e w1 ⟨rfl, F1, r1, o1, f1⟩
      go_wp2_with fail
      refine (left_any w1 base F1 p _ r1).mono ?_
      rintro e w2 ⟨he, hw⟩
      subst hw
      subst he
      have M0 := Lib.hid (Blk.new w1 3 Zq)
      have R0 := Lib.hid (r1.below (below_alloc w1 (.cells Zq 3)))
      have O0 := Lib.hid (o1.alloc (.cells Zq 3))
      have FF := Lib.hid f1
      have hgw : w.heap.size ≤ w1.heap.size := o1.size
      have hg1 : w1.heap.size ∉ F1 := fun hm => by have := r1.under _ hm; omega
      clear r1 o1 f1
      go_wp2_with fail
      generalize w1.alloc (.cells Zq 3) = w2 at *
      generalize w1.heap.size = gq at *
      go_loopw [23] (fun i wr => ∃ (k : Nat) (F2 : List Nat), k ≤ q ∧ i = .int .i64 k ∧ Blk wr gq 3 (filling (RD.rows (s.take 8) k) q).toArray ∧ Rd wr base F2 p (RD.run k (s.take 8)) ∧ Only F w wr ∧ Fresh w F F2 ∧ gq ∉ F2) (fun i _ => q - (intOf i).toNat)
      case atStart =>
        refine ⟨0, F1, Nat.zero_le _, rfl, ?_, R0.out, O0.out, FF.out, hg1⟩
        have := M0.out
        rw [HZ.out] at this
        simpa [filling, RD.rows, i64s] using this
      case round =>
        obtain ⟨k, F2, hk, rfl, hm, hr, ho, hf, hg2⟩ := hrel
        have hlk := RD.rows_len (s.take 8) k
        by_cases hlt : k < q
        · have Hm := Lib.hid hm
          have Hr := Lib.hid hr
          have Ho := Lib.hid ho
          have Hf := Lib.hid hf
          have hlt2 := hm.lt
          have hk0 : (0 : Int) ≤ (k : Int) := by omega
          have hk1 : (k : Int) < (q : Int) := by omega
          clear hm hr ho hf
          go_wp2_with fail
          refine (rnum_any wr base F2 p _ Hr.out (Nat.le_trans hB Ho.out.size)).mono ?_
          rintro e w3 ⟨rfl, F3, r3, o3, f3⟩
          have hg3 : gq ∉ F3 := fun hm => by
            rcases f3 _ hm with h' | h'
            · exact hg2 h'
            · omega
          have B3 : Blk w3 gq 3 (filling (RD.rows (s.take 8) k) q).toArray := Hm.out.of (o3.block gq hlt2 hg2)
          have c3 : w3.cell? ⟨gq, k, none⟩ = some (.int .i64 0) := by
            rw [B3.cell]
            have := filling_cell (RD.rows (s.take 8) k) q (by omega)
            rwa [hlk] at this
          have f3' : w3.frozen? ⟨gq, k, none⟩ = false := B3.frozen _
          have HB3 := Lib.hid B3
          have HR3 := Lib.hid (And.intro r3 (And.intro o3 f3))
          clear B3 r3 o3 f3
          go_wp2
          go_roundw
          case rel =>
            obtain ⟨r3, o3, f3⟩ := HR3.out
            refine ⟨k + 1, F3, by omega, by go_num, ?_, r3.of (by simp [World.setCell]) (fun j hj => Below.heap_setCell _ _ _ _ (fun e => hg3 (by subst e; exact hj))), (Ho.out.trans o3 Hf.out).setCell (.inr hgw) _, Hf.out.trans f3 Ho.out.size, hg3⟩
            have := HB3.out.set_ k (.int .i64 (RD.run k (s.take 8)).num)
            have e := filling_set (RD.rows (s.take 8) k) q (RD.run k (s.take 8)).num (by omega)
            rw [hlk] at e
            rw [e] at this
            exact this
          case measure => simp [intOf]; omega
        · obtain rfl : k = q := by omega
          have HB : Hid (Blk wr gq 3 (i64s (RD.rows (s.take 8) k)).toArray) := by
            have : filling (RD.rows (s.take 8) k) k = i64s (RD.rows (s.take 8) k) := by unfold filling; rw [hlk]; simp
            rw [this] at hm
            exact Lib.hid hm
          have HR := Lib.hid (And.intro hr (And.intro ho (And.intro hf hg2)))
          clear hm hr ho hf
          go_wp2
          go_ret
          exact ⟨_, F2, rfl, OwnI.of_blk HB.out hlk hgw hq9, HR.out.1, HR.out.2.1, HR.out.2.2.1, fun j hj => by simp [Value.ownBlock] at hj; rw [← hj]; exact HR.out.2.2.2⟩
end Go.Proofs.Yteghbfkkpnlilaa

/-
  An object as the program's, of its own memory. Conditions: the object reads as it is said to, and is as large as is looked at.
-/
namespace Go.Proofs.Yteghbfkkpnlilaa
open Go.RowKit Go.BigFrame
set_option linter.unusedSimpArgs false
set_option linter.unusedVariables false
set_option maxRecDepth 100000
end Go.Proofs.Yteghbfkkpnlilaa

/-
  Memory while snap.Take reads an object: what a reading leaves, a clone more. No condition but where things lie.
-/
namespace Go.Proofs.Yteghbfkkpnlilaa
open Go.RowKit Go.BigFrame
set_option linter.unusedSimpArgs false
set_option linter.unusedVariables false
set_option maxRecDepth 100000
end Go.Proofs.Yteghbfkkpnlilaa

/-
  snap.Take on a good object's text: that object. Conditions: the numbers are numbers of 64 bits, the text is no more than some millions.
-/
namespace Go.Proofs.Yteghbfkkpnlilaa
open Go.RowKit Go.BigFrame
set_option linter.unusedSimpArgs false
set_option linter.unusedVariables false
set_option maxRecDepth 100000
theorem putV_eq (o : OV) : putV o = (if o.th then 1 else 0) :: ((numB o.dt.length ++ o.dt) ++ (numB o.sq ++ (numB o.cl.length ++ o.cl.flatMap clT))) := by
  unfold putV bytesB
  simp [List.append_assoc]
theorem obj_zero9 (w : World) : (zeroValue 36).run Try.prog w = .ok (.agg #[.bool false, .slice none 0 0, .int .i64 0, .slice none 0 0]) w := by kernel_rfl
theorem clT_eq (c : ClV) (rest : List Nat) : clT c ++ rest = numsB c.sn ++ ((numB c.dt.length ++ c.dt) ++ rest) := by
  unfold clT bytesB
  simp [List.append_assoc]
theorem below_drew9 (w : World) : Below w.heap.size w w.drew := (Below.refl _ w).drew
theorem results_cell_tmp9 {P : Program} {fn : Func} {p q : Tmp} {ty : TypeId} (h : fn.results = #[.cell p ty, .tmp q]) (tmps : Array Value) (w : World) (g : Nat) (t : TypeId) (cs : Array Value) (fr : Nat × Nat) (d : TypeDesc) (v : Value)
    (hp : tmps.getD p undef = .pointer (some ⟨g, 0, none⟩)) (hq : tmps.getD q undef = v) (hg : w.heap[g]? = some (.cells cs t fr))
    (hu : P.underlying ty = some d) (hd : (match d with | .struct _ | .array _ _ => true | _ => false) = true) (hi : (P.info? ty).map (·.size) = some cs.size) :
    (results fn tmps).run P w = .ok (.tuple #[.agg cs, v]) w := by
  have hp' : tmps[p]?.getD undef = .pointer (some ⟨g, 0, none⟩) := by simpa using hp
  have hq' : tmps[q]?.getD undef = v := by simpa using hq
  simp [results, h, hp', hq', asAddr, run_loadVar_row w g t ty cs fr d hg hu hd hi]
theorem u8ofNat_inj {x y : Nat} (hx : x < 256) (hy : y < 256) (h : UInt8.ofNat x = UInt8.ofNat y) : x = y := by
  have := congrArg UInt8.toNat h
  simp at this
  omega
theorem strOf_data (bs : List Nat) : (strOf bs).data.toList = bs.map UInt8.ofNat := by
  simp [strOf, strOfNums]
theorem strOf_inj {a b : List Nat} (ha : ∀ x ∈ a, x < 256) (hb : ∀ x ∈ b, x < 256) (h : strOf a = strOf b) : a = b := by
  have h1 := congrArg (fun s : ByteArray => s.data.toList) h
  simp only [strOf_data] at h1
  have hl : a.length = b.length := by simpa using congrArg List.length h1
  apply List.ext_getElem? 
  intro i
  have h2 := congrArg (fun l => l[i]?) h1
  simp only [List.getElem?_map] at h2
  by_cases hi : i < a.length
  · rw [List.getElem?_eq_getElem hi, List.getElem?_eq_getElem (by omega)] at h2 ⊢
    simp at h2
    rw [u8ofNat_inj (ha _ (List.getElem_mem hi)) (hb _ (List.getElem_mem (by omega))) h2]
  · rw [List.getElem?_eq_none (by omega), List.getElem?_eq_none (by omega)]
theorem equal9 (A A' : Option Addr) (n n' c c' B B' : Nat) (bs bs' : List Nat) (w : World) (h : Bytes w B A n bs) (h' : Bytes w B' A' n' bs') :
    Calls Try.prog 58 #[.slice A n c, .slice A' n' c'] w fun e w' => e = .returned (.bool (bs == bs')) ∧ w = w' := by
  have k1 := str_of (P := Try.prog) h c 22 9 5 Try.underlying22 Try.underlying5 Try.underlying9
  have k2 := str_of (P := Try.prog) h' c' 22 9 5 Try.underlying22 Try.underlying5 Try.underlying9
  have he : ((strOf bs).toList == (strOf bs').toList) = (bs == bs') := by
    rw [Bool.eq_iff_iff, beq_iff_eq, beq_iff_eq, ByteArray.toList_eq, ByteArray.toList_eq]
    exact ⟨fun e => strOf_inj h.2 h'.2 (Go.WideShapes.bytes_inj e), fun e => by rw [e]⟩
  have HE := Lib.hid he
  generalize strOf bs = s1 at *
  generalize strOf bs' = s2 at *
  clear h h' he
  go_enter Try.func58, Try.ntmps58
  go_wp2
  go_ret
  exact ⟨by simp [HE.out], rfl⟩
structure Wide9 (o : OV) : Prop where
  sq : -9223372036854775808 ≤ o.sq ∧ o.sq ≤ 9223372036854775807
  cl : ∀ c ∈ o.cl, c.sn.length ≤ 10000 ∧ (∀ s ∈ c.sn, -9223372036854775808 ≤ s ∧ s ≤ 9223372036854775807) ∧ ∀ b ∈ c.dt, b < 256
end Go.Proofs.Yteghbfkkpnlilaa
