/-
  Bytes are written into an object's head. Conditions: the object lies where it is said to; the bytes read as they are said to.
-/
import Derived.Test.YtjepfeagbiceoaaQm
namespace Go.Proofs.Ytjepfeagbiceoaa
open Go.RowKit Go.BigFrame
set_option linter.unusedSimpArgs false
set_option linter.unusedVariables false
set_option maxRecDepth 100000
/-- what grow comes to -/
def GrowTo (w : World) (g base : Nat) (q : OA) (n : Nat) (e : Ending) (w' : World) : Prop := e = .returned (.tuple #[]) ∧ ∃ (D' : Option Addr) (c' : Nat), Blk w' g 36 #[.bool q.th, .slice D' (q.dt ++ List.replicate (n - q.dt.length) 0).length c', .int .i64 q.sq, .slice q.C q.cl.length q.cc] ∧ Own w' base (.slice D' (q.dt ++ List.replicate (n - q.dt.length) 0).length c') (q.dt ++ List.replicate (n - q.dt.length) 0).length (q.dt ++ List.replicate (n - q.dt.length) 0) ∧ Only (g :: rowOf (.slice q.D 0 0)) w w' ∧ ∀ k ∈ rowOf (.slice D' 0 0), k ∈ rowOf (.slice q.D 0 0) ∨ w.heap.size ≤ k
set_option maxHeartbeats 4000000 in
theorem grow_any {w : World} {g base n : Nat} (q : OA) (K : Blk w g 36 q.cs) (hN : q.N w base) (hS : q.dt.length ≤ 10000) (hb : base ≤ w.heap.size) (hn : n ≤ 100000) : Calls Try.prog 75 #[.pointer (some ⟨g, 0, none⟩), .int .i64 (n : Int)] w (GrowTo w g base q n) := by
  have hown := hN.dt
  obtain ⟨-, hl, hmc, hD⟩ := own_len hown
  obtain ⟨m, hm⟩ : ∃ m, m = q.dt.length := ⟨_, rfl⟩
  obtain ⟨kk, hkk⟩ : ∃ kk, kk = n - m := ⟨_, rfl⟩
  have happ : ∃ (D1 : Option Addr) (c1 : Nat) (w1 : World), (Builtin.append_ #[22, 3] 22 #[.slice q.D m q.cd, .int .i64 (kk : Int)]).run Try.prog w.drew = .ok (.slice D1 (m + kk) c1) w1 ∧ Own w1 base (.slice D1 (m + kk) c1) (m + kk) (q.dt ++ List.replicate kk 0) ∧ w.drew.grownBy w1 (Value.slice q.D m q.cd).ownBlock ∧ ((Value.slice D1 (m + kk) c1).ownBlock = (Value.slice q.D m q.cd).ownBlock ∨ (Value.slice D1 (m + kk) c1).ownBlock = some w.heap.size) := by
    rw [← hm] at hown
    rcases Nat.eq_zero_or_pos kk with h0 | h0
    · rw [h0]
      refine ⟨q.D, q.cd, w.drew, run_zeros_none (w := w.drew) hown _, ?_, World.grownBy.refl _ _, .inl rfl⟩
      simpa using hown.drew
    · have hz : u8s q.dt ++ List.replicate kk (Value.int .u8 0) = u8s (q.dt ++ List.replicate kk 0) := by simp [u8s, u8]
      obtain ⟨v', w1, hrun, ho1, hg1, hv1⟩ := run_zeros_own (w := w.drew) (k := kk) hown h0 (by omega) hb 22
      rw [hz] at ho1
      obtain ⟨D1, c1, rfl, -⟩ := Own.form (show Own w1 base v' (m + kk) (q.dt ++ List.replicate kk 0) from ho1)
      exact ⟨D1, c1, w1, hrun, ho1, hg1, hv1⟩
  obtain ⟨D1, c1, w1, hrun, ho1, hg1, hv1⟩ := happ
  have hlen : (q.dt ++ List.replicate (n - q.dt.length) 0).length = m + kk := by rw [hkk, hm]; simp
  have hrowD : (Value.slice q.D m q.cd).ownBlock = (Value.slice q.D 0 0).ownBlock := by cases q.D <;> rfl
  have hrow1 : (Value.slice D1 (m + kk) c1).ownBlock = (Value.slice D1 0 0).ownBlock := by cases D1 <;> rfl
  rw [hrowD] at hg1 hv1
  rw [hrow1] at hv1
  have hoD := OA.P.dU hN
  have K1 : Blk w1 g 36 #[.bool q.th, .slice q.D q.dt.length q.cd, .int .i64 q.sq, .slice q.C q.cl.length q.cc] := (K.drew).grown hg1 (fun e => by
    obtain ⟨_, _, cs, hbb⟩ := hoD g (mem_rowOf.2 e.symm)
    exact hbb.ne_ K (by decide) rfl)
  have hon1 : Only (g :: rowOf (.slice q.D 0 0)) w w1 := ((Only.refl _ w).drew).grown hg1 (fun k e => .inl (by simp [mem_rowOf.2 e]))
  have HFIN : Hid (∀ w2, Blk w2 g 36 (#[.bool q.th, .slice q.D m q.cd, .int .i64 q.sq, .slice q.C q.cl.length q.cc].setIfInBounds 1 (.slice D1 (m + kk) c1)) → Only [g] w1 w2 → GrowTo w g base q n (.returned (.tuple #[])) w2) := Lib.hid fun w2 K2 ho2 => by
    refine ⟨rfl, D1, c1, ?_, ?_, hon1.trans ho2 (fun k hk => .inl (by simp at hk; simp [hk])), fun k hk => ?_⟩
    · rw [hlen]; simpa using K2
    · rw [hlen]
      have e : q.dt ++ List.replicate (n - q.dt.length) 0 = q.dt ++ List.replicate kk 0 := by rw [hkk, hm]
      rw [e]
      exact row_of ho1 fun k hk => ho2.block k (row_under ho1 k hk) (fun hm => by simp at hm; subst hm; obtain ⟨cs, hbb⟩ := own_ty ho1 hk; exact hbb.ne_ K1 (by decide) rfl)
    · rcases hv1 with e | e
      · left; rw [mem_rowOf] at hk ⊢; rw [← e]; exact hk
      · right
        rw [mem_rowOf, e] at hk
        injection hk with hk
        omega
  have HRUN := Lib.hid (And.intro hrun K1)
  have HKK := Lib.hid hkk
  have hC : ∀ w' : World, Blk w' g 36 #[.bool q.th, .slice q.D m q.cd, .int .i64 q.sq, .slice q.C q.cl.length q.cc] → w'.cell? ⟨g, 1, none⟩ = some (.slice q.D m q.cd) := fun w' h => h.cell 1
  have HC := Lib.hid hC
  have hS7 : Blk w.drew g 36 #[.bool q.th, .slice q.D m q.cd, .int .i64 q.sq, .slice q.C q.cl.length q.cc] := by rw [hm]; exact K.drew
  have hwd : IntKind.i64.wrap ((n : Int) - (m : Int)) = (n : Int) - (m : Int) := by rw [IntKind.wrap_i64]; omega
  have K1' : Blk w1 g 36 #[.bool q.th, .slice q.D m q.cd, .int .i64 q.sq, .slice q.C q.cl.length q.cc] := by rw [hm]; exact K1
  have HK1 := Lib.hid K1'
  clear hown hmc hD hrun ho1 hg1 hv1 hlen hrowD hrow1 hoD K1 hon1 hC K hN hm hl K1'
  go_enter Try.func75, Try.ntmps75
  go_upto_region 0 with (fail)
  refine any_beginL (fun w' => Blk w' g 36 #[.bool q.th, .slice q.D m q.cd, .int .i64 q.sq, .slice q.C q.cl.length q.cc]) 16 (by kernel_rfl) ?_
  refine L_take (i := 0) (v := .pointer (some ⟨g, 0, none⟩)) rfl rfl (by kernel_rfl) (by kernel_rfl) (by kernel_rfl) (by kernel_rfl) (fun _ _ _ h => h) (Or.inl ⟨by rfl, fun w hw => by kernel_rfl⟩) hS7 ?_
  simp only [Act.put, List.getElem_toArray, List.getElem_cons_succ, List.getElem_cons_zero, List.setIfInBounds_toArray, List.set_cons_zero, List.set_cons_succ]
  refine L_take (i := 1) (v := .pointer (some ⟨g, 0, none⟩)) rfl rfl (by kernel_rfl) (by kernel_rfl) (by kernel_rfl) (by kernel_rfl) (fun _ _ _ h => h) (Or.inl ⟨by rfl, fun w hw => by kernel_rfl⟩) hS7 ?_
  simp only [Act.put, List.getElem_toArray, List.getElem_cons_succ, List.getElem_cons_zero, List.setIfInBounds_toArray, List.set_cons_zero, List.set_cons_succ]
  refine L_take (i := 2) (v := .pointer (some ⟨g, 0, none⟩)) rfl rfl (by kernel_rfl) (by kernel_rfl) (by kernel_rfl) (by kernel_rfl) (fun _ _ _ h => h) (Or.inl ⟨by rfl, fun w hw => by kernel_rfl⟩) hS7 ?_
  simp only [Act.put, List.getElem_toArray, List.getElem_cons_succ, List.getElem_cons_zero, List.setIfInBounds_toArray, List.set_cons_zero, List.set_cons_succ]
  refine L_take (i := 3) (v := .pointer (some ⟨g, 1, none⟩)) rfl rfl (by kernel_rfl) (by kernel_rfl) (by kernel_rfl) (by kernel_rfl) (fun _ _ _ h => h) (Or.inl ⟨by rfl, fun w hw => by go_simp⟩) hS7 ?_
  simp only [Act.put, List.getElem_toArray, List.getElem_cons_succ, List.getElem_cons_zero, List.setIfInBounds_toArray, List.set_cons_zero, List.set_cons_succ]
  refine L_take (i := 4) (v := .slice q.D m q.cd) rfl rfl (by kernel_rfl) (by kernel_rfl) (by kernel_rfl) (by kernel_rfl) (fun _ _ _ h => h) (Or.inl ⟨by rfl, fun w hw => by have q1 := HC.out w hw; go_simp⟩) hS7 ?_
  simp only [Act.put, List.getElem_toArray, List.getElem_cons_succ, List.getElem_cons_zero, List.setIfInBounds_toArray, List.set_cons_zero, List.set_cons_succ]
  refine L_take (i := 5) (v := .int .i64 (n : Int)) rfl rfl (by kernel_rfl) (by kernel_rfl) (by kernel_rfl) (by kernel_rfl) (fun _ _ _ h => h) (Or.inl ⟨by rfl, fun w hw => by kernel_rfl⟩) hS7 ?_
  simp only [Act.put, List.getElem_toArray, List.getElem_cons_succ, List.getElem_cons_zero, List.setIfInBounds_toArray, List.set_cons_zero, List.set_cons_succ]
  refine L_take (i := 6) (v := .pointer (some ⟨g, 0, none⟩)) rfl rfl (by kernel_rfl) (by kernel_rfl) (by kernel_rfl) (by kernel_rfl) (fun _ _ _ h => h) (Or.inl ⟨by rfl, fun w hw => by kernel_rfl⟩) hS7 ?_
  simp only [Act.put, List.getElem_toArray, List.getElem_cons_succ, List.getElem_cons_zero, List.setIfInBounds_toArray, List.set_cons_zero, List.set_cons_succ]
  refine L_take (i := 7) (v := .pointer (some ⟨g, 0, none⟩)) rfl rfl (by kernel_rfl) (by kernel_rfl) (by kernel_rfl) (by kernel_rfl) (fun _ _ _ h => h) (Or.inl ⟨by rfl, fun w hw => by kernel_rfl⟩) hS7 ?_
  simp only [Act.put, List.getElem_toArray, List.getElem_cons_succ, List.getElem_cons_zero, List.setIfInBounds_toArray, List.set_cons_zero, List.set_cons_succ]
  refine L_take (i := 8) (v := .pointer (some ⟨g, 1, none⟩)) rfl rfl (by kernel_rfl) (by kernel_rfl) (by kernel_rfl) (by kernel_rfl) (fun _ _ _ h => h) (Or.inl ⟨by rfl, fun w hw => by go_simp⟩) hS7 ?_
  simp only [Act.put, List.getElem_toArray, List.getElem_cons_succ, List.getElem_cons_zero, List.setIfInBounds_toArray, List.set_cons_zero, List.set_cons_succ]
  refine L_take (i := 9) (v := .slice q.D m q.cd) rfl rfl (by kernel_rfl) (by kernel_rfl) (by kernel_rfl) (by kernel_rfl) (fun _ _ _ h => h) (Or.inl ⟨by rfl, fun w hw => by have q1 := HC.out w hw; go_simp⟩) hS7 ?_
  simp only [Act.put, List.getElem_toArray, List.getElem_cons_succ, List.getElem_cons_zero, List.setIfInBounds_toArray, List.set_cons_zero, List.set_cons_succ]
  refine L_take (i := 10) (v := .int .i64 (m : Int)) rfl rfl (by kernel_rfl) (by kernel_rfl) (by kernel_rfl) (by kernel_rfl) (fun _ _ _ h => h) (Or.inl ⟨by rfl, fun w hw => by go_simp⟩) hS7 ?_
  simp only [Act.put, List.getElem_toArray, List.getElem_cons_succ, List.getElem_cons_zero, List.setIfInBounds_toArray, List.set_cons_zero, List.set_cons_succ]
  refine L_take (i := 11) (v := .int .i64 ((n : Int) - (m : Int))) rfl rfl (by kernel_rfl) (by kernel_rfl) (by kernel_rfl) (by kernel_rfl) (fun _ _ _ h => h) (Or.inl ⟨by rfl, fun w hw => by go_simp⟩) hS7 ?_
  simp only [Act.put, List.getElem_toArray, List.getElem_cons_succ, List.getElem_cons_zero, List.setIfInBounds_toArray, List.set_cons_zero, List.set_cons_succ]
  refine L_take (i := 12) (v := .int .i64 (kk : Int)) rfl rfl (by kernel_rfl) (by kernel_rfl) (by kernel_rfl) (by kernel_rfl) (fun _ _ _ h => h) (Or.inl ⟨by rfl, fun w hw => by
    by_cases hnm : n ≤ m
    · have hz : kk = 0 := by omega
      clear hkk HKK
      subst hz
      have hd : decide ((0 : Int) < (n : Int) - (m : Int)) = false := decide_eq_false (by omega)
      go_simp <;> omega
    · have hd : decide ((0 : Int) < (n : Int) - (m : Int)) = true := decide_eq_true (by omega)
      go_simp <;> omega⟩) hS7 ?_
  simp only [Act.put, List.getElem_toArray, List.getElem_cons_succ, List.getElem_cons_zero, List.setIfInBounds_toArray, List.set_cons_zero, List.set_cons_succ]
  refine L_one (j := 13) (by kernel_rfl) rfl (by rfl) ?_
  simp only [Act.put, List.getElem_toArray, List.getElem_cons_succ, List.getElem_cons_zero, List.setIfInBounds_toArray, List.set_cons_zero, List.set_cons_succ]
  refine Lib.wp_append_run w.drew (.tmp 8) (.tmp 16) 22 3 rfl (.slice q.D m q.cd) (.int .i64 (kk : Int)) rfl rfl (.slice D1 (m + kk) c1) w1 HRUN.out.1 ?_
  refine ⟨HK1.out, ?_⟩
  simp only [Act.put, List.getElem_toArray, List.getElem_cons_succ, List.getElem_cons_zero, List.setIfInBounds_toArray, List.set_cons_zero, List.set_cons_succ]
  refine L_one (j := 14) (by kernel_rfl) rfl (by rfl) ?_
  simp only [Act.put, List.getElem_toArray, List.getElem_cons_succ, List.getElem_cons_zero, List.setIfInBounds_toArray, List.set_cons_zero, List.set_cons_succ]
  refine wp_ran (v := .pointer (some ⟨g, 0, none⟩)) (w' := w1) (by kernel_rfl) ⟨HK1.out, ?_⟩
  simp only [Act.put, List.getElem_toArray, List.getElem_cons_succ, List.getElem_cons_zero, List.setIfInBounds_toArray, List.set_cons_zero, List.set_cons_succ]
  refine L_one (j := 15) (by kernel_rfl) rfl (by rfl) ?_
  simp only [Act.put, List.getElem_toArray, List.getElem_cons_succ, List.getElem_cons_zero, List.setIfInBounds_toArray, List.set_cons_zero, List.set_cons_succ]
  refine wp_ran (v := .pointer (some ⟨g, 1, none⟩)) (w' := w1) (by go_simp) ⟨HK1.out, ?_⟩
  simp only [Act.put, List.getElem_toArray, List.getElem_cons_succ, List.getElem_cons_zero, List.setIfInBounds_toArray, List.set_cons_zero, List.set_cons_succ]
  refine L_last (by kernel_rfl) rfl (by rfl) (by kernel_rfl) ?_
  simp only [Act.put, List.getElem_toArray, List.getElem_cons_succ, List.getElem_cons_zero, List.setIfInBounds_toArray, List.set_cons_zero, List.set_cons_succ]
  refine wp_setq 22 (.tmp 19) (.tmp 17) rfl g 1 36 _ (.slice D1 (m + kk) c1) rfl rfl HK1.out (by simp) (by kernel_rfl) rfl ?_
  intro w2 K2 ho2 hs2
  refine NoPanic.normal ?_
  simp only [Act.put, List.getElem_toArray, List.getElem_cons_succ, List.getElem_cons_zero, List.setIfInBounds_toArray, List.set_cons_zero, List.set_cons_succ]
  have HF2 := Lib.hid (HFIN.out w2 K2 ho2)
  clear K2 ho2 hs2 hS7 HC
  go_wp2
  refine bodyPost_end (results_none rfl _ _ _) rfl ?_
  exact HF2.out
end Go.Proofs.Ytjepfeagbiceoaa
