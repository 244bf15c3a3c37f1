/-
  A copy of a store. Conditions: the store lies where it is said to.
-/
import Derived.Test.YtncpcemcdmolcaaGreatZi
namespace Go.Proofs.YtncpcemcdmolcaaGreat
open Go.RowKit Go.BigFrame
set_option linter.unusedSimpArgs false
set_option linter.unusedVariables false
set_option maxRecDepth 100000
theorem run_loadVar_flags (w : World) (p : Addr) (cs : List Value) (hl : cs.length = 8) (hc : ∀ j v, cs[j]? = some v → w.cell? (p.add j) = some v) : (loadVar 31 p).run Tryz.prog w = .ok (.agg cs.toArray) w := by
  have hl : (loadCells p 8).run Tryz.prog w = .ok cs.toArray w := by have := run_loadCells_list (P := Tryz.prog) w p cs hc; rwa [hl] at this
  have hagg : (isAgg 31).run Tryz.prog w = .ok true w := by
    unfold isAgg
    rw [Sem.run_bind, run_underlying Tryz.underlying31 w]
    rfl
  have hi : (Tryz.prog.info? 31).map (·.size) = some 8 := by kernel_rfl
  cases hq : Tryz.prog.info? 31 with
  | none => simp [hq] at hi
  | some i =>
    have hs : i.size = 8 := by simpa [hq] using hi
    simp [loadVar, Sem.run_bind, hagg, sizeOf, typeInfo, hq, hs, hl]
theorem exec_load_flags {a : Act} {o : Oper} {x : Operand} {w : World} {gs ms gp : Nat} {bl : List Bool} (hl : bl.length = 8) (ho : o.op = .load 31 x) (hx : a.eval x = .pointer (some ⟨gs, 1, none⟩)) (h : Blk w gs 77 (stC ms bl gp)) : (execOp a.eval o).run Tryz.prog w = .ok (.value (.agg (bl.map Value.bool).toArray)) w := by
  have hr := run_loadVar_flags w ⟨gs, 1, none⟩ (bl.map Value.bool) (by simpa using hl) (fun j v hj => by
    have : (⟨gs, 1, none⟩ : Addr).add j = ⟨gs, 1 + j, none⟩ := by simp [Addr.add]
    rw [this, h.cell]
    have hj8 := (List.getElem?_eq_some_iff.1 hj).1
    simp only [stC, List.getElem?_toArray]
    rw [Nat.add_comm, List.getElem?_cons_succ, List.getElem?_append_left hj8]
    exact hj)
  unfold execOp
  simp only [ho, hx, Instr.loadAt, Instr.sureAddr, Sem.run_bind, Sem.run_pure, Result.andThen_ok, hr]
/-- what Copy hands back -/
def CopyTo (w : World) (bl fl : List Bool) (kv : KV) (e : Ending) (w' : World) : Prop := ∃ gs ms gp r c A, e = .returned (.pointer (some ⟨gs, 0, none⟩)) ∧ StAt w' gs ms gp r c A bl fl kv ∧ w.heap.size ≤ gs ∧ w.heap.size ≤ ms ∧ w.heap.size ≤ gp ∧ w.heap.size ≤ r ∧ Below w.heap.size w w'
set_option maxHeartbeats 4000000 in
theorem stcopy_any {w : World} {gs ms gp r c : Nat} {A : Option Addr} {bl fl : List Bool} {kv : KV} (h : StAt w gs ms gp r c A bl fl kv) :
    Calls Tryz.prog 28 #[.pointer (some ⟨gs, 0, none⟩)] w (CopyTo w bl fl kv) := by
  obtain ⟨b0, b1, b2, b3, b4, b5, b6, b7, rfl⟩ : ∃ b0 b1 b2 b3 b4 b5 b6 b7, bl = [b0, b1, b2, b3, b4, b5, b6, b7] := by
    have hl := h.len
    match bl, hl with
    | [b0, b1, b2, b3, b4, b5, b6, b7], _ => exact ⟨b0, b1, b2, b3, b4, b5, b6, b7, rfl⟩
  have HH := Lib.hid h
  have HC : Hid (∀ w', Blk w' gs 77 (stC ms [b0, b1, b2, b3, b4, b5, b6, b7] gp) → w'.cell? ⟨gs, 0, none⟩ = some (.map (some ms)) ∧ w'.cell? ⟨gs, 9, none⟩ = some (.pointer (some ⟨gp, 0, none⟩))) := Lib.hid fun w' hb => by
    have hl := h.len
    constructor
    · rw [hb.cell]; simp [stC]
    · rw [hb.cell]
      simp only [stC, List.getElem?_toArray]
      rw [List.getElem?_cons_succ, List.getElem?_append_right (by simp [hl])]
      simp [hl]
  clear h
  go_enter Tryz.func28, Tryz.ntmps28
  go_upto_region 3 with (fail)
  have hS : Blk w.drew gs 77 (stC ms [b0, b1, b2, b3, b4, b5, b6, b7] gp) := HH.out.blk.drew
  refine any_beginL (fun w' => Blk w' gs 77 (stC ms [b0, b1, b2, b3, b4, b5, b6, b7] gp)) 16 (by kernel_rfl) ?_
  refine L_take (i := 0) (v := .pointer (some ⟨gs, 0, none⟩)) rfl rfl (by kernel_rfl) (by kernel_rfl) (by kernel_rfl) (by kernel_rfl) (fun _ _ _ h => h) (Or.inl ⟨by rfl, fun w hw => by kernel_rfl⟩) hS ?_
  simp only [Act.put, List.getElem_toArray, List.getElem_cons_succ, List.getElem_cons_zero, List.setIfInBounds_toArray, List.set_cons_zero, List.set_cons_succ]
  refine L_take (i := 1) (v := .pointer (some ⟨gs, 0, none⟩)) rfl rfl (by kernel_rfl) (by kernel_rfl) (by kernel_rfl) (by kernel_rfl) (fun _ _ _ h => h) (Or.inl ⟨by rfl, fun w hw => by kernel_rfl⟩) hS ?_
  simp only [Act.put, List.getElem_toArray, List.getElem_cons_succ, List.getElem_cons_zero, List.setIfInBounds_toArray, List.set_cons_zero, List.set_cons_succ]
  refine L_take (i := 2) (v := .pointer (some ⟨gs, 0, none⟩)) rfl rfl (by kernel_rfl) (by kernel_rfl) (by kernel_rfl) (by kernel_rfl) (fun _ _ _ h => h) (Or.inl ⟨by rfl, fun w hw => by go_simp⟩) hS ?_
  simp only [Act.put, List.getElem_toArray, List.getElem_cons_succ, List.getElem_cons_zero, List.setIfInBounds_toArray, List.set_cons_zero, List.set_cons_succ]
  refine L_take (i := 3) (v := .map (some ms)) rfl rfl (by kernel_rfl) (by kernel_rfl) (by kernel_rfl) (by kernel_rfl) (fun _ _ _ h => h) (Or.inl ⟨by rfl, fun w hw => by have q := (HC.out w hw).1; go_simp⟩) hS ?_
  simp only [Act.put, List.getElem_toArray, List.getElem_cons_succ, List.getElem_cons_zero, List.setIfInBounds_toArray, List.set_cons_zero, List.set_cons_succ]
  refine L_take (i := 5) (v := .pointer (some ⟨gs, 0, none⟩)) rfl rfl (by kernel_rfl) (by kernel_rfl) (by kernel_rfl) (by kernel_rfl) (fun _ _ _ h => h) (Or.inl ⟨by rfl, fun w hw => by kernel_rfl⟩) hS ?_
  simp only [Act.put, List.getElem_toArray, List.getElem_cons_succ, List.getElem_cons_zero, List.setIfInBounds_toArray, List.set_cons_zero, List.set_cons_succ]
  refine L_take (i := 6) (v := .pointer (some ⟨gs, 0, none⟩)) rfl rfl (by kernel_rfl) (by kernel_rfl) (by kernel_rfl) (by kernel_rfl) (fun _ _ _ h => h) (Or.inl ⟨by rfl, fun w hw => by kernel_rfl⟩) hS ?_
  simp only [Act.put, List.getElem_toArray, List.getElem_cons_succ, List.getElem_cons_zero, List.setIfInBounds_toArray, List.set_cons_zero, List.set_cons_succ]
  refine L_take (i := 7) (v := .pointer (some ⟨gs, 1, none⟩)) rfl rfl (by kernel_rfl) (by kernel_rfl) (by kernel_rfl) (by kernel_rfl) (fun _ _ _ h => h) (Or.inl ⟨by rfl, fun w hw => by go_simp⟩) hS ?_
  simp only [Act.put, List.getElem_toArray, List.getElem_cons_succ, List.getElem_cons_zero, List.setIfInBounds_toArray, List.set_cons_zero, List.set_cons_succ]
  refine L_take (i := 8) (v := .agg ([b0, b1, b2, b3, b4, b5, b6, b7].map Value.bool).toArray) rfl rfl (by kernel_rfl) (by kernel_rfl) (by kernel_rfl) (by kernel_rfl) (fun _ _ _ h => h) (Or.inl ⟨by rfl, fun w hw => by exact exec_load_flags HH.out.len rfl rfl hw⟩) hS ?_
  simp only [Act.put, List.getElem_toArray, List.getElem_cons_succ, List.getElem_cons_zero, List.setIfInBounds_toArray, List.set_cons_zero, List.set_cons_succ]
  refine L_take (i := 9) (v := .pointer (some ⟨gs, 0, none⟩)) rfl rfl (by kernel_rfl) (by kernel_rfl) (by kernel_rfl) (by kernel_rfl) (fun _ _ _ h => h) (Or.inl ⟨by rfl, fun w hw => by kernel_rfl⟩) hS ?_
  simp only [Act.put, List.getElem_toArray, List.getElem_cons_succ, List.getElem_cons_zero, List.setIfInBounds_toArray, List.set_cons_zero, List.set_cons_succ]
  refine L_take (i := 10) (v := .pointer (some ⟨gs, 0, none⟩)) rfl rfl (by kernel_rfl) (by kernel_rfl) (by kernel_rfl) (by kernel_rfl) (fun _ _ _ h => h) (Or.inl ⟨by rfl, fun w hw => by kernel_rfl⟩) hS ?_
  simp only [Act.put, List.getElem_toArray, List.getElem_cons_succ, List.getElem_cons_zero, List.setIfInBounds_toArray, List.set_cons_zero, List.set_cons_succ]
  refine L_take (i := 11) (v := .pointer (some ⟨gs, 9, none⟩)) rfl rfl (by kernel_rfl) (by kernel_rfl) (by kernel_rfl) (by kernel_rfl) (fun _ _ _ h => h) (Or.inl ⟨by rfl, fun w hw => by go_simp⟩) hS ?_
  simp only [Act.put, List.getElem_toArray, List.getElem_cons_succ, List.getElem_cons_zero, List.setIfInBounds_toArray, List.set_cons_zero, List.set_cons_succ]
  refine L_take (i := 12) (v := .pointer (some ⟨gp, 0, none⟩)) rfl rfl (by kernel_rfl) (by kernel_rfl) (by kernel_rfl) (by kernel_rfl) (fun _ _ _ h => h) (Or.inl ⟨by rfl, fun w hw => by have q := (HC.out w hw).2; go_simp⟩) hS ?_
  simp only [Act.put, List.getElem_toArray, List.getElem_cons_succ, List.getElem_cons_zero, List.setIfInBounds_toArray, List.set_cons_zero, List.set_cons_succ]
  refine L_one (j := 4) (by kernel_rfl) rfl (by rfl) ?_
  simp only [Act.put, List.getElem_toArray, List.getElem_cons_succ, List.getElem_cons_zero, List.setIfInBounds_toArray, List.set_cons_zero, List.set_cons_succ]
  have hb0 : Below w.heap.size w w.drew := drawn_below (Below.refl _ _) 1
  have h0 := HH.out.below hb0
  refine wp_called (by kernel_rfl) (omclone_any h0.map) ?_
  rintro e w1 ⟨rfl, hm1, hb1⟩
  have h1 := h0.below hb1
  refine ⟨_, rfl, h1.blk, ?_⟩
  simp only [Act.put, List.getElem_toArray, List.getElem_cons_succ, List.getElem_cons_zero, List.setIfInBounds_toArray, List.set_cons_zero, List.set_cons_succ]
  refine L_one (j := 13) (by kernel_rfl) rfl (by rfl) ?_
  simp only [Act.put, List.getElem_toArray, List.getElem_cons_succ, List.getElem_cons_zero, List.setIfInBounds_toArray, List.set_cons_zero, List.set_cons_succ]
  refine wp_called (by kernel_rfl) (scopy_any h1.sp) ?_
  rintro e w2 ⟨p, rfl, g2, r2, A2, c2, rfl, hs2, hne2, hg2, hr2, hb2⟩
  have h2 := h1.below hb2
  refine ⟨_, rfl, h2.blk, ?_⟩
  simp only [Act.put, List.getElem_toArray, List.getElem_cons_succ, List.getElem_cons_zero, List.setIfInBounds_toArray, List.set_cons_zero, List.set_cons_succ]
  refine L_one (j := 14) (by kernel_rfl) rfl (by rfl) ?_
  simp only [Act.put, List.getElem_toArray, List.getElem_cons_succ, List.getElem_cons_zero, List.setIfInBounds_toArray, List.set_cons_zero, List.set_cons_succ]
  refine wp_ran (v := .agg (stC w.drew.heap.size [b0, b1, b2, b3, b4, b5, b6, b7] g2)) (w' := w2) (by kernel_rfl) ⟨h2.blk, ?_⟩
  simp only [Act.put, List.getElem_toArray, List.getElem_cons_succ, List.getElem_cons_zero, List.setIfInBounds_toArray, List.set_cons_zero, List.set_cons_succ]
  refine L_one (j := 15) (by kernel_rfl) rfl (by rfl) ?_
  simp only [Act.put, List.getElem_toArray, List.getElem_cons_succ, List.getElem_cons_zero, List.setIfInBounds_toArray, List.set_cons_zero, List.set_cons_succ]
  have hz0 : w.drew.heap.size = w.heap.size := rfl
  have hz1 := hb1.size
  have hz2 := hb2.size
  have hb3 : Below w2.heap.size w2 (w2.alloc (.cells (stC w.drew.heap.size [b0, b1, b2, b3, b4, b5, b6, b7] g2) 77)) := (Below.refl _ _).alloc (Nat.le_refl _) _
  have K3 := Blk.new w2 77 (stC w.drew.heap.size [b0, b1, b2, b3, b4, b5, b6, b7] g2)
  refine wp_ran (v := .pointer (some ⟨w2.heap.size, 0, none⟩)) (w' := w2.alloc (.cells (stC w.drew.heap.size [b0, b1, b2, b3, b4, b5, b6, b7] g2) 77)) (by kernel_rfl) ⟨(h2.below hb3).blk, ?_⟩
  simp only [Act.put, List.getElem_toArray, List.getElem_cons_succ, List.getElem_cons_zero, List.setIfInBounds_toArray, List.set_cons_zero, List.set_cons_succ]
  have hfin : CopyTo w [b0, b1, b2, b3, b4, b5, b6, b7] fl kv (.returned (.pointer (some ⟨w2.heap.size, 0, none⟩))) (w2.alloc (.cells (stC w.drew.heap.size [b0, b1, b2, b3, b4, b5, b6, b7] g2) 77)) := by
    have hm3 := (hm1.of (hb2.block _ hm1.lt)).of (hb3.block _ (hm1.of (hb2.block _ hm1.lt)).lt)
    have hsp := hs2.of (hb3.block _ hs2.blk.lt) (fun _ _ hx => hb3.block _ hx.lt)
    have hb01 : Below w.heap.size w w1 := below_drew' (w := w) (hb1.mono (by omega))
    exact ⟨_, w.drew.heap.size, g2, r2, c2, A2, rfl, ⟨K3, HH.out.len, hm3, hsp, hne2⟩, by omega, by omega, by omega, by omega, (hb01.trans (hb2.mono (by omega))).trans (hb3.mono (by omega))⟩
  have HFIN := Lib.hid hfin
  clear hfin hb3 K3 h2 hb2 hs2 hne2 hg2 hr2 h1 hb1 hm1 h0 hb0 HH HC hS
  refine L_last (by kernel_rfl) rfl (by rfl) (by kernel_rfl) ?_
  simp only [Act.put, List.getElem_toArray, List.getElem_cons_succ, List.getElem_cons_zero, List.setIfInBounds_toArray, List.set_cons_zero, List.set_cons_succ]
  refine wp_ran (v := .pointer (some ⟨w2.heap.size, 0, none⟩)) (w' := w2.alloc (.cells (stC w.drew.heap.size [b0, b1, b2, b3, b4, b5, b6, b7] g2) 77)) (by kernel_rfl) ?_
  refine NoPanic.normal ?_
  simp only [Act.put, List.getElem_toArray, List.getElem_cons_succ, List.getElem_cons_zero, List.setIfInBounds_toArray, List.set_cons_zero, List.set_cons_succ]
  generalize w2.alloc (.cells (stC w.drew.heap.size [b0, b1, b2, b3, b4, b5, b6, b7] g2) 77) = w3 at HFIN ⊢
  generalize w2.heap.size = g3 at HFIN ⊢
  go_wp2
  go_ret
  exact HFIN.out
end Go.Proofs.YtncpcemcdmolcaaGreat
