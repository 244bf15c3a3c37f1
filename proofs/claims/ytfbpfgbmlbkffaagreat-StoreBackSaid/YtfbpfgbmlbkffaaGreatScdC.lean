/-
  A copy of a store. Conditions: the store lies where it is said to.
-/
import Derived.Test.YtfbpfgbmlbkffaaGreatZi
namespace Go.Proofs.YtfbpfgbmlbkffaaGreat
open Go.RowKit Go.BigFrame
set_option linter.unusedSimpArgs false
set_option linter.unusedVariables false
set_option maxRecDepth 100000
theorem run_loadVar_flags (w : World) (p : Addr) (cs : List Value) (hl : cs.length = 8) (hc : ∀ j v, cs[j]? = some v → w.cell? (p.add j) = some v) : (loadVar 31 p).run Tryz.prog w = .ok (.agg cs.toArray) w := by
  have hl : (loadCells p 8).run Tryz.prog w = .ok cs.toArray w := by have := run_loadCells_list (P := Tryz.prog) w p cs hc; rwa [hl] at this
  have hagg : (isAgg 31).run Tryz.prog w = .ok true w := by
    unfold isAgg
    rw [Sem.run_bind, run_underlying Tryz.underlying31 w]
    rfl
  have hi : (Tryz.prog.info? 31).map (·.size) = some 8 := by kernel_rfl
  cases hq : Tryz.prog.info? 31 with
  | none => simp [hq] at hi
  | some i =>
    have hs : i.size = 8 := by simpa [hq] using hi
    simp [loadVar, Sem.run_bind, hagg, sizeOf, typeInfo, hq, hs, hl]
theorem exec_load_flags {a : Act} {o : Oper} {x : Operand} {w : World} {gs ms gp : Nat} {bl : List Bool} (hl : bl.length = 8) (ho : o.op = .load 31 x) (hx : a.eval x = .pointer (some ⟨gs, 1, none⟩)) (h : Blk w gs 67 (stC ms bl gp)) : (execOp a.eval o).run Tryz.prog w = .ok (.value (.agg (bl.map Value.bool).toArray)) w := by
  have hr := run_loadVar_flags w ⟨gs, 1, none⟩ (bl.map Value.bool) (by simpa using hl) (fun j v hj => by
    have : (⟨gs, 1, none⟩ : Addr).add j = ⟨gs, 1 + j, none⟩ := by simp [Addr.add]
    rw [this, h.cell]
    have hj8 := (List.getElem?_eq_some_iff.1 hj).1
    simp only [stC, List.getElem?_toArray]
    rw [Nat.add_comm, List.getElem?_cons_succ, List.getElem?_append_left hj8]
    exact hj)
  unfold execOp
  simp only [ho, hx, Instr.loadAt, Instr.sureAddr, Sem.run_bind, Sem.run_pure, Result.andThen_ok, hr]
/-- what Copy hands back -/
def CopyTo (w : World) (bl fl : List Bool) (kv : KV) (e : Ending) (w' : World) : Prop := ∃ gs ms gp r c A, e = .returned (.pointer (some ⟨gs, 0, none⟩)) ∧ StAt w' gs ms gp r c A bl fl kv ∧ w.heap.size ≤ gs ∧ w.heap.size ≤ ms ∧ w.heap.size ≤ gp ∧ w.heap.size ≤ r ∧ Below w.heap.size w w'
end Go.Proofs.YtfbpfgbmlbkffaaGreat
