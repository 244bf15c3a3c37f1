/-
  Values of many cells: how a struct of two parts, or a slice of one element, is put together, whatever the cells. No condition but the sizes.
-/
import Derived.Test.YtldnghmgdmjljaaObj
import Derived.Great.FillDense
import Derived.Laws.Tables
import Derived.Great.BuildSlice
import Derived.KernelRfl
import Derived.Deep.WholeRow
namespace Go.Proofs.Ytldnghmgdmjljaa
open Go.RowKit

theorem fill_two (n0 n1 : Nat) (v0 v1 : Value) (z : Array Value) (h0 : v0.cells.size = n0) (h1 : v1.cells.size = n1) (hz : z.size = n0 + n1) :
    Instr.fill (fun k => [(0, n0), (n0, n1)].toArray[k]?) z [(0, v0), (1, v1)] = some (v0.cells ++ v1.cells) := by
  obtain ⟨g1, g2⟩ := Great.foldl_set 0 v0.cells.toList 0 z
  obtain ⟨g3, g4⟩ := Great.foldl_set n0 v1.cells.toList 0 ((v0.cells.toList.zipIdx 0).foldl (fun cs (x : Value × Nat) => cs.setIfInBounds (0 + x.2) x.1) z)
  have e : ∀ (v : Value) (off : Nat) (c : Array Value), v.cells.zipIdx.foldl (fun cs (x : Value × Nat) => cs.setIfInBounds (off + x.2) x.1) c = (v.cells.toList.zipIdx 0).foldl (fun cs (x : Value × Nat) => cs.setIfInBounds (off + x.2) x.1) c := fun v off c => by
    rw [← Array.foldl_toList, Array.toList_zipIdx]
  have hf : Instr.fill (fun k => [(0, n0), (n0, n1)].toArray[k]?) z [(0, v0), (1, v1)] = some (v1.cells.zipIdx.foldl (fun cs (x : Value × Nat) => cs.setIfInBounds (n0 + x.2) x.1) (v0.cells.zipIdx.foldl (fun cs (x : Value × Nat) => cs.setIfInBounds (0 + x.2) x.1) z)) := by
    unfold Instr.fill
    simp only [List.getElem?_toArray, List.getElem?_cons_zero]
    rw [if_neg (by simp; omega)]
    unfold Instr.fill
    simp only [List.getElem?_cons_succ, List.getElem?_cons_zero]
    rw [if_neg (by rw [e, g1]; simp; omega)]
    rfl
  rw [hf, e, e]
  congr 1
  apply Array.ext_getElem?
  intro k
  have g5 : ∀ k, z.size ≤ k → (((v0.cells.toList.zipIdx 0).foldl (fun cs (x : Value × Nat) => cs.setIfInBounds (0 + x.2) x.1) z))[k]? = none := fun k hk => Array.getElem?_eq_none (by omega)
  rw [g4 k, g1]
  simp only [Nat.add_zero, Array.length_toList, h1]
  rw [Array.getElem?_append]
  by_cases hk : k < n0
  · rw [if_neg (by omega), g2 k, if_pos (by simp [h0]; omega), if_pos (by omega)]
    simp
  · by_cases hk2 : k < n0 + n1
    · rw [if_pos ⟨by omega, hk2, by omega⟩, if_neg (by omega), h0]
      simp
    · rw [if_neg (by omega), g5 k (by omega), if_neg (by omega), Array.getElem?_eq_none (by omega)]

/-- what the walk's own 'build' makes of a struct of two parts, the second of one cell: rules for it -/
theorem fold_cells (cs : List Value) (Z : Array Value) (z : Value) (hz : Z.size = cs.length + 1) (hl : Z[cs.length]? = some z) :
    List.foldl (fun (c : Array Value) (x : Value × Nat) => c.setIfInBounds x.snd x.fst) Z cs.zipIdx = (cs ++ [z]).toArray := by
  obtain ⟨g1, g2⟩ := Great.foldl_set 0 cs 0 Z
  simp only [Nat.zero_add] at g1 g2
  apply Array.ext_getElem?
  intro k
  rw [g2 k]
  simp only [List.getElem?_toArray, Nat.zero_le, true_and, Nat.sub_zero]
  by_cases hk : k < cs.length
  · rw [if_pos ⟨hk, by omega⟩, List.getElem?_append_left hk]
  · rw [if_neg (by omega), List.getElem?_append_right (by omega)]
    by_cases he : k = cs.length
    · subst he; simp [hl]
    · rw [Array.getElem?_eq_none (by omega), List.getElem?_eq_none (by simp; omega)]
theorem fold_whole (cs : List Value) (Z : Array Value) (hz : Z.size = cs.length) :
    List.foldl (fun (c : Array Value) (x : Value × Nat) => c.setIfInBounds x.snd x.fst) Z cs.zipIdx = cs.toArray := by
  obtain ⟨g1, g2⟩ := Great.foldl_set 0 cs 0 Z
  simp only [Nat.zero_add] at g1 g2
  apply Array.ext_getElem?
  intro k
  rw [g2 k]
  simp only [List.getElem?_toArray, Nat.zero_le, true_and, Nat.sub_zero]
  by_cases hk : k < cs.length
  · rw [if_pos ⟨hk, by omega⟩]
  · rw [if_neg (by omega), Array.getElem?_eq_none (by omega), List.getElem?_eq_none (by omega)]
theorem set_last (cs : List Value) (n : Nat) (hn : cs.length = n) (z x : Value) : (cs ++ [z]).toArray.setIfInBounds n x = (cs ++ [x]).toArray := by
  subst hn
  apply Array.ext_getElem?
  intro k
  simp only [List.setIfInBounds_toArray, List.getElem?_toArray, List.getElem?_set]
  by_cases hk : cs.length = k
  · subst hk; simp
  · rw [if_neg hk]
    by_cases h2 : k < cs.length
    · rw [List.getElem?_append_left h2, List.getElem?_append_left h2]
    · rw [List.getElem?_append_right (by omega), List.getElem?_append_right (by omega), List.getElem?_eq_none (by simp; omega), List.getElem?_eq_none (by simp; omega)]
/-- a struct of two parts -/
theorem run_build_two {P : Program} {t : TypeId} {n0 n1 : Nat} {fields : Array Field} (hu : P.underlying t = some (.struct fields)) (hz : (P.info? t).bind (fun i => i.zero.map fun z => z.cells.size) = some (n0 + n1))
    (hp : fields.toList.mapM (fun f => (P.info? f.type).map fun i => (f.offset, i.size)) = some [(0, n0), (n0, n1)]) {v0 v1 : Value} (h0 : v0.cells.size = n0) (h1 : v1.cells.size = n1) (w : World) :
    (Instr.build t #[(0, v0), (1, v1)]).run P w = .ok (.agg (v0.cells ++ v1.cells)) w := by
  cases hi : P.info? t with
  | none => simp [hi] at hz
  | some it =>
    cases hz' : it.zero with
    | none => simp [hi, hz'] at hz
    | some z =>
      simp [hi, hz'] at hz
      refine run_build w t _ _ ?_
      unfold Program.built
      simp only [hi, hu, hz', hp]
      exact fill_two n0 n1 v0 v1 z.cells h0 h1 hz

/-- a slice of one element -/
theorem run_buildSlice_one {P : Program} {t e : TypeId} {size : Nat} (hu : P.underlying t = some (.slice e)) (hz : (P.info? e).bind (fun i => i.zero.map fun z => (i.size, z.cells.size)) = some (size, size)) (hs : 0 < size) (hb : size ≤ 16777216) {v : Value} (h0 : v.cells.size = size) (w : World) :
    (Instr.buildSlice t 1 #[(0, v)]).run P w = .ok (.slice (some ⟨w.heap.size, 0, none⟩) 1 1) (w.alloc (.cells v.cells e)) := by
  cases hi : P.info? e with
  | none => simp [hi] at hz
  | some ie =>
    cases hz' : ie.zero with
    | none => simp [hi, hz'] at hz
    | some z =>
      simp [hi, hz'] at hz
      obtain ⟨e1, e2⟩ := hz
      refine run_buildSlice w t e 1 _ _ ie z hu hi hz' (by rw [e1]; omega) (by rw [e1]; omega) ?_
      have := Great.fill_whole hs [v] ((Array.range (1 * ie.size)).map (z.cells[· % z.cells.size]!)) (fun u hu => by simp at hu; subst hu; exact h0) (by simp [e1])
      rw [e1] at this ⊢
      simpa using this
/-- a store of many cells into the variable that was made last -/
theorem wpList_store_new {P : Program} {ops : Array Oper} {rest : List Oper} {o : Oper} {a : Act} {w : World} {Q : Exit → Act → World → Prop} (hgd : o.guard = none) (ty : TypeId) (x y : Operand) (ho : o.op = .store ty x y)
    (cells : List Value) (Z : Array Value) (hx : a.eval x = .pointer (some ⟨w.heap.size, 0, none⟩)) (hy : a.eval y = .agg cells.toArray) (hi : (P.info? ty).map (·.size) = some cells.length) (hz : Z.size = cells.length) (h1 : ∀ v ∈ cells, v.oneCell' = true)
    (h : wpList P ops Q rest (a.put o.dst undef) (w.alloc (.cells cells.toArray ty))) : wpList P ops Q (o :: rest) a (w.alloc (.cells Z ty)) :=
  wpList_plain hgd fun _ hK => by
    have hr := run_storeAt_new (P := P) w ty Z cells.toArray (by simpa using hi) (by simpa using hz) (all_oneCell_toArray h1)
    unfold Oper.wp execOp
    simp only [ho, hx, hy, Sem.run_bind, hr, Result.andThen_ok]
    exact hK _ _ h
/-- the same, the block's number as the walk spells it -/
theorem wpList_store_newN {P : Program} {ops : Array Oper} {rest : List Oper} {o : Oper} {a : Act} {w : World} {Q : Exit → Act → World → Prop} (hgd : o.guard = none) (ty : TypeId) (x y : Operand) (ho : o.op = .store ty x y) (N : Nat) (hN : w.heap.size = N)
    (cells : List Value) (Z : Array Value) (hx : a.eval x = .pointer (some ⟨N, 0, none⟩)) (hy : a.eval y = .agg cells.toArray) (hi : (P.info? ty).map (·.size) = some cells.length) (hz : Z.size = cells.length) (h1 : ∀ v ∈ cells, v.oneCell' = true)
    (h : wpList P ops Q rest (a.put o.dst undef) (w.alloc (.cells cells.toArray ty))) : wpList P ops Q (o :: rest) a (w.alloc (.cells Z ty)) := by
  subst hN
  exact wpList_store_new hgd ty x y ho cells Z hx hy hi hz h1 h
end Go.Proofs.Ytldnghmgdmjljaa
