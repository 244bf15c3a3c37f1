/-
  Values of many cells: how a struct of two parts, or a slice of one element, is put together, whatever the cells. No condition but the sizes.
-/
import Derived.Test.YtcbpdalfindmgaaZa
import Derived.Great.FillDense
import Derived.Laws.Tables
import Derived.Great.BuildSlice
import Derived.KernelRfl
import Derived.Deep.WholeRow
import Derived.RegionTactic
import Derived.Deep.RegionHeld3
import Derived.Lib.ConvBytes
import Derived.Laws.CopyOwn

namespace Go.Proofs.Ytcbpdalfindmgaa
open Go.RowKit

theorem fill_two (n0 n1 : Nat) (v0 v1 : Value) (z : Array Value) (h0 : v0.cells.size = n0) (h1 : v1.cells.size = n1) (hz : z.size = n0 + n1) :
    Instr.fill (fun k => [(0, n0), (n0, n1)].toArray[k]?) z [(0, v0), (1, v1)] = some (v0.cells ++ v1.cells) := by
  obtain ⟨g1, g2⟩ := Great.foldl_set 0 v0.cells.toList 0 z
  obtain ⟨g3, g4⟩ := Great.foldl_set n0 v1.cells.toList 0 ((v0.cells.toList.zipIdx 0).foldl (fun cs (x : Value × Nat) => cs.setIfInBounds (0 + x.2) x.1) z)
  have e : ∀ (v : Value) (off : Nat) (c : Array Value), v.cells.zipIdx.foldl (fun cs (x : Value × Nat) => cs.setIfInBounds (off + x.2) x.1) c = (v.cells.toList.zipIdx 0).foldl (fun cs (x : Value × Nat) => cs.setIfInBounds (off + x.2) x.1) c := fun v off c => by
    rw [← Array.foldl_toList, Array.toList_zipIdx]
  have hf : Instr.fill (fun k => [(0, n0), (n0, n1)].toArray[k]?) z [(0, v0), (1, v1)] = some (v1.cells.zipIdx.foldl (fun cs (x : Value × Nat) => cs.setIfInBounds (n0 + x.2) x.1) (v0.cells.zipIdx.foldl (fun cs (x : Value × Nat) => cs.setIfInBounds (0 + x.2) x.1) z)) := by
    unfold Instr.fill
    simp only [List.getElem?_toArray, List.getElem?_cons_zero]
    rw [if_neg (by simp; omega)]
    unfold Instr.fill
    simp only [List.getElem?_cons_succ, List.getElem?_cons_zero]
    rw [if_neg (by rw [e, g1]; simp; omega)]
    rfl
  rw [hf, e, e]
  congr 1
  apply Array.ext_getElem?
  intro k
  have g5 : ∀ k, z.size ≤ k → (((v0.cells.toList.zipIdx 0).foldl (fun cs (x : Value × Nat) => cs.setIfInBounds (0 + x.2) x.1) z))[k]? = none := fun k hk => Array.getElem?_eq_none (by omega)
  rw [g4 k, g1]
  simp only [Nat.add_zero, Array.length_toList, h1]
  rw [Array.getElem?_append]
  by_cases hk : k < n0
  · rw [if_neg (by omega), g2 k, if_pos (by simp [h0]; omega), if_pos (by omega)]
    simp
  · by_cases hk2 : k < n0 + n1
    · rw [if_pos ⟨by omega, hk2, by omega⟩, if_neg (by omega), h0]
      simp
    · rw [if_neg (by omega), g5 k (by omega), if_neg (by omega), Array.getElem?_eq_none (by omega)]

/-- what the walk's own 'build' makes of a struct of two parts, the second of one cell: rules for it -/
theorem fold_cells (cs : List Value) (Z : Array Value) (z : Value) (hz : Z.size = cs.length + 1) (hl : Z[cs.length]? = some z) :
    List.foldl (fun (c : Array Value) (x : Value × Nat) => c.setIfInBounds x.snd x.fst) Z cs.zipIdx = (cs ++ [z]).toArray := by
  obtain ⟨g1, g2⟩ := Great.foldl_set 0 cs 0 Z
  simp only [Nat.zero_add] at g1 g2
  apply Array.ext_getElem?
  intro k
  rw [g2 k]
  simp only [List.getElem?_toArray, Nat.zero_le, true_and, Nat.sub_zero]
  by_cases hk : k < cs.length
  · rw [if_pos ⟨hk, by omega⟩, List.getElem?_append_left hk]
  · rw [if_neg (by omega), List.getElem?_append_right (by omega)]
    by_cases he : k = cs.length
    · subst he; simp [hl]
    · rw [Array.getElem?_eq_none (by omega), List.getElem?_eq_none (by simp; omega)]
theorem fold_whole (cs : List Value) (Z : Array Value) (hz : Z.size = cs.length) :
    List.foldl (fun (c : Array Value) (x : Value × Nat) => c.setIfInBounds x.snd x.fst) Z cs.zipIdx = cs.toArray := by
  obtain ⟨g1, g2⟩ := Great.foldl_set 0 cs 0 Z
  simp only [Nat.zero_add] at g1 g2
  apply Array.ext_getElem?
  intro k
  rw [g2 k]
  simp only [List.getElem?_toArray, Nat.zero_le, true_and, Nat.sub_zero]
  by_cases hk : k < cs.length
  · rw [if_pos ⟨hk, by omega⟩]
  · rw [if_neg (by omega), Array.getElem?_eq_none (by omega), List.getElem?_eq_none (by omega)]
theorem set_last (cs : List Value) (n : Nat) (hn : cs.length = n) (z x : Value) : (cs ++ [z]).toArray.setIfInBounds n x = (cs ++ [x]).toArray := by
  subst hn
  apply Array.ext_getElem?
  intro k
  simp only [List.setIfInBounds_toArray, List.getElem?_toArray, List.getElem?_set]
  by_cases hk : cs.length = k
  · subst hk; simp
  · rw [if_neg hk]
    by_cases h2 : k < cs.length
    · rw [List.getElem?_append_left h2, List.getElem?_append_left h2]
    · rw [List.getElem?_append_right (by omega), List.getElem?_append_right (by omega), List.getElem?_eq_none (by simp; omega), List.getElem?_eq_none (by simp; omega)]
/-- a struct of two parts -/
theorem run_build_two {P : Program} {t : TypeId} {n0 n1 : Nat} {fields : Array Field} (hu : P.underlying t = some (.struct fields)) (hz : (P.info? t).bind (fun i => i.zero.map fun z => z.cells.size) = some (n0 + n1))
    (hp : fields.toList.mapM (fun f => (P.info? f.type).map fun i => (f.offset, i.size)) = some [(0, n0), (n0, n1)]) {v0 v1 : Value} (h0 : v0.cells.size = n0) (h1 : v1.cells.size = n1) (w : World) :
    (Instr.build t #[(0, v0), (1, v1)]).run P w = .ok (.agg (v0.cells ++ v1.cells)) w := by
  cases hi : P.info? t with
  | none => simp [hi] at hz
  | some it =>
    cases hz' : it.zero with
    | none => simp [hi, hz'] at hz
    | some z =>
      simp [hi, hz'] at hz
      refine run_build w t _ _ ?_
      unfold Program.built
      simp only [hi, hu, hz', hp]
      exact fill_two n0 n1 v0 v1 z.cells h0 h1 hz

/-- a slice of one element -/
theorem run_buildSlice_one {P : Program} {t e : TypeId} {size : Nat} (hu : P.underlying t = some (.slice e)) (hz : (P.info? e).bind (fun i => i.zero.map fun z => (i.size, z.cells.size)) = some (size, size)) (hs : 0 < size) (hb : size ≤ 16777216) {v : Value} (h0 : v.cells.size = size) (w : World) :
    (Instr.buildSlice t 1 #[(0, v)]).run P w = .ok (.slice (some ⟨w.heap.size, 0, none⟩) 1 1) (w.alloc (.cells v.cells e)) := by
  cases hi : P.info? e with
  | none => simp [hi] at hz
  | some ie =>
    cases hz' : ie.zero with
    | none => simp [hi, hz'] at hz
    | some z =>
      simp [hi, hz'] at hz
      obtain ⟨e1, e2⟩ := hz
      refine run_buildSlice w t e 1 _ _ ie z hu hi hz' (by rw [e1]; omega) (by rw [e1]; omega) ?_
      have := Great.fill_whole hs [v] ((Array.range (1 * ie.size)).map (z.cells[· % z.cells.size]!)) (fun u hu => by simp at hu; subst hu; exact h0) (by simp [e1])
      rw [e1] at this ⊢
      simpa using this
/-- a store of many cells into the variable that was made last -/
theorem wpList_store_new {P : Program} {ops : Array Oper} {rest : List Oper} {o : Oper} {a : Act} {w : World} {Q : Exit → Act → World → Prop} (hgd : o.guard = none) (ty : TypeId) (x y : Operand) (ho : o.op = .store ty x y)
    (cells : List Value) (Z : Array Value) (hx : a.eval x = .pointer (some ⟨w.heap.size, 0, none⟩)) (hy : a.eval y = .agg cells.toArray) (hi : (P.info? ty).map (·.size) = some cells.length) (hz : Z.size = cells.length) (h1 : ∀ v ∈ cells, v.oneCell' = true)
    (h : wpList P ops Q rest (a.put o.dst undef) (w.alloc (.cells cells.toArray ty))) : wpList P ops Q (o :: rest) a (w.alloc (.cells Z ty)) :=
  wpList_plain hgd fun _ hK => by
    have hr := run_storeAt_new (P := P) w ty Z cells.toArray (by simpa using hi) (by simpa using hz) (all_oneCell_toArray h1)
    unfold Oper.wp execOp
    simp only [ho, hx, hy, Sem.run_bind, hr, Result.andThen_ok]
    exact hK _ _ h
/-- the same, the block's number as the walk spells it -/
theorem wpList_store_newN {P : Program} {ops : Array Oper} {rest : List Oper} {o : Oper} {a : Act} {w : World} {Q : Exit → Act → World → Prop} (hgd : o.guard = none) (ty : TypeId) (x y : Operand) (ho : o.op = .store ty x y) (N : Nat) (hN : w.heap.size = N)
    (cells : List Value) (Z : Array Value) (hx : a.eval x = .pointer (some ⟨N, 0, none⟩)) (hy : a.eval y = .agg cells.toArray) (hi : (P.info? ty).map (·.size) = some cells.length) (hz : Z.size = cells.length) (h1 : ∀ v ∈ cells, v.oneCell' = true)
    (h : wpList P ops Q rest (a.put o.dst undef) (w.alloc (.cells cells.toArray ty))) : wpList P ops Q (o :: rest) a (w.alloc (.cells Z ty)) := by
  subst hN
  exact wpList_store_new hgd ty x y ho cells Z hx hy hi hz h1 h
end Go.Proofs.Ytcbpdalfindmgaa

/-
  A region that draws its order, taken by hand: one operation that alone may come up; two of which either may come up first; one that yields in whatever world. No condition.
-/
namespace Go.Proofs.Ytcbpdalfindmgaa
open Go.RowKit
section
variable {P : Program} {ops : Array Oper} {Q : Exit → Act → World → Prop} {md : Region.Mode}
/-- one operation alone may come up -/
theorem do_one {i : Nat} {o : Oper} {fuel : Nat} {listed : Array Bool} {a : Act} {w : World} (hr : Region.ready md ops listed = [i]) (ho : ops[i]? = some o) (hw : Region.wanted o (yielded ops a.tmps) = true)
    (h : Oper.wp P o a w (fun a' w' => wpAny P md ops Q fuel (listed.setIfInBounds i true) a' w') Q) : wpAny P md ops Q (fuel + 1) listed a w :=
  wpAny_ready hr (by simp) (AllReady.cons ho (fun K hK => by rw [if_pos hw]; exact Oper.wp_mono (fun a w h => hK a w h) h) AllReady.nil)
/-- it yields a value and leaves the world -/
theorem wp_yields {o : Oper} {a : Act} {w : World} {K : Act → World → Prop} {v : Value} (hv : (execOp a.eval o).run P w = .ok (.value v) w) (h : K (a.put o.dst v) w) : Oper.wp P o a w K Q := by
  unfold Oper.wp
  rw [hv]
  exact h
/-- it yields a value and leaves another world -/
theorem wp_ran {o : Oper} {a : Act} {w w' : World} {K : Act → World → Prop} {v : Value} (hv : (execOp a.eval o).run P w = .ok (.value v) w') (h : K (a.put o.dst v) w') : Oper.wp P o a w K Q := by
  unfold Oper.wp
  rw [hv]
  exact h
/-- it calls -/
theorem wp_called {o : Oper} {a : Act} {w : World} {K : Act → World → Prop} {f : FuncId} {args : Array Value} {R : Ending → World → Prop} (hv : (execOp a.eval o).run P w = .ok (.enter f args) w) (hc : Calls P f args w R) (h : ∀ e w', R e w' → ∃ v, e = .returned v ∧ K (a.put o.dst v) w') : Oper.wp P o a w K Q := by
  unfold Oper.wp
  rw [hv, Oper.upon_enter]
  refine hc.mono fun e w' hr => ?_
  obtain ⟨v, rfl, hk⟩ := h e w' hr
  exact hk
/-- whichever comes up; till what waits for i comes up, T is shown behind each -/
def wpT (P : Program) (md : Region.Mode) (ops : Array Oper) (Q : Exit → Act → World → Prop) (T : World → Prop) (i : Nat) : Nat → Bool → Array Bool → Act → World → Prop
  | 0, _, l, a, w => Region.ready md ops l = [] ∧ Q .normal a w
  | f + 1, on, l, a, w => (Region.ready md ops l = [] → Q .normal a w) ∧ ∀ j ∈ Region.ready md ops l,
      wpOp P ops Q j (fun a' w' => ((on && (Region.ready md ops (l.setIfInBounds i false)).contains j) = true → T w') ∧
        wpT P md ops Q T i f (on && (Region.ready md ops (l.setIfInBounds i false)).contains j) (l.setIfInBounds j true) a' w') a w
variable {T : World → Prop} {i : Nat}
theorem any_of_T : ∀ (f : Nat) (on : Bool) (l : Array Bool) (a : Act) (w : World), wpT P md ops Q T i f on l a w → wpAny P md ops Q f l a w
  | 0, _, _, _, _, h => h
  | f + 1, _, _, _, _, h => ⟨h.1, fun j hj => wpOp_mono (fun a' w' h' => any_of_T f _ _ a' w' h'.2) (h.2 j hj)⟩
theorem T_of_any : ∀ (f : Nat) (l : Array Bool) (a : Act) (w : World), wpAny P md ops Q f l a w → wpT P md ops Q T i f false l a w
  | 0, _, _, _, h => h
  | f + 1, _, _, _, h => ⟨h.1, fun j hj => wpOp_mono (fun a' w' h' => ⟨fun e => by simp at e, T_of_any f _ a' w' h'⟩) (h.2 j hj)⟩
theorem set_back {l : Array Bool} (h : l.getD i true = false) : (l.setIfInBounds i true).setIfInBounds i false = l := by
  have hlt : i < l.size := by
    rcases Nat.lt_or_ge i l.size with h1 | h1
    · exact h1
    · simp [Array.getElem?_eq_none h1] at h
  apply Array.ext_getElem?
  intro k
  by_cases hk : i = k
  · subst hk
    simp [hlt] at h ⊢
    exact h
  · simp [hk]
/-- a load is taken first; T, which tells what it loads, is shown behind what may come ahead of it, and no longer -/
theorem T_first {oi : Oper} {v : Value} (hi : ops[i]? = some oi) (hsel : ∀ (j : Nat) (o : Oper) cs b, ops[j]? = some o → o.op ≠ .select cs b)
    (hQ : ∀ c a w, Q (.panic c) (a.put oi.dst v) w → Q (.panic c) a w) :
    ∀ (f : Nat) (l : Array Bool) (a : Act) (w : World),
      (∀ j oj, ops[j]? = some oj → j ≠ i → l.getD j true = false → (∀ e ∈ oj.after, Region.binds md e = true → e.on ≠ i) → oi.apart ops oj = true) →
      i ∈ Region.ready md ops l → YieldsIf P ops T oi v a → T w →
      wpT P md ops Q T i f true (l.setIfInBounds i true) (a.put oi.dst v) w → wpAny P md ops Q (f + 1) l a w
  | 0, l, a, w, _, hr, hy, hT, H => by
    refine ⟨fun h => (by rw [h] at hr; cases hr), fun j hj => ?_⟩
    by_cases hji : j = i
    · subst hji
      exact hy.wpOp hi hT H
    · have := ready_mono hj hji
      rw [H.1] at this
      cases this
  | f + 1, l, a, w, hfree, hr, hy, hT, H => by
    refine ⟨fun h => (by rw [h] at hr; cases hr), fun j hj => ?_⟩
    by_cases hji : j = i
    · subst hji
      exact hy.wpOp hi hT (any_of_T _ _ _ _ _ H)
    · obtain ⟨hjun, oj, hoj, hall⟩ := mem_ready.1 hj
      have hiun : l.getD i true = false := (mem_ready.1 hr).1
      have h1 := H.2 j (ready_mono hj hji)
      rw [set_back hiun] at h1
      have hon : (true && (Region.ready md ops l).contains j) = true := by simpa using hj
      rw [hon] at h1
      have hnot : ∀ e ∈ oj.after, Region.binds md e = true → e.on ≠ i := fun e he hb heq => by
        have h2 := hall e he hb
        rw [heq] at h2
        rcases Nat.lt_or_ge i l.size with h' | h'
        · simp [h'] at hiun h2
          rw [hiun] at h2
          cases h2
        · simp [Array.getElem?_eq_none h'] at h2
      have h2 := wpOp_putIf hoj (hfree j oj hoj hji hjun hnot) (fun cs b => hsel i oi cs b hi) (fun cs b => hsel j oj cs b hoj) hQ hy h1
      refine wpOp_mono (fun a' w' h3 => ?_) h2
      obtain ⟨hy', hT', H'⟩ := h3
      rw [Array.setIfInBounds_comm _ _ (Ne.symm hji)] at H'
      refine T_first hi hsel hQ f _ a' w' (fun k ok hk hki hun hno => hfree k ok hk hki ?_ hno) (ready_mono hr (Ne.symm hji)) hy' (hT' rfl) H'
      by_cases hjk : j = k
      · subst hjk; exact hjun
      · rw [getD_set_ne true hjk] at hun; exact hun
theorem T_take {oi : Oper} {v : Value} {f : Nat} {l : Array Bool} {a : Act} {w : World} (hi : ops[i]? = some oi) (hs : Region.noSelect ops = true) (hf : Region.free md ops l i = true) (hr : (Region.ready md ops l).contains i = true)
    (hQ : ∀ c a w, Q (.panic c) (a.put oi.dst v) w → Q (.panic c) a w) (hy : YieldsIf P ops T oi v a) (hT : T w)
    (h : wpT P md ops Q T i f true (l.setIfInBounds i true) (a.put oi.dst v) w) : wpAny P md ops Q (f + 1) l a w :=
  T_first hi (Region.noSelect_spec hs) hQ f l a w (Region.free_spec hi hf) (by simpa using hr) hy hT h
/-- one alone may come up, and T stands behind it -/
theorem T_one {j : Nat} {o : Oper} {f : Nat} {l : Array Bool} {a : Act} {w : World} (hr : Region.ready md ops l = [j]) (ho : ops[j]? = some o) (hw : Region.wanted o (yielded ops a.tmps) = true)
    (hc : (Region.ready md ops (l.setIfInBounds i false)).contains j = true)
    (h : Oper.wp P o a w (fun a' w' => T w' ∧ wpT P md ops Q T i f true (l.setIfInBounds j true) a' w') Q) : wpT P md ops Q T i (f + 1) true l a w := by
  refine ⟨fun h0 => absurd (hr ▸ h0) (by simp), fun k hk => ?_⟩
  rw [hr] at hk
  obtain rfl := List.mem_singleton.1 hk
  refine wpOp_step ho (fun K hK => ?_)
  rw [if_pos hw]
  refine Oper.wp_mono (fun a' w' h' => hK a' w' ?_) h
  rw [Bool.true_and, hc]
  exact ⟨fun _ => h'.1, h'.2⟩
/-- one alone may come up, and it waits for i: T is no longer wanted -/
theorem T_off {j : Nat} {o : Oper} {f : Nat} {l : Array Bool} {a : Act} {w : World} (hr : Region.ready md ops l = [j]) (ho : ops[j]? = some o) (hw : Region.wanted o (yielded ops a.tmps) = true)
    (hc : (Region.ready md ops (l.setIfInBounds i false)).contains j = false)
    (h : Oper.wp P o a w (fun a' w' => wpAny P md ops Q f (l.setIfInBounds j true) a' w') Q) : wpT P md ops Q T i (f + 1) true l a w := by
  refine ⟨fun h0 => absurd (hr ▸ h0) (by simp), fun k hk => ?_⟩
  rw [hr] at hk
  obtain rfl := List.mem_singleton.1 hk
  refine wpOp_step ho (fun K hK => ?_)
  rw [if_pos hw]
  refine Oper.wp_mono (fun a' w' h' => hK a' w' ?_) h
  rw [Bool.true_and, hc]
  exact ⟨fun e => (by cases e), T_of_any _ _ _ _ h'⟩
/-- the region begins -/
theorem any_begin {id : Nat} {a : Act} {w : World} (hm : P.follows .mixedOrders = true) (h : wpAny P .any ops (NoPanic Q) ops.size (Array.replicate ops.size false) a w.drew) : (Code.region id ops true).wp P Q a w :=
  wp_region_noPanic (wp_region_any hm h)
end
end Go.Proofs.Ytcbpdalfindmgaa

/-
  A region that draws its order, taken by hand, where one condition on the world holds behind each operation but the last one: what reads under the condition is taken first. No condition.
-/
namespace Go.Proofs.Ytcbpdalfindmgaa
open Go.RowKit
section
variable {P : Program} {ops : Array Oper} {Q : Exit → Act → World → Prop} {md : Region.Mode} {S : World → Prop} {L : Nat}
/-- S is shown behind each operation but L -/
def wpAnyL (P : Program) (md : Region.Mode) (ops : Array Oper) (Q : Exit → Act → World → Prop) (S : World → Prop) (L : Nat) : Nat → Array Bool → Act → World → Prop
  | 0, l, a, w => Region.ready md ops l = [] ∧ Q .normal a w
  | f + 1, l, a, w => (Region.ready md ops l = [] → Q .normal a w) ∧ ∀ j ∈ Region.ready md ops l, wpOp P ops Q j (fun a' w' => (j ≠ L → S w') ∧ wpAnyL P md ops Q S L f (l.setIfInBounds j true) a' w') a w
theorem any_of_L : ∀ (f : Nat) (l : Array Bool) (a : Act) (w : World), wpAnyL P md ops Q S L f l a w → wpAny P md ops Q f l a w
  | 0, _, _, _, h => h
  | f + 1, _, _, _, h => ⟨h.1, fun j hj => wpOp_mono (fun a' w' h' => any_of_L f _ a' w' h'.2) (h.2 j hj)⟩
theorem L_first {i : Nat} {oi oL : Oper} {v : Value} (hi : ops[i]? = some oi) (hL : ops[L]? = some oL) (hw : oL.after.any (fun e => Region.binds md e && e.on == i) = true) (hsel : ∀ (j : Nat) (o : Oper) cs b, ops[j]? = some o → o.op ≠ .select cs b)
    (hQ : ∀ c a w, Q (.panic c) (a.put oi.dst v) w → Q (.panic c) a w) :
    ∀ (f : Nat) (l : Array Bool) (a : Act) (w : World),
      (∀ j oj, ops[j]? = some oj → j ≠ i → l.getD j true = false → (∀ e ∈ oj.after, Region.binds md e = true → e.on ≠ i) → oi.apart ops oj = true) →
      i ∈ Region.ready md ops l → YieldsIf P ops S oi v a → S w →
      wpAnyL P md ops Q S L f (l.setIfInBounds i true) (a.put oi.dst v) w → wpAnyL P md ops Q S L (f + 1) l a w
  | 0, l, a, w, _, hr, hy, hS, H => by
    refine ⟨fun h => (by rw [h] at hr; cases hr), fun j hj => ?_⟩
    by_cases hji : j = i
    · subst hji
      exact hy.wpOp hi hS ⟨fun _ => hS, H⟩
    · have := ready_mono hj hji
      rw [H.1] at this
      cases this
  | f + 1, l, a, w, hfree, hr, hy, hS, H => by
    refine ⟨fun h => (by rw [h] at hr; cases hr), fun j hj => ?_⟩
    by_cases hji : j = i
    · subst hji
      exact hy.wpOp hi hS ⟨fun _ => hS, H⟩
    · obtain ⟨hjun, oj, hoj, hall⟩ := mem_ready.1 hj
      have hiun : l.getD i true = false := (mem_ready.1 hr).1
      have h1 := H.2 j (ready_mono hj hji)
      have hnot : ∀ e ∈ oj.after, Region.binds md e = true → e.on ≠ i := fun e he hb heq => by
        have h2 := hall e he hb
        rw [heq] at h2
        rcases Nat.lt_or_ge i l.size with h' | h'
        · simp [h'] at hiun h2
          rw [hiun] at h2
          cases h2
        · simp [Array.getElem?_eq_none h'] at h2
      have hjL : j ≠ L := by
        rintro rfl
        rw [hL] at hoj
        injection hoj with hoj
        subst hoj
        obtain ⟨k, hk, he⟩ := Array.any_eq_true.1 hw
        simp only [Bool.and_eq_true, beq_iff_eq] at he
        exact hnot _ (Array.getElem_mem hk) he.1 he.2
      have h2 := wpOp_putIf hoj (hfree j oj hoj hji hjun hnot) (fun cs b => hsel i oi cs b hi) (fun cs b => hsel j oj cs b hoj) hQ hy h1
      refine wpOp_mono (fun a' w' h3 => ?_) h2
      obtain ⟨hy', hS', H'⟩ := h3
      rw [Array.setIfInBounds_comm _ _ (Ne.symm hji)] at H'
      refine ⟨fun _ => hS' hjL, L_first hi hL hw hsel hQ f _ a' w' (fun k ok hk hki hun hno => hfree k ok hk hki ?_ hno) (ready_mono hr (Ne.symm hji)) hy' (hS' hjL) H'⟩
      by_cases hjk : j = k
      · subst hjk; exact hjun
      · rw [getD_set_ne true hjk] at hun; exact hun
/-- what reads under S is taken first -/
theorem L_take {i : Nat} {oi oL : Oper} {v : Value} {f : Nat} {l : Array Bool} {a : Act} {w : World} (hi : ops[i]? = some oi) (hL : ops[L]? = some oL) (hw : oL.after.any (fun e => Region.binds md e && e.on == i) = true) (hs : Region.noSelect ops = true) (hf : Region.free md ops l i = true) (hr : (Region.ready md ops l).contains i = true)
    (hQ : ∀ c a w, Q (.panic c) (a.put oi.dst v) w → Q (.panic c) a w) (hy : YieldsIf P ops S oi v a) (hS : S w)
    (h : wpAnyL P md ops Q S L f (l.setIfInBounds i true) (a.put oi.dst v) w) : wpAnyL P md ops Q S L (f + 1) l a w :=
  L_first hi hL hw (Region.noSelect_spec hs) hQ f l a w (Region.free_spec hi hf) (by simpa using hr) hy hS h
/-- the same where S is shown behind each operation -/
theorem S_first {i : Nat} {oi : Oper} {v : Value} (hi : ops[i]? = some oi) (hL : ops[L]? = none) (hsel : ∀ (j : Nat) (o : Oper) cs b, ops[j]? = some o → o.op ≠ .select cs b)
    (hQ : ∀ c a w, Q (.panic c) (a.put oi.dst v) w → Q (.panic c) a w) :
    ∀ (f : Nat) (l : Array Bool) (a : Act) (w : World),
      (∀ j oj, ops[j]? = some oj → j ≠ i → l.getD j true = false → (∀ e ∈ oj.after, Region.binds md e = true → e.on ≠ i) → oi.apart ops oj = true) →
      i ∈ Region.ready md ops l → YieldsIf P ops S oi v a → S w →
      wpAnyL P md ops Q S L f (l.setIfInBounds i true) (a.put oi.dst v) w → wpAnyL P md ops Q S L (f + 1) l a w
  | 0, l, a, w, _, hr, hy, hS, H => by
    refine ⟨fun h => (by rw [h] at hr; cases hr), fun j hj => ?_⟩
    by_cases hji : j = i
    · subst hji
      exact hy.wpOp hi hS ⟨fun _ => hS, H⟩
    · have := ready_mono hj hji
      rw [H.1] at this
      cases this
  | f + 1, l, a, w, hfree, hr, hy, hS, H => by
    refine ⟨fun h => (by rw [h] at hr; cases hr), fun j hj => ?_⟩
    by_cases hji : j = i
    · subst hji
      exact hy.wpOp hi hS ⟨fun _ => hS, H⟩
    · obtain ⟨hjun, oj, hoj, hall⟩ := mem_ready.1 hj
      have hiun : l.getD i true = false := (mem_ready.1 hr).1
      have h1 := H.2 j (ready_mono hj hji)
      have hnot : ∀ e ∈ oj.after, Region.binds md e = true → e.on ≠ i := fun e he hb heq => by
        have h2 := hall e he hb
        rw [heq] at h2
        rcases Nat.lt_or_ge i l.size with h' | h'
        · simp [h'] at hiun h2
          rw [hiun] at h2
          cases h2
        · simp [Array.getElem?_eq_none h'] at h2
      have hjL : j ≠ L := by
        rintro rfl
        rw [hL] at hoj
        cases hoj
      have h2 := wpOp_putIf hoj (hfree j oj hoj hji hjun hnot) (fun cs b => hsel i oi cs b hi) (fun cs b => hsel j oj cs b hoj) hQ hy h1
      refine wpOp_mono (fun a' w' h3 => ?_) h2
      obtain ⟨hy', hS', H'⟩ := h3
      rw [Array.setIfInBounds_comm _ _ (Ne.symm hji)] at H'
      refine ⟨fun _ => hS' hjL, S_first hi hL hsel hQ f _ a' w' (fun k ok hk hki hun hno => hfree k ok hk hki ?_ hno) (ready_mono hr (Ne.symm hji)) hy' (hS' hjL) H'⟩
      by_cases hjk : j = k
      · subst hjk; exact hjun
      · rw [getD_set_ne true hjk] at hun; exact hun
theorem S_take {i : Nat} {oi : Oper} {v : Value} {f : Nat} {l : Array Bool} {a : Act} {w : World} (hi : ops[i]? = some oi) (hL : ops[L]? = none) (hs : Region.noSelect ops = true) (hf : Region.free md ops l i = true) (hr : (Region.ready md ops l).contains i = true)
    (hQ : ∀ c a w, Q (.panic c) (a.put oi.dst v) w → Q (.panic c) a w) (hy : YieldsIf P ops S oi v a) (hS : S w)
    (h : wpAnyL P md ops Q S L f (l.setIfInBounds i true) (a.put oi.dst v) w) : wpAnyL P md ops Q S L (f + 1) l a w :=
  S_first hi hL (Region.noSelect_spec hs) hQ f l a w (Region.free_spec hi hf) (by simpa using hr) hy hS h
theorem L_done {f : Nat} {l : Array Bool} {a : Act} {w : World} (hr : Region.ready md ops l = []) (h : Q .normal a w) : wpAnyL P md ops Q S L f l a w := by
  cases f with
  | zero => exact ⟨hr, h⟩
  | succ f => exact ⟨fun _ => h, fun j hj => by rw [hr] at hj; cases hj⟩
/-- one alone may come up, S stands behind it -/
theorem L_one {j : Nat} {o : Oper} {f : Nat} {l : Array Bool} {a : Act} {w : World} (hr : Region.ready md ops l = [j]) (ho : ops[j]? = some o) (hw : Region.wanted o (yielded ops a.tmps) = true)
    (h : Oper.wp P o a w (fun a' w' => S w' ∧ wpAnyL P md ops Q S L f (l.setIfInBounds j true) a' w') Q) : wpAnyL P md ops Q S L (f + 1) l a w := by
  refine ⟨fun h0 => absurd (hr ▸ h0) (by simp), fun k hk => ?_⟩
  rw [hr] at hk
  obtain rfl := List.mem_singleton.1 hk
  refine wpOp_step ho (fun K hK => ?_)
  rw [if_pos hw]
  exact Oper.wp_mono (fun a' w' h' => hK a' w' ⟨fun _ => h'.1, h'.2⟩) h
/-- the last one alone may come up -/
theorem L_last {o : Oper} {f : Nat} {l : Array Bool} {a : Act} {w : World} (hr : Region.ready md ops l = [L]) (ho : ops[L]? = some o) (hw : Region.wanted o (yielded ops a.tmps) = true) (hd : Region.ready md ops (l.setIfInBounds L true) = [])
    (h : Oper.wp P o a w (fun a' w' => Q .normal a' w') Q) : wpAnyL P md ops Q S L (f + 1) l a w := by
  refine ⟨fun h0 => absurd (hr ▸ h0) (by simp), fun k hk => ?_⟩
  rw [hr] at hk
  obtain rfl := List.mem_singleton.1 hk
  refine wpOp_step ho (fun K hK => ?_)
  rw [if_pos hw]
  refine Oper.wp_mono (fun a' w' h' => hK a' w' ⟨fun hne => absurd rfl hne, ?_⟩) h
  cases f with
  | zero => exact ⟨hd, h'⟩
  | succ f => exact ⟨fun _ => h', fun j hj => by rw [hd] at hj; cases hj⟩
/-- the region begins -/
theorem any_beginL {id : Nat} {a : Act} {w : World} (S : World → Prop) (L : Nat) (hm : P.follows .mixedOrders = true) (h : wpAnyL P .any ops (NoPanic Q) S L ops.size (Array.replicate ops.size false) a w.drew) : (Code.region id ops true).wp P Q a w :=
  wp_region_noPanic (wp_region_any hm (any_of_L _ _ _ _ h))
end
end Go.Proofs.Ytcbpdalfindmgaa

/-
  What the calls of a writer, nil or not, do. Conditions: the sizes.
-/
namespace Go.Proofs.Ytcbpdalfindmgaa
open Go.RowKit
set_option linter.unusedSimpArgs false
set_option maxRecDepth 100000
set_option linter.unusedVariables false
/-- a writer, nil or of the call's own -/
def Wr (w : World) (base : Nat) (F : List Nat) (p : Option Addr) (bs : List Nat) : Prop := (p = none ∧ F = [] ∧ bs = []) ∨ ∃ g, p = some ⟨g, 0, none⟩ ∧ WrAt w base F g bs
def plus (p : Option Addr) (bs news : List Nat) : List Nat := if p.isNone then [] else bs ++ news
def WTo (w : World) (base : Nat) (F : List Nat) (p : Option Addr) (bs : List Nat) (w' : World) : Prop := ∃ F', Wr w' base F' p bs ∧ Only F w w' ∧ Fresh w F F'
section
variable {w w' w1 : World} {base : Nat} {F : List Nat} {p : Option Addr} {bs news : List Nat}
theorem plus_plus (p : Option Addr) (bs a b : List Nat) : plus p (plus p bs a) b = plus p bs (a ++ b) := by
  cases p <;> simp [plus]
theorem plus_len (p : Option Addr) (bs a : List Nat) : (plus p bs a).length ≤ bs.length + a.length := by
  cases p <;> simp [plus]
theorem Wr.under (h : Wr w base F p bs) : Under w F := by
  rcases h with ⟨_, rfl, _⟩ | ⟨g, _, h⟩
  · exact fun k hk => by cases hk
  · exact h.under
theorem Wr.over (h : Wr w base F p bs) : Over base F := by
  rcases h with ⟨_, rfl, _⟩ | ⟨g, _, h⟩
  · exact fun k hk => by cases hk
  · exact h.over
theorem Wr.of (h : Wr w base F p bs) (hk : ∀ k, k ∈ F → w'.heap[k]? = w.heap[k]?) : Wr w' base F p bs := by
  rcases h with h | ⟨g, hp, h⟩
  · exact .inl h
  · exact .inr ⟨g, hp, h.of hk⟩
theorem Wr.below (h : Wr w base F p bs) (hb : Below w.heap.size w w') : Wr w' base F p bs := h.of fun k hk => hb.block k (h.under k hk)
theorem Wr.plus_nil (h : Wr w base F p bs) : plus p bs [] = bs := by
  rcases h with ⟨rfl, _, rfl⟩ | ⟨g, rfl, h⟩
  · rfl
  · simp [plus]
theorem WTo.after {F1 : List Nat} (ho : Only F w w1) (hf : Fresh w F F1) (h : WTo w1 base F1 p bs w') : WTo w base F p bs w' := by
  obtain ⟨F2, h1, h2, h3⟩ := h
  exact ⟨F2, h1, ho.trans h2 hf, hf.trans h3 ho.size⟩
theorem WTo.since (hb : Below w.heap.size w w1) (h : WTo w1 base F p bs w') : WTo w base F p bs w' := h.after (Only.of_below hb F) (Fresh.refl _ _)
end
theorem put_w (w : World) (base : Nat) (F : List Nat) (p : Option Addr) (bs news : List Nat) (B : Nat) (A : Option Addr) (n c : Nat) (h : Wr w base F p bs) (hb : Bytes w B A n news) (hl : bs.length + n ≤ 10000000) (hB : base ≤ w.heap.size) :
    Calls Try.prog 84 #[.pointer p, .slice A n c] w fun e w' => e = .returned (.tuple #[]) ∧ WTo w base F p (plus p bs news) w' := by
  rcases h with ⟨rfl, rfl, rfl⟩ | ⟨g, rfl, h⟩
  · exact (put_nil _ w).mono fun e w' ⟨he, hw⟩ => ⟨he, [], .inl ⟨rfl, rfl, rfl⟩, by rw [← hw]; exact Only.refl _ _, Fresh.refl _ _⟩
  · exact (put_any w base g F bs news B A n c h hb hl hB).mono fun e w' ⟨he, F', h1, h2, h3⟩ => ⟨he, F', .inr ⟨g, rfl, h1⟩, h2, h3⟩
theorem eight_size : (Try.prog.info? 118).map (·.size) = some 8 := by kernel_rfl
theorem wnum_any (w : World) (base : Nat) (F : List Nat) (p : Option Addr) (bs : List Nat) (n : Int) (h : Wr w base F p bs) (hl : bs.length ≤ 9000000) (hB : base ≤ w.heap.size) :
    Calls Try.prog 46 #[.pointer p, .int .i64 n] w fun e w' => e = .returned (.tuple #[]) ∧ WTo w base F p (plus p bs (numB n)) w' := by
  have hz := eight_zero
  have hi : (Try.prog.info? 118).map (·.size) = some (u8s (numB n)).length := by rw [u8s_length, numB_len]; exact eight_size
  go_enter Try.func46, Try.ntmps46
  go_wp2_with fail
  refine (packed_any n w).mono ?_
  rintro e w1 ⟨rfl, b1⟩
  go_wp2_with (first | (refine wpList_store_newN rfl 118 (.tmp 4) (.tmp 6) rfl w1.heap.size rfl (u8s (numB n)) _ rfl rfl hi (by rw [u8s_length, numB_len]; rfl) (oneCell_u8s _) ?_))
  have B1 : Below w.heap.size w (w1.alloc (.cells (u8s (numB n)).toArray 118)) := b1.alloc b1.size _
  have hb8 : Bytes (w1.alloc (.cells (u8s (numB n)).toArray 118)) (w1.heap.size + 1) (some ⟨w1.heap.size, 0, none⟩) 8 (numB n) := by
    have := Bytes.new w1 (numB n) 118 (0, 0) (numB_lt n)
    rwa [numB_len] at this
  refine (put_w _ base F p bs (numB n) _ _ 8 8 (h.below B1) hb8 (by omega) (Nat.le_trans hB B1.size)).mono ?_
  rintro e w2 ⟨rfl, h2⟩
  go_wp2
  refine bodyPost_end (results_none rfl _ _ _) rfl ?_
  exact ⟨rfl, h2.since B1⟩
theorem wflag_any (w : World) (base : Nat) (F : List Nat) (p : Option Addr) (bs : List Nat) (f : Bool) (h : Wr w base F p bs) (hl : bs.length ≤ 9000000) (hB : base ≤ w.heap.size) :
    Calls Try.prog 44 #[.pointer p, .bool f] w fun e w' => e = .returned (.tuple #[]) ∧ WTo w base F p (plus p bs [if f then 1 else 0]) w' := by
  cases f with
  | true =>
    go_enter Try.func44, Try.ntmps44
    go_wp2_with fail
    have B1 := below_alloc w (.cells (u8s [1]).toArray 5)
    refine (put_w _ base F p bs [1] _ _ 1 1 (h.below B1) (Bytes.new w [1] 5 (0, 0) (by simp)) (by omega) (Nat.le_trans hB B1.size)).mono ?_
    rintro e w2 ⟨rfl, h2⟩
    go_wp2
    refine bodyPost_end (results_none rfl _ _ _) rfl ?_
    exact ⟨rfl, h2.since B1⟩
  | false =>
    go_enter Try.func44, Try.ntmps44
    go_wp2_with fail
    have B1 := below_alloc w (.cells (u8s [0]).toArray 5)
    refine (put_w _ base F p bs [0] _ _ 1 1 (h.below B1) (Bytes.new w [0] 5 (0, 0) (by simp)) (by omega) (Nat.le_trans hB B1.size)).mono ?_
    rintro e w2 ⟨rfl, h2⟩
    go_wp2
    refine bodyPost_end (results_none rfl _ _ _) rfl ?_
    exact ⟨rfl, h2.since B1⟩
theorem Bytes.only {w w' : World} {B n : Nat} {A : Option Addr} {bs F : List Nat} (h : Bytes w B A n bs) (ho : Only F w w') (ha : ∀ a, A = some a → 0 < n → a.block ∉ F) : Bytes w' B A n bs :=
  ⟨⟨h.1.1, fun hn => by
    obtain ⟨ad, e, hB, hc⟩ := h.1.2 hn
    exact ⟨ad, e, hB, fun j u hu => (ho.cell (World.block_lt_of_cell? w _ (hc j u hu)) (by rw [block_of_add]; exact ha ad e hn)).trans (hc j u hu)⟩⟩, h.2⟩
theorem strOf_size (bs : List Nat) : (strOf bs).size = bs.length := by simp [strOf, strOfNums_size]
/-- a string as new bytes -/
theorem conv_str (w : World) (bs : List Nat) (hb : ∀ b ∈ bs, b < 256) : ∃ cap w', (convert 9 22 (.string (strOf bs))).run Try.prog w = .ok (.slice (some ⟨w.heap.size, 0, none⟩) bs.length cap) w' ∧ Below w.heap.size w w' ∧ Bytes w' (w.heap.size + 1) (some ⟨w.heap.size, 0, none⟩) bs.length bs := by
  have h := Lib.run_convert_string_bytes (P := Try.prog) w 9 22 5 (strOf bs) Try.underlying9 Try.underlying22 Try.underlying5
  rw [strOf_size] at h
  refine ⟨_, _, h, ⟨rfl, rfl, rfl, by rw [Lib.bytesWorld_size]; omega, fun i hi => Lib.bytesWorld_at_old _ _ _ _ hi⟩, ⟨⟨by simp [u8s], fun hn => ⟨_, rfl, Nat.lt_succ_self _, fun j u hu => ?_⟩⟩, hb⟩⟩
  have hj : j < bs.length := by
    rcases Nat.lt_or_ge j bs.length with h' | h'
    · exact h'
    · rw [List.getElem?_eq_none (by rw [u8s_length]; exact h')] at hu; cases hu
  rw [add_zero_off, Lib.bytesWorld_cell _ _ _ _ (by rw [strOf_size]; exact hj), ← hu]
  have hbj := hb _ (List.getElem_mem hj)
  simp [strOf, strOfNums_data, u8s, u8, hj]
  omega
theorem wpList_conv {ops : Array Oper} {rest : List Oper} {o : Oper} {a : Act} {w : World} {Q : Exit → Act → World → Prop} (hg : o.guard = none) (x : Operand) (ho : o.op = .convert 9 22 x) (bs : List Nat) (hx : a.eval x = .string (strOf bs)) (hb : ∀ b ∈ bs, b < 256)
    (h : ∀ cap w', Below w.heap.size w w' → Bytes w' (w.heap.size + 1) (some ⟨w.heap.size, 0, none⟩) bs.length bs → wpList Try.prog ops Q rest (a.put o.dst (.slice (some ⟨w.heap.size, 0, none⟩) bs.length cap)) w') : wpList Try.prog ops Q (o :: rest) a w := by
  obtain ⟨cap, w', hr, h1, h2⟩ := conv_str w bs hb
  refine wpList_plain hg fun _ hK => wp_ran (w' := w') ?_ (hK _ _ (h cap w' h1 h2))
  simp [execOp, ho, hx, hr, Result.andThen]
theorem counted_bytes (w : World) (base : Nat) (F : List Nat) (p : Option Addr) (bs news : List Nat) (B : Nat) (A : Option Addr) (n c : Nat) (h : Wr w base F p bs) (hb : Bytes w B A n news) (hlt : ∀ a, A = some a → 0 < n → a.block ∉ F) (hl : bs.length + n ≤ 8000000) (hB : base ≤ w.heap.size) :
    Calls Try.prog 85 #[.pointer p, .slice A n c] w fun e w' => e = .returned (.tuple #[]) ∧ WTo w base F p (plus p bs (numB n ++ news)) w' := by
  go_enter Try.func85, Try.ntmps85
  go_wp2_with fail
  refine (wnum_any w base F p bs n h (by omega) hB).mono ?_
  rintro e w1 ⟨rfl, F1, h1, o1, f1⟩
  go_wp2_with fail
  have := plus_len p bs (numB n)
  rw [numB_len] at this
  have hb1 := hb.only o1 hlt
  refine (put_w w1 base F1 p (plus p bs (numB n)) news B A n c h1 hb1 (by omega) (Nat.le_trans hB o1.size)).mono ?_
  rintro e w2 ⟨rfl, h2⟩
  rw [plus_plus] at h2
  go_wp2
  refine bodyPost_end (results_none rfl _ _ _) rfl ?_
  exact ⟨rfl, h2.after o1 f1⟩
/-- how many bytes, and they -/
theorem wbytes_any (w : World) (base : Nat) (F : List Nat) (p : Option Addr) (bs news : List Nat) (B : Nat) (A : Option Addr) (n c : Nat) (h : Wr w base F p bs) (hb : Bytes w B A n news) (hlt : ∀ a, A = some a → 0 < n → a.block ∉ F) (hl : bs.length + n ≤ 8000000) (hB : base ≤ w.heap.size) :
    Calls Try.prog 45 #[.pointer p, .slice A n c] w fun e w' => e = .returned (.tuple #[]) ∧ WTo w base F p (plus p bs (numB n ++ news)) w' := by
  go_enter Try.func45, Try.ntmps45
  go_wp2_with fail
  refine (counted_bytes w base F p bs news B A n c h hb hlt hl hB).mono ?_
  rintro e w2 ⟨rfl, h2⟩
  go_wp2
  refine bodyPost_end (results_none rfl _ _ _) rfl ?_
  exact ⟨rfl, h2⟩
/-- numbers as cells -/
def i64s (l : List Int) : List Value := l.map (.int .i64)
theorem i64s_length (l : List Int) : (i64s l).length = l.length := by simp [i64s]
def Ints (w : World) (B : Nat) (A : Option Addr) (n : Nat) (l : List Int) : Prop := Reads w B 1 A n (i64s l)
theorem Ints.len {w : World} {B n : Nat} {A : Option Addr} {l : List Int} (h : Ints w B A n l) : l.length = n := by have := h.1; rw [i64s_length] at this; omega
theorem Ints.only {w w' : World} {B n : Nat} {A : Option Addr} {l : List Int} {F : List Nat} (h : Ints w B A n l) (ho : Only F w w') (ha : ∀ a, A = some a → 0 < n → a.block ∉ F) : Ints w' B A n l :=
  ⟨h.1, fun hn => by
    obtain ⟨ad, e, hB, hc⟩ := h.2 hn
    exact ⟨ad, e, hB, fun j u hu => (ho.cell (World.block_lt_of_cell? w _ (hc j u hu)) (by rw [block_of_add]; exact ha ad e hn)).trans (hc j u hu)⟩⟩
theorem Ints.at_ {w : World} {B n k : Nat} {A : Option Addr} {l : List Int} (h : Ints w B A n l) (hk : k < n) : ∃ ad x, A = some ad ∧ l[k]? = some x ∧ w.cell? (ad.add k) = some (.int .i64 x) := by
  obtain ⟨ad, u, e, hb, hx, hc⟩ := Reads.at_ h hk
  have hl : k < l.length := by have := h.len; omega
  refine ⟨ad, l[k], e, List.getElem?_eq_getElem hl, ?_⟩
  rw [hc, ← hx]
  simp [i64s, hl]
def numsB (l : List Int) : List Nat := numB l.length ++ l.flatMap numB
theorem numsB_len (l : List Int) : (numsB l).length = 8 + 8 * l.length := by
  have : (l.flatMap numB).length = 8 * l.length := by
    induction l with
    | nil => rfl
    | cons x l ih => rw [List.flatMap_cons, List.length_append, ih, numB_len, List.length_cons]; omega
  rw [numsB, List.length_append, numB_len, this]
theorem wnums_any (w : World) (base : Nat) (F : List Nat) (p : Option Addr) (bs : List Nat) (B : Nat) (A : Option Addr) (n c : Nat) (l : List Int) (h : Wr w base F p bs) (hb : Ints w B A n l) (hlt : ∀ a, A = some a → 0 < n → a.block ∉ F) (hl : bs.length + 8 * n ≤ 8000000) (hB : base ≤ w.heap.size) :
    Calls Try.prog 47 #[.pointer p, .slice A n c] w fun e w' => e = .returned (.tuple #[]) ∧ WTo w base F p (plus p bs (numsB l)) w' := by
  have hn := hb.len
  have H := Lib.hid hb
  clear hb
  go_enter Try.func47, Try.ntmps47
  go_wp2_with fail
  refine (wnum_any w base F p bs n h (by omega) hB).mono ?_
  rintro e w1 ⟨rfl, h1⟩
  have H1 := Lib.hid h1
  clear h1
  go_wp2
  go_loopw [12] (fun i wr => ∃ k : Nat, k ≤ n ∧ i = .int .i64 k ∧ WTo w base F p (plus p bs (numB n ++ (l.take k).flatMap numB)) wr) (fun i _ => n - (intOf i).toNat)
  case atStart => exact ⟨0, Nat.zero_le _, rfl, by simpa using H1.out⟩
  case round =>
    obtain ⟨k, hk, rfl, F2, h2, o2, f2⟩ := hrel
    by_cases hlt2 : k < n
    · obtain ⟨ad, x, rfl, hx, hc⟩ := (H.out.only o2 hlt).at_ hlt2
      have H2 := Lib.hid h2
      have Hx := Lib.hid hx
      have hlen : (plus p bs (numB n ++ (l.take k).flatMap numB)).length ≤ 9000000 := by
        have h3 := plus_len p bs (numB n ++ (l.take k).flatMap numB)
        have h4 := numsB_len (l.take k)
        rw [numsB, List.length_append, numB_len] at h4
        rw [List.length_append, numB_len] at h3
        have : (l.take k).length ≤ n := by rw [List.length_take]; omega
        omega
      clear h2 hx
      go_wp2_with fail
      refine (wnum_any wr base F2 p _ x H2.out hlen (Nat.le_trans hB o2.size)).mono ?_
      rintro e w3 ⟨rfl, h3⟩
      rw [plus_plus] at h3
      have H3 := Lib.hid (h3.after o2 f2)
      clear h3
      go_wp2
      go_roundw
      case rel =>
        refine ⟨k + 1, by omega, by go_num, ?_⟩
        have e : l.take (k + 1) = l.take k ++ [x] := by rw [List.take_add_one, Hx.out]; rfl
        rw [e, List.flatMap_append, ← List.append_assoc]
        simpa using H3.out
      case measure => simp [intOf]; omega
    · obtain rfl : k = n := by omega
      have H2 : Hid (WTo w base F p (plus p bs (numB k ++ (l.take k).flatMap numB)) wr) := Lib.hid ⟨F2, h2, o2, f2⟩
      clear h2 o2 f2
      go_wp2
      refine bodyPost_end (results_none rfl _ _ _) rfl ?_
      refine ⟨rfl, ?_⟩
      have := H2.out
      rw [List.take_of_length_le (by omega), ← hn] at this
      exact this
theorem out_any (w : World) (base : Nat) (F : List Nat) (p : Option Addr) (bs : List Nat) (h : Wr w base F p bs) (hl : bs.length ≤ 9000000) :
    Calls Try.prog 48 #[.pointer p] w fun e w' => ∃ v, e = .returned v ∧ Own w' w.heap.size v bs.length bs ∧ Below w.heap.size w w' := by
  rcases h with ⟨rfl, rfl, rfl⟩ | ⟨g, rfl, v, rfl, h1, h2, h3, h4⟩
  · go_enter Try.func48, Try.ntmps48
    go_wp2
    go_ret
    exact ⟨_, rfl, Own.nil _ _, Below.refl _ _⟩
  · obtain ⟨A1, c1, rfl, -, -, -⟩ := h2.form
    have hc : w.cell? ⟨g, 0, none⟩ = some (.slice A1 bs.length c1) := by rw [h1.cell]; rfl
    go_enter Try.func48, Try.ntmps48
    go_wp2_with fail
    refine (clone_any A1 bs.length c1 bs w w.heap.size (by omega) (h2.bytes h4)).mono ?_
    rintro e w' ⟨v, rfl, h5, h6⟩
    go_wp2
    go_ret
    exact ⟨v, rfl, h5, h6⟩
end Go.Proofs.Ytcbpdalfindmgaa

/-
  Objects with clones in memory: how they lie, how they are read. No condition but the sizes.
-/
namespace Go.Proofs.Ytcbpdalfindmgaa
open Go.RowKit
set_option linter.unusedSimpArgs false
set_option linter.unusedVariables false
set_option maxRecDepth 100000
theorem Ints.since {w w' : World} {B n : Nat} {A : Option Addr} {l : List Int} (h : Ints w B A n l) (hb : Below w.heap.size w w') : Ints w' B A n l := Reads.since h hb
theorem Ints.more {w : World} {B B' n : Nat} {A : Option Addr} {l : List Int} (h : Ints w B A n l) (hB : B ≤ B') : Ints w B' A n l := Reads.more h hB
theorem Ints.drew {w : World} {B n : Nat} {A : Option Addr} {l : List Int} (h : Ints w B A n l) : Ints w.drew B A n l := h
/-- a clone, and where it lies -/
structure CA where
  sn : List Int
  dt : List Nat
  S : Option Addr
  cs : Nat
  D : Option Addr
  cd : Nat
def CA.v (c : CA) : ClV := ⟨c.sn, c.dt⟩
def CA.cells (c : CA) : List Value := [.slice c.S c.sn.length c.cs, .slice c.D c.dt.length c.cd]
theorem CA.cells_len (c : CA) : c.cells.length = 2 := rfl
theorem CA.cells_one (c : CA) : ∀ u ∈ c.cells, u.oneCell' = true := by
  intro u hu
  simp [CA.cells] at hu
  rcases hu with rfl | rfl <;> rfl
structure CA.R (c : CA) (w : World) : Prop where
  sn : Ints w w.heap.size c.S c.sn.length c.sn
  dt : Bytes w w.heap.size c.D c.dt.length c.dt
  i1 : ∀ s ∈ c.sn, -9223372036854775808 ≤ s ∧ s ≤ 9223372036854775807
  s1 : c.sn.length ≤ 9223372036854775807
  d1 : c.dt.length ≤ 9223372036854775807
  s2 : c.sn.length ≤ c.cs
  d2 : c.dt.length ≤ c.cd
theorem CA.R.since {c : CA} {w w' : World} (h : c.R w) (hb : Below w.heap.size w w') : c.R w' := ⟨(h.sn.since hb).more hb.size, (h.dt.since hb).more hb.size, h.i1, h.s1, h.d1, h.s2, h.d2⟩
/-- an object, and where it lies -/
structure OA where
  th : Bool
  dt : List Nat
  D : Option Addr
  cd : Nat
  sq : Int
  C : Option Addr
  cc : Nat
  cl : List CA
def OA.vs (o : OA) : List ClV := o.cl.map CA.v
def OA.v (o : OA) : OV := ⟨o.th, o.dt, o.sq, o.vs⟩
def OA.cs (o : OA) : Array Value := #[.bool o.th, .slice o.D o.dt.length o.cd, .int .i64 o.sq, .slice o.C o.cl.length o.cc]
def OA.zero : OA := ⟨false, [], none, 0, 0, none, 0, []⟩
theorem OA.vs_len (o : OA) : o.vs.length = o.cl.length := by simp [OA.vs]
structure OA.R (o : OA) (w : World) : Prop where
  dt : Bytes w w.heap.size o.D o.dt.length o.dt
  row : Reads w w.heap.size 2 o.C o.cl.length (o.cl.flatMap CA.cells)
  cl : ∀ c ∈ o.cl, c.R w
  q1 : -9223372036854775808 ≤ o.sq
  q2 : o.sq ≤ 9223372036854775807
  d1 : o.dt.length ≤ 9223372036854775807
  c1 : o.cl.length ≤ 9223372036854775807
  d2 : o.dt.length ≤ o.cd
  c2 : o.cl.length ≤ o.cc
theorem OA.R.since {o : OA} {w w' : World} (h : o.R w) (hb : Below w.heap.size w w') : o.R w' := ⟨(h.dt.since hb).more hb.size, (h.row.since hb).more hb.size, fun c hc => (h.cl c hc).since hb, h.q1, h.q2, h.d1, h.c1, h.d2, h.c2⟩
theorem OA.R.drew {o : OA} {w : World} (h : o.R w) : o.R w.drew := h.since (Below.refl _ w).drew
theorem OA.zero_R (w : World) : OA.zero.R w := ⟨⟨Reads.none_, fun b hb => (by cases hb)⟩, Reads.none_, fun c hc => (by cases hc), by decide, by decide, by decide, by decide, by decide, by decide⟩
theorem OA.R.get {o : OA} {w : World} (h : o.R w) {k : Nat} {c : CA} (hk : o.cl[k]? = some c) : ∃ ad, o.C = some ad ∧ ad.block < w.heap.size ∧ ∀ j v, c.cells[j]? = some v → w.cell? ((ad.add (k * 2)).add j) = some v := by
  have hl := (List.getElem?_eq_some_iff.1 hk).1
  obtain ⟨ad, e, hb, hc⟩ := h.row.2 (by omega)
  refine ⟨ad, e, hb, fun j v hj => ?_⟩
  rw [add_of_add]
  have hj2 : j < 2 := by have := (List.getElem?_eq_some_iff.1 hj).1; rwa [CA.cells_len] at this
  exact hc _ v (by rw [flat_at CA.cells 2 CA.cells_len o.cl k j c hk hj2]; exact hj)
/-- small: as what is looked at -/
structure OA.Sm (o : OA) : Prop where
  dt : o.dt.length ≤ 10000
  cn : o.cl.length ≤ 1000
  cl : ∀ c ∈ o.cl, c.sn.length ≤ 10000 ∧ c.dt.length ≤ 10000
theorem OA.zero_Sm : OA.zero.Sm := ⟨by decide, by decide, fun c hc => (by cases hc)⟩
/-- a context, and where it lies -/
structure XA where
  sq : Int
  sn : List Int
  S : Option Addr
  cs : Nat
def XA.v (c : XA) : CxV := ⟨c.sq, c.sn⟩
def XA.cells (c : XA) : Array Value := #[.int .i64 c.sq, .slice c.S c.sn.length c.cs]
structure XA.R (c : XA) (w : World) : Prop where
  sn : Ints w w.heap.size c.S c.sn.length c.sn
  i1 : ∀ s ∈ c.sn, -9223372036854775808 ≤ s ∧ s ≤ 9223372036854775807
  q1 : -9223372036854775808 ≤ c.sq
  q2 : c.sq ≤ 9223372036854775807
  s1 : c.sn.length ≤ 9223372036854775807
  s2 : c.sn.length ≤ c.cs
theorem XA.R.since {c : XA} {w w' : World} (h : c.R w) (hb : Below w.heap.size w w') : c.R w' := ⟨(h.sn.since hb).more hb.size, h.i1, h.q1, h.q2, h.s1, h.s2⟩
theorem intR_at {l : List Int} (h : ∀ s ∈ l, -9223372036854775808 ≤ s ∧ s ≤ 9223372036854775807) {k : Nat} {x : Int} (hk : l[k]? = some x) : -9223372036854775808 ≤ x ∧ x ≤ 9223372036854775807 := h x (List.mem_of_getElem? hk)
theorem run_loadVar_scl (w : World) (p : Addr) (s : CA) (hc : ∀ j v, s.cells[j]? = some v → w.cell? (p.add j) = some v) : (loadVar 79 p).run Try.prog w = .ok (.agg s.cells.toArray) w := by
  have hl : (loadCells p 2).run Try.prog w = .ok s.cells.toArray w := run_loadCells_list (P := Try.prog) w p s.cells hc
  have hagg : (isAgg 79).run Try.prog w = .ok true w := by
    unfold isAgg
    rw [Sem.run_bind, run_underlying Try.underlying79 w]
    rfl
  have hi : (Try.prog.info? 79).map (·.size) = some 2 := by kernel_rfl
  cases hq : Try.prog.info? 79 with
  | none => simp [hq] at hi
  | some i =>
    have hs : i.size = 2 := by simpa [hq] using hi
    simp [loadVar, Sem.run_bind, hagg, sizeOf, typeInfo, hq, hs, hl]
theorem wpList_load_scl {ops : Array Oper} {rest : List Oper} {op : Oper} {a : Act} {w : World} {Q : Exit → Act → World → Prop} (hgd : op.guard = none) (x : Operand) (ho : op.op = .load 79 x)
    (p : Addr) (hx : a.eval x = .pointer (some p)) (s : CA) (hc : ∀ j v, s.cells[j]? = some v → w.cell? (p.add j) = some v)
    (h : wpList Try.prog ops Q rest (a.put op.dst (.agg #[.slice s.S s.sn.length s.cs, .slice s.D s.dt.length s.cd])) w) : wpList Try.prog ops Q (op :: rest) a w :=
  wpList_plain hgd fun _ hK => by
    unfold Oper.wp execOp
    simp only [ho, hx, Instr.loadAt, Instr.sureAddr, Sem.run_bind, Sem.run_pure, Result.andThen_ok, run_loadVar_scl w p s hc]
    exact hK _ _ h
theorem run_loadVar_rcl (w : World) (p : Addr) (s : CA) (hc : ∀ j v, s.cells[j]? = some v → w.cell? (p.add j) = some v) : (loadVar 78 p).run Try.prog w = .ok (.agg s.cells.toArray) w := by
  have hl : (loadCells p 2).run Try.prog w = .ok s.cells.toArray w := run_loadCells_list (P := Try.prog) w p s.cells hc
  have hagg : (isAgg 78).run Try.prog w = .ok true w := by
    unfold isAgg
    rw [Sem.run_bind, run_underlying Try.underlying78 w]
    rfl
  have hi : (Try.prog.info? 78).map (·.size) = some 2 := by kernel_rfl
  cases hq : Try.prog.info? 78 with
  | none => simp [hq] at hi
  | some i =>
    have hs : i.size = 2 := by simpa [hq] using hi
    simp [loadVar, Sem.run_bind, hagg, sizeOf, typeInfo, hq, hs, hl]
theorem wpList_load_rcl {ops : Array Oper} {rest : List Oper} {op : Oper} {a : Act} {w : World} {Q : Exit → Act → World → Prop} (hgd : op.guard = none) (x : Operand) (ho : op.op = .load 78 x)
    (p : Addr) (hx : a.eval x = .pointer (some p)) (s : CA) (hc : ∀ j v, s.cells[j]? = some v → w.cell? (p.add j) = some v)
    (h : wpList Try.prog ops Q rest (a.put op.dst (.agg #[.slice s.S s.sn.length s.cs, .slice s.D s.dt.length s.cd])) w) : wpList Try.prog ops Q (op :: rest) a w :=
  wpList_plain hgd fun _ hK => by
    unfold Oper.wp execOp
    simp only [ho, hx, Instr.loadAt, Instr.sureAddr, Sem.run_bind, Sem.run_pure, Result.andThen_ok, run_loadVar_rcl w p s hc]
    exact hK _ _ h
end Go.Proofs.Ytcbpdalfindmgaa

/-
  Which objects the program finds good, and what it says they are at a snapshot. Conditions: the object reads as it is said to.
-/
namespace Go.Proofs.Ytcbpdalfindmgaa
open Go.RowKit
set_option linter.unusedSimpArgs false
set_option linter.unusedVariables false
set_option maxRecDepth 100000
theorem rise_at : ∀ {L : List Int} {l : Int} {i : Nat} {s : Int}, riseB l L = true → L[i]? = some s → topI l (L.take i) < s
  | [], l, i, s, _, h => by simp at h
  | a :: L, l, 0, s, h, hs => by
    rw [riseB, Bool.and_eq_true, decide_eq_true_iff] at h
    simp at hs
    subst hs
    exact h.1
  | a :: L, l, i + 1, s, h, hs => by
    rw [riseB, Bool.and_eq_true] at h
    rw [List.take_succ_cons, topI]
    exact rise_at h.2 (by simpa using hs)
theorem rise_mid {X Y sn : List Int} {q : Nat} {s l : Int} (h : riseB l (X ++ (sn ++ Y)) = true) (hq : sn[q]? = some s) : topI (topI l X) (sn.take q) < s := by
  rw [riseB_app, Bool.and_eq_true, riseB_app, Bool.and_eq_true] at h
  exact rise_at h.2.1 hq
theorem take_snocI {α : Type} {l : List α} {k : Nat} {b : α} (h : l[k]? = some b) : l.take (k + 1) = l.take k ++ [b] := by
  rw [List.take_add_one, h]; rfl
theorem rise_step {l : Int} {L : List Int} {q : Nat} {s : Int} (h : riseB l (L.take q) = true) (hq : L[q]? = some s) (hs : topI l (L.take q) < s) : riseB l (L.take (q + 1)) = true ∧ topI l (L.take (q + 1)) = s := by
  rw [take_snocI hq, riseB_app, topI_app]
  simp [h, riseB, topI, hs]
theorem snAll_at {cl : List CA} {k : Nat} {c : CA} (hk : cl[k]? = some c) : snAll (cl.map CA.v) = snAll ((cl.take k).map CA.v) ++ (c.sn ++ snAll ((cl.drop (k + 1)).map CA.v)) := by
  have hl := (List.getElem?_eq_some_iff.1 hk).1
  have h1 : cl = cl.take k ++ (c :: cl.drop (k + 1)) := by
    have h2 := List.take_append_drop k cl
    rw [List.drop_eq_getElem_cons hl] at h2
    have h3 : cl[k] = c := (List.getElem?_eq_some_iff.1 hk).2
    rw [h3] at h2
    exact h2.symm
  conv => lhs; rw [h1]
  simp [snAll, CA.v]
theorem snAll_succ {cl : List CA} {k : Nat} {c : CA} (hk : cl[k]? = some c) : snAll ((cl.take (k + 1)).map CA.v) = snAll ((cl.take k).map CA.v) ++ c.sn := by
  rw [take_snocI hk]
  simp [snAll, CA.v]
/-- what Good answers -/
def GoodTo (w : World) (o : OV) (e : Ending) (w' : World) : Prop := ∃ b : Bool, e = .returned (.bool b) ∧ (b = true ↔ Good o) ∧ Below w.heap.size w w'
theorem GoodTo.no {w w' : World} {o : OV} (h : ¬ Good o) (hb : Below w.heap.size w w') : GoodTo w o (.returned (.bool false)) w' := ⟨false, rfl, ⟨fun h => (by cases h), fun g => absurd g h⟩, hb⟩
set_option maxHeartbeats 4000000 in
theorem sgood_any {w : World} (o : OA) (h : o.R w) : Calls Try.prog 25 #[.agg o.cs] w (GoodTo w o.v) := by
  obtain ⟨th, dt, D, cd, sq, C, cc, cl⟩ := o
  have H := Lib.hid h
  have hq1 := h.q1
  have hq2 := h.q2
  have hd1 := h.d1
  have hc1 := h.c1
  have HB0 : Hid (∀ ob, Below w.heap.size w (w.alloc ob)) := Lib.hid fun ob => below_alloc w ob
  clear h
  dsimp only at hq1 hq2 hd1 hc1
  unfold OA.cs
  dsimp only
  obtain ⟨nd, hnd⟩ : ∃ nd, nd = dt.length := ⟨_, rfl⟩
  have HND := Lib.hid hnd
  rw [← hnd] at hd1 ⊢
  clear hnd
  by_cases n1 : sq < 0
  · have HN : Hid (¬ Good (OA.v ⟨th, dt, D, cd, sq, C, cc, cl⟩)) := Lib.hid fun g => by have := g.sq; simp only [OA.v] at this; omega
    have e1 : decide (sq < 0) = true := decide_eq_true n1
    go_enter Try.func25, Try.ntmps25
    go_wp2
    go_ret
    exact GoodTo.no HN.out (HB0.out _)
  have e1 : decide (sq < 0) = false := decide_eq_false n1
  by_cases n2 : (256 : Int) < (nd : Int)
  · have HN : Hid (¬ Good (OA.v ⟨th, dt, D, cd, sq, C, cc, cl⟩)) := Lib.hid fun g => by have := g.dt; simp only [OA.v] at this; rw [← HND.out] at this; omega
    have e2 : decide ((256 : Int) < (nd : Int)) = true := decide_eq_true n2
    go_enter Try.func25, Try.ntmps25
    go_wp2
    go_ret
    exact GoodTo.no HN.out (HB0.out _)
  have e2 : decide ((256 : Int) < (nd : Int)) = false := decide_eq_false n2
  by_cases n3 : th = false ∧ (0 : Int) < (nd : Int)
  · have HN : Hid (¬ Good (OA.v ⟨th, dt, D, cd, sq, C, cc, cl⟩)) := Lib.hid fun g => by have := g.th n3.1; simp only [OA.v] at this; have h2 := HND.out; rw [this] at h2; simp at h2; omega
    obtain ⟨rfl, n3⟩ := n3
    have e3 : decide ((0 : Int) < (nd : Int)) = true := decide_eq_true n3
    go_enter Try.func25, Try.ntmps25
    go_wp2
    go_ret
    exact GoodTo.no HN.out (HB0.out _)
  by_cases n4 : (16 : Int) < (cl.length : Int)
  · have HN : Hid (¬ Good (OA.v ⟨th, dt, D, cd, sq, C, cc, cl⟩)) := Lib.hid fun g => by have := g.cn; simp only [OA.v, OA.vs_len] at this; omega
    have e4 : decide ((16 : Int) < (cl.length : Int)) = true := decide_eq_true n4
    cases th with
    | true =>
      go_enter Try.func25, Try.ntmps25
      go_wp2
      go_ret
      exact GoodTo.no HN.out (HB0.out _)
    | false =>
      have e3 : decide ((0 : Int) < (nd : Int)) = false := decide_eq_false (fun h => n3 ⟨rfl, h⟩)
      have e3n : decide (0 < nd) = false := decide_eq_false (fun h => n3 ⟨rfl, by omega⟩)
      have e3z : nd = 0 := by rcases Nat.eq_zero_or_pos nd with h | h; exact h; exact absurd ⟨rfl, by omega⟩ n3
      clear n3
      go_enter Try.func25, Try.ntmps25
      go_wp2
      go_ret
      exact GoodTo.no HN.out (HB0.out _)
  have e4 : decide ((16 : Int) < (cl.length : Int)) = false := decide_eq_false n4
  have HG : Hid (0 ≤ sq ∧ dt.length ≤ 256 ∧ (th = false → dt = []) ∧ cl.length ≤ 16) := Lib.hid ⟨by omega, by rw [← HND.out]; omega, fun ht => (by
    refine List.eq_nil_of_length_eq_zero ?_
    rw [← HND.out]
    rcases Nat.eq_zero_or_pos nd with h | h
    · exact h
    · exact absurd ⟨ht, by omega⟩ n3), by omega⟩
  have e3 : th = true ∨ (th = false ∧ decide ((0 : Int) < (nd : Int)) = false ∧ decide (0 < nd) = false ∧ nd = 0) := by
    cases th with
    | true => exact .inl rfl
    | false =>
      have e3z : nd = 0 := by rcases Nat.eq_zero_or_pos nd with h | h; exact h; exact absurd ⟨rfl, by omega⟩ n3
      exact .inr ⟨rfl, decide_eq_false (by omega), decide_eq_false (by omega), e3z⟩
  clear n3 n1 n2 n4
  rcases e3 with rfl | ⟨rfl, e3, e3n, e3z⟩
  all_goals
    obtain ⟨BK, hBK⟩ : ∃ BK : World → Prop, BK = fun wr => Below w.heap.size w wr ∧ wr.cell? ⟨w.heap.size, 2, none⟩ = some (.int .i64 sq) ∧ w.heap.size < wr.heap.size := ⟨_, rfl⟩
    have HBK := Lib.hid hBK
    have HB1 : ∀ ob n, BK (w.alloc (.cells #[ob, .slice D n cd, .int .i64 sq, .slice C cl.length cc] 36)) := fun ob n => by
      rw [hBK]
      exact ⟨below_alloc w _, (Blk.new w 36 #[ob, .slice D n cd, .int .i64 sq, .slice C cl.length cc]).cell 2, by simp⟩
    have HBA : Hid (∀ wr ob, BK wr → BK (wr.alloc ob)) := Lib.hid fun wr ob h => by
      rw [hBK] at h ⊢
      exact ⟨h.1.alloc h.1.size _, (World.cell?_alloc_lt wr ob _ h.2.2).trans h.2.1, by rw [World.size_alloc]; omega⟩
    have HBS : Hid (∀ wr, BK wr → Below w.heap.size w wr ∧ wr.cell? ⟨w.heap.size, 2, none⟩ = some (.int .i64 sq)) := Lib.hid fun wr h => by
      rw [hBK] at h
      exact ⟨h.1, h.2.1⟩
    have HB2 := Lib.hid HB1
    clear hBK HB1
    go_enter Try.func25, Try.ntmps25
    go_wp2
    go_loopw [3, 37] (fun l i wr => ∃ k : Nat, k ≤ cl.length ∧ i = .int .i64 k ∧ l = .int .i64 (topI 0 (snAll ((cl.take k).map CA.v))) ∧ riseB 0 (snAll ((cl.take k).map CA.v)) = true ∧ (∀ c ∈ cl.take k, ClG c.v) ∧ BK wr) (fun _ i _ => cl.length - (intOf i).toNat)
    case atStart => exact ⟨0, by omega, rfl, rfl, rfl, fun c hc => by simp at hc, HB2.out _ _⟩
    case round =>
      obtain ⟨k, hk, rfl, rfl, hr, hcg, hb⟩ := hrel
      have HI := Lib.hid (And.intro hr (And.intro hcg hb))
      obtain ⟨T0, hT0⟩ : ∃ T0, T0 = topI 0 (snAll ((cl.take k).map CA.v)) := ⟨_, rfl⟩
      have HT0 := Lib.hid hT0
      rw [← hT0]
      clear hr hcg hb hT0
      obtain ⟨wo, hwo⟩ : ∃ wo, wo = wr := ⟨_, rfl⟩
      subst hwo
      by_cases hlt : k < cl.length
      · have hwk : IntKind.i64.wrap ((k : Int) + 1) = (k : Int) + 1 := by rw [IntKind.wrap_i64]; omega
        obtain ⟨c, hcl⟩ : ∃ c, cl[k]? = some c := ⟨_, List.getElem?_eq_getElem hlt⟩
        have hRr := H.out.since (HBS.out _ HI.out.2.2).1
        obtain ⟨ad, rfl, hl, hc⟩ := hRr.get hcl
        have hok := hRr.cl c (List.mem_of_getElem? hcl)
        have HCL := Lib.hid hcl
        have HOK := Lib.hid hok
        have hs1 := hok.s1
        have hs2 := hok.d1
        have hx1 := hok.s2
        have hx2 := hok.d2
        clear hRr hok hcl
        by_cases m1 : (c.sn.length : Int) = 0
        · have f1 : ((c.sn.length : Int) == 0) = true := beq_iff_eq.2 m1
          have f1' : decide ((c.sn.length : Int) = 0) = true := decide_eq_true m1
          have HN : Hid (∀ tx, ¬ Good (OA.v ⟨tx, dt, D, cd, sq, some ad, cc, cl⟩)) := Lib.hid fun tx g => (g.cl c.v (List.mem_map.2 ⟨c, List.mem_of_getElem? HCL.out, rfl⟩)).ne (List.eq_nil_of_length_eq_zero (by simp only [CA.v]; omega))
          go_wp2_with (have _h := hc; refine wpList_load_scl rfl (.tmp 39) rfl _ rfl c hc ?_; clear _h hc)
          go_ret
          exact GoodTo.no (HN.out _) (HBS.out _ (HBA.out _ _ HI.out.2.2)).1
        have f1 : ((c.sn.length : Int) == 0) = false := beq_eq_false_iff_ne.2 m1
        have f1' : decide ((c.sn.length : Int) = 0) = false := decide_eq_false m1
        by_cases m2 : (256 : Int) < (c.dt.length : Int)
        · have f2 : decide ((256 : Int) < (c.dt.length : Int)) = true := decide_eq_true m2
          have HN : Hid (∀ tx, ¬ Good (OA.v ⟨tx, dt, D, cd, sq, some ad, cc, cl⟩)) := Lib.hid fun tx g => by have := (g.cl c.v (List.mem_map.2 ⟨c, List.mem_of_getElem? HCL.out, rfl⟩)).dt; simp only [CA.v] at this; omega
          go_wp2_with (have _h := hc; refine wpList_load_scl rfl (.tmp 39) rfl _ rfl c hc ?_; clear _h hc)
          go_ret
          exact GoodTo.no (HN.out _) (HBS.out _ (HBA.out _ _ HI.out.2.2)).1
        have f2 : decide ((256 : Int) < (c.dt.length : Int)) = false := decide_eq_false m2
        have HCG : Hid (ClG c.v) := Lib.hid ⟨fun e => m1 (by simp only [CA.v] at e; rw [e]; rfl), by simp only [CA.v]; omega⟩
        clear m1 m2
        go_wp2_with (have _h := hc; refine wpList_load_scl rfl (.tmp 39) rfl _ rfl c hc ?_; clear _h hc)
        go_loopw [3, 54] (fun l i wr => ∃ q : Nat, q ≤ c.sn.length ∧ i = .int .i64 q ∧ l = .int .i64 (topI T0 (c.sn.take q)) ∧ riseB T0 (c.sn.take q) = true ∧ BK wr) (fun _ i _ => c.sn.length - (intOf i).toNat)
        case atStart => exact ⟨0, by omega, rfl, rfl, rfl, HBA.out _ _ HI.out.2.2⟩
        case round =>
          obtain ⟨q, hq, rfl, rfl, hr, hb⟩ := hrel
          have HJ := Lib.hid (And.intro hr hb)
          obtain ⟨T1, hT1⟩ : ∃ T1, T1 = topI T0 (c.sn.take q) := ⟨_, rfl⟩
          have HT1 := Lib.hid hT1
          rw [← hT1]
          clear hr hb hT1
          by_cases hlq : q < c.sn.length
          · have hwq : IntKind.i64.wrap ((q : Int) + 1) = (q : Int) + 1 := by rw [IntKind.wrap_i64]; omega
            obtain ⟨a2, x, hA2, hx, hcx⟩ := (((H.out.since (HBS.out _ HJ.out.2).1).cl c (List.mem_of_getElem? HCL.out)).sn).at_ hlq
            have HX := Lib.hid hx
            clear hx
            generalize c.S = cS at *
            subst hA2
            by_cases hle : x ≤ T1
            · have g1 : decide (x ≤ T1) = true := decide_eq_true hle
              have HN : Hid (∀ tx, ¬ Good (OA.v ⟨tx, dt, D, cd, sq, some ad, cc, cl⟩)) := Lib.hid fun tx g => by
                have h1 := ((good_iff _).1 g).2.2.1
                simp only [OA.v, OA.vs] at h1
                rw [snAll_at HCL.out] at h1
                have h2 := rise_mid h1 HX.out
                rw [← HT0.out, ← HT1.out] at h2
                omega
              go_wp2
              go_ret
              exact GoodTo.no (HN.out _) (HBS.out _ HJ.out.2).1
            · have g1 : decide (x ≤ T1) = false := decide_eq_false hle
              go_wp2
              go_roundw
              case rel =>
                have h3 := rise_step HJ.out.1 HX.out (by rw [← HT1.out]; omega)
                exact ⟨q + 1, by omega, by go_num, by rw [h3.2], h3.1, HJ.out.2⟩
              case measure => simp [intOf]; omega
          · obtain rfl : q = c.sn.length := by omega
            go_wp2
            go_roundw
            case rel =>
              have h4 := HJ.out.1
              rw [List.take_of_length_le (Nat.le_refl _)] at h4
              have h5 := HT1.out
              rw [List.take_of_length_le (Nat.le_refl _)] at h5
              refine ⟨k + 1, by omega, by go_num, ?_, ?_, fun c' hc' => ?_, HJ.out.2⟩
              · rw [snAll_succ HCL.out, topI_app, ← HT0.out, h5]
              · rw [snAll_succ HCL.out, riseB_app, ← HT0.out, h4, HI.out.1]
                rfl
              · rw [take_snocI HCL.out] at hc'
                rcases List.mem_append.1 hc' with h | h
                · exact HI.out.2.1 c' h
                · simp at h
                  subst h
                  exact HCG.out
            case measure => simp [intOf]; omega
      · obtain rfl : k = cl.length := by omega
        have hc2 := (HBS.out _ HI.out.2.2).2
        go_wp2
        go_ret
        have h4 := HI.out.1
        have h5 := HT0.out
        have h6 := HI.out.2.1
        rw [List.take_of_length_le (Nat.le_refl _)] at h4 h5 h6
        refine ⟨_, rfl, ?_, (HBS.out _ HI.out.2.2).1⟩
        rw [decide_eq_true_iff, good_iff]
        simp only [OA.v, OA.vs]
        rw [← h5]
        refine ⟨fun h => ⟨⟨HG.out.1, HG.out.2.1, HG.out.2.2.1, by simpa using HG.out.2.2.2⟩, fun x hx => ?_, h4, h⟩, fun h => h.2.2.2⟩
        obtain ⟨c', hc', rfl⟩ := List.mem_map.1 hx
        exact h6 c' hc'
/-! ### a number among numbers -/
def IndexTo (w : World) (l : List Int) (x : Int) (e : Ending) (w' : World) : Prop := (∃ v : Int, e = .returned (.int .i64 v) ∧ ((x ∈ l ∧ 0 ≤ v) ∨ (x ∉ l ∧ v = -1))) ∧ w = w'
set_option maxHeartbeats 2000000 in
theorem index_any {w : World} {B n c : Nat} {A : Option Addr} {l : List Int} (x : Int) (h : Ints w B A n l) (hn : n ≤ 9223372036854775807) :
    Calls Try.prog 83 #[.slice A n c, .int .i64 x] w (IndexTo w l x) := by
  have H := Lib.hid h
  have hln := h.len
  have HLN := Lib.hid hln
  clear h hln
  go_enter Try.func83, Try.ntmps83
  go_wp2
  go_loopw [8] (fun i wr => ∃ k : Nat, k ≤ n ∧ i = .int .i64 k ∧ x ∉ l.take k ∧ wr = w) (fun i _ => n - (intOf i).toNat)
  case atStart => exact ⟨0, by omega, rfl, by simp, rfl⟩
  case round =>
    obtain ⟨k, hk, rfl, hx, rfl⟩ := hrel
    have HX := Lib.hid hx
    clear hx
    by_cases hlt : k < n
    · have hwk : IntKind.i64.wrap ((k : Int) + 1) = (k : Int) + 1 := by rw [IntKind.wrap_i64]; omega
      obtain ⟨ad, y, rfl, hy, hc⟩ := H.out.at_ hlt
      have HY := Lib.hid hy
      clear hy
      by_cases he : x = y
      · have hb : (x == y) = true := beq_iff_eq.2 he
        go_wp2
        go_ret
        exact ⟨⟨_, rfl, .inl ⟨by rw [he]; exact List.mem_of_getElem? HY.out, by omega⟩⟩, rfl⟩
      · have hb : (x == y) = false := beq_eq_false_iff_ne.2 he
        go_wp2
        go_roundw
        case rel =>
          refine ⟨k + 1, by omega, by go_num, ?_, by first | rfl | trivial⟩
          rw [take_snocI HY.out]
          intro hm
          rcases List.mem_append.1 hm with h | h
          · exact HX.out h
          · simp at h; exact he h
        case measure => simp [intOf]; omega
    · obtain rfl : k = n := by omega
      go_wp2
      go_ret
      refine ⟨⟨_, rfl, .inr ⟨?_, rfl⟩⟩, rfl⟩
      have := HX.out
      rwa [List.take_of_length_le (by rw [HLN.out]; omega)] at this
def ContTo (w : World) (l : List Int) (x : Int) (e : Ending) (w' : World) : Prop := e = .returned (.bool (l.contains x)) ∧ w = w'
theorem contains_any {w : World} {B n c : Nat} {A : Option Addr} {l : List Int} (x : Int) (h : Ints w B A n l) (hn : n ≤ 9223372036854775807) :
    Calls Try.prog 42 #[.slice A n c, .int .i64 x] w (ContTo w l x) := by
  have H := Lib.hid (index_any (c := c) x h hn)
  clear h
  go_enter Try.func42, Try.ntmps42
  go_wp2_with fail
  refine H.out.mono ?_
  rintro e w' ⟨⟨v, rfl, hv⟩, rfl⟩
  have hd : decide ((0 : Int) ≤ v) = l.contains x := by
    rw [Bool.eq_iff_iff, decide_eq_true_iff, List.contains_iff_mem]
    rcases hv with ⟨h1, h2⟩ | ⟨h1, h2⟩
    · exact ⟨fun _ => h1, fun _ => h2⟩
    · exact ⟨fun h => by omega, fun h => absurd h h1⟩
  have HD := Lib.hid hd
  clear hv H hd
  go_wp2
  go_ret
  exact ⟨by show Ending.returned (.bool (decide (0 ≤ v))) = _; rw [HD.out], rfl⟩
end Go.Proofs.Ytcbpdalfindmgaa

/-
  What the program says an object is at a snapshot. Conditions: the object reads as it is said to, and is small.
-/
namespace Go.Proofs.Ytcbpdalfindmgaa
open Go.RowKit
set_option linter.unusedSimpArgs false
set_option linter.unusedVariables false
set_option maxRecDepth 100000
/-- a variable made at the start of a call, and all behind it new -/
structure Box1 (w : World) (t : TypeId) (cs : Array Value) (wr : World) : Prop where
  bel : Below w.heap.size w wr
  blk : Blk wr w.heap.size t cs
section
variable {w wr wr' : World} {t : TypeId} {cs : Array Value}
theorem Box1.new (w : World) (t : TypeId) (cs : Array Value) : Box1 w t cs (w.alloc (.cells cs t)) := ⟨below_alloc w _, Blk.new w t cs⟩
theorem Box1.next (h : Box1 w t cs wr) (hb : Below wr.heap.size wr wr') : Box1 w t cs wr' := ⟨h.bel.trans (hb.mono h.bel.size), h.blk.of (hb.block _ h.blk.lt)⟩
theorem Box1.alloc (h : Box1 w t cs wr) (o : Obj) : Box1 w t cs (wr.alloc o) := h.next (below_alloc wr o)
theorem Box1.drew (h : Box1 w t cs wr) : Box1 w t cs wr.drew := h.next (Below.refl _ wr).drew
end
theorem atC_at {cl : List CA} {k : Nat} {c : CA} {s : Int} (hk : cl[k]? = some c) (h0 : s ∉ snAll ((cl.take k).map CA.v)) (hs : s ∈ c.sn) : atC (cl.map CA.v) s = some c.dt := by
  have hl := (List.getElem?_eq_some_iff.1 hk).1
  have h1 : cl = cl.take k ++ (c :: cl.drop (k + 1)) := by
    have h2 := List.take_append_drop k cl
    rw [List.drop_eq_getElem_cons hl] at h2
    have h3 : cl[k] = c := (List.getElem?_eq_some_iff.1 hk).2
    rw [h3] at h2
    exact h2.symm
  rw [h1, List.map_append, atC_app, atC_none.2 h0, List.map_cons]
  simp only [atC]
  rw [List.find?_cons_of_pos (by simpa [CA.v] using hs)]
  rfl
theorem headAt_yes {o : OV} {s : Int} (h : o.th = true ∧ ¬ (0 < s ∧ s ≤ o.sq)) : headAt o s = some o.dt := if_pos h
theorem headAt_no {o : OV} {s : Int} (h : ¬ (o.th = true ∧ ¬ (0 < s ∧ s ≤ o.sq))) : headAt o s = none := if_neg h
/-- what At answers -/
def AtTo (w : World) (o : OV) (s : Int) (e : Ending) (w' : World) : Prop := Below w.heap.size w w' ∧
  ((∃ d v, Good o ∧ 0 ≤ s ∧ atO o s = some d ∧ e = .returned (.tuple #[v, .bool true]) ∧ Own w' w.heap.size v d.length d ∧ ∀ b ∈ d, b < 256) ∨
   ((Good o → 0 ≤ s → atO o s = none) ∧ e = .returned (.tuple #[.slice none 0 0, .bool false])))
theorem AtTo.no {w w' : World} {o : OV} {s : Int} (h : Good o → 0 ≤ s → atO o s = none) (hb : Below w.heap.size w w') : AtTo w o s (.returned (.tuple #[.slice none 0 0, .bool false])) w' := ⟨hb, .inr ⟨h, rfl⟩⟩
set_option maxHeartbeats 4000000 in
theorem sat_any {w : World} (o : OA) (s : Int) (h : o.R w) (hS : o.Sm) : Calls Try.prog 23 #[.agg o.cs, .int .i64 s] w (AtTo w o.v s) := by
  have H := Lib.hid h
  have HSM := Lib.hid hS
  have hq1 := h.q1
  have hq2 := h.q2
  have hd1 := h.d1
  have hc1 := h.c1
  have HB := Lib.hid (Box1.new w 36 o.cs)
  have HGD := Lib.hid (sgood_any o (h.since (HB.out.bel)))
  have hcs : o.cs = #[.bool o.th, .slice o.D o.dt.length o.cd, .int .i64 o.sq, .slice o.C o.cl.length o.cc] := rfl
  clear h hS
  rw [hcs] at HB HGD
  rw [hcs]
  clear hcs
  obtain ⟨th, dt, D, cd, sq, C, cc, cl⟩ := o
  dsimp only at hq1 hq2 hd1 hc1 HB HGD ⊢
  obtain ⟨ov, hov⟩ : ∃ ov, ov = OA.v ⟨th, dt, D, cd, sq, C, cc, cl⟩ := ⟨_, rfl⟩
  rw [← hov] at HGD ⊢
  have HOV := Lib.hid hov
  clear hov
  go_enter Try.func23, Try.ntmps23
  go_wp2_with fail
  refine HGD.out.mono ?_
  rintro e w1 ⟨b, rfl, hg, hb1⟩
  have HB1 := Lib.hid (HB.out.next hb1)
  have HG := Lib.hid hg
  clear hb1 hg HGD HB
  cases b with
  | false =>
    have HN : Hid (AtTo w ov s (.returned (.tuple #[.slice none 0 0, .bool false])) w1) := Lib.hid (AtTo.no (fun g => by have := HG.out.2 g; cases this) HB1.out.bel)
    go_wp2
    go_ret2
    exact HN.out
  | true =>
  have HGO := Lib.hid (HG.out.1 rfl)
  clear HG
  by_cases hneg : s < 0
  · have e1 : decide (s < 0) = true := decide_eq_true hneg
    have HN : Hid (AtTo w ov s (.returned (.tuple #[.slice none 0 0, .bool false])) w1) := Lib.hid (AtTo.no (fun _ h => by omega) HB1.out.bel)
    go_wp2
    go_ret2
    exact HN.out
  have e1 : decide (s < 0) = false := decide_eq_false hneg
  have q0 : w1.cell? ⟨w.heap.size, 0, none⟩ = some (.bool th) := HB1.out.blk.cell 0
  have q1 : w1.cell? ⟨w.heap.size, 1, none⟩ = some (.slice D dt.length cd) := HB1.out.blk.cell 1
  have q2 : w1.cell? ⟨w.heap.size, 2, none⟩ = some (.int .i64 sq) := HB1.out.blk.cell 2
  have q3 : w1.cell? ⟨w.heap.size, 3, none⟩ = some (.slice C cl.length cc) := HB1.out.blk.cell 3
  go_wp2
  go_loopw [18] (fun i wr => ∃ k : Nat, k ≤ cl.length ∧ i = .int .i64 k ∧ s ∉ snAll ((cl.take k).map CA.v) ∧ Box1 w 36 #[.bool th, .slice D dt.length cd, .int .i64 sq, .slice C cl.length cc] wr) (fun i _ => cl.length - (intOf i).toNat)
  case atStart => exact ⟨0, by omega, rfl, by simp [snAll], HB1.out⟩
  case round =>
    obtain ⟨k, hk, rfl, hn, hb⟩ := hrel
    have HI := Lib.hid (And.intro hn hb)
    clear hn hb q0 q1 q2 q3
    obtain ⟨wo, hwo⟩ : ∃ wo, wo = wr := ⟨_, rfl⟩
    subst hwo
    by_cases hlt : k < cl.length
    · have hwk : IntKind.i64.wrap ((k : Int) + 1) = (k : Int) + 1 := by rw [IntKind.wrap_i64]; omega
      obtain ⟨c, hcl⟩ : ∃ c, cl[k]? = some c := ⟨_, List.getElem?_eq_getElem hlt⟩
      have hRr := H.out.since HI.out.2.bel
      obtain ⟨ad, rfl, hl, hc⟩ := hRr.get hcl
      have hok := hRr.cl c (List.mem_of_getElem? hcl)
      have hsm := HSM.out.cl c (List.mem_of_getElem? hcl)
      have HCL := Lib.hid hcl
      have hs1 := hok.s1
      have hx2 := hok.d2
      have hba : Below wo.heap.size wo (wo.alloc (.cells #[.slice c.S c.sn.length c.cs, .slice c.D c.dt.length c.cd] 79)) := below_alloc wo _
      have HCT := Lib.hid (contains_any (c := c.cs) s (hok.since hba).sn (by omega))
      have HCV := Lib.hid (clone_any c.D c.dt.length c.cd c.dt (wo.alloc (.cells #[.slice c.S c.sn.length c.cs, .slice c.D c.dt.length c.cd] 79)) _ (by omega) (hok.since hba).dt)
      have HBA := Lib.hid (HI.out.2.next hba)
      have HDT := Lib.hid hok.dt.2
      clear hRr hok hcl hba
      go_wp2_with (have _h := hc; refine wpList_load_scl rfl (.tmp 20) rfl _ rfl c hc ?_; clear _h hc)
      refine HCT.out.mono ?_
      rintro e w' ⟨rfl, rfl⟩
      have hbel := HBA.out.bel
      by_cases hct : c.sn.contains s = true
      · have hat := atC_at HCL.out HI.out.1 (List.contains_iff_mem.1 hct)
        have HAT := Lib.hid hat
        clear hat hbel
        generalize c.sn.contains s = bb at hct ⊢
        subst hct
        go_wp2_with fail
        refine HCV.out.mono ?_
        rintro e w2 ⟨v, rfl, hv, hb2⟩
        have HFIN : Hid (AtTo w ov s (.returned (.tuple #[v, .bool true])) w2) := Lib.hid ⟨(HBA.out.next hb2).bel, .inl ⟨c.dt, v, HGO.out, by omega, by rw [HOV.out]; unfold atO; simp only [OA.v, OA.vs]; rw [HAT.out], rfl, hv.weaken (HBA.out.bel.size), HDT.out⟩⟩
        clear hv hb2 HCV
        go_wp2
        go_ret2
        exact HFIN.out
      · have hct' : c.sn.contains s = false := by simpa using hct
        have HCF := Lib.hid hct'
        clear hbel hct
        generalize c.sn.contains s = bb at hct' ⊢
        subst hct'
        go_wp2
        go_roundw
        case rel =>
          refine ⟨k + 1, by omega, by go_num, ?_, HBA.out⟩
          rw [snAll_succ HCL.out]
          intro hm
          rcases List.mem_append.1 hm with h | h
          · exact HI.out.1 h
          · have := List.contains_iff_mem.2 h
            rw [HCF.out] at this
            cases this
        case measure => simp [intOf]; omega
    · obtain rfl : k = cl.length := by omega
      have q0 : wo.cell? ⟨w.heap.size, 0, none⟩ = some (.bool th) := HI.out.2.blk.cell 0
      have q1 : wo.cell? ⟨w.heap.size, 1, none⟩ = some (.slice D dt.length cd) := HI.out.2.blk.cell 1
      have q2 : wo.cell? ⟨w.heap.size, 2, none⟩ = some (.int .i64 sq) := HI.out.2.blk.cell 2
      have hac : atC ov.cl s = none := by
        rw [HOV.out]
        have := HI.out.1
        rw [List.take_of_length_le (Nat.le_refl _)] at this
        exact atC_none.2 this
      have HA : Hid (atO ov s = headAt ov s) := Lib.hid (by unfold atO; rw [hac])
      have HDT := Lib.hid (H.out.since HI.out.2.bel).dt
      have HSD : Hid (dt.length ≤ 10000) := Lib.hid HSM.out.dt
      clear hac
      by_cases hth : th = true ∧ ¬ (0 < s ∧ s ≤ sq)
      · have hh : headAt ov s = some dt := by rw [HOV.out]; exact headAt_yes hth
        have HH := Lib.hid hh
        have ht : th = true := hth.1
        have HCV := Lib.hid (clone_any D dt.length cd dt wo _ (by have := HSD.out; omega) HDT.out)
        rw [ht] at q0
        clear hh ht
        have hpost : ∀ (v : Value) (w2 : World), Own w2 wo.heap.size v dt.length dt → Below wo.heap.size wo w2 → AtTo w ov s (.returned (.tuple #[v, .bool true])) w2 := fun v w2 hv hb2 => ⟨(HI.out.2.next hb2).bel, .inl ⟨dt, v, HGO.out, by omega, by rw [HA.out, HH.out], rfl, hv.weaken HI.out.2.bel.size, HDT.out.2⟩⟩
        have HP := Lib.hid hpost
        clear hpost
        by_cases hs0 : 0 < s
        · have f1 : decide (0 < s) = true := decide_eq_true hs0
          have f2 : decide (s ≤ sq) = false := decide_eq_false fun h => hth.2 ⟨hs0, h⟩
          clear hth
          go_wp2_with fail
          refine HCV.out.mono ?_
          rintro e w2 ⟨v, rfl, hv, hb2⟩
          have HFIN := Lib.hid (HP.out v w2 hv hb2)
          clear hv hb2 HCV
          go_wp2
          go_ret2
          exact HFIN.out
        · have f1 : decide (0 < s) = false := decide_eq_false hs0
          clear hth
          go_wp2_with fail
          refine HCV.out.mono ?_
          rintro e w2 ⟨v, rfl, hv, hb2⟩
          have HFIN := Lib.hid (HP.out v w2 hv hb2)
          clear hv hb2 HCV
          go_wp2
          go_ret2
          exact HFIN.out
      · have hh : headAt ov s = none := by rw [HOV.out]; exact headAt_no hth
        have HN : Hid (AtTo w ov s (.returned (.tuple #[.slice none 0 0, .bool false])) wo) := Lib.hid (AtTo.no (fun _ _ => by rw [HA.out, hh]) HI.out.2.bel)
        clear hh
        cases th with
        | false =>
          clear hth
          go_wp2
          go_ret2
          exact HN.out
        | true =>
          have ht : true = true := rfl
          have hs0 : 0 < s := by
            rcases Int.lt_or_le 0 s with h | h
            · exact h
            · exact absurd ⟨ht, fun h' => by omega⟩ hth
          have hs1 : s ≤ sq := by
            rcases Int.lt_or_le sq s with h | h
            · exact absurd ⟨ht, fun h' => by omega⟩ hth
            · exact h
          have f1 : decide (0 < s) = true := decide_eq_true hs0
          have f2 : decide (s ≤ sq) = true := decide_eq_true hs1
          clear ht hth
          go_wp2
          go_ret2
          exact HN.out
end Go.Proofs.Ytcbpdalfindmgaa

/-
  What the calls of the program's reader, nil or not, do. Conditions: the reader lies where it is said to.
-/
namespace Go.Proofs.Ytcbpdalfindmgaa
open Go.RowKit
set_option linter.unusedSimpArgs false
set_option maxRecDepth 100000
set_option linter.unusedVariables false
/-- a reader of the call's own at g -/
def RdAt (w : World) (base : Nat) (F : List Nat) (g : Nat) (s : RD) : Prop :=
  ∃ A c, F = g :: (A.map Addr.block).toList ∧ Blk w g 122 #[.slice A s.bs.length c, .bool s.bad] ∧ Bytes w w.heap.size A s.bs.length s.bs ∧ s.bs.length ≤ c ∧ c ≤ maxLen ∧ base ≤ g ∧ (∀ a, A = some a → base ≤ a.block ∧ a.block < w.heap.size ∧ a.block ≠ g) ∧ s.Good
/-- a reader, nil or of the call's own -/
def Rd (w : World) (base : Nat) (F : List Nat) (p : Option Addr) (s : RD) : Prop := (p = none ∧ F = [] ∧ s = RD.spoilt) ∨ ∃ g, p = some ⟨g, 0, none⟩ ∧ RdAt w base F g s
def RTo (w : World) (base : Nat) (F : List Nat) (p : Option Addr) (s : RD) (w' : World) : Prop := ∃ F', Rd w' base F' p s ∧ Only F w w' ∧ Fresh w F F'
section
variable {w w' w1 : World} {base g : Nat} {F : List Nat} {p : Option Addr} {s : RD}
theorem RdAt.of (h : RdAt w base F g s) (hs : w.heap.size ≤ w'.heap.size) (hk : ∀ k, k ∈ F → w'.heap[k]? = w.heap[k]?) : RdAt w' base F g s := by
  obtain ⟨A, c, rfl, h1, h2, h3, h4, h5, h6, h7⟩ := h
  refine ⟨A, c, rfl, h1.of (hk g (by simp)), ⟨⟨h2.1.1, fun hn => ?_⟩, h2.2⟩, h3, h4, h5, fun a ha => ⟨(h6 a ha).1, Nat.lt_of_lt_of_le (h6 a ha).2.1 hs, (h6 a ha).2.2⟩, h7⟩
  obtain ⟨ad, e, hB, hc⟩ := h2.1.2 hn
  exact ⟨ad, e, Nat.lt_of_lt_of_le hB hs, fun j u hu => (World.cell?_of_block (hk _ (by rw [block_of_add, e]; simp))).trans (hc j u hu)⟩
theorem RdAt.under (h : RdAt w base F g s) : Under w F := by
  obtain ⟨A, c, rfl, h1, h2, h3, h4, h5, h6, h7⟩ := h
  intro k hk
  rcases List.mem_cons.1 hk with rfl | hk
  · exact h1.lt
  · cases A with
    | none => cases hk
    | some a => simp at hk; subst hk; exact (h6 a rfl).2.1
theorem RdAt.over (h : RdAt w base F g s) : Over base F := by
  obtain ⟨A, c, rfl, h1, h2, h3, h4, h5, h6, h7⟩ := h
  intro k hk
  rcases List.mem_cons.1 hk with rfl | hk
  · exact h5
  · cases A with
    | none => cases hk
    | some a => simp at hk; subst hk; exact (h6 a rfl).1
theorem Rd.under (h : Rd w base F p s) : Under w F := by
  rcases h with ⟨_, rfl, _⟩ | ⟨g, _, h⟩
  · exact fun k hk => by cases hk
  · exact h.under
theorem Rd.over (h : Rd w base F p s) : Over base F := by
  rcases h with ⟨_, rfl, _⟩ | ⟨g, _, h⟩
  · exact fun k hk => by cases hk
  · exact h.over
theorem Rd.of (h : Rd w base F p s) (hs : w.heap.size ≤ w'.heap.size) (hk : ∀ k, k ∈ F → w'.heap[k]? = w.heap[k]?) : Rd w' base F p s := by
  rcases h with h | ⟨g, hp, h⟩
  · exact .inl h
  · exact .inr ⟨g, hp, h.of hs hk⟩
theorem Rd.below (h : Rd w base F p s) (hb : Below w.heap.size w w') : Rd w' base F p s := h.of hb.size fun k hk => hb.block k (h.under k hk)
theorem Rd.good (h : Rd w base F p s) : s.Good := by
  rcases h with ⟨_, _, rfl⟩ | ⟨g, _, A, c, _, _, _, _, _, _, _, h⟩
  · exact RD.spoilt_good
  · exact h
theorem Rd.len (h : Rd w base F p s) : s.bs.length ≤ maxLen := by
  rcases h with ⟨_, _, rfl⟩ | ⟨g, _, A, c, _, _, _, h1, h2, _⟩
  · simp [RD.spoilt, maxLen]
  · omega
theorem RTo.after {F1 : List Nat} (ho : Only F w w1) (hf : Fresh w F F1) (h : RTo w1 base F1 p s w') : RTo w base F p s w' := by
  obtain ⟨F2, h1, h2, h3⟩ := h
  exact ⟨F2, h1, ho.trans h2 hf, hf.trans h3 ho.size⟩
theorem RTo.since (hb : Below w.heap.size w w1) (h : RTo w1 base F p s w') : RTo w base F p s w' := h.after (Only.of_below hb F) (Fresh.refl _ _)
theorem RTo.stay (h : Rd w base F p s) : RTo w base F p s w := ⟨F, h, Only.refl _ _, Fresh.refl _ _⟩
theorem RTo.then_ (h : RTo w base F p s w1) (hb : Below w1.heap.size w1 w') : RTo w base F p s w' := by
  obtain ⟨F2, h1, h2, h3⟩ := h
  exact ⟨F2, h1.below hb, h2.trans (Only.of_below hb F2) h3, h3⟩
end
theorem left_any (w : World) (base : Nat) (F : List Nat) (p : Option Addr) (s : RD) (h : Rd w base F p s) :
    Calls Try.prog 91 #[.pointer p] w fun e w' => e = .returned (.int .i64 s.bs.length) ∧ w = w' := by
  rcases h with ⟨rfl, rfl, rfl⟩ | ⟨g, rfl, A, c, rfl, h1, h2, h3, h4, h5, h6, h7⟩
  · go_enter Try.func91, Try.ntmps91
    go_wp2
    go_ret
    exact ⟨rfl, rfl⟩
  · have hc : w.cell? ⟨g, 0, none⟩ = some (.slice A s.bs.length c) := by rw [h1.cell]; rfl
    go_enter Try.func91, Try.ntmps91
    go_wp2
    go_ret
    exact ⟨rfl, rfl⟩
theorem reader_zero (w : World) : (zeroValue 122).run Try.prog w = .ok (.agg #[.slice none 0 0, .bool false]) w := by kernel_rfl
theorem spoil_any (w : World) (base : Nat) (F : List Nat) (p : Option Addr) (s : RD) (h : Rd w base F p s) :
    Calls Try.prog 88 #[.pointer p] w fun e w' => e = .returned (.tuple #[]) ∧ RTo w base F p RD.spoilt w' := by
  rcases h with ⟨rfl, rfl, rfl⟩ | ⟨g, rfl, A, c, rfl, h1, h2, h3, h4, h5, h6, h7⟩
  · go_enter Try.func88, Try.ntmps88
    go_wp2
    refine bodyPost_end (results_none rfl _ _ _) rfl ?_
    exact ⟨rfl, RTo.stay (.inl ⟨rfl, rfl, rfl⟩)⟩
  · have hc0 : w.cell? ⟨g, 0, none⟩ = some (.slice A s.bs.length c) := by rw [h1.cell]; rfl
    have hc1 : w.cell? ⟨g, 1, none⟩ = some (.bool s.bad) := by rw [h1.cell]; rfl
    have hf0 : w.frozen? ⟨g, 0, none⟩ = false := h1.frozen _
    have hf1 : w.frozen? ⟨g, 1, none⟩ = false := h1.frozen _
    have hz := reader_zero
    go_enter Try.func88, Try.ntmps88
    go_wp2
    refine bodyPost_end (results_none rfl _ _ _) rfl ?_
    have hb2 : Blk ((w.setCell ⟨g, 0, none⟩ (.slice none 0 0)).setCell ⟨g, 1, none⟩ (.bool true)) g 122 #[.slice none 0 0, .bool true] := (h1.set_ 0 _).set_ 1 _
    exact ⟨rfl, [g], .inr ⟨g, rfl, none, 0, rfl, hb2, ⟨Reads.none_, fun b hb => by cases hb⟩, Nat.le_refl _, by simp [maxLen], h5, fun a ha => (by cases ha), RD.spoilt_good⟩,
      ((Only.refl _ _).setCell (.inl (by simp)) _).setCell (.inl (by simp)) _, fun k hk => .inl (by simp at hk; subst hk; simp)⟩
theorem cut_addr (A : Option Addr) (k cap : Nat) (a : Addr) (h : (if cap = k then A else A.map (·.add k)) = some a) : ∃ a', A = some a' ∧ a'.block = a.block := by
  split at h
  · exact ⟨a, h, rfl⟩
  · cases A with
    | none => cases h
    | some a' => simp at h; exact ⟨a', rfl, by rw [← h, block_of_add]⟩
theorem RD.take_fit {s : RD} {k : Nat} (hb : s.bad = false) (hk : k ≤ s.bs.length) : s.take k = ⟨s.bs.drop k, false⟩ ∧ s.got k = s.bs.take k := by
  have : s.fits k = true := by simp [RD.fits, hb]; omega
  simp [RD.take, RD.got, this]
theorem RD.take_un {s : RD} {n : Int} (h : n < 0 ∨ (s.bs.length : Int) < n ∨ s.bad = true) : s.take n = RD.spoilt ∧ s.got n = [] := by
  have : s.fits n = false := by
    simp only [RD.fits, Bool.and_eq_false_iff, Bool.not_eq_false', decide_eq_false_iff_not]
    rcases h with h | h | h
    · exact .inl (.inr (by omega))
    · exact .inr (by omega)
    · exact .inl (.inl h)
  simp [RD.take, RD.got, this]
theorem RD.eta {s : RD} (h : s.Good) (hb : s.bad = true) : s = RD.spoilt := by
  obtain ⟨bs, bad⟩ := s
  have := h.1 hb
  simp at hb this
  subst hb this
  rfl
theorem take_done (w : World) (base g k : Nat) (A : Option Addr) (c : Nat) (s : RD) (h1 : Blk w g 122 #[.slice A s.bs.length c, .bool s.bad]) (h2 : Bytes w w.heap.size A s.bs.length s.bs) (h3 : s.bs.length ≤ c) (h4 : c ≤ maxLen) (h5 : base ≤ g) (h6 : ∀ a, A = some a → base ≤ a.block ∧ a.block < w.heap.size ∧ a.block ≠ g) (h7 : s.Good) (hk : k ≤ s.bs.length) (hbad : s.bad = false) :
    RTo w base (g :: (A.map Addr.block).toList) (some ⟨g, 0, none⟩) ⟨s.bs.drop k, false⟩ (w.setCell ⟨g, 0, none⟩ (.slice (if c = k then A else A.map (·.add k)) (s.bs.length - k) (c - k))) ∧
    Bytes (w.setCell ⟨g, 0, none⟩ (.slice (if c = k then A else A.map (·.add k)) (s.bs.length - k) (c - k))) w.heap.size A k (s.bs.take k) := by
  have hset : ∀ (B n : Nat) (A' : Option Addr) (bs : List Nat) (v : Value), Bytes w B A' n bs → (∀ a, A' = some a → a.block ≠ g) → Bytes (w.setCell ⟨g, 0, none⟩ v) B A' n bs := fun B n A' bs v h hne =>
    ⟨⟨h.1.1, fun hn => by
      obtain ⟨ad, e, hB, hc⟩ := h.1.2 hn
      exact ⟨ad, e, hB, fun j u hu => (World.cell?_setCell_other _ _ _ _ (fun e' => hne ad e (by have := congrArg Addr.block e'; rw [block_of_add] at this; exact this.symm))).trans (hc j u hu)⟩⟩, h.2⟩
  have hcut : Bytes w w.heap.size (if c = k then A else A.map (·.add k)) (s.bs.length - k) (s.bs.drop k) := by
    have := h2.1.cut hk h3
    rw [Nat.mul_one, u8s, ← List.map_drop] at this
    exact ⟨this, fun b hb => h2.2 b (List.mem_of_mem_drop hb)⟩
  refine ⟨⟨g :: ((if c = k then A else A.map (·.add k)).map Addr.block).toList, .inr ⟨g, rfl, _, c - k, rfl, ?_, ?_, ?_, by omega, h5, fun a ha => ?_, ?_⟩, (Only.refl _ _).setCell (.inl (by simp)) _, fun j hj => .inl ?_⟩, hset _ _ _ _ _ (h2.take hk) (fun a ha => (h6 a ha).2.2)⟩
  · have := h1.set_ 0 (.slice (if c = k then A else A.map (·.add k)) (s.bs.length - k) (c - k))
    rw [hbad] at this
    simpa using this
  · have := hset _ _ _ _ (.slice (if c = k then A else A.map (·.add k)) (s.bs.length - k) (c - k)) hcut (fun a ha => by
      obtain ⟨a', h, hb⟩ := cut_addr A k c a ha
      rw [← hb]
      exact (h6 a' h).2.2)
    simp only [List.length_drop]
    exact this.more (by simp [World.setCell])
  · simp only [List.length_drop]; omega
  · obtain ⟨a', h, hb⟩ := cut_addr A k c a ha
    rw [← hb]
    have := h6 a' h
    exact ⟨this.1, by simpa [World.setCell] using this.2.1, this.2.2⟩
  · exact ⟨fun e => (by cases e), fun b hb => h7.2 b (List.mem_of_mem_drop hb)⟩
  · rcases List.mem_cons.1 hj with rfl | hj
    · simp
    · refine List.mem_cons_of_mem _ ?_
      simp only [Option.mem_toList, Option.mem_def, Option.map_eq_some_iff] at hj ⊢
      obtain ⟨a, ha, rfl⟩ := hj
      obtain ⟨a', h, hb⟩ := cut_addr A k c a ha
      exact ⟨a', h, hb⟩
theorem take_any (w : World) (base : Nat) (F : List Nat) (p : Option Addr) (s : RD) (n : Int) (h : Rd w base F p s) (hn1 : -9223372036854775808 ≤ n) (hn2 : n ≤ 9223372036854775807) :
    Calls Try.prog 89 #[.pointer p, .int .i64 n] w fun e w' => ∃ A c, e = .returned (.slice A (s.got n).length c) ∧ RTo w base F p (s.take n) w' ∧ (∃ B, Bytes w' B A (s.got n).length (s.got n)) ∧ (∀ a, A = some a → a.block ∈ F) ∧ (A = none → (s.got n).length = 0) := by
  by_cases h0 : n < 0
  · obtain ⟨e1, e2⟩ := RD.take_un (s := s) (.inl h0)
    rw [e1, e2]
    have hd : decide (n < 0) = true := by simpa using h0
    go_enter Try.func89, Try.ntmps89
    go_wp2_with fail
    refine (spoil_any w base F p s h).mono ?_
    rintro e w1 ⟨rfl, r1⟩
    go_wp2
    go_ret
    exact ⟨none, 0, rfl, r1, ⟨0, Reads.none_, fun b hb => by cases hb⟩, fun a ha => (by cases ha), by simp⟩
  · have hd : decide (n < 0) = false := by simpa using h0
    by_cases hl : (s.bs.length : Int) < n
    · obtain ⟨e1, e2⟩ := RD.take_un (s := s) (n := n) (.inr (.inl hl))
      rw [e1, e2]
      have hd2 : decide ((s.bs.length : Int) < n) = true := by simpa using hl
      go_enter Try.func89, Try.ntmps89
      go_wp2_with fail
      refine (left_any w base F p s h).mono ?_
      rintro e w1 ⟨rfl, rfl⟩
      go_wp2_with fail
      refine (spoil_any w base F p s h).mono ?_
      rintro e w1 ⟨rfl, r1⟩
      go_wp2
      go_ret
      exact ⟨none, 0, rfl, r1, ⟨0, Reads.none_, fun b hb => by cases hb⟩, fun a ha => (by cases ha), by simp⟩
    · have hd2 : decide ((s.bs.length : Int) < n) = false := by simpa using hl
      obtain ⟨k, rfl⟩ := Int.eq_ofNat_of_zero_le (show 0 ≤ n by omega)
      by_cases hk0 : k = 0
      · subst hk0
        have hd3 : (((0 : Nat) : Int) == 0) = true := rfl
        have e1 : s.take ((0 : Nat) : Int) = s ∧ s.got ((0 : Nat) : Int) = [] := by
          cases hb : s.bad with
          | true => rw [RD.eta h.good hb]; exact ⟨rfl, rfl⟩
          | false =>
            obtain ⟨e1, e2⟩ := RD.take_fit (k := 0) hb (Nat.zero_le _)
            rw [e1, e2]
            obtain ⟨bs, bad⟩ := s
            simp at hb
            subst hb
            exact ⟨rfl, rfl⟩
        rw [e1.1, e1.2]
        go_enter Try.func89, Try.ntmps89
        go_wp2_with fail
        refine (left_any w base F p s h).mono ?_
        rintro e w1 ⟨rfl, rfl⟩
        go_wp2
        go_ret
        exact ⟨none, 0, rfl, RTo.stay h, ⟨0, Reads.none_, fun b hb => by cases hb⟩, fun a ha => (by cases ha), by simp⟩
      · have hd3 : ((k : Int) == 0) = false := by simp; omega
        have hkl : k ≤ s.bs.length := by omega
        have hbad : s.bad = false := by
          cases hb : s.bad with
          | false => rfl
          | true => have := h.good.1 hb; rw [this] at hkl; simp at hkl; omega
        obtain ⟨e1, e2⟩ := RD.take_fit hbad hkl
        rw [e1, e2]
        have hlc := left_any w base F p s h
        rcases h with ⟨rfl, rfl, rfl⟩ | ⟨g, rfl, A, c, rfl, h1, h2, h3, h4, h5, h6, h7⟩
        · simp [RD.spoilt] at hkl; omega
        · have hc0 : w.cell? ⟨g, 0, none⟩ = some (.slice A s.bs.length c) := by rw [h1.cell]; rfl
          have hf0 : w.frozen? ⟨g, 0, none⟩ = false := h1.frozen _
          unfold maxLen at h4
          have q1 : (0 : Int) ≤ (k : Int) := by omega
          have q2 : (k : Int) ≤ (c : Int) := by omega
          have q3 : (k : Int) ≤ (s.bs.length : Int) := by omega
          have hkc : k ≤ c := by omega
          go_enter Try.func89, Try.ntmps89
          go_wp2_with fail
          refine hlc.mono ?_
          rintro e w1 ⟨he, hw⟩
          subst hw
          subst he
          have hdone := take_done w base g k A c s h1 h2 h3 h4 h5 h6 h7 hkl hbad
          have hlen : (s.bs.take k).length = k := by rw [List.length_take]; omega
          have hAF : ∀ a, A = some a → a.block ∈ g :: (A.map Addr.block).toList := fun a ha => by subst ha; simp
          have hAn : A = none → (s.bs.take k).length = 0 := fun ha => by
            subst ha
            obtain ⟨_, h, _⟩ := h2.1.2 (by omega)
            cases h
          have HD := Lib.hid hdone
          have HAF := Lib.hid hAF
          have HAn := Lib.hid hAn
          clear hdone hAF hAn
          by_cases hck : c = k
          · have hHD := HD.out
            rw [if_pos hck] at hHD
            have HD2 := Lib.hid hHD
            clear hHD HD
            subst hck
            go_wp2
            go_ret
            rw [hlen]
            have := HD2.out
            rw [Nat.sub_self, show s.bs.length - c = 0 by omega] at this
            exact ⟨A, _, rfl, this.1, ⟨_, this.2⟩, HAF.out, by rw [← hlen]; exact HAn.out⟩
          · have hHD := HD.out
            rw [if_neg hck] at hHD
            have HD2 := Lib.hid hHD
            clear hHD HD
            go_wp2
            go_ret
            rw [hlen]
            exact ⟨A, _, rfl, HD2.out.1, ⟨_, HD2.out.2⟩, HAF.out, by rw [← hlen]; exact HAn.out⟩
end Go.Proofs.Ytcbpdalfindmgaa
