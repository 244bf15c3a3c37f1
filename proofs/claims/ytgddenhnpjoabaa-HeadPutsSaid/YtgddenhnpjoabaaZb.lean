/-
  Values of many cells: how a struct of two parts, or a slice of one element, is put together, whatever the cells. No condition but the sizes.
-/
import Derived.Test.YtgddenhnpjoabaaZa
import Derived.Great.FillDense
import Derived.Laws.Tables
import Derived.Great.BuildSlice
import Derived.KernelRfl
import Derived.Deep.WholeRow
import Derived.RegionTactic
import Derived.Deep.RegionHeld3
import Derived.Lib.ConvBytes
import Derived.Laws.CopyOwn

namespace Go.Proofs.Ytgddenhnpjoabaa
open Go.RowKit

theorem fill_two (n0 n1 : Nat) (v0 v1 : Value) (z : Array Value) (h0 : v0.cells.size = n0) (h1 : v1.cells.size = n1) (hz : z.size = n0 + n1) :
    Instr.fill (fun k => [(0, n0), (n0, n1)].toArray[k]?) z [(0, v0), (1, v1)] = some (v0.cells ++ v1.cells) := by
  obtain ⟨g1, g2⟩ := Great.foldl_set 0 v0.cells.toList 0 z
  obtain ⟨g3, g4⟩ := Great.foldl_set n0 v1.cells.toList 0 ((v0.cells.toList.zipIdx 0).foldl (fun cs (x : Value × Nat) => cs.setIfInBounds (0 + x.2) x.1) z)
  have e : ∀ (v : Value) (off : Nat) (c : Array Value), v.cells.zipIdx.foldl (fun cs (x : Value × Nat) => cs.setIfInBounds (off + x.2) x.1) c = (v.cells.toList.zipIdx 0).foldl (fun cs (x : Value × Nat) => cs.setIfInBounds (off + x.2) x.1) c := fun v off c => by
    rw [← Array.foldl_toList, Array.toList_zipIdx]
  have hf : Instr.fill (fun k => [(0, n0), (n0, n1)].toArray[k]?) z [(0, v0), (1, v1)] = some (v1.cells.zipIdx.foldl (fun cs (x : Value × Nat) => cs.setIfInBounds (n0 + x.2) x.1) (v0.cells.zipIdx.foldl (fun cs (x : Value × Nat) => cs.setIfInBounds (0 + x.2) x.1) z)) := by
    unfold Instr.fill
    simp only [List.getElem?_toArray, List.getElem?_cons_zero]
    rw [if_neg (by simp; omega)]
    unfold Instr.fill
    simp only [List.getElem?_cons_succ, List.getElem?_cons_zero]
    rw [if_neg (by rw [e, g1]; simp; omega)]
    rfl
  rw [hf, e, e]
  congr 1
  apply Array.ext_getElem?
  intro k
  have g5 : ∀ k, z.size ≤ k → (((v0.cells.toList.zipIdx 0).foldl (fun cs (x : Value × Nat) => cs.setIfInBounds (0 + x.2) x.1) z))[k]? = none := fun k hk => Array.getElem?_eq_none (by omega)
  rw [g4 k, g1]
  simp only [Nat.add_zero, Array.length_toList, h1]
  rw [Array.getElem?_append]
  by_cases hk : k < n0
  · rw [if_neg (by omega), g2 k, if_pos (by simp [h0]; omega), if_pos (by omega)]
    simp
  · by_cases hk2 : k < n0 + n1
    · rw [if_pos ⟨by omega, hk2, by omega⟩, if_neg (by omega), h0]
      simp
    · rw [if_neg (by omega), g5 k (by omega), if_neg (by omega), Array.getElem?_eq_none (by omega)]

/-- what the walk's own 'build' makes of a struct of two parts, the second of one cell: rules for it -/
theorem fold_cells (cs : List Value) (Z : Array Value) (z : Value) (hz : Z.size = cs.length + 1) (hl : Z[cs.length]? = some z) :
    List.foldl (fun (c : Array Value) (x : Value × Nat) => c.setIfInBounds x.snd x.fst) Z cs.zipIdx = (cs ++ [z]).toArray := by
  obtain ⟨g1, g2⟩ := Great.foldl_set 0 cs 0 Z
  simp only [Nat.zero_add] at g1 g2
  apply Array.ext_getElem?
  intro k
  rw [g2 k]
  simp only [List.getElem?_toArray, Nat.zero_le, true_and, Nat.sub_zero]
  by_cases hk : k < cs.length
  · rw [if_pos ⟨hk, by omega⟩, List.getElem?_append_left hk]
  · rw [if_neg (by omega), List.getElem?_append_right (by omega)]
    by_cases he : k = cs.length
    · subst he; simp [hl]
    · rw [Array.getElem?_eq_none (by omega), List.getElem?_eq_none (by simp; omega)]
theorem fold_whole (cs : List Value) (Z : Array Value) (hz : Z.size = cs.length) :
    List.foldl (fun (c : Array Value) (x : Value × Nat) => c.setIfInBounds x.snd x.fst) Z cs.zipIdx = cs.toArray := by
  obtain ⟨g1, g2⟩ := Great.foldl_set 0 cs 0 Z
  simp only [Nat.zero_add] at g1 g2
  apply Array.ext_getElem?
  intro k
  rw [g2 k]
  simp only [List.getElem?_toArray, Nat.zero_le, true_and, Nat.sub_zero]
  by_cases hk : k < cs.length
  · rw [if_pos ⟨hk, by omega⟩]
  · rw [if_neg (by omega), Array.getElem?_eq_none (by omega), List.getElem?_eq_none (by omega)]
theorem set_last (cs : List Value) (n : Nat) (hn : cs.length = n) (z x : Value) : (cs ++ [z]).toArray.setIfInBounds n x = (cs ++ [x]).toArray := by
  subst hn
  apply Array.ext_getElem?
  intro k
  simp only [List.setIfInBounds_toArray, List.getElem?_toArray, List.getElem?_set]
  by_cases hk : cs.length = k
  · subst hk; simp
  · rw [if_neg hk]
    by_cases h2 : k < cs.length
    · rw [List.getElem?_append_left h2, List.getElem?_append_left h2]
    · rw [List.getElem?_append_right (by omega), List.getElem?_append_right (by omega), List.getElem?_eq_none (by simp; omega), List.getElem?_eq_none (by simp; omega)]
/-- a struct of two parts -/
theorem run_build_two {P : Program} {t : TypeId} {n0 n1 : Nat} {fields : Array Field} (hu : P.underlying t = some (.struct fields)) (hz : (P.info? t).bind (fun i => i.zero.map fun z => z.cells.size) = some (n0 + n1))
    (hp : fields.toList.mapM (fun f => (P.info? f.type).map fun i => (f.offset, i.size)) = some [(0, n0), (n0, n1)]) {v0 v1 : Value} (h0 : v0.cells.size = n0) (h1 : v1.cells.size = n1) (w : World) :
    (Instr.build t #[(0, v0), (1, v1)]).run P w = .ok (.agg (v0.cells ++ v1.cells)) w := by
  cases hi : P.info? t with
  | none => simp [hi] at hz
  | some it =>
    cases hz' : it.zero with
    | none => simp [hi, hz'] at hz
    | some z =>
      simp [hi, hz'] at hz
      refine run_build w t _ _ ?_
      unfold Program.built
      simp only [hi, hu, hz', hp]
      exact fill_two n0 n1 v0 v1 z.cells h0 h1 hz

/-- a slice of one element -/
theorem run_buildSlice_one {P : Program} {t e : TypeId} {size : Nat} (hu : P.underlying t = some (.slice e)) (hz : (P.info? e).bind (fun i => i.zero.map fun z => (i.size, z.cells.size)) = some (size, size)) (hs : 0 < size) (hb : size ≤ 16777216) {v : Value} (h0 : v.cells.size = size) (w : World) :
    (Instr.buildSlice t 1 #[(0, v)]).run P w = .ok (.slice (some ⟨w.heap.size, 0, none⟩) 1 1) (w.alloc (.cells v.cells e)) := by
  cases hi : P.info? e with
  | none => simp [hi] at hz
  | some ie =>
    cases hz' : ie.zero with
    | none => simp [hi, hz'] at hz
    | some z =>
      simp [hi, hz'] at hz
      obtain ⟨e1, e2⟩ := hz
      refine run_buildSlice w t e 1 _ _ ie z hu hi hz' (by rw [e1]; omega) (by rw [e1]; omega) ?_
      have := Great.fill_whole hs [v] ((Array.range (1 * ie.size)).map (z.cells[· % z.cells.size]!)) (fun u hu => by simp at hu; subst hu; exact h0) (by simp [e1])
      rw [e1] at this ⊢
      simpa using this
/-- a store of many cells into the variable that was made last -/
theorem wpList_store_new {P : Program} {ops : Array Oper} {rest : List Oper} {o : Oper} {a : Act} {w : World} {Q : Exit → Act → World → Prop} (hgd : o.guard = none) (ty : TypeId) (x y : Operand) (ho : o.op = .store ty x y)
    (cells : List Value) (Z : Array Value) (hx : a.eval x = .pointer (some ⟨w.heap.size, 0, none⟩)) (hy : a.eval y = .agg cells.toArray) (hi : (P.info? ty).map (·.size) = some cells.length) (hz : Z.size = cells.length) (h1 : ∀ v ∈ cells, v.oneCell' = true)
    (h : wpList P ops Q rest (a.put o.dst undef) (w.alloc (.cells cells.toArray ty))) : wpList P ops Q (o :: rest) a (w.alloc (.cells Z ty)) :=
  wpList_plain hgd fun _ hK => by
    have hr := run_storeAt_new (P := P) w ty Z cells.toArray (by simpa using hi) (by simpa using hz) (all_oneCell_toArray h1)
    unfold Oper.wp execOp
    simp only [ho, hx, hy, Sem.run_bind, hr, Result.andThen_ok]
    exact hK _ _ h
/-- the same, the block's number as the walk spells it -/
theorem wpList_store_newN {P : Program} {ops : Array Oper} {rest : List Oper} {o : Oper} {a : Act} {w : World} {Q : Exit → Act → World → Prop} (hgd : o.guard = none) (ty : TypeId) (x y : Operand) (ho : o.op = .store ty x y) (N : Nat) (hN : w.heap.size = N)
    (cells : List Value) (Z : Array Value) (hx : a.eval x = .pointer (some ⟨N, 0, none⟩)) (hy : a.eval y = .agg cells.toArray) (hi : (P.info? ty).map (·.size) = some cells.length) (hz : Z.size = cells.length) (h1 : ∀ v ∈ cells, v.oneCell' = true)
    (h : wpList P ops Q rest (a.put o.dst undef) (w.alloc (.cells cells.toArray ty))) : wpList P ops Q (o :: rest) a (w.alloc (.cells Z ty)) := by
  subst hN
  exact wpList_store_new hgd ty x y ho cells Z hx hy hi hz h1 h
end Go.Proofs.Ytgddenhnpjoabaa

/-
  A region that draws its order, taken by hand: one operation that alone may come up; two of which either may come up first; one that yields in whatever world. No condition.
-/
namespace Go.Proofs.Ytgddenhnpjoabaa
open Go.RowKit
section
variable {P : Program} {ops : Array Oper} {Q : Exit → Act → World → Prop} {md : Region.Mode}
/-- one operation alone may come up -/
theorem do_one {i : Nat} {o : Oper} {fuel : Nat} {listed : Array Bool} {a : Act} {w : World} (hr : Region.ready md ops listed = [i]) (ho : ops[i]? = some o) (hw : Region.wanted o (yielded ops a.tmps) = true)
    (h : Oper.wp P o a w (fun a' w' => wpAny P md ops Q fuel (listed.setIfInBounds i true) a' w') Q) : wpAny P md ops Q (fuel + 1) listed a w :=
  wpAny_ready hr (by simp) (AllReady.cons ho (fun K hK => by rw [if_pos hw]; exact Oper.wp_mono (fun a w h => hK a w h) h) AllReady.nil)
/-- it yields a value and leaves the world -/
theorem wp_yields {o : Oper} {a : Act} {w : World} {K : Act → World → Prop} {v : Value} (hv : (execOp a.eval o).run P w = .ok (.value v) w) (h : K (a.put o.dst v) w) : Oper.wp P o a w K Q := by
  unfold Oper.wp
  rw [hv]
  exact h
/-- it yields a value and leaves another world -/
theorem wp_ran {o : Oper} {a : Act} {w w' : World} {K : Act → World → Prop} {v : Value} (hv : (execOp a.eval o).run P w = .ok (.value v) w') (h : K (a.put o.dst v) w') : Oper.wp P o a w K Q := by
  unfold Oper.wp
  rw [hv]
  exact h
/-- it calls -/
theorem wp_called {o : Oper} {a : Act} {w : World} {K : Act → World → Prop} {f : FuncId} {args : Array Value} {R : Ending → World → Prop} (hv : (execOp a.eval o).run P w = .ok (.enter f args) w) (hc : Calls P f args w R) (h : ∀ e w', R e w' → ∃ v, e = .returned v ∧ K (a.put o.dst v) w') : Oper.wp P o a w K Q := by
  unfold Oper.wp
  rw [hv, Oper.upon_enter]
  refine hc.mono fun e w' hr => ?_
  obtain ⟨v, rfl, hk⟩ := h e w' hr
  exact hk
/-- whichever comes up; till what waits for i comes up, T is shown behind each -/
def wpT (P : Program) (md : Region.Mode) (ops : Array Oper) (Q : Exit → Act → World → Prop) (T : World → Prop) (i : Nat) : Nat → Bool → Array Bool → Act → World → Prop
  | 0, _, l, a, w => Region.ready md ops l = [] ∧ Q .normal a w
  | f + 1, on, l, a, w => (Region.ready md ops l = [] → Q .normal a w) ∧ ∀ j ∈ Region.ready md ops l,
      wpOp P ops Q j (fun a' w' => ((on && (Region.ready md ops (l.setIfInBounds i false)).contains j) = true → T w') ∧
        wpT P md ops Q T i f (on && (Region.ready md ops (l.setIfInBounds i false)).contains j) (l.setIfInBounds j true) a' w') a w
variable {T : World → Prop} {i : Nat}
theorem any_of_T : ∀ (f : Nat) (on : Bool) (l : Array Bool) (a : Act) (w : World), wpT P md ops Q T i f on l a w → wpAny P md ops Q f l a w
  | 0, _, _, _, _, h => h
  | f + 1, _, _, _, _, h => ⟨h.1, fun j hj => wpOp_mono (fun a' w' h' => any_of_T f _ _ a' w' h'.2) (h.2 j hj)⟩
theorem T_of_any : ∀ (f : Nat) (l : Array Bool) (a : Act) (w : World), wpAny P md ops Q f l a w → wpT P md ops Q T i f false l a w
  | 0, _, _, _, h => h
  | f + 1, _, _, _, h => ⟨h.1, fun j hj => wpOp_mono (fun a' w' h' => ⟨fun e => by simp at e, T_of_any f _ a' w' h'⟩) (h.2 j hj)⟩
theorem set_back {l : Array Bool} (h : l.getD i true = false) : (l.setIfInBounds i true).setIfInBounds i false = l := by
  have hlt : i < l.size := by
    rcases Nat.lt_or_ge i l.size with h1 | h1
    · exact h1
    · simp [Array.getElem?_eq_none h1] at h
  apply Array.ext_getElem?
  intro k
  by_cases hk : i = k
  · subst hk
    simp [hlt] at h ⊢
    exact h
  · simp [hk]
/-- a load is taken first; T, which tells what it loads, is shown behind what may come ahead of it, and no longer -/
theorem T_first {oi : Oper} {v : Value} (hi : ops[i]? = some oi) (hsel : ∀ (j : Nat) (o : Oper) cs b, ops[j]? = some o → o.op ≠ .select cs b)
    (hQ : ∀ c a w, Q (.panic c) (a.put oi.dst v) w → Q (.panic c) a w) :
    ∀ (f : Nat) (l : Array Bool) (a : Act) (w : World),
      (∀ j oj, ops[j]? = some oj → j ≠ i → l.getD j true = false → (∀ e ∈ oj.after, Region.binds md e = true → e.on ≠ i) → oi.apart ops oj = true) →
      i ∈ Region.ready md ops l → YieldsIf P ops T oi v a → T w →
      wpT P md ops Q T i f true (l.setIfInBounds i true) (a.put oi.dst v) w → wpAny P md ops Q (f + 1) l a w
  | 0, l, a, w, _, hr, hy, hT, H => by
    refine ⟨fun h => (by rw [h] at hr; cases hr), fun j hj => ?_⟩
    by_cases hji : j = i
    · subst hji
      exact hy.wpOp hi hT H
    · have := ready_mono hj hji
      rw [H.1] at this
      cases this
  | f + 1, l, a, w, hfree, hr, hy, hT, H => by
    refine ⟨fun h => (by rw [h] at hr; cases hr), fun j hj => ?_⟩
    by_cases hji : j = i
    · subst hji
      exact hy.wpOp hi hT (any_of_T _ _ _ _ _ H)
    · obtain ⟨hjun, oj, hoj, hall⟩ := mem_ready.1 hj
      have hiun : l.getD i true = false := (mem_ready.1 hr).1
      have h1 := H.2 j (ready_mono hj hji)
      rw [set_back hiun] at h1
      have hon : (true && (Region.ready md ops l).contains j) = true := by simpa using hj
      rw [hon] at h1
      have hnot : ∀ e ∈ oj.after, Region.binds md e = true → e.on ≠ i := fun e he hb heq => by
        have h2 := hall e he hb
        rw [heq] at h2
        rcases Nat.lt_or_ge i l.size with h' | h'
        · simp [h'] at hiun h2
          rw [hiun] at h2
          cases h2
        · simp [Array.getElem?_eq_none h'] at h2
      have h2 := wpOp_putIf hoj (hfree j oj hoj hji hjun hnot) (fun cs b => hsel i oi cs b hi) (fun cs b => hsel j oj cs b hoj) hQ hy h1
      refine wpOp_mono (fun a' w' h3 => ?_) h2
      obtain ⟨hy', hT', H'⟩ := h3
      rw [Array.setIfInBounds_comm _ _ (Ne.symm hji)] at H'
      refine T_first hi hsel hQ f _ a' w' (fun k ok hk hki hun hno => hfree k ok hk hki ?_ hno) (ready_mono hr (Ne.symm hji)) hy' (hT' rfl) H'
      by_cases hjk : j = k
      · subst hjk; exact hjun
      · rw [getD_set_ne true hjk] at hun; exact hun
theorem T_take {oi : Oper} {v : Value} {f : Nat} {l : Array Bool} {a : Act} {w : World} (hi : ops[i]? = some oi) (hs : Region.noSelect ops = true) (hf : Region.free md ops l i = true) (hr : (Region.ready md ops l).contains i = true)
    (hQ : ∀ c a w, Q (.panic c) (a.put oi.dst v) w → Q (.panic c) a w) (hy : YieldsIf P ops T oi v a) (hT : T w)
    (h : wpT P md ops Q T i f true (l.setIfInBounds i true) (a.put oi.dst v) w) : wpAny P md ops Q (f + 1) l a w :=
  T_first hi (Region.noSelect_spec hs) hQ f l a w (Region.free_spec hi hf) (by simpa using hr) hy hT h
/-- one alone may come up, and T stands behind it -/
theorem T_one {j : Nat} {o : Oper} {f : Nat} {l : Array Bool} {a : Act} {w : World} (hr : Region.ready md ops l = [j]) (ho : ops[j]? = some o) (hw : Region.wanted o (yielded ops a.tmps) = true)
    (hc : (Region.ready md ops (l.setIfInBounds i false)).contains j = true)
    (h : Oper.wp P o a w (fun a' w' => T w' ∧ wpT P md ops Q T i f true (l.setIfInBounds j true) a' w') Q) : wpT P md ops Q T i (f + 1) true l a w := by
  refine ⟨fun h0 => absurd (hr ▸ h0) (by simp), fun k hk => ?_⟩
  rw [hr] at hk
  obtain rfl := List.mem_singleton.1 hk
  refine wpOp_step ho (fun K hK => ?_)
  rw [if_pos hw]
  refine Oper.wp_mono (fun a' w' h' => hK a' w' ?_) h
  rw [Bool.true_and, hc]
  exact ⟨fun _ => h'.1, h'.2⟩
/-- one alone may come up, and it waits for i: T is no longer wanted -/
theorem T_off {j : Nat} {o : Oper} {f : Nat} {l : Array Bool} {a : Act} {w : World} (hr : Region.ready md ops l = [j]) (ho : ops[j]? = some o) (hw : Region.wanted o (yielded ops a.tmps) = true)
    (hc : (Region.ready md ops (l.setIfInBounds i false)).contains j = false)
    (h : Oper.wp P o a w (fun a' w' => wpAny P md ops Q f (l.setIfInBounds j true) a' w') Q) : wpT P md ops Q T i (f + 1) true l a w := by
  refine ⟨fun h0 => absurd (hr ▸ h0) (by simp), fun k hk => ?_⟩
  rw [hr] at hk
  obtain rfl := List.mem_singleton.1 hk
  refine wpOp_step ho (fun K hK => ?_)
  rw [if_pos hw]
  refine Oper.wp_mono (fun a' w' h' => hK a' w' ?_) h
  rw [Bool.true_and, hc]
  exact ⟨fun e => (by cases e), T_of_any _ _ _ _ h'⟩
/-- the region begins -/
theorem any_begin {id : Nat} {a : Act} {w : World} (hm : P.follows .mixedOrders = true) (h : wpAny P .any ops (NoPanic Q) ops.size (Array.replicate ops.size false) a w.drew) : (Code.region id ops true).wp P Q a w :=
  wp_region_noPanic (wp_region_any hm h)
end
end Go.Proofs.Ytgddenhnpjoabaa

/-
  A region that draws its order, taken by hand, where one condition on the world holds behind each operation but the last one: what reads under the condition is taken first. No condition.
-/
namespace Go.Proofs.Ytgddenhnpjoabaa
open Go.RowKit
section
variable {P : Program} {ops : Array Oper} {Q : Exit → Act → World → Prop} {md : Region.Mode} {S : World → Prop} {L : Nat}
/-- S is shown behind each operation but L -/
def wpAnyL (P : Program) (md : Region.Mode) (ops : Array Oper) (Q : Exit → Act → World → Prop) (S : World → Prop) (L : Nat) : Nat → Array Bool → Act → World → Prop
  | 0, l, a, w => Region.ready md ops l = [] ∧ Q .normal a w
  | f + 1, l, a, w => (Region.ready md ops l = [] → Q .normal a w) ∧ ∀ j ∈ Region.ready md ops l, wpOp P ops Q j (fun a' w' => (j ≠ L → S w') ∧ wpAnyL P md ops Q S L f (l.setIfInBounds j true) a' w') a w
theorem any_of_L : ∀ (f : Nat) (l : Array Bool) (a : Act) (w : World), wpAnyL P md ops Q S L f l a w → wpAny P md ops Q f l a w
  | 0, _, _, _, h => h
  | f + 1, _, _, _, h => ⟨h.1, fun j hj => wpOp_mono (fun a' w' h' => any_of_L f _ a' w' h'.2) (h.2 j hj)⟩
theorem L_first {i : Nat} {oi oL : Oper} {v : Value} (hi : ops[i]? = some oi) (hL : ops[L]? = some oL) (hw : oL.after.any (fun e => Region.binds md e && e.on == i) = true) (hsel : ∀ (j : Nat) (o : Oper) cs b, ops[j]? = some o → o.op ≠ .select cs b)
    (hQ : ∀ c a w, Q (.panic c) (a.put oi.dst v) w → Q (.panic c) a w) :
    ∀ (f : Nat) (l : Array Bool) (a : Act) (w : World),
      (∀ j oj, ops[j]? = some oj → j ≠ i → l.getD j true = false → (∀ e ∈ oj.after, Region.binds md e = true → e.on ≠ i) → oi.apart ops oj = true) →
      i ∈ Region.ready md ops l → YieldsIf P ops S oi v a → S w →
      wpAnyL P md ops Q S L f (l.setIfInBounds i true) (a.put oi.dst v) w → wpAnyL P md ops Q S L (f + 1) l a w
  | 0, l, a, w, _, hr, hy, hS, H => by
    refine ⟨fun h => (by rw [h] at hr; cases hr), fun j hj => ?_⟩
    by_cases hji : j = i
    · subst hji
      exact hy.wpOp hi hS ⟨fun _ => hS, H⟩
    · have := ready_mono hj hji
      rw [H.1] at this
      cases this
  | f + 1, l, a, w, hfree, hr, hy, hS, H => by
    refine ⟨fun h => (by rw [h] at hr; cases hr), fun j hj => ?_⟩
    by_cases hji : j = i
    · subst hji
      exact hy.wpOp hi hS ⟨fun _ => hS, H⟩
    · obtain ⟨hjun, oj, hoj, hall⟩ := mem_ready.1 hj
      have hiun : l.getD i true = false := (mem_ready.1 hr).1
      have h1 := H.2 j (ready_mono hj hji)
      have hnot : ∀ e ∈ oj.after, Region.binds md e = true → e.on ≠ i := fun e he hb heq => by
        have h2 := hall e he hb
        rw [heq] at h2
        rcases Nat.lt_or_ge i l.size with h' | h'
        · simp [h'] at hiun h2
          rw [hiun] at h2
          cases h2
        · simp [Array.getElem?_eq_none h'] at h2
      have hjL : j ≠ L := by
        rintro rfl
        rw [hL] at hoj
        injection hoj with hoj
        subst hoj
        obtain ⟨k, hk, he⟩ := Array.any_eq_true.1 hw
        simp only [Bool.and_eq_true, beq_iff_eq] at he
        exact hnot _ (Array.getElem_mem hk) he.1 he.2
      have h2 := wpOp_putIf hoj (hfree j oj hoj hji hjun hnot) (fun cs b => hsel i oi cs b hi) (fun cs b => hsel j oj cs b hoj) hQ hy h1
      refine wpOp_mono (fun a' w' h3 => ?_) h2
      obtain ⟨hy', hS', H'⟩ := h3
      rw [Array.setIfInBounds_comm _ _ (Ne.symm hji)] at H'
      refine ⟨fun _ => hS' hjL, L_first hi hL hw hsel hQ f _ a' w' (fun k ok hk hki hun hno => hfree k ok hk hki ?_ hno) (ready_mono hr (Ne.symm hji)) hy' (hS' hjL) H'⟩
      by_cases hjk : j = k
      · subst hjk; exact hjun
      · rw [getD_set_ne true hjk] at hun; exact hun
/-- what reads under S is taken first -/
theorem L_take {i : Nat} {oi oL : Oper} {v : Value} {f : Nat} {l : Array Bool} {a : Act} {w : World} (hi : ops[i]? = some oi) (hL : ops[L]? = some oL) (hw : oL.after.any (fun e => Region.binds md e && e.on == i) = true) (hs : Region.noSelect ops = true) (hf : Region.free md ops l i = true) (hr : (Region.ready md ops l).contains i = true)
    (hQ : ∀ c a w, Q (.panic c) (a.put oi.dst v) w → Q (.panic c) a w) (hy : YieldsIf P ops S oi v a) (hS : S w)
    (h : wpAnyL P md ops Q S L f (l.setIfInBounds i true) (a.put oi.dst v) w) : wpAnyL P md ops Q S L (f + 1) l a w :=
  L_first hi hL hw (Region.noSelect_spec hs) hQ f l a w (Region.free_spec hi hf) (by simpa using hr) hy hS h
/-- the same where S is shown behind each operation -/
theorem S_first {i : Nat} {oi : Oper} {v : Value} (hi : ops[i]? = some oi) (hL : ops[L]? = none) (hsel : ∀ (j : Nat) (o : Oper) cs b, ops[j]? = some o → o.op ≠ .select cs b)
    (hQ : ∀ c a w, Q (.panic c) (a.put oi.dst v) w → Q (.panic c) a w) :
    ∀ (f : Nat) (l : Array Bool) (a : Act) (w : World),
      (∀ j oj, ops[j]? = some oj → j ≠ i → l.getD j true = false → (∀ e ∈ oj.after, Region.binds md e = true → e.on ≠ i) → oi.apart ops oj = true) →
      i ∈ Region.ready md ops l → YieldsIf P ops S oi v a → S w →
      wpAnyL P md ops Q S L f (l.setIfInBounds i true) (a.put oi.dst v) w → wpAnyL P md ops Q S L (f + 1) l a w
  | 0, l, a, w, _, hr, hy, hS, H => by
    refine ⟨fun h => (by rw [h] at hr; cases hr), fun j hj => ?_⟩
    by_cases hji : j = i
    · subst hji
      exact hy.wpOp hi hS ⟨fun _ => hS, H⟩
    · have := ready_mono hj hji
      rw [H.1] at this
      cases this
  | f + 1, l, a, w, hfree, hr, hy, hS, H => by
    refine ⟨fun h => (by rw [h] at hr; cases hr), fun j hj => ?_⟩
    by_cases hji : j = i
    · subst hji
      exact hy.wpOp hi hS ⟨fun _ => hS, H⟩
    · obtain ⟨hjun, oj, hoj, hall⟩ := mem_ready.1 hj
      have hiun : l.getD i true = false := (mem_ready.1 hr).1
      have h1 := H.2 j (ready_mono hj hji)
      have hnot : ∀ e ∈ oj.after, Region.binds md e = true → e.on ≠ i := fun e he hb heq => by
        have h2 := hall e he hb
        rw [heq] at h2
        rcases Nat.lt_or_ge i l.size with h' | h'
        · simp [h'] at hiun h2
          rw [hiun] at h2
          cases h2
        · simp [Array.getElem?_eq_none h'] at h2
      have hjL : j ≠ L := by
        rintro rfl
        rw [hL] at hoj
        cases hoj
      have h2 := wpOp_putIf hoj (hfree j oj hoj hji hjun hnot) (fun cs b => hsel i oi cs b hi) (fun cs b => hsel j oj cs b hoj) hQ hy h1
      refine wpOp_mono (fun a' w' h3 => ?_) h2
      obtain ⟨hy', hS', H'⟩ := h3
      rw [Array.setIfInBounds_comm _ _ (Ne.symm hji)] at H'
      refine ⟨fun _ => hS' hjL, S_first hi hL hsel hQ f _ a' w' (fun k ok hk hki hun hno => hfree k ok hk hki ?_ hno) (ready_mono hr (Ne.symm hji)) hy' (hS' hjL) H'⟩
      by_cases hjk : j = k
      · subst hjk; exact hjun
      · rw [getD_set_ne true hjk] at hun; exact hun
theorem S_take {i : Nat} {oi : Oper} {v : Value} {f : Nat} {l : Array Bool} {a : Act} {w : World} (hi : ops[i]? = some oi) (hL : ops[L]? = none) (hs : Region.noSelect ops = true) (hf : Region.free md ops l i = true) (hr : (Region.ready md ops l).contains i = true)
    (hQ : ∀ c a w, Q (.panic c) (a.put oi.dst v) w → Q (.panic c) a w) (hy : YieldsIf P ops S oi v a) (hS : S w)
    (h : wpAnyL P md ops Q S L f (l.setIfInBounds i true) (a.put oi.dst v) w) : wpAnyL P md ops Q S L (f + 1) l a w :=
  S_first hi hL (Region.noSelect_spec hs) hQ f l a w (Region.free_spec hi hf) (by simpa using hr) hy hS h
theorem L_done {f : Nat} {l : Array Bool} {a : Act} {w : World} (hr : Region.ready md ops l = []) (h : Q .normal a w) : wpAnyL P md ops Q S L f l a w := by
  cases f with
  | zero => exact ⟨hr, h⟩
  | succ f => exact ⟨fun _ => h, fun j hj => by rw [hr] at hj; cases hj⟩
/-- one alone may come up, S stands behind it -/
theorem L_one {j : Nat} {o : Oper} {f : Nat} {l : Array Bool} {a : Act} {w : World} (hr : Region.ready md ops l = [j]) (ho : ops[j]? = some o) (hw : Region.wanted o (yielded ops a.tmps) = true)
    (h : Oper.wp P o a w (fun a' w' => S w' ∧ wpAnyL P md ops Q S L f (l.setIfInBounds j true) a' w') Q) : wpAnyL P md ops Q S L (f + 1) l a w := by
  refine ⟨fun h0 => absurd (hr ▸ h0) (by simp), fun k hk => ?_⟩
  rw [hr] at hk
  obtain rfl := List.mem_singleton.1 hk
  refine wpOp_step ho (fun K hK => ?_)
  rw [if_pos hw]
  exact Oper.wp_mono (fun a' w' h' => hK a' w' ⟨fun _ => h'.1, h'.2⟩) h
/-- the last one alone may come up -/
theorem L_last {o : Oper} {f : Nat} {l : Array Bool} {a : Act} {w : World} (hr : Region.ready md ops l = [L]) (ho : ops[L]? = some o) (hw : Region.wanted o (yielded ops a.tmps) = true) (hd : Region.ready md ops (l.setIfInBounds L true) = [])
    (h : Oper.wp P o a w (fun a' w' => Q .normal a' w') Q) : wpAnyL P md ops Q S L (f + 1) l a w := by
  refine ⟨fun h0 => absurd (hr ▸ h0) (by simp), fun k hk => ?_⟩
  rw [hr] at hk
  obtain rfl := List.mem_singleton.1 hk
  refine wpOp_step ho (fun K hK => ?_)
  rw [if_pos hw]
  refine Oper.wp_mono (fun a' w' h' => hK a' w' ⟨fun hne => absurd rfl hne, ?_⟩) h
  cases f with
  | zero => exact ⟨hd, h'⟩
  | succ f => exact ⟨fun _ => h', fun j hj => by rw [hd] at hj; cases hj⟩
/-- the region begins -/
theorem any_beginL {id : Nat} {a : Act} {w : World} (S : World → Prop) (L : Nat) (hm : P.follows .mixedOrders = true) (h : wpAnyL P .any ops (NoPanic Q) S L ops.size (Array.replicate ops.size false) a w.drew) : (Code.region id ops true).wp P Q a w :=
  wp_region_noPanic (wp_region_any hm (any_of_L _ _ _ _ h))
end
end Go.Proofs.Ytgddenhnpjoabaa

/-
  What the calls of a writer, nil or not, do. Conditions: the sizes.
-/
namespace Go.Proofs.Ytgddenhnpjoabaa
open Go.RowKit
set_option linter.unusedSimpArgs false
set_option maxRecDepth 100000
set_option linter.unusedVariables false
/-- a writer, nil or of the call's own -/
def Wr (w : World) (base : Nat) (F : List Nat) (p : Option Addr) (bs : List Nat) : Prop := (p = none ∧ F = [] ∧ bs = []) ∨ ∃ g, p = some ⟨g, 0, none⟩ ∧ WrAt w base F g bs
def plus (p : Option Addr) (bs news : List Nat) : List Nat := if p.isNone then [] else bs ++ news
def WTo (w : World) (base : Nat) (F : List Nat) (p : Option Addr) (bs : List Nat) (w' : World) : Prop := ∃ F', Wr w' base F' p bs ∧ Only F w w' ∧ Fresh w F F'
section
variable {w w' w1 : World} {base : Nat} {F : List Nat} {p : Option Addr} {bs news : List Nat}
theorem plus_plus (p : Option Addr) (bs a b : List Nat) : plus p (plus p bs a) b = plus p bs (a ++ b) := by
  cases p <;> simp [plus]
theorem plus_len (p : Option Addr) (bs a : List Nat) : (plus p bs a).length ≤ bs.length + a.length := by
  cases p <;> simp [plus]
theorem Wr.under (h : Wr w base F p bs) : Under w F := by
  rcases h with ⟨_, rfl, _⟩ | ⟨g, _, h⟩
  · exact fun k hk => by cases hk
  · exact h.under
theorem Wr.over (h : Wr w base F p bs) : Over base F := by
  rcases h with ⟨_, rfl, _⟩ | ⟨g, _, h⟩
  · exact fun k hk => by cases hk
  · exact h.over
theorem Wr.of (h : Wr w base F p bs) (hk : ∀ k, k ∈ F → w'.heap[k]? = w.heap[k]?) : Wr w' base F p bs := by
  rcases h with h | ⟨g, hp, h⟩
  · exact .inl h
  · exact .inr ⟨g, hp, h.of hk⟩
theorem Wr.below (h : Wr w base F p bs) (hb : Below w.heap.size w w') : Wr w' base F p bs := h.of fun k hk => hb.block k (h.under k hk)
theorem Wr.plus_nil (h : Wr w base F p bs) : plus p bs [] = bs := by
  rcases h with ⟨rfl, _, rfl⟩ | ⟨g, rfl, h⟩
  · rfl
  · simp [plus]
theorem WTo.after {F1 : List Nat} (ho : Only F w w1) (hf : Fresh w F F1) (h : WTo w1 base F1 p bs w') : WTo w base F p bs w' := by
  obtain ⟨F2, h1, h2, h3⟩ := h
  exact ⟨F2, h1, ho.trans h2 hf, hf.trans h3 ho.size⟩
theorem WTo.since (hb : Below w.heap.size w w1) (h : WTo w1 base F p bs w') : WTo w base F p bs w' := h.after (Only.of_below hb F) (Fresh.refl _ _)
end
theorem put_w (w : World) (base : Nat) (F : List Nat) (p : Option Addr) (bs news : List Nat) (B : Nat) (A : Option Addr) (n c : Nat) (h : Wr w base F p bs) (hb : Bytes w B A n news) (hl : bs.length + n ≤ 10000000) (hB : base ≤ w.heap.size) :
    Calls Try.prog 85 #[.pointer p, .slice A n c] w fun e w' => e = .returned (.tuple #[]) ∧ WTo w base F p (plus p bs news) w' := by
  rcases h with ⟨rfl, rfl, rfl⟩ | ⟨g, rfl, h⟩
  · exact (put_nil _ w).mono fun e w' ⟨he, hw⟩ => ⟨he, [], .inl ⟨rfl, rfl, rfl⟩, by rw [← hw]; exact Only.refl _ _, Fresh.refl _ _⟩
  · exact (put_any w base g F bs news B A n c h hb hl hB).mono fun e w' ⟨he, F', h1, h2, h3⟩ => ⟨he, F', .inr ⟨g, rfl, h1⟩, h2, h3⟩
theorem eight_size : (Try.prog.info? 125).map (·.size) = some 8 := by kernel_rfl
theorem wnum_any (w : World) (base : Nat) (F : List Nat) (p : Option Addr) (bs : List Nat) (n : Int) (h : Wr w base F p bs) (hl : bs.length ≤ 9000000) (hB : base ≤ w.heap.size) :
    Calls Try.prog 33 #[.pointer p, .int .i64 n] w fun e w' => e = .returned (.tuple #[]) ∧ WTo w base F p (plus p bs (numB n)) w' := by
  have hz := eight_zero
  have hi : (Try.prog.info? 125).map (·.size) = some (u8s (numB n)).length := by rw [u8s_length, numB_len]; exact eight_size
  go_enter Try.func33, Try.ntmps33
  go_wp2_with fail
  refine (packed_any n w).mono ?_
  rintro e w1 ⟨rfl, b1⟩
  go_wp2_with (first | (refine wpList_store_newN rfl 125 (.tmp 4) (.tmp 6) rfl w1.heap.size rfl (u8s (numB n)) _ rfl rfl hi (by rw [u8s_length, numB_len]; rfl) (oneCell_u8s _) ?_))
  have B1 : Below w.heap.size w (w1.alloc (.cells (u8s (numB n)).toArray 125)) := b1.alloc b1.size _
  have hb8 : Bytes (w1.alloc (.cells (u8s (numB n)).toArray 125)) (w1.heap.size + 1) (some ⟨w1.heap.size, 0, none⟩) 8 (numB n) := by
    have := Bytes.new w1 (numB n) 125 (0, 0) (numB_lt n)
    rwa [numB_len] at this
  refine (put_w _ base F p bs (numB n) _ _ 8 8 (h.below B1) hb8 (by omega) (Nat.le_trans hB B1.size)).mono ?_
  rintro e w2 ⟨rfl, h2⟩
  go_wp2
  refine bodyPost_end (results_none rfl _ _ _) rfl ?_
  exact ⟨rfl, h2.since B1⟩
theorem wflag_any (w : World) (base : Nat) (F : List Nat) (p : Option Addr) (bs : List Nat) (f : Bool) (h : Wr w base F p bs) (hl : bs.length ≤ 9000000) (hB : base ≤ w.heap.size) :
    Calls Try.prog 88 #[.pointer p, .bool f] w fun e w' => e = .returned (.tuple #[]) ∧ WTo w base F p (plus p bs [if f then 1 else 0]) w' := by
  cases f with
  | true =>
    go_enter Try.func88, Try.ntmps88
    go_wp2_with fail
    have B1 := below_alloc w (.cells (u8s [1]).toArray 5)
    refine (put_w _ base F p bs [1] _ _ 1 1 (h.below B1) (Bytes.new w [1] 5 (0, 0) (by simp)) (by omega) (Nat.le_trans hB B1.size)).mono ?_
    rintro e w2 ⟨rfl, h2⟩
    go_wp2
    refine bodyPost_end (results_none rfl _ _ _) rfl ?_
    exact ⟨rfl, h2.since B1⟩
  | false =>
    go_enter Try.func88, Try.ntmps88
    go_wp2_with fail
    have B1 := below_alloc w (.cells (u8s [0]).toArray 5)
    refine (put_w _ base F p bs [0] _ _ 1 1 (h.below B1) (Bytes.new w [0] 5 (0, 0) (by simp)) (by omega) (Nat.le_trans hB B1.size)).mono ?_
    rintro e w2 ⟨rfl, h2⟩
    go_wp2
    refine bodyPost_end (results_none rfl _ _ _) rfl ?_
    exact ⟨rfl, h2.since B1⟩
theorem Bytes.only {w w' : World} {B n : Nat} {A : Option Addr} {bs F : List Nat} (h : Bytes w B A n bs) (ho : Only F w w') (ha : ∀ a, A = some a → 0 < n → a.block ∉ F) : Bytes w' B A n bs :=
  ⟨⟨h.1.1, fun hn => by
    obtain ⟨ad, e, hB, hc⟩ := h.1.2 hn
    exact ⟨ad, e, hB, fun j u hu => (ho.cell (World.block_lt_of_cell? w _ (hc j u hu)) (by rw [block_of_add]; exact ha ad e hn)).trans (hc j u hu)⟩⟩, h.2⟩
theorem strOf_size (bs : List Nat) : (strOf bs).size = bs.length := by simp [strOf, strOfNums_size]
/-- a string as new bytes -/
theorem conv_str (w : World) (bs : List Nat) (hb : ∀ b ∈ bs, b < 256) : ∃ cap w', (convert 9 23 (.string (strOf bs))).run Try.prog w = .ok (.slice (some ⟨w.heap.size, 0, none⟩) bs.length cap) w' ∧ Below w.heap.size w w' ∧ Bytes w' (w.heap.size + 1) (some ⟨w.heap.size, 0, none⟩) bs.length bs := by
  have h := Lib.run_convert_string_bytes (P := Try.prog) w 9 23 5 (strOf bs) Try.underlying9 Try.underlying23 Try.underlying5
  rw [strOf_size] at h
  refine ⟨_, _, h, ⟨rfl, rfl, rfl, by rw [Lib.bytesWorld_size]; omega, fun i hi => Lib.bytesWorld_at_old _ _ _ _ hi⟩, ⟨⟨by simp [u8s], fun hn => ⟨_, rfl, Nat.lt_succ_self _, fun j u hu => ?_⟩⟩, hb⟩⟩
  have hj : j < bs.length := by
    rcases Nat.lt_or_ge j bs.length with h' | h'
    · exact h'
    · rw [List.getElem?_eq_none (by rw [u8s_length]; exact h')] at hu; cases hu
  rw [add_zero_off, Lib.bytesWorld_cell _ _ _ _ (by rw [strOf_size]; exact hj), ← hu]
  have hbj := hb _ (List.getElem_mem hj)
  simp [strOf, strOfNums_data, u8s, u8, hj]
  omega
theorem wpList_conv {ops : Array Oper} {rest : List Oper} {o : Oper} {a : Act} {w : World} {Q : Exit → Act → World → Prop} (hg : o.guard = none) (x : Operand) (ho : o.op = .convert 9 23 x) (bs : List Nat) (hx : a.eval x = .string (strOf bs)) (hb : ∀ b ∈ bs, b < 256)
    (h : ∀ cap w', Below w.heap.size w w' → Bytes w' (w.heap.size + 1) (some ⟨w.heap.size, 0, none⟩) bs.length bs → wpList Try.prog ops Q rest (a.put o.dst (.slice (some ⟨w.heap.size, 0, none⟩) bs.length cap)) w') : wpList Try.prog ops Q (o :: rest) a w := by
  obtain ⟨cap, w', hr, h1, h2⟩ := conv_str w bs hb
  refine wpList_plain hg fun _ hK => wp_ran (w' := w') ?_ (hK _ _ (h cap w' h1 h2))
  simp [execOp, ho, hx, hr, Result.andThen]
theorem counted_bytes (w : World) (base : Nat) (F : List Nat) (p : Option Addr) (bs news : List Nat) (B : Nat) (A : Option Addr) (n c : Nat) (h : Wr w base F p bs) (hb : Bytes w B A n news) (hlt : ∀ a, A = some a → 0 < n → a.block ∉ F) (hl : bs.length + n ≤ 8000000) (hB : base ≤ w.heap.size) :
    Calls Try.prog 141 #[.pointer p, .slice A n c] w fun e w' => e = .returned (.tuple #[]) ∧ WTo w base F p (plus p bs (numB n ++ news)) w' := by
  go_enter Try.func141, Try.ntmps141
  go_wp2_with fail
  refine (wnum_any w base F p bs n h (by omega) hB).mono ?_
  rintro e w1 ⟨rfl, F1, h1, o1, f1⟩
  go_wp2_with fail
  have := plus_len p bs (numB n)
  rw [numB_len] at this
  have hb1 := hb.only o1 hlt
  refine (put_w w1 base F1 p (plus p bs (numB n)) news B A n c h1 hb1 (by omega) (Nat.le_trans hB o1.size)).mono ?_
  rintro e w2 ⟨rfl, h2⟩
  rw [plus_plus] at h2
  go_wp2
  refine bodyPost_end (results_none rfl _ _ _) rfl ?_
  exact ⟨rfl, h2.after o1 f1⟩
theorem counted_str (w : World) (base : Nat) (F : List Nat) (p : Option Addr) (bs news : List Nat) (h : Wr w base F p bs) (hb : ∀ b ∈ news, b < 256) (hl : bs.length + news.length ≤ 8000000) (hB : base ≤ w.heap.size) :
    Calls Try.prog 137 #[.pointer p, .string (strOf news)] w fun e w' => e = .returned (.tuple #[]) ∧ WTo w base F p (plus p bs (numB news.length ++ news)) w' := by
  have hs := strOf_size news
  go_enter Try.func137, Try.ntmps137
  go_wp2_with fail
  refine (wnum_any w base F p bs news.length h (by omega) hB).mono ?_
  rintro e w1 ⟨rfl, F1, h1, o1, f1⟩
  go_wp2_with (refine wpList_conv rfl (.tmp 9) rfl news rfl hb ?_
               intro cap wc bc hbc)
  have := plus_len p bs (numB news.length)
  rw [numB_len] at this
  refine (put_w wc base F1 p (plus p bs (numB news.length)) news _ _ _ cap (h1.below bc) hbc (by omega) (Nat.le_trans hB (Nat.le_trans o1.size bc.size))).mono ?_
  rintro e w2 ⟨rfl, h2⟩
  rw [plus_plus] at h2
  go_wp2
  refine bodyPost_end (results_none rfl _ _ _) rfl ?_
  exact ⟨rfl, (h2.since bc).after o1 f1⟩
/-- how many bytes, and they -/
theorem wbytes_any (w : World) (base : Nat) (F : List Nat) (p : Option Addr) (bs news : List Nat) (B : Nat) (A : Option Addr) (n c : Nat) (h : Wr w base F p bs) (hb : Bytes w B A n news) (hlt : ∀ a, A = some a → 0 < n → a.block ∉ F) (hl : bs.length + n ≤ 8000000) (hB : base ≤ w.heap.size) :
    Calls Try.prog 90 #[.pointer p, .slice A n c] w fun e w' => e = .returned (.tuple #[]) ∧ WTo w base F p (plus p bs (numB n ++ news)) w' := by
  go_enter Try.func90, Try.ntmps90
  go_wp2_with fail
  refine (counted_bytes w base F p bs news B A n c h hb hlt hl hB).mono ?_
  rintro e w2 ⟨rfl, h2⟩
  go_wp2
  refine bodyPost_end (results_none rfl _ _ _) rfl ?_
  exact ⟨rfl, h2⟩
theorem wtext_any (w : World) (base : Nat) (F : List Nat) (p : Option Addr) (bs news : List Nat) (h : Wr w base F p bs) (hb : ∀ b ∈ news, b < 256) (hl : bs.length + news.length ≤ 8000000) (hB : base ≤ w.heap.size) :
    Calls Try.prog 86 #[.pointer p, .string (strOf news)] w fun e w' => e = .returned (.tuple #[]) ∧ WTo w base F p (plus p bs (numB news.length ++ news)) w' := by
  go_enter Try.func86, Try.ntmps86
  go_wp2_with fail
  refine (counted_str w base F p bs news h hb hl hB).mono ?_
  rintro e w2 ⟨rfl, h2⟩
  go_wp2
  refine bodyPost_end (results_none rfl _ _ _) rfl ?_
  exact ⟨rfl, h2⟩
/-- numbers as cells -/
def i64s (l : List Int) : List Value := l.map (.int .i64)
theorem i64s_length (l : List Int) : (i64s l).length = l.length := by simp [i64s]
def Ints (w : World) (B : Nat) (A : Option Addr) (n : Nat) (l : List Int) : Prop := Reads w B 1 A n (i64s l)
theorem Ints.len {w : World} {B n : Nat} {A : Option Addr} {l : List Int} (h : Ints w B A n l) : l.length = n := by have := h.1; rw [i64s_length] at this; omega
theorem Ints.only {w w' : World} {B n : Nat} {A : Option Addr} {l : List Int} {F : List Nat} (h : Ints w B A n l) (ho : Only F w w') (ha : ∀ a, A = some a → 0 < n → a.block ∉ F) : Ints w' B A n l :=
  ⟨h.1, fun hn => by
    obtain ⟨ad, e, hB, hc⟩ := h.2 hn
    exact ⟨ad, e, hB, fun j u hu => (ho.cell (World.block_lt_of_cell? w _ (hc j u hu)) (by rw [block_of_add]; exact ha ad e hn)).trans (hc j u hu)⟩⟩
theorem Ints.at_ {w : World} {B n k : Nat} {A : Option Addr} {l : List Int} (h : Ints w B A n l) (hk : k < n) : ∃ ad x, A = some ad ∧ l[k]? = some x ∧ w.cell? (ad.add k) = some (.int .i64 x) := by
  obtain ⟨ad, u, e, hb, hx, hc⟩ := Reads.at_ h hk
  have hl : k < l.length := by have := h.len; omega
  refine ⟨ad, l[k], e, List.getElem?_eq_getElem hl, ?_⟩
  rw [hc, ← hx]
  simp [i64s, hl]
def numsB (l : List Int) : List Nat := numB l.length ++ l.flatMap numB
theorem numsB_len (l : List Int) : (numsB l).length = 8 + 8 * l.length := by
  have : (l.flatMap numB).length = 8 * l.length := by
    induction l with
    | nil => rfl
    | cons x l ih => rw [List.flatMap_cons, List.length_append, ih, numB_len, List.length_cons]; omega
  rw [numsB, List.length_append, numB_len, this]
theorem out_any (w : World) (base : Nat) (F : List Nat) (p : Option Addr) (bs : List Nat) (h : Wr w base F p bs) (hl : bs.length ≤ 9000000) :
    Calls Try.prog 37 #[.pointer p] w fun e w' => ∃ v, e = .returned v ∧ Own w' w.heap.size v bs.length bs ∧ Below w.heap.size w w' := by
  rcases h with ⟨rfl, rfl, rfl⟩ | ⟨g, rfl, v, rfl, h1, h2, h3, h4⟩
  · go_enter Try.func37, Try.ntmps37
    go_wp2
    go_ret
    exact ⟨_, rfl, Own.nil _ _, Below.refl _ _⟩
  · obtain ⟨A1, c1, rfl, -, -, -⟩ := h2.form
    have hc : w.cell? ⟨g, 0, none⟩ = some (.slice A1 bs.length c1) := by rw [h1.cell]; rfl
    go_enter Try.func37, Try.ntmps37
    go_wp2_with fail
    refine (clone_any A1 bs.length c1 bs w w.heap.size (by omega) (h2.bytes h4)).mono ?_
    rintro e w' ⟨v, rfl, h5, h6⟩
    go_wp2
    go_ret
    exact ⟨v, rfl, h5, h6⟩
end Go.Proofs.Ytgddenhnpjoabaa

/-
  What the calls of the program's reader, nil or not, do. Conditions: the reader lies where it is said to.
-/
namespace Go.Proofs.Ytgddenhnpjoabaa
open Go.RowKit
set_option linter.unusedSimpArgs false
set_option maxRecDepth 100000
set_option linter.unusedVariables false
/-- a reader of the call's own at g -/
def RdAt (w : World) (base : Nat) (F : List Nat) (g : Nat) (s : RD) : Prop :=
  ∃ A c, F = g :: (A.map Addr.block).toList ∧ Blk w g 139 #[.slice A s.bs.length c, .bool s.bad] ∧ Bytes w w.heap.size A s.bs.length s.bs ∧ s.bs.length ≤ c ∧ c ≤ maxLen ∧ base ≤ g ∧ (∀ a, A = some a → base ≤ a.block ∧ a.block < w.heap.size ∧ a.block ≠ g) ∧ s.Good
/-- a reader, nil or of the call's own -/
def Rd (w : World) (base : Nat) (F : List Nat) (p : Option Addr) (s : RD) : Prop := (p = none ∧ F = [] ∧ s = RD.spoilt) ∨ ∃ g, p = some ⟨g, 0, none⟩ ∧ RdAt w base F g s
def RTo (w : World) (base : Nat) (F : List Nat) (p : Option Addr) (s : RD) (w' : World) : Prop := ∃ F', Rd w' base F' p s ∧ Only F w w' ∧ Fresh w F F'
section
variable {w w' w1 : World} {base g : Nat} {F : List Nat} {p : Option Addr} {s : RD}
theorem RdAt.of (h : RdAt w base F g s) (hs : w.heap.size ≤ w'.heap.size) (hk : ∀ k, k ∈ F → w'.heap[k]? = w.heap[k]?) : RdAt w' base F g s := by
  obtain ⟨A, c, rfl, h1, h2, h3, h4, h5, h6, h7⟩ := h
  refine ⟨A, c, rfl, h1.of (hk g (by simp)), ⟨⟨h2.1.1, fun hn => ?_⟩, h2.2⟩, h3, h4, h5, fun a ha => ⟨(h6 a ha).1, Nat.lt_of_lt_of_le (h6 a ha).2.1 hs, (h6 a ha).2.2⟩, h7⟩
  obtain ⟨ad, e, hB, hc⟩ := h2.1.2 hn
  exact ⟨ad, e, Nat.lt_of_lt_of_le hB hs, fun j u hu => (World.cell?_of_block (hk _ (by rw [block_of_add, e]; simp))).trans (hc j u hu)⟩
theorem RdAt.under (h : RdAt w base F g s) : Under w F := by
  obtain ⟨A, c, rfl, h1, h2, h3, h4, h5, h6, h7⟩ := h
  intro k hk
  rcases List.mem_cons.1 hk with rfl | hk
  · exact h1.lt
  · cases A with
    | none => cases hk
    | some a => simp at hk; subst hk; exact (h6 a rfl).2.1
theorem RdAt.over (h : RdAt w base F g s) : Over base F := by
  obtain ⟨A, c, rfl, h1, h2, h3, h4, h5, h6, h7⟩ := h
  intro k hk
  rcases List.mem_cons.1 hk with rfl | hk
  · exact h5
  · cases A with
    | none => cases hk
    | some a => simp at hk; subst hk; exact (h6 a rfl).1
theorem Rd.under (h : Rd w base F p s) : Under w F := by
  rcases h with ⟨_, rfl, _⟩ | ⟨g, _, h⟩
  · exact fun k hk => by cases hk
  · exact h.under
theorem Rd.over (h : Rd w base F p s) : Over base F := by
  rcases h with ⟨_, rfl, _⟩ | ⟨g, _, h⟩
  · exact fun k hk => by cases hk
  · exact h.over
theorem Rd.of (h : Rd w base F p s) (hs : w.heap.size ≤ w'.heap.size) (hk : ∀ k, k ∈ F → w'.heap[k]? = w.heap[k]?) : Rd w' base F p s := by
  rcases h with h | ⟨g, hp, h⟩
  · exact .inl h
  · exact .inr ⟨g, hp, h.of hs hk⟩
theorem Rd.below (h : Rd w base F p s) (hb : Below w.heap.size w w') : Rd w' base F p s := h.of hb.size fun k hk => hb.block k (h.under k hk)
theorem Rd.good (h : Rd w base F p s) : s.Good := by
  rcases h with ⟨_, _, rfl⟩ | ⟨g, _, A, c, _, _, _, _, _, _, _, h⟩
  · exact RD.spoilt_good
  · exact h
theorem Rd.len (h : Rd w base F p s) : s.bs.length ≤ maxLen := by
  rcases h with ⟨_, _, rfl⟩ | ⟨g, _, A, c, _, _, _, h1, h2, _⟩
  · simp [RD.spoilt, maxLen]
  · omega
theorem RTo.after {F1 : List Nat} (ho : Only F w w1) (hf : Fresh w F F1) (h : RTo w1 base F1 p s w') : RTo w base F p s w' := by
  obtain ⟨F2, h1, h2, h3⟩ := h
  exact ⟨F2, h1, ho.trans h2 hf, hf.trans h3 ho.size⟩
theorem RTo.since (hb : Below w.heap.size w w1) (h : RTo w1 base F p s w') : RTo w base F p s w' := h.after (Only.of_below hb F) (Fresh.refl _ _)
theorem RTo.stay (h : Rd w base F p s) : RTo w base F p s w := ⟨F, h, Only.refl _ _, Fresh.refl _ _⟩
theorem RTo.then_ (h : RTo w base F p s w1) (hb : Below w1.heap.size w1 w') : RTo w base F p s w' := by
  obtain ⟨F2, h1, h2, h3⟩ := h
  exact ⟨F2, h1.below hb, h2.trans (Only.of_below hb F2) h3, h3⟩
end
theorem left_any (w : World) (base : Nat) (F : List Nat) (p : Option Addr) (s : RD) (h : Rd w base F p s) :
    Calls Try.prog 164 #[.pointer p] w fun e w' => e = .returned (.int .i64 s.bs.length) ∧ w = w' := by
  rcases h with ⟨rfl, rfl, rfl⟩ | ⟨g, rfl, A, c, rfl, h1, h2, h3, h4, h5, h6, h7⟩
  · go_enter Try.func164, Try.ntmps164
    go_wp2
    go_ret
    exact ⟨rfl, rfl⟩
  · have hc : w.cell? ⟨g, 0, none⟩ = some (.slice A s.bs.length c) := by rw [h1.cell]; rfl
    go_enter Try.func164, Try.ntmps164
    go_wp2
    go_ret
    exact ⟨rfl, rfl⟩
theorem reader_zero (w : World) : (zeroValue 139).run Try.prog w = .ok (.agg #[.slice none 0 0, .bool false]) w := by kernel_rfl
theorem spoil_any (w : World) (base : Nat) (F : List Nat) (p : Option Addr) (s : RD) (h : Rd w base F p s) :
    Calls Try.prog 146 #[.pointer p] w fun e w' => e = .returned (.tuple #[]) ∧ RTo w base F p RD.spoilt w' := by
  rcases h with ⟨rfl, rfl, rfl⟩ | ⟨g, rfl, A, c, rfl, h1, h2, h3, h4, h5, h6, h7⟩
  · go_enter Try.func146, Try.ntmps146
    go_wp2
    refine bodyPost_end (results_none rfl _ _ _) rfl ?_
    exact ⟨rfl, RTo.stay (.inl ⟨rfl, rfl, rfl⟩)⟩
  · have hc0 : w.cell? ⟨g, 0, none⟩ = some (.slice A s.bs.length c) := by rw [h1.cell]; rfl
    have hc1 : w.cell? ⟨g, 1, none⟩ = some (.bool s.bad) := by rw [h1.cell]; rfl
    have hf0 : w.frozen? ⟨g, 0, none⟩ = false := h1.frozen _
    have hf1 : w.frozen? ⟨g, 1, none⟩ = false := h1.frozen _
    have hz := reader_zero
    go_enter Try.func146, Try.ntmps146
    go_wp2
    refine bodyPost_end (results_none rfl _ _ _) rfl ?_
    have hb2 : Blk ((w.setCell ⟨g, 0, none⟩ (.slice none 0 0)).setCell ⟨g, 1, none⟩ (.bool true)) g 139 #[.slice none 0 0, .bool true] := (h1.set_ 0 _).set_ 1 _
    exact ⟨rfl, [g], .inr ⟨g, rfl, none, 0, rfl, hb2, ⟨Reads.none_, fun b hb => by cases hb⟩, Nat.le_refl _, by simp [maxLen], h5, fun a ha => (by cases ha), RD.spoilt_good⟩,
      ((Only.refl _ _).setCell (.inl (by simp)) _).setCell (.inl (by simp)) _, fun k hk => .inl (by simp at hk; subst hk; simp)⟩
theorem cut_addr (A : Option Addr) (k cap : Nat) (a : Addr) (h : (if cap = k then A else A.map (·.add k)) = some a) : ∃ a', A = some a' ∧ a'.block = a.block := by
  split at h
  · exact ⟨a, h, rfl⟩
  · cases A with
    | none => cases h
    | some a' => simp at h; exact ⟨a', rfl, by rw [← h, block_of_add]⟩
theorem RD.take_fit {s : RD} {k : Nat} (hb : s.bad = false) (hk : k ≤ s.bs.length) : s.take k = ⟨s.bs.drop k, false⟩ ∧ s.got k = s.bs.take k := by
  have : s.fits k = true := by simp [RD.fits, hb]; omega
  simp [RD.take, RD.got, this]
theorem RD.take_un {s : RD} {n : Int} (h : n < 0 ∨ (s.bs.length : Int) < n ∨ s.bad = true) : s.take n = RD.spoilt ∧ s.got n = [] := by
  have : s.fits n = false := by
    simp only [RD.fits, Bool.and_eq_false_iff, Bool.not_eq_false', decide_eq_false_iff_not]
    rcases h with h | h | h
    · exact .inl (.inr (by omega))
    · exact .inr (by omega)
    · exact .inl (.inl h)
  simp [RD.take, RD.got, this]
theorem RD.eta {s : RD} (h : s.Good) (hb : s.bad = true) : s = RD.spoilt := by
  obtain ⟨bs, bad⟩ := s
  have := h.1 hb
  simp at hb this
  subst hb this
  rfl
theorem take_done (w : World) (base g k : Nat) (A : Option Addr) (c : Nat) (s : RD) (h1 : Blk w g 139 #[.slice A s.bs.length c, .bool s.bad]) (h2 : Bytes w w.heap.size A s.bs.length s.bs) (h3 : s.bs.length ≤ c) (h4 : c ≤ maxLen) (h5 : base ≤ g) (h6 : ∀ a, A = some a → base ≤ a.block ∧ a.block < w.heap.size ∧ a.block ≠ g) (h7 : s.Good) (hk : k ≤ s.bs.length) (hbad : s.bad = false) :
    RTo w base (g :: (A.map Addr.block).toList) (some ⟨g, 0, none⟩) ⟨s.bs.drop k, false⟩ (w.setCell ⟨g, 0, none⟩ (.slice (if c = k then A else A.map (·.add k)) (s.bs.length - k) (c - k))) ∧
    Bytes (w.setCell ⟨g, 0, none⟩ (.slice (if c = k then A else A.map (·.add k)) (s.bs.length - k) (c - k))) w.heap.size A k (s.bs.take k) := by
  have hset : ∀ (B n : Nat) (A' : Option Addr) (bs : List Nat) (v : Value), Bytes w B A' n bs → (∀ a, A' = some a → a.block ≠ g) → Bytes (w.setCell ⟨g, 0, none⟩ v) B A' n bs := fun B n A' bs v h hne =>
    ⟨⟨h.1.1, fun hn => by
      obtain ⟨ad, e, hB, hc⟩ := h.1.2 hn
      exact ⟨ad, e, hB, fun j u hu => (World.cell?_setCell_other _ _ _ _ (fun e' => hne ad e (by have := congrArg Addr.block e'; rw [block_of_add] at this; exact this.symm))).trans (hc j u hu)⟩⟩, h.2⟩
  have hcut : Bytes w w.heap.size (if c = k then A else A.map (·.add k)) (s.bs.length - k) (s.bs.drop k) := by
    have := h2.1.cut hk h3
    rw [Nat.mul_one, u8s, ← List.map_drop] at this
    exact ⟨this, fun b hb => h2.2 b (List.mem_of_mem_drop hb)⟩
  refine ⟨⟨g :: ((if c = k then A else A.map (·.add k)).map Addr.block).toList, .inr ⟨g, rfl, _, c - k, rfl, ?_, ?_, ?_, by omega, h5, fun a ha => ?_, ?_⟩, (Only.refl _ _).setCell (.inl (by simp)) _, fun j hj => .inl ?_⟩, hset _ _ _ _ _ (h2.take hk) (fun a ha => (h6 a ha).2.2)⟩
  · have := h1.set_ 0 (.slice (if c = k then A else A.map (·.add k)) (s.bs.length - k) (c - k))
    rw [hbad] at this
    simpa using this
  · have := hset _ _ _ _ (.slice (if c = k then A else A.map (·.add k)) (s.bs.length - k) (c - k)) hcut (fun a ha => by
      obtain ⟨a', h, hb⟩ := cut_addr A k c a ha
      rw [← hb]
      exact (h6 a' h).2.2)
    simp only [List.length_drop]
    exact this.more (by simp [World.setCell])
  · simp only [List.length_drop]; omega
  · obtain ⟨a', h, hb⟩ := cut_addr A k c a ha
    rw [← hb]
    have := h6 a' h
    exact ⟨this.1, by simpa [World.setCell] using this.2.1, this.2.2⟩
  · exact ⟨fun e => (by cases e), fun b hb => h7.2 b (List.mem_of_mem_drop hb)⟩
  · rcases List.mem_cons.1 hj with rfl | hj
    · simp
    · refine List.mem_cons_of_mem _ ?_
      simp only [Option.mem_toList, Option.mem_def, Option.map_eq_some_iff] at hj ⊢
      obtain ⟨a, ha, rfl⟩ := hj
      obtain ⟨a', h, hb⟩ := cut_addr A k c a ha
      exact ⟨a', h, hb⟩
theorem take_any (w : World) (base : Nat) (F : List Nat) (p : Option Addr) (s : RD) (n : Int) (h : Rd w base F p s) (hn1 : -9223372036854775808 ≤ n) (hn2 : n ≤ 9223372036854775807) :
    Calls Try.prog 142 #[.pointer p, .int .i64 n] w fun e w' => ∃ A c, e = .returned (.slice A (s.got n).length c) ∧ RTo w base F p (s.take n) w' ∧ (∃ B, Bytes w' B A (s.got n).length (s.got n)) ∧ (∀ a, A = some a → a.block ∈ F) ∧ (A = none → (s.got n).length = 0) := by
  by_cases h0 : n < 0
  · obtain ⟨e1, e2⟩ := RD.take_un (s := s) (.inl h0)
    rw [e1, e2]
    have hd : decide (n < 0) = true := by simpa using h0
    go_enter Try.func142, Try.ntmps142
    go_wp2_with fail
    refine (spoil_any w base F p s h).mono ?_
    rintro e w1 ⟨rfl, r1⟩
    go_wp2
    go_ret
    exact ⟨none, 0, rfl, r1, ⟨0, Reads.none_, fun b hb => by cases hb⟩, fun a ha => (by cases ha), by simp⟩
  · have hd : decide (n < 0) = false := by simpa using h0
    by_cases hl : (s.bs.length : Int) < n
    · obtain ⟨e1, e2⟩ := RD.take_un (s := s) (n := n) (.inr (.inl hl))
      rw [e1, e2]
      have hd2 : decide ((s.bs.length : Int) < n) = true := by simpa using hl
      go_enter Try.func142, Try.ntmps142
      go_wp2_with fail
      refine (left_any w base F p s h).mono ?_
      rintro e w1 ⟨rfl, rfl⟩
      go_wp2_with fail
      refine (spoil_any w base F p s h).mono ?_
      rintro e w1 ⟨rfl, r1⟩
      go_wp2
      go_ret
      exact ⟨none, 0, rfl, r1, ⟨0, Reads.none_, fun b hb => by cases hb⟩, fun a ha => (by cases ha), by simp⟩
    · have hd2 : decide ((s.bs.length : Int) < n) = false := by simpa using hl
      obtain ⟨k, rfl⟩ := Int.eq_ofNat_of_zero_le (show 0 ≤ n by omega)
      by_cases hk0 : k = 0
      · subst hk0
        have hd3 : (((0 : Nat) : Int) == 0) = true := rfl
        have e1 : s.take ((0 : Nat) : Int) = s ∧ s.got ((0 : Nat) : Int) = [] := by
          cases hb : s.bad with
          | true => rw [RD.eta h.good hb]; exact ⟨rfl, rfl⟩
          | false =>
            obtain ⟨e1, e2⟩ := RD.take_fit (k := 0) hb (Nat.zero_le _)
            rw [e1, e2]
            obtain ⟨bs, bad⟩ := s
            simp at hb
            subst hb
            exact ⟨rfl, rfl⟩
        rw [e1.1, e1.2]
        go_enter Try.func142, Try.ntmps142
        go_wp2_with fail
        refine (left_any w base F p s h).mono ?_
        rintro e w1 ⟨rfl, rfl⟩
        go_wp2
        go_ret
        exact ⟨none, 0, rfl, RTo.stay h, ⟨0, Reads.none_, fun b hb => by cases hb⟩, fun a ha => (by cases ha), by simp⟩
      · have hd3 : ((k : Int) == 0) = false := by simp; omega
        have hkl : k ≤ s.bs.length := by omega
        have hbad : s.bad = false := by
          cases hb : s.bad with
          | false => rfl
          | true => have := h.good.1 hb; rw [this] at hkl; simp at hkl; omega
        obtain ⟨e1, e2⟩ := RD.take_fit hbad hkl
        rw [e1, e2]
        have hlc := left_any w base F p s h
        rcases h with ⟨rfl, rfl, rfl⟩ | ⟨g, rfl, A, c, rfl, h1, h2, h3, h4, h5, h6, h7⟩
        · simp [RD.spoilt] at hkl; omega
        · have hc0 : w.cell? ⟨g, 0, none⟩ = some (.slice A s.bs.length c) := by rw [h1.cell]; rfl
          have hf0 : w.frozen? ⟨g, 0, none⟩ = false := h1.frozen _
          unfold maxLen at h4
          have q1 : (0 : Int) ≤ (k : Int) := by omega
          have q2 : (k : Int) ≤ (c : Int) := by omega
          have q3 : (k : Int) ≤ (s.bs.length : Int) := by omega
          have hkc : k ≤ c := by omega
          go_enter Try.func142, Try.ntmps142
          go_wp2_with fail
          refine hlc.mono ?_
          rintro e w1 ⟨he, hw⟩
          subst hw
          subst he
          have hdone := take_done w base g k A c s h1 h2 h3 h4 h5 h6 h7 hkl hbad
          have hlen : (s.bs.take k).length = k := by rw [List.length_take]; omega
          have hAF : ∀ a, A = some a → a.block ∈ g :: (A.map Addr.block).toList := fun a ha => by subst ha; simp
          have hAn : A = none → (s.bs.take k).length = 0 := fun ha => by
            subst ha
            obtain ⟨_, h, _⟩ := h2.1.2 (by omega)
            cases h
          have HD := Lib.hid hdone
          have HAF := Lib.hid hAF
          have HAn := Lib.hid hAn
          clear hdone hAF hAn
          by_cases hck : c = k
          · have hHD := HD.out
            rw [if_pos hck] at hHD
            have HD2 := Lib.hid hHD
            clear hHD HD
            subst hck
            go_wp2
            go_ret
            rw [hlen]
            have := HD2.out
            rw [Nat.sub_self, show s.bs.length - c = 0 by omega] at this
            exact ⟨A, _, rfl, this.1, ⟨_, this.2⟩, HAF.out, by rw [← hlen]; exact HAn.out⟩
          · have hHD := HD.out
            rw [if_neg hck] at hHD
            have HD2 := Lib.hid hHD
            clear hHD HD
            go_wp2
            go_ret
            rw [hlen]
            exact ⟨A, _, rfl, HD2.out.1, ⟨_, HD2.out.2⟩, HAF.out, by rw [← hlen]; exact HAn.out⟩
end Go.Proofs.Ytgddenhnpjoabaa

/-
  Heads as data: names, marks, links, snapshots; which are good; their text, and what is read of any bytes. No condition; nothing of the program is named.
-/
namespace Go.Proofs.Ytgddenhnpjoabaa
open Go.RowKit
set_option linter.unusedSimpArgs false
set_option linter.unusedVariables false
def okSign (b : Nat) : Bool := (decide (97 ≤ b) && decide (b ≤ 122)) || (decide (48 ≤ b) && decide (b ≤ 57)) || decide (b = 45)
def namedB (s : List Nat) : Bool := decide (1 ≤ s.length) && decide (s.length ≤ 20) && s.all okSign
structure LkV where
  par : List Nat
  ps : Int
  ov : Int
structure MkV where
  on : Bool
  good : Bool
  row : List Nat
structure SnV where
  num : Int
  size : Int
  name : List Nat
  prot : Bool
  mx : MkV
  lk : LkV
  ch : List (List Nat)
structure HdV where
  id : Int
  size : Int
  obj : Int
  seq : Int
  sn : List SnV
  mx : MkV
  lk : LkV
  ow : Int
  it : Int
  tg : Int
def objsOf (size object : Int) : Int := if size < 1 ∨ object < 1 then 0 else (size - 1) / object + 1
/-- is one string ahead of another? -/
def ltS (a b : List Nat) : Bool := Op.bytesLess (strOf a).toList (strOf b).toList
def MkV.B (m : MkV) (n : Int) : Bool := if m.on then decide (Good m.row) && decide ((m.row.length : Int) = n) else m.row.isEmpty && !m.good
def LkV.B (l : LkV) (size : Int) : Bool := if l.par.isEmpty then decide (l.ps = 0) && decide (l.ov = 0) else namedB l.par && decide (1 ≤ l.ps) && decide (0 ≤ l.ov) && decide (l.ov ≤ size)
def viewB (size obj : Int) (m : MkV) (l : LkV) : Bool := decide (0 ≤ size) && decide (size ≤ 4096) && m.B (objsOf size obj) && l.B size
/-- names that rise -/
def upB : List Nat → List (List Nat) → Bool
  | _, [] => true
  | last, c :: r => namedB c && ltS last c && upB c r
def SnV.chB (s : SnV) : Bool := upB [] s.ch && (s.prot || s.ch.isEmpty)
def snapB (obj seq last : Int) (s : SnV) : Bool := decide (last < s.num) && decide (s.num ≤ seq) && namedB s.name && viewB s.size obj s.mx s.lk && s.chB
def snapsB (obj seq : Int) : Int → List SnV → Bool
  | _, [] => true
  | last, s :: r => snapB obj seq last s && snapsB obj seq s.num r
def isObjB (n : Int) : Bool := n == 16 || n == 32 || n == 64 || n == 128 || n == 256
def HdV.itB (h : HdV) : Bool :=
  if h.it = 1 then decide (0 ≤ h.tg) && decide (h.tg ≤ 4096)
  else if h.it = 2 ∨ h.it = 3 then h.sn.any fun s => s.num == h.tg
  else if h.it = 0 ∨ h.it = 4 ∨ h.it = 5 then decide (h.tg = 0) else false
def HdV.snB (h : HdV) : Bool := decide (h.sn.length ≤ 16) && snapsB h.obj h.seq 0 h.sn && decide (h.sn.map SnV.name).Nodup
def HdV.B (h : HdV) : Bool := decide (0 ≤ h.id) && decide (0 ≤ h.seq) && isObjB h.obj && viewB h.size h.obj h.mx h.lk && h.snB && decide (-1 ≤ h.ow) && decide (h.ow < 8) && h.itB
/-! ### the text -/
def flagB (f : Bool) : List Nat := [if f then 1 else 0]
def txt (b : List Nat) : List Nat := numB b.length ++ b
def putMk (m : MkV) : List Nat := flagB m.on ++ (flagB m.good ++ txt (putM m.row))
def putLk (l : LkV) : List Nat := txt l.par ++ (numB l.ps ++ numB l.ov)
def putVw (m : MkV) (l : LkV) : List Nat := putMk m ++ putLk l
def putSn (s : SnV) : List Nat := numB s.num ++ (txt s.name ++ (numB s.size ++ (putVw s.mx s.lk ++ (flagB s.prot ++ (numB s.ch.length ++ s.ch.flatMap txt)))))
def HdV.put (h : HdV) : List Nat := numB h.id ++ (numB h.size ++ (numB h.obj ++ (numB h.seq ++ (numB h.sn.length ++ (h.sn.flatMap putSn ++ (putVw h.mx h.lk ++ (numB h.ow ++ (numB h.it ++ numB h.tg))))))))
/-! ### what is read -/
def marksOf (b : List Nat) : List Nat := if TakeOk b then takeM b (countOf b) else []
def RD.mkv (s : RD) : MkV := ⟨s.flag, s.flagTo.flag, marksOf s.flagTo.flagTo.bytes⟩
def RD.mkTo (s : RD) : RD := s.flagTo.flagTo.bytesTo
def RD.lkv (s : RD) : LkV := ⟨s.bytes, s.bytesTo.num, (s.bytesTo.take 8).num⟩
def RD.lkTo (s : RD) : RD := (s.bytesTo.take 8).take 8
def RD.chL : Nat → RD → List (List Nat)
  | 0, s => []
  | k + 1, s => if namedB s.bytes then s.bytes :: RD.chL k s.bytesTo else []
def RD.chT : Nat → RD → RD
  | 0, s => s
  | k + 1, s => if namedB s.bytes then RD.chT k s.bytesTo else s.bytesTo
/-- a reader's states in a snapshot -/
def RD.sn1 (s : RD) : RD := (s.take 8).bytesTo.take 8
def RD.sn2 (s : RD) : RD := s.sn1.mkTo.lkTo.flagTo
def RD.snv (s : RD) : SnV := ⟨s.num, (s.take 8).bytesTo.num, (s.take 8).bytes, s.sn1.mkTo.lkTo.flag, s.sn1.mkv, s.sn1.mkTo.lkv, RD.chL s.sn2.num.toNat (s.sn2.take 8)⟩
def RD.snTo (s : RD) : RD := RD.chT s.sn2.num.toNat (s.sn2.take 8)
/-- one behind the other -/
def itL {α σ : Type} (f : σ → α) (g : σ → σ) : Nat → σ → List α
  | 0, s => []
  | k + 1, s => f s :: itL f g k (g s)
def itT {σ : Type} (g : σ → σ) : Nat → σ → σ
  | 0, s => s
  | k + 1, s => itT g k (g s)
def RD.snL (k : Nat) (s : RD) : List SnV := itL RD.snv RD.snTo k s
def RD.snT (k : Nat) (s : RD) : RD := itT RD.snTo k s
def RD.four (s : RD) : RD := (((s.take 8).take 8).take 8).take 8
def RD.cnt (s : RD) : Nat := (min s.four.num 16).toNat
def RD.hd1 (s : RD) : RD := RD.snT s.cnt (s.four.take 8)
def RD.hd2 (s : RD) : RD := s.hd1.mkTo.lkTo
def RD.hdv (s : RD) : HdV := ⟨s.num, (s.take 8).num, ((s.take 8).take 8).num, (((s.take 8).take 8).take 8).num, RD.snL s.cnt (s.four.take 8), s.hd1.mkv, s.hd1.mkTo.lkv, s.hd2.num, (s.hd2.take 8).num, ((s.hd2.take 8).take 8).num⟩
def RD.hdTo (s : RD) : RD := ((s.hd2.take 8).take 8).take 8
/-! ### what was put is read back -/
def I64 (n : Int) : Prop := -9223372036854775808 ≤ n ∧ n ≤ 9223372036854775807
theorem txt_len (b : List Nat) : (txt b).length = 8 + b.length := by simp [txt, numB_len]
theorem take_num (n : Int) (rest : List Nat) (h : I64 n) : (⟨numB n ++ rest, false⟩ : RD).take 8 = ⟨rest, false⟩ ∧ (⟨numB n ++ rest, false⟩ : RD).num = n := by
  obtain ⟨e1, e2⟩ := RD.take_fit (s := ⟨numB n ++ rest, false⟩) (k := 8) rfl (by simp [numB_len])
  refine ⟨e1.trans (by rw [List.drop_left' (numB_len n)]), ?_⟩
  have : (⟨numB n ++ rest, false⟩ : RD).num = numOf ((⟨numB n ++ rest, false⟩ : RD).got 8) := rfl
  rw [this]
  exact (congrArg numOf (e2.trans (List.take_left' (numB_len n)))).trans (numOf_numB n h.1 h.2)
theorem take_bs (b rest : List Nat) : (⟨b ++ rest, false⟩ : RD).take (b.length : Nat) = ⟨rest, false⟩ ∧ (⟨b ++ rest, false⟩ : RD).got (b.length : Nat) = b := by
  obtain ⟨e1, e2⟩ := RD.take_fit (s := ⟨b ++ rest, false⟩) (k := b.length) rfl (by simp)
  exact ⟨e1.trans (by rw [List.drop_left' rfl]), e2.trans (List.take_left' rfl)⟩
theorem take_one (b : Nat) (rest : List Nat) : (⟨b :: rest, false⟩ : RD).take 1 = ⟨rest, false⟩ ∧ (⟨b :: rest, false⟩ : RD).byte = b := by
  have h := take_bs [b] rest
  refine ⟨h.1, ?_⟩
  have : (⟨b :: rest, false⟩ : RD).byte = ((⟨b :: rest, false⟩ : RD).got 1).headD 0 := rfl
  rw [this, show (⟨b :: rest, false⟩ : RD).got 1 = [b] from h.2]
  rfl
theorem bytes_back (b rest : List Nat) (hb : b.length ≤ 1000000) : (⟨txt b ++ rest, false⟩ : RD).bytesTo = ⟨rest, false⟩ ∧ (⟨txt b ++ rest, false⟩ : RD).bytes = b := by
  rw [txt, List.append_assoc]
  obtain ⟨t1, t2⟩ := take_num (b.length : Nat) (b ++ rest) (by unfold I64; omega)
  obtain ⟨u1, u2⟩ := take_bs b rest
  exact ⟨by rw [RD.bytesTo, t1, t2, u1], by rw [RD.bytes, t1, t2, u2]⟩
theorem flag_back (f : Bool) (rest : List Nat) : (⟨flagB f ++ rest, false⟩ : RD).flagTo = ⟨rest, false⟩ ∧ (⟨flagB f ++ rest, false⟩ : RD).flag = f := by
  obtain ⟨t1, t2⟩ := take_one (if f then 1 else 0) rest
  refine ⟨?_, ?_⟩
  · show RD.flagTo ⟨(if f then 1 else 0) :: rest, false⟩ = _
    rw [RD.flagTo, t1, t2, if_neg (by cases f <;> decide)]
  · show RD.flag ⟨(if f then 1 else 0) :: rest, false⟩ = _
    rw [RD.flag, t2]
    cases f <;> rfl
/-- what can be read back -/
structure MkV.Ok (m : MkV) : Prop where
  row : Good m.row
structure LkV.Ok (l : LkV) : Prop where
  par : l.par.length ≤ 1000000
  ps : I64 l.ps
  ov : I64 l.ov
structure SnV.Ok (s : SnV) : Prop where
  num : I64 s.num
  size : I64 s.size
  name : s.name.length ≤ 1000000
  mx : s.mx.Ok
  lk : s.lk.Ok
  ch : ∀ c ∈ s.ch, namedB c = true
  cn : s.ch.length ≤ 1000000
theorem marksOf_put {m : List Nat} (h : Good m) : marksOf (putM m) = m := by rw [marksOf, if_pos (ok_put h), count_put, take_put h]
theorem named_len {c : List Nat} (h : namedB c = true) : 1 ≤ c.length ∧ c.length ≤ 20 := by
  simp [namedB] at h
  omega
theorem putM_small {m : List Nat} (h : Good m) : (putM m).length ≤ 66 := by rw [putM_len]; have := h.1; omega
theorem mk_back (m : MkV) (rest : List Nat) (h : m.Ok) : (⟨putMk m ++ rest, false⟩ : RD).mkTo = ⟨rest, false⟩ ∧ (⟨putMk m ++ rest, false⟩ : RD).mkv = m := by
  unfold putMk RD.mkTo RD.mkv
  rw [List.append_assoc, List.append_assoc]
  obtain ⟨a1, a2⟩ := flag_back m.on (flagB m.good ++ (txt (putM m.row) ++ rest))
  obtain ⟨b1, b2⟩ := flag_back m.good (txt (putM m.row) ++ rest)
  obtain ⟨c1, c2⟩ := bytes_back (putM m.row) rest (by have := putM_small h.row; omega)
  rw [a1, a2, b1, b2, c1, c2, marksOf_put h.row]
  exact ⟨rfl, rfl⟩
theorem lk_back (l : LkV) (rest : List Nat) (h : l.Ok) : (⟨putLk l ++ rest, false⟩ : RD).lkTo = ⟨rest, false⟩ ∧ (⟨putLk l ++ rest, false⟩ : RD).lkv = l := by
  unfold putLk RD.lkTo RD.lkv
  rw [List.append_assoc, List.append_assoc]
  obtain ⟨a1, a2⟩ := bytes_back l.par (numB l.ps ++ (numB l.ov ++ rest)) h.par
  obtain ⟨b1, b2⟩ := take_num l.ps (numB l.ov ++ rest) h.ps
  obtain ⟨c1, c2⟩ := take_num l.ov rest h.ov
  rw [a1, a2, b1, b2, c1, c2]
  exact ⟨rfl, rfl⟩
theorem chs_back (rest : List Nat) : ∀ (l : List (List Nat)) , (∀ c ∈ l, namedB c = true) → RD.chL l.length ⟨l.flatMap txt ++ rest, false⟩ = l ∧ RD.chT l.length ⟨l.flatMap txt ++ rest, false⟩ = ⟨rest, false⟩
  | [], _ => ⟨rfl, rfl⟩
  | c :: l, h => by
    have ih := chs_back rest l fun c hc => h c (List.mem_cons_of_mem _ hc)
    have hc := h c (by simp)
    obtain ⟨a1, a2⟩ := bytes_back c (l.flatMap txt ++ rest) (by have := named_len hc; omega)
    rw [List.length_cons, RD.chL, RD.chT, List.flatMap_cons, List.append_assoc, a1, a2, if_pos hc, if_pos hc, ih.1, ih.2]
    exact ⟨rfl, rfl⟩
theorem sn_steps {s0 s1 s2 s3 s4 s5 s6 s7 s8 : RD} {num size : Int} {name : List Nat} {m : MkV} {l : LkV} {p : Bool} {n : Nat} {ch : List (List Nat)}
    (a : s0.take 8 = s1 ∧ s0.num = num) (b : s1.bytesTo = s2 ∧ s1.bytes = name) (c : s2.take 8 = s3 ∧ s2.num = size) (d : s3.mkTo = s4 ∧ s3.mkv = m) (f : s4.lkTo = s5 ∧ s4.lkv = l) (g : s5.flagTo = s6 ∧ s5.flag = p) (i : s6.take 8 = s7 ∧ s6.num = (n : Int)) (hc : RD.chL n s7 = ch ∧ RD.chT n s7 = s8) :
    s0.snTo = s8 ∧ s0.snv = ⟨num, size, name, p, m, l, ch⟩ := by
  have q1 : s0.sn1 = s3 := by unfold RD.sn1; rw [a.1, b.1, c.1]
  have q2 : s0.sn2 = s6 := by unfold RD.sn2; rw [q1, d.1, f.1, g.1]
  have ht : (n : Int).toNat = n := by omega
  refine ⟨?_, ?_⟩
  · unfold RD.snTo; rw [q2, i.1, i.2, ht, hc.2]
  · unfold RD.snv; rw [q2, q1, a.1, a.2, b.1, b.2, c.2, d.1, d.2, f.1, f.2, g.2, i.1, i.2, ht, hc.1]
theorem app_mid {s : RD} {a b : List Nat} (e : a = b) {s' : RD} {x : SnV} (h : (⟨b, false⟩ : RD).snTo = s' ∧ (⟨b, false⟩ : RD).snv = x) : (⟨a, false⟩ : RD).snTo = s' ∧ (⟨a, false⟩ : RD).snv = x := by rw [e]; exact h
theorem putSn_rest (s : SnV) (rest : List Nat) : putSn s ++ rest = numB s.num ++ (txt s.name ++ (numB s.size ++ (putMk s.mx ++ (putLk s.lk ++ (flagB s.prot ++ (numB s.ch.length ++ (s.ch.flatMap txt ++ rest))))))) := by
  unfold putSn putVw
  simp only [List.append_assoc]
theorem sn_back (s : SnV) (rest : List Nat) (h : s.Ok) : (⟨putSn s ++ rest, false⟩ : RD).snTo = ⟨rest, false⟩ ∧ (⟨putSn s ++ rest, false⟩ : RD).snv = s :=
  app_mid (s := ⟨[], false⟩) (putSn_rest s rest) (sn_steps (take_num s.num _ h.num) (bytes_back s.name _ h.name) (take_num s.size _ h.size) (mk_back s.mx _ h.mx) (lk_back s.lk _ h.lk) (flag_back s.prot _) (take_num (s.ch.length : Nat) _ (by have := h.cn; unfold I64; omega)) (chs_back rest s.ch h.ch))
theorem snL_step {s0 s1 s2 : RD} {x : SnV} {k : Nat} {l : List SnV} (h : s0.snTo = s1 ∧ s0.snv = x) (ih : RD.snL k s1 = l ∧ RD.snT k s1 = s2) : RD.snL (k + 1) s0 = x :: l ∧ RD.snT (k + 1) s0 = s2 := by
  unfold RD.snL RD.snT at *
  rw [itL, itT, h.1, h.2]
  exact ⟨congrArg _ ih.1, ih.2⟩
theorem snL_mid {a b : List Nat} (e : a = b) {s : RD} {k : Nat} {l : List SnV} (h : RD.snL k ⟨b, false⟩ = l ∧ RD.snT k ⟨b, false⟩ = s) : RD.snL k ⟨a, false⟩ = l ∧ RD.snT k ⟨a, false⟩ = s := by rw [e]; exact h
theorem sns_back (rest : List Nat) : ∀ (l : List SnV), (∀ s ∈ l, s.Ok) → RD.snL l.length ⟨l.flatMap putSn ++ rest, false⟩ = l ∧ RD.snT l.length ⟨l.flatMap putSn ++ rest, false⟩ = ⟨rest, false⟩
  | [], _ => ⟨rfl, rfl⟩
  | s :: l, h => snL_mid (b := putSn s ++ (l.flatMap putSn ++ rest)) (by rw [List.flatMap_cons, List.append_assoc]) (snL_step (sn_back s (l.flatMap putSn ++ rest) (h s (by simp))) (sns_back rest l fun c hc => h c (List.mem_cons_of_mem _ hc)))
structure HdV.Ok (h : HdV) : Prop where
  id : I64 h.id
  size : I64 h.size
  obj : I64 h.obj
  seq : I64 h.seq
  sn : ∀ s ∈ h.sn, s.Ok
  cn : h.sn.length ≤ 16
  mx : h.mx.Ok
  lk : h.lk.Ok
  ow : I64 h.ow
  it : I64 h.it
  tg : I64 h.tg
theorem hd_steps {s0 s1 s2 s3 s4 s5 s6 s7 s8 s9 s10 s11 : RD} {id size obj seq ow it to : Int} {m : MkV} {l : LkV} {n : Nat} {sn : List SnV} (hn : n ≤ 16)
    (a : s0.take 8 = s1 ∧ s0.num = id) (b : s1.take 8 = s2 ∧ s1.num = size) (c : s2.take 8 = s3 ∧ s2.num = obj) (d : s3.take 8 = s4 ∧ s3.num = seq) (f : s4.take 8 = s5 ∧ s4.num = (n : Int)) (hs : RD.snL n s5 = sn ∧ RD.snT n s5 = s6)
    (g : s6.mkTo = s7 ∧ s6.mkv = m) (i : s7.lkTo = s8 ∧ s7.lkv = l) (j : s8.take 8 = s9 ∧ s8.num = ow) (k : s9.take 8 = s10 ∧ s9.num = it) (e : s10.take 8 = s11 ∧ s10.num = to) :
    s0.hdTo = s11 ∧ s0.hdv = ⟨id, size, obj, seq, sn, m, l, ow, it, to⟩ := by
  have ht : (min (n : Int) 16).toNat = n := by omega
  have q0 : s0.four = s4 := by unfold RD.four; rw [a.1, b.1, c.1, d.1]
  have qc : s0.cnt = n := by unfold RD.cnt; rw [q0, f.2, ht]
  have q1 : s0.hd1 = s6 := by unfold RD.hd1; rw [q0, qc, f.1, hs.2]
  have q2 : s0.hd2 = s8 := by unfold RD.hd2; rw [q1, g.1, i.1]
  refine ⟨?_, ?_⟩
  · unfold RD.hdTo; rw [q2, j.1, k.1, e.1]
  · unfold RD.hdv; rw [q2, q1, qc, q0, f.1, hs.1, a.1, a.2, b.1, b.2, c.1, c.2, d.2, g.1, g.2, i.2, j.1, j.2, k.1, k.2, e.2]
theorem hd_put (h : HdV) : h.put = numB h.id ++ (numB h.size ++ (numB h.obj ++ (numB h.seq ++ (numB h.sn.length ++ (h.sn.flatMap putSn ++ (putMk h.mx ++ (putLk h.lk ++ (numB h.ow ++ (numB h.it ++ (numB h.tg ++ [])))))))))) := by
  unfold HdV.put putVw
  simp only [List.append_assoc, List.append_nil]
theorem hd_mid {a b : List Nat} (e : a = b) {s' : RD} {x : HdV} (h : (⟨b, false⟩ : RD).hdTo = s' ∧ (⟨b, false⟩ : RD).hdv = x) : (⟨a, false⟩ : RD).hdTo = s' ∧ (⟨a, false⟩ : RD).hdv = x := by rw [e]; exact h
theorem hd_back (h : HdV) (hk : h.Ok) : (⟨h.put, false⟩ : RD).hdTo = ⟨[], false⟩ ∧ (⟨h.put, false⟩ : RD).hdv = h :=
  hd_mid (hd_put h) (hd_steps hk.cn (take_num h.id _ hk.id) (take_num h.size _ hk.size) (take_num h.obj _ hk.obj) (take_num h.seq _ hk.seq) (take_num (h.sn.length : Nat) _ (by have := hk.cn; unfold I64; omega)) (sns_back _ h.sn hk.sn) (mk_back h.mx _ hk.mx) (lk_back h.lk _ hk.lk) (take_num h.ow _ hk.ow) (take_num h.it _ hk.it) (take_num h.tg [] hk.tg))
end Go.Proofs.Ytgddenhnpjoabaa

/-
  The document's answer for the wire: its numbers as bytes. Conditions: the sizes.
-/
namespace Go.Proofs.Ytgddenhnpjoabaa
open Go.RowKit
set_option linter.unusedSimpArgs false
set_option maxRecDepth 100000
set_option linter.unusedVariables false
theorem dnum_any (n : Int) (w : World) : Calls Try.prog 53 #[.int .i64 n] w fun e w' => ∃ v, e = .returned v ∧ Own w' w.heap.size v 8 (numB n) ∧ Below w.heap.size w w' := by
  have hu := nat64_lt n
  have hwn : IntKind.u64.wrap n = ((nat64 n : Nat) : Int) := by rw [IntKind.wrap_u64]; unfold nat64; omega
  generalize hq : nat64 n = u at *
  unfold numB
  rw [hq]
  go_enter Try.func53, Try.ntmps53
  go_wp2
  go_loopw [4, 3, 5] (fun v q i wr => ∃ k : Nat, k ≤ 8 ∧ i = .int .i64 k ∧ q = .int .u64 ((u / 256 ^ k : Nat) : Int) ∧ Own wr w.heap.size v k (le k u) ∧ Below w.heap.size w wr) (fun _ _ i _ => 8 - (intOf i).toNat)
  case atStart => exact ⟨0, by omega, rfl, by simp, Own.nil _ _, Below.refl _ _⟩
  case round =>
    obtain ⟨k, hk, rfl, rfl, ho, hb⟩ := hrel
    by_cases hlt : k < 8
    · obtain ⟨A1, c1, rfl, -, -, -⟩ := ho.form
      have HO := Lib.hid ho
      have Hb := Lib.hid hb
      clear ho hb
      obtain ⟨b, hvb, hb256, hbe⟩ : ∃ b : Nat, ((u / 256 ^ k : Nat) : Int) % 256 = (b : Int) ∧ b < 256 ∧ b = u / 256 ^ k % 256 := ⟨u / 256 ^ k % 256, by omega, Nat.mod_lt _ (by omega), rfl⟩
      obtain ⟨v2, hv2, hve⟩ : ∃ v2 : Nat, ((u / 256 ^ k : Nat) : Int) / 256 = (v2 : Int) ∧ v2 = u / 256 ^ (k + 1) := ⟨u / 256 ^ k / 256, by omega, by rw [Nat.div_div_eq_div_mul, Nat.pow_succ]⟩
      have hvlt : u / 256 ^ k ≤ u := Nat.div_le_self _ _
      have Hbe := Lib.hid hbe
      have Hve := Lib.hid hve
      clear hbe hve
      generalize hv : u / 256 ^ k = v at *
      have HS := Lib.hid (HO.out.alloc (.cells (u8s [b]).toArray 5))
      have hnew := Bytes.new wr [b] 5 (0, 0) (by simpa using hb256)
      have hbs := Lib.hid (Hb.out.alloc Hb.out.size (.cells (u8s [b]).toArray 5))
      go_wp2_with (refine app_bytes (.tmp 12) (.tmp 16) rfl rfl w.heap.size (.slice A1 k c1) k (le k u) rfl HS.out _ _ 1 1 [b] rfl hnew (by omega) hbs.out.size ?_
                   intro v3 w3 h3 g3 a3)
      go_roundw
      case rel =>
        refine ⟨k + 1, by omega, by go_num, by rw [Hve.out], ?_, below_own hbs.out HS.out (Nat.le_refl _) g3 hbs.out.size⟩
        rw [le_snoc, hv, ← Hbe.out]
        exact h3
      case measure => simp [intOf]; omega
    · obtain rfl : k = 8 := by omega
      go_wp2
      go_ret
      exact ⟨_, rfl, ho, hb⟩
theorem dbytes_any (A : Option Addr) (n c B : Nat) (bs : List Nat) (w : World) (hb : Bytes w B A n bs) (hn : n ≤ 9000000) :
    Calls Try.prog 54 #[.slice A n c] w fun e w' => ∃ v, e = .returned v ∧ Own w' w.heap.size v (8 + n) (numB n ++ bs) ∧ Below w.heap.size w w' := by
  go_enter Try.func54, Try.ntmps54
  go_wp2_with fail
  refine (dnum_any n w).mono ?_
  rintro e w1 ⟨v, rfl, h1, b1⟩
  have hb1 := hb.since b1
  obtain ⟨A1, c1, rfl, -, -, -⟩ := h1.form
  go_wp2_with (refine app_bytes (.tmp 5) (.tmp 6) rfl rfl w.heap.size (.slice A1 8 c1) 8 (numB n) rfl h1 B A n c bs rfl hb1 (by omega) b1.size ?_
               intro v3 w3 h3 g3 a3)
  go_ret
  exact ⟨v3, rfl, h3, below_own b1 h1 (Nat.le_refl _) g3 b1.size⟩
end Go.Proofs.Ytgddenhnpjoabaa

/-
  What the program's reader reads: a byte, a number, a flag, bytes, a text, numbers; its end. Conditions: the reader lies where it is said to.
-/
namespace Go.Proofs.Ytgddenhnpjoabaa
open Go.RowKit
set_option linter.unusedSimpArgs false
set_option maxRecDepth 100000
set_option linter.unusedVariables false
theorem byte_size1 : (Try.prog.info? 5).map (·.size) = some 1 := by kernel_rfl
/-- copy onto a whole block, of as many bytes or of none -/
theorem wp_copy_full {o : Oper} {a : Act} {w : World} {K : Act → World → Prop} {Q : Exit → Act → World → Prop} (x y : Operand) (ho : o.op = .call { callee := .builtin .copy, args := #[x, y], argTypes := #[23, 23] })
    (gb m : Nat) (t : TypeId) (cur : List Value) (hg : Blk w gb t cur.toArray) (hcur : cur.length = m) (hx : a.eval x = .slice (some ⟨gb, 0, none⟩) m m) (A : Option Addr) (k c B : Nat) (bs : List Nat) (hy : a.eval y = .slice A k c) (hb : Bytes w B A k bs) (hk : k = m ∨ k = 0) (hm : 0 < m)
    (h : ∀ w', Blk w' gb t (if k = 0 then cur else u8s bs).toArray → Only [gb] w w' → K (a.put o.dst (goInt k)) w') : o.wp Try.prog a w K Q := by
  rcases hk with rfl | rfl
  · obtain ⟨ad, rfl, hB, hc⟩ := hb.1.2 hm
    have hl : (u8s bs).length = k := by rw [u8s_length, hb.len]
    have hrun := run_copy_row (P := Try.prog) w 23 23 o.type 5 gb 0 k k ad k c cur.toArray t (u8s bs) Try.underlying23 byte_size1 hg (by rw [hl]; exact (Nat.min_self k).symm) hc (by simp [hl, hcur]) (oneCell_u8s _)
    unfold Oper.wp
    simp [execOp, ho, resolve, invoke, builtin, hx, hy, hrun, Result.andThen]
    rw [hl]
    refine h _ ?_ ?_
    · rw [if_neg (by omega)]
      have := setRow_heap w gb cur.toArray (u8s bs).toArray t (0, 0) hg
      have e : (u8s bs ++ List.drop k cur).toArray = (u8s bs).toArray := by rw [List.drop_of_length_le (by omega), List.append_nil]
      unfold Blk
      simpa [e, hl, hcur, List.drop_of_length_le (show cur.length ≤ k by omega)] using this
    · exact ⟨rfl, rfl, rfl, by simp [World.setRow], fun j hj hn => setRow_other w gb j _ (fun e => hn (by simp [e]))⟩
  · have hrun := run_copy_none (P := Try.prog) w 23 23 o.type 5 (some ⟨gb, 0, none⟩) A m m 0 c Try.underlying23 byte_size1 (Nat.zero_min m)
    unfold Oper.wp
    simp [execOp, ho, resolve, invoke, builtin, hx, hy, hrun, Result.andThen]
    exact h w (by simpa using hg) (Only.refl _ _)
theorem got_len (s : RD) (k : Nat) : (s.got k).length = k ∨ (s.got k).length = 0 := by
  unfold RD.got
  split
  · rename_i h
    simp [RD.fits] at h
    left
    rw [List.length_take]
    omega
  · exact .inr rfl
theorem unpacked_list (l : List Nat) (hl : l.length = 8) (hb : ∀ b ∈ l, b < 256) (w : World) :
    Calls Try.prog 143 #[.agg (u8s l).toArray] w fun e w' => e = .returned (.int .i64 (numOf l)) ∧ Below w.heap.size w w' := by
  match l, hl with
  | [b0, b1, b2, b3, b4, b5, b6, b7], _ => exact unpacked_any b0 b1 b2 b3 b4 b5 b6 b7 w (hb _ (by simp)) (hb _ (by simp)) (hb _ (by simp)) (hb _ (by simp)) (hb _ (by simp)) (hb _ (by simp)) (hb _ (by simp)) (hb _ (by simp))
def padded (m : Nat) (l : List Nat) : List Nat := if l.length = 0 then List.replicate m 0 else l
theorem numOf_padded (l : List Nat) : numOf (padded 8 l) = numOf l := by
  unfold padded
  split
  · rename_i h
    obtain rfl := List.eq_nil_of_length_eq_zero h
    simp [numOf, un, List.replicate]
  · rfl
theorem u8s_zeros (m : Nat) : u8s (List.replicate m 0) = List.replicate m (.int .u8 0) := by simp [u8s, u8]
theorem rnum_any (w : World) (base : Nat) (F : List Nat) (p : Option Addr) (s : RD) (h : Rd w base F p s) (hB : base ≤ w.heap.size) :
    Calls Try.prog 97 #[.pointer p] w fun e w' => e = .returned (.int .i64 s.num) ∧ RTo w base F p (s.take 8) w' := by
  obtain ⟨Zs, hz, hZs⟩ : ∃ Zs : List Value, (∀ w, (zeroValue 125).run Try.prog w = .ok (.agg Zs.toArray) w) ∧ Zs = u8s (List.replicate 8 0) := ⟨_, eight_zero, rfl⟩
  have hzl : Zs.length = 8 := by rw [hZs, u8s_length]; rfl
  have HZ := Lib.hid hZs
  clear hZs
  have B0 := Lib.hid (Blk.new w 125 Zs.toArray)
  have b0 := below_alloc w (.cells Zs.toArray 125)
  have H0 := Lib.hid (h.below b0)
  have hgw : w.heap.size ∉ F := fun hm => by have := h.under _ hm; omega
  have b0' := Lib.hid b0
  clear h b0
  go_enter Try.func97, Try.ntmps97
  go_wp2_with fail
  have hBw : base ≤ (w.alloc (.cells Zs.toArray 125)).heap.size := Nat.le_trans hB b0'.out.size
  generalize w.alloc (.cells Zs.toArray 125) = w0 at *
  generalize hgb : w.heap.size = gb at *
  refine any_begin (by kernel_rfl) ?_
  refine wpAny_take (i := 0) (v := .slice (some ⟨gb, 0, none⟩) 8 8) rfl (by kernel_rfl) (by kernel_rfl) (by kernel_rfl) (fun _ _ _ h => h) (Or.inl ⟨by rfl, fun w => by go_simp⟩) ?_
  simp only [Act.put, List.getElem_toArray, List.getElem_cons_succ, List.getElem_cons_zero, List.setIfInBounds_toArray, List.set_cons_zero, List.set_cons_succ]
  refine wpAny_take (i := 1) (v := .pointer p) rfl (by kernel_rfl) (by kernel_rfl) (by kernel_rfl) (fun _ _ _ h => h) (Or.inl ⟨by rfl, fun w => by kernel_rfl⟩) ?_
  simp only [Act.put, List.getElem_toArray, List.getElem_cons_succ, List.getElem_cons_zero, List.setIfInBounds_toArray, List.set_cons_zero, List.set_cons_succ]
  refine do_one (i := 2) (by kernel_rfl) rfl (by rfl) ?_
  simp only [Act.put, List.getElem_toArray, List.getElem_cons_succ, List.getElem_cons_zero, List.setIfInBounds_toArray, List.set_cons_zero, List.set_cons_succ]
  refine wp_called (by kernel_rfl) (take_any w0.drew base F p s 8 (H0.out.of (Nat.le_refl _) (fun _ _ => rfl)) (by omega) (by omega)) ?_
  rintro e w1 ⟨A, c, rfl, ⟨F1, r1, o1, f1⟩, ⟨B, hb⟩, -, -⟩
  refine ⟨_, rfl, ?_⟩
  simp only [Act.put, List.getElem_toArray, List.getElem_cons_succ, List.getElem_cons_zero, List.setIfInBounds_toArray, List.set_cons_zero, List.set_cons_succ]
  have B1 : Blk w1 gb 125 Zs.toArray := B0.out.of (o1.block gb B0.out.lt hgw)
  refine do_one (i := 3) (by kernel_rfl) rfl (by rfl) ?_
  simp only [Act.put, List.getElem_toArray, List.getElem_cons_succ, List.getElem_cons_zero, List.setIfInBounds_toArray, List.set_cons_zero, List.set_cons_succ]
  refine wp_copy_full (.tmp 4) (.tmp 6) rfl gb 8 125 Zs B1 hzl (by rfl) A _ c B _ (by rfl) hb (got_len s 8) (by omega) ?_
  intro w2 B2 o2
  simp only [Act.put, List.getElem_toArray, List.getElem_cons_succ, List.getElem_cons_zero, List.setIfInBounds_toArray, List.set_cons_zero, List.set_cons_succ]
  refine wpAny_done (by kernel_rfl) ?_ _
  refine NoPanic.normal ?_
  have hpad : (if (s.got 8).length = 0 then Zs else u8s (s.got 8)) = u8s (padded 8 (s.got 8)) := by
    unfold padded
    rw [HZ.out]
    split
    · rfl
    · rfl
  rw [hpad] at B2
  have hgood := (H0.out.good)
  have hpl : (padded 8 (s.got 8)).length = 8 := by
    unfold padded
    split
    · simp
    · exact (got_len s 8).resolve_right (by assumption)
  have hpb : ∀ b ∈ padded 8 (s.got 8), b < 256 := by
    unfold padded
    split
    · intro b hb; obtain ⟨_, rfl⟩ := List.mem_replicate.1 hb; omega
    · exact RD.got_lt hgood 8
  have R2 : RTo w base F p (s.take 8) w2 := by
    have hf : Fresh w F F1 := fun k hk => (f1 k hk).imp id (fun h => Nat.le_trans (show w.heap.size ≤ w0.drew.heap.size from b0'.out.size) h)
    refine ⟨F1, r1.of o2.size (fun k hk => o2.block k (r1.under k hk) (fun hm => ?_)), ((Only.of_below (w' := w0.drew) (by rw [hgb]; exact b0'.out.drew) F).trans (F' := F) o1 (Fresh.refl _ _)).trans o2 (fun k hk => .inr (by simp at hk; omega)), hf⟩
    simp at hm
    subst hm
    rcases f1 _ hk with h | h
    · exact hgw h
    · have : k < w0.heap.size := B0.out.lt
      have h' : w0.heap.size ≤ k := h
      omega
  have HR := Lib.hid R2
  have H2 := Lib.hid B2
  have hrg : w2.rangeAt gb 0 (u8s (padded 8 (s.got 8))) := B2.range
  have hi : (Try.prog.info? 125).map (·.size) = some (u8s (padded 8 (s.got 8))).length := by rw [u8s_length, hpl]; exact eight_size
  have hu := Try.underlying125
  have HP := Lib.hid (And.intro hpl hpb)
  clear hpad hpl hpb R2 B2 o2 hb B1 r1 o1 f1 hgood
  go_wp2_with (refine wpList_load_mid rfl 125 (.tmp 3) rfl gb 0 rfl (u8s (padded 8 (s.got 8))) _ hrg hu rfl hi ?_)
  refine (unpacked_list _ HP.out.1 HP.out.2 w2).mono ?_
  rintro e w3 ⟨rfl, b3⟩
  rw [numOf_padded]
  go_wp2
  go_ret
  exact ⟨rfl, HR.out.then_ b3⟩
theorem one_zero (w : World) : (zeroValue 185).run Try.prog w = .ok (.agg (u8s (List.replicate 1 0)).toArray) w := by kernel_rfl
theorem rbyte_any (w : World) (base : Nat) (F : List Nat) (p : Option Addr) (s : RD) (h : Rd w base F p s) (hB : base ≤ w.heap.size) :
    Calls Try.prog 145 #[.pointer p] w fun e w' => e = .returned (.int .u8 s.byte) ∧ RTo w base F p (s.take 1) w' := by
  obtain ⟨Zs, hz, hZs⟩ : ∃ Zs : List Value, (∀ w, (zeroValue 185).run Try.prog w = .ok (.agg Zs.toArray) w) ∧ Zs = u8s (List.replicate 1 0) := ⟨_, one_zero, rfl⟩
  have hzl : Zs.length = 1 := by rw [hZs, u8s_length]; rfl
  have HZ := Lib.hid hZs
  clear hZs
  have B0 := Lib.hid (Blk.new w 185 Zs.toArray)
  have b0 := below_alloc w (.cells Zs.toArray 185)
  have H0 := Lib.hid (h.below b0)
  have hgw : w.heap.size ∉ F := fun hm => by have := h.under _ hm; omega
  have b0' := Lib.hid b0
  clear h b0
  go_enter Try.func145, Try.ntmps145
  go_wp2_with fail
  have hBw : base ≤ (w.alloc (.cells Zs.toArray 185)).heap.size := Nat.le_trans hB b0'.out.size
  generalize w.alloc (.cells Zs.toArray 185) = w0 at *
  generalize hgb : w.heap.size = gb at *
  refine any_begin (by kernel_rfl) ?_
  refine wpAny_take (i := 0) (v := .slice (some ⟨gb, 0, none⟩) 1 1) rfl (by kernel_rfl) (by kernel_rfl) (by kernel_rfl) (fun _ _ _ h => h) (Or.inl ⟨by rfl, fun w => by go_simp⟩) ?_
  simp only [Act.put, List.getElem_toArray, List.getElem_cons_succ, List.getElem_cons_zero, List.setIfInBounds_toArray, List.set_cons_zero, List.set_cons_succ]
  refine wpAny_take (i := 1) (v := .pointer p) rfl (by kernel_rfl) (by kernel_rfl) (by kernel_rfl) (fun _ _ _ h => h) (Or.inl ⟨by rfl, fun w => by kernel_rfl⟩) ?_
  simp only [Act.put, List.getElem_toArray, List.getElem_cons_succ, List.getElem_cons_zero, List.setIfInBounds_toArray, List.set_cons_zero, List.set_cons_succ]
  refine do_one (i := 2) (by kernel_rfl) rfl (by rfl) ?_
  simp only [Act.put, List.getElem_toArray, List.getElem_cons_succ, List.getElem_cons_zero, List.setIfInBounds_toArray, List.set_cons_zero, List.set_cons_succ]
  refine wp_called (by kernel_rfl) (take_any w0.drew base F p s 1 (H0.out.of (Nat.le_refl _) (fun _ _ => rfl)) (by omega) (by omega)) ?_
  rintro e w1 ⟨A, c, rfl, ⟨F1, r1, o1, f1⟩, ⟨B, hb⟩, -, -⟩
  refine ⟨_, rfl, ?_⟩
  simp only [Act.put, List.getElem_toArray, List.getElem_cons_succ, List.getElem_cons_zero, List.setIfInBounds_toArray, List.set_cons_zero, List.set_cons_succ]
  have B1 : Blk w1 gb 185 Zs.toArray := B0.out.of (o1.block gb B0.out.lt hgw)
  refine do_one (i := 3) (by kernel_rfl) rfl (by rfl) ?_
  simp only [Act.put, List.getElem_toArray, List.getElem_cons_succ, List.getElem_cons_zero, List.setIfInBounds_toArray, List.set_cons_zero, List.set_cons_succ]
  refine wp_copy_full (.tmp 4) (.tmp 6) rfl gb 1 185 Zs B1 hzl (by rfl) A _ c B _ (by rfl) hb (got_len s 1) (by omega) ?_
  intro w2 B2 o2
  simp only [Act.put, List.getElem_toArray, List.getElem_cons_succ, List.getElem_cons_zero, List.setIfInBounds_toArray, List.set_cons_zero, List.set_cons_succ]
  refine wpAny_done (by kernel_rfl) ?_ _
  refine NoPanic.normal ?_
  have hpad : (if (s.got 1).length = 0 then Zs else u8s (s.got 1)) = u8s (padded 1 (s.got 1)) := by
    unfold padded
    rw [HZ.out]
    split
    · rfl
    · rfl
  rw [hpad] at B2
  have R2 : RTo w base F p (s.take 1) w2 := by
    have hf : Fresh w F F1 := fun k hk => (f1 k hk).imp id (fun h => Nat.le_trans (show w.heap.size ≤ w0.drew.heap.size from b0'.out.size) h)
    refine ⟨F1, r1.of o2.size (fun k hk => o2.block k (r1.under k hk) (fun hm => ?_)), ((Only.of_below (w' := w0.drew) (by rw [hgb]; exact b0'.out.drew) F).trans (F' := F) o1 (Fresh.refl _ _)).trans o2 (fun k hk => .inr (by simp at hk; omega)), hf⟩
    simp at hm
    subst hm
    rcases f1 _ hk with h | h
    · exact hgw h
    · have : k < w0.heap.size := B0.out.lt
      have h' : w0.heap.size ≤ k := h
      omega
  have hcell : w2.cell? ⟨gb, 0, none⟩ = some (.int .u8 s.byte) := by
    rw [B2.cell]
    unfold RD.byte padded
    cases hg : s.got 1 with
    | nil => rfl
    | cons b l => rfl
  have HR := Lib.hid R2
  clear hpad R2 B2 o2 hb B1 r1 o1 f1
  go_wp2
  go_ret
  exact ⟨rfl, HR.out⟩
theorem rflag_any (w : World) (base : Nat) (F : List Nat) (p : Option Addr) (s : RD) (h : Rd w base F p s) (hB : base ≤ w.heap.size) :
    Calls Try.prog 99 #[.pointer p] w fun e w' => e = .returned (.bool s.flag) ∧ RTo w base F p s.flagTo w' := by
  have hby := RD.byte_lt h.good
  have hfl : ((s.byte : Int) == 1) = s.flag := by unfold RD.flag; rw [Bool.eq_iff_iff, beq_iff_eq, beq_iff_eq]; omega
  by_cases h1 : 1 < s.byte
  · have hd : decide (1 < (s.byte : Int)) = true := by simp; omega
    have hto : s.flagTo = RD.spoilt := by unfold RD.flagTo; rw [if_pos h1]
    rw [hto]
    go_enter Try.func99, Try.ntmps99
    go_wp2_with fail
    refine (rbyte_any w base F p s h hB).mono ?_
    rintro e w1 ⟨rfl, F1, r1, o1, f1⟩
    go_wp2_with fail
    refine (spoil_any w1 base F1 p _ r1).mono ?_
    rintro e w2 ⟨rfl, r2⟩
    go_wp2
    go_ret
    exact ⟨rfl, r2.after o1 f1⟩
  · have hd : decide (1 < (s.byte : Int)) = false := by simp; omega
    have hto : s.flagTo = s.take 1 := by unfold RD.flagTo; rw [if_neg h1]
    rw [hto]
    go_enter Try.func99, Try.ntmps99
    go_wp2_with fail
    refine (rbyte_any w base F p s h hB).mono ?_
    rintro e w1 ⟨rfl, r1⟩
    go_wp2
    go_ret
    exact ⟨rfl, r1⟩
theorem num_range (s : RD) : -9223372036854775808 ≤ s.num ∧ s.num ≤ 9223372036854775807 := numOf_range _
theorem RD.got_le (s : RD) (n : Int) : (s.got n).length ≤ s.bs.length := by
  unfold RD.got
  split
  · rw [List.length_take]; omega
  · simp
theorem RD.take_le (s : RD) (n : Int) : (s.take n).bs.length ≤ s.bs.length := by
  unfold RD.take
  split
  · simp
  · simp [RD.spoilt]
theorem rbytes_any (w : World) (base : Nat) (F : List Nat) (p : Option Addr) (s : RD) (h : Rd w base F p s) (hB : base ≤ w.heap.size) (hs : s.bs.length ≤ 9000000) :
    Calls Try.prog 148 #[.pointer p] w fun e w' => ∃ v F', e = .returned v ∧ Own w' w.heap.size v s.bytes.length s.bytes ∧ Rd w' base F' p s.bytesTo ∧ Only F w w' ∧ Fresh w F F' ∧ (∀ b ∈ s.bytes, b < 256) ∧ (∀ k, v.ownBlock = some k → k ∉ F') := by
  have hgot : s.bytes.length ≤ 10000000 := by have := RD.got_le (s.take 8) s.num; have := RD.take_le s 8; unfold RD.bytes; omega
  have hlt := RD.got_lt (RD.take_good h.good 8) s.num
  have hFu := h.under
  go_enter Try.func148, Try.ntmps148
  go_wp2_with fail
  refine (rnum_any w base F p s h hB).mono ?_
  rintro e w1 ⟨rfl, F1, r1, o1, f1⟩
  go_wp2_with fail
  refine (take_any w1 base F1 p (s.take 8) s.num r1 (num_range s).1 (num_range s).2).mono ?_
  rintro e w2 ⟨A, c, rfl, r2, ⟨B, hb⟩, -, -⟩
  go_wp2_with fail
  refine (clone_any A _ c s.bytes w2 B hgot hb).mono ?_
  rintro e w3 ⟨v, rfl, h3, b3⟩
  go_wp2
  go_ret
  have R2 := r2.after o1 f1
  obtain ⟨F3, q1, q2, q3⟩ := R2
  have hq2 : Only F w w2 := q2
  refine ⟨v, F3, rfl, h3.weaken q2.size, q1.below b3, q2.trans (Only.of_below b3 F3) q3, q3, hlt, fun k hk hm => ?_⟩
  have h4 := (World.ownsRow.lt h3 k hk).1
  have h5 := q1.under k hm
  omega
theorem rtext_any (w : World) (base : Nat) (F : List Nat) (p : Option Addr) (s : RD) (h : Rd w base F p s) (hB : base ≤ w.heap.size) :
    Calls Try.prog 144 #[.pointer p] w fun e w' => e = .returned (.string (strOf s.bytes)) ∧ RTo w base F p s.bytesTo w' := by
  go_enter Try.func144, Try.ntmps144
  go_wp2_with fail
  refine (rnum_any w base F p s h hB).mono ?_
  rintro e w1 ⟨rfl, F1, r1, o1, f1⟩
  go_wp2_with fail
  refine (take_any w1 base F1 p (s.take 8) s.num r1 (num_range s).1 (num_range s).2).mono ?_
  rintro e w2 ⟨A, c, rfl, r2, ⟨B, hb⟩, -, -⟩
  have hcv := str_of (P := Try.prog) hb c 23 9 5 Try.underlying23 Try.underlying5 Try.underlying9
  go_wp2
  go_ret
  exact ⟨rfl, r2.after o1 f1⟩
theorem newr_any (A : Option Addr) (n c : Nat) (bs : List Nat) (w : World) (B : Nat) (hn : n ≤ 9000000) (hb : Bytes w B A n bs) :
    Calls Try.prog 51 #[.slice A n c] w fun e w' => ∃ g F, e = .returned (.pointer (some ⟨g, 0, none⟩)) ∧ Rd w' w.heap.size F (some ⟨g, 0, none⟩) ⟨bs, false⟩ ∧ Below w.heap.size w w' := by
  go_enter Try.func51, Try.ntmps51
  go_wp2_with fail
  refine (clone_any A n c bs w B (by omega) hb).mono ?_
  rintro e w1 ⟨v, rfl, h1, b1⟩
  obtain ⟨A1, c1, rfl, hc1, hc2, hA1⟩ := h1.form
  go_wp2
  go_ret
  have hl := hb.len
  subst hl
  refine ⟨w1.heap.size, w1.heap.size :: (A1.map Addr.block).toList, rfl, .inr ⟨_, rfl, A1, c1, rfl, Blk.new _ _ _, ?_, hc1, hc2, b1.size, fun a ha => ?_, ⟨fun e => (by cases e), hb.2⟩⟩, b1.alloc b1.size _⟩
  · exact ((h1.bytes hb.2).since (below_alloc _ _)).more (by simp)
  · rcases hA1 with ⟨rfl, -⟩ | ⟨g, rfl, hg1, hg2⟩
    · cases ha
    · injection ha with ha
      subst ha
      exact ⟨hg1, Nat.lt_of_lt_of_le hg2 (by simp), Nat.ne_of_lt hg2⟩
end Go.Proofs.Ytgddenhnpjoabaa
