/-
  A good head's snapshots: no number and no name stands twice. No condition.
-/
import Derived.Test.YtebahllihpokkaaHg
namespace Go.Proofs.Ytebahllihpokkaa
set_option linter.unusedSimpArgs false
set_option linter.unusedVariables false
theorem idx_found {α : Type} (p : α → Bool) : ∀ (l : List α) (k : Nat) (x : α), l[k]? = some x → p x = true → ∃ (j : Nat) (y : α), idxI p l = (j : Nat) ∧ j ≤ k ∧ l[j]? = some y ∧ p y = true
  | [], k, x, h, _ => by simp at h
  | y :: l, k, x, h, hp => by
    cases hy : p y with
    | true => exact ⟨0, y, by rw [idxI, if_pos hy]; rfl, by omega, rfl, hy⟩
    | false =>
      cases k with
      | zero => simp at h; subst h; rw [hp] at hy; cases hy
      | succ k =>
        obtain ⟨j, z, e, hj, hz, hpz⟩ := idx_found p l k x (by simpa using h) hp
        refine ⟨j + 1, z, ?_, by omega, by simpa using hz, hpz⟩
        rw [idxI, if_neg (by rw [hy]; simp), e, if_neg (by omega)]
        push_cast
        rfl
theorem snaps_low {obj seq : Int} : ∀ {last : Int} {l : List SnV}, snapsB obj seq last l = true → ∀ s ∈ l, last < s.num
  | last, [], _, s, h => by cases h
  | last, x :: r, h, s, hs => by
    simp only [snapsB, Bool.and_eq_true] at h
    have hx : last < x.num := by
      have := h.1
      simp only [snapB, Bool.and_eq_true, decide_eq_true_eq] at this
      exact this.1.1.1.1
    rcases List.mem_cons.1 hs with rfl | hs
    · exact hx
    · exact Int.lt_trans hx (snaps_low h.2 s hs)
theorem snaps_one {obj seq : Int} : ∀ {last : Int} {l : List SnV}, snapsB obj seq last l = true → ∀ {j k : Nat} {x y : SnV}, l[j]? = some x → l[k]? = some y → x.num = y.num → j = k
  | last, [], _, j, k, x, y, hj, _, _ => by simp at hj
  | last, z :: r, h, j, k, x, y, hj, hk, e => by
    simp only [snapsB, Bool.and_eq_true] at h
    cases j with
    | zero =>
      cases k with
      | zero => rfl
      | succ k =>
        simp at hj hk
        subst hj
        have := snaps_low h.2 y (List.mem_of_getElem? hk)
        omega
    | succ j =>
      cases k with
      | zero =>
        simp at hj hk
        subst hk
        have := snaps_low h.2 x (List.mem_of_getElem? hj)
        omega
      | succ k =>
        simp at hj hk
        rw [snaps_one h.2 hj hk e]
theorem good_sn {q : HA} (h : q.v.B = true) : snapsB q.obj q.seq 0 (q.sn.map SA.v) = true ∧ ((q.sn.map SA.v).map SnV.name).Nodup := by
  simp only [HdV.B, Bool.and_eq_true] at h
  have h5 : q.v.snB = true := h.1.1.1.2
  simp only [HdV.snB, Bool.and_eq_true, decide_eq_true_eq] at h5
  exact ⟨h5.1.2, h5.2⟩
theorem nums_one {q : HA} (h : q.v.B = true) {j k : Nat} {x y : SA} (hj : q.sn[j]? = some x) (hk : q.sn[k]? = some y) (e : x.num = y.num) : j = k :=
  snaps_one (good_sn h).1 (x := x.v) (y := y.v) (by rw [List.getElem?_map, hj]; rfl) (by rw [List.getElem?_map, hk]; rfl) e
theorem names_one {q : HA} (h : q.v.B = true) {j k : Nat} {x y : SA} (hj : q.sn[j]? = some x) (hk : q.sn[k]? = some y) (e : x.name = y.name) : j = k := by
  have hn := (good_sn h).2
  have e1 : ((q.sn.map SA.v).map SnV.name)[j]? = some x.name := by rw [List.getElem?_map, List.getElem?_map, hj]; rfl
  have e2 : ((q.sn.map SA.v).map SnV.name)[k]? = some y.name := by rw [List.getElem?_map, List.getElem?_map, hk]; rfl
  exact (List.getElem?_inj (List.getElem?_eq_some_iff.1 e1).1 hn).1 (by rw [e1, e2, e])
theorem objs_fit {x1 x2 n : Int} (h1 : x1 ≤ 1099511627776) (h2 : x2 ≤ 1048576) (h3 : 1 ≤ x1) (h4 : 1 ≤ x2) (hn : objsOf x1 x2 = n) :
    n * x2 < 1099514000000 ∧ x1 ≤ n * x2 ∧ (n - 1) * x2 < x1 ∧ 0 ≤ (n - 1) * x2 ∧ 1 ≤ n ∧ n ≤ 1099511627776 := by
  have he : objsOf x1 x2 = (x1 - 1) / x2 + 1 := by unfold objsOf; rw [if_neg (by omega)]
  rw [he] at hn
  have a := Int.mul_ediv_add_emod (x1 - 1) x2
  have b := Int.emod_nonneg (x1 - 1) (show x2 ≠ 0 by omega)
  have c := Int.emod_lt_of_pos (x1 - 1) (show 0 < x2 by omega)
  have d : 0 ≤ (x1 - 1) / x2 := Int.ediv_nonneg (by omega) (by omega)
  have d2 : (x1 - 1) / x2 ≤ x1 - 1 := Int.ediv_le_self _ (by omega)
  have e1 : n * x2 = x2 * ((x1 - 1) / x2) + x2 := by rw [← hn, Int.add_mul, Int.one_mul, Int.mul_comm]
  have e2 : (n - 1) * x2 = x2 * ((x1 - 1) / x2) := by rw [← hn, Int.add_sub_cancel, Int.mul_comm]
  have e3 : 0 ≤ x2 * ((x1 - 1) / x2) := Int.mul_nonneg (by omega) d
  generalize x2 * ((x1 - 1) / x2) = m at *
  generalize (x1 - 1) % x2 = r at *
  generalize (x1 - 1) / x2 = t at *
  refine ⟨by omega, by omega, by omega, by omega, by omega, by omega⟩
theorem run_str_neq (a : ByteArray) (w : World) : (binOp .neq 9 (.string a) (.string a)).run Try.prog w = .ok (.bool false) w := by
  have h : (binOp .neq 9 (.string a) (.string a)).run Try.prog w = .ok (.bool (!(a.toList == a.toList))) w := by kernel_rfl
  rw [h]
  simp
end Go.Proofs.Ytebahllihpokkaa
