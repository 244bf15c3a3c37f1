/-
  What the plain disk comes to while nothing crashes. No condition.
-/
import Derived.Test.YtgcghoalepkdfaaHold
namespace Go.Proofs.Ytgcghoalepkdfaa
open Go.RowKit
theorem lastOf_snoc (i : Int) (l : List (Int × Sec)) (x : Int × Sec) : lastOf i (l ++ [x]) = if x.1 = i then some x.2 else lastOf i l := by
  unfold lastOf
  rw [List.reverse_append, List.reverse_singleton, List.singleton_append, List.find?_cons]
  by_cases h : x.1 = i
  · simp [h]
  · have : (x.1 == i) = false := by simpa using h
    rw [this, if_neg h]
theorem settled_last (f : Int → Sec) (i : Int) (l : List (Int × Sec)) : settled (fun _ => true) 0 l f i = (lastOf i l).getD (f i) := by
  have h : ∀ n (l : List (Int × Sec)), l.length = n → settled (fun _ => true) 0 l f i = (lastOf i l).getD (f i) := by
    intro n
    induction n with
    | zero => intro l hl; obtain rfl := List.eq_nil_of_length_eq_zero hl; rfl
    | succ n ih =>
      intro l hl
      rcases List.eq_nil_or_concat l with rfl | ⟨l', x, rfl⟩
      · simp at hl
      rw [List.concat_eq_append, settled_snoc, lastOf_snoc, if_pos rfl]
      have := ih l' (by simpa using hl)
      unfold upd
      by_cases hx : x.1 = i
      · rw [if_pos hx.symm, if_pos hx]; rfl
      · rw [if_neg (Ne.symm hx), if_neg hx, this]
  exact h _ l rfl
/-- nothing is off; the sectors read as f; k acts at most were done -/
structure Fine (d : DM) (f : Nat → Sec) (k : Nat) : Prop where
  up : d.gone = false
  free : d.armed = false
  six : d.n = 6
  left : d.left = 0
  steps : d.steps ≤ k
  wait : d.wait.length ≤ k
  reads : ∀ j : Nat, j < 6 → d.read j = f j
section
variable {d : DM} {f : Nat → Sec} {k : Nat}
theorem Fine.off (h : Fine d f k) : d.off = false := by simp [DM.off, h.up, h.free]
theorem Fine.new : Fine (DM.new 6) (fun _ => Sec.zero) 0 := ⟨rfl, rfl, rfl, rfl, Nat.le_refl _, Nat.le_refl _, fun j hj => by simp [DM.read, DM.new, lastOf]⟩
theorem Fine.mono (h : Fine d f k) : Fine d f (k + 1) := ⟨h.up, h.free, h.six, h.left, Nat.le_succ_of_le h.steps, Nat.le_succ_of_le h.wait, h.reads⟩
theorem Fine.has (h : Fine d f k) (j : Int) : d.has j = (decide (0 ≤ j) && decide (j < 6)) := by simp [DM.has, h.six]
theorem Fine.readErr (h : Fine d f k) (j : Nat) (hj : j < 6) : d.readErr j = 0 := by
  have := h.has j
  simp [DM.readErr, h.up, this]
  omega
theorem Fine.last (h : Fine d f k) (j : Nat) (hj : j < 6) : (lastOf j d.wait).getD (d.sure j) = f j := by
  have h1 := h.reads j hj
  have h2 := h.has j
  have h3 : d.has j = true := by rw [h2]; simp; omega
  simp [DM.read, h.up, h3] at h1
  exact h1
theorem Fine.stepErr (h : Fine d f k) : d.stepErr = 0 := by simp [DM.stepErr, h.off]
theorem Fine.flush (h : Fine d f k) : Fine d.flush f (k + 1) ∧ ∀ j : Nat, j < 6 → d.flush.sure j = f j := by
  have hs : ∀ j : Nat, j < 6 → d.flush.sure j = f j := by
    intro j hj
    simp only [DM.flush, h.off, DM.settle, DM.step, Bool.false_eq_true, if_false]
    rw [settled_last]
    exact h.last j hj
  refine ⟨⟨?_, ?_, ?_, ?_, ?_, ?_, fun j hj => ?_⟩, hs⟩
  · simp [DM.flush, h.off, DM.settle, DM.step, h.up]
  · simp [DM.flush, h.off, DM.settle, DM.step, h.free]
  · simp [DM.flush, h.off, DM.settle, DM.step, h.six]
  · simp [DM.flush, h.off, DM.settle, DM.step, h.free, h.left]
  · have := h.steps
    simp [DM.flush, h.off, DM.settle, DM.step]
    omega
  · simp [DM.flush, h.off, DM.settle]
  · have e := hs j hj
    have hh := h.has j
    have h3 : d.flush.has j = true := by
      simp [DM.has, DM.flush, h.off, DM.settle, DM.step, h.six]; omega
    have h4 : d.flush.gone = false := by simp [DM.flush, h.off, DM.settle, DM.step, h.up]
    have h5 : d.flush.wait = [] := by simp [DM.flush, h.off, DM.settle]
    simp [DM.read, h3, h4, h5, lastOf, e]
theorem Fine.bad (h : Fine d f k) {i : Int} (hi : ¬ (0 ≤ i ∧ i < 6)) (s : Sec) : d.write i s = d ∧ d.writeErr i = 1 := by
  have hh : d.has i = false := by
    rw [h.has, Bool.and_eq_false_iff]
    simp
    omega
  exact ⟨by simp [DM.write, hh], by simp [DM.writeErr, hh]⟩
theorem Fine.write (h : Fine d f k) {i : Int} (h0 : 0 ≤ i) (h6 : i < 6) (s : Sec) : Fine (d.write i s) (fun j => if j = i.toNat then s else f j) (k + 1) ∧ d.writeErr i = 0 := by
  have hh : d.has i = true := by
    rw [h.has]
    simp
    omega
  have e : d.write i s = { d.step with wait := d.wait ++ [(i, s)] } := by simp [DM.write, hh, h.off]
  have es : d.step = { d with steps := d.steps + 1, left := d.left } := by simp [DM.step, h.off, h.free]
  refine ⟨?_, by simp [DM.writeErr, hh, h.off]⟩
  rw [e, es]
  refine ⟨h.up, h.free, h.six, h.left, by have := h.steps; show d.steps + 1 ≤ _; omega, by have := h.wait; show (d.wait ++ [(i, s)]).length ≤ _; simp; omega, fun j hj => ?_⟩
  have h1 := h.last j hj
  have h2 : d.has j = true := by rw [h.has]; simp; omega
  have h3 : DM.has { n := d.n, sure := d.sure, wait := d.wait ++ [(i, s)], steps := d.steps + 1, armed := d.armed, left := d.left, gone := d.gone } j = true := h2
  unfold DM.read
  rw [h3]
  simp only [h.up, Bool.not_true, Bool.or_false, Bool.false_eq_true, if_false]
  rw [lastOf_snoc]
  by_cases hx : i = (j : Int)
  · rw [if_pos hx, if_pos (by omega)]; rfl
  · rw [if_neg hx, if_neg (by omega)]; exact h1
end
end Go.Proofs.Ytgcghoalepkdfaa
