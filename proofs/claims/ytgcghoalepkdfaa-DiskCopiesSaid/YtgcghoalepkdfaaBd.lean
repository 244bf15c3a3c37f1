/-
  What acts leave of a disk's numbers. No condition.
-/
import Derived.Test.YtgcghoalepkdfaaTwo
namespace Go.Proofs.Ytgcghoalepkdfaa
open Go.RowKit
set_option linter.unusedSimpArgs false
set_option linter.unusedVariables false
/-- how far a disk's numbers have come after k acts -/
structure Bd (d : DM) (n k : Nat) : Prop where
  n : d.n = n
  steps : d.steps ≤ k
  wait : d.wait.length ≤ k
  left : d.left ≤ 9223372036854775807
  out : ∀ i : Int, d.has i = false → d.sure i = Sec.zero
  in_ : ∀ x ∈ d.wait, d.has x.1 = true
theorem Bd.small {d : DM} {n k : Nat} (h : Bd d n k) (hk : k ≤ 1000000) : Small d := ⟨by have := h.steps; omega, h.left, by have := h.wait; omega⟩
theorem Bd.new (n : Nat) : Bd (DM.new n) n 0 := ⟨rfl, Nat.le_refl _, Nat.le_refl _, by simp [DM.new], fun _ _ => rfl, fun x hx => by cases hx⟩
theorem Bd.more {d : DM} {n k m : Nat} (h : Bd d n k) (hm : k ≤ m) : Bd d n m := ⟨h.n, Nat.le_trans h.steps hm, Nat.le_trans h.wait hm, h.left, h.out, h.in_⟩
theorem Bd.step {d : DM} {n k : Nat} (h : Bd d n k) : Bd d.step n (k + 1) := by
  have h1 := h.steps
  have h2 := h.wait
  have h3 := h.left
  unfold DM.step
  split
  · exact ⟨h.n, by show d.steps ≤ _; omega, by show d.wait.length ≤ _; omega, h3, h.out, h.in_⟩
  · refine ⟨h.n, by show d.steps + 1 ≤ _; omega, by show d.wait.length ≤ _; omega, ?_, h.out, h.in_⟩
    show (if d.armed then d.left - 1 else d.left) ≤ _
    split <;> omega
theorem settled_out (kept : Nat → Bool) (i : Int) : ∀ (l : List (Int × Sec)) (m : Nat) (f : Int → Sec), (∀ x ∈ l, x.1 ≠ i) → settled kept m l f i = f i
  | [], m, f, _ => rfl
  | x :: l, m, f, h => by
    rw [settled, settled_out kept i l (m + 1) _ (fun y hy => h y (by simp [hy]))]
    by_cases hk : kept m
    · rw [if_pos hk, if_neg (Ne.symm (h x (by simp)))]
    · rw [if_neg hk]
theorem Bd.settle {d : DM} {n k : Nat} (h : Bd d n k) (kept : Nat → Bool) : Bd (d.settle kept) n k :=
  ⟨h.n, h.steps, Nat.zero_le _, h.left, fun i hi => by
    show settled kept 0 d.wait d.sure i = _
    have hi' : d.has i = false := hi
    rw [settled_out kept i d.wait 0 d.sure (fun x hx e => by have := h.in_ x hx; rw [e, hi'] at this; cases this)]
    exact h.out i hi', fun x hx => by cases hx⟩
end Go.Proofs.Ytgcghoalepkdfaa
