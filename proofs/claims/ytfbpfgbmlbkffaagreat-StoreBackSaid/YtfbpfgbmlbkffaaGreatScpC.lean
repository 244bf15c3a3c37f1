/-
  Rising rows of pairs: two of them with the same pairs are one. No condition; nothing of the program is named.
-/
import Derived.Test.YtfbpfgbmlbkffaaGreatZi
import Derived.Test.YtfbpfgbmlbkffaaGreatScnC
import Derived.WideShapes
namespace Go.Proofs.YtfbpfgbmlbkffaaGreat
open Go.RowKit Go.BigFrame
set_option linter.unusedSimpArgs false
set_option linter.unusedVariables false
section
variable {V : Type}
def Rise (l : List (Key × V)) : Prop := l.Pairwise fun p q => bytesBefore p.1 q.1 = true
theorem Rise.del {l : List (Key × V)} (h : Rise l) (k : Key) : Rise (gdel k l) := List.Pairwise.sublist List.filter_sublist h
theorem Rise.ins {x : Key × V} : ∀ {l : List (Key × V)}, Rise l → (∀ p ∈ l, p.1 ≠ x.1) → Rise (gins x l)
  | [], _, _ => List.pairwise_singleton _ _
  | y :: r, h, hx => by
    obtain ⟨h1, h2⟩ := List.pairwise_cons.1 h
    rw [gins]
    cases hb : bytesBefore x.1 y.1 with
    | true =>
      simp only [if_true]
      refine List.pairwise_cons.2 ⟨fun q hq => ?_, h⟩
      rcases List.mem_cons.1 hq with rfl | hq
      · exact hb
      · exact WideShapes.bytes_trans _ _ _ hb (h1 q hq)
    | false =>
      simp only [Bool.false_eq_true, if_false]
      have hyx : bytesBefore y.1 x.1 = true := by
        rcases WideAt.bytes_total x.1 y.1 (fun e => hx y (by simp) e.symm) with h3 | h3
        · rw [hb] at h3; cases h3
        · exact h3
      refine List.pairwise_cons.2 ⟨fun q hq => ?_, Rise.ins h2 fun p hp => hx p (by simp [hp])⟩
      rcases List.mem_cons.1 ((gins_perm x r).mem_iff.1 hq) with rfl | hq
      · exact hyx
      · exact h1 q hq
theorem Rise.put {l : List (Key × V)} (h : Rise l) (k : Key) (v : V) : Rise (gput k v l) := (h.del k).ins fun p hp => (gdel_none k l p hp).1
theorem Rise.one {a b : List (Key × V)} (ha : Rise a) (hb : Rise b) (h : a.Perm b) : a = b :=
  List.Perm.eq_of_pairwise (le := fun (p q : Key × V) => bytesBefore p.1 q.1 = true) (fun p q _ _ h1 h2 => by
    have h3 := WideShapes.bytes_trans _ _ _ h1 h2
    rw [WideAt.bytes_irrefl] at h3
    cases h3) ha hb h
end
def RiseM (M : Mod) : Prop := Rise M.ob ∧ ∀ p ∈ M.ob, Rise p.2.a
theorem step_rise {bl : List Bool} {W : Wk} {x : StepV} (h : Rise W.a) : Rise (stepW bl W x).1.a := by
  have hnil : Rise ([] : AL) := List.Pairwise.nil
  unfold stepW
  split
  · exact h
  split
  · unfold becomeW
    split
    · exact h
    · exact hnil
  split
  · unfold becomeW
    split
    · exact h
    · exact hnil
  split
  · split
    · unfold insideW
      split
      · split
        · exact h.put _ _
        · exact h
      split
      · exact h.del _
      split
      · split
        · exact h
        · exact h
      split
      · exact h
      split
      · exact h
      split
      · exact h
      split
      · exact h
      · exact h
    · exact h
  · exact h
theorem run_rise {bl : List Bool} : ∀ {xs : List StepV} {W : Wk}, Rise W.a → Rise (runW bl W xs).1.a
  | [], W, h => h
  | x :: xs, W, h => by
    have h1 := step_rise (bl := bl) (x := x) h
    rw [runW_cons]
    split
    · exact run_rise h1
    · exact h1
theorem do_rise {M M' : Mod} {nm : List Nat} {xs : List StepV} {k : Nat} {told : List (List Nat)} (h : RiseM M) (hd : DoR M nm xs M' k told) : RiseM M' := by
  cases hd with
  | range => exact h
  | step => exact h
  | full => exact h
  | @done es fl _ _ _ _ _ =>
    have hs : Rise (startW M (keyB nm)).a := by
      unfold startW
      cases hg : gget M.ob (keyB nm) with
      | none => exact List.Pairwise.nil
      | some o => exact h.2 _ (gget_some hg)
    have hr := run_rise (bl := M.bl) (xs := xs) hs
    generalize (runW M.bl (startW M (keyB nm)) xs).1 = W at *
    unfold endM
    cases hth : W.th with
    | true =>
      refine ⟨?_, fun p hp => ?_⟩
      · simp only [if_true]
        exact h.1.put _ _
      · simp only [if_true] at hp
        rcases gput_mem hp with rfl | hp
        · exact hr
        · exact h.2 p hp
    | false =>
      refine ⟨?_, fun p hp => ?_⟩
      · simp only [Bool.false_eq_true, if_false]
        exact h.1.del _
      · simp only [Bool.false_eq_true, if_false] at hp
        exact h.2 p (gdel_sub _ _ _ hp)
end Go.Proofs.YtfbpfgbmlbkffaaGreat
