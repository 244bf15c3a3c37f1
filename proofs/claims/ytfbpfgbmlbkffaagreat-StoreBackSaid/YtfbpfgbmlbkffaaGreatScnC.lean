/-
  An operation comes to one thing only; what attributes may be; rising rows. No condition; nothing of the program is named.
-/
import Derived.Test.YtfbpfgbmlbkffaaGreatZi
import Derived.Test.YtfbpfgbmlbkffaaGreatSckC
namespace Go.Proofs.YtfbpfgbmlbkffaaGreat
open Go.RowKit Go.BigFrame
set_option linter.unusedSimpArgs false
set_option linter.unusedVariables false
set_option maxRecDepth 100000
theorem fitr_one {fl f1 f2 : List Bool} {W : Wk} {e1 e2 : List (Nat × Nat)} {k1 k2 : Nat} (h1 : FitR fl W e1 f1 k1) (h2 : FitR fl W e2 f2 k2) : e1 = e2 ∧ f1 = f2 ∧ k1 = k2 := by
  cases h1 with
  | give a =>
    cases h2 with
    | give _ => exact ⟨rfl, rfl, rfl⟩
    | full b _ => omega
    | take b _ _ => omega
  | full a b =>
    cases h2 with
    | give c => omega
    | full _ _ => exact ⟨rfl, rfl, rfl⟩
    | take _ d _ => omega
  | take a b c =>
    cases h2 with
    | give d => omega
    | full _ d => omega
    | take _ _ d =>
      have := c.one d
      subst this
      exact ⟨rfl, rfl, rfl⟩
theorem dor_one {M M1 M2 : Mod} {nm : List Nat} {xs : List StepV} {k1 k2 : Nat} {t1 t2 : List (List Nat)} (h1 : DoR M nm xs M1 k1 t1) (h2 : DoR M nm xs M2 k2 t2) : M1 = M2 ∧ k1 = k2 ∧ t1 = t2 := by
  cases h1 with
  | range a =>
    cases h2 with
    | range _ => exact ⟨rfl, rfl, rfl⟩
    | step b c d _ => rcases a with a | a | a; (rw [a] at b; cases b); omega; omega
    | full b c d _ _ => rcases a with a | a | a; (rw [a] at b; cases b); omega; omega
    | done b c d _ _ => rcases a with a | a | a; (rw [a] at b; cases b); omega; omega
  | step b c d f =>
    cases h2 with
    | range a => rcases a with a | a | a; (rw [a] at b; cases b); omega; omega
    | step _ _ _ _ => exact ⟨rfl, rfl, rfl⟩
    | full _ _ _ g _ => exact absurd g f
    | done _ _ _ g _ => exact absurd g f
  | full b c d f g =>
    cases h2 with
    | range a => rcases a with a | a | a; (rw [a] at b; cases b); omega; omega
    | step _ _ _ i => exact absurd f i
    | full _ _ _ _ _ => exact ⟨rfl, rfl, rfl⟩
    | done _ _ _ _ i => exact absurd (fitr_one g i).2.2 (by decide)
  | done b c d f g =>
    cases h2 with
    | range a => rcases a with a | a | a; (rw [a] at b; cases b); omega; omega
    | step _ _ _ i => exact absurd f i
    | full _ _ _ _ i => exact absurd (fitr_one g i).2.2 (by decide)
    | done _ _ _ _ i =>
      obtain ⟨e1, e2, _⟩ := fitr_one g i
      subst e1 e2
      exact ⟨rfl, rfl, rfl⟩
/-- what an attribute may be -/
def AOk (q : Key × List Nat) : Prop := (∃ nm, q.1 = keyB nm ∧ isNameB nm = true) ∧ q.2.length ≤ 1024
theorem step_aok {bl : List Bool} {W : Wk} {x : StepV} (h : ∀ q ∈ W.a, AOk q) : ∀ q ∈ (stepW bl W x).1.a, AOk q := by
  have hnil : ∀ q ∈ ([] : AL), AOk q := fun q hq => by cases hq
  unfold stepW
  split
  · exact h
  split
  · unfold becomeW
    split
    · exact h
    · exact hnil
  split
  · unfold becomeW
    split
    · exact h
    · exact hnil
  split
  · split
    · unfold insideW
      split
      · split
        · rename_i hn
          simp only [Bool.and_eq_true, decide_eq_true_eq] at hn
          intro q hq
          rcases gput_mem hq with rfl | hq
          · exact ⟨⟨x.nm, rfl, hn.1⟩, hn.2⟩
          · exact h q hq
        · exact h
      split
      · exact fun q hq => h q (gdel_sub _ _ q hq)
      split
      · split
        · exact h
        · exact h
      split
      · exact h
      split
      · exact h
      split
      · exact h
      split
      · exact h
      · exact h
    · exact h
  · exact h
theorem run_aok {bl : List Bool} : ∀ {xs : List StepV} {W : Wk}, (∀ q ∈ W.a, AOk q) → ∀ q ∈ (runW bl W xs).1.a, AOk q
  | [], W, h => h
  | x :: xs, W, h => by
    have h1 := step_aok (bl := bl) (x := x) h
    rw [runW_cons]
    split
    · exact run_aok h1
    · exact h1
def InvN (M : Mod) : Prop := ∀ p ∈ M.ob, ∀ q ∈ p.2.a, AOk q
theorem do_invN {M M' : Mod} {nm : List Nat} {xs : List StepV} {k : Nat} {told : List (List Nat)} (h : InvN M) (hd : DoR M nm xs M' k told) : InvN M' := by
  cases hd with
  | range => exact h
  | step => exact h
  | full => exact h
  | @done es fl _ _ _ _ _ =>
    have hs : ∀ q ∈ (startW M (keyB nm)).a, AOk q := by
      unfold startW
      cases hg : gget M.ob (keyB nm) with
      | none => exact fun q hq => by cases hq
      | some o => exact h _ (gget_some hg)
    have hr := run_aok (bl := M.bl) (xs := xs) hs
    generalize (runW M.bl (startW M (keyB nm)) xs).1 = W at *
    unfold endM
    cases hth : W.th with
    | true =>
      intro p hp
      simp only [if_true] at hp
      rcases gput_mem hp with rfl | hp
      · exact hr
      · exact h p hp
    | false =>
      intro p hp
      simp only [Bool.false_eq_true, if_false] at hp
      exact h p (gdel_sub _ _ _ hp)
end Go.Proofs.YtfbpfgbmlbkffaaGreat
