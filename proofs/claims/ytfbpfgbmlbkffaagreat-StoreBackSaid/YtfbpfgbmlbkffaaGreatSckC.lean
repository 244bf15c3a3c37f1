/-
  How long a store's text may be. No condition; nothing of the program is named.
-/
import Derived.Test.YtfbpfgbmlbkffaaGreatZi
import Derived.Test.YtfbpfgbmlbkffaaGreatScjC
namespace Go.Proofs.YtfbpfgbmlbkffaaGreat
open Go.RowKit Go.BigFrame
set_option linter.unusedSimpArgs false
set_option linter.unusedVariables false
set_option maxRecDepth 100000
def aS (l : AL) : Nat := (l.map fun q => 16 + q.1.length + q.2.length).sum
theorem sum_perm {a b : List Nat} (h : a.Perm b) : a.sum = b.sum := h.sum_nat
theorem aS_perm {a b : AL} (h : a.Perm b) : aS a = aS b := sum_perm (h.map _)
theorem aS_cons (q : Key × List Nat) (l : AL) : aS (q :: l) = 16 + q.1.length + q.2.length + aS l := by simp [aS]
theorem aS_del (k : Key) : ∀ l : AL, aS (gdel k l) ≤ aS l
  | [] => Nat.le_refl _
  | q :: l => by
    have ih := aS_del k l
    unfold gdel at ih ⊢
    rw [List.filter_cons, aS_cons]
    split
    · rw [aS_cons]; omega
    · omega
theorem aS_put (k : Key) (v : List Nat) (l : AL) : aS (gput k v l) ≤ 16 + k.length + v.length + aS l := by
  rw [aS_perm (gput_perm k v l), aS_cons]
  have := aS_del k l
  show 16 + k.length + v.length + aS (gdel k l) ≤ _
  omega
theorem step_as {bl : List Bool} {W : Wk} {x : StepV} (h : Keys1 W.a) : Keys1 (stepW bl W x).1.a ∧ aS (stepW bl W x).1.a ≤ aS W.a + 1100 := by
  have h0 : Keys1 W.a ∧ aS W.a ≤ aS W.a + 1100 := ⟨h, Nat.le_add_right _ _⟩
  have hnil : Keys1 ([] : AL) ∧ aS [] ≤ aS W.a + 1100 := ⟨List.nodup_nil, by simp [aS]⟩
  unfold stepW
  split
  · exact h0
  split
  · unfold becomeW
    split
    · exact h0
    · exact hnil
  split
  · unfold becomeW
    split
    · exact h0
    · exact hnil
  split
  · split
    · unfold insideW
      split
      · split
        · rename_i hn
          simp only [Bool.and_eq_true, decide_eq_true_eq, isNameB] at hn
          refine ⟨h.put _ _, ?_⟩
          have := aS_put (keyB x.nm) x.dt W.a
          rw [keyB_len] at this
          simp only
          omega
        · exact h0
      split
      · exact ⟨h.del _, by have := aS_del (keyB x.nm) W.a; simp only; omega⟩
      split
      · split
        · exact h0
        · exact h0
      split
      · exact h0
      split
      · exact h0
      split
      · exact h0
      split
      · exact h0
      · exact h0
    · exact h0
  · exact h0
theorem run_as {bl : List Bool} : ∀ {xs : List StepV} {W : Wk}, Keys1 W.a → Keys1 (runW bl W xs).1.a ∧ aS (runW bl W xs).1.a ≤ aS W.a + 1100 * xs.length
  | [], W, h => ⟨h, by simp [runW]⟩
  | x :: xs, W, h => by
    obtain ⟨h1, h2⟩ := step_as (bl := bl) (x := x) h
    rw [runW_cons]
    split
    · obtain ⟨h3, h4⟩ := run_as (bl := bl) (xs := xs) h1
      refine ⟨h3, ?_⟩
      rw [List.length_cons]
      omega
    · refine ⟨h1, ?_⟩
      rw [List.length_cons]
      omega
def totA (ob : List (Key × Ob)) : Nat := (ob.map fun p => aS p.2.a).sum
theorem totA_perm {a b : List (Key × Ob)} (h : a.Perm b) : totA a = totA b := sum_perm (h.map _)
theorem totA_cons (p : Key × Ob) (l : List (Key × Ob)) : totA (p :: l) = aS p.2.a + totA l := by simp [totA]
structure InvA (n : Nat) (M : Mod) : Prop where
  ak : ∀ p ∈ M.ob, Keys1 p.2.a
  tot : totA M.ob ≤ 1100 * n
theorem InvA.mono {n m : Nat} {M : Mod} (h : InvA n M) (hm : n ≤ m) : InvA m M := ⟨h.ak, Nat.le_trans h.tot (Nat.mul_le_mul_left _ hm)⟩
theorem invA0 (n : Nat) : InvA 0 (M0 n) := ⟨fun p hp => (by cases hp), Nat.zero_le _⟩
theorem do_invA {n k : Nat} {M M' : Mod} {nm : List Nat} {xs : List StepV} {told : List (List Nat)} (hk : Keys1 M.ob) (h : InvA n M) (hd : DoR M nm xs M' k told) : InvA (n + 16) M' := by
  cases hd with
  | range => exact h.mono (by omega)
  | step => exact h.mono (by omega)
  | full => exact h.mono (by omega)
  | @done es fl _ _ h16 _ _ =>
    have hs : Keys1 (startW M (keyB nm)).a ∧ totA M.ob = aS (startW M (keyB nm)).a + totA (gdel (keyB nm) M.ob) := by
      unfold startW
      cases hg : gget M.ob (keyB nm) with
      | none => exact ⟨List.nodup_nil, by rw [gdel_same hg]; simp [aS]⟩
      | some o => exact ⟨h.ak _ (gget_some hg), by rw [totA_perm (gdel_perm hk hg), totA_cons]⟩
    obtain ⟨h1, h2⟩ := run_as (bl := M.bl) (xs := xs) hs.1
    generalize (runW M.bl (startW M (keyB nm)) xs).1 = W at *
    have ht := h.tot
    unfold endM
    cases hth : W.th with
    | true =>
      refine ⟨fun p hp => ?_, ?_⟩
      · simp only [if_true] at hp
        rcases gput_mem hp with rfl | hp
        · exact h1
        · exact h.ak p hp
      · simp only [if_true]
        rw [totA_perm (gput_perm _ _ _), totA_cons]
        simp only
        omega
    | false =>
      refine ⟨fun p hp => ?_, ?_⟩
      · simp only [Bool.false_eq_true, if_false] at hp
        exact h.ak p (gdel_sub _ _ _ hp)
      · simp only [Bool.false_eq_true, if_false]
        omega
theorem flatM_len {α : Type} (f : α → List Nat) (l : List α) : (l.flatMap f).length = (l.map fun x => (f x).length).sum := by
  induction l with
  | nil => rfl
  | cons a l ih => simp [ih]
theorem putA_len (a : AL) (h : Keys1 a) : ((atL a (srt (a.map (·.1)))).flatMap putA).length = aS a := by
  rw [flatM_len]
  unfold atL
  rw [List.map_map]
  have hp : (srt (a.map (·.1))).Perm (a.map (·.1)) := List.mergeSort_perm _ _
  rw [sum_perm (hp.map _), List.map_map]
  unfold aS
  congr 1
  refine List.map_congr_left fun q hq => ?_
  simp only [Function.comp_apply, h.get hq, Option.getD_some, putA, List.length_append, txB_len, keyL_len]
  omega
theorem putE_len (e : List (Nat × Nat)) : (e.flatMap putE).length = 16 * e.length := by
  induction e with
  | nil => rfl
  | cons x e ih =>
    rw [List.flatMap_cons, List.length_append, ih, List.length_cons]
    simp only [putE, List.length_append, numB_len]
    omega
theorem exts_sum : ∀ (L : List (Key × Ob)), (∀ p ∈ L, p.1.length ≤ 32 ∧ p.2.d.length ≤ 16 * lens p.2.e ∧ p.2.e.length ≤ lens p.2.e) → (L.map fun p => 32 + p.1.length + p.2.d.length + aS p.2.a + 16 * p.2.e.length).sum ≤ 64 * L.length + 32 * lens (exts L) + totA L
  | [], _ => by simp
  | p :: L, h => by
    have ih := exts_sum L (fun q hq => h q (by simp [hq]))
    obtain ⟨h1, h2, h3⟩ := h p (by simp)
    have e : exts (p :: L) = p.2.e ++ exts L := rfl
    rw [e, lens_app, totA_cons, List.map_cons, List.sum_cons, List.length_cons]
    omega
theorem putM_len {n : Nat} {M : Mod} (h : Inv n M) (hA : InvA n M) : (putM M).length ≤ 24 + 1164 * n + 32 * M.fl.length := by
  have hlen : (putM M).length = 8 + (M.bl.length + (8 + ((srt (M.ob.map (·.1))).flatMap (putK M)).length)) := by unfold putM; simp only [List.length_append, numB_len, flB, List.length_map]
  have hk : ((srt (M.ob.map (·.1))).flatMap (putK M)).length = (M.ob.map fun p => 32 + p.1.length + p.2.d.length + aS p.2.a + 16 * p.2.e.length).sum := by
    rw [flatM_len]
    have hp : (srt (M.ob.map (·.1))).Perm (M.ob.map (·.1)) := List.mergeSort_perm _ _
    rw [sum_perm (hp.map _), List.map_map]
    congr 1
    refine List.map_congr_left fun p hpm => ?_
    simp only [Function.comp_apply, putK, h.keys.get hpm, putO, List.length_append, txB_len, numB_len, putA_len _ (hA.ak p hpm), putE_len, keyL_len]
    omega
  have hs := exts_sum M.ob (fun p hpm => by
    have ho := h.obs p hpm
    obtain ⟨nm, e, hn⟩ := h.nms p hpm
    have hl := len_lens (L := p.2.e) (fun e he => h.good.pos e (List.mem_flatMap.2 ⟨p, hpm, he⟩))
    have h1 := ho.e
    unfold needsB at h1
    refine ⟨?_, by omega, hl⟩
    rw [e, keyB_len]
    simp only [isNameB, Bool.and_eq_true, decide_eq_true_eq] at hn
    omega)
  have hc := good_cnt h.good
  have hf := h.few
  have ht := hA.tot
  have hb := h.bl
  rw [hlen, hk]
  omega
end Go.Proofs.YtfbpfgbmlbkffaaGreat
