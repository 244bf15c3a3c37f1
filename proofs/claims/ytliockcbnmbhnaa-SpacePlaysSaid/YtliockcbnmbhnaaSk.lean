/-
  Heaps of holes, the plain part. No condition; nothing of the program is named.
-/
import Derived.Test.YtliockcbnmbhnaaSj
import Derived.Test.YtliockcbnmbhnaaSq
namespace Go.Proofs.Ytliockcbnmbhnaa
set_option linter.unusedSimpArgs false
set_option linter.unusedVariables false
def gx (xs : List (Nat × Nat)) (i : Nat) : Nat × Nat := xs.getD i (0, 0)
theorem gx_some {xs : List (Nat × Nat)} {i : Nat} (h : i < xs.length) : xs[i]? = some (gx xs i) := by
  simp [gx, List.getD_eq_getElem?_getD, List.getElem?_eq_getElem h]
theorem gx_of {xs : List (Nat × Nat)} {i : Nat} {e : Nat × Nat} (h : xs[i]? = some e) : gx xs i = e := by
  simp [gx, List.getD_eq_getElem?_getD, h]
theorem swapL_len (xs : List (Nat × Nat)) (i j : Nat) : (swapL xs i j).length = xs.length := by simp [swapL]
theorem gx_swap {xs : List (Nat × Nat)} {i j : Nat} (hi : i < xs.length) (hj : j < xs.length) (k : Nat) : gx (swapL xs i j) k = if k = j then gx xs i else if k = i then gx xs j else gx xs k := by
  by_cases h1 : k = j
  · subst h1
    rw [if_pos rfl]
    refine gx_of ?_
    simp only [swapL]
    rw [List.getElem?_set, if_pos rfl, if_pos (by simpa using hj)]
    rfl
  · rw [if_neg h1]
    by_cases h2 : k = i
    · subst h2
      rw [if_pos rfl]
      refine gx_of ?_
      simp only [swapL]
      rw [List.getElem?_set, if_neg (fun h => h1 h.symm), List.getElem?_set, if_pos rfl, if_pos hi]
      rfl
    · rw [if_neg h2]
      simp only [gx, swapL, List.getD_eq_getElem?_getD]
      rw [List.getElem?_set, if_neg (fun h => h1 h.symm), List.getElem?_set, if_neg (fun h => h2 h.symm)]
theorem swapL_perm {xs : List (Nat × Nat)} {i j : Nat} (hi : i < xs.length) (hj : j < xs.length) : (swapL xs i j).Perm xs := by
  have := List.set_set_perm hi hj
  simp only [swapL, List.getD_eq_getElem?_getD, List.getElem?_eq_getElem hi, List.getElem?_eq_getElem hj, Option.getD_some]
  exact this
def Kid (i j : Nat) : Prop := j = 2 * i + 1 ∨ j = 2 * i + 2
theorem nl_trans {a b c : Nat × Nat} (h1 : ¬ Longer b a) (h2 : ¬ Longer c b) : ¬ Longer c a := by
  simp only [Longer] at *; omega
theorem longer_asymm {a b : Nat × Nat} (h : Longer a b) : ¬ Longer b a := by
  simp only [Longer] at *; omega
/-- of the first n, none from k on is behind one of its kids -/
def HFrom (xs : List (Nat × Nat)) (n k : Nat) : Prop := ∀ i j, Kid i j → k ≤ i → j < n → ¬ Longer (gx xs j) (gx xs i)
/-- the same, but for number k -/
def HBut (xs : List (Nat × Nat)) (n i0 k : Nat) : Prop :=
  (∀ i j, Kid i j → i0 ≤ i → j < n → i ≠ k → ¬ Longer (gx xs j) (gx xs i)) ∧ (∀ p j, Kid p k → Kid k j → i0 ≤ p → j < n → ¬ Longer (gx xs j) (gx xs p))
theorem HFrom.but {xs : List (Nat × Nat)} {n i0 : Nat} (h : HFrom xs n (i0 + 1)) : HBut xs n i0 i0 :=
  ⟨fun i j hk hi hj hne => h i j hk (by omega) hj, fun p j hp _ hi _ => by simp only [Kid] at hp; omega⟩
theorem HFrom.half (xs : List (Nat × Nat)) (n : Nat) : HFrom xs n (n / 2) := by
  intro i j hk hi hj
  simp only [Kid] at hk
  omega
theorem HBut.done {xs : List (Nat × Nat)} {n i0 k : Nat} (h : HBut xs n i0 k) (hk : ∀ j, Kid k j → j < n → ¬ Longer (gx xs j) (gx xs k)) : HFrom xs n i0 := by
  intro i j hij hi hj
  by_cases he : i = k
  · subst he; exact hk j hij hj
  · exact h.1 i j hij hi hj he
theorem HBut.step {xs : List (Nat × Nat)} {n i0 k j : Nat} (h : HBut xs n i0 k) (hn : n ≤ xs.length) (hkj : Kid k j) (hj : j < n) (hk : i0 ≤ k) (hl : Longer (gx xs j) (gx xs k)) (hb : ∀ j', Kid k j' → j' < n → ¬ Longer (gx xs j') (gx xs j)) : HBut (swapL xs k j) n i0 j := by
  have hlt : k < j := by simp only [Kid] at hkj; omega
  have G := gx_swap (xs := xs) (i := k) (j := j) (by omega) (by omega)
  constructor
  · intro i m him hi hm hne
    rw [G m, G i, if_neg hne]
    by_cases h1 : i = k
    · subst h1
      rw [if_pos rfl]
      by_cases h2 : m = j
      · rw [if_pos h2]; exact longer_asymm hl
      · rw [if_neg h2, if_neg (by simp only [Kid] at him; omega)]
        exact hb m him hm
    · rw [if_neg h1]
      by_cases h2 : m = j
      · simp only [Kid] at him hkj; omega
      · rw [if_neg h2]
        by_cases h3 : m = k
        · subst h3
          rw [if_pos rfl]
          exact h.2 i j him hkj hi hj
        · rw [if_neg h3]
          exact h.1 i m him hi hm h1
  · intro p m hp hm hip hmn
    have hpk : p = k := by simp only [Kid] at hp hkj; omega
    subst hpk
    have hmj : m ≠ j := by simp only [Kid] at hm; omega
    have hmp : m ≠ p := by simp only [Kid] at hm; omega
    rw [G m, if_neg hmj, if_neg hmp, G p, if_neg (by omega), if_pos rfl]
    exact h.1 j m hm (by omega) hmn (by omega)
theorem HFrom.top {xs : List (Nat × Nat)} {n : Nat} (h : HFrom xs n 0) : ∀ j, j < n → ¬ Longer (gx xs j) (gx xs 0) := by
  intro j
  induction j using Nat.strongRecOn with
  | _ j ih =>
    intro hj
    by_cases h0 : j = 0
    · subst h0; simp [Longer]
    · have hk : Kid ((j - 1) / 2) j := by simp only [Kid]; omega
      exact nl_trans (ih ((j - 1) / 2) (by omega) (by omega)) (h _ _ hk (by omega) hj)
theorem HFrom.is_top {xs : List (Nat × Nat)} (h : HFrom xs xs.length 0) (h0 : 0 < xs.length) : Top xs (gx xs 0) := by
  refine ⟨List.mem_of_getElem? (gx_some h0), fun q hq => ?_⟩
  obtain ⟨j, hj, rfl⟩ := List.mem_iff_getElem.1 hq
  have := h.top j hj
  rw [gx_of (List.getElem?_eq_getElem hj)] at this
  by_cases he : xs[j] = gx xs 0
  · exact .inl he
  · right
    have hne : ¬ (xs[j].1 = (gx xs 0).1 ∧ xs[j].2 = (gx xs 0).2) := fun h => he (Prod.ext h.1 h.2)
    simp only [Longer] at *
    omega
/-- the top goes to the end -/
theorem HFrom.last {xs : List (Nat × Nat)} {n : Nat} (h : HFrom xs (n + 1) 0) (hn : xs.length = n + 1) : HFrom (swapL xs 0 n) n 1 := by
  have G := gx_swap (xs := xs) (i := 0) (j := n) (by omega) (by omega)
  intro i j hk hi hj
  have hij : i < j := by simp only [Kid] at hk; omega
  rw [G j, G i, if_neg (by omega), if_neg (by omega), if_neg (by omega), if_neg (by omega)]
  exact h i j hk (by omega) (by omega)
theorem HFrom.prefix_ {xs : List (Nat × Nat)} {e : Nat × Nat} (h : HFrom (xs ++ [e]) xs.length 0) : HFrom xs xs.length 0 := by
  intro i j hk hi hj
  have hij : i < j := by simp only [Kid] at hk; omega
  have := h i j hk hi hj
  have hg : ∀ k, k < xs.length → gx (xs ++ [e]) k = gx xs k := fun k hk => gx_of (by rw [List.getElem?_append_left hk]; exact gx_some hk)
  rw [hg j hj, hg i (by omega)] at this
  exact this
end Go.Proofs.Ytliockcbnmbhnaa
