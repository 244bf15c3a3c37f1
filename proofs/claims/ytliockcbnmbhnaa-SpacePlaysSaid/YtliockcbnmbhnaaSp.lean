/-
  Spaces, the plain part: the holes of a row of flags; what is chosen of holes for so many blocks; a row with extents turned. No condition; nothing of the program is named.
-/
import Derived.Test.YtliockcbnmbhnaaSb
namespace Go.Proofs.Ytliockcbnmbhnaa
set_option linter.unusedSimpArgs false
set_option linter.unusedVariables false
/-! ### the holes -/
/-- the first hole is longer by one ahead, or there is a new one -/
def grow (i : Nat) : List Bool → List (Nat × Nat) → List (Nat × Nat)
  | true :: _, (_, n) :: r => (i, n + 1) :: r
  | _, h => (i, 1) :: h
/-- the holes of a row whose first flag has number i -/
def hol : Nat → List Bool → List (Nat × Nat)
  | _, [] => []
  | i, false :: l => hol (i + 1) l
  | i, true :: l => grow i l (hol (i + 1) l)
theorem hol_true (i : Nat) (l : List Bool) : hol i (true :: l) = grow i l (hol (i + 1) l) := rfl
theorem hol_false (i : Nat) (l : List Bool) : hol i (false :: l) = hol (i + 1) l := rfl
theorem run_split (l : List Bool) : l = List.replicate (runOf l) true ++ l.drop (runOf l) ∧ (l.drop (runOf l) = [] ∨ ∃ r, l.drop (runOf l) = false :: r) := by
  induction l with
  | nil => simp [runOf]
  | cons b l ih =>
    cases b
    · simp [runOf]
    · have e : runOf (true :: l) = runOf l + 1 := by simp [runOf]
      rw [e]
      simp only [List.replicate_succ, List.drop_succ_cons, List.cons_append, List.cons.injEq, true_and]
      exact ih
theorem run_ind {P : List Bool → Prop} (h0 : P []) (hf : ∀ l, P l → P (false :: l)) (ha : ∀ n, P (List.replicate (n + 1) true)) (hr : ∀ n l, P l → P (List.replicate (n + 1) true ++ false :: l)) : ∀ l, P l := by
  intro l
  induction hn : l.length using Nat.strongRecOn generalizing l with
  | _ n ih =>
    obtain ⟨h1, h2⟩ := run_split l
    have ha' := fun k (hk : 0 < k) => (show P (List.replicate k true) from by obtain ⟨m, rfl⟩ : ∃ m, k = m + 1 := ⟨k - 1, by omega⟩; exact ha m)
    have hr' := fun k (hk : 0 < k) r (h : P r) => (show P (List.replicate k true ++ false :: r) from by obtain ⟨m, rfl⟩ : ∃ m, k = m + 1 := ⟨k - 1, by omega⟩; exact hr m r h)
    by_cases hz : runOf l = 0
    · rw [hz] at h1 h2
      simp at h1 h2
      rcases h2 with h2 | ⟨r, h2⟩
      · subst h2; exact h0
      · subst h2
        exact hf _ (ih r.length (by simp at hn; omega) r rfl)
    · rcases h2 with h2 | ⟨r, h2⟩
      · rw [h2, List.append_nil] at h1
        rw [h1]
        exact ha' _ (by omega)
      · rw [h2] at h1
        have hl : l.length = runOf l + (r.length + 1) := by
          have := congrArg List.length h1
          simpa using this
        rw [h1]
        exact hr' _ (by omega) r (ih r.length (by omega) r rfl)
theorem hol_rep (n i : Nat) : hol i (List.replicate (n + 1) true) = [(i, n + 1)] := by
  induction n generalizing i with
  | zero => rfl
  | succ n ih =>
    rw [List.replicate_succ]
    have e : List.replicate (n + 1) true = true :: List.replicate n true := List.replicate_succ
    have h := ih (i + 1)
    rw [e] at h ⊢
    rw [hol_true i, h]
    rfl
theorem hol_run (n i : Nat) (l : List Bool) : hol i (List.replicate (n + 1) true ++ false :: l) = (i, n + 1) :: hol (i + n + 2) l := by
  induction n generalizing i with
  | zero => rfl
  | succ n ih =>
    rw [List.replicate_succ, List.cons_append]
    have e : List.replicate (n + 1) true ++ false :: l = true :: (List.replicate n true ++ false :: l) := by rw [List.replicate_succ, List.cons_append]
    have h := ih (i + 1)
    rw [e] at h ⊢
    rw [hol_true i, h, show i + 1 + n + 2 = i + (n + 1) + 2 by omega]
    rfl
theorem hol_reps (n i : Nat) (l : List Bool) : hol i (List.replicate n false ++ l) = hol (i + n) l := by
  induction n generalizing i with
  | zero => simp
  | succ n ih => rw [List.replicate_succ, List.cons_append]; simp only [hol]; rw [ih, show i + 1 + n = i + (n + 1) by omega]
theorem run_rep (n : Nat) : runOf (List.replicate n true) = n := by
  induction n with
  | zero => simp [runOf]
  | succ n ih => rw [List.replicate_succ]; simp [runOf] at ih ⊢
theorem run_rep2 (n : Nat) (l : List Bool) : runOf (List.replicate n true ++ false :: l) = n := by
  induction n with
  | zero => simp [runOf]
  | succ n ih => rw [List.replicate_succ]; simp [runOf] at ih ⊢
theorem hol_step0 (l : List Bool) (i : Nat) (h : runOf l = 0) : hol i l = hol (i + 1) (l.drop 1) := by
  cases l with
  | nil => rfl
  | cons b l =>
    cases b
    · rfl
    · simp [runOf] at h
theorem hol_step (l : List Bool) (i : Nat) (h : 0 < runOf l) : hol i l = (i, runOf l) :: hol (i + runOf l + 1) (l.drop (runOf l + 1)) := by
  revert h i
  refine run_ind (P := fun l => ∀ i, 0 < runOf l → hol i l = (i, runOf l) :: hol (i + runOf l + 1) (l.drop (runOf l + 1))) ?_ ?_ ?_ ?_ l
  · intro i h; simp [runOf] at h
  · intro l _ i h; simp [runOf] at h
  · intro n i _
    rw [run_rep, hol_rep, List.drop_of_length_le (by simp)]
    rfl
  · intro n l _ i _
    rw [run_rep2, hol_run]
    have : List.drop (n + 1 + 1) (List.replicate (n + 1) true ++ false :: l) = l := by
      rw [List.drop_append, List.drop_of_length_le (by simp)]; simp
    rw [this]; rfl
theorem hol_snoc_false (l : List Bool) (i : Nat) : hol i (l ++ [false]) = hol i l := by
  induction l generalizing i with
  | nil => rfl
  | cons b l ih =>
    have h := ih (i + 1)
    cases b
    · exact h
    · rw [List.cons_append, hol_true, hol_true, h]
      cases l with
      | nil => rfl
      | cons c l =>
        cases c
        · rfl
        · generalize hol (i + 1) (true :: l) = z
          cases z <;> rfl
theorem hol_ne_nil (l : List Bool) (i : Nat) : hol i (true :: l) ≠ [] := by
  rw [hol_true]
  unfold grow
  split <;> simp
theorem hol_snoc_new (l : List Bool) (i : Nat) (h : l.getLast? ≠ some true) : hol i (l ++ [true]) = hol i l ++ [(i + l.length, 1)] := by
  induction l generalizing i with
  | nil => rfl
  | cons b l ih =>
    cases l with
    | nil =>
      cases b
      · rfl
      · simp at h
    | cons c l =>
      have h2 := ih (i + 1) (by simpa using h)
      rw [show i + 1 + (c :: l).length = i + (b :: c :: l).length by simp; omega] at h2
      cases b
      · exact h2
      · rw [List.cons_append, hol_true, hol_true, h2]
        cases c
        · rfl
        · cases he : hol (i + 1) (true :: l) with
          | nil => exact absurd he (hol_ne_nil _ _)
          | cons p r => rfl
theorem hol_snoc_old (l : List Bool) (i : Nat) (h : l.getLast? = some true) : ∃ r x y, hol i l = r ++ [(x, y)] ∧ hol i (l ++ [true]) = r ++ [(x, y + 1)] := by
  induction l generalizing i with
  | nil => simp at h
  | cons b l ih =>
    cases l with
    | nil =>
      simp at h
      subst h
      exact ⟨[], i, 1, rfl, rfl⟩
    | cons c l =>
      obtain ⟨r, x, y, h1, h2⟩ := ih (i + 1) (by simpa using h)
      cases b
      · exact ⟨r, x, y, h1, h2⟩
      · rw [List.cons_append, hol_true, hol_true, h1, h2]
        cases c
        · exact ⟨(i, 1) :: r, x, y, rfl, rfl⟩
        · cases r with
          | nil => exact ⟨[], i, y + 1, rfl, rfl⟩
          | cons p r => exact ⟨(i, p.2 + 1) :: r, x, y, rfl, rfl⟩
/-! ### turned -/
/-- a row with y flags from x on made b -/
def setR (l : List Bool) (x y : Nat) (b : Bool) : List Bool := l.take x ++ List.replicate y b ++ l.drop (x + y)
theorem setR_len {l : List Bool} {x y : Nat} (h : x + y ≤ l.length) (b : Bool) : (setR l x y b).length = l.length := by simp [setR]; omega
theorem setR_at {l : List Bool} {x y : Nat} (h : x + y ≤ l.length) (b : Bool) (j : Nat) : (setR l x y b)[j]? = if x ≤ j ∧ j < x + y then some b else l[j]? := by
  have h1 : (l.take x).length = x := by simp; omega
  rw [setR, List.append_assoc, List.getElem?_append, h1]
  by_cases ha : j < x
  · rw [if_pos ha, if_neg (by omega), List.getElem?_take, if_pos ha]
  · rw [if_neg ha, List.getElem?_append, List.length_replicate]
    by_cases hb : j - x < y
    · rw [if_pos hb, if_pos (by omega), List.getElem?_replicate, if_pos hb]
    · rw [if_neg hb, if_neg (by omega), List.getElem?_drop]; congr 1; omega
theorem setR_zero (l : List Bool) (x : Nat) (b : Bool) : setR l x 0 b = l := by simp [setR]
theorem setR_succ {l : List Bool} {x y : Nat} (h : x + y < l.length) (b : Bool) : (setR l x y b).set (x + y) b = setR l x (y + 1) b := by
  apply List.ext_getElem?
  intro j
  rw [List.getElem?_set, setR_at (by omega), setR_at (by omega), setR_len (by omega)]
  by_cases hj : x + y = j
  · subst hj; rw [if_pos rfl, if_pos h, if_pos (by omega)]
  · rw [if_neg hj]
    by_cases hk : x ≤ j ∧ j < x + y
    · rw [if_pos hk, if_pos (by omega)]
    · rw [if_neg hk, if_neg (by omega)]
/-- y flags from x on are there, and are b -/
def AllR (l : List Bool) (x y : Nat) (b : Bool) : Prop := x + y ≤ l.length ∧ ∀ j, x ≤ j → j < x + y → l[j]? = some b
theorem AllR.same {l : List Bool} {x y : Nat} {b : Bool} (h : AllR l x y b) : l = setR l x y b := by
  apply List.ext_getElem?
  intro j
  rw [setR_at h.1]
  by_cases hk : x ≤ j ∧ j < x + y
  · rw [if_pos hk, h.2 j hk.1 hk.2]
  · rw [if_neg hk]
theorem setR_setR {l : List Bool} {x y : Nat} (h : x + y ≤ l.length) (b c : Bool) : setR (setR l x y b) x y c = setR l x y c := by
  apply List.ext_getElem?
  intro j
  rw [setR_at (by rw [setR_len h]; exact h), setR_at h, setR_at h]
  by_cases hk : x ≤ j ∧ j < x + y
  · rw [if_pos hk, if_pos hk]
  · rw [if_neg hk, if_neg hk, if_neg hk]
def cnt (l : List Bool) : Nat := l.countP id
theorem cnt_le (l : List Bool) : cnt l ≤ l.length := List.countP_le_length
theorem cnt_setR {l : List Bool} {x y : Nat} (h : x + y ≤ l.length) (b : Bool) : cnt (setR l x y b) = cnt (l.take x) + (if b then y else 0) + cnt (l.drop (x + y)) := by
  have : ∀ n : Nat, cnt (List.replicate n b) = if b then n else 0 := by
    intro n
    cases b <;> simp [cnt, List.countP_replicate]
  simp only [setR, cnt, List.countP_append] at this ⊢
  rw [this]
theorem cnt_turn {l : List Bool} {x y : Nat} {b : Bool} (h : AllR l x y (!b)) : (cnt (setR l x y b) : Int) = cnt l + (if b then (y : Int) else -(y : Int)) := by
  have h1 := cnt_setR h.1 b
  have h2 := cnt_setR h.1 (!b)
  rw [← h.same] at h2
  cases b <;> simp at h1 h2 ⊢ <;> omega
theorem setR_app (l1 l2 : List Bool) (x y : Nat) (b : Bool) : setR (l1 ++ l2) (l1.length + x) y b = l1 ++ setR l2 x y b := by
  rw [setR, setR, List.take_length_add_append, Nat.add_assoc, List.drop_length_add_append, List.append_assoc, List.append_assoc, List.append_assoc]
/-! ### a hole's own -/
theorem hol_mem (l : List Bool) : ∀ i x y, (x, y) ∈ hol i l → i ≤ x ∧ 1 ≤ y ∧ x + y ≤ i + l.length ∧ ∀ j, x ≤ j → j < x + y → l[j - i]? = some true := by
  refine run_ind (P := fun l => ∀ i x y, (x, y) ∈ hol i l → i ≤ x ∧ 1 ≤ y ∧ x + y ≤ i + l.length ∧ ∀ j, x ≤ j → j < x + y → l[j - i]? = some true) ?_ ?_ ?_ ?_ l
  · intro i x y h; simp [hol] at h
  · intro l ih i x y h
    rw [hol] at h
    obtain ⟨h1, h2, h3, h4⟩ := ih _ _ _ h
    refine ⟨by omega, h2, by simp; omega, fun j hj hk => ?_⟩
    have := h4 j hj hk
    rw [show j - i = (j - (i + 1)) + 1 by omega, List.getElem?_cons_succ]
    exact this
  · intro n i x y h
    rw [hol_rep] at h
    simp at h
    obtain ⟨rfl, rfl⟩ := h
    refine ⟨by omega, by omega, by simp, fun j hj hk => ?_⟩
    rw [List.getElem?_replicate, if_pos (by omega)]
  · intro n l ih i x y h
    rw [hol_run] at h
    simp only [List.mem_cons, Prod.mk.injEq] at h
    rcases h with ⟨rfl, rfl⟩ | h
    · refine ⟨by omega, by omega, by simp, fun j hj hk => ?_⟩
      rw [List.getElem?_append_left (by simp; omega), List.getElem?_replicate, if_pos (by omega)]
    · obtain ⟨h1, h2, h3, h4⟩ := ih _ _ _ h
      refine ⟨by omega, h2, by simp; omega, fun j hj hk => ?_⟩
      rw [List.getElem?_append_right (by simp; omega), List.length_replicate, show j - i - (n + 1) = (j - (i + n + 2)) + 1 by omega, List.getElem?_cons_succ]
      exact h4 j hj hk
theorem hol_rises (l : List Bool) : ∀ i, (hol i l).Pairwise (fun p q => p.1 + p.2 < q.1) := by
  refine run_ind (P := fun l => ∀ i, (hol i l).Pairwise (fun p q => p.1 + p.2 < q.1)) ?_ ?_ ?_ ?_ l
  · intro i; simp [hol]
  · intro l ih i; rw [hol]; exact ih _
  · intro n i; rw [hol_rep]; simp
  · intro n l ih i
    rw [hol_run]
    refine List.pairwise_cons.2 ⟨fun q hq => ?_, ih _⟩
    obtain ⟨a, b⟩ := q
    have := (hol_mem l _ _ _ hq).1
    simp; omega
def lens (L : List (Nat × Nat)) : Nat := (L.map (·.2)).sum
theorem hol_lens (l : List Bool) : ∀ i, lens (hol i l) = cnt l := by
  refine run_ind (P := fun l => ∀ i, lens (hol i l) = cnt l) ?_ ?_ ?_ ?_ l
  · intro i; rfl
  · intro l ih i; rw [hol, ih]; simp [cnt]
  · intro n i; rw [hol_rep]; simp [lens, cnt, List.countP_replicate]
  · intro n l ih i
    rw [hol_run]
    have := ih (i + n + 2)
    simp only [lens, cnt, List.map_cons, List.sum_cons, List.countP_append, List.countP_replicate, List.countP_cons] at this ⊢
    simp only [id] at this ⊢
    rw [this]
    simp
theorem hol_erase (l : List Bool) : ∀ i x y, (x, y) ∈ hol i l → hol i (setR l (x - i) y false) = (hol i l).erase (x, y) := by
  refine run_ind (P := fun l => ∀ i x y, (x, y) ∈ hol i l → hol i (setR l (x - i) y false) = (hol i l).erase (x, y)) ?_ ?_ ?_ ?_ l
  · intro i x y h; simp [hol] at h
  · intro l ih i x y h
    rw [hol] at h
    have hx := (hol_mem _ _ _ _ h).1
    have e := setR_app [false] l (x - (i + 1)) y false
    rw [show [false].length + (x - (i + 1)) = x - i by simp; omega] at e
    simp only [List.singleton_append] at e
    rw [e, hol, ih _ _ _ h, hol]
  · intro n i x y h
    rw [hol_rep] at h ⊢
    simp at h
    obtain ⟨rfl, rfl⟩ := h
    have : setR (List.replicate (n + 1) true) (x - x) (n + 1) false = List.replicate (n + 1) false ++ [] := by simp [setR]
    rw [this, hol_reps]
    simp [hol]
  · intro n l ih i x y h
    rw [hol_run] at h ⊢
    simp only [List.mem_cons, Prod.mk.injEq] at h
    rcases h with ⟨rfl, rfl⟩ | h
    · have : setR (List.replicate (n + 1) true ++ false :: l) (x - x) (n + 1) false = List.replicate (n + 2) false ++ l := by
        have e : List.drop (n + 1) (List.replicate (n + 1) true ++ false :: l) = false :: l := by
          rw [List.drop_append, List.drop_of_length_le (by simp)]; simp
        simp only [setR, Nat.sub_self, List.take_zero, List.nil_append, Nat.zero_add]
        rw [e, List.replicate_succ' (n := n + 1), List.append_assoc]
        rfl
      rw [this, hol_reps]
      simp
      rfl
    · have hx := (hol_mem _ _ _ _ h).1
      have e := setR_app (List.replicate (n + 1) true ++ [false]) l (x - (i + n + 2)) y false
      rw [show (List.replicate (n + 1) true ++ [false]).length + (x - (i + n + 2)) = x - i by simp; omega] at e
      simp only [List.append_assoc, List.singleton_append] at e
      rw [e, hol_run, ih _ _ _ h, List.erase_cons_tail]
      simp; omega
end Go.Proofs.Ytliockcbnmbhnaa
