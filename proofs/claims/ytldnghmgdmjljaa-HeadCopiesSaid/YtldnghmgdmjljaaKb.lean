/-
  Marks, plain: a row's marks, their bytes, and back; which may have changed. No condition; nothing of the program is named.
-/
import Derived.Test.YtldnghmgdmjljaaMem
namespace Go.Proofs.Ytldnghmgdmjljaa
set_option linter.unusedSimpArgs false
set_option linter.unusedVariables false
/-- a mark; 0 beyond the row -/
def mk (m : List Nat) (i : Nat) : Nat := (m[i]?).getD 0
theorem mk_at {m : List Nat} {i x : Nat} (h : m[i]? = some x) : mk m i = x := by simp [mk, h]
theorem mk_over {m : List Nat} {i : Nat} (h : m.length ≤ i) : mk m i = 0 := by simp [mk, List.getElem?_eq_none h]
theorem mk_take (m : List Nat) (i k : Nat) : mk (m.take i) k = if k < i then mk m k else 0 := by
  unfold mk
  rw [List.getElem?_take]
  split <;> rfl
theorem mk_le {m : List Nat} (h : ∀ x ∈ m, x ≤ 3) (i : Nat) : mk m i ≤ 3 := by
  by_cases hi : i < m.length
  · rw [mk_at (List.getElem?_eq_getElem hi)]
    exact h _ (List.getElem_mem hi)
  · rw [mk_over (by omega)]; omega
theorem mk_lt {m : List Nat} (h : ∀ x ∈ m, x < 256) (i : Nat) : mk m i < 256 := by
  by_cases hi : i < m.length
  · rw [mk_at (List.getElem?_eq_getElem hi)]
    exact h _ (List.getElem_mem hi)
  · rw [mk_over (by omega)]; omega
/-- the byte of four marks -/
def packB (m : List Nat) (j : Nat) : Nat := mk m (4 * j) + 4 * mk m (4 * j + 1) + 16 * mk m (4 * j + 2) + 64 * mk m (4 * j + 3)
theorem packB_lt {m : List Nat} (h : ∀ x ∈ m, x ≤ 3) (j : Nat) : packB m j < 256 := by
  have h0 := mk_le h (4 * j)
  have h1 := mk_le h (4 * j + 1)
  have h2 := mk_le h (4 * j + 2)
  have h3 := mk_le h (4 * j + 3)
  unfold packB
  omega
def packs (m : List Nat) (k : Nat) : List Nat := (List.range k).map (packB m)
theorem packs_len (m : List Nat) (k : Nat) : (packs m k).length = k := by simp [packs]
theorem packs_at (m : List Nat) {k j : Nat} (h : j < k) : (packs m k)[j]? = some (packB m j) := by simp [packs, h]
theorem packs_snoc (m : List Nat) (k : Nat) : packs m (k + 1) = packs m k ++ [packB m k] := by simp [packs, List.range_succ]
/-- marks as bytes -/
def putM (m : List Nat) : List Nat := [m.length % 256, m.length / 256] ++ packs m ((m.length + 3) / 4)
theorem putM_len (m : List Nat) : (putM m).length = 2 + (m.length + 3) / 4 := by simp [putM, packs_len]; omega
def Good (m : List Nat) : Prop := m.length ≤ 256 ∧ ∀ x ∈ m, x ≤ 3
instance (m : List Nat) : Decidable (Good m) := by unfold Good; infer_instance
theorem putM_lt {m : List Nat} (h : Good m) : ∀ b ∈ putM m, b < 256 := by
  intro b hb
  have := h.1
  simp only [putM, packs, List.mem_append, List.mem_cons, List.not_mem_nil, or_false, List.mem_map, List.mem_range] at hb
  rcases hb with (rfl | rfl) | ⟨j, _, rfl⟩
  · omega
  · omega
  · exact packB_lt h.2 j
theorem or_add : ∀ r, r < 4 → ∀ a, a < 4 ^ r → ∀ x, x < 4 → a ||| (x <<< (2 * r)) = a + x * 4 ^ r ∧ x <<< (2 * r) < 256 := by decide
theorem part_lt {m : List Nat} (h : ∀ x ∈ m, x ≤ 3) (i : Nat) : packB (m.take i) (i / 4) < 4 ^ (i % 4) := by
  obtain ⟨q, r, hr, rfl⟩ : ∃ q r, r < 4 ∧ i = 4 * q + r := ⟨i / 4, i % 4, by omega, by omega⟩
  have e1 : (4 * q + r) / 4 = q := by omega
  have e2 : (4 * q + r) % 4 = r := by omega
  rw [e1, e2]
  unfold packB
  simp only [mk_take]
  have h0 := mk_le h (4 * q)
  have h1 := mk_le h (4 * q + 1)
  have h2 := mk_le h (4 * q + 2)
  match r, hr with
  | 0, _ => rw [Nat.pow_zero]; repeat' split
            all_goals omega
  | 1, _ => simp; omega
  | 2, _ => simp; omega
  | 3, _ => simp; omega
/-- one mark more -/
theorem part_step {m : List Nat} (h : ∀ x ∈ m, x ≤ 3) (i : Nat) : packB (m.take i) (i / 4) ||| (mk m i <<< (2 * (i % 4))) = packB (m.take (i + 1)) (i / 4) := by
  have hlt := part_lt h i
  rw [(or_add (i % 4) (by omega) _ hlt (mk m i) (by have := mk_le h i; omega)).1]
  obtain ⟨q, r, hr, rfl⟩ : ∃ q r, r < 4 ∧ i = 4 * q + r := ⟨i / 4, i % 4, by omega, by omega⟩
  have e1 : (4 * q + r) / 4 = q := by omega
  have e2 : (4 * q + r) % 4 = r := by omega
  rw [e1, e2]
  unfold packB
  simp only [mk_take]
  clear hlt
  match r, hr with
  | 0, _ => simp only [Nat.pow_zero, Nat.add_zero]; repeat' split
            all_goals omega
  | 1, _ => simp only [Nat.pow_one]; repeat' split
            all_goals omega
  | 2, _ => simp only [show (4 : Nat) ^ 2 = 16 from rfl]; repeat' split
            all_goals omega
  | 3, _ => simp only [show (4 : Nat) ^ 3 = 64 from rfl]; repeat' split
            all_goals omega
theorem part_other (m : List Nat) (i j : Nat) (hj : j ≠ i / 4) : packB (m.take (i + 1)) j = packB (m.take i) j := by
  unfold packB
  simp only [mk_take]
  have e : ∀ k, k < 4 → ((if 4 * j + k < i + 1 then mk m (4 * j + k) else 0) = if 4 * j + k < i then mk m (4 * j + k) else 0) := fun k hk => by
    by_cases h1 : 4 * j + k < i
    · rw [if_pos h1, if_pos (by omega)]
    · rw [if_neg h1, if_neg (by omega)]
  have e0 := e 0 (by omega)
  rw [Nat.add_zero] at e0
  rw [e0, e 1 (by omega), e 2 (by omega), e 3 (by omega)]
/-- the bytes behind i marks -/
def part (m : List Nat) (i : Nat) : List Nat := [m.length % 256, m.length / 256] ++ packs (m.take i) ((m.length + 3) / 4)
theorem part_len (m : List Nat) (i : Nat) : (part m i).length = 2 + (m.length + 3) / 4 := by simp [part, packs_len]; omega
theorem part_all (m : List Nat) : part m m.length = putM m := by simp [part, putM]
theorem part_at (m : List Nat) (i : Nat) (h : i < m.length) : (part m i)[2 + i / 4]? = some (packB (m.take i) (i / 4)) := by
  unfold part
  rw [List.getElem?_append_right (by simp), show 2 + i / 4 - [m.length % 256, m.length / 256].length = i / 4 by simp, packs_at _ (by omega)]
theorem part_set {m : List Nat} (hg : ∀ x ∈ m, x ≤ 3) (i : Nat) (h : i < m.length) : (part m i).set (2 + i / 4) (packB (m.take i) (i / 4) ||| (mk m i <<< (2 * (i % 4)))) = part m (i + 1) := by
  rw [part_step hg]
  unfold part
  rw [List.set_append_right _ _ (by simp), show 2 + i / 4 - [m.length % 256, m.length / 256].length = i / 4 by simp]
  congr 1
  apply List.ext_getElem?
  intro j
  rw [List.getElem?_set]
  by_cases hj : i / 4 = j
  · subst hj
    rw [if_pos rfl, packs_len, if_pos (by omega), packs_at _ (by omega)]
  · rw [if_neg hj]
    by_cases hl : j < (m.length + 3) / 4
    · rw [packs_at _ hl, packs_at _ hl, part_other m i j (Ne.symm hj)]
    · rw [List.getElem?_eq_none (by rw [packs_len]; omega), List.getElem?_eq_none (by rw [packs_len]; omega)]
theorem part_lt256 {m : List Nat} (h : Good m) (i : Nat) : ∀ b ∈ part m i, b < 256 := by
  intro b hb
  have := h.1
  simp only [part, packs, List.mem_append, List.mem_cons, List.not_mem_nil, or_false, List.mem_map, List.mem_range] at hb
  rcases hb with (rfl | rfl) | ⟨j, _, rfl⟩
  · omega
  · omega
  · exact packB_lt (fun x hx => h.2 x (List.mem_of_mem_take hx)) j
/-- a mark of bytes -/
def unp (b : List Nat) (i : Nat) : Nat := mk b (2 + i / 4) / 4 ^ (i % 4) % 4
def takeM (b : List Nat) (n : Nat) : List Nat := (List.range n).map (unp b)
theorem takeM_len (b : List Nat) (n : Nat) : (takeM b n).length = n := by simp [takeM]
theorem takeM_snoc (b : List Nat) (n : Nat) : takeM b (n + 1) = takeM b n ++ [unp b n] := by simp [takeM, List.range_succ]
theorem takeM_le (b : List Nat) (n : Nat) : ∀ x ∈ takeM b n, x ≤ 3 := by
  intro x hx
  obtain ⟨i, _, rfl⟩ := List.mem_map.1 hx
  unfold unp
  omega
theorem putM_mk (m : List Nat) (j : Nat) (h : j < (m.length + 3) / 4) : mk (putM m) (2 + j) = packB m j := by
  apply mk_at
  unfold putM
  rw [List.getElem?_append_right (by simp), show 2 + j - [m.length % 256, m.length / 256].length = j by simp, packs_at _ h]
theorem unp_put {m : List Nat} (h : Good m) (i : Nat) (hi : i < m.length) : unp (putM m) i = mk m i := by
  unfold unp
  rw [putM_mk m _ (by omega)]
  obtain ⟨q, r, hr, rfl⟩ : ∃ q r, r < 4 ∧ i = 4 * q + r := ⟨i / 4, i % 4, by omega, by omega⟩
  have e1 : (4 * q + r) / 4 = q := by omega
  have e2 : (4 * q + r) % 4 = r := by omega
  rw [e1, e2]
  have h0 := mk_le h.2 (4 * q)
  have h1 := mk_le h.2 (4 * q + 1)
  have h2 := mk_le h.2 (4 * q + 2)
  have h3 := mk_le h.2 (4 * q + 3)
  unfold packB
  match r, hr with
  | 0, _ => simp; omega
  | 1, _ => simp; omega
  | 2, _ => simp; omega
  | 3, _ => simp; omega
theorem take_put {m : List Nat} (h : Good m) : takeM (putM m) m.length = m := by
  apply List.ext_getElem?
  intro i
  by_cases hi : i < m.length
  · rw [takeM, List.getElem?_map, List.getElem?_range hi, Option.map_some, unp_put h i hi, List.getElem?_eq_getElem hi]
    congr 1
    exact mk_at (List.getElem?_eq_getElem hi)
  · rw [List.getElem?_eq_none (by rw [takeM_len]; omega), List.getElem?_eq_none (by omega)]
/-- how many marks bytes say they hold -/
def countOf (b : List Nat) : Nat := mk b 0 + 256 * mk b 1
theorem count_put {m : List Nat} : countOf (putM m) = m.length := by
  show m.length % 256 + 256 * (m.length / 256) = _
  omega
/-- the marks of bytes, where they are some's -/
def TakeOk (b : List Nat) : Prop := 2 ≤ b.length ∧ countOf b ≤ 256 ∧ b.length = 2 + (countOf b + 3) / 4 ∧ putM (takeM b (countOf b)) = b
instance (b : List Nat) : Decidable (TakeOk b) := by unfold TakeOk; infer_instance
theorem ok_put {m : List Nat} (h : Good m) : TakeOk (putM m) := by
  refine ⟨by rw [putM_len]; omega, by rw [count_put]; exact h.1, by rw [count_put, putM_len], ?_⟩
  rw [count_put, take_put h]
/-- 3 in place of 1 -/
def frz (x : Nat) : Nat := if x = 1 then 3 else x
def frozenM (m : List Nat) : List Nat := m.map frz
/-- may this one have changed? -/
def chg (a b : Nat) : Bool := a == 1 || a == 2 || ((a == 0) != (b == 0))
def changedTo (m old : List Nat) (k : Nat) : List Int := ((List.range k).filter fun i => chg (mk m i) (mk old i)).map fun (i : Nat) => (i : Int)
theorem changedTo_succ (m old : List Nat) (k : Nat) : changedTo m old (k + 1) = changedTo m old k ++ (if chg (mk m k) (mk old k) then [(k : Int)] else []) := by
  unfold changedTo
  rw [List.range_succ, List.filter_append, List.map_append]
  by_cases h : chg (mk m k) (mk old k) = true
  · simp [h]
  · have : chg (mk m k) (mk old k) = false := by simpa using h
    simp [this]
theorem changedTo_len (m old : List Nat) : ∀ k, (changedTo m old k).length ≤ k
  | 0 => by simp [changedTo]
  | k + 1 => by
    rw [changedTo_succ, List.length_append]
    have := changedTo_len m old k
    split <;> simp <;> omega
/-- flags -/
def fl (m : List Bool) (i : Nat) : Bool := (m[i]?).getD false
def scanB (there clean : List Bool) (i : Nat) : Nat := if fl there i then (if fl clean i then 3 else 1) else 0
def scanTo (there clean : List Bool) (k : Nat) : List Nat := (List.range k).map (scanB there clean)
theorem scanTo_len (there clean : List Bool) (k : Nat) : (scanTo there clean k).length = k := by simp [scanTo]
theorem scanTo_snoc (there clean : List Bool) (k : Nat) : scanTo there clean (k + 1) = scanTo there clean k ++ [scanB there clean k] := by simp [scanTo, List.range_succ]
theorem scanTo_lt (there clean : List Bool) (k : Nat) : ∀ b ∈ scanTo there clean k, b < 256 := by
  intro b hb
  obtain ⟨i, _, rfl⟩ := List.mem_map.1 hb
  unfold scanB
  split
  · split <;> omega
  · omega
/-- all that are there are marked -/
def coversTo (m : List Nat) (there : List Bool) (k : Nat) : Bool := (List.range k).all fun i => !fl there i || mk m i != 0
theorem coversTo_succ (m : List Nat) (there : List Bool) (k : Nat) : coversTo m there (k + 1) = (coversTo m there k && (!fl there k || mk m k != 0)) := by
  simp [coversTo, List.range_succ, List.all_append]
/-- the first n, filled up -/
def sizedM (m : List Nat) (n : Nat) : List Nat := (List.range n).map (mk m)
theorem sizedM_len (m : List Nat) (n : Nat) : (sizedM m n).length = n := by simp [sizedM]
theorem sizedM_snoc (m : List Nat) (n : Nat) : sizedM m (n + 1) = sizedM m n ++ [mk m n] := by simp [sizedM, List.range_succ]
theorem sizedM_self (m : List Nat) : sizedM m m.length = m := by
  apply List.ext_getElem?
  intro i
  by_cases hi : i < m.length
  · rw [sizedM, List.getElem?_map, List.getElem?_range hi, Option.map_some, List.getElem?_eq_getElem hi]
    congr 1
    exact mk_at (List.getElem?_eq_getElem hi)
  · rw [List.getElem?_eq_none (by rw [sizedM_len]; omega), List.getElem?_eq_none (by omega)]
end Go.Proofs.Ytldnghmgdmjljaa
