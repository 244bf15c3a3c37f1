/-
  Plain arithmetic of the check sum CRC-32C on natural numbers: one shift, the shifts of four bits by table, bytes, and that all of it is linear for exclusive or. No condition; nothing of the program is named.
-/
namespace Go.Proofs.YtmedfcjafhpdfaaDoor.Crc

/-- one shift of the register -/
def shift (r : Nat) : Nat := (r / 2) ^^^ (if r % 2 = 1 then 2197175160 else 0)

theorem xor_mod2 (a b : Nat) : (a ^^^ b) % 2 = (a % 2 + b % 2) % 2 := by
  have := Nat.xor_mod_two_pow (a := a) (b := b) (n := 1)
  simp at this
  rw [this]
  rcases Nat.mod_two_eq_zero_or_one a with h | h <;> rcases Nat.mod_two_eq_zero_or_one b with h' | h' <;> simp [h, h']

theorem xor_div (a b i : Nat) : (a ^^^ b) / 2 ^ i = (a / 2 ^ i) ^^^ (b / 2 ^ i) := by
  rw [← Nat.shiftRight_eq_div_pow, ← Nat.shiftRight_eq_div_pow, ← Nat.shiftRight_eq_div_pow, Nat.shiftRight_xor_distrib]

theorem xor4 (a b c d : Nat) : (a ^^^ b) ^^^ (c ^^^ d) = (a ^^^ c) ^^^ (b ^^^ d) := by
  rw [Nat.xor_assoc, ← Nat.xor_assoc b c d, Nat.xor_comm b c, Nat.xor_assoc c b d, ← Nat.xor_assoc a c]

theorem shift_xor (a b : Nat) : shift (a ^^^ b) = shift a ^^^ shift b := by
  unfold shift
  rw [show (a ^^^ b) / 2 = (a / 2) ^^^ (b / 2) from xor_div a b 1, xor4]
  congr 1
  rw [xor_mod2]
  rcases Nat.mod_two_eq_zero_or_one a with h | h <;> rcases Nat.mod_two_eq_zero_or_one b with h' | h' <;> simp [h, h']

theorem shift_lt {r : Nat} (h : r < 4294967296) : shift r < 4294967296 := by
  unfold shift
  exact Nat.xor_lt_two_pow (n := 32) (by omega) (by split <;> omega)

/-- n shifts -/
def shifts : Nat → Nat → Nat
  | 0, r => r
  | n + 1, r => shifts n (shift r)

theorem shifts_xor (n a b : Nat) : shifts n (a ^^^ b) = shifts n a ^^^ shifts n b := by
  induction n generalizing a b with
  | zero => rfl
  | succ n ih => simp only [shifts, shift_xor, ih]
theorem shifts_lt (n : Nat) {r : Nat} (h : r < 4294967296) : shifts n r < 4294967296 := by
  induction n generalizing r with
  | zero => exact h
  | succ n ih => exact ih (shift_lt h)
theorem shifts_add (m n r : Nat) : shifts (m + n) r = shifts n (shifts m r) := by
  induction m generalizing r with
  | zero => simp [shifts]
  | succ m ih => rw [Nat.succ_add]; simp only [shifts, ih]
theorem shifts_zero (n : Nat) : shifts n 0 = 0 := by
  induction n with
  | zero => rfl
  | succ n ih => simpa [shifts, shift] using ih

/-- the table of four shifts -/
def tab (i : Nat) : Nat := [0, 274646895, 549293790, 820201905, 1098587580, 1361435347, 1640403810, 1905808397, 2197175160, 2460548119, 2722870694, 2987750089, 3280807620, 3553878443, 3811616794, 4084100981].getD i 0
/-- four shifts at once -/
def half (r : Nat) : Nat := (r / 16) ^^^ tab (r % 16)

theorem tab_shifts : ∀ i, i < 16 → tab i = shifts 4 i := by decide +kernel
theorem tab_lt (i : Nat) : tab i < 4294967296 := by
  by_cases h : i < 16
  · rw [tab_shifts i h]; exact shifts_lt 4 (by omega)
  · unfold tab
    rw [List.getD_eq_getElem?_getD, List.getElem?_eq_none (by simp; omega)]
    simp
theorem shift_even (q : Nat) : shift (2 * q) = q := by
  unfold shift
  simp
theorem shifts4_mul (q : Nat) : shifts 4 (16 * q) = q := by
  have h1 : 16 * q = 2 * (2 * (2 * (2 * q))) := by omega
  rw [h1]
  simp only [shifts, shift_even]
theorem split16 (r : Nat) : r = (16 * (r / 16)) ^^^ (r % 16) := by
  have h1 : 16 * (r / 16) + r % 16 = r := Nat.div_add_mod r 16
  have h2 : 2 ^ 4 * (r / 16) + r % 16 = 2 ^ 4 * (r / 16) ||| r % 16 := Nat.two_pow_add_eq_or_of_lt (b := r % 16) (i := 4) (Nat.mod_lt _ (by omega)) (r / 16)
  have h3 : (2 ^ 4 * (r / 16)) ^^^ (r % 16) = 2 ^ 4 * (r / 16) ||| r % 16 := by
    apply Nat.eq_of_testBit_eq
    intro i
    rw [Nat.testBit_xor, Nat.testBit_or, Nat.testBit_two_pow_mul, show r % 16 = r % 2 ^ 4 from rfl, Nat.testBit_mod_two_pow]
    by_cases h : i < 4
    · have : ¬ (4 ≤ i) := by omega
      simp [h, this]
    · simp [h]
  rw [← h2, h1] at h3
  exact h3.symm
theorem half_shifts (r : Nat) : half r = shifts 4 r := by
  unfold half
  rw [tab_shifts _ (Nat.mod_lt _ (by omega))]
  conv => rhs; rw [split16 r]
  rw [shifts_xor, shifts4_mul]
theorem half_lt {r : Nat} (h : r < 4294967296) : half r < 4294967296 := by rw [half_shifts]; exact shifts_lt 4 h

/-- the register gone on with over one byte, over bytes -/
def byte (r c : Nat) : Nat := half (half (r ^^^ c))
def over (r : Nat) (bs : List Nat) : Nat := bs.foldl byte r
theorem byte_shifts (r c : Nat) : byte r c = shifts 8 (r ^^^ c) := by
  unfold byte
  rw [half_shifts, half_shifts, ← shifts_add]
theorem byte_lt {r c : Nat} (h : r < 4294967296) (hc : c < 256) : byte r c < 4294967296 := by
  rw [byte_shifts]
  exact shifts_lt 8 (Nat.xor_lt_two_pow (n := 32) (by omega) (by omega))
theorem over_lt {bs : List Nat} (hb : ∀ b ∈ bs, b < 256) : ∀ {r : Nat}, r < 4294967296 → over r bs < 4294967296 := by
  induction bs with
  | nil => intro r h; exact h
  | cons b bs ih => intro r h; exact ih (fun x hx => hb x (by simp [hx])) (byte_lt h (hb b (by simp)))
theorem over_append (r : Nat) (a b : List Nat) : over r (a ++ b) = over (over r a) b := by simp [over, List.foldl_append]
theorem over_snoc (r : Nat) (a : List Nat) (b : Nat) : over r (a ++ [b]) = byte (over r a) b := by simp [over, List.foldl_append]

/-- a check sum gone on with; of a text -/
def go (s : Nat) (bs : List Nat) : Nat := 4294967295 - over (4294967295 - s) bs
def sum (bs : List Nat) : Nat := go 0 bs
theorem go_lt (s : Nat) (bs : List Nat) : go s bs < 4294967296 := by unfold go; omega
theorem go_append (s : Nat) (a b : List Nat) (ha : ∀ x ∈ a, x < 256) : go (go s a) b = go s (a ++ b) := by
  unfold go
  rw [over_append]
  have := over_lt ha (r := 4294967295 - s) (by omega)
  rw [show 4294967295 - (4294967295 - over (4294967295 - s) a) = over (4294967295 - s) a by omega]
end Go.Proofs.YtmedfcjafhpdfaaDoor.Crc
