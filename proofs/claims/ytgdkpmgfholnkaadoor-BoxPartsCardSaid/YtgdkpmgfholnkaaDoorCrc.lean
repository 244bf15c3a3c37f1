/-
  Plain arithmetic of the check sum CRC-32C on natural numbers: one shift, the shifts of four bits by table, bytes, and that all of it is linear for exclusive or. No condition; nothing of the program is named.
-/
namespace Go.Proofs.YtgdkpmgfholnkaaDoor.Crc

/-- one shift of the register -/
def shift (r : Nat) : Nat := (r / 2) ^^^ (if r % 2 = 1 then 2197175160 else 0)

theorem xor_mod2 (a b : Nat) : (a ^^^ b) % 2 = (a % 2 + b % 2) % 2 := by
  have := Nat.xor_mod_two_pow (a := a) (b := b) (n := 1)
  simp at this
  rw [this]
  rcases Nat.mod_two_eq_zero_or_one a with h | h <;> rcases Nat.mod_two_eq_zero_or_one b with h' | h' <;> simp [h, h']

theorem xor_div (a b i : Nat) : (a ^^^ b) / 2 ^ i = (a / 2 ^ i) ^^^ (b / 2 ^ i) := by
  rw [← Nat.shiftRight_eq_div_pow, ← Nat.shiftRight_eq_div_pow, ← Nat.shiftRight_eq_div_pow, Nat.shiftRight_xor_distrib]

theorem xor4 (a b c d : Nat) : (a ^^^ b) ^^^ (c ^^^ d) = (a ^^^ c) ^^^ (b ^^^ d) := by
  rw [Nat.xor_assoc, ← Nat.xor_assoc b c d, Nat.xor_comm b c, Nat.xor_assoc c b d, ← Nat.xor_assoc a c]

theorem shift_xor (a b : Nat) : shift (a ^^^ b) = shift a ^^^ shift b := by
  unfold shift
  rw [show (a ^^^ b) / 2 = (a / 2) ^^^ (b / 2) from xor_div a b 1, xor4]
  congr 1
  rw [xor_mod2]
  rcases Nat.mod_two_eq_zero_or_one a with h | h <;> rcases Nat.mod_two_eq_zero_or_one b with h' | h' <;> simp [h, h']

theorem shift_lt {r : Nat} (h : r < 4294967296) : shift r < 4294967296 := by
  unfold shift
  exact Nat.xor_lt_two_pow (n := 32) (by omega) (by split <;> omega)

/-- n shifts -/
def shifts : Nat → Nat → Nat
  | 0, r => r
  | n + 1, r => shifts n (shift r)

theorem shifts_xor (n a b : Nat) : shifts n (a ^^^ b) = shifts n a ^^^ shifts n b := by
  induction n generalizing a b with
  | zero => rfl
  | succ n ih => simp only [shifts, shift_xor, ih]
theorem shifts_lt (n : Nat) {r : Nat} (h : r < 4294967296) : shifts n r < 4294967296 := by
  induction n generalizing r with
  | zero => exact h
  | succ n ih => exact ih (shift_lt h)
theorem shifts_add (m n r : Nat) : shifts (m + n) r = shifts n (shifts m r) := by
  induction m generalizing r with
  | zero => simp [shifts]
  | succ m ih => rw [Nat.succ_add]; simp only [shifts, ih]
theorem shifts_zero (n : Nat) : shifts n 0 = 0 := by
  induction n with
  | zero => rfl
  | succ n ih => simpa [shifts, shift] using ih

/-- the table of four shifts -/
def tab (i : Nat) : Nat := [0, 274646895, 549293790, 820201905, 1098587580, 1361435347, 1640403810, 1905808397, 2197175160, 2460548119, 2722870694, 2987750089, 3280807620, 3553878443, 3811616794, 4084100981].getD i 0
/-- four shifts at once -/
def half (r : Nat) : Nat := (r / 16) ^^^ tab (r % 16)

theorem tab_shifts : ∀ i, i < 16 → tab i = shifts 4 i := by decide +kernel
theorem tab_lt (i : Nat) : tab i < 4294967296 := by
  by_cases h : i < 16
  · rw [tab_shifts i h]; exact shifts_lt 4 (by omega)
  · unfold tab
    rw [List.getD_eq_getElem?_getD, List.getElem?_eq_none (by simp; omega)]
    simp
theorem shift_even (q : Nat) : shift (2 * q) = q := by
  unfold shift
  simp
theorem shifts4_mul (q : Nat) : shifts 4 (16 * q) = q := by
  have h1 : 16 * q = 2 * (2 * (2 * (2 * q))) := by omega
  rw [h1]
  simp only [shifts, shift_even]
theorem split16 (r : Nat) : r = (16 * (r / 16)) ^^^ (r % 16) := by
  have h1 : 16 * (r / 16) + r % 16 = r := Nat.div_add_mod r 16
  have h2 : 2 ^ 4 * (r / 16) + r % 16 = 2 ^ 4 * (r / 16) ||| r % 16 := Nat.two_pow_add_eq_or_of_lt (b := r % 16) (i := 4) (Nat.mod_lt _ (by omega)) (r / 16)
  have h3 : (2 ^ 4 * (r / 16)) ^^^ (r % 16) = 2 ^ 4 * (r / 16) ||| r % 16 := by
    apply Nat.eq_of_testBit_eq
    intro i
    rw [Nat.testBit_xor, Nat.testBit_or, Nat.testBit_two_pow_mul, show r % 16 = r % 2 ^ 4 from rfl, Nat.testBit_mod_two_pow]
    by_cases h : i < 4
    · have : ¬ (4 ≤ i) := by omega
      simp [h, this]
    · simp [h]
  rw [← h2, h1] at h3
  exact h3.symm
theorem half_shifts (r : Nat) : half r = shifts 4 r := by
  unfold half
  rw [tab_shifts _ (Nat.mod_lt _ (by omega))]
  conv => rhs; rw [split16 r]
  rw [shifts_xor, shifts4_mul]
theorem half_lt {r : Nat} (h : r < 4294967296) : half r < 4294967296 := by rw [half_shifts]; exact shifts_lt 4 h

/-- the register gone on with over one byte, over bytes -/
def byte (r c : Nat) : Nat := half (half (r ^^^ c))
def over (r : Nat) (bs : List Nat) : Nat := bs.foldl byte r
theorem byte_shifts (r c : Nat) : byte r c = shifts 8 (r ^^^ c) := by
  unfold byte
  rw [half_shifts, half_shifts, ← shifts_add]
theorem byte_lt {r c : Nat} (h : r < 4294967296) (hc : c < 256) : byte r c < 4294967296 := by
  rw [byte_shifts]
  exact shifts_lt 8 (Nat.xor_lt_two_pow (n := 32) (by omega) (by omega))
theorem over_lt {bs : List Nat} (hb : ∀ b ∈ bs, b < 256) : ∀ {r : Nat}, r < 4294967296 → over r bs < 4294967296 := by
  induction bs with
  | nil => intro r h; exact h
  | cons b bs ih => intro r h; exact ih (fun x hx => hb x (by simp [hx])) (byte_lt h (hb b (by simp)))
theorem over_append (r : Nat) (a b : List Nat) : over r (a ++ b) = over (over r a) b := by simp [over, List.foldl_append]
theorem over_snoc (r : Nat) (a : List Nat) (b : Nat) : over r (a ++ [b]) = byte (over r a) b := by simp [over, List.foldl_append]

/-- a check sum gone on with; of a text -/
def go (s : Nat) (bs : List Nat) : Nat := 4294967295 - over (4294967295 - s) bs
def sum (bs : List Nat) : Nat := go 0 bs
theorem go_lt (s : Nat) (bs : List Nat) : go s bs < 4294967296 := by unfold go; omega
theorem go_append (s : Nat) (a b : List Nat) (ha : ∀ x ∈ a, x < 256) : go (go s a) b = go s (a ++ b) := by
  unfold go
  rw [over_append]
  have := over_lt ha (r := 4294967295 - s) (by omega)
  rw [show 4294967295 - (4294967295 - over (4294967295 - s) a) = over (4294967295 - s) a by omega]

/-- three texts put together by exclusive or -/
def xor3 : List Nat → List Nat → List Nat → List Nat
  | a :: as, b :: bs, c :: cs => ((a ^^^ b) ^^^ c) :: xor3 as bs cs
  | _, _, _ => []
theorem xor3_snoc : ∀ (a b c : List Nat) (k x y z : Nat), a[k]? = some x → b[k]? = some y → c[k]? = some z →
    xor3 (a.take (k + 1)) (b.take (k + 1)) (c.take (k + 1)) = xor3 (a.take k) (b.take k) (c.take k) ++ [(x ^^^ y) ^^^ z]
  | a :: as, b :: bs, c :: cs, 0, x, y, z, h1, h2, h3 => by
    simp at h1 h2 h3
    subst h1 h2 h3
    simp [xor3]
  | a :: as, b :: bs, c :: cs, k + 1, x, y, z, h1, h2, h3 => by
    have := xor3_snoc as bs cs k x y z (by simpa using h1) (by simpa using h2) (by simpa using h3)
    simp only [List.take_succ_cons, xor3, this, List.cons_append]
  | [], _, _, k, _, _, _, h1, _, _ => by simp at h1
  | _ :: _, [], _, k, _, _, _, _, h2, _ => by simp at h2
  | _ :: _, _ :: _, [], k, _, _, _, _, _, h3 => by simp at h3
theorem xor3_lt : ∀ (a b c : List Nat), (∀ x ∈ a, x < 256) → (∀ x ∈ b, x < 256) → (∀ x ∈ c, x < 256) → ∀ x ∈ xor3 a b c, x < 256
  | a :: as, b :: bs, c :: cs, h1, h2, h3, x, hx => by
    rcases List.mem_cons.1 hx with rfl | hx
    · exact Nat.xor_lt_two_pow (n := 8) (Nat.xor_lt_two_pow (n := 8) (h1 a (by simp)) (h2 b (by simp))) (h3 c (by simp))
    · exact xor3_lt as bs cs (fun y hy => h1 y (by simp [hy])) (fun y hy => h2 y (by simp [hy])) (fun y hy => h3 y (by simp [hy])) x hx
  | [], _, _, _, _, _, x, hx => by simp [xor3] at hx
  | _ :: _, [], _, _, _, _, x, hx => by simp [xor3] at hx
  | _ :: _, _ :: _, [], _, _, _, x, hx => by simp [xor3] at hx
theorem byte_xor (r s c d : Nat) : byte (r ^^^ s) (c ^^^ d) = byte r c ^^^ byte s d := by
  rw [byte_shifts, byte_shifts, byte_shifts, ← shifts_xor, xor4]
theorem over_xor3 : ∀ (a b c : List Nat) (r s t : Nat), a.length = b.length → a.length = c.length → over ((r ^^^ s) ^^^ t) (xor3 a b c) = (over r a ^^^ over s b) ^^^ over t c
  | [], [], [], r, s, t, _, _ => rfl
  | a :: as, b :: bs, c :: cs, r, s, t, h1, h2 => by
    have := over_xor3 as bs cs (byte r a) (byte s b) (byte t c) (by simpa using h1) (by simpa using h2)
    simp only [over, xor3, List.foldl_cons] at this ⊢
    rw [← this, byte_xor, byte_xor]
  | [], _ :: _, _, _, _, _, h1, _ => by simp at h1
  | [], [], _ :: _, _, _, _, _, h2 => by simp at h2
  | _ :: _, [], _, _, _, _, h1, _ => by simp at h1
  | _ :: _, _ :: _, [], _, _, _, _, h2 => by simp at h2
theorem not_xor (s : Nat) (h : s < 4294967296) : 4294967295 ^^^ s = 4294967295 - s := by
  have h1 : 2 ^ 32 - 1 - s = 2 ^ 32 - (s + 1) := by omega
  apply Nat.eq_of_testBit_eq
  intro i
  rw [show (4294967295 : Nat) = 2 ^ 32 - 1 from rfl, h1, Nat.testBit_xor, Nat.testBit_two_pow_sub_succ (x := s) (by omega), Nat.testBit_two_pow_sub_one]
  by_cases hi : i < 32
  · simp [hi]
  · simp only [hi, decide_false, Bool.false_xor, Bool.false_and]
    exact Nat.testBit_lt_two_pow (Nat.lt_of_lt_of_le (show s < 2 ^ 32 by omega) (Nat.pow_le_pow_right (by omega) (by omega)))
theorem sum_not (bs : List Nat) (h : ∀ b ∈ bs, b < 256) : sum bs = 4294967295 ^^^ over 4294967295 bs := by
  rw [not_xor _ (over_lt h (by omega))]
  rfl
theorem sum_xor3 (a b c : List Nat) (h1 : a.length = b.length) (h2 : a.length = c.length) (ha : ∀ x ∈ a, x < 256) (hb : ∀ x ∈ b, x < 256) (hc : ∀ x ∈ c, x < 256) :
    sum (xor3 a b c) = (sum a ^^^ sum b) ^^^ sum c := by
  rw [sum_not _ (xor3_lt a b c ha hb hc), sum_not a ha, sum_not b hb, sum_not c hc]
  have h := over_xor3 a b c 4294967295 4294967295 4294967295 h1 h2
  rw [show ((4294967295 ^^^ 4294967295) ^^^ 4294967295 : Nat) = 4294967295 by decide] at h
  rw [h]
  generalize over 4294967295 a = x
  generalize over 4294967295 b = y
  generalize over 4294967295 c = z
  rw [xor4 _ x, show (4294967295 ^^^ 4294967295 : Nat) = 0 by decide, Nat.zero_xor]
  ac_rfl

/-- the product of two polynomials, gone through bit by bit from the highest bit of a -/
def mulTo : Nat → Nat → Nat → Nat
  | 0, _, _ => 0
  | k + 1, a, b => mulTo k a b ^^^ (if a.testBit (31 - k) then shifts k b else 0)
theorem shifts_comm (m n r : Nat) : shifts m (shifts n r) = shifts n (shifts m r) := by
  rw [← shifts_add, ← shifts_add, Nat.add_comm]
theorem mulTo_shifts (k a n b : Nat) : mulTo k a (shifts n b) = shifts n (mulTo k a b) := by
  induction k with
  | zero => simp [mulTo, shifts_zero]
  | succ k ih =>
    simp only [mulTo, ih, shifts_xor]
    split
    · rw [shifts_comm]
    · rw [shifts_zero]
theorem shifts_top : ∀ k, k < 32 → shifts k 2147483648 = 2 ^ (31 - k) := by decide +kernel
theorem mulTo_lt (k a b : Nat) (hb : b < 4294967296) : mulTo k a b < 4294967296 := by
  induction k with
  | zero => simp [mulTo]
  | succ k ih =>
    refine Nat.xor_lt_two_pow (n := 32) ih ?_
    split
    · exact shifts_lt k hb
    · omega
theorem mulTo_top (a : Nat) : ∀ k, k ≤ 32 → ∀ i, (mulTo k a 2147483648).testBit i = (a.testBit i && decide (32 - k ≤ i ∧ i < 32)) := by
  intro k
  induction k with
  | zero =>
    intro _ i
    simp only [mulTo, Nat.zero_testBit]
    have : ¬ (32 - 0 ≤ i ∧ i < 32) := by omega
    simp [this]
  | succ k ih =>
    intro hk i
    simp only [mulTo, Nat.testBit_xor, ih (by omega), shifts_top k (by omega)]
    by_cases e : i = 31 - k
    · subst e
      have h1 : ¬ (32 - k ≤ 31 - k ∧ 31 - k < 32) := by omega
      have h2 : 32 - (k + 1) ≤ 31 - k ∧ 31 - k < 32 := by omega
      have h3 : decide (32 - (k + 1) ≤ 31 - k ∧ 31 - k < 32) = true := by simpa using h2
      have h4 : decide (32 - k ≤ 31 - k ∧ 31 - k < 32) = false := by simpa using h1
      rw [h3, h4]
      cases h : a.testBit (31 - k)
      · simp
      · simp [Nat.testBit_two_pow_self]
    · have h1 : (32 - (k + 1) ≤ i ∧ i < 32) ↔ (32 - k ≤ i ∧ i < 32) := by omega
      simp only [h1]
      cases h : a.testBit (31 - k)
      · simp
      · simp only [if_true]
        rw [Nat.testBit_two_pow_of_ne (by omega)]
        simp
theorem mul_top (a : Nat) (ha : a < 4294967296) : mulTo 32 a 2147483648 = a := by
  apply Nat.eq_of_testBit_eq
  intro i
  rw [mulTo_top a 32 (by omega)]
  by_cases hi : i < 32
  · simp [hi]
  · simp only [hi, and_false, decide_false, Bool.and_false]
    exact (Nat.testBit_lt_two_pow (Nat.lt_of_lt_of_le (show a < 2 ^ 32 by omega) (Nat.pow_le_pow_right (by omega) (by omega)))).symm
/-- the power x^n of the polynomials -/
def pow (n : Nat) : Nat := shifts n 2147483648
theorem pow_lt (n : Nat) : pow n < 4294967296 := shifts_lt n (by omega)
theorem mul_pow (a n : Nat) (ha : a < 4294967296) : mulTo 32 a (pow n) = shifts n a := by
  unfold pow
  rw [mulTo_shifts, mul_top a ha]
theorem pow_eight : pow 8 = 8388608 := by decide +kernel
theorem mul_pow_pow (n : Nat) : mulTo 32 (pow n) (pow n) = pow (n + n) := by
  rw [mul_pow _ _ (pow_lt n)]
  unfold pow
  rw [← shifts_add]
/-- noughts gone over -/
theorem over_shift : ∀ (bs : List Nat) (r s : Nat), over (r ^^^ s) bs = over r bs ^^^ shifts (8 * bs.length) s
  | [], r, s => rfl
  | b :: bs, r, s => by
    have h : byte (r ^^^ s) b = byte r b ^^^ shifts 8 s := by
      have := byte_xor r s b 0
      rw [Nat.xor_zero] at this
      rw [this, byte_shifts s, Nat.xor_zero]
    show over (byte (r ^^^ s) b) bs = over (byte r b) bs ^^^ _
    rw [h, over_shift bs, ← shifts_add, List.length_cons, show 8 * (bs.length + 1) = 8 + 8 * bs.length by omega]
theorem go_join (s : Nat) (bs : List Nat) (hs : s < 4294967296) (hb : ∀ b ∈ bs, b < 256) : shifts (8 * bs.length) s ^^^ sum bs = go s bs := by
  have h1 : 4294967295 - s = 4294967295 ^^^ s := (not_xor s hs).symm
  have h2 : go s bs = 4294967295 ^^^ over (4294967295 - s) bs := by
    rw [not_xor _ (over_lt hb (by omega))]; rfl
  rw [h2, h1, over_shift, sum_not bs hb]
  ac_rfl

/-- the byte number j of a number of 32 bits; a text with j bytes from k on changed by it -/
def part (s j : Nat) : Nat := s / 2 ^ (8 * j) % 256
def chg (t : List Nat) (k s : Nat) : Nat → List Nat
  | 0 => t
  | j + 1 => (chg t k s j).set (k + j) (t.getD (k + j) 0 ^^^ part s j)
theorem part_lt (s j : Nat) : part s j < 256 := Nat.mod_lt _ (by omega)
theorem chg_length (t : List Nat) (k s j : Nat) : (chg t k s j).length = t.length := by
  induction j with
  | zero => rfl
  | succ j ih => simp [chg, ih]
theorem chg_at (t : List Nat) (k s j i : Nat) (h : k + j ≤ i) : (chg t k s j)[i]? = t[i]? := by
  induction j with
  | zero => rfl
  | succ j ih =>
    simp only [chg]
    rw [List.getElem?_set_ne (by omega)]
    exact ih (by omega)
theorem chg_lt (t : List Nat) (k s j : Nat) (ht : ∀ b ∈ t, b < 256) : ∀ b ∈ chg t k s j, b < 256 := by
  induction j with
  | zero => exact ht
  | succ j ih =>
    intro b hb
    simp only [chg] at hb
    rcases List.mem_or_eq_of_mem_set hb with h | rfl
    · exact ih b h
    · refine Nat.xor_lt_two_pow (n := 8) ?_ (part_lt s j)
      rw [List.getD_eq_getElem?_getD]
      rcases Nat.lt_or_ge (k + j) t.length with h | h
      · rw [List.getElem?_eq_getElem h]
        exact ht _ (List.getElem_mem h)
      · rw [List.getElem?_eq_none h]
        decide
theorem set_mid (a : List Nat) (k : Nat) (hk : a.length = k) (l : List Nat) (j v : Nat) : (a ++ l).set (k + j) v = a ++ l.set j v := by
  rw [List.set_append_right _ _ (by omega)]
  congr 2
  omega
theorem getD_mid (a : List Nat) (k : Nat) (hk : a.length = k) (l : List Nat) (j : Nat) : (a ++ l).getD (k + j) 0 = l.getD j 0 := by
  rw [List.getD_eq_getElem?_getD, List.getD_eq_getElem?_getD, List.getElem?_append_right (by omega)]
  congr 2
  omega
theorem chg_four (a : List Nat) (k : Nat) (hk : a.length = k) (x y z u : Nat) (r : List Nat) (s : Nat) :
    chg (a ++ x :: y :: z :: u :: r) k s 4 = a ++ (x ^^^ part s 0) :: (y ^^^ part s 1) :: (z ^^^ part s 2) :: (u ^^^ part s 3) :: r := by
  simp only [chg, getD_mid a k hk, set_mid a k hk]
  simp
theorem split256 (r : Nat) : r = (256 * (r / 256)) ^^^ (r % 256) := by
  have h1 : 256 * (r / 256) + r % 256 = r := Nat.div_add_mod r 256
  have h2 : 2 ^ 8 * (r / 256) + r % 256 = 2 ^ 8 * (r / 256) ||| r % 256 := Nat.two_pow_add_eq_or_of_lt (b := r % 256) (i := 8) (Nat.mod_lt _ (by omega)) (r / 256)
  have h3 : (2 ^ 8 * (r / 256)) ^^^ (r % 256) = 2 ^ 8 * (r / 256) ||| r % 256 := by
    apply Nat.eq_of_testBit_eq
    intro i
    rw [Nat.testBit_xor, Nat.testBit_or, Nat.testBit_two_pow_mul, show r % 256 = r % 2 ^ 8 from rfl, Nat.testBit_mod_two_pow]
    by_cases h : i < 8
    · have : ¬ (8 ≤ i) := by omega
      simp [h, this]
    · simp [h]
  rw [← h2, h1] at h3
  exact h3.symm
theorem shifts8_mul (q : Nat) : shifts 8 (256 * q) = q := by
  have h1 : 256 * q = 2 * (2 * (2 * (2 * (2 * (2 * (2 * (2 * q))))))) := by omega
  rw [h1]
  simp only [shifts, shift_even]
theorem byte_next (r q : Nat) : byte (r ^^^ q) (q % 256) = shifts 8 r ^^^ q / 256 := by
  rw [byte_shifts, Nat.xor_assoc, shifts_xor]
  congr 1
  have h := split256 q
  have h2 : q ^^^ (q % 256) = 256 * (q / 256) := by
    conv => lhs; lhs; rw [h]
    rw [Nat.xor_assoc, Nat.xor_self, Nat.xor_zero]
  rw [h2, shifts8_mul]
theorem over_four (s : Nat) (hs : s < 4294967296) : over 0 [part s 0, part s 1, part s 2, part s 3] = shifts 32 s := by
  have h0 : (0 : Nat) = s ^^^ s := (Nat.xor_self s).symm
  have p0 : part s 0 = s % 256 := by simp [part]
  have p1 : part s 1 = s / 256 % 256 := by simp [part]
  have p2 : part s 2 = s / 256 / 256 % 256 := by simp [part, Nat.div_div_eq_div_mul]
  have p3 : part s 3 = s / 256 / 256 / 256 % 256 := by simp [part, Nat.div_div_eq_div_mul]
  simp only [over, List.foldl]
  rw [p0, p1, p2, p3]
  have e0 : byte 0 (s % 256) = byte (s ^^^ s) (s % 256) := by rw [← h0]
  rw [e0]
  clear h0 e0
  rw [byte_next, byte_next, byte_next, byte_next, ← shifts_add, ← shifts_add, ← shifts_add]
  have : s / 256 / 256 / 256 / 256 = 0 := by omega
  rw [this, Nat.xor_zero]
theorem shift_zero_of {r : Nat} (hr : r < 4294967296) (h : shift r = 0) : r = 0 := by
  unfold shift at h
  rcases Nat.mod_two_eq_zero_or_one r with e | e
  · rw [if_neg (by omega), Nat.xor_zero] at h
    omega
  · rw [if_pos e] at h
    have : r / 2 = 2197175160 := by
      have h1 : (r / 2 ^^^ 2197175160) ^^^ 2197175160 = 0 ^^^ 2197175160 := by rw [h]
      rw [Nat.xor_assoc, Nat.xor_self, Nat.xor_zero, Nat.zero_xor] at h1
      exact h1
    omega
theorem shifts_zero_of (n : Nat) : ∀ {r : Nat}, r < 4294967296 → shifts n r = 0 → r = 0 := by
  induction n with
  | zero => intro r _ h; exact h
  | succ n ih => intro r hr h; exact shift_zero_of hr (ih (shift_lt hr) h)
/-- two texts put together by exclusive or -/
theorem over_xor (r s : Nat) : ∀ (a b : List Nat), a.length = b.length → over (r ^^^ s) (List.zipWith (· ^^^ ·) a b) = over r a ^^^ over s b := by
  intro a
  induction a generalizing r s with
  | nil => intro b hb; cases b with
    | nil => rfl
    | cons _ _ => simp at hb
  | cons x a ih =>
    intro b hb
    cases b with
    | nil => simp at hb
    | cons y b =>
      show over (byte (r ^^^ s) (x ^^^ y)) _ = over (byte r x) a ^^^ over (byte s y) b
      rw [byte_xor]
      exact ih _ _ b (by simpa using hb)
theorem finds (a : List Nat) (x y z u : Nat) (r : List Nat) (s : Nat) (h0 : 0 < s) (hs : s < 4294967296) (ht : ∀ b ∈ a ++ x :: y :: z :: u :: r, b < 256) :
    sum (a ++ (x ^^^ part s 0) :: (y ^^^ part s 1) :: (z ^^^ part s 2) :: (u ^^^ part s 3) :: r) ≠ sum (a ++ x :: y :: z :: u :: r) := by
  intro e
  have hlt : over 4294967295 (a ++ x :: y :: z :: u :: r) < 4294967296 := over_lt ht (by omega)
  have e1 : over 4294967295 (a ++ (x ^^^ part s 0) :: (y ^^^ part s 1) :: (z ^^^ part s 2) :: (u ^^^ part s 3) :: r) = over 4294967295 (a ++ x :: y :: z :: u :: r) ^^^ shifts (8 * r.length) (shifts 32 s) := by
    rw [over_append, over_append]
    generalize over 4294967295 a = q
    have h := over_xor q 0 [x, y, z, u] [part s 0, part s 1, part s 2, part s 3] rfl
    rw [Nat.xor_zero, over_four s hs] at h
    have h4 : ∀ (q x y z u : Nat) (r : List Nat), over q (x :: y :: z :: u :: r) = over (over q [x, y, z, u]) r := fun _ _ _ _ _ _ => rfl
    rw [h4 q x, h4 q (x ^^^ part s 0)]
    simp only [List.zipWith] at h
    rw [h]
    exact over_shift r _ _
  have hd : shifts (8 * r.length) (shifts 32 s) < 4294967296 := shifts_lt _ (shifts_lt _ hs)
  have hlt2 : over 4294967295 (a ++ x :: y :: z :: u :: r) ^^^ shifts (8 * r.length) (shifts 32 s) < 4294967296 := Nat.xor_lt_two_pow (n := 32) hlt hd
  unfold sum go at e
  rw [show 4294967295 - 0 = 4294967295 from rfl, e1] at e
  generalize over 4294967295 (a ++ x :: y :: z :: u :: r) = q at *
  generalize hD : shifts (8 * r.length) (shifts 32 s) = d at *
  have e2 : q ^^^ d = q := by omega
  have e3 : d = 0 := by
    have : q ^^^ (q ^^^ d) = q ^^^ q := by rw [e2]
    rwa [← Nat.xor_assoc, Nat.xor_self, Nat.zero_xor] at this
  have e4 := shifts_zero_of _ (shifts_lt 32 hs) (hD.trans e3)
  have e5 := shifts_zero_of _ hs e4
  omega
theorem finds_chg (t : List Nat) (k s : Nat) (hk : k + 4 ≤ t.length) (h0 : 0 < s) (hs : s < 4294967296) (ht : ∀ b ∈ t, b < 256) : sum (chg t k s 4) ≠ sum t := by
  obtain ⟨x, y, z, u, r, e⟩ : ∃ x y z u r, t.drop k = x :: y :: z :: u :: r := by
    have hl : (t.drop k).length = t.length - k := List.length_drop
    match h : t.drop k with
    | [] => rw [h] at hl; simp at hl; omega
    | [_] => rw [h] at hl; simp at hl; omega
    | [_, _] => rw [h] at hl; simp at hl; omega
    | [_, _, _] => rw [h] at hl; simp at hl; omega
    | x :: y :: z :: u :: r => exact ⟨x, y, z, u, r, rfl⟩
  have ht' : t = t.take k ++ x :: y :: z :: u :: r := by rw [← e, List.take_append_drop]
  have hl : (t.take k).length = k := by rw [List.length_take]; omega
  generalize t.take k = a at *
  subst ht'
  rw [chg_four a k hl]
  exact finds a x y z u r s h0 hs ht
end Go.Proofs.YtgdkpmgfholnkaaDoor.Crc
