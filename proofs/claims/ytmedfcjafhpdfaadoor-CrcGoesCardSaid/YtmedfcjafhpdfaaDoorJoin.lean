/-
  What crc.Join and what it calls return: polynomials' products, noughts gone over. Conditions: the numbers fit, the length is no more than a million.
-/
import Derived.Test.YtmedfcjafhpdfaaDoorRef
namespace Go.Proofs.YtmedfcjafhpdfaaDoor
open Go.RowKit
set_option linter.unusedVariables false
theorem and1 (r : Nat) (h : r < 4294967296) : bits .and .u32 (r : Int) 1 = ((r % 2 : Nat) : Int) := by
  rw [show (1 : Int) = ((1 : Nat) : Int) from rfl, u32_and_nat _ _ h (by omega), nat_mask1]
set_option maxHeartbeats 400000 in
theorem shifted_any (x : Nat) (w : World) (hx : x < 4294967296) :
    Calls Tryd.prog 18 #[.int .u32 x] w fun e w' => e = .returned (.int .u32 (Crc.shift x : Nat)) ∧ w = w' := by
  have hA := and1 x hx
  have hX := xor_poly x hx
  by_cases hodd : (x : Int) % 2 = 1
  · have Hs := Lib.hid (shift_odd hodd)
    have hA' : bits .and .u32 (x : Int) 1 = 1 := by rw [hA]; omega
    clear hA hodd
    go_enter Tryd.func18, Tryd.ntmps18
    go_wp2
    go_ret
    exact ⟨ret_int (by rw [Hs.out]), rfl⟩
  · have Hs := Lib.hid (shift_noodd hodd)
    have hA' : bits .and .u32 (x : Int) 1 = 0 := by rw [hA]; omega
    clear hA hodd
    go_enter Tryd.func18, Tryd.ntmps18
    go_wp2
    go_ret
    exact ⟨ret_int (by rw [Hs.out]; omega), rfl⟩
theorem top_bit (a k : Nat) (hk : k < 32) (ha : a < 4294967296) : (bits .and .u32 ((a : Int) * 2 ^ k % 4294967296) 2147483648 != 0) = a.testBit (31 - k) := by
  rw [show ((a : Int) * 2 ^ k % 4294967296) = ((a * 2 ^ k % 4294967296 : Nat) : Int) from by simp, show (2147483648 : Int) = ((2147483648 : Nat) : Int) from rfl, u32_and_nat _ _ (Nat.mod_lt _ (by omega)) (by omega)]
  have h1 : (a * 2 ^ k % 4294967296).testBit 31 = a.testBit (31 - k) := by
    rw [show (4294967296 : Nat) = 2 ^ 32 from rfl, Nat.testBit_mod_two_pow, Nat.mul_comm, Nat.testBit_two_pow_mul]
    have : 31 ≥ k := by omega
    simp [this]
  rw [← h1]
  have h2 := nat_bit 31 (a * 2 ^ k % 4294967296)
  rw [show (2147483648 : Nat) = 2 ^ 31 from rfl, h2, Nat.testBit_eq_decide_div_mod_eq]
  rcases Nat.mod_two_eq_zero_or_one (a * 2 ^ k % 4294967296 / 2 ^ 31) with h | h <;> rw [h] <;> decide
set_option maxHeartbeats 400000 in
theorem times_any (a b : Nat) (w : World) (ha : a < 4294967296) (hb : b < 4294967296) :
    Calls Tryd.prog 17 #[.int .u32 a, .int .u32 b] w fun e w' => e = .returned (.int .u32 (Crc.mulTo 32 a b : Nat)) ∧ w = w' := by
  go_enter Tryd.func17, Tryd.ntmps17
  go_wp2
  go_loop [1, 5, 7] (fun q p i => ∃ k t u : Nat, k ≤ 32 ∧ i = .int .i64 k ∧ q = .int .u32 t ∧ p = .int .u32 u ∧ t < 4294967296 ∧ u < 4294967296 ∧ Hid (t = Crc.shifts k b) ∧ Hid (u = Crc.mulTo k a b)) (fun _ _ i => 32 - (intOf i).toNat)
  case atStart => exact ⟨0, b, 0, by omega, rfl, rfl, rfl, hb, by omega, Lib.hid rfl, Lib.hid rfl⟩
  case round =>
    obtain ⟨k, t, u, hk, rfl, rfl, rfl, ht, hu, Ht, Hu⟩ := hrel
    by_cases hlt : k < 32
    · have Hb := Lib.hid (top_bit a k hlt ha)
      have hX := u32_xor_nat u t hu ht
      have hx' : u ^^^ t < 4294967296 := Nat.xor_lt_two_pow (n := 32) (by omega) (by omega)
      have hs := Crc.shift_lt ht
      have Hs : Hid (Crc.shifts (k + 1) b = Crc.shift (Crc.shifts k b)) := Lib.hid (shifts_succ k b)
      cases hbit : a.testBit (31 - k)
      · have Hm : Hid (Crc.mulTo (k + 1) a b = Crc.mulTo k a b) := Lib.hid (by simp [Crc.mulTo, hbit])
        have hbb : (bits .and .u32 ((a : Int) * 2 ^ k % 4294967296) 2147483648 != 0) = false := by rw [Hb.out, hbit]
        clear hbit Hb
        go_wp2_with (go_at_call 18; refine (shifted_any _ _ ht).mono ?_; rintro e w' ⟨rfl, rfl⟩)
        go_round
        case rel => exact ⟨k + 1, Crc.shift t, u, by omega, by go_num, rfl, rfl, hs, hu, Lib.hid (by rw [Hs.out, Ht.out]), Lib.hid (by rw [Hm.out, Hu.out])⟩
        case measure => simp [intOf]; omega
      · have Hm : Hid (Crc.mulTo (k + 1) a b = Crc.mulTo k a b ^^^ Crc.shifts k b) := Lib.hid (by simp [Crc.mulTo, hbit])
        have hbb : (bits .and .u32 ((a : Int) * 2 ^ k % 4294967296) 2147483648 != 0) = true := by rw [Hb.out, hbit]
        clear hbit Hb
        go_wp2_with (go_at_call 18; refine (shifted_any _ _ ht).mono ?_; rintro e w' ⟨rfl, rfl⟩)
        go_round
        case rel => exact ⟨k + 1, Crc.shift t, u ^^^ t, by omega, by go_num, rfl, rfl, hs, hx', Lib.hid (by rw [Hs.out, Ht.out]), Lib.hid (by rw [Hm.out, Hu.out, Ht.out])⟩
        case measure => simp [intOf]; omega
    · go_wp2
      go_ret
      obtain rfl : k = 32 := by omega
      exact ⟨ret_int (by rw [Hu.out]), rfl⟩
theorem odd_eq {l : Nat} (h : l % 2 = 1) : l = 2 * (l / 2) + 1 := by omega
theorem even_eq {l : Nat} (h : ¬ l % 2 = 1) : l = 2 * (l / 2) := by omega
set_option maxHeartbeats 400000 in
theorem noughts_any (r n : Nat) (w : World) (hr : r < 4294967296) (hn : n ≤ 1000000) :
    Calls Tryd.prog 16 #[.int .u32 r, .int .i64 n] w fun e w' => e = .returned (.int .u32 (Crc.shifts (8 * n) r : Nat)) ∧ w = w' := by
  go_enter Tryd.func16, Tryd.ntmps16
  go_wp2
  go_loop [0, 5, 6] (fun q p i => ∃ l t u m : Nat, l ≤ 1000000 ∧ i = .int .i64 l ∧ q = .int .u32 t ∧ p = .int .u32 u ∧ t < 4294967296 ∧ Hid (u = Crc.pow (8 * m)) ∧ Hid (Crc.shifts (8 * m * l) t = Crc.shifts (8 * n) r)) (fun _ _ i => (intOf i).toNat)
  case atStart => exact ⟨n, r, 8388608, 1, hn, rfl, rfl, rfl, hr, Lib.hid Crc.pow_eight.symm, Lib.hid (by simp)⟩
  case round =>
    obtain ⟨l, t, u, m, hl, rfl, rfl, rfl, ht, Hu, Hr⟩ := hrel
    have hu : u < 4294967296 := by rw [Hu.out]; exact Crc.pow_lt _
    by_cases hlt : 0 < l
    · have Huu : Hid (Crc.mulTo 32 u u = Crc.pow (8 * (m + m))) := Lib.hid (by rw [Hu.out, Crc.mul_pow_pow]; congr 1; omega)
      have Htu : Hid (Crc.mulTo 32 t u = Crc.shifts (8 * m) t) := Lib.hid (by rw [Hu.out, Crc.mul_pow _ _ ht])
      have ht2 : Crc.mulTo 32 t u < 4294967296 := Crc.mulTo_lt 32 t u hu
      by_cases hodd : l % 2 = 1
      · have h1 : ((l : Int) % 2 == 1) = true := by simp; omega
        have Hl : Hid (l = 2 * (l / 2) + 1) := Lib.hid (odd_eq hodd)
        clear hodd
        go_wp2_with (go_at_call 17; refine (times_any _ _ _ (by assumption) (by assumption)).mono ?_; rintro e w' ⟨rfl, rfl⟩)
        go_round
        case rel =>
          refine ⟨l / 2, _, _, m + m, by omega, by go_num, rfl, rfl, ht2, Huu, ?_⟩
          refine Lib.hid ?_
          rw [Htu.out, ← Hr.out, ← Crc.shifts_add]
          congr 1
          have := Hl.out
          generalize l / 2 = q at *
          subst this
          rw [Nat.mul_add (8 * m), show 8 * m * (2 * q) = 8 * m * q + 8 * m * q by rw [Nat.two_mul, Nat.mul_add], Nat.mul_add 8, Nat.add_mul]
          omega
        case measure => simp [intOf]; omega
      · have h1 : ((l : Int) % 2 == 1) = false := by simp; omega
        have Hl : Hid (l = 2 * (l / 2)) := Lib.hid (even_eq hodd)
        clear hodd
        go_wp2_with (go_at_call 17; refine (times_any u u _ hu hu).mono ?_; rintro e w' ⟨rfl, rfl⟩)
        go_round
        case rel =>
          refine ⟨l / 2, _, _, m + m, by omega, by go_num, rfl, rfl, ht, Huu, ?_⟩
          refine Lib.hid ?_
          rw [← Hr.out]
          congr 1
          have := Hl.out
          generalize l / 2 = q at *
          subst this
          rw [show 8 * m * (2 * q) = 8 * m * q + 8 * m * q by rw [Nat.two_mul, Nat.mul_add], Nat.mul_add, Nat.add_mul]
        case measure => simp [intOf]; omega
    · obtain rfl : l = 0 := by omega
      go_wp2
      go_ret
      have := Hr.out
      rw [Nat.mul_zero] at this
      exact ⟨ret_int (by rw [← this]; rfl), rfl⟩
set_option maxHeartbeats 400000 in
theorem join_any (a b n : Nat) (w : World) (ha : a < 4294967296) (hb : b < 4294967296) (hn : n ≤ 1000000) :
    Calls Tryd.prog 14 #[.int .u32 a, .int .u32 b, .int .i64 n] w fun e w' => e = .returned (.int .u32 (Crc.shifts (8 * n) a ^^^ b : Nat)) ∧ w = w' := by
  have hX := u32_xor_nat _ b (Crc.shifts_lt (8 * n) ha) hb
  go_enter Tryd.func14, Tryd.ntmps14
  go_wp2_with (go_at_call 16; refine (noughts_any a n _ ha hn).mono ?_; rintro e w' ⟨rfl, rfl⟩)
  go_ret
  exact ⟨rfl, rfl⟩
end Go.Proofs.YtmedfcjafhpdfaaDoor
