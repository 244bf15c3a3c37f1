/-
  What the document's own answer for layer 1 computes: the same shifts, bit by bit. Conditions: the sizes.
-/
import Derived.Test.YtgdkpmgfholnkaaDoorGo
namespace Go.Proofs.YtgdkpmgfholnkaaDoor
open Go.RowKit
theorem xor_poly (x : Nat) (h : x < 4294967296) : bits .xor .u32 ((x : Int) / 2) 2197175160 = (((x / 2) ^^^ 2197175160 : Nat) : Int) := by
  rw [show ((x : Int) / 2) = ((x / 2 : Nat) : Int) from by omega, show (2197175160 : Int) = ((2197175160 : Nat) : Int) from rfl, u32_xor_nat _ _ (by omega) (by omega)]
theorem shift_odd {x : Nat} (h : (x : Int) % 2 = 1) : Crc.shift x = (x / 2) ^^^ 2197175160 := by
  unfold Crc.shift
  rw [if_pos (by omega)]
theorem shift_noodd {x : Nat} (h : ¬ (x : Int) % 2 = 1) : Crc.shift x = x / 2 := by
  unfold Crc.shift
  rw [if_neg (by omega)]
  simp
theorem shifts_succ (n x : Nat) : Crc.shifts (n + 1) x = Crc.shift (Crc.shifts n x) := by
  rw [Crc.shifts_add]; rfl
set_option maxHeartbeats 400000 in
theorem over_any (x m : Nat) (w : World) (hx : x < 4294967296) (hm : m ≤ 100000) :
    Calls Tryd.prog 28 #[.int .u32 x, .int .i64 m] w fun e w' => e = .returned (.int .u32 (Crc.shifts m x : Nat)) ∧ w = w' := by
  go_enter Tryd.func28, Tryd.ntmps28
  go_wp2
  go_loop [0, 5] (fun r i => ∃ k t : Nat, k ≤ m ∧ i = .int .i64 k ∧ r = .int .u32 (t : Nat) ∧ t < 4294967296 ∧ Hid (t = Crc.shifts k x)) (fun _ i => m - (intOf i).toNat)
  case atStart => exact ⟨0, x, Nat.zero_le _, rfl, rfl, hx, Lib.hid rfl⟩
  case round =>
    obtain ⟨k, t, hk, rfl, rfl, ht, Ht⟩ := hrel
    by_cases hlt : k < m
    · have hsl := Crc.shift_lt ht
      have Hsu := Lib.hid (shifts_succ k x)
      have hX := xor_poly t ht
      by_cases hodd : (t : Int) % 2 = 1
      · have Hs := Lib.hid (shift_odd hodd)
        have hodd' : ((t : Int) % 2 == 1) = true := by simp [hodd]
        clear hodd
        go_wp2
        go_round
        case rel => exact ⟨k + 1, Crc.shift t, by omega, by go_num, by rw [Hs.out], hsl, Lib.hid (by rw [Hsu.out, Ht.out])⟩
        case measure => simp [intOf]; omega
      · have Hs := Lib.hid (shift_noodd hodd)
        have hodd' : ((t : Int) % 2 == 1) = false := by simp [hodd]
        clear hodd
        go_wp2
        go_round
        case rel => exact ⟨k + 1, Crc.shift t, by omega, by go_num, by rw [Hs.out]; go_num, hsl, Lib.hid (by rw [Hsu.out, Ht.out])⟩
        case measure => simp [intOf]; omega
    · go_wp2
      go_ret
      refine ⟨ret_int ?_, rfl⟩
      rw [Ht.out, show k = m by omega]
set_option maxHeartbeats 400000 in
theorem refsum_any (A : Option Addr) (n c B : Nat) (bs : List Nat) (w : World) (hn : n ≤ 1000000) (hb : Bytes w B A n bs) :
    Calls Tryd.prog 11 #[.slice A n c] w fun e w' => e = .returned (.int .u32 (Crc.sum bs)) ∧ w = w' := by
  go_enter Tryd.func11, Tryd.ntmps11
  go_wp2
  go_loop [3, 4] (fun r i => ∃ k : Nat, k ≤ n ∧ i = .int .i64 k ∧ r = .int .u32 (Crc.over 4294967295 (bs.take k) : Nat)) (fun _ i => n - (intOf i).toNat)
  case atStart => exact ⟨0, Nat.zero_le _, rfl, by simp [Crc.over]⟩
  case round =>
    obtain ⟨k, hk, rfl, rfl⟩ := hrel
    have hr1 := Crc.over_lt (bs := bs.take k) (fun x hx => hb.2 x (List.mem_of_mem_take hx)) (r := 4294967295) (by omega)
    by_cases hlt : k < n
    · obtain ⟨ad, b, rfl, hbk, hb256, hc⟩ := hb.at_ hlt
      have hX := u32_xor_nat _ b hr1 (by omega)
      have Hend : Hid (Crc.over 4294967295 (bs.take (k + 1)) = Crc.shifts 8 (Crc.over 4294967295 (bs.take k) ^^^ b)) := by
        rw [take_snoc hbk, Crc.over_snoc, Crc.byte_shifts]; exact Lib.hid rfl
      have hr2 : Crc.over 4294967295 (bs.take k) ^^^ b < 4294967296 := Nat.xor_lt_two_pow (n := 32) (by omega) (by omega)
      clear hbk
      generalize Crc.over 4294967295 (bs.take k) = r1 at *
      go_wp2_with (go_at_call 28; refine (over_any _ 8 _ hr2 (by omega)).mono ?_; rintro e w' ⟨rfl, rfl⟩)
      go_round
      case rel => exact ⟨k + 1, by omega, by go_num, by rw [Hend.out]⟩
      case measure => simp [intOf]; omega
    · have Hl : Hid (bs.take k = bs) := Lib.hid (List.take_of_length_le (by have := hb.len; omega))
      rw [Hl.out] at hr1 ⊢
      go_wp2
      go_ret
      refine ⟨ret_int ?_, rfl⟩
      show _ = ((4294967295 - Crc.over 4294967295 bs : Nat) : Int)
      omega
end Go.Proofs.YtgdkpmgfholnkaaDoor
