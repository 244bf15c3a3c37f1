/-
  What the program's crc.Go returns: the register of the document's shifts, gone on with over the bytes. Conditions: the slice reads as bytes, is no longer than a million, and the package's table holds the sixteen numbers.
-/
import Derived.Test.YtgdkpmgfholnkaaDoorRows
import Derived.Test.YtgdkpmgfholnkaaDoorCrc
import Derived.Test.YtgdkpmgfholnkaaDoorMem
import Derived.WalkKit
import Derived.ProofKit
import Derived.Outline
import Derived.Laws.BitsAllLaws
import Derived.Lib.LaidTab
import Derived.WalkLawsBesides
import Derived.WalkSpells
import Derived.Deep.DeepFit
import Derived.Deep.QuietTactic
import Derived.BigQuiet
import Derived.Handy
namespace Go.Proofs.YtgdkpmgfholnkaaDoor
open Go.RowKit
theorem not32 (s : Nat) (h : s < 4294967296) : bits .xor .u32 IntKind.u32.max (s : Int) = ((4294967295 - s : Nat) : Int) := by
  rw [show IntKind.u32.max = ((4294967295 : Nat) : Int) from by decide, u32_xor_nat _ _ (by omega) h]
  have : 4294967295 ^^^ s = 4294967295 - s := by
    have h1 : 2 ^ 32 - 1 - s = 2 ^ 32 - (s + 1) := by omega
    apply Nat.eq_of_testBit_eq
    intro i
    rw [show (4294967295 : Nat) = 2 ^ 32 - 1 from rfl, h1, Nat.testBit_xor, Nat.testBit_two_pow_sub_succ (x := s) (by omega), Nat.testBit_two_pow_sub_one]
    by_cases hi : i < 32
    · simp [hi]
    · simp only [hi, decide_false, Bool.false_xor, Bool.false_and]
      exact Nat.testBit_lt_two_pow (Nat.lt_of_lt_of_le (show s < 2 ^ 32 by omega) (Nat.pow_le_pow_right (by omega) (by omega)))
  rw [this]
def Tab (w : World) : Prop := ∀ i, i < 16 → w.cell? ⟨0, i, none⟩ = some (.int .u32 (Crc.tab i : Int))
theorem and15 (r : Nat) (h : r < 4294967296) : bits .and .u32 (r : Int) 15 = ((r % 16 : Nat) : Int) := by
  rw [show (15 : Int) = ((15 : Nat) : Int) from rfl, u32_and_nat _ _ h (by omega), nat_mask4]
theorem xor_half (r : Nat) (h : r < 4294967296) : bits .xor .u32 ((r : Int) / 16) (Crc.tab (r % 16) : Int) = ((Crc.half r : Nat) : Int) := by
  rw [show ((r : Int) / 16) = ((r / 16 : Nat) : Int) from by omega, u32_xor_nat _ _ (by omega) (Crc.tab_lt _)]
  rfl
def halves : Nat → Nat → Nat
  | 0, r => r
  | n + 1, r => Crc.half (halves n r)
theorem halves_two (r c : Nat) : halves 2 (r ^^^ c) = Crc.byte r c := rfl
set_option maxHeartbeats 400000 in
theorem go_any (A : Option Addr) (n c s B : Nat) (bs : List Nat) (w : World) (hs : s < 4294967296) (hn : n ≤ 1000000) (hb : Bytes w B A n bs) (hT : Tab w) :
    Calls Tryd.prog 13 #[.int .u32 s, .slice A n c] w fun e w' => e = .returned (.int .u32 (Crc.go s bs)) ∧ w = w' := by
  have HT := Lib.hid hT
  clear hT
  go_enter Tryd.func13, Tryd.ntmps13
  go_wp2
  rw [not32 s hs]
  go_loop [5, 12] (fun r i => ∃ k : Nat, k ≤ n ∧ i = .int .i64 k ∧ r = .int .u32 (Crc.over (4294967295 - s) (bs.take k) : Nat)) (fun _ i => n - (intOf i).toNat)
  case atStart => exact ⟨0, Nat.zero_le _, rfl, by simp [Crc.over]⟩
  case round =>
    obtain ⟨k, hk, rfl, rfl⟩ := hrel
    by_cases hlt : k < n
    · obtain ⟨ad, b, rfl, hbk, hb256, hc⟩ := hb.at_ hlt
      have hr1 := Crc.over_lt (bs := bs.take k) (fun x hx => hb.2 x (List.mem_of_mem_take hx)) (r := 4294967295 - s) (by omega)
      have Hx := Lib.hid (u32_xor_nat _ b hr1 (by omega))
      have Hend : Hid (Crc.over (4294967295 - s) (bs.take (k + 1)) = halves 2 (Crc.over (4294967295 - s) (bs.take k) ^^^ b)) := by
        rw [take_snoc hbk, Crc.over_snoc, halves_two]; exact Lib.hid rfl
      have hr2 : Crc.over (4294967295 - s) (bs.take k) ^^^ b < 4294967296 := Nat.xor_lt_two_pow (n := 32) (by omega) (by omega)
      clear hbk
      generalize Crc.over (4294967295 - s) (bs.take k) = r1 at *
      go_wp2
      rw [Hx.out]
      generalize r1 ^^^ b = r2 at *
      go_loop [5, 20] (fun r i => ∃ j t : Nat, j ≤ 2 ∧ i = .int .i64 j ∧ r = .int .u32 t ∧ t < 4294967296 ∧ Hid (t = halves j r2)) (fun _ i => 2 - (intOf i).toNat)
      case atStart => exact ⟨0, r2, by omega, rfl, rfl, hr2, Lib.hid rfl⟩
      case round =>
        obtain ⟨j, t, hj, rfl, rfl, ht, Ht⟩ := hrel
        by_cases hj2 : j < 2
        · have hA := and15 t ht
          have hX := xor_half t ht
          have hC := HT.out (t % 16) (Nat.mod_lt _ (by omega))
          go_wp2
          go_round
          case rel => exact ⟨j + 1, Crc.half t, by omega, by go_num, rfl, Crc.half_lt ht, Lib.hid (by rw [Ht.out]; rfl)⟩
          case measure => simp [intOf]; omega
        · go_wp2
          go_round
          case rel => 
            obtain rfl : j = 2 := by omega
            exact ⟨k + 1, by omega, by go_num, by rw [Hend.out, Ht.out]⟩
          case measure => simp [intOf]; omega
    · go_wp2
      rw [not32 _ (Crc.over_lt (bs := bs.take k) (fun x hx => hb.2 x (List.mem_of_mem_take hx)) (r := 4294967295 - s) (by omega))]
      go_ret
      refine ⟨ret_int ?_, rfl⟩
      rw [List.take_of_length_le (by have := hb.len; omega)]
      rfl
end Go.Proofs.YtgdkpmgfholnkaaDoor
