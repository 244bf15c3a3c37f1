/-
  The law CrcFinds, walked: it returns true and changes nothing that was there. Conditions: the arguments read as bytes and numbers; the package's table holds its sixteen numbers.
-/
import Derived.Test.YtmedfcjafhpdfaaDoorSum
import Derived.Test.YtmedfcjafhpdfaaDoorBuf
namespace Go.Proofs.YtmedfcjafhpdfaaDoor
open Go.RowKit
set_option linter.unusedVariables false
theorem finds_at (x : Int) (n : Nat) (h4 : 4 ≤ n) (h5 : n ≤ 5000) : ∃ k : Nat, k + 4 ≤ n ∧ wrap64 ((IntKind.u64.wrap x).tmod ((n : Int) - 3)) = (k : Int) := by
  have h0 : 0 ≤ IntKind.u64.wrap x := wrap_u64_nonneg x
  have h1 : (IntKind.u64.wrap x).tmod ((n : Int) - 3) = IntKind.u64.wrap x % ((n : Int) - 3) := Int.tmod_eq_emod_of_nonneg h0
  have h2 : 0 ≤ IntKind.u64.wrap x % ((n : Int) - 3) := Int.emod_nonneg _ (by omega)
  have h3 : IntKind.u64.wrap x % ((n : Int) - 3) < (n : Int) - 3 := Int.emod_lt_of_pos _ (by omega)
  rw [h1]
  generalize IntKind.u64.wrap x % ((n : Int) - 3) = q at *
  refine ⟨q.toNat, by omega, ?_⟩
  rw [IntWalk.wrap64_in q ⟨by omega, by omega⟩]
  omega
set_option maxHeartbeats 400000 in
theorem finds_in (A0 : Option Addr) (n0 c0 : Nat) (b0 : List Nat) (x : Int) (s : Nat) (hs : s < 4294967296) (w : World) (h0 : Bytes w w.heap.size A0 n0 b0) (hT : Tab w)
    (k0 : n0 ≤ 5000) (k1 : 4 ≤ n0) (hx1 : -9223372036854775808 ≤ x) (hx2 : x ≤ 9223372036854775807) (k2 : ((s : Int) == 0) = false) :
    Calls Tryd.prog 5 #[.slice A0 n0 c0, .int .i64 x, .int .u32 s] w fun e w' => e = .returned (.bool true) ∧ Below w.heap.size w w' := by
  have HT := Lib.hid hT
  clear hT
  have d0 : decide ((5000 : Int) < (n0 : Int)) = false := by simp; omega
  have d1 : decide ((n0 : Int) < 4) = false := by simp; omega
  go_enter Tryd.func5, Tryd.ntmps5
  go_wp2_with fail
  refine (alive_any _ HT.out).mono ?_
  rintro e wb ⟨rfl, bb⟩
  go_wp2_with (first
    | (refine app_bytes (.tmp 32) (.tmp 33) rfl rfl wb.heap.size _ 0 [] rfl (Own.new _ _ (Nat.le_refl _)) w.heap.size A0 n0 c0 b0 rfl ((h0.below bb).alloc bb.size _) (by omega) (by simp) ?_
       intro v2 w2 h2 g2 a2
       have b2 : Below wb.heap.size wb w2 := below_own ((Below.refl _ _).alloc (Nat.le_refl _) _) (Own.new _ _ (Nat.le_refl _)) (Nat.le_refl _) g2 (by simp)))
  have h3 : Own w2 wb.heap.size v2 n0 b0 := by simpa using h2
  clear h2 g2 a2
  obtain ⟨A2, cap, rfl, hcap, hmax, hA2⟩ := h3.form
  obtain ⟨g, rfl, hg1, hg2⟩ : ∃ g, A2 = some ⟨g, 0, none⟩ ∧ wb.heap.size ≤ g ∧ g < w2.heap.size := hA2.resolve_left (by omega)
  clear hA2
  obtain ⟨k, hk, Hk⟩ := finds_at x n0 k1 k0
  rw [Hk]
  clear Hk hmax
  have hl0 : b0.length ≤ n0 := by have := h3.len; omega
  have hl1 : n0 ≤ b0.length := by have := h3.len; omega
  go_loopw [35] (fun i wr => ∃ j : Nat, j ≤ 4 ∧ i = .int .i64 j ∧ Own wr wb.heap.size (.slice (some ⟨g, 0, none⟩) n0 cap) n0 (Crc.chg b0 k s j) ∧ Below wb.heap.size wb wr) (fun i _ => 4 - (intOf i).toNat)
  case atStart => exact ⟨0, by omega, rfl, h3, b2⟩
  case round =>
    obtain ⟨j, hj, rfl, hown, bw⟩ := hrel
    by_cases hlt : j < 4
    · have hin : k + j < b0.length := by omega
      have hc := hown.cell (j := k + j) (b := b0.getD (k + j) 0) (by rw [Crc.chg_at _ _ _ _ _ (Nat.le_refl _), List.getD_eq_getElem?_getD, List.getElem?_eq_getElem hin]; rfl)
      have hf := hown.frozen (k + j)
      have hown2 := Lib.hid (hown.stored (k + j) (b0.getD (k + j) 0 ^^^ Crc.part s j))
      have hbl : b0.getD (k + j) 0 < 256 := by
        rw [List.getD_eq_getElem?_getD, List.getElem?_eq_getElem hin]
        exact h0.2 _ (List.getElem_mem hin)
      generalize hq : b0.getD (k + j) 0 = q at *
      have hX : bits .xor .u8 (q : Int) ((s : Int) / 2 ^ (8 * j) % 256) = ((q ^^^ Crc.part s j : Nat) : Int) := by
        rw [← u8_xor_nat q (Crc.part s j) hbl (Crc.part_lt s j)]
        congr 1
      have Hset : Hid (Crc.chg b0 k s (j + 1) = (Crc.chg b0 k s j).set (k + j) (q ^^^ Crc.part s j)) := by
        rw [← hq]
        exact Lib.hid rfl
      clear hq
      have bw1 := Lib.hid (bw.setCell (p := ⟨g, k + j, none⟩) hg1 (.int .u8 ((q ^^^ Crc.part s j : Nat) : Int)))
      go_wp2
      go_roundw
      case rel => exact ⟨j + 1, by omega, by go_num, by rw [Hset.out]; exact hown2.out, bw1.out⟩
      case measure => simp [intOf]; omega
    · obtain rfl : j = 4 := by omega
      have bwr : Below w.heap.size w wr := bb.trans (bw.mono bb.size)
      have r0 : Bytes wr wr.heap.size A0 n0 b0 := (h0.below bwr).more bwr.size
      have rx := hown.bytes (Crc.chg_lt b0 k s 4 r0.2)
      have hT1 : Hid (Tab wr) := Lib.hid (HT.out.below bwr)
      have hs0 : 0 < s := by
        rcases Nat.eq_zero_or_pos s with e | e
        · subst e; simp at k2
        · exact e
      have Hne := Lib.hid (Crc.finds_chg b0 k s (by omega) hs0 hs r0.2)
      clear hown h0 h3 b2 bw bb
      go_wp2_with fail
      refine (sum_any _ _ _ _ _ _ (by omega) (Parts.new1 wr _ rx (by omega)) (hT1.out.alloc _)).mono ?_
      rintro e w' ⟨rfl, rfl⟩
      rw [textOf1]
      go_wp2_with fail
      refine (sum_any _ _ _ _ _ _ (by omega) (Parts.at1 _ _ (by simp) _ (r0.up _) (by omega)) ((hT1.out.alloc _).alloc _)).mono ?_
      rintro e w' ⟨rfl, rfl⟩
      rw [textOf1]
      have hne : ((Crc.sum (Crc.chg b0 k s 4) : Int) != (Crc.sum b0 : Int)) = true := by
        have := Hne.out
        simp only [bne_iff_ne, ne_eq, Int.natCast_inj]
        exact this
      clear Hne
      go_wp2
      go_ret
      have hz := bwr.size
      exact ⟨rfl, by go_grown⟩
set_option maxHeartbeats 400000 in
theorem finds_out (A0 : Option Addr) (n0 c0 : Nat) (x : Int) (s : Nat) (w : World) (hT : Tab w) (b0 : n0 ≤ 9223372036854775807)
    (k : n0 < 4 ∨ 4 ≤ n0 ∧ ¬ n0 ≤ 5000 ∨ 4 ≤ n0 ∧ n0 ≤ 5000 ∧ ((s : Int) == 0) = true) :
    Calls Tryd.prog 5 #[.slice A0 n0 c0, .int .i64 x, .int .u32 s] w fun e w' => e = .returned (.bool true) ∧ Below w.heap.size w w' := by
  have HT := Lib.hid hT
  clear hT
  rcases k with k | ⟨k0, k⟩ | ⟨k0, k1, k⟩
  all_goals
    go_enter Tryd.func5, Tryd.ntmps5
    go_wp2_with (go_at_call 8; refine (alive_any _ HT.out).mono ?_; rintro e wa ⟨rfl, ba⟩)
    go_ret
    exact ⟨rfl, ba⟩
theorem crcFinds_walk (A0 : Option Addr) (n0 c0 : Nat) (b0 : List Nat) (m0 : n0 ≤ c0 ∧ c0 ≤ 9223372036854775807) {w : World} (o0 : Bytes w w.heap.size A0 n0 b0) (x : Int) (mx : -9223372036854775808 ≤ x) (ox : x ≤ 9223372036854775807) (s : Nat) (hs : s < 4294967296) (hT : Tab w) :
    Calls Tryd.prog 5 #[.slice A0 n0 c0, .int .i64 x, .int .u32 s] w fun e w' => e = .returned (.bool true) ∧ Below w.heap.size w w' := by
  cases k2 : ((s : Int) == 0)
  · by_cases k : 4 ≤ n0 ∧ n0 ≤ 5000
    · exact finds_in A0 n0 c0 b0 x s hs w o0 hT k.2 k.1 mx ox k2
    · exact finds_out A0 n0 c0 x s w hT (by omega) (by omega)
  · by_cases k : 4 ≤ n0 ∧ n0 ≤ 5000
    · exact finds_out A0 n0 c0 x s w hT (by omega) (.inr (.inr ⟨k.1, k.2, k2⟩))
    · exact finds_out A0 n0 c0 x s w hT (by omega) (by omega)
end Go.Proofs.YtmedfcjafhpdfaaDoor
