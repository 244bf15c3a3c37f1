/-
  The law CrcLinear, walked: it returns true and changes nothing that was there. Conditions: the arguments read as bytes; the package's table holds its sixteen numbers.
-/
import Derived.Test.YtmedfcjafhpdfaaDoorSum
import Derived.Test.YtmedfcjafhpdfaaDoorBuf
import Derived.Deep.RegionHeld3
import Derived.Deep.DrawnRows
import Derived.Laws.BitsAllLaws
namespace Go.Proofs.YtmedfcjafhpdfaaDoor
open Go.RowKit
set_option linter.unusedVariables false
attribute [local go_sem ↓] Go.wp_at_zero Go.wp_at_succ
set_option maxHeartbeats 400000 in
theorem linear_in (A0 : Option Addr) (n0 c0 : Nat) (b0 : List Nat) (A1 : Option Addr) (n1 c1 : Nat) (b1 : List Nat) (A2 : Option Addr) (n2 c2 : Nat) (b2 : List Nat) (w : World)
    (h0 : Bytes w w.heap.size A0 n0 b0) (h1 : Bytes w w.heap.size A1 n1 b1) (h2 : Bytes w w.heap.size A2 n2 b2) (hT : Tab w) (k0 : n0 ≤ 2000) (k1 : n0 ≤ n1) (k2 : n0 ≤ n2) (hc1 : n1 ≤ c1) (hc2 : n2 ≤ c2)
    (m1 : c1 ≤ 9223372036854775807) (m2 : c2 ≤ 9223372036854775807) :
    Calls Tryd.prog 6 #[.slice A0 n0 c0, .slice A1 n1 c1, .slice A2 n2 c2] w fun e w' => e = .returned (.bool true) ∧ Below w.heap.size w w' := by
  have HT := Lib.hid hT
  clear hT
  have d0 : decide ((2000 : Int) < (n0 : Int)) = false := by simp; omega
  have d1 : decide (n1 < n0) = false := by simp; omega
  have d2 : decide (n2 < n0) = false := by simp; omega
  go_enter Tryd.func6, Tryd.ntmps6
  go_wp2_with (go_at_call 8; refine (alive_any _ HT.out).mono ?_; rintro e wa ⟨rfl, ba⟩)
  go_quiet (fail)
  go_wp2
  have hsz : wa.heap.size = (wa.drewN nq).heap.size := rfl
  generalize hW : wa.drewN nq = W0
  have bw0 : Below w.heap.size w W0 := by rw [← hW]; exact below_drewN ba nq
  rw [hW] at hsz
  rw [hsz]
  clear hsz hW ba wa
  go_loopw [7, 39] (fun v i wr => ∃ k : Nat, k ≤ n0 ∧ i = .int .i64 k ∧ Own wr W0.heap.size v k (Crc.xor3 (b0.take k) (b1.take k) (b2.take k)) ∧ Below W0.heap.size W0 wr) (fun _ i _ => n0 - (intOf i).toNat)
  case atStart => exact ⟨0, Nat.zero_le _, rfl, Own.new _ _ (Nat.le_refl _), (Below.refl _ _).alloc (Nat.le_refl _) _⟩
  case round =>
    obtain ⟨k, hk, rfl, hown, bw⟩ := hrel
    by_cases hlt : k < n0
    · have hs2 := bw0.size
      have hs3 := bw.size
      obtain ⟨ad0, x0, rfl, hx0, hl0, e0, f0⟩ := (h0.below (bw0.trans (bw.mono bw0.size))).at2 hlt
      obtain ⟨ad1, x1, rfl, hx1, hl1, e1, f1⟩ := (h1.below (bw0.trans (bw.mono bw0.size))).at2 (show k < n1 by omega)
      obtain ⟨ad2, x2, rfl, hx2, hl2, e2, f2⟩ := (h2.below (bw0.trans (bw.mono bw0.size))).at2 (show k < n2 by omega)
      have Hsn := Lib.hid (Crc.xor3_snoc b0 b1 b2 k x0 x1 x2 hx0 hx1 hx2)
      clear hx0 hx1 hx2
      have hX1 := u8_xor_nat x0 x1 hl0 hl1
      have hl3 : x0 ^^^ x1 < 256 := Nat.xor_lt_two_pow (n := 8) hl0 hl1
      have hX2 := u8_xor_nat _ x2 hl3 hl2
      have hl4 : (x0 ^^^ x1) ^^^ x2 < 256 := Nat.xor_lt_two_pow (n := 8) hl3 hl2
      have g0 := hown.apart (show (ad0.add k).block < W0.heap.size by omega)
      have g1 := hown.apart (show (ad1.add k).block < W0.heap.size by omega)
      have g2 := hown.apart (show (ad2.add k).block < W0.heap.size by omega)
      have i0 : (0 : Int) ≤ (k : Int) := Int.natCast_nonneg _
      have i1 : (k : Int) < (n0 : Int) := by omega
      have j0 := World.new_ne wr _ e0
      have j1 := World.new_ne wr _ e1
      have j2 := World.new_ne wr _ e2
      go_wp2
      go_region_held3 (fun w' => w'.cell? (ad0.add k) = some (.int .u8 x0) ∧ w'.cell? (ad1.add k) = some (.int .u8 x1) ∧ w'.cell? (ad2.add k) = some (.int .u8 x2))
        (first
          | go_keep
          | (go_split_ands
             refine ⟨?_, ?_, ?_⟩
             · (rw [hgrow.cell_far _ (by simp; omega) g0]; assumption)
             · (rw [hgrow.cell_far _ (by simp; omega) g1]; assumption)
             · (rw [hgrow.cell_far _ (by simp; omega) g2]; assumption)))
        ((refine step_app_bytes _ _ (by rfl) (by rfl) W0.heap.size u7 k _ (by rfl) ((hown.alloc _).drew) (wr.heap.size + 1) (some ⟨wr.heap.size, 0, none⟩) 1 1 [(x0 ^^^ x1) ^^^ x2] (by rfl) (Bytes.drew (Bytes.new wr [(x0 ^^^ x1) ^^^ x2] _ _ (by simpa using hl4))) (by omega) (by simp; omega) ?_; intro v1 w1 hown1 hgrow hat))
      have bw1 : Below W0.heap.size W0 w1 := below_own ((bw.alloc bw.size _).drew) ((hown.alloc _).drew) (Nat.le_refl _) hgrow (by simp; omega)
      have hown2 : Hid (Own w1 W0.heap.size v1 (k + 1) (Crc.xor3 (b0.take (k + 1)) (b1.take (k + 1)) (b2.take (k + 1)))) := by rw [Hsn.out]; exact Lib.hid hown1
      clear hown1 hgrow hat
      go_wp2
      go_roundw
      case rel =>
        exact ⟨k + 1, by omega, by go_num, hown2.out, bw1⟩
      case measure => simp [intOf]; omega
    · obtain rfl : k = n0 := by omega
      have bwr : Below w.heap.size w wr := bw0.trans (bw.mono bw0.size)
      have r0 : Bytes wr wr.heap.size A0 k b0 := (h0.below bwr).more bwr.size
      have r1 : Bytes wr wr.heap.size A1 k (b1.take k) := ((h1.below bwr).more bwr.size).take (by omega)
      have r2 : Bytes wr wr.heap.size A2 k (b2.take k) := ((h2.below bwr).more bwr.size).take (by omega)
      have e0 : b0.take k = b0 := List.take_of_length_le (by have := r0.len; omega)
      rw [e0] at hown
      clear e0
      have hT1 : Hid (Tab wr) := Lib.hid (HT.out.below bwr)
      have Hs := Lib.hid (Crc.sum_xor3 b0 (b1.take k) (b2.take k) (by rw [r0.len, r1.len]) (by rw [r0.len, r2.len]) r0.2 r1.2 r2.2)
      obtain ⟨Ax, cx, rfl, _, _, _⟩ := hown.form
      have rx := hown.bytes (Crc.xor3_lt _ _ _ r0.2 r1.2 r2.2)
      clear hown h0 h1 h2 bw bw0
      have z0 : Crc.sum b0 < 4294967296 := Crc.go_lt _ _
      have z1 : Crc.sum (b1.take k) < 4294967296 := Crc.go_lt _ _
      have z2 : Crc.sum (b2.take k) < 4294967296 := Crc.go_lt _ _
      have y1 := u32_xor_nat _ _ z0 z1
      have z3 : Crc.sum b0 ^^^ Crc.sum (b1.take k) < 4294967296 := Nat.xor_lt_two_pow (n := 32) (by omega) (by omega)
      have y2 := u32_xor_nat _ _ z3 z2
      go_wp2_with fail
      refine (sum_any _ _ _ _ _ _ (by omega) (Parts.new1 wr _ rx (by omega)) (hT1.out.alloc _)).mono ?_
      rintro e w' ⟨rfl, rfl⟩
      rw [textOf1, Hs.out]
      go_wp2_with fail
      refine (sum_any _ _ _ _ _ _ (by omega) (Parts.at1 _ _ (by simp) _ (r0.up _) (by omega)) ((hT1.out.alloc _).alloc _)).mono ?_
      rintro e w' ⟨rfl, rfl⟩
      rw [textOf1]
      go_wp2_with fail
      refine (sum_any _ _ _ _ _ _ (by omega) (Parts.at1 _ _ (by simp) _ ((r1.up _).up _) (by omega)) (((hT1.out.alloc _).alloc _).alloc _)).mono ?_
      rintro e w' ⟨rfl, rfl⟩
      rw [textOf1]
      go_wp2_with fail
      refine (sum_any _ _ _ _ _ _ (by omega) (Parts.at1 _ _ (by simp) _ (((r2.up _).up _).up _) (by omega)) ((((hT1.out.alloc _).alloc _).alloc _).alloc _)).mono ?_
      rintro e w' ⟨rfl, rfl⟩
      rw [textOf1]
      go_wp2
      go_ret
      have hz := bwr.size
      exact ⟨rfl, by go_grown⟩
set_option maxHeartbeats 400000 in
theorem linear_out (A0 : Option Addr) (n0 c0 : Nat) (A1 : Option Addr) (n1 c1 : Nat) (A2 : Option Addr) (n2 c2 : Nat) (w : World) (hT : Tab w) (b0 : n0 ≤ 9223372036854775807) (b1 : n1 ≤ 9223372036854775807) (b2 : n2 ≤ 9223372036854775807)
    (k : ¬ n0 ≤ 2000 ∨ n0 ≤ 2000 ∧ ¬ n0 ≤ n1 ∨ n0 ≤ 2000 ∧ n0 ≤ n1 ∧ ¬ n0 ≤ n2) :
    Calls Tryd.prog 6 #[.slice A0 n0 c0, .slice A1 n1 c1, .slice A2 n2 c2] w fun e w' => e = .returned (.bool true) ∧ Below w.heap.size w w' := by
  have HT := Lib.hid hT
  clear hT
  rcases k with k | ⟨k0, k⟩ | ⟨k0, k1, k⟩
  all_goals
    go_enter Tryd.func6, Tryd.ntmps6
    go_wp2_with (go_at_call 8; refine (alive_any _ HT.out).mono ?_; rintro e wa ⟨rfl, ba⟩)
    go_ret
    exact ⟨rfl, ba⟩
theorem crcLinear_walk (A0 : Option Addr) (n0 c0 : Nat) (b0 : List Nat) (m0 : n0 ≤ c0 ∧ c0 ≤ 9223372036854775807) {w : World} (o0 : Bytes w w.heap.size A0 n0 b0) (A1 : Option Addr) (n1 c1 : Nat) (b1 : List Nat) (m1 : n1 ≤ c1 ∧ c1 ≤ 9223372036854775807) (o1 : Bytes w w.heap.size A1 n1 b1)
    (A2 : Option Addr) (n2 c2 : Nat) (b2 : List Nat) (m2 : n2 ≤ c2 ∧ c2 ≤ 9223372036854775807) (o2 : Bytes w w.heap.size A2 n2 b2) (hT : Tab w) :
    Calls Tryd.prog 6 #[.slice A0 n0 c0, .slice A1 n1 c1, .slice A2 n2 c2] w fun e w' => e = .returned (.bool true) ∧ Below w.heap.size w w' := by
  by_cases k : n0 ≤ 2000 ∧ n0 ≤ n1 ∧ n0 ≤ n2
  · exact linear_in A0 n0 c0 b0 A1 n1 c1 b1 A2 n2 c2 b2 w o0 o1 o2 hT k.1 k.2.1 k.2.2 m1.1 m2.1 m1.2 m2.2
  · exact linear_out A0 n0 c0 A1 n1 c1 A2 n2 c2 w hT (by omega) (by omega) (by omega) (by omega)
end Go.Proofs.YtmedfcjafhpdfaaDoor
