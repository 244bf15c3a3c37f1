/-
  The document's answer for the wire: its numbers as bytes. Conditions: the sizes.
-/
import Derived.Test.YtldnghmgdmjljaaWr
namespace Go.Proofs.Ytldnghmgdmjljaa
open Go.RowKit
set_option linter.unusedSimpArgs false
set_option maxRecDepth 100000
set_option linter.unusedVariables false
theorem dnum_any (n : Int) (w : World) : Calls Try.prog 49 #[.int .i64 n] w fun e w' => ∃ v, e = .returned v ∧ Own w' w.heap.size v 8 (numB n) ∧ Below w.heap.size w w' := by
  have hu := nat64_lt n
  have hwn : IntKind.u64.wrap n = ((nat64 n : Nat) : Int) := by rw [IntKind.wrap_u64]; unfold nat64; omega
  generalize hq : nat64 n = u at *
  unfold numB
  rw [hq]
  go_enter Try.func49, Try.ntmps49
  go_wp2
  go_loopw [4, 3, 5] (fun v q i wr => ∃ k : Nat, k ≤ 8 ∧ i = .int .i64 k ∧ q = .int .u64 ((u / 256 ^ k : Nat) : Int) ∧ Own wr w.heap.size v k (le k u) ∧ Below w.heap.size w wr) (fun _ _ i _ => 8 - (intOf i).toNat)
  case atStart => exact ⟨0, by omega, rfl, by simp, Own.nil _ _, Below.refl _ _⟩
  case round =>
    obtain ⟨k, hk, rfl, rfl, ho, hb⟩ := hrel
    by_cases hlt : k < 8
    · obtain ⟨A1, c1, rfl, -, -, -⟩ := ho.form
      have HO := Lib.hid ho
      have Hb := Lib.hid hb
      clear ho hb
      obtain ⟨b, hvb, hb256, hbe⟩ : ∃ b : Nat, ((u / 256 ^ k : Nat) : Int) % 256 = (b : Int) ∧ b < 256 ∧ b = u / 256 ^ k % 256 := ⟨u / 256 ^ k % 256, by omega, Nat.mod_lt _ (by omega), rfl⟩
      obtain ⟨v2, hv2, hve⟩ : ∃ v2 : Nat, ((u / 256 ^ k : Nat) : Int) / 256 = (v2 : Int) ∧ v2 = u / 256 ^ (k + 1) := ⟨u / 256 ^ k / 256, by omega, by rw [Nat.div_div_eq_div_mul, Nat.pow_succ]⟩
      have hvlt : u / 256 ^ k ≤ u := Nat.div_le_self _ _
      have Hbe := Lib.hid hbe
      have Hve := Lib.hid hve
      clear hbe hve
      generalize hv : u / 256 ^ k = v at *
      have HS := Lib.hid (HO.out.alloc (.cells (u8s [b]).toArray 5))
      have hnew := Bytes.new wr [b] 5 (0, 0) (by simpa using hb256)
      have hbs := Lib.hid (Hb.out.alloc Hb.out.size (.cells (u8s [b]).toArray 5))
      go_wp2_with (refine app_bytes (.tmp 12) (.tmp 16) rfl rfl w.heap.size (.slice A1 k c1) k (le k u) rfl HS.out _ _ 1 1 [b] rfl hnew (by omega) hbs.out.size ?_
                   intro v3 w3 h3 g3 a3)
      go_roundw
      case rel =>
        refine ⟨k + 1, by omega, by go_num, by rw [Hve.out], ?_, below_own hbs.out HS.out (Nat.le_refl _) g3 hbs.out.size⟩
        rw [le_snoc, hv, ← Hbe.out]
        exact h3
      case measure => simp [intOf]; omega
    · obtain rfl : k = 8 := by omega
      go_wp2
      go_ret
      exact ⟨_, rfl, ho, hb⟩
theorem dbytes_any (A : Option Addr) (n c B : Nat) (bs : List Nat) (w : World) (hb : Bytes w B A n bs) (hn : n ≤ 9000000) :
    Calls Try.prog 50 #[.slice A n c] w fun e w' => ∃ v, e = .returned v ∧ Own w' w.heap.size v (8 + n) (numB n ++ bs) ∧ Below w.heap.size w w' := by
  go_enter Try.func50, Try.ntmps50
  go_wp2_with fail
  refine (dnum_any n w).mono ?_
  rintro e w1 ⟨v, rfl, h1, b1⟩
  have hb1 := hb.since b1
  obtain ⟨A1, c1, rfl, -, -, -⟩ := h1.form
  go_wp2_with (refine app_bytes (.tmp 5) (.tmp 6) rfl rfl w.heap.size (.slice A1 8 c1) 8 (numB n) rfl h1 B A n c bs rfl hb1 (by omega) b1.size ?_
               intro v3 w3 h3 g3 a3)
  go_ret
  exact ⟨v3, rfl, h3, below_own b1 h1 (Nat.le_refl _) g3 b1.size⟩
end Go.Proofs.Ytldnghmgdmjljaa
