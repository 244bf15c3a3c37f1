/-
  The document's answer for the wire: its numbers as bytes. Conditions: the sizes.
-/
import Derived.Test.YtjepfeagbiceoaaWr
namespace Go.Proofs.Ytjepfeagbiceoaa
open Go.RowKit
set_option linter.unusedSimpArgs false
set_option maxRecDepth 100000
set_option linter.unusedVariables false
theorem dnum_any (n : Int) (w : World) : Calls Try.prog 51 #[.int .i64 n] w fun e w' => ∃ v, e = .returned v ∧ Own w' w.heap.size v 8 (numB n) ∧ Below w.heap.size w w' := by
  have hu := nat64_lt n
  have hwn : IntKind.u64.wrap n = ((nat64 n : Nat) : Int) := by rw [IntKind.wrap_u64]; unfold nat64; omega
  generalize hq : nat64 n = u at *
  unfold numB
  rw [hq]
  go_enter Try.func51, Try.ntmps51
  go_wp2
  go_loopw [4, 3, 5] (fun v q i wr => ∃ k : Nat, k ≤ 8 ∧ i = .int .i64 k ∧ q = .int .u64 ((u / 256 ^ k : Nat) : Int) ∧ Own wr w.heap.size v k (le k u) ∧ Below w.heap.size w wr) (fun _ _ i _ => 8 - (intOf i).toNat)
  case atStart => exact ⟨0, by omega, rfl, by simp, Own.nil _ _, Below.refl _ _⟩
  case round =>
    obtain ⟨k, hk, rfl, rfl, ho, hb⟩ := hrel
    by_cases hlt : k < 8
    · obtain ⟨A1, c1, rfl, -, -, -⟩ := ho.form
      have HO := Lib.hid ho
      have Hb := Lib.hid hb
      clear ho hb
      obtain ⟨b, hvb, hb256, hbe⟩ : ∃ b : Nat, ((u / 256 ^ k : Nat) : Int) % 256 = (b : Int) ∧ b < 256 ∧ b = u / 256 ^ k % 256 := ⟨u / 256 ^ k % 256, by omega, Nat.mod_lt _ (by omega), rfl⟩
      obtain ⟨v2, hv2, hve⟩ : ∃ v2 : Nat, ((u / 256 ^ k : Nat) : Int) / 256 = (v2 : Int) ∧ v2 = u / 256 ^ (k + 1) := ⟨u / 256 ^ k / 256, by omega, by rw [Nat.div_div_eq_div_mul, Nat.pow_succ]⟩
      have hvlt : u / 256 ^ k ≤ u := Nat.div_le_self _ _
      have Hbe := Lib.hid hbe
      have Hve := Lib.hid hve
      clear hbe hve
      generalize hv : u / 256 ^ k = v at *
      have HS := Lib.hid (HO.out.alloc (.cells (u8s [b]).toArray 5))
      have hnew := Bytes.new wr [b] 5 (0, 0) (by simpa using hb256)
      have hbs := Lib.hid (Hb.out.alloc Hb.out.size (.cells (u8s [b]).toArray 5))
      go_wp2_with (refine app_bytes (.tmp 12) (.tmp 16) rfl rfl w.heap.size (.slice A1 k c1) k (le k u) rfl HS.out _ _ 1 1 [b] rfl hnew (by omega) hbs.out.size ?_
                   intro v3 w3 h3 g3 a3)
      go_roundw
      case rel =>
        refine ⟨k + 1, by omega, by go_num, by rw [Hve.out], ?_, below_own hbs.out HS.out (Nat.le_refl _) g3 hbs.out.size⟩
        rw [le_snoc, hv, ← Hbe.out]
        exact h3
      case measure => simp [intOf]; omega
    · obtain rfl : k = 8 := by omega
      go_wp2
      go_ret
      exact ⟨_, rfl, ho, hb⟩
theorem dbytes_any (A : Option Addr) (n c B : Nat) (bs : List Nat) (w : World) (hb : Bytes w B A n bs) (hn : n ≤ 9000000) :
    Calls Try.prog 50 #[.slice A n c] w fun e w' => ∃ v, e = .returned v ∧ Own w' w.heap.size v (8 + n) (numB n ++ bs) ∧ Below w.heap.size w w' := by
  go_enter Try.func50, Try.ntmps50
  go_wp2_with fail
  refine (dnum_any n w).mono ?_
  rintro e w1 ⟨v, rfl, h1, b1⟩
  have hb1 := hb.since b1
  obtain ⟨A1, c1, rfl, -, -, -⟩ := h1.form
  go_wp2_with (refine app_bytes (.tmp 5) (.tmp 6) rfl rfl w.heap.size (.slice A1 8 c1) 8 (numB n) rfl h1 B A n c bs rfl hb1 (by omega) b1.size ?_
               intro v3 w3 h3 g3 a3)
  go_ret
  exact ⟨v3, rfl, h3, below_own b1 h1 (Nat.le_refl _) g3 b1.size⟩
theorem dnums_any (A : Option Addr) (n c B : Nat) (l : List Int) (w : World) (hb : Ints w B A n l) (hn : n ≤ 900000) :
    Calls Try.prog 52 #[.slice A n c] w fun e w' => ∃ v, e = .returned v ∧ Own w' w.heap.size v (8 + 8 * n) (numsB l) ∧ Below w.heap.size w w' := by
  have hl := hb.len
  have H := Lib.hid hb
  clear hb
  go_enter Try.func52, Try.ntmps52
  go_wp2_with fail
  refine (dnum_any n w).mono ?_
  rintro e w1 ⟨v, rfl, h1, b1⟩
  have H1 := Lib.hid h1
  have HB1 := Lib.hid b1
  clear h1 b1
  go_wp2
  go_loopw [3, 4] (fun v i wr => ∃ k : Nat, k ≤ n ∧ i = .int .i64 k ∧ Own wr w.heap.size v (8 + 8 * k) (numB n ++ (l.take k).flatMap numB) ∧ Below w.heap.size w wr) (fun _ i _ => n - (intOf i).toNat)
  case atStart => exact ⟨0, by omega, rfl, by simpa using H1.out, HB1.out⟩
  case round =>
    obtain ⟨k, hk, rfl, ho, hb⟩ := hrel
    by_cases hlt : k < n
    · obtain ⟨A1, c1, rfl, -, -, -⟩ := ho.form
      obtain ⟨ad, x, rfl, hx, hc⟩ := (show Ints wr B A n l from ⟨H.out.1, (Reads.since H.out (Below.mono hb (Nat.le_refl _))).2⟩).at_ hlt
      have HO := Lib.hid ho
      have Hb := Lib.hid hb
      have Hx := Lib.hid hx
      clear ho hb hx
      go_wp2_with fail
      refine (dnum_any x wr).mono ?_
      rintro e w2 ⟨v2, rfl, h2, b2⟩
      obtain ⟨A2, c2, rfl, -, -, -⟩ := h2.form
      have HO2 := Lib.hid (HO.out.below b2)
      have HB2 := Lib.hid (Hb.out.trans (b2.mono Hb.out.size))
      have hby := h2.bytes (numB_lt x)
      go_wp2_with (refine app_bytes (.tmp 14) (.tmp 19) rfl rfl w.heap.size (.slice A1 (8 + 8 * k) c1) (8 + 8 * k) _ rfl HO2.out _ A2 8 c2 (numB x) rfl hby (by omega) HB2.out.size ?_
                   intro v3 w3 h3 g3 a3)
      go_roundw
      case rel =>
        refine ⟨k + 1, by omega, by go_num, ?_, below_own HB2.out HO2.out (Nat.le_refl _) g3 HB2.out.size⟩
        have e : l.take (k + 1) = l.take k ++ [x] := by rw [List.take_add_one, Hx.out]; rfl
        rw [e, List.flatMap_append, ← List.append_assoc, show 8 + 8 * (k + 1) = 8 + 8 * k + 8 by omega]
        simpa using h3
      case measure => simp [intOf]; omega
    · obtain rfl : k = n := by omega
      have HO : Hid (Own wr w.heap.size u3 (8 + 8 * k) (numsB l)) := by
        rw [List.take_of_length_le (by omega)] at ho
        unfold numsB
        rw [hl]
        exact Lib.hid ho
      have Hb := Lib.hid hb
      clear ho hb
      go_wp2
      go_ret
      exact ⟨_, rfl, HO.out, Hb.out⟩
end Go.Proofs.Ytjepfeagbiceoaa
