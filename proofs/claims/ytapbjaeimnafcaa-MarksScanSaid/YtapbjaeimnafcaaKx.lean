/-
  The law MarksScan, walked: it returns true and changes nothing that was there. No condition.
-/
import Derived.Test.YtapbjaeimnafcaaKo
import Derived.Test.YtapbjaeimnafcaaKj
namespace Go.Proofs.Ytapbjaeimnafcaa
open Go.RowKit
set_option linter.unusedSimpArgs false
set_option maxRecDepth 100000
set_option linter.unusedVariables false
theorem covers_scan (l l' : List Bool) : ∀ k, k ≤ l.length → coversTo (scanTo l l' l.length) l k = true
  | 0, _ => rfl
  | k + 1, hk => by
    rw [coversTo_succ, covers_scan l l' k (by omega), Bool.true_and]
    have hs : mk (scanTo l l' l.length) k = scanB l l' k := mk_at (by simp [scanTo, show k < l.length by omega])
    rw [hs]
    unfold scanB
    cases hf : fl l k with
    | false => rfl
    | true =>
      simp only [Bool.not_true, Bool.false_or, if_true]
      split <;> rfl
set_option maxHeartbeats 1000000 in
theorem marksScan_walk (A : Option Addr) (n c : Nat) (l : List Bool) (m0 : n ≤ c ∧ c ≤ 9223372036854775807) {w : World} (hf : Flags w w.heap.size A n l) (A' : Option Addr) (n' c' : Nat) (l' : List Bool) (m0' : n' ≤ c' ∧ c' ≤ 9223372036854775807) (hf' : Flags w w.heap.size A' n' l')
    (A2 : Option Addr) (n2 c2 : Nat) (bs : List Nat) (m2 : n2 ≤ c2 ∧ c2 ≤ 9223372036854775807) (hb : Bytes w w.heap.size A2 n2 bs) :
    Calls Try.prog 7 #[.slice A n c, .slice A' n' c', .slice A2 n2 c2] w fun e w' => e = .returned (.bool true) ∧ Below w.heap.size w w' := by
  have HF := Lib.hid (And.intro hf hf')
  have HB := Lib.hid hb
  have hl := hf.len
  have hl' := hf'.len
  clear hf hf' hb
  have HUP : Hid (∀ w' : World, Below w.heap.size w w' → Flags w' w'.heap.size A n l ∧ Flags w' w'.heap.size A' n' l' ∧ Bytes w' w'.heap.size A2 n2 bs) := Lib.hid fun w' h =>
    ⟨Reads.more (HF.out.1.below h) h.size, Reads.more (HF.out.2.below h) h.size, (HB.out.since h).more h.size⟩
  go_enter Try.func7, Try.ntmps7
  go_wp2_with fail
  refine (alive_any w).mono ?_
  rintro e w1 ⟨rfl, b1⟩
  have B1 := Lib.hid b1
  clear b1
  by_cases hn : n ≤ 2000
  case neg =>
    have hd : decide ((2000 : Int) < (n : Int)) = true := decide_eq_true (by omega)
    go_wp2
    go_ret
    exact ⟨rfl, B1.out⟩
  have hd : decide ((2000 : Int) < (n : Int)) = false := decide_eq_false (by omega)
  by_cases hn' : n' ≤ 2000
  case neg =>
    have hd' : decide ((2000 : Int) < (n' : Int)) = true := decide_eq_true (by omega)
    go_wp2
    go_ret
    exact ⟨rfl, B1.out⟩
  have hd' : decide ((2000 : Int) < (n' : Int)) = false := decide_eq_false (by omega)
  by_cases hn2 : n2 ≤ 2000
  case neg =>
    have hd2 : decide ((2000 : Int) < (n2 : Int)) = true := decide_eq_true (by omega)
    go_wp2
    go_ret
    exact ⟨rfl, B1.out⟩
  have hd2 : decide ((2000 : Int) < (n2 : Int)) = false := decide_eq_false (by omega)
  go_wp2_with fail
  refine (scan_any A A' n n' c c' l l' w1 (by omega) (by omega) (HUP.out w1 B1.out).1 (HUP.out w1 B1.out).2.1).mono ?_
  rintro e w2 ⟨rfl, k2, b2⟩
  have B2 := Lib.hid (B1.out.trans (b2.mono B1.out.size))
  have HS2 := Lib.hid (Own.of_blk (base := w1.heap.size) k2 (scanTo_len l l' n) (Nat.le_refl _) (by omega))
  have HSL := Lib.hid (scanTo_lt l l' n)
  clear k2 b2
  generalize hg1 : w1.heap.size = g1 at *
  go_wp2
  go_loopw [8, 31] (fun v i wr => ∃ k : Nat, k ≤ n ∧ v = .bool (coversTo bs l k) ∧ i = .int .i64 k ∧ wr = w2) (fun _ i _ => n - (intOf i).toNat)
  case atStart => exact ⟨0, by omega, rfl, rfl, by trivial⟩
  case round =>
    obtain ⟨k, hk, rfl, rfl, rfl⟩ := hrel
    by_cases hlt : k < n
    · obtain ⟨ad, x, rfl, hx, hc⟩ := (HUP.out wr B2.out).1.at_ hlt
      have hsucc := coversTo_succ bs l k
      rw [fl_at hx] at hsucc
      have HS := Lib.hid hsucc
      clear hsucc hx
      by_cases hco : coversTo bs l k = true
      · rw [hco] at HS ⊢
        clear hco
        cases x with
        | false =>
          go_wp2
          go_roundw
          case rel => exact ⟨k + 1, by omega, by rw [HS.out]; rfl, by go_num, by trivial⟩
          case measure => simp [intOf]; omega
        | true =>
          go_wp2_with fail
          refine (mark_any A2 n2 c2 _ k bs wr (HUP.out wr B2.out).2.2 (by omega)).mono ?_
          rintro e w4 ⟨he, hw⟩
          subst he
          subst hw
          by_cases h0 : mk bs k = 0
          · rw [h0] at HS ⊢
            clear h0
            go_wp2
            go_roundw
            case rel => exact ⟨k + 1, by omega, by rw [HS.out]; rfl, by go_num, by trivial⟩
            case measure => simp [intOf]; omega
          · have hd3 : (((mk bs k : Nat) : Int) != 0) = true := by simp; omega
            have h1 : coversTo bs l (k + 1) = true := by rw [HS.out]; simp [h0]
            have HN := Lib.hid h1
            clear h1 h0 HS
            generalize mk bs k = z at *
            go_wp2
            go_roundw
            case rel => exact ⟨k + 1, by omega, by rw [HN.out], by go_num, by trivial⟩
            case measure => simp [intOf]; omega
      · have hco' : coversTo bs l k = false := by simpa using hco
        rw [hco'] at HS ⊢
        clear hco hco'
        go_wp2
        go_roundw
        case rel => exact ⟨k + 1, by omega, by rw [HS.out]; rfl, by go_num, by trivial⟩
        case measure => simp [intOf]; omega
    · obtain rfl : k = n := by omega
      have hds := dscan_any A A' k n' c c' l l' wr (by omega) (by omega) (HUP.out wr B2.out).1 (HUP.out wr B2.out).2.1
      have HDS := Lib.hid hds
      have HCC := Lib.hid (show coversTo (scanTo l l' k) l k = true by rw [← hl]; exact covers_scan l l' l.length (Nat.le_refl _))
      clear hds
      go_wp2_with fail
      refine HDS.out.mono ?_
      rintro e w4 ⟨v4, rfl, ho4, b4⟩
      obtain ⟨A4, c4, rfl, -⟩ := ho4.form
      have B4 := Lib.hid (B2.out.trans (b4.mono B2.out.size))
      have HS4 := Lib.hid (HS2.out.below b4)
      have HSm := Lib.hid (same_iff (some ⟨g1, 0, none⟩) A4 k (scanTo l l' k).length k c4 _ _ (scanTo l l' k) (scanTo l l' k) w4 (HS4.out.bytes HSL.out) (ho4.bytes HSL.out))
      rw [show (scanTo l l' k == scanTo l l' k) = true by simp] at HSm
      have HC1 := Lib.hid (covers_any (some ⟨g1, 0, none⟩) A k k k c _ _ (scanTo l l' k) l w4 (by omega) (HS4.out.bytes HSL.out) (HUP.out w4 B4.out).1)
      rw [HCC.out] at HC1
      have HC2 := Lib.hid (covers_any A2 A n2 k c2 c _ _ bs l w4 (by omega) (HUP.out w4 B4.out).2.2 (HUP.out w4 B4.out).1)
      clear b4 ho4 HDS
      generalize coversTo bs l k = b at *
      go_wp2_with fail
      refine HSm.out.mono ?_
      rintro e w5 ⟨he, hw⟩
      subst he
      subst hw
      go_wp2_with fail
      refine HC1.out.mono ?_
      rintro e w5 ⟨he, hw⟩
      subst he
      subst hw
      go_wp2_with fail
      refine HC2.out.mono ?_
      rintro e w5 ⟨he, hw⟩
      subst he
      subst hw
      have hbb : (b == b) = true := by simp
      go_wp2
      go_ret
      exact ⟨rfl, B4.out⟩
end Go.Proofs.Ytapbjaeimnafcaa
