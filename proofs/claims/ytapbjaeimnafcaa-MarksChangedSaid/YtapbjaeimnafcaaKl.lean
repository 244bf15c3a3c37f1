/-
  The document's Changed. Conditions: the rows read as bytes, of no more than ten thousand.
-/
import Derived.Test.YtapbjaeimnafcaaKi
namespace Go.Proofs.Ytapbjaeimnafcaa
open Go.RowKit
set_option linter.unusedSimpArgs false
set_option maxRecDepth 100000
set_option linter.unusedVariables false
set_option maxHeartbeats 2000000 in
theorem dchanged_any (A A' : Option Addr) (n n' c c' : Nat) (bs old : List Nat) (w : World) (hn : n ≤ 10000) (hn' : n' ≤ 10000) (hb : Bytes w w.heap.size A n bs) (hb' : Bytes w w.heap.size A' n' old) :
    Calls Try.prog 28 #[.slice A n c, .slice A' n' c'] w fun e w' => ∃ v, e = .returned v ∧ OwnI w' w.heap.size v (changedTo bs old (max n n')).length (changedTo bs old (max n n')) ∧ Below w.heap.size w w' := by
  have HB := Lib.hid (And.intro hb hb')
  clear hb hb'
  obtain ⟨N, hN⟩ : ∃ N, N = max n n' := ⟨_, rfl⟩
  rw [← hN]
  have HN := Lib.hid hN
  have hN1 : N ≤ 10000 := by omega
  clear hN
  go_enter Try.func28, Try.ntmps28
  go_wp2
  go_loopw [5, 6] (fun v i wr => ∃ k : Nat, k ≤ N ∧ i = .int .i64 k ∧ OwnI wr w.heap.size v (changedTo bs old k).length (changedTo bs old k) ∧ Below w.heap.size w wr) (fun _ i _ => N - (intOf i).toNat)
  case atStart => exact ⟨0, by omega, rfl, OwnI.nil _ _, Below.refl _ _⟩
  case round =>
    obtain ⟨k, hk, rfl, ho, hbl⟩ := hrel
    have HO := Lib.hid (And.intro ho hbl)
    clear ho hbl
    have HS := Lib.hid (changedTo_succ bs old k)
    have HL := Lib.hid (changedTo_len bs old k)
    by_cases hkn : k < n
    · have hd1 : decide ((k : Int) < (n : Int)) = true := decide_eq_true (by omega)
      have hlt : k < N := by have := HN.out; omega
      go_wp2_with fail
      refine (mark_any A n c w.heap.size k bs wr (HB.out.1.below HO.out.2) (by omega)).mono ?_
      rintro e w2 ⟨he, hw⟩
      subst he
      subst hw
      go_wp2_with fail
      refine (mark_any A' n' c' w.heap.size k old wr (HB.out.2.below HO.out.2) (by omega)).mono ?_
      rintro e w2 ⟨he, hw⟩
      subst he
      subst hw
      generalize mk bs k = a at *
      generalize mk old k = b at *
      by_cases h1 : a = 1
      · subst h1
        have HC : Hid (chg 1 b = true) := Lib.hid (by rfl)
        have hz : True := trivial
        have hcw := fun t f => And.intro (World.ownsRow.alloc HO.out.1 (.cells #[.int .i64 (k : Int)] t f)) (HO.out.2.alloc HO.out.2.size (.cells #[.int .i64 (k : Int)] t f))
        have HW := Lib.hid hcw
        clear hcw
        go_wp2_with (refine app_ints (.tmp 49) (.tmp 51) rfl rfl w.heap.size _ _ _ rfl (HW.out _ _).1 _ _ 1 1 [(k : Int)] rfl (Reads.new wr [.int .i64 (k : Int)] _ _) (by have := HL.out; omega) (HW.out _ _).2.size ?_
                     intro v5 w5 h5 g5 a5
                     have HV := Lib.hid (And.intro h5 ((HW.out _ _).2.grown g5 (HW.out _ _).2.size (fun b hb => by have := (World.ownsRow.lt HO.out.1 b hb).1; omega)))
                     clear h5 g5 a5)
        go_roundw
        case rel =>
          refine ⟨k + 1, by omega, by go_num, ?_, HV.out.2⟩
          rw [HS.out, if_pos HC.out, List.length_append]
          exact HV.out.1
        case measure => simp [intOf]; omega
      · have e1 : ((a : Int) == 1) = false := by simp; omega
        by_cases h2 : a = 2
        · subst h2
          have HC : Hid (chg 2 b = true) := Lib.hid (by rfl)
          have hz : True := trivial
          have hcw := fun t f => And.intro (World.ownsRow.alloc HO.out.1 (.cells #[.int .i64 (k : Int)] t f)) (HO.out.2.alloc HO.out.2.size (.cells #[.int .i64 (k : Int)] t f))
          have HW := Lib.hid hcw
          clear hcw
          go_wp2_with (refine app_ints (.tmp 49) (.tmp 51) rfl rfl w.heap.size _ _ _ rfl (HW.out _ _).1 _ _ 1 1 [(k : Int)] rfl (Reads.new wr [.int .i64 (k : Int)] _ _) (by have := HL.out; omega) (HW.out _ _).2.size ?_
                       intro v5 w5 h5 g5 a5
                       have HV := Lib.hid (And.intro h5 ((HW.out _ _).2.grown g5 (HW.out _ _).2.size (fun b hb => by have := (World.ownsRow.lt HO.out.1 b hb).1; omega)))
                       clear h5 g5 a5)
          go_roundw
          case rel =>
            refine ⟨k + 1, by omega, by go_num, ?_, HV.out.2⟩
            rw [HS.out, if_pos HC.out, List.length_append]
            exact HV.out.1
          case measure => simp [intOf]; omega
        · have e2 : ((a : Int) == 2) = false := by simp; omega
          by_cases h0 : a = 0
          · subst h0
            by_cases hb0 : b = 0
            · subst hb0
              have HC : Hid (chg 0 0 = false) := Lib.hid (by rfl)
              have hz : True := trivial
              go_wp2
              go_roundw
              case rel =>
                refine ⟨k + 1, by omega, by go_num, ?_, HO.out.2⟩
                rw [HS.out, if_neg (by rw [HC.out]; simp), List.append_nil]
                exact HO.out.1
              case measure => simp [intOf]; omega
            · have eb : ((b : Int) == 0) = false := by simp; omega
              have ebn : ((b : Int) != 0) = true := by simp; omega
              have HC : Hid (chg 0 b = true) := Lib.hid (by rw [chg, show (b == 0) = false by simpa using hb0]; rfl)
              have hz : True := trivial
              have hcw := fun t f => And.intro (World.ownsRow.alloc HO.out.1 (.cells #[.int .i64 (k : Int)] t f)) (HO.out.2.alloc HO.out.2.size (.cells #[.int .i64 (k : Int)] t f))
              have HW := Lib.hid hcw
              clear hcw
              go_wp2_with (refine app_ints (.tmp 49) (.tmp 51) rfl rfl w.heap.size _ _ _ rfl (HW.out _ _).1 _ _ 1 1 [(k : Int)] rfl (Reads.new wr [.int .i64 (k : Int)] _ _) (by have := HL.out; omega) (HW.out _ _).2.size ?_
                           intro v5 w5 h5 g5 a5
                           have HV := Lib.hid (And.intro h5 ((HW.out _ _).2.grown g5 (HW.out _ _).2.size (fun b hb => by have := (World.ownsRow.lt HO.out.1 b hb).1; omega)))
                           clear h5 g5 a5)
              go_roundw
              case rel =>
                refine ⟨k + 1, by omega, by go_num, ?_, HV.out.2⟩
                rw [HS.out, if_pos HC.out, List.length_append]
                exact HV.out.1
              case measure => simp [intOf]; omega
          · have e0 : ((a : Int) == 0) = false := by simp; omega
            have e0n : ((a : Int) != 0) = true := by simp; omega
            by_cases hb0 : b = 0
            · subst hb0
              have HC : Hid (chg a 0 = true) := Lib.hid (by rw [chg, show (a == 1) = false by simpa using h1, show (a == 2) = false by simpa using h2, show (a == 0) = false by simpa using h0]; rfl)
              have hz : True := trivial
              have hcw := fun t f => And.intro (World.ownsRow.alloc HO.out.1 (.cells #[.int .i64 (k : Int)] t f)) (HO.out.2.alloc HO.out.2.size (.cells #[.int .i64 (k : Int)] t f))
              have HW := Lib.hid hcw
              clear hcw
              go_wp2_with (refine app_ints (.tmp 49) (.tmp 51) rfl rfl w.heap.size _ _ _ rfl (HW.out _ _).1 _ _ 1 1 [(k : Int)] rfl (Reads.new wr [.int .i64 (k : Int)] _ _) (by have := HL.out; omega) (HW.out _ _).2.size ?_
                           intro v5 w5 h5 g5 a5
                           have HV := Lib.hid (And.intro h5 ((HW.out _ _).2.grown g5 (HW.out _ _).2.size (fun b hb => by have := (World.ownsRow.lt HO.out.1 b hb).1; omega)))
                           clear h5 g5 a5)
              go_roundw
              case rel =>
                refine ⟨k + 1, by omega, by go_num, ?_, HV.out.2⟩
                rw [HS.out, if_pos HC.out, List.length_append]
                exact HV.out.1
              case measure => simp [intOf]; omega
            · have eb : ((b : Int) == 0) = false := by simp; omega
              have ebn : ((b : Int) != 0) = true := by simp; omega
              have HC : Hid (chg a b = false) := Lib.hid (by rw [chg, show (a == 1) = false by simpa using h1, show (a == 2) = false by simpa using h2, show (a == 0) = false by simpa using h0, show (b == 0) = false by simpa using hb0]; rfl)
              have hz : True := trivial
              go_wp2
              go_roundw
              case rel =>
                refine ⟨k + 1, by omega, by go_num, ?_, HO.out.2⟩
                rw [HS.out, if_neg (by rw [HC.out]; simp), List.append_nil]
                exact HO.out.1
              case measure => simp [intOf]; omega

    · have hd1 : decide ((k : Int) < (n : Int)) = false := decide_eq_false (by omega)
      by_cases hkn' : k < n'
      · have hd2 : decide ((k : Int) < (n' : Int)) = true := decide_eq_true (by omega)
        have hlt : k < N := by have := HN.out; omega
        go_wp2_with fail
        refine (mark_any A n c w.heap.size k bs wr (HB.out.1.below HO.out.2) (by omega)).mono ?_
        rintro e w2 ⟨he, hw⟩
        subst he
        subst hw
        go_wp2_with fail
        refine (mark_any A' n' c' w.heap.size k old wr (HB.out.2.below HO.out.2) (by omega)).mono ?_
        rintro e w2 ⟨he, hw⟩
        subst he
        subst hw
        generalize mk bs k = a at *
        generalize mk old k = b at *
        by_cases h1 : a = 1
        · subst h1
          have HC : Hid (chg 1 b = true) := Lib.hid (by rfl)
          have hz : True := trivial
          have hcw := fun t f => And.intro (World.ownsRow.alloc HO.out.1 (.cells #[.int .i64 (k : Int)] t f)) (HO.out.2.alloc HO.out.2.size (.cells #[.int .i64 (k : Int)] t f))
          have HW := Lib.hid hcw
          clear hcw
          go_wp2_with (refine app_ints (.tmp 49) (.tmp 51) rfl rfl w.heap.size _ _ _ rfl (HW.out _ _).1 _ _ 1 1 [(k : Int)] rfl (Reads.new wr [.int .i64 (k : Int)] _ _) (by have := HL.out; omega) (HW.out _ _).2.size ?_
                       intro v5 w5 h5 g5 a5
                       have HV := Lib.hid (And.intro h5 ((HW.out _ _).2.grown g5 (HW.out _ _).2.size (fun b hb => by have := (World.ownsRow.lt HO.out.1 b hb).1; omega)))
                       clear h5 g5 a5)
          go_roundw
          case rel =>
            refine ⟨k + 1, by omega, by go_num, ?_, HV.out.2⟩
            rw [HS.out, if_pos HC.out, List.length_append]
            exact HV.out.1
          case measure => simp [intOf]; omega
        · have e1 : ((a : Int) == 1) = false := by simp; omega
          by_cases h2 : a = 2
          · subst h2
            have HC : Hid (chg 2 b = true) := Lib.hid (by rfl)
            have hz : True := trivial
            have hcw := fun t f => And.intro (World.ownsRow.alloc HO.out.1 (.cells #[.int .i64 (k : Int)] t f)) (HO.out.2.alloc HO.out.2.size (.cells #[.int .i64 (k : Int)] t f))
            have HW := Lib.hid hcw
            clear hcw
            go_wp2_with (refine app_ints (.tmp 49) (.tmp 51) rfl rfl w.heap.size _ _ _ rfl (HW.out _ _).1 _ _ 1 1 [(k : Int)] rfl (Reads.new wr [.int .i64 (k : Int)] _ _) (by have := HL.out; omega) (HW.out _ _).2.size ?_
                         intro v5 w5 h5 g5 a5
                         have HV := Lib.hid (And.intro h5 ((HW.out _ _).2.grown g5 (HW.out _ _).2.size (fun b hb => by have := (World.ownsRow.lt HO.out.1 b hb).1; omega)))
                         clear h5 g5 a5)
            go_roundw
            case rel =>
              refine ⟨k + 1, by omega, by go_num, ?_, HV.out.2⟩
              rw [HS.out, if_pos HC.out, List.length_append]
              exact HV.out.1
            case measure => simp [intOf]; omega
          · have e2 : ((a : Int) == 2) = false := by simp; omega
            by_cases h0 : a = 0
            · subst h0
              by_cases hb0 : b = 0
              · subst hb0
                have HC : Hid (chg 0 0 = false) := Lib.hid (by rfl)
                have hz : True := trivial
                go_wp2
                go_roundw
                case rel =>
                  refine ⟨k + 1, by omega, by go_num, ?_, HO.out.2⟩
                  rw [HS.out, if_neg (by rw [HC.out]; simp), List.append_nil]
                  exact HO.out.1
                case measure => simp [intOf]; omega
              · have eb : ((b : Int) == 0) = false := by simp; omega
                have ebn : ((b : Int) != 0) = true := by simp; omega
                have HC : Hid (chg 0 b = true) := Lib.hid (by rw [chg, show (b == 0) = false by simpa using hb0]; rfl)
                have hz : True := trivial
                have hcw := fun t f => And.intro (World.ownsRow.alloc HO.out.1 (.cells #[.int .i64 (k : Int)] t f)) (HO.out.2.alloc HO.out.2.size (.cells #[.int .i64 (k : Int)] t f))
                have HW := Lib.hid hcw
                clear hcw
                go_wp2_with (refine app_ints (.tmp 49) (.tmp 51) rfl rfl w.heap.size _ _ _ rfl (HW.out _ _).1 _ _ 1 1 [(k : Int)] rfl (Reads.new wr [.int .i64 (k : Int)] _ _) (by have := HL.out; omega) (HW.out _ _).2.size ?_
                             intro v5 w5 h5 g5 a5
                             have HV := Lib.hid (And.intro h5 ((HW.out _ _).2.grown g5 (HW.out _ _).2.size (fun b hb => by have := (World.ownsRow.lt HO.out.1 b hb).1; omega)))
                             clear h5 g5 a5)
                go_roundw
                case rel =>
                  refine ⟨k + 1, by omega, by go_num, ?_, HV.out.2⟩
                  rw [HS.out, if_pos HC.out, List.length_append]
                  exact HV.out.1
                case measure => simp [intOf]; omega
            · have e0 : ((a : Int) == 0) = false := by simp; omega
              have e0n : ((a : Int) != 0) = true := by simp; omega
              by_cases hb0 : b = 0
              · subst hb0
                have HC : Hid (chg a 0 = true) := Lib.hid (by rw [chg, show (a == 1) = false by simpa using h1, show (a == 2) = false by simpa using h2, show (a == 0) = false by simpa using h0]; rfl)
                have hz : True := trivial
                have hcw := fun t f => And.intro (World.ownsRow.alloc HO.out.1 (.cells #[.int .i64 (k : Int)] t f)) (HO.out.2.alloc HO.out.2.size (.cells #[.int .i64 (k : Int)] t f))
                have HW := Lib.hid hcw
                clear hcw
                go_wp2_with (refine app_ints (.tmp 49) (.tmp 51) rfl rfl w.heap.size _ _ _ rfl (HW.out _ _).1 _ _ 1 1 [(k : Int)] rfl (Reads.new wr [.int .i64 (k : Int)] _ _) (by have := HL.out; omega) (HW.out _ _).2.size ?_
                             intro v5 w5 h5 g5 a5
                             have HV := Lib.hid (And.intro h5 ((HW.out _ _).2.grown g5 (HW.out _ _).2.size (fun b hb => by have := (World.ownsRow.lt HO.out.1 b hb).1; omega)))
                             clear h5 g5 a5)
                go_roundw
                case rel =>
                  refine ⟨k + 1, by omega, by go_num, ?_, HV.out.2⟩
                  rw [HS.out, if_pos HC.out, List.length_append]
                  exact HV.out.1
                case measure => simp [intOf]; omega
              · have eb : ((b : Int) == 0) = false := by simp; omega
                have ebn : ((b : Int) != 0) = true := by simp; omega
                have HC : Hid (chg a b = false) := Lib.hid (by rw [chg, show (a == 1) = false by simpa using h1, show (a == 2) = false by simpa using h2, show (a == 0) = false by simpa using h0, show (b == 0) = false by simpa using hb0]; rfl)
                have hz : True := trivial
                go_wp2
                go_roundw
                case rel =>
                  refine ⟨k + 1, by omega, by go_num, ?_, HO.out.2⟩
                  rw [HS.out, if_neg (by rw [HC.out]; simp), List.append_nil]
                  exact HO.out.1
                case measure => simp [intOf]; omega

      · have hd2 : decide ((k : Int) < (n' : Int)) = false := decide_eq_false (by omega)
        obtain rfl : k = N := by have := HN.out; omega
        go_wp2
        go_ret
        exact ⟨_, rfl, HO.out.1, HO.out.2⟩
end Go.Proofs.Ytapbjaeimnafcaa
