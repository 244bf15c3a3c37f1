/-
  What Scan, Changed and good return. Conditions: the rows read as bytes and flags, of no more than ten thousand.
-/
import Derived.Test.YtapbjaeimnafcaaKd
namespace Go.Proofs.Ytapbjaeimnafcaa
open Go.RowKit
set_option linter.unusedSimpArgs false
set_option maxRecDepth 100000
set_option linter.unusedVariables false
/-- the first k looked at -/
def scanRow (there clean : List Bool) (k n : Nat) : List Nat := scanTo there clean k ++ List.replicate (n - k) 0
theorem scanRow_zero (there clean : List Bool) (n : Nat) : scanRow there clean 0 n = List.replicate n 0 := by simp [scanRow, scanTo]
theorem scanRow_all (there clean : List Bool) (n : Nat) : scanRow there clean n n = scanTo there clean n := by simp [scanRow]
theorem scanRow_at (there clean : List Bool) {k n : Nat} (h : k < n) : (scanRow there clean k n)[k]? = some 0 := by
  unfold scanRow
  rw [List.getElem?_append_right (by rw [scanTo_len]; omega), scanTo_len, List.getElem?_replicate, if_pos (by omega)]
theorem scanRow_set (there clean : List Bool) {k n : Nat} (h : k < n) : (scanRow there clean k n).set k (scanB there clean k) = scanRow there clean (k + 1) n := by
  unfold scanRow
  rw [List.set_append_right _ _ (by rw [scanTo_len]; omega), scanTo_len, Nat.sub_self, show n - k = (n - (k + 1)) + 1 by omega, List.replicate_succ, List.set_cons_zero, scanTo_snoc, List.append_assoc]
  rfl
theorem scan_any (A A' : Option Addr) (n n' c c' : Nat) (l l' : List Bool) (w : World) (hn : n ≤ 10000) (hn' : n' ≤ 10000) (hf : Flags w w.heap.size A n l) (hf' : Flags w w.heap.size A' n' l') :
    Calls Try.prog 29 #[.slice A n c, .slice A' n' c'] w fun e w' => e = .returned (.slice (some ⟨w.heap.size, 0, none⟩) n n) ∧ Blk w' w.heap.size 5 (u8s (scanTo l l' n)).toArray ∧ Below w.heap.size w w' := by
  have hmk := make_marks n (by omega)
  have hl := hf.len
  have hl' := hf'.len
  have HF := Lib.hid (And.intro hf hf')
  have HK := Lib.hid (And.intro (Blk.new w 5 (u8s (List.replicate n 0)).toArray) (below_alloc w (.cells (u8s (List.replicate n 0)).toArray 5)))
  clear hf hf'
  go_enter Try.func29, Try.ntmps29
  go_wp2
  generalize w.alloc (.cells (u8s (List.replicate n 0)).toArray 5) = w1 at *
  generalize hg : w.heap.size = g at *
  go_loopw [13] (fun i wr => ∃ k : Nat, k ≤ n ∧ i = .int .i64 k ∧ Blk wr g 5 (u8s (scanRow l l' k n)).toArray ∧ Below g w wr) (fun i _ => n - (intOf i).toNat)
  case atStart => exact ⟨0, by omega, rfl, by rw [scanRow_zero]; exact HK.out.1, HK.out.2⟩
  case round =>
    obtain ⟨k, hk, rfl, hkb, hbl⟩ := hrel
    by_cases hlt : k < n
    · obtain ⟨ad, x, rfl, hx, hc⟩ := (HF.out.1.below hbl).at_ hlt
      have hc2 := hkb.cell8 (scanRow_at l l' hlt)
      have hf := hkb.frozen k
      have hsb : scanB l l' k = if x then (if fl l' k then 3 else 1) else 0 := by unfold scanB; rw [fl_at hx]
      have HS := Lib.hid (scanRow_set l l' hlt)
      have HB := Lib.hid hsb
      have HE := Lib.hid (fun z : Nat => And.intro (hkb.set8 k z) (hbl.setCell (p := ⟨g, k, none⟩) (Nat.le_refl _) (.int .u8 (z : Int))))
      have HF2 := Lib.hid (HF.out.2.below hbl)
      clear hkb hbl hx hsb
      cases x with
      | false =>
        go_wp2
        go_roundw
        case rel => exact ⟨k + 1, by omega, by go_num, by rw [← HS.out, HB.out]; exact (HE.out 0).1, (HE.out 0).2⟩
        case measure => simp [intOf]; omega
      | true =>
        by_cases hl2 : k < n'
        · have hd : decide ((k : Int) < (n' : Int)) = true := decide_eq_true (by omega)
          obtain ⟨ad', x', rfl, hx', hc'⟩ := HF2.out.at_ hl2
          have HX := Lib.hid (fl_at hx')
          clear hx'
          cases x' with
          | false =>
            go_wp2
            go_roundw
            case rel => exact ⟨k + 1, by omega, by go_num, by rw [← HS.out, HB.out, HX.out]; exact (HE.out 1).1, (HE.out 1).2⟩
            case measure => simp [intOf]; omega
          | true =>
            go_wp2
            go_roundw
            case rel => exact ⟨k + 1, by omega, by go_num, by rw [← HS.out, HB.out, HX.out]; exact (HE.out 3).1, (HE.out 3).2⟩
            case measure => simp [intOf]; omega
        · have hd : decide ((k : Int) < (n' : Int)) = false := decide_eq_false (by omega)
          have HX : Hid (fl l' k = false) := Lib.hid (fl_over (by omega))
          go_wp2
          go_roundw
          case rel => exact ⟨k + 1, by omega, by go_num, by rw [← HS.out, HB.out, HX.out]; exact (HE.out 1).1, (HE.out 1).2⟩
          case measure => simp [intOf]; omega
    · obtain rfl : k = n := by omega
      have HE := Lib.hid (And.intro hkb hbl)
      clear hkb hbl
      go_wp2
      go_ret
      subst hg
      exact ⟨rfl, by rw [← scanRow_all]; exact HE.out.1, HE.out.2⟩
theorem changed_any (A A' : Option Addr) (n n' c c' : Nat) (bs old : List Nat) (w : World) (hn : n ≤ 10000) (hn' : n' ≤ 10000) (hb : Bytes w w.heap.size A n bs) (hb' : Bytes w w.heap.size A' n' old) :
    Calls Try.prog 25 #[.slice A n c, .slice A' n' c'] w fun e w' => ∃ v, e = .returned v ∧ OwnI w' w.heap.size v (changedTo bs old (max n n')).length (changedTo bs old (max n n')) ∧ Below w.heap.size w w' := by
  have HB := Lib.hid (And.intro hb hb')
  clear hb hb'
  by_cases hnn : n < n'
  · rw [show max n n' = n' by omega]
    go_enter Try.func25, Try.ntmps25
    go_wp2
    go_loopw [5, 14] (fun v i wr => ∃ k : Nat, k ≤ n' ∧ i = .int .i64 k ∧ OwnI wr w.heap.size v (changedTo bs old k).length (changedTo bs old k) ∧ Below w.heap.size w wr) (fun _ i _ => n' - (intOf i).toNat)
    case atStart => exact ⟨0, by omega, rfl, OwnI.nil _ _, Below.refl _ _⟩
    case round =>
      obtain ⟨k, hk, rfl, ho, hbl⟩ := hrel
      have HO := Lib.hid (And.intro ho hbl)
      clear ho hbl
      by_cases hlt : k < n'
      · have HS := Lib.hid (changedTo_succ bs old k)
        have HL := Lib.hid (changedTo_len bs old k)
        go_wp2_with fail
        refine (at_any A n c w.heap.size k bs wr (HB.out.1.below HO.out.2) (by omega)).mono ?_
        rintro e w2 ⟨he, hw⟩
        subst he
        subst hw
        go_wp2_with fail
        refine (at_any A' n' c' w.heap.size k old wr (HB.out.2.below HO.out.2) (by omega)).mono ?_
        rintro e w2 ⟨he, hw⟩
        subst he
        subst hw
        generalize mk bs k = a at *
        generalize mk old k = b at *
        by_cases h1 : a = 1
        · subst h1
          have HC : Hid (chg 1 b = true) := Lib.hid (by rfl)
          have hz : True := trivial
          have hcw := fun t f => And.intro (World.ownsRow.alloc HO.out.1 (.cells #[.int .i64 (k : Int)] t f)) (HO.out.2.alloc HO.out.2.size (.cells #[.int .i64 (k : Int)] t f))
          have HW := Lib.hid hcw
          clear hcw
          go_wp2_with (refine app_ints (.tmp 36) (.tmp 38) rfl rfl w.heap.size _ _ _ rfl (HW.out _ _).1 _ _ 1 1 [(k : Int)] rfl (Reads.new wr [.int .i64 (k : Int)] _ _) (by have := HL.out; omega) (HW.out _ _).2.size ?_
                       intro v5 w5 h5 g5 a5
                       have HV := Lib.hid (And.intro h5 ((HW.out _ _).2.grown g5 (HW.out _ _).2.size (fun b hb => by have := (World.ownsRow.lt HO.out.1 b hb).1; omega)))
                       clear h5 g5 a5)
          go_roundw
          case rel =>
            refine ⟨k + 1, by omega, by go_num, ?_, HV.out.2⟩
            rw [HS.out, if_pos HC.out, List.length_append]
            exact HV.out.1
          case measure => simp [intOf]; omega
        · have e1 : ((a : Int) == 1) = false := by simp; omega
          by_cases h2 : a = 2
          · subst h2
            have HC : Hid (chg 2 b = true) := Lib.hid (by rfl)
            have hz : True := trivial
            have hcw := fun t f => And.intro (World.ownsRow.alloc HO.out.1 (.cells #[.int .i64 (k : Int)] t f)) (HO.out.2.alloc HO.out.2.size (.cells #[.int .i64 (k : Int)] t f))
            have HW := Lib.hid hcw
            clear hcw
            go_wp2_with (refine app_ints (.tmp 36) (.tmp 38) rfl rfl w.heap.size _ _ _ rfl (HW.out _ _).1 _ _ 1 1 [(k : Int)] rfl (Reads.new wr [.int .i64 (k : Int)] _ _) (by have := HL.out; omega) (HW.out _ _).2.size ?_
                         intro v5 w5 h5 g5 a5
                         have HV := Lib.hid (And.intro h5 ((HW.out _ _).2.grown g5 (HW.out _ _).2.size (fun b hb => by have := (World.ownsRow.lt HO.out.1 b hb).1; omega)))
                         clear h5 g5 a5)
            go_roundw
            case rel =>
              refine ⟨k + 1, by omega, by go_num, ?_, HV.out.2⟩
              rw [HS.out, if_pos HC.out, List.length_append]
              exact HV.out.1
            case measure => simp [intOf]; omega
          · have e2 : ((a : Int) == 2) = false := by simp; omega
            by_cases h0 : a = 0
            · subst h0
              by_cases hb0 : b = 0
              · subst hb0
                have HC : Hid (chg 0 0 = false) := Lib.hid (by rfl)
                have hz : True := trivial
                go_wp2
                go_roundw
                case rel =>
                  refine ⟨k + 1, by omega, by go_num, ?_, HO.out.2⟩
                  rw [HS.out, if_neg (by rw [HC.out]; simp), List.append_nil]
                  exact HO.out.1
                case measure => simp [intOf]; omega
              · have eb : ((b : Int) == 0) = false := by simp; omega
                have HC : Hid (chg 0 b = true) := Lib.hid (by rw [chg, show (b == 0) = false by simpa using hb0]; rfl)
                have hz : True := trivial
                have hcw := fun t f => And.intro (World.ownsRow.alloc HO.out.1 (.cells #[.int .i64 (k : Int)] t f)) (HO.out.2.alloc HO.out.2.size (.cells #[.int .i64 (k : Int)] t f))
                have HW := Lib.hid hcw
                clear hcw
                go_wp2_with (refine app_ints (.tmp 36) (.tmp 38) rfl rfl w.heap.size _ _ _ rfl (HW.out _ _).1 _ _ 1 1 [(k : Int)] rfl (Reads.new wr [.int .i64 (k : Int)] _ _) (by have := HL.out; omega) (HW.out _ _).2.size ?_
                             intro v5 w5 h5 g5 a5
                             have HV := Lib.hid (And.intro h5 ((HW.out _ _).2.grown g5 (HW.out _ _).2.size (fun b hb => by have := (World.ownsRow.lt HO.out.1 b hb).1; omega)))
                             clear h5 g5 a5)
                go_roundw
                case rel =>
                  refine ⟨k + 1, by omega, by go_num, ?_, HV.out.2⟩
                  rw [HS.out, if_pos HC.out, List.length_append]
                  exact HV.out.1
                case measure => simp [intOf]; omega
            · have e0 : ((a : Int) == 0) = false := by simp; omega
              by_cases hb0 : b = 0
              · subst hb0
                have HC : Hid (chg a 0 = true) := Lib.hid (by rw [chg, show (a == 1) = false by simpa using h1, show (a == 2) = false by simpa using h2, show (a == 0) = false by simpa using h0]; rfl)
                have hz : True := trivial
                have hcw := fun t f => And.intro (World.ownsRow.alloc HO.out.1 (.cells #[.int .i64 (k : Int)] t f)) (HO.out.2.alloc HO.out.2.size (.cells #[.int .i64 (k : Int)] t f))
                have HW := Lib.hid hcw
                clear hcw
                go_wp2_with (refine app_ints (.tmp 36) (.tmp 38) rfl rfl w.heap.size _ _ _ rfl (HW.out _ _).1 _ _ 1 1 [(k : Int)] rfl (Reads.new wr [.int .i64 (k : Int)] _ _) (by have := HL.out; omega) (HW.out _ _).2.size ?_
                             intro v5 w5 h5 g5 a5
                             have HV := Lib.hid (And.intro h5 ((HW.out _ _).2.grown g5 (HW.out _ _).2.size (fun b hb => by have := (World.ownsRow.lt HO.out.1 b hb).1; omega)))
                             clear h5 g5 a5)
                go_roundw
                case rel =>
                  refine ⟨k + 1, by omega, by go_num, ?_, HV.out.2⟩
                  rw [HS.out, if_pos HC.out, List.length_append]
                  exact HV.out.1
                case measure => simp [intOf]; omega
              · have eb : ((b : Int) == 0) = false := by simp; omega
                have HC : Hid (chg a b = false) := Lib.hid (by rw [chg, show (a == 1) = false by simpa using h1, show (a == 2) = false by simpa using h2, show (a == 0) = false by simpa using h0, show (b == 0) = false by simpa using hb0]; rfl)
                have hz : True := trivial
                go_wp2
                go_roundw
                case rel =>
                  refine ⟨k + 1, by omega, by go_num, ?_, HO.out.2⟩
                  rw [HS.out, if_neg (by rw [HC.out]; simp), List.append_nil]
                  exact HO.out.1
                case measure => simp [intOf]; omega
      · obtain rfl : k = n' := by omega
        go_wp2
        go_ret
        exact ⟨_, rfl, HO.out.1, HO.out.2⟩
  · rw [show max n n' = n by omega]
    go_enter Try.func25, Try.ntmps25
    go_wp2
    go_loopw [5, 14] (fun v i wr => ∃ k : Nat, k ≤ n ∧ i = .int .i64 k ∧ OwnI wr w.heap.size v (changedTo bs old k).length (changedTo bs old k) ∧ Below w.heap.size w wr) (fun _ i _ => n - (intOf i).toNat)
    case atStart => exact ⟨0, by omega, rfl, OwnI.nil _ _, Below.refl _ _⟩
    case round =>
      obtain ⟨k, hk, rfl, ho, hbl⟩ := hrel
      have HO := Lib.hid (And.intro ho hbl)
      clear ho hbl
      by_cases hlt : k < n
      · have HS := Lib.hid (changedTo_succ bs old k)
        have HL := Lib.hid (changedTo_len bs old k)
        go_wp2_with fail
        refine (at_any A n c w.heap.size k bs wr (HB.out.1.below HO.out.2) (by omega)).mono ?_
        rintro e w2 ⟨he, hw⟩
        subst he
        subst hw
        go_wp2_with fail
        refine (at_any A' n' c' w.heap.size k old wr (HB.out.2.below HO.out.2) (by omega)).mono ?_
        rintro e w2 ⟨he, hw⟩
        subst he
        subst hw
        generalize mk bs k = a at *
        generalize mk old k = b at *
        by_cases h1 : a = 1
        · subst h1
          have HC : Hid (chg 1 b = true) := Lib.hid (by rfl)
          have hz : True := trivial
          have hcw := fun t f => And.intro (World.ownsRow.alloc HO.out.1 (.cells #[.int .i64 (k : Int)] t f)) (HO.out.2.alloc HO.out.2.size (.cells #[.int .i64 (k : Int)] t f))
          have HW := Lib.hid hcw
          clear hcw
          go_wp2_with (refine app_ints (.tmp 36) (.tmp 38) rfl rfl w.heap.size _ _ _ rfl (HW.out _ _).1 _ _ 1 1 [(k : Int)] rfl (Reads.new wr [.int .i64 (k : Int)] _ _) (by have := HL.out; omega) (HW.out _ _).2.size ?_
                       intro v5 w5 h5 g5 a5
                       have HV := Lib.hid (And.intro h5 ((HW.out _ _).2.grown g5 (HW.out _ _).2.size (fun b hb => by have := (World.ownsRow.lt HO.out.1 b hb).1; omega)))
                       clear h5 g5 a5)
          go_roundw
          case rel =>
            refine ⟨k + 1, by omega, by go_num, ?_, HV.out.2⟩
            rw [HS.out, if_pos HC.out, List.length_append]
            exact HV.out.1
          case measure => simp [intOf]; omega
        · have e1 : ((a : Int) == 1) = false := by simp; omega
          by_cases h2 : a = 2
          · subst h2
            have HC : Hid (chg 2 b = true) := Lib.hid (by rfl)
            have hz : True := trivial
            have hcw := fun t f => And.intro (World.ownsRow.alloc HO.out.1 (.cells #[.int .i64 (k : Int)] t f)) (HO.out.2.alloc HO.out.2.size (.cells #[.int .i64 (k : Int)] t f))
            have HW := Lib.hid hcw
            clear hcw
            go_wp2_with (refine app_ints (.tmp 36) (.tmp 38) rfl rfl w.heap.size _ _ _ rfl (HW.out _ _).1 _ _ 1 1 [(k : Int)] rfl (Reads.new wr [.int .i64 (k : Int)] _ _) (by have := HL.out; omega) (HW.out _ _).2.size ?_
                         intro v5 w5 h5 g5 a5
                         have HV := Lib.hid (And.intro h5 ((HW.out _ _).2.grown g5 (HW.out _ _).2.size (fun b hb => by have := (World.ownsRow.lt HO.out.1 b hb).1; omega)))
                         clear h5 g5 a5)
            go_roundw
            case rel =>
              refine ⟨k + 1, by omega, by go_num, ?_, HV.out.2⟩
              rw [HS.out, if_pos HC.out, List.length_append]
              exact HV.out.1
            case measure => simp [intOf]; omega
          · have e2 : ((a : Int) == 2) = false := by simp; omega
            by_cases h0 : a = 0
            · subst h0
              by_cases hb0 : b = 0
              · subst hb0
                have HC : Hid (chg 0 0 = false) := Lib.hid (by rfl)
                have hz : True := trivial
                go_wp2
                go_roundw
                case rel =>
                  refine ⟨k + 1, by omega, by go_num, ?_, HO.out.2⟩
                  rw [HS.out, if_neg (by rw [HC.out]; simp), List.append_nil]
                  exact HO.out.1
                case measure => simp [intOf]; omega
              · have eb : ((b : Int) == 0) = false := by simp; omega
                have HC : Hid (chg 0 b = true) := Lib.hid (by rw [chg, show (b == 0) = false by simpa using hb0]; rfl)
                have hz : True := trivial
                have hcw := fun t f => And.intro (World.ownsRow.alloc HO.out.1 (.cells #[.int .i64 (k : Int)] t f)) (HO.out.2.alloc HO.out.2.size (.cells #[.int .i64 (k : Int)] t f))
                have HW := Lib.hid hcw
                clear hcw
                go_wp2_with (refine app_ints (.tmp 36) (.tmp 38) rfl rfl w.heap.size _ _ _ rfl (HW.out _ _).1 _ _ 1 1 [(k : Int)] rfl (Reads.new wr [.int .i64 (k : Int)] _ _) (by have := HL.out; omega) (HW.out _ _).2.size ?_
                             intro v5 w5 h5 g5 a5
                             have HV := Lib.hid (And.intro h5 ((HW.out _ _).2.grown g5 (HW.out _ _).2.size (fun b hb => by have := (World.ownsRow.lt HO.out.1 b hb).1; omega)))
                             clear h5 g5 a5)
                go_roundw
                case rel =>
                  refine ⟨k + 1, by omega, by go_num, ?_, HV.out.2⟩
                  rw [HS.out, if_pos HC.out, List.length_append]
                  exact HV.out.1
                case measure => simp [intOf]; omega
            · have e0 : ((a : Int) == 0) = false := by simp; omega
              by_cases hb0 : b = 0
              · subst hb0
                have HC : Hid (chg a 0 = true) := Lib.hid (by rw [chg, show (a == 1) = false by simpa using h1, show (a == 2) = false by simpa using h2, show (a == 0) = false by simpa using h0]; rfl)
                have hz : True := trivial
                have hcw := fun t f => And.intro (World.ownsRow.alloc HO.out.1 (.cells #[.int .i64 (k : Int)] t f)) (HO.out.2.alloc HO.out.2.size (.cells #[.int .i64 (k : Int)] t f))
                have HW := Lib.hid hcw
                clear hcw
                go_wp2_with (refine app_ints (.tmp 36) (.tmp 38) rfl rfl w.heap.size _ _ _ rfl (HW.out _ _).1 _ _ 1 1 [(k : Int)] rfl (Reads.new wr [.int .i64 (k : Int)] _ _) (by have := HL.out; omega) (HW.out _ _).2.size ?_
                             intro v5 w5 h5 g5 a5
                             have HV := Lib.hid (And.intro h5 ((HW.out _ _).2.grown g5 (HW.out _ _).2.size (fun b hb => by have := (World.ownsRow.lt HO.out.1 b hb).1; omega)))
                             clear h5 g5 a5)
                go_roundw
                case rel =>
                  refine ⟨k + 1, by omega, by go_num, ?_, HV.out.2⟩
                  rw [HS.out, if_pos HC.out, List.length_append]
                  exact HV.out.1
                case measure => simp [intOf]; omega
              · have eb : ((b : Int) == 0) = false := by simp; omega
                have HC : Hid (chg a b = false) := Lib.hid (by rw [chg, show (a == 1) = false by simpa using h1, show (a == 2) = false by simpa using h2, show (a == 0) = false by simpa using h0, show (b == 0) = false by simpa using hb0]; rfl)
                have hz : True := trivial
                go_wp2
                go_roundw
                case rel =>
                  refine ⟨k + 1, by omega, by go_num, ?_, HO.out.2⟩
                  rw [HS.out, if_neg (by rw [HC.out]; simp), List.append_nil]
                  exact HO.out.1
                case measure => simp [intOf]; omega
      · obtain rfl : k = n := by omega
        go_wp2
        go_ret
        exact ⟨_, rfl, HO.out.1, HO.out.2⟩
end Go.Proofs.Ytapbjaeimnafcaa
