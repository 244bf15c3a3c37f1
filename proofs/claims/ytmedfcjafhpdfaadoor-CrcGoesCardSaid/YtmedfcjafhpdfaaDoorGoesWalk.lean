/-
  The law CrcGoes, walked: it returns true and changes nothing that was there. Conditions: the arguments read as bytes and a number; the package's table holds its sixteen numbers.
-/
import Derived.Test.YtmedfcjafhpdfaaDoorSum
import Derived.Test.YtmedfcjafhpdfaaDoorBuf
import Derived.Test.YtmedfcjafhpdfaaDoorJoin
namespace Go.Proofs.YtmedfcjafhpdfaaDoor
open Go.RowKit
set_option linter.unusedVariables false
set_option maxHeartbeats 400000 in
theorem goes_in (s : Nat) (hs : s < 4294967296) (A0 : Option Addr) (n0 c0 : Nat) (b0 : List Nat) (A1 : Option Addr) (n1 c1 : Nat) (b1 : List Nat) (w : World) (h0 : Bytes w w.heap.size A0 n0 b0) (h1 : Bytes w w.heap.size A1 n1 b1) (hT : Tab w)
    (k0 : n0 ≤ 3000) (k1 : n1 ≤ 3000) :
    Calls Tryd.prog 7 #[.int .u32 s, .slice A0 n0 c0, .slice A1 n1 c1] w fun e w' => e = .returned (.bool true) ∧ Below w.heap.size w w' := by
  have HT := Lib.hid hT
  clear hT
  go_enter Tryd.func7, Tryd.ntmps7
  go_wp2_with fail
  refine (alive_any _ HT.out).mono ?_
  rintro e wb ⟨rfl, bb⟩
  go_wp2_with (first
    | (refine app_bytes (.tmp 18) (.tmp 19) rfl rfl wb.heap.size _ 0 [] rfl (Own.new _ _ (Nat.le_refl _)) w.heap.size A0 n0 c0 b0 rfl ((h0.below bb).alloc bb.size _) (by omega) (by simp) ?_
       intro v2 w2 h2 g2 a2
       have b2 : Below wb.heap.size wb w2 := below_own ((Below.refl _ _).alloc (Nat.le_refl _) _) (Own.new _ _ (Nat.le_refl _)) (Nat.le_refl _) g2 (by simp))
    | (refine app_bytes (.tmp 20) (.tmp 21) rfl rfl wb.heap.size _ _ _ rfl h2 w.heap.size A1 n1 c1 b1 rfl (h1.below (bb.trans (b2.mono bb.size))) (by omega) b2.size ?_
       intro v3 w3 h3 g3 a3
       have b3 : Below wb.heap.size wb w3 := below_own b2 h2 (Nat.le_refl _) g3 b2.size
       have h4 : Own w3 wb.heap.size v3 (n0 + n1) (b0 ++ b1) := by simpa using h3
       clear g3 a3 g2 a2 h2 b2 h3
       obtain ⟨A3, cap3, rfl, _, _, _⟩ := h4.form))
  have hb3 := h4.bytes (fun x hx => by
    rcases List.mem_append.1 hx with hx | hx
    · exact h0.2 x hx
    · exact h1.2 x hx)
  have bw3 : Below w.heap.size w w3 := bb.trans (b3.mono bb.size)
  have r0 : Bytes w3 w3.heap.size A0 n0 b0 := (h0.below bw3).more bw3.size
  have r1 : Bytes w3 w3.heap.size A1 n1 b1 := (h1.below bw3).more bw3.size
  have hT3 : Hid (Tab w3) := Lib.hid (HT.out.below bw3)
  have Hl : Hid (b0.length = n0) := Lib.hid r0.len
  have Ha := Lib.hid (Crc.go_append s b0 b1 h0.2)
  have Hj := Lib.hid (Crc.go_join s b0 hs h0.2)
  clear h4 b3 bb h0 h1
  refine (go_any _ _ _ _ _ _ _ hs (by omega) r0 hT3.out).mono ?_
  rintro e w' ⟨rfl, rfl⟩
  have hs1 := Crc.go_lt s b0
  go_wp2_with fail
  refine (go_any _ _ _ _ _ _ _ hs1 (by omega) r1 hT3.out).mono ?_
  rintro e w' ⟨rfl, rfl⟩
  rw [Ha.out]
  go_wp2_with fail
  refine (go_any _ _ _ _ _ _ _ hs (by omega) hb3 hT3.out).mono ?_
  rintro e w' ⟨rfl, rfl⟩
  go_wp2_with fail
  refine (sum_any _ _ _ _ _ _ (by omega) (Parts.new1 w3 _ r0 (by omega)) (hT3.out.alloc _)).mono ?_
  rintro e w' ⟨rfl, rfl⟩
  rw [textOf1]
  have hs2 : Crc.sum b0 < 4294967296 := Crc.go_lt 0 b0
  go_wp2_with fail
  refine (join_any _ _ _ _ hs hs2 (by omega)).mono ?_
  rintro e w' ⟨rfl, rfl⟩
  rw [← Hl.out, Hj.out, Hl.out]
  go_wp2_with fail
  refine (go_any _ _ _ _ _ _ _ hs (by omega) (r0.alloc (Nat.le_refl _) _) (hT3.out.alloc _)).mono ?_
  rintro e w' ⟨rfl, rfl⟩
  go_wp2
  go_ret
  exact ⟨rfl, bw3.alloc bw3.size _⟩
set_option maxHeartbeats 400000 in
theorem goes_out (s : Nat) (A0 : Option Addr) (n0 c0 : Nat) (A1 : Option Addr) (n1 c1 : Nat) (w : World) (hT : Tab w) (b0 : n0 ≤ 9223372036854775807) (b1 : n1 ≤ 9223372036854775807)
    (k : ¬ n0 ≤ 3000 ∨ n0 ≤ 3000 ∧ ¬ n1 ≤ 3000) :
    Calls Tryd.prog 7 #[.int .u32 s, .slice A0 n0 c0, .slice A1 n1 c1] w fun e w' => e = .returned (.bool true) ∧ Below w.heap.size w w' := by
  have HT := Lib.hid hT
  clear hT
  rcases k with k | ⟨k0, k⟩
  all_goals
    go_enter Tryd.func7, Tryd.ntmps7
    go_wp2_with (go_at_call 8; refine (alive_any _ HT.out).mono ?_; rintro e wa ⟨rfl, ba⟩)
    go_ret
    exact ⟨rfl, ba⟩
theorem crcGoes_walk (s : Nat) (hs : s < 4294967296) (A0 : Option Addr) (n0 c0 : Nat) (b0 : List Nat) (m0 : n0 ≤ c0 ∧ c0 ≤ 9223372036854775807) {w : World} (o0 : Bytes w w.heap.size A0 n0 b0) (A1 : Option Addr) (n1 c1 : Nat) (b1 : List Nat) (m1 : n1 ≤ c1 ∧ c1 ≤ 9223372036854775807) (o1 : Bytes w w.heap.size A1 n1 b1) (hT : Tab w) :
    Calls Tryd.prog 7 #[.int .u32 s, .slice A0 n0 c0, .slice A1 n1 c1] w fun e w' => e = .returned (.bool true) ∧ Below w.heap.size w w' := by
  by_cases k : n0 ≤ 3000 ∧ n1 ≤ 3000
  · exact goes_in s hs A0 n0 c0 b0 A1 n1 c1 b1 w o0 o1 hT k.1 k.2
  · exact goes_out s A0 n0 c0 A1 n1 c1 w hT (by omega) (by omega) (by omega)
end Go.Proofs.YtmedfcjafhpdfaaDoor
