/-
  The law CrcSums, walked: it returns true and changes nothing that was there. Conditions: the arguments read as bytes; the package's table holds its sixteen numbers.
-/
import Derived.Test.YtmedfcjafhpdfaaDoorCopy
import Derived.Test.YtmedfcjafhpdfaaDoorRef
namespace Go.Proofs.YtmedfcjafhpdfaaDoor
open Go.RowKit
set_option maxHeartbeats 400000 in
theorem sums_in (A0 : Option Addr) (n0 c0 : Nat) (b0 : List Nat) (A1 : Option Addr) (n1 c1 : Nat) (b1 : List Nat) (w : World) (h0 : Bytes w w.heap.size A0 n0 b0) (h1 : Bytes w w.heap.size A1 n1 b1) (hT : Tab w)
    (k0 : n0 ≤ 5000) (k1 : n1 ≤ 5000) :
    Calls Tryd.prog 3 #[.slice A0 n0 c0, .slice A1 n1 c1] w fun e w' => e = .returned (.bool true) ∧ Below w.heap.size w w' := by
  have HT := Lib.hid hT
  clear hT
  go_enter Tryd.func3, Tryd.ntmps3
  go_wp2_with fail
  refine (alive_any _ HT.out).mono ?_
  rintro e wa ⟨rfl, ba⟩
  go_wp2_with fail
  refine (copy_any A1 n1 c1 b1 _ (by omega) ((h1.below ba).more ba.size)).mono ?_
  rintro e wb ⟨g, cap, rfl, hcap, hg, ho, bb0⟩
  have bb : Below w.heap.size w wb := ba.trans (bb0.mono ba.size)
  clear bb0
  have hob : Own wb w.heap.size (.slice (some ⟨g, 0, none⟩) (n1 + 2) cap) (n1 + 2) (b1 ++ [165, 90]) := ho.weaken ba.size
  have hg' : w.heap.size ≤ g := Nat.le_trans ba.size hg
  clear ho hg
  go_wp2_with (first
    | (refine app_bytes (.tmp 19) (.tmp 20) rfl rfl wb.heap.size _ 0 [] rfl (Own.new _ _ (Nat.le_refl _)) w.heap.size A0 n0 c0 b0 rfl ((h0.below bb).alloc bb.size _) (by omega) (by simp) ?_
       intro v2 w2 h2 g2 a2
       have b2 : Below wb.heap.size wb w2 := below_own ((Below.refl _ _).alloc (Nat.le_refl _) _) (Own.new _ _ (Nat.le_refl _)) (Nat.le_refl _) g2 (by simp))
    | (refine app_bytes (.tmp 21) (.tmp 22) rfl rfl wb.heap.size _ _ _ rfl h2 w.heap.size A1 n1 c1 b1 rfl (h1.below (bb.trans (b2.mono bb.size))) (by omega) b2.size ?_
       intro v3 w3 h3 g3 a3
       have b3 : Below wb.heap.size wb w3 := below_own b2 h2 (Nat.le_refl _) g3 b2.size
       have h4 : Own w3 wb.heap.size v3 (n0 + n1) (b0 ++ b1) := by simpa using h3
       clear g3 a3 g2 a2 h2 b2 h3
       obtain ⟨A3, cap3, rfl, _, _, _⟩ := h4.form))
  have hb3 := h4.bytes (fun x hx => by
    rcases List.mem_append.1 hx with hx | hx
    · exact h0.2 x hx
    · exact h1.2 x hx)
  refine (refsum_any _ _ _ _ _ _ (by omega) hb3).mono ?_
  rintro e w' ⟨rfl, rfl⟩
  have hob3 := hob.below b3
  have bw3 : Below w.heap.size w w3 := bb.trans (b3.mono bb.size)
  clear h4 hb3 hob b3
  have hmine : Bytes w3 w3.heap.size (some ⟨g, 0, none⟩) n1 b1 := mine_bytes hob3 h1
  have ha3 : Bytes w3 w3.heap.size A0 n0 b0 := (h0.below bw3).more bw3.size
  have hT3 : Hid (Tab w3) := Lib.hid (HT.out.below bw3)
  go_wp2_with fail
  refine (sum_any _ _ _ _ _ _ (by omega) (Parts.new2 w3 _ ha3 (by omega) hmine (by omega)) (hT3.out.alloc _)).mono ?_
  rintro e w' ⟨rfl, rfl⟩
  rw [textOf2]
  have hs := Crc.go_lt 0 b0
  have Hs : Hid (Crc.go (Crc.sum b0) b1 = Crc.sum (b0 ++ b1)) := Lib.hid (Crc.go_append 0 b0 b1 h0.2)
  go_wp2_with (first
    | (go_at_call 10; refine (refsum_any _ _ _ _ _ _ (by omega) (ha3.alloc (Nat.le_refl _) _)).mono ?_; rintro e w' ⟨rfl, rfl⟩)
    | (go_at_call 12; refine (go_any _ _ _ _ _ _ _ hs (by omega) (hmine.alloc (Nat.le_refl _) _) (hT3.out.alloc _)).mono ?_; rintro e w' ⟨rfl, rfl⟩; rw [show Crc.go (Crc.go 0 b0) b1 = Crc.sum (b0 ++ b1) from Hs.out]))
  refine (kept_any A1 n1 c1 g cap w.heap.size b1 _ (by omega) hcap ((h1.below bw3).alloc bw3.size _) (hob3.alloc _)).mono ?_
  rintro e w4 ⟨rfl, b4⟩
  go_wp2
  go_ret
  exact ⟨rfl, (bw3.alloc bw3.size _).trans (b4.mono (Nat.le_trans bw3.size (by simp)))⟩
set_option maxHeartbeats 400000 in
theorem crcSums_walk (A0 : Option Addr) (n0 c0 : Nat) (b0 : List Nat) (m0 : n0 ≤ c0 ∧ c0 ≤ 9223372036854775807) {w : World} (o0 : Bytes w w.heap.size A0 n0 b0) (A1 : Option Addr) (n1 c1 : Nat) (b1 : List Nat) (m1 : n1 ≤ c1 ∧ c1 ≤ 9223372036854775807) (o1 : Bytes w w.heap.size A1 n1 b1) (hT : Tab w) :
    Calls Tryd.prog 3 #[.slice A0 n0 c0, .slice A1 n1 c1] w fun e w' => e = .returned (.bool true) ∧ Below w.heap.size w w' := by
  obtain ⟨m0a, m0b⟩ := m0
  obtain ⟨m1a, m1b⟩ := m1
  by_cases k0 : n0 ≤ 5000
  · by_cases k1 : n1 ≤ 5000
    · exact sums_in A0 n0 c0 b0 A1 n1 c1 b1 w o0 o1 hT k0 k1
    · have HT := Lib.hid hT
      clear hT
      go_enter Tryd.func3, Tryd.ntmps3
      go_wp2_with (go_at_call 8; refine (alive_any _ HT.out).mono ?_; rintro e wa ⟨rfl, ba⟩)
      go_ret
      exact ⟨rfl, ba⟩
  · have HT := Lib.hid hT
    clear hT
    go_enter Tryd.func3, Tryd.ntmps3
    go_wp2_with (go_at_call 8; refine (alive_any _ HT.out).mono ?_; rintro e wa ⟨rfl, ba⟩)
    go_ret
    exact ⟨rfl, ba⟩
end Go.Proofs.YtmedfcjafhpdfaaDoor
