/-
  The document's Good, Mark, Sized, Frozen, Changed and Scan. Conditions: the rows read as bytes and flags, of no more than ten thousand.
-/
import Derived.Test.YtldnghmgdmjljaaKc
namespace Go.Proofs.Ytldnghmgdmjljaa
open Go.RowKit
set_option linter.unusedSimpArgs false
set_option maxRecDepth 100000
set_option linter.unusedVariables false
theorem dgood_any (A : Option Addr) (n c B : Nat) (bs : List Nat) (w : World) (hn : n ≤ 1000000) (h : Bytes w B A n bs) :
    Calls Try.prog 77 #[.slice A n c] w fun e w' => e = .returned (.bool (decide (Good bs))) ∧ w = w' := by
  have hl := h.len
  have H := Lib.hid h
  clear h
  by_cases h1 : n ≤ 256
  · have hd : decide ((256 : Int) < (n : Int)) = false := decide_eq_false (by omega)
    go_enter Try.func77, Try.ntmps77
    go_wp2
    go_loopw [3] (fun i wr => ∃ k : Nat, k ≤ n ∧ i = .int .i64 k ∧ wr = w ∧ ∀ j b, j < k → bs[j]? = some b → b ≤ 3) (fun i _ => n - (intOf i).toNat)
    case atStart => exact ⟨0, by omega, rfl, by trivial, fun j b h => by omega⟩
    case round =>
      obtain ⟨k, hk, rfl, rfl, hall⟩ := hrel
      have HA := Lib.hid hall
      clear hall
      by_cases hlt : k < n
      · obtain ⟨ad, b, rfl, hb, hb2, hc⟩ := H.out.at_ hlt
        have HB := Lib.hid hb
        clear hb
        by_cases hok : b ≤ 3
        · have hd2 : decide ((3 : Int) < (b : Int)) = false := decide_eq_false (by omega)
          go_wp2
          go_roundw
          case rel => exact ⟨k + 1, by omega, by go_num, by trivial, fun j b' hj hb' => by
            rcases Nat.lt_succ_iff_lt_or_eq.1 hj with h | rfl
            · exact HA.out j b' h hb'
            · rw [HB.out] at hb'; injection hb' with hb'; subst hb'; exact hok⟩
          case measure => simp [intOf]; omega
        · have hd2 : decide ((3 : Int) < (b : Int)) = true := decide_eq_true (by omega)
          have HG : Hid (decide (Good bs) = false) := Lib.hid (decide_eq_false (fun hg => hok (hg.2 b (List.mem_of_getElem? HB.out))))
          go_wp2
          go_ret
          exact ⟨by rw [HG.out]; rfl, rfl⟩
      · obtain rfl : k = n := by omega
        have HG : Hid (decide (Good bs) = true) := Lib.hid (decide_eq_true ⟨by omega, fun x hx => by
          obtain ⟨j, hj, rfl⟩ := List.mem_iff_getElem.1 hx
          exact HA.out j _ (by omega) (List.getElem?_eq_getElem hj)⟩)
        go_wp2
        go_ret
        exact ⟨by rw [HG.out]; rfl, rfl⟩
  · have hd : decide ((256 : Int) < (n : Int)) = true := decide_eq_true (by omega)
    have HG : Hid (decide (Good bs) = false) := Lib.hid (decide_eq_false (fun hg => by have := hg.1; omega))
    go_enter Try.func77, Try.ntmps77
    go_wp2
    go_ret
    exact ⟨by rw [HG.out]; rfl, rfl⟩
/-- bytes of the call's own, and what was there stands -/
def OwnB (w w' : World) (v : Value) (bs : List Nat) : Prop := Own w' w.heap.size v bs.length bs ∧ Below w.heap.size w w'
theorem OwnB.one {w w1 w2 : World} {v v2 : Value} {bs : List Nat} {b : Nat} {t : TypeId} {f : Nat × Nat} {cs : Array Value} (h : OwnB w w1 v bs) (h5 : Own w2 w.heap.size v2 (bs.length + 1) (bs ++ [b])) (hg : (w1.alloc (.cells cs t f)).grownBy w2 v.ownBlock) : OwnB w w2 v2 (bs ++ [b]) := by
  have hb := h.2.alloc h.2.size (.cells cs t f)
  refine ⟨by rw [List.length_append]; exact h5, hb.grown hg hb.size (fun b hb' => by have := (World.ownsRow.lt h.1 b hb').1; omega)⟩
end Go.Proofs.Ytldnghmgdmjljaa
