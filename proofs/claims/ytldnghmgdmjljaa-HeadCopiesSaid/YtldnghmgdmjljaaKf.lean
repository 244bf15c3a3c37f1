/-
  What good, textSize and place of marks return. Conditions: the row reads as bytes, of no more than ten thousand.
-/
import Derived.Test.YtldnghmgdmjljaaKc
namespace Go.Proofs.Ytldnghmgdmjljaa
open Go.RowKit
set_option linter.unusedSimpArgs false
set_option maxRecDepth 100000
set_option linter.unusedVariables false
def okMark (b : Nat) : Bool := decide (b ≤ 3)
theorem odd_any (b : Nat) (w : World) : Calls Try.prog 105 #[.int .u8 (b : Int)] w fun e w' => e = .returned (.bool (!okMark b)) ∧ w = w' := by
  unfold okMark
  by_cases h1 : b ≤ 3
  · have hd1 : decide ((3 : Int) < (b : Int)) = false := decide_eq_false (by omega)
    have hd2 : decide (b ≤ 3) = true := decide_eq_true h1
    rw [hd2]
    go_enter Try.func105, Try.ntmps105
    go_wp2
    go_ret
    exact ⟨by trivial, rfl⟩
  · have hd1 : decide ((3 : Int) < (b : Int)) = true := decide_eq_true (by omega)
    have hd2 : decide (b ≤ 3) = false := decide_eq_false h1
    rw [hd2]
    go_enter Try.func105, Try.ntmps105
    go_wp2
    go_ret
    exact ⟨by trivial, rfl⟩
def oddV : Value := .func (.func 105) #[] #[]
set_option maxHeartbeats 2000000 in
theorem index_odd {w : World} {B n c : Nat} {A : Option Addr} {bs : List Nat} (h : Bytes w B A n bs) (hl : n ≤ 65536) :
    Calls Try.prog 108 #[.slice A n c, oddV] w fun e w' => (∃ v : Int, e = .returned (.int .i64 v) ∧ ((v = -1 ∧ bs.all okMark = true) ∨ (0 ≤ v ∧ bs.all okMark = false))) ∧ w = w' := by
  have H := Lib.hid h
  have hlen := h.len
  clear h
  go_enter Try.func108, Try.ntmps108
  unfold oddV
  go_wp2
  go_loopw [8] (fun i wr => ∃ k : Nat, k ≤ n ∧ i = .int .i64 k ∧ wr = w ∧ ∀ j b, j < k → bs[j]? = some b → okMark b = true) (fun i _ => n - (intOf i).toNat)
  case atStart => exact ⟨0, by omega, rfl, by trivial, fun j b h => by omega⟩
  case round =>
    obtain ⟨k, hk, rfl, rfl, hall⟩ := hrel
    have HA := Lib.hid hall
    clear hall
    by_cases hlt : k < n
    · obtain ⟨ad, b, rfl, hb, hb2, hc⟩ := H.out.at_ hlt
      have HB := Lib.hid hb
      have HO := Lib.hid (odd_any b wr)
      have hwk : IntKind.i64.wrap ((k : Int) + 1) = (k : Int) + 1 := by rw [IntKind.wrap_i64]; omega
      clear hb
      go_wp2_with fail
      refine HO.out.mono ?_
      rintro e w' ⟨rfl, rfl⟩
      clear HO
      by_cases hok : okMark b = true
      · have HOK := Lib.hid hok
        rw [hok]
        clear hok
        go_wp2
        go_roundw
        case rel => exact ⟨k + 1, by omega, by go_num, by trivial, fun j b' hj hb' => by
          rcases Nat.lt_succ_iff_lt_or_eq.1 hj with h | rfl
          · exact HA.out j b' h hb'
          · rw [HB.out] at hb'; injection hb' with hb'; subst hb'; exact HOK.out⟩
        case measure => simp [intOf]; omega
      · have hok' : okMark b = false := by simpa using hok
        have HOK := Lib.hid hok'
        rw [hok']
        clear hok hok'
        go_wp2
        go_ret
        refine ⟨⟨_, rfl, .inr ⟨by omega, ?_⟩⟩, rfl⟩
        rw [List.all_eq_false]
        exact ⟨b, List.mem_of_getElem? HB.out, by rw [HOK.out]; simp⟩
    · obtain rfl : k = n := by omega
      go_wp2
      go_ret
      refine ⟨⟨_, rfl, .inl ⟨rfl, ?_⟩⟩, rfl⟩
      rw [List.all_eq_true]
      intro b hb
      obtain ⟨j, hj, rfl⟩ := List.mem_iff_getElem.1 hb
      exact HA.out j _ (by omega) (List.getElem?_eq_getElem hj)
theorem contains_odd {w : World} {B n c : Nat} {A : Option Addr} {bs : List Nat} (h : Bytes w B A n bs) (hl : n ≤ 65536) :
    Calls Try.prog 104 #[.slice A n c, oddV] w fun e w' => e = .returned (.bool (!bs.all okMark)) ∧ w = w' := by
  have HI := Lib.hid (index_odd (c := c) h hl)
  clear h
  go_enter Try.func104, Try.ntmps104
  go_wp2_with fail
  refine HI.out.mono ?_
  rintro e w' ⟨⟨v, rfl, hv⟩, rfl⟩
  rcases hv with ⟨rfl, hv⟩ | ⟨hv0, hv⟩
  · have HV := Lib.hid hv
    clear hv
    go_wp2
    go_ret
    exact ⟨by rw [HV.out]; rfl, rfl⟩
  · have HV := Lib.hid hv
    have hd : decide ((0 : Int) ≤ v) = true := decide_eq_true hv0
    clear hv
    go_wp2
    go_ret
    exact ⟨by rw [HV.out]; rfl, rfl⟩
theorem all_ok (bs : List Nat) : (bs.all okMark = true) ↔ ∀ x ∈ bs, x ≤ 3 := by simp [okMark]
theorem good_any (A : Option Addr) (n c B : Nat) (bs : List Nat) (w : World) (hn : n ≤ 10000) (h : Bytes w B A n bs) :
    Calls Try.prog 93 #[.slice A n c] w fun e w' => e = .returned (.bool (decide (Good bs))) ∧ w = w' := by
  have hl := h.len
  have HC := Lib.hid (contains_odd (c := c) h (by omega))
  clear h
  unfold oddV at HC
  by_cases h1 : n ≤ 256
  · have hd : decide ((n : Int) ≤ 256) = true := decide_eq_true (by omega)
    go_enter Try.func93, Try.ntmps93
    go_wp2_with fail
    refine HC.out.mono ?_
    rintro e w' ⟨rfl, rfl⟩
    by_cases hok : bs.all okMark = true
    · have HG : Hid (decide (Good bs) = true) := Lib.hid (decide_eq_true ⟨by omega, (all_ok bs).1 hok⟩)
      rw [hok]
      clear hok
      go_wp2
      go_ret
      exact ⟨by rw [HG.out]; rfl, rfl⟩
    · have hok' : bs.all okMark = false := by simpa using hok
      have HG : Hid (decide (Good bs) = false) := Lib.hid (decide_eq_false (fun hg => hok ((all_ok bs).2 hg.2)))
      rw [hok']
      clear hok hok'
      go_wp2
      go_ret
      exact ⟨by rw [HG.out]; rfl, rfl⟩
  · have hd : decide ((n : Int) ≤ 256) = false := decide_eq_false (by omega)
    have HG : Hid (decide (Good bs) = false) := Lib.hid (decide_eq_false (fun hg => by have := hg.1; omega))
    go_enter Try.func93, Try.ntmps93
    go_wp2
    go_ret
    exact ⟨by rw [HG.out]; rfl, rfl⟩
theorem size_any (n : Nat) (w : World) (hn : n ≤ 1000000) : Calls Try.prog 94 #[.int .i64 n] w fun e w' => e = .returned (.int .i64 ((2 + (n + 3) / 4 : Nat) : Int)) ∧ w = w' := by
  go_enter Try.func94, Try.ntmps94
  go_wp2
  go_ret
  exact ⟨ret_int (by omega), rfl⟩
theorem ret_two {a b c d : Int} (h : a = c) (h' : b = d) : Ending.returned (.tuple #[.int .i64 a, .int .i64 b]) = Ending.returned (.tuple #[.int .i64 c, .int .i64 d]) := by rw [h, h']
theorem place_any (i : Nat) (w : World) (hi : i ≤ 1000000) : Calls Try.prog 95 #[.int .i64 i] w fun e w' => e = .returned (.tuple #[.int .i64 ((2 + i / 4 : Nat) : Int), .int .i64 ((2 * (i % 4) : Nat) : Int)]) ∧ w = w' := by
  have hp : Calls Try.prog 95 #[.int .i64 i] w fun e w' => e = .returned (.tuple #[.int .i64 (2 + (i : Int) / 4), .int .i64 ((i : Int) % 4 * 2)]) ∧ w = w' := by
    go_enter Try.func95, Try.ntmps95
    go_wp2
    go_ret2
    exact ⟨rfl, rfl⟩
  refine hp.mono ?_
  rintro e w' ⟨rfl, rfl⟩
  exact ⟨ret_two (by omega) (by omega), rfl⟩
end Go.Proofs.Ytldnghmgdmjljaa
