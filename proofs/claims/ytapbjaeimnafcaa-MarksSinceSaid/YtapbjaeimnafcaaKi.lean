/-
  The document's Good, Mark, Sized, Frozen, Changed and Scan. Conditions: the rows read as bytes and flags, of no more than ten thousand.
-/
import Derived.Test.YtapbjaeimnafcaaKd
namespace Go.Proofs.Ytapbjaeimnafcaa
open Go.RowKit
set_option linter.unusedSimpArgs false
set_option maxRecDepth 100000
set_option linter.unusedVariables false
theorem dgood_any (A : Option Addr) (n c B : Nat) (bs : List Nat) (w : World) (hn : n ≤ 10000) (h : Bytes w B A n bs) :
    Calls Try.prog 13 #[.slice A n c] w fun e w' => e = .returned (.bool (decide (Good bs))) ∧ w = w' := by
  have hl := h.len
  have H := Lib.hid h
  clear h
  by_cases h1 : n ≤ 256
  · have hd : decide ((256 : Int) < (n : Int)) = false := decide_eq_false (by omega)
    go_enter Try.func13, Try.ntmps13
    go_wp2
    go_loopw [3] (fun i wr => ∃ k : Nat, k ≤ n ∧ i = .int .i64 k ∧ wr = w ∧ ∀ j b, j < k → bs[j]? = some b → b ≤ 3) (fun i _ => n - (intOf i).toNat)
    case atStart => exact ⟨0, by omega, rfl, by trivial, fun j b h => by omega⟩
    case round =>
      obtain ⟨k, hk, rfl, rfl, hall⟩ := hrel
      have HA := Lib.hid hall
      clear hall
      by_cases hlt : k < n
      · obtain ⟨ad, b, rfl, hb, hb2, hc⟩ := H.out.at_ hlt
        have HB := Lib.hid hb
        clear hb
        by_cases hok : b ≤ 3
        · have hd2 : decide ((3 : Int) < (b : Int)) = false := decide_eq_false (by omega)
          go_wp2
          go_roundw
          case rel => exact ⟨k + 1, by omega, by go_num, by trivial, fun j b' hj hb' => by
            rcases Nat.lt_succ_iff_lt_or_eq.1 hj with h | rfl
            · exact HA.out j b' h hb'
            · rw [HB.out] at hb'; injection hb' with hb'; subst hb'; exact hok⟩
          case measure => simp [intOf]; omega
        · have hd2 : decide ((3 : Int) < (b : Int)) = true := decide_eq_true (by omega)
          have HG : Hid (decide (Good bs) = false) := Lib.hid (decide_eq_false (fun hg => hok (hg.2 b (List.mem_of_getElem? HB.out))))
          go_wp2
          go_ret
          exact ⟨by rw [HG.out]; rfl, rfl⟩
      · obtain rfl : k = n := by omega
        have HG : Hid (decide (Good bs) = true) := Lib.hid (decide_eq_true ⟨by omega, fun x hx => by
          obtain ⟨j, hj, rfl⟩ := List.mem_iff_getElem.1 hx
          exact HA.out j _ (by omega) (List.getElem?_eq_getElem hj)⟩)
        go_wp2
        go_ret
        exact ⟨by rw [HG.out]; rfl, rfl⟩
  · have hd : decide ((256 : Int) < (n : Int)) = true := decide_eq_true (by omega)
    have HG : Hid (decide (Good bs) = false) := Lib.hid (decide_eq_false (fun hg => by have := hg.1; omega))
    go_enter Try.func13, Try.ntmps13
    go_wp2
    go_ret
    exact ⟨by rw [HG.out]; rfl, rfl⟩
theorem mark_any (A : Option Addr) (n c B i : Nat) (bs : List Nat) (w : World) (h : Bytes w B A n bs) (hi : i ≤ 9000000) : Calls Try.prog 30 #[.slice A n c, .int .i64 i] w fun e w' => e = .returned (.int .u8 (mk bs i : Nat)) ∧ w = w' := by
  by_cases hlt : i < n
  · have hd : decide ((i : Int) < (n : Int)) = true := decide_eq_true (by omega)
    obtain ⟨ad, b, rfl, hb, hb2, hc⟩ := h.at_ hlt
    have e1 : ((mk bs i : Nat) : Int) = (b : Int) := by rw [mk_at hb]
    have HE := Lib.hid e1
    clear e1 hb h
    go_enter Try.func30, Try.ntmps30
    go_wp2
    go_ret
    exact ⟨by rw [HE.out]; rfl, rfl⟩
  · have hd : decide ((i : Int) < (n : Int)) = false := decide_eq_false (by omega)
    have e1 : mk bs i = 0 := mk_over (by rw [h.len]; omega)
    rw [e1]
    clear h
    go_enter Try.func30, Try.ntmps30
    go_wp2
    go_ret
    exact ⟨rfl, rfl⟩
/-- bytes of the call's own, and what was there stands -/
def OwnB (w w' : World) (v : Value) (bs : List Nat) : Prop := Own w' w.heap.size v bs.length bs ∧ Below w.heap.size w w'
theorem OwnB.one {w w1 w2 : World} {v v2 : Value} {bs : List Nat} {b : Nat} {t : TypeId} {f : Nat × Nat} {cs : Array Value} (h : OwnB w w1 v bs) (h5 : Own w2 w.heap.size v2 (bs.length + 1) (bs ++ [b])) (hg : (w1.alloc (.cells cs t f)).grownBy w2 v.ownBlock) : OwnB w w2 v2 (bs ++ [b]) := by
  have hb := h.2.alloc h.2.size (.cells cs t f)
  refine ⟨by rw [List.length_append]; exact h5, hb.grown hg hb.size (fun b hb' => by have := (World.ownsRow.lt h.1 b hb').1; omega)⟩
theorem dsized_any (A : Option Addr) (n c k : Nat) (bs : List Nat) (w : World) (hk : k ≤ 10000) (h : Bytes w w.heap.size A n bs) (hlt : ∀ b ∈ bs, b < 256) :
    Calls Try.prog 23 #[.slice A n c, .int .i64 k] w fun e w' => ∃ v, e = .returned v ∧ OwnB w w' v (sizedM bs k) := by
  have H := Lib.hid h
  have HL := Lib.hid hlt
  clear h hlt
  go_enter Try.func23, Try.ntmps23
  go_wp2
  go_loopw [5, 6] (fun v i wr => ∃ j : Nat, j ≤ k ∧ i = .int .i64 j ∧ OwnB w wr v (sizedM bs j)) (fun _ i _ => k - (intOf i).toNat)
  case atStart => exact ⟨0, by omega, rfl, Own.nil _ _, Below.refl _ _⟩
  case round =>
    obtain ⟨j, hj, rfl, ho⟩ := hrel
    have HO := Lib.hid ho
    clear ho
    by_cases hjk : j < k
    · go_wp2_with fail
      refine (mark_any A n c w.heap.size j bs wr (H.out.below HO.out.2) (by omega)).mono ?_
      rintro e w2 ⟨he, hw⟩
      subst he
      subst hw
      have HS := Lib.hid (sizedM_snoc bs j)
      have HM := Lib.hid (mk_lt HL.out j)
      have hln := sizedM_len bs j
      generalize mk bs j = x at *
      have HW := Lib.hid (fun t f => World.ownsRow.alloc HO.out.1 (.cells #[.int .u8 (x : Int)] t f))
      have hsz := HO.out.2.size
      go_wp2_with (refine app_bytes (.tmp 12) (.tmp 16) rfl rfl w.heap.size _ _ _ rfl (HW.out _ _) _ _ 1 1 [x] rfl (Bytes.new wr [x] _ _ (by intro b hb; simp at hb; subst hb; exact HM.out)) (by rw [hln]; omega) (by simp; omega) ?_
                   intro v5 w5 h5 g5 a5
                   have HV := Lib.hid (HO.out.one h5 g5)
                   clear h5 g5)
      go_roundw
      case rel => exact ⟨j + 1, by omega, by go_num, by rw [HS.out]; exact HV.out⟩
      case measure => simp [intOf]; omega
    · obtain rfl : j = k := by omega
      go_wp2
      go_ret
      exact ⟨_, rfl, HO.out⟩
end Go.Proofs.Ytapbjaeimnafcaa
