/-
  The document's Frozen and Scan. Conditions: the rows read as bytes and flags, of no more than ten thousand.
-/
import Derived.Test.YtapbjaeimnafcaaKi
import Derived.Test.YtapbjaeimnafcaaKe
namespace Go.Proofs.Ytapbjaeimnafcaa
open Go.RowKit
set_option linter.unusedSimpArgs false
set_option maxRecDepth 100000
set_option linter.unusedVariables false
theorem frozenM_snoc {bs : List Nat} {k b : Nat} (h : bs[k]? = some b) : frozenM (bs.take (k + 1)) = frozenM (bs.take k) ++ [frz b] := by
  rw [take_snoc h, frozenM, frozenM, List.map_append]
  rfl
theorem frozenM_len (bs : List Nat) : (frozenM bs).length = bs.length := by simp [frozenM]
theorem dfrozen_any (A : Option Addr) (n c : Nat) (bs : List Nat) (w : World) (hn : n ≤ 10000) (h : Bytes w w.heap.size A n bs) :
    Calls Try.prog 26 #[.slice A n c] w fun e w' => ∃ v, e = .returned v ∧ OwnB w w' v (frozenM bs) := by
  have hl := h.len
  have H := Lib.hid h
  clear h
  go_enter Try.func26, Try.ntmps26
  go_wp2
  go_loopw [3, 4] (fun v i wr => ∃ j : Nat, j ≤ n ∧ i = .int .i64 j ∧ OwnB w wr v (frozenM (bs.take j))) (fun _ i _ => n - (intOf i).toNat)
  case atStart => exact ⟨0, by omega, rfl, by simpa [frozenM] using Own.nil _ _, Below.refl _ _⟩
  case round =>
    obtain ⟨j, hj, rfl, ho⟩ := hrel
    have HO := Lib.hid ho
    clear ho
    by_cases hjk : j < n
    · obtain ⟨ad, b, rfl, hb, hb2, hc⟩ := (H.out.below HO.out.2).at_ hjk
      have HS := Lib.hid (frozenM_snoc hb)
      have hln : (frozenM (bs.take j)).length = j := by rw [frozenM_len, List.length_take]; omega
      have HF : Hid (frz b < 256) := Lib.hid (by unfold frz; split <;> omega)
      have hsz := HO.out.2.size
      clear hb
      by_cases h1 : b = 1
      · subst h1
        have HW := Lib.hid (fun t f => World.ownsRow.alloc HO.out.1 (.cells #[.int .u8 (3 : Int)] t f))
        go_wp2_with (refine app_bytes (.tmp 18) (.tmp 20) rfl rfl w.heap.size _ _ _ rfl (HW.out _ _) _ _ 1 1 [3] rfl (Bytes.new wr [3] _ _ (by decide)) (by rw [hln]; omega) (by simp; omega) ?_
                     intro v5 w5 h5 g5 a5
                     have HV := Lib.hid (HO.out.one h5 g5)
                     clear h5 g5)
        go_roundw
        case rel => exact ⟨j + 1, by omega, by go_num, by rw [HS.out]; exact HV.out⟩
        case measure => simp [intOf]; omega
      · have hd : ((b : Int) == 1) = false := by simp; omega
        have e : frz b = b := by unfold frz; rw [if_neg h1]
        rw [e] at HS
        have HW := Lib.hid (fun t f => World.ownsRow.alloc HO.out.1 (.cells #[.int .u8 (b : Int)] t f))
        clear e
        go_wp2_with (refine app_bytes (.tmp 18) (.tmp 20) rfl rfl w.heap.size _ _ _ rfl (HW.out _ _) _ _ 1 1 [b] rfl (Bytes.new wr [b] _ _ (by intro x hx; simp at hx; subst hx; exact hb2)) (by rw [hln]; omega) (by simp; omega) ?_
                     intro v5 w5 h5 g5 a5
                     have HV := Lib.hid (HO.out.one h5 g5)
                     clear h5 g5)
        go_roundw
        case rel => exact ⟨j + 1, by omega, by go_num, by rw [HS.out]; exact HV.out⟩
        case measure => simp [intOf]; omega
    · obtain rfl : j = n := by omega
      rw [← hl, List.take_length] at HO
      go_wp2
      go_ret
      exact ⟨_, rfl, HO.out⟩
theorem dscan_any (A A' : Option Addr) (n n' c c' : Nat) (l l' : List Bool) (w : World) (hn : n ≤ 10000) (hn' : n' ≤ 10000) (hf : Flags w w.heap.size A n l) (hf' : Flags w w.heap.size A' n' l') :
    Calls Try.prog 31 #[.slice A n c, .slice A' n' c'] w fun e w' => ∃ v, e = .returned v ∧ OwnB w w' v (scanTo l l' n) := by
  have hl := hf.len
  have hl' := hf'.len
  have HF := Lib.hid (And.intro hf hf')
  clear hf hf'
  go_enter Try.func31, Try.ntmps31
  go_wp2
  go_loopw [5, 6] (fun v i wr => ∃ j : Nat, j ≤ n ∧ i = .int .i64 j ∧ OwnB w wr v (scanTo l l' j)) (fun _ i _ => n - (intOf i).toNat)
  case atStart => exact ⟨0, by omega, rfl, Own.nil _ _, Below.refl _ _⟩
  case round =>
    obtain ⟨j, hj, rfl, ho⟩ := hrel
    have HO := Lib.hid ho
    clear ho
    by_cases hjk : j < n
    · obtain ⟨ad, x, rfl, hx, hc⟩ := (HF.out.1.below HO.out.2).at_ hjk
      have hsb : scanB l l' j = if x then (if fl l' j then 3 else 1) else 0 := by unfold scanB; rw [fl_at hx]
      have HSB := Lib.hid hsb
      have HS := Lib.hid (scanTo_snoc l l' j)
      have hln := scanTo_len l l' j
      have hsz := HO.out.2.size
      have HW := Lib.hid (fun (z : Int) t f => World.ownsRow.alloc HO.out.1 (.cells #[.int .u8 z] t f))
      have HF2 := Lib.hid (HF.out.2.below HO.out.2)
      clear hx hsb
      cases x with
      | false =>
        go_wp2_with (refine app_bytes (.tmp 28) (.tmp 30) rfl rfl w.heap.size _ _ _ rfl (HW.out _ _ _) _ _ 1 1 [0] rfl (Bytes.new wr [0] _ _ (by decide)) (by rw [hln]; omega) (by simp; omega) ?_
                     intro v5 w5 h5 g5 a5
                     have HV := Lib.hid (HO.out.one h5 g5)
                     clear h5 g5)
        go_roundw
        case rel => exact ⟨j + 1, by omega, by go_num, by rw [HS.out, HSB.out]; exact HV.out⟩
        case measure => simp [intOf]; omega
      | true =>
        by_cases hl2 : j < n'
        · have hd : decide ((j : Int) < (n' : Int)) = true := decide_eq_true (by omega)
          obtain ⟨ad', x', rfl, hx', hc'⟩ := HF2.out.at_ hl2
          have HX := Lib.hid (fl_at hx')
          clear hx'
          cases x' with
          | false =>
            go_wp2_with (refine app_bytes (.tmp 28) (.tmp 30) rfl rfl w.heap.size _ _ _ rfl (HW.out _ _ _) _ _ 1 1 [1] rfl (Bytes.new wr [1] _ _ (by decide)) (by rw [hln]; omega) (by simp; omega) ?_
                         intro v5 w5 h5 g5 a5
                         have HV := Lib.hid (HO.out.one h5 g5)
                         clear h5 g5)
            go_roundw
            case rel => exact ⟨j + 1, by omega, by go_num, by rw [HS.out, HSB.out, HX.out]; exact HV.out⟩
            case measure => simp [intOf]; omega
          | true =>
            go_wp2_with (refine app_bytes (.tmp 28) (.tmp 30) rfl rfl w.heap.size _ _ _ rfl (HW.out _ _ _) _ _ 1 1 [3] rfl (Bytes.new wr [3] _ _ (by decide)) (by rw [hln]; omega) (by simp; omega) ?_
                         intro v5 w5 h5 g5 a5
                         have HV := Lib.hid (HO.out.one h5 g5)
                         clear h5 g5)
            go_roundw
            case rel => exact ⟨j + 1, by omega, by go_num, by rw [HS.out, HSB.out, HX.out]; exact HV.out⟩
            case measure => simp [intOf]; omega
        · have hd : decide ((j : Int) < (n' : Int)) = false := decide_eq_false (by omega)
          have HX : Hid (fl l' j = false) := Lib.hid (fl_over (by omega))
          go_wp2_with (refine app_bytes (.tmp 28) (.tmp 30) rfl rfl w.heap.size _ _ _ rfl (HW.out _ _ _) _ _ 1 1 [1] rfl (Bytes.new wr [1] _ _ (by decide)) (by rw [hln]; omega) (by simp; omega) ?_
                       intro v5 w5 h5 g5 a5
                       have HV := Lib.hid (HO.out.one h5 g5)
                       clear h5 g5)
          go_roundw
          case rel => exact ⟨j + 1, by omega, by go_num, by rw [HS.out, HSB.out, HX.out]; exact HV.out⟩
          case measure => simp [intOf]; omega
    · obtain rfl : j = n := by omega
      go_wp2
      go_ret
      exact ⟨_, rfl, HO.out⟩
end Go.Proofs.Ytapbjaeimnafcaa
