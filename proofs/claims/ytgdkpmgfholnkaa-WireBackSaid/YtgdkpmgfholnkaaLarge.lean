/-
  What large answers of a list of values. No condition but the sizes that a machine sets.
-/
import Derived.Test.YtgdkpmgfholnkaaVal
import Derived.Test.YtgdkpmgfholnkaaBadW
namespace Go.Proofs.Ytgdkpmgfholnkaa
open Go.RowKit
set_option linter.unusedSimpArgs false
set_option linter.unusedVariables false
theorem take_snoc_any {α : Type} {l : List α} {k : Nat} {x : α} (h : l[k]? = some x) : l.take (k + 1) = l.take k ++ [x] := by
  rw [List.take_add_one, h]; rfl
theorem large_any (A : Option Addr) (m c : Nat) (os : List ValV) (B : Nat) (w : World) (h : VCells w B A m os) (hm : m ≤ 9223372036854775807) (hk : ∀ o ∈ os, o.b.length ≤ 9223372036854775807 ∧ o.l.length ≤ 9223372036854775807) :
    Calls Try.prog 13 #[.slice A m c] w fun e w' => ∃ r, e = .returned (.bool r) ∧ Below w.heap.size w w' ∧ (r = false → m ≤ 41 ∧ ∀ o ∈ os, o.b.length ≤ 300 ∧ o.l.length ≤ 50) := by
  have hz := val_zero
  have hl := h.len
  have hK := Lib.hid hk
  have H := Lib.hid h
  clear h hk
  go_enter Try.func13, Try.ntmps13
  go_wp2
  go_loopw [7] (fun i wr => ∃ k : Nat, k ≤ m ∧ k ≤ 41 ∧ i = .int .i64 k ∧ Below w.heap.size w wr ∧ ∀ o ∈ os.take k, o.b.length ≤ 300 ∧ o.l.length ≤ 50) (fun i _ => m - (intOf i).toNat)
  case atStart => exact ⟨0, by omega, by omega, rfl, Below.refl _ _, by simp⟩
  case round =>
    obtain ⟨k, hk, hk2, rfl, hb, hall⟩ := hrel
    by_cases hlt : k < m
    · obtain ⟨ad, o, rfl, ho, hc⟩ := (show VCells wr B A m os from Reads.since H.out hb).get hlt
      have Ho := Lib.hid ho
      have Hall := Lib.hid hall
      have hos := hK.out o (List.mem_of_getElem? ho)
      have hos1 := hos.1
      have hos2 := hos.2
      clear hall ho hos
      have hu := Try.underlying46
      have hi : (Try.prog.info? 46).map (·.size) = some o.cs.length := val_size
      have B0 := Blk.new wr 46 o.cs.toArray
      have b2 : (wr.alloc (.cells o.cs.toArray 46)).cell? ⟨wr.heap.size, 2, none⟩ = some (.slice o.A o.b.length o.c) := by rw [B0.cell]; rfl
      have b3 : (wr.alloc (.cells o.cs.toArray 46)).cell? ⟨wr.heap.size, 3, none⟩ = some (.slice o.A2 o.l.length o.c2) := by rw [B0.cell]; rfl
      by_cases h40 : k ≤ 40
      · have hd1 : decide (40 < (k : Int)) = false := decide_eq_false (by omega)
        by_cases h300 : o.b.length ≤ 300
        · have hd2 : decide (300 < (o.b.length : Int)) = false := decide_eq_false (by omega)
          by_cases h50 : o.l.length ≤ 50
          · have hd3 : decide (50 < (o.l.length : Int)) = false := decide_eq_false (by omega)
            go_wp2_with (first
              | (refine wpList_load_at rfl 46 (.tmp 10) rfl _ rfl o.cs _ hc hu rfl hi ?_)
              | (refine wpList_store_newN rfl 46 (.tmp 4) (.tmp 11) rfl wr.heap.size rfl o.cs _ rfl rfl hi rfl o.one ?_))
            go_roundw
            case rel =>
              refine ⟨k + 1, by omega, by omega, by go_num, hb.alloc hb.size _, fun o' ho' => ?_⟩
              rw [take_snoc_any Ho.out] at ho'
              rcases List.mem_append.1 ho' with h' | h'
              · exact Hall.out o' h'
              · obtain rfl := List.mem_singleton.1 h'
                exact ⟨h300, h50⟩
            case measure => simp [intOf]; omega
          · have hd3 : decide (50 < (o.l.length : Int)) = true := decide_eq_true (by omega)
            go_wp2_with (first
              | (refine wpList_load_at rfl 46 (.tmp 10) rfl _ rfl o.cs _ hc hu rfl hi ?_)
              | (refine wpList_store_newN rfl 46 (.tmp 4) (.tmp 11) rfl wr.heap.size rfl o.cs _ rfl rfl hi rfl o.one ?_))
            go_ret
            exact ⟨true, rfl, hb.alloc hb.size _, by simp⟩
        · have hd2 : decide (300 < (o.b.length : Int)) = true := decide_eq_true (by omega)
          go_wp2_with (first
            | (refine wpList_load_at rfl 46 (.tmp 10) rfl _ rfl o.cs _ hc hu rfl hi ?_)
            | (refine wpList_store_newN rfl 46 (.tmp 4) (.tmp 11) rfl wr.heap.size rfl o.cs _ rfl rfl hi rfl o.one ?_))
          go_ret
          exact ⟨true, rfl, hb.alloc hb.size _, by simp⟩
      · have hd1 : decide (40 < (k : Int)) = true := decide_eq_true (by omega)
        go_wp2_with (first
          | (refine wpList_load_at rfl 46 (.tmp 10) rfl _ rfl o.cs _ hc hu rfl hi ?_)
          | (refine wpList_store_newN rfl 46 (.tmp 4) (.tmp 11) rfl wr.heap.size rfl o.cs _ rfl rfl hi rfl o.one ?_))
        go_ret
        exact ⟨true, rfl, hb.alloc hb.size _, by simp⟩
    · go_wp2
      go_ret
      exact ⟨false, rfl, hb, fun _ => ⟨by omega, fun o ho => hall o (by rw [List.take_of_length_le (by omega)]; exact ho)⟩⟩
end Go.Proofs.Ytgdkpmgfholnkaa
