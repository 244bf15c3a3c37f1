/-
  What New, at, like, Set and Sized of marks return. Conditions: the rows read as bytes, of no more than nine million.
-/
import Derived.Test.YtldnghmgdmjljaaKa
import Derived.Test.YtldnghmgdmjljaaKb
import Derived.Test.YtldnghmgdmjljaaWr
import Derived.Laws.CopyOwn
namespace Go.Proofs.Ytldnghmgdmjljaa
open Go.RowKit
set_option linter.unusedSimpArgs false
set_option maxRecDepth 100000
set_option linter.unusedVariables false
theorem Own.of_blk {w : World} {base g n : Nat} {bs : List Nat} (h : Blk w g 5 (u8s bs).toArray) (hl : bs.length = n) (hb : base ≤ g) (hn : n ≤ 9000000) : Own w base (.slice (some ⟨g, 0, none⟩) n n) n bs :=
  ⟨by rw [u8s_length]; omega, .inr ⟨g, n, _, rfl, hb, h, Nat.le_refl _, by simp [maxLen]; omega, by simp [u8s_length, hl], by rw [List.take_of_length_le (by simp [u8s_length, hl])]⟩⟩
theorem Blk.bytes {w : World} {g n : Nat} {bs : List Nat} (h : Blk w g 5 (u8s bs).toArray) (hl : bs.length = n) (hb : ∀ b ∈ bs, b < 256) : Bytes w w.heap.size (some ⟨g, 0, none⟩) n bs :=
  ⟨⟨by rw [u8s_length]; omega, fun _ => ⟨_, rfl, h.lt, fun j u hu => by
    rw [add_zero_off, h.cell]
    simpa using hu⟩⟩, hb⟩
theorem Blk.cell8 {w : World} {g k b : Nat} {bs : List Nat} (h : Blk w g 5 (u8s bs).toArray) (hk : bs[k]? = some b) : w.cell? ⟨g, k, none⟩ = some (.int .u8 (b : Int)) := by
  rw [h.cell]
  simp [u8s, u8, hk]
theorem Blk.set8 {w : World} {g : Nat} {bs : List Nat} (h : Blk w g 5 (u8s bs).toArray) (k b : Nat) : Blk (w.setCell ⟨g, k, none⟩ (.int .u8 (b : Int))) g 5 (u8s (bs.set k b)).toArray := by
  have := h.set_ k (.int .u8 (b : Int))
  rw [List.setIfInBounds_toArray] at this
  rwa [u8s, List.map_set]
theorem noughts (k : Nat) : u8s (List.replicate k 0) = List.replicate k (Value.int .u8 0) := by simp [u8s, u8]
theorem make_marks (q : Nat) (hq : q ≤ 9000000) (w : World) : (Instr.makeSlice 33 (.int .i64 q) (.int .i64 q)).run Try.prog w = .ok (.slice (some ⟨w.heap.size, 0, none⟩) q q) (w.alloc (.cells (u8s (List.replicate q 0)).toArray 5)) := by
  obtain ⟨i0, hi0, hz0, hz1, hz2⟩ := info_parts byte_info
  have := run_make (P := Try.prog) w 33 5 i0 (.int .u8 0) Try.underlying33 hi0 hz0 .i64 .i64 q q (by omega) (by omega) (by rw [hz2]; omega) (by omega)
  rw [hz1] at this
  simp only [Int.toNat_natCast, Nat.mul_one] at this
  rw [this, noughts]
  have e : (Value.int .u8 0).cells = (List.replicate 1 (Value.int .u8 0)).toArray := rfl
  rw [e, made_same 1 q _ (by omega)]
theorem make_b (q : Nat) (hq : q ≤ 9000000) (w : World) : (Instr.makeSlice 23 (.int .i64 q) (.int .i64 q)).run Try.prog w = .ok (.slice (some ⟨w.heap.size, 0, none⟩) q q) (w.alloc (.cells (u8s (List.replicate q 0)).toArray 5)) := by
  obtain ⟨i0, hi0, hz0, hz1, hz2⟩ := info_parts byte_info
  have := run_make (P := Try.prog) w 23 5 i0 (.int .u8 0) Try.underlying23 hi0 hz0 .i64 .i64 q q (by omega) (by omega) (by rw [hz2]; omega) (by omega)
  rw [hz1] at this
  simp only [Int.toNat_natCast, Nat.mul_one] at this
  rw [this, noughts]
  have e : (Value.int .u8 0).cells = (List.replicate 1 (Value.int .u8 0)).toArray := rfl
  rw [e, made_same 1 q _ (by omega)]
theorem new_ok (k : Nat) (hk : k ≤ 256) (w : World) : Calls Try.prog 107 #[.int .i64 k] w fun e w' => e = .returned (.tuple #[.slice (some ⟨w.heap.size, 0, none⟩) k k, .nilIface]) ∧ w' = w.alloc (.cells (u8s (List.replicate k 0)).toArray 5) := by
  have hmk := make_marks k (by omega)
  have hd : decide ((256 : Int) < (k : Int)) = false := decide_eq_false (by omega)
  have hd0 : decide ((k : Int) < 0) = false := decide_eq_false (by omega)
  go_enter Try.func107, Try.ntmps107
  go_wp2
  go_ret2
  exact ⟨rfl, rfl⟩
theorem new_bad (n : Int) (hn : n < 0 ∨ 256 < n) (w : World) : Calls Try.prog 107 #[.int .i64 n] w fun e w' => e = .returned (.tuple #[.slice none 0 0, errV 1]) ∧ w = w' := by
  by_cases h0 : n < 0
  · have hd0 : decide (n < (0 : Int)) = true := decide_eq_true h0
    go_enter Try.func107, Try.ntmps107
    go_wp2
    go_ret2
    exact ⟨rfl, rfl⟩
  · have hd0 : decide (n < (0 : Int)) = false := decide_eq_false h0
    have hd1 : decide ((256 : Int) < n) = true := decide_eq_true (by omega)
    go_enter Try.func107, Try.ntmps107
    go_wp2
    go_ret2
    exact ⟨rfl, rfl⟩
theorem u8_size : (Try.prog.info? 5).map (·.size) = some 1 := by kernel_rfl
theorem splice_all {α : Type} (cs Z : List α) (h : cs.length = Z.length) : splice Z 0 cs = cs := by
  simp [splice, h]
theorem sized_at (bs : List Nat) (k j : Nat) (h : j < k) : (sizedM bs k)[j]? = some (mk bs j) := by simp [sizedM, h]
theorem splice_sized (bs : List Nat) (k : Nat) : splice (u8s (List.replicate k 0)) 0 (u8s (bs.take k)) = u8s (sizedM bs k) := by
  apply List.ext_getElem?
  intro j
  unfold splice
  simp only [List.take_zero, List.nil_append, Nat.zero_add, u8s_length]
  by_cases hj : j < (bs.take k).length
  · rw [List.getElem?_append_left (by rw [u8s_length]; exact hj)]
    have h1 : j < k := by rw [List.length_take] at hj; omega
    have h2 : j < bs.length := by rw [List.length_take] at hj; omega
    rw [u8s, u8s, List.getElem?_map, List.getElem?_map, sized_at bs k j h1, List.getElem?_take, if_pos h1, List.getElem?_eq_getElem h2, mk_at (List.getElem?_eq_getElem h2)]
  · rw [List.getElem?_append_right (by rw [u8s_length]; omega), u8s_length, List.getElem?_drop, noughts, List.getElem?_replicate]
    rw [List.length_take] at hj ⊢
    by_cases h1 : j < k
    · rw [if_pos (by omega), u8s, List.getElem?_map, sized_at bs k j h1, mk_over (by omega)]
      rfl
    · rw [if_neg (by omega), List.getElem?_eq_none (by rw [u8s_length, sizedM_len]; omega)]
end Go.Proofs.Ytldnghmgdmjljaa
