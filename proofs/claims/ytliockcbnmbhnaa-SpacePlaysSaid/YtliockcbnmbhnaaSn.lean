/-
  Spaces: new ones. Conditions: their number is no greater than may be.
-/
import Derived.Test.YtliockcbnmbhnaaSf
import Derived.Laws.CopyOwn
import Derived.Laws.Bits64b
namespace Go.Proofs.Ytliockcbnmbhnaa
open Go.RowKit Go.BigFrame
set_option linter.unusedSimpArgs false
set_option linter.unusedVariables false
set_option maxHeartbeats 1000000 in
theorem mul64_one (n : Nat) (hn : n ≤ 65536) (w : World) : Calls Try.prog 46 #[.int .u64 1, .int .u64 n] w fun e w' => e = .returned (.tuple #[.int .u64 0, .int .u64 n]) ∧ w = w' := by
  have hb1 : bits .and .u64 1 4294967295 = 1 := by kernel_rfl
  have hb0 : bits .and .u64 0 4294967295 = 0 := by kernel_rfl
  have hbn : bits .and .u64 (n : Int) 4294967295 = (n : Int) := by
    have h := bits_and_u64_nat n 4294967295 (by omega) (by omega)
    rw [show n &&& 4294967295 = n from Nat.and_two_pow_sub_one_of_lt_two_pow (n := 32) (by omega)] at h
    exact h
  have hd : (n : Int) / 4294967296 = 0 := by omega
  have hwn : IntKind.u64.wrap (n : Int) = (n : Int) := by rw [IntKind.wrap_u64]; omega
  have hw0 : IntKind.u64.wrap 0 = 0 := by kernel_rfl
  go_enter Try.func46, Try.ntmps46
  go_wp2
  go_ret2
  simp [hb1, hb0, hbn, hd, hwn, hw0]
theorem mul_one_any (n : Nat) (hn : n ≤ 65536) (w : World) : Calls Try.prog 37 #[.int .u64 1, .int .u64 n] w fun e w' => e = .returned (.tuple #[.int .u64 0, .int .u64 n]) ∧ w = w' := by
  go_enter Try.func37, Try.ntmps37
  go_wp2_with fail
  refine (mul64_one n hn w).mono ?_
  rintro e w' ⟨rfl, rfl⟩
  go_wp2
  go_ret2
  exact ⟨rfl, rfl⟩
theorem bool_info : (Try.prog.info? 4).map (fun i => (i.zero, i.size, i.bytes)) = some (some (.bool false), 1, 1) := by kernel_rfl
theorem bool_size1 : (Try.prog.info? 4).map (·.size) = some 1 := by kernel_rfl
theorem made_sameR (m k : Nat) (v : Value) (hm : 0 < m) : madeCells (List.replicate m v).toArray k = (List.replicate k v).toArray := by
  unfold madeCells
  apply Array.ext
  · simp
  · intro i h1 h2
    have h3 : i % m < m := Nat.mod_lt _ hm
    have h4 : i % (List.replicate m v).toArray.size < (List.replicate m v).toArray.size := by simpa using h3
    rw [Array.getElem_map, Array.getElem_range, getElem!_pos (List.replicate m v).toArray (i % (List.replicate m v).toArray.size) h4]
    simp
theorem made_sameB (k : Nat) (v : Value) : madeCells (List.replicate 1 v).toArray k = (List.replicate k v).toArray := made_sameR 1 k v (by omega)
/-- a row of n flags, the first k true -/
def fillB (n k : Nat) : Array Value := (List.replicate k (Value.bool true) ++ List.replicate (n - k) (Value.bool false)).toArray
theorem fillB_step {n k m : Nat} (h : k + m ≤ n) : ((fillB n k).toList.take k ++ List.replicate m (Value.bool true) ++ (fillB n k).toList.drop (k + m)).toArray = fillB n (k + m) := by
  have e1 : (List.replicate k (Value.bool true) ++ List.replicate (n - k) (Value.bool false)).take k = List.replicate k (Value.bool true) := by simp
  have e2 : (List.replicate k (Value.bool true) ++ List.replicate (n - k) (Value.bool false)).drop (k + m) = List.replicate (n - (k + m)) (Value.bool false) := by
    rw [List.drop_append, List.drop_of_length_le (by simp), List.length_replicate, List.nil_append, List.drop_replicate]
    congr 1; omega
  simp only [fillB, e1, e2, List.replicate_append_replicate]
theorem fillB_full (n : Nat) : fillB n n = (List.replicate n (Value.bool true)).toArray := by simp [fillB]
theorem fillB_cell {w : World} {r n k j : Nat} (h : Blk w r 4 (fillB n k)) (hj : j < k) : w.cell? ⟨r, j, none⟩ = some (.bool true) := by
  rw [h.cell]
  simp only [fillB, List.getElem?_toArray]
  rw [List.getElem?_append_left (by simpa using hj), List.getElem?_replicate, if_pos hj]
theorem run_copy_fill {w : World} {r n k m c2 : Nat} (h : Blk w r 4 (fillB n k)) (hk : 0 < k) (hkn : k < n) (hm : m = Nat.min k (n - k)) :
    (Builtin.copy_ #[33, 33] 3 #[.slice (some ⟨r, k, none⟩) (n - k) (n - k), .slice (some ⟨r, 0, none⟩) k c2]).run Try.prog w = .ok (.int .i64 m) (w.setRow r (fillB n (k + m))) := by
  have hmk : m ≤ k ∧ m ≤ n - k := by subst hm; exact ⟨Nat.min_le_left _ _, Nat.min_le_right _ _⟩
  have := run_copy_row (P := Try.prog) w 33 33 3 4 r k (n - k) (n - k) ⟨r, 0, none⟩ k c2 (fillB n k) 4 (List.replicate m (.bool true)) Try.underlying33 bool_size1 h (by simpa using hm) (fun j v hj => by
    rw [List.getElem?_replicate] at hj
    split at hj
    · injection hj with hj; subst hj; rw [add_zero_off]; exact fillB_cell h (by omega)
    · cases hj) (by simp [fillB]; omega) (fun v hv => by rw [List.eq_of_mem_replicate hv]; rfl)
  rw [this, List.length_replicate, fillB_step (by omega)]
  rfl
theorem blk_setRow {w : World} {r : Nat} {t : TypeId} {cs ds : Array Value} (h : Blk w r t cs) : Blk (w.setRow r ds) r t ds := setRow_heap w r cs ds t (0, 0) h
theorem below_setRowB {w0 w : World} {B r : Nat} (h : Below B w0 w) (hr : B ≤ r) (ds : Array Value) : Below B w0 (w.setRow r ds) := below_setRow h hr ds
set_option maxRecDepth 100000 in
set_option maxHeartbeats 1000000 in
theorem repeat_any (n gx : Nat) (hn : n ≤ 65536) (w : World) (hx : w.cell? ⟨gx, 0, none⟩ = some (.bool true)) (hgx : gx < w.heap.size) :
    Calls Try.prog 26 #[.slice (some ⟨gx, 0, none⟩) 1 1, .int .i64 n] w fun e w' => ∃ r, e = .returned (.slice (some ⟨r, 0, none⟩) n n) ∧ w.heap.size ≤ r ∧ Blk w' r 4 (List.replicate n (Value.bool true)).toArray ∧ Below w.heap.size w w' := by
  have hmk : ∀ w : World, (Instr.makeSlice 33 (.int .i64 (n : Int)) (.int .i64 (n : Int))).run Try.prog w = .ok (.slice (some ⟨w.heap.size, 0, none⟩) n n) (w.alloc (.cells (fillB n 0) 4)) := by
    intro w
    obtain ⟨i0, hi0, hz0, hz1, hz2⟩ := info_parts bool_info
    have := run_make (P := Try.prog) w 33 4 i0 (.bool false) Try.underlying33 hi0 hz0 .i64 .i64 n n (by omega) (by omega) (by rw [hz2]; omega) (by omega)
    rw [hz1] at this
    simp only [Int.toNat_natCast, Nat.mul_one] at this
    rw [this]
    have e : (Value.bool false).cells = (List.replicate 1 (Value.bool false)).toArray := rfl
    rw [e, made_sameB]
    simp [fillB]
  have hB0 : Blk (w.alloc (.cells (fillB n 0) 4)) w.heap.size 4 (fillB n 0) := Blk.new _ _ _
  have hx1 : (w.alloc (.cells (fillB n 0) 4)).cell? ⟨gx, 0, none⟩ = some (.bool true) := (World.cell?_alloc_lt w _ _ hgx).trans hx
  have hc1 : ∃ W, W.heap.size = w.heap.size + 1 ∧ Below w.heap.size w W ∧ Blk W w.heap.size 4 (fillB n (min 1 n)) ∧ (Builtin.copy_ #[33, 33] 3 #[.slice (some ⟨w.heap.size, 0, none⟩) n n, .slice (some ⟨gx, 0, none⟩) 1 1]).run Try.prog (w.alloc (.cells (fillB n 0) 4)) = .ok (.int .i64 (min 1 n : Nat)) W := by
    by_cases h0 : n = 0
    · subst h0
      exact ⟨_, by simp, (Below.refl _ _).alloc (Nat.le_refl _) _, hB0, run_copy_none _ _ _ _ 4 _ _ _ _ _ _ Try.underlying33 bool_size1 rfl⟩
    · have h1 : min 1 n = 1 := by omega
      rw [h1]
      have := run_copy_row (P := Try.prog) (w.alloc (.cells (fillB n 0) 4)) 33 33 3 4 w.heap.size 0 n n ⟨gx, 0, none⟩ 1 1 (fillB n 0) 4 (List.replicate 1 (.bool true)) Try.underlying33 bool_size1 hB0 (by
        show 1 = Nat.min 1 n
        exact h1.symm) (fun j v hj => by
        match j, hj with
        | 0, hj => simp at hj; subst hj; simpa [Addr.add] using hx1) (by simp [fillB]; omega) (fun v hv => by rw [List.eq_of_mem_replicate hv]; rfl)
      refine ⟨_, ?_, ?_, ?_, this⟩
      · simp [World.setRow]
      · exact below_setRow ((Below.refl _ _).alloc (Nat.le_refl _) _) (Nat.le_refl _) _
      · have e := fillB_step (n := n) (k := 0) (m := 1) (by omega)
        simp only [Nat.zero_add] at e
        rw [List.length_replicate, Nat.zero_add, e]
        exact blk_setRow hB0
  obtain ⟨W, hWs, hWb, hWB, hrun⟩ := hc1
  have HW := Lib.hid (And.intro hWb hWB)
  have hkk : min 1 n ≤ n := Nat.min_le_right _ _
  have hk0 : 0 < n → 0 < min 1 n := by omega
  clear hx hB0 hx1 hWb hWB
  generalize min 1 n = k0 at *
  have hg1 : decide ((9223372036854775807 : Int) < (n : Int)) = false := decide_eq_false (by omega)
  have hg0 : decide ((n : Int) < 0) = false := decide_eq_false (by omega)
  go_enter Try.func26, Try.ntmps26
  go_wp2_with fail
  refine (mul_one_any n hn w).mono ?_
  rintro e w' ⟨rfl, rfl⟩
  go_wp2_with fail
  generalize hrr : w.heap.size = r at *
  have HRR := Lib.hid hrr
  clear hrr
  go_loopw [8] (fun i wr => ∃ k : Nat, k ≤ n ∧ (0 < n → 0 < k) ∧ i = .int .i64 k ∧ Blk wr r 4 (fillB n k) ∧ Below r w wr) (fun i _ => n - (intS i).toNat)
  case atStart => exact ⟨k0, hkk, hk0, rfl, HW.out.2, HW.out.1⟩
  case round =>
    obtain ⟨k, hk, hkp, rfl, hB, hb⟩ := hrel
    by_cases hlt : k < n
    · have hc := run_copy_fill (c2 := n) hB.drew (hkp (by omega)) hlt rfl
      have HB := Lib.hid (And.intro hB hb)
      have hmp : 0 < Nat.min k (n - k) := Nat.lt_min.2 ⟨hkp (by omega), by omega⟩
      have hmn : k + Nat.min k (n - k) ≤ n := by have : Nat.min k (n - k) ≤ n - k := Nat.min_le_right k (n - k); omega
      clear hB hb
      generalize Nat.min k (n - k) = m at *
      have hne : ¬ (n = k) := by omega
      have hwx : IntKind.i64.wrap ((k : Int) + (m : Int)) = (k : Int) + (m : Int) := by rw [IntKind.wrap_i64]; omega
      go_wp2
      go_region
      all_goals go_wp2
      all_goals
        refine ⟨⟨k + m, hmn, fun _ => by omega, by go_num, ?_, ?_⟩, by simp [intS]; omega⟩
        · exact blk_setRow HB.out.1.drew
        · exact below_setRow (drawn_below HB.out.2 1) (Nat.le_refl _) _
    · obtain rfl : k = n := by omega
      have HB := Lib.hid (And.intro hB hb)
      clear hB hb
      go_wp2
      go_ret
      exact ⟨r, rfl, by rw [HRR.out]; exact Nat.le_refl _, by rw [← fillB_full]; exact HB.out.1, by rw [HRR.out]; exact HB.out.2⟩
end Go.Proofs.Ytliockcbnmbhnaa
