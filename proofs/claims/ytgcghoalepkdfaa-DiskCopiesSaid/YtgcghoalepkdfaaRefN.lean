/-
  The plain disk's New. No condition.
-/
import Derived.Test.YtgcghoalepkdfaaRefD
import Derived.Laws.MakeOwn
namespace Go.Proofs.Ytgcghoalepkdfaa
open Go.RowKit
set_option linter.unusedSimpArgs false
set_option linter.unusedVariables false
theorem zero_cs : Sec.zero.cs = List.replicate 128 (.int .u8 0) := by simp [Sec.zero, Sec.cs, u8s, u8]
theorem zeros_flat : ∀ n, (List.replicate n Sec.zero).flatMap Sec.cs = List.replicate (n * 128) (Value.int .u8 0)
  | 0 => by simp
  | n + 1 => by rw [List.replicate_succ, List.flatMap_cons, zeros_flat n, zero_cs, List.replicate_append_replicate]; congr 1; omega
theorem made_same (m k : Nat) (v : Value) (hm : 0 < m) : madeCells (List.replicate m v).toArray k = (List.replicate k v).toArray := by
  unfold madeCells
  apply Array.ext
  · simp
  · intro i h1 h2
    have h3 : i % m < m := Nat.mod_lt _ hm
    have h4 : i % (List.replicate m v).toArray.size < (List.replicate m v).toArray.size := by simpa using h3
    rw [Array.getElem_map, Array.getElem_range, getElem!_pos (List.replicate m v).toArray (i % (List.replicate m v).toArray.size) h4]
    simp
theorem made_zeros (n : Nat) : madeCells Sec.zero.v.cells (n * 128) = ((List.replicate n Sec.zero).flatMap Sec.cs).toArray := by
  rw [zeros_flat]
  have e : Sec.zero.v.cells = (List.replicate 128 (Value.int .u8 0)).toArray := by rw [← zero_cs]; rfl
  rw [e]
  exact made_same 128 _ _ (by omega)
theorem rnew_any (n : Nat) (w : World) (h1 : n ≤ 4096) : Calls Try.prog 14 #[.int .i64 n] w fun e w' => ∃ A c, e = .returned (.agg (rcs A n c none 0 0 ⟨0, 0, false, false⟩)) ∧
    w'.ownsRow w.heap.size 47 128 (.slice A n c) n ((List.replicate n Sec.zero).flatMap Sec.cs) ∧ Below w.heap.size w w' := by
  have hz := rdisk_zero
  obtain ⟨i0, hi0, hz0, hz1, hz2⟩ := info_parts sec_info
  have hmk : ∀ w, (Instr.makeSlice 33 (.int .i64 n) (.int .i64 n)).run Try.prog w = .ok (.slice (some ⟨w.heap.size, 0, none⟩) n n) (w.alloc (.cells ((List.replicate n Sec.zero).flatMap Sec.cs).toArray 47)) := by
    intro w
    have := run_make (P := Try.prog) w 33 47 i0 Sec.zero.v Try.underlying33 hi0 hz0 .i64 .i64 n n (by omega) (by omega) (by rw [hz2]; omega) (by omega)
    rw [hz1] at this
    simp only [Int.toNat_natCast] at this
    rw [made_zeros] at this
    exact this
  unfold rcs at *
  go_enter Try.func14, Try.ntmps14
  go_wp2
  refine bodyPost_ret (results_cell_row rfl _ _ w.heap.size 36 _ (0, 0) _ rfl ((Blk.new w _ _).alloc _) Try.underlying36 rfl (by kernel_rfl)) rfl ?_
  have hl : ((List.replicate n Sec.zero).flatMap Sec.cs).length = n * 128 := by rw [zeros_flat]; simp
  refine ⟨some ⟨w.heap.size + 1, 0, none⟩, n, rfl, ⟨hl, .inr ⟨w.heap.size + 1, n, _, rfl, Nat.le_succ _, two_allocs _ _ _, Nat.le_refl _, by simp [maxLen]; omega, by rw [List.size_toArray, hl], ?_⟩⟩, two_below _ _ _⟩
  exact List.take_of_length_le (by simp only [List.toList_toArray]; omega)
end Go.Proofs.Ytgcghoalepkdfaa
