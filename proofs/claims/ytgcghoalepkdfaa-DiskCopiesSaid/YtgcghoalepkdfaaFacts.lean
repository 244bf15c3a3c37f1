/-
  What the program's table says of the disk's types: their sizes, their zero values. No condition.
-/
import Derived.Test.YtgcghoalepkdfaaDisk
import Derived.Test.YtgcghoalepkdfaaAgg
import Derived.OwnWalk
namespace Go.Proofs.Ytgcghoalepkdfaa
open Go.RowKit
theorem sec_zero : ∀ w, (zeroValue 47).run Try.prog w = .ok Sec.zero.v w := fun w => by kernel_rfl
theorem sec_build : ∀ w, (Instr.build 47 #[]).run Try.prog w = .ok Sec.zero.v w := fun w => by kernel_rfl
theorem sec_size : (Try.prog.info? 47).map (·.size) = some 128 := by kernel_rfl
theorem sec_info : (Try.prog.info? 47).map (fun i => (i.zero, i.size, i.bytes)) = some (some Sec.zero.v, 128, 128) := by kernel_rfl
theorem write_info : (Try.prog.info? 76).map (fun i => (i.zero, i.size, i.bytes)) = some (some (.agg (wrc (0, Sec.zero)).toArray), 129, 136) := by kernel_rfl
theorem write_size : (Try.prog.info? 76).map (·.size) = some 129 := by kernel_rfl
theorem write_zero : (Try.prog.info? 76).bind (fun i => i.zero.map fun z => z.cells.size) = some (128 + 1) := by kernel_rfl
theorem write_zero' : (Try.prog.info? 76).bind (fun i => i.zero.map fun z => (i.size, z.cells.size)) = some (129, 129) := by kernel_rfl
theorem wr_len (x : Int × Sec) : (wrc x).length = 129 := by simp [wrc, Sec.cs_len]
theorem wr_one (x : Int × Sec) : ∀ u ∈ wrc x, u.oneCell' = true := by
  intro u hu
  simp only [wrc, List.mem_append, List.mem_singleton] at hu
  rcases hu with hu | rfl
  · exact x.2.one u hu
  · rfl
/-- the rules by which the walk puts a write together -/
theorem write_rules (s : Sec) : ∃ Z : Array Value, (∀ w, (zeroValue 76).run Try.prog w = .ok (.agg Z) w) ∧ List.foldl (fun (c : Array Value) (x : Value × Nat) => c.setIfInBounds x.snd x.fst) Z s.cs.zipIdx = (s.cs ++ [Value.int .i64 0]).toArray ∧
    Z.size = 129 :=
  ⟨(wrc (0, Sec.zero)).toArray, fun w => by kernel_rfl, fold_cells _ _ _ (by simp [wr_len, Sec.cs_len]) (by rw [Sec.cs_len]; kernel_rfl), by simp [wr_len]⟩
theorem write_zero_at : ∃ Z : Array Value, (∀ w, (zeroValue 76).run Try.prog w = .ok (.agg Z) w) ∧ Z.size = 129 :=
  ⟨(wrc (0, Sec.zero)).toArray, fun w => by kernel_rfl, by simp [wr_len]⟩
theorem build_write (s : Sec) (i : Int) (w : World) : (Instr.build 76 #[(0, .agg s.cs.toArray), (1, .int .i64 i)]).run Try.prog w = .ok (.agg (wrc (i, s)).toArray) w := by
  have := run_build_two (P := Try.prog) (n0 := 128) (n1 := 1) Try.underlying76 write_zero (by kernel_rfl) (v0 := .agg s.cs.toArray) (v1 := .int .i64 i) (by simp [Value.cells, s.cs_len]) rfl w
  rw [this]
  congr 2
  simp [Value.cells, wrc]
theorem slice_write (x : Int × Sec) (w : World) : (Instr.buildSlice 65 1 #[(0, .agg (wrc x).toArray)]).run Try.prog w = .ok (.slice (some ⟨w.heap.size, 0, none⟩) 1 1) (w.alloc (.cells (wrc x).toArray 76)) :=
  run_buildSlice_one Try.underlying65 write_zero' (by omega) (by omega) (by simp [Value.cells, wr_len]) w
end Go.Proofs.Ytgcghoalepkdfaa
