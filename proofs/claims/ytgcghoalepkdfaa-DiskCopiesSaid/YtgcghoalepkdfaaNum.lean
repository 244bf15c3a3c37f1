/-
  An error's number; a sector of one byte; the calls of a nil disk. Conditions: the errors are the document's.
-/
import Derived.Test.YtgcghoalepkdfaaFacts
import Derived.Handy
import Derived.Outline
import Derived.WalkLawsBesides
import Derived.WalkSpells
import Derived.Deep.RegionHeld3
import Derived.Deep.DrawnRows
import Derived.Lib.Hide
namespace Go.Proofs.Ytgcghoalepkdfaa
open Go.RowKit
theorem num_any (k : Nat) (w : World) : Calls Try.prog 28 #[errV k] w fun e w' => e = .returned (.int .i64 k) ∧ w = w' := by
  cases k with
  | zero =>
    simp only [errV]
    go_enter Try.func28, Try.ntmps28
    go_wp2
    go_ret
    exact ⟨rfl, rfl⟩
  | succ k =>
    simp only [errV]
    have hta : ∀ (n : Int) (w : World), (Instr.typeAssert (.iface 31 (.int .i64 n)) 27 31 true).run Try.prog w = .ok (.tuple #[.int .i64 n, .bool true]) w := fun n w => by kernel_rfl
    have hne : (((k : Int) + 1) == 0) = false := by simp; omega
    have hne2 : (((k : Int) + 1) != 0) = true := by simp; omega
    go_enter Try.func28, Try.ntmps28
    go_wp2
    go_ret
    exact ⟨rfl, rfl⟩
theorem is_any (k j : Nat) (w : World) : Calls Try.prog 12 #[errV k, .int .i64 j] w fun e w' => e = .returned (.bool (k == j)) ∧ w = w' := by
  go_enter Try.func12, Try.ntmps12
  go_wp2_with fail
  refine (num_any k w).mono ?_
  rintro e w' ⟨rfl, rfl⟩
  go_wp2
  go_ret
  exact ⟨by show Ending.returned (.bool ((k : Int) == (j : Int))) = _; rw [show ((k : Int) == (j : Int)) = (k == j) from by rw [Bool.eq_iff_iff, beq_iff_eq, beq_iff_eq]; constructor <;> intro h <;> omega], rfl⟩
/-- a sector that is filled up to k -/
def part (b k : Nat) : List Nat := List.replicate k b ++ List.replicate (128 - k) 0
theorem part_len (b k : Nat) (hk : k ≤ 128) : (part b k).length = 128 := by simp [part]; omega
theorem part_at (b k j : Nat) (hk : k ≤ 128) : (part b k)[j]? = if j < k then some b else if j < 128 then some 0 else none := by
  unfold part
  by_cases h1 : j < k
  · rw [List.getElem?_append_left (by simpa using h1), if_pos h1, List.getElem?_replicate, if_pos h1]
  · rw [List.getElem?_append_right (by simp; omega), if_neg h1, List.length_replicate, List.getElem?_replicate]
    by_cases h2 : j < 128
    · rw [if_pos (by omega), if_pos h2]
    · rw [if_neg (by omega), if_neg h2]
theorem part_set (b k : Nat) (hk : k < 128) : (u8s (part b k)).toArray.setIfInBounds k (.int .u8 b) = (u8s (part b (k + 1))).toArray := by
  apply Array.ext_getElem?
  intro j
  simp only [List.setIfInBounds_toArray, List.getElem?_toArray, List.getElem?_set, u8s, List.getElem?_map, List.length_map, part_at b k _ (by omega), part_at b (k + 1) _ (by omega), part_len b k (by omega)]
  by_cases hj : k = j
  · subst hj
    rw [if_pos rfl, if_pos hk, if_pos (by omega)]
    rfl
  · rw [if_neg hj]
    by_cases h1 : j < k
    · rw [if_pos h1, if_pos (by omega)]
    · have h2 : ¬ j < k + 1 := by omega
      simp only [h1, h2, if_false]
theorem part_cell (b k : Nat) (hk : k < 128) : (u8s (part b k)).toArray[k]? = some (.int .u8 0) := by
  simp only [List.getElem?_toArray, u8s, List.getElem?_map, part_at b k k (by omega)]
  rw [if_neg (by omega), if_pos hk]
  rfl
theorem part_all (b : Nat) (hb : b < 256) : u8s (part b 128) = (Sec.full b hb).cs := by simp [part, Sec.full, Sec.cs]
set_option maxRecDepth 100000 in
theorem full_any (b : Nat) (hb : b < 256) (w : World) : Calls Try.prog 18 #[.int .u8 b] w fun e w' => e = .returned (Sec.full b hb).v ∧ Below w.heap.size w w' := by
  obtain ⟨Zs, hZ, hZs⟩ : ∃ Zs : List Value, (∀ w, (zeroValue 47).run Try.prog w = .ok (.agg Zs.toArray) w) ∧ Zs = u8s (part b 0) := ⟨Sec.zero.cs, sec_zero, rfl⟩
  have hbd : ∀ w, (Instr.build 47 #[]).run Try.prog w = .ok (.agg Zs.toArray) w := fun w => by rw [sec_build w, ← hZ w]; exact (sec_zero w).symm
  have hi : (Try.prog.info? 47).map (·.size) = some Zs.length := by rw [hZs, u8s_length, part_len _ _ (by omega)]; exact sec_size
  have hone : ∀ v ∈ Zs, v.oneCell' = true := by rw [hZs]; exact oneCell_u8s _
  have HZ := Lib.hid hZs
  clear hZs
  go_enter Try.func18, Try.ntmps18
  go_wp2_with (refine wpList_store_newN rfl 47 (.tmp 3) (.tmp 5) rfl (w.heap.size + 1) (by simp) Zs Zs.toArray rfl rfl hi (by simp) hone ?_)
  go_loopw [6] (fun i wr => ∃ k : Nat, k ≤ 128 ∧ i = .int .i64 k ∧ Blk wr (w.heap.size + 1) 47 (u8s (part b k)).toArray ∧ Blk wr w.heap.size 47 Zs.toArray ∧ Below w.heap.size w wr) (fun i _ => 128 - (intOf i).toNat)
  case atStart =>
    refine ⟨0, by omega, rfl, ?_, (Blk.new w _ _).alloc _, ((Below.refl _ _).alloc (Nat.le_refl _) _).alloc (by simp) _⟩
    have := Blk.new (w.alloc (.cells Zs.toArray 47)) 47 Zs.toArray
    rw [World.size_alloc, HZ.out] at this
    rw [HZ.out]
    exact this
  case round =>
    obtain ⟨k, hk, rfl, hb1, hb2, hB⟩ := hrel
    by_cases hlt : k < 128
    · have hc : wr.cell? ⟨w.heap.size + 1, k, none⟩ = some (.int .u8 0) := by rw [hb1.cell]; exact part_cell b k hlt
      have hfz := hb1.frozen k
      have Hb1 := Lib.hid hb1
      have Hb2 := Lib.hid hb2
      clear hb1 hb2
      go_wp2
      go_roundw
      case rel =>
        refine ⟨k + 1, by omega, by go_num, ?_, Hb2.out.far (by simp) _, hB.setCell (by simp) _⟩
        have := Hb1.out.set_ k (.int .u8 b)
        rw [part_set b k hlt] at this
        exact this
      case measure => simp [intOf]; omega
    · obtain rfl : k = 128 := by omega
      rw [part_all b hb] at hb1
      have hr := hb1.range
      have hu := Try.underlying47
      have hi2 : (Try.prog.info? 47).map (·.size) = some (Sec.full b hb).cs.length := by rw [Sec.cs_len]; exact sec_size
      have hia : (Try.prog.info? 47).map (·.size) = some (Sec.full b hb).cs.toArray.size := by rw [List.size_toArray]; exact hi2
      have hzl : Zs.length = 128 := by rw [HZ.out, u8s_length, part_len _ _ (by omega)]
      have hth := hb2.there (o := 0) (n := (Sec.full b hb).cs.toArray.size) (by simp [Sec.cs_len, hzl])
      have hb3 := hb2.over (Sec.full b hb).cs (by simp [Sec.cs_len, hzl])
      have hsg := setCells_grown w.heap.size (Sec.full b hb).cs 0 wr
      have Hsg := Lib.hid hsg
      have Hb3 := Lib.hid hb3
      clear hb1 hb2 hzl hsg hb3
      go_wp2_with (first
        | (refine wpList_load_mid rfl 47 (.tmp 3) rfl (w.heap.size + 1) 0 rfl (Sec.full b hb).cs _ hr hu rfl hi2 ?_)
        | (refine wpList_store_mid rfl 47 (.tmp 2) (.tmp 13) rfl w.heap.size 0 (Sec.full b hb).cs.toArray rfl rfl hth hia (all_oneCell_toArray (Sec.full b hb).one) ?_))
      refine bodyPost_ret (results_cell_row rfl _ _ w.heap.size 47 (Sec.full b hb).cs.toArray (0, 0) _ rfl Hb3.out Try.underlying47 rfl hia) rfl ?_
      exact ⟨rfl, hB.grown Hsg.out.1 hB.size (fun j e => by injection e with e; omega)⟩
end Go.Proofs.Ytgcghoalepkdfaa
