/-
  Spaces: new ones. Conditions: their number is no greater than may be.
-/
import Derived.Test.YtncpcemcdmolcaaGreatZb
import Derived.Laws.CopyOwn
import Derived.Laws.Bits64b
import Derived.StillTailTactics
import Derived.Lib.SliceRun

namespace Go.Proofs.YtncpcemcdmolcaaGreat
open Go.RowKit Go.BigFrame
set_option linter.unusedSimpArgs false
set_option linter.unusedVariables false
set_option maxHeartbeats 1000000 in
theorem mul64_one (n : Nat) (hn : n ≤ 65536) (w : World) : Calls Tryz.prog 128 #[.int .u64 1, .int .u64 n] w fun e w' => e = .returned (.tuple #[.int .u64 0, .int .u64 n]) ∧ w = w' := by
  have hb1 : bits .and .u64 1 4294967295 = 1 := by kernel_rfl
  have hb0 : bits .and .u64 0 4294967295 = 0 := by kernel_rfl
  have hbn : bits .and .u64 (n : Int) 4294967295 = (n : Int) := by
    have h := bits_and_u64_nat n 4294967295 (by omega) (by omega)
    rw [show n &&& 4294967295 = n from Nat.and_two_pow_sub_one_of_lt_two_pow (n := 32) (by omega)] at h
    exact h
  have hd : (n : Int) / 4294967296 = 0 := by omega
  have hwn : IntKind.u64.wrap (n : Int) = (n : Int) := by rw [IntKind.wrap_u64]; omega
  have hw0 : IntKind.u64.wrap 0 = 0 := by kernel_rfl
  go_enter Tryz.func128, Tryz.ntmps128
  go_wp2
  go_ret2
  simp [hb1, hb0, hbn, hd, hwn, hw0]
theorem mul_one_any (n : Nat) (hn : n ≤ 65536) (w : World) : Calls Tryz.prog 107 #[.int .u64 1, .int .u64 n] w fun e w' => e = .returned (.tuple #[.int .u64 0, .int .u64 n]) ∧ w = w' := by
  go_enter Tryz.func107, Tryz.ntmps107
  go_wp2_with fail
  refine (mul64_one n hn w).mono ?_
  rintro e w' ⟨rfl, rfl⟩
  go_wp2
  go_ret2
  exact ⟨rfl, rfl⟩
theorem bool_info : (Tryz.prog.info? 4).map (fun i => (i.zero, i.size, i.bytes)) = some (some (.bool false), 1, 1) := by kernel_rfl
theorem bool_size1 : (Tryz.prog.info? 4).map (·.size) = some 1 := by kernel_rfl
theorem made_sameR (m k : Nat) (v : Value) (hm : 0 < m) : madeCells (List.replicate m v).toArray k = (List.replicate k v).toArray := by
  unfold madeCells
  apply Array.ext
  · simp
  · intro i h1 h2
    have h3 : i % m < m := Nat.mod_lt _ hm
    have h4 : i % (List.replicate m v).toArray.size < (List.replicate m v).toArray.size := by simpa using h3
    rw [Array.getElem_map, Array.getElem_range, getElem!_pos (List.replicate m v).toArray (i % (List.replicate m v).toArray.size) h4]
    simp
theorem made_sameB (k : Nat) (v : Value) : madeCells (List.replicate 1 v).toArray k = (List.replicate k v).toArray := made_sameR 1 k v (by omega)
/-- a row of n flags, the first k true -/
def fillB (n k : Nat) : Array Value := (List.replicate k (Value.bool true) ++ List.replicate (n - k) (Value.bool false)).toArray
theorem fillB_step {n k m : Nat} (h : k + m ≤ n) : ((fillB n k).toList.take k ++ List.replicate m (Value.bool true) ++ (fillB n k).toList.drop (k + m)).toArray = fillB n (k + m) := by
  have e1 : (List.replicate k (Value.bool true) ++ List.replicate (n - k) (Value.bool false)).take k = List.replicate k (Value.bool true) := by simp
  have e2 : (List.replicate k (Value.bool true) ++ List.replicate (n - k) (Value.bool false)).drop (k + m) = List.replicate (n - (k + m)) (Value.bool false) := by
    rw [List.drop_append, List.drop_of_length_le (by simp), List.length_replicate, List.nil_append, List.drop_replicate]
    congr 1; omega
  simp only [fillB, e1, e2, List.replicate_append_replicate]
theorem fillB_full (n : Nat) : fillB n n = (List.replicate n (Value.bool true)).toArray := by simp [fillB]
theorem fillB_cell {w : World} {r n k j : Nat} (h : Blk w r 4 (fillB n k)) (hj : j < k) : w.cell? ⟨r, j, none⟩ = some (.bool true) := by
  rw [h.cell]
  simp only [fillB, List.getElem?_toArray]
  rw [List.getElem?_append_left (by simpa using hj), List.getElem?_replicate, if_pos hj]
theorem run_copy_fill {w : World} {r n k m c2 : Nat} (h : Blk w r 4 (fillB n k)) (hk : 0 < k) (hkn : k < n) (hm : m = Nat.min k (n - k)) :
    (Builtin.copy_ #[30, 30] 3 #[.slice (some ⟨r, k, none⟩) (n - k) (n - k), .slice (some ⟨r, 0, none⟩) k c2]).run Tryz.prog w = .ok (.int .i64 m) (w.setRow r (fillB n (k + m))) := by
  have hmk : m ≤ k ∧ m ≤ n - k := by subst hm; exact ⟨Nat.min_le_left _ _, Nat.min_le_right _ _⟩
  have := run_copy_row (P := Tryz.prog) w 30 30 3 4 r k (n - k) (n - k) ⟨r, 0, none⟩ k c2 (fillB n k) 4 (List.replicate m (.bool true)) Tryz.underlying30 bool_size1 h (by simpa using hm) (fun j v hj => by
    rw [List.getElem?_replicate] at hj
    split at hj
    · injection hj with hj; subst hj; rw [add_zero_off]; exact fillB_cell h (by omega)
    · cases hj) (by simp [fillB]; omega) (fun v hv => by rw [List.eq_of_mem_replicate hv]; rfl)
  rw [this, List.length_replicate, fillB_step (by omega)]
  rfl
theorem blk_setRow {w : World} {r : Nat} {t : TypeId} {cs ds : Array Value} (h : Blk w r t cs) : Blk (w.setRow r ds) r t ds := setRow_heap w r cs ds t (0, 0) h
theorem below_setRowB {w0 w : World} {B r : Nat} (h : Below B w0 w) (hr : B ≤ r) (ds : Array Value) : Below B w0 (w.setRow r ds) := below_setRow h hr ds
set_option maxRecDepth 100000 in
set_option maxHeartbeats 1000000 in
theorem repeat_any (n gx : Nat) (hn : n ≤ 65536) (w : World) (hx : w.cell? ⟨gx, 0, none⟩ = some (.bool true)) (hgx : gx < w.heap.size) :
    Calls Tryz.prog 82 #[.slice (some ⟨gx, 0, none⟩) 1 1, .int .i64 n] w fun e w' => ∃ r, e = .returned (.slice (some ⟨r, 0, none⟩) n n) ∧ w.heap.size ≤ r ∧ Blk w' r 4 (List.replicate n (Value.bool true)).toArray ∧ Below w.heap.size w w' := by
  have hmk : ∀ w : World, (Instr.makeSlice 30 (.int .i64 (n : Int)) (.int .i64 (n : Int))).run Tryz.prog w = .ok (.slice (some ⟨w.heap.size, 0, none⟩) n n) (w.alloc (.cells (fillB n 0) 4)) := by
    intro w
    obtain ⟨i0, hi0, hz0, hz1, hz2⟩ := info_parts bool_info
    have := run_make (P := Tryz.prog) w 30 4 i0 (.bool false) Tryz.underlying30 hi0 hz0 .i64 .i64 n n (by omega) (by omega) (by rw [hz2]; omega) (by omega)
    rw [hz1] at this
    simp only [Int.toNat_natCast, Nat.mul_one] at this
    rw [this]
    have e : (Value.bool false).cells = (List.replicate 1 (Value.bool false)).toArray := rfl
    rw [e, made_sameB]
    simp [fillB]
  have hB0 : Blk (w.alloc (.cells (fillB n 0) 4)) w.heap.size 4 (fillB n 0) := Blk.new _ _ _
  have hx1 : (w.alloc (.cells (fillB n 0) 4)).cell? ⟨gx, 0, none⟩ = some (.bool true) := (World.cell?_alloc_lt w _ _ hgx).trans hx
  have hc1 : ∃ W, W.heap.size = w.heap.size + 1 ∧ Below w.heap.size w W ∧ Blk W w.heap.size 4 (fillB n (min 1 n)) ∧ (Builtin.copy_ #[30, 30] 3 #[.slice (some ⟨w.heap.size, 0, none⟩) n n, .slice (some ⟨gx, 0, none⟩) 1 1]).run Tryz.prog (w.alloc (.cells (fillB n 0) 4)) = .ok (.int .i64 (min 1 n : Nat)) W := by
    by_cases h0 : n = 0
    · subst h0
      exact ⟨_, by simp, (Below.refl _ _).alloc (Nat.le_refl _) _, hB0, run_copy_none _ _ _ _ 4 _ _ _ _ _ _ Tryz.underlying30 bool_size1 rfl⟩
    · have h1 : min 1 n = 1 := by omega
      rw [h1]
      have := run_copy_row (P := Tryz.prog) (w.alloc (.cells (fillB n 0) 4)) 30 30 3 4 w.heap.size 0 n n ⟨gx, 0, none⟩ 1 1 (fillB n 0) 4 (List.replicate 1 (.bool true)) Tryz.underlying30 bool_size1 hB0 (by
        show 1 = Nat.min 1 n
        exact h1.symm) (fun j v hj => by
        match j, hj with
        | 0, hj => simp at hj; subst hj; simpa [Addr.add] using hx1) (by simp [fillB]; omega) (fun v hv => by rw [List.eq_of_mem_replicate hv]; rfl)
      refine ⟨_, ?_, ?_, ?_, this⟩
      · simp [World.setRow]
      · exact below_setRow ((Below.refl _ _).alloc (Nat.le_refl _) _) (Nat.le_refl _) _
      · have e := fillB_step (n := n) (k := 0) (m := 1) (by omega)
        simp only [Nat.zero_add] at e
        rw [List.length_replicate, Nat.zero_add, e]
        exact blk_setRow hB0
  obtain ⟨W, hWs, hWb, hWB, hrun⟩ := hc1
  have HW := Lib.hid (And.intro hWb hWB)
  have hkk : min 1 n ≤ n := Nat.min_le_right _ _
  have hk0 : 0 < n → 0 < min 1 n := by omega
  clear hx hB0 hx1 hWb hWB
  generalize min 1 n = k0 at *
  have hg1 : decide ((9223372036854775807 : Int) < (n : Int)) = false := decide_eq_false (by omega)
  have hg0 : decide ((n : Int) < 0) = false := decide_eq_false (by omega)
  go_enter Tryz.func82, Tryz.ntmps82
  go_wp2_with fail
  refine (mul_one_any n hn w).mono ?_
  rintro e w' ⟨rfl, rfl⟩
  go_wp2_with fail
  generalize hrr : w.heap.size = r at *
  have HRR := Lib.hid hrr
  clear hrr
  go_loopw [8] (fun i wr => ∃ k : Nat, k ≤ n ∧ (0 < n → 0 < k) ∧ i = .int .i64 k ∧ Blk wr r 4 (fillB n k) ∧ Below r w wr) (fun i _ => n - (intS i).toNat)
  case atStart => exact ⟨k0, hkk, hk0, rfl, HW.out.2, HW.out.1⟩
  case round =>
    obtain ⟨k, hk, hkp, rfl, hB, hb⟩ := hrel
    by_cases hlt : k < n
    · have hc := run_copy_fill (c2 := n) hB.drew (hkp (by omega)) hlt rfl
      have HB := Lib.hid (And.intro hB hb)
      have hmp : 0 < Nat.min k (n - k) := Nat.lt_min.2 ⟨hkp (by omega), by omega⟩
      have hmn : k + Nat.min k (n - k) ≤ n := by have : Nat.min k (n - k) ≤ n - k := Nat.min_le_right k (n - k); omega
      clear hB hb
      generalize Nat.min k (n - k) = m at *
      have hne : ¬ (n = k) := by omega
      have hwx : IntKind.i64.wrap ((k : Int) + (m : Int)) = (k : Int) + (m : Int) := by rw [IntKind.wrap_i64]; omega
      go_wp2
      go_region
      all_goals go_wp2
      all_goals
        refine ⟨⟨k + m, hmn, fun _ => by omega, by go_num, ?_, ?_⟩, by simp [intS]; omega⟩
        · exact blk_setRow HB.out.1.drew
        · exact below_setRow (drawn_below HB.out.2 1) (Nat.le_refl _) _
    · obtain rfl : k = n := by omega
      have HB := Lib.hid (And.intro hB hb)
      clear hB hb
      go_wp2
      go_ret
      exact ⟨r, rfl, by rw [HRR.out]; exact Nat.le_refl _, by rw [← fillB_full]; exact HB.out.1, by rw [HRR.out]; exact HB.out.2⟩
end Go.Proofs.YtncpcemcdmolcaaGreat

/-
  Spaces: new ones, copies; blocks that are claimed and given back. Conditions: a space stands as it is said to.
-/
namespace Go.Proofs.YtncpcemcdmolcaaGreat
open Go.RowKit Go.BigFrame
set_option linter.unusedSimpArgs false
set_option linter.unusedVariables false
theorem snew_bad (n : Int) (h : n < 0 ∨ 65536 < n) (w : World) : Calls Tryz.prog 44 #[.int .i64 n] w fun e w' => e = .returned (.tuple #[.pointer none, errV 1]) ∧ w = w' := by
  by_cases h1 : n < 0
  · have hd : decide (n < 0) = true := decide_eq_true h1
    clear h
    go_enter Tryz.func44, Tryz.ntmps44
    go_wp2
    go_ret2
    exact ⟨rfl, rfl⟩
  · have hd : decide (n < 0) = false := decide_eq_false h1
    have hd2 : decide ((65536 : Int) < n) = true := decide_eq_true (by omega)
    clear h
    go_enter Tryz.func44, Tryz.ntmps44
    go_wp2
    go_ret2
    exact ⟨rfl, rfl⟩
theorem cnt_all (n : Nat) : cnt (List.replicate n true) = n := by simp [cnt, List.countP_replicate]
/-- a space of the call's own -/
def NewS (w : World) (fl : List Bool) (p : Value) (w' : World) : Prop := ∃ g r A c, p = .pointer (some ⟨g, 0, none⟩) ∧ SAt w' g r A c fl (cnt fl) ∧ g ≠ r ∧ w.heap.size ≤ g ∧ w.heap.size ≤ r ∧ Below w.heap.size w w'
set_option maxHeartbeats 1000000 in
theorem snew_any (n : Nat) (hn : n ≤ 65536) (w : World) : Calls Tryz.prog 44 #[.int .i64 n] w fun e w' => ∃ p, e = .returned (.tuple #[p, .nilIface]) ∧ NewS w (List.replicate n true) p w' := by
  have hd : decide ((n : Int) < 0) = false := decide_eq_false (by omega)
  have hd2 : decide ((65536 : Int) < (n : Int)) = false := decide_eq_false (by omega)
  have hbs : ∀ w : World, (Instr.buildSlice 30 1 #[(0, .bool true)]).run Tryz.prog w = .ok (.slice (some ⟨w.heap.size, 0, none⟩) 1 1) (w.alloc (.cells #[.bool true] 4)) := fun w => run_buildSlice_one (size := 1) Tryz.underlying30 (by kernel_rfl) (by omega) (by omega) rfl w
  have HR := Lib.hid (repeat_any n w.heap.size hn (w.alloc (.cells #[.bool true] 4)) ((Blk.new w 4 #[.bool true]).cell 0) (by simp))
  go_enter Tryz.func44, Tryz.ntmps44
  go_wp2_with fail
  refine HR.out.mono ?_
  rintro e w' ⟨r, rfl, hr, hB, hb⟩
  simp only [World.size_alloc] at hr hb
  have H := Lib.hid (And.intro hr (And.intro hB hb))
  clear hr hB hb
  go_wp2
  go_ret2
  obtain ⟨hr, hB, hb⟩ := H.out
  have hs := hb.size
  have hlt := hB.lt
  refine ⟨_, rfl, w'.heap.size, r, some ⟨r, 0, none⟩, n, rfl, ⟨?_, by simp, by simpa using hn, ?_⟩, by omega, by omega, by omega, ?_⟩
  · rw [cnt_all, List.length_replicate]
    exact Blk.new _ _ _
  · refine .inr ⟨rfl, _, hB.alloc _, fun j v hj => ?_⟩
    rw [List.getElem?_replicate] at hj
    split at hj
    · injection hj with hj
      subst hj
      simp [*]
    · cases hj
  · have h1 : Below w.heap.size w (w.alloc (.cells #[.bool true] 4)) := (Below.refl _ _).alloc (Nat.le_refl _) _
    exact (h1.trans (hb.mono (by omega))).alloc (by omega) _
theorem flagsS_one (l : List Bool) : ∀ u ∈ flagsS l, u.oneCell' = true := by
  intro u hu
  obtain ⟨b, _, rfl⟩ := List.mem_map.1 hu
  rfl
set_option maxHeartbeats 1000000 in
theorem sclone_any {w : World} {B c : Nat} {A : Option Addr} {fl : List Bool} (hl : fl.length ≤ 65536) (hR : Reads w B 1 A fl.length (flagsS fl)) (hB : B ≤ w.heap.size) :
    Calls Tryz.prog 100 #[.slice A fl.length c] w fun e w' => ∃ v, e = .returned v ∧ w'.ownsRow w.heap.size 4 1 v fl.length (flagsS fl) ∧ Below w.heap.size w w' := by
  have qT : ∀ (w : World) (a : Option Addr) (n c n' c' : Nat), (binOp .eql 30 (.slice a n c) (.slice none n' c')).run Tryz.prog w = .ok (.bool a.isNone) w := fun w a n c n' c' => Lib.run_eql_slice_nil w _ _ a n c n' c' Tryz.underlying30
  rcases A with _ | ad
  · have h0 : fl = [] := by
      rcases Nat.eq_zero_or_pos fl.length with h | h
      · exact List.eq_nil_of_length_eq_zero h
      · obtain ⟨ad, e, _⟩ := hR.2 h
        cases e
    subst h0
    go_enter Tryz.func100, Tryz.ntmps100
    go_wp2
    go_ret
    exact ⟨_, rfl, World.ownsRow_nil w _ _ 1, Below.refl _ _⟩
  · have HR := Lib.hid hR
    have hbs : ∀ w : World, (Instr.buildSlice 30 0 #[]).run Tryz.prog w = .ok (.slice (some ⟨w.heap.size, 0, none⟩) 0 0) (w.alloc (.cells #[] 4)) := fun w => by kernel_rfl
    have hown : (w.alloc (.cells #[] 4)).ownsRow w.heap.size 4 1 (.slice (some ⟨w.heap.size, 0, none⟩) 0 0) 0 [] := World.ownsRow_lit w #[] 0 (Nat.le_refl _) (by simp [maxLen]) rfl
    have HO := Lib.hid hown
    have HB := Lib.hid (Below.alloc (Below.refl w.heap.size w) (Nat.le_refl _) (.cells #[] 4))
    obtain ⟨i0, hi0, hz0, hz1, hz2⟩ := info_parts bool_info
    clear hR hown
    go_enter Tryz.func100, Tryz.ntmps100
    go_wp2_with (refine wpList_append_any _ rfl (.tmp 5) (.tmp 6) _ rfl w.heap.size 4 i0 _ 1 1 Tryz.underlying30 hi0 hz0 hz1 hz2 rfl (by omega) (.slice (some ⟨w.heap.size, 0, none⟩) 0 0) 0 [] rfl HO.out B (some ad) fl.length c (flagsS fl) rfl (HR.out.alloc hB _) (flagsS_one _) (by simp [maxLen]; omega) (by omega) (by simp) ?_; intro v2 w2 h2 g2 a2)
    have hb2 : Below w.heap.size w w2 := HB.out.grown g2 (by simp) (fun j hj => by simp [Value.ownBlock] at hj; omega)
    have H2 := Lib.hid (And.intro h2 hb2)
    clear h2 hb2 g2 a2
    go_wp2
    go_ret
    have := H2.out.1
    simp only [Nat.zero_add, List.nil_append] at this
    exact ⟨v2, rfl, this, H2.out.2⟩
theorem frow_of_own {w : World} {base c : Nat} {fl : List Bool} {v : Value} (h : w.ownsRow base 4 1 v fl.length (flagsS fl)) : ∃ A c r, v = .slice A fl.length c ∧ fl.length ≤ c ∧ FRow w r A fl ∧ (fl ≠ [] → base ≤ r ∧ r < w.heap.size) := by
  rcases h.2 with ⟨rfl, h0⟩ | ⟨g, cap, cur, rfl, hb, hh, hn, hm, hs, ht⟩
  · exact ⟨none, 0, 0, by rw [h0], by omega, .inl (List.eq_nil_of_length_eq_zero h0), fun hne => absurd (List.eq_nil_of_length_eq_zero h0) hne⟩
  · refine ⟨_, cap, g, rfl, hn, .inr ⟨rfl, cur, hh, fun j v hj => ?_⟩, fun _ => ⟨hb, Blk.lt (t := 4) hh⟩⟩
    have h1 : (flagsS fl)[j]? = some (.bool v) := by simp [flagsS, hj]
    rw [← ht, List.getElem?_take] at h1
    split at h1
    · simpa using h1
    · cases h1
set_option maxHeartbeats 1000000 in
theorem scopy_any {w : World} {g r c : Nat} {A : Option Addr} {fl : List Bool} (h : SAt w g r A c fl (cnt fl)) : Calls Tryz.prog 64 #[.pointer (some ⟨g, 0, none⟩)] w fun e w' => ∃ p, e = .returned p ∧ NewS w fl p w' := by
  have q0 : w.cell? ⟨g, 0, none⟩ = some (.slice A fl.length c) := h.blk.cell 0
  have q1 : w.cell? ⟨g, 1, none⟩ = some (.int .i64 (cnt fl)) := h.blk.cell 1
  have hlim := h.lim
  have hgl := h.blk.lt
  have hrd : Reads w w.heap.size 1 A fl.length (flagsS fl) := by
    rcases h.row with e | ⟨_, cs, hb, _⟩
    · subst e; exact ⟨rfl, fun h => by simp at h⟩
    · exact h.row.reads.more hb.lt
  have HC := Lib.hid (fun wx (hx : ∃ q, wx = w.drewN q) => (show Calls Tryz.prog 100 #[.slice A fl.length c] wx fun e w' => ∃ A2 c2 r2, e = .returned (.slice A2 fl.length c2) ∧ fl.length ≤ c2 ∧ FRow w' r2 A2 fl ∧ (fl ≠ [] → w.heap.size ≤ r2 ∧ r2 < w'.heap.size) ∧ Below w.heap.size w w' from by
    obtain ⟨q, rfl⟩ := hx
    refine (sclone_any (w := w.drewN q) hlim (hrd.drewN q) (Nat.le_refl _)).mono ?_
    rintro e w' ⟨v, rfl, ho, hb⟩
    obtain ⟨A2, c2, r2, rfl, h1, h2, h3⟩ := frow_of_own (base := w.heap.size) (c := 0) ho
    exact ⟨A2, c2, r2, rfl, h1, h2, h3, hb.os, hb.tape, hb.output, hb.size, hb.block⟩))
  clear h hrd
  go_enter Tryz.func64, Tryz.ntmps64
  go_wp2
  go_region_with (go_at_call 100; refine (HC.out _ ⟨1, rfl⟩).mono ?_; rintro e w2 ⟨A2, c2, r2, rfl, ho1, ho2, ho3, hb⟩; obtain ⟨hc, hf⟩ : (∀ b o, b < w.heap.size → w2.cell? ⟨b, o, none⟩ = w.cell? ⟨b, o, none⟩) ∧ (∀ b o, b < w.heap.size → w2.frozen? ⟨b, o, none⟩ = w.frozen? ⟨b, o, none⟩) := ⟨fun b o h => hb.cell (p := ⟨b, o, none⟩) h, fun b o h => hb.frozen (p := ⟨b, o, none⟩) h⟩)
  all_goals
    have HX := Lib.hid (And.intro ho1 (And.intro ho2 (And.intro ho3 hb)))
    clear ho1 ho2 ho3 hb hc hf
    go_wp2
    go_ret
    obtain ⟨h1, h2, h3, h4⟩ := HX.out
    have hz := h4.size
    refine ⟨_, rfl, ?_⟩
    rcases h2 with h2 | h2
    · exact ⟨w2.heap.size, w2.heap.size + 1, A2, c2, rfl, ⟨Blk.new _ _ _, h1, hlim, .inl h2⟩, by omega, by omega, by omega, h4.alloc (by omega) _⟩
    · have h5 : fl = [] ∨ (w.heap.size ≤ r2 ∧ r2 < w2.heap.size) := by
        by_cases e : fl = []
        · exact .inl e
        · exact .inr (h3 e)
      rcases h5 with h5 | h5
      · exact ⟨w2.heap.size, w2.heap.size + 1, A2, c2, rfl, ⟨Blk.new _ _ _, h1, hlim, .inl h5⟩, by omega, by omega, by omega, h4.alloc (by omega) _⟩
      · exact ⟨w2.heap.size, r2, A2, c2, rfl, ⟨Blk.new _ _ _, h1, hlim, .inr ⟨h2.1, h2.2.choose, h2.2.choose_spec.1.alloc _, h2.2.choose_spec.2⟩⟩, by omega, by omega, by omega, h4.alloc (by omega) _⟩
theorem scopy_nil (w : World) : Calls Tryz.prog 64 #[.pointer none] w fun e w' => e = .returned (.pointer none) ∧ w = w' := by
  go_enter Tryz.func64, Tryz.ntmps64
  go_wp2
  go_ret
  exact ⟨rfl, rfl⟩
theorem sclaim_any {w : World} {g r c B : Nat} {A : Option Addr} {fl : List Bool} (es : List (Int × Int)) (hI : ∀ e ∈ es, InI e) (h : SAt w g r A c fl (cnt fl)) (hgr : g ≠ r) (E : Option Addr) (c' : Nat) (hc' : es.length ≤ c') (hR : ExtR w B E es) (hB : B ≤ w.heap.size)
    (hfar : ∀ ad, E = some ad → ad.block ≠ g ∧ ad.block ≠ r) (hle : es.length ≤ 65536) :
    Calls Tryz.prog 103 #[.pointer (some ⟨g, 0, none⟩), .slice E es.length c'] w (TurnTo w g r c A fl es false) := by
  have HC := Lib.hid (sturn_any es false hI h hgr E c' hc' hR hB hfar hle)
  clear hI h hR hfar
  go_enter Tryz.func103, Tryz.ntmps103
  go_wp2_with fail
  refine HC.out.mono ?_
  rintro e w' ⟨ho, ⟨ns, h1, rfl, h2⟩ | ⟨h1, rfl, h2⟩⟩
  · have HX := Lib.hid (And.intro ho (And.intro h1 h2))
    clear ho h1 h2
    go_wp2
    go_ret
    exact ⟨HX.out.1, .inl ⟨ns, HX.out.2.1, rfl, HX.out.2.2⟩⟩
  · have HX := Lib.hid (And.intro ho (And.intro h1 h2))
    clear ho h1 h2
    go_wp2
    go_ret
    exact ⟨HX.out.1, .inr ⟨HX.out.2.1, rfl, HX.out.2.2⟩⟩
theorem sgive_any {w : World} {g r c B : Nat} {A : Option Addr} {fl : List Bool} (es : List (Int × Int)) (hI : ∀ e ∈ es, InI e) (h : SAt w g r A c fl (cnt fl)) (hgr : g ≠ r) (E : Option Addr) (c' : Nat) (hc' : es.length ≤ c') (hR : ExtR w B E es) (hB : B ≤ w.heap.size)
    (hfar : ∀ ad, E = some ad → ad.block ≠ g ∧ ad.block ≠ r) (hle : es.length ≤ 65536) :
    Calls Tryz.prog 118 #[.pointer (some ⟨g, 0, none⟩), .slice E es.length c'] w (TurnTo w g r c A fl es true) := by
  have HC := Lib.hid (sturn_any es true hI h hgr E c' hc' hR hB hfar hle)
  clear hI h hR hfar
  go_enter Tryz.func118, Tryz.ntmps118
  go_wp2_with fail
  refine HC.out.mono ?_
  rintro e w' ⟨ho, ⟨ns, h1, rfl, h2⟩ | ⟨h1, rfl, h2⟩⟩
  · have HX := Lib.hid (And.intro ho (And.intro h1 h2))
    clear ho h1 h2
    go_wp2
    go_ret
    exact ⟨HX.out.1, .inl ⟨ns, HX.out.2.1, rfl, HX.out.2.2⟩⟩
  · have HX := Lib.hid (And.intro ho (And.intro h1 h2))
    clear ho h1 h2
    go_wp2
    go_ret
    exact ⟨HX.out.1, .inr ⟨HX.out.2.1, rfl, HX.out.2.2⟩⟩
end Go.Proofs.YtncpcemcdmolcaaGreat

/-
  Numbers compared, the first that is not nought. No condition but the sizes.
-/
namespace Go.Proofs.YtncpcemcdmolcaaGreat
open Go.RowKit Go.BigFrame
set_option linter.unusedSimpArgs false
set_option linter.unusedVariables false
/-- -1, 0 or 1 -/
def cmpI (a b : Int) : Int := if a < b then -1 else if b < a then 1 else 0
theorem nan_any (a : Int) (w : World) : Calls Tryz.prog 166 #[.int .i64 a] w fun e w' => e = .returned (.bool false) ∧ w' = w := by
  go_enter Tryz.func166, Tryz.ntmps166
  go_wp2
  go_ret
  simp
theorem cmp_any (a b : Int) (w : World) : Calls Tryz.prog 162 #[.int .i64 a, .int .i64 b] w fun e w' => e = .returned (.int .i64 (cmpI a b)) ∧ w' = w := by
  by_cases h1 : a < b
  · have hd1 : decide (a < b) = true := decide_eq_true h1
    have hc : cmpI a b = -1 := if_pos h1
    rw [hc]
    go_enter Tryz.func162, Tryz.ntmps162
    go_wp2_with (first | (go_at_call 166; refine (nan_any _ _).mono ?_; rintro e w' ⟨rfl, rfl⟩))
    go_ret
    exact ⟨rfl, rfl⟩
  · have hd1 : decide (a < b) = false := decide_eq_false h1
    by_cases h2 : b < a
    · have hd2 : decide (b < a) = true := decide_eq_true h2
      have hc : cmpI a b = 1 := by rw [cmpI, if_neg h1, if_pos h2]
      rw [hc]
      go_enter Tryz.func162, Tryz.ntmps162
      go_wp2_with (first | (go_at_call 166; refine (nan_any _ _).mono ?_; rintro e w' ⟨rfl, rfl⟩))
      go_ret
      exact ⟨rfl, rfl⟩
    · have hd2 : decide (b < a) = false := decide_eq_false h2
      have hc : cmpI a b = 0 := by rw [cmpI, if_neg h1, if_neg h2]
      rw [hc]
      go_enter Tryz.func162, Tryz.ntmps162
      go_wp2_with (first | (go_at_call 166; refine (nan_any _ _).mono ?_; rintro e w' ⟨rfl, rfl⟩))
      go_ret
      exact ⟨rfl, rfl⟩
def orI (a b : Int) : Int := if a = 0 then b else a
theorem or_any (a b : Int) (g : Nat) (w : World) (h0 : w.cell? ⟨g, 0, none⟩ = some (.int .i64 a)) (h1 : w.cell? ⟨g, 1, none⟩ = some (.int .i64 b)) : Calls Tryz.prog 161 #[.slice (some ⟨g, 0, none⟩) 2 2] w fun e w' => e = .returned (.int .i64 (orI a b)) ∧ w' = w := by
  by_cases ha : a = 0
  · subst ha
    by_cases hb : b = 0
    · subst hb
      go_enter Tryz.func161, Tryz.ntmps161
      go_wp2
      go_rounds 3
      go_ret
      exact ⟨rfl, rfl⟩
    · have hd : (b == 0) = false := by simpa using hb
      have hd2 : (b != 0) = true := by simpa using hb
      go_enter Tryz.func161, Tryz.ntmps161
      go_wp2
      go_rounds 2
      go_ret
      exact ⟨rfl, rfl⟩
  · have hd : (a == 0) = false := by simpa using ha
    have hd2 : (a != 0) = true := by simpa using ha
    rw [show orI a b = a from if_neg ha]
    go_enter Tryz.func161, Tryz.ntmps161
    go_wp2
    go_rounds 1
    go_ret
    exact ⟨rfl, rfl⟩
end Go.Proofs.YtncpcemcdmolcaaGreat

/-
  A heap of holes: which of two comes first. Conditions: the row of holes reads as it is said to.
-/
namespace Go.Proofs.YtncpcemcdmolcaaGreat
open Go.RowKit Go.BigFrame
set_option linter.unusedSimpArgs false
set_option linter.unusedVariables false
/-- the holes of a row in block r -/
def ERow (w : World) (r : Nat) (xs : List (Nat × Nat)) : Prop := ∃ cs : Array Value, Blk w r 64 cs ∧ ∀ (k : Nat) (e : Nat × Nat), xs[k]? = some e → cs[k * 2]? = some (.int .i64 (e.1 : Int)) ∧ cs[k * 2 + 1]? = some (.int .i64 (e.2 : Int))
section
variable {w w' : World} {r : Nat} {xs : List (Nat × Nat)}
theorem ERow.get (h : ERow w r xs) {k : Nat} {e : Nat × Nat} (hk : xs[k]? = some e) : w.cell? ⟨r, k * 2, none⟩ = some (.int .i64 (e.1 : Int)) ∧ w.cell? ⟨r, k * 2 + 1, none⟩ = some (.int .i64 (e.2 : Int)) ∧ w.frozen? ⟨r, k * 2, none⟩ = false ∧ w.frozen? ⟨r, k * 2 + 1, none⟩ = false := by
  obtain ⟨cs, hb, hc⟩ := h
  obtain ⟨h1, h2⟩ := hc k e hk
  exact ⟨(hb.cell _).trans h1, (hb.cell _).trans h2, hb.frozen _, hb.frozen _⟩
theorem ERow.of (h : ERow w r xs) (e : w'.heap[r]? = w.heap[r]?) : ERow w' r xs := ⟨h.choose, h.choose_spec.1.of e, h.choose_spec.2⟩
theorem ERow.lt (h : ERow w r xs) : r < w.heap.size := h.choose_spec.1.lt
end
/-- does e come first? -/
def lgB (e q : Nat × Nat) : Bool := decide (orI (cmpI (q.2 : Int) (e.2 : Int)) (cmpI (e.1 : Int) (q.1 : Int)) < 0)
theorem lgB_iff (e q : Nat × Nat) : lgB e q = true ↔ Longer e q := by
  simp only [lgB, decide_eq_true_eq, orI, cmpI, Longer]
  by_cases h1 : (q.2 : Int) < (e.2 : Int)
  · simp only [h1, if_true]; simp; omega
  · by_cases h2 : (e.2 : Int) < (q.2 : Int)
    · simp only [h1, h2, if_true, if_false]; simp; omega
    · simp only [h1, h2, if_false, if_true]
      by_cases h3 : (e.1 : Int) < (q.1 : Int)
      · simp only [h3, if_true]; simp; omega
      · by_cases h4 : (q.1 : Int) < (e.1 : Int)
        · simp only [h3, h4, if_true, if_false]; simp; omega
        · simp only [h3, h4, if_false]; simp; omega
set_option maxRecDepth 100000 in
set_option maxHeartbeats 2000000 in
theorem less_any {w : World} {r n c i j : Nat} {xs : List (Nat × Nat)} (h : ERow w r xs) (e q : Nat × Nat) (hi : xs[i]? = some e) (hj : xs[j]? = some q) (hin : i < n) (hjn : j < n) (hn : n ≤ 1000000) :
    Calls Tryz.prog 186 #[.slice (some ⟨r, 0, none⟩) n c, .int .i64 i, .int .i64 j] w fun e' w' => e' = .returned (.bool (lgB e q)) ∧ Below w.heap.size w w' := by
  obtain ⟨a0, a1, -, -⟩ := h.get hi
  obtain ⟨b0, b1, -, -⟩ := h.get hj
  clear h hi hj
  go_enter Tryz.func186, Tryz.ntmps186
  go_wp2_with fail
  refine wp_region_still_tail 22 (by kernel_rfl) (by kernel_rfl) ?_
  simp only [List.take_succ_cons, List.take_zero, List.drop_succ_cons, List.drop_zero]
  repeat still_step
  still_call (cmp_any _ _ _)
  repeat still_step
  still_call (cmp_any _ _ _)
  repeat still_step
  refine wpStill_nil ?_
  change wpList _ _ _ _ _ w.drew
  have hb : Below w.heap.size w w.drew := (Below.refl _ _).drew
  have HL : Hid (lgB e q = decide (orI (cmpI (q.2 : Int) (e.2 : Int)) (cmpI (e.1 : Int) (q.1 : Int)) < 0)) := Lib.hid rfl
  generalize cmpI (q.2 : Int) (e.2 : Int) = ca at *
  generalize cmpI (e.1 : Int) (q.1 : Int) = cb at *
  generalize w.drew = w2 at *
  clear a0 a1 b0 b1
  have HO := Lib.hid (or_any ca cb w2.heap.size (w2.alloc (.cells #[.int .i64 ca, .int .i64 cb] 3)) ((Blk.new w2 3 #[.int .i64 ca, .int .i64 cb]).cell 0) ((Blk.new w2 3 #[.int .i64 ca, .int .i64 cb]).cell 1))
  have HB := Lib.hid (hb.alloc hb.size (.cells #[.int .i64 ca, .int .i64 cb] 3))
  clear hb
  go_wp2_with fail
  refine HO.out.mono ?_
  rintro e3 w3 ⟨rfl, rfl⟩
  go_wp2
  go_ret
  rw [HL.out]
  exact ⟨rfl, HB.out⟩
end Go.Proofs.YtncpcemcdmolcaaGreat

/-
  A heap of holes: two of them change places; how many there are; the last one goes. Conditions: the row of holes reads as it is said to.
-/
namespace Go.Proofs.YtncpcemcdmolcaaGreat
open Go.RowKit Go.BigFrame
set_option linter.unusedSimpArgs false
set_option linter.unusedVariables false
/-- two change places -/
def swapL (xs : List (Nat × Nat)) (i j : Nat) : List (Nat × Nat) := (xs.set i (xs.getD j (0, 0))).set j (xs.getD i (0, 0))
theorem ERow.sets {w : World} {r : Nat} {xs : List (Nat × Nat)} (h : ERow w r xs) {i : Nat} (hi : i < xs.length) (e : Nat × Nat) : ERow ((w.setCell ⟨r, i * 2, none⟩ (.int .i64 (e.1 : Int))).setCell ⟨r, i * 2 + 1, none⟩ (.int .i64 (e.2 : Int))) r (xs.set i e) := by
  obtain ⟨cs, hb, hc⟩ := h
  refine ⟨_, (hb.set_ (i * 2) _).set_ (i * 2 + 1) _, fun k q hk => ?_⟩
  have h0 := hc i _ (List.getElem?_eq_getElem hi)
  have l0 := (Array.getElem?_eq_some_iff.1 h0.1).1
  have l1 := (Array.getElem?_eq_some_iff.1 h0.2).1
  rw [List.getElem?_set] at hk
  simp only [Array.getElem?_setIfInBounds, Array.size_setIfInBounds]
  by_cases he : i = k
  · subst he
    rw [if_pos rfl, if_pos hi] at hk
    injection hk with hk
    subst hk
    constructor
    · rw [if_neg (by omega), if_pos rfl, if_pos l0]
    · rw [if_pos rfl, if_pos l1]
  · rw [if_neg he] at hk
    have := hc k q hk
    constructor
    · rw [if_neg (by omega), if_neg (by omega)]; exact this.1
    · rw [if_neg (by omega), if_neg (by omega)]; exact this.2
set_option maxRecDepth 100000 in
set_option maxHeartbeats 2000000 in
theorem swap_any {w : World} {r n c i j : Nat} {xs : List (Nat × Nat)} (h : ERow w r xs) (hij : i ≠ j) (hi : i < xs.length) (hj : j < xs.length) (hn : xs.length ≤ n) (hn2 : n ≤ 1000000) :
    Calls Tryz.prog 187 #[.slice (some ⟨r, 0, none⟩) n c, .int .i64 i, .int .i64 j] w fun e' w' => e' = .returned (.tuple #[]) ∧ ERow w' r (swapL xs i j) ∧ Only [r] w w' ∧ w'.heap.size = w.heap.size := by
  obtain ⟨e, he⟩ : ∃ e, xs[i]? = some e := ⟨_, List.getElem?_eq_getElem hi⟩
  obtain ⟨q, hq⟩ : ∃ q, xs[j]? = some q := ⟨_, List.getElem?_eq_getElem hj⟩
  obtain ⟨a0, a1, a2, a3⟩ := h.get he
  obtain ⟨b0, b1, b2, b3⟩ := h.get hq
  have H := Lib.hid h
  have HS : Hid (swapL xs i j = (xs.set i q).set j e) := Lib.hid (by simp only [swapL, List.getD_eq_getElem?_getD, he, hq, Option.getD_some])
  clear h he hq
  go_enter Tryz.func187, Tryz.ntmps187
  go_wp2
  go_region
  all_goals go_wp2
  all_goals
    refine bodyPost_end (results_none rfl _ _ _) rfl ?_
    rw [HS.out]
    refine ⟨rfl, ?_, ?_, ?_⟩
    · have h1 := H.out.sets hi q
      exact (h1.sets (i := j) (by simpa using hj) e).of rfl
    · exact (((((Only.refl [r] w).setCell (.inl (by simp)) _).setCell (.inl (by simp)) _).setCell (.inl (by simp)) _).setCell (.inl (by simp)) _).drew
    · simp [World.setCell]
set_option maxRecDepth 100000 in
set_option maxHeartbeats 2000000 in
theorem swap_same {w : World} {r n c i : Nat} {xs : List (Nat × Nat)} (h : ERow w r xs) (hi : i < xs.length) (hn : xs.length ≤ n) (hn2 : n ≤ 1000000) :
    Calls Tryz.prog 187 #[.slice (some ⟨r, 0, none⟩) n c, .int .i64 i, .int .i64 i] w fun e' w' => e' = .returned (.tuple #[]) ∧ ERow w' r xs ∧ Only [r] w w' ∧ w'.heap.size = w.heap.size := by
  obtain ⟨e, he⟩ : ∃ e, xs[i]? = some e := ⟨_, List.getElem?_eq_getElem hi⟩
  obtain ⟨a0, a1, a2, a3⟩ := h.get he
  have H := Lib.hid h
  have HS : Hid (xs = (xs.set i e).set i e) := Lib.hid (by
    rw [List.set_set]
    apply List.ext_getElem?
    intro k
    rw [List.getElem?_set]
    by_cases hk : i = k
    · subst hk; rw [if_pos rfl, if_pos hi, he]
    · rw [if_neg hk])
  clear h he
  go_enter Tryz.func187, Tryz.ntmps187
  go_wp2
  go_region
  all_goals go_wp2
  all_goals
    refine bodyPost_end (results_none rfl _ _ _) rfl ?_
    refine ⟨rfl, ?_, ?_, ?_⟩
    · have h1 := H.out.sets hi e
      have h2 := (h1.sets (i := i) (by simpa using hi) e)
      rw [← HS.out] at h2
      exact h2.of rfl
    · exact (((((Only.refl [r] w).setCell (.inl (by simp)) _).setCell (.inl (by simp)) _).setCell (.inl (by simp)) _).setCell (.inl (by simp)) _).drew
    · simp [World.setCell]
/-- a heap of holes: its variable, its row -/
structure HAt (w : World) (hb r c : Nat) (xs : List (Nat × Nat)) : Prop where
  box : Blk w hb 190 #[.slice (some ⟨r, 0, none⟩) xs.length c]
  row : ERow w r xs
  cap : xs.length ≤ c
  lim : xs.length ≤ 65536
theorem HAt.ne {w : World} {hb r c : Nat} {xs : List (Nat × Nat)} (h : HAt w hb r c xs) : hb ≠ r := h.box.ne_ h.row.choose_spec.1 (by decide)
theorem ERow.take {w : World} {r : Nat} {xs : List (Nat × Nat)} (h : ERow w r xs) (k : Nat) : ERow w r (xs.take k) :=
  ⟨h.choose, h.choose_spec.1, fun j e hj => h.choose_spec.2 j e (by
    rw [List.getElem?_take] at hj
    split at hj
    · exact hj
    · cases hj)⟩
theorem hlen_any (n c : Nat) (A : Option Addr) (w : World) : Calls Tryz.prog 185 #[.slice A n c] w fun e w' => e = .returned (.int .i64 n) ∧ w' = w := by
  go_enter Tryz.func185, Tryz.ntmps185
  go_wp2
  go_ret
  exact ⟨rfl, rfl⟩
theorem run_head_long (A : Option Addr) (n c i : Nat) (h : i ≤ c) (w : World) : (Instr.slice 190 (.slice A n c) none (some (.int .i64 (i : Int))) none).run Tryz.prog w = .ok (.slice (if c = 0 then A else A.map (·.add 0)) i c) w := by
  have hsz : ∀ w, (sizeOf (Tryz.prog.elem 190)).run Tryz.prog w = .ok 2 w := fun w => by kernel_rfl
  rw [run_slice_h w 190 A n c (by kernel_rfl) .i64 (i : Int) (by omega) (by omega), hsz]
  simp [Result.andThen, sliced]
set_option maxRecDepth 100000 in
set_option maxHeartbeats 2000000 in
theorem hpop_any {w : World} {hb r c : Nat} {xs : List (Nat × Nat)} {e : Nat × Nat} (h : HAt w hb r c (xs ++ [e])) :
    Calls Tryz.prog 188 #[.pointer (some ⟨hb, 0, none⟩)] w fun e' w' => e' = .returned (.iface 64 (.agg #[.int .i64 (e.1 : Int), .int .i64 (e.2 : Int)])) ∧ HAt w' hb r c xs ∧ Only [hb] w w' := by
  have H := Lib.hid h
  have hc := h.cap
  have hlim := h.lim
  have hne := h.ne
  have q0 : w.cell? ⟨hb, 0, none⟩ = some (.slice (some ⟨r, 0, none⟩) (xs.length + 1) c) := by have := h.box.cell 0; simpa using this
  have q1 : w.frozen? ⟨hb, 0, none⟩ = false := h.box.frozen 0
  have q2 : ∀ o, (w.alloc o).cell? ⟨hb, 0, none⟩ = some (.slice (some ⟨r, 0, none⟩) (xs.length + 1) c) := fun o => (World.cell?_alloc_lt w o _ h.box.lt).trans q0
  have q3 : ∀ o, (w.alloc o).frozen? ⟨hb, 0, none⟩ = false := fun o => (h.box.alloc o).frozen 0
  have hbl := h.box.lt
  obtain ⟨a0, a1, -, -⟩ := h.row.get (k := xs.length) (e := e) (by simp)
  have hsl := fun (w : World) => run_head_long (some ⟨r, 0, none⟩) (xs.length + 1) c xs.length (by simp at hc; omega) w
  have hadd : (if c = 0 then some (⟨r, 0, none⟩ : Addr) else Option.map (fun x => Addr.add x 0) (some ⟨r, 0, none⟩)) = some ⟨r, 0, none⟩ := by split <;> simp [Addr.add]
  rw [hadd] at hsl
  simp only [List.length_append, List.length_singleton] at hc hlim
  have hnw : hb ≠ w.heap.size := by omega
  clear h hadd
  go_enter Tryz.func188, Tryz.ntmps188
  go_wp2
  go_ret
  have h := H.out
  refine ⟨rfl, ⟨(h.box.set_ 0 _).alloc _, ?_, by omega, by omega⟩, ((Only.refl [hb] w).setCell (.inl (by simp)) _).alloc _⟩
  have h1 := (h.row.take xs.length)
  rw [List.take_left' rfl] at h1
  have h2 : ERow (w.setCell ⟨hb, 0, none⟩ (.slice (some ⟨r, 0, none⟩) xs.length c)) r xs := h1.of (Below.heap_setCell _ _ _ _ (by show r ≠ hb; exact fun e => hne e.symm))
  exact h2.of (Below.heap_alloc _ _ _ h2.lt)
end Go.Proofs.YtncpcemcdmolcaaGreat

/-
  Heaps of holes, the plain part. No condition; nothing of the program is named.
-/
namespace Go.Proofs.YtncpcemcdmolcaaGreat
set_option linter.unusedSimpArgs false
set_option linter.unusedVariables false
def gx (xs : List (Nat × Nat)) (i : Nat) : Nat × Nat := xs.getD i (0, 0)
theorem gx_some {xs : List (Nat × Nat)} {i : Nat} (h : i < xs.length) : xs[i]? = some (gx xs i) := by
  simp [gx, List.getD_eq_getElem?_getD, List.getElem?_eq_getElem h]
theorem gx_of {xs : List (Nat × Nat)} {i : Nat} {e : Nat × Nat} (h : xs[i]? = some e) : gx xs i = e := by
  simp [gx, List.getD_eq_getElem?_getD, h]
theorem swapL_len (xs : List (Nat × Nat)) (i j : Nat) : (swapL xs i j).length = xs.length := by simp [swapL]
theorem gx_swap {xs : List (Nat × Nat)} {i j : Nat} (hi : i < xs.length) (hj : j < xs.length) (k : Nat) : gx (swapL xs i j) k = if k = j then gx xs i else if k = i then gx xs j else gx xs k := by
  by_cases h1 : k = j
  · subst h1
    rw [if_pos rfl]
    refine gx_of ?_
    simp only [swapL]
    rw [List.getElem?_set, if_pos rfl, if_pos (by simpa using hj)]
    rfl
  · rw [if_neg h1]
    by_cases h2 : k = i
    · subst h2
      rw [if_pos rfl]
      refine gx_of ?_
      simp only [swapL]
      rw [List.getElem?_set, if_neg (fun h => h1 h.symm), List.getElem?_set, if_pos rfl, if_pos hi]
      rfl
    · rw [if_neg h2]
      simp only [gx, swapL, List.getD_eq_getElem?_getD]
      rw [List.getElem?_set, if_neg (fun h => h1 h.symm), List.getElem?_set, if_neg (fun h => h2 h.symm)]
theorem swapL_perm {xs : List (Nat × Nat)} {i j : Nat} (hi : i < xs.length) (hj : j < xs.length) : (swapL xs i j).Perm xs := by
  have := List.set_set_perm hi hj
  simp only [swapL, List.getD_eq_getElem?_getD, List.getElem?_eq_getElem hi, List.getElem?_eq_getElem hj, Option.getD_some]
  exact this
def Kid (i j : Nat) : Prop := j = 2 * i + 1 ∨ j = 2 * i + 2
theorem nl_trans {a b c : Nat × Nat} (h1 : ¬ Longer b a) (h2 : ¬ Longer c b) : ¬ Longer c a := by
  simp only [Longer] at *; omega
theorem longer_asymm {a b : Nat × Nat} (h : Longer a b) : ¬ Longer b a := by
  simp only [Longer] at *; omega
/-- of the first n, none from k on is behind one of its kids -/
def HFrom (xs : List (Nat × Nat)) (n k : Nat) : Prop := ∀ i j, Kid i j → k ≤ i → j < n → ¬ Longer (gx xs j) (gx xs i)
/-- the same, but for number k -/
def HBut (xs : List (Nat × Nat)) (n i0 k : Nat) : Prop :=
  (∀ i j, Kid i j → i0 ≤ i → j < n → i ≠ k → ¬ Longer (gx xs j) (gx xs i)) ∧ (∀ p j, Kid p k → Kid k j → i0 ≤ p → j < n → ¬ Longer (gx xs j) (gx xs p))
theorem HFrom.but {xs : List (Nat × Nat)} {n i0 : Nat} (h : HFrom xs n (i0 + 1)) : HBut xs n i0 i0 :=
  ⟨fun i j hk hi hj hne => h i j hk (by omega) hj, fun p j hp _ hi _ => by simp only [Kid] at hp; omega⟩
theorem HFrom.half (xs : List (Nat × Nat)) (n : Nat) : HFrom xs n (n / 2) := by
  intro i j hk hi hj
  simp only [Kid] at hk
  omega
theorem HBut.done {xs : List (Nat × Nat)} {n i0 k : Nat} (h : HBut xs n i0 k) (hk : ∀ j, Kid k j → j < n → ¬ Longer (gx xs j) (gx xs k)) : HFrom xs n i0 := by
  intro i j hij hi hj
  by_cases he : i = k
  · subst he; exact hk j hij hj
  · exact h.1 i j hij hi hj he
theorem HBut.step {xs : List (Nat × Nat)} {n i0 k j : Nat} (h : HBut xs n i0 k) (hn : n ≤ xs.length) (hkj : Kid k j) (hj : j < n) (hk : i0 ≤ k) (hl : Longer (gx xs j) (gx xs k)) (hb : ∀ j', Kid k j' → j' < n → ¬ Longer (gx xs j') (gx xs j)) : HBut (swapL xs k j) n i0 j := by
  have hlt : k < j := by simp only [Kid] at hkj; omega
  have G := gx_swap (xs := xs) (i := k) (j := j) (by omega) (by omega)
  constructor
  · intro i m him hi hm hne
    rw [G m, G i, if_neg hne]
    by_cases h1 : i = k
    · subst h1
      rw [if_pos rfl]
      by_cases h2 : m = j
      · rw [if_pos h2]; exact longer_asymm hl
      · rw [if_neg h2, if_neg (by simp only [Kid] at him; omega)]
        exact hb m him hm
    · rw [if_neg h1]
      by_cases h2 : m = j
      · simp only [Kid] at him hkj; omega
      · rw [if_neg h2]
        by_cases h3 : m = k
        · subst h3
          rw [if_pos rfl]
          exact h.2 i j him hkj hi hj
        · rw [if_neg h3]
          exact h.1 i m him hi hm h1
  · intro p m hp hm hip hmn
    have hpk : p = k := by simp only [Kid] at hp hkj; omega
    subst hpk
    have hmj : m ≠ j := by simp only [Kid] at hm; omega
    have hmp : m ≠ p := by simp only [Kid] at hm; omega
    rw [G m, if_neg hmj, if_neg hmp, G p, if_neg (by omega), if_pos rfl]
    exact h.1 j m hm (by omega) hmn (by omega)
theorem HFrom.top {xs : List (Nat × Nat)} {n : Nat} (h : HFrom xs n 0) : ∀ j, j < n → ¬ Longer (gx xs j) (gx xs 0) := by
  intro j
  induction j using Nat.strongRecOn with
  | _ j ih =>
    intro hj
    by_cases h0 : j = 0
    · subst h0; simp [Longer]
    · have hk : Kid ((j - 1) / 2) j := by simp only [Kid]; omega
      exact nl_trans (ih ((j - 1) / 2) (by omega) (by omega)) (h _ _ hk (by omega) hj)
theorem HFrom.is_top {xs : List (Nat × Nat)} (h : HFrom xs xs.length 0) (h0 : 0 < xs.length) : Top xs (gx xs 0) := by
  refine ⟨List.mem_of_getElem? (gx_some h0), fun q hq => ?_⟩
  obtain ⟨j, hj, rfl⟩ := List.mem_iff_getElem.1 hq
  have := h.top j hj
  rw [gx_of (List.getElem?_eq_getElem hj)] at this
  by_cases he : xs[j] = gx xs 0
  · exact .inl he
  · right
    have hne : ¬ (xs[j].1 = (gx xs 0).1 ∧ xs[j].2 = (gx xs 0).2) := fun h => he (Prod.ext h.1 h.2)
    simp only [Longer] at *
    omega
/-- the top goes to the end -/
theorem HFrom.last {xs : List (Nat × Nat)} {n : Nat} (h : HFrom xs (n + 1) 0) (hn : xs.length = n + 1) : HFrom (swapL xs 0 n) n 1 := by
  have G := gx_swap (xs := xs) (i := 0) (j := n) (by omega) (by omega)
  intro i j hk hi hj
  have hij : i < j := by simp only [Kid] at hk; omega
  rw [G j, G i, if_neg (by omega), if_neg (by omega), if_neg (by omega), if_neg (by omega)]
  exact h i j hk (by omega) (by omega)
theorem HFrom.prefix_ {xs : List (Nat × Nat)} {e : Nat × Nat} (h : HFrom (xs ++ [e]) xs.length 0) : HFrom xs xs.length 0 := by
  intro i j hk hi hj
  have hij : i < j := by simp only [Kid] at hk; omega
  have := h i j hk hi hj
  have hg : ∀ k, k < xs.length → gx (xs ++ [e]) k = gx xs k := fun k hk => gx_of (by rw [List.getElem?_append_left hk]; exact gx_some hk)
  rw [hg j hj, hg i (by omega)] at this
  exact this
end Go.Proofs.YtncpcemcdmolcaaGreat

/-
  A heap's methods by name. Conditions: the variable reads as it is said to.
-/
namespace Go.Proofs.YtncpcemcdmolcaaGreat
open Go.RowKit Go.BigFrame
set_option linter.unusedSimpArgs false
set_option linter.unusedVariables false
theorem load_long (w : World) (g : Nat) (A : Option Addr) (n c : Nat) (h : w.cell? ⟨g, 0, none⟩ = some (.slice A n c)) : (loadVar 190 ⟨g, 0, none⟩).run Tryz.prog w = .ok (.slice A n c) w := by
  simp [loadVar, h]
theorem meth_pop (w : World) (f : Nat) (g : Nat) : (method (f + 1) 192 (.pointer (some ⟨g, 0, none⟩)) "Pop").run Tryz.prog w = .ok (188, .pointer (some ⟨g, 0, none⟩)) w := by
  kernel_rfl
theorem nil_chk (w : World) (g : Nat) (s : String) : (Builtin.ssaWrapNilChk_ #[192] 192 #[.pointer (some ⟨g, 0, none⟩), strVal "", strVal s]).run Tryz.prog w = .ok (.pointer (some ⟨g, 0, none⟩)) w := by
  kernel_rfl
theorem meth_of (w : World) (f g : Nat) (v : Value) (s : String) (k : FuncId) (hv : (loadVar 190 ⟨g, 0, none⟩).run Tryz.prog w = .ok v w)
    (hm : ((Tryz.prog.info? 192).bind fun i => (i.methods.find? fun m => m.name == s).map fun m => (m.path, m.func)) = some (#[], some (k, false))) :
    (method (f + 1) 192 (.pointer (some ⟨g, 0, none⟩)) s).run Tryz.prog w = .ok (k, v) w := by
  have hu : Tryz.prog.underlying 192 = some (.pointer 190) := by kernel_rfl
  cases hi : Tryz.prog.info? 192 with
  | none => rw [hi] at hm; cases hm
  | some i =>
    rw [hi] at hm
    simp only [Option.bind_some] at hm
    cases h1 : i.methods.find? fun m => m.name == s with
    | none => rw [h1] at hm; cases hm
    | some m =>
      rw [h1] at hm
      simp only [Option.map_some, Option.some.injEq, Prod.mk.injEq] at hm
      obtain ⟨h2, h3⟩ := hm
      unfold method
      simp [typeInfo, hi, h1, h2, h3, follow, receiverAt, run_underlying hu, Place.get, nil_chk, asAddr, hv]
theorem meth_less (w : World) (f g n c : Nat) (A : Option Addr) (h : w.cell? ⟨g, 0, none⟩ = some (.slice A n c)) : (method (f + 1) 192 (.pointer (some ⟨g, 0, none⟩)) "Less").run Tryz.prog w = .ok (186, .slice A n c) w :=
  meth_of w f g _ _ _ (load_long w g A n c h) (by kernel_rfl)
theorem meth_swap (w : World) (f g n c : Nat) (A : Option Addr) (h : w.cell? ⟨g, 0, none⟩ = some (.slice A n c)) : (method (f + 1) 192 (.pointer (some ⟨g, 0, none⟩)) "Swap").run Tryz.prog w = .ok (187, .slice A n c) w :=
  meth_of w f g _ _ _ (load_long w g A n c h) (by kernel_rfl)
theorem meth_len (w : World) (f g n c : Nat) (A : Option Addr) (h : w.cell? ⟨g, 0, none⟩ = some (.slice A n c)) : (method (f + 1) 192 (.pointer (some ⟨g, 0, none⟩)) "Len").run Tryz.prog w = .ok (185, .slice A n c) w :=
  meth_of w f g _ _ _ (load_long w g A n c h) (by kernel_rfl)
theorem HAt.of {w w' : World} {hb r c : Nat} {xs : List (Nat × Nat)} (h : HAt w hb r c xs) (e1 : w'.heap[hb]? = w.heap[hb]?) (e2 : w'.heap[r]? = w.heap[r]?) : HAt w' hb r c xs :=
  ⟨h.box.of e1, h.row.of e2, h.cap, h.lim⟩
theorem HAt.cell {w : World} {hb r c : Nat} {xs : List (Nat × Nat)} (h : HAt w hb r c xs) : w.cell? ⟨hb, 0, none⟩ = some (.slice (some ⟨r, 0, none⟩) xs.length c) := by
  have := h.box.cell 0; simpa using this
end Go.Proofs.YtncpcemcdmolcaaGreat

/-
  A heap of holes: one hole sinks to its place. Conditions: the heap reads as it is said to, and only that hole is out of place.
-/
namespace Go.Proofs.YtncpcemcdmolcaaGreat
open Go.RowKit Go.BigFrame
set_option linter.unusedSimpArgs false
set_option linter.unusedVariables false
theorem HAt.below {w w' : World} {hb r c : Nat} {xs : List (Nat × Nat)} (h : HAt w hb r c xs) (b : Below w.heap.size w w') : HAt w' hb r c xs :=
  h.of (b.block hb h.box.lt) (b.block r h.row.lt)
theorem less_gx {w : World} {hb r c : Nat} {ys : List (Nat × Nat)} (h : HAt w hb r c ys) (i j m : Nat) (I J : Int) (hi : i < ys.length) (hj : j < ys.length) (hm : ys.length = m) (hI : I = (i : Int)) (hJ : J = (j : Int)) :
    Calls Tryz.prog 186 #[.slice (some ⟨r, 0, none⟩) m c, .int .i64 I, .int .i64 J] w fun e' w' => e' = .returned (.bool (lgB (gx ys i) (gx ys j))) ∧ Below w.heap.size w w' := by
  subst hI hJ hm
  have := h.lim
  exact less_any h.row _ _ (gx_some hi) (gx_some hj) hi hj (by omega)
theorem swap_gx {w : World} {hb r c : Nat} {ys : List (Nat × Nat)} (h : HAt w hb r c ys) (i j m : Nat) (I J : Int) (hij : i ≠ j) (hi : i < ys.length) (hj : j < ys.length) (hm : ys.length = m) (hI : I = (i : Int)) (hJ : J = (j : Int)) :
    Calls Tryz.prog 187 #[.slice (some ⟨r, 0, none⟩) m c, .int .i64 I, .int .i64 J] w fun e' w' => e' = .returned (.tuple #[]) ∧ HAt w' hb r c (swapL ys i j) ∧ Only [hb, r] w w' := by
  subst hI hJ hm
  have hl := h.lim
  have hs := Lib.hid (swapL_len ys i j)
  refine (swap_any (c := c) h.row hij hi hj (Nat.le_refl _) (by omega)).mono ?_
  rintro e w' ⟨rfl, hr, ho, -⟩
  refine ⟨rfl, ⟨?_, hr, by rw [hs.out]; exact h.cap, by rw [hs.out]; exact h.lim⟩, ho.mono (by simp)⟩
  rw [hs.out]
  exact h.box.of (ho.block hb h.box.lt (by simpa using h.ne))
theorem nl_refl (a : Nat × Nat) : ¬ Longer a a := by simp [Longer]
set_option maxRecDepth 100000 in
set_option maxHeartbeats 4000000 in
theorem down_any {w : World} {hb r c i0 n : Nat} {xs : List (Nat × Nat)} (h : HAt w hb r c xs) (hn : n ≤ xs.length) (hi : i0 ≤ 65536) (hbut : HBut xs n i0 i0) :
    Calls Tryz.prog 156 #[.iface 192 (.pointer (some ⟨hb, 0, none⟩)), .int .i64 i0, .int .i64 n] w fun e' w' => (∃ b, e' = .returned (.bool b)) ∧ ∃ ys, HAt w' hb r c ys ∧ ys.Perm xs ∧ HFrom ys n i0 ∧ (∀ j, n ≤ j → gx ys j = gx xs j) ∧ Only [hb, r] w w' := by
  have HH := Lib.hid h
  have HB := Lib.hid hbut
  have hlim := h.lim
  clear h hbut
  go_enter Tryz.func156, Tryz.ntmps156
  go_wp2
  go_loopw [7] (fun i wr => ∃ (k : Nat) (ys : List (Nat × Nat)), i0 ≤ k ∧ k ≤ 65536 ∧ i = .int .i64 k ∧ HAt wr hb r c ys ∧ ys.Perm xs ∧ HBut ys n i0 k ∧ (∀ j, n ≤ j → gx ys j = gx xs j) ∧ Only [hb, r] w wr) (fun i _ => 65537 - (intS i).toNat)
  case atStart => exact ⟨i0, xs, by omega, by omega, rfl, HH.out, List.Perm.refl _, HB.out, fun _ _ => rfl, Only.refl _ _⟩
  case round =>
    obtain ⟨k, ys, hk0, hk, rfl, ha, hp, hbt, hun, ho⟩ := hrel
    obtain ⟨wo, hwo⟩ : ∃ wo, wo = wr := ⟨_, rfl⟩
    subst hwo
    have hlen := hp.length_eq
    have HA := Lib.hid ha
    have HO := Lib.hid ho
    have HP := Lib.hid (And.intro hp (And.intro hbt hun))
    clear ha hp hbt hun ho
    have hw1 : IntKind.i64.wrap (2 * (k : Int)) = 2 * (k : Int) := by rw [IntKind.wrap_i64]; omega
    have hw2 : IntKind.i64.wrap (2 * (k : Int) + 1) = 2 * (k : Int) + 1 := by rw [IntKind.wrap_i64]; omega
    have hw3 : IntKind.i64.wrap (2 * (k : Int) + 1 + 1) = 2 * (k : Int) + 1 + 1 := by rw [IntKind.wrap_i64]; omega
    by_cases h1 : 2 * k + 1 < n
    · have hd0 : decide ((n : Int) ≤ 2 * (k : Int) + 1) = false := decide_eq_false (by omega)
      have hd0' : decide (2 * (k : Int) + 1 < 0) = false := decide_eq_false (by omega)
      by_cases h2 : 2 * k + 2 < n
      · have hd1 : decide (2 * (k : Int) + 1 + 1 < (n : Int)) = true := decide_eq_true (by omega)
        have HL := Lib.hid (less_gx HA.out (2 * k + 2) (2 * k + 1) xs.length (2 * (k : Int) + 1 + 1) (2 * (k : Int) + 1) (by omega) (by omega) hlen (by omega) (by omega))
        have hm := fun f => meth_less wo f hb _ _ _ HA.out.cell
        go_wp2_with fail
        refine HL.out.mono ?_
        rintro e1 w1 ⟨rfl, hb1⟩
        have HA1 : Hid (HAt w1 hb r c ys) := Lib.hid (HA.out.below hb1)
        have HO1 : Hid (Only [hb, r] w w1) := Lib.hid (HO.out.trans (Only.of_below hb1 _) (Fresh.refl _ _))
        have HLB : Hid (lgB (gx ys (2 * k + 2)) (gx ys (2 * k + 1)) = true ↔ Longer (gx ys (2 * k + 2)) (gx ys (2 * k + 1))) := Lib.hid (lgB_iff _ _)
        clear HL hm HA HO hb1
        have HA := HA1
        have HO := HO1
        clear HA1 HO1
        cases hlb0 : lgB (gx ys (2 * k + 2)) (gx ys (2 * k + 1))
        · have HBE : Hid (∀ j', Kid k j' → j' < n → ¬ Longer (gx ys j') (gx ys (2 * k + 1))) := Lib.hid (fun j' hj' _ => by
            rcases hj' with rfl | rfl
            · exact nl_refl _
            · intro hh
              have := HLB.out.2 hh
              rw [hlb0] at this
              cases this)
          clear HLB
          have HL := Lib.hid (less_gx HA.out (2 * k + 1) k xs.length (2 * (k : Int) + 1) (k : Int) (by omega) (by omega) hlen (by omega) (by omega))
          have hm := fun f => meth_less w1 f hb _ _ _ HA.out.cell
          go_wp2_with fail
          refine HL.out.mono ?_
          rintro e2 w2 ⟨rfl, hb2⟩
          have HA2 : Hid (HAt w2 hb r c ys) := Lib.hid (HA.out.below hb2)
          have HO2 : Hid (Only [hb, r] w w2) := Lib.hid (HO.out.trans (Only.of_below hb2 _) (Fresh.refl _ _))
          have HLB : Hid (lgB (gx ys (2 * k + 1)) (gx ys k) = true ↔ Longer (gx ys (2 * k + 1)) (gx ys k)) := Lib.hid (lgB_iff _ _)
          clear HL hm HO HA hb2
          cases hlb : lgB (gx ys (2 * k + 1)) (gx ys k)
          · go_wp2
            go_ret
            refine ⟨⟨_, rfl⟩, ys, HA2.out, HP.out.1, HP.out.2.1.done fun j' hk' hj' => nl_trans (fun hh => ?_) (HBE.out j' hk' hj'), HP.out.2.2, HO2.out⟩
            have := HLB.out.2 hh
            rw [hlb] at this
            cases this
          · have hlg := HLB.out.1 hlb
            have HSW := Lib.hid (swap_gx HA2.out k (2 * k + 1) xs.length (k : Int) (2 * (k : Int) + 1) (by omega) (by omega) (by omega) hlen (by omega) (by omega))
            have HST := Lib.hid (HP.out.2.1.step (j := 2 * k + 1) (by omega) (.inl rfl) (by omega) hk0 hlg HBE.out)
            have HPE := Lib.hid (swapL_perm (xs := ys) (i := k) (j := 2 * k + 1) (by omega) (by omega))
            have HGX := Lib.hid (gx_swap (xs := ys) (i := k) (j := 2 * k + 1) (by omega) (by omega))
            have hm := fun f => meth_swap w2 f hb _ _ _ HA2.out.cell
            clear hlg
            go_wp2_with fail
            refine HSW.out.mono ?_
            rintro e3 w3 ⟨rfl, ha3, ho3⟩
            have HA3 := Lib.hid ha3
            have HO3 := Lib.hid (HO2.out.trans ho3 (Fresh.refl _ _))
            clear hm HSW ha3 ho3
            go_wp2
            go_roundw
            case rel =>
              refine ⟨2 * k + 1, swapL ys k (2 * k + 1), by omega, by omega, by go_num, HA3.out, HPE.out.trans HP.out.1, HST.out, fun j' hj' => ?_, HO3.out⟩
              rw [HGX.out j', if_neg (show ¬ j' = 2 * k + 1 by omega), if_neg (show ¬ j' = k by omega)]
              exact HP.out.2.2 j' hj'
            case measure => simp [intS]; omega
        · have HBE : Hid (∀ j', Kid k j' → j' < n → ¬ Longer (gx ys j') (gx ys (2 * k + 2))) := Lib.hid (fun j' hj' _ => by
            rcases hj' with rfl | rfl
            · exact longer_asymm (HLB.out.1 hlb0)
            · exact nl_refl _)
          clear HLB
          have HL := Lib.hid (less_gx HA.out (2 * k + 2) k xs.length (2 * (k : Int) + 1 + 1) (k : Int) (by omega) (by omega) hlen (by omega) (by omega))
          have hm := fun f => meth_less w1 f hb _ _ _ HA.out.cell
          go_wp2_with fail
          refine HL.out.mono ?_
          rintro e2 w2 ⟨rfl, hb2⟩
          have HA2 : Hid (HAt w2 hb r c ys) := Lib.hid (HA.out.below hb2)
          have HO2 : Hid (Only [hb, r] w w2) := Lib.hid (HO.out.trans (Only.of_below hb2 _) (Fresh.refl _ _))
          have HLB : Hid (lgB (gx ys (2 * k + 2)) (gx ys k) = true ↔ Longer (gx ys (2 * k + 2)) (gx ys k)) := Lib.hid (lgB_iff _ _)
          clear HL hm HO HA hb2
          cases hlb : lgB (gx ys (2 * k + 2)) (gx ys k)
          · go_wp2
            go_ret
            refine ⟨⟨_, rfl⟩, ys, HA2.out, HP.out.1, HP.out.2.1.done fun j' hk' hj' => nl_trans (fun hh => ?_) (HBE.out j' hk' hj'), HP.out.2.2, HO2.out⟩
            have := HLB.out.2 hh
            rw [hlb] at this
            cases this
          · have hlg := HLB.out.1 hlb
            have HSW := Lib.hid (swap_gx HA2.out k (2 * k + 2) xs.length (k : Int) (2 * (k : Int) + 1 + 1) (by omega) (by omega) (by omega) hlen (by omega) (by omega))
            have HST := Lib.hid (HP.out.2.1.step (j := 2 * k + 2) (by omega) (.inr rfl) (by omega) hk0 hlg HBE.out)
            have HPE := Lib.hid (swapL_perm (xs := ys) (i := k) (j := 2 * k + 2) (by omega) (by omega))
            have HGX := Lib.hid (gx_swap (xs := ys) (i := k) (j := 2 * k + 2) (by omega) (by omega))
            have hm := fun f => meth_swap w2 f hb _ _ _ HA2.out.cell
            clear hlg
            go_wp2_with fail
            refine HSW.out.mono ?_
            rintro e3 w3 ⟨rfl, ha3, ho3⟩
            have HA3 := Lib.hid ha3
            have HO3 := Lib.hid (HO2.out.trans ho3 (Fresh.refl _ _))
            clear hm HSW ha3 ho3
            go_wp2
            go_roundw
            case rel =>
              refine ⟨2 * k + 2, swapL ys k (2 * k + 2), by omega, by omega, by go_num, HA3.out, HPE.out.trans HP.out.1, HST.out, fun j' hj' => ?_, HO3.out⟩
              rw [HGX.out j', if_neg (show ¬ j' = 2 * k + 2 by omega), if_neg (show ¬ j' = k by omega)]
              exact HP.out.2.2 j' hj'
            case measure => simp [intS]; omega
      · have hd1 : decide (2 * (k : Int) + 1 + 1 < (n : Int)) = false := decide_eq_false (by omega)
        have HBE : Hid (∀ j', Kid k j' → j' < n → ¬ Longer (gx ys j') (gx ys (2 * k + 1))) := Lib.hid (fun j' hj' hh => by
          rcases hj' with rfl | rfl
          · exact nl_refl _
          · omega)
        have HL := Lib.hid (less_gx HA.out (2 * k + 1) k xs.length (2 * (k : Int) + 1) (k : Int) (by omega) (by omega) hlen (by omega) (by omega))
        have hm := fun f => meth_less wo f hb _ _ _ HA.out.cell
        go_wp2_with fail
        refine HL.out.mono ?_
        rintro e2 w2 ⟨rfl, hb2⟩
        have HA2 : Hid (HAt w2 hb r c ys) := Lib.hid (HA.out.below hb2)
        have HO2 : Hid (Only [hb, r] w w2) := Lib.hid (HO.out.trans (Only.of_below hb2 _) (Fresh.refl _ _))
        have HLB : Hid (lgB (gx ys (2 * k + 1)) (gx ys k) = true ↔ Longer (gx ys (2 * k + 1)) (gx ys k)) := Lib.hid (lgB_iff _ _)
        clear HL hm HO HA hb2
        cases hlb : lgB (gx ys (2 * k + 1)) (gx ys k)
        · go_wp2
          go_ret
          refine ⟨⟨_, rfl⟩, ys, HA2.out, HP.out.1, HP.out.2.1.done fun j' hk' hj' => nl_trans (fun hh => ?_) (HBE.out j' hk' hj'), HP.out.2.2, HO2.out⟩
          have := HLB.out.2 hh
          rw [hlb] at this
          cases this
        · have hlg := HLB.out.1 hlb
          have HSW := Lib.hid (swap_gx HA2.out k (2 * k + 1) xs.length (k : Int) (2 * (k : Int) + 1) (by omega) (by omega) (by omega) hlen (by omega) (by omega))
          have HST := Lib.hid (HP.out.2.1.step (j := 2 * k + 1) (by omega) (.inl rfl) (by omega) hk0 hlg HBE.out)
          have HPE := Lib.hid (swapL_perm (xs := ys) (i := k) (j := 2 * k + 1) (by omega) (by omega))
          have HGX := Lib.hid (gx_swap (xs := ys) (i := k) (j := 2 * k + 1) (by omega) (by omega))
          have hm := fun f => meth_swap w2 f hb _ _ _ HA2.out.cell
          clear hlg
          go_wp2_with fail
          refine HSW.out.mono ?_
          rintro e3 w3 ⟨rfl, ha3, ho3⟩
          have HA3 := Lib.hid ha3
          have HO3 := Lib.hid (HO2.out.trans ho3 (Fresh.refl _ _))
          clear hm HSW ha3 ho3
          go_wp2
          go_roundw
          case rel =>
            refine ⟨2 * k + 1, swapL ys k (2 * k + 1), by omega, by omega, by go_num, HA3.out, HPE.out.trans HP.out.1, HST.out, fun j' hj' => ?_, HO3.out⟩
            rw [HGX.out j', if_neg (show ¬ j' = 2 * k + 1 by omega), if_neg (show ¬ j' = k by omega)]
            exact HP.out.2.2 j' hj'
          case measure => simp [intS]; omega
    · have hd0 : decide ((n : Int) ≤ 2 * (k : Int) + 1) = true := decide_eq_true (by omega)
      go_wp2
      go_ret
      exact ⟨⟨_, rfl⟩, ys, HA.out, HP.out.1, HP.out.2.1.done fun j' hk' hj' => by simp only [Kid] at hk'; omega, HP.out.2.2, HO.out⟩
end Go.Proofs.YtncpcemcdmolcaaGreat

/-
  A heap of holes: made of any row; its top taken. Conditions: the heap reads as it is said to.
-/
namespace Go.Proofs.YtncpcemcdmolcaaGreat
open Go.RowKit Go.BigFrame
set_option linter.unusedSimpArgs false
set_option linter.unusedVariables false
set_option maxRecDepth 100000 in
set_option maxHeartbeats 4000000 in
theorem init_any {w : World} {hb r c : Nat} {xs : List (Nat × Nat)} (h : HAt w hb r c xs) :
    Calls Tryz.prog 144 #[.iface 192 (.pointer (some ⟨hb, 0, none⟩))] w fun e' w' => e' = .returned (.tuple #[]) ∧ ∃ ys, HAt w' hb r c ys ∧ ys.Perm xs ∧ HFrom ys ys.length 0 ∧ Only [hb, r] w w' := by
  have HH := Lib.hid h
  have hlim := h.lim
  have hm := fun f => meth_len w f hb _ _ _ h.cell
  clear h
  have hq : (xs.length : Int).tdiv 2 = ((xs.length / 2 : Nat) : Int) := by rw [Int.tdiv_eq_ediv_of_nonneg (by omega)]; omega
  have hw1 : IntKind.i64.wrap (((xs.length / 2 : Nat) : Int)) = ((xs.length / 2 : Nat) : Int) := by rw [IntKind.wrap_i64]; omega
  have hw2 : IntKind.i64.wrap (((xs.length / 2 : Nat) : Int) - 1) = ((xs.length / 2 : Nat) : Int) - 1 := by rw [IntKind.wrap_i64]; omega
  go_enter Tryz.func144, Tryz.ntmps144
  go_wp2_with fail
  refine (hlen_any _ _ _ _).mono ?_
  rintro e w ⟨rfl, rfl⟩
  clear hm
  go_wp2
  go_loopw [3] (fun i wr => ∃ (k : Nat) (ys : List (Nat × Nat)), k ≤ 65536 ∧ i = .int .i64 ((k : Int) - 1) ∧ HAt wr hb r c ys ∧ ys.Perm xs ∧ HFrom ys xs.length k ∧ Only [hb, r] w wr) (fun i _ => (intS i + 1).toNat)
  case atStart => 
    exact ⟨xs.length / 2, xs, by omega, by go_num, HH.out, List.Perm.refl _, HFrom.half _ _, Only.refl _ _⟩
  case round =>
    obtain ⟨k, ys, hk, rfl, ha, hp, hf, ho⟩ := hrel
    have hlen := hp.length_eq
    by_cases h0 : k = 0
    · subst h0
      have HP := Lib.hid (And.intro ha (And.intro hp (And.intro hf ho)))
      clear ha hp hf ho
      go_wp2
      refine bodyPost_end (results_none rfl _ _ _) rfl ?_
      exact ⟨rfl, ys, HP.out.1, HP.out.2.1, by rw [hlen]; exact HP.out.2.2.1, HP.out.2.2.2⟩
    · obtain ⟨j, rfl⟩ : ∃ j, k = j + 1 := ⟨k - 1, by omega⟩
      have HD := Lib.hid (down_any ha (n := xs.length) (by omega) (i0 := j) (by omega) hf.but)
      have HO := Lib.hid (And.intro hp ho)
      clear ha hp hf ho
      have he : ((j + 1 : Nat) : Int) - 1 = (j : Int) := by omega
      rw [he]
      have hwk : IntKind.i64.wrap ((j : Int) - 1) = (j : Int) - 1 := by rw [IntKind.wrap_i64]; omega
      go_wp2_with fail
      refine HD.out.mono ?_
      rintro e2 w2 ⟨⟨b, rfl⟩, ys2, ha2, hp2, hf2, -, ho2⟩
      have HR := Lib.hid (And.intro ha2 (And.intro (hp2.trans HO.out.1) (And.intro hf2 (HO.out.2.trans ho2 (Fresh.refl _ _)))))
      clear HD HO ha2 hp2 hf2 ho2
      go_wp2
      go_roundw
      case rel => exact ⟨j, ys2, by omega, rfl, HR.out⟩
      case measure => simp [intS]
set_option maxRecDepth 100000 in
set_option maxHeartbeats 4000000 in
theorem pop_any {w : World} {hb r c : Nat} {xs : List (Nat × Nat)} (h : HAt w hb r c xs) (hf : HFrom xs xs.length 0) (h0 : 0 < xs.length) :
    Calls Tryz.prog 145 #[.iface 192 (.pointer (some ⟨hb, 0, none⟩))] w fun e' w' => e' = .returned (.iface 64 (.agg #[.int .i64 ((gx xs 0).1 : Int), .int .i64 ((gx xs 0).2 : Int)])) ∧ ∃ ys, HAt w' hb r c ys ∧ ys.Perm (xs.erase (gx xs 0)) ∧ HFrom ys ys.length 0 ∧ Only [hb, r] w w' := by
  obtain ⟨n, hn⟩ : ∃ n, xs.length = n + 1 := ⟨xs.length - 1, by omega⟩
  have HH := Lib.hid h
  have hlim := h.lim
  have hm := fun f => meth_len w f hb _ _ _ h.cell
  have hm2 := fun f => meth_swap w f hb _ _ _ h.cell
  have hsw : ∃ ys, HFrom ys n 1 ∧ ys.Perm xs ∧ gx ys n = gx xs 0 ∧ Calls Tryz.prog 187 #[.slice (some ⟨r, 0, none⟩) (n + 1) c, .int .i64 0, .int .i64 n] w fun e' w' => e' = .returned (.tuple #[]) ∧ HAt w' hb r c ys ∧ Only [hb, r] w w' := by
    by_cases hz : n = 0
    · subst hz
      refine ⟨xs, fun i j _ _ hj => by omega, List.Perm.refl _, rfl, ?_⟩
      refine (swap_same (c := c) h.row h0 (by omega) (by omega)).mono ?_
      rintro e w' ⟨rfl, hr, ho, -⟩
      exact ⟨rfl, ⟨h.box.of (ho.block hb h.box.lt (by simpa using h.ne)), hr, h.cap, h.lim⟩, ho.mono (by simp)⟩
    · refine ⟨swapL xs 0 n, HFrom.last (hn ▸ hf) hn, swapL_perm (by omega) (by omega), ?_, swap_gx h 0 n (n + 1) 0 n (by omega) (by omega) (by omega) hn rfl rfl⟩
      rw [gx_swap (by omega) (by omega), if_pos rfl]
  obtain ⟨y1, f1, p1, g1, s1⟩ := hsw
  have HS := Lib.hid s1
  have HY := Lib.hid (And.intro f1.but (And.intro p1 g1))
  have hl1 := p1.length_eq
  rw [hn] at hm hm2 hl1 hlim
  clear h hf s1 f1 p1 g1 h0
  have hw : IntKind.i64.wrap ((n : Int) + 1 - 1) = (n : Int) := by rw [IntKind.wrap_i64]; omega
  go_enter Tryz.func145, Tryz.ntmps145
  go_wp2_with fail
  refine (hlen_any _ _ _ _).mono ?_
  rintro e w ⟨rfl, rfl⟩
  go_wp2_with fail
  refine HS.out.mono ?_
  rintro e w1 ⟨rfl, a1, o1⟩
  have HD := Lib.hid (down_any a1 (n := n) (by omega) (i0 := 0) (by omega) HY.out.1)
  have HO := Lib.hid o1
  clear hm hm2 HS a1 o1
  go_wp2_with fail
  refine HD.out.mono ?_
  rintro e2 w2 ⟨⟨b, rfl⟩, y2, a2, p2, f2, u2, o2⟩
  have hl2 := p2.length_eq
  have hsp : y2 = y2.take n ++ [gx xs 0] := by
    have h1 := (List.take_append_drop n y2).symm
    have h2 : y2.drop n = [gx xs 0] := by
      rw [List.drop_eq_getElem_cons (by omega), List.drop_of_length_le (by omega)]
      have := gx_some (xs := y2) (i := n) (by omega)
      rw [u2 n (Nat.le_refl _), HY.out.2.2, List.getElem?_eq_getElem (by omega)] at this
      injection this with this
      rw [this]
    rwa [h2] at h1
  have hzl : (y2.take n).length = n := by simp; omega
  have hpz : (y2.take n).Perm (xs.erase (gx xs 0)) := by
    have q := (p2.trans HY.out.2.1)
    rw [hsp] at q
    have q2 := (List.perm_append_comm.trans q).erase (gx xs 0)
    simpa using q2
  have hfz : HFrom (y2.take n) (y2.take n).length 0 := by
    refine HFrom.prefix_ (e := gx xs 0) ?_
    rw [← hsp, hzl]
    exact f2
  rw [hsp] at a2
  generalize y2.take n = zs at *
  have HPO := Lib.hid (hpop_any a2)
  have HZ := Lib.hid (And.intro hpz (And.intro hfz (HO.out.trans o2 (Fresh.refl _ _))))
  have hm3 := fun f => meth_pop w2 f hb
  clear HD HO a2 p2 f2 u2 o2 hpz hfz hsp
  go_wp2_with fail
  refine HPO.out.mono ?_
  rintro e3 w3 ⟨rfl, a3, o3⟩
  have HA := Lib.hid (And.intro a3 o3)
  clear HPO a3 o3
  go_wp2
  go_ret
  exact ⟨rfl, zs, HA.out.1, HZ.out.1, HZ.out.2.1, HZ.out.2.2.trans (HA.out.2.mono (by simp)) (Fresh.refl _ _)⟩
end Go.Proofs.YtncpcemcdmolcaaGreat

/-
  The shortest hole that fits: what its functions' values answer. Conditions: the captured cells read as they are said to.
-/
namespace Go.Proofs.YtncpcemcdmolcaaGreat
open Go.RowKit Go.BigFrame
set_option linter.unusedSimpArgs false
set_option linter.unusedVariables false
def exV (e : Nat × Nat) : Value := .agg #[.int .i64 (e.1 : Int), .int .i64 (e.2 : Int)]
set_option maxRecDepth 100000 in
theorem fits_any {w : World} {p : Nat} (n : Nat) (e : Nat × Nat) (hp : w.cell? ⟨p, 0, none⟩ = some (.int .i64 (n : Int))) (hpl : p < w.heap.size) :
    Calls Tryz.prog 147 #[exV e, .pointer (some ⟨p, 0, none⟩)] w fun e' w' => e' = .returned (.bool (decide (n ≤ e.2))) ∧ Below w.heap.size w w' := by
  go_enter Tryz.func147, Tryz.ntmps147
  unfold exV
  go_wp2
  go_ret
  exact ⟨rfl, (Below.refl _ _).alloc (Nat.le_refl _) _⟩
def fitsV (p : Nat) : Value := .func (.func 147) #[] #[.pointer (some ⟨p, 0, none⟩)]
def notV (q : Nat) : Value := .func (.func 158) #[] #[.pointer (some ⟨q, 0, none⟩)]
/-- the captured cells: how many blocks, and which function -/
structure Cap (w : World) (p q n : Nat) : Prop where
  num : w.cell? ⟨p, 0, none⟩ = some (.int .i64 (n : Int))
  fn : w.cell? ⟨q, 0, none⟩ = some (fitsV p)
  pl : p < w.heap.size
  ql : q < w.heap.size
theorem Cap.of {w w' : World} {p q n : Nat} (h : Cap w p q n) (hs : w.heap.size ≤ w'.heap.size) (h1 : w'.heap[p]? = w.heap[p]?) (h2 : w'.heap[q]? = w.heap[q]?) : Cap w' p q n :=
  ⟨by rw [← h.num]; simp [World.cell?, h1], by rw [← h.fn]; simp [World.cell?, h2], Nat.lt_of_lt_of_le h.pl hs, Nat.lt_of_lt_of_le h.ql hs⟩
set_option maxRecDepth 100000 in
theorem notfit_any {w : World} {p q n : Nat} (e : Nat × Nat) (h : Cap w p q n) :
    Calls Tryz.prog 158 #[exV e, .pointer (some ⟨q, 0, none⟩)] w fun e' w' => e' = .returned (.bool (!decide (n ≤ e.2))) ∧ Below w.heap.size w w' := by
  have h1 := h.fn
  have hpl := h.pl
  have hql := h.ql
  have HF := Lib.hid (fits_any (w := w.alloc (.cells #[.int .i64 (e.1 : Int), .int .i64 (e.2 : Int)] 64)) n e ((World.cell?_alloc_lt w _ _ h.pl).trans h.num) (by rw [World.size_alloc]; omega))
  clear h
  unfold fitsV at h1
  go_enter Tryz.func158, Tryz.ntmps158
  unfold exV at HF ⊢
  go_wp2_with fail
  refine HF.out.mono ?_
  rintro e2 w2 ⟨rfl, hb2⟩
  have HB := Lib.hid (((Below.refl w.heap.size w).alloc (Nat.le_refl _) (.cells #[.int .i64 (e.1 : Int), .int .i64 (e.2 : Int)] 64)).trans (hb2.mono (by rw [World.size_alloc]; omega)))
  clear hb2 HF
  go_wp2
  go_ret
  exact ⟨rfl, HB.out⟩
/-- does e come first, where the shortest one is asked for? -/
def cmpE (e q : Nat × Nat) : Int := orI (cmpI (e.2 : Int) (q.2 : Int)) (cmpI (e.1 : Int) (q.1 : Int))
theorem cmpE_iff (e q : Nat × Nat) : cmpE e q < 0 ↔ Shorter e q := by
  simp only [cmpE, orI, cmpI, Shorter]
  by_cases h1 : (e.2 : Int) < (q.2 : Int)
  · simp only [h1, if_true]; simp; omega
  · by_cases h2 : (q.2 : Int) < (e.2 : Int)
    · simp only [h1, h2, if_true, if_false]; simp; omega
    · simp only [h1, h2, if_false, if_true]
      by_cases h3 : (e.1 : Int) < (q.1 : Int)
      · simp only [h3, if_true]; simp; omega
      · by_cases h4 : (q.1 : Int) < (e.1 : Int)
        · simp only [h3, h4, if_true, if_false]; simp; omega
        · simp only [h3, h4, if_false]; simp; omega
set_option maxRecDepth 100000 in
set_option maxHeartbeats 2000000 in
theorem cmpe_any (w : World) (e q : Nat × Nat) :
    Calls Tryz.prog 160 #[exV e, exV q] w fun e' w' => e' = .returned (.int .i64 (cmpE e q)) ∧ Below w.heap.size w w' := by
  go_enter Tryz.func160, Tryz.ntmps160
  unfold exV
  go_wp2_with fail
  have b0 : ∀ j u, #[Value.int .i64 (e.1 : Int), .int .i64 (e.2 : Int)][j]? = some u → ((w.alloc (.cells #[.int .i64 (e.1 : Int), .int .i64 (e.2 : Int)] 64)).alloc (.cells #[.int .i64 (q.1 : Int), .int .i64 (q.2 : Int)] 64)).cell? ⟨w.heap.size, j, none⟩ = some u := fun j u hu => (World.cell?_alloc_lt _ _ _ (by rw [World.size_alloc]; show w.heap.size < _; omega)).trans (((Blk.new w 64 _).cell j).trans hu)
  have b1 : ∀ j u, #[Value.int .i64 (q.1 : Int), .int .i64 (q.2 : Int)][j]? = some u → ((w.alloc (.cells #[.int .i64 (e.1 : Int), .int .i64 (e.2 : Int)] 64)).alloc (.cells #[.int .i64 (q.1 : Int), .int .i64 (q.2 : Int)] 64)).cell? ⟨w.heap.size + 1, j, none⟩ = some u := fun j u hu => by
    have := (Blk.new (w.alloc (.cells #[.int .i64 (e.1 : Int), .int .i64 (e.2 : Int)] 64)) 64 #[Value.int .i64 (q.1 : Int), .int .i64 (q.2 : Int)]).cell j
    rw [World.size_alloc] at this
    exact this.trans hu
  have a0 := b0 0 _ rfl
  have a1 := b0 1 _ rfl
  have a2 := b1 0 _ rfl
  have a3 := b1 1 _ rfl
  have hbw : Below w.heap.size w ((w.alloc (.cells #[.int .i64 (e.1 : Int), .int .i64 (e.2 : Int)] 64)).alloc (.cells #[.int .i64 (q.1 : Int), .int .i64 (q.2 : Int)] 64)) := ((Below.refl _ _).alloc (Nat.le_refl _) _).alloc (by rw [World.size_alloc]; omega) _
  have hsz : ((w.alloc (.cells #[.int .i64 (e.1 : Int), .int .i64 (e.2 : Int)] 64)).alloc (.cells #[.int .i64 (q.1 : Int), .int .i64 (q.2 : Int)] 64)).heap.size = w.heap.size + 2 := by rw [World.size_alloc, World.size_alloc]
  generalize hg : w.heap.size = g at *
  have HG := Lib.hid hg
  clear hg
  generalize ((w.alloc (.cells #[.int .i64 (e.1 : Int), .int .i64 (e.2 : Int)] 64)).alloc (.cells #[.int .i64 (q.1 : Int), .int .i64 (q.2 : Int)] 64)) = w1 at *
  have HW := Lib.hid (And.intro hbw hsz)
  clear b0 b1 hbw hsz
  refine wp_region_still_tail 10 (by kernel_rfl) (by kernel_rfl) ?_
  simp only [List.take_succ_cons, List.take_zero, List.drop_succ_cons, List.drop_zero]
  repeat still_step
  still_call (cmp_any _ _ _)
  repeat still_step
  still_call (cmp_any _ _ _)
  repeat still_step
  refine wpStill_nil ?_
  change wpList _ _ _ _ _ w1.drew
  have HL : Hid (cmpE e q = orI (cmpI (e.2 : Int) (q.2 : Int)) (cmpI (e.1 : Int) (q.1 : Int))) := Lib.hid rfl
  generalize cmpI (e.2 : Int) (q.2 : Int) = ca at *
  generalize cmpI (e.1 : Int) (q.1 : Int) = cb at *
  have hb2 : Below g w w1.drew := HW.out.1.drew
  have hs2 : g ≤ w1.drew.heap.size := by show g ≤ w1.heap.size; rw [HW.out.2]; omega
  generalize w1.drew = w2 at *
  clear a0 a1 a2 a3 HW
  have HO := Lib.hid (or_any ca cb w2.heap.size (w2.alloc (.cells #[.int .i64 ca, .int .i64 cb] 3)) ((Blk.new w2 3 #[.int .i64 ca, .int .i64 cb]).cell 0) ((Blk.new w2 3 #[.int .i64 ca, .int .i64 cb]).cell 1))
  have HB := Lib.hid (hb2.alloc hs2 (.cells #[.int .i64 ca, .int .i64 cb] 3))
  clear hb2 hs2
  go_wp2_with fail
  refine HO.out.mono ?_
  rintro e3 w3 ⟨rfl, rfl⟩
  go_wp2
  go_ret
  rw [HL.out, HG.out]
  exact ⟨rfl, HB.out⟩
end Go.Proofs.YtncpcemcdmolcaaGreat

/-
  The shortest hole that fits: the holes that don't fit are dropped, the first of the rest is found. Conditions: the row reads as it is said to.
-/
namespace Go.Proofs.YtncpcemcdmolcaaGreat
open Go.RowKit Go.BigFrame
set_option linter.unusedSimpArgs false
set_option linter.unusedVariables false
def Idx (xs : List (Nat × Nat)) (n : Nat) (v : Int) : Prop := (v = -1 ∧ ∀ e ∈ xs, n ≤ e.2) ∨ ∃ k : Nat, v = k ∧ k < xs.length ∧ (∀ j, j < k → n ≤ (gx xs j).2) ∧ ¬ n ≤ (gx xs k).2
set_option maxRecDepth 100000 in
set_option maxHeartbeats 2000000 in
theorem index_ext {w : World} {r c p q n : Nat} {xs : List (Nat × Nat)} (h : ERow w r xs) (hl : xs.length ≤ 65536) (hC : Cap w p q n) :
    Calls Tryz.prog 165 #[.slice (some ⟨r, 0, none⟩) xs.length c, notV q] w fun e' w' => (∃ v, e' = .returned (.int .i64 v) ∧ Idx xs n v) ∧ Below w.heap.size w w' := by
  have H := Lib.hid h
  have HC := Lib.hid hC
  have hrl := h.lt
  clear h hC
  go_enter Tryz.func165, Tryz.ntmps165
  unfold notV
  go_wp2
  go_loopw [8] (fun i wr => ∃ k : Nat, k ≤ xs.length ∧ i = .int .i64 k ∧ (∀ j, j < k → n ≤ (gx xs j).2) ∧ Below w.heap.size w wr) (fun i _ => xs.length - (intS i).toNat)
  case atStart => exact ⟨0, by omega, rfl, fun j hj => by omega, Below.refl _ _⟩
  case round =>
    obtain ⟨k, hk, rfl, hf, hb⟩ := hrel
    obtain ⟨wo, hwo⟩ : ∃ wo, wo = wr := ⟨_, rfl⟩
    subst hwo
    have HF := Lib.hid hf
    have hrow : ERow wo r xs := H.out.of (hb.block r hrl)
    have hcap : Cap wo p q n := HC.out.of hb.size (hb.block p HC.out.pl) (hb.block q HC.out.ql)
    by_cases hlt : k < xs.length
    · obtain ⟨c0, c1, -, -⟩ := hrow.get (gx_some hlt)
      have HN := Lib.hid (notfit_any (gx xs k) hcap)
      have HB := Lib.hid hb
      clear hrow hcap hb hf
      have hwk : IntKind.i64.wrap ((k : Int) + 1) = (k : Int) + 1 := by rw [IntKind.wrap_i64]; omega
      unfold exV at HN
      go_wp2_with fail
      refine HN.out.mono ?_
      rintro e2 w2 ⟨rfl, hb2⟩
      have HB2 := Lib.hid (HB.out.trans (hb2.mono HB.out.size))
      clear hb2 HN HB c0 c1
      by_cases hfit : n ≤ (gx xs k).2
      · have hd : (!decide (n ≤ (gx xs k).2)) = false := by simp [hfit]
        go_wp2
        go_roundw
        case rel => exact ⟨k + 1, by omega, by go_num, fun j hj => by
          by_cases he : j = k
          · subst he; exact hfit
          · exact HF.out j (by omega), HB2.out⟩
        case measure => simp [intS]; omega
      · have hd : (!decide (n ≤ (gx xs k).2)) = true := by simp [hfit]
        go_wp2
        go_ret
        exact ⟨⟨_, rfl, .inr ⟨k, rfl, hlt, HF.out, hfit⟩⟩, HB2.out⟩
    · obtain rfl : k = xs.length := by omega
      have HB := Lib.hid hb
      clear hrow hcap hb hf
      go_wp2
      go_ret
      refine ⟨⟨_, rfl, .inl ⟨rfl, fun e he => ?_⟩⟩, HB.out⟩
      obtain ⟨j, hj, rfl⟩ := List.mem_iff_getElem.1 he
      have := HF.out j hj
      rwa [gx_of (List.getElem?_eq_getElem hj)] at this
end Go.Proofs.YtncpcemcdmolcaaGreat

/-
  The shortest hole that fits: the holes that don't fit are dropped. Conditions: the row reads as it is said to.
-/
namespace Go.Proofs.YtncpcemcdmolcaaGreat
open Go.RowKit Go.BigFrame
set_option linter.unusedSimpArgs false
set_option linter.unusedVariables false
theorem run_tail_ext (r n c i : Nat) (h : i < n) (hc : n ≤ c) (w : World) : (Instr.slice 61 (.slice (some ⟨r, 0, none⟩) n c) (some (.int .i64 (i : Int))) none none).run Tryz.prog w = .ok (.slice (some ⟨r, i * 2, none⟩) (n - i) (c - i)) w := by
  have hsz : ∀ w, (sizeOf (Tryz.prog.elem 61)).run Tryz.prog w = .ok 2 w := fun w => by kernel_rfl
  rw [run_slice_l w 61 (some ⟨r, 0, none⟩) n c (by kernel_rfl) .i64 (i : Int) (by omega) (by omega), hsz]
  simp only [Result.andThen, sliced, Int.toNat_natCast]
  rw [if_neg (by omega)]
  by_cases hz : i * 2 = 0 <;> simp [Addr.add, hz]
theorem run_clear_ext (w : World) (r o n c : Nat) (hn : 0 < n) (hc : ∀ j, j < n * 2 → (w.cell? ⟨r, o + j, none⟩).isSome = true) (hf : ∀ j, j < n * 2 → w.frozen? ⟨r, o + j, none⟩ = false) :
    ∃ vs : List Value, vs.length = n * 2 ∧ ∀ ty, (Builtin.clear_ #[61] ty #[.slice (some ⟨r, o, none⟩) n c]).run Tryz.prog w = .ok (.tuple #[]) (w.setCells r o vs) := by
  have hv : ∀ w, (zeroValue 64).run Tryz.prog w = .ok (.agg #[.int .i64 0, .int .i64 0]) w := fun w => by kernel_rfl
  have ht : Tryz.prog.underlying 61 = some (.slice 64) := by kernel_rfl
  have hlen : (Builtin.zeroCells #[Value.int .i64 0, .int .i64 0] n).size = n * 2 := by simp [Builtin.zeroCells]; try omega
  have hone : ∀ v ∈ (Builtin.zeroCells #[Value.int .i64 0, .int .i64 0] n).toList, v.oneCell' = true := by
    intro v hv
    simp [Builtin.zeroCells] at hv
    obtain ⟨j, hj, rfl⟩ := hv
    have : j % 2 = 0 ∨ j % 2 = 1 := by omega
    rcases this with h | h <;> simp [h] <;> rfl
  have hst := run_storeCells_cells (P := Tryz.prog) r o (Builtin.zeroCells #[Value.int .i64 0, .int .i64 0] n).toList 0 w (by simpa [hlen] using hc) (by simpa [hlen] using hf) hone
  simp only [Nat.add_zero] at hst
  refine ⟨(Builtin.zeroCells #[Value.int .i64 0, .int .i64 0] n).toList, by simpa using hlen, fun ty => ?_⟩
  obtain ⟨m, rfl⟩ : ∃ m, n = m + 1 := ⟨n - 1, by omega⟩
  simp [Builtin.clear_, run_underlying ht, hv, hst, Value.cells]
theorem ERow.cleared {w : World} {r : Nat} {xs : List (Nat × Nat)} (h : ERow w r xs) (i : Nat) (vs : List Value) : ERow (w.setCells r (i * 2) vs) r (xs.take i) := by
  obtain ⟨cs, hb, hc⟩ := h
  obtain ⟨cs', hb', -⟩ := hb.setCells_ vs (i * 2)
  refine ⟨cs', hb', fun k e hk => ?_⟩
  rw [List.getElem?_take] at hk
  split at hk
  · rename_i hki
    have h0 := hc k e hk
    have c0 := (hb'.cell (k * 2)).symm.trans (World.cell?_setCells_out r vs (i * 2) w ⟨r, k * 2, none⟩ (fun _ _ => .inl (by show k * 2 < i * 2; omega)))
    have c1 := (hb'.cell (k * 2 + 1)).symm.trans (World.cell?_setCells_out r vs (i * 2) w ⟨r, k * 2 + 1, none⟩ (fun _ _ => .inl (by show k * 2 + 1 < i * 2; omega)))
    exact ⟨c0.trans ((hb.cell _).trans h0.1), c1.trans ((hb.cell _).trans h0.2)⟩
  · cases hk
/-- those that fit -/
def fitL (n : Nat) (xs : List (Nat × Nat)) : List (Nat × Nat) := xs.filter fun e => decide (n ≤ e.2)
set_option maxRecDepth 100000 in
set_option maxHeartbeats 4000000 in
theorem delete_ext {w : World} {r c p q n : Nat} {xs : List (Nat × Nat)} (h : ERow w r xs) (hl : xs.length ≤ 65536) (hcl : xs.length ≤ c) (hC : Cap w p q n) (hpr : p ≠ r) (hqr : q ≠ r) :
    Calls Tryz.prog 157 #[.slice (some ⟨r, 0, none⟩) xs.length c, notV q] w fun e' w' => e' = .returned (.slice (some ⟨r, 0, none⟩) (fitL n xs).length c) ∧ ERow w' r (fitL n xs) ∧ Only [r] w w' := by
  have H := Lib.hid h
  have HC := Lib.hid hC
  have hrl := h.lt
  have HI := Lib.hid (index_ext (c := c) h hl hC)
  clear h hC
  unfold notV at HI ⊢
  go_enter Tryz.func157, Tryz.ntmps157
  go_wp2_with fail
  refine HI.out.mono ?_
  rintro e1 w1 ⟨⟨v, rfl, hv⟩, hb1⟩
  clear HI
  have HB1 := Lib.hid hb1
  clear hb1
  rcases hv with ⟨rfl, hall⟩ | ⟨k, rfl, hkl, hpre, hbad⟩
  · have hfl : fitL n xs = xs := List.filter_eq_self.2 (fun e he => by simpa using hall e he)
    have HF := Lib.hid hfl
    clear hall hfl
    go_wp2
    go_ret
    rw [HF.out]
    exact ⟨rfl, H.out.of (HB1.out.block r hrl), Only.of_below HB1.out _⟩
  · have hd : ((k : Int) == -1) = false := by simp
    have hwk : IntKind.i64.wrap ((k : Int) + 1) = (k : Int) + 1 := by rw [IntKind.wrap_i64]; omega
    have hf0 : fitL n (xs.take (k + 1)) = xs.take k := by
      rw [List.take_add_one, gx_some hkl]
      simp only [fitL, List.filter_append, Option.toList_some]
      rw [show List.filter (fun e : Nat × Nat => decide (n ≤ e.2)) [gx xs k] = [] by simp [hbad], List.append_nil]
      refine List.filter_eq_self.2 (fun e he => ?_)
      obtain ⟨j, hj, rfl⟩ := List.mem_iff_getElem.1 he
      simp only [List.length_take] at hj
      have := hpre j (by omega)
      rw [gx_of (List.getElem?_eq_getElem (by omega))] at this
      simpa using this
    have HF0 := Lib.hid hf0
    clear hpre hbad hf0
    go_wp2_with fail
    go_loopw [5, 6] (fun vi vj wr => ∃ (i j : Nat) (ys : List (Nat × Nat)), i < j ∧ j ≤ xs.length ∧ vi = .int .i64 i ∧ vj = .int .i64 j ∧ ys.length = xs.length ∧ ys.take i = fitL n (xs.take j) ∧ ys.drop j = xs.drop j ∧ ERow wr r ys ∧ Only [r] w wr) (fun _ vj _ => xs.length - (intS vj).toNat)
    case atStart => exact ⟨k, k + 1, xs, by omega, by omega, rfl, by go_num, rfl, HF0.out.symm, rfl, H.out.of (HB1.out.block r hrl), Only.of_below HB1.out _⟩
    case round =>
      obtain ⟨i, j, ys, hij, hj, rfl, rfl, hyl, hyt, hyd, hrow, ho⟩ := hrel
      obtain ⟨wo, hwo⟩ : ∃ wo, wo = wr := ⟨_, rfl⟩
      subst hwo
      have HR := Lib.hid hrow
      have HY := Lib.hid (And.intro hyt hyd)
      have HO := Lib.hid ho
      have hcap : Cap wo p q n := HC.out.of ho.size (ho.block p HC.out.pl (by simpa using hpr)) (ho.block q HC.out.ql (by simpa using hqr))
      have hrl2 := hrow.lt
      clear hrow hyt hyd ho
      by_cases hlt : j < xs.length
      · obtain ⟨c0, c1, -, -⟩ := HR.out.get (gx_some (xs := ys) (i := j) (by omega))
        have HN := Lib.hid (notfit_any (w := wo.alloc (.cells #[.int .i64 ((gx ys j).1 : Int), .int .i64 ((gx ys j).2 : Int)] 64)) (gx ys j) (hcap.of (by rw [World.size_alloc]; omega) (Below.heap_alloc _ _ _ hcap.pl) (Below.heap_alloc _ _ _ hcap.ql)))
        have hbl := (Blk.new wo 64 #[.int .i64 ((gx ys j).1 : Int), .int .i64 ((gx ys j).2 : Int)])
        have HL := Lib.hid hbl
        have HO1 := Lib.hid (HO.out.alloc (.cells #[.int .i64 ((gx ys j).1 : Int), .int .i64 ((gx ys j).2 : Int)] 64))
        have HR1 : Hid (ERow (wo.alloc (.cells #[.int .i64 ((gx ys j).1 : Int), .int .i64 ((gx ys j).2 : Int)] 64)) r ys) := Lib.hid (HR.out.of (Below.heap_alloc _ _ _ hrl2))
        have hgj : gx ys j = gx xs j := by
          have := congrArg (fun l => l[0]?) HY.out.2
          simp only [List.getElem?_drop, Nat.add_zero] at this
          rw [gx_some (by omega), gx_some hlt] at this
          injection this
        have htj : fitL n (xs.take (j + 1)) = fitL n (xs.take j) ++ fitL n [gx ys j] := by
          rw [List.take_add_one, gx_some hlt, hgj]
          simp [fitL]
        have hdj : ys.drop (j + 1) = xs.drop (j + 1) := by
          have := congrArg (fun l => l.drop 1) HY.out.2
          simpa [List.drop_drop] using this
        have HT := Lib.hid (And.intro htj hdj)
        have hwj : IntKind.i64.wrap ((j : Int) + 1) = (j : Int) + 1 := by rw [IntKind.wrap_i64]; omega
        have hwi : IntKind.i64.wrap ((i : Int) + 1) = (i : Int) + 1 := by rw [IntKind.wrap_i64]; omega
        clear hgj htj hdj hbl hcap HR
        unfold exV at HN
        go_wp2_with fail
        refine HN.out.mono ?_
        rintro e2 w2 ⟨rfl, hb2⟩
        clear HN c0 c1
        have hsz : wo.heap.size < (wo.alloc (.cells #[.int .i64 ((gx ys j).1 : Int), .int .i64 ((gx ys j).2 : Int)] 64)).heap.size := by rw [World.size_alloc]; omega
        have hL2 := HL.out.of (hb2.block _ hsz)
        have HL2 := Lib.hid hL2
        have HR2 := Lib.hid (HR1.out.of (hb2.block r HR1.out.lt))
        have HO2 := Lib.hid (HO1.out.trans (Only.of_below hb2 _) (Fresh.refl _ _))
        clear HL HR1 HO1 hb2 HO hsz
        by_cases hfit : n ≤ (gx ys j).2
        · have hd : (!decide (n ≤ (gx ys j).2)) = false := by simp [hfit]
          obtain ⟨a0, a1, f0, f1⟩ := HR2.out.get (gx_some (xs := ys) (i := i) (by omega))
          have b0 := hL2.cell 0
          have b1 := hL2.cell 1
          simp only [List.getElem?_toArray, List.getElem?_cons_zero, List.getElem?_cons_succ] at b0 b1
          clear hL2
          have hset : (ys.set i (gx ys j)).take (i + 1) = ys.take i ++ [gx ys j] := by
            rw [List.take_add_one, List.getElem?_set_self (by omega)]
            rw [List.take_set, List.set_eq_of_length_le (by simp; omega)]
            rfl
          have hds : (ys.set i (gx ys j)).drop (j + 1) = ys.drop (j + 1) := by
            apply List.ext_getElem?
            intro m
            simp only [List.getElem?_drop]
            rw [List.getElem?_set_ne (by omega)]
          have HS := Lib.hid (And.intro hset hds)
          clear hset hds
          go_wp2
          go_roundw
          case rel =>
            refine ⟨i + 1, j + 1, ys.set i (gx ys j), by omega, by omega, by go_num, by go_num, by simpa using hyl, ?_, HS.out.2.trans HT.out.2, (HR2.out.sets (by omega) (gx ys j)), ((HO2.out.setCell (.inl (by simp)) _).setCell (.inl (by simp)) _)⟩
            rw [HS.out.1, HT.out.1, ← HY.out.1]
            simp [fitL, hfit]
          case measure => simp [intS]; omega
        · have hd : (!decide (n ≤ (gx ys j).2)) = true := by simp [hfit]
          clear hL2
          go_wp2
          go_roundw
          case rel => exact ⟨i, j + 1, ys, by omega, by omega, rfl, by go_num, hyl, by rw [HT.out.1, ← HY.out.1]; simp [fitL, hfit], HT.out.2, HR2.out, HO2.out⟩
          case measure => simp [intS]; omega
      · obtain rfl : j = xs.length := by omega
        have hsl := fun w => run_tail_ext r xs.length c i hij hcl w
        have hcells : ∀ m, m < (xs.length - i) * 2 → (wo.cell? ⟨r, i * 2 + m, none⟩).isSome = true ∧ wo.frozen? ⟨r, i * 2 + m, none⟩ = false := by
          intro m hm
          obtain ⟨g0, g1, g2, g3⟩ := HR.out.get (gx_some (xs := ys) (i := i + m / 2) (by omega))
          rcases (by omega : m % 2 = 0 ∨ m % 2 = 1) with h | h
          · rw [show (i + m / 2) * 2 = i * 2 + m by omega] at g0 g2
            exact ⟨by rw [g0]; rfl, g2⟩
          · rw [show (i + m / 2) * 2 + 1 = i * 2 + m by omega] at g1 g3
            exact ⟨by rw [g1]; rfl, g3⟩
        obtain ⟨vs, -, hclr⟩ := run_clear_ext wo r (i * 2) (xs.length - i) (c - i) (by omega) (fun m hm => (hcells m hm).1) (fun m hm => (hcells m hm).2)
        have hhd := fun w => run_head_ext (some ⟨r, 0, none⟩) xs.length c i (by omega) w
        have hadd : (if c = 0 then some (⟨r, 0, none⟩ : Addr) else Option.map (fun x => Addr.add x 0) (some ⟨r, 0, none⟩)) = some ⟨r, 0, none⟩ := by split <;> simp [Addr.add]
        rw [hadd] at hhd
        have hfx : ys.take i = fitL n xs := by have := HY.out.1; rwa [List.take_length] at this
        have hfl : (fitL n xs).length = i := by rw [← hfx]; simp; omega
        have HX := Lib.hid (And.intro hfx hfl)
        have HRC := Lib.hid (HR.out.cleared i vs)
        have HOC := Lib.hid (HO.out.grown (setCells_grown r vs (i * 2) wo).1 (fun g e => by injection e with e; subst e; exact .inl (by simp)))
        clear hadd hcells hfx hfl hcap
        generalize wo.setCells r (i * 2) vs = w3 at *
        go_wp2
        go_ret
        have hr := HRC.out
        rw [HX.out.1] at hr
        rw [HX.out.2]
        exact ⟨rfl, hr, HOC.out⟩
end Go.Proofs.YtncpcemcdmolcaaGreat
