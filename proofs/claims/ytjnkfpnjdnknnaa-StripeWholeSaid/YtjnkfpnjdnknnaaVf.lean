/-
  Which images there may be, as the program and the document tell it. Conditions: numbers are 64 bits wide.
-/
import Derived.Test.YtjnkfpnjdnknnaaVe
namespace Go.Proofs.Ytjnkfpnjdnknnaa
open Go.RowKit Go.BigFrame
set_option linter.unusedSimpArgs false
set_option linter.unusedVariables false
set_option maxRecDepth 100000
def bare (size obj : Int) : HA := ⟨0, obj, 0, none, 0, [], ⟨size, false, false, none, [], 0, ⟨#[]⟩, 0, 0⟩, 0, 0, 0⟩
theorem bare_good (size obj : Int) (w : World) : Calls Try.prog 20 #[.agg (bareH size obj)] w fun e w' => e = .returned (.bool (goodB size obj)) ∧ Below w.heap.size w w' := by
  have h := good_head (bare size obj) w (inB size) true true (bareV size) (fun W => bview_any size obj W) (fun W => bgood_any size obj W) (fun W => bsnaps_any size obj W) (fun W => bintent_any size obj W)
  have e : (bare size obj).B (inB size) true true = goodB size obj := by
    unfold HA.B goodB inB bare
    simp only [Bool.true_and, Bool.and_true, Int.le_refl, decide_true, Int.reduceNeg, Int.reduceLE, Int.reduceLT]
    exact Bool.and_comm _ _
  rw [e] at h
  exact h
theorem isimage_any (size obj : Int) (w : World) : Calls Try.prog 17 #[.int .i64 size, .int .i64 obj] w fun e w' => e = .returned (.bool (goodB size obj)) ∧ Below w.heap.size w w' := by
  have HG := Lib.hid (bare_good size obj w)
  unfold bareH at HG
  go_enter Try.func17, Try.ntmps17
  go_wp2_with fail
  refine HG.out.mono ?_
  rintro e w1 ⟨rfl, b1⟩
  go_wp2
  go_ret
  exact ⟨rfl, b1⟩
/-- a good range -/
def rangeB (size s n : Int) : Bool := decide (0 ≤ s) && decide (0 ≤ n) && decide (s ≤ size) && decide (n ≤ size - s)
theorem good_cases {size obj : Int} (h : goodB size obj = true) : ∃ S O : Nat, size = S ∧ obj = O ∧ S ≤ 4096 ∧ 16 ≤ O ∧ O ≤ 256 := by
  unfold goodB isObjB at h
  simp only [Bool.and_eq_true, Bool.or_eq_true, decide_eq_true_eq, beq_iff_eq] at h
  exact ⟨size.toNat, obj.toNat, by omega, by omega, by omega, by omega, by omega⟩
theorem dgood_any (size obj : Int) (w : World) : Calls Try.prog 9 #[.int .i64 size, .int .i64 obj] w fun e w' => e = .returned (.bool (goodB size obj)) ∧ w = w' := by
  unfold goodB isObjB
  by_cases c1 : 0 ≤ size
  rotate_left
  · have d1 : decide (0 ≤ size) = false := decide_eq_false c1
    rw [d1]
    go_enter Try.func9, Try.ntmps9
    go_wp2
    go_ret
    exact ⟨rfl, rfl⟩
  have d1 : decide (0 ≤ size) = true := decide_eq_true c1
  by_cases c2 : size ≤ 4096
  rotate_left
  · have d2 : decide (size ≤ 4096) = false := decide_eq_false c2
    rw [d1, d2]
    go_enter Try.func9, Try.ntmps9
    go_wp2
    go_ret
    exact ⟨rfl, rfl⟩
  have d2 : decide (size ≤ 4096) = true := decide_eq_true c2
  rw [d1, d2]
  by_cases a : obj = 16
  · subst a
    go_enter Try.func9, Try.ntmps9
    go_wp2
    go_ret
    exact ⟨rfl, rfl⟩
  have a' : (obj == 16) = false := by simpa using a
  by_cases b : obj = 32
  · subst b
    go_enter Try.func9, Try.ntmps9
    go_wp2
    go_ret
    exact ⟨rfl, rfl⟩
  have b' : (obj == 32) = false := by simpa using b
  by_cases c : obj = 64
  · subst c
    go_enter Try.func9, Try.ntmps9
    go_wp2
    go_ret
    exact ⟨rfl, rfl⟩
  have c' : (obj == 64) = false := by simpa using c
  by_cases d : obj = 128
  · subst d
    go_enter Try.func9, Try.ntmps9
    go_wp2
    go_ret
    exact ⟨rfl, rfl⟩
  have d' : (obj == 128) = false := by simpa using d
  rw [a', b', c', d']
  by_cases e : obj = 256
  · subst e
    go_enter Try.func9, Try.ntmps9
    go_wp2
    go_ret
    exact ⟨rfl, rfl⟩
  have e' : (obj == 256) = false := by simpa using e
  go_enter Try.func9, Try.ntmps9
  go_wp2
  go_ret
  exact ⟨by rw [e']; rfl, rfl⟩
theorem drange_any (size s n : Int) (h1 : 0 ≤ size) (h2 : size ≤ 4096) (hs : I64 s) (w : World) : Calls Try.prog 10 #[.int .i64 size, .int .i64 s, .int .i64 n] w fun e w' => e = .returned (.bool (rangeB size s n)) ∧ w = w' := by
  unfold rangeB
  by_cases c1 : 0 ≤ s
  rotate_left
  · have d1 : decide (0 ≤ s) = false := decide_eq_false c1
    rw [d1]
    go_enter Try.func10, Try.ntmps10
    go_wp2
    go_ret
    exact ⟨rfl, rfl⟩
  have d1 : decide (0 ≤ s) = true := decide_eq_true c1
  by_cases c2 : 0 ≤ n
  rotate_left
  · have d2 : decide (0 ≤ n) = false := decide_eq_false c2
    rw [d1, d2]
    go_enter Try.func10, Try.ntmps10
    go_wp2
    go_ret
    exact ⟨rfl, rfl⟩
  have d2 : decide (0 ≤ n) = true := decide_eq_true c2
  rw [d1, d2]
  by_cases c3 : s ≤ size
  rotate_left
  · have d3 : decide (s ≤ size) = false := decide_eq_false c3
    rw [d3]
    go_enter Try.func10, Try.ntmps10
    go_wp2
    go_ret
    exact ⟨rfl, rfl⟩
  have d3 : decide (s ≤ size) = true := decide_eq_true c3
  rw [d3]
  have hw : IntKind.i64.wrap (size - s) = size - s := wrap_in (by unfold I64 at *; omega)
  go_enter Try.func10, Try.ntmps10
  go_wp2
  go_ret
  exact ⟨rfl, rfl⟩
end Go.Proofs.Ytjnkfpnjdnknnaa
