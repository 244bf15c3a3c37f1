/-
  Which images there may be: a head of a size and of data objects of a size, of nothing else, is good or not. Conditions: numbers are 64 bits wide.
-/
import Derived.Test.YtjnkfpnjdnknnaaVa
import Derived.Test.YtjnkfpnjdnknnaaErr
import Derived.Test.YtjnkfpnjdnknnaaRegL
import Derived.Test.YtjnkfpnjdnknnaaAgg
import Derived.Stop.BytesEq
namespace Go.Proofs.Ytjnkfpnjdnknnaa
open Go.RowKit Go.BigFrame
set_option linter.unusedSimpArgs false
set_option linter.unusedVariables false
set_option maxRecDepth 100000
theorem below_alloc (w : World) (o : Obj) : Below w.heap.size w (w.alloc o) := (Below.refl _ _).alloc (Nat.le_refl _) _
theorem blk_two (w : World) (o : Obj) (t : TypeId) (cs : Array Value) : Blk ((w.alloc o).alloc (.cells cs t)) (w.heap.size + 1) t cs := by
  have := Blk.new (w.alloc o) t cs
  rwa [World.size_alloc] at this
def I64 (n : Int) : Prop := -9223372036854775808 ≤ n ∧ n ≤ 9223372036854775807
theorem wrap_in {n : Int} (h : I64 n) : IntKind.i64.wrap n = n := by
  unfold I64 at h
  rw [IntKind.wrap_i64]
  omega
def objsOf (size object : Int) : Int := if size < 1 ∨ object < 1 then 0 else (size - 1) / object + 1
def isObjB (n : Int) : Bool := n == 16 || n == 32 || n == 64 || n == 128 || n == 256
def goodB (size obj : Int) : Bool := decide (0 ≤ size) && decide (size ≤ 4096) && isObjB obj
theorem run_str_eql (a b : ByteArray) (w : World) : (binOp .eql 9 (.string a) (.string b)).run Try.prog w = .ok (.bool (a.toList == b.toList)) w := by kernel_rfl
theorem objs_range {size obj : Int} (h1 : I64 size) (h2 : I64 obj) : I64 (objsOf size obj) := by
  unfold I64 objsOf at *
  split
  · omega
  · rename_i h
    have a1 : 1 ≤ obj := by omega
    have a2 : 0 ≤ size - 1 := by omega
    have a3 : 0 ≤ (size - 1) / obj := Int.ediv_nonneg a2 (by omega)
    have a4 : (size - 1) / obj ≤ size - 1 := Int.ediv_le_self _ a2
    omega
theorem objects_any (size obj : Int) (h1 : I64 size) (h2 : I64 obj) (w : World) : Calls Try.prog 19 #[.int .i64 size, .int .i64 obj] w fun e w' => e = .returned (.int .i64 (objsOf size obj)) ∧ w = w' := by
  by_cases a : size < 1
  · have hd1 : decide (size < (1 : Int)) = true := decide_eq_true a
    have he : objsOf size obj = 0 := by unfold objsOf; rw [if_pos (.inl a)]
    rw [he]
    go_enter Try.func19, Try.ntmps19
    go_wp2
    go_ret
    exact ⟨rfl, rfl⟩
  · have hd1 : decide (size < (1 : Int)) = false := decide_eq_false a
    by_cases b : obj < 1
    · have hd2 : decide (obj < (1 : Int)) = true := decide_eq_true b
      have he : objsOf size obj = 0 := by unfold objsOf; rw [if_pos (.inr b)]
      rw [he]
      go_enter Try.func19, Try.ntmps19
      go_wp2
      go_ret
      exact ⟨rfl, rfl⟩
    · have hd2 : decide (obj < (1 : Int)) = false := decide_eq_false b
      have he : objsOf size obj = (size - 1) / obj + 1 := by unfold objsOf; rw [if_neg (by omega)]
      have hr := objs_range h1 h2
      rw [he] at hr ⊢
      have hq : (size - 1).tdiv obj = (size - 1) / obj := Int.tdiv_eq_ediv_of_nonneg (by omega)
      have w1 : IntKind.i64.wrap (size - 1) = size - 1 := wrap_in (by unfold I64 at *; omega)
      have w2 : IntKind.i64.wrap ((size - 1) / obj) = (size - 1) / obj := wrap_in (by have a3 : 0 ≤ (size - 1) / obj := Int.ediv_nonneg (by omega) (by omega); unfold I64 at *; clear w1 hq; omega)
      have w3 : IntKind.i64.wrap ((size - 1) / obj + 1) = (size - 1) / obj + 1 := wrap_in hr
      have hne : obj ≠ 0 := by omega
      have hne2 : (obj == 0) = false := by simpa using hne
      go_enter Try.func19, Try.ntmps19
      go_wp2
      go_ret
      exact ⟨rfl, rfl⟩
theorem isobj_any (n : Int) (w : World) : Calls Try.prog 21 #[.int .i64 n] w fun e w' => e = .returned (.bool (isObjB n)) ∧ w = w' := by
  unfold isObjB
  by_cases a : n = 16
  · subst a
    go_enter Try.func21, Try.ntmps21
    go_wp2
    go_ret
    exact ⟨rfl, rfl⟩
  have a' : (n == 16) = false := by simpa using a
  by_cases b : n = 32
  · subst b
    go_enter Try.func21, Try.ntmps21
    go_wp2
    go_ret
    exact ⟨rfl, rfl⟩
  have b' : (n == 32) = false := by simpa using b
  by_cases c : n = 64
  · subst c
    go_enter Try.func21, Try.ntmps21
    go_wp2
    go_ret
    exact ⟨rfl, rfl⟩
  have c' : (n == 64) = false := by simpa using c
  by_cases d : n = 128
  · subst d
    go_enter Try.func21, Try.ntmps21
    go_wp2
    go_ret
    exact ⟨rfl, rfl⟩
  have d' : (n == 128) = false := by simpa using d
  by_cases f : n = 256
  · subst f
    go_enter Try.func21, Try.ntmps21
    go_wp2
    go_ret
    exact ⟨rfl, rfl⟩
  have f' : (n == 256) = false := by simpa using f
  rw [a', b', c', d', f']
  go_enter Try.func21, Try.ntmps21
  go_wp2
  go_ret
  exact ⟨rfl, rfl⟩
theorem run_link_eql (a b : ByteArray) (p q r s : Int) (w : World) : (binOp .eql 55 (.agg #[.string a, .int .i64 p, .int .i64 q]) (.agg #[.string b, .int .i64 r, .int .i64 s])).run Try.prog w = .ok (.bool ((a.toList == b.toList) && decide (p = r) && decide (q = s))) w := by
  go_simp
  by_cases h1 : a.toList = b.toList <;> by_cases h2 : p = r <;> by_cases h3 : q = s <;> simp [h1, h2, h3]
/-- a head of a size and of data objects of a size, of nothing else; what it has in common with a snapshot -/
def bareH (size obj : Int) : Array Value := #[.int .i64 0, .int .i64 size, .int .i64 obj, .int .i64 0, .slice none 0 0, .bool false, .bool false, .slice none 0 0, .string ⟨#[]⟩, .int .i64 0, .int .i64 0, .int .i64 0, .int .i64 0, .int .i64 0]
def bareV (size : Int) : Array Value := #[.int .i64 size, .bool false, .bool false, .slice none 0 0, .string ⟨#[]⟩, .int .i64 0, .int .i64 0]
theorem bview_any (size obj : Int) (w : World) : Calls Try.prog 22 #[.agg (bareH size obj)] w fun e w' => e = .returned (.agg (bareV size)) ∧ Below w.heap.size w w' := by
  unfold bareH
  go_enter Try.func22, Try.ntmps22
  go_wp2
  refine bodyPost_ret (results_cell_row rfl _ _ (w.heap.size + 1) 61 (bareV size) (0, 0) _ rfl (blk_two _ _ _ _) Try.underlying61 rfl (by kernel_rfl)) rfl ?_
  exact ⟨rfl, (below_alloc w _).alloc (by simp) _⟩
theorem bmarked_any (size obj : Int) (w : World) : Calls Try.prog 26 #[.agg (bareV size), .int .i64 obj] w fun e w' => e = .returned (.bool true) ∧ Below w.heap.size w w' := by
  unfold bareV
  have B0 := fun (o : Obj) => below_alloc w o
  go_enter Try.func26, Try.ntmps26
  go_wp2
  go_ret
  exact ⟨rfl, B0 _⟩
theorem blinked_any (size : Int) (w : World) : Calls Try.prog 27 #[.agg (bareV size)] w fun e w' => e = .returned (.bool true) ∧ Below w.heap.size w w' := by
  unfold bareV
  have B0 := fun (o : Obj) => below_alloc w o
  have he2 : (ByteArray.mk #[]).toList = [] := by rw [ByteArray.toList_eq]
  go_enter Try.func27, Try.ntmps27
  go_wp2
  go_ret
  exact ⟨rfl, B0 _⟩
end Go.Proofs.Ytjnkfpnjdnknnaa
