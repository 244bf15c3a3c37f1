/-
  An error's number. Conditions: the errors are the document's.
-/
import Derived.Test.YtldnghmgdmjljaaRows
import Derived.Test.YtldnghmgdmjljaaMem
import Derived.WalkKit
import Derived.ProofKit
import Derived.Handy
import Derived.WalkLawsBesides
import Derived.WalkSpells
namespace Go.Proofs.Ytldnghmgdmjljaa
open Go.RowKit
/-- an error's value -/
def errV : Nat → Value
  | 0 => .nilIface
  | k => .iface 46 (.int .i64 k)
theorem num_any (k : Nat) (w : World) : Calls Try.prog 45 #[errV k] w fun e w' => e = .returned (.int .i64 k) ∧ w = w' := by
  cases k with
  | zero =>
    simp only [errV]
    go_enter Try.func45, Try.ntmps45
    go_wp2
    go_ret
    exact ⟨rfl, rfl⟩
  | succ k =>
    simp only [errV]
    have hta : ∀ (n : Int) (w : World), (Instr.typeAssert (.iface 46 (.int .i64 n)) 39 46 true).run Try.prog w = .ok (.tuple #[.int .i64 n, .bool true]) w := fun n w => by kernel_rfl
    have hne : (((k : Int) + 1) == 0) = false := by simp; omega
    have hne2 : (((k : Int) + 1) != 0) = true := by simp; omega
    go_enter Try.func45, Try.ntmps45
    go_wp2
    go_ret
    exact ⟨rfl, rfl⟩
theorem is_any (k j : Nat) (w : World) : Calls Try.prog 15 #[errV k, .int .i64 j] w fun e w' => e = .returned (.bool (k == j)) ∧ w = w' := by
  go_enter Try.func15, Try.ntmps15
  go_wp2_with fail
  refine (num_any k w).mono ?_
  rintro e w' ⟨rfl, rfl⟩
  go_wp2
  go_ret
  exact ⟨by show Ending.returned (.bool ((k : Int) == (j : Int))) = _; rw [show ((k : Int) == (j : Int)) = (k == j) from by rw [Bool.eq_iff_iff, beq_iff_eq, beq_iff_eq]; constructor <;> intro h <;> omega], rfl⟩
end Go.Proofs.Ytldnghmgdmjljaa
