/-
  Numbers compared, the first that is not nought. No condition but the sizes.
-/
import Derived.Test.YtliockcbnmbhnaaSm
namespace Go.Proofs.Ytliockcbnmbhnaa
open Go.RowKit Go.BigFrame
set_option linter.unusedSimpArgs false
set_option linter.unusedVariables false
/-- -1, 0 or 1 -/
def cmpI (a b : Int) : Int := if a < b then -1 else if b < a then 1 else 0
theorem nan_any (a : Int) (w : World) : Calls Try.prog 58 #[.int .i64 a] w fun e w' => e = .returned (.bool false) ∧ w' = w := by
  go_enter Try.func58, Try.ntmps58
  go_wp2
  go_ret
  simp
theorem cmp_any (a b : Int) (w : World) : Calls Try.prog 53 #[.int .i64 a, .int .i64 b] w fun e w' => e = .returned (.int .i64 (cmpI a b)) ∧ w' = w := by
  by_cases h1 : a < b
  · have hd1 : decide (a < b) = true := decide_eq_true h1
    have hc : cmpI a b = -1 := if_pos h1
    rw [hc]
    go_enter Try.func53, Try.ntmps53
    go_wp2_with (first | (go_at_call 58; refine (nan_any _ _).mono ?_; rintro e w' ⟨rfl, rfl⟩))
    go_ret
    exact ⟨rfl, rfl⟩
  · have hd1 : decide (a < b) = false := decide_eq_false h1
    by_cases h2 : b < a
    · have hd2 : decide (b < a) = true := decide_eq_true h2
      have hc : cmpI a b = 1 := by rw [cmpI, if_neg h1, if_pos h2]
      rw [hc]
      go_enter Try.func53, Try.ntmps53
      go_wp2_with (first | (go_at_call 58; refine (nan_any _ _).mono ?_; rintro e w' ⟨rfl, rfl⟩))
      go_ret
      exact ⟨rfl, rfl⟩
    · have hd2 : decide (b < a) = false := decide_eq_false h2
      have hc : cmpI a b = 0 := by rw [cmpI, if_neg h1, if_neg h2]
      rw [hc]
      go_enter Try.func53, Try.ntmps53
      go_wp2_with (first | (go_at_call 58; refine (nan_any _ _).mono ?_; rintro e w' ⟨rfl, rfl⟩))
      go_ret
      exact ⟨rfl, rfl⟩
def orI (a b : Int) : Int := if a = 0 then b else a
theorem or_any (a b : Int) (g : Nat) (w : World) (h0 : w.cell? ⟨g, 0, none⟩ = some (.int .i64 a)) (h1 : w.cell? ⟨g, 1, none⟩ = some (.int .i64 b)) : Calls Try.prog 52 #[.slice (some ⟨g, 0, none⟩) 2 2] w fun e w' => e = .returned (.int .i64 (orI a b)) ∧ w' = w := by
  by_cases ha : a = 0
  · subst ha
    by_cases hb : b = 0
    · subst hb
      go_enter Try.func52, Try.ntmps52
      go_wp2
      go_rounds 3
      go_ret
      exact ⟨rfl, rfl⟩
    · have hd : (b == 0) = false := by simpa using hb
      have hd2 : (b != 0) = true := by simpa using hb
      go_enter Try.func52, Try.ntmps52
      go_wp2
      go_rounds 2
      go_ret
      exact ⟨rfl, rfl⟩
  · have hd : (a == 0) = false := by simpa using ha
    have hd2 : (a != 0) = true := by simpa using ha
    rw [show orI a b = a from if_neg ha]
    go_enter Try.func52, Try.ntmps52
    go_wp2
    go_rounds 1
    go_ret
    exact ⟨rfl, rfl⟩
end Go.Proofs.Ytliockcbnmbhnaa
