/-
  What the program says of a box's numbers. No condition.
-/
import Derived.Test.YtgdkpmgfholnkaaDoorBoxT
namespace Go.Proofs.YtgdkpmgfholnkaaDoor
open Go.RowKit
set_option linter.unusedSimpArgs false
set_option linter.unusedVariables false
theorem isbox_any (k g n : Int) (w : World) : Calls Tryd.prog 29 #[.int .i64 k, .int .i64 g, .int .i64 n] w fun e w' => e = .returned (.bool (isBoxB k g n)) ∧ w = w' := by
  by_cases h1 : 1 ≤ k
  case neg =>
    have hb : isBoxB k g n = false := by unfold isBoxB; exact decide_eq_false (by omega)
    rw [hb]
    have hd0 : decide (1 ≤ k) = false := decide_eq_false h1
    clear hb h1
    go_enter Tryd.func29, Tryd.ntmps29
    go_wp2
    go_ret
    exact ⟨rfl, rfl⟩
  have hd0 : decide (1 ≤ k) = true := decide_eq_true h1
  by_cases h2 : k ≤ 255
  case neg =>
    have hb : isBoxB k g n = false := by unfold isBoxB; exact decide_eq_false (by omega)
    rw [hb]
    have hd1 : decide (k ≤ 255) = false := decide_eq_false h2
    clear hb h2
    go_enter Tryd.func29, Tryd.ntmps29
    go_wp2
    go_ret
    exact ⟨rfl, rfl⟩
  have hd1 : decide (k ≤ 255) = true := decide_eq_true h2
  by_cases h3 : 0 ≤ g
  case neg =>
    have hb : isBoxB k g n = false := by unfold isBoxB; exact decide_eq_false (by omega)
    rw [hb]
    have hd2 : decide (0 ≤ g) = false := decide_eq_false h3
    clear hb h3
    go_enter Tryd.func29, Tryd.ntmps29
    go_wp2
    go_ret
    exact ⟨rfl, rfl⟩
  have hd2 : decide (0 ≤ g) = true := decide_eq_true h3
  by_cases h4 : g ≤ 4611686018427387904
  case neg =>
    have hb : isBoxB k g n = false := by unfold isBoxB; exact decide_eq_false (by omega)
    rw [hb]
    have hd3 : decide (g ≤ 4611686018427387904) = false := decide_eq_false h4
    clear hb h4
    go_enter Tryd.func29, Tryd.ntmps29
    go_wp2
    go_ret
    exact ⟨rfl, rfl⟩
  have hd3 : decide (g ≤ 4611686018427387904) = true := decide_eq_true h4
  by_cases h5 : 0 ≤ n
  case neg =>
    have hb : isBoxB k g n = false := by unfold isBoxB; exact decide_eq_false (by omega)
    rw [hb]
    have hd4 : decide (0 ≤ n) = false := decide_eq_false h5
    clear hb h5
    go_enter Tryd.func29, Tryd.ntmps29
    go_wp2
    go_ret
    exact ⟨rfl, rfl⟩
  have hd4 : decide (0 ≤ n) = true := decide_eq_true h5
  by_cases h6 : n ≤ 2147483647
  case neg =>
    have hb : isBoxB k g n = false := by unfold isBoxB; exact decide_eq_false (by omega)
    rw [hb]
    have hd5 : decide (n ≤ 2147483647) = false := decide_eq_false h6
    clear hb h6
    go_enter Tryd.func29, Tryd.ntmps29
    go_wp2
    go_ret
    exact ⟨rfl, rfl⟩
  have hd5 : decide (n ≤ 2147483647) = true := decide_eq_true h6
  have hb : isBoxB k g n = true := by unfold isBoxB; exact decide_eq_true (by omega)
  rw [hb]
  clear hb
  go_enter Tryd.func29, Tryd.ntmps29
  go_wp2
  go_ret
  exact ⟨rfl, rfl⟩
end Go.Proofs.YtgdkpmgfholnkaaDoor
