/-
  The law's fixed fact. No condition.
-/
import Derived.Test.YtjnkfpnjdnknnaaVi
namespace Go.Proofs.Ytjnkfpnjdnknnaa
open Go.RowKit Go.BigFrame
set_option linter.unusedSimpArgs false
set_option linter.unusedVariables false
set_option maxRecDepth 100000
theorem ex_pcs : pcsL 16 10 20 = [⟨0, 10, 6, 0⟩, ⟨1, 0, 14, 6⟩] := by decide
set_option maxHeartbeats 2000000 in
theorem valive_any (w : World) : Calls Try.prog 7 #[] w fun e w' => e = .returned (.bool true) ∧ Below w.heap.size w w' := by
  have HP := Lib.hid (pieces_any 100 16 10 20 (by decide) (by omega) w)
  go_enter Try.func7, Try.ntmps7
  go_wp2_with fail
  refine HP.out.mono ?_
  rintro e w1 ⟨v, he, ho, -, -, b1⟩
  obtain rfl : e = .returned (.tuple #[v, .nilIface]) := he
  rw [ex_pcs] at ho
  obtain ⟨A1, cap, rfl, -⟩ := ho.form
  obtain ⟨g, rfl, -, -, -, hc⟩ := ho.at0 (k := 0) (p := ⟨0, 10, 6, 0⟩) rfl
  have hd : ∀ j v, (Pc.cs ⟨1, 0, 14, 6⟩)[j]? = some v → w1.cell? ⟨g, 1 * 4 + j, none⟩ = some v := by
    obtain ⟨g', e, -, -, -, hc⟩ := ho.at0 (k := 1) (p := ⟨1, 0, 14, 6⟩) rfl
    injection e with e
    injection e with e
    subst e
    exact hc
  have c0 : w1.cell? ⟨g, 0, none⟩ = some (.int .i64 0) := hc 0 _ rfl
  have c1 : w1.cell? ⟨g, 1, none⟩ = some (.int .i64 10) := hc 1 _ rfl
  have c2 : w1.cell? ⟨g, 2, none⟩ = some (.int .i64 6) := hc 2 _ rfl
  have c3 : w1.cell? ⟨g, 3, none⟩ = some (.int .i64 0) := hc 3 _ rfl
  have c4 : w1.cell? ⟨g, 4, none⟩ = some (.int .i64 1) := hd 0 _ rfl
  have c5 : w1.cell? ⟨g, 5, none⟩ = some (.int .i64 0) := hd 1 _ rfl
  have c6 : w1.cell? ⟨g, 6, none⟩ = some (.int .i64 14) := hd 2 _ rfl
  have c7 : w1.cell? ⟨g, 7, none⟩ = some (.int .i64 6) := hd 3 _ rfl
  have HB := Lib.hid b1
  clear HP ho hc hd b1
  go_wp2
  go_ret
  exact ⟨rfl, HB.out⟩
end Go.Proofs.Ytjnkfpnjdnknnaa
