/-
  A heap's methods by name. Conditions: the variable reads as it is said to.
-/
import Derived.Test.YtliockcbnmbhnaaSk
namespace Go.Proofs.Ytliockcbnmbhnaa
open Go.RowKit Go.BigFrame
set_option linter.unusedSimpArgs false
set_option linter.unusedVariables false
theorem load_long (w : World) (g : Nat) (A : Option Addr) (n c : Nat) (h : w.cell? ⟨g, 0, none⟩ = some (.slice A n c)) : (loadVar 79 ⟨g, 0, none⟩).run Try.prog w = .ok (.slice A n c) w := by
  simp [loadVar, h]
theorem meth_pop (w : World) (f : Nat) (g : Nat) : (method (f + 1) 81 (.pointer (some ⟨g, 0, none⟩)) "Pop").run Try.prog w = .ok (79, .pointer (some ⟨g, 0, none⟩)) w := by
  kernel_rfl
theorem nil_chk (w : World) (g : Nat) (s : String) : (Builtin.ssaWrapNilChk_ #[81] 81 #[.pointer (some ⟨g, 0, none⟩), strVal "", strVal s]).run Try.prog w = .ok (.pointer (some ⟨g, 0, none⟩)) w := by
  kernel_rfl
theorem meth_of (w : World) (f g : Nat) (v : Value) (s : String) (k : FuncId) (hv : (loadVar 79 ⟨g, 0, none⟩).run Try.prog w = .ok v w)
    (hm : ((Try.prog.info? 81).bind fun i => (i.methods.find? fun m => m.name == s).map fun m => (m.path, m.func)) = some (#[], some (k, false))) :
    (method (f + 1) 81 (.pointer (some ⟨g, 0, none⟩)) s).run Try.prog w = .ok (k, v) w := by
  have hu : Try.prog.underlying 81 = some (.pointer 79) := by kernel_rfl
  cases hi : Try.prog.info? 81 with
  | none => rw [hi] at hm; cases hm
  | some i =>
    rw [hi] at hm
    simp only [Option.bind_some] at hm
    cases h1 : i.methods.find? fun m => m.name == s with
    | none => rw [h1] at hm; cases hm
    | some m =>
      rw [h1] at hm
      simp only [Option.map_some, Option.some.injEq, Prod.mk.injEq] at hm
      obtain ⟨h2, h3⟩ := hm
      unfold method
      simp [typeInfo, hi, h1, h2, h3, follow, receiverAt, run_underlying hu, Place.get, nil_chk, asAddr, hv]
theorem meth_less (w : World) (f g n c : Nat) (A : Option Addr) (h : w.cell? ⟨g, 0, none⟩ = some (.slice A n c)) : (method (f + 1) 81 (.pointer (some ⟨g, 0, none⟩)) "Less").run Try.prog w = .ok (77, .slice A n c) w :=
  meth_of w f g _ _ _ (load_long w g A n c h) (by kernel_rfl)
theorem meth_swap (w : World) (f g n c : Nat) (A : Option Addr) (h : w.cell? ⟨g, 0, none⟩ = some (.slice A n c)) : (method (f + 1) 81 (.pointer (some ⟨g, 0, none⟩)) "Swap").run Try.prog w = .ok (78, .slice A n c) w :=
  meth_of w f g _ _ _ (load_long w g A n c h) (by kernel_rfl)
theorem meth_len (w : World) (f g n c : Nat) (A : Option Addr) (h : w.cell? ⟨g, 0, none⟩ = some (.slice A n c)) : (method (f + 1) 81 (.pointer (some ⟨g, 0, none⟩)) "Len").run Try.prog w = .ok (76, .slice A n c) w :=
  meth_of w f g _ _ _ (load_long w g A n c h) (by kernel_rfl)
theorem HAt.of {w w' : World} {hb r c : Nat} {xs : List (Nat × Nat)} (h : HAt w hb r c xs) (e1 : w'.heap[hb]? = w.heap[hb]?) (e2 : w'.heap[r]? = w.heap[r]?) : HAt w' hb r c xs :=
  ⟨h.box.of e1, h.row.of e2, h.cap, h.lim⟩
theorem HAt.cell {w : World} {hb r c : Nat} {xs : List (Nat × Nat)} (h : HAt w hb r c xs) : w.cell? ⟨hb, 0, none⟩ = some (.slice (some ⟨r, 0, none⟩) xs.length c) := by
  have := h.box.cell 0; simpa using this
end Go.Proofs.Ytliockcbnmbhnaa
