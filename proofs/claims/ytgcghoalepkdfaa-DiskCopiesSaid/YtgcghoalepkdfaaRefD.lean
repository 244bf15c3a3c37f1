/-
  The plain answers of layer 2: a step. No condition.
-/
import Derived.Test.YtgcghoalepkdfaaFine
namespace Go.Proofs.Ytgcghoalepkdfaa
open Go.RowKit
set_option linter.unusedSimpArgs false
set_option linter.unusedVariables false
/-- how the plain disk stands, beside its rows -/
structure RS where
  steps : Nat
  left : Nat
  armed : Bool
  gone : Bool
def rcs (A : Option Addr) (n c : Nat) (A' : Option Addr) (n' c' : Nat) (r : RS) : Array Value := #[.slice A n c, .slice A' n' c', .int .i64 r.steps, .int .i64 r.left, .bool r.armed, .bool r.gone]
def RS.off (r : RS) : Bool := r.gone || (r.armed && decide (r.left = 0))
def RS.step (r : RS) : RS := if r.off then { r with gone := true } else { r with steps := r.steps + 1, left := if r.armed then r.left - 1 else r.left }
theorem rdisk_zero (w : World) : (zeroValue 36).run Try.prog w = .ok (.agg (rcs none 0 0 none 0 0 ⟨0, 0, false, false⟩)) w := by kernel_rfl
theorem results_cell_tmp {P : Program} {fn : Func} {p q : Tmp} {ty : TypeId} (h : fn.results = #[.cell p ty, .tmp q]) (tmps : Array Value) (w : World) (g : Nat) (t : TypeId) (cs : Array Value) (fr : Nat × Nat) (d : TypeDesc) (v : Value)
    (hp : tmps.getD p undef = .pointer (some ⟨g, 0, none⟩)) (hq : tmps.getD q undef = v) (hg : w.heap[g]? = some (.cells cs t fr))
    (hu : P.underlying ty = some d) (hd : (match d with | .struct _ | .array _ _ => true | _ => false) = true) (hi : (P.info? ty).map (·.size) = some cs.size) :
    (results fn tmps).run P w = .ok (.tuple #[.agg cs, v]) w := by
  have hp' : tmps[p]?.getD undef = .pointer (some ⟨g, 0, none⟩) := by simpa using hp
  have hq' : tmps[q]?.getD undef = v := by simpa using hq
  simp [results, h, hp', hq', asAddr, run_loadVar_row w g t ty cs fr d hg hu hd hi]
theorem two_allocs (w : World) (o o' : Obj) : ((w.alloc o).alloc o').heap[w.heap.size + 1]? = some o' := by
  have := heap_alloc_new (w.alloc o) o'
  rwa [World.size_alloc] at this
theorem two_below (w : World) (o o' : Obj) : Below w.heap.size w ((w.alloc o).alloc o') := ((Below.refl _ _).alloc (Nat.le_refl _) _).alloc (by simp) _
theorem rstep_any (A : Option Addr) (n c : Nat) (A' : Option Addr) (n' c' : Nat) (r : RS) (w : World) (hs : r.steps < 4611686018427387904) (hl : r.left ≤ 9223372036854775807) :
    Calls Try.prog 43 #[.agg (rcs A n c A' n' c' r)] w fun e w' => e = .returned (.tuple #[.agg (rcs A n c A' n' c' r.step), .bool (!r.off)]) ∧ Below w.heap.size w w' := by
  have hz := rdisk_zero
  obtain ⟨s, l, a, g⟩ := r
  unfold rcs at *
  cases g with
  | true =>
    have hst : RS.step ⟨s, l, a, true⟩ = ⟨s, l, a, true⟩ := by simp [RS.step, RS.off]
    have ho : RS.off ⟨s, l, a, true⟩ = true := by simp [RS.off]
    rw [hst, ho]
    clear hst ho
    go_enter Try.func43, Try.ntmps43
    go_wp2
    refine bodyPost_ret (results_cell_tmp rfl _ _ (w.heap.size + 1) 36 _ (0, 0) _ _ rfl rfl (two_allocs _ _ _) Try.underlying36 rfl (by kernel_rfl)) rfl ?_
    exact ⟨rfl, two_below _ _ _⟩
  | false =>
    cases a with
    | false =>
      have hst : RS.step ⟨s, l, false, false⟩ = ⟨s + 1, l, false, false⟩ := by simp [RS.step, RS.off]
      have ho : RS.off ⟨s, l, false, false⟩ = false := by simp [RS.off]
      have hn : ((s : Int) + 1) = ((s + 1 : Nat) : Int) := by omega
      rw [hst, ho]
      clear hst ho hn
      go_enter Try.func43, Try.ntmps43
      go_wp2
      refine bodyPost_ret (results_cell_tmp rfl _ _ (w.heap.size + 1) 36 _ (0, 0) _ _ rfl rfl (two_allocs _ _ _) Try.underlying36 rfl (by kernel_rfl)) rfl ?_
      rw [IntWalk.wrap64_in ((s : Int) + 1) (by omega)]
      exact ⟨rfl, two_below _ _ _⟩
    | true =>
      by_cases h0 : l = 0
      · subst h0
        have hst : RS.step ⟨s, 0, true, false⟩ = ⟨s, 0, true, true⟩ := by simp [RS.step, RS.off]
        have ho : RS.off ⟨s, 0, true, false⟩ = true := by simp [RS.off]
        rw [hst, ho]
        clear hst ho
        go_enter Try.func43, Try.ntmps43
        go_wp2
        refine bodyPost_ret (results_cell_tmp rfl _ _ (w.heap.size + 1) 36 _ (0, 0) _ _ rfl rfl (two_allocs _ _ _) Try.underlying36 rfl (by kernel_rfl)) rfl ?_
        exact ⟨rfl, two_below _ _ _⟩
      · obtain ⟨l', rfl⟩ : ∃ l', l = l' + 1 := ⟨l - 1, by omega⟩
        have hst : RS.step ⟨s, l' + 1, true, false⟩ = ⟨s + 1, l', true, false⟩ := by simp [RS.step, RS.off]
        have ho : RS.off ⟨s, l' + 1, true, false⟩ = false := by simp [RS.off]
        have hd : (((l' + 1 : Nat) : Int) == 0) = false := by simp; omega
        rw [hst, ho]
        clear hst ho h0
        go_enter Try.func43, Try.ntmps43
        go_wp2
        refine bodyPost_ret (results_cell_tmp rfl _ _ (w.heap.size + 1) 36 _ (0, 0) _ _ rfl rfl (two_allocs _ _ _) Try.underlying36 rfl (by kernel_rfl)) rfl ?_
        refine ⟨?_, two_below _ _ _⟩
        simp only [show ((l' + 1 : Nat) : Int) - 1 = (l' : Int) by omega, Int.natCast_succ, Int.add_sub_cancel]
        rw [IntWalk.wrap64_in ((s : Int) + 1) (by omega), IntWalk.wrap64_in (l' : Int) (by omega)]
        simp
end Go.Proofs.Ytgcghoalepkdfaa
