/-
  The chapter's example holds; rows apart. Conditions: the rows are the call's own.
-/
import Derived.Test.YtapbjaeimnafcaaKg
import Derived.Test.YtapbjaeimnafcaaKaq
namespace Go.Proofs.Ytapbjaeimnafcaa
open Go.RowKit
set_option linter.unusedSimpArgs false
set_option maxRecDepth 100000
set_option linter.unusedVariables false
theorem ex_good : Good [1, 0, 3] := by decide
theorem ex_put : putM [1, 0, 3] = [3, 0, 49] := by decide
theorem alive_any (w : World) : Calls Try.prog 9 #[] w fun e w' => e = .returned (.bool true) ∧ Below w.heap.size w w' := by
  have hw := fun t f => put_ok (some ⟨w.heap.size, 0, none⟩) 3 3 [1, 0, 3] (w.alloc (.cells (u8s [1, 0, 3]).toArray t f)) ((Bytes.new w [1, 0, 3] t f (by decide)).more (by simp)) ex_good
  rw [ex_put] at hw
  have HW := Lib.hid hw
  clear hw
  go_enter Try.func9, Try.ntmps9
  go_wp2_with fail
  refine (HW.out _ _).mono ?_
  rintro e w1 ⟨rfl, k1, b1⟩
  have hsz : ∀ t f, (w.alloc (.cells (u8s [1, 0, 3]).toArray t f)).heap.size = w.heap.size + 1 := fun t f => by simp
  have HB := Lib.hid (show Below w.heap.size w w1 from (below_alloc w _).trans (b1.mono (by simp)))
  rw [hsz] at k1
  have c0 := k1.cell8 (k := 0) (b := 3) rfl
  have c1 := k1.cell8 (k := 1) (b := 0) rfl
  have c2 := k1.cell8 (k := 2) (b := 49) rfl
  clear k1 b1 hsz
  go_wp2
  go_ret
  exact ⟨rfl, HB.out⟩
theorem rowed_of {w : World} {base : Nat} {vs : Nat → Value} {ns : Nat → Nat} {m : Nat} (own : ∀ i, i < m → ∃ bs, Own w base (vs i) (ns i) bs) (dis : ∀ i j, i < j → j < m → ∀ b, (vs i).ownBlock = some b → (vs j).ownBlock ≠ some b) : Rowed w base vs ns m :=
  ⟨own, fun i j hi hj hne b hb => by
    rcases Nat.lt_or_ge i j with h | h
    · exact dis i j h hj b hb
    · intro e
      exact dis j i (by omega) hi b e hb⟩
/-- two rows, the second newer -/
theorem blocks_apart {w : World} {base base' : Nat} {v v' : Value} {n n' : Nat} {bs bs' : List Nat} (h : Own w base v n bs) (hs : base' ≥ w.heap.size) {w' : World} (h' : Own w' base' v' n' bs') : ∀ b, v.ownBlock = some b → v'.ownBlock ≠ some b := by
  intro b hb hb'
  have h1 := (World.ownsRow.lt h b hb).2
  have h2 := (World.ownsRow.lt h' b hb').1
  omega
end Go.Proofs.Ytapbjaeimnafcaa
