/-
  The chapter's example holds. No condition.
-/
import Derived.Test.YtgdkpmgfholnkaaRdAll
namespace Go.Proofs.Ytgdkpmgfholnkaa
open Go.RowKit
set_option linter.unusedSimpArgs false
set_option linter.unusedVariables false
theorem writer_zero (w : World) : (zeroValue 44).run Try.prog w = .ok (.agg #[.slice none 0 0]) w := by kernel_rfl
theorem Wr.made (w : World) : Wr (w.alloc (.cells #[.slice none 0 0] 44)) w.heap.size [w.heap.size] (some ⟨w.heap.size, 0, none⟩) [] :=
  .inr ⟨_, rfl, .slice none 0 0, by simp [rowOf, Value.ownBlock], Blk.new _ _ _, Own.nil _ _, Nat.le_refl _, fun b hb => by cases hb⟩
def exBytes : List Nat := [2, 1, 0, 0, 0, 0, 0, 0, 1]
theorem ex_eq (p : Option Addr) (hp : p.isNone = false) : plus p (plus p [] (numB 258)) [if true then 1 else 0] = exBytes := by
  rw [plus_plus]
  unfold plus
  rw [hp]
  decide
theorem alive_any (w : World) : Calls Try.prog 5 #[] w fun e w' => e = .returned (.bool true) ∧ Below w.heap.size w w' := by
  have hz := writer_zero
  go_enter Try.func5, Try.ntmps5
  go_wp2_with fail
  have W0 := Wr.made w
  have b0 := below_alloc w (.cells #[.slice none 0 0] 44)
  have b0' := Lib.hid b0
  refine (wnum_any _ w.heap.size _ _ _ 258 W0 (by simp) b0.size).mono ?_
  rintro e w1 ⟨rfl, F1, W1, o1, f1⟩
  have hl1 := plus_len (some ⟨w.heap.size, 0, none⟩) [] (numB 258)
  rw [numB_len] at hl1
  have B1 : Below w.heap.size w w1 := b0.trans (o1.below (fun k hk => by simp at hk; omega) b0.size)
  clear W0 o1 f1 b0
  go_wp2_with fail
  refine (wflag_any w1 w.heap.size F1 _ _ true W1 (by simp at hl1; omega) B1.size).mono ?_
  rintro e w2 ⟨rfl, F2, W2, o2, f2⟩
  rw [ex_eq _ rfl] at W2
  have B2 : Below w.heap.size w w2 := B1.trans (o2.below W1.over B1.size)
  clear W1 o2 f2 hl1 B1
  go_wp2_with fail
  refine (out_any w2 w.heap.size F2 _ exBytes W2 (by decide)).mono ?_
  rintro e w3 ⟨v, rfl, h3, b3⟩
  obtain ⟨A3, c3, rfl, -, -, hA⟩ := h3.form
  rw [show exBytes.length = 9 from rfl] at *
  obtain ⟨g3, rfl⟩ : ∃ g3, A3 = some ⟨g3, 0, none⟩ := by
    rcases hA with ⟨_, h, _⟩ | ⟨g3, h, _⟩
    · cases h
    · exact ⟨g3, h⟩
  have hby := h3.bytes (by decide)
  have c0 : w3.cell? ⟨g3, 0, none⟩ = some (.int .u8 2) := h3.cell (j := 0) (b := 2) rfl
  have c1 : w3.cell? ⟨g3, 1, none⟩ = some (.int .u8 1) := h3.cell (j := 1) (b := 1) rfl
  have c8 : w3.cell? ⟨g3, 8, none⟩ = some (.int .u8 1) := h3.cell (j := 8) (b := 1) rfl
  have B3 : Below w.heap.size w w3 := B2.trans (b3.mono B2.size)
  clear W2 B2 b3 h3 hA
  go_wp2_with fail
  refine (newr_any (some ⟨g3, 0, none⟩) 9 c3 exBytes w3 _ (by omega) hby).mono ?_
  rintro e w4 ⟨g, F, rfl, R4, b4⟩
  have B4 : Below w.heap.size w w4 := B3.trans (b4.mono B3.size)
  have c0 : w4.cell? ⟨g3, 0, none⟩ = some (.int .u8 2) := (b4.cell (World.block_lt_of_cell? w3 _ c0)).trans c0
  have c1 : w4.cell? ⟨g3, 1, none⟩ = some (.int .u8 1) := (b4.cell (World.block_lt_of_cell? w3 _ c1)).trans c1
  have c8 : w4.cell? ⟨g3, 8, none⟩ = some (.int .u8 1) := (b4.cell (World.block_lt_of_cell? w3 _ c8)).trans c8
  have HR4 := Lib.hid R4
  have HB4 := Lib.hid B4
  have hsz : w3.heap.size ≤ w4.heap.size := b4.size
  have hsw : w.heap.size ≤ w3.heap.size := B3.size
  clear R4 B4 hby B3 b4
  go_wp2_with fail
  have q1 : (⟨exBytes, false⟩ : RD).num = 258 := by kernel_rfl
  have q2 : (⟨exBytes, false⟩ : RD).take 8 = ⟨[1], false⟩ := by kernel_rfl
  have q3 : (⟨[1], false⟩ : RD).flag = true := by kernel_rfl
  have q4 : (⟨[1], false⟩ : RD).flagTo = ⟨[], false⟩ := by kernel_rfl
  refine (rnum_any w4 w3.heap.size F _ _ HR4.out hsz).mono ?_
  rintro e w5 ⟨rfl, F5, R5, o5, f5⟩
  rw [q1]
  rw [q2] at R5
  have B5 : Below w.heap.size w w5 := HB4.out.trans (o5.below (fun k hk => Nat.le_trans hsw (HR4.out.over k hk)) (Nat.le_trans hsw hsz))
  have hs5 : w3.heap.size ≤ w5.heap.size := Nat.le_trans hsz o5.size
  have HR5 := Lib.hid R5
  have HB5 := Lib.hid B5
  clear R5 o5 f5 B5 q1 q2 c0 c1 c8
  go_wp2_with fail
  refine (rflag_any w5 w3.heap.size F5 _ _ HR5.out hs5).mono ?_
  rintro e w6 ⟨rfl, F6, R6, o6, f6⟩
  rw [q3]
  rw [q4] at R6
  have B6 : Below w.heap.size w w6 := HB5.out.trans (o6.below (fun k hk => Nat.le_trans hsw (HR5.out.over k hk)) (Nat.le_trans hsw hs5))
  have HB6 := Lib.hid B6
  clear o6 f6 B6 q3 q4
  go_wp2_with fail
  refine (rend_any w6 w3.heap.size F6 _ _ R6).mono ?_
  rintro e w7 ⟨rfl, rfl⟩
  simp only [errV]
  go_wp2
  go_ret
  exact ⟨rfl, HB6.out⟩
end Go.Proofs.Ytgdkpmgfholnkaa
