/-
  Data cut into rows of 106 bytes: how many, which, and rows that read so. No condition.
-/
import Derived.Test.YtgdkpmgfholnkaaDoorApT
import Derived.Test.YtgdkpmgfholnkaaDoorApart
namespace Go.Proofs.YtgdkpmgfholnkaaDoor
open Go.RowKit
set_option linter.unusedSimpArgs false
set_option linter.unusedVariables false
/-- how many rows -/
def pn (d : List Nat) : Nat := (d.length + 105) / 106
/-- the row of that place -/
def prow (d : List Nat) (i : Nat) : List Nat := (d.drop (106 * i)).take 106
theorem prow_len (d : List Nat) (i : Nat) : (prow d i).length = min 106 (d.length - 106 * i) := by simp [prow]
theorem prow_lt {d : List Nat} (h : ∀ b ∈ d, b < 256) (i : Nat) : ∀ b ∈ prow d i, b < 256 := fun b hb => h b (List.mem_of_mem_drop (List.mem_of_mem_take hb))
theorem prow_join (d : List Nat) (k : Nat) : (List.range k).flatMap (prow d) = d.take (106 * k) := by
  induction k with
  | zero => simp
  | succ k ih =>
    rw [List.range_succ, List.flatMap_append, ih]
    simp only [List.flatMap_cons, List.flatMap_nil, List.append_nil, prow]
    rw [show 106 * (k + 1) = 106 * k + 106 by omega, List.take_add]
theorem prow_all (d : List Nat) : (List.range (pn d)).flatMap (prow d) = d := by
  rw [prow_join, List.take_of_length_le]
  unfold pn
  omega
/-- rows that read as the data's, each somewhere below B -/
def Rowy (w : World) (B : Nat) (rs : Nat → Value) (d : List Nat) (k : Nat) : Prop := ∀ i, i < k → ∃ A c, rs i = .slice A (prow d i).length c ∧ Bytes w B A (prow d i).length (prow d i)
theorem Rowy.snoc {w : World} {B k : Nat} {rs : Nat → Value} {d : List Nat} (h : Rowy w B rs d k) {A : Option Addr} {n c : Nat} (hn : n = (prow d k).length) (hb : Bytes w B A n (prow d k)) : Rowy w B (fun i => if i = k then .slice A n c else rs i) d (k + 1) := by
  intro i hi
  subst hn
  by_cases e : i = k
  · subst e
    exact ⟨A, c, by simp, hb⟩
  · obtain ⟨A', c', h1, h2⟩ := h i (by omega)
    exact ⟨A', c', by simp [e, h1], h2⟩
theorem Rowy.below {w w' : World} {B k : Nat} {rs : Nat → Value} {d : List Nat} (h : Rowy w B rs d k) (hb : Below B w w') : Rowy w' B rs d k := fun i hi => by
  obtain ⟨A', c', h1, h2⟩ := h i hi
  exact ⟨A', c', h1, h2.below hb⟩
theorem hdr_snoc (rs : Nat → Value) (v : Value) (k : Nat) : hdr (fun i => if i = k then v else rs i) (k + 1) = hdr rs k ++ [v] := by
  unfold hdr
  rw [List.range_succ, List.map_append]
  congr 1
  · refine List.map_congr_left fun i hi => ?_
    have := List.mem_range.1 hi
    rw [if_neg (by omega)]
  · simp
theorem below_row {B : Nat} {w0 w w' : World} {base : Nat} {e : TypeId} {v : Value} {n : Nat} {xs : List Value} (h : Below B w0 w) (hown : w.ownsRow base e 1 v n xs) (hB : B ≤ base) (hg : w.grownBy w' v.ownBlock) (hs : B ≤ w.heap.size) : Below B w0 w' :=
  h.grown hg hs fun k hk => by have := (World.ownsRow.lt hown k hk).1; omega
end Go.Proofs.YtgdkpmgfholnkaaDoor
