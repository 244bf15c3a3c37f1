/-
  What the program's reader reads as numbers. Conditions: the reader lies where it is said to; it has no more than nine million bytes.
-/
import Derived.Test.YtldnghmgdmjljaaRd2
import Derived.Laws.MakeOwn
namespace Go.Proofs.Ytldnghmgdmjljaa
open Go.RowKit
set_option linter.unusedSimpArgs false
set_option maxRecDepth 100000
set_option linter.unusedVariables false
theorem made_same (m k : Nat) (v : Value) (hm : 0 < m) : madeCells (List.replicate m v).toArray k = (List.replicate k v).toArray := by
  unfold madeCells
  apply Array.ext
  · simp
  · intro i h1 h2
    have h3 : i % m < m := Nat.mod_lt _ hm
    have h4 : i % (List.replicate m v).toArray.size < (List.replicate m v).toArray.size := by simpa using h3
    rw [Array.getElem_map, Array.getElem_range, getElem!_pos (List.replicate m v).toArray (i % (List.replicate m v).toArray.size) h4]
    simp
theorem int_info : (Try.prog.info? 3).map (fun i => (i.zero, i.size, i.bytes)) = some (some (.int .i64 0), 1, 8) := by kernel_rfl
/-- numbers of the call's own -/
def OwnI (w : World) (base : Nat) (v : Value) (n : Nat) (l : List Int) : Prop := w.ownsRow base 3 1 v n (i64s l)
theorem OwnI.ints {w : World} {base n c : Nat} {A : Option Addr} {l : List Int} (h : OwnI w base (.slice A n c) n l) : Ints w w.heap.size A n l := Reads.of_own h
theorem OwnI.weaken {w : World} {base base' n : Nat} {v : Value} {l : List Int} (h : OwnI w base v n l) (hb : base' ≤ base) : OwnI w base' v n l := row_weaken h hb
theorem OwnI.form {w : World} {base : Nat} {v : Value} {n : Nat} {l : List Int} (h : OwnI w base v n l) : ∃ (A : Option Addr) (cap : Nat), v = .slice A n cap ∧ ∀ a, A = some a → base ≤ a.block := by
  rcases h.2 with ⟨rfl, hx⟩ | ⟨g, cap, cur, rfl, hbg, hg, hnc, hcm, hcs, hpre⟩
  · have : n = 0 := by have := h.1; rw [hx] at this; simp at this; omega
    subst this
    exact ⟨none, 0, rfl, fun a ha => by cases ha⟩
  · exact ⟨some ⟨g, 0, none⟩, cap, rfl, fun a ha => by injection ha with ha; subst ha; exact hbg⟩
theorem OwnI.of_blk {w : World} {base g n : Nat} {l : List Int} (h : Blk w g 3 (i64s l).toArray) (hl : l.length = n) (hb : base ≤ g) (hn : n ≤ 9000000) : OwnI w base (.slice (some ⟨g, 0, none⟩) n n) n l :=
  ⟨by rw [i64s_length]; omega, .inr ⟨g, n, _, rfl, hb, h, Nat.le_refl _, by simp [maxLen]; omega, by simp [i64s_length, hl], by rw [List.take_of_length_le (by simp [i64s_length, hl])]⟩⟩
def filling (l : List Int) (q : Nat) : List Value := i64s l ++ List.replicate (q - l.length) (.int .i64 0)
theorem filling_set (l : List Int) (q : Nat) (x : Int) (h : l.length < q) : (filling l q).toArray.setIfInBounds l.length (.int .i64 x) = (filling (l ++ [x]) q).toArray := by
  unfold filling
  have e : q - l.length = (q - (l ++ [x]).length) + 1 := by simp; omega
  rw [e, List.replicate_succ]
  simp only [List.setIfInBounds_toArray]
  congr 1
  rw [List.set_append_right _ _ (by rw [i64s_length]; exact Nat.le_refl _), i64s_length, Nat.sub_self, List.set_cons_zero]
  simp [i64s]
theorem filling_cell (l : List Int) (q : Nat) (h : l.length < q) : (filling l q).toArray[l.length]? = some (.int .i64 0) := by
  unfold filling
  rw [List.getElem?_toArray, List.getElem?_append_right (by rw [i64s_length]; exact Nat.le_refl _), i64s_length, Nat.sub_self, List.getElem?_replicate, if_pos (by omega)]
end Go.Proofs.Ytldnghmgdmjljaa
