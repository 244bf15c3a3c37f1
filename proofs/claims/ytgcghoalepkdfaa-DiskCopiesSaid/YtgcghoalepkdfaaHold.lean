/-
  A disk that the call made, beside blocks that it doesn't touch. No condition.
-/
import Derived.Test.YtgcghoalepkdfaaOps
namespace Go.Proofs.Ytgcghoalepkdfaa
open Go.RowKit
set_option linter.unusedSimpArgs false
set_option linter.unusedVariables false
def Keep (X : List Nat) (w w' : World) : Prop := w.heap.size ≤ w'.heap.size ∧ ∀ k ∈ X, w'.heap[k]? = w.heap[k]?
/-- a disk that the call made since w0, that touches none of the blocks X -/
def Holds (w0 w : World) (g : Nat) (d : DM) (X : List Nat) : Prop := ∃ F, DiskAt w w0.heap.size F g d ∧ Below w0.heap.size w0 w ∧ ∀ k ∈ X, k ∉ F ∧ k < w.heap.size
section
variable {w0 w w' : World} {g : Nat} {d : DM} {X : List Nat}
theorem Holds.size (h : Holds w0 w g d X) : w0.heap.size ≤ w.heap.size := by obtain ⟨F, h1, h2, h3⟩ := h; exact h2.size
theorem Holds.since (h : Holds w0 w g d X) : Below w0.heap.size w0 w := by obtain ⟨F, h1, h2, h3⟩ := h; exact h2
theorem Holds.below (h : Holds w0 w g d X) (hb : Below w.heap.size w w') : Holds w0 w' g d X := by
  obtain ⟨F, h1, h2, h3⟩ := h
  exact ⟨F, h1.of (below_keeps hb h1.under), h2.trans (hb.mono h2.size), fun k hk => ⟨(h3 k hk).1, Nat.lt_of_lt_of_le (h3 k hk).2 hb.size⟩⟩
theorem Holds.alloc (h : Holds w0 w g d X) (o : Obj) : Holds w0 (w.alloc o) g d X := h.below ((Below.refl _ _).alloc (Nat.le_refl _) _)
theorem Holds.drew (h : Holds w0 w g d X) : Holds w0 w.drew g d X := h.below (Below.refl _ _).drew
theorem Holds.mono {Y : List Nat} (h : Holds w0 w g d X) (hs : ∀ k ∈ Y, k ∈ X) : Holds w0 w g d Y := by
  obtain ⟨F, h1, h2, h3⟩ := h
  exact ⟨F, h1, h2, fun k hk => h3 k (hs k hk)⟩
/-- a block that came later is none of the disk's -/
theorem Holds.push (h : Holds w0 w g d X) (o : Obj) : Holds w0 (w.alloc o) g d (w.heap.size :: X) := by
  obtain ⟨F, h1, h2, h3⟩ := h
  refine ⟨F, h1.of (fun k hk => Below.heap_alloc _ _ _ (h1.under k hk)), h2.alloc h2.size _, fun k hk => ?_⟩
  rcases List.mem_cons.1 hk with rfl | hk
  · exact ⟨fun hm => by have := h1.under _ hm; omega, by simp⟩
  · exact ⟨(h3 k hk).1, by have := (h3 k hk).2; simp; omega⟩
/-- a protected block is written -/
theorem Holds.kept (h : Holds w0 w g d X) {j : Nat} (hj : j ∈ X) (ho : Only [j] w w') (hB : w0.heap.size ≤ j) : Holds w0 w' g d X := by
  obtain ⟨F, h1, h2, h3⟩ := h
  refine ⟨F, h1.of (fun k hk => ho.block k (h1.under k hk) (fun hm => by simp at hm; subst hm; exact (h3 k hj).1 hk)), h2.trans (ho.below (fun k hk => by simp at hk; omega) h2.size), fun k hk => ⟨(h3 k hk).1, Nat.lt_of_lt_of_le (h3 k hk).2 ho.size⟩⟩
theorem Holds.made {e : Ending} {n : Nat} (hb : Below w0.heap.size w0 w) (h : MadeDisk w w0.heap.size n e w') : ∃ g, e = .returned (.tuple #[.pointer (some ⟨g, 0, none⟩), .nilIface]) ∧ Holds w0 w' g (DM.new n) [] := by
  obtain ⟨g, F, he, h1, h2, h3⟩ := h
  exact ⟨g, he, F, h1, hb.trans (h2.mono hb.size), fun k hk => by cases hk⟩
theorem Holds.to {F : List Nat} {d' : DM} (h1 : DiskAt w w0.heap.size F g d) (h2 : Below w0.heap.size w0 w) (h3 : ∀ k ∈ X, k ∉ F ∧ k < w.heap.size) (h : DTo w w0.heap.size F g d' w') : Holds w0 w' g d' X ∧ Keep X w w' := by
  obtain ⟨F', h4, h5, h6⟩ := h
  refine ⟨⟨F', h4, h2.trans (h5.below h1.over h2.size), fun k hk => ⟨fun hm => ?_, Nat.lt_of_lt_of_le (h3 k hk).2 h5.size⟩⟩, h5.size, fun k hk => h5.block k (h3 k hk).2 (h3 k hk).1⟩
  rcases h6 k hm with h7 | h7
  · exact (h3 k hk).1 h7
  · have := (h3 k hk).2; omega
theorem Keep.blk {k : Nat} {t : TypeId} {cs : Array Value} (h : Keep X w w') (hk : k ∈ X) (hb : Blk w k t cs) : Blk w' k t cs := hb.of (h.2 k hk)
theorem Keep.below (h : Below w.heap.size w w') (hX : ∀ k ∈ X, k < w.heap.size) : Keep X w w' := ⟨h.size, fun k hk => h.block k (hX k hk)⟩
theorem Keep.trans {w'' : World} (h : Keep X w w') (h' : Keep X w' w'') : Keep X w w'' := ⟨Nat.le_trans h.1 h'.1, fun k hk => (h'.2 k hk).trans (h.2 k hk)⟩
theorem hold_write (h : Holds w0 w g d X) (i : Int) (s : Sec) (hs : d.steps < 4611686018427387904) (hl : d.left ≤ 9223372036854775807) (hw : d.wait.length ≤ 1000000) :
    Calls Try.prog 17 #[.pointer (some ⟨g, 0, none⟩), .int .i64 i, s.v] w fun e w' => e = .returned (errV (d.writeErr i)) ∧ Holds w0 w' g (d.write i s) X ∧ Keep X w w' := by
  obtain ⟨F, h1, h2, h3⟩ := h
  exact (write_any w _ g F d i s h1 hs hl hw h2.size).mono fun e w' ⟨he, ht⟩ => ⟨he, Holds.to h1 h2 h3 ht⟩
theorem hold_flush (h : Holds w0 w g d X) (hs : d.steps < 4611686018427387904) (hl : d.left ≤ 9223372036854775807) (hw : d.wait.length ≤ 1000000) :
    Calls Try.prog 19 #[.pointer (some ⟨g, 0, none⟩)] w fun e w' => e = .returned (errV d.stepErr) ∧ Holds w0 w' g d.flush X ∧ Keep X w w' := by
  obtain ⟨F, h1, h2, h3⟩ := h
  exact (flush_any w _ g F d h1 hs hl hw).mono fun e w' ⟨he, ht⟩ => ⟨he, Holds.to h1 h2 h3 ht⟩
theorem hold_arm (h : Holds w0 w g d X) (k : Int) (hk : -9223372036854775808 ≤ k) :
    Calls Try.prog 25 #[.pointer (some ⟨g, 0, none⟩), .int .i64 k] w fun e w' => e = .returned (errV (armErr k)) ∧ Holds w0 w' g (d.arm k) X ∧ Keep X w w' := by
  obtain ⟨F, ⟨gm, v, rfl, h1⟩, h2, h3⟩ := h
  exact (arm_any w _ g gm v d k hk h1).mono fun e w' ⟨he, ht, ho⟩ => ⟨he, Holds.to ⟨gm, v, rfl, h1⟩ h2 h3 (ht.to ho)⟩
theorem hold_crash (h : Holds w0 w g d X) (hw : d.wait.length ≤ 1000000) (A : Option Addr) (c B : Nat) (keep : List Bool) (hR : ∀ F, DiskAt w w0.heap.size F g d → ∀ W', Only F w W' → Reads W' B 1 A keep.length (flags keep)) :
    Calls Try.prog 20 #[.pointer (some ⟨g, 0, none⟩), .slice A keep.length c] w fun e w' => e = .returned (.tuple #[]) ∧ Holds w0 w' g (d.crash keep) X ∧ Keep X w w' := by
  obtain ⟨F, h1, h2, h3⟩ := h
  exact (crash_any w _ g F d A c B keep h1 hw (hR F h1)).mono fun e w' ⟨he, ht⟩ => ⟨he, Holds.to h1 h2 h3 ht⟩
theorem hold_read (h : Holds w0 w g d X) (i : Int) (hw : d.wait.length ≤ 1000000) :
    Calls Try.prog 21 #[.pointer (some ⟨g, 0, none⟩), .int .i64 i] w fun e w' => e = .returned (.tuple #[(d.read i).v, errV (d.readErr i)]) ∧ Below w.heap.size w w' := by
  obtain ⟨F, ⟨gm, v, rfl, h1⟩, h2, h3⟩ := h
  exact read_any w _ g gm v d i h1 hw
theorem hold_sure (h : Holds w0 w g d X) (i : Int) :
    Calls Try.prog 22 #[.pointer (some ⟨g, 0, none⟩), .int .i64 i] w fun e w' => e = .returned (d.sure i).v ∧ Below w.heap.size w w' := by
  obtain ⟨F, ⟨gm, v, rfl, h1⟩, h2, h3⟩ := h
  exact sure_any w _ g gm v d i h1
theorem hold_down (h : Holds w0 w g d X) : Calls Try.prog 24 #[.pointer (some ⟨g, 0, none⟩)] w fun e w' => e = .returned (.bool d.gone) ∧ w = w' := by
  obtain ⟨F, ⟨gm, v, rfl, h1⟩, h2, h3⟩ := h
  exact down_any w _ g gm v d h1
theorem hold_len (h : Holds w0 w g d X) : Calls Try.prog 13 #[.pointer (some ⟨g, 0, none⟩)] w fun e w' => e = .returned (.int .i64 d.n) ∧ w = w' := by
  obtain ⟨F, ⟨gm, v, rfl, h1⟩, h2, h3⟩ := h
  exact len_any w _ g gm v d h1
theorem hold_steps (h : Holds w0 w g d X) : Calls Try.prog 26 #[.pointer (some ⟨g, 0, none⟩)] w fun e w' => e = .returned (.int .i64 d.steps) ∧ w = w' := by
  obtain ⟨F, ⟨gm, v, rfl, h1⟩, h2, h3⟩ := h
  exact steps_any w _ g gm v d h1
theorem hold_waiting (h : Holds w0 w g d X) : Calls Try.prog 23 #[.pointer (some ⟨g, 0, none⟩)] w fun e w' => e = .returned (.int .i64 d.wait.length) ∧ w = w' := by
  obtain ⟨F, ⟨gm, v, rfl, h1⟩, h2, h3⟩ := h
  exact waiting_any w _ g gm v d h1
end
/-! sectors in an array of six -/
def sixCells (f : Nat → Sec) (n : Nat) : List Value := (List.range n).flatMap fun i => (f i).cs
theorem six_len (f : Nat → Sec) : ∀ n, (sixCells f n).length = n * 128
  | 0 => rfl
  | n + 1 => by
    have := six_len f n
    unfold sixCells at this ⊢
    rw [List.range_succ, List.flatMap_append, List.length_append, this]
    simp [Sec.cs_len]
    omega
theorem six_at (f : Nat → Sec) : ∀ (n i j : Nat), i < n → j < 128 → (sixCells f n)[i * 128 + j]? = (f i).cs[j]?
  | 0, i, j, h, _ => by omega
  | n + 1, i, j, h, hj => by
    have hl := six_len f n
    unfold sixCells at hl ⊢
    rw [List.range_succ, List.flatMap_append]
    by_cases hi : i < n
    · rw [List.getElem?_append_left (by rw [hl]; omega)]
      exact six_at f n i j hi hj
    · obtain rfl : i = n := by omega
      rw [List.getElem?_append_right (by rw [hl]; omega), hl, show i * 128 + j - i * 128 = j by omega]
      simp
theorem six_range {w : World} {gl : Nat} {t : TypeId} {f : Nat → Sec} {n i : Nat} (h : Blk w gl t (sixCells f n).toArray) (hi : i < n) : w.rangeAt gl (i * 128) (f i).cs := fun j u hj => by
  have hlt : j < 128 := by
    rcases Nat.lt_or_ge j 128 with h' | h'
    · exact h'
    · rw [List.getElem?_eq_none (by rw [Sec.cs_len]; omega)] at hj; cases hj
  rw [h.cell, List.getElem?_toArray, six_at f n i j hi hlt, hj]
theorem six_there {w : World} {gl : Nat} {t : TypeId} {f : Nat → Sec} {n i : Nat} (h : Blk w gl t (sixCells f n).toArray) (hi : i < n) : w.there gl (i * 128) 128 :=
  h.there (by rw [List.size_toArray, six_len]; omega)
theorem setCells_any : ∀ (vs : List Value) (o : Nat) {w : World} {g : Nat} {t : TypeId} {cs : List Value}, Blk w g t cs.toArray → o + vs.length ≤ cs.length → Blk (w.setCells g o vs) g t (cs.take o ++ vs ++ cs.drop (o + vs.length)).toArray
  | [], o, w, g, t, cs, h, hl => by simpa [World.setCells] using h
  | v :: vs, o, w, g, t, cs, h, hl => by
    have h1 := h.set_ o v
    rw [List.setIfInBounds_toArray] at h1
    simp only [List.length_cons] at hl
    have h2 := setCells_any vs (o + 1) h1 (by simp; omega)
    have e : (cs.set o v).take (o + 1) ++ vs ++ (cs.set o v).drop (o + 1 + vs.length) = cs.take o ++ v :: vs ++ cs.drop (o + (v :: vs).length) := by
      rw [List.take_add_one, List.take_set_of_le (Nat.le_refl _), List.getElem?_set_self (by omega), List.drop_set_of_lt (by omega), List.length_cons, show o + 1 + vs.length = o + (vs.length + 1) by omega]
      simp
    rw [e] at h2
    exact h2
theorem six_put (f : Nat → Sec) (s : Sec) (n i : Nat) (hi : i < n) : (sixCells f n).take (i * 128) ++ s.cs ++ (sixCells f n).drop (i * 128 + s.cs.length) = sixCells (fun j => if j = i then s else f j) n := by
  apply List.ext_getElem?
  intro q
  have hq : q = q / 128 * 128 + q % 128 := by omega
  have hm : q % 128 < 128 := Nat.mod_lt _ (by omega)
  have hl := six_len f n
  have hs := s.cs_len
  rcases Nat.lt_or_ge q (n * 128) with hlt | hge
  · have h2 : (sixCells (fun j => if j = i then s else f j) n)[q]? = (if q / 128 = i then s else f (q / 128)).cs[q % 128]? := by
      have := six_at (fun j => if j = i then s else f j) n (q / 128) (q % 128) (by omega) hm
      rw [← hq] at this
      exact this
    have h3 : (sixCells f n)[q]? = (f (q / 128)).cs[q % 128]? := by
      have := six_at f n (q / 128) (q % 128) (by omega) hm
      rw [← hq] at this
      exact this
    rw [h2]
    by_cases h4 : q < i * 128
    · rw [List.append_assoc, List.getElem?_append_left (by rw [List.length_take, hl]; omega), List.getElem?_take, if_pos h4, h3, if_neg (by omega)]
    · rw [List.append_assoc, List.getElem?_append_right (by rw [List.length_take, hl]; omega), List.length_take, hl, Nat.min_eq_left (by omega)]
      by_cases h5 : q < i * 128 + 128
      · rw [List.getElem?_append_left (by omega), if_pos (by omega)]
        congr 1
        omega
      · rw [List.getElem?_append_right (by omega), List.getElem?_drop, if_neg (by omega), ← h3]
        congr 1
        omega
  · rw [List.getElem?_eq_none (by simp [hl, hs]; omega), List.getElem?_eq_none (by rw [six_len]; omega)]
end Go.Proofs.Ytgcghoalepkdfaa
