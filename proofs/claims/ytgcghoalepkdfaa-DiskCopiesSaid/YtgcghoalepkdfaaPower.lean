/-
  What the disk's small calls return and turn: has, step, restore, arm, Down, Len, Waiting, Steps. Conditions: the disk lies where it is said to; its numbers are below 2^62.
-/
import Derived.Test.YtgcghoalepkdfaaDisk
import Derived.Outline
import Derived.Handy
import Derived.WalkLawsBesides
import Derived.WalkSpells
import Derived.Deep.DeepFit
import Derived.Deep.QuietTactic
import Derived.BigQuiet
namespace Go.Proofs.Ytgcghoalepkdfaa
open Go.RowKit

theorem has_any (w : World) (base g gm : Nat) (v : Value) (d : DM) (i : Int) (h : Lies w base g gm v d) :
    Calls Try.prog 33 #[.pointer (some ⟨g, 0, none⟩), .int .i64 i] w fun e w' => e = .returned (.bool (d.has i)) ∧ w = w' := by
  obtain ⟨-, -, -, -, c4, -, -, -⟩ := h.cells
  by_cases h0 : 0 ≤ i
  · go_enter Try.func33, Try.ntmps33
    go_wp2
    go_ret
    exact ⟨by simp [DM.has, h0], rfl⟩
  · have h0' : decide (0 ≤ i) = false := by simpa using h0
    go_enter Try.func33, Try.ntmps33
    go_wp2
    go_ret
    exact ⟨by simp [DM.has, h0'], rfl⟩

theorem down_any (w : World) (base g gm : Nat) (v : Value) (d : DM) (h : Lies w base g gm v d) :
    Calls Try.prog 24 #[.pointer (some ⟨g, 0, none⟩)] w fun e w' => e = .returned (.bool d.gone) ∧ w = w' := by
  obtain ⟨-, -, -, c3, -, -, -, -⟩ := h.cells
  go_enter Try.func24, Try.ntmps24
  go_wp2
  go_ret
  exact ⟨by simp, rfl⟩
theorem len_any (w : World) (base g gm : Nat) (v : Value) (d : DM) (h : Lies w base g gm v d) :
    Calls Try.prog 13 #[.pointer (some ⟨g, 0, none⟩)] w fun e w' => e = .returned (.int .i64 d.n) ∧ w = w' := by
  obtain ⟨-, -, -, -, c4, -, -, -⟩ := h.cells
  go_enter Try.func13, Try.ntmps13
  go_wp2
  go_ret
  exact ⟨by simp, rfl⟩
theorem steps_any (w : World) (base g gm : Nat) (v : Value) (d : DM) (h : Lies w base g gm v d) :
    Calls Try.prog 26 #[.pointer (some ⟨g, 0, none⟩)] w fun e w' => e = .returned (.int .i64 d.steps) ∧ w = w' := by
  obtain ⟨c0, -, -, -, -, -, -, -⟩ := h.cells
  go_enter Try.func26, Try.ntmps26
  go_wp2
  go_ret
  exact ⟨by simp, rfl⟩
theorem waiting_any (w : World) (base g gm : Nat) (v : Value) (d : DM) (h : Lies w base g gm v d) :
    Calls Try.prog 23 #[.pointer (some ⟨g, 0, none⟩)] w fun e w' => e = .returned (.int .i64 d.wait.length) ∧ w = w' := by
  obtain ⟨-, -, -, -, -, -, c6, -⟩ := h.cells
  obtain ⟨A, n, cap, rfl, hn⟩ : ∃ A n cap, v = .slice A n cap ∧ n = d.wait.length := by
    rcases h.row.2 with ⟨rfl, hn⟩ | ⟨g', cap, cur, rfl, _⟩
    · exact ⟨_, _, _, rfl, hn.symm⟩
    · exact ⟨_, _, _, rfl, rfl⟩
  have HN := Lib.hid hn
  clear hn
  go_enter Try.func23, Try.ntmps23
  go_wp2
  go_ret
  exact ⟨by rw [HN.out]; rfl, rfl⟩

/-- the first four cells are turned -/
theorem Lies.power {w w' : World} {base g gm : Nat} {v : Value} {d d' : DM} (h : Lies w base g gm v d) (ho : Only [g] w w') (hb : Blk w' g 67 (dcells d' gm v)) (hs : d'.sure = d.sure) (hw : d'.wait = d.wait) : Lies w' base g gm v d' := by
  obtain ⟨f, h1, h2⟩ := h.map
  have hne : gm ≠ g := h1.ne_blk h.blk
  refine ⟨hb, ⟨f, h1.of (ho.block gm h1.lt (by simpa using hne)), by rw [hs]; exact h2⟩, ?_, h.bg, h.bm⟩
  rw [hw]
  refine row_of h.row fun k hk => ho.block k (row_under h.row k hk) ?_
  intro hm
  simp only [List.mem_singleton] at hm
  subst hm
  exact own_blk_ne h.row h.blk (by decide) (mem_rowOf.1 hk)

theorem step_any (w : World) (base g gm : Nat) (v : Value) (d : DM) (h : Lies w base g gm v d) (hs : d.steps < 4611686018427387904) (hl : d.left ≤ 9223372036854775807) :
    Calls Try.prog 34 #[.pointer (some ⟨g, 0, none⟩)] w fun e w' => e = .returned (errV d.stepErr) ∧ Lies w' base g gm v d.step ∧ Only [g] w w' := by
  obtain ⟨c0, c1, c2, c3, c4, c5, c6, hf⟩ := h.cells
  have f0 := hf 0; have f2 := hf 2; have f3 := hf 3
  clear hf
  have hb := h.blk
  obtain ⟨n, sure, wait, steps, armed, left, gone⟩ := d
  simp only at c0 c1 c2 c3 c4 hs hl
  have fin : ∀ (d' : DM) (w' : World), Blk w' g 67 (dcells d' gm v) → d'.sure = sure → d'.wait = wait → Only [g] w w' → Lies w' base g gm v d' ∧ Only [g] w w' :=
    fun d' w' h1 h2 h3 h4 => ⟨h.power h4 h1 h2 h3, h4⟩
  have Fin := Lib.hid fin
  clear fin h
  cases gone with
  | true =>
    go_enter Try.func34, Try.ntmps34
    go_wp2
    go_ret
    exact ⟨rfl, Fin.out _ _ (hb.set_ 3 _) rfl rfl ((Only.refl _ _).setCell (by simp) _)⟩
  | false =>
    cases armed with
    | false =>
      go_enter Try.func34, Try.ntmps34
      go_wp2
      go_ret
      exact ⟨rfl, Fin.out _ _ (hb.set_ 0 _) rfl rfl ((Only.refl _ _).setCell (by simp) _)⟩
    | true =>
      by_cases h0 : left = 0
      · subst h0
        go_enter Try.func34, Try.ntmps34
        go_wp2
        go_ret
        exact ⟨rfl, Fin.out _ _ (hb.set_ 3 _) rfl rfl ((Only.refl _ _).setCell (by simp) _)⟩
      · have h1 : ((left : Int) == 0) = false := by simp; omega
        have h2 : DM.off ⟨n, sure, wait, steps, true, left, false⟩ = false := by simp [DM.off, h0]
        have H2 := Lib.hid h2
        clear h2
        go_enter Try.func34, Try.ntmps34
        go_wp2
        go_ret
        refine ⟨by unfold DM.stepErr; rw [H2.out]; rfl, Fin.out _ _ ?_ ?_ ?_ (((Only.refl _ _).setCell (by simp) _).setCell (by simp) _)⟩
        · have := (hb.set_ 0 (.int .i64 ((steps : Int) + 1))).set_ 2 (.int .i64 ((left : Int) - 1))
          rw [show DM.step ⟨n, sure, wait, steps, true, left, false⟩ = ⟨n, sure, wait, steps + 1, true, left - 1, false⟩ by unfold DM.step; rw [H2.out]; rfl]
          rw [show ((left : Int) - 1) = ((left - 1 : Nat) : Int) by omega] at this ⊢
          exact this
        · unfold DM.step; rw [H2.out]; rfl
        · unfold DM.step; rw [H2.out]; rfl

theorem restore_any (w : World) (base g gm : Nat) (v : Value) (d : DM) (h : Lies w base g gm v d) :
    Calls Try.prog 38 #[.pointer (some ⟨g, 0, none⟩)] w fun e w' => e = .returned (.tuple #[]) ∧ Lies w' base g gm v d.restore ∧ Only [g] w w' := by
  obtain ⟨c0, c1, c2, c3, c4, c5, c6, hf⟩ := h.cells
  have f1 := hf 1; have f2 := hf 2; have f3 := hf 3
  clear hf
  have Fin := Lib.hid h
  clear h
  go_enter Try.func38, Try.ntmps38
  go_wp2
  go_end0
  have h4 : Only [g] w (((w.setCell ⟨g, 1, none⟩ (.bool false)).setCell ⟨g, 2, none⟩ (.int .i64 0)).setCell ⟨g, 3, none⟩ (.bool false)) := (((Only.refl _ _).setCell (by simp) _).setCell (by simp) _).setCell (by simp) _
  exact ⟨rfl, Fin.out.power h4 (((Fin.out.blk.set_ 1 _).set_ 2 _).set_ 3 _) rfl rfl, h4⟩
theorem arm0_any (w : World) (base g gm : Nat) (v : Value) (d : DM) (k : Nat) (h : Lies w base g gm v d) :
    Calls Try.prog 40 #[.pointer (some ⟨g, 0, none⟩), .int .i64 k] w fun e w' => e = .returned (.tuple #[]) ∧ Lies w' base g gm v { d with armed := true, left := k } ∧ Only [g] w w' := by
  obtain ⟨c0, c1, c2, c3, c4, c5, c6, hf⟩ := h.cells
  have f1 := hf 1; have f2 := hf 2
  clear hf
  have Fin := Lib.hid h
  clear h
  go_enter Try.func40, Try.ntmps40
  go_wp2
  go_end0
  have h4 : Only [g] w ((w.setCell ⟨g, 1, none⟩ (.bool true)).setCell ⟨g, 2, none⟩ (.int .i64 k)) := ((Only.refl _ _).setCell (by simp) _).setCell (by simp) _
  exact ⟨rfl, Fin.out.power h4 ((Fin.out.blk.set_ 1 _).set_ 2 _) rfl rfl, h4⟩
theorem arm_any (w : World) (base g gm : Nat) (v : Value) (d : DM) (k : Int) (hk : -9223372036854775808 ≤ k) (h : Lies w base g gm v d) :
    Calls Try.prog 25 #[.pointer (some ⟨g, 0, none⟩), .int .i64 k] w fun e w' => e = .returned (errV (armErr k)) ∧ Lies w' base g gm v (d.arm k) ∧ Only [g] w w' := by
  by_cases h0 : k < 0
  · have Fin := Lib.hid h
    clear h
    go_enter Try.func25, Try.ntmps25
    go_wp2
    go_ret
    exact ⟨by unfold armErr; rw [if_pos h0]; rfl, by unfold DM.arm; rw [if_pos h0]; exact Fin.out, Only.refl _ _⟩
  · obtain ⟨j, rfl⟩ : ∃ j : Nat, k = (j : Int) := ⟨k.toNat, by omega⟩
    clear hk h0
    go_enter Try.func25, Try.ntmps25
    go_wp2_with fail
    refine (arm0_any _ _ _ _ _ _ _ h).mono ?_
    rintro e w' ⟨rfl, h1, h2⟩
    have Fin := Lib.hid h1
    clear h1
    go_wp2
    go_ret
    exact ⟨by unfold armErr; rw [if_neg (by omega)]; rfl, by unfold DM.arm; rw [if_neg (by omega)]; exact Fin.out, h2⟩
end Go.Proofs.Ytgcghoalepkdfaa
