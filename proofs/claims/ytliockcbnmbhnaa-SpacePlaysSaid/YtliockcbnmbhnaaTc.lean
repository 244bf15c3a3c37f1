/-
  Blocks are taken. Conditions: a space stands as it is said to.
-/
import Derived.Test.YtliockcbnmbhnaaTb
namespace Go.Proofs.Ytliockcbnmbhnaa
open Go.RowKit Go.BigFrame
set_option linter.unusedSimpArgs false
set_option linter.unusedVariables false
theorem len_lens {L : List (Nat × Nat)} (h : ∀ e ∈ L, 1 ≤ e.2) : L.length ≤ lens L := by
  induction L with
  | nil => simp
  | cons e L ih =>
    have h1 := h e (List.mem_cons_self ..)
    have h2 := ih (fun q hq => h q (List.mem_cons_of_mem _ hq))
    simp only [lens, List.map_cons, List.sum_cons, List.length_cons] at h2 ⊢
    omega
theorem hol_few (fl : List Bool) : (hol 0 fl).length ≤ cnt fl := by
  rw [← hol_lens fl 0]
  exact len_lens fun e he => (hol_mem fl 0 e.1 e.2 he).2.1
/-- what a call of Take comes to -/
def TakeTo (w : World) (g r c : Nat) (A : Option Addr) (fl : List Bool) (n : Int) (e : Ending) (w' : World) : Prop :=
  Only [g, r] w w' ∧
  ((n < 0 ∧ e = .returned (.tuple #[.slice none 0 0, errV 1]) ∧ SAt w' g r A c fl (cnt fl)) ∨
   ((cnt fl : Int) < n ∧ e = .returned (.tuple #[.slice none 0 0, errV 4]) ∧ SAt w' g r A c fl (cnt fl)) ∨
   (∃ (k : Nat) (v : Value) (out : List (Nat × Nat)), n = (k : Int) ∧ k ≤ cnt fl ∧ e = .returned (.tuple #[v, .nilIface]) ∧ OwnE w' w.heap.size v (natE out) ∧ Chosen (hol 0 fl) k out ∧ SAt w' g r A c (setA fl out false) (cnt (setA fl out false))))
set_option maxRecDepth 100000 in
set_option maxHeartbeats 4000000 in
theorem stake_any {w : World} {g r c : Nat} {A : Option Addr} {fl : List Bool} (n : Int) (h : SAt w g r A c fl (cnt fl)) (hgr : g ≠ r) :
    Calls Try.prog 15 #[.pointer (some ⟨g, 0, none⟩), .int .i64 n] w (TakeTo w g r c A fl n) := by
  have HH := Lib.hid h
  have HFR := Lib.hid (sfree_any h.blk)
  have HHO := Lib.hid (sholes_any h)
  have hlim := h.lim
  have hgl := h.blk.lt
  clear h
  by_cases hneg : n < 0
  · have hd : decide (n < 0) = true := decide_eq_true hneg
    go_enter Try.func15, Try.ntmps15
    go_wp2
    go_ret2
    exact ⟨Only.refl _ _, .inl ⟨hneg, rfl, HH.out⟩⟩
  · have hd : decide (n < 0) = false := decide_eq_false hneg
    by_cases hbig : (cnt fl : Int) < n
    · have hd2 : decide ((cnt fl : Int) < n) = true := decide_eq_true hbig
      go_enter Try.func15, Try.ntmps15
      go_wp2_with fail
      refine HFR.out.mono ?_
      rintro e w ⟨rfl, rfl⟩
      go_wp2
      go_ret2
      exact ⟨Only.refl _ _, .inr (.inl ⟨hbig, rfl, HH.out⟩)⟩
    · have hd2 : decide ((cnt fl : Int) < n) = false := decide_eq_false hbig
      obtain ⟨k, rfl⟩ : ∃ k : Nat, n = (k : Int) := ⟨n.toNat, by omega⟩
      have hk : k ≤ cnt fl := by omega
      have hcl := cnt_le fl
      have hfew := hol_few fl
      have hll : lens (hol 0 fl) = cnt fl := hol_lens fl 0
      have HL := Lib.hid hll
      clear hll
      go_enter Try.func15, Try.ntmps15
      go_wp2_with fail
      refine HFR.out.mono ?_
      rintro e w ⟨rfl, rfl⟩
      go_wp2_with fail
      refine HHO.out.mono ?_
      rintro e1 w1 ⟨v1, rfl, ho1, hb1⟩
      have hs1 := HH.out.of (hb1.block g hgl) (fun _ _ hx => hb1.block r hx.lt)
      have HS1 := Lib.hid hs1
      have HB1 := Lib.hid (And.intro ho1 hb1)
      have hcall : Calls Try.prog 27 #[v1, .int .i64 k] w1 fun e' w' => ∃ v out, e' = .returned v ∧ OwnE w' w.heap.size v (natE out) ∧ Chosen (hol 0 fl) k out ∧ Below w.heap.size w w' ∧ (k = 0 → v = .slice none 0 0 ∧ out = []) := by
        by_cases hk0 : k = 0
        · subst hk0
          refine (choose_zero v1 w1).mono ?_
          rintro e' w' ⟨rfl, hb⟩
          exact ⟨_, [], rfl, OwnE.nil _ _, .none _, hb1.trans (hb.mono hb1.size), fun _ => ⟨rfl, rfl⟩⟩
        · have hne : hol 0 fl ≠ [] := fun h => by rw [h] at HL; have := HL.out; simp [lens] at this; omega
          obtain ⟨r1, c1, rfl, hr1, hc1, hrow⟩ := erow_of_own ho1 hne
          refine (choose_any hrow (by omega) hc1 (by omega) (by rw [HL.out]; exact hk) (by omega)).mono ?_
          rintro e' w' ⟨v, out, rfl, ho, hch, hon⟩
          exact ⟨v, out, rfl, ho.weaken hb1.size, hch, hb1.trans (hon.below (fun j hj => by simp at hj; omega) (hb1.size)), fun h => absurd h hk0⟩
      have HC := Lib.hid hcall
      clear hcall hs1 ho1 hb1
      go_wp2_with fail
      refine HC.out.mono ?_
      rintro e2 w2 ⟨v, out, rfl, ho, hch, hb, hz⟩
      have hrr : r < w.heap.size ∨ k = 0 := by
        rcases HH.out.row with h2 | ⟨_, cs, h2, _⟩
        · exact .inr (by have h0 : cnt fl = 0 := by rw [h2]; rfl
                         omega)
        · exact .inl h2.lt
      have hs2 : SAt w2 g r A c fl (cnt fl) := HH.out.of (hb.block g hgl) (fun _ _ hx => hb.block r hx.lt)
      obtain ⟨A2, c2, rfl, hA2⟩ := ho.form
      have hok := (hch.ok (hol_sound fl)).1
      have hol : (natE out).length = out.length := by simp [natE]
      have hfw := hch.few.1
      rw [hol] at ho hz ⊢
      have hExt : ExtR w2 w2.heap.size A2 (natE out) := by
        have := ho
        rw [← hol] at this
        exact OwnE.ext this
      have hfar : ∀ ad, A2 = some ad → ad.block ≠ g ∧ ad.block ≠ r := by
        intro ad e
        subst e
        have h1 := (hA2 ad rfl).1
        refine ⟨by omega, ?_⟩
        rcases hrr with h2 | h2
        · omega
        · have := (hz h2).1
          injection this with h3
          cases h3
      have HSE := Lib.hid (sset_any out false hok hs2 hgr A2 c2 hExt (Nat.le_refl _) hfar (by omega))
      have HX := Lib.hid (And.intro ho (And.intro hch hb))
      clear HC hs2 hA2 hok hfw hol hExt hfar ho hch hb HS1 HB1 HHO HFR
      go_wp2_with fail
      refine HSE.out.mono ?_
      rintro e3 w3 ⟨rfl, ho3, hs3⟩
      have hown : OwnE w3 w.heap.size (.slice A2 out.length c2) (natE out) := by
        rcases hrr with h2 | h2
        · exact HX.out.1.apart fun j hj hj2 => ho3.block j hj2 (by simp; omega)
        · obtain ⟨h3, h4⟩ := hz h2
          rw [h3, h4]
          exact OwnE.nil _ _
      have HY := Lib.hid (And.intro hown (And.intro hs3 ((Only.of_below HX.out.2.2 [g, r]).trans ho3 (Fresh.refl _ _))))
      clear HSE ho3 hs3 hown
      go_wp2
      go_ret2
      exact ⟨HY.out.2.2, .inr (.inr ⟨k, _, out, rfl, hk, rfl, HY.out.1, HX.out.2.1, HY.out.2.1⟩)⟩
end Go.Proofs.Ytliockcbnmbhnaa
