/-
  The shortest hole that fits: the holes that don't fit are dropped, the first of the rest is found. Conditions: the row reads as it is said to.
-/
import Derived.Test.YtliockcbnmbhnaaSw
namespace Go.Proofs.Ytliockcbnmbhnaa
open Go.RowKit Go.BigFrame
set_option linter.unusedSimpArgs false
set_option linter.unusedVariables false
def Idx (xs : List (Nat × Nat)) (n : Nat) (v : Int) : Prop := (v = -1 ∧ ∀ e ∈ xs, n ≤ e.2) ∨ ∃ k : Nat, v = k ∧ k < xs.length ∧ (∀ j, j < k → n ≤ (gx xs j).2) ∧ ¬ n ≤ (gx xs k).2
set_option maxRecDepth 100000 in
set_option maxHeartbeats 2000000 in
theorem index_ext {w : World} {r c p q n : Nat} {xs : List (Nat × Nat)} (h : ERow w r xs) (hl : xs.length ≤ 65536) (hC : Cap w p q n) :
    Calls Try.prog 57 #[.slice (some ⟨r, 0, none⟩) xs.length c, notV q] w fun e' w' => (∃ v, e' = .returned (.int .i64 v) ∧ Idx xs n v) ∧ Below w.heap.size w w' := by
  have H := Lib.hid h
  have HC := Lib.hid hC
  have hrl := h.lt
  clear h hC
  go_enter Try.func57, Try.ntmps57
  unfold notV
  go_wp2
  go_loopw [8] (fun i wr => ∃ k : Nat, k ≤ xs.length ∧ i = .int .i64 k ∧ (∀ j, j < k → n ≤ (gx xs j).2) ∧ Below w.heap.size w wr) (fun i _ => xs.length - (intS i).toNat)
  case atStart => exact ⟨0, by omega, rfl, fun j hj => by omega, Below.refl _ _⟩
  case round =>
    obtain ⟨k, hk, rfl, hf, hb⟩ := hrel
    obtain ⟨wo, hwo⟩ : ∃ wo, wo = wr := ⟨_, rfl⟩
    subst hwo
    have HF := Lib.hid hf
    have hrow : ERow wo r xs := H.out.of (hb.block r hrl)
    have hcap : Cap wo p q n := HC.out.of hb.size (hb.block p HC.out.pl) (hb.block q HC.out.ql)
    by_cases hlt : k < xs.length
    · obtain ⟨c0, c1, -, -⟩ := hrow.get (gx_some hlt)
      have HN := Lib.hid (notfit_any (gx xs k) hcap)
      have HB := Lib.hid hb
      clear hrow hcap hb hf
      have hwk : IntKind.i64.wrap ((k : Int) + 1) = (k : Int) + 1 := by rw [IntKind.wrap_i64]; omega
      unfold exV at HN
      go_wp2_with fail
      refine HN.out.mono ?_
      rintro e2 w2 ⟨rfl, hb2⟩
      have HB2 := Lib.hid (HB.out.trans (hb2.mono HB.out.size))
      clear hb2 HN HB c0 c1
      by_cases hfit : n ≤ (gx xs k).2
      · have hd : (!decide (n ≤ (gx xs k).2)) = false := by simp [hfit]
        go_wp2
        go_roundw
        case rel => exact ⟨k + 1, by omega, by go_num, fun j hj => by
          by_cases he : j = k
          · subst he; exact hfit
          · exact HF.out j (by omega), HB2.out⟩
        case measure => simp [intS]; omega
      · have hd : (!decide (n ≤ (gx xs k).2)) = true := by simp [hfit]
        go_wp2
        go_ret
        exact ⟨⟨_, rfl, .inr ⟨k, rfl, hlt, HF.out, hfit⟩⟩, HB2.out⟩
    · obtain rfl : k = xs.length := by omega
      have HB := Lib.hid hb
      clear hrow hcap hb hf
      go_wp2
      go_ret
      refine ⟨⟨_, rfl, .inl ⟨rfl, fun e he => ?_⟩⟩, HB.out⟩
      obtain ⟨j, hj, rfl⟩ := List.mem_iff_getElem.1 he
      have := HF.out j hj
      rwa [gx_of (List.getElem?_eq_getElem hj)] at this
end Go.Proofs.Ytliockcbnmbhnaa
