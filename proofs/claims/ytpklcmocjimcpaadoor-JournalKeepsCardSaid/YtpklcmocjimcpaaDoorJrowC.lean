/-
  Rows of bytes side by side, as the laws compare them: whether they are the same. Conditions: both read so.
-/
import Derived.Test.YtpklcmocjimcpaaDoorZj
import Derived.Deep.QuietTactic
import Derived.BigQuiet
namespace Go.Proofs.YtpklcmocjimcpaaDoor
open Go.RowKit
set_option maxRecDepth 100000
set_option linter.unusedSimpArgs false
set_option linter.unusedVariables false
/-- a row of slices at A reads as these texts -/
def RowsAt (w : World) (B : Nat) (A : Option Addr) (us : List Value) (L : List (List Nat)) : Prop :=
  Reads w B 1 A L.length us ∧ ∀ (i : Nat) (bs : List Nat), L[i]? = some bs → ∃ A' c, us[i]? = some (.slice A' bs.length c) ∧ Bytes w B A' bs.length bs
theorem RowsAt.below {w w' : World} {B : Nat} {A : Option Addr} {us : List Value} {L : List (List Nat)} (h : RowsAt w B A us L) (hb : Below B w w') : RowsAt w' B A us L :=
  ⟨h.1.below hb, fun i bs hi => by
    obtain ⟨A', c, h1, h2⟩ := h.2 i bs hi
    exact ⟨A', c, h1, h2.below hb⟩⟩
theorem RowsAt.more {w : World} {B B' : Nat} {A : Option Addr} {us : List Value} {L : List (List Nat)} (h : RowsAt w B A us L) (hB : B ≤ B') : RowsAt w B' A us L :=
  ⟨h.1.more hB, fun i bs hi => by
    obtain ⟨A', c, h1, h2⟩ := h.2 i bs hi
    exact ⟨A', c, h1, h2.more hB⟩⟩
theorem TxRows.rows {w : World} {base : Nat} {A : Option Addr} {m c : Nat} {txs : List (List Nat)} {us : List Value} (h : TxRows w base (.slice A m c) txs us) (h256 : ∀ t ∈ txs, ∀ b ∈ t, b < 256) : m = txs.length ∧ RowsAt w w.heap.size A us txs := by
  obtain ⟨A', c', e⟩ := slice_of h.1
  injection e with e1 e2 e3
  subst e2
  refine ⟨rfl, Reads.of_own h.1, fun i bs hi => ?_⟩
  obtain ⟨B, c2, h1, h2⟩ := h.2.2 i bs hi
  exact ⟨B, c2, h1, h2.bytes (h256 bs (List.mem_of_getElem? hi))⟩
theorem str_eq_iff {bs bs' : List Nat} (h : ∀ x ∈ bs, x < 256) (h' : ∀ x ∈ bs', x < 256) : ((strOf bs).toList == (strOf bs').toList) = (bs == bs') := by
  rw [Bool.eq_iff_iff, beq_iff_eq, beq_iff_eq, ByteArray.toList_eq, ByteArray.toList_eq]
  exact ⟨fun e => strOf_inj h h' (Go.WideShapes.bytes_inj e), fun e => by rw [e]⟩
theorem take_eq_succ {α : Type} {L L' : List α} {k : Nat} (h : L.take k = L'.take k) {x : α} (hx : L[k]? = some x) (hx' : L'[k]? = some x) : L.take (k + 1) = L'.take (k + 1) := by
  rw [List.take_add_one, List.take_add_one, h, hx, hx']
def RowsTo (L L' : List (List Nat)) (w : World) (e : Ending) (w' : World) : Prop := ∃ r : Bool, e = .returned (.bool r) ∧ (r = true ↔ L = L') ∧ Below w.heap.size w w'
set_option maxRecDepth 100000 in
set_option maxHeartbeats 2000000 in
theorem rows_iff (A A' : Option Addr) (c c' B B' : Nat) (us us' : List Value) (L L' : List (List Nat)) (w : World) (hR : RowsAt w B A us L) (hR' : RowsAt w B' A' us' L') (hB : B ≤ w.heap.size) (hB' : B' ≤ w.heap.size) (hm : L.length ≤ 100000) (hm' : L'.length ≤ 100000) :
    Calls Tryd.prog 42 #[.slice A L.length c, .slice A' L'.length c'] w (RowsTo L L' w) := by
  have HR := Lib.hid hR
  have HR' := Lib.hid hR'
  clear hR hR'
  by_cases hl : L.length = L'.length
  · have hln : ((L.length : Int) != (L'.length : Int)) = false := by simp [hl]
    have hln' : (L.length != L'.length) = false := by simp [hl]
    have HL := Lib.hid hl
    clear hl
    generalize hml : L.length = m at *
    generalize hml' : L'.length = m' at *
    go_enter Tryd.func42, Tryd.ntmps42
    go_wp2
    go_loopw [13] (fun i wr => ∃ k : Nat, k ≤ m ∧ i = .int .i64 k ∧ Below w.heap.size w wr ∧ L.take k = L'.take k) (fun i _ => m - (intOf i).toNat)
    case atStart => exact ⟨0, Nat.zero_le _, rfl, Below.refl _ _, rfl⟩
    case round =>
      obtain ⟨k, hk, rfl, hb, htk⟩ := hrel
      by_cases hlt : k < m
      · have hx : L[k]? = some (L[k]'(by omega)) := List.getElem?_eq_getElem _
        have hx' : L'[k]? = some (L'[k]'(by have := HL.out; omega)) := List.getElem?_eq_getElem _
        generalize L[k]'(by omega) = bs at *
        generalize L'[k]'(by have := HL.out; omega) = bs' at *
        obtain ⟨Ai, ci, e1, hy⟩ := (HR.out.below (hb.mono hB)).2 k bs hx
        obtain ⟨Ai', ci', e2, hy'⟩ := (HR'.out.below (hb.mono hB')).2 k bs' hx'
        obtain ⟨ad, u, rfl, -, hu, hc⟩ := (HR.out.below (hb.mono hB)).1.at_ (show k < L.length by omega)
        obtain ⟨ad', u', rfl, -, hu', hc'⟩ := (HR'.out.below (hb.mono hB')).1.at_ (show k < L'.length by have := HL.out; omega)
        rw [e1] at hu
        rw [e2] at hu'
        injection hu with hu
        injection hu' with hu'
        subst hu hu'
        have k1 := fun q => str_of (P := Tryd.prog) (hy.drewN q) ci 34 9 5 Tryd.underlying34 Tryd.underlying5 Tryd.underlying9
        have k2 := fun q => str_of (P := Tryd.prog) (hy'.drewN q) ci' 34 9 5 Tryd.underlying34 Tryd.underlying5 Tryd.underlying9
        have hse := str_eq_iff hy.2 hy'.2
        have hk0 : (0 : Int) ≤ (k : Int) := by omega
        have hk1 : (k : Int) < (m : Int) := by omega
        have hk2 : (k : Int) < (m' : Int) := by have := HL.out; omega
        have HB := Lib.hid hb
        have HX := Lib.hid (And.intro hx (And.intro hx' htk))
        clear hb hy hy' e1 e2 hx hx' htk
        by_cases heq : bs = bs'
        · subst heq
          clear hse
          generalize strOf bs = s1 at *
          go_wp2_with fail
          go_quiet (fail)
          go_wp2
          exact ⟨⟨k + 1, by omega, by go_num, below_drewN HB.out _, take_eq_succ HX.out.2.2 HX.out.1 HX.out.2.1⟩, by simp only [intOf]; omega⟩
        · have hne : ((strOf bs).toList == (strOf bs').toList) = false := by rw [hse]; simpa using heq
          have hfin : ¬ L = L' := by
            intro e
            subst e
            exact heq (Option.some.inj (HX.out.1.symm.trans HX.out.2.1))
          have HF := Lib.hid hfin
          clear hse heq hfin
          have hne2 : ((strOf bs).toList != (strOf bs').toList) = true := by simp only [bne, hne, Bool.not_false]
          generalize strOf bs = s1 at *
          generalize strOf bs' = s2 at *
          go_wp2_with fail
          go_quiet (fail)
          go_wp2
          go_ret
          exact ⟨false, rfl, ⟨fun h => (by cases h), fun h => absurd h HF.out⟩, below_drewN HB.out _⟩
      · obtain rfl : k = m := by omega
        have hfin : L = L' := by
          have h1 := htk
          rwa [List.take_of_length_le (by omega), List.take_of_length_le (by have := HL.out; omega)] at h1
        have HF := Lib.hid hfin
        clear hfin htk
        go_wp2
        go_ret
        exact ⟨true, rfl, ⟨fun _ => HF.out, fun _ => rfl⟩, hb⟩
  · have hln : ((L.length : Int) != (L'.length : Int)) = true := by simp; omega
    have hln' : (L.length != L'.length) = true := by simp [hl]
    have hfin : ¬ L = L' := by
      intro e
      exact hl (by rw [e])
    have HF := Lib.hid hfin
    clear hfin hl
    generalize hml : L.length = m at *
    generalize hml' : L'.length = m' at *
    go_enter Tryd.func42, Tryd.ntmps42
    go_wp2
    go_ret
    exact ⟨false, rfl, ⟨fun h => (by cases h), fun h => absurd h HF.out⟩, Below.refl _ _⟩
end Go.Proofs.YtpklcmocjimcpaaDoor
