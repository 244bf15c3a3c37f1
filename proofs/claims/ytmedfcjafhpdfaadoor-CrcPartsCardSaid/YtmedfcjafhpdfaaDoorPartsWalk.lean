/-
  The law CrcParts, walked: it returns true and changes nothing that was there. Conditions: the argument reads as rows of bytes; the package's table holds its sixteen numbers.
-/
import Derived.Test.YtmedfcjafhpdfaaDoorSum
import Derived.Test.YtmedfcjafhpdfaaDoorBuf
import Derived.Test.YtmedfcjafhpdfaaDoorJoin
import Derived.Test.YtmedfcjafhpdfaaDoorOpen
namespace Go.Proofs.YtmedfcjafhpdfaaDoor
open Go.RowKit
set_option linter.unusedVariables false
theorem Rows_.at_ {w : World} {B : Nat} {A : Option Addr} {m k : Nat} {ps : List (Option Addr × Nat × Nat × List Nat)} (h : Rows_ w B A m ps) (hk : k < m) :
    ∃ (ad : Addr) (p : Option Addr × Nat × Nat × List Nat), A = some ad ∧ ps[k]? = some p ∧ Bytes w B p.1 p.2.1 p.2.2.2 ∧ p.2.1 ≤ 9223372036854775807 ∧ w.cell? (ad.add k) = some (.slice p.1 p.2.1 p.2.2.1) := by
  obtain ⟨ad, u, e, hb, hx, hc⟩ := h.1.at_ hk
  have hl : k < ps.length := by have := h.1.1; simp at this; omega
  have hp := h.2 _ (List.getElem_mem hl)
  refine ⟨ad, ps[k], e, List.getElem?_eq_getElem hl, hp.1, hp.2, ?_⟩
  rw [hc, ← hx]
  simp [partVal, hl]
theorem Rows_.below {w w' : World} {B : Nat} {A : Option Addr} {m : Nat} {ps : List (Option Addr × Nat × Nat × List Nat)} (h : Rows_ w B A m ps) (hb : Below B w w') : Rows_ w' B A m ps :=
  ⟨h.1.below hb, fun p hp => ⟨(h.2 p hp).1.below hb, (h.2 p hp).2⟩⟩
theorem Rows_.parts {w : World} {B : Nat} {A : Option Addr} {m : Nat} {ps : List (Option Addr × Nat × Nat × List Nat)} (h : Rows_ w B A m ps) (hs : ∀ p ∈ ps, p.2.1 ≤ 1000) : Parts w B A m ps :=
  ⟨h.1, fun p hp => ⟨(h.2 p hp).1, by have := hs p hp; omega⟩⟩
theorem text_len {ps : List (Option Addr × Nat × Nat × List Nat)} (h : ∀ p ∈ ps, p.2.1 ≤ 1000 ∧ p.2.2.2.length = p.2.1) : (textOf ps).length ≤ 1000 * ps.length := by
  induction ps with
  | nil => simp [textOf]
  | cons p ps ih =>
    have h1 := h p (by simp)
    have h2 := ih (fun q hq => h q (by simp [hq]))
    simp only [textOf, List.flatMap_cons, List.length_append, List.length_cons] at h2 ⊢
    omega
theorem mem_take_succ {α : Type} {l : List α} {k : Nat} {p : α} (h : l[k]? = some p) {q : α} (hq : q ∈ l.take (k + 1)) : q ∈ l.take k ∨ q = p := by
  rw [List.take_add_one, h] at hq
  simpa using hq
set_option maxHeartbeats 1000000 in
theorem crcParts_walk (A0 : Option Addr) (n0 c0 : Nat) (ps : List (Option Addr × Nat × Nat × List Nat)) (m0 : n0 ≤ 9223372036854775807) {w : World} (h0 : Rows_ w w.heap.size A0 n0 ps) (hT : Tab w) :
    Calls Tryd.prog 4 #[.slice A0 n0 c0] w fun e w' => e = .returned (.bool true) ∧ Below w.heap.size w w' := by
  have HT := Lib.hid hT
  clear hT
  go_enter Tryd.func4, Tryd.ntmps4
  go_wp2_with fail
  refine (alive_any _ HT.out).mono ?_
  rintro e wb ⟨rfl, bb⟩
  go_wp2
  go_loopw [3, 4, 12] (fun v u i wr => ∃ k : Nat, k ≤ n0 ∧ k ≤ 51 ∧ i = .int .i64 k ∧ u = .int .u32 (Crc.sum (textOf (ps.take k)) : Nat) ∧ Own wr wb.heap.size v (textOf (ps.take k)).length (textOf (ps.take k)) ∧ (∀ p ∈ ps.take k, p.2.1 ≤ 1000) ∧ Below wb.heap.size wb wr)
    (fun _ _ i _ => n0 - (intOf i).toNat)
  case atStart => exact ⟨0, Nat.zero_le _, by omega, rfl, by simp [textOf, Crc.sum, Crc.go, Crc.over], Own.new _ _ (Nat.le_refl _), by simp, (Below.refl _ _).alloc (Nat.le_refl _) _⟩
  case round =>
    obtain ⟨k, hk, hk2, rfl, rfl, hown, hle, bw⟩ := hrel
    have bwr : Below w.heap.size w wr := bb.trans (bw.mono bb.size)
    by_cases hlt : k < n0
    · obtain ⟨ad, p, rfl, hpk, hbp, hpn, hc⟩ := (h0.below bwr).at_ hlt
      obtain ⟨pA, pn, pc, pbs⟩ := p
      by_cases hk5 : k ≤ 50
      · by_cases hp1 : pn ≤ 1000
        · have hd1 : decide ((50 : Int) < (k : Int)) = false := by simp; omega
          have hd2 : decide ((1000 : Int) < (pn : Int)) = false := by simp; omega
          have Htk := Lib.hid (textOf_take hpk)
          have hlt2 : ∀ b ∈ textOf (ps.take k), b < 256 := textOf_take_lt (fun b hb => by
            obtain ⟨q, hq, hbq⟩ := List.mem_flatMap.1 hb
            exact (h0.2 q hq).1.2 b hbq)
          have htl : (textOf (ps.take k)).length ≤ 51000 := by
            have := text_len (ps := ps.take k) (fun q hq => ⟨hle q hq, (h0.2 q (List.mem_of_mem_take hq)).1.len⟩)
            have h2 : (ps.take k).length ≤ k := List.length_take_le _ _
            omega
          have hle2 : Hid (∀ q ∈ ps.take (k + 1), q.2.1 ≤ 1000) := Lib.hid (fun q hq => by
            rcases mem_take_succ hpk hq with h | rfl
            · exact hle q h
            · exact hp1)
          have Hj := Lib.hid (Crc.go_join (Crc.sum (textOf (ps.take k))) pbs (Crc.go_lt _ _) hbp.2)
          have Ha := Lib.hid (Crc.go_append 0 (textOf (ps.take k)) pbs hlt2)
          have Hl : Hid (pbs.length = pn) := Lib.hid hbp.len
          have hs1 : Crc.sum (textOf (ps.take k)) < 4294967296 := Crc.go_lt _ _
          have hs2 : Crc.sum pbs < 4294967296 := Crc.go_lt _ _
          clear hpk hle hlt2
          generalize textOf (ps.take k) = t at *
          go_wp2_with (first
            | (refine app_bytes (.tmp 24) (.tmp 25) rfl rfl wb.heap.size _ _ _ rfl hown w.heap.size pA pn pc pbs rfl hbp (by omega) bw.size ?_
               intro v3 w3 h3 g3 a3
               have b3 : Below wb.heap.size wb w3 := below_own bw hown (Nat.le_refl _) g3 bw.size))
          have bw3 : Below w.heap.size w w3 := bb.trans (b3.mono bb.size)
          have r3 : Bytes w3 w3.heap.size pA pn pbs := (hbp.grown g3 bwr.size (fun g hg => by have := (World.ownsRow.lt hown g hg).1; have := bb.size; omega)).more bw3.size
          have hT3 : Hid (Tab w3) := Lib.hid (HT.out.below bw3)
          clear g3 a3 hown bw bwr
          refine (sum_any _ _ _ _ _ _ (by omega) (Parts.new1 w3 _ r3 (by omega)) (hT3.out.alloc _)).mono ?_
          rintro e w' ⟨rfl, rfl⟩
          rw [textOf1]
          go_wp2_with fail
          refine (join_any _ _ _ _ hs1 hs2 (by omega)).mono ?_
          rintro e w' ⟨rfl, rfl⟩
          rw [← Hl.out, Hj.out, Hl.out]
          go_wp2
          go_roundw
          case rel =>
            refine ⟨k + 1, by omega, by omega, by go_num, ?_, ?_, hle2.out, b3.alloc b3.size _⟩
            · rw [Htk.out]
              unfold Crc.sum
              rw [← Ha.out]
            · rw [Htk.out, List.length_append, Hl.out]
              exact h3.alloc _
          case measure => simp [intOf]; omega
        · have hd1 : decide ((50 : Int) < (k : Int)) = false := by simp; omega
          go_wp2
          go_ret
          exact ⟨rfl, bwr⟩
      · go_wp2
        go_ret
        exact ⟨rfl, bwr⟩
    · obtain rfl : k = n0 := by omega
      have e1 : ps.take k = ps := List.take_of_length_le (by have := h0.1.1; simp at this; omega)
      rw [e1] at hown hle
      rw [e1]
      clear e1
      have hT1 : Hid (Tab wr) := Lib.hid (HT.out.below bwr)
      have hP := ((h0.below bwr).parts hle)
      have htl : (textOf ps).length ≤ 51000 := by
        have := text_len (ps := ps) (fun q hq => ⟨hle q hq, (h0.2 q hq).1.len⟩)
        have h2 : ps.length = k := by have := h0.1.1; simpa using this
        omega
      have hb : ∀ b ∈ textOf ps, b < 256 := fun b hb => by
        obtain ⟨q, hq, hbq⟩ := List.mem_flatMap.1 hb
        exact (h0.2 q hq).1.2 b hbq
      obtain ⟨Ax, cx, rfl, _, _, _⟩ := hown.form
      have rx := hown.bytes hb
      clear hown h0 hle bw bb
      go_wp2_with fail
      refine (sum_any _ _ _ _ _ _ (by omega) hP hT1.out).mono ?_
      rintro e w' ⟨rfl, rfl⟩
      go_wp2_with fail
      refine (sum_any _ _ _ _ _ _ (by omega) (Parts.new1 wr _ rx (by omega)) (hT1.out.alloc _)).mono ?_
      rintro e w' ⟨rfl, rfl⟩
      rw [textOf1]
      go_wp2_with fail
      refine (sum_any _ _ _ _ _ _ (by omega) (Parts.at1 _ _ (by simp) _ (rx.up _) (by omega)) ((hT1.out.alloc _).alloc _)).mono ?_
      rintro e w' ⟨rfl, rfl⟩
      rw [textOf1]
      go_wp2
      go_ret
      have hz := bwr.size
      exact ⟨rfl, by go_grown⟩
end Go.Proofs.YtmedfcjafhpdfaaDoor
