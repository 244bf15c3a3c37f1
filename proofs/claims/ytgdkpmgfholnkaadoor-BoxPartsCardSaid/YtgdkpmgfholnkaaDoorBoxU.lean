/-
  Seal, whatever the box; bytes side by side, both ways; the laws' boxes. Conditions: the data read as bytes; the package's table holds its sixteen numbers.
-/
import Derived.Test.YtgdkpmgfholnkaaDoorBoxA
import Derived.Test.YtgdkpmgfholnkaaDoorRdAll
import Derived.WideShapes
import Derived.Laws.Strings
namespace Go.Proofs.YtgdkpmgfholnkaaDoor
open Go.RowKit
set_option linter.unusedSimpArgs false
set_option linter.unusedVariables false
def sealErr (k g n : Int) (m : Nat) : Nat := if isBoxB k g n then (if m ≤ 106 then 0 else 2) else 1
open Classical in
noncomputable def sealRes (k g n : Int) (d : List Nat) : Sec := if h : d.length ≤ 106 ∧ (∀ b ∈ d, b < 256) ∧ isBoxB k g n = true then sealSec k g n d h.1 h.2.1 else Sec.zero
theorem sealErr_zero {k g n : Int} {m : Nat} (h : sealErr k g n m = 0) : isBoxB k g n = true ∧ m ≤ 106 := by
  unfold sealErr at h
  split at h
  · rename_i hb
    split at h
    · exact ⟨hb, by assumption⟩
    · cases h
  · cases h
theorem sealRes_good {k g n : Int} {d : List Nat} (hb : isBoxB k g n = true) (hl : d.length ≤ 106) (h : ∀ b ∈ d, b < 256) : sealRes k g n d = sealSec k g n d hl h := by
  unfold sealRes
  rw [dif_pos ⟨hl, h, hb⟩]
theorem sealRes_l {k g n : Int} {d : List Nat} (hb : isBoxB k g n = true) (hl : d.length ≤ 106) (h : ∀ b ∈ d, b < 256) : (sealRes k g n d).l = sealL k g n d := by
  rw [sealRes_good hb hl h]; rfl
theorem sealRes_bad {k g n : Int} {d : List Nat} (h : sealErr k g n d.length ≠ 0) : sealRes k g n d = Sec.zero := by
  unfold sealRes
  rw [dif_neg]
  rintro ⟨h1, h2, h3⟩
  exact h (by unfold sealErr; rw [if_pos h3, if_pos h1])
theorem seal_any (k g n : Int) (A : Option Addr) (c : Nat) (d : List Nat) (B : Nat) (w : World) (hd : Bytes w B A d.length d) (hT : Tab w) :
    Calls Tryd.prog 16 #[.agg (boxCs k g n (.slice A d.length c)).toArray] w fun e w' => e = .returned (.tuple #[(sealRes k g n d).v, errV (sealErr k g n d.length)]) ∧ Below w.heap.size w w' := by
  cases hb : isBoxB k g n with
  | false =>
    have e : sealErr k g n d.length = 1 := by unfold sealErr; rw [hb]; rfl
    rw [e, sealRes_bad (by rw [e]; omega)]
    exact seal_range k g n A d.length c w hb
  | true =>
    by_cases hl : d.length ≤ 106
    · have e : sealErr k g n d.length = 0 := by unfold sealErr; rw [hb, if_pos rfl, if_pos hl]
      rw [e, sealRes_good hb hl hd.2]
      exact seal_good k g n A c d B w hb hd hl hd.2 hT
    · have e : sealErr k g n d.length = 2 := by unfold sealErr; rw [hb, if_pos rfl, if_neg hl]
      rw [e, sealRes_bad (by rw [e]; omega)]
      exact seal_form k g n A d.length c w hb (by omega)
theorem u8ofNat_inj {x y : Nat} (hx : x < 256) (hy : y < 256) (h : UInt8.ofNat x = UInt8.ofNat y) : x = y := by
  have := congrArg UInt8.toNat h
  simp at this
  omega
theorem strOf_data (bs : List Nat) : (strOf bs).data.toList = bs.map UInt8.ofNat := by
  simp [strOf, strOfNums]
theorem strOf_inj {a b : List Nat} (ha : ∀ x ∈ a, x < 256) (hb : ∀ x ∈ b, x < 256) (h : strOf a = strOf b) : a = b := by
  have h1 := congrArg (fun s : ByteArray => s.data.toList) h
  simp only [strOf_data] at h1
  have hl : a.length = b.length := by simpa using congrArg List.length h1
  apply List.ext_getElem? 
  intro i
  have h2 := congrArg (fun l => l[i]?) h1
  simp only [List.getElem?_map] at h2
  by_cases hi : i < a.length
  · rw [List.getElem?_eq_getElem hi, List.getElem?_eq_getElem (by omega)] at h2 ⊢
    simp at h2
    rw [u8ofNat_inj (ha _ (List.getElem_mem hi)) (hb _ (List.getElem_mem (by omega))) h2]
  · rw [List.getElem?_eq_none (by omega), List.getElem?_eq_none (by omega)]
/-- bytes side by side, both ways -/
theorem same_iff (A A' : Option Addr) (n n' c c' B B' : Nat) (bs bs' : List Nat) (w : World) (h : Bytes w B A n bs) (h' : Bytes w B' A' n' bs') :
    Calls Tryd.prog 21 #[.slice A n c, .slice A' n' c'] w fun e w' => e = .returned (.bool (bs == bs')) ∧ w = w' := by
  have k1 := str_of (P := Tryd.prog) h c 22 9 5 Tryd.underlying22 Tryd.underlying5 Tryd.underlying9
  have k2 := str_of (P := Tryd.prog) h' c' 22 9 5 Tryd.underlying22 Tryd.underlying5 Tryd.underlying9
  have he : ((strOf bs).toList == (strOf bs').toList) = (bs == bs') := by
    rw [Bool.eq_iff_iff, beq_iff_eq, beq_iff_eq, ByteArray.toList_eq, ByteArray.toList_eq]
    exact ⟨fun e => strOf_inj h.2 h'.2 (Go.WideShapes.bytes_inj e), fun e => by rw [e]⟩
  have HE := Lib.hid he
  generalize strOf bs = s1 at *
  generalize strOf bs' = s2 at *
  clear h h' he
  go_enter Tryd.func21, Tryd.ntmps21
  go_wp2
  go_ret
  exact ⟨by simp [HE.out], rfl⟩
/-- a law's box lies in memory -/
theorem lbox_cells {w : World} {g : Nat} {k x n : Int} {v : Value} (h : Blk w g 31 #[.int .i64 k, .int .i64 x, .int .i64 n, v]) : w.cell? ⟨g, 0, none⟩ = some (.int .i64 k) ∧ w.cell? ⟨g, 1, none⟩ = some (.int .i64 x) ∧ w.cell? ⟨g, 2, none⟩ = some (.int .i64 n) ∧ w.cell? ⟨g, 3, none⟩ = some v :=
  ⟨by rw [h.cell]; rfl, by rw [h.cell]; rfl, by rw [h.cell]; rfl, by rw [h.cell]; rfl⟩
end Go.Proofs.YtgdkpmgfholnkaaDoor
