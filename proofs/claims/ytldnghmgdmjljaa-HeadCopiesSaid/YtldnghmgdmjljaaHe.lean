/-
  Good views, a snapshot's children. Conditions: they read as they are said to.
-/
import Derived.Test.YtldnghmgdmjljaaHd
namespace Go.Proofs.Ytldnghmgdmjljaa
open Go.RowKit Go.BigFrame
set_option linter.unusedSimpArgs false
set_option linter.unusedVariables false
set_option maxRecDepth 100000
set_option maxHeartbeats 4000000 in
theorem vgood_any (v : VA) (obj : Int) (ho : I64 obj) (w : World) (h : v.R w) (hS : v.Sm) : Calls Try.prog 41 #[.agg v.cs, .int .i64 obj] w fun e w' => e = .returned (.bool (viewB v.size obj v.mk' v.lk)) ∧ Below w.heap.size w w' := by
  have B0 := Lib.hid (below_alloc w (.cells v.cs 75))
  have HK := Lib.hid (Blk.new w 75 v.cs)
  have HM := Lib.hid (marked_any v obj ho (w.alloc (.cells v.cs 75)) (h.since B0.out) hS)
  have HL : Hid (∀ w1, Below w.heap.size w w1 → Calls Try.prog 79 #[.agg v.cs] w1 fun e w' => e = .returned (.bool (v.lk.B v.size)) ∧ Below w1.heap.size w1 w') := Lib.hid fun w1 hb => linked_any v w1 (h.since hb) hS
  unfold viewB
  obtain ⟨bm, hbm⟩ : ∃ bm, bm = v.mk'.B (objsOf v.size obj) := ⟨_, rfl⟩
  obtain ⟨bl, hbl⟩ : ∃ bl, bl = v.lk.B v.size := ⟨_, rfl⟩
  rw [← hbm] at HM ⊢
  rw [← hbl] at HL ⊢
  clear h hS hbm hbl
  unfold VA.cs at *
  by_cases c1 : 0 ≤ v.size
  · have d1 : decide (0 ≤ v.size) = true := decide_eq_true c1
    by_cases c2 : v.size ≤ 4096
    · have d2 : decide (v.size ≤ 4096) = true := decide_eq_true c2
      rw [d1, d2, Bool.true_and, Bool.true_and]
      go_enter Try.func41, Try.ntmps41
      go_wp2_with fail
      refine HM.out.mono ?_
      rintro e w1 ⟨rfl, b1⟩
      have k := HK.out.of (b1.block _ HK.out.lt)
      have k0 : w1.cell? ⟨w.heap.size, 0, none⟩ = some (.int .i64 v.size) := k.cell 0
      have k1 : w1.cell? ⟨w.heap.size, 1, none⟩ = some (.bool v.on) := k.cell 1
      have k2 : w1.cell? ⟨w.heap.size, 2, none⟩ = some (.bool v.good) := k.cell 2
      have k3 : w1.cell? ⟨w.heap.size, 3, none⟩ = some (.slice v.M v.row.length v.cm) := k.cell 3
      have k4 : w1.cell? ⟨w.heap.size, 4, none⟩ = some (.string (strOf v.par)) := k.cell 4
      have k5 : w1.cell? ⟨w.heap.size, 5, none⟩ = some (.int .i64 v.ps) := k.cell 5
      have k6 : w1.cell? ⟨w.heap.size, 6, none⟩ = some (.int .i64 v.ov) := k.cell 6
      have HB : Hid (Below w.heap.size w w1) := Lib.hid (B0.out.trans (b1.mono B0.out.size))
      clear b1 k HM B0 HK
      cases bm with
      | false =>
        go_wp2
        go_ret
        exact ⟨rfl, HB.out⟩
      | true =>
        go_wp2_with fail
        refine (HL.out _ HB.out).mono ?_
        rintro e w2 ⟨rfl, b2⟩
        go_wp2
        go_ret
        exact ⟨by cases bl <;> rfl, HB.out.trans (b2.mono HB.out.size)⟩
    · have d2 : decide (v.size ≤ 4096) = false := decide_eq_false c2
      rw [d1, d2]
      go_enter Try.func41, Try.ntmps41
      go_wp2
      go_ret
      exact ⟨rfl, B0.out⟩
  · have d1 : decide (0 ≤ v.size) = false := decide_eq_false c1
    rw [d1]
    go_enter Try.func41, Try.ntmps41
    go_wp2
    go_ret
    exact ⟨rfl, B0.out⟩
theorem less_total : ∀ x y : List UInt8, (Op.bytesLess x y || x == y) = !Op.bytesLess y x
  | [], [] => rfl
  | [], _ :: _ => rfl
  | _ :: _, [] => rfl
  | a :: x, b :: y => by
    have ih := less_total x y
    simp only [Op.bytesLess]
    rcases Nat.lt_trichotomy a.toNat b.toNat with h | h | h
    · have h1 : a < b := h
      have h2 : ¬ b < a := fun h' => by have := UInt8.lt_iff_toNat_lt.1 h'; omega
      have h3 : (b == a) = false := by rw [beq_eq_false_iff_ne]; rintro rfl; omega
      simp [h1, h2, h3]
    · obtain rfl : a = b := UInt8.toNat_inj.1 h
      have h2 : ¬ a < a := fun h' => by have := UInt8.lt_iff_toNat_lt.1 h'; omega
      simp only [h2, decide_false, Bool.false_or, beq_self_eq_true, Bool.true_and]
      rw [← ih]
      simp
    · have h1 : b < a := h
      have h2 : ¬ a < b := fun h' => by have := UInt8.lt_iff_toNat_lt.1 h'; omega
      have h3 : (a == b) = false := by rw [beq_eq_false_iff_ne]; rintro rfl; omega
      simp [h1, h2, h3]
theorem le_lt_str (c l : List Nat) : (Op.bytesLess (strOf c).toList (strOf l).toList || (strOf c).toList == (strOf l).toList) = !ltS l c := less_total _ _
set_option maxHeartbeats 4000000 in
theorem chgood_any (s : SA) (w : World) (h : s.R w) (hS : s.Sm) : Calls Try.prog 81 #[.agg s.cells.toArray] w fun e w' => e = .returned (.bool s.v.chB) ∧ Below w.heap.size w w' := by
  have B0 := Lib.hid (below_alloc w (.cells s.cells.toArray 62))
  have HK := Lib.hid (Blk.new w 62 s.cells.toArray)
  have HCH := Lib.hid h.ch
  have HCL := Lib.hid hS.cl
  have hn := hS.ch
  have hv : s.v.chB = (upB [] s.ch && (s.prot || s.ch.isEmpty)) := rfl
  rw [hv]
  clear h hS hv
  unfold SA.cells at *
  go_enter Try.func81, Try.ntmps81
  go_upto_region 2 with (fail)
  have hempty : (Value.string { data := #[] }) = .string (strOf []) := rfl
  rw [hempty]
  clear hempty
  have k10' : (w.alloc (.cells s.cells.toArray 62)).cell? ⟨w.heap.size, 10, none⟩ = some (.slice s.C s.ch.length s.cc) := HK.out.cell 10
  unfold SA.cells at k10'
  generalize hw0 : w.alloc _ = w0 at *
  go_wp2
  go_loopw [3, 9] (fun lv i wr => ∃ (k : Nat) (last : List Nat), k ≤ s.ch.length ∧ i = .int .i64 k ∧ lv = .string (strOf last) ∧ upB [] s.ch = upB last (s.ch.drop k) ∧ Below w0.heap.size w0 wr) (fun _ i _ => s.ch.length - (intOf i).toNat)
  case atStart => exact ⟨0, [], by omega, rfl, rfl, by rw [List.drop_zero], Below.refl _ _⟩
  case round =>
    obtain ⟨k, last, hk, rfl, rfl, hup, hb⟩ := hrel
    have HB := Lib.hid (B0.out.trans (hb.mono B0.out.size))
    have KR := HK.out.of (hb.block _ HK.out.lt)
    have k5 : wr.cell? ⟨w.heap.size, 5, none⟩ = some (.bool s.prot) := KR.cell 5
    have k10 : wr.cell? ⟨w.heap.size, 10, none⟩ = some (.slice s.C s.ch.length s.cc) := KR.cell 10
    have HUP := Lib.hid hup
    have HB2 := Lib.hid hb
    have hwk : IntKind.i64.wrap ((k : Int) + 1) = (k : Int) + 1 := by rw [IntKind.wrap_i64]; omega
    clear hup hb KR
    by_cases hlt : k < s.ch.length
    · obtain ⟨ad, c, had, hck, hc2, hcell⟩ := (HCH.out.since HB.out).at_ hlt
      have hd : s.ch.drop k = c :: s.ch.drop (k + 1) := by
        rw [List.drop_eq_getElem_cons hlt]
        congr 1
        rw [List.getElem?_eq_getElem hlt] at hck
        injection hck
      have HN := Lib.hid (named_any c hc2 (HCL.out c (List.mem_of_getElem? hck)))
      rw [hd, upB] at HUP
      have hle := le_lt_str c last
      clear hd hck
      generalize s.C = sC at *
      subst had
      go_wp2_with fail
      refine (HN.out _).mono ?_
      rintro e w1 ⟨rfl, b1⟩
      cases hnm : namedB c with
      | false =>
        rw [hnm] at HUP
        go_wp2
        go_ret
        exact ⟨by rw [HUP.out]; rfl, HB.out.trans (b1.mono HB.out.size)⟩
      | true =>
        rw [hnm] at HUP
        cases hl : ltS last c with
        | false =>
          rw [hl] at HUP hle
          clear hl hnm
          go_wp2
          go_ret
          exact ⟨by rw [HUP.out]; rfl, HB.out.trans (b1.mono HB.out.size)⟩
        | true =>
          rw [hl] at HUP hle
          clear hl hnm
          go_wp2
          go_roundw
          case rel => exact ⟨k + 1, c, by omega, by go_num, rfl, by rw [HUP.out]; rfl, HB2.out.trans (b1.mono HB2.out.size)⟩
          case measure => simp [intOf]; omega
    · obtain rfl : k = s.ch.length := by omega
      have hu : upB [] s.ch = true := by rw [HUP.out, List.drop_length]; rfl
      have hln : ((s.ch.length : Int) == 0) = s.ch.isEmpty := by rw [Bool.eq_iff_iff, beq_iff_eq, List.isEmpty_iff, ← List.length_eq_zero_iff]; omega
      have HU := Lib.hid hu
      clear hu
      cases hp : s.prot with
      | false =>
        rw [hp] at k5
        go_wp2
        go_ret
        exact ⟨by rw [HU.out, hp]; rfl, HB.out⟩
      | true =>
        rw [hp] at k5
        go_wp2
        go_ret
        exact ⟨by rw [HU.out, hp]; rfl, HB.out⟩
end Go.Proofs.Ytldnghmgdmjljaa
