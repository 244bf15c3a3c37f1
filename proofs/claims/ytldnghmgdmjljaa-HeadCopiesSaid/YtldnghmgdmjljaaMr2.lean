/-
  What the document's reader reads. Conditions: it lies where it is said to.
-/
import Derived.Test.YtldnghmgdmjljaaMr
namespace Go.Proofs.Ytldnghmgdmjljaa
open Go.RowKit
set_option linter.unusedSimpArgs false
set_option maxRecDepth 100000
set_option linter.unusedVariables false
theorem un_drop (l : List Nat) (k b : Nat) (h : l[k]? = some b) : un (l.drop k) = b + 256 * un (l.drop (k + 1)) := by
  have hk : k < l.length := (List.getElem?_eq_some_iff.1 h).1
  rw [List.drop_eq_getElem_cons hk, un]
  have : l[k] = b := (List.getElem?_eq_some_iff.1 h).2
  rw [this]
theorem un_drop_lt (l : List Nat) (k : Nat) (hl : l.length ≤ 8) (hb : ∀ b ∈ l, b < 256) : un (l.drop (k + 1)) < 72057594037927936 := by
  have h := un_lt (l.drop (k + 1)) (fun b hm => hb b (List.mem_of_mem_drop hm))
  have h2 : (l.drop (k + 1)).length ≤ 7 := by rw [List.length_drop]; omega
  have h3 : (256 : Nat) ^ (l.drop (k + 1)).length ≤ 256 ^ 7 := Nat.pow_le_pow_right (by omega) h2
  have h4 : (256 : Nat) ^ 7 = 72057594037927936 := by decide
  omega
theorem mnum_any (w : World) (base g : Nat) (s : RD) (h : Mr w base g s) (hs : s.bs.length ≤ 9000000) :
    Calls Try.prog 58 #[.pointer (some ⟨g, 0, none⟩)] w fun e w' => e = .returned (.int .i64 s.num) ∧ Mr w' base g (s.take 8) ∧ Only [g] w w' := by
  have hg := RD.got_lt h.good 8
  have hgl := got_len s 8
  have hnum : s.num = numOf (s.got 8) := rfl
  rw [hnum]
  go_enter Try.func58, Try.ntmps58
  go_wp2_with fail
  refine (mtake_any w base g s 8 h (by omega) (by omega) hs).mono ?_
  rintro e w1 ⟨v, rfl, h1, m1, o1⟩
  obtain ⟨A1, c1, rfl, -, -, -⟩ := h1.form
  have hby := h1.bytes hg
  have h8 : (s.got 8).length ≤ 8 := by
    rcases hgl with h | h
    · have h' : (s.got 8).length = 8 := h
      omega
    · have h' : (s.got 8).length = 0 := h
      omega
  have HM := Lib.hid (And.intro m1 o1)
  clear h1 m1 o1 hgl hnum
  generalize hq : s.got 8 = l at *
  have HQ := Lib.hid hq
  clear hq
  have HB := Lib.hid hby
  have HG := Lib.hid hg
  clear hby hg
  go_wp2
  go_loop [4, 5] (fun u i => ∃ k : Nat, k ≤ l.length ∧ i = .int .i64 ((k : Int) - 1) ∧ u = .int .u64 (un (l.drop k) : Nat)) (fun _ i => ((intOf i) + 1).toNat)
  case atStart => exact ⟨l.length, Nat.le_refl _, rfl, by simp [un]⟩
  case round =>
    obtain ⟨k, hk, rfl, rfl⟩ := hrel
    by_cases h0 : k = 0
    · subst h0
      have hd : decide ((0 : Int) ≤ (((0 : Nat) : Int) - 1)) = false := by decide
      go_wp2
      go_ret
      exact ⟨by rw [HQ.out]; rfl, HM.out⟩
    · obtain ⟨j, rfl⟩ : ∃ j, k = j + 1 := ⟨k - 1, by omega⟩
      obtain ⟨ad, b, rfl, hbj, hb256, hc⟩ := HB.out.at_ (show j < l.length by omega)
      have hlt := un_drop_lt l j h8 HG.out
      have hun := Lib.hid (un_drop l j b hbj)
      generalize un (l.drop (j + 1)) = u at *
      have e1 : (((j + 1 : Nat) : Int) - 1) = (j : Int) := by omega
      rw [e1]
      have hj0 : (0 : Int) ≤ (j : Int) := by omega
      have hj1 : (j : Int) < (l.length : Int) := by omega
      clear hbj
      go_wp2
      refine ⟨⟨j, by omega, rfl, ?_⟩, by simp only [intOf]; omega⟩
      rw [hun.out]
      congr 1
      omega
theorem mbyte_any (w : World) (base g : Nat) (s : RD) (h : Mr w base g s) (hs : s.bs.length ≤ 9000000) :
    Calls Try.prog 91 #[.pointer (some ⟨g, 0, none⟩)] w fun e w' => e = .returned (.int .u8 s.byte) ∧ Mr w' base g (s.take 1) ∧ Only [g] w w' := by
  have hg := RD.got_lt h.good 1
  have hbyte : s.byte = (s.got 1).headD 0 := rfl
  rw [hbyte]
  go_enter Try.func91, Try.ntmps91
  go_wp2_with fail
  refine (mtake_any w base g s 1 h (by omega) (by omega) hs).mono ?_
  rintro e w1 ⟨v, rfl, h1, m1, o1⟩
  obtain ⟨A1, c1, rfl, -, -, -⟩ := h1.form
  have hby := h1.bytes hg
  have HM := Lib.hid (And.intro m1 o1)
  clear h1 m1 o1 hbyte
  cases hq : s.got 1 with
  | nil =>
    rw [hq] at hby
    have HQ := Lib.hid hq
    clear hq
    go_wp2
    go_ret
    exact ⟨by rw [HQ.out]; rfl, HM.out⟩
  | cons b l =>
    rw [hq] at hby
    obtain ⟨ad, b', rfl, hb', hb256, hc⟩ := hby.at_ (show 0 < (b :: l).length by simp)
    simp at hb'
    subst hb'
    have HQ := Lib.hid hq
    have hc0 : w1.cell? ad = some (.int .u8 b) := by
      have e : ad.add 0 = ad := by simp [Addr.add]
      rwa [e] at hc
    have hd : (((b :: l).length : Int) == 0) = false := by simp; omega
    clear hq
    go_wp2
    go_ret
    exact ⟨by rw [HQ.out]; rfl, HM.out⟩
theorem mflag_any (w : World) (base g : Nat) (s : RD) (h : Mr w base g s) (hs : s.bs.length ≤ 9000000) :
    Calls Try.prog 62 #[.pointer (some ⟨g, 0, none⟩)] w fun e w' => e = .returned (.bool s.flag) ∧ Mr w' base g s.flagTo ∧ Only [g] w w' := by
  have hby := RD.byte_lt h.good
  have hfl : ((s.byte : Int) == 1) = s.flag := by unfold RD.flag; rw [Bool.eq_iff_iff, beq_iff_eq, beq_iff_eq]; omega
  by_cases h1 : 1 < s.byte
  · have hd : decide (1 < (s.byte : Int)) = true := by simp; omega
    have hto : s.flagTo = RD.spoilt := by unfold RD.flagTo; rw [if_pos h1]
    rw [hto]
    go_enter Try.func62, Try.ntmps62
    go_wp2_with fail
    refine (mbyte_any w base g s h hs).mono ?_
    rintro e w1 ⟨rfl, m1, o1⟩
    have hsp := Lib.hid (mspoil_cells m1)
    have HO := Lib.hid o1
    obtain ⟨A, c, k1, k2, k3, k4, k5, k6⟩ := m1
    have hc0 : w1.cell? ⟨g, 0, none⟩ = some (.slice A (s.take 1).bs.length c) := by rw [k1.cell]; rfl
    have hc1 : w1.cell? ⟨g, 1, none⟩ = some (.bool (s.take 1).bad) := by rw [k1.cell]; rfl
    have hf0 : w1.frozen? ⟨g, 0, none⟩ = false := k1.frozen _
    have hf1 : w1.frozen? ⟨g, 1, none⟩ = false := k1.frozen _
    clear k1 k2 k3 k4 k6 o1
    go_wp2
    go_ret
    exact ⟨rfl, hsp.out.1, HO.out.trans hsp.out.2 (Fresh.refl _ _)⟩
  · have hd : decide (1 < (s.byte : Int)) = false := by simp; omega
    have hto : s.flagTo = s.take 1 := by unfold RD.flagTo; rw [if_neg h1]
    rw [hto]
    go_enter Try.func62, Try.ntmps62
    go_wp2_with fail
    refine (mbyte_any w base g s h hs).mono ?_
    rintro e w1 ⟨rfl, m1, o1⟩
    go_wp2
    go_ret
    exact ⟨rfl, m1, o1⟩
theorem RD.bad_num {s : RD} (h : (s.take 8).bad = true) : s.num = 0 ∧ s.take 8 = RD.spoilt := by
  have hf : s.fits 8 = false := by
    cases hf : s.fits 8 with
    | false => rfl
    | true => simp [RD.take, hf] at h
  exact ⟨by simp [RD.num, RD.got, hf, numOf, un, wrap64], by simp [RD.take, hf]⟩
theorem mbytes_any (w : World) (base g : Nat) (s : RD) (h : Mr w base g s) (hs : s.bs.length ≤ 9000000) :
    Calls Try.prog 59 #[.pointer (some ⟨g, 0, none⟩)] w fun e w' => ∃ v, e = .returned v ∧ Own w' w.heap.size v s.bytes.length s.bytes ∧ Mr w' base g s.bytesTo ∧ Only [g] w w' := by
  have hle := RD.take_le s 8
  cases hb : (s.take 8).bad with
  | true =>
    obtain ⟨e1, e2⟩ := RD.bad_num hb
    have e3 : s.bytes = [] := by simp [RD.bytes, e2, RD.got, RD.fits, RD.spoilt]
    have e4 : s.bytesTo = s.take 8 := by unfold RD.bytesTo; rw [e2]; simp [RD.take, RD.fits, RD.spoilt]
    rw [e3, e4]
    go_enter Try.func59, Try.ntmps59
    go_wp2_with fail
    refine (mnum_any w base g s h hs).mono ?_
    rintro e w1 ⟨rfl, m1, o1⟩
    have HM := Lib.hid m1
    obtain ⟨A, c, k1, -⟩ := m1
    have hc1 : w1.cell? ⟨g, 1, none⟩ = some (.bool true) := by rw [k1.cell, hb]; rfl
    clear k1
    go_wp2
    go_ret
    exact ⟨_, rfl, Own.nil _ _, HM.out, o1⟩
  | false =>
    go_enter Try.func59, Try.ntmps59
    go_wp2_with fail
    refine (mnum_any w base g s h hs).mono ?_
    rintro e w1 ⟨rfl, m1, o1⟩
    have HM := Lib.hid m1
    obtain ⟨A, c, k1, -⟩ := m1
    have hc1 : w1.cell? ⟨g, 1, none⟩ = some (.bool false) := by rw [k1.cell, hb]; rfl
    clear k1
    go_wp2_with fail
    refine (mtake_any w1 base g (s.take 8) s.num HM.out (num_range s).1 (num_range s).2 (by omega)).mono ?_
    rintro e w2 ⟨v, rfl, h2, m2, o2⟩
    go_wp2
    go_ret
    exact ⟨v, rfl, h2.weaken o1.size, m2, o1.trans o2 (Fresh.refl _ _)⟩
end Go.Proofs.Ytldnghmgdmjljaa
