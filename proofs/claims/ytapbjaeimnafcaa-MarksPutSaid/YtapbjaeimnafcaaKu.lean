/-
  The law MarksPut, walked: it returns true and changes nothing that was there. No condition.
-/
import Derived.Test.YtapbjaeimnafcaaKo
import Derived.Test.YtapbjaeimnafcaaKh
import Derived.Test.YtapbjaeimnafcaaKk
namespace Go.Proofs.Ytapbjaeimnafcaa
open Go.RowKit
set_option linter.unusedSimpArgs false
set_option maxRecDepth 100000
set_option linter.unusedVariables false
set_option maxHeartbeats 1000000 in
theorem marksPut_walk (A : Option Addr) (n c : Nat) (bs : List Nat) (m0 : n ≤ c ∧ c ≤ 9223372036854775807) {w : World} (hb : Bytes w w.heap.size A n bs) :
    Calls Try.prog 3 #[.slice A n c] w fun e w' => e = .returned (.bool true) ∧ Below w.heap.size w w' := by
  have HB := Lib.hid hb
  have hl := hb.len
  clear hb
  go_enter Try.func3, Try.ntmps3
  go_wp2_with fail
  refine (alive_any w).mono ?_
  rintro e w1 ⟨rfl, b1⟩
  have B1 := Lib.hid b1
  clear b1
  by_cases hn : n ≤ 2000
  · have hd : decide ((2000 : Int) < (n : Int)) = false := decide_eq_false (by omega)
    go_wp2_with fail
    refine (copy_any A n c bs w1 (by omega) ((HB.out.since B1.out).more B1.out.size)).mono ?_
    rintro e w2 ⟨gc, cap, rfl, hcap, hgc, hown, b2⟩
    have hmb := mine_bytes hown HB.out
    have B2 := Lib.hid (B1.out.trans (b2.mono B1.out.size))
    have HO2 := Lib.hid hown
    have HM := Lib.hid hmb
    clear hown b2 hmb
    by_cases hg : Good bs
    · have HG := Lib.hid hg
      obtain ⟨P, hP⟩ : ∃ P, P = 2 + (n + 3) / 4 := ⟨_, rfl⟩
      have hput := put_ok (some ⟨gc, 0, none⟩) n cap bs w2 HM.out hg
      rw [← hP] at hput
      have hP3 : P ≤ 1000 := by omega
      have hpl : (putM bs).length = P := by rw [putM_len, hl, hP]
      have HPL := Lib.hid hpl
      clear hg hP hpl
      go_wp2_with fail
      refine hput.mono ?_
      rintro e w3 ⟨rfl, k3, b3⟩
      have hbase3 : w.heap.size ≤ w2.heap.size := B2.out.size
      have B3 := Lib.hid (B2.out.trans (b3.mono B2.out.size))
      have HO3 := Lib.hid (HO2.out.below b3)
      have HB3 := Lib.hid (Own.of_blk (base := w2.heap.size) k3 HPL.out (Nat.le_refl _) (by omega))
      have h23 : w2.heap.size < w3.heap.size := k3.lt
      have hg2 : gc < w2.heap.size := by
        have := HO2.out.hi gc (by simp [Value.ownBlock])
        exact this
      clear hput k3 b3 HM
      go_wp2_with fail
      refine (kept_any A n c gc cap w1.heap.size bs w3 (by omega) hcap ((HB.out.since B3.out).more B1.out.size) HO3.out).mono ?_
      rintro e w4 ⟨rfl, b4⟩
      have B4 := Lib.hid (B3.out.trans (b4.mono B3.out.size))
      have HO4 := Lib.hid (HO3.out.below b4)
      have HB4 := Lib.hid (HB3.out.below b4)
      have h34 := b4.size
      have hdg := dgood_any A n c _ bs w4 (by omega) ((HB.out.since B4.out).more (Nat.le_of_eq rfl))
      rw [show decide (Good bs) = true from decide_eq_true HG.out] at hdg
      have HDG := Lib.hid hdg
      clear b4 hdg HO3 HB3
      go_wp2_with fail
      refine HDG.out.mono ?_
      rintro e w5 ⟨he, hw⟩
      subst he
      subst hw
      clear HDG
      go_wp2_with fail
      refine (take_any (some ⟨w2.heap.size, 0, none⟩) P P (putM bs) w4 (by omega) (HB4.out.bytes (putM_lt HG.out))).mono ?_
      rintro e w5 ⟨b5, h5⟩
      rcases h5 with ⟨-, v, rfl, hv⟩ | ⟨hbad, -⟩
      · rw [count_put, take_put HG.out, hl] at hv
        have B5 := Lib.hid (B4.out.trans (b5.mono B4.out.size))
        have HO5 := Lib.hid (HO4.out.below b5)
        have HB5 := Lib.hid (HB4.out.below b5)
        have HV5 := Lib.hid hv
        have h45 := b5.size
        obtain ⟨Av, cv, rfl, -⟩ := hv.form
        clear b5 hv HO4 HB4
        go_wp2_with fail
        refine (dput_any A n c bs w5 ((HB.out.since B5.out).more B5.out.size) HG.out).mono ?_
        rintro e w6 ⟨v6, rfl, ho6, b6⟩
        obtain ⟨A6, c6, rfl, -⟩ := ho6.form
        have B6 := Lib.hid (B5.out.trans (b6.mono B5.out.size))
        have HO6 := Lib.hid (HO5.out.below b6)
        have HB6 := Lib.hid (HB5.out.below b6)
        have HV6 := Lib.hid (HV5.out.below b6)
        have HD6 := Lib.hid ho6
        have h56 := b6.size
        have HS1 := Lib.hid (same_iff (some ⟨w2.heap.size, 0, none⟩) A6 P (putM bs).length P c6 _ _ (putM bs) (putM bs) w6 (HB6.out.bytes (putM_lt HG.out)) (ho6.bytes (putM_lt HG.out)))
        rw [show (putM bs == putM bs) = true by simp] at HS1
        have HS2 := Lib.hid (same_iff Av A n n cv c _ _ bs bs w6 (HV6.out.bytes HB.out.2) (HB.out.since B6.out))
        rw [show (bs == bs) = true by simp] at HS2
        have HR : Hid (Rowed w6 w.heap.size (fun i => if i = 0 then .slice Av n cv else if i = 1 then .slice (some ⟨w2.heap.size, 0, none⟩) P P else .slice (some ⟨gc, 0, none⟩) n cap) (fun i => if i = 0 then n else if i = 1 then P else n) 3) := Lib.hid (rowed_three (HV6.out.weaken B4.out.size) (HB6.out.weaken B2.out.size) ((mine_own HO6.out hl).weaken B1.out.size)
          (apart_flip (apart_by (k := w2.heap.size + 1) (fun b hb => by simp [Value.ownBlock] at hb; omega) (fun b hb => by have := HV6.out.lo b hb; omega)))
          (apart_flip (apart_by (k := w2.heap.size) (fun b hb => by simp [Value.ownBlock] at hb; omega) (fun b hb => by have := HV6.out.lo b hb; omega)))
          (apart_flip (apart_by (k := w2.heap.size) (fun b hb => by simp [Value.ownBlock] at hb; omega) (fun b hb => by simp [Value.ownBlock] at hb; omega))))
        have HAP := Lib.hid (apart_list HR.out (by omega) (by intro i hi; (repeat' split) <;> omega) B6.out.size _ (hdr_three _ _ _))
        clear b6 ho6 HO5 HB5 HV5
        go_wp2_with fail
        refine HS1.out.mono ?_
        rintro e w7 ⟨he, hw⟩
        subst he
        subst hw
        go_wp2_with fail
        refine HS2.out.mono ?_
        rintro e w7 ⟨he, hw⟩
        subst he
        subst hw
        go_wp2_with fail
        refine (HAP.out _ _).mono ?_
        rintro e w7 ⟨rfl, b7⟩
        have B7 := Lib.hid (B6.out.trans b7)
        clear b7
        go_wp2
        go_ret
        exact ⟨rfl, B7.out⟩
      · exact absurd (ok_put HG.out) hbad
    · have HG := Lib.hid hg
      have HPut := Lib.hid (put_bad (some ⟨gc, 0, none⟩) n cap _ bs w2 (by omega) HM.out hg)
      clear hg HM
      go_wp2_with fail
      refine HPut.out.mono ?_
      rintro e w3 ⟨he, hw⟩
      subst he
      subst hw
      simp only [errV]
      go_wp2_with fail
      refine (kept_any A n c gc cap w1.heap.size bs w2 (by omega) hcap ((HB.out.since B2.out).more B1.out.size) HO2.out).mono ?_
      rintro e w4 ⟨rfl, b4⟩
      have B4 := Lib.hid (B2.out.trans (b4.mono B2.out.size))
      have hdg := dgood_any A n c _ bs w4 (by omega) ((HB.out.since B4.out).more (Nat.le_of_eq rfl))
      rw [show decide (Good bs) = false from decide_eq_false HG.out] at hdg
      have HDG := Lib.hid hdg
      have HI := Lib.hid (is_any 2 2 w4)
      simp only [errV] at HI
      clear b4 hdg
      go_wp2_with fail
      refine HDG.out.mono ?_
      rintro e w5 ⟨he, hw⟩
      subst he
      subst hw
      go_wp2_with fail
      refine HI.out.mono ?_
      rintro e w5 ⟨he, hw⟩
      subst he
      subst hw
      go_wp2
      go_ret
      exact ⟨rfl, B4.out⟩
  · have hd : decide ((2000 : Int) < (n : Int)) = true := decide_eq_true (by omega)
    go_wp2
    go_ret
    exact ⟨rfl, B1.out⟩
end Go.Proofs.Ytapbjaeimnafcaa
