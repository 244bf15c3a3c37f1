/-
  The law MarksTake, walked: it returns true and changes nothing that was there. No condition.
-/
import Derived.Test.YtapbjaeimnafcaaKn
import Derived.Test.YtapbjaeimnafcaaKh
import Derived.Test.YtapbjaeimnafcaaKm
namespace Go.Proofs.Ytapbjaeimnafcaa
open Go.RowKit
set_option linter.unusedSimpArgs false
set_option maxRecDepth 100000
set_option linter.unusedVariables false
set_option maxHeartbeats 1000000 in
theorem marksTake_walk (A : Option Addr) (n c : Nat) (bs : List Nat) (m0 : n ≤ c ∧ c ≤ 9223372036854775807) {w : World} (hb : Bytes w w.heap.size A n bs) :
    Calls Try.prog 4 #[.slice A n c] w fun e w' => e = .returned (.bool true) ∧ Below w.heap.size w w' := by
  have HB := Lib.hid hb
  clear hb
  go_enter Try.func4, Try.ntmps4
  go_wp2_with fail
  refine (alive_any w).mono ?_
  rintro e w1 ⟨rfl, b1⟩
  have B1 := Lib.hid b1
  clear b1
  by_cases hn : n ≤ 2000
  · have hd : decide ((2000 : Int) < (n : Int)) = false := decide_eq_false (by omega)
    go_wp2_with fail
    refine (copy_any A n c bs w1 (by omega) ((HB.out.since B1.out).more B1.out.size)).mono ?_
    rintro e w2 ⟨gc, cap, rfl, hcap, hgc, hown, b2⟩
    have hmb := mine_bytes hown HB.out
    have B2 := Lib.hid (B1.out.trans (b2.mono B1.out.size))
    have HO2 := Lib.hid hown
    have HM := Lib.hid hmb
    clear hown b2 hmb
    go_wp2_with fail
    refine (take_any (some ⟨gc, 0, none⟩) n cap bs w2 (by omega) HM.out).mono ?_
    rintro e w3 ⟨b3, h3⟩
    have B3 := Lib.hid (B2.out.trans (b3.mono B2.out.size))
    have HO3 := Lib.hid (HO2.out.below b3)
    have hdt := dtake_any A n c bs w3 hn ((HB.out.since B3.out).more B3.out.size)
    have HDT := Lib.hid hdt
    clear b3 hdt HM HO2
    rcases h3 with ⟨hok, v, rfl, hv⟩ | ⟨hbad, rfl⟩
    · have HOK := Lib.hid (And.intro hok hv)
      clear hok hv
      go_wp2_with fail
      refine HDT.out.mono ?_
      rintro e w4 ⟨b4, h4⟩
      rcases h4 with ⟨-, v', rfl, hv'⟩ | ⟨hbad, rfl⟩
      · have HV' := Lib.hid hv'
        have HV := Lib.hid (HOK.out.2.below b4)
        have HO4 := Lib.hid (HO3.out.below b4)
        have B4 := Lib.hid (B3.out.trans (b4.mono B3.out.size))
        obtain ⟨Av, cv, rfl, -⟩ := HV.out.form
        obtain ⟨Av', cv', rfl, -⟩ := HV'.out.form
        have hlt : ∀ b ∈ takeM bs (countOf bs), b < 256 := fun b hb => by have := takeM_le bs (countOf bs) b hb; omega
        have HL := Lib.hid hlt
        clear hv' b4 hlt
        go_wp2_with fail
        refine (kept_any A n c gc cap w1.heap.size bs w4 (by omega) hcap ((HB.out.since B4.out).more B1.out.size) HO4.out).mono ?_
        rintro e w5 ⟨rfl, b5⟩
        have B5 := Lib.hid (B4.out.trans (b5.mono B4.out.size))
        have HS := Lib.hid (same_iff Av Av' _ _ cv cv' _ _ _ _ w5 ((HV.out.below b5).bytes HL.out) ((HV'.out.below b5).bytes HL.out))
        rw [show (takeM bs (countOf bs) == takeM bs (countOf bs)) = true by simp] at HS
        clear b5
        go_wp2_with fail
        refine HS.out.mono ?_
        rintro e w6 ⟨he, hw⟩
        subst he
        subst hw
        go_wp2
        go_ret
        exact ⟨rfl, B5.out⟩
      · exact absurd HOK.out.1 hbad
    · have HBAD := Lib.hid hbad
      clear hbad
      simp only [errV]
      go_wp2_with fail
      refine HDT.out.mono ?_
      rintro e w4 ⟨b4, h4⟩
      rcases h4 with ⟨hok, -⟩ | ⟨-, rfl⟩
      · exact absurd hok HBAD.out
      · have HO4 := Lib.hid (HO3.out.below b4)
        have B4 := Lib.hid (B3.out.trans (b4.mono B3.out.size))
        clear b4
        go_wp2_with fail
        refine (kept_any A n c gc cap w1.heap.size bs w4 (by omega) hcap ((HB.out.since B4.out).more B1.out.size) HO4.out).mono ?_
        rintro e w5 ⟨rfl, b5⟩
        have B5 := Lib.hid (B4.out.trans (b5.mono B4.out.size))
        have HI := Lib.hid (is_any 2 2 w5)
        simp only [errV] at HI
        have HS := Lib.hid (same_iff none none 0 0 0 0 0 0 [] [] w5 ⟨Reads.none_, fun b hb => by cases hb⟩ ⟨Reads.none_, fun b hb => by cases hb⟩)
        clear b5
        go_wp2_with fail
        refine HI.out.mono ?_
        rintro e w6 ⟨he, hw⟩
        subst he
        subst hw
        go_wp2_with fail
        refine HS.out.mono ?_
        rintro e w6 ⟨he, hw⟩
        subst he
        subst hw
        go_wp2
        go_ret
        exact ⟨rfl, B5.out⟩
  · have hd : decide ((2000 : Int) < (n : Int)) = true := decide_eq_true (by omega)
    go_wp2
    go_ret
    exact ⟨rfl, B1.out⟩
end Go.Proofs.Ytapbjaeimnafcaa
