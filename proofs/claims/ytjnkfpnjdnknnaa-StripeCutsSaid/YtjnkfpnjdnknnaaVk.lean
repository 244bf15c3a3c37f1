/-
  The walk of StripeWhole. No condition.
-/
import Derived.Test.YtjnkfpnjdnknnaaVj
namespace Go.Proofs.Ytjnkfpnjdnknnaa
open Go.RowKit Go.BigFrame
set_option linter.unusedSimpArgs false
set_option linter.unusedVariables false
set_option maxRecDepth 100000
theorem is_yes (w : World) : Calls Try.prog 11 #[.iface 33 (.int .i64 1), .int .i64 1] w fun e w' => e = .returned (.bool true) ∧ w = w' := is_any 1 1 w
set_option maxHeartbeats 4000000 in
theorem stripeWhole_walk (size : Int) (h1 : I64 size) (obj : Int) (h2 : I64 obj) (ix : Int) (h3 : I64 ix) {w : World} : Calls Try.prog 5 #[.int .i64 size, .int .i64 obj, .int .i64 ix] w fun e w' => e = .returned (.bool true) ∧ Below w.heap.size w w' := by
  have HA := Lib.hid (fun w => valive_any w)
  have HI := Lib.hid (fun w => is_yes w)
  have HG := Lib.hid (fun w => dgood_any size obj w)
  have HN := Lib.hid (whole_no size obj ix h1 h2 h3)
  obtain ⟨g, hg⟩ : ∃ g, g = goodB size obj := ⟨_, rfl⟩
  rw [← hg] at HG
  cases g with
  | false =>
    have HNN := Lib.hid (fun w => HN.out (.inl hg.symm) w)
    have HH := Lib.hid hg
    clear hg HN
    go_enter Try.func5, Try.ntmps5
    go_wp2_with fail
    refine (HA.out _).mono ?_
    rintro e w1 ⟨rfl, b1⟩
    have HB1 := Lib.hid b1
    clear b1
    go_wp2_with fail
    refine (HNN.out _).mono ?_
    rintro e w2 ⟨he, b2⟩
    obtain rfl : e = .returned (.tuple #[.int .i64 0, .iface 33 (.int .i64 1)]) := he
    have HB2 := Lib.hid (HB1.out.trans (b2.mono HB1.out.size))
    clear b2
    go_wp2_with fail
    refine (HG.out _).mono ?_
    rintro e w3 ⟨rfl, rfl⟩
    go_wp2_with fail
    refine (HI.out _).mono ?_
    rintro e w3 ⟨rfl, rfl⟩
    go_wp2
    go_ret
    exact ⟨rfl, HB2.out⟩
  | true =>
    obtain ⟨Z, O, rfl, rfl, hz1, ho1, ho2⟩ := good_cases hg.symm
    have HW := Lib.hid (fun w => dwhole_any Z O ix hz1 ho1 ho2 w)
    simp only [Int.toNat_natCast] at HN
    obtain ⟨c, hc⟩ : ∃ c, c = cntI O ix Z := ⟨_, rfl⟩
    rw [← hc] at HW HN
    by_cases c0 : c = 0
    · have HNN := Lib.hid (fun w => HN.out (.inr c0) w)
      subst c0
      have HH := Lib.hid (And.intro hg hc)
      clear hg HN hc
      go_enter Try.func5, Try.ntmps5
      go_wp2_with fail
      refine (HA.out _).mono ?_
      rintro e w1 ⟨rfl, b1⟩
      have HB1 := Lib.hid b1
      clear b1
      go_wp2_with fail
      refine (HNN.out _).mono ?_
      rintro e w2 ⟨he, b2⟩
      obtain rfl : e = .returned (.tuple #[.int .i64 0, .iface 33 (.int .i64 1)]) := he
      have HB2 := Lib.hid (HB1.out.trans (b2.mono HB1.out.size))
      clear b2
      go_wp2_with fail
      refine (HG.out _).mono ?_
      rintro e w3 ⟨rfl, rfl⟩
      go_wp2_with fail
      refine (HW.out _).mono ?_
      rintro e w3 ⟨rfl, rfl⟩
      go_wp2_with fail
      refine (HI.out _).mono ?_
      rintro e w3 ⟨rfl, rfl⟩
      go_wp2
      go_ret
      exact ⟨rfl, HB2.out⟩
    · have hc2 := hc
      unfold cntI at hc2
      have hnn : ¬ ix < 0 := fun h => by rw [if_pos h] at hc2; exact c0 hc2
      obtain ⟨k, rfl⟩ : ∃ k : Nat, ix = k := ⟨ix.toNat, by omega⟩
      rw [if_neg hnn, Int.toNat_natCast] at hc2
      have hk : k < ceilO O Z := (cnt_pos (n := Z) (ix := k) (show 0 < O by omega)).1 (by omega)
      have HWA := Lib.hid (fun w => whole_any Z O k hg.symm hk w)
      rw [← hc2] at HWA
      have hce : ((c : Int) == 0) = false := beq_eq_false_iff_ne.2 (by omega)
      have HH := Lib.hid (And.intro hg hc)
      clear hg HN hc hc2 hk
      go_enter Try.func5, Try.ntmps5
      go_wp2_with fail
      refine (HA.out _).mono ?_
      rintro e w1 ⟨rfl, b1⟩
      have HB1 := Lib.hid b1
      clear b1
      go_wp2_with fail
      refine (HWA.out _).mono ?_
      rintro e w2 ⟨he, b2⟩
      obtain rfl : e = .returned (.tuple #[.int .i64 (c : Int), .nilIface]) := he
      have HB2 := Lib.hid (HB1.out.trans (b2.mono HB1.out.size))
      clear b2
      go_wp2_with fail
      refine (HG.out _).mono ?_
      rintro e w3 ⟨rfl, rfl⟩
      go_wp2_with fail
      refine (HW.out _).mono ?_
      rintro e w3 ⟨rfl, rfl⟩
      go_wp2_with fail
      refine (HW.out _).mono ?_
      rintro e w3 ⟨rfl, rfl⟩
      go_wp2
      go_ret
      exact ⟨rfl, HB2.out⟩
end Go.Proofs.Ytjnkfpnjdnknnaa
