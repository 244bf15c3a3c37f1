/-
  Are two views the same, are two rows of names? Conditions: they read as they are said to.
-/
import Derived.Test.YtldnghmgdmjljaaHr
import Derived.Test.YtldnghmgdmjljaaKh
namespace Go.Proofs.Ytldnghmgdmjljaa
open Go.RowKit Go.BigFrame
set_option linter.unusedSimpArgs false
set_option linter.unusedVariables false
set_option maxRecDepth 100000
def SameV (a b : VA) : Prop := a.size = b.size ∧ a.mk' = b.mk' ∧ a.lk = b.lk
def SameTo (w : World) (p : Prop) (e : Ending) (w' : World) : Prop := ∃ r, e = .returned (.bool r) ∧ (r = true ↔ p) ∧ Below w.heap.size w w'
set_option maxHeartbeats 4000000 in
theorem vsame_any (a b : VA) (w : World) (ha : a.R w) (hb : b.R w) : Calls Try.prog 55 #[.agg a.cs, .agg b.cs] w (SameTo w (SameV a b)) := by
  have B0 := Lib.hid ((below_alloc w (.cells a.cs 75)).alloc (by simp) (.cells b.cs 75))
  have h1 := ha.row.since B0.out
  have h2 := hb.row.since B0.out
  have HE := Lib.hid (equal_any a.M b.M _ _ a.cm b.cm _ _ a.row b.row _ h1 h2)
  have hlk := run_link_eql (strOf a.par) (strOf b.par) a.ps a.ov b.ps b.ov
  obtain ⟨r5, hr5⟩ : ∃ r, r = (((strOf a.par).toList == (strOf b.par).toList) && decide (a.ps = b.ps) && decide (a.ov = b.ov)) := ⟨_, rfl⟩
  have H5 : Hid (r5 = true ↔ a.lk = b.lk) := Lib.hid (by
    rw [hr5, str_eq ha.par hb.par]
    unfold VA.lk
    simp only [Bool.and_eq_true, decide_eq_true_eq, LkV.mk.injEq, and_assoc])
  simp only [← hr5] at hlk
  clear hr5 h1 h2 ha hb
  unfold VA.cs at *
  by_cases c1 : a.size = b.size
  · have d1 : (a.size == b.size) = true := by simpa using c1
    by_cases c2 : a.on = b.on
    · have d2 : (a.on == b.on) = true := by simpa using c2
      by_cases c3 : a.good = b.good
      · have d3 : (a.good == b.good) = true := by simpa using c3
        have C := Lib.hid (And.intro c1 (And.intro c2 c3))
        clear c1 c2 c3
        go_enter Try.func55, Try.ntmps55
        go_wp2_with fail
        refine HE.out.mono ?_
        rintro e w1 ⟨rfl, rfl⟩
        by_cases c4 : a.row = b.row
        · have d4 : (a.row == b.row) = true := by simpa using c4
          replace c4 := Lib.hid c4
          rw [d4]
          cases r5 with
          | true =>
            go_wp2
            go_ret
            exact ⟨true, rfl, ⟨fun _ => ⟨C.out.1, by unfold VA.mk'; rw [C.out.2.1, C.out.2.2, c4.out], H5.out.1 (by trivial)⟩, fun _ => rfl⟩, B0.out⟩
          | false =>
            go_wp2
            go_ret
            exact ⟨false, rfl, ⟨fun h => (by cases h), fun h => (by have := H5.out.2 h.2.2; first | exact this | exact this.elim | cases this)⟩, B0.out⟩
        · have d4 : (a.row == b.row) = false := by simpa using c4
          replace c4 := Lib.hid c4
          rw [d4]
          go_wp2
          go_ret
          exact ⟨false, rfl, ⟨fun h => (by cases h), fun h => absurd (congrArg MkV.row h.2.1) c4.out⟩, B0.out⟩
      · have d3 : (a.good == b.good) = false := by simpa using c3
        replace c3 := Lib.hid c3
        clear c1 c2
        go_enter Try.func55, Try.ntmps55
        go_wp2
        go_ret
        exact ⟨false, rfl, ⟨fun h => (by cases h), fun h => absurd (congrArg MkV.good h.2.1) c3.out⟩, B0.out⟩
    · have d2 : (a.on == b.on) = false := by simpa using c2
      replace c2 := Lib.hid c2
      clear c1
      go_enter Try.func55, Try.ntmps55
      go_wp2
      go_ret
      exact ⟨false, rfl, ⟨fun h => (by cases h), fun h => absurd (congrArg MkV.on h.2.1) c2.out⟩, B0.out⟩
  · have d1 : (a.size == b.size) = false := by simpa using c1
    replace c1 := Lib.hid c1
    go_enter Try.func55, Try.ntmps55
    go_wp2
    go_ret
    exact ⟨false, rfl, ⟨fun h => (by cases h), fun h => absurd h.1 c1.out⟩, B0.out⟩
set_option maxHeartbeats 4000000 in
theorem eqstrs_any (A1 A2 : Option Addr) (c1 c2 : Nat) (l1 l2 : List (List Nat)) (w : World) (h1 : Strs w w.heap.size A1 l1.length l1) (h2 : Strs w w.heap.size A2 l2.length l2) (hl : l1.length ≤ 1000000) (hl2 : l2.length ≤ 1000000) :
    Calls Try.prog 88 #[.slice A1 l1.length c1, .slice A2 l2.length c2] w (SameTo w (l1 = l2)) := by
  by_cases hne : l1.length = l2.length
  · obtain ⟨n, hn⟩ : ∃ n, l1.length = n := ⟨_, rfl⟩
    rw [hn] at h1 hl ⊢
    rw [hn] at hne
    rw [← hne] at h2 ⊢
    have H1 := Lib.hid h1
    have H2 := Lib.hid h2
    have HN := Lib.hid (And.intro hn hne)
    clear h1 h2 hl2 hn hne
    go_enter Try.func88, Try.ntmps88
    go_wp2
    go_loopw [13] (fun i wr => ∃ k : Nat, k ≤ n ∧ i = .int .i64 k ∧ Below w.heap.size w wr ∧ ∀ j, j < k → l1[j]? = l2[j]?) (fun i _ => n - (intOf i).toNat)
    case atStart => exact ⟨0, by omega, rfl, Below.refl _ _, fun j h => by omega⟩
    case round =>
      obtain ⟨k, hk, rfl, hb, hall⟩ := hrel
      have HA := Lib.hid hall
      have HB := Lib.hid hb
      have hwk : IntKind.i64.wrap ((k : Int) + 1) = (k : Int) + 1 := by rw [IntKind.wrap_i64]; omega
      clear hall hb
      by_cases hlt : k < n
      · obtain ⟨ad, x, hA1, hx, hx2, hc⟩ := (H1.out.since HB.out).at_ hlt
        obtain ⟨ad', x', hA2, hx', hx2', hc'⟩ := (H2.out.since HB.out).at_ hlt
        have hk0 : (0 : Int) ≤ (k : Int) := by omega
        have hk1 : (k : Int) < (n : Int) := by omega
        have HX := Lib.hid (And.intro hx hx')
        have he := str_eq hx2 hx2'
        subst hA1 hA2
        clear hx hx' hx2 hx2'
        go_wp2_with fail
        by_cases hxx : x = x'
        · have hd : ((strOf x).toList == (strOf x').toList) = true := by rw [he]; exact decide_eq_true hxx
          clear he
          go_quiet (fail)
          go_wp2
          exact ⟨⟨k + 1, by omega, by go_num, below_drewN HB.out _, fun j hj => by
            rcases Nat.lt_succ_iff_lt_or_eq.1 hj with h | rfl
            · exact HA.out j h
            · rw [HX.out.1, HX.out.2, hxx]⟩, by simp only [intOf]; omega⟩
        · have hd : ((strOf x).toList == (strOf x').toList) = false := by rw [he]; exact decide_eq_false hxx
          clear he
          go_quiet (fail)
          go_wp2
          go_ret
          exact ⟨false, rfl, ⟨fun h => (by cases h), fun h => absurd (by rw [h] at HX; have := HX.out; rw [this.1] at this; exact Option.some.inj this.2) hxx⟩, below_drewN HB.out _⟩
      · obtain rfl : k = n := by omega
        go_wp2
        go_ret
        exact ⟨true, rfl, ⟨fun _ => List.ext_getElem? fun j => by
          by_cases hj : j < k
          · exact HA.out j hj
          · rw [List.getElem?_eq_none (by have := HN.out.1; omega), List.getElem?_eq_none (by have := HN.out.2; omega)], fun _ => rfl⟩, HB.out⟩
  · have hd : ((l1.length : Int) == (l2.length : Int)) = false := by rw [beq_eq_false_iff_ne]; omega
    have HN := Lib.hid hne
    clear hne
    go_enter Try.func88, Try.ntmps88
    go_wp2
    go_ret
    exact ⟨false, rfl, ⟨fun h => (by cases h), fun h => absurd (congrArg List.length h) HN.out⟩, Below.refl _ _⟩
end Go.Proofs.Ytldnghmgdmjljaa
