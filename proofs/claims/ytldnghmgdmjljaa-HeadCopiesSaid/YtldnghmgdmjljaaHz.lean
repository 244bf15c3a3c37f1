/-
  The document's: marks the same, how many objects, a flag's byte. Conditions: rows read as they are said to.
-/
import Derived.Test.YtldnghmgdmjljaaHy
namespace Go.Proofs.Ytldnghmgdmjljaa
open Go.RowKit Go.BigFrame
set_option linter.unusedSimpArgs false
set_option linter.unusedVariables false
set_option maxRecDepth 100000
theorem dflag_any (f : Bool) (w : World) : Calls Try.prog 53 #[.bool f] w fun e w' => e = .returned (.int .u8 (if f then 1 else 0)) ∧ w = w' := by
  cases f with
  | true =>
    go_enter Try.func53, Try.ntmps53
    go_wp2
    go_ret
    exact ⟨rfl, rfl⟩
  | false =>
    go_enter Try.func53, Try.ntmps53
    go_wp2
    go_ret
    exact ⟨rfl, rfl⟩
theorem objs_two {size obj : Int} (h1 : 1 ≤ size) (h2 : 1 ≤ obj) : (size % obj = 0 → objsOf size obj = size / obj) ∧ (size % obj ≠ 0 → objsOf size obj = size / obj + 1) := by
  have he : objsOf size obj = (size - 1) / obj + 1 := by unfold objsOf; rw [if_neg (by omega)]
  have a := Int.mul_ediv_add_emod (size - 1) obj
  have b := Int.emod_nonneg (size - 1) (show obj ≠ 0 by omega)
  have c := Int.emod_lt_of_pos (size - 1) (show 0 < obj by omega)
  rw [he]
  by_cases e : (size - 1) % obj + 1 = obj
  · have hu := (Int.ediv_emod_unique (a := size) (b := obj) (r := 0) (q := (size - 1) / obj + 1) (by omega)).2 ⟨by rw [Int.mul_add, Int.mul_one]; omega, by omega, by omega⟩
    exact ⟨fun _ => hu.1.symm, fun h => absurd hu.2 h⟩
  · have hu := (Int.ediv_emod_unique (a := size) (b := obj) (r := (size - 1) % obj + 1) (q := (size - 1) / obj) (by omega)).2 ⟨by omega, by omega, by omega⟩
    exact ⟨fun h => absurd (hu.2.symm.trans h) (by omega), fun _ => by rw [hu.1]⟩
theorem dobjects_any (size obj : Int) (h1 : I64 size) (h2 : I64 obj) (w : World) : Calls Try.prog 35 #[.int .i64 size, .int .i64 obj] w fun e w' => e = .returned (.int .i64 (objsOf size obj)) ∧ w = w' := by
  by_cases a : size < 1
  · have hd1 : decide (size < (1 : Int)) = true := decide_eq_true a
    have he : objsOf size obj = 0 := by unfold objsOf; rw [if_pos (.inl a)]
    rw [he]
    go_enter Try.func35, Try.ntmps35
    go_wp2
    go_ret
    exact ⟨rfl, rfl⟩
  · have hd1 : decide (size < (1 : Int)) = false := decide_eq_false a
    by_cases b : obj < 1
    · have hd2 : decide (obj < (1 : Int)) = true := decide_eq_true b
      have he : objsOf size obj = 0 := by unfold objsOf; rw [if_pos (.inr b)]
      rw [he]
      go_enter Try.func35, Try.ntmps35
      go_wp2
      go_ret
      exact ⟨rfl, rfl⟩
    · have hd2 : decide (obj < (1 : Int)) = false := decide_eq_false b
      have hq : size.tdiv obj = size / obj := Int.tdiv_eq_ediv_of_nonneg (by omega)
      have hm : size.tmod obj = size % obj := Int.tmod_eq_emod_of_nonneg (by omega)
      have hne : obj ≠ 0 := by omega
      have hne2 : (obj == 0) = false := by simpa using hne
      have two := objs_two (show 1 ≤ size by omega) (show 1 ≤ obj by omega)
      have hr := objs_range h1 h2
      have g1 : 0 ≤ size / obj := Int.ediv_nonneg (by omega) (by omega)
      have g2 : size / obj ≤ size := Int.ediv_le_self _ (by omega)
      have g3 : 0 ≤ size % obj := Int.emod_nonneg _ hne
      have g4 : size % obj < obj := Int.emod_lt_of_pos _ (by omega)
      have w1 : IntKind.i64.wrap (size / obj) = size / obj := wrap_in (by unfold I64 at *; clear hq hm two hr; omega)
      have w2 : IntKind.i64.wrap (size % obj) = size % obj := wrap_in (by unfold I64 at *; clear hq hm two hr w1; omega)
      by_cases c : size % obj = 0
      · have he := two.1 c
        have d3 : (size % obj == 0) = true := by simpa using c
        rw [he]
        clear two hr g1 g2 g3 g4 h1 h2 a b he
        go_enter Try.func35, Try.ntmps35
        go_wp2
        go_ret
        exact ⟨rfl, rfl⟩
      · have he := two.2 c
        have d3 : (size % obj == 0) = false := by simpa using c
        rw [he] at hr ⊢
        have w3 : IntKind.i64.wrap (size / obj + 1) = size / obj + 1 := wrap_in hr
        clear two hr g1 g2 g3 g4 h1 h2 a b he
        go_enter Try.func35, Try.ntmps35
        go_wp2
        go_ret
        exact ⟨rfl, rfl⟩
-- {SM
set_option maxHeartbeats 2000000 in
theorem dsamemarks_any (a b : VA) (w : World) (ha : a.R w) (hb : b.R w) : Calls Try.prog 44 #[.agg #[.bool a.on, .bool a.good, .slice a.M a.row.length a.cm], .agg #[.bool b.on, .bool b.good, .slice b.M b.row.length b.cm]] w (SameTo w (a.mk' = b.mk')) := by
  have B0 := Lib.hid ((below_alloc w (.cells #[.bool a.on, .bool a.good, .slice a.M a.row.length a.cm] 25)).alloc (by simp) (.cells #[.bool b.on, .bool b.good, .slice b.M b.row.length b.cm] 25))
  have k1 := str_of (P := Try.prog) (ha.row.since B0.out) a.cm 23 9 5 Try.underlying23 Try.underlying5 Try.underlying9
  have k2 := str_of (P := Try.prog) (hb.row.since B0.out) b.cm 23 9 5 Try.underlying23 Try.underlying5 Try.underlying9
  have he := str_eq ha.row.2 hb.row.2
  obtain ⟨s1, hs1⟩ : ∃ s, s = strOf a.row := ⟨_, rfl⟩
  obtain ⟨s2, hs2⟩ : ∃ s, s = strOf b.row := ⟨_, rfl⟩
  rw [← hs1] at k1 he
  rw [← hs2] at k2 he
  clear hs1 hs2 ha hb
  by_cases c1 : a.on = b.on
  · have d1 : (a.on == b.on) = true := by simpa using c1
    by_cases c2 : a.good = b.good
    · have d2 : (a.good == b.good) = true := by simpa using c2
      have C := Lib.hid (And.intro c1 c2)
      clear c1 c2
      by_cases c3 : a.row = b.row
      · rw [decide_eq_true c3] at he
        replace c3 := Lib.hid c3
        go_enter Try.func44, Try.ntmps44
        go_wp2
        go_ret
        exact ⟨true, by simp [he], ⟨fun _ => by unfold VA.mk'; rw [C.out.1, C.out.2, c3.out], fun _ => rfl⟩, B0.out⟩
      · rw [decide_eq_false c3] at he
        replace c3 := Lib.hid c3
        go_enter Try.func44, Try.ntmps44
        go_wp2
        go_ret
        exact ⟨false, by simp [he], ⟨fun h => (by cases h), fun h => absurd (congrArg MkV.row h) c3.out⟩, B0.out⟩
    · have d2 : (a.good == b.good) = false := by simpa using c2
      replace c2 := Lib.hid c2
      clear c1
      go_enter Try.func44, Try.ntmps44
      go_wp2
      go_ret
      exact ⟨false, rfl, ⟨fun h => (by cases h), fun h => absurd (congrArg MkV.good h) c2.out⟩, B0.out⟩
  · have d1 : (a.on == b.on) = false := by simpa using c1
    replace c1 := Lib.hid c1
    go_enter Try.func44, Try.ntmps44
    go_wp2
    go_ret
    exact ⟨false, rfl, ⟨fun h => (by cases h), fun h => absurd (congrArg MkV.on h) c1.out⟩, B0.out⟩
end Go.Proofs.Ytldnghmgdmjljaa
