/-
  How many bytes of an image stand in a data object, as the program and the document tell it. Conditions: numbers are 64 bits wide.
-/
import Derived.Test.YtjnkfpnjdnknnaaVg
namespace Go.Proofs.Ytjnkfpnjdnknnaa
open Go.RowKit Go.BigFrame
set_option linter.unusedSimpArgs false
set_option linter.unusedVariables false
set_option maxRecDepth 100000
def cntI (O : Nat) (ix : Int) (n : Nat) : Nat := if ix < 0 then 0 else cntW O ix.toNat n
theorem cntI_nat (O ix n : Nat) : cntI O (ix : Int) n = cntW O ix n := by unfold cntI; rw [if_neg (by omega)]; simp
theorem cntI_step {O : Nat} {ix : Int} {n : Nat} (h0 : 0 < O) : cntI O ix (n + 1) = cntI O ix n + if ((n / O : Nat) : Int) = ix then 1 else 0 := by
  unfold cntI
  have hs := cnt_step (obj := O) (ix := ix.toNat) (n := n) h0
  generalize n / O = q at *
  by_cases h : ix < 0
  · rw [if_pos h, if_pos h, if_neg (by omega)]
  · rw [if_neg h, if_neg h, hs]
    congr 1
    by_cases e : q = ix.toNat
    · rw [if_pos e, if_pos (by omega)]
    · rw [if_neg e, if_neg (by omega)]
theorem objs_nat (Z O : Nat) (h0 : 0 < O) : objsOf (Z : Int) (O : Int) = ((ceilO O Z : Nat) : Int) := by
  unfold objsOf ceilO
  by_cases h : Z = 0
  · rw [if_pos h, if_pos (by omega)]; rfl
  · rw [if_neg h, if_neg (by omega)]
    have : ((Z : Int) - 1) = ((Z - 1 : Nat) : Int) := by omega
    rw [this]
    simp
theorem ceil_le {O n : Nat} (h0 : 0 < O) : ceilO O n ≤ n := by
  unfold ceilO
  split
  · omega
  · have := Nat.div_le_self (n - 1) O; omega
theorem whole_no (size obj ix : Int) (h1 : I64 size) (h2 : I64 obj) (hi : I64 ix) (h : goodB size obj = false ∨ cntI obj.toNat ix size.toNat = 0) (w : World) : Calls Try.prog 13 #[.int .i64 size, .int .i64 obj, .int .i64 ix] w fun e w' => e = .returned (.tuple #[.int .i64 0, errV 1]) ∧ Below w.heap.size w w' := by
  have HI := Lib.hid (isimage_any size obj w)
  have HO := Lib.hid (fun w => objects_any size obj h1 h2 w)
  obtain ⟨g, hg⟩ : ∃ g, g = goodB size obj := ⟨_, rfl⟩
  rw [← hg] at HI
  cases g with
  | false =>
    have HG := Lib.hid hg
    clear h hg
    go_enter Try.func13, Try.ntmps13
    go_wp2_with fail
    refine HI.out.mono ?_
    rintro e w1 ⟨rfl, b1⟩
    go_wp2
    go_ret2
    exact ⟨rfl, b1⟩
  | true =>
    have hr : cntI obj.toNat ix size.toNat = 0 := by rcases h with h | h; (rw [h] at hg; cases hg); exact h
    obtain ⟨Z, O, rfl, rfl, hz1, ho1, ho2⟩ := good_cases hg.symm
    simp only [Int.toNat_natCast] at hr
    rw [objs_nat Z O (by omega)] at HO
    by_cases c1 : ix < 0
    · have d1 : decide (ix < 0) = true := decide_eq_true c1
      clear h hr hg
      go_enter Try.func13, Try.ntmps13
      go_wp2_with fail
      refine HI.out.mono ?_
      rintro e w1 ⟨rfl, b1⟩
      go_wp2
      go_ret2
      exact ⟨rfl, b1⟩
    have d1 : decide (ix < 0) = false := decide_eq_false c1
    obtain ⟨k, rfl⟩ : ∃ k : Nat, ix = k := ⟨ix.toNat, by omega⟩
    rw [cntI_nat] at hr
    have hk : ¬ k < ceilO O Z := fun hlt => by have := (cnt_pos (n := Z) (ix := k) (show 0 < O by omega)).2 hlt; omega
    obtain ⟨c, hc⟩ : ∃ c, c = ceilO O Z := ⟨_, rfl⟩
    rw [← hc] at hk HO
    have d2 : decide ((c : Int) ≤ (k : Int)) = true := decide_eq_true (by omega)
    clear h hr hg hc
    go_enter Try.func13, Try.ntmps13
    go_wp2_with fail
    refine HI.out.mono ?_
    rintro e w1 ⟨rfl, b1⟩
    go_wp2_with fail
    refine (HO.out _).mono ?_
    rintro e w2 ⟨rfl, rfl⟩
    go_wp2
    go_ret2
    exact ⟨rfl, b1⟩
theorem whole_any (Z O k : Nat) (hg : goodB Z O = true) (hk : k < ceilO O Z) (w : World) : Calls Try.prog 13 #[.int .i64 (Z : Int), .int .i64 (O : Int), .int .i64 (k : Int)] w fun e w' => e = .returned (.tuple #[.int .i64 ((cntW O k Z : Nat) : Int), errV 0]) ∧ Below w.heap.size w w' := by
  have HI := Lib.hid (isimage_any Z O w)
  rw [hg] at HI
  have hz1 : Z ≤ 4096 ∧ 16 ≤ O ∧ O ≤ 256 := by
    obtain ⟨Z', O', e1, e2, hz1, ho1, ho2⟩ := good_cases hg
    omega
  obtain ⟨hz1, ho1, ho2⟩ := hz1
  have HO := Lib.hid (fun w => objects_any (Z : Int) (O : Int) (by unfold I64; omega) (by unfold I64; omega) w)
  rw [objs_nat Z O (by omega)] at HO
  have hlt := (ceil_lt (n := Z) (ix := k) (show 0 < O by omega)).1 hk
  have hle : ceilO O Z ≤ Z := ceil_le (by omega)
  obtain ⟨c, hc⟩ : ∃ c, c = ceilO O Z := ⟨_, rfl⟩
  obtain ⟨m, hm⟩ : ∃ m, m = k * O := ⟨_, rfl⟩
  obtain ⟨r, hr⟩ : ∃ r, r = cntW O k Z := ⟨_, rfl⟩
  have hmr : r = min O (Z - m) := by rw [hr, hm]; rfl
  have hwm : IntKind.i64.wrap ((k : Int) * (O : Int)) = (m : Int) := by rw [show (k : Int) * (O : Int) = (m : Int) from by rw [hm]; simp]; exact wrap_in (by unfold I64; omega)
  rw [← hr]
  rw [← hm] at hlt
  rw [← hc] at hk HO hle
  have d1 : decide ((k : Int) < 0) = false := decide_eq_false (by omega)
  have d2 : decide ((c : Int) ≤ (k : Int)) = false := decide_eq_false (by omega)
  have hws : IntKind.i64.wrap ((Z : Int) - (m : Int)) = (Z : Int) - (m : Int) := wrap_in (by unfold I64; omega)
  have hmin : min (O : Int) ((Z : Int) - (m : Int)) = (r : Int) := by omega
  clear hg hc hm hr hmr
  go_enter Try.func13, Try.ntmps13
  go_wp2_with fail
  refine HI.out.mono ?_
  rintro e w1 ⟨rfl, b1⟩
  go_wp2_with fail
  refine (HO.out _).mono ?_
  rintro e w2 ⟨rfl, rfl⟩
  go_wp2_with (refine wpList_min rfl (.tmp 24) (.tmp 29) rfl (O : Int) ((Z : Int) - (m : Int)) (r : Int) rfl rfl hmin ?_)
  go_ret2
  exact ⟨rfl, b1⟩
theorem dwhole_any (Z O : Nat) (ix : Int) (hz : Z ≤ 4096) (ho1 : 16 ≤ O) (ho2 : O ≤ 256) (w : World) : Calls Try.prog 14 #[.int .i64 (Z : Int), .int .i64 (O : Int), .int .i64 ix] w fun e w' => e = .returned (.int .i64 ((cntI O ix Z : Nat) : Int)) ∧ w = w' := by
  go_enter Try.func14, Try.ntmps14
  go_wp2
  go_loopw [7, 8] (fun c i wr => ∃ k : Nat, k ≤ Z ∧ i = .int .i64 k ∧ c = .int .i64 ((cntI O ix k : Nat) : Int) ∧ cntI O ix k ≤ k ∧ wr = w) (fun _ i _ => Z - (intS i).toNat)
  case atStart => exact ⟨0, by omega, rfl, by unfold cntI cntW; split <;> simp, by unfold cntI cntW; split <;> simp, rfl⟩
  case round =>
    obtain ⟨k, hk, rfl, rfl, hle, rfl⟩ := hrel
    by_cases hlt : k < Z
    · have dl : decide ((k : Int) < (Z : Int)) = true := decide_eq_true (by omega)
      obtain ⟨q, hq⟩ : ∃ q, q = k / O := ⟨_, rfl⟩
      have hst := cntI_step (ix := ix) (n := k) (show 0 < O by omega)
      rw [← hq] at hst
      have hdq : (k : Int).tdiv (O : Int) = (q : Int) := by rw [Int.tdiv_eq_ediv_of_nonneg (by omega), hq, Int.natCast_ediv]
      have hql : q ≤ k := by rw [hq]; exact Nat.div_le_self _ _
      have hwq : IntKind.i64.wrap (q : Int) = (q : Int) := wrap_in (by unfold I64; omega)
      have hne2 : ((O : Int) == 0) = false := by simp; omega
      have hne3 : ¬ O = 0 := by omega
      have hwk : IntKind.i64.wrap ((k : Int) + 1) = (k : Int) + 1 := wrap_in (by unfold I64; omega)
      obtain ⟨c, hc⟩ : ∃ c, c = cntI O ix k := ⟨_, rfl⟩
      rw [← hc] at hst hle ⊢
      have hwc : IntKind.i64.wrap ((c : Int) + 1) = (c : Int) + 1 := wrap_in (by unfold I64; omega)
      have HST := Lib.hid hst
      clear hst hq hc
      by_cases he : (q : Int) = ix
      · have hde : ((q : Int) == ix) = true := by simpa using he
        have h3 := HST.out
        rw [if_pos he] at h3
        have H3 := Lib.hid h3
        clear h3 HST
        subst he
        go_wp2
        exact ⟨⟨k + 1, by omega, by go_num, by rw [H3.out]; go_num, by rw [H3.out]; omega, trivial⟩, by simp only [intS]; omega⟩
      · have hde : ((q : Int) == ix) = false := by simpa using he
        have h3 := HST.out
        rw [if_neg he] at h3
        have H3 := Lib.hid h3
        clear h3 HST
        go_wp2
        exact ⟨⟨k + 1, by omega, by go_num, by rw [H3.out]; rfl, by rw [H3.out]; omega, trivial⟩, by simp only [intS]; omega⟩
    · obtain rfl : k = Z := by omega
      have dl : decide ((k : Int) < (k : Int)) = false := decide_eq_false (by omega)
      go_wp2
      go_ret
      exact ⟨rfl, rfl⟩
end Go.Proofs.Ytjnkfpnjdnknnaa
