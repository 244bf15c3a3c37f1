/-
  A heap of holes: one hole sinks to its place. Conditions: the heap reads as it is said to, and only that hole is out of place.
-/
import Derived.Test.YtliockcbnmbhnaaSl
namespace Go.Proofs.Ytliockcbnmbhnaa
open Go.RowKit Go.BigFrame
set_option linter.unusedSimpArgs false
set_option linter.unusedVariables false
theorem HAt.below {w w' : World} {hb r c : Nat} {xs : List (Nat × Nat)} (h : HAt w hb r c xs) (b : Below w.heap.size w w') : HAt w' hb r c xs :=
  h.of (b.block hb h.box.lt) (b.block r h.row.lt)
theorem less_gx {w : World} {hb r c : Nat} {ys : List (Nat × Nat)} (h : HAt w hb r c ys) (i j m : Nat) (I J : Int) (hi : i < ys.length) (hj : j < ys.length) (hm : ys.length = m) (hI : I = (i : Int)) (hJ : J = (j : Int)) :
    Calls Try.prog 77 #[.slice (some ⟨r, 0, none⟩) m c, .int .i64 I, .int .i64 J] w fun e' w' => e' = .returned (.bool (lgB (gx ys i) (gx ys j))) ∧ Below w.heap.size w w' := by
  subst hI hJ hm
  have := h.lim
  exact less_any h.row _ _ (gx_some hi) (gx_some hj) hi hj (by omega)
theorem swap_gx {w : World} {hb r c : Nat} {ys : List (Nat × Nat)} (h : HAt w hb r c ys) (i j m : Nat) (I J : Int) (hij : i ≠ j) (hi : i < ys.length) (hj : j < ys.length) (hm : ys.length = m) (hI : I = (i : Int)) (hJ : J = (j : Int)) :
    Calls Try.prog 78 #[.slice (some ⟨r, 0, none⟩) m c, .int .i64 I, .int .i64 J] w fun e' w' => e' = .returned (.tuple #[]) ∧ HAt w' hb r c (swapL ys i j) ∧ Only [hb, r] w w' := by
  subst hI hJ hm
  have hl := h.lim
  have hs := Lib.hid (swapL_len ys i j)
  refine (swap_any (c := c) h.row hij hi hj (Nat.le_refl _) (by omega)).mono ?_
  rintro e w' ⟨rfl, hr, ho, -⟩
  refine ⟨rfl, ⟨?_, hr, by rw [hs.out]; exact h.cap, by rw [hs.out]; exact h.lim⟩, ho.mono (by simp)⟩
  rw [hs.out]
  exact h.box.of (ho.block hb h.box.lt (by simpa using h.ne))
theorem nl_refl (a : Nat × Nat) : ¬ Longer a a := by simp [Longer]
set_option maxRecDepth 100000 in
set_option maxHeartbeats 4000000 in
theorem down_any {w : World} {hb r c i0 n : Nat} {xs : List (Nat × Nat)} (h : HAt w hb r c xs) (hn : n ≤ xs.length) (hi : i0 ≤ 65536) (hbut : HBut xs n i0 i0) :
    Calls Try.prog 47 #[.iface 81 (.pointer (some ⟨hb, 0, none⟩)), .int .i64 i0, .int .i64 n] w fun e' w' => (∃ b, e' = .returned (.bool b)) ∧ ∃ ys, HAt w' hb r c ys ∧ ys.Perm xs ∧ HFrom ys n i0 ∧ (∀ j, n ≤ j → gx ys j = gx xs j) ∧ Only [hb, r] w w' := by
  have HH := Lib.hid h
  have HB := Lib.hid hbut
  have hlim := h.lim
  clear h hbut
  go_enter Try.func47, Try.ntmps47
  go_wp2
  go_loopw [7] (fun i wr => ∃ (k : Nat) (ys : List (Nat × Nat)), i0 ≤ k ∧ k ≤ 65536 ∧ i = .int .i64 k ∧ HAt wr hb r c ys ∧ ys.Perm xs ∧ HBut ys n i0 k ∧ (∀ j, n ≤ j → gx ys j = gx xs j) ∧ Only [hb, r] w wr) (fun i _ => 65537 - (intS i).toNat)
  case atStart => exact ⟨i0, xs, by omega, by omega, rfl, HH.out, List.Perm.refl _, HB.out, fun _ _ => rfl, Only.refl _ _⟩
  case round =>
    obtain ⟨k, ys, hk0, hk, rfl, ha, hp, hbt, hun, ho⟩ := hrel
    obtain ⟨wo, hwo⟩ : ∃ wo, wo = wr := ⟨_, rfl⟩
    subst hwo
    have hlen := hp.length_eq
    have HA := Lib.hid ha
    have HO := Lib.hid ho
    have HP := Lib.hid (And.intro hp (And.intro hbt hun))
    clear ha hp hbt hun ho
    have hw1 : IntKind.i64.wrap (2 * (k : Int)) = 2 * (k : Int) := by rw [IntKind.wrap_i64]; omega
    have hw2 : IntKind.i64.wrap (2 * (k : Int) + 1) = 2 * (k : Int) + 1 := by rw [IntKind.wrap_i64]; omega
    have hw3 : IntKind.i64.wrap (2 * (k : Int) + 1 + 1) = 2 * (k : Int) + 1 + 1 := by rw [IntKind.wrap_i64]; omega
    by_cases h1 : 2 * k + 1 < n
    · have hd0 : decide ((n : Int) ≤ 2 * (k : Int) + 1) = false := decide_eq_false (by omega)
      have hd0' : decide (2 * (k : Int) + 1 < 0) = false := decide_eq_false (by omega)
      by_cases h2 : 2 * k + 2 < n
      · have hd1 : decide (2 * (k : Int) + 1 + 1 < (n : Int)) = true := decide_eq_true (by omega)
        have HL := Lib.hid (less_gx HA.out (2 * k + 2) (2 * k + 1) xs.length (2 * (k : Int) + 1 + 1) (2 * (k : Int) + 1) (by omega) (by omega) hlen (by omega) (by omega))
        have hm := fun f => meth_less wo f hb _ _ _ HA.out.cell
        go_wp2_with fail
        refine HL.out.mono ?_
        rintro e1 w1 ⟨rfl, hb1⟩
        have HA1 : Hid (HAt w1 hb r c ys) := Lib.hid (HA.out.below hb1)
        have HO1 : Hid (Only [hb, r] w w1) := Lib.hid (HO.out.trans (Only.of_below hb1 _) (Fresh.refl _ _))
        have HLB : Hid (lgB (gx ys (2 * k + 2)) (gx ys (2 * k + 1)) = true ↔ Longer (gx ys (2 * k + 2)) (gx ys (2 * k + 1))) := Lib.hid (lgB_iff _ _)
        clear HL hm HA HO hb1
        have HA := HA1
        have HO := HO1
        clear HA1 HO1
        cases hlb0 : lgB (gx ys (2 * k + 2)) (gx ys (2 * k + 1))
        · have HBE : Hid (∀ j', Kid k j' → j' < n → ¬ Longer (gx ys j') (gx ys (2 * k + 1))) := Lib.hid (fun j' hj' _ => by
            rcases hj' with rfl | rfl
            · exact nl_refl _
            · intro hh
              have := HLB.out.2 hh
              rw [hlb0] at this
              cases this)
          clear HLB
          have HL := Lib.hid (less_gx HA.out (2 * k + 1) k xs.length (2 * (k : Int) + 1) (k : Int) (by omega) (by omega) hlen (by omega) (by omega))
          have hm := fun f => meth_less w1 f hb _ _ _ HA.out.cell
          go_wp2_with fail
          refine HL.out.mono ?_
          rintro e2 w2 ⟨rfl, hb2⟩
          have HA2 : Hid (HAt w2 hb r c ys) := Lib.hid (HA.out.below hb2)
          have HO2 : Hid (Only [hb, r] w w2) := Lib.hid (HO.out.trans (Only.of_below hb2 _) (Fresh.refl _ _))
          have HLB : Hid (lgB (gx ys (2 * k + 1)) (gx ys k) = true ↔ Longer (gx ys (2 * k + 1)) (gx ys k)) := Lib.hid (lgB_iff _ _)
          clear HL hm HO HA hb2
          cases hlb : lgB (gx ys (2 * k + 1)) (gx ys k)
          · go_wp2
            go_ret
            refine ⟨⟨_, rfl⟩, ys, HA2.out, HP.out.1, HP.out.2.1.done fun j' hk' hj' => nl_trans (fun hh => ?_) (HBE.out j' hk' hj'), HP.out.2.2, HO2.out⟩
            have := HLB.out.2 hh
            rw [hlb] at this
            cases this
          · have hlg := HLB.out.1 hlb
            have HSW := Lib.hid (swap_gx HA2.out k (2 * k + 1) xs.length (k : Int) (2 * (k : Int) + 1) (by omega) (by omega) (by omega) hlen (by omega) (by omega))
            have HST := Lib.hid (HP.out.2.1.step (j := 2 * k + 1) (by omega) (.inl rfl) (by omega) hk0 hlg HBE.out)
            have HPE := Lib.hid (swapL_perm (xs := ys) (i := k) (j := 2 * k + 1) (by omega) (by omega))
            have HGX := Lib.hid (gx_swap (xs := ys) (i := k) (j := 2 * k + 1) (by omega) (by omega))
            have hm := fun f => meth_swap w2 f hb _ _ _ HA2.out.cell
            clear hlg
            go_wp2_with fail
            refine HSW.out.mono ?_
            rintro e3 w3 ⟨rfl, ha3, ho3⟩
            have HA3 := Lib.hid ha3
            have HO3 := Lib.hid (HO2.out.trans ho3 (Fresh.refl _ _))
            clear hm HSW ha3 ho3
            go_wp2
            go_roundw
            case rel =>
              refine ⟨2 * k + 1, swapL ys k (2 * k + 1), by omega, by omega, by go_num, HA3.out, HPE.out.trans HP.out.1, HST.out, fun j' hj' => ?_, HO3.out⟩
              rw [HGX.out j', if_neg (show ¬ j' = 2 * k + 1 by omega), if_neg (show ¬ j' = k by omega)]
              exact HP.out.2.2 j' hj'
            case measure => simp [intS]; omega
        · have HBE : Hid (∀ j', Kid k j' → j' < n → ¬ Longer (gx ys j') (gx ys (2 * k + 2))) := Lib.hid (fun j' hj' _ => by
            rcases hj' with rfl | rfl
            · exact longer_asymm (HLB.out.1 hlb0)
            · exact nl_refl _)
          clear HLB
          have HL := Lib.hid (less_gx HA.out (2 * k + 2) k xs.length (2 * (k : Int) + 1 + 1) (k : Int) (by omega) (by omega) hlen (by omega) (by omega))
          have hm := fun f => meth_less w1 f hb _ _ _ HA.out.cell
          go_wp2_with fail
          refine HL.out.mono ?_
          rintro e2 w2 ⟨rfl, hb2⟩
          have HA2 : Hid (HAt w2 hb r c ys) := Lib.hid (HA.out.below hb2)
          have HO2 : Hid (Only [hb, r] w w2) := Lib.hid (HO.out.trans (Only.of_below hb2 _) (Fresh.refl _ _))
          have HLB : Hid (lgB (gx ys (2 * k + 2)) (gx ys k) = true ↔ Longer (gx ys (2 * k + 2)) (gx ys k)) := Lib.hid (lgB_iff _ _)
          clear HL hm HO HA hb2
          cases hlb : lgB (gx ys (2 * k + 2)) (gx ys k)
          · go_wp2
            go_ret
            refine ⟨⟨_, rfl⟩, ys, HA2.out, HP.out.1, HP.out.2.1.done fun j' hk' hj' => nl_trans (fun hh => ?_) (HBE.out j' hk' hj'), HP.out.2.2, HO2.out⟩
            have := HLB.out.2 hh
            rw [hlb] at this
            cases this
          · have hlg := HLB.out.1 hlb
            have HSW := Lib.hid (swap_gx HA2.out k (2 * k + 2) xs.length (k : Int) (2 * (k : Int) + 1 + 1) (by omega) (by omega) (by omega) hlen (by omega) (by omega))
            have HST := Lib.hid (HP.out.2.1.step (j := 2 * k + 2) (by omega) (.inr rfl) (by omega) hk0 hlg HBE.out)
            have HPE := Lib.hid (swapL_perm (xs := ys) (i := k) (j := 2 * k + 2) (by omega) (by omega))
            have HGX := Lib.hid (gx_swap (xs := ys) (i := k) (j := 2 * k + 2) (by omega) (by omega))
            have hm := fun f => meth_swap w2 f hb _ _ _ HA2.out.cell
            clear hlg
            go_wp2_with fail
            refine HSW.out.mono ?_
            rintro e3 w3 ⟨rfl, ha3, ho3⟩
            have HA3 := Lib.hid ha3
            have HO3 := Lib.hid (HO2.out.trans ho3 (Fresh.refl _ _))
            clear hm HSW ha3 ho3
            go_wp2
            go_roundw
            case rel =>
              refine ⟨2 * k + 2, swapL ys k (2 * k + 2), by omega, by omega, by go_num, HA3.out, HPE.out.trans HP.out.1, HST.out, fun j' hj' => ?_, HO3.out⟩
              rw [HGX.out j', if_neg (show ¬ j' = 2 * k + 2 by omega), if_neg (show ¬ j' = k by omega)]
              exact HP.out.2.2 j' hj'
            case measure => simp [intS]; omega
      · have hd1 : decide (2 * (k : Int) + 1 + 1 < (n : Int)) = false := decide_eq_false (by omega)
        have HBE : Hid (∀ j', Kid k j' → j' < n → ¬ Longer (gx ys j') (gx ys (2 * k + 1))) := Lib.hid (fun j' hj' hh => by
          rcases hj' with rfl | rfl
          · exact nl_refl _
          · omega)
        have HL := Lib.hid (less_gx HA.out (2 * k + 1) k xs.length (2 * (k : Int) + 1) (k : Int) (by omega) (by omega) hlen (by omega) (by omega))
        have hm := fun f => meth_less wo f hb _ _ _ HA.out.cell
        go_wp2_with fail
        refine HL.out.mono ?_
        rintro e2 w2 ⟨rfl, hb2⟩
        have HA2 : Hid (HAt w2 hb r c ys) := Lib.hid (HA.out.below hb2)
        have HO2 : Hid (Only [hb, r] w w2) := Lib.hid (HO.out.trans (Only.of_below hb2 _) (Fresh.refl _ _))
        have HLB : Hid (lgB (gx ys (2 * k + 1)) (gx ys k) = true ↔ Longer (gx ys (2 * k + 1)) (gx ys k)) := Lib.hid (lgB_iff _ _)
        clear HL hm HO HA hb2
        cases hlb : lgB (gx ys (2 * k + 1)) (gx ys k)
        · go_wp2
          go_ret
          refine ⟨⟨_, rfl⟩, ys, HA2.out, HP.out.1, HP.out.2.1.done fun j' hk' hj' => nl_trans (fun hh => ?_) (HBE.out j' hk' hj'), HP.out.2.2, HO2.out⟩
          have := HLB.out.2 hh
          rw [hlb] at this
          cases this
        · have hlg := HLB.out.1 hlb
          have HSW := Lib.hid (swap_gx HA2.out k (2 * k + 1) xs.length (k : Int) (2 * (k : Int) + 1) (by omega) (by omega) (by omega) hlen (by omega) (by omega))
          have HST := Lib.hid (HP.out.2.1.step (j := 2 * k + 1) (by omega) (.inl rfl) (by omega) hk0 hlg HBE.out)
          have HPE := Lib.hid (swapL_perm (xs := ys) (i := k) (j := 2 * k + 1) (by omega) (by omega))
          have HGX := Lib.hid (gx_swap (xs := ys) (i := k) (j := 2 * k + 1) (by omega) (by omega))
          have hm := fun f => meth_swap w2 f hb _ _ _ HA2.out.cell
          clear hlg
          go_wp2_with fail
          refine HSW.out.mono ?_
          rintro e3 w3 ⟨rfl, ha3, ho3⟩
          have HA3 := Lib.hid ha3
          have HO3 := Lib.hid (HO2.out.trans ho3 (Fresh.refl _ _))
          clear hm HSW ha3 ho3
          go_wp2
          go_roundw
          case rel =>
            refine ⟨2 * k + 1, swapL ys k (2 * k + 1), by omega, by omega, by go_num, HA3.out, HPE.out.trans HP.out.1, HST.out, fun j' hj' => ?_, HO3.out⟩
            rw [HGX.out j', if_neg (show ¬ j' = 2 * k + 1 by omega), if_neg (show ¬ j' = k by omega)]
            exact HP.out.2.2 j' hj'
          case measure => simp [intS]; omega
    · have hd0 : decide ((n : Int) ≤ 2 * (k : Int) + 1) = true := decide_eq_true (by omega)
      go_wp2
      go_ret
      exact ⟨⟨_, rfl⟩, ys, HA.out, HP.out.1, HP.out.2.1.done fun j' hk' hj' => by simp only [Kid] at hk'; omega, HP.out.2.2, HO.out⟩
end Go.Proofs.Ytliockcbnmbhnaa
