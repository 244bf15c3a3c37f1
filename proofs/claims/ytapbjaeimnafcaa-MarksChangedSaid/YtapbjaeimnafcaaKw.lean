/-
  The law MarksChanged, walked: it returns true and changes nothing that was there. No condition.
-/
import Derived.Test.YtapbjaeimnafcaaKo
import Derived.Test.YtapbjaeimnafcaaKj
import Derived.Test.YtapbjaeimnafcaaKl
namespace Go.Proofs.Ytapbjaeimnafcaa
open Go.RowKit
set_option linter.unusedSimpArgs false
set_option maxRecDepth 100000
set_option linter.unusedVariables false
set_option maxHeartbeats 1000000 in
theorem marksChanged_walk (A : Option Addr) (n c : Nat) (bs : List Nat) (m0 : n ≤ c ∧ c ≤ 9223372036854775807) {w : World} (hb : Bytes w w.heap.size A n bs) (A' : Option Addr) (n' c' : Nat) (bs' : List Nat) (m0' : n' ≤ c' ∧ c' ≤ 9223372036854775807) (hb' : Bytes w w.heap.size A' n' bs') :
    Calls Try.prog 6 #[.slice A n c, .slice A' n' c'] w fun e w' => e = .returned (.bool true) ∧ Below w.heap.size w w' := by
  have HB := Lib.hid hb
  have HB' := Lib.hid hb'
  have hl := hb.len
  have hl' := hb'.len
  clear hb hb'
  go_enter Try.func6, Try.ntmps6
  go_wp2_with fail
  refine (alive_any w).mono ?_
  rintro e w1 ⟨rfl, b1⟩
  have B1 := Lib.hid b1
  clear b1
  by_cases hn : n ≤ 2000
  case neg =>
    have hd : decide ((2000 : Int) < (n : Int)) = true := decide_eq_true (by omega)
    go_wp2
    go_ret
    exact ⟨rfl, B1.out⟩
  have hd : decide ((2000 : Int) < (n : Int)) = false := decide_eq_false (by omega)
  by_cases hn' : n' ≤ 2000
  case neg =>
    have hd' : decide ((2000 : Int) < (n' : Int)) = true := decide_eq_true (by omega)
    go_wp2
    go_ret
    exact ⟨rfl, B1.out⟩
  have hd' : decide ((2000 : Int) < (n' : Int)) = false := decide_eq_false (by omega)
  go_wp2_with fail
  refine (copy_any A n c bs w1 (by omega) ((HB.out.since B1.out).more B1.out.size)).mono ?_
  rintro e w2 ⟨gc, cap, rfl, hcap, hgc, hown, b2⟩
  have hgc2 : gc < w2.heap.size := hown.hi gc (by simp [Value.ownBlock])
  have B2 := Lib.hid (B1.out.trans (b2.mono B1.out.size))
  have HO2 := Lib.hid hown
  clear hown b2
  go_wp2_with fail
  refine (copy_any A' n' c' bs' w2 (by omega) ((HB'.out.since B2.out).more B2.out.size)).mono ?_
  rintro e w3 ⟨gd, cap', rfl, hcap', hgd, hown, b3⟩
  have hmd := mine_bytes hown HB'.out
  have B3 := Lib.hid (B2.out.trans (b3.mono B2.out.size))
  have HO3 := Lib.hid (HO2.out.below b3)
  have HP3 := Lib.hid hown
  have h23 := b3.size
  have hmc := mine_bytes HO3.out HB.out
  have HM := Lib.hid (And.intro hmc hmd)
  clear hown b3 hmc hmd HO2
  go_wp2_with fail
  refine (frozen_any (some ⟨gc, 0, none⟩) n cap bs w3 (by omega) HM.out.1).mono ?_
  rintro e w4 ⟨rfl, k4, b4⟩
  have B4 := Lib.hid (B3.out.trans (b4.mono B3.out.size))
  have HO4 := Lib.hid (HO3.out.below b4)
  have HP4 := Lib.hid (HP3.out.below b4)
  have hfl : (frozenM bs).length = n := by rw [frozenM_len, hl]
  have hflt : ∀ b ∈ frozenM bs, b < 256 := by
    intro b hb
    obtain ⟨x, hx, rfl⟩ := List.mem_map.1 hb
    have := HB.out.2 x hx
    unfold frz
    split <;> omega
  have HFL := Lib.hid (And.intro hfl hflt)
  have HF4 := Lib.hid (Own.of_blk (base := w3.heap.size) k4 hfl (Nat.le_refl _) (by omega))
  have h34 := b4.size
  have hM1 := (HM.out.1.since b4).more b4.size
  have hM2 := (HM.out.2.since b4).more b4.size
  clear k4 b4 hfl hflt HO3 HP3 HM
  have HCh := Lib.hid (changed_any (some ⟨gc, 0, none⟩) (some ⟨gd, 0, none⟩) n n' cap cap' bs bs' w4 (by omega) (by omega) hM1 hM2)
  clear hM1 hM2
  go_wp2_with fail
  refine HCh.out.mono ?_
  rintro e w5 ⟨v5, rfl, ho5, b5⟩
  obtain ⟨A5, c5, rfl, -⟩ := ho5.form
  have B5 := Lib.hid (B4.out.trans (b5.mono B4.out.size))
  have HO5 := Lib.hid (HO4.out.below b5)
  have HP5 := Lib.hid (HP4.out.below b5)
  have HF5 := Lib.hid (HF4.out.below b5)
  have HL5 := Lib.hid ho5
  have HLN : Hid ((changedTo bs bs' (max n n')).length ≤ 2000) := Lib.hid (Nat.le_trans (changedTo_len _ _ _) (by omega))
  clear b5 ho5 HCh HO4 HP4 HF4
  go_wp2_with fail
  refine (dfrozen_any A n c bs w5 (by omega) ((HB.out.since B5.out).more B5.out.size)).mono ?_
  rintro e w6 ⟨v6, rfl, ho6, b6⟩
  obtain ⟨A6, c6, rfl, -⟩ := ho6.form
  have B6 := Lib.hid (B5.out.trans (b6.mono B5.out.size))
  have HO6 := Lib.hid (HO5.out.below b6)
  have HP6 := Lib.hid (HP5.out.below b6)
  have HF6 := Lib.hid (HF5.out.below b6)
  have HL6 := Lib.hid (show OwnI w6 w4.heap.size (.slice A5 (changedTo bs bs' (max n n')).length c5) (changedTo bs bs' (max n n')).length (changedTo bs bs' (max n n')) from row_of HL5.out fun k hk => b6.block k (row_under HL5.out k hk))
  have HS1 := Lib.hid (same_iff (some ⟨w3.heap.size, 0, none⟩) A6 n (frozenM bs).length n c6 _ _ (frozenM bs) (frozenM bs) w6 (HF6.out.bytes HFL.out.2) (ho6.bytes HFL.out.2))
  rw [show (frozenM bs == frozenM bs) = true by simp] at HS1
  clear b6 ho6 HO5 HP5 HF5 HL5
  go_wp2_with fail
  refine HS1.out.mono ?_
  rintro e w7 ⟨he, hw⟩
  subst he
  subst hw
  clear HS1
  have HDC := Lib.hid (dchanged_any A A' n n' c c' bs bs' w6 (by omega) (by omega) ((HB.out.since B6.out).more B6.out.size) ((HB'.out.since B6.out).more B6.out.size))
  go_wp2_with fail
  refine HDC.out.mono ?_
  rintro e w7 ⟨v7, rfl, ho7, b7⟩
  obtain ⟨A7, c7, rfl, -⟩ := ho7.form
  have B7 := Lib.hid (B6.out.trans (b7.mono B6.out.size))
  have HO7 := Lib.hid (HO6.out.below b7)
  have HP7 := Lib.hid (HP6.out.below b7)
  have HF7 := Lib.hid (HF6.out.below b7)
  have hin := ints_any A5 A7 _ _ c5 c7 _ _ _ _ w7 (OwnI.ints (show OwnI w7 w4.heap.size (.slice A5 (changedTo bs bs' (max n n')).length c5) (changedTo bs bs' (max n n')).length (changedTo bs bs' (max n n')) from row_of HL6.out fun k hk => b7.block k (row_under HL6.out k hk))) ho7.ints (by have := HLN.out; omega) (by have := HLN.out; omega)
  have HIN := Lib.hid hin
  clear b7 ho7 hin HDC HO6 HP6 HF6 HL6
  go_wp2_with fail
  refine HIN.out.mono ?_
  rintro e w8 ⟨b, rfl, hbt, b8⟩
  have hbt2 : b = true := hbt (by trivial)
  subst hbt2
  have B8 := Lib.hid (B7.out.trans (b8.mono B7.out.size))
  have HO8 := Lib.hid (HO7.out.below b8)
  have HP8 := Lib.hid (HP7.out.below b8)
  have HF8 := Lib.hid (HF7.out.below b8)
  clear b8 HIN HO7 HP7 HF7 hbt
  go_wp2_with fail
  refine (kept_any A n c gc cap w1.heap.size bs w8 (by omega) hcap ((HB.out.since B8.out).more B1.out.size) HO8.out).mono ?_
  rintro e w9 ⟨rfl, b9⟩
  have B9 := Lib.hid (B8.out.trans (b9.mono B8.out.size))
  have HO9 := Lib.hid (HO8.out.below b9)
  have HP9 := Lib.hid (HP8.out.below b9)
  have HF9 := Lib.hid (HF8.out.below b9)
  clear b9 HO8 HP8 HF8
  go_wp2_with fail
  refine (kept_any A' n' c' gd cap' w2.heap.size bs' w9 (by omega) hcap' ((HB'.out.since B9.out).more B2.out.size) HP9.out).mono ?_
  rintro e w10 ⟨rfl, b10⟩
  have B10 := Lib.hid (B9.out.trans (b10.mono B9.out.size))
  have HO10 := Lib.hid (HO9.out.below b10)
  have HF10 := Lib.hid (HF9.out.below b10)
  clear b10 HO9 HP9 HF9
  have HR : Hid (Rowed w10 w.heap.size (fun i => if i = 0 then .slice (some ⟨w3.heap.size, 0, none⟩) n n else .slice (some ⟨gc, 0, none⟩) n cap) (fun i => if i = 0 then n else n) 2) := Lib.hid (rowed_two (HF10.out.weaken B3.out.size) ((mine_own HO10.out hl).weaken B1.out.size)
    (apart_flip (apart_by (k := w2.heap.size) (fun b hb => by simp [Value.ownBlock] at hb; omega) (fun b hb => by simp [Value.ownBlock] at hb; omega))))
  have HAP := Lib.hid (apart_list HR.out (by omega) (by intro i hi; (repeat' split) <;> omega) B10.out.size _ (hdr_two _ _))
  go_wp2_with fail
  refine (HAP.out _ _).mono ?_
  rintro e w11 ⟨rfl, b11⟩
  have B11 := Lib.hid (B10.out.trans b11)
  clear b11
  go_wp2
  go_ret
  exact ⟨rfl, B11.out⟩
end Go.Proofs.Ytapbjaeimnafcaa
