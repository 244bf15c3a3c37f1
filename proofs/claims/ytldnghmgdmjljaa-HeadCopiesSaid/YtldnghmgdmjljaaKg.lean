/-
  What Put of marks returns. Conditions: the row reads as bytes, of no more than ten thousand.
-/
import Derived.Test.YtldnghmgdmjljaaKf
import Derived.RegionTactic
import Derived.Laws.BitsAllLaws
namespace Go.Proofs.Ytldnghmgdmjljaa
open Go.RowKit
set_option linter.unusedSimpArgs false
set_option maxRecDepth 100000
set_option linter.unusedVariables false
theorem put_bad (A : Option Addr) (n c B : Nat) (bs : List Nat) (w : World) (hn : n ≤ 10000) (hb : Bytes w B A n bs) (hg : ¬ Good bs) :
    Calls Try.prog 74 #[.slice A n c] w fun e w' => e = .returned (.tuple #[.slice none 0 0, errV 2]) ∧ w = w' := by
  have HG := Lib.hid (good_any A n c B bs w hn hb)
  have hd : decide (Good bs) = false := decide_eq_false hg
  rw [hd] at HG
  clear hb hd hg
  go_enter Try.func74, Try.ntmps74
  go_wp2_with fail
  refine HG.out.mono ?_
  rintro e w' ⟨rfl, rfl⟩
  go_wp2
  go_ret2
  exact ⟨rfl, rfl⟩
theorem part_zero (bs : List Nat) : part bs 0 = [bs.length % 256, bs.length / 256] ++ List.replicate ((bs.length + 3) / 4) 0 := by
  unfold part packs
  congr 1
  apply List.ext_getElem?
  intro j
  by_cases hj : j < (bs.length + 3) / 4
  · rw [List.getElem?_map, List.getElem?_range hj, List.getElem?_replicate, if_pos hj]
    simp [packB, mk]
  · rw [List.getElem?_eq_none (by simp; omega), List.getElem?_eq_none (by simp; omega)]
theorem head_set (q r L : Nat) : ((List.replicate (2 + L) 0).set 0 q).set 1 r = [q, r] ++ List.replicate L 0 := by
  rw [Nat.add_comm, List.replicate_succ, List.replicate_succ]
  rfl
set_option maxHeartbeats 2000000 in
theorem put_ok (A : Option Addr) (n c : Nat) (bs : List Nat) (w : World) (hb : Bytes w w.heap.size A n bs) (hg : Good bs) :
    Calls Try.prog 74 #[.slice A n c] w fun e w' => e = .returned (.tuple #[.slice (some ⟨w.heap.size, 0, none⟩) (2 + (n + 3) / 4) (2 + (n + 3) / 4), .nilIface]) ∧ Blk w' w.heap.size 5 (u8s (putM bs)).toArray ∧ Below w.heap.size w w' := by
  have hl := hb.len
  have hg0 := hg.1
  have hn : n ≤ 256 := by omega
  have HB := Lib.hid hb
  have HG := Lib.hid (good_any A n c w.heap.size bs w (by omega) hb)
  have hd : decide (Good bs) = true := decide_eq_true hg
  rw [hd] at HG
  obtain ⟨P, hP⟩ : ∃ P, P = 2 + (n + 3) / 4 := ⟨_, rfl⟩
  have hmk := make_b P (by omega)
  have HGd := Lib.hid hg
  have hsz := size_any n w (by omega)
  rw [← hP] at hsz ⊢
  have HP := Lib.hid hP
  have hP2 : 2 ≤ P := by omega
  have hP3 : P ≤ 1000 := by omega
  clear hP
  clear hb hd hg
  go_enter Try.func74, Try.ntmps74
  go_wp2_with fail
  refine HG.out.mono ?_
  rintro e w' ⟨rfl, rfl⟩
  clear HG
  go_wp2_with fail
  refine hsz.mono ?_
  rintro e w' ⟨rfl, rfl⟩
  clear hsz
  have c0 : (u8s (List.replicate P 0))[0]? = some (.int .u8 0) := by rw [noughts, List.getElem?_replicate, if_pos (by omega)]
  have c1 : (u8s (List.replicate P 0))[1]? = some (.int .u8 0) := by rw [noughts, List.getElem?_replicate, if_pos (by omega)]
  have hparts : ((u8s (List.replicate P 0)).set 0 (Value.int .u8 ((n : Int) % 256))).set 1 (Value.int .u8 ((n : Int) / 256)) = u8s (part bs 0) := by
    rw [part_zero, HP.out, ← head_set, hl]
    simp [u8s, u8, List.map_set]
  have HPT := Lib.hid hparts
  clear hparts
  go_wp2
  rw [HPT.out]
  generalize hg : w.heap.size = g at *
  have HK : Hid (Blk (w.alloc (.cells (u8s (part bs 0)).toArray 5)) g 5 (u8s (part bs 0)).toArray ∧ Below g w (w.alloc (.cells (u8s (part bs 0)).toArray 5))) := Lib.hid (by subst hg; exact ⟨Blk.new _ _ _, below_alloc _ _⟩)
  generalize w.alloc (.cells (u8s (part bs 0)).toArray 5) = w1 at *
  go_loopw [30] (fun i wr => ∃ k : Nat, k ≤ n ∧ i = .int .i64 k ∧ Blk wr g 5 (u8s (part bs k)).toArray ∧ Below g w wr) (fun i _ => n - (intOf i).toNat)
  case atStart => exact ⟨0, by omega, rfl, HK.out.1, HK.out.2⟩
  case round =>
    obtain ⟨k, hk, rfl, hkb, hbl⟩ := hrel
    by_cases hlt : k < n
    · obtain ⟨ad, b, rfl, hb, hb2, hc⟩ := (HB.out.below hbl).at_ hlt
      have hpl := place_any k wr (by omega)
      have hkl : 2 + k / 4 < P := by have := HP.out; omega
      have hcell := hkb.cell8 (part_at bs k (by omega))
      have hfz := hkb.frozen (2 + k / 4)
      have hmk : mk bs k = b := mk_at hb
      have hb3 : b ≤ 3 := HGd.out.2 b (List.mem_of_getElem? hb)
      have hset := part_set HGd.out.2 k (by omega)
      rw [hmk] at hset
      have HE := Lib.hid (fun z : Nat => And.intro (hkb.set8 (2 + k / 4) z) (hbl.setCell (p := ⟨g, 2 + k / 4, none⟩) (Nat.le_refl _) (.int .u8 (z : Int))))
      have HS := Lib.hid hset
      have hpt := part_lt HGd.out.2 k
      have hor := (or_add (k % 4) (by omega) _ hpt b (by omega))
      have HPL := Lib.hid hpl
      have HA := Lib.hid hpt
      generalize packB (bs.take k) (k / 4) = a at *
      obtain ⟨at_, hat⟩ : ∃ at_, at_ = 2 + k / 4 := ⟨_, rfl⟩
      obtain ⟨sh, hsh⟩ : ∃ sh, sh = 2 * (k % 4) := ⟨_, rfl⟩
      rw [← hat] at hcell hfz hkl HPL HS HE
      rw [← hsh] at HPL HS hor
      have HAT := Lib.hid hat
      have hsh2 : sh ≤ 6 := by omega
      have HSH := Lib.hid (And.intro hsh hor)
      clear hkb hbl hset hmk hpl hb hat hsh hpt hor
      go_wp2_with fail
      refine HPL.out.mono ?_
      rintro e w2 ⟨he, hw⟩
      subst he
      subst hw
      clear HPL
      have ha : a < 256 := Nat.lt_of_lt_of_le HA.out (by
        have : k % 4 < 4 := Nat.mod_lt _ (by omega)
        calc 4 ^ (k % 4) ≤ 4 ^ 3 := Nat.pow_le_pow_right (by omega) (by omega)
          _ ≤ 256 := by decide)
      have e1 : ((b : Int) * 2 ^ sh % 256) = ((b <<< sh : Nat) : Int) := by
        have h1 := HSH.out.2.2
        rw [Nat.shiftLeft_eq] at h1 ⊢
        have h2 : ((b * 2 ^ sh : Nat) : Int) = (b : Int) * 2 ^ sh := by push_cast; rfl
        rw [← h2]
        omega
      have e2 : bits .or .u8 (a : Int) ((b <<< sh : Nat) : Int) = ((a ||| b <<< sh : Nat) : Int) := u8_or_nat a (b <<< sh) ha HSH.out.2.2
      generalize hz : a ||| b <<< sh = z at *
      generalize b <<< sh = s at *
      clear ha
      go_wp2
      go_region
      go_wp2
      go_roundw
      case rel => exact ⟨k + 1, by omega, by go_num, by rw [← HS.out]; exact (HE.out z).1, ⟨(HE.out z).2.os, (HE.out z).2.tape, (HE.out z).2.output, (HE.out z).2.size, (HE.out z).2.block⟩⟩
      case measure => simp [intOf]; omega
    · obtain rfl : k = n := by omega
      have HE := Lib.hid (And.intro hkb hbl)
      clear hkb hbl
      go_wp2
      go_ret2
      subst hg
      exact ⟨rfl, by rw [← part_all, hl]; exact HE.out.1, HE.out.2⟩
end Go.Proofs.Ytldnghmgdmjljaa
