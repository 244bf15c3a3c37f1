/-
  The document's Changed and Put. Conditions: the rows read as bytes, of no more than ten thousand; what is put are marks.
-/
import Derived.Test.YtldnghmgdmjljaaKi
namespace Go.Proofs.Ytldnghmgdmjljaa
open Go.RowKit
set_option linter.unusedSimpArgs false
set_option maxRecDepth 100000
set_option linter.unusedVariables false
theorem four_step (m : List Nat) (j : Nat) : packB m j = mk m (4 * j) + 4 * (mk m (4 * j + 1) + 4 * (mk m (4 * j + 2) + 4 * mk m (4 * j + 3))) := by
  unfold packB; omega
/-- the number behind i rounds of the inner loop -/
def horner (m : List Nat) (j : Nat) : Nat → Nat
  | 0 => 0
  | 1 => mk m (4 * j + 3)
  | 2 => mk m (4 * j + 2) + 4 * mk m (4 * j + 3)
  | 3 => mk m (4 * j + 1) + 4 * (mk m (4 * j + 2) + 4 * mk m (4 * j + 3))
  | _ => packB m j
theorem horner_step (m : List Nat) (j i : Nat) (hi : i < 4) : horner m j (i + 1) = 4 * horner m j i + mk m (4 * j + (3 - i)) := by
  match i, hi with
  | 0, _ => simp [horner]
  | 1, _ => simp [horner]; omega
  | 2, _ => simp [horner]; omega
  | 3, _ => simp [horner, packB]; omega
theorem horner_lt {m : List Nat} (h : ∀ x ∈ m, x ≤ 3) (j i : Nat) (hi : i ≤ 4) : horner m j i < 256 := by
  have h0 := mk_le h (4 * j)
  have h1 := mk_le h (4 * j + 1)
  have h2 := mk_le h (4 * j + 2)
  have h3 := mk_le h (4 * j + 3)
  match i, hi with
  | 0, _ => simp [horner]
  | 1, _ => simp [horner]; omega
  | 2, _ => simp [horner]; omega
  | 3, _ => simp [horner]; omega
  | 4, _ => simp [horner, packB]; omega
set_option maxHeartbeats 800000 in
theorem dput_any (A : Option Addr) (n c : Nat) (bs : List Nat) (w : World) (h : Bytes w w.heap.size A n bs) (hg : Good bs) :
    Calls Try.prog 87 #[.slice A n c] w fun e w' => ∃ v, e = .returned v ∧ OwnB w w' v (putM bs) := by
  have hl := h.len
  have hn : n ≤ 256 := by have := hg.1; omega
  have H := Lib.hid h
  have HG := Lib.hid hg
  clear h hg
  go_enter Try.func87, Try.ntmps87
  go_wp2
  have HK : Hid (OwnB w (w.alloc (.cells #[.int .u8 ((n : Int) % 256), .int .u8 ((n : Int) / 256)] 5)) (.slice (some ⟨w.heap.size, 0, none⟩) 2 2) ([n % 256, n / 256] ++ packs bs 0)) := Lib.hid ⟨Own.of_blk (bs := [n % 256, n / 256] ++ packs bs 0) (by
      have := Blk.new w 5 (u8s [n % 256, n / 256]).toArray
      simpa [u8s, u8, packs] using this) rfl (Nat.le_refl _) (by omega), below_alloc _ _⟩
  generalize w.alloc (.cells #[.int .u8 ((n : Int) % 256), .int .u8 ((n : Int) / 256)] 5) = w1 at *
  go_loopw [3, 4] (fun v i wr => ∃ j k : Nat, k = 4 * j ∧ k ≤ n + 3 ∧ i = .int .i64 k ∧ OwnB w wr v ([n % 256, n / 256] ++ packs bs j)) (fun _ i _ => n + 3 - (intOf i).toNat)
  case atStart => exact ⟨0, 0, rfl, by omega, rfl, HK.out⟩
  case round =>
    obtain ⟨j, k, hkj, hkn, rfl, ho⟩ := hrel
    have HO := Lib.hid ho
    have HKJ := Lib.hid hkj
    clear ho HK hkj
    by_cases hlt : k < n
    · rename World => wo
      go_wp2
      go_loopw [5, 6] (fun nv kv wr => ∃ (r : Nat) (t : Int), r ≤ 4 ∧ t = 3 - (r : Int) ∧ nv = .int .i64 (horner bs j r : Nat) ∧ kv = .int .i64 t ∧ wr = wo) (fun _ kv _ => (intOf kv + 1).toNat)
      case atStart => exact ⟨0, 3, by omega, by omega, rfl, rfl, by trivial⟩
      case round =>
        obtain ⟨r, t, hr4, ht, rfl, rfl, rfl⟩ := hrel
        have hh := horner_lt HG.out.2 j r hr4
        by_cases hr : r < 4
        · have hst := horner_step bs j r hr
          obtain ⟨q, hq⟩ : ∃ q, q = 4 * j + (3 - r) := ⟨_, rfl⟩
          obtain ⟨tn, htn⟩ : ∃ tn : Nat, tn = 3 - r := ⟨_, rfl⟩
          have htt : t = (tn : Int) := by omega
          rw [← hq] at hst
          have HT := Lib.hid (And.intro ht (And.intro hq htn))
          have hh2 := horner_lt HG.out.2 j (r + 1) (by omega)
          have HS := Lib.hid hst
          have htn3 : tn ≤ 3 := by omega
          have hsum : (k : Int) + (tn : Int) = (q : Int) := by have := HKJ.out; omega
          have hq2 : q ≤ 1000 := by have := HKJ.out; omega
          subst htt
          clear ht hq htn hst hh2
          by_cases hqn : q < n
          · have hd : decide ((q : Int) < (n : Int)) = true := decide_eq_true (by omega)
            obtain ⟨ad, b, rfl, hb, hb2, hc⟩ := (H.out.below HO.out.2).at_ hqn
            have HM := Lib.hid (mk_at hb)
            clear hb
            generalize hz : horner bs j r = z at *
            have HZ := Lib.hid hz
            clear hz
            go_wp2
            refine ⟨⟨r + 1, (tn : Int) - 1, by omega, by have := HT.out.1; push_cast; omega, ?_, rfl, by trivial⟩, by simp only [intOf]; omega⟩
            rw [HS.out, HM.out]
            push_cast
            rfl
          · have hd : decide ((q : Int) < (n : Int)) = false := decide_eq_false (by omega)
            have HM : Hid (mk bs q = 0) := Lib.hid (mk_over (by omega))
            generalize hz : horner bs j r = z at *
            have HZ := Lib.hid hz
            clear hz
            go_wp2
            refine ⟨⟨r + 1, (tn : Int) - 1, by omega, by have := HT.out.1; push_cast; omega, ?_, rfl, by trivial⟩, by simp only [intOf]; omega⟩
            rw [HS.out, HM.out]
            push_cast
            rw [Int.add_zero]
        · obtain rfl : r = 4 := by omega
          have ht1 : t = -1 := by omega
          subst ht1
          have hz4 : horner bs j 4 = packB bs j := rfl
          rw [hz4] at hh ⊢
          have HS : Hid ([n % 256, n / 256] ++ packs bs (j + 1) = ([n % 256, n / 256] ++ packs bs j) ++ [packB bs j]) := Lib.hid (by rw [packs_snoc, List.append_assoc])
          clear hz4 ht
          generalize packB bs j = z at *
          have hln : ([n % 256, n / 256] ++ packs bs j).length = 2 + j := by rw [List.length_append, packs_len]; rfl
          generalize [n % 256, n / 256] ++ packs bs j = row at *
          have hj3 : j ≤ 1000 := by have := HKJ.out; omega
          have hsz := HO.out.2.size
          have HW := Lib.hid (fun (z : Int) t f => World.ownsRow.alloc HO.out.1 (.cells #[.int .u8 z] t f))
          go_wp2_with (refine app_bytes (.tmp 43) (.tmp 46) rfl rfl w.heap.size _ _ _ rfl (HW.out _ _ _) _ _ 1 1 [z] rfl (Bytes.new wr [z] _ _ (by intro x hx; simp at hx; subst hx; exact hh)) (by rw [hln]; omega) (by simp; omega) ?_
                       intro v5 w5 h5 g5 a5
                       have HV := Lib.hid (HO.out.one h5 g5)
                       clear h5 g5)
          exact ⟨⟨j + 1, k + 4, by have := HKJ.out; omega, by omega, by go_num, by rw [HS.out]; exact HV.out⟩, by simp only [intOf]; omega⟩
    · obtain rfl : j = (n + 3) / 4 := by have := HKJ.out; omega
      have HR : Hid ([n % 256, n / 256] ++ packs bs ((n + 3) / 4) = putM bs) := Lib.hid (by unfold putM; rw [hl])
      go_wp2
      go_ret
      exact ⟨_, rfl, by rw [← HR.out]; exact HO.out⟩
end Go.Proofs.Ytldnghmgdmjljaa
