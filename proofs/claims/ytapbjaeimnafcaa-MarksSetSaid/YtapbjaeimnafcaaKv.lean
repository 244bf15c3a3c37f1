/-
  The law MarksSet, walked: it returns true and changes nothing that was there. No condition.
-/
import Derived.Test.YtapbjaeimnafcaaKo
import Derived.Test.YtapbjaeimnafcaaKi
namespace Go.Proofs.Ytapbjaeimnafcaa
open Go.RowKit
set_option linter.unusedSimpArgs false
set_option maxRecDepth 100000
set_option linter.unusedVariables false
theorem new_blk (k : Nat) (hk : k ≤ 256) (w : World) : Calls Try.prog 22 #[.int .i64 k] w fun e w' => e = .returned (.tuple #[.slice (some ⟨w.heap.size, 0, none⟩) k k, .nilIface]) ∧ Blk w' w.heap.size 5 (u8s (List.replicate k 0)).toArray ∧ Below w.heap.size w w' := by
  refine (new_ok k hk w).mono ?_
  rintro e w' ⟨rfl, rfl⟩
  exact ⟨rfl, Blk.new _ _ _, below_alloc _ _⟩
theorem zeros_lt (k : Nat) : ∀ b ∈ List.replicate k 0, b < 256 := fun b hb => by rw [List.eq_of_mem_replicate hb]; omega
theorem sized_lt {bs : List Nat} (h : ∀ b ∈ bs, b < 256) (k : Nat) : ∀ b ∈ sizedM bs k, b < 256 := fun b hb => by
  obtain ⟨i, _, rfl⟩ := List.mem_map.1 hb
  exact mk_lt h i
theorem set_lt {bs : List Nat} (h : ∀ b ∈ bs, b < 256) (i x : Nat) (hx : x < 256) : ∀ b ∈ bs.set i x, b < 256 := fun b hb => by
  rcases List.mem_or_eq_of_mem_set hb with hb | rfl
  · exact h b hb
  · exact hx
set_option maxHeartbeats 1000000 in
theorem set_yy (A : Option Addr) (n c : Nat) (bs : List Nat) (m0 : n ≤ c ∧ c ≤ 9223372036854775807) {w : World} (hb : Bytes w w.heap.size A n bs) (i : Int) (x : Nat) (hx : x < 256) (hn : n ≤ 2000) (hi : 0 ≤ i) (hin : i < n) (hx3 : x ≤ 3) (hz : i ≤ 256) :
    Calls Try.prog 5 #[.slice A n c, .int .i64 i, .int .u8 (x : Int)] w fun e w' => e = .returned (.bool true) ∧ Below w.heap.size w w' := by
  have HB := Lib.hid hb
  have hl := hb.len
  clear hb
  go_enter Try.func5, Try.ntmps5
  go_wp2_with fail
  refine (alive_any w).mono ?_
  rintro e w1 ⟨rfl, b1⟩
  have B1 := Lib.hid b1
  clear b1
  have hd : decide ((2000 : Int) < (n : Int)) = false := decide_eq_false (by omega)
  go_wp2_with fail
  refine (copy_any A n c bs w1 (by omega) ((HB.out.since B1.out).more B1.out.size)).mono ?_
  rintro e w2 ⟨gc, cap, rfl, hcap, hgc, hown, b2⟩
  have hgc2 : gc < w2.heap.size := hown.hi gc (by simp [Value.ownBlock])
  have B2 := Lib.hid (B1.out.trans (b2.mono B1.out.size))
  have HO2 := Lib.hid hown
  have HM := Lib.hid (mine_bytes hown HB.out)
  have hb12 := B1.out.size
  clear hown b2
  obtain ⟨k, rfl⟩ : ∃ k : Nat, i = (k : Int) := ⟨i.toNat, by omega⟩
  have hd0 : decide ((k : Int) < 0) = false := decide_eq_false (by omega)
  have hd1 : decide ((n : Int) ≤ (k : Int)) = false := decide_eq_false (by omega)
  have hd2 : decide ((3 : Int) < (x : Int)) = false := decide_eq_false (by omega)
  have hd3 : decide ((256 : Int) < (k : Int)) = false := decide_eq_false (by omega)
  have HST := Lib.hid (set_ok (some ⟨gc, 0, none⟩) n cap k x bs w2 (by omega) HM.out (by omega) (by omega))
  go_wp2_with fail
  refine HST.out.mono ?_
  rintro e w3 ⟨rfl, k3, b3⟩
  have h23 : w2.heap.size < w3.heap.size := k3.lt
  have B3 := Lib.hid (B2.out.trans (b3.mono B2.out.size))
  have HO3 := Lib.hid (HO2.out.below b3)
  have HM3 := Lib.hid ((HM.out.since b3).more b3.size)
  have HX3 := Lib.hid (Own.of_blk (base := w2.heap.size) (n := n) k3 (by simp [hl]) (Nat.le_refl _) (by omega))
  clear k3 b3 HST HO2 HM
  go_wp2_with fail
  refine (sized_ok (some ⟨gc, 0, none⟩) n cap k bs w3 (by omega) HM3.out).mono ?_
  rintro e w4 ⟨rfl, k4, b4⟩
  have h34 : w3.heap.size < w4.heap.size := k4.lt
  have B4 := Lib.hid (B3.out.trans (b4.mono B3.out.size))
  have HO4 := Lib.hid (HO3.out.below b4)
  have HX4 := Lib.hid (HX3.out.below b4)
  have HY4 := Lib.hid (Own.of_blk (base := w3.heap.size) (n := k) k4 (sizedM_len bs k) (Nat.le_refl _) (by omega))
  clear k4 b4 HO3 HM3 HX3
  go_wp2_with fail
  refine (new_blk k (by omega) w4).mono ?_
  rintro e w5 ⟨rfl, k5, b5⟩
  have h45 : w4.heap.size < w5.heap.size := k5.lt
  have B5 := Lib.hid (B4.out.trans (b5.mono B4.out.size))
  have HO5 := Lib.hid (HO4.out.below b5)
  have HX5 := Lib.hid (HX4.out.below b5)
  have HY5 := Lib.hid (HY4.out.below b5)
  have HZ5 := Lib.hid (Own.of_blk (base := w4.heap.size) (n := k) k5 (by simp) (Nat.le_refl _) (by omega))
  clear k5 b5 HO4 HX4 HY4
  go_wp2_with fail
  refine (kept_any A n c gc cap w1.heap.size bs w5 (by omega) hcap ((HB.out.since B5.out).more B1.out.size) HO5.out).mono ?_
  rintro e w6 ⟨rfl, b6⟩
  have B6 := Lib.hid (B5.out.trans (b6.mono B5.out.size))
  have HO6 := Lib.hid (HO5.out.below b6)
  have HX6 := Lib.hid (HX5.out.below b6)
  have HY6 := Lib.hid (HY5.out.below b6)
  have HZ6 := Lib.hid (HZ5.out.below b6)
  clear b6 HO5 HX5 HY5 HZ5
  go_wp2_with (refine app_bytes (.tmp 64) (.tmp 65) rfl rfl w6.heap.size _ 0 [] rfl (Own.new w6 _ (Nat.le_refl _)) _ A n c bs rfl ((HB.out.since B6.out).since (below_alloc w6 _)) (by omega) (by simp) ?_
               intro v7 w7 h7 g7 a7
               have hb67 : Below w6.heap.size w6 w7 := below_own (below_alloc w6 _) (Own.new w6 _ (Nat.le_refl _)) (Nat.le_refl _) g7 (by simp)
               have h7' : Own w7 w6.heap.size v7 n bs := by simpa using h7
               clear h7 g7 a7
               obtain ⟨A7, cap7, rfl, hcap7, hmax7, hA7⟩ := h7'.form
               unfold maxLen at hmax7
               obtain ⟨g7, rfl, hg71, hg72⟩ : ∃ g, A7 = some ⟨g, 0, none⟩ ∧ w6.heap.size ≤ g ∧ g < w7.heap.size := hA7.resolve_left (by omega)
               have hc7 := h7'.cell (j := k) (List.getElem?_eq_getElem (by omega))
               have hf7 := h7'.frozen k
               have hs7 := h7'.stored k x
               have HE := Lib.hid (And.intro (hs7) (hb67.setCell (p := ⟨g7, k, none⟩) hg71 (.int .u8 (x : Int))))
               generalize (bs[k]'(by omega) : Nat) = ob at *
               clear hA7 hs7 hb67 h7')
  generalize w7.setCell ⟨g7, k, none⟩ (.int .u8 (x : Int)) = w8 at *
  have B8 := Lib.hid (B6.out.trans (HE.out.2.mono B6.out.size))
  have HX8 := Lib.hid (HX6.out.below HE.out.2)
  have HSx := Lib.hid (same_iff (some ⟨w2.heap.size, 0, none⟩) (some ⟨g7, 0, none⟩) n n n cap7 _ _ (bs.set k x) (bs.set k x) w8 (HX8.out.bytes (set_lt HB.out.2 k x hx)) (HE.out.1.bytes (set_lt HB.out.2 k x hx)))
  rw [show (bs.set k x == bs.set k x) = true by simp] at HSx
  go_wp2_with fail
  refine HSx.out.mono ?_
  rintro e w9 ⟨he, hw⟩
  subst he
  subst hw
  have HO8 := Lib.hid (HO6.out.below HE.out.2)
  have HY8 := Lib.hid (HY6.out.below HE.out.2)
  have HZ8 := Lib.hid (HZ6.out.below HE.out.2)
  have hmk := make_b k (by omega)
  have HDS := Lib.hid (dsized_any A n c k bs w8 (by omega) ((HB.out.since B8.out).more B8.out.size) HB.out.2)
  go_wp2_with fail
  refine HDS.out.mono ?_
  rintro e wa ⟨va, rfl, hoa, ba⟩
  obtain ⟨Aa, ca, rfl, -⟩ := hoa.form
  have BA := Lib.hid (B8.out.trans (ba.mono B8.out.size))
  have HOA := Lib.hid (HO8.out.below ba)
  have HXA := Lib.hid (HX8.out.below ba)
  have HYA := Lib.hid (HY8.out.below ba)
  have HZA := Lib.hid (HZ8.out.below ba)
  have HSy := Lib.hid (same_iff (some ⟨w3.heap.size, 0, none⟩) Aa k (sizedM bs k).length k ca _ _ (sizedM bs k) (sizedM bs k) wa (HYA.out.bytes (sized_lt HB.out.2 k)) (hoa.bytes (sized_lt HB.out.2 k)))
  rw [show (sizedM bs k == sizedM bs k) = true by simp] at HSy
  clear hoa ba HDS
  go_wp2_with fail
  refine HSy.out.mono ?_
  rintro e wb ⟨he, hw⟩
  subst he
  subst hw
  have bb := below_alloc wa (.cells (u8s (List.replicate k 0)).toArray 5)
  have kb := Blk.new wa 5 (u8s (List.replicate k 0)).toArray
  have HSz := Lib.hid (same_iff (some ⟨w4.heap.size, 0, none⟩) (some ⟨wa.heap.size, 0, none⟩) k k k k _ _ (List.replicate k 0) (List.replicate k 0) _ ((HZA.out.below bb).bytes (zeros_lt k)) (kb.bytes (by simp) (zeros_lt k)))
  rw [show (List.replicate k 0 == List.replicate k 0) = true by simp] at HSz
  have HKB := Lib.hid (And.intro bb kb)
  clear bb kb
  go_wp2_with fail
  refine HSz.out.mono ?_
  rintro e wc ⟨he, hw⟩
  subst he
  subst hw
  generalize wa.alloc (.cells (u8s (List.replicate k 0)).toArray 5) = wb at *
  have BB := Lib.hid (BA.out.trans (HKB.out.1.mono BA.out.size))
  have HOB := HOA.out.below HKB.out.1
  have HXB := HXA.out.below HKB.out.1
  have HYB := HYA.out.below HKB.out.1
  have HZB := HZA.out.below HKB.out.1
  have hb2 := B2.out.size
  have HR : Hid (Rowed wb w.heap.size (fun i => if i = 0 then .slice (some ⟨gc, 0, none⟩) n cap else if i = 1 then .slice (some ⟨w2.heap.size, 0, none⟩) n n else if i = 2 then .slice (some ⟨w3.heap.size, 0, none⟩) k k else .slice (some ⟨w4.heap.size, 0, none⟩) k k) (fun i => if i = 0 then n else if i = 1 then n else if i = 2 then k else k) 4) := Lib.hid (rowed_four ((mine_own HOB hl).weaken (by omega)) (HXB.weaken (by omega)) (HYB.weaken (by omega)) (HZB.weaken (by omega))
    (apart_by (k := w2.heap.size) (fun b hb => by simp [Value.ownBlock] at hb; omega) (fun b hb => by simp [Value.ownBlock] at hb <;> omega))
    (apart_by (k := w2.heap.size) (fun b hb => by simp [Value.ownBlock] at hb; omega) (fun b hb => by simp [Value.ownBlock] at hb; omega))
    (apart_by (k := w2.heap.size) (fun b hb => by simp [Value.ownBlock] at hb; omega) (fun b hb => by simp [Value.ownBlock] at hb; omega))
    (apart_by (k := w3.heap.size) (fun b hb => by simp [Value.ownBlock] at hb <;> omega) (fun b hb => by simp [Value.ownBlock] at hb; omega))
    (apart_by (k := w3.heap.size) (fun b hb => by simp [Value.ownBlock] at hb <;> omega) (fun b hb => by simp [Value.ownBlock] at hb; omega))
    (apart_by (k := w3.heap.size + 1) (fun b hb => by simp [Value.ownBlock] at hb; omega) (fun b hb => by simp [Value.ownBlock] at hb; omega)))
  have HAP := Lib.hid (apart_list HR.out (by omega) (by intro i hi; (repeat' split) <;> omega) BB.out.size _ (hdr_four _ _ _ _))
  clear HOB HXB HYB HZB
  go_wp2_with fail
  refine (HAP.out _ _).mono ?_
  rintro e wd ⟨rfl, bd⟩
  have BD := Lib.hid (BB.out.trans bd)
  clear bd
  go_wp2
  go_ret
  exact ⟨rfl, BD.out⟩
set_option maxHeartbeats 1000000 in
theorem set_yn (A : Option Addr) (n c : Nat) (bs : List Nat) (m0 : n ≤ c ∧ c ≤ 9223372036854775807) {w : World} (hb : Bytes w w.heap.size A n bs) (i : Int) (x : Nat) (hx : x < 256) (hn : n ≤ 2000) (hi : 0 ≤ i) (hin : i < n) (hx3 : x ≤ 3) (hz : 256 < i) :
    Calls Try.prog 5 #[.slice A n c, .int .i64 i, .int .u8 (x : Int)] w fun e w' => e = .returned (.bool true) ∧ Below w.heap.size w w' := by
  have HB := Lib.hid hb
  have hl := hb.len
  clear hb
  go_enter Try.func5, Try.ntmps5
  go_wp2_with fail
  refine (alive_any w).mono ?_
  rintro e w1 ⟨rfl, b1⟩
  have B1 := Lib.hid b1
  clear b1
  have hd : decide ((2000 : Int) < (n : Int)) = false := decide_eq_false (by omega)
  go_wp2_with fail
  refine (copy_any A n c bs w1 (by omega) ((HB.out.since B1.out).more B1.out.size)).mono ?_
  rintro e w2 ⟨gc, cap, rfl, hcap, hgc, hown, b2⟩
  have hgc2 : gc < w2.heap.size := hown.hi gc (by simp [Value.ownBlock])
  have B2 := Lib.hid (B1.out.trans (b2.mono B1.out.size))
  have HO2 := Lib.hid hown
  have HM := Lib.hid (mine_bytes hown HB.out)
  have hb12 := B1.out.size
  clear hown b2
  obtain ⟨k, rfl⟩ : ∃ k : Nat, i = (k : Int) := ⟨i.toNat, by omega⟩
  have hd0 : decide ((k : Int) < 0) = false := decide_eq_false (by omega)
  have hd1 : decide ((n : Int) ≤ (k : Int)) = false := decide_eq_false (by omega)
  have hd2 : decide ((3 : Int) < (x : Int)) = false := decide_eq_false (by omega)
  have hd3 : decide ((256 : Int) < (k : Int)) = true := decide_eq_true (by omega)
  have HST := Lib.hid (set_ok (some ⟨gc, 0, none⟩) n cap k x bs w2 (by omega) HM.out (by omega) (by omega))
  go_wp2_with fail
  refine HST.out.mono ?_
  rintro e w3 ⟨rfl, k3, b3⟩
  have h23 : w2.heap.size < w3.heap.size := k3.lt
  have B3 := Lib.hid (B2.out.trans (b3.mono B2.out.size))
  have HO3 := Lib.hid (HO2.out.below b3)
  have HM3 := Lib.hid ((HM.out.since b3).more b3.size)
  have HX3 := Lib.hid (Own.of_blk (base := w2.heap.size) (n := n) k3 (by simp [hl]) (Nat.le_refl _) (by omega))
  clear k3 b3 HST HO2 HM
  have HSZ := Lib.hid (sized_bad (some ⟨gc, 0, none⟩) n cap (k : Int) w3 (by omega))
  simp only [errV] at HSZ
  go_wp2_with fail
  refine HSZ.out.mono ?_
  rintro e w4 ⟨he, hw⟩
  subst he
  subst hw
  have HNW := Lib.hid (new_bad (k : Int) (by omega) w3)
  simp only [errV] at HNW
  go_wp2_with fail
  refine HNW.out.mono ?_
  rintro e w5 ⟨he, hw⟩
  subst he
  subst hw
  clear HSZ HNW
  go_wp2_with fail
  refine (kept_any A n c gc cap w1.heap.size bs w3 (by omega) hcap ((HB.out.since B3.out).more B1.out.size) HO3.out).mono ?_
  rintro e w6 ⟨rfl, b6⟩
  have B6 := Lib.hid (B3.out.trans (b6.mono B3.out.size))
  have HX6 := Lib.hid (HX3.out.below b6)
  clear b6 HX3
  go_wp2_with (refine app_bytes (.tmp 64) (.tmp 65) rfl rfl w6.heap.size _ 0 [] rfl (Own.new w6 _ (Nat.le_refl _)) _ A n c bs rfl ((HB.out.since B6.out).since (below_alloc w6 _)) (by omega) (by simp) ?_
               intro v7 w7 h7 g7 a7
               have hb67 : Below w6.heap.size w6 w7 := below_own (below_alloc w6 _) (Own.new w6 _ (Nat.le_refl _)) (Nat.le_refl _) g7 (by simp)
               have h7' : Own w7 w6.heap.size v7 n bs := by simpa using h7
               clear h7 g7 a7
               obtain ⟨A7, cap7, rfl, hcap7, hmax7, hA7⟩ := h7'.form
               unfold maxLen at hmax7
               obtain ⟨g7, rfl, hg71, hg72⟩ : ∃ g, A7 = some ⟨g, 0, none⟩ ∧ w6.heap.size ≤ g ∧ g < w7.heap.size := hA7.resolve_left (by omega)
               have hc7 := h7'.cell (j := k) (List.getElem?_eq_getElem (by omega))
               have hf7 := h7'.frozen k
               have hs7 := h7'.stored k x
               have HE := Lib.hid (And.intro (hs7) (hb67.setCell (p := ⟨g7, k, none⟩) hg71 (.int .u8 (x : Int))))
               generalize (bs[k]'(by omega) : Nat) = ob at *
               clear hA7 hs7 hb67 h7')
  generalize w7.setCell ⟨g7, k, none⟩ (.int .u8 (x : Int)) = w8 at *
  have B8 := Lib.hid (B6.out.trans (HE.out.2.mono B6.out.size))
  have HX8 := Lib.hid (HX6.out.below HE.out.2)
  have HSx := Lib.hid (same_iff (some ⟨w2.heap.size, 0, none⟩) (some ⟨g7, 0, none⟩) n n n cap7 _ _ (bs.set k x) (bs.set k x) w8 (HX8.out.bytes (set_lt HB.out.2 k x hx)) (HE.out.1.bytes (set_lt HB.out.2 k x hx)))
  rw [show (bs.set k x == bs.set k x) = true by simp] at HSx
  go_wp2_with fail
  refine HSx.out.mono ?_
  rintro e w9 ⟨he, hw⟩
  subst he
  subst hw
  have HI1 := Lib.hid (is_any 1 1 w8)
  simp only [errV] at HI1
  go_wp2_with fail
  refine HI1.out.mono ?_
  rintro e w9 ⟨he, hw⟩
  subst he
  subst hw
  go_wp2_with fail
  refine HI1.out.mono ?_
  rintro e w9 ⟨he, hw⟩
  subst he
  subst hw
  go_wp2
  go_ret
  exact ⟨rfl, B8.out⟩
set_option maxHeartbeats 1000000 in
theorem set_neg (A : Option Addr) (n c : Nat) (bs : List Nat) (m0 : n ≤ c ∧ c ≤ 9223372036854775807) {w : World} (hb : Bytes w w.heap.size A n bs) (i : Int) (x : Nat) (hx : x < 256) (hn : n ≤ 2000) (hi : i < 0) :
    Calls Try.prog 5 #[.slice A n c, .int .i64 i, .int .u8 (x : Int)] w fun e w' => e = .returned (.bool true) ∧ Below w.heap.size w w' := by
  have HB := Lib.hid hb
  have hl := hb.len
  clear hb
  go_enter Try.func5, Try.ntmps5
  go_wp2_with fail
  refine (alive_any w).mono ?_
  rintro e w1 ⟨rfl, b1⟩
  have B1 := Lib.hid b1
  clear b1
  have hd : decide ((2000 : Int) < (n : Int)) = false := decide_eq_false (by omega)
  go_wp2_with fail
  refine (copy_any A n c bs w1 (by omega) ((HB.out.since B1.out).more B1.out.size)).mono ?_
  rintro e w2 ⟨gc, cap, rfl, hcap, hgc, hown, b2⟩
  have hgc2 : gc < w2.heap.size := hown.hi gc (by simp [Value.ownBlock])
  have B2 := Lib.hid (B1.out.trans (b2.mono B1.out.size))
  have HO2 := Lib.hid hown
  have HM := Lib.hid (mine_bytes hown HB.out)
  have hb12 := B1.out.size
  clear hown b2
  have hd0 : decide (i < 0) = true := decide_eq_true (by omega)
  have HST := Lib.hid (set_bad (some ⟨gc, 0, none⟩) n cap i x w2 (.inl hi))
  simp only [errV] at HST
  go_wp2_with fail
  refine HST.out.mono ?_
  rintro e w3 ⟨he, hw⟩
  subst he
  subst hw
  have h22 : w2.heap.size ≤ w2.heap.size := Nat.le_refl _
  have HX3 := Lib.hid (Own.nil w2 w2.heap.size)
  clear HST
  have HSZ := Lib.hid (sized_bad (some ⟨gc, 0, none⟩) n cap i w2 (by omega))
  simp only [errV] at HSZ
  go_wp2_with fail
  refine HSZ.out.mono ?_
  rintro e w4 ⟨he, hw⟩
  subst he
  subst hw
  have HNW := Lib.hid (new_bad i (by omega) w2)
  simp only [errV] at HNW
  go_wp2_with fail
  refine HNW.out.mono ?_
  rintro e w5 ⟨he, hw⟩
  subst he
  subst hw
  clear HSZ HNW
  go_wp2_with fail
  refine (kept_any A n c gc cap w1.heap.size bs w2 (by omega) hcap ((HB.out.since B2.out).more B1.out.size) HO2.out).mono ?_
  rintro e w6 ⟨rfl, b6⟩
  have B6 := Lib.hid (B2.out.trans (b6.mono B2.out.size))
  have HX6 := Lib.hid (HX3.out.below b6)
  clear b6 HX3
  have HI := Lib.hid (is_any 1 1 w6)
  simp only [errV] at HI
  go_wp2_with fail
  refine HI.out.mono ?_
  rintro e w9 ⟨he, hw⟩
  subst he
  subst hw
  have HI1 := Lib.hid (is_any 1 1 w6)
  simp only [errV] at HI1
  go_wp2_with fail
  refine HI1.out.mono ?_
  rintro e w9 ⟨he, hw⟩
  subst he
  subst hw
  go_wp2_with fail
  refine HI1.out.mono ?_
  rintro e w9 ⟨he, hw⟩
  subst he
  subst hw
  go_wp2
  go_ret
  exact ⟨rfl, B6.out⟩
set_option maxHeartbeats 1000000 in
theorem set_far_y (A : Option Addr) (n c : Nat) (bs : List Nat) (m0 : n ≤ c ∧ c ≤ 9223372036854775807) {w : World} (hb : Bytes w w.heap.size A n bs) (i : Int) (x : Nat) (hx : x < 256) (hn : n ≤ 2000) (hi : 0 ≤ i) (hin : (n : Int) ≤ i) (hz : i ≤ 256) :
    Calls Try.prog 5 #[.slice A n c, .int .i64 i, .int .u8 (x : Int)] w fun e w' => e = .returned (.bool true) ∧ Below w.heap.size w w' := by
  have HB := Lib.hid hb
  have hl := hb.len
  clear hb
  go_enter Try.func5, Try.ntmps5
  go_wp2_with fail
  refine (alive_any w).mono ?_
  rintro e w1 ⟨rfl, b1⟩
  have B1 := Lib.hid b1
  clear b1
  have hd : decide ((2000 : Int) < (n : Int)) = false := decide_eq_false (by omega)
  go_wp2_with fail
  refine (copy_any A n c bs w1 (by omega) ((HB.out.since B1.out).more B1.out.size)).mono ?_
  rintro e w2 ⟨gc, cap, rfl, hcap, hgc, hown, b2⟩
  have hgc2 : gc < w2.heap.size := hown.hi gc (by simp [Value.ownBlock])
  have B2 := Lib.hid (B1.out.trans (b2.mono B1.out.size))
  have HO2 := Lib.hid hown
  have HM := Lib.hid (mine_bytes hown HB.out)
  have hb12 := B1.out.size
  clear hown b2
  obtain ⟨k, rfl⟩ : ∃ k : Nat, i = (k : Int) := ⟨i.toNat, by omega⟩
  have hd0 : decide ((k : Int) < 0) = false := decide_eq_false (by omega)
  have hd1 : decide ((n : Int) ≤ (k : Int)) = true := decide_eq_true (by omega)
  have hd3 : decide ((256 : Int) < (k : Int)) = false := decide_eq_false (by omega)
  have HST := Lib.hid (set_bad (some ⟨gc, 0, none⟩) n cap (k : Int) x w2 (.inr (.inl hin)))
  simp only [errV] at HST
  go_wp2_with fail
  refine HST.out.mono ?_
  rintro e w3 ⟨he, hw⟩
  subst he
  subst hw
  have h22 : w2.heap.size ≤ w2.heap.size := Nat.le_refl _
  have HX3 := Lib.hid (Own.nil w2 w2.heap.size)
  clear HST
  go_wp2_with fail
  refine (sized_ok (some ⟨gc, 0, none⟩) n cap k bs w2 (by omega) HM.out).mono ?_
  rintro e w4 ⟨rfl, k4, b4⟩
  have h34 : w2.heap.size < w4.heap.size := k4.lt
  have B4 := Lib.hid (B2.out.trans (b4.mono B2.out.size))
  have HO4 := Lib.hid (HO2.out.below b4)
  have HX4 := Lib.hid (HX3.out.below b4)
  have HY4 := Lib.hid (Own.of_blk (base := w2.heap.size) (n := k) k4 (sizedM_len bs k) (Nat.le_refl _) (by omega))
  clear k4 b4 HO2 HM HX3
  go_wp2_with fail
  refine (new_blk k (by omega) w4).mono ?_
  rintro e w5 ⟨rfl, k5, b5⟩
  have h45 : w4.heap.size < w5.heap.size := k5.lt
  have B5 := Lib.hid (B4.out.trans (b5.mono B4.out.size))
  have HO5 := Lib.hid (HO4.out.below b5)
  have HX5 := Lib.hid (HX4.out.below b5)
  have HY5 := Lib.hid (HY4.out.below b5)
  have HZ5 := Lib.hid (Own.of_blk (base := w4.heap.size) (n := k) k5 (by simp) (Nat.le_refl _) (by omega))
  clear k5 b5 HO4 HX4 HY4
  go_wp2_with fail
  refine (kept_any A n c gc cap w1.heap.size bs w5 (by omega) hcap ((HB.out.since B5.out).more B1.out.size) HO5.out).mono ?_
  rintro e w6 ⟨rfl, b6⟩
  have B6 := Lib.hid (B5.out.trans (b6.mono B5.out.size))
  have HO6 := Lib.hid (HO5.out.below b6)
  have HX6 := Lib.hid (HX5.out.below b6)
  have HY6 := Lib.hid (HY5.out.below b6)
  have HZ6 := Lib.hid (HZ5.out.below b6)
  clear b6 HO5 HX5 HY5 HZ5
  have HI := Lib.hid (is_any 1 1 w6)
  simp only [errV] at HI
  go_wp2_with fail
  refine HI.out.mono ?_
  rintro e w9 ⟨he, hw⟩
  subst he
  subst hw
  have hmk := make_b k (by omega)
  have HDS := Lib.hid (dsized_any A n c k bs w6 (by omega) ((HB.out.since B6.out).more B6.out.size) HB.out.2)
  go_wp2_with fail
  refine HDS.out.mono ?_
  rintro e wa ⟨va, rfl, hoa, ba⟩
  obtain ⟨Aa, ca, rfl, -⟩ := hoa.form
  have BA := Lib.hid (B6.out.trans (ba.mono B6.out.size))
  have HOA := Lib.hid (HO6.out.below ba)
  have HXA := Lib.hid (HX6.out.below ba)
  have HYA := Lib.hid (HY6.out.below ba)
  have HZA := Lib.hid (HZ6.out.below ba)
  have HSy := Lib.hid (same_iff (some ⟨w2.heap.size, 0, none⟩) Aa k (sizedM bs k).length k ca _ _ (sizedM bs k) (sizedM bs k) wa (HYA.out.bytes (sized_lt HB.out.2 k)) (hoa.bytes (sized_lt HB.out.2 k)))
  rw [show (sizedM bs k == sizedM bs k) = true by simp] at HSy
  clear hoa ba HDS
  go_wp2_with fail
  refine HSy.out.mono ?_
  rintro e wb ⟨he, hw⟩
  subst he
  subst hw
  have bb := below_alloc wa (.cells (u8s (List.replicate k 0)).toArray 5)
  have kb := Blk.new wa 5 (u8s (List.replicate k 0)).toArray
  have HSz := Lib.hid (same_iff (some ⟨w4.heap.size, 0, none⟩) (some ⟨wa.heap.size, 0, none⟩) k k k k _ _ (List.replicate k 0) (List.replicate k 0) _ ((HZA.out.below bb).bytes (zeros_lt k)) (kb.bytes (by simp) (zeros_lt k)))
  rw [show (List.replicate k 0 == List.replicate k 0) = true by simp] at HSz
  have HKB := Lib.hid (And.intro bb kb)
  clear bb kb
  go_wp2_with fail
  refine HSz.out.mono ?_
  rintro e wc ⟨he, hw⟩
  subst he
  subst hw
  generalize wa.alloc (.cells (u8s (List.replicate k 0)).toArray 5) = wb at *
  have BB := Lib.hid (BA.out.trans (HKB.out.1.mono BA.out.size))
  have HOB := HOA.out.below HKB.out.1
  have HXB := HXA.out.below HKB.out.1
  have HYB := HYA.out.below HKB.out.1
  have HZB := HZA.out.below HKB.out.1
  have hb2 := B2.out.size
  have HR : Hid (Rowed wb w.heap.size (fun i => if i = 0 then .slice (some ⟨gc, 0, none⟩) n cap else if i = 1 then .slice none 0 0 else if i = 2 then .slice (some ⟨w2.heap.size, 0, none⟩) k k else .slice (some ⟨w4.heap.size, 0, none⟩) k k) (fun i => if i = 0 then n else if i = 1 then 0 else if i = 2 then k else k) 4) := Lib.hid (rowed_four ((mine_own HOB hl).weaken (by omega)) (HXB.weaken (by omega)) (HYB.weaken (by omega)) (HZB.weaken (by omega))
    (apart_by (k := w2.heap.size) (fun b hb => by simp [Value.ownBlock] at hb; omega) (fun b hb => by simp [Value.ownBlock] at hb <;> omega))
    (apart_by (k := w2.heap.size) (fun b hb => by simp [Value.ownBlock] at hb; omega) (fun b hb => by simp [Value.ownBlock] at hb; omega))
    (apart_by (k := w2.heap.size) (fun b hb => by simp [Value.ownBlock] at hb; omega) (fun b hb => by simp [Value.ownBlock] at hb; omega))
    (apart_by (k := w2.heap.size) (fun b hb => by simp [Value.ownBlock] at hb <;> omega) (fun b hb => by simp [Value.ownBlock] at hb; omega))
    (apart_by (k := w2.heap.size) (fun b hb => by simp [Value.ownBlock] at hb <;> omega) (fun b hb => by simp [Value.ownBlock] at hb; omega))
    (apart_by (k := w2.heap.size + 1) (fun b hb => by simp [Value.ownBlock] at hb; omega) (fun b hb => by simp [Value.ownBlock] at hb; omega)))
  have HAP := Lib.hid (apart_list HR.out (by omega) (by intro i hi; (repeat' split) <;> omega) BB.out.size _ (hdr_four _ _ _ _))
  clear HOB HXB HYB HZB
  go_wp2_with fail
  refine (HAP.out _ _).mono ?_
  rintro e wd ⟨rfl, bd⟩
  have BD := Lib.hid (BB.out.trans bd)
  clear bd
  go_wp2
  go_ret
  exact ⟨rfl, BD.out⟩
set_option maxHeartbeats 1000000 in
theorem set_far_n (A : Option Addr) (n c : Nat) (bs : List Nat) (m0 : n ≤ c ∧ c ≤ 9223372036854775807) {w : World} (hb : Bytes w w.heap.size A n bs) (i : Int) (x : Nat) (hx : x < 256) (hn : n ≤ 2000) (hi : 0 ≤ i) (hin : (n : Int) ≤ i) (hz : 256 < i) :
    Calls Try.prog 5 #[.slice A n c, .int .i64 i, .int .u8 (x : Int)] w fun e w' => e = .returned (.bool true) ∧ Below w.heap.size w w' := by
  have HB := Lib.hid hb
  have hl := hb.len
  clear hb
  go_enter Try.func5, Try.ntmps5
  go_wp2_with fail
  refine (alive_any w).mono ?_
  rintro e w1 ⟨rfl, b1⟩
  have B1 := Lib.hid b1
  clear b1
  have hd : decide ((2000 : Int) < (n : Int)) = false := decide_eq_false (by omega)
  go_wp2_with fail
  refine (copy_any A n c bs w1 (by omega) ((HB.out.since B1.out).more B1.out.size)).mono ?_
  rintro e w2 ⟨gc, cap, rfl, hcap, hgc, hown, b2⟩
  have hgc2 : gc < w2.heap.size := hown.hi gc (by simp [Value.ownBlock])
  have B2 := Lib.hid (B1.out.trans (b2.mono B1.out.size))
  have HO2 := Lib.hid hown
  have HM := Lib.hid (mine_bytes hown HB.out)
  have hb12 := B1.out.size
  clear hown b2
  obtain ⟨k, rfl⟩ : ∃ k : Nat, i = (k : Int) := ⟨i.toNat, by omega⟩
  have hd0 : decide ((k : Int) < 0) = false := decide_eq_false (by omega)
  have hd1 : decide ((n : Int) ≤ (k : Int)) = true := decide_eq_true (by omega)
  have hd3 : decide ((256 : Int) < (k : Int)) = true := decide_eq_true (by omega)
  have HST := Lib.hid (set_bad (some ⟨gc, 0, none⟩) n cap (k : Int) x w2 (.inr (.inl hin)))
  simp only [errV] at HST
  go_wp2_with fail
  refine HST.out.mono ?_
  rintro e w3 ⟨he, hw⟩
  subst he
  subst hw
  have h22 : w2.heap.size ≤ w2.heap.size := Nat.le_refl _
  have HX3 := Lib.hid (Own.nil w2 w2.heap.size)
  clear HST
  have HSZ := Lib.hid (sized_bad (some ⟨gc, 0, none⟩) n cap (k : Int) w2 (by omega))
  simp only [errV] at HSZ
  go_wp2_with fail
  refine HSZ.out.mono ?_
  rintro e w4 ⟨he, hw⟩
  subst he
  subst hw
  have HNW := Lib.hid (new_bad (k : Int) (by omega) w2)
  simp only [errV] at HNW
  go_wp2_with fail
  refine HNW.out.mono ?_
  rintro e w5 ⟨he, hw⟩
  subst he
  subst hw
  clear HSZ HNW
  go_wp2_with fail
  refine (kept_any A n c gc cap w1.heap.size bs w2 (by omega) hcap ((HB.out.since B2.out).more B1.out.size) HO2.out).mono ?_
  rintro e w6 ⟨rfl, b6⟩
  have B6 := Lib.hid (B2.out.trans (b6.mono B2.out.size))
  have HX6 := Lib.hid (HX3.out.below b6)
  clear b6 HX3
  have HI := Lib.hid (is_any 1 1 w6)
  simp only [errV] at HI
  go_wp2_with fail
  refine HI.out.mono ?_
  rintro e w9 ⟨he, hw⟩
  subst he
  subst hw
  have HI1 := Lib.hid (is_any 1 1 w6)
  simp only [errV] at HI1
  go_wp2_with fail
  refine HI1.out.mono ?_
  rintro e w9 ⟨he, hw⟩
  subst he
  subst hw
  go_wp2_with fail
  refine HI1.out.mono ?_
  rintro e w9 ⟨he, hw⟩
  subst he
  subst hw
  go_wp2
  go_ret
  exact ⟨rfl, B6.out⟩
set_option maxHeartbeats 1000000 in
theorem set_odd_y (A : Option Addr) (n c : Nat) (bs : List Nat) (m0 : n ≤ c ∧ c ≤ 9223372036854775807) {w : World} (hb : Bytes w w.heap.size A n bs) (i : Int) (x : Nat) (hx : x < 256) (hn : n ≤ 2000) (hi : 0 ≤ i) (hin : i < n) (hx3 : 3 < x) (hz : i ≤ 256) :
    Calls Try.prog 5 #[.slice A n c, .int .i64 i, .int .u8 (x : Int)] w fun e w' => e = .returned (.bool true) ∧ Below w.heap.size w w' := by
  have HB := Lib.hid hb
  have hl := hb.len
  clear hb
  go_enter Try.func5, Try.ntmps5
  go_wp2_with fail
  refine (alive_any w).mono ?_
  rintro e w1 ⟨rfl, b1⟩
  have B1 := Lib.hid b1
  clear b1
  have hd : decide ((2000 : Int) < (n : Int)) = false := decide_eq_false (by omega)
  go_wp2_with fail
  refine (copy_any A n c bs w1 (by omega) ((HB.out.since B1.out).more B1.out.size)).mono ?_
  rintro e w2 ⟨gc, cap, rfl, hcap, hgc, hown, b2⟩
  have hgc2 : gc < w2.heap.size := hown.hi gc (by simp [Value.ownBlock])
  have B2 := Lib.hid (B1.out.trans (b2.mono B1.out.size))
  have HO2 := Lib.hid hown
  have HM := Lib.hid (mine_bytes hown HB.out)
  have hb12 := B1.out.size
  clear hown b2
  obtain ⟨k, rfl⟩ : ∃ k : Nat, i = (k : Int) := ⟨i.toNat, by omega⟩
  have hd0 : decide ((k : Int) < 0) = false := decide_eq_false (by omega)
  have hd1 : decide ((n : Int) ≤ (k : Int)) = false := decide_eq_false (by omega)
  have hd2 : decide ((3 : Int) < (x : Int)) = true := decide_eq_true (by omega)
  have hd3 : decide ((256 : Int) < (k : Int)) = false := decide_eq_false (by omega)
  have HST := Lib.hid (set_bad (some ⟨gc, 0, none⟩) n cap (k : Int) x w2 (.inr (.inr hx3)))
  simp only [errV] at HST
  go_wp2_with fail
  refine HST.out.mono ?_
  rintro e w3 ⟨he, hw⟩
  subst he
  subst hw
  have h22 : w2.heap.size ≤ w2.heap.size := Nat.le_refl _
  have HX3 := Lib.hid (Own.nil w2 w2.heap.size)
  clear HST
  go_wp2_with fail
  refine (sized_ok (some ⟨gc, 0, none⟩) n cap k bs w2 (by omega) HM.out).mono ?_
  rintro e w4 ⟨rfl, k4, b4⟩
  have h34 : w2.heap.size < w4.heap.size := k4.lt
  have B4 := Lib.hid (B2.out.trans (b4.mono B2.out.size))
  have HO4 := Lib.hid (HO2.out.below b4)
  have HX4 := Lib.hid (HX3.out.below b4)
  have HY4 := Lib.hid (Own.of_blk (base := w2.heap.size) (n := k) k4 (sizedM_len bs k) (Nat.le_refl _) (by omega))
  clear k4 b4 HO2 HM HX3
  go_wp2_with fail
  refine (new_blk k (by omega) w4).mono ?_
  rintro e w5 ⟨rfl, k5, b5⟩
  have h45 : w4.heap.size < w5.heap.size := k5.lt
  have B5 := Lib.hid (B4.out.trans (b5.mono B4.out.size))
  have HO5 := Lib.hid (HO4.out.below b5)
  have HX5 := Lib.hid (HX4.out.below b5)
  have HY5 := Lib.hid (HY4.out.below b5)
  have HZ5 := Lib.hid (Own.of_blk (base := w4.heap.size) (n := k) k5 (by simp) (Nat.le_refl _) (by omega))
  clear k5 b5 HO4 HX4 HY4
  go_wp2_with fail
  refine (kept_any A n c gc cap w1.heap.size bs w5 (by omega) hcap ((HB.out.since B5.out).more B1.out.size) HO5.out).mono ?_
  rintro e w6 ⟨rfl, b6⟩
  have B6 := Lib.hid (B5.out.trans (b6.mono B5.out.size))
  have HO6 := Lib.hid (HO5.out.below b6)
  have HX6 := Lib.hid (HX5.out.below b6)
  have HY6 := Lib.hid (HY5.out.below b6)
  have HZ6 := Lib.hid (HZ5.out.below b6)
  clear b6 HO5 HX5 HY5 HZ5
  have HI := Lib.hid (is_any 1 1 w6)
  simp only [errV] at HI
  go_wp2_with fail
  refine HI.out.mono ?_
  rintro e w9 ⟨he, hw⟩
  subst he
  subst hw
  have hmk := make_b k (by omega)
  have HDS := Lib.hid (dsized_any A n c k bs w6 (by omega) ((HB.out.since B6.out).more B6.out.size) HB.out.2)
  go_wp2_with fail
  refine HDS.out.mono ?_
  rintro e wa ⟨va, rfl, hoa, ba⟩
  obtain ⟨Aa, ca, rfl, -⟩ := hoa.form
  have BA := Lib.hid (B6.out.trans (ba.mono B6.out.size))
  have HOA := Lib.hid (HO6.out.below ba)
  have HXA := Lib.hid (HX6.out.below ba)
  have HYA := Lib.hid (HY6.out.below ba)
  have HZA := Lib.hid (HZ6.out.below ba)
  have HSy := Lib.hid (same_iff (some ⟨w2.heap.size, 0, none⟩) Aa k (sizedM bs k).length k ca _ _ (sizedM bs k) (sizedM bs k) wa (HYA.out.bytes (sized_lt HB.out.2 k)) (hoa.bytes (sized_lt HB.out.2 k)))
  rw [show (sizedM bs k == sizedM bs k) = true by simp] at HSy
  clear hoa ba HDS
  go_wp2_with fail
  refine HSy.out.mono ?_
  rintro e wb ⟨he, hw⟩
  subst he
  subst hw
  have bb := below_alloc wa (.cells (u8s (List.replicate k 0)).toArray 5)
  have kb := Blk.new wa 5 (u8s (List.replicate k 0)).toArray
  have HSz := Lib.hid (same_iff (some ⟨w4.heap.size, 0, none⟩) (some ⟨wa.heap.size, 0, none⟩) k k k k _ _ (List.replicate k 0) (List.replicate k 0) _ ((HZA.out.below bb).bytes (zeros_lt k)) (kb.bytes (by simp) (zeros_lt k)))
  rw [show (List.replicate k 0 == List.replicate k 0) = true by simp] at HSz
  have HKB := Lib.hid (And.intro bb kb)
  clear bb kb
  go_wp2_with fail
  refine HSz.out.mono ?_
  rintro e wc ⟨he, hw⟩
  subst he
  subst hw
  generalize wa.alloc (.cells (u8s (List.replicate k 0)).toArray 5) = wb at *
  have BB := Lib.hid (BA.out.trans (HKB.out.1.mono BA.out.size))
  have HOB := HOA.out.below HKB.out.1
  have HXB := HXA.out.below HKB.out.1
  have HYB := HYA.out.below HKB.out.1
  have HZB := HZA.out.below HKB.out.1
  have hb2 := B2.out.size
  have HR : Hid (Rowed wb w.heap.size (fun i => if i = 0 then .slice (some ⟨gc, 0, none⟩) n cap else if i = 1 then .slice none 0 0 else if i = 2 then .slice (some ⟨w2.heap.size, 0, none⟩) k k else .slice (some ⟨w4.heap.size, 0, none⟩) k k) (fun i => if i = 0 then n else if i = 1 then 0 else if i = 2 then k else k) 4) := Lib.hid (rowed_four ((mine_own HOB hl).weaken (by omega)) (HXB.weaken (by omega)) (HYB.weaken (by omega)) (HZB.weaken (by omega))
    (apart_by (k := w2.heap.size) (fun b hb => by simp [Value.ownBlock] at hb; omega) (fun b hb => by simp [Value.ownBlock] at hb <;> omega))
    (apart_by (k := w2.heap.size) (fun b hb => by simp [Value.ownBlock] at hb; omega) (fun b hb => by simp [Value.ownBlock] at hb; omega))
    (apart_by (k := w2.heap.size) (fun b hb => by simp [Value.ownBlock] at hb; omega) (fun b hb => by simp [Value.ownBlock] at hb; omega))
    (apart_by (k := w2.heap.size) (fun b hb => by simp [Value.ownBlock] at hb <;> omega) (fun b hb => by simp [Value.ownBlock] at hb; omega))
    (apart_by (k := w2.heap.size) (fun b hb => by simp [Value.ownBlock] at hb <;> omega) (fun b hb => by simp [Value.ownBlock] at hb; omega))
    (apart_by (k := w2.heap.size + 1) (fun b hb => by simp [Value.ownBlock] at hb; omega) (fun b hb => by simp [Value.ownBlock] at hb; omega)))
  have HAP := Lib.hid (apart_list HR.out (by omega) (by intro i hi; (repeat' split) <;> omega) BB.out.size _ (hdr_four _ _ _ _))
  clear HOB HXB HYB HZB
  go_wp2_with fail
  refine (HAP.out _ _).mono ?_
  rintro e wd ⟨rfl, bd⟩
  have BD := Lib.hid (BB.out.trans bd)
  clear bd
  go_wp2
  go_ret
  exact ⟨rfl, BD.out⟩
set_option maxHeartbeats 1000000 in
theorem set_odd_n (A : Option Addr) (n c : Nat) (bs : List Nat) (m0 : n ≤ c ∧ c ≤ 9223372036854775807) {w : World} (hb : Bytes w w.heap.size A n bs) (i : Int) (x : Nat) (hx : x < 256) (hn : n ≤ 2000) (hi : 0 ≤ i) (hin : i < n) (hx3 : 3 < x) (hz : 256 < i) :
    Calls Try.prog 5 #[.slice A n c, .int .i64 i, .int .u8 (x : Int)] w fun e w' => e = .returned (.bool true) ∧ Below w.heap.size w w' := by
  have HB := Lib.hid hb
  have hl := hb.len
  clear hb
  go_enter Try.func5, Try.ntmps5
  go_wp2_with fail
  refine (alive_any w).mono ?_
  rintro e w1 ⟨rfl, b1⟩
  have B1 := Lib.hid b1
  clear b1
  have hd : decide ((2000 : Int) < (n : Int)) = false := decide_eq_false (by omega)
  go_wp2_with fail
  refine (copy_any A n c bs w1 (by omega) ((HB.out.since B1.out).more B1.out.size)).mono ?_
  rintro e w2 ⟨gc, cap, rfl, hcap, hgc, hown, b2⟩
  have hgc2 : gc < w2.heap.size := hown.hi gc (by simp [Value.ownBlock])
  have B2 := Lib.hid (B1.out.trans (b2.mono B1.out.size))
  have HO2 := Lib.hid hown
  have HM := Lib.hid (mine_bytes hown HB.out)
  have hb12 := B1.out.size
  clear hown b2
  obtain ⟨k, rfl⟩ : ∃ k : Nat, i = (k : Int) := ⟨i.toNat, by omega⟩
  have hd0 : decide ((k : Int) < 0) = false := decide_eq_false (by omega)
  have hd1 : decide ((n : Int) ≤ (k : Int)) = false := decide_eq_false (by omega)
  have hd2 : decide ((3 : Int) < (x : Int)) = true := decide_eq_true (by omega)
  have hd3 : decide ((256 : Int) < (k : Int)) = true := decide_eq_true (by omega)
  have HST := Lib.hid (set_bad (some ⟨gc, 0, none⟩) n cap (k : Int) x w2 (.inr (.inr hx3)))
  simp only [errV] at HST
  go_wp2_with fail
  refine HST.out.mono ?_
  rintro e w3 ⟨he, hw⟩
  subst he
  subst hw
  have h22 : w2.heap.size ≤ w2.heap.size := Nat.le_refl _
  have HX3 := Lib.hid (Own.nil w2 w2.heap.size)
  clear HST
  have HSZ := Lib.hid (sized_bad (some ⟨gc, 0, none⟩) n cap (k : Int) w2 (by omega))
  simp only [errV] at HSZ
  go_wp2_with fail
  refine HSZ.out.mono ?_
  rintro e w4 ⟨he, hw⟩
  subst he
  subst hw
  have HNW := Lib.hid (new_bad (k : Int) (by omega) w2)
  simp only [errV] at HNW
  go_wp2_with fail
  refine HNW.out.mono ?_
  rintro e w5 ⟨he, hw⟩
  subst he
  subst hw
  clear HSZ HNW
  go_wp2_with fail
  refine (kept_any A n c gc cap w1.heap.size bs w2 (by omega) hcap ((HB.out.since B2.out).more B1.out.size) HO2.out).mono ?_
  rintro e w6 ⟨rfl, b6⟩
  have B6 := Lib.hid (B2.out.trans (b6.mono B2.out.size))
  have HX6 := Lib.hid (HX3.out.below b6)
  clear b6 HX3
  have HI := Lib.hid (is_any 1 1 w6)
  simp only [errV] at HI
  go_wp2_with fail
  refine HI.out.mono ?_
  rintro e w9 ⟨he, hw⟩
  subst he
  subst hw
  have HI1 := Lib.hid (is_any 1 1 w6)
  simp only [errV] at HI1
  go_wp2_with fail
  refine HI1.out.mono ?_
  rintro e w9 ⟨he, hw⟩
  subst he
  subst hw
  go_wp2_with fail
  refine HI1.out.mono ?_
  rintro e w9 ⟨he, hw⟩
  subst he
  subst hw
  go_wp2
  go_ret
  exact ⟨rfl, B6.out⟩
set_option maxHeartbeats 1000000 in
theorem marksSet_walk (A : Option Addr) (n c : Nat) (bs : List Nat) (m0 : n ≤ c ∧ c ≤ 9223372036854775807) {w : World} (hb : Bytes w w.heap.size A n bs) (i : Int) (hi1 : -9223372036854775808 ≤ i) (hi2 : i ≤ 9223372036854775807) (x : Nat) (hx : x < 256) :
    Calls Try.prog 5 #[.slice A n c, .int .i64 i, .int .u8 (x : Int)] w fun e w' => e = .returned (.bool true) ∧ Below w.heap.size w w' := by
  have HB := Lib.hid hb
  have hl := hb.len
  clear hb
  by_cases hn : n ≤ 2000
  · by_cases hi : i < 0
    · exact set_neg A n c bs m0 HB.out i x hx hn hi
    · by_cases hin : (n : Int) ≤ i
      · by_cases hz : i ≤ 256
        · exact set_far_y A n c bs m0 HB.out i x hx hn (by omega) hin hz
        · exact set_far_n A n c bs m0 HB.out i x hx hn (by omega) hin (by omega)
      · by_cases hx3 : x ≤ 3
        · by_cases hz : i ≤ 256
          · exact set_yy A n c bs m0 HB.out i x hx hn (by omega) (by omega) hx3 hz
          · exact set_yn A n c bs m0 HB.out i x hx hn (by omega) (by omega) hx3 (by omega)
        · by_cases hz : i ≤ 256
          · exact set_odd_y A n c bs m0 HB.out i x hx hn (by omega) (by omega) (by omega) hz
          · exact set_odd_n A n c bs m0 HB.out i x hx hn (by omega) (by omega) (by omega) (by omega)
  · have hd : decide ((2000 : Int) < (n : Int)) = true := decide_eq_true (by omega)
    go_enter Try.func5, Try.ntmps5
    go_wp2_with fail
    refine (alive_any w).mono ?_
    rintro e w1 ⟨rfl, b1⟩
    have B1 := Lib.hid b1
    clear b1
    go_wp2
    go_ret
    exact ⟨rfl, B1.out⟩
end Go.Proofs.Ytapbjaeimnafcaa
