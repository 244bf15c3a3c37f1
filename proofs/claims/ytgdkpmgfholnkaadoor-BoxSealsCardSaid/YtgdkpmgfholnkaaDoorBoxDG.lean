/-
  The document's own sector of a box that is one. Conditions: its data read as bytes.
-/
import Derived.Test.YtgdkpmgfholnkaaDoorBoxD
import Derived.Deep.LoopGhost
namespace Go.Proofs.YtgdkpmgfholnkaaDoor
open Go.RowKit
set_option linter.unusedSimpArgs false
set_option linter.unusedVariables false
set_option maxRecDepth 100000 in
set_option maxHeartbeats 2000000 in
theorem dseal_good (k g n : Int) (A : Option Addr) (c : Nat) (d : List Nat) (B : Nat) (w : World) (h0 : 1 ≤ k) (h1 : k ≤ 255) (h2 : 0 ≤ g) (h3 : g ≤ 4611686018427387904) (h4 : 0 ≤ n) (h5 : n ≤ 2147483647) (hd : Bytes w B A d.length d) (hl : d.length ≤ 106) (h256 : ∀ b ∈ d, b < 256) :
    Calls Tryd.prog 17 #[.agg (boxCs k g n (.slice A d.length c)).toArray] w fun e w' => e = .returned (.tuple #[(sealSec k g n d hl h256).v, .int .i64 0]) ∧ Below w.heap.size w w' := by
  obtain ⟨Zs, hZ, hZs⟩ : ∃ Zs : List Value, (∀ w, (zeroValue 33).run Tryd.prog w = .ok (.agg Zs.toArray) w) ∧ Zs = Sec.zero.cs := ⟨Sec.zero.cs, sec_zero, rfl⟩
  have hzl : Zs.length = 128 := by rw [hZs, Sec.cs_len]
  obtain ⟨K0, K1, K2, b0⟩ := dseal_start w #[.int .i64 k, .int .i64 g, .int .i64 n, .slice A d.length c] Zs
  have hd0 : decide (k < 1) = false := decide_eq_false (by omega)
  have hd1 : decide (255 < k) = false := decide_eq_false (by omega)
  have hd2 : decide (g < 0) = false := decide_eq_false (by omega)
  have hd3 : decide (4611686018427387904 < g) = false := decide_eq_false (by omega)
  have hd4 : decide (n < 0) = false := decide_eq_false (by omega)
  have hd5 : decide (2147483647 < n) = false := decide_eq_false (by omega)
  have hm1 : decide (106 < (d.length : Int)) = false := decide_eq_false (by omega)
  have hkb : IntKind.u8.wrap k = (((k % 256).toNat : Nat) : Int) := by rw [IntKind.wrap_u8]; omega
  have hkb2 : (k % 256).toNat < 256 := by omega
  have hlb : IntKind.u8.wrap (d.length : Int) = (d.length : Int) := by rw [IntKind.wrap_u8]; omega
  have hlb2 : (d.length : Int) % 256 = (d.length : Int) := by omega
  have hkq : k % 256 = (((k % 256).toNat : Nat) : Int) := by omega
  generalize hkn : (k % 256).toNat = kb at *
  have HKN := Lib.hid hkn
  have cA := lbox_cells K0
  have a0 := cA.1
  have a1 := cA.2.1
  have a2 := cA.2.2.1
  have a3 := cA.2.2.2
  have HD := Lib.hid hd
  have HK := Lib.hid (And.intro K0 (And.intro K1 (And.intro K2 b0)))
  have HZL := Lib.hid hzl
  have HZs := Lib.hid hZs
  have HS3 : Hid ((((w.alloc (.cells #[.int .i64 k, .int .i64 g, .int .i64 n, .slice A d.length c] 31)).alloc (.cells Zs.toArray 33)).alloc (.cells Zs.toArray 33)).heap.size = w.heap.size + 1 + 1 + 1) := Lib.hid (by simp)
  clear hZs hzl K0 K1 K2 b0 hd hkn cA h0 h1 h2 h3 h4 h5
  simp only [boxCs]
  go_enter Tryd.func17, Tryd.ntmps17
  go_wp2_with fail
  clear hkb hkq
  generalize (((w.alloc (.cells #[.int .i64 k, .int .i64 g, .int .i64 n, .slice A d.length c] 31)).alloc (.cells Zs.toArray 33)).alloc (.cells Zs.toArray 33)) = w3 at *
  have hs3 : w3.heap.size = w.heap.size + 1 + 1 + 1 := by
    have := HS3.out
    exact this
  have O4' : Own (w3.alloc (.cells (u8s [kb]).toArray 5)) w3.heap.size (.slice (some ⟨w3.heap.size, 0, none⟩) 1 1) 1 [kb] := Own.made w3 w3.heap.size [kb] (Nat.le_refl _) (by simp)
  have O4 := Lib.hid O4'
  clear O4'
  have B4 := Lib.hid (below_alloc w3 (.cells (u8s [kb]).toArray 5))
  have hB3 := HK.out.2.2.2.size
  rw [← hs3]
  have hs3' : w.heap.size + 1 + 1 < w3.heap.size := by omega
  clear hs3
  refine (dnum_any g _).mono ?_
  rintro e w5 ⟨v5, rfl, h5, b5⟩
  have O5 := O4.out.below b5
  have B5 := B4.out.trans (b5.mono B4.out.size)
  obtain ⟨A5, c5, rfl, -, -, -⟩ := h5.form
  have a2' := (HK.out.1.below B5 HK.out.1.lt)
  have HO5 := Lib.hid (And.intro O5 B5)
  have hy5 := h5.bytes (numB_lt g)
  have a2 := (lbox_cells a2').2.2.1
  clear O4 B4 b5 h5 a2' O5 B5 a0 a1 a3
  go_wp2_with (refine app_bytes (.tmp 46) (.tmp 49) rfl rfl w3.heap.size (.slice (some ⟨w3.heap.size, 0, none⟩) 1 1) 1 [kb] rfl HO5.out.1 _ A5 8 c5 (numB g) rfl hy5 (by omega) HO5.out.2.size ?_
               intro v6 w6 h6 g6 a6
               have B6 := below_own HO5.out.2 HO5.out.1 (Nat.le_refl _) g6 HO5.out.2.size
               have a2 := (lbox_cells (HK.out.1.below B6 (by omega))).2.2.1
               have HO6 := Lib.hid (And.intro h6 B6)
               clear h6 g6 a6 B6)
  refine (dnum_any n _).mono ?_
  rintro e w7 ⟨v7, rfl, h7, b7⟩
  have O7 := HO6.out.1.below b7
  have B7 := HO6.out.2.trans (b7.mono HO6.out.2.size)
  obtain ⟨A7, c7, rfl, -, -, -⟩ := h7.form
  have HO7 := Lib.hid (And.intro O7 B7)
  have hy7 := h7.bytes (numB_lt n)
  clear HO5 HO6 hy5 h7 b7 O7 B7 a2
  have hdd : ∀ w', Below w3.heap.size w3 w' → Bytes w' B A d.length d := fun w' h => HD.out.since (HK.out.2.2.2.trans (h.mono (by omega)))
  have HDD := Lib.hid hdd
  clear hdd
  go_wp2_with (first
    | (refine app_bytes (.tmp 51) (.tmp 54) rfl rfl w3.heap.size v6 (1 + 8) ([kb] ++ numB g) rfl HO7.out.1 _ A7 8 c7 (numB n) rfl hy7 (by omega) HO7.out.2.size ?_
       intro v8 w8 h8 g8 a8
       have B8 := below_own HO7.out.2 HO7.out.1 (Nat.le_refl _) g8 HO7.out.2.size
       have a3 := (lbox_cells (HK.out.1.below B8 (by omega))).2.2.2
       have HO8 := Lib.hid (And.intro (h8.alloc (.cells (u8s [d.length]).toArray 5)) (B8.alloc B8.size (.cells (u8s [d.length]).toArray 5)))
       have hy8 := Bytes.new w8 [d.length] 5 (0, 0) (by simp; omega)
       clear h8 g8 a8 B8)
    | (refine app_bytes (.tmp 56) (.tmp 61) rfl rfl w3.heap.size v8 (1 + 8 + 8) ([kb] ++ numB g ++ numB n) rfl HO8.out.1 _ _ 1 1 [d.length] rfl hy8 (by omega) HO8.out.2.size ?_
       intro v9 w9 h9 g9 a9
       have B9 := below_own HO8.out.2 HO8.out.1 (Nat.le_refl _) g9 HO8.out.2.size
       have a3 := (lbox_cells (HK.out.1.below B9 (by omega))).2.2.2
       have HO9 := Lib.hid (And.intro h9 B9)
       clear h9 g9 a9 B9)
    | (refine app_bytes (.tmp 63) (.tmp 65) rfl rfl w3.heap.size v9 (1 + 8 + 8 + 1) ([kb] ++ numB g ++ numB n ++ [d.length]) rfl HO9.out.1 _ A d.length c d rfl (HDD.out _ HO9.out.2) (by omega) HO9.out.2.size ?_
       intro v10 w10 h10 g10 a10
       have B10 := below_own HO9.out.2 HO9.out.1 (Nat.le_refl _) g10 HO9.out.2.size
       have HO10 := Lib.hid (And.intro h10 B10)
       clear h10 g10 a10 B10))
  have HHD : Hid ([kb] ++ numB g ++ numB n ++ [d.length] = headOf k g n d.length) := Lib.hid (by rw [headOf, HKN.out])
  have hO10 : Own w10 w3.heap.size v10 (18 + d.length) (headOf k g n d.length ++ d) := by
    have := HO10.out.1
    rw [HHD.out, show 1 + 8 + 8 + 1 + d.length = 18 + d.length by omega] at this
    exact this
  have HO11 := Lib.hid (And.intro hO10 HO10.out.2)
  clear hO10 HO10 HHD HO9 HO8 HO7 hy8 hy7 a3 hkb2 hlb hlb2
  go_loopg [5] (106 - d.length) (fun gj v wr => ∃ m : Nat, 18 + d.length ≤ m ∧ m ≤ 124 ∧ gj = 124 - m ∧ Own wr w3.heap.size v m (headOf k g n d.length ++ d ++ List.replicate (m - (18 + d.length)) 0) ∧ Below w3.heap.size w3 wr)
  case atStart => exact ⟨18 + d.length, by omega, by omega, by omega, by simpa using HO11.out.1, HO11.out.2⟩
  case round =>
    obtain ⟨m, hm1', hm2, rfl, ho, hb⟩ := hrel
    clear HO11
    obtain ⟨Am, cm, rfl, -, -, -⟩ := ho.form
    by_cases hlt : m < 124
    · have HM := Lib.hid (And.intro (ho.alloc (.cells (u8s [0]).toArray 5)) (hb.alloc hb.size (.cells (u8s [0]).toArray 5)))
      have hy := Bytes.new wr [0] 5 (0, 0) (by simp)
      have hd : decide ((m : Int) < 124) = true := decide_eq_true (by omega)
      clear ho hb
      go_wp2_with (refine app_bytes (.tmp 70) (.tmp 71) rfl rfl w3.heap.size (.slice Am m cm) m _ rfl HM.out.1 _ _ 1 1 [0] rfl hy (by omega) HM.out.2.size ?_
                   intro vq wq hq gq aq
                   have Bq := below_own HM.out.2 HM.out.1 (Nat.le_refl _) gq HM.out.2.size
                   have HQ := Lib.hid (And.intro hq Bq)
                   clear hq gq aq Bq)
      go_roundg (124 - (m + 1))
      case measure => omega
      case rel =>
        refine ⟨m + 1, by omega, by omega, rfl, ?_, HQ.out.2⟩
        have := HQ.out.1
        rw [List.append_assoc, ← List.replicate_one, List.replicate_append_replicate, show m - (18 + d.length) + 1 = m + 1 - (18 + d.length) by omega] at this
        exact this
    · obtain rfl : m = 124 := by omega
      have hbody : headOf k g n d.length ++ d ++ List.replicate (124 - (18 + d.length)) 0 = bodyOf k g n d := by
        rw [bodyOf, show 124 - (18 + d.length) = 106 - d.length by omega]
      rw [hbody] at ho
      have hbl := bodyOf_len k g n d hl
      have hbt := bodyOf_lt k g n d hl h256
      have hyb := ho.bytes hbt
      have HB := Lib.hid hb
      have HY := Lib.hid hyb
      have HYA := Lib.hid (fun a (ha : Am = some a) => row_over ho a.block (by rw [ha]; simp [rowOf, Value.ownBlock]))
      clear ho hb hyb hbody hbt hlt
      have hd : decide ((124 : Int) < 124) = false := by decide
      go_wp2_with fail
      refine (refsum_any Am 124 cm _ (bodyOf k g n d) wr (by omega) HY.out).mono ?_
      rintro e w12 ⟨rfl, rfl⟩
      have hsl := seal_low k g n d
      have hsh := seal_high k g n d
      have HSL := Lib.hid (And.intro hsl hsh)
      have hs13 : Crc.sum (bodyOf k g n d) < 4294967296 := Crc.go_lt _ _
      have HLL := Lib.hid (sealL_len k g n d hl)
      generalize Crc.sum (bodyOf k g n d) = sm at *
      generalize bodyOf k g n d = bd at *
      clear hsl hsh hbl
      go_wp2
      go_loopw [6, 7] (fun q i wx => ∃ j : Nat, j ≤ 128 ∧ i = .int .i64 j ∧ q = .int .u32 ((sm / 256 ^ (min j 4) : Nat) : Int) ∧ Blk wx (w.heap.size + 1 + 1) 33 (u8s (filled (sealL k g n d) j)).toArray ∧ Blk wx (w.heap.size + 1) 33 Zs.toArray ∧ Below w.heap.size w wx ∧ Bytes wx wx.heap.size Am 124 bd ∧ (∀ a, Am = some a → w3.heap.size ≤ a.block)) (fun _ i _ => 128 - (intOf i).toNat)
      case atStart =>
        refine ⟨0, by omega, rfl, by simp, ?_, HK.out.2.1.below HB.out (by omega), HK.out.2.2.2.trans (HB.out.mono (by omega)), HY.out, HYA.out⟩
        have := HK.out.2.2.1.below HB.out (by omega)
        rw [HZs.out] at this
        exact this
      case round =>
        obtain ⟨j, hj, rfl, rfl, hk1, hk2, hB, hY, hA⟩ := hrel
        clear HB HY
        have hLL := HLL.out
        by_cases hlt : j < 128
        · have hc : wr.cell? ⟨w.heap.size + 1 + 1, j, none⟩ = some (.int .u8 (0 : Nat)) := by rw [hk1.cell]; exact u8s_at (filled_at _ j hLL hlt)
          have hfz := hk1.frozen j
          have hj0 : (0 : Int) ≤ (j : Int) := by omega
          have hj1 : (j : Int) < 128 := by omega
          by_cases h4 : j < 4
          · have hd4' : decide ((j : Int) < 4) = true := decide_eq_true (by omega)
            have hlow := HSL.out.1 j h4
            have hm4 : min j 4 = j := Nat.min_eq_left (by omega)
            have hm5 : min (j + 1) 4 = j + 1 := Nat.min_eq_left (by omega)
            rw [hm4]
            have hsp : sm / 256 ^ j ≤ sm := Nat.div_le_self _ _
            have hval : ((sm / 256 ^ j : Nat) : Int) % 256 = ((sm / 256 ^ j % 256 : Nat) : Int) := by omega
            have hq : ((sm / 256 ^ j : Nat) : Int) / 256 = ((sm / 256 ^ (j + 1) : Nat) : Int) := by rw [Nat.pow_succ, ← Nat.div_div_eq_div_mul]; omega
            have HE := Lib.hid (And.intro hlow (And.intro hm5 (And.intro hval hq)))
            have HX := Lib.hid (And.intro hk1 (And.intro hk2 (And.intro hB (And.intro hY hA))))
            generalize sm / 256 ^ j = sj at *
            clear hlow hm4 hm5 hval hq hk1 hk2 hB hY hA hLL
            go_wp2
            go_roundw
            case rel =>
              refine ⟨j + 1, by omega, by go_num, by rw [HE.out.2.1, ← HE.out.2.2.2], ?_, HX.out.2.1.far (by show w.heap.size + 1 ≠ w.heap.size + 1 + 1; omega) _, HX.out.2.2.1.setCell (by show w.heap.size ≤ w.heap.size + 1 + 1; omega) _, ?_, HX.out.2.2.2.2⟩
              · have := HX.out.1.set_ j (.int .u8 ((sj % 256 : Nat) : Int))
                rw [u8s_set, filled_set _ j _ HLL.out HE.out.1] at this
                rw [HE.out.2.2.1]
                exact this
              · refine ⟨⟨HX.out.2.2.2.1.1.1, fun hn => ?_⟩, HX.out.2.2.2.1.2⟩
                obtain ⟨ad, e, hB', hcc⟩ := HX.out.2.2.2.1.1.2 hn
                refine ⟨ad, e, by simpa [World.setCell] using hB', fun q u hu => (World.cell?_setCell_other _ _ _ _ (fun e' => ?_)).trans (hcc q u hu)⟩
                have h1 := HX.out.2.2.2.2 ad e
                have h2 := congrArg Addr.block e'
                rw [block_of_add] at h2
                have h3 : w.heap.size + 1 + 1 = ad.block := h2
                omega
            case measure => simp [intOf]; omega
          · have hd4' : decide ((j : Int) < 4) = false := decide_eq_false (by omega)
            have hhigh := HSL.out.2 j (by omega)
            obtain ⟨ad, b, rfl, hb, hb256, hcb⟩ := hY.at_ (show j - 4 < 124 by omega)
            rw [hb] at hhigh
            have hm4 : min j 4 = 4 := Nat.min_eq_right (by omega)
            have hm5 : min (j + 1) 4 = 4 := Nat.min_eq_right (by omega)
            rw [hm4]
            have htn : ((j : Int) - 4).toNat = j - 4 := by omega
            have hs0 : (0 : Int) ≤ (j : Int) - 4 := by omega
            have hs1 : (j : Int) - 4 < 124 := by omega
            have hs2 : (4 : Int) ≤ (j : Int) := by omega
            have HE := Lib.hid (And.intro hhigh hm5)
            have HX := Lib.hid (And.intro hk1 (And.intro hk2 (And.intro hB (And.intro hY hA))))
            generalize hsj : sm / 256 ^ 4 = sj at *
            have HSJ := Lib.hid hsj
            clear hsj
            clear hhigh hm4 hm5 hk1 hk2 hB hY hA hLL hb
            go_wp2
            go_roundw
            case rel =>
              refine ⟨j + 1, by omega, by go_num, by rw [HE.out.2, HSJ.out], ?_, HX.out.2.1.far (by show w.heap.size + 1 ≠ w.heap.size + 1 + 1; omega) _, HX.out.2.2.1.setCell (by show w.heap.size ≤ w.heap.size + 1 + 1; omega) _, ?_, HX.out.2.2.2.2⟩
              · have := HX.out.1.set_ j (.int .u8 (b : Int))
                rw [u8s_set, filled_set _ j _ HLL.out HE.out.1] at this
                exact this
              · refine ⟨⟨HX.out.2.2.2.1.1.1, fun hn => ?_⟩, HX.out.2.2.2.1.2⟩
                obtain ⟨ad', e, hB', hcc⟩ := HX.out.2.2.2.1.1.2 hn
                refine ⟨ad', e, by simpa [World.setCell] using hB', fun q u hu => (World.cell?_setCell_other _ _ _ _ (fun e' => ?_)).trans (hcc q u hu)⟩
                have h1 := HX.out.2.2.2.2 ad' e
                have h2 := congrArg Addr.block e'
                rw [block_of_add] at h2
                have h3 : w.heap.size + 1 + 1 = ad'.block := h2
                omega
            case measure => simp [intOf]; omega
        · obtain rfl : j = 128 := by omega
          have hfl : filled (sealL k g n d) 128 = sealL k g n d := by
            unfold filled
            rw [List.take_of_length_le (by omega)]
            simp
          rw [hfl] at hk1
          have hr : wr.rangeAt (w.heap.size + 1 + 1) 0 (sealSec k g n d hl h256).cs := Blk.range (cs := (sealSec k g n d hl h256).cs) hk1
          have hu := Tryd.underlying33
          have hi2 := (sealSec k g n d hl h256).info
          have hia := (sealSec k g n d hl h256).infoA
          obtain ⟨hth, ha, hB'⟩ := ans_stored (sealSec k g n d hl h256) hk2 HZL.out hB (by omega)
          have hone := (sealSec k g n d hl h256).one
          have HE := Lib.hid (And.intro ha hB')
          clear hk1 hk2 hB ha hB' hY hA hfl hLL
          generalize hS : sealSec k g n d hl h256 = S at *
          have HS := Lib.hid hS
          clear hS
          go_wp2_with (first
            | (refine wpList_load_mid rfl 33 (.tmp 4) rfl (w.heap.size + 1 + 1) 0 rfl S.cs _ hr hu rfl hi2 ?_)
            | (refine wpList_store_mid rfl 33 (.tmp 2) (.tmp 95) rfl (w.heap.size + 1) 0 S.cs.toArray rfl rfl hth hia (all_oneCell_toArray hone) ?_))
          refine bodyPost_ret (sec_results2 rfl _ _ (w.heap.size + 1) S (.int .i64 0) rfl rfl HE.out.1) rfl ?_
          exact ⟨by rw [HS.out], HE.out.2⟩
theorem dseal_any (k g n : Int) (A : Option Addr) (c : Nat) (d : List Nat) (B : Nat) (w : World) (hd : Bytes w B A d.length d) :
    Calls Tryd.prog 17 #[.agg (boxCs k g n (.slice A d.length c)).toArray] w fun e w' => e = .returned (.tuple #[(sealRes k g n d).v, .int .i64 (sealErr k g n d.length)]) ∧ Below w.heap.size w w' := by
  cases hb : isBoxB k g n with
  | false =>
    have e : sealErr k g n d.length = 1 := by unfold sealErr; rw [hb]; rfl
    rw [e, sealRes_bad (by rw [e]; omega)]
    simp only [isBoxB, decide_eq_false_iff_not] at hb
    by_cases h0 : 1 ≤ k
    · by_cases h1 : k ≤ 255
      · by_cases h2 : 0 ≤ g
        · by_cases h3 : g ≤ 4611686018427387904
          · by_cases h4 : 0 ≤ n
            · exact dseal_bad5 k g n A d.length c w h0 h1 h2 h3 h4 (by omega)
            · exact dseal_bad4 k g n A d.length c w h0 h1 h2 h3 (by omega)
          · exact dseal_bad3 k g n A d.length c w h0 h1 h2 (by omega)
        · exact dseal_bad2 k g n A d.length c w h0 h1 (by omega)
      · exact dseal_bad1 k g n A d.length c w h0 (by omega)
    · exact dseal_bad0 k g n A d.length c w (by omega)
  | true =>
    have hb' := hb
    simp only [isBoxB, decide_eq_true_eq] at hb'
    obtain ⟨h0, h1, h2, h3, h4, h5⟩ := hb'
    by_cases hl : d.length ≤ 106
    · have e : sealErr k g n d.length = 0 := by unfold sealErr; rw [hb, if_pos rfl, if_pos hl]
      rw [e, sealRes_good hb hl hd.2]
      exact dseal_good k g n A c d B w h0 h1 h2 h3 h4 h5 hd hl hd.2
    · have e : sealErr k g n d.length = 2 := by unfold sealErr; rw [hb, if_pos rfl, if_neg hl]
      rw [e, sealRes_bad (by rw [e]; omega)]
      exact dseal_form k g n A d.length c w h0 h1 h2 h3 h4 h5 (by omega)
end Go.Proofs.YtgdkpmgfholnkaaDoor
