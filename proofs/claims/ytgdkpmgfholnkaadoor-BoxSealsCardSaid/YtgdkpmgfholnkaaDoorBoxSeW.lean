/-
  The law BoxSeals, walked: it returns true and changes nothing that was there. Conditions: the data read as bytes; the package's table holds its sixteen numbers.
-/
import Derived.Test.YtgdkpmgfholnkaaDoorBoxIsW
import Derived.Test.YtgdkpmgfholnkaaDoorBoxApW
import Derived.Test.YtgdkpmgfholnkaaDoorApart
import Derived.Test.YtgdkpmgfholnkaaDoorCopy
namespace Go.Proofs.YtgdkpmgfholnkaaDoor
open Go.RowKit
set_option linter.unusedSimpArgs false
set_option linter.unusedVariables false
theorem two_rows {w : World} {base b1 : Nat} {v0 v1 : Value} {n0 n1 : Nat} {bs0 bs1 : List Nat} (h0 : Own w base v0 n0 bs0) (h1 : Own w b1 v1 n1 bs1) (hb : base ≤ b1) (hlt : ∀ b, v0.ownBlock = some b → b < b1) :
    Rowed w base (fun i => if i = 0 then v0 else v1) (fun i => if i = 0 then n0 else n1) 2 := by
  refine ⟨fun i hi => ?_, fun i j hi hj hne b hv => ?_⟩
  · by_cases h : i = 0
    · rw [if_pos h, if_pos h]; exact ⟨bs0, h0⟩
    · rw [if_neg h, if_neg h]; exact ⟨bs1, h1.weaken hb⟩
  · by_cases h : i = 0
    · rw [if_pos h] at hv
      rw [if_neg (by omega)]
      intro e
      have := hlt b hv
      have := (World.ownsRow.lt h1 b e).1
      omega
    · rw [if_neg h] at hv
      rw [if_pos (by omega)]
      intro e
      have := hlt b e
      have := (World.ownsRow.lt h1 b hv).1
      omega
set_option maxRecDepth 100000 in
set_option maxHeartbeats 4000000 in
theorem boxSeals_walk (x : BoxV) {w : World} (hx : x.At w) (hT : Tab w) :
    Calls Tryd.prog 4 #[.agg x.cs.toArray] w fun e w' => e = .returned (.bool true) ∧ Below w.heap.size w w' := by
  obtain ⟨k, g, n, A, c, d⟩ := x
  simp only [BoxV.cs, BoxV.At] at hx ⊢
  obtain ⟨Zs, hZ, hZs⟩ : ∃ Zs : List Value, (∀ w, (zeroValue 33).run Tryd.prog w = .ok (.agg Zs.toArray) w) ∧ Zs = Sec.zero.cs := ⟨Sec.zero.cs, sec_zero, rfl⟩
  have HZL : Hid (Zs.toArray.size = 128) := Lib.hid (by rw [List.size_toArray, hZs, Sec.cs_len])
  clear hZs
  have hbz := box_zero
  have husec := Tryd.underlying33
  have HX := Lib.hid hx.1
  have HT := Lib.hid hT
  have mx := hx.2
  have K0 := Blk.new w 31 #[.int .i64 k, .int .i64 g, .int .i64 n, .slice A d.length c]
  have HK := Lib.hid (And.intro K0 (below_alloc w (.cells #[.int .i64 k, .int .i64 g, .int .i64 n, .slice A d.length c] 31)))
  clear K0 hx hT
  go_enter Tryd.func4, Tryd.ntmps4
  go_wp2_with fail
  generalize w.alloc (.cells #[.int .i64 k, .int .i64 g, .int .i64 n, .slice A d.length c] 31) = w1 at *
  refine (balive_any w1 (HT.out.below HK.out.2)).mono ?_
  rintro e w2 ⟨rfl, b2⟩
  have K2 := HK.out.1.below b2 HK.out.1.lt
  have a3 := (lbox_cells K2).2.2.2
  have HK2 := Lib.hid (And.intro K2 (HK.out.2.trans (b2.mono HK.out.2.size)))
  have HB2 := Lib.hid HK2.out.2.size
  clear HK K2 b2
  by_cases la : d.length ≤ 5000
  case neg =>
    have hd : decide (5000 < (d.length : Int)) = true := decide_eq_true (by omega)
    go_wp2
    go_ret
    exact ⟨rfl, HK2.out.2⟩
  have hda : decide (5000 < (d.length : Int)) = false := decide_eq_false (by omega)
  go_wp2_with fail
  refine (copy_any A d.length c d w2 (by omega) ((HX.out.since HK2.out.2).more HK2.out.2.size)).mono ?_
  rintro e w3 ⟨gc, cap, rfl, hcap, hgc, hown, b3⟩
  have K3 := HK2.out.1.below b3 HK2.out.1.lt
  have B3 := HK2.out.2.trans (b3.mono HK2.out.2.size)
  have cA := lbox_cells K3
  have a0 := cA.1
  have a1 := cA.2.1
  have a2 := cA.2.2.1
  have hmb := mine_bytes hown HX.out
  have HK3 := Lib.hid (And.intro K3 (And.intro B3 (And.intro hown hmb)))
  clear a3 HK2 K3 B3 hown hmb b3 cA
  go_wp2_with fail
  refine (seal_any k g n (some ⟨gc, 0, none⟩) cap d _ w3 HK3.out.2.2.2 (HT.out.below HK3.out.2.1)).mono ?_
  rintro e w4 ⟨rfl, b4⟩
  have HXl := Lib.hid (fun (hb : isBoxB k g n = true) (hl : d.length ≤ 106) => sealRes_l hb hl HX.out.2)
  generalize hX : sealRes k g n d = X at *
  have HXq := Lib.hid hX
  have K4 := (HK3.out.1.below b4 HK3.out.1.lt).alloc (.cells X.cs.toArray 33)
  have B4 := HK3.out.2.1.trans (b4.mono HK3.out.2.1.size)
  have KX := Blk.new w4 33 X.cs.toArray
  have O4 := (HK3.out.2.2.1.below b4).alloc (.cells X.cs.toArray 33)
  have hrl : World.rangeAt (w4.alloc (.cells X.cs.toArray 33)) w.heap.size 0 (boxCs k g n (.slice A d.length c)) := Blk.range (cs := boxCs k g n (.slice A d.length c)) K4
  have hul := Tryd.underlying31
  have hil : (Tryd.prog.info? 31).map (·.size) = some (boxCs k g n (.slice A d.length c)).length := lbox_size
  have HK4 := Lib.hid (And.intro K4 (And.intro (B4.alloc B4.size (.cells X.cs.toArray 33)) (And.intro KX O4)))
  have hisx := X.info
  have honx := X.one
  have hzx : Zs.toArray.size = X.cs.length := by rw [HZL.out, Sec.cs_len]
  have HZX := Lib.hid hzx
  clear a0 a1 a2 K4 B4 KX O4 b4 HK3 hzx hX
  simp only [Sec.v]
  generalize hea : sealErr k g n d.length = ea at *
  have HEA := Lib.hid hea
  clear hea
  simp only [boxCs] at hrl hil
  go_wp2_with (first
    | (refine wpList_store_newN rfl 33 (.tmp 4) (.tmp 30) rfl w4.heap.size rfl X.cs _ rfl rfl hisx HZX.out honx ?_)
    | (refine wpList_load_mid rfl 31 (.tmp 1) rfl w.heap.size 0 rfl [.int .i64 k, .int .i64 g, .int .i64 n, .slice A d.length c] _ hrl hul rfl hil ?_))
  generalize w4.alloc (.cells X.cs.toArray 33) = w5 at *
  generalize w4.heap.size = gx at *
  refine (dseal_any k g n A c d _ w5 (HX.out.since HK4.out.2.1)).mono ?_
  rintro e w6 ⟨rfl, b6⟩
  rw [HXq.out, HEA.out]
  have K6 := (HK4.out.1.below b6 HK4.out.1.lt).alloc (.cells X.cs.toArray 33)
  have B6 := HK4.out.2.1.trans (b6.mono HK4.out.2.1.size)
  have KX6 := (HK4.out.2.2.1.below b6 HK4.out.2.2.1.lt).alloc (.cells X.cs.toArray 33)
  have KY6 := Blk.new w6 33 X.cs.toArray
  have O6 := (HK4.out.2.2.2.below b6).alloc (.cells X.cs.toArray 33)
  have HK6 := Lib.hid (And.intro K6 (And.intro (B6.alloc B6.size (.cells X.cs.toArray 33)) (And.intro KX6 O6)))
  have hrx : World.rangeAt (w6.alloc (.cells X.cs.toArray 33)) gx 0 X.cs := KX6.range
  have hry : World.rangeAt (w6.alloc (.cells X.cs.toArray 33)) w6.heap.size 0 X.cs := KY6.range
  have a3 := (lbox_cells K6).2.2.2
  have hsq : secEq X X = !false := secEq_same X
  clear K6 B6 KX6 KY6 O6 b6 HK4 hrl
  simp only [Sec.v]
  go_wp2_with (first
    | (refine wpList_store_newN rfl 33 (.tmp 6) (.tmp 35) rfl w6.heap.size rfl X.cs _ rfl rfl hisx HZX.out honx ?_)
    | (refine wpListG_load_mid (by kernel_rfl) 33 (.tmp 4) rfl gx 0 rfl X.cs _ hrx husec rfl hisx ?_)
    | (refine wpListG_load_mid (by kernel_rfl) 33 (.tmp 6) rfl w6.heap.size 0 rfl X.cs _ hry husec rfl hisx ?_)
    | (refine wpListG_sec_neq (by kernel_rfl) (.tmp 37) (.tmp 38) rfl X X rfl rfl false hsq ?_))
  generalize w6.alloc (.cells X.cs.toArray 33) = w7 at *
  refine (num_any ea w7).mono ?_
  rintro e w8 ⟨he, hw⟩
  subst he
  subst hw
  go_wp2_with fail
  refine (kept_any A d.length c gc cap _ d w7 (by omega) hcap ((HX.out.since HK6.out.2.1).more HB2.out) HK6.out.2.2.2).mono ?_
  rintro e w8 ⟨rfl, b8⟩
  have K8 := HK6.out.1.below b8 HK6.out.1.lt
  have B8 := HK6.out.2.1.trans (b8.mono HK6.out.2.1.size)
  have KX8 := HK6.out.2.2.1.below b8 HK6.out.2.2.1.lt
  have hr8 : World.rangeAt w8 gx 0 X.cs := KX8.range
  have HK8 := Lib.hid (And.intro K8 (And.intro B8 KX8))
  clear K8 B8 KX8 b8 HK6 hrx hry a3
  cases ea with
  | succ ea =>
    have hne : (((ea + 1 : Nat) : Int) != 0) = true := by simp; omega
    have hne2 : ((ea : Int) + 1 != 0) = true := by simp; omega
    go_wp2
    go_ret
    exact ⟨rfl, HK8.out.2.1⟩
  | zero =>
    obtain ⟨hb, hl⟩ := sealErr_zero HEA.out
    have hxl := HXl.out hb hl
    have hss : isSealed X.l = true := by rw [hxl]; exact isSealed_seal k g n d hb hl
    obtain ⟨t1, t2, t3, t4, t5⟩ := told_seal k g n d hb hl
    rw [← hxl] at t1 t2 t3 t4 t5
    have hof : isOf X.l k g n = true := by unfold isOf; rw [hss, t1, t2, t3]; simp
    have HS := Lib.hid (And.intro hss hof)
    have H5 := Lib.hid t5
    clear hxl hss t4 hof hb hl
    simp only [errV]
    go_wp2_with (refine wpList_load_mid rfl 33 (.tmp 4) rfl gx 0 rfl X.cs _ hr8 husec rfl hisx ?_)
    refine (open_good X w8 (HT.out.below HK8.out.2.1) HS.out.1).mono ?_
    rw [t1, t2, t3, H5.out]
    rintro e w9 ⟨A9, c9, rfl, ho9, b9⟩
    have hib : (Tryd.prog.info? 38).map (·.size) = some (boxCs k g n (.slice A9 d.length c9)).length := box_size
    have hone := boxCs_one k g n A9 d.length c9
    have K9 := (HK8.out.1.below b9 HK8.out.1.lt).alloc (.cells (boxCs k g n (.slice A9 d.length c9)).toArray 38)
    have B9 := HK8.out.2.1.trans (b9.mono HK8.out.2.1.size)
    have KX9 := (HK8.out.2.2.below b9 HK8.out.2.2.lt).alloc (.cells (boxCs k g n (.slice A9 d.length c9)).toArray 38)
    have KB9 := Blk.new w9 38 (boxCs k g n (.slice A9 d.length c9)).toArray
    have hr9 : World.rangeAt (w9.alloc (.cells (boxCs k g n (.slice A9 d.length c9)).toArray 38)) gx 0 X.cs := KX9.range
    obtain ⟨a0, a1, a2, -⟩ := lbox_cells K9
    have O9 := (ho9.weaken HK8.out.2.1.size).alloc (.cells (boxCs k g n (.slice A9 d.length c9)).toArray 38)
    have hlt9 : ∀ b, (Value.slice A9 d.length c9).ownBlock = some b → b < (w9.alloc (.cells (boxCs k g n (.slice A9 d.length c9)).toArray 38)).heap.size := fun b hb => (World.ownsRow.lt O9 b hb).2
    have HK9 := Lib.hid (And.intro K9 (And.intro (B9.alloc B9.size (.cells (boxCs k g n (.slice A9 d.length c9)).toArray 38)) (And.intro KB9 (And.intro O9 hlt9))))
    clear K9 B9 KX9 KB9 O9 hlt9 ho9 b9 HK8 hr8
    simp only [boxCs] at hib hone
    go_wp2_with (first
      | (refine wpList_store_newN rfl 38 (.tmp 8) (.tmp 58) rfl w9.heap.size rfl (boxCs k g n (.slice A9 d.length c9)) _ rfl rfl hib rfl hone ?_)
      | (refine wpList_load_mid rfl 33 (.tmp 4) rfl gx 0 rfl X.cs _ hr9 husec rfl hisx ?_))
    generalize w9.alloc (.cells (boxCs k g n (.slice A9 d.length c9)).toArray 38) = w10 at *
    generalize w9.heap.size = gb at *
    refine (is_yes X k g n w10 (HT.out.below HK9.out.2.1) HS.out.2).mono ?_
    rw [H5.out]
    rintro e w11 ⟨A11, c11, rfl, ho11, b11⟩
    obtain ⟨a0, a1, a2, a3⟩ := lbox_cells (HK9.out.1.below b11 HK9.out.1.lt)
    obtain ⟨e0, e1, e2, e3⟩ := box_cells (HK9.out.2.2.1.below b11 HK9.out.2.2.1.lt)
    have B11 := HK9.out.2.1.trans (b11.mono HK9.out.2.1.size)
    have O11 := HK9.out.2.2.2.1.below b11
    have hlt9 := HK9.out.2.2.2.2
    clear hr9
    have HK11 := Lib.hid (And.intro B11 (And.intro O11 (And.intro ho11 hlt9)))
    have HQ : Hid ((d == d) = true) := Lib.hid (beq_self_eq_true d)
    have HP := Lib.hid HK9.out.2.1.size
    clear B11 O11 b11 HK9 hlt9
    go_wp2_with fail
    refine (same_iff A9 A d.length d.length c9 c w11.heap.size w.heap.size d d w11 (HK11.out.2.1.bytes HX.out.2) (HX.out.since HK11.out.1)).mono ?_
    rw [HQ.out]
    rintro e w12 ⟨rfl, rfl⟩
    go_wp2_with fail
    refine (same_iff A11 A d.length d.length c11 c w11.heap.size w.heap.size d d w11 (HK11.out.2.2.1.bytes HX.out.2) (HX.out.since HK11.out.1)).mono ?_
    rw [HQ.out]
    rintro e w12 ⟨rfl, rfl⟩
    go_wp2_with fail
    have hR := Reads.new w11 (hdr (fun i => if i = 0 then Value.slice A9 d.length c9 else Value.slice A11 d.length c11) 2) 22 (0, 0)
    have ho1 := HK11.out.2.1.alloc (.cells #[Value.slice A9 d.length c9, Value.slice A11 d.length c11] 22)
    have ho2 := HK11.out.2.2.1.alloc (.cells #[Value.slice A9 d.length c9, Value.slice A11 d.length c11] 22)
    refine (apart_any (some ⟨w11.heap.size, 0, none⟩) 2 2 (w11.heap.size + 1) w.heap.size (fun i => if i = 0 then Value.slice A9 d.length c9 else Value.slice A11 d.length c11) (fun i => if i = 0 then d.length else d.length)
      (w11.alloc (.cells #[Value.slice A9 d.length c9, Value.slice A11 d.length c11] 22)) (by omega) hR (fun i _ => by have := la; show (if i = 0 then d.length else d.length) ≤ 100000; split <;> omega) (two_rows ho1 ho2 (by have := HP.out; omega) HK11.out.2.2.2)
      (fun ad had i _ e => by
        injection had with had
        subst had
        change Value.ownBlock (if i = 0 then Value.slice A9 d.length c9 else Value.slice A11 d.length c11) = _ at e
        by_cases hi : i = 0
        · rw [if_pos hi] at e
          have := (World.ownsRow.lt HK11.out.2.1 _ e).2
          exact absurd this (Nat.lt_irrefl _)
        · rw [if_neg hi] at e
          have := (World.ownsRow.lt HK11.out.2.2.1 _ e).2
          exact absurd this (Nat.lt_irrefl _))
      (by rw [World.size_alloc]; have := HK11.out.1.size; omega)).mono ?_
    rintro e w13 ⟨rfl, b13⟩
    have B13 := Lib.hid ((HK11.out.1.alloc HK11.out.1.size (.cells #[Value.slice A9 d.length c9, Value.slice A11 d.length c11] 22)).trans b13)
    clear hR ho1 ho2 b13
    go_wp2
    go_ret
    exact ⟨rfl, B13.out⟩
end Go.Proofs.YtgdkpmgfholnkaaDoor
