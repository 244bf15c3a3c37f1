/-
  The program's own sector of a box. Conditions: its data read as bytes, no more than 106; the package's table holds its sixteen numbers.
-/
import Derived.Test.YtgdkpmgfholnkaaDoorBoxI
namespace Go.Proofs.YtgdkpmgfholnkaaDoor
open Go.RowKit
set_option linter.unusedSimpArgs false
set_option linter.unusedVariables false
theorem writer_zero (w : World) : (zeroValue 75).run Tryd.prog w = .ok (.agg #[.slice none 0 0]) w := by kernel_rfl
theorem Wr.made (w : World) : Wr (w.alloc (.cells #[.slice none 0 0] 75)) w.heap.size [w.heap.size] (some ⟨w.heap.size, 0, none⟩) [] :=
  .inr ⟨_, rfl, .slice none 0 0, by simp [rowOf, Value.ownBlock], Blk.new _ _ _, Own.nil _ _, Nat.le_refl _, fun b hb => by cases hb⟩
theorem Tab.low {w w' : World} {B : Nat} (h : Tab w) (hb : Below B w w') (hB : 0 < B) : Tab w' := fun i hi => (hb.cell (p := ⟨0, i, none⟩) hB).trans (h i hi)
theorem mid_one (k g n : Int) (d : List Nat) (m : Nat) (hm : d.length = m) : (List.replicate 128 0).take 4 ++ headOf k g n m ++ (List.replicate 128 0).drop (4 + 18) = List.replicate 4 0 ++ headOf k g n d.length ++ List.replicate 106 0 := by
  subst hm
  rw [List.take_replicate, List.drop_replicate]
  rfl
theorem mid_two (k g n : Int) (d : List Nat) (h : d.length ≤ 106) : (List.replicate 4 0 ++ headOf k g n d.length ++ List.replicate 106 0).take 22 ++ d ++ (List.replicate 4 0 ++ headOf k g n d.length ++ List.replicate 106 0).drop (22 + d.length) = List.replicate 4 0 ++ bodyOf k g n d := by
  have hl : (List.replicate 4 0 ++ headOf k g n d.length).length = 22 := by simp [headOf_len]
  rw [List.take_left' hl, ← List.drop_drop, List.drop_left' hl, List.drop_replicate]
  simp [bodyOf]
theorem fill_sum (s j : Nat) (l : List Nat) (hj : j < 4) : (le j s ++ List.replicate (4 - j) 0 ++ l).set j (s / 256 ^ j % 256) = le (j + 1) s ++ List.replicate (4 - (j + 1)) 0 ++ l := by
  obtain ⟨r, hr⟩ : ∃ r, 4 - j = r + 1 := ⟨3 - j, by omega⟩
  rw [hr, show 4 - (j + 1) = r by omega, le_snoc, List.replicate_succ, List.append_assoc, List.set_append_right _ _ (by rw [le_len]; omega), le_len, Nat.sub_self]
  simp
theorem u8s_set (l : List Nat) (j b : Nat) : (u8s l).toArray.setIfInBounds j (.int .u8 b) = (u8s (l.set j b)).toArray := by
  simp [u8s, u8]
theorem u8s_at {l : List Nat} {j b : Nat} (h : l[j]? = some b) : (u8s l).toArray[j]? = some (.int .u8 b) := by simp [u8s, u8, h]
theorem fill_at (s j : Nat) (l : List Nat) (hj : j < 4) : (le j s ++ List.replicate (4 - j) 0 ++ l)[j]? = some 0 := by
  rw [List.append_assoc, List.getElem?_append_right (by rw [le_len]; omega), le_len, Nat.sub_self, List.getElem?_append_left (by simp; omega), List.getElem?_replicate, if_pos (by omega)]
theorem shr_byte (s j : Nat) : (s : Int) / 2 ^ (8 * j) % 256 = ((s / 256 ^ j % 256 : Nat) : Int) := by
  rw [show (256 : Nat) ^ j = 2 ^ (8 * j) from by rw [Nat.pow_mul]]
  simp
/-- where sealed stands: the writer has bs; the box's own cells and the answer's are there -/
structure SW (w0 w : World) (base : Nat) (F : List Nat) (gw : Nat) (bs : List Nat) (gb : Nat) (t : TypeId) (cs : Array Value) (gr : Nat) (t' : TypeId) (zs : Array Value) : Prop where
  wr : Wr w base F (some ⟨gw, 0, none⟩) bs
  bel : Below w0.heap.size w0 w
  box : Blk w gb t cs
  ans : Blk w gr t' zs
  lt : gb < base ∧ gr < base ∧ w0.heap.size ≤ base ∧ base ≤ w.heap.size
theorem SW.step {w0 w w' : World} {base : Nat} {F : List Nat} {gw : Nat} {bs bs' : List Nat} {gb : Nat} {t : TypeId} {cs : Array Value} {gr : Nat} {t' : TypeId} {zs : Array Value} (h : SW w0 w base F gw bs gb t cs gr t' zs) (r : WTo w base F (some ⟨gw, 0, none⟩) bs' w') : ∃ F', SW w0 w' base F' gw bs' gb t cs gr t' zs := by
  obtain ⟨F', h1, h2, h3⟩ := r
  obtain ⟨l1, l2, l3, l4⟩ := h.lt
  have hb : Below base w w' := h2.below h.wr.over l4
  exact ⟨F', h1, h.bel.trans (hb.mono l3), h.box.below hb l1, h.ans.below hb l2, l1, l2, l3, Nat.le_trans l4 h2.size⟩
theorem SW.below {w0 w w' : World} {base : Nat} {F : List Nat} {gw : Nat} {bs : List Nat} {gb : Nat} {t : TypeId} {cs : Array Value} {gr : Nat} {t' : TypeId} {zs : Array Value} (h : SW w0 w base F gw bs gb t cs gr t' zs) (hb : Below w.heap.size w w') : SW w0 w' base F gw bs gb t cs gr t' zs :=
  ⟨h.wr.below hb, h.bel.trans (hb.mono (Nat.le_trans h.lt.2.2.1 h.lt.2.2.2)), h.box.below hb h.box.lt, h.ans.below hb h.ans.lt, h.lt.1, h.lt.2.1, h.lt.2.2.1, Nat.le_trans h.lt.2.2.2 hb.size⟩
theorem box_cells {w : World} {g : Nat} {k x n : Int} {v : Value} (h : Blk w g 38 #[.int .i64 k, .int .i64 x, .int .i64 n, v]) : w.cell? ⟨g, 0, none⟩ = some (.int .i64 k) ∧ w.cell? ⟨g, 1, none⟩ = some (.int .i64 x) ∧ w.cell? ⟨g, 2, none⟩ = some (.int .i64 n) ∧ w.cell? ⟨g, 3, none⟩ = some v :=
  ⟨by rw [h.cell]; rfl, by rw [h.cell]; rfl, by rw [h.cell]; rfl, by rw [h.cell]; rfl⟩
set_option maxRecDepth 100000 in
set_option maxHeartbeats 2000000 in
theorem sealed_any (k g n : Int) (A : Option Addr) (c : Nat) (d : List Nat) (B : Nat) (w : World) (hd : Bytes w B A d.length d) (hl : d.length ≤ 106) (h256 : ∀ b ∈ d, b < 256) (hT : Tab w) :
    Calls Tryd.prog 30 #[.agg #[.int .i64 k, .int .i64 g, .int .i64 n, .slice A d.length c]] w fun e w' => e = .returned (sealSec k g n d hl h256).v ∧ Below w.heap.size w w' := by
  obtain ⟨Zs, hZ, hZs⟩ : ∃ Zs : List Value, (∀ w, (zeroValue 33).run Tryd.prog w = .ok (.agg Zs.toArray) w) ∧ Zs = u8s (List.replicate 128 0) := ⟨Sec.zero.cs, sec_zero, rfl⟩
  have hwz := writer_zero
  obtain ⟨kb, hkb, hkb2⟩ : ∃ kb : Nat, IntKind.u8.wrap k = (kb : Int) ∧ kb = (k % 256).toNat := ⟨_, by rw [IntKind.wrap_u8]; omega, rfl⟩
  have hkb3 : k % 256 = (kb : Int) := by omega
  have HZs := Lib.hid hZs
  have HKB := Lib.hid hkb2
  have HD := Lib.hid hd
  have HT := Lib.hid hT
  have hTp := hT.pos
  have K0 := ((Blk.new w 38 #[.int .i64 k, .int .i64 g, .int .i64 n, .slice A d.length c]).alloc (.cells Zs.toArray 33)).alloc (.cells #[.slice none 0 0] 75)
  have K1 := (Blk.new (w.alloc (.cells #[.int .i64 k, .int .i64 g, .int .i64 n, .slice A d.length c] 38)) 33 Zs.toArray).alloc (.cells #[.slice none 0 0] 75)
  have W0 := Wr.made ((w.alloc (.cells #[.int .i64 k, .int .i64 g, .int .i64 n, .slice A d.length c] 38)).alloc (.cells Zs.toArray 33))
  simp only [World.size_alloc] at K0 K1 W0
  have b0 : Below w.heap.size w (((w.alloc (.cells #[.int .i64 k, .int .i64 g, .int .i64 n, .slice A d.length c] 38)).alloc (.cells Zs.toArray 33)).alloc (.cells #[.slice none 0 0] 75)) := ((below_alloc w _).alloc (by simp) _).alloc (by simp; omega) _
  have hs0 : (((w.alloc (.cells #[.int .i64 k, .int .i64 g, .int .i64 n, .slice A d.length c] 38)).alloc (.cells Zs.toArray 33)).alloc (.cells #[.slice none 0 0] 75)).heap.size = w.heap.size + 1 + 1 + 1 := by simp
  have S0 : SW w (((w.alloc (.cells #[.int .i64 k, .int .i64 g, .int .i64 n, .slice A d.length c] 38)).alloc (.cells Zs.toArray 33)).alloc (.cells #[.slice none 0 0] 75)) (w.heap.size + 1 + 1) [w.heap.size + 1 + 1] (w.heap.size + 1 + 1) [] w.heap.size 38 #[.int .i64 k, .int .i64 g, .int .i64 n, .slice A d.length c] (w.heap.size + 1) 33 Zs.toArray :=
    ⟨W0, b0, K0, K1, by omega, by omega, by omega, by omega⟩
  have HS0 := Lib.hid S0
  clear hZs hkb2 hd hT K0 K1 W0 b0 S0
  have hlb : IntKind.u8.wrap (d.length : Int) = (d.length : Int) := by rw [IntKind.wrap_u8]; omega
  have hlb2 : (d.length : Int) % 256 = (d.length : Int) := by omega
  go_enter Tryd.func30, Tryd.ntmps30
  go_wp2_with fail
  generalize ((w.alloc (.cells #[.int .i64 k, .int .i64 g, .int .i64 n, .slice A d.length c] 38)).alloc (.cells Zs.toArray 33)).alloc (.cells #[.slice none 0 0] 75) = w3 at *
  generalize hgw : w.heap.size + 1 + 1 = gw at *
  refine (wbyte_any w3 gw _ _ [] kb HS0.out.wr (by simp) (by omega) (by omega)).mono ?_
  rintro e w4 ⟨rfl, t4⟩
  obtain ⟨F4, S4⟩ := HS0.out.step t4
  have c4 := (box_cells S4.box).2.1
  have HS4 := Lib.hid S4
  clear t4 S4 HS0 hkb hkb3
  go_wp2_with fail
  refine (wnum_any w4 gw _ _ _ g HS4.out.wr (by simp [plus]) HS4.out.lt.2.2.2).mono ?_
  rintro e w5 ⟨rfl, t5⟩
  obtain ⟨F5, S5⟩ := HS4.out.step t5
  have c5 := (box_cells S5.box).2.2.1
  have HS5 := Lib.hid S5
  clear t5 S5 HS4 c4
  go_wp2_with fail
  refine (wnum_any w5 gw _ _ _ n HS5.out.wr (by simp [plus, numB_len]) HS5.out.lt.2.2.2).mono ?_
  rintro e w6 ⟨rfl, t6⟩
  obtain ⟨F6, S6⟩ := HS5.out.step t6
  have c6 := (box_cells S6.box).2.2.2
  have HS6 := Lib.hid S6
  clear t6 S6 HS5 c5
  go_wp2_with fail
  refine (wbyte_any w6 gw _ _ _ d.length HS6.out.wr (by simp [plus, numB_len]) HS6.out.lt.2.2.2 (by omega)).mono ?_
  rintro e w7 ⟨rfl, t7⟩
  obtain ⟨F7, S7⟩ := HS6.out.step t7
  have hhead : plus (some ⟨gw, 0, none⟩) (plus (some ⟨gw, 0, none⟩) (plus (some ⟨gw, 0, none⟩) (plus (some ⟨gw, 0, none⟩) [] [kb]) (numB g)) (numB n)) [d.length] = headOf k g n d.length := by
    rw [headOf, ← HKB.out]; simp [plus]
  rw [hhead] at S7
  have hs7 := S7.lt.2.2.2
  have K8 := Blk.new w7 33 Zs.toArray
  have S8 := S7.below (below_alloc w7 (.cells Zs.toArray 33))
  have hs8 : (w7.alloc (.cells Zs.toArray 33)).heap.size = w7.heap.size + 1 := by simp
  have HS8 := Lib.hid (And.intro S8 K8)
  clear t7 S7 HS6 c6 hhead S8 K8 hlb hlb2
  go_wp2_with fail
  generalize w7.alloc (.cells Zs.toArray 33) = w8 at *
  generalize hgs : w7.heap.size = gs at *
  refine any_begin (by kernel_rfl) ?_
  refine wpAny_take (i := 0) (v := .slice (some ⟨gs, 4, none⟩) 124 124) rfl (by kernel_rfl) (by kernel_rfl) (by kernel_rfl) (fun _ _ _ h => h) (Or.inl ⟨by rfl, fun w => by go_simp⟩) ?_
  simp only [Act.put, List.getElem_toArray, List.getElem_cons_succ, List.getElem_cons_zero, List.setIfInBounds_toArray, List.set_cons_zero, List.set_cons_succ]
  refine wpAny_take (i := 1) (v := .pointer (some ⟨gw, 0, none⟩)) rfl (by kernel_rfl) (by kernel_rfl) (by kernel_rfl) (fun _ _ _ h => h) (Or.inl ⟨by rfl, fun w => by kernel_rfl⟩) ?_
  simp only [Act.put, List.getElem_toArray, List.getElem_cons_succ, List.getElem_cons_zero, List.setIfInBounds_toArray, List.set_cons_zero, List.set_cons_succ]
  refine do_one (i := 2) (by kernel_rfl) rfl (by rfl) ?_
  simp only [Act.put, List.getElem_toArray, List.getElem_cons_succ, List.getElem_cons_zero, List.setIfInBounds_toArray, List.set_cons_zero, List.set_cons_succ]
  refine wp_called (by kernel_rfl) (out_any w8.drew gw F7 _ _ (HS8.out.1.wr.of (fun _ _ => rfl)) (by rw [headOf_len]; omega)) ?_
  rintro e w9 ⟨v, rfl, ho, b9⟩
  refine ⟨_, rfl, ?_⟩
  simp only [Act.put, List.getElem_toArray, List.getElem_cons_succ, List.getElem_cons_zero, List.setIfInBounds_toArray, List.set_cons_zero, List.set_cons_succ]
  have b89 : Below w8.heap.size w8 w9 := ((Below.refl _ w8).drew).trans b9
  have S9 := HS8.out.1.below b89
  have K9 := HS8.out.2.below b89 HS8.out.2.lt
  rw [HZs.out] at K9
  obtain ⟨Ao, co, rfl, -, -, -⟩ := ho.form
  have hby := ho.bytes (headOf_lt k g n d.length (by omega))
  rw [headOf_len] at hby
  rw [headOf_len]
  refine do_one (i := 3) (by kernel_rfl) rfl (by rfl) ?_
  simp only [Act.put, List.getElem_toArray, List.getElem_cons_succ, List.getElem_cons_zero, List.setIfInBounds_toArray, List.set_cons_zero, List.set_cons_succ]
  refine wp_copy_mid (.tmp 28) (.tmp 30) rfl gs 4 124 124 33 (List.replicate 128 0) K9 (by rfl) Ao 18 co _ _ (by rfl) hby (by omega) (by simp) ?_
  intro w10 K10 o10
  simp only [Act.put, List.getElem_toArray, List.getElem_cons_succ, List.getElem_cons_zero, List.setIfInBounds_toArray, List.set_cons_zero, List.set_cons_succ]
  refine wpAny_done (by kernel_rfl) ?_ _
  refine NoPanic.normal ?_
  rw [mid_one k g n d d.length rfl] at K10
  have B9 := Lib.hid S9.bel
  have T10 : Blk w10 w.heap.size 38 #[.int .i64 k, .int .i64 g, .int .i64 n, .slice A d.length c] ∧ Blk w10 (w.heap.size + 1) 33 Zs.toArray ∧ Below w.heap.size w w10 :=
    ⟨S9.box.of (o10.block _ S9.box.lt (by simp; omega)), S9.ans.of (o10.block _ S9.ans.lt (by simp; omega)), S9.bel.trans (o10.below (fun j hj => by simp at hj; omega) S9.bel.size)⟩
  have HT10 := Lib.hid T10
  have HK10 := Lib.hid K10
  have c10 := (box_cells T10.1).2.2.2
  clear S9 K9 ho hby b9 b89 HS8 o10 K10 T10
  go_wp2_with fail
  refine any_begin (by kernel_rfl) ?_
  refine wpAny_take (i := 0) (v := .slice (some ⟨gs, 22, none⟩) 106 106) rfl (by kernel_rfl) (by kernel_rfl) (by kernel_rfl) (fun _ _ _ h => h) (Or.inl ⟨by rfl, fun w => by go_simp⟩) ?_
  simp only [Act.put, List.getElem_toArray, List.getElem_cons_succ, List.getElem_cons_zero, List.setIfInBounds_toArray, List.set_cons_zero, List.set_cons_succ]
  refine wpAny_take (i := 1) (v := .pointer (some ⟨w.heap.size, 3, none⟩)) rfl (by kernel_rfl) (by kernel_rfl) (by kernel_rfl) (fun _ _ _ h => h) (Or.inl ⟨by rfl, fun w => by kernel_rfl⟩) ?_
  simp only [Act.put, List.getElem_toArray, List.getElem_cons_succ, List.getElem_cons_zero, List.setIfInBounds_toArray, List.set_cons_zero, List.set_cons_succ]
  refine do_one (i := 2) (by kernel_rfl) rfl (by rfl) ?_
  simp only [Act.put, List.getElem_toArray, List.getElem_cons_succ, List.getElem_cons_zero, List.setIfInBounds_toArray, List.set_cons_zero, List.set_cons_succ]
  have c10' : w10.drew.cell? ⟨w.heap.size, 3, none⟩ = some (.slice A d.length c) := c10
  refine wp_ran (v := .slice A d.length c) (w' := w10.drew) (by go_simp) ?_
  simp only [Act.put, List.getElem_toArray, List.getElem_cons_succ, List.getElem_cons_zero, List.setIfInBounds_toArray, List.set_cons_zero, List.set_cons_succ]
  refine do_one (i := 3) (by kernel_rfl) rfl (by rfl) ?_
  simp only [Act.put, List.getElem_toArray, List.getElem_cons_succ, List.getElem_cons_zero, List.setIfInBounds_toArray, List.set_cons_zero, List.set_cons_succ]
  have hdd : Bytes w10.drew B A d.length d := (HD.out.since HT10.out.2.2).drew
  refine wp_copy_mid (.tmp 32) (.tmp 34) rfl gs 22 106 106 33 _ HK10.out.drew (by rfl) A d.length c _ _ (by rfl) hdd hl (by simp [headOf_len]; omega) ?_
  intro w11 K11 o11
  simp only [Act.put, List.getElem_toArray, List.getElem_cons_succ, List.getElem_cons_zero, List.setIfInBounds_toArray, List.set_cons_zero, List.set_cons_succ]
  refine wpAny_done (by kernel_rfl) ?_ _
  refine NoPanic.normal ?_
  rw [mid_two k g n d hl] at K11
  have T11 : Blk w11 (w.heap.size + 1) 33 Zs.toArray ∧ Below w.heap.size w w11 :=
    ⟨HT10.out.2.1.of (o11.block _ HT10.out.2.1.lt (by simp; omega)), HT10.out.2.2.drew.trans (o11.below (fun j hj => by simp at hj; omega) HT10.out.2.2.drew.size)⟩
  have h11 : Bytes w11 w11.heap.size (some ⟨gs, 4, none⟩) 124 (bodyOf k g n d) := by
    have := K11.bytes (off := 4) (n := 124) (by simp [bodyOf_len k g n d hl]) (fun b hb => by
      rcases List.mem_append.1 hb with hb | hb
      · obtain ⟨_, rfl⟩ := List.mem_replicate.1 hb; omega
      · exact bodyOf_lt k g n d hl h256 b hb)
    rw [List.drop_left' (by simp), List.take_of_length_le (by rw [bodyOf_len k g n d hl]; omega)] at this
    exact this
  have P11 := Lib.hid (Parts.new1 w11 (c := 124) 22 h11 (by omega))
  have HT11 := Lib.hid (HT.out.low (T11.2.alloc T11.2.size (.cells #[.slice (some ⟨gs, 4, none⟩) 124 124] 22)) hTp)
  have HA11 := Lib.hid (And.intro (T11.1.alloc (.cells #[.slice (some ⟨gs, 4, none⟩) 124 124] 22)) (T11.2.alloc T11.2.size (.cells #[.slice (some ⟨gs, 4, none⟩) 124 124] 22)))
  have HK11 := Lib.hid (K11.alloc (.cells #[.slice (some ⟨gs, 4, none⟩) 124 124] 22))
  clear T11 K11 h11 o11 hdd c10 c10' HT10 HK10
  go_wp2_with fail
  generalize w11.alloc (.cells #[.slice (some ⟨gs, 4, none⟩) 124 124] 22) = w12 at *
  refine (sum_any _ _ _ _ _ w12 (by omega) P11.out HT11.out).mono ?_
  rintro e w13 ⟨rfl, rfl⟩
  rw [textOf1]
  have hs13 : Crc.sum (bodyOf k g n d) < 4294967296 := Crc.go_lt _ _
  have hbl := bodyOf_len k g n d hl
  have HSL : Hid (le 4 (Crc.sum (bodyOf k g n d)) ++ List.replicate (4 - 4) 0 ++ bodyOf k g n d = sealL k g n d) := Lib.hid (by simp [sealL])
  generalize Crc.sum (bodyOf k g n d) = sm at *
  generalize bodyOf k g n d = bd at *
  clear P11 HT11 hbl
  go_wp2
  go_loopw [39] (fun i wr => ∃ j : Nat, j ≤ 4 ∧ i = .int .i64 j ∧ Blk wr gs 33 (u8s (le j sm ++ List.replicate (4 - j) 0 ++ bd)).toArray ∧ Blk wr (w.heap.size + 1) 33 Zs.toArray ∧ Below w.heap.size w wr) (fun i _ => 4 - (intOf i).toNat)
  case atStart => exact ⟨0, by omega, rfl, by simpa [le] using HK11.out, HA11.out.1, HA11.out.2⟩
  case round =>
    obtain ⟨j, hj, rfl, hk1, hk2, hB⟩ := hrel
    clear HK11 HA11
    by_cases hlt : j < 4
    · have HK := Lib.hid (And.intro hk1 (And.intro hk2 hB))
      have hfz := hk1.frozen j
      have hc : wr.cell? ⟨gs, j, none⟩ = some (.int .u8 (0 : Nat)) := by rw [hk1.cell]; exact u8s_at (fill_at sm j bd hlt)
      have hval := shr_byte sm j
      have HV := Lib.hid hval
      clear hk1 hk2 hB hval
      go_wp2
      go_roundw
      case rel =>
        refine ⟨j + 1, by omega, by go_num, ?_, HK.out.2.1.far (by show w.heap.size + 1 ≠ gs; omega) _, HK.out.2.2.setCell (by show w.heap.size ≤ gs; omega) _⟩
        have := HK.out.1.set_ j (.int .u8 ((sm / 256 ^ j % 256 : Nat) : Int))
        rw [u8s_set, fill_sum sm j bd hlt] at this
        rw [HV.out]
        exact this
      case measure => simp [intOf]; omega
    · obtain rfl : j = 4 := by omega
      rw [HSL.out] at hk1
      have hr : wr.rangeAt gs 0 (sealSec k g n d hl h256).cs := Blk.range (cs := (sealSec k g n d hl h256).cs) hk1
      have hu := Tryd.underlying33
      have hi2 := (sealSec k g n d hl h256).info
      have hia := (sealSec k g n d hl h256).infoA
      have hzl : Zs.length = 128 := by rw [HZs.out, u8s_length]; simp
      have hth := hk2.there (o := 0) (n := (sealSec k g n d hl h256).cs.toArray.size) (by simp [Sec.cs_len, hzl])
      have hb3 := hk2.over (sealSec k g n d hl h256).cs (by simp [Sec.cs_len, hzl])
      have hsg := setCells_grown (w.heap.size + 1) (sealSec k g n d hl h256).cs 0 wr
      have hone := (sealSec k g n d hl h256).one
      have HE := Lib.hid (And.intro hb3 (And.intro hsg.1 hB))
      clear hk1 hk2 hB hzl hsg hb3
      generalize hS : sealSec k g n d hl h256 = S at *
      have HS := Lib.hid hS
      clear hS
      go_wp2_with (first
        | (refine wpList_load_mid rfl 33 (.tmp 4) rfl gs 0 rfl S.cs _ hr hu rfl hi2 ?_)
        | (refine wpList_store_mid rfl 33 (.tmp 2) (.tmp 50) rfl (w.heap.size + 1) 0 S.cs.toArray rfl rfl hth hia (all_oneCell_toArray hone) ?_))
      refine bodyPost_ret (sec_results1 rfl _ _ (w.heap.size + 1) S rfl HE.out.1) rfl ?_
      exact ⟨by rw [HS.out], HE.out.2.2.grown HE.out.2.1 HE.out.2.2.size (fun j e => by injection e with e; omega)⟩
end Go.Proofs.YtgdkpmgfholnkaaDoor
