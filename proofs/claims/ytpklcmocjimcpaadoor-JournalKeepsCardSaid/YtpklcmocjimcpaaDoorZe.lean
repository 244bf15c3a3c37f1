/-
  What the program says of a box's numbers. No condition.
-/
import Derived.Test.YtpklcmocjimcpaaDoorZd
import Derived.Deep.QuietTactic
import Derived.BigQuiet
import Derived.WideShapes
import Derived.Laws.Strings

namespace Go.Proofs.YtpklcmocjimcpaaDoor
open Go.RowKit
set_option maxRecDepth 100000
set_option linter.unusedSimpArgs false
set_option linter.unusedVariables false
theorem isbox_any (k g n : Int) (w : World) : Calls Tryd.prog 68 #[.int .i64 k, .int .i64 g, .int .i64 n] w fun e w' => e = .returned (.bool (isBoxB k g n)) ∧ w = w' := by
  by_cases h1 : 1 ≤ k
  case neg =>
    have hb : isBoxB k g n = false := by unfold isBoxB; exact decide_eq_false (by omega)
    rw [hb]
    have hd0 : decide (1 ≤ k) = false := decide_eq_false h1
    clear hb h1
    go_enter Tryd.func68, Tryd.ntmps68
    go_wp2
    go_ret
    exact ⟨rfl, rfl⟩
  have hd0 : decide (1 ≤ k) = true := decide_eq_true h1
  by_cases h2 : k ≤ 255
  case neg =>
    have hb : isBoxB k g n = false := by unfold isBoxB; exact decide_eq_false (by omega)
    rw [hb]
    have hd1 : decide (k ≤ 255) = false := decide_eq_false h2
    clear hb h2
    go_enter Tryd.func68, Tryd.ntmps68
    go_wp2
    go_ret
    exact ⟨rfl, rfl⟩
  have hd1 : decide (k ≤ 255) = true := decide_eq_true h2
  by_cases h3 : 0 ≤ g
  case neg =>
    have hb : isBoxB k g n = false := by unfold isBoxB; exact decide_eq_false (by omega)
    rw [hb]
    have hd2 : decide (0 ≤ g) = false := decide_eq_false h3
    clear hb h3
    go_enter Tryd.func68, Tryd.ntmps68
    go_wp2
    go_ret
    exact ⟨rfl, rfl⟩
  have hd2 : decide (0 ≤ g) = true := decide_eq_true h3
  by_cases h4 : g ≤ 4611686018427387904
  case neg =>
    have hb : isBoxB k g n = false := by unfold isBoxB; exact decide_eq_false (by omega)
    rw [hb]
    have hd3 : decide (g ≤ 4611686018427387904) = false := decide_eq_false h4
    clear hb h4
    go_enter Tryd.func68, Tryd.ntmps68
    go_wp2
    go_ret
    exact ⟨rfl, rfl⟩
  have hd3 : decide (g ≤ 4611686018427387904) = true := decide_eq_true h4
  by_cases h5 : 0 ≤ n
  case neg =>
    have hb : isBoxB k g n = false := by unfold isBoxB; exact decide_eq_false (by omega)
    rw [hb]
    have hd4 : decide (0 ≤ n) = false := decide_eq_false h5
    clear hb h5
    go_enter Tryd.func68, Tryd.ntmps68
    go_wp2
    go_ret
    exact ⟨rfl, rfl⟩
  have hd4 : decide (0 ≤ n) = true := decide_eq_true h5
  by_cases h6 : n ≤ 2147483647
  case neg =>
    have hb : isBoxB k g n = false := by unfold isBoxB; exact decide_eq_false (by omega)
    rw [hb]
    have hd5 : decide (n ≤ 2147483647) = false := decide_eq_false h6
    clear hb h6
    go_enter Tryd.func68, Tryd.ntmps68
    go_wp2
    go_ret
    exact ⟨rfl, rfl⟩
  have hd5 : decide (n ≤ 2147483647) = true := decide_eq_true h6
  have hb : isBoxB k g n = true := by unfold isBoxB; exact decide_eq_true (by omega)
  rw [hb]
  clear hb
  go_enter Tryd.func68, Tryd.ntmps68
  go_wp2
  go_ret
  exact ⟨rfl, rfl⟩
end Go.Proofs.YtpklcmocjimcpaaDoor

/-
  The program's own sector of a box. Conditions: its data read as bytes, no more than 106; the package's table holds its sixteen numbers.
-/
namespace Go.Proofs.YtpklcmocjimcpaaDoor
open Go.RowKit
set_option maxRecDepth 100000
set_option linter.unusedSimpArgs false
set_option linter.unusedVariables false
theorem writer_zero (w : World) : (zeroValue 110).run Tryd.prog w = .ok (.agg #[.slice none 0 0]) w := by kernel_rfl
theorem Wr.made (w : World) : Wr (w.alloc (.cells #[.slice none 0 0] 110)) w.heap.size [w.heap.size] (some ⟨w.heap.size, 0, none⟩) [] :=
  .inr ⟨_, rfl, .slice none 0 0, by simp [rowOf, Value.ownBlock], Blk.new _ _ _, Own.nil _ _, Nat.le_refl _, fun b hb => by cases hb⟩
theorem Tab.low {w w' : World} {B : Nat} (h : Tab w) (hb : Below B w w') (hB : 0 < B) : Tab w' := fun i hi => (hb.cell (p := ⟨0, i, none⟩) hB).trans (h i hi)
theorem mid_one (k g n : Int) (d : List Nat) (m : Nat) (hm : d.length = m) : (List.replicate 128 0).take 4 ++ headOf k g n m ++ (List.replicate 128 0).drop (4 + 18) = List.replicate 4 0 ++ headOf k g n d.length ++ List.replicate 106 0 := by
  subst hm
  rw [List.take_replicate, List.drop_replicate]
  rfl
theorem mid_two (k g n : Int) (d : List Nat) (h : d.length ≤ 106) : (List.replicate 4 0 ++ headOf k g n d.length ++ List.replicate 106 0).take 22 ++ d ++ (List.replicate 4 0 ++ headOf k g n d.length ++ List.replicate 106 0).drop (22 + d.length) = List.replicate 4 0 ++ bodyOf k g n d := by
  have hl : (List.replicate 4 0 ++ headOf k g n d.length).length = 22 := by simp [headOf_len]
  rw [List.take_left' hl, ← List.drop_drop, List.drop_left' hl, List.drop_replicate]
  simp [bodyOf]
theorem fill_sum (s j : Nat) (l : List Nat) (hj : j < 4) : (le j s ++ List.replicate (4 - j) 0 ++ l).set j (s / 256 ^ j % 256) = le (j + 1) s ++ List.replicate (4 - (j + 1)) 0 ++ l := by
  obtain ⟨r, hr⟩ : ∃ r, 4 - j = r + 1 := ⟨3 - j, by omega⟩
  rw [hr, show 4 - (j + 1) = r by omega, le_snoc, List.replicate_succ, List.append_assoc, List.set_append_right _ _ (by rw [le_len]; omega), le_len, Nat.sub_self]
  simp
theorem u8s_set (l : List Nat) (j b : Nat) : (u8s l).toArray.setIfInBounds j (.int .u8 b) = (u8s (l.set j b)).toArray := by
  simp [u8s, u8]
theorem u8s_at {l : List Nat} {j b : Nat} (h : l[j]? = some b) : (u8s l).toArray[j]? = some (.int .u8 b) := by simp [u8s, u8, h]
theorem fill_at (s j : Nat) (l : List Nat) (hj : j < 4) : (le j s ++ List.replicate (4 - j) 0 ++ l)[j]? = some 0 := by
  rw [List.append_assoc, List.getElem?_append_right (by rw [le_len]; omega), le_len, Nat.sub_self, List.getElem?_append_left (by simp; omega), List.getElem?_replicate, if_pos (by omega)]
theorem shr_byte (s j : Nat) : (s : Int) / 2 ^ (8 * j) % 256 = ((s / 256 ^ j % 256 : Nat) : Int) := by
  rw [show (256 : Nat) ^ j = 2 ^ (8 * j) from by rw [Nat.pow_mul]]
  simp
/-- where sealed stands: the writer has bs; the box's own cells and the answer's are there -/
structure SW (w0 w : World) (base : Nat) (F : List Nat) (gw : Nat) (bs : List Nat) (gb : Nat) (t : TypeId) (cs : Array Value) (gr : Nat) (t' : TypeId) (zs : Array Value) : Prop where
  wr : Wr w base F (some ⟨gw, 0, none⟩) bs
  bel : Below w0.heap.size w0 w
  box : Blk w gb t cs
  ans : Blk w gr t' zs
  lt : gb < base ∧ gr < base ∧ w0.heap.size ≤ base ∧ base ≤ w.heap.size
theorem SW.step {w0 w w' : World} {base : Nat} {F : List Nat} {gw : Nat} {bs bs' : List Nat} {gb : Nat} {t : TypeId} {cs : Array Value} {gr : Nat} {t' : TypeId} {zs : Array Value} (h : SW w0 w base F gw bs gb t cs gr t' zs) (r : WTo w base F (some ⟨gw, 0, none⟩) bs' w') : ∃ F', SW w0 w' base F' gw bs' gb t cs gr t' zs := by
  obtain ⟨F', h1, h2, h3⟩ := r
  obtain ⟨l1, l2, l3, l4⟩ := h.lt
  have hb : Below base w w' := h2.below h.wr.over l4
  exact ⟨F', h1, h.bel.trans (hb.mono l3), h.box.below hb l1, h.ans.below hb l2, l1, l2, l3, Nat.le_trans l4 h2.size⟩
theorem SW.below {w0 w w' : World} {base : Nat} {F : List Nat} {gw : Nat} {bs : List Nat} {gb : Nat} {t : TypeId} {cs : Array Value} {gr : Nat} {t' : TypeId} {zs : Array Value} (h : SW w0 w base F gw bs gb t cs gr t' zs) (hb : Below w.heap.size w w') : SW w0 w' base F gw bs gb t cs gr t' zs :=
  ⟨h.wr.below hb, h.bel.trans (hb.mono (Nat.le_trans h.lt.2.2.1 h.lt.2.2.2)), h.box.below hb h.box.lt, h.ans.below hb h.ans.lt, h.lt.1, h.lt.2.1, h.lt.2.2.1, Nat.le_trans h.lt.2.2.2 hb.size⟩
theorem box_cells {w : World} {g : Nat} {k x n : Int} {v : Value} (h : Blk w g 104 #[.int .i64 k, .int .i64 x, .int .i64 n, v]) : w.cell? ⟨g, 0, none⟩ = some (.int .i64 k) ∧ w.cell? ⟨g, 1, none⟩ = some (.int .i64 x) ∧ w.cell? ⟨g, 2, none⟩ = some (.int .i64 n) ∧ w.cell? ⟨g, 3, none⟩ = some v :=
  ⟨by rw [h.cell]; rfl, by rw [h.cell]; rfl, by rw [h.cell]; rfl, by rw [h.cell]; rfl⟩
set_option maxRecDepth 100000 in
set_option maxHeartbeats 2000000 in
theorem sealed_any (k g n : Int) (A : Option Addr) (c : Nat) (d : List Nat) (B : Nat) (w : World) (hd : Bytes w B A d.length d) (hl : d.length ≤ 106) (h256 : ∀ b ∈ d, b < 256) (hT : Tab w) :
    Calls Tryd.prog 69 #[.agg #[.int .i64 k, .int .i64 g, .int .i64 n, .slice A d.length c]] w fun e w' => e = .returned (sealSec k g n d hl h256).v ∧ Below w.heap.size w w' := by
  obtain ⟨Zs, hZ, hZs⟩ : ∃ Zs : List Value, (∀ w, (zeroValue 90).run Tryd.prog w = .ok (.agg Zs.toArray) w) ∧ Zs = u8s (List.replicate 128 0) := ⟨Sec.zero.cs, sec_zero, rfl⟩
  have hwz := writer_zero
  obtain ⟨kb, hkb, hkb2⟩ : ∃ kb : Nat, IntKind.u8.wrap k = (kb : Int) ∧ kb = (k % 256).toNat := ⟨_, by rw [IntKind.wrap_u8]; omega, rfl⟩
  have hkb3 : k % 256 = (kb : Int) := by omega
  have HZs := Lib.hid hZs
  have HKB := Lib.hid hkb2
  have HD := Lib.hid hd
  have HT := Lib.hid hT
  have hTp := hT.pos
  have K0 := ((Blk.new w 104 #[.int .i64 k, .int .i64 g, .int .i64 n, .slice A d.length c]).alloc (.cells Zs.toArray 90)).alloc (.cells #[.slice none 0 0] 110)
  have K1 := (Blk.new (w.alloc (.cells #[.int .i64 k, .int .i64 g, .int .i64 n, .slice A d.length c] 104)) 90 Zs.toArray).alloc (.cells #[.slice none 0 0] 110)
  have W0 := Wr.made ((w.alloc (.cells #[.int .i64 k, .int .i64 g, .int .i64 n, .slice A d.length c] 104)).alloc (.cells Zs.toArray 90))
  simp only [World.size_alloc] at K0 K1 W0
  have b0 : Below w.heap.size w (((w.alloc (.cells #[.int .i64 k, .int .i64 g, .int .i64 n, .slice A d.length c] 104)).alloc (.cells Zs.toArray 90)).alloc (.cells #[.slice none 0 0] 110)) := ((below_alloc w _).alloc (by simp) _).alloc (by simp; omega) _
  have hs0 : (((w.alloc (.cells #[.int .i64 k, .int .i64 g, .int .i64 n, .slice A d.length c] 104)).alloc (.cells Zs.toArray 90)).alloc (.cells #[.slice none 0 0] 110)).heap.size = w.heap.size + 1 + 1 + 1 := by simp
  have S0 : SW w (((w.alloc (.cells #[.int .i64 k, .int .i64 g, .int .i64 n, .slice A d.length c] 104)).alloc (.cells Zs.toArray 90)).alloc (.cells #[.slice none 0 0] 110)) (w.heap.size + 1 + 1) [w.heap.size + 1 + 1] (w.heap.size + 1 + 1) [] w.heap.size 104 #[.int .i64 k, .int .i64 g, .int .i64 n, .slice A d.length c] (w.heap.size + 1) 90 Zs.toArray :=
    ⟨W0, b0, K0, K1, by omega, by omega, by omega, by omega⟩
  have HS0 := Lib.hid S0
  clear hZs hkb2 hd hT K0 K1 W0 b0 S0
  have hlb : IntKind.u8.wrap (d.length : Int) = (d.length : Int) := by rw [IntKind.wrap_u8]; omega
  have hlb2 : (d.length : Int) % 256 = (d.length : Int) := by omega
  go_enter Tryd.func69, Tryd.ntmps69
  go_wp2_with fail
  generalize ((w.alloc (.cells #[.int .i64 k, .int .i64 g, .int .i64 n, .slice A d.length c] 104)).alloc (.cells Zs.toArray 90)).alloc (.cells #[.slice none 0 0] 110) = w3 at *
  generalize hgw : w.heap.size + 1 + 1 = gw at *
  refine (wbyte_any w3 gw _ _ [] kb HS0.out.wr (by simp) (by omega) (by omega)).mono ?_
  rintro e w4 ⟨rfl, t4⟩
  obtain ⟨F4, S4⟩ := HS0.out.step t4
  have c4 := (box_cells S4.box).2.1
  have HS4 := Lib.hid S4
  clear t4 S4 HS0 hkb hkb3
  go_wp2_with fail
  refine (wnum_any w4 gw _ _ _ g HS4.out.wr (by simp [plus]) HS4.out.lt.2.2.2).mono ?_
  rintro e w5 ⟨rfl, t5⟩
  obtain ⟨F5, S5⟩ := HS4.out.step t5
  have c5 := (box_cells S5.box).2.2.1
  have HS5 := Lib.hid S5
  clear t5 S5 HS4 c4
  go_wp2_with fail
  refine (wnum_any w5 gw _ _ _ n HS5.out.wr (by simp [plus, numB_len]) HS5.out.lt.2.2.2).mono ?_
  rintro e w6 ⟨rfl, t6⟩
  obtain ⟨F6, S6⟩ := HS5.out.step t6
  have c6 := (box_cells S6.box).2.2.2
  have HS6 := Lib.hid S6
  clear t6 S6 HS5 c5
  go_wp2_with fail
  refine (wbyte_any w6 gw _ _ _ d.length HS6.out.wr (by simp [plus, numB_len]) HS6.out.lt.2.2.2 (by omega)).mono ?_
  rintro e w7 ⟨rfl, t7⟩
  obtain ⟨F7, S7⟩ := HS6.out.step t7
  have hhead : plus (some ⟨gw, 0, none⟩) (plus (some ⟨gw, 0, none⟩) (plus (some ⟨gw, 0, none⟩) (plus (some ⟨gw, 0, none⟩) [] [kb]) (numB g)) (numB n)) [d.length] = headOf k g n d.length := by
    rw [headOf, ← HKB.out]; simp [plus]
  rw [hhead] at S7
  have hs7 := S7.lt.2.2.2
  have K8 := Blk.new w7 90 Zs.toArray
  have S8 := S7.below (below_alloc w7 (.cells Zs.toArray 90))
  have hs8 : (w7.alloc (.cells Zs.toArray 90)).heap.size = w7.heap.size + 1 := by simp
  have HS8 := Lib.hid (And.intro S8 K8)
  clear t7 S7 HS6 c6 hhead S8 K8 hlb hlb2
  go_wp2_with fail
  generalize w7.alloc (.cells Zs.toArray 90) = w8 at *
  generalize hgs : w7.heap.size = gs at *
  refine any_begin (by kernel_rfl) ?_
  refine wpAny_take (i := 0) (v := .slice (some ⟨gs, 4, none⟩) 124 124) rfl (by kernel_rfl) (by kernel_rfl) (by kernel_rfl) (fun _ _ _ h => h) (Or.inl ⟨by rfl, fun w => by go_simp⟩) ?_
  simp only [Act.put, List.getElem_toArray, List.getElem_cons_succ, List.getElem_cons_zero, List.setIfInBounds_toArray, List.set_cons_zero, List.set_cons_succ]
  refine wpAny_take (i := 1) (v := .pointer (some ⟨gw, 0, none⟩)) rfl (by kernel_rfl) (by kernel_rfl) (by kernel_rfl) (fun _ _ _ h => h) (Or.inl ⟨by rfl, fun w => by kernel_rfl⟩) ?_
  simp only [Act.put, List.getElem_toArray, List.getElem_cons_succ, List.getElem_cons_zero, List.setIfInBounds_toArray, List.set_cons_zero, List.set_cons_succ]
  refine do_one (i := 2) (by kernel_rfl) rfl (by rfl) ?_
  simp only [Act.put, List.getElem_toArray, List.getElem_cons_succ, List.getElem_cons_zero, List.setIfInBounds_toArray, List.set_cons_zero, List.set_cons_succ]
  refine wp_called (by kernel_rfl) (out_any w8.drew gw F7 _ _ (HS8.out.1.wr.of (fun _ _ => rfl)) (by rw [headOf_len]; omega)) ?_
  rintro e w9 ⟨v, rfl, ho, b9⟩
  refine ⟨_, rfl, ?_⟩
  simp only [Act.put, List.getElem_toArray, List.getElem_cons_succ, List.getElem_cons_zero, List.setIfInBounds_toArray, List.set_cons_zero, List.set_cons_succ]
  have b89 : Below w8.heap.size w8 w9 := ((Below.refl _ w8).drew).trans b9
  have S9 := HS8.out.1.below b89
  have K9 := HS8.out.2.below b89 HS8.out.2.lt
  rw [HZs.out] at K9
  obtain ⟨Ao, co, rfl, -, -, -⟩ := ho.form
  have hby := ho.bytes (headOf_lt k g n d.length (by omega))
  rw [headOf_len] at hby
  rw [headOf_len]
  refine do_one (i := 3) (by kernel_rfl) rfl (by rfl) ?_
  simp only [Act.put, List.getElem_toArray, List.getElem_cons_succ, List.getElem_cons_zero, List.setIfInBounds_toArray, List.set_cons_zero, List.set_cons_succ]
  refine wp_copy_mid (.tmp 28) (.tmp 30) rfl gs 4 124 124 90 (List.replicate 128 0) K9 (by rfl) Ao 18 co _ _ (by rfl) hby (by omega) (by simp) ?_
  intro w10 K10 o10
  simp only [Act.put, List.getElem_toArray, List.getElem_cons_succ, List.getElem_cons_zero, List.setIfInBounds_toArray, List.set_cons_zero, List.set_cons_succ]
  refine wpAny_done (by kernel_rfl) ?_ _
  refine NoPanic.normal ?_
  rw [mid_one k g n d d.length rfl] at K10
  have B9 := Lib.hid S9.bel
  have T10 : Blk w10 w.heap.size 104 #[.int .i64 k, .int .i64 g, .int .i64 n, .slice A d.length c] ∧ Blk w10 (w.heap.size + 1) 90 Zs.toArray ∧ Below w.heap.size w w10 :=
    ⟨S9.box.of (o10.block _ S9.box.lt (by simp; omega)), S9.ans.of (o10.block _ S9.ans.lt (by simp; omega)), S9.bel.trans (o10.below (fun j hj => by simp at hj; omega) S9.bel.size)⟩
  have HT10 := Lib.hid T10
  have HK10 := Lib.hid K10
  have c10 := (box_cells T10.1).2.2.2
  clear S9 K9 ho hby b9 b89 HS8 o10 K10 T10
  go_wp2_with fail
  refine any_begin (by kernel_rfl) ?_
  refine wpAny_take (i := 0) (v := .slice (some ⟨gs, 22, none⟩) 106 106) rfl (by kernel_rfl) (by kernel_rfl) (by kernel_rfl) (fun _ _ _ h => h) (Or.inl ⟨by rfl, fun w => by go_simp⟩) ?_
  simp only [Act.put, List.getElem_toArray, List.getElem_cons_succ, List.getElem_cons_zero, List.setIfInBounds_toArray, List.set_cons_zero, List.set_cons_succ]
  refine wpAny_take (i := 1) (v := .pointer (some ⟨w.heap.size, 3, none⟩)) rfl (by kernel_rfl) (by kernel_rfl) (by kernel_rfl) (fun _ _ _ h => h) (Or.inl ⟨by rfl, fun w => by kernel_rfl⟩) ?_
  simp only [Act.put, List.getElem_toArray, List.getElem_cons_succ, List.getElem_cons_zero, List.setIfInBounds_toArray, List.set_cons_zero, List.set_cons_succ]
  refine do_one (i := 2) (by kernel_rfl) rfl (by rfl) ?_
  simp only [Act.put, List.getElem_toArray, List.getElem_cons_succ, List.getElem_cons_zero, List.setIfInBounds_toArray, List.set_cons_zero, List.set_cons_succ]
  have c10' : w10.drew.cell? ⟨w.heap.size, 3, none⟩ = some (.slice A d.length c) := c10
  refine wp_ran (v := .slice A d.length c) (w' := w10.drew) (by go_simp) ?_
  simp only [Act.put, List.getElem_toArray, List.getElem_cons_succ, List.getElem_cons_zero, List.setIfInBounds_toArray, List.set_cons_zero, List.set_cons_succ]
  refine do_one (i := 3) (by kernel_rfl) rfl (by rfl) ?_
  simp only [Act.put, List.getElem_toArray, List.getElem_cons_succ, List.getElem_cons_zero, List.setIfInBounds_toArray, List.set_cons_zero, List.set_cons_succ]
  have hdd : Bytes w10.drew B A d.length d := (HD.out.since HT10.out.2.2).drew
  refine wp_copy_mid (.tmp 32) (.tmp 34) rfl gs 22 106 106 90 _ HK10.out.drew (by rfl) A d.length c _ _ (by rfl) hdd hl (by simp [headOf_len]; omega) ?_
  intro w11 K11 o11
  simp only [Act.put, List.getElem_toArray, List.getElem_cons_succ, List.getElem_cons_zero, List.setIfInBounds_toArray, List.set_cons_zero, List.set_cons_succ]
  refine wpAny_done (by kernel_rfl) ?_ _
  refine NoPanic.normal ?_
  rw [mid_two k g n d hl] at K11
  have T11 : Blk w11 (w.heap.size + 1) 90 Zs.toArray ∧ Below w.heap.size w w11 :=
    ⟨HT10.out.2.1.of (o11.block _ HT10.out.2.1.lt (by simp; omega)), HT10.out.2.2.drew.trans (o11.below (fun j hj => by simp at hj; omega) HT10.out.2.2.drew.size)⟩
  have h11 : Bytes w11 w11.heap.size (some ⟨gs, 4, none⟩) 124 (bodyOf k g n d) := by
    have := K11.bytes (off := 4) (n := 124) (by simp [bodyOf_len k g n d hl]) (fun b hb => by
      rcases List.mem_append.1 hb with hb | hb
      · obtain ⟨_, rfl⟩ := List.mem_replicate.1 hb; omega
      · exact bodyOf_lt k g n d hl h256 b hb)
    rw [List.drop_left' (by simp), List.take_of_length_le (by rw [bodyOf_len k g n d hl]; omega)] at this
    exact this
  have P11 := Lib.hid (Parts.new1 w11 (c := 124) 34 h11 (by omega))
  have HT11 := Lib.hid (HT.out.low (T11.2.alloc T11.2.size (.cells #[.slice (some ⟨gs, 4, none⟩) 124 124] 34)) hTp)
  have HA11 := Lib.hid (And.intro (T11.1.alloc (.cells #[.slice (some ⟨gs, 4, none⟩) 124 124] 34)) (T11.2.alloc T11.2.size (.cells #[.slice (some ⟨gs, 4, none⟩) 124 124] 34)))
  have HK11 := Lib.hid (K11.alloc (.cells #[.slice (some ⟨gs, 4, none⟩) 124 124] 34))
  clear T11 K11 h11 o11 hdd c10 c10' HT10 HK10
  go_wp2_with fail
  generalize w11.alloc (.cells #[.slice (some ⟨gs, 4, none⟩) 124 124] 34) = w12 at *
  refine (sum_any _ _ _ _ _ w12 (by omega) P11.out HT11.out).mono ?_
  rintro e w13 ⟨rfl, rfl⟩
  rw [textOf1]
  have hs13 : Crc.sum (bodyOf k g n d) < 4294967296 := Crc.go_lt _ _
  have hbl := bodyOf_len k g n d hl
  have HSL : Hid (le 4 (Crc.sum (bodyOf k g n d)) ++ List.replicate (4 - 4) 0 ++ bodyOf k g n d = sealL k g n d) := Lib.hid (by simp [sealL])
  generalize Crc.sum (bodyOf k g n d) = sm at *
  generalize bodyOf k g n d = bd at *
  clear P11 HT11 hbl
  go_wp2
  go_loopw [39] (fun i wr => ∃ j : Nat, j ≤ 4 ∧ i = .int .i64 j ∧ Blk wr gs 90 (u8s (le j sm ++ List.replicate (4 - j) 0 ++ bd)).toArray ∧ Blk wr (w.heap.size + 1) 90 Zs.toArray ∧ Below w.heap.size w wr) (fun i _ => 4 - (intOf i).toNat)
  case atStart => exact ⟨0, by omega, rfl, by simpa [le] using HK11.out, HA11.out.1, HA11.out.2⟩
  case round =>
    obtain ⟨j, hj, rfl, hk1, hk2, hB⟩ := hrel
    clear HK11 HA11
    by_cases hlt : j < 4
    · have HK := Lib.hid (And.intro hk1 (And.intro hk2 hB))
      have hfz := hk1.frozen j
      have hc : wr.cell? ⟨gs, j, none⟩ = some (.int .u8 (0 : Nat)) := by rw [hk1.cell]; exact u8s_at (fill_at sm j bd hlt)
      have hval := shr_byte sm j
      have HV := Lib.hid hval
      clear hk1 hk2 hB hval
      go_wp2
      go_roundw
      case rel =>
        refine ⟨j + 1, by omega, by go_num, ?_, HK.out.2.1.far (by show w.heap.size + 1 ≠ gs; omega) _, HK.out.2.2.setCell (by show w.heap.size ≤ gs; omega) _⟩
        have := HK.out.1.set_ j (.int .u8 ((sm / 256 ^ j % 256 : Nat) : Int))
        rw [u8s_set, fill_sum sm j bd hlt] at this
        rw [HV.out]
        exact this
      case measure => simp [intOf]; omega
    · obtain rfl : j = 4 := by omega
      rw [HSL.out] at hk1
      have hr : wr.rangeAt gs 0 (sealSec k g n d hl h256).cs := Blk.range (cs := (sealSec k g n d hl h256).cs) hk1
      have hu := Tryd.underlying90
      have hi2 := (sealSec k g n d hl h256).info
      have hia := (sealSec k g n d hl h256).infoA
      have hzl : Zs.length = 128 := by rw [HZs.out, u8s_length]; simp
      have hth := hk2.there (o := 0) (n := (sealSec k g n d hl h256).cs.toArray.size) (by simp [Sec.cs_len, hzl])
      have hb3 := hk2.over (sealSec k g n d hl h256).cs (by simp [Sec.cs_len, hzl])
      have hsg := setCells_grown (w.heap.size + 1) (sealSec k g n d hl h256).cs 0 wr
      have hone := (sealSec k g n d hl h256).one
      have HE := Lib.hid (And.intro hb3 (And.intro hsg.1 hB))
      clear hk1 hk2 hB hzl hsg hb3
      generalize hS : sealSec k g n d hl h256 = S at *
      have HS := Lib.hid hS
      clear hS
      go_wp2_with (first
        | (refine wpList_load_mid rfl 90 (.tmp 4) rfl gs 0 rfl S.cs _ hr hu rfl hi2 ?_)
        | (refine wpList_store_mid rfl 90 (.tmp 2) (.tmp 50) rfl (w.heap.size + 1) 0 S.cs.toArray rfl rfl hth hia (all_oneCell_toArray hone) ?_))
      refine bodyPost_ret (sec_results1 rfl _ _ (w.heap.size + 1) S rfl HE.out.1) rfl ?_
      exact ⟨by rw [HS.out], HE.out.2.2.grown HE.out.2.1 HE.out.2.2.size (fun j e => by injection e with e; omega)⟩
end Go.Proofs.YtpklcmocjimcpaaDoor

/-
  What the program reads of a sector. Conditions: none.
-/
namespace Go.Proofs.YtpklcmocjimcpaaDoor
open Go.RowKit
set_option maxRecDepth 100000
set_option linter.unusedSimpArgs false
set_option linter.unusedVariables false
theorem box_zero (w : World) : (zeroValue 104).run Tryd.prog w = .ok (.agg #[.int .i64 0, .int .i64 0, .int .i64 0, .slice none 0 0]) w := by kernel_rfl
theorem box_size : (Tryd.prog.info? 104).map (·.size) = some 4 := by kernel_rfl
def boxCs (k g n : Int) (v : Value) : List Value := [.int .i64 k, .int .i64 g, .int .i64 n, v]
/-- where told stands: the reader's state; the sector's cells, the box's own, the answer's -/
structure TW (w0 w : World) (base : Nat) (F : List Nat) (g : Nat) (st : RD) (gs : Nat) (s : Sec) (gb : Nat) (cs : Array Value) (gr : Nat) (zs : Array Value) : Prop where
  rd : Rd w base F (some ⟨g, 0, none⟩) st
  bel : Below w0.heap.size w0 w
  sec : Blk w gs 90 s.cs.toArray
  box : Blk w gb 104 cs
  ans : Blk w gr 104 zs
  lt : gs < base ∧ gb < base ∧ gr < base ∧ w0.heap.size ≤ gb ∧ base ≤ w.heap.size ∧ w0.heap.size ≤ base ∧ gs ≠ gb ∧ gr ≠ gb
section
variable {w0 w w' : World} {base : Nat} {F : List Nat} {g : Nat} {st st' : RD} {gs : Nat} {s : Sec} {gb : Nat} {cs : Array Value} {gr : Nat} {zs : Array Value}
theorem TW.below (h : TW w0 w base F g st gs s gb cs gr zs) (hb : Below w.heap.size w w') : TW w0 w' base F g st gs s gb cs gr zs := by
  obtain ⟨l1, l2, l3, l4, l5, l6, l7, l8⟩ := h.lt
  exact ⟨h.rd.below hb, h.bel.trans (hb.mono (by omega)), h.sec.below hb h.sec.lt, h.box.below hb h.box.lt, h.ans.below hb h.ans.lt, l1, l2, l3, l4, Nat.le_trans l5 hb.size, l6, l7, l8⟩
theorem TW.step (h : TW w0 w base F g st gs s gb cs gr zs) (r : RTo w base F (some ⟨g, 0, none⟩) st' w') : ∃ F', TW w0 w' base F' g st' gs s gb cs gr zs := by
  obtain ⟨F', h1, h2, h3⟩ := r
  obtain ⟨l1, l2, l3, l4, l5, l6, l7, l8⟩ := h.lt
  have hb : Below base w w' := h2.below h.rd.over l5
  exact ⟨F', h1, h.bel.trans (hb.mono l6), h.sec.below hb l1, h.box.below hb l2, h.ans.below hb l3, l1, l2, l3, l4, Nat.le_trans l5 h2.size, l6, l7, l8⟩
theorem TW.put (h : TW w0 w base F g st gs s gb cs gr zs) (i : Nat) (v : Value) : TW w0 (w.setCell ⟨gb, i, none⟩ v) base F g st gs s gb (cs.setIfInBounds i v) gr zs := by
  obtain ⟨l1, l2, l3, l4, l5, l6, l7, l8⟩ := h.lt
  exact ⟨h.rd.of (by simp [World.setCell]) (fun j hj => Below.heap_setCell _ _ _ _ (by have := h.rd.over j hj; show j ≠ gb; omega)), h.bel.setCell l4 _, h.sec.far l7 _, h.box.set_ i v, h.ans.far l8 _, l1, l2, l3, l4, by simpa [World.setCell] using l5, l6, l7, l8⟩
end
theorem sec_bytes {w : World} {gs off n : Nat} {s : Sec} (h : Blk w gs 90 s.cs.toArray) (hn : off + n ≤ 128) : Bytes w w.heap.size (some ⟨gs, off, none⟩) n ((s.l.drop off).take n) :=
  Blk.bytes h (by rw [s.len]; exact hn) s.lt
set_option maxRecDepth 100000 in
set_option maxHeartbeats 2000000 in
theorem told_any (s : Sec) (w : World) :
    Calls Tryd.prog 80 #[.agg s.cs.toArray] w fun e w' => ∃ v, e = .returned (.agg (boxCs (tK s.l) (tG s.l) (tN s.l) v).toArray) ∧ Own w' w.heap.size v (tD s.l).length (tD s.l) ∧ Below w.heap.size w w' := by
  have hbz := box_zero
  have hgood : (told0 s.l).Good := ⟨fun e => (by cases e), fun b hb => s.lt b (List.mem_of_mem_drop hb)⟩
  have hg1 : (told1 s.l).Good := RD.take_good hgood 1
  have hg2 : (told2 s.l).Good := RD.take_good hg1 8
  have hg3 : (told3 s.l).Good := RD.take_good hg2 8
  have hb0 := RD.byte_lt hgood
  have hb3 := RD.byte_lt hg3
  have hr1 := num_range (told1 s.l)
  have hr2 := num_range (told2 s.l)
  have K0 := ((Blk.new w 90 s.cs.toArray).alloc (.cells #[.int .i64 0, .int .i64 0, .int .i64 0, .slice none 0 0] 104)).alloc (.cells #[.int .i64 0, .int .i64 0, .int .i64 0, .slice none 0 0] 104)
  have K1 := (Blk.new (w.alloc (.cells s.cs.toArray 90)) 104 #[.int .i64 0, .int .i64 0, .int .i64 0, .slice none 0 0]).alloc (.cells #[.int .i64 0, .int .i64 0, .int .i64 0, .slice none 0 0] 104)
  have K2 := Blk.new ((w.alloc (.cells s.cs.toArray 90)).alloc (.cells #[.int .i64 0, .int .i64 0, .int .i64 0, .slice none 0 0] 104)) 104 #[.int .i64 0, .int .i64 0, .int .i64 0, .slice none 0 0]
  have b0 : Below w.heap.size w (((w.alloc (.cells s.cs.toArray 90)).alloc (.cells #[.int .i64 0, .int .i64 0, .int .i64 0, .slice none 0 0] 104)).alloc (.cells #[.int .i64 0, .int .i64 0, .int .i64 0, .slice none 0 0] 104)) := ((below_alloc w _).alloc (by simp) _).alloc (by simp; omega) _
  have hs0 : (((w.alloc (.cells s.cs.toArray 90)).alloc (.cells #[.int .i64 0, .int .i64 0, .int .i64 0, .slice none 0 0] 104)).alloc (.cells #[.int .i64 0, .int .i64 0, .int .i64 0, .slice none 0 0] 104)).heap.size = w.heap.size + 1 + 1 + 1 := by simp
  simp only [World.size_alloc] at K0 K1 K2
  have HK := Lib.hid (And.intro K0 (And.intro K1 (And.intro K2 b0)))
  clear K0 K1 K2 b0 hgood hg1 hg2 hg3
  go_enter Tryd.func80, Tryd.ntmps80
  go_wp2_with fail
  generalize ((w.alloc (.cells s.cs.toArray 90)).alloc (.cells #[.int .i64 0, .int .i64 0, .int .i64 0, .slice none 0 0] 104)).alloc (.cells #[.int .i64 0, .int .i64 0, .int .i64 0, .slice none 0 0] 104) = w3 at *
  have hby := sec_bytes (off := 4) (n := 124) HK.out.1 (by omega)
  rw [List.take_of_length_le (by rw [List.length_drop, s.len]; omega)] at hby
  refine (newr_any (some ⟨w.heap.size, 4, none⟩) 124 124 (s.l.drop 4) w3 _ (by omega) hby).mono ?_
  rintro e w4 ⟨gr, F4, rfl, R4, b4⟩
  have T4 : TW w w4 w3.heap.size F4 gr (told0 s.l) w.heap.size s (w.heap.size + 1 + 1) #[.int .i64 0, .int .i64 0, .int .i64 0, .slice none 0 0] (w.heap.size + 1) #[.int .i64 0, .int .i64 0, .int .i64 0, .slice none 0 0] :=
    ⟨R4, HK.out.2.2.2.trans (b4.mono (by omega)), HK.out.1.below b4 HK.out.1.lt, HK.out.2.2.1.below b4 HK.out.2.2.1.lt, HK.out.2.1.below b4 HK.out.2.1.lt, by omega, by omega, by omega, by omega, b4.size, by omega, by omega, by omega⟩
  have HT4 := Lib.hid T4
  clear T4 R4 b4 hby HK
  go_wp2_with fail
  refine (rbyte_any w4 w3.heap.size F4 _ _ HT4.out.rd HT4.out.lt.2.2.2.2.1).mono ?_
  rintro e w5 ⟨rfl, r5⟩
  rw [show (told0 s.l).take 1 = told1 s.l from rfl] at r5
  obtain ⟨F5, T5⟩ := HT4.out.step r5
  have c5 : w5.cell? ⟨w.heap.size + 1 + 1, 0, none⟩ = some (.int .i64 0) := by rw [T5.box.cell]; rfl
  have f5 := T5.box.frozen 0
  have T6 := T5.put 0 (.int .i64 ((told0 s.l).byte : Nat))
  have HT6 := Lib.hid T6
  clear T5 T6 r5 HT4
  go_wp2_with fail
  generalize w5.setCell ⟨w.heap.size + 1 + 1, 0, none⟩ (.int .i64 ((told0 s.l).byte : Nat)) = w6 at *
  clear c5 f5
  refine (rnum_any w6 w3.heap.size F5 _ _ HT6.out.rd HT6.out.lt.2.2.2.2.1).mono ?_
  rintro e w7 ⟨rfl, r7⟩
  rw [show (told1 s.l).take 8 = told2 s.l from rfl] at r7
  obtain ⟨F7, T7⟩ := HT6.out.step r7
  have c7 : w7.cell? ⟨w.heap.size + 1 + 1, 1, none⟩ = some (.int .i64 0) := by rw [T7.box.cell]; rfl
  have f7 := T7.box.frozen 1
  have T8 := T7.put 1 (.int .i64 (told1 s.l).num)
  have HT8 := Lib.hid T8
  clear T7 T8 r7 HT6
  go_wp2_with fail
  generalize w7.setCell ⟨w.heap.size + 1 + 1, 1, none⟩ (.int .i64 (told1 s.l).num) = w8 at *
  clear c7 f7
  refine (rnum_any w8 w3.heap.size F7 _ _ HT8.out.rd HT8.out.lt.2.2.2.2.1).mono ?_
  rintro e w9 ⟨rfl, r9⟩
  rw [show (told2 s.l).take 8 = told3 s.l from rfl] at r9
  obtain ⟨F9, T9⟩ := HT8.out.step r9
  have c9 : w9.cell? ⟨w.heap.size + 1 + 1, 2, none⟩ = some (.int .i64 0) := by rw [T9.box.cell]; rfl
  have f9 := T9.box.frozen 2
  have T10 := T9.put 2 (.int .i64 (told2 s.l).num)
  have HT10 := Lib.hid T10
  clear T9 T10 r9 HT8
  go_wp2_with fail
  generalize w9.setCell ⟨w.heap.size + 1 + 1, 2, none⟩ (.int .i64 (told2 s.l).num) = w10 at *
  clear c9 f9
  refine (rbyte_any w10 w3.heap.size F9 _ _ HT10.out.rd HT10.out.lt.2.2.2.2.1).mono ?_
  rintro e w11 ⟨rfl, r11⟩
  obtain ⟨F11, T11⟩ := HT10.out.step r11
  have c11 : w11.cell? ⟨w.heap.size + 1 + 1, 3, none⟩ = some (.slice none 0 0) := by rw [T11.box.cell]; rfl
  have hcnt := tD_len' s.l s.len
  by_cases hc : (told3 s.l).byte ≤ 106
  · have hd : ((told3 s.l).byte : Int) ≤ 106 := by omega
    have hq1 : (22 : Int) ≤ 22 + ((told3 s.l).byte : Int) := by omega
    have hq2 : 22 + ((told3 s.l).byte : Int) ≤ 128 := by omega
    have hcntq : (tD s.l).length = (told3 s.l).byte := by rw [hcnt]; exact Nat.min_eq_left hc
    have HL := Lib.hid hcntq
    have hby := sec_bytes (off := 22) (n := (told3 s.l).byte) T11.sec (by omega)
    have hbe : (s.l.drop 22).take (told3 s.l).byte = tD s.l := by rw [← hcntq, hcnt]; rfl
    rw [hbe] at hby
    have HB := Lib.hid hby
    have HT11 := Lib.hid T11
    clear T11 r11 HT10 hby hbe hcnt hcntq
    go_wp2_with fail
    refine (clone_any (some ⟨w.heap.size, 22, none⟩) (told3 s.l).byte 106 (tD s.l) w11 _ (by omega) HB.out).mono ?_
    rintro e w12 ⟨v, rfl, ho, b12⟩
    obtain ⟨Av, cv, rfl, -, -, -⟩ := ho.form
    have T12 := HT11.out.below b12
    have c12 : w12.cell? ⟨w.heap.size + 1 + 1, 3, none⟩ = some (.slice none 0 0) := by rw [T12.box.cell]; rfl
    have f12 := T12.box.frozen 3
    have T13 := T12.put 3 (.slice Av (told3 s.l).byte cv)
    have ho13 : Own (w12.setCell ⟨w.heap.size + 1 + 1, 3, none⟩ (.slice Av (told3 s.l).byte cv)) w11.heap.size (.slice Av (told3 s.l).byte cv) (told3 s.l).byte (tD s.l) := row_of ho fun j hj => Below.heap_setCell _ _ _ _ (by have := row_over ho j hj; have := HT11.out.lt; show j ≠ w.heap.size + 1 + 1; omega)
    have hwl : w.heap.size ≤ w11.heap.size := HT11.out.bel.size
    have hone : ∀ u ∈ boxCs (tK s.l) (tG s.l) (tN s.l) (.slice Av (told3 s.l).byte cv), u.oneCell' = true := by
      intro u hu
      simp only [boxCs, List.mem_cons, List.not_mem_nil, or_false] at hu
      rcases hu with rfl | rfl | rfl | rfl
      · rfl
      · rfl
      · rfl
      · rfl
    have hbc : Blk (w12.setCell ⟨w.heap.size + 1 + 1, 3, none⟩ (.slice Av (told3 s.l).byte cv)) (w.heap.size + 1 + 1) 104 (boxCs (tK s.l) (tG s.l) (tN s.l) (.slice Av (told3 s.l).byte cv)).toArray := by
      have := T13.box
      simpa [boxCs, tK, tG, tN] using this
    have hrg : World.rangeAt (w12.setCell ⟨w.heap.size + 1 + 1, 3, none⟩ (.slice Av (told3 s.l).byte cv)) (w.heap.size + 1 + 1) 0 (boxCs (tK s.l) (tG s.l) (tN s.l) (.slice Av (told3 s.l).byte cv)) := hbc.range
    have hu := Tryd.underlying104
    have hib : (Tryd.prog.info? 104).map (·.size) = some (boxCs (tK s.l) (tG s.l) (tN s.l) (.slice Av (told3 s.l).byte cv)).length := box_size
    have hia : (Tryd.prog.info? 104).map (·.size) = some (boxCs (tK s.l) (tG s.l) (tN s.l) (.slice Av (told3 s.l).byte cv)).toArray.size := box_size
    have hth := T13.ans.there (o := 0) (n := (boxCs (tK s.l) (tG s.l) (tN s.l) (.slice Av (told3 s.l).byte cv)).toArray.size) (by simp [boxCs])
    have hb3' := T13.ans.over (boxCs (tK s.l) (tG s.l) (tN s.l) (.slice Av (told3 s.l).byte cv)) (by simp [boxCs])
    have hsg := setCells_grown (w.heap.size + 1) (boxCs (tK s.l) (tG s.l) (tN s.l) (.slice Av (told3 s.l).byte cv)) 0 (w12.setCell ⟨w.heap.size + 1 + 1, 3, none⟩ (.slice Av (told3 s.l).byte cv))
    have hgrl : w.heap.size + 1 < w11.heap.size := by have := HT11.out.lt; omega
    have ho14 : Own ((w12.setCell ⟨w.heap.size + 1 + 1, 3, none⟩ (.slice Av (told3 s.l).byte cv)).setCells (w.heap.size + 1) 0 (boxCs (tK s.l) (tG s.l) (tN s.l) (.slice Av (told3 s.l).byte cv))) w.heap.size (.slice Av (told3 s.l).byte cv) (told3 s.l).byte (tD s.l) :=
      (Own.grown ho13 hsg.1 (.inr (fun e => by have := (World.ownsRow.lt ho13 _ e).1; omega))).weaken hwl
    have hB14 : Below w.heap.size w ((w12.setCell ⟨w.heap.size + 1 + 1, 3, none⟩ (.slice Av (told3 s.l).byte cv)).setCells (w.heap.size + 1) 0 (boxCs (tK s.l) (tG s.l) (tN s.l) (.slice Av (told3 s.l).byte cv))) :=
      T13.bel.grown hsg.1 T13.bel.size (fun j e => by injection e with e; omega)
    have HE := Lib.hid (And.intro hb3' (And.intro ho14 hB14))
    clear ho T12 T13 ho13 hbc hsg hb3' ho14 hB14 HT11 HB b12
    generalize hbq : boxCs (tK s.l) (tG s.l) (tN s.l) (.slice Av (told3 s.l).byte cv) = bc at *
    have HBQ := Lib.hid hbq
    clear hbq
    go_wp2_with (first
      | (refine wpList_load_mid rfl 104 (.tmp 3) rfl (w.heap.size + 1 + 1) 0 rfl bc _ hrg hu rfl hib ?_)
      | (refine wpList_store_mid rfl 104 (.tmp 2) (.tmp 27) rfl (w.heap.size + 1) 0 bc.toArray rfl rfl hth hia (all_oneCell_toArray hone) ?_))
    refine bodyPost_ret (results_cell_row rfl _ _ (w.heap.size + 1) 104 bc.toArray (0, 0) _ rfl HE.out.1 Tryd.underlying104 rfl hia) rfl ?_
    exact ⟨_, by rw [HBQ.out], by rw [HL.out]; exact HE.out.2.1, HE.out.2.2⟩
  · have hd : ¬ ((told3 s.l).byte : Int) ≤ 106 := by omega
    have hcntq : (tD s.l).length = 106 := by rw [hcnt]; exact Nat.min_eq_right (by show 106 ≤ (told3 s.l).byte; omega)
    have HL := Lib.hid hcntq
    have hby := sec_bytes (off := 22) (n := 106) T11.sec (by omega)
    have hbe : (s.l.drop 22).take 106 = tD s.l := by rw [← hcntq, hcnt]; rfl
    rw [hbe] at hby
    have HB := Lib.hid hby
    have HT11 := Lib.hid T11
    clear T11 r11 HT10 hby hbe hcnt hcntq
    go_wp2_with fail
    refine (clone_any (some ⟨w.heap.size, 22, none⟩) 106 106 (tD s.l) w11 _ (by omega) HB.out).mono ?_
    rintro e w12 ⟨v, rfl, ho, b12⟩
    obtain ⟨Av, cv, rfl, -, -, -⟩ := ho.form
    have T12 := HT11.out.below b12
    have c12 : w12.cell? ⟨w.heap.size + 1 + 1, 3, none⟩ = some (.slice none 0 0) := by rw [T12.box.cell]; rfl
    have f12 := T12.box.frozen 3
    have T13 := T12.put 3 (.slice Av 106 cv)
    have ho13 : Own (w12.setCell ⟨w.heap.size + 1 + 1, 3, none⟩ (.slice Av 106 cv)) w11.heap.size (.slice Av 106 cv) 106 (tD s.l) := row_of ho fun j hj => Below.heap_setCell _ _ _ _ (by have := row_over ho j hj; have := HT11.out.lt; show j ≠ w.heap.size + 1 + 1; omega)
    have hwl : w.heap.size ≤ w11.heap.size := HT11.out.bel.size
    have hone : ∀ u ∈ boxCs (tK s.l) (tG s.l) (tN s.l) (.slice Av 106 cv), u.oneCell' = true := by
      intro u hu
      simp only [boxCs, List.mem_cons, List.not_mem_nil, or_false] at hu
      rcases hu with rfl | rfl | rfl | rfl
      · rfl
      · rfl
      · rfl
      · rfl
    have hbc : Blk (w12.setCell ⟨w.heap.size + 1 + 1, 3, none⟩ (.slice Av 106 cv)) (w.heap.size + 1 + 1) 104 (boxCs (tK s.l) (tG s.l) (tN s.l) (.slice Av 106 cv)).toArray := by
      have := T13.box
      simpa [boxCs, tK, tG, tN] using this
    have hrg : World.rangeAt (w12.setCell ⟨w.heap.size + 1 + 1, 3, none⟩ (.slice Av 106 cv)) (w.heap.size + 1 + 1) 0 (boxCs (tK s.l) (tG s.l) (tN s.l) (.slice Av 106 cv)) := hbc.range
    have hu := Tryd.underlying104
    have hib : (Tryd.prog.info? 104).map (·.size) = some (boxCs (tK s.l) (tG s.l) (tN s.l) (.slice Av 106 cv)).length := box_size
    have hia : (Tryd.prog.info? 104).map (·.size) = some (boxCs (tK s.l) (tG s.l) (tN s.l) (.slice Av 106 cv)).toArray.size := box_size
    have hth := T13.ans.there (o := 0) (n := (boxCs (tK s.l) (tG s.l) (tN s.l) (.slice Av 106 cv)).toArray.size) (by simp [boxCs])
    have hb3' := T13.ans.over (boxCs (tK s.l) (tG s.l) (tN s.l) (.slice Av 106 cv)) (by simp [boxCs])
    have hsg := setCells_grown (w.heap.size + 1) (boxCs (tK s.l) (tG s.l) (tN s.l) (.slice Av 106 cv)) 0 (w12.setCell ⟨w.heap.size + 1 + 1, 3, none⟩ (.slice Av 106 cv))
    have hgrl : w.heap.size + 1 < w11.heap.size := by have := HT11.out.lt; omega
    have ho14 : Own ((w12.setCell ⟨w.heap.size + 1 + 1, 3, none⟩ (.slice Av 106 cv)).setCells (w.heap.size + 1) 0 (boxCs (tK s.l) (tG s.l) (tN s.l) (.slice Av 106 cv))) w.heap.size (.slice Av 106 cv) 106 (tD s.l) :=
      (Own.grown ho13 hsg.1 (.inr (fun e => by have := (World.ownsRow.lt ho13 _ e).1; omega))).weaken hwl
    have hB14 : Below w.heap.size w ((w12.setCell ⟨w.heap.size + 1 + 1, 3, none⟩ (.slice Av 106 cv)).setCells (w.heap.size + 1) 0 (boxCs (tK s.l) (tG s.l) (tN s.l) (.slice Av 106 cv))) :=
      T13.bel.grown hsg.1 T13.bel.size (fun j e => by injection e with e; omega)
    have HE := Lib.hid (And.intro hb3' (And.intro ho14 hB14))
    clear ho T12 T13 ho13 hbc hsg hb3' ho14 hB14 HT11 HB b12
    generalize hbq : boxCs (tK s.l) (tG s.l) (tN s.l) (.slice Av 106 cv) = bc at *
    have HBQ := Lib.hid hbq
    clear hbq
    go_wp2_with (first
      | (refine wpList_load_mid rfl 104 (.tmp 3) rfl (w.heap.size + 1 + 1) 0 rfl bc _ hrg hu rfl hib ?_)
      | (refine wpList_store_mid rfl 104 (.tmp 2) (.tmp 27) rfl (w.heap.size + 1) 0 bc.toArray rfl rfl hth hia (all_oneCell_toArray hone) ?_))
    refine bodyPost_ret (results_cell_row rfl _ _ (w.heap.size + 1) 104 bc.toArray (0, 0) _ rfl HE.out.1 Tryd.underlying104 rfl hia) rfl ?_
    exact ⟨_, by rw [HBQ.out], by rw [HL.out]; exact HE.out.2.1, HE.out.2.2⟩
end Go.Proofs.YtpklcmocjimcpaaDoor

/-
  What Seal returns. Conditions: a box's data read as bytes; the package's table holds its sixteen numbers.
-/
namespace Go.Proofs.YtpklcmocjimcpaaDoor
open Go.RowKit
set_option maxRecDepth 100000
set_option linter.unusedSimpArgs false
set_option linter.unusedVariables false
/-- a box and a new answer lie in memory -/
theorem seal_start (w : World) (k g n : Int) (A : Option Addr) (m c : Nat) (Zs : List Value) (hz : Zs.length = 128) :
    Blk ((w.alloc (.cells #[.int .i64 k, .int .i64 g, .int .i64 n, .slice A m c] 104)).alloc (.cells Zs.toArray 90)) w.heap.size 104 (boxCs k g n (.slice A m c)).toArray ∧
    Blk ((w.alloc (.cells #[.int .i64 k, .int .i64 g, .int .i64 n, .slice A m c] 104)).alloc (.cells Zs.toArray 90)) (w.heap.size + 1) 90 Zs.toArray ∧
    Below w.heap.size w ((w.alloc (.cells #[.int .i64 k, .int .i64 g, .int .i64 n, .slice A m c] 104)).alloc (.cells Zs.toArray 90)) := by
  have K1 := Blk.new (w.alloc (.cells #[.int .i64 k, .int .i64 g, .int .i64 n, .slice A m c] 104)) 90 Zs.toArray
  rw [World.size_alloc] at K1
  exact ⟨(Blk.new w _ _).alloc _, K1, (below_alloc w _).alloc (by simp) _⟩
/-- the answer is stored -/
theorem ans_stored {w w' : World} {gr : Nat} {Zs : List Value} (S : Sec) (h : Blk w' gr 90 Zs.toArray) (hz : Zs.length = 128) (hb : Below w.heap.size w w') (hg : w.heap.size ≤ gr) :
    w'.there gr 0 S.cs.toArray.size ∧ Blk (w'.setCells gr 0 S.cs) gr 90 S.cs.toArray ∧ Below w.heap.size w (w'.setCells gr 0 S.cs) :=
  ⟨h.there (by simp [Sec.cs_len, hz]), h.over S.cs (by simp [Sec.cs_len, hz]), hb.grown (setCells_grown gr S.cs 0 w').1 hb.size (fun j e => by injection e with e; omega)⟩
set_option maxRecDepth 100000 in
set_option maxHeartbeats 1000000 in
theorem seal_range (k g n : Int) (A : Option Addr) (m c : Nat) (w : World) (hb : isBoxB k g n = false) :
    Calls Tryd.prog 57 #[.agg (boxCs k g n (.slice A m c)).toArray] w fun e w' => e = .returned (.tuple #[Sec.zero.v, errV 1]) ∧ Below w.heap.size w w' := by
  obtain ⟨Zs, hZ, hZs⟩ : ∃ Zs : List Value, (∀ w, (zeroValue 90).run Tryd.prog w = .ok (.agg Zs.toArray) w) ∧ Zs = Sec.zero.cs := ⟨Sec.zero.cs, sec_zero, rfl⟩
  have hbd : ∀ w, (Instr.build 90 #[]).run Tryd.prog w = .ok (.agg Zs.toArray) w := fun w => by rw [sec_build w, ← hZ w]; exact (sec_zero w).symm
  have hzl : Zs.length = 128 := by rw [hZs, Sec.cs_len]
  obtain ⟨K0, K1, b0⟩ := seal_start w k g n A m c Zs hzl
  obtain ⟨hth, ha, hB⟩ := ans_stored Sec.zero K1 hzl b0 (by omega)
  have hone := Sec.zero.one
  have hia := Sec.zero.infoA
  rw [← hZs] at hth ha hB hone hia
  have HA := Lib.hid (And.intro ha hB)
  have HZs := Lib.hid hZs
  have HB := Lib.hid hb
  clear hZs hzl K0 K1 b0 ha hB hb
  simp only [boxCs]
  go_enter Tryd.func57, Tryd.ntmps57
  go_wp2_with fail
  refine (isbox_any k g n _).mono ?_
  rintro e w' ⟨rfl, rfl⟩
  rw [HB.out]
  go_wp2_with (refine wpList_store_mid rfl 90 (.tmp 2) (.tmp 12) rfl (w.heap.size + 1) 0 Zs.toArray rfl rfl hth hia (all_oneCell_toArray hone) ?_)
  refine bodyPost_ret (sec_results2 rfl _ _ (w.heap.size + 1) Sec.zero (errV 1) rfl rfl (by rw [← HZs.out]; exact HA.out.1)) rfl ?_
  exact ⟨rfl, HA.out.2⟩
set_option maxRecDepth 100000 in
set_option maxHeartbeats 1000000 in
theorem seal_form (k g n : Int) (A : Option Addr) (m c : Nat) (w : World) (hb : isBoxB k g n = true) (hm : 106 < m) :
    Calls Tryd.prog 57 #[.agg (boxCs k g n (.slice A m c)).toArray] w fun e w' => e = .returned (.tuple #[Sec.zero.v, errV 2]) ∧ Below w.heap.size w w' := by
  obtain ⟨Zs, hZ, hZs⟩ : ∃ Zs : List Value, (∀ w, (zeroValue 90).run Tryd.prog w = .ok (.agg Zs.toArray) w) ∧ Zs = Sec.zero.cs := ⟨Sec.zero.cs, sec_zero, rfl⟩
  have hbd : ∀ w, (Instr.build 90 #[]).run Tryd.prog w = .ok (.agg Zs.toArray) w := fun w => by rw [sec_build w, ← hZ w]; exact (sec_zero w).symm
  have hzl : Zs.length = 128 := by rw [hZs, Sec.cs_len]
  obtain ⟨K0, K1, b0⟩ := seal_start w k g n A m c Zs hzl
  obtain ⟨hth, ha, hB⟩ := ans_stored Sec.zero K1 hzl b0 (by omega)
  have hone := Sec.zero.one
  have hia := Sec.zero.infoA
  rw [← hZs] at hth ha hB hone hia
  have HA := Lib.hid (And.intro ha hB)
  have HZs := Lib.hid hZs
  have HB := Lib.hid hb
  have hd : decide (106 < (m : Int)) = true := decide_eq_true (by omega)
  clear hZs hzl K0 K1 b0 ha hB hb
  simp only [boxCs]
  go_enter Tryd.func57, Tryd.ntmps57
  go_wp2_with fail
  refine (isbox_any k g n _).mono ?_
  rintro e w' ⟨rfl, rfl⟩
  rw [HB.out]
  go_wp2_with (refine wpList_store_mid rfl 90 (.tmp 2) (.tmp 18) rfl (w.heap.size + 1) 0 Zs.toArray rfl rfl hth hia (all_oneCell_toArray hone) ?_)
  refine bodyPost_ret (sec_results2 rfl _ _ (w.heap.size + 1) Sec.zero (errV 2) rfl rfl (by rw [← HZs.out]; exact HA.out.1)) rfl ?_
  exact ⟨rfl, HA.out.2⟩
set_option maxRecDepth 100000 in
set_option maxHeartbeats 1000000 in
theorem seal_good (k g n : Int) (A : Option Addr) (c : Nat) (d : List Nat) (B : Nat) (w : World) (hb : isBoxB k g n = true) (hd : Bytes w B A d.length d) (hl : d.length ≤ 106) (h256 : ∀ b ∈ d, b < 256) (hT : Tab w) :
    Calls Tryd.prog 57 #[.agg (boxCs k g n (.slice A d.length c)).toArray] w fun e w' => e = .returned (.tuple #[(sealSec k g n d hl h256).v, .nilIface]) ∧ Below w.heap.size w w' := by
  obtain ⟨Zs, hZ, hZs⟩ : ∃ Zs : List Value, (∀ w, (zeroValue 90).run Tryd.prog w = .ok (.agg Zs.toArray) w) ∧ Zs = Sec.zero.cs := ⟨Sec.zero.cs, sec_zero, rfl⟩
  have hzl : Zs.length = 128 := by rw [hZs, Sec.cs_len]
  obtain ⟨K0, K1, b0⟩ := seal_start w k g n A d.length c Zs hzl
  have hdc : decide (106 < (d.length : Int)) = false := decide_eq_false (by omega)
  have hrg : World.rangeAt _ w.heap.size 0 (boxCs k g n (.slice A d.length c)) := K0.range
  have hu := Tryd.underlying104
  have hib : (Tryd.prog.info? 104).map (·.size) = some (boxCs k g n (.slice A d.length c)).length := box_size
  have HK := Lib.hid (And.intro K0 (And.intro K1 b0))
  have HB := Lib.hid hb
  have HD := Lib.hid hd
  have HT := Lib.hid (hT.below b0)
  have HZL := Lib.hid hzl
  clear hZs hzl K0 K1 b0 hb hd hT
  simp only [boxCs] at hrg hib ⊢
  go_enter Tryd.func57, Tryd.ntmps57
  go_wp2_with fail
  refine (isbox_any k g n _).mono ?_
  rintro e w' ⟨rfl, rfl⟩
  rw [HB.out]
  go_wp2_with (refine wpList_load_mid rfl 104 (.tmp 1) rfl w.heap.size 0 rfl _ _ hrg hu rfl hib ?_)
  generalize (w.alloc (.cells #[.int .i64 k, .int .i64 g, .int .i64 n, .slice A d.length c] 104)).alloc (.cells Zs.toArray 90) = w2 at *
  refine (sealed_any k g n A c d B w2 (HD.out.since HK.out.2.2) hl h256 HT.out).mono ?_
  rintro e w3 ⟨rfl, b3⟩
  simp only [Sec.v]
  have K3 := HK.out.2.1.below b3 HK.out.2.1.lt
  have B3 : Below w.heap.size w w3 := HK.out.2.2.trans (b3.mono HK.out.2.2.size)
  obtain ⟨hth, ha, hB⟩ := ans_stored (sealSec k g n d hl h256) K3 HZL.out B3 (by omega)
  have hone := (sealSec k g n d hl h256).one
  have hia := (sealSec k g n d hl h256).infoA
  have HA := Lib.hid (And.intro ha hB)
  clear ha hB K3 B3 b3 hrg
  generalize hS : sealSec k g n d hl h256 = S at *
  have HS := Lib.hid hS
  clear hS
  go_wp2_with (refine wpList_store_mid rfl 90 (.tmp 2) (.tmp 21) rfl (w.heap.size + 1) 0 S.cs.toArray rfl rfl hth hia (all_oneCell_toArray hone) ?_)
  refine bodyPost_ret (sec_results2 rfl _ _ (w.heap.size + 1) S .nilIface rfl rfl HA.out.1) rfl ?_
  exact ⟨by simp only [Sec.v, HS.out], HA.out.2⟩
end Go.Proofs.YtpklcmocjimcpaaDoor

/-
  What Open returns. Conditions: the package's table holds its sixteen numbers.
-/
namespace Go.Proofs.YtpklcmocjimcpaaDoor
open Go.RowKit
set_option maxRecDepth 100000
set_option linter.unusedSimpArgs false
set_option linter.unusedVariables false
theorem wpList_wanted {P : Program} {ops : Array Oper} {rest : List Oper} {o : Oper} {a : Act} {w : World} {Q : Exit → Act → World → Prop} (hw : Region.wanted o (yielded ops a.tmps) = true)
    (h : ∀ K : Act → World → Prop, (∀ a w, wpList P ops Q rest a w → K a w) → o.wp P a w K Q) : wpList P ops Q (o :: rest) a w :=
  wpList_step fun K hK => by rw [if_pos hw]; exact h K hK
theorem wpListG_load_mid {P : Program} {ops : Array Oper} {rest : List Oper} {op : Oper} {a : Act} {w : World} {Q : Exit → Act → World → Prop} (hw : Region.wanted op (yielded ops a.tmps) = true) (ty : TypeId) (x : Operand) (ho : op.op = .load ty x)
    (b o : Nat) (hx : a.eval x = .pointer (some ⟨b, o, none⟩)) (cs : List Value) (d : TypeDesc) (hc : w.rangeAt b o cs) (hu : P.underlying ty = some d) (hd : d.isRow = true) (hi : (P.info? ty).map (·.size) = some cs.length)
    (h : wpList P ops Q rest (a.put op.dst (.agg cs.toArray)) w) : wpList P ops Q (op :: rest) a w :=
  wpList_wanted hw fun _ hK => wp_load_mid ty x ho b o hx cs d hc hu hd hi (hK _ _ h)
theorem wpListG_sec_neq {ops : Array Oper} {rest : List Oper} {op : Oper} {a : Act} {w : World} {Q : Exit → Act → World → Prop} (hw : Region.wanted op (yielded ops a.tmps) = true) (x y : Operand) (ho : op.op = .binOp .neq 90 x y 90)
    (s t : Sec) (hx : a.eval x = .agg s.cs.toArray) (hy : a.eval y = .agg t.cs.toArray) (r : Bool) (hr : secEq s t = !r)
    (h : wpList Tryd.prog ops Q rest (a.put op.dst (.bool r)) w) : wpList Tryd.prog ops Q (op :: rest) a w :=
  wpList_wanted hw fun _ hK => by
    refine wp_ran (v := .bool r) (w' := w) ?_ (hK _ _ h)
    have := run_sec_neq s t w
    rw [hr, Bool.not_not] at this
    simp [execOp, ho, hx, hy, this, run_sec_guard, Result.andThen]
theorem box_build (w : World) : (Instr.build 104 #[]).run Tryd.prog w = .ok (.agg #[.int .i64 0, .int .i64 0, .int .i64 0, .slice none 0 0]) w := by kernel_rfl
theorem boxCs_one (k g n : Int) (A : Option Addr) (m c : Nat) : ∀ u ∈ boxCs k g n (.slice A m c), u.oneCell' = true := by
  intro u hu
  simp only [boxCs, List.mem_cons, List.not_mem_nil, or_false] at hu
  rcases hu with rfl | rfl | rfl | rfl <;> rfl
theorem box_results2 {fn : Func} {p u : Tmp} (h : fn.results = #[.cell p 104, .tmp u]) (tmps : Array Value) (w : World) (g : Nat) (cs : List Value) (v : Value) (hl : cs.length = 4) (hp : tmps.getD p undef = .pointer (some ⟨g, 0, none⟩)) (hv : tmps.getD u undef = v) (hg : Blk w g 104 cs.toArray) :
    (results fn tmps).run Tryd.prog w = .ok (.tuple #[.agg cs.toArray, v]) w := by
  rw [results_cell_tmp h, hp, hv]
  have := run_loadVar_row (P := Tryd.prog) w g 104 104 cs.toArray (0, 0) _ hg Tryd.underlying104 rfl (by rw [List.size_toArray, hl]; exact box_size)
  simp [asAddr, this, Result.andThen]
/-- what Open has come to behind told: the sector, the answer, the box that was told -/
theorem open_start (s : Sec) (w w3 : World) (v : Value) (b3 : Below (((w.alloc (.cells s.cs.toArray 90)).alloc (.cells #[.int .i64 0, .int .i64 0, .int .i64 0, .slice none 0 0] 104))).heap.size ((w.alloc (.cells s.cs.toArray 90)).alloc (.cells #[.int .i64 0, .int .i64 0, .int .i64 0, .slice none 0 0] 104)) w3) (bc : List Value) :
    Blk (w3.alloc (.cells bc.toArray 104)) w.heap.size 90 s.cs.toArray ∧ Blk (w3.alloc (.cells bc.toArray 104)) (w.heap.size + 1) 104 #[.int .i64 0, .int .i64 0, .int .i64 0, .slice none 0 0] ∧
    Blk (w3.alloc (.cells bc.toArray 104)) w3.heap.size 104 bc.toArray ∧ Below w.heap.size w (w3.alloc (.cells bc.toArray 104)) ∧ w.heap.size + 1 < w3.heap.size := by
  have K0 := (Blk.new w 90 s.cs.toArray).alloc (.cells #[.int .i64 0, .int .i64 0, .int .i64 0, .slice none 0 0] 104)
  have K1 := Blk.new (w.alloc (.cells s.cs.toArray 90)) 104 #[.int .i64 0, .int .i64 0, .int .i64 0, .slice none 0 0]
  rw [World.size_alloc] at K1
  have hs := b3.size
  have hb : Below w.heap.size w w3 := ((below_alloc w (.cells s.cs.toArray 90)).alloc (by simp) (.cells #[.int .i64 0, .int .i64 0, .int .i64 0, .slice none 0 0] 104)).trans (b3.mono (by simp; omega))
  simp at hs
  exact ⟨(K0.below b3 K0.lt).alloc _, (K1.below b3 K1.lt).alloc _, Blk.new _ _ _, hb.alloc hb.size _, by omega⟩
set_option maxRecDepth 100000 in
set_option maxHeartbeats 2000000 in
theorem open_bad (s : Sec) (w : World) (hT : Tab w) (hs : isSealed s.l = false) :
    Calls Tryd.prog 75 #[.agg s.cs.toArray] w fun e w' => e = .returned (.tuple #[.agg (boxCs 0 0 0 (.slice none 0 0)).toArray, errV 11]) ∧ Below w.heap.size w w' := by
  obtain ⟨Zs, hZ, hZs⟩ : ∃ Zs : List Value, (∀ w, (zeroValue 90).run Tryd.prog w = .ok (.agg Zs.toArray) w) ∧ Zs = Sec.zero.cs := ⟨Sec.zero.cs, sec_zero, rfl⟩
  have hzl : Zs.length = 128 := by rw [hZs, Sec.cs_len]
  have hbz := box_zero
  have hbb := box_build
  have HT := Lib.hid hT
  have HSL := Lib.hid hs
  have HZL := Lib.hid hzl
  have hrs : World.rangeAt ((w.alloc (.cells s.cs.toArray 90)).alloc (.cells #[.int .i64 0, .int .i64 0, .int .i64 0, .slice none 0 0] 104)) w.heap.size 0 s.cs := ((Blk.new w 90 s.cs.toArray).alloc (.cells #[.int .i64 0, .int .i64 0, .int .i64 0, .slice none 0 0] 104)).range
  have husec := Tryd.underlying90
  have hubox := Tryd.underlying104
  have hisec := s.info
  clear hT hs hzl hZs
  go_enter Tryd.func75, Tryd.ntmps75
  go_wp2_with (refine wpList_load_mid rfl 90 (.tmp 1) rfl w.heap.size 0 rfl s.cs _ hrs husec rfl hisec ?_)
  refine (told_any s _).mono ?_
  rintro e w3 ⟨v, rfl, ho, b3⟩
  obtain ⟨Av, cv, rfl, -, -, -⟩ := ho.form
  obtain ⟨k0, k1, k2, kb, kl⟩ := open_start s w w3 (.slice Av (tD s.l).length cv) b3 (boxCs (tK s.l) (tG s.l) (tN s.l) (.slice Av (tD s.l).length cv))
  have hd4 := (ho.bytes (tD_lt s.l s.lt)).since (below_alloc w3 (.cells (boxCs (tK s.l) (tG s.l) (tN s.l) (.slice Av (tD s.l).length cv)).toArray 104))
  have hT4 := HT.out.below kb
  have HK := Lib.hid (And.intro k0 (And.intro k1 (And.intro k2 (And.intro kb (And.intro hd4 hT4)))))
  have hib : (Tryd.prog.info? 104).map (·.size) = some (boxCs (tK s.l) (tG s.l) (tN s.l) (.slice Av (tD s.l).length cv)).length := box_size
  have hone := boxCs_one (tK s.l) (tG s.l) (tN s.l) Av (tD s.l).length cv
  have hrb : World.rangeAt (w3.alloc (.cells (boxCs (tK s.l) (tG s.l) (tN s.l) (.slice Av (tD s.l).length cv)).toArray 104)) w3.heap.size 0 (boxCs (tK s.l) (tG s.l) (tN s.l) (.slice Av (tD s.l).length cv)) := k2.range
  clear k0 k1 k2 kb hd4 hT4 ho b3 hrs
  have hDl := tD_len s.l
  go_wp2_with (first
    | (refine wpList_store_newN rfl 104 (.tmp 4) (.tmp 8) rfl w3.heap.size rfl (boxCs (tK s.l) (tG s.l) (tN s.l) (.slice Av (tD s.l).length cv)) _ rfl rfl hib rfl hone ?_)
    | (refine wpList_load_mid rfl 104 (.tmp 4) rfl w3.heap.size 0 rfl (boxCs (tK s.l) (tG s.l) (tN s.l) (.slice Av (tD s.l).length cv)) _ hrb hubox rfl hib ?_))
  cases hbx : isBoxB (tK s.l) (tG s.l) (tN s.l) with
  | false =>
    refine (seal_range _ _ _ Av _ cv _ hbx).mono ?_
    rintro e w5 ⟨rfl, b5⟩
    have k0 := HK.out.1.below b5 HK.out.1.lt
    have k1 := HK.out.2.1.below b5 HK.out.2.1.lt
    have kb5 := HK.out.2.2.2.1.trans (b5.mono HK.out.2.2.2.1.size)
    have KA := Lib.hid (And.intro (k0.alloc (.cells (Sec.zero).cs.toArray 90)) (And.intro (k1.alloc (.cells (Sec.zero).cs.toArray 90)) (kb5.alloc kb5.size (.cells (Sec.zero).cs.toArray 90))))
    have KS := Blk.new w5 90 (Sec.zero).cs.toArray
    have hth := KA.out.2.1.there (o := 0) (n := (boxCs 0 0 0 (.slice none 0 0)).toArray.size) (by simp [boxCs])
    have ha := KA.out.2.1.over (boxCs 0 0 0 (.slice none 0 0)) (by simp [boxCs])
    have hB := KA.out.2.2.grown (setCells_grown (w.heap.size + 1) (boxCs 0 0 0 (.slice none 0 0)) 0 _).1 KA.out.2.2.size (fun j e => by injection e with e; omega)
    have HA := Lib.hid (And.intro ha hB)
    have hone0 := boxCs_one 0 0 0 none 0 0
    have hia0 : (Tryd.prog.info? 104).map (·.size) = some (boxCs 0 0 0 (.slice none 0 0)).toArray.size := box_size
    clear ha hB
    have hlz : Zs.toArray.size = Sec.zero.cs.length := by rw [List.size_toArray, HZL.out, Sec.cs_len]
    have HLZ := Lib.hid hlz
    have hisz := Sec.zero.info
    have honez := Sec.zero.one
    simp only [errV, Sec.v]
    clear hlz k0 k1 kb5 b5 hbx KS hrb
    generalize Sec.zero = S0 at *
    go_wp2_with (first
      | (refine wpList_store_newN rfl 90 (.tmp 5) (.tmp 12) rfl w5.heap.size rfl S0.cs _ rfl rfl hisz HLZ.out honez ?_)
      | (refine wpList_store_mid rfl 104 (.tmp 2) (.tmp 21) rfl (w.heap.size + 1) 0 (boxCs 0 0 0 (.slice none 0 0)).toArray rfl rfl hth hia0 (all_oneCell_toArray hone0) ?_))
    refine bodyPost_ret (box_results2 rfl _ _ (w.heap.size + 1) (boxCs 0 0 0 (.slice none 0 0)) (errV 11) rfl rfl rfl HA.out.1) rfl ?_
    exact ⟨rfl, HA.out.2⟩
  | true =>
    have hEq : secEq (sealSec (tK s.l) (tG s.l) (tN s.l) (tD s.l) hDl (tD_lt s.l s.lt)) s = false := by
      have := HSL.out
      unfold isSealed at this
      rw [hbx, Bool.true_and] at this
      exact this
    refine (seal_good _ _ _ Av cv (tD s.l) _ _ hbx HK.out.2.2.2.2.1 hDl (tD_lt s.l s.lt) HK.out.2.2.2.2.2).mono ?_
    rintro e w5 ⟨rfl, b5⟩
    generalize sealSec (tK s.l) (tG s.l) (tN s.l) (tD s.l) hDl (tD_lt s.l s.lt) = S1 at *
    have k0 := HK.out.1.below b5 HK.out.1.lt
    have k1 := HK.out.2.1.below b5 HK.out.2.1.lt
    have kb5 := HK.out.2.2.2.1.trans (b5.mono HK.out.2.2.2.1.size)
    have KA := Lib.hid (And.intro (k0.alloc (.cells (S1).cs.toArray 90)) (And.intro (k1.alloc (.cells (S1).cs.toArray 90)) (kb5.alloc kb5.size (.cells (S1).cs.toArray 90))))
    have KS := Blk.new w5 90 (S1).cs.toArray
    have hth := KA.out.2.1.there (o := 0) (n := (boxCs 0 0 0 (.slice none 0 0)).toArray.size) (by simp [boxCs])
    have ha := KA.out.2.1.over (boxCs 0 0 0 (.slice none 0 0)) (by simp [boxCs])
    have hB := KA.out.2.2.grown (setCells_grown (w.heap.size + 1) (boxCs 0 0 0 (.slice none 0 0)) 0 _).1 KA.out.2.2.size (fun j e => by injection e with e; omega)
    have HA := Lib.hid (And.intro ha hB)
    have hone0 := boxCs_one 0 0 0 none 0 0
    have hia0 : (Tryd.prog.info? 104).map (·.size) = some (boxCs 0 0 0 (.slice none 0 0)).toArray.size := box_size
    clear ha hB
    have hlz : Zs.toArray.size = S1.cs.length := by rw [List.size_toArray, HZL.out, Sec.cs_len]
    have HLZ := Lib.hid hlz
    have hisz := S1.info
    have honez := S1.one
    have hr5 : World.rangeAt (w5.alloc (.cells S1.cs.toArray 90)) w5.heap.size 0 S1.cs := KS.range
    have hr0 : World.rangeAt (w5.alloc (.cells S1.cs.toArray 90)) w.heap.size 0 s.cs := KA.out.1.range
    have HEQ := Lib.hid hEq
    simp only [Sec.v]
    clear hlz k0 k1 kb5 b5 hbx KS hrb hEq
    go_wp2_with (first
      | (refine wpList_store_newN rfl 90 (.tmp 5) (.tmp 12) rfl w5.heap.size rfl S1.cs _ rfl rfl hisz HLZ.out honez ?_)
      | (refine wpListG_load_mid (by kernel_rfl) 90 (.tmp 5) rfl w5.heap.size 0 rfl S1.cs _ hr5 husec rfl hisz ?_)
      | (refine wpListG_load_mid (by kernel_rfl) 90 (.tmp 1) rfl w.heap.size 0 rfl s.cs _ hr0 husec rfl hisec ?_)
      | (refine wpListG_sec_neq (by kernel_rfl) (.tmp 17) (.tmp 18) rfl S1 s rfl rfl true HEQ.out ?_)
      | (refine wpList_store_mid rfl 104 (.tmp 2) (.tmp 21) rfl (w.heap.size + 1) 0 (boxCs 0 0 0 (.slice none 0 0)).toArray rfl rfl hth hia0 (all_oneCell_toArray hone0) ?_))
    refine bodyPost_ret (box_results2 rfl _ _ (w.heap.size + 1) (boxCs 0 0 0 (.slice none 0 0)) (errV 11) rfl rfl rfl HA.out.1) rfl ?_
    exact ⟨rfl, HA.out.2⟩
set_option maxRecDepth 100000 in
set_option maxHeartbeats 2000000 in
theorem open_good (s : Sec) (w : World) (hT : Tab w) (hs : isSealed s.l = true) :
    Calls Tryd.prog 75 #[.agg s.cs.toArray] w fun e w' => ∃ A c, e = .returned (.tuple #[.agg (boxCs (tK s.l) (tG s.l) (tN s.l) (.slice A (tD s.l).length c)).toArray, .nilIface]) ∧ Own w' w.heap.size (.slice A (tD s.l).length c) (tD s.l).length (tD s.l) ∧ Below w.heap.size w w' := by
  obtain ⟨Zs, hZ, hZs⟩ : ∃ Zs : List Value, (∀ w, (zeroValue 90).run Tryd.prog w = .ok (.agg Zs.toArray) w) ∧ Zs = Sec.zero.cs := ⟨Sec.zero.cs, sec_zero, rfl⟩
  have hzl : Zs.length = 128 := by rw [hZs, Sec.cs_len]
  have hbz := box_zero
  have hbb := box_build
  have HT := Lib.hid hT
  have HSL := Lib.hid hs
  have HZL := Lib.hid hzl
  have hrs : World.rangeAt ((w.alloc (.cells s.cs.toArray 90)).alloc (.cells #[.int .i64 0, .int .i64 0, .int .i64 0, .slice none 0 0] 104)) w.heap.size 0 s.cs := ((Blk.new w 90 s.cs.toArray).alloc (.cells #[.int .i64 0, .int .i64 0, .int .i64 0, .slice none 0 0] 104)).range
  have husec := Tryd.underlying90
  have hubox := Tryd.underlying104
  have hisec := s.info
  clear hT hs hzl hZs
  go_enter Tryd.func75, Tryd.ntmps75
  go_wp2_with (refine wpList_load_mid rfl 90 (.tmp 1) rfl w.heap.size 0 rfl s.cs _ hrs husec rfl hisec ?_)
  refine (told_any s _).mono ?_
  rintro e w3 ⟨v, rfl, ho, b3⟩
  obtain ⟨Av, cv, rfl, -, -, -⟩ := ho.form
  obtain ⟨k0, k1, k2, kb, kl⟩ := open_start s w w3 (.slice Av (tD s.l).length cv) b3 (boxCs (tK s.l) (tG s.l) (tN s.l) (.slice Av (tD s.l).length cv))
  have hd4 := (ho.bytes (tD_lt s.l s.lt)).since (below_alloc w3 (.cells (boxCs (tK s.l) (tG s.l) (tN s.l) (.slice Av (tD s.l).length cv)).toArray 104))
  have hT4 := HT.out.below kb
  have ho4 := ho.alloc (.cells (boxCs (tK s.l) (tG s.l) (tN s.l) (.slice Av (tD s.l).length cv)).toArray 104)
  have HO := Lib.hid ho4
  have hsz2 : ((w.alloc (.cells s.cs.toArray 90)).alloc (.cells #[.int .i64 0, .int .i64 0, .int .i64 0, .slice none 0 0] 104)).heap.size = w.heap.size + 1 + 1 := by simp
  have HK := Lib.hid (And.intro k0 (And.intro k1 (And.intro k2 (And.intro kb (And.intro hd4 hT4)))))
  have hib : (Tryd.prog.info? 104).map (·.size) = some (boxCs (tK s.l) (tG s.l) (tN s.l) (.slice Av (tD s.l).length cv)).length := box_size
  have hone := boxCs_one (tK s.l) (tG s.l) (tN s.l) Av (tD s.l).length cv
  have hrb : World.rangeAt (w3.alloc (.cells (boxCs (tK s.l) (tG s.l) (tN s.l) (.slice Av (tD s.l).length cv)).toArray 104)) w3.heap.size 0 (boxCs (tK s.l) (tG s.l) (tN s.l) (.slice Av (tD s.l).length cv)) := k2.range
  clear k0 k1 k2 kb hd4 hT4 ho ho4 b3 hrs
  have hDl := tD_len s.l
  go_wp2_with (first
    | (refine wpList_store_newN rfl 104 (.tmp 4) (.tmp 8) rfl w3.heap.size rfl (boxCs (tK s.l) (tG s.l) (tN s.l) (.slice Av (tD s.l).length cv)) _ rfl rfl hib rfl hone ?_)
    | (refine wpList_load_mid rfl 104 (.tmp 4) rfl w3.heap.size 0 rfl (boxCs (tK s.l) (tG s.l) (tN s.l) (.slice Av (tD s.l).length cv)) _ hrb hubox rfl hib ?_))
  have hEq : secEq (sealSec (tK s.l) (tG s.l) (tN s.l) (tD s.l) hDl (tD_lt s.l s.lt)) s = true := by
    have := (sealed_eq s.l HSL.out).1
    unfold secEq
    rw [beq_iff_eq]
    exact this
  have hbx := (sealed_eq s.l HSL.out).2
  refine (seal_good _ _ _ Av cv (tD s.l) _ _ hbx HK.out.2.2.2.2.1 hDl (tD_lt s.l s.lt) HK.out.2.2.2.2.2).mono ?_
  rintro e w5 ⟨rfl, b5⟩
  generalize sealSec (tK s.l) (tG s.l) (tN s.l) (tD s.l) hDl (tD_lt s.l s.lt) = S1 at *
  have k0 := HK.out.1.below b5 HK.out.1.lt
  have k1 := HK.out.2.1.below b5 HK.out.2.1.lt
  have kb5 := HK.out.2.2.2.1.trans (b5.mono HK.out.2.2.2.1.size)
  have KA := Lib.hid (And.intro (k0.alloc (.cells (S1).cs.toArray 90)) (And.intro (k1.alloc (.cells (S1).cs.toArray 90)) (kb5.alloc kb5.size (.cells (S1).cs.toArray 90))))
  have KS := Blk.new w5 90 (S1).cs.toArray
  have hth := KA.out.2.1.there (o := 0) (n := (boxCs (tK s.l) (tG s.l) (tN s.l) (.slice Av (tD s.l).length cv)).toArray.size) (by simp [boxCs])
  have ha := KA.out.2.1.over (boxCs (tK s.l) (tG s.l) (tN s.l) (.slice Av (tD s.l).length cv)) (by simp [boxCs])
  have hB := KA.out.2.2.grown (setCells_grown (w.heap.size + 1) (boxCs (tK s.l) (tG s.l) (tN s.l) (.slice Av (tD s.l).length cv)) 0 _).1 KA.out.2.2.size (fun j e => by injection e with e; omega)
  have ho6 := (HO.out.below b5).alloc (.cells (S1).cs.toArray 90)
  have ho7 := (Own.grown ho6 (setCells_grown (w.heap.size + 1) (boxCs (tK s.l) (tG s.l) (tN s.l) (.slice Av (tD s.l).length cv)) 0 _).1 (.inr (fun e => by have := (World.ownsRow.lt ho6 _ e).1; omega))).weaken (base' := w.heap.size) (by omega)
  have k2 := HK.out.2.2.1.below b5 HK.out.2.2.1.lt
  have hr3 : World.rangeAt (w5.alloc (.cells S1.cs.toArray 90)) w3.heap.size 0 (boxCs (tK s.l) (tG s.l) (tN s.l) (.slice Av (tD s.l).length cv)) := (k2.alloc (.cells (S1).cs.toArray 90)).range
  have HA := Lib.hid (And.intro ha (And.intro hB ho7))
  have hone0 := hone
  have hia0 : (Tryd.prog.info? 104).map (·.size) = some (boxCs (tK s.l) (tG s.l) (tN s.l) (.slice Av (tD s.l).length cv)).toArray.size := box_size
  clear ha hB ho6 ho7 k2
  have hlz : Zs.toArray.size = S1.cs.length := by rw [List.size_toArray, HZL.out, Sec.cs_len]
  have HLZ := Lib.hid hlz
  have hisz := S1.info
  have honez := S1.one
  have hr5 : World.rangeAt (w5.alloc (.cells S1.cs.toArray 90)) w5.heap.size 0 S1.cs := KS.range
  have hr0 : World.rangeAt (w5.alloc (.cells S1.cs.toArray 90)) w.heap.size 0 s.cs := KA.out.1.range
  have HEQ := Lib.hid hEq
  simp only [Sec.v]
  clear hlz k0 k1 kb5 b5 hbx KS hrb hEq
  go_wp2_with (first
    | (refine wpList_store_newN rfl 90 (.tmp 5) (.tmp 12) rfl w5.heap.size rfl S1.cs _ rfl rfl hisz HLZ.out honez ?_)
    | (refine wpListG_load_mid (by kernel_rfl) 90 (.tmp 5) rfl w5.heap.size 0 rfl S1.cs _ hr5 husec rfl hisz ?_)
    | (refine wpListG_load_mid (by kernel_rfl) 90 (.tmp 1) rfl w.heap.size 0 rfl s.cs _ hr0 husec rfl hisec ?_)
    | (refine wpListG_sec_neq (by kernel_rfl) (.tmp 17) (.tmp 18) rfl S1 s rfl rfl false HEQ.out ?_)
    | (refine wpList_load_mid rfl 104 (.tmp 4) rfl w3.heap.size 0 rfl (boxCs (tK s.l) (tG s.l) (tN s.l) (.slice Av (tD s.l).length cv)) _ hr3 hubox rfl hib ?_)
    | (refine wpList_store_mid rfl 104 (.tmp 2) (.tmp 23) rfl (w.heap.size + 1) 0 (boxCs (tK s.l) (tG s.l) (tN s.l) (.slice Av (tD s.l).length cv)).toArray rfl rfl hth hia0 (all_oneCell_toArray hone0) ?_))
  refine bodyPost_ret (box_results2 rfl _ _ (w.heap.size + 1) (boxCs (tK s.l) (tG s.l) (tN s.l) (.slice Av (tD s.l).length cv)) .nilIface rfl rfl rfl HA.out.1) rfl ?_
  exact ⟨Av, cv, rfl, HA.out.2.2, HA.out.2.1⟩
end Go.Proofs.YtpklcmocjimcpaaDoor

/-
  What Is returns. Conditions: the package's table holds its sixteen numbers.
-/
namespace Go.Proofs.YtpklcmocjimcpaaDoor
open Go.RowKit
set_option maxRecDepth 100000
set_option linter.unusedSimpArgs false
set_option linter.unusedVariables false
def isOf (l : List Nat) (k g n : Int) : Bool := isSealed l && decide (tK l = k ∧ tG l = g ∧ tN l = n)
set_option maxRecDepth 100000 in
set_option maxHeartbeats 1000000 in
theorem is_yes (s : Sec) (k g n : Int) (w : World) (hT : Tab w) (h : isOf s.l k g n = true) :
    Calls Tryd.prog 63 #[.agg s.cs.toArray, .int .i64 k, .int .i64 g, .int .i64 n] w fun e w' => ∃ A c, e = .returned (.tuple #[.slice A (tD s.l).length c, .bool true]) ∧ Own w' w.heap.size (.slice A (tD s.l).length c) (tD s.l).length (tD s.l) ∧ Below w.heap.size w w' := by
  simp only [isOf, Bool.and_eq_true, decide_eq_true_eq] at h
  obtain ⟨hs, rfl, rfl, rfl⟩ := h
  have HT := Lib.hid hT
  have hrs : World.rangeAt (w.alloc (.cells s.cs.toArray 90)) w.heap.size 0 s.cs := (Blk.new w 90 s.cs.toArray).range
  have husec := Tryd.underlying90
  have hubox := Tryd.underlying104
  have hisec := s.info
  have hbz := box_zero
  have b1 := below_alloc w (.cells s.cs.toArray 90)
  have hT1 := Lib.hid (hT.below b1)
  have B1 := Lib.hid b1
  have HS := Lib.hid hs
  clear hT hs b1
  go_enter Tryd.func63, Tryd.ntmps63
  go_wp2_with (refine wpList_load_mid rfl 90 (.tmp 4) rfl w.heap.size 0 rfl s.cs _ hrs husec rfl hisec ?_)
  refine (open_good s _ hT1.out HS.out).mono ?_
  rintro e w2 ⟨A, c, rfl, ho, b2⟩
  have hK2 := Blk.new w2 104 (boxCs (tK s.l) (tG s.l) (tN s.l) (.slice A (tD s.l).length c)).toArray
  have cc := box_cells hK2
  have c0 := cc.1
  have c1 := cc.2.1
  have c2 := cc.2.2.1
  have c3 := cc.2.2.2
  have hib : (Tryd.prog.info? 104).map (·.size) = some (boxCs (tK s.l) (tG s.l) (tN s.l) (.slice A (tD s.l).length c)).length := box_size
  have hone := boxCs_one (tK s.l) (tG s.l) (tN s.l) A (tD s.l).length c
  have bb := B1.out.trans (b2.mono (by simp))
  have HO := Lib.hid (And.intro ((ho.alloc (.cells (boxCs (tK s.l) (tG s.l) (tN s.l) (.slice A (tD s.l).length c)).toArray 104)).weaken (base' := w.heap.size) (by simp)) (bb.alloc bb.size (.cells (boxCs (tK s.l) (tG s.l) (tN s.l) (.slice A (tD s.l).length c)).toArray 104)))
  clear ho b2 cc bb hK2 hrs
  simp only [boxCs] at c0 c1 c2 c3 hib hone ⊢
  go_wp2_with (refine wpList_store_newN rfl 104 (.tmp 10) (.tmp 15) rfl w2.heap.size rfl _ _ rfl rfl hib rfl hone ?_)
  go_ret2
  exact ⟨A, c, rfl, HO.out⟩
set_option maxRecDepth 100000 in
set_option maxHeartbeats 1000000 in
theorem is_no_open (s : Sec) (k g n : Int) (w : World) (hT : Tab w) (hs : isSealed s.l = false) :
    Calls Tryd.prog 63 #[.agg s.cs.toArray, .int .i64 k, .int .i64 g, .int .i64 n] w fun e w' => e = .returned (.tuple #[.slice none 0 0, .bool false]) ∧ Below w.heap.size w w' := by
  have HT := Lib.hid hT
  have hrs : World.rangeAt (w.alloc (.cells s.cs.toArray 90)) w.heap.size 0 s.cs := (Blk.new w 90 s.cs.toArray).range
  have husec := Tryd.underlying90
  have hubox := Tryd.underlying104
  have hisec := s.info
  have hbz := box_zero
  have b1 := below_alloc w (.cells s.cs.toArray 90)
  have hT1 := Lib.hid (hT.below b1)
  have B1 := Lib.hid b1
  have HS := Lib.hid hs
  clear hT hs b1
  go_enter Tryd.func63, Tryd.ntmps63
  go_wp2_with (refine wpList_load_mid rfl 90 (.tmp 4) rfl w.heap.size 0 rfl s.cs _ hrs husec rfl hisec ?_)
  refine (open_bad s _ hT1.out HS.out).mono ?_
  rintro e w2 ⟨rfl, b2⟩
  have bb := B1.out.trans (b2.mono (by simp))
  have HB := Lib.hid (bb.alloc bb.size (.cells (boxCs 0 0 0 (.slice none 0 0)).toArray 104))
  have hib : (Tryd.prog.info? 104).map (·.size) = some (boxCs 0 0 0 (.slice none 0 0)).length := box_size
  have hone := boxCs_one 0 0 0 none 0 0
  clear b2 bb hrs
  simp only [boxCs, errV] at hib hone ⊢
  go_wp2_with (refine wpList_store_newN rfl 104 (.tmp 10) (.tmp 15) rfl w2.heap.size rfl _ _ rfl rfl hib rfl hone ?_)
  go_ret2
  exact ⟨rfl, HB.out⟩
set_option maxRecDepth 100000 in
set_option maxHeartbeats 1000000 in
theorem is_no_k (s : Sec) (k g n : Int) (w : World) (hT : Tab w) (hs : isSealed s.l = true) (hk : tK s.l ≠ k) :
    Calls Tryd.prog 63 #[.agg s.cs.toArray, .int .i64 k, .int .i64 g, .int .i64 n] w fun e w' => e = .returned (.tuple #[.slice none 0 0, .bool false]) ∧ Below w.heap.size w w' := by
  have HT := Lib.hid hT
  have hrs : World.rangeAt (w.alloc (.cells s.cs.toArray 90)) w.heap.size 0 s.cs := (Blk.new w 90 s.cs.toArray).range
  have husec := Tryd.underlying90
  have hubox := Tryd.underlying104
  have hisec := s.info
  have hbz := box_zero
  have b1 := below_alloc w (.cells s.cs.toArray 90)
  have hT1 := Lib.hid (hT.below b1)
  have B1 := Lib.hid b1
  have HS := Lib.hid hs
  have hd1 : (tK s.l != k) = true := by simpa using hk
  clear hT hs b1 hk
  go_enter Tryd.func63, Tryd.ntmps63
  go_wp2_with (refine wpList_load_mid rfl 90 (.tmp 4) rfl w.heap.size 0 rfl s.cs _ hrs husec rfl hisec ?_)
  refine (open_good s _ hT1.out HS.out).mono ?_
  rintro e w2 ⟨A, c, rfl, ho, b2⟩
  have hK2 := Blk.new w2 104 (boxCs (tK s.l) (tG s.l) (tN s.l) (.slice A (tD s.l).length c)).toArray
  have cc := box_cells hK2
  have c0 := cc.1
  have c1 := cc.2.1
  have c2 := cc.2.2.1
  have c3 := cc.2.2.2
  have hib : (Tryd.prog.info? 104).map (·.size) = some (boxCs (tK s.l) (tG s.l) (tN s.l) (.slice A (tD s.l).length c)).length := box_size
  have hone := boxCs_one (tK s.l) (tG s.l) (tN s.l) A (tD s.l).length c
  have bb := B1.out.trans (b2.mono (by simp))
  have HO := Lib.hid (And.intro ((ho.alloc (.cells (boxCs (tK s.l) (tG s.l) (tN s.l) (.slice A (tD s.l).length c)).toArray 104)).weaken (base' := w.heap.size) (by simp)) (bb.alloc bb.size (.cells (boxCs (tK s.l) (tG s.l) (tN s.l) (.slice A (tD s.l).length c)).toArray 104)))
  clear ho b2 cc bb hK2 hrs
  simp only [boxCs] at c0 c1 c2 c3 hib hone ⊢
  go_wp2_with (refine wpList_store_newN rfl 104 (.tmp 10) (.tmp 15) rfl w2.heap.size rfl _ _ rfl rfl hib rfl hone ?_)
  go_ret2
  exact ⟨rfl, HO.out.2⟩
set_option maxRecDepth 100000 in
set_option maxHeartbeats 1000000 in
theorem is_no_g (s : Sec) (k g n : Int) (w : World) (hT : Tab w) (hs : isSealed s.l = true) (hk : tK s.l = k) (hg : tG s.l ≠ g) :
    Calls Tryd.prog 63 #[.agg s.cs.toArray, .int .i64 k, .int .i64 g, .int .i64 n] w fun e w' => e = .returned (.tuple #[.slice none 0 0, .bool false]) ∧ Below w.heap.size w w' := by
  subst hk
  have HT := Lib.hid hT
  have hrs : World.rangeAt (w.alloc (.cells s.cs.toArray 90)) w.heap.size 0 s.cs := (Blk.new w 90 s.cs.toArray).range
  have husec := Tryd.underlying90
  have hubox := Tryd.underlying104
  have hisec := s.info
  have hbz := box_zero
  have b1 := below_alloc w (.cells s.cs.toArray 90)
  have hT1 := Lib.hid (hT.below b1)
  have B1 := Lib.hid b1
  have HS := Lib.hid hs
  have hd2 : (tG s.l != g) = true := by simpa using hg
  clear hT hs b1 hg
  go_enter Tryd.func63, Tryd.ntmps63
  go_wp2_with (refine wpList_load_mid rfl 90 (.tmp 4) rfl w.heap.size 0 rfl s.cs _ hrs husec rfl hisec ?_)
  refine (open_good s _ hT1.out HS.out).mono ?_
  rintro e w2 ⟨A, c, rfl, ho, b2⟩
  have hK2 := Blk.new w2 104 (boxCs (tK s.l) (tG s.l) (tN s.l) (.slice A (tD s.l).length c)).toArray
  have cc := box_cells hK2
  have c0 := cc.1
  have c1 := cc.2.1
  have c2 := cc.2.2.1
  have c3 := cc.2.2.2
  have hib : (Tryd.prog.info? 104).map (·.size) = some (boxCs (tK s.l) (tG s.l) (tN s.l) (.slice A (tD s.l).length c)).length := box_size
  have hone := boxCs_one (tK s.l) (tG s.l) (tN s.l) A (tD s.l).length c
  have bb := B1.out.trans (b2.mono (by simp))
  have HO := Lib.hid (And.intro ((ho.alloc (.cells (boxCs (tK s.l) (tG s.l) (tN s.l) (.slice A (tD s.l).length c)).toArray 104)).weaken (base' := w.heap.size) (by simp)) (bb.alloc bb.size (.cells (boxCs (tK s.l) (tG s.l) (tN s.l) (.slice A (tD s.l).length c)).toArray 104)))
  clear ho b2 cc bb hK2 hrs
  simp only [boxCs] at c0 c1 c2 c3 hib hone ⊢
  go_wp2_with (refine wpList_store_newN rfl 104 (.tmp 10) (.tmp 15) rfl w2.heap.size rfl _ _ rfl rfl hib rfl hone ?_)
  go_ret2
  exact ⟨rfl, HO.out.2⟩
set_option maxRecDepth 100000 in
set_option maxHeartbeats 1000000 in
theorem is_no_n (s : Sec) (k g n : Int) (w : World) (hT : Tab w) (hs : isSealed s.l = true) (hk : tK s.l = k) (hg : tG s.l = g) (hn : tN s.l ≠ n) :
    Calls Tryd.prog 63 #[.agg s.cs.toArray, .int .i64 k, .int .i64 g, .int .i64 n] w fun e w' => e = .returned (.tuple #[.slice none 0 0, .bool false]) ∧ Below w.heap.size w w' := by
  subst hk hg
  have HT := Lib.hid hT
  have hrs : World.rangeAt (w.alloc (.cells s.cs.toArray 90)) w.heap.size 0 s.cs := (Blk.new w 90 s.cs.toArray).range
  have husec := Tryd.underlying90
  have hubox := Tryd.underlying104
  have hisec := s.info
  have hbz := box_zero
  have b1 := below_alloc w (.cells s.cs.toArray 90)
  have hT1 := Lib.hid (hT.below b1)
  have B1 := Lib.hid b1
  have HS := Lib.hid hs
  have hd3 : (tN s.l != n) = true := by simpa using hn
  clear hT hs b1 hn
  go_enter Tryd.func63, Tryd.ntmps63
  go_wp2_with (refine wpList_load_mid rfl 90 (.tmp 4) rfl w.heap.size 0 rfl s.cs _ hrs husec rfl hisec ?_)
  refine (open_good s _ hT1.out HS.out).mono ?_
  rintro e w2 ⟨A, c, rfl, ho, b2⟩
  have hK2 := Blk.new w2 104 (boxCs (tK s.l) (tG s.l) (tN s.l) (.slice A (tD s.l).length c)).toArray
  have cc := box_cells hK2
  have c0 := cc.1
  have c1 := cc.2.1
  have c2 := cc.2.2.1
  have c3 := cc.2.2.2
  have hib : (Tryd.prog.info? 104).map (·.size) = some (boxCs (tK s.l) (tG s.l) (tN s.l) (.slice A (tD s.l).length c)).length := box_size
  have hone := boxCs_one (tK s.l) (tG s.l) (tN s.l) A (tD s.l).length c
  have bb := B1.out.trans (b2.mono (by simp))
  have HO := Lib.hid (And.intro ((ho.alloc (.cells (boxCs (tK s.l) (tG s.l) (tN s.l) (.slice A (tD s.l).length c)).toArray 104)).weaken (base' := w.heap.size) (by simp)) (bb.alloc bb.size (.cells (boxCs (tK s.l) (tG s.l) (tN s.l) (.slice A (tD s.l).length c)).toArray 104)))
  clear ho b2 cc bb hK2 hrs
  simp only [boxCs] at c0 c1 c2 c3 hib hone ⊢
  go_wp2_with (refine wpList_store_newN rfl 104 (.tmp 10) (.tmp 15) rfl w2.heap.size rfl _ _ rfl rfl hib rfl hone ?_)
  go_ret2
  exact ⟨rfl, HO.out.2⟩
theorem is_no (s : Sec) (k g n : Int) (w : World) (hT : Tab w) (h : isOf s.l k g n = false) :
    Calls Tryd.prog 63 #[.agg s.cs.toArray, .int .i64 k, .int .i64 g, .int .i64 n] w fun e w' => e = .returned (.tuple #[.slice none 0 0, .bool false]) ∧ Below w.heap.size w w' := by
  cases hs : isSealed s.l with
  | false => exact is_no_open s k g n w hT hs
  | true =>
    by_cases hk : tK s.l = k
    · by_cases hg : tG s.l = g
      · by_cases hn : tN s.l = n
        · simp [isOf, hs, hk, hg, hn] at h
        · exact is_no_n s k g n w hT hs hk hg hn
      · exact is_no_g s k g n w hT hs hk hg
    · exact is_no_k s k g n w hT hs hk
end Go.Proofs.YtpklcmocjimcpaaDoor

/-
  The laws' fixed example of layer 4 stands. Conditions: the package's table holds its sixteen numbers.
-/
namespace Go.Proofs.YtpklcmocjimcpaaDoor
open Go.RowKit
set_option maxRecDepth 100000
set_option linter.unusedSimpArgs false
set_option linter.unusedVariables false
def hi : List Nat := [104, 105]
theorem hi_len : hi.length ≤ 106 := by decide
theorem hi_lt : ∀ b ∈ hi, b < 256 := by decide
def hiSec : Sec := sealSec 1 2 3 hi hi_len hi_lt
theorem hi_box : isBoxB 1 2 3 = true := by decide
theorem hi_at (j v : Nat) (hj : 4 ≤ j) (h : (bodyOf 1 2 3 hi)[j - 4]? = some v) : hiSec.cs.toArray[j]? = some (.int .u8 v) := by
  refine u8s_at ?_
  show (sealL 1 2 3 hi)[j]? = _
  unfold sealL
  rw [List.getElem?_append_right (by rw [le_len]; exact hj), le_len]
  exact h
theorem hi_4 : hiSec.cs.toArray[4]? = some (.int .u8 1) := hi_at 4 1 (by omega) (by kernel_rfl)
theorem hi_5 : hiSec.cs.toArray[5]? = some (.int .u8 2) := hi_at 5 2 (by omega) (by kernel_rfl)
theorem hi_13 : hiSec.cs.toArray[13]? = some (.int .u8 3) := hi_at 13 3 (by omega) (by kernel_rfl)
theorem hi_21 : hiSec.cs.toArray[21]? = some (.int .u8 2) := hi_at 21 2 (by omega) (by kernel_rfl)
theorem hi_22 : hiSec.cs.toArray[22]? = some (.int .u8 104) := hi_at 22 104 (by omega) (by kernel_rfl)
theorem hi_told : tD hiSec.l = hi ∧ isOf hiSec.l 1 2 3 = true := by
  obtain ⟨h1, h2, h3, h4, h5⟩ := told_seal 1 2 3 hi hi_box hi_len
  have h6 := isSealed_seal 1 2 3 hi hi_box hi_len
  refine ⟨h5, ?_⟩
  show (isSealed (sealL 1 2 3 hi) && decide (tK (sealL 1 2 3 hi) = 1 ∧ tG (sealL 1 2 3 hi) = 2 ∧ tN (sealL 1 2 3 hi) = 3)) = true
  rw [h6, h1, h2, h3]
  rfl
theorem zero_not : isSealed Sec.zero.l = false := by
  have : tK Sec.zero.l = 0 := by kernel_rfl
  unfold isSealed isBoxB
  rw [this]
  rfl
theorem hi_str : strOf hi = ⟨#[104, 105]⟩ := by kernel_rfl
end Go.Proofs.YtpklcmocjimcpaaDoor

/-
  The document's answer for the wire: its numbers as bytes. Conditions: the sizes.
-/
namespace Go.Proofs.YtpklcmocjimcpaaDoor
open Go.RowKit
set_option maxRecDepth 100000
set_option linter.unusedSimpArgs false
set_option linter.unusedVariables false
end Go.Proofs.YtpklcmocjimcpaaDoor

/-
  The document's reader. Conditions: it lies where it is said to; its bytes lie below what the call may write.
-/
namespace Go.Proofs.YtpklcmocjimcpaaDoor
open Go.RowKit
set_option maxRecDepth 100000
set_option linter.unusedSimpArgs false
set_option linter.unusedVariables false
section
variable {w w' : World} {base g : Nat} {s : RD}
end
end Go.Proofs.YtpklcmocjimcpaaDoor

/-
  What the document's reader reads. Conditions: it lies where it is said to.
-/
namespace Go.Proofs.YtpklcmocjimcpaaDoor
open Go.RowKit
set_option maxRecDepth 100000
set_option linter.unusedSimpArgs false
set_option linter.unusedVariables false
theorem un_drop (l : List Nat) (k b : Nat) (h : l[k]? = some b) : un (l.drop k) = b + 256 * un (l.drop (k + 1)) := by
  have hk : k < l.length := (List.getElem?_eq_some_iff.1 h).1
  rw [List.drop_eq_getElem_cons hk, un]
  have : l[k] = b := (List.getElem?_eq_some_iff.1 h).2
  rw [this]
theorem un_drop_lt (l : List Nat) (k : Nat) (hl : l.length ≤ 8) (hb : ∀ b ∈ l, b < 256) : un (l.drop (k + 1)) < 72057594037927936 := by
  have h := un_lt (l.drop (k + 1)) (fun b hm => hb b (List.mem_of_mem_drop hm))
  have h2 : (l.drop (k + 1)).length ≤ 7 := by rw [List.length_drop]; omega
  have h3 : (256 : Nat) ^ (l.drop (k + 1)).length ≤ 256 ^ 7 := Nat.pow_le_pow_right (by omega) h2
  have h4 : (256 : Nat) ^ 7 = 72057594037927936 := by decide
  omega
theorem RD.bad_num {s : RD} (h : (s.take 8).bad = true) : s.num = 0 ∧ s.take 8 = RD.spoilt := by
  have hf : s.fits 8 = false := by
    cases hf : s.fits 8 with
    | false => rfl
    | true => simp [RD.take, hf] at h
  exact ⟨by simp [RD.num, RD.got, hf, numOf, un, wrap64], by simp [RD.take, hf]⟩
theorem app_int {w : World} {ops : Array Oper} {rest : List Oper} {o : Oper} {a : Act} {Q : Exit → Act → World → Prop} (s x : Operand)
    (hgd : o.guard = none) (ho : o.op = .call { callee := .builtin .append, args := #[s, x], argTypes := #[52, 52] })
    (base : Nat) (v : Value) (n : Nat) (l : List Int) (hs : a.eval s = v) (hown : OwnI w base v n l)
    (B : Nat) (A : Option Addr) (m c : Nat) (news : List Int) (hx : a.eval x = .slice A m c) (hr : Ints w B A m news)
    (hsz : n + m ≤ 10000000) (hbase : base ≤ w.heap.size)
    (h : ∀ v' w', OwnI w' base v' (n + m) (l ++ news) → w.grownBy w' v.ownBlock → (v'.ownBlock = v.ownBlock ∨ v'.ownBlock = some w.heap.size) → wpList Tryd.prog ops Q rest (a.put o.dst v') w') :
    wpList Tryd.prog ops Q (o :: rest) a w := by
  obtain ⟨i0, hi0, hz0, hz1, hz2⟩ := info_parts int_info
  refine wpList_append_any w hgd s x _ ho base 3 i0 _ 1 8 Tryd.underlying52 hi0 hz0 hz1 hz2 rfl (by omega) v n (i64s l) hs hown B A m c (i64s news) hx hr (by
    intro u hu
    obtain ⟨b, _, rfl⟩ := List.mem_map.1 hu
    rfl) (by simp only [maxLen]; omega) (by omega) hbase ?_
  intro v' w' h1 h2 h3
  exact h v' w' (by unfold OwnI; rw [i64s, List.map_append]; exact h1) h2 h3
end Go.Proofs.YtpklcmocjimcpaaDoor

/-
  What the laws ask of a reader: bytes and numbers side by side, bytes written over, one read by both. Conditions: the readers lie where they are said to.
-/
namespace Go.Proofs.YtpklcmocjimcpaaDoor
open Go.RowKit
set_option maxRecDepth 100000
set_option linter.unusedSimpArgs false
set_option linter.unusedVariables false
theorem same_any (A A' : Option Addr) (n n' c c' B B' : Nat) (bs bs' : List Nat) (w : World) (h : Bytes w B A n bs) (h' : Bytes w B' A' n' bs') :
    Calls Tryd.prog 17 #[.slice A n c, .slice A' n' c'] w fun e w' => ∃ b, e = .returned (.bool b) ∧ (bs = bs' → b = true) ∧ w = w' := by
  have k1 := str_of (P := Tryd.prog) h c 34 9 5 Tryd.underlying34 Tryd.underlying5 Tryd.underlying9
  have k2 := str_of (P := Tryd.prog) h' c' 34 9 5 Tryd.underlying34 Tryd.underlying5 Tryd.underlying9
  obtain ⟨s1, hs1⟩ : ∃ s, s = strOf bs := ⟨_, rfl⟩
  obtain ⟨s2, hs2⟩ : ∃ s, s = strOf bs' := ⟨_, rfl⟩
  rw [← hs1] at k1
  rw [← hs2] at k2
  have HE : Hid (bs = bs' → s1 = s2) := Lib.hid (fun e => by rw [hs1, hs2, e])
  clear hs1 hs2 h h'
  go_enter Tryd.func17, Tryd.ntmps17
  go_wp2
  go_ret
  exact ⟨_, rfl, fun e => by simp [HE.out e], rfl⟩
/-- the state behind a reading -/
def RD.to (s : RD) (kind : Int) : RD := if kind = 0 then s.take 1 else if kind = 2 then s.flagTo else if kind = 3 then s.bytesTo else if kind = 4 then s.bytesTo else if kind = 5 then s.numsTo else s.take 8
theorem RD.got_le' (s : RD) (n : Int) : (s.got n).length ≤ s.bs.length := RD.got_le s n
theorem RD.to_le (s : RD) (kind : Int) : (s.to kind).bs.length ≤ s.bs.length := by
  have h8 := RD.take_le s 8
  have hb : s.bytesTo.bs.length ≤ s.bs.length := Nat.le_trans (RD.take_le _ _) h8
  have hrun : ∀ k, (RD.run k (s.take 8)).bs.length ≤ (s.take 8).bs.length := fun k => by
    induction k with
    | zero => exact Nat.le_refl _
    | succ k ih => exact Nat.le_trans (RD.take_le _ 8) ih
  unfold RD.to
  repeat' split
  · exact RD.take_le s 1
  · unfold RD.flagTo
    split
    · simp [RD.spoilt]
    · exact RD.take_le s 1
  · exact hb
  · exact hb
  · unfold RD.numsTo
    split
    · exact Nat.le_trans (hrun _) h8
    · simp [RD.spoilt]
  · exact h8
theorem RD.take_notbad {s : RD} {n : Int} (h : (s.take n).bad = false) : s.fits n = true := by
  cases hf : s.fits n with
  | true => rfl
  | false => simp [RD.take, hf, RD.spoilt] at h
/-- a flag that was read counts as the reader isn't bad: if it is bad there was none -/
theorem RD.flag_bad (s : RD) : (s.flag && !s.flagTo.bad) = s.flag := by
  cases hf : s.flag with
  | false => rfl
  | true =>
    have h1 : s.byte = 1 := by simpa [RD.flag] using hf
    have hto : s.flagTo = s.take 1 := by unfold RD.flagTo; rw [if_neg (by omega)]
    have hb : (s.take 1).bad = false := by
      cases hfit : s.fits 1 with
      | true => simp [RD.take, hfit]
      | false => simp [RD.byte, RD.got, hfit] at h1
    rw [hto, hb]
    rfl
section
variable {w w1 w' : World} {base g : Nat} {F F1 : List Nat} {p : Option Addr} {s t : RD}
end
end Go.Proofs.YtpklcmocjimcpaaDoor

/-
  Seal, whatever the box; bytes side by side, both ways; the laws' boxes. Conditions: the data read as bytes; the package's table holds its sixteen numbers.
-/
namespace Go.Proofs.YtpklcmocjimcpaaDoor
open Go.RowKit
set_option maxRecDepth 100000
set_option linter.unusedSimpArgs false
set_option linter.unusedVariables false
def sealErr (k g n : Int) (m : Nat) : Nat := if isBoxB k g n then (if m ≤ 106 then 0 else 2) else 1
open Classical in
noncomputable def sealRes (k g n : Int) (d : List Nat) : Sec := if h : d.length ≤ 106 ∧ (∀ b ∈ d, b < 256) ∧ isBoxB k g n = true then sealSec k g n d h.1 h.2.1 else Sec.zero
theorem sealErr_zero {k g n : Int} {m : Nat} (h : sealErr k g n m = 0) : isBoxB k g n = true ∧ m ≤ 106 := by
  unfold sealErr at h
  split at h
  · rename_i hb
    split at h
    · exact ⟨hb, by assumption⟩
    · cases h
  · cases h
theorem sealRes_good {k g n : Int} {d : List Nat} (hb : isBoxB k g n = true) (hl : d.length ≤ 106) (h : ∀ b ∈ d, b < 256) : sealRes k g n d = sealSec k g n d hl h := by
  unfold sealRes
  rw [dif_pos ⟨hl, h, hb⟩]
theorem sealRes_l {k g n : Int} {d : List Nat} (hb : isBoxB k g n = true) (hl : d.length ≤ 106) (h : ∀ b ∈ d, b < 256) : (sealRes k g n d).l = sealL k g n d := by
  rw [sealRes_good hb hl h]; rfl
theorem sealRes_bad {k g n : Int} {d : List Nat} (h : sealErr k g n d.length ≠ 0) : sealRes k g n d = Sec.zero := by
  unfold sealRes
  rw [dif_neg]
  rintro ⟨h1, h2, h3⟩
  exact h (by unfold sealErr; rw [if_pos h3, if_pos h1])
theorem seal_any (k g n : Int) (A : Option Addr) (c : Nat) (d : List Nat) (B : Nat) (w : World) (hd : Bytes w B A d.length d) (hT : Tab w) :
    Calls Tryd.prog 57 #[.agg (boxCs k g n (.slice A d.length c)).toArray] w fun e w' => e = .returned (.tuple #[(sealRes k g n d).v, errV (sealErr k g n d.length)]) ∧ Below w.heap.size w w' := by
  cases hb : isBoxB k g n with
  | false =>
    have e : sealErr k g n d.length = 1 := by unfold sealErr; rw [hb]; rfl
    rw [e, sealRes_bad (by rw [e]; omega)]
    exact seal_range k g n A d.length c w hb
  | true =>
    by_cases hl : d.length ≤ 106
    · have e : sealErr k g n d.length = 0 := by unfold sealErr; rw [hb, if_pos rfl, if_pos hl]
      rw [e, sealRes_good hb hl hd.2]
      exact seal_good k g n A c d B w hb hd hl hd.2 hT
    · have e : sealErr k g n d.length = 2 := by unfold sealErr; rw [hb, if_pos rfl, if_neg hl]
      rw [e, sealRes_bad (by rw [e]; omega)]
      exact seal_form k g n A d.length c w hb (by omega)
theorem u8ofNat_inj {x y : Nat} (hx : x < 256) (hy : y < 256) (h : UInt8.ofNat x = UInt8.ofNat y) : x = y := by
  have := congrArg UInt8.toNat h
  simp at this
  omega
theorem strOf_data (bs : List Nat) : (strOf bs).data.toList = bs.map UInt8.ofNat := by
  simp [strOf, strOfNums]
theorem strOf_inj {a b : List Nat} (ha : ∀ x ∈ a, x < 256) (hb : ∀ x ∈ b, x < 256) (h : strOf a = strOf b) : a = b := by
  have h1 := congrArg (fun s : ByteArray => s.data.toList) h
  simp only [strOf_data] at h1
  have hl : a.length = b.length := by simpa using congrArg List.length h1
  apply List.ext_getElem? 
  intro i
  have h2 := congrArg (fun l => l[i]?) h1
  simp only [List.getElem?_map] at h2
  by_cases hi : i < a.length
  · rw [List.getElem?_eq_getElem hi, List.getElem?_eq_getElem (by omega)] at h2 ⊢
    simp at h2
    rw [u8ofNat_inj (ha _ (List.getElem_mem hi)) (hb _ (List.getElem_mem (by omega))) h2]
  · rw [List.getElem?_eq_none (by omega), List.getElem?_eq_none (by omega)]
/-- bytes side by side, both ways -/
theorem same_iff (A A' : Option Addr) (n n' c c' B B' : Nat) (bs bs' : List Nat) (w : World) (h : Bytes w B A n bs) (h' : Bytes w B' A' n' bs') :
    Calls Tryd.prog 17 #[.slice A n c, .slice A' n' c'] w fun e w' => e = .returned (.bool (bs == bs')) ∧ w = w' := by
  have k1 := str_of (P := Tryd.prog) h c 34 9 5 Tryd.underlying34 Tryd.underlying5 Tryd.underlying9
  have k2 := str_of (P := Tryd.prog) h' c' 34 9 5 Tryd.underlying34 Tryd.underlying5 Tryd.underlying9
  have he : ((strOf bs).toList == (strOf bs').toList) = (bs == bs') := by
    rw [Bool.eq_iff_iff, beq_iff_eq, beq_iff_eq, ByteArray.toList_eq, ByteArray.toList_eq]
    exact ⟨fun e => strOf_inj h.2 h'.2 (Go.WideShapes.bytes_inj e), fun e => by rw [e]⟩
  have HE := Lib.hid he
  generalize strOf bs = s1 at *
  generalize strOf bs' = s2 at *
  clear h h' he
  go_enter Tryd.func17, Tryd.ntmps17
  go_wp2
  go_ret
  exact ⟨by simp [HE.out], rfl⟩
end Go.Proofs.YtpklcmocjimcpaaDoor

/-
  A number as a box's data. No condition.
-/
namespace Go.Proofs.YtpklcmocjimcpaaDoor
open Go.RowKit
set_option maxRecDepth 100000
set_option linter.unusedSimpArgs false
set_option linter.unusedVariables false
theorem jpacked_any (n : Int) (w : World) : Calls Tryd.prog 47 #[.int .i64 n] w fun e w' => ∃ A c, e = .returned (.slice A 8 c) ∧ Own w' w.heap.size (.slice A 8 c) 8 (numB n) ∧ Below w.heap.size w w' := by
  have hz := writer_zero
  have B0 := Blk.new w 110 #[.slice none 0 0]
  have hw : Wr (w.alloc (.cells #[.slice none 0 0] 110)) w.heap.size [w.heap.size] (some ⟨w.heap.size, 0, none⟩) [] :=
    .inr ⟨w.heap.size, rfl, .slice none 0 0, by simp [rowOf, Value.ownBlock], B0, World.ownsRow_nil _ _ _ _, Nat.le_refl _, by simp⟩
  have HW := Lib.hid hw
  clear hw B0
  go_enter Tryd.func47, Tryd.ntmps47
  go_wp2_with fail
  refine (wnum_any _ _ _ _ _ n HW.out (by simp) (by simp)).mono ?_
  rintro e w1 ⟨rfl, F, h1, ho, hf⟩
  have e : plus (some ⟨w.heap.size, 0, none⟩) [] (numB n) = numB n := by simp [plus]
  rw [e] at h1
  have H1 := Lib.hid h1
  have hb1 : Below w.heap.size w w1 := by
    have h0 : Below w.heap.size w (w.alloc (.cells #[.slice none 0 0] 110)) := (Below.refl _ _).alloc (Nat.le_refl _) _
    exact h0.trans (ho.below (fun k hk => by simp at hk; omega) h0.size)
  have HB := Lib.hid hb1
  clear h1 ho hf hb1
  go_wp2_with fail
  refine (out_any _ _ _ _ _ H1.out (by rw [numB_len]; omega)).mono ?_
  rintro e w2 ⟨v, rfl, hown, hb⟩
  have hl := numB_len n
  rw [hl] at hown
  obtain ⟨A, cap, rfl, -, -, -⟩ := hown.form
  go_wp2
  go_ret
  exact ⟨_, _, rfl, row_weaken hown HB.out.size, HB.out.trans (hb.mono HB.out.size)⟩
end Go.Proofs.YtpklcmocjimcpaaDoor
