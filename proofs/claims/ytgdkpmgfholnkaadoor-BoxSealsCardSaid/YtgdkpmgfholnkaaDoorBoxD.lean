/-
  The document's own sector of a box. Conditions: its data read as bytes.
-/
import Derived.Test.YtgdkpmgfholnkaaDoorBoxU
import Derived.Test.YtgdkpmgfholnkaaDoorRef
import Derived.Laws.MakeOwn
namespace Go.Proofs.YtgdkpmgfholnkaaDoor
open Go.RowKit
set_option linter.unusedSimpArgs false
set_option linter.unusedVariables false
theorem Own.made (w : World) (base : Nat) (bs : List Nat) (hb : base ≤ w.heap.size) (hl : bs.length ≤ 1000000) : Own (w.alloc (.cells (u8s bs).toArray 5)) base (.slice (some ⟨w.heap.size, 0, none⟩) bs.length bs.length) bs.length bs :=
  ⟨by rw [u8s_length]; omega, .inr ⟨w.heap.size, bs.length, (u8s bs).toArray, rfl, hb, heap_alloc_new w _, Nat.le_refl _, by simp [maxLen]; omega, by simp [u8s], by rw [List.take_of_length_le (by simp [u8s])]⟩⟩
/-- a sector that is filled up to j -/
def filled (l : List Nat) (j : Nat) : List Nat := l.take j ++ List.replicate (128 - j) 0
theorem filled_set (l : List Nat) (j b : Nat) (hl : l.length = 128) (hj : l[j]? = some b) : (filled l j).set j b = filled l (j + 1) := by
  have h : j < 128 := by rw [← hl]; exact (List.getElem?_eq_some_iff.1 hj).1
  unfold filled
  obtain ⟨r, hr⟩ : ∃ r, 128 - j = r + 1 := ⟨127 - j, by omega⟩
  rw [hr, show 128 - (j + 1) = r by omega, List.replicate_succ, List.set_append_right _ _ (by rw [List.length_take]; omega), List.length_take, show j - min j l.length = 0 by omega, List.take_add_one, hj]
  simp
theorem filled_at (l : List Nat) (j : Nat) (hl : l.length = 128) (hj : j < 128) : (filled l j)[j]? = some 0 := by
  unfold filled
  rw [List.getElem?_append_right (by rw [List.length_take]; omega), List.length_take, show j - min j l.length = 0 by omega, List.getElem?_replicate, if_pos (by omega)]
theorem seal_low (k g n : Int) (d : List Nat) (j : Nat) (hj : j < 4) : (sealL k g n d)[j]? = some (Crc.sum (bodyOf k g n d) / 256 ^ j % 256) := by
  unfold sealL
  rw [List.getElem?_append_left (by rw [le_len]; exact hj), le_at 4 _ j hj]
theorem seal_high (k g n : Int) (d : List Nat) (j : Nat) (hj : 4 ≤ j) : (sealL k g n d)[j]? = (bodyOf k g n d)[j - 4]? := by
  unfold sealL
  rw [List.getElem?_append_right (by rw [le_len]; exact hj), le_len]
theorem dseal_start (w : World) (cs : Array Value) (Zs : List Value) :
    Blk (((w.alloc (.cells cs 31)).alloc (.cells Zs.toArray 33)).alloc (.cells Zs.toArray 33)) w.heap.size 31 cs ∧
    Blk (((w.alloc (.cells cs 31)).alloc (.cells Zs.toArray 33)).alloc (.cells Zs.toArray 33)) (w.heap.size + 1) 33 Zs.toArray ∧
    Blk (((w.alloc (.cells cs 31)).alloc (.cells Zs.toArray 33)).alloc (.cells Zs.toArray 33)) (w.heap.size + 1 + 1) 33 Zs.toArray ∧
    Below w.heap.size w (((w.alloc (.cells cs 31)).alloc (.cells Zs.toArray 33)).alloc (.cells Zs.toArray 33)) := by
  have K1 := (Blk.new (w.alloc (.cells cs 31)) 33 Zs.toArray).alloc (.cells Zs.toArray 33)
  have K2 := Blk.new ((w.alloc (.cells cs 31)).alloc (.cells Zs.toArray 33)) 33 Zs.toArray
  simp only [World.size_alloc] at K1 K2
  exact ⟨((Blk.new w _ _).alloc _).alloc _, K1, K2, ((below_alloc w _).alloc (by simp) _).alloc (by simp; omega) _⟩
set_option maxRecDepth 100000 in
set_option maxHeartbeats 1000000 in
theorem dseal_bad0 (k g n : Int) (A : Option Addr) (m c : Nat) (w : World)  (hb : k < 1) :
    Calls Tryd.prog 17 #[.agg (boxCs k g n (.slice A m c)).toArray] w fun e w' => e = .returned (.tuple #[Sec.zero.v, .int .i64 1]) ∧ Below w.heap.size w w' := by
  obtain ⟨Zs, hZ, hZs⟩ : ∃ Zs : List Value, (∀ w, (zeroValue 33).run Tryd.prog w = .ok (.agg Zs.toArray) w) ∧ Zs = Sec.zero.cs := ⟨Sec.zero.cs, sec_zero, rfl⟩
  have hzl : Zs.length = 128 := by rw [hZs, Sec.cs_len]
  obtain ⟨-, K1, K2, b0⟩ := dseal_start w #[.int .i64 k, .int .i64 g, .int .i64 n, .slice A m c] Zs
  obtain ⟨hth, ha, hB⟩ := ans_stored Sec.zero K1 hzl b0 (by omega)
  have hone := Sec.zero.one
  have hia := Sec.zero.infoA
  have hi := Sec.zero.info
  rw [← hZs] at hth ha hB hone hia hi
  have hr : World.rangeAt _ (w.heap.size + 1 + 1) 0 Zs := K2.range
  have hu := Tryd.underlying33
  have HA := Lib.hid (And.intro ha hB)
  have HZs := Lib.hid hZs
  have hd0 : decide (k < 1) = true := decide_eq_true hb
  clear  hb
  clear hZs hzl K1 K2 b0 ha hB
  simp only [boxCs]
  go_enter Tryd.func17, Tryd.ntmps17
  go_wp2_with (first
    | (refine wpList_load_mid rfl 33 (.tmp 4) rfl (w.heap.size + 1 + 1) 0 rfl Zs _ hr hu rfl hi ?_)
    | (refine wpList_store_mid rfl 33 (.tmp 2) (.tmp 36) rfl (w.heap.size + 1) 0 Zs.toArray rfl rfl hth hia (all_oneCell_toArray hone) ?_))
  refine bodyPost_ret (sec_results2 rfl _ _ (w.heap.size + 1) Sec.zero (.int .i64 1) rfl rfl (by rw [← HZs.out]; exact HA.out.1)) rfl ?_
  exact ⟨rfl, HA.out.2⟩
set_option maxRecDepth 100000 in
set_option maxHeartbeats 1000000 in
theorem dseal_bad1 (k g n : Int) (A : Option Addr) (m c : Nat) (w : World) (h0 : 1 ≤ k) (hb : 255 < k) :
    Calls Tryd.prog 17 #[.agg (boxCs k g n (.slice A m c)).toArray] w fun e w' => e = .returned (.tuple #[Sec.zero.v, .int .i64 1]) ∧ Below w.heap.size w w' := by
  obtain ⟨Zs, hZ, hZs⟩ : ∃ Zs : List Value, (∀ w, (zeroValue 33).run Tryd.prog w = .ok (.agg Zs.toArray) w) ∧ Zs = Sec.zero.cs := ⟨Sec.zero.cs, sec_zero, rfl⟩
  have hzl : Zs.length = 128 := by rw [hZs, Sec.cs_len]
  obtain ⟨-, K1, K2, b0⟩ := dseal_start w #[.int .i64 k, .int .i64 g, .int .i64 n, .slice A m c] Zs
  obtain ⟨hth, ha, hB⟩ := ans_stored Sec.zero K1 hzl b0 (by omega)
  have hone := Sec.zero.one
  have hia := Sec.zero.infoA
  have hi := Sec.zero.info
  rw [← hZs] at hth ha hB hone hia hi
  have hr : World.rangeAt _ (w.heap.size + 1 + 1) 0 Zs := K2.range
  have hu := Tryd.underlying33
  have HA := Lib.hid (And.intro ha hB)
  have HZs := Lib.hid hZs
  have hd0 : decide (k < 1) = false := decide_eq_false (by omega)
  have hd1 : decide (255 < k) = true := decide_eq_true hb
  clear h0 hb
  clear hZs hzl K1 K2 b0 ha hB
  simp only [boxCs]
  go_enter Tryd.func17, Tryd.ntmps17
  go_wp2_with (first
    | (refine wpList_load_mid rfl 33 (.tmp 4) rfl (w.heap.size + 1 + 1) 0 rfl Zs _ hr hu rfl hi ?_)
    | (refine wpList_store_mid rfl 33 (.tmp 2) (.tmp 36) rfl (w.heap.size + 1) 0 Zs.toArray rfl rfl hth hia (all_oneCell_toArray hone) ?_))
  refine bodyPost_ret (sec_results2 rfl _ _ (w.heap.size + 1) Sec.zero (.int .i64 1) rfl rfl (by rw [← HZs.out]; exact HA.out.1)) rfl ?_
  exact ⟨rfl, HA.out.2⟩
set_option maxRecDepth 100000 in
set_option maxHeartbeats 1000000 in
theorem dseal_bad2 (k g n : Int) (A : Option Addr) (m c : Nat) (w : World) (h0 : 1 ≤ k) (h1 : k ≤ 255) (hb : g < 0) :
    Calls Tryd.prog 17 #[.agg (boxCs k g n (.slice A m c)).toArray] w fun e w' => e = .returned (.tuple #[Sec.zero.v, .int .i64 1]) ∧ Below w.heap.size w w' := by
  obtain ⟨Zs, hZ, hZs⟩ : ∃ Zs : List Value, (∀ w, (zeroValue 33).run Tryd.prog w = .ok (.agg Zs.toArray) w) ∧ Zs = Sec.zero.cs := ⟨Sec.zero.cs, sec_zero, rfl⟩
  have hzl : Zs.length = 128 := by rw [hZs, Sec.cs_len]
  obtain ⟨-, K1, K2, b0⟩ := dseal_start w #[.int .i64 k, .int .i64 g, .int .i64 n, .slice A m c] Zs
  obtain ⟨hth, ha, hB⟩ := ans_stored Sec.zero K1 hzl b0 (by omega)
  have hone := Sec.zero.one
  have hia := Sec.zero.infoA
  have hi := Sec.zero.info
  rw [← hZs] at hth ha hB hone hia hi
  have hr : World.rangeAt _ (w.heap.size + 1 + 1) 0 Zs := K2.range
  have hu := Tryd.underlying33
  have HA := Lib.hid (And.intro ha hB)
  have HZs := Lib.hid hZs
  have hd0 : decide (k < 1) = false := decide_eq_false (by omega)
  have hd1 : decide (255 < k) = false := decide_eq_false (by omega)
  have hd2 : decide (g < 0) = true := decide_eq_true hb
  clear h0 h1 hb
  clear hZs hzl K1 K2 b0 ha hB
  simp only [boxCs]
  go_enter Tryd.func17, Tryd.ntmps17
  go_wp2_with (first
    | (refine wpList_load_mid rfl 33 (.tmp 4) rfl (w.heap.size + 1 + 1) 0 rfl Zs _ hr hu rfl hi ?_)
    | (refine wpList_store_mid rfl 33 (.tmp 2) (.tmp 36) rfl (w.heap.size + 1) 0 Zs.toArray rfl rfl hth hia (all_oneCell_toArray hone) ?_))
  refine bodyPost_ret (sec_results2 rfl _ _ (w.heap.size + 1) Sec.zero (.int .i64 1) rfl rfl (by rw [← HZs.out]; exact HA.out.1)) rfl ?_
  exact ⟨rfl, HA.out.2⟩
set_option maxRecDepth 100000 in
set_option maxHeartbeats 1000000 in
theorem dseal_bad3 (k g n : Int) (A : Option Addr) (m c : Nat) (w : World) (h0 : 1 ≤ k) (h1 : k ≤ 255) (h2 : 0 ≤ g) (hb : 4611686018427387904 < g) :
    Calls Tryd.prog 17 #[.agg (boxCs k g n (.slice A m c)).toArray] w fun e w' => e = .returned (.tuple #[Sec.zero.v, .int .i64 1]) ∧ Below w.heap.size w w' := by
  obtain ⟨Zs, hZ, hZs⟩ : ∃ Zs : List Value, (∀ w, (zeroValue 33).run Tryd.prog w = .ok (.agg Zs.toArray) w) ∧ Zs = Sec.zero.cs := ⟨Sec.zero.cs, sec_zero, rfl⟩
  have hzl : Zs.length = 128 := by rw [hZs, Sec.cs_len]
  obtain ⟨-, K1, K2, b0⟩ := dseal_start w #[.int .i64 k, .int .i64 g, .int .i64 n, .slice A m c] Zs
  obtain ⟨hth, ha, hB⟩ := ans_stored Sec.zero K1 hzl b0 (by omega)
  have hone := Sec.zero.one
  have hia := Sec.zero.infoA
  have hi := Sec.zero.info
  rw [← hZs] at hth ha hB hone hia hi
  have hr : World.rangeAt _ (w.heap.size + 1 + 1) 0 Zs := K2.range
  have hu := Tryd.underlying33
  have HA := Lib.hid (And.intro ha hB)
  have HZs := Lib.hid hZs
  have hd0 : decide (k < 1) = false := decide_eq_false (by omega)
  have hd1 : decide (255 < k) = false := decide_eq_false (by omega)
  have hd2 : decide (g < 0) = false := decide_eq_false (by omega)
  have hd3 : decide (4611686018427387904 < g) = true := decide_eq_true hb
  clear h0 h1 h2 hb
  clear hZs hzl K1 K2 b0 ha hB
  simp only [boxCs]
  go_enter Tryd.func17, Tryd.ntmps17
  go_wp2_with (first
    | (refine wpList_load_mid rfl 33 (.tmp 4) rfl (w.heap.size + 1 + 1) 0 rfl Zs _ hr hu rfl hi ?_)
    | (refine wpList_store_mid rfl 33 (.tmp 2) (.tmp 36) rfl (w.heap.size + 1) 0 Zs.toArray rfl rfl hth hia (all_oneCell_toArray hone) ?_))
  refine bodyPost_ret (sec_results2 rfl _ _ (w.heap.size + 1) Sec.zero (.int .i64 1) rfl rfl (by rw [← HZs.out]; exact HA.out.1)) rfl ?_
  exact ⟨rfl, HA.out.2⟩
set_option maxRecDepth 100000 in
set_option maxHeartbeats 1000000 in
theorem dseal_bad4 (k g n : Int) (A : Option Addr) (m c : Nat) (w : World) (h0 : 1 ≤ k) (h1 : k ≤ 255) (h2 : 0 ≤ g) (h3 : g ≤ 4611686018427387904) (hb : n < 0) :
    Calls Tryd.prog 17 #[.agg (boxCs k g n (.slice A m c)).toArray] w fun e w' => e = .returned (.tuple #[Sec.zero.v, .int .i64 1]) ∧ Below w.heap.size w w' := by
  obtain ⟨Zs, hZ, hZs⟩ : ∃ Zs : List Value, (∀ w, (zeroValue 33).run Tryd.prog w = .ok (.agg Zs.toArray) w) ∧ Zs = Sec.zero.cs := ⟨Sec.zero.cs, sec_zero, rfl⟩
  have hzl : Zs.length = 128 := by rw [hZs, Sec.cs_len]
  obtain ⟨-, K1, K2, b0⟩ := dseal_start w #[.int .i64 k, .int .i64 g, .int .i64 n, .slice A m c] Zs
  obtain ⟨hth, ha, hB⟩ := ans_stored Sec.zero K1 hzl b0 (by omega)
  have hone := Sec.zero.one
  have hia := Sec.zero.infoA
  have hi := Sec.zero.info
  rw [← hZs] at hth ha hB hone hia hi
  have hr : World.rangeAt _ (w.heap.size + 1 + 1) 0 Zs := K2.range
  have hu := Tryd.underlying33
  have HA := Lib.hid (And.intro ha hB)
  have HZs := Lib.hid hZs
  have hd0 : decide (k < 1) = false := decide_eq_false (by omega)
  have hd1 : decide (255 < k) = false := decide_eq_false (by omega)
  have hd2 : decide (g < 0) = false := decide_eq_false (by omega)
  have hd3 : decide (4611686018427387904 < g) = false := decide_eq_false (by omega)
  have hd4 : decide (n < 0) = true := decide_eq_true hb
  clear h0 h1 h2 h3 hb
  clear hZs hzl K1 K2 b0 ha hB
  simp only [boxCs]
  go_enter Tryd.func17, Tryd.ntmps17
  go_wp2_with (first
    | (refine wpList_load_mid rfl 33 (.tmp 4) rfl (w.heap.size + 1 + 1) 0 rfl Zs _ hr hu rfl hi ?_)
    | (refine wpList_store_mid rfl 33 (.tmp 2) (.tmp 36) rfl (w.heap.size + 1) 0 Zs.toArray rfl rfl hth hia (all_oneCell_toArray hone) ?_))
  refine bodyPost_ret (sec_results2 rfl _ _ (w.heap.size + 1) Sec.zero (.int .i64 1) rfl rfl (by rw [← HZs.out]; exact HA.out.1)) rfl ?_
  exact ⟨rfl, HA.out.2⟩
set_option maxRecDepth 100000 in
set_option maxHeartbeats 1000000 in
theorem dseal_bad5 (k g n : Int) (A : Option Addr) (m c : Nat) (w : World) (h0 : 1 ≤ k) (h1 : k ≤ 255) (h2 : 0 ≤ g) (h3 : g ≤ 4611686018427387904) (h4 : 0 ≤ n) (hb : 2147483647 < n) :
    Calls Tryd.prog 17 #[.agg (boxCs k g n (.slice A m c)).toArray] w fun e w' => e = .returned (.tuple #[Sec.zero.v, .int .i64 1]) ∧ Below w.heap.size w w' := by
  obtain ⟨Zs, hZ, hZs⟩ : ∃ Zs : List Value, (∀ w, (zeroValue 33).run Tryd.prog w = .ok (.agg Zs.toArray) w) ∧ Zs = Sec.zero.cs := ⟨Sec.zero.cs, sec_zero, rfl⟩
  have hzl : Zs.length = 128 := by rw [hZs, Sec.cs_len]
  obtain ⟨-, K1, K2, b0⟩ := dseal_start w #[.int .i64 k, .int .i64 g, .int .i64 n, .slice A m c] Zs
  obtain ⟨hth, ha, hB⟩ := ans_stored Sec.zero K1 hzl b0 (by omega)
  have hone := Sec.zero.one
  have hia := Sec.zero.infoA
  have hi := Sec.zero.info
  rw [← hZs] at hth ha hB hone hia hi
  have hr : World.rangeAt _ (w.heap.size + 1 + 1) 0 Zs := K2.range
  have hu := Tryd.underlying33
  have HA := Lib.hid (And.intro ha hB)
  have HZs := Lib.hid hZs
  have hd0 : decide (k < 1) = false := decide_eq_false (by omega)
  have hd1 : decide (255 < k) = false := decide_eq_false (by omega)
  have hd2 : decide (g < 0) = false := decide_eq_false (by omega)
  have hd3 : decide (4611686018427387904 < g) = false := decide_eq_false (by omega)
  have hd4 : decide (n < 0) = false := decide_eq_false (by omega)
  have hd5 : decide (2147483647 < n) = true := decide_eq_true hb
  clear h0 h1 h2 h3 h4 hb
  clear hZs hzl K1 K2 b0 ha hB
  simp only [boxCs]
  go_enter Tryd.func17, Tryd.ntmps17
  go_wp2_with (first
    | (refine wpList_load_mid rfl 33 (.tmp 4) rfl (w.heap.size + 1 + 1) 0 rfl Zs _ hr hu rfl hi ?_)
    | (refine wpList_store_mid rfl 33 (.tmp 2) (.tmp 36) rfl (w.heap.size + 1) 0 Zs.toArray rfl rfl hth hia (all_oneCell_toArray hone) ?_))
  refine bodyPost_ret (sec_results2 rfl _ _ (w.heap.size + 1) Sec.zero (.int .i64 1) rfl rfl (by rw [← HZs.out]; exact HA.out.1)) rfl ?_
  exact ⟨rfl, HA.out.2⟩
set_option maxRecDepth 100000 in
set_option maxHeartbeats 1000000 in
theorem dseal_form (k g n : Int) (A : Option Addr) (m c : Nat) (w : World) (h0 : 1 ≤ k) (h1 : k ≤ 255) (h2 : 0 ≤ g) (h3 : g ≤ 4611686018427387904) (h4 : 0 ≤ n) (h5 : n ≤ 2147483647) (hm : 106 < m) :
    Calls Tryd.prog 17 #[.agg (boxCs k g n (.slice A m c)).toArray] w fun e w' => e = .returned (.tuple #[Sec.zero.v, .int .i64 2]) ∧ Below w.heap.size w w' := by
  obtain ⟨Zs, hZ, hZs⟩ : ∃ Zs : List Value, (∀ w, (zeroValue 33).run Tryd.prog w = .ok (.agg Zs.toArray) w) ∧ Zs = Sec.zero.cs := ⟨Sec.zero.cs, sec_zero, rfl⟩
  have hzl : Zs.length = 128 := by rw [hZs, Sec.cs_len]
  obtain ⟨-, K1, K2, b0⟩ := dseal_start w #[.int .i64 k, .int .i64 g, .int .i64 n, .slice A m c] Zs
  obtain ⟨hth, ha, hB⟩ := ans_stored Sec.zero K1 hzl b0 (by omega)
  have hone := Sec.zero.one
  have hia := Sec.zero.infoA
  have hi := Sec.zero.info
  rw [← hZs] at hth ha hB hone hia hi
  have hr : World.rangeAt _ (w.heap.size + 1 + 1) 0 Zs := K2.range
  have hu := Tryd.underlying33
  have HA := Lib.hid (And.intro ha hB)
  have HZs := Lib.hid hZs
  have hd0 : decide (k < 1) = false := decide_eq_false (by omega)
  have hd1 : decide (255 < k) = false := decide_eq_false (by omega)
  have hd2 : decide (g < 0) = false := decide_eq_false (by omega)
  have hd3 : decide (4611686018427387904 < g) = false := decide_eq_false (by omega)
  have hd4 : decide (n < 0) = false := decide_eq_false (by omega)
  have hd5 : decide (2147483647 < n) = false := decide_eq_false (by omega)
  have hm1 : decide (106 < (m : Int)) = true := decide_eq_true (by omega)
  clear h0 h1 h2 h3 h4 h5 hm
  clear hZs hzl K1 K2 b0 ha hB
  simp only [boxCs]
  go_enter Tryd.func17, Tryd.ntmps17
  go_wp2_with (first
    | (refine wpList_load_mid rfl 33 (.tmp 4) rfl (w.heap.size + 1 + 1) 0 rfl Zs _ hr hu rfl hi ?_)
    | (refine wpList_store_mid rfl 33 (.tmp 2) (.tmp 41) rfl (w.heap.size + 1) 0 Zs.toArray rfl rfl hth hia (all_oneCell_toArray hone) ?_))
  refine bodyPost_ret (sec_results2 rfl _ _ (w.heap.size + 1) Sec.zero (.int .i64 2) rfl rfl (by rw [← HZs.out]; exact HA.out.1)) rfl ?_
  exact ⟨rfl, HA.out.2⟩
end Go.Proofs.YtgdkpmgfholnkaaDoor
