/-
  What New, at, like, Set and Sized of marks return. Conditions: the rows read as bytes, of no more than nine million.
-/
import Derived.Test.YtapbjaeimnafcaaKa
import Derived.Test.YtapbjaeimnafcaaKb
import Derived.Laws.CopyOwn
namespace Go.Proofs.Ytapbjaeimnafcaa
open Go.RowKit
set_option linter.unusedSimpArgs false
set_option maxRecDepth 100000
set_option linter.unusedVariables false
theorem Own.of_blk {w : World} {base g n : Nat} {bs : List Nat} (h : Blk w g 5 (u8s bs).toArray) (hl : bs.length = n) (hb : base ≤ g) (hn : n ≤ 9000000) : Own w base (.slice (some ⟨g, 0, none⟩) n n) n bs :=
  ⟨by rw [u8s_length]; omega, .inr ⟨g, n, _, rfl, hb, h, Nat.le_refl _, by simp [maxLen]; omega, by simp [u8s_length, hl], by rw [List.take_of_length_le (by simp [u8s_length, hl])]⟩⟩
theorem Blk.bytes {w : World} {g n : Nat} {bs : List Nat} (h : Blk w g 5 (u8s bs).toArray) (hl : bs.length = n) (hb : ∀ b ∈ bs, b < 256) : Bytes w w.heap.size (some ⟨g, 0, none⟩) n bs :=
  ⟨⟨by rw [u8s_length]; omega, fun _ => ⟨_, rfl, h.lt, fun j u hu => by
    rw [add_zero_off, h.cell]
    simpa using hu⟩⟩, hb⟩
theorem Blk.cell8 {w : World} {g k b : Nat} {bs : List Nat} (h : Blk w g 5 (u8s bs).toArray) (hk : bs[k]? = some b) : w.cell? ⟨g, k, none⟩ = some (.int .u8 (b : Int)) := by
  rw [h.cell]
  simp [u8s, u8, hk]
theorem Blk.set8 {w : World} {g : Nat} {bs : List Nat} (h : Blk w g 5 (u8s bs).toArray) (k b : Nat) : Blk (w.setCell ⟨g, k, none⟩ (.int .u8 (b : Int))) g 5 (u8s (bs.set k b)).toArray := by
  have := h.set_ k (.int .u8 (b : Int))
  rw [List.setIfInBounds_toArray] at this
  rwa [u8s, List.map_set]
theorem noughts (k : Nat) : u8s (List.replicate k 0) = List.replicate k (Value.int .u8 0) := by simp [u8s, u8]
theorem make_marks (q : Nat) (hq : q ≤ 9000000) (w : World) : (Instr.makeSlice 33 (.int .i64 q) (.int .i64 q)).run Try.prog w = .ok (.slice (some ⟨w.heap.size, 0, none⟩) q q) (w.alloc (.cells (u8s (List.replicate q 0)).toArray 5)) := by
  obtain ⟨i0, hi0, hz0, hz1, hz2⟩ := info_parts byte_info
  have := run_make (P := Try.prog) w 33 5 i0 (.int .u8 0) Try.underlying33 hi0 hz0 .i64 .i64 q q (by omega) (by omega) (by rw [hz2]; omega) (by omega)
  rw [hz1] at this
  simp only [Int.toNat_natCast, Nat.mul_one] at this
  rw [this, noughts]
  have e : (Value.int .u8 0).cells = (List.replicate 1 (Value.int .u8 0)).toArray := rfl
  rw [e, made_same 1 q _ (by omega)]
theorem make_b (q : Nat) (hq : q ≤ 9000000) (w : World) : (Instr.makeSlice 22 (.int .i64 q) (.int .i64 q)).run Try.prog w = .ok (.slice (some ⟨w.heap.size, 0, none⟩) q q) (w.alloc (.cells (u8s (List.replicate q 0)).toArray 5)) := by
  obtain ⟨i0, hi0, hz0, hz1, hz2⟩ := info_parts byte_info
  have := run_make (P := Try.prog) w 22 5 i0 (.int .u8 0) Try.underlying22 hi0 hz0 .i64 .i64 q q (by omega) (by omega) (by rw [hz2]; omega) (by omega)
  rw [hz1] at this
  simp only [Int.toNat_natCast, Nat.mul_one] at this
  rw [this, noughts]
  have e : (Value.int .u8 0).cells = (List.replicate 1 (Value.int .u8 0)).toArray := rfl
  rw [e, made_same 1 q _ (by omega)]
theorem new_ok (k : Nat) (hk : k ≤ 256) (w : World) : Calls Try.prog 22 #[.int .i64 k] w fun e w' => e = .returned (.tuple #[.slice (some ⟨w.heap.size, 0, none⟩) k k, .nilIface]) ∧ w' = w.alloc (.cells (u8s (List.replicate k 0)).toArray 5) := by
  have hmk := make_marks k (by omega)
  have hd : decide ((256 : Int) < (k : Int)) = false := decide_eq_false (by omega)
  have hd0 : decide ((k : Int) < 0) = false := decide_eq_false (by omega)
  go_enter Try.func22, Try.ntmps22
  go_wp2
  go_ret2
  exact ⟨rfl, rfl⟩
theorem new_bad (n : Int) (hn : n < 0 ∨ 256 < n) (w : World) : Calls Try.prog 22 #[.int .i64 n] w fun e w' => e = .returned (.tuple #[.slice none 0 0, errV 1]) ∧ w = w' := by
  by_cases h0 : n < 0
  · have hd0 : decide (n < (0 : Int)) = true := decide_eq_true h0
    go_enter Try.func22, Try.ntmps22
    go_wp2
    go_ret2
    exact ⟨rfl, rfl⟩
  · have hd0 : decide (n < (0 : Int)) = false := decide_eq_false h0
    have hd1 : decide ((256 : Int) < n) = true := decide_eq_true (by omega)
    go_enter Try.func22, Try.ntmps22
    go_wp2
    go_ret2
    exact ⟨rfl, rfl⟩
theorem at_any (A : Option Addr) (n c B i : Nat) (bs : List Nat) (w : World) (h : Bytes w B A n bs) (hi : i ≤ 9000000) : Calls Try.prog 39 #[.slice A n c, .int .i64 i] w fun e w' => e = .returned (.int .u8 (mk bs i : Nat)) ∧ w = w' := by
  by_cases hlt : i < n
  · have hd : decide ((n : Int) ≤ (i : Int)) = false := decide_eq_false (by omega)
    obtain ⟨ad, b, rfl, hb, hb2, hc⟩ := h.at_ hlt
    have e1 : ((mk bs i : Nat) : Int) = (b : Int) := by rw [mk_at hb]
    have HE := Lib.hid e1
    clear e1 hb h
    go_enter Try.func39, Try.ntmps39
    go_wp2
    go_ret
    exact ⟨by rw [HE.out]; rfl, rfl⟩
  · have hd : decide ((n : Int) ≤ (i : Int)) = true := decide_eq_true (by omega)
    have e1 : mk bs i = 0 := mk_over (by rw [h.len]; omega)
    rw [e1]
    clear h
    go_enter Try.func39, Try.ntmps39
    go_wp2
    go_ret
    exact ⟨rfl, rfl⟩
theorem u8_size : (Try.prog.info? 5).map (·.size) = some 1 := by kernel_rfl
theorem splice_all {α : Type} (cs Z : List α) (h : cs.length = Z.length) : splice Z 0 cs = cs := by
  simp [splice, h]
theorem like_any (A : Option Addr) (n c : Nat) (bs : List Nat) (w : World) (hn : n ≤ 9000000) (hb : Bytes w w.heap.size A n bs) :
    Calls Try.prog 38 #[.slice A n c] w fun e w' => e = .returned (.slice (some ⟨w.heap.size, 0, none⟩) n n) ∧ Blk w' w.heap.size 5 (u8s bs).toArray ∧ Below w.heap.size w w' := by
  have hmk := make_marks n hn
  have hl := hb.len
  have HB := Lib.hid hb
  have K0 := Blk.new w 5 (u8s (List.replicate n 0)).toArray
  have B0 := below_alloc w (.cells (u8s (List.replicate n 0)).toArray 5)
  have HK := Lib.hid (And.intro K0 B0)
  clear hb K0 B0
  go_enter Try.func38, Try.ntmps38
  go_wp2_with (refine wpList_copy_splice rfl (.tmp 7) (.tmp 8) _ _ rfl 5 Try.underlying33 u8_size (some ⟨w.heap.size, 0, none⟩) A n n n c rfl rfl w.heap.size 0 (u8s (List.replicate n 0)) 5 HK.out.1 (u8s bs) (by rw [u8s_length, hl]; exact (Nat.min_self n).symm) (fun h0 => ⟨rfl, by
                 obtain ⟨ad, e, _, hc⟩ := (HB.out.below HK.out.2).1.2 (by rw [u8s_length] at h0; omega)
                 exact ⟨ad, e, hc⟩⟩) (by rw [u8s_length, u8s_length, List.length_replicate]; omega) (oneCell_u8s _) w.heap.size w HK.out.2 (Nat.le_refl _) ?_
               intro w1 h1 b1)
  go_ret
  exact ⟨rfl, by have := h1.out; rwa [splice_all _ _ (by rw [u8s_length, u8s_length, List.length_replicate]; omega)] at this, b1⟩
/-- bytes of the call's own that fill their block -/
theorem set_ok (A : Option Addr) (n c i x : Nat) (bs : List Nat) (w : World) (hn : n ≤ 9000000) (hb : Bytes w w.heap.size A n bs) (hi : i < n) (hx : x ≤ 3) :
    Calls Try.prog 20 #[.slice A n c, .int .i64 i, .int .u8 x] w fun e w' => e = .returned (.tuple #[.slice (some ⟨w.heap.size, 0, none⟩) n n, .nilIface]) ∧ Blk w' w.heap.size 5 (u8s (bs.set i x)).toArray ∧ Below w.heap.size w w' := by
  have hd0 : decide ((i : Int) < 0) = false := decide_eq_false (by omega)
  have hd1 : decide ((n : Int) ≤ (i : Int)) = false := decide_eq_false (by omega)
  have hd2 : decide ((3 : Int) < (x : Int)) = false := decide_eq_false (by omega)
  have hl := hb.len
  have HB := Lib.hid hb
  clear hb
  go_enter Try.func20, Try.ntmps20
  go_wp2_with fail
  refine (like_any A n c bs w hn HB.out).mono ?_
  rintro e w1 ⟨rfl, k1, b1⟩
  have hc : w1.cell? ⟨w.heap.size, i, none⟩ = some (.int .u8 ((bs[i]'(by omega) : Nat) : Int)) := k1.cell8 (List.getElem?_eq_getElem (by omega))
  have hf := k1.frozen i
  have HK := Lib.hid (And.intro (k1.set8 i x) (b1.setCell (p := ⟨w.heap.size, i, none⟩) (Nat.le_refl _) (.int .u8 (x : Int))))
  clear k1 b1
  generalize (bs[i]'(by omega) : Nat) = ob at *
  go_wp2
  go_ret2
  exact ⟨rfl, HK.out.1, HK.out.2⟩
theorem set_bad (A : Option Addr) (n c : Nat) (i : Int) (x : Nat) (w : World) (h : i < 0 ∨ (n : Int) ≤ i ∨ 3 < x) :
    Calls Try.prog 20 #[.slice A n c, .int .i64 i, .int .u8 x] w fun e w' => e = .returned (.tuple #[.slice none 0 0, errV 1]) ∧ w = w' := by
  by_cases h0 : i < 0
  · have hd0 : decide (i < (0 : Int)) = true := decide_eq_true h0
    go_enter Try.func20, Try.ntmps20
    go_wp2
    go_ret2
    exact ⟨rfl, rfl⟩
  · have hd0 : decide (i < (0 : Int)) = false := decide_eq_false h0
    by_cases h1 : (n : Int) ≤ i
    · have hd1 : decide ((n : Int) ≤ i) = true := decide_eq_true h1
      go_enter Try.func20, Try.ntmps20
      go_wp2
      go_ret2
      exact ⟨rfl, rfl⟩
    · have hd1 : decide ((n : Int) ≤ i) = false := decide_eq_false h1
      have hd2 : decide ((3 : Int) < (x : Int)) = true := decide_eq_true (by omega)
      go_enter Try.func20, Try.ntmps20
      go_wp2
      go_ret2
      exact ⟨rfl, rfl⟩
theorem sized_at (bs : List Nat) (k j : Nat) (h : j < k) : (sizedM bs k)[j]? = some (mk bs j) := by simp [sizedM, h]
theorem splice_sized (bs : List Nat) (k : Nat) : splice (u8s (List.replicate k 0)) 0 (u8s (bs.take k)) = u8s (sizedM bs k) := by
  apply List.ext_getElem?
  intro j
  unfold splice
  simp only [List.take_zero, List.nil_append, Nat.zero_add, u8s_length]
  by_cases hj : j < (bs.take k).length
  · rw [List.getElem?_append_left (by rw [u8s_length]; exact hj)]
    have h1 : j < k := by rw [List.length_take] at hj; omega
    have h2 : j < bs.length := by rw [List.length_take] at hj; omega
    rw [u8s, u8s, List.getElem?_map, List.getElem?_map, sized_at bs k j h1, List.getElem?_take, if_pos h1, List.getElem?_eq_getElem h2, mk_at (List.getElem?_eq_getElem h2)]
  · rw [List.getElem?_append_right (by rw [u8s_length]; omega), u8s_length, List.getElem?_drop, noughts, List.getElem?_replicate]
    rw [List.length_take] at hj ⊢
    by_cases h1 : j < k
    · rw [if_pos (by omega), u8s, List.getElem?_map, sized_at bs k j h1, mk_over (by omega)]
      rfl
    · rw [if_neg (by omega), List.getElem?_eq_none (by rw [u8s_length, sizedM_len]; omega)]
theorem sized_ok (A : Option Addr) (n c k : Nat) (bs : List Nat) (w : World) (hk : k ≤ 256) (hb : Bytes w w.heap.size A n bs) :
    Calls Try.prog 21 #[.slice A n c, .int .i64 k] w fun e w' => e = .returned (.tuple #[.slice (some ⟨w.heap.size, 0, none⟩) k k, .nilIface]) ∧ Blk w' w.heap.size 5 (u8s (sizedM bs k)).toArray ∧ Below w.heap.size w w' := by
  have hl := hb.len
  have HB := Lib.hid hb
  have K0 := Blk.new w 5 (u8s (List.replicate k 0)).toArray
  have B0 := below_alloc w (.cells (u8s (List.replicate k 0)).toArray 5)
  have HK := Lib.hid (And.intro K0 B0)
  clear hb K0 B0
  go_enter Try.func21, Try.ntmps21
  go_wp2_with fail
  refine (new_ok k hk w).mono ?_
  rintro e w' ⟨rfl, rfl⟩
  go_wp2_with (refine wpList_copy_splice rfl (.tmp 13) (.tmp 14) _ _ rfl 5 Try.underlying33 u8_size (some ⟨w.heap.size, 0, none⟩) A k k n c rfl rfl w.heap.size 0 (u8s (List.replicate k 0)) 5 HK.out.1 (u8s (bs.take k)) (by rw [u8s_length, List.length_take, hl]; exact Nat.min_comm _ _) (fun h0 => ⟨rfl, by
                 rw [u8s_length, List.length_take] at h0
                 obtain ⟨ad, e, _, hc⟩ := (HB.out.below HK.out.2).1.2 (by omega)
                 exact ⟨ad, e, fun j v hj => hc j v (by
                   rw [u8s, List.getElem?_map, List.getElem?_take] at hj
                   split at hj
                   · rw [u8s, List.getElem?_map]; exact hj
                   · cases hj)⟩⟩) (by rw [u8s_length, u8s_length, List.length_replicate, List.length_take]; omega) (oneCell_u8s _) w.heap.size w HK.out.2 (Nat.le_refl _) ?_
               intro w1 h1 b1)
  go_ret2
  exact ⟨rfl, by have := h1.out; rwa [splice_sized] at this, b1⟩
theorem sized_bad (A : Option Addr) (n c : Nat) (k : Int) (w : World) (hk : k < 0 ∨ 256 < k) :
    Calls Try.prog 21 #[.slice A n c, .int .i64 k] w fun e w' => e = .returned (.tuple #[.slice none 0 0, errV 1]) ∧ w = w' := by
  go_enter Try.func21, Try.ntmps21
  go_wp2_with fail
  refine (new_bad k hk w).mono ?_
  rintro e w' ⟨rfl, rfl⟩
  go_wp2_with (refine wpList_copy_nothing rfl (.tmp 13) (.tmp 14) _ _ rfl 5 Try.underlying33 u8_size none A 0 0 n c rfl rfl (Nat.min_zero n) ?_)
  go_ret2
  exact ⟨rfl, rfl⟩
end Go.Proofs.Ytapbjaeimnafcaa
