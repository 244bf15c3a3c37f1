/-
  A disk that the call made, beside blocks that it doesn't touch. No condition.
-/
import Derived.Test.YtpklcmocjimcpaaDoorZc
import Derived.Test.YtpklcmocjimcpaaDoorRows
import Derived.WalkKit
import Derived.ProofKit
import Derived.Outline
import Derived.Laws.BitsAllLaws
import Derived.Lib.LaidTab
import Derived.WalkLawsBesides
import Derived.WalkSpells
import Derived.Deep.DeepFit
import Derived.Deep.QuietTactic
import Derived.BigQuiet
import Derived.Handy
import Derived.Lib.SlBytesConst
import Derived.OpenShut
import Derived.ShutString
import Derived.ChangeOld
import Derived.Deep.Matrix
import Derived.Deep.Slices
import Derived.Deep.Grids
import Derived.Deep.Fields
import Derived.ChangeSame
import Derived.Deep.DeepHandedRow
import Derived.Deep.LoopGhost
import Derived.Laws.StructEq
import Derived.Laws.ResultCell
import Derived.Laws.CopyOwn

namespace Go.Proofs.YtpklcmocjimcpaaDoor
open Go.RowKit
set_option maxRecDepth 100000
set_option linter.unusedSimpArgs false
set_option linter.unusedVariables false
def Keep (X : List Nat) (w w' : World) : Prop := w.heap.size ≤ w'.heap.size ∧ ∀ k ∈ X, w'.heap[k]? = w.heap[k]?
/-- a disk that the call made since w0, that touches none of the blocks X -/
def Holds (w0 w : World) (g : Nat) (d : DM) (X : List Nat) : Prop := ∃ F, DiskAt w w0.heap.size F g d ∧ Below w0.heap.size w0 w ∧ ∀ k ∈ X, k ∉ F ∧ k < w.heap.size
section
variable {w0 w w' : World} {g : Nat} {d : DM} {X : List Nat}
theorem Holds.size (h : Holds w0 w g d X) : w0.heap.size ≤ w.heap.size := by obtain ⟨F, h1, h2, h3⟩ := h; exact h2.size
theorem Holds.since (h : Holds w0 w g d X) : Below w0.heap.size w0 w := by obtain ⟨F, h1, h2, h3⟩ := h; exact h2
theorem Holds.below (h : Holds w0 w g d X) (hb : Below w.heap.size w w') : Holds w0 w' g d X := by
  obtain ⟨F, h1, h2, h3⟩ := h
  exact ⟨F, h1.of (below_keeps hb h1.under), h2.trans (hb.mono h2.size), fun k hk => ⟨(h3 k hk).1, Nat.lt_of_lt_of_le (h3 k hk).2 hb.size⟩⟩
theorem Holds.alloc (h : Holds w0 w g d X) (o : Obj) : Holds w0 (w.alloc o) g d X := h.below ((Below.refl _ _).alloc (Nat.le_refl _) _)
theorem Holds.drew (h : Holds w0 w g d X) : Holds w0 w.drew g d X := h.below (Below.refl _ _).drew
theorem Holds.mono {Y : List Nat} (h : Holds w0 w g d X) (hs : ∀ k ∈ Y, k ∈ X) : Holds w0 w g d Y := by
  obtain ⟨F, h1, h2, h3⟩ := h
  exact ⟨F, h1, h2, fun k hk => h3 k (hs k hk)⟩
/-- a block that came later is none of the disk's -/
theorem Holds.push (h : Holds w0 w g d X) (o : Obj) : Holds w0 (w.alloc o) g d (w.heap.size :: X) := by
  obtain ⟨F, h1, h2, h3⟩ := h
  refine ⟨F, h1.of (fun k hk => Below.heap_alloc _ _ _ (h1.under k hk)), h2.alloc h2.size _, fun k hk => ?_⟩
  rcases List.mem_cons.1 hk with rfl | hk
  · exact ⟨fun hm => by have := h1.under _ hm; omega, by simp⟩
  · exact ⟨(h3 k hk).1, by have := (h3 k hk).2; simp; omega⟩
/-- a protected block is written -/
theorem Holds.kept (h : Holds w0 w g d X) {j : Nat} (hj : j ∈ X) (ho : Only [j] w w') (hB : w0.heap.size ≤ j) : Holds w0 w' g d X := by
  obtain ⟨F, h1, h2, h3⟩ := h
  refine ⟨F, h1.of (fun k hk => ho.block k (h1.under k hk) (fun hm => by simp at hm; subst hm; exact (h3 k hj).1 hk)), h2.trans (ho.below (fun k hk => by simp at hk; omega) h2.size), fun k hk => ⟨(h3 k hk).1, Nat.lt_of_lt_of_le (h3 k hk).2 ho.size⟩⟩
theorem Holds.made {e : Ending} {n : Nat} (hb : Below w0.heap.size w0 w) (h : MadeDisk w w0.heap.size n e w') : ∃ g, e = .returned (.tuple #[.pointer (some ⟨g, 0, none⟩), .nilIface]) ∧ Holds w0 w' g (DM.new n) [] := by
  obtain ⟨g, F, he, h1, h2, h3⟩ := h
  exact ⟨g, he, F, h1, hb.trans (h2.mono hb.size), fun k hk => by cases hk⟩
theorem Holds.to {F : List Nat} {d' : DM} (h1 : DiskAt w w0.heap.size F g d) (h2 : Below w0.heap.size w0 w) (h3 : ∀ k ∈ X, k ∉ F ∧ k < w.heap.size) (h : DTo w w0.heap.size F g d' w') : Holds w0 w' g d' X ∧ Keep X w w' := by
  obtain ⟨F', h4, h5, h6⟩ := h
  refine ⟨⟨F', h4, h2.trans (h5.below h1.over h2.size), fun k hk => ⟨fun hm => ?_, Nat.lt_of_lt_of_le (h3 k hk).2 h5.size⟩⟩, h5.size, fun k hk => h5.block k (h3 k hk).2 (h3 k hk).1⟩
  rcases h6 k hm with h7 | h7
  · exact (h3 k hk).1 h7
  · have := (h3 k hk).2; omega
theorem Keep.blk {k : Nat} {t : TypeId} {cs : Array Value} (h : Keep X w w') (hk : k ∈ X) (hb : Blk w k t cs) : Blk w' k t cs := hb.of (h.2 k hk)
theorem Keep.below (h : Below w.heap.size w w') (hX : ∀ k ∈ X, k < w.heap.size) : Keep X w w' := ⟨h.size, fun k hk => h.block k (hX k hk)⟩
theorem Keep.trans {w'' : World} (h : Keep X w w') (h' : Keep X w' w'') : Keep X w w'' := ⟨Nat.le_trans h.1 h'.1, fun k hk => (h'.2 k hk).trans (h.2 k hk)⟩
theorem hold_write (h : Holds w0 w g d X) (i : Int) (s : Sec) (hs : d.steps < 4611686018427387904) (hl : d.left ≤ 9223372036854775807) (hw : d.wait.length ≤ 1000000) :
    Calls Tryd.prog 55 #[.pointer (some ⟨g, 0, none⟩), .int .i64 i, s.v] w fun e w' => e = .returned (errV (d.writeErr i)) ∧ Holds w0 w' g (d.write i s) X ∧ Keep X w w' := by
  obtain ⟨F, h1, h2, h3⟩ := h
  exact (write_any w _ g F d i s h1 hs hl hw h2.size).mono fun e w' ⟨he, ht⟩ => ⟨he, Holds.to h1 h2 h3 ht⟩
theorem hold_flush (h : Holds w0 w g d X) (hs : d.steps < 4611686018427387904) (hl : d.left ≤ 9223372036854775807) (hw : d.wait.length ≤ 1000000) :
    Calls Tryd.prog 56 #[.pointer (some ⟨g, 0, none⟩)] w fun e w' => e = .returned (errV d.stepErr) ∧ Holds w0 w' g d.flush X ∧ Keep X w w' := by
  obtain ⟨F, h1, h2, h3⟩ := h
  exact (flush_any w _ g F d h1 hs hl hw).mono fun e w' ⟨he, ht⟩ => ⟨he, Holds.to h1 h2 h3 ht⟩
theorem hold_arm (h : Holds w0 w g d X) (k : Int) (hk : -9223372036854775808 ≤ k) :
    Calls Tryd.prog 11 #[.pointer (some ⟨g, 0, none⟩), .int .i64 k] w fun e w' => e = .returned (errV (armErr k)) ∧ Holds w0 w' g (d.arm k) X ∧ Keep X w w' := by
  obtain ⟨F, ⟨gm, v, rfl, h1⟩, h2, h3⟩ := h
  exact (arm_any w _ g gm v d k hk h1).mono fun e w' ⟨he, ht, ho⟩ => ⟨he, Holds.to ⟨gm, v, rfl, h1⟩ h2 h3 (ht.to ho)⟩
theorem hold_crash (h : Holds w0 w g d X) (hw : d.wait.length ≤ 1000000) (A : Option Addr) (c B : Nat) (keep : List Bool) (hR : ∀ F, DiskAt w w0.heap.size F g d → ∀ W', Only F w W' → Reads W' B 1 A keep.length (flags keep)) :
    Calls Tryd.prog 15 #[.pointer (some ⟨g, 0, none⟩), .slice A keep.length c] w fun e w' => e = .returned (.tuple #[]) ∧ Holds w0 w' g (d.crash keep) X ∧ Keep X w w' := by
  obtain ⟨F, h1, h2, h3⟩ := h
  exact (crash_any w _ g F d A c B keep h1 hw (hR F h1)).mono fun e w' ⟨he, ht⟩ => ⟨he, Holds.to h1 h2 h3 ht⟩
theorem hold_read (h : Holds w0 w g d X) (i : Int) (hw : d.wait.length ≤ 1000000) :
    Calls Tryd.prog 61 #[.pointer (some ⟨g, 0, none⟩), .int .i64 i] w fun e w' => e = .returned (.tuple #[(d.read i).v, errV (d.readErr i)]) ∧ Below w.heap.size w w' := by
  obtain ⟨F, ⟨gm, v, rfl, h1⟩, h2, h3⟩ := h
  exact read_any w _ g gm v d i h1 hw
theorem hold_down (h : Holds w0 w g d X) : Calls Tryd.prog 73 #[.pointer (some ⟨g, 0, none⟩)] w fun e w' => e = .returned (.bool d.gone) ∧ w = w' := by
  obtain ⟨F, ⟨gm, v, rfl, h1⟩, h2, h3⟩ := h
  exact down_any w _ g gm v d h1
theorem hold_len (h : Holds w0 w g d X) : Calls Tryd.prog 27 #[.pointer (some ⟨g, 0, none⟩)] w fun e w' => e = .returned (.int .i64 d.n) ∧ w = w' := by
  obtain ⟨F, ⟨gm, v, rfl, h1⟩, h2, h3⟩ := h
  exact len_any w _ g gm v d h1
theorem hold_waiting (h : Holds w0 w g d X) : Calls Tryd.prog 26 #[.pointer (some ⟨g, 0, none⟩)] w fun e w' => e = .returned (.int .i64 d.wait.length) ∧ w = w' := by
  obtain ⟨F, ⟨gm, v, rfl, h1⟩, h2, h3⟩ := h
  exact waiting_any w _ g gm v d h1
end
/-! sectors in an array of six -/
def sixCells (f : Nat → Sec) (n : Nat) : List Value := (List.range n).flatMap fun i => (f i).cs
theorem six_len (f : Nat → Sec) : ∀ n, (sixCells f n).length = n * 128
  | 0 => rfl
  | n + 1 => by
    have := six_len f n
    unfold sixCells at this ⊢
    rw [List.range_succ, List.flatMap_append, List.length_append, this]
    simp [Sec.cs_len]
    omega
theorem six_at (f : Nat → Sec) : ∀ (n i j : Nat), i < n → j < 128 → (sixCells f n)[i * 128 + j]? = (f i).cs[j]?
  | 0, i, j, h, _ => by omega
  | n + 1, i, j, h, hj => by
    have hl := six_len f n
    unfold sixCells at hl ⊢
    rw [List.range_succ, List.flatMap_append]
    by_cases hi : i < n
    · rw [List.getElem?_append_left (by rw [hl]; omega)]
      exact six_at f n i j hi hj
    · obtain rfl : i = n := by omega
      rw [List.getElem?_append_right (by rw [hl]; omega), hl, show i * 128 + j - i * 128 = j by omega]
      simp
theorem six_range {w : World} {gl : Nat} {t : TypeId} {f : Nat → Sec} {n i : Nat} (h : Blk w gl t (sixCells f n).toArray) (hi : i < n) : w.rangeAt gl (i * 128) (f i).cs := fun j u hj => by
  have hlt : j < 128 := by
    rcases Nat.lt_or_ge j 128 with h' | h'
    · exact h'
    · rw [List.getElem?_eq_none (by rw [Sec.cs_len]; omega)] at hj; cases hj
  rw [h.cell, List.getElem?_toArray, six_at f n i j hi hlt, hj]
theorem six_there {w : World} {gl : Nat} {t : TypeId} {f : Nat → Sec} {n i : Nat} (h : Blk w gl t (sixCells f n).toArray) (hi : i < n) : w.there gl (i * 128) 128 :=
  h.there (by rw [List.size_toArray, six_len]; omega)
theorem setCells_any : ∀ (vs : List Value) (o : Nat) {w : World} {g : Nat} {t : TypeId} {cs : List Value}, Blk w g t cs.toArray → o + vs.length ≤ cs.length → Blk (w.setCells g o vs) g t (cs.take o ++ vs ++ cs.drop (o + vs.length)).toArray
  | [], o, w, g, t, cs, h, hl => by simpa [World.setCells] using h
  | v :: vs, o, w, g, t, cs, h, hl => by
    have h1 := h.set_ o v
    rw [List.setIfInBounds_toArray] at h1
    simp only [List.length_cons] at hl
    have h2 := setCells_any vs (o + 1) h1 (by simp; omega)
    have e : (cs.set o v).take (o + 1) ++ vs ++ (cs.set o v).drop (o + 1 + vs.length) = cs.take o ++ v :: vs ++ cs.drop (o + (v :: vs).length) := by
      rw [List.take_add_one, List.take_set_of_le (Nat.le_refl _), List.getElem?_set_self (by omega), List.drop_set_of_lt (by omega), List.length_cons, show o + 1 + vs.length = o + (vs.length + 1) by omega]
      simp
    rw [e] at h2
    exact h2
theorem six_put (f : Nat → Sec) (s : Sec) (n i : Nat) (hi : i < n) : (sixCells f n).take (i * 128) ++ s.cs ++ (sixCells f n).drop (i * 128 + s.cs.length) = sixCells (fun j => if j = i then s else f j) n := by
  apply List.ext_getElem?
  intro q
  have hq : q = q / 128 * 128 + q % 128 := by omega
  have hm : q % 128 < 128 := Nat.mod_lt _ (by omega)
  have hl := six_len f n
  have hs := s.cs_len
  rcases Nat.lt_or_ge q (n * 128) with hlt | hge
  · have h2 : (sixCells (fun j => if j = i then s else f j) n)[q]? = (if q / 128 = i then s else f (q / 128)).cs[q % 128]? := by
      have := six_at (fun j => if j = i then s else f j) n (q / 128) (q % 128) (by omega) hm
      rw [← hq] at this
      exact this
    have h3 : (sixCells f n)[q]? = (f (q / 128)).cs[q % 128]? := by
      have := six_at f n (q / 128) (q % 128) (by omega) hm
      rw [← hq] at this
      exact this
    rw [h2]
    by_cases h4 : q < i * 128
    · rw [List.append_assoc, List.getElem?_append_left (by rw [List.length_take, hl]; omega), List.getElem?_take, if_pos h4, h3, if_neg (by omega)]
    · rw [List.append_assoc, List.getElem?_append_right (by rw [List.length_take, hl]; omega), List.length_take, hl, Nat.min_eq_left (by omega)]
      by_cases h5 : q < i * 128 + 128
      · rw [List.getElem?_append_left (by omega), if_pos (by omega)]
        congr 1
        omega
      · rw [List.getElem?_append_right (by omega), List.getElem?_drop, if_neg (by omega), ← h3]
        congr 1
        omega
  · rw [List.getElem?_eq_none (by simp [hl, hs]; omega), List.getElem?_eq_none (by rw [six_len]; omega)]
end Go.Proofs.YtpklcmocjimcpaaDoor

/-
  Plain arithmetic of the check sum CRC-32C on natural numbers: one shift, the shifts of four bits by table, bytes, and that all of it is linear for exclusive or. No condition; nothing of the program is named.
-/
namespace Go.Proofs.YtpklcmocjimcpaaDoor.Crc

/-- one shift of the register -/
def shift (r : Nat) : Nat := (r / 2) ^^^ (if r % 2 = 1 then 2197175160 else 0)

theorem xor_mod2 (a b : Nat) : (a ^^^ b) % 2 = (a % 2 + b % 2) % 2 := by
  have := Nat.xor_mod_two_pow (a := a) (b := b) (n := 1)
  simp at this
  rw [this]
  rcases Nat.mod_two_eq_zero_or_one a with h | h <;> rcases Nat.mod_two_eq_zero_or_one b with h' | h' <;> simp [h, h']

theorem xor_div (a b i : Nat) : (a ^^^ b) / 2 ^ i = (a / 2 ^ i) ^^^ (b / 2 ^ i) := by
  rw [← Nat.shiftRight_eq_div_pow, ← Nat.shiftRight_eq_div_pow, ← Nat.shiftRight_eq_div_pow, Nat.shiftRight_xor_distrib]

theorem xor4 (a b c d : Nat) : (a ^^^ b) ^^^ (c ^^^ d) = (a ^^^ c) ^^^ (b ^^^ d) := by
  rw [Nat.xor_assoc, ← Nat.xor_assoc b c d, Nat.xor_comm b c, Nat.xor_assoc c b d, ← Nat.xor_assoc a c]

theorem shift_xor (a b : Nat) : shift (a ^^^ b) = shift a ^^^ shift b := by
  unfold shift
  rw [show (a ^^^ b) / 2 = (a / 2) ^^^ (b / 2) from xor_div a b 1, xor4]
  congr 1
  rw [xor_mod2]
  rcases Nat.mod_two_eq_zero_or_one a with h | h <;> rcases Nat.mod_two_eq_zero_or_one b with h' | h' <;> simp [h, h']

theorem shift_lt {r : Nat} (h : r < 4294967296) : shift r < 4294967296 := by
  unfold shift
  exact Nat.xor_lt_two_pow (n := 32) (by omega) (by split <;> omega)

/-- n shifts -/
def shifts : Nat → Nat → Nat
  | 0, r => r
  | n + 1, r => shifts n (shift r)

theorem shifts_xor (n a b : Nat) : shifts n (a ^^^ b) = shifts n a ^^^ shifts n b := by
  induction n generalizing a b with
  | zero => rfl
  | succ n ih => simp only [shifts, shift_xor, ih]
theorem shifts_lt (n : Nat) {r : Nat} (h : r < 4294967296) : shifts n r < 4294967296 := by
  induction n generalizing r with
  | zero => exact h
  | succ n ih => exact ih (shift_lt h)
theorem shifts_add (m n r : Nat) : shifts (m + n) r = shifts n (shifts m r) := by
  induction m generalizing r with
  | zero => simp [shifts]
  | succ m ih => rw [Nat.succ_add]; simp only [shifts, ih]
theorem shifts_zero (n : Nat) : shifts n 0 = 0 := by
  induction n with
  | zero => rfl
  | succ n ih => simpa [shifts, shift] using ih

/-- the table of four shifts -/
def tab (i : Nat) : Nat := [0, 274646895, 549293790, 820201905, 1098587580, 1361435347, 1640403810, 1905808397, 2197175160, 2460548119, 2722870694, 2987750089, 3280807620, 3553878443, 3811616794, 4084100981].getD i 0
/-- four shifts at once -/
def half (r : Nat) : Nat := (r / 16) ^^^ tab (r % 16)

theorem tab_shifts : ∀ i, i < 16 → tab i = shifts 4 i := by decide +kernel
theorem tab_lt (i : Nat) : tab i < 4294967296 := by
  by_cases h : i < 16
  · rw [tab_shifts i h]; exact shifts_lt 4 (by omega)
  · unfold tab
    rw [List.getD_eq_getElem?_getD, List.getElem?_eq_none (by simp; omega)]
    simp
theorem shift_even (q : Nat) : shift (2 * q) = q := by
  unfold shift
  simp
theorem shifts4_mul (q : Nat) : shifts 4 (16 * q) = q := by
  have h1 : 16 * q = 2 * (2 * (2 * (2 * q))) := by omega
  rw [h1]
  simp only [shifts, shift_even]
theorem split16 (r : Nat) : r = (16 * (r / 16)) ^^^ (r % 16) := by
  have h1 : 16 * (r / 16) + r % 16 = r := Nat.div_add_mod r 16
  have h2 : 2 ^ 4 * (r / 16) + r % 16 = 2 ^ 4 * (r / 16) ||| r % 16 := Nat.two_pow_add_eq_or_of_lt (b := r % 16) (i := 4) (Nat.mod_lt _ (by omega)) (r / 16)
  have h3 : (2 ^ 4 * (r / 16)) ^^^ (r % 16) = 2 ^ 4 * (r / 16) ||| r % 16 := by
    apply Nat.eq_of_testBit_eq
    intro i
    rw [Nat.testBit_xor, Nat.testBit_or, Nat.testBit_two_pow_mul, show r % 16 = r % 2 ^ 4 from rfl, Nat.testBit_mod_two_pow]
    by_cases h : i < 4
    · have : ¬ (4 ≤ i) := by omega
      simp [h, this]
    · simp [h]
  rw [← h2, h1] at h3
  exact h3.symm
theorem half_shifts (r : Nat) : half r = shifts 4 r := by
  unfold half
  rw [tab_shifts _ (Nat.mod_lt _ (by omega))]
  conv => rhs; rw [split16 r]
  rw [shifts_xor, shifts4_mul]
theorem half_lt {r : Nat} (h : r < 4294967296) : half r < 4294967296 := by rw [half_shifts]; exact shifts_lt 4 h

/-- the register gone on with over one byte, over bytes -/
def byte (r c : Nat) : Nat := half (half (r ^^^ c))
def over (r : Nat) (bs : List Nat) : Nat := bs.foldl byte r
theorem byte_shifts (r c : Nat) : byte r c = shifts 8 (r ^^^ c) := by
  unfold byte
  rw [half_shifts, half_shifts, ← shifts_add]
theorem byte_lt {r c : Nat} (h : r < 4294967296) (hc : c < 256) : byte r c < 4294967296 := by
  rw [byte_shifts]
  exact shifts_lt 8 (Nat.xor_lt_two_pow (n := 32) (by omega) (by omega))
theorem over_lt {bs : List Nat} (hb : ∀ b ∈ bs, b < 256) : ∀ {r : Nat}, r < 4294967296 → over r bs < 4294967296 := by
  induction bs with
  | nil => intro r h; exact h
  | cons b bs ih => intro r h; exact ih (fun x hx => hb x (by simp [hx])) (byte_lt h (hb b (by simp)))
theorem over_append (r : Nat) (a b : List Nat) : over r (a ++ b) = over (over r a) b := by simp [over, List.foldl_append]
theorem over_snoc (r : Nat) (a : List Nat) (b : Nat) : over r (a ++ [b]) = byte (over r a) b := by simp [over, List.foldl_append]

/-- a check sum gone on with; of a text -/
def go (s : Nat) (bs : List Nat) : Nat := 4294967295 - over (4294967295 - s) bs
def sum (bs : List Nat) : Nat := go 0 bs
theorem go_lt (s : Nat) (bs : List Nat) : go s bs < 4294967296 := by unfold go; omega
theorem go_append (s : Nat) (a b : List Nat) (ha : ∀ x ∈ a, x < 256) : go (go s a) b = go s (a ++ b) := by
  unfold go
  rw [over_append]
  have := over_lt ha (r := 4294967295 - s) (by omega)
  rw [show 4294967295 - (4294967295 - over (4294967295 - s) a) = over (4294967295 - s) a by omega]

/-- three texts put together by exclusive or -/
def xor3 : List Nat → List Nat → List Nat → List Nat
  | a :: as1, b :: bs, c :: cs => ((a ^^^ b) ^^^ c) :: xor3 as1 bs cs
  | _, _, _ => []
theorem xor3_snoc : ∀ (a b c : List Nat) (k x y z : Nat), a[k]? = some x → b[k]? = some y → c[k]? = some z →
    xor3 (a.take (k + 1)) (b.take (k + 1)) (c.take (k + 1)) = xor3 (a.take k) (b.take k) (c.take k) ++ [(x ^^^ y) ^^^ z]
  | a :: as1, b :: bs, c :: cs, 0, x, y, z, h1, h2, h3 => by
    simp at h1 h2 h3
    subst h1 h2 h3
    simp [xor3]
  | a :: as1, b :: bs, c :: cs, k + 1, x, y, z, h1, h2, h3 => by
    have := xor3_snoc as1 bs cs k x y z (by simpa using h1) (by simpa using h2) (by simpa using h3)
    simp only [List.take_succ_cons, xor3, this, List.cons_append]
  | [], _, _, k, _, _, _, h1, _, _ => by simp at h1
  | _ :: _, [], _, k, _, _, _, _, h2, _ => by simp at h2
  | _ :: _, _ :: _, [], k, _, _, _, _, _, h3 => by simp at h3
theorem xor3_lt : ∀ (a b c : List Nat), (∀ x ∈ a, x < 256) → (∀ x ∈ b, x < 256) → (∀ x ∈ c, x < 256) → ∀ x ∈ xor3 a b c, x < 256
  | a :: as1, b :: bs, c :: cs, h1, h2, h3, x, hx => by
    rcases List.mem_cons.1 hx with rfl | hx
    · exact Nat.xor_lt_two_pow (n := 8) (Nat.xor_lt_two_pow (n := 8) (h1 a (by simp)) (h2 b (by simp))) (h3 c (by simp))
    · exact xor3_lt as1 bs cs (fun y hy => h1 y (by simp [hy])) (fun y hy => h2 y (by simp [hy])) (fun y hy => h3 y (by simp [hy])) x hx
  | [], _, _, _, _, _, x, hx => by simp [xor3] at hx
  | _ :: _, [], _, _, _, _, x, hx => by simp [xor3] at hx
  | _ :: _, _ :: _, [], _, _, _, x, hx => by simp [xor3] at hx
theorem byte_xor (r s c d : Nat) : byte (r ^^^ s) (c ^^^ d) = byte r c ^^^ byte s d := by
  rw [byte_shifts, byte_shifts, byte_shifts, ← shifts_xor, xor4]
theorem over_xor3 : ∀ (a b c : List Nat) (r s t : Nat), a.length = b.length → a.length = c.length → over ((r ^^^ s) ^^^ t) (xor3 a b c) = (over r a ^^^ over s b) ^^^ over t c
  | [], [], [], r, s, t, _, _ => rfl
  | a :: as1, b :: bs, c :: cs, r, s, t, h1, h2 => by
    have := over_xor3 as1 bs cs (byte r a) (byte s b) (byte t c) (by simpa using h1) (by simpa using h2)
    simp only [over, xor3, List.foldl_cons] at this ⊢
    rw [← this, byte_xor, byte_xor]
  | [], _ :: _, _, _, _, _, h1, _ => by simp at h1
  | [], [], _ :: _, _, _, _, _, h2 => by simp at h2
  | _ :: _, [], _, _, _, _, h1, _ => by simp at h1
  | _ :: _, _ :: _, [], _, _, _, _, h2 => by simp at h2
theorem not_xor (s : Nat) (h : s < 4294967296) : 4294967295 ^^^ s = 4294967295 - s := by
  have h1 : 2 ^ 32 - 1 - s = 2 ^ 32 - (s + 1) := by omega
  apply Nat.eq_of_testBit_eq
  intro i
  rw [show (4294967295 : Nat) = 2 ^ 32 - 1 from rfl, h1, Nat.testBit_xor, Nat.testBit_two_pow_sub_succ (x := s) (by omega), Nat.testBit_two_pow_sub_one]
  by_cases hi : i < 32
  · simp [hi]
  · simp only [hi, decide_false, Bool.false_xor, Bool.false_and]
    exact Nat.testBit_lt_two_pow (Nat.lt_of_lt_of_le (show s < 2 ^ 32 by omega) (Nat.pow_le_pow_right (by omega) (by omega)))
theorem sum_not (bs : List Nat) (h : ∀ b ∈ bs, b < 256) : sum bs = 4294967295 ^^^ over 4294967295 bs := by
  rw [not_xor _ (over_lt h (by omega))]
  rfl
theorem sum_xor3 (a b c : List Nat) (h1 : a.length = b.length) (h2 : a.length = c.length) (ha : ∀ x ∈ a, x < 256) (hb : ∀ x ∈ b, x < 256) (hc : ∀ x ∈ c, x < 256) :
    sum (xor3 a b c) = (sum a ^^^ sum b) ^^^ sum c := by
  rw [sum_not _ (xor3_lt a b c ha hb hc), sum_not a ha, sum_not b hb, sum_not c hc]
  have h := over_xor3 a b c 4294967295 4294967295 4294967295 h1 h2
  rw [show ((4294967295 ^^^ 4294967295) ^^^ 4294967295 : Nat) = 4294967295 by decide] at h
  rw [h]
  generalize over 4294967295 a = x
  generalize over 4294967295 b = y
  generalize over 4294967295 c = z
  rw [xor4 _ x, show (4294967295 ^^^ 4294967295 : Nat) = 0 by decide, Nat.zero_xor]
  ac_rfl

/-- the product of two polynomials, gone through bit by bit from the highest bit of a -/
def mulTo : Nat → Nat → Nat → Nat
  | 0, _, _ => 0
  | k + 1, a, b => mulTo k a b ^^^ (if a.testBit (31 - k) then shifts k b else 0)
theorem shifts_comm (m n r : Nat) : shifts m (shifts n r) = shifts n (shifts m r) := by
  rw [← shifts_add, ← shifts_add, Nat.add_comm]
theorem mulTo_shifts (k a n b : Nat) : mulTo k a (shifts n b) = shifts n (mulTo k a b) := by
  induction k with
  | zero => simp [mulTo, shifts_zero]
  | succ k ih =>
    simp only [mulTo, ih, shifts_xor]
    split
    · rw [shifts_comm]
    · rw [shifts_zero]
theorem shifts_top : ∀ k, k < 32 → shifts k 2147483648 = 2 ^ (31 - k) := by decide +kernel
theorem mulTo_lt (k a b : Nat) (hb : b < 4294967296) : mulTo k a b < 4294967296 := by
  induction k with
  | zero => simp [mulTo]
  | succ k ih =>
    refine Nat.xor_lt_two_pow (n := 32) ih ?_
    split
    · exact shifts_lt k hb
    · omega
theorem mulTo_top (a : Nat) : ∀ k, k ≤ 32 → ∀ i, (mulTo k a 2147483648).testBit i = (a.testBit i && decide (32 - k ≤ i ∧ i < 32)) := by
  intro k
  induction k with
  | zero =>
    intro _ i
    simp only [mulTo, Nat.zero_testBit]
    have : ¬ (32 - 0 ≤ i ∧ i < 32) := by omega
    simp [this]
  | succ k ih =>
    intro hk i
    simp only [mulTo, Nat.testBit_xor, ih (by omega), shifts_top k (by omega)]
    by_cases e : i = 31 - k
    · subst e
      have h1 : ¬ (32 - k ≤ 31 - k ∧ 31 - k < 32) := by omega
      have h2 : 32 - (k + 1) ≤ 31 - k ∧ 31 - k < 32 := by omega
      have h3 : decide (32 - (k + 1) ≤ 31 - k ∧ 31 - k < 32) = true := by simpa using h2
      have h4 : decide (32 - k ≤ 31 - k ∧ 31 - k < 32) = false := by simpa using h1
      rw [h3, h4]
      cases h : a.testBit (31 - k)
      · simp
      · simp [Nat.testBit_two_pow_self]
    · have h1 : (32 - (k + 1) ≤ i ∧ i < 32) ↔ (32 - k ≤ i ∧ i < 32) := by omega
      simp only [h1]
      cases h : a.testBit (31 - k)
      · simp
      · simp only [if_true]
        rw [Nat.testBit_two_pow_of_ne (by omega)]
        simp
theorem mul_top (a : Nat) (ha : a < 4294967296) : mulTo 32 a 2147483648 = a := by
  apply Nat.eq_of_testBit_eq
  intro i
  rw [mulTo_top a 32 (by omega)]
  by_cases hi : i < 32
  · simp [hi]
  · simp only [hi, and_false, decide_false, Bool.and_false]
    exact (Nat.testBit_lt_two_pow (Nat.lt_of_lt_of_le (show a < 2 ^ 32 by omega) (Nat.pow_le_pow_right (by omega) (by omega)))).symm
/-- the power x^n of the polynomials -/
def pow (n : Nat) : Nat := shifts n 2147483648
theorem pow_lt (n : Nat) : pow n < 4294967296 := shifts_lt n (by omega)
theorem mul_pow (a n : Nat) (ha : a < 4294967296) : mulTo 32 a (pow n) = shifts n a := by
  unfold pow
  rw [mulTo_shifts, mul_top a ha]
theorem pow_eight : pow 8 = 8388608 := by decide +kernel
theorem mul_pow_pow (n : Nat) : mulTo 32 (pow n) (pow n) = pow (n + n) := by
  rw [mul_pow _ _ (pow_lt n)]
  unfold pow
  rw [← shifts_add]
/-- noughts gone over -/
theorem over_shift : ∀ (bs : List Nat) (r s : Nat), over (r ^^^ s) bs = over r bs ^^^ shifts (8 * bs.length) s
  | [], r, s => rfl
  | b :: bs, r, s => by
    have h : byte (r ^^^ s) b = byte r b ^^^ shifts 8 s := by
      have := byte_xor r s b 0
      rw [Nat.xor_zero] at this
      rw [this, byte_shifts s, Nat.xor_zero]
    show over (byte (r ^^^ s) b) bs = over (byte r b) bs ^^^ _
    rw [h, over_shift bs, ← shifts_add, List.length_cons, show 8 * (bs.length + 1) = 8 + 8 * bs.length by omega]
theorem go_join (s : Nat) (bs : List Nat) (hs : s < 4294967296) (hb : ∀ b ∈ bs, b < 256) : shifts (8 * bs.length) s ^^^ sum bs = go s bs := by
  have h1 : 4294967295 - s = 4294967295 ^^^ s := (not_xor s hs).symm
  have h2 : go s bs = 4294967295 ^^^ over (4294967295 - s) bs := by
    rw [not_xor _ (over_lt hb (by omega))]; rfl
  rw [h2, h1, over_shift, sum_not bs hb]
  ac_rfl

/-- the byte number j of a number of 32 bits; a text with j bytes from k on changed by it -/
def part (s j : Nat) : Nat := s / 2 ^ (8 * j) % 256
def chg (t : List Nat) (k s : Nat) : Nat → List Nat
  | 0 => t
  | j + 1 => (chg t k s j).set (k + j) (t.getD (k + j) 0 ^^^ part s j)
theorem part_lt (s j : Nat) : part s j < 256 := Nat.mod_lt _ (by omega)
theorem chg_length (t : List Nat) (k s j : Nat) : (chg t k s j).length = t.length := by
  induction j with
  | zero => rfl
  | succ j ih => simp [chg, ih]
theorem chg_at (t : List Nat) (k s j i : Nat) (h : k + j ≤ i) : (chg t k s j)[i]? = t[i]? := by
  induction j with
  | zero => rfl
  | succ j ih =>
    simp only [chg]
    rw [List.getElem?_set_ne (by omega)]
    exact ih (by omega)
theorem chg_lt (t : List Nat) (k s j : Nat) (ht : ∀ b ∈ t, b < 256) : ∀ b ∈ chg t k s j, b < 256 := by
  induction j with
  | zero => exact ht
  | succ j ih =>
    intro b hb
    simp only [chg] at hb
    rcases List.mem_or_eq_of_mem_set hb with h | rfl
    · exact ih b h
    · refine Nat.xor_lt_two_pow (n := 8) ?_ (part_lt s j)
      rw [List.getD_eq_getElem?_getD]
      rcases Nat.lt_or_ge (k + j) t.length with h | h
      · rw [List.getElem?_eq_getElem h]
        exact ht _ (List.getElem_mem h)
      · rw [List.getElem?_eq_none h]
        decide
theorem set_mid (a : List Nat) (k : Nat) (hk : a.length = k) (l : List Nat) (j v : Nat) : (a ++ l).set (k + j) v = a ++ l.set j v := by
  rw [List.set_append_right _ _ (by omega)]
  congr 2
  omega
theorem getD_mid (a : List Nat) (k : Nat) (hk : a.length = k) (l : List Nat) (j : Nat) : (a ++ l).getD (k + j) 0 = l.getD j 0 := by
  rw [List.getD_eq_getElem?_getD, List.getD_eq_getElem?_getD, List.getElem?_append_right (by omega)]
  congr 2
  omega
theorem chg_four (a : List Nat) (k : Nat) (hk : a.length = k) (x y z u : Nat) (r : List Nat) (s : Nat) :
    chg (a ++ x :: y :: z :: u :: r) k s 4 = a ++ (x ^^^ part s 0) :: (y ^^^ part s 1) :: (z ^^^ part s 2) :: (u ^^^ part s 3) :: r := by
  simp only [chg, getD_mid a k hk, set_mid a k hk]
  simp
theorem split256 (r : Nat) : r = (256 * (r / 256)) ^^^ (r % 256) := by
  have h1 : 256 * (r / 256) + r % 256 = r := Nat.div_add_mod r 256
  have h2 : 2 ^ 8 * (r / 256) + r % 256 = 2 ^ 8 * (r / 256) ||| r % 256 := Nat.two_pow_add_eq_or_of_lt (b := r % 256) (i := 8) (Nat.mod_lt _ (by omega)) (r / 256)
  have h3 : (2 ^ 8 * (r / 256)) ^^^ (r % 256) = 2 ^ 8 * (r / 256) ||| r % 256 := by
    apply Nat.eq_of_testBit_eq
    intro i
    rw [Nat.testBit_xor, Nat.testBit_or, Nat.testBit_two_pow_mul, show r % 256 = r % 2 ^ 8 from rfl, Nat.testBit_mod_two_pow]
    by_cases h : i < 8
    · have : ¬ (8 ≤ i) := by omega
      simp [h, this]
    · simp [h]
  rw [← h2, h1] at h3
  exact h3.symm
theorem shifts8_mul (q : Nat) : shifts 8 (256 * q) = q := by
  have h1 : 256 * q = 2 * (2 * (2 * (2 * (2 * (2 * (2 * (2 * q))))))) := by omega
  rw [h1]
  simp only [shifts, shift_even]
theorem byte_next (r q : Nat) : byte (r ^^^ q) (q % 256) = shifts 8 r ^^^ q / 256 := by
  rw [byte_shifts, Nat.xor_assoc, shifts_xor]
  congr 1
  have h := split256 q
  have h2 : q ^^^ (q % 256) = 256 * (q / 256) := by
    conv => lhs; lhs; rw [h]
    rw [Nat.xor_assoc, Nat.xor_self, Nat.xor_zero]
  rw [h2, shifts8_mul]
theorem over_four (s : Nat) (hs : s < 4294967296) : over 0 [part s 0, part s 1, part s 2, part s 3] = shifts 32 s := by
  have h0 : (0 : Nat) = s ^^^ s := (Nat.xor_self s).symm
  have p0 : part s 0 = s % 256 := by simp [part]
  have p1 : part s 1 = s / 256 % 256 := by simp [part]
  have p2 : part s 2 = s / 256 / 256 % 256 := by simp [part, Nat.div_div_eq_div_mul]
  have p3 : part s 3 = s / 256 / 256 / 256 % 256 := by simp [part, Nat.div_div_eq_div_mul]
  simp only [over, List.foldl]
  rw [p0, p1, p2, p3]
  have e0 : byte 0 (s % 256) = byte (s ^^^ s) (s % 256) := by rw [← h0]
  rw [e0]
  clear h0 e0
  rw [byte_next, byte_next, byte_next, byte_next, ← shifts_add, ← shifts_add, ← shifts_add]
  have : s / 256 / 256 / 256 / 256 = 0 := by omega
  rw [this, Nat.xor_zero]
theorem shift_zero_of {r : Nat} (hr : r < 4294967296) (h : shift r = 0) : r = 0 := by
  unfold shift at h
  rcases Nat.mod_two_eq_zero_or_one r with e | e
  · rw [if_neg (by omega), Nat.xor_zero] at h
    omega
  · rw [if_pos e] at h
    have : r / 2 = 2197175160 := by
      have h1 : (r / 2 ^^^ 2197175160) ^^^ 2197175160 = 0 ^^^ 2197175160 := by rw [h]
      rw [Nat.xor_assoc, Nat.xor_self, Nat.xor_zero, Nat.zero_xor] at h1
      exact h1
    omega
theorem shifts_zero_of (n : Nat) : ∀ {r : Nat}, r < 4294967296 → shifts n r = 0 → r = 0 := by
  induction n with
  | zero => intro r _ h; exact h
  | succ n ih => intro r hr h; exact shift_zero_of hr (ih (shift_lt hr) h)
/-- two texts put together by exclusive or -/
theorem over_xor (r s : Nat) : ∀ (a b : List Nat), a.length = b.length → over (r ^^^ s) (List.zipWith (· ^^^ ·) a b) = over r a ^^^ over s b := by
  intro a
  induction a generalizing r s with
  | nil => intro b hb; cases b with
    | nil => rfl
    | cons _ _ => simp at hb
  | cons x a ih =>
    intro b hb
    cases b with
    | nil => simp at hb
    | cons y b =>
      show over (byte (r ^^^ s) (x ^^^ y)) _ = over (byte r x) a ^^^ over (byte s y) b
      rw [byte_xor]
      exact ih _ _ b (by simpa using hb)
theorem finds (a : List Nat) (x y z u : Nat) (r : List Nat) (s : Nat) (h0 : 0 < s) (hs : s < 4294967296) (ht : ∀ b ∈ a ++ x :: y :: z :: u :: r, b < 256) :
    sum (a ++ (x ^^^ part s 0) :: (y ^^^ part s 1) :: (z ^^^ part s 2) :: (u ^^^ part s 3) :: r) ≠ sum (a ++ x :: y :: z :: u :: r) := by
  intro e
  have hlt : over 4294967295 (a ++ x :: y :: z :: u :: r) < 4294967296 := over_lt ht (by omega)
  have e1 : over 4294967295 (a ++ (x ^^^ part s 0) :: (y ^^^ part s 1) :: (z ^^^ part s 2) :: (u ^^^ part s 3) :: r) = over 4294967295 (a ++ x :: y :: z :: u :: r) ^^^ shifts (8 * r.length) (shifts 32 s) := by
    rw [over_append, over_append]
    generalize over 4294967295 a = q
    have h := over_xor q 0 [x, y, z, u] [part s 0, part s 1, part s 2, part s 3] rfl
    rw [Nat.xor_zero, over_four s hs] at h
    have h4 : ∀ (q x y z u : Nat) (r : List Nat), over q (x :: y :: z :: u :: r) = over (over q [x, y, z, u]) r := fun _ _ _ _ _ _ => rfl
    rw [h4 q x, h4 q (x ^^^ part s 0)]
    simp only [List.zipWith] at h
    rw [h]
    exact over_shift r _ _
  have hd : shifts (8 * r.length) (shifts 32 s) < 4294967296 := shifts_lt _ (shifts_lt _ hs)
  have hlt2 : over 4294967295 (a ++ x :: y :: z :: u :: r) ^^^ shifts (8 * r.length) (shifts 32 s) < 4294967296 := Nat.xor_lt_two_pow (n := 32) hlt hd
  unfold sum go at e
  rw [show 4294967295 - 0 = 4294967295 from rfl, e1] at e
  generalize over 4294967295 (a ++ x :: y :: z :: u :: r) = q at *
  generalize hD : shifts (8 * r.length) (shifts 32 s) = d at *
  have e2 : q ^^^ d = q := by omega
  have e3 : d = 0 := by
    have : q ^^^ (q ^^^ d) = q ^^^ q := by rw [e2]
    rwa [← Nat.xor_assoc, Nat.xor_self, Nat.zero_xor] at this
  have e4 := shifts_zero_of _ (shifts_lt 32 hs) (hD.trans e3)
  have e5 := shifts_zero_of _ hs e4
  omega
theorem finds_chg (t : List Nat) (k s : Nat) (hk : k + 4 ≤ t.length) (h0 : 0 < s) (hs : s < 4294967296) (ht : ∀ b ∈ t, b < 256) : sum (chg t k s 4) ≠ sum t := by
  obtain ⟨x, y, z, u, r, e⟩ : ∃ x y z u r, t.drop k = x :: y :: z :: u :: r := by
    have hl : (t.drop k).length = t.length - k := List.length_drop
    match h : t.drop k with
    | [] => rw [h] at hl; simp at hl; omega
    | [_] => rw [h] at hl; simp at hl; omega
    | [_, _] => rw [h] at hl; simp at hl; omega
    | [_, _, _] => rw [h] at hl; simp at hl; omega
    | x :: y :: z :: u :: r => exact ⟨x, y, z, u, r, rfl⟩
  have ht' : t = t.take k ++ x :: y :: z :: u :: r := by rw [← e, List.take_append_drop]
  have hl : (t.take k).length = k := by rw [List.length_take]; omega
  generalize t.take k = a at *
  subst ht'
  rw [chg_four a k hl]
  exact finds a x y z u r s h0 hs ht
end Go.Proofs.YtpklcmocjimcpaaDoor.Crc

/-
  What the program's crc.Go returns: the register of the document's shifts, gone on with over the bytes. Conditions: the slice reads as bytes, is no longer than a million, and the package's table holds the sixteen numbers.
-/
namespace Go.Proofs.YtpklcmocjimcpaaDoor
open Go.RowKit
set_option maxRecDepth 100000
theorem not32 (s : Nat) (h : s < 4294967296) : bits .xor .u32 IntKind.u32.max (s : Int) = ((4294967295 - s : Nat) : Int) := by
  rw [show IntKind.u32.max = ((4294967295 : Nat) : Int) from by decide, u32_xor_nat _ _ (by omega) h]
  have : 4294967295 ^^^ s = 4294967295 - s := by
    have h1 : 2 ^ 32 - 1 - s = 2 ^ 32 - (s + 1) := by omega
    apply Nat.eq_of_testBit_eq
    intro i
    rw [show (4294967295 : Nat) = 2 ^ 32 - 1 from rfl, h1, Nat.testBit_xor, Nat.testBit_two_pow_sub_succ (x := s) (by omega), Nat.testBit_two_pow_sub_one]
    by_cases hi : i < 32
    · simp [hi]
    · simp only [hi, decide_false, Bool.false_xor, Bool.false_and]
      exact Nat.testBit_lt_two_pow (Nat.lt_of_lt_of_le (show s < 2 ^ 32 by omega) (Nat.pow_le_pow_right (by omega) (by omega)))
  rw [this]
def Tab (w : World) : Prop := ∀ i, i < 16 → w.cell? ⟨0, i, none⟩ = some (.int .u32 (Crc.tab i : Int))
theorem and15 (r : Nat) (h : r < 4294967296) : bits .and .u32 (r : Int) 15 = ((r % 16 : Nat) : Int) := by
  rw [show (15 : Int) = ((15 : Nat) : Int) from rfl, u32_and_nat _ _ h (by omega), nat_mask4]
theorem xor_half (r : Nat) (h : r < 4294967296) : bits .xor .u32 ((r : Int) / 16) (Crc.tab (r % 16) : Int) = ((Crc.half r : Nat) : Int) := by
  rw [show ((r : Int) / 16) = ((r / 16 : Nat) : Int) from by omega, u32_xor_nat _ _ (by omega) (Crc.tab_lt _)]
  rfl
def halves : Nat → Nat → Nat
  | 0, r => r
  | n + 1, r => Crc.half (halves n r)
theorem halves_two (r c : Nat) : halves 2 (r ^^^ c) = Crc.byte r c := rfl
set_option maxHeartbeats 400000 in
theorem go_any (A : Option Addr) (n c s B : Nat) (bs : List Nat) (w : World) (hs : s < 4294967296) (hn : n ≤ 1000000) (hb : Bytes w B A n bs) (hT : Tab w) :
    Calls Tryd.prog 84 #[.int .u32 s, .slice A n c] w fun e w' => e = .returned (.int .u32 (Crc.go s bs)) ∧ w = w' := by
  have HT := Lib.hid hT
  clear hT
  go_enter Tryd.func84, Tryd.ntmps84
  go_wp2
  rw [not32 s hs]
  go_loop [5, 12] (fun r i => ∃ k : Nat, k ≤ n ∧ i = .int .i64 k ∧ r = .int .u32 (Crc.over (4294967295 - s) (bs.take k) : Nat)) (fun _ i => n - (intOf i).toNat)
  case atStart => exact ⟨0, Nat.zero_le _, rfl, by simp [Crc.over]⟩
  case round =>
    obtain ⟨k, hk, rfl, rfl⟩ := hrel
    by_cases hlt : k < n
    · obtain ⟨ad, b, rfl, hbk, hb256, hc⟩ := hb.at_ hlt
      have hr1 := Crc.over_lt (bs := bs.take k) (fun x hx => hb.2 x (List.mem_of_mem_take hx)) (r := 4294967295 - s) (by omega)
      have Hx := Lib.hid (u32_xor_nat _ b hr1 (by omega))
      have Hend : Hid (Crc.over (4294967295 - s) (bs.take (k + 1)) = halves 2 (Crc.over (4294967295 - s) (bs.take k) ^^^ b)) := by
        rw [take_snoc hbk, Crc.over_snoc, halves_two]; exact Lib.hid rfl
      have hr2 : Crc.over (4294967295 - s) (bs.take k) ^^^ b < 4294967296 := Nat.xor_lt_two_pow (n := 32) (by omega) (by omega)
      clear hbk
      generalize Crc.over (4294967295 - s) (bs.take k) = r1 at *
      go_wp2
      rw [Hx.out]
      generalize r1 ^^^ b = r2 at *
      go_loop [5, 20] (fun r i => ∃ j t : Nat, j ≤ 2 ∧ i = .int .i64 j ∧ r = .int .u32 t ∧ t < 4294967296 ∧ Hid (t = halves j r2)) (fun _ i => 2 - (intOf i).toNat)
      case atStart => exact ⟨0, r2, by omega, rfl, rfl, hr2, Lib.hid rfl⟩
      case round =>
        obtain ⟨j, t, hj, rfl, rfl, ht, Ht⟩ := hrel
        by_cases hj2 : j < 2
        · have hA := and15 t ht
          have hX := xor_half t ht
          have hC := HT.out (t % 16) (Nat.mod_lt _ (by omega))
          go_wp2
          go_round
          case rel => exact ⟨j + 1, Crc.half t, by omega, by go_num, rfl, Crc.half_lt ht, Lib.hid (by rw [Ht.out]; rfl)⟩
          case measure => simp [intOf]; omega
        · go_wp2
          go_round
          case rel => 
            obtain rfl : j = 2 := by omega
            exact ⟨k + 1, by omega, by go_num, by rw [Hend.out, Ht.out]⟩
          case measure => simp [intOf]; omega
    · go_wp2
      rw [not32 _ (Crc.over_lt (bs := bs.take k) (fun x hx => hb.2 x (List.mem_of_mem_take hx)) (r := 4294967295 - s) (by omega))]
      go_ret
      refine ⟨ret_int ?_, rfl⟩
      rw [List.take_of_length_le (by have := hb.len; omega)]
      rfl
end Go.Proofs.YtpklcmocjimcpaaDoor

/-
  What crc.Sum returns: the document's check sum of the parts' bytes one behind the other; and that the laws' fixed example stands. Conditions: each part reads as bytes and is no longer than a million; the package's table holds its sixteen numbers.
-/
namespace Go.Proofs.YtpklcmocjimcpaaDoor
open Go.RowKit
set_option maxRecDepth 100000
/-- parts of a text: where each lies, its length, its capacity, its bytes -/
def partVal (p : Option Addr × Nat × Nat × List Nat) : Value := .slice p.1 p.2.1 p.2.2.1
def Parts (w : World) (B : Nat) (A : Option Addr) (m : Nat) (ps : List (Option Addr × Nat × Nat × List Nat)) : Prop :=
  Reads w B 1 A m (ps.map partVal) ∧ ∀ p ∈ ps, Bytes w B p.1 p.2.1 p.2.2.2 ∧ p.2.1 ≤ 1000000
def textOf (ps : List (Option Addr × Nat × Nat × List Nat)) : List Nat := ps.flatMap fun p => p.2.2.2
theorem Parts.at_ {w : World} {B : Nat} {A : Option Addr} {m k : Nat} {ps : List (Option Addr × Nat × Nat × List Nat)} (h : Parts w B A m ps) (hk : k < m) :
    ∃ (ad : Addr) (p : Option Addr × Nat × Nat × List Nat), A = some ad ∧ ps[k]? = some p ∧ Bytes w B p.1 p.2.1 p.2.2.2 ∧ p.2.1 ≤ 1000000 ∧ w.cell? (ad.add k) = some (.slice p.1 p.2.1 p.2.2.1) := by
  obtain ⟨ad, u, e, hb, hx, hc⟩ := h.1.at_ hk
  have hl : k < ps.length := by have := h.1.1; simp at this; omega
  have hp := h.2 _ (List.getElem_mem hl)
  refine ⟨ad, ps[k], e, List.getElem?_eq_getElem hl, hp.1, hp.2, ?_⟩
  rw [hc, ← hx]
  simp [partVal, hl]
theorem textOf_lt {w : World} {B : Nat} {A : Option Addr} {m : Nat} {ps : List (Option Addr × Nat × Nat × List Nat)} (h : Parts w B A m ps) : ∀ b ∈ textOf ps, b < 256 := by
  intro b hb
  obtain ⟨p, hp, hbp⟩ := List.mem_flatMap.1 hb
  exact (h.2 p hp).1.2 b hbp
theorem textOf_take {ps : List (Option Addr × Nat × Nat × List Nat)} {k : Nat} {p : Option Addr × Nat × Nat × List Nat} (h : ps[k]? = some p) : textOf (ps.take (k + 1)) = textOf (ps.take k) ++ p.2.2.2 := by
  rw [List.take_add_one, h]; simp [textOf]
theorem textOf_take_lt {ps : List (Option Addr × Nat × Nat × List Nat)} {k : Nat} (h : ∀ b ∈ textOf ps, b < 256) : ∀ b ∈ textOf (ps.take k), b < 256 := by
  intro b hb
  obtain ⟨p, hp, hbp⟩ := List.mem_flatMap.1 hb
  exact h b (List.mem_flatMap.2 ⟨p, List.mem_of_mem_take hp, hbp⟩)
set_option maxHeartbeats 400000 in
theorem sum_any (A : Option Addr) (m c B : Nat) (ps : List (Option Addr × Nat × Nat × List Nat)) (w : World) (hm : m ≤ 1000000) (hb : Parts w B A m ps) (hT : Tab w) :
    Calls Tryd.prog 78 #[.slice A m c] w fun e w' => e = .returned (.int .u32 (Crc.sum (textOf ps))) ∧ w = w' := by
  have HT := Lib.hid hT
  clear hT
  go_enter Tryd.func78, Tryd.ntmps78
  go_wp2
  go_loop [3, 8] (fun r i => ∃ k : Nat, k ≤ m ∧ i = .int .i64 k ∧ r = .int .u32 (Crc.sum (textOf (ps.take k)) : Nat)) (fun _ i => m - (intOf i).toNat)
  case atStart => exact ⟨0, Nat.zero_le _, rfl, by simp [textOf, Crc.sum, Crc.go, Crc.over]⟩
  case round =>
    obtain ⟨k, hk, rfl, rfl⟩ := hrel
    by_cases hlt : k < m
    · obtain ⟨ad, p, rfl, hpk, hbp, hpn, hc⟩ := hb.at_ hlt
      obtain ⟨pA, pn, pc, pbs⟩ := p
      have Hend := Lib.hid (Crc.go_append 0 (textOf (ps.take k)) pbs (textOf_take_lt (textOf_lt hb)))
      have Htk := Lib.hid (textOf_take hpk)
      clear hpk
      have hs : Crc.sum (textOf (ps.take k)) < 4294967296 := Crc.go_lt _ _
      go_wp2_with (go_at_call 84; refine (go_any _ _ _ _ _ _ _ hs hpn hbp HT.out).mono ?_; rintro e w' ⟨rfl, rfl⟩)
      go_round
      case rel => exact ⟨k + 1, by omega, by go_num, by rw [Htk.out]; unfold Crc.sum; rw [← Hend.out]⟩
      case measure => simp [intOf]; omega
    · go_wp2
      go_ret
      refine ⟨ret_int ?_, rfl⟩
      rw [List.take_of_length_le (by have := hb.1.1; simp at this; omega)]
theorem Tab.pos {w : World} (h : Tab w) : 0 < w.heap.size := by
  have h0 := h 0 (by omega)
  rcases Nat.eq_zero_or_pos w.heap.size with e | e
  · simp [World.cell?, Array.getElem?_eq_none (show w.heap.size ≤ 0 by omega)] at h0
  · exact e
theorem Tab.keep {w w' : World} (h : Tab w) (hk : ∀ p : Addr, p.block < w.heap.size → w'.cell? p = w.cell? p) : Tab w' :=
  fun i hi => (hk ⟨0, i, none⟩ h.pos).trans (h i hi)
theorem Tab.below {w w' : World} (h : Tab w) (hb : Below w.heap.size w w') : Tab w' := h.keep fun _ hp => hb.cell hp
theorem Tab.alloc {w : World} (h : Tab w) (o : Obj) : Tab (w.alloc o) := h.keep fun p hp => World.cell?_alloc_lt w o p hp
theorem Tab.drewN {w : World} (h : Tab w) (n : Nat) : Tab (w.drewN n) := h
theorem Tab.drew {w : World} (h : Tab w) : Tab w.drew := h

theorem alive_parts (w : World) (t1 t2 : TypeId) (f1 f2 : Nat × Nat) (t3 : TypeId) (f3 : Nat × Nat) :
    Parts (((w.alloc (.cells (u8s [49, 50, 51, 52]).toArray t1 f1)).alloc (.cells (u8s [53, 54, 55, 56, 57]).toArray t2 f2)).alloc
      (.cells [Value.slice (some ⟨w.heap.size, 0, none⟩) 4 4, Value.slice (some ⟨w.heap.size + 1, 0, none⟩) 5 5].toArray t3 f3)) (w.heap.size + 3)
      (some ⟨w.heap.size + 1 + 1, 0, none⟩) 2 [(some ⟨w.heap.size, 0, none⟩, 4, 4, [49, 50, 51, 52]), (some ⟨w.heap.size + 1, 0, none⟩, 5, 5, [53, 54, 55, 56, 57])] := by
  refine ⟨?_, fun p hp => ?_⟩
  · have h := Reads.new ((w.alloc (.cells (u8s [49, 50, 51, 52]).toArray t1 f1)).alloc (.cells (u8s [53, 54, 55, 56, 57]).toArray t2 f2))
      [Value.slice (some ⟨w.heap.size, 0, none⟩) 4 4, Value.slice (some ⟨w.heap.size + 1, 0, none⟩) 5 5] t3 f3
    simp only [World.size_alloc] at h
    exact h
  · have h1 := ((Bytes.new w [49, 50, 51, 52] t1 f1 (by decide)).alloc (by simp) (.cells (u8s [53, 54, 55, 56, 57]).toArray t2 f2)).alloc (by simp)
      (.cells [Value.slice (some ⟨w.heap.size, 0, none⟩) 4 4, Value.slice (some ⟨w.heap.size + 1, 0, none⟩) 5 5].toArray t3 f3)
    have h2 := (Bytes.new (w.alloc (.cells (u8s [49, 50, 51, 52]).toArray t1 f1)) [53, 54, 55, 56, 57] t2 f2 (by decide)).alloc (by simp)
      (.cells [Value.slice (some ⟨w.heap.size, 0, none⟩) 4 4, Value.slice (some ⟨w.heap.size + 1, 0, none⟩) 5 5].toArray t3 f3)
    simp only [World.size_alloc] at h2
    rcases List.mem_cons.1 hp with rfl | hp
    · exact ⟨h1.more (by omega), by simp⟩
    · obtain rfl := List.mem_singleton.1 hp
      exact ⟨h2.more (by omega), by simp⟩
/-- parts, in a slice that was made just now -/
theorem Parts.new (w : World) (ps : List (Option Addr × Nat × Nat × List Nat)) (t : TypeId) (h : ∀ p ∈ ps, Bytes w w.heap.size p.1 p.2.1 p.2.2.2 ∧ p.2.1 ≤ 1000000) :
    Parts (w.alloc (.cells (ps.map partVal).toArray t)) (w.heap.size + 1) (some ⟨w.heap.size, 0, none⟩) ps.length ps := by
  refine ⟨?_, fun p hp => ⟨((h p hp).1.alloc (Nat.le_refl _) _).more (by omega), (h p hp).2⟩⟩
  have := Reads.new w (ps.map partVal) t (0, 0)
  rwa [List.length_map] at this
theorem Parts.new1 (w : World) {A : Option Addr} {n c : Nat} {bs : List Nat} (t : TypeId) (h : Bytes w w.heap.size A n bs) (hn : n ≤ 1000000) :
    Parts (w.alloc (.cells #[.slice A n c] t)) (w.heap.size + 1) (some ⟨w.heap.size, 0, none⟩) 1 [(A, n, c, bs)] :=
  Parts.new w [(A, n, c, bs)] t (fun p hp => by obtain rfl := List.mem_singleton.1 hp; exact ⟨h, hn⟩)
theorem Parts.new2 (w : World) {A A' : Option Addr} {n c n' c' : Nat} {bs bs' : List Nat} (t : TypeId) (h : Bytes w w.heap.size A n bs) (hn : n ≤ 1000000) (h' : Bytes w w.heap.size A' n' bs') (hn' : n' ≤ 1000000) :
    Parts (w.alloc (.cells #[.slice A n c, .slice A' n' c'] t)) (w.heap.size + 1) (some ⟨w.heap.size, 0, none⟩) 2 [(A, n, c, bs), (A', n', c', bs')] :=
  Parts.new w [(A, n, c, bs), (A', n', c', bs')] t (fun p hp => by
    rcases List.mem_cons.1 hp with rfl | hp
    · exact ⟨h, hn⟩
    · obtain rfl := List.mem_singleton.1 hp
      exact ⟨h', hn'⟩)
theorem Parts.at1 (w : World) (g : Nat) (hg : w.heap.size = g) {A : Option Addr} {n c : Nat} {bs : List Nat} (t : TypeId) (h : Bytes w w.heap.size A n bs) (hn : n ≤ 1000000) :
    Parts (w.alloc (.cells #[.slice A n c] t)) (g + 1) (some ⟨g, 0, none⟩) 1 [(A, n, c, bs)] := by
  subst hg
  exact Parts.new1 w t h hn
theorem textOf1 (A : Option Addr) (n c : Nat) (bs : List Nat) : textOf [(A, n, c, bs)] = bs := by simp [textOf]
theorem textOf2 (A A' : Option Addr) (n c n' c' : Nat) (bs bs' : List Nat) : textOf [(A, n, c, bs), (A', n', c', bs')] = bs ++ bs' := by simp [textOf]
theorem alive_sum : Crc.sum [49, 50, 51, 52, 53, 54, 55, 56, 57] = 3808858755 := by decide +kernel

end Go.Proofs.YtpklcmocjimcpaaDoor

/-
  How arguments that came in are opened: bytes, numbers. No condition.
-/
namespace Go.Proofs.YtpklcmocjimcpaaDoor
open Go.ChangeShapes Go.WideShapes Go.ChangeAt Go.RowKit
set_option maxRecDepth 100000
theorem own : ownKnob Tryd.prog.godebug = none := by kernel_rfl
theorem laidOut : laidOutB Tryd.prog = true := by kernel_rfl
theorem lt_of_cell {w : World} {a : Addr} {v : Value} (h : w.cell? a = some v) : a.block < w.heap.size := by
  rcases Nat.lt_or_ge a.block w.heap.size with h' | h'
  · exact h'
  · simp [World.cell?, Array.getElem?_eq_none h'] at h
theorem getD_map_toNat (zs : List Int) (i : Nat) (h : i < zs.length) (h0 : ∀ z ∈ zs, 0 ≤ z ∧ z ≤ 255) : ((((zs.map Int.toNat)[i]?).getD 0 : Nat) : Int) = zs.getD i 0 := by
  have := h0 _ (List.getElem_mem h)
  simp [h]
  omega
/-- the bytes of a row of cells that hold numbers of eight bits -/
theorem bytes_of_cells {W : World} {a : Addr} {len cap : Nat} {zs : List Int} (hl : len ≤ cap) (hz : zs.length = cap) (hcell : ∀ i, i < cap → W.cell? (a.add i) = some (.int .u8 (zs.getD i 0)))
    (hw : ∀ n ∈ zs, (Lit.int .u8 n).wf = true) : Bytes W W.heap.size (some a) len ((zs.map Int.toNat).take len) := by
  have hb : ∀ z ∈ zs, 0 ≤ z ∧ z ≤ 255 := fun z hz' => by
    have := hw z hz'
    simp [Lit.wf, IntKind.min, IntKind.max, IntKind.bits, IntKind.signed] at this
    omega
  refine ⟨⟨by simp [u8s]; omega, fun hn => ⟨a, rfl, ?_, fun j u hu => ?_⟩⟩, ?_⟩
  · have := lt_of_cell (hcell 0 (by omega))
    rwa [block_of_add] at this
  · have hj : j < len := by
      rcases Nat.lt_or_ge j len with h | h
      · exact h
      · rw [List.getElem?_eq_none (by simp [u8s]; omega)] at hu
        cases hu
    rw [hcell j (by omega), ← hu]
    have := getD_map_toNat zs j (by omega) hb
    simp [u8s, u8, hj, show j < zs.length by omega] at this ⊢
    omega
  · intro b hb'
    obtain ⟨z, hz', rfl⟩ := List.mem_map.1 (List.mem_of_mem_take hb')
    have := hb z hz'
    omega
theorem ints_of_cells {W : World} {a : Addr} {len cap : Nat} {zs : List Int} (hl : len ≤ cap) (hz : zs.length = cap) (hcell : ∀ i, i < cap → W.cell? (a.add i) = some (.int .i64 (zs.getD i 0))) : Ints W W.heap.size (some a) len (zs.take len) := by
  refine ⟨by simp [i64s]; omega, fun hn => ⟨a, rfl, ?_, fun j u hu => ?_⟩⟩
  · have := lt_of_cell (hcell 0 (by omega))
    rwa [block_of_add] at this
  · have hj : j < len := by
      rcases Nat.lt_or_ge j len with h | h
      · exact h
      · rw [List.getElem?_eq_none (by simp [i64s]; omega)] at hu
        cases hu
    rw [hcell j (by omega), ← hu]
    simp [i64s, hj, show j < zs.length by omega]
theorem bytes_of {H : Type} {enc : TypeId × Value → H} {W : World} {n : Nat} {v : Value} {y : DataW H × List MemPlace} (h : DataW.trod enc Tryd.prog W 0 (fun _ => true) true n 34 [v] = some y) :
    ∃ (A : Option Addr) (m c : Nat) (l : List Nat), v = .slice A m c ∧ (m ≤ c ∧ c ≤ 9223372036854775807) ∧ Bytes W W.heap.size A m l := by
  rcases open_ints Tryd.underlying34 Tryd.underlying5 (by kernel_rfl) h with ⟨hcs, _⟩ | ⟨x, l, c, zs, hcs, _, hl, hm, hz, _, hcell, hwz⟩
  · exact ⟨none, 0, 0, [], by simpa using hcs, ⟨by omega, by omega⟩, Reads.none_, by simp⟩
  · simp only [List.cons.injEq, and_true] at hcs
    simp only [if_true] at hz
    unfold maxLen at hm
    exact ⟨_, _, _, _, hcs, ⟨by omega, by omega⟩, bytes_of_cells hl hz (fun i hi => hcell i (by omega)) hwz⟩
theorem ints_of {H : Type} {enc : TypeId × Value → H} {W : World} {n : Nat} {v : Value} {y : DataW H × List MemPlace} (h : DataW.trod enc Tryd.prog W 0 (fun _ => true) true n 52 [v] = some y) :
    ∃ (A : Option Addr) (m c : Nat) (l : List Int), v = .slice A m c ∧ (m ≤ c ∧ c ≤ 9223372036854775807) ∧ Ints W W.heap.size A m l ∧ ∀ x ∈ l, -9223372036854775808 ≤ x ∧ x ≤ 9223372036854775807 := by
  rcases open_ints Tryd.underlying52 Tryd.underlying3 (by kernel_rfl) h with ⟨hcs, _⟩ | ⟨x, l, c, zs, hcs, _, hl, hm, hz, _, hcell, hwz⟩
  · exact ⟨none, 0, 0, [], by simpa using hcs, ⟨by omega, by omega⟩, Reads.none_, fun x hx => by cases hx⟩
  · simp only [List.cons.injEq, and_true] at hcs
    simp only [if_true] at hz
    unfold maxLen at hm
    refine ⟨_, _, _, _, hcs, ⟨by omega, by omega⟩, ints_of_cells hl hz (fun i hi => hcell i (by omega)), fun z hz' => ?_⟩
    have := hwz z (List.mem_of_mem_take hz')
    simp [Lit.wf, IntKind.min, IntKind.max, IntKind.bits, IntKind.signed] at this
    omega
theorem open_bytes {H : Type} {enc : TypeId × Value → H} {W : World} {base : Nat} {v : Value} {d : DataW H} {p : List MemPlace} (hval : Value.okWide Tryd.prog W .any base 34 v)
    (h : DataW.Trod enc Tryd.prog W 0 (fun _ => true) true 34 v d p) : ∃ (A : Option Addr) (n c : Nat) (bs : List Nat), v = .slice A n c ∧ (n ≤ c ∧ c ≤ 9223372036854775807) ∧ Bytes W W.heap.size A n bs := by
  obtain ⟨a0, len0, cap0, rfl⟩ := okWide_slice Tryd.underlying34 hval
  obtain ⟨fuel, hf⟩ := h
  exact bytes_of hf
theorem open_nums {H : Type} {enc : TypeId × Value → H} {W : World} {base : Nat} {v : Value} {d : DataW H} {p : List MemPlace} (hval : Value.okWide Tryd.prog W .any base 52 v)
    (h : DataW.Trod enc Tryd.prog W 0 (fun _ => true) true 52 v d p) : ∃ (A : Option Addr) (n c : Nat) (l : List Int), v = .slice A n c ∧ (n ≤ c ∧ c ≤ 9223372036854775807) ∧ Ints W W.heap.size A n l := by
  obtain ⟨a0, len0, cap0, rfl⟩ := okWide_slice Tryd.underlying52 hval
  obtain ⟨fuel, hf⟩ := h
  obtain ⟨A, m, c, l, h1, h2, h3, _⟩ := ints_of hf
  exact ⟨A, m, c, l, h1, h2, h3⟩
theorem open_i64 {H : Type} {enc : TypeId × Value → H} {W : World} {base : Nat} {v : Value} {d : DataW H} {p : List MemPlace} (hval : Value.okWide Tryd.prog W .any base 3 v)
    (h : DataW.Trod enc Tryd.prog W 0 (fun _ => true) true 3 v d p) : ∃ x : Int, v = .int .i64 x ∧ -9223372036854775808 ≤ x ∧ x ≤ 9223372036854775807 := by
  obtain ⟨x, rfl, _, _, wx⟩ := open_int Tryd.underlying3 hval h
  simp [Lit.wf, IntKind.min, IntKind.max, IntKind.bits, IntKind.signed] at wx
  exact ⟨x, rfl, by omega, by omega⟩
/-! the package's table, as the rows list it -/
theorem gTab : Tryd.prog.globalNamed "lamina/crc.halves" = some 0 := by kernel_rfl
theorem gTabType : (Tryd.prog.globals[0]?).map (·.type) = some 139 := by kernel_rfl
theorem cellsTab : Tryd.prog.cellsOf 139 = 16 := by kernel_rfl
theorem cellsU32 : Tryd.prog.cellsOf 128 = 1 := by kernel_rfl
theorem table {W : World} (h : laidMetH Tryd.prog [("lamina/crc.halves", Rows.laid_lamina_crc_halves)] W) : Tab W := by
  have ht : Lib.TabIs Tryd.prog W "lamina/crc.halves" .u32 [0, 274646895, 549293790, 820201905, 1098587580, 1361435347, 1640403810, 1905808397, 2197175160, 2460548119, 2722870694, 2987750089, 3280807620, 3553878443, 3811616794, 4084100981] :=
    Lib.tabIs_of_head (rest := []) gTab gTabType Tryd.underlying139 Tryd.underlying128 cellsU32 cellsTab h
  intro i hi
  rw [ht.cell gTab i (by simpa using hi)]
  congr 2
  have : ∀ i, i < 16 → (([0, 274646895, 549293790, 820201905, 1098587580, 1361435347, 1640403810, 1905808397, 2197175160, 2460548119, 2722870694, 2987750089, 3280807620, 3553878443, 3811616794, 4084100981] : List Int).getD i 0) = (Crc.tab i : Int) := by decide +kernel
  exact this i hi
/-- a world whose table holds what its initialiser lays -/
noncomputable def laidWorld (os : Os) : World :=
  { World.holding Tryd.prog os ⟨#[], #[], []⟩ with heap := (World.holding Tryd.prog os ⟨#[], #[], []⟩).heap.modify 0 fun
      | .cells _ t frozen => .cells #[.int .u32 0, .int .u32 274646895, .int .u32 549293790, .int .u32 820201905, .int .u32 1098587580, .int .u32 1361435347, .int .u32 1640403810, .int .u32 1905808397, .int .u32 2197175160, .int .u32 2460548119, .int .u32 2722870694, .int .u32 2987750089, .int .u32 3280807620, .int .u32 3553878443, .int .u32 3811616794, .int .u32 4084100981] t frozen
      | o => o }
end Go.Proofs.YtpklcmocjimcpaaDoor

/-
  The journal's plain numbers: how many parts bytes have, where what lies on a disk. Conditions: the sizes.
-/
namespace Go.Proofs.YtpklcmocjimcpaaDoor
open Go.RowKit
set_option maxRecDepth 100000
set_option linter.unusedSimpArgs false
set_option linter.unusedVariables false
/-- how many parts so many bytes have -/
def partsOf (n : Nat) : Nat := (n + 105) / 106
def areaOf (n : Nat) : Nat := (n - 2) / 3
def logOf (n : Nat) : Nat := n - 2 - 2 * areaOf n
theorem partsOf_pos {n : Nat} (h : 0 < n) : partsOf n = (n - 1) / 106 + 1 := by unfold partsOf; omega
theorem parts_num (n : Nat) (h : 0 < n) : ((n : Int) - 1) / 106 + 1 = (partsOf n : Int) := by rw [partsOf_pos h]; omega
theorem area_num (n : Nat) (h : 2 ≤ n) : ((n : Int) - 2) / 3 = (areaOf n : Int) := by unfold areaOf; omega
theorem area_le (n : Nat) (h : 2 ≤ n) : 2 * areaOf n ≤ n - 2 := by unfold areaOf; omega
theorem log_num (n : Nat) (h : 2 ≤ n) : (n : Int) - 2 - 2 * (areaOf n : Int) = (logOf n : Int) := by have := area_le n h; unfold logOf; omega
theorem jparts_any (n : Nat) (w : World) (hn : n ≤ 9223372036854775807) : Calls Tryd.prog 29 #[.int .i64 n] w fun e w' => e = .returned (.int .i64 (partsOf n)) ∧ w = w' := by
  by_cases h0 : n = 0
  · subst h0
    go_enter Tryd.func29, Tryd.ntmps29
    go_wp2
    go_ret
    exact ⟨rfl, rfl⟩
  · have hd : ((n : Int) == 0) = false := by simp; omega
    have h1 := parts_num n (by omega)
    have h2 : 0 ≤ (n : Int) - 1 := by omega
    go_enter Tryd.func29, Tryd.ntmps29
    go_wp2
    go_ret
    exact ⟨rfl, rfl⟩
theorem layoutOf_any (n : Nat) (w : World) (h2 : 2 ≤ n) (hn : n ≤ 4096) : Calls Tryd.prog 28 #[.int .i64 n] w fun e w' => e = .returned (.agg #[.int .i64 (areaOf n), .int .i64 (logOf n)]) ∧ Below w.heap.size w w' := by
  have h1 := area_num n h2
  have h3 := log_num n h2
  have h4 : 0 ≤ (n : Int) - 2 := by omega
  go_enter Tryd.func28, Tryd.ntmps28
  go_wp2
  refine bodyPost_ret (results_cell_row rfl _ _ w.heap.size 64 _ (0, 0) _ rfl (Blk.new w _ _) Tryd.underlying64 rfl (by kernel_rfl)) rfl ?_
  exact ⟨rfl, (Below.refl _ _).alloc (Nat.le_refl _) _⟩
theorem topAt_any (g : Nat) (w : World) : Calls Tryd.prog 49 #[.int .i64 g] w fun e w' => e = .returned (.int .i64 (g % 2 : Nat)) ∧ w = w' := by
  go_enter Tryd.func49, Tryd.ntmps49
  go_wp2
  go_ret
  exact ⟨ret_int (by omega), rfl⟩
def stateAt (n g : Nat) : Nat := 2 + g % 2 * areaOf n
def logAt (n : Nat) : Nat := 2 + 2 * areaOf n
theorem area_small {n : Nat} (h : n ≤ 4096) : areaOf n ≤ 1365 := by unfold areaOf; omega
theorem stateAt_any (n g : Nat) (w : World) (hn : n ≤ 4096) : Calls Tryd.prog 48 #[.agg #[.int .i64 (areaOf n), .int .i64 (logOf n)], .int .i64 g] w fun e w' => e = .returned (.int .i64 (stateAt n g)) ∧ Below w.heap.size w w' := by
  have h1 := area_small hn
  have h2 : (g : Int) % 2 * (areaOf n : Int) = ((g % 2 * areaOf n : Nat) : Int) := by push_cast; rfl
  have h3 : g % 2 * areaOf n ≤ 1365 := by
    have : g % 2 = 0 ∨ g % 2 = 1 := by omega
    rcases this with h | h <;> rw [h] <;> omega
  unfold stateAt
  generalize hm : g % 2 * areaOf n = m at *
  go_enter Tryd.func48, Tryd.ntmps48
  go_wp2
  go_ret
  exact ⟨ret_int (by omega), (Below.refl _ _).alloc (Nat.le_refl _) _⟩
theorem logAt_any (n : Nat) (w : World) (hn : n ≤ 4096) : Calls Tryd.prog 50 #[.agg #[.int .i64 (areaOf n), .int .i64 (logOf n)]] w fun e w' => e = .returned (.int .i64 (logAt n)) ∧ Below w.heap.size w w' := by
  have h1 := area_small hn
  go_enter Tryd.func50, Tryd.ntmps50
  go_wp2
  go_ret
  exact ⟨ret_int (by unfold logAt; omega), (Below.refl _ _).alloc (Nat.le_refl _) _⟩
def needOf (n : Nat) : Nat := if n = 0 then 0 else partsOf n + 1
theorem need_any (n : Nat) (w : World) (hn : n ≤ 9223372036854775807) : Calls Tryd.prog 23 #[.int .i64 n] w fun e w' => e = .returned (.int .i64 (needOf n)) ∧ w = w' := by
  by_cases h0 : n = 0
  · subst h0
    go_enter Tryd.func23, Tryd.ntmps23
    go_wp2
    go_ret
    exact ⟨rfl, rfl⟩
  · have hd : decide ((n : Int) ≤ 0) = false := by simp; omega
    have h1 : partsOf n ≤ 87012943743912981 := by unfold partsOf; omega
    go_enter Tryd.func23, Tryd.ntmps23
    go_wp2_with fail
    refine (jparts_any n w hn).mono ?_
    rintro e w' ⟨rfl, rfl⟩
    go_wp2
    go_ret
    exact ⟨ret_int (by unfold needOf; rw [if_neg h0]; omega), rfl⟩
theorem need_neg (n : Int) (w : World) (hn : n ≤ 0) : Calls Tryd.prog 23 #[.int .i64 n] w fun e w' => e = .returned (.int .i64 0) ∧ w = w' := by
  have hd : decide (n ≤ 0) = true := by simpa using hn
  go_enter Tryd.func23, Tryd.ntmps23
  go_wp2
  go_ret
  exact ⟨rfl, rfl⟩
/-- the document's own Need, where it is small -/
theorem rneed_any (n : Nat) (w : World) (hn : n ≤ 1000000) : Calls Tryd.prog 24 #[.int .i64 n] w fun e w' => e = .returned (.int .i64 (needOf n)) ∧ w = w' := by
  by_cases h0 : n = 0
  · subst h0
    go_enter Tryd.func24, Tryd.ntmps24
    go_wp2
    go_ret
    exact ⟨rfl, rfl⟩
  · have hd : decide ((n : Int) < 1) = false := by simp; omega
    go_enter Tryd.func24, Tryd.ntmps24
    go_wp2
    go_loop [0, 3] (fun b r => ∃ m k : Nat, b = .int .i64 m ∧ r = .int .i64 (k + 2 : Nat) ∧ 0 < m ∧ m + 106 * k = n) (fun b _ => (intOf b).toNat)
    case atStart => exact ⟨n, 0, rfl, rfl, by omega, by omega⟩
    case round =>
      obtain ⟨m, k, rfl, rfl, hm, hs⟩ := hrel
      by_cases hlt : 106 < m
      · have hd2 : decide (106 < (m : Int)) = true := by simp; omega
        go_wp2
        go_round
        case rel => exact ⟨m - 106, k + 1, by go_num, by go_num, by omega, by omega⟩
        case measure => simp [intOf]; omega
      · have hd2 : decide (106 < (m : Int)) = false := by simp; omega
        go_wp2
        go_ret
        exact ⟨ret_int (by unfold needOf; rw [if_neg h0]; unfold partsOf; omega), rfl⟩
end Go.Proofs.YtpklcmocjimcpaaDoor

/-
  A row of sectors is written to a disk, one by one, and made sure. Conditions: the disk lies where it is said to; the sectors lie in a block of their own; small numbers.
-/
namespace Go.Proofs.YtpklcmocjimcpaaDoor
open Go.RowKit
set_option maxRecDepth 100000
set_option linter.unusedSimpArgs false
set_option linter.unusedVariables false
def blkOf : Option Addr → List Nat
  | some a => [a.block]
  | none => []
theorem Keep.mono {X Y : List Nat} {w w' : World} (h : Keep X w w') (hs : ∀ k ∈ Y, k ∈ X) : Keep Y w w' := ⟨h.1, fun k hk => h.2 k (hs k hk)⟩
theorem Reads.blk {w w' : World} {B B' size n : Nat} {A : Option Addr} {xs : List Value} (h : Reads w B size A n xs) (hk : ∀ k ∈ blkOf A, w'.heap[k]? = w.heap[k]?) (hB : B ≤ B') : Reads w' B' size A n xs :=
  ⟨h.1, fun hn => by
    obtain ⟨ad, rfl, hb, hc⟩ := h.2 hn
    exact ⟨ad, rfl, by omega, fun j u hu => (World.cell?_of_block (by rw [block_of_add]; exact hk _ (by simp [blkOf]))).trans (hc j u hu)⟩⟩
theorem reads_sec {w : World} {B : Nat} {A : Option Addr} {ss : List Sec} (h : Reads w B 128 A ss.length (ss.flatMap Sec.cs)) {k : Nat} (hk : k < ss.length) :
    ∃ ad s, A = some ad ∧ ad.block < B ∧ ss[k]? = some s ∧ ∀ j u, s.cs[j]? = some u → w.cell? ((ad.add (k * 128)).add j) = some u := by
  obtain ⟨ad, e, hb, hc⟩ := h.2 (by omega)
  have hx : ss[k]? = some (ss[k]'hk) := List.getElem?_eq_getElem hk
  refine ⟨ad, _, e, hb, hx, fun j u hj => ?_⟩
  have hlt : j < 128 := by
    rcases Nat.lt_or_ge j 128 with h' | h'
    · exact h'
    · rw [List.getElem?_eq_none (by rw [Sec.cs_len]; omega)] at hj; cases hj
  rw [add_of_add]
  exact hc _ _ (by rw [flat_at Sec.cs 128 (fun s => s.cs_len) ss k j _ hx hlt]; exact hj)
/-- what is written, and made sure; an error's number -/
def DM.putRow : DM → Nat → List Sec → DM × Nat
  | d, _, [] => (d.flush, d.stepErr)
  | d, i, s :: ss => if d.writeErr i = 0 then (d.write i s).putRow (i + 1) ss else (d.write i s, d.writeErr i)
/-- small numbers, so many steps from here -/
structure Far (d : DM) (m : Nat) : Prop where
  steps : d.steps + m < 4611686018427387904
  left : d.left ≤ 9223372036854775807
  wait : d.wait.length + m ≤ 1000000
theorem Far.less {d : DM} {m n : Nat} (h : Far d m) (hn : n ≤ m) : Far d n := ⟨by have := h.steps; omega, h.left, by have := h.wait; omega⟩
theorem Far.step {d : DM} {m : Nat} (h : Far d (m + 1)) : Far d.step m := by
  have h1 := h.steps
  have h2 := h.left
  have h3 := h.wait
  unfold DM.step
  split
  · exact ⟨by show d.steps + m < _; omega, h2, by show d.wait.length + m ≤ _; omega⟩
  · refine ⟨by show d.steps + 1 + m < _; omega, ?_, by show d.wait.length + m ≤ _; omega⟩
    show (if d.armed then d.left - 1 else d.left) ≤ _
    split <;> omega
theorem Far.write {d : DM} {m : Nat} (h : Far d (m + 1)) (i : Int) (s : Sec) : Far (d.write i s) m := by
  unfold DM.write
  split
  · split
    · exact h.step
    · have e := h.step
      have h3 := h.wait
      exact ⟨e.steps, e.left, by show (d.wait ++ [(i, s)]).length + m ≤ _; simp; omega⟩
  · exact h.less (Nat.le_succ m)
set_option maxRecDepth 100000 in
set_option maxHeartbeats 2000000 in
theorem rowPut_any {w0 w : World} {g : Nat} {d : DM} {X : List Nat} (h : Holds w0 w g d X) (A : Option Addr) (c i : Nat) (ss : List Sec) (hA : ∀ k ∈ blkOf A, k ∈ X) (hR : Reads w w.heap.size 128 A ss.length (ss.flatMap Sec.cs)) (hf : Far d (ss.length + 1)) (hi : i + ss.length ≤ 1000000) :
    Calls Tryd.prog 44 #[.agg #[.int .i64 i, .slice A ss.length c], .pointer (some ⟨g, 0, none⟩)] w fun e w' => e = .returned (errV (d.putRow i ss).2) ∧ Holds w0 w' g (d.putRow i ss).1 X ∧ Keep X w w' := by
  have H0 := Lib.hid (h.push (.cells #[.int .i64 i, .slice A ss.length c] 71))
  have hXl : ∀ k ∈ X, k < w.heap.size := by obtain ⟨F, h1, h2, h3⟩ := h; exact fun k hk => (h3 k hk).2
  have B0 := Lib.hid (Blk.new w 71 #[.int .i64 i, .slice A ss.length c])
  have K0 := Lib.hid (Keep.below ((Below.refl _ _).alloc (Nat.le_refl _) (.cells #[.int .i64 i, .slice A ss.length c] 71)) hXl)
  have HR := Lib.hid hR
  have HA := Lib.hid hA
  have HX := Lib.hid hXl
  clear h hR hA hXl
  obtain ⟨Zs, hz6, hzl⟩ : ∃ Zs : List Value, (∀ w, (zeroValue 90).run Tryd.prog w = .ok (.agg Zs.toArray) w) ∧ Zs.length = 128 := ⟨_, sec_zero, Sec.cs_len _⟩
  have hus := Tryd.underlying90
  have hib : ∀ s : Sec, (Tryd.prog.info? 90).map (·.size) = some s.cs.length := fun s => by rw [Sec.cs_len]; exact sec_size
  go_enter Tryd.func44, Tryd.ntmps44
  go_wp2_with fail
  generalize hw1 : w.alloc (.cells #[.int .i64 i, .slice A ss.length c] 71) = w1 at *
  go_loopg [11] ss.length (fun gk j wr => ∃ (k : Nat) (d' : DM), k ≤ ss.length ∧ gk = ss.length - k ∧ j = .int .i64 k ∧ Holds w0 wr g d' (w.heap.size :: X) ∧ Keep (w.heap.size :: X) w1 wr ∧ d'.putRow (i + k) (ss.drop k) = d.putRow i ss ∧ Far d' (ss.length - k + 1))
  case atStart => exact ⟨0, d, by omega, by omega, rfl, H0.out, ⟨Nat.le_refl _, fun _ _ => rfl⟩, by simp, by simpa using hf⟩
  case round =>
    obtain ⟨k, d', hk, rfl, rfl, hd, hkp, hpr, hfar⟩ := hrel
    by_cases hlt : k < ss.length
    · have hR1 : Reads wr wr.heap.size 128 A ss.length (ss.flatMap Sec.cs) := HR.out.blk (fun q hq => by
        have := HA.out q hq
        rw [hkp.2 q (by simp [this])]
        exact K0.out.2 q this) (Nat.le_trans K0.out.1 hkp.1)
      obtain ⟨ad, s, rfl, hadb, hs, hc⟩ := reads_sec hR1 hlt
      have hdrop : ss.drop k = s :: ss.drop (k + 1) := by
        rw [List.drop_eq_getElem_cons hlt]
        congr 1
        exact Option.some.inj ((List.getElem?_eq_getElem hlt).symm.trans hs)
      have hunf : (d'.putRow (i + k) (ss.drop k)) = if d'.writeErr (i + k : Nat) = 0 then (d'.write (i + k : Nat) s).putRow (i + k + 1) (ss.drop (k + 1)) else (d'.write (i + k : Nat) s, d'.writeErr (i + k : Nat)) := by
        rw [hdrop]; rfl
      rw [hpr] at hunf
      have hfar' : Far d' ((ss.length - (k + 1) + 1) + 1) := hfar.less (by omega)
      have hfw := hfar'.write ((i + k : Nat) : Int) s
      have BX := Lib.hid (Blk.new wr 90 s.cs.toArray)
      have DX := Lib.hid (hd.push (.cells s.cs.toArray 90))
      have BR := Lib.hid ((hkp.blk (by simp) B0.out).alloc (.cells s.cs.toArray 90))
      have hlr := (hkp.blk (by simp) B0.out).lt
      have hX1 : ∀ q ∈ w.heap.size :: X, q < wr.heap.size := by
        intro q hq
        rcases List.mem_cons.1 hq with rfl | hq
        · exact hlr
        · exact Nat.lt_of_lt_of_le (HX.out q hq) (Nat.le_trans K0.out.1 hkp.1)
      have KX := Lib.hid (hkp.trans (Keep.below ((Below.refl _ _).alloc (Nat.le_refl _) (.cells s.cs.toArray 90)) hX1))
      have q0 : (wr.alloc (.cells s.cs.toArray 90)).cell? ⟨w.heap.size, 0, none⟩ = some (.int .i64 i) := BR.out.cell 0
      have hsum : ((i + k : Nat) : Int) = (i : Int) + (k : Int) := by omega
      rw [hsum] at hunf hfw
      have HUN := Lib.hid hunf
      have HFW := Lib.hid hfw
      have hst := hfar.steps
      have hlf := hfar.left
      have hwt := hfar.wait
      clear hd hkp hpr hfar hR1 hs hdrop hunf hfw hX1 hfar' hsum
      go_wp2_with (first
        | (refine wpList_load_at rfl 90 (.tmp 14) rfl _ rfl s.cs _ hc hus rfl (hib s) ?_)
        | (refine wpList_store_newN rfl 90 (.tmp 6) (.tmp 15) rfl wr.heap.size rfl s.cs Zs.toArray rfl rfl (hib s) (by simp [Sec.cs_len, hzl]) s.one ?_)
        | (refine wpList_load_mid rfl 90 (.tmp 6) rfl wr.heap.size 0 rfl s.cs _ BX.out.range hus rfl (hib s) ?_))
      refine (hold_write DX.out ((i : Int) + (k : Int)) s (by omega) hlf (by omega)).mono ?_
      rintro e w6 ⟨rfl, h6, k6⟩
      have H6 := Lib.hid (h6.mono (Y := w.heap.size :: X) (fun q hq => List.mem_cons_of_mem _ hq))
      have K6 := Lib.hid (KX.out.trans (k6.mono (Y := w.heap.size :: X) (fun q hq => List.mem_cons_of_mem _ hq)))
      clear h6 k6 q0
      cases hwe : d'.writeErr ((i : Int) + (k : Int)) with
      | zero =>
        have HWE := Lib.hid hwe
        clear hwe
        simp only [errV]
        go_wp2
        go_roundg (ss.length - (k + 1))
        case measure => omega
        case rel =>
          refine ⟨k + 1, _, by omega, rfl, by go_num, H6.out, K6.out, ?_, HFW.out⟩
          rw [HUN.out, if_pos HWE.out]
          rfl
      | succ n =>
        have HWE := Lib.hid hwe
        clear hwe
        simp only [errV]
        go_wp2
        go_ret
        have e := HUN.out
        rw [if_neg (by rw [HWE.out]; omega)] at e
        rw [e]
        refine ⟨by rw [HWE.out]; rfl, H6.out.mono (fun q hq => List.mem_cons_of_mem _ hq), K0.out.trans (K6.out.mono (fun q hq => List.mem_cons_of_mem _ hq))⟩
    · obtain rfl : k = ss.length := by omega
      rw [List.drop_length] at hpr
      have hse : d.putRow i ss = (d'.flush, d'.stepErr) := hpr.symm
      have hst := hfar.steps
      have hlf := hfar.left
      have hwt := hfar.wait
      have HD := Lib.hid hd
      clear hd
      go_wp2_with fail
      refine (hold_flush HD.out (by omega) hlf (by omega)).mono ?_
      rintro e w6 ⟨rfl, h6, k6⟩
      have HS := Lib.hid hse
      have H6 := Lib.hid h6
      have K6 := Lib.hid k6
      clear h6 k6 hse
      go_wp2
      go_ret
      rw [HS.out]
      exact ⟨rfl, H6.out.mono (fun q hq => List.mem_cons_of_mem _ hq), K0.out.trans (Keep.mono (hkp.trans K6.out) (fun q hq => List.mem_cons_of_mem _ hq))⟩
end Go.Proofs.YtpklcmocjimcpaaDoor

/-
  A sector: its bytes, its type's facts, sectors held against each other, a sector as a result, bytes copied into the middle of one. No condition.
-/
namespace Go.Proofs.YtpklcmocjimcpaaDoor
open Go.RowKit
set_option maxRecDepth 100000
set_option linter.unusedSimpArgs false
set_option linter.unusedVariables false
theorem Sec.info (s : Sec) : (Tryd.prog.info? 90).map (·.size) = some s.cs.length := by rw [s.cs_len]; exact sec_size
theorem Sec.infoA (s : Sec) : (Tryd.prog.info? 90).map (·.size) = some s.cs.toArray.size := by rw [List.size_toArray]; exact s.info
theorem load_sec {w : World} {g : Nat} {s : Sec} (hg : Blk w g 90 s.cs.toArray) : (loadVar 90 ⟨g, 0, none⟩).run Tryd.prog w = .ok s.v w :=
  run_loadVar_row w g 90 90 s.cs.toArray (0, 0) _ hg Tryd.underlying90 rfl s.infoA
/-- a sector and a value, as a function's two results -/
theorem sec_results2 {fn : Func} {p u : Tmp} (h : fn.results = #[.cell p 90, .tmp u]) (tmps : Array Value) (w : World) (g : Nat) (s : Sec) (v : Value) (hp : tmps.getD p undef = .pointer (some ⟨g, 0, none⟩)) (hv : tmps.getD u undef = v) (hg : Blk w g 90 s.cs.toArray) :
    (results fn tmps).run Tryd.prog w = .ok (.tuple #[s.v, v]) w := by
  rw [results_cell_tmp h, hp, hv]
  simp [asAddr, load_sec hg, Result.andThen]
theorem sec_results1 {fn : Func} {p : Tmp} (h : fn.results = #[.cell p 90]) (tmps : Array Value) (w : World) (g : Nat) (s : Sec) (hp : tmps.getD p undef = .pointer (some ⟨g, 0, none⟩)) (hg : Blk w g 90 s.cs.toArray) :
    (results fn tmps).run Tryd.prog w = .ok s.v w :=
  results_cell_row h tmps w g 90 s.cs.toArray (0, 0) _ hp hg Tryd.underlying90 rfl s.infoA
/-- bytes copied into the middle of a block -/
theorem wp_copy_mid {o : Oper} {a : Act} {w : World} {K : Act → World → Prop} {Q : Exit → Act → World → Prop} (x y : Operand) (ho : o.op = .call { callee := .builtin .copy, args := #[x, y], argTypes := #[34, 34] })
    (gb off m mc : Nat) (t : TypeId) (cur : List Nat) (hg : Blk w gb t (u8s cur).toArray) (hx : a.eval x = .slice (some ⟨gb, off, none⟩) m mc) (A : Option Addr) (k c B : Nat) (bs : List Nat) (hy : a.eval y = .slice A k c) (hb : Bytes w B A k bs) (hk : k ≤ m) (hfit : off + k ≤ cur.length)
    (h : ∀ w', Blk w' gb t (u8s (cur.take off ++ bs ++ cur.drop (off + k))).toArray → Only [gb] w w' → K (a.put o.dst (goInt k)) w') : o.wp Tryd.prog a w K Q := by
  have hl : (u8s bs).length = k := by rw [u8s_length, hb.len]
  rcases Nat.eq_zero_or_pos k with h0 | hm
  · subst h0
    have hbs : bs = [] := List.eq_nil_of_length_eq_zero hb.len
    subst hbs
    have hrun := run_copy_none (P := Tryd.prog) w 34 34 o.type 5 (some ⟨gb, off, none⟩) A m mc 0 c Tryd.underlying34 byte_size1 (Nat.zero_min m)
    unfold Oper.wp
    simp [execOp, ho, resolve, invoke, builtin, hx, hy, hrun, Result.andThen]
    exact h w (by rw [List.append_nil, Nat.add_zero, List.take_append_drop]; exact hg) (Only.refl _ _)
  · obtain ⟨ad, rfl, hB, hc⟩ := hb.1.2 hm
    have hrun := run_copy_row (P := Tryd.prog) w 34 34 o.type 5 gb off m mc ad k c (u8s cur).toArray t (u8s bs) Tryd.underlying34 byte_size1 hg (by rw [hl]; exact (Nat.min_eq_left hk).symm) hc (by rw [hl]; simp [u8s]; omega) (oneCell_u8s _)
    unfold Oper.wp
    simp [execOp, ho, resolve, invoke, builtin, hx, hy, hrun, Result.andThen]
    rw [hl]
    refine h _ ?_ ?_
    · have := setRow_heap w gb (u8s cur).toArray ((u8s cur).take off ++ u8s bs ++ (u8s cur).drop (off + k)).toArray t (0, 0) hg
      unfold Blk
      have e : u8s (cur.take off ++ bs ++ cur.drop (off + k)) = (u8s cur).take off ++ u8s bs ++ (u8s cur).drop (off + k) := by simp [u8s, List.map_append, List.map_take, List.map_drop]
      rw [e]
      simpa using this
    · exact ⟨rfl, rfl, rfl, by simp [World.setRow], fun j hj hn => setRow_other w gb j _ (fun e => hn (by simp [e]))⟩
/-- bytes from the middle of a block on -/
theorem Blk.bytes {w : World} {g off n : Nat} {t : TypeId} {l : List Nat} (h : Blk w g t (u8s l).toArray) (hn : off + n ≤ l.length) (hl : ∀ b ∈ l, b < 256) : Bytes w w.heap.size (some ⟨g, off, none⟩) n ((l.drop off).take n) := by
  refine ⟨⟨by rw [u8s_length, List.length_take, List.length_drop]; omega, fun _ => ⟨_, rfl, h.lt, fun j u hu => ?_⟩⟩, fun b hb => hl b (List.mem_of_mem_drop (List.mem_of_mem_take hb))⟩
  have e : (⟨g, off, none⟩ : Addr).add j = ⟨g, off + j, none⟩ := by
    unfold Addr.add
    split
    · simp_all
    · simp
  rw [e, h.cell]
  simp only [u8s, List.map_take, List.map_drop] at hu
  rw [List.getElem?_take] at hu
  split at hu
  · rw [List.getElem?_drop] at hu
    simpa [u8s] using hu
  · cases hu
end Go.Proofs.YtpklcmocjimcpaaDoor

/-
  Boxes and their sectors, as the chapter tells them, in plain words of lists. No condition.
-/
namespace Go.Proofs.YtpklcmocjimcpaaDoor
open Go.RowKit
set_option maxRecDepth 100000
set_option linter.unusedSimpArgs false
set_option linter.unusedVariables false
theorem take_num (n : Int) (rest : List Nat) (h1 : -9223372036854775808 ≤ n) (h2 : n ≤ 9223372036854775807) : (⟨numB n ++ rest, false⟩ : RD).take 8 = ⟨rest, false⟩ ∧ (⟨numB n ++ rest, false⟩ : RD).num = n := by
  obtain ⟨e1, e2⟩ := RD.take_fit (s := ⟨numB n ++ rest, false⟩) (k := 8) rfl (by simp [numB_len])
  refine ⟨e1.trans (by rw [List.drop_left' (numB_len n)]), ?_⟩
  have : (⟨numB n ++ rest, false⟩ : RD).num = numOf ((⟨numB n ++ rest, false⟩ : RD).got 8) := rfl
  rw [this]
  exact (congrArg numOf (e2.trans (List.take_left' (numB_len n)))).trans (numOf_numB n h1 h2)
theorem take_bs (b rest : List Nat) : (⟨b ++ rest, false⟩ : RD).take (b.length : Nat) = ⟨rest, false⟩ ∧ (⟨b ++ rest, false⟩ : RD).got (b.length : Nat) = b := by
  obtain ⟨e1, e2⟩ := RD.take_fit (s := ⟨b ++ rest, false⟩) (k := b.length) rfl (by simp)
  exact ⟨e1.trans (by rw [List.drop_left' rfl]), e2.trans (List.take_left' rfl)⟩
theorem take_one (b : Nat) (rest : List Nat) : (⟨b :: rest, false⟩ : RD).take 1 = ⟨rest, false⟩ ∧ (⟨b :: rest, false⟩ : RD).byte = b := by
  have h := take_bs [b] rest
  refine ⟨h.1, ?_⟩
  have : (⟨b :: rest, false⟩ : RD).byte = ((⟨b :: rest, false⟩ : RD).got 1).headD 0 := rfl
  rw [this, show (⟨b :: rest, false⟩ : RD).got 1 = [b] from h.2]
  rfl
def isBoxB (k g n : Int) : Bool := decide (1 ≤ k ∧ k ≤ 255 ∧ 0 ≤ g ∧ g ≤ 4611686018427387904 ∧ 0 ≤ n ∧ n ≤ 2147483647)
def headOf (k g n : Int) (m : Nat) : List Nat := [(k % 256).toNat] ++ numB g ++ numB n ++ [m]
theorem headOf_len (k g n : Int) (m : Nat) : (headOf k g n m).length = 18 := by simp [headOf, numB_len]
def bodyOf (k g n : Int) (d : List Nat) : List Nat := headOf k g n d.length ++ d ++ List.replicate (106 - d.length) 0
theorem bodyOf_len (k g n : Int) (d : List Nat) (h : d.length ≤ 106) : (bodyOf k g n d).length = 124 := by simp [bodyOf, headOf_len]; omega
theorem headOf_lt (k g n : Int) (m : Nat) (hm : m < 256) : ∀ b ∈ headOf k g n m, b < 256 := by
  intro b hb
  simp only [headOf, List.mem_append, List.mem_singleton] at hb
  rcases hb with ((rfl | hb) | hb) | rfl
  · omega
  · exact numB_lt _ b hb
  · exact numB_lt _ b hb
  · exact hm
theorem bodyOf_lt (k g n : Int) (d : List Nat) (h : d.length ≤ 106) (hd : ∀ b ∈ d, b < 256) : ∀ b ∈ bodyOf k g n d, b < 256 := by
  intro b hb
  simp only [bodyOf, List.mem_append, List.mem_replicate] at hb
  rcases hb with (hb | hb) | ⟨_, rfl⟩
  · exact headOf_lt k g n d.length (by omega) b hb
  · exact hd b hb
  · omega
def sealL (k g n : Int) (d : List Nat) : List Nat := le 4 (Crc.sum (bodyOf k g n d)) ++ bodyOf k g n d
theorem sealL_len (k g n : Int) (d : List Nat) (h : d.length ≤ 106) : (sealL k g n d).length = 128 := by simp [sealL, le_len, bodyOf_len k g n d h]
theorem sealL_lt (k g n : Int) (d : List Nat) (h : d.length ≤ 106) (hd : ∀ b ∈ d, b < 256) : ∀ b ∈ sealL k g n d, b < 256 := by
  intro b hb
  rcases List.mem_append.1 hb with hb | hb
  · exact le_lt _ _ b hb
  · exact bodyOf_lt k g n d h hd b hb
def sealSec (k g n : Int) (d : List Nat) (h : d.length ≤ 106) (hd : ∀ b ∈ d, b < 256) : Sec := ⟨sealL k g n d, sealL_len k g n d h, sealL_lt k g n d h hd⟩
/-- what a sector tells -/
def told0 (l : List Nat) : RD := ⟨l.drop 4, false⟩
def told1 (l : List Nat) : RD := (told0 l).take 1
def told2 (l : List Nat) : RD := (told1 l).take 8
def told3 (l : List Nat) : RD := (told2 l).take 8
def tK (l : List Nat) : Int := ((told0 l).byte : Nat)
def tG (l : List Nat) : Int := (told1 l).num
def tN (l : List Nat) : Int := (told2 l).num
def tC (l : List Nat) : Nat := (told3 l).byte
def tD (l : List Nat) : List Nat := (l.drop 22).take (min (tC l) 106)
theorem tD_len (l : List Nat) : (tD l).length ≤ 106 := by unfold tD; rw [List.length_take]; omega
theorem tD_len' (l : List Nat) (h : l.length = 128) : (tD l).length = min (tC l) 106 := by unfold tD; rw [List.length_take, List.length_drop]; omega
theorem tD_lt (l : List Nat) (h : ∀ b ∈ l, b < 256) : ∀ b ∈ tD l, b < 256 := fun b hb => h b (List.mem_of_mem_drop (List.mem_of_mem_take hb))
def isSealed (l : List Nat) : Bool := isBoxB (tK l) (tG l) (tN l) && (sealL (tK l) (tG l) (tN l) (tD l) == l)
theorem told_seal (k g n : Int) (d : List Nat) (hb : isBoxB k g n = true) (h : d.length ≤ 106) : tK (sealL k g n d) = k ∧ tG (sealL k g n d) = g ∧ tN (sealL k g n d) = n ∧ tC (sealL k g n d) = d.length ∧ tD (sealL k g n d) = d := by
  simp only [isBoxB, decide_eq_true_eq] at hb
  obtain ⟨h1, h2, h3, h4, h5, h6⟩ := hb
  have e0 : told0 (sealL k g n d) = ⟨(k % 256).toNat :: (numB g ++ (numB n ++ (d.length :: (d ++ List.replicate (106 - d.length) 0)))), false⟩ := by
    unfold told0 sealL
    rw [List.drop_left' (le_len 4 _)]
    simp [bodyOf, headOf]
  obtain ⟨a1, a2⟩ := take_one (k % 256).toNat (numB g ++ (numB n ++ (d.length :: (d ++ List.replicate (106 - d.length) 0))))
  obtain ⟨b1, b2⟩ := take_num g (numB n ++ (d.length :: (d ++ List.replicate (106 - d.length) 0))) (by omega) (by omega)
  obtain ⟨c1, c2⟩ := take_num n (d.length :: (d ++ List.replicate (106 - d.length) 0)) (by omega) (by omega)
  obtain ⟨d1, d2⟩ := take_one d.length (d ++ List.replicate (106 - d.length) 0)
  have e1 : told1 (sealL k g n d) = _ := (congrArg (fun s => RD.take s 1) e0).trans a1
  have e2 : told2 (sealL k g n d) = _ := (congrArg (fun s => RD.take s 8) e1).trans b1
  have e3 : told3 (sealL k g n d) = _ := (congrArg (fun s => RD.take s 8) e2).trans c1
  have hC : tC (sealL k g n d) = d.length := (congrArg RD.byte e3).trans d2
  refine ⟨?_, (congrArg RD.num e1).trans b2, (congrArg RD.num e2).trans c2, hC, ?_⟩
  · show (((told0 (sealL k g n d)).byte : Nat) : Int) = k
    rw [e0, a2]
    omega
  · unfold tD
    rw [hC, Nat.min_eq_left h]
    have : (sealL k g n d).drop 22 = d ++ List.replicate (106 - d.length) 0 := by
      unfold sealL bodyOf
      rw [show (22 : Nat) = 4 + 18 from rfl, ← List.drop_drop, List.drop_left' (le_len 4 _), List.append_assoc, List.drop_left' (headOf_len k g n _)]
    rw [this, List.take_left' rfl]
theorem isSealed_seal (k g n : Int) (d : List Nat) (hb : isBoxB k g n = true) (h : d.length ≤ 106) : isSealed (sealL k g n d) = true := by
  obtain ⟨h1, h2, h3, h4, h5⟩ := told_seal k g n d hb h
  unfold isSealed
  rw [h1, h2, h3, h5, hb]
  simp
theorem sealed_eq (l : List Nat) (h : isSealed l = true) : sealL (tK l) (tG l) (tN l) (tD l) = l ∧ isBoxB (tK l) (tG l) (tN l) = true := by
  simp only [isSealed, Bool.and_eq_true, beq_iff_eq] at h
  exact ⟨h.2, h.1⟩
theorem sealed_count (l : List Nat) (h : isSealed l = true) : tC l ≤ 106 := by
  obtain ⟨h1, h2⟩ := sealed_eq l h
  have := (told_seal _ _ _ (tD l) h2 (tD_len l)).2.2.2.1
  rw [h1] at this
  rw [this]
  exact tD_len l
theorem seal_inj (k g n k' g' n' : Int) (d d' : List Nat) (hb : isBoxB k g n = true) (hb' : isBoxB k' g' n' = true) (h : d.length ≤ 106) (h' : d'.length ≤ 106) (he : sealL k g n d = sealL k' g' n' d') : k = k' ∧ g = g' ∧ n = n' ∧ d = d' := by
  obtain ⟨a1, a2, a3, a4, a5⟩ := told_seal k g n d hb h
  obtain ⟨b1, b2, b3, b4, b5⟩ := told_seal k' g' n' d' hb' h'
  rw [he] at a1 a2 a3 a5
  exact ⟨a1.symm.trans b1, a2.symm.trans b2, a3.symm.trans b3, a5.symm.trans b5⟩
theorem xor_zero_of {a b : Nat} (h : a ^^^ b = a) : b = 0 := by
  have : a ^^^ (a ^^^ b) = a ^^^ a := by rw [h]
  rwa [← Nat.xor_assoc, Nat.xor_self, Nat.zero_xor] at this
theorem set_far (t u : List Nat) (j : Nat) (h : u[j]? = t[j]?) : u.set j (t.getD j 0 ^^^ 0) = u := by
  apply List.ext_getElem?
  intro i
  rw [List.getElem?_set]
  by_cases hj : j = i
  · subst hj
    rw [if_pos rfl]
    by_cases hl : j < u.length
    · have hl' : j < t.length := by
        rcases Nat.lt_or_ge j t.length with h' | h'
        · exact h'
        · rw [List.getElem?_eq_none h', List.getElem?_eq_getElem hl] at h; cases h
      rw [if_pos hl, h, List.getD_eq_getElem?_getD, List.getElem?_eq_getElem hl']
      simp
    · rw [if_neg hl, List.getElem?_eq_none (by omega)]
  · rw [if_neg hj]
theorem chg_low (t : List Nat) (k c : Nat) (hc : c < 256) : Crc.chg t k c 4 = t.set k (t.getD k 0 ^^^ c) := by
  have p0 : Crc.part c 0 = c := by simp [Crc.part]; omega
  have p1 : Crc.part c 1 = 0 := by unfold Crc.part; rw [Nat.div_eq_of_lt (by omega)]
  have p2 : Crc.part c 2 = 0 := by unfold Crc.part; rw [Nat.div_eq_of_lt (by omega)]
  have p3 : Crc.part c 3 = 0 := by unfold Crc.part; rw [Nat.div_eq_of_lt (by omega)]
  simp only [Crc.chg, p0, p1, p2, p3, Nat.add_zero]
  rw [set_far t _ (k + 1) (by rw [List.getElem?_set_ne (by omega)]), set_far t _ (k + 2) (by rw [List.getElem?_set_ne (by omega)]), set_far t _ (k + 3) (by rw [List.getElem?_set_ne (by omega)])]
theorem chg_high (t : List Nat) (k m c : Nat) (hc : c < 256) (hm : m = 1 ∨ m = 2 ∨ m = 3) : Crc.chg t k (c * 256 ^ m) 4 = t.set (k + m) (t.getD (k + m) 0 ^^^ c) := by
  rcases hm with rfl | rfl | rfl
  · have p0 : Crc.part (c * 256 ^ 1) 0 = 0 := by simp [Crc.part]
    have p1 : Crc.part (c * 256 ^ 1) 1 = c := by simp [Crc.part]; omega
    have p2 : Crc.part (c * 256 ^ 1) 2 = 0 := by unfold Crc.part; rw [Nat.div_eq_of_lt (by omega)]
    have p3 : Crc.part (c * 256 ^ 1) 3 = 0 := by unfold Crc.part; rw [Nat.div_eq_of_lt (by omega)]
    simp only [Crc.chg, p0, p1, p2, p3, Nat.add_zero]
    rw [set_far t t k rfl, set_far t _ (k + 2) (by rw [List.getElem?_set_ne (by omega)]), set_far t _ (k + 3) (by rw [List.getElem?_set_ne (by omega)])]
  · have p0 : Crc.part (c * 256 ^ 2) 0 = 0 := by unfold Crc.part; omega
    have p1 : Crc.part (c * 256 ^ 2) 1 = 0 := by unfold Crc.part; omega
    have p2 : Crc.part (c * 256 ^ 2) 2 = c := by unfold Crc.part; omega
    have p3 : Crc.part (c * 256 ^ 2) 3 = 0 := by unfold Crc.part; rw [Nat.div_eq_of_lt (by omega)]
    simp only [Crc.chg, p0, p1, p2, p3, Nat.add_zero]
    rw [set_far t t k rfl, set_far t t (k + 1) rfl, set_far t _ (k + 3) (by rw [List.getElem?_set_ne (by omega)])]
  · have p0 : Crc.part (c * 256 ^ 3) 0 = 0 := by unfold Crc.part; omega
    have p1 : Crc.part (c * 256 ^ 3) 1 = 0 := by unfold Crc.part; omega
    have p2 : Crc.part (c * 256 ^ 3) 2 = 0 := by unfold Crc.part; omega
    have p3 : Crc.part (c * 256 ^ 3) 3 = c := by unfold Crc.part; omega
    simp only [Crc.chg, p0, p1, p2, p3, Nat.add_zero]
    rw [set_far t t k rfl, set_far t t (k + 1) rfl, set_far t t (k + 2) rfl]
theorem one_byte (t : List Nat) (j c : Nat) (ht : t.length = 124) (hj : j < 124) (h0 : 0 < c) (hc : c < 256) (hb : ∀ b ∈ t, b < 256) : Crc.sum (t.set j (t.getD j 0 ^^^ c)) ≠ Crc.sum t := by
  by_cases h : j ≤ 120
  · rw [← chg_low t j c hc]
    exact Crc.finds_chg t j c (by omega) h0 (by omega) hb
  · obtain ⟨m, hm, rfl⟩ : ∃ m, (m = 1 ∨ m = 2 ∨ m = 3) ∧ j = 120 + m := ⟨j - 120, by omega, by omega⟩
    rw [← chg_high t 120 m c hc hm]
    refine Crc.finds_chg t 120 _ (by omega) (Nat.mul_pos h0 (Nat.pow_pos (by omega))) ?_ hb
    rcases hm with rfl | rfl | rfl <;> omega
/-- a sector with one byte changed is no box's -/
theorem turned (k g n : Int) (d : List Nat) (h : d.length ≤ 106) (hd : ∀ b ∈ d, b < 256) (i c : Nat) (hi : i < 128) (h0 : 0 < c) (hc : c < 256) : isSealed ((sealL k g n d).set i ((sealL k g n d).getD i 0 ^^^ c)) = false := by
  cases hs : isSealed ((sealL k g n d).set i ((sealL k g n d).getD i 0 ^^^ c)) with
  | false => rfl
  | true =>
    exfalso
    obtain ⟨h1, h2⟩ := sealed_eq _ hs
    generalize hl' : (sealL k g n d).set i ((sealL k g n d).getD i 0 ^^^ c) = l' at *
    have hlen := sealL_len k g n d h
    have hbody := bodyOf_len k g n d h
    have hdl : l'.drop 4 = bodyOf (tK l') (tG l') (tN l') (tD l') := by
      conv => lhs; rw [← h1]
      unfold sealL
      rw [List.drop_left' (le_len 4 _)]
    have htl : l'.take 4 = le 4 (Crc.sum (bodyOf (tK l') (tG l') (tN l') (tD l'))) := by
      conv => lhs; rw [← h1]
      unfold sealL
      rw [List.take_left' (le_len 4 _)]
    rcases Nat.lt_or_ge i 4 with h4 | h4
    · have e : l'.drop 4 = bodyOf k g n d := by
        rw [← hl', List.drop_set_of_lt h4]
        unfold sealL
        rw [List.drop_left' (le_len 4 _)]
      rw [← hdl, e] at htl
      have e2 : l' = sealL k g n d := by
        rw [← List.take_append_drop 4 l', htl, e]
        rfl
      have e3 : l'[i]? = some ((sealL k g n d).getD i 0 ^^^ c) := by
        rw [← hl', List.getElem?_set_self (by omega)]
      rw [e2] at e3
      have e4 : (sealL k g n d)[i]? = some ((sealL k g n d).getD i 0) := by
        rw [List.getD_eq_getElem?_getD, List.getElem?_eq_getElem (by omega)]
        rfl
      rw [e4] at e3
      injection e3 with e3
      have := xor_zero_of e3.symm
      omega
    · have e : l'.drop 4 = (bodyOf k g n d).set (i - 4) ((bodyOf k g n d).getD (i - 4) 0 ^^^ c) := by
        rw [← hl', List.drop_set, if_neg (by omega)]
        have : (sealL k g n d).drop 4 = bodyOf k g n d := by unfold sealL; rw [List.drop_left' (le_len 4 _)]
        rw [this]
        congr 2
        unfold sealL
        rw [List.getD_eq_getElem?_getD, List.getD_eq_getElem?_getD, List.getElem?_append_right (by rw [le_len]; omega), le_len]
      have et : l'.take 4 = le 4 (Crc.sum (bodyOf k g n d)) := by
        rw [← hl', List.take_set_of_le h4]
        unfold sealL
        rw [List.take_left' (le_len 4 _)]
      rw [et, ← hdl, e] at htl
      have hsum := congrArg un htl
      have hs1 : Crc.sum (bodyOf k g n d) < 256 ^ 4 := Crc.go_lt _ _
      have hs2 : Crc.sum ((bodyOf k g n d).set (i - 4) ((bodyOf k g n d).getD (i - 4) 0 ^^^ c)) < 256 ^ 4 := Crc.go_lt _ _
      rw [un_le 4 _ hs1, un_le 4 _ hs2] at hsum
      exact one_byte (bodyOf k g n d) (i - 4) c hbody (by omega) h0 hc (bodyOf_lt k g n d h hd) hsum.symm
end Go.Proofs.YtpklcmocjimcpaaDoor
