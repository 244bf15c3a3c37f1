/-
  Stores: clients and names. Conditions: a name's signs are bytes.
-/
import Derived.Test.YtncpcemcdmolcaaGreatZa
import Derived.Lib.ConvBytes
import Derived.BigQuiet
import Derived.Great.FillDense
import Derived.Laws.Tables
import Derived.Great.BuildSlice
import Derived.KernelRfl
import Derived.Deep.WholeRow

namespace Go.Proofs.YtncpcemcdmolcaaGreat
open Go.RowKit Go.BigFrame
set_option linter.unusedSimpArgs false
set_option linter.unusedVariables false
set_option maxRecDepth 100000
theorem strOf_size (bs : List Nat) : (strOf bs).size = bs.length := by simp [strOf, strOfNums_size]
/-- a string as new bytes -/
theorem conv_str (w : World) (bs : List Nat) (hb : ∀ b ∈ bs, b < 256) : ∃ cap w', (convert 9 22 (.string (strOf bs))).run Tryz.prog w = .ok (.slice (some ⟨w.heap.size, 0, none⟩) bs.length cap) w' ∧ Below w.heap.size w w' ∧ Bytes w' (w.heap.size + 1) (some ⟨w.heap.size, 0, none⟩) bs.length bs := by
  have h := Lib.run_convert_string_bytes (P := Tryz.prog) w 9 22 5 (strOf bs) Tryz.underlying9 Tryz.underlying22 Tryz.underlying5
  rw [strOf_size] at h
  refine ⟨_, _, h, ⟨rfl, rfl, rfl, by rw [Lib.bytesWorld_size]; omega, fun i hi => Lib.bytesWorld_at_old _ _ _ _ hi⟩, ⟨⟨by simp [u8s], fun hn => ⟨_, rfl, Nat.lt_succ_self _, fun j u hu => ?_⟩⟩, hb⟩⟩
  have hj : j < bs.length := by
    rcases Nat.lt_or_ge j bs.length with h' | h'
    · exact h'
    · rw [List.getElem?_eq_none (by rw [u8s_length]; exact h')] at hu; cases hu
  rw [add_zero_off, Lib.bytesWorld_cell _ _ _ _ (by rw [strOf_size]; exact hj), ← hu]
  have hbj := hb _ (List.getElem_mem hj)
  simp [strOf, strOfNums_data, u8s, u8, hj]
  omega
/-- a sign that a name may have -/
def okChar (b : Nat) : Bool := decide (33 ≤ b) && decide (b ≤ 126)
def isNameB (bs : List Nat) : Bool := decide (1 ≤ bs.length) && decide (bs.length ≤ 32) && bs.all okChar
def isClientB (n : Int) : Bool := decide (0 ≤ n) && decide (n < 8)
theorem isClient_any (n : Int) (w : World) : Calls Tryz.prog 45 #[.int .i64 n] w fun e w' => e = .returned (.bool (isClientB n)) ∧ w = w' := by
  unfold isClientB
  by_cases h1 : 0 ≤ n
  · have hd1 : decide ((0 : Int) ≤ n) = true := decide_eq_true h1
    by_cases h2 : n < 8
    · have hd2 : decide (n < (8 : Int)) = true := decide_eq_true h2
      go_enter Tryz.func45, Tryz.ntmps45
      go_wp2
      go_ret
      exact ⟨by simp [hd1, hd2], rfl⟩
    · have hd2 : decide (n < (8 : Int)) = false := decide_eq_false h2
      go_enter Tryz.func45, Tryz.ntmps45
      go_wp2
      go_ret
      exact ⟨by simp [hd1, hd2], rfl⟩
  · have hd1 : decide ((0 : Int) ≤ n) = false := decide_eq_false h1
    go_enter Tryz.func45, Tryz.ntmps45
    go_wp2
    go_ret
    exact ⟨by simp [hd1], rfl⟩
theorem odd_any (b : Nat) (hb : b < 256) (w : World) : Calls Tryz.prog 83 #[.int .u8 (b : Int)] w fun e w' => e = .returned (.bool (!okChar b)) ∧ w = w' := by
  unfold okChar
  by_cases h1 : b < 33
  · have hd1 : decide ((b : Int) < 33) = true := decide_eq_true (by omega)
    have hd1' : decide (b < 33) = true := decide_eq_true h1
    have hr : (!(decide (33 ≤ b) && decide (b ≤ 126))) = true := by simp; omega
    go_enter Tryz.func83, Tryz.ntmps83
    go_wp2
    go_ret
    exact ⟨by rw [hr]; rfl, rfl⟩
  · have hd1 : decide ((b : Int) < 33) = false := decide_eq_false (by omega)
    have hd1' : decide (b < 33) = false := decide_eq_false h1
    by_cases h2 : 126 < b
    · have hd2 : decide ((126 : Int) < (b : Int)) = true := decide_eq_true (by omega)
      have hd2' : decide (126 < b) = true := decide_eq_true h2
      have hr : (!(decide (33 ≤ b) && decide (b ≤ 126))) = true := by simp; omega
      go_enter Tryz.func83, Tryz.ntmps83
      go_wp2
      go_ret
      exact ⟨by rw [hr]; rfl, rfl⟩
    · have hd2 : decide ((126 : Int) < (b : Int)) = false := decide_eq_false (by omega)
      have hd2' : decide (126 < b) = false := decide_eq_false h2
      have hr : (!(decide (33 ≤ b) && decide (b ≤ 126))) = false := by simp; omega
      go_enter Tryz.func83, Tryz.ntmps83
      go_wp2
      go_ret
      exact ⟨by rw [hr]; rfl, rfl⟩
def oddV : Value := .func (.func 83) #[] #[]
set_option maxHeartbeats 2000000 in
theorem index_odd {w : World} {B c : Nat} {A : Option Addr} {bs : List Nat} (h : Bytes w B A bs.length bs) (hl : bs.length ≤ 65536) :
    Calls Tryz.prog 108 #[.slice A bs.length c, oddV] w fun e w' => (∃ v : Int, e = .returned (.int .i64 v) ∧ ((v = -1 ∧ bs.all okChar = true) ∨ (0 ≤ v ∧ bs.all okChar = false))) ∧ w = w' := by
  have H := Lib.hid h
  clear h
  go_enter Tryz.func108, Tryz.ntmps108
  unfold oddV
  go_wp2
  go_loopw [8] (fun i wr => ∃ k : Nat, k ≤ bs.length ∧ i = .int .i64 k ∧ wr = w ∧ ∀ j b, j < k → bs[j]? = some b → okChar b = true) (fun i _ => bs.length - (intS i).toNat)
  case atStart => exact ⟨0, by omega, rfl, by trivial, fun j b h => by omega⟩
  case round =>
    obtain ⟨k, hk, rfl, rfl, hall⟩ := hrel
    have HA := Lib.hid hall
    clear hall
    by_cases hlt : k < bs.length
    · obtain ⟨ad, b, rfl, hb, hb2, hc⟩ := H.out.at_ hlt
      have HB := Lib.hid hb
      have HO := Lib.hid (odd_any b hb2 wr)
      have hwk : IntKind.i64.wrap ((k : Int) + 1) = (k : Int) + 1 := by rw [IntKind.wrap_i64]; omega
      clear hb
      go_wp2_with fail
      refine HO.out.mono ?_
      rintro e w' ⟨rfl, rfl⟩
      clear HO
      by_cases hok : okChar b = true
      · have HOK := Lib.hid hok
        rw [hok]
        clear hok
        go_wp2
        go_roundw
        case rel => exact ⟨k + 1, by omega, by go_num, by trivial, fun j b' hj hb' => by
          rcases Nat.lt_succ_iff_lt_or_eq.1 hj with h | rfl
          · exact HA.out j b' h hb'
          · rw [HB.out] at hb'; injection hb' with hb'; subst hb'; exact HOK.out⟩
        case measure => simp [intS]; omega
      · have hok' : okChar b = false := by simpa using hok
        have HOK := Lib.hid hok'
        rw [hok']
        clear hok hok'
        go_wp2
        go_ret
        refine ⟨⟨_, rfl, .inr ⟨by omega, ?_⟩⟩, rfl⟩
        rw [List.all_eq_false]
        exact ⟨b, List.mem_of_getElem? HB.out, by rw [HOK.out]; simp⟩
    · obtain rfl : k = bs.length := by omega
      go_wp2
      go_ret
      refine ⟨⟨_, rfl, .inl ⟨rfl, ?_⟩⟩, rfl⟩
      rw [List.all_eq_true]
      intro b hb
      obtain ⟨j, hj, rfl⟩ := List.mem_iff_getElem.1 hb
      exact HA.out j _ hj (List.getElem?_eq_getElem hj)
theorem contains_odd {w : World} {B c : Nat} {A : Option Addr} {bs : List Nat} (h : Bytes w B A bs.length bs) (hl : bs.length ≤ 65536) :
    Calls Tryz.prog 84 #[.slice A bs.length c, oddV] w fun e w' => e = .returned (.bool (!bs.all okChar)) ∧ w = w' := by
  have HI := Lib.hid (index_odd (c := c) h hl)
  clear h
  go_enter Tryz.func84, Tryz.ntmps84
  go_wp2_with fail
  refine HI.out.mono ?_
  rintro e w' ⟨⟨v, rfl, hv⟩, rfl⟩
  rcases hv with ⟨rfl, hv⟩ | ⟨hv0, hv⟩
  · have HV := Lib.hid hv
    clear hv
    go_wp2
    go_ret
    exact ⟨by rw [HV.out]; rfl, rfl⟩
  · have HV := Lib.hid hv
    have hd : decide ((0 : Int) ≤ v) = true := decide_eq_true hv0
    clear hv
    go_wp2
    go_ret
    exact ⟨by rw [HV.out]; rfl, rfl⟩
set_option maxHeartbeats 1000000 in
theorem isName_any (bs : List Nat) (hb : ∀ b ∈ bs, b < 256) (hl : bs.length ≤ 1000000) (w : World) : Calls Tryz.prog 46 #[.string (strOf bs)] w fun e w' => e = .returned (.bool (isNameB bs)) ∧ Below w.heap.size w w' := by
  have hsz := strOf_size bs
  unfold isNameB
  by_cases h1 : 1 ≤ bs.length
  · have hd1 : decide ((1 : Int) ≤ (bs.length : Int)) = true := decide_eq_true (by omega)
    have hd1' : decide (1 ≤ bs.length) = true := decide_eq_true h1
    by_cases h2 : bs.length ≤ 32
    · have hd2 : decide ((bs.length : Int) ≤ 32) = true := decide_eq_true (by omega)
      have hd2' : decide (bs.length ≤ 32) = true := decide_eq_true h2
      have HB := Lib.hid hb
      clear hb
      obtain ⟨cap, w2, hr, hbl, hby⟩ := conv_str w bs HB.out
      have HC := Lib.hid (contains_odd (c := cap) hby (by omega))
      have HBL := Lib.hid hbl
      unfold oddV at HC
      clear hbl hby
      go_enter Tryz.func46, Tryz.ntmps46
      go_wp2_with fail
      refine HC.out.mono ?_
      rintro e w' ⟨rfl, rfl⟩
      have hr' : ∀ q, (decide (1 ≤ bs.length) && decide (bs.length ≤ 32) && q) = q := fun q => by rw [hd1', hd2']; cases q <;> rfl
      rcases Bool.eq_false_or_eq_true (bs.all okChar) with hall | hall
      · rw [hall]
        have HA := Lib.hid hall
        clear hall
        go_wp2
        go_ret
        exact ⟨by rw [hr', HA.out]; rfl, HBL.out⟩
      · rw [hall]
        have HA := Lib.hid hall
        clear hall
        go_wp2
        go_ret
        exact ⟨by rw [hr', HA.out]; rfl, HBL.out⟩
    · have hd2 : decide ((bs.length : Int) ≤ 32) = false := decide_eq_false (by omega)
      have hd2' : decide (bs.length ≤ 32) = false := decide_eq_false h2
      have hr' : (decide (1 ≤ bs.length) && decide (bs.length ≤ 32) && bs.all okChar) = false := by rw [hd1', hd2']; rfl
      rw [hr']
      go_enter Tryz.func46, Tryz.ntmps46
      go_wp2
      go_ret
      exact ⟨rfl, Below.refl _ _⟩
  · have hd1 : decide ((1 : Int) ≤ (bs.length : Int)) = false := decide_eq_false (by omega)
    have hd1' : decide (1 ≤ bs.length) = false := decide_eq_false h1
    have hr' : (decide (1 ≤ bs.length) && decide (bs.length ≤ 32) && bs.all okChar) = false := by rw [hd1']; rfl
    rw [hr']
    go_enter Tryz.func46, Tryz.ntmps46
    go_wp2
    go_ret
    exact ⟨rfl, Below.refl _ _⟩
end Go.Proofs.YtncpcemcdmolcaaGreat

/-
  Spaces: how long a row of free blocks is from one on. Conditions: a space's row reads as it is said to; it is no longer than its room.
-/
namespace Go.Proofs.YtncpcemcdmolcaaGreat
open Go.RowKit Go.BigFrame
set_option linter.unusedSimpArgs false
set_option linter.unusedVariables false
theorem run_cut_flags (A : Option Addr) (m c k : Nat) (hk : k ≤ m) (w : World) : (Instr.slice 30 (.slice A m c) (some (.int .i64 k)) none none).run Tryz.prog w = .ok (.slice (if c = k then A else A.map (·.add (k * 1))) (m - k) (c - k)) w := by
  have hsz : ∀ w, (sizeOf (Tryz.prog.elem 30)).run Tryz.prog w = .ok 1 w := fun w => by kernel_rfl
  rw [run_slice_l w 30 A m c (by kernel_rfl) .i64 k (by omega) (by omega), hsz]
  simp only [Result.andThen, sliced, Int.toNat_natCast]
/-- how many are free from the first on -/
def runOf (l : List Bool) : Nat := (l.takeWhile id).length
theorem run_all : ∀ {l : List Bool}, (∀ j, j < l.length → l[j]? = some true) → runOf l = l.length
  | [], _ => rfl
  | b :: l, h => by
    have h0 := h 0 (by simp)
    simp at h0
    subst h0
    have := run_all (l := l) (fun j hj => by simpa using h (j + 1) (by simpa using hj))
    simp [runOf] at this ⊢
    exact this
theorem run_at : ∀ {l : List Bool} {k : Nat}, l[k]? = some false → (∀ j, j < k → l[j]? = some true) → runOf l = k
  | [], k, h, _ => by simp at h
  | b :: l, 0, h, _ => by
    simp at h
    subst h
    simp [runOf]
  | b :: l, k + 1, h, h' => by
    have h0 := h' 0 (by omega)
    simp at h0
    subst h0
    have := run_at (l := l) (k := k) (by simpa using h) (fun j hj => by simpa using h' (j + 1) (by omega))
    simp [runOf] at this ⊢
    exact this
theorem run_le (l : List Bool) : runOf l ≤ l.length := by
  induction l with
  | nil => simp [runOf]
  | cons b l ih => cases b <;> simp [runOf] at ih ⊢ <;> omega
set_option maxHeartbeats 300000 in
theorem freeFrom_any {w : World} {g : Nat} {A : Option Addr} {c : Nat} {left : Int} (fl : List Bool) (k : Nat) (hk : k ≤ fl.length) (hc : fl.length ≤ c) (hl : fl.length ≤ 1000000000) (h : Blk w g 138 #[.slice A fl.length c, .int .i64 left]) {B : Nat} (hR : Reads w B 1 A fl.length (flagsS fl)) :
    Calls Tryz.prog 148 #[.pointer (some ⟨g, 0, none⟩), .int .i64 k] w fun e w' => e = .returned (.int .i64 (runOf (fl.drop k) : Nat)) ∧ w = w' := by
  have q0 : w.cell? ⟨g, 0, none⟩ = some (.slice A fl.length c) := h.cell 0
  have hcut := hR.cut hk hc
  have hd : (fl.drop k).length = fl.length - k := List.length_drop
  rw [show (flagsS fl).drop (k * 1) = flagsS (fl.drop k) from by rw [Nat.mul_one, flagsS, flagsS, List.map_drop], ← hd] at hcut
  have hsl := run_cut_flags A fl.length c k hk
  generalize hAc : (if c = k then A else A.map (·.add (k * 1))) = Ac at *
  generalize fl.drop k = l at *
  have hi := fun w' (e : w' = w) => index_any Ac (c - k) B l false w' (e ▸ hcut) (by omega)
  simp only [hd] at hi
  have HI := Lib.hid hi
  have HL := Lib.hid (slen_any h)
  have HD := Lib.hid hd
  clear hcut h hR hAc hi hd
  have hk' : ((fl.length : Int) - (k : Int)) = ((fl.length - k : Nat) : Int) := by omega
  go_enter Tryz.func148, Tryz.ntmps148
  go_wp2_with fail
  refine (HI.out _ rfl).mono ?_
  rintro e w' ⟨r, rfl, rfl, hf⟩
  rcases hf with ⟨rfl, hall⟩ | ⟨j, rfl, h1, h2, h3⟩
  · have HR := Lib.hid (run_all hall)
    clear hall
    go_wp2_with fail
    refine HL.out.mono ?_
    rintro e w' ⟨rfl, rfl⟩
    go_wp2
    go_ret
    rw [HR.out, HD.out]
    exact ⟨by go_num, rfl⟩
  · have HR := Lib.hid (run_at h2 h3)
    have hd0 : decide ((j : Int) < 0) = false := decide_eq_false (by omega)
    clear h2 h3
    go_wp2
    go_ret
    rw [HR.out]
    exact ⟨rfl, rfl⟩
end Go.Proofs.YtncpcemcdmolcaaGreat

/-
  Spaces: whether an extent's blocks are all there and like each other. Conditions: a space's row reads as it is said to; the extent's numbers are int's.
-/
namespace Go.Proofs.YtncpcemcdmolcaaGreat
open Go.RowKit Go.BigFrame
set_option linter.unusedSimpArgs false
set_option linter.unusedVariables false
/-- an extent has blocks, all are there, all are like b -/
def AllAt (fl : List Bool) (x y : Int) (b : Bool) : Prop := 1 ≤ y ∧ 0 ≤ x ∧ x + y ≤ (fl.length : Int) ∧ ∀ j : Nat, x ≤ (j : Int) → (j : Int) < x + y → fl[j]? = some b
theorem drawn_below {B : Nat} {a w : World} (h : Below B a w) (q : Nat) : Below B a (w.drewN q) := ⟨h.os, h.tape, h.output, h.size, h.block⟩
set_option maxHeartbeats 1000000 in
theorem sall_not {w : World} {g : Nat} {A : Option Addr} {c : Nat} {left : Int} (fl : List Bool) (x y : Int) (b : Bool) (hx1 : -9223372036854775808 ≤ x) (hx2 : x ≤ 9223372036854775807) (hy1 : -9223372036854775808 ≤ y) (hy2 : y ≤ 9223372036854775807) (hl : fl.length ≤ 1000000000)
    (h : Blk w g 138 #[.slice A fl.length c, .int .i64 left]) (hno : y < 1 ∨ x < 0 ∨ (fl.length : Int) < x + y) :
    Calls Tryz.prog 143 #[.pointer (some ⟨g, 0, none⟩), .agg #[.int .i64 x, .int .i64 y], .bool b] w fun e w' => e = .returned (.bool false) ∧ Below w.heap.size w w' := by
  have H := Lib.hid h
  clear h
  by_cases h1 : y < 1
  · have hd1 : decide (y < 1) = true := decide_eq_true h1
    clear hno
    go_enter Tryz.func143, Tryz.ntmps143
    go_wp2
    go_quiet (fail)
    go_wp2
    go_ret
    exact ⟨rfl, drawn_below ((Below.refl _ _).alloc (Nat.le_refl _) _) _⟩
  · have hd1 : decide (y < 1) = false := decide_eq_false h1
    by_cases h2 : x < 0
    · have hd2 : decide (x < 0) = true := decide_eq_true h2
      clear hno
      go_enter Tryz.func143, Tryz.ntmps143
      go_wp2
      go_quiet (fail)
      go_wp2
      go_ret
      exact ⟨rfl, drawn_below ((Below.refl _ _).alloc (Nat.le_refl _) _) _⟩
    · have hd2 : decide (x < 0) = false := decide_eq_false h2
      have h3 : (fl.length : Int) - y < x := by omega
      have hd3 : decide ((fl.length : Int) - y < x) = true := decide_eq_true h3
      have hy3 : 1 ≤ y := by omega
      have hx3 : 0 ≤ x := by omega
      have hwr : IntKind.i64.wrap ((fl.length : Int) - y) = (fl.length : Int) - y := by rw [IntKind.wrap_i64]; omega
      clear hno
      go_enter Tryz.func143, Tryz.ntmps143
      go_wp2_with fail
      go_quiet ((go_at_call 51; exact Calls.quiet_of_same ((slen_any ((H.out.alloc _).drewN _)).mono fun e w' h => ⟨h.1, h.2.symm⟩)))
      go_wp2
      go_ret
      exact ⟨rfl, drawn_below ((Below.refl _ _).alloc (Nat.le_refl _) _) _⟩
theorem run_cut2_flags (A : Option Addr) (m c i k : Nat) (hk : i + k ≤ m) (hc : m ≤ c) (w : World) : (Instr.slice 30 (.slice A m c) (some (.int .i64 i)) (some (.int .i64 ((i : Int) + (k : Int)))) none).run Tryz.prog w = .ok (.slice (if c = i then A else A.map (·.add (i * 1))) k (c - i)) w := by
  have hsz : ∀ w, (sizeOf (Tryz.prog.elem 30)).run Tryz.prog w = .ok 1 w := fun w => by kernel_rfl
  rw [run_slice_lh w 30 A m c (by kernel_rfl) .i64 .i64 i ((i : Int) + (k : Int)) (by omega) (by omega) (by omega), hsz]
  simp only [Result.andThen, sliced, Int.toNat_natCast]
  rw [show ((i : Int) + (k : Int)).toNat - i = k by omega]
set_option maxHeartbeats 1000000 in
theorem sall_in {w : World} {g : Nat} {A : Option Addr} {c : Nat} {left : Int} (fl : List Bool) (i k : Nat) (b : Bool) (hk : 1 ≤ k) (hik : i + k ≤ fl.length) (hc : fl.length ≤ c) (hl : fl.length ≤ 1000000000)
    (h : Blk w g 138 #[.slice A fl.length c, .int .i64 left]) {B : Nat} (hB : B ≤ w.heap.size) (hR : Reads w B 1 A fl.length (flagsS fl)) :
    Calls Tryz.prog 143 #[.pointer (some ⟨g, 0, none⟩), .agg #[.int .i64 (i : Int), .int .i64 (k : Int)], .bool b] w fun e w' => ∃ r : Bool, e = .returned (.bool r) ∧ Below w.heap.size w w' ∧ (r = true ↔ ∀ z ∈ (fl.drop i).take k, z = b) := by
  have H := Lib.hid h
  have hcut := (hR.cut (k := i) (by omega) hc).take (k := k) (by omega)
  have hd : ((fl.drop i).take k).length = k := by rw [List.length_take, List.length_drop]; omega
  rw [show ((flagsS fl).drop (i * 1)).take k = flagsS ((fl.drop i).take k) from by rw [Nat.mul_one, flagsS, flagsS, List.map_take, List.map_drop]] at hcut
  have hsl := run_cut2_flags A fl.length c i k hik hc
  generalize hAc : (if c = i then A else A.map (·.add (i * 1))) = Ac at *
  generalize (fl.drop i).take k = l at *
  have HC := Lib.hid (fun w' (hw : Below B w w') => (show Calls Tryz.prog 155 #[.slice Ac k (c - i), .bool (!b)] w' (fun e w'' => e = .returned (.bool (decide ((!b) ∈ l))) ∧ w'' = w') from by
    have h0 := contains_any Ac (c - i) B l (!b) w' (by rw [hd]; exact hcut.below hw) (by omega)
    rw [hd] at h0
    refine h0.mono ?_
    rintro e w'' ⟨r, rfl, rfl, hr⟩
    refine ⟨?_, rfl⟩
    have : r = decide ((!b) ∈ l) := by rw [Bool.eq_iff_iff, decide_eq_true_eq]; exact hr
    rw [this]))
  clear h hR hAc hcut hd
  have hd1 : decide ((k : Int) < 1) = false := decide_eq_false (by omega)
  have hd2 : decide ((i : Int) < 0) = false := decide_eq_false (by omega)
  have hd3 : decide ((fl.length : Int) - (k : Int) < (i : Int)) = false := decide_eq_false (by omega)
  have hwr : IntKind.i64.wrap ((fl.length : Int) - (k : Int)) = (fl.length : Int) - (k : Int) := by rw [IntKind.wrap_i64]; omega
  have hwr2 : IntKind.i64.wrap ((i : Int) + (k : Int)) = (i : Int) + (k : Int) := by rw [IntKind.wrap_i64]; omega
  have q0 : ∀ o, (w.alloc o).cell? ⟨g, 0, none⟩ = some (.slice A fl.length c) := fun o => (H.out.alloc o).cell 0
  go_enter Tryz.func143, Tryz.ntmps143
  go_wp2_with fail
  go_quiet ((go_at_call 51; exact Calls.quiet_of_same ((slen_any ((H.out.alloc _).drewN _)).mono fun e w' h => ⟨h.1, h.2.symm⟩)))
  have hbw : ∀ o n, Below B w ((w.alloc o).drewN n) := fun o n => drawn_below ((Below.refl _ _).alloc hB _) _
  go_wp2_with fail
  go_quiet ((go_at_call 155; exact (HC.out _ (hbw _ _)).mono (fun e w' h => ⟨h.1, _, h.2⟩)))
  go_wp2
  go_ret
  refine ⟨_, rfl, drawn_below (drawn_below ((Below.refl _ _).alloc (Nat.le_refl _) _) _) _, ?_⟩
  simp only [Bool.not_eq_true', decide_eq_false_iff_not]
  refine ⟨fun h z hz => ?_, fun h hm => ?_⟩
  · cases z <;> cases b <;> simp_all
  · have := h _ hm
    cases b <;> simp at this
end Go.Proofs.YtncpcemcdmolcaaGreat

/-
  Spaces, the plain part: the holes of a row of flags; what is chosen of holes for so many blocks; a row with extents turned. No condition; nothing of the program is named.
-/
namespace Go.Proofs.YtncpcemcdmolcaaGreat
set_option linter.unusedSimpArgs false
set_option linter.unusedVariables false
/-! ### the holes -/
/-- the first hole is longer by one ahead, or there is a new one -/
def grow (i : Nat) : List Bool → List (Nat × Nat) → List (Nat × Nat)
  | true :: _, (_, n) :: r => (i, n + 1) :: r
  | _, h => (i, 1) :: h
/-- the holes of a row whose first flag has number i -/
def hol : Nat → List Bool → List (Nat × Nat)
  | _, [] => []
  | i, false :: l => hol (i + 1) l
  | i, true :: l => grow i l (hol (i + 1) l)
theorem hol_true (i : Nat) (l : List Bool) : hol i (true :: l) = grow i l (hol (i + 1) l) := rfl
theorem hol_false (i : Nat) (l : List Bool) : hol i (false :: l) = hol (i + 1) l := rfl
theorem run_split (l : List Bool) : l = List.replicate (runOf l) true ++ l.drop (runOf l) ∧ (l.drop (runOf l) = [] ∨ ∃ r, l.drop (runOf l) = false :: r) := by
  induction l with
  | nil => simp [runOf]
  | cons b l ih =>
    cases b
    · simp [runOf]
    · have e : runOf (true :: l) = runOf l + 1 := by simp [runOf]
      rw [e]
      simp only [List.replicate_succ, List.drop_succ_cons, List.cons_append, List.cons.injEq, true_and]
      exact ih
theorem run_ind {P : List Bool → Prop} (h0 : P []) (hf : ∀ l, P l → P (false :: l)) (ha : ∀ n, P (List.replicate (n + 1) true)) (hr : ∀ n l, P l → P (List.replicate (n + 1) true ++ false :: l)) : ∀ l, P l := by
  intro l
  induction hn : l.length using Nat.strongRecOn generalizing l with
  | _ n ih =>
    obtain ⟨h1, h2⟩ := run_split l
    have ha' := fun k (hk : 0 < k) => (show P (List.replicate k true) from by obtain ⟨m, rfl⟩ : ∃ m, k = m + 1 := ⟨k - 1, by omega⟩; exact ha m)
    have hr' := fun k (hk : 0 < k) r (h : P r) => (show P (List.replicate k true ++ false :: r) from by obtain ⟨m, rfl⟩ : ∃ m, k = m + 1 := ⟨k - 1, by omega⟩; exact hr m r h)
    by_cases hz : runOf l = 0
    · rw [hz] at h1 h2
      simp at h1 h2
      rcases h2 with h2 | ⟨r, h2⟩
      · subst h2; exact h0
      · subst h2
        exact hf _ (ih r.length (by simp at hn; omega) r rfl)
    · rcases h2 with h2 | ⟨r, h2⟩
      · rw [h2, List.append_nil] at h1
        rw [h1]
        exact ha' _ (by omega)
      · rw [h2] at h1
        have hl : l.length = runOf l + (r.length + 1) := by
          have := congrArg List.length h1
          simpa using this
        rw [h1]
        exact hr' _ (by omega) r (ih r.length (by omega) r rfl)
theorem hol_rep (n i : Nat) : hol i (List.replicate (n + 1) true) = [(i, n + 1)] := by
  induction n generalizing i with
  | zero => rfl
  | succ n ih =>
    rw [List.replicate_succ]
    have e : List.replicate (n + 1) true = true :: List.replicate n true := List.replicate_succ
    have h := ih (i + 1)
    rw [e] at h ⊢
    rw [hol_true i, h]
    rfl
theorem hol_run (n i : Nat) (l : List Bool) : hol i (List.replicate (n + 1) true ++ false :: l) = (i, n + 1) :: hol (i + n + 2) l := by
  induction n generalizing i with
  | zero => rfl
  | succ n ih =>
    rw [List.replicate_succ, List.cons_append]
    have e : List.replicate (n + 1) true ++ false :: l = true :: (List.replicate n true ++ false :: l) := by rw [List.replicate_succ, List.cons_append]
    have h := ih (i + 1)
    rw [e] at h ⊢
    rw [hol_true i, h, show i + 1 + n + 2 = i + (n + 1) + 2 by omega]
    rfl
theorem hol_reps (n i : Nat) (l : List Bool) : hol i (List.replicate n false ++ l) = hol (i + n) l := by
  induction n generalizing i with
  | zero => simp
  | succ n ih => rw [List.replicate_succ, List.cons_append]; simp only [hol]; rw [ih, show i + 1 + n = i + (n + 1) by omega]
theorem run_rep (n : Nat) : runOf (List.replicate n true) = n := by
  induction n with
  | zero => simp [runOf]
  | succ n ih => rw [List.replicate_succ]; simp [runOf] at ih ⊢
theorem run_rep2 (n : Nat) (l : List Bool) : runOf (List.replicate n true ++ false :: l) = n := by
  induction n with
  | zero => simp [runOf]
  | succ n ih => rw [List.replicate_succ]; simp [runOf] at ih ⊢
theorem hol_step0 (l : List Bool) (i : Nat) (h : runOf l = 0) : hol i l = hol (i + 1) (l.drop 1) := by
  cases l with
  | nil => rfl
  | cons b l =>
    cases b
    · rfl
    · simp [runOf] at h
theorem hol_step (l : List Bool) (i : Nat) (h : 0 < runOf l) : hol i l = (i, runOf l) :: hol (i + runOf l + 1) (l.drop (runOf l + 1)) := by
  revert h i
  refine run_ind (P := fun l => ∀ i, 0 < runOf l → hol i l = (i, runOf l) :: hol (i + runOf l + 1) (l.drop (runOf l + 1))) ?_ ?_ ?_ ?_ l
  · intro i h; simp [runOf] at h
  · intro l _ i h; simp [runOf] at h
  · intro n i _
    rw [run_rep, hol_rep, List.drop_of_length_le (by simp)]
    rfl
  · intro n l _ i _
    rw [run_rep2, hol_run]
    have : List.drop (n + 1 + 1) (List.replicate (n + 1) true ++ false :: l) = l := by
      rw [List.drop_append, List.drop_of_length_le (by simp)]; simp
    rw [this]; rfl
theorem hol_snoc_false (l : List Bool) (i : Nat) : hol i (l ++ [false]) = hol i l := by
  induction l generalizing i with
  | nil => rfl
  | cons b l ih =>
    have h := ih (i + 1)
    cases b
    · exact h
    · rw [List.cons_append, hol_true, hol_true, h]
      cases l with
      | nil => rfl
      | cons c l =>
        cases c
        · rfl
        · generalize hol (i + 1) (true :: l) = z
          cases z <;> rfl
theorem hol_ne_nil (l : List Bool) (i : Nat) : hol i (true :: l) ≠ [] := by
  rw [hol_true]
  unfold grow
  split <;> simp
theorem hol_snoc_new (l : List Bool) (i : Nat) (h : l.getLast? ≠ some true) : hol i (l ++ [true]) = hol i l ++ [(i + l.length, 1)] := by
  induction l generalizing i with
  | nil => rfl
  | cons b l ih =>
    cases l with
    | nil =>
      cases b
      · rfl
      · simp at h
    | cons c l =>
      have h2 := ih (i + 1) (by simpa using h)
      rw [show i + 1 + (c :: l).length = i + (b :: c :: l).length by simp; omega] at h2
      cases b
      · exact h2
      · rw [List.cons_append, hol_true, hol_true, h2]
        cases c
        · rfl
        · cases he : hol (i + 1) (true :: l) with
          | nil => exact absurd he (hol_ne_nil _ _)
          | cons p r => rfl
theorem hol_snoc_old (l : List Bool) (i : Nat) (h : l.getLast? = some true) : ∃ r x y, hol i l = r ++ [(x, y)] ∧ hol i (l ++ [true]) = r ++ [(x, y + 1)] := by
  induction l generalizing i with
  | nil => simp at h
  | cons b l ih =>
    cases l with
    | nil =>
      simp at h
      subst h
      exact ⟨[], i, 1, rfl, rfl⟩
    | cons c l =>
      obtain ⟨r, x, y, h1, h2⟩ := ih (i + 1) (by simpa using h)
      cases b
      · exact ⟨r, x, y, h1, h2⟩
      · rw [List.cons_append, hol_true, hol_true, h1, h2]
        cases c
        · exact ⟨(i, 1) :: r, x, y, rfl, rfl⟩
        · cases r with
          | nil => exact ⟨[], i, y + 1, rfl, rfl⟩
          | cons p r => exact ⟨(i, p.2 + 1) :: r, x, y, rfl, rfl⟩
/-! ### turned -/
/-- a row with y flags from x on made b -/
def setR (l : List Bool) (x y : Nat) (b : Bool) : List Bool := l.take x ++ List.replicate y b ++ l.drop (x + y)
theorem setR_len {l : List Bool} {x y : Nat} (h : x + y ≤ l.length) (b : Bool) : (setR l x y b).length = l.length := by simp [setR]; omega
theorem setR_at {l : List Bool} {x y : Nat} (h : x + y ≤ l.length) (b : Bool) (j : Nat) : (setR l x y b)[j]? = if x ≤ j ∧ j < x + y then some b else l[j]? := by
  have h1 : (l.take x).length = x := by simp; omega
  rw [setR, List.append_assoc, List.getElem?_append, h1]
  by_cases ha : j < x
  · rw [if_pos ha, if_neg (by omega), List.getElem?_take, if_pos ha]
  · rw [if_neg ha, List.getElem?_append, List.length_replicate]
    by_cases hb : j - x < y
    · rw [if_pos hb, if_pos (by omega), List.getElem?_replicate, if_pos hb]
    · rw [if_neg hb, if_neg (by omega), List.getElem?_drop]; congr 1; omega
theorem setR_zero (l : List Bool) (x : Nat) (b : Bool) : setR l x 0 b = l := by simp [setR]
theorem setR_succ {l : List Bool} {x y : Nat} (h : x + y < l.length) (b : Bool) : (setR l x y b).set (x + y) b = setR l x (y + 1) b := by
  apply List.ext_getElem?
  intro j
  rw [List.getElem?_set, setR_at (by omega), setR_at (by omega), setR_len (by omega)]
  by_cases hj : x + y = j
  · subst hj; rw [if_pos rfl, if_pos h, if_pos (by omega)]
  · rw [if_neg hj]
    by_cases hk : x ≤ j ∧ j < x + y
    · rw [if_pos hk, if_pos (by omega)]
    · rw [if_neg hk, if_neg (by omega)]
/-- y flags from x on are there, and are b -/
def AllR (l : List Bool) (x y : Nat) (b : Bool) : Prop := x + y ≤ l.length ∧ ∀ j, x ≤ j → j < x + y → l[j]? = some b
theorem AllR.same {l : List Bool} {x y : Nat} {b : Bool} (h : AllR l x y b) : l = setR l x y b := by
  apply List.ext_getElem?
  intro j
  rw [setR_at h.1]
  by_cases hk : x ≤ j ∧ j < x + y
  · rw [if_pos hk, h.2 j hk.1 hk.2]
  · rw [if_neg hk]
theorem setR_setR {l : List Bool} {x y : Nat} (h : x + y ≤ l.length) (b c : Bool) : setR (setR l x y b) x y c = setR l x y c := by
  apply List.ext_getElem?
  intro j
  rw [setR_at (by rw [setR_len h]; exact h), setR_at h, setR_at h]
  by_cases hk : x ≤ j ∧ j < x + y
  · rw [if_pos hk, if_pos hk]
  · rw [if_neg hk, if_neg hk, if_neg hk]
def cnt (l : List Bool) : Nat := l.countP id
theorem cnt_le (l : List Bool) : cnt l ≤ l.length := List.countP_le_length
theorem cnt_setR {l : List Bool} {x y : Nat} (h : x + y ≤ l.length) (b : Bool) : cnt (setR l x y b) = cnt (l.take x) + (if b then y else 0) + cnt (l.drop (x + y)) := by
  have : ∀ n : Nat, cnt (List.replicate n b) = if b then n else 0 := by
    intro n
    cases b <;> simp [cnt, List.countP_replicate]
  simp only [setR, cnt, List.countP_append] at this ⊢
  rw [this]
theorem cnt_turn {l : List Bool} {x y : Nat} {b : Bool} (h : AllR l x y (!b)) : (cnt (setR l x y b) : Int) = cnt l + (if b then (y : Int) else -(y : Int)) := by
  have h1 := cnt_setR h.1 b
  have h2 := cnt_setR h.1 (!b)
  rw [← h.same] at h2
  cases b <;> simp at h1 h2 ⊢ <;> omega
theorem setR_app (l1 l2 : List Bool) (x y : Nat) (b : Bool) : setR (l1 ++ l2) (l1.length + x) y b = l1 ++ setR l2 x y b := by
  rw [setR, setR, List.take_length_add_append, Nat.add_assoc, List.drop_length_add_append, List.append_assoc, List.append_assoc, List.append_assoc]
/-! ### a hole's own -/
theorem hol_mem (l : List Bool) : ∀ i x y, (x, y) ∈ hol i l → i ≤ x ∧ 1 ≤ y ∧ x + y ≤ i + l.length ∧ ∀ j, x ≤ j → j < x + y → l[j - i]? = some true := by
  refine run_ind (P := fun l => ∀ i x y, (x, y) ∈ hol i l → i ≤ x ∧ 1 ≤ y ∧ x + y ≤ i + l.length ∧ ∀ j, x ≤ j → j < x + y → l[j - i]? = some true) ?_ ?_ ?_ ?_ l
  · intro i x y h; simp [hol] at h
  · intro l ih i x y h
    rw [hol] at h
    obtain ⟨h1, h2, h3, h4⟩ := ih _ _ _ h
    refine ⟨by omega, h2, by simp; omega, fun j hj hk => ?_⟩
    have := h4 j hj hk
    rw [show j - i = (j - (i + 1)) + 1 by omega, List.getElem?_cons_succ]
    exact this
  · intro n i x y h
    rw [hol_rep] at h
    simp at h
    obtain ⟨rfl, rfl⟩ := h
    refine ⟨by omega, by omega, by simp, fun j hj hk => ?_⟩
    rw [List.getElem?_replicate, if_pos (by omega)]
  · intro n l ih i x y h
    rw [hol_run] at h
    simp only [List.mem_cons, Prod.mk.injEq] at h
    rcases h with ⟨rfl, rfl⟩ | h
    · refine ⟨by omega, by omega, by simp, fun j hj hk => ?_⟩
      rw [List.getElem?_append_left (by simp; omega), List.getElem?_replicate, if_pos (by omega)]
    · obtain ⟨h1, h2, h3, h4⟩ := ih _ _ _ h
      refine ⟨by omega, h2, by simp; omega, fun j hj hk => ?_⟩
      rw [List.getElem?_append_right (by simp; omega), List.length_replicate, show j - i - (n + 1) = (j - (i + n + 2)) + 1 by omega, List.getElem?_cons_succ]
      exact h4 j hj hk
theorem hol_rises (l : List Bool) : ∀ i, (hol i l).Pairwise (fun p q => p.1 + p.2 < q.1) := by
  refine run_ind (P := fun l => ∀ i, (hol i l).Pairwise (fun p q => p.1 + p.2 < q.1)) ?_ ?_ ?_ ?_ l
  · intro i; simp [hol]
  · intro l ih i; rw [hol]; exact ih _
  · intro n i; rw [hol_rep]; simp
  · intro n l ih i
    rw [hol_run]
    refine List.pairwise_cons.2 ⟨fun q hq => ?_, ih _⟩
    obtain ⟨a, b⟩ := q
    have := (hol_mem l _ _ _ hq).1
    simp; omega
def lens (L : List (Nat × Nat)) : Nat := (L.map (·.2)).sum
theorem hol_lens (l : List Bool) : ∀ i, lens (hol i l) = cnt l := by
  refine run_ind (P := fun l => ∀ i, lens (hol i l) = cnt l) ?_ ?_ ?_ ?_ l
  · intro i; rfl
  · intro l ih i; rw [hol, ih]; simp [cnt]
  · intro n i; rw [hol_rep]; simp [lens, cnt, List.countP_replicate]
  · intro n l ih i
    rw [hol_run]
    have := ih (i + n + 2)
    simp only [lens, cnt, List.map_cons, List.sum_cons, List.countP_append, List.countP_replicate, List.countP_cons] at this ⊢
    simp only [id] at this ⊢
    rw [this]
    simp
theorem hol_erase (l : List Bool) : ∀ i x y, (x, y) ∈ hol i l → hol i (setR l (x - i) y false) = (hol i l).erase (x, y) := by
  refine run_ind (P := fun l => ∀ i x y, (x, y) ∈ hol i l → hol i (setR l (x - i) y false) = (hol i l).erase (x, y)) ?_ ?_ ?_ ?_ l
  · intro i x y h; simp [hol] at h
  · intro l ih i x y h
    rw [hol] at h
    have hx := (hol_mem _ _ _ _ h).1
    have e := setR_app [false] l (x - (i + 1)) y false
    rw [show [false].length + (x - (i + 1)) = x - i by simp; omega] at e
    simp only [List.singleton_append] at e
    rw [e, hol, ih _ _ _ h, hol]
  · intro n i x y h
    rw [hol_rep] at h ⊢
    simp at h
    obtain ⟨rfl, rfl⟩ := h
    have : setR (List.replicate (n + 1) true) (x - x) (n + 1) false = List.replicate (n + 1) false ++ [] := by simp [setR]
    rw [this, hol_reps]
    simp [hol]
  · intro n l ih i x y h
    rw [hol_run] at h ⊢
    simp only [List.mem_cons, Prod.mk.injEq] at h
    rcases h with ⟨rfl, rfl⟩ | h
    · have : setR (List.replicate (n + 1) true ++ false :: l) (x - x) (n + 1) false = List.replicate (n + 2) false ++ l := by
        have e : List.drop (n + 1) (List.replicate (n + 1) true ++ false :: l) = false :: l := by
          rw [List.drop_append, List.drop_of_length_le (by simp)]; simp
        simp only [setR, Nat.sub_self, List.take_zero, List.nil_append, Nat.zero_add]
        rw [e, List.replicate_succ' (n := n + 1), List.append_assoc]
        rfl
      rw [this, hol_reps]
      simp
      rfl
    · have hx := (hol_mem _ _ _ _ h).1
      have e := setR_app (List.replicate (n + 1) true ++ [false]) l (x - (i + n + 2)) y false
      rw [show (List.replicate (n + 1) true ++ [false]).length + (x - (i + n + 2)) = x - i by simp; omega] at e
      simp only [List.append_assoc, List.singleton_append] at e
      rw [e, hol_run, ih _ _ _ h, List.erase_cons_tail]
      simp; omega
end Go.Proofs.YtncpcemcdmolcaaGreat

/-
  Spaces, the plain part: what is chosen of holes for so many blocks; a row with many extents turned. No condition; nothing of the program is named.
-/
namespace Go.Proofs.YtncpcemcdmolcaaGreat
set_option linter.unusedSimpArgs false
set_option linter.unusedVariables false
/-! ### the choice -/
/-- e comes ahead of q where the longest one is asked for -/
def Longer (e q : Nat × Nat) : Prop := q.2 < e.2 ∨ (e.2 = q.2 ∧ e.1 < q.1)
/-- e comes ahead of q where the shortest one is asked for -/
def Shorter (e q : Nat × Nat) : Prop := e.2 < q.2 ∨ (e.2 = q.2 ∧ e.1 < q.1)
def Top (L : List (Nat × Nat)) (e : Nat × Nat) : Prop := e ∈ L ∧ ∀ q, q ∈ L → q = e ∨ Longer e q
def Fit (L : List (Nat × Nat)) (n : Nat) (e : Nat × Nat) : Prop := e ∈ L ∧ n ≤ e.2 ∧ ∀ q, q ∈ L → n ≤ q.2 → q = e ∨ Shorter e q
/-- for n blocks these extents are chosen of these holes -/
inductive Chosen : List (Nat × Nat) → Nat → List (Nat × Nat) → Prop
  | none (L : List (Nat × Nat)) : Chosen L 0 []
  | fit {L : List (Nat × Nat)} {n : Nat} {e : Nat × Nat} : 0 < n → Fit L n e → Chosen L n [(e.1, n)]
  | long {L : List (Nat × Nat)} {n : Nat} {e : Nat × Nat} {r : List (Nat × Nat)} : Top L e → e.2 < n → Chosen (L.erase e) (n - e.2) r → Chosen L n (e :: r)
theorem Top.one {L : List (Nat × Nat)} {e e' : Nat × Nat} (h : Top L e) (h' : Top L e') : e = e' := by
  rcases h.2 _ h'.1 with h1 | h1
  · exact h1.symm
  · rcases h'.2 _ h.1 with h2 | h2
    · exact h2
    · simp only [Longer] at h1 h2; omega
theorem Fit.one {L : List (Nat × Nat)} {n : Nat} {e e' : Nat × Nat} (h : Fit L n e) (h' : Fit L n e') : e = e' := by
  rcases h.2.2 _ h'.1 h'.2.1 with h1 | h1
  · exact h1.symm
  · rcases h'.2.2 _ h.1 h.2.1 with h2 | h2
    · exact h2
    · simp only [Shorter] at h1 h2; omega
theorem Top.no_fit {L : List (Nat × Nat)} {n : Nat} {e q : Nat × Nat} (h : Top L e) (hn : e.2 < n) (hq : Fit L n q) : False := by
  rcases h.2 _ hq.1 with h1 | h1
  · subst h1; have := hq.2.1; omega
  · have := hq.2.1; simp only [Longer] at h1; omega
theorem Chosen.zero {L r : List (Nat × Nat)} (h : Chosen L 0 r) : r = [] := by
  cases h with
  | none => rfl
  | fit h _ => omega
  | long _ h _ => omega
theorem Chosen.one {L a b : List (Nat × Nat)} {n : Nat} (h : Chosen L n a) (h' : Chosen L n b) : a = b := by
  induction h generalizing b with
  | none L => exact h'.zero.symm
  | fit h0 hf =>
    cases h' with
    | none => omega
    | fit _ hf' => rw [hf.one hf']
    | long ht hn _ => exact (ht.no_fit hn hf).elim
  | long ht hn _ ih =>
    cases h' with
    | none => omega
    | fit _ hf' => exact (ht.no_fit hn hf').elim
    | long ht' hn' hr =>
      obtain rfl := ht.one ht'
      rw [ih hr]
theorem Top.perm {L L' : List (Nat × Nat)} {e : Nat × Nat} (hp : L.Perm L') (h : Top L e) : Top L' e := ⟨hp.mem_iff.1 h.1, fun q hq => h.2 q (hp.mem_iff.2 hq)⟩
theorem Fit.perm {L L' : List (Nat × Nat)} {n : Nat} {e : Nat × Nat} (hp : L.Perm L') (h : Fit L n e) : Fit L' n e := ⟨hp.mem_iff.1 h.1, h.2.1, fun q hq => h.2.2 q (hp.mem_iff.2 hq)⟩
theorem Chosen.perm {L L' a : List (Nat × Nat)} {n : Nat} (h : Chosen L n a) (hp : L.Perm L') : Chosen L' n a := by
  induction h generalizing L' with
  | none L => exact .none _
  | fit h0 hf => exact .fit h0 (hf.perm hp)
  | long ht hn _ ih => exact .long (ht.perm hp) hn (ih (hp.erase _))
/-! ### turned: many -/
def setA (l : List Bool) (es : List (Nat × Nat)) (b : Bool) : List Bool := es.foldl (fun l e => setR l e.1 e.2 b) l
/-- each of the extents is there at its turn, and is b's other -/
def OkA : List Bool → List (Nat × Nat) → Bool → Prop
  | _, [], _ => True
  | l, e :: es, b => AllR l e.1 e.2 (!b) ∧ OkA (setR l e.1 e.2 b) es b
theorem setA_cons (l : List Bool) (e : Nat × Nat) (es : List (Nat × Nat)) (b : Bool) : setA l (e :: es) b = setA (setR l e.1 e.2 b) es b := rfl
theorem setA_app (l : List Bool) (es fs : List (Nat × Nat)) (b : Bool) : setA l (es ++ fs) b = setA (setA l es b) fs b := by simp [setA]
theorem OkA.app {es fs : List (Nat × Nat)} {b : Bool} : ∀ {l : List Bool}, OkA l (es ++ fs) b ↔ OkA l es b ∧ OkA (setA l es b) fs b := by
  induction es with
  | nil => intro l; simp [OkA, setA]
  | cons e es ih => intro l; simp only [List.cons_append, OkA, setA_cons, ih, and_assoc]
theorem OkA.len {es : List (Nat × Nat)} {b : Bool} : ∀ {l : List Bool}, OkA l es b → (setA l es b).length = l.length := by
  induction es with
  | nil => intro l _; rfl
  | cons e es ih => intro l h; rw [setA_cons, ih h.2, setR_len h.1.1]
def Cov (es : List (Nat × Nat)) (j : Nat) : Prop := ∃ e ∈ es, e.1 ≤ j ∧ j < e.1 + e.2
theorem Cov.cons {e : Nat × Nat} {es : List (Nat × Nat)} {j : Nat} : Cov (e :: es) j ↔ (e.1 ≤ j ∧ j < e.1 + e.2) ∨ Cov es j := by
  simp [Cov]
theorem OkA.at_ {es : List (Nat × Nat)} {b : Bool} : ∀ {l : List Bool}, OkA l es b → ∀ j, (Cov es j → (setA l es b)[j]? = some b ∧ l[j]? = some (!b)) ∧ (¬ Cov es j → (setA l es b)[j]? = l[j]?) := by
  induction es with
  | nil => intro l _ j; exact ⟨fun h => by simp [Cov] at h, fun _ => rfl⟩
  | cons e es ih =>
    intro l h j
    have h2 := ih h.2 j
    rw [setR_at h.1.1] at h2
    rw [setA_cons, Cov.cons]
    by_cases hc : Cov es j
    · have h3 := h2.1 hc
      by_cases he : e.1 ≤ j ∧ j < e.1 + e.2
      · rw [if_pos he] at h3
        cases b <;> simp at h3
      · rw [if_neg he] at h3
        exact ⟨fun _ => h3, fun hn => absurd (.inr hc) hn⟩
    · have h3 := h2.2 hc
      rw [h3]
      by_cases he : e.1 ≤ j ∧ j < e.1 + e.2
      · rw [if_pos he]
        exact ⟨fun _ => ⟨rfl, h.1.2 j he.1 he.2⟩, fun hn => absurd (.inl he) hn⟩
      · rw [if_neg he]
        exact ⟨fun hh => (hh.elim (fun h => absurd h he) (fun h => absurd h hc)), fun _ => rfl⟩
theorem OkA.within {es : List (Nat × Nat)} {b : Bool} : ∀ {l : List Bool}, OkA l es b → ∀ e ∈ es, e.1 + e.2 ≤ l.length := by
  induction es with
  | nil => intro l _ e he; simp at he
  | cons f es ih =>
    intro l h e he
    rcases List.mem_cons.1 he with rfl | he
    · exact h.1.1
    · have := ih h.2 e he
      rw [setR_len h.1.1] at this
      exact this
theorem OkA.cnt {es : List (Nat × Nat)} {b : Bool} : ∀ {l : List Bool}, OkA l es b → (cnt (setA l es b) : Int) = cnt l + (if b then (lens es : Int) else -(lens es : Int)) := by
  induction es with
  | nil => intro l _; simp [setA, lens]
  | cons e es ih =>
    intro l h
    have h1 := cnt_turn h.1
    have h2 := ih h.2
    rw [setA_cons, h2, h1]
    cases b <;> simp [lens] <;> omega
/-- turned back, it is as it was -/
theorem OkA.back {es : List (Nat × Nat)} {b : Bool} {l : List Bool} (h : OkA l es b) : OkA (setA l es b) es (!b) ∧ setA (setA l es b) es (!b) = l := by
  induction es generalizing l with
  | nil => exact ⟨trivial, rfl⟩
  | cons e es ih =>
    have hall := h.at_
    obtain ⟨i1, i2⟩ := ih h.2
    have hlen := h.2.len
    rw [setR_len h.1.1] at hlen
    have hA : AllR (setA l (e :: es) b) e.1 e.2 (!!b) := by
      refine ⟨by rw [h.len]; exact h.1.1, fun j hj hk => ?_⟩
      rw [((hall j).1 (Cov.cons.2 (.inl ⟨hj, hk⟩))).1, Bool.not_not]
    -- turning e back first is as turning it back last
    have hcom : ∀ j, Cov es j → ¬ (e.1 ≤ j ∧ j < e.1 + e.2) := by
      intro j hc he
      have := ((h.2.at_ j).1 hc).2
      rw [setR_at h.1.1, if_pos he] at this
      cases b <;> simp at this
    have key : ∀ (fs : List (Nat × Nat)) (m : List Bool), (∀ f ∈ fs, ∀ j, f.1 ≤ j → j < f.1 + f.2 → ¬ (e.1 ≤ j ∧ j < e.1 + e.2)) → e.1 + e.2 ≤ m.length → OkA m fs (!b) → OkA (setR m e.1 e.2 (!b)) fs (!b) ∧ setA (setR m e.1 e.2 (!b)) fs (!b) = setR (setA m fs (!b)) e.1 e.2 (!b) := by
      intro fs
      induction fs with
      | nil => intro m _ _ _; exact ⟨trivial, rfl⟩
      | cons f fs ihf =>
        intro m hd hm ho
        have hf := hd f (List.mem_cons_self ..)
        have hc : setR (setR m e.1 e.2 (!b)) f.1 f.2 (!b) = setR (setR m f.1 f.2 (!b)) e.1 e.2 (!b) := by
          apply List.ext_getElem?
          intro j
          rw [setR_at (by rw [setR_len hm]; exact ho.1.1), setR_at hm, setR_at (by rw [setR_len ho.1.1]; exact hm), setR_at ho.1.1]
          by_cases h1 : f.1 ≤ j ∧ j < f.1 + f.2 <;> by_cases h2 : e.1 ≤ j ∧ j < e.1 + e.2 <;> simp [h1, h2]
        obtain ⟨k1, k2⟩ := ihf (setR m f.1 f.2 (!b)) (fun g hg => hd g (List.mem_cons_of_mem _ hg)) (by rw [setR_len ho.1.1]; exact hm) ho.2
        refine ⟨⟨⟨by rw [setR_len hm]; exact ho.1.1, fun j hj hk => ?_⟩, by rw [hc]; exact k1⟩, by rw [setA_cons, setA_cons, hc]; exact k2⟩
        rw [setR_at hm, if_neg (hf j hj hk)]
        exact ho.1.2 j hj hk
    obtain ⟨k1, k2⟩ := key es (setA (setR l e.1 e.2 b) es b) (fun f hf j hj hk => hcom j ⟨f, hf, hj, hk⟩) (by rw [hlen]; exact h.1.1) i1
    refine ⟨⟨hA, k1⟩, ?_⟩
    rw [setA_cons l, setA_cons _ e, k2, i2, setR_setR h.1.1, ← h.1.same]
/-! ### what is chosen may be turned -/
def Sound (l : List Bool) (L : List (Nat × Nat)) : Prop := L.Nodup ∧ (∀ e ∈ L, AllR l e.1 e.2 true) ∧ ∀ p ∈ L, ∀ q ∈ L, p ≠ q → p.1 + p.2 ≤ q.1 ∨ q.1 + q.2 ≤ p.1
theorem hol_sound (l : List Bool) : Sound l (hol 0 l) := by
  have hr := hol_rises l 0
  refine ⟨hr.imp (fun {p q} h e => by subst e; omega), fun e he => ?_, fun p hp q hq hne => ?_⟩
  · obtain ⟨x, y⟩ := e
    obtain ⟨_, _, h3, h4⟩ := hol_mem l 0 x y he
    exact ⟨by omega, fun j hj hk => h4 j hj hk⟩
  · have : ∀ (L : List (Nat × Nat)), L.Pairwise (fun p q => p.1 + p.2 < q.1) → p ∈ L → q ∈ L → p.1 + p.2 ≤ q.1 ∨ q.1 + q.2 ≤ p.1 := by
      intro L hL
      induction hL with
      | nil => intro h; simp at h
      | cons h _ ih =>
        intro h1 h2
        rcases List.mem_cons.1 h1 with e1 | h1 <;> rcases List.mem_cons.1 h2 with e2 | h2
        · exact absurd (e1.trans e2.symm) hne
        · have := h _ h2; rw [← e1] at this; omega
        · have := h _ h1; rw [← e2] at this; omega
        · exact ih h1 h2
    exact this _ hr hp hq
theorem Chosen.ok {L out : List (Nat × Nat)} {n : Nat} (h : Chosen L n out) : ∀ {l : List Bool}, Sound l L → OkA l out false ∧ lens out = n := by
  induction h with
  | none L => intro l _; exact ⟨trivial, rfl⟩
  | @fit L n e h0 hf =>
    intro l hs
    have := hs.2.1 _ hf.1
    have hn := hf.2.1
    exact ⟨⟨⟨by have := this.1; simp; omega, fun j hj hk => this.2 j hj (by simp at hk; omega)⟩, trivial⟩, by simp [lens]⟩
  | @long L n e r ht hn _ ih =>
    intro l hs
    have he := hs.2.1 _ ht.1
    have hs' : Sound (setR l e.1 e.2 false) (L.erase e) := by
      refine ⟨hs.1.erase _, fun q hq => ?_, fun p hp q hq => hs.2.2 p (List.mem_of_mem_erase hp) q (List.mem_of_mem_erase hq)⟩
      have hq1 := List.mem_of_mem_erase hq
      have hne : e ≠ q := fun h => by subst h; exact (List.Nodup.not_mem_erase hs.1) hq
      have hd := hs.2.2 _ ht.1 _ hq1 hne
      refine ⟨by rw [setR_len he.1]; exact (hs.2.1 _ hq1).1, fun j hj hk => ?_⟩
      rw [setR_at he.1, if_neg (by omega)]
      exact (hs.2.1 _ hq1).2 j hj hk
    obtain ⟨h1, h2⟩ := ih hs'
    exact ⟨⟨he, h1⟩, by simp [lens] at h2 ⊢; omega⟩
theorem Chosen.few {L out : List (Nat × Nat)} {n : Nat} (h : Chosen L n out) : out.length ≤ L.length ∧ ((∃ e ∈ L, n ≤ e.2) → out.length ≤ 1) ∧ (0 < n → 0 < out.length) := by
  induction h with
  | none L => simp
  | fit h0 hf =>
    have := List.length_pos_of_mem hf.1
    simp; omega
  | @long L n e r ht hn _ ih =>
    have := List.length_erase_of_mem ht.1
    have := List.length_pos_of_mem ht.1
    refine ⟨by simp; omega, fun ⟨q, hq, hle⟩ => ?_, fun _ => by simp⟩
    rcases ht.2 q hq with rfl | h1
    · omega
    · simp only [Longer] at h1; omega
end Go.Proofs.YtncpcemcdmolcaaGreat

/-
  Spaces: extents are made free, or not. Conditions: a space stands as it is said to; each extent's blocks are the other way round at its turn; the extents lie in no block of the space.
-/
namespace Go.Proofs.YtncpcemcdmolcaaGreat
open Go.RowKit Go.BigFrame
set_option linter.unusedSimpArgs false
set_option linter.unusedVariables false
/-- extents, as cells -/
def ext1 (e : Int × Int) : List Value := [.int .i64 e.1, .int .i64 e.2]
def extS (l : List (Int × Int)) : List Value := l.flatMap ext1
def natE (l : List (Nat × Nat)) : List (Int × Int) := l.map fun e => ((e.1 : Int), (e.2 : Int))
theorem ext1_len (e : Int × Int) : (ext1 e).length = 2 := rfl
theorem extS_len (l : List (Int × Int)) : (extS l).length = l.length * 2 := by
  induction l with
  | nil => rfl
  | cons e l ih => simp [extS, ext1] at ih ⊢; omega
theorem extS_at {l : List (Int × Int)} {k : Nat} {e : Int × Int} (h : l[k]? = some e) : (extS l)[k * 2]? = some (.int .i64 e.1) ∧ (extS l)[k * 2 + 1]? = some (.int .i64 e.2) :=
  ⟨by have := flat_at ext1 2 ext1_len l k 0 e h (by omega); simpa [extS, ext1] using this, by have := flat_at ext1 2 ext1_len l k 1 e h (by omega); simpa [extS, ext1] using this⟩
theorem extS_one (l : List (Int × Int)) : ∀ u ∈ extS l, u.oneCell' = true := by
  intro u hu
  obtain ⟨e, _, he⟩ := List.mem_flatMap.1 hu
  simp [ext1] at he
  rcases he with rfl | rfl <;> rfl
/-- the extents behind a slice -/
def ExtR (w : World) (B : Nat) (A : Option Addr) (l : List (Int × Int)) : Prop := Reads w B 2 A l.length (extS l)
theorem ExtR.get {w : World} {B : Nat} {A : Option Addr} {l : List (Int × Int)} (h : ExtR w B A l) {k : Nat} (hk : k < l.length) : ∃ ad e, A = some ad ∧ ad.block < B ∧ l[k]? = some e ∧ w.cell? (ad.add (k * 2)) = some (.int .i64 e.1) ∧ w.cell? ((ad.add (k * 2)).add 1) = some (.int .i64 e.2) := by
  obtain ⟨ad, e, hb, hc⟩ := h.2 (by omega)
  have he := List.getElem?_eq_getElem hk
  obtain ⟨h1, h2⟩ := extS_at he
  exact ⟨ad, _, e, hb, he, hc _ _ h1, by rw [add_of_add]; exact hc _ _ h2⟩
theorem ExtR.only {w w' : World} {B : Nat} {F : List Nat} {A : Option Addr} {l : List (Int × Int)} (h : ExtR w B A l) (ho : Only F w w') (hB : B ≤ w.heap.size) (ha : ∀ ad, A = some ad → ad.block ∉ F) : ExtR w' B A l :=
  ⟨h.1, fun hn => by
    obtain ⟨ad, e, hb, hc⟩ := h.2 hn
    exact ⟨ad, e, hb, fun j u hu => (ho.cell (by rw [block_of_add]; omega) (by rw [block_of_add]; exact ha ad e)).trans (hc j u hu)⟩⟩
theorem run_loadVar_ext (w : World) (p : Addr) (e : Int × Int) (h0 : w.cell? p = some (.int .i64 e.1)) (h1 : w.cell? (p.add 1) = some (.int .i64 e.2)) : (loadVar 64 p).run Tryz.prog w = .ok (.agg #[.int .i64 e.1, .int .i64 e.2]) w := by
  have hc : ∀ j v, (ext1 e)[j]? = some v → w.cell? (p.add j) = some v := fun j v hj => by
    match j, hj with
    | 0, hj => simp [ext1] at hj; subst hj; simpa [Addr.add] using h0
    | 1, hj => simp [ext1] at hj; subst hj; exact h1
  have hl : (loadCells p 2).run Tryz.prog w = .ok (ext1 e).toArray w := run_loadCells_list (P := Tryz.prog) w p (ext1 e) hc
  have hagg : (isAgg 64).run Tryz.prog w = .ok true w := by
    unfold isAgg
    rw [Sem.run_bind, run_underlying Tryz.underlying64 w]
    rfl
  have hi : (Tryz.prog.info? 64).map (·.size) = some 2 := by kernel_rfl
  cases hq : Tryz.prog.info? 64 with
  | none => simp [hq] at hi
  | some i =>
    have hs : i.size = 2 := by simpa [hq] using hi
    simp [loadVar, Sem.run_bind, hagg, sizeOf, typeInfo, hq, hs, hl]
    rfl
theorem wpList_load_ext {ops : Array Oper} {rest : List Oper} {op : Oper} {a : Act} {w : World} {Q : Exit → Act → World → Prop} (hgd : op.guard = none) (x : Operand) (ho : op.op = .load 64 x)
    (p : Addr) (hx : a.eval x = .pointer (some p)) (e : Int × Int) (h0 : w.cell? p = some (.int .i64 e.1)) (h1 : w.cell? (p.add 1) = some (.int .i64 e.2))
    (h : wpList Tryz.prog ops Q rest (a.put op.dst (.agg #[.int .i64 e.1, .int .i64 e.2])) w) : wpList Tryz.prog ops Q (op :: rest) a w :=
  wpList_plain hgd fun _ hK => by
    unfold Oper.wp execOp
    simp only [ho, hx, Instr.loadAt, Instr.sureAddr, Sem.run_bind, Sem.run_pure, Result.andThen_ok, run_loadVar_ext w p e h0 h1]
    exact hK _ _ h
/-- the row of flags of a space, in block r -/
def FRow (w : World) (r : Nat) (A : Option Addr) (fl : List Bool) : Prop := fl = [] ∨ (A = some ⟨r, 0, none⟩ ∧ ∃ cs : Array Value, Blk w r 4 cs ∧ ∀ (j : Nat) (v : Bool), fl[j]? = some v → cs[j]? = some (.bool v))
/-- a space in block g -/
structure SAt (w : World) (g r : Nat) (A : Option Addr) (c : Nat) (fl : List Bool) (left : Int) : Prop where
  blk : Blk w g 138 #[.slice A fl.length c, .int .i64 left]
  cap : fl.length ≤ c
  lim : fl.length ≤ 65536
  row : FRow w r A fl
section
variable {w w' : World} {g r c : Nat} {A : Option Addr} {fl : List Bool} {left : Int}
theorem FRow.of (h : FRow w r A fl) (hk : ∀ t cs, Blk w r t cs → w'.heap[r]? = w.heap[r]?) : FRow w' r A fl := by
  rcases h with h | ⟨h, cs, hb, hc⟩
  · exact .inl h
  · exact .inr ⟨h, cs, hb.of (hk _ _ hb), hc⟩
theorem FRow.reads (h : FRow w r A fl) : Reads w (r + 1) 1 A fl.length (flagsS fl) := by
  rcases h with rfl | ⟨rfl, cs, hb, hc⟩
  · exact ⟨rfl, fun h => by simp at h⟩
  · refine ⟨by simp [flagsS], fun _ => ⟨_, rfl, Nat.lt_succ_self _, fun j u hu => ?_⟩⟩
    rw [add_zero_off, hb.cell]
    simp only [flagsS, List.getElem?_map, Option.map_eq_some_iff] at hu
    obtain ⟨v, hv, rfl⟩ := hu
    exact hc j v hv
theorem FRow.set (h : FRow w r A fl) {j : Nat} (hj : j < fl.length) (b : Bool) : FRow (w.setCell ⟨r, j, none⟩ (.bool b)) r A (fl.set j b) := by
  rcases h with rfl | ⟨h, cs, hb, hc⟩
  · simp at hj
  · refine .inr ⟨h, _, hb.set_ j _, fun k v hv => ?_⟩
    rw [List.getElem?_set] at hv
    have hjc : j < cs.size := by
      have := hc j _ (List.getElem?_eq_getElem hj)
      exact (Array.getElem?_eq_some_iff.1 this).1
    rw [Array.getElem?_setIfInBounds]
    by_cases hk : j = k
    · subst hk
      rw [if_pos rfl, if_pos hj] at hv
      injection hv with hv
      rw [if_pos rfl, if_pos hjc, hv]
    · rw [if_neg hk] at hv
      rw [if_neg hk]
      exact hc k v hv
theorem FRow.cell (h : FRow w r A fl) {j : Nat} (hj : j < fl.length) : A = some ⟨r, 0, none⟩ ∧ (∃ v, w.cell? ⟨r, j, none⟩ = some (.bool v)) ∧ w.frozen? ⟨r, j, none⟩ = false ∧ r < w.heap.size ∧ ∃ cs : Array Value, Blk w r 4 cs := by
  rcases h with rfl | ⟨h, cs, hb, hc⟩
  · simp at hj
  · exact ⟨h, ⟨_, by rw [hb.cell]; exact hc j _ (List.getElem?_eq_getElem hj)⟩, hb.frozen j, hb.lt, cs, hb⟩
theorem SAt.of (h : SAt w g r A c fl left) (hg : w'.heap[g]? = w.heap[g]?) (hr : ∀ t cs, Blk w r t cs → w'.heap[r]? = w.heap[r]?) : SAt w' g r A c fl left := ⟨h.blk.of hg, h.cap, h.lim, h.row.of hr⟩
theorem SAt.below (h : SAt w g r A c fl left) {B : Nat} (hb : Below B w w') (hB : g < B) (hr : r < B) : SAt w' g r A c fl left := h.of (hb.block g hB) (fun _ _ _ => hb.block r hr)
end
set_option maxHeartbeats 1000000 in
theorem sset_any {w : World} {g r c B : Nat} {A : Option Addr} {fl : List Bool} (es : List (Nat × Nat)) (b : Bool) (hok : OkA fl es b) (h : SAt w g r A c fl (cnt fl)) (hgr : g ≠ r) (E : Option Addr) (c' : Nat) (hR : ExtR w B E (natE es)) (hB : B ≤ w.heap.size)
    (hfar : ∀ ad, E = some ad → ad.block ≠ g ∧ ad.block ≠ r) (hle : es.length ≤ 65536) :
    Calls Tryz.prog 131 #[.pointer (some ⟨g, 0, none⟩), .slice E es.length c', .bool b] w fun e w' => e = .returned (.tuple #[]) ∧ Only [g, r] w w' ∧ SAt w' g r A c (setA fl es b) (cnt (setA fl es b)) := by
  have H0 := Lib.hid h
  have HR := Lib.hid hR
  have HF := Lib.hid hfar
  have HO := Lib.hid hok
  have hn : (natE es).length = es.length := by simp [natE]
  have HN := Lib.hid hn
  clear h hR hfar hok hn
  go_enter Tryz.func131, Tryz.ntmps131
  go_wp2
  go_loopw [11] (fun i wr => ∃ k : Nat, k ≤ es.length ∧ i = .int .i64 k ∧ Only [g, r] w wr ∧ SAt wr g r A c (setA fl (es.take k) b) (cnt (setA fl (es.take k) b))) (fun i _ => es.length - (intS i).toNat)
  case atStart => exact ⟨0, by omega, rfl, Only.refl _ _, by simpa [setA] using H0.out⟩
  case round =>
    obtain ⟨k, hk, rfl, ho, hs⟩ := hrel
    obtain ⟨wo, hwo⟩ : ∃ wo, wo = wr := ⟨_, rfl⟩
    subst hwo
    have hRr : ExtR wo B E (natE es) := HR.out.only ho hB (fun ad h => by have := HF.out ad h; simp; omega)
    have HS := Lib.hid hs
    have HOn := Lib.hid ho
    clear hs ho
    by_cases hlt : k < es.length
    · obtain ⟨ad, e, rfl, hab, he, hc0, hc1⟩ := hRr.get (k := k) (by rw [HN.out]; exact hlt)
      clear hRr
      obtain ⟨⟨x, y⟩, hek⟩ : ∃ e, es[k]? = some e := ⟨_, List.getElem?_eq_getElem hlt⟩
      obtain rfl : e = ((x : Int), (y : Int)) := by
        simp only [natE, List.getElem?_map, hek, Option.map_some, Option.some.injEq] at he
        exact he.symm
      have htk := List.take_add_one (l := es) (i := k)
      rw [hek] at htk
      have hall : AllR (setA fl (es.take k) b) x y (!b) := by
        have h := HO.out
        rw [← List.take_append_drop (k + 1) es, htk, OkA.app, OkA.app] at h
        exact h.1.2.1
      have hset : setA fl (es.take (k + 1)) b = setR (setA fl (es.take k) b) x y b := by rw [htk, setA_app]; rfl
      have HT := Lib.hid hset
      have hlim := HS.out.lim
      clear htk he hset hek
      generalize setA fl (es.take k) b = f1 at *
      have HA := Lib.hid hall
      have hxy := hall.1
      have hcl := cnt_le f1
      have hct := cnt_turn hall
      clear hall
      go_wp2_with (refine wpList_load_ext rfl (.tmp 13) rfl _ rfl _ hc0 hc1 ?_)
      have B1 := Blk.new wo 64 #[.int .i64 (x : Int), .int .i64 (y : Int)]
      have S1 : SAt (wo.alloc (.cells #[.int .i64 (x : Int), .int .i64 (y : Int)] 64)) g r A c f1 (cnt f1) := HS.out.of (Below.heap_alloc _ _ _ HS.out.blk.lt) (fun _ _ hb => Below.heap_alloc _ _ _ hb.lt)
      have O1 : Only [g, r] wo (wo.alloc (.cells #[.int .i64 (x : Int), .int .i64 (y : Int)] 64)) := (Only.refl _ _).alloc _
      have hgl := HS.out.blk.lt
      have hs1 : wo.heap.size < (wo.alloc (.cells #[.int .i64 (x : Int), .int .i64 (y : Int)] 64)).heap.size := by simp
      clear hc0 hc1
      generalize wo.alloc (.cells #[.int .i64 (x : Int), .int .i64 (y : Int)] 64) = w1 at *
      have hgb : g ≠ wo.heap.size := by omega
      have HW := Lib.hid (And.intro O1 HOn.out)
      clear O1 HOn
      generalize wo.heap.size = gb at *
      have HB1 := Lib.hid B1
      have HS1 := Lib.hid S1
      clear B1 S1
      go_loopw [8, 17] (fun _ i wi => ∃ j : Nat, j ≤ y ∧ i = .int .i64 j ∧ Only [g, r] w1 wi ∧ Blk wi gb 64 #[.int .i64 (x : Int), .int .i64 (y : Int)] ∧ SAt wi g r A c (setR f1 x j b) (cnt f1)) (fun _ i _ => y - (intS i).toNat)
      case atStart => exact ⟨0, by omega, rfl, Only.refl _ _, HB1.out, by rw [setR_zero]; exact HS1.out⟩
      case round =>
        obtain ⟨j, hj, rfl, ho, hb, hs⟩ := hrel
        by_cases hlj : j < y
        · have hl2 : (setR f1 x j b).length = f1.length := setR_len (by omega) b
          have q0 : wr.cell? ⟨g, 0, none⟩ = some (.slice A f1.length c) := by rw [hs.blk.cell, hl2]; rfl
          have q1 : wr.cell? ⟨gb, 0, none⟩ = some (.int .i64 (x : Int)) := hb.cell 0
          obtain ⟨rfl, ⟨v, q2⟩, q3, hrl, -⟩ := hs.row.cell (j := x + j) (by rw [hl2]; omega)
          have hs2 : (⟨r, 0, none⟩ : Addr).add (x + j) = ⟨r, x + j, none⟩ := add_zero_off _ _
          have q2' : wr.cell? ((⟨r, 0, none⟩ : Addr).add (x + j)) = some (.bool v) := by rw [hs2]; exact q2
          have q3' : wr.frozen? ((⟨r, 0, none⟩ : Addr).add (x + j)) = false := by rw [hs2]; exact q3
          have hix : ((x : Int) + (j : Int)).toNat = x + j := by omega
          have hwx : IntKind.i64.wrap ((x : Int) + (j : Int)) = (x : Int) + (j : Int) := by rw [IntKind.wrap_i64]; omega
          have HSs := Lib.hid hs
          have HBs := Lib.hid hb
          have HOs := Lib.hid ho
          clear hs hb ho
          go_wp2
          go_region
          all_goals go_wp2
          all_goals
            refine ⟨⟨j + 1, by omega, by go_num, (HOs.out.setCell (.inl (by simp)) _).drew, ?_, ?_⟩, by simp [intS]; omega⟩
            · exact HBs.out.far (p := ⟨r, x + j, none⟩) (by show gb ≠ r; exact HBs.out.ne_ ((HSs.out.row.cell (j := x + j) (by rw [hl2]; omega)).2.2.2.2.choose_spec) (by decide)) _
            · have h0 := HSs.out
              refine ⟨?_, by rw [setR_len (by omega)]; have := h0.cap; rw [hl2] at this; exact this, by rw [setR_len (by omega)]; exact hlim, ?_⟩
              · have := h0.blk.far (p := ⟨r, x + j, none⟩) (by show g ≠ r; exact hgr) (.bool b)
                rw [hl2] at this
                rw [setR_len (by omega)]
                exact this
              · have := h0.row.set (j := x + j) (by rw [hl2]; omega) b
                rw [setR_succ (by omega)] at this
                exact this
        · obtain rfl : j = y := by omega
          have hl2 : (setR f1 x j b).length = f1.length := setR_len (by omega) b
          have q1 : wr.cell? ⟨g, 1, none⟩ = some (.int .i64 (cnt f1)) := hs.blk.cell 1
          have q2 : wr.cell? ⟨gb, 1, none⟩ = some (.int .i64 (j : Int)) := hb.cell 1
          have q3 : wr.frozen? ⟨g, 1, none⟩ = false := hs.blk.frozen 1
          have hwa : IntKind.i64.wrap ((cnt f1 : Int) + (j : Int)) = (cnt f1 : Int) + (j : Int) := by rw [IntKind.wrap_i64]; omega
          have hwb : IntKind.i64.wrap ((cnt f1 : Int) - (j : Int)) = (cnt f1 : Int) - (j : Int) := by rw [IntKind.wrap_i64]; omega
          have HSs := Lib.hid hs
          have HBs := Lib.hid hb
          have HOs := Lib.hid ho
          have HCt := Lib.hid hct
          clear hs hb ho hct
          have hend : ∀ (d : Int), d = (cnt (setR f1 x j b) : Int) → Only [g, r] w (wr.setCell ⟨g, 1, none⟩ (.int .i64 d)) ∧ SAt (wr.setCell ⟨g, 1, none⟩ (.int .i64 d)) g r A c (setA fl (es.take (k + 1)) b) (cnt (setA fl (es.take (k + 1)) b)) := by
            intro d hd
            have h0 := HSs.out
            refine ⟨((HW.out.2.trans HW.out.1 (Fresh.refl _ _)).trans (HOs.out.setCell (.inl (by simp)) _) (Fresh.refl _ _)), ?_⟩
            rw [HT.out]
            refine ⟨?_, h0.cap, h0.lim, h0.row.of fun t cs hb => Below.heap_setCell _ _ _ _ (by show r ≠ g; exact fun e => hgr e.symm)⟩
            have := h0.blk.set_ 1 (.int .i64 d)
            rw [hd] at this ⊢
            exact this
          have HE := Lib.hid hend
          clear hend
          cases b
          · go_wp2
            go_region
            all_goals go_wp2
            all_goals
              have h1 := HE.out ((cnt f1 : Int) - (j : Int)) (by have := HCt.out; simp at this; omega)
              exact ⟨⟨k + 1, by omega, by go_num, h1.1.drew, h1.2.of rfl (fun _ _ _ => rfl)⟩, by simp [intS]; omega⟩
          · go_wp2
            go_region
            all_goals go_wp2
            all_goals
              have h1 := HE.out ((cnt f1 : Int) + (j : Int)) (by have := HCt.out; simp at this; omega)
              exact ⟨⟨k + 1, by omega, by go_num, h1.1.drew, h1.2.of rfl (fun _ _ _ => rfl)⟩, by simp [intS]; omega⟩
    · obtain rfl : k = es.length := by omega
      go_wp2
      refine bodyPost_end (results_none rfl _ _ _) rfl ?_
      have h := HS.out
      rw [List.take_length] at h
      exact ⟨rfl, HOn.out, h⟩
end Go.Proofs.YtncpcemcdmolcaaGreat

/-
  Values of many cells: how a struct of two parts, or a slice of one element, is put together, whatever the cells. No condition but the sizes.
-/
namespace Go.Proofs.YtncpcemcdmolcaaGreat
open Go.RowKit

theorem fill_two (n0 n1 : Nat) (v0 v1 : Value) (z : Array Value) (h0 : v0.cells.size = n0) (h1 : v1.cells.size = n1) (hz : z.size = n0 + n1) :
    Instr.fill (fun k => [(0, n0), (n0, n1)].toArray[k]?) z [(0, v0), (1, v1)] = some (v0.cells ++ v1.cells) := by
  obtain ⟨g1, g2⟩ := Great.foldl_set 0 v0.cells.toList 0 z
  obtain ⟨g3, g4⟩ := Great.foldl_set n0 v1.cells.toList 0 ((v0.cells.toList.zipIdx 0).foldl (fun cs (x : Value × Nat) => cs.setIfInBounds (0 + x.2) x.1) z)
  have e : ∀ (v : Value) (off : Nat) (c : Array Value), v.cells.zipIdx.foldl (fun cs (x : Value × Nat) => cs.setIfInBounds (off + x.2) x.1) c = (v.cells.toList.zipIdx 0).foldl (fun cs (x : Value × Nat) => cs.setIfInBounds (off + x.2) x.1) c := fun v off c => by
    rw [← Array.foldl_toList, Array.toList_zipIdx]
  have hf : Instr.fill (fun k => [(0, n0), (n0, n1)].toArray[k]?) z [(0, v0), (1, v1)] = some (v1.cells.zipIdx.foldl (fun cs (x : Value × Nat) => cs.setIfInBounds (n0 + x.2) x.1) (v0.cells.zipIdx.foldl (fun cs (x : Value × Nat) => cs.setIfInBounds (0 + x.2) x.1) z)) := by
    unfold Instr.fill
    simp only [List.getElem?_toArray, List.getElem?_cons_zero]
    rw [if_neg (by simp; omega)]
    unfold Instr.fill
    simp only [List.getElem?_cons_succ, List.getElem?_cons_zero]
    rw [if_neg (by rw [e, g1]; simp; omega)]
    rfl
  rw [hf, e, e]
  congr 1
  apply Array.ext_getElem?
  intro k
  have g5 : ∀ k, z.size ≤ k → (((v0.cells.toList.zipIdx 0).foldl (fun cs (x : Value × Nat) => cs.setIfInBounds (0 + x.2) x.1) z))[k]? = none := fun k hk => Array.getElem?_eq_none (by omega)
  rw [g4 k, g1]
  simp only [Nat.add_zero, Array.length_toList, h1]
  rw [Array.getElem?_append]
  by_cases hk : k < n0
  · rw [if_neg (by omega), g2 k, if_pos (by simp [h0]; omega), if_pos (by omega)]
    simp
  · by_cases hk2 : k < n0 + n1
    · rw [if_pos ⟨by omega, hk2, by omega⟩, if_neg (by omega), h0]
      simp
    · rw [if_neg (by omega), g5 k (by omega), if_neg (by omega), Array.getElem?_eq_none (by omega)]

/-- what the walk's own 'build' makes of a struct of two parts, the second of one cell: rules for it -/
theorem fold_cells (cs : List Value) (Z : Array Value) (z : Value) (hz : Z.size = cs.length + 1) (hl : Z[cs.length]? = some z) :
    List.foldl (fun (c : Array Value) (x : Value × Nat) => c.setIfInBounds x.snd x.fst) Z cs.zipIdx = (cs ++ [z]).toArray := by
  obtain ⟨g1, g2⟩ := Great.foldl_set 0 cs 0 Z
  simp only [Nat.zero_add] at g1 g2
  apply Array.ext_getElem?
  intro k
  rw [g2 k]
  simp only [List.getElem?_toArray, Nat.zero_le, true_and, Nat.sub_zero]
  by_cases hk : k < cs.length
  · rw [if_pos ⟨hk, by omega⟩, List.getElem?_append_left hk]
  · rw [if_neg (by omega), List.getElem?_append_right (by omega)]
    by_cases he : k = cs.length
    · subst he; simp [hl]
    · rw [Array.getElem?_eq_none (by omega), List.getElem?_eq_none (by simp; omega)]
theorem fold_whole (cs : List Value) (Z : Array Value) (hz : Z.size = cs.length) :
    List.foldl (fun (c : Array Value) (x : Value × Nat) => c.setIfInBounds x.snd x.fst) Z cs.zipIdx = cs.toArray := by
  obtain ⟨g1, g2⟩ := Great.foldl_set 0 cs 0 Z
  simp only [Nat.zero_add] at g1 g2
  apply Array.ext_getElem?
  intro k
  rw [g2 k]
  simp only [List.getElem?_toArray, Nat.zero_le, true_and, Nat.sub_zero]
  by_cases hk : k < cs.length
  · rw [if_pos ⟨hk, by omega⟩]
  · rw [if_neg (by omega), Array.getElem?_eq_none (by omega), List.getElem?_eq_none (by omega)]
theorem set_last (cs : List Value) (n : Nat) (hn : cs.length = n) (z x : Value) : (cs ++ [z]).toArray.setIfInBounds n x = (cs ++ [x]).toArray := by
  subst hn
  apply Array.ext_getElem?
  intro k
  simp only [List.setIfInBounds_toArray, List.getElem?_toArray, List.getElem?_set]
  by_cases hk : cs.length = k
  · subst hk; simp
  · rw [if_neg hk]
    by_cases h2 : k < cs.length
    · rw [List.getElem?_append_left h2, List.getElem?_append_left h2]
    · rw [List.getElem?_append_right (by omega), List.getElem?_append_right (by omega), List.getElem?_eq_none (by simp; omega), List.getElem?_eq_none (by simp; omega)]
/-- a struct of two parts -/
theorem run_build_two {P : Program} {t : TypeId} {n0 n1 : Nat} {fields : Array Field} (hu : P.underlying t = some (.struct fields)) (hz : (P.info? t).bind (fun i => i.zero.map fun z => z.cells.size) = some (n0 + n1))
    (hp : fields.toList.mapM (fun f => (P.info? f.type).map fun i => (f.offset, i.size)) = some [(0, n0), (n0, n1)]) {v0 v1 : Value} (h0 : v0.cells.size = n0) (h1 : v1.cells.size = n1) (w : World) :
    (Instr.build t #[(0, v0), (1, v1)]).run P w = .ok (.agg (v0.cells ++ v1.cells)) w := by
  cases hi : P.info? t with
  | none => simp [hi] at hz
  | some it =>
    cases hz' : it.zero with
    | none => simp [hi, hz'] at hz
    | some z =>
      simp [hi, hz'] at hz
      refine run_build w t _ _ ?_
      unfold Program.built
      simp only [hi, hu, hz', hp]
      exact fill_two n0 n1 v0 v1 z.cells h0 h1 hz

/-- a slice of one element -/
theorem run_buildSlice_one {P : Program} {t e : TypeId} {size : Nat} (hu : P.underlying t = some (.slice e)) (hz : (P.info? e).bind (fun i => i.zero.map fun z => (i.size, z.cells.size)) = some (size, size)) (hs : 0 < size) (hb : size ≤ 16777216) {v : Value} (h0 : v.cells.size = size) (w : World) :
    (Instr.buildSlice t 1 #[(0, v)]).run P w = .ok (.slice (some ⟨w.heap.size, 0, none⟩) 1 1) (w.alloc (.cells v.cells e)) := by
  cases hi : P.info? e with
  | none => simp [hi] at hz
  | some ie =>
    cases hz' : ie.zero with
    | none => simp [hi, hz'] at hz
    | some z =>
      simp [hi, hz'] at hz
      obtain ⟨e1, e2⟩ := hz
      refine run_buildSlice w t e 1 _ _ ie z hu hi hz' (by rw [e1]; omega) (by rw [e1]; omega) ?_
      have := Great.fill_whole hs [v] ((Array.range (1 * ie.size)).map (z.cells[· % z.cells.size]!)) (fun u hu => by simp at hu; subst hu; exact h0) (by simp [e1])
      rw [e1] at this ⊢
      simpa using this
/-- a store of many cells into the variable that was made last -/
theorem wpList_store_new {P : Program} {ops : Array Oper} {rest : List Oper} {o : Oper} {a : Act} {w : World} {Q : Exit → Act → World → Prop} (hgd : o.guard = none) (ty : TypeId) (x y : Operand) (ho : o.op = .store ty x y)
    (cells : List Value) (Z : Array Value) (hx : a.eval x = .pointer (some ⟨w.heap.size, 0, none⟩)) (hy : a.eval y = .agg cells.toArray) (hi : (P.info? ty).map (·.size) = some cells.length) (hz : Z.size = cells.length) (h1 : ∀ v ∈ cells, v.oneCell' = true)
    (h : wpList P ops Q rest (a.put o.dst undef) (w.alloc (.cells cells.toArray ty))) : wpList P ops Q (o :: rest) a (w.alloc (.cells Z ty)) :=
  wpList_plain hgd fun _ hK => by
    have hr := run_storeAt_new (P := P) w ty Z cells.toArray (by simpa using hi) (by simpa using hz) (all_oneCell_toArray h1)
    unfold Oper.wp execOp
    simp only [ho, hx, hy, Sem.run_bind, hr, Result.andThen_ok]
    exact hK _ _ h
/-- the same, the block's number as the walk spells it -/
theorem wpList_store_newN {P : Program} {ops : Array Oper} {rest : List Oper} {o : Oper} {a : Act} {w : World} {Q : Exit → Act → World → Prop} (hgd : o.guard = none) (ty : TypeId) (x y : Operand) (ho : o.op = .store ty x y) (N : Nat) (hN : w.heap.size = N)
    (cells : List Value) (Z : Array Value) (hx : a.eval x = .pointer (some ⟨N, 0, none⟩)) (hy : a.eval y = .agg cells.toArray) (hi : (P.info? ty).map (·.size) = some cells.length) (hz : Z.size = cells.length) (h1 : ∀ v ∈ cells, v.oneCell' = true)
    (h : wpList P ops Q rest (a.put o.dst undef) (w.alloc (.cells cells.toArray ty))) : wpList P ops Q (o :: rest) a (w.alloc (.cells Z ty)) := by
  subst hN
  exact wpList_store_new hgd ty x y ho cells Z hx hy hi hz h1 h
end Go.Proofs.YtncpcemcdmolcaaGreat

/-
  Spaces: the holes, rising. Conditions: a space stands as it is said to.
-/
namespace Go.Proofs.YtncpcemcdmolcaaGreat
open Go.RowKit Go.BigFrame
set_option linter.unusedSimpArgs false
set_option linter.unusedVariables false
theorem ext_info : (Tryz.prog.info? 64).map (fun i => (i.zero, i.size, i.bytes)) = some (some (.agg #[.int .i64 0, .int .i64 0]), 2, 16) := by kernel_rfl
/-- a row of extents of the call's own -/
def OwnE (w : World) (base : Nat) (v : Value) (l : List (Int × Int)) : Prop := w.ownsRow base 64 2 v l.length (extS l)
section
variable {w w' : World} {base n c : Nat} {A : Option Addr} {v : Value} {l : List (Int × Int)}
theorem OwnE.ext (h : OwnE w base (.slice A l.length c) l) : ExtR w w.heap.size A l := Reads.of_own h
theorem OwnE.weaken {base' : Nat} (h : OwnE w base v l) (hb : base' ≤ base) : OwnE w base' v l := row_weaken h hb
theorem OwnE.form (h : OwnE w base v l) : ∃ (A : Option Addr) (cap : Nat), v = .slice A l.length cap ∧ (∀ a, A = some a → base ≤ a.block ∧ a.block < w.heap.size ∧ a = ⟨a.block, 0, none⟩) := by
  rcases h.2 with ⟨rfl, h0⟩ | ⟨g, cap, cur, rfl, hb, hh, _⟩
  · exact ⟨none, 0, by rw [h0], fun a e => by cases e⟩
  · refine ⟨_, cap, rfl, fun a e => ?_⟩
    injection e with e
    subst e
    exact ⟨hb, Blk.lt (t := 64) hh, rfl⟩
theorem OwnE.below (h : OwnE w base v l) {B : Nat} (hb : Below B w w') (hB : ∀ k, k ∈ rowOf v → k < B) : OwnE w' base v l := row_of h fun k hk => hb.block k (hB k hk)
theorem OwnE.nil (w : World) (base : Nat) : OwnE w base (.slice none 0 0) [] := World.ownsRow_nil w base _ 2
end
theorem app_ext {w : World} {ops : Array Oper} {rest : List Oper} {o : Oper} {a : Act} {Q : Exit → Act → World → Prop} (s x : Operand)
    (hgd : o.guard = none) (ho : o.op = .call { callee := .builtin .append, args := #[s, x], argTypes := #[61, 61] })
    (base : Nat) (v : Value) (l : List (Int × Int)) (hs : a.eval s = v) (hown : OwnE w base v l)
    (B : Nat) (A : Option Addr) (m c : Nat) (news : List (Int × Int)) (hx : a.eval x = .slice A m c) (hm : m = news.length) (hr : ExtR w B A news)
    (hsz : l.length + m ≤ 10000000) (hbase : base ≤ w.heap.size)
    (h : ∀ v' w', OwnE w' base v' (l ++ news) → w.grownBy w' v.ownBlock → (v'.ownBlock = v.ownBlock ∨ v'.ownBlock = some w.heap.size) → wpList Tryz.prog ops Q rest (a.put o.dst v') w') :
    wpList Tryz.prog ops Q (o :: rest) a w := by
  subst hm
  obtain ⟨i0, hi0, hz0, hz1, hz2⟩ := info_parts ext_info
  refine wpList_append_any w hgd s x _ ho base 64 i0 _ 2 16 Tryz.underlying61 hi0 hz0 hz1 hz2 rfl (by omega) v l.length (extS l) hs hown B A news.length c (extS news) hx hr (extS_one _) (by simp only [maxLen]; omega) (by omega) hbase ?_
  intro v' w' h1 h2 h3
  exact h v' w' (by unfold OwnE; rw [extS, List.flatMap_append, List.length_append]; exact h1) h2 h3
theorem build_ext (v : Int × Int) (w : World) : (Instr.buildSlice 61 1 #[(0, .agg #[.int .i64 v.1, .int .i64 v.2])]).run Tryz.prog w = .ok (.slice (some ⟨w.heap.size, 0, none⟩) 1 1) (w.alloc (.cells (ext1 v).toArray 64)) :=
  run_buildSlice_one (size := 2) Tryz.underlying61 (by kernel_rfl) (by omega) (by omega) rfl w
theorem ext_new (w : World) (v : Int × Int) : ExtR (w.alloc (.cells (ext1 v).toArray 64)) (w.heap.size + 1) (some ⟨w.heap.size, 0, none⟩) [v] := by
  have := Reads.newN w (ext1 v) 1 2 64 (0, 0) rfl
  simpa [ExtR, extS] using this
set_option maxHeartbeats 1000000 in
theorem sholes_any {w : World} {g r c : Nat} {A : Option Addr} {fl : List Bool} {left : Int} (h : SAt w g r A c fl left) :
    Calls Tryz.prog 130 #[.pointer (some ⟨g, 0, none⟩)] w fun e w' => ∃ v, e = .returned v ∧ OwnE w' w.heap.size v (natE (hol 0 fl)) ∧ Below w.heap.size w w' := by
  have H := Lib.hid h
  have hlim := h.lim
  have hcap := h.cap
  have hgl := h.blk.lt
  have hrl : ∀ wx, Below w.heap.size w wx → SAt wx g r A c fl left := fun wx hb => h.of (hb.block g hgl) (fun _ _ hx => hb.block r hx.lt)
  have HK := Lib.hid hrl
  clear h hrl
  go_enter Tryz.func130, Tryz.ntmps130
  go_wp2
  go_loopw [3, 4] (fun v i wr => ∃ (k : Nat) (l : List (Int × Int)), k ≤ fl.length + 1 ∧ i = .int .i64 k ∧ OwnE wr w.heap.size v l ∧ l.length ≤ k ∧ Below w.heap.size w wr ∧ l ++ natE (hol k (fl.drop k)) = natE (hol 0 fl)) (fun _ i _ => fl.length + 2 - (intS i).toNat)
  case atStart => exact ⟨0, [], by omega, rfl, OwnE.nil _ _, by simp, Below.refl _ _, by simp⟩
  case round =>
    obtain ⟨k, l, hk, rfl, ho, hlk, hb, hl⟩ := hrel
    obtain ⟨A1, cap, rfl, hA1⟩ := ho.form
    have hs := HK.out _ hb
    have HL := Lib.hid hl
    have HO := Lib.hid ho
    have HB := Lib.hid hb
    have HS := Lib.hid (slen_any hs.blk)
    have hrb := hs.row.reads
    have HF := fun (hk : k ≤ fl.length) => freeFrom_any fl k hk hcap (by omega) hs.blk hrb
    clear hl ho hb hs hA1 hrb
    by_cases hlt : k < fl.length
    · have HF' := Lib.hid (HF (by omega))
      clear HF
      have hru := run_le (fl.drop k)
      rw [List.length_drop] at hru
      have h0 := hol_step0 (fl.drop k) k
      have h1 := hol_step (fl.drop k) k
      rw [List.drop_drop] at h0 h1
      have HH := Lib.hid (And.intro h0 h1)
      clear h0 h1
      generalize runOf (fl.drop k) = n at *
      go_wp2_with fail
      refine HS.out.mono ?_
      rintro e w' ⟨rfl, rfl⟩
      go_wp2_with fail
      refine HF'.out.mono ?_
      rintro e w' ⟨rfl, rfl⟩
      by_cases hn : n = 0
      · have hN := HH.out.1 hn
        have HN := Lib.hid hN
        clear hN HH
        subst hn
        go_wp2
        go_roundw
        case rel => exact ⟨k + 1, l, by omega, by go_num, HO.out, by omega, HB.out, by rw [← HN.out]; exact HL.out⟩
        case measure => simp [intS]; omega
      · have hd : decide ((0 : Int) < (n : Int)) = true := decide_eq_true (by omega)
        have hN := HH.out.2 (by omega)
        have HN := Lib.hid hN
        clear hN HH
        have hbz := HB.out.size
        have hex := ext_new wr ((k : Int), (n : Int))
        have how : OwnE (wr.alloc (.cells (ext1 ((k : Int), (n : Int))).toArray 64)) w.heap.size (.slice A1 l.length cap) l := HO.out.alloc _
        have HX := Lib.hid (And.intro hex how)
        clear hex how
        have hbw : Below w.heap.size w (wr.alloc (.cells (ext1 ((k : Int), (n : Int))).toArray 64)) := HB.out.alloc (by omega) _
        have HBW := Lib.hid hbw
        clear hbw
        have hwx : IntKind.i64.wrap ((k : Int) + (n : Int)) = (k : Int) + (n : Int) := by rw [IntKind.wrap_i64]; omega
        go_wp2_with (refine app_ext (.tmp 17) (.tmp 21) rfl rfl w.heap.size (.slice A1 l.length cap) l rfl HX.out.2 (wr.heap.size + 1) _ 1 1 [((k : Int), (n : Int))] rfl rfl HX.out.1 (by omega) (by simp; omega) ?_; intro v2 w2 h2 g2 a2)
        have hb2 : Below w.heap.size w w2 := HBW.out.grown g2 (by simp; omega) (fun j hj => (World.ownsRow.lt HO.out _ hj).1)
        have HB2 := Lib.hid hb2
        have HO2 := Lib.hid h2
        clear hb2 h2 a2 g2
        go_roundw
        case rel =>
          refine ⟨k + n + 1, l ++ [((k : Int), (n : Int))], by omega, by go_num, HO2.out, by simp; omega, HB2.out, ?_⟩
          have hL := HL.out
          rw [HN.out] at hL
          rw [← hL]
          simp only [natE, List.map_cons, List.append_assoc, List.singleton_append]
          rw [show k + (n + 1) = k + n + 1 by omega]
        case measure => simp [intS]; omega
    · clear HF
      go_wp2_with fail
      refine HS.out.mono ?_
      rintro e w' ⟨rfl, rfl⟩
      go_wp2
      go_ret
      have h := HL.out
      rw [List.drop_of_length_le (by omega)] at h
      simp [hol, natE] at h
      exact ⟨_, rfl, by rw [natE, ← h]; exact HO.out, HB.out⟩
end Go.Proofs.YtncpcemcdmolcaaGreat

/-
  Spaces: extents are turned, all of them or none. Conditions: a space stands as it is said to; the extents' numbers are int's; they lie in no block of the space.
-/
namespace Go.Proofs.YtncpcemcdmolcaaGreat
open Go.RowKit Go.BigFrame
set_option linter.unusedSimpArgs false
set_option linter.unusedVariables false
def InI (e : Int × Int) : Prop := (-9223372036854775808 ≤ e.1 ∧ e.1 ≤ 9223372036854775807) ∧ -9223372036854775808 ≤ e.2 ∧ e.2 ≤ 9223372036854775807
/-- an extent has blocks, all are there and are b -/
def AllE (fl : List Bool) (e : Int × Int) (b : Bool) : Prop := ∃ x y : Nat, e = ((x : Int), (y : Int)) ∧ 1 ≤ y ∧ AllR fl x y b
/-- what a call of all tells -/
def Told (w : World) (P : Prop) (e : Ending) (w' : World) : Prop := ∃ r : Bool, e = .returned (.bool r) ∧ Below w.heap.size w w' ∧ (r = true ↔ P)
theorem allR_iff {fl : List Bool} {x y : Nat} (h : x + y ≤ fl.length) (b : Bool) : (∀ z ∈ (fl.drop x).take y, z = b) ↔ AllR fl x y b := by
  refine ⟨fun hz => ⟨h, fun j hj hk => ?_⟩, fun ha z hz => ?_⟩
  · have hjl : j < fl.length := by omega
    rw [List.getElem?_eq_getElem hjl, Option.some.injEq]
    refine hz _ ?_
    have : ((fl.drop x).take y)[j - x]? = some fl[j] := by
      rw [List.getElem?_take, if_pos (by omega), List.getElem?_drop, show x + (j - x) = j by omega, List.getElem?_eq_getElem hjl]
    exact List.mem_of_getElem? this
  · obtain ⟨k, hk, rfl⟩ := List.mem_iff_getElem.1 hz
    have hkl : k < y := by simp at hk; omega
    have h1 := ha.2 (x + k) (by omega) (by omega)
    have : ((fl.drop x).take y)[k]? = some (((fl.drop x).take y)[k]) := List.getElem?_eq_getElem hk
    rw [List.getElem?_take, if_pos hkl, List.getElem?_drop, h1] at this
    injection this with this
    exact this.symm
theorem sall_any {w : World} {g r c : Nat} {A : Option Addr} {fl : List Bool} {left : Int} (e : Int × Int) (b : Bool) (hi : InI e) (h : SAt w g r A c fl left) :
    Calls Tryz.prog 143 #[.pointer (some ⟨g, 0, none⟩), .agg #[.int .i64 e.1, .int .i64 e.2], .bool b] w (Told w (AllE fl e b)) := by
  obtain ⟨x, y⟩ := e
  have hlim := h.lim
  by_cases hno : y < 1 ∨ x < 0 ∨ (fl.length : Int) < x + y
  · refine (sall_not fl x y b hi.1.1 hi.1.2 hi.2.1 hi.2.2 (by omega) h.blk hno).mono ?_
    rintro e w' ⟨rfl, hb⟩
    refine ⟨false, rfl, hb, by simp, fun ⟨nx, ny, he, h1, h2⟩ => ?_⟩
    injection he with e1 e2
    have := h2.1
    omega
  · obtain ⟨nx, rfl⟩ : ∃ n : Nat, x = n := ⟨x.toNat, by omega⟩
    obtain ⟨ny, rfl⟩ : ∃ n : Nat, y = n := ⟨y.toNat, by omega⟩
    have hpos : fl ≠ [] := fun e => by subst e; simp at hno; omega
    have hrl : r + 1 ≤ w.heap.size := by
      rcases h.row with e | ⟨_, cs, hb, _⟩
      · exact absurd e hpos
      · exact hb.lt
    refine (sall_in fl nx ny b (by omega) (by omega) h.cap (by omega) h.blk hrl h.row.reads).mono ?_
    rintro e w' ⟨r, rfl, hb, hr⟩
    refine ⟨r, rfl, hb, hr.trans ⟨fun hz => ⟨nx, ny, rfl, by omega, (allR_iff (by omega) b).1 hz⟩, fun ⟨a, d, he, h1, h2⟩ => ?_⟩⟩
    injection he with e1 e2
    obtain rfl : nx = a := by omega
    obtain rfl : ny = d := by omega
    exact (allR_iff (by omega) b).2 h2
theorem run_head_ext (A : Option Addr) (n c i : Nat) (h : i ≤ c) (w : World) : (Instr.slice 61 (.slice A n c) none (some (.int .i64 (i : Int))) none).run Tryz.prog w = .ok (.slice (if c = 0 then A else A.map (·.add 0)) i c) w := by
  have hsz : ∀ w, (sizeOf (Tryz.prog.elem 61)).run Tryz.prog w = .ok 2 w := fun w => by kernel_rfl
  rw [run_slice_h w 61 A n c (by kernel_rfl) .i64 (i : Int) (by omega) (by omega), hsz]
  simp [Result.andThen, sliced]
theorem run_one_ext (A : Option Addr) (n c i : Nat) (h : i + 1 ≤ c) (w : World) : (Instr.slice 61 (.slice A n c) (some (.int .i64 (i : Int))) (some (.int .i64 ((i : Int) + 1))) none).run Tryz.prog w = .ok (.slice (A.map (·.add (i * 2))) 1 (c - i)) w := by
  have hsz : ∀ w, (sizeOf (Tryz.prog.elem 61)).run Tryz.prog w = .ok 2 w := fun w => by kernel_rfl
  rw [run_slice_lh w 61 A n c (by kernel_rfl) .i64 .i64 (i : Int) ((i : Int) + 1) (by omega) (by omega) (by omega), hsz]
  simp only [Result.andThen, sliced, Int.toNat_natCast]
  rw [show ((i : Int) + 1).toNat - i = 1 by omega, if_neg (by omega)]
/-- extents that may be turned: as numbers -/
def TurnOk (fl : List Bool) (es : List (Int × Int)) (b : Bool) (ns : List (Nat × Nat)) : Prop := es = natE ns ∧ (∀ e ∈ ns, 1 ≤ e.2) ∧ OkA fl ns b
theorem TurnOk.snoc {fl : List Bool} {es : List (Int × Int)} {b : Bool} {ns : List (Nat × Nat)} (h : TurnOk fl es b ns) {e : Int × Int} (ha : AllE (setA fl ns b) e (!b)) : ∃ x y : Nat, e = ((x : Int), (y : Int)) ∧ AllR (setA fl ns b) x y (!b) ∧ TurnOk fl (es ++ [e]) b (ns ++ [(x, y)]) := by
  obtain ⟨x, y, rfl, hy, ha⟩ := ha
  refine ⟨x, y, rfl, ha, by rw [h.1]; simp [natE], fun e he => ?_, OkA.app.2 ⟨h.2.2, ha, trivial⟩⟩
  rcases List.mem_append.1 he with he | he
  · exact h.2.1 e he
  · simp at he; subst he; exact hy
theorem TurnOk.stop {fl : List Bool} {es fs : List (Int × Int)} {b : Bool} {ns : List (Nat × Nat)} (h : TurnOk fl es b ns) {e : Int × Int} (ha : ¬ AllE (setA fl ns b) e (!b)) : ∀ ms, ¬ TurnOk fl (es ++ e :: fs) b ms := by
  rintro ms ⟨h1, h2, h3⟩
  have hl : es.length ≤ ms.length := by have := congrArg List.length h1; simp [natE] at this; omega
  have e1 : natE (ms.take es.length) = es := by
    have := congrArg (List.take es.length) h1
    rw [List.take_left' rfl] at this
    rw [natE, List.map_take]
    exact this.symm
  have inj : ∀ a b : List (Nat × Nat), natE a = natE b → a = b := fun a b hab => by
    refine (List.map_inj_right ?_).1 hab
    rintro ⟨p, q⟩ ⟨p', q'⟩ hh
    simp only [Prod.mk.injEq] at hh ⊢
    omega
  have e2 : ms.take es.length = ns := inj _ _ (e1.trans h.1)
  have e3 := congrArg (List.drop es.length) h1
  rw [List.drop_left' rfl, natE, ← List.map_drop] at e3
  cases hd : ms.drop es.length with
  | nil => rw [hd] at e3; simp at e3
  | cons m r =>
    rw [hd] at e3
    simp only [List.map_cons, List.cons.injEq] at e3
    have hm : m ∈ ms := List.mem_of_mem_drop (by rw [hd]; exact List.mem_cons_self ..)
    rw [← List.take_append_drop es.length ms, e2, hd, OkA.app] at h3
    exact ha ⟨m.1, m.2, e3.1, h2 m hm, h3.2.1⟩
/-- what a call of turn comes to -/
def TurnTo (w : World) (g r c : Nat) (A : Option Addr) (fl : List Bool) (es : List (Int × Int)) (b : Bool) (e : Ending) (w' : World) : Prop :=
  Only [g, r] w w' ∧ ((∃ ns, TurnOk fl es b ns ∧ e = .returned .nilIface ∧ SAt w' g r A c (setA fl ns b) (cnt (setA fl ns b))) ∨ ((∀ ns, ¬ TurnOk fl es b ns) ∧ e = .returned (errV 1) ∧ SAt w' g r A c fl (cnt fl)))
set_option maxHeartbeats 1000000 in
theorem sturn_any {w : World} {g r c B : Nat} {A : Option Addr} {fl : List Bool} (es : List (Int × Int)) (b : Bool) (hI : ∀ e ∈ es, InI e) (h : SAt w g r A c fl (cnt fl)) (hgr : g ≠ r) (E : Option Addr) (c' : Nat) (hc' : es.length ≤ c') (hR : ExtR w B E es) (hB : B ≤ w.heap.size)
    (hfar : ∀ ad, E = some ad → ad.block ≠ g ∧ ad.block ≠ r) (hle : es.length ≤ 65536) :
    Calls Tryz.prog 126 #[.pointer (some ⟨g, 0, none⟩), .slice E es.length c', .bool b] w (TurnTo w g r c A fl es b) := by
  have H0 := Lib.hid h
  have HR := Lib.hid hR
  have HF := Lib.hid hfar
  have HI := Lib.hid hI
  clear h hR hfar hI
  go_enter Tryz.func126, Tryz.ntmps126
  go_wp2
  go_loopw [11] (fun i wr => ∃ (k : Nat) (ns : List (Nat × Nat)), k ≤ es.length ∧ i = .int .i64 k ∧ Only [g, r] w wr ∧ TurnOk fl (es.take k) b ns ∧ SAt wr g r A c (setA fl ns b) (cnt (setA fl ns b))) (fun i _ => es.length - (intS i).toNat)
  case atStart => exact ⟨0, [], by omega, rfl, Only.refl _ _, ⟨rfl, by simp, trivial⟩, by simpa [setA] using H0.out⟩
  case round =>
    obtain ⟨k, ns, hk, rfl, ho, ht, hs⟩ := hrel
    obtain ⟨wo, hwo⟩ : ∃ wo, wo = wr := ⟨_, rfl⟩
    subst hwo
    have HS := Lib.hid hs
    have HT := Lib.hid ht
    have HOn := Lib.hid ho
    have hRr : ExtR wo B E es := HR.out.only ho hB (fun ad h => by have := HF.out ad h; simp; omega)
    clear hs ho ht
    by_cases hlt : k < es.length
    · obtain ⟨ad, e, rfl, hab, he, hc0, hc1⟩ := hRr.get hlt
      have HRr := Lib.hid hRr
      have hie : InI e := HI.out e (List.mem_of_getElem? he)
      have htk := List.take_add_one (l := es) (i := k)
      rw [he] at htk
      have hsp : es = es.take k ++ e :: es.drop (k + 1) := by
        have h0 := (List.take_append_drop k es).symm
        rwa [List.drop_eq_getElem_cons hlt, show es[k] = e by rw [List.getElem?_eq_getElem hlt] at he; injection he] at h0
      have HT2 := Lib.hid (And.intro htk (And.intro hsp he))
      have S1 : SAt (wo.alloc (.cells #[.int .i64 e.1, .int .i64 e.2] 64)) g r A c (setA fl ns b) (cnt (setA fl ns b)) := HS.out.of (Below.heap_alloc _ _ _ HS.out.blk.lt) (fun _ _ hb => Below.heap_alloc _ _ _ hb.lt)
      have O1 : Only [g, r] w (wo.alloc (.cells #[.int .i64 e.1, .int .i64 e.2] 64)) := HOn.out.alloc _
      have HS1 := Lib.hid S1
      have HO1 := Lib.hid O1
      have HA := Lib.hid (sall_any e (!b) hie S1)
      clear hRr htk hsp he S1 O1
      go_wp2_with (refine wpList_load_ext rfl (.tmp 14) rfl _ rfl _ hc0 hc1 ?_)
      clear hc0 hc1
      refine HA.out.mono ?_
      rintro e3 w3 ⟨rr, rfl, hb3, hrr⟩
      have S3 : SAt w3 g r A c (setA fl ns b) (cnt (setA fl ns b)) := HS1.out.of (hb3.block g HS1.out.blk.lt) (fun _ _ hx => hb3.block r hx.lt)
      have O3 : Only [g, r] w w3 := HO1.out.trans (Only.of_below hb3 [g, r]) (Fresh.refl _ _)
      have R3 : ExtR w3 B (some ad) es := HR.out.only O3 hB (fun ad h => by have := HF.out ad h; simp; omega)
      have z3 := O3.size
      have HX := Lib.hid (And.intro S3 (And.intro O3 R3))
      have HRR := Lib.hid hrr
      clear HS HS1 HO1 HA HRr S3 O3 R3 hb3 hrr
      cases rr
      · have hno : ¬ AllE (setA fl ns b) e (!b) := fun h => by have := HRR.out.2 h; cases this
        have HN := Lib.hid hno
        clear hno
        have hkl : (es.take k).length = k := by simp; omega
        have hnl : ns.length = k := by have := congrArg List.length HT.out.1; simp [natE] at this; omega
        have hback := HT.out.2.2.back
        have hRk : ExtR w3 B (some ad) (natE ns) := by
          rw [← HT.out.1]
          have := HX.out.2.2
          refine ⟨by rw [extS_len], fun hn => ?_⟩
          obtain ⟨ad', e', hb', hc'⟩ := this.2 (by omega)
          refine ⟨ad', e', hb', fun j u hu => hc' j u ?_⟩
          rw [← List.take_append_drop k es, extS, List.flatMap_append]
          exact (List.getElem?_append_left (show j < (extS (es.take k)).length from (List.getElem?_eq_some_iff.1 hu).1)).trans hu
        have hsl := run_head_ext (some ad) es.length c' k (by omega)
        have hadd : (if c' = 0 then some ad else Option.map (fun x => Addr.add x 0) (some ad)) = some ad := by split <;> simp [Addr.add]
        rw [hadd] at hsl
        have hset := sset_any (B := B) ns (!b) (hback.1) HX.out.1 hgr (some ad) c' hRk (by omega) (fun ad' h => HF.out ad' h) (by omega)
        rw [hback.2, hnl] at hset
        have HSE := Lib.hid hset
        clear hset hback hRk hadd
        go_wp2_with fail
        refine HSE.out.mono ?_
        rintro e4 w4 ⟨rfl, ho4, hs4⟩
        go_wp2
        go_ret
        refine ⟨HX.out.2.1.trans ho4 (Fresh.refl _ _), .inr ⟨?_, rfl, hs4⟩⟩
        rw [HT2.out.2.1]
        exact HT.out.stop HN.out
      · obtain ⟨x, y, rfl, hxy, htn⟩ := HT.out.snoc (HRR.out.1 rfl)
        have hRk : ExtR w3 B (some (ad.add (k * 2))) (natE [(x, y)]) := by
          have := HX.out.2.2
          obtain ⟨ad', e1, e', hb', h0, h1, h2⟩ := this.get hlt
          have he2 := HT2.out.2.2
          rw [h0] at he2
          injection he2 with he2
          subst he2
          injection e' with e'
          subst e'
          refine ⟨rfl, fun _ => ⟨_, rfl, by rw [block_of_add]; exact hb', fun j u hu => ?_⟩⟩
          match j, hu with
          | 0, hu => simp [extS, ext1, natE] at hu; subst hu; simpa [Addr.add] using h1
          | 1, hu => simp [extS, ext1, natE] at hu; subst hu; exact h2
        have hsl := run_one_ext (some ad) es.length c' k (by omega)
        rw [Option.map_some] at hsl
        have hset := sset_any (B := B) [(x, y)] b ⟨hxy, trivial⟩ HX.out.1 hgr (some (ad.add (k * 2))) (c' - k) hRk (by omega) (fun ad' h => by injection h with h; subst h; rw [block_of_add]; exact HF.out ad rfl) (by simp)
        rw [show setA (setA fl ns b) [(x, y)] b = setA fl (ns ++ [(x, y)]) b from (setA_app _ _ _ _).symm] at hset
        have HSE := Lib.hid hset
        have HTN := Lib.hid htn
        have hwk : IntKind.i64.wrap ((k : Int) + 1) = (k : Int) + 1 := by rw [IntKind.wrap_i64]; omega
        clear hset hRk hxy htn
        go_wp2_with fail
        refine HSE.out.mono ?_
        rintro e4 w4 ⟨rfl, ho4, hs4⟩
        have HF4 := Lib.hid (And.intro ho4 hs4)
        clear ho4 hs4
        go_wp2
        go_roundw
        case rel => exact ⟨k + 1, ns ++ [(x, y)], by omega, by go_num, HX.out.2.1.trans HF4.out.1 (Fresh.refl _ _), by rw [HT2.out.1]; exact HTN.out, HF4.out.2⟩
        case measure => simp [intS]; omega
    · obtain rfl : k = es.length := by omega
      clear hRr
      go_wp2
      go_ret
      have h := HT.out
      rw [List.take_length] at h
      exact ⟨HOn.out, .inl ⟨ns, h, rfl, HS.out⟩⟩
end Go.Proofs.YtncpcemcdmolcaaGreat
