/-
  Spaces: whether an extent's blocks are all there and like each other. Conditions: a space's row reads as it is said to; the extent's numbers are int's.
-/
import Derived.Test.YtliockcbnmbhnaaSb
import Derived.BigQuiet
namespace Go.Proofs.Ytliockcbnmbhnaa
open Go.RowKit Go.BigFrame
set_option linter.unusedSimpArgs false
set_option linter.unusedVariables false
/-- an extent has blocks, all are there, all are like b -/
def AllAt (fl : List Bool) (x y : Int) (b : Bool) : Prop := 1 ≤ y ∧ 0 ≤ x ∧ x + y ≤ (fl.length : Int) ∧ ∀ j : Nat, x ≤ (j : Int) → (j : Int) < x + y → fl[j]? = some b
theorem drawn_below {B : Nat} {a w : World} (h : Below B a w) (q : Nat) : Below B a (w.drewN q) := ⟨h.os, h.tape, h.output, h.size, h.block⟩
set_option maxHeartbeats 1000000 in
theorem sall_not {w : World} {g : Nat} {A : Option Addr} {c : Nat} {left : Int} (fl : List Bool) (x y : Int) (b : Bool) (hx1 : -9223372036854775808 ≤ x) (hx2 : x ≤ 9223372036854775807) (hy1 : -9223372036854775808 ≤ y) (hy2 : y ≤ 9223372036854775807) (hl : fl.length ≤ 1000000000)
    (h : Blk w g 62 #[.slice A fl.length c, .int .i64 left]) (hno : y < 1 ∨ x < 0 ∨ (fl.length : Int) < x + y) :
    Calls Try.prog 43 #[.pointer (some ⟨g, 0, none⟩), .agg #[.int .i64 x, .int .i64 y], .bool b] w fun e w' => e = .returned (.bool false) ∧ Below w.heap.size w w' := by
  have H := Lib.hid h
  clear h
  by_cases h1 : y < 1
  · have hd1 : decide (y < 1) = true := decide_eq_true h1
    clear hno
    go_enter Try.func43, Try.ntmps43
    go_wp2
    go_quiet (fail)
    go_wp2
    go_ret
    exact ⟨rfl, drawn_below ((Below.refl _ _).alloc (Nat.le_refl _) _) _⟩
  · have hd1 : decide (y < 1) = false := decide_eq_false h1
    by_cases h2 : x < 0
    · have hd2 : decide (x < 0) = true := decide_eq_true h2
      clear hno
      go_enter Try.func43, Try.ntmps43
      go_wp2
      go_quiet (fail)
      go_wp2
      go_ret
      exact ⟨rfl, drawn_below ((Below.refl _ _).alloc (Nat.le_refl _) _) _⟩
    · have hd2 : decide (x < 0) = false := decide_eq_false h2
      have h3 : (fl.length : Int) - y < x := by omega
      have hd3 : decide ((fl.length : Int) - y < x) = true := decide_eq_true h3
      have hy3 : 1 ≤ y := by omega
      have hx3 : 0 ≤ x := by omega
      have hwr : IntKind.i64.wrap ((fl.length : Int) - y) = (fl.length : Int) - y := by rw [IntKind.wrap_i64]; omega
      clear hno
      go_enter Try.func43, Try.ntmps43
      go_wp2_with fail
      go_quiet ((go_at_call 12; exact Calls.quiet_of_same ((slen_any ((H.out.alloc _).drewN _)).mono fun e w' h => ⟨h.1, h.2.symm⟩)))
      go_wp2
      go_ret
      exact ⟨rfl, drawn_below ((Below.refl _ _).alloc (Nat.le_refl _) _) _⟩
theorem run_cut2_flags (A : Option Addr) (m c i k : Nat) (hk : i + k ≤ m) (hc : m ≤ c) (w : World) : (Instr.slice 33 (.slice A m c) (some (.int .i64 i)) (some (.int .i64 ((i : Int) + (k : Int)))) none).run Try.prog w = .ok (.slice (if c = i then A else A.map (·.add (i * 1))) k (c - i)) w := by
  have hsz : ∀ w, (sizeOf (Try.prog.elem 33)).run Try.prog w = .ok 1 w := fun w => by kernel_rfl
  rw [run_slice_lh w 33 A m c (by kernel_rfl) .i64 .i64 i ((i : Int) + (k : Int)) (by omega) (by omega) (by omega), hsz]
  simp only [Result.andThen, sliced, Int.toNat_natCast]
  rw [show ((i : Int) + (k : Int)).toNat - i = k by omega]
set_option maxHeartbeats 1000000 in
theorem sall_in {w : World} {g : Nat} {A : Option Addr} {c : Nat} {left : Int} (fl : List Bool) (i k : Nat) (b : Bool) (hk : 1 ≤ k) (hik : i + k ≤ fl.length) (hc : fl.length ≤ c) (hl : fl.length ≤ 1000000000)
    (h : Blk w g 62 #[.slice A fl.length c, .int .i64 left]) {B : Nat} (hB : B ≤ w.heap.size) (hR : Reads w B 1 A fl.length (flagsS fl)) :
    Calls Try.prog 43 #[.pointer (some ⟨g, 0, none⟩), .agg #[.int .i64 (i : Int), .int .i64 (k : Int)], .bool b] w fun e w' => ∃ r : Bool, e = .returned (.bool r) ∧ Below w.heap.size w w' ∧ (r = true ↔ ∀ z ∈ (fl.drop i).take k, z = b) := by
  have H := Lib.hid h
  have hcut := (hR.cut (k := i) (by omega) hc).take (k := k) (by omega)
  have hd : ((fl.drop i).take k).length = k := by rw [List.length_take, List.length_drop]; omega
  rw [show ((flagsS fl).drop (i * 1)).take k = flagsS ((fl.drop i).take k) from by rw [Nat.mul_one, flagsS, flagsS, List.map_take, List.map_drop]] at hcut
  have hsl := run_cut2_flags A fl.length c i k hik hc
  generalize hAc : (if c = i then A else A.map (·.add (i * 1))) = Ac at *
  generalize (fl.drop i).take k = l at *
  have HC := Lib.hid (fun w' (hw : Below B w w') => (show Calls Try.prog 55 #[.slice Ac k (c - i), .bool (!b)] w' (fun e w'' => e = .returned (.bool (decide ((!b) ∈ l))) ∧ w'' = w') from by
    have h0 := contains_any Ac (c - i) B l (!b) w' (by rw [hd]; exact hcut.below hw) (by omega)
    rw [hd] at h0
    refine h0.mono ?_
    rintro e w'' ⟨r, rfl, rfl, hr⟩
    refine ⟨?_, rfl⟩
    have : r = decide ((!b) ∈ l) := by rw [Bool.eq_iff_iff, decide_eq_true_eq]; exact hr
    rw [this]))
  clear h hR hAc hcut hd
  have hd1 : decide ((k : Int) < 1) = false := decide_eq_false (by omega)
  have hd2 : decide ((i : Int) < 0) = false := decide_eq_false (by omega)
  have hd3 : decide ((fl.length : Int) - (k : Int) < (i : Int)) = false := decide_eq_false (by omega)
  have hwr : IntKind.i64.wrap ((fl.length : Int) - (k : Int)) = (fl.length : Int) - (k : Int) := by rw [IntKind.wrap_i64]; omega
  have hwr2 : IntKind.i64.wrap ((i : Int) + (k : Int)) = (i : Int) + (k : Int) := by rw [IntKind.wrap_i64]; omega
  have q0 : ∀ o, (w.alloc o).cell? ⟨g, 0, none⟩ = some (.slice A fl.length c) := fun o => (H.out.alloc o).cell 0
  go_enter Try.func43, Try.ntmps43
  go_wp2_with fail
  go_quiet ((go_at_call 12; exact Calls.quiet_of_same ((slen_any ((H.out.alloc _).drewN _)).mono fun e w' h => ⟨h.1, h.2.symm⟩)))
  have hbw : ∀ o n, Below B w ((w.alloc o).drewN n) := fun o n => drawn_below ((Below.refl _ _).alloc hB _) _
  go_wp2_with fail
  go_quiet ((go_at_call 55; exact (HC.out _ (hbw _ _)).mono (fun e w' h => ⟨h.1, _, h.2⟩)))
  go_wp2
  go_ret
  refine ⟨_, rfl, drawn_below (drawn_below ((Below.refl _ _).alloc (Nat.le_refl _) _) _) _, ?_⟩
  simp only [Bool.not_eq_true', decide_eq_false_iff_not]
  refine ⟨fun h z hz => ?_, fun h hm => ?_⟩
  · cases z <;> cases b <;> simp_all
  · have := h _ hm
    cases b <;> simp at this
end Go.Proofs.Ytliockcbnmbhnaa
