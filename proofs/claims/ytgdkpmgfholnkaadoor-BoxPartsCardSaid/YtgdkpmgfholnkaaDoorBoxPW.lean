/-
  The laws' own Rows returns true of rows that read as the same data's. Conditions: the headers and the rows read so.
-/
import Derived.Test.YtgdkpmgfholnkaaDoorBoxPT
import Derived.Test.YtgdkpmgfholnkaaDoorBoxU
import Derived.Deep.QuietTactic
import Derived.BigQuiet
namespace Go.Proofs.YtgdkpmgfholnkaaDoor
open Go.RowKit
set_option linter.unusedSimpArgs false
set_option linter.unusedVariables false
theorem Rowy.since {w w' : World} {B k : Nat} {rs : Nat → Value} {d : List Nat} (h : Rowy w B rs d k) (hb : Below w.heap.size w w') : Rowy w' B rs d k := fun i hi => by
  obtain ⟨A', c', h1, h2⟩ := h i hi
  exact ⟨A', c', h1, h2.since hb⟩
set_option maxRecDepth 100000 in
set_option maxHeartbeats 2000000 in
theorem rows_any (A A' : Option Addr) (m c c' B B' B1 B1' : Nat) (rs rs' : Nat → Value) (d : List Nat) (w : World) (hR : Reads w B 1 A m (hdr rs m)) (hR' : Reads w B' 1 A' m (hdr rs' m)) (h : Rowy w B1 rs d m) (h' : Rowy w B1' rs' d m) (hm : m ≤ 1000) :
    Calls Tryd.prog 26 #[.slice A m c, .slice A' m c'] w fun e w' => e = .returned (.bool true) ∧ Below w.heap.size w w' := by
  have HR := Lib.hid (And.intro hR hR')
  have HY := Lib.hid (And.intro h h')
  clear hR hR' h h'
  go_enter Tryd.func26, Tryd.ntmps26
  go_wp2
  go_loopw [13] (fun i wr => ∃ k : Nat, k ≤ m ∧ i = .int .i64 k ∧ Below w.heap.size w wr) (fun i _ => m - (intOf i).toNat)
  case atStart => exact ⟨0, Nat.zero_le _, rfl, Below.refl _ _⟩
  case round =>
    obtain ⟨k, hk, rfl, hb⟩ := hrel
    by_cases hlt : k < m
    · obtain ⟨ad, rfl, hc⟩ := (show Reads wr B 1 A m (hdr rs m) from Reads.since HR.out.1 hb).hdr_get hlt
      obtain ⟨ad', rfl, hc'⟩ := (show Reads wr B' 1 A' m (hdr rs' m) from Reads.since HR.out.2 hb).hdr_get hlt
      obtain ⟨Ai, ci, e1, hy⟩ := HY.out.1.since hb k hlt
      obtain ⟨Ai', ci', e2, hy'⟩ := HY.out.2.since hb k hlt
      rw [e1] at hc
      rw [e2] at hc'
      have k1 := fun q => str_of (P := Tryd.prog) (hy.drewN q) ci 22 9 5 Tryd.underlying22 Tryd.underlying5 Tryd.underlying9
      have k2 := fun q => str_of (P := Tryd.prog) (hy'.drewN q) ci' 22 9 5 Tryd.underlying22 Tryd.underlying5 Tryd.underlying9
      have hk0 : (0 : Int) ≤ (k : Int) := by omega
      have hk1 : (k : Int) < (m : Int) := by omega
      have HB := Lib.hid hb
      clear hb hy hy' e1 e2
      generalize strOf (prow d k) = s1 at *
      go_wp2_with fail
      go_quiet (fail)
      go_wp2
      exact ⟨⟨k + 1, by omega, by go_num, below_drewN HB.out _⟩, by simp only [intOf]; omega⟩
    · obtain rfl : k = m := by omega
      go_wp2
      go_ret
      exact ⟨rfl, hb⟩
end Go.Proofs.YtgdkpmgfholnkaaDoor
