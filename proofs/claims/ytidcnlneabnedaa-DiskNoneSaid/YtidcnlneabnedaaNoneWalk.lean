/-
  The law DiskNone, walked: it returns true and changes nothing that was there. No condition.
-/
import Derived.Test.YtidcnlneabnedaaAlive
namespace Go.Proofs.Ytidcnlneabnedaa
open Go.RowKit
set_option linter.unusedSimpArgs false
set_option linter.unusedVariables false
set_option maxRecDepth 100000 in
set_option maxHeartbeats 1000000 in
theorem diskNone_walk (x0 : Int) (m0 : -9223372036854775808 ≤ x0) (o0 : x0 ≤ 9223372036854775807) {w : World} :
    Calls Try.prog 7 #[.int .i64 x0] w fun e w' => e = .returned (.bool true) ∧ Below w.heap.size w w' := by
  have hZ : ∀ w, (zeroValue 47).run Try.prog w = .ok (.agg Sec.zero.cs.toArray) w := sec_zero
  have hi : (Try.prog.info? 47).map (·.size) = some Sec.zero.cs.length := by rw [Sec.cs_len]; exact sec_size
  go_enter Try.func7, Try.ntmps7
  go_wp2_with fail
  refine (alive_any _).mono ?_
  rintro e w1 ⟨rfl, b1⟩
  go_wp2_with fail
  refine (crash_nil _ _ _ _).mono ?_
  rintro e w2 ⟨rfl, b2⟩
  have B2 : Below w.heap.size w w2 := (b1.alloc b1.size _).trans (b2.mono (by have := b1.size; simp; omega))
  clear b1 b2
  go_wp2_with fail
  refine (read_nil _ _).mono ?_
  rintro e w3 ⟨rfl, b3⟩
  have B3 : Below w.heap.size w (w3.alloc (.cells Sec.zero.cs.toArray 47)) := (B2.trans (b3.mono B2.size)).alloc (Nat.le_trans B2.size b3.size) _
  clear B2 b3
  simp only [Sec.v, errV]
  go_wp2_with (refine wpList_store_newN rfl 47 (.tmp 4) (.tmp 17) rfl w3.heap.size rfl Sec.zero.cs Sec.zero.cs.toArray rfl rfl hi (by simp) Sec.zero.one ?_)
  refine (write_nil _ _ Sec.zero).mono ?_
  rintro e w4 ⟨rfl, b4⟩
  have B4 := B3.trans (b4.mono B3.size)
  clear B3 b4
  simp only [errV]
  go_wp2_with fail
  refine (flush_nil _).mono ?_
  rintro e w' ⟨rfl, rfl⟩
  simp only [errV]
  go_wp2_with fail
  refine (arm_nil _ _).mono ?_
  rintro e w' ⟨rfl, rfl⟩
  simp only [errV]
  go_wp2
  have B5 := B4.alloc B4.size (.cells #[.iface 31 (.int .i64 3), .iface 31 (.int .i64 3), .iface 31 (.int .i64 3), .iface 31 (.int .i64 3)] 27)
  go_loop [31] (fun i => ∃ k : Nat, k ≤ 4 ∧ i = .int .i64 k) (fun i => 4 - (intOf i).toNat)
  case atStart => exact ⟨0, by omega, rfl⟩
  case round =>
    obtain ⟨k, hk, rfl⟩ := hrel
    by_cases hlt : k < 4
    · have hc : (w4.alloc (.cells #[.iface 31 (.int .i64 3), .iface 31 (.int .i64 3), .iface 31 (.int .i64 3), .iface 31 (.int .i64 3)] 27)).cell? ⟨w4.heap.size, k, none⟩ = some (.iface 31 (.int .i64 3)) := by
        rw [(Blk.new w4 _ _).cell]
        have : k = 0 ∨ k = 1 ∨ k = 2 ∨ k = 3 := by omega
        rcases this with rfl | rfl | rfl | rfl <;> rfl
      have his : ∀ w, Calls Try.prog 12 #[.iface 31 (.int .i64 3), .int .i64 3] w fun e w' => e = .returned (.bool true) ∧ w = w' := fun w => is_any 3 3 w
      have HIS := Lib.hid his
      clear his
      go_wp2_with (go_at_call 12; refine (HIS.out _).mono ?_; rintro e w' ⟨rfl, rfl⟩)
      go_round
      case rel =>
        first
          | exact ⟨k + 1, by omega, by go_num⟩
          | exact ⟨trivial, _, _, _, _, _, _, _, _, _, _, ⟨k + 1, by omega, by go_num⟩, rfl⟩
      case measure => simp [intOf]; omega
    · have hq := run_sec_in
      have hss := secEq_same
      go_wp2_with fail
      refine (sure_nil _ _).mono ?_
      rintro e w6 ⟨rfl, b6⟩
      have B6 := B5.trans (b6.mono B5.size)
      clear B4 B5 b6
      simp only [Sec.v]
      go_wp2_with (first
        | (go_at_call 13; refine (len_nil _).mono ?_; rintro e w' ⟨rfl, rfl⟩)
        | (go_at_call 23; refine (waiting_nil _).mono ?_; rintro e w' ⟨rfl, rfl⟩)
        | (go_at_call 26; refine (steps_nil _).mono ?_; rintro e w' ⟨rfl, rfl⟩)
        | (go_at_call 24; refine (down_nil _).mono ?_; rintro e w' ⟨rfl, rfl⟩)
        | (go_at_call 27; refine (copy_nil _).mono ?_; rintro e w' ⟨rfl, rfl⟩))
      go_ret
      exact ⟨rfl, B6⟩
end Go.Proofs.Ytidcnlneabnedaa
