/-
  The document's Parts: the data's rows, of 106 bytes each but the last. Conditions: the data read as bytes.
-/
import Derived.Test.YtgdkpmgfholnkaaDoorBoxPT
namespace Go.Proofs.YtgdkpmgfholnkaaDoor
open Go.RowKit
set_option linter.unusedSimpArgs false
set_option linter.unusedVariables false
set_option maxRecDepth 100000 in
set_option maxHeartbeats 2000000 in
theorem dparts_any (A : Option Addr) (c : Nat) (d : List Nat) (w : World) (h : Bytes w w.heap.size A d.length d) (hl : d.length ≤ 5000) (hc : d.length ≤ c) (hcm : c ≤ 9223372036854775807) :
    Calls Tryd.prog 27 #[.slice A d.length c] w fun e w' => ∃ v rs, e = .returned v ∧ w'.ownsRow w.heap.size 22 1 v (pn d) (hdr rs (pn d)) ∧ Rowy w' w.heap.size rs d (pn d) ∧ Below w.heap.size w w' := by
  have HD := Lib.hid h
  clear h
  go_enter Tryd.func27, Tryd.ntmps27
  go_wp2
  go_loopw [0, 3] (fun dv ov wr => ∃ (k : Nat) (rs : Nat → Value) (Ak : Option Addr) (nk ck : Nat), nk = d.length - 106 * k ∧ 106 * k ≤ d.length ∧ (k = 0 ∨ 106 * k < d.length) ∧ dv = .slice Ak nk ck ∧ nk ≤ ck ∧ ck ≤ 9223372036854775807 ∧ Bytes wr w.heap.size Ak nk (d.drop (106 * k)) ∧ wr.ownsRow w.heap.size 22 1 ov k (hdr rs k) ∧ Rowy wr w.heap.size rs d k ∧ Below w.heap.size w wr)
    (fun dv _ _ => match dv with | .slice _ n _ => n | _ => 0)
  case atStart => exact ⟨0, fun _ => undef, A, d.length, c, by omega, by omega, .inl rfl, rfl, hc, hcm, by simpa using HD.out, World.ownsRow_nil w _ _ 1, fun i hi => absurd hi (by omega), Below.refl _ _⟩
  case round =>
    obtain ⟨k, rs, Ak, nk, ck, hnk, hk, hk2, rfl, hnc, hcm2, hb, hown, hrow, hB⟩ := hrel
    have HB := Lib.hid (And.intro hb (And.intro hown (And.intro hrow hB)))
    clear hb hown hrow hB
    by_cases hlt : 106 < nk
    · have hp : prow d k = (d.drop (106 * k)).take 106 := rfl
      have hy : Bytes wr w.heap.size Ak 106 (prow d k) := HB.out.1.take (by omega)
      have hl6 : (prow d k).length = 106 := by rw [prow_len]; omega
      have hcut : Bytes wr w.heap.size (if ck = 106 then Ak else Ak.map (·.add 106)) (nk - 106) (d.drop (106 * (k + 1))) := by
        have := HB.out.1.1.cut (k := 106) (cap := ck) (by omega) hnc
        refine ⟨?_, fun b hb => HD.out.2 b (List.mem_of_mem_drop hb)⟩
        rw [show 106 * (k + 1) = 106 * k + 106 by omega, ← List.drop_drop]
        simpa [u8s, List.map_drop] using this
      have HC := Lib.hid (And.intro hcut (And.intro hy hl6))
      have hnew := Reads.new wr [Value.slice Ak 106 ck] 22 (0, 0)
      have hBa := Lib.hid (HB.out.2.2.2.alloc HB.out.2.2.2.size (.cells #[Value.slice Ak 106 ck] 22))
      have hrow := World.ownsRow.alloc HB.out.2.1 (.cells #[Value.slice Ak 106 ck] 22)
      have hszw := hBa.out.size
      clear hcut hy hl6 hp
      go_wp2_with (refine app_row (.tmp 7) (.tmp 10) rfl rfl w.heap.size u3 k (hdr rs k) rfl hrow _ (some ⟨wr.heap.size, 0, none⟩) 1 (.slice Ak 106 ck) rfl hnew rfl (by omega) hszw ?_
                   intro v9 w9 h9 g9)
      have B9 := below_row hBa.out hrow (Nat.le_refl _) g9 hszw
      have B10 := below_row ((Below.refl w.heap.size wr).alloc HB.out.2.2.2.size (.cells #[Value.slice Ak 106 ck] 22)) hrow (Nat.le_refl _) g9 hszw
      refine ⟨⟨k + 1, fun i => if i = k then .slice Ak 106 ck else rs i, _, _, _, by omega, by omega, .inr (by omega), rfl, by omega, by omega, ?_, by rw [hdr_snoc]; exact h9, ?_, B9⟩, ?_⟩
      · have := HC.out.1.below B10
        rw [if_neg (by omega), hnk] at this
        exact this
      · exact (HB.out.2.2.1.below B10).snoc HC.out.2.2.symm (HC.out.2.1.below B10)
      · show d.length - 106 * k - 106 < nk
        omega
    · by_cases h0 : nk = 0
      · have hk0 : pn d = k := by unfold pn; omega
        obtain ⟨A3, c3, rfl⟩ := row_form HB.out.2.1
        go_wp2
        go_ret
        exact ⟨_, rs, rfl, by rw [hk0]; exact HB.out.2.1, by rw [hk0]; exact HB.out.2.2.1, HB.out.2.2.2⟩
      · have hk1 : pn d = k + 1 := by unfold pn; omega
        have hp : prow d k = d.drop (106 * k) := by unfold prow; rw [List.take_of_length_le]; rw [List.length_drop]; omega
        have hl6 : nk = (prow d k).length := by rw [prow_len]; omega
        have HC := Lib.hid (And.intro hp hl6)
        have hnew := Reads.new wr [Value.slice Ak nk ck] 22 (0, 0)
        have hBa := Lib.hid (HB.out.2.2.2.alloc HB.out.2.2.2.size (.cells #[Value.slice Ak nk ck] 22))
        have hrow := World.ownsRow.alloc HB.out.2.1 (.cells #[Value.slice Ak nk ck] 22)
        have hszw := hBa.out.size
        have HK := Lib.hid hk1
        have h0k : 0 < nk := by omega
        have hkl : k ≤ 1000 := by omega
        clear hp hl6 hk1 hnk hk hk2
        go_wp2_with (refine app_row (.tmp 17) (.tmp 19) rfl rfl w.heap.size u3 k (hdr rs k) rfl hrow _ (some ⟨wr.heap.size, 0, none⟩) 1 (.slice Ak nk ck) rfl hnew rfl (by omega) hszw ?_
                     intro v9 w9 h9 g9)
        have B9 := below_row hBa.out hrow (Nat.le_refl _) g9 hszw
        have B10 := below_row ((Below.refl w.heap.size wr).alloc HB.out.2.2.2.size (.cells #[Value.slice Ak nk ck] 22)) hrow (Nat.le_refl _) g9 hszw
        go_ret
        refine ⟨_, fun i => if i = k then .slice Ak nk ck else rs i, rfl, by rw [HK.out, hdr_snoc]; exact h9, ?_, B9⟩
        rw [HK.out]
        exact (HB.out.2.2.1.below B10).snoc HC.out.2 (by rw [HC.out.1]; exact HB.out.1.below B10)
end Go.Proofs.YtgdkpmgfholnkaaDoor
