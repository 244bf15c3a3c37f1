/-
  A journal's Checkpoint where nothing fails. Conditions: all lies where it is said to; small numbers.
-/
import Derived.Test.YtpklcmocjimcpaaDoorZj
import Derived.BigQuiet
namespace Go.Proofs.YtpklcmocjimcpaaDoor
open Go.RowKit
set_option maxRecDepth 100000
set_option linter.unusedSimpArgs false
set_option linter.unusedVariables false
section
variable {w0 w : World} {g gj n gen u : Nat} {d : DM} {st : List Nat} {txs : List (List Nat)} {X : List Nat} {vs vt : Value}
theorem checkpoint_full (hJ : Blk w gj 67 (jcells n g gen vs vt u false)) (A : Option Addr) (m c : Nat) (hm : m ≤ 1000000) (hfull : areaOf n < pnN m) : Calls Tryd.prog 13 #[.pointer (some ⟨gj, 0, none⟩), .slice A m c] w fun e w' => e = .returned (errV 4) ∧ Below w.heap.size w w' := by
  have q0 : w.cell? ⟨gj, 0, none⟩ = some (.int .i64 (areaOf n)) := hJ.cell 0
  have HJ := Lib.hid hJ
  clear hJ
  have hpe : partsOf m = pnN m := rfl
  have hd1 : decide ((areaOf n : Int) < (partsOf m : Int)) = true := by simp; omega
  have hd1' : decide (areaOf n < partsOf m) = true := by simp; omega
  clear hpe
  go_enter Tryd.func13, Tryd.ntmps13
  go_wp2_with fail
  refine (ready_good HJ.out).mono ?_
  rintro e w' ⟨rfl, rfl⟩
  go_wp2
  go_quiet ((go_at_call 29; exact Calls.quiet_of_same ((jparts_any m _ (by omega)).mono fun e w' h => ⟨h.1, h.2.symm⟩)))
  go_wp2
  go_ret
  exact ⟨rfl, below_drewN (Below.refl _ _) _⟩
set_option maxRecDepth 100000 in
set_option maxHeartbeats 2000000 in
theorem checkpoint_good (h : Holds w0 w g d X) (hJ : Blk w gj 67 (jcells n g gen vs vt u false)) (hgj : gj ∈ X) (hgj0 : w0.heap.size ≤ gj) (hn : n ≤ 4096) (hgen : gen + 1 ≤ 4611686018427387904)
    (A : Option Addr) (c : Nat) (st : List Nat) (hst : Bytes w w.heap.size A st.length st) (hl : st.length ≤ 5000) (hlc : st.length ≤ c) (hcm : c ≤ 9223372036854775807) (hfit : pn st ≤ areaOf n)
    (hT : Tab w) (hw0 : 0 < w0.heap.size) (hAx : 0 < st.length → ∀ k ∈ blkOf A, k ∈ X) (hf : Far d (pn st + 3)) (hok : (d.ckpt n (gen + 1) st).2 = 0) :
    Calls Tryd.prog 13 #[.pointer (some ⟨gj, 0, none⟩), .slice A st.length c] w fun e w' => ∃ B cc, e = .returned .nilIface ∧ Holds w0 w' g (d.ckpt n (gen + 1) st).1 (blkOf B ++ X) ∧ (∀ k ∈ blkOf B, w.heap.size ≤ k) ∧
      Blk w' gj 67 (jcells n g (gen + 1) (.slice B st.length cc) (.slice none 0 0) 0 false) ∧ Own w' w.heap.size (.slice B st.length cc) st.length st ∧ (∀ k ∈ X, k ≠ gj → w'.heap[k]? = w.heap[k]?) ∧ w.heap.size ≤ w'.heap.size := by
  have q0 : w.cell? ⟨gj, 0, none⟩ = some (.int .i64 (areaOf n)) := hJ.cell 0
  have q3 : ∀ nq, (w.drewN nq).cell? ⟨gj, 3, none⟩ = some (.int .i64 gen) := fun nq => hJ.cell 3
  have hXl := h.lt
  have HB := Lib.hid (fun nq => begin_good (h.below (below_drewN (Below.refl w.heap.size w) nq)) (hJ.below (below_drewN (Below.refl w.heap.size w) nq) hJ.lt) hgj hgj0 hn (gen + 1) hgen A c st (hst.drewN nq) hl hlc hcm (tab_below hT (below_drewN (Below.refl w.heap.size w) nq) (Nat.lt_of_lt_of_le hw0 h.size)) hw0 hAx hf hok)
  have HJ := Lib.hid hJ
  have HXl := Lib.hid hXl
  clear h hJ hst hT hok hXl
  have hpe : partsOf st.length = pn st := rfl
  have hd1 : decide ((areaOf n : Int) < (partsOf st.length : Int)) = false := by simp; omega
  have hd1' : decide (areaOf n < partsOf st.length) = false := by simp; omega
  have hge : ((gen + 1 : Nat) : Int) = (gen : Int) + 1 := by omega
  rw [hge] at HB
  clear hpe hge
  go_enter Tryd.func13, Tryd.ntmps13
  go_wp2_with fail
  refine (ready_good HJ.out).mono ?_
  rintro e w' ⟨rfl, rfl⟩
  go_wp2
  go_quiet ((go_at_call 29; exact Calls.quiet_of_same ((jparts_any st.length _ (by omega)).mono fun e w' h => ⟨h.1, h.2.symm⟩)))
  go_wp2_with fail
  refine (HB.out _).mono ?_
  rintro e w1 ⟨B, cc, rfl, r1, r2, r3, r4, r5, r6⟩
  go_wp2
  go_ret
  exact ⟨B, cc, rfl, r1, r2, r3, r4, r5, r6⟩
theorem JAt.checkpoint {st' : List Nat} (h : JAt w0 w g gj d n gen st txs u X) (hn : n ≤ 4096) (hgen : gen + 1 ≤ 4611686018427387904) (A : Option Addr) (c : Nat) (hst : Bytes w w.heap.size A st'.length st') (hl : st'.length ≤ 5000) (hlc : st'.length ≤ c) (hcm : c ≤ 9223372036854775807) (hfit : pn st' ≤ areaOf n)
    (hT : Tab w) (hw0 : 0 < w0.heap.size) (hAx : 0 < st'.length → ∀ k ∈ blkOf A, k ∈ X ∨ k < w0.heap.size) (hf : Far d (pn st' + 3)) (hok : (d.ckpt n (gen + 1) st').2 = 0) :
    Calls Tryd.prog 13 #[.pointer (some ⟨gj, 0, none⟩), .slice A st'.length c] w fun e w' => e = .returned .nilIface ∧ JAt w0 w' g gj (d.ckpt n (gen + 1) st').1 n (gen + 1) st' [] 0 X ∧ (∀ k ∈ X, w'.heap[k]? = w.heap[k]?) ∧ w.heap.size ≤ w'.heap.size := by
  obtain ⟨A0, c0, vt, us, h1, h2, h3, h4, h5, h6⟩ := h
  obtain ⟨Y, hY, hX⟩ : ∃ Y, (0 < st'.length → ∀ k ∈ blkOf A, k ∈ Y) ∧ Holds w0 w g d (Y ++ (txBlks vt us ++ (blkOf A0 ++ gj :: X))) := by
    rcases Nat.eq_zero_or_pos st'.length with h0 | h0
    · exact ⟨[], fun h => absurd h (by omega), h1⟩
    · exact ⟨blkOf A, fun _ _ h => h, h1.add_old (fun k hk => (hAx h0 k hk).imp (fun h => by simp [h]) id)⟩
  refine (checkpoint_good hX h2 (by simp) h5 hn hgen A c st' hst hl hlc hcm hfit hT hw0 (fun h0 k hk => by simp [hY h0 k hk]) hf hok).mono ?_
  rintro e w' ⟨B, cc, rfl, r1, r2, r3, r4, r5, r6⟩
  refine ⟨rfl, ⟨B, cc, .slice none 0 0, [], r1.mono (fun k hk => ?_), r3, r4.weaken h1.size, TxRows.nil _ _, h5, fun k hk => ⟨(h6 k hk).1, by simp [rowOf, Value.ownBlock]⟩⟩, fun k hk => r5 k (by simp [hk]) (h6 k hk).1, r6⟩
  simp only [txBlks, rowOf, Value.ownBlock, Option.toList, List.flatMap_nil, List.append_nil, List.nil_append, List.mem_append, List.mem_cons] at hk ⊢
  rcases hk with hk | hk | hk
  · exact .inl hk
  · exact .inr (.inr (.inr (.inr (.inl hk))))
  · exact .inr (.inr (.inr (.inr (.inr hk))))
theorem JAt.cfull (h : JAt w0 w g gj d n gen st txs u X) (A : Option Addr) (m c : Nat) (hm : m ≤ 1000000) (hfull : areaOf n < pnN m) : Calls Tryd.prog 13 #[.pointer (some ⟨gj, 0, none⟩), .slice A m c] w fun e w' => e = .returned (errV 4) ∧ Below w.heap.size w w' := by
  obtain ⟨A0, c0, vt, us, h1, h2, h3, h4, h5, h6⟩ := h
  exact checkpoint_full h2 A m c hm hfull
end
end Go.Proofs.YtpklcmocjimcpaaDoor
