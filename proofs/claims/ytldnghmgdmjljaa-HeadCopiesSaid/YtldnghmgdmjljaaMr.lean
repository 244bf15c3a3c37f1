/-
  The document's reader. Conditions: it lies where it is said to; its bytes lie below what the call may write.
-/
import Derived.Test.YtldnghmgdmjljaaMd
import Derived.Test.YtldnghmgdmjljaaRd3
namespace Go.Proofs.Ytldnghmgdmjljaa
open Go.RowKit
set_option linter.unusedSimpArgs false
set_option maxRecDepth 100000
set_option linter.unusedVariables false
def Mr (w : World) (base g : Nat) (s : RD) : Prop :=
  ∃ A c, Blk w g 101 #[.slice A s.bs.length c, .bool s.bad] ∧ Bytes w base A s.bs.length s.bs ∧ s.bs.length ≤ c ∧ c ≤ maxLen ∧ base ≤ g ∧ s.Good
section
variable {w w' : World} {base g : Nat} {s : RD}
theorem Mr.of (h : Mr w base g s) (hb : Below base w w') (hk : w'.heap[g]? = w.heap[g]?) : Mr w' base g s := by
  obtain ⟨A, c, h1, h2, r⟩ := h
  exact ⟨A, c, h1.of hk, h2.below hb, r⟩
theorem Mr.lt (h : Mr w base g s) : g < w.heap.size := by
  obtain ⟨A, c, h1, _⟩ := h
  exact h1.lt
theorem Mr.over (h : Mr w base g s) : base ≤ g := by
  obtain ⟨A, c, _, _, _, _, h, _⟩ := h
  exact h
theorem Mr.good (h : Mr w base g s) : s.Good := by
  obtain ⟨A, c, _, _, _, _, _, h⟩ := h
  exact h
theorem Mr.below (h : Mr w base g s) (hb : Below w.heap.size w w') : Mr w' base g s :=
  h.of (hb.mono (Nat.le_of_lt (Nat.lt_of_le_of_lt h.over h.lt))) (hb.block g h.lt)
end
theorem mspoil_cells {w : World} {base g : Nat} {s : RD} (h : Mr w base g s) : Mr ((w.setCell ⟨g, 1, none⟩ (.bool true)).setCell ⟨g, 0, none⟩ (.slice none 0 0)) base g RD.spoilt ∧ Only [g] w ((w.setCell ⟨g, 1, none⟩ (.bool true)).setCell ⟨g, 0, none⟩ (.slice none 0 0)) := by
  obtain ⟨A, c, h1, h2, h3, h4, h5, h6⟩ := h
  refine ⟨⟨none, 0, ?_, ⟨Reads.none_, fun b hb => by cases hb⟩, Nat.le_refl _, by simp [maxLen], h5, RD.spoilt_good⟩, ((Only.refl _ _).setCell (.inl (by simp)) _).setCell (.inl (by simp)) _⟩
  exact (h1.set_ 1 (.bool true)).set_ 0 (.slice none 0 0)
theorem mcut_cells {w' : World} {base g k : Nat} {s : RD} {A : Option Addr} {c : Nat} (h1 : Blk w' g 101 #[.slice A s.bs.length c, .bool s.bad]) (h2 : Bytes w' base A s.bs.length s.bs) (h3 : s.bs.length ≤ c) (h4 : c ≤ maxLen) (h5 : base ≤ g) (h6 : s.Good) (hk : k ≤ s.bs.length) (hbad : s.bad = false) :
    Mr (w'.setCell ⟨g, 0, none⟩ (.slice (if c = k then A else A.map (·.add k)) (s.bs.length - k) (c - k))) base g ⟨s.bs.drop k, false⟩ := by
  have hcut : Bytes w' base (if c = k then A else A.map (·.add k)) (s.bs.length - k) (s.bs.drop k) := by
    have := h2.1.cut hk h3
    rw [Nat.mul_one, u8s, ← List.map_drop] at this
    exact ⟨this, fun b hb => h2.2 b (List.mem_of_mem_drop hb)⟩
  refine ⟨(if c = k then A else A.map (·.add k)), c - k, ?_, ?_, ?_, by omega, h5, ⟨fun e => (by cases e), fun b hb => h6.2 b (List.mem_of_mem_drop hb)⟩⟩
  · have := h1.set_ 0 (.slice (if c = k then A else A.map (·.add k)) (s.bs.length - k) (c - k))
    rw [hbad] at this
    simpa using this
  · simp only [List.length_drop]
    exact hcut.setCell h5 _
  · simp only [List.length_drop]; omega
theorem mtake_any (w : World) (base g : Nat) (s : RD) (n : Int) (h : Mr w base g s) (hn1 : -9223372036854775808 ≤ n) (hn2 : n ≤ 9223372036854775807) (hs : s.bs.length ≤ 9000000) :
    Calls Try.prog 89 #[.pointer (some ⟨g, 0, none⟩), .int .i64 n] w fun e w' => ∃ v, e = .returned v ∧ Own w' w.heap.size v (s.got n).length (s.got n) ∧ Mr w' base g (s.take n) ∧ Only [g] w w' := by
  have hH := h
  obtain ⟨A, c, h1, h2, h3, h4, h5, h6⟩ := h
  have hc0 : w.cell? ⟨g, 0, none⟩ = some (.slice A s.bs.length c) := by rw [h1.cell]; rfl
  have hc1 : w.cell? ⟨g, 1, none⟩ = some (.bool s.bad) := by rw [h1.cell]; rfl
  have hf0 : w.frozen? ⟨g, 0, none⟩ = false := h1.frozen _
  have hf1 : w.frozen? ⟨g, 1, none⟩ = false := h1.frozen _
  by_cases hbad : s.bad = true
  · obtain ⟨e1, e2⟩ := RD.take_un (s := s) (n := n) (.inr (.inr hbad))
    rw [e1, e2]
    rw [hbad] at hc1
    have hsp := Lib.hid (mspoil_cells hH)
    clear hH
    go_enter Try.func89, Try.ntmps89
    go_wp2
    go_ret
    exact ⟨_, rfl, Own.nil _ _, hsp.out⟩
  · have hbad' : s.bad = false := by simpa using hbad
    rw [hbad'] at hc1
    have hsp := Lib.hid (mspoil_cells hH)
    clear hH
    by_cases h0 : n < 0
    · obtain ⟨e1, e2⟩ := RD.take_un (s := s) (.inl h0)
      rw [e1, e2]
      have hd : decide (n < 0) = true := by simpa using h0
      go_enter Try.func89, Try.ntmps89
      go_wp2
      go_ret
      exact ⟨_, rfl, Own.nil _ _, hsp.out⟩
    · have hd : decide (n < 0) = false := by simpa using h0
      by_cases hl : (s.bs.length : Int) < n
      · obtain ⟨e1, e2⟩ := RD.take_un (s := s) (n := n) (.inr (.inl hl))
        rw [e1, e2]
        have hd2 : decide ((s.bs.length : Int) < n) = true := by simpa using hl
        go_enter Try.func89, Try.ntmps89
        go_wp2
        go_ret
        exact ⟨_, rfl, Own.nil _ _, hsp.out⟩
      · have hd2 : decide ((s.bs.length : Int) < n) = false := by simpa using hl
        obtain ⟨k, rfl⟩ := Int.eq_ofNat_of_zero_le (show 0 ≤ n by omega)
        have hkl : k ≤ s.bs.length := by omega
        obtain ⟨e1, e2⟩ := RD.take_fit hbad' hkl
        rw [e1, e2]
        have hlen : (s.bs.take k).length = k := by rw [List.length_take]; omega
        unfold maxLen at h4
        have q1 : (0 : Int) ≤ (k : Int) := by omega
        have q2 : (k : Int) ≤ (c : Int) := by omega
        have q3 : (k : Int) ≤ (s.bs.length : Int) := by omega
        have hkc : k ≤ c := by omega
        have bA := below_alloc w (.cells #[] 5)
        have hsrc : Bytes (w.alloc (.cells #[] 5)) base A k (s.bs.take k) := (h2.take hkl).since bA
        have H1 := Lib.hid h1
        have H2 := Lib.hid h2
        have H6 := Lib.hid h6
        have HSP := Lib.hid hsrc
        have hgl := h1.lt
        clear hsp hsrc h1 h2 h6
        by_cases hck : c = k
        · go_enter Try.func89, Try.ntmps89
          go_wp2_with (refine app_bytes (.tmp 29) (.tmp 35) rfl rfl w.heap.size (.slice (some ⟨w.heap.size, 0, none⟩) 0 0) 0 [] rfl (Own.new w w.heap.size (Nat.le_refl _)) base A k _ (s.bs.take k) rfl HSP.out (by omega) (by simp) ?_
                       intro v3 w3 h3' g3 a3
                       have b3 : Below w.heap.size w w3 := below_own (below_alloc w _) (Own.new w w.heap.size (Nat.le_refl _)) (Nat.le_refl _) g3 (by simp)
                       have c30 : w3.cell? ⟨g, 0, none⟩ = some (.slice A s.bs.length c) := by rw [(H1.out.below b3 hgl).cell]; rfl
                       have f30 : w3.frozen? ⟨g, 0, none⟩ = false := (H1.out.below b3 hgl).frozen _)
          go_ret
          have hM := mcut_cells (k := k) (H1.out.below b3 hgl) (H2.out.since b3) h3 h4 h5 H6.out hkl hbad'
          have hO : Own w3 w.heap.size v3 k (s.bs.take k) := by simpa using h3'
          have hne : ∀ k ∈ rowOf v3, k ≠ g := fun j hj e => by
            have := (World.ownsRow.lt hO j (mem_rowOf.1 hj)).1
            omega
          rw [if_pos hck, show c - k = 0 by omega] at hM
          subst hck
          exact ⟨v3, rfl, row_of hO (fun j hj => Below.heap_setCell _ _ _ _ (hne j hj)), hM, (Only.of_below b3 [g]).setCell (.inl (by simp)) _⟩
        · go_enter Try.func89, Try.ntmps89
          go_wp2_with (refine app_bytes (.tmp 29) (.tmp 35) rfl rfl w.heap.size (.slice (some ⟨w.heap.size, 0, none⟩) 0 0) 0 [] rfl (Own.new w w.heap.size (Nat.le_refl _)) base A k _ (s.bs.take k) rfl HSP.out (by omega) (by simp) ?_
                       intro v3 w3 h3' g3 a3
                       have b3 : Below w.heap.size w w3 := below_own (below_alloc w _) (Own.new w w.heap.size (Nat.le_refl _)) (Nat.le_refl _) g3 (by simp)
                       have c30 : w3.cell? ⟨g, 0, none⟩ = some (.slice A s.bs.length c) := by rw [(H1.out.below b3 hgl).cell]; rfl
                       have f30 : w3.frozen? ⟨g, 0, none⟩ = false := (H1.out.below b3 hgl).frozen _)
          go_ret
          have hM := mcut_cells (k := k) (H1.out.below b3 hgl) (H2.out.since b3) h3 h4 h5 H6.out hkl hbad'
          have hO : Own w3 w.heap.size v3 k (s.bs.take k) := by simpa using h3'
          have hne : ∀ k ∈ rowOf v3, k ≠ g := fun j hj e => by
            have := (World.ownsRow.lt hO j (mem_rowOf.1 hj)).1
            omega
          rw [if_neg hck] at hM
          exact ⟨v3, rfl, row_of hO (fun j hj => Below.heap_setCell _ _ _ _ (hne j hj)), hM, (Only.of_below b3 [g]).setCell (.inl (by simp)) _⟩
end Go.Proofs.Ytldnghmgdmjljaa
