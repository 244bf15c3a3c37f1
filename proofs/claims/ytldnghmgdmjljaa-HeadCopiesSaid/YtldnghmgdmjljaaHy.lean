/-
  Rows of the call's own. Conditions: the row reads as it is said to, and is not long.
-/
import Derived.Test.YtldnghmgdmjljaaHx
namespace Go.Proofs.Ytldnghmgdmjljaa
open Go.RowKit Go.BigFrame
set_option linter.unusedSimpArgs false
set_option linter.unusedVariables false
set_option maxRecDepth 100000
theorem flat_one (f : SA → List Value) (hf : ∀ s, ∀ u ∈ f s, u.oneCell' = true) (l : List SA) : ∀ u ∈ l.flatMap f, u.oneCell' = true := by
  intro u hu
  obtain ⟨s, _, h⟩ := List.mem_flatMap.1 hu
  exact hf s u h
set_option maxHeartbeats 2000000 in
theorem ownm_any (A : Option Addr) (n c : Nat) (bs : List Nat) (w : World) (B : Nat) (hn : n ≤ 10000000) (hb : Bytes w B A n bs) :
    Calls Try.prog 63 #[.slice A n c] w fun e w' => ∃ v, e = .returned v ∧ Own w' w.heap.size v n bs ∧ Below w.heap.size w w' := by
  obtain ⟨i0, hi0, hz0, hz1, hz2⟩ := info_parts byte_info
  have H := Lib.hid hb.1
  go_enter Try.func63, Try.ntmps63
  go_wp2_with (refine wpList_append_any w rfl (.const (.slice none 0 0)) (.tmp 3) 33 rfl w.heap.size 5 i0 _ 1 1 Try.underlying33 hi0 hz0 hz1 hz2 rfl (by omega) (.slice none 0 0) 0 [] rfl (World.ownsRow_nil _ _ _ 1) B A n c (u8s bs) rfl H.out (oneCell_u8s _) (by simp only [maxLen]; omega) (by omega) (Nat.le_refl _) ?_
               intro v2 w2 h2 g2 a2)
  go_ret
  exact ⟨v2, rfl, by simpa [Own, u8s] using h2, (Below.refl _ w).grown g2 (Nat.le_refl _) (fun k e => by simp [Value.ownBlock] at e)⟩
set_option maxHeartbeats 2000000 in
theorem owns_any (A : Option Addr) (c : Nat) (l : List (List Nat)) (w : World) (B : Nat) (hn : l.length ≤ 1000000) (hb : Reads w B 1 A l.length (strs l)) :
    Calls Try.prog 65 #[.slice A l.length c] w fun e w' => ∃ v, e = .returned v ∧ OwnS w' w.heap.size v l ∧ Below w.heap.size w w' := by
  obtain ⟨i0, hi0, hz0, hz1, hz2⟩ := info_parts str_info
  have H := Lib.hid hb
  go_enter Try.func65, Try.ntmps65
  go_wp2_with (refine wpList_append_any w rfl (.const (.slice none 0 0)) (.tmp 3) 60 rfl w.heap.size 9 i0 _ 1 16 Try.underlying60 hi0 hz0 hz1 hz2 rfl (by omega) (.slice none 0 0) 0 [] rfl (World.ownsRow_nil _ _ _ 1) B A l.length c (strs l) rfl H.out (strs_one _) (by simp only [maxLen]; omega) (by omega) (Nat.le_refl _) ?_
               intro v2 w2 h2 g2 a2)
  go_ret
  exact ⟨v2, rfl, by simpa [OwnS] using h2, (Below.refl _ w).grown g2 (Nat.le_refl _) (fun k e => by simp [Value.ownBlock] at e)⟩
set_option maxHeartbeats 2000000 in
theorem ownsn_any (A : Option Addr) (c : Nat) (l : List SA) (w : World) (B : Nat) (hn : l.length ≤ 1000000) (hb : Reads w B 11 A l.length (l.flatMap SA.cells)) :
    Calls Try.prog 64 #[.slice A l.length c] w fun e w' => ∃ v, e = .returned v ∧ w'.ownsRow w.heap.size 62 11 v l.length (l.flatMap SA.cells) ∧ Below w.heap.size w w' := by
  obtain ⟨i0, hi0, hz0, hz1, hz2⟩ := info_parts snap_info
  have H := Lib.hid hb
  go_enter Try.func64, Try.ntmps64
  go_wp2_with (refine wpList_append_any w rfl (.const (.slice none 0 0)) (.tmp 3) 32 rfl w.heap.size 62 i0 _ 11 120 Try.underlying32 hi0 hz0 hz1 hz2 rfl (by omega) (.slice none 0 0) 0 [] rfl (World.ownsRow_nil _ _ _ 11) B A l.length c (l.flatMap SA.cells) rfl H.out (flat_one _ SA.cells_one _) (by simp only [maxLen]; omega) (by omega) (Nat.le_refl _) ?_
               intro v2 w2 h2 g2 a2)
  go_ret
  exact ⟨v2, rfl, by simpa using h2, (Below.refl _ w).grown g2 (Nat.le_refl _) (fun k e => by simp [Value.ownBlock] at e)⟩
end Go.Proofs.Ytldnghmgdmjljaa
