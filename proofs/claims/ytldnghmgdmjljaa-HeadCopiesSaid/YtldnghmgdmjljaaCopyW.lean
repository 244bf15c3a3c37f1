/-
  What the laws' own Copy and Kept return. Conditions: the bytes are no more than a million.
-/
import Derived.Test.YtldnghmgdmjljaaRdAll
import Derived.Laws.MakeOwn
namespace Go.Proofs.Ytldnghmgdmjljaa
open Go.RowKit
set_option linter.unusedSimpArgs false
set_option maxRecDepth 100000
set_option linter.unusedVariables false
set_option maxHeartbeats 400000 in
theorem copy_any (A : Option Addr) (n c : Nat) (bs : List Nat) (w : World) (hn : n ≤ 1000000) (hb : Bytes w w.heap.size A n bs) :
    Calls Try.prog 20 #[.slice A n c] w fun e w' => ∃ g cap, e = .returned (.slice (some ⟨g, 0, none⟩) n cap) ∧ n + 2 ≤ cap ∧ w.heap.size ≤ g ∧
      Own w' w.heap.size (.slice (some ⟨g, 0, none⟩) (n + 2) cap) (n + 2) (bs ++ [165, 90]) ∧ Below w.heap.size w w' := by
  go_enter Try.func20, Try.ntmps20
  go_wp2_with (first
    | (refine make_bytes _ _ rfl rfl w.heap.size _ _ _ (n + 2) rfl rfl (by omega) (by omega) (Nat.le_refl _) ?_
       intro w1 h1 g1
       have b1 : Below w.heap.size w w1 := ⟨g1.os, g1.tape, g1.output, g1.size, fun i hi => g1.block i hi (by simp)⟩)
    | (refine app_bytes (.tmp 6) (.tmp 7) rfl rfl w.heap.size _ 0 [] rfl h1 w.heap.size A n c bs rfl (hb.below b1) (by omega) b1.size ?_
       intro v2 w2 h2 g2 a2
       have b2 : Below w.heap.size w w2 := below_own b1 h1 (Nat.le_refl _) g2 b1.size)
    | (refine app_bytes (.tmp 8) (.tmp 9) rfl rfl w.heap.size _ _ _ rfl (h2.alloc _) _ _ 2 2 [165, 90] rfl (Bytes.new _ _ _ _ (by decide)) (by omega) (Nat.le_trans b2.size (by simp)) ?_
       intro v3 w3 h3 g3 a3
       have b3 : Below w.heap.size w w3 := below_own (b2.alloc b2.size _) (h2.alloc _) (Nat.le_refl _) g3 (Nat.le_trans b2.size (by simp))
       have h3' : Own w3 w.heap.size v3 (n + 2) (bs ++ [165, 90]) := by simpa using h3
       clear h3
       obtain ⟨A3, cap3, rfl, hcap, hmax, hA3⟩ := h3'.form
       unfold maxLen at hmax
       obtain ⟨g, rfl, hg1, hg2⟩ : ∃ g, A3 = some ⟨g, 0, none⟩ ∧ w.heap.size ≤ g ∧ g < w3.heap.size := hA3.resolve_left (by omega)
       clear hA3))
  go_ret
  exact ⟨g, cap3, rfl, hcap, hg1, h3', b3⟩
theorem mine_bytes {w w0 : World} {B B0 g n cap : Nat} {A : Option Addr} {bs : List Nat} (hm : Own w B (.slice (some ⟨g, 0, none⟩) (n + 2) cap) (n + 2) (bs ++ [165, 90])) (hb : Bytes w0 B0 A n bs) :
    Bytes w w.heap.size (some ⟨g, 0, none⟩) n bs := by
  have hmb := hm.bytes (fun x hx => by
    rcases List.mem_append.1 hx with hx | hx
    · exact hb.2 x hx
    · simp at hx; omega)
  refine ⟨?_, hb.2⟩
  have := hmb.1.take (k := n) (by omega)
  rwa [u8s, ← List.map_take, List.take_left' (by have := hb.len; omega)] at this
set_option maxHeartbeats 400000 in
theorem kept_any (A : Option Addr) (n c g cap B : Nat) (bs : List Nat) (w : World) (hn : n ≤ 1000000) (hcap : n + 2 ≤ cap) (hb : Bytes w B A n bs)
    (hm : Own w B (.slice (some ⟨g, 0, none⟩) (n + 2) cap) (n + 2) (bs ++ [165, 90])) :
    Calls Try.prog 22 #[.slice (some ⟨g, 0, none⟩) n cap, .slice A n c] w fun e w' => e = .returned (.bool true) ∧ Below w.heap.size w w' := by
  have hmb := hm.bytes (fun x hx => by
    rcases List.mem_append.1 hx with hx | hx
    · exact hb.2 x hx
    · simp at hx; omega)
  have hm1 : Bytes w w.heap.size (some ⟨g, 0, none⟩) n bs := ⟨by
    have := hmb.1.take (k := n) (by omega)
    rwa [u8s, ← List.map_take, List.take_left' (by have := hb.len; omega)] at this, hb.2⟩
  have k1 := str_of (P := Try.prog) hm1 cap 23 9 5 Try.underlying23 Try.underlying5 Try.underlying9
  have k2 := str_of (P := Try.prog) hb c 23 9 5 Try.underlying23 Try.underlying5 Try.underlying9
  have hl := hb.len
  have c1 : w.cell? ⟨g, n, none⟩ = some (.int .u8 165) := by
    rw [World.ownsRow.cellAt hm n (by omega)]
    simp [u8s, u8, hl]
  have c2 : w.cell? ⟨g, n + 1, none⟩ = some (.int .u8 90) := by
    rw [World.ownsRow.cellAt hm (n + 1) (by omega)]
    simp [u8s, u8, hl, show n + 1 - n = 1 by omega]
  clear hl hmb hm1 hm hb
  generalize strOf bs = str at k1 k2
  go_enter Try.func22, Try.ntmps22
  go_wp2_with fail
  all_goals go_ret
  all_goals exact ⟨rfl, Below.refl _ _⟩
/-- the bytes ahead of the marks -/
theorem mine_own {w : World} {base g n cap : Nat} {bs m : List Nat} (h : Own w base (.slice (some ⟨g, 0, none⟩) (n + 2) cap) (n + 2) (bs ++ m)) (hl : bs.length = n) : Own w base (.slice (some ⟨g, 0, none⟩) n cap) n bs := by
  refine ⟨by rw [u8s_length]; omega, ?_⟩
  rcases h.2 with ⟨h, _⟩ | ⟨g', cap', cur, hv, h1, h2, h3, h4, h5, h6⟩
  · cases h
  · injection hv with e1 e2 e3
    injection e1 with e1
    injection e1 with e1
    subst e1 e3
    refine .inr ⟨g, cap, cur, rfl, h1, h2, by omega, h4, h5, ?_⟩
    have := congrArg (List.take (n * 1)) h6
    rw [List.take_take, u8s, List.map_append, List.take_left' (by simp; omega)] at this
    rw [show min (n * 1) ((n + 2) * 1) = n * 1 by omega] at this
    exact this
end Go.Proofs.Ytldnghmgdmjljaa
