/-
  The holes, gone through: what the iterator tells. Conditions: the row of holes lies where it is said to.
-/
import Derived.Test.YtliockcbnmbhnaaTc
import Derived.Test.YtliockcbnmbhnaaGiven
namespace Go.Proofs.Ytliockcbnmbhnaa
open Go.RowKit Go.Shelf Go.BigFrame
attribute [local go_sem] Oper.semAt_some
set_option linter.unusedSimpArgs false
set_option linter.unusedVariables false
/-- the row of the holes -/
def Row? (w : World) (A : Option Addr) (r : Nat) (L : List (Nat × Nat)) : Prop := L = [] ∨ (A = some ⟨r, 0, none⟩ ∧ ERow w r L)
/-- from lo to hi, nothing turns -/
def Kept (lo hi : Nat) (W W' : World) : Prop := ∀ k, lo ≤ k → k < hi → W'.heap[k]? = W.heap[k]?
theorem Kept.trans {lo hi : Nat} {a b c : World} (h : Kept lo hi a b) (k : Kept lo hi b c) : Kept lo hi a c := fun j h1 h2 => (k j h1 h2).trans (h j h1 h2)
theorem Kept.alloc {lo hi : Nat} {a b : World} (h : Kept lo hi a b) (hs : hi ≤ a.heap.size) (o : Obj) : Kept lo hi a (b.alloc o) := fun j h1 h2 => by
  have hj := h j h1 h2
  have hlt : j < b.heap.size := by
    rcases Nat.lt_or_ge j b.heap.size with h3 | h3
    · exact h3
    · rw [Array.getElem?_eq_none h3, Array.getElem?_eq_getElem (by omega)] at hj; cases hj
  exact (Below.heap_alloc _ _ _ hlt).trans hj
def encE (e : Nat × Nat) : Array Value := #[exV e]
set_option maxRecDepth 100000 in
set_option maxHeartbeats 4000000 in
theorem vals1_gives (lo Bs r c : Nat) (A : Option Addr) (L : List (Nat × Nat)) (w : World) (hB0 : lo ≤ Bs) (hBs : Bs < w.heap.size) (hx : Boxed w Bs 36 (.slice A L.length c)) (hrow : Row? w A r L) (hr0 : L ≠ [] → lo ≤ r) (hmany : L.length ≤ 100000) :
    Gives Fence.wide 4 Try.prog 56 #[.pointer (some ⟨Bs, 0, none⟩)] encE L.length (fun _ _ => True) (fun xs _ => xs = L) (Kept lo w.heap.size) w := by
  intro l J W hW hJ HY hJ0
  have hro : Fence.wide.round = none := rfl
  have hXW : Boxed W Bs 36 (.slice A L.length c) := (hW.block Bs hBs).trans hx
  have hRW : Row? W A r L := hrow.imp id (fun h => ⟨h.1, h.2.of (hW.block r h.2.lt)⟩)
  have hrl : L ≠ [] → r < w.heap.size := fun hne => hrow.elim (fun h => absurd h hne) (fun h => h.2.lt)
  have HRW := Lib.hid hRW
  have hcl := hXW.cell
  have HJ := Lib.hid hJ
  have HY := Lib.hid HY
  have HL := Lib.hid (And.intro hr0 hrl)
  have hsW := hW.size
  clear hJ hx hXW hRW hrow hr0 hrl hW
  refine callsIn_of_wp Try.func56 rfl trivial ?_ hro
  simp only [Try.ntmps56, List.size_toArray, List.length_cons, List.length_nil, Nat.reduceAdd, Nat.reduceSub, Array.replicate_succ, Array.replicate_zero, List.push_toArray, List.append_toArray, List.nil_append, List.cons_append]
  gi_wp2
  clear hcl
  gi_loopw [7] (fun i wr => ∃ k : Nat, k ≤ L.length ∧ i = .int .i64 k ∧ J (L.take k) wr ∧ Kept lo w.heap.size W wr) (fun i _ => L.length - (intS i).toNat)
  case atStart => exact ⟨0, Nat.zero_le _, rfl, by simpa using hJ0, fun _ _ _ => rfl⟩
  case round =>
    obtain ⟨k, hk, rfl, hJs, hkp⟩ := hrel
    by_cases hlt : k < L.length
    · have hne : L ≠ [] := fun h => by rw [h] at hlt; simp at hlt
      obtain ⟨hA, hR⟩ : A = some ⟨r, 0, none⟩ ∧ ERow W r L := HRW.out.elim (fun h => absurd h hne) id
      have hR2 : ERow wr r L := hR.of (hkp r (HL.out.1 hne) (HL.out.2 hne))
      obtain ⟨c0, c1, -, -⟩ := hR2.get (gx_some hlt)
      subst hA
      have g2 : wr.grownBy (wr.alloc (.cells #[.int .i64 ((gx L k).1 : Int), .int .i64 ((gx L k).2 : Int)] 45)) none := World.grownBy_alloc wr _ none
      have hJ2 := HJ.out _ wr _ none hJs g2 (fun r e => by cases e)
      obtain ⟨fn, tmps, assign, body, hy, hYR⟩ := HY.out _ (gx L k) _ hJ2 trivial (by simp; omega)
      have htk : L.take (k + 1) = L.take k ++ [gx L k] := by rw [List.take_add_one, gx_some hlt]; rfl
      have HT := Lib.hid (And.intro htk hkp)
      have hsa : (wr.alloc (.cells #[.int .i64 ((gx L k).1 : Int), .int .i64 ((gx L k).2 : Int)] 45)).heap.size = wr.heap.size + 1 := World.size_alloc _ _
      have HSA := Lib.hid hsa
      dsimp only [encE, exV] at hy
      clear hJs hkp hR hR2 g2 hJ2 htk hsa
      gi_wp2_with fail
      refine hYR.mono ?_
      rintro e W3 ⟨rfl, hJ3, hk3⟩
      have hk4 : Kept lo w.heap.size W W3 := (HT.out.2.alloc hsW _).trans hk3
      have HK4 := Lib.hid (And.intro hJ3 hk4)
      clear hYR hy hJ3 hk3 hk4
      gi_wp2
      go_roundw
      case rel => exact ⟨k + 1, by omega, by go_num, by rw [HT.out.1]; exact HK4.out.1, HK4.out.2⟩
      case measure => simp [intS]; omega
    · obtain rfl : k = L.length := by omega
      gi_wp2
      go_end0
      exact ⟨⟨_, rfl⟩, L, rfl, by rw [List.take_length] at hJs; exact hJs⟩
end Go.Proofs.Ytliockcbnmbhnaa
