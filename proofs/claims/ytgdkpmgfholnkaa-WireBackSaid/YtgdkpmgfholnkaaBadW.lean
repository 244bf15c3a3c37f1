/-
  Readers that go on: what stays behind each reading. No condition.
-/
import Derived.Test.YtgdkpmgfholnkaaAliveW
import Derived.Deep.LoopGhost
namespace Go.Proofs.Ytgdkpmgfholnkaa
open Go.RowKit
set_option linter.unusedSimpArgs false
set_option linter.unusedVariables false
theorem spoilt_to (k : Int) : RD.spoilt.to k = RD.spoilt := by
  have h1 : RD.spoilt.take 1 = RD.spoilt := by kernel_rfl
  have h2 : RD.spoilt.flagTo = RD.spoilt := by kernel_rfl
  have h3 : RD.spoilt.bytesTo = RD.spoilt := by kernel_rfl
  have h5 : RD.spoilt.numsTo = RD.spoilt := by kernel_rfl
  have h8 : RD.spoilt.take 8 = RD.spoilt := by kernel_rfl
  unfold RD.to
  simp only [h1, h2, h3, h5, h8, ite_self]
theorem RTo.go {w0 w w' : World} {base : Nat} {F : List Nat} {p : Option Addr} {s s' : RD} (h : Rd w base F p s) (hb : Below base w0 w) (hs : base ≤ w.heap.size) (t : RTo w base F p s' w') : ∃ F', Rd w' base F' p s' ∧ Below base w0 w' := by
  obtain ⟨F', h1, h2, h3⟩ := t
  exact ⟨F', h1, hb.trans (h2.below h.over hs)⟩
theorem BTo.go {w0 w w' : World} {base g : Nat} {F : List Nat} {p : Option Addr} {s s' t t' : RD} (h : Both w base F p s g t) (hb : Below base w0 w) (hs : base ≤ w.heap.size) (r : BTo w base F p s' g t' w') : ∃ F', Both w' base F' p s' g t' ∧ Below base w0 w' := by
  obtain ⟨F', h1, h2, h3⟩ := r
  refine ⟨F', h1, hb.trans (h2.below (fun k hk => ?_) hs)⟩
  rcases List.mem_cons.1 hk with rfl | hk
  · exact h.mr.over
  · exact h.rd.over k hk
theorem ref_zero (w : World) : (zeroValue 30).run Try.prog w = .ok (.agg #[.slice none 0 0, .bool false]) w := by kernel_rfl
theorem RD.flagTo_le (s : RD) : s.flagTo.bs.length ≤ s.bs.length := by
  have := RD.to_le s 2
  simpa [RD.to] using this
end Go.Proofs.Ytgdkpmgfholnkaa
