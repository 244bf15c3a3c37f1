/-
  No cell of these rows narrows 'for every input' (looked for: loops, veiled, ifaces, maps, wideKeys, modest, calm, conditions, laid).
  DERIVED. THE GIVEN ROWS OF THIS SEAT. 6 by the template 'for every input the law returns true; each argument reads behind the call as it read before'; 0 by the template 'total and deterministic' (their statements: YteghbfkkpnlilaaTotals.lean).
  GIVEN WITH THE SEED: the statements are not yours to turn. If you find one false, say at which input.
  Laid BY PROGRAM, IN A SANDBOX (cutbox-rows.mjs): the forced cells as the released guide's own fill.sh prints them over the translation 683a79b143c686b8… (all of the seat's roots in one cut). By AI agents, Wed Nov 11 2026. No macro, syntax, notation, axiom, sorry.
-/
import Derived.Test.YteghbfkkpnlilaaChecked
import GoSem.Claim
import GoSem.ClaimJoined
import GoSem.ClaimMapViews
import Derived.JoinedTies
import Derived.KernelRfl
namespace Go.Proofs.Yteghbfkkpnlilaa
/- THE CELL 'sum', in the pinned program and in every row, IS THE sha256 OF THE DUMP (.gsa) THAT YteghbfkkpnlilaaProg.lean LOADS. Nothing in Lean hashes anything: it is a label: what it is worth is what the hold of that sum in a sandbox is worth. -/
noncomputable def Try.pinned : Pinned := { name := "yteghbfkkpnlilaa", sum := "683a79b143c686b8b1d2ae21b2b16e37aa69c9fa965725272f9f4f9672665548", checked := Try.checked }
namespace Rows
def none {H : Type} : Left H := { results := [], args := [] }

/-- 'laminalaw09.SnapChanges': WHATEVER THE INPUT: true; the input reads as it did. -/
def snapChangesSpec : ChangeSpec := { name := "snapChanges", fn := fun _ => fun
  | [d1, d2] => { results := [.lit (.bool true)], args := [d1, d2] }
  | _ => none }
def snapChangesRow : OpenClaim := { program := "yteghbfkkpnlilaa", sum := "683a79b143c686b8b1d2ae21b2b16e37aa69c9fa965725272f9f4f9672665548", func := "lamina/laminalaw09.SnapChanges", spec := "snapChanges", unfollowed := true, recurses := true, apart := false }
def SnapChangesSaid : Prop := snapChangesRow.holds Try.pinned (OpenSpec.ofChange snapChangesSpec)

/-- ITS FALSE NEIGHBOUR: 'it returns false'. Refute it at one input. -/
def snapChangesWrong : ChangeSpec := { name := "snapChanges", fn := fun _ => fun
  | [d1, d2] => { results := [.lit (.bool false)], args := [d1, d2] }
  | _ => none }
def SnapChangesWrongFalsely : Prop := snapChangesRow.holds Try.pinned (OpenSpec.ofChange snapChangesWrong)

/-- 'laminalaw09.SnapSees': WHATEVER THE INPUT: true; the input reads as it did. -/
def snapSeesSpec : ChangeSpec := { name := "snapSees", fn := fun _ => fun
  | [d1, d2] => { results := [.lit (.bool true)], args := [d1, d2] }
  | _ => none }
def snapSeesRow : OpenClaim := { program := "yteghbfkkpnlilaa", sum := "683a79b143c686b8b1d2ae21b2b16e37aa69c9fa965725272f9f4f9672665548", func := "lamina/laminalaw09.SnapSees", spec := "snapSees", unfollowed := true, recurses := true, apart := false }
def SnapSeesSaid : Prop := snapSeesRow.holds Try.pinned (OpenSpec.ofChange snapSeesSpec)

/-- ITS FALSE NEIGHBOUR: 'it returns false'. Refute it at one input. -/
def snapSeesWrong : ChangeSpec := { name := "snapSees", fn := fun _ => fun
  | [d1, d2] => { results := [.lit (.bool false)], args := [d1, d2] }
  | _ => none }
def SnapSeesWrongFalsely : Prop := snapSeesRow.holds Try.pinned (OpenSpec.ofChange snapSeesWrong)

/-- 'laminalaw09.SnapTakes': WHATEVER THE INPUT: true; the input reads as it did. -/
def snapTakesSpec : ChangeSpec := { name := "snapTakes", fn := fun _ => fun
  | [d] => { results := [.lit (.bool true)], args := [d] }
  | _ => none }
def snapTakesRow : OpenClaim := { program := "yteghbfkkpnlilaa", sum := "683a79b143c686b8b1d2ae21b2b16e37aa69c9fa965725272f9f4f9672665548", func := "lamina/laminalaw09.SnapTakes", spec := "snapTakes", unfollowed := true, recurses := true, apart := false }
def SnapTakesSaid : Prop := snapTakesRow.holds Try.pinned (OpenSpec.ofChange snapTakesSpec)

/-- ITS FALSE NEIGHBOUR: 'it returns false'. Refute it at one input. -/
def snapTakesWrong : ChangeSpec := { name := "snapTakes", fn := fun _ => fun
  | [d] => { results := [.lit (.bool false)], args := [d] }
  | _ => none }
def SnapTakesWrongFalsely : Prop := snapTakesRow.holds Try.pinned (OpenSpec.ofChange snapTakesWrong)

/-- 'laminalaw09.SnapStays': WHATEVER THE INPUT: true; the input reads as it did. -/
def snapStaysSpec : ChangeSpec := { name := "snapStays", fn := fun _ => fun
  | [d1, d2] => { results := [.lit (.bool true)], args := [d1, d2] }
  | _ => none }
def snapStaysRow : OpenClaim := { program := "yteghbfkkpnlilaa", sum := "683a79b143c686b8b1d2ae21b2b16e37aa69c9fa965725272f9f4f9672665548", func := "lamina/laminalaw09.SnapStays", spec := "snapStays", unfollowed := true, recurses := true, apart := false }
def SnapStaysSaid : Prop := snapStaysRow.holds Try.pinned (OpenSpec.ofChange snapStaysSpec)

/-- ITS FALSE NEIGHBOUR: 'it returns false'. Refute it at one input. -/
def snapStaysWrong : ChangeSpec := { name := "snapStays", fn := fun _ => fun
  | [d1, d2] => { results := [.lit (.bool false)], args := [d1, d2] }
  | _ => none }
def SnapStaysWrongFalsely : Prop := snapStaysRow.holds Try.pinned (OpenSpec.ofChange snapStaysWrong)

/-- 'laminalaw09.SnapHistory': WHATEVER THE INPUT: true; the input reads as it did. -/
def snapHistorySpec : ChangeSpec := { name := "snapHistory", fn := fun _ => fun
  | [d1, d2] => { results := [.lit (.bool true)], args := [d1, d2] }
  | _ => none }
def snapHistoryRow : OpenClaim := { program := "yteghbfkkpnlilaa", sum := "683a79b143c686b8b1d2ae21b2b16e37aa69c9fa965725272f9f4f9672665548", func := "lamina/laminalaw09.SnapHistory", spec := "snapHistory", unfollowed := true, recurses := true, apart := false }
def SnapHistorySaid : Prop := snapHistoryRow.holds Try.pinned (OpenSpec.ofChange snapHistorySpec)

/-- ITS FALSE NEIGHBOUR: 'it returns false'. Refute it at one input. -/
def snapHistoryWrong : ChangeSpec := { name := "snapHistory", fn := fun _ => fun
  | [d1, d2] => { results := [.lit (.bool false)], args := [d1, d2] }
  | _ => none }
def SnapHistoryWrongFalsely : Prop := snapHistoryRow.holds Try.pinned (OpenSpec.ofChange snapHistoryWrong)

/-- 'laminalaw09.SnapForgets': WHATEVER THE INPUT: true; the input reads as it did. -/
def snapForgetsSpec : ChangeSpec := { name := "snapForgets", fn := fun _ => fun
  | [d] => { results := [.lit (.bool true)], args := [d] }
  | _ => none }
def snapForgetsRow : OpenClaim := { program := "yteghbfkkpnlilaa", sum := "683a79b143c686b8b1d2ae21b2b16e37aa69c9fa965725272f9f4f9672665548", func := "lamina/laminalaw09.SnapForgets", spec := "snapForgets", unfollowed := true, recurses := true, apart := false }
def SnapForgetsSaid : Prop := snapForgetsRow.holds Try.pinned (OpenSpec.ofChange snapForgetsSpec)

/-- ITS FALSE NEIGHBOUR: 'it returns false'. Refute it at one input. -/
def snapForgetsWrong : ChangeSpec := { name := "snapForgets", fn := fun _ => fun
  | [d] => { results := [.lit (.bool false)], args := [d] }
  | _ => none }
def SnapForgetsWrongFalsely : Prop := snapForgetsRow.holds Try.pinned (OpenSpec.ofChange snapForgetsWrong)

/- THE SECOND FORM. 'bulk': how many values and letters a reading holds, each counted each time it is reached (what is shared counts as often as it is met; a slice's spare places count too). A statement '..UptoSaid' is the law's where the arguments, and the package variables that the reading takes, are together of bulk at most 1048576: NARROWER than '..Said'. Prove '..Said' where nothing that the law and all that it calls make is longer than what came in: it says more and counts as full. Else prove '..UptoSaid'. A law counts once. -/
mutual
def uptoBulk {H : Type} : DataW H → Nat
  | .lit (.string bytes) => bytes.length + 1
  | .lit _ => 1
  | .nil => 1
  | .ptr d => uptoBulk d + 1
  | .slice elems spare => uptoBulkAll elems + uptoBulkAll spare + 1
  | .agg parts => uptoBulkAll parts + 1
  | .iface _ d => uptoBulk d + 1
  | .map entries => uptoBulkEntries entries + 1
  | .held _ => 1
def uptoBulkAll {H : Type} : List (DataW H) → Nat
  | [] => 0
  | d :: r => uptoBulk d + uptoBulkAll r
def uptoBulkEntries {H : Type} : List (Lit × DataW H) → Nat
  | [] => 0
  | x :: r => uptoBulkEntry x + uptoBulkEntries r
def uptoBulkEntry {H : Type} : Lit × DataW H → Nat
  | (.string bytes, d) => bytes.length + uptoBulk d + 1
  | (_, d) => uptoBulk d + 1
 end
def uptoSmall : (H : Type) → List (DataW H) → Bool := fun _ ds => decide (uptoBulkAll ds ≤ 1048576)
def OpenSpec.upto (s : _root_.Go.ChangeSpec) : _root_.Go.OpenSpec := { _root_.Go.OpenSpec.ofChange s with cond := some uptoSmall }

/-- 'laminalaw09.SnapChanges', WHERE WHAT IT READS IS OF BULK AT MOST 1048576: true; the input reads as it did. -/
def snapChangesUptoRow : OpenClaim := { program := "yteghbfkkpnlilaa", sum := "683a79b143c686b8b1d2ae21b2b16e37aa69c9fa965725272f9f4f9672665548", func := "lamina/laminalaw09.SnapChanges", spec := "snapChanges", unfollowed := true, recurses := true, apart := false, narrowed := true }
def SnapChangesUptoSaid : Prop := snapChangesUptoRow.holds Try.pinned (OpenSpec.upto snapChangesSpec)

/-- 'laminalaw09.SnapSees', WHERE WHAT IT READS IS OF BULK AT MOST 1048576: true; the input reads as it did. -/
def snapSeesUptoRow : OpenClaim := { program := "yteghbfkkpnlilaa", sum := "683a79b143c686b8b1d2ae21b2b16e37aa69c9fa965725272f9f4f9672665548", func := "lamina/laminalaw09.SnapSees", spec := "snapSees", unfollowed := true, recurses := true, apart := false, narrowed := true }
def SnapSeesUptoSaid : Prop := snapSeesUptoRow.holds Try.pinned (OpenSpec.upto snapSeesSpec)

/-- 'laminalaw09.SnapTakes', WHERE WHAT IT READS IS OF BULK AT MOST 1048576: true; the input reads as it did. -/
def snapTakesUptoRow : OpenClaim := { program := "yteghbfkkpnlilaa", sum := "683a79b143c686b8b1d2ae21b2b16e37aa69c9fa965725272f9f4f9672665548", func := "lamina/laminalaw09.SnapTakes", spec := "snapTakes", unfollowed := true, recurses := true, apart := false, narrowed := true }
def SnapTakesUptoSaid : Prop := snapTakesUptoRow.holds Try.pinned (OpenSpec.upto snapTakesSpec)

/-- 'laminalaw09.SnapStays', WHERE WHAT IT READS IS OF BULK AT MOST 1048576: true; the input reads as it did. -/
def snapStaysUptoRow : OpenClaim := { program := "yteghbfkkpnlilaa", sum := "683a79b143c686b8b1d2ae21b2b16e37aa69c9fa965725272f9f4f9672665548", func := "lamina/laminalaw09.SnapStays", spec := "snapStays", unfollowed := true, recurses := true, apart := false, narrowed := true }
def SnapStaysUptoSaid : Prop := snapStaysUptoRow.holds Try.pinned (OpenSpec.upto snapStaysSpec)

/-- 'laminalaw09.SnapHistory', WHERE WHAT IT READS IS OF BULK AT MOST 1048576: true; the input reads as it did. -/
def snapHistoryUptoRow : OpenClaim := { program := "yteghbfkkpnlilaa", sum := "683a79b143c686b8b1d2ae21b2b16e37aa69c9fa965725272f9f4f9672665548", func := "lamina/laminalaw09.SnapHistory", spec := "snapHistory", unfollowed := true, recurses := true, apart := false, narrowed := true }
def SnapHistoryUptoSaid : Prop := snapHistoryUptoRow.holds Try.pinned (OpenSpec.upto snapHistorySpec)

/-- 'laminalaw09.SnapForgets', WHERE WHAT IT READS IS OF BULK AT MOST 1048576: true; the input reads as it did. -/
def snapForgetsUptoRow : OpenClaim := { program := "yteghbfkkpnlilaa", sum := "683a79b143c686b8b1d2ae21b2b16e37aa69c9fa965725272f9f4f9672665548", func := "lamina/laminalaw09.SnapForgets", spec := "snapForgets", unfollowed := true, recurses := true, apart := false, narrowed := true }
def SnapForgetsUptoSaid : Prop := snapForgetsUptoRow.holds Try.pinned (OpenSpec.upto snapForgetsSpec)

end Rows
end Go.Proofs.Yteghbfkkpnlilaa
