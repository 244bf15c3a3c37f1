/-
  NARROWER THAN 'FOR EVERY INPUT', by the rows' own cells (each row's printed sentence says how): CrcSums: laid · BoxSeals: laid · BoxIs: laid · BoxTurns: laid · BoxParts: laid · BoxApart: laid.
  DERIVED. THE GIVEN ROWS OF THIS SEAT. 6 by the template 'for every input the law returns true; each argument reads behind the call as it read before'; 0 by the template 'total and deterministic' (their statements: YtgdkpmgfholnkaaDoorTotals.lean).
  GIVEN WITH THE SEED: the statements are not yours to turn. If you find one false, say at which input.
  Laid BY PROGRAM, IN A SANDBOX (cutbox-rows.mjs): the forced cells as the released guide's own fill.sh prints them over the translation 88a0dfa09952d09d… (all of the seat's roots in one cut). By AI agents, Wed Nov 11 2026. No macro, syntax, notation, axiom, sorry.
-/
import Derived.Test.YtgdkpmgfholnkaaDoorChecked
import GoSem.Claim
import GoSem.ClaimJoined
import GoSem.ClaimMapViews
import Derived.JoinedTies
import Derived.KernelRfl
namespace Go.Proofs.YtgdkpmgfholnkaaDoor
/- THE CELL 'sum', in the pinned program and in every row, IS THE sha256 OF THE DUMP (.gsa) THAT YtgdkpmgfholnkaaDoorProg.lean LOADS. Nothing in Lean hashes anything: it is a label: what it is worth is what the hold of that sum in a sandbox is worth. -/
noncomputable def Tryd.pinned : Pinned := { name := "ytgdkpmgfholnkaadoor", sum := "88a0dfa09952d09d9ff37999b701ce2a82aab40c05c600607841d8df2244826d", checked := Tryd.checked }
namespace Rows
def none {H : Type} : Left H := { results := [], args := [] }

/- WHAT THE LISTED PACKAGE-LEVEL VARIABLES READ AS WHEN THE CALL BEGINS. Each datum BY PROGRAM (the guide's laid-datum.mjs) off the statement by which the dump's own 'gosem.cut.vars' lays the variable. In a bare row this is a premise. The card (YtgdkpmgfholnkaaDoorCards.lean) ties it to the program's text. -/
def laid_lamina_crc_halves {H : Type} : DataW H := .agg [.lit (.int .u32 0), .lit (.int .u32 274646895), .lit (.int .u32 549293790), .lit (.int .u32 820201905), .lit (.int .u32 1098587580), .lit (.int .u32 1361435347), .lit (.int .u32 1640403810), .lit (.int .u32 1905808397), .lit (.int .u32 2197175160), .lit (.int .u32 2460548119), .lit (.int .u32 2722870694), .lit (.int .u32 2987750089), .lit (.int .u32 3280807620), .lit (.int .u32 3553878443), .lit (.int .u32 3811616794), .lit (.int .u32 4084100981)]

/-- 'laminalaw01.CrcSums': WHATEVER THE INPUT: true; the input reads as it did. -/
def crcSumsSpec : ChangeSpec := { name := "crcSums", fn := fun _ => fun
  | [d1, d2] => { results := [.lit (.bool true)], args := [d1, d2] }
  | _ => none }
def crcSumsRow : OpenClaim := { program := "ytgdkpmgfholnkaadoor", sum := "88a0dfa09952d09d9ff37999b701ce2a82aab40c05c600607841d8df2244826d", func := "lamina/laminalaw01.CrcSums", spec := "crcSums", named := ["lamina/crc.halves"], apart := false, laid := [("lamina/crc.halves", laid_lamina_crc_halves)] }
def CrcSumsSaid : Prop := crcSumsRow.holds Tryd.pinned (OpenSpec.ofChange crcSumsSpec)

/-- ITS FALSE NEIGHBOUR: 'it returns false'. Refute it at one input. -/
def crcSumsWrong : ChangeSpec := { name := "crcSums", fn := fun _ => fun
  | [d1, d2] => { results := [.lit (.bool false)], args := [d1, d2] }
  | _ => none }
def CrcSumsWrongFalsely : Prop := crcSumsRow.holds Tryd.pinned (OpenSpec.ofChange crcSumsWrong)

/-- 'laminalaw04.BoxSeals': WHATEVER THE INPUT: true; the input reads as it did. -/
def boxSealsSpec : ChangeSpec := { name := "boxSeals", fn := fun _ => fun
  | [d] => { results := [.lit (.bool true)], args := [d] }
  | _ => none }
def boxSealsRow : OpenClaim := { program := "ytgdkpmgfholnkaadoor", sum := "88a0dfa09952d09d9ff37999b701ce2a82aab40c05c600607841d8df2244826d", func := "lamina/laminalaw04.BoxSeals", spec := "boxSeals", named := ["lamina/crc.halves"], apart := false, laid := [("lamina/crc.halves", laid_lamina_crc_halves)] }
def BoxSealsSaid : Prop := boxSealsRow.holds Tryd.pinned (OpenSpec.ofChange boxSealsSpec)

/-- ITS FALSE NEIGHBOUR: 'it returns false'. Refute it at one input. -/
def boxSealsWrong : ChangeSpec := { name := "boxSeals", fn := fun _ => fun
  | [d] => { results := [.lit (.bool false)], args := [d] }
  | _ => none }
def BoxSealsWrongFalsely : Prop := boxSealsRow.holds Tryd.pinned (OpenSpec.ofChange boxSealsWrong)

/-- 'laminalaw04.BoxIs': WHATEVER THE INPUT: true; the input reads as it did. -/
def boxIsSpec : ChangeSpec := { name := "boxIs", fn := fun _ => fun
  | [d] => { results := [.lit (.bool true)], args := [d] }
  | _ => none }
def boxIsRow : OpenClaim := { program := "ytgdkpmgfholnkaadoor", sum := "88a0dfa09952d09d9ff37999b701ce2a82aab40c05c600607841d8df2244826d", func := "lamina/laminalaw04.BoxIs", spec := "boxIs", named := ["lamina/crc.halves"], apart := false, laid := [("lamina/crc.halves", laid_lamina_crc_halves)] }
def BoxIsSaid : Prop := boxIsRow.holds Tryd.pinned (OpenSpec.ofChange boxIsSpec)

/-- ITS FALSE NEIGHBOUR: 'it returns false'. Refute it at one input. -/
def boxIsWrong : ChangeSpec := { name := "boxIs", fn := fun _ => fun
  | [d] => { results := [.lit (.bool false)], args := [d] }
  | _ => none }
def BoxIsWrongFalsely : Prop := boxIsRow.holds Tryd.pinned (OpenSpec.ofChange boxIsWrong)

/-- 'laminalaw04.BoxTurns': WHATEVER THE INPUT: true; the input reads as it did. -/
def boxTurnsSpec : ChangeSpec := { name := "boxTurns", fn := fun _ => fun
  | [d1, d2, d3] => { results := [.lit (.bool true)], args := [d1, d2, d3] }
  | _ => none }
def boxTurnsRow : OpenClaim := { program := "ytgdkpmgfholnkaadoor", sum := "88a0dfa09952d09d9ff37999b701ce2a82aab40c05c600607841d8df2244826d", func := "lamina/laminalaw04.BoxTurns", spec := "boxTurns", named := ["lamina/crc.halves"], apart := false, laid := [("lamina/crc.halves", laid_lamina_crc_halves)] }
def BoxTurnsSaid : Prop := boxTurnsRow.holds Tryd.pinned (OpenSpec.ofChange boxTurnsSpec)

/-- ITS FALSE NEIGHBOUR: 'it returns false'. Refute it at one input. -/
def boxTurnsWrong : ChangeSpec := { name := "boxTurns", fn := fun _ => fun
  | [d1, d2, d3] => { results := [.lit (.bool false)], args := [d1, d2, d3] }
  | _ => none }
def BoxTurnsWrongFalsely : Prop := boxTurnsRow.holds Tryd.pinned (OpenSpec.ofChange boxTurnsWrong)

/-- 'laminalaw04.BoxParts': WHATEVER THE INPUT: true; the input reads as it did. -/
def boxPartsSpec : ChangeSpec := { name := "boxParts", fn := fun _ => fun
  | [d] => { results := [.lit (.bool true)], args := [d] }
  | _ => none }
def boxPartsRow : OpenClaim := { program := "ytgdkpmgfholnkaadoor", sum := "88a0dfa09952d09d9ff37999b701ce2a82aab40c05c600607841d8df2244826d", func := "lamina/laminalaw04.BoxParts", spec := "boxParts", unfollowed := true, recurses := true, named := ["lamina/crc.halves"], apart := false, laid := [("lamina/crc.halves", laid_lamina_crc_halves)] }
def BoxPartsSaid : Prop := boxPartsRow.holds Tryd.pinned (OpenSpec.ofChange boxPartsSpec)

/-- ITS FALSE NEIGHBOUR: 'it returns false'. Refute it at one input. -/
def boxPartsWrong : ChangeSpec := { name := "boxParts", fn := fun _ => fun
  | [d] => { results := [.lit (.bool false)], args := [d] }
  | _ => none }
def BoxPartsWrongFalsely : Prop := boxPartsRow.holds Tryd.pinned (OpenSpec.ofChange boxPartsWrong)

/-- 'laminalaw04.BoxApart': WHATEVER THE INPUT: true; the input reads as it did. -/
def boxApartSpec : ChangeSpec := { name := "boxApart", fn := fun _ => fun
  | [d1, d2] => { results := [.lit (.bool true)], args := [d1, d2] }
  | _ => none }
def boxApartRow : OpenClaim := { program := "ytgdkpmgfholnkaadoor", sum := "88a0dfa09952d09d9ff37999b701ce2a82aab40c05c600607841d8df2244826d", func := "lamina/laminalaw04.BoxApart", spec := "boxApart", named := ["lamina/crc.halves"], apart := false, laid := [("lamina/crc.halves", laid_lamina_crc_halves)] }
def BoxApartSaid : Prop := boxApartRow.holds Tryd.pinned (OpenSpec.ofChange boxApartSpec)

/-- ITS FALSE NEIGHBOUR: 'it returns false'. Refute it at one input. -/
def boxApartWrong : ChangeSpec := { name := "boxApart", fn := fun _ => fun
  | [d1, d2] => { results := [.lit (.bool false)], args := [d1, d2] }
  | _ => none }
def BoxApartWrongFalsely : Prop := boxApartRow.holds Tryd.pinned (OpenSpec.ofChange boxApartWrong)

/- THE SECOND FORM. 'bulk': how many values and letters a reading holds, each counted each time it is reached (what is shared counts as often as it is met; a slice's spare places count too). A statement '..UptoSaid' is the law's where the arguments, and the package variables that the reading takes, are together of bulk at most 1048576: NARROWER than '..Said'. Prove '..Said' where nothing that the law and all that it calls make is longer than what came in: it says more and counts as full. Else prove '..UptoSaid'. A law counts once. -/
mutual
def uptoBulk {H : Type} : DataW H → Nat
  | .lit (.string bytes) => bytes.length + 1
  | .lit _ => 1
  | .nil => 1
  | .ptr d => uptoBulk d + 1
  | .slice elems spare => uptoBulkAll elems + uptoBulkAll spare + 1
  | .agg parts => uptoBulkAll parts + 1
  | .iface _ d => uptoBulk d + 1
  | .map entries => uptoBulkEntries entries + 1
  | .held _ => 1
def uptoBulkAll {H : Type} : List (DataW H) → Nat
  | [] => 0
  | d :: r => uptoBulk d + uptoBulkAll r
def uptoBulkEntries {H : Type} : List (Lit × DataW H) → Nat
  | [] => 0
  | x :: r => uptoBulkEntry x + uptoBulkEntries r
def uptoBulkEntry {H : Type} : Lit × DataW H → Nat
  | (.string bytes, d) => bytes.length + uptoBulk d + 1
  | (_, d) => uptoBulk d + 1
 end
def uptoSmall : (H : Type) → List (DataW H) → Bool := fun _ ds => decide (uptoBulkAll ds ≤ 1048576)
def OpenSpec.upto (s : _root_.Go.ChangeSpec) : _root_.Go.OpenSpec := { _root_.Go.OpenSpec.ofChange s with cond := some uptoSmall }

/-- 'laminalaw01.CrcSums', WHERE WHAT IT READS IS OF BULK AT MOST 1048576: true; the input reads as it did. -/
def crcSumsUptoRow : OpenClaim := { program := "ytgdkpmgfholnkaadoor", sum := "88a0dfa09952d09d9ff37999b701ce2a82aab40c05c600607841d8df2244826d", func := "lamina/laminalaw01.CrcSums", spec := "crcSums", named := ["lamina/crc.halves"], apart := false, laid := [("lamina/crc.halves", laid_lamina_crc_halves)], narrowed := true }
def CrcSumsUptoSaid : Prop := crcSumsUptoRow.holds Tryd.pinned (OpenSpec.upto crcSumsSpec)

/-- 'laminalaw04.BoxSeals', WHERE WHAT IT READS IS OF BULK AT MOST 1048576: true; the input reads as it did. -/
def boxSealsUptoRow : OpenClaim := { program := "ytgdkpmgfholnkaadoor", sum := "88a0dfa09952d09d9ff37999b701ce2a82aab40c05c600607841d8df2244826d", func := "lamina/laminalaw04.BoxSeals", spec := "boxSeals", named := ["lamina/crc.halves"], apart := false, laid := [("lamina/crc.halves", laid_lamina_crc_halves)], narrowed := true }
def BoxSealsUptoSaid : Prop := boxSealsUptoRow.holds Tryd.pinned (OpenSpec.upto boxSealsSpec)

/-- 'laminalaw04.BoxIs', WHERE WHAT IT READS IS OF BULK AT MOST 1048576: true; the input reads as it did. -/
def boxIsUptoRow : OpenClaim := { program := "ytgdkpmgfholnkaadoor", sum := "88a0dfa09952d09d9ff37999b701ce2a82aab40c05c600607841d8df2244826d", func := "lamina/laminalaw04.BoxIs", spec := "boxIs", named := ["lamina/crc.halves"], apart := false, laid := [("lamina/crc.halves", laid_lamina_crc_halves)], narrowed := true }
def BoxIsUptoSaid : Prop := boxIsUptoRow.holds Tryd.pinned (OpenSpec.upto boxIsSpec)

/-- 'laminalaw04.BoxTurns', WHERE WHAT IT READS IS OF BULK AT MOST 1048576: true; the input reads as it did. -/
def boxTurnsUptoRow : OpenClaim := { program := "ytgdkpmgfholnkaadoor", sum := "88a0dfa09952d09d9ff37999b701ce2a82aab40c05c600607841d8df2244826d", func := "lamina/laminalaw04.BoxTurns", spec := "boxTurns", named := ["lamina/crc.halves"], apart := false, laid := [("lamina/crc.halves", laid_lamina_crc_halves)], narrowed := true }
def BoxTurnsUptoSaid : Prop := boxTurnsUptoRow.holds Tryd.pinned (OpenSpec.upto boxTurnsSpec)

/-- 'laminalaw04.BoxParts', WHERE WHAT IT READS IS OF BULK AT MOST 1048576: true; the input reads as it did. -/
def boxPartsUptoRow : OpenClaim := { program := "ytgdkpmgfholnkaadoor", sum := "88a0dfa09952d09d9ff37999b701ce2a82aab40c05c600607841d8df2244826d", func := "lamina/laminalaw04.BoxParts", spec := "boxParts", unfollowed := true, recurses := true, named := ["lamina/crc.halves"], apart := false, laid := [("lamina/crc.halves", laid_lamina_crc_halves)], narrowed := true }
def BoxPartsUptoSaid : Prop := boxPartsUptoRow.holds Tryd.pinned (OpenSpec.upto boxPartsSpec)

/-- 'laminalaw04.BoxApart', WHERE WHAT IT READS IS OF BULK AT MOST 1048576: true; the input reads as it did. -/
def boxApartUptoRow : OpenClaim := { program := "ytgdkpmgfholnkaadoor", sum := "88a0dfa09952d09d9ff37999b701ce2a82aab40c05c600607841d8df2244826d", func := "lamina/laminalaw04.BoxApart", spec := "boxApart", named := ["lamina/crc.halves"], apart := false, laid := [("lamina/crc.halves", laid_lamina_crc_halves)], narrowed := true }
def BoxApartUptoSaid : Prop := boxApartUptoRow.holds Tryd.pinned (OpenSpec.upto boxApartSpec)

end Rows
end Go.Proofs.YtgdkpmgfholnkaaDoor
