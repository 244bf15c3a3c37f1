/-
  The law JournalKeeps as its frame calls it. Condition: the package's table holds its sixteen numbers.
-/
import Derived.Test.YtpklcmocjimcpaaDoorZj
import Derived.Test.YtpklcmocjimcpaaDoorJkeC
namespace Go.Proofs.YtpklcmocjimcpaaDoor
open Go.RowKit Go.Shelf
set_option maxRecDepth 100000
theorem journalKeeps_walk (A0 : Option Addr) (n0 c0 : Nat) (os : List JOpV) (m0 : n0 ≤ 9223372036854775807) {w : World} (hS : JCells w w.heap.size A0 n0 os ∧ ∀ o ∈ os, o.At w w.heap.size ∧ o.Fit ∧ o.Wide) (arm : Int) (ma : -9223372036854775808 ≤ arm) (oa : arm ≤ 9223372036854775807) (A2 : Option Addr) (c2 : Nat) (keep : List Bool) (mk : keep.length ≤ c2 ∧ c2 ≤ 9223372036854775807) (hK : Reads w w.heap.size 1 A2 keep.length (flags keep)) (hT : Tab w) :
    Calls Tryd.prog 3 #[.slice A0 n0 c0, .int .i64 arm, .slice A2 keep.length c2] w fun e w' => e = .returned (.bool true) ∧ Below w.heap.size w w' :=
  callsIn_wide.1 (keeps_in A0 n0 c0 os m0 arm ma oa A2 c2 keep w hS hK (by omega) hT)
end Go.Proofs.YtpklcmocjimcpaaDoor
