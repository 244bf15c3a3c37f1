/-
  Which images there may be: a head of a size and of data objects of a size, of nothing else, is good just where they are such. Conditions: numbers are 64 bits wide.
-/
import Derived.Test.YtjnkfpnjdnknnaaVc
import Derived.Test.YtjnkfpnjdnknnaaMs
import Derived.Deep.Cut
import Derived.Deep.QuietTactic
import Derived.BigQuiet
import Derived.Deep.LoopGhost
namespace Go.Proofs.Ytjnkfpnjdnknnaa
open Go.RowKit Go.BigFrame
set_option linter.unusedSimpArgs false
set_option linter.unusedVariables false
set_option maxRecDepth 100000
structure VA where
  size : Int
  on : Bool
  good : Bool
  M : Option Addr
  row : List Nat
  cm : Nat
  par : ByteArray
  ps : Int
  ov : Int
structure HA where
  id : Int
  obj : Int
  seq : Int
  S : Option Addr
  cs' : Nat
  sn : List Unit
  vw : VA
  ow : Int
  it : Int
  tg : Int
def HA.cs (h : HA) : Array Value := #[.int .i64 h.id, .int .i64 h.vw.size, .int .i64 h.obj, .int .i64 h.seq, .slice h.S h.sn.length h.cs', .bool h.vw.on, .bool h.vw.good, .slice h.vw.M h.vw.row.length h.vw.cm, .string (h.vw.par), .int .i64 h.vw.ps, .int .i64 h.vw.ov, .int .i64 h.ow, .int .i64 h.it, .int .i64 h.tg]
def HA.B (h : HA) (bv bs bi : Bool) : Bool := decide (0 ≤ h.id) && decide (0 ≤ h.seq) && isObjB h.obj && bv && bs && decide (-1 ≤ h.ow) && decide (h.ow < 8) && bi
theorem B_no {h : HA} {bv bs bi : Bool} (q : decide (0 ≤ h.id) = false ∨ decide (0 ≤ h.seq) = false ∨ isObjB h.obj = false ∨ bv = false ∨ bs = false ∨ decide (-1 ≤ h.ow) = false ∨ decide (h.ow < 8) = false ∨ bi = false) : h.B bv bs bi = false := by
  unfold HA.B
  rcases q with q | q | q | q | q | q | q | q <;> rw [q] <;> simp
theorem B_yes {h : HA} {bv bs bi : Bool} (h1 : decide (0 ≤ h.id) = true) (h2 : decide (0 ≤ h.seq) = true) (h3 : isObjB h.obj = true) (h4 : bv = true) (h5 : bs = true) (h6 : decide (-1 ≤ h.ow) = true) (h7 : decide (h.ow < 8) = true) (h8 : bi = true) : h.B bv bs bi = true := by
  unfold HA.B
  rw [h1, h2, h3, h4, h5, h6, h7, h8]
  rfl
theorem bsnaps_any (size obj : Int) (w : World) : Calls Try.prog 24 #[.agg (bareH size obj)] w fun e w' => e = .returned (.bool true) ∧ Below w.heap.size w w' := by
  have B0 := fun (o : Obj) => below_alloc w o
  have hmm := @run_makeMap Try.prog
  have HB1 : Hid (Below w.heap.size w ((w.alloc (.cells (bareH size obj) 57)).alloc (.map #[] 0))) := Lib.hid ((below_alloc w _).alloc (by simp) _)
  have HM1 := Lib.hid (SMap.new (P := Try.prog) (kt := 9) (w.alloc (.cells (bareH size obj) 57)))
  unfold bareH at *
  go_enter Try.func24, Try.ntmps24
  go_upto_region 4 with (fail)
  have hm := HM1.out
  clear hmm
  go_wp2
  go_loopw [4, 15] (fun lv i wr => i = .int .i64 0 ∧ wr = (w.alloc (.cells #[.int .i64 0, .int .i64 size, .int .i64 obj, .int .i64 0, .slice none 0 0, .bool false, .bool false, .slice none 0 0, .string ⟨#[]⟩, .int .i64 0, .int .i64 0, .int .i64 0, .int .i64 0, .int .i64 0] 57)).alloc (.map #[] 0)) (fun _ i _ => 0)
  case atStart => exact ⟨rfl, rfl⟩
  case round =>
    obtain ⟨rfl, rfl⟩ := hrel
    have q1 := (HM1.out.owns).len Try.underlying63 3
    have q2 : (w.alloc (.cells #[.int .i64 0, .int .i64 size, .int .i64 obj, .int .i64 0, .slice none 0 0, .bool false, .bool false, .slice none 0 0, .string ⟨#[]⟩, .int .i64 0, .int .i64 0, .int .i64 0, .int .i64 0, .int .i64 0] 57)).heap.size = w.heap.size + 1 := by simp
    rw [q2] at q1
    simp only [Maps.size, List.length_nil] at q1
    go_wp2
    go_ret
    exact ⟨rfl, HB1.out⟩
theorem bintent_any (size obj : Int) (w : World) : Calls Try.prog 25 #[.agg (bareH size obj)] w fun e w' => e = .returned (.bool true) ∧ Below w.heap.size w w' := by
  unfold bareH
  have B0 := fun (o : Obj) => below_alloc w o
  go_enter Try.func25, Try.ntmps25
  go_wp2
  go_ret
  exact ⟨rfl, B0 _⟩
def inB (size : Int) : Bool := decide (0 ≤ size) && decide (size ≤ 4096)
theorem bgood_any (size obj : Int) (w : World) : Calls Try.prog 23 #[.agg (bareV size), .int .i64 obj] w fun e w' => e = .returned (.bool (inB size)) ∧ Below w.heap.size w w' := by
  have B0 : Hid (∀ o, Below w.heap.size w (w.alloc o)) := Lib.hid fun (o : Obj) => below_alloc w o
  have HK := Lib.hid (fun w => bmarked_any size obj w)
  have HL := Lib.hid (fun w => blinked_any size w)
  unfold bareV at *
  by_cases c1 : 0 ≤ size
  · have d1 : decide (0 ≤ size) = true := decide_eq_true c1
    by_cases c2 : size ≤ 4096
    · have d2 : decide (size ≤ 4096) = true := decide_eq_true c2
      rw [show inB size = true from by unfold inB; rw [d1, d2]; rfl]
      go_enter Try.func23, Try.ntmps23
      go_wp2_with fail
      refine (HK.out _).mono ?_
      rintro e w1 ⟨rfl, b1⟩
      have k := (Blk.new w 61 #[.int .i64 size, .bool false, .bool false, .slice none 0 0, .string ⟨#[]⟩, .int .i64 0, .int .i64 0]).of (b1.block _ (by simp))
      have k0 : w1.cell? ⟨w.heap.size, 0, none⟩ = some (.int .i64 size) := k.cell 0
      have k1 : w1.cell? ⟨w.heap.size, 1, none⟩ = some (.bool false) := k.cell 1
      have k2 : w1.cell? ⟨w.heap.size, 2, none⟩ = some (.bool false) := k.cell 2
      have k3 : w1.cell? ⟨w.heap.size, 3, none⟩ = some (.slice none 0 0) := k.cell 3
      have k4 : w1.cell? ⟨w.heap.size, 4, none⟩ = some (.string ⟨#[]⟩) := k.cell 4
      have k5 : w1.cell? ⟨w.heap.size, 5, none⟩ = some (.int .i64 0) := k.cell 5
      have k6 : w1.cell? ⟨w.heap.size, 6, none⟩ = some (.int .i64 0) := k.cell 6
      have HB1 := Lib.hid ((B0.out _).trans (b1.mono (B0.out _).size))
      clear b1 k HK
      go_wp2_with fail
      refine (HL.out _).mono ?_
      rintro e w2 ⟨rfl, b2⟩
      go_wp2
      go_ret
      exact ⟨rfl, HB1.out.trans (b2.mono HB1.out.size)⟩
    · have d2 : decide (size ≤ 4096) = false := decide_eq_false c2
      rw [show inB size = false from by unfold inB; rw [d1, d2]; rfl]
      go_enter Try.func23, Try.ntmps23
      go_wp2
      go_ret
      exact ⟨rfl, B0.out _⟩
  · have d1 : decide (0 ≤ size) = false := decide_eq_false c1
    rw [show inB size = false from by unfold inB; rw [d1]; rfl]
    go_enter Try.func23, Try.ntmps23
    go_wp2
    go_ret
    exact ⟨rfl, B0.out _⟩
end Go.Proofs.Ytjnkfpnjdnknnaa
