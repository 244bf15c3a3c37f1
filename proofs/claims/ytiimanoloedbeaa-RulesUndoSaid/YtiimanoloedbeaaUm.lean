/-
  How what RulesUndo takes is opened, and the law's own walk. No condition.
-/
import Derived.Test.YtiimanoloedbeaaUl

namespace Go.Proofs.Ytiimanoloedbeaa
open Go.ChangeShapes Go.WideShapes Go.ChangeAt Go.RowKit Go.Deep
set_option maxRecDepth 100000
set_option linter.unusedSimpArgs false
set_option linter.unusedVariables false
set_option maxRecDepth 100000 in
set_option maxHeartbeats 4000000 in
theorem undo_of {H : Type} {enc : TypeId × Value → H} {W : World} {n : Nat} {cs : List Value} {y : DataW H × List MemPlace} (h : DataW.trod enc Try.prog W 0 (fun _ => true) true n 69 cs = some y) (hl : cs.length = 17) :
    ∃ (a : HA) (cl : Int) (nm x : List Nat), cs.toArray = a.cs ++ #[.int .i64 cl, .string (strOf nm), .string (strOf x)] ∧ a.R SA.dcells W ∧ I64 cl ∧ (∀ b ∈ nm, b < 256) ∧ (∀ b ∈ x, b < 256) := by
  obtain ⟨ys, n', _, _, hlen, hyl, hf⟩ := DataW.trod_struct Try.underlying69 h
  have f0 : DataW.trod enc Try.prog W 0 (fun _ => true) true n' 29 (List.take (Try.prog.cellsOf 29) (List.drop 0 cs)) = ys[0]? := hf 0 _ rfl
  have f1 : DataW.trod enc Try.prog W 0 (fun _ => true) true n' 3 (List.take (Try.prog.cellsOf 3) (List.drop 14 cs)) = ys[1]? := hf 1 _ rfl
  have f2 : DataW.trod enc Try.prog W 0 (fun _ => true) true n' 9 (List.take (Try.prog.cellsOf 9) (List.drop 15 cs)) = ys[2]? := hf 2 _ rfl
  have f3 : DataW.trod enc Try.prog W 0 (fun _ => true) true n' 9 (List.take (Try.prog.cellsOf 9) (List.drop 16 cs)) = ys[3]? := hf 3 _ rfl
  have c_head : Try.prog.cellsOf 29 = 14 := by kernel_rfl
  rw [c_head] at f0
  have c_int : Try.prog.cellsOf 3 = 1 := by kernel_rfl
  rw [c_int] at f1
  have c_string : Try.prog.cellsOf 9 = 1 := by kernel_rfl
  rw [c_string] at f2 f3
  have g0 := f0.trans (List.getElem?_eq_getElem (by rw [hyl]; decide))
  have g1 := f1.trans (List.getElem?_eq_getElem (by rw [hyl]; decide))
  have g2 := f2.trans (List.getElem?_eq_getElem (by rw [hyl]; decide))
  have g3 := f3.trans (List.getElem?_eq_getElem (by rw [hyl]; decide))
  rw [take1 (by omega)] at g1 g2 g3
  obtain ⟨a, e0, hR⟩ := ha_of g0 (by rw [List.length_take, List.length_drop, hl]; rfl)
  obtain ⟨n1, e1, _, w1⟩ := DataW.trod_int Try.underlying3 g1
  obtain ⟨s2, e2, _, w2⟩ := DataW.trod_string Try.underlying9 g2
  obtain ⟨s3, e3, _, w3⟩ := DataW.trod_string Try.underlying9 g3
  refine ⟨a, n1, s2.data.toList.map UInt8.toNat, s3.data.toList.map UInt8.toNat, ?_, hR, i64_of w1, str_small s2, str_small s3⟩
  rw [str_form, str_form, ← e0]
  match cs, hl, e1, e2, e3 with
  | [a0, a1, a2, a3, a4, a5, a6, a7, a8, a9, a10, a11, a12, a13, a14, a15, a16], _, e1, e2, e3 =>
    simp at e1 e2 e3
    subst e1 e2 e3
    rfl
theorem open_undo {H : Type} {enc : TypeId × Value → H} {W : World} {base : Nat} {v : Value} {d : DataW H} {p : List MemPlace} (hval : Value.okWide Try.prog W .any base 69 v)
    (h : DataW.Trod enc Try.prog W 0 (fun _ => true) true 69 v d p) : ∃ (a : HA) (cl : Int) (nm x : List Nat), v = .agg (a.cs ++ #[.int .i64 cl, .string (strOf nm), .string (strOf x)]) ∧ a.R SA.dcells W ∧ I64 cl ∧ (∀ b ∈ nm, b < 256) ∧ (∀ b ∈ x, b < 256) := by
  obtain ⟨cs, rfl, hsz⟩ := okWide_struct Try.underlying69 hval
  obtain ⟨fuel, hf⟩ := h
  have h4 : Try.prog.cellsOf 69 = 17 := by kernel_rfl
  rw [h4] at hsz
  obtain ⟨l, rfl⟩ : ∃ l : List Value, cs = l.toArray := ⟨cs.toList, by simp⟩
  obtain ⟨a, cl, nm, x, e, h1, h2, h3, h4⟩ := undo_of (cs := l) hf (by simpa using hsz)
  exact ⟨a, cl, nm, x, by rw [e], h1, h2, h3, h4⟩
open Go.BigFrame in
set_option maxHeartbeats 8000000 in
theorem rulesUndo_walk (a : HA) (W : World) (hR : a.R SA.dcells W) (cl : Int) (hcl : I64 cl) (nm x : List Nat) (hn : ∀ b ∈ nm, b < 256) (hx : ∀ b ∈ x, b < 256) : Calls Try.prog 7 #[.agg (a.cs ++ #[.int .i64 cl, .string (strOf nm), .string (strOf x)])] W fun e w' => e = .returned (.bool true) ∧ Below W.heap.size W w' := by
  have hcs : a.cs ++ #[.int .i64 cl, .string (strOf nm), .string (strOf x)] = #[.int .i64 a.id, .int .i64 a.vw.size, .int .i64 a.obj, .int .i64 a.seq, .slice a.S a.sn.length a.cs', .bool a.vw.on, .bool a.vw.good, .slice a.vw.M a.vw.row.length a.vw.cm, .string (strOf a.vw.par), .int .i64 a.vw.ps, .int .i64 a.vw.ov, .int .i64 a.ow, .int .i64 a.it, .int .i64 a.tg, .int .i64 cl, .string (strOf nm), .string (strOf x)] := rfl
  rw [hcs]
  obtain ⟨w0, hw0⟩ : ∃ w0, w0 = W.alloc (.cells #[.int .i64 a.id, .int .i64 a.vw.size, .int .i64 a.obj, .int .i64 a.seq, .slice a.S a.sn.length a.cs', .bool a.vw.on, .bool a.vw.good, .slice a.vw.M a.vw.row.length a.vw.cm, .string (strOf a.vw.par), .int .i64 a.vw.ps, .int .i64 a.vw.ov, .int .i64 a.ow, .int .i64 a.it, .int .i64 a.tg, .int .i64 cl, .string (strOf nm), .string (strOf x)] 69) := ⟨_, rfl⟩
  have b0 : Below W.heap.size W w0 := by rw [hw0]; exact below_alloc W _
  have HU := Lib.hid (undone_walk a w0 (hR.since b0) cl hcl nm x hn hx)
  have HB := Lib.hid b0
  have HW := Lib.hid hw0
  clear hR hcl hn hx b0 hw0 hcs
  unfold HA.cs at *
  go_enter Try.func7, Try.ntmps7
  go_upto_region 1 with (fail)
  rw [← HW.out]
  have k0 : Blk w0 W.heap.size 69 #[.int .i64 a.id, .int .i64 a.vw.size, .int .i64 a.obj, .int .i64 a.seq, .slice a.S a.sn.length a.cs', .bool a.vw.on, .bool a.vw.good, .slice a.vw.M a.vw.row.length a.vw.cm, .string (strOf a.vw.par), .int .i64 a.vw.ps, .int .i64 a.vw.ov, .int .i64 a.ow, .int .i64 a.it, .int .i64 a.tg, .int .i64 cl, .string (strOf nm), .string (strOf x)] := by rw [HW.out]; exact Blk.new W _ _
  clear HW
  have k_0 : w0.cell? ⟨W.heap.size, 0, none⟩ = some (.int .i64 a.id) := k0.cell 0
  have k_1 : w0.cell? ⟨W.heap.size, 1, none⟩ = some (.int .i64 a.vw.size) := k0.cell 1
  have k_2 : w0.cell? ⟨W.heap.size, 2, none⟩ = some (.int .i64 a.obj) := k0.cell 2
  have k_3 : w0.cell? ⟨W.heap.size, 3, none⟩ = some (.int .i64 a.seq) := k0.cell 3
  have k_4 : w0.cell? ⟨W.heap.size, 4, none⟩ = some (.slice a.S a.sn.length a.cs') := k0.cell 4
  have k_5 : w0.cell? ⟨W.heap.size, 5, none⟩ = some (.bool a.vw.on) := k0.cell 5
  have k_6 : w0.cell? ⟨W.heap.size, 6, none⟩ = some (.bool a.vw.good) := k0.cell 6
  have k_7 : w0.cell? ⟨W.heap.size, 7, none⟩ = some (.slice a.vw.M a.vw.row.length a.vw.cm) := k0.cell 7
  have k_8 : w0.cell? ⟨W.heap.size, 8, none⟩ = some (.string (strOf a.vw.par)) := k0.cell 8
  have k_9 : w0.cell? ⟨W.heap.size, 9, none⟩ = some (.int .i64 a.vw.ps) := k0.cell 9
  have k_10 : w0.cell? ⟨W.heap.size, 10, none⟩ = some (.int .i64 a.vw.ov) := k0.cell 10
  have k_11 : w0.cell? ⟨W.heap.size, 11, none⟩ = some (.int .i64 a.ow) := k0.cell 11
  have k_12 : w0.cell? ⟨W.heap.size, 12, none⟩ = some (.int .i64 a.it) := k0.cell 12
  have k_13 : w0.cell? ⟨W.heap.size, 13, none⟩ = some (.int .i64 a.tg) := k0.cell 13
  have k_14 : w0.cell? ⟨W.heap.size, 14, none⟩ = some (.int .i64 cl) := k0.cell 14
  have k_15 : w0.cell? ⟨W.heap.size, 15, none⟩ = some (.string (strOf nm)) := k0.cell 15
  have k_16 : w0.cell? ⟨W.heap.size, 16, none⟩ = some (.string (strOf x)) := k0.cell 16
  clear k0
  go_wp2_with fail
  refine HU.out.mono ?_
  rintro e w1 ⟨rfl, b1⟩
  have HE := Lib.hid (HB.out.trans (b1.mono HB.out.size))
  clear b1
  go_wp2
  go_ret
  exact ⟨rfl, HE.out⟩
end Go.Proofs.Ytiimanoloedbeaa
