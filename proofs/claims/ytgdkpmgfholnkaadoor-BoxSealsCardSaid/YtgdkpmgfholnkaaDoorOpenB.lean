/-
  How the arguments of layer 4's laws are opened: a law's box, a byte. No condition.
-/
import Derived.Test.YtgdkpmgfholnkaaDoorOpen
import Derived.Test.YtgdkpmgfholnkaaDoorBoxApW
namespace Go.Proofs.YtgdkpmgfholnkaaDoor
open Go.ChangeShapes Go.WideShapes Go.ChangeAt Go.RowKit
theorem bytes_of {H : Type} {enc : TypeId × Value → H} {W : World} {n : Nat} {v : Value} {y : DataW H × List MemPlace} (h : DataW.trod enc Tryd.prog W 0 (fun _ => true) true n 22 [v] = some y) :
    ∃ (A : Option Addr) (m c : Nat) (l : List Nat), v = .slice A m c ∧ (m ≤ c ∧ c ≤ 9223372036854775807) ∧ Bytes W W.heap.size A m l := by
  rcases open_ints Tryd.underlying22 Tryd.underlying5 (by kernel_rfl) h with ⟨hcs, _⟩ | ⟨x, l, c, zs, hcs, _, hl, hm, hz, _, hcell, hwz⟩
  · exact ⟨none, 0, 0, [], by simpa using hcs, ⟨by omega, by omega⟩, Reads.none_, by simp⟩
  · simp only [List.cons.injEq, and_true] at hcs
    simp only [if_true] at hz
    unfold maxLen at hm
    exact ⟨_, _, _, _, hcs, ⟨by omega, by omega⟩, bytes_of_cells hl hz (fun i hi => hcell i (by omega)) hwz⟩
theorem open_u8 {H : Type} {enc : TypeId × Value → H} {W : World} {base : Nat} {v : Value} {d : DataW H} {p : List MemPlace} (hval : Value.okWide Tryd.prog W .any base 5 v)
    (h : DataW.Trod enc Tryd.prog W 0 (fun _ => true) true 5 v d p) : ∃ x : Nat, v = .int .u8 x ∧ x < 256 := by
  obtain ⟨x, rfl, _, _, wx⟩ := open_int Tryd.underlying5 hval h
  simp [Lit.wf, IntKind.min, IntKind.max, IntKind.bits, IntKind.signed] at wx
  exact ⟨x.toNat, by congr 1; omega, by omega⟩
theorem open_lbox {H : Type} {enc : TypeId × Value → H} {W : World} {base : Nat} {v : Value} {d : DataW H} {p : List MemPlace} (hval : Value.okWide Tryd.prog W .any base 31 v)
    (h : DataW.Trod enc Tryd.prog W 0 (fun _ => true) true 31 v d p) : ∃ x : BoxV, v = .agg x.cs.toArray ∧ x.At W := by
  obtain ⟨cs, rfl, hsz⟩ := okWide_struct Tryd.underlying31 hval
  obtain ⟨fuel, hf⟩ := h
  obtain ⟨ys, n', hn', hy, hlen, hyl, hff⟩ := DataW.trod_struct Tryd.underlying31 hf
  have h4 : Tryd.prog.cellsOf 31 = 4 := by kernel_rfl
  rw [h4] at hsz
  obtain ⟨l, rfl⟩ : ∃ l : List Value, cs = l.toArray := ⟨cs.toList, by simp⟩
  match l, hsz with
  | [c0, c1, c2, c3], _ =>
    have e3 : Tryd.prog.cellsOf 3 = 1 := by kernel_rfl
    have e26 : Tryd.prog.cellsOf 22 = 1 := by kernel_rfl
    have hy4 : ys.length = 4 := hyl
    match ys, hy4 with
    | [y0, y1, y2, y3], _ =>
      have g0 : DataW.trod enc Tryd.prog W 0 (fun _ => true) true n' 3 [c0] = some y0 := by
        have := hff 0 _ rfl
        simpa [e3, Value.cells] using this
      have g1 : DataW.trod enc Tryd.prog W 0 (fun _ => true) true n' 3 [c1] = some y1 := by
        have := hff 1 _ rfl
        simpa [e3, Value.cells] using this
      have g2 : DataW.trod enc Tryd.prog W 0 (fun _ => true) true n' 3 [c2] = some y2 := by
        have := hff 2 _ rfl
        simpa [e3, Value.cells] using this
      have g3 : DataW.trod enc Tryd.prog W 0 (fun _ => true) true n' 22 [c3] = some y3 := by
        have := hff 3 _ rfl
        simpa [e26, Value.cells] using this
      obtain ⟨n0, q0, _, w0⟩ := DataW.trod_int Tryd.underlying3 g0
      obtain ⟨n1, q1, _, w1⟩ := DataW.trod_int Tryd.underlying3 g1
      obtain ⟨n2, q2, _, w2⟩ := DataW.trod_int Tryd.underlying3 g2
      obtain ⟨A, m, c, l, q3, h1, h2⟩ := bytes_of g3
      simp only [List.cons.injEq, and_true] at q0 q1 q2
      subst q0 q1 q2 q3
      have hl := h2.len
      subst hl
      exact ⟨⟨n0, n1, n2, A, c, l⟩, rfl, h2, by show l.length ≤ _; omega⟩
end Go.Proofs.YtgdkpmgfholnkaaDoor
