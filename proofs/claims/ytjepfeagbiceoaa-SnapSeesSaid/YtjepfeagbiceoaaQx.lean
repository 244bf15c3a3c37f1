/-
  How scripts of changes that came in are opened. No condition.
-/
import Derived.Test.YtjepfeagbiceoaaRows
import Derived.Test.YtjepfeagbiceoaaQw
import Derived.OpenShut
import Derived.ShutString
import Derived.ChangeOld
import Derived.Deep.Matrix
import Derived.Deep.DeepHandedRow
import Derived.Lib.LaidTab
import Derived.Deep.Slices
import Derived.Deep.Fields
import Derived.Deep.Grids
import Derived.ChangeSame
namespace Go.Proofs.Ytjepfeagbiceoaa
open Go.ChangeShapes Go.WideShapes Go.ChangeAt Go.RowKit Go.Deep
set_option linter.unusedSimpArgs false
set_option linter.unusedVariables false
theorem own : ownKnob Try.prog.godebug = none := by kernel_rfl
theorem laidOut : laidOutB Try.prog = true := by kernel_rfl
theorem lt_of_cell_x {w : World} {p : Addr} {v : Value} (h : w.cell? p = some v) : p.block < w.heap.size := World.block_lt_of_cell? w p h
theorem choose_lt_x {α : Type} [Inhabited α] {n : Nat} {P : Nat → α → Prop} (h : ∀ i, i < n → ∃ x, P i x) : ∃ f : Nat → α, ∀ i, i < n → P i (f i) :=
  ⟨fun i => if hi : i < n then (h i hi).choose else default, fun i hi => by simp only [hi, dif_pos]; exact (h i hi).choose_spec⟩
set_option maxRecDepth 100000 in
theorem open_i64 {H : Type} {enc : TypeId × Value → H} {W : World} {base : Nat} {v : Value} {d : DataW H} {p : List MemPlace} (hval : Value.okWide Try.prog W .any base 3 v)
    (h : DataW.Trod enc Try.prog W 0 (fun _ => true) true 3 v d p) : ∃ x : Int, v = .int .i64 x ∧ -9223372036854775808 ≤ x ∧ x ≤ 9223372036854775807 := by
  obtain ⟨x, rfl, _, _, wx⟩ := open_int Try.underlying3 hval h
  simp [Lit.wf, IntKind.min, IntKind.max, IntKind.bits, IntKind.signed] at wx
  exact ⟨x, rfl, by omega, by omega⟩
theorem flat_len {α β : Type} {f : α → List β} {size : Nat} (hf : ∀ x, (f x).length = size) : ∀ l : List α, (l.flatMap f).length = l.length * size
  | [] => by simp
  | x :: l => by rw [List.flatMap_cons, List.length_append, hf, flat_len hf l, List.length_cons, Nat.add_mul]; omega
theorem getD_nat (zs : List Int) (i : Nat) (h : i < zs.length) (h0 : ∀ z ∈ zs, 0 ≤ z ∧ z ≤ 255) : ((((zs.map Int.toNat)[i]?).getD 0 : Nat) : Int) = zs.getD i 0 := by
  have := h0 _ (List.getElem_mem h)
  simp [h]
  omega
theorem bytes_cells {W : World} {a : Addr} {len cap : Nat} {zs : List Int} (hl : len ≤ cap) (hz : zs.length = cap) (hcell : ∀ i, i < cap → W.cell? (a.add i) = some (.int .u8 (zs.getD i 0)))
    (hw : ∀ n ∈ zs, (Lit.int .u8 n).wf = true) : Bytes W W.heap.size (some a) len ((zs.map Int.toNat).take len) := by
  have hb : ∀ z ∈ zs, 0 ≤ z ∧ z ≤ 255 := fun z hz' => by
    have := hw z hz'
    simp [Lit.wf, IntKind.min, IntKind.max, IntKind.bits, IntKind.signed] at this
    omega
  refine ⟨⟨by simp [u8s]; omega, fun hn => ⟨a, rfl, ?_, fun j u hu => ?_⟩⟩, ?_⟩
  · have := lt_of_cell_x (hcell 0 (by omega))
    rwa [block_of_add] at this
  · have hj : j < len := by
      rcases Nat.lt_or_ge j len with h | h
      · exact h
      · rw [List.getElem?_eq_none (by simp [u8s]; omega)] at hu
        cases hu
    rw [hcell j (by omega), ← hu]
    have := getD_nat zs j (by omega) hb
    simp [u8s, u8, hj, show j < zs.length by omega] at this ⊢
    omega
  · intro b hb'
    obtain ⟨z, hz', rfl⟩ := List.mem_map.1 (List.mem_of_mem_take hb')
    have := hb z hz'
    omega
theorem bytes_of {H : Type} {enc : TypeId × Value → H} {W : World} {n : Nat} {v : Value} {y : DataW H × List MemPlace} (h : DataW.trod enc Try.prog W 0 (fun _ => true) true n 22 [v] = some y) :
    ∃ (A : Option Addr) (m c : Nat) (l : List Nat), v = .slice A m c ∧ (m ≤ c ∧ c ≤ 9223372036854775807) ∧ Bytes W W.heap.size A m l := by
  rcases open_ints Try.underlying22 Try.underlying5 (by kernel_rfl) h with ⟨hcs, _⟩ | ⟨x, l, c, zs, hcs, _, hl, hm, hz, _, hcell, hwz⟩
  · exact ⟨none, 0, 0, [], by simpa using hcs, ⟨by omega, by omega⟩, Reads.none_, by simp⟩
  · simp only [List.cons.injEq, and_true] at hcs
    simp only [if_true] at hz
    unfold maxLen at hm
    exact ⟨_, _, _, _, hcs, ⟨by omega, by omega⟩, bytes_cells hl hz (fun i hi => hcell i (by omega)) hwz⟩
theorem ints_cells {W : World} {a : Addr} {len cap : Nat} {zs : List Int} (hl : len ≤ cap) (hz : zs.length = cap) (hcell : ∀ i, i < cap → W.cell? (a.add i) = some (.int .i64 (zs.getD i 0))) : Ints W W.heap.size (some a) len (zs.take len) := by
  refine ⟨by simp [i64s]; omega, fun hn => ⟨a, rfl, ?_, fun j u hu => ?_⟩⟩
  · have := lt_of_cell_x (hcell 0 (by omega))
    rwa [block_of_add] at this
  · have hj : j < len := by
      rcases Nat.lt_or_ge j len with h | h
      · exact h
      · rw [List.getElem?_eq_none (by simp [i64s]; omega)] at hu
        cases hu
    rw [hcell j (by omega), ← hu]
    simp [i64s, hj, show j < zs.length by omega]
theorem ints_of {H : Type} {enc : TypeId × Value → H} {W : World} {n : Nat} {v : Value} {y : DataW H × List MemPlace} (h : DataW.trod enc Try.prog W 0 (fun _ => true) true n 26 [v] = some y) :
    ∃ (A : Option Addr) (m c : Nat) (l : List Int), v = .slice A m c ∧ (m ≤ c ∧ c ≤ 9223372036854775807) ∧ Ints W W.heap.size A m l ∧ ∀ s ∈ l, -9223372036854775808 ≤ s ∧ s ≤ 9223372036854775807 := by
  rcases open_ints Try.underlying26 Try.underlying3 (by kernel_rfl) h with ⟨hcs, _⟩ | ⟨x, l, c, zs, hcs, _, hl, hm, hz, _, hcell, hwz⟩
  · exact ⟨none, 0, 0, [], by simpa using hcs, ⟨by omega, by omega⟩, Reads.none_, by simp⟩
  · simp only [List.cons.injEq, and_true] at hcs
    simp only [if_true] at hz
    unfold maxLen at hm
    refine ⟨_, _, _, _, hcs, ⟨by omega, by omega⟩, ints_cells hl hz (fun i hi => hcell i (by omega)), fun s hs => ?_⟩
    have := hwz s (List.mem_of_mem_take hs)
    simp [Lit.wf, IntKind.min, IntKind.max, IntKind.bits, IntKind.signed] at this
    omega
theorem take1 {cs : List Value} {j : Nat} (h : j < cs.length) : (cs.drop j).take 1 = [cs[j]'h] := by
  rw [List.drop_eq_getElem_cons h]
  rfl
theorem take2 {cs : List Value} {j : Nat} (h : j + 1 < cs.length) : (cs.drop j).take 2 = [cs[j]'(by omega), cs[j + 1]'h] := by
  rw [List.drop_eq_getElem_cons (show j < cs.length by omega), List.take_succ_cons, List.drop_eq_getElem_cons h]
  rfl
instance : Inhabited PA := ⟨⟨0, 0, 0, [], none, 0, ⟨0, [], none, 0⟩⟩⟩
set_option maxRecDepth 100000 in
set_option maxHeartbeats 4000000 in
theorem pa_of {H : Type} {enc : TypeId × Value → H} {W : World} {n : Nat} {cs : List Value} {y : DataW H × List MemPlace} (h : DataW.trod enc Try.prog W 0 (fun _ => true) true n 30 cs = some y) (hl : cs.length = 6) : ∃ s : PA, cs = s.cells ∧ s.R W := by
  obtain ⟨ys, n', _, _, hlen, hyl, hf⟩ := DataW.trod_struct Try.underlying30 h
  have f0 : DataW.trod enc Try.prog W 0 (fun _ => true) true n' 3 (List.take (Try.prog.cellsOf 3) (List.drop 0 cs)) = ys[0]? := hf 0 _ rfl
  have f1 : DataW.trod enc Try.prog W 0 (fun _ => true) true n' 3 (List.take (Try.prog.cellsOf 3) (List.drop 1 cs)) = ys[1]? := hf 1 _ rfl
  have f2 : DataW.trod enc Try.prog W 0 (fun _ => true) true n' 3 (List.take (Try.prog.cellsOf 3) (List.drop 2 cs)) = ys[2]? := hf 2 _ rfl
  have f3 : DataW.trod enc Try.prog W 0 (fun _ => true) true n' 22 (List.take (Try.prog.cellsOf 22) (List.drop 3 cs)) = ys[3]? := hf 3 _ rfl
  have f4 : DataW.trod enc Try.prog W 0 (fun _ => true) true n' 28 (List.take (Try.prog.cellsOf 28) (List.drop 4 cs)) = ys[4]? := hf 4 _ rfl
  have c1 : Try.prog.cellsOf 3 = 1 := by kernel_rfl
  have c2 : Try.prog.cellsOf 22 = 1 := by kernel_rfl
  have c3 : Try.prog.cellsOf 28 = 2 := by kernel_rfl
  have c4 : Try.prog.cellsOf 26 = 1 := by kernel_rfl
  rw [c1] at f0 f1 f2
  rw [c2] at f3
  rw [c3] at f4
  rw [take1 (by omega)] at f0 f1 f2 f3
  rw [take2 (by omega)] at f4
  have g0 := f0.trans (List.getElem?_eq_getElem (by rw [hyl]; decide))
  have g1 := f1.trans (List.getElem?_eq_getElem (by rw [hyl]; decide))
  have g2 := f2.trans (List.getElem?_eq_getElem (by rw [hyl]; decide))
  have g3 := f3.trans (List.getElem?_eq_getElem (by rw [hyl]; decide))
  have g4 := f4.trans (List.getElem?_eq_getElem (by rw [hyl]; decide))
  obtain ⟨n0, e0, _, w0⟩ := DataW.trod_int Try.underlying3 g0
  obtain ⟨n1, e1, _, w1⟩ := DataW.trod_int Try.underlying3 g1
  obtain ⟨n2, e2, _, w2⟩ := DataW.trod_int Try.underlying3 g2
  obtain ⟨A3, m3, d3, l3, e3, hc3, hb3⟩ := bytes_of g3
  obtain ⟨zs, n'', _, _, hlen2, hyl2, hf2⟩ := DataW.trod_struct Try.underlying28 g4
  have f5 : DataW.trod enc Try.prog W 0 (fun _ => true) true n'' 3 (List.take (Try.prog.cellsOf 3) (List.drop 0 [cs[4]'(by omega), cs[4 + 1]'(by omega)])) = zs[0]? := hf2 0 _ rfl
  have f6 : DataW.trod enc Try.prog W 0 (fun _ => true) true n'' 26 (List.take (Try.prog.cellsOf 26) (List.drop 1 [cs[4]'(by omega), cs[4 + 1]'(by omega)])) = zs[1]? := hf2 1 _ rfl
  rw [c1] at f5
  rw [c4] at f6
  rw [take1 (by simp)] at f5 f6
  have g5 := f5.trans (List.getElem?_eq_getElem (by rw [hyl2]; decide))
  have g6 := f6.trans (List.getElem?_eq_getElem (by rw [hyl2]; decide))
  obtain ⟨n4, e4, _, w4⟩ := DataW.trod_int Try.underlying3 g5
  obtain ⟨A5, m5, d5, l5, e5, hc5, hb5, hi5⟩ := ints_of g6
  simp at e0 e1 e2 e3 e4 e5
  simp [Lit.wf, IntKind.min, IntKind.max, IntKind.bits, IntKind.signed] at w0 w1 w2 w4
  have hl3 := hb3.len
  have hl5 : l5.length = m5 := by have := hb5.1; simpa [i64s] using this
  subst hl3 hl5
  refine ⟨⟨n0, n1, n2, l3, A3, d3, ⟨n4, l5, A5, d5⟩⟩, ?_, ⟨hb3, ⟨hb5, hi5, by simp only; omega, by simp only; omega, by simp only; omega, by simp only; omega⟩, by simp only; omega, by simp only; omega, by simp only; omega, by simp only; omega, by simp only; omega, by simp only; omega, by simp only; omega⟩⟩
  match cs, hl, e0, e1, e2, e3, e4, e5 with
  | [a0, a1, a2, a3, a4, a5], _, e0, e1, e2, e3, e4, e5 =>
    simp at e0 e1 e2 e3 e4 e5
    subst e0 e1 e2 e3 e4 e5
    rfl
set_option maxRecDepth 100000 in
theorem pas_of {H : Type} {enc : TypeId × Value → H} {W : World} {n : Nat} {v : Value} {y : DataW H × List MemPlace} (h : DataW.trod enc Try.prog W 0 (fun _ => true) true n 67 [v] = some y) :
    ∃ (A : Option Addr) (c : Nat) (l : List PA), v = .slice A l.length c ∧ (l.length ≤ c ∧ c ≤ 9223372036854775807) ∧ PasR W A l := by
  rcases open_slice Try.underlying67 h with ⟨hcs, _⟩ | ⟨a, len, cap, m, n', D, Pl, hcs, _, hl, hm, hmm, _, hr⟩
  · simp only [List.cons.injEq, and_true] at hcs
    subst hcs
    exact ⟨none, 0, [], rfl, ⟨by simp, by omega⟩, ⟨Reads.none_, fun s hs => by cases hs⟩⟩
  · simp only [List.cons.injEq, and_true] at hcs
    subst hcs
    simp only [if_true] at hmm
    unfold maxLen at hm
    have c6 : Try.prog.cellsOf 30 = 6 := by kernel_rfl
    have hex : ∀ i, i < len → ∃ s : PA, (∀ j v, s.cells[j]? = some v → W.cell? (a.add (i * 6 + j)) = some v) ∧ s.R W := by
      intro i hi
      obtain ⟨cs', hc, ht'⟩ := hr i (by omega)
      rw [c6] at hc
      obtain ⟨_, hcl, hat⟩ := World.cells?_some hc
      obtain ⟨s, rfl, hs⟩ := pa_of ht' (by omega)
      refine ⟨s, fun j v hj => ?_, hs⟩
      have hj6 : j < 6 := by have := (List.getElem?_eq_some_iff.1 hj).1; rwa [PA.cells_len] at this
      have := hat j hj6
      rw [← Go.Deep.add_add, this, hj]
    obtain ⟨f, hf⟩ := choose_lt_x hex
    have hat : ∀ k, k < len → ((List.range len).map f)[k]? = some (f k) := fun k hk => by rw [List.getElem?_map, List.getElem?_range hk]; rfl
    have hfl : (((List.range len).map f).flatMap PA.cells).length = len * 6 := by
      rw [flat_len PA.cells_len]
      simp
    refine ⟨some a, cap, (List.range len).map f, by simp, ⟨by simpa using hl, by omega⟩, ⟨⟨by simpa using hfl, fun hn => ⟨a, rfl, ?_, fun j u hu => ?_⟩⟩, fun s hs => ?_⟩⟩
    · have := lt_of_cell_x ((hf 0 (by simpa using hn)).1 0 _ rfl)
      rwa [block_of_add] at this
    · have hj : j < len * 6 := by
        rcases Nat.lt_or_ge j (len * 6) with h | h
        · exact h
        · rw [List.getElem?_eq_none (by rw [hfl]; exact h)] at hu; cases hu
      have hk : j / 6 < len := by omega
      have h5 := flat_at PA.cells 6 PA.cells_len _ (j / 6) (j % 6) (f (j / 6)) (hat (j / 6) hk) (by omega)
      rw [show j / 6 * 6 + j % 6 = j by omega, hu] at h5
      have := (hf (j / 6) hk).1 (j % 6) u h5.symm
      rwa [show j / 6 * 6 + j % 6 = j by omega] at this
    · obtain ⟨i, hi, rfl⟩ := List.mem_map.1 hs
      exact (hf i (List.mem_range.1 hi)).2
set_option maxRecDepth 100000 in
theorem open_pas {H : Type} {enc : TypeId × Value → H} {W : World} {base : Nat} {v : Value} {d : DataW H} {p : List MemPlace} (hval : Value.okWide Try.prog W .any base 67 v)
    (h : DataW.Trod enc Try.prog W 0 (fun _ => true) true 67 v d p) : ∃ (A : Option Addr) (c : Nat) (l : List PA), v = .slice A l.length c ∧ (l.length ≤ c ∧ c ≤ 9223372036854775807) ∧ PasR W A l := by
  obtain ⟨a0, len0, cap0, rfl⟩ := okWide_slice Try.underlying67 hval
  obtain ⟨fuel, hf⟩ := h
  exact pas_of hf
end Go.Proofs.Ytjepfeagbiceoaa
