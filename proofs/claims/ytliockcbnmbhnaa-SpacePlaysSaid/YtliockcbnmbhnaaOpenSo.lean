/-
  How a script of acts that came in is opened. No condition.
-/
import Derived.Test.YtliockcbnmbhnaaOpenS
import Derived.Test.YtliockcbnmbhnaaUj
namespace Go.Proofs.Ytliockcbnmbhnaa
open Go.ChangeShapes Go.WideShapes Go.ChangeAt Go.RowKit Go.Deep
set_option linter.unusedSimpArgs false
set_option linter.unusedVariables false
instance : Inhabited SOp := ⟨⟨0, 0, none, 0, []⟩⟩
set_option maxRecDepth 100000 in
theorem sops_of {H : Type} {enc : TypeId × Value → H} {W : World} {n : Nat} {v : Value} {y : DataW H × List MemPlace} (h : DataW.trod enc Try.prog W 0 (fun _ => true) true n 22 [v] = some y) :
    ∃ (A : Option Addr) (c : Nat) (os : List SOp), v = .slice A os.length c ∧ (os.length ≤ c ∧ c ≤ 9223372036854775807) ∧ SopsR W A os := by
  rcases open_slice_fields Try.underlying22 Try.underlying38 (by kernel_rfl) (by kernel_rfl) h with ⟨hcs, _⟩ | ⟨a, len, cap, m, D, Pl, hcs, _, hl, hm, hmm, _, hr⟩
  · simp only [List.cons.injEq, and_true] at hcs
    subst hcs
    exact ⟨none, 0, [], rfl, ⟨by simp, by omega⟩, ⟨fun k o hk => by simp at hk, by simp⟩⟩
  · simp only [List.cons.injEq, and_true] at hcs
    subst hcs
    simp only [if_true] at hmm
    unfold maxLen at hm
    have hex : ∀ i, i < len → ∃ o : SOp, W.cell? (a.add (i * 3)) = some (.int .i64 o.k) ∧ W.cell? (a.add (i * 3 + 1)) = some (.int .i64 o.n) ∧ W.cell? (a.add (i * 3 + 2)) = some (.slice o.E o.es.length o.c) ∧ o.Ok W := by
      intro i hi
      obtain ⟨ys, n', _, _, _, h3⟩ := hr i (by omega)
      obtain ⟨v0, y0, c0, _, t0⟩ := h3 0 _ rfl
      obtain ⟨v1, y1, c1, _, t1⟩ := h3 1 _ rfl
      obtain ⟨v2, y2, c2, _, t2⟩ := h3 2 _ rfl
      obtain ⟨n0, e0, _, w0⟩ := DataW.trod_int Try.underlying3 t0
      obtain ⟨n1, e1, _, w1⟩ := DataW.trod_int Try.underlying3 t1
      obtain ⟨A2, c2', l2, rfl, hc2, hx2, hi2⟩ := exts_of t2
      simp only [List.cons.injEq, and_true] at e0 e1
      subst e0 e1
      exact ⟨⟨n0, n1, A2, c2', l2⟩, by simpa using c0, by simpa using c1, by simpa using c2, ⟨hc2.1, hx2, hi2⟩⟩
    obtain ⟨f, hf⟩ := choose_lt_x hex
    have hat : ∀ (k : Nat) (o : SOp), ((List.range len).map f)[k]? = some o → k < len ∧ o = f k := fun k o hk => by
      have hkl : k < len := by have := (List.getElem?_eq_some_iff.1 hk).1; simpa using this
      rw [List.getElem?_map, List.getElem?_range hkl] at hk
      simp at hk
      exact ⟨hkl, hk.symm⟩
    refine ⟨some a, cap, (List.range len).map f, by simp, ⟨by simpa using hl, by omega⟩, ⟨fun k o hk => ?_, fun o ho => ?_⟩⟩
    · obtain ⟨hkl, rfl⟩ := hat k o hk
      obtain ⟨h0, h1, h2, -⟩ := hf k hkl
      have hb := lt_of_cell_x h0
      rw [block_of_add] at hb
      exact ⟨a, rfl, hb, h0, by rw [Go.Deep.add_add]; exact h1, by rw [Go.Deep.add_add]; exact h2⟩
    · obtain ⟨i, hi, rfl⟩ := List.mem_map.1 ho
      exact (hf i (List.mem_range.1 hi)).2.2.2
set_option maxRecDepth 100000 in
theorem open_sops {H : Type} {enc : TypeId × Value → H} {W : World} {base : Nat} {v : Value} {d : DataW H} {p : List MemPlace} (hval : Value.okWide Try.prog W .any base 22 v)
    (h : DataW.Trod enc Try.prog W 0 (fun _ => true) true 22 v d p) : ∃ (A : Option Addr) (c : Nat) (os : List SOp), v = .slice A os.length c ∧ (os.length ≤ c ∧ c ≤ 9223372036854775807) ∧ SopsR W A os := by
  obtain ⟨a0, len0, cap0, rfl⟩ := okWide_slice Try.underlying22 hval
  obtain ⟨fuel, hf⟩ := h
  exact sops_of hf
end Go.Proofs.Ytliockcbnmbhnaa
