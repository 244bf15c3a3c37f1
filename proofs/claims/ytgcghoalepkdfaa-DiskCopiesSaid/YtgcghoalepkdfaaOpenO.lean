/-
  How a script of acts and flags that came in are opened. No condition.
-/
import Derived.Test.YtgcghoalepkdfaaOps
import Derived.Test.YtgcghoalepkdfaaOpenN
import Derived.Deep.Slices
import Derived.Deep.Fields
import Derived.Deep.Grids
import Derived.ChangeSame
namespace Go.Proofs.Ytgcghoalepkdfaa
open Go.ChangeShapes Go.WideShapes Go.ChangeAt Go.RowKit Go.Deep
section
variable {H : Type} {enc : TypeId × Value → H} {P : Program} {w : World} {base : Nat} {spare : Nat → Bool} {held : Bool}
theorem open_slice_fields {t e : TypeId} {fs : Array Field} {fuel : Nat} {cs : List Value} {x : DataW H × List MemPlace} (ht : P.underlying t = some (.slice e)) (he : P.underlying e = some (.struct fs))
    (hone : oneCellFields P fs = true) (hC : P.cellsOf e = fs.size) (h : DataW.trod enc P w base spare held fuel t cs = some x) :
    (cs = [.slice none 0 0] ∧ x = (.nil, [])) ∨
    ∃ (a : Addr) (len cap m : Nat) (D : Nat → DataW H) (Pl : Nat → List MemPlace), cs = [.slice (some a) len cap] ∧ base ≤ a.block ∧ len ≤ cap ∧ cap ≤ maxLen ∧ m = (if spare a.block then cap else len) ∧
      x = (.slice ((List.range len).map D) ((List.range (m - len)).map fun j => D (len + j)), MemPlace.row a (m * fs.size) ++ (List.range m).flatMap Pl) ∧
      ∀ i, i < m → ∃ (ys : List (DataW H × List MemPlace)) (n : Nat), D i = .agg (ys.map (·.1)) ∧ Pl i = ys.flatMap (·.2) ∧ ys.length = fs.size ∧
        ∀ (j : Nat) (f : Field), fs[j]? = some f → ∃ (v : Value) (y : DataW H × List MemPlace), w.cell? (a.add (i * fs.size + j)) = some v ∧ ys[j]? = some y ∧ DataW.trod enc P w base spare held n f.type [v] = some y := by
  rcases open_slice ht h with h0 | ⟨a, len, cap, m, n, D, Pl, hcs, hb, hl, hm, hmm, hx, hi⟩
  · exact .inl h0
  · refine .inr ⟨a, len, cap, m, D, Pl, hcs, hb, hl, hm, hmm, by rw [hC] at hx; exact hx, fun i him => ?_⟩
    obtain ⟨cs', hc, ht'⟩ := hi i him
    rw [hC] at hc
    obtain ⟨ys, n', hn', hy, hlen, hyl, hf⟩ := DataW.trod_struct he ht'
    obtain ⟨_, hcl, hat⟩ := World.cells?_some hc
    simp only [Prod.mk.injEq] at hy
    refine ⟨ys, n', hy.1, hy.2, hyl, fun j f hj => ?_⟩
    obtain ⟨ho, hk⟩ := hone_of hone j f hj
    have hjl : j < fs.size := (Array.getElem?_eq_some_iff.1 hj).1
    have hcell := hat j hjl
    have hv : cs'[j]? = some (cs'[j]'(by omega)) := List.getElem?_eq_getElem (by omega)
    have h1 := hf j f hj
    rw [ho, hk] at h1
    have hone' : (cs'.drop j).take 1 = [cs'[j]'(by omega)] := by
      rw [List.drop_eq_getElem_cons (by omega)]
      rfl
    rw [hone'] at h1
    have hys : ys[j]? = some (ys[j]'(by omega)) := List.getElem?_eq_getElem (by omega)
    refine ⟨_, _, ?_, hys, h1.trans hys⟩
    rw [← Go.Deep.add_add, hcell, hv]
end
theorem reads_flags {W : World} {a : Addr} {len : Nat} {f : Nat → Bool} (hc : ∀ i, i < len → W.cell? (a.add i) = some (.bool (f i))) : Reads W W.heap.size 1 (some a) ((List.range len).map f).length (flags ((List.range len).map f)) := by
  refine ⟨by simp [flags], fun hn => ⟨a, rfl, ?_, fun j u hu => ?_⟩⟩
  · have := lt_of_cell (hc 0 (by simpa using hn))
    rwa [block_of_add] at this
  · have hj : j < len := by
      rcases Nat.lt_or_ge j len with h | h
      · exact h
      · rw [List.getElem?_eq_none (by simp [flags]; omega)] at hu; cases hu
    rw [hc j hj, ← hu]
    simp [flags, hj]
theorem bools_of {H : Type} {enc : TypeId × Value → H} {W : World} {n : Nat} {v : Value} {y : DataW H × List MemPlace} (h : DataW.trod enc Try.prog W 0 (fun _ => true) true n 38 [v] = some y) :
    ∃ (A : Option Addr) (c : Nat) (l : List Bool), v = .slice A l.length c ∧ l.length ≤ c ∧ c ≤ 9223372036854775807 ∧ Reads W W.heap.size 1 A l.length (flags l) := by
  rcases open_bools Try.underlying38 Try.underlying4 (by kernel_rfl) h with ⟨hcs, _⟩ | ⟨a, len, cap, f, hcs, _, hl, hm, _, hcell⟩
  · exact ⟨none, 0, [], by simpa using hcs, by simp, by omega, Reads.none_⟩
  · simp only [List.cons.injEq, and_true] at hcs
    unfold maxLen at hm
    exact ⟨some a, cap, (List.range len).map f, by simpa using hcs, by simpa using hl, by omega, reads_flags fun i hi => hcell i (by omega)⟩
theorem open_flags {H : Type} {enc : TypeId × Value → H} {W : World} {base : Nat} {v : Value} {d : DataW H} {p : List MemPlace} (hval : Value.okWide Try.prog W .any base 38 v)
    (h : DataW.Trod enc Try.prog W 0 (fun _ => true) true 38 v d p) : ∃ (A : Option Addr) (c : Nat) (l : List Bool), v = .slice A l.length c ∧ (l.length ≤ c ∧ c ≤ 9223372036854775807) ∧ Reads W W.heap.size 1 A l.length (flags l) := by
  obtain ⟨a0, len0, cap0, rfl⟩ := okWide_slice Try.underlying38 hval
  obtain ⟨fuel, hf⟩ := h
  obtain ⟨A, c, l, h1, h2, h3, h4⟩ := bools_of hf
  exact ⟨A, c, l, h1, ⟨h2, h3⟩, h4⟩
theorem one_op {H : Type} {enc : TypeId × Value → H} {W : World} {a : Addr} {ys : List (DataW H × List MemPlace)} {n : Nat} {fs : Array Field} (hfs : Try.prog.underlying 40 = some (.struct fs))
    (hf : ∀ (j : Nat) (f : Field), fs[j]? = some f → ∃ (v : Value) (y : DataW H × List MemPlace), W.cell? (a.add j) = some v ∧ ys[j]? = some y ∧ DataW.trod enc Try.prog W 0 (fun _ => true) true n f.type [v] = some y) :
    ∃ o : OpV, (∀ j v, o.cs[j]? = some v → W.cell? (a.add j) = some v) ∧ o.b < 256 ∧ Reads W W.heap.size 1 o.A o.keep.length (flags o.keep) ∧ o.keep.length ≤ 9223372036854775807 ∧ -9223372036854775808 ≤ o.n ∧ o.n ≤ 9223372036854775807 := by
  have h0 := Try.underlying40
  rw [h0] at hfs
  injection hfs with hfs
  injection hfs with hfs
  subst hfs
  obtain ⟨v0, y0, c0, _, t0⟩ := hf 0 _ rfl
  obtain ⟨v1, y1, c1, _, t1⟩ := hf 1 _ rfl
  obtain ⟨v2, y2, c2, _, t2⟩ := hf 2 _ rfl
  obtain ⟨v3, y3, c3, _, t3⟩ := hf 3 _ rfl
  obtain ⟨n0, e0, _, w0⟩ := DataW.trod_int Try.underlying3 t0
  obtain ⟨n1, e1, _, w1⟩ := DataW.trod_int Try.underlying3 t1
  obtain ⟨n2, e2, _, w2⟩ := DataW.trod_int Try.underlying5 t2
  obtain ⟨A, c, l, e3, h1, h2, h3⟩ := bools_of t3
  simp only [List.cons.injEq, and_true] at e0 e1 e2
  subst e0 e1 e2 e3
  simp [Lit.wf, IntKind.min, IntKind.max, IntKind.bits, IntKind.signed] at w0 w1 w2
  refine ⟨⟨n0, n1, n2.toNat, A, c, l⟩, fun j v hv => ?_, by show n2.toNat < 256; omega, h3, by show l.length ≤ _; omega, by show _ ≤ n1; omega, by show n1 ≤ _; omega⟩
  have hj : j < 4 := by
    rcases Nat.lt_or_ge j 4 with h' | h'
    · exact h'
    · rw [List.getElem?_eq_none (by simp [OpV.cs]; omega)] at hv; cases hv
  have : j = 0 ∨ j = 1 ∨ j = 2 ∨ j = 3 := by omega
  rcases this with rfl | rfl | rfl | rfl
  · simp [OpV.cs] at hv; rw [c0, hv]
  · simp [OpV.cs] at hv; rw [c1, hv]
  · simp [OpV.cs] at hv
    rw [c2, ← hv]
    congr 2
    omega
  · simp [OpV.cs, OpV.kv] at hv; rw [c3, hv]
theorem ops_cells : ∀ (os : List OpV) (j : Nat) (u : Value), (os.flatMap OpV.cs)[j]? = some u → ∃ k o, os[k]? = some o ∧ o.cs[j - k * 4]? = some u ∧ k * 4 ≤ j
  | [], j, u, h => by simp at h
  | o :: l, j, u, h => by
    rw [List.flatMap_cons] at h
    by_cases hj : j < 4
    · rw [List.getElem?_append_left (by simp [OpV.cs]; omega)] at h
      exact ⟨0, o, rfl, by simpa using h, by omega⟩
    · rw [List.getElem?_append_right (by simp [OpV.cs]; omega)] at h
      obtain ⟨k, o', h1, h2, h3⟩ := ops_cells l _ u h
      have e : o.cs.length = 4 := by simp [OpV.cs]
      refine ⟨k + 1, o', by simpa using h1, ?_, by omega⟩
      rw [← h2]
      congr 1
      omega
theorem open_ops {H : Type} {enc : TypeId × Value → H} {W : World} {base : Nat} {v : Value} {d : DataW H} {p : List MemPlace} (hval : Value.okWide Try.prog W .any base 22 v)
    (h : DataW.Trod enc Try.prog W 0 (fun _ => true) true 22 v d p) : ∃ (A : Option Addr) (n c : Nat) (os : List OpV), v = .slice A n c ∧ n ≤ 9223372036854775807 ∧
      (∀ o ∈ os, o.keep.length ≤ 9223372036854775807 ∧ -9223372036854775808 ≤ o.n ∧ o.n ≤ 9223372036854775807) ∧ Script W W.heap.size A n os := by
  obtain ⟨a0, len0, cap0, rfl⟩ := okWide_slice Try.underlying22 hval
  obtain ⟨fuel, hf⟩ := h
  rcases open_slice_fields Try.underlying22 Try.underlying40 (by kernel_rfl) (by kernel_rfl) hf with ⟨hcs, _⟩ | ⟨a, len, cap, m, D, Pl, hcs, _, hl, hm, hmm, _, hr⟩
  · simp [Value.cells] at hcs
    obtain ⟨rfl, rfl, rfl⟩ := hcs
    exact ⟨none, 0, 0, [], rfl, by omega, by simp, Reads.none_, by simp⟩
  · simp [Value.cells] at hcs
    obtain ⟨rfl, rfl, rfl⟩ := hcs
    simp only [if_true] at hmm
    subst hmm
    unfold maxLen at hm
    have hex : ∀ i, i < len0 → ∃ o : OpV, (∀ j v, o.cs[j]? = some v → W.cell? ((a.add (i * 4)).add j) = some v) ∧ o.b < 256 ∧ Reads W W.heap.size 1 o.A o.keep.length (flags o.keep) ∧ o.keep.length ≤ 9223372036854775807 ∧ -9223372036854775808 ≤ o.n ∧ o.n ≤ 9223372036854775807 := by
      intro i hi
      obtain ⟨ys, n, _, _, _, h3⟩ := hr i (by omega)
      refine one_op (enc := enc) Try.underlying40 (ys := ys) (n := n) fun j f hj => ?_
      obtain ⟨v, y, h4, h5, h6⟩ := h3 j f hj
      exact ⟨v, y, by rw [add_of_add]; exact h4, h5, h6⟩
    haveI : Inhabited OpV := ⟨⟨0, 0, 0, none, 0, []⟩⟩
    obtain ⟨f, hf'⟩ := choose_lt hex
    refine ⟨some a, len0, _, (List.range len0).map f, rfl, by omega, fun o ho => ?_, ⟨?_, fun hn => ⟨a, rfl, ?_, fun j u hu => ?_⟩⟩, fun o ho => ?_⟩
    · obtain ⟨i, hi, rfl⟩ := List.mem_map.1 ho
      exact (hf' i (List.mem_range.1 hi)).2.2.2
    · have : ∀ l : List OpV, (l.flatMap OpV.cs).length = l.length * 4 := fun l => by
        induction l with
        | nil => rfl
        | cons o l ih => rw [List.flatMap_cons, List.length_append, ih]; simp [OpV.cs]; omega
      rw [this]; simp
    · have h5 := (hf' 0 hn).1 0 _ (by simp [OpV.cs]; rfl)
      have := lt_of_cell h5
      rwa [block_of_add, block_of_add] at this
    · obtain ⟨k, o, h1, h2, h3⟩ := ops_cells _ j u hu
      have hk : k < len0 := by
        rcases Nat.lt_or_ge k len0 with h' | h'
        · exact h'
        · rw [List.getElem?_eq_none (by simp; omega)] at h1; cases h1
      simp [hk] at h1
      subst h1
      have := (hf' k hk).1 _ u h2
      rw [add_of_add, show k * 4 + (j - k * 4) = j by omega] at this
      exact this
    · obtain ⟨i, hi, rfl⟩ := List.mem_map.1 ho
      have := hf' i (List.mem_range.1 hi)
      exact ⟨this.2.1, this.2.2.1⟩
end Go.Proofs.Ytgcghoalepkdfaa
