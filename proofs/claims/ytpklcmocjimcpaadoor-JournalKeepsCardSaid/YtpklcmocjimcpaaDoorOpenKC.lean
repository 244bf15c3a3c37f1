/-
  How a journal's script that came in is opened. No condition.
-/
import Derived.Test.YtpklcmocjimcpaaDoorZj
import Derived.Test.YtpklcmocjimcpaaDoorJopC
namespace Go.Proofs.YtpklcmocjimcpaaDoor
open Go.ChangeShapes Go.WideShapes Go.ChangeAt Go.RowKit Go.Deep
set_option maxRecDepth 100000
theorem reads_flags {W : World} {a : Addr} {len : Nat} {f : Nat → Bool} (hc : ∀ i, i < len → W.cell? (a.add i) = some (.bool (f i))) : Reads W W.heap.size 1 (some a) ((List.range len).map f).length (flags ((List.range len).map f)) := by
  refine ⟨by simp [flags], fun hn => ⟨a, rfl, ?_, fun j u hu => ?_⟩⟩
  · have := lt_of_cell (hc 0 (by simpa using hn))
    rwa [block_of_add] at this
  · have hj : j < len := by
      rcases Nat.lt_or_ge j len with h | h
      · exact h
      · rw [List.getElem?_eq_none (by simp [flags]; omega)] at hu; cases hu
    rw [hc j hj, ← hu]
    simp [flags, hj]
theorem bools_of {H : Type} {enc : TypeId × Value → H} {W : World} {n : Nat} {v : Value} {y : DataW H × List MemPlace} (h : DataW.trod enc Tryd.prog W 0 (fun _ => true) true n 23 [v] = some y) :
    ∃ (A : Option Addr) (c : Nat) (l : List Bool), v = .slice A l.length c ∧ l.length ≤ c ∧ c ≤ 9223372036854775807 ∧ Reads W W.heap.size 1 A l.length (flags l) := by
  rcases open_bools Tryd.underlying23 Tryd.underlying4 (by kernel_rfl) h with ⟨hcs, _⟩ | ⟨a, len, cap, f, hcs, _, hl, hm, _, hcell⟩
  · exact ⟨none, 0, [], by simpa using hcs, by simp, by omega, Reads.none_⟩
  · simp only [List.cons.injEq, and_true] at hcs
    unfold maxLen at hm
    exact ⟨some a, cap, (List.range len).map f, by simpa using hcs, by simpa using hl, by omega, reads_flags fun i hi => hcell i (by omega)⟩
theorem open_flags {H : Type} {enc : TypeId × Value → H} {W : World} {base : Nat} {v : Value} {d : DataW H} {p : List MemPlace} (hval : Value.okWide Tryd.prog W .any base 23 v)
    (h : DataW.Trod enc Tryd.prog W 0 (fun _ => true) true 23 v d p) : ∃ (A : Option Addr) (c : Nat) (l : List Bool), v = .slice A l.length c ∧ (l.length ≤ c ∧ c ≤ 9223372036854775807) ∧ Reads W W.heap.size 1 A l.length (flags l) := by
  obtain ⟨a0, len0, cap0, rfl⟩ := okWide_slice Tryd.underlying23 hval
  obtain ⟨fuel, hf⟩ := h
  obtain ⟨A, c, l, h1, h2, h3, h4⟩ := bools_of hf
  exact ⟨A, c, l, h1, ⟨h2, h3⟩, h4⟩
/-- what a value's cells are -/
def JOpV.Fit (v : JOpV) : Prop := v.b.length ≤ 9223372036854775807 ∧ v.l.length ≤ 9223372036854775807 ∧ v.b.length ≤ v.c ∧ v.c ≤ 9223372036854775807
def JOpV.Wide (v : JOpV) : Prop := -9223372036854775808 ≤ v.n ∧ v.n ≤ 9223372036854775807
theorem jop_of {H : Type} {enc : TypeId × Value → H} {W : World} {n : Nat} {c0 c1 c2 c3 : Value} {y0 y1 y2 y3 : DataW H × List MemPlace} (t0 : DataW.trod enc Tryd.prog W 0 (fun _ => true) true n 3 [c0] = some y0) (t1 : DataW.trod enc Tryd.prog W 0 (fun _ => true) true n 3 [c1] = some y1)
    (t2 : DataW.trod enc Tryd.prog W 0 (fun _ => true) true n 34 [c2] = some y2) (t3 : DataW.trod enc Tryd.prog W 0 (fun _ => true) true n 23 [c3] = some y3) : ∃ x : JOpV, x.cs = [c0, c1, c2, c3] ∧ x.At W W.heap.size ∧ x.Fit ∧ x.Wide := by
  obtain ⟨n0, e0, _, w0⟩ := DataW.trod_int Tryd.underlying3 t0
  obtain ⟨n1, e1, _, w1⟩ := DataW.trod_int Tryd.underlying3 t1
  obtain ⟨A, m, c, l, e2, h1, h2⟩ := bytes_of t2
  obtain ⟨A2, c2', l2, e3, h3, h4, h5⟩ := bools_of t3
  simp only [List.cons.injEq, and_true] at e0 e1
  subst e0 e1 e2 e3
  simp [Lit.wf, IntKind.min, IntKind.max, IntKind.bits, IntKind.signed] at w0 w1
  have hl := h2.len
  subst hl
  exact ⟨⟨n0, n1, A, c, l, A2, c2', l2⟩, rfl, ⟨h2, h5⟩, ⟨by show l.length ≤ _; omega, by show l2.length ≤ _; omega, by show l.length ≤ c; omega, by show c ≤ _; omega⟩, w1⟩
theorem open_jop {H : Type} {enc : TypeId × Value → H} {W : World} {base : Nat} {v : Value} {d : DataW H} {p : List MemPlace} (hval : Value.okWide Tryd.prog W .any base 38 v)
    (h : DataW.Trod enc Tryd.prog W 0 (fun _ => true) true 38 v d p) : ∃ x : JOpV, v = .agg x.cs.toArray ∧ x.At W W.heap.size ∧ x.Fit ∧ x.Wide := by
  obtain ⟨cs, rfl, hsz⟩ := okWide_struct Tryd.underlying38 hval
  obtain ⟨fuel, hf⟩ := h
  obtain ⟨ys, n', hn', hy, hlen, hyl, hff⟩ := DataW.trod_struct Tryd.underlying38 hf
  have h4 : Tryd.prog.cellsOf 38 = 4 := by kernel_rfl
  rw [h4] at hsz
  obtain ⟨l, rfl⟩ : ∃ l : List Value, cs = l.toArray := ⟨cs.toList, by simp⟩
  match l, hsz with
  | [c0, c1, c2, c3], _ =>
    have e3 : Tryd.prog.cellsOf 3 = 1 := by kernel_rfl
    have e26 : Tryd.prog.cellsOf 34 = 1 := by kernel_rfl
    have e29 : Tryd.prog.cellsOf 23 = 1 := by kernel_rfl
    have hy4 : ys.length = 4 := hyl
    match ys, hy4 with
    | [y0, y1, y2, y3], _ =>
      have g0 : DataW.trod enc Tryd.prog W 0 (fun _ => true) true n' 3 [c0] = some y0 := by
        have := hff 0 _ rfl
        simpa [e3, Value.cells] using this
      have g1 : DataW.trod enc Tryd.prog W 0 (fun _ => true) true n' 3 [c1] = some y1 := by
        have := hff 1 _ rfl
        simpa [e3, Value.cells] using this
      have g2 : DataW.trod enc Tryd.prog W 0 (fun _ => true) true n' 34 [c2] = some y2 := by
        have := hff 2 _ rfl
        simpa [e26, Value.cells] using this
      have g3 : DataW.trod enc Tryd.prog W 0 (fun _ => true) true n' 23 [c3] = some y3 := by
        have := hff 3 _ rfl
        simpa [e29, Value.cells] using this
      obtain ⟨x, hx, h1, h2, h3⟩ := jop_of g0 g1 g2 g3
      exact ⟨x, by rw [hx], h1, h2, h3⟩
section
variable {H : Type} {enc : TypeId × Value → H} {P : Program} {w : World} {base : Nat} {spare : Nat → Bool} {held : Bool}
open Go.Deep in
theorem open_slice_fields {t e : TypeId} {fs : Array Field} {fuel : Nat} {cs : List Value} {x : DataW H × List MemPlace} (ht : P.underlying t = some (.slice e)) (he : P.underlying e = some (.struct fs))
    (hone : oneCellFields P fs = true) (hC : P.cellsOf e = fs.size) (h : DataW.trod enc P w base spare held fuel t cs = some x) :
    (cs = [.slice none 0 0] ∧ x = (.nil, [])) ∨
    ∃ (a : Addr) (len cap m : Nat) (D : Nat → DataW H) (Pl : Nat → List MemPlace), cs = [.slice (some a) len cap] ∧ base ≤ a.block ∧ len ≤ cap ∧ cap ≤ maxLen ∧ m = (if spare a.block then cap else len) ∧
      x = (.slice ((List.range len).map D) ((List.range (m - len)).map fun j => D (len + j)), MemPlace.row a (m * fs.size) ++ (List.range m).flatMap Pl) ∧
      ∀ i, i < m → ∃ (ys : List (DataW H × List MemPlace)) (n : Nat), D i = .agg (ys.map (·.1)) ∧ Pl i = ys.flatMap (·.2) ∧ ys.length = fs.size ∧
        ∀ (j : Nat) (f : Field), fs[j]? = some f → ∃ (v : Value) (y : DataW H × List MemPlace), w.cell? (a.add (i * fs.size + j)) = some v ∧ ys[j]? = some y ∧ DataW.trod enc P w base spare held n f.type [v] = some y := by
  rcases open_slice ht h with h0 | ⟨a, len, cap, m, n, D, Pl, hcs, hb, hl, hm, hmm, hx, hi⟩
  · exact .inl h0
  · refine .inr ⟨a, len, cap, m, D, Pl, hcs, hb, hl, hm, hmm, by rw [hC] at hx; exact hx, fun i him => ?_⟩
    obtain ⟨cs', hc, ht'⟩ := hi i him
    rw [hC] at hc
    obtain ⟨ys, n', hn', hy, hlen, hyl, hf⟩ := DataW.trod_struct he ht'
    obtain ⟨_, hcl, hat⟩ := World.cells?_some hc
    simp only [Prod.mk.injEq] at hy
    refine ⟨ys, n', hy.1, hy.2, hyl, fun j f hj => ?_⟩
    obtain ⟨ho, hk⟩ := hone_of hone j f hj
    have hjl : j < fs.size := (Array.getElem?_eq_some_iff.1 hj).1
    have hcell := hat j hjl
    have hv : cs'[j]? = some (cs'[j]'(by omega)) := List.getElem?_eq_getElem (by omega)
    have h1 := hf j f hj
    rw [ho, hk] at h1
    have hone' : (cs'.drop j).take 1 = [cs'[j]'(by omega)] := by
      rw [List.drop_eq_getElem_cons (by omega)]
      rfl
    rw [hone'] at h1
    have hys : ys[j]? = some (ys[j]'(by omega)) := List.getElem?_eq_getElem (by omega)
    refine ⟨_, _, ?_, hys, h1.trans hys⟩
    rw [← Go.Deep.add_add, hcell, hv]
end
theorem jops_cells : ∀ (os : List JOpV) (j : Nat) (u : Value), (os.flatMap JOpV.cs)[j]? = some u → ∃ k o, os[k]? = some o ∧ o.cs[j - k * 4]? = some u ∧ k * 4 ≤ j
  | [], j, u, h => by simp at h
  | o :: l, j, u, h => by
    rw [List.flatMap_cons] at h
    by_cases hj : j < 4
    · rw [List.getElem?_append_left (by simp [JOpV.cs]; omega)] at h
      exact ⟨0, o, rfl, by simpa using h, by omega⟩
    · rw [List.getElem?_append_right (by simp [JOpV.cs]; omega)] at h
      obtain ⟨k, o', h1, h2, h3⟩ := jops_cells l _ u h
      have e : o.cs.length = 4 := by simp [JOpV.cs]
      refine ⟨k + 1, o', by simpa using h1, ?_, by omega⟩
      rw [← h2]
      congr 1
      omega
theorem open_jops {H : Type} {enc : TypeId × Value → H} {W : World} {base : Nat} {v : Value} {d : DataW H} {p : List MemPlace} (hval : Value.okWide Tryd.prog W .any base 22 v)
    (h : DataW.Trod enc Tryd.prog W 0 (fun _ => true) true 22 v d p) : ∃ (A : Option Addr) (n c : Nat) (os : List JOpV), v = .slice A n c ∧ n ≤ 9223372036854775807 ∧
      (JCells W W.heap.size A n os ∧ ∀ o ∈ os, o.At W W.heap.size ∧ o.Fit ∧ o.Wide) := by
  obtain ⟨a0, len0, cap0, rfl⟩ := okWide_slice Tryd.underlying22 hval
  obtain ⟨fuel, hf⟩ := h
  rcases open_slice_fields Tryd.underlying22 Tryd.underlying38 (by kernel_rfl) (by kernel_rfl) hf with ⟨hcs, _⟩ | ⟨a, len, cap, m, D, Pl, hcs, _, hl, hm, hmm, _, hr⟩
  · simp [Value.cells] at hcs
    obtain ⟨rfl, rfl, rfl⟩ := hcs
    exact ⟨none, 0, 0, [], rfl, by omega, Reads.none_, by simp⟩
  · simp [Value.cells] at hcs
    obtain ⟨rfl, rfl, rfl⟩ := hcs
    simp only [if_true] at hmm
    subst hmm
    unfold maxLen at hm
    have hex : ∀ i, i < len0 → ∃ o : JOpV, (∀ j v, o.cs[j]? = some v → W.cell? ((a.add (i * 4)).add j) = some v) ∧ o.At W W.heap.size ∧ o.Fit ∧ o.Wide := by
      intro i hi
      obtain ⟨ys, n, _, _, _, h3⟩ := hr i (by omega)
      obtain ⟨v0, y0, c0, _, t0⟩ := h3 0 _ rfl
      obtain ⟨v1, y1, c1, _, t1⟩ := h3 1 _ rfl
      obtain ⟨v2, y2, c2, _, t2⟩ := h3 2 _ rfl
      obtain ⟨v3, y3, c3, _, t3⟩ := h3 3 _ rfl
      obtain ⟨x, hx, r⟩ := jop_of t0 t1 t2 t3
      refine ⟨x, fun j v hv => ?_, r⟩
      rw [hx] at hv
      rw [add_of_add]
      match j, hv with
      | 0, hv => simp at hv; subst hv; exact c0
      | 1, hv => simp at hv; subst hv; exact c1
      | 2, hv => simp at hv; subst hv; exact c2
      | 3, hv => simp at hv; subst hv; exact c3
      | j + 4, hv => simp at hv
    haveI : Inhabited JOpV := ⟨⟨0, 0, none, 0, [], none, 0, []⟩⟩
    obtain ⟨f, hf'⟩ := Go.Deep.choose_lt hex
    refine ⟨some a, len0, _, (List.range len0).map f, rfl, by omega, ⟨by rw [jops_len]; simp, fun hn => ⟨a, rfl, ?_, fun j u hu => ?_⟩⟩, fun o ho => ?_⟩
    · have h5 := (hf' 0 hn).1 0 _ (by simp [JOpV.cs]; rfl)
      have := lt_of_cell h5
      rwa [block_of_add, block_of_add] at this
    · obtain ⟨k, o, h1, h2, h3⟩ := jops_cells _ j u hu
      have hk : k < len0 := by
        rcases Nat.lt_or_ge k len0 with h' | h'
        · exact h'
        · rw [List.getElem?_eq_none (by simp; omega)] at h1; cases h1
      simp [hk] at h1
      subst h1
      have := (hf' k hk).1 _ u h2
      rw [add_of_add, show k * 4 + (j - k * 4) = j by omega] at this
      exact this
    · obtain ⟨i, hi, rfl⟩ := List.mem_map.1 ho
      exact (hf' i (List.mem_range.1 hi)).2
end Go.Proofs.YtpklcmocjimcpaaDoor
