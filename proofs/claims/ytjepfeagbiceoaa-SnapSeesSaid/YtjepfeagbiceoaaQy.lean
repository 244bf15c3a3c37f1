/-
  Memory while a script is gone through: an object and a context, each in its variable. No condition but the sizes.
-/
import Derived.Test.YtjepfeagbiceoaaQw
namespace Go.Proofs.Ytjepfeagbiceoaa
open Go.RowKit Go.BigFrame
set_option linter.unusedSimpArgs false
set_option linter.unusedVariables false
set_option maxRecDepth 100000
theorem OwnI.one (w : World) (base : Nat) (x : Int) (hb : base ≤ w.heap.size) : OwnI (w.alloc (.cells #[.int .i64 x] 3)) base (.slice (some ⟨w.heap.size, 0, none⟩) 1 1) 1 [x] :=
  ⟨by simp [i64s], .inr ⟨w.heap.size, 1, #[.int .i64 x], rfl, hb, heap_alloc_new w _, Nat.le_refl _, by simp [maxLen], rfl, by simp [i64s]⟩⟩
theorem wp_storeq {P : Program} {o : Oper} {a : Act} {w : World} {K : Act → World → Prop} {Q : Exit → Act → World → Prop} (ty : TypeId) (x y : Operand) (ho : o.op = .store ty x y)
    (g : Nat) (cs : Array Value) (vs : List Value) (hx : a.eval x = .pointer (some ⟨g, 0, none⟩)) (hy : a.eval y = .agg vs.toArray) (hB : Blk w g ty cs) (hs : vs.length = cs.size) (hi : (P.info? ty).map (·.size) = some vs.length) (h1 : ∀ v ∈ vs, v.oneCell' = true)
    (h : ∀ w', Blk w' g ty vs.toArray → Only [g] w w' → w'.heap.size = w.heap.size → K (a.put o.dst undef) w') : o.wp P a w K Q :=
  wp_store_mid ty x y ho g 0 vs.toArray hx hy (hB.there (by simp [hs])) (by simpa using hi) (all_oneCell_toArray h1)
    (h _ (by simpa using hB.over vs hs) ((Only.refl _ _).grown (by simpa using (setCells_grown g vs 0 w).1) (fun k e => .inl (by injection e with e; simp [e]))) (by simpa using (setCells_grown g vs 0 w).2))
/-- the context of a change in its variable is stored -/
theorem wpList_store_cx {P : Program} {ops : Array Oper} {rest : List Oper} {o : Oper} {a : Act} {w : World} {Q : Exit → Act → World → Prop} (hgd : o.guard = none) (ty : TypeId) (x y : Operand) (ho : o.op = .store ty x y)
    (g : Nat) (t : TypeId) (v0 v1 v2 v3 v4 v5 u4 u5 : Value) (hx : a.eval x = .pointer (some ⟨g, 4, none⟩)) (hy : a.eval y = .agg #[u4, u5]) (hB : Blk w g t #[v0, v1, v2, v3, v4, v5]) (hi : (P.info? ty).map (·.size) = some 2) (h4 : u4.oneCell' = true) (h5 : u5.oneCell' = true)
    (h : ∀ w', Blk w' g t #[v0, v1, v2, v3, u4, u5] → Only [g] w w' → w'.heap.size = w.heap.size → wpList P ops Q rest (a.put o.dst undef) w') : wpList P ops Q (o :: rest) a w :=
  wpList_store_mid hgd ty x y ho g 4 #[u4, u5] hx hy (hB.there (by simp)) (by simpa using hi) (by simp [h4, h5])
    (h _ (by simpa [World.setCells] using (hB.set_ 4 u4).set_ 5 u5) (by simpa [World.setCells] using ((Only.refl [g] w).setCell (p := ⟨g, 4, none⟩) (.inl (by simp)) u4).setCell (p := ⟨g, 5, none⟩) (.inl (by simp)) u5) (by simp [World.setCells, World.setCell]))
structure Fgt (w : World) (g : Nat) (q : OA) (L : List Int) (S : Option Addr) (c : Nat) (wr : World) : Prop where
  bo : Blk wr g 36 #[.bool q.th, .slice q.D q.dt.length q.cd, .int .i64 q.sq, .slice q.C q.cl.length q.cc]
  bc : Blk wr (g + 1) 28 #[.int .i64 (L.length : Int), .slice S L.length c]
  own : q.N wr w.heap.size
  ctx : OwnI wr w.heap.size (.slice S L.length c) L.length L
  li : ∀ s ∈ L, -9223372036854775808 ≤ s ∧ s ≤ 9223372036854775807
  sm : q.Sm
  good : Good q.v
  sq : q.sq ≤ L.length
  l16 : L.length ≤ 16
  bel : Below w.heap.size w wr
  far : w.heap.size ≤ g
section
variable {w wr wr' : World} {g c : Nat} {q : OA} {L : List Int} {S : Option Addr}
theorem Fgt.next (h : Fgt w g q L S c wr) (hb : Below wr.heap.size wr wr') : Fgt w g q L S c wr' :=
  ⟨h.bo.of (hb.block _ h.bo.lt), h.bc.of (hb.block _ h.bc.lt), OA.N.below h.own hb, OwnI.below h.ctx hb, h.li, h.sm, h.good, h.sq, h.l16, h.bel.trans (hb.mono h.bel.size), h.far⟩
theorem Fgt.drew (h : Fgt w g q L S c wr) : Fgt w g q L S c wr.drew := h.next (Below.refl _ wr).drew
theorem Fgt.x (h : Fgt w g q L S c wr) : XA.R ⟨L.length, L, S, c⟩ wr := by
  obtain ⟨-, s1, s2, -⟩ := own_shape h.ctx
  have := h.l16
  unfold maxLen at s2
  exact ⟨OwnI.ints h.ctx, h.li, by show _ ≤ (L.length : Int); omega, by show (L.length : Int) ≤ _; omega, by show L.length ≤ _; omega, s1⟩
theorem Fgt.few (h : Fgt w g q L S c wr) : (q.cl.length : Int) ≤ L.length := by
  have h1 := h.good.few
  have h2 := h.sq
  have e1 : q.v.cl.length = q.cl.length := OA.vs_len q
  have e2 : q.v.sq = q.sq := rfl
  omega
/-- another object is put into the variable -/
theorem Fgt.put {q' : OA} (h : Fgt w g q L S c wr) (hN : q'.N wr w.heap.size) (hS : q'.Sm) (hg : Good q'.v) (hq : q'.sq ≤ L.length) (ho : Only [g] wr wr') (K : Blk wr' g 36 #[.bool q'.th, .slice q'.D q'.dt.length q'.cd, .int .i64 q'.sq, .slice q'.C q'.cl.length q'.cc]) : Fgt w g q' L S c wr' := by
  refine ⟨K, h.bc.only ho (by simp), OA.P.typed hN fun k t cs hb ht => ho.block k hb.lt (fun hm => ?_), row_of h.ctx fun k hk => ho.block k (row_under h.ctx k hk) (fun hm => ?_), h.li, hS, hg, hq, h.l16, h.bel.trans (ho.below (B := w.heap.size) (fun k hk => by simp at hk; have := h.far; omega) h.bel.size), h.far⟩
  · simp at hm
    subst hm
    refine hb.ne_ h.bo ?_ rfl
    rcases ht with rfl | rfl | rfl <;> decide
  · simp at hm
    subst hm
    obtain ⟨cs, hb⟩ := own_ty h.ctx hk
    exact hb.ne_ h.bo (by decide) rfl
/-- another context is put into the variable -/
theorem Fgt.cx {L' : List Int} {S' : Option Addr} {c' : Nat} (h : Fgt w g q L S c wr) (hc : OwnI wr w.heap.size (.slice S' L'.length c') L'.length L') (hl : ∀ s ∈ L', -9223372036854775808 ≤ s ∧ s ≤ 9223372036854775807) (h16 : L'.length ≤ 16) (hq : L.length ≤ L'.length) (ho : Only [g + 1] wr wr') (K : Blk wr' (g + 1) 28 #[.int .i64 (L'.length : Int), .slice S' L'.length c']) : Fgt w g q L' S' c' wr' := by
  refine ⟨h.bo.only ho (by simp), K, OA.P.typed h.own fun k t cs hb ht => ho.block k hb.lt (fun hm => ?_), row_of hc fun k hk => ho.block k (row_under hc k hk) (fun hm => ?_), hl, h.sm, h.good, by have := h.sq; omega, h16, h.bel.trans (ho.below (B := w.heap.size) (fun k hk => by simp at hk; have := h.far; omega) h.bel.size), h.far⟩
  · simp at hm
    subst hm
    refine hb.ne_ h.bc ?_ rfl
    rcases ht with rfl | rfl | rfl <;> decide
  · simp at hm
    subst hm
    obtain ⟨cs, hb⟩ := own_ty hc hk
    exact hb.ne_ h.bc (by decide) rfl
theorem Fgt.grown {row : Option Nat} (h : Fgt w g q L S c wr) (hg : wr.grownBy wr' row) (hr : ∀ k, row = some k → wr.heap.size ≤ k) : Fgt w g q L S c wr' := h.next ((Below.refl _ wr).grown hg (Nat.le_refl _) hr)
theorem Fgt.zero {w0 : World} (hb : Below w.heap.size w w0) (hw : wr = (w0.alloc (.cells #[.bool false, .slice none 0 0, .int .i64 0, .slice none 0 0] 36)).alloc (.cells #[.int .i64 0, .slice none 0 0] 28)) : Fgt w w0.heap.size OA.zero [] none 0 wr := by
  have hb2 : Below w.heap.size w wr := by rw [hw]; exact (hb.alloc hb.size _).alloc (by simp; have := hb.size; omega) _
  refine ⟨by rw [hw]; exact (Blk.new w0 _ _).alloc _, ?_, OA.zero_N _ _, OwnI.nil _ _, fun s hs => (by cases hs), OA.zero_Sm, ?_, by decide, by decide, hb2, hb.size⟩
  · have := Blk.new (w0.alloc (.cells #[.bool false, .slice none 0 0, .int .i64 0, .slice none 0 0] 36)) 28 #[.int .i64 0, .slice none 0 0]
    rw [hw]
    simpa using this
  · exact ⟨by decide, by decide, fun _ => rfl, by decide, fun c hc => (by cases hc), List.Pairwise.nil, fun s hs => (by cases hs)⟩
end
end Go.Proofs.Ytjepfeagbiceoaa
