/-
  Memory while snap.Take reads an object: what a reading leaves, a clone more. No condition but where things lie.
-/
import Derived.Test.YtjepfeagbiceoaaRsp
import Derived.Test.YtjepfeagbiceoaaRbk
import Derived.Test.YtjepfeagbiceoaaRnu
import Derived.Test.YtjepfeagbiceoaaQv
namespace Go.Proofs.Ytjepfeagbiceoaa
open Go.RowKit Go.BigFrame
set_option linter.unusedSimpArgs false
set_option linter.unusedVariables false
set_option maxRecDepth 100000
/-- memory while an object is read -/
structure Tks (w : World) (q : OA) (g : Nat) (pr : Option Addr) (F : List Nat) (rest : List Nat) (wr : World) : Prop where
  blk : Blk wr g 36 #[.bool q.th, .slice q.D q.dt.length q.cd, .int .i64 q.sq, .slice q.C q.cl.length q.cc]
  res : Blk wr w.heap.size 36 #[.bool false, .slice none 0 0, .int .i64 0, .slice none 0 0]
  own : q.N wr (w.heap.size + 1)
  rd : Rd wr (w.heap.size + 1) F pr ⟨rest, false⟩
  bel : Below w.heap.size w wr
  far : w.heap.size + 1 ≤ g
  gF : g ∉ F
  dF : ∀ k ∈ rowOf (.slice q.D 0 0), k ∉ F
  cF : ∀ k ∈ rowOf (.slice q.C 0 0), k ∉ F
  kF : ∀ c ∈ q.cl, (∀ k ∈ c.sR, k ∉ F) ∧ ∀ k ∈ c.dR, k ∉ F
theorem Tks.read {w wr w2 : World} {q : OA} {g : Nat} {pr : Option Addr} {F F2 : List Nat} {rest rest2 : List Nat} (h : Tks w q g pr F rest wr) (r : Rd w2 (w.heap.size + 1) F2 pr ⟨rest2, false⟩) (o : Only F wr w2) (f : Fresh wr F F2) : Tks w q g pr F2 rest2 w2 := by
  have keep : ∀ k, k < wr.heap.size → k ∉ F → w2.heap[k]? = wr.heap[k]? := fun k h1 h2 => o.block k h1 h2
  have gone : ∀ k, k < wr.heap.size → k ∉ F → k ∉ F2 := fun k h1 h2 hm => by
    rcases f k hm with h' | h'
    · exact h2 h'
    · omega
  have hov := h.rd.over
  have hrw : w.heap.size ∉ F := fun hm => by have := hov _ hm; omega
  exact ⟨h.blk.of (keep _ h.blk.lt h.gF), h.res.of (keep _ h.res.lt hrw), OA.P.of h.own (fun k hk => keep k (OA.P.dU h.own k hk).2.1 (h.dF k hk)) (fun k hk => keep k (OA.P.cU h.own k hk).2.1 (h.cF k hk)) (fun c hc => ⟨fun k hk => keep k ((h.own.cl c hc).sU k hk).2.1 ((h.kF c hc).1 k hk), fun k hk => keep k ((h.own.cl c hc).dU k hk).2.1 ((h.kF c hc).2 k hk)⟩), r,
    h.bel.trans (o.below (B := w.heap.size) (fun k hk => by have := hov k hk; omega) h.bel.size), h.far, gone _ h.blk.lt h.gF, fun k hk => gone k (OA.P.dU h.own k hk).2.1 (h.dF k hk), fun k hk => gone k (OA.P.cU h.own k hk).2.1 (h.cF k hk),
    fun c hc => ⟨fun k hk => gone k ((h.own.cl c hc).sU k hk).2.1 ((h.kF c hc).1 k hk), fun k hk => gone k ((h.own.cl c hc).dU k hk).2.1 ((h.kF c hc).2 k hk)⟩⟩
theorem Tks.next {w wr w2 : World} {q : OA} {g : Nat} {pr : Option Addr} {F : List Nat} {rest : List Nat} (h : Tks w q g pr F rest wr) (hb : Below wr.heap.size wr w2) : Tks w q g pr F rest w2 :=
  ⟨h.blk.of (hb.block _ h.blk.lt), h.res.of (hb.block _ h.res.lt), OA.N.below h.own hb, h.rd.below hb, h.bel.trans (hb.mono h.bel.size), h.far, h.gF, h.dF, h.cF, h.kF⟩
/-- a clone more -/
theorem Tks.more {w W1 W3 W4 : World} {q : OA} {g c4 : Nat} {pr A4 : Option Addr} {F : List Nat} {rest : List Nat} {c : CA} (h : Tks w q g pr F rest W1) (hc : CA.N c W1 (w.heap.size + 1)) (hcF : (∀ k ∈ c.sR, k ∉ F) ∧ ∀ k ∈ c.dR, k ∉ F) (hfs : ∀ a ∈ q.cl.map CA.sR, ∀ k ∈ a, k ∉ c.sR) (hfd : ∀ a ∈ rowOf (.slice q.D 0 0) :: q.cl.map CA.dR, ∀ k ∈ a, k ∉ c.dR)
    (h3 : OwnC 79 W3 (w.heap.size + 1) (.slice A4 (q.cl ++ [c]).length c4) (q.cl ++ [c])) (g3 : (W1.alloc (.cells c.cells.toArray 79)).grownBy W3 (Value.slice q.C q.cl.length q.cc).ownBlock)
    (hA : (Value.slice A4 (q.cl ++ [c]).length c4).ownBlock = (Value.slice q.C q.cl.length q.cc).ownBlock ∨ (Value.slice A4 (q.cl ++ [c]).length c4).ownBlock = some (W1.alloc (.cells c.cells.toArray 79)).heap.size)
    (ho : Only [g] W3 W4) (K4 : Blk W4 g 36 #[.bool q.th, .slice q.D q.dt.length q.cd, .int .i64 q.sq, .slice A4 (q.cl ++ [c]).length c4]) : Tks w ⟨q.th, q.dt, q.D, q.cd, q.sq, A4, c4, q.cl ++ [c]⟩ g pr F rest W4 := by
  have hrowC : (Value.slice q.C q.cl.length q.cc).ownBlock = (Value.slice q.C 0 0).ownBlock := by cases q.C <;> rfl
  rw [hrowC] at g3 hA
  have hcl : ∀ k, (Value.slice q.C 0 0).ownBlock = some k → w.heap.size + 1 ≤ k ∧ k ∉ F ∧ ∃ cs, Blk W1 k 79 cs := fun k hk => by
    obtain ⟨x1, x2, x3⟩ := OA.P.cU h.own k (mem_rowOf.2 hk)
    exact ⟨x1, h.cF k (mem_rowOf.2 hk), x3⟩
  have hsz := g3.size
  rw [World.size_alloc] at hsz
  have hstay : ∀ k, k < W1.heap.size → (∀ j, (Value.slice q.C 0 0).ownBlock = some j → k ≠ j) → k ≠ g → W4.heap[k]? = W1.heap[k]? := fun k hkl hj hne => by
    have e1 : W3.heap[k]? = W1.heap[k]? := (g3.block k (by rw [World.size_alloc]; omega) (fun e => hj k e.symm rfl)).trans (Below.heap_alloc W1 _ k hkl)
    exact (ho.block k (by omega) (fun hm => by simp at hm; exact hne hm)).trans e1
  have hkeep : ∀ k t cs, Blk W1 k t cs → t ≠ 79 → k ≠ g → W4.heap[k]? = W1.heap[k]? := fun k t cs hk ht hne =>
    hstay k hk.lt (fun j hj e => by
      subst e
      obtain ⟨-, -, cs', hb⟩ := hcl k hj
      exact hk.ne_ hb ht rfl) hne
  have hng : ∀ k t cs, Blk W1 k t cs → t ≠ 36 → k ≠ g := fun k t cs hk ht e => by subst e; exact hk.ne_ h.blk ht rfl
  have hCN : ∀ {c' : CA}, c'.N W1 (w.heap.size + 1) → c'.N W4 (w.heap.size + 1) := fun hc' => hc'.of (fun k hm => by obtain ⟨_, _, cs, hb⟩ := hc'.sU k hm; exact hkeep k _ cs hb (by decide) (hng k _ cs hb (by decide))) (fun k hm => by obtain ⟨_, _, cs, hb⟩ := hc'.dU k hm; exact hkeep k _ cs hb (by decide) (hng k _ cs hb (by decide)))
  have hfar := h.far
  have hFu := h.rd.under
  have hb1 : Below w.heap.size w (W1.alloc (.cells c.cells.toArray 79)) := h.bel.alloc h.bel.size _
  have hb3 : Below w.heap.size w W3 := hb1.grown g3 (by rw [World.size_alloc]; have := h.bel.size; omega) (fun k e => by have := (hcl k e).1; omega)
  refine ⟨K4, h.res.of (hkeep _ _ _ h.res (by decide) (by omega)), ⟨row_of h.own.dt fun k hk => by obtain ⟨cs, hb⟩ := own_ty h.own.dt hk; exact hkeep k _ cs hb (by decide) (hng k _ cs hb (by decide)), h.own.ok, ?_, fun c' hc' => ?_, h.own.q1, h.own.q2, ?_, ?_⟩, ?_, ?_, h.far, h.gF, h.dF, ?_, ?_⟩
  · rw [List.append_nil]
    exact row_of h3 fun k hk => ho.block k (row_under h3 k hk) (fun hm => by
      simp at hm
      subst hm
      obtain ⟨cs, hb⟩ := own_ty h3 hk
      have hgl := h.blk.lt
      refine hb.ne_ (h.blk.of ((g3.block _ (by rw [World.size_alloc]; omega) (fun e => ?_)).trans (Below.heap_alloc W1 _ _ (by omega)))) (by decide) rfl
      obtain ⟨-, -, cs', hb'⟩ := hcl _ e.symm
      exact hb'.ne_ h.blk (by decide) rfl)
  · rcases List.mem_append.1 hc' with hm | hm
    · exact hCN (h.own.cl c' hm)
    · simp at hm
      subst hm
      exact hCN hc
  · have := h.own.dD.snoc (x := c.dR) hfd
    simpa using this
  · have := h.own.dS.snoc (x := c.sR) hfs
    simpa using this
  · exact h.rd.of (Nat.le_trans (by omega) ho.size) (fun k hk => hstay k (hFu k hk) (fun j hj e => by subst e; exact (hcl k hj).2.1 hk) (fun e => by subst e; exact h.gF hk))
  · exact hb3.trans (ho.below (B := w.heap.size) (fun k hk => by simp at hk; omega) hb3.size)
  · intro k hk hF
    have hk' : (Value.slice A4 (q.cl ++ [c]).length c4).ownBlock = some k := by
      have := mem_rowOf.1 hk
      rw [← this]
      cases A4 <;> rfl
    rcases hA with e | e
    · rw [hk'] at e
      exact (hcl k e.symm).2.1 hF
    · rw [hk'] at e
      injection e with e
      have := hFu k hF
      simp at e
      omega
  · intro c' hc'
    rcases List.mem_append.1 hc' with hm | hm
    · exact h.kF c' hm
    · simp at hm
      subst hm
      exact hcF
end Go.Proofs.Ytjepfeagbiceoaa
