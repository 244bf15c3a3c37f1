/-
  Memory while heads are read; what is read of marks and links. Conditions: the reader lies where it is said to; its bytes are no more than a million.
-/
import Derived.Test.YtldnghmgdmjljaaHi
namespace Go.Proofs.Ytldnghmgdmjljaa
open Go.RowKit Go.BigFrame
set_option linter.unusedSimpArgs false
set_option linter.unusedVariables false
set_option maxRecDepth 100000
theorem far_of {w w' : World} {F F' : List Nat} {k : Nat} (hk : k < w.heap.size) (hn : k ∉ F) (hf : Fresh w F F') : k ∉ F' := fun hm => by
  rcases hf k hm with h | h
  · exact hn h
  · omega
/-- a view whose marks are the call's own, out of the way of F -/
structure VA.N (v : VA) (w : World) (base : Nat) (F : List Nat) : Prop where
  own : Own w base (.slice v.M v.row.length v.cm) v.row.length v.row
  far : ∀ k ∈ rowOf (.slice v.M 0 0), k ∉ F
  ok : ∀ b ∈ v.row, b < 256
  par : ∀ b ∈ v.par, b < 256
  size : I64 v.size
  ps : I64 v.ps
  ov : I64 v.ov
  pl : v.par.length ≤ 1000000
structure SA.N (s : SA) (w : World) (base : Nat) (F : List Nat) : Prop where
  vw : s.vw.N w base F
  own : w.ownsRow base 9 1 (.slice s.C s.ch.length s.cc) s.ch.length (strs s.ch)
  far : ∀ k ∈ rowOf (.slice s.C 0 0), k ∉ F
  ok : ∀ c ∈ s.ch, ∀ b ∈ c, b < 256
  name : ∀ b ∈ s.name, b < 256
  num : I64 s.num
  nl : s.name.length ≤ 1000000
section
variable {w w' : World} {base base' : Nat} {F F' : List Nat}
theorem VA.N.of {v : VA} (h : v.N w base F) (hk : ∀ k ∈ rowOf (.slice v.M 0 0), w'.heap[k]? = w.heap[k]?) : v.N w' base F :=
  ⟨row_of h.own fun k hm => hk k (by rw [row_slice v.M 0 0 v.row.length v.cm]; exact hm), h.far, h.ok, h.par, h.size, h.ps, h.ov, h.pl⟩
theorem VA.N.under {v : VA} (h : v.N w base F) {k : Nat} (hk : k ∈ rowOf (.slice v.M 0 0)) : k < w.heap.size := row_under h.own k (by rw [row_slice v.M v.row.length v.cm 0 0]; exact hk)
theorem VA.N.read {v : VA} (h : v.N w base F) (o : Only F w w') (f : Fresh w F F') : v.N w' base F' := by
  have h1 := h.of (fun k hk => o.block k (h.under hk) (h.far k hk))
  exact ⟨h1.own, fun k hk => far_of (w' := w') (h.under hk) (h.far k hk) f, h1.ok, h1.par, h1.size, h1.ps, h1.ov, h1.pl⟩
theorem VA.N.below {v : VA} (h : v.N w base F) (hb : Below w.heap.size w w') : v.N w' base F := h.of fun k hk => hb.block k (h.under hk)
theorem VA.N.ty {v : VA} (h : v.N w base F) {k : Nat} (hk : k ∈ rowOf (.slice v.M 0 0)) : ∃ cs, Blk w k 5 cs := own_ty h.own (by rw [row_slice v.M v.row.length v.cm 0 0]; exact hk)
theorem SA.N.under {s : SA} (h : s.N w base F) {k : Nat} (hk : k ∈ rowOf (.slice s.C 0 0)) : k < w.heap.size := row_under h.own k (by rw [row_slice s.C s.ch.length s.cc 0 0]; exact hk)
theorem SA.N.ty {s : SA} (h : s.N w base F) {k : Nat} (hk : k ∈ rowOf (.slice s.C 0 0)) : ∃ cs, Blk w k 9 cs := own_ty h.own (by rw [row_slice s.C s.ch.length s.cc 0 0]; exact hk)
theorem SA.N.of {s : SA} (h : s.N w base F) (hv : ∀ k ∈ rowOf (.slice s.vw.M 0 0), w'.heap[k]? = w.heap[k]?) (hk : ∀ k ∈ rowOf (.slice s.C 0 0), w'.heap[k]? = w.heap[k]?) : s.N w' base F :=
  ⟨h.vw.of hv, row_of h.own fun k hm => hk k (by rw [row_slice s.C 0 0 s.ch.length s.cc]; exact hm), h.far, h.ok, h.name, h.num, h.nl⟩
theorem SA.N.read {s : SA} (h : s.N w base F) (o : Only F w w') (f : Fresh w F F') : s.N w' base F' := by
  have h1 := h.of (w' := w') (fun k hk => o.block k (h.vw.under hk) (h.vw.far k hk)) (fun k hk => o.block k (h.under hk) (h.far k hk))
  exact ⟨h.vw.read o f, h1.own, fun k hk => far_of (w' := w') (h.under hk) (h.far k hk) f, h1.ok, h1.name, h1.num, h1.nl⟩
theorem SA.N.below {s : SA} (h : s.N w base F) (hb : Below w.heap.size w w') : s.N w' base F := h.of (fun k hk => hb.block k (h.vw.under hk)) (fun k hk => hb.block k (h.under hk))
/-- blocks of bytes and of strings stay -/
def Stay (w w' : World) : Prop := ∀ k t cs, Blk w k t cs → t = 5 ∨ t = 9 → w'.heap[k]? = w.heap[k]?
theorem VA.N.stay {v : VA} (h : v.N w base F) (hs : Stay w w') : v.N w' base F := h.of fun k hk => by obtain ⟨cs, hb⟩ := h.ty hk; exact hs k _ cs hb (.inl rfl)
theorem SA.N.stay {s : SA} (h : s.N w base F) (hs : Stay w w') : s.N w' base F := h.of (fun k hk => by obtain ⟨cs, hb⟩ := h.vw.ty hk; exact hs k _ cs hb (.inl rfl)) (fun k hk => by obtain ⟨cs, hb⟩ := h.ty hk; exact hs k _ cs hb (.inr rfl))
theorem VA.N.weaken {v : VA} (h : v.N w base F) (hb : base' ≤ base) : v.N w base' F := ⟨h.own.weaken hb, h.far, h.ok, h.par, h.size, h.ps, h.ov, h.pl⟩
theorem SA.N.weaken {s : SA} (h : s.N w base F) (hb : base' ≤ base) : s.N w base' F := ⟨h.vw.weaken hb, row_weaken h.own hb, h.far, h.ok, h.name, h.num, h.nl⟩
theorem VA.N.R {v : VA} (h : v.N w base F) : v.R w := by
  obtain ⟨-, c1, c2, -⟩ := own_shape h.own
  unfold maxLen at c2
  exact ⟨h.own.bytes h.ok, h.par, h.size, h.ps, h.ov, by omega, by have := h.pl; omega, c1⟩
theorem SA.N.R {s : SA} (h : s.N w base F) : s.R w := by
  obtain ⟨-, c1, c2, -⟩ := own_shape h.own
  unfold maxLen at c2
  exact ⟨h.vw.R, ⟨Reads.of_own h.own, h.ok⟩, h.name, h.num, by omega, by have := h.nl; omega, c1⟩
theorem stay_only {g : Nat} {t : TypeId} {cs : Array Value} (hk : Blk w g t cs) (h1 : t ≠ 5) (h2 : t ≠ 9) (o : Only [g] w w') : Stay w w' := fun k t' cs' hb ht => o.block k hb.lt (fun hm => by
  simp at hm
  subst hm
  rcases ht with rfl | rfl
  · exact hb.ne_ hk (Ne.symm h1) rfl
  · exact hb.ne_ hk (Ne.symm h2) rfl)
theorem stay_below (hb : Below w.heap.size w w') : Stay w w' := fun k t cs h _ => hb.block k h.lt
/-- a reader, and two blocks of the call's own -/
structure Tb (base : Nat) (w wr : World) (F0 F : List Nat) (p : Option Addr) (s : RD) (t : TypeId) (g2 g3 : Nat) (Z2 cs3 : Array Value) : Prop where
  rd : Rd wr base F p s
  only : Only F0 w wr
  fresh : Fresh w F0 F
  k2 : Blk wr g2 t Z2
  n2 : g2 ∉ F
  k3 : Blk wr g3 t cs3
  n3 : g3 ∉ F
  b2 : w.heap.size ≤ g2
  b3 : w.heap.size ≤ g3
variable {wr w2 : World} {F0 : List Nat} {p : Option Addr} {s s' : RD} {t : TypeId} {g2 g3 : Nat} {Z2 cs3 cs4 : Array Value}
theorem Tb.read (h : Tb base w wr F0 F p s t g2 g3 Z2 cs3) (r : Rd w2 base F' p s') (o : Only F wr w2) (f : Fresh wr F F') : Tb base w w2 F0 F' p s' t g2 g3 Z2 cs3 :=
  ⟨r, h.only.trans o h.fresh, h.fresh.trans f h.only.size, h.k2.of (o.block _ h.k2.lt h.n2), far_of (w' := w2) h.k2.lt h.n2 f, h.k3.of (o.block _ h.k3.lt h.n3), far_of (w' := w2) h.k3.lt h.n3 f, h.b2, h.b3⟩
theorem Tb.next (h : Tb base w wr F0 F p s t g2 g3 Z2 cs3) (hb : Below wr.heap.size wr w2) : Tb base w w2 F0 F p s t g2 g3 Z2 cs3 := h.read (h.rd.below hb) (Only.of_below hb F) (Fresh.refl _ _)
theorem Tb.store (h : Tb base w wr F0 F p s t g2 g3 Z2 cs3) (hne : g2 ≠ g3) (k : Blk w2 g3 t cs4) (o : Only [g3] wr w2) (hs : w2.heap.size = wr.heap.size) : Tb base w w2 F0 F p s t g2 g3 Z2 cs4 := by
  refine ⟨h.rd.of (by omega) (fun k hk => o.block k (h.rd.under k hk) (fun hm => by simp at hm; subst hm; exact h.n3 hk)), ?_, h.fresh, h.k2.only o (by simpa using hne), h.n2, k, h.n3, h.b2, h.b3⟩
  have b3 := h.b3
  exact ⟨o.os.trans h.only.os, o.tape.trans h.only.tape, o.output.trans h.only.output, by have := h.only.size; omega, fun i hi hn => (o.block i (by have := h.only.size; omega) (by simp; omega)).trans (h.only.block i hi hn)⟩
end
end Go.Proofs.Ytldnghmgdmjljaa
