/-
  What is put of a view, a snapshot. Conditions: they read as they are said to ahead of the writer's making; the marks are such; the sizes.
-/
import Derived.Test.YtiimanoloedbeaaUc
import Derived.OpenShut
import Derived.ShutString
import Derived.ChangeOld
import Derived.Deep.Matrix
import Derived.Deep.Slices
import Derived.Deep.Grids
import Derived.Deep.Fields
import Derived.ChangeSame
import Derived.Deep.DeepHandedRow
import Derived.Lib.LaidTab
import Derived.Deep.Strs
import Derived.Stop.BytesEq

namespace Go.Proofs.Ytiimanoloedbeaa
open Go.RowKit Go.BigFrame
set_option linter.unusedSimpArgs false
set_option linter.unusedVariables false
set_option maxRecDepth 100000
/-- the writer at g in wr; since wr0 only what is its own has turned; nothing below w1's end has -/
structure Wst (w1 wr0 wr : World) (F0 F : List Nat) (g : Nat) (L : List Nat) : Prop where
  wrt : Wr wr w1.heap.size F (some ⟨g, 0, none⟩) L
  bel : Below w1.heap.size w1 wr
  only : Only F0 wr0 wr
  fresh : Fresh wr0 F0 F
theorem Wst.next {w1 wr0 wr w2 : World} {F0 F : List Nat} {g : Nat} {L : List Nat} (h : Wst w1 wr0 wr F0 F g L) (hb : Below wr.heap.size wr w2) : Wst w1 wr0 w2 F0 F g L :=
  ⟨h.wrt.below hb, h.bel.trans (hb.mono h.bel.size), h.only.trans (Only.of_below hb F) h.fresh, h.fresh⟩
theorem Wst.keep {w1 wr0 wr : World} {F0 F : List Nat} {g k : Nat} {L : List Nat} {t : TypeId} {cs : Array Value} (h : Wst w1 wr0 wr F0 F g L) (hk : Blk wr0 k t cs) (hn : k ∉ F0) : Blk wr k t cs := hk.of (h.only.block k hk.lt hn)
theorem Strs.below {w w' : World} {B n : Nat} {A : Option Addr} {l : List (List Nat)} (h : Strs w B A n l) (hb : Below B w w') : Strs w' B A n l := ⟨h.1.below hb, h.2⟩
end Go.Proofs.Ytiimanoloedbeaa

/-
  Put of heads. Conditions: the head reads as it is said to, and is small.
-/
namespace Go.Proofs.Ytiimanoloedbeaa
open Go.RowKit Go.BigFrame
set_option linter.unusedSimpArgs false
set_option linter.unusedVariables false
set_option maxRecDepth 100000
end Go.Proofs.Ytiimanoloedbeaa

/-
  Memory while heads are read; what is read of marks and links. Conditions: the reader lies where it is said to; its bytes are no more than a million.
-/
namespace Go.Proofs.Ytiimanoloedbeaa
open Go.RowKit Go.BigFrame
set_option linter.unusedSimpArgs false
set_option linter.unusedVariables false
set_option maxRecDepth 100000
theorem far_of {w w' : World} {F F' : List Nat} {k : Nat} (hk : k < w.heap.size) (hn : k ∉ F) (hf : Fresh w F F') : k ∉ F' := fun hm => by
  rcases hf k hm with h | h
  · exact hn h
  · omega
/-- a view whose marks are the call's own, out of the way of F -/
structure VA.N (v : VA) (w : World) (base : Nat) (F : List Nat) : Prop where
  own : Own w base (.slice v.M v.row.length v.cm) v.row.length v.row
  far : ∀ k ∈ rowOf (.slice v.M 0 0), k ∉ F
  ok : ∀ b ∈ v.row, b < 256
  par : ∀ b ∈ v.par, b < 256
  size : I64 v.size
  ps : I64 v.ps
  ov : I64 v.ov
  pl : v.par.length ≤ 1000000
structure SA.N (s : SA) (w : World) (base : Nat) (F : List Nat) : Prop where
  vw : s.vw.N w base F
  own : w.ownsRow base 9 1 (.slice s.C s.ch.length s.cc) s.ch.length (strs s.ch)
  far : ∀ k ∈ rowOf (.slice s.C 0 0), k ∉ F
  ok : ∀ c ∈ s.ch, ∀ b ∈ c, b < 256
  name : ∀ b ∈ s.name, b < 256
  num : I64 s.num
  nl : s.name.length ≤ 1000000
section
variable {w w' : World} {base base' : Nat} {F F' : List Nat}
theorem VA.N.of {v : VA} (h : v.N w base F) (hk : ∀ k ∈ rowOf (.slice v.M 0 0), w'.heap[k]? = w.heap[k]?) : v.N w' base F :=
  ⟨row_of h.own fun k hm => hk k (by rw [row_slice v.M 0 0 v.row.length v.cm]; exact hm), h.far, h.ok, h.par, h.size, h.ps, h.ov, h.pl⟩
theorem VA.N.under {v : VA} (h : v.N w base F) {k : Nat} (hk : k ∈ rowOf (.slice v.M 0 0)) : k < w.heap.size := row_under h.own k (by rw [row_slice v.M v.row.length v.cm 0 0]; exact hk)
theorem VA.N.read {v : VA} (h : v.N w base F) (o : Only F w w') (f : Fresh w F F') : v.N w' base F' := by
  have h1 := h.of (fun k hk => o.block k (h.under hk) (h.far k hk))
  exact ⟨h1.own, fun k hk => far_of (w' := w') (h.under hk) (h.far k hk) f, h1.ok, h1.par, h1.size, h1.ps, h1.ov, h1.pl⟩
theorem VA.N.below {v : VA} (h : v.N w base F) (hb : Below w.heap.size w w') : v.N w' base F := h.of fun k hk => hb.block k (h.under hk)
theorem VA.N.ty {v : VA} (h : v.N w base F) {k : Nat} (hk : k ∈ rowOf (.slice v.M 0 0)) : ∃ cs, Blk w k 5 cs := own_ty h.own (by rw [row_slice v.M v.row.length v.cm 0 0]; exact hk)
theorem SA.N.under {s : SA} (h : s.N w base F) {k : Nat} (hk : k ∈ rowOf (.slice s.C 0 0)) : k < w.heap.size := row_under h.own k (by rw [row_slice s.C s.ch.length s.cc 0 0]; exact hk)
theorem SA.N.ty {s : SA} (h : s.N w base F) {k : Nat} (hk : k ∈ rowOf (.slice s.C 0 0)) : ∃ cs, Blk w k 9 cs := own_ty h.own (by rw [row_slice s.C s.ch.length s.cc 0 0]; exact hk)
theorem SA.N.of {s : SA} (h : s.N w base F) (hv : ∀ k ∈ rowOf (.slice s.vw.M 0 0), w'.heap[k]? = w.heap[k]?) (hk : ∀ k ∈ rowOf (.slice s.C 0 0), w'.heap[k]? = w.heap[k]?) : s.N w' base F :=
  ⟨h.vw.of hv, row_of h.own fun k hm => hk k (by rw [row_slice s.C 0 0 s.ch.length s.cc]; exact hm), h.far, h.ok, h.name, h.num, h.nl⟩
theorem SA.N.read {s : SA} (h : s.N w base F) (o : Only F w w') (f : Fresh w F F') : s.N w' base F' := by
  have h1 := h.of (w' := w') (fun k hk => o.block k (h.vw.under hk) (h.vw.far k hk)) (fun k hk => o.block k (h.under hk) (h.far k hk))
  exact ⟨h.vw.read o f, h1.own, fun k hk => far_of (w' := w') (h.under hk) (h.far k hk) f, h1.ok, h1.name, h1.num, h1.nl⟩
theorem SA.N.below {s : SA} (h : s.N w base F) (hb : Below w.heap.size w w') : s.N w' base F := h.of (fun k hk => hb.block k (h.vw.under hk)) (fun k hk => hb.block k (h.under hk))
/-- blocks of bytes and of strings stay -/
def Stay (w w' : World) : Prop := ∀ k t cs, Blk w k t cs → t = 5 ∨ t = 9 → w'.heap[k]? = w.heap[k]?
theorem VA.N.stay {v : VA} (h : v.N w base F) (hs : Stay w w') : v.N w' base F := h.of fun k hk => by obtain ⟨cs, hb⟩ := h.ty hk; exact hs k _ cs hb (.inl rfl)
theorem SA.N.stay {s : SA} (h : s.N w base F) (hs : Stay w w') : s.N w' base F := h.of (fun k hk => by obtain ⟨cs, hb⟩ := h.vw.ty hk; exact hs k _ cs hb (.inl rfl)) (fun k hk => by obtain ⟨cs, hb⟩ := h.ty hk; exact hs k _ cs hb (.inr rfl))
theorem VA.N.weaken {v : VA} (h : v.N w base F) (hb : base' ≤ base) : v.N w base' F := ⟨h.own.weaken hb, h.far, h.ok, h.par, h.size, h.ps, h.ov, h.pl⟩
theorem SA.N.weaken {s : SA} (h : s.N w base F) (hb : base' ≤ base) : s.N w base' F := ⟨h.vw.weaken hb, row_weaken h.own hb, h.far, h.ok, h.name, h.num, h.nl⟩
theorem VA.N.R {v : VA} (h : v.N w base F) : v.R w := by
  obtain ⟨-, c1, c2, -⟩ := own_shape h.own
  unfold maxLen at c2
  exact ⟨h.own.bytes h.ok, h.par, h.size, h.ps, h.ov, by omega, by have := h.pl; omega, c1⟩
theorem SA.N.R {s : SA} (h : s.N w base F) : s.R w := by
  obtain ⟨-, c1, c2, -⟩ := own_shape h.own
  unfold maxLen at c2
  exact ⟨h.vw.R, ⟨Reads.of_own h.own, h.ok⟩, h.name, h.num, by omega, by have := h.nl; omega, c1⟩
theorem stay_only {g : Nat} {t : TypeId} {cs : Array Value} (hk : Blk w g t cs) (h1 : t ≠ 5) (h2 : t ≠ 9) (o : Only [g] w w') : Stay w w' := fun k t' cs' hb ht => o.block k hb.lt (fun hm => by
  simp at hm
  subst hm
  rcases ht with rfl | rfl
  · exact hb.ne_ hk (Ne.symm h1) rfl
  · exact hb.ne_ hk (Ne.symm h2) rfl)
/-- a reader, and two blocks of the call's own -/
structure Tb (base : Nat) (w wr : World) (F0 F : List Nat) (p : Option Addr) (s : RD) (t : TypeId) (g2 g3 : Nat) (Z2 cs3 : Array Value) : Prop where
  rd : Rd wr base F p s
  only : Only F0 w wr
  fresh : Fresh w F0 F
  k2 : Blk wr g2 t Z2
  n2 : g2 ∉ F
  k3 : Blk wr g3 t cs3
  n3 : g3 ∉ F
  b2 : w.heap.size ≤ g2
  b3 : w.heap.size ≤ g3
variable {wr w2 : World} {F0 : List Nat} {p : Option Addr} {s s' : RD} {t : TypeId} {g2 g3 : Nat} {Z2 cs3 cs4 : Array Value}
theorem Tb.read (h : Tb base w wr F0 F p s t g2 g3 Z2 cs3) (r : Rd w2 base F' p s') (o : Only F wr w2) (f : Fresh wr F F') : Tb base w w2 F0 F' p s' t g2 g3 Z2 cs3 :=
  ⟨r, h.only.trans o h.fresh, h.fresh.trans f h.only.size, h.k2.of (o.block _ h.k2.lt h.n2), far_of (w' := w2) h.k2.lt h.n2 f, h.k3.of (o.block _ h.k3.lt h.n3), far_of (w' := w2) h.k3.lt h.n3 f, h.b2, h.b3⟩
theorem Tb.next (h : Tb base w wr F0 F p s t g2 g3 Z2 cs3) (hb : Below wr.heap.size wr w2) : Tb base w w2 F0 F p s t g2 g3 Z2 cs3 := h.read (h.rd.below hb) (Only.of_below hb F) (Fresh.refl _ _)
theorem Tb.store (h : Tb base w wr F0 F p s t g2 g3 Z2 cs3) (hne : g2 ≠ g3) (k : Blk w2 g3 t cs4) (o : Only [g3] wr w2) (hs : w2.heap.size = wr.heap.size) : Tb base w w2 F0 F p s t g2 g3 Z2 cs4 := by
  refine ⟨h.rd.of (by omega) (fun k hk => o.block k (h.rd.under k hk) (fun hm => by simp at hm; subst hm; exact h.n3 hk)), ?_, h.fresh, h.k2.only o (by simpa using hne), h.n2, k, h.n3, h.b2, h.b3⟩
  have b3 := h.b3
  exact ⟨o.os.trans h.only.os, o.tape.trans h.only.tape, o.output.trans h.only.output, by have := h.only.size; omega, fun i hi hn => (o.block i (by have := h.only.size; omega) (by simp; omega)).trans (h.only.block i hi hn)⟩
end
end Go.Proofs.Ytiimanoloedbeaa

/-
  What is read of marks, links, children. Conditions: the reader lies where it is said to; its bytes are no more than a million.
-/
namespace Go.Proofs.Ytiimanoloedbeaa
open Go.RowKit Go.BigFrame
set_option linter.unusedSimpArgs false
set_option linter.unusedVariables false
set_option maxRecDepth 100000
theorem str_info : (Try.prog.info? 9).map (fun i => (i.zero, i.size, i.bytes)) = some (some (.string ⟨#[]⟩), 1, 16) := by kernel_rfl
/-- names of the call's own -/
def OwnS (w : World) (base : Nat) (v : Value) (l : List (List Nat)) : Prop := w.ownsRow base 9 1 v l.length (strs l)
theorem OwnS.nil (w : World) (base : Nat) : OwnS w base (.slice none 0 0) [] := World.ownsRow_nil w base _ 1
section
variable {P : Program} {ops : Array Oper} {rest : List Oper} {o : Oper} {a : Act} {w : World} {Q : Exit → Act → World → Prop}
/-- three cells of a block known whole are stored -/
theorem wpList_set3 (hgd : o.guard = none) (ty : TypeId) (x y : Operand) (ho : o.op = .store ty x y)
    (g i : Nat) (t : TypeId) (cs : Array Value) (u v z : Value) (hx : a.eval x = .pointer (some ⟨g, i, none⟩)) (hy : a.eval y = .agg #[u, v, z]) (hB : Blk w g t cs) (hs : i + 2 < cs.size) (hi : (P.info? ty).map (·.size) = some 3) (h1 : u.oneCell' = true) (h2 : v.oneCell' = true) (h3 : z.oneCell' = true)
    (h : ∀ w', Blk w' g t (((cs.setIfInBounds i u).setIfInBounds (i + 1) v).setIfInBounds (i + 2) z) → Only [g] w w' → w'.heap.size = w.heap.size → wpList P ops Q rest (a.put o.dst undef) w') : wpList P ops Q (o :: rest) a w := by
  refine wpList_store_mid hgd ty x y ho g i #[u, v, z] hx hy (hB.there (by simp; omega)) (by simpa using hi) (all_oneCell_toArray (cs := [u, v, z]) (by intro q hq; simp at hq; rcases hq with rfl | rfl | rfl <;> assumption)) (h _ ?_ ((Only.refl _ _).grown (by simpa using (setCells_grown g [u, v, z] i w).1) (fun k e => .inl (by injection e with e; simp [e]))) (by simpa using (setCells_grown g [u, v, z] i w).2))
  have := ((hB.set_ i u).set_ (i + 1) v).set_ (i + 2) z
  simpa [World.setCells] using this
end
end Go.Proofs.Ytiimanoloedbeaa

/-
  What is read of a snapshot. Conditions: the reader lies where it is said to; its bytes are no more than a million.
-/
namespace Go.Proofs.Ytiimanoloedbeaa
open Go.RowKit Go.BigFrame
set_option linter.unusedSimpArgs false
set_option linter.unusedVariables false
set_option maxRecDepth 100000
end Go.Proofs.Ytiimanoloedbeaa

/-
  What is read of a head that tells of no snapshot. Conditions: the reader lies where it is said to; its bytes are no more than a million.
-/
namespace Go.Proofs.Ytiimanoloedbeaa
open Go.RowKit Go.BigFrame
set_option linter.unusedSimpArgs false
set_option linter.unusedVariables false
set_option maxRecDepth 100000
theorem head_zero (w : World) : (zeroValue 36).run Try.prog w = .ok (.agg #[.int .i64 0, .int .i64 0, .int .i64 0, .int .i64 0, .slice none 0 0, .bool false, .bool false, .slice none 0 0, .string ⟨#[]⟩, .int .i64 0, .int .i64 0, .int .i64 0, .int .i64 0, .int .i64 0]) w := by kernel_rfl
theorem one14 (a b c d x y z : Int) (p q : Bool) (M C : Option Addr) (n cm m cc : Nat) (par : ByteArray) (e f : Int) : ∀ u ∈ [Value.int .i64 a, .int .i64 b, .int .i64 c, .int .i64 d, .slice C m cc, .bool p, .bool q, .slice M n cm, .string par, .int .i64 e, .int .i64 f, .int .i64 x, .int .i64 y, .int .i64 z], u.oneCell' = true := by
  intro u hu
  simp at hu
  rcases hu with rfl | rfl | rfl | rfl | rfl | rfl | rfl | rfl | rfl | rfl | rfl | rfl | rfl | rfl <;> rfl
end Go.Proofs.Ytiimanoloedbeaa

/-
  Take of heads, where takeHead reads as it is said to. Conditions: the bytes are no more than a million; what is read is small.
-/
namespace Go.Proofs.Ytiimanoloedbeaa
open Go.RowKit Go.BigFrame
set_option linter.unusedSimpArgs false
set_option linter.unusedVariables false
set_option maxRecDepth 100000
theorem results_cell_tmp9 {P : Program} {fn : Func} {p q : Tmp} {ty : TypeId} (h : fn.results = #[.cell p ty, .tmp q]) (tmps : Array Value) (w : World) (g : Nat) (t : TypeId) (cs : Array Value) (fr : Nat × Nat) (d : TypeDesc) (v : Value)
    (hp : tmps.getD p undef = .pointer (some ⟨g, 0, none⟩)) (hq : tmps.getD q undef = v) (hg : w.heap[g]? = some (.cells cs t fr))
    (hu : P.underlying ty = some d) (hd : (match d with | .struct _ | .array _ _ => true | _ => false) = true) (hi : (P.info? ty).map (·.size) = some cs.size) :
    (results fn tmps).run P w = .ok (.tuple #[.agg cs, v]) w := by
  have hp' : tmps[p]?.getD undef = .pointer (some ⟨g, 0, none⟩) := by simpa using hp
  have hq' : tmps[q]?.getD undef = v := by simpa using hq
  simp [results, h, hp', hq', asAddr, run_loadVar_row w g t ty cs fr d hg hu hd hi]
/-- a head of the call's own -/
structure HA.N (a : HA) (w : World) (base : Nat) (F : List Nat) : Prop where
  vw : a.vw.N w base F
  sn : ∀ x ∈ a.sn, x.N w base F
  own : w.ownsRow base 66 11 (.slice a.S a.sn.length a.cs') a.sn.length (a.sn.flatMap SA.cells)
  id : I64 a.id
  obj : I64 a.obj
  seq : I64 a.seq
  ow : I64 a.ow
  it : I64 a.it
  tg : I64 a.tg
theorem HA.N.R {a : HA} {w : World} {base : Nat} {F : List Nat} (h : a.N w base F) : a.R SA.cells w := by
  obtain ⟨-, c1, c2, -⟩ := own_shape h.own
  unfold maxLen at c2
  exact ⟨h.vw.R, Reads.of_own h.own, fun s hs => (h.sn s hs).R, h.id, h.obj, h.seq, h.ow, h.it, h.tg, by omega, c1⟩
theorem HA.N.below {a : HA} {w w' : World} {base : Nat} {F : List Nat} (h : a.N w base F) (hb : Below w.heap.size w w') : a.N w' base F :=
  ⟨h.vw.below hb, fun x hx => (h.sn x hx).below hb, own_below h.own hb, h.id, h.obj, h.seq, h.ow, h.it, h.tg⟩
theorem HA.N.weaken {a : HA} {w : World} {base base' : Nat} {F : List Nat} (h : a.N w base F) (hb : base' ≤ base) : a.N w base' F :=
  ⟨h.vw.weaken hb, fun x hx => (h.sn x hx).weaken hb, row_weaken h.own hb, h.id, h.obj, h.seq, h.ow, h.it, h.tg⟩
theorem HA.N.alone {a : HA} {w : World} {base : Nat} {F : List Nat} (h : a.N w base F) : a.N w base [] :=
  ⟨⟨h.vw.own, fun _ _ h => (by cases h), h.vw.ok, h.vw.par, h.vw.size, h.vw.ps, h.vw.ov, h.vw.pl⟩, fun x hx => by
    have q := h.sn x hx
    exact ⟨⟨q.vw.own, fun _ _ h => (by cases h), q.vw.ok, q.vw.par, q.vw.size, q.vw.ps, q.vw.ov, q.vw.pl⟩, q.own, fun _ _ h => (by cases h), q.ok, q.name, q.num, q.nl⟩, h.own, h.id, h.obj, h.seq, h.ow, h.it, h.tg⟩
/-- a store to one head's block turns none of it -/
theorem HA.N.stay {a : HA} {w w' : World} {base g : Nat} {F : List Nat} {cs : Array Value} (h : a.N w base F) (hk : Blk w g 36 cs) (o : Only [g] w w') : a.N w' base F := by
  have st := stay_only hk (by decide) (by decide) o
  refine ⟨h.vw.stay st, fun x hx => (h.sn x hx).stay st, row_of h.own fun k hm => o.block k (row_under h.own k hm) (fun hx => ?_), h.id, h.obj, h.seq, h.ow, h.it, h.tg⟩
  simp at hx
  subst hx
  obtain ⟨cs', hb⟩ := own_ty h.own hm
  exact hb.ne_ hk (by decide) rfl
theorem named_lt {c : List Nat} (h : namedB c = true) : ∀ b ∈ c, b < 256 := by
  intro b hb
  unfold namedB at h
  simp only [Bool.and_eq_true, List.all_eq_true] at h
  have := h.2 b hb
  rcases sign_cases b with ⟨-, q⟩ | ⟨q, -⟩
  · omega
  · rw [q] at this; cases this
end Go.Proofs.Ytiimanoloedbeaa

/-
  The law's fixed fact. No condition.
-/
namespace Go.Proofs.Ytiimanoloedbeaa
open Go.RowKit Go.BigFrame
set_option linter.unusedSimpArgs false
set_option linter.unusedVariables false
set_option maxRecDepth 100000
def a0 : HA := ⟨0, 16, 0, none, 0, [], ⟨0, false, false, [], none, 0, [], 0, 0⟩, -1, 0, 0⟩
theorem a0_R (w : World) : a0.R SA.cells w :=
  ⟨⟨⟨Reads.none_, fun b hb => (by cases hb)⟩, fun b hb => (by cases hb), by unfold I64; decide, by unfold I64; decide, by unfold I64; decide, by decide, by decide, by decide⟩, Reads.none_, fun s hs => (by cases hs), by unfold I64; decide, by unfold I64; decide, by unfold I64; decide, by unfold I64; decide, by unfold I64; decide, by unfold I64; decide, by decide, by decide⟩
theorem a0_Sm : a0.Sm := ⟨⟨by decide, by decide⟩, by decide, fun s hs => (by cases hs)⟩
theorem a0_B : a0.v.B = true := by decide
end Go.Proofs.Ytiimanoloedbeaa

/-
  How arguments that came in are opened: bytes, numbers, flags. No condition.
-/
namespace Go.Proofs.Ytiimanoloedbeaa
open Go.ChangeShapes Go.WideShapes Go.ChangeAt Go.RowKit
set_option maxRecDepth 100000
theorem own : ownKnob Try.prog.godebug = none := by kernel_rfl
theorem laidOut : laidOutB Try.prog = true := by kernel_rfl
theorem lt_of_cell {w : World} {a : Addr} {v : Value} (h : w.cell? a = some v) : a.block < w.heap.size := by
  rcases Nat.lt_or_ge a.block w.heap.size with h' | h'
  · exact h'
  · simp [World.cell?, Array.getElem?_eq_none h'] at h
theorem getD_map_toNat (zs : List Int) (i : Nat) (h : i < zs.length) (h0 : ∀ z ∈ zs, 0 ≤ z ∧ z ≤ 255) : ((((zs.map Int.toNat)[i]?).getD 0 : Nat) : Int) = zs.getD i 0 := by
  have := h0 _ (List.getElem_mem h)
  simp [h]
  omega
/-- the bytes of a row of cells that hold numbers of eight bits -/
theorem bytes_of_cells {W : World} {a : Addr} {len cap : Nat} {zs : List Int} (hl : len ≤ cap) (hz : zs.length = cap) (hcell : ∀ i, i < cap → W.cell? (a.add i) = some (.int .u8 (zs.getD i 0)))
    (hw : ∀ n ∈ zs, (Lit.int .u8 n).wf = true) : Bytes W W.heap.size (some a) len ((zs.map Int.toNat).take len) := by
  have hb : ∀ z ∈ zs, 0 ≤ z ∧ z ≤ 255 := fun z hz' => by
    have := hw z hz'
    simp [Lit.wf, IntKind.min, IntKind.max, IntKind.bits, IntKind.signed] at this
    omega
  refine ⟨⟨by simp [u8s]; omega, fun hn => ⟨a, rfl, ?_, fun j u hu => ?_⟩⟩, ?_⟩
  · have := lt_of_cell (hcell 0 (by omega))
    rwa [block_of_add] at this
  · have hj : j < len := by
      rcases Nat.lt_or_ge j len with h | h
      · exact h
      · rw [List.getElem?_eq_none (by simp [u8s]; omega)] at hu
        cases hu
    rw [hcell j (by omega), ← hu]
    have := getD_map_toNat zs j (by omega) hb
    simp [u8s, u8, hj, show j < zs.length by omega] at this ⊢
    omega
  · intro b hb'
    obtain ⟨z, hz', rfl⟩ := List.mem_map.1 (List.mem_of_mem_take hb')
    have := hb z hz'
    omega
theorem bytes_of {H : Type} {enc : TypeId × Value → H} {W : World} {n : Nat} {v : Value} {y : DataW H × List MemPlace} (h : DataW.trod enc Try.prog W 0 (fun _ => true) true n 23 [v] = some y) :
    ∃ (A : Option Addr) (m c : Nat) (l : List Nat), v = .slice A m c ∧ (m ≤ c ∧ c ≤ 9223372036854775807) ∧ Bytes W W.heap.size A m l := by
  rcases open_ints Try.underlying23 Try.underlying5 (by kernel_rfl) h with ⟨hcs, _⟩ | ⟨x, l, c, zs, hcs, _, hl, hm, hz, _, hcell, hwz⟩
  · exact ⟨none, 0, 0, [], by simpa using hcs, ⟨by omega, by omega⟩, Reads.none_, by simp⟩
  · simp only [List.cons.injEq, and_true] at hcs
    simp only [if_true] at hz
    unfold maxLen at hm
    exact ⟨_, _, _, _, hcs, ⟨by omega, by omega⟩, bytes_of_cells hl hz (fun i hi => hcell i (by omega)) hwz⟩
/-- flags as cells -/
def Flags (w : World) (B : Nat) (A : Option Addr) (n : Nat) (l : List Bool) : Prop := Reads w B 1 A n (l.map Value.bool)
theorem Flags.len {w : World} {B n : Nat} {A : Option Addr} {l : List Bool} (h : Flags w B A n l) : l.length = n := by have := h.1; rw [List.length_map] at this; omega
theorem Flags.below {w w' : World} {B n : Nat} {A : Option Addr} {l : List Bool} (h : Flags w B A n l) (hb : Below B w w') : Flags w' B A n l := Reads.below h hb
theorem Flags.at_ {w : World} {B n k : Nat} {A : Option Addr} {l : List Bool} (h : Flags w B A n l) (hk : k < n) : ∃ ad x, A = some ad ∧ l[k]? = some x ∧ w.cell? (ad.add k) = some (.bool x) := by
  obtain ⟨ad, u, e, hb, hx, hc⟩ := Reads.at_ h hk
  have hl : k < l.length := by have := h.len; omega
  refine ⟨ad, l[k], e, List.getElem?_eq_getElem hl, ?_⟩
  rw [hc, ← hx]
  simp [hl]
end Go.Proofs.Ytiimanoloedbeaa

/-
  How a head that came in is opened. No condition.
-/
namespace Go.Proofs.Ytiimanoloedbeaa
open Go.ChangeShapes Go.WideShapes Go.ChangeAt Go.RowKit Go.Deep
set_option maxRecDepth 100000
set_option linter.unusedSimpArgs false
set_option linter.unusedVariables false
theorem choose_lt_x {α : Type} [Inhabited α] {n : Nat} {P : Nat → α → Prop} (h : ∀ i, i < n → ∃ x, P i x) : ∃ f : Nat → α, ∀ i, i < n → P i (f i) :=
  ⟨fun i => if hi : i < n then (h i hi).choose else default, fun i hi => by simp only [hi, dif_pos]; exact (h i hi).choose_spec⟩
theorem str_form (s : ByteArray) : strOf (s.data.toList.map UInt8.toNat) = s := by
  have := strOf_data (s.data.toList.map UInt8.toNat)
  rw [List.map_map] at this
  have e : (UInt8.ofNat ∘ UInt8.toNat) = id := by funext x; simp
  rw [e, List.map_id] at this
  cases h : strOf (s.data.toList.map UInt8.toNat) with
  | mk d =>
    rw [h] at this
    cases s with
    | mk d' =>
      congr 1
      exact Array.toList_inj.1 this
theorem str_small (s : ByteArray) : ∀ b ∈ s.data.toList.map UInt8.toNat, b < 256 := by
  intro b hb
  obtain ⟨x, _, rfl⟩ := List.mem_map.1 hb
  exact x.toNat_lt
theorem str_len (s : ByteArray) : (s.data.toList.map UInt8.toNat).length = s.size := by rw [List.length_map, Array.length_toList]; rfl
theorem flat_len {α β : Type} {f : α → List β} {size : Nat} (hf : ∀ x, (f x).length = size) : ∀ l : List α, (l.flatMap f).length = l.length * size
  | [] => by simp
  | x :: l => by rw [List.flatMap_cons, List.length_append, hf, flat_len hf l, List.length_cons, Nat.add_mul]; omega
theorem strs_of {H : Type} {enc : TypeId × Value → H} {W : World} {n : Nat} {v : Value} {y : DataW H × List MemPlace} (h : DataW.trod enc Try.prog W 0 (fun _ => true) true n 64 [v] = some y) :
    ∃ (A : Option Addr) (c : Nat) (l : List (List Nat)), v = .slice A l.length c ∧ (l.length ≤ c ∧ c ≤ 9223372036854775807) ∧ Strs W W.heap.size A l.length l := by
  rcases open_strs Try.underlying64 Try.underlying9 (by kernel_rfl) h with ⟨hcs, _⟩ | ⟨a, len, cap, m, Sx, hcs, _, hl, hm, hmm, _, hcell⟩
  · exact ⟨none, 0, [], by simpa using hcs, ⟨by simp, by omega⟩, Reads.none_, fun c hc => by cases hc⟩
  · simp only [List.cons.injEq, and_true] at hcs
    simp only [if_true] at hmm
    unfold maxLen at hm
    refine ⟨some a, cap, (List.range len).map fun i => (Sx i).data.toList.map UInt8.toNat, by rw [hcs]; simp, ⟨by simpa using hl, by omega⟩, ⟨by simp [strs], fun hn => ⟨a, rfl, ?_, fun j u hu => ?_⟩⟩, fun c hc => ?_⟩
    · have := lt_of_cell (hcell 0 (by simp at hn; omega)).1
      rwa [block_of_add] at this
    · have hj : j < len := by
        rcases Nat.lt_or_ge j len with h | h
        · exact h
        · rw [List.getElem?_eq_none (by simp [strs]; omega)] at hu
          cases hu
      rw [(hcell j (by omega)).1, ← hu]
      simp [strs, hj, str_form]
    · obtain ⟨i, _, rfl⟩ := List.mem_map.1 hc
      exact str_small _
theorem take1 {cs : List Value} {j : Nat} (h : j < cs.length) : (cs.drop j).take 1 = [cs[j]'h] := by
  rw [List.drop_eq_getElem_cons h]
  rfl
theorem i64_of {n : Int} (w : (Lit.int .i64 n).wf = true) : I64 n := by
  simp [Lit.wf, IntKind.min, IntKind.max, IntKind.bits, IntKind.signed] at w
  exact ⟨by omega, by omega⟩
set_option maxRecDepth 100000 in
set_option maxHeartbeats 4000000 in
theorem marked_of {H : Type} {enc : TypeId × Value → H} {W : World} {n : Nat} {cs : List Value} {y : DataW H × List MemPlace} (h : DataW.trod enc Try.prog W 0 (fun _ => true) true n 25 cs = some y) (hl : cs.length = 3) :
    ∃ (p q : Bool) (M : Option Addr) (c : Nat) (l : List Nat), cs = [.bool p, .bool q, .slice M l.length c] ∧ (l.length ≤ c ∧ c ≤ 9223372036854775807) ∧ Bytes W W.heap.size M l.length l := by
  obtain ⟨ys, n', _, _, hlen, hyl, hf⟩ := DataW.trod_struct Try.underlying25 h
  have f0 : DataW.trod enc Try.prog W 0 (fun _ => true) true n' 4 (List.take (Try.prog.cellsOf 4) (List.drop 0 cs)) = ys[0]? := hf 0 _ rfl
  have f1 : DataW.trod enc Try.prog W 0 (fun _ => true) true n' 4 (List.take (Try.prog.cellsOf 4) (List.drop 1 cs)) = ys[1]? := hf 1 _ rfl
  have f2 : DataW.trod enc Try.prog W 0 (fun _ => true) true n' 23 (List.take (Try.prog.cellsOf 23) (List.drop 2 cs)) = ys[2]? := hf 2 _ rfl
  have c___uint8 : Try.prog.cellsOf 23 = 1 := by kernel_rfl
  rw [c___uint8] at f2
  have c_bool : Try.prog.cellsOf 4 = 1 := by kernel_rfl
  rw [c_bool] at f0 f1
  have g0 := f0.trans (List.getElem?_eq_getElem (by rw [hyl]; decide))
  have g1 := f1.trans (List.getElem?_eq_getElem (by rw [hyl]; decide))
  have g2 := f2.trans (List.getElem?_eq_getElem (by rw [hyl]; decide))
  rw [take1 (by omega)] at g0 g1 g2
  obtain ⟨p, e0, _⟩ := DataW.trod_bool Try.underlying4 g0
  obtain ⟨q, e1, _⟩ := DataW.trod_bool Try.underlying4 g1
  obtain ⟨M, m, c, l, e2, hc, hb⟩ := bytes_of g2
  have hl2 := hb.len
  subst hl2
  refine ⟨p, q, M, c, l, ?_, hc, hb⟩
  match cs, hl, e0, e1, e2 with
  | [a0, a1, a2], _, e0, e1, e2 =>
    simp at e0 e1 e2
    subst e0 e1 e2
    rfl
set_option maxRecDepth 100000 in
set_option maxHeartbeats 4000000 in
theorem link_of {H : Type} {enc : TypeId × Value → H} {W : World} {n : Nat} {cs : List Value} {y : DataW H × List MemPlace} (h : DataW.trod enc Try.prog W 0 (fun _ => true) true n 27 cs = some y) (hl : cs.length = 3) :
    ∃ (par : List Nat) (ps ov : Int), cs = [.string (strOf par), .int .i64 ps, .int .i64 ov] ∧ (∀ b ∈ par, b < 256) ∧ par.length ≤ 9223372036854775807 ∧ I64 ps ∧ I64 ov := by
  obtain ⟨ys, n', _, _, hlen, hyl, hf⟩ := DataW.trod_struct Try.underlying27 h
  have f0 : DataW.trod enc Try.prog W 0 (fun _ => true) true n' 9 (List.take (Try.prog.cellsOf 9) (List.drop 0 cs)) = ys[0]? := hf 0 _ rfl
  have f1 : DataW.trod enc Try.prog W 0 (fun _ => true) true n' 3 (List.take (Try.prog.cellsOf 3) (List.drop 1 cs)) = ys[1]? := hf 1 _ rfl
  have f2 : DataW.trod enc Try.prog W 0 (fun _ => true) true n' 3 (List.take (Try.prog.cellsOf 3) (List.drop 2 cs)) = ys[2]? := hf 2 _ rfl
  have c_int : Try.prog.cellsOf 3 = 1 := by kernel_rfl
  rw [c_int] at f1 f2
  have c_string : Try.prog.cellsOf 9 = 1 := by kernel_rfl
  rw [c_string] at f0
  have g0 := f0.trans (List.getElem?_eq_getElem (by rw [hyl]; decide))
  have g1 := f1.trans (List.getElem?_eq_getElem (by rw [hyl]; decide))
  have g2 := f2.trans (List.getElem?_eq_getElem (by rw [hyl]; decide))
  rw [take1 (by omega)] at g0 g1 g2
  obtain ⟨s, e0, _, w0⟩ := DataW.trod_string Try.underlying9 g0
  obtain ⟨n1, e1, _, w1⟩ := DataW.trod_int Try.underlying3 g1
  obtain ⟨n2, e2, _, w2⟩ := DataW.trod_int Try.underlying3 g2
  refine ⟨s.data.toList.map UInt8.toNat, n1, n2, ?_, str_small s, by rw [str_len]; unfold maxLen at w0; omega, i64_of w1, i64_of w2⟩
  rw [str_form]
  match cs, hl, e0, e1, e2 with
  | [a0, a1, a2], _, e0, e1, e2 =>
    simp at e0 e1 e2
    subst e0 e1 e2
    rfl
instance : Inhabited SA := ⟨⟨0, [], false, ⟨0, false, false, [], none, 0, [], 0, 0⟩, [], none, 0⟩⟩
set_option maxRecDepth 100000 in
set_option maxHeartbeats 4000000 in
theorem sa_of {H : Type} {enc : TypeId × Value → H} {W : World} {n : Nat} {cs : List Value} {y : DataW H × List MemPlace} (h : DataW.trod enc Try.prog W 0 (fun _ => true) true n 74 cs = some y) (hl : cs.length = 11) : ∃ s : SA, cs = s.dcells ∧ s.R W := by
  obtain ⟨ys, n', _, _, hlen, hyl, hf⟩ := DataW.trod_struct Try.underlying74 h
  have f0 : DataW.trod enc Try.prog W 0 (fun _ => true) true n' 3 (List.take (Try.prog.cellsOf 3) (List.drop 0 cs)) = ys[0]? := hf 0 _ rfl
  have f1 : DataW.trod enc Try.prog W 0 (fun _ => true) true n' 3 (List.take (Try.prog.cellsOf 3) (List.drop 1 cs)) = ys[1]? := hf 1 _ rfl
  have f2 : DataW.trod enc Try.prog W 0 (fun _ => true) true n' 9 (List.take (Try.prog.cellsOf 9) (List.drop 2 cs)) = ys[2]? := hf 2 _ rfl
  have f3 : DataW.trod enc Try.prog W 0 (fun _ => true) true n' 4 (List.take (Try.prog.cellsOf 4) (List.drop 3 cs)) = ys[3]? := hf 3 _ rfl
  have f4 : DataW.trod enc Try.prog W 0 (fun _ => true) true n' 25 (List.take (Try.prog.cellsOf 25) (List.drop 4 cs)) = ys[4]? := hf 4 _ rfl
  have f5 : DataW.trod enc Try.prog W 0 (fun _ => true) true n' 27 (List.take (Try.prog.cellsOf 27) (List.drop 7 cs)) = ys[5]? := hf 5 _ rfl
  have f6 : DataW.trod enc Try.prog W 0 (fun _ => true) true n' 64 (List.take (Try.prog.cellsOf 64) (List.drop 10 cs)) = ys[6]? := hf 6 _ rfl
  have c___string : Try.prog.cellsOf 64 = 1 := by kernel_rfl
  rw [c___string] at f6
  have c_bool : Try.prog.cellsOf 4 = 1 := by kernel_rfl
  rw [c_bool] at f3
  have c_int : Try.prog.cellsOf 3 = 1 := by kernel_rfl
  rw [c_int] at f0 f1
  have c_lamina_laminaref11_Link : Try.prog.cellsOf 27 = 3 := by kernel_rfl
  rw [c_lamina_laminaref11_Link] at f5
  have c_lamina_laminaref11_Marked : Try.prog.cellsOf 25 = 3 := by kernel_rfl
  rw [c_lamina_laminaref11_Marked] at f4
  have c_string : Try.prog.cellsOf 9 = 1 := by kernel_rfl
  rw [c_string] at f2
  have g0 := f0.trans (List.getElem?_eq_getElem (by rw [hyl]; decide))
  have g1 := f1.trans (List.getElem?_eq_getElem (by rw [hyl]; decide))
  have g2 := f2.trans (List.getElem?_eq_getElem (by rw [hyl]; decide))
  have g3 := f3.trans (List.getElem?_eq_getElem (by rw [hyl]; decide))
  have g4 := f4.trans (List.getElem?_eq_getElem (by rw [hyl]; decide))
  have g5 := f5.trans (List.getElem?_eq_getElem (by rw [hyl]; decide))
  have g6 := f6.trans (List.getElem?_eq_getElem (by rw [hyl]; decide))
  rw [take1 (by omega)] at g0 g1 g2 g3 g6
  obtain ⟨n0, e0, _, w0⟩ := DataW.trod_int Try.underlying3 g0
  obtain ⟨n1, e1, _, w1⟩ := DataW.trod_int Try.underlying3 g1
  obtain ⟨s2, e2, _, w2⟩ := DataW.trod_string Try.underlying9 g2
  obtain ⟨b3, e3, _⟩ := DataW.trod_bool Try.underlying4 g3
  obtain ⟨p, q, M, c, l, e4, hc4, hb4⟩ := marked_of g4 (by rw [List.length_take, List.length_drop, hl]; rfl)
  obtain ⟨par, ps, ov, e5, hp1, hp2, hp3, hp4⟩ := link_of g5 (by rw [List.length_take, List.length_drop, hl]; rfl)
  obtain ⟨C, cc, ch, e6, hc6, hb6⟩ := strs_of g6
  refine ⟨⟨n0, s2.data.toList.map UInt8.toNat, b3, ⟨n1, p, q, l, M, c, par, ps, ov⟩, ch, C, cc⟩, ?_, ⟨⟨hb4, hp1, i64_of w1, hp3, hp4, by simp only; omega, hp2, hc4.1⟩, hb6, str_small s2, i64_of w0, by simp only; omega, by simp only; rw [str_len]; unfold maxLen at w2; omega, hc6.1⟩⟩
  unfold SA.dcells
  simp only
  rw [str_form]
  match cs, hl, e0, e1, e2, e3, e4, e5, e6 with
  | [a0, a1, a2, a3, a4, a5, a6, a7, a8, a9, a10], _, e0, e1, e2, e3, e4, e5, e6 =>
    simp at e0 e1 e2 e3 e4 e5 e6
    obtain ⟨rfl, rfl, rfl⟩ := e4
    obtain ⟨rfl, rfl, rfl⟩ := e5
    subst e0 e1 e2 e3 e6
    rfl
set_option maxRecDepth 100000 in
theorem sas_of {H : Type} {enc : TypeId × Value → H} {W : World} {n : Nat} {v : Value} {y : DataW H × List MemPlace} (h : DataW.trod enc Try.prog W 0 (fun _ => true) true n 22 [v] = some y) :
    ∃ (A : Option Addr) (c : Nat) (l : List SA), v = .slice A l.length c ∧ (l.length ≤ c ∧ c ≤ 9223372036854775807) ∧ Reads W W.heap.size 11 A l.length (l.flatMap SA.dcells) ∧ ∀ s ∈ l, s.R W := by
  rcases open_slice Try.underlying22 h with ⟨hcs, _⟩ | ⟨a, len, cap, m, n', D, Pl, hcs, _, hl, hm, hmm, _, hr⟩
  · simp only [List.cons.injEq, and_true] at hcs
    subst hcs
    exact ⟨none, 0, [], rfl, ⟨by simp, by omega⟩, Reads.none_, fun s hs => by cases hs⟩
  · simp only [List.cons.injEq, and_true] at hcs
    subst hcs
    simp only [if_true] at hmm
    unfold maxLen at hm
    have c6 : Try.prog.cellsOf 74 = 11 := by kernel_rfl
    have hex : ∀ i, i < len → ∃ s : SA, (∀ j v, s.dcells[j]? = some v → W.cell? (a.add (i * 11 + j)) = some v) ∧ s.R W := by
      intro i hi
      obtain ⟨cs', hc, ht'⟩ := hr i (by omega)
      rw [c6] at hc
      obtain ⟨_, hcl, hat⟩ := World.cells?_some hc
      obtain ⟨s, rfl, hs⟩ := sa_of ht' (by omega)
      refine ⟨s, fun j v hj => ?_, hs⟩
      have hj6 : j < 11 := by have := (List.getElem?_eq_some_iff.1 hj).1; rwa [SA.dcells_len] at this
      have := hat j hj6
      rw [← Go.Deep.add_add, this, hj]
    obtain ⟨f, hf⟩ := choose_lt_x hex
    have hat : ∀ k, k < len → ((List.range len).map f)[k]? = some (f k) := fun k hk => by rw [List.getElem?_map, List.getElem?_range hk]; rfl
    have hfl : (((List.range len).map f).flatMap SA.dcells).length = len * 11 := by
      rw [flat_len SA.dcells_len]
      simp
    refine ⟨some a, cap, (List.range len).map f, by simp, ⟨by simpa using hl, by omega⟩, ⟨by simpa using hfl, fun hn => ⟨a, rfl, ?_, fun j u hu => ?_⟩⟩, fun s hs => ?_⟩
    · have := lt_of_cell ((hf 0 (by simpa using hn)).1 0 _ rfl)
      rwa [block_of_add] at this
    · have hj : j < len * 11 := by
        rcases Nat.lt_or_ge j (len * 11) with h | h
        · exact h
        · rw [List.getElem?_eq_none (by rw [hfl]; exact h)] at hu; cases hu
      have hk : j / 11 < len := by omega
      have h5 := flat_at SA.dcells 11 SA.dcells_len _ (j / 11) (j % 11) (f (j / 11)) (hat (j / 11) hk) (by omega)
      rw [show j / 11 * 11 + j % 11 = j by omega, hu] at h5
      have := (hf (j / 11) hk).1 (j % 11) u h5.symm
      rwa [show j / 11 * 11 + j % 11 = j by omega] at this
    · obtain ⟨i, hi, rfl⟩ := List.mem_map.1 hs
      exact (hf i (List.mem_range.1 hi)).2
set_option maxRecDepth 100000 in
set_option maxHeartbeats 4000000 in
theorem ha_of {H : Type} {enc : TypeId × Value → H} {W : World} {n : Nat} {cs : List Value} {y : DataW H × List MemPlace} (h : DataW.trod enc Try.prog W 0 (fun _ => true) true n 29 cs = some y) (hl : cs.length = 14) : ∃ a : HA, cs.toArray = a.cs ∧ a.R SA.dcells W := by
  obtain ⟨ys, n', _, _, hlen, hyl, hf⟩ := DataW.trod_struct Try.underlying29 h
  have f0 : DataW.trod enc Try.prog W 0 (fun _ => true) true n' 3 (List.take (Try.prog.cellsOf 3) (List.drop 0 cs)) = ys[0]? := hf 0 _ rfl
  have f1 : DataW.trod enc Try.prog W 0 (fun _ => true) true n' 3 (List.take (Try.prog.cellsOf 3) (List.drop 1 cs)) = ys[1]? := hf 1 _ rfl
  have f2 : DataW.trod enc Try.prog W 0 (fun _ => true) true n' 3 (List.take (Try.prog.cellsOf 3) (List.drop 2 cs)) = ys[2]? := hf 2 _ rfl
  have f3 : DataW.trod enc Try.prog W 0 (fun _ => true) true n' 3 (List.take (Try.prog.cellsOf 3) (List.drop 3 cs)) = ys[3]? := hf 3 _ rfl
  have f4 : DataW.trod enc Try.prog W 0 (fun _ => true) true n' 22 (List.take (Try.prog.cellsOf 22) (List.drop 4 cs)) = ys[4]? := hf 4 _ rfl
  have f5 : DataW.trod enc Try.prog W 0 (fun _ => true) true n' 25 (List.take (Try.prog.cellsOf 25) (List.drop 5 cs)) = ys[5]? := hf 5 _ rfl
  have f6 : DataW.trod enc Try.prog W 0 (fun _ => true) true n' 27 (List.take (Try.prog.cellsOf 27) (List.drop 8 cs)) = ys[6]? := hf 6 _ rfl
  have f7 : DataW.trod enc Try.prog W 0 (fun _ => true) true n' 3 (List.take (Try.prog.cellsOf 3) (List.drop 11 cs)) = ys[7]? := hf 7 _ rfl
  have f8 : DataW.trod enc Try.prog W 0 (fun _ => true) true n' 3 (List.take (Try.prog.cellsOf 3) (List.drop 12 cs)) = ys[8]? := hf 8 _ rfl
  have f9 : DataW.trod enc Try.prog W 0 (fun _ => true) true n' 3 (List.take (Try.prog.cellsOf 3) (List.drop 13 cs)) = ys[9]? := hf 9 _ rfl
  have c___laminaref11_Snap : Try.prog.cellsOf 22 = 1 := by kernel_rfl
  rw [c___laminaref11_Snap] at f4
  have c_int : Try.prog.cellsOf 3 = 1 := by kernel_rfl
  rw [c_int] at f0 f1 f2 f3 f7 f8 f9
  have c_lamina_laminaref11_Link : Try.prog.cellsOf 27 = 3 := by kernel_rfl
  rw [c_lamina_laminaref11_Link] at f6
  have c_lamina_laminaref11_Marked : Try.prog.cellsOf 25 = 3 := by kernel_rfl
  rw [c_lamina_laminaref11_Marked] at f5
  have g0 := f0.trans (List.getElem?_eq_getElem (by rw [hyl]; decide))
  have g1 := f1.trans (List.getElem?_eq_getElem (by rw [hyl]; decide))
  have g2 := f2.trans (List.getElem?_eq_getElem (by rw [hyl]; decide))
  have g3 := f3.trans (List.getElem?_eq_getElem (by rw [hyl]; decide))
  have g4 := f4.trans (List.getElem?_eq_getElem (by rw [hyl]; decide))
  have g5 := f5.trans (List.getElem?_eq_getElem (by rw [hyl]; decide))
  have g6 := f6.trans (List.getElem?_eq_getElem (by rw [hyl]; decide))
  have g7 := f7.trans (List.getElem?_eq_getElem (by rw [hyl]; decide))
  have g8 := f8.trans (List.getElem?_eq_getElem (by rw [hyl]; decide))
  have g9 := f9.trans (List.getElem?_eq_getElem (by rw [hyl]; decide))
  rw [take1 (by omega)] at g0 g1 g2 g3 g4 g7 g8 g9
  obtain ⟨n0, e0, _, w0⟩ := DataW.trod_int Try.underlying3 g0
  obtain ⟨n1, e1, _, w1⟩ := DataW.trod_int Try.underlying3 g1
  obtain ⟨n2, e2, _, w2⟩ := DataW.trod_int Try.underlying3 g2
  obtain ⟨n3, e3, _, w3⟩ := DataW.trod_int Try.underlying3 g3
  obtain ⟨S, sc, sn, e4, hc4, hr4, hs4⟩ := sas_of g4
  obtain ⟨p, q, M, c, l, e5, hc5, hb5⟩ := marked_of g5 (by rw [List.length_take, List.length_drop, hl]; rfl)
  obtain ⟨par, ps, ov, e6, hp1, hp2, hp3, hp4⟩ := link_of g6 (by rw [List.length_take, List.length_drop, hl]; rfl)
  obtain ⟨n7, e7, _, w7⟩ := DataW.trod_int Try.underlying3 g7
  obtain ⟨n8, e8, _, w8⟩ := DataW.trod_int Try.underlying3 g8
  obtain ⟨n9, e9, _, w9⟩ := DataW.trod_int Try.underlying3 g9
  refine ⟨⟨n0, n2, n3, S, sc, sn, ⟨n1, p, q, l, M, c, par, ps, ov⟩, n7, n8, n9⟩, ?_, ⟨⟨hb5, hp1, i64_of w1, hp3, hp4, by simp only; omega, hp2, hc5.1⟩, hr4, hs4, i64_of w0, i64_of w2, i64_of w3, i64_of w7, i64_of w8, i64_of w9, by simp only; omega, hc4.1⟩⟩
  match cs, hl, e0, e1, e2, e3, e4, e5, e6, e7, e8, e9 with
  | [a0, a1, a2, a3, a4, a5, a6, a7, a8, a9, a10, a11, a12, a13], _, e0, e1, e2, e3, e4, e5, e6, e7, e8, e9 =>
    simp at e0 e1 e2 e3 e4 e5 e6 e7 e8 e9
    obtain ⟨rfl, rfl, rfl⟩ := e5
    obtain ⟨rfl, rfl, rfl⟩ := e6
    subst e0 e1 e2 e3 e4 e7 e8 e9
    rfl
end Go.Proofs.Ytiimanoloedbeaa

/-
  More than is looked at? Conditions: the head reads as it is said to.
-/
namespace Go.Proofs.Ytiimanoloedbeaa
open Go.RowKit Go.BigFrame
set_option linter.unusedSimpArgs false
set_option linter.unusedVariables false
set_option maxRecDepth 100000
structure SA.Lm (s : SA) : Prop where
  ch : s.ch.length ≤ 50
  row : s.vw.row.length ≤ 500
  name : s.name.length ≤ 100
  par : s.vw.par.length ≤ 100
  cl : ∀ c ∈ s.ch, c.length ≤ 100
structure HA.Lm (a : HA) : Prop where
  cn : a.sn.length ≤ 20
  row : a.vw.row.length ≤ 500
  par : a.vw.par.length ≤ 100
  sn : ∀ s ∈ a.sn, s.Lm
def LargeTo (w : World) (a : HA) (e : Ending) (w' : World) : Prop := ∃ b, e = .returned (.bool b) ∧ Below w.heap.size w w' ∧ (b = false → a.Lm)
end Go.Proofs.Ytiimanoloedbeaa

/-
  A head as the program's, of its own memory. Conditions: the head reads as it is said to, and is as large as is looked at.
-/
namespace Go.Proofs.Ytiimanoloedbeaa
open Go.RowKit Go.BigFrame
set_option linter.unusedSimpArgs false
set_option linter.unusedVariables false
set_option maxRecDepth 100000
theorem L_two {P : Program} {ops : Array Oper} {Q : Exit → Act → World → Prop} {md : Region.Mode} {S : World → Prop} {L : Nat} {i j : Nat} {oi oj : Oper} {f : Nat} {l : Array Bool} {a : Act} {w : World} (hr : Region.ready md ops l = [i, j]) (hoi : ops[i]? = some oi) (hoj : ops[j]? = some oj) (hwi : Region.wanted oi (yielded ops a.tmps) = true) (hwj : Region.wanted oj (yielded ops a.tmps) = true)
    (hi : Oper.wp P oi a w (fun a' w' => S w' ∧ wpAnyL P md ops Q S L f (l.setIfInBounds i true) a' w') Q) (hj : Oper.wp P oj a w (fun a' w' => S w' ∧ wpAnyL P md ops Q S L f (l.setIfInBounds j true) a' w') Q) : wpAnyL P md ops Q S L (f + 1) l a w := by
  refine ⟨fun h0 => absurd (hr ▸ h0) (by simp), fun k hk => ?_⟩
  rw [hr] at hk
  simp only [List.mem_cons, List.not_mem_nil, or_false] at hk
  rcases hk with rfl | rfl
  · refine wpOp_step hoi (fun K hK => ?_)
    rw [if_pos hwi]
    exact Oper.wp_mono (fun a' w' h' => hK a' w' ⟨fun _ => h'.1, h'.2⟩) hi
  · refine wpOp_step hoj (fun K hK => ?_)
    rw [if_pos hwj]
    exact Oper.wp_mono (fun a' w' h' => hK a' w' ⟨fun _ => h'.1, h'.2⟩) hj
theorem wp_storeq {P : Program} {o : Oper} {a : Act} {w : World} {K : Act → World → Prop} {Q : Exit → Act → World → Prop} (ty : TypeId) (x y : Operand) (ho : o.op = .store ty x y)
    (g : Nat) (cs : Array Value) (vs : List Value) (hx : a.eval x = .pointer (some ⟨g, 0, none⟩)) (hy : a.eval y = .agg vs.toArray) (hB : Blk w g ty cs) (hs : vs.length = cs.size) (hi : (P.info? ty).map (·.size) = some vs.length) (h1 : ∀ v ∈ vs, v.oneCell' = true)
    (h : ∀ w', Blk w' g ty vs.toArray → Only [g] w w' → w'.heap.size = w.heap.size → K (a.put o.dst undef) w') : o.wp P a w K Q :=
  wp_store_mid ty x y ho g 0 vs.toArray hx hy (hB.there (by simp [hs])) (by simpa using hi) (all_oneCell_toArray h1)
    (h _ (by simpa using hB.over vs hs) ((Only.refl _ _).grown (by simpa using (setCells_grown g vs 0 w).1) (fun k e => .inl (by injection e with e; simp [e]))) (by simpa using (setCells_grown g vs 0 w).2))
/-- the head so far: the document's snapshots ahead of k are the program's -/
structure Pg (w : World) (a : HA) (g3 k : Nat) (q : HA) (wr : World) : Prop where
  res : Blk wr (w.heap.size + 1) 36 #[.int .i64 0, .int .i64 0, .int .i64 0, .int .i64 0, .slice none 0 0, .bool false, .bool false, .slice none 0 0, .string ⟨#[]⟩, .int .i64 0, .int .i64 0, .int .i64 0, .int .i64 0, .int .i64 0]
  blk : Blk wr g3 36 q.cs
  src : Blk wr w.heap.size 29 #[.int .i64 a.id, .int .i64 a.vw.size, .int .i64 a.obj, .int .i64 a.seq, .slice a.S a.sn.length a.cs', .bool a.vw.on, .bool a.vw.good, .slice a.vw.M a.vw.row.length a.vw.cm, .string (strOf a.vw.par), .int .i64 a.vw.ps, .int .i64 a.vw.ov, .int .i64 a.ow, .int .i64 a.it, .int .i64 a.tg]
  n : q.N wr w.heap.size []
  bel : Below w.heap.size w wr
  far : w.heap.size + 2 ≤ g3
  eq : q.id = a.id ∧ q.obj = a.obj ∧ q.seq = a.seq ∧ q.ow = a.ow ∧ q.it = a.it ∧ q.tg = a.tg ∧ q.vw.size = a.vw.size ∧ q.vw.mk' = a.vw.mk' ∧ q.vw.lk = a.vw.lk
  vs : q.sn.map SA.v = (a.sn.take k).map SA.v
/-- ahead of the head's making -/
structure Pre (w : World) (a : HA) (w0 : World) : Prop where
  res : Blk w0 (w.heap.size + 1) 36 #[.int .i64 0, .int .i64 0, .int .i64 0, .int .i64 0, .slice none 0 0, .bool false, .bool false, .slice none 0 0, .string ⟨#[]⟩, .int .i64 0, .int .i64 0, .int .i64 0, .int .i64 0, .int .i64 0]
  src : Blk w0 w.heap.size 29 #[.int .i64 a.id, .int .i64 a.vw.size, .int .i64 a.obj, .int .i64 a.seq, .slice a.S a.sn.length a.cs', .bool a.vw.on, .bool a.vw.good, .slice a.vw.M a.vw.row.length a.vw.cm, .string (strOf a.vw.par), .int .i64 a.vw.ps, .int .i64 a.vw.ov, .int .i64 a.ow, .int .i64 a.it, .int .i64 a.tg]
  bel : Below w.heap.size w w0
  sz : w0.heap.size = w.heap.size + 2
  R : a.R SA.dcells w
  Lm : a.Lm
theorem pg_start {w w0 W : World} {a : HA} {g3 c : Nat} {D : Option Addr} (h : Pre w a w0) (hb : Below w0.heap.size w0 W) (hk : Blk W g3 36 #[.int .i64 a.id, .int .i64 a.vw.size, .int .i64 a.obj, .int .i64 a.seq, .slice none 0 0, .bool a.vw.on, .bool a.vw.good, .slice D a.vw.row.length c, .string (strOf a.vw.par), .int .i64 a.vw.ps, .int .i64 a.vw.ov, .int .i64 a.ow, .int .i64 a.it, .int .i64 a.tg]) (hd : Own W w.heap.size (.slice D a.vw.row.length c) a.vw.row.length a.vw.row) (hf : w0.heap.size ≤ g3) :
    Pg w a g3 0 ⟨a.id, a.obj, a.seq, none, 0, [], ⟨a.vw.size, a.vw.on, a.vw.good, a.vw.row, D, c, a.vw.par, a.vw.ps, a.vw.ov⟩, a.ow, a.it, a.tg⟩ W := by
  have R := h.R
  have hl := h.Lm.par
  exact ⟨h.res.of (hb.block _ h.res.lt), hk, h.src.of (hb.block _ h.src.lt), ⟨⟨hd, fun _ _ hm => (by cases hm), R.vw.row.2, R.vw.par, R.vw.size, R.vw.ps, R.vw.ov, by simp only; omega⟩, fun x hx => (by cases hx), World.ownsRow_nil _ _ _ 11, R.id, R.obj, R.seq, R.ow, R.it, R.tg⟩, h.bel.trans (hb.mono h.bel.size), by have := h.sz; omega, ⟨rfl, rfl, rfl, rfl, rfl, rfl, rfl, rfl, rfl⟩, rfl⟩
theorem Pg.next {w wr w2 : World} {a q : HA} {g3 k : Nat} (h : Pg w a g3 k q wr) (hb : Below wr.heap.size wr w2) : Pg w a g3 k q w2 :=
  ⟨h.res.of (hb.block _ h.res.lt), h.blk.of (hb.block _ h.blk.lt), h.src.of (hb.block _ h.src.lt), h.n.below hb, h.bel.trans (hb.mono h.bel.size), h.far, h.eq, h.vs⟩
theorem pg_more {w W28 W29 W31 : World} {a q : HA} {g3 k : Nat} {s : SA} {D C A5 : Option Addr} {c cc c5 : Nat} (h : Pg w a g3 k q W28) (hD : Own W28 w.heap.size (.slice D s.vw.row.length c) s.vw.row.length s.vw.row) (hC : OwnS W28 w.heap.size (.slice C s.ch.length cc) s.ch) (hs : a.sn[k]? = some s) (hR : s.R w) (hL : s.Lm)
    (h29 : W29.ownsRow w.heap.size 66 11 (.slice A5 (q.sn.length + 1) c5) (q.sn.length + 1) (q.sn.flatMap SA.cells ++ [(⟨s.num, s.name, s.prot, ⟨s.vw.size, s.vw.on, s.vw.good, s.vw.row, D, c, s.vw.par, s.vw.ps, s.vw.ov⟩, s.ch, C, cc⟩ : SA)].flatMap SA.cells))
    (hgr : W28.grownBy W29 (Value.slice q.S q.sn.length q.cs').ownBlock) (K31 : Blk W31 g3 36 #[.int .i64 q.id, .int .i64 q.vw.size, .int .i64 q.obj, .int .i64 q.seq, .slice A5 (q.sn.length + 1) c5, .bool q.vw.on, .bool q.vw.good, .slice q.vw.M q.vw.row.length q.vw.cm, .string (strOf q.vw.par), .int .i64 q.vw.ps, .int .i64 q.vw.ov, .int .i64 q.ow, .int .i64 q.it, .int .i64 q.tg]) (o31 : Only [g3] W29 W31) :
    Pg w a g3 (k + 1) ⟨q.id, q.obj, q.seq, A5, c5, q.sn ++ [⟨s.num, s.name, s.prot, ⟨s.vw.size, s.vw.on, s.vw.good, s.vw.row, D, c, s.vw.par, s.vw.ps, s.vw.ov⟩, s.ch, C, cc⟩], q.vw, q.ow, q.it, q.tg⟩ W31 := by
  have hk1 : ∀ x t cs, Blk W28 x t cs → t ≠ 66 → x ≠ g3 → W31.heap[x]? = W28.heap[x]? := fun x t cs hb ht hx => by
    have e1 : W29.heap[x]? = W28.heap[x]? := hgr.block x hb.lt (fun e => own_blk_ne h.n.own hb (Ne.symm ht) e.symm)
    exact (o31.block x (Nat.lt_of_lt_of_le hb.lt hgr.size) (by simpa using hx)).trans e1
  have hg3 : ∀ x t cs, Blk W28 x t cs → t ≠ 36 → x ≠ g3 := fun x t cs hb ht e => by subst e; exact hb.ne_ h.blk ht rfl
  have hst : Stay W28 W31 := fun x t cs hb ht => hk1 x t cs hb (by rcases ht with rfl | rfl <;> decide) (hg3 x t cs hb (by rcases ht with rfl | rfl <;> decide))
  have hfar := h.far
  have hpl := hL.par
  have hnl := hL.name
  refine ⟨h.res.of (hk1 _ _ _ h.res (by decide) (by omega)), by simp only [HA.cs, List.length_append, List.length_singleton]; exact K31, h.src.of (hk1 _ _ _ h.src (by decide) (by omega)), ⟨h.n.vw.stay hst, ?_, ?_, h.n.id, h.n.obj, h.n.seq, h.n.ow, h.n.it, h.n.tg⟩, ?_, h.far, h.eq, ?_⟩
  · intro x hx
    rcases List.mem_append.1 hx with hx | hx
    · exact (h.n.sn x hx).stay hst
    · simp only [List.mem_singleton] at hx
      subst hx
      exact ⟨⟨row_of hD fun j hj => by obtain ⟨cs, hb⟩ := own_ty hD hj; exact hst j _ cs hb (.inl rfl), fun _ _ hm => (by cases hm), hR.vw.row.2, hR.vw.par, hR.vw.size, hR.vw.ps, hR.vw.ov, by simp only; omega⟩, row_of hC fun j hj => by obtain ⟨cs, hb⟩ := own_ty hC hj; exact hst j _ cs hb (.inr rfl), fun _ _ hm => (by cases hm), hR.ch.2, hR.name, hR.num, by simp only; omega⟩
  · have h9 : W31.ownsRow w.heap.size 66 11 (.slice A5 (q.sn.length + 1) c5) (q.sn.length + 1) (q.sn.flatMap SA.cells ++ [(⟨s.num, s.name, s.prot, ⟨s.vw.size, s.vw.on, s.vw.good, s.vw.row, D, c, s.vw.par, s.vw.ps, s.vw.ov⟩, s.ch, C, cc⟩ : SA)].flatMap SA.cells) := row_of h29 fun j hj => o31.block j (row_under h29 j hj) (fun hm => by
      simp at hm
      subst hm
      obtain ⟨cs, hb⟩ := own_ty h29 hj
      have hb3 : Blk W29 j 36 q.cs := h.blk.grown hgr (fun e => own_blk_ne h.n.own h.blk (by decide) e.symm)
      exact hb.ne_ hb3 (by decide) rfl)
    rw [← List.flatMap_append] at h9
    simpa using h9
  · exact (h.bel.grown hgr h.bel.size (fun j hj => (World.ownsRow.lt h.n.own j hj).1)).trans (o31.below (fun x hx => by simp at hx; omega) (Nat.le_trans h.bel.size hgr.size))
  · rw [List.map_append, h.vs, List.take_add_one, hs]
    simp only [List.map_append, Option.toList]
    rfl
theorem snap_info : (Try.prog.info? 66).map (fun i => (i.zero, i.size, i.bytes)) = some (some (.agg #[.int .i64 0, .int .i64 0, .string ⟨#[]⟩, .bool false, .bool false, .bool false, .slice none 0 0, .string ⟨#[]⟩, .int .i64 0, .int .i64 0, .slice none 0 0]), 11, 120) := by kernel_rfl
theorem own_grow_ne {W W' : World} {base base2 size size2 n n2 : Nat} {e e2 : TypeId} {v v2 : Value} {xs xs2 : List Value} (h : W.ownsRow base e size v n xs) (h2 : W.ownsRow base2 e2 size2 v2 n2 xs2) (hne : e ≠ e2) (g : W.grownBy W' v2.ownBlock) : W'.ownsRow base e size v n xs :=
  row_of h fun k hk => g.block k (row_under h k hk) (fun eq => by
    obtain ⟨cs, hb⟩ := own_ty h hk
    obtain ⟨cs2, hb2⟩ := own_ty h2 (mem_rowOf.2 eq.symm)
    exact hb.ne_ hb2 hne rfl)
theorem OwnS.new (w : World) (base : Nat) (hb : base ≤ w.heap.size) : OwnS (w.alloc (.cells #[] 9)) base (.slice (some ⟨w.heap.size, 0, none⟩) 0 0) [] := by
  have := World.ownsRow_made (base := base) (e := 9) (size := 1) w #[] 0 hb (by simp [maxLen]) (by simp)
  simpa [OwnS, strs] using this
def ProgTo (w : World) (a : HA) (e : Ending) (w' : World) : Prop := ∃ q : HA, e = .returned (.agg q.cs) ∧ q.v = a.v ∧ q.N w' w.heap.size [] ∧ Below w.heap.size w w'
end Go.Proofs.Ytiimanoloedbeaa

/-
  Are two views the same, are two rows of names? Conditions: they read as they are said to.
-/
namespace Go.Proofs.Ytiimanoloedbeaa
open Go.RowKit Go.BigFrame
set_option linter.unusedSimpArgs false
set_option linter.unusedVariables false
set_option maxRecDepth 100000
def SameV (a b : VA) : Prop := a.size = b.size ∧ a.mk' = b.mk' ∧ a.lk = b.lk
def SameTo (w : World) (p : Prop) (e : Ending) (w' : World) : Prop := ∃ r, e = .returned (.bool r) ∧ (r = true ↔ p) ∧ Below w.heap.size w w'
set_option maxHeartbeats 4000000 in
theorem vsame_any (a b : VA) (w : World) (ha : a.R w) (hb : b.R w) : Calls Try.prog 59 #[.agg a.cs, .agg b.cs] w (SameTo w (SameV a b)) := by
  have B0 := Lib.hid ((below_alloc w (.cells a.cs 82)).alloc (by simp) (.cells b.cs 82))
  have h1 := ha.row.since B0.out
  have h2 := hb.row.since B0.out
  have HE := Lib.hid (equal_any a.M b.M _ _ a.cm b.cm _ _ a.row b.row _ h1 h2)
  have hlk := run_link_eql (strOf a.par) (strOf b.par) a.ps a.ov b.ps b.ov
  obtain ⟨r5, hr5⟩ : ∃ r, r = (((strOf a.par).toList == (strOf b.par).toList) && decide (a.ps = b.ps) && decide (a.ov = b.ov)) := ⟨_, rfl⟩
  have H5 : Hid (r5 = true ↔ a.lk = b.lk) := Lib.hid (by
    rw [hr5, str_eq ha.par hb.par]
    unfold VA.lk
    simp only [Bool.and_eq_true, decide_eq_true_eq, LkV.mk.injEq, and_assoc])
  simp only [← hr5] at hlk
  clear hr5 h1 h2 ha hb
  unfold VA.cs at *
  by_cases c1 : a.size = b.size
  · have d1 : (a.size == b.size) = true := by simpa using c1
    by_cases c2 : a.on = b.on
    · have d2 : (a.on == b.on) = true := by simpa using c2
      by_cases c3 : a.good = b.good
      · have d3 : (a.good == b.good) = true := by simpa using c3
        have C := Lib.hid (And.intro c1 (And.intro c2 c3))
        clear c1 c2 c3
        go_enter Try.func59, Try.ntmps59
        go_wp2_with fail
        refine HE.out.mono ?_
        rintro e w1 ⟨rfl, rfl⟩
        by_cases c4 : a.row = b.row
        · have d4 : (a.row == b.row) = true := by simpa using c4
          replace c4 := Lib.hid c4
          rw [d4]
          cases r5 with
          | true =>
            go_wp2
            go_ret
            exact ⟨true, rfl, ⟨fun _ => ⟨C.out.1, by unfold VA.mk'; rw [C.out.2.1, C.out.2.2, c4.out], H5.out.1 (by trivial)⟩, fun _ => rfl⟩, B0.out⟩
          | false =>
            go_wp2
            go_ret
            exact ⟨false, rfl, ⟨fun h => (by cases h), fun h => (by have := H5.out.2 h.2.2; first | exact this | exact this.elim | cases this)⟩, B0.out⟩
        · have d4 : (a.row == b.row) = false := by simpa using c4
          replace c4 := Lib.hid c4
          rw [d4]
          go_wp2
          go_ret
          exact ⟨false, rfl, ⟨fun h => (by cases h), fun h => absurd (congrArg MkV.row h.2.1) c4.out⟩, B0.out⟩
      · have d3 : (a.good == b.good) = false := by simpa using c3
        replace c3 := Lib.hid c3
        clear c1 c2
        go_enter Try.func59, Try.ntmps59
        go_wp2
        go_ret
        exact ⟨false, rfl, ⟨fun h => (by cases h), fun h => absurd (congrArg MkV.good h.2.1) c3.out⟩, B0.out⟩
    · have d2 : (a.on == b.on) = false := by simpa using c2
      replace c2 := Lib.hid c2
      clear c1
      go_enter Try.func59, Try.ntmps59
      go_wp2
      go_ret
      exact ⟨false, rfl, ⟨fun h => (by cases h), fun h => absurd (congrArg MkV.on h.2.1) c2.out⟩, B0.out⟩
  · have d1 : (a.size == b.size) = false := by simpa using c1
    replace c1 := Lib.hid c1
    go_enter Try.func59, Try.ntmps59
    go_wp2
    go_ret
    exact ⟨false, rfl, ⟨fun h => (by cases h), fun h => absurd h.1 c1.out⟩, B0.out⟩
set_option maxHeartbeats 4000000 in
theorem eqstrs_any (A1 A2 : Option Addr) (c1 c2 : Nat) (l1 l2 : List (List Nat)) (w : World) (h1 : Strs w w.heap.size A1 l1.length l1) (h2 : Strs w w.heap.size A2 l2.length l2) (hl : l1.length ≤ 1000000) (hl2 : l2.length ≤ 1000000) :
    Calls Try.prog 103 #[.slice A1 l1.length c1, .slice A2 l2.length c2] w (SameTo w (l1 = l2)) := by
  by_cases hne : l1.length = l2.length
  · obtain ⟨n, hn⟩ : ∃ n, l1.length = n := ⟨_, rfl⟩
    rw [hn] at h1 hl ⊢
    rw [hn] at hne
    rw [← hne] at h2 ⊢
    have H1 := Lib.hid h1
    have H2 := Lib.hid h2
    have HN := Lib.hid (And.intro hn hne)
    clear h1 h2 hl2 hn hne
    go_enter Try.func103, Try.ntmps103
    go_wp2
    go_loopw [13] (fun i wr => ∃ k : Nat, k ≤ n ∧ i = .int .i64 k ∧ Below w.heap.size w wr ∧ ∀ j, j < k → l1[j]? = l2[j]?) (fun i _ => n - (intOf i).toNat)
    case atStart => exact ⟨0, by omega, rfl, Below.refl _ _, fun j h => by omega⟩
    case round =>
      obtain ⟨k, hk, rfl, hb, hall⟩ := hrel
      have HA := Lib.hid hall
      have HB := Lib.hid hb
      have hwk : IntKind.i64.wrap ((k : Int) + 1) = (k : Int) + 1 := by rw [IntKind.wrap_i64]; omega
      clear hall hb
      by_cases hlt : k < n
      · obtain ⟨ad, x, hA1, hx, hx2, hc⟩ := (H1.out.since HB.out).at_ hlt
        obtain ⟨ad', x', hA2, hx', hx2', hc'⟩ := (H2.out.since HB.out).at_ hlt
        have hk0 : (0 : Int) ≤ (k : Int) := by omega
        have hk1 : (k : Int) < (n : Int) := by omega
        have HX := Lib.hid (And.intro hx hx')
        have he := str_eq hx2 hx2'
        subst hA1 hA2
        clear hx hx' hx2 hx2'
        go_wp2_with fail
        by_cases hxx : x = x'
        · have hd : ((strOf x).toList == (strOf x').toList) = true := by rw [he]; exact decide_eq_true hxx
          clear he
          go_quiet (fail)
          go_wp2
          exact ⟨⟨k + 1, by omega, by go_num, below_drewN HB.out _, fun j hj => by
            rcases Nat.lt_succ_iff_lt_or_eq.1 hj with h | rfl
            · exact HA.out j h
            · rw [HX.out.1, HX.out.2, hxx]⟩, by simp only [intOf]; omega⟩
        · have hd : ((strOf x).toList == (strOf x').toList) = false := by rw [he]; exact decide_eq_false hxx
          clear he
          go_quiet (fail)
          go_wp2
          go_ret
          exact ⟨false, rfl, ⟨fun h => (by cases h), fun h => absurd (by rw [h] at HX; have := HX.out; rw [this.1] at this; exact Option.some.inj this.2) hxx⟩, below_drewN HB.out _⟩
      · obtain rfl : k = n := by omega
        go_wp2
        go_ret
        exact ⟨true, rfl, ⟨fun _ => List.ext_getElem? fun j => by
          by_cases hj : j < k
          · exact HA.out j hj
          · rw [List.getElem?_eq_none (by have := HN.out.1; omega), List.getElem?_eq_none (by have := HN.out.2; omega)], fun _ => rfl⟩, HB.out⟩
  · have hd : ((l1.length : Int) == (l2.length : Int)) = false := by rw [beq_eq_false_iff_ne]; omega
    have HN := Lib.hid hne
    clear hne
    go_enter Try.func103, Try.ntmps103
    go_wp2
    go_ret
    exact ⟨false, rfl, ⟨fun h => (by cases h), fun h => absurd (congrArg List.length h) HN.out⟩, Below.refl _ _⟩
end Go.Proofs.Ytiimanoloedbeaa

/-
  Are two snapshots the same, are two heads? Conditions: they read as they are said to.
-/
namespace Go.Proofs.Ytiimanoloedbeaa
open Go.RowKit Go.BigFrame
set_option linter.unusedSimpArgs false
set_option linter.unusedVariables false
set_option maxRecDepth 100000
theorem sv_iff (s t : SA) : s.v = t.v ↔ s.num = t.num ∧ s.name = t.name ∧ s.prot = t.prot ∧ SameV s.vw t.vw ∧ s.ch = t.ch := by
  unfold SA.v SameV
  rw [SnV.mk.injEq]
  constructor
  · rintro ⟨a, b, c, d, e, f, g⟩; exact ⟨a, c, d, ⟨b, e, f⟩, g⟩
  · rintro ⟨a, c, d, ⟨b, e, f⟩, g⟩; exact ⟨a, b, c, d, e, f, g⟩
theorem sv_yes {s t : SA} (a : s.num = t.num) (b : s.name = t.name) (c : s.prot = t.prot) (d : SameV s.vw t.vw) (e : s.ch = t.ch) : s.v = t.v := (sv_iff s t).2 ⟨a, b, c, d, e⟩
theorem sv_no {s t : SA} (h : s.num ≠ t.num ∨ s.name ≠ t.name ∨ s.prot ≠ t.prot ∨ ¬ SameV s.vw t.vw ∨ s.ch ≠ t.ch) : (false = true ↔ s.v = t.v) := by
  refine ⟨fun h => (by cases h), fun e => ?_⟩
  obtain ⟨a, b, c, d, f⟩ := (sv_iff s t).1 e
  rcases h with h | h | h | h | h
  · exact absurd a h
  · exact absurd b h
  · exact absurd c h
  · exact absurd d h
  · exact absurd f h
theorem b_iff {p : Prop} [Decidable p] {r : Bool} (h : decide p = r) : r = true ↔ p := by subst h; simp
set_option maxHeartbeats 16000000 in
theorem samesnap_any (s t : SA) (w : World) (hs : s.R w) (ht : t.R w) (hl1 : s.ch.length ≤ 1000000) (hl2 : t.ch.length ≤ 1000000) : Calls Try.prog 61 #[.agg s.cells.toArray, .agg t.cells.toArray] w (SameTo w (s.v = t.v)) := by
  obtain ⟨w8, hw8⟩ : ∃ w8, w8 = (w.alloc (.cells s.cells.toArray 66)).alloc (.cells t.cells.toArray 66) := ⟨_, rfl⟩
  have hb8 : Below w.heap.size w w8 := by rw [hw8]; exact (below_alloc w _).alloc (by simp) _
  have HB8 := Lib.hid hb8
  have HB1 : Hid (∀ W, Below w8.heap.size w8 W → Blk W w.heap.size 66 #[.int .i64 s.num, .int .i64 s.vw.size, .string (strOf s.name), .bool s.vw.on, .bool s.vw.good, .bool s.prot, .slice s.vw.M s.vw.row.length s.vw.cm, .string (strOf s.vw.par), .int .i64 s.vw.ps, .int .i64 s.vw.ov, .slice s.C s.ch.length s.cc]) := Lib.hid fun W hW => by
    have k8 : Blk w8 w.heap.size 66 s.cells.toArray := by rw [hw8]; exact (Blk.new w _ _).alloc _
    exact k8.of (hW.block _ k8.lt)
  have HB2 : Hid (∀ W, Below w8.heap.size w8 W → Blk W (w.heap.size + 1) 66 #[.int .i64 t.num, .int .i64 t.vw.size, .string (strOf t.name), .bool t.vw.on, .bool t.vw.good, .bool t.prot, .slice t.vw.M t.vw.row.length t.vw.cm, .string (strOf t.vw.par), .int .i64 t.vw.ps, .int .i64 t.vw.ov, .slice t.C t.ch.length t.cc]) := Lib.hid fun W hW => by
    have k8 : Blk w8 (w.heap.size + 1) 66 t.cells.toArray := by rw [hw8]; exact blk_two w _ _ _
    exact k8.of (hW.block _ k8.lt)
  have HV1 : Hid (∀ W, Below w8.heap.size w8 W → Calls Try.prog 87 #[.agg #[.int .i64 s.num, .int .i64 s.vw.size, .string (strOf s.name), .bool s.vw.on, .bool s.vw.good, .bool s.prot, .slice s.vw.M s.vw.row.length s.vw.cm, .string (strOf s.vw.par), .int .i64 s.vw.ps, .int .i64 s.vw.ov, .slice s.C s.ch.length s.cc]] W fun e w' => e = .returned (.agg s.vw.cs) ∧ Below W.heap.size W w') := Lib.hid fun W hW => sview_any s W
  have HV2 : Hid (∀ W, Below w8.heap.size w8 W → Calls Try.prog 87 #[.agg #[.int .i64 t.num, .int .i64 t.vw.size, .string (strOf t.name), .bool t.vw.on, .bool t.vw.good, .bool t.prot, .slice t.vw.M t.vw.row.length t.vw.cm, .string (strOf t.vw.par), .int .i64 t.vw.ps, .int .i64 t.vw.ov, .slice t.C t.ch.length t.cc]] W fun e w' => e = .returned (.agg t.vw.cs) ∧ Below W.heap.size W w') := Lib.hid fun W hW => sview_any t W
  have HVS : Hid (∀ W, Below w8.heap.size w8 W → Calls Try.prog 59 #[.agg s.vw.cs, .agg t.vw.cs] W (SameTo W (SameV s.vw t.vw))) := Lib.hid fun W hW => vsame_any s.vw t.vw W ((hs.vw.since hb8).since hW) ((ht.vw.since hb8).since hW)
  have HCS : Hid (∀ W, Below w8.heap.size w8 W → Calls Try.prog 103 #[.slice s.C s.ch.length s.cc, .slice t.C t.ch.length t.cc] W (SameTo W (s.ch = t.ch))) := Lib.hid fun W hW => eqstrs_any s.C t.C s.cc t.cc s.ch t.ch W ((hs.since hb8).since hW).ch ((ht.since hb8).since hW).ch hl1 hl2
  obtain ⟨r1, q1⟩ : ∃ r, (s.num == t.num) = r := ⟨_, rfl⟩
  obtain ⟨r2, q2⟩ : ∃ r, ((strOf s.name).toList == (strOf t.name).toList) = r := ⟨_, rfl⟩
  obtain ⟨r3, q3⟩ : ∃ r, (s.prot == t.prot) = r := ⟨_, rfl⟩
  have H1 : Hid (r1 = true ↔ s.num = t.num) := Lib.hid (by rw [← q1]; simp)
  have H2 : Hid (r2 = true ↔ s.name = t.name) := Lib.hid (by rw [← q2, str_eq hs.name ht.name]; simp)
  have H3 : Hid (r3 = true ↔ s.prot = t.prot) := Lib.hid (by rw [← q3]; simp)
  have HW8 := Lib.hid hw8
  clear hs ht hb8 hw8
  unfold SA.cells at *
  go_enter Try.func61, Try.ntmps61
  go_upto_region 1 with (fail)
  rw [← HW8.out]
  clear HW8
  have hS : Below w8.heap.size w8 w8.drew := (Below.refl _ w8).drew
  refine any_beginL (fun W => Below w8.heap.size w8 W) 99 (by kernel_rfl) ?_
  refine S_take (i := 0) (v := .pointer (some ⟨w.heap.size, 0, none⟩)) rfl rfl (by kernel_rfl) (by kernel_rfl) (by kernel_rfl) (fun _ _ _ h => h) (Or.inl ⟨by rfl, fun W hw => by go_simp⟩) hS ?_
  simp only [Act.put, List.getElem_toArray, List.getElem_cons_succ, List.getElem_cons_zero, List.setIfInBounds_toArray, List.set_cons_zero, List.set_cons_succ]
  refine S_take (i := 1) (v := .int .i64 s.num) rfl rfl (by kernel_rfl) (by kernel_rfl) (by kernel_rfl) (fun _ _ _ h => h) (Or.inl ⟨by rfl, fun W hw => by have k0 : W.cell? ⟨w.heap.size, 0, none⟩ = some (.int .i64 s.num) := (HB1.out W hw).cell 0; go_simp⟩) hS ?_
  simp only [Act.put, List.getElem_toArray, List.getElem_cons_succ, List.getElem_cons_zero, List.setIfInBounds_toArray, List.set_cons_zero, List.set_cons_succ]
  refine S_take (i := 2) (v := .pointer (some ⟨(w.heap.size + 1), 0, none⟩)) rfl rfl (by kernel_rfl) (by kernel_rfl) (by kernel_rfl) (fun _ _ _ h => h) (Or.inl ⟨by rfl, fun W hw => by go_simp⟩) hS ?_
  simp only [Act.put, List.getElem_toArray, List.getElem_cons_succ, List.getElem_cons_zero, List.setIfInBounds_toArray, List.set_cons_zero, List.set_cons_succ]
  refine S_take (i := 3) (v := .int .i64 t.num) rfl rfl (by kernel_rfl) (by kernel_rfl) (by kernel_rfl) (fun _ _ _ h => h) (Or.inl ⟨by rfl, fun W hw => by have k0 : W.cell? ⟨(w.heap.size + 1), 0, none⟩ = some (.int .i64 t.num) := (HB2.out W hw).cell 0; go_simp⟩) hS ?_
  simp only [Act.put, List.getElem_toArray, List.getElem_cons_succ, List.getElem_cons_zero, List.setIfInBounds_toArray, List.set_cons_zero, List.set_cons_succ]
  refine S_take (i := 4) (v := .bool r1) rfl rfl (by kernel_rfl) (by kernel_rfl) (by kernel_rfl) (fun _ _ _ h => h) (Or.inl ⟨by rfl, fun W hw => by go_simp⟩) hS ?_
  simp only [Act.put, List.getElem_toArray, List.getElem_cons_succ, List.getElem_cons_zero, List.setIfInBounds_toArray, List.set_cons_zero, List.set_cons_succ]
  cases r1 with
  | true =>
    refine S_take (i := 5) (v := .bool true) rfl rfl (by kernel_rfl) (by kernel_rfl) (by kernel_rfl) (fun _ _ _ h => h) (Or.inl ⟨by rfl, fun W hw => by go_simp⟩) hS ?_
    simp only [Act.put, List.getElem_toArray, List.getElem_cons_succ, List.getElem_cons_zero, List.setIfInBounds_toArray, List.set_cons_zero, List.set_cons_succ]
    refine S_take (i := 6) (v := .pointer (some ⟨w.heap.size, 2, none⟩)) rfl rfl (by kernel_rfl) (by kernel_rfl) (by kernel_rfl) (fun _ _ _ h => h) (Or.inl ⟨by rfl, fun W hw => by go_simp⟩) hS ?_
    simp only [Act.put, List.getElem_toArray, List.getElem_cons_succ, List.getElem_cons_zero, List.setIfInBounds_toArray, List.set_cons_zero, List.set_cons_succ]
    refine S_take (i := 7) (v := .string (strOf s.name)) rfl rfl (by kernel_rfl) (by kernel_rfl) (by kernel_rfl) (fun _ _ _ h => h) (Or.inl ⟨by rfl, fun W hw => by have k0 : W.cell? ⟨w.heap.size, 2, none⟩ = some (.string (strOf s.name)) := (HB1.out W hw).cell 2; go_simp⟩) hS ?_
    simp only [Act.put, List.getElem_toArray, List.getElem_cons_succ, List.getElem_cons_zero, List.setIfInBounds_toArray, List.set_cons_zero, List.set_cons_succ]
    refine S_take (i := 8) (v := .pointer (some ⟨(w.heap.size + 1), 2, none⟩)) rfl rfl (by kernel_rfl) (by kernel_rfl) (by kernel_rfl) (fun _ _ _ h => h) (Or.inl ⟨by rfl, fun W hw => by go_simp⟩) hS ?_
    simp only [Act.put, List.getElem_toArray, List.getElem_cons_succ, List.getElem_cons_zero, List.setIfInBounds_toArray, List.set_cons_zero, List.set_cons_succ]
    refine S_take (i := 9) (v := .string (strOf t.name)) rfl rfl (by kernel_rfl) (by kernel_rfl) (by kernel_rfl) (fun _ _ _ h => h) (Or.inl ⟨by rfl, fun W hw => by have k0 : W.cell? ⟨(w.heap.size + 1), 2, none⟩ = some (.string (strOf t.name)) := (HB2.out W hw).cell 2; go_simp⟩) hS ?_
    simp only [Act.put, List.getElem_toArray, List.getElem_cons_succ, List.getElem_cons_zero, List.setIfInBounds_toArray, List.set_cons_zero, List.set_cons_succ]
    refine S_take (i := 10) (v := .bool r2) rfl rfl (by kernel_rfl) (by kernel_rfl) (by kernel_rfl) (fun _ _ _ h => h) (Or.inl ⟨by rfl, fun W hw => by go_simp⟩) hS ?_
    simp only [Act.put, List.getElem_toArray, List.getElem_cons_succ, List.getElem_cons_zero, List.setIfInBounds_toArray, List.set_cons_zero, List.set_cons_succ]
    cases r2 with
    | true =>
      refine S_take (i := 11) (v := .bool true) rfl rfl (by kernel_rfl) (by kernel_rfl) (by kernel_rfl) (fun _ _ _ h => h) (Or.inl ⟨by rfl, fun W hw => by go_simp⟩) hS ?_
      simp only [Act.put, List.getElem_toArray, List.getElem_cons_succ, List.getElem_cons_zero, List.setIfInBounds_toArray, List.set_cons_zero, List.set_cons_succ]
      refine S_take (i := 12) (v := .bool true) rfl rfl (by kernel_rfl) (by kernel_rfl) (by kernel_rfl) (fun _ _ _ h => h) (Or.inl ⟨by rfl, fun W hw => by go_simp⟩) hS ?_
      simp only [Act.put, List.getElem_toArray, List.getElem_cons_succ, List.getElem_cons_zero, List.setIfInBounds_toArray, List.set_cons_zero, List.set_cons_succ]
      refine S_take (i := 13) (v := .pointer (some ⟨w.heap.size, 5, none⟩)) rfl rfl (by kernel_rfl) (by kernel_rfl) (by kernel_rfl) (fun _ _ _ h => h) (Or.inl ⟨by rfl, fun W hw => by go_simp⟩) hS ?_
      simp only [Act.put, List.getElem_toArray, List.getElem_cons_succ, List.getElem_cons_zero, List.setIfInBounds_toArray, List.set_cons_zero, List.set_cons_succ]
      refine S_take (i := 14) (v := .bool s.prot) rfl rfl (by kernel_rfl) (by kernel_rfl) (by kernel_rfl) (fun _ _ _ h => h) (Or.inl ⟨by rfl, fun W hw => by have k0 : W.cell? ⟨w.heap.size, 5, none⟩ = some (.bool s.prot) := (HB1.out W hw).cell 5; go_simp⟩) hS ?_
      simp only [Act.put, List.getElem_toArray, List.getElem_cons_succ, List.getElem_cons_zero, List.setIfInBounds_toArray, List.set_cons_zero, List.set_cons_succ]
      refine S_take (i := 15) (v := .pointer (some ⟨(w.heap.size + 1), 5, none⟩)) rfl rfl (by kernel_rfl) (by kernel_rfl) (by kernel_rfl) (fun _ _ _ h => h) (Or.inl ⟨by rfl, fun W hw => by go_simp⟩) hS ?_
      simp only [Act.put, List.getElem_toArray, List.getElem_cons_succ, List.getElem_cons_zero, List.setIfInBounds_toArray, List.set_cons_zero, List.set_cons_succ]
      refine S_take (i := 16) (v := .bool t.prot) rfl rfl (by kernel_rfl) (by kernel_rfl) (by kernel_rfl) (fun _ _ _ h => h) (Or.inl ⟨by rfl, fun W hw => by have k0 : W.cell? ⟨(w.heap.size + 1), 5, none⟩ = some (.bool t.prot) := (HB2.out W hw).cell 5; go_simp⟩) hS ?_
      simp only [Act.put, List.getElem_toArray, List.getElem_cons_succ, List.getElem_cons_zero, List.setIfInBounds_toArray, List.set_cons_zero, List.set_cons_succ]
      refine S_take (i := 17) (v := .bool r3) rfl rfl (by kernel_rfl) (by kernel_rfl) (by kernel_rfl) (fun _ _ _ h => h) (Or.inl ⟨by rfl, fun W hw => by go_simp⟩) hS ?_
      simp only [Act.put, List.getElem_toArray, List.getElem_cons_succ, List.getElem_cons_zero, List.setIfInBounds_toArray, List.set_cons_zero, List.set_cons_succ]
      cases r3 with
      | true =>
        refine S_take (i := 18) (v := .bool true) rfl rfl (by kernel_rfl) (by kernel_rfl) (by kernel_rfl) (fun _ _ _ h => h) (Or.inl ⟨by rfl, fun W hw => by go_simp⟩) hS ?_
        simp only [Act.put, List.getElem_toArray, List.getElem_cons_succ, List.getElem_cons_zero, List.setIfInBounds_toArray, List.set_cons_zero, List.set_cons_succ]
        refine S_take (i := 19) (v := .bool true) rfl rfl (by kernel_rfl) (by kernel_rfl) (by kernel_rfl) (fun _ _ _ h => h) (Or.inl ⟨by rfl, fun W hw => by go_simp⟩) hS ?_
        simp only [Act.put, List.getElem_toArray, List.getElem_cons_succ, List.getElem_cons_zero, List.setIfInBounds_toArray, List.set_cons_zero, List.set_cons_succ]
        refine S_take (i := 20) (v := .agg #[.int .i64 s.num, .int .i64 s.vw.size, .string (strOf s.name), .bool s.vw.on, .bool s.vw.good, .bool s.prot, .slice s.vw.M s.vw.row.length s.vw.cm, .string (strOf s.vw.par), .int .i64 s.vw.ps, .int .i64 s.vw.ov, .slice s.C s.ch.length s.cc]) rfl rfl (by kernel_rfl) (by kernel_rfl) (by kernel_rfl) (fun _ _ _ h => h) (Or.inl ⟨by rfl, fun W hw => by have k0 : W.cell? ⟨w.heap.size, 0, none⟩ = some (.int .i64 s.num) := (HB1.out W hw).cell 0; have k1 : W.cell? ⟨w.heap.size, 1, none⟩ = some (.int .i64 s.vw.size) := (HB1.out W hw).cell 1; have k2 : W.cell? ⟨w.heap.size, 2, none⟩ = some (.string (strOf s.name)) := (HB1.out W hw).cell 2; have k3 : W.cell? ⟨w.heap.size, 3, none⟩ = some (.bool s.vw.on) := (HB1.out W hw).cell 3; have k4 : W.cell? ⟨w.heap.size, 4, none⟩ = some (.bool s.vw.good) := (HB1.out W hw).cell 4; have k5 : W.cell? ⟨w.heap.size, 5, none⟩ = some (.bool s.prot) := (HB1.out W hw).cell 5; have k6 : W.cell? ⟨w.heap.size, 6, none⟩ = some (.slice s.vw.M s.vw.row.length s.vw.cm) := (HB1.out W hw).cell 6; have k7 : W.cell? ⟨w.heap.size, 7, none⟩ = some (.string (strOf s.vw.par)) := (HB1.out W hw).cell 7; have k8 : W.cell? ⟨w.heap.size, 8, none⟩ = some (.int .i64 s.vw.ps) := (HB1.out W hw).cell 8; have k9 : W.cell? ⟨w.heap.size, 9, none⟩ = some (.int .i64 s.vw.ov) := (HB1.out W hw).cell 9; have k10 : W.cell? ⟨w.heap.size, 10, none⟩ = some (.slice s.C s.ch.length s.cc) := (HB1.out W hw).cell 10; go_simp⟩) hS ?_
        simp only [Act.put, List.getElem_toArray, List.getElem_cons_succ, List.getElem_cons_zero, List.setIfInBounds_toArray, List.set_cons_zero, List.set_cons_succ]
        refine S_take (i := 22) (v := .agg #[.int .i64 t.num, .int .i64 t.vw.size, .string (strOf t.name), .bool t.vw.on, .bool t.vw.good, .bool t.prot, .slice t.vw.M t.vw.row.length t.vw.cm, .string (strOf t.vw.par), .int .i64 t.vw.ps, .int .i64 t.vw.ov, .slice t.C t.ch.length t.cc]) rfl rfl (by kernel_rfl) (by kernel_rfl) (by kernel_rfl) (fun _ _ _ h => h) (Or.inl ⟨by rfl, fun W hw => by have k0 : W.cell? ⟨(w.heap.size + 1), 0, none⟩ = some (.int .i64 t.num) := (HB2.out W hw).cell 0; have k1 : W.cell? ⟨(w.heap.size + 1), 1, none⟩ = some (.int .i64 t.vw.size) := (HB2.out W hw).cell 1; have k2 : W.cell? ⟨(w.heap.size + 1), 2, none⟩ = some (.string (strOf t.name)) := (HB2.out W hw).cell 2; have k3 : W.cell? ⟨(w.heap.size + 1), 3, none⟩ = some (.bool t.vw.on) := (HB2.out W hw).cell 3; have k4 : W.cell? ⟨(w.heap.size + 1), 4, none⟩ = some (.bool t.vw.good) := (HB2.out W hw).cell 4; have k5 : W.cell? ⟨(w.heap.size + 1), 5, none⟩ = some (.bool t.prot) := (HB2.out W hw).cell 5; have k6 : W.cell? ⟨(w.heap.size + 1), 6, none⟩ = some (.slice t.vw.M t.vw.row.length t.vw.cm) := (HB2.out W hw).cell 6; have k7 : W.cell? ⟨(w.heap.size + 1), 7, none⟩ = some (.string (strOf t.vw.par)) := (HB2.out W hw).cell 7; have k8 : W.cell? ⟨(w.heap.size + 1), 8, none⟩ = some (.int .i64 t.vw.ps) := (HB2.out W hw).cell 8; have k9 : W.cell? ⟨(w.heap.size + 1), 9, none⟩ = some (.int .i64 t.vw.ov) := (HB2.out W hw).cell 9; have k10 : W.cell? ⟨(w.heap.size + 1), 10, none⟩ = some (.slice t.C t.ch.length t.cc) := (HB2.out W hw).cell 10; go_simp⟩) hS ?_
        simp only [Act.put, List.getElem_toArray, List.getElem_cons_succ, List.getElem_cons_zero, List.setIfInBounds_toArray, List.set_cons_zero, List.set_cons_succ]
        refine L_one (j := 21) (by kernel_rfl) rfl (by rfl) ?_
        simp only [Act.put, List.getElem_toArray, List.getElem_cons_succ, List.getElem_cons_zero, List.setIfInBounds_toArray, List.set_cons_zero, List.set_cons_succ]
        refine wp_called (by go_simp) (HV1.out _ hS) ?_
        rintro e W21 ⟨rfl, b⟩
        have hS : Below w8.heap.size w8 W21 := hS.trans (b.mono hS.size)
        clear b
        refine ⟨_, rfl, hS, ?_⟩
        simp only [Act.put, List.getElem_toArray, List.getElem_cons_succ, List.getElem_cons_zero, List.setIfInBounds_toArray, List.set_cons_zero, List.set_cons_succ]
        refine L_one (j := 23) (by kernel_rfl) rfl (by rfl) ?_
        simp only [Act.put, List.getElem_toArray, List.getElem_cons_succ, List.getElem_cons_zero, List.setIfInBounds_toArray, List.set_cons_zero, List.set_cons_succ]
        refine wp_called (by go_simp) (HV2.out _ hS) ?_
        rintro e W23 ⟨rfl, b⟩
        have hS : Below w8.heap.size w8 W23 := hS.trans (b.mono hS.size)
        clear b
        refine ⟨_, rfl, hS, ?_⟩
        simp only [Act.put, List.getElem_toArray, List.getElem_cons_succ, List.getElem_cons_zero, List.setIfInBounds_toArray, List.set_cons_zero, List.set_cons_succ]
        refine L_one (j := 24) (by kernel_rfl) rfl (by rfl) ?_
        simp only [Act.put, List.getElem_toArray, List.getElem_cons_succ, List.getElem_cons_zero, List.setIfInBounds_toArray, List.set_cons_zero, List.set_cons_succ]
        refine wp_called (by go_simp) (HVS.out _ hS) ?_
        rintro e W24 ⟨r4, rfl, h4, b⟩
        have hS : Below w8.heap.size w8 W24 := hS.trans (b.mono hS.size)
        clear b
        have H4 := Lib.hid h4
        clear h4
        refine ⟨_, rfl, hS, ?_⟩
        simp only [Act.put, List.getElem_toArray, List.getElem_cons_succ, List.getElem_cons_zero, List.setIfInBounds_toArray, List.set_cons_zero, List.set_cons_succ]
        cases r4 with
        | true =>
          refine S_take (i := 25) (v := .bool true) rfl rfl (by kernel_rfl) (by kernel_rfl) (by kernel_rfl) (fun _ _ _ h => h) (Or.inl ⟨by rfl, fun W hw => by go_simp⟩) hS ?_
          simp only [Act.put, List.getElem_toArray, List.getElem_cons_succ, List.getElem_cons_zero, List.setIfInBounds_toArray, List.set_cons_zero, List.set_cons_succ]
          refine S_take (i := 26) (v := .bool true) rfl rfl (by kernel_rfl) (by kernel_rfl) (by kernel_rfl) (fun _ _ _ h => h) (Or.inl ⟨by rfl, fun W hw => by go_simp⟩) hS ?_
          simp only [Act.put, List.getElem_toArray, List.getElem_cons_succ, List.getElem_cons_zero, List.setIfInBounds_toArray, List.set_cons_zero, List.set_cons_succ]
          refine S_take (i := 27) (v := .pointer (some ⟨w.heap.size, 10, none⟩)) rfl rfl (by kernel_rfl) (by kernel_rfl) (by kernel_rfl) (fun _ _ _ h => h) (Or.inl ⟨by rfl, fun W hw => by go_simp⟩) hS ?_
          simp only [Act.put, List.getElem_toArray, List.getElem_cons_succ, List.getElem_cons_zero, List.setIfInBounds_toArray, List.set_cons_zero, List.set_cons_succ]
          refine S_take (i := 28) (v := .slice s.C s.ch.length s.cc) rfl rfl (by kernel_rfl) (by kernel_rfl) (by kernel_rfl) (fun _ _ _ h => h) (Or.inl ⟨by rfl, fun W hw => by have k0 : W.cell? ⟨w.heap.size, 10, none⟩ = some (.slice s.C s.ch.length s.cc) := (HB1.out W hw).cell 10; go_simp⟩) hS ?_
          simp only [Act.put, List.getElem_toArray, List.getElem_cons_succ, List.getElem_cons_zero, List.setIfInBounds_toArray, List.set_cons_zero, List.set_cons_succ]
          refine S_take (i := 29) (v := .pointer (some ⟨(w.heap.size + 1), 10, none⟩)) rfl rfl (by kernel_rfl) (by kernel_rfl) (by kernel_rfl) (fun _ _ _ h => h) (Or.inl ⟨by rfl, fun W hw => by go_simp⟩) hS ?_
          simp only [Act.put, List.getElem_toArray, List.getElem_cons_succ, List.getElem_cons_zero, List.setIfInBounds_toArray, List.set_cons_zero, List.set_cons_succ]
          refine S_take (i := 30) (v := .slice t.C t.ch.length t.cc) rfl rfl (by kernel_rfl) (by kernel_rfl) (by kernel_rfl) (fun _ _ _ h => h) (Or.inl ⟨by rfl, fun W hw => by have k0 : W.cell? ⟨(w.heap.size + 1), 10, none⟩ = some (.slice t.C t.ch.length t.cc) := (HB2.out W hw).cell 10; go_simp⟩) hS ?_
          simp only [Act.put, List.getElem_toArray, List.getElem_cons_succ, List.getElem_cons_zero, List.setIfInBounds_toArray, List.set_cons_zero, List.set_cons_succ]
          refine L_one (j := 31) (by kernel_rfl) rfl (by rfl) ?_
          simp only [Act.put, List.getElem_toArray, List.getElem_cons_succ, List.getElem_cons_zero, List.setIfInBounds_toArray, List.set_cons_zero, List.set_cons_succ]
          refine wp_called (by go_simp) (HCS.out _ hS) ?_
          rintro e W31 ⟨r5, rfl, h5, b⟩
          have hS : Below w8.heap.size w8 W31 := hS.trans (b.mono hS.size)
          clear b
          have H5 := Lib.hid h5
          clear h5
          refine ⟨_, rfl, hS, ?_⟩
          simp only [Act.put, List.getElem_toArray, List.getElem_cons_succ, List.getElem_cons_zero, List.setIfInBounds_toArray, List.set_cons_zero, List.set_cons_succ]
          cases r5 with
          | true =>
            refine S_take (i := 32) (v := .bool true) rfl rfl (by kernel_rfl) (by kernel_rfl) (by kernel_rfl) (fun _ _ _ h => h) (Or.inl ⟨by rfl, fun W hw => by go_simp⟩) hS ?_
            simp only [Act.put, List.getElem_toArray, List.getElem_cons_succ, List.getElem_cons_zero, List.setIfInBounds_toArray, List.set_cons_zero, List.set_cons_succ]
            refine S_take (i := 33) (v := .bool true) rfl rfl (by kernel_rfl) (by kernel_rfl) (by kernel_rfl) (fun _ _ _ h => h) (Or.inl ⟨by rfl, fun W hw => by go_simp⟩) hS ?_
            simp only [Act.put, List.getElem_toArray, List.getElem_cons_succ, List.getElem_cons_zero, List.setIfInBounds_toArray, List.set_cons_zero, List.set_cons_succ]
            refine L_done (by kernel_rfl) ?_
            refine NoPanic.normal ?_
            have HS9 := Lib.hid hS
            clear hS
            go_wp2
            go_ret
            exact ⟨true, rfl, ⟨fun _ => sv_yes (H1.out.1 (by trivial)) (H2.out.1 (by trivial)) (H3.out.1 (by trivial)) (H4.out.1 (by trivial)) (H5.out.1 (by trivial)), fun _ => rfl⟩, HB8.out.trans (HS9.out.mono HB8.out.size)⟩
          | false =>
            refine S_take (i := 32) (v := .bool false) rfl rfl (by kernel_rfl) (by kernel_rfl) (by kernel_rfl) (fun _ _ _ h => h) (Or.inl ⟨by rfl, fun W hw => by go_simp⟩) hS ?_
            simp only [Act.put, List.getElem_toArray, List.getElem_cons_succ, List.getElem_cons_zero, List.setIfInBounds_toArray, List.set_cons_zero, List.set_cons_succ]
            refine S_take (i := 33) (v := .bool false) rfl rfl (by kernel_rfl) (by kernel_rfl) (by kernel_rfl) (fun _ _ _ h => h) (Or.inl ⟨by rfl, fun W hw => by go_simp⟩) hS ?_
            simp only [Act.put, List.getElem_toArray, List.getElem_cons_succ, List.getElem_cons_zero, List.setIfInBounds_toArray, List.set_cons_zero, List.set_cons_succ]
            refine L_done (by kernel_rfl) ?_
            refine NoPanic.normal ?_
            have HS9 := Lib.hid hS
            clear hS
            go_wp2
            go_ret
            exact ⟨false, rfl, sv_no (.inr (.inr (.inr (.inr (fun e => by have := H5.out.2 e; cases this))))), HB8.out.trans (HS9.out.mono HB8.out.size)⟩
        | false =>
          refine S_take (i := 25) (v := .bool false) rfl rfl (by kernel_rfl) (by kernel_rfl) (by kernel_rfl) (fun _ _ _ h => h) (Or.inl ⟨by rfl, fun W hw => by go_simp⟩) hS ?_
          simp only [Act.put, List.getElem_toArray, List.getElem_cons_succ, List.getElem_cons_zero, List.setIfInBounds_toArray, List.set_cons_zero, List.set_cons_succ]
          refine S_take (i := 26) (v := .bool false) rfl rfl (by kernel_rfl) (by kernel_rfl) (by kernel_rfl) (fun _ _ _ h => h) (Or.inl ⟨by rfl, fun W hw => by go_simp⟩) hS ?_
          simp only [Act.put, List.getElem_toArray, List.getElem_cons_succ, List.getElem_cons_zero, List.setIfInBounds_toArray, List.set_cons_zero, List.set_cons_succ]
          refine S_take (i := 27) (v := undef) rfl rfl (by kernel_rfl) (by kernel_rfl) (by kernel_rfl) (fun _ _ _ h => h) (Or.inr ⟨by rfl, rfl⟩) hS ?_
          simp only [Act.put, List.getElem_toArray, List.getElem_cons_succ, List.getElem_cons_zero, List.setIfInBounds_toArray, List.set_cons_zero, List.set_cons_succ]
          refine S_take (i := 28) (v := undef) rfl rfl (by kernel_rfl) (by kernel_rfl) (by kernel_rfl) (fun _ _ _ h => h) (Or.inr ⟨by rfl, rfl⟩) hS ?_
          simp only [Act.put, List.getElem_toArray, List.getElem_cons_succ, List.getElem_cons_zero, List.setIfInBounds_toArray, List.set_cons_zero, List.set_cons_succ]
          refine S_take (i := 29) (v := undef) rfl rfl (by kernel_rfl) (by kernel_rfl) (by kernel_rfl) (fun _ _ _ h => h) (Or.inr ⟨by rfl, rfl⟩) hS ?_
          simp only [Act.put, List.getElem_toArray, List.getElem_cons_succ, List.getElem_cons_zero, List.setIfInBounds_toArray, List.set_cons_zero, List.set_cons_succ]
          refine S_take (i := 30) (v := undef) rfl rfl (by kernel_rfl) (by kernel_rfl) (by kernel_rfl) (fun _ _ _ h => h) (Or.inr ⟨by rfl, rfl⟩) hS ?_
          simp only [Act.put, List.getElem_toArray, List.getElem_cons_succ, List.getElem_cons_zero, List.setIfInBounds_toArray, List.set_cons_zero, List.set_cons_succ]
          refine S_take (i := 31) (v := undef) rfl rfl (by kernel_rfl) (by kernel_rfl) (by kernel_rfl) (fun _ _ _ h => h) (Or.inr ⟨by rfl, rfl⟩) hS ?_
          simp only [Act.put, List.getElem_toArray, List.getElem_cons_succ, List.getElem_cons_zero, List.setIfInBounds_toArray, List.set_cons_zero, List.set_cons_succ]
          refine S_take (i := 32) (v := .bool false) rfl rfl (by kernel_rfl) (by kernel_rfl) (by kernel_rfl) (fun _ _ _ h => h) (Or.inl ⟨by rfl, fun W hw => by go_simp⟩) hS ?_
          simp only [Act.put, List.getElem_toArray, List.getElem_cons_succ, List.getElem_cons_zero, List.setIfInBounds_toArray, List.set_cons_zero, List.set_cons_succ]
          refine S_take (i := 33) (v := .bool false) rfl rfl (by kernel_rfl) (by kernel_rfl) (by kernel_rfl) (fun _ _ _ h => h) (Or.inl ⟨by rfl, fun W hw => by go_simp⟩) hS ?_
          simp only [Act.put, List.getElem_toArray, List.getElem_cons_succ, List.getElem_cons_zero, List.setIfInBounds_toArray, List.set_cons_zero, List.set_cons_succ]
          refine L_done (by kernel_rfl) ?_
          refine NoPanic.normal ?_
          have HS9 := Lib.hid hS
          clear hS
          go_wp2
          go_ret
          exact ⟨false, rfl, sv_no (.inr (.inr (.inr (.inl (fun e => by have := H4.out.2 e; cases this))))), HB8.out.trans (HS9.out.mono HB8.out.size)⟩
      | false =>
        refine S_take (i := 18) (v := .bool false) rfl rfl (by kernel_rfl) (by kernel_rfl) (by kernel_rfl) (fun _ _ _ h => h) (Or.inl ⟨by rfl, fun W hw => by go_simp⟩) hS ?_
        simp only [Act.put, List.getElem_toArray, List.getElem_cons_succ, List.getElem_cons_zero, List.setIfInBounds_toArray, List.set_cons_zero, List.set_cons_succ]
        refine S_take (i := 19) (v := .bool false) rfl rfl (by kernel_rfl) (by kernel_rfl) (by kernel_rfl) (fun _ _ _ h => h) (Or.inl ⟨by rfl, fun W hw => by go_simp⟩) hS ?_
        simp only [Act.put, List.getElem_toArray, List.getElem_cons_succ, List.getElem_cons_zero, List.setIfInBounds_toArray, List.set_cons_zero, List.set_cons_succ]
        refine S_take (i := 20) (v := undef) rfl rfl (by kernel_rfl) (by kernel_rfl) (by kernel_rfl) (fun _ _ _ h => h) (Or.inr ⟨by rfl, rfl⟩) hS ?_
        simp only [Act.put, List.getElem_toArray, List.getElem_cons_succ, List.getElem_cons_zero, List.setIfInBounds_toArray, List.set_cons_zero, List.set_cons_succ]
        refine S_take (i := 21) (v := undef) rfl rfl (by kernel_rfl) (by kernel_rfl) (by kernel_rfl) (fun _ _ _ h => h) (Or.inr ⟨by rfl, rfl⟩) hS ?_
        simp only [Act.put, List.getElem_toArray, List.getElem_cons_succ, List.getElem_cons_zero, List.setIfInBounds_toArray, List.set_cons_zero, List.set_cons_succ]
        refine S_take (i := 22) (v := undef) rfl rfl (by kernel_rfl) (by kernel_rfl) (by kernel_rfl) (fun _ _ _ h => h) (Or.inr ⟨by rfl, rfl⟩) hS ?_
        simp only [Act.put, List.getElem_toArray, List.getElem_cons_succ, List.getElem_cons_zero, List.setIfInBounds_toArray, List.set_cons_zero, List.set_cons_succ]
        refine S_take (i := 23) (v := undef) rfl rfl (by kernel_rfl) (by kernel_rfl) (by kernel_rfl) (fun _ _ _ h => h) (Or.inr ⟨by rfl, rfl⟩) hS ?_
        simp only [Act.put, List.getElem_toArray, List.getElem_cons_succ, List.getElem_cons_zero, List.setIfInBounds_toArray, List.set_cons_zero, List.set_cons_succ]
        refine S_take (i := 24) (v := undef) rfl rfl (by kernel_rfl) (by kernel_rfl) (by kernel_rfl) (fun _ _ _ h => h) (Or.inr ⟨by rfl, rfl⟩) hS ?_
        simp only [Act.put, List.getElem_toArray, List.getElem_cons_succ, List.getElem_cons_zero, List.setIfInBounds_toArray, List.set_cons_zero, List.set_cons_succ]
        refine S_take (i := 25) (v := .bool false) rfl rfl (by kernel_rfl) (by kernel_rfl) (by kernel_rfl) (fun _ _ _ h => h) (Or.inl ⟨by rfl, fun W hw => by go_simp⟩) hS ?_
        simp only [Act.put, List.getElem_toArray, List.getElem_cons_succ, List.getElem_cons_zero, List.setIfInBounds_toArray, List.set_cons_zero, List.set_cons_succ]
        refine S_take (i := 26) (v := .bool false) rfl rfl (by kernel_rfl) (by kernel_rfl) (by kernel_rfl) (fun _ _ _ h => h) (Or.inl ⟨by rfl, fun W hw => by go_simp⟩) hS ?_
        simp only [Act.put, List.getElem_toArray, List.getElem_cons_succ, List.getElem_cons_zero, List.setIfInBounds_toArray, List.set_cons_zero, List.set_cons_succ]
        refine S_take (i := 27) (v := undef) rfl rfl (by kernel_rfl) (by kernel_rfl) (by kernel_rfl) (fun _ _ _ h => h) (Or.inr ⟨by rfl, rfl⟩) hS ?_
        simp only [Act.put, List.getElem_toArray, List.getElem_cons_succ, List.getElem_cons_zero, List.setIfInBounds_toArray, List.set_cons_zero, List.set_cons_succ]
        refine S_take (i := 28) (v := undef) rfl rfl (by kernel_rfl) (by kernel_rfl) (by kernel_rfl) (fun _ _ _ h => h) (Or.inr ⟨by rfl, rfl⟩) hS ?_
        simp only [Act.put, List.getElem_toArray, List.getElem_cons_succ, List.getElem_cons_zero, List.setIfInBounds_toArray, List.set_cons_zero, List.set_cons_succ]
        refine S_take (i := 29) (v := undef) rfl rfl (by kernel_rfl) (by kernel_rfl) (by kernel_rfl) (fun _ _ _ h => h) (Or.inr ⟨by rfl, rfl⟩) hS ?_
        simp only [Act.put, List.getElem_toArray, List.getElem_cons_succ, List.getElem_cons_zero, List.setIfInBounds_toArray, List.set_cons_zero, List.set_cons_succ]
        refine S_take (i := 30) (v := undef) rfl rfl (by kernel_rfl) (by kernel_rfl) (by kernel_rfl) (fun _ _ _ h => h) (Or.inr ⟨by rfl, rfl⟩) hS ?_
        simp only [Act.put, List.getElem_toArray, List.getElem_cons_succ, List.getElem_cons_zero, List.setIfInBounds_toArray, List.set_cons_zero, List.set_cons_succ]
        refine S_take (i := 31) (v := undef) rfl rfl (by kernel_rfl) (by kernel_rfl) (by kernel_rfl) (fun _ _ _ h => h) (Or.inr ⟨by rfl, rfl⟩) hS ?_
        simp only [Act.put, List.getElem_toArray, List.getElem_cons_succ, List.getElem_cons_zero, List.setIfInBounds_toArray, List.set_cons_zero, List.set_cons_succ]
        refine S_take (i := 32) (v := .bool false) rfl rfl (by kernel_rfl) (by kernel_rfl) (by kernel_rfl) (fun _ _ _ h => h) (Or.inl ⟨by rfl, fun W hw => by go_simp⟩) hS ?_
        simp only [Act.put, List.getElem_toArray, List.getElem_cons_succ, List.getElem_cons_zero, List.setIfInBounds_toArray, List.set_cons_zero, List.set_cons_succ]
        refine S_take (i := 33) (v := .bool false) rfl rfl (by kernel_rfl) (by kernel_rfl) (by kernel_rfl) (fun _ _ _ h => h) (Or.inl ⟨by rfl, fun W hw => by go_simp⟩) hS ?_
        simp only [Act.put, List.getElem_toArray, List.getElem_cons_succ, List.getElem_cons_zero, List.setIfInBounds_toArray, List.set_cons_zero, List.set_cons_succ]
        refine L_done (by kernel_rfl) ?_
        refine NoPanic.normal ?_
        have HS9 := Lib.hid hS
        clear hS
        go_wp2
        go_ret
        exact ⟨false, rfl, sv_no (.inr (.inr (.inl (fun e => by have := H3.out.2 e; cases this)))), HB8.out.trans (HS9.out.mono HB8.out.size)⟩
    | false =>
      refine S_take (i := 11) (v := .bool false) rfl rfl (by kernel_rfl) (by kernel_rfl) (by kernel_rfl) (fun _ _ _ h => h) (Or.inl ⟨by rfl, fun W hw => by go_simp⟩) hS ?_
      simp only [Act.put, List.getElem_toArray, List.getElem_cons_succ, List.getElem_cons_zero, List.setIfInBounds_toArray, List.set_cons_zero, List.set_cons_succ]
      refine S_take (i := 12) (v := .bool false) rfl rfl (by kernel_rfl) (by kernel_rfl) (by kernel_rfl) (fun _ _ _ h => h) (Or.inl ⟨by rfl, fun W hw => by go_simp⟩) hS ?_
      simp only [Act.put, List.getElem_toArray, List.getElem_cons_succ, List.getElem_cons_zero, List.setIfInBounds_toArray, List.set_cons_zero, List.set_cons_succ]
      refine S_take (i := 13) (v := undef) rfl rfl (by kernel_rfl) (by kernel_rfl) (by kernel_rfl) (fun _ _ _ h => h) (Or.inr ⟨by rfl, rfl⟩) hS ?_
      simp only [Act.put, List.getElem_toArray, List.getElem_cons_succ, List.getElem_cons_zero, List.setIfInBounds_toArray, List.set_cons_zero, List.set_cons_succ]
      refine S_take (i := 14) (v := undef) rfl rfl (by kernel_rfl) (by kernel_rfl) (by kernel_rfl) (fun _ _ _ h => h) (Or.inr ⟨by rfl, rfl⟩) hS ?_
      simp only [Act.put, List.getElem_toArray, List.getElem_cons_succ, List.getElem_cons_zero, List.setIfInBounds_toArray, List.set_cons_zero, List.set_cons_succ]
      refine S_take (i := 15) (v := undef) rfl rfl (by kernel_rfl) (by kernel_rfl) (by kernel_rfl) (fun _ _ _ h => h) (Or.inr ⟨by rfl, rfl⟩) hS ?_
      simp only [Act.put, List.getElem_toArray, List.getElem_cons_succ, List.getElem_cons_zero, List.setIfInBounds_toArray, List.set_cons_zero, List.set_cons_succ]
      refine S_take (i := 16) (v := undef) rfl rfl (by kernel_rfl) (by kernel_rfl) (by kernel_rfl) (fun _ _ _ h => h) (Or.inr ⟨by rfl, rfl⟩) hS ?_
      simp only [Act.put, List.getElem_toArray, List.getElem_cons_succ, List.getElem_cons_zero, List.setIfInBounds_toArray, List.set_cons_zero, List.set_cons_succ]
      refine S_take (i := 17) (v := undef) rfl rfl (by kernel_rfl) (by kernel_rfl) (by kernel_rfl) (fun _ _ _ h => h) (Or.inr ⟨by rfl, rfl⟩) hS ?_
      simp only [Act.put, List.getElem_toArray, List.getElem_cons_succ, List.getElem_cons_zero, List.setIfInBounds_toArray, List.set_cons_zero, List.set_cons_succ]
      refine S_take (i := 18) (v := .bool false) rfl rfl (by kernel_rfl) (by kernel_rfl) (by kernel_rfl) (fun _ _ _ h => h) (Or.inl ⟨by rfl, fun W hw => by go_simp⟩) hS ?_
      simp only [Act.put, List.getElem_toArray, List.getElem_cons_succ, List.getElem_cons_zero, List.setIfInBounds_toArray, List.set_cons_zero, List.set_cons_succ]
      refine S_take (i := 19) (v := .bool false) rfl rfl (by kernel_rfl) (by kernel_rfl) (by kernel_rfl) (fun _ _ _ h => h) (Or.inl ⟨by rfl, fun W hw => by go_simp⟩) hS ?_
      simp only [Act.put, List.getElem_toArray, List.getElem_cons_succ, List.getElem_cons_zero, List.setIfInBounds_toArray, List.set_cons_zero, List.set_cons_succ]
      refine S_take (i := 20) (v := undef) rfl rfl (by kernel_rfl) (by kernel_rfl) (by kernel_rfl) (fun _ _ _ h => h) (Or.inr ⟨by rfl, rfl⟩) hS ?_
      simp only [Act.put, List.getElem_toArray, List.getElem_cons_succ, List.getElem_cons_zero, List.setIfInBounds_toArray, List.set_cons_zero, List.set_cons_succ]
      refine S_take (i := 21) (v := undef) rfl rfl (by kernel_rfl) (by kernel_rfl) (by kernel_rfl) (fun _ _ _ h => h) (Or.inr ⟨by rfl, rfl⟩) hS ?_
      simp only [Act.put, List.getElem_toArray, List.getElem_cons_succ, List.getElem_cons_zero, List.setIfInBounds_toArray, List.set_cons_zero, List.set_cons_succ]
      refine S_take (i := 22) (v := undef) rfl rfl (by kernel_rfl) (by kernel_rfl) (by kernel_rfl) (fun _ _ _ h => h) (Or.inr ⟨by rfl, rfl⟩) hS ?_
      simp only [Act.put, List.getElem_toArray, List.getElem_cons_succ, List.getElem_cons_zero, List.setIfInBounds_toArray, List.set_cons_zero, List.set_cons_succ]
      refine S_take (i := 23) (v := undef) rfl rfl (by kernel_rfl) (by kernel_rfl) (by kernel_rfl) (fun _ _ _ h => h) (Or.inr ⟨by rfl, rfl⟩) hS ?_
      simp only [Act.put, List.getElem_toArray, List.getElem_cons_succ, List.getElem_cons_zero, List.setIfInBounds_toArray, List.set_cons_zero, List.set_cons_succ]
      refine S_take (i := 24) (v := undef) rfl rfl (by kernel_rfl) (by kernel_rfl) (by kernel_rfl) (fun _ _ _ h => h) (Or.inr ⟨by rfl, rfl⟩) hS ?_
      simp only [Act.put, List.getElem_toArray, List.getElem_cons_succ, List.getElem_cons_zero, List.setIfInBounds_toArray, List.set_cons_zero, List.set_cons_succ]
      refine S_take (i := 25) (v := .bool false) rfl rfl (by kernel_rfl) (by kernel_rfl) (by kernel_rfl) (fun _ _ _ h => h) (Or.inl ⟨by rfl, fun W hw => by go_simp⟩) hS ?_
      simp only [Act.put, List.getElem_toArray, List.getElem_cons_succ, List.getElem_cons_zero, List.setIfInBounds_toArray, List.set_cons_zero, List.set_cons_succ]
      refine S_take (i := 26) (v := .bool false) rfl rfl (by kernel_rfl) (by kernel_rfl) (by kernel_rfl) (fun _ _ _ h => h) (Or.inl ⟨by rfl, fun W hw => by go_simp⟩) hS ?_
      simp only [Act.put, List.getElem_toArray, List.getElem_cons_succ, List.getElem_cons_zero, List.setIfInBounds_toArray, List.set_cons_zero, List.set_cons_succ]
      refine S_take (i := 27) (v := undef) rfl rfl (by kernel_rfl) (by kernel_rfl) (by kernel_rfl) (fun _ _ _ h => h) (Or.inr ⟨by rfl, rfl⟩) hS ?_
      simp only [Act.put, List.getElem_toArray, List.getElem_cons_succ, List.getElem_cons_zero, List.setIfInBounds_toArray, List.set_cons_zero, List.set_cons_succ]
      refine S_take (i := 28) (v := undef) rfl rfl (by kernel_rfl) (by kernel_rfl) (by kernel_rfl) (fun _ _ _ h => h) (Or.inr ⟨by rfl, rfl⟩) hS ?_
      simp only [Act.put, List.getElem_toArray, List.getElem_cons_succ, List.getElem_cons_zero, List.setIfInBounds_toArray, List.set_cons_zero, List.set_cons_succ]
      refine S_take (i := 29) (v := undef) rfl rfl (by kernel_rfl) (by kernel_rfl) (by kernel_rfl) (fun _ _ _ h => h) (Or.inr ⟨by rfl, rfl⟩) hS ?_
      simp only [Act.put, List.getElem_toArray, List.getElem_cons_succ, List.getElem_cons_zero, List.setIfInBounds_toArray, List.set_cons_zero, List.set_cons_succ]
      refine S_take (i := 30) (v := undef) rfl rfl (by kernel_rfl) (by kernel_rfl) (by kernel_rfl) (fun _ _ _ h => h) (Or.inr ⟨by rfl, rfl⟩) hS ?_
      simp only [Act.put, List.getElem_toArray, List.getElem_cons_succ, List.getElem_cons_zero, List.setIfInBounds_toArray, List.set_cons_zero, List.set_cons_succ]
      refine S_take (i := 31) (v := undef) rfl rfl (by kernel_rfl) (by kernel_rfl) (by kernel_rfl) (fun _ _ _ h => h) (Or.inr ⟨by rfl, rfl⟩) hS ?_
      simp only [Act.put, List.getElem_toArray, List.getElem_cons_succ, List.getElem_cons_zero, List.setIfInBounds_toArray, List.set_cons_zero, List.set_cons_succ]
      refine S_take (i := 32) (v := .bool false) rfl rfl (by kernel_rfl) (by kernel_rfl) (by kernel_rfl) (fun _ _ _ h => h) (Or.inl ⟨by rfl, fun W hw => by go_simp⟩) hS ?_
      simp only [Act.put, List.getElem_toArray, List.getElem_cons_succ, List.getElem_cons_zero, List.setIfInBounds_toArray, List.set_cons_zero, List.set_cons_succ]
      refine S_take (i := 33) (v := .bool false) rfl rfl (by kernel_rfl) (by kernel_rfl) (by kernel_rfl) (fun _ _ _ h => h) (Or.inl ⟨by rfl, fun W hw => by go_simp⟩) hS ?_
      simp only [Act.put, List.getElem_toArray, List.getElem_cons_succ, List.getElem_cons_zero, List.setIfInBounds_toArray, List.set_cons_zero, List.set_cons_succ]
      refine L_done (by kernel_rfl) ?_
      refine NoPanic.normal ?_
      have HS9 := Lib.hid hS
      clear hS
      go_wp2
      go_ret
      exact ⟨false, rfl, sv_no (.inr (.inl (fun e => by have := H2.out.2 e; cases this))), HB8.out.trans (HS9.out.mono HB8.out.size)⟩
  | false =>
    refine S_take (i := 5) (v := .bool false) rfl rfl (by kernel_rfl) (by kernel_rfl) (by kernel_rfl) (fun _ _ _ h => h) (Or.inl ⟨by rfl, fun W hw => by go_simp⟩) hS ?_
    simp only [Act.put, List.getElem_toArray, List.getElem_cons_succ, List.getElem_cons_zero, List.setIfInBounds_toArray, List.set_cons_zero, List.set_cons_succ]
    refine S_take (i := 6) (v := undef) rfl rfl (by kernel_rfl) (by kernel_rfl) (by kernel_rfl) (fun _ _ _ h => h) (Or.inr ⟨by rfl, rfl⟩) hS ?_
    simp only [Act.put, List.getElem_toArray, List.getElem_cons_succ, List.getElem_cons_zero, List.setIfInBounds_toArray, List.set_cons_zero, List.set_cons_succ]
    refine S_take (i := 7) (v := undef) rfl rfl (by kernel_rfl) (by kernel_rfl) (by kernel_rfl) (fun _ _ _ h => h) (Or.inr ⟨by rfl, rfl⟩) hS ?_
    simp only [Act.put, List.getElem_toArray, List.getElem_cons_succ, List.getElem_cons_zero, List.setIfInBounds_toArray, List.set_cons_zero, List.set_cons_succ]
    refine S_take (i := 8) (v := undef) rfl rfl (by kernel_rfl) (by kernel_rfl) (by kernel_rfl) (fun _ _ _ h => h) (Or.inr ⟨by rfl, rfl⟩) hS ?_
    simp only [Act.put, List.getElem_toArray, List.getElem_cons_succ, List.getElem_cons_zero, List.setIfInBounds_toArray, List.set_cons_zero, List.set_cons_succ]
    refine S_take (i := 9) (v := undef) rfl rfl (by kernel_rfl) (by kernel_rfl) (by kernel_rfl) (fun _ _ _ h => h) (Or.inr ⟨by rfl, rfl⟩) hS ?_
    simp only [Act.put, List.getElem_toArray, List.getElem_cons_succ, List.getElem_cons_zero, List.setIfInBounds_toArray, List.set_cons_zero, List.set_cons_succ]
    refine S_take (i := 10) (v := undef) rfl rfl (by kernel_rfl) (by kernel_rfl) (by kernel_rfl) (fun _ _ _ h => h) (Or.inr ⟨by rfl, rfl⟩) hS ?_
    simp only [Act.put, List.getElem_toArray, List.getElem_cons_succ, List.getElem_cons_zero, List.setIfInBounds_toArray, List.set_cons_zero, List.set_cons_succ]
    refine S_take (i := 11) (v := .bool false) rfl rfl (by kernel_rfl) (by kernel_rfl) (by kernel_rfl) (fun _ _ _ h => h) (Or.inl ⟨by rfl, fun W hw => by go_simp⟩) hS ?_
    simp only [Act.put, List.getElem_toArray, List.getElem_cons_succ, List.getElem_cons_zero, List.setIfInBounds_toArray, List.set_cons_zero, List.set_cons_succ]
    refine S_take (i := 12) (v := .bool false) rfl rfl (by kernel_rfl) (by kernel_rfl) (by kernel_rfl) (fun _ _ _ h => h) (Or.inl ⟨by rfl, fun W hw => by go_simp⟩) hS ?_
    simp only [Act.put, List.getElem_toArray, List.getElem_cons_succ, List.getElem_cons_zero, List.setIfInBounds_toArray, List.set_cons_zero, List.set_cons_succ]
    refine S_take (i := 13) (v := undef) rfl rfl (by kernel_rfl) (by kernel_rfl) (by kernel_rfl) (fun _ _ _ h => h) (Or.inr ⟨by rfl, rfl⟩) hS ?_
    simp only [Act.put, List.getElem_toArray, List.getElem_cons_succ, List.getElem_cons_zero, List.setIfInBounds_toArray, List.set_cons_zero, List.set_cons_succ]
    refine S_take (i := 14) (v := undef) rfl rfl (by kernel_rfl) (by kernel_rfl) (by kernel_rfl) (fun _ _ _ h => h) (Or.inr ⟨by rfl, rfl⟩) hS ?_
    simp only [Act.put, List.getElem_toArray, List.getElem_cons_succ, List.getElem_cons_zero, List.setIfInBounds_toArray, List.set_cons_zero, List.set_cons_succ]
    refine S_take (i := 15) (v := undef) rfl rfl (by kernel_rfl) (by kernel_rfl) (by kernel_rfl) (fun _ _ _ h => h) (Or.inr ⟨by rfl, rfl⟩) hS ?_
    simp only [Act.put, List.getElem_toArray, List.getElem_cons_succ, List.getElem_cons_zero, List.setIfInBounds_toArray, List.set_cons_zero, List.set_cons_succ]
    refine S_take (i := 16) (v := undef) rfl rfl (by kernel_rfl) (by kernel_rfl) (by kernel_rfl) (fun _ _ _ h => h) (Or.inr ⟨by rfl, rfl⟩) hS ?_
    simp only [Act.put, List.getElem_toArray, List.getElem_cons_succ, List.getElem_cons_zero, List.setIfInBounds_toArray, List.set_cons_zero, List.set_cons_succ]
    refine S_take (i := 17) (v := undef) rfl rfl (by kernel_rfl) (by kernel_rfl) (by kernel_rfl) (fun _ _ _ h => h) (Or.inr ⟨by rfl, rfl⟩) hS ?_
    simp only [Act.put, List.getElem_toArray, List.getElem_cons_succ, List.getElem_cons_zero, List.setIfInBounds_toArray, List.set_cons_zero, List.set_cons_succ]
    refine S_take (i := 18) (v := .bool false) rfl rfl (by kernel_rfl) (by kernel_rfl) (by kernel_rfl) (fun _ _ _ h => h) (Or.inl ⟨by rfl, fun W hw => by go_simp⟩) hS ?_
    simp only [Act.put, List.getElem_toArray, List.getElem_cons_succ, List.getElem_cons_zero, List.setIfInBounds_toArray, List.set_cons_zero, List.set_cons_succ]
    refine S_take (i := 19) (v := .bool false) rfl rfl (by kernel_rfl) (by kernel_rfl) (by kernel_rfl) (fun _ _ _ h => h) (Or.inl ⟨by rfl, fun W hw => by go_simp⟩) hS ?_
    simp only [Act.put, List.getElem_toArray, List.getElem_cons_succ, List.getElem_cons_zero, List.setIfInBounds_toArray, List.set_cons_zero, List.set_cons_succ]
    refine S_take (i := 20) (v := undef) rfl rfl (by kernel_rfl) (by kernel_rfl) (by kernel_rfl) (fun _ _ _ h => h) (Or.inr ⟨by rfl, rfl⟩) hS ?_
    simp only [Act.put, List.getElem_toArray, List.getElem_cons_succ, List.getElem_cons_zero, List.setIfInBounds_toArray, List.set_cons_zero, List.set_cons_succ]
    refine S_take (i := 21) (v := undef) rfl rfl (by kernel_rfl) (by kernel_rfl) (by kernel_rfl) (fun _ _ _ h => h) (Or.inr ⟨by rfl, rfl⟩) hS ?_
    simp only [Act.put, List.getElem_toArray, List.getElem_cons_succ, List.getElem_cons_zero, List.setIfInBounds_toArray, List.set_cons_zero, List.set_cons_succ]
    refine S_take (i := 22) (v := undef) rfl rfl (by kernel_rfl) (by kernel_rfl) (by kernel_rfl) (fun _ _ _ h => h) (Or.inr ⟨by rfl, rfl⟩) hS ?_
    simp only [Act.put, List.getElem_toArray, List.getElem_cons_succ, List.getElem_cons_zero, List.setIfInBounds_toArray, List.set_cons_zero, List.set_cons_succ]
    refine S_take (i := 23) (v := undef) rfl rfl (by kernel_rfl) (by kernel_rfl) (by kernel_rfl) (fun _ _ _ h => h) (Or.inr ⟨by rfl, rfl⟩) hS ?_
    simp only [Act.put, List.getElem_toArray, List.getElem_cons_succ, List.getElem_cons_zero, List.setIfInBounds_toArray, List.set_cons_zero, List.set_cons_succ]
    refine S_take (i := 24) (v := undef) rfl rfl (by kernel_rfl) (by kernel_rfl) (by kernel_rfl) (fun _ _ _ h => h) (Or.inr ⟨by rfl, rfl⟩) hS ?_
    simp only [Act.put, List.getElem_toArray, List.getElem_cons_succ, List.getElem_cons_zero, List.setIfInBounds_toArray, List.set_cons_zero, List.set_cons_succ]
    refine S_take (i := 25) (v := .bool false) rfl rfl (by kernel_rfl) (by kernel_rfl) (by kernel_rfl) (fun _ _ _ h => h) (Or.inl ⟨by rfl, fun W hw => by go_simp⟩) hS ?_
    simp only [Act.put, List.getElem_toArray, List.getElem_cons_succ, List.getElem_cons_zero, List.setIfInBounds_toArray, List.set_cons_zero, List.set_cons_succ]
    refine S_take (i := 26) (v := .bool false) rfl rfl (by kernel_rfl) (by kernel_rfl) (by kernel_rfl) (fun _ _ _ h => h) (Or.inl ⟨by rfl, fun W hw => by go_simp⟩) hS ?_
    simp only [Act.put, List.getElem_toArray, List.getElem_cons_succ, List.getElem_cons_zero, List.setIfInBounds_toArray, List.set_cons_zero, List.set_cons_succ]
    refine S_take (i := 27) (v := undef) rfl rfl (by kernel_rfl) (by kernel_rfl) (by kernel_rfl) (fun _ _ _ h => h) (Or.inr ⟨by rfl, rfl⟩) hS ?_
    simp only [Act.put, List.getElem_toArray, List.getElem_cons_succ, List.getElem_cons_zero, List.setIfInBounds_toArray, List.set_cons_zero, List.set_cons_succ]
    refine S_take (i := 28) (v := undef) rfl rfl (by kernel_rfl) (by kernel_rfl) (by kernel_rfl) (fun _ _ _ h => h) (Or.inr ⟨by rfl, rfl⟩) hS ?_
    simp only [Act.put, List.getElem_toArray, List.getElem_cons_succ, List.getElem_cons_zero, List.setIfInBounds_toArray, List.set_cons_zero, List.set_cons_succ]
    refine S_take (i := 29) (v := undef) rfl rfl (by kernel_rfl) (by kernel_rfl) (by kernel_rfl) (fun _ _ _ h => h) (Or.inr ⟨by rfl, rfl⟩) hS ?_
    simp only [Act.put, List.getElem_toArray, List.getElem_cons_succ, List.getElem_cons_zero, List.setIfInBounds_toArray, List.set_cons_zero, List.set_cons_succ]
    refine S_take (i := 30) (v := undef) rfl rfl (by kernel_rfl) (by kernel_rfl) (by kernel_rfl) (fun _ _ _ h => h) (Or.inr ⟨by rfl, rfl⟩) hS ?_
    simp only [Act.put, List.getElem_toArray, List.getElem_cons_succ, List.getElem_cons_zero, List.setIfInBounds_toArray, List.set_cons_zero, List.set_cons_succ]
    refine S_take (i := 31) (v := undef) rfl rfl (by kernel_rfl) (by kernel_rfl) (by kernel_rfl) (fun _ _ _ h => h) (Or.inr ⟨by rfl, rfl⟩) hS ?_
    simp only [Act.put, List.getElem_toArray, List.getElem_cons_succ, List.getElem_cons_zero, List.setIfInBounds_toArray, List.set_cons_zero, List.set_cons_succ]
    refine S_take (i := 32) (v := .bool false) rfl rfl (by kernel_rfl) (by kernel_rfl) (by kernel_rfl) (fun _ _ _ h => h) (Or.inl ⟨by rfl, fun W hw => by go_simp⟩) hS ?_
    simp only [Act.put, List.getElem_toArray, List.getElem_cons_succ, List.getElem_cons_zero, List.setIfInBounds_toArray, List.set_cons_zero, List.set_cons_succ]
    refine S_take (i := 33) (v := .bool false) rfl rfl (by kernel_rfl) (by kernel_rfl) (by kernel_rfl) (fun _ _ _ h => h) (Or.inl ⟨by rfl, fun W hw => by go_simp⟩) hS ?_
    simp only [Act.put, List.getElem_toArray, List.getElem_cons_succ, List.getElem_cons_zero, List.setIfInBounds_toArray, List.set_cons_zero, List.set_cons_succ]
    refine L_done (by kernel_rfl) ?_
    refine NoPanic.normal ?_
    have HS9 := Lib.hid hS
    clear hS
    go_wp2
    go_ret
    exact ⟨false, rfl, sv_no (.inl (fun e => by have := H1.out.2 e; cases this)), HB8.out.trans (HS9.out.mono HB8.out.size)⟩
set_option maxHeartbeats 8000000 in
theorem eqsnaps_any (l1 l2 : List SA) (A1 A2 : Option Addr) (c1 c2 : Nat) (w : World) (hn1 : l1.length ≤ 1000000) (hn2 : l2.length ≤ 1000000) (h1 : Reads w w.heap.size 11 A1 l1.length (l1.flatMap SA.cells)) (h2 : Reads w w.heap.size 11 A2 l2.length (l2.flatMap SA.cells))
    (hs1 : ∀ s ∈ l1, s.R w ∧ s.ch.length ≤ 1000000) (hs2 : ∀ s ∈ l2, s.R w ∧ s.ch.length ≤ 1000000) :
    Calls Try.prog 60 #[.slice A1 l1.length c1, .slice A2 l2.length c2, .func (.func 61) #[] #[]] w (SameTo w (l1.map SA.v = l2.map SA.v)) := by
  by_cases hne : l1.length = l2.length
  · obtain ⟨n, hn⟩ : ∃ n, l1.length = n := ⟨_, rfl⟩
    have e2 : l2.length = n := by omega
    have H1 : Hid (Reads w w.heap.size 11 A1 l1.length (l1.flatMap SA.cells)) := Lib.hid h1
    have H2 : Hid (Reads w w.heap.size 11 A2 l2.length (l2.flatMap SA.cells)) := Lib.hid h2
    have HS1 := Lib.hid hs1
    have HS2 := Lib.hid hs2
    have HN := Lib.hid (And.intro hn e2)
    rw [hn, e2]
    have hnn : n ≤ 1000000 := by omega
    clear h1 h2 hs1 hs2 hn e2 hne hn1 hn2
    go_enter Try.func60, Try.ntmps60
    go_wp2
    go_loopw [17] (fun i wr => ∃ k : Nat, k ≤ n ∧ i = .int .i64 k ∧ Below w.heap.size w wr ∧ ∀ j, j < k → (l1.map SA.v)[j]? = (l2.map SA.v)[j]?) (fun i _ => n - (intOf i).toNat)
    case atStart => exact ⟨0, by omega, rfl, Below.refl _ _, fun j h => by omega⟩
    case round =>
      obtain ⟨k, hk, rfl, hb, hall⟩ := hrel
      have HA := Lib.hid hall
      have HB := Lib.hid hb
      have hwk : IntKind.i64.wrap ((k : Int) + 1) = (k : Int) + 1 := by rw [IntKind.wrap_i64]; omega
      clear hall hb
      by_cases hlt : k < n
      · obtain ⟨s, hs⟩ : ∃ s, l1[k]? = some s := ⟨_, List.getElem?_eq_getElem (by have := HN.out.1; omega)⟩
        obtain ⟨t, ht⟩ : ∃ t, l2[k]? = some t := ⟨_, List.getElem?_eq_getElem (by have := HN.out.2; omega)⟩
        obtain ⟨ad, had, -, hc⟩ := snap_at SA.cells_len (H1.out.since HB.out) hs
        obtain ⟨ad2, had2, hlt2, hc2⟩ := snap_at SA.cells_len (H2.out.since HB.out) ht
        have p1 := HS1.out s (List.mem_of_getElem? hs)
        have p2 := HS2.out t (List.mem_of_getElem? ht)
        have HST := Lib.hid (And.intro hs ht)
        obtain ⟨wA, hwA⟩ : ∃ wA, wA = (wr.alloc (.cells s.cells.toArray 66)).alloc (.cells t.cells.toArray 66) := ⟨_, rfl⟩
        have hbA : Below w.heap.size w wA := by rw [hwA]; exact (HB.out.alloc HB.out.size _).alloc (Nat.le_trans HB.out.size (by simp)) _
        have HCL := Lib.hid (samesnap_any s t wA (p1.1.since hbA) (p2.1.since hbA) p1.2 p2.2)
        have hc3 : ∀ j v, t.cells[j]? = some v → (wr.alloc (.cells s.cells.toArray 66)).cell? ((ad2.add (k * 11)).add j) = some v := fun j v hj => by
          have e := hc2 j v hj
          exact ((below_alloc wr (.cells s.cells.toArray 66)).cell (World.block_lt_of_cell? wr _ e)).trans e
        have K1 : Blk wA wr.heap.size 66 s.cells.toArray := by rw [hwA]; exact (Blk.new wr _ _).alloc _
        have K2 : Blk wA (wr.heap.size + 1) 66 t.cells.toArray := by rw [hwA]; exact blk_two wr _ _ _
        have HBA := Lib.hid hbA
        rw [hwA] at K1 K2
        have HWA := Lib.hid hwA
        subst had had2
        clear hs ht p1 p2 hbA hwA hc2
        unfold SA.cells at K1 K2 hc3 HWA HCL
        go_wp2_with (first
          | (have _h := hc; refine wpList_loadp rfl 66 (.tmp 20) rfl _ [.int .i64 s.num, .int .i64 s.vw.size, .string (strOf s.name), .bool s.vw.on, .bool s.vw.good, .bool s.prot, .slice s.vw.M s.vw.row.length s.vw.cm, .string (strOf s.vw.par), .int .i64 s.vw.ps, .int .i64 s.vw.ov, .slice s.C s.ch.length s.cc] _ rfl hc Try.underlying66 rfl (by kernel_rfl) ?_; clear _h hc)
          | (have _h := hc3; refine wpList_loadp rfl 66 (.tmp 24) rfl _ [.int .i64 t.num, .int .i64 t.vw.size, .string (strOf t.name), .bool t.vw.on, .bool t.vw.good, .bool t.prot, .slice t.vw.M t.vw.row.length t.vw.cm, .string (strOf t.vw.par), .int .i64 t.vw.ps, .int .i64 t.vw.ov, .slice t.C t.ch.length t.cc] _ rfl hc3 Try.underlying66 rfl (by kernel_rfl) ?_; clear _h hc3)
          | (have _h := K1; refine wpList_loadq rfl 66 (.tmp 8) rfl wr.heap.size [.int .i64 s.num, .int .i64 s.vw.size, .string (strOf s.name), .bool s.vw.on, .bool s.vw.good, .bool s.prot, .slice s.vw.M s.vw.row.length s.vw.cm, .string (strOf s.vw.par), .int .i64 s.vw.ps, .int .i64 s.vw.ov, .slice s.C s.ch.length s.cc] _ rfl K1 Try.underlying66 rfl (by kernel_rfl) ?_; clear _h K1)
          | (have _h := K2; refine wpList_loadq rfl 66 (.tmp 9) rfl (wr.heap.size + 1) [.int .i64 t.num, .int .i64 t.vw.size, .string (strOf t.name), .bool t.vw.on, .bool t.vw.good, .bool t.prot, .slice t.vw.M t.vw.row.length t.vw.cm, .string (strOf t.vw.par), .int .i64 t.vw.ps, .int .i64 t.vw.ov, .slice t.C t.ch.length t.cc] _ rfl K2 Try.underlying66 rfl (by kernel_rfl) ?_; clear _h K2))
        rw [← HWA.out]
        refine HCL.out.mono ?_
        rintro e w1 ⟨r, rfl, hr, b1⟩
        have HB1 := Lib.hid (HBA.out.trans (b1.mono HBA.out.size))
        have HR := Lib.hid hr
        clear b1 hr HCL HWA
        cases r with
        | true =>
          go_wp2
          go_roundw
          case rel => exact ⟨k + 1, by omega, by go_num, HB1.out, fun j hj => by
            rcases Nat.lt_succ_iff_lt_or_eq.1 hj with h | rfl
            · exact HA.out j h
            · rw [List.getElem?_map, List.getElem?_map, HST.out.1, HST.out.2]; exact congrArg some (HR.out.1 (by trivial))⟩
          case measure => simp [intOf]; omega
        | false =>
          go_wp2
          go_ret
          exact ⟨false, rfl, ⟨fun h => (by cases h), fun h => by
            have e := congrArg (fun l => l[k]?) h
            simp only [List.getElem?_map, HST.out.1, HST.out.2] at e
            exact HR.out.2 (Option.some.inj e)⟩, HB1.out⟩
      · obtain rfl : k = n := by omega
        go_wp2
        go_ret
        exact ⟨true, rfl, ⟨fun _ => List.ext_getElem? fun j => by
          by_cases hj : j < k
          · exact HA.out j hj
          · rw [List.getElem?_eq_none (by have := HN.out.1; simp; omega), List.getElem?_eq_none (by have := HN.out.2; simp; omega)], fun _ => rfl⟩, HB.out⟩
  · have hd : ((l1.length : Int) == (l2.length : Int)) = false := by rw [beq_eq_false_iff_ne]; omega
    have HN := Lib.hid hne
    clear hne h1 h2 hs1 hs2
    go_enter Try.func60, Try.ntmps60
    go_wp2
    go_ret
    exact ⟨false, rfl, ⟨fun h => (by cases h), fun h => absurd (by simpa using congrArg List.length h) HN.out⟩, Below.refl _ _⟩
end Go.Proofs.Ytiimanoloedbeaa

/-
  Two rows of six numbers compared. No condition.
-/
namespace Go.Proofs.Ytiimanoloedbeaa
open Go.RowKit Go.BigFrame
set_option linter.unusedSimpArgs false
set_option linter.unusedVariables false
set_option maxRecDepth 100000
def HA.six (a : HA) : Array Value := #[.int .i64 a.id, .int .i64 a.obj, .int .i64 a.seq, .int .i64 a.ow, .int .i64 a.it, .int .i64 a.tg]
def SixSame (a b : HA) : Prop := a.id = b.id ∧ a.obj = b.obj ∧ a.seq = b.seq ∧ a.ow = b.ow ∧ a.it = b.it ∧ a.tg = b.tg
instance (a b : HA) : Decidable (SixSame a b) := by unfold SixSame; infer_instance
theorem run_six_in (a1 a2 a3 a4 a5 a6 b1 b2 b3 b4 b5 b6 : Int) (w : World) : (Op.equalIn 10000 101 (.agg #[.int .i64 a1, .int .i64 a2, .int .i64 a3, .int .i64 a4, .int .i64 a5, .int .i64 a6]) (.agg #[.int .i64 b1, .int .i64 b2, .int .i64 b3, .int .i64 b4, .int .i64 b5, .int .i64 b6])).run Try.prog w = .ok (decide (a1 = b1 ∧ a2 = b2 ∧ a3 = b3 ∧ a4 = b4 ∧ a5 = b5 ∧ a6 = b6)) w := by
  have hsz : (sizeOf 3).run Try.prog w = .ok 1 w := by kernel_rfl
  have pe : ∀ (x y : Int), (Op.equalIn (9998 + 1) 3 (.int .i64 x) (.int .i64 y)).run Try.prog w = .ok (x == y) w := fun x y => run_equalIn_int w 9998 3 .i64 .i64 x y Try.underlying3
  rw [show (10000 : Nat) = (9998 + 1) + 1 from rfl, Op.equalIn]
  simp only [Sem.run_bind, run_underlying Try.underlying101, Result.andThen_ok, hsz, Std.Legacy.Range.forIn_eq_forIn_range', Std.Legacy.Range.size, Nat.sub_zero, Nat.add_sub_cancel, Nat.div_one]
  simp only [List.range', List.forIn_cons, List.forIn_nil, Sem.run_bind]
  have p0 : ∀ x1 x2 x3 x4 x5 x6 : Int, (Go.part 3 #[Value.int .i64 x1, .int .i64 x2, .int .i64 x3, .int .i64 x4, .int .i64 x5, .int .i64 x6] 0).run Try.prog w = Result.ok (.int .i64 x1) w := fun x1 x2 x3 x4 x5 x6 => by first | kernel_rfl | rfl | simp [Go.part, Go.isAgg, run_underlying Try.underlying3]
  have p1 : ∀ x1 x2 x3 x4 x5 x6 : Int, (Go.part 3 #[Value.int .i64 x1, .int .i64 x2, .int .i64 x3, .int .i64 x4, .int .i64 x5, .int .i64 x6] 1).run Try.prog w = Result.ok (.int .i64 x2) w := fun x1 x2 x3 x4 x5 x6 => by first | kernel_rfl | rfl | simp [Go.part, Go.isAgg, run_underlying Try.underlying3]
  have p2 : ∀ x1 x2 x3 x4 x5 x6 : Int, (Go.part 3 #[Value.int .i64 x1, .int .i64 x2, .int .i64 x3, .int .i64 x4, .int .i64 x5, .int .i64 x6] 2).run Try.prog w = Result.ok (.int .i64 x3) w := fun x1 x2 x3 x4 x5 x6 => by first | kernel_rfl | rfl | simp [Go.part, Go.isAgg, run_underlying Try.underlying3]
  have p3 : ∀ x1 x2 x3 x4 x5 x6 : Int, (Go.part 3 #[Value.int .i64 x1, .int .i64 x2, .int .i64 x3, .int .i64 x4, .int .i64 x5, .int .i64 x6] 3).run Try.prog w = Result.ok (.int .i64 x4) w := fun x1 x2 x3 x4 x5 x6 => by first | kernel_rfl | rfl | simp [Go.part, Go.isAgg, run_underlying Try.underlying3]
  have p4 : ∀ x1 x2 x3 x4 x5 x6 : Int, (Go.part 3 #[Value.int .i64 x1, .int .i64 x2, .int .i64 x3, .int .i64 x4, .int .i64 x5, .int .i64 x6] 4).run Try.prog w = Result.ok (.int .i64 x5) w := fun x1 x2 x3 x4 x5 x6 => by first | kernel_rfl | rfl | simp [Go.part, Go.isAgg, run_underlying Try.underlying3]
  have p5 : ∀ x1 x2 x3 x4 x5 x6 : Int, (Go.part 3 #[Value.int .i64 x1, .int .i64 x2, .int .i64 x3, .int .i64 x4, .int .i64 x5, .int .i64 x6] 5).run Try.prog w = Result.ok (.int .i64 x6) w := fun x1 x2 x3 x4 x5 x6 => by first | kernel_rfl | rfl | simp [Go.part, Go.isAgg, run_underlying Try.underlying3]
  have pe1 : ∀ (x y : Int), x ≠ y → (Op.equalIn (9998 + 1) 3 (.int .i64 x) (.int .i64 y)).run Try.prog w = .ok false w := fun x y h => by rw [pe, beq_eq_false_iff_ne.2 h]
  have pe2 : ∀ (x : Int), (Op.equalIn (9998 + 1) 3 (.int .i64 x) (.int .i64 x)).run Try.prog w = .ok true w := fun x => by rw [pe, beq_self_eq_true]
  clear pe
  generalize Op.equalIn (9998 + 1) 3 = eq at *
  by_cases h1 : a1 = b1
  rotate_left
  · simp [p0, p1, p2, p3, p4, p5, pe1, h1]
  subst h1
  by_cases h2 : a2 = b2
  rotate_left
  · simp [p0, p1, p2, p3, p4, p5, pe1, pe2, h2]
  subst h2
  by_cases h3 : a3 = b3
  rotate_left
  · simp [p0, p1, p2, p3, p4, p5, pe1, pe2, h3]
  subst h3
  by_cases h4 : a4 = b4
  rotate_left
  · simp [p0, p1, p2, p3, p4, p5, pe1, pe2, h4]
  subst h4
  by_cases h5 : a5 = b5
  rotate_left
  · simp [p0, p1, p2, p3, p4, p5, pe1, pe2, h5]
  subst h5
  by_cases h6 : a6 = b6
  rotate_left
  · simp [p0, p1, p2, p3, p4, p5, pe1, pe2, h6]
  subst h6
  simp [p0, p1, p2, p3, p4, p5, pe2]
theorem run_six_eql (a b : HA) (w : World) : (binOp .eql 101 (.agg a.six) (.agg b.six)).run Try.prog w = .ok (.bool (decide (SixSame a b))) w := by
  rw [run_eql_struct]
  unfold HA.six
  rw [run_six_in]
  rfl
end Go.Proofs.Ytiimanoloedbeaa
