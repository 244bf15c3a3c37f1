/-
  Memory while heads are read; what is read of marks and links. Conditions: the reader lies where it is said to; its bytes are no more than a million.
-/
import Derived.Test.YtiimanoloedbeaaOc
import Derived.OpenShut
import Derived.ShutString
import Derived.ChangeOld
import Derived.Deep.Matrix
import Derived.Deep.Slices
import Derived.Deep.Grids
import Derived.Deep.Fields
import Derived.ChangeSame
import Derived.Deep.DeepHandedRow
import Derived.Lib.LaidTab
import Derived.Deep.Strs
import Derived.Stop.BytesEq

namespace Go.Proofs.Ytiimanoloedbeaa
open Go.RowKit Go.BigFrame
set_option linter.unusedSimpArgs false
set_option linter.unusedVariables false
set_option maxRecDepth 100000
theorem far_of {w w' : World} {F F' : List Nat} {k : Nat} (hk : k < w.heap.size) (hn : k ∉ F) (hf : Fresh w F F') : k ∉ F' := fun hm => by
  rcases hf k hm with h | h
  · exact hn h
  · omega
/-- a view whose marks are the call's own, out of the way of F -/
structure VA.N (v : VA) (w : World) (base : Nat) (F : List Nat) : Prop where
  own : Own w base (.slice v.M v.row.length v.cm) v.row.length v.row
  far : ∀ k ∈ rowOf (.slice v.M 0 0), k ∉ F
  ok : ∀ b ∈ v.row, b < 256
  par : ∀ b ∈ v.par, b < 256
  size : I64 v.size
  ps : I64 v.ps
  ov : I64 v.ov
  pl : v.par.length ≤ 1000000
structure SA.N (s : SA) (w : World) (base : Nat) (F : List Nat) : Prop where
  vw : s.vw.N w base F
  own : w.ownsRow base 9 1 (.slice s.C s.ch.length s.cc) s.ch.length (strs s.ch)
  far : ∀ k ∈ rowOf (.slice s.C 0 0), k ∉ F
  ok : ∀ c ∈ s.ch, ∀ b ∈ c, b < 256
  name : ∀ b ∈ s.name, b < 256
  num : I64 s.num
  nl : s.name.length ≤ 1000000
section
variable {w w' : World} {base base' : Nat} {F F' : List Nat}
theorem VA.N.of {v : VA} (h : v.N w base F) (hk : ∀ k ∈ rowOf (.slice v.M 0 0), w'.heap[k]? = w.heap[k]?) : v.N w' base F :=
  ⟨row_of h.own fun k hm => hk k (by rw [row_slice v.M 0 0 v.row.length v.cm]; exact hm), h.far, h.ok, h.par, h.size, h.ps, h.ov, h.pl⟩
theorem VA.N.under {v : VA} (h : v.N w base F) {k : Nat} (hk : k ∈ rowOf (.slice v.M 0 0)) : k < w.heap.size := row_under h.own k (by rw [row_slice v.M v.row.length v.cm 0 0]; exact hk)
theorem VA.N.read {v : VA} (h : v.N w base F) (o : Only F w w') (f : Fresh w F F') : v.N w' base F' := by
  have h1 := h.of (fun k hk => o.block k (h.under hk) (h.far k hk))
  exact ⟨h1.own, fun k hk => far_of (w' := w') (h.under hk) (h.far k hk) f, h1.ok, h1.par, h1.size, h1.ps, h1.ov, h1.pl⟩
theorem VA.N.below {v : VA} (h : v.N w base F) (hb : Below w.heap.size w w') : v.N w' base F := h.of fun k hk => hb.block k (h.under hk)
theorem VA.N.ty {v : VA} (h : v.N w base F) {k : Nat} (hk : k ∈ rowOf (.slice v.M 0 0)) : ∃ cs, Blk w k 5 cs := own_ty h.own (by rw [row_slice v.M v.row.length v.cm 0 0]; exact hk)
theorem SA.N.under {s : SA} (h : s.N w base F) {k : Nat} (hk : k ∈ rowOf (.slice s.C 0 0)) : k < w.heap.size := row_under h.own k (by rw [row_slice s.C s.ch.length s.cc 0 0]; exact hk)
theorem SA.N.ty {s : SA} (h : s.N w base F) {k : Nat} (hk : k ∈ rowOf (.slice s.C 0 0)) : ∃ cs, Blk w k 9 cs := own_ty h.own (by rw [row_slice s.C s.ch.length s.cc 0 0]; exact hk)
theorem SA.N.of {s : SA} (h : s.N w base F) (hv : ∀ k ∈ rowOf (.slice s.vw.M 0 0), w'.heap[k]? = w.heap[k]?) (hk : ∀ k ∈ rowOf (.slice s.C 0 0), w'.heap[k]? = w.heap[k]?) : s.N w' base F :=
  ⟨h.vw.of hv, row_of h.own fun k hm => hk k (by rw [row_slice s.C 0 0 s.ch.length s.cc]; exact hm), h.far, h.ok, h.name, h.num, h.nl⟩
theorem SA.N.read {s : SA} (h : s.N w base F) (o : Only F w w') (f : Fresh w F F') : s.N w' base F' := by
  have h1 := h.of (w' := w') (fun k hk => o.block k (h.vw.under hk) (h.vw.far k hk)) (fun k hk => o.block k (h.under hk) (h.far k hk))
  exact ⟨h.vw.read o f, h1.own, fun k hk => far_of (w' := w') (h.under hk) (h.far k hk) f, h1.ok, h1.name, h1.num, h1.nl⟩
theorem SA.N.below {s : SA} (h : s.N w base F) (hb : Below w.heap.size w w') : s.N w' base F := h.of (fun k hk => hb.block k (h.vw.under hk)) (fun k hk => hb.block k (h.under hk))
/-- blocks of bytes and of strings stay -/
def Stay (w w' : World) : Prop := ∀ k t cs, Blk w k t cs → t = 5 ∨ t = 9 → w'.heap[k]? = w.heap[k]?
theorem VA.N.stay {v : VA} (h : v.N w base F) (hs : Stay w w') : v.N w' base F := h.of fun k hk => by obtain ⟨cs, hb⟩ := h.ty hk; exact hs k _ cs hb (.inl rfl)
theorem SA.N.stay {s : SA} (h : s.N w base F) (hs : Stay w w') : s.N w' base F := h.of (fun k hk => by obtain ⟨cs, hb⟩ := h.vw.ty hk; exact hs k _ cs hb (.inl rfl)) (fun k hk => by obtain ⟨cs, hb⟩ := h.ty hk; exact hs k _ cs hb (.inr rfl))
theorem VA.N.weaken {v : VA} (h : v.N w base F) (hb : base' ≤ base) : v.N w base' F := ⟨h.own.weaken hb, h.far, h.ok, h.par, h.size, h.ps, h.ov, h.pl⟩
theorem SA.N.weaken {s : SA} (h : s.N w base F) (hb : base' ≤ base) : s.N w base' F := ⟨h.vw.weaken hb, row_weaken h.own hb, h.far, h.ok, h.name, h.num, h.nl⟩
theorem VA.N.R {v : VA} (h : v.N w base F) : v.R w := by
  obtain ⟨-, c1, c2, -⟩ := own_shape h.own
  unfold maxLen at c2
  exact ⟨h.own.bytes h.ok, h.par, h.size, h.ps, h.ov, by omega, by have := h.pl; omega, c1⟩
theorem SA.N.R {s : SA} (h : s.N w base F) : s.R w := by
  obtain ⟨-, c1, c2, -⟩ := own_shape h.own
  unfold maxLen at c2
  exact ⟨h.vw.R, ⟨Reads.of_own h.own, h.ok⟩, h.name, h.num, by omega, by have := h.nl; omega, c1⟩
theorem stay_only {g : Nat} {t : TypeId} {cs : Array Value} (hk : Blk w g t cs) (h1 : t ≠ 5) (h2 : t ≠ 9) (o : Only [g] w w') : Stay w w' := fun k t' cs' hb ht => o.block k hb.lt (fun hm => by
  simp at hm
  subst hm
  rcases ht with rfl | rfl
  · exact hb.ne_ hk (Ne.symm h1) rfl
  · exact hb.ne_ hk (Ne.symm h2) rfl)
/-- a reader, and two blocks of the call's own -/
structure Tb (base : Nat) (w wr : World) (F0 F : List Nat) (p : Option Addr) (s : RD) (t : TypeId) (g2 g3 : Nat) (Z2 cs3 : Array Value) : Prop where
  rd : Rd wr base F p s
  only : Only F0 w wr
  fresh : Fresh w F0 F
  k2 : Blk wr g2 t Z2
  n2 : g2 ∉ F
  k3 : Blk wr g3 t cs3
  n3 : g3 ∉ F
  b2 : w.heap.size ≤ g2
  b3 : w.heap.size ≤ g3
variable {wr w2 : World} {F0 : List Nat} {p : Option Addr} {s s' : RD} {t : TypeId} {g2 g3 : Nat} {Z2 cs3 cs4 : Array Value}
theorem Tb.read (h : Tb base w wr F0 F p s t g2 g3 Z2 cs3) (r : Rd w2 base F' p s') (o : Only F wr w2) (f : Fresh wr F F') : Tb base w w2 F0 F' p s' t g2 g3 Z2 cs3 :=
  ⟨r, h.only.trans o h.fresh, h.fresh.trans f h.only.size, h.k2.of (o.block _ h.k2.lt h.n2), far_of (w' := w2) h.k2.lt h.n2 f, h.k3.of (o.block _ h.k3.lt h.n3), far_of (w' := w2) h.k3.lt h.n3 f, h.b2, h.b3⟩
theorem Tb.next (h : Tb base w wr F0 F p s t g2 g3 Z2 cs3) (hb : Below wr.heap.size wr w2) : Tb base w w2 F0 F p s t g2 g3 Z2 cs3 := h.read (h.rd.below hb) (Only.of_below hb F) (Fresh.refl _ _)
theorem Tb.store (h : Tb base w wr F0 F p s t g2 g3 Z2 cs3) (hne : g2 ≠ g3) (k : Blk w2 g3 t cs4) (o : Only [g3] wr w2) (hs : w2.heap.size = wr.heap.size) : Tb base w w2 F0 F p s t g2 g3 Z2 cs4 := by
  refine ⟨h.rd.of (by omega) (fun k hk => o.block k (h.rd.under k hk) (fun hm => by simp at hm; subst hm; exact h.n3 hk)), ?_, h.fresh, h.k2.only o (by simpa using hne), h.n2, k, h.n3, h.b2, h.b3⟩
  have b3 := h.b3
  exact ⟨o.os.trans h.only.os, o.tape.trans h.only.tape, o.output.trans h.only.output, by have := h.only.size; omega, fun i hi hn => (o.block i (by have := h.only.size; omega) (by simp; omega)).trans (h.only.block i hi hn)⟩
end
end Go.Proofs.Ytiimanoloedbeaa

/-
  What is read of marks, links, children. Conditions: the reader lies where it is said to; its bytes are no more than a million.
-/
namespace Go.Proofs.Ytiimanoloedbeaa
open Go.RowKit Go.BigFrame
set_option linter.unusedSimpArgs false
set_option linter.unusedVariables false
set_option maxRecDepth 100000
theorem str_info : (Try.prog.info? 9).map (fun i => (i.zero, i.size, i.bytes)) = some (some (.string ⟨#[]⟩), 1, 16) := by kernel_rfl
/-- names of the call's own -/
def OwnS (w : World) (base : Nat) (v : Value) (l : List (List Nat)) : Prop := w.ownsRow base 9 1 v l.length (strs l)
theorem OwnS.nil (w : World) (base : Nat) : OwnS w base (.slice none 0 0) [] := World.ownsRow_nil w base _ 1
section
variable {P : Program} {ops : Array Oper} {rest : List Oper} {o : Oper} {a : Act} {w : World} {Q : Exit → Act → World → Prop}
/-- three cells of a block known whole are stored -/
theorem wpList_set3 (hgd : o.guard = none) (ty : TypeId) (x y : Operand) (ho : o.op = .store ty x y)
    (g i : Nat) (t : TypeId) (cs : Array Value) (u v z : Value) (hx : a.eval x = .pointer (some ⟨g, i, none⟩)) (hy : a.eval y = .agg #[u, v, z]) (hB : Blk w g t cs) (hs : i + 2 < cs.size) (hi : (P.info? ty).map (·.size) = some 3) (h1 : u.oneCell' = true) (h2 : v.oneCell' = true) (h3 : z.oneCell' = true)
    (h : ∀ w', Blk w' g t (((cs.setIfInBounds i u).setIfInBounds (i + 1) v).setIfInBounds (i + 2) z) → Only [g] w w' → w'.heap.size = w.heap.size → wpList P ops Q rest (a.put o.dst undef) w') : wpList P ops Q (o :: rest) a w := by
  refine wpList_store_mid hgd ty x y ho g i #[u, v, z] hx hy (hB.there (by simp; omega)) (by simpa using hi) (all_oneCell_toArray (cs := [u, v, z]) (by intro q hq; simp at hq; rcases hq with rfl | rfl | rfl <;> assumption)) (h _ ?_ ((Only.refl _ _).grown (by simpa using (setCells_grown g [u, v, z] i w).1) (fun k e => .inl (by injection e with e; simp [e]))) (by simpa using (setCells_grown g [u, v, z] i w).2))
  have := ((hB.set_ i u).set_ (i + 1) v).set_ (i + 2) z
  simpa [World.setCells] using this
end
end Go.Proofs.Ytiimanoloedbeaa

/-
  What is read of a snapshot. Conditions: the reader lies where it is said to; its bytes are no more than a million.
-/
namespace Go.Proofs.Ytiimanoloedbeaa
open Go.RowKit Go.BigFrame
set_option linter.unusedSimpArgs false
set_option linter.unusedVariables false
set_option maxRecDepth 100000
end Go.Proofs.Ytiimanoloedbeaa

/-
  What is read of a head that tells of no snapshot. Conditions: the reader lies where it is said to; its bytes are no more than a million.
-/
namespace Go.Proofs.Ytiimanoloedbeaa
open Go.RowKit Go.BigFrame
set_option linter.unusedSimpArgs false
set_option linter.unusedVariables false
set_option maxRecDepth 100000
theorem head_zero (w : World) : (zeroValue 36).run Try.prog w = .ok (.agg #[.int .i64 0, .int .i64 0, .int .i64 0, .int .i64 0, .slice none 0 0, .bool false, .bool false, .slice none 0 0, .string ⟨#[]⟩, .int .i64 0, .int .i64 0, .int .i64 0, .int .i64 0, .int .i64 0]) w := by kernel_rfl
theorem one14 (a b c d x y z : Int) (p q : Bool) (M C : Option Addr) (n cm m cc : Nat) (par : ByteArray) (e f : Int) : ∀ u ∈ [Value.int .i64 a, .int .i64 b, .int .i64 c, .int .i64 d, .slice C m cc, .bool p, .bool q, .slice M n cm, .string par, .int .i64 e, .int .i64 f, .int .i64 x, .int .i64 y, .int .i64 z], u.oneCell' = true := by
  intro u hu
  simp at hu
  rcases hu with rfl | rfl | rfl | rfl | rfl | rfl | rfl | rfl | rfl | rfl | rfl | rfl | rfl | rfl <;> rfl
end Go.Proofs.Ytiimanoloedbeaa

/-
  Take of heads, where takeHead reads as it is said to. Conditions: the bytes are no more than a million; what is read is small.
-/
namespace Go.Proofs.Ytiimanoloedbeaa
open Go.RowKit Go.BigFrame
set_option linter.unusedSimpArgs false
set_option linter.unusedVariables false
set_option maxRecDepth 100000
theorem results_cell_tmp9 {P : Program} {fn : Func} {p q : Tmp} {ty : TypeId} (h : fn.results = #[.cell p ty, .tmp q]) (tmps : Array Value) (w : World) (g : Nat) (t : TypeId) (cs : Array Value) (fr : Nat × Nat) (d : TypeDesc) (v : Value)
    (hp : tmps.getD p undef = .pointer (some ⟨g, 0, none⟩)) (hq : tmps.getD q undef = v) (hg : w.heap[g]? = some (.cells cs t fr))
    (hu : P.underlying ty = some d) (hd : (match d with | .struct _ | .array _ _ => true | _ => false) = true) (hi : (P.info? ty).map (·.size) = some cs.size) :
    (results fn tmps).run P w = .ok (.tuple #[.agg cs, v]) w := by
  have hp' : tmps[p]?.getD undef = .pointer (some ⟨g, 0, none⟩) := by simpa using hp
  have hq' : tmps[q]?.getD undef = v := by simpa using hq
  simp [results, h, hp', hq', asAddr, run_loadVar_row w g t ty cs fr d hg hu hd hi]
/-- a head of the call's own -/
structure HA.N (a : HA) (w : World) (base : Nat) (F : List Nat) : Prop where
  vw : a.vw.N w base F
  sn : ∀ x ∈ a.sn, x.N w base F
  own : w.ownsRow base 66 11 (.slice a.S a.sn.length a.cs') a.sn.length (a.sn.flatMap SA.cells)
  id : I64 a.id
  obj : I64 a.obj
  seq : I64 a.seq
  ow : I64 a.ow
  it : I64 a.it
  tg : I64 a.tg
theorem HA.N.R {a : HA} {w : World} {base : Nat} {F : List Nat} (h : a.N w base F) : a.R SA.cells w := by
  obtain ⟨-, c1, c2, -⟩ := own_shape h.own
  unfold maxLen at c2
  exact ⟨h.vw.R, Reads.of_own h.own, fun s hs => (h.sn s hs).R, h.id, h.obj, h.seq, h.ow, h.it, h.tg, by omega, c1⟩
theorem HA.N.below {a : HA} {w w' : World} {base : Nat} {F : List Nat} (h : a.N w base F) (hb : Below w.heap.size w w') : a.N w' base F :=
  ⟨h.vw.below hb, fun x hx => (h.sn x hx).below hb, own_below h.own hb, h.id, h.obj, h.seq, h.ow, h.it, h.tg⟩
theorem HA.N.weaken {a : HA} {w : World} {base base' : Nat} {F : List Nat} (h : a.N w base F) (hb : base' ≤ base) : a.N w base' F :=
  ⟨h.vw.weaken hb, fun x hx => (h.sn x hx).weaken hb, row_weaken h.own hb, h.id, h.obj, h.seq, h.ow, h.it, h.tg⟩
theorem HA.N.alone {a : HA} {w : World} {base : Nat} {F : List Nat} (h : a.N w base F) : a.N w base [] :=
  ⟨⟨h.vw.own, fun _ _ h => (by cases h), h.vw.ok, h.vw.par, h.vw.size, h.vw.ps, h.vw.ov, h.vw.pl⟩, fun x hx => by
    have q := h.sn x hx
    exact ⟨⟨q.vw.own, fun _ _ h => (by cases h), q.vw.ok, q.vw.par, q.vw.size, q.vw.ps, q.vw.ov, q.vw.pl⟩, q.own, fun _ _ h => (by cases h), q.ok, q.name, q.num, q.nl⟩, h.own, h.id, h.obj, h.seq, h.ow, h.it, h.tg⟩
/-- a store to one head's block turns none of it -/
theorem HA.N.stay {a : HA} {w w' : World} {base g : Nat} {F : List Nat} {cs : Array Value} (h : a.N w base F) (hk : Blk w g 36 cs) (o : Only [g] w w') : a.N w' base F := by
  have st := stay_only hk (by decide) (by decide) o
  refine ⟨h.vw.stay st, fun x hx => (h.sn x hx).stay st, row_of h.own fun k hm => o.block k (row_under h.own k hm) (fun hx => ?_), h.id, h.obj, h.seq, h.ow, h.it, h.tg⟩
  simp at hx
  subst hx
  obtain ⟨cs', hb⟩ := own_ty h.own hm
  exact hb.ne_ hk (by decide) rfl
theorem named_lt {c : List Nat} (h : namedB c = true) : ∀ b ∈ c, b < 256 := by
  intro b hb
  unfold namedB at h
  simp only [Bool.and_eq_true, List.all_eq_true] at h
  have := h.2 b hb
  rcases sign_cases b with ⟨-, q⟩ | ⟨q, -⟩
  · omega
  · rw [q] at this; cases this
end Go.Proofs.Ytiimanoloedbeaa

/-
  The law's fixed fact. No condition.
-/
namespace Go.Proofs.Ytiimanoloedbeaa
open Go.RowKit Go.BigFrame
set_option linter.unusedSimpArgs false
set_option linter.unusedVariables false
set_option maxRecDepth 100000
def a0 : HA := ⟨0, 16, 0, none, 0, [], ⟨0, false, false, [], none, 0, [], 0, 0⟩, -1, 0, 0⟩
theorem a0_R (w : World) : a0.R SA.cells w :=
  ⟨⟨⟨Reads.none_, fun b hb => (by cases hb)⟩, fun b hb => (by cases hb), by unfold I64; decide, by unfold I64; decide, by unfold I64; decide, by decide, by decide, by decide⟩, Reads.none_, fun s hs => (by cases hs), by unfold I64; decide, by unfold I64; decide, by unfold I64; decide, by unfold I64; decide, by unfold I64; decide, by unfold I64; decide, by decide, by decide⟩
theorem a0_Sm : a0.Sm := ⟨⟨by decide, by decide⟩, by decide, fun s hs => (by cases hs)⟩
theorem a0_B : a0.v.B = true := by decide
end Go.Proofs.Ytiimanoloedbeaa

/-
  How arguments that came in are opened: bytes, numbers, flags. No condition.
-/
namespace Go.Proofs.Ytiimanoloedbeaa
open Go.ChangeShapes Go.WideShapes Go.ChangeAt Go.RowKit
set_option maxRecDepth 100000
theorem own : ownKnob Try.prog.godebug = none := by kernel_rfl
theorem laidOut : laidOutB Try.prog = true := by kernel_rfl
theorem lt_of_cell {w : World} {a : Addr} {v : Value} (h : w.cell? a = some v) : a.block < w.heap.size := by
  rcases Nat.lt_or_ge a.block w.heap.size with h' | h'
  · exact h'
  · simp [World.cell?, Array.getElem?_eq_none h'] at h
theorem getD_map_toNat (zs : List Int) (i : Nat) (h : i < zs.length) (h0 : ∀ z ∈ zs, 0 ≤ z ∧ z ≤ 255) : ((((zs.map Int.toNat)[i]?).getD 0 : Nat) : Int) = zs.getD i 0 := by
  have := h0 _ (List.getElem_mem h)
  simp [h]
  omega
/-- the bytes of a row of cells that hold numbers of eight bits -/
theorem bytes_of_cells {W : World} {a : Addr} {len cap : Nat} {zs : List Int} (hl : len ≤ cap) (hz : zs.length = cap) (hcell : ∀ i, i < cap → W.cell? (a.add i) = some (.int .u8 (zs.getD i 0)))
    (hw : ∀ n ∈ zs, (Lit.int .u8 n).wf = true) : Bytes W W.heap.size (some a) len ((zs.map Int.toNat).take len) := by
  have hb : ∀ z ∈ zs, 0 ≤ z ∧ z ≤ 255 := fun z hz' => by
    have := hw z hz'
    simp [Lit.wf, IntKind.min, IntKind.max, IntKind.bits, IntKind.signed] at this
    omega
  refine ⟨⟨by simp [u8s]; omega, fun hn => ⟨a, rfl, ?_, fun j u hu => ?_⟩⟩, ?_⟩
  · have := lt_of_cell (hcell 0 (by omega))
    rwa [block_of_add] at this
  · have hj : j < len := by
      rcases Nat.lt_or_ge j len with h | h
      · exact h
      · rw [List.getElem?_eq_none (by simp [u8s]; omega)] at hu
        cases hu
    rw [hcell j (by omega), ← hu]
    have := getD_map_toNat zs j (by omega) hb
    simp [u8s, u8, hj, show j < zs.length by omega] at this ⊢
    omega
  · intro b hb'
    obtain ⟨z, hz', rfl⟩ := List.mem_map.1 (List.mem_of_mem_take hb')
    have := hb z hz'
    omega
theorem bytes_of {H : Type} {enc : TypeId × Value → H} {W : World} {n : Nat} {v : Value} {y : DataW H × List MemPlace} (h : DataW.trod enc Try.prog W 0 (fun _ => true) true n 23 [v] = some y) :
    ∃ (A : Option Addr) (m c : Nat) (l : List Nat), v = .slice A m c ∧ (m ≤ c ∧ c ≤ 9223372036854775807) ∧ Bytes W W.heap.size A m l := by
  rcases open_ints Try.underlying23 Try.underlying5 (by kernel_rfl) h with ⟨hcs, _⟩ | ⟨x, l, c, zs, hcs, _, hl, hm, hz, _, hcell, hwz⟩
  · exact ⟨none, 0, 0, [], by simpa using hcs, ⟨by omega, by omega⟩, Reads.none_, by simp⟩
  · simp only [List.cons.injEq, and_true] at hcs
    simp only [if_true] at hz
    unfold maxLen at hm
    exact ⟨_, _, _, _, hcs, ⟨by omega, by omega⟩, bytes_of_cells hl hz (fun i hi => hcell i (by omega)) hwz⟩
/-- flags as cells -/
def Flags (w : World) (B : Nat) (A : Option Addr) (n : Nat) (l : List Bool) : Prop := Reads w B 1 A n (l.map Value.bool)
theorem Flags.len {w : World} {B n : Nat} {A : Option Addr} {l : List Bool} (h : Flags w B A n l) : l.length = n := by have := h.1; rw [List.length_map] at this; omega
theorem Flags.below {w w' : World} {B n : Nat} {A : Option Addr} {l : List Bool} (h : Flags w B A n l) (hb : Below B w w') : Flags w' B A n l := Reads.below h hb
theorem Flags.at_ {w : World} {B n k : Nat} {A : Option Addr} {l : List Bool} (h : Flags w B A n l) (hk : k < n) : ∃ ad x, A = some ad ∧ l[k]? = some x ∧ w.cell? (ad.add k) = some (.bool x) := by
  obtain ⟨ad, u, e, hb, hx, hc⟩ := Reads.at_ h hk
  have hl : k < l.length := by have := h.len; omega
  refine ⟨ad, l[k], e, List.getElem?_eq_getElem hl, ?_⟩
  rw [hc, ← hx]
  simp [hl]
end Go.Proofs.Ytiimanoloedbeaa

/-
  How a head that came in is opened. No condition.
-/
namespace Go.Proofs.Ytiimanoloedbeaa
open Go.ChangeShapes Go.WideShapes Go.ChangeAt Go.RowKit Go.Deep
set_option maxRecDepth 100000
set_option linter.unusedSimpArgs false
set_option linter.unusedVariables false
theorem choose_lt_x {α : Type} [Inhabited α] {n : Nat} {P : Nat → α → Prop} (h : ∀ i, i < n → ∃ x, P i x) : ∃ f : Nat → α, ∀ i, i < n → P i (f i) :=
  ⟨fun i => if hi : i < n then (h i hi).choose else default, fun i hi => by simp only [hi, dif_pos]; exact (h i hi).choose_spec⟩
theorem str_form (s : ByteArray) : strOf (s.data.toList.map UInt8.toNat) = s := by
  have := strOf_data (s.data.toList.map UInt8.toNat)
  rw [List.map_map] at this
  have e : (UInt8.ofNat ∘ UInt8.toNat) = id := by funext x; simp
  rw [e, List.map_id] at this
  cases h : strOf (s.data.toList.map UInt8.toNat) with
  | mk d =>
    rw [h] at this
    cases s with
    | mk d' =>
      congr 1
      exact Array.toList_inj.1 this
theorem str_small (s : ByteArray) : ∀ b ∈ s.data.toList.map UInt8.toNat, b < 256 := by
  intro b hb
  obtain ⟨x, _, rfl⟩ := List.mem_map.1 hb
  exact x.toNat_lt
theorem str_len (s : ByteArray) : (s.data.toList.map UInt8.toNat).length = s.size := by rw [List.length_map, Array.length_toList]; rfl
theorem flat_len {α β : Type} {f : α → List β} {size : Nat} (hf : ∀ x, (f x).length = size) : ∀ l : List α, (l.flatMap f).length = l.length * size
  | [] => by simp
  | x :: l => by rw [List.flatMap_cons, List.length_append, hf, flat_len hf l, List.length_cons, Nat.add_mul]; omega
theorem strs_of {H : Type} {enc : TypeId × Value → H} {W : World} {n : Nat} {v : Value} {y : DataW H × List MemPlace} (h : DataW.trod enc Try.prog W 0 (fun _ => true) true n 64 [v] = some y) :
    ∃ (A : Option Addr) (c : Nat) (l : List (List Nat)), v = .slice A l.length c ∧ (l.length ≤ c ∧ c ≤ 9223372036854775807) ∧ Strs W W.heap.size A l.length l := by
  rcases open_strs Try.underlying64 Try.underlying9 (by kernel_rfl) h with ⟨hcs, _⟩ | ⟨a, len, cap, m, Sx, hcs, _, hl, hm, hmm, _, hcell⟩
  · exact ⟨none, 0, [], by simpa using hcs, ⟨by simp, by omega⟩, Reads.none_, fun c hc => by cases hc⟩
  · simp only [List.cons.injEq, and_true] at hcs
    simp only [if_true] at hmm
    unfold maxLen at hm
    refine ⟨some a, cap, (List.range len).map fun i => (Sx i).data.toList.map UInt8.toNat, by rw [hcs]; simp, ⟨by simpa using hl, by omega⟩, ⟨by simp [strs], fun hn => ⟨a, rfl, ?_, fun j u hu => ?_⟩⟩, fun c hc => ?_⟩
    · have := lt_of_cell (hcell 0 (by simp at hn; omega)).1
      rwa [block_of_add] at this
    · have hj : j < len := by
        rcases Nat.lt_or_ge j len with h | h
        · exact h
        · rw [List.getElem?_eq_none (by simp [strs]; omega)] at hu
          cases hu
      rw [(hcell j (by omega)).1, ← hu]
      simp [strs, hj, str_form]
    · obtain ⟨i, _, rfl⟩ := List.mem_map.1 hc
      exact str_small _
theorem take1 {cs : List Value} {j : Nat} (h : j < cs.length) : (cs.drop j).take 1 = [cs[j]'h] := by
  rw [List.drop_eq_getElem_cons h]
  rfl
theorem i64_of {n : Int} (w : (Lit.int .i64 n).wf = true) : I64 n := by
  simp [Lit.wf, IntKind.min, IntKind.max, IntKind.bits, IntKind.signed] at w
  exact ⟨by omega, by omega⟩
set_option maxRecDepth 100000 in
set_option maxHeartbeats 4000000 in
theorem marked_of {H : Type} {enc : TypeId × Value → H} {W : World} {n : Nat} {cs : List Value} {y : DataW H × List MemPlace} (h : DataW.trod enc Try.prog W 0 (fun _ => true) true n 25 cs = some y) (hl : cs.length = 3) :
    ∃ (p q : Bool) (M : Option Addr) (c : Nat) (l : List Nat), cs = [.bool p, .bool q, .slice M l.length c] ∧ (l.length ≤ c ∧ c ≤ 9223372036854775807) ∧ Bytes W W.heap.size M l.length l := by
  obtain ⟨ys, n', _, _, hlen, hyl, hf⟩ := DataW.trod_struct Try.underlying25 h
  have f0 : DataW.trod enc Try.prog W 0 (fun _ => true) true n' 4 (List.take (Try.prog.cellsOf 4) (List.drop 0 cs)) = ys[0]? := hf 0 _ rfl
  have f1 : DataW.trod enc Try.prog W 0 (fun _ => true) true n' 4 (List.take (Try.prog.cellsOf 4) (List.drop 1 cs)) = ys[1]? := hf 1 _ rfl
  have f2 : DataW.trod enc Try.prog W 0 (fun _ => true) true n' 23 (List.take (Try.prog.cellsOf 23) (List.drop 2 cs)) = ys[2]? := hf 2 _ rfl
  have c___uint8 : Try.prog.cellsOf 23 = 1 := by kernel_rfl
  rw [c___uint8] at f2
  have c_bool : Try.prog.cellsOf 4 = 1 := by kernel_rfl
  rw [c_bool] at f0 f1
  have g0 := f0.trans (List.getElem?_eq_getElem (by rw [hyl]; decide))
  have g1 := f1.trans (List.getElem?_eq_getElem (by rw [hyl]; decide))
  have g2 := f2.trans (List.getElem?_eq_getElem (by rw [hyl]; decide))
  rw [take1 (by omega)] at g0 g1 g2
  obtain ⟨p, e0, _⟩ := DataW.trod_bool Try.underlying4 g0
  obtain ⟨q, e1, _⟩ := DataW.trod_bool Try.underlying4 g1
  obtain ⟨M, m, c, l, e2, hc, hb⟩ := bytes_of g2
  have hl2 := hb.len
  subst hl2
  refine ⟨p, q, M, c, l, ?_, hc, hb⟩
  match cs, hl, e0, e1, e2 with
  | [a0, a1, a2], _, e0, e1, e2 =>
    simp at e0 e1 e2
    subst e0 e1 e2
    rfl
set_option maxRecDepth 100000 in
set_option maxHeartbeats 4000000 in
theorem link_of {H : Type} {enc : TypeId × Value → H} {W : World} {n : Nat} {cs : List Value} {y : DataW H × List MemPlace} (h : DataW.trod enc Try.prog W 0 (fun _ => true) true n 27 cs = some y) (hl : cs.length = 3) :
    ∃ (par : List Nat) (ps ov : Int), cs = [.string (strOf par), .int .i64 ps, .int .i64 ov] ∧ (∀ b ∈ par, b < 256) ∧ par.length ≤ 9223372036854775807 ∧ I64 ps ∧ I64 ov := by
  obtain ⟨ys, n', _, _, hlen, hyl, hf⟩ := DataW.trod_struct Try.underlying27 h
  have f0 : DataW.trod enc Try.prog W 0 (fun _ => true) true n' 9 (List.take (Try.prog.cellsOf 9) (List.drop 0 cs)) = ys[0]? := hf 0 _ rfl
  have f1 : DataW.trod enc Try.prog W 0 (fun _ => true) true n' 3 (List.take (Try.prog.cellsOf 3) (List.drop 1 cs)) = ys[1]? := hf 1 _ rfl
  have f2 : DataW.trod enc Try.prog W 0 (fun _ => true) true n' 3 (List.take (Try.prog.cellsOf 3) (List.drop 2 cs)) = ys[2]? := hf 2 _ rfl
  have c_int : Try.prog.cellsOf 3 = 1 := by kernel_rfl
  rw [c_int] at f1 f2
  have c_string : Try.prog.cellsOf 9 = 1 := by kernel_rfl
  rw [c_string] at f0
  have g0 := f0.trans (List.getElem?_eq_getElem (by rw [hyl]; decide))
  have g1 := f1.trans (List.getElem?_eq_getElem (by rw [hyl]; decide))
  have g2 := f2.trans (List.getElem?_eq_getElem (by rw [hyl]; decide))
  rw [take1 (by omega)] at g0 g1 g2
  obtain ⟨s, e0, _, w0⟩ := DataW.trod_string Try.underlying9 g0
  obtain ⟨n1, e1, _, w1⟩ := DataW.trod_int Try.underlying3 g1
  obtain ⟨n2, e2, _, w2⟩ := DataW.trod_int Try.underlying3 g2
  refine ⟨s.data.toList.map UInt8.toNat, n1, n2, ?_, str_small s, by rw [str_len]; unfold maxLen at w0; omega, i64_of w1, i64_of w2⟩
  rw [str_form]
  match cs, hl, e0, e1, e2 with
  | [a0, a1, a2], _, e0, e1, e2 =>
    simp at e0 e1 e2
    subst e0 e1 e2
    rfl
instance : Inhabited SA := ⟨⟨0, [], false, ⟨0, false, false, [], none, 0, [], 0, 0⟩, [], none, 0⟩⟩
set_option maxRecDepth 100000 in
set_option maxHeartbeats 4000000 in
theorem sa_of {H : Type} {enc : TypeId × Value → H} {W : World} {n : Nat} {cs : List Value} {y : DataW H × List MemPlace} (h : DataW.trod enc Try.prog W 0 (fun _ => true) true n 74 cs = some y) (hl : cs.length = 11) : ∃ s : SA, cs = s.dcells ∧ s.R W := by
  obtain ⟨ys, n', _, _, hlen, hyl, hf⟩ := DataW.trod_struct Try.underlying74 h
  have f0 : DataW.trod enc Try.prog W 0 (fun _ => true) true n' 3 (List.take (Try.prog.cellsOf 3) (List.drop 0 cs)) = ys[0]? := hf 0 _ rfl
  have f1 : DataW.trod enc Try.prog W 0 (fun _ => true) true n' 3 (List.take (Try.prog.cellsOf 3) (List.drop 1 cs)) = ys[1]? := hf 1 _ rfl
  have f2 : DataW.trod enc Try.prog W 0 (fun _ => true) true n' 9 (List.take (Try.prog.cellsOf 9) (List.drop 2 cs)) = ys[2]? := hf 2 _ rfl
  have f3 : DataW.trod enc Try.prog W 0 (fun _ => true) true n' 4 (List.take (Try.prog.cellsOf 4) (List.drop 3 cs)) = ys[3]? := hf 3 _ rfl
  have f4 : DataW.trod enc Try.prog W 0 (fun _ => true) true n' 25 (List.take (Try.prog.cellsOf 25) (List.drop 4 cs)) = ys[4]? := hf 4 _ rfl
  have f5 : DataW.trod enc Try.prog W 0 (fun _ => true) true n' 27 (List.take (Try.prog.cellsOf 27) (List.drop 7 cs)) = ys[5]? := hf 5 _ rfl
  have f6 : DataW.trod enc Try.prog W 0 (fun _ => true) true n' 64 (List.take (Try.prog.cellsOf 64) (List.drop 10 cs)) = ys[6]? := hf 6 _ rfl
  have c___string : Try.prog.cellsOf 64 = 1 := by kernel_rfl
  rw [c___string] at f6
  have c_bool : Try.prog.cellsOf 4 = 1 := by kernel_rfl
  rw [c_bool] at f3
  have c_int : Try.prog.cellsOf 3 = 1 := by kernel_rfl
  rw [c_int] at f0 f1
  have c_lamina_laminaref11_Link : Try.prog.cellsOf 27 = 3 := by kernel_rfl
  rw [c_lamina_laminaref11_Link] at f5
  have c_lamina_laminaref11_Marked : Try.prog.cellsOf 25 = 3 := by kernel_rfl
  rw [c_lamina_laminaref11_Marked] at f4
  have c_string : Try.prog.cellsOf 9 = 1 := by kernel_rfl
  rw [c_string] at f2
  have g0 := f0.trans (List.getElem?_eq_getElem (by rw [hyl]; decide))
  have g1 := f1.trans (List.getElem?_eq_getElem (by rw [hyl]; decide))
  have g2 := f2.trans (List.getElem?_eq_getElem (by rw [hyl]; decide))
  have g3 := f3.trans (List.getElem?_eq_getElem (by rw [hyl]; decide))
  have g4 := f4.trans (List.getElem?_eq_getElem (by rw [hyl]; decide))
  have g5 := f5.trans (List.getElem?_eq_getElem (by rw [hyl]; decide))
  have g6 := f6.trans (List.getElem?_eq_getElem (by rw [hyl]; decide))
  rw [take1 (by omega)] at g0 g1 g2 g3 g6
  obtain ⟨n0, e0, _, w0⟩ := DataW.trod_int Try.underlying3 g0
  obtain ⟨n1, e1, _, w1⟩ := DataW.trod_int Try.underlying3 g1
  obtain ⟨s2, e2, _, w2⟩ := DataW.trod_string Try.underlying9 g2
  obtain ⟨b3, e3, _⟩ := DataW.trod_bool Try.underlying4 g3
  obtain ⟨p, q, M, c, l, e4, hc4, hb4⟩ := marked_of g4 (by rw [List.length_take, List.length_drop, hl]; rfl)
  obtain ⟨par, ps, ov, e5, hp1, hp2, hp3, hp4⟩ := link_of g5 (by rw [List.length_take, List.length_drop, hl]; rfl)
  obtain ⟨C, cc, ch, e6, hc6, hb6⟩ := strs_of g6
  refine ⟨⟨n0, s2.data.toList.map UInt8.toNat, b3, ⟨n1, p, q, l, M, c, par, ps, ov⟩, ch, C, cc⟩, ?_, ⟨⟨hb4, hp1, i64_of w1, hp3, hp4, by simp only; omega, hp2, hc4.1⟩, hb6, str_small s2, i64_of w0, by simp only; omega, by simp only; rw [str_len]; unfold maxLen at w2; omega, hc6.1⟩⟩
  unfold SA.dcells
  simp only
  rw [str_form]
  match cs, hl, e0, e1, e2, e3, e4, e5, e6 with
  | [a0, a1, a2, a3, a4, a5, a6, a7, a8, a9, a10], _, e0, e1, e2, e3, e4, e5, e6 =>
    simp at e0 e1 e2 e3 e4 e5 e6
    obtain ⟨rfl, rfl, rfl⟩ := e4
    obtain ⟨rfl, rfl, rfl⟩ := e5
    subst e0 e1 e2 e3 e6
    rfl
set_option maxRecDepth 100000 in
theorem sas_of {H : Type} {enc : TypeId × Value → H} {W : World} {n : Nat} {v : Value} {y : DataW H × List MemPlace} (h : DataW.trod enc Try.prog W 0 (fun _ => true) true n 22 [v] = some y) :
    ∃ (A : Option Addr) (c : Nat) (l : List SA), v = .slice A l.length c ∧ (l.length ≤ c ∧ c ≤ 9223372036854775807) ∧ Reads W W.heap.size 11 A l.length (l.flatMap SA.dcells) ∧ ∀ s ∈ l, s.R W := by
  rcases open_slice Try.underlying22 h with ⟨hcs, _⟩ | ⟨a, len, cap, m, n', D, Pl, hcs, _, hl, hm, hmm, _, hr⟩
  · simp only [List.cons.injEq, and_true] at hcs
    subst hcs
    exact ⟨none, 0, [], rfl, ⟨by simp, by omega⟩, Reads.none_, fun s hs => by cases hs⟩
  · simp only [List.cons.injEq, and_true] at hcs
    subst hcs
    simp only [if_true] at hmm
    unfold maxLen at hm
    have c6 : Try.prog.cellsOf 74 = 11 := by kernel_rfl
    have hex : ∀ i, i < len → ∃ s : SA, (∀ j v, s.dcells[j]? = some v → W.cell? (a.add (i * 11 + j)) = some v) ∧ s.R W := by
      intro i hi
      obtain ⟨cs', hc, ht'⟩ := hr i (by omega)
      rw [c6] at hc
      obtain ⟨_, hcl, hat⟩ := World.cells?_some hc
      obtain ⟨s, rfl, hs⟩ := sa_of ht' (by omega)
      refine ⟨s, fun j v hj => ?_, hs⟩
      have hj6 : j < 11 := by have := (List.getElem?_eq_some_iff.1 hj).1; rwa [SA.dcells_len] at this
      have := hat j hj6
      rw [← Go.Deep.add_add, this, hj]
    obtain ⟨f, hf⟩ := choose_lt_x hex
    have hat : ∀ k, k < len → ((List.range len).map f)[k]? = some (f k) := fun k hk => by rw [List.getElem?_map, List.getElem?_range hk]; rfl
    have hfl : (((List.range len).map f).flatMap SA.dcells).length = len * 11 := by
      rw [flat_len SA.dcells_len]
      simp
    refine ⟨some a, cap, (List.range len).map f, by simp, ⟨by simpa using hl, by omega⟩, ⟨by simpa using hfl, fun hn => ⟨a, rfl, ?_, fun j u hu => ?_⟩⟩, fun s hs => ?_⟩
    · have := lt_of_cell ((hf 0 (by simpa using hn)).1 0 _ rfl)
      rwa [block_of_add] at this
    · have hj : j < len * 11 := by
        rcases Nat.lt_or_ge j (len * 11) with h | h
        · exact h
        · rw [List.getElem?_eq_none (by rw [hfl]; exact h)] at hu; cases hu
      have hk : j / 11 < len := by omega
      have h5 := flat_at SA.dcells 11 SA.dcells_len _ (j / 11) (j % 11) (f (j / 11)) (hat (j / 11) hk) (by omega)
      rw [show j / 11 * 11 + j % 11 = j by omega, hu] at h5
      have := (hf (j / 11) hk).1 (j % 11) u h5.symm
      rwa [show j / 11 * 11 + j % 11 = j by omega] at this
    · obtain ⟨i, hi, rfl⟩ := List.mem_map.1 hs
      exact (hf i (List.mem_range.1 hi)).2
set_option maxRecDepth 100000 in
set_option maxHeartbeats 4000000 in
theorem ha_of {H : Type} {enc : TypeId × Value → H} {W : World} {n : Nat} {cs : List Value} {y : DataW H × List MemPlace} (h : DataW.trod enc Try.prog W 0 (fun _ => true) true n 29 cs = some y) (hl : cs.length = 14) : ∃ a : HA, cs.toArray = a.cs ∧ a.R SA.dcells W := by
  obtain ⟨ys, n', _, _, hlen, hyl, hf⟩ := DataW.trod_struct Try.underlying29 h
  have f0 : DataW.trod enc Try.prog W 0 (fun _ => true) true n' 3 (List.take (Try.prog.cellsOf 3) (List.drop 0 cs)) = ys[0]? := hf 0 _ rfl
  have f1 : DataW.trod enc Try.prog W 0 (fun _ => true) true n' 3 (List.take (Try.prog.cellsOf 3) (List.drop 1 cs)) = ys[1]? := hf 1 _ rfl
  have f2 : DataW.trod enc Try.prog W 0 (fun _ => true) true n' 3 (List.take (Try.prog.cellsOf 3) (List.drop 2 cs)) = ys[2]? := hf 2 _ rfl
  have f3 : DataW.trod enc Try.prog W 0 (fun _ => true) true n' 3 (List.take (Try.prog.cellsOf 3) (List.drop 3 cs)) = ys[3]? := hf 3 _ rfl
  have f4 : DataW.trod enc Try.prog W 0 (fun _ => true) true n' 22 (List.take (Try.prog.cellsOf 22) (List.drop 4 cs)) = ys[4]? := hf 4 _ rfl
  have f5 : DataW.trod enc Try.prog W 0 (fun _ => true) true n' 25 (List.take (Try.prog.cellsOf 25) (List.drop 5 cs)) = ys[5]? := hf 5 _ rfl
  have f6 : DataW.trod enc Try.prog W 0 (fun _ => true) true n' 27 (List.take (Try.prog.cellsOf 27) (List.drop 8 cs)) = ys[6]? := hf 6 _ rfl
  have f7 : DataW.trod enc Try.prog W 0 (fun _ => true) true n' 3 (List.take (Try.prog.cellsOf 3) (List.drop 11 cs)) = ys[7]? := hf 7 _ rfl
  have f8 : DataW.trod enc Try.prog W 0 (fun _ => true) true n' 3 (List.take (Try.prog.cellsOf 3) (List.drop 12 cs)) = ys[8]? := hf 8 _ rfl
  have f9 : DataW.trod enc Try.prog W 0 (fun _ => true) true n' 3 (List.take (Try.prog.cellsOf 3) (List.drop 13 cs)) = ys[9]? := hf 9 _ rfl
  have c___laminaref11_Snap : Try.prog.cellsOf 22 = 1 := by kernel_rfl
  rw [c___laminaref11_Snap] at f4
  have c_int : Try.prog.cellsOf 3 = 1 := by kernel_rfl
  rw [c_int] at f0 f1 f2 f3 f7 f8 f9
  have c_lamina_laminaref11_Link : Try.prog.cellsOf 27 = 3 := by kernel_rfl
  rw [c_lamina_laminaref11_Link] at f6
  have c_lamina_laminaref11_Marked : Try.prog.cellsOf 25 = 3 := by kernel_rfl
  rw [c_lamina_laminaref11_Marked] at f5
  have g0 := f0.trans (List.getElem?_eq_getElem (by rw [hyl]; decide))
  have g1 := f1.trans (List.getElem?_eq_getElem (by rw [hyl]; decide))
  have g2 := f2.trans (List.getElem?_eq_getElem (by rw [hyl]; decide))
  have g3 := f3.trans (List.getElem?_eq_getElem (by rw [hyl]; decide))
  have g4 := f4.trans (List.getElem?_eq_getElem (by rw [hyl]; decide))
  have g5 := f5.trans (List.getElem?_eq_getElem (by rw [hyl]; decide))
  have g6 := f6.trans (List.getElem?_eq_getElem (by rw [hyl]; decide))
  have g7 := f7.trans (List.getElem?_eq_getElem (by rw [hyl]; decide))
  have g8 := f8.trans (List.getElem?_eq_getElem (by rw [hyl]; decide))
  have g9 := f9.trans (List.getElem?_eq_getElem (by rw [hyl]; decide))
  rw [take1 (by omega)] at g0 g1 g2 g3 g4 g7 g8 g9
  obtain ⟨n0, e0, _, w0⟩ := DataW.trod_int Try.underlying3 g0
  obtain ⟨n1, e1, _, w1⟩ := DataW.trod_int Try.underlying3 g1
  obtain ⟨n2, e2, _, w2⟩ := DataW.trod_int Try.underlying3 g2
  obtain ⟨n3, e3, _, w3⟩ := DataW.trod_int Try.underlying3 g3
  obtain ⟨S, sc, sn, e4, hc4, hr4, hs4⟩ := sas_of g4
  obtain ⟨p, q, M, c, l, e5, hc5, hb5⟩ := marked_of g5 (by rw [List.length_take, List.length_drop, hl]; rfl)
  obtain ⟨par, ps, ov, e6, hp1, hp2, hp3, hp4⟩ := link_of g6 (by rw [List.length_take, List.length_drop, hl]; rfl)
  obtain ⟨n7, e7, _, w7⟩ := DataW.trod_int Try.underlying3 g7
  obtain ⟨n8, e8, _, w8⟩ := DataW.trod_int Try.underlying3 g8
  obtain ⟨n9, e9, _, w9⟩ := DataW.trod_int Try.underlying3 g9
  refine ⟨⟨n0, n2, n3, S, sc, sn, ⟨n1, p, q, l, M, c, par, ps, ov⟩, n7, n8, n9⟩, ?_, ⟨⟨hb5, hp1, i64_of w1, hp3, hp4, by simp only; omega, hp2, hc5.1⟩, hr4, hs4, i64_of w0, i64_of w2, i64_of w3, i64_of w7, i64_of w8, i64_of w9, by simp only; omega, hc4.1⟩⟩
  match cs, hl, e0, e1, e2, e3, e4, e5, e6, e7, e8, e9 with
  | [a0, a1, a2, a3, a4, a5, a6, a7, a8, a9, a10, a11, a12, a13], _, e0, e1, e2, e3, e4, e5, e6, e7, e8, e9 =>
    simp at e0 e1 e2 e3 e4 e5 e6 e7 e8 e9
    obtain ⟨rfl, rfl, rfl⟩ := e5
    obtain ⟨rfl, rfl, rfl⟩ := e6
    subst e0 e1 e2 e3 e4 e7 e8 e9
    rfl
set_option maxRecDepth 100000 in
theorem open_ha {H : Type} {enc : TypeId × Value → H} {W : World} {base : Nat} {v : Value} {d : DataW H} {p : List MemPlace} (hval : Value.okWide Try.prog W .any base 29 v)
    (h : DataW.Trod enc Try.prog W 0 (fun _ => true) true 29 v d p) : ∃ x : HA, v = .agg x.cs ∧ x.R SA.dcells W := by
  obtain ⟨cs, rfl, hsz⟩ := okWide_struct Try.underlying29 hval
  obtain ⟨fuel, hf⟩ := h
  have h4 : Try.prog.cellsOf 29 = 14 := by kernel_rfl
  rw [h4] at hsz
  obtain ⟨l, rfl⟩ : ∃ l : List Value, cs = l.toArray := ⟨cs.toList, by simp⟩
  obtain ⟨s, e, hR⟩ := ha_of (cs := l) hf (by simpa using hsz)
  exact ⟨s, by rw [e], hR⟩
end Go.Proofs.Ytiimanoloedbeaa

/-
  More than is looked at? Conditions: the head reads as it is said to.
-/
namespace Go.Proofs.Ytiimanoloedbeaa
open Go.RowKit Go.BigFrame
set_option linter.unusedSimpArgs false
set_option linter.unusedVariables false
set_option maxRecDepth 100000
structure SA.Lm (s : SA) : Prop where
  ch : s.ch.length ≤ 50
  row : s.vw.row.length ≤ 500
  name : s.name.length ≤ 100
  par : s.vw.par.length ≤ 100
  cl : ∀ c ∈ s.ch, c.length ≤ 100
structure HA.Lm (a : HA) : Prop where
  cn : a.sn.length ≤ 20
  row : a.vw.row.length ≤ 500
  par : a.vw.par.length ≤ 100
  sn : ∀ s ∈ a.sn, s.Lm
def LargeTo (w : World) (a : HA) (e : Ending) (w' : World) : Prop := ∃ b, e = .returned (.bool b) ∧ Below w.heap.size w w' ∧ (b = false → a.Lm)
end Go.Proofs.Ytiimanoloedbeaa

/-
  A head as the program's, of its own memory. Conditions: the head reads as it is said to, and is as large as is looked at.
-/
namespace Go.Proofs.Ytiimanoloedbeaa
open Go.RowKit Go.BigFrame
set_option linter.unusedSimpArgs false
set_option linter.unusedVariables false
set_option maxRecDepth 100000
theorem L_two {P : Program} {ops : Array Oper} {Q : Exit → Act → World → Prop} {md : Region.Mode} {S : World → Prop} {L : Nat} {i j : Nat} {oi oj : Oper} {f : Nat} {l : Array Bool} {a : Act} {w : World} (hr : Region.ready md ops l = [i, j]) (hoi : ops[i]? = some oi) (hoj : ops[j]? = some oj) (hwi : Region.wanted oi (yielded ops a.tmps) = true) (hwj : Region.wanted oj (yielded ops a.tmps) = true)
    (hi : Oper.wp P oi a w (fun a' w' => S w' ∧ wpAnyL P md ops Q S L f (l.setIfInBounds i true) a' w') Q) (hj : Oper.wp P oj a w (fun a' w' => S w' ∧ wpAnyL P md ops Q S L f (l.setIfInBounds j true) a' w') Q) : wpAnyL P md ops Q S L (f + 1) l a w := by
  refine ⟨fun h0 => absurd (hr ▸ h0) (by simp), fun k hk => ?_⟩
  rw [hr] at hk
  simp only [List.mem_cons, List.not_mem_nil, or_false] at hk
  rcases hk with rfl | rfl
  · refine wpOp_step hoi (fun K hK => ?_)
    rw [if_pos hwi]
    exact Oper.wp_mono (fun a' w' h' => hK a' w' ⟨fun _ => h'.1, h'.2⟩) hi
  · refine wpOp_step hoj (fun K hK => ?_)
    rw [if_pos hwj]
    exact Oper.wp_mono (fun a' w' h' => hK a' w' ⟨fun _ => h'.1, h'.2⟩) hj
theorem wp_storeq {P : Program} {o : Oper} {a : Act} {w : World} {K : Act → World → Prop} {Q : Exit → Act → World → Prop} (ty : TypeId) (x y : Operand) (ho : o.op = .store ty x y)
    (g : Nat) (cs : Array Value) (vs : List Value) (hx : a.eval x = .pointer (some ⟨g, 0, none⟩)) (hy : a.eval y = .agg vs.toArray) (hB : Blk w g ty cs) (hs : vs.length = cs.size) (hi : (P.info? ty).map (·.size) = some vs.length) (h1 : ∀ v ∈ vs, v.oneCell' = true)
    (h : ∀ w', Blk w' g ty vs.toArray → Only [g] w w' → w'.heap.size = w.heap.size → K (a.put o.dst undef) w') : o.wp P a w K Q :=
  wp_store_mid ty x y ho g 0 vs.toArray hx hy (hB.there (by simp [hs])) (by simpa using hi) (all_oneCell_toArray h1)
    (h _ (by simpa using hB.over vs hs) ((Only.refl _ _).grown (by simpa using (setCells_grown g vs 0 w).1) (fun k e => .inl (by injection e with e; simp [e]))) (by simpa using (setCells_grown g vs 0 w).2))
/-- the head so far: the document's snapshots ahead of k are the program's -/
structure Pg (w : World) (a : HA) (g3 k : Nat) (q : HA) (wr : World) : Prop where
  res : Blk wr (w.heap.size + 1) 36 #[.int .i64 0, .int .i64 0, .int .i64 0, .int .i64 0, .slice none 0 0, .bool false, .bool false, .slice none 0 0, .string ⟨#[]⟩, .int .i64 0, .int .i64 0, .int .i64 0, .int .i64 0, .int .i64 0]
  blk : Blk wr g3 36 q.cs
  src : Blk wr w.heap.size 29 #[.int .i64 a.id, .int .i64 a.vw.size, .int .i64 a.obj, .int .i64 a.seq, .slice a.S a.sn.length a.cs', .bool a.vw.on, .bool a.vw.good, .slice a.vw.M a.vw.row.length a.vw.cm, .string (strOf a.vw.par), .int .i64 a.vw.ps, .int .i64 a.vw.ov, .int .i64 a.ow, .int .i64 a.it, .int .i64 a.tg]
  n : q.N wr w.heap.size []
  bel : Below w.heap.size w wr
  far : w.heap.size + 2 ≤ g3
  eq : q.id = a.id ∧ q.obj = a.obj ∧ q.seq = a.seq ∧ q.ow = a.ow ∧ q.it = a.it ∧ q.tg = a.tg ∧ q.vw.size = a.vw.size ∧ q.vw.mk' = a.vw.mk' ∧ q.vw.lk = a.vw.lk
  vs : q.sn.map SA.v = (a.sn.take k).map SA.v
/-- ahead of the head's making -/
structure Pre (w : World) (a : HA) (w0 : World) : Prop where
  res : Blk w0 (w.heap.size + 1) 36 #[.int .i64 0, .int .i64 0, .int .i64 0, .int .i64 0, .slice none 0 0, .bool false, .bool false, .slice none 0 0, .string ⟨#[]⟩, .int .i64 0, .int .i64 0, .int .i64 0, .int .i64 0, .int .i64 0]
  src : Blk w0 w.heap.size 29 #[.int .i64 a.id, .int .i64 a.vw.size, .int .i64 a.obj, .int .i64 a.seq, .slice a.S a.sn.length a.cs', .bool a.vw.on, .bool a.vw.good, .slice a.vw.M a.vw.row.length a.vw.cm, .string (strOf a.vw.par), .int .i64 a.vw.ps, .int .i64 a.vw.ov, .int .i64 a.ow, .int .i64 a.it, .int .i64 a.tg]
  bel : Below w.heap.size w w0
  sz : w0.heap.size = w.heap.size + 2
  R : a.R SA.dcells w
  Lm : a.Lm
theorem pg_start {w w0 W : World} {a : HA} {g3 c : Nat} {D : Option Addr} (h : Pre w a w0) (hb : Below w0.heap.size w0 W) (hk : Blk W g3 36 #[.int .i64 a.id, .int .i64 a.vw.size, .int .i64 a.obj, .int .i64 a.seq, .slice none 0 0, .bool a.vw.on, .bool a.vw.good, .slice D a.vw.row.length c, .string (strOf a.vw.par), .int .i64 a.vw.ps, .int .i64 a.vw.ov, .int .i64 a.ow, .int .i64 a.it, .int .i64 a.tg]) (hd : Own W w.heap.size (.slice D a.vw.row.length c) a.vw.row.length a.vw.row) (hf : w0.heap.size ≤ g3) :
    Pg w a g3 0 ⟨a.id, a.obj, a.seq, none, 0, [], ⟨a.vw.size, a.vw.on, a.vw.good, a.vw.row, D, c, a.vw.par, a.vw.ps, a.vw.ov⟩, a.ow, a.it, a.tg⟩ W := by
  have R := h.R
  have hl := h.Lm.par
  exact ⟨h.res.of (hb.block _ h.res.lt), hk, h.src.of (hb.block _ h.src.lt), ⟨⟨hd, fun _ _ hm => (by cases hm), R.vw.row.2, R.vw.par, R.vw.size, R.vw.ps, R.vw.ov, by simp only; omega⟩, fun x hx => (by cases hx), World.ownsRow_nil _ _ _ 11, R.id, R.obj, R.seq, R.ow, R.it, R.tg⟩, h.bel.trans (hb.mono h.bel.size), by have := h.sz; omega, ⟨rfl, rfl, rfl, rfl, rfl, rfl, rfl, rfl, rfl⟩, rfl⟩
theorem Pg.next {w wr w2 : World} {a q : HA} {g3 k : Nat} (h : Pg w a g3 k q wr) (hb : Below wr.heap.size wr w2) : Pg w a g3 k q w2 :=
  ⟨h.res.of (hb.block _ h.res.lt), h.blk.of (hb.block _ h.blk.lt), h.src.of (hb.block _ h.src.lt), h.n.below hb, h.bel.trans (hb.mono h.bel.size), h.far, h.eq, h.vs⟩
theorem pg_more {w W28 W29 W31 : World} {a q : HA} {g3 k : Nat} {s : SA} {D C A5 : Option Addr} {c cc c5 : Nat} (h : Pg w a g3 k q W28) (hD : Own W28 w.heap.size (.slice D s.vw.row.length c) s.vw.row.length s.vw.row) (hC : OwnS W28 w.heap.size (.slice C s.ch.length cc) s.ch) (hs : a.sn[k]? = some s) (hR : s.R w) (hL : s.Lm)
    (h29 : W29.ownsRow w.heap.size 66 11 (.slice A5 (q.sn.length + 1) c5) (q.sn.length + 1) (q.sn.flatMap SA.cells ++ [(⟨s.num, s.name, s.prot, ⟨s.vw.size, s.vw.on, s.vw.good, s.vw.row, D, c, s.vw.par, s.vw.ps, s.vw.ov⟩, s.ch, C, cc⟩ : SA)].flatMap SA.cells))
    (hgr : W28.grownBy W29 (Value.slice q.S q.sn.length q.cs').ownBlock) (K31 : Blk W31 g3 36 #[.int .i64 q.id, .int .i64 q.vw.size, .int .i64 q.obj, .int .i64 q.seq, .slice A5 (q.sn.length + 1) c5, .bool q.vw.on, .bool q.vw.good, .slice q.vw.M q.vw.row.length q.vw.cm, .string (strOf q.vw.par), .int .i64 q.vw.ps, .int .i64 q.vw.ov, .int .i64 q.ow, .int .i64 q.it, .int .i64 q.tg]) (o31 : Only [g3] W29 W31) :
    Pg w a g3 (k + 1) ⟨q.id, q.obj, q.seq, A5, c5, q.sn ++ [⟨s.num, s.name, s.prot, ⟨s.vw.size, s.vw.on, s.vw.good, s.vw.row, D, c, s.vw.par, s.vw.ps, s.vw.ov⟩, s.ch, C, cc⟩], q.vw, q.ow, q.it, q.tg⟩ W31 := by
  have hk1 : ∀ x t cs, Blk W28 x t cs → t ≠ 66 → x ≠ g3 → W31.heap[x]? = W28.heap[x]? := fun x t cs hb ht hx => by
    have e1 : W29.heap[x]? = W28.heap[x]? := hgr.block x hb.lt (fun e => own_blk_ne h.n.own hb (Ne.symm ht) e.symm)
    exact (o31.block x (Nat.lt_of_lt_of_le hb.lt hgr.size) (by simpa using hx)).trans e1
  have hg3 : ∀ x t cs, Blk W28 x t cs → t ≠ 36 → x ≠ g3 := fun x t cs hb ht e => by subst e; exact hb.ne_ h.blk ht rfl
  have hst : Stay W28 W31 := fun x t cs hb ht => hk1 x t cs hb (by rcases ht with rfl | rfl <;> decide) (hg3 x t cs hb (by rcases ht with rfl | rfl <;> decide))
  have hfar := h.far
  have hpl := hL.par
  have hnl := hL.name
  refine ⟨h.res.of (hk1 _ _ _ h.res (by decide) (by omega)), by simp only [HA.cs, List.length_append, List.length_singleton]; exact K31, h.src.of (hk1 _ _ _ h.src (by decide) (by omega)), ⟨h.n.vw.stay hst, ?_, ?_, h.n.id, h.n.obj, h.n.seq, h.n.ow, h.n.it, h.n.tg⟩, ?_, h.far, h.eq, ?_⟩
  · intro x hx
    rcases List.mem_append.1 hx with hx | hx
    · exact (h.n.sn x hx).stay hst
    · simp only [List.mem_singleton] at hx
      subst hx
      exact ⟨⟨row_of hD fun j hj => by obtain ⟨cs, hb⟩ := own_ty hD hj; exact hst j _ cs hb (.inl rfl), fun _ _ hm => (by cases hm), hR.vw.row.2, hR.vw.par, hR.vw.size, hR.vw.ps, hR.vw.ov, by simp only; omega⟩, row_of hC fun j hj => by obtain ⟨cs, hb⟩ := own_ty hC hj; exact hst j _ cs hb (.inr rfl), fun _ _ hm => (by cases hm), hR.ch.2, hR.name, hR.num, by simp only; omega⟩
  · have h9 : W31.ownsRow w.heap.size 66 11 (.slice A5 (q.sn.length + 1) c5) (q.sn.length + 1) (q.sn.flatMap SA.cells ++ [(⟨s.num, s.name, s.prot, ⟨s.vw.size, s.vw.on, s.vw.good, s.vw.row, D, c, s.vw.par, s.vw.ps, s.vw.ov⟩, s.ch, C, cc⟩ : SA)].flatMap SA.cells) := row_of h29 fun j hj => o31.block j (row_under h29 j hj) (fun hm => by
      simp at hm
      subst hm
      obtain ⟨cs, hb⟩ := own_ty h29 hj
      have hb3 : Blk W29 j 36 q.cs := h.blk.grown hgr (fun e => own_blk_ne h.n.own h.blk (by decide) e.symm)
      exact hb.ne_ hb3 (by decide) rfl)
    rw [← List.flatMap_append] at h9
    simpa using h9
  · exact (h.bel.grown hgr h.bel.size (fun j hj => (World.ownsRow.lt h.n.own j hj).1)).trans (o31.below (fun x hx => by simp at hx; omega) (Nat.le_trans h.bel.size hgr.size))
  · rw [List.map_append, h.vs, List.take_add_one, hs]
    simp only [List.map_append, Option.toList]
    rfl
theorem snap_info : (Try.prog.info? 66).map (fun i => (i.zero, i.size, i.bytes)) = some (some (.agg #[.int .i64 0, .int .i64 0, .string ⟨#[]⟩, .bool false, .bool false, .bool false, .slice none 0 0, .string ⟨#[]⟩, .int .i64 0, .int .i64 0, .slice none 0 0]), 11, 120) := by kernel_rfl
theorem own_grow_ne {W W' : World} {base base2 size size2 n n2 : Nat} {e e2 : TypeId} {v v2 : Value} {xs xs2 : List Value} (h : W.ownsRow base e size v n xs) (h2 : W.ownsRow base2 e2 size2 v2 n2 xs2) (hne : e ≠ e2) (g : W.grownBy W' v2.ownBlock) : W'.ownsRow base e size v n xs :=
  row_of h fun k hk => g.block k (row_under h k hk) (fun eq => by
    obtain ⟨cs, hb⟩ := own_ty h hk
    obtain ⟨cs2, hb2⟩ := own_ty h2 (mem_rowOf.2 eq.symm)
    exact hb.ne_ hb2 hne rfl)
theorem OwnS.new (w : World) (base : Nat) (hb : base ≤ w.heap.size) : OwnS (w.alloc (.cells #[] 9)) base (.slice (some ⟨w.heap.size, 0, none⟩) 0 0) [] := by
  have := World.ownsRow_made (base := base) (e := 9) (size := 1) w #[] 0 hb (by simp [maxLen]) (by simp)
  simpa [OwnS, strs] using this
def ProgTo (w : World) (a : HA) (e : Ending) (w' : World) : Prop := ∃ q : HA, e = .returned (.agg q.cs) ∧ q.v = a.v ∧ q.N w' w.heap.size [] ∧ Below w.heap.size w w'
end Go.Proofs.Ytiimanoloedbeaa

/-
  Are two views the same, are two rows of names? Conditions: they read as they are said to.
-/
namespace Go.Proofs.Ytiimanoloedbeaa
open Go.RowKit Go.BigFrame
set_option linter.unusedSimpArgs false
set_option linter.unusedVariables false
set_option maxRecDepth 100000
end Go.Proofs.Ytiimanoloedbeaa

/-
  Are two snapshots the same, are two heads? Conditions: they read as they are said to.
-/
namespace Go.Proofs.Ytiimanoloedbeaa
open Go.RowKit Go.BigFrame
set_option linter.unusedSimpArgs false
set_option linter.unusedVariables false
set_option maxRecDepth 100000
end Go.Proofs.Ytiimanoloedbeaa

/-
  Two rows of six numbers compared. No condition.
-/
namespace Go.Proofs.Ytiimanoloedbeaa
open Go.RowKit Go.BigFrame
set_option linter.unusedSimpArgs false
set_option linter.unusedVariables false
set_option maxRecDepth 100000
def SixSame (a b : HA) : Prop := a.id = b.id ∧ a.obj = b.obj ∧ a.seq = b.seq ∧ a.ow = b.ow ∧ a.it = b.it ∧ a.tg = b.tg
instance (a b : HA) : Decidable (SixSame a b) := by unfold SixSame; infer_instance
end Go.Proofs.Ytiimanoloedbeaa

/-
  Are two heads the same? Conditions: they read as they are said to, and are small.
-/
namespace Go.Proofs.Ytiimanoloedbeaa
open Go.RowKit Go.BigFrame
set_option linter.unusedSimpArgs false
set_option linter.unusedVariables false
set_option maxRecDepth 100000
end Go.Proofs.Ytiimanoloedbeaa

/-
  Rows of the call's own. Conditions: the row reads as it is said to, and is not long.
-/
namespace Go.Proofs.Ytiimanoloedbeaa
open Go.RowKit Go.BigFrame
set_option linter.unusedSimpArgs false
set_option linter.unusedVariables false
set_option maxRecDepth 100000
theorem flat_one (f : SA → List Value) (hf : ∀ s, ∀ u ∈ f s, u.oneCell' = true) (l : List SA) : ∀ u ∈ l.flatMap f, u.oneCell' = true := by
  intro u hu
  obtain ⟨s, _, h⟩ := List.mem_flatMap.1 hu
  exact hf s u h
set_option maxHeartbeats 2000000 in
theorem ownm_any (A : Option Addr) (n c : Nat) (bs : List Nat) (w : World) (B : Nat) (hn : n ≤ 10000000) (hb : Bytes w B A n bs) :
    Calls Try.prog 166 #[.slice A n c] w fun e w' => ∃ v, e = .returned v ∧ Own w' w.heap.size v n bs ∧ Below w.heap.size w w' := by
  obtain ⟨i0, hi0, hz0, hz1, hz2⟩ := info_parts byte_info
  have H := Lib.hid hb.1
  go_enter Try.func166, Try.ntmps166
  go_wp2_with (refine wpList_append_any w rfl (.const (.slice none 0 0)) (.tmp 3) 33 rfl w.heap.size 5 i0 _ 1 1 Try.underlying33 hi0 hz0 hz1 hz2 rfl (by omega) (.slice none 0 0) 0 [] rfl (World.ownsRow_nil _ _ _ 1) B A n c (u8s bs) rfl H.out (oneCell_u8s _) (by simp only [maxLen]; omega) (by omega) (Nat.le_refl _) ?_
               intro v2 w2 h2 g2 a2)
  go_ret
  exact ⟨v2, rfl, by simpa [Own, u8s] using h2, (Below.refl _ w).grown g2 (Nat.le_refl _) (fun k e => by simp [Value.ownBlock] at e)⟩
set_option maxHeartbeats 2000000 in
theorem owns_any (A : Option Addr) (c : Nat) (l : List (List Nat)) (w : World) (B : Nat) (hn : l.length ≤ 1000000) (hb : Reads w B 1 A l.length (strs l)) :
    Calls Try.prog 168 #[.slice A l.length c] w fun e w' => ∃ v, e = .returned v ∧ OwnS w' w.heap.size v l ∧ Below w.heap.size w w' := by
  obtain ⟨i0, hi0, hz0, hz1, hz2⟩ := info_parts str_info
  have H := Lib.hid hb
  go_enter Try.func168, Try.ntmps168
  go_wp2_with (refine wpList_append_any w rfl (.const (.slice none 0 0)) (.tmp 3) 64 rfl w.heap.size 9 i0 _ 1 16 Try.underlying64 hi0 hz0 hz1 hz2 rfl (by omega) (.slice none 0 0) 0 [] rfl (World.ownsRow_nil _ _ _ 1) B A l.length c (strs l) rfl H.out (strs_one _) (by simp only [maxLen]; omega) (by omega) (Nat.le_refl _) ?_
               intro v2 w2 h2 g2 a2)
  go_ret
  exact ⟨v2, rfl, by simpa [OwnS] using h2, (Below.refl _ w).grown g2 (Nat.le_refl _) (fun k e => by simp [Value.ownBlock] at e)⟩
set_option maxHeartbeats 2000000 in
theorem ownsn_any (A : Option Addr) (c : Nat) (l : List SA) (w : World) (B : Nat) (hn : l.length ≤ 1000000) (hb : Reads w B 11 A l.length (l.flatMap SA.cells)) :
    Calls Try.prog 167 #[.slice A l.length c] w fun e w' => ∃ v, e = .returned v ∧ w'.ownsRow w.heap.size 66 11 v l.length (l.flatMap SA.cells) ∧ Below w.heap.size w w' := by
  obtain ⟨i0, hi0, hz0, hz1, hz2⟩ := info_parts snap_info
  have H := Lib.hid hb
  go_enter Try.func167, Try.ntmps167
  go_wp2_with (refine wpList_append_any w rfl (.const (.slice none 0 0)) (.tmp 3) 32 rfl w.heap.size 66 i0 _ 11 120 Try.underlying32 hi0 hz0 hz1 hz2 rfl (by omega) (.slice none 0 0) 0 [] rfl (World.ownsRow_nil _ _ _ 11) B A l.length c (l.flatMap SA.cells) rfl H.out (flat_one _ SA.cells_one _) (by simp only [maxLen]; omega) (by omega) (Nat.le_refl _) ?_
               intro v2 w2 h2 g2 a2)
  go_ret
  exact ⟨v2, rfl, by simpa using h2, (Below.refl _ w).grown g2 (Nat.le_refl _) (fun k e => by simp [Value.ownBlock] at e)⟩
end Go.Proofs.Ytiimanoloedbeaa

/-
  The document's: marks the same, how many objects, a flag's byte. Conditions: rows read as they are said to.
-/
namespace Go.Proofs.Ytiimanoloedbeaa
open Go.RowKit Go.BigFrame
set_option linter.unusedSimpArgs false
set_option linter.unusedVariables false
set_option maxRecDepth 100000
end Go.Proofs.Ytiimanoloedbeaa

/-
  The document's: where a snapshot stands. Conditions: the head reads as it is said to, and is not long.
-/
namespace Go.Proofs.Ytiimanoloedbeaa
open Go.RowKit Go.BigFrame
set_option linter.unusedSimpArgs false
set_option linter.unusedVariables false
set_option maxRecDepth 100000
end Go.Proofs.Ytiimanoloedbeaa

/-
  The document's: a name. Conditions: bytes, and not long.
-/
namespace Go.Proofs.Ytiimanoloedbeaa
open Go.RowKit Go.BigFrame
set_option linter.unusedSimpArgs false
set_option linter.unusedVariables false
set_option maxRecDepth 100000
theorem strOf_list (bs : List Nat) : (strOf bs).data.toList = bs.map UInt8.ofNat := by
  have := strOf_data bs
  exact this
end Go.Proofs.Ytiimanoloedbeaa

/-
  The document's: a good link, good marks. Conditions: the view reads as it is said to.
-/
namespace Go.Proofs.Ytiimanoloedbeaa
open Go.RowKit Go.BigFrame
set_option linter.unusedSimpArgs false
set_option linter.unusedVariables false
set_option maxRecDepth 100000
end Go.Proofs.Ytiimanoloedbeaa

/-
  The document's: good marks of a view. Conditions: the view reads as it is said to, and is not long.
-/
namespace Go.Proofs.Ytiimanoloedbeaa
open Go.RowKit Go.BigFrame
set_option linter.unusedSimpArgs false
set_option linter.unusedVariables false
set_option maxRecDepth 100000
end Go.Proofs.Ytiimanoloedbeaa

/-
  A copy of a head, of its own memory. Conditions: the head reads as it is said to, and is small.
-/
namespace Go.Proofs.Ytiimanoloedbeaa
open Go.RowKit Go.BigFrame
set_option linter.unusedSimpArgs false
set_option linter.unusedVariables false
set_option maxRecDepth 100000
theorem own_set {e : TypeId} {w : World} {base size m c g : Nat} {xs : List Value} (h : w.ownsRow base e size (.slice (some ⟨g, 0, none⟩) m c) m xs) (j : Nat) (u : Value) : (w.setCell ⟨g, j, none⟩ u).ownsRow base e size (.slice (some ⟨g, 0, none⟩) m c) m (xs.set j u) := by
  refine ⟨by rw [List.length_set]; exact h.1, ?_⟩
  rcases h.2 with ⟨e1, -⟩ | ⟨g', cap, cur, hv, hbg, hg, hnc, hcm, hcs, htake⟩
  · injection e1 with e2; cases e2
  · injection hv with e1 e2 e3
    injection e1 with e1
    injection e1 with e1
    subst e1
    subst e3
    refine .inr ⟨g, _, cur.setIfInBounds j u, rfl, hbg, by simp [World.setCell, Array.getElem?_modify, hg], hnc, hcm, by simpa using hcs, ?_⟩
    rw [Array.toList_setIfInBounds, List.take_set, htake]
theorem own_frozen {e : TypeId} {w : World} {base size m c g : Nat} {xs : List Value} (h : w.ownsRow base e size (.slice (some ⟨g, 0, none⟩) m c) m xs) (j : Nat) : w.frozen? ⟨g, j, none⟩ = false := by
  obtain ⟨cs, hb⟩ := own_ty h (k := g) (by simp [rowOf, Value.ownBlock])
  exact hb.frozen j
theorem flat_len11 (l : List SA) : (l.flatMap SA.cells).length = l.length * 11 := by
  induction l with
  | nil => rfl
  | cons e l ih => rw [List.flatMap_cons, List.length_append, ih, SA.cells_len]; simp; omega
theorem flat_set_mid {d r : List SA} {s s' : SA} {j : Nat} {v : Value} (hj : j < 11) (h : s'.cells = s.cells.set j v) : ((d ++ s :: r).flatMap SA.cells).set (d.length * 11 + j) v = (d ++ s' :: r).flatMap SA.cells := by
  rw [List.flatMap_append, List.flatMap_append, List.flatMap_cons, List.flatMap_cons, List.set_append_right _ _ (by rw [flat_len11]; omega), flat_len11, show d.length * 11 + j - d.length * 11 = j by omega, List.set_append_left _ _ (by rw [SA.cells_len]; exact hj), ← h]
theorem own_elem {w : World} {base m c : Nat} {A : Option Addr} {d r : List SA} {s : SA} (h : w.ownsRow base 66 11 (.slice A m c) m ((d ++ s :: r).flatMap SA.cells)) : ∃ g, A = some ⟨g, 0, none⟩ ∧ base ≤ g ∧ g < w.heap.size ∧ ∀ j v, s.cells[j]? = some v → w.cell? ⟨g, d.length * 11 + j, none⟩ = some v := by
  have hm : m = (d ++ s :: r).length := by have := h.1; rw [flat_len11] at this; omega
  obtain ⟨-, -, -, hA⟩ := own_shape h
  obtain ⟨ad, e, hb, hc⟩ := (Reads.of_own h).2 (by rw [hm]; simp; omega)
  rcases hA with hA | ⟨g, hA, hg1, hg2⟩
  · rw [hA] at e; cases e
  · rw [hA] at e
    injection e with e
    subst e
    refine ⟨g, hA, hg1, hg2, fun j v hj => ?_⟩
    have hj2 : j < 11 := by have := (List.getElem?_eq_some_iff.1 hj).1; rwa [SA.cells_len] at this
    have := hc (d.length * 11 + j) v (by rw [flat_at SA.cells 11 SA.cells_len (d ++ s :: r) d.length j s (by simp) hj2]; exact hj)
    rw [add_zero_off] at this
    exact this
/-- the blocks of marks, of children -/
def mrows (l : List SA) : List Nat := l.flatMap fun s => rowOf (.slice s.vw.M 0 0)
def crows (l : List SA) : List Nat := l.flatMap fun s => rowOf (.slice s.C 0 0)
/-- each row lies in a block of its own -/
structure HA.Dj (c : HA) : Prop where
  m : (rowOf (.slice c.vw.M 0 0) ++ mrows c.sn).Nodup
  c : (crows c.sn).Nodup
def CopyTo (w : World) (a : HA) (e : Ending) (w' : World) : Prop := ∃ c : HA, e = .returned (.agg c.cs) ∧ c.v = a.v ∧ c.N w' w.heap.size [] ∧ c.Dj ∧ c.sn.length = a.sn.length ∧ Below w.heap.size w w'
/-- the copy so far: the snapshots ahead are done, those behind are the given ones -/
structure Cp (w : World) (a : HA) (M1 : Option Addr) (c1 : Nat) (S1 : Option Addr) (cS : Nat) (d r : List SA) (wr : World) : Prop where
  src : Blk wr w.heap.size 36 #[.int .i64 a.id, .int .i64 a.vw.size, .int .i64 a.obj, .int .i64 a.seq, .slice S1 a.sn.length cS, .bool a.vw.on, .bool a.vw.good, .slice M1 a.vw.row.length c1, .string (strOf a.vw.par), .int .i64 a.vw.ps, .int .i64 a.vw.ov, .int .i64 a.ow, .int .i64 a.it, .int .i64 a.tg]
  res : Blk wr (w.heap.size + 1) 36 #[.int .i64 0, .int .i64 0, .int .i64 0, .int .i64 0, .slice none 0 0, .bool false, .bool false, .slice none 0 0, .string ⟨#[]⟩, .int .i64 0, .int .i64 0, .int .i64 0, .int .i64 0, .int .i64 0]
  m : Own wr w.heap.size (.slice M1 a.vw.row.length c1) a.vw.row.length a.vw.row
  n : ∀ s ∈ d, s.N wr w.heap.size []
  dm : (rowOf (.slice M1 0 0) ++ mrows d).Nodup
  dc : (crows d).Nodup
  row : wr.ownsRow w.heap.size 66 11 (.slice S1 a.sn.length cS) a.sn.length ((d ++ r).flatMap SA.cells)
  bel : Below w.heap.size w wr
section
variable {w : World} {a : HA} {M1 S1 : Option Addr} {c1 cS : Nat} {d r : List SA} {s s' : SA} {wr w' : World}
theorem Cp.below (h : Cp w a M1 c1 S1 cS d r wr) (hb : Below wr.heap.size wr w') : Cp w a M1 c1 S1 cS d r w' :=
  ⟨h.src.of (hb.block _ h.src.lt), h.res.of (hb.block _ h.res.lt), own_below h.m hb, fun s hs => (h.n s hs).below hb, h.dm, h.dc, own_below h.row hb, h.bel.trans (hb.mono h.bel.size)⟩
theorem Cp.elem (h : Cp w a M1 c1 S1 cS d (s :: r) wr) : ∃ g, S1 = some ⟨g, 0, none⟩ ∧ w.heap.size ≤ g ∧ g < wr.heap.size ∧ ∀ j v, s.cells[j]? = some v → wr.cell? ⟨g, d.length * 11 + j, none⟩ = some v := own_elem h.row
theorem Cp.set_ {g j : Nat} {v : Value} (h : Cp w a M1 c1 (some ⟨g, 0, none⟩) cS d (s :: r) wr) (hj : j < 11) (he : s'.cells = s.cells.set j v) : Cp w a M1 c1 (some ⟨g, 0, none⟩) cS d (s' :: r) (wr.setCell ⟨g, d.length * 11 + j, none⟩ v) := by
  obtain ⟨cs, hg⟩ := own_ty h.row (k := g) (by simp [rowOf, Value.ownBlock])
  have hbg : w.heap.size ≤ g := (World.ownsRow.lt h.row g rfl).1
  have o : Only [g] wr (wr.setCell ⟨g, d.length * 11 + j, none⟩ v) := (Only.refl _ _).setCell (.inl (by simp)) _
  have st := stay_only hg (by decide) (by decide) o
  refine ⟨h.src.only o ?_, h.res.only o ?_, ?_, fun x hx => (h.n x hx).stay st, h.dm, h.dc, ?_, h.bel.setCell hbg _⟩
  · simp only [List.mem_singleton]; exact h.src.ne_ hg (by decide)
  · simp only [List.mem_singleton]; exact h.res.ne_ hg (by decide)
  · exact row_of h.m fun k hk => by obtain ⟨cs', hb⟩ := own_ty h.m hk; exact st k _ cs' hb (.inl rfl)
  · have := own_set h.row (d.length * 11 + j) v
    rwa [flat_set_mid hj he] at this
theorem Cp.frozen {g : Nat} (h : Cp w a M1 c1 (some ⟨g, 0, none⟩) cS d r wr) (j : Nat) : wr.frozen? ⟨g, j, none⟩ = false := own_frozen h.row j
theorem Cp.under_m (h : Cp w a M1 c1 S1 cS d r wr) : ∀ k ∈ rowOf (.slice M1 0 0) ++ mrows d, k < wr.heap.size := by
  intro k hk
  rcases List.mem_append.1 hk with hk | hk
  · exact row_under h.m k (by rw [row_slice M1 a.vw.row.length c1 0 0]; exact hk)
  · obtain ⟨s, hs, hk⟩ := List.mem_flatMap.1 hk
    exact (h.n s hs).vw.under hk
theorem Cp.under_c (h : Cp w a M1 c1 S1 cS d r wr) : ∀ k ∈ crows d, k < wr.heap.size := by
  intro k hk
  obtain ⟨s, hs, hk⟩ := List.mem_flatMap.1 hk
  exact (h.n s hs).under hk
theorem rowOf_nodup (v : Value) : (rowOf v).Nodup := by
  unfold rowOf
  cases v.ownBlock <;> simp
theorem Cp.push (h : Cp w a M1 c1 S1 cS d (s :: r) wr) (hN : s.N wr w.heap.size []) (hm : ∀ k ∈ rowOf (.slice s.vw.M 0 0), k ∉ rowOf (.slice M1 0 0) ++ mrows d) (hc : ∀ k ∈ rowOf (.slice s.C 0 0), k ∉ crows d) : Cp w a M1 c1 S1 cS (d ++ [s]) r wr := by
  have e1 : mrows (d ++ [s]) = mrows d ++ rowOf (.slice s.vw.M 0 0) := by simp [mrows]
  have e2 : crows (d ++ [s]) = crows d ++ rowOf (.slice s.C 0 0) := by simp [crows]
  refine ⟨h.src, h.res, h.m, fun x hx => ?_, ?_, ?_, by rw [List.append_assoc]; exact h.row, h.bel⟩
  · rcases List.mem_append.1 hx with hx | hx
    · exact h.n x hx
    · simp at hx; subst hx; exact hN
  · rw [e1, ← List.append_assoc, List.nodup_append]
    exact ⟨h.dm, rowOf_nodup _, fun x hx y hy e => by subst e; exact hm x hy hx⟩
  · rw [e2, List.nodup_append]
    exact ⟨h.dc, rowOf_nodup _, fun x hx y hy e => by subst e; exact hc x hy hx⟩
end
set_option maxHeartbeats 32000000 in
theorem hcopy_any (a : HA) (w : World) (hR : a.R SA.cells w) (hS : a.Sm) : Calls Try.prog 149 #[.agg a.cs] w (CopyTo w a) := by
  obtain ⟨W1, hW1⟩ : ∃ W, W = (w.alloc (.cells #[.int .i64 a.id, .int .i64 a.vw.size, .int .i64 a.obj, .int .i64 a.seq, .slice a.S a.sn.length a.cs', .bool a.vw.on, .bool a.vw.good, .slice a.vw.M a.vw.row.length a.vw.cm, .string (strOf a.vw.par), .int .i64 a.vw.ps, .int .i64 a.vw.ov, .int .i64 a.ow, .int .i64 a.it, .int .i64 a.tg] 36)).alloc (.cells #[.int .i64 0, .int .i64 0, .int .i64 0, .int .i64 0, .slice none 0 0, .bool false, .bool false, .slice none 0 0, .string ⟨#[]⟩, .int .i64 0, .int .i64 0, .int .i64 0, .int .i64 0, .int .i64 0] 36) := ⟨_, rfl⟩
  have h1 : Below w.heap.size w W1 ∧ W1.heap.size = w.heap.size + 2 ∧ Blk W1 w.heap.size 36 #[.int .i64 a.id, .int .i64 a.vw.size, .int .i64 a.obj, .int .i64 a.seq, .slice a.S a.sn.length a.cs', .bool a.vw.on, .bool a.vw.good, .slice a.vw.M a.vw.row.length a.vw.cm, .string (strOf a.vw.par), .int .i64 a.vw.ps, .int .i64 a.vw.ov, .int .i64 a.ow, .int .i64 a.it, .int .i64 a.tg] ∧ Blk W1 (w.heap.size + 1) 36 #[.int .i64 0, .int .i64 0, .int .i64 0, .int .i64 0, .slice none 0 0, .bool false, .bool false, .slice none 0 0, .string ⟨#[]⟩, .int .i64 0, .int .i64 0, .int .i64 0, .int .i64 0, .int .i64 0] := by
    rw [hW1]
    exact ⟨(below_alloc w _).alloc (by simp) _, by simp, (Blk.new w _ _).alloc _, blk_two _ _ _ _⟩
  have HW1 := Lib.hid hW1
  have H1 := Lib.hid h1
  have HR := Lib.hid hR
  have HSM := Lib.hid hS
  have hcn := hS.cn
  have hrl := hS.vw.row
  have hz := head_zero
  have HOM := Lib.hid (ownm_any a.vw.M a.vw.row.length a.vw.cm a.vw.row W1 W1.heap.size (by omega) (((hR.since h1.1).vw.row)))
  have hb1 := h1.1
  have HOS : Hid (∀ W, Below w.heap.size w W → Calls Try.prog 167 #[.slice a.S a.sn.length a.cs'] W fun e w' => ∃ v, e = .returned v ∧ w'.ownsRow W.heap.size 66 11 v a.sn.length (a.sn.flatMap SA.cells) ∧ Below W.heap.size W w') := Lib.hid fun W hW => ownsn_any a.S a.cs' a.sn W W.heap.size (by omega) (hR.since hW).row
  clear hW1 h1 hR hS hb1
  unfold HA.cs at HW1 ⊢
  go_enter Try.func149, Try.ntmps149
  go_upto_region 1 with (fail)
  rw [← HW1.out]
  clear HW1
  obtain ⟨b1, z1, k1, r1⟩ := H1.out
  have q7 : W1.cell? ⟨w.heap.size, 7, none⟩ = some (.slice a.vw.M a.vw.row.length a.vw.cm) := k1.cell 7
  have HB1 := Lib.hid b1
  clear b1 k1 r1
  go_wp2_with fail
  refine HOM.out.mono ?_
  rintro e w2 ⟨v, rfl, ho, b2⟩
  obtain ⟨M1, c1, rfl⟩ := own_form ho
  have k2 := H1.out.2.2.1.of (b2.block _ H1.out.2.2.1.lt)
  have r2 := H1.out.2.2.2.of (b2.block _ H1.out.2.2.2.lt)
  have HO := Lib.hid ho
  have HB2 := Lib.hid (HB1.out.trans (b2.mono HB1.out.size))
  have HR2 := Lib.hid r2
  have hz2 : w.heap.size + 2 ≤ w2.heap.size := by have := b2.size; omega
  clear q7 HOM ho b2 r2
  go_wp2_with (have _h := k2; refine wpList_setq rfl 33 (.tmp 8) (.tmp 7) rfl w.heap.size 7 _ _ (.slice M1 a.vw.row.length c1) rfl rfl k2 (by simp) (by kernel_rfl) rfl ?_; clear _h k2; intro w3 K3 o3 s3; have k3 : Blk w3 w.heap.size 36 #[.int .i64 a.id, .int .i64 a.vw.size, .int .i64 a.obj, .int .i64 a.seq, .slice a.S a.sn.length a.cs', .bool a.vw.on, .bool a.vw.good, .slice M1 a.vw.row.length c1, .string (strOf a.vw.par), .int .i64 a.vw.ps, .int .i64 a.vw.ov, .int .i64 a.ow, .int .i64 a.it, .int .i64 a.tg] := K3; have q4 : w3.cell? ⟨w.heap.size, 4, none⟩ = some (.slice a.S a.sn.length a.cs') := k3.cell 4)
  have hb3 : Below w.heap.size w w3 := HB2.out.trans (o3.below (fun x hx => by simp at hx; omega) HB2.out.size)
  have hm3 : Own w3 w.heap.size (.slice M1 a.vw.row.length c1) a.vw.row.length a.vw.row := row_weaken (row_of HO.out fun k hk => o3.block k (row_under HO.out k hk) (fun hx => by simp at hx; have := (World.ownsRow.lt HO.out k (mem_rowOf.1 hk)).1; omega)) (show w.heap.size ≤ W1.heap.size by omega)
  have r3 := HR2.out.only o3 (by simp)
  refine (HOS.out w3 hb3).mono ?_
  rintro e w4 ⟨v4, rfl, ho4, b4⟩
  obtain ⟨S1, cS, rfl⟩ := own_form ho4
  have hC0 : Blk w4 w.heap.size 36 #[.int .i64 a.id, .int .i64 a.vw.size, .int .i64 a.obj, .int .i64 a.seq, .slice a.S a.sn.length a.cs', .bool a.vw.on, .bool a.vw.good, .slice M1 a.vw.row.length c1, .string (strOf a.vw.par), .int .i64 a.vw.ps, .int .i64 a.vw.ov, .int .i64 a.ow, .int .i64 a.it, .int .i64 a.tg] := k3.of (b4.block _ k3.lt)
  have HC9 := Lib.hid hC0
  have HX := Lib.hid (And.intro (r3.of (b4.block _ r3.lt)) (And.intro (own_below hm3 b4) (And.intro ho4 (hb3.trans (b4.mono hb3.size)))))
  have hz3 : w.heap.size + 2 ≤ w3.heap.size := by omega
  clear q4 k3 K3 hm3 r3 o3 ho4 b4 HOS
  go_wp2_with (have _h := hC0; refine wpList_setq rfl 32 (.tmp 12) (.tmp 11) rfl w.heap.size 4 _ _ (.slice S1 a.sn.length cS) rfl rfl hC0 (by simp) (by kernel_rfl) rfl ?_; clear _h hC0; intro w5 K5 o5 s5; have k5 : Blk w5 w.heap.size 36 #[.int .i64 a.id, .int .i64 a.vw.size, .int .i64 a.obj, .int .i64 a.seq, .slice S1 a.sn.length cS, .bool a.vw.on, .bool a.vw.good, .slice M1 a.vw.row.length c1, .string (strOf a.vw.par), .int .i64 a.vw.ps, .int .i64 a.vw.ov, .int .i64 a.ow, .int .i64 a.it, .int .i64 a.tg] := K5; have q4 : w5.cell? ⟨w.heap.size, 4, none⟩ = some (.slice S1 a.sn.length cS) := k5.cell 4)
  have hCp : Cp w a M1 c1 S1 cS [] a.sn w5 := by
    obtain ⟨h1, h2, h3, h4⟩ := HX.out
    refine ⟨k5, h1.only o5 (by simp), ?_, fun s hs => (by cases hs), ?_, by simp [crows], ?_, h4.trans (o5.below (fun x hx => by simp at hx; omega) h4.size)⟩
    · exact row_of h2 fun k hk => o5.block k (row_under h2 k hk) (fun hx => by simp at hx; obtain ⟨cs, hb⟩ := own_ty h2 hk; subst hx; exact hb.ne_ HC9.out (by decide) rfl)
    · simp only [mrows, List.flatMap_nil, List.append_nil]; exact rowOf_nodup _
    · exact row_weaken (row_of h3 fun k hk => o5.block k (row_under h3 k hk) (fun hx => by simp at hx; have := (World.ownsRow.lt h3 k (mem_rowOf.1 hk)).1; omega)) (by omega)
  have HCP := Lib.hid hCp
  clear hCp q4 k5 K5 o5
  go_loopw [16] (fun i wr => ∃ d : List SA, d.length ≤ a.sn.length ∧ i = .int .i64 d.length ∧ d.map SA.v = (a.sn.take d.length).map SA.v ∧ Cp w a M1 c1 S1 cS d (a.sn.drop d.length) wr) (fun i _ => a.sn.length - (intOf i).toNat)
  case atStart => exact ⟨[], by simp, rfl, rfl, HCP.out⟩
  case round =>
    obtain ⟨d, hd, rfl, hup, hcp⟩ := hrel
    by_cases hlt : d.length < a.sn.length
    · have dl : decide ((d.length : Int) < (a.sn.length : Int)) = true := decide_eq_true (by omega)
      have hwk : IntKind.i64.wrap ((d.length : Int) + 1) = (d.length : Int) + 1 := by rw [IntKind.wrap_i64]; omega
      obtain ⟨s, hs⟩ : ∃ s, a.sn[d.length]? = some s := ⟨_, List.getElem?_eq_getElem hlt⟩
      have hdr : a.sn.drop d.length = s :: a.sn.drop (d.length + 1) := by
        rw [List.drop_eq_getElem_cons hlt]
        congr 1
        rw [List.getElem?_eq_getElem hlt] at hs
        injection hs
      rw [hdr] at hcp
      obtain ⟨g, rfl, hgb, hgl, hc⟩ := hcp.elem
      have hsR := (HR.out.since hcp.bel).sn s (List.mem_of_getElem? hs)
      have hsS := HSM.out.sn s (List.mem_of_getElem? hs)
      obtain ⟨i0, hi0⟩ : ∃ i0, i0 = d.length * 11 := ⟨_, rfl⟩
      have q4 : wr.cell? ⟨w.heap.size, 4, none⟩ = some (.slice (some ⟨g, 0, none⟩) a.sn.length cS) := hcp.src.cell 4
      have c6 : wr.cell? ⟨g, d.length * 11 + 6, none⟩ = some (.slice s.vw.M s.vw.row.length s.vw.cm) := hc 6 _ rfl
      have HOM := Lib.hid (ownm_any s.vw.M s.vw.row.length s.vw.cm s.vw.row wr wr.heap.size (by have := hsS.vw.row; omega) hsR.vw.row)
      have HCP1 := Lib.hid hcp
      have HSK := Lib.hid (And.intro hs (And.intro hdr hup))
      have HSR := Lib.hid (And.intro hsR hsS)
      clear hc hcp hs hdr hup hsR hsS
      go_wp2_with fail
      refine HOM.out.mono ?_
      rintro e wA ⟨v, rfl, ho, bA⟩
      obtain ⟨M2, c2, rfl⟩ := own_form ho
      have hA := HCP1.out.below bA
      obtain ⟨g', eg, -, -, hcA⟩ := hA.elem
      injection eg with eg
      injection eg with eg
      subst eg
      have c6A : wA.cell? ⟨g, d.length * 11 + 6, none⟩ = some (.slice s.vw.M s.vw.row.length s.vw.cm) := hcA 6 _ rfl
      have fzA : wA.frozen? ⟨g, d.length * 11 + 6, none⟩ = false := hA.frozen _
      obtain ⟨s1, hs1⟩ : ∃ s1 : SA, s1 = ⟨s.num, s.name, s.prot, ⟨s.vw.size, s.vw.on, s.vw.good, s.vw.row, M2, c2, s.vw.par, s.vw.ps, s.vw.ov⟩, s.ch, s.C, s.cc⟩ := ⟨_, rfl⟩
      have hB : Cp w a M1 c1 (some ⟨g, 0, none⟩) cS d (s1 :: a.sn.drop (d.length + 1)) (wA.setCell ⟨g, d.length * 11 + 6, none⟩ (.slice M2 s.vw.row.length c2)) := hA.set_ (j := 6) (by omega) (by rw [hs1]; rfl)
      have hgT : ∃ cs, Blk wA g 66 cs := own_ty hA.row (by simp [rowOf, Value.ownBlock])
      obtain ⟨csg, hgT⟩ := hgT
      have stB := stay_only hgT (by decide) (by decide) (show Only [g] wA (wA.setCell ⟨g, d.length * 11 + 6, none⟩ (.slice M2 s.vw.row.length c2)) from (Only.refl _ _).setCell (.inl (by simp)) _)
      have hoB : Own (wA.setCell ⟨g, d.length * 11 + 6, none⟩ (.slice M2 s.vw.row.length c2)) wr.heap.size (.slice M2 s.vw.row.length c2) s.vw.row.length s.vw.row := row_of ho fun k hk => by obtain ⟨cs', hb⟩ := own_ty ho hk; exact stB k _ cs' hb (.inl rfl)
      have hzB : wr.heap.size ≤ (wA.setCell ⟨g, d.length * 11 + 6, none⟩ (.slice M2 s.vw.row.length c2)).heap.size := by have := bA.size; simp [World.setCell]; omega
      have HB' := Lib.hid (And.intro hB (And.intro hoB hzB))
      clear q4 c6 HOM ho bA hA hcA hgT stB hB hoB hzB
      go_upto_region 8 with (fail)
      clear c6A fzA
      generalize World.setCell wA _ _ = wB at *
      obtain ⟨hB, hoB, hzB⟩ := HB'.out
      obtain ⟨g', eg, -, -, hcB⟩ := hB.elem
      injection eg with eg
      injection eg with eg
      subst eg
      have c10 : wB.cell? ⟨g, d.length * 11 + 10, none⟩ = some (.slice s.C s.ch.length s.cc) := by rw [hs1] at hcB; exact hcB 10 _ rfl
      have hsR := (HR.out.since hB.bel).sn s (List.mem_of_getElem? HSK.out.1)
      have HOC := Lib.hid (owns_any s.C s.cc s.ch wB wB.heap.size (by have := HSR.out.2.ch; omega) hsR.ch.1)
      have HS1 := Lib.hid hs1
      clear hB hoB hzB hcB hsR hs1
      go_wp2_with fail
      refine HOC.out.mono ?_
      rintro e wC ⟨v, rfl, ho, bC⟩
      obtain ⟨C2, cc2, rfl⟩ := own_form ho
      obtain ⟨hB, hoB, hzB⟩ := HB'.out
      have hC := hB.below bC
      obtain ⟨g', eg, -, -, hcC⟩ := hC.elem
      injection eg with eg
      injection eg with eg
      subst eg
      have c10C : wC.cell? ⟨g, d.length * 11 + 10, none⟩ = some (.slice s.C s.ch.length s.cc) := by rw [HS1.out] at hcC; exact hcC 10 _ rfl
      have fzC : wC.frozen? ⟨g, d.length * 11 + 10, none⟩ = false := hC.frozen _
      obtain ⟨s2, hs2⟩ : ∃ s2 : SA, s2 = ⟨s.num, s.name, s.prot, ⟨s.vw.size, s.vw.on, s.vw.good, s.vw.row, M2, c2, s.vw.par, s.vw.ps, s.vw.ov⟩, s.ch, C2, cc2⟩ := ⟨_, rfl⟩
      have hD : Cp w a M1 c1 (some ⟨g, 0, none⟩) cS d (s2 :: a.sn.drop (d.length + 1)) (wC.setCell ⟨g, d.length * 11 + 10, none⟩ (.slice C2 s.ch.length cc2)) := hC.set_ (j := 10) (by omega) (by rw [hs2, HS1.out]; rfl)
      obtain ⟨csg, hgT⟩ := own_ty hC.row (k := g) (by simp [rowOf, Value.ownBlock])
      have stD := stay_only hgT (by decide) (by decide) (show Only [g] wC (wC.setCell ⟨g, d.length * 11 + 10, none⟩ (.slice C2 s.ch.length cc2)) from (Only.refl _ _).setCell (.inl (by simp)) _)
      have hoM := own_below hoB bC
      have hM9 : Own (wC.setCell ⟨g, d.length * 11 + 10, none⟩ (.slice C2 s.ch.length cc2)) wr.heap.size (.slice M2 s.vw.row.length c2) s.vw.row.length s.vw.row := row_of hoM fun k hk => by obtain ⟨cs', hb⟩ := own_ty hoM hk; exact stD k _ cs' hb (.inl rfl)
      have hC9 : (wC.setCell ⟨g, d.length * 11 + 10, none⟩ (.slice C2 s.ch.length cc2)).ownsRow wB.heap.size 9 1 (.slice C2 s.ch.length cc2) s.ch.length (strs s.ch) := row_of ho fun k hk => by obtain ⟨cs', hb⟩ := own_ty ho hk; exact stD k _ cs' hb (.inr rfl)
      have hwb : w.heap.size ≤ wr.heap.size := HCP1.out.bel.size
      have hN2 : s2.N (wC.setCell ⟨g, d.length * 11 + 10, none⟩ (.slice C2 s.ch.length cc2)) w.heap.size [] := by
        rw [hs2]
        have R := HSR.out.1
        have S := HSR.out.2
        exact ⟨⟨row_weaken hM9 hwb, fun _ _ hm => (by cases hm), R.vw.row.2, R.vw.par, R.vw.size, R.vw.ps, R.vw.ov, S.vw.par⟩, row_weaken hC9 (by omega), fun _ _ hm => (by cases hm), R.ch.2, R.name, R.num, S.name⟩
      have hm2 : ∀ k ∈ rowOf (.slice s2.vw.M 0 0), k ∉ rowOf (.slice M1 0 0) ++ mrows d := by
        intro k hk hk2
        rw [hs2] at hk
        have h1 := HCP1.out.under_m k hk2
        have h2 := (World.ownsRow.lt hM9 k (mem_rowOf.1 (by rw [row_slice M2 0 0 s.vw.row.length c2] at hk; exact hk))).1
        omega
      have hc2 : ∀ k ∈ rowOf (.slice s2.C 0 0), k ∉ crows d := by
        intro k hk hk2
        rw [hs2] at hk
        have h1 := HCP1.out.under_c k hk2
        have h2 := (World.ownsRow.lt hC9 k (mem_rowOf.1 (by rw [row_slice C2 0 0 s.ch.length cc2] at hk; exact hk))).1
        omega
      have HE := Lib.hid (hD.push hN2 hm2 hc2)
      have HV : Hid (s2.v = s.v) := Lib.hid (by rw [hs2]; rfl)
      clear c10 HOC ho bC hB hoB hzB hC hcC hs2 hD hgT stD hoM hM9 hC9 hN2 hm2 hc2
      go_wp2
      exact ⟨⟨d ++ [s2], by simp; omega, by simp, by simp [List.take_add_one, HSK.out.1, HSK.out.2.2, HV.out], by simpa using HE.out⟩, by simp only [intOf]; omega⟩
    · have hdn : d.length = a.sn.length := by omega
      have dl : decide ((d.length : Int) < (a.sn.length : Int)) = false := decide_eq_false (by omega)
      have hk1 := hcp.src
      have hk2 := hcp.res
      have x0 : wr.cell? ⟨w.heap.size, 0, none⟩ = some (.int .i64 a.id) := hk1.cell 0
      have x1 : wr.cell? ⟨w.heap.size, 1, none⟩ = some (.int .i64 a.vw.size) := hk1.cell 1
      have x2 : wr.cell? ⟨w.heap.size, 2, none⟩ = some (.int .i64 a.obj) := hk1.cell 2
      have x3 : wr.cell? ⟨w.heap.size, 3, none⟩ = some (.int .i64 a.seq) := hk1.cell 3
      have x4 : wr.cell? ⟨w.heap.size, 4, none⟩ = some (.slice S1 a.sn.length cS) := hk1.cell 4
      have x5 : wr.cell? ⟨w.heap.size, 5, none⟩ = some (.bool a.vw.on) := hk1.cell 5
      have x6 : wr.cell? ⟨w.heap.size, 6, none⟩ = some (.bool a.vw.good) := hk1.cell 6
      have x7 : wr.cell? ⟨w.heap.size, 7, none⟩ = some (.slice M1 a.vw.row.length c1) := hk1.cell 7
      have x8 : wr.cell? ⟨w.heap.size, 8, none⟩ = some (.string (strOf a.vw.par)) := hk1.cell 8
      have x9 : wr.cell? ⟨w.heap.size, 9, none⟩ = some (.int .i64 a.vw.ps) := hk1.cell 9
      have x10 : wr.cell? ⟨w.heap.size, 10, none⟩ = some (.int .i64 a.vw.ov) := hk1.cell 10
      have x11 : wr.cell? ⟨w.heap.size, 11, none⟩ = some (.int .i64 a.ow) := hk1.cell 11
      have x12 : wr.cell? ⟨w.heap.size, 12, none⟩ = some (.int .i64 a.it) := hk1.cell 12
      have x13 : wr.cell? ⟨w.heap.size, 13, none⟩ = some (.int .i64 a.tg) := hk1.cell 13
      have HCP1 := Lib.hid hcp
      have HDN := Lib.hid (And.intro hdn hup)
      clear hcp hk1 hdn hup
      go_wp2_with (have _h := hk2; refine wpList_storeq rfl 36 (.tmp 2) (.tmp 40) rfl (w.heap.size + 1) _ [.int .i64 a.id, .int .i64 a.vw.size, .int .i64 a.obj, .int .i64 a.seq, .slice S1 a.sn.length cS, .bool a.vw.on, .bool a.vw.good, .slice M1 a.vw.row.length c1, .string (strOf a.vw.par), .int .i64 a.vw.ps, .int .i64 a.vw.ov, .int .i64 a.ow, .int .i64 a.it, .int .i64 a.tg] rfl rfl hk2 rfl (by kernel_rfl) (one14 _ _ _ _ _ _ _ _ _ _ _ _ _ _ _ _ _ _) ?_; clear _h hk2 x0 x1 x2 x3 x4 x5 x6 x7 x8 x9 x10 x11 x12 x13; intro w9 K9 o9 s9)
      refine bodyPost_ret (results_cell_row rfl _ _ (w.heap.size + 1) 36 _ (0, 0) _ rfl K9 Try.underlying36 rfl (by kernel_rfl)) rfl ?_
      obtain ⟨hdn, hup⟩ := HDN.out
      have h := HCP1.out
      have st := stay_only h.res (by decide) (by decide) o9
      have hv := HR.out
      rw [hdn, List.take_length] at hup
      have hrow : w9.ownsRow w.heap.size 66 11 (.slice S1 a.sn.length cS) a.sn.length ((d ++ a.sn.drop d.length).flatMap SA.cells) := row_of h.row fun k hk => o9.block k (row_under h.row k hk) (fun hx => by
        simp at hx
        subst hx
        obtain ⟨cs', hb⟩ := own_ty h.row hk
        exact hb.ne_ h.res (by decide) rfl)
      rw [hdn, List.drop_length, List.append_nil] at hrow
      refine ⟨⟨a.id, a.obj, a.seq, S1, cS, d, ⟨a.vw.size, a.vw.on, a.vw.good, a.vw.row, M1, c1, a.vw.par, a.vw.ps, a.vw.ov⟩, a.ow, a.it, a.tg⟩, ?_, ?_, ⟨⟨row_of h.m fun k hk => by obtain ⟨cs', hb⟩ := own_ty h.m hk; exact st k _ cs' hb (.inl rfl), fun _ _ hm => (by cases hm), hv.vw.row.2, hv.vw.par, hv.vw.size, hv.vw.ps, hv.vw.ov, HSM.out.vw.par⟩, fun x hx => (h.n x hx).stay st, by rw [hdn]; exact hrow, hv.id, hv.obj, hv.seq, hv.ow, hv.it, hv.tg⟩, ⟨h.dm, h.dc⟩, hdn, h.bel.trans (o9.below (fun x hx => by simp at hx; omega) h.bel.size)⟩
      · unfold HA.cs
        simp only [hdn]
      · unfold HA.v
        simp only [hup]
        rfl
end Go.Proofs.Ytiimanoloedbeaa

/-
  A head with which something is done, in a copy: what change of package rules comes to. Conditions: the head reads as it is said to, and is small; what is done is done with the copy.
-/
namespace Go.Proofs.Ytiimanoloedbeaa
open Go.RowKit Go.BigFrame
set_option linter.unusedSimpArgs false
set_option linter.unusedVariables false
set_option maxRecDepth 100000
def Z14 : Array Value := #[.int .i64 0, .int .i64 0, .int .i64 0, .int .i64 0, .slice none 0 0, .bool false, .bool false, .slice none 0 0, .string ⟨#[]⟩, .int .i64 0, .int .i64 0, .int .i64 0, .int .i64 0, .int .i64 0]
/-- blocks under base stay, but for F -/
structure Frm (base : Nat) (F : List Nat) (w w' : World) : Prop where
  os : w'.os = w.os
  tape : w'.tape = w.tape
  output : w'.output = w.output
  size : w.heap.size ≤ w'.heap.size
  block : ∀ k, k < base → k ∉ F → w'.heap[k]? = w.heap[k]?
theorem Frm.of {base : Nat} {F : List Nat} {w w' : World} (h : Below base w w') : Frm base F w w' := ⟨h.os, h.tape, h.output, h.size, fun k hk _ => h.block k hk⟩
theorem Frm.below {base : Nat} {w w' : World} (h : Frm base [] w w') : Below base w w' := ⟨h.os, h.tape, h.output, h.size, fun k hk => h.block k hk (by simp)⟩
theorem Frm.trans {base : Nat} {F : List Nat} {w w' w'' : World} (h : Frm base F w w') (k : Frm base F w' w'') : Frm base F w w'' :=
  ⟨k.os.trans h.os, k.tape.trans h.tape, k.output.trans h.output, Nat.le_trans h.size k.size, fun i hi hn => (k.block i hi hn).trans (h.block i hi hn)⟩
theorem Frm.mono {base b2 : Nat} {F : List Nat} {w w' : World} (h : Frm base F w w') (hb : b2 ≤ base) : Frm b2 F w w' := ⟨h.os, h.tape, h.output, h.size, fun k hk hn => h.block k (by omega) hn⟩
theorem Frm.only {F : List Nat} {w w' : World} (h : Frm w.heap.size F w w') : Only F w w' := ⟨h.os, h.tape, h.output, h.size, h.block⟩
/-- a function of the program can be called by its value -/
def Enters (P : Program) (fn : Nat) : Prop := ∀ args w, (callFunc fn args).run P w = .ok (.enter fn args) w
theorem run_callv {P : Program} {fn : Nat} (hf : Enters P fn) {caps args : Array Value} {w : World} {a : Act} {o : Oper} {x : Operand} {ys : Array Operand} {ts : Array TypeId} (ho : o.op = Op.call { callee := .value x, args := ys, argTypes := ts }) (h1 : a.eval x = .func (.func fn) #[] caps) (h2 : ys.map a.eval = args) : (execOp a.eval o).run P w = .ok (.enter fn (args ++ caps)) w := by
  unfold execOp
  simp only [ho, resolve, h1, h2, Deferred.ofValue, Sem.run_bind, Sem.run_pure, Result.andThen_ok, invoke, Array.empty_append]
  exact hf _ _
theorem wpList_callv {P : Program} {ops : Array Oper} {rest : List Oper} {o : Oper} {a : Act} {w : World} {Q : Exit → Act → World → Prop} {fn : Nat} {caps : Array Value} {R : Ending → World → Prop} (x : Operand) (ys : Array Operand) (ts : Array TypeId) (args : Array Value) (hgd : o.guard = none) (ho : o.op = Op.call { callee := .value x, args := ys, argTypes := ts }) (hf : Enters P fn) (h1 : a.eval x = .func (.func fn) #[] caps) (h2 : ys.toList.map a.eval = args.toList)
    (hc : Calls P fn (args ++ caps) w R) (h : ∀ e w', R e w' → ∃ v, e = .returned v ∧ wpList P ops Q rest (a.put o.dst v) w') : wpList P ops Q (o :: rest) a w :=
  wpList_plain hgd fun _ hK => wp_called (run_callv hf ho h1 (Array.toList_inj.1 (by rw [Array.toList_map]; exact h2))) hc fun e w' hr => by
    obtain ⟨v, hv, h'⟩ := h e w' hr
    exact ⟨v, hv, hK _ _ h'⟩
/-- what a change is asked to do with the copy -/
def DoesTo (base : Nat) (F : List Nat) (g : Nat) (PE : Nat → World → Prop) (PO : HdV → World → Prop) (W : World) (e : Ending) (w' : World) : Prop :=
  Frm base F W w' ∧ ((∃ k, e = .returned (errV k) ∧ k ≠ 0 ∧ PE k w') ∨ (e = .returned .nilIface ∧ ∃ c : HA, Blk w' g 36 c.cs ∧ c.N w' base [] ∧ PO c.v w'))
/-- what a change comes to -/
def ChTo (w : World) (F : List Nat) (v : HdV) (PE : Nat → World → Prop) (PO : HdV → World → Prop) (e : Ending) (w' : World) : Prop :=
  Frm w.heap.size F w w' ∧ ((v.B = false ∧ e = .returned (.tuple #[.agg Z14, errV 2])) ∨ (v.B = true ∧ ∃ k, e = .returned (.tuple #[.agg Z14, errV k]) ∧ k ≠ 0 ∧ PE k w') ∨ (v.B = true ∧ ∃ q : HA, e = .returned (.tuple #[.agg q.cs, .nilIface]) ∧ q.N w' w.heap.size [] ∧ PO q.v w'))
set_option maxHeartbeats 16000000 in
theorem change_any (h : HA) (w : World) (hR : h.R SA.cells w) (hS : h.Sm) (fn : Nat) (hEN : Enters Try.prog fn) (caps : Array Value) (F : List Nat) (hF : ∀ k ∈ F, k < w.heap.size) (PE : Nat → World → Prop) (PO : HdV → World → Prop)
    (hPE : ∀ k w1 w2, Below w.heap.size w1 w2 → PE k w1 → PE k w2) (hPO : ∀ v w1 w2, Below w.heap.size w1 w2 → PO v w1 → PO v w2)
    (HF : ∀ (W : World) (base g : Nat) (c : HA), w.heap.size ≤ base → base ≤ W.heap.size → Below w.heap.size w W → base ≤ g → Blk W g 36 c.cs → c.N W base [] → c.Dj → c.v = h.v → h.v.B = true → Calls Try.prog fn (#[.pointer (some ⟨g, 0, none⟩)] ++ caps) W (DoesTo base F g PE PO W)) :
    Calls Try.prog 107 #[.agg h.cs, .func (.func fn) #[] caps] w (ChTo w F h.v PE PO) := by
  obtain ⟨W1, hW1⟩ : ∃ W, W = (w.alloc (.cells #[.int .i64 h.id, .int .i64 h.vw.size, .int .i64 h.obj, .int .i64 h.seq, .slice h.S h.sn.length h.cs', .bool h.vw.on, .bool h.vw.good, .slice h.vw.M h.vw.row.length h.vw.cm, .string (strOf h.vw.par), .int .i64 h.vw.ps, .int .i64 h.vw.ov, .int .i64 h.ow, .int .i64 h.it, .int .i64 h.tg] 36)).alloc (.cells #[.int .i64 0, .int .i64 0, .int .i64 0, .int .i64 0, .slice none 0 0, .bool false, .bool false, .slice none 0 0, .string ⟨#[]⟩, .int .i64 0, .int .i64 0, .int .i64 0, .int .i64 0, .int .i64 0] 36) := ⟨_, rfl⟩
  have h1 : Below w.heap.size w W1 ∧ W1.heap.size = w.heap.size + 2 ∧ Blk W1 w.heap.size 36 #[.int .i64 h.id, .int .i64 h.vw.size, .int .i64 h.obj, .int .i64 h.seq, .slice h.S h.sn.length h.cs', .bool h.vw.on, .bool h.vw.good, .slice h.vw.M h.vw.row.length h.vw.cm, .string (strOf h.vw.par), .int .i64 h.vw.ps, .int .i64 h.vw.ov, .int .i64 h.ow, .int .i64 h.it, .int .i64 h.tg] ∧ Blk W1 (w.heap.size + 1) 36 #[.int .i64 0, .int .i64 0, .int .i64 0, .int .i64 0, .slice none 0 0, .bool false, .bool false, .slice none 0 0, .string ⟨#[]⟩, .int .i64 0, .int .i64 0, .int .i64 0, .int .i64 0, .int .i64 0] := by
    rw [hW1]
    exact ⟨(below_alloc w _).alloc (by simp) _, by simp, (Blk.new w _ _).alloc _, blk_two _ _ _ _⟩
  have HW1 := Lib.hid hW1
  have H1 := Lib.hid h1
  have HGD := Lib.hid (good_head h W1 (hR.since h1.1) hS)
  have HCP : Hid (∀ W, Below W1.heap.size W1 W → Calls Try.prog 149 #[.agg #[.int .i64 h.id, .int .i64 h.vw.size, .int .i64 h.obj, .int .i64 h.seq, .slice h.S h.sn.length h.cs', .bool h.vw.on, .bool h.vw.good, .slice h.vw.M h.vw.row.length h.vw.cm, .string (strOf h.vw.par), .int .i64 h.vw.ps, .int .i64 h.vw.ov, .int .i64 h.ow, .int .i64 h.it, .int .i64 h.tg]] W (CopyTo W h)) := Lib.hid fun W hW => hcopy_any h W ((hR.since h1.1).since hW) hS
  have HFF := Lib.hid HF
  have HEN := Lib.hid hEN
  have HST := Lib.hid (And.intro hF (And.intro hPE hPO))
  clear hEN hW1 h1 hR hS HF hF hPE hPO
  unfold HA.cs at *
  have hz := head_zero
  go_enter Try.func107, Try.ntmps107
  go_upto_region 1 with (fail)
  rw [← HW1.out]
  clear HW1
  have K1 := H1.out.2.2.1
  go_wp2_with (have _h := K1; refine wpList_loadq rfl 36 (.tmp 2) rfl (w.heap.size) [.int .i64 h.id, .int .i64 h.vw.size, .int .i64 h.obj, .int .i64 h.seq, .slice h.S h.sn.length h.cs', .bool h.vw.on, .bool h.vw.good, .slice h.vw.M h.vw.row.length h.vw.cm, .string (strOf h.vw.par), .int .i64 h.vw.ps, .int .i64 h.vw.ov, .int .i64 h.ow, .int .i64 h.it, .int .i64 h.tg] _ rfl K1 Try.underlying36 rfl (by kernel_rfl) ?_; clear _h K1)
  refine HGD.out.mono ?_
  rintro e W2 ⟨rfl, b2⟩
  have H2 : Hid (Below W1.heap.size W1 W2) := Lib.hid b2
  clear b2 HGD
  cases hB : h.v.B with
  | false =>
    have HB := Lib.hid hB
    clear hB
    have K2 : Blk W2 (w.heap.size + 1) 36 #[.int .i64 0, .int .i64 0, .int .i64 0, .int .i64 0, .slice none 0 0, .bool false, .bool false, .slice none 0 0, .string ⟨#[]⟩, .int .i64 0, .int .i64 0, .int .i64 0, .int .i64 0, .int .i64 0] := H1.out.2.2.2.of (H2.out.block _ H1.out.2.2.2.lt)
    have hz1 := H1.out.2.1
    simp only [errV]
    go_wp2_with (have _h := K2; refine wpList_storeq rfl 36 (.tmp 4) (.tmp 11) rfl (w.heap.size + 1) _ [.int .i64 0, .int .i64 0, .int .i64 0, .int .i64 0, .slice none 0 0, .bool false, .bool false, .slice none 0 0, .string ⟨#[]⟩, .int .i64 0, .int .i64 0, .int .i64 0, .int .i64 0, .int .i64 0] rfl rfl K2 (by simp) (by kernel_rfl) (one14 _ _ _ _ _ _ _ _ _ _ _ _ _ _ _ _ _ _) ?_; clear _h K2; intro w9 K9 o9 s9)
    refine bodyPost_ret (results_cell_tmp9 rfl _ _ (w.heap.size + 1) 36 _ (0, 0) _ _ rfl rfl K9 Try.underlying36 rfl (by kernel_rfl)) rfl ?_
    have hb := H1.out.1.trans (H2.out.mono H1.out.1.size)
    exact ⟨Frm.of (hb.trans (o9.below (fun x hx => by simp at hx; omega) hb.size)), .inl ⟨HB.out, rfl⟩⟩
  | true =>
    have HB := Lib.hid hB
    clear hB
    have K3 := H1.out.2.2.1.of (H2.out.block _ H1.out.2.2.1.lt)
    go_wp2_with (have _h := K3; refine wpList_loadq rfl 36 (.tmp 2) rfl (w.heap.size) [.int .i64 h.id, .int .i64 h.vw.size, .int .i64 h.obj, .int .i64 h.seq, .slice h.S h.sn.length h.cs', .bool h.vw.on, .bool h.vw.good, .slice h.vw.M h.vw.row.length h.vw.cm, .string (strOf h.vw.par), .int .i64 h.vw.ps, .int .i64 h.vw.ov, .int .i64 h.ow, .int .i64 h.it, .int .i64 h.tg] _ rfl K3 Try.underlying36 rfl (by kernel_rfl) ?_; clear _h K3)
    refine (HCP.out _ H2.out).mono ?_
    rintro e W3 ⟨c, rfl, cv, cN, cD, cl, b3⟩
    obtain ⟨w4, hw4⟩ : ∃ w4, w4 = W3.alloc (.cells #[.int .i64 c.id, .int .i64 c.vw.size, .int .i64 c.obj, .int .i64 c.seq, .slice c.S c.sn.length c.cs', .bool c.vw.on, .bool c.vw.good, .slice c.vw.M c.vw.row.length c.vw.cm, .string (strOf c.vw.par), .int .i64 c.vw.ps, .int .i64 c.vw.ov, .int .i64 c.ow, .int .i64 c.it, .int .i64 c.tg] 36) := ⟨_, rfl⟩
    obtain ⟨g, hg⟩ : ∃ g, g = W3.heap.size := ⟨_, rfl⟩
    obtain ⟨bs, hbs⟩ : ∃ bs, bs = W2.heap.size := ⟨_, rfl⟩
    have hb4 : Below W3.heap.size W3 w4 := by rw [hw4]; exact below_alloc W3 _
    have hb14 : Below W1.heap.size W1 w4 := (H2.out.trans (b3.mono H2.out.size)).trans (hb4.mono (by have := H2.out.size; have := b3.size; omega))
    have hb04 : Below w.heap.size w w4 := H1.out.1.trans (hb14.mono H1.out.1.size)
    have k4 : Blk w4 g 36 #[.int .i64 c.id, .int .i64 c.vw.size, .int .i64 c.obj, .int .i64 c.seq, .slice c.S c.sn.length c.cs', .bool c.vw.on, .bool c.vw.good, .slice c.vw.M c.vw.row.length c.vw.cm, .string (strOf c.vw.par), .int .i64 c.vw.ps, .int .i64 c.vw.ov, .int .i64 c.ow, .int .i64 c.it, .int .i64 c.tg] := by rw [hw4, hg]; exact Blk.new W3 _ _
    have HN4 : Hid (w.heap.size + 2 ≤ bs ∧ bs ≤ w4.heap.size ∧ bs ≤ g) := Lib.hid (by have := H1.out.2.1; have := H2.out.size; have := b3.size; have := hb4.size; omega)
    have HR4 : Hid (Blk w4 (w.heap.size + 1) 36 #[.int .i64 0, .int .i64 0, .int .i64 0, .int .i64 0, .slice none 0 0, .bool false, .bool false, .slice none 0 0, .string ⟨#[]⟩, .int .i64 0, .int .i64 0, .int .i64 0, .int .i64 0, .int .i64 0]) := Lib.hid (H1.out.2.2.2.of (hb14.block _ H1.out.2.2.2.lt))
    have HCL := Lib.hid (HFF.out w4 bs g c (by have := HN4.out; omega) HN4.out.2.1 hb04 HN4.out.2.2 k4 (by rw [hbs]; exact cN.below hb4) cD cv HB.out)
    have HB04 := Lib.hid hb04
    have HW4 := Lib.hid (And.intro hw4 hg)
    clear cv cN cD cl b3 hw4 hg hbs hb4 hb14 hb04 k4 HCP HFF
    unfold HA.cs at *
    go_upto_region 4 with (fail)
    rw [← HW4.out.1, ← HW4.out.2]
    clear HW4
    go_wp2_with (have _h := HCL; refine wpList_callv (.tmp 15) #[.tmp 6] #[146] #[.pointer (some ⟨g, 0, none⟩)] rfl rfl HEN.out rfl rfl HCL.out ?_; clear _h HCL)
    rintro e w5 ⟨f5, h5⟩
    have K5 : Blk w5 (w.heap.size + 1) 36 #[.int .i64 0, .int .i64 0, .int .i64 0, .int .i64 0, .slice none 0 0, .bool false, .bool false, .slice none 0 0, .string ⟨#[]⟩, .int .i64 0, .int .i64 0, .int .i64 0, .int .i64 0, .int .i64 0] := HR4.out.of (f5.block _ (by have := HN4.out; omega) (fun hm => by have := HST.out.1 _ hm; omega))
    have HF5 : Hid (Frm w.heap.size F w w5) := Lib.hid ((Frm.of HB04.out).trans (f5.mono (by have := HN4.out; omega)))
    have HR5 := Lib.hid K5
    clear f5
    have hz2 := HF5.out.size
    rcases h5 with ⟨k, rfl, hk0, hpe⟩ | ⟨rfl, c2, k2, n2, po⟩
    · obtain ⟨k, rfl⟩ : ∃ k', k = k' + 1 := ⟨k - 1, by omega⟩
      have HPE := Lib.hid hpe
      clear hk0 hpe
      simp only [errV]
      refine ⟨_, rfl, ?_⟩
      go_wp2_with (have _h := K5; refine wpList_storeq rfl 36 (.tmp 4) (.tmp 19) rfl (w.heap.size + 1) _ [.int .i64 0, .int .i64 0, .int .i64 0, .int .i64 0, .slice none 0 0, .bool false, .bool false, .slice none 0 0, .string ⟨#[]⟩, .int .i64 0, .int .i64 0, .int .i64 0, .int .i64 0, .int .i64 0] rfl rfl K5 (by simp) (by kernel_rfl) (one14 _ _ _ _ _ _ _ _ _ _ _ _ _ _ _ _ _ _) ?_; clear _h K5; intro w9 K9 o9 s9)
      refine bodyPost_ret (results_cell_tmp9 rfl _ _ (w.heap.size + 1) 36 _ (0, 0) _ _ rfl rfl K9 Try.underlying36 rfl (by kernel_rfl)) rfl ?_
      have b9 : Below w.heap.size w5 w9 := o9.below (fun x hx => by simp at hx; omega) hz2
      exact ⟨HF5.out.trans (Frm.of b9), .inr (.inl ⟨HB.out, k + 1, rfl, by omega, HST.out.2.1 _ _ _ b9 HPE.out⟩)⟩
    · have H2c := Lib.hid (And.intro k2 (And.intro n2 po))
      have K2 : Blk w5 g 36 #[.int .i64 c2.id, .int .i64 c2.vw.size, .int .i64 c2.obj, .int .i64 c2.seq, .slice c2.S c2.sn.length c2.cs', .bool c2.vw.on, .bool c2.vw.good, .slice c2.vw.M c2.vw.row.length c2.vw.cm, .string (strOf c2.vw.par), .int .i64 c2.vw.ps, .int .i64 c2.vw.ov, .int .i64 c2.ow, .int .i64 c2.it, .int .i64 c2.tg] := k2
      clear n2 po k2
      refine ⟨_, rfl, ?_⟩
      go_wp2_with (first
        | (have _h := K2; refine wpList_loadq rfl 36 (.tmp 6) rfl (g) [.int .i64 c2.id, .int .i64 c2.vw.size, .int .i64 c2.obj, .int .i64 c2.seq, .slice c2.S c2.sn.length c2.cs', .bool c2.vw.on, .bool c2.vw.good, .slice c2.vw.M c2.vw.row.length c2.vw.cm, .string (strOf c2.vw.par), .int .i64 c2.vw.ps, .int .i64 c2.vw.ov, .int .i64 c2.ow, .int .i64 c2.it, .int .i64 c2.tg] _ rfl K2 Try.underlying36 rfl (by kernel_rfl) ?_; clear _h K2)
        | (have _h := K5; refine wpList_storeq rfl 36 (.tmp 4) (.tmp 21) rfl (w.heap.size + 1) _ [.int .i64 c2.id, .int .i64 c2.vw.size, .int .i64 c2.obj, .int .i64 c2.seq, .slice c2.S c2.sn.length c2.cs', .bool c2.vw.on, .bool c2.vw.good, .slice c2.vw.M c2.vw.row.length c2.vw.cm, .string (strOf c2.vw.par), .int .i64 c2.vw.ps, .int .i64 c2.vw.ov, .int .i64 c2.ow, .int .i64 c2.it, .int .i64 c2.tg] rfl rfl K5 (by simp) (by kernel_rfl) (one14 _ _ _ _ _ _ _ _ _ _ _ _ _ _ _ _ _ _) ?_; clear _h K5; intro w9 K9 o9 s9))
      refine bodyPost_ret (results_cell_tmp9 rfl _ _ (w.heap.size + 1) 36 _ (0, 0) _ _ rfl rfl K9 Try.underlying36 rfl (by kernel_rfl)) rfl ?_
      have b9 : Below w.heap.size w5 w9 := o9.below (fun x hx => by simp at hx; omega) hz2
      exact ⟨HF5.out.trans (Frm.of b9), .inr (.inr ⟨HB.out, c2, rfl, (H2c.out.2.1.stay HR5.out o9).weaken (by have := HN4.out; omega), HST.out.2.2 _ _ _ b9 H2c.out.2.2⟩)⟩
end Go.Proofs.Ytiimanoloedbeaa

/-
  Locks: what Acquire, Release, Break and Owns do with a copy of a head. Conditions: the copy is the call's own.
-/
namespace Go.Proofs.Ytiimanoloedbeaa
open Go.RowKit Go.BigFrame
set_option linter.unusedSimpArgs false
set_option linter.unusedVariables false
set_option maxRecDepth 100000
theorem HA.N.drewN {a : HA} {w : World} {base : Nat} {F : List Nat} (h : a.N w base F) (n : Nat) : a.N (w.drewN n) base F := h.below ⟨rfl, rfl, rfl, Nat.le_refl _, fun _ _ => rfl⟩
/-- behind a store to the head's block -/
theorem does_set {W W1 w' : World} {base g : Nat} {c c' : HA} {PE : Nat → World → Prop} {PO : HdV → World → Prop} (hb : base ≤ W.heap.size) (hg : base ≤ g) (k : Blk W g 36 c.cs) (hW : Below W.heap.size W W1) (o : Only [g] W1 w') (k2 : Blk w' g 36 c'.cs) (hN : c.N W base []) (hc : ∀ w, c.N w base [] → c'.N w base []) (po : PO c'.v w') : DoesTo base [] g PE PO W (.returned .nilIface) w' := by
  have hW' : Below base W w' := (hW.mono hb).trans (o.below (fun x hx => by simp at hx; omega) (Nat.le_trans hb hW.size))
  have k1 : Blk W1 g 36 c.cs := k.of (hW.block _ k.lt)
  exact ⟨Frm.of hW', .inr ⟨rfl, c', k2, hc _ ((hN.below hW).stay k1 o), po⟩⟩
def AcqE (v : HdV) (n : Int) (k : Nat) : Prop := ((n < 0 ∨ 8 ≤ n) ∧ k = 1) ∨ (0 ≤ n ∧ n < 8 ∧ v.ow ≠ -1 ∧ v.ow ≠ n ∧ k = 9)
def AcqO (v : HdV) (n : Int) (v' : HdV) : Prop := 0 ≤ n ∧ n < 8 ∧ (v.ow = -1 ∨ v.ow = n) ∧ v' = { v with ow := n }
set_option maxHeartbeats 8000000 in
theorem acq1_any (W : World) (base g gc : Nat) (c : HA) (n : Int) (hb : base ≤ W.heap.size) (hg : base ≤ g) (hc : gc < base) (k : Blk W g 36 c.cs) (kc : W.cell? ⟨gc, 0, none⟩ = some (.int .i64 n)) (hN : c.N W base []) (hI : I64 n) :
    Calls Try.prog 108 #[.pointer (some ⟨g, 0, none⟩), .pointer (some ⟨gc, 0, none⟩)] W (DoesTo base [] g (fun k _ => AcqE c.v n k) (fun v _ => AcqO c.v n v) W) := by
  have HI := Lib.hid hI
  have K0 : Blk W g 36 #[.int .i64 c.id, .int .i64 c.vw.size, .int .i64 c.obj, .int .i64 c.seq, .slice c.S c.sn.length c.cs', .bool c.vw.on, .bool c.vw.good, .slice c.vw.M c.vw.row.length c.vw.cm, .string (strOf c.vw.par), .int .i64 c.vw.ps, .int .i64 c.vw.ov, .int .i64 c.ow, .int .i64 c.it, .int .i64 c.tg] := k
  have HK := Lib.hid (And.intro k (And.intro hN (And.intro hb hg)))
  have HS : Hid (∀ n, Below base W (W.drewN n)) := Lib.hid fun n => ⟨rfl, rfl, rfl, Nat.le_refl _, fun _ _ => rfl⟩
  clear k hN hb hg hI
  have q11 : W.cell? ⟨g, 11, none⟩ = some (.int .i64 c.ow) := K0.cell 11
  go_enter Try.func108, Try.ntmps108
  by_cases c1 : n < 0
  · have d1 : decide (n < 0) = true := decide_eq_true c1
    have HC := Lib.hid c1
    clear c1
    go_wp2
    go_ret
    exact ⟨Frm.of (Below.refl _ _), .inl ⟨1, rfl, by omega, .inl ⟨.inl HC.out, rfl⟩⟩⟩
  have d1 : decide (n < 0) = false := decide_eq_false c1
  by_cases c2 : 8 ≤ n
  · have d2 : decide (8 ≤ n) = true := decide_eq_true c2
    have HC := Lib.hid c2
    clear c1 c2
    go_wp2
    go_ret
    exact ⟨Frm.of (Below.refl _ _), .inl ⟨1, rfl, by omega, .inl ⟨.inr HC.out, rfl⟩⟩⟩
  have d2 : decide (8 ≤ n) = false := decide_eq_false c2
  by_cases c3 : c.ow = -1
  · have d3 : (c.ow != -1) = false := by simpa using c3
    have HC := Lib.hid (And.intro c1 (And.intro c2 c3))
    clear c1 c2 c3
    go_upto_region 3 with (fail)
    go_quiet (fail)
    have KP : Blk (W.drewN nq) g 36 #[.int .i64 c.id, .int .i64 c.vw.size, .int .i64 c.obj, .int .i64 c.seq, .slice c.S c.sn.length c.cs', .bool c.vw.on, .bool c.vw.good, .slice c.vw.M c.vw.row.length c.vw.cm, .string (strOf c.vw.par), .int .i64 c.vw.ps, .int .i64 c.vw.ov, .int .i64 c.ow, .int .i64 c.it, .int .i64 c.tg] := K0
    go_wp2_with (have _h := KP; refine wpList_setq rfl 3 (.tmp 28) (.tmp 26) rfl g 11 36 _ (.int .i64 n) rfl rfl KP (by simp) (by kernel_rfl) rfl ?_; clear _h KP; intro w9 K9 o9 s9)
    go_ret
    exact does_set (c := c) (c' := { c with ow := n }) HK.out.2.2.1 HK.out.2.2.2 HK.out.1 (W1 := W.drewN nq) ⟨rfl, rfl, rfl, Nat.le_refl _, fun _ _ => rfl⟩ o9 K9 HK.out.2.1 (fun w h => ⟨h.vw, h.sn, h.own, h.id, h.obj, h.seq, HI.out, h.it, h.tg⟩) ⟨by have := HC.out.1; omega, by have := HC.out.2.1; omega, .inl HC.out.2.2, rfl⟩
  by_cases c4 : c.ow = n
  · have d3 : (c.ow != -1) = true := by simpa using c3
    have d4 : (c.ow != n) = false := by simpa using c4
    have HC := Lib.hid (And.intro c1 (And.intro c2 c4))
    clear c1 c2 c3 c4
    go_upto_region 3 with (fail)
    go_quiet (fail)
    have KP : Blk (W.drewN nq) g 36 #[.int .i64 c.id, .int .i64 c.vw.size, .int .i64 c.obj, .int .i64 c.seq, .slice c.S c.sn.length c.cs', .bool c.vw.on, .bool c.vw.good, .slice c.vw.M c.vw.row.length c.vw.cm, .string (strOf c.vw.par), .int .i64 c.vw.ps, .int .i64 c.vw.ov, .int .i64 c.ow, .int .i64 c.it, .int .i64 c.tg] := K0
    go_wp2_with (have _h := KP; refine wpList_setq rfl 3 (.tmp 28) (.tmp 26) rfl g 11 36 _ (.int .i64 n) rfl rfl KP (by simp) (by kernel_rfl) rfl ?_; clear _h KP; intro w9 K9 o9 s9)
    go_ret
    exact does_set (c := c) (c' := { c with ow := n }) HK.out.2.2.1 HK.out.2.2.2 HK.out.1 (W1 := W.drewN nq) ⟨rfl, rfl, rfl, Nat.le_refl _, fun _ _ => rfl⟩ o9 K9 HK.out.2.1 (fun w h => ⟨h.vw, h.sn, h.own, h.id, h.obj, h.seq, HI.out, h.it, h.tg⟩) ⟨by have := HC.out.1; omega, by have := HC.out.2.1; omega, .inr HC.out.2.2, rfl⟩
  · have d3 : (c.ow != -1) = true := by simpa using c3
    have d4 : (c.ow != n) = true := by simpa using c4
    have HC := Lib.hid (And.intro c1 (And.intro c2 (And.intro c3 c4)))
    clear c1 c2 c3 c4
    go_upto_region 3 with (fail)
    go_quiet (fail)
    go_wp2
    go_ret
    exact ⟨Frm.of (HS.out nq), .inl ⟨9, rfl, by omega, .inr ⟨by have := HC.out.1; omega, by have := HC.out.2.1; omega, HC.out.2.2.1, HC.out.2.2.2, rfl⟩⟩⟩
end Go.Proofs.Ytiimanoloedbeaa

/-
  Locks: what Release, Owns and Break do with a copy of a head. Conditions: the copy is the call's own.
-/
namespace Go.Proofs.Ytiimanoloedbeaa
open Go.RowKit Go.BigFrame
set_option linter.unusedSimpArgs false
set_option linter.unusedVariables false
set_option maxRecDepth 100000
/-- a store to a block under base turns none of it -/
theorem own_aside {e : TypeId} {base size n g : Nat} {v : Value} {xs : List Value} {w w' : World} (h : w.ownsRow base e size v n xs) (hg : g < base) (o : Only [g] w w') : w'.ownsRow base e size v n xs :=
  row_of h fun k hm => o.block k (row_under h k hm) (fun hx => by
    simp at hx
    have := (World.ownsRow.lt h k (mem_rowOf.1 hm)).1
    omega)
theorem VA.N.aside {v : VA} {base g : Nat} {F : List Nat} {w w' : World} (h : v.N w base F) (hg : g < base) (o : Only [g] w w') : v.N w' base F := ⟨own_aside h.own hg o, h.far, h.ok, h.par, h.size, h.ps, h.ov, h.pl⟩
theorem SA.N.aside {v : SA} {base g : Nat} {F : List Nat} {w w' : World} (h : v.N w base F) (hg : g < base) (o : Only [g] w w') : v.N w' base F := ⟨h.vw.aside hg o, own_aside h.own hg o, h.far, h.ok, h.name, h.num, h.nl⟩
theorem HA.N.aside {a : HA} {base g : Nat} {F : List Nat} {w w' : World} (h : a.N w base F) (hg : g < base) (o : Only [g] w w') : a.N w' base F :=
  ⟨h.vw.aside hg o, fun x hx => (h.sn x hx).aside hg o, own_aside h.own hg o, h.id, h.obj, h.seq, h.ow, h.it, h.tg⟩
def ownedB (v : HdV) (n : Int) : Bool := (n != -1) && (v.ow == n)
theorem owned_any (W : World) (g : Nat) (c : HA) (n : Int) (k : Blk W g 36 c.cs) :
    Calls Try.prog 110 #[.pointer (some ⟨g, 0, none⟩), .int .i64 n] W fun e w' => e = .returned (.bool (ownedB c.v n)) ∧ W = w' := by
  have K0 : Blk W g 36 #[.int .i64 c.id, .int .i64 c.vw.size, .int .i64 c.obj, .int .i64 c.seq, .slice c.S c.sn.length c.cs', .bool c.vw.on, .bool c.vw.good, .slice c.vw.M c.vw.row.length c.vw.cm, .string (strOf c.vw.par), .int .i64 c.vw.ps, .int .i64 c.vw.ov, .int .i64 c.ow, .int .i64 c.it, .int .i64 c.tg] := k
  have q11 : W.cell? ⟨g, 11, none⟩ = some (.int .i64 c.ow) := K0.cell 11
  have e : ownedB c.v n = ((n != -1) && (c.ow == n)) := rfl
  rw [e]
  clear e k
  go_enter Try.func110, Try.ntmps110
  cases h1 : (n != -1) with
  | false =>
    go_wp2
    go_ret
    exact ⟨rfl, rfl⟩
  | true =>
    cases h2 : (c.ow == n) with
    | false =>
      go_wp2
      go_ret
      exact ⟨rfl, rfl⟩
    | true =>
      go_wp2
      go_ret
      exact ⟨rfl, rfl⟩
def RelE (v : HdV) (n : Int) (k : Nat) : Prop := (ownedB v n = false ∧ k = 10) ∨ (ownedB v n = true ∧ v.it ≠ 0 ∧ k = 9)
def RelO (v : HdV) (n : Int) (v' : HdV) : Prop := ownedB v n = true ∧ v.it = 0 ∧ v' = { v with ow := -1 }
set_option maxHeartbeats 8000000 in
theorem rel1_any (W : World) (base g : Nat) (c : HA) (gc : Nat) (n : Int) (hb : base ≤ W.heap.size) (hg : base ≤ g) (k : Blk W g 36 c.cs) (hN : c.N W base []) (kc : W.cell? ⟨gc, 0, none⟩ = some (.int .i64 n)) :
    Calls Try.prog 111 #[.pointer (some ⟨g, 0, none⟩), .pointer (some ⟨gc, 0, none⟩)] W (DoesTo base [] g (fun k _ => RelE c.v n k) (fun v _ => RelO c.v n v) W) := by
  have HOW := Lib.hid (owned_any W g c n k)
  have K0 : Blk W g 36 #[.int .i64 c.id, .int .i64 c.vw.size, .int .i64 c.obj, .int .i64 c.seq, .slice c.S c.sn.length c.cs', .bool c.vw.on, .bool c.vw.good, .slice c.vw.M c.vw.row.length c.vw.cm, .string (strOf c.vw.par), .int .i64 c.vw.ps, .int .i64 c.vw.ov, .int .i64 c.ow, .int .i64 c.it, .int .i64 c.tg] := k
  have HK := Lib.hid (And.intro k (And.intro hN (And.intro hb hg)))
  have HS : Hid (∀ n, Below base W (W.drewN n)) := Lib.hid fun n => ⟨rfl, rfl, rfl, Nat.le_refl _, fun _ _ => rfl⟩
  clear k hN hb hg
  have q12 : W.cell? ⟨g, 12, none⟩ = some (.int .i64 c.it) := K0.cell 12
  go_enter Try.func111, Try.ntmps111
  go_wp2_with fail
  refine HOW.out.mono ?_
  rintro e w1 ⟨rfl, rfl⟩
  cases ho : ownedB c.v n with
  | false =>
    have HO := Lib.hid ho
    clear ho
    go_wp2
    go_ret
    exact ⟨Frm.of (Below.refl _ _), .inl ⟨10, rfl, by omega, .inl ⟨HO.out, rfl⟩⟩⟩
  | true =>
    have HO := Lib.hid ho
    clear ho
    by_cases c3 : c.it = 0
    · have d3 : (c.it != 0) = false := by simpa using c3
      have HC := Lib.hid c3
      clear c3
      have KP := K0
      go_wp2_with (have _h := KP; refine wpList_setq rfl 3 (.tmp 17) (.const (.int .i64 (-1))) rfl g 11 36 _ (.int .i64 (-1)) rfl rfl KP (by simp) (by kernel_rfl) rfl ?_; clear _h KP; intro w9 K9 o9 s9)
      go_ret
      exact does_set (c := c) (c' := { c with ow := -1 }) HK.out.2.2.1 HK.out.2.2.2 HK.out.1 (W1 := W) ⟨rfl, rfl, rfl, Nat.le_refl _, fun _ _ => rfl⟩ o9 K9 HK.out.2.1 (fun w h => ⟨h.vw, h.sn, h.own, h.id, h.obj, h.seq, (show I64 (-1) by unfold I64; decide), h.it, h.tg⟩) (⟨HO.out, HC.out, rfl⟩)
    · have d3 : (c.it != 0) = true := by simpa using c3
      have HC := Lib.hid c3
      clear c3
      go_wp2
      go_ret
      exact ⟨Frm.of (Below.refl _ _), .inl ⟨9, rfl, by omega, .inr ⟨HO.out, HC.out, rfl⟩⟩⟩
def OwnsE (v : HdV) (n : Int) (k : Nat) : Prop := ownedB v n = false ∧ k = 10
def OwnsO (v : HdV) (n : Int) (v' : HdV) : Prop := ownedB v n = true ∧ v' = v
set_option maxHeartbeats 8000000 in
theorem owns1_any (W : World) (base g : Nat) (c : HA) (gc : Nat) (n : Int) (hb : base ≤ W.heap.size) (hg : base ≤ g) (k : Blk W g 36 c.cs) (hN : c.N W base []) (kc : W.cell? ⟨gc, 0, none⟩ = some (.int .i64 n)) :
    Calls Try.prog 109 #[.pointer (some ⟨g, 0, none⟩), .pointer (some ⟨gc, 0, none⟩)] W (DoesTo base [] g (fun k _ => OwnsE c.v n k) (fun v _ => OwnsO c.v n v) W) := by
  have HOW := Lib.hid (owned_any W g c n k)
  have K0 : Blk W g 36 #[.int .i64 c.id, .int .i64 c.vw.size, .int .i64 c.obj, .int .i64 c.seq, .slice c.S c.sn.length c.cs', .bool c.vw.on, .bool c.vw.good, .slice c.vw.M c.vw.row.length c.vw.cm, .string (strOf c.vw.par), .int .i64 c.vw.ps, .int .i64 c.vw.ov, .int .i64 c.ow, .int .i64 c.it, .int .i64 c.tg] := k
  have HK := Lib.hid (And.intro k (And.intro hN (And.intro hb hg)))
  have HS : Hid (∀ n, Below base W (W.drewN n)) := Lib.hid fun n => ⟨rfl, rfl, rfl, Nat.le_refl _, fun _ _ => rfl⟩
  clear k hN hb hg
  go_enter Try.func109, Try.ntmps109
  go_wp2_with fail
  refine HOW.out.mono ?_
  rintro e w1 ⟨rfl, rfl⟩
  cases ho : ownedB c.v n with
  | false =>
    have HO := Lib.hid ho
    clear ho
    go_wp2
    go_ret
    exact ⟨Frm.of (Below.refl _ _), .inl ⟨10, rfl, by omega, ⟨HO.out, rfl⟩⟩⟩
  | true =>
    have HO := Lib.hid ho
    clear ho
    go_wp2
    go_ret
    exact ⟨Frm.of (Below.refl _ _), .inr ⟨rfl, c, HK.out.1, HK.out.2.1, HO.out, rfl⟩⟩
def BrkE (v : HdV) (k : Nat) : Prop := v.ow = -1 ∧ k = 6
def BrkO (v : HdV) (v' : HdV) : Prop := v.ow ≠ -1 ∧ v' = { v with ow := -1 }
end Go.Proofs.Ytiimanoloedbeaa

/-
  Begin: why something isn't begun. Conditions: the head is the call's own.
-/
namespace Go.Proofs.Ytiimanoloedbeaa
open Go.RowKit Go.BigFrame
set_option linter.unusedSimpArgs false
set_option linter.unusedVariables false
set_option maxRecDepth 100000
theorem str_empty (l : List Nat) : (strOf l).toList.isEmpty = l.isEmpty := by rw [ByteArray.toList_eq, strOf_list]; cases l <;> rfl
theorem cloned_any (s : SA) (w : World) (hs : s.vw.par.length ≤ 1000000) (hp : ∀ b ∈ s.vw.par, b < 256) : Calls Try.prog 158 #[.agg s.cells.toArray] w fun e w' => e = .returned (.bool (!s.vw.par.isEmpty)) ∧ Below w.heap.size w w' := by
  have B0 := Lib.hid (below_alloc w (.cells s.cells.toArray 66))
  have he : (strOf s.vw.par).toList.isEmpty = s.vw.par.isEmpty := str_empty _
  unfold SA.cells at *
  have HE := Lib.hid he
  clear he
  go_enter Try.func158, Try.ntmps158
  go_wp2
  go_ret
  exact ⟨congrArg (fun b => Ending.returned (.bool (!b))) HE.out, B0.out⟩
set_option maxHeartbeats 4000000 in
theorem index_cl (c : Nat) (p : SA → Bool) (l : List SA) (A : Option Addr) (w : World) (hl : l.length ≤ 1000000) (hr : Reads w w.heap.size 11 A l.length (l.flatMap SA.cells))
    (hf : ∀ s ∈ l, ∀ w1, Calls Try.prog 158 #[.agg s.cells.toArray] w1 fun e w' => e = .returned (.bool (p s)) ∧ Below w1.heap.size w1 w') :
    Calls Try.prog 82 #[.slice A l.length c, .func (.func 158) #[] #[]] w fun e w' => e = .returned (.int .i64 (idxI p l)) ∧ Below w.heap.size w w' := by
  have H := Lib.hid hr
  have HF := Lib.hid hf
  clear hr hf
  go_enter Try.func82, Try.ntmps82
  go_wp2
  go_loopw [5, 8] (fun _ i wr => ∃ k : Nat, k ≤ l.length ∧ i = .int .i64 k ∧ Below w.heap.size w wr ∧ ∀ j s, j < k → l[j]? = some s → p s = false) (fun _ i _ => l.length - (intOf i).toNat)
  case atStart => exact ⟨0, by omega, rfl, Below.refl _ _, fun j s h => by omega⟩
  case round =>
    obtain ⟨k, hk, rfl, hb, hall⟩ := hrel
    have HA := Lib.hid hall
    have HB := Lib.hid hb
    have hwk : IntKind.i64.wrap ((k : Int) + 1) = (k : Int) + 1 := by rw [IntKind.wrap_i64]; omega
    clear hall hb
    by_cases hlt : k < l.length
    · obtain ⟨s, hs⟩ : ∃ s, l[k]? = some s := ⟨_, List.getElem?_eq_getElem hlt⟩
      obtain ⟨ad, had, -, hc⟩ := snap_at SA.cells_len (H.out.since HB.out) hs
      have HS := Lib.hid hs
      have HC := Lib.hid (HF.out s (List.mem_of_getElem? hs) wr)
      subst had
      clear hs
      go_wp2_with (have _h := hc; refine wpList_loadp rfl 66 (.tmp 14) rfl _ s.cells _ rfl hc Try.underlying66 rfl (by kernel_rfl) ?_; clear _h hc)
      refine HC.out.mono ?_
      rintro e w1 ⟨rfl, b1⟩
      have HB1 := Lib.hid (HB.out.trans (b1.mono HB.out.size))
      clear b1 HC
      cases hp : p s with
      | true =>
        have HI := Lib.hid (idx_skip p l k hk HA.out s HS.out hp)
        clear hp
        go_wp2
        go_ret
        exact ⟨by rw [HI.out]; rfl, HB1.out⟩
      | false =>
        have HP := Lib.hid hp
        clear hp
        go_wp2
        go_roundw
        case rel => exact ⟨k + 1, by omega, by go_num, HB1.out, fun j x hj hx => by
          rcases Nat.lt_succ_iff_lt_or_eq.1 hj with h | rfl
          · exact HA.out j x h hx
          · rw [HS.out] at hx; injection hx with hx; subst hx; exact HP.out⟩
        case measure => simp [intOf]; omega
    · obtain rfl : k = l.length := by omega
      have HI := Lib.hid (idx_none p l fun j x hx => HA.out j x (List.getElem?_eq_some_iff.1 hx).1 hx)
      go_wp2
      go_ret
      exact ⟨by rw [HI.out]; rfl, HB.out⟩
theorem contains_cl (c : Nat) (l : List SA) (A : Option Addr) (w : World) (hl : l.length ≤ 1000000) (hr : Reads w w.heap.size 11 A l.length (l.flatMap SA.cells)) (hp : ∀ s ∈ l, s.vw.par.length ≤ 1000000 ∧ ∀ b ∈ s.vw.par, b < 256) :
    Calls Try.prog 157 #[.slice A l.length c, .func (.func 158) #[] #[]] w fun e w' => e = .returned (.bool (l.any fun s => !s.vw.par.isEmpty)) ∧ Below w.heap.size w w' := by
  have HI := Lib.hid (index_cl c (fun s => !s.vw.par.isEmpty) l A w hl hr (fun s hs w1 => cloned_any s w1 (hp s hs).1 (hp s hs).2))
  have he := idx_any (fun s : SA => !s.vw.par.isEmpty) l
  obtain ⟨ix, hix⟩ : ∃ ix, ix = idxI (fun s : SA => !s.vw.par.isEmpty) l := ⟨_, rfl⟩
  rw [← hix] at HI he
  clear hr hix hp
  go_enter Try.func157, Try.ntmps157
  go_wp2_with fail
  refine HI.out.mono ?_
  rintro e w1 ⟨rfl, b1⟩
  have HB := Lib.hid b1
  clear b1
  go_wp2
  go_ret
  exact ⟨by first | rfl | exact congrArg (fun b => Ending.returned (.bool b)) he, HB.out⟩
end Go.Proofs.Ytiimanoloedbeaa

/-
  A good head's snapshots: no number and no name stands twice. No condition.
-/
namespace Go.Proofs.Ytiimanoloedbeaa
set_option linter.unusedSimpArgs false
set_option linter.unusedVariables false
end Go.Proofs.Ytiimanoloedbeaa

/-
  Begin: why something isn't begun, and what is begun. Conditions: the head is the call's own.
-/
namespace Go.Proofs.Ytiimanoloedbeaa
open Go.RowKit Go.BigFrame
set_option linter.unusedSimpArgs false
set_option linter.unusedVariables false
set_option maxRecDepth 100000
theorem idx_map {α β : Type} (f : α → β) (p : β → Bool) : ∀ l : List α, idxI p (l.map f) = idxI (fun x => p (f x)) l
  | [] => rfl
  | x :: l => by rw [List.map_cons, idxI, idxI, idx_map f p l]
/-- where a number stands -/
def idxN (v : HdV) (t : Int) : Int := idxI (fun s : SnV => s.num == t) v.sn
def protAt (v : HdV) (t : Int) : Bool := ((v.sn[(idxN v t).toNat]?).map SnV.prot).getD false
def refB (v : HdV) (i t : Int) : Nat :=
  if v.it ≠ 0 then 9 else if i < 1 ∨ 5 < i then 1 else
  if i = 1 then (if t < 0 ∨ v.size < t then 1 else 0)
  else if i = 2 then (if idxN v t < 0 then 6 else 0)
  else if i = 3 then (if idxN v t < 0 then 6 else if protAt v t = true then 12 else 0)
  else if i = 4 then (if t ≠ 0 then 1 else if v.lk.par = [] then 13 else if (v.sn.any fun s => !s.lk.par.isEmpty) = true then 9 else 0)
  else (if t ≠ 0 then 1 else if 0 < v.sn.length then 9 else 0)
theorem idxN_own (c : HA) (t : Int) : idxN c.v t = idxI (fun s : SA => s.num == t) c.sn := idx_map SA.v (fun s => s.num == t) c.sn
theorem idx_at {α : Type} (p : α → Bool) : ∀ (l : List α), 0 ≤ idxI p l → ∃ (k : Nat) (x : α), idxI p l = k ∧ l[k]? = some x ∧ p x = true
  | [], h => by unfold idxI at h; omega
  | x :: l, h => by
    rw [idxI] at h ⊢
    by_cases hx : p x = true
    · rw [if_pos hx]; exact ⟨0, x, rfl, rfl, hx⟩
    · rw [if_neg hx] at h ⊢
      by_cases h2 : idxI p l < 0
      · rw [if_pos h2] at h; omega
      · rw [if_neg h2] at h ⊢
        obtain ⟨k, y, e, hy, hp⟩ := idx_at p l (by omega)
        exact ⟨k + 1, y, by rw [e]; rfl, by simpa using hy, hp⟩
theorem sn_at {c : HA} {w : World} {base : Nat} {F : List Nat} (hN : c.N w base F) {k : Nat} {s : SA} (hs : c.sn[k]? = some s) : ∃ gS, c.S = some ⟨gS, 0, none⟩ ∧ base ≤ gS ∧ gS < w.heap.size ∧ ∀ j v, s.cells[j]? = some v → w.cell? ⟨gS, k * 11 + j, none⟩ = some v := by
  have hlt := (List.getElem?_eq_some_iff.1 hs).1
  have e : c.sn = c.sn.take k ++ s :: c.sn.drop (k + 1) := by
    have h2 := (List.getElem?_eq_some_iff.1 hs).2
    rw [← h2, ← List.drop_eq_getElem_cons hlt, List.take_append_drop]
  have ho := hN.own
  generalize hm : c.sn.length = m at ho
  rw [e] at ho
  obtain ⟨g, h1, h2, h3, h4⟩ := own_elem ho
  refine ⟨g, h1, h2, h3, fun j v hj => ?_⟩
  have := h4 j v hj
  rwa [List.length_take, Nat.min_eq_left (by omega)] at this
set_option maxHeartbeats 16000000 in
theorem refusal_any (W : World) (base g : Nat) (c : HA) (i t : Int) (hb : base ≤ W.heap.size) (hg : base ≤ g) (k : Blk W g 36 c.cs) (hN : c.N W base []) (hc : c.sn.length ≤ 1000) :
    Calls Try.prog 127 #[.pointer (some ⟨g, 0, none⟩), .int .i64 i, .int .i64 t] W fun e w' => e = .returned (errV (refB c.v i t)) ∧ Below W.heap.size W w' := by
  obtain ⟨ix, hix⟩ : ∃ ix, ix = idxI (fun s : SA => s.num == t) c.sn := ⟨_, rfl⟩
  have HNM : Hid (Calls Try.prog 30 #[.agg #[.int .i64 c.id, .int .i64 c.vw.size, .int .i64 c.obj, .int .i64 c.seq, .slice c.S c.sn.length c.cs', .bool c.vw.on, .bool c.vw.good, .slice c.vw.M c.vw.row.length c.vw.cm, .string (strOf c.vw.par), .int .i64 c.vw.ps, .int .i64 c.vw.ov, .int .i64 c.ow, .int .i64 c.it, .int .i64 c.tg], .int .i64 t] W fun e w' => e = .returned (.int .i64 ix) ∧ Below W.heap.size W w') := Lib.hid (by rw [hix]; exact number_any c t W hN.R (by omega))
  have HIX : Hid (idxN c.v t = ix) := Lib.hid (by rw [idxN_own, hix])
  have HAT : Hid (0 ≤ ix → ∃ (k : Nat) (s : SA), ix = k ∧ c.sn[k]? = some s) := Lib.hid fun h => by
    obtain ⟨k, s, e, hs, -⟩ := idx_at _ c.sn (hix ▸ h)
    exact ⟨k, s, hix.trans e, hs⟩
  have HCN := Lib.hid hc
  clear hix
  have K0 : Blk W g 36 #[.int .i64 c.id, .int .i64 c.vw.size, .int .i64 c.obj, .int .i64 c.seq, .slice c.S c.sn.length c.cs', .bool c.vw.on, .bool c.vw.good, .slice c.vw.M c.vw.row.length c.vw.cm, .string (strOf c.vw.par), .int .i64 c.vw.ps, .int .i64 c.vw.ov, .int .i64 c.ow, .int .i64 c.it, .int .i64 c.tg] := k
  have HK := Lib.hid (And.intro k (And.intro hN (And.intro hb hg)))
  have HS : Hid (∀ n, Below base W (W.drewN n)) := Lib.hid fun n => ⟨rfl, rfl, rfl, Nat.le_refl _, fun _ _ => rfl⟩
  clear k hN hb hg
  go_enter Try.func127, Try.ntmps127
  have KL := K0
  go_wp2_with (have _h := KL; refine wpList_loadq rfl 36 (.tmp 9) rfl (g) [.int .i64 c.id, .int .i64 c.vw.size, .int .i64 c.obj, .int .i64 c.seq, .slice c.S c.sn.length c.cs', .bool c.vw.on, .bool c.vw.good, .slice c.vw.M c.vw.row.length c.vw.cm, .string (strOf c.vw.par), .int .i64 c.vw.ps, .int .i64 c.vw.ov, .int .i64 c.ow, .int .i64 c.it, .int .i64 c.tg] _ rfl KL Try.underlying36 rfl (by kernel_rfl) ?_; clear _h KL)
  refine HNM.out.mono ?_
  rintro e w1 ⟨rfl, b1⟩
  have HB1 := Lib.hid b1
  have HN1 := Lib.hid (HK.out.2.1.below b1)
  have K1 : Blk w1 g 36 #[.int .i64 c.id, .int .i64 c.vw.size, .int .i64 c.obj, .int .i64 c.seq, .slice c.S c.sn.length c.cs', .bool c.vw.on, .bool c.vw.good, .slice c.vw.M c.vw.row.length c.vw.cm, .string (strOf c.vw.par), .int .i64 c.vw.ps, .int .i64 c.vw.ov, .int .i64 c.ow, .int .i64 c.it, .int .i64 c.tg] := K0.of (b1.block _ K0.lt)
  have q1 : w1.cell? ⟨g, 1, none⟩ = some (.int .i64 c.vw.size) := K1.cell 1
  have q4 : w1.cell? ⟨g, 4, none⟩ = some (.slice c.S c.sn.length c.cs') := K1.cell 4
  have q8 : w1.cell? ⟨g, 8, none⟩ = some (.string (strOf c.vw.par)) := K1.cell 8
  have q12 : w1.cell? ⟨g, 12, none⟩ = some (.int .i64 c.it) := K1.cell 12
  clear b1 K0 K1 HNM
  by_cases c0 : c.it = 0
  rotate_left
  · have d0 : (c.it != 0) = true := by simpa using c0
    have HC := Lib.hid c0
    clear c0
    go_wp2
    go_ret
    exact ⟨by rw [show refB c.v i t = 9 from by unfold refB; exact if_pos HC.out]; rfl, HB1.out⟩
  have d0 : (c.it != 0) = false := by simpa using c0
  have HC0 : Hid (¬ c.v.it ≠ 0) := Lib.hid (fun h => h c0)
  clear c0
  by_cases ca : i < 1
  · have da : decide (i < 1) = true := decide_eq_true ca
    have HC := Lib.hid ca
    clear ca
    go_wp2
    go_ret
    exact ⟨by rw [show refB c.v i t = 1 from by unfold refB; rw [if_neg HC0.out, if_pos (.inl HC.out)]]; rfl, HB1.out⟩
  have da : decide (i < 1) = false := decide_eq_false ca
  by_cases cb : 5 < i
  · have db : decide (5 < i) = true := decide_eq_true cb
    have HC := Lib.hid cb
    clear ca cb
    go_wp2
    go_ret
    exact ⟨by rw [show refB c.v i t = 1 from by unfold refB; rw [if_neg HC0.out, if_pos (.inr HC.out)]]; rfl, HB1.out⟩
  have db : decide (5 < i) = false := decide_eq_false cb
  clear da db
  obtain rfl | rfl | rfl | rfl | rfl : i = 1 ∨ i = 2 ∨ i = 3 ∨ i = 4 ∨ i = 5 := by omega
  · clear ca cb
    by_cases c1 : t < 0
    · have d1 : decide (t < 0) = true := decide_eq_true c1
      have HC := Lib.hid c1
      clear c1
      go_wp2
      go_ret
      exact ⟨by rw [show refB c.v 1 t = 1 from by unfold refB; rw [if_neg HC0.out, if_neg (by omega), if_pos rfl, if_pos (.inl HC.out)]]; rfl, HB1.out⟩
    have d1 : decide (t < 0) = false := decide_eq_false c1
    by_cases c2 : c.vw.size < t
    · have d2 : decide (c.vw.size < t) = true := decide_eq_true c2
      have HC := Lib.hid c2
      clear c1 c2
      go_wp2
      go_ret
      exact ⟨by rw [show refB c.v 1 t = 1 from by unfold refB; rw [if_neg HC0.out, if_neg (by omega), if_pos rfl, if_pos (.inr HC.out)]]; rfl, HB1.out⟩
    have d2 : decide (c.vw.size < t) = false := decide_eq_false c2
    have HC : Hid (¬ (t < 0 ∨ c.v.size < t)) := Lib.hid (fun h => h.elim c1 c2)
    clear c1 c2
    go_wp2
    go_ret
    exact ⟨by rw [show refB c.v 1 t = 0 from by unfold refB; rw [if_neg HC0.out, if_neg (by omega), if_pos rfl, if_neg HC.out]]; rfl, HB1.out⟩
  · clear ca cb
    by_cases c1 : ix < 0
    · have d1 : decide (ix < 0) = true := decide_eq_true c1
      have HC := Lib.hid c1
      clear c1
      go_wp2
      go_ret
      exact ⟨by rw [show refB c.v 2 t = 6 from by unfold refB; rw [if_neg HC0.out, if_neg (by omega), if_neg (by omega), if_pos rfl, HIX.out, if_pos HC.out]]; rfl, HB1.out⟩
    · have d1 : decide (ix < 0) = false := decide_eq_false c1
      have HC := Lib.hid c1
      clear c1
      go_wp2
      go_ret
      exact ⟨by rw [show refB c.v 2 t = 0 from by unfold refB; rw [if_neg HC0.out, if_neg (by omega), if_neg (by omega), if_pos rfl, HIX.out, if_neg (by have := HC.out; omega)]]; rfl, HB1.out⟩
  · clear ca cb
    by_cases c1 : ix < 0
    · have d1 : decide (ix < 0) = true := decide_eq_true c1
      have HC := Lib.hid c1
      clear c1
      go_wp2
      go_ret
      exact ⟨by rw [show refB c.v 3 t = 6 from by unfold refB; rw [if_neg HC0.out, if_neg (by omega), if_neg (by omega), if_neg (by omega), if_pos rfl, HIX.out, if_pos HC.out]]; rfl, HB1.out⟩
    · have d1 : decide (ix < 0) = false := decide_eq_false c1
      obtain ⟨k, s, rfl, hs⟩ := HAT.out (by omega)
      have HC := Lib.hid c1
      obtain ⟨gS, had, -, -, hcl⟩ := sn_at HN1.out hs
      have q5 : w1.cell? ⟨gS, k * 11 + 5, none⟩ = some (.bool s.prot) := hcl 5 _ rfl
      have hlt : k < c.sn.length := (List.getElem?_eq_some_iff.1 hs).1
      have HPA : Hid (protAt c.v t = s.prot) := Lib.hid (by
        unfold protAt
        rw [HIX.out]
        show (((c.sn.map SA.v)[((k : Int)).toNat]?).map SnV.prot).getD false = _
        rw [show ((k : Int)).toNat = k by omega, List.getElem?_map, hs]
        rfl)
      rw [had] at q4
      clear c1 hcl had hs
      cases hp : s.prot with
      | true =>
        rw [hp] at HPA q5
        clear hp
        go_wp2
        go_ret
        exact ⟨by rw [show refB c.v 3 t = 12 from by unfold refB; rw [if_neg HC0.out, if_neg (by omega), if_neg (by omega), if_neg (by omega), if_pos rfl, HIX.out, if_neg (by have := HC.out; omega), if_pos HPA.out]]; rfl, HB1.out⟩
      | false =>
        rw [hp] at HPA q5
        clear hp
        go_wp2
        go_ret
        exact ⟨by rw [show refB c.v 3 t = 0 from by unfold refB; rw [if_neg HC0.out, if_neg (by omega), if_neg (by omega), if_neg (by omega), if_pos rfl, HIX.out, if_neg (by have := HC.out; omega), HPA.out]; rfl]; rfl, HB1.out⟩
  · clear ca cb
    by_cases c1 : t = 0
    rotate_left
    · have d1 : (t != 0) = true := by simpa using c1
      have HC := Lib.hid c1
      clear c1
      go_wp2
      go_ret
      exact ⟨by rw [show refB c.v 4 t = 1 from by unfold refB; rw [if_neg HC0.out, if_neg (by omega), if_neg (by omega), if_neg (by omega), if_neg (by omega), if_pos rfl, if_pos HC.out]]; rfl, HB1.out⟩
    obtain rfl := c1
    have hem := str_empty c.vw.par
    cases hpe : c.vw.par.isEmpty with
    | true =>
      rw [hpe] at hem
      have HC : Hid (c.v.lk.par = []) := Lib.hid (List.isEmpty_iff.1 hpe)
      clear hpe
      go_wp2
      go_ret
      exact ⟨by rw [show refB c.v 4 0 = 13 from by unfold refB; rw [if_neg HC0.out, if_neg (by omega), if_neg (by omega), if_neg (by omega), if_neg (by omega), if_pos rfl, if_neg (by omega), if_pos HC.out]]; rfl, HB1.out⟩
    | false =>
      rw [hpe] at hem
      have HC : Hid (¬ c.v.lk.par = []) := Lib.hid (fun h => by have : c.vw.par = [] := h; rw [this] at hpe; cases hpe)
      have HCC : Hid (Calls Try.prog 157 #[.slice c.S c.sn.length c.cs', .func (.func 158) #[] #[]] w1 fun e w' => e = .returned (.bool (c.sn.any fun s => !s.vw.par.isEmpty)) ∧ Below w1.heap.size w1 w') := Lib.hid (contains_cl c.cs' c.sn c.S w1 (by have := HCN.out; omega) HN1.out.R.row (fun s hs => ⟨Nat.le_trans (HN1.out.sn s hs).vw.pl (by omega), (HN1.out.sn s hs).vw.par⟩))
      obtain ⟨an, han⟩ : ∃ an, an = (c.sn.any fun s => !s.vw.par.isEmpty) := ⟨_, rfl⟩
      rw [← han] at HCC
      have HAN : Hid ((c.v.sn.any fun s => !s.lk.par.isEmpty) = an) := Lib.hid (by rw [han]; show (c.sn.map SA.v).any _ = _; rw [List.any_map]; rfl)
      clear hpe han
      go_wp2_with fail
      refine HCC.out.mono ?_
      rintro e w2 ⟨rfl, b2⟩
      have HB2 := Lib.hid (HB1.out.trans (b2.mono HB1.out.size))
      clear b2 HB1
      have HB1 := HB2
      cases an with
      | true =>
        go_wp2
        go_ret
        exact ⟨by rw [show refB c.v 4 0 = 9 from by unfold refB; rw [if_neg HC0.out, if_neg (by omega), if_neg (by omega), if_neg (by omega), if_neg (by omega), if_pos rfl, if_neg (by omega), if_neg HC.out, if_pos HAN.out]]; rfl, HB1.out⟩
      | false =>
        go_wp2
        go_ret
        exact ⟨by rw [show refB c.v 4 0 = 0 from by unfold refB; rw [if_neg HC0.out, if_neg (by omega), if_neg (by omega), if_neg (by omega), if_neg (by omega), if_pos rfl, if_neg (by omega), if_neg HC.out, HAN.out]; rfl]; rfl, HB1.out⟩
  · clear ca cb
    by_cases c1 : t = 0
    rotate_left
    · have d1 : (t != 0) = true := by simpa using c1
      have HC := Lib.hid c1
      clear c1
      go_wp2
      go_ret
      exact ⟨by rw [show refB c.v 5 t = 1 from by unfold refB; rw [if_neg HC0.out, if_neg (by omega), if_neg (by omega), if_neg (by omega), if_neg (by omega), if_neg (by omega), if_pos HC.out]]; rfl, HB1.out⟩
    obtain rfl := c1
    have hll : c.v.sn.length = c.sn.length := List.length_map ..
    have HLL := Lib.hid hll
    clear hll
    by_cases c2 : 0 < c.sn.length
    · have d2 : decide (0 < (c.sn.length : Int)) = true := decide_eq_true (by omega)
      have HC := Lib.hid c2
      clear c2
      go_wp2
      go_ret
      exact ⟨by rw [show refB c.v 5 0 = 9 from by unfold refB; rw [if_neg HC0.out, if_neg (by omega), if_neg (by omega), if_neg (by omega), if_neg (by omega), if_neg (by omega), if_neg (by omega), HLL.out, if_pos HC.out]]; rfl, HB1.out⟩
    · have d2 : decide (0 < (c.sn.length : Int)) = false := decide_eq_false (by omega)
      have HC := Lib.hid c2
      clear c2
      go_wp2
      go_ret
      exact ⟨by rw [show refB c.v 5 0 = 0 from by unfold refB; rw [if_neg HC0.out, if_neg (by omega), if_neg (by omega), if_neg (by omega), if_neg (by omega), if_neg (by omega), if_neg (by omega), HLL.out, if_neg HC.out]]; rfl, HB1.out⟩
end Go.Proofs.Ytiimanoloedbeaa

/-
  Marks that fit; a head of another size; Begin's closure. Conditions: the copy is the call's own.
-/
namespace Go.Proofs.Ytiimanoloedbeaa
open Go.RowKit Go.BigFrame
set_option linter.unusedSimpArgs false
set_option linter.unusedVariables false
set_option maxRecDepth 100000
def BegO (v : HdV) (i t : Int) (v' : HdV) : Prop := refB v i t = 0 ∧ v' = { v with it := i, tg := t }
set_option maxHeartbeats 16000000 in
theorem beg1_any (W : World) (base g : Nat) (c : HA) (gi gt : Nat) (i t : Int) (hb : base ≤ W.heap.size) (hg : base ≤ g) (k : Blk W g 36 c.cs) (hN : c.N W base []) (hc : c.sn.length ≤ 1000) (hgi : gi < base) (hgt : gt < base) (ki : W.cell? ⟨gi, 0, none⟩ = some (.int .i64 i)) (kt : W.cell? ⟨gt, 0, none⟩ = some (.int .i64 t)) (hi : I64 i) (ht : I64 t) :
    Calls Try.prog 126 #[.pointer (some ⟨g, 0, none⟩), .pointer (some ⟨gi, 0, none⟩), .pointer (some ⟨gt, 0, none⟩)] W (DoesTo base [] g (fun k _ => k = refB c.v i t) (fun v _ => BegO c.v i t v) W) := by
  have HRF := Lib.hid (refusal_any W base g c i t hb hg k hN hc)
  have HII := Lib.hid (And.intro hi ht)
  have HKI : Hid (∀ W', Below base W W' → W'.cell? ⟨gi, 0, none⟩ = some (.int .i64 i)) := Lib.hid fun W' hW' => (hW'.cell hgi).trans ki
  have HKT : Hid (∀ W', Below base W W' → W'.cell? ⟨gt, 0, none⟩ = some (.int .i64 t)) := Lib.hid fun W' hW' => (hW'.cell hgt).trans kt
  have K0 : Blk W g 36 #[.int .i64 c.id, .int .i64 c.vw.size, .int .i64 c.obj, .int .i64 c.seq, .slice c.S c.sn.length c.cs', .bool c.vw.on, .bool c.vw.good, .slice c.vw.M c.vw.row.length c.vw.cm, .string (strOf c.vw.par), .int .i64 c.vw.ps, .int .i64 c.vw.ov, .int .i64 c.ow, .int .i64 c.it, .int .i64 c.tg] := k
  have HK := Lib.hid (And.intro k (And.intro hN (And.intro hb hg)))
  have HS : Hid (∀ n, Below base W (W.drewN n)) := Lib.hid fun n => ⟨rfl, rfl, rfl, Nat.le_refl _, fun _ _ => rfl⟩
  clear k hN hb hg hc hgi hgt hi ht
  go_enter Try.func126, Try.ntmps126
  go_wp2_with fail
  refine HRF.out.mono ?_
  rintro e w1 ⟨rfl, b1⟩
  have HB1 := Lib.hid b1
  have hbw : Below base W w1 := b1.mono HK.out.2.2.1
  have HBW := Lib.hid hbw
  clear b1 hbw HRF ki kt
  by_cases hr : refB c.v i t = 0
  rotate_left
  · obtain ⟨j, hj⟩ : ∃ j, refB c.v i t = j + 1 := ⟨refB c.v i t - 1, by omega⟩
    have HJ := Lib.hid hj
    rw [hj]
    simp only [errV]
    clear hr hj
    go_wp2
    go_ret
    exact ⟨Frm.of HBW.out, .inl ⟨j + 1, rfl, by omega, HJ.out.symm⟩⟩
  · have HR0 := Lib.hid hr
    rw [hr]
    simp only [errV]
    clear hr
    go_upto_region 4 with (fail)
    have hS : Below base W w1.drew := HBW.out.drew
    have KP : Blk w1.drew g 36 #[.int .i64 c.id, .int .i64 c.vw.size, .int .i64 c.obj, .int .i64 c.seq, .slice c.S c.sn.length c.cs', .bool c.vw.on, .bool c.vw.good, .slice c.vw.M c.vw.row.length c.vw.cm, .string (strOf c.vw.par), .int .i64 c.vw.ps, .int .i64 c.vw.ov, .int .i64 c.ow, .int .i64 c.it, .int .i64 c.tg] := K0.of (HB1.out.block _ K0.lt)
    refine any_beginL (fun W' => Below base W W') 99 (by kernel_rfl) ?_
    refine S_take (i := 0) (v := .pointer (some ⟨g, 0, none⟩)) rfl rfl (by kernel_rfl) (by kernel_rfl) (by kernel_rfl) (fun _ _ _ h => h) (Or.inl ⟨by rfl, fun W hw => by go_simp⟩) hS ?_
    simp only [Act.put, List.getElem_toArray, List.getElem_cons_succ, List.getElem_cons_zero, List.setIfInBounds_toArray, List.set_cons_zero, List.set_cons_succ]
    refine S_take (i := 1) (v := .pointer (some ⟨g, 0, none⟩)) rfl rfl (by kernel_rfl) (by kernel_rfl) (by kernel_rfl) (fun _ _ _ h => h) (Or.inl ⟨by rfl, fun W hw => by go_simp⟩) hS ?_
    simp only [Act.put, List.getElem_toArray, List.getElem_cons_succ, List.getElem_cons_zero, List.setIfInBounds_toArray, List.set_cons_zero, List.set_cons_succ]
    refine S_take (i := 2) (v := .int .i64 i) rfl rfl (by kernel_rfl) (by kernel_rfl) (by kernel_rfl) (fun _ _ _ h => h) (Or.inl ⟨by rfl, fun W hw => by have k1 := HKI.out W hw; go_simp⟩) hS ?_
    simp only [Act.put, List.getElem_toArray, List.getElem_cons_succ, List.getElem_cons_zero, List.setIfInBounds_toArray, List.set_cons_zero, List.set_cons_succ]
    refine S_take (i := 3) (v := .int .i64 t) rfl rfl (by kernel_rfl) (by kernel_rfl) (by kernel_rfl) (fun _ _ _ h => h) (Or.inl ⟨by rfl, fun W hw => by have k1 := HKT.out W hw; go_simp⟩) hS ?_
    simp only [Act.put, List.getElem_toArray, List.getElem_cons_succ, List.getElem_cons_zero, List.setIfInBounds_toArray, List.set_cons_zero, List.set_cons_succ]
    refine S_take (i := 4) (v := .pointer (some ⟨g, 0, none⟩)) rfl rfl (by kernel_rfl) (by kernel_rfl) (by kernel_rfl) (fun _ _ _ h => h) (Or.inl ⟨by rfl, fun W hw => by go_simp⟩) hS ?_
    simp only [Act.put, List.getElem_toArray, List.getElem_cons_succ, List.getElem_cons_zero, List.setIfInBounds_toArray, List.set_cons_zero, List.set_cons_succ]
    refine S_take (i := 5) (v := .pointer (some ⟨g, 12, none⟩)) rfl rfl (by kernel_rfl) (by kernel_rfl) (by kernel_rfl) (fun _ _ _ h => h) (Or.inl ⟨by rfl, fun W hw => by go_simp⟩) hS ?_
    simp only [Act.put, List.getElem_toArray, List.getElem_cons_succ, List.getElem_cons_zero, List.setIfInBounds_toArray, List.set_cons_zero, List.set_cons_succ]
    refine L_one (j := 6) (by kernel_rfl) rfl (by rfl) ?_
    simp only [Act.put, List.getElem_toArray, List.getElem_cons_succ, List.getElem_cons_zero, List.setIfInBounds_toArray, List.set_cons_zero, List.set_cons_succ]
    refine wp_setq 3 (.tmp 18) (.tmp 15) rfl g 12 36 _ (.int .i64 i) rfl rfl KP (by simp) (by kernel_rfl) rfl ?_
    intro w8 K8 o8 s8
    have hS := hS.trans (o8.below (fun x hx => by simp at hx; have := HK.out.2.2.2; omega) (Nat.le_trans HK.out.2.2.1 hS.size))
    refine ⟨hS, ?_⟩
    simp only [Act.put, List.getElem_toArray, List.getElem_cons_succ, List.getElem_cons_zero, List.setIfInBounds_toArray, List.set_cons_zero, List.set_cons_succ]
    refine S_take (i := 7) (v := .pointer (some ⟨g, 0, none⟩)) rfl rfl (by kernel_rfl) (by kernel_rfl) (by kernel_rfl) (fun _ _ _ h => h) (Or.inl ⟨by rfl, fun W hw => by go_simp⟩) hS ?_
    simp only [Act.put, List.getElem_toArray, List.getElem_cons_succ, List.getElem_cons_zero, List.setIfInBounds_toArray, List.set_cons_zero, List.set_cons_succ]
    refine S_take (i := 8) (v := .pointer (some ⟨g, 13, none⟩)) rfl rfl (by kernel_rfl) (by kernel_rfl) (by kernel_rfl) (fun _ _ _ h => h) (Or.inl ⟨by rfl, fun W hw => by go_simp⟩) hS ?_
    simp only [Act.put, List.getElem_toArray, List.getElem_cons_succ, List.getElem_cons_zero, List.setIfInBounds_toArray, List.set_cons_zero, List.set_cons_succ]
    refine L_one (j := 9) (by kernel_rfl) rfl (by rfl) ?_
    simp only [Act.put, List.getElem_toArray, List.getElem_cons_succ, List.getElem_cons_zero, List.setIfInBounds_toArray, List.set_cons_zero, List.set_cons_succ]
    refine wp_setq 3 (.tmp 20) (.tmp 16) rfl g 13 36 _ (.int .i64 t) rfl rfl K8 (by simp) (by kernel_rfl) rfl ?_
    intro w9 K9 o9 s9
    have hS := hS.trans (o9.below (fun x hx => by simp at hx; have := HK.out.2.2.2; omega) (Nat.le_trans HK.out.2.2.1 hS.size))
    refine ⟨hS, ?_⟩
    simp only [Act.put, List.getElem_toArray, List.getElem_cons_succ, List.getElem_cons_zero, List.setIfInBounds_toArray, List.set_cons_zero, List.set_cons_succ]
    refine L_done (by kernel_rfl) ?_
    refine NoPanic.normal ?_
    have HS9 := Lib.hid hS
    clear hS
    go_wp2
    go_ret
    have o1 : Only [g] w1.drew w9 := o8.trans o9 (fun k h => .inl h)
    exact does_set (c := c) (c' := { c with it := i, tg := t }) HK.out.2.2.1 HK.out.2.2.2 HK.out.1 (W1 := w1.drew) HB1.out.drew o1 K9 HK.out.2.1 (fun w h => ⟨h.vw, h.sn, h.own, h.id, h.obj, h.seq, h.ow, HII.out.1, HII.out.2⟩) ⟨HR0.out, rfl⟩
end Go.Proofs.Ytiimanoloedbeaa
