/-
  Objects with clones in memory: how they lie, how they are read. No condition but the sizes.
-/
import Derived.Test.YtjepfeagbiceoaaQa
import Derived.Test.YtjepfeagbiceoaaWr
import Derived.Test.YtjepfeagbiceoaaRegL
import Derived.Test.YtjepfeagbiceoaaAgg
namespace Go.Proofs.Ytjepfeagbiceoaa
open Go.RowKit
set_option linter.unusedSimpArgs false
set_option linter.unusedVariables false
set_option maxRecDepth 100000
theorem Ints.since {w w' : World} {B n : Nat} {A : Option Addr} {l : List Int} (h : Ints w B A n l) (hb : Below w.heap.size w w') : Ints w' B A n l := Reads.since h hb
theorem Ints.more {w : World} {B B' n : Nat} {A : Option Addr} {l : List Int} (h : Ints w B A n l) (hB : B ≤ B') : Ints w B' A n l := Reads.more h hB
theorem Ints.drew {w : World} {B n : Nat} {A : Option Addr} {l : List Int} (h : Ints w B A n l) : Ints w.drew B A n l := h
/-- a clone, and where it lies -/
structure CA where
  sn : List Int
  dt : List Nat
  S : Option Addr
  cs : Nat
  D : Option Addr
  cd : Nat
def CA.v (c : CA) : ClV := ⟨c.sn, c.dt⟩
def CA.cells (c : CA) : List Value := [.slice c.S c.sn.length c.cs, .slice c.D c.dt.length c.cd]
theorem CA.cells_len (c : CA) : c.cells.length = 2 := rfl
theorem CA.cells_one (c : CA) : ∀ u ∈ c.cells, u.oneCell' = true := by
  intro u hu
  simp [CA.cells] at hu
  rcases hu with rfl | rfl <;> rfl
structure CA.R (c : CA) (w : World) : Prop where
  sn : Ints w w.heap.size c.S c.sn.length c.sn
  dt : Bytes w w.heap.size c.D c.dt.length c.dt
  i1 : ∀ s ∈ c.sn, -9223372036854775808 ≤ s ∧ s ≤ 9223372036854775807
  s1 : c.sn.length ≤ 9223372036854775807
  d1 : c.dt.length ≤ 9223372036854775807
  s2 : c.sn.length ≤ c.cs
  d2 : c.dt.length ≤ c.cd
theorem CA.R.since {c : CA} {w w' : World} (h : c.R w) (hb : Below w.heap.size w w') : c.R w' := ⟨(h.sn.since hb).more hb.size, (h.dt.since hb).more hb.size, h.i1, h.s1, h.d1, h.s2, h.d2⟩
/-- an object, and where it lies -/
structure OA where
  th : Bool
  dt : List Nat
  D : Option Addr
  cd : Nat
  sq : Int
  C : Option Addr
  cc : Nat
  cl : List CA
def OA.vs (o : OA) : List ClV := o.cl.map CA.v
def OA.v (o : OA) : OV := ⟨o.th, o.dt, o.sq, o.vs⟩
def OA.cs (o : OA) : Array Value := #[.bool o.th, .slice o.D o.dt.length o.cd, .int .i64 o.sq, .slice o.C o.cl.length o.cc]
def OA.zero : OA := ⟨false, [], none, 0, 0, none, 0, []⟩
theorem OA.vs_len (o : OA) : o.vs.length = o.cl.length := by simp [OA.vs]
structure OA.R (o : OA) (w : World) : Prop where
  dt : Bytes w w.heap.size o.D o.dt.length o.dt
  row : Reads w w.heap.size 2 o.C o.cl.length (o.cl.flatMap CA.cells)
  cl : ∀ c ∈ o.cl, c.R w
  q1 : -9223372036854775808 ≤ o.sq
  q2 : o.sq ≤ 9223372036854775807
  d1 : o.dt.length ≤ 9223372036854775807
  c1 : o.cl.length ≤ 9223372036854775807
  d2 : o.dt.length ≤ o.cd
  c2 : o.cl.length ≤ o.cc
theorem OA.R.since {o : OA} {w w' : World} (h : o.R w) (hb : Below w.heap.size w w') : o.R w' := ⟨(h.dt.since hb).more hb.size, (h.row.since hb).more hb.size, fun c hc => (h.cl c hc).since hb, h.q1, h.q2, h.d1, h.c1, h.d2, h.c2⟩
theorem OA.R.drew {o : OA} {w : World} (h : o.R w) : o.R w.drew := h.since (Below.refl _ w).drew
theorem OA.zero_R (w : World) : OA.zero.R w := ⟨⟨Reads.none_, fun b hb => (by cases hb)⟩, Reads.none_, fun c hc => (by cases hc), by decide, by decide, by decide, by decide, by decide, by decide⟩
theorem OA.R.get {o : OA} {w : World} (h : o.R w) {k : Nat} {c : CA} (hk : o.cl[k]? = some c) : ∃ ad, o.C = some ad ∧ ad.block < w.heap.size ∧ ∀ j v, c.cells[j]? = some v → w.cell? ((ad.add (k * 2)).add j) = some v := by
  have hl := (List.getElem?_eq_some_iff.1 hk).1
  obtain ⟨ad, e, hb, hc⟩ := h.row.2 (by omega)
  refine ⟨ad, e, hb, fun j v hj => ?_⟩
  rw [add_of_add]
  have hj2 : j < 2 := by have := (List.getElem?_eq_some_iff.1 hj).1; rwa [CA.cells_len] at this
  exact hc _ v (by rw [flat_at CA.cells 2 CA.cells_len o.cl k j c hk hj2]; exact hj)
/-- small: as what is looked at -/
structure OA.Sm (o : OA) : Prop where
  dt : o.dt.length ≤ 10000
  cn : o.cl.length ≤ 1000
  cl : ∀ c ∈ o.cl, c.sn.length ≤ 10000 ∧ c.dt.length ≤ 10000
theorem OA.zero_Sm : OA.zero.Sm := ⟨by decide, by decide, fun c hc => (by cases hc)⟩
/-- a context, and where it lies -/
structure XA where
  sq : Int
  sn : List Int
  S : Option Addr
  cs : Nat
def XA.v (c : XA) : CxV := ⟨c.sq, c.sn⟩
def XA.cells (c : XA) : Array Value := #[.int .i64 c.sq, .slice c.S c.sn.length c.cs]
structure XA.R (c : XA) (w : World) : Prop where
  sn : Ints w w.heap.size c.S c.sn.length c.sn
  i1 : ∀ s ∈ c.sn, -9223372036854775808 ≤ s ∧ s ≤ 9223372036854775807
  q1 : -9223372036854775808 ≤ c.sq
  q2 : c.sq ≤ 9223372036854775807
  s1 : c.sn.length ≤ 9223372036854775807
  s2 : c.sn.length ≤ c.cs
theorem XA.R.since {c : XA} {w w' : World} (h : c.R w) (hb : Below w.heap.size w w') : c.R w' := ⟨(h.sn.since hb).more hb.size, h.i1, h.q1, h.q2, h.s1, h.s2⟩
theorem intR_at {l : List Int} (h : ∀ s ∈ l, -9223372036854775808 ≤ s ∧ s ≤ 9223372036854775807) {k : Nat} {x : Int} (hk : l[k]? = some x) : -9223372036854775808 ≤ x ∧ x ≤ 9223372036854775807 := h x (List.mem_of_getElem? hk)
theorem run_loadVar_scl (w : World) (p : Addr) (s : CA) (hc : ∀ j v, s.cells[j]? = some v → w.cell? (p.add j) = some v) : (loadVar 79 p).run Try.prog w = .ok (.agg s.cells.toArray) w := by
  have hl : (loadCells p 2).run Try.prog w = .ok s.cells.toArray w := run_loadCells_list (P := Try.prog) w p s.cells hc
  have hagg : (isAgg 79).run Try.prog w = .ok true w := by
    unfold isAgg
    rw [Sem.run_bind, run_underlying Try.underlying79 w]
    rfl
  have hi : (Try.prog.info? 79).map (·.size) = some 2 := by kernel_rfl
  cases hq : Try.prog.info? 79 with
  | none => simp [hq] at hi
  | some i =>
    have hs : i.size = 2 := by simpa [hq] using hi
    simp [loadVar, Sem.run_bind, hagg, sizeOf, typeInfo, hq, hs, hl]
theorem wpList_load_scl {ops : Array Oper} {rest : List Oper} {op : Oper} {a : Act} {w : World} {Q : Exit → Act → World → Prop} (hgd : op.guard = none) (x : Operand) (ho : op.op = .load 79 x)
    (p : Addr) (hx : a.eval x = .pointer (some p)) (s : CA) (hc : ∀ j v, s.cells[j]? = some v → w.cell? (p.add j) = some v)
    (h : wpList Try.prog ops Q rest (a.put op.dst (.agg #[.slice s.S s.sn.length s.cs, .slice s.D s.dt.length s.cd])) w) : wpList Try.prog ops Q (op :: rest) a w :=
  wpList_plain hgd fun _ hK => by
    unfold Oper.wp execOp
    simp only [ho, hx, Instr.loadAt, Instr.sureAddr, Sem.run_bind, Sem.run_pure, Result.andThen_ok, run_loadVar_scl w p s hc]
    exact hK _ _ h
theorem run_loadVar_rcl (w : World) (p : Addr) (s : CA) (hc : ∀ j v, s.cells[j]? = some v → w.cell? (p.add j) = some v) : (loadVar 78 p).run Try.prog w = .ok (.agg s.cells.toArray) w := by
  have hl : (loadCells p 2).run Try.prog w = .ok s.cells.toArray w := run_loadCells_list (P := Try.prog) w p s.cells hc
  have hagg : (isAgg 78).run Try.prog w = .ok true w := by
    unfold isAgg
    rw [Sem.run_bind, run_underlying Try.underlying78 w]
    rfl
  have hi : (Try.prog.info? 78).map (·.size) = some 2 := by kernel_rfl
  cases hq : Try.prog.info? 78 with
  | none => simp [hq] at hi
  | some i =>
    have hs : i.size = 2 := by simpa [hq] using hi
    simp [loadVar, Sem.run_bind, hagg, sizeOf, typeInfo, hq, hs, hl]
theorem wpList_load_rcl {ops : Array Oper} {rest : List Oper} {op : Oper} {a : Act} {w : World} {Q : Exit → Act → World → Prop} (hgd : op.guard = none) (x : Operand) (ho : op.op = .load 78 x)
    (p : Addr) (hx : a.eval x = .pointer (some p)) (s : CA) (hc : ∀ j v, s.cells[j]? = some v → w.cell? (p.add j) = some v)
    (h : wpList Try.prog ops Q rest (a.put op.dst (.agg #[.slice s.S s.sn.length s.cs, .slice s.D s.dt.length s.cd])) w) : wpList Try.prog ops Q (op :: rest) a w :=
  wpList_plain hgd fun _ hK => by
    unfold Oper.wp execOp
    simp only [ho, hx, Instr.loadAt, Instr.sureAddr, Sem.run_bind, Sem.run_pure, Result.andThen_ok, run_loadVar_rcl w p s hc]
    exact hK _ _ h
end Go.Proofs.Ytjepfeagbiceoaa
