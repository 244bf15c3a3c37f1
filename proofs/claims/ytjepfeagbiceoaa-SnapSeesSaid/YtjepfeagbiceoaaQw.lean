/-
  Changes in memory: how a script of them lies, how one is read; what a change and what forgetting come to. Conditions: the script reads as it is said to.
-/
import Derived.Test.YtjepfeagbiceoaaQu
namespace Go.Proofs.Ytjepfeagbiceoaa
open Go.RowKit Go.BigFrame
set_option linter.unusedSimpArgs false
set_option linter.unusedVariables false
set_option maxRecDepth 100000
def PA.cells (x : PA) : List Value := [.int .i64 x.kd, .int .i64 x.at_, .int .i64 x.n, .slice x.D x.dt.length x.cd, .int .i64 x.cx.sq, .slice x.cx.S x.cx.sn.length x.cx.cs]
theorem PA.cells_len (x : PA) : x.cells.length = 6 := rfl
structure PasR (w : World) (A : Option Addr) (os : List PA) : Prop where
  row : Reads w w.heap.size 6 A os.length (os.flatMap PA.cells)
  ok : ∀ o ∈ os, o.R w
theorem PasR.since {w w' : World} {A : Option Addr} {os : List PA} (h : PasR w A os) (hb : Below w.heap.size w w') : PasR w' A os := ⟨(h.row.since hb).more hb.size, fun o ho => (h.ok o ho).since hb⟩
theorem PasR.get {w : World} {A : Option Addr} {os : List PA} (h : PasR w A os) {k : Nat} {o : PA} (hk : os[k]? = some o) : ∃ ad, A = some ad ∧ ad.block < w.heap.size ∧ ∀ j v, o.cells[j]? = some v → w.cell? ((ad.add (k * 6)).add j) = some v := by
  have hl := (List.getElem?_eq_some_iff.1 hk).1
  obtain ⟨ad, e, hb, hc⟩ := h.row.2 (by omega)
  refine ⟨ad, e, hb, fun j v hj => ?_⟩
  rw [add_of_add]
  have hj6 : j < 6 := by have := (List.getElem?_eq_some_iff.1 hj).1; rwa [PA.cells_len] at this
  exact hc _ v (by rw [flat_at PA.cells 6 PA.cells_len os k j o hk hj6]; exact hj)
theorem run_loadVar_pa (w : World) (p : Addr) (s : PA) (hc : ∀ j v, s.cells[j]? = some v → w.cell? (p.add j) = some v) : (loadVar 30 p).run Try.prog w = .ok (.agg s.cells.toArray) w := by
  have hl : (loadCells p 6).run Try.prog w = .ok s.cells.toArray w := run_loadCells_list (P := Try.prog) w p s.cells hc
  have hagg : (isAgg 30).run Try.prog w = .ok true w := by
    unfold isAgg
    rw [Sem.run_bind, run_underlying Try.underlying30 w]
    rfl
  have hi : (Try.prog.info? 30).map (·.size) = some 6 := by kernel_rfl
  cases hq : Try.prog.info? 30 with
  | none => simp [hq] at hi
  | some i =>
    have hs : i.size = 6 := by simpa [hq] using hi
    simp [loadVar, Sem.run_bind, hagg, sizeOf, typeInfo, hq, hs, hl]
theorem wpList_load_pa {ops : Array Oper} {rest : List Oper} {op : Oper} {a : Act} {w : World} {Q : Exit → Act → World → Prop} (hgd : op.guard = none) (x : Operand) (ho : op.op = .load 30 x)
    (p : Addr) (hx : a.eval x = .pointer (some p)) (s : PA) (hc : ∀ j v, s.cells[j]? = some v → w.cell? (p.add j) = some v)
    (h : wpList Try.prog ops Q rest (a.put op.dst (.agg #[.int .i64 s.kd, .int .i64 s.at_, .int .i64 s.n, .slice s.D s.dt.length s.cd, .int .i64 s.cx.sq, .slice s.cx.S s.cx.sn.length s.cx.cs])) w) : wpList Try.prog ops Q (op :: rest) a w :=
  wpList_plain hgd fun _ hK => by
    unfold Oper.wp execOp
    simp only [ho, hx, Instr.loadAt, Instr.sureAddr, Sem.run_bind, Sem.run_pure, Result.andThen_ok, run_loadVar_pa w p s hc]
    exact hK _ _ h
/-! ### what a change comes to -/
theorem seeO_good {o : OV} {c : CxV} (hg : Good o) (hc : CxG c) (hq : o.sq ≤ c.sq) (hn : (seeO o c).cl.length ≤ 16) : Good (seeO o c) := by
  cases ht : o.th with
  | true =>
    have h := see_good hg hc hq hn (some o.dt) (fun d e => by injection e with e; subst e; exact hg.dt)
    have e : withHead (seeO o c) (some o.dt) = seeO o c := by simp [withHead, seeO, ht]
    rwa [e] at h
  | false =>
    have h := see_good hg hc hq hn none (fun d e => by cases e)
    have e : withHead (seeO o c) none = seeO o c := by simp [withHead, seeO, ht, hg.th ht]
    rwa [e] at h
theorem ChR.good {o x : OV} {c : CxV} {km k : Nat} {hd : Option (List Nat)} (h : ChR o c km hd x k) (hk : k = 0) (hh : km = 0 → Good o → Good (seeO o c) → ∀ d, hd = some d → d.length ≤ 256) : Good x ∧ x.sq = c.sq := by
  cases h with
  | bad _ => cases hk
  | ctx _ _ => cases hk
  | may _ _ _ h => exact absurd hk h
  | many _ _ _ _ _ => cases hk
  | ok h1 h2 h3 h4 h5 =>
    refine ⟨see_good h1 h2 h3 h5 hd (hh h4 h1 (seeO_good h1 h2 h3 h5)), ?_⟩
    cases hd <;> rfl
theorem opR.good {o x : OV} {kd a n : Int} {dt : List Nat} {c : CxV} {k : Nat} (h : opR o kd a n dt c x k) (hk : k = 0) (h1 : 1 ≤ kd) (h5 : kd ≤ 5) : Good x ∧ x.sq = c.sq := by
  unfold opR at h
  split at h
  · refine h.good hk fun h0 hg hs d e => ?_
    injection e with e
    subst e
    rw [writeD_len]
    unfold writeK at h0
    split at h0
    · cases h0
    · have := hg.dt
      omega
  split at h
  · refine h.good hk fun h0 hg hs d e => ?_
    injection e with e
    subst e
    rw [zeroD_len]
    exact hg.dt
  split at h
  · refine h.good hk fun h0 hg hs d e => ?_
    injection e with e
    subst e
    have := hg.dt
    simp
    omega
  split at h
  · exact h.good hk fun h0 hg hs d e => by cases e
  split at h
  · exact h.good hk fun h0 hg hs d e => atO_len e hs
  · omega
/-- the head is dropped, no snapshot made since -/
theorem drop_ok {o x : OV} {k : Nat} (hg : Good o) (h : ChR o ⟨o.sq, []⟩ 0 none x k) : k = 0 ∧ x = ⟨false, [], o.sq, o.cl⟩ ∧ Good x := by
  have hc : CxG ⟨o.sq, []⟩ := ⟨hg.sq, by simp, by simp, fun s hs => by cases hs⟩
  have e : seeO o ⟨o.sq, []⟩ = ⟨o.th, o.dt, o.sq, o.cl⟩ := by simp [seeO, newCl, freshI]
  have h16 : (seeO o ⟨o.sq, []⟩).cl.length ≤ 16 := by rw [e]; exact hg.cn
  obtain ⟨hx, hk⟩ := h.one (.ok hg hc (Int.le_refl _) rfl h16)
  refine ⟨hk, ?_, ?_⟩
  · rw [hx, e]; rfl
  · exact (h.good hk (fun _ _ _ d e => by cases e)).1
/-- what is left when all snapshots before s are forgotten -/
structure Left (q : Int) (s : Int) (x : OV) : Prop where
  g : Good x
  th : x.th = false
  sq : x.sq = q
  sn : ∀ y ∈ snAll x.cl, s ≤ y
theorem Left.first {o x : OV} (hg : Good x) (h : x = ⟨false, [], o.sq, o.cl⟩) : Left o.sq 1 x := ⟨hg, by rw [h], by rw [h], fun y hy => by have := hg.lim y hy; omega⟩
theorem Left.next {q s : Int} {x y : OV} {k : Nat} (h : Left q s x) (h1 : 1 ≤ s) (ht : TrR x s y k) : k = 0 ∧ Left q (s + 1) y := by
  obtain ⟨rfl, rfl⟩ := ht.one (.ok h.g h1)
  refine ⟨rfl, trim_good h.g s, h.th, h.sq, fun y hy => ?_⟩
  have hy' : y ∈ snAll (trimCl x.cl s) := hy
  rw [trim_snaps] at hy'
  obtain ⟨h2, h3⟩ := List.mem_filter.1 hy'
  have h4 := h.sn y h2
  have h5 : y ≠ s := by simpa using h3
  omega
theorem Left.last {q s : Int} {x : OV} (h : Left q s x) (hs : q < s) : x.cl = [] := by
  refine trim_none ?_ h.g.cl
  refine List.eq_nil_iff_forall_not_mem.2 fun y hy => ?_
  have h1 := h.sn y hy
  have h2 := (h.g.lim y hy).2
  rw [h.sq] at h2
  omega
/-! ### is an object empty? -/
theorem empty_any {w : World} (o : OA) (hc : o.cl.length ≤ 1000) : Calls Try.prog 26 #[.agg o.cs] w fun e w' => e = .returned (.bool (!o.th && decide (o.cl.length = 0))) ∧ Below w.heap.size w w' := by
  have HB0 := Lib.hid (below_alloc w (.cells #[.bool o.th, .slice o.D o.dt.length o.cd, .int .i64 o.sq, .slice o.C o.cl.length o.cc] 36))
  unfold OA.cs
  cases ht : o.th with
  | true =>
    rw [ht] at HB0
    go_enter Try.func26, Try.ntmps26
    go_wp2
    go_ret
    exact ⟨rfl, HB0.out⟩
  | false =>
    rw [ht] at HB0
    generalize o.cl.length = n at *
    by_cases h0 : n = 0
    · subst h0
      go_enter Try.func26, Try.ntmps26
      go_wp2
      go_ret
      exact ⟨rfl, HB0.out⟩
    · have e1 : ((n : Int) == 0) = false := beq_eq_false_iff_ne.2 (by omega)
      have e2 : decide (n = 0) = false := decide_eq_false h0
      rw [e2]
      clear e2
      go_enter Try.func26, Try.ntmps26
      go_wp2
      go_ret
      exact ⟨rfl, HB0.out⟩
end Go.Proofs.Ytjepfeagbiceoaa
