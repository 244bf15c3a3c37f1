/-
  An act by a disk and a plain one, whichever act it is; what acts leave of a disk's numbers. Conditions: small numbers.
-/
import Derived.Test.YtgcghoalepkdfaaDo2
import Derived.Test.YtgcghoalepkdfaaDo3
import Derived.Test.YtgcghoalepkdfaaDo4
import Derived.Test.YtgcghoalepkdfaaDo5
import Derived.Test.YtgcghoalepkdfaaDo6
import Derived.Test.YtgcghoalepkdfaaBd
namespace Go.Proofs.Ytgcghoalepkdfaa
open Go.RowKit
set_option linter.unusedSimpArgs false
set_option linter.unusedVariables false
section
variable {w0 w w' : World} {g : Nat} {d r : DM} {X : List Nat} {AA AW : Option Addr} {c cw l : Nat}
theorem do_any (h : Two w0 w g d r X AA c AW cw l) (o : OpV) (hb : o.b < 256) (hd : Small d) (hr : Small r) (hmin : -9223372036854775808 ≤ o.n) (hmax : o.n ≤ 9223372036854775807) (hkp : o.keep.length ≤ 1000000) (hK : Reads w0 w0.heap.size 1 o.A o.keep.length (flags o.keep)) :
    Calls Try.prog 15 #[.pointer (some ⟨g, 0, none⟩), .agg (rv AA c AW cw l r).toArray, .agg o.cs.toArray] w (DoTo w0 w g d r X AA AW o hb) := by
  by_cases h1 : o.kind = 1
  · exact do_write h o hb hd hr h1
  by_cases h2 : o.kind = 2
  · exact do_flush h o hb hd hr h2
  by_cases h4 : o.kind = 4
  · by_cases hn : 0 ≤ o.n
    · exact do_arm h o hb hd hr h4 hmin hmax hn
    · exact do_noarm h o hb hd hr h4 hmin hmax (by omega)
  by_cases h5 : o.kind = 5
  · exact do_crash h o hb hd hr h5 hkp hK
  exact do_read h o hb hd hr h1 h2 h4 h5
/-- a plain disk is made beside a disk -/
theorem two_new (h : Holds w0 w g d X) (n : Nat) (h0 : 1 ≤ n) (h1 : n ≤ 4096) :
    Calls Try.prog 14 #[.int .i64 n] w fun e w' => ∃ AA c, e = .returned (.agg (rv AA c none 0 0 (DM.new n)).toArray) ∧ Two w0 w' g d (DM.new n) X AA c none 0 0 ∧ Below w.heap.size w w' ∧ ∀ k ∈ blkOf AA, w.heap.size ≤ k :=
  (rnew_any n w h1).mono fun e w' ⟨A, c, he, hrow, hb⟩ => by
    have hnew : ∀ k ∈ blkOf A, w.heap.size ≤ k ∧ k < w'.heap.size := fun k hk => by
      cases A with
      | none => cases hk
      | some ad =>
        simp only [blkOf, List.mem_singleton] at hk
        subst hk
        exact World.ownsRow.lt hrow ad.block rfl
    refine ⟨A, c, he, ⟨?_, ⟨?_, Reads.none_, (fun x hx => by cases hx), h1⟩, ⟨(fun hh => by cases hh), by omega⟩⟩, hb, fun k hk => (hnew k hk).1⟩
    · obtain ⟨F, e1, e2, e3⟩ := h
      refine ⟨F, e1.of (below_keeps hb e1.under), e2.trans (hb.mono e2.size), fun k hk => ?_⟩
      simp only [List.mem_append] at hk
      rcases hk with hk | hk | hk
      · exact ⟨fun hF => by have := e1.under _ hF; have := (hnew k hk).1; omega, (hnew k hk).2⟩
      · cases hk
      · exact ⟨(e3 k hk).1, Nat.lt_of_lt_of_le (e3 k hk).2 hb.size⟩
    · have := Reads.of_own hrow
      have e : (List.replicate n Sec.zero).flatMap Sec.cs = sixCells (fun i : Nat => (DM.new n).sure i) n := by
        rw [six_flat]
        congr 1
        apply List.ext_getElem?
        intro i
        simp only [List.getElem?_replicate, List.getElem?_map, List.getElem?_range, DM.new]
        by_cases hi : i < n <;> simp [hi]
      rw [e] at this
      exact this
end
theorem Bd.act {d : DM} {n k : Nat} (h : Bd d n k) (o : OpV) (hb : o.b < 256) (hmax : o.n ≤ 9223372036854775807) : Bd (act o hb d) n (k + 1) := by
  unfold Go.Proofs.Ytgcghoalepkdfaa.act
  split
  · unfold DM.write
    split
    · rename_i hh
      split
      · exact h.step
      · have e := h.step
        have h2 := h.wait
        refine ⟨e.n, e.steps, by show (d.wait ++ [(o.n, Sec.full o.b hb)]).length ≤ _; simp; omega, e.left, e.out, fun x hx => ?_⟩
        have hx' : x ∈ d.wait ++ [(o.n, Sec.full o.b hb)] := hx
        have hhas : ∀ i, DM.has { d.step with wait := d.wait ++ [(o.n, Sec.full o.b hb)] } i = d.has i := fun i => by simp only [DM.has]; rw [DM.step_n]
        rw [hhas]
        rcases List.mem_append.1 hx' with hx' | hx'
        · exact h.in_ x hx'
        · simp only [List.mem_singleton] at hx'
          subst hx'
          exact hh
    · exact h.more (Nat.le_succ _)
  · split
    · unfold DM.flush
      split
      · exact h.step
      · exact h.step.settle _
    · split
      · unfold DM.arm
        split
        · exact h.more (Nat.le_succ _)
        · exact ⟨h.n, Nat.le_succ_of_le h.steps, Nat.le_succ_of_le h.wait, by show o.n.toNat ≤ _; omega, h.out, h.in_⟩
      · split
        · have e := (h.settle (keptOf o.keep)).more (Nat.le_succ k)
          exact ⟨e.n, e.steps, e.wait, Nat.zero_le _, e.out, e.in_⟩
        · exact h.more (Nat.le_succ _)
end Go.Proofs.Ytgcghoalepkdfaa
