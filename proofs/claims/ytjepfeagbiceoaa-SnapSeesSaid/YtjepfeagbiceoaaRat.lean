/-
  The document's At on a good object. Conditions: the object reads as it is said to.
-/
import Derived.Test.YtjepfeagbiceoaaRho
import Derived.Test.YtjepfeagbiceoaaRa
import Derived.BigQuiet
namespace Go.Proofs.Ytjepfeagbiceoaa
open Go.RowKit Go.BigFrame
set_option linter.unusedSimpArgs false
set_option linter.unusedVariables false
set_option maxRecDepth 100000
theorem atC_first {l : List CA} {k : Nat} {c : CA} {s : Int} (hk : l[k]? = some c) (hs : s ∈ c.sn) (hno : ∀ c' ∈ l.take k, s ∉ c'.sn) : atC (l.map CA.v) s = some c.dt := by
  have hl := (List.getElem?_eq_some_iff.1 hk).1
  have e : l = l.take k ++ c :: l.drop (k + 1) := by
    conv => lhs; rw [← List.take_append_drop k l]
    rw [List.drop_eq_getElem_cons hl, (List.getElem?_eq_some_iff.1 hk).2]
  rw [e, List.map_append, atC_app]
  have h1 : atC ((l.take k).map CA.v) s = none := atC_none.2 fun hm => by
    obtain ⟨v, hv, hsv⟩ := List.mem_flatMap.1 hm
    obtain ⟨c', hc', rfl⟩ := List.mem_map.1 hv
    exact hno c' hc' hsv
  rw [h1]
  simp only [List.map_cons, atC]
  rw [List.find?_cons_of_pos (by simpa [CA.v] using hs)]
  rfl
def RAtTo (w : World) (h : Option (List Nat)) (e : Ending) (w' : World) : Prop := Below w.heap.size w w' ∧ ∃ (A : Option Addr) (c : Nat), e = .returned (.tuple #[.slice A (h.getD []).length c, .bool h.isSome]) ∧ Bytes w' w'.heap.size A (h.getD []).length (h.getD [])
set_option maxHeartbeats 8000000 in
theorem rat_any {w : World} (o : OA) (s : Int) (h : o.R w) (hS : o.Sm) (hg : Good o.v) (hs0 : 0 ≤ s) : Calls Try.prog 28 #[.agg o.cs, .int .i64 s] w (RAtTo w (atO o.v s)) := by
  obtain ⟨w0, hw0⟩ : ∃ w0, w0 = w.alloc (.cells o.cs 25) := ⟨_, rfl⟩
  have hb0 : Below w.heap.size w w0 := by rw [hw0]; exact below_alloc w _
  have K0 : Blk w0 w.heap.size 25 #[.bool o.th, .slice o.D o.dt.length o.cd, .int .i64 o.sq, .slice o.C o.cl.length o.cc] := by rw [hw0]; exact Blk.new w _ _
  have H := Lib.hid (And.intro hb0 (And.intro (h.since hb0) K0))
  have HG := Lib.hid (And.intro hg hs0)
  have hcn := hS.cn
  have HHO := Lib.hid (holds_any o s (h.since hb0) hS)
  have HWE := Lib.hid hw0
  have hcs : o.cs = #[.bool o.th, .slice o.D o.dt.length o.cd, .int .i64 o.sq, .slice o.C o.cl.length o.cc] := rfl
  rw [hcs] at HWE HHO ⊢
  have d0 : decide (s < 0) = false := decide_eq_false (by omega)
  clear h hS hw0 hb0 hcs hg hs0
  go_enter Try.func28, Try.ntmps28
  go_upto_region 1 with (fail)
  rw [← HWE.out]
  clear HWE
  go_wp2_with (have _h := K0; refine wpList_loadq rfl 25 (.tmp 2) rfl w.heap.size [.bool o.th, .slice o.D o.dt.length o.cd, .int .i64 o.sq, .slice o.C o.cl.length o.cc] _ rfl K0 Try.underlying25 rfl (by kernel_rfl) ?_; clear _h K0)
  refine HHO.out.mono ?_
  rintro e w2 ⟨hb2, ⟨rfl, hno⟩ | ⟨k, c, rfl, hck, hsc, hfi⟩⟩
  rotate_left
  · have hR2 := H.out.2.1.since hb2
    have K2 := H.out.2.2.of (hb2.block _ H.out.2.2.lt)
    have x3 : w2.cell? ⟨w.heap.size, 3, none⟩ = some (.slice o.C o.cl.length o.cc) := K2.cell 3
    obtain ⟨ad, had, hl, hc⟩ := hR2.get hck
    have hcR := hR2.cl c (List.mem_of_getElem? hck)
    have c1 := hc 1 _ rfl
    have c1' : w2.cell? ⟨(ad.add (k * 2)).block, (ad.add (k * 2)).off + 1, none⟩ = some (.slice c.D c.dt.length c.cd) := by first | exact c1 | simpa [Addr.add] using c1
    have hlt := (List.getElem?_eq_some_iff.1 hck).1
    have hat : atO o.v s = some c.dt := by
      unfold atO
      have h1 : atC o.v.cl s = some c.dt := atC_first hck hsc hfi
      rw [h1]
    have HAT := Lib.hid hat
    have HF : Hid (Below w.heap.size w w2 ∧ Bytes w2 w2.heap.size c.D c.dt.length c.dt) := Lib.hid ⟨H.out.1.trans (hb2.mono H.out.1.size), hcR.dt⟩
    have hk0 : decide ((0 : Int) ≤ (k : Int)) = true := decide_eq_true (by omega)
    generalize o.C = oC at *
    subst had
    clear hR2 K2 hc hcR hck hsc hfi hb2 HHO hat
    go_wp2
    go_ret2
    rw [HAT.out]
    exact ⟨HF.out.1, c.D, c.cd, rfl, HF.out.2⟩
  · have hR2 := H.out.2.1.since hb2
    have K2 := H.out.2.2.of (hb2.block _ H.out.2.2.lt)
    have x0 : w2.cell? ⟨w.heap.size, 0, none⟩ = some (.bool o.th) := K2.cell 0
    have x1 : w2.cell? ⟨w.heap.size, 1, none⟩ = some (.slice o.D o.dt.length o.cd) := K2.cell 1
    have x2 : w2.cell? ⟨w.heap.size, 2, none⟩ = some (.int .i64 o.sq) := K2.cell 2
    have hat : atO o.v s = headAt o.v s := by
      unfold atO
      have h1 : atC o.v.cl s = none := atC_none.2 fun hm => by
        obtain ⟨v, hv, hsv⟩ := List.mem_flatMap.1 hm
        obtain ⟨c', hc', rfl⟩ := List.mem_map.1 hv
        exact hno c' hc' hsv
      rw [h1]
    have HAT := Lib.hid hat
    have HF : Hid (Below w.heap.size w w2 ∧ Bytes w2 w2.heap.size o.D o.dt.length o.dt) := Lib.hid ⟨H.out.1.trans (hb2.mono H.out.1.size), hR2.dt⟩
    have HTH : Hid (o.th = false → o.dt = []) := Lib.hid HG.out.1.th
    have hs0 := HG.out.2
    clear hR2 K2 hno hb2 HHO hat
    by_cases hin : 0 < s ∧ s ≤ o.sq
    · have hne : (s == 0) = false := beq_eq_false_iff_ne.2 (by omega)
      have hgt : decide (o.sq < s) = false := decide_eq_false (by omega)
      have hh : headAt o.v s = none := by unfold headAt; rw [if_neg]; intro h; exact h.2 hin
      have HHH := Lib.hid hh
      clear hin hh
      go_wp2
      go_ret2
      rw [HAT.out, HHH.out]
      exact ⟨HF.out.1, none, 0, rfl, ⟨Reads.none_, fun b hb => (by cases hb)⟩⟩
    · have hh : headAt o.v s = if o.th = true then some o.dt else none := by
        unfold headAt
        by_cases ht : o.th = true
        · rw [if_pos ht, if_pos ⟨ht, hin⟩]; rfl
        · rw [if_neg ht, if_neg (fun h => ht h.1)]
      have HHH := Lib.hid hh
      have HEND : Hid (RAtTo w (if o.th = true then some o.dt else none) (.returned (.tuple #[.slice o.D o.dt.length o.cd, .bool o.th])) w2) := Lib.hid (by
        cases ht : o.th with
        | true => exact ⟨HF.out.1, o.D, o.cd, rfl, HF.out.2⟩
        | false =>
          have h9 := HTH.out ht
          have h8 := HF.out.2
          rw [h9] at h8 ⊢
          exact ⟨HF.out.1, o.D, o.cd, rfl, h8⟩)
      clear hh
      by_cases hz : s = 0
      · have hne : (s == 0) = true := beq_iff_eq.2 hz
        clear hz hin
        go_upto_region 7 with (fail)
        go_quiet (fail)
        go_wp2
        go_ret2
        rw [HAT.out, HHH.out]
        have := HEND.out
        exact ⟨⟨this.1.os, this.1.tape, this.1.output, this.1.size, this.1.block⟩, this.2⟩
      · have hne : (s == 0) = false := beq_eq_false_iff_ne.2 hz
        have hgt : decide (o.sq < s) = true := decide_eq_true (by omega)
        clear hz hin
        go_upto_region 7 with (fail)
        go_quiet (fail)
        go_wp2
        go_ret2
        rw [HAT.out, HHH.out]
        have := HEND.out
        exact ⟨⟨this.1.os, this.1.tape, this.1.output, this.1.size, this.1.block⟩, this.2⟩
end Go.Proofs.Ytjepfeagbiceoaa
