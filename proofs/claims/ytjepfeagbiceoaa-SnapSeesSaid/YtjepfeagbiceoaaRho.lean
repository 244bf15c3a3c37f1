/-
  The document's Holds: which clone has a snapshot. Conditions: the object reads as it is said to.
-/
import Derived.Test.YtjepfeagbiceoaaQy
namespace Go.Proofs.Ytjepfeagbiceoaa
open Go.RowKit Go.BigFrame
set_option linter.unusedSimpArgs false
set_option linter.unusedVariables false
set_option maxRecDepth 100000
def HoldsTo (w : World) (o : OA) (s : Int) (e : Ending) (w' : World) : Prop := Below w.heap.size w w' ∧ ((e = .returned (.int .i64 (-1)) ∧ ∀ c ∈ o.cl, s ∉ c.sn) ∨ ∃ (k : Nat) (c : CA), e = .returned (.int .i64 k) ∧ o.cl[k]? = some c ∧ s ∈ c.sn ∧ ∀ c' ∈ o.cl.take k, s ∉ c'.sn)
set_option maxHeartbeats 8000000 in
theorem holds_any {w : World} (o : OA) (s : Int) (h : o.R w) (hS : o.Sm) : Calls Try.prog 49 #[.agg o.cs, .int .i64 s] w (HoldsTo w o s) := by
  obtain ⟨w0, hw0⟩ : ∃ w0, w0 = w.alloc (.cells o.cs 25) := ⟨_, rfl⟩
  have hb0 : Below w.heap.size w w0 := by rw [hw0]; exact below_alloc w _
  have K0 : Blk w0 w.heap.size 25 o.cs := by rw [hw0]; exact Blk.new w _ _
  have x3 : w0.cell? ⟨w.heap.size, 3, none⟩ = some (.slice o.C o.cl.length o.cc) := K0.cell 3
  have H := Lib.hid (And.intro hb0 (h.since hb0))
  have HS := Lib.hid hS
  have hcn := hS.cn
  have HWE := Lib.hid hw0
  have hcs : o.cs = #[.bool o.th, .slice o.D o.dt.length o.cd, .int .i64 o.sq, .slice o.C o.cl.length o.cc] := rfl
  rw [hcs] at HWE ⊢
  clear h hS hw0 hb0 K0 hcs
  go_enter Try.func49, Try.ntmps49
  go_upto_region 1 with (fail)
  rw [← HWE.out]
  clear HWE
  go_upto_region 2 with (fail)
  go_loopw [5] (fun i wr => ∃ k : Nat, k ≤ o.cl.length ∧ i = .int .i64 k ∧ (∀ c ∈ o.cl.take k, s ∉ c.sn) ∧ wr = w0) (fun i _ => o.cl.length - (intOf i).toNat)
  case atStart => exact ⟨0, by omega, rfl, by simp, rfl⟩
  case round =>
    obtain ⟨k, hk, rfl, hx, rfl⟩ := hrel
    have HX := Lib.hid hx
    have hwk : IntKind.i64.wrap ((k : Int) + 1) = (k : Int) + 1 := by rw [IntKind.wrap_i64]; omega
    clear hx
    by_cases hlt : k < o.cl.length
    · obtain ⟨c, hck⟩ : ∃ c, o.cl[k]? = some c := ⟨_, List.getElem?_eq_getElem hlt⟩
      obtain ⟨ad, had, hl, hc⟩ := H.out.2.get hck
      have hcR := H.out.2.cl c (List.mem_of_getElem? hck)
      have hsm := (HS.out.cl c (List.mem_of_getElem? hck)).1
      have c0 := hc 0 _ rfl
      have c0' : wr.cell? (ad.add (k * 2)) = some (.slice c.S c.sn.length c.cs) := by simpa [Addr.add] using c0
      have HCK := Lib.hid (And.intro hck hcR.sn)
      generalize o.C = oC at *
      subst had
      clear hck hcR hc
      go_upto_region 5 with (fail)
      go_loopw [6] (fun i wr' => ∃ j : Nat, j ≤ c.sn.length ∧ i = .int .i64 j ∧ s ∉ c.sn.take j ∧ wr' = wr) (fun i _ => c.sn.length - (intOf i).toNat)
      case atStart => exact ⟨0, by omega, rfl, by simp, rfl⟩
      case round =>
        obtain ⟨j, hj, rfl, hy, rfl⟩ := hrel
        have HY := Lib.hid hy
        have hwj : IntKind.i64.wrap ((j : Int) + 1) = (j : Int) + 1 := by rw [IntKind.wrap_i64]; omega
        clear hy
        by_cases hjl : j < c.sn.length
        · obtain ⟨aS, z, haS, hz, hcz⟩ := HCK.out.2.at_ hjl
          have HZ := Lib.hid hz
          generalize c.S = cS at *
          subst haS
          clear hz
          by_cases he : z = s
          · have e1 : (z == s) = true := beq_iff_eq.2 he
            have HEQ := Lib.hid he
            clear he
            go_wp2
            go_ret
            exact ⟨H.out.1, .inr ⟨k, c, rfl, HCK.out.1, by rw [← HEQ.out]; exact List.mem_of_getElem? HZ.out, HX.out⟩⟩
          · have e1 : (z == s) = false := beq_eq_false_iff_ne.2 he
            have HNE := Lib.hid he
            clear he
            go_wp2
            go_roundw
            case rel =>
              refine ⟨j + 1, by omega, by go_num, ?_, by first | rfl | trivial⟩
              rw [take_snocI HZ.out]
              intro hm
              rcases List.mem_append.1 hm with h | h
              · exact HY.out h
              · simp at h; exact HNE.out h.symm
            case measure => simp [intOf]; omega
        · obtain rfl : j = c.sn.length := by omega
          go_wp2
          go_roundw
          case rel =>
            refine ⟨k + 1, by omega, by go_num, fun c' hc' => ?_, by first | rfl | trivial⟩
            rw [take_snocI HCK.out.1] at hc'
            rcases List.mem_append.1 hc' with h | h
            · exact HX.out c' h
            · simp at h
              subst h
              have := HY.out
              rwa [List.take_of_length_le (Nat.le_refl _)] at this
          case measure => simp [intOf]; omega
    · obtain rfl : k = o.cl.length := by omega
      go_wp2
      go_ret
      have h9 := HX.out
      rw [List.take_of_length_le (Nat.le_refl _)] at h9
      exact ⟨H.out.1, .inl ⟨rfl, h9⟩⟩
end Go.Proofs.Ytjepfeagbiceoaa
