/-
  More than is looked at? Conditions: the head reads as it is said to.
-/
import Derived.Test.YtldnghmgdmjljaaHo
import Derived.Test.YtldnghmgdmjljaaHp
namespace Go.Proofs.Ytldnghmgdmjljaa
open Go.RowKit Go.BigFrame
set_option linter.unusedSimpArgs false
set_option linter.unusedVariables false
set_option maxRecDepth 100000
structure SA.Lm (s : SA) : Prop where
  ch : s.ch.length ≤ 50
  row : s.vw.row.length ≤ 500
  name : s.name.length ≤ 100
  par : s.vw.par.length ≤ 100
  cl : ∀ c ∈ s.ch, c.length ≤ 100
structure HA.Lm (a : HA) : Prop where
  cn : a.sn.length ≤ 20
  row : a.vw.row.length ≤ 500
  par : a.vw.par.length ≤ 100
  sn : ∀ s ∈ a.sn, s.Lm
def LargeTo (w : World) (a : HA) (e : Ending) (w' : World) : Prop := ∃ b, e = .returned (.bool b) ∧ Below w.heap.size w w' ∧ (b = false → a.Lm)
set_option maxHeartbeats 8000000 in
theorem hlarge_any (a : HA) (w : World) (hR : a.R SA.dcells w) : Calls Try.prog 8 #[.agg a.cs] w (LargeTo w a) := by
  have B0 := Lib.hid (below_alloc w (.cells a.cs 29))
  have HR := Lib.hid hR
  have hps := strOf_size a.vw.par
  have hl1 := hR.l1
  have hl2 := hR.vw.l1
  have hl3 := hR.vw.l2
  clear hR
  unfold HA.cs at *
  by_cases c1 : a.sn.length ≤ 20
  · have d1 : decide (20 < (a.sn.length : Int)) = false := decide_eq_false (by omega)
    by_cases c2 : a.vw.row.length ≤ 500
    · have d2 : decide (500 < (a.vw.row.length : Int)) = false := decide_eq_false (by omega)
      by_cases c3 : a.vw.par.length ≤ 100
      · have d3 : decide (100 < (a.vw.par.length : Int)) = false := decide_eq_false (by omega)
        go_enter Try.func8, Try.ntmps8
        go_wp2
        generalize hw0 : w.alloc _ = w0 at *
        go_loopw [28] (fun i wr => ∃ k : Nat, k ≤ a.sn.length ∧ i = .int .i64 k ∧ Below w0.heap.size w0 wr ∧ ∀ j s, j < k → a.sn[j]? = some s → s.Lm) (fun i _ => a.sn.length - (intOf i).toNat)
        case atStart => exact ⟨0, by omega, rfl, Below.refl _ _, fun j s h => by omega⟩
        case round =>
          obtain ⟨k, hk, rfl, hb, hall⟩ := hrel
          have HALL := Lib.hid hall
          have HB := Lib.hid (B0.out.trans (hb.mono B0.out.size))
          have hb0 := Lib.hid hb
          have hwk : IntKind.i64.wrap ((k : Int) + 1) = (k : Int) + 1 := by rw [IntKind.wrap_i64]; omega
          clear hall hb
          by_cases hlt : k < a.sn.length
          · obtain ⟨s, hs⟩ : ∃ s, a.sn[k]? = some s := ⟨_, List.getElem?_eq_getElem hlt⟩
            have hR1 := HR.out.since HB.out
            obtain ⟨ad, had, -, hc⟩ := snap_at SA.dcells_len hR1.row hs
            have hsR := hR1.sn s (List.mem_of_getElem? hs)
            have HS := Lib.hid hs
            have HSR := Lib.hid hsR
            have hsn := strOf_size s.name
            have hsp := strOf_size s.vw.par
            have m1 := hsR.l1
            have m2 := hsR.l2
            have m3 := hsR.vw.l1
            have m4 := hsR.vw.l2
            obtain ⟨wB, hwB⟩ : ∃ wB, wB = wr.alloc (.cells #[.int .i64 s.num, .int .i64 s.vw.size, .string (strOf s.name), .bool s.prot, .bool s.vw.on, .bool s.vw.good, .slice s.vw.M s.vw.row.length s.vw.cm, .string (strOf s.vw.par), .int .i64 s.vw.ps, .int .i64 s.vw.ov, .slice s.C s.ch.length s.cc] 67) := ⟨_, rfl⟩
            have hbB : Below wr.heap.size wr wB := by rw [hwB]; exact below_alloc wr _
            have HBB := Lib.hid (And.intro (HB.out.trans (hbB.mono HB.out.size)) (hb0.out.trans (hbB.mono hb0.out.size)))
            have KB : Blk wB wr.heap.size 67 #[.int .i64 s.num, .int .i64 s.vw.size, .string (strOf s.name), .bool s.prot, .bool s.vw.on, .bool s.vw.good, .slice s.vw.M s.vw.row.length s.vw.cm, .string (strOf s.vw.par), .int .i64 s.vw.ps, .int .i64 s.vw.ov, .slice s.C s.ch.length s.cc] := by rw [hwB]; exact Blk.new wr _ _
            have q2 : wB.cell? ⟨wr.heap.size, 2, none⟩ = some (.string (strOf s.name)) := KB.cell 2
            have q6 : wB.cell? ⟨wr.heap.size, 6, none⟩ = some (.slice s.vw.M s.vw.row.length s.vw.cm) := KB.cell 6
            have q7 : wB.cell? ⟨wr.heap.size, 7, none⟩ = some (.string (strOf s.vw.par)) := KB.cell 7
            have q10 : wB.cell? ⟨wr.heap.size, 10, none⟩ = some (.slice s.C s.ch.length s.cc) := KB.cell 10
            have HWB := Lib.hid hwB
            have HCH : Hid (Strs wB wB.heap.size s.C s.ch.length s.ch) := Lib.hid ((hsR.ch.since hbB).more hbB.size)
            have HADS : Hid (a.sn[k]? = some s) := HS
            generalize a.S = sS at *
            subst had
            clear hs hsR hR1 hwB hbB KB
            go_upto_region 6 with (have _h := hc; refine wpList_loadp rfl 67 (.tmp 30) rfl _ [.int .i64 s.num, .int .i64 s.vw.size, .string (strOf s.name), .bool s.prot, .bool s.vw.on, .bool s.vw.good, .slice s.vw.M s.vw.row.length s.vw.cm, .string (strOf s.vw.par), .int .i64 s.vw.ps, .int .i64 s.vw.ov, .slice s.C s.ch.length s.cc] _ rfl hc Try.underlying67 rfl (by kernel_rfl) ?_; clear _h hc)
            rw [← HWB.out]
            clear HWB
            by_cases e1 : s.ch.length ≤ 50
            · have f1 : decide (50 < (s.ch.length : Int)) = false := decide_eq_false (by omega)
              by_cases e2 : s.vw.row.length ≤ 500
              · have f2 : decide (500 < (s.vw.row.length : Int)) = false := decide_eq_false (by omega)
                by_cases e3 : s.name.length ≤ 100
                · have f3 : decide (100 < (s.name.length : Int)) = false := decide_eq_false (by omega)
                  by_cases e4 : s.vw.par.length ≤ 100
                  · have f4 : decide (100 < (s.vw.par.length : Int)) = false := decide_eq_false (by omega)
                    go_wp2
                    go_loopw [59] (fun i wr => ∃ q : Nat, q ≤ s.ch.length ∧ i = .int .i64 q ∧ wr = wB ∧ ∀ j c, j < q → s.ch[j]? = some c → c.length ≤ 100) (fun i _ => s.ch.length - (intOf i).toNat)
                    case atStart => exact ⟨0, by omega, rfl, by trivial, fun j c h => by omega⟩
                    case round =>
                      obtain ⟨q, hq, rfl, rfl, hql⟩ := hrel
                      have HQL := Lib.hid hql
                      have hwq : IntKind.i64.wrap ((q : Int) + 1) = (q : Int) + 1 := by rw [IntKind.wrap_i64]; omega
                      clear hql
                      by_cases hlq : q < s.ch.length
                      · obtain ⟨adc, c, hadc, hck, hc2, hcell⟩ := HCH.out.at_ hlq
                        have HCK := Lib.hid hck
                        have hcs := strOf_size c
                        generalize s.C = sC at *
                        subst hadc
                        clear hck
                        by_cases g1 : c.length ≤ 100
                        · have x1 : decide (100 < (c.length : Int)) = false := decide_eq_false (by omega)
                          go_wp2
                          go_roundw
                          case rel => exact ⟨q + 1, by omega, by go_num, by trivial, fun j c' hj hc' => by
                            rcases Nat.lt_succ_iff_lt_or_eq.1 hj with h | rfl
                            · exact HQL.out j c' h hc'
                            · rw [HCK.out] at hc'; injection hc' with hc'; subst hc'; exact g1⟩
                          case measure => simp [intOf]; omega
                        · have x1 : decide (100 < (c.length : Int)) = true := decide_eq_true (by omega)
                          go_wp2
                          go_ret
                          exact ⟨true, rfl, HBB.out.1, fun h => by cases h⟩
                      · obtain rfl : q = s.ch.length := by omega
                        go_wp2
                        go_roundw
                        case rel => exact ⟨k + 1, by omega, by go_num, HBB.out.2, fun j s' hj hs' => by
                          rcases Nat.lt_succ_iff_lt_or_eq.1 hj with h | rfl
                          · exact HALL.out j s' h hs'
                          · rw [HS.out] at hs'; injection hs' with hs'; subst hs'
                            exact ⟨e1, e2, e3, e4, fun c hc => by obtain ⟨j, hj, rfl⟩ := List.mem_iff_getElem.1 hc; exact HQL.out j _ hj (List.getElem?_eq_getElem hj)⟩⟩
                        case measure => simp [intOf]; omega
                  · have f4 : decide (100 < (s.vw.par.length : Int)) = true := decide_eq_true (by omega)
                    go_wp2
                    go_ret
                    exact ⟨true, rfl, HBB.out.1, fun h => by cases h⟩
                · have f3 : decide (100 < (s.name.length : Int)) = true := decide_eq_true (by omega)
                  go_wp2
                  go_ret
                  exact ⟨true, rfl, HBB.out.1, fun h => by cases h⟩
              · have f2 : decide (500 < (s.vw.row.length : Int)) = true := decide_eq_true (by omega)
                go_wp2
                go_ret
                exact ⟨true, rfl, HBB.out.1, fun h => by cases h⟩
            · have f1 : decide (50 < (s.ch.length : Int)) = true := decide_eq_true (by omega)
              go_wp2
              go_ret
              exact ⟨true, rfl, HBB.out.1, fun h => by cases h⟩
          · obtain rfl : k = a.sn.length := by omega
            go_wp2
            go_ret
            exact ⟨false, rfl, HB.out, fun _ => ⟨c1, c2, c3, fun s hs => by obtain ⟨j, hj, rfl⟩ := List.mem_iff_getElem.1 hs; exact HALL.out j _ hj (List.getElem?_eq_getElem hj)⟩⟩
      · have d3 : decide (100 < (a.vw.par.length : Int)) = true := decide_eq_true (by omega)
        go_enter Try.func8, Try.ntmps8
        go_wp2
        go_ret
        exact ⟨true, rfl, B0.out, fun h => by cases h⟩
    · have d2 : decide (500 < (a.vw.row.length : Int)) = true := decide_eq_true (by omega)
      go_enter Try.func8, Try.ntmps8
      go_wp2
      go_ret
      exact ⟨true, rfl, B0.out, fun h => by cases h⟩
  · have d1 : decide (20 < (a.sn.length : Int)) = true := decide_eq_true (by omega)
    go_enter Try.func8, Try.ntmps8
    go_wp2
    go_ret
    exact ⟨true, rfl, B0.out, fun h => by cases h⟩
end Go.Proofs.Ytldnghmgdmjljaa
