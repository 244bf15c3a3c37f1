/-
  The document's Same on two objects that are the same. Conditions: both read as they are said to, are the same, and small.
-/
import Derived.Test.YtjepfeagbiceoaaQy
import Derived.BigQuiet
namespace Go.Proofs.Ytjepfeagbiceoaa
open Go.RowKit Go.BigFrame
set_option linter.unusedSimpArgs false
set_option linter.unusedVariables false
set_option maxRecDepth 100000
set_option maxHeartbeats 16000000 in
theorem rsame_any {w : World} (a b : OA) (ha : a.R w) (hb : b.R w) (he : a.v = b.v) (hS : a.Sm) : Calls Try.prog 17 #[.agg a.cs, .agg b.cs] w fun e w' => e = .returned (.bool true) ∧ Below w.heap.size w w' := by
  have h1 : b.th = a.th := (congrArg OV.th he).symm
  have h2 : b.dt = a.dt := (congrArg OV.dt he).symm
  have h3 : b.sq = a.sq := (congrArg OV.sq he).symm
  have h4 : b.cl.map CA.v = a.cl.map CA.v := (congrArg OV.cl he).symm
  have h5 : b.cl.length = a.cl.length := by have := congrArg List.length h4; simpa using this
  have HV : Hid (∀ (k : Nat) (x y : CA), a.cl[k]? = some x → b.cl[k]? = some y → y.sn = x.sn ∧ y.dt = x.dt) := Lib.hid fun k x y hx hy => by
    have e1 : (a.cl.map CA.v)[k]? = some x.v := by rw [List.getElem?_map, hx]; rfl
    have e2 : (b.cl.map CA.v)[k]? = some y.v := by rw [List.getElem?_map, hy]; rfl
    rw [h4, e1] at e2
    injection e2 with e2
    exact ⟨(congrArg ClV.sn e2).symm, (congrArg ClV.dt e2).symm⟩
  obtain ⟨w0, hw0⟩ : ∃ w0, w0 = (w.alloc (.cells a.cs 25)).alloc (.cells b.cs 25) := ⟨_, rfl⟩
  have hbel : Below w.heap.size w w0 := by rw [hw0]; exact ((Below.refl _ w).alloc (Nat.le_refl _) _).alloc (by simp) _
  have b0 : Blk w0 w.heap.size 25 #[.bool a.th, .slice a.D a.dt.length a.cd, .int .i64 a.sq, .slice a.C a.cl.length a.cc] := by rw [hw0]; exact (Blk.new w _ _).alloc _
  have b1 : Blk w0 (w.heap.size + 1) 25 #[.bool a.th, .slice b.D a.dt.length b.cd, .int .i64 a.sq, .slice b.C a.cl.length b.cc] := by
    have := Blk.new (w.alloc (.cells a.cs 25)) 25 b.cs
    have e : b.cs = #[.bool a.th, .slice b.D a.dt.length b.cd, .int .i64 a.sq, .slice b.C a.cl.length b.cc] := by unfold OA.cs; rw [h1, h2, h3, h5]
    rw [e] at this
    rw [hw0, e]
    simpa using this
  have HB : Hid (∀ W, Below w0.heap.size w0 W → W.cell? ⟨w.heap.size, 3, none⟩ = some (.slice a.C a.cl.length a.cc) ∧ W.cell? ⟨w.heap.size + 1, 3, none⟩ = some (.slice b.C a.cl.length b.cc) ∧ a.R W ∧ b.R W ∧ Below w.heap.size w W) := Lib.hid fun W hb' => ⟨(b0.of (hb'.block _ b0.lt)).cell 3, (b1.of (hb'.block _ b1.lt)).cell 3, (ha.since hbel).since hb', (hb.since hbel).since hb', hbel.trans (hb'.mono hbel.size)⟩
  have x0 : w0.cell? ⟨w.heap.size, 0, none⟩ = some (.bool a.th) := b0.cell 0
  have x1 : w0.cell? ⟨w.heap.size, 1, none⟩ = some (.slice a.D a.dt.length a.cd) := b0.cell 1
  have x2 : w0.cell? ⟨w.heap.size, 2, none⟩ = some (.int .i64 a.sq) := b0.cell 2
  have x3 : w0.cell? ⟨w.heap.size, 3, none⟩ = some (.slice a.C a.cl.length a.cc) := b0.cell 3
  have y0 : w0.cell? ⟨w.heap.size + 1, 0, none⟩ = some (.bool a.th) := b1.cell 0
  have y1 : w0.cell? ⟨w.heap.size + 1, 1, none⟩ = some (.slice b.D a.dt.length b.cd) := b1.cell 1
  have y2 : w0.cell? ⟨w.heap.size + 1, 2, none⟩ = some (.int .i64 a.sq) := b1.cell 2
  have y3 : w0.cell? ⟨w.heap.size + 1, 3, none⟩ = some (.slice b.C a.cl.length b.cc) := b1.cell 3
  have k1 := str_of (P := Try.prog) (ha.since hbel).dt a.cd 22 9 5 Try.underlying22 Try.underlying5 Try.underlying9
  have hbd := (hb.since hbel).dt
  rw [h2] at hbd
  have k2 := str_of (P := Try.prog) hbd b.cd 22 9 5 Try.underlying22 Try.underlying5 Try.underlying9
  generalize strOf a.dt = sd at k1 k2
  have HWE := Lib.hid hw0
  have HSM := Lib.hid hS
  have hcn := hS.cn
  have HCL := Lib.hid h5
  clear ha hb he h1 h2 h3 h4 h5 hw0 hbel b0 b1 hbd hS
  go_enter Try.func17, Try.ntmps17
  go_upto_region 1 with (fail)
  rw [← HWE.out]
  clear HWE
  go_upto_region 4 with (fail)
  clear x0 x1 x2 x3 y0 y1 y2 y3 k1 k2
  go_loopw [5] (fun i wr => ∃ k : Nat, k ≤ a.cl.length ∧ i = .int .i64 k ∧ Below w0.heap.size w0 wr) (fun i _ => a.cl.length - (intOf i).toNat)
  case atStart => exact ⟨0, by omega, rfl, Below.refl _ _⟩
  case round =>
    obtain ⟨k, hk, rfl, hbw⟩ := hrel
    obtain ⟨wo, hwo⟩ : ∃ wo, wo = wr := ⟨_, rfl⟩
    subst hwo
    have HBW := Lib.hid hbw
    have hwk : IntKind.i64.wrap ((k : Int) + 1) = (k : Int) + 1 := by rw [IntKind.wrap_i64]; omega
    obtain ⟨x3, y3, hRa, hRb, hbel⟩ := HB.out wo hbw
    have HBE := Lib.hid hbel
    by_cases hlt : k < a.cl.length
    · obtain ⟨x, hx⟩ : ∃ x, a.cl[k]? = some x := ⟨_, List.getElem?_eq_getElem hlt⟩
      obtain ⟨y, hy⟩ : ∃ y, b.cl[k]? = some y := ⟨_, List.getElem?_eq_getElem (by rw [HCL.out]; exact hlt)⟩
      obtain ⟨es, ed⟩ := HV.out k x y hx hy
      obtain ⟨ad, had, hl1, hc1⟩ := hRa.get hx
      obtain ⟨bd, hbd, hl2, hc2⟩ := hRb.get hy
      have hxR := hRa.cl x (List.mem_of_getElem? hx)
      have hyR := hRb.cl y (List.mem_of_getElem? hy)
      have hsm := HSM.out.cl x (List.mem_of_getElem? hx)
      obtain ⟨w2, hw2⟩ : ∃ w2, w2 = wo.alloc (.cells #[.slice x.S x.sn.length x.cs, .slice x.D x.dt.length x.cd] 78) := ⟨_, rfl⟩
      have hb2 : Below wo.heap.size wo w2 := by rw [hw2]; exact below_alloc wo _
      obtain ⟨g2, hg2⟩ : ∃ g2, g2 = wo.heap.size := ⟨_, rfl⟩
      have KX : Blk w2 g2 78 #[.slice x.S x.sn.length x.cs, .slice x.D x.dt.length x.cd] := by rw [hw2, hg2]; exact Blk.new wo _ _
      obtain ⟨w3, hw3⟩ : ∃ w3, w3 = w2.alloc (.cells #[.slice y.S x.sn.length y.cs, .slice y.D x.dt.length y.cd] 78) := ⟨_, rfl⟩
      have hb3 : Below w2.heap.size w2 w3 := by rw [hw3]; exact below_alloc w2 _
      obtain ⟨g3, hg3⟩ : ∃ g3, g3 = w2.heap.size := ⟨_, rfl⟩
      have KY : Blk w3 g3 78 #[.slice y.S x.sn.length y.cs, .slice y.D x.dt.length y.cd] := by rw [hw3, hg3]; exact Blk.new w2 _ _
      have KX3 := KX.of (hb3.block _ KX.lt)
      have y32 : w2.cell? ⟨w.heap.size + 1, 3, none⟩ = some (.slice b.C a.cl.length b.cc) := (HB.out w2 (hbw.trans (hb2.mono hbw.size))).2.1
      have hc2' : ∀ j v, y.cells[j]? = some v → w2.cell? ((bd.add (k * 2)).add j) = some v := fun j v hj => by
        have h := (((hRb.since hb2)).get hy)
        obtain ⟨bd', e', _, h⟩ := h
        rw [hbd] at e'
        injection e' with e'
        subst e'
        exact h j v hj
      have hb03 : Below wo.heap.size wo w3 := hb2.trans (hb3.mono hb2.size)
      have HX := Lib.hid (And.intro KX3 (And.intro KY (And.intro (hxR.since hb03) (And.intro (hyR.since hb03) hb03))))
      have HE := Lib.hid (And.intro es ed)
      have HW := Lib.hid (And.intro hw2 (And.intro hg2 (And.intro hw3 hg3)))
      have u0 : w3.cell? ⟨g2, 0, none⟩ = some (.slice x.S x.sn.length x.cs) := KX3.cell 0
      have u1 : w3.cell? ⟨g2, 1, none⟩ = some (.slice x.D x.dt.length x.cd) := KX3.cell 1
      have v0 : w3.cell? ⟨g3, 0, none⟩ = some (.slice y.S x.sn.length y.cs) := KY.cell 0
      have v1 : w3.cell? ⟨g3, 1, none⟩ = some (.slice y.D x.dt.length y.cd) := KY.cell 1
      have k1 := str_of (P := Try.prog) (hxR.since hb03).dt x.cd 22 9 5 Try.underlying22 Try.underlying5 Try.underlying9
      have hyd := (hyR.since hb03).dt
      rw [ed] at hyd
      have k2 := str_of (P := Try.prog) hyd y.cd 22 9 5 Try.underlying22 Try.underlying5 Try.underlying9
      generalize strOf x.dt = sd at k1 k2
      generalize a.C = aC at *
      generalize b.C = bC at *
      subst had hbd
      clear hRa hRb hbel hbw hx hy hxR hyR hb2 hb3 hb03 KX KY KX3 hw2 hg2 hw3 hg3 hyd hc2
      go_upto_region 7 with (have _h := hc1; refine wpList_load_rcl rfl (.tmp 49) rfl _ rfl x hc1 ?_; clear _h hc1)
      rw [← HW.out.1, ← HW.out.2.1]
      clear x3 y3
      go_upto_region 8 with (have _h := hc2'; refine wpList_load_rcl rfl (.tmp 54) rfl _ rfl y hc2' ?_; rw [HE.out.1, HE.out.2]; clear _h hc2')
      rw [← HW.out.2.2.1, ← HW.out.2.2.2]
      clear y32 HW
      go_upto_region 11 with (fail)
      clear u1 v1 k1 k2
      go_loopw [8] (fun i wr => ∃ j : Nat, j ≤ x.sn.length ∧ i = .int .i64 j ∧ wr.heap = w3.heap ∧ Below w3.heap.size w3 wr) (fun i _ => x.sn.length - (intOf i).toNat)
      case atStart => exact ⟨0, by omega, rfl, rfl, Below.refl _ _⟩
      case round =>
        obtain ⟨j, hj, rfl, hh, hbj⟩ := hrel
        obtain ⟨wv, hwv⟩ : ∃ wv, wv = wr := ⟨_, rfl⟩
        subst hwv
        have HBJ := Lib.hid (And.intro hh hbj)
        have hwj : IntKind.i64.wrap ((j : Int) + 1) = (j : Int) + 1 := by rw [IntKind.wrap_i64]; omega
        have u0 : wv.cell? ⟨g2, 0, none⟩ = some (.slice x.S x.sn.length x.cs) := (HX.out.1.of (hbj.block _ HX.out.1.lt)).cell 0
        have v0 : wv.cell? ⟨g3, 0, none⟩ = some (.slice y.S x.sn.length y.cs) := (HX.out.2.1.of (hbj.block _ HX.out.2.1.lt)).cell 0
        have hix := (HX.out.2.2.1.since hbj).sn
        have hiy := (HX.out.2.2.2.1.since hbj).sn
        rw [HE.out.1] at hiy
        clear hh hbj
        by_cases hjl : j < x.sn.length
        · obtain ⟨aS, z, haS, hz, hcz⟩ := hix.at_ hjl
          obtain ⟨bS, z', hbS, hz', hcz'⟩ := hiy.at_ hjl
          obtain rfl : z = z' := by rw [hz] at hz'; injection hz'
          clear hz hz' hix hiy
          generalize x.S = xS at *
          generalize y.S = yS at *
          subst haS hbS
          go_upto_region 13 with (fail)
          go_quiet (fail)
          go_wp2
          go_roundw
          case rel => exact ⟨j + 1, by omega, by go_num, by simpa using HBJ.out.1, by first | exact HBJ.out.2.drewN _ | exact HBJ.out.2 | exact HBJ.out.2.trans ⟨rfl, rfl, rfl, Nat.le_refl _, fun _ _ => rfl⟩ | exact ⟨HBJ.out.2.os, HBJ.out.2.tape, HBJ.out.2.output, HBJ.out.2.size, HBJ.out.2.block⟩⟩
          case measure => simp [intOf]; omega
        · clear hix hiy
          have HBV := Lib.hid ((HBW.out.trans ((HX.out.2.2.2.2.trans (HBJ.out.2.mono HX.out.2.2.2.2.size)).mono HBW.out.size)))
          go_wp2
          go_roundw
          case rel => exact ⟨k + 1, by omega, by go_num, HBV.out⟩
          case measure => simp [intOf]; omega
    · clear hRa hRb hbel hbw
      go_wp2
      go_ret
      exact ⟨rfl, HBE.out⟩
end Go.Proofs.Ytjepfeagbiceoaa
