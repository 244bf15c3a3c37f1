/-
  A change of an object in a context, whatever is done. Conditions: the object and the context read as they are said to; what may be done, and what is done, keep their contracts.
-/
import Derived.Test.YtjepfeagbiceoaaQh
import Derived.Test.YtjepfeagbiceoaaQi
import Derived.Laws.ResultCell
namespace Go.Proofs.Ytjepfeagbiceoaa
open Go.RowKit
set_option linter.unusedSimpArgs false
set_option linter.unusedVariables false
set_option maxRecDepth 100000
/-- what a change comes to: an error's number, or the head that it gives -/
inductive ChR (o : OV) (c : CxV) (km : Nat) (hd : Option (List Nat)) : OV → Nat → Prop
  | bad : ¬ Good o → ChR o c km hd OV.zero 2
  | ctx : Good o → ¬ (CxG c ∧ o.sq ≤ c.sq) → ChR o c km hd OV.zero 1
  | may : Good o → CxG c → o.sq ≤ c.sq → km ≠ 0 → ChR o c km hd OV.zero km
  | many : Good o → CxG c → o.sq ≤ c.sq → km = 0 → 16 < (seeO o c).cl.length → ChR o c km hd OV.zero 1
  | ok : Good o → CxG c → o.sq ≤ c.sq → km = 0 → (seeO o c).cl.length ≤ 16 → ChR o c km hd (withHead (seeO o c) hd) 0
theorem ChR.one {o : OV} {c : CxV} {km : Nat} {hd : Option (List Nat)} {x y : OV} {k j : Nat} (h : ChR o c km hd x k) (h' : ChR o c km hd y j) : x = y ∧ k = j := by
  cases h <;> cases h' <;> first
    | exact ⟨rfl, rfl⟩
    | (exfalso; simp_all; done)
    | (exfalso; rename_i a1 a2 _ _ a3 b1 b2 b3 _ b4; omega)
    | (exfalso; first | contradiction | omega)
theorem OA.zero_N (w : World) (base : Nat) : OA.zero.N w base := ⟨Own.nil _ _, fun b hb => (by cases hb), OwnC.nil _ _ _, fun c hc => (by cases hc), by decide, by decide, List.pairwise_singleton _ _, List.Pairwise.nil⟩
/-- what a changing function hands back -/
def ChTo (w : World) (R : OV → Nat → Prop) (e : Ending) (w' : World) : Prop := ∃ (q : OA) (k : Nat), e = .returned (.tuple #[.agg q.cs, errV k]) ∧ R q.v k ∧ q.N w' w.heap.size ∧ q.Sm ∧ Below w.heap.size w w'
/-- what may be done tells -/
def MayC (w : World) (fm : FuncId) (capm : Array Value) (km : Nat) : Prop := ∀ w1, Below w.heap.size w w1 → Calls Try.prog fm capm w1 fun e w' => e = .returned (errV km) ∧ Below w1.heap.size w1 w'
/-- what is done gives the head -/
def DoesTo (w1 : World) (g base : Nat) (q : OA) (hd : Option (List Nat)) (e : Ending) (w' : World) : Prop := e = .returned (.tuple #[]) ∧ ∃ q' : OA, q'.v = withHead q.v hd ∧ Blk w' g 36 q'.cs ∧ q'.N w' base ∧ q'.Sm ∧ Only (g :: rowOf (.slice q.D 0 0)) w1 w'
def DoesC (w : World) (fd : FuncId) (capd : Array Value) (q0 : OV) (hd : Option (List Nat)) : Prop := ∀ (w1 : World) (g : Nat) (q : OA), Below w.heap.size w w1 → w.heap.size ≤ g → Blk w1 g 36 q.cs → q.N w1 w.heap.size → q.Sm → q.v = q0 → Calls Try.prog fd (#[.pointer (some ⟨g, 0, none⟩)] ++ capd) w1 (DoesTo w1 g w.heap.size q hd)
theorem Only.belowB {F : List Nat} {B : Nat} {w w' : World} (h : Only F w w') (hF : ∀ k ∈ F, B ≤ k) (hB : B ≤ w.heap.size) : Below B w w' := h.below hF hB
theorem res_cell_tmp {fn : Func} {p u : Tmp} {ty : TypeId} (h : fn.results = #[.cell p ty, .tmp u]) (tmps : Array Value) (w : World) (g : Nat) (cs : List Value) (v : Value) (d : TypeDesc)
    (hp : tmps.getD p undef = .pointer (some ⟨g, 0, none⟩)) (hv : tmps.getD u undef = v) (hB : Blk w g ty cs.toArray)
    (hu : Try.prog.underlying ty = some d) (hd : d.isRow = true) (hi : (Try.prog.info? ty).map (·.size) = some cs.length) :
    (results fn tmps).run Try.prog w = .ok (.tuple #[.agg cs.toArray, v]) w := by
  have hp' : tmps[p]?.getD undef = .pointer (some ⟨g, 0, none⟩) := by simpa using hp
  have hv' : tmps[u]?.getD undef = v := by simpa using hv
  simp [results, h, hp', hv', asAddr, run_loadVar_mid w g 0 ty cs d hB.range hu hd hi]
theorem see_Sm {o q : OA} {c : XA} (hS : o.Sm) (hc : c.sn.length ≤ 16) (ho : o.cl.length ≤ 16) (hv : q.v = seeO o.v c.v) : q.Sm := by
  have e1 : q.dt = o.dt := congrArg OV.dt hv
  have e2 : q.vs = o.vs ++ newCl o.v c.v := congrArg OV.cl hv
  have hl : (newCl o.v c.v).length ≤ 1 := by unfold newCl; split <;> simp
  refine ⟨by rw [e1]; exact hS.dt, ?_, fun x hx => ?_⟩
  · rw [← OA.vs_len, e2, List.length_append, OA.vs_len]
    omega
  · have hm : x.v ∈ q.vs := List.mem_map.2 ⟨x, hx, rfl⟩
    rw [e2] at hm
    rcases List.mem_append.1 hm with h | h
    · obtain ⟨x', hx', e3⟩ := List.mem_map.1 h
      have h1 := hS.cl x' hx'
      have e4 : x'.sn = x.sn := congrArg ClV.sn e3
      have e5 : x'.dt = x.dt := congrArg ClV.dt e3
      rw [← e4, ← e5]
      exact h1
    · unfold newCl at h
      split at h
      · simp at h
        have e4 : x.sn = freshI o.v.sq c.v := congrArg ClV.sn h
        have e5 : x.dt = o.v.dt := congrArg ClV.dt h
        rw [e4, e5]
        refine ⟨?_, hS.dt⟩
        unfold freshI
        refine Nat.le_trans (List.length_filter_le _ _) ?_
        simp only [XA.v, List.length_reverse]
        omega
      · cases h
theorem zero4_one : ∀ v ∈ [Value.bool false, .slice none 0 0, .int .i64 0, .slice none 0 0], v.oneCell' = true := by
  intro v hv
  simp at hv
  rcases hv with rfl | rfl | rfl | rfl <;> rfl
/-- memory while a change is made: the object, the context, the result's variable -/
structure ChAt (w : World) (o : OA) (c : XA) (W : World) : Prop where
  bel : Below w.heap.size w W
  b0 : Blk W w.heap.size 36 #[.bool o.th, .slice o.D o.dt.length o.cd, .int .i64 o.sq, .slice o.C o.cl.length o.cc]
  b1 : Blk W (w.heap.size + 1) 28 #[.int .i64 c.sq, .slice c.S c.sn.length c.cs]
  b2 : Blk W (w.heap.size + 1 + 1) 36 #[.bool false, .slice none 0 0, .int .i64 0, .slice none 0 0]
theorem ChAt.next {w W W' : World} {o : OA} {c : XA} (h : ChAt w o c W) (hb : Below W.heap.size W W') : ChAt w o c W' :=
  ⟨h.bel.trans (hb.mono h.bel.size), h.b0.of (hb.block _ h.b0.lt), h.b1.of (hb.block _ h.b1.lt), h.b2.of (hb.block _ h.b2.lt)⟩
theorem ChAt.only {w W W' : World} {o : OA} {c : XA} {F : List Nat} (h : ChAt w o c W) (ho : Only F W W') (hF : ∀ k ∈ F, w.heap.size + 3 ≤ k) : ChAt w o c W' :=
  ⟨h.bel.trans (ho.below (B := w.heap.size) (fun k hk => by have := hF k hk; omega) h.bel.size), h.b0.only ho (fun hm => by have := hF _ hm; omega), h.b1.only ho (fun hm => by have := hF _ hm; omega), h.b2.only ho (fun hm => by have := hF _ hm; omega)⟩
theorem errV_some {k : Nat} (h : k ≠ 0) : errV k = .iface 58 (.int .i64 k) := by
  cases k with
  | zero => exact absurd rfl h
  | succ k => rfl
set_option maxHeartbeats 8000000 in
theorem change_any {w : World} (o : OA) (c : XA) (fm fd : FuncId) (capm capd : Array Value) (em : ∀ args w, (callFunc fm args).run Try.prog w = .ok (.enter fm args) w) (ed : ∀ args w, (callFunc fd args).run Try.prog w = .ok (.enter fd args) w) (km : Nat) (hd : Option (List Nat)) (ho : o.R w) (hoS : o.Sm) (hc : c.R w) (hM : Good o.v → MayC w fm capm km) (hD : Good o.v → CxG c.v → o.v.sq ≤ c.v.sq → km = 0 → (seeO o.v c.v).cl.length ≤ 16 → DoesC w fd capd (seeO o.v c.v) hd) :
    Calls Try.prog 64 #[.agg o.cs, .agg c.cells, .func (.func fm) #[] capm, .func (.func fd) #[] capd] w (ChTo w (ChR o.v c.v km hd)) := by
  have HO := Lib.hid (And.intro ho (And.intro hoS hc))
  have HM := Lib.hid hM
  have HD := Lib.hid hD
  obtain ⟨w0, hw0⟩ : ∃ w0, w0 = ((w.alloc (.cells o.cs 36)).alloc (.cells c.cells 28)).alloc (.cells #[.bool false, .slice none 0 0, .int .i64 0, .slice none 0 0] 36) := ⟨_, rfl⟩
  have hbel : Below w.heap.size w w0 := by rw [hw0]; exact (((Below.refl _ w).alloc (Nat.le_refl _) _).alloc (by simp) _).alloc (by simp; omega) _
  have b0 : Blk w0 w.heap.size 36 o.cs := by rw [hw0]; exact ((Blk.new w _ _).alloc _).alloc _
  have b1 : Blk w0 (w.heap.size + 1) 28 c.cells := by
    have := (Blk.new (w.alloc (.cells o.cs 36)) 28 c.cells).alloc (.cells #[.bool false, .slice none 0 0, .int .i64 0, .slice none 0 0] 36)
    rw [hw0]
    simpa using this
  have b2 : Blk w0 (w.heap.size + 1 + 1) 36 #[.bool false, .slice none 0 0, .int .i64 0, .slice none 0 0] := by
    have := Blk.new ((w.alloc (.cells o.cs 36)).alloc (.cells c.cells 28)) 36 #[.bool false, .slice none 0 0, .int .i64 0, .slice none 0 0]
    rw [hw0]
    simpa using this
  have HW := Lib.hid (And.intro hbel (And.intro b0 (And.intro b1 b2)))
  have HWE := Lib.hid hw0
  clear ho hoS hc hM hD hbel b0 b1 b2 hw0
  have HGD := Lib.hid (sgood_any o (HO.out.1.since HW.out.1))
  have HZERO : Hid (∀ (k : Nat) (w5 w6 : World), ChR o.v c.v km hd OV.zero k → Below w.heap.size w w5 → Blk w5 (w.heap.size + 1 + 1) 36 #[.bool false, .slice none 0 0, .int .i64 0, .slice none 0 0] → Only [w.heap.size + 1 + 1] w5 w6 → ChTo w (ChR o.v c.v km hd) (.returned (.tuple #[.agg #[.bool false, .slice none 0 0, .int .i64 0, .slice none 0 0], errV k])) w6) := Lib.hid fun k w5 w6 hr hb5 hb2 ho6 =>
    ⟨OA.zero, k, rfl, hr, OA.zero_N _ _, OA.zero_Sm, hb5.trans (ho6.below (B := w.heap.size) (fun k hk => by simp at hk; omega) hb5.size)⟩
  unfold OA.cs XA.cells at HWE
  have hcs : o.cs = #[.bool o.th, .slice o.D o.dt.length o.cd, .int .i64 o.sq, .slice o.C o.cl.length o.cc] := rfl
  have hxs : c.cells = #[.int .i64 c.sq, .slice c.S c.sn.length c.cs] := rfl
  rw [hcs] at HW HGD ⊢
  rw [hxs] at HW ⊢
  clear hcs hxs
  have hz : ∀ (w5 : World), Blk w5 (w.heap.size + 1 + 1) 36 #[.bool false, .slice none 0 0, .int .i64 0, .slice none 0 0] → Blk w5 (w.heap.size + 1 + 1) 36 #[.bool false, .slice none 0 0, .int .i64 0, .slice none 0 0] := fun _ h => h
  go_enter Try.func64, Try.ntmps64
  go_upto_region 1 with (fail)
  rw [← HWE.out]
  clear hz
  have K0 := HW.out.2.1
  go_wp2_with (have _h := K0; refine wpList_loadq rfl 36 (.tmp 4) rfl w.heap.size [.bool o.th, .slice o.D o.dt.length o.cd, .int .i64 o.sq, .slice o.C o.cl.length o.cc] _ rfl K0 Try.underlying36 rfl (by kernel_rfl) ?_; clear _h K0)
  refine HGD.out.mono ?_
  rintro e w1 ⟨bg, rfl, hg, hb1⟩
  have HA1 := Lib.hid (ChAt.next ⟨HW.out.1, HW.out.2.1, HW.out.2.2.1, HW.out.2.2.2⟩ hb1)
  have HG := Lib.hid hg
  clear hb1 hg HGD HWE HW
  cases bg with
  | false =>
    have K2 := HA1.out.b2
    go_wp2_with (have _h := K2; refine wpList_storeq rfl 36 (.tmp 8) (.tmp 15) rfl (w.heap.size + 1 + 1) #[.bool false, .slice none 0 0, .int .i64 0, .slice none 0 0] [.bool false, .slice none 0 0, .int .i64 0, .slice none 0 0] rfl rfl K2 rfl (by kernel_rfl) zero4_one ?_; clear _h K2; intro w9 K9 ho9 hs9)
    refine bodyPost_ret (res_cell_tmp rfl _ _ (w.heap.size + 1 + 1) [.bool false, .slice none 0 0, .int .i64 0, .slice none 0 0] _ _ rfl rfl K9 Try.underlying36 rfl (by kernel_rfl)) rfl ?_
    exact HZERO.out 2 w1 w9 (.bad (fun g => by have := HG.out.2 g; cases this)) HA1.out.bel HA1.out.b2 ho9
  | true =>
  have HGO := Lib.hid (HG.out.1 rfl)
  clear HG
  have K1 := HA1.out.b1
  have HCX := Lib.hid (isctx_any c (HO.out.2.2.since HA1.out.bel))
  unfold XA.cells at HCX
  go_wp2_with (have _h := K1; refine wpList_loadq rfl 28 (.tmp 5) rfl (w.heap.size + 1) [.int .i64 c.sq, .slice c.S c.sn.length c.cs] _ rfl K1 Try.underlying28 rfl (by kernel_rfl) ?_; clear _h K1)
  refine HCX.out.mono ?_
  rintro e w2 ⟨bc, rfl, hc, hb2⟩
  have HA2 := Lib.hid (HA1.out.next hb2)
  have HC := Lib.hid hc
  clear hb2 hc HCX HA1
  cases bc with
  | false =>
    have K2 := HA2.out.b2
    go_wp2_with (have _h := K2; refine wpList_storeq rfl 36 (.tmp 8) (.tmp 27) rfl (w.heap.size + 1 + 1) #[.bool false, .slice none 0 0, .int .i64 0, .slice none 0 0] [.bool false, .slice none 0 0, .int .i64 0, .slice none 0 0] rfl rfl K2 rfl (by kernel_rfl) zero4_one ?_; clear _h K2; intro w9 K9 ho9 hs9)
    refine bodyPost_ret (res_cell_tmp rfl _ _ (w.heap.size + 1 + 1) [.bool false, .slice none 0 0, .int .i64 0, .slice none 0 0] _ _ rfl rfl K9 Try.underlying36 rfl (by kernel_rfl)) rfl ?_
    exact HZERO.out 1 w2 w9 (.ctx HGO.out (fun g => by have := HC.out.2 g.1; cases this)) HA2.out.bel HA2.out.b2 ho9
  | true =>
  have HCG := Lib.hid (HC.out.1 rfl)
  clear HC
  have q1 : w2.cell? ⟨w.heap.size + 1, 0, none⟩ = some (.int .i64 c.sq) := HA2.out.b1.cell 0
  have q2 : w2.cell? ⟨w.heap.size, 2, none⟩ = some (.int .i64 o.sq) := HA2.out.b0.cell 2
  by_cases hlt : c.sq < o.sq
  · have d1 : decide (c.sq < o.sq) = true := decide_eq_true hlt
    have K2 := HA2.out.b2
    go_wp2_with (have _h := K2; refine wpList_storeq rfl 36 (.tmp 8) (.tmp 27) rfl (w.heap.size + 1 + 1) #[.bool false, .slice none 0 0, .int .i64 0, .slice none 0 0] [.bool false, .slice none 0 0, .int .i64 0, .slice none 0 0] rfl rfl K2 rfl (by kernel_rfl) zero4_one ?_; clear _h K2; intro w9 K9 ho9 hs9)
    refine bodyPost_ret (res_cell_tmp rfl _ _ (w.heap.size + 1 + 1) [.bool false, .slice none 0 0, .int .i64 0, .slice none 0 0] _ _ rfl rfl K9 Try.underlying36 rfl (by kernel_rfl)) rfl ?_
    exact HZERO.out 1 w2 w9 (.ctx HGO.out (fun g => by have h1 : o.sq ≤ c.sq := g.2; omega)) HA2.out.bel HA2.out.b2 ho9
  have d1 : decide (c.sq < o.sq) = false := decide_eq_false hlt
  have HLE : Hid (o.v.sq ≤ c.v.sq) := Lib.hid (by simp only [OA.v, XA.v]; omega)
  have HMC := Lib.hid (HM.out HGO.out w2 HA2.out.bel)
  go_wp2_with fail
  refine HMC.out.mono ?_
  rintro e w3 ⟨rfl, hb3⟩
  have HA3 := Lib.hid (HA2.out.next hb3)
  clear hb3 HMC HA2 q1 q2 d1 hlt
  by_cases hkm : km ≠ 0
  · have he := errV_some hkm
    have HZ := Lib.hid (HZERO.out km w3)
    rw [he] at HZ ⊢
    clear he
    have K2 := HA3.out.b2
    go_wp2_with (have _h := K2; refine wpList_storeq rfl 36 (.tmp 8) (.tmp 33) rfl (w.heap.size + 1 + 1) #[.bool false, .slice none 0 0, .int .i64 0, .slice none 0 0] [.bool false, .slice none 0 0, .int .i64 0, .slice none 0 0] rfl rfl K2 rfl (by kernel_rfl) zero4_one ?_; clear _h K2; intro w9 K9 ho9 hs9)
    refine bodyPost_ret (res_cell_tmp rfl _ _ (w.heap.size + 1 + 1) [.bool false, .slice none 0 0, .int .i64 0, .slice none 0 0] _ _ rfl rfl K9 Try.underlying36 rfl (by kernel_rfl)) rfl ?_
    exact HZ.out w9 (.may HGO.out HCG.out HLE.out hkm) HA3.out.bel HA3.out.b2 ho9
  have hk0 : km = 0 := Decidable.not_not.1 hkm
  subst hk0
  clear hkm
  have HLK := Lib.hid (like_any o HA3.out.b0 (HO.out.1.since HA3.out.bel) HO.out.2.1)
  unfold errV
  go_wp2_with fail
  refine HLK.out.mono ?_
  rintro e w4 ⟨q1, hv1, hs1, hN1, rfl, hb4⟩
  obtain ⟨w5, hw5⟩ : ∃ w5, w5 = w4.alloc (.cells q1.cs 36) := ⟨_, rfl⟩
  have hb5 : Below w4.heap.size w4 w5 := by rw [hw5]; exact below_alloc w4 _
  have KG5 : Blk w5 w4.heap.size 36 q1.cs := by rw [hw5]; exact Blk.new w4 _ _
  have hA3s := HA3.out.b2.lt
  have HA5 := Lib.hid ((HA3.out.next hb4).next hb5)
  have HQ1 := Lib.hid (And.intro hv1 (And.intro hs1 (And.intro (hN1.below hb5) KG5)))
  have HW5 := Lib.hid hw5
  have hz4 := hb4.size
  have hz5 := hb5.size
  have HZ4 : Hid (w.heap.size + 3 ≤ w3.heap.size ∧ w3.heap.size ≤ w4.heap.size ∧ w4.heap.size < w5.heap.size) := Lib.hid ⟨by omega, hz4, KG5.lt⟩
  clear hv1 hs1 hN1 hb4 hb5 KG5 hA3s hw5 hz4 hz5 HLK
  unfold OA.cs at HW5
  have hq1cs : q1.cs = #[.bool q1.th, .slice q1.D q1.dt.length q1.cd, .int .i64 q1.sq, .slice q1.C q1.cl.length q1.cc] := rfl
  rw [hq1cs]
  clear hq1cs
  obtain ⟨g, hg⟩ : ∃ g, g = w4.heap.size := ⟨_, rfl⟩
  have HGG := Lib.hid hg
  have K1 := HA5.out.b1
  have HSE := Lib.hid (callsIn_wide.1 (see_in (g := g) (base := w.heap.size) q1 c (by rw [hg]; exact HQ1.out.2.2.2) (OA.N.weaken HQ1.out.2.2.1 (by have := HZ4.out.1; omega)) HQ1.out.2.1 (HO.out.2.2.since HA5.out.bel) HA5.out.bel.size (by have := HCG.out.sn; simp only [XA.v] at this; omega)))
  unfold XA.cells at HSE
  go_upto_region 9 with (fail)
  rw [← HW5.out, ← hg]
  clear hg
  go_wp2_with (have _h := K1; refine wpList_loadq rfl 28 (.tmp 5) rfl (w.heap.size + 1) [.int .i64 c.sq, .slice c.S c.sn.length c.cs] _ rfl K1 Try.underlying28 rfl (by kernel_rfl) ?_; clear _h K1)
  refine HSE.out.mono ?_
  rintro e w6 ⟨rfl, q2, hv2, K6, hN2, ho6⟩
  have hA6 := HA5.out.only ho6 (fun k hk => by
    have h1 := HZ4.out.1
    have h2 := HZ4.out.2.1
    rcases List.mem_cons.1 hk with e | hk
    · have := HGG.out; omega
    · have := (OA.P.cU HQ1.out.2.2.1 k hk).1; omega)
  have hvo : q2.v = seeO o.v c.v := by rw [hv2, HQ1.out.1]
  have hgood := HGO.out
  have hcg := HCG.out
  have hSm2 : q2.Sm := see_Sm HO.out.2.1 (by have := hcg.sn; simpa [XA.v] using this) (by have := hgood.cn; simpa [OA.v, OA.vs_len] using this) hvo
  have hcl2 : q2.cl.length = (seeO o.v c.v).cl.length := by rw [← OA.vs_len, ← hvo]; rfl
  have HA6 := Lib.hid hA6
  have H2 := Lib.hid (And.intro hvo (And.intro K6 (And.intro hN2 (And.intro hSm2 hcl2))))
  have hg3 : w6.cell? ⟨g, 3, none⟩ = some (.slice q2.C q2.cl.length q2.cc) := K6.cell 3
  have HGW : Hid (w.heap.size + 3 ≤ g ∧ g < w6.heap.size) := Lib.hid ⟨by have := HZ4.out.1; have := HZ4.out.2.1; have := HGG.out; omega, K6.lt⟩
  have hc2l : q2.cl.length ≤ 1000 := hSm2.cn
  clear hv2 K6 hN2 ho6 hA6 hvo hgood hcg hSm2 hcl2 HSE HQ1 HA5 HZ4 HGG HW5 HA3
  by_cases hmany : (16 : Int) < (q2.cl.length : Int)
  · have d1 : decide ((16 : Int) < (q2.cl.length : Int)) = true := decide_eq_true hmany
    have K2 := HA6.out.b2
    go_wp2_with (have _h := K2; refine wpList_storeq rfl 36 (.tmp 8) (.tmp 42) rfl (w.heap.size + 1 + 1) #[.bool false, .slice none 0 0, .int .i64 0, .slice none 0 0] [.bool false, .slice none 0 0, .int .i64 0, .slice none 0 0] rfl rfl K2 rfl (by kernel_rfl) zero4_one ?_; clear _h K2; intro w9 K9 ho9 hs9)
    refine bodyPost_ret (res_cell_tmp rfl _ _ (w.heap.size + 1 + 1) [.bool false, .slice none 0 0, .int .i64 0, .slice none 0 0] _ _ rfl rfl K9 Try.underlying36 rfl (by kernel_rfl)) rfl ?_
    exact HZERO.out 1 w6 w9 (.many HGO.out HCG.out HLE.out rfl (by rw [← H2.out.2.2.2.2]; omega)) HA6.out.bel HA6.out.b2 ho9
  have d1 : decide ((16 : Int) < (q2.cl.length : Int)) = false := decide_eq_false hmany
  have HDD := Lib.hid (HD.out HGO.out HCG.out HLE.out (by first | rfl | trivial) (by rw [← H2.out.2.2.2.2]; omega))
  have HDO := Lib.hid (HDD.out w6 g q2 HA6.out.bel (by have := HGW.out.1; omega) H2.out.2.1 H2.out.2.2.1 H2.out.2.2.2.1 H2.out.1)
  go_wp2_with fail
  refine HDO.out.mono ?_
  rintro e w7 ⟨rfl, q3, hv3, K7, hN3, hS3, ho7⟩
  have hb27 : Blk w7 (w.heap.size + 1 + 1) 36 #[.bool false, .slice none 0 0, .int .i64 0, .slice none 0 0] := HA6.out.b2.only ho7 (fun hm => by
    rcases List.mem_cons.1 hm with e | hm
    · have := HGW.out.1; omega
    · obtain ⟨-, -, cs, hb⟩ := OA.P.dU H2.out.2.2.1 _ hm
      exact hb.ne_ HA6.out.b2 (by decide) rfl)
  have hbel7 : Below w.heap.size w w7 := HA6.out.bel.trans (ho7.below (B := w.heap.size) (fun k hk => by
    rcases List.mem_cons.1 hk with e | hk
    · have := HGW.out.1; omega
    · exact (OA.P.dU H2.out.2.2.1 k hk).1) HA6.out.bel.size)
  have K7' : Blk w7 g 36 [Value.bool q3.th, .slice q3.D q3.dt.length q3.cd, .int .i64 q3.sq, .slice q3.C q3.cl.length q3.cc].toArray := K7
  have HB27 := Lib.hid hb27
  have H7 := Lib.hid (And.intro hv3 (And.intro hN3 (And.intro hS3 hbel7)))
  have HMN : Hid (q2.cl.length ≤ 16) := Lib.hid (by omega)
  clear hv3 hN3 hS3 ho7 hb27 hbel7 K7 hg3 d1 HDO hmany
  go_wp2_with (first
    | (have _h := K7'; refine wpList_loadq rfl 36 (.tmp 11) rfl g [.bool q3.th, .slice q3.D q3.dt.length q3.cd, .int .i64 q3.sq, .slice q3.C q3.cl.length q3.cc] _ rfl K7' Try.underlying36 rfl (by kernel_rfl) ?_; clear _h K7')
    | (refine wpList_storeq rfl 36 (.tmp 8) (.tmp 46) rfl (w.heap.size + 1 + 1) #[.bool false, .slice none 0 0, .int .i64 0, .slice none 0 0] [.bool q3.th, .slice q3.D q3.dt.length q3.cd, .int .i64 q3.sq, .slice q3.C q3.cl.length q3.cc] rfl rfl HB27.out rfl (by kernel_rfl) (OA.cs_one q3) ?_; intro w9 K9 ho9 hs9))
  refine bodyPost_ret (res_cell_tmp rfl _ _ (w.heap.size + 1 + 1) [.bool q3.th, .slice q3.D q3.dt.length q3.cd, .int .i64 q3.sq, .slice q3.C q3.cl.length q3.cc] _ _ rfl rfl K9 Try.underlying36 rfl (by kernel_rfl)) rfl ?_
  refine ⟨q3, 0, rfl, ?_, ?_, H7.out.2.2.1, H7.out.2.2.2.trans (ho9.below (B := w.heap.size) (fun k hk => by simp at hk; omega) H7.out.2.2.2.size)⟩
  · rw [H7.out.1, H2.out.1]
    exact .ok HGO.out HCG.out HLE.out rfl (by rw [← H2.out.2.2.2.2]; exact HMN.out)
  · refine OA.P.typed H7.out.2.1 fun k t cs hb ht => ho9.block k hb.lt (fun hm => ?_)
    simp at hm
    subst hm
    refine hb.ne_ HB27.out ?_ rfl
    rcases ht with rfl | rfl | rfl <;> decide
end Go.Proofs.Ytjepfeagbiceoaa
