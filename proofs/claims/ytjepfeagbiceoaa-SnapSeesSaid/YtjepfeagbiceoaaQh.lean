/-
  Which contexts the program finds good. Conditions: the context reads as it is said to.
-/
import Derived.Test.YtjepfeagbiceoaaQg
import Derived.Test.YtjepfeagbiceoaaQc
namespace Go.Proofs.Ytjepfeagbiceoaa
open Go.RowKit Go.Shelf
attribute [local go_sem] Oper.semAt_some
set_option linter.unusedSimpArgs false
set_option linter.unusedVariables false
set_option maxRecDepth 100000
/-- what isContext answers -/
def CtxTo (w : World) (c : CxV) (e : Ending) (w' : World) : Prop := ∃ b : Bool, e = .returned (.bool b) ∧ (b = true ↔ CxG c) ∧ Below w.heap.size w w'
theorem res_cell (W : World) (fn : Func) (p : Tmp) (t : TypeId) (g : Nat) (v : Value) (tmps : Array Value) (hr : fn.results = #[.cell p t]) (h4 : tmps.getD p undef = .pointer (some ⟨g, 0, none⟩))
    (h : ∀ W : World, W.cell? ⟨g, 0, none⟩ = some v → (loadVar t ⟨g, 0, none⟩).run Try.prog W = .ok v W) (hc : W.cell? ⟨g, 0, none⟩ = some v) : (results fn tmps).run Try.prog W = .ok v W := by
  have hl := h W hc
  have h4' : tmps[p]?.getD undef = .pointer (some ⟨g, 0, none⟩) := by simpa using h4
  unfold results
  rw [hr]
  simp [h4', asAddr, hl]
theorem load_bool (g : Nat) (v : Value) (W : World) (h : W.cell? ⟨g, 0, none⟩ = some v) : (loadVar 4 ⟨g, 0, none⟩).run Try.prog W = .ok v W := by simp [go_sem, h]
/-- the numbers that came rise, and are none above sq -/
def CtxI (sq : Int) (pre : List (Nat × Int)) : Prop := riseB 0 (pre.map (·.2)) = true ∧ ∀ s ∈ pre.map (·.2), s ≤ sq
/-- the last one that came doesn't -/
def CtxX (sq : Int) (pre : List (Nat × Int)) : Prop := ∃ ini x, pre = ini ++ [x] ∧ (x.2 ≤ topI 0 (ini.map (·.2)) ∨ sq < x.2)
theorem CtxTo.no {w w' : World} {c : CxV} (h : ¬ CxG c) (hb : Below w.heap.size w w') : CtxTo w c (.returned (.bool false)) w' := ⟨false, rfl, ⟨fun h => (by cases h), fun g => absurd g h⟩, hb⟩
set_option maxHeartbeats 4000000 in
theorem isctx_in {w : World} (c : XA) (h : c.R w) (n1 : ¬ c.sq < 0) (n2 : ¬ (16 : Int) < (c.sn.length : Int)) : CallsIn Fence.wide 5 Try.prog 94 #[.agg c.cells] w (CtxTo w c.v) := by
  obtain ⟨sq, sn, S, cs⟩ := c
  have hro : Fence.wide.round = none := rfl
  have h1 : 1 ≤ 5 := by omega
  have hq1 := h.q1
  have hq2 := h.q2
  have hs1 := h.s1
  have hs2 := h.s2
  have H := Lib.hid h
  clear h
  dsimp only at hq1 hq2 hs1 hs2 n1 n2
  unfold XA.cells
  dsimp only
  have e1 : decide (sq < 0) = false := decide_eq_false n1
  have e2 : decide ((16 : Int) < (sn.length : Int)) = false := decide_eq_false n2
  refine callsIn_of_wp_marks Try.func94 rfl trivial ?_ hro
  simp only [Try.ntmps94, List.size_toArray, List.length_cons, List.length_nil, Nat.reduceAdd, Nat.reduceSub, Array.replicate_succ, Array.replicate_zero, List.push_toArray, List.append_toArray, List.nil_append, List.cons_append]
  gi_wp2_with (refine ⟨trivial, ?_⟩; gi_at_call 100; refine (callsIn_wide.2 (backwardI_any _ _ _ _)).mono ?_; rintro e w' ⟨rfl, rfl⟩)
  obtain ⟨W0, hW0⟩ : ∃ W0, W0 = ((((w.alloc (.cells #[.int .i64 sq, .slice S sn.length cs] 28)).alloc (.cells #[.bool false] 4)).alloc (.cells #[.int .i64 0] 3)).alloc (.cells #[.slice S sn.length cs] 26)) := ⟨_, rfl⟩
  have hB0 : Below w.heap.size w W0 := by rw [hW0]; exact ((((Below.refl _ w).alloc (Nat.le_refl _) _).alloc (by simp) _).alloc (by simp; omega) _).alloc (by simp; omega) _
  have b0 : Blk W0 w.heap.size 28 #[.int .i64 sq, .slice S sn.length cs] := by rw [hW0]; exact (((Blk.new w _ _).alloc _).alloc _).alloc _
  have b1 : Blk W0 (w.heap.size + 1) 4 #[.bool false] := by
    have := ((Blk.new (w.alloc (.cells #[.int .i64 sq, .slice S sn.length cs] 28)) 4 #[.bool false]).alloc (.cells #[.int .i64 0] 3)).alloc (.cells #[.slice S sn.length cs] 26)
    rw [hW0]
    simpa using this
  have b2 : Blk W0 (w.heap.size + 1 + 1) 3 #[.int .i64 0] := by
    have := (Blk.new ((w.alloc (.cells #[.int .i64 sq, .slice S sn.length cs] 28)).alloc (.cells #[.bool false] 4)) 3 #[.int .i64 0]).alloc (.cells #[.slice S sn.length cs] 26)
    rw [hW0]
    simpa using this
  have b3 : Blk W0 (w.heap.size + 1 + 1 + 1) 26 #[.slice S sn.length cs] := by
    have := Blk.new (((w.alloc (.cells #[.int .i64 sq, .slice S sn.length cs] 28)).alloc (.cells #[.bool false] 4)).alloc (.cells #[.int .i64 0] 3)) 26 #[.slice S sn.length cs]
    rw [hW0]
    simpa using this
  have hsz : W0.heap.size = w.heap.size + 4 := by rw [hW0]; simp
  have hsn : Ints W0 w.heap.size S sn.length sn := Reads.below H.out.sn hB0
  rw [← hW0]
  clear hW0
  have HSN := Lib.hid hsn
  have HS := Lib.hid hsz
  have hrev : (backI sn sn.length).map (·.2) = sn.reverse := by
    rw [backI_map sn sn.length (Nat.le_refl _), List.take_of_length_le (by simp)]
  have HREV := Lib.hid hrev
  clear hrev
  have hpre : ∀ k, k ≤ sn.length → (backI sn k).map (·.2) = sn.reverse.take k := backI_map sn
  have HPRE := Lib.hid hpre
  clear hpre
  have hx3 : ∀ (W : World), Blk W (w.heap.size + 1 + 1 + 1) 26 #[.slice S sn.length cs] → W.cell? ⟨w.heap.size + 1 + 1 + 1, 0, none⟩ = some (.slice S sn.length cs) := fun W h => h.cell 0
  refine wpIn_rangeFunc_ownH hro h1 (gf := 101) (lb := #[.pointer (some ⟨w.heap.size + 1 + 1 + 1, 0, none⟩)]) rfl trivial (enters_of Try.func101 (by kernel_rfl) rfl)
    (backI_stops Fence.wide 4 (fun _ => trivial) hro (by omega) (w.heap.size + 1 + 1 + 1) W0.heap.size (w.heap.size + 1 + 1) S cs sn (by omega) W0 (by omega) (by omega) (by omega) (Nat.le_refl _) (hx3 _ b3) (Ints.more HSN.out (by omega))) (fun h h' => KeepsBut.trans h h') (keepsBut_b (Nat.le_refl _)) (Below.refl _ _) (fun _ => rfl)
    (fun pre W => CtxI sq pre ∧ Blk W w.heap.size 28 #[.int .i64 sq, .slice S sn.length cs] ∧ Blk W (w.heap.size + 1) 4 #[.bool false] ∧ Blk W (w.heap.size + 1 + 1) 3 #[.int .i64 (topI 0 (pre.map (·.2)))] ∧ Below w.heap.size w W)
    (fun c pre W => (c = .ret ∧ CtxX sq pre) ∧ Blk W (w.heap.size + 1) 4 #[.bool false] ∧ Below w.heap.size w W)
    ?own1 ?own2 ⟨⟨rfl, by simp⟩, b0, b1, b2, hB0⟩
    (fun x a' W => a' = { tmps := #[.agg #[.int .i64 sq, .slice S sn.length cs], .pointer (some ⟨w.heap.size, 0, none⟩), .pointer (some ⟨w.heap.size + 1, 0, none⟩), .pointer (some ⟨w.heap.size + 1 + 1, 0, none⟩), undef, .int .i64 x.2, .pointer (some ⟨w.heap.size, 0, none⟩), .int .i64 sq, .bool false, .bool false, .pointer (some ⟨w.heap.size, 1, none⟩), .slice S sn.length cs, .int .i64 sn.length, .bool false, .bool false, .pointer (some ⟨w.heap.size, 1, none⟩), .slice S sn.length cs, .func (.func 101) #[] #[.pointer (some ⟨w.heap.size + 1 + 1 + 1, 0, none⟩)], .int .i64 (x.1 : Int), .int .i64 x.2, undef, undef, undef, undef, undef, undef, undef, undef, undef, undef], defers := [] })
    (fun _ _ => ownFrom_pure _ _) ?assign ?body ?done ?stop
  case own1 =>
    rintro pre W W' row ⟨hp, h0, h1, h2, hb⟩ hg hr
    have hsz := HS.out
    have hne : ∀ k, k < W0.heap.size → some k ≠ row := fun k hk e => by have := (hr _ e.symm).1; omega
    refine ⟨hp, h0.grown hg (hne _ (by omega)), h1.grown hg (hne _ (by omega)), h2.grown hg (hne _ (by omega)), hb.grown hg hb.size (fun k e => by have := (hr _ e).1; omega)⟩
  case own2 =>
    rintro c pre W W' row ⟨hp, h1, hb⟩ hg hr
    have hsz := HS.out
    have hne : ∀ k, k < W0.heap.size → some k ≠ row := fun k hk e => by have := (hr _ e.symm).1; omega
    exact ⟨hp, h1.grown hg (hne _ (by omega)), hb.grown hg hb.size (fun k e => by have := (hr _ e).1; omega)⟩
  case assign =>
    rintro l pre x W K hI hK
    have HK := Lib.hid hK
    have HI := Lib.hid hI
    clear hK hI
    unfold encI
    clear hsz
    gi_wp2
    exact HK.out _ _ (KeepsFrom.refl _ _) (KeepsBut.refl _ _ _) HI.out rfl
  case body =>
    rintro l pre x a' W hl - ⟨⟨hr, hle⟩, b0, b1, b2, hB⟩ rfl hlt
    obtain ⟨T0, hT0⟩ : ∃ T0, T0 = topI 0 (pre.map (·.2)) := ⟨_, rfl⟩
    rw [← hT0] at b2
    obtain ⟨xi, xv⟩ := x
    have c0 : W.cell? ⟨w.heap.size, 0, none⟩ = some (.int .i64 sq) := b0.cell 0
    have c1 : W.cell? ⟨w.heap.size + 1, 0, none⟩ = some (.bool false) := b1.cell 0
    have c2 : W.cell? ⟨w.heap.size + 1 + 1, 0, none⟩ = some (.int .i64 T0) := b2.cell 0
    have f1 : W.frozen? ⟨w.heap.size + 1, 0, none⟩ = false := b1.frozen 0
    have f2 : W.frozen? ⟨w.heap.size + 1 + 1, 0, none⟩ = false := b2.frozen 0
    clear hsz
    have HT := Lib.hid hT0
    have HI := Lib.hid (And.intro hr (And.intro hle (And.intro b0 (And.intro b1 (And.intro b2 hB)))))
    clear hT0 hr hle b0 b1 b2 hB hlt
    have hstop : (xv ≤ T0 ∨ sq < xv) → KeepsFrom W0.heap.size W (W.setCell ⟨w.heap.size + 1, 0, none⟩ (.bool false)) ∧ (CtxX sq (pre ++ [(xi, xv)]) ∧ Blk (W.setCell ⟨w.heap.size + 1, 0, none⟩ (.bool false)) (w.heap.size + 1) 4 #[.bool false] ∧ Below w.heap.size w (W.setCell ⟨w.heap.size + 1, 0, none⟩ (.bool false))) := fun h =>
      ⟨(KeepsOthers.setCell _ _ _).from _, ⟨pre, (xi, xv), rfl, by rw [← HT.out]; exact h⟩, by simpa using HI.out.2.2.2.1.set_ 0 (.bool false), HI.out.2.2.2.2.2.setCell (p := ⟨w.heap.size + 1, 0, none⟩) (by show _ ≤ w.heap.size + 1; omega) _⟩
    have HST := Lib.hid hstop
    clear hstop
    by_cases m1 : xv ≤ T0
    · have d1 : decide (xv ≤ T0) = true := decide_eq_true m1
      gi_wp2
      exact ⟨(HST.out (.inl m1)).1, ⟨rfl, (HST.out (.inl m1)).2.1⟩, (HST.out (.inl m1)).2.2⟩
    have d1 : decide (xv ≤ T0) = false := decide_eq_false m1
    by_cases m2 : sq < xv
    · have d2 : decide (sq < xv) = true := decide_eq_true m2
      gi_wp2
      exact ⟨(HST.out (.inr m2)).1, ⟨rfl, (HST.out (.inr m2)).2.1⟩, (HST.out (.inr m2)).2.2⟩
    have d2 : decide (sq < xv) = false := decide_eq_false m2
    gi_wp2
    have hmap : (pre ++ [(xi, xv)]).map (·.2) = pre.map (·.2) ++ [xv] := by simp
    refine ⟨(KeepsOthers.setCell _ _ _).from _, fun k hk hn => Below.heap_setCell _ _ _ _ hn, ⟨?_, fun s hs => ?_⟩, HI.out.2.2.1.far (by show w.heap.size ≠ w.heap.size + 1 + 1; omega) _, HI.out.2.2.2.1.far (by show w.heap.size + 1 ≠ w.heap.size + 1 + 1; omega) _, ?_, HI.out.2.2.2.2.2.setCell (p := ⟨w.heap.size + 1 + 1, 0, none⟩) (by show _ ≤ w.heap.size + 1 + 1; omega) _⟩
    · rw [hmap, riseB_app, HI.out.1, ← HT.out]
      simp [riseB]
      omega
    · rw [hmap] at hs
      rcases List.mem_append.1 hs with h | h
      · exact HI.out.2.1 s h
      · simp at h; omega
    · rw [hmap, topI_app]
      simpa [topI] using HI.out.2.2.2.2.1.set_ 0 (.int .i64 xv)
  case done =>
    rintro D ys W hD rfl ⟨⟨hr, hle⟩, b0, b1, b2, hB⟩ hK
    have hlen := backI_len sn sn.length
    rw [HREV.out] at hr hle
    have HG : Hid (CxG (XA.v ⟨sq, sn, S, cs⟩)) := Lib.hid (by
      have h5 := (riseB_iff _ _).1 hr
      refine ⟨by simp only [XA.v]; omega, by simp only [XA.v]; omega, h5.1, fun s hs => ⟨h5.2 s (by simpa [XA.v] using hs), hle s (by simpa [XA.v] using hs)⟩⟩)
    have f1 : W.frozen? ⟨w.heap.size + 1, 0, none⟩ = false := b1.frozen 0
    have c1 : W.cell? ⟨w.heap.size + 1, 0, none⟩ = some (.bool false) := b1.cell 0
    have HB := Lib.hid (And.intro b1 (And.intro hB hK))
    have hsz := HS.out
    have hlD : w.heap.size + 1 < D := by omega
    clear hsz
    clear hr hle b0 b1 b2 hB hK hlen
    gi_wp2
    have hK5 : (W.setCell ⟨w.heap.size + 1, 0, none⟩ (.bool true)).heap[D]? = some (.deferred (some [])) := (Below.heap_setCell _ _ _ _ (by show D ≠ w.heap.size + 1; omega)).trans HB.out.2.2
    refine ⟨by simp, .inl ⟨_, _, rfl, run_takeDeferred hK5, ?_⟩⟩
    have hkp := grownBy_putObj' (W.setCell ⟨w.heap.size + 1, 0, none⟩ (.bool true)) D (.deferred none)
    have b5 : Blk (W.setCell ⟨w.heap.size + 1, 0, none⟩ (.bool true)) (w.heap.size + 1) 4 #[.bool true] := by simpa using HB.out.1.set_ 0 (.bool true)
    have b6 := b5.grown hkp (fun e => by injection e with e; omega)
    refine ⟨_, res_cell _ _ 2 4 (w.heap.size + 1) (.bool true) _ rfl rfl (fun W h => load_bool _ _ W h) (b6.cell 0), true, rfl, ⟨fun _ => HG.out, fun _ => rfl⟩, ?_⟩
    exact (HB.out.2.1.setCell (p := ⟨w.heap.size + 1, 0, none⟩) (by show _ ≤ w.heap.size + 1; omega) _).grown hkp (by have := HB.out.2.1.size; simpa using this) (fun k e => by injection e with e; omega)
  case stop =>
    rintro D c pre W hD ⟨k, hk, rfl⟩ ⟨⟨rfl, ini, x, he, hx⟩, b1, hB⟩ hK
    have HN : Hid (¬ CxG (XA.v ⟨sq, sn, S, cs⟩)) := Lib.hid fun g => by
      have h6 := HPRE.out k hk
      rw [he, List.map_append] at h6
      have h7 : riseB 0 sn.reverse = true := (riseB_iff _ _).2 ⟨g.up, fun s hs => (g.lim s (by simpa [XA.v] using hs)).1⟩
      have h8 : sn.reverse = (ini.map (·.2) ++ [x].map (·.2)) ++ sn.reverse.drop k := by rw [h6]; exact (List.take_append_drop k _).symm
      rw [h8, riseB_app, Bool.and_eq_true, riseB_app, Bool.and_eq_true] at h7
      have h9 := h7.1.2
      simp [riseB] at h9
      have hm : x.2 ∈ sn := by
        have : x.2 ∈ sn.reverse := by rw [h8]; simp
        simpa using this
      have := (g.lim x.2 hm).2
      simp only [XA.v] at this
      omega
    have HB := Lib.hid (And.intro b1 (And.intro hB hK))
    have hsz := HS.out
    have hlD : w.heap.size + 1 < D := by omega
    clear hsz he hx b1 hB hK
    gi_wp2
    refine ⟨by simp, .inl ⟨_, _, rfl, run_takeDeferred HB.out.2.2, ?_⟩⟩
    have hkp := grownBy_putObj' W D (.deferred none)
    have b6 := HB.out.1.grown hkp (fun e => by injection e with e; omega)
    refine ⟨_, res_cell _ _ 2 4 (w.heap.size + 1) (.bool false) _ rfl rfl (fun W h => load_bool _ _ W h) (b6.cell 0), ?_⟩
    exact CtxTo.no HN.out (HB.out.2.1.grown hkp HB.out.2.1.size (fun k e => by injection e with e; omega))
set_option maxHeartbeats 4000000 in
theorem isctx_any {w : World} (c : XA) (h : c.R w) : Calls Try.prog 94 #[.agg c.cells] w (CtxTo w c.v) := by
  by_cases n1 : c.sq < 0
  · have HN : Hid (¬ CxG c.v) := Lib.hid fun g => by have := g.sq; simp only [XA.v] at this; omega
    have e1 : decide (c.sq < 0) = true := decide_eq_true n1
    have hB0 : Below w.heap.size w ((w.alloc (.cells #[.int .i64 c.sq, .slice c.S c.sn.length c.cs] 28)).alloc (.cells #[.bool false] 4)) := ((Below.refl _ w).alloc (Nat.le_refl _) _).alloc (by simp) _
    have b1 : Blk ((w.alloc (.cells #[.int .i64 c.sq, .slice c.S c.sn.length c.cs] 28)).alloc (.cells #[.bool false] 4)) (w.heap.size + 1) 4 #[.bool false] := by
      have := Blk.new (w.alloc (.cells #[.int .i64 c.sq, .slice c.S c.sn.length c.cs] 28)) 4 #[.bool false]
      simpa using this
    have HB := Lib.hid (And.intro hB0 b1)
    clear hB0 b1 h
    unfold XA.cells
    go_enter Try.func94, Try.ntmps94
    go_wp2
    exact bodyPost_ret (res_cell _ _ 2 4 (w.heap.size + 1) (.bool false) _ rfl rfl (fun W h => load_bool _ _ W h) (HB.out.2.cell 0)) rfl (CtxTo.no HN.out HB.out.1)
  by_cases n2 : (16 : Int) < (c.sn.length : Int)
  · have HN : Hid (¬ CxG c.v) := Lib.hid fun g => by have := g.sn; simp only [XA.v] at this; omega
    have e1 : decide (c.sq < 0) = false := decide_eq_false n1
    have e2 : decide ((16 : Int) < (c.sn.length : Int)) = true := decide_eq_true n2
    have hB0 : Below w.heap.size w ((w.alloc (.cells #[.int .i64 c.sq, .slice c.S c.sn.length c.cs] 28)).alloc (.cells #[.bool false] 4)) := ((Below.refl _ w).alloc (Nat.le_refl _) _).alloc (by simp) _
    have b1 : Blk ((w.alloc (.cells #[.int .i64 c.sq, .slice c.S c.sn.length c.cs] 28)).alloc (.cells #[.bool false] 4)) (w.heap.size + 1) 4 #[.bool false] := by
      have := Blk.new (w.alloc (.cells #[.int .i64 c.sq, .slice c.S c.sn.length c.cs] 28)) 4 #[.bool false]
      simpa using this
    have HB := Lib.hid (And.intro hB0 b1)
    clear hB0 b1 h
    unfold XA.cells
    go_enter Try.func94, Try.ntmps94
    go_wp2
    exact bodyPost_ret (res_cell _ _ 2 4 (w.heap.size + 1) (.bool false) _ rfl rfl (fun W h => load_bool _ _ W h) (HB.out.2.cell 0)) rfl (CtxTo.no HN.out HB.out.1)
  exact callsIn_wide.1 (isctx_in c h n1 n2)
end Go.Proofs.Ytjepfeagbiceoaa
