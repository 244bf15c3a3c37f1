/-
  An act by a disk and a plain one: what 'do' answers. Conditions: small numbers.
-/
import Derived.Test.YtgcghoalepkdfaaTwo
import Derived.Deep.CutRange
import Derived.Deep.DeepCutAuto
import Derived.Deep.CutBlock
namespace Go.Proofs.Ytgcghoalepkdfaa
open Go.RowKit
set_option linter.unusedSimpArgs false
set_option linter.unusedVariables false
/-- what an act makes of a disk -/
def act (o : OpV) (hb : o.b < 256) (d : DM) : DM :=
  if o.kind = 1 then d.write o.n (Sec.full o.b hb) else if o.kind = 2 then d.flush else if o.kind = 4 then d.arm o.n else if o.kind = 5 then d.crash o.keep else d
def DoTo (w0 w : World) (g : Nat) (d r : DM) (X : List Nat) (AA AW : Option Addr) (o : OpV) (hb : o.b < 256) (e : Ending) (w' : World) : Prop :=
  ∃ AA' c' AW' cw' l' b, e = .returned (.tuple #[.agg (rv AA' c' AW' cw' l' (act o hb r)).toArray, .bool b]) ∧ Two w0 w' g (act o hb d) (act o hb r) X AA' c' AW' cw' l' ∧ Keep X w w' ∧ (∀ k ∈ blkOf AA' ++ blkOf AW', k ∈ blkOf AA ++ blkOf AW ∨ w.heap.size ≤ k) ∧ (d = r → b = true)
section
variable {w0 w w' : World} {g : Nat} {d r : DM} {X : List Nat} {AA AW : Option Addr} {c cw l : Nat}
/-- the three blocks of its own that 'do' makes -/
theorem Two.begin_ (h : Two w0 w g d r X AA c AW cw l) (c0 c1 c2 : Array Value) (t0 t1 t2 : TypeId) : Two w0 (((w.alloc (.cells c0 t0)).alloc (.cells c1 t1)).alloc (.cells c2 t2)) g d r ((w.heap.size + 2) :: (w.heap.size + 1) :: w.heap.size :: X) AA c AW cw l := by
  have h1 := ((h.push (.cells c0 t0)).push (.cells c1 t1)).push (.cells c2 t2)
  simpa using h1
theorem Two.under (h : Two w0 w g d r X AA c AW cw l) : ∀ k ∈ blkOf AA ++ blkOf AW, k < w.heap.size := fun k hk => by
  obtain ⟨F, h1, h2, h3⟩ := h.disk
  refine (h3 k ?_).2
  simp only [List.mem_append] at hk ⊢
  rcases hk with h | h
  · exact .inl h
  · exact .inr (.inl h)
theorem Two.write (h : Two w0 w g d r X AA c AW cw l) (i : Int) (s : Sec) (hd : Small d) :
    Calls Try.prog 17 #[.pointer (some ⟨g, 0, none⟩), .int .i64 i, s.v] w fun e w' => e = .returned (errV (d.writeErr i)) ∧ Two w0 w' g (d.write i s) r X AA c AW cw l ∧ Keep X w w' :=
  (hold_write h.disk i s hd.steps hd.left hd.wait).mono fun e w' ⟨he, h1, h2⟩ => ⟨he, h.to h1 h2⟩
theorem Two.flush (h : Two w0 w g d r X AA c AW cw l) (hd : Small d) :
    Calls Try.prog 19 #[.pointer (some ⟨g, 0, none⟩)] w fun e w' => e = .returned (errV d.stepErr) ∧ Two w0 w' g d.flush r X AA c AW cw l ∧ Keep X w w' :=
  (hold_flush h.disk hd.steps hd.left hd.wait).mono fun e w' ⟨he, h1, h2⟩ => ⟨he, h.to h1 h2⟩
theorem Two.arm (h : Two w0 w g d r X AA c AW cw l) (k : Int) (hk : -9223372036854775808 ≤ k) :
    Calls Try.prog 25 #[.pointer (some ⟨g, 0, none⟩), .int .i64 k] w fun e w' => e = .returned (errV (armErr k)) ∧ Two w0 w' g (d.arm k) r X AA c AW cw l ∧ Keep X w w' :=
  (hold_arm h.disk k hk).mono fun e w' ⟨he, h1, h2⟩ => ⟨he, h.to h1 h2⟩
theorem Two.crash (h : Two w0 w g d r X AA c AW cw l) (hd : Small d) (AK : Option Addr) (ck : Nat) (keep : List Bool) (hK : Reads w w0.heap.size 1 AK keep.length (flags keep)) :
    Calls Try.prog 20 #[.pointer (some ⟨g, 0, none⟩), .slice AK keep.length ck] w fun e w' => e = .returned (.tuple #[]) ∧ Two w0 w' g (d.crash keep) r X AA c AW cw l ∧ Keep X w w' :=
  (hold_crash h.disk hd.wait AK ck w0.heap.size keep (fun F hF W' ho => hK.below (ho.below hF.over h.disk.size))).mono fun e w' ⟨he, h1, h2⟩ => ⟨he, h.to h1 h2⟩
theorem wp_store_blk {P : Program} {o : Oper} {a : Act} {w : World} {K : Act → World → Prop} {Q : Exit → Act → World → Prop} (ty : TypeId) (x y : Operand) (ho : o.op = .store ty x y)
    (g : Nat) (cs : Array Value) (vs : List Value) (hx : a.eval x = .pointer (some ⟨g, 0, none⟩)) (hy : a.eval y = .agg vs.toArray) (hB : Blk w g ty cs) (hs : vs.length = cs.size) (hi : (P.info? ty).map (·.size) = some vs.length) (h1 : ∀ v ∈ vs, v.oneCell' = true)
    (h : ∀ w', Blk w' g ty vs.toArray → Only [g] w w' → w'.heap.size = w.heap.size → K (a.put o.dst undef) w') : o.wp P a w K Q :=
  wp_store_mid ty x y ho g 0 vs.toArray hx hy (hB.there (by simp [hs])) (by simpa using hi) (all_oneCell_toArray h1)
    (h _ (by simpa using hB.over vs hs) ((Only.refl _ _).grown (by simpa using (setCells_grown g vs 0 w).1) (fun k e => .inl (by injection e with e; simp [e]))) (by simpa using (setCells_grown g vs 0 w).2))
end
/-- one that isn't wanted (its guard is off) alone may come up -/
theorem L_skip {P : Program} {ops : Array Oper} {Q : Exit → Act → World → Prop} {md : Region.Mode} {S : World → Prop} {L : Nat} {j : Nat} {o : Oper} {f : Nat} {l : Array Bool} {a : Act} {w : World} (hr : Region.ready md ops l = [j]) (ho : ops[j]? = some o) (hw : Region.wanted o (yielded ops a.tmps) = false) (hS : S w)
    (h : wpAnyL P md ops Q S L f (l.setIfInBounds j true) (a.put o.dst undef) w) : wpAnyL P md ops Q S L (f + 1) l a w := by
  refine ⟨fun h0 => absurd (hr ▸ h0) (by simp), fun k hk => ?_⟩
  rw [hr] at hk
  obtain rfl := List.mem_singleton.1 hk
  refine wpOp_step ho (fun K hK => ?_)
  rw [if_neg (by rw [hw]; simp)]
  exact hK _ w ⟨fun _ => hS, h⟩
/-- behind the last stores of 'do' -/
theorem do_end {w0 w w10 w11 w13 : World} {g c cw l c1 cw1 l1 : Nat} {d r d' r' : DM} {X : List Nat} {AA AW A1 W1 : Option Addr} (h : Two w0 w g d r X AA c AW cw l) (h10 : Two w0 w10 g d' r' ((w.heap.size + 2) :: (w.heap.size + 1) :: w.heap.size :: X) A1 c1 W1 cw1 l1) (kx : Keep X w w10)
    (hn : ∀ k ∈ blkOf A1 ++ blkOf W1, k < w.heap.size ∨ w.heap.size + 2 < k) (o11 : Only [w.heap.size] w10 w11) (o13 : Only [w.heap.size + 2] w11 w13) : Two w0 w13 g d' r' X A1 c1 W1 cw1 l1 ∧ Keep X w w13 := by
  have hX : ∀ k ∈ X, k < w.heap.size := fun k hk => by
    obtain ⟨F, h1, h2, h3⟩ := h.disk
    exact (h3 k (by simp [hk])).2
  have hs0 := h.disk.size
  have e11 := h10.kept (j := w.heap.size) (by simp) o11 hs0 (fun hm => by have := hn _ hm; omega)
  have e13 := e11.kept (j := w.heap.size + 2) (by simp) o13 (by omega) (fun hm => by have := hn _ hm; omega)
  refine ⟨e13.mono (fun k hk => by simp [hk]), Nat.le_trans kx.1 (Nat.le_trans o11.size o13.size), fun k hk => ?_⟩
  have hk1 := hX k hk
  have hlt : k < w10.heap.size := Nat.lt_of_lt_of_le hk1 kx.1
  rw [o13.block k (Nat.lt_of_lt_of_le hlt o11.size) (by simp; omega), o11.block k hlt (by simp; omega)]
  exact kx.2 k hk
theorem keep_x {w0 w wa w' : World} {g c cw l : Nat} {d r : DM} {X Y : List Nat} {AA AW : Option Addr} (h : Two w0 w g d r X AA c AW cw l) (hb : Below w.heap.size w wa) (hk : Keep Y wa w') (hY : ∀ k ∈ X, k ∈ Y) : Keep X w w' := by
  have hX : ∀ k ∈ X, k < w.heap.size := fun k hk => by
    obtain ⟨F, h1, h2, h3⟩ := h.disk
    exact (h3 k (by simp [hk])).2
  exact (Keep.below hb hX).trans (hk.mono hY)
theorem Keep.below_ {X : List Nat} {w w' w'' : World} (h : Keep X w w') (hb : Below w'.heap.size w' w'') (hX : ∀ k ∈ X, k < w'.heap.size) : Keep X w w'' := h.trans (Keep.below hb hX)
theorem Two.xlt {w0 w : World} {g c cw l : Nat} {d r : DM} {X : List Nat} {AA AW : Option Addr} (h : Two w0 w g d r X AA c AW cw l) : ∀ k ∈ X, k < w.heap.size := fun k hk => by
  obtain ⟨F, h1, h2, h3⟩ := h.disk
  exact (h3 k (by simp [hk])).2
section
variable {w0 w w' : World} {g : Nat} {d r : DM} {X : List Nat} {AA AW : Option Addr} {c cw l : Nat}
set_option maxRecDepth 100000 in
set_option maxHeartbeats 8000000 in
theorem do_write (h : Two w0 w g d r X AA c AW cw l) (o : OpV) (hb : o.b < 256) (hd : Small d) (hr : Small r) (hk : o.kind = 1) :
    Calls Try.prog 15 #[.pointer (some ⟨g, 0, none⟩), .agg (rv AA c AW cw l r).toArray, .agg o.cs.toArray] w (DoTo w0 w g d r X AA AW o hb) := by
  have hz : ∀ w, (zeroValue 36).run Try.prog w = .ok (.agg (rl none 0 0 none 0 0 0 0 false false).toArray) w := rdisk_zero
  have hu := Try.underlying36
  obtain ⟨t0, t1, t2, hbw⟩ := three_blks w 36 40 36 (rv AA c AW cw l r).toArray o.cs.toArray (rl none 0 0 none 0 0 0 0 false false).toArray
  have H := Lib.hid (h.begin_ (rv AA c AW cw l r).toArray o.cs.toArray (rl none 0 0 none 0 0 0 0 false false).toArray 36 40 36)
  have T0 := Lib.hid t0
  have T1 := Lib.hid t1
  have T2 := Lib.hid t2
  have HB := Lib.hid hbw
  have H0 := Lib.hid h
  have S0 : ∀ w', Blk w' (w.heap.size + 1) 40 o.cs.toArray → w'.cell? ⟨w.heap.size + 1, 0, none⟩ = some (.int .i64 1) := fun w' h => by rw [h.cell, ← hk]; rfl
  have S1 : ∀ w', Blk w' (w.heap.size + 1) 40 o.cs.toArray → w'.cell? ⟨w.heap.size + 1, 1, none⟩ = some (.int .i64 o.n) := fun w' h => by rw [h.cell]; rfl
  have S2 : ∀ w', Blk w' (w.heap.size + 1) 40 o.cs.toArray → w'.cell? ⟨w.heap.size + 1, 2, none⟩ = some (.int .u8 o.b) := fun w' h => by rw [h.cell]; rfl
  have hact : ∀ x : DM, act o hb x = x.write o.n (Sec.full o.b hb) := fun x => by simp [act, hk]
  have HA := Lib.hid hact
  clear h t0 t1 t2 hbw hact
  go_enter Try.func15, Try.ntmps15
  go_upto_region 1 with (fail)
  generalize hwa : World.alloc _ (Obj.cells (rl none 0 0 none 0 0 0 0 false false).toArray 36) = wa at *
  have q0 := S0 _ T1.out
  clear hwa
  go_wp2
  go_region_held3 (fun w' => Blk w' (w.heap.size + 1) 40 o.cs.toArray)
    (first | exact T1.out | exact T1.out.below (below_drew' b7) T1.out.lt | exact k8.blk (by simp) (T1.out.below (below_drew' b7) T1.out.lt))
    (first
      | (go_at_call 18; refine (full_any o.b hb _).mono ?_; rintro e w7 ⟨rfl, b7⟩)
      | (go_at_call 17; refine ((H.out.below (below_drew' b7)).write o.n (Sec.full o.b hb) hd).mono ?_; rintro e w8 ⟨rfl, h8, k8⟩))
  have D0 := Lib.hid (k8.blk (by simp) (T0.out.below (below_drew' b7) T0.out.lt))
  have D1 := Lib.hid (k8.blk (by simp) (T1.out.below (below_drew' b7) T1.out.lt))
  have D2 := Lib.hid (k8.blk (by simp) (T2.out.below (below_drew' b7) T2.out.lt))
  have H8 := Lib.hid h8
  have k8' : Keep ((w.heap.size + 2) :: (w.heap.size + 1) :: w.heap.size :: X) wa w8 := ⟨Nat.le_trans (below_drew' b7).size k8.1, fun k hk => (k8.2 k hk).trans ((below_drew' b7).block k (H.out.xlt k hk))⟩
  clear q0
  go_wp2
  have hS : Blk w8.drew (w.heap.size + 1) 40 o.cs.toArray := D1.out
  refine any_beginL (fun w' => Blk w' (w.heap.size + 1) 40 o.cs.toArray) 99 (by kernel_rfl) ?_
  refine S_take (i := 1) (v := .pointer (some ⟨w.heap.size + 1, 1, none⟩)) rfl rfl (by kernel_rfl) (by kernel_rfl) (by kernel_rfl) (fun _ _ _ h => h) (Or.inl ⟨by rfl, fun w _ => by kernel_rfl⟩) hS ?_
  simp only [Act.put, List.getElem_toArray, List.getElem_cons_succ, List.getElem_cons_zero, List.setIfInBounds_toArray, List.set_cons_zero, List.set_cons_succ]
  refine S_take (i := 2) (v := .int .i64 o.n) rfl rfl (by kernel_rfl) (by kernel_rfl) (by kernel_rfl) (fun _ _ _ h => h) (Or.inl ⟨by rfl, fun w hw => by have q := S1 _ hw; go_simp⟩) hS ?_
  simp only [Act.put, List.getElem_toArray, List.getElem_cons_succ, List.getElem_cons_zero, List.setIfInBounds_toArray, List.set_cons_zero, List.set_cons_succ]
  refine S_take (i := 3) (v := .pointer (some ⟨w.heap.size + 1, 2, none⟩)) rfl rfl (by kernel_rfl) (by kernel_rfl) (by kernel_rfl) (fun _ _ _ h => h) (Or.inl ⟨by rfl, fun w _ => by kernel_rfl⟩) hS ?_
  simp only [Act.put, List.getElem_toArray, List.getElem_cons_succ, List.getElem_cons_zero, List.setIfInBounds_toArray, List.set_cons_zero, List.set_cons_succ]
  refine S_take (i := 4) (v := .int .u8 o.b) rfl rfl (by kernel_rfl) (by kernel_rfl) (by kernel_rfl) (fun _ _ _ h => h) (Or.inl ⟨by rfl, fun w hw => by have q := S2 _ hw; go_simp⟩) hS ?_
  simp only [Act.put, List.getElem_toArray, List.getElem_cons_succ, List.getElem_cons_zero, List.setIfInBounds_toArray, List.set_cons_zero, List.set_cons_succ]
  refine L_two (i := 0) (j := 5) (by kernel_rfl) rfl rfl (by rfl) (by rfl) ?_ ?_
  · simp only [Act.put, List.getElem_toArray, List.getElem_cons_succ, List.getElem_cons_zero, List.setIfInBounds_toArray, List.set_cons_zero, List.set_cons_succ]
    refine wp_yields (exec_load_blk 36 (.tmp 4) rfl w.heap.size (rv AA c AW cw l r) _ rfl D0.out hu rfl rdisk_size) ⟨hS, ?_⟩
    simp only [Act.put, List.getElem_toArray, List.getElem_cons_succ, List.getElem_cons_zero, List.setIfInBounds_toArray, List.set_cons_zero, List.set_cons_succ]
    refine L_one (j := 5) (by kernel_rfl) rfl (by rfl) ?_
    simp only [Act.put, List.getElem_toArray, List.getElem_cons_succ, List.getElem_cons_zero, List.setIfInBounds_toArray, List.set_cons_zero, List.set_cons_succ]
    refine wp_called (by kernel_rfl) (full_any o.b hb _) ?_
    rintro e w9 ⟨rfl, b9'⟩
    have b9 : Below w8.heap.size w8 w9 := below_drew' b9'
    have hS9 : Blk w9 (w.heap.size + 1) 40 o.cs.toArray := D1.out.below b9 D1.out.lt
    have hD9 : Blk w9 w.heap.size 36 (rv AA c AW cw l r).toArray := D0.out.below b9 D0.out.lt
    refine ⟨_, rfl, hS9, ?_⟩
    simp only [Act.put, List.getElem_toArray, List.getElem_cons_succ, List.getElem_cons_zero, List.setIfInBounds_toArray, List.set_cons_zero, List.set_cons_succ]
    have H9 := Lib.hid (H8.out.below b9)
    refine L_one (j := 6) (by kernel_rfl) rfl (by rfl) ?_
    simp only [Act.put, List.getElem_toArray, List.getElem_cons_succ, List.getElem_cons_zero, List.setIfInBounds_toArray, List.set_cons_zero, List.set_cons_succ]
    refine wp_called (by kernel_rfl) (two_put H9.out o.n (Sec.full o.b hb) hr) ?_
    rintro e w10 ⟨A1, c1, W1, cw1, l1, rfl, h10, b10, hn10⟩
    have hD10 := hD9.below b10 hD9.lt
    have hS2 := hS9.below b10 hS9.lt
    refine ⟨_, rfl, hS2, ?_⟩
    simp only [Act.put, List.getElem_toArray, List.getElem_cons_succ, List.getElem_cons_zero, List.setIfInBounds_toArray, List.set_cons_zero, List.set_cons_succ]
    refine S_take (i := 7) (v := .tuple #[.agg (rv A1 c1 W1 cw1 l1 (r.write o.n (Sec.full o.b hb))).toArray, .int .i64 (r.writeErr o.n)]) rfl rfl (by kernel_rfl) (by kernel_rfl) (by kernel_rfl) (fun _ _ _ h => h) (Or.inl ⟨by rfl, fun w _ => by kernel_rfl⟩) hS2 ?_
    simp only [Act.put, List.getElem_toArray, List.getElem_cons_succ, List.getElem_cons_zero, List.setIfInBounds_toArray, List.set_cons_zero, List.set_cons_succ]
    refine S_take (i := 8) (v := .agg (rv A1 c1 W1 cw1 l1 (r.write o.n (Sec.full o.b hb))).toArray) rfl rfl (by kernel_rfl) (by kernel_rfl) (by kernel_rfl) (fun _ _ _ h => h) (Or.inl ⟨by rfl, fun w _ => by kernel_rfl⟩) hS2 ?_
    simp only [Act.put, List.getElem_toArray, List.getElem_cons_succ, List.getElem_cons_zero, List.setIfInBounds_toArray, List.set_cons_zero, List.set_cons_succ]
    refine S_take (i := 9) (v := .int .i64 (r.writeErr o.n)) rfl rfl (by kernel_rfl) (by kernel_rfl) (by kernel_rfl) (fun _ _ _ h => h) (Or.inl ⟨by rfl, fun w _ => by kernel_rfl⟩) hS2 ?_
    simp only [Act.put, List.getElem_toArray, List.getElem_cons_succ, List.getElem_cons_zero, List.setIfInBounds_toArray, List.set_cons_zero, List.set_cons_succ]
    refine L_one (j := 10) (by kernel_rfl) rfl (by rfl) ?_
    simp only [Act.put, List.getElem_toArray, List.getElem_cons_succ, List.getElem_cons_zero, List.setIfInBounds_toArray, List.set_cons_zero, List.set_cons_succ]
    refine wp_store_blk 36 (.tmp 4) (.tmp 53) (by rfl) w.heap.size _ (rv A1 c1 W1 cw1 l1 (r.write o.n (Sec.full o.b hb))) (by rfl) (by rfl) hD10 rfl rdisk_size (rl_one _ _ _ _ _ _ _ _ _ _) ?_
    intro w11 hB11 ho11 hs11
    have hS11 := hS2.only ho11 (by simp)
    refine ⟨hS11, ?_⟩
    simp only [Act.put, List.getElem_toArray, List.getElem_cons_succ, List.getElem_cons_zero, List.setIfInBounds_toArray, List.set_cons_zero, List.set_cons_succ]
    refine L_one (j := 11) (by kernel_rfl) rfl (by rfl) ?_
    simp only [Act.put, List.getElem_toArray, List.getElem_cons_succ, List.getElem_cons_zero, List.setIfInBounds_toArray, List.set_cons_zero, List.set_cons_succ]
    refine wp_yields (v := .int .i64 (r.writeErr o.n)) (by kernel_rfl) ⟨hS11, ?_⟩
    simp only [Act.put, List.getElem_toArray, List.getElem_cons_succ, List.getElem_cons_zero, List.setIfInBounds_toArray, List.set_cons_zero, List.set_cons_succ]
    refine L_done (by kernel_rfl) ?_
    refine NoPanic.normal ?_
    go_wp2
    have hB6 := ((D2.out.below b9 D2.out.lt).below b10 (Nat.lt_of_lt_of_le D2.out.lt b9.size)).only ho11 (by simp)
    generalize hn1 : d.writeErr o.n = n1
    generalize hn2 : r.writeErr o.n = n2
    refine any_beginL (fun w' => Blk w' w.heap.size 36 (rv A1 c1 W1 cw1 l1 (r.write o.n (Sec.full o.b hb))).toArray) 99 (by kernel_rfl) ?_
    have hSf : Blk w11.drew w.heap.size 36 (rv A1 c1 W1 cw1 l1 (r.write o.n (Sec.full o.b hb))).toArray := hB11
    refine S_take (i := 0) (v := .agg (rv A1 c1 W1 cw1 l1 (r.write o.n (Sec.full o.b hb))).toArray) rfl rfl (by kernel_rfl) (by kernel_rfl) (by kernel_rfl) (fun _ _ _ h => h) (Or.inl ⟨by rfl, fun w hw => exec_load_blk 36 (.tmp 4) rfl _ _ _ rfl hw hu rfl rdisk_size⟩) hSf ?_
    simp only [Act.put, List.getElem_toArray, List.getElem_cons_succ, List.getElem_cons_zero, List.setIfInBounds_toArray, List.set_cons_zero, List.set_cons_succ]
    refine S_take (i := 1) (v := errV n1) rfl rfl (by kernel_rfl) (by kernel_rfl) (by kernel_rfl) (fun _ _ _ h => h) (Or.inl ⟨by rfl, fun w _ => by kernel_rfl⟩) hSf ?_
    simp only [Act.put, List.getElem_toArray, List.getElem_cons_succ, List.getElem_cons_zero, List.setIfInBounds_toArray, List.set_cons_zero, List.set_cons_succ]
    refine S_take (i := 3) (v := .int .i64 n2) rfl rfl (by kernel_rfl) (by kernel_rfl) (by kernel_rfl) (fun _ _ _ h => h) (Or.inl ⟨by rfl, fun w _ => by kernel_rfl⟩) hSf ?_
    simp only [Act.put, List.getElem_toArray, List.getElem_cons_succ, List.getElem_cons_zero, List.setIfInBounds_toArray, List.set_cons_zero, List.set_cons_succ]
    refine L_one (j := 2) (by kernel_rfl) rfl (by rfl) ?_
    simp only [Act.put, List.getElem_toArray, List.getElem_cons_succ, List.getElem_cons_zero, List.setIfInBounds_toArray, List.set_cons_zero, List.set_cons_succ]
    refine wp_called (by kernel_rfl) (num_any n1 _) ?_
    rintro e w12 ⟨rfl, hw12⟩
    subst hw12
    refine ⟨_, rfl, hSf, ?_⟩
    simp only [Act.put, List.getElem_toArray, List.getElem_cons_succ, List.getElem_cons_zero, List.setIfInBounds_toArray, List.set_cons_zero, List.set_cons_succ]
    have hb0 : ((n1 : Int) == (n2 : Int)) = (n1 == n2) := by
      rw [Bool.eq_iff_iff]
      simp only [beq_iff_eq]
      omega
    refine S_take (i := 4) (v := .bool (n1 == n2)) rfl rfl (by kernel_rfl) (by kernel_rfl) (by kernel_rfl) (fun _ _ _ h => h) (Or.inl ⟨by rfl, fun w _ => by go_simp⟩) hSf ?_
    simp only [Act.put, List.getElem_toArray, List.getElem_cons_succ, List.getElem_cons_zero, List.setIfInBounds_toArray, List.set_cons_zero, List.set_cons_succ]
    refine S_take (i := 5) (v := .bool (n1 == n2)) rfl rfl (by kernel_rfl) (by kernel_rfl) (by kernel_rfl) (fun _ _ _ h => h) (Or.inl ⟨by rfl, fun w _ => by kernel_rfl⟩) hSf ?_
    simp only [Act.put, List.getElem_toArray, List.getElem_cons_succ, List.getElem_cons_zero, List.setIfInBounds_toArray, List.set_cons_zero, List.set_cons_succ]
    cases hnn : (n1 == n2) with
    | false =>
      refine S_take (i := 6) (v := undef) rfl rfl (by kernel_rfl) (by kernel_rfl) (by kernel_rfl) (fun _ _ _ h => h) (Or.inr ⟨by rfl, rfl⟩) hSf ?_
      simp only [Act.put, List.getElem_toArray, List.getElem_cons_succ, List.getElem_cons_zero, List.setIfInBounds_toArray, List.set_cons_zero, List.set_cons_succ]
      refine S_take (i := 7) (v := .bool false) rfl rfl (by kernel_rfl) (by kernel_rfl) (by kernel_rfl) (fun _ _ _ h => h) (Or.inl ⟨by rfl, fun w _ => by kernel_rfl⟩) hSf ?_
      simp only [Act.put, List.getElem_toArray, List.getElem_cons_succ, List.getElem_cons_zero, List.setIfInBounds_toArray, List.set_cons_zero, List.set_cons_succ]
      refine L_one (j := 8) (by kernel_rfl) rfl (by rfl) ?_
      simp only [Act.put, List.getElem_toArray, List.getElem_cons_succ, List.getElem_cons_zero, List.setIfInBounds_toArray, List.set_cons_zero, List.set_cons_succ]
      refine wp_store_blk 36 (.tmp 6) (.tmp 87) (by rfl) (w.heap.size + 2) _ (rv A1 c1 W1 cw1 l1 (r.write o.n (Sec.full o.b hb))) (by rfl) (by rfl) hB6 rfl rdisk_size (rl_one _ _ _ _ _ _ _ _ _ _) ?_
      intro w13 hB13 ho13 hs13
      have hS13 := hSf.only ho13 (by simp)
      refine ⟨hS13, ?_⟩
      simp only [Act.put, List.getElem_toArray, List.getElem_cons_succ, List.getElem_cons_zero, List.setIfInBounds_toArray, List.set_cons_zero, List.set_cons_succ]
      refine L_one (j := 9) (by kernel_rfl) rfl (by rfl) ?_
      simp only [Act.put, List.getElem_toArray, List.getElem_cons_succ, List.getElem_cons_zero, List.setIfInBounds_toArray, List.set_cons_zero, List.set_cons_succ]
      refine wp_yields (v := .bool false) (by kernel_rfl) ⟨hS13, ?_⟩
      simp only [Act.put, List.getElem_toArray, List.getElem_cons_succ, List.getElem_cons_zero, List.setIfInBounds_toArray, List.set_cons_zero, List.set_cons_succ]
      refine L_done (by kernel_rfl) ?_
      refine NoPanic.normal ?_
      have HB13 := Lib.hid hB13
      clear hB13 hS13 hSf
      go_wp2
      refine bodyPost_ret (results_cell_tmp rfl _ _ (w.heap.size + 2) 36 _ (0, 0) _ _ rfl rfl HB13.out hu rfl (by kernel_rfl)) rfl ?_
      obtain ⟨e1, e2⟩ := do_end H0.out h10 ((keep_x H0.out HB.out k8' (fun k hk => by simp [hk])).trans (Keep.below (b9.trans (b10.mono b9.size)) (fun k hk => H8.out.xlt k (by simp [hk])))) (fun k hk => by
        rcases hn10 k hk with h | h
        · exact .inl (H0.out.under k h)
        · have := D2.out.lt; have := b9.size; omega) ho11.drew ho13
      refine ⟨A1, c1, W1, cw1, l1, false, by rw [HA.out]; rfl, by rw [HA.out, HA.out]; exact e1, e2, (fun k hk => (hn10 k hk).imp id (fun h => by have := D2.out.lt; have := b9.size; omega)), fun hdr => ?_⟩
      subst hdr
      have : n1 = n2 := by rw [← hn1, ← hn2]
      simp [this] at hnn
    | true =>
      refine S_take (i := 6) (v := .bool true) rfl rfl (by kernel_rfl) (by kernel_rfl) (by kernel_rfl) (fun _ _ _ h => h) (Or.inl ⟨by rfl, fun w _ => by kernel_rfl⟩) hSf ?_
      simp only [Act.put, List.getElem_toArray, List.getElem_cons_succ, List.getElem_cons_zero, List.setIfInBounds_toArray, List.set_cons_zero, List.set_cons_succ]
      refine S_take (i := 7) (v := .bool true) rfl rfl (by kernel_rfl) (by kernel_rfl) (by kernel_rfl) (fun _ _ _ h => h) (Or.inl ⟨by rfl, fun w _ => by kernel_rfl⟩) hSf ?_
      simp only [Act.put, List.getElem_toArray, List.getElem_cons_succ, List.getElem_cons_zero, List.setIfInBounds_toArray, List.set_cons_zero, List.set_cons_succ]
      refine L_one (j := 8) (by kernel_rfl) rfl (by rfl) ?_
      simp only [Act.put, List.getElem_toArray, List.getElem_cons_succ, List.getElem_cons_zero, List.setIfInBounds_toArray, List.set_cons_zero, List.set_cons_succ]
      refine wp_store_blk 36 (.tmp 6) (.tmp 87) (by rfl) (w.heap.size + 2) _ (rv A1 c1 W1 cw1 l1 (r.write o.n (Sec.full o.b hb))) (by rfl) (by rfl) hB6 rfl rdisk_size (rl_one _ _ _ _ _ _ _ _ _ _) ?_
      intro w13 hB13 ho13 hs13
      have hS13 := hSf.only ho13 (by simp)
      refine ⟨hS13, ?_⟩
      simp only [Act.put, List.getElem_toArray, List.getElem_cons_succ, List.getElem_cons_zero, List.setIfInBounds_toArray, List.set_cons_zero, List.set_cons_succ]
      refine L_one (j := 9) (by kernel_rfl) rfl (by rfl) ?_
      simp only [Act.put, List.getElem_toArray, List.getElem_cons_succ, List.getElem_cons_zero, List.setIfInBounds_toArray, List.set_cons_zero, List.set_cons_succ]
      refine wp_yields (v := .bool true) (by kernel_rfl) ⟨hS13, ?_⟩
      simp only [Act.put, List.getElem_toArray, List.getElem_cons_succ, List.getElem_cons_zero, List.setIfInBounds_toArray, List.set_cons_zero, List.set_cons_succ]
      refine L_done (by kernel_rfl) ?_
      refine NoPanic.normal ?_
      have HB13 := Lib.hid hB13
      clear hB13 hS13 hSf
      go_wp2
      refine bodyPost_ret (results_cell_tmp rfl _ _ (w.heap.size + 2) 36 _ (0, 0) _ _ rfl rfl HB13.out hu rfl (by kernel_rfl)) rfl ?_
      obtain ⟨e1, e2⟩ := do_end H0.out h10 ((keep_x H0.out HB.out k8' (fun k hk => by simp [hk])).trans (Keep.below (b9.trans (b10.mono b9.size)) (fun k hk => H8.out.xlt k (by simp [hk])))) (fun k hk => by
        rcases hn10 k hk with h | h
        · exact .inl (H0.out.under k h)
        · have := D2.out.lt; have := b9.size; omega) ho11.drew ho13
      refine ⟨A1, c1, W1, cw1, l1, true, by rw [HA.out]; rfl, by rw [HA.out, HA.out]; exact e1, e2, (fun k hk => (hn10 k hk).imp id (fun h => by have := D2.out.lt; have := b9.size; omega)), fun hdr => ?_⟩
      subst hdr
      rfl
  · simp only [Act.put, List.getElem_toArray, List.getElem_cons_succ, List.getElem_cons_zero, List.setIfInBounds_toArray, List.set_cons_zero, List.set_cons_succ]
    refine wp_called (by kernel_rfl) (full_any o.b hb _) ?_
    rintro e w9 ⟨rfl, b9'⟩
    have b9 : Below w8.heap.size w8 w9 := below_drew' b9'
    have hS9 : Blk w9 (w.heap.size + 1) 40 o.cs.toArray := D1.out.below b9 D1.out.lt
    have hD9 : Blk w9 w.heap.size 36 (rv AA c AW cw l r).toArray := D0.out.below b9 D0.out.lt
    refine ⟨_, rfl, hS9, ?_⟩
    simp only [Act.put, List.getElem_toArray, List.getElem_cons_succ, List.getElem_cons_zero, List.setIfInBounds_toArray, List.set_cons_zero, List.set_cons_succ]
    refine L_one (j := 0) (by kernel_rfl) rfl (by rfl) ?_
    simp only [Act.put, List.getElem_toArray, List.getElem_cons_succ, List.getElem_cons_zero, List.setIfInBounds_toArray, List.set_cons_zero, List.set_cons_succ]
    refine wp_yields (exec_load_blk 36 (.tmp 4) rfl w.heap.size (rv AA c AW cw l r) _ rfl hD9 hu rfl rdisk_size) ⟨hS9, ?_⟩
    simp only [Act.put, List.getElem_toArray, List.getElem_cons_succ, List.getElem_cons_zero, List.setIfInBounds_toArray, List.set_cons_zero, List.set_cons_succ]
    have H9 := Lib.hid (H8.out.below b9)
    refine L_one (j := 6) (by kernel_rfl) rfl (by rfl) ?_
    simp only [Act.put, List.getElem_toArray, List.getElem_cons_succ, List.getElem_cons_zero, List.setIfInBounds_toArray, List.set_cons_zero, List.set_cons_succ]
    refine wp_called (by kernel_rfl) (two_put H9.out o.n (Sec.full o.b hb) hr) ?_
    rintro e w10 ⟨A1, c1, W1, cw1, l1, rfl, h10, b10, hn10⟩
    have hD10 := hD9.below b10 hD9.lt
    have hS2 := hS9.below b10 hS9.lt
    refine ⟨_, rfl, hS2, ?_⟩
    simp only [Act.put, List.getElem_toArray, List.getElem_cons_succ, List.getElem_cons_zero, List.setIfInBounds_toArray, List.set_cons_zero, List.set_cons_succ]
    refine S_take (i := 7) (v := .tuple #[.agg (rv A1 c1 W1 cw1 l1 (r.write o.n (Sec.full o.b hb))).toArray, .int .i64 (r.writeErr o.n)]) rfl rfl (by kernel_rfl) (by kernel_rfl) (by kernel_rfl) (fun _ _ _ h => h) (Or.inl ⟨by rfl, fun w _ => by kernel_rfl⟩) hS2 ?_
    simp only [Act.put, List.getElem_toArray, List.getElem_cons_succ, List.getElem_cons_zero, List.setIfInBounds_toArray, List.set_cons_zero, List.set_cons_succ]
    refine S_take (i := 8) (v := .agg (rv A1 c1 W1 cw1 l1 (r.write o.n (Sec.full o.b hb))).toArray) rfl rfl (by kernel_rfl) (by kernel_rfl) (by kernel_rfl) (fun _ _ _ h => h) (Or.inl ⟨by rfl, fun w _ => by kernel_rfl⟩) hS2 ?_
    simp only [Act.put, List.getElem_toArray, List.getElem_cons_succ, List.getElem_cons_zero, List.setIfInBounds_toArray, List.set_cons_zero, List.set_cons_succ]
    refine S_take (i := 9) (v := .int .i64 (r.writeErr o.n)) rfl rfl (by kernel_rfl) (by kernel_rfl) (by kernel_rfl) (fun _ _ _ h => h) (Or.inl ⟨by rfl, fun w _ => by kernel_rfl⟩) hS2 ?_
    simp only [Act.put, List.getElem_toArray, List.getElem_cons_succ, List.getElem_cons_zero, List.setIfInBounds_toArray, List.set_cons_zero, List.set_cons_succ]
    refine L_one (j := 10) (by kernel_rfl) rfl (by rfl) ?_
    simp only [Act.put, List.getElem_toArray, List.getElem_cons_succ, List.getElem_cons_zero, List.setIfInBounds_toArray, List.set_cons_zero, List.set_cons_succ]
    refine wp_store_blk 36 (.tmp 4) (.tmp 53) (by rfl) w.heap.size _ (rv A1 c1 W1 cw1 l1 (r.write o.n (Sec.full o.b hb))) (by rfl) (by rfl) hD10 rfl rdisk_size (rl_one _ _ _ _ _ _ _ _ _ _) ?_
    intro w11 hB11 ho11 hs11
    have hS11 := hS2.only ho11 (by simp)
    refine ⟨hS11, ?_⟩
    simp only [Act.put, List.getElem_toArray, List.getElem_cons_succ, List.getElem_cons_zero, List.setIfInBounds_toArray, List.set_cons_zero, List.set_cons_succ]
    refine L_one (j := 11) (by kernel_rfl) rfl (by rfl) ?_
    simp only [Act.put, List.getElem_toArray, List.getElem_cons_succ, List.getElem_cons_zero, List.setIfInBounds_toArray, List.set_cons_zero, List.set_cons_succ]
    refine wp_yields (v := .int .i64 (r.writeErr o.n)) (by kernel_rfl) ⟨hS11, ?_⟩
    simp only [Act.put, List.getElem_toArray, List.getElem_cons_succ, List.getElem_cons_zero, List.setIfInBounds_toArray, List.set_cons_zero, List.set_cons_succ]
    refine L_done (by kernel_rfl) ?_
    refine NoPanic.normal ?_
    go_wp2
    have hB6 := ((D2.out.below b9 D2.out.lt).below b10 (Nat.lt_of_lt_of_le D2.out.lt b9.size)).only ho11 (by simp)
    generalize hn1 : d.writeErr o.n = n1
    generalize hn2 : r.writeErr o.n = n2
    refine any_beginL (fun w' => Blk w' w.heap.size 36 (rv A1 c1 W1 cw1 l1 (r.write o.n (Sec.full o.b hb))).toArray) 99 (by kernel_rfl) ?_
    have hSf : Blk w11.drew w.heap.size 36 (rv A1 c1 W1 cw1 l1 (r.write o.n (Sec.full o.b hb))).toArray := hB11
    refine S_take (i := 0) (v := .agg (rv A1 c1 W1 cw1 l1 (r.write o.n (Sec.full o.b hb))).toArray) rfl rfl (by kernel_rfl) (by kernel_rfl) (by kernel_rfl) (fun _ _ _ h => h) (Or.inl ⟨by rfl, fun w hw => exec_load_blk 36 (.tmp 4) rfl _ _ _ rfl hw hu rfl rdisk_size⟩) hSf ?_
    simp only [Act.put, List.getElem_toArray, List.getElem_cons_succ, List.getElem_cons_zero, List.setIfInBounds_toArray, List.set_cons_zero, List.set_cons_succ]
    refine S_take (i := 1) (v := errV n1) rfl rfl (by kernel_rfl) (by kernel_rfl) (by kernel_rfl) (fun _ _ _ h => h) (Or.inl ⟨by rfl, fun w _ => by kernel_rfl⟩) hSf ?_
    simp only [Act.put, List.getElem_toArray, List.getElem_cons_succ, List.getElem_cons_zero, List.setIfInBounds_toArray, List.set_cons_zero, List.set_cons_succ]
    refine S_take (i := 3) (v := .int .i64 n2) rfl rfl (by kernel_rfl) (by kernel_rfl) (by kernel_rfl) (fun _ _ _ h => h) (Or.inl ⟨by rfl, fun w _ => by kernel_rfl⟩) hSf ?_
    simp only [Act.put, List.getElem_toArray, List.getElem_cons_succ, List.getElem_cons_zero, List.setIfInBounds_toArray, List.set_cons_zero, List.set_cons_succ]
    refine L_one (j := 2) (by kernel_rfl) rfl (by rfl) ?_
    simp only [Act.put, List.getElem_toArray, List.getElem_cons_succ, List.getElem_cons_zero, List.setIfInBounds_toArray, List.set_cons_zero, List.set_cons_succ]
    refine wp_called (by kernel_rfl) (num_any n1 _) ?_
    rintro e w12 ⟨rfl, hw12⟩
    subst hw12
    refine ⟨_, rfl, hSf, ?_⟩
    simp only [Act.put, List.getElem_toArray, List.getElem_cons_succ, List.getElem_cons_zero, List.setIfInBounds_toArray, List.set_cons_zero, List.set_cons_succ]
    have hb0 : ((n1 : Int) == (n2 : Int)) = (n1 == n2) := by
      rw [Bool.eq_iff_iff]
      simp only [beq_iff_eq]
      omega
    refine S_take (i := 4) (v := .bool (n1 == n2)) rfl rfl (by kernel_rfl) (by kernel_rfl) (by kernel_rfl) (fun _ _ _ h => h) (Or.inl ⟨by rfl, fun w _ => by go_simp⟩) hSf ?_
    simp only [Act.put, List.getElem_toArray, List.getElem_cons_succ, List.getElem_cons_zero, List.setIfInBounds_toArray, List.set_cons_zero, List.set_cons_succ]
    refine S_take (i := 5) (v := .bool (n1 == n2)) rfl rfl (by kernel_rfl) (by kernel_rfl) (by kernel_rfl) (fun _ _ _ h => h) (Or.inl ⟨by rfl, fun w _ => by kernel_rfl⟩) hSf ?_
    simp only [Act.put, List.getElem_toArray, List.getElem_cons_succ, List.getElem_cons_zero, List.setIfInBounds_toArray, List.set_cons_zero, List.set_cons_succ]
    cases hnn : (n1 == n2) with
    | false =>
      refine S_take (i := 6) (v := undef) rfl rfl (by kernel_rfl) (by kernel_rfl) (by kernel_rfl) (fun _ _ _ h => h) (Or.inr ⟨by rfl, rfl⟩) hSf ?_
      simp only [Act.put, List.getElem_toArray, List.getElem_cons_succ, List.getElem_cons_zero, List.setIfInBounds_toArray, List.set_cons_zero, List.set_cons_succ]
      refine S_take (i := 7) (v := .bool false) rfl rfl (by kernel_rfl) (by kernel_rfl) (by kernel_rfl) (fun _ _ _ h => h) (Or.inl ⟨by rfl, fun w _ => by kernel_rfl⟩) hSf ?_
      simp only [Act.put, List.getElem_toArray, List.getElem_cons_succ, List.getElem_cons_zero, List.setIfInBounds_toArray, List.set_cons_zero, List.set_cons_succ]
      refine L_one (j := 8) (by kernel_rfl) rfl (by rfl) ?_
      simp only [Act.put, List.getElem_toArray, List.getElem_cons_succ, List.getElem_cons_zero, List.setIfInBounds_toArray, List.set_cons_zero, List.set_cons_succ]
      refine wp_store_blk 36 (.tmp 6) (.tmp 87) (by rfl) (w.heap.size + 2) _ (rv A1 c1 W1 cw1 l1 (r.write o.n (Sec.full o.b hb))) (by rfl) (by rfl) hB6 rfl rdisk_size (rl_one _ _ _ _ _ _ _ _ _ _) ?_
      intro w13 hB13 ho13 hs13
      have hS13 := hSf.only ho13 (by simp)
      refine ⟨hS13, ?_⟩
      simp only [Act.put, List.getElem_toArray, List.getElem_cons_succ, List.getElem_cons_zero, List.setIfInBounds_toArray, List.set_cons_zero, List.set_cons_succ]
      refine L_one (j := 9) (by kernel_rfl) rfl (by rfl) ?_
      simp only [Act.put, List.getElem_toArray, List.getElem_cons_succ, List.getElem_cons_zero, List.setIfInBounds_toArray, List.set_cons_zero, List.set_cons_succ]
      refine wp_yields (v := .bool false) (by kernel_rfl) ⟨hS13, ?_⟩
      simp only [Act.put, List.getElem_toArray, List.getElem_cons_succ, List.getElem_cons_zero, List.setIfInBounds_toArray, List.set_cons_zero, List.set_cons_succ]
      refine L_done (by kernel_rfl) ?_
      refine NoPanic.normal ?_
      have HB13 := Lib.hid hB13
      clear hB13 hS13 hSf
      go_wp2
      refine bodyPost_ret (results_cell_tmp rfl _ _ (w.heap.size + 2) 36 _ (0, 0) _ _ rfl rfl HB13.out hu rfl (by kernel_rfl)) rfl ?_
      obtain ⟨e1, e2⟩ := do_end H0.out h10 ((keep_x H0.out HB.out k8' (fun k hk => by simp [hk])).trans (Keep.below (b9.trans (b10.mono b9.size)) (fun k hk => H8.out.xlt k (by simp [hk])))) (fun k hk => by
        rcases hn10 k hk with h | h
        · exact .inl (H0.out.under k h)
        · have := D2.out.lt; have := b9.size; omega) ho11.drew ho13
      refine ⟨A1, c1, W1, cw1, l1, false, by rw [HA.out]; rfl, by rw [HA.out, HA.out]; exact e1, e2, (fun k hk => (hn10 k hk).imp id (fun h => by have := D2.out.lt; have := b9.size; omega)), fun hdr => ?_⟩
      subst hdr
      have : n1 = n2 := by rw [← hn1, ← hn2]
      simp [this] at hnn
    | true =>
      refine S_take (i := 6) (v := .bool true) rfl rfl (by kernel_rfl) (by kernel_rfl) (by kernel_rfl) (fun _ _ _ h => h) (Or.inl ⟨by rfl, fun w _ => by kernel_rfl⟩) hSf ?_
      simp only [Act.put, List.getElem_toArray, List.getElem_cons_succ, List.getElem_cons_zero, List.setIfInBounds_toArray, List.set_cons_zero, List.set_cons_succ]
      refine S_take (i := 7) (v := .bool true) rfl rfl (by kernel_rfl) (by kernel_rfl) (by kernel_rfl) (fun _ _ _ h => h) (Or.inl ⟨by rfl, fun w _ => by kernel_rfl⟩) hSf ?_
      simp only [Act.put, List.getElem_toArray, List.getElem_cons_succ, List.getElem_cons_zero, List.setIfInBounds_toArray, List.set_cons_zero, List.set_cons_succ]
      refine L_one (j := 8) (by kernel_rfl) rfl (by rfl) ?_
      simp only [Act.put, List.getElem_toArray, List.getElem_cons_succ, List.getElem_cons_zero, List.setIfInBounds_toArray, List.set_cons_zero, List.set_cons_succ]
      refine wp_store_blk 36 (.tmp 6) (.tmp 87) (by rfl) (w.heap.size + 2) _ (rv A1 c1 W1 cw1 l1 (r.write o.n (Sec.full o.b hb))) (by rfl) (by rfl) hB6 rfl rdisk_size (rl_one _ _ _ _ _ _ _ _ _ _) ?_
      intro w13 hB13 ho13 hs13
      have hS13 := hSf.only ho13 (by simp)
      refine ⟨hS13, ?_⟩
      simp only [Act.put, List.getElem_toArray, List.getElem_cons_succ, List.getElem_cons_zero, List.setIfInBounds_toArray, List.set_cons_zero, List.set_cons_succ]
      refine L_one (j := 9) (by kernel_rfl) rfl (by rfl) ?_
      simp only [Act.put, List.getElem_toArray, List.getElem_cons_succ, List.getElem_cons_zero, List.setIfInBounds_toArray, List.set_cons_zero, List.set_cons_succ]
      refine wp_yields (v := .bool true) (by kernel_rfl) ⟨hS13, ?_⟩
      simp only [Act.put, List.getElem_toArray, List.getElem_cons_succ, List.getElem_cons_zero, List.setIfInBounds_toArray, List.set_cons_zero, List.set_cons_succ]
      refine L_done (by kernel_rfl) ?_
      refine NoPanic.normal ?_
      have HB13 := Lib.hid hB13
      clear hB13 hS13 hSf
      go_wp2
      refine bodyPost_ret (results_cell_tmp rfl _ _ (w.heap.size + 2) 36 _ (0, 0) _ _ rfl rfl HB13.out hu rfl (by kernel_rfl)) rfl ?_
      obtain ⟨e1, e2⟩ := do_end H0.out h10 ((keep_x H0.out HB.out k8' (fun k hk => by simp [hk])).trans (Keep.below (b9.trans (b10.mono b9.size)) (fun k hk => H8.out.xlt k (by simp [hk])))) (fun k hk => by
        rcases hn10 k hk with h | h
        · exact .inl (H0.out.under k h)
        · have := D2.out.lt; have := b9.size; omega) ho11.drew ho13
      refine ⟨A1, c1, W1, cw1, l1, true, by rw [HA.out]; rfl, by rw [HA.out, HA.out]; exact e1, e2, (fun k hk => (hn10 k hk).imp id (fun h => by have := D2.out.lt; have := b9.size; omega)), fun hdr => ?_⟩
      subst hdr
      rfl
end
end Go.Proofs.Ytgcghoalepkdfaa
