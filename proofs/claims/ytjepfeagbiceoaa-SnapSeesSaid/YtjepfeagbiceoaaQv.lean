/-
  An object as the program's, of its own memory. Conditions: the object reads as it is said to, and is as large as is looked at.
-/
import Derived.Test.YtjepfeagbiceoaaQy
namespace Go.Proofs.Ytjepfeagbiceoaa
open Go.RowKit Go.BigFrame
set_option linter.unusedSimpArgs false
set_option linter.unusedVariables false
set_option maxRecDepth 100000
theorem L_two {P : Program} {ops : Array Oper} {Q : Exit → Act → World → Prop} {md : Region.Mode} {S : World → Prop} {L : Nat} {i j : Nat} {oi oj : Oper} {f : Nat} {l : Array Bool} {a : Act} {w : World} (hr : Region.ready md ops l = [i, j]) (hoi : ops[i]? = some oi) (hoj : ops[j]? = some oj) (hwi : Region.wanted oi (yielded ops a.tmps) = true) (hwj : Region.wanted oj (yielded ops a.tmps) = true)
    (hi : Oper.wp P oi a w (fun a' w' => S w' ∧ wpAnyL P md ops Q S L f (l.setIfInBounds i true) a' w') Q) (hj : Oper.wp P oj a w (fun a' w' => S w' ∧ wpAnyL P md ops Q S L f (l.setIfInBounds j true) a' w') Q) : wpAnyL P md ops Q S L (f + 1) l a w := by
  refine ⟨fun h0 => absurd (hr ▸ h0) (by simp), fun k hk => ?_⟩
  rw [hr] at hk
  simp only [List.mem_cons, List.not_mem_nil, or_false] at hk
  rcases hk with rfl | rfl
  · refine wpOp_step hoi (fun K hK => ?_)
    rw [if_pos hwi]
    exact Oper.wp_mono (fun a' w' h' => hK a' w' ⟨fun _ => h'.1, h'.2⟩) hi
  · refine wpOp_step hoj (fun K hK => ?_)
    rw [if_pos hwj]
    exact Oper.wp_mono (fun a' w' h' => hK a' w' ⟨fun _ => h'.1, h'.2⟩) hj
/-- memory while an object is made over -/
structure Progs (w : World) (o q : OA) (g : Nat) (wr : World) : Prop where
  blk : Blk wr g 36 #[.bool q.th, .slice q.D q.dt.length q.cd, .int .i64 q.sq, .slice q.C q.cl.length q.cc]
  res : Blk wr (w.heap.size + 1) 36 #[.bool false, .slice none 0 0, .int .i64 0, .slice none 0 0]
  src : Blk wr w.heap.size 25 #[.bool o.th, .slice o.D o.dt.length o.cd, .int .i64 o.sq, .slice o.C o.cl.length o.cc]
  own : q.N wr w.heap.size
  bel : Below w.heap.size w wr
  far : w.heap.size + 2 ≤ g
theorem Progs.next {w wr wr' : World} {o q : OA} {g : Nat} (h : Progs w o q g wr) (hb : Below wr.heap.size wr wr') : Progs w o q g wr' :=
  ⟨h.blk.of (hb.block _ h.blk.lt), h.res.of (hb.block _ h.res.lt), h.src.of (hb.block _ h.src.lt), OA.N.below h.own hb, h.bel.trans (hb.mono h.bel.size), h.far⟩
/-- a clone more -/
theorem Progs.more {w W1 W3 W4 : World} {o q : OA} {g c4 : Nat} {A4 : Option Addr} {c : CA} (h : Progs w o q g W1) (hc : CA.N c W1 w.heap.size) (hfs : ∀ a ∈ q.cl.map CA.sR, ∀ k ∈ a, k ∉ c.sR) (hfd : ∀ a ∈ rowOf (.slice q.D 0 0) :: q.cl.map CA.dR, ∀ k ∈ a, k ∉ c.dR)
    (h3 : OwnC 79 W3 w.heap.size (.slice A4 (q.cl ++ [c]).length c4) (q.cl ++ [c])) (g3 : (W1.alloc (.cells c.cells.toArray 79)).grownBy W3 (Value.slice q.C q.cl.length q.cc).ownBlock)
    (ho : Only [g] W3 W4) (K4 : Blk W4 g 36 #[.bool q.th, .slice q.D q.dt.length q.cd, .int .i64 q.sq, .slice A4 (q.cl ++ [c]).length c4]) : Progs w o ⟨q.th, q.dt, q.D, q.cd, q.sq, A4, c4, q.cl ++ [c]⟩ g W4 := by
  have hrowC : (Value.slice q.C q.cl.length q.cc).ownBlock = (Value.slice q.C 0 0).ownBlock := by cases q.C <;> rfl
  rw [hrowC] at g3
  have hcl : ∀ k, (Value.slice q.C 0 0).ownBlock = some k → w.heap.size ≤ k ∧ ∃ cs, Blk W1 k 79 cs := fun k hk => by
    obtain ⟨x1, x2, x3⟩ := OA.P.cU h.own k (mem_rowOf.2 hk)
    exact ⟨x1, x3⟩
  have hsz := g3.size
  rw [World.size_alloc] at hsz
  have hkeep : ∀ k t cs, Blk W1 k t cs → t ≠ 79 → k ≠ g → W4.heap[k]? = W1.heap[k]? := fun k t cs hk ht hne => by
    have hkl := hk.lt
    have e1 : W3.heap[k]? = W1.heap[k]? := (g3.block k (by rw [World.size_alloc]; omega) (fun e => by
      obtain ⟨-, cs', hb⟩ := hcl k e.symm
      exact hk.ne_ hb ht rfl)).trans (Below.heap_alloc W1 _ k hkl)
    exact (ho.block k (by omega) (fun hm => by simp at hm; exact hne hm)).trans e1
  have hng : ∀ k t cs, Blk W1 k t cs → t ≠ 36 → k ≠ g := fun k t cs hk ht e => by subst e; exact hk.ne_ h.blk ht rfl
  have hCN : ∀ {c' : CA}, c'.N W1 w.heap.size → c'.N W4 w.heap.size := fun hc' => hc'.of (fun k hm => by obtain ⟨_, _, cs, hb⟩ := hc'.sU k hm; exact hkeep k _ cs hb (by decide) (hng k _ cs hb (by decide))) (fun k hm => by obtain ⟨_, _, cs, hb⟩ := hc'.dU k hm; exact hkeep k _ cs hb (by decide) (hng k _ cs hb (by decide)))
  have hfar := h.far
  refine ⟨K4, h.res.of (hkeep _ _ _ h.res (by decide) (by omega)), h.src.of (hkeep _ _ _ h.src (by decide) (by omega)), ⟨row_of h.own.dt fun k hk => by obtain ⟨cs, hb⟩ := own_ty h.own.dt hk; exact hkeep k _ cs hb (by decide) (hng k _ cs hb (by decide)), h.own.ok, ?_, fun c' hc' => ?_, h.own.q1, h.own.q2, ?_, ?_⟩, ?_, h.far⟩
  · rw [List.append_nil]
    exact row_of h3 fun k hk => ho.block k (row_under h3 k hk) (fun hm => by
      simp at hm
      subst hm
      obtain ⟨cs, hb⟩ := own_ty h3 hk
      have hgl := h.blk.lt
      refine hb.ne_ (h.blk.of ((g3.block _ (by rw [World.size_alloc]; omega) (fun e => ?_)).trans (Below.heap_alloc W1 _ _ (by omega)))) (by decide) rfl
      obtain ⟨-, cs', hb'⟩ := hcl _ e.symm
      exact hb'.ne_ h.blk (by decide) rfl)
  · rcases List.mem_append.1 hc' with hm | hm
    · exact hCN (h.own.cl c' hm)
    · simp at hm
      subst hm
      exact hCN hc
  · have := h.own.dD.snoc (x := c.dR) hfd
    simpa using this
  · have := h.own.dS.snoc (x := c.sR) hfs
    simpa using this
  · have hb1 : Below w.heap.size w (W1.alloc (.cells c.cells.toArray 79)) := h.bel.alloc h.bel.size _
    have hb3 : Below w.heap.size w W3 := hb1.grown g3 (by rw [World.size_alloc]; have := h.bel.size; omega) (fun k e => (hcl k e).1)
    exact hb3.trans (ho.below (B := w.heap.size) (fun k hk => by simp at hk; omega) hb3.size)
/-- the two variables of program, and all behind them new -/
structure Pre (w : World) (o : OA) (wr : World) : Prop where
  res : Blk wr (w.heap.size + 1) 36 #[.bool false, .slice none 0 0, .int .i64 0, .slice none 0 0]
  src : Blk wr w.heap.size 25 #[.bool o.th, .slice o.D o.dt.length o.cd, .int .i64 o.sq, .slice o.C o.cl.length o.cc]
  bel : Below w.heap.size w wr
theorem Pre.next {w wr wr' : World} {o : OA} (h : Pre w o wr) (hb : Below wr.heap.size wr wr') : Pre w o wr' :=
  ⟨h.res.of (hb.block _ h.res.lt), h.src.of (hb.block _ h.src.lt), h.bel.trans (hb.mono h.bel.size)⟩
theorem Pre.grown {w wr wr' : World} {o : OA} {row : Option Nat} (h : Pre w o wr) (hg : wr.grownBy wr' row) (hr : ∀ k, row = some k → w.heap.size + 2 ≤ k) : Pre w o wr' :=
  ⟨h.res.grown hg (fun e => by have := hr _ e.symm; omega), h.src.grown hg (fun e => by have := hr _ e.symm; omega), h.bel.grown hg h.bel.size (fun k e => by have := hr k e; omega)⟩
theorem Pre.done {w W1 W2 : World} {o : OA} {g c' : Nat} {D' : Option Addr} {cs : Array Value} (h : Pre w o W1) (hR : o.R w) (hg : w.heap.size + 2 ≤ g) (K1 : Blk W1 g 36 cs) (hD : Own W1 w.heap.size (.slice D' o.dt.length c') o.dt.length o.dt) (ho : Only [g] W1 W2) (K2 : Blk W2 g 36 #[.bool o.th, .slice D' o.dt.length c', .int .i64 o.sq, .slice none 0 0]) :
    Progs w o ⟨o.th, o.dt, D', c', o.sq, none, 0, []⟩ g W2 := by
  refine ⟨K2, h.res.only ho (fun hm => by simp at hm; omega), h.src.only ho (fun hm => by simp at hm; omega), ⟨?_, hR.dt.2, OwnC.nil _ _ _, fun c hc => (by cases hc), hR.q1, hR.q2, List.pairwise_singleton _ _, List.Pairwise.nil⟩, h.bel.trans (ho.below (B := w.heap.size) (fun k hk => by simp at hk; omega) h.bel.size), hg⟩
  exact row_of hD fun k hk => ho.block k (row_under hD k hk) (fun hm => by simp at hm; subst hm; obtain ⟨cs2, hb⟩ := own_ty hD hk; exact hb.ne_ K1 (by decide) rfl)
/-- the first clones of an object are the program's -/
structure Prog1 (w : World) (o : OA) (g k : Nat) (q : OA) (wr : World) : Prop where
  pr : Progs w o q g wr
  th : q.th = o.th
  dt : q.dt = o.dt
  sq : q.sq = o.sq
  vs : q.cl.map CA.v = (o.cl.take k).map CA.v
set_option maxHeartbeats 32000000 in
theorem program_any {w : World} (o : OA) (h : o.R w) (hL : o.Lm) : Calls Try.prog 12 #[.agg o.cs] w (LikeTo w o) := by
  have H := Lib.hid (And.intro h hL)
  obtain ⟨w0, hw0⟩ : ∃ w0, w0 = (w.alloc (.cells o.cs 25)).alloc (.cells #[.bool false, .slice none 0 0, .int .i64 0, .slice none 0 0] 36) := ⟨_, rfl⟩
  have hbel : Below w.heap.size w w0 := by rw [hw0]; exact ((Below.refl _ w).alloc (Nat.le_refl _) _).alloc (by simp) _
  have b0 : Blk w0 w.heap.size 25 o.cs := by rw [hw0]; exact (Blk.new w _ _).alloc _
  have b1 : Blk w0 (w.heap.size + 1) 36 #[.bool false, .slice none 0 0, .int .i64 0, .slice none 0 0] := by
    have := Blk.new (w.alloc (.cells o.cs 25)) 36 #[.bool false, .slice none 0 0, .int .i64 0, .slice none 0 0]
    rw [hw0]
    simpa using this
  have hz0 : w0.heap.size = w.heap.size + 2 := by rw [hw0]; simp
  have HWE := Lib.hid hw0
  have hpre : Pre w o w0 := ⟨b1, b0, hbel⟩
  obtain ⟨s0, hs0⟩ : ∃ s0, s0 = w0.heap.size := ⟨_, rfl⟩
  have HPR : Hid (Pre w o w0 ∧ s0 = w.heap.size + 2 ∧ s0 = w0.heap.size) := Lib.hid ⟨hpre, by omega, hs0⟩
  unfold OA.cs at HWE
  have hcs : o.cs = #[.bool o.th, .slice o.D o.dt.length o.cd, .int .i64 o.sq, .slice o.C o.cl.length o.cc] := rfl
  rw [hcs]
  clear h hL hw0 hbel b0 b1 hcs hz0 hpre hs0
  have hdl := H.out.2.dt
  have hcn := H.out.2.cn
  go_enter Try.func12, Try.ntmps12
  go_upto_region 1 with (fail)
  rw [← HWE.out]
  refine Code.wp_mono (Q := fun e a' W' => e = .normal ∧ ∃ (g3 c' : Nat) (D' : Option Addr) (v8 : Value), a' = { tmps := #[.agg #[.bool o.th, .slice o.D o.dt.length o.cd, .int .i64 o.sq, .slice o.C o.cl.length o.cc], .pointer (some ⟨w.heap.size, 0, none⟩), .pointer (some ⟨w.heap.size + 1, 0, none⟩), .pointer (some ⟨g3, 0, none⟩), undef, undef, .pointer (some ⟨w.heap.size, 0, none⟩), .bool o.th, v8, .pointer (some ⟨w.heap.size, 1, none⟩), .slice o.D o.dt.length o.cd, .slice D' o.dt.length c', .pointer (some ⟨w.heap.size, 2, none⟩), .int .i64 o.sq, .agg #[.bool o.th, .slice D' o.dt.length c', .int .i64 o.sq, .slice none 0 0], undef, undef, undef, undef, undef, undef, undef, undef, undef, undef, undef, undef, undef, undef, undef, undef, undef, undef, undef, undef, undef, undef, undef], defers := [] } ∧ Progs w o ⟨o.th, o.dt, D', c', o.sq, none, 0, []⟩ g3 W') ?_ ?_
  rotate_left
  -- {R1
  · obtain ⟨i0, hi0, hzz0, hzz1, hzz2⟩ := info_parts byte_info
    have HC : Hid (∀ w' : World, Blk w' w.heap.size 25 #[.bool o.th, .slice o.D o.dt.length o.cd, .int .i64 o.sq, .slice o.C o.cl.length o.cc] → w'.cell? ⟨w.heap.size, 0, none⟩ = some (.bool o.th) ∧ w'.cell? ⟨w.heap.size, 1, none⟩ = some (.slice o.D o.dt.length o.cd) ∧ w'.cell? ⟨w.heap.size, 2, none⟩ = some (.int .i64 o.sq)) := Lib.hid fun w' h => ⟨h.cell 0, h.cell 1, h.cell 2⟩
    have hS7 : Blk w0.drew w.heap.size 25 #[.bool o.th, .slice o.D o.dt.length o.cd, .int .i64 o.sq, .slice o.C o.cl.length o.cc] := HPR.out.1.src.drew
    have hb0 : Below w0.heap.size w0 w0.drew := (Below.refl _ w0).drew
    have HPW : Hid (∀ W : World, Below w0.heap.size w0 W → Pre w o W ∧ Blk W w.heap.size 25 #[.bool o.th, .slice o.D o.dt.length o.cd, .int .i64 o.sq, .slice o.C o.cl.length o.cc] ∧ Bytes W W.heap.size o.D o.dt.length o.dt ∧ w.heap.size + 2 ≤ W.heap.size ∧ w.heap.size ≤ W.heap.size) := Lib.hid fun W hb => by
      have h1 := HPR.out.1.next hb
      have h2 := h1.res.lt
      exact ⟨h1, h1.src, (H.out.1.dt.since h1.bel).more h1.bel.size, by omega, by omega⟩
    refine any_beginL (fun w' => Blk w' w.heap.size 25 #[.bool o.th, .slice o.D o.dt.length o.cd, .int .i64 o.sq, .slice o.C o.cl.length o.cc]) 10 (by kernel_rfl) ?_
    refine L_take (i := 0) (v := .pointer (some ⟨w.heap.size, 0, none⟩)) rfl rfl (by kernel_rfl) (by kernel_rfl) (by kernel_rfl) (by kernel_rfl) (fun _ _ _ h => h) (Or.inl ⟨by rfl, fun w hw => by kernel_rfl⟩) hS7 ?_
    simp only [Act.put, List.getElem_toArray, List.getElem_cons_succ, List.getElem_cons_zero, List.setIfInBounds_toArray, List.set_cons_zero, List.set_cons_succ]
    refine L_take (i := 1) (v := .bool o.th) rfl rfl (by kernel_rfl) (by kernel_rfl) (by kernel_rfl) (by kernel_rfl) (fun _ _ _ h => h) (Or.inl ⟨by rfl, fun w hw => by have q1 := (HC.out w hw).1; go_simp⟩) hS7 ?_
    simp only [Act.put, List.getElem_toArray, List.getElem_cons_succ, List.getElem_cons_zero, List.setIfInBounds_toArray, List.set_cons_zero, List.set_cons_succ]
    refine L_take (i := 3) (v := .pointer (some ⟨w.heap.size, 1, none⟩)) rfl rfl (by kernel_rfl) (by kernel_rfl) (by kernel_rfl) (by kernel_rfl) (fun _ _ _ h => h) (Or.inl ⟨by rfl, fun w hw => by go_simp⟩) hS7 ?_
    simp only [Act.put, List.getElem_toArray, List.getElem_cons_succ, List.getElem_cons_zero, List.setIfInBounds_toArray, List.set_cons_zero, List.set_cons_succ]
    refine L_take (i := 4) (v := .slice o.D o.dt.length o.cd) rfl rfl (by kernel_rfl) (by kernel_rfl) (by kernel_rfl) (by kernel_rfl) (fun _ _ _ h => h) (Or.inl ⟨by rfl, fun w hw => by have q1 := (HC.out w hw).2.1; go_simp⟩) hS7 ?_
    simp only [Act.put, List.getElem_toArray, List.getElem_cons_succ, List.getElem_cons_zero, List.setIfInBounds_toArray, List.set_cons_zero, List.set_cons_succ]
    refine L_take (i := 6) (v := .pointer (some ⟨w.heap.size, 2, none⟩)) rfl rfl (by kernel_rfl) (by kernel_rfl) (by kernel_rfl) (by kernel_rfl) (fun _ _ _ h => h) (Or.inl ⟨by rfl, fun w hw => by go_simp⟩) hS7 ?_
    simp only [Act.put, List.getElem_toArray, List.getElem_cons_succ, List.getElem_cons_zero, List.setIfInBounds_toArray, List.set_cons_zero, List.set_cons_succ]
    refine L_take (i := 7) (v := .int .i64 o.sq) rfl rfl (by kernel_rfl) (by kernel_rfl) (by kernel_rfl) (by kernel_rfl) (fun _ _ _ h => h) (Or.inl ⟨by rfl, fun w hw => by have q1 := (HC.out w hw).2.2; go_simp⟩) hS7 ?_
    simp only [Act.put, List.getElem_toArray, List.getElem_cons_succ, List.getElem_cons_zero, List.setIfInBounds_toArray, List.set_cons_zero, List.set_cons_succ]
    refine L_two (i := 2) (j := 9) (by kernel_rfl) rfl rfl (by rfl) (by rfl) ?_ ?_
    · simp only [Act.put, List.getElem_toArray, List.getElem_cons_succ, List.getElem_cons_zero, List.setIfInBounds_toArray, List.set_cons_zero, List.set_cons_succ]
      obtain ⟨W1, hW1⟩ : ∃ W1, W1 = w0.drew.alloc (.cells #[] 5) := ⟨_, rfl⟩
      have hx1 : Below w0.drew.heap.size w0.drew W1 := by rw [hW1]; exact below_alloc w0.drew _
      have hb1 : Below w0.heap.size w0 W1 := hb0.trans (hx1.mono hb0.size)
      have ho8 : Own W1 w.heap.size (.slice (some ⟨w0.drew.heap.size, 0, none⟩) 0 0) 0 [] := by rw [hW1]; exact Own.new w0.drew w.heap.size (HPW.out w0.drew hb0).2.2.2.2
      have hg8 : w.heap.size + 2 ≤ w0.drew.heap.size := (HPW.out w0.drew hb0).2.2.2.1
      refine wp_ran (v := .slice (some ⟨w0.drew.heap.size, 0, none⟩) 0 0) (w' := W1) (by rw [hW1]; exact (by go_simp)) ⟨(HPW.out W1 hb1).2.1, ?_⟩
      simp only [Act.put, List.getElem_toArray, List.getElem_cons_succ, List.getElem_cons_zero, List.setIfInBounds_toArray, List.set_cons_zero, List.set_cons_succ]
      clear hW1
      refine L_two (i := 5) (j := 9) (by kernel_rfl) rfl rfl (by rfl) (by rfl) ?_ ?_
      · simp only [Act.put, List.getElem_toArray, List.getElem_cons_succ, List.getElem_cons_zero, List.setIfInBounds_toArray, List.set_cons_zero, List.set_cons_succ]
        refine wp_append_any _ (.tmp 8) (.tmp 10) 22 rfl w.heap.size 5 i0 _ 1 1 Try.underlying22 hi0 hzz0 hzz1 hzz2 rfl (by omega) (.slice (some ⟨w0.drew.heap.size, 0, none⟩) 0 0) 0 (u8s []) rfl ho8 _ o.D o.dt.length o.cd (u8s o.dt) rfl (HPW.out W1 hb1).2.2.1.1 (oneCell_u8s _) (by simp only [maxLen]; omega) (by omega) (HPW.out W1 hb1).2.2.2.2 ?_
        intro v2 W2 hap2 hgr2 hav2
        have hoD : Own W2 w.heap.size v2 o.dt.length o.dt := by have h7 := hap2; rw [Nat.zero_add] at h7; simpa [Own, u8s] using h7
        obtain ⟨D2, c2, rfl, -⟩ := hoD.form
        have hb2 : Below w0.heap.size w0 W2 := hb1.grown hgr2 hb1.size (fun k e => by simp [Value.ownBlock] at e; have := HPR.out; omega)
        refine ⟨(HPW.out W2 hb2).2.1, ?_⟩
        simp only [Act.put, List.getElem_toArray, List.getElem_cons_succ, List.getElem_cons_zero, List.setIfInBounds_toArray, List.set_cons_zero, List.set_cons_succ]
        refine L_take (i := 8) (v := .agg #[.bool o.th, .slice D2 o.dt.length c2, .int .i64 o.sq, .slice none 0 0]) rfl rfl (by kernel_rfl) (by kernel_rfl) (by kernel_rfl) (by kernel_rfl) (fun _ _ _ h => h) (Or.inl ⟨by rfl, fun w hw => by kernel_rfl⟩) (HPW.out W2 hb2).2.1 ?_
        simp only [Act.put, List.getElem_toArray, List.getElem_cons_succ, List.getElem_cons_zero, List.setIfInBounds_toArray, List.set_cons_zero, List.set_cons_succ]
        refine L_one (j := 9) (by kernel_rfl) rfl (by rfl) ?_
        simp only [Act.put, List.getElem_toArray, List.getElem_cons_succ, List.getElem_cons_zero, List.setIfInBounds_toArray, List.set_cons_zero, List.set_cons_succ]
        obtain ⟨W3, hW3⟩ : ∃ W3, W3 = W2.alloc (.cells #[.bool false, .slice none 0 0, .int .i64 0, .slice none 0 0] 36) := ⟨_, rfl⟩
        have hx3 : Below W2.heap.size W2 W3 := by rw [hW3]; exact below_alloc W2 _
        have hb3 : Below w0.heap.size w0 W3 := hb2.trans (hx3.mono hb2.size)
        have hK : Blk W3 W2.heap.size 36 #[.bool false, .slice none 0 0, .int .i64 0, .slice none 0 0] := by rw [hW3]; exact Blk.new W2 _ _
        have hg9 : w.heap.size + 2 ≤ W2.heap.size := (HPW.out W2 hb2).2.2.2.1
        have hoD3 := Own.below hoD hx3
        refine wp_ran (v := .pointer (some ⟨W2.heap.size, 0, none⟩)) (w' := W3) (by rw [hW3]; exact (by go_simp)) ⟨(HPW.out W3 hb3).2.1, ?_⟩
        simp only [Act.put, List.getElem_toArray, List.getElem_cons_succ, List.getElem_cons_zero, List.setIfInBounds_toArray, List.set_cons_zero, List.set_cons_succ]
        clear hW3
        refine L_last (by kernel_rfl) rfl (by rfl) (by kernel_rfl) ?_
        simp only [Act.put, List.getElem_toArray, List.getElem_cons_succ, List.getElem_cons_zero, List.setIfInBounds_toArray, List.set_cons_zero, List.set_cons_succ]
        refine wp_storeq 36 (.tmp 3) (.tmp 14) rfl W2.heap.size #[.bool false, .slice none 0 0, .int .i64 0, .slice none 0 0] [.bool o.th, .slice D2 o.dt.length c2, .int .i64 o.sq, .slice none 0 0] rfl rfl hK rfl (by kernel_rfl) (fun v hv => by simp at hv; rcases hv with rfl | rfl | rfl | rfl <;> rfl) ?_
        intro W9 K9 ho9 hs9
        refine NoPanic.normal ?_
        simp only [Act.put, List.getElem_toArray, List.getElem_cons_succ, List.getElem_cons_zero, List.setIfInBounds_toArray, List.set_cons_zero, List.set_cons_succ]
        exact ⟨by first | trivial | rfl, _, _, _, _, rfl, Pre.done (HPW.out W3 hb3).1 H.out.1 hg9 hK hoD3 ho9 K9⟩
      · simp only [Act.put, List.getElem_toArray, List.getElem_cons_succ, List.getElem_cons_zero, List.setIfInBounds_toArray, List.set_cons_zero, List.set_cons_succ]
        obtain ⟨W4, hW4⟩ : ∃ W4, W4 = W1.alloc (.cells #[.bool false, .slice none 0 0, .int .i64 0, .slice none 0 0] 36) := ⟨_, rfl⟩
        have hx4 : Below W1.heap.size W1 W4 := by rw [hW4]; exact below_alloc W1 _
        have hb4 : Below w0.heap.size w0 W4 := hb1.trans (hx4.mono hb1.size)
        have hK : Blk W4 W1.heap.size 36 #[.bool false, .slice none 0 0, .int .i64 0, .slice none 0 0] := by rw [hW4]; exact Blk.new W1 _ _
        have hg9 : w.heap.size + 2 ≤ W1.heap.size := (HPW.out W1 hb1).2.2.2.1
        have ho84 := Own.below ho8 hx4
        refine wp_ran (v := .pointer (some ⟨W1.heap.size, 0, none⟩)) (w' := W4) (by rw [hW4]; exact (by go_simp)) ⟨(HPW.out W4 hb4).2.1, ?_⟩
        simp only [Act.put, List.getElem_toArray, List.getElem_cons_succ, List.getElem_cons_zero, List.setIfInBounds_toArray, List.set_cons_zero, List.set_cons_succ]
        clear hW4
        refine L_one (j := 5) (by kernel_rfl) rfl (by rfl) ?_
        simp only [Act.put, List.getElem_toArray, List.getElem_cons_succ, List.getElem_cons_zero, List.setIfInBounds_toArray, List.set_cons_zero, List.set_cons_succ]
        refine wp_append_any _ (.tmp 8) (.tmp 10) 22 rfl w.heap.size 5 i0 _ 1 1 Try.underlying22 hi0 hzz0 hzz1 hzz2 rfl (by omega) (.slice (some ⟨w0.drew.heap.size, 0, none⟩) 0 0) 0 (u8s []) rfl ho84 _ o.D o.dt.length o.cd (u8s o.dt) rfl (HPW.out W4 hb4).2.2.1.1 (oneCell_u8s _) (by simp only [maxLen]; omega) (by omega) (HPW.out W4 hb4).2.2.2.2 ?_
        intro v5 W5 hap5 hgr5 hav5
        have hoD : Own W5 w.heap.size v5 o.dt.length o.dt := by have h7 := hap5; rw [Nat.zero_add] at h7; simpa [Own, u8s] using h7
        obtain ⟨D5, c5, rfl, -⟩ := hoD.form
        have hb5 : Below w0.heap.size w0 W5 := hb4.grown hgr5 hb4.size (fun k e => by simp [Value.ownBlock] at e; have := HPR.out; omega)
        have hK5 := hK.grown hgr5 (fun e => own_blk_ne ho84 hK (by decide) e.symm)
        refine ⟨(HPW.out W5 hb5).2.1, ?_⟩
        simp only [Act.put, List.getElem_toArray, List.getElem_cons_succ, List.getElem_cons_zero, List.setIfInBounds_toArray, List.set_cons_zero, List.set_cons_succ]
        refine L_take (i := 8) (v := .agg #[.bool o.th, .slice D5 o.dt.length c5, .int .i64 o.sq, .slice none 0 0]) rfl rfl (by kernel_rfl) (by kernel_rfl) (by kernel_rfl) (by kernel_rfl) (fun _ _ _ h => h) (Or.inl ⟨by rfl, fun w hw => by kernel_rfl⟩) (HPW.out W5 hb5).2.1 ?_
        simp only [Act.put, List.getElem_toArray, List.getElem_cons_succ, List.getElem_cons_zero, List.setIfInBounds_toArray, List.set_cons_zero, List.set_cons_succ]
        refine L_last (by kernel_rfl) rfl (by rfl) (by kernel_rfl) ?_
        simp only [Act.put, List.getElem_toArray, List.getElem_cons_succ, List.getElem_cons_zero, List.setIfInBounds_toArray, List.set_cons_zero, List.set_cons_succ]
        refine wp_storeq 36 (.tmp 3) (.tmp 14) rfl W1.heap.size #[.bool false, .slice none 0 0, .int .i64 0, .slice none 0 0] [.bool o.th, .slice D5 o.dt.length c5, .int .i64 o.sq, .slice none 0 0] rfl rfl hK5 rfl (by kernel_rfl) (fun v hv => by simp at hv; rcases hv with rfl | rfl | rfl | rfl <;> rfl) ?_
        intro W9 K9 ho9 hs9
        refine NoPanic.normal ?_
        simp only [Act.put, List.getElem_toArray, List.getElem_cons_succ, List.getElem_cons_zero, List.setIfInBounds_toArray, List.set_cons_zero, List.set_cons_succ]
        exact ⟨by first | trivial | rfl, _, _, _, _, rfl, Pre.done (HPW.out W5 hb5).1 H.out.1 hg9 hK5 hoD ho9 K9⟩
    · simp only [Act.put, List.getElem_toArray, List.getElem_cons_succ, List.getElem_cons_zero, List.setIfInBounds_toArray, List.set_cons_zero, List.set_cons_succ]
      obtain ⟨W6, hW6⟩ : ∃ W6, W6 = w0.drew.alloc (.cells #[.bool false, .slice none 0 0, .int .i64 0, .slice none 0 0] 36) := ⟨_, rfl⟩
      have hx6 : Below w0.drew.heap.size w0.drew W6 := by rw [hW6]; exact below_alloc w0.drew _
      have hb6 : Below w0.heap.size w0 W6 := hb0.trans (hx6.mono hb0.size)
      have hK : Blk W6 w0.drew.heap.size 36 #[.bool false, .slice none 0 0, .int .i64 0, .slice none 0 0] := by rw [hW6]; exact Blk.new w0.drew _ _
      have hg9 : w.heap.size + 2 ≤ w0.drew.heap.size := (HPW.out w0.drew hb0).2.2.2.1
      refine wp_ran (v := .pointer (some ⟨w0.drew.heap.size, 0, none⟩)) (w' := W6) (by rw [hW6]; exact (by go_simp)) ⟨(HPW.out W6 hb6).2.1, ?_⟩
      simp only [Act.put, List.getElem_toArray, List.getElem_cons_succ, List.getElem_cons_zero, List.setIfInBounds_toArray, List.set_cons_zero, List.set_cons_succ]
      clear hW6
      refine L_one (j := 2) (by kernel_rfl) rfl (by rfl) ?_
      simp only [Act.put, List.getElem_toArray, List.getElem_cons_succ, List.getElem_cons_zero, List.setIfInBounds_toArray, List.set_cons_zero, List.set_cons_succ]
      obtain ⟨W7, hW7⟩ : ∃ W7, W7 = W6.alloc (.cells #[] 5) := ⟨_, rfl⟩
      have hx7 : Below W6.heap.size W6 W7 := by rw [hW7]; exact below_alloc W6 _
      have hb7 : Below w0.heap.size w0 W7 := hb6.trans (hx7.mono hb6.size)
      have ho8 : Own W7 w.heap.size (.slice (some ⟨W6.heap.size, 0, none⟩) 0 0) 0 [] := by rw [hW7]; exact Own.new W6 w.heap.size (HPW.out W6 hb6).2.2.2.2
      have hg8 : w.heap.size + 2 ≤ W6.heap.size := (HPW.out W6 hb6).2.2.2.1
      have hK7 := hK.of (hx7.block _ hK.lt)
      refine wp_ran (v := .slice (some ⟨W6.heap.size, 0, none⟩) 0 0) (w' := W7) (by rw [hW7]; exact (by go_simp)) ⟨(HPW.out W7 hb7).2.1, ?_⟩
      simp only [Act.put, List.getElem_toArray, List.getElem_cons_succ, List.getElem_cons_zero, List.setIfInBounds_toArray, List.set_cons_zero, List.set_cons_succ]
      clear hW7
      refine L_one (j := 5) (by kernel_rfl) rfl (by rfl) ?_
      simp only [Act.put, List.getElem_toArray, List.getElem_cons_succ, List.getElem_cons_zero, List.setIfInBounds_toArray, List.set_cons_zero, List.set_cons_succ]
      refine wp_append_any _ (.tmp 8) (.tmp 10) 22 rfl w.heap.size 5 i0 _ 1 1 Try.underlying22 hi0 hzz0 hzz1 hzz2 rfl (by omega) (.slice (some ⟨W6.heap.size, 0, none⟩) 0 0) 0 (u8s []) rfl ho8 _ o.D o.dt.length o.cd (u8s o.dt) rfl (HPW.out W7 hb7).2.2.1.1 (oneCell_u8s _) (by simp only [maxLen]; omega) (by omega) (HPW.out W7 hb7).2.2.2.2 ?_
      intro v8 W8 hap8 hgr8 hav8
      have hoD : Own W8 w.heap.size v8 o.dt.length o.dt := by have h7 := hap8; rw [Nat.zero_add] at h7; simpa [Own, u8s] using h7
      obtain ⟨D8, c8, rfl, -⟩ := hoD.form
      have hb8 : Below w0.heap.size w0 W8 := hb7.grown hgr8 hb7.size (fun k e => by simp [Value.ownBlock] at e; have := HPR.out; omega)
      have hK8 := hK7.grown hgr8 (fun e => own_blk_ne ho8 hK7 (by decide) e.symm)
      refine ⟨(HPW.out W8 hb8).2.1, ?_⟩
      simp only [Act.put, List.getElem_toArray, List.getElem_cons_succ, List.getElem_cons_zero, List.setIfInBounds_toArray, List.set_cons_zero, List.set_cons_succ]
      refine L_take (i := 8) (v := .agg #[.bool o.th, .slice D8 o.dt.length c8, .int .i64 o.sq, .slice none 0 0]) rfl rfl (by kernel_rfl) (by kernel_rfl) (by kernel_rfl) (by kernel_rfl) (fun _ _ _ h => h) (Or.inl ⟨by rfl, fun w hw => by kernel_rfl⟩) (HPW.out W8 hb8).2.1 ?_
      simp only [Act.put, List.getElem_toArray, List.getElem_cons_succ, List.getElem_cons_zero, List.setIfInBounds_toArray, List.set_cons_zero, List.set_cons_succ]
      refine L_last (by kernel_rfl) rfl (by rfl) (by kernel_rfl) ?_
      simp only [Act.put, List.getElem_toArray, List.getElem_cons_succ, List.getElem_cons_zero, List.setIfInBounds_toArray, List.set_cons_zero, List.set_cons_succ]
      refine wp_storeq 36 (.tmp 3) (.tmp 14) rfl w0.drew.heap.size #[.bool false, .slice none 0 0, .int .i64 0, .slice none 0 0] [.bool o.th, .slice D8 o.dt.length c8, .int .i64 o.sq, .slice none 0 0] rfl rfl hK8 rfl (by kernel_rfl) (fun v hv => by simp at hv; rcases hv with rfl | rfl | rfl | rfl <;> rfl) ?_
      intro W9 K9 ho9 hs9
      refine NoPanic.normal ?_
      simp only [Act.put, List.getElem_toArray, List.getElem_cons_succ, List.getElem_cons_zero, List.setIfInBounds_toArray, List.set_cons_zero, List.set_cons_succ]
      exact ⟨by first | trivial | rfl, _, _, _, _, rfl, Pre.done (HPW.out W8 hb8).1 H.out.1 hg9 hK8 hoD ho9 K9⟩
  -- R1}
  -- {R2
  intro e a' W' hq
  obtain ⟨rfl, g3, c', D', v8, rfl, hP0⟩ := hq
  have HP0 := Lib.hid hP0
  have HG3 : Hid (w.heap.size + 2 ≤ g3) := Lib.hid hP0.far
  have cs3 : W'.cell? ⟨w.heap.size, 3, none⟩ = some (.slice o.C o.cl.length o.cc) := hP0.src.cell 3
  clear hP0 HWE HPR
  go_wp2_with fail
  go_loopw [18] (fun i wr => ∃ (k : Nat) (q : OA), k ≤ o.cl.length ∧ i = .int .i64 k ∧ Prog1 w o g3 k q wr) (fun i _ => o.cl.length - (intOf i).toNat)
  case atStart => exact ⟨0, _, by omega, rfl, HP0.out, rfl, rfl, rfl, rfl⟩
  case round =>
    obtain ⟨k, q, hk, rfl, hP⟩ := hrel
    obtain ⟨wo, hwo⟩ : ∃ wo, wo = wr := ⟨_, rfl⟩
    subst hwo
    have HP := Lib.hid hP
    have hwk : IntKind.i64.wrap ((k : Int) + 1) = (k : Int) + 1 := by rw [IntKind.wrap_i64]; omega
    have hql : q.cl.length = k := by
      have := congrArg List.length hP.vs
      simp at this
      omega
    by_cases hlt : k < o.cl.length
    · obtain ⟨c, hck⟩ : ∃ c, o.cl[k]? = some c := ⟨_, List.getElem?_eq_getElem hlt⟩
      have hR := H.out.1.since hP.pr.bel
      obtain ⟨ad, had, hl, hc⟩ := hR.get hck
      have hok := hR.cl c (List.mem_of_getElem? hck)
      have hsm := H.out.2.cl c (List.mem_of_getElem? hck)
      obtain ⟨wA, hwA⟩ : ∃ wA, wA = wo.alloc (.cells #[.slice c.S c.sn.length c.cs, .slice c.D c.dt.length c.cd] 78) := ⟨_, rfl⟩
      have hbA : Below wo.heap.size wo wA := by rw [hwA]; exact below_alloc wo _
      have KX : Blk wA wo.heap.size 78 #[.slice c.S c.sn.length c.cs, .slice c.D c.dt.length c.cd] := by rw [hwA]; exact Blk.new wo _ _
      obtain ⟨gx, hgx⟩ : ∃ gx, gx = wo.heap.size := ⟨_, rfl⟩
      rw [← hgx] at KX
      have HWA := Lib.hid (And.intro hwA hgx)
      have HA := Lib.hid (And.intro (hP.pr.next hbA) (And.intro KX (hok.since hbA)))
      have HCK := Lib.hid hck
      have HQL := Lib.hid hql
      generalize o.C = oC at *
      subst had
      clear hR hok hbA KX hwA hgx hck hP hql
      go_upto_region 5 with (have _h := hc; refine wpList_load_rcl rfl (.tmp 20) rfl _ rfl c hc ?_; clear _h hc)
      rw [← HWA.out.1, ← HWA.out.2]
      obtain ⟨i0, hi0, hzz0, hzz1, hzz2⟩ := info_parts byte_info
      obtain ⟨i1, hi1, hy0, hy1, hy2⟩ := info_parts int_info
      obtain ⟨i2, hi2, hv0, hv1, hv2⟩ := info_parts scl_info
      have hS7 : Blk wA.drew g3 36 #[.bool q.th, .slice q.D q.dt.length q.cd, .int .i64 q.sq, .slice q.C q.cl.length q.cc] ∧ Blk wA.drew gx 78 #[.slice c.S c.sn.length c.cs, .slice c.D c.dt.length c.cd] := ⟨HA.out.1.blk.drew, HA.out.2.1.drew⟩
      have hb0 : Below wA.heap.size wA wA.drew := (Below.refl _ wA).drew
      have HPW : Hid (∀ W : World, Below wA.heap.size wA W → (Blk W g3 36 #[.bool q.th, .slice q.D q.dt.length q.cd, .int .i64 q.sq, .slice q.C q.cl.length q.cc] ∧ Blk W gx 78 #[.slice c.S c.sn.length c.cs, .slice c.D c.dt.length c.cd]) ∧ Progs w o q g3 W ∧ c.R W) := Lib.hid fun W hb => ⟨⟨HA.out.1.blk.of (hb.block _ HA.out.1.blk.lt), HA.out.2.1.of (hb.block _ HA.out.2.1.lt)⟩, HA.out.1.next hb, HA.out.2.2.since hb⟩
      have HC : Hid (∀ w' : World, (Blk w' g3 36 #[.bool q.th, .slice q.D q.dt.length q.cd, .int .i64 q.sq, .slice q.C q.cl.length q.cc] ∧ Blk w' gx 78 #[.slice c.S c.sn.length c.cs, .slice c.D c.dt.length c.cd]) → w'.cell? ⟨g3, 3, none⟩ = some (.slice q.C q.cl.length q.cc) ∧ w'.cell? ⟨gx, 0, none⟩ = some (.slice c.S c.sn.length c.cs) ∧ w'.cell? ⟨gx, 1, none⟩ = some (.slice c.D c.dt.length c.cd)) := Lib.hid fun w' h => ⟨h.1.cell 3, h.2.cell 0, h.2.cell 1⟩
      refine any_beginL (fun w' => Blk w' g3 36 #[.bool q.th, .slice q.D q.dt.length q.cd, .int .i64 q.sq, .slice q.C q.cl.length q.cc] ∧ Blk w' gx 78 #[.slice c.S c.sn.length c.cs, .slice c.D c.dt.length c.cd]) 14 (by kernel_rfl) ?_
      refine L_take (i := 0) (v := .pointer (some ⟨g3, 3, none⟩)) rfl rfl (by kernel_rfl) (by kernel_rfl) (by kernel_rfl) (by kernel_rfl) (fun _ _ _ h => h) (Or.inl ⟨by rfl, fun w hw => by go_simp⟩) hS7 ?_
      simp only [Act.put, List.getElem_toArray, List.getElem_cons_succ, List.getElem_cons_zero, List.setIfInBounds_toArray, List.set_cons_zero, List.set_cons_succ]
      refine L_take (i := 1) (v := .slice q.C q.cl.length q.cc) rfl rfl (by kernel_rfl) (by kernel_rfl) (by kernel_rfl) (by kernel_rfl) (fun _ _ _ h => h) (Or.inl ⟨by rfl, fun w hw => by have q1 := (HC.out w hw).1; go_simp⟩) hS7 ?_
      simp only [Act.put, List.getElem_toArray, List.getElem_cons_succ, List.getElem_cons_zero, List.setIfInBounds_toArray, List.set_cons_zero, List.set_cons_succ]
      refine L_take (i := 3) (v := .pointer (some ⟨gx, 0, none⟩)) rfl rfl (by kernel_rfl) (by kernel_rfl) (by kernel_rfl) (by kernel_rfl) (fun _ _ _ h => h) (Or.inl ⟨by rfl, fun w hw => by kernel_rfl⟩) hS7 ?_
      simp only [Act.put, List.getElem_toArray, List.getElem_cons_succ, List.getElem_cons_zero, List.setIfInBounds_toArray, List.set_cons_zero, List.set_cons_succ]
      refine L_take (i := 4) (v := .slice c.S c.sn.length c.cs) rfl rfl (by kernel_rfl) (by kernel_rfl) (by kernel_rfl) (by kernel_rfl) (fun _ _ _ h => h) (Or.inl ⟨by rfl, fun w hw => by have q1 := (HC.out w hw).2.1; go_simp⟩) hS7 ?_
      simp only [Act.put, List.getElem_toArray, List.getElem_cons_succ, List.getElem_cons_zero, List.setIfInBounds_toArray, List.set_cons_zero, List.set_cons_succ]
      refine L_take (i := 7) (v := .pointer (some ⟨gx, 1, none⟩)) rfl rfl (by kernel_rfl) (by kernel_rfl) (by kernel_rfl) (by kernel_rfl) (fun _ _ _ h => h) (Or.inl ⟨by rfl, fun w hw => by go_simp⟩) hS7 ?_
      simp only [Act.put, List.getElem_toArray, List.getElem_cons_succ, List.getElem_cons_zero, List.setIfInBounds_toArray, List.set_cons_zero, List.set_cons_succ]
      refine L_take (i := 8) (v := .slice c.D c.dt.length c.cd) rfl rfl (by kernel_rfl) (by kernel_rfl) (by kernel_rfl) (by kernel_rfl) (fun _ _ _ h => h) (Or.inl ⟨by rfl, fun w hw => by have q1 := (HC.out w hw).2.2; go_simp⟩) hS7 ?_
      simp only [Act.put, List.getElem_toArray, List.getElem_cons_succ, List.getElem_cons_zero, List.setIfInBounds_toArray, List.set_cons_zero, List.set_cons_succ]
      refine L_two (i := 2) (j := 6) (by kernel_rfl) rfl rfl (by rfl) (by rfl) ?_ ?_
      · simp only [Act.put, List.getElem_toArray, List.getElem_cons_succ, List.getElem_cons_zero, List.setIfInBounds_toArray, List.set_cons_zero, List.set_cons_succ]
        obtain ⟨W1, hW1⟩ : ∃ W1, W1 = wA.drew.alloc (.cells #[] 3) := ⟨_, rfl⟩
        have hx1 : Below wA.drew.heap.size wA.drew W1 := by rw [hW1]; exact below_alloc wA.drew _
        have hb1 : Below wA.heap.size wA W1 := hb0.trans (hx1.mono hb0.size)
        have hi2o : OwnI W1 wA.heap.size (.slice (some ⟨wA.drew.heap.size, 0, none⟩) 0 0) 0 [] := by rw [hW1]; exact OwnI.new0 wA.drew wA.heap.size hb0.size
        refine wp_ran (v := .slice (some ⟨wA.drew.heap.size, 0, none⟩) 0 0) (w' := W1) (by rw [hW1]; exact (by go_simp)) ⟨(HPW.out W1 hb1).1, ?_⟩
        simp only [Act.put, List.getElem_toArray, List.getElem_cons_succ, List.getElem_cons_zero, List.setIfInBounds_toArray, List.set_cons_zero, List.set_cons_succ]
        clear hW1
        refine L_two (i := 5) (j := 6) (by kernel_rfl) rfl rfl (by rfl) (by rfl) ?_ ?_
        · simp only [Act.put, List.getElem_toArray, List.getElem_cons_succ, List.getElem_cons_zero, List.setIfInBounds_toArray, List.set_cons_zero, List.set_cons_succ]
          have hle2 := hb1.size
          refine wp_append_any _ (.tmp 24) (.tmp 26) 26 rfl wA.heap.size 3 i1 _ 1 8 Try.underlying26 hi1 hy0 hy1 hy2 rfl (by omega) (.slice (some ⟨wA.drew.heap.size, 0, none⟩) 0 0) 0 (i64s []) rfl hi2o _ c.S c.sn.length c.cs (i64s c.sn) rfl (HPW.out W1 hb1).2.2.sn (i64s_one _) (by simp only [maxLen]; omega) (by omega) hle2 ?_
          intro v2 W2 hap2 hgr2 hav2
          have hoI : OwnI W2 wA.heap.size v2 c.sn.length c.sn := by have h7 := hap2; rw [Nat.zero_add] at h7; simpa [OwnI, i64s] using h7
          obtain ⟨A5, c5, rfl⟩ := hoI.form2
          have hb2 : Below wA.heap.size wA W2 := hb1.grown hgr2 hb1.size (fun k e => row_over hi2o k (mem_rowOf.2 e))
          refine ⟨(HPW.out W2 hb2).1, ?_⟩
          simp only [Act.put, List.getElem_toArray, List.getElem_cons_succ, List.getElem_cons_zero, List.setIfInBounds_toArray, List.set_cons_zero, List.set_cons_succ]
          refine L_one (j := 6) (by kernel_rfl) rfl (by rfl) ?_
          simp only [Act.put, List.getElem_toArray, List.getElem_cons_succ, List.getElem_cons_zero, List.setIfInBounds_toArray, List.set_cons_zero, List.set_cons_succ]
          obtain ⟨W3, hW3⟩ : ∃ W3, W3 = W2.alloc (.cells #[] 5) := ⟨_, rfl⟩
          have hx3 : Below W2.heap.size W2 W3 := by rw [hW3]; exact below_alloc W2 _
          have hb3 : Below wA.heap.size wA W3 := hb2.trans (hx3.mono hb2.size)
          have hb6o : Own W3 wA.heap.size (.slice (some ⟨W2.heap.size, 0, none⟩) 0 0) 0 [] := by rw [hW3]; exact Own.new W2 wA.heap.size hb2.size
          have hoI3 := OwnI.below hoI hx3
          refine wp_ran (v := .slice (some ⟨W2.heap.size, 0, none⟩) 0 0) (w' := W3) (by rw [hW3]; exact (by go_simp)) ⟨(HPW.out W3 hb3).1, ?_⟩
          simp only [Act.put, List.getElem_toArray, List.getElem_cons_succ, List.getElem_cons_zero, List.setIfInBounds_toArray, List.set_cons_zero, List.set_cons_succ]
          clear hW3
          refine L_one (j := 9) (by kernel_rfl) rfl (by rfl) ?_
          simp only [Act.put, List.getElem_toArray, List.getElem_cons_succ, List.getElem_cons_zero, List.setIfInBounds_toArray, List.set_cons_zero, List.set_cons_succ]
          have hle4 := hb3.size
          refine wp_append_any _ (.tmp 28) (.tmp 30) 22 rfl wA.heap.size 5 i0 _ 1 1 Try.underlying22 hi0 hzz0 hzz1 hzz2 rfl (by omega) (.slice (some ⟨W2.heap.size, 0, none⟩) 0 0) 0 (u8s []) rfl hb6o _ c.D c.dt.length c.cd (u8s c.dt) rfl (HPW.out W3 hb3).2.2.dt.1 (oneCell_u8s _) (by simp only [maxLen]; omega) (by omega) hle4 ?_
          intro v4 W4 hap4 hgr4 hav4
          have hoB : Own W4 wA.heap.size v4 c.dt.length c.dt := by have h7 := hap4; rw [Nat.zero_add] at h7; simpa [Own, u8s] using h7
          obtain ⟨A9, c9, rfl, -⟩ := hoB.form
          have hb4 : Below wA.heap.size wA W4 := hb3.grown hgr4 hb3.size (fun k e => row_over hb6o k (mem_rowOf.2 e))
          have hoI4 : OwnI W4 wA.heap.size (.slice A5 c.sn.length c5) c.sn.length c.sn := row_of hoI3 fun k hk => hgr4.block k (row_under hoI3 k hk) (fun e => by obtain ⟨_, hb⟩ := own_ty hoI3 hk; obtain ⟨_, hb'⟩ := own_ty hb6o (mem_rowOf.2 e.symm); exact hb.ne_ hb' (by decide) rfl)
          refine ⟨(HPW.out W4 hb4).1, ?_⟩
          simp only [Act.put, List.getElem_toArray, List.getElem_cons_succ, List.getElem_cons_zero, List.setIfInBounds_toArray, List.set_cons_zero, List.set_cons_succ]
          have hPW := (HPW.out W4 hb4).2.1
          have hcN0 : CA.N (CA.mk c.sn c.dt A5 c5 A9 c9) W4 wA.heap.size := ⟨hoI4, hoB, (HPW.out W4 hb4).2.2.dt.2, (HPW.out W4 hb4).2.2.i1⟩
          have hwA0 : w.heap.size ≤ wA.heap.size := HA.out.1.bel.size
          have hfs : ∀ a ∈ q.cl.map CA.sR, ∀ k ∈ a, k ∉ CA.sR (CA.mk c.sn c.dt A5 c5 A9 c9) := fun a ha k hka hk => by
            obtain ⟨c0, hc0, rfl⟩ := List.mem_map.1 ha
            have h1 := ((HA.out.1.own.cl c0 hc0).sU k hka).2.1
            have h2 := (hcN0.sU k hk).1
            omega
          have hfd : ∀ a ∈ rowOf (.slice q.D 0 0) :: q.cl.map CA.dR, ∀ k ∈ a, k ∉ CA.dR (CA.mk c.sn c.dt A5 c5 A9 c9) := fun a ha k hka hk => by
            have h2 := (hcN0.dU k hk).1
            rcases List.mem_cons.1 ha with rfl | ha
            · have h1 := (OA.P.dU HA.out.1.own k hka).2.1
              omega
            · obtain ⟨c0, hc0, rfl⟩ := List.mem_map.1 ha
              have h1 := ((HA.out.1.own.cl c0 hc0).dU k hka).2.1
              omega
          refine L_one (j := 10) (by kernel_rfl) rfl (by rfl) ?_
          simp only [Act.put, List.getElem_toArray, List.getElem_cons_succ, List.getElem_cons_zero, List.setIfInBounds_toArray, List.set_cons_zero, List.set_cons_succ]
          refine wp_ran (v := .agg #[.slice A5 c.sn.length c5, .slice A9 c.dt.length c9]) (w' := W4) (by kernel_rfl) ⟨(HPW.out W4 hb4).1, ?_⟩
          simp only [Act.put, List.getElem_toArray, List.getElem_cons_succ, List.getElem_cons_zero, List.setIfInBounds_toArray, List.set_cons_zero, List.set_cons_succ]
          have hbs := build_scl (CA.mk c.sn c.dt A5 c5 A9 c9) W4
          simp only at hbs
          refine L_one (j := 11) (by kernel_rfl) rfl (by rfl) ?_
          simp only [Act.put, List.getElem_toArray, List.getElem_cons_succ, List.getElem_cons_zero, List.setIfInBounds_toArray, List.set_cons_zero, List.set_cons_succ]
          refine wp_ran (v := .slice (some ⟨W4.heap.size, 0, none⟩) 1 1) (w' := W4.alloc (.cells (CA.cells (CA.mk c.sn c.dt A5 c5 A9 c9)).toArray 79)) (by go_simp <;> rfl) ⟨⟨(HPW.out W4 hb4).1.1.alloc _, (HPW.out W4 hb4).1.2.alloc _⟩, ?_⟩
          simp only [Act.put, List.getElem_toArray, List.getElem_cons_succ, List.getElem_cons_zero, List.setIfInBounds_toArray, List.set_cons_zero, List.set_cons_succ]
          have hrow1 := hPW.own.row
          rw [List.append_nil] at hrow1
          have hrow2 : OwnC 79 (W4.alloc (.cells (CA.cells (CA.mk c.sn c.dt A5 c5 A9 c9)).toArray 79)) w.heap.size (.slice q.C q.cl.length q.cc) q.cl := World.ownsRow.alloc hrow1 _
          have hql2 := HQL.out
          have hwsz := hPW.bel.size
          refine L_one (j := 12) (by kernel_rfl) rfl (by rfl) ?_
          simp only [Act.put, List.getElem_toArray, List.getElem_cons_succ, List.getElem_cons_zero, List.setIfInBounds_toArray, List.set_cons_zero, List.set_cons_succ]
          refine wp_append_any _ (.tmp 23) (.tmp 33) 34 rfl w.heap.size 79 i2 _ 2 48 Try.underlying34 hi2 hv0 hv1 hv2 rfl (by omega) (.slice q.C q.cl.length q.cc) q.cl.length (q.cl.flatMap CA.cells) rfl hrow2 _ (some ⟨W4.heap.size, 0, none⟩) 1 1 ([(CA.mk c.sn c.dt A5 c5 A9 c9)].flatMap CA.cells) rfl (one_cl W4 79 (CA.mk c.sn c.dt A5 c5 A9 c9)) (cells_one _) (by simp only [maxLen]; omega) (by omega) (by rw [World.size_alloc]; omega) ?_
          intro v3 w3 h3 g3' a3
          have h3' : OwnC 79 w3 w.heap.size v3 (q.cl ++ [(CA.mk c.sn c.dt A5 c5 A9 c9)]) := by unfold OwnC; rw [List.flatMap_append, List.length_append]; exact h3
          obtain ⟨A4, c4, rfl⟩ := h3'.form
          have hne3 : ∀ k t cs, Blk (W4.alloc (.cells (CA.cells (CA.mk c.sn c.dt A5 c5 A9 c9)).toArray 79)) k t cs → t ≠ 79 → Blk w3 k t cs := fun k t cs hk ht => hk.grown g3' (fun e => own_blk_ne hrow2 hk (fun e2 => ht e2.symm) e.symm)
          have S3 : Blk w3 g3 36 #[.bool q.th, .slice q.D q.dt.length q.cd, .int .i64 q.sq, .slice q.C q.cl.length q.cc] ∧ Blk w3 gx 78 #[.slice c.S c.sn.length c.cs, .slice c.D c.dt.length c.cd] := ⟨hne3 _ _ _ ((HPW.out W4 hb4).1.1.alloc _) (by decide), hne3 _ _ _ ((HPW.out W4 hb4).1.2.alloc _) (by decide)⟩
          refine ⟨S3, ?_⟩
          simp only [Act.put, List.getElem_toArray, List.getElem_cons_succ, List.getElem_cons_zero, List.setIfInBounds_toArray, List.set_cons_zero, List.set_cons_succ]
          refine L_one (j := 13) (by kernel_rfl) rfl (by rfl) ?_
          simp only [Act.put, List.getElem_toArray, List.getElem_cons_succ, List.getElem_cons_zero, List.setIfInBounds_toArray, List.set_cons_zero, List.set_cons_succ]
          refine wp_ran (v := .pointer (some ⟨g3, 3, none⟩)) (w' := w3) (by go_simp) ⟨S3, ?_⟩
          simp only [Act.put, List.getElem_toArray, List.getElem_cons_succ, List.getElem_cons_zero, List.setIfInBounds_toArray, List.set_cons_zero, List.set_cons_succ]
          refine L_last (by kernel_rfl) rfl (by rfl) (by kernel_rfl) ?_
          simp only [Act.put, List.getElem_toArray, List.getElem_cons_succ, List.getElem_cons_zero, List.setIfInBounds_toArray, List.set_cons_zero, List.set_cons_succ]
          refine wp_setq 34 (.tmp 35) (.tmp 34) rfl g3 3 36 _ (.slice A4 (q.cl ++ [(CA.mk c.sn c.dt A5 c5 A9 c9)]).length c4) rfl rfl S3.1 (by simp) (by kernel_rfl) rfl ?_
          intro w4 K4 ho4 hs4
          refine NoPanic.normal ?_
          simp only [Act.put, List.getElem_toArray, List.getElem_cons_succ, List.getElem_cons_zero, List.setIfInBounds_toArray, List.set_cons_zero, List.set_cons_succ]
          have HNEW : Hid (Prog1 w o g3 (k + 1) ⟨q.th, q.dt, q.D, q.cd, q.sq, A4, c4, q.cl ++ [(CA.mk c.sn c.dt A5 c5 A9 c9)]⟩ w4) := Lib.hid (by
            refine ⟨hPW.more (hcN0.weaken hwA0) hfs hfd h3' g3' ho4 (by simpa using K4), HP.out.th, HP.out.dt, HP.out.sq, ?_⟩
            show (q.cl ++ [(CA.mk c.sn c.dt A5 c5 A9 c9)]).map CA.v = _
            rw [List.map_append, HP.out.vs, take_snocI HCK.out, List.map_append]
            rfl)
          clear K4 ho4 hs4 S3 hne3 h3 h3' g3' a3 hrow1 hrow2 hbs hfs hfd hcN0 hPW hi0 hzz0 hzz1 hzz2 hi1 hy0 hy1 hy2 hi2 hv0 hv1 hv2 hS7
          go_wp2
          go_roundw
          case rel => exact ⟨k + 1, _, by omega, by go_num, HNEW.out⟩
          case measure => simp [intOf]; omega
        · simp only [Act.put, List.getElem_toArray, List.getElem_cons_succ, List.getElem_cons_zero, List.setIfInBounds_toArray, List.set_cons_zero, List.set_cons_succ]
          obtain ⟨W5, hW5⟩ : ∃ W5, W5 = W1.alloc (.cells #[] 5) := ⟨_, rfl⟩
          have hx5 : Below W1.heap.size W1 W5 := by rw [hW5]; exact below_alloc W1 _
          have hb5 : Below wA.heap.size wA W5 := hb1.trans (hx5.mono hb1.size)
          have hb6o : Own W5 wA.heap.size (.slice (some ⟨W1.heap.size, 0, none⟩) 0 0) 0 [] := by rw [hW5]; exact Own.new W1 wA.heap.size hb1.size
          have hoi5 := OwnI.below hi2o hx5
          refine wp_ran (v := .slice (some ⟨W1.heap.size, 0, none⟩) 0 0) (w' := W5) (by rw [hW5]; exact (by go_simp)) ⟨(HPW.out W5 hb5).1, ?_⟩
          simp only [Act.put, List.getElem_toArray, List.getElem_cons_succ, List.getElem_cons_zero, List.setIfInBounds_toArray, List.set_cons_zero, List.set_cons_succ]
          clear hW5
          refine L_one (j := 5) (by kernel_rfl) rfl (by rfl) ?_
          simp only [Act.put, List.getElem_toArray, List.getElem_cons_succ, List.getElem_cons_zero, List.setIfInBounds_toArray, List.set_cons_zero, List.set_cons_succ]
          have hle6 := hb5.size
          refine wp_append_any _ (.tmp 24) (.tmp 26) 26 rfl wA.heap.size 3 i1 _ 1 8 Try.underlying26 hi1 hy0 hy1 hy2 rfl (by omega) (.slice (some ⟨wA.drew.heap.size, 0, none⟩) 0 0) 0 (i64s []) rfl hoi5 _ c.S c.sn.length c.cs (i64s c.sn) rfl (HPW.out W5 hb5).2.2.sn (i64s_one _) (by simp only [maxLen]; omega) (by omega) hle6 ?_
          intro v6 W6 hap6 hgr6 hav6
          have hoI : OwnI W6 wA.heap.size v6 c.sn.length c.sn := by have h7 := hap6; rw [Nat.zero_add] at h7; simpa [OwnI, i64s] using h7
          obtain ⟨A5, c5, rfl⟩ := hoI.form2
          have hb6 : Below wA.heap.size wA W6 := hb5.grown hgr6 hb5.size (fun k e => row_over hoi5 k (mem_rowOf.2 e))
          have hob6 : Own W6 wA.heap.size (.slice (some ⟨W1.heap.size, 0, none⟩) 0 0) 0 [] := row_of hb6o fun k hk => hgr6.block k (row_under hb6o k hk) (fun e => by obtain ⟨_, hb⟩ := own_ty hb6o hk; obtain ⟨_, hb'⟩ := own_ty hoi5 (mem_rowOf.2 e.symm); exact hb.ne_ hb' (by decide) rfl)
          refine ⟨(HPW.out W6 hb6).1, ?_⟩
          simp only [Act.put, List.getElem_toArray, List.getElem_cons_succ, List.getElem_cons_zero, List.setIfInBounds_toArray, List.set_cons_zero, List.set_cons_succ]
          refine L_one (j := 9) (by kernel_rfl) rfl (by rfl) ?_
          simp only [Act.put, List.getElem_toArray, List.getElem_cons_succ, List.getElem_cons_zero, List.setIfInBounds_toArray, List.set_cons_zero, List.set_cons_succ]
          have hle7 := hb6.size
          refine wp_append_any _ (.tmp 28) (.tmp 30) 22 rfl wA.heap.size 5 i0 _ 1 1 Try.underlying22 hi0 hzz0 hzz1 hzz2 rfl (by omega) (.slice (some ⟨W1.heap.size, 0, none⟩) 0 0) 0 (u8s []) rfl hob6 _ c.D c.dt.length c.cd (u8s c.dt) rfl (HPW.out W6 hb6).2.2.dt.1 (oneCell_u8s _) (by simp only [maxLen]; omega) (by omega) hle7 ?_
          intro v7 W7 hap7 hgr7 hav7
          have hoB : Own W7 wA.heap.size v7 c.dt.length c.dt := by have h7 := hap7; rw [Nat.zero_add] at h7; simpa [Own, u8s] using h7
          obtain ⟨A9, c9, rfl, -⟩ := hoB.form
          have hb7 : Below wA.heap.size wA W7 := hb6.grown hgr7 hb6.size (fun k e => row_over hob6 k (mem_rowOf.2 e))
          have hoI7 : OwnI W7 wA.heap.size (.slice A5 c.sn.length c5) c.sn.length c.sn := row_of hoI fun k hk => hgr7.block k (row_under hoI k hk) (fun e => by obtain ⟨_, hb⟩ := own_ty hoI hk; obtain ⟨_, hb'⟩ := own_ty hob6 (mem_rowOf.2 e.symm); exact hb.ne_ hb' (by decide) rfl)
          refine ⟨(HPW.out W7 hb7).1, ?_⟩
          simp only [Act.put, List.getElem_toArray, List.getElem_cons_succ, List.getElem_cons_zero, List.setIfInBounds_toArray, List.set_cons_zero, List.set_cons_succ]
          have hPW := (HPW.out W7 hb7).2.1
          have hcN0 : CA.N (CA.mk c.sn c.dt A5 c5 A9 c9) W7 wA.heap.size := ⟨hoI7, hoB, (HPW.out W7 hb7).2.2.dt.2, (HPW.out W7 hb7).2.2.i1⟩
          have hwA0 : w.heap.size ≤ wA.heap.size := HA.out.1.bel.size
          have hfs : ∀ a ∈ q.cl.map CA.sR, ∀ k ∈ a, k ∉ CA.sR (CA.mk c.sn c.dt A5 c5 A9 c9) := fun a ha k hka hk => by
            obtain ⟨c0, hc0, rfl⟩ := List.mem_map.1 ha
            have h1 := ((HA.out.1.own.cl c0 hc0).sU k hka).2.1
            have h2 := (hcN0.sU k hk).1
            omega
          have hfd : ∀ a ∈ rowOf (.slice q.D 0 0) :: q.cl.map CA.dR, ∀ k ∈ a, k ∉ CA.dR (CA.mk c.sn c.dt A5 c5 A9 c9) := fun a ha k hka hk => by
            have h2 := (hcN0.dU k hk).1
            rcases List.mem_cons.1 ha with rfl | ha
            · have h1 := (OA.P.dU HA.out.1.own k hka).2.1
              omega
            · obtain ⟨c0, hc0, rfl⟩ := List.mem_map.1 ha
              have h1 := ((HA.out.1.own.cl c0 hc0).dU k hka).2.1
              omega
          refine L_one (j := 10) (by kernel_rfl) rfl (by rfl) ?_
          simp only [Act.put, List.getElem_toArray, List.getElem_cons_succ, List.getElem_cons_zero, List.setIfInBounds_toArray, List.set_cons_zero, List.set_cons_succ]
          refine wp_ran (v := .agg #[.slice A5 c.sn.length c5, .slice A9 c.dt.length c9]) (w' := W7) (by kernel_rfl) ⟨(HPW.out W7 hb7).1, ?_⟩
          simp only [Act.put, List.getElem_toArray, List.getElem_cons_succ, List.getElem_cons_zero, List.setIfInBounds_toArray, List.set_cons_zero, List.set_cons_succ]
          have hbs := build_scl (CA.mk c.sn c.dt A5 c5 A9 c9) W7
          simp only at hbs
          refine L_one (j := 11) (by kernel_rfl) rfl (by rfl) ?_
          simp only [Act.put, List.getElem_toArray, List.getElem_cons_succ, List.getElem_cons_zero, List.setIfInBounds_toArray, List.set_cons_zero, List.set_cons_succ]
          refine wp_ran (v := .slice (some ⟨W7.heap.size, 0, none⟩) 1 1) (w' := W7.alloc (.cells (CA.cells (CA.mk c.sn c.dt A5 c5 A9 c9)).toArray 79)) (by go_simp <;> rfl) ⟨⟨(HPW.out W7 hb7).1.1.alloc _, (HPW.out W7 hb7).1.2.alloc _⟩, ?_⟩
          simp only [Act.put, List.getElem_toArray, List.getElem_cons_succ, List.getElem_cons_zero, List.setIfInBounds_toArray, List.set_cons_zero, List.set_cons_succ]
          have hrow1 := hPW.own.row
          rw [List.append_nil] at hrow1
          have hrow2 : OwnC 79 (W7.alloc (.cells (CA.cells (CA.mk c.sn c.dt A5 c5 A9 c9)).toArray 79)) w.heap.size (.slice q.C q.cl.length q.cc) q.cl := World.ownsRow.alloc hrow1 _
          have hql2 := HQL.out
          have hwsz := hPW.bel.size
          refine L_one (j := 12) (by kernel_rfl) rfl (by rfl) ?_
          simp only [Act.put, List.getElem_toArray, List.getElem_cons_succ, List.getElem_cons_zero, List.setIfInBounds_toArray, List.set_cons_zero, List.set_cons_succ]
          refine wp_append_any _ (.tmp 23) (.tmp 33) 34 rfl w.heap.size 79 i2 _ 2 48 Try.underlying34 hi2 hv0 hv1 hv2 rfl (by omega) (.slice q.C q.cl.length q.cc) q.cl.length (q.cl.flatMap CA.cells) rfl hrow2 _ (some ⟨W7.heap.size, 0, none⟩) 1 1 ([(CA.mk c.sn c.dt A5 c5 A9 c9)].flatMap CA.cells) rfl (one_cl W7 79 (CA.mk c.sn c.dt A5 c5 A9 c9)) (cells_one _) (by simp only [maxLen]; omega) (by omega) (by rw [World.size_alloc]; omega) ?_
          intro v3 w3 h3 g3' a3
          have h3' : OwnC 79 w3 w.heap.size v3 (q.cl ++ [(CA.mk c.sn c.dt A5 c5 A9 c9)]) := by unfold OwnC; rw [List.flatMap_append, List.length_append]; exact h3
          obtain ⟨A4, c4, rfl⟩ := h3'.form
          have hne3 : ∀ k t cs, Blk (W7.alloc (.cells (CA.cells (CA.mk c.sn c.dt A5 c5 A9 c9)).toArray 79)) k t cs → t ≠ 79 → Blk w3 k t cs := fun k t cs hk ht => hk.grown g3' (fun e => own_blk_ne hrow2 hk (fun e2 => ht e2.symm) e.symm)
          have S3 : Blk w3 g3 36 #[.bool q.th, .slice q.D q.dt.length q.cd, .int .i64 q.sq, .slice q.C q.cl.length q.cc] ∧ Blk w3 gx 78 #[.slice c.S c.sn.length c.cs, .slice c.D c.dt.length c.cd] := ⟨hne3 _ _ _ ((HPW.out W7 hb7).1.1.alloc _) (by decide), hne3 _ _ _ ((HPW.out W7 hb7).1.2.alloc _) (by decide)⟩
          refine ⟨S3, ?_⟩
          simp only [Act.put, List.getElem_toArray, List.getElem_cons_succ, List.getElem_cons_zero, List.setIfInBounds_toArray, List.set_cons_zero, List.set_cons_succ]
          refine L_one (j := 13) (by kernel_rfl) rfl (by rfl) ?_
          simp only [Act.put, List.getElem_toArray, List.getElem_cons_succ, List.getElem_cons_zero, List.setIfInBounds_toArray, List.set_cons_zero, List.set_cons_succ]
          refine wp_ran (v := .pointer (some ⟨g3, 3, none⟩)) (w' := w3) (by go_simp) ⟨S3, ?_⟩
          simp only [Act.put, List.getElem_toArray, List.getElem_cons_succ, List.getElem_cons_zero, List.setIfInBounds_toArray, List.set_cons_zero, List.set_cons_succ]
          refine L_last (by kernel_rfl) rfl (by rfl) (by kernel_rfl) ?_
          simp only [Act.put, List.getElem_toArray, List.getElem_cons_succ, List.getElem_cons_zero, List.setIfInBounds_toArray, List.set_cons_zero, List.set_cons_succ]
          refine wp_setq 34 (.tmp 35) (.tmp 34) rfl g3 3 36 _ (.slice A4 (q.cl ++ [(CA.mk c.sn c.dt A5 c5 A9 c9)]).length c4) rfl rfl S3.1 (by simp) (by kernel_rfl) rfl ?_
          intro w4 K4 ho4 hs4
          refine NoPanic.normal ?_
          simp only [Act.put, List.getElem_toArray, List.getElem_cons_succ, List.getElem_cons_zero, List.setIfInBounds_toArray, List.set_cons_zero, List.set_cons_succ]
          have HNEW : Hid (Prog1 w o g3 (k + 1) ⟨q.th, q.dt, q.D, q.cd, q.sq, A4, c4, q.cl ++ [(CA.mk c.sn c.dt A5 c5 A9 c9)]⟩ w4) := Lib.hid (by
            refine ⟨hPW.more (hcN0.weaken hwA0) hfs hfd h3' g3' ho4 (by simpa using K4), HP.out.th, HP.out.dt, HP.out.sq, ?_⟩
            show (q.cl ++ [(CA.mk c.sn c.dt A5 c5 A9 c9)]).map CA.v = _
            rw [List.map_append, HP.out.vs, take_snocI HCK.out, List.map_append]
            rfl)
          clear K4 ho4 hs4 S3 hne3 h3 h3' g3' a3 hrow1 hrow2 hbs hfs hfd hcN0 hPW hi0 hzz0 hzz1 hzz2 hi1 hy0 hy1 hy2 hi2 hv0 hv1 hv2 hS7
          go_wp2
          go_roundw
          case rel => exact ⟨k + 1, _, by omega, by go_num, HNEW.out⟩
          case measure => simp [intOf]; omega
      · simp only [Act.put, List.getElem_toArray, List.getElem_cons_succ, List.getElem_cons_zero, List.setIfInBounds_toArray, List.set_cons_zero, List.set_cons_succ]
        obtain ⟨W8, hW8⟩ : ∃ W8, W8 = wA.drew.alloc (.cells #[] 5) := ⟨_, rfl⟩
        have hx8 : Below wA.drew.heap.size wA.drew W8 := by rw [hW8]; exact below_alloc wA.drew _
        have hb8 : Below wA.heap.size wA W8 := hb0.trans (hx8.mono hb0.size)
        have hb6o : Own W8 wA.heap.size (.slice (some ⟨wA.drew.heap.size, 0, none⟩) 0 0) 0 [] := by rw [hW8]; exact Own.new wA.drew wA.heap.size hb0.size
        refine wp_ran (v := .slice (some ⟨wA.drew.heap.size, 0, none⟩) 0 0) (w' := W8) (by rw [hW8]; exact (by go_simp)) ⟨(HPW.out W8 hb8).1, ?_⟩
        simp only [Act.put, List.getElem_toArray, List.getElem_cons_succ, List.getElem_cons_zero, List.setIfInBounds_toArray, List.set_cons_zero, List.set_cons_succ]
        clear hW8
        refine L_one (j := 2) (by kernel_rfl) rfl (by rfl) ?_
        simp only [Act.put, List.getElem_toArray, List.getElem_cons_succ, List.getElem_cons_zero, List.setIfInBounds_toArray, List.set_cons_zero, List.set_cons_succ]
        obtain ⟨W9, hW9⟩ : ∃ W9, W9 = W8.alloc (.cells #[] 3) := ⟨_, rfl⟩
        have hx9 : Below W8.heap.size W8 W9 := by rw [hW9]; exact below_alloc W8 _
        have hb9 : Below wA.heap.size wA W9 := hb8.trans (hx9.mono hb8.size)
        have hi2o : OwnI W9 wA.heap.size (.slice (some ⟨W8.heap.size, 0, none⟩) 0 0) 0 [] := by rw [hW9]; exact OwnI.new0 W8 wA.heap.size hb8.size
        have hob9 := Own.below hb6o hx9
        refine wp_ran (v := .slice (some ⟨W8.heap.size, 0, none⟩) 0 0) (w' := W9) (by rw [hW9]; exact (by go_simp)) ⟨(HPW.out W9 hb9).1, ?_⟩
        simp only [Act.put, List.getElem_toArray, List.getElem_cons_succ, List.getElem_cons_zero, List.setIfInBounds_toArray, List.set_cons_zero, List.set_cons_succ]
        clear hW9
        refine L_one (j := 5) (by kernel_rfl) rfl (by rfl) ?_
        simp only [Act.put, List.getElem_toArray, List.getElem_cons_succ, List.getElem_cons_zero, List.setIfInBounds_toArray, List.set_cons_zero, List.set_cons_succ]
        have hle10 := hb9.size
        refine wp_append_any _ (.tmp 24) (.tmp 26) 26 rfl wA.heap.size 3 i1 _ 1 8 Try.underlying26 hi1 hy0 hy1 hy2 rfl (by omega) (.slice (some ⟨W8.heap.size, 0, none⟩) 0 0) 0 (i64s []) rfl hi2o _ c.S c.sn.length c.cs (i64s c.sn) rfl (HPW.out W9 hb9).2.2.sn (i64s_one _) (by simp only [maxLen]; omega) (by omega) hle10 ?_
        intro v10 W10 hap10 hgr10 hav10
        have hoI : OwnI W10 wA.heap.size v10 c.sn.length c.sn := by have h7 := hap10; rw [Nat.zero_add] at h7; simpa [OwnI, i64s] using h7
        obtain ⟨A5, c5, rfl⟩ := hoI.form2
        have hb10 : Below wA.heap.size wA W10 := hb9.grown hgr10 hb9.size (fun k e => row_over hi2o k (mem_rowOf.2 e))
        have hob10 : Own W10 wA.heap.size (.slice (some ⟨wA.drew.heap.size, 0, none⟩) 0 0) 0 [] := row_of hob9 fun k hk => hgr10.block k (row_under hob9 k hk) (fun e => by obtain ⟨_, hb⟩ := own_ty hob9 hk; obtain ⟨_, hb'⟩ := own_ty hi2o (mem_rowOf.2 e.symm); exact hb.ne_ hb' (by decide) rfl)
        refine ⟨(HPW.out W10 hb10).1, ?_⟩
        simp only [Act.put, List.getElem_toArray, List.getElem_cons_succ, List.getElem_cons_zero, List.setIfInBounds_toArray, List.set_cons_zero, List.set_cons_succ]
        refine L_one (j := 9) (by kernel_rfl) rfl (by rfl) ?_
        simp only [Act.put, List.getElem_toArray, List.getElem_cons_succ, List.getElem_cons_zero, List.setIfInBounds_toArray, List.set_cons_zero, List.set_cons_succ]
        have hle11 := hb10.size
        refine wp_append_any _ (.tmp 28) (.tmp 30) 22 rfl wA.heap.size 5 i0 _ 1 1 Try.underlying22 hi0 hzz0 hzz1 hzz2 rfl (by omega) (.slice (some ⟨wA.drew.heap.size, 0, none⟩) 0 0) 0 (u8s []) rfl hob10 _ c.D c.dt.length c.cd (u8s c.dt) rfl (HPW.out W10 hb10).2.2.dt.1 (oneCell_u8s _) (by simp only [maxLen]; omega) (by omega) hle11 ?_
        intro v11 W11 hap11 hgr11 hav11
        have hoB : Own W11 wA.heap.size v11 c.dt.length c.dt := by have h7 := hap11; rw [Nat.zero_add] at h7; simpa [Own, u8s] using h7
        obtain ⟨A9, c9, rfl, -⟩ := hoB.form
        have hb11 : Below wA.heap.size wA W11 := hb10.grown hgr11 hb10.size (fun k e => row_over hob10 k (mem_rowOf.2 e))
        have hoI11 : OwnI W11 wA.heap.size (.slice A5 c.sn.length c5) c.sn.length c.sn := row_of hoI fun k hk => hgr11.block k (row_under hoI k hk) (fun e => by obtain ⟨_, hb⟩ := own_ty hoI hk; obtain ⟨_, hb'⟩ := own_ty hob10 (mem_rowOf.2 e.symm); exact hb.ne_ hb' (by decide) rfl)
        refine ⟨(HPW.out W11 hb11).1, ?_⟩
        simp only [Act.put, List.getElem_toArray, List.getElem_cons_succ, List.getElem_cons_zero, List.setIfInBounds_toArray, List.set_cons_zero, List.set_cons_succ]
        have hPW := (HPW.out W11 hb11).2.1
        have hcN0 : CA.N (CA.mk c.sn c.dt A5 c5 A9 c9) W11 wA.heap.size := ⟨hoI11, hoB, (HPW.out W11 hb11).2.2.dt.2, (HPW.out W11 hb11).2.2.i1⟩
        have hwA0 : w.heap.size ≤ wA.heap.size := HA.out.1.bel.size
        have hfs : ∀ a ∈ q.cl.map CA.sR, ∀ k ∈ a, k ∉ CA.sR (CA.mk c.sn c.dt A5 c5 A9 c9) := fun a ha k hka hk => by
          obtain ⟨c0, hc0, rfl⟩ := List.mem_map.1 ha
          have h1 := ((HA.out.1.own.cl c0 hc0).sU k hka).2.1
          have h2 := (hcN0.sU k hk).1
          omega
        have hfd : ∀ a ∈ rowOf (.slice q.D 0 0) :: q.cl.map CA.dR, ∀ k ∈ a, k ∉ CA.dR (CA.mk c.sn c.dt A5 c5 A9 c9) := fun a ha k hka hk => by
          have h2 := (hcN0.dU k hk).1
          rcases List.mem_cons.1 ha with rfl | ha
          · have h1 := (OA.P.dU HA.out.1.own k hka).2.1
            omega
          · obtain ⟨c0, hc0, rfl⟩ := List.mem_map.1 ha
            have h1 := ((HA.out.1.own.cl c0 hc0).dU k hka).2.1
            omega
        refine L_one (j := 10) (by kernel_rfl) rfl (by rfl) ?_
        simp only [Act.put, List.getElem_toArray, List.getElem_cons_succ, List.getElem_cons_zero, List.setIfInBounds_toArray, List.set_cons_zero, List.set_cons_succ]
        refine wp_ran (v := .agg #[.slice A5 c.sn.length c5, .slice A9 c.dt.length c9]) (w' := W11) (by kernel_rfl) ⟨(HPW.out W11 hb11).1, ?_⟩
        simp only [Act.put, List.getElem_toArray, List.getElem_cons_succ, List.getElem_cons_zero, List.setIfInBounds_toArray, List.set_cons_zero, List.set_cons_succ]
        have hbs := build_scl (CA.mk c.sn c.dt A5 c5 A9 c9) W11
        simp only at hbs
        refine L_one (j := 11) (by kernel_rfl) rfl (by rfl) ?_
        simp only [Act.put, List.getElem_toArray, List.getElem_cons_succ, List.getElem_cons_zero, List.setIfInBounds_toArray, List.set_cons_zero, List.set_cons_succ]
        refine wp_ran (v := .slice (some ⟨W11.heap.size, 0, none⟩) 1 1) (w' := W11.alloc (.cells (CA.cells (CA.mk c.sn c.dt A5 c5 A9 c9)).toArray 79)) (by go_simp <;> rfl) ⟨⟨(HPW.out W11 hb11).1.1.alloc _, (HPW.out W11 hb11).1.2.alloc _⟩, ?_⟩
        simp only [Act.put, List.getElem_toArray, List.getElem_cons_succ, List.getElem_cons_zero, List.setIfInBounds_toArray, List.set_cons_zero, List.set_cons_succ]
        have hrow1 := hPW.own.row
        rw [List.append_nil] at hrow1
        have hrow2 : OwnC 79 (W11.alloc (.cells (CA.cells (CA.mk c.sn c.dt A5 c5 A9 c9)).toArray 79)) w.heap.size (.slice q.C q.cl.length q.cc) q.cl := World.ownsRow.alloc hrow1 _
        have hql2 := HQL.out
        have hwsz := hPW.bel.size
        refine L_one (j := 12) (by kernel_rfl) rfl (by rfl) ?_
        simp only [Act.put, List.getElem_toArray, List.getElem_cons_succ, List.getElem_cons_zero, List.setIfInBounds_toArray, List.set_cons_zero, List.set_cons_succ]
        refine wp_append_any _ (.tmp 23) (.tmp 33) 34 rfl w.heap.size 79 i2 _ 2 48 Try.underlying34 hi2 hv0 hv1 hv2 rfl (by omega) (.slice q.C q.cl.length q.cc) q.cl.length (q.cl.flatMap CA.cells) rfl hrow2 _ (some ⟨W11.heap.size, 0, none⟩) 1 1 ([(CA.mk c.sn c.dt A5 c5 A9 c9)].flatMap CA.cells) rfl (one_cl W11 79 (CA.mk c.sn c.dt A5 c5 A9 c9)) (cells_one _) (by simp only [maxLen]; omega) (by omega) (by rw [World.size_alloc]; omega) ?_
        intro v3 w3 h3 g3' a3
        have h3' : OwnC 79 w3 w.heap.size v3 (q.cl ++ [(CA.mk c.sn c.dt A5 c5 A9 c9)]) := by unfold OwnC; rw [List.flatMap_append, List.length_append]; exact h3
        obtain ⟨A4, c4, rfl⟩ := h3'.form
        have hne3 : ∀ k t cs, Blk (W11.alloc (.cells (CA.cells (CA.mk c.sn c.dt A5 c5 A9 c9)).toArray 79)) k t cs → t ≠ 79 → Blk w3 k t cs := fun k t cs hk ht => hk.grown g3' (fun e => own_blk_ne hrow2 hk (fun e2 => ht e2.symm) e.symm)
        have S3 : Blk w3 g3 36 #[.bool q.th, .slice q.D q.dt.length q.cd, .int .i64 q.sq, .slice q.C q.cl.length q.cc] ∧ Blk w3 gx 78 #[.slice c.S c.sn.length c.cs, .slice c.D c.dt.length c.cd] := ⟨hne3 _ _ _ ((HPW.out W11 hb11).1.1.alloc _) (by decide), hne3 _ _ _ ((HPW.out W11 hb11).1.2.alloc _) (by decide)⟩
        refine ⟨S3, ?_⟩
        simp only [Act.put, List.getElem_toArray, List.getElem_cons_succ, List.getElem_cons_zero, List.setIfInBounds_toArray, List.set_cons_zero, List.set_cons_succ]
        refine L_one (j := 13) (by kernel_rfl) rfl (by rfl) ?_
        simp only [Act.put, List.getElem_toArray, List.getElem_cons_succ, List.getElem_cons_zero, List.setIfInBounds_toArray, List.set_cons_zero, List.set_cons_succ]
        refine wp_ran (v := .pointer (some ⟨g3, 3, none⟩)) (w' := w3) (by go_simp) ⟨S3, ?_⟩
        simp only [Act.put, List.getElem_toArray, List.getElem_cons_succ, List.getElem_cons_zero, List.setIfInBounds_toArray, List.set_cons_zero, List.set_cons_succ]
        refine L_last (by kernel_rfl) rfl (by rfl) (by kernel_rfl) ?_
        simp only [Act.put, List.getElem_toArray, List.getElem_cons_succ, List.getElem_cons_zero, List.setIfInBounds_toArray, List.set_cons_zero, List.set_cons_succ]
        refine wp_setq 34 (.tmp 35) (.tmp 34) rfl g3 3 36 _ (.slice A4 (q.cl ++ [(CA.mk c.sn c.dt A5 c5 A9 c9)]).length c4) rfl rfl S3.1 (by simp) (by kernel_rfl) rfl ?_
        intro w4 K4 ho4 hs4
        refine NoPanic.normal ?_
        simp only [Act.put, List.getElem_toArray, List.getElem_cons_succ, List.getElem_cons_zero, List.setIfInBounds_toArray, List.set_cons_zero, List.set_cons_succ]
        have HNEW : Hid (Prog1 w o g3 (k + 1) ⟨q.th, q.dt, q.D, q.cd, q.sq, A4, c4, q.cl ++ [(CA.mk c.sn c.dt A5 c5 A9 c9)]⟩ w4) := Lib.hid (by
          refine ⟨hPW.more (hcN0.weaken hwA0) hfs hfd h3' g3' ho4 (by simpa using K4), HP.out.th, HP.out.dt, HP.out.sq, ?_⟩
          show (q.cl ++ [(CA.mk c.sn c.dt A5 c5 A9 c9)]).map CA.v = _
          rw [List.map_append, HP.out.vs, take_snocI HCK.out, List.map_append]
          rfl)
        clear K4 ho4 hs4 S3 hne3 h3 h3' g3' a3 hrow1 hrow2 hbs hfs hfd hcN0 hPW hi0 hzz0 hzz1 hzz2 hi1 hy0 hy1 hy2 hi2 hv0 hv1 hv2 hS7
        go_wp2
        go_roundw
        case rel => exact ⟨k + 1, _, by omega, by go_num, HNEW.out⟩
        case measure => simp [intOf]; omega
    · obtain rfl : k = o.cl.length := by omega
      have K1 := HP.out.pr.blk
      have K2 := HP.out.pr.res
      go_wp2_with (first
        | (have _h := K1; refine wpList_loadq rfl 36 (.tmp 3) rfl g3 [.bool q.th, .slice q.D q.dt.length q.cd, .int .i64 q.sq, .slice q.C q.cl.length q.cc] _ rfl K1 Try.underlying36 rfl (by kernel_rfl) ?_; clear _h K1)
        | (have _h := K2; refine wpList_storeq rfl 36 (.tmp 2) (.tmp 37) rfl (w.heap.size + 1) #[.bool false, .slice none 0 0, .int .i64 0, .slice none 0 0] [.bool q.th, .slice q.D q.dt.length q.cd, .int .i64 q.sq, .slice q.C q.cl.length q.cc] rfl rfl K2 rfl (by kernel_rfl) (OA.cs_one q) ?_; clear _h K2; intro w9 K9 ho9 hs9))
      refine bodyPost_ret (results_cell_row rfl _ _ (w.heap.size + 1) 36 #[.bool q.th, .slice q.D q.dt.length q.cd, .int .i64 q.sq, .slice q.C q.cl.length q.cc] (0, 0) _ rfl K9 Try.underlying36 rfl (by kernel_rfl)) rfl ?_
      have hpr := HP.out.pr
      refine ⟨q, ?_, ?_, ?_, rfl, ?_⟩
      · show OV.mk q.th q.dt q.sq (q.cl.map CA.v) = OV.mk o.th o.dt o.sq (o.cl.map CA.v)
        rw [HP.out.th, HP.out.dt, HP.out.sq, HP.out.vs, List.take_of_length_le (Nat.le_refl _)]
      · refine OA.Sm.of_v (H.out.2.Sm) ?_
        show OV.mk q.th q.dt q.sq (q.cl.map CA.v) = OV.mk o.th o.dt o.sq (o.cl.map CA.v)
        rw [HP.out.th, HP.out.dt, HP.out.sq, HP.out.vs, List.take_of_length_le (Nat.le_refl _)]
      · exact OA.P.typed hpr.own fun x t cs hb ht => ho9.block x hb.lt (fun hm => by
          simp at hm
          subst hm
          refine hb.ne_ hpr.res ?_ rfl
          rcases ht with rfl | rfl | rfl <;> decide)
      · exact hpr.bel.trans (ho9.below (B := w.heap.size) (fun x hx => by simp at hx; omega) hpr.bel.size)
  -- R2}
end Go.Proofs.Ytjepfeagbiceoaa
