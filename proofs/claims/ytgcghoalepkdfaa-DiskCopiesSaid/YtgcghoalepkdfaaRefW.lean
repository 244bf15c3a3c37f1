/-
  The plain disk's Put. Conditions: the rows read as they are said to; each write's number is a sector's.
-/
import Derived.Test.YtgcghoalepkdfaaRefC
namespace Go.Proofs.Ytgcghoalepkdfaa
open Go.RowKit
set_option linter.unusedSimpArgs false
set_option linter.unusedVariables false
section
variable {P : Program} {ops : Array Oper} {Q : Exit → Act → World → Prop} {md : Region.Mode} {S : World → Prop} {L : Nat}
/-- either of two may come up -/
theorem L_two {i j : Nat} {oi oj : Oper} {f : Nat} {l : Array Bool} {a : Act} {w : World} (hr : Region.ready md ops l = [i, j]) (hoi : ops[i]? = some oi) (hoj : ops[j]? = some oj) (hwi : Region.wanted oi (yielded ops a.tmps) = true) (hwj : Region.wanted oj (yielded ops a.tmps) = true)
    (hi : Oper.wp P oi a w (fun a' w' => S w' ∧ wpAnyL P md ops Q S L f (l.setIfInBounds i true) a' w') Q) (hj : Oper.wp P oj a w (fun a' w' => S w' ∧ wpAnyL P md ops Q S L f (l.setIfInBounds j true) a' w') Q) : wpAnyL P md ops Q S L (f + 1) l a w := by
  refine ⟨fun h0 => absurd (hr ▸ h0) (by simp), fun k hk => ?_⟩
  rw [hr] at hk
  simp only [List.mem_cons, List.not_mem_nil, or_false] at hk
  rcases hk with rfl | rfl
  · refine wpOp_step hoi (fun K hK => ?_)
    rw [if_pos hwi]
    exact Oper.wp_mono (fun a' w' h' => hK a' w' ⟨fun _ => h'.1, h'.2⟩) hi
  · refine wpOp_step hoj (fun K hK => ?_)
    rw [if_pos hwj]
    exact Oper.wp_mono (fun a' w' h' => hK a' w' ⟨fun _ => h'.1, h'.2⟩) hj
end
theorem exec_load_blk {P : Program} {op : Oper} {a : Act} {w : World} (ty : TypeId) (x : Operand) (ho : op.op = .load ty x) (g : Nat) (cs : List Value) (d : TypeDesc) (hx : a.eval x = .pointer (some ⟨g, 0, none⟩)) (hB : Blk w g ty cs.toArray)
    (hu : P.underlying ty = some d) (hd : d.isRow = true) (hi : (P.info? ty).map (·.size) = some cs.length) : (execOp a.eval op).run P w = .ok (.value (.agg cs.toArray)) w := by
  unfold execOp
  simp only [ho, hx, Instr.loadAt, Instr.sureAddr, Sem.run_bind, Sem.run_pure, Result.andThen_ok, run_loadVar_mid w g 0 ty cs d hB.range hu hd hi]
theorem wp_set_blk {P : Program} {o : Oper} {a : Act} {w : World} {K : Act → World → Prop} {Q : Exit → Act → World → Prop} (ty : TypeId) (x y : Operand) (ho : o.op = .store ty x y)
    (g i : Nat) (t : TypeId) (cs : Array Value) (v : Value) (hx : a.eval x = .pointer (some ⟨g, i, none⟩)) (hy : a.eval y = v) (hB : Blk w g t cs) (hs : i < cs.size) (hi : (P.info? ty).map (·.size) = some 1) (h1 : v.oneCell' = true)
    (h : ∀ w', Blk w' g t (cs.setIfInBounds i v) → Only [g] w w' → w'.heap.size = w.heap.size → K (a.put o.dst undef) w') : o.wp P a w K Q := by
  unfold Oper.wp execOp
  simp only [ho, hx, hy, Instr.storeAt, Instr.sureAddr, Sem.run_bind, Sem.run_pure, Result.andThen_ok, run_storeVar_cell w g i ty v (hB.there (by omega)) hi h1]
  exact h _ (hB.set_ i v) ((Only.refl _ _).setCell (.inl (by simp)) _) (by simp [World.setCell])
theorem three_blks (w : World) (t0 t1 t2 : TypeId) (c0 c1 c2 : Array Value) : Blk (((w.alloc (.cells c0 t0)).alloc (.cells c1 t1)).alloc (.cells c2 t2)) w.heap.size t0 c0 ∧ Blk (((w.alloc (.cells c0 t0)).alloc (.cells c1 t1)).alloc (.cells c2 t2)) (w.heap.size + 1) t1 c1 ∧
    Blk (((w.alloc (.cells c0 t0)).alloc (.cells c1 t1)).alloc (.cells c2 t2)) (w.heap.size + 2) t2 c2 ∧ Below w.heap.size w (((w.alloc (.cells c0 t0)).alloc (.cells c1 t1)).alloc (.cells c2 t2)) := by
  have h0 := Blk.new w t0 c0
  have h1 := Blk.new (w.alloc (.cells c0 t0)) t1 c1
  have h2 := Blk.new ((w.alloc (.cells c0 t0)).alloc (.cells c1 t1)) t2 c2
  simp only [World.size_alloc] at h1 h2
  exact ⟨(h0.alloc _).alloc _, h1.alloc _, h2, (two_below w _ _).alloc (by simp; omega) _⟩
/-- a write that no step is done for -/
theorem rput_bad (w : World) (AA : Option Addr) (c : Nat) (AW : Option Addr) (cw : Nat) (d : DM) (l : Nat) (i : Int) (s : Sec) (h : RefAt w w.heap.size AA c AW cw d) (hl : Left d l) (hh : d.has i = false) :
    Calls Try.prog 29 #[.agg (rl AA d.n c AW d.wait.length cw d.steps l d.armed d.gone).toArray, .int .i64 i, s.v] w fun e w' => ∃ v, e = .returned (.tuple #[v, .int .i64 (d.writeErr i)]) ∧ RTo w AA AW (d.write i s) v w' := by
  have hz : ∀ w, (zeroValue 36).run Try.prog w = .ok (.agg (rl none 0 0 none 0 0 0 0 false false).toArray) w := rdisk_zero
  have hu := Try.underlying36
  have H := Lib.hid h
  have HL := Lib.hid hl
  obtain ⟨t0, t1, t2, hb⟩ := three_blks w 36 47 36 (rl AA d.n c AW d.wait.length cw d.steps l d.armed d.gone).toArray s.cs.toArray (rl none 0 0 none 0 0 0 0 false false).toArray
  have T0 := Lib.hid t0
  have T2 := Lib.hid t2
  have HB := Lib.hid hb
  have hw : d.write i s = d := by simp [DM.write, hh]
  have he : d.writeErr i = 1 := by simp [DM.writeErr, hh]
  have HW := Lib.hid hw
  have HE := Lib.hid he
  have hd : decide (i < 0) = true ∨ (decide (i < 0) = false ∧ decide ((d.n : Int) ≤ i) = true) := by
    simp [DM.has] at hh
    by_cases h0 : i < 0
    · exact .inl (by simpa using h0)
    · exact .inr ⟨by simpa using h0, by have := hh (by omega); simpa using this⟩
  clear h hl t0 t1 t2 hb hw he hh
  unfold Sec.v
  go_enter Try.func29, Try.ntmps29
  rcases hd with hd | ⟨hd, hd'⟩
  · go_wp2_with (first
      | (refine wpList_load_blk rfl 36 (.tmp 3) rfl w.heap.size (rl AA d.n c AW d.wait.length cw d.steps l d.armed d.gone) _ rfl T0.out hu rfl rdisk_size ?_)
      | (refine wpList_store_blk rfl 36 (.tmp 6) (.tmp 18) rfl (w.heap.size + 2) (rl none 0 0 none 0 0 0 0 false false).toArray (rl AA d.n c AW d.wait.length cw d.steps l d.armed d.gone) rfl rfl T2.out rfl rdisk_size (rl_one _ _ _ _ _ _ _ _ _ _) ?_; intro w4 hB1 ho4 hs4))
    refine bodyPost_ret (results_cell_tmp rfl _ _ (w.heap.size + 2) 36 _ (0, 0) _ _ rfl rfl hB1 hu rfl (by kernel_rfl)) rfl ?_
    have hb4 := HB.out.trans (ho4.below (fun k hk => by simp at hk; omega) HB.out.size)
    exact ⟨_, by rw [HE.out]; rfl, AA, c, AW, cw, l, by rw [HW.out]; rfl, by rw [HW.out]; exact (H.out.below hb4).more hb4.size, by rw [HW.out]; exact HL.out, hb4, .inl rfl, .inl rfl⟩
  · go_wp2_with (first
      | (refine wpList_load_blk rfl 36 (.tmp 3) rfl w.heap.size (rl AA d.n c AW d.wait.length cw d.steps l d.armed d.gone) _ rfl T0.out hu rfl rdisk_size ?_)
      | (refine wpList_store_blk rfl 36 (.tmp 6) (.tmp 18) rfl (w.heap.size + 2) (rl none 0 0 none 0 0 0 0 false false).toArray (rl AA d.n c AW d.wait.length cw d.steps l d.armed d.gone) rfl rfl T2.out rfl rdisk_size (rl_one _ _ _ _ _ _ _ _ _ _) ?_; intro w4 hB1 ho4 hs4))
    refine bodyPost_ret (results_cell_tmp rfl _ _ (w.heap.size + 2) 36 _ (0, 0) _ _ rfl rfl hB1 hu rfl (by kernel_rfl)) rfl ?_
    have hb4 := HB.out.trans (ho4.below (fun k hk => by simp at hk; omega) HB.out.size)
    exact ⟨_, by rw [HE.out]; rfl, AA, c, AW, cw, l, by rw [HW.out]; rfl, by rw [HW.out]; exact (H.out.below hb4).more hb4.size, by rw [HW.out]; exact HL.out, hb4, .inl rfl, .inl rfl⟩
/-- a write for whom the power is gone -/
theorem rput_off (w : World) (AA : Option Addr) (c : Nat) (AW : Option Addr) (cw : Nat) (d : DM) (l i : Nat) (s : Sec) (h : RefAt w w.heap.size AA c AW cw d) (hl : Left d l) (hin : i < d.n) (hoff : d.off = true) (hs : d.steps < 4611686018427387904) :
    Calls Try.prog 29 #[.agg (rl AA d.n c AW d.wait.length cw d.steps l d.armed d.gone).toArray, .int .i64 i, s.v] w fun e w' => ∃ v, e = .returned (.tuple #[v, .int .i64 (d.writeErr i)]) ∧ RTo w AA AW (d.write i s) v w' := by
  have hz : ∀ w, (zeroValue 36).run Try.prog w = .ok (.agg (rl none 0 0 none 0 0 0 0 false false).toArray) w := rdisk_zero
  have hu := Try.underlying36
  have H := Lib.hid h
  have HL := Lib.hid hl
  obtain ⟨t0, t1, t2, hb⟩ := three_blks w 36 47 36 (rl AA d.n c AW d.wait.length cw d.steps l d.armed d.gone).toArray s.cs.toArray (rl none 0 0 none 0 0 0 0 false false).toArray
  have T0 := Lib.hid t0
  have T2 := Lib.hid t2
  have HB := Lib.hid hb
  have hh : d.has (i : Int) = true := by simp [DM.has]; omega
  have hw : d.write i s = d.step := by simp [DM.write, hh, hoff]
  have he : d.writeErr i = 3 := by simp [DM.writeErr, hh, hoff]
  have HW := Lib.hid hw
  have HE := Lib.hid he
  have hd : decide ((i : Int) < 0) = false := by simp
  have hd' : decide ((d.n : Int) ≤ (i : Int)) = false := by simp; omega
  have Hoff := Lib.hid hoff
  clear h hl t0 t1 t2 hb hw he hh hoff
  unfold Sec.v
  go_enter Try.func29, Try.ntmps29
  go_wp2_with (first
      | (refine wpList_load_blk rfl 36 (.tmp 3) rfl w.heap.size (rl AA d.n c AW d.wait.length cw d.steps l d.armed d.gone) _ rfl T0.out hu rfl rdisk_size ?_))
  refine (rstep_to _ AA c AW cw d l HL.out hs d.n d.wait.length).mono ?_
  rintro e w1 ⟨l1, rfl, hl1, b1⟩
  rw [Hoff.out]
  have C0 := Lib.hid (T0.out.below b1 T0.out.lt)
  have C2 := Lib.hid (T2.out.below b1 T2.out.lt)
  have BW := Lib.hid (HB.out.trans (b1.mono HB.out.size))
  have HL1 := Lib.hid hl1
  have hnot : (w.heap.size + 2) ∉ [w.heap.size] := by simp
  clear b1 hl1
  go_wp2_with (first
    | (refine wpList_store_blk rfl 36 (.tmp 3) (.tmp 22) rfl w.heap.size (rl AA d.n c AW d.wait.length cw d.steps l d.armed d.gone).toArray (rl AA d.n c AW d.wait.length cw d.step.steps l1 d.step.armed d.step.gone) rfl rfl C0.out rfl rdisk_size (rl_one _ _ _ _ _ _ _ _ _ _) ?_; intro w2 hB0 ho2 hs2)
    | (refine wpList_load_blk rfl 36 (.tmp 3) rfl w.heap.size (rl AA d.n c AW d.wait.length cw d.step.steps l1 d.step.armed d.step.gone) _ rfl hB0 hu rfl rdisk_size ?_)
    | (refine wpList_store_blk rfl 36 (.tmp 6) (.tmp 26) rfl (w.heap.size + 2) (rl none 0 0 none 0 0 0 0 false false).toArray (rl AA d.n c AW d.wait.length cw d.step.steps l1 d.step.armed d.step.gone) rfl rfl (C2.out.only ho2 hnot) rfl rdisk_size (rl_one _ _ _ _ _ _ _ _ _ _) ?_; intro w4 hB1 ho4 hs4))
  refine bodyPost_ret (results_cell_tmp rfl _ _ (w.heap.size + 2) 36 _ (0, 0) _ _ rfl rfl hB1 hu rfl (by kernel_rfl)) rfl ?_
  have hb2 := BW.out.trans (ho2.below (fun k hk => by simp at hk; omega) BW.out.size)
  have hb4 := hb2.trans (ho4.below (fun k hk => by simp at hk; omega) hb2.size)
  exact ⟨_, by rw [HE.out]; rfl, AA, c, AW, cw, l1, by rw [HW.out, DM.step_n, DM.step_wait]; rfl, by rw [HW.out]; exact ((H.out.below hb4).step).more hb4.size, by rw [HW.out]; exact HL1.out, hb4, .inl rfl, .inl rfl⟩
end Go.Proofs.Ytgcghoalepkdfaa
