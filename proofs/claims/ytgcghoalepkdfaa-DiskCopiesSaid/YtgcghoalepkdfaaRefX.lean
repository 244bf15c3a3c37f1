/-
  The plain disk's Put where a step is done. Conditions: the rows read as they are said to; each write's number is a sector's.
-/
import Derived.Test.YtgcghoalepkdfaaRefW
namespace Go.Proofs.Ytgcghoalepkdfaa
open Go.RowKit
set_option linter.unusedSimpArgs false
set_option linter.unusedVariables false
theorem reads_blk {w : World} {g : Nat} {t : TypeId} {cs : List Value} {size : Nat} (h : Blk w g t cs.toArray) (hl : cs.length = size) : Reads w w.heap.size size (some ⟨g, 0, none⟩) 1 cs :=
  ⟨by omega, fun _ => ⟨_, rfl, h.lt, fun j u hj => by rw [add_zero_off, h.cell]; simpa using hj⟩⟩
theorem rput_end {w wb wE wF w4 : World} {AA Aw : Option Addr} {c cw cw0 l1 i : Nat} {AW : Option Addr} {d : DM} {s : Sec} (H : RefAt w w.heap.size AA c AW cw0 d) (HL1 : Left d.step l1) (HW : d.write i s = { d.step with wait := d.wait ++ [((i : Int), s)] }) (HE : d.writeErr i = 0)
    (hin : i < d.n) (BB : Below w.heap.size w wb) (hlt : w.heap.size + 2 < wb.heap.size) (HO : wE.ownsRow wb.heap.size 87 129 (.slice Aw (d.wait.length + 1) cw) (d.wait.length + 1) (d.wait.flatMap rwc ++ rwc ((i : Int), s))) (HSE : Below wb.heap.size wb wE) (hoF : Only [w.heap.size] wE wF) (ho4 : Only [w.heap.size + 2] wF w4) :
    ∃ v, Ending.returned (.tuple #[.agg (rl AA d.n c Aw (d.wait.length + 1) cw d.step.steps l1 d.step.armed d.step.gone).toArray, .int .i64 0]) = .returned (.tuple #[v, .int .i64 (d.writeErr i)]) ∧ RTo w AA AW (d.write i s) v w4 := by
  have hov : ∀ x, w.heap.size ≤ x → Over w.heap.size [x] := fun x hx k hk => by simp at hk; omega
  have h1 := BB.trans (HSE.mono BB.size)
  have h2 := h1.trans (hoF.below (hov _ (Nat.le_refl _)) h1.size)
  have h4 := h2.trans (ho4.below (hov _ (by omega)) h2.size)
  have hrow : w4.ownsRow wb.heap.size 87 129 (.slice Aw (d.wait.length + 1) cw) (d.wait.length + 1) (d.wait.flatMap rwc ++ rwc ((i : Int), s)) := row_of HO fun k hk => by
    have e1 := row_over HO k hk
    have e2 := row_under HO k hk
    rw [ho4.block k (Nat.lt_of_lt_of_le e2 hoF.size) (by simp; omega)]
    exact hoF.block k e2 (by simp; omega)
  have R := ((H.below h4).step).more h4.size
  have ew : d.wait.flatMap rwc ++ rwc ((i : Int), s) = (d.wait ++ [((i : Int), s)]).flatMap rwc := by simp
  have el : (d.wait ++ [((i : Int), s)]).length = d.wait.length + 1 := by simp
  refine ⟨_, by rw [HE]; rfl, AA, c, Aw, cw, l1, ?_, ?_, ?_, h4, .inl rfl, own_newer hrow (by omega)⟩
  · rw [HW]; simp only [DM.rs, DM.step_n, el]; rfl
  · rw [HW]
    refine ⟨R.1, ?_, ?_, R.4⟩
    · show Reads w4 w4.heap.size 129 Aw (d.wait ++ [((i : Int), s)]).length ((d.wait ++ [((i : Int), s)]).flatMap rwc)
      rw [el, ← ew]
      exact Reads.of_own hrow
    · intro x hx
      rcases List.mem_append.1 hx with hx | hx
      · have := H.in_ x hx
        rw [DM.step_n]
        exact this
      · simp only [List.mem_singleton] at hx
        subst hx
        show 0 ≤ (i : Int) ∧ (i : Int) < d.step.n
        rw [DM.step_n]
        omega
  · rw [HW]; exact HL1
set_option maxRecDepth 100000 in
set_option maxHeartbeats 4000000 in
theorem rput_in (w : World) (AA : Option Addr) (c : Nat) (AW : Option Addr) (cw : Nat) (d : DM) (l i : Nat) (s : Sec) (h : RefAt w w.heap.size AA c AW cw d) (hl : Left d l) (hin : i < d.n) (hoff : d.off = false) (hs : d.steps < 4611686018427387904) (hw : d.wait.length ≤ 1000000) :
    Calls Try.prog 29 #[.agg (rl AA d.n c AW d.wait.length cw d.steps l d.armed d.gone).toArray, .int .i64 i, s.v] w fun e w' => ∃ v, e = .returned (.tuple #[v, .int .i64 (d.writeErr i)]) ∧ RTo w AA AW (d.write i s) v w' := by
  have hz : ∀ w, (zeroValue 36).run Try.prog w = .ok (.agg (rl none 0 0 none 0 0 0 0 false false).toArray) w := rdisk_zero
  have hu := Try.underlying36
  obtain ⟨i0, hi0, hz0, hz1, hz2⟩ := info_parts rwrite_info
  have H := Lib.hid h
  have HL := Lib.hid hl
  obtain ⟨t0, t1, t2, hb⟩ := three_blks w 36 47 36 (rl AA d.n c AW d.wait.length cw d.steps l d.armed d.gone).toArray s.cs.toArray (rl none 0 0 none 0 0 0 0 false false).toArray
  have T0 := Lib.hid t0
  have T1 := Lib.hid t1
  have T2 := Lib.hid t2
  have HB := Lib.hid hb
  have hh : d.has (i : Int) = true := by simp [DM.has]; omega
  have hwr : d.write i s = { d.step with wait := d.wait ++ [((i : Int), s)] } := by simp [DM.write, hh, hoff]
  have he : d.writeErr i = 0 := by simp [DM.writeErr, hh, hoff]
  have HW := Lib.hid hwr
  have HE := Lib.hid he
  have hd : decide ((i : Int) < 0) = false := by simp
  have hd' : decide ((d.n : Int) ≤ (i : Int)) = false := by simp; omega
  have Hoff := Lib.hid hoff
  clear h hl t0 t1 t2 hb hwr he hh hoff
  unfold Sec.v
  go_enter Try.func29, Try.ntmps29
  go_wp2_with (first
      | (refine wpList_load_blk rfl 36 (.tmp 3) rfl w.heap.size (rl AA d.n c AW d.wait.length cw d.steps l d.armed d.gone) _ rfl T0.out hu rfl rdisk_size ?_))
  refine (rstep_to _ AA c AW cw d l HL.out hs d.n d.wait.length).mono ?_
  rintro e w1 ⟨l1, rfl, hl1, b1⟩
  rw [Hoff.out]
  have C0 := Lib.hid (T0.out.below b1 T0.out.lt)
  have C1 := Lib.hid (T1.out.below b1 T1.out.lt)
  have C2 := Lib.hid (T2.out.below b1 T2.out.lt)
  have BW := Lib.hid (HB.out.trans (b1.mono HB.out.size))
  have HL1 := Lib.hid hl1
  clear b1 hl1
  go_wp2_with (first
    | (refine wpList_store_blk rfl 36 (.tmp 3) (.tmp 22) rfl w.heap.size (rl AA d.n c AW d.wait.length cw d.steps l d.armed d.gone).toArray (rl AA d.n c AW d.wait.length cw d.step.steps l1 d.step.armed d.step.gone) rfl rfl C0.out rfl rdisk_size (rl_one _ _ _ _ _ _ _ _ _ _) ?_; intro wb B0 ho2 hs2))
  have B1 : Blk wb (w.heap.size + 1) 47 s.cs.toArray := C1.out.only ho2 (by simp)
  have B2 : Blk wb (w.heap.size + 2) 36 (rl none 0 0 none 0 0 0 0 false false).toArray := C2.out.only ho2 (by simp)
  have BB : Below w.heap.size w wb := BW.out.trans (ho2.below (fun k hk => by simp at hk; omega) BW.out.size)
  have hRW : Reads wb wb.heap.size 129 AW d.wait.length (d.wait.flatMap rwc) := ((H.out.below BB).more BB.size).wait
  have hus := Try.underlying47
  have hib : (Try.prog.info? 47).map (·.size) = some s.cs.length := by rw [Sec.cs_len]; exact sec_size
  have hrone : ∀ u ∈ d.wait.flatMap rwc, u.oneCell' = true := fun u hu => by
    obtain ⟨x, _, hx⟩ := List.mem_flatMap.1 hu
    exact rwc_one x u hx
  have hmade : ∀ W : World, wb.heap.size ≤ W.heap.size → (W.alloc (.cells #[] 87)).ownsRow wb.heap.size 87 129 (.slice (some ⟨W.heap.size, 0, none⟩) 0 0) 0 [] := fun W hW => by
    have := World.ownsRow_made (base := wb.heap.size) (e := 87) (size := 129) W #[] 0 hW (by simp [maxLen]) (by simp)
    simpa using this
  have hS0 : Below wb.heap.size wb wb.drew := (Below.refl _ _).drew
  have hlt0 := B2.lt
  clear C0 C1 C2 ho2
  go_wp2
  refine any_beginL (fun w' => Below wb.heap.size wb w') 10 (by kernel_rfl) ?_
  refine L_take (i := 1) (v := .pointer (some ⟨w.heap.size, 1, none⟩)) rfl rfl (by kernel_rfl) (by kernel_rfl) (by kernel_rfl) (by kernel_rfl) (fun _ _ _ h => h) (Or.inl ⟨by rfl, fun w _ => by kernel_rfl⟩) hS0 ?_
  simp only [Act.put, List.getElem_toArray, List.getElem_cons_succ, List.getElem_cons_zero, List.setIfInBounds_toArray, List.set_cons_zero, List.set_cons_succ]
  refine L_take (i := 2) (v := .slice AW d.wait.length cw) rfl rfl (by kernel_rfl) (by kernel_rfl) (by kernel_rfl) (by kernel_rfl) (fun _ _ _ h => h) (Or.inl ⟨by rfl, fun w hw => by have q : w.cell? ⟨_, 1, none⟩ = some (.slice AW d.wait.length cw) := (B0.below hw B0.lt).cell 1; go_simp⟩) hS0 ?_
  simp only [Act.put, List.getElem_toArray, List.getElem_cons_succ, List.getElem_cons_zero, List.setIfInBounds_toArray, List.set_cons_zero, List.set_cons_succ]
  refine L_take (i := 4) (v := .int .i64 i) rfl rfl (by kernel_rfl) (by kernel_rfl) (by kernel_rfl) (by kernel_rfl) (fun _ _ _ h => h) (Or.inl ⟨by rfl, fun w _ => by kernel_rfl⟩) hS0 ?_
  simp only [Act.put, List.getElem_toArray, List.getElem_cons_succ, List.getElem_cons_zero, List.setIfInBounds_toArray, List.set_cons_zero, List.set_cons_succ]
  refine L_take (i := 5) (v := .agg s.cs.toArray) rfl rfl (by kernel_rfl) (by kernel_rfl) (by kernel_rfl) (by kernel_rfl) (fun _ _ _ h => h) (Or.inl ⟨by rfl, fun w hw => exec_load_blk 47 (.tmp 5) rfl _ s.cs _ rfl (B1.below hw B1.lt) hus rfl hib⟩) hS0 ?_
  simp only [Act.put, List.getElem_toArray, List.getElem_cons_succ, List.getElem_cons_zero, List.setIfInBounds_toArray, List.set_cons_zero, List.set_cons_succ]
  refine L_take (i := 6) (v := .agg (rwc (i, s)).toArray) rfl rfl (by kernel_rfl) (by kernel_rfl) (by kernel_rfl) (by kernel_rfl) (fun _ _ _ h => h) (Or.inl ⟨by rfl, fun w hw => by have := build_rwrite s i w; simp [execOp, Act.eval, this, Result.andThen]⟩) hS0 ?_
  simp only [Act.put, List.getElem_toArray, List.getElem_cons_succ, List.getElem_cons_zero, List.setIfInBounds_toArray, List.set_cons_zero, List.set_cons_succ]
  refine L_two (i := 0) (j := 7) (by kernel_rfl) rfl rfl (by rfl) (by rfl) ?_ ?_
  · simp only [Act.put, List.getElem_toArray, List.getElem_cons_succ, List.getElem_cons_zero, List.setIfInBounds_toArray, List.set_cons_zero, List.set_cons_succ]
    refine wp_ran (v := .slice (some ⟨wb.heap.size, 0, none⟩) 0 0) (w' := wb.drew.alloc (.cells #[] 87)) (by go_simp) ?_
    have hM := hmade wb.drew (Nat.le_refl _)
    have hS := hS0.alloc hS0.size (.cells #[] 87)
    rw [show wb.drew.heap.size = wb.heap.size from rfl] at hM
    generalize hwx : wb.drew.alloc (.cells #[] 87) = wX at *
    clear hwx
    refine ⟨hS, ?_⟩
    simp only [Act.put, List.getElem_toArray, List.getElem_cons_succ, List.getElem_cons_zero, List.setIfInBounds_toArray, List.set_cons_zero, List.set_cons_succ]
    refine L_two (i := 3) (j := 7) (by kernel_rfl) rfl rfl (by rfl) (by rfl) ?_ ?_
    · simp only [Act.put, List.getElem_toArray, List.getElem_cons_succ, List.getElem_cons_zero, List.setIfInBounds_toArray, List.set_cons_zero, List.set_cons_succ]
      refine wp_append_any _ (.tmp 27) (.tmp 29) 34 rfl wb.heap.size 87 i0 _ 129 136 Try.underlying34 hi0 hz0 hz1 hz2 (by simp [Value.cells, rwc_len]) (by omega) (.slice (some ⟨wb.heap.size, 0, none⟩) 0 0) 0 [] rfl hM wb.heap.size AW d.wait.length cw (d.wait.flatMap rwc) rfl (hRW.below hS) hrone (by simp only [maxLen]; omega) (by omega) hS.size ?_
      intro v30 wA hown hgrowA hatA
      simp only [Nat.zero_add, List.nil_append] at hown
      have hSA : Below wb.heap.size wb wA := hS.grown hgrowA hS.size (fun g hg => (World.ownsRow.lt hM g hg).1)
      refine ⟨hSA, ?_⟩
      simp only [Act.put, List.getElem_toArray, List.getElem_cons_succ, List.getElem_cons_zero, List.setIfInBounds_toArray, List.set_cons_zero, List.set_cons_succ]
      refine L_one (j := 7) (by kernel_rfl) rfl (by rfl) ?_
      simp only [Act.put, List.getElem_toArray, List.getElem_cons_succ, List.getElem_cons_zero, List.setIfInBounds_toArray, List.set_cons_zero, List.set_cons_succ]
      refine wp_ran (v := .slice (some ⟨wA.heap.size, 0, none⟩) 1 1) (w' := wA.alloc (.cells (rwc (i, s)).toArray 87)) (by have := slice_rwrite ((i : Int), s) wA; simp [execOp, Act.eval, this, Result.andThen]) ?_
      have hP := Blk.new wA 87 (rwc (i, s)).toArray
      have hown := hown.alloc (.cells (rwc (i, s)).toArray 87)
      clear hS
      have hS := hSA.alloc hSA.size (.cells (rwc (i, s)).toArray 87)
      refine ⟨hS, ?_⟩
      generalize hgp : wA.heap.size = gp at *
      clear hgp hgrowA hatA hSA
      generalize wA.alloc (.cells (rwc (i, s)).toArray 87) = wZ at *
      simp only [Act.put, List.getElem_toArray, List.getElem_cons_succ, List.getElem_cons_zero, List.setIfInBounds_toArray, List.set_cons_zero, List.set_cons_succ]
      refine L_one (j := 8) (by kernel_rfl) rfl (by rfl) ?_
      simp only [Act.put, List.getElem_toArray, List.getElem_cons_succ, List.getElem_cons_zero, List.setIfInBounds_toArray, List.set_cons_zero, List.set_cons_succ]
      refine wp_append_any _ (.tmp 30) (.tmp 34) 34 rfl wb.heap.size 87 i0 _ 129 136 Try.underlying34 hi0 hz0 hz1 hz2 (by simp [Value.cells, rwc_len]) (by omega) v30 d.wait.length (d.wait.flatMap rwc) rfl hown _ (some ⟨gp, 0, none⟩) 1 1 (rwc (i, s)) rfl (reads_blk hP (rwc_len _)) (rwc_one _) (by simp only [maxLen]; omega) (by omega) hS.size ?_
      intro v35 wE hownE hgrowE hatE
      have hSE : Below wb.heap.size wb wE := hS.grown hgrowE hS.size (fun g hg => (World.ownsRow.lt hown g hg).1)
      obtain ⟨Aw, cw', rfl⟩ : ∃ Aw cw', v35 = .slice Aw (d.wait.length + 1) cw' := by
        rcases hownE.2 with ⟨h, hn⟩ | ⟨g', cap, cur, h, _⟩
        · omega
        · exact ⟨_, _, h⟩
      refine ⟨hSE, ?_⟩
      simp only [Act.put, List.getElem_toArray, List.getElem_cons_succ, List.getElem_cons_zero, List.setIfInBounds_toArray, List.set_cons_zero, List.set_cons_succ]
      refine L_one (j := 9) (by kernel_rfl) rfl (by rfl) ?_
      simp only [Act.put, List.getElem_toArray, List.getElem_cons_succ, List.getElem_cons_zero, List.setIfInBounds_toArray, List.set_cons_zero, List.set_cons_succ]
      refine wp_ran (v := .pointer (some ⟨w.heap.size, 1, none⟩)) (w' := wE) (by kernel_rfl) ⟨hSE, ?_⟩
      simp only [Act.put, List.getElem_toArray, List.getElem_cons_succ, List.getElem_cons_zero, List.setIfInBounds_toArray, List.set_cons_zero, List.set_cons_succ]
      refine L_last (by kernel_rfl) rfl (by rfl) (by kernel_rfl) ?_
      simp only [Act.put, List.getElem_toArray, List.getElem_cons_succ, List.getElem_cons_zero, List.setIfInBounds_toArray, List.set_cons_zero, List.set_cons_succ]
      refine wp_set_blk 34 (.tmp 36) (.tmp 35) (by rfl) w.heap.size 1 36 _ (.slice Aw (d.wait.length + 1) cw') (by rfl) (by rfl) (B0.below hSE B0.lt) (by simp) (by kernel_rfl) rfl ?_
      intro wF hF hoF hsF
      refine NoPanic.normal ?_
      have F0 : Blk wF w.heap.size 36 (rl AA d.n c Aw (d.wait.length + 1) cw' d.step.steps l1 d.step.armed d.step.gone).toArray := by simpa using hF
      have F2 := Lib.hid ((B2.below hSE B2.lt).only hoF (by simp))
      have F0 := Lib.hid F0
      have HO := Lib.hid hownE
      have HSE := Lib.hid hSE
      clear hownE hSE hF hM hown hP hS hgrowE hatE hS0 B0 B1 B2
      go_wp2_with (first
        | (refine wpList_load_blk rfl 36 (.tmp 3) rfl w.heap.size (rl AA d.n c Aw (d.wait.length + 1) cw' d.step.steps l1 d.step.armed d.step.gone) _ rfl F0.out hu rfl rdisk_size ?_)
        | (refine wpList_store_blk rfl 36 (.tmp 6) (.tmp 37) rfl (w.heap.size + 2) (rl none 0 0 none 0 0 0 0 false false).toArray (rl AA d.n c Aw (d.wait.length + 1) cw' d.step.steps l1 d.step.armed d.step.gone) rfl rfl F2.out rfl rdisk_size (rl_one _ _ _ _ _ _ _ _ _ _) ?_; intro w4 hB1 ho4 hs4))
      refine bodyPost_ret (results_cell_tmp rfl _ _ (w.heap.size + 2) 36 _ (0, 0) _ _ rfl rfl hB1 hu rfl (by kernel_rfl)) rfl ?_
      exact rput_end H.out HL1.out HW.out HE.out hin BB hlt0 HO.out HSE.out hoF ho4
    · simp only [Act.put, List.getElem_toArray, List.getElem_cons_succ, List.getElem_cons_zero, List.setIfInBounds_toArray, List.set_cons_zero, List.set_cons_succ]
      refine wp_ran (v := .slice (some ⟨wX.heap.size, 0, none⟩) 1 1) (w' := wX.alloc (.cells (rwc (i, s)).toArray 87)) (by have := slice_rwrite ((i : Int), s) wX; simp [execOp, Act.eval, this, Result.andThen]) ?_
      have hP0 := Blk.new wX 87 (rwc (i, s)).toArray
      have hM := hM.alloc (.cells (rwc (i, s)).toArray 87)
      have hgx : wb.heap.size ≠ wX.heap.size := by intro hh; have := (World.ownsRow.lt (by assumption : wX.ownsRow wb.heap.size 87 129 (.slice (some ⟨wb.heap.size, 0, none⟩) 0 0) 0 []) wb.heap.size rfl).2; omega
      have hS := hS.alloc hS.size (.cells (rwc (i, s)).toArray 87)
      refine ⟨hS, ?_⟩
      generalize hgp : wX.heap.size = gp at *
      clear hgp
      generalize wX.alloc (.cells (rwc (i, s)).toArray 87) = wY at *
      simp only [Act.put, List.getElem_toArray, List.getElem_cons_succ, List.getElem_cons_zero, List.setIfInBounds_toArray, List.set_cons_zero, List.set_cons_succ]
      refine L_one (j := 3) (by kernel_rfl) rfl (by rfl) ?_
      simp only [Act.put, List.getElem_toArray, List.getElem_cons_succ, List.getElem_cons_zero, List.setIfInBounds_toArray, List.set_cons_zero, List.set_cons_succ]
      refine wp_append_any _ (.tmp 27) (.tmp 29) 34 rfl wb.heap.size 87 i0 _ 129 136 Try.underlying34 hi0 hz0 hz1 hz2 (by simp [Value.cells, rwc_len]) (by omega) (.slice (some ⟨wb.heap.size, 0, none⟩) 0 0) 0 [] rfl hM wb.heap.size AW d.wait.length cw (d.wait.flatMap rwc) rfl (hRW.below hS) hrone (by simp only [maxLen]; omega) (by omega) hS.size ?_
      intro v30 wA hown hgrowA hatA
      simp only [Nat.zero_add, List.nil_append] at hown
      have hSA : Below wb.heap.size wb wA := hS.grown hgrowA hS.size (fun g hg => (World.ownsRow.lt hM g hg).1)
      have hP := hP0.grown hgrowA (by simpa [Value.ownBlock] using Ne.symm hgx)
      clear hgrowA hatA hP0
      clear hS
      have hS := hSA
      refine ⟨hSA, ?_⟩
      clear hSA
      simp only [Act.put, List.getElem_toArray, List.getElem_cons_succ, List.getElem_cons_zero, List.setIfInBounds_toArray, List.set_cons_zero, List.set_cons_succ]
      refine L_one (j := 8) (by kernel_rfl) rfl (by rfl) ?_
      simp only [Act.put, List.getElem_toArray, List.getElem_cons_succ, List.getElem_cons_zero, List.setIfInBounds_toArray, List.set_cons_zero, List.set_cons_succ]
      refine wp_append_any _ (.tmp 30) (.tmp 34) 34 rfl wb.heap.size 87 i0 _ 129 136 Try.underlying34 hi0 hz0 hz1 hz2 (by simp [Value.cells, rwc_len]) (by omega) v30 d.wait.length (d.wait.flatMap rwc) rfl hown _ (some ⟨gp, 0, none⟩) 1 1 (rwc (i, s)) rfl (reads_blk hP (rwc_len _)) (rwc_one _) (by simp only [maxLen]; omega) (by omega) hS.size ?_
      intro v35 wE hownE hgrowE hatE
      have hSE : Below wb.heap.size wb wE := hS.grown hgrowE hS.size (fun g hg => (World.ownsRow.lt hown g hg).1)
      obtain ⟨Aw, cw', rfl⟩ : ∃ Aw cw', v35 = .slice Aw (d.wait.length + 1) cw' := by
        rcases hownE.2 with ⟨h, hn⟩ | ⟨g', cap, cur, h, _⟩
        · omega
        · exact ⟨_, _, h⟩
      refine ⟨hSE, ?_⟩
      simp only [Act.put, List.getElem_toArray, List.getElem_cons_succ, List.getElem_cons_zero, List.setIfInBounds_toArray, List.set_cons_zero, List.set_cons_succ]
      refine L_one (j := 9) (by kernel_rfl) rfl (by rfl) ?_
      simp only [Act.put, List.getElem_toArray, List.getElem_cons_succ, List.getElem_cons_zero, List.setIfInBounds_toArray, List.set_cons_zero, List.set_cons_succ]
      refine wp_ran (v := .pointer (some ⟨w.heap.size, 1, none⟩)) (w' := wE) (by kernel_rfl) ⟨hSE, ?_⟩
      simp only [Act.put, List.getElem_toArray, List.getElem_cons_succ, List.getElem_cons_zero, List.setIfInBounds_toArray, List.set_cons_zero, List.set_cons_succ]
      refine L_last (by kernel_rfl) rfl (by rfl) (by kernel_rfl) ?_
      simp only [Act.put, List.getElem_toArray, List.getElem_cons_succ, List.getElem_cons_zero, List.setIfInBounds_toArray, List.set_cons_zero, List.set_cons_succ]
      refine wp_set_blk 34 (.tmp 36) (.tmp 35) (by rfl) w.heap.size 1 36 _ (.slice Aw (d.wait.length + 1) cw') (by rfl) (by rfl) (B0.below hSE B0.lt) (by simp) (by kernel_rfl) rfl ?_
      intro wF hF hoF hsF
      refine NoPanic.normal ?_
      have F0 : Blk wF w.heap.size 36 (rl AA d.n c Aw (d.wait.length + 1) cw' d.step.steps l1 d.step.armed d.step.gone).toArray := by simpa using hF
      have F2 := Lib.hid ((B2.below hSE B2.lt).only hoF (by simp))
      have F0 := Lib.hid F0
      have HO := Lib.hid hownE
      have HSE := Lib.hid hSE
      clear hownE hSE hF hM hown hP hS hgrowE hatE hS0 B0 B1 B2
      go_wp2_with (first
        | (refine wpList_load_blk rfl 36 (.tmp 3) rfl w.heap.size (rl AA d.n c Aw (d.wait.length + 1) cw' d.step.steps l1 d.step.armed d.step.gone) _ rfl F0.out hu rfl rdisk_size ?_)
        | (refine wpList_store_blk rfl 36 (.tmp 6) (.tmp 37) rfl (w.heap.size + 2) (rl none 0 0 none 0 0 0 0 false false).toArray (rl AA d.n c Aw (d.wait.length + 1) cw' d.step.steps l1 d.step.armed d.step.gone) rfl rfl F2.out rfl rdisk_size (rl_one _ _ _ _ _ _ _ _ _ _) ?_; intro w4 hB1 ho4 hs4))
      refine bodyPost_ret (results_cell_tmp rfl _ _ (w.heap.size + 2) 36 _ (0, 0) _ _ rfl rfl hB1 hu rfl (by kernel_rfl)) rfl ?_
      exact rput_end H.out HL1.out HW.out HE.out hin BB hlt0 HO.out HSE.out hoF ho4
  · simp only [Act.put, List.getElem_toArray, List.getElem_cons_succ, List.getElem_cons_zero, List.setIfInBounds_toArray, List.set_cons_zero, List.set_cons_succ]
    refine wp_ran (v := .slice (some ⟨wb.heap.size, 0, none⟩) 1 1) (w' := wb.drew.alloc (.cells (rwc (i, s)).toArray 87)) (by have := slice_rwrite ((i : Int), s) wb.drew; simp [execOp, Act.eval, this, Result.andThen]) ?_
    have hP0 := Blk.new wb.drew 87 (rwc (i, s)).toArray
    rw [show wb.drew.heap.size = wb.heap.size from rfl] at hP0
    have hS := hS0.alloc hS0.size (.cells (rwc (i, s)).toArray 87)
    generalize wb.drew.alloc (.cells (rwc (i, s)).toArray 87) = wX at *
    refine ⟨hS, ?_⟩
    simp only [Act.put, List.getElem_toArray, List.getElem_cons_succ, List.getElem_cons_zero, List.setIfInBounds_toArray, List.set_cons_zero, List.set_cons_succ]
    refine L_one (j := 0) (by kernel_rfl) rfl (by rfl) ?_
    simp only [Act.put, List.getElem_toArray, List.getElem_cons_succ, List.getElem_cons_zero, List.setIfInBounds_toArray, List.set_cons_zero, List.set_cons_succ]
    refine wp_ran (v := .slice (some ⟨wX.heap.size, 0, none⟩) 0 0) (w' := wX.alloc (.cells #[] 87)) (by go_simp) ?_
    have hM := hmade wX hS.size
    have hlx := hP0.lt
    have hP1 := hP0.alloc (.cells #[] 87)
    have hS := hS.alloc hS.size (.cells #[] 87)
    refine ⟨hS, ?_⟩
    generalize hgp : wX.heap.size = gx at *
    clear hgp hP0
    generalize wX.alloc (.cells #[] 87) = wY at *
    simp only [Act.put, List.getElem_toArray, List.getElem_cons_succ, List.getElem_cons_zero, List.setIfInBounds_toArray, List.set_cons_zero, List.set_cons_succ]
    refine L_one (j := 3) (by kernel_rfl) rfl (by rfl) ?_
    simp only [Act.put, List.getElem_toArray, List.getElem_cons_succ, List.getElem_cons_zero, List.setIfInBounds_toArray, List.set_cons_zero, List.set_cons_succ]
    refine wp_append_any _ (.tmp 27) (.tmp 29) 34 rfl wb.heap.size 87 i0 _ 129 136 Try.underlying34 hi0 hz0 hz1 hz2 (by simp [Value.cells, rwc_len]) (by omega) (.slice (some ⟨gx, 0, none⟩) 0 0) 0 [] rfl hM wb.heap.size AW d.wait.length cw (d.wait.flatMap rwc) rfl (hRW.below hS) hrone (by simp only [maxLen]; omega) (by omega) hS.size ?_
    intro v30 wA hown hgrowA hatA
    simp only [Nat.zero_add, List.nil_append] at hown
    have hSA : Below wb.heap.size wb wA := hS.grown hgrowA hS.size (fun g hg => (World.ownsRow.lt hM g hg).1)
    have hP := hP1.grown hgrowA (by simp [Value.ownBlock]; omega)
    clear hgrowA hatA hP1
    clear hS
    have hS := hSA
    refine ⟨hSA, ?_⟩
    clear hSA
    simp only [Act.put, List.getElem_toArray, List.getElem_cons_succ, List.getElem_cons_zero, List.setIfInBounds_toArray, List.set_cons_zero, List.set_cons_succ]
    refine L_one (j := 8) (by kernel_rfl) rfl (by rfl) ?_
    simp only [Act.put, List.getElem_toArray, List.getElem_cons_succ, List.getElem_cons_zero, List.setIfInBounds_toArray, List.set_cons_zero, List.set_cons_succ]
    refine wp_append_any _ (.tmp 30) (.tmp 34) 34 rfl wb.heap.size 87 i0 _ 129 136 Try.underlying34 hi0 hz0 hz1 hz2 (by simp [Value.cells, rwc_len]) (by omega) v30 d.wait.length (d.wait.flatMap rwc) rfl hown _ (some ⟨wb.heap.size, 0, none⟩) 1 1 (rwc (i, s)) rfl (reads_blk hP (rwc_len _)) (rwc_one _) (by simp only [maxLen]; omega) (by omega) hS.size ?_
    intro v35 wE hownE hgrowE hatE
    have hSE : Below wb.heap.size wb wE := hS.grown hgrowE hS.size (fun g hg => (World.ownsRow.lt hown g hg).1)
    obtain ⟨Aw, cw', rfl⟩ : ∃ Aw cw', v35 = .slice Aw (d.wait.length + 1) cw' := by
      rcases hownE.2 with ⟨h, hn⟩ | ⟨g', cap, cur, h, _⟩
      · omega
      · exact ⟨_, _, h⟩
    refine ⟨hSE, ?_⟩
    simp only [Act.put, List.getElem_toArray, List.getElem_cons_succ, List.getElem_cons_zero, List.setIfInBounds_toArray, List.set_cons_zero, List.set_cons_succ]
    refine L_one (j := 9) (by kernel_rfl) rfl (by rfl) ?_
    simp only [Act.put, List.getElem_toArray, List.getElem_cons_succ, List.getElem_cons_zero, List.setIfInBounds_toArray, List.set_cons_zero, List.set_cons_succ]
    refine wp_ran (v := .pointer (some ⟨w.heap.size, 1, none⟩)) (w' := wE) (by kernel_rfl) ⟨hSE, ?_⟩
    simp only [Act.put, List.getElem_toArray, List.getElem_cons_succ, List.getElem_cons_zero, List.setIfInBounds_toArray, List.set_cons_zero, List.set_cons_succ]
    refine L_last (by kernel_rfl) rfl (by rfl) (by kernel_rfl) ?_
    simp only [Act.put, List.getElem_toArray, List.getElem_cons_succ, List.getElem_cons_zero, List.setIfInBounds_toArray, List.set_cons_zero, List.set_cons_succ]
    refine wp_set_blk 34 (.tmp 36) (.tmp 35) (by rfl) w.heap.size 1 36 _ (.slice Aw (d.wait.length + 1) cw') (by rfl) (by rfl) (B0.below hSE B0.lt) (by simp) (by kernel_rfl) rfl ?_
    intro wF hF hoF hsF
    refine NoPanic.normal ?_
    have F0 : Blk wF w.heap.size 36 (rl AA d.n c Aw (d.wait.length + 1) cw' d.step.steps l1 d.step.armed d.step.gone).toArray := by simpa using hF
    have F2 := Lib.hid ((B2.below hSE B2.lt).only hoF (by simp))
    have F0 := Lib.hid F0
    have HO := Lib.hid hownE
    have HSE := Lib.hid hSE
    clear hownE hSE hF hM hown hP hS hgrowE hatE hS0 B0 B1 B2
    go_wp2_with (first
      | (refine wpList_load_blk rfl 36 (.tmp 3) rfl w.heap.size (rl AA d.n c Aw (d.wait.length + 1) cw' d.step.steps l1 d.step.armed d.step.gone) _ rfl F0.out hu rfl rdisk_size ?_)
      | (refine wpList_store_blk rfl 36 (.tmp 6) (.tmp 37) rfl (w.heap.size + 2) (rl none 0 0 none 0 0 0 0 false false).toArray (rl AA d.n c Aw (d.wait.length + 1) cw' d.step.steps l1 d.step.armed d.step.gone) rfl rfl F2.out rfl rdisk_size (rl_one _ _ _ _ _ _ _ _ _ _) ?_; intro w4 hB1 ho4 hs4))
    refine bodyPost_ret (results_cell_tmp rfl _ _ (w.heap.size + 2) 36 _ (0, 0) _ _ rfl rfl hB1 hu rfl (by kernel_rfl)) rfl ?_
    exact rput_end H.out HL1.out HW.out HE.out hin BB hlt0 HO.out HSE.out hoF ho4
end Go.Proofs.Ytgcghoalepkdfaa
