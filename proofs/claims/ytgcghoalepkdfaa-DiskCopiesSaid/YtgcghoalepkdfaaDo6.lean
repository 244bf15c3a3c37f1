/-
  An act by a disk and a plain one: what 'do' answers, where it reads. Conditions: small numbers.
-/
import Derived.Test.YtgcghoalepkdfaaDo
import Derived.BigQuiet
namespace Go.Proofs.Ytgcghoalepkdfaa
open Go.RowKit
set_option linter.unusedSimpArgs false
set_option linter.unusedVariables false
section
variable {w0 w w' : World} {g : Nat} {d r : DM} {X : List Nat} {AA AW : Option Addr} {c cw l : Nat}
set_option maxRecDepth 100000 in
set_option maxHeartbeats 8000000 in
theorem do_read (h : Two w0 w g d r X AA c AW cw l) (o : OpV) (hb : o.b < 256) (hd : Small d) (hr : Small r) (h1 : o.kind ≠ 1) (h2 : o.kind ≠ 2) (h4 : o.kind ≠ 4) (h5 : o.kind ≠ 5) :
    Calls Try.prog 15 #[.pointer (some ⟨g, 0, none⟩), .agg (rv AA c AW cw l r).toArray, .agg o.cs.toArray] w (DoTo w0 w g d r X AA AW o hb) := by
  have hz : ∀ w, (zeroValue 36).run Try.prog w = .ok (.agg (rl none 0 0 none 0 0 0 0 false false).toArray) w := rdisk_zero
  have hu := Try.underlying36
  obtain ⟨t0, t1, t2, hbw⟩ := three_blks w 36 40 36 (rv AA c AW cw l r).toArray o.cs.toArray (rl none 0 0 none 0 0 0 0 false false).toArray
  have H := Lib.hid (h.begin_ (rv AA c AW cw l r).toArray o.cs.toArray (rl none 0 0 none 0 0 0 0 false false).toArray 36 40 36)
  have T0 := Lib.hid t0
  have T1 := Lib.hid t1
  have T2 := Lib.hid t2
  have HB := Lib.hid hbw
  have H0 := Lib.hid h
  have S0 : ∀ w', Blk w' (w.heap.size + 1) 40 o.cs.toArray → w'.cell? ⟨w.heap.size + 1, 0, none⟩ = some (.int .i64 o.kind) := fun w' h => by rw [h.cell]; rfl
  have S1 : ∀ w', Blk w' (w.heap.size + 1) 40 o.cs.toArray → w'.cell? ⟨w.heap.size + 1, 1, none⟩ = some (.int .i64 o.n) := fun w' h => by rw [h.cell]; rfl
  have S3 : ∀ w', Blk w' (w.heap.size + 1) 40 o.cs.toArray → w'.cell? ⟨w.heap.size + 1, 3, none⟩ = some (.slice o.A o.keep.length o.c) := fun w' h => by rw [h.cell]; rfl
  have hact : ∀ x : DM, act o hb x = x := fun x => by simp [act, h1, h2, h4, h5]
  have HA := Lib.hid hact
  have hk1 : (o.kind == 1) = false := by simpa using h1
  have hk2 : (o.kind == 2) = false := by simpa using h2
  have hk4 : (o.kind == 4) = false := by simpa using h4
  have hk5 : (o.kind == 5) = false := by simpa using h5
  obtain ⟨Zs, hz6, hZs⟩ : ∃ Zs : List Value, (∀ w, (zeroValue 47).run Try.prog w = .ok (.agg Zs.toArray) w) ∧ Zs = Sec.zero.cs := ⟨_, sec_zero, rfl⟩
  have hus := Try.underlying47
  have hzl : Zs.length = 128 := by rw [hZs, Sec.cs_len]
  have hib : ∀ s : Sec, (Try.prog.info? 47).map (·.size) = some s.cs.length := fun s => by rw [Sec.cs_len]; exact sec_size
  clear hZs
  clear h t0 t1 t2 hbw hact
  go_enter Try.func15, Try.ntmps15
  go_upto_region 1 with (fail)
  generalize hwa : World.alloc _ (Obj.cells (rl none 0 0 none 0 0 0 0 false false).toArray 36) = wa at *
  have q0 := S0 _ T1.out
  clear hwa
  have q1 := S1 _ T1.out
  go_wp2_with fail
  refine (hold_read H.out.disk o.n hd.wait).mono ?_
  rintro e w8 ⟨rfl, b8⟩
  simp only [Sec.v]
  have D0 := Lib.hid (T0.out.below b8 T0.out.lt)
  have D1 := Lib.hid (T1.out.below b8 T1.out.lt)
  have D2 := Lib.hid (T2.out.below b8 T2.out.lt)
  have B8 := Lib.hid b8
  have hl0 := T2.out.lt
  have hb8s := b8.size
  clear q0 q1 b8
  have E0 := Lib.hid (D0.out.alloc (.cells (d.read o.n).cs.toArray 47))
  have E1 := Lib.hid (D1.out.alloc (.cells (d.read o.n).cs.toArray 47))
  have E2 := Lib.hid (D2.out.alloc (.cells (d.read o.n).cs.toArray 47))
  have EX := Lib.hid (Blk.new w8 47 (d.read o.n).cs.toArray)
  have EB := Lib.hid (B8.out.alloc B8.out.size (.cells (d.read o.n).cs.toArray 47))
  generalize hX : d.read o.n = x at *
  have q1 := S1 _ E1.out
  go_wp2_with (first
    | (refine wpList_store_newN rfl 47 (.tmp 11) (.tmp 22) rfl w8.heap.size rfl x.cs Zs.toArray rfl rfl (hib x) (by simp [Sec.cs_len, hzl]) x.one ?_)
    | (refine wpList_load_blk rfl 36 (.tmp 4) rfl w.heap.size (rv AA c AW cw l r) _ rfl E0.out hu rfl rdisk_size ?_))
  have HE := Lib.hid (H.out.below EB.out)
  refine (two_rread HE.out hr o.n).mono ?_
  rintro e w9 ⟨rfl, b9⟩
  simp only [Sec.v]
  have G0 := Lib.hid ((E0.out.below b9 E0.out.lt).alloc (.cells (r.read o.n).cs.toArray 47))
  have G2 := Lib.hid ((E2.out.below b9 E2.out.lt).alloc (.cells (r.read o.n).cs.toArray 47))
  have GX := Lib.hid ((EX.out.below b9 EX.out.lt).alloc (.cells (r.read o.n).cs.toArray 47))
  have GY := Lib.hid (Blk.new w9 47 (r.read o.n).cs.toArray)
  have GB := Lib.hid (EB.out.trans (b9.mono EB.out.size))
  have GC := Lib.hid (GB.out.alloc GB.out.size (.cells (r.read o.n).cs.toArray 47))
  generalize hY : r.read o.n = y at *
  clear q1 b9
  go_wp2_with (first
    | (refine wpList_store_newN rfl 47 (.tmp 13) (.tmp 29) rfl w9.heap.size rfl y.cs Zs.toArray rfl rfl (hib y) (by simp [Sec.cs_len, hzl]) y.one ?_))
  generalize w9.alloc (.cells y.cs.toArray 47) = wB at *
  generalize w9.heap.size = gy at *
  generalize w8.heap.size = gx at *
  have hSb : Blk wB.drew gx 47 x.cs.toArray ∧ Blk wB.drew gy 47 y.cs.toArray := ⟨GX.out, GY.out⟩
  refine any_beginL (fun w' => Blk w' gx 47 x.cs.toArray ∧ Blk w' gy 47 y.cs.toArray) 99 (by kernel_rfl) ?_
  refine S_take (i := 0) (v := errV (d.readErr o.n)) rfl rfl (by kernel_rfl) (by kernel_rfl) (by kernel_rfl) (fun _ _ _ h => h) (Or.inl ⟨by rfl, fun w _ => by kernel_rfl⟩) hSb ?_
  simp only [Act.put, List.getElem_toArray, List.getElem_cons_succ, List.getElem_cons_zero, List.setIfInBounds_toArray, List.set_cons_zero, List.set_cons_succ]
  refine S_take (i := 1) (v := .int .i64 (r.readErr o.n)) rfl rfl (by kernel_rfl) (by kernel_rfl) (by kernel_rfl) (fun _ _ _ h => h) (Or.inl ⟨by rfl, fun w _ => by kernel_rfl⟩) hSb ?_
  simp only [Act.put, List.getElem_toArray, List.getElem_cons_succ, List.getElem_cons_zero, List.setIfInBounds_toArray, List.set_cons_zero, List.set_cons_succ]
  refine S_take (i := 2) (v := .agg x.cs.toArray) rfl rfl (by kernel_rfl) (by kernel_rfl) (by kernel_rfl) (fun _ _ _ h => h) (Or.inl ⟨by rfl, fun w hw => exec_load_blk 47 (.tmp 11) rfl _ _ _ rfl hw.1 hus rfl (hib x)⟩) hSb ?_
  simp only [Act.put, List.getElem_toArray, List.getElem_cons_succ, List.getElem_cons_zero, List.setIfInBounds_toArray, List.set_cons_zero, List.set_cons_succ]
  refine S_take (i := 3) (v := .agg y.cs.toArray) rfl rfl (by kernel_rfl) (by kernel_rfl) (by kernel_rfl) (fun _ _ _ h => h) (Or.inl ⟨by rfl, fun w hw => exec_load_blk 47 (.tmp 13) rfl _ _ _ rfl hw.2 hus rfl (hib y)⟩) hSb ?_
  simp only [Act.put, List.getElem_toArray, List.getElem_cons_succ, List.getElem_cons_zero, List.setIfInBounds_toArray, List.set_cons_zero, List.set_cons_succ]
  refine S_take (i := 4) (v := .bool (secEq x y)) rfl rfl (by kernel_rfl) (by kernel_rfl) (by kernel_rfl) (fun _ _ _ h => h) (Or.inl ⟨by rfl, fun w _ => by have q := run_sec_eq x y w; simp [execOp, Act.eval, q, run_sec_guard, Result.andThen]⟩) hSb ?_
  simp only [Act.put, List.getElem_toArray, List.getElem_cons_succ, List.getElem_cons_zero, List.setIfInBounds_toArray, List.set_cons_zero, List.set_cons_succ]
  refine L_one (j := 5) (by kernel_rfl) rfl (by rfl) ?_
  simp only [Act.put, List.getElem_toArray, List.getElem_cons_succ, List.getElem_cons_zero, List.setIfInBounds_toArray, List.set_cons_zero, List.set_cons_succ]
  refine wp_yields (v := errV (d.readErr o.n)) (by kernel_rfl) ⟨hSb, ?_⟩
  simp only [Act.put, List.getElem_toArray, List.getElem_cons_succ, List.getElem_cons_zero, List.setIfInBounds_toArray, List.set_cons_zero, List.set_cons_succ]
  refine L_one (j := 6) (by kernel_rfl) rfl (by rfl) ?_
  simp only [Act.put, List.getElem_toArray, List.getElem_cons_succ, List.getElem_cons_zero, List.setIfInBounds_toArray, List.set_cons_zero, List.set_cons_succ]
  refine wp_yields (v := .int .i64 (r.readErr o.n)) (by kernel_rfl) ⟨hSb, ?_⟩
  simp only [Act.put, List.getElem_toArray, List.getElem_cons_succ, List.getElem_cons_zero, List.setIfInBounds_toArray, List.set_cons_zero, List.set_cons_succ]
  refine L_one (j := 7) (by kernel_rfl) rfl (by rfl) ?_
  simp only [Act.put, List.getElem_toArray, List.getElem_cons_succ, List.getElem_cons_zero, List.setIfInBounds_toArray, List.set_cons_zero, List.set_cons_succ]
  refine wp_yields (v := .bool (secEq x y)) (by kernel_rfl) ⟨hSb, ?_⟩
  simp only [Act.put, List.getElem_toArray, List.getElem_cons_succ, List.getElem_cons_zero, List.setIfInBounds_toArray, List.set_cons_zero, List.set_cons_succ]
  refine L_done (by kernel_rfl) ?_
  refine NoPanic.normal ?_
  have hB11 : Blk wB w.heap.size 36 (rv AA c AW cw l r).toArray := G0.out
  have hB6 : Blk wB (w.heap.size + 2) 36 _ := G2.out
  have h10 := H.out.below GC.out
  clear hSb
  go_wp2
  generalize hn1 : d.readErr o.n = n1
  generalize hn2 : r.readErr o.n = n2
  generalize hsm : secEq x y = sm
  refine any_beginL (fun w' => Blk w' w.heap.size 36 (rv AA c AW cw l r).toArray) 99 (by kernel_rfl) ?_
  have hSf : Blk wB.drew.drew w.heap.size 36 (rv AA c AW cw l r).toArray := hB11
  refine S_take (i := 0) (v := .agg (rv AA c AW cw l r).toArray) rfl rfl (by kernel_rfl) (by kernel_rfl) (by kernel_rfl) (fun _ _ _ h => h) (Or.inl ⟨by rfl, fun w hw => exec_load_blk 36 (.tmp 4) rfl _ _ _ rfl hw hu rfl rdisk_size⟩) hSf ?_
  simp only [Act.put, List.getElem_toArray, List.getElem_cons_succ, List.getElem_cons_zero, List.setIfInBounds_toArray, List.set_cons_zero, List.set_cons_succ]
  refine S_take (i := 1) (v := errV n1) rfl rfl (by kernel_rfl) (by kernel_rfl) (by kernel_rfl) (fun _ _ _ h => h) (Or.inl ⟨by rfl, fun w _ => by kernel_rfl⟩) hSf ?_
  simp only [Act.put, List.getElem_toArray, List.getElem_cons_succ, List.getElem_cons_zero, List.setIfInBounds_toArray, List.set_cons_zero, List.set_cons_succ]
  refine S_take (i := 3) (v := .int .i64 n2) rfl rfl (by kernel_rfl) (by kernel_rfl) (by kernel_rfl) (fun _ _ _ h => h) (Or.inl ⟨by rfl, fun w _ => by kernel_rfl⟩) hSf ?_
  simp only [Act.put, List.getElem_toArray, List.getElem_cons_succ, List.getElem_cons_zero, List.setIfInBounds_toArray, List.set_cons_zero, List.set_cons_succ]
  refine L_one (j := 2) (by kernel_rfl) rfl (by rfl) ?_
  simp only [Act.put, List.getElem_toArray, List.getElem_cons_succ, List.getElem_cons_zero, List.setIfInBounds_toArray, List.set_cons_zero, List.set_cons_succ]
  refine wp_called (by kernel_rfl) (num_any n1 _) ?_
  rintro e w12 ⟨rfl, hw12⟩
  subst hw12
  refine ⟨_, rfl, hSf, ?_⟩
  simp only [Act.put, List.getElem_toArray, List.getElem_cons_succ, List.getElem_cons_zero, List.setIfInBounds_toArray, List.set_cons_zero, List.set_cons_succ]
  have hb0 : ((n1 : Int) == (n2 : Int)) = (n1 == n2) := by
    rw [Bool.eq_iff_iff]
    simp only [beq_iff_eq]
    omega
  refine S_take (i := 4) (v := .bool (n1 == n2)) rfl rfl (by kernel_rfl) (by kernel_rfl) (by kernel_rfl) (fun _ _ _ h => h) (Or.inl ⟨by rfl, fun w _ => by go_simp⟩) hSf ?_
  simp only [Act.put, List.getElem_toArray, List.getElem_cons_succ, List.getElem_cons_zero, List.setIfInBounds_toArray, List.set_cons_zero, List.set_cons_succ]
  refine S_take (i := 5) (v := .bool (n1 == n2)) rfl rfl (by kernel_rfl) (by kernel_rfl) (by kernel_rfl) (fun _ _ _ h => h) (Or.inl ⟨by rfl, fun w _ => by kernel_rfl⟩) hSf ?_
  simp only [Act.put, List.getElem_toArray, List.getElem_cons_succ, List.getElem_cons_zero, List.setIfInBounds_toArray, List.set_cons_zero, List.set_cons_succ]
  cases hnn : (n1 == n2) with
  | false =>
    refine S_take (i := 6) (v := undef) rfl rfl (by kernel_rfl) (by kernel_rfl) (by kernel_rfl) (fun _ _ _ h => h) (Or.inr ⟨by rfl, rfl⟩) hSf ?_
    simp only [Act.put, List.getElem_toArray, List.getElem_cons_succ, List.getElem_cons_zero, List.setIfInBounds_toArray, List.set_cons_zero, List.set_cons_succ]
    refine S_take (i := 7) (v := .bool false) rfl rfl (by kernel_rfl) (by kernel_rfl) (by kernel_rfl) (fun _ _ _ h => h) (Or.inl ⟨by rfl, fun w _ => by kernel_rfl⟩) hSf ?_
    simp only [Act.put, List.getElem_toArray, List.getElem_cons_succ, List.getElem_cons_zero, List.setIfInBounds_toArray, List.set_cons_zero, List.set_cons_succ]
    refine L_one (j := 8) (by kernel_rfl) rfl (by rfl) ?_
    simp only [Act.put, List.getElem_toArray, List.getElem_cons_succ, List.getElem_cons_zero, List.setIfInBounds_toArray, List.set_cons_zero, List.set_cons_succ]
    refine wp_store_blk 36 (.tmp 6) (.tmp 87) (by rfl) (w.heap.size + 2) _ (rv AA c AW cw l r) (by rfl) (by rfl) hB6 rfl rdisk_size (rl_one _ _ _ _ _ _ _ _ _ _) ?_
    intro w13 hB13 ho13 hs13
    have hS13 := hSf.only ho13 (by simp)
    refine ⟨hS13, ?_⟩
    simp only [Act.put, List.getElem_toArray, List.getElem_cons_succ, List.getElem_cons_zero, List.setIfInBounds_toArray, List.set_cons_zero, List.set_cons_succ]
    refine L_one (j := 9) (by kernel_rfl) rfl (by rfl) ?_
    simp only [Act.put, List.getElem_toArray, List.getElem_cons_succ, List.getElem_cons_zero, List.setIfInBounds_toArray, List.set_cons_zero, List.set_cons_succ]
    refine wp_yields (v := .bool false) (by kernel_rfl) ⟨hS13, ?_⟩
    simp only [Act.put, List.getElem_toArray, List.getElem_cons_succ, List.getElem_cons_zero, List.setIfInBounds_toArray, List.set_cons_zero, List.set_cons_succ]
    refine L_done (by kernel_rfl) ?_
    refine NoPanic.normal ?_
    have HB13 := Lib.hid hB13
    clear hB13 hS13 hSf
    go_wp2
    refine bodyPost_ret (results_cell_tmp rfl _ _ (w.heap.size + 2) 36 _ (0, 0) _ _ rfl rfl HB13.out hu rfl (by kernel_rfl)) rfl ?_
    obtain ⟨e1, e2⟩ := do_end H0.out h10 (keep_x H0.out HB.out (Keep.below GC.out (X := (w.heap.size + 2) :: (w.heap.size + 1) :: w.heap.size :: X) (fun k hk => H.out.xlt k hk)) (fun k hk => by simp [hk])) (fun k hk => .inl (H0.out.under k hk)) (Only.refl _ _).drew.drew ho13
    refine ⟨AA, c, AW, cw, l, false, by rw [HA.out]; rfl, by rw [HA.out, HA.out]; exact e1, e2, (fun k hk => .inl hk), fun hdr => ?_⟩
    subst hdr
    have : n1 = n2 := by rw [← hn1, ← hn2]
    simp [this] at hnn
  | true =>
    refine S_take (i := 6) (v := .bool sm) rfl rfl (by kernel_rfl) (by kernel_rfl) (by kernel_rfl) (fun _ _ _ h => h) (Or.inl ⟨by rfl, fun w _ => by kernel_rfl⟩) hSf ?_
    simp only [Act.put, List.getElem_toArray, List.getElem_cons_succ, List.getElem_cons_zero, List.setIfInBounds_toArray, List.set_cons_zero, List.set_cons_succ]
    refine S_take (i := 7) (v := .bool sm) rfl rfl (by kernel_rfl) (by kernel_rfl) (by kernel_rfl) (fun _ _ _ h => h) (Or.inl ⟨by rfl, fun w _ => by kernel_rfl⟩) hSf ?_
    simp only [Act.put, List.getElem_toArray, List.getElem_cons_succ, List.getElem_cons_zero, List.setIfInBounds_toArray, List.set_cons_zero, List.set_cons_succ]
    refine L_one (j := 8) (by kernel_rfl) rfl (by rfl) ?_
    simp only [Act.put, List.getElem_toArray, List.getElem_cons_succ, List.getElem_cons_zero, List.setIfInBounds_toArray, List.set_cons_zero, List.set_cons_succ]
    refine wp_store_blk 36 (.tmp 6) (.tmp 87) (by rfl) (w.heap.size + 2) _ (rv AA c AW cw l r) (by rfl) (by rfl) hB6 rfl rdisk_size (rl_one _ _ _ _ _ _ _ _ _ _) ?_
    intro w13 hB13 ho13 hs13
    have hS13 := hSf.only ho13 (by simp)
    refine ⟨hS13, ?_⟩
    simp only [Act.put, List.getElem_toArray, List.getElem_cons_succ, List.getElem_cons_zero, List.setIfInBounds_toArray, List.set_cons_zero, List.set_cons_succ]
    refine L_one (j := 9) (by kernel_rfl) rfl (by rfl) ?_
    simp only [Act.put, List.getElem_toArray, List.getElem_cons_succ, List.getElem_cons_zero, List.setIfInBounds_toArray, List.set_cons_zero, List.set_cons_succ]
    refine wp_yields (v := .bool sm) (by kernel_rfl) ⟨hS13, ?_⟩
    simp only [Act.put, List.getElem_toArray, List.getElem_cons_succ, List.getElem_cons_zero, List.setIfInBounds_toArray, List.set_cons_zero, List.set_cons_succ]
    refine L_done (by kernel_rfl) ?_
    refine NoPanic.normal ?_
    have HB13 := Lib.hid hB13
    clear hB13 hS13 hSf
    go_wp2
    refine bodyPost_ret (results_cell_tmp rfl _ _ (w.heap.size + 2) 36 _ (0, 0) _ _ rfl rfl HB13.out hu rfl (by kernel_rfl)) rfl ?_
    obtain ⟨e1, e2⟩ := do_end H0.out h10 (keep_x H0.out HB.out (Keep.below GC.out (X := (w.heap.size + 2) :: (w.heap.size + 1) :: w.heap.size :: X) (fun k hk => H.out.xlt k hk)) (fun k hk => by simp [hk])) (fun k hk => .inl (H0.out.under k hk)) (Only.refl _ _).drew.drew ho13
    refine ⟨AA, c, AW, cw, l, sm, by rw [HA.out]; rfl, by rw [HA.out, HA.out]; exact e1, e2, (fun k hk => .inl hk), fun hdr => ?_⟩
    subst hdr
    rw [← hsm, ← hX, ← hY]
    exact secEq_same _
end
end Go.Proofs.Ytgcghoalepkdfaa
