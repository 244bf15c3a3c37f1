/-
  An act by a disk and a plain one: what 'do' answers, where it flushes. Conditions: small numbers.
-/
import Derived.Test.YtgcghoalepkdfaaDo
import Derived.BigQuiet
namespace Go.Proofs.Ytgcghoalepkdfaa
open Go.RowKit
set_option linter.unusedSimpArgs false
set_option linter.unusedVariables false
section
variable {w0 w w' : World} {g : Nat} {d r : DM} {X : List Nat} {AA AW : Option Addr} {c cw l : Nat}
set_option maxRecDepth 100000 in
set_option maxHeartbeats 8000000 in
theorem do_flush (h : Two w0 w g d r X AA c AW cw l) (o : OpV) (hb : o.b < 256) (hd : Small d) (hr : Small r) (hk : o.kind = 2) :
    Calls Try.prog 15 #[.pointer (some ⟨g, 0, none⟩), .agg (rv AA c AW cw l r).toArray, .agg o.cs.toArray] w (DoTo w0 w g d r X AA AW o hb) := by
  have hz : ∀ w, (zeroValue 36).run Try.prog w = .ok (.agg (rl none 0 0 none 0 0 0 0 false false).toArray) w := rdisk_zero
  have hu := Try.underlying36
  obtain ⟨t0, t1, t2, hbw⟩ := three_blks w 36 40 36 (rv AA c AW cw l r).toArray o.cs.toArray (rl none 0 0 none 0 0 0 0 false false).toArray
  have H := Lib.hid (h.begin_ (rv AA c AW cw l r).toArray o.cs.toArray (rl none 0 0 none 0 0 0 0 false false).toArray 36 40 36)
  have T0 := Lib.hid t0
  have T1 := Lib.hid t1
  have T2 := Lib.hid t2
  have HB := Lib.hid hbw
  have H0 := Lib.hid h
  have S0 : ∀ w', Blk w' (w.heap.size + 1) 40 o.cs.toArray → w'.cell? ⟨w.heap.size + 1, 0, none⟩ = some (.int .i64 o.kind) := fun w' h => by rw [h.cell]; rfl
  have S1 : ∀ w', Blk w' (w.heap.size + 1) 40 o.cs.toArray → w'.cell? ⟨w.heap.size + 1, 1, none⟩ = some (.int .i64 o.n) := fun w' h => by rw [h.cell]; rfl
  have S3 : ∀ w', Blk w' (w.heap.size + 1) 40 o.cs.toArray → w'.cell? ⟨w.heap.size + 1, 3, none⟩ = some (.slice o.A o.keep.length o.c) := fun w' h => by rw [h.cell]; rfl
  have hact : ∀ x : DM, act o hb x = x.flush := fun x => by simp [act, hk]
  have HA := Lib.hid hact
  have hk1 : (o.kind == 1) = false := by simp [hk]
  have hk2 : (o.kind == 2) = true := by simp [hk]
  clear h t0 t1 t2 hbw hact
  go_enter Try.func15, Try.ntmps15
  go_upto_region 1 with (fail)
  generalize hwa : World.alloc _ (Obj.cells (rl none 0 0 none 0 0 0 0 false false).toArray 36) = wa at *
  have q0 := S0 _ T1.out
  clear hwa
  go_wp2_with fail
  refine (H.out.flush hd).mono ?_
  rintro e w8 ⟨rfl, h8, k8⟩
  have D0 := Lib.hid (k8.blk (by simp) T0.out)
  have D2 := Lib.hid (k8.blk (by simp) T2.out)
  have H8 := Lib.hid h8
  have K8 := Lib.hid k8
  clear h8 k8 q0
  go_wp2_with (first | (refine wpList_load_blk rfl 36 (.tmp 4) rfl w.heap.size (rv AA c AW cw l r) _ rfl D0.out hu rfl rdisk_size ?_))
  refine (two_flush H8.out hr).mono ?_
  rintro e w10 ⟨A1, c1, W1, cw1, l1, rfl, h10, b10, hn10⟩
  have D0' := Lib.hid (D0.out.below b10 D0.out.lt)
  go_wp2_with (first | (refine wpList_store_blk rfl 36 (.tmp 4) (.tmp 62) rfl w.heap.size _ (rv A1 c1 W1 cw1 l1 r.flush) rfl rfl D0'.out rfl rdisk_size (rl_one _ _ _ _ _ _ _ _ _ _) ?_; intro w11 hB11 ho11 hs11))
  have hB6 := (D2.out.below b10 D2.out.lt).only ho11 (by simp)
  generalize hn1 : d.stepErr = n1
  generalize hn2 : r.stepErr = n2
  refine any_beginL (fun w' => Blk w' w.heap.size 36 (rv A1 c1 W1 cw1 l1 r.flush).toArray) 99 (by kernel_rfl) ?_
  have hSf : Blk w11.drew w.heap.size 36 (rv A1 c1 W1 cw1 l1 r.flush).toArray := hB11
  refine S_take (i := 0) (v := .agg (rv A1 c1 W1 cw1 l1 r.flush).toArray) rfl rfl (by kernel_rfl) (by kernel_rfl) (by kernel_rfl) (fun _ _ _ h => h) (Or.inl ⟨by rfl, fun w hw => exec_load_blk 36 (.tmp 4) rfl _ _ _ rfl hw hu rfl rdisk_size⟩) hSf ?_
  simp only [Act.put, List.getElem_toArray, List.getElem_cons_succ, List.getElem_cons_zero, List.setIfInBounds_toArray, List.set_cons_zero, List.set_cons_succ]
  refine S_take (i := 1) (v := errV n1) rfl rfl (by kernel_rfl) (by kernel_rfl) (by kernel_rfl) (fun _ _ _ h => h) (Or.inl ⟨by rfl, fun w _ => by kernel_rfl⟩) hSf ?_
  simp only [Act.put, List.getElem_toArray, List.getElem_cons_succ, List.getElem_cons_zero, List.setIfInBounds_toArray, List.set_cons_zero, List.set_cons_succ]
  refine S_take (i := 3) (v := .int .i64 n2) rfl rfl (by kernel_rfl) (by kernel_rfl) (by kernel_rfl) (fun _ _ _ h => h) (Or.inl ⟨by rfl, fun w _ => by kernel_rfl⟩) hSf ?_
  simp only [Act.put, List.getElem_toArray, List.getElem_cons_succ, List.getElem_cons_zero, List.setIfInBounds_toArray, List.set_cons_zero, List.set_cons_succ]
  refine L_one (j := 2) (by kernel_rfl) rfl (by rfl) ?_
  simp only [Act.put, List.getElem_toArray, List.getElem_cons_succ, List.getElem_cons_zero, List.setIfInBounds_toArray, List.set_cons_zero, List.set_cons_succ]
  refine wp_called (by kernel_rfl) (num_any n1 _) ?_
  rintro e w12 ⟨rfl, hw12⟩
  subst hw12
  refine ⟨_, rfl, hSf, ?_⟩
  simp only [Act.put, List.getElem_toArray, List.getElem_cons_succ, List.getElem_cons_zero, List.setIfInBounds_toArray, List.set_cons_zero, List.set_cons_succ]
  have hb0 : ((n1 : Int) == (n2 : Int)) = (n1 == n2) := by
    rw [Bool.eq_iff_iff]
    simp only [beq_iff_eq]
    omega
  refine S_take (i := 4) (v := .bool (n1 == n2)) rfl rfl (by kernel_rfl) (by kernel_rfl) (by kernel_rfl) (fun _ _ _ h => h) (Or.inl ⟨by rfl, fun w _ => by go_simp⟩) hSf ?_
  simp only [Act.put, List.getElem_toArray, List.getElem_cons_succ, List.getElem_cons_zero, List.setIfInBounds_toArray, List.set_cons_zero, List.set_cons_succ]
  refine S_take (i := 5) (v := .bool (n1 == n2)) rfl rfl (by kernel_rfl) (by kernel_rfl) (by kernel_rfl) (fun _ _ _ h => h) (Or.inl ⟨by rfl, fun w _ => by kernel_rfl⟩) hSf ?_
  simp only [Act.put, List.getElem_toArray, List.getElem_cons_succ, List.getElem_cons_zero, List.setIfInBounds_toArray, List.set_cons_zero, List.set_cons_succ]
  cases hnn : (n1 == n2) with
  | false =>
    refine S_take (i := 6) (v := undef) rfl rfl (by kernel_rfl) (by kernel_rfl) (by kernel_rfl) (fun _ _ _ h => h) (Or.inr ⟨by rfl, rfl⟩) hSf ?_
    simp only [Act.put, List.getElem_toArray, List.getElem_cons_succ, List.getElem_cons_zero, List.setIfInBounds_toArray, List.set_cons_zero, List.set_cons_succ]
    refine S_take (i := 7) (v := .bool false) rfl rfl (by kernel_rfl) (by kernel_rfl) (by kernel_rfl) (fun _ _ _ h => h) (Or.inl ⟨by rfl, fun w _ => by kernel_rfl⟩) hSf ?_
    simp only [Act.put, List.getElem_toArray, List.getElem_cons_succ, List.getElem_cons_zero, List.setIfInBounds_toArray, List.set_cons_zero, List.set_cons_succ]
    refine L_one (j := 8) (by kernel_rfl) rfl (by rfl) ?_
    simp only [Act.put, List.getElem_toArray, List.getElem_cons_succ, List.getElem_cons_zero, List.setIfInBounds_toArray, List.set_cons_zero, List.set_cons_succ]
    refine wp_store_blk 36 (.tmp 6) (.tmp 87) (by rfl) (w.heap.size + 2) _ (rv A1 c1 W1 cw1 l1 r.flush) (by rfl) (by rfl) hB6 rfl rdisk_size (rl_one _ _ _ _ _ _ _ _ _ _) ?_
    intro w13 hB13 ho13 hs13
    have hS13 := hSf.only ho13 (by simp)
    refine ⟨hS13, ?_⟩
    simp only [Act.put, List.getElem_toArray, List.getElem_cons_succ, List.getElem_cons_zero, List.setIfInBounds_toArray, List.set_cons_zero, List.set_cons_succ]
    refine L_one (j := 9) (by kernel_rfl) rfl (by rfl) ?_
    simp only [Act.put, List.getElem_toArray, List.getElem_cons_succ, List.getElem_cons_zero, List.setIfInBounds_toArray, List.set_cons_zero, List.set_cons_succ]
    refine wp_yields (v := .bool false) (by kernel_rfl) ⟨hS13, ?_⟩
    simp only [Act.put, List.getElem_toArray, List.getElem_cons_succ, List.getElem_cons_zero, List.setIfInBounds_toArray, List.set_cons_zero, List.set_cons_succ]
    refine L_done (by kernel_rfl) ?_
    refine NoPanic.normal ?_
    have HB13 := Lib.hid hB13
    clear hB13 hS13 hSf
    go_wp2
    refine bodyPost_ret (results_cell_tmp rfl _ _ (w.heap.size + 2) 36 _ (0, 0) _ _ rfl rfl HB13.out hu rfl (by kernel_rfl)) rfl ?_
    obtain ⟨e1, e2⟩ := do_end H0.out h10 ((keep_x H0.out HB.out K8.out (fun k hk => by simp [hk])).trans (Keep.below b10 (fun k hk => H8.out.xlt k (by simp [hk])))) (fun k hk => by
      rcases hn10 k hk with h | h
      · exact .inl (H0.out.under k h)
      · have := D2.out.lt; omega) ho11.drew ho13
    refine ⟨A1, c1, W1, cw1, l1, false, by rw [HA.out]; rfl, by rw [HA.out, HA.out]; exact e1, e2, (fun k hk => (hn10 k hk).imp id (fun h => by have := D2.out.lt; omega)), fun hdr => ?_⟩
    subst hdr
    have : n1 = n2 := by rw [← hn1, ← hn2]
    simp [this] at hnn
  | true =>
    refine S_take (i := 6) (v := .bool true) rfl rfl (by kernel_rfl) (by kernel_rfl) (by kernel_rfl) (fun _ _ _ h => h) (Or.inl ⟨by rfl, fun w _ => by kernel_rfl⟩) hSf ?_
    simp only [Act.put, List.getElem_toArray, List.getElem_cons_succ, List.getElem_cons_zero, List.setIfInBounds_toArray, List.set_cons_zero, List.set_cons_succ]
    refine S_take (i := 7) (v := .bool true) rfl rfl (by kernel_rfl) (by kernel_rfl) (by kernel_rfl) (fun _ _ _ h => h) (Or.inl ⟨by rfl, fun w _ => by kernel_rfl⟩) hSf ?_
    simp only [Act.put, List.getElem_toArray, List.getElem_cons_succ, List.getElem_cons_zero, List.setIfInBounds_toArray, List.set_cons_zero, List.set_cons_succ]
    refine L_one (j := 8) (by kernel_rfl) rfl (by rfl) ?_
    simp only [Act.put, List.getElem_toArray, List.getElem_cons_succ, List.getElem_cons_zero, List.setIfInBounds_toArray, List.set_cons_zero, List.set_cons_succ]
    refine wp_store_blk 36 (.tmp 6) (.tmp 87) (by rfl) (w.heap.size + 2) _ (rv A1 c1 W1 cw1 l1 r.flush) (by rfl) (by rfl) hB6 rfl rdisk_size (rl_one _ _ _ _ _ _ _ _ _ _) ?_
    intro w13 hB13 ho13 hs13
    have hS13 := hSf.only ho13 (by simp)
    refine ⟨hS13, ?_⟩
    simp only [Act.put, List.getElem_toArray, List.getElem_cons_succ, List.getElem_cons_zero, List.setIfInBounds_toArray, List.set_cons_zero, List.set_cons_succ]
    refine L_one (j := 9) (by kernel_rfl) rfl (by rfl) ?_
    simp only [Act.put, List.getElem_toArray, List.getElem_cons_succ, List.getElem_cons_zero, List.setIfInBounds_toArray, List.set_cons_zero, List.set_cons_succ]
    refine wp_yields (v := .bool true) (by kernel_rfl) ⟨hS13, ?_⟩
    simp only [Act.put, List.getElem_toArray, List.getElem_cons_succ, List.getElem_cons_zero, List.setIfInBounds_toArray, List.set_cons_zero, List.set_cons_succ]
    refine L_done (by kernel_rfl) ?_
    refine NoPanic.normal ?_
    have HB13 := Lib.hid hB13
    clear hB13 hS13 hSf
    go_wp2
    refine bodyPost_ret (results_cell_tmp rfl _ _ (w.heap.size + 2) 36 _ (0, 0) _ _ rfl rfl HB13.out hu rfl (by kernel_rfl)) rfl ?_
    obtain ⟨e1, e2⟩ := do_end H0.out h10 ((keep_x H0.out HB.out K8.out (fun k hk => by simp [hk])).trans (Keep.below b10 (fun k hk => H8.out.xlt k (by simp [hk])))) (fun k hk => by
      rcases hn10 k hk with h | h
      · exact .inl (H0.out.under k h)
      · have := D2.out.lt; omega) ho11.drew ho13
    refine ⟨A1, c1, W1, cw1, l1, true, by rw [HA.out]; rfl, by rw [HA.out, HA.out]; exact e1, e2, (fun k hk => (hn10 k hk).imp id (fun h => by have := D2.out.lt; omega)), fun hdr => ?_⟩
    rfl
end
end Go.Proofs.Ytgcghoalepkdfaa
