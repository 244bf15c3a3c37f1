/-
  Rows of sectors are put, and one of them fails: the journal is stuck, nothing else of it has changed. Conditions: all lies where it is said to; small numbers.
-/
import Derived.Test.YtpklcmocjimcpaaDoorZj
namespace Go.Proofs.YtpklcmocjimcpaaDoor
open Go.RowKit
set_option maxRecDepth 100000
set_option linter.unusedSimpArgs false
set_option linter.unusedVariables false
set_option maxRecDepth 100000 in
set_option maxHeartbeats 2000000 in
theorem write_bad {w0 w : World} {g gj : Nat} {d : DM} {X : List Nat} (h : Holds w0 w g d X) (J : Array Value) (hJ : Blk w gj 67 J) (hJ1 : J[2]? = some (.pointer (some ⟨g, 0, none⟩))) (hgj : gj ∈ X) (A : Option Addr) (c : Nat) (l : List RowV) (hA : ∀ k ∈ blkOf A, k ∈ X)
    (hR : Reads w w.heap.size 2 A l.length (l.flatMap RowV.cs)) (hrows : ∀ r ∈ l, (∀ k ∈ blkOf r.A, k ∈ X) ∧ Reads w w.heap.size 128 r.A r.ss.length (r.ss.flatMap Sec.cs) ∧ r.at_ + r.ss.length ≤ 1000000) (hf : Far d (stepsOf l)) (hll : l.length ≤ 1000) (hJs : 7 < J.size) (hgj0 : w0.heap.size ≤ gj) (hok : (d.putRows l).2 ≠ 0) :
    Calls Tryd.prog 30 #[.pointer (some ⟨gj, 0, none⟩), .slice A l.length c] w fun e w' => e = .returned (errV (d.putRows l).2) ∧ Holds w0 w' g (d.putRows l).1 X ∧ (∀ k ∈ X, k ≠ gj → w'.heap[k]? = w.heap[k]?) ∧ w.heap.size ≤ w'.heap.size ∧ Blk w' gj 67 (J.setIfInBounds 7 (.bool true)) := by
  have hXl : ∀ k ∈ X, k < w.heap.size := by obtain ⟨F, h1, h2, h3⟩ := h; exact fun k hk => (h3 k hk).2
  have H := Lib.hid h
  have HJ := Lib.hid hJ
  have HR := Lib.hid hR
  have HA := Lib.hid hA
  have HX := Lib.hid hXl
  have HRS := Lib.hid hrows
  have HOK := Lib.hid hok
  clear h hJ hR hA hXl hrows hok
  have hz := row_zero
  have hur := Tryd.underlying71
  go_enter Tryd.func30, Tryd.ntmps30
  go_wp2
  go_loopg [10] l.length (fun gk j wr => ∃ (k : Nat) (d' : DM), k ≤ l.length ∧ gk = l.length - k ∧ j = .int .i64 k ∧ Holds w0 wr g d' X ∧ Keep X w wr ∧ d'.putRows (l.drop k) = d.putRows l ∧ Far d' (stepsOf (l.drop k)))
  case atStart => exact ⟨0, d, by omega, by omega, rfl, H.out, ⟨Nat.le_refl _, fun _ _ => rfl⟩, by simp, by simpa using hf⟩
  case round =>
    obtain ⟨k, d', hk, rfl, rfl, hd, hkp, hpr, hfar⟩ := hrel
    by_cases hlt : k < l.length
    · have hR1 : Reads wr wr.heap.size 2 A l.length (l.flatMap RowV.cs) := HR.out.blk (fun q hq => hkp.2 q (HA.out q hq)) hkp.1
      obtain ⟨ad, r, rfl, hadb, hr, hc⟩ := reads_row hR1 hlt
      obtain ⟨hrA, hrR, hri⟩ := HRS.out r (List.mem_of_getElem? hr)
      have hdrop : l.drop k = r :: l.drop (k + 1) := by
        rw [List.drop_eq_getElem_cons hlt]
        congr 1
        exact Option.some.inj ((List.getElem?_eq_getElem hlt).symm.trans hr)
      have hunf : d'.putRows (l.drop k) = if (d'.putRow r.at_ r.ss).2 = 0 then (d'.putRow r.at_ r.ss).1.putRows (l.drop (k + 1)) else d'.putRow r.at_ r.ss := by
        rw [hdrop]; rfl
      rw [hpr] at hunf
      by_cases hzero : (d'.putRow r.at_ r.ss).2 = 0
      · rw [if_pos hzero] at hunf
        have hst : stepsOf (l.drop k) = stepsOf (l.drop (k + 1)) + r.ss.length + 1 := by
          rw [hdrop]; unfold stepsOf; simp; omega
        rw [hst] at hfar
        have hfw := Far.putRow r.ss d' r.at_ _ hfar
        have BX := Lib.hid (Blk.new wr 71 r.cs.toArray)
        have DX := Lib.hid (hd.push (.cells r.cs.toArray 71))
        have hal : Below wr.heap.size wr (wr.alloc (.cells r.cs.toArray 71)) := (Below.refl _ _).alloc (Nat.le_refl _) _
        have hX1 : ∀ q ∈ X, q < wr.heap.size := fun q hq => Nat.lt_of_lt_of_le (HX.out q hq) hkp.1
        have KX := Lib.hid (hkp.trans (Keep.below hal hX1))
        have BJ := Lib.hid ((hkp.blk hgj HJ.out).alloc (.cells r.cs.toArray 71))
        have RR := Lib.hid (hrR.blk (w' := wr.alloc (.cells r.cs.toArray 71)) (B' := (wr.alloc (.cells r.cs.toArray 71)).heap.size) (fun q hq => KX.out.2 q (hrA q hq)) KX.out.1)
        have HUN := Lib.hid hunf
        have HZE := Lib.hid hzero
        have HFW := Lib.hid hfw
        have HFA := Lib.hid (hfar.less (show r.ss.length + 1 ≤ stepsOf (l.drop (k + 1)) + r.ss.length + 1 by omega))
        have hi2 : (Tryd.prog.info? 71).map (·.size) = some r.cs.length := row_size
        clear hd hkp hpr hfar hR1 hr hdrop hunf hfw hX1 hst hzero hal hrR
        go_wp2_with (first
          | (refine wpList_load_at rfl 71 (.tmp 12) rfl _ rfl r.cs _ hc hur rfl hi2 ?_)
          | (refine wpList_store_newN rfl 71 (.tmp 6) (.tmp 13) rfl wr.heap.size rfl r.cs _ rfl rfl hi2 rfl r.one ?_))
        have hSx : Blk (wr.alloc (.cells r.cs.toArray 71)).drew wr.heap.size 71 r.cs.toArray ∧ Blk (wr.alloc (.cells r.cs.toArray 71)).drew gj 67 J := ⟨BX.out, BJ.out⟩
        refine any_beginL (fun w' => Blk w' wr.heap.size 71 r.cs.toArray ∧ Blk w' gj 67 J) 99 (by kernel_rfl) ?_
        refine S_take (i := 0) (v := .agg r.cs.toArray) rfl rfl (by kernel_rfl) (by kernel_rfl) (by kernel_rfl) (fun _ _ _ h => h) (Or.inl ⟨by rfl, fun w hw => exec_load_blk1 71 (.tmp 6) rfl _ _ _ rfl hw.1 hur rfl hi2⟩) hSx ?_
        simp only [Act.put, List.getElem_toArray, List.getElem_cons_succ, List.getElem_cons_zero, List.setIfInBounds_toArray, List.set_cons_zero, List.set_cons_succ]
        refine S_take (i := 1) (v := .pointer (some ⟨gj, 0, none⟩)) rfl rfl (by kernel_rfl) (by kernel_rfl) (by kernel_rfl) (fun _ _ _ h => h) (Or.inl ⟨by rfl, fun w _ => by kernel_rfl⟩) hSx ?_
        simp only [Act.put, List.getElem_toArray, List.getElem_cons_succ, List.getElem_cons_zero, List.setIfInBounds_toArray, List.set_cons_zero, List.set_cons_succ]
        refine S_take (i := 2) (v := .pointer (some ⟨gj, 0, none⟩)) rfl rfl (by kernel_rfl) (by kernel_rfl) (by kernel_rfl) (fun _ _ _ h => h) (Or.inl ⟨by rfl, fun w _ => by go_simp⟩) hSx ?_
        simp only [Act.put, List.getElem_toArray, List.getElem_cons_succ, List.getElem_cons_zero, List.setIfInBounds_toArray, List.set_cons_zero, List.set_cons_succ]
        refine S_take (i := 3) (v := .pointer (some ⟨gj, 2, none⟩)) rfl rfl (by kernel_rfl) (by kernel_rfl) (by kernel_rfl) (fun _ _ _ h => h) (Or.inl ⟨by rfl, fun w _ => by kernel_rfl⟩) hSx ?_
        simp only [Act.put, List.getElem_toArray, List.getElem_cons_succ, List.getElem_cons_zero, List.setIfInBounds_toArray, List.set_cons_zero, List.set_cons_succ]
        refine S_take (i := 4) (v := .pointer (some ⟨g, 0, none⟩)) rfl rfl (by kernel_rfl) (by kernel_rfl) (by kernel_rfl) (fun _ _ _ h => h) (Or.inl ⟨by rfl, fun w hw => by have q : w.cell? ⟨gj, 2, none⟩ = some (.pointer (some ⟨g, 0, none⟩)) := (hw.2.cell 2).trans hJ1; go_simp⟩) hSx ?_
        simp only [Act.put, List.getElem_toArray, List.getElem_cons_succ, List.getElem_cons_zero, List.setIfInBounds_toArray, List.set_cons_zero, List.set_cons_succ]
        refine L_one (j := 5) (by kernel_rfl) rfl (by rfl) ?_
        simp only [Act.put, List.getElem_toArray, List.getElem_cons_succ, List.getElem_cons_zero, List.setIfInBounds_toArray, List.set_cons_zero, List.set_cons_succ]
        refine wp_called (by kernel_rfl) (rowPut_any DX.out.drew r.A r.c r.at_ r.ss (fun q hq => List.mem_cons_of_mem _ (hrA q hq)) RR.out HFA.out hri) ?_
        rintro e w6 ⟨rfl, h6, k6⟩
        rw [HZE.out]
        have k6' : Keep (wr.heap.size :: X) (wr.alloc (.cells r.cs.toArray 71)) w6 := ⟨k6.1, k6.2⟩
        have hS6 : Blk w6 wr.heap.size 71 r.cs.toArray ∧ Blk w6 gj 67 J := ⟨k6'.blk (by simp) BX.out, k6'.blk (by simp [hgj]) BJ.out⟩
        refine ⟨_, rfl, hS6, ?_⟩
        simp only [Act.put, List.getElem_toArray, List.getElem_cons_succ, List.getElem_cons_zero, List.setIfInBounds_toArray, List.set_cons_zero, List.set_cons_succ]
        refine L_one (j := 6) (by kernel_rfl) rfl (by rfl) ?_
        simp only [Act.put, List.getElem_toArray, List.getElem_cons_succ, List.getElem_cons_zero, List.setIfInBounds_toArray, List.set_cons_zero, List.set_cons_succ]
        refine wp_yields (v := .nilIface) (by kernel_rfl) ⟨hS6, ?_⟩
        simp only [Act.put, List.getElem_toArray, List.getElem_cons_succ, List.getElem_cons_zero, List.setIfInBounds_toArray, List.set_cons_zero, List.set_cons_succ]
        refine L_done (by kernel_rfl) ?_
        refine NoPanic.normal ?_
        have H6 := Lib.hid (h6.mono (Y := X) (fun q hq => List.mem_cons_of_mem _ hq))
        have K6 := Lib.hid (KX.out.trans (Keep.mono k6' (Y := X) (fun q hq => List.mem_cons_of_mem _ hq)))
        clear h6 k6 k6' hS6 hSx
        go_wp2
        go_roundg (l.length - (k + 1))
        case measure => omega
        case rel => exact ⟨k + 1, _, by omega, rfl, by go_num, H6.out, K6.out, HUN.out.symm, HFW.out⟩
      · rw [if_neg hzero] at hunf
        have hst : stepsOf (l.drop k) = stepsOf (l.drop (k + 1)) + r.ss.length + 1 := by
          rw [hdrop]; unfold stepsOf; simp; omega
        rw [hst] at hfar
        have hfw := Far.putRow r.ss d' r.at_ _ hfar
        have BX := Lib.hid (Blk.new wr 71 r.cs.toArray)
        have DX := Lib.hid (hd.push (.cells r.cs.toArray 71))
        have hal : Below wr.heap.size wr (wr.alloc (.cells r.cs.toArray 71)) := (Below.refl _ _).alloc (Nat.le_refl _) _
        have hX1 : ∀ q ∈ X, q < wr.heap.size := fun q hq => Nat.lt_of_lt_of_le (HX.out q hq) hkp.1
        have KX := Lib.hid (hkp.trans (Keep.below hal hX1))
        have BJ := Lib.hid ((hkp.blk hgj HJ.out).alloc (.cells r.cs.toArray 71))
        have RR := Lib.hid (hrR.blk (w' := wr.alloc (.cells r.cs.toArray 71)) (B' := (wr.alloc (.cells r.cs.toArray 71)).heap.size) (fun q hq => KX.out.2 q (hrA q hq)) KX.out.1)
        have HUN := Lib.hid hunf
        have HZE := Lib.hid hzero
        have HFW := Lib.hid hfw
        have HFA := Lib.hid (hfar.less (show r.ss.length + 1 ≤ stepsOf (l.drop (k + 1)) + r.ss.length + 1 by omega))
        have hi2 : (Tryd.prog.info? 71).map (·.size) = some r.cs.length := row_size
        clear hd hkp hpr hfar hR1 hr hdrop hunf hfw hX1 hst hzero hal hrR
        go_wp2_with (first
          | (refine wpList_load_at rfl 71 (.tmp 12) rfl _ rfl r.cs _ hc hur rfl hi2 ?_)
          | (refine wpList_store_newN rfl 71 (.tmp 6) (.tmp 13) rfl wr.heap.size rfl r.cs _ rfl rfl hi2 rfl r.one ?_))
        have hSx : Blk (wr.alloc (.cells r.cs.toArray 71)).drew wr.heap.size 71 r.cs.toArray ∧ Blk (wr.alloc (.cells r.cs.toArray 71)).drew gj 67 J := ⟨BX.out, BJ.out⟩
        refine any_beginL (fun w' => Blk w' wr.heap.size 71 r.cs.toArray ∧ Blk w' gj 67 J) 99 (by kernel_rfl) ?_
        refine S_take (i := 0) (v := .agg r.cs.toArray) rfl rfl (by kernel_rfl) (by kernel_rfl) (by kernel_rfl) (fun _ _ _ h => h) (Or.inl ⟨by rfl, fun w hw => exec_load_blk1 71 (.tmp 6) rfl _ _ _ rfl hw.1 hur rfl hi2⟩) hSx ?_
        simp only [Act.put, List.getElem_toArray, List.getElem_cons_succ, List.getElem_cons_zero, List.setIfInBounds_toArray, List.set_cons_zero, List.set_cons_succ]
        refine S_take (i := 1) (v := .pointer (some ⟨gj, 0, none⟩)) rfl rfl (by kernel_rfl) (by kernel_rfl) (by kernel_rfl) (fun _ _ _ h => h) (Or.inl ⟨by rfl, fun w _ => by kernel_rfl⟩) hSx ?_
        simp only [Act.put, List.getElem_toArray, List.getElem_cons_succ, List.getElem_cons_zero, List.setIfInBounds_toArray, List.set_cons_zero, List.set_cons_succ]
        refine S_take (i := 2) (v := .pointer (some ⟨gj, 0, none⟩)) rfl rfl (by kernel_rfl) (by kernel_rfl) (by kernel_rfl) (fun _ _ _ h => h) (Or.inl ⟨by rfl, fun w _ => by go_simp⟩) hSx ?_
        simp only [Act.put, List.getElem_toArray, List.getElem_cons_succ, List.getElem_cons_zero, List.setIfInBounds_toArray, List.set_cons_zero, List.set_cons_succ]
        refine S_take (i := 3) (v := .pointer (some ⟨gj, 2, none⟩)) rfl rfl (by kernel_rfl) (by kernel_rfl) (by kernel_rfl) (fun _ _ _ h => h) (Or.inl ⟨by rfl, fun w _ => by kernel_rfl⟩) hSx ?_
        simp only [Act.put, List.getElem_toArray, List.getElem_cons_succ, List.getElem_cons_zero, List.setIfInBounds_toArray, List.set_cons_zero, List.set_cons_succ]
        refine S_take (i := 4) (v := .pointer (some ⟨g, 0, none⟩)) rfl rfl (by kernel_rfl) (by kernel_rfl) (by kernel_rfl) (fun _ _ _ h => h) (Or.inl ⟨by rfl, fun w hw => by have q : w.cell? ⟨gj, 2, none⟩ = some (.pointer (some ⟨g, 0, none⟩)) := (hw.2.cell 2).trans hJ1; go_simp⟩) hSx ?_
        simp only [Act.put, List.getElem_toArray, List.getElem_cons_succ, List.getElem_cons_zero, List.setIfInBounds_toArray, List.set_cons_zero, List.set_cons_succ]
        refine L_one (j := 5) (by kernel_rfl) rfl (by rfl) ?_
        simp only [Act.put, List.getElem_toArray, List.getElem_cons_succ, List.getElem_cons_zero, List.setIfInBounds_toArray, List.set_cons_zero, List.set_cons_succ]
        refine wp_called (by kernel_rfl) (rowPut_any DX.out.drew r.A r.c r.at_ r.ss (fun q hq => List.mem_cons_of_mem _ (hrA q hq)) RR.out HFA.out hri) ?_
        rintro e w6 ⟨rfl, h6, k6⟩
        have k6' : Keep (wr.heap.size :: X) (wr.alloc (.cells r.cs.toArray 71)) w6 := ⟨k6.1, k6.2⟩
        have hS6 : Blk w6 wr.heap.size 71 r.cs.toArray ∧ Blk w6 gj 67 J := ⟨k6'.blk (by simp) BX.out, k6'.blk (by simp [hgj]) BJ.out⟩
        obtain ⟨m, hm⟩ : ∃ m, (d'.putRow r.at_ r.ss).2 = m + 1 := ⟨(d'.putRow r.at_ r.ss).2 - 1, by have := HZE.out; omega⟩
        have HM := Lib.hid hm
        rw [hm]
        clear hm
        refine ⟨_, rfl, hS6, ?_⟩
        simp only [Act.put, List.getElem_toArray, List.getElem_cons_succ, List.getElem_cons_zero, List.setIfInBounds_toArray, List.set_cons_zero, List.set_cons_succ]
        refine L_one (j := 6) (by kernel_rfl) rfl (by rfl) ?_
        simp only [Act.put, List.getElem_toArray, List.getElem_cons_succ, List.getElem_cons_zero, List.setIfInBounds_toArray, List.set_cons_zero, List.set_cons_succ]
        refine wp_yields (v := errV (m + 1)) (by kernel_rfl) ⟨hS6, ?_⟩
        simp only [Act.put, List.getElem_toArray, List.getElem_cons_succ, List.getElem_cons_zero, List.setIfInBounds_toArray, List.set_cons_zero, List.set_cons_succ]
        refine L_done (by kernel_rfl) ?_
        refine NoPanic.normal ?_
        have H6 := Lib.hid (h6.mono (Y := X) (fun q hq => List.mem_cons_of_mem _ hq))
        have K6 := Lib.hid (KX.out.trans (Keep.mono k6' (Y := X) (fun q hq => List.mem_cons_of_mem _ hq)))
        have J6 := Lib.hid hS6.2
        clear h6 k6 k6' hS6 hSx
        simp only [errV]
        go_wp2_with (refine wpList_set_blk1 rfl 4 (.tmp 24) (.const (.bool true)) rfl gj 7 67 J (.bool true) rfl rfl J6.out hJs (by kernel_rfl) rfl ?_; intro w7 hJ7 ho7 hs7)
        go_ret
        have hres := HUN.out
        rw [hres, HM.out]
        refine ⟨rfl, H6.out.kept hgj ho7 hgj0, fun q hq hne => ?_, ?_, hJ7⟩
        · rw [ho7.block q (Nat.lt_of_lt_of_le (HX.out q hq) K6.out.1) (by simpa using hne)]
          exact K6.out.2 q hq
        · have := K6.out.1; have := ho7.size; omega
    · obtain rfl : k = l.length := by omega
      rw [List.drop_length] at hpr
      have hse : d.putRows l = (d', 0) := hpr.symm
      exact absurd (by rw [hse]) HOK.out
theorem putRows_two (d : DM) (r1 r2 : RowV) : d.putRows [r1, r2] = if (d.putRow r1.at_ r1.ss).2 = 0 then (d.putRow r1.at_ r1.ss).1.putRow r2.at_ r2.ss else d.putRow r1.at_ r1.ss := by
  unfold DM.putRows
  by_cases h1 : (d.putRow r1.at_ r1.ss).2 = 0
  · rw [if_pos h1, if_pos h1]
    unfold DM.putRows
    by_cases h2 : ((d.putRow r1.at_ r1.ss).1.putRow r2.at_ r2.ss).2 = 0
    · rw [if_pos h2]
      unfold DM.putRows
      exact Prod.ext rfl h2.symm
    · rw [if_neg h2]
  · rw [if_neg h1, if_neg h1]
theorem ckpt_rows_any (n g : Nat) (d : DM) (st : List Nat) (A B : Option Addr) (c b : Nat) : d.putRows [⟨stateAt n g, A, c, bodyS 2 g 0 st⟩, ⟨g % 2, B, b, topS g st⟩] = d.ckpt n g st := putRows_two d _ _
theorem jadd_rows_any (n g used : Nat) (d : DM) (tx : List Nat) (A B : Option Addr) (c b : Nat) : d.putRows [⟨logAt n + used, A, c, bodyS 3 g used tx⟩, ⟨logAt n + (used + pn tx), B, b, endS g (used + pn tx) (pn tx)⟩] = d.app n g used tx := putRows_two d _ _
set_option maxRecDepth 100000 in
set_option maxHeartbeats 4000000 in
theorem begin_bad {w0 w : World} {g gj n gen0 used : Nat} {vs vt : Value} {d : DM} {X : List Nat} (h : Holds w0 w g d X) (hJ : Blk w gj 67 (jcells n g gen0 vs vt used false)) (hgj : gj ∈ X) (hgj0 : w0.heap.size ≤ gj) (hn : n ≤ 4096)
    (gen : Nat) (hgen : gen ≤ 4611686018427387904) (A : Option Addr) (c : Nat) (st : List Nat) (hst : Bytes w w.heap.size A st.length st) (hl : st.length ≤ 5000) (hlc : st.length ≤ c) (hcm : c ≤ 9223372036854775807)
    (hT : Tab w) (hw0 : 0 < w0.heap.size) (hAx : 0 < st.length → ∀ k ∈ blkOf A, k ∈ X) (hf : Far d (pn st + 3)) (hok : (d.ckpt n gen st).2 ≠ 0) :
    Calls Tryd.prog 31 #[.pointer (some ⟨gj, 0, none⟩), .int .i64 gen, .slice A st.length c] w fun e w' => e = .returned (errV (d.ckpt n gen st).2) ∧ Holds w0 w' g (d.ckpt n gen st).1 X ∧ (∀ k ∈ X, k ≠ gj → w'.heap[k]? = w.heap[k]?) ∧ w.heap.size ≤ w'.heap.size := by
  have hpos : 0 < w.heap.size := Nat.lt_of_lt_of_le hw0 h.size
  have hXl : ∀ k ∈ X, k < w.heap.size := by obtain ⟨F, h1, h2, h3⟩ := h; exact fun k hk => (h3 k hk).2
  have h256 := hst.2
  have H := Lib.hid h
  have HJ := Lib.hid hJ
  have HS := Lib.hid hst
  have HT := Lib.hid hT
  have HX := Lib.hid hXl
  have HOK := Lib.hid hok
  have hpn : pn st ≤ 48 := by unfold pn; omega
  clear h hJ hst hT hXl hok
  go_enter Tryd.func31, Tryd.ntmps31
  go_wp2_with fail
  refine (parts_any A c st w HS.out hl hlc hcm).mono ?_
  rintro e w1 ⟨v, rs, rfl, hrow, hown, -, b1⟩
  obtain ⟨Av, cv, rfl⟩ : ∃ Av cv, v = .slice Av (pn st) cv := by
    rcases hrow.2 with ⟨rfl, hn⟩ | ⟨g', cap, cur, rfl, _⟩
    · rw [hn]; exact ⟨_, _, rfl⟩
    · exact ⟨_, _, rfl⟩
  have hRB : RowsB w1 w1.heap.size Av (pn st) rs (prow st) := ⟨Reads.of_own hrow, fun i hi => by
    obtain ⟨A', c', h1, h2, h3, -⟩ := (hown i hi).form
    refine ⟨A', c', h1, ?_, fun b hb => h256 b (List.mem_of_mem_drop (List.mem_of_mem_take hb))⟩
    have := hown i hi
    rw [h1] at this
    exact Reads.of_own this⟩
  have HRB := Lib.hid hRB
  have B1 := Lib.hid b1
  have hs1 := b1.size
  clear hrow hown hRB b1
  go_wp2_with fail
  refine (jsealed_any 2 gen 0 Av (pn st) cv rs (prow st) w1 (by omega) (by omega) HRB.out (tab_below HT.out B1.out hpos) (Nat.lt_of_lt_of_le hpos B1.out.size) (fun i hi => seal_ok (by simp [isBoxB]; omega) (prow_small _ _))).mono ?_
  rintro e w2 ⟨v, rfl, hrow, b2⟩
  obtain ⟨As, cs, rfl⟩ := slice_of hrow
  rw [show ((2 : Int)) = ((2 : Nat) : Int) from rfl] at hrow
  rw [body_cells] at hrow
  have HRW := Lib.hid hrow
  have B2 := Lib.hid (B1.out.trans (b2.mono B1.out.size))
  clear hrow b2 HRB
  go_wp2_with fail
  refine (jpacked_any st.length w2).mono ?_
  rintro e w3 ⟨A3, c3, rfl, hown3, b3⟩
  have B3 := Lib.hid (B2.out.trans (b3.mono B2.out.size))
  have RW3 := Lib.hid (row_of HRW.out fun x hx => b3.block x (row_under HRW.out x hx))
  have HO3 := Lib.hid hown3
  clear hown3 b3 HRW
  go_wp2_with fail
  have hRB2 : RowsB (w3.alloc (.cells #[.slice A3 8 c3] 34)) (w3.alloc (.cells #[.slice A3 8 c3] 34)).heap.size (some ⟨w3.heap.size, 0, none⟩) 1 (fun _ => .slice A3 8 c3) (fun _ => numB st.length) := by
    refine ⟨?_, fun i _ => ⟨A3, c3, by rw [numB_len], ?_, numB_lt _⟩⟩
    · have := Reads.new w3 [.slice A3 8 c3] 34 (0, 0)
      simpa using this
    · have := (Reads.of_own HO3.out).alloc (Nat.le_refl _) (.cells #[.slice A3 8 c3] 34)
      rw [numB_len]
      exact this.more (by simp)
  have B4 := Lib.hid (B3.out.alloc B3.out.size (.cells #[.slice A3 8 c3] 34))
  have RW4 := Lib.hid (RW3.out.alloc (.cells #[.slice A3 8 c3] 34))
  generalize w3.alloc (.cells #[.slice A3 8 c3] 34) = w4 at *
  refine (jsealed_any 1 gen 0 _ 1 1 _ _ w4 (by omega) (by omega) hRB2 (tab_below HT.out B4.out hpos) (Nat.lt_of_lt_of_le hpos B4.out.size) (fun i hi => seal_ok (by simp [isBoxB]; omega) (by rw [numB_len]; omega))).mono ?_
  rintro e w5 ⟨v, rfl, hrow, b5⟩
  obtain ⟨At, ct, rfl⟩ := slice_of hrow
  rw [top_cells] at hrow
  have RT5 := Lib.hid hrow
  have B5 := Lib.hid (B4.out.trans (b5.mono B4.out.size))
  have RW5 := Lib.hid (row_of RW4.out fun x hx => b5.block x (row_under RW4.out x hx))
  have hgl := HX.out gj hgj
  have J5 := Lib.hid (HJ.out.below B5.out hgl)
  have hul := Tryd.underlying64
  have hzr := row_zero
  have hzl2 : ∀ w, (zeroValue 64).run Tryd.prog w = .ok (.agg #[.int .i64 0, .int .i64 0]) w := fun w => by kernel_rfl
  clear hrow b5 hRB2 HO3 RW3 RW4 B1 B2 B3
  go_wp2_with (first
    | (refine wpList_load_mid rfl 64 (.tmp 36) rfl gj 0 rfl [.int .i64 (areaOf n), .int .i64 (logOf n)] _ (layout_range J5.out) hul rfl layout_size ?_)
    | (go_at_call 48; refine (stateAt_any n gen _ hn).mono ?_; rintro e w6 ⟨rfl, b6⟩)
    | (go_at_call 49; refine (topAt_any gen _).mono ?_; rintro e w' ⟨rfl, rfl⟩))
  have hcells : (#[.int .i64 (stateAt n gen), .slice As (pn st) cs, .int .i64 ((gen : Int) % 2), .slice At 1 ct] : Array Value) = (([⟨stateAt n gen, As, cs, bodyS 2 gen 0 st⟩, ⟨gen % 2, At, ct, topS gen st⟩] : List RowV).flatMap RowV.cs).toArray := by
    simp [RowV.cs, body_len, topS]
  have hmod : (((gen % 2 : Nat) : Nat) : Int) = (gen : Int) % 2 := by omega
  try rw [hmod]
  rw [hcells]
  have B6 := B5.out.trans (b6.mono B5.out.size)
  have RW6 := row_of RW5.out fun x hx => b6.block x (row_under RW5.out x hx)
  have RT6 := row_of RT5.out fun x hx => b6.block x (row_under RT5.out x hx)
  have J6 := J5.out.below b6 J5.out.lt
  have hB7 := B6.alloc B6.size (.cells (([⟨stateAt n gen, As, cs, bodyS 2 gen 0 st⟩, ⟨gen % 2, At, ct, topS gen st⟩] : List RowV).flatMap RowV.cs).toArray 71)
  have RW7 := RW6.alloc (.cells (([⟨stateAt n gen, As, cs, bodyS 2 gen 0 st⟩, ⟨gen % 2, At, ct, topS gen st⟩] : List RowV).flatMap RowV.cs).toArray 71)
  have RT7 := RT6.alloc (.cells (([⟨stateAt n gen, As, cs, bodyS 2 gen 0 st⟩, ⟨gen % 2, At, ct, topS gen st⟩] : List RowV).flatMap RowV.cs).toArray 71)
  have J7 := Lib.hid (J6.alloc (.cells (([⟨stateAt n gen, As, cs, bodyS 2 gen 0 st⟩, ⟨gen % 2, At, ct, topS gen st⟩] : List RowV).flatMap RowV.cs).toArray 71))
  have BR := Blk.new w6 71 (([⟨stateAt n gen, As, cs, bodyS 2 gen 0 st⟩, ⟨gen % 2, At, ct, topS gen st⟩] : List RowV).flatMap RowV.cs).toArray
  have hrr := Reads.newN w6 (([⟨stateAt n gen, As, cs, bodyS 2 gen 0 st⟩, ⟨gen % 2, At, ct, topS gen st⟩] : List RowV).flatMap RowV.cs) 2 2 71 (0, 0) rfl
  have hs4 := B4.out.size
  have hX' : ∀ k ∈ w6.heap.size :: (blkOf As ++ blkOf At), w.heap.size ≤ k ∧ k < (w6.alloc (.cells (([⟨stateAt n gen, As, cs, bodyS 2 gen 0 st⟩, ⟨gen % 2, At, ct, topS gen st⟩] : List RowV).flatMap RowV.cs).toArray 71)).heap.size := fun k hk => by
    simp only [List.mem_cons, List.mem_append] at hk
    rcases hk with rfl | hk | hk
    · exact ⟨B6.size, by simp⟩
    · have := own_blk_in RW7 k hk; omega
    · have := own_blk_in RT7 k hk; omega
  have H7 := Lib.hid (H.out.more hB7 hX')
  have ho2 := ckpt_rows_any n gen d st As At cs ct
  have hsa := stateAt_small (g := gen) hn
  have hfar : Far d (stepsOf ([⟨stateAt n gen, As, cs, bodyS 2 gen 0 st⟩, ⟨gen % 2, At, ct, topS gen st⟩] : List RowV)) := hf.less (by simp [stepsOf, body_len, topS])
  have HRW7 := Lib.hid (Reads.of_own RW7)
  have HRT7 := Lib.hid (Reads.of_own RT7)
  have HB7 := Lib.hid hB7
  have hrr' := Lib.hid (hrr.more (B' := (w6.alloc (.cells (([⟨stateAt n gen, As, cs, bodyS 2 gen 0 st⟩, ⟨gen % 2, At, ct, topS gen st⟩] : List RowV).flatMap RowV.cs).toArray 71)).heap.size) (by simp))
  have hrows : ∀ r ∈ ([⟨stateAt n gen, As, cs, bodyS 2 gen 0 st⟩, ⟨gen % 2, At, ct, topS gen st⟩] : List RowV), (∀ k ∈ blkOf r.A, k ∈ w6.heap.size :: (blkOf As ++ blkOf At) ++ X) ∧ Reads (w6.alloc (.cells (([⟨stateAt n gen, As, cs, bodyS 2 gen 0 st⟩, ⟨gen % 2, At, ct, topS gen st⟩] : List RowV).flatMap RowV.cs).toArray 71)) (w6.alloc (.cells (([⟨stateAt n gen, As, cs, bodyS 2 gen 0 st⟩, ⟨gen % 2, At, ct, topS gen st⟩] : List RowV).flatMap RowV.cs).toArray 71)).heap.size 128 r.A r.ss.length (r.ss.flatMap Sec.cs) ∧ r.at_ + r.ss.length ≤ 1000000 := by
    intro r hr
    simp only [List.mem_cons, List.not_mem_nil, or_false] at hr
    rcases hr with rfl | rfl
    · refine ⟨fun k hk => by simp [show k ∈ blkOf As from hk], ?_, ?_⟩
      · show Reads _ _ 128 As (bodyS 2 gen 0 st).length _
        rw [body_len]
        exact HRW7.out
      · show stateAt n gen + (bodyS 2 gen 0 st).length ≤ _
        rw [body_len]; omega
    · refine ⟨fun k hk => by simp [show k ∈ blkOf At from hk], HRT7.out, ?_⟩
      show gen % 2 + 1 ≤ _
      omega
  have HRS := Lib.hid hrows
  clear hrows RW6 RT6 J6 RW7 RT7 hB7 B6 hcells hrr
  generalize hwx : w6.alloc (.cells (([⟨stateAt n gen, As, cs, bodyS 2 gen 0 st⟩, ⟨gen % 2, At, ct, topS gen st⟩] : List RowV).flatMap RowV.cs).toArray 71) = wx at *
  refine (write_bad H7.out _ J7.out rfl (by simp [hgj]) (some ⟨w6.heap.size, 0, none⟩) 2 [⟨stateAt n gen, As, cs, bodyS 2 gen 0 st⟩, ⟨gen % 2, At, ct, topS gen st⟩] (fun k hk => by simp [blkOf] at hk; simp [hk]) hrr'.out HRS.out hfar (by simp) (by simp [jcells]) hgj0 (by rw [ho2]; exact HOK.out)).mono ?_
  rintro e w8 ⟨rfl, h8, k8, s8, -⟩
  rw [ho2] at h8 ⊢
  obtain ⟨m, hm⟩ : ∃ m, (d.ckpt n gen st).2 = m + 1 := ⟨(d.ckpt n gen st).2 - 1, by have := HOK.out; omega⟩
  have HM := Lib.hid hm
  rw [hm]
  clear hm ho2
  have H8 := Lib.hid (h8.mono (Y := X) (fun k hk => List.mem_append_right _ hk))
  have hkx : ∀ k ∈ X, k ≠ gj → w8.heap[k]? = w.heap[k]? := fun k hk hne => (k8 k (List.mem_append_right _ hk) hne).trans (HB7.out.block k (HX.out k hk))
  have HKX := Lib.hid hkx
  have hsz8 : w.heap.size ≤ w8.heap.size := Nat.le_trans HB7.out.size s8
  clear h8 k8 hkx s8 H7 J7 HRS hrr' HRW7 HRT7
  simp only [errV]
  go_wp2
  go_ret
  rw [HM.out]
  exact ⟨rfl, H8.out, HKX.out, hsz8⟩
set_option maxRecDepth 100000 in
set_option maxHeartbeats 8000000 in
theorem add_bad {w0 w : World} {g gj n gen used : Nat} {vs vt : Value} {d : DM} {X : List Nat} (h : Holds w0 w g d X) (hJ : Blk w gj 67 (jcells n g gen vs vt used false)) (hgj : gj ∈ X) (hgj0 : w0.heap.size ≤ gj) (hn : n ≤ 4096)
    (hgen : gen ≤ 4611686018427387904) (hused : used ≤ 4096) (A : Option Addr) (c : Nat) (tx : List Nat) (hst : Bytes w w.heap.size A tx.length tx) (hl : tx.length ≤ 5000) (hlc : tx.length ≤ c) (hcm : c ≤ 9223372036854775807)
    (hT : Tab w) (hw0 : 0 < w0.heap.size) (hAx : ∀ k ∈ blkOf A, k ∈ X) (hf : Far d (pn tx + 3)) (hok : (d.app n gen used tx).2 ≠ 0)
    (nt : Nat) (us : List Value) (hus : w.ownsRow w0.heap.size 34 1 vt nt us) (hnt : nt ≤ 100000) (hvt : ∀ k ∈ rowOf vt, k ∈ X) :
    Calls Tryd.prog 34 #[.pointer (some ⟨gj, 0, none⟩), .slice A tx.length c] w fun e w' => e = .returned (errV (d.app n gen used tx).2) ∧ Holds w0 w' g (d.app n gen used tx).1 X ∧ (∀ k ∈ X, k ≠ gj → w'.heap[k]? = w.heap[k]?) ∧ w.heap.size ≤ w'.heap.size := by
  have hpos : 0 < w.heap.size := Nat.lt_of_lt_of_le hw0 h.size
  have hXl : ∀ k ∈ X, k < w.heap.size := by obtain ⟨F, h1, h2, h3⟩ := h; exact fun k hk => (h3 k hk).2
  have h256 := hst.2
  have hgl := hXl gj hgj
  have H := Lib.hid h
  have HJ := Lib.hid hJ
  have HS := Lib.hid hst
  have HT := Lib.hid hT
  have HX := Lib.hid hXl
  have HOK := Lib.hid hok
  have HU := Lib.hid hus
  have hpn : pn tx ≤ 48 := by unfold pn; omega
  clear h hJ hst hT hXl hok hus
  go_enter Tryd.func34, Tryd.ntmps34
  go_wp2
  have hS0 : Blk w.drew gj 67 (jcells n g gen vs vt used false) ∧ Below w.heap.size w w.drew := ⟨HJ.out, (Below.refl _ _).drew⟩
  refine any_beginL (fun w' => Blk w' gj 67 (jcells n g gen vs vt used false) ∧ Below w.heap.size w w') 99 (by kernel_rfl) ?_
  refine S_take (i := 0) (v := .pointer (some ⟨gj, 0, none⟩)) rfl rfl (by kernel_rfl) (by kernel_rfl) (by kernel_rfl) (fun _ _ _ h => h) (Or.inl ⟨by rfl, fun w hw => by kernel_rfl⟩) hS0 ?_
  simp only [Act.put, List.getElem_toArray, List.getElem_cons_succ, List.getElem_cons_zero, List.setIfInBounds_toArray, List.set_cons_zero, List.set_cons_succ]
  refine S_take (i := 1) (v := .pointer (some ⟨gj, 0, none⟩)) rfl rfl (by kernel_rfl) (by kernel_rfl) (by kernel_rfl) (fun _ _ _ h => h) (Or.inl ⟨by rfl, fun w hw => by go_simp⟩) hS0 ?_
  simp only [Act.put, List.getElem_toArray, List.getElem_cons_succ, List.getElem_cons_zero, List.setIfInBounds_toArray, List.set_cons_zero, List.set_cons_succ]
  refine S_take (i := 2) (v := .pointer (some ⟨gj, 3, none⟩)) rfl rfl (by kernel_rfl) (by kernel_rfl) (by kernel_rfl) (fun _ _ _ h => h) (Or.inl ⟨by rfl, fun w hw => by kernel_rfl⟩) hS0 ?_
  simp only [Act.put, List.getElem_toArray, List.getElem_cons_succ, List.getElem_cons_zero, List.setIfInBounds_toArray, List.set_cons_zero, List.set_cons_succ]
  refine S_take (i := 3) (v := .int .i64 gen) rfl rfl (by kernel_rfl) (by kernel_rfl) (by kernel_rfl) (fun _ _ _ h => h) (Or.inl ⟨by rfl, fun w hw => by have q : w.cell? ⟨_, 3, none⟩ = some (.int .i64 gen) := hw.1.cell 3; go_simp⟩) hS0 ?_
  simp only [Act.put, List.getElem_toArray, List.getElem_cons_succ, List.getElem_cons_zero, List.setIfInBounds_toArray, List.set_cons_zero, List.set_cons_succ]
  refine S_take (i := 4) (v := .pointer (some ⟨gj, 0, none⟩)) rfl rfl (by kernel_rfl) (by kernel_rfl) (by kernel_rfl) (fun _ _ _ h => h) (Or.inl ⟨by rfl, fun w hw => by kernel_rfl⟩) hS0 ?_
  simp only [Act.put, List.getElem_toArray, List.getElem_cons_succ, List.getElem_cons_zero, List.setIfInBounds_toArray, List.set_cons_zero, List.set_cons_succ]
  refine S_take (i := 5) (v := .pointer (some ⟨gj, 0, none⟩)) rfl rfl (by kernel_rfl) (by kernel_rfl) (by kernel_rfl) (fun _ _ _ h => h) (Or.inl ⟨by rfl, fun w hw => by go_simp⟩) hS0 ?_
  simp only [Act.put, List.getElem_toArray, List.getElem_cons_succ, List.getElem_cons_zero, List.setIfInBounds_toArray, List.set_cons_zero, List.set_cons_succ]
  refine S_take (i := 6) (v := .pointer (some ⟨gj, 6, none⟩)) rfl rfl (by kernel_rfl) (by kernel_rfl) (by kernel_rfl) (fun _ _ _ h => h) (Or.inl ⟨by rfl, fun w hw => by kernel_rfl⟩) hS0 ?_
  simp only [Act.put, List.getElem_toArray, List.getElem_cons_succ, List.getElem_cons_zero, List.setIfInBounds_toArray, List.set_cons_zero, List.set_cons_succ]
  refine S_take (i := 7) (v := .int .i64 used) rfl rfl (by kernel_rfl) (by kernel_rfl) (by kernel_rfl) (fun _ _ _ h => h) (Or.inl ⟨by rfl, fun w hw => by have q : w.cell? ⟨_, 6, none⟩ = some (.int .i64 used) := hw.1.cell 6; go_simp⟩) hS0 ?_
  simp only [Act.put, List.getElem_toArray, List.getElem_cons_succ, List.getElem_cons_zero, List.setIfInBounds_toArray, List.set_cons_zero, List.set_cons_succ]
  refine S_take (i := 8) (v := .slice A tx.length c) rfl rfl (by kernel_rfl) (by kernel_rfl) (by kernel_rfl) (fun _ _ _ h => h) (Or.inl ⟨by rfl, fun w hw => by kernel_rfl⟩) hS0 ?_
  simp only [Act.put, List.getElem_toArray, List.getElem_cons_succ, List.getElem_cons_zero, List.setIfInBounds_toArray, List.set_cons_zero, List.set_cons_succ]
  refine L_one (j := 9) (by kernel_rfl) rfl (by rfl) ?_
  simp only [Act.put, List.getElem_toArray, List.getElem_cons_succ, List.getElem_cons_zero, List.setIfInBounds_toArray, List.set_cons_zero, List.set_cons_succ]
  refine wp_called (by kernel_rfl) (parts_any A c tx w.drew HS.out hl hlc hcm) ?_
  rintro e w1 ⟨v, rs, rfl, hrow, hown, -, b1'⟩
  have b1 := below_drew' b1'
  obtain ⟨Av, cv, rfl⟩ := slice_of hrow
  have hRB : RowsB w1 w1.heap.size Av (pn tx) rs (prow tx) := ⟨Reads.of_own hrow, fun i hi => by
    obtain ⟨A', c', h1, h2, h3, -⟩ := (hown i hi).form
    refine ⟨A', c', h1, ?_, fun b hb => h256 b (List.mem_of_mem_drop (List.mem_of_mem_take hb))⟩
    have := hown i hi
    rw [h1] at this
    exact Reads.of_own this⟩
  have J1 := HJ.out.below b1 HJ.out.lt
  have hs1 := b1.size
  refine ⟨_, rfl, ⟨J1, b1⟩, ?_⟩
  simp only [Act.put, List.getElem_toArray, List.getElem_cons_succ, List.getElem_cons_zero, List.setIfInBounds_toArray, List.set_cons_zero, List.set_cons_succ]
  refine L_one (j := 10) (by kernel_rfl) rfl (by rfl) ?_
  simp only [Act.put, List.getElem_toArray, List.getElem_cons_succ, List.getElem_cons_zero, List.setIfInBounds_toArray, List.set_cons_zero, List.set_cons_succ]
  refine wp_called (by kernel_rfl) (jsealed_any 3 gen used Av (pn tx) cv rs (prow tx) w1 (by omega) (by omega) hRB (tab_below HT.out b1 hpos) (Nat.lt_of_lt_of_le hpos b1.size) (fun i hi => seal_ok (by simp [isBoxB]; omega) (prow_small _ _))) ?_
  rintro e w2 ⟨v, rfl, hrow2, b2⟩
  obtain ⟨As, cs, rfl⟩ := slice_of hrow2
  rw [show ((3 : Int)) = ((3 : Nat) : Int) from rfl, body_cells] at hrow2
  have B2 := b1.trans (b2.mono b1.size)
  have J2 := J1.below b2 J1.lt
  have hS2 : Blk w2 gj 67 (jcells n g gen vs vt used false) ∧ Below w.heap.size w w2 := ⟨J2, B2⟩
  refine ⟨_, rfl, hS2, ?_⟩
  simp only [Act.put, List.getElem_toArray, List.getElem_cons_succ, List.getElem_cons_zero, List.setIfInBounds_toArray, List.set_cons_zero, List.set_cons_succ]
  refine S_take (i := 11) (v := .tuple #[.slice As (pn tx) cs, .nilIface]) rfl rfl (by kernel_rfl) (by kernel_rfl) (by kernel_rfl) (fun _ _ _ h => h) (Or.inl ⟨by rfl, fun w hw => by kernel_rfl⟩) hS2 ?_
  simp only [Act.put, List.getElem_toArray, List.getElem_cons_succ, List.getElem_cons_zero, List.setIfInBounds_toArray, List.set_cons_zero, List.set_cons_succ]
  refine S_take (i := 12) (v := .slice As (pn tx) cs) rfl rfl (by kernel_rfl) (by kernel_rfl) (by kernel_rfl) (fun _ _ _ h => h) (Or.inl ⟨by rfl, fun w hw => by kernel_rfl⟩) hS2 ?_
  simp only [Act.put, List.getElem_toArray, List.getElem_cons_succ, List.getElem_cons_zero, List.setIfInBounds_toArray, List.set_cons_zero, List.set_cons_succ]
  refine S_take (i := 13) (v := .nilIface) rfl rfl (by kernel_rfl) (by kernel_rfl) (by kernel_rfl) (fun _ _ _ h => h) (Or.inl ⟨by rfl, fun w hw => by kernel_rfl⟩) hS2 ?_
  simp only [Act.put, List.getElem_toArray, List.getElem_cons_succ, List.getElem_cons_zero, List.setIfInBounds_toArray, List.set_cons_zero, List.set_cons_succ]
  refine L_one (j := 14) (by kernel_rfl) rfl (by rfl) ?_
  simp only [Act.put, List.getElem_toArray, List.getElem_cons_succ, List.getElem_cons_zero, List.setIfInBounds_toArray, List.set_cons_zero, List.set_cons_succ]
  refine wp_yields (v := .slice As (pn tx) cs) (by kernel_rfl) ⟨hS2, ?_⟩
  simp only [Act.put, List.getElem_toArray, List.getElem_cons_succ, List.getElem_cons_zero, List.setIfInBounds_toArray, List.set_cons_zero, List.set_cons_succ]
  refine L_one (j := 15) (by kernel_rfl) rfl (by rfl) ?_
  simp only [Act.put, List.getElem_toArray, List.getElem_cons_succ, List.getElem_cons_zero, List.setIfInBounds_toArray, List.set_cons_zero, List.set_cons_succ]
  refine wp_yields (v := .nilIface) (by kernel_rfl) ⟨hS2, ?_⟩
  simp only [Act.put, List.getElem_toArray, List.getElem_cons_succ, List.getElem_cons_zero, List.setIfInBounds_toArray, List.set_cons_zero, List.set_cons_succ]
  refine L_done (by kernel_rfl) ?_
  refine NoPanic.normal ?_
  have J2 := Lib.hid J2
  have B2 := Lib.hid B2
  have RW2 := Lib.hid hrow2
  clear hS2 hS0 hRB hrow hown J1 b1 b1' b2 hrow2
  have q6 : w2.cell? ⟨gj, 6, none⟩ = some (.int .i64 used) := J2.out.cell 6
  go_wp2
  clear q6
  have hS3 : Blk w2.drew gj 67 (jcells n g gen vs vt used false) ∧ Below w.heap.size w w2.drew := ⟨J2.out, B2.out.drew⟩
  refine any_beginL (fun w' => Blk w' gj 67 (jcells n g gen vs vt used false) ∧ Below w.heap.size w w') 99 (by kernel_rfl) ?_
  refine S_take (i := 0) (v := .pointer (some ⟨gj, 0, none⟩)) rfl rfl (by kernel_rfl) (by kernel_rfl) (by kernel_rfl) (fun _ _ _ h => h) (Or.inl ⟨by rfl, fun w hw => by kernel_rfl⟩) hS3 ?_
  simp only [Act.put, List.getElem_toArray, List.getElem_cons_succ, List.getElem_cons_zero, List.setIfInBounds_toArray, List.set_cons_zero, List.set_cons_succ]
  refine S_take (i := 1) (v := .pointer (some ⟨gj, 0, none⟩)) rfl rfl (by kernel_rfl) (by kernel_rfl) (by kernel_rfl) (fun _ _ _ h => h) (Or.inl ⟨by rfl, fun w hw => by go_simp⟩) hS3 ?_
  simp only [Act.put, List.getElem_toArray, List.getElem_cons_succ, List.getElem_cons_zero, List.setIfInBounds_toArray, List.set_cons_zero, List.set_cons_succ]
  refine S_take (i := 2) (v := .pointer (some ⟨gj, 3, none⟩)) rfl rfl (by kernel_rfl) (by kernel_rfl) (by kernel_rfl) (fun _ _ _ h => h) (Or.inl ⟨by rfl, fun w hw => by kernel_rfl⟩) hS3 ?_
  simp only [Act.put, List.getElem_toArray, List.getElem_cons_succ, List.getElem_cons_zero, List.setIfInBounds_toArray, List.set_cons_zero, List.set_cons_succ]
  refine S_take (i := 3) (v := .int .i64 gen) rfl rfl (by kernel_rfl) (by kernel_rfl) (by kernel_rfl) (fun _ _ _ h => h) (Or.inl ⟨by rfl, fun w hw => by have q : w.cell? ⟨_, 3, none⟩ = some (.int .i64 gen) := hw.1.cell 3; go_simp⟩) hS3 ?_
  simp only [Act.put, List.getElem_toArray, List.getElem_cons_succ, List.getElem_cons_zero, List.setIfInBounds_toArray, List.set_cons_zero, List.set_cons_succ]
  refine S_take (i := 4) (v := .int .i64 ((used : Int) + (pn tx : Int))) rfl rfl (by kernel_rfl) (by kernel_rfl) (by kernel_rfl) (fun _ _ _ h => h) (Or.inl ⟨by rfl, fun w hw => by kernel_rfl⟩) hS3 ?_
  simp only [Act.put, List.getElem_toArray, List.getElem_cons_succ, List.getElem_cons_zero, List.setIfInBounds_toArray, List.set_cons_zero, List.set_cons_succ]
  refine S_take (i := 5) (v := .slice As (pn tx) cs) rfl rfl (by kernel_rfl) (by kernel_rfl) (by kernel_rfl) (fun _ _ _ h => h) (Or.inl ⟨by rfl, fun w hw => by kernel_rfl⟩) hS3 ?_
  simp only [Act.put, List.getElem_toArray, List.getElem_cons_succ, List.getElem_cons_zero, List.setIfInBounds_toArray, List.set_cons_zero, List.set_cons_succ]
  refine S_take (i := 6) (v := .int .i64 (pn tx)) rfl rfl (by kernel_rfl) (by kernel_rfl) (by kernel_rfl) (fun _ _ _ h => h) (Or.inl ⟨by rfl, fun w hw => by go_simp⟩) hS3 ?_
  simp only [Act.put, List.getElem_toArray, List.getElem_cons_succ, List.getElem_cons_zero, List.setIfInBounds_toArray, List.set_cons_zero, List.set_cons_succ]
  refine L_one (j := 7) (by kernel_rfl) rfl (by rfl) ?_
  simp only [Act.put, List.getElem_toArray, List.getElem_cons_succ, List.getElem_cons_zero, List.setIfInBounds_toArray, List.set_cons_zero, List.set_cons_succ]
  refine wp_called (by kernel_rfl) (jpacked_any (pn tx) w2.drew) ?_
  rintro e w3 ⟨A3, c3, rfl, hown3, b3'⟩
  have b3 := below_drew' b3'
  have J3 := J2.out.below b3 J2.out.lt
  have B3 := B2.out.trans (b3.mono B2.out.size)
  have RW3 := row_of RW2.out fun x hx => b3.block x (row_under RW2.out x hx)
  refine ⟨_, rfl, ⟨J3, B3⟩, ?_⟩
  simp only [Act.put, List.getElem_toArray, List.getElem_cons_succ, List.getElem_cons_zero, List.setIfInBounds_toArray, List.set_cons_zero, List.set_cons_succ]
  refine L_one (j := 8) (by kernel_rfl) rfl (by rfl) ?_
  simp only [Act.put, List.getElem_toArray, List.getElem_cons_succ, List.getElem_cons_zero, List.setIfInBounds_toArray, List.set_cons_zero, List.set_cons_succ]
  refine wp_ran (v := .slice (some ⟨w3.heap.size, 0, none⟩) 1 1) (w' := w3.alloc (.cells #[.slice A3 8 c3] 34)) (by go_simp) ?_
  have hRB2 : RowsB (w3.alloc (.cells #[.slice A3 8 c3] 34)) (w3.alloc (.cells #[.slice A3 8 c3] 34)).heap.size (some ⟨w3.heap.size, 0, none⟩) 1 (fun _ => .slice A3 8 c3) (fun _ => numB (pn tx)) := by
    refine ⟨?_, fun i _ => ⟨A3, c3, by rw [numB_len], ?_, numB_lt _⟩⟩
    · have := Reads.new w3 [.slice A3 8 c3] 34 (0, 0)
      simpa using this
    · have := (Reads.of_own hown3).alloc (Nat.le_refl _) (.cells #[.slice A3 8 c3] 34)
      rw [numB_len]
      exact this.more (by simp)
  have B4 := B3.alloc B3.size (.cells #[.slice A3 8 c3] 34)
  have RW4 := RW3.alloc (.cells #[.slice A3 8 c3] 34)
  have J4 := J3.alloc (.cells #[.slice A3 8 c3] 34)
  refine ⟨⟨J4, B4⟩, ?_⟩
  generalize hw3s : w3.heap.size = g3 at *
  generalize w3.alloc (.cells #[.slice A3 8 c3] 34) = w4 at *
  clear hw3s
  simp only [Act.put, List.getElem_toArray, List.getElem_cons_succ, List.getElem_cons_zero, List.setIfInBounds_toArray, List.set_cons_zero, List.set_cons_succ]
  refine L_one (j := 9) (by kernel_rfl) rfl (by rfl) ?_
  simp only [Act.put, List.getElem_toArray, List.getElem_cons_succ, List.getElem_cons_zero, List.setIfInBounds_toArray, List.set_cons_zero, List.set_cons_succ]
  refine wp_called (by kernel_rfl) (jsealed_any 4 gen (used + pn tx) _ 1 1 _ _ w4 (by omega) (by omega) hRB2 (tab_below HT.out B4 hpos) (Nat.lt_of_lt_of_le hpos B4.size) (fun i hi => seal_ok (by simp [isBoxB]; omega) (by rw [numB_len]; omega))) ?_
  rintro e w5 ⟨v, rfl, hrow5, b5⟩
  obtain ⟨At, ct, rfl⟩ := slice_of hrow5
  rw [end_cells] at hrow5
  have B5 := B4.trans (b5.mono B4.size)
  have RW5 := row_of RW4 fun x hx => b5.block x (row_under RW4 x hx)
  have J5 := J4.below b5 J4.lt
  have hs4 := B4.size
  have hS5 : Blk w5 gj 67 (jcells n g gen vs vt used false) ∧ Below w.heap.size w w5 := ⟨J5, B5⟩
  refine ⟨_, rfl, hS5, ?_⟩
  simp only [Act.put, List.getElem_toArray, List.getElem_cons_succ, List.getElem_cons_zero, List.setIfInBounds_toArray, List.set_cons_zero, List.set_cons_succ]
  refine S_take (i := 10) (v := .tuple #[.slice At 1 ct, .nilIface]) rfl rfl (by kernel_rfl) (by kernel_rfl) (by kernel_rfl) (fun _ _ _ h => h) (Or.inl ⟨by rfl, fun w hw => by kernel_rfl⟩) hS5 ?_
  simp only [Act.put, List.getElem_toArray, List.getElem_cons_succ, List.getElem_cons_zero, List.setIfInBounds_toArray, List.set_cons_zero, List.set_cons_succ]
  refine S_take (i := 11) (v := .slice At 1 ct) rfl rfl (by kernel_rfl) (by kernel_rfl) (by kernel_rfl) (fun _ _ _ h => h) (Or.inl ⟨by rfl, fun w hw => by kernel_rfl⟩) hS5 ?_
  simp only [Act.put, List.getElem_toArray, List.getElem_cons_succ, List.getElem_cons_zero, List.setIfInBounds_toArray, List.set_cons_zero, List.set_cons_succ]
  refine S_take (i := 12) (v := .nilIface) rfl rfl (by kernel_rfl) (by kernel_rfl) (by kernel_rfl) (fun _ _ _ h => h) (Or.inl ⟨by rfl, fun w hw => by kernel_rfl⟩) hS5 ?_
  simp only [Act.put, List.getElem_toArray, List.getElem_cons_succ, List.getElem_cons_zero, List.setIfInBounds_toArray, List.set_cons_zero, List.set_cons_succ]
  refine L_one (j := 13) (by kernel_rfl) rfl (by rfl) ?_
  simp only [Act.put, List.getElem_toArray, List.getElem_cons_succ, List.getElem_cons_zero, List.setIfInBounds_toArray, List.set_cons_zero, List.set_cons_succ]
  refine wp_yields (v := .slice At 1 ct) (by kernel_rfl) ⟨hS5, ?_⟩
  simp only [Act.put, List.getElem_toArray, List.getElem_cons_succ, List.getElem_cons_zero, List.setIfInBounds_toArray, List.set_cons_zero, List.set_cons_succ]
  refine L_one (j := 14) (by kernel_rfl) rfl (by rfl) ?_
  simp only [Act.put, List.getElem_toArray, List.getElem_cons_succ, List.getElem_cons_zero, List.setIfInBounds_toArray, List.set_cons_zero, List.set_cons_succ]
  refine wp_yields (v := .nilIface) (by kernel_rfl) ⟨hS5, ?_⟩
  simp only [Act.put, List.getElem_toArray, List.getElem_cons_succ, List.getElem_cons_zero, List.setIfInBounds_toArray, List.set_cons_zero, List.set_cons_succ]
  refine L_done (by kernel_rfl) ?_
  refine NoPanic.normal ?_
  have J5 := Lib.hid J5
  have B5 := Lib.hid B5
  have RW5 := Lib.hid RW5
  have RT5 := Lib.hid hrow5
  clear hS5 hS3 hRB2 hown3 J3 J4 B3 B4 RW3 RW4 RW2 J2 B2 b3 b3' b5 hrow5
  go_wp2
  have hlog : logAt n ≤ 2800 := by have := area_small hn; unfold logAt; omega
  have hwr1 : IntKind.i64.wrap ((logAt n : Int) + (used : Int)) = (logAt n : Int) + (used : Int) := by rw [IntKind.wrap_i64]; omega
  have hwr2 : IntKind.i64.wrap ((logAt n : Int) + ((used : Int) + (pn tx : Int))) = (logAt n : Int) + ((used : Int) + (pn tx : Int)) := by rw [IntKind.wrap_i64]; omega
  have hzr := row_zero
  have hul := Tryd.underlying64
  have hS6 : (∃ b, Blk w5.drew gj 67 (jcells n g gen vs vt used b)) ∧ True := ⟨⟨false, J5.out⟩, trivial⟩
  refine any_beginL (fun w' => (∃ b, Blk w' gj 67 (jcells n g gen vs vt used b)) ∧ True) 99 (by kernel_rfl) ?_
  refine S_take (i := 0) (v := .pointer (some ⟨gj, 0, none⟩)) rfl rfl (by kernel_rfl) (by kernel_rfl) (by kernel_rfl) (fun _ _ _ h => h) (Or.inl ⟨by rfl, fun w hw => by kernel_rfl⟩) hS6 ?_
  simp only [Act.put, List.getElem_toArray, List.getElem_cons_succ, List.getElem_cons_zero, List.setIfInBounds_toArray, List.set_cons_zero, List.set_cons_succ]
  refine S_take (i := 1) (v := .pointer (some ⟨gj, 0, none⟩)) rfl rfl (by kernel_rfl) (by kernel_rfl) (by kernel_rfl) (fun _ _ _ h => h) (Or.inl ⟨by rfl, fun w hw => by kernel_rfl⟩) hS6 ?_
  simp only [Act.put, List.getElem_toArray, List.getElem_cons_succ, List.getElem_cons_zero, List.setIfInBounds_toArray, List.set_cons_zero, List.set_cons_succ]
  refine S_take (i := 2) (v := .pointer (some ⟨gj, 0, none⟩)) rfl rfl (by kernel_rfl) (by kernel_rfl) (by kernel_rfl) (fun _ _ _ h => h) (Or.inl ⟨by rfl, fun w hw => by go_simp⟩) hS6 ?_
  simp only [Act.put, List.getElem_toArray, List.getElem_cons_succ, List.getElem_cons_zero, List.setIfInBounds_toArray, List.set_cons_zero, List.set_cons_succ]
  refine S_take (i := 3) (v := .pointer (some ⟨gj, 0, none⟩)) rfl rfl (by kernel_rfl) (by kernel_rfl) (by kernel_rfl) (fun _ _ _ h => h) (Or.inl ⟨by rfl, fun w hw => by kernel_rfl⟩) hS6 ?_
  simp only [Act.put, List.getElem_toArray, List.getElem_cons_succ, List.getElem_cons_zero, List.setIfInBounds_toArray, List.set_cons_zero, List.set_cons_succ]
  refine S_take (i := 4) (v := .agg [.int .i64 (areaOf n), .int .i64 (logOf n)].toArray) rfl rfl (by kernel_rfl) (by kernel_rfl) (by kernel_rfl) (fun _ _ _ h => h) (Or.inl ⟨by rfl, fun w hw => exec_load_mid1 64 (.tmp 53) rfl gj 0 rfl _ _ (layout_range hw.1.choose_spec) hul rfl layout_size⟩) hS6 ?_
  simp only [Act.put, List.getElem_toArray, List.getElem_cons_succ, List.getElem_cons_zero, List.setIfInBounds_toArray, List.set_cons_zero, List.set_cons_succ]
  refine S_take (i := 6) (v := .pointer (some ⟨gj, 0, none⟩)) rfl rfl (by kernel_rfl) (by kernel_rfl) (by kernel_rfl) (fun _ _ _ h => h) (Or.inl ⟨by rfl, fun w hw => by kernel_rfl⟩) hS6 ?_
  simp only [Act.put, List.getElem_toArray, List.getElem_cons_succ, List.getElem_cons_zero, List.setIfInBounds_toArray, List.set_cons_zero, List.set_cons_succ]
  refine S_take (i := 7) (v := .pointer (some ⟨gj, 0, none⟩)) rfl rfl (by kernel_rfl) (by kernel_rfl) (by kernel_rfl) (fun _ _ _ h => h) (Or.inl ⟨by rfl, fun w hw => by go_simp⟩) hS6 ?_
  simp only [Act.put, List.getElem_toArray, List.getElem_cons_succ, List.getElem_cons_zero, List.setIfInBounds_toArray, List.set_cons_zero, List.set_cons_succ]
  refine S_take (i := 8) (v := .pointer (some ⟨gj, 6, none⟩)) rfl rfl (by kernel_rfl) (by kernel_rfl) (by kernel_rfl) (fun _ _ _ h => h) (Or.inl ⟨by rfl, fun w hw => by kernel_rfl⟩) hS6 ?_
  simp only [Act.put, List.getElem_toArray, List.getElem_cons_succ, List.getElem_cons_zero, List.setIfInBounds_toArray, List.set_cons_zero, List.set_cons_succ]
  refine S_take (i := 9) (v := .int .i64 used) rfl rfl (by kernel_rfl) (by kernel_rfl) (by kernel_rfl) (fun _ _ _ h => h) (Or.inl ⟨by rfl, fun w hw => by have q : w.cell? ⟨_, 6, none⟩ = some (.int .i64 used) := hw.1.choose_spec.cell 6; go_simp⟩) hS6 ?_
  simp only [Act.put, List.getElem_toArray, List.getElem_cons_succ, List.getElem_cons_zero, List.setIfInBounds_toArray, List.set_cons_zero, List.set_cons_succ]
  refine S_take (i := 11) (v := .slice As (pn tx) cs) rfl rfl (by kernel_rfl) (by kernel_rfl) (by kernel_rfl) (fun _ _ _ h => h) (Or.inl ⟨by rfl, fun w hw => by kernel_rfl⟩) hS6 ?_
  simp only [Act.put, List.getElem_toArray, List.getElem_cons_succ, List.getElem_cons_zero, List.setIfInBounds_toArray, List.set_cons_zero, List.set_cons_succ]
  refine S_take (i := 13) (v := .pointer (some ⟨gj, 0, none⟩)) rfl rfl (by kernel_rfl) (by kernel_rfl) (by kernel_rfl) (fun _ _ _ h => h) (Or.inl ⟨by rfl, fun w hw => by kernel_rfl⟩) hS6 ?_
  simp only [Act.put, List.getElem_toArray, List.getElem_cons_succ, List.getElem_cons_zero, List.setIfInBounds_toArray, List.set_cons_zero, List.set_cons_succ]
  refine S_take (i := 14) (v := .pointer (some ⟨gj, 0, none⟩)) rfl rfl (by kernel_rfl) (by kernel_rfl) (by kernel_rfl) (fun _ _ _ h => h) (Or.inl ⟨by rfl, fun w hw => by go_simp⟩) hS6 ?_
  simp only [Act.put, List.getElem_toArray, List.getElem_cons_succ, List.getElem_cons_zero, List.setIfInBounds_toArray, List.set_cons_zero, List.set_cons_succ]
  refine S_take (i := 15) (v := .pointer (some ⟨gj, 0, none⟩)) rfl rfl (by kernel_rfl) (by kernel_rfl) (by kernel_rfl) (fun _ _ _ h => h) (Or.inl ⟨by rfl, fun w hw => by kernel_rfl⟩) hS6 ?_
  simp only [Act.put, List.getElem_toArray, List.getElem_cons_succ, List.getElem_cons_zero, List.setIfInBounds_toArray, List.set_cons_zero, List.set_cons_succ]
  refine S_take (i := 16) (v := .agg [.int .i64 (areaOf n), .int .i64 (logOf n)].toArray) rfl rfl (by kernel_rfl) (by kernel_rfl) (by kernel_rfl) (fun _ _ _ h => h) (Or.inl ⟨by rfl, fun w hw => exec_load_mid1 64 (.tmp 65) rfl gj 0 rfl _ _ (layout_range hw.1.choose_spec) hul rfl layout_size⟩) hS6 ?_
  simp only [Act.put, List.getElem_toArray, List.getElem_cons_succ, List.getElem_cons_zero, List.setIfInBounds_toArray, List.set_cons_zero, List.set_cons_succ]
  refine S_take (i := 18) (v := .int .i64 ((used : Int) + (pn tx : Int))) rfl rfl (by kernel_rfl) (by kernel_rfl) (by kernel_rfl) (fun _ _ _ h => h) (Or.inl ⟨by rfl, fun w hw => by kernel_rfl⟩) hS6 ?_
  simp only [Act.put, List.getElem_toArray, List.getElem_cons_succ, List.getElem_cons_zero, List.setIfInBounds_toArray, List.set_cons_zero, List.set_cons_succ]
  refine S_take (i := 20) (v := .slice At 1 ct) rfl rfl (by kernel_rfl) (by kernel_rfl) (by kernel_rfl) (fun _ _ _ h => h) (Or.inl ⟨by rfl, fun w hw => by kernel_rfl⟩) hS6 ?_
  simp only [Act.put, List.getElem_toArray, List.getElem_cons_succ, List.getElem_cons_zero, List.setIfInBounds_toArray, List.set_cons_zero, List.set_cons_succ]
  refine L_one (j := 5) (by kernel_rfl) rfl (by rfl) ?_
  simp only [Act.put, List.getElem_toArray, List.getElem_cons_succ, List.getElem_cons_zero, List.setIfInBounds_toArray, List.set_cons_zero, List.set_cons_succ]
  refine wp_called (by kernel_rfl) (logAt_any n w5.drew hn) ?_
  rintro e w6 ⟨rfl, b6'⟩
  have b6 := below_drew' b6'
  have hS7 : Blk w6 gj 67 (jcells n g gen vs vt used false) ∧ Below w.heap.size w w6 := ⟨J5.out.below b6 J5.out.lt, B5.out.trans (b6.mono B5.out.size)⟩
  have hS7' : (∃ b, Blk w6 gj 67 (jcells n g gen vs vt used b)) ∧ True := ⟨⟨false, hS7.1⟩, trivial⟩
  refine ⟨_, rfl, hS7', ?_⟩
  simp only [Act.put, List.getElem_toArray, List.getElem_cons_succ, List.getElem_cons_zero, List.setIfInBounds_toArray, List.set_cons_zero, List.set_cons_succ]
  refine S_take (i := 10) (v := .int .i64 ((logAt n : Int) + (used : Int))) rfl rfl (by kernel_rfl) (by kernel_rfl) (by kernel_rfl) (fun _ _ _ h => h) (Or.inl ⟨by rfl, fun w hw => by go_simp⟩) hS7' ?_
  simp only [Act.put, List.getElem_toArray, List.getElem_cons_succ, List.getElem_cons_zero, List.setIfInBounds_toArray, List.set_cons_zero, List.set_cons_succ]
  refine S_take (i := 12) (v := .agg #[.int .i64 ((logAt n : Int) + (used : Int)), .slice As (pn tx) cs]) rfl rfl (by kernel_rfl) (by kernel_rfl) (by kernel_rfl) (fun _ _ _ h => h) (Or.inl ⟨by rfl, fun w hw => by have q := hzr w; go_simp⟩) hS7' ?_
  simp only [Act.put, List.getElem_toArray, List.getElem_cons_succ, List.getElem_cons_zero, List.setIfInBounds_toArray, List.set_cons_zero, List.set_cons_succ]
  refine L_one (j := 17) (by kernel_rfl) rfl (by rfl) ?_
  simp only [Act.put, List.getElem_toArray, List.getElem_cons_succ, List.getElem_cons_zero, List.setIfInBounds_toArray, List.set_cons_zero, List.set_cons_succ]
  refine wp_called (by kernel_rfl) (logAt_any n w6 hn) ?_
  rintro e w7 ⟨rfl, b7⟩
  have hS8 : Blk w7 gj 67 (jcells n g gen vs vt used false) ∧ Below w.heap.size w w7 := ⟨hS7.1.below b7 hS7.1.lt, hS7.2.trans (b7.mono hS7.2.size)⟩
  have hS8' : (∃ b, Blk w7 gj 67 (jcells n g gen vs vt used b)) ∧ True := ⟨⟨false, hS8.1⟩, trivial⟩
  refine ⟨_, rfl, hS8', ?_⟩
  simp only [Act.put, List.getElem_toArray, List.getElem_cons_succ, List.getElem_cons_zero, List.setIfInBounds_toArray, List.set_cons_zero, List.set_cons_succ]
  refine S_take (i := 19) (v := .int .i64 ((logAt n : Int) + ((used : Int) + (pn tx : Int)))) rfl rfl (by kernel_rfl) (by kernel_rfl) (by kernel_rfl) (fun _ _ _ h => h) (Or.inl ⟨by rfl, fun w hw => by go_simp⟩) hS8' ?_
  simp only [Act.put, List.getElem_toArray, List.getElem_cons_succ, List.getElem_cons_zero, List.setIfInBounds_toArray, List.set_cons_zero, List.set_cons_succ]
  refine S_take (i := 21) (v := .agg #[.int .i64 ((logAt n : Int) + ((used : Int) + (pn tx : Int))), .slice At 1 ct]) rfl rfl (by kernel_rfl) (by kernel_rfl) (by kernel_rfl) (fun _ _ _ h => h) (Or.inl ⟨by rfl, fun w hw => by have q := hzr w; go_simp⟩) hS8' ?_
  simp only [Act.put, List.getElem_toArray, List.getElem_cons_succ, List.getElem_cons_zero, List.setIfInBounds_toArray, List.set_cons_zero, List.set_cons_succ]
  refine L_one (j := 22) (by kernel_rfl) rfl (by rfl) ?_
  simp only [Act.put, List.getElem_toArray, List.getElem_cons_succ, List.getElem_cons_zero, List.setIfInBounds_toArray, List.set_cons_zero, List.set_cons_succ]
  refine wp_ran (v := .slice (some ⟨w7.heap.size, 0, none⟩) 2 2) (w' := w7.alloc (.cells #[.int .i64 ((logAt n : Int) + (used : Int)), .slice As (pn tx) cs, .int .i64 ((logAt n : Int) + ((used : Int) + (pn tx : Int))), .slice At 1 ct] 71)) (by have q := hzr w7; go_simp) ?_
  have hcells : (#[.int .i64 ((logAt n : Int) + (used : Int)), .slice As (pn tx) cs, .int .i64 ((logAt n : Int) + ((used : Int) + (pn tx : Int))), .slice At 1 ct] : Array Value) = (([⟨logAt n + used, As, cs, bodyS 3 gen used tx⟩, ⟨logAt n + (used + pn tx), At, ct, endS gen (used + pn tx) (pn tx)⟩] : List RowV).flatMap RowV.cs).toArray := by
    simp [RowV.cs, body_len, endS]
  rw [hcells]
  have b67 := b6.trans (b7.mono b6.size)
  have RW7 := (row_of RW5.out fun x hx => b67.block x (row_under RW5.out x hx)).alloc (.cells (([⟨logAt n + used, As, cs, bodyS 3 gen used tx⟩, ⟨logAt n + (used + pn tx), At, ct, endS gen (used + pn tx) (pn tx)⟩] : List RowV).flatMap RowV.cs).toArray 71)
  have RT7 := (row_of RT5.out fun x hx => b67.block x (row_under RT5.out x hx)).alloc (.cells (([⟨logAt n + used, As, cs, bodyS 3 gen used tx⟩, ⟨logAt n + (used + pn tx), At, ct, endS gen (used + pn tx) (pn tx)⟩] : List RowV).flatMap RowV.cs).toArray 71)
  have J8 := hS8.1.alloc (.cells (([⟨logAt n + used, As, cs, bodyS 3 gen used tx⟩, ⟨logAt n + (used + pn tx), At, ct, endS gen (used + pn tx) (pn tx)⟩] : List RowV).flatMap RowV.cs).toArray 71)
  have B8 := hS8.2.alloc hS8.2.size (.cells (([⟨logAt n + used, As, cs, bodyS 3 gen used tx⟩, ⟨logAt n + (used + pn tx), At, ct, endS gen (used + pn tx) (pn tx)⟩] : List RowV).flatMap RowV.cs).toArray 71)
  have hrr := Reads.newN w7 (([⟨logAt n + used, As, cs, bodyS 3 gen used tx⟩, ⟨logAt n + (used + pn tx), At, ct, endS gen (used + pn tx) (pn tx)⟩] : List RowV).flatMap RowV.cs) 2 2 71 (0, 0) rfl
  refine ⟨⟨⟨false, J8⟩, trivial⟩, ?_⟩
  have hs7 := hS8.2.size
  have hw78 : (w7.alloc (.cells (([⟨logAt n + used, As, cs, bodyS 3 gen used tx⟩, ⟨logAt n + (used + pn tx), At, ct, endS gen (used + pn tx) (pn tx)⟩] : List RowV).flatMap RowV.cs).toArray 71)).heap.size = w7.heap.size + 1 := by simp
  generalize hwx : w7.alloc (.cells (([⟨logAt n + used, As, cs, bodyS 3 gen used tx⟩, ⟨logAt n + (used + pn tx), At, ct, endS gen (used + pn tx) (pn tx)⟩] : List RowV).flatMap RowV.cs).toArray 71) = wx at *
  generalize hg7 : w7.heap.size = g7 at *
  simp only [Act.put, List.getElem_toArray, List.getElem_cons_succ, List.getElem_cons_zero, List.setIfInBounds_toArray, List.set_cons_zero, List.set_cons_succ]
  have hX' : ∀ k ∈ g7 :: (blkOf As ++ blkOf At), w.heap.size ≤ k ∧ k < wx.heap.size := fun k hk => by
    simp only [List.mem_cons, List.mem_append] at hk
    rcases hk with rfl | hk | hk
    · omega
    · have := own_blk_in RW7 k hk; omega
    · have := own_blk_in RT7 k hk; omega
  have H7 := H.out.more B8 hX'
  have ho2 := jadd_rows_any n gen used d tx As At cs ct
  have hfar : Far d (stepsOf ([⟨logAt n + used, As, cs, bodyS 3 gen used tx⟩, ⟨logAt n + (used + pn tx), At, ct, endS gen (used + pn tx) (pn tx)⟩] : List RowV)) := hf.less (by simp [stepsOf, body_len, endS])
  have hrows : ∀ r ∈ ([⟨logAt n + used, As, cs, bodyS 3 gen used tx⟩, ⟨logAt n + (used + pn tx), At, ct, endS gen (used + pn tx) (pn tx)⟩] : List RowV), (∀ k ∈ blkOf r.A, k ∈ g7 :: (blkOf As ++ blkOf At) ++ X) ∧ Reads wx wx.heap.size 128 r.A r.ss.length (r.ss.flatMap Sec.cs) ∧ r.at_ + r.ss.length ≤ 1000000 := by
    intro r hr
    simp only [List.mem_cons, List.not_mem_nil, or_false] at hr
    rcases hr with rfl | rfl
    · refine ⟨fun k hk => by simp [show k ∈ blkOf As from hk], ?_, ?_⟩
      · show Reads _ _ 128 As (bodyS 3 gen used tx).length _
        rw [body_len]
        exact Reads.of_own RW7
      · show logAt n + used + (bodyS 3 gen used tx).length ≤ _
        rw [body_len]; omega
    · refine ⟨fun k hk => by simp [show k ∈ blkOf At from hk], Reads.of_own RT7, ?_⟩
      show logAt n + (used + pn tx) + 1 ≤ _
      omega
  refine L_one (j := 23) (by kernel_rfl) rfl (by rfl) ?_
  simp only [Act.put, List.getElem_toArray, List.getElem_cons_succ, List.getElem_cons_zero, List.setIfInBounds_toArray, List.set_cons_zero, List.set_cons_succ]
  refine wp_called (by kernel_rfl) (write_bad H7 _ J8 rfl (by simp [hgj]) (some ⟨g7, 0, none⟩) 2 ([⟨logAt n + used, As, cs, bodyS 3 gen used tx⟩, ⟨logAt n + (used + pn tx), At, ct, endS gen (used + pn tx) (pn tx)⟩] : List RowV) (fun k hk => by simp [blkOf] at hk; simp [hk]) (hrr.more (by omega)) hrows hfar (by simp) (by simp [jcells]) hgj0 (by rw [ho2]; exact HOK.out)) ?_
  rintro e w8 ⟨rfl, h8, k8, s8, j8⟩
  rw [ho2] at h8 ⊢
  obtain ⟨m, hm⟩ : ∃ m, (d.app n gen used tx).2 = m + 1 := ⟨(d.app n gen used tx).2 - 1, by have := HOK.out; omega⟩
  have HM := Lib.hid hm
  rw [hm]
  have h8x := h8.mono (Y := X) (fun k hk => List.mem_append_right _ hk)
  have hkx : ∀ k ∈ X, k ≠ gj → w8.heap[k]? = w.heap[k]? := fun k hk hne => (k8 k (List.mem_append_right _ hk) hne).trans (B8.block k (HX.out k hk))
  have hsz8 : w.heap.size ≤ w8.heap.size := Nat.le_trans B8.size s8
  have hS9 : (∃ b, Blk w8 gj 67 (jcells n g gen vs vt used b)) ∧ True := ⟨⟨true, by simpa [jcells] using j8⟩, trivial⟩
  refine ⟨_, rfl, hS9, ?_⟩
  simp only [Act.put, List.getElem_toArray, List.getElem_cons_succ, List.getElem_cons_zero, List.setIfInBounds_toArray, List.set_cons_zero, List.set_cons_succ]
  refine L_one (j := 24) (by kernel_rfl) rfl (by rfl) ?_
  simp only [Act.put, List.getElem_toArray, List.getElem_cons_succ, List.getElem_cons_zero, List.setIfInBounds_toArray, List.set_cons_zero, List.set_cons_succ]
  refine wp_yields (v := errV (m + 1)) (by kernel_rfl) ⟨hS9, ?_⟩
  simp only [Act.put, List.getElem_toArray, List.getElem_cons_succ, List.getElem_cons_zero, List.setIfInBounds_toArray, List.set_cons_zero, List.set_cons_succ]
  refine L_done (by kernel_rfl) ?_
  refine NoPanic.normal ?_
  have H8 := Lib.hid h8x
  have HKX := Lib.hid hkx
  clear hS6 hS7 hS7' hS8 hS8' hS9 h8 h8x k8 hkx J8 B8 H7 hrows hrr hX' RW7 RT7 hcells b67 b6 b6' b7 J5 B5 RW5 RT5 ho2 hfar hm j8
  simp only [errV]
  go_wp2
  go_ret
  rw [HM.out]
  exact ⟨rfl, H8.out, HKX.out, hsz8⟩
end Go.Proofs.YtpklcmocjimcpaaDoor
