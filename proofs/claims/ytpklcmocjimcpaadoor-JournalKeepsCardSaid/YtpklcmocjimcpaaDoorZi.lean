/-
  A journal's state is read off a disk. Conditions: the power is there; a top and all the state's parts stand; small numbers.
-/
import Derived.Test.YtpklcmocjimcpaaDoorZh

namespace Go.Proofs.YtpklcmocjimcpaaDoor
open Go.RowKit
set_option maxRecDepth 100000
set_option linter.unusedSimpArgs false
set_option linter.unusedVariables false
noncomputable def readL (d : DM) (a m : Nat) : List Sec := (List.range m).map (readRow d a m)
theorem readL_len (d : DM) (a m : Nat) : (readL d a m).length = m := by simp [readL]
set_option maxRecDepth 100000 in
set_option maxHeartbeats 4000000 in
theorem readState_good {w0 w : World} {g gj n : Nat} {d : DM} {X : List Nat} (h : Holds w0 w g d X) (hJ : Blk w gj 67 (jcells n g 0 (.slice none 0 0) (.slice none 0 0) 0 false)) (hgj : gj ∈ X) (hgj0 : w0.heap.size ≤ gj) (hdn : d.n = n) (hn : n ≤ 4096) (hn8 : 8 ≤ n) (hup : d.gone = false) (hwt : d.wait.length ≤ 1000000)
    (hT : Tab w) (hw0 : 0 < w0.heap.size) (gen : Nat) (st : List Nat) (hst : st.length ≤ 100000) (hfit : pn st ≤ areaOf n) (htop : newestL (readL d 0 2) 2 = some ((gen : Int), (st.length : Int)))
    (hin : ∀ k s, k < pn st → (readL d (stateAt n gen) (areaOf n))[k]? = some s → isOf s.l 2 gen k = true ∧ tD s.l = prow st k) :
    Calls Tryd.prog 39 #[.pointer (some ⟨gj, 0, none⟩)] w fun e w' => ∃ B cc, e = .returned .nilIface ∧ Holds w0 w' g d (blkOf B ++ X) ∧ (∀ k ∈ blkOf B, w.heap.size ≤ k) ∧ Blk w' gj 67 (jcells n g gen (.slice B st.length cc) (.slice none 0 0) 0 false) ∧ Own w' w.heap.size (.slice B st.length cc) st.length st ∧ (∀ k, k < w.heap.size → k ≠ gj → w'.heap[k]? = w.heap[k]?) ∧ w.heap.size ≤ w'.heap.size := by
  have hpos : 0 < w.heap.size := Nat.lt_of_lt_of_le hw0 h.size
  have hsa : stateAt n gen + areaOf n ≤ d.n := by
    rw [hdn]
    unfold stateAt areaOf
    have : gen % 2 = 0 ∨ gen % 2 = 1 := by omega
    rcases this with h | h <;> rw [h] <;> omega
  have has := area_small hn
  have H := Lib.hid h
  have HJ := Lib.hid hJ
  have HT := Lib.hid hT
  have HTOP := Lib.hid htop
  have q2 : w.cell? ⟨gj, 2, none⟩ = some (.pointer (some ⟨g, 0, none⟩)) := hJ.cell 2
  clear h hJ hT htop
  go_enter Tryd.func39, Tryd.ntmps39
  go_wp2_with fail
  refine (jread_any H.out 0 2 hup (by omega) (by omega) hwt).mono ?_
  rintro e w1 ⟨v, rfl, hrow, b1⟩
  obtain ⟨A1, c1, rfl⟩ := slice_of hrow
  rw [six_row] at hrow
  have R1 := Lib.hid (Reads.of_own hrow)
  have B1 := Lib.hid b1
  have J1 := Lib.hid (HJ.out.below b1 HJ.out.lt)
  clear hrow b1 q2
  go_wp2_with fail
  refine (newest_any A1 c1 (readL d 0 2) w1 R1.out (by rw [readL_len]; omega) (tab_below HT.out B1.out hpos) (Nat.lt_of_lt_of_le hpos B1.out.size)).mono ?_
  rintro e w2 ⟨rfl, b2⟩
  rw [readL_len, HTOP.out]
  simp only [toldV]
  have B2 := Lib.hid (B1.out.trans (b2.mono B1.out.size))
  have J2 := Lib.hid (J1.out.below b2 J1.out.lt)
  clear b2 R1
  have hul := Tryd.underlying64
  go_wp2
  have hS0 : Blk w2.drew gj 67 (jcells n g 0 (.slice none 0 0) (.slice none 0 0) 0 false) := J2.out
  refine any_beginL (fun w' => Blk w' gj 67 (jcells n g 0 (.slice none 0 0) (.slice none 0 0) 0 false)) 99 (by kernel_rfl) ?_
  refine S_take (i := 0) (v := .pointer (some ⟨gj, 0, none⟩)) rfl rfl (by kernel_rfl) (by kernel_rfl) (by kernel_rfl) (fun _ _ _ h => h) (Or.inl ⟨by rfl, fun w hw => by kernel_rfl⟩) hS0 ?_
  simp only [Act.put, List.getElem_toArray, List.getElem_cons_succ, List.getElem_cons_zero, List.setIfInBounds_toArray, List.set_cons_zero, List.set_cons_succ]
  refine S_take (i := 1) (v := .pointer (some ⟨gj, 0, none⟩)) rfl rfl (by kernel_rfl) (by kernel_rfl) (by kernel_rfl) (fun _ _ _ h => h) (Or.inl ⟨by rfl, fun w hw => by go_simp⟩) hS0 ?_
  simp only [Act.put, List.getElem_toArray, List.getElem_cons_succ, List.getElem_cons_zero, List.setIfInBounds_toArray, List.set_cons_zero, List.set_cons_succ]
  refine S_take (i := 2) (v := .pointer (some ⟨gj, 2, none⟩)) rfl rfl (by kernel_rfl) (by kernel_rfl) (by kernel_rfl) (fun _ _ _ h => h) (Or.inl ⟨by rfl, fun w hw => by kernel_rfl⟩) hS0 ?_
  simp only [Act.put, List.getElem_toArray, List.getElem_cons_succ, List.getElem_cons_zero, List.setIfInBounds_toArray, List.set_cons_zero, List.set_cons_succ]
  refine S_take (i := 3) (v := .pointer (some ⟨g, 0, none⟩)) rfl rfl (by kernel_rfl) (by kernel_rfl) (by kernel_rfl) (fun _ _ _ h => h) (Or.inl ⟨by rfl, fun w hw => by have q : w.cell? ⟨_, 2, none⟩ = some (.pointer (some ⟨g, 0, none⟩)) := hw.cell 2; go_simp⟩) hS0 ?_
  simp only [Act.put, List.getElem_toArray, List.getElem_cons_succ, List.getElem_cons_zero, List.setIfInBounds_toArray, List.set_cons_zero, List.set_cons_succ]
  refine S_take (i := 4) (v := .pointer (some ⟨gj, 0, none⟩)) rfl rfl (by kernel_rfl) (by kernel_rfl) (by kernel_rfl) (fun _ _ _ h => h) (Or.inl ⟨by rfl, fun w hw => by kernel_rfl⟩) hS0 ?_
  simp only [Act.put, List.getElem_toArray, List.getElem_cons_succ, List.getElem_cons_zero, List.setIfInBounds_toArray, List.set_cons_zero, List.set_cons_succ]
  refine S_take (i := 5) (v := .pointer (some ⟨gj, 0, none⟩)) rfl rfl (by kernel_rfl) (by kernel_rfl) (by kernel_rfl) (fun _ _ _ h => h) (Or.inl ⟨by rfl, fun w hw => by go_simp⟩) hS0 ?_
  simp only [Act.put, List.getElem_toArray, List.getElem_cons_succ, List.getElem_cons_zero, List.setIfInBounds_toArray, List.set_cons_zero, List.set_cons_succ]
  refine S_take (i := 6) (v := .pointer (some ⟨gj, 0, none⟩)) rfl rfl (by kernel_rfl) (by kernel_rfl) (by kernel_rfl) (fun _ _ _ h => h) (Or.inl ⟨by rfl, fun w hw => by kernel_rfl⟩) hS0 ?_
  simp only [Act.put, List.getElem_toArray, List.getElem_cons_succ, List.getElem_cons_zero, List.setIfInBounds_toArray, List.set_cons_zero, List.set_cons_succ]
  refine S_take (i := 7) (v := .agg [.int .i64 (areaOf n), .int .i64 (logOf n)].toArray) rfl rfl (by kernel_rfl) (by kernel_rfl) (by kernel_rfl) (fun _ _ _ h => h) (Or.inl ⟨by rfl, fun w hw => exec_load_mid1 64 (.tmp 37) rfl gj 0 rfl _ _ (layout_range hw) hul rfl layout_size⟩) hS0 ?_
  simp only [Act.put, List.getElem_toArray, List.getElem_cons_succ, List.getElem_cons_zero, List.setIfInBounds_toArray, List.set_cons_zero, List.set_cons_succ]
  refine S_take (i := 8) (v := .int .i64 gen) rfl rfl (by kernel_rfl) (by kernel_rfl) (by kernel_rfl) (fun _ _ _ h => h) (Or.inl ⟨by rfl, fun w hw => by kernel_rfl⟩) hS0 ?_
  simp only [Act.put, List.getElem_toArray, List.getElem_cons_succ, List.getElem_cons_zero, List.setIfInBounds_toArray, List.set_cons_zero, List.set_cons_succ]
  refine S_take (i := 10) (v := .pointer (some ⟨gj, 0, none⟩)) rfl rfl (by kernel_rfl) (by kernel_rfl) (by kernel_rfl) (fun _ _ _ h => h) (Or.inl ⟨by rfl, fun w hw => by kernel_rfl⟩) hS0 ?_
  simp only [Act.put, List.getElem_toArray, List.getElem_cons_succ, List.getElem_cons_zero, List.setIfInBounds_toArray, List.set_cons_zero, List.set_cons_succ]
  refine S_take (i := 11) (v := .pointer (some ⟨gj, 0, none⟩)) rfl rfl (by kernel_rfl) (by kernel_rfl) (by kernel_rfl) (fun _ _ _ h => h) (Or.inl ⟨by rfl, fun w hw => by go_simp⟩) hS0 ?_
  simp only [Act.put, List.getElem_toArray, List.getElem_cons_succ, List.getElem_cons_zero, List.setIfInBounds_toArray, List.set_cons_zero, List.set_cons_succ]
  refine S_take (i := 12) (v := .pointer (some ⟨gj, 0, none⟩)) rfl rfl (by kernel_rfl) (by kernel_rfl) (by kernel_rfl) (fun _ _ _ h => h) (Or.inl ⟨by rfl, fun w hw => by kernel_rfl⟩) hS0 ?_
  simp only [Act.put, List.getElem_toArray, List.getElem_cons_succ, List.getElem_cons_zero, List.setIfInBounds_toArray, List.set_cons_zero, List.set_cons_succ]
  refine S_take (i := 13) (v := .pointer (some ⟨gj, 0, none⟩)) rfl rfl (by kernel_rfl) (by kernel_rfl) (by kernel_rfl) (fun _ _ _ h => h) (Or.inl ⟨by rfl, fun w hw => by kernel_rfl⟩) hS0 ?_
  simp only [Act.put, List.getElem_toArray, List.getElem_cons_succ, List.getElem_cons_zero, List.setIfInBounds_toArray, List.set_cons_zero, List.set_cons_succ]
  refine S_take (i := 14) (v := .int .i64 (areaOf n)) rfl rfl (by kernel_rfl) (by kernel_rfl) (by kernel_rfl) (fun _ _ _ h => h) (Or.inl ⟨by rfl, fun w hw => by have q : w.cell? ⟨_, 0, none⟩ = some (.int .i64 (areaOf n)) := hw.cell 0; go_simp⟩) hS0 ?_
  simp only [Act.put, List.getElem_toArray, List.getElem_cons_succ, List.getElem_cons_zero, List.setIfInBounds_toArray, List.set_cons_zero, List.set_cons_succ]
  refine L_one (j := 9) (by kernel_rfl) rfl (by rfl) ?_
  simp only [Act.put, List.getElem_toArray, List.getElem_cons_succ, List.getElem_cons_zero, List.setIfInBounds_toArray, List.set_cons_zero, List.set_cons_succ]
  refine wp_called (by kernel_rfl) (stateAt_any n gen w2.drew hn) ?_
  rintro e w3 ⟨rfl, b3'⟩
  have b3 := below_drew' b3'
  have hS3 := J2.out.below b3 J2.out.lt
  refine ⟨_, rfl, hS3, ?_⟩
  simp only [Act.put, List.getElem_toArray, List.getElem_cons_succ, List.getElem_cons_zero, List.setIfInBounds_toArray, List.set_cons_zero, List.set_cons_succ]
  have B3 := B2.out.trans (b3.mono B2.out.size)
  refine L_one (j := 15) (by kernel_rfl) rfl (by rfl) ?_
  simp only [Act.put, List.getElem_toArray, List.getElem_cons_succ, List.getElem_cons_zero, List.setIfInBounds_toArray, List.set_cons_zero, List.set_cons_succ]
  refine wp_called (by kernel_rfl) (jread_any (H.out.below B3) (stateAt n gen) (areaOf n) hup hsa (by omega) hwt) ?_
  rintro e w4 ⟨v, rfl, hrow, b4⟩
  obtain ⟨A4, c4, rfl⟩ := slice_of hrow
  rw [six_row] at hrow
  have hS4 := hS3.below b4 hS3.lt
  refine ⟨_, rfl, hS4, ?_⟩
  simp only [Act.put, List.getElem_toArray, List.getElem_cons_succ, List.getElem_cons_zero, List.setIfInBounds_toArray, List.set_cons_zero, List.set_cons_succ]
  refine S_take (i := 16) (v := .tuple #[.slice A4 (areaOf n) c4, .nilIface]) rfl rfl (by kernel_rfl) (by kernel_rfl) (by kernel_rfl) (fun _ _ _ h => h) (Or.inl ⟨by rfl, fun w hw => by kernel_rfl⟩) hS4 ?_
  simp only [Act.put, List.getElem_toArray, List.getElem_cons_succ, List.getElem_cons_zero, List.setIfInBounds_toArray, List.set_cons_zero, List.set_cons_succ]
  refine S_take (i := 17) (v := .slice A4 (areaOf n) c4) rfl rfl (by kernel_rfl) (by kernel_rfl) (by kernel_rfl) (fun _ _ _ h => h) (Or.inl ⟨by rfl, fun w hw => by kernel_rfl⟩) hS4 ?_
  simp only [Act.put, List.getElem_toArray, List.getElem_cons_succ, List.getElem_cons_zero, List.setIfInBounds_toArray, List.set_cons_zero, List.set_cons_succ]
  refine S_take (i := 18) (v := .nilIface) rfl rfl (by kernel_rfl) (by kernel_rfl) (by kernel_rfl) (fun _ _ _ h => h) (Or.inl ⟨by rfl, fun w hw => by kernel_rfl⟩) hS4 ?_
  simp only [Act.put, List.getElem_toArray, List.getElem_cons_succ, List.getElem_cons_zero, List.setIfInBounds_toArray, List.set_cons_zero, List.set_cons_succ]
  refine L_one (j := 19) (by kernel_rfl) rfl (by rfl) ?_
  simp only [Act.put, List.getElem_toArray, List.getElem_cons_succ, List.getElem_cons_zero, List.setIfInBounds_toArray, List.set_cons_zero, List.set_cons_succ]
  refine wp_yields (v := .slice A4 (areaOf n) c4) (by kernel_rfl) ⟨hS4, ?_⟩
  simp only [Act.put, List.getElem_toArray, List.getElem_cons_succ, List.getElem_cons_zero, List.setIfInBounds_toArray, List.set_cons_zero, List.set_cons_succ]
  refine L_one (j := 20) (by kernel_rfl) rfl (by rfl) ?_
  simp only [Act.put, List.getElem_toArray, List.getElem_cons_succ, List.getElem_cons_zero, List.setIfInBounds_toArray, List.set_cons_zero, List.set_cons_succ]
  refine wp_yields (v := .nilIface) (by kernel_rfl) ⟨hS4, ?_⟩
  simp only [Act.put, List.getElem_toArray, List.getElem_cons_succ, List.getElem_cons_zero, List.setIfInBounds_toArray, List.set_cons_zero, List.set_cons_succ]
  refine L_done (by kernel_rfl) ?_
  refine NoPanic.normal ?_
  have J4 := Lib.hid hS4
  have B4 := Lib.hid (B3.trans (b4.mono B3.size))
  have R4 := Lib.hid (Reads.of_own hrow)
  clear hS0 hS3 hS4 hrow b3 b3' b4 B3
  go_wp2_with fail
  have hlen : (readL d (stateAt n gen) (areaOf n)).length = areaOf n := readL_len _ _ _
  have hjo := joined_good A4 c4 (readL d (stateAt n gen) (areaOf n)) gen st w4 (by rw [hlen]; exact R4.out) (by rw [hlen]; omega) (tab_below HT.out B4.out hpos) (Nat.lt_of_lt_of_le hpos B4.out.size) hst (by rw [hlen]; exact hfit) hin
  rw [hlen] at hjo
  refine hjo.mono ?_
  rintro e w5 ⟨v, rfl, hown, b5⟩
  obtain ⟨B, cc, rfl⟩ := slice_of hown
  have J5 := Lib.hid (J4.out.below b5 J4.out.lt)
  have HO := Lib.hid hown
  have B5 := Lib.hid (B4.out.trans (b5.mono B4.out.size))
  have hs4 := B4.out.size
  have H5 := Lib.hid ((H.out.below B4.out).more b5 (own_blk_in hown))
  have hBb := own_blk_in hown
  clear hown b5 hjo
  go_wp2_with (first
    | (refine wpList_set_blk1 rfl 3 (.tmp 67) (.tmp 64) rfl gj 3 67 _ (.int .i64 gen) rfl rfl J5.out (by simp [jcells]) (by kernel_rfl) rfl ?_; intro wa hba hoa hsa1)
    | (refine wpList_set_blk1 rfl 34 (.tmp 69) (.tmp 65) rfl gj 4 67 _ (.slice B st.length cc) rfl rfl hba (by simp [jcells]) (by kernel_rfl) rfl ?_; intro wb hbb hob hsb))
  go_ret
  have hon : Only [gj] w5 wb := hoa.trans hob (Fresh.refl _ _)
  have hgl := HJ.out.lt
  refine ⟨B, cc, rfl, H5.out.kept (by simp [hgj]) hon hgj0, fun k hk => by have := hBb k hk; omega, ?_, ?_, ?_, Nat.le_trans B5.out.size hon.size⟩
  · simpa [jcells] using hbb
  · exact row_weaken (row_of HO.out (w' := wb) (fun k hk => hon.block k (row_under HO.out k hk) (by have := row_over HO.out k hk; simp; omega))) hs4
  · intro k hk hne
    rw [hon.block k (Nat.lt_of_lt_of_le hk B5.out.size) (by simpa using hne)]
    exact B5.out.block k hk
end Go.Proofs.YtpklcmocjimcpaaDoor

/-
  The transaction that stands first in a log's sectors from a place on. Condition: the package's table holds its sixteen numbers.
-/
namespace Go.Proofs.YtpklcmocjimcpaaDoor
open Go.RowKit
set_option maxRecDepth 100000
set_option linter.unusedSimpArgs false
set_option linter.unusedVariables false
/-- what stands in these sectors, behind k parts whose bytes are tx; how many sectors it takes -/
noncomputable def standF (g : Int) (p : Nat) : List Sec → Nat → List Nat → Option (List Nat × Nat)
  | [], _, _ => none
  | s :: l, k, tx => if isOf s.l 3 g ((p : Int) + (k : Int)) = true then standF g p l (k + 1) (tx ++ tD s.l) else if 0 < k ∧ endOf s g ((p : Int) + (k : Int)) (k : Int) = true then some (tx, k + 1) else none
def StandTo (w : World) (o : Option (List Nat × Nat)) (e : Ending) (w' : World) : Prop := match o with
  | some (tx, m) => ∃ v, e = .returned (.tuple #[v, .int .i64 m]) ∧ Own w' w.heap.size v tx.length tx ∧ Below w.heap.size w w'
  | none => e = .returned (.tuple #[.slice none 0 0, .int .i64 0]) ∧ Below w.heap.size w w'
set_option maxRecDepth 100000 in
set_option maxHeartbeats 4000000 in
theorem standing_any (A : Option Addr) (c : Nat) (ss : List Sec) (gen : Int) (p : Nat) (w : World) (hR : Reads w w.heap.size 128 A ss.length (ss.flatMap Sec.cs)) (hl : ss.length ≤ 4096) (hp : p ≤ 4096) (hT : Tab w) (hpos : 0 < w.heap.size) :
    Calls Tryd.prog 54 #[.slice A ss.length c, .int .i64 gen, .int .i64 p] w (StandTo w (standF gen p ss 0 [])) := by
  obtain ⟨Zs, hz6, hzl⟩ : ∃ Zs : List Value, (∀ w, (zeroValue 90).run Tryd.prog w = .ok (.agg Zs.toArray) w) ∧ Zs.length = 128 := ⟨_, sec_zero, Sec.cs_len _⟩
  have hus := Tryd.underlying90
  have hib : ∀ s : Sec, (Tryd.prog.info? 90).map (·.size) = some s.cs.length := fun s => by rw [Sec.cs_len]; exact sec_size
  have HR := Lib.hid hR
  have HT := Lib.hid hT
  clear hR hT
  go_enter Tryd.func54, Tryd.ntmps54
  go_wp2
  go_loopg [8, 15] ss.length (fun gk v j wr => ∃ (k : Nat) (u : Value) (tx : List Nat), k ≤ ss.length ∧ gk = ss.length - k ∧ u = v ∧ j = .int .i64 k ∧ Below w.heap.size w wr ∧ Own wr w.heap.size u tx.length tx ∧ standF gen p (ss.drop k) k tx = standF gen p ss 0 [] ∧ tx.length ≤ 106 * k)
  case atStart => exact ⟨0, _, [], by omega, by omega, rfl, rfl, Below.refl _ _, Own.nil w w.heap.size, by simp, by simp⟩
  case round =>
    obtain ⟨k, u, tx, hk, rfl, rfl, rfl, hb, hown, hst, htx⟩ := hrel
    by_cases hlt : k < ss.length
    · obtain ⟨ad, s, rfl, hadb, hs, hc⟩ := reads_sec (HR.out.below hb) hlt
      have hdrop : ss.drop k = s :: ss.drop (k + 1) := by
        rw [List.drop_eq_getElem_cons hlt]
        congr 1
        exact Option.some.inj ((List.getElem?_eq_getElem hlt).symm.trans hs)
      rw [hdrop] at hst
      obtain ⟨Au, cu, rfl⟩ := slice_of hown
      have BX := Lib.hid (Blk.new wr 90 s.cs.toArray)
      have BW := Lib.hid (hb.alloc hb.size (.cells s.cs.toArray 90))
      have HO := Lib.hid (hown.alloc (.cells s.cs.toArray 90))
      have HST := Lib.hid hst
      clear hb hs hdrop hown hst
      go_wp2_with (first
        | (refine wpList_load_at rfl 90 (.tmp 18) rfl _ rfl s.cs _ hc hus rfl (hib s) ?_)
        | (refine wpList_store_newN rfl 90 (.tmp 10) (.tmp 19) rfl wr.heap.size rfl s.cs Zs.toArray rfl rfl (hib s) (by simp [Sec.cs_len, hzl]) s.one ?_)
        | (refine wpList_load_mid rfl 90 (.tmp 10) rfl wr.heap.size 0 rfl s.cs _ BX.out.range hus rfl (hib s) ?_))
      generalize hw5 : wr.alloc (.cells s.cs.toArray 90) = w5 at *
      generalize hgx : wr.heap.size = gx at *
      clear hw5 hgx hc
      cases his : isOf s.l 3 gen ((p : Int) + (k : Int)) with
      | true =>
        have hnx : standF gen p (ss.drop (k + 1)) (k + 1) (tx ++ tD s.l) = standF gen p ss 0 [] := by
          rw [← HST.out]
          show _ = if isOf s.l 3 gen ((p : Int) + (k : Int)) = true then _ else _
          rw [if_pos his]
        have htl := tD_len s.l
        have HNX := Lib.hid hnx
        refine (is_yes s 3 gen ((p : Int) + (k : Int)) w5 (tab_below HT.out BW.out hpos) his).mono ?_
        rintro e w6 ⟨A6, c6, rfl, ho6, b6⟩
        have BY := Lib.hid (ho6.bytes (tD_lt s.l s.lt))
        have HO6 := Lib.hid (row_of HO.out (w' := w6) (fun x hx => b6.block x (row_under HO.out x hx)))
        have B6 := Lib.hid (BW.out.trans (b6.mono BW.out.size))
        clear ho6 b6 his hnx
        go_wp2_with (at_builtin; refine app_bytes (.tmp 49) (.tmp 50) rfl rfl w.heap.size (.slice Au tx.length cu) tx.length tx rfl HO6.out w6.heap.size A6 (tD s.l).length c6 (tD s.l) rfl BY.out (by omega) B6.out.size ?_; intro v7 w7 h7 hg7 ha7)
        go_roundg (ss.length - (k + 1))
        case measure => omega
        case rel =>
          refine ⟨k + 1, v7, tx ++ tD s.l, by omega, rfl, rfl, by go_num, B6.out.grown hg7 B6.out.size (fun x hx => (World.ownsRow.lt HO6.out x hx).1), ?_, HNX.out, by rw [List.length_append]; omega⟩
          rw [List.length_append]
          exact h7
      | false =>
        refine (is_no s 3 gen ((p : Int) + (k : Int)) w5 (tab_below HT.out BW.out hpos) his).mono ?_
        rintro e w6 ⟨rfl, b6⟩
        have BX6 := Lib.hid (BX.out.below b6 BX.out.lt)
        have HO6 := Lib.hid (row_of HO.out (w' := w6) (fun x hx => b6.block x (row_under HO.out x hx)))
        have B6 := Lib.hid (BW.out.trans (b6.mono BW.out.size))
        have htop : standF gen p ss 0 [] = if 0 < k ∧ endOf s gen ((p : Int) + (k : Int)) (k : Int) = true then some (tx, k + 1) else none := by
          rw [← HST.out]
          show (if isOf s.l 3 gen ((p : Int) + (k : Int)) = true then _ else _) = _
          rw [if_neg (by rw [his]; exact Bool.false_ne_true)]
        have HTOP := Lib.hid htop
        clear b6 his htop
        by_cases hk0 : 0 < k
        · have hc0 : (k : Int) > 0 := by omega
          go_wp2_with (refine wpListG_load_mid (by kernel_rfl) 90 (.tmp 10) rfl gx 0 rfl s.cs _ BX6.out.range hus rfl (hib s) ?_)
          refine (jend_any s gen ((p : Int) + (k : Int)) (k : Int) w6 (tab_below HT.out B6.out hpos)).mono ?_
          rintro e w7 ⟨rfl, b7⟩
          have B7 := Lib.hid (B6.out.trans (b7.mono B6.out.size))
          have HO7 := Lib.hid (row_of HO6.out (w' := w7) (fun x hx => b7.block x (row_under HO6.out x hx)))
          clear b7
          cases he : endOf s gen ((p : Int) + (k : Int)) (k : Int) with
          | true =>
            have hn : standF gen p ss 0 [] = some (tx, k + 1) := by rw [HTOP.out, if_pos ⟨hk0, he⟩]
            clear he
            go_wp2
            go_ret2
            rw [hn]
            exact ⟨_, by go_num, HO7.out, B7.out⟩
          | false =>
            have hn : standF gen p ss 0 [] = none := by rw [HTOP.out, if_neg (by rw [he]; simp)]
            clear he
            go_wp2
            go_ret2
            rw [hn]
            exact ⟨rfl, B7.out⟩
        · have hc0 : ¬ (k : Int) > 0 := by omega
          have hn : standF gen p ss 0 [] = none := by rw [HTOP.out, if_neg (fun h => hk0 h.1)]
          go_wp2
          go_ret2
          rw [hn]
          exact ⟨rfl, B6.out⟩
    · obtain rfl : k = ss.length := by omega
      rw [List.drop_length] at hst
      have hn : standF gen p ss 0 [] = none := hst.symm
      go_wp2
      go_ret2
      rw [hn]
      exact ⟨rfl, hb⟩
end Go.Proofs.YtpklcmocjimcpaaDoor

/-
  A journal's transactions are read off a disk. Conditions: the power is there; so many stand there; small numbers.
-/
namespace Go.Proofs.YtpklcmocjimcpaaDoor
open Go.RowKit
set_option maxRecDepth 100000
set_option linter.unusedSimpArgs false
set_option linter.unusedVariables false
/-- these transactions stand in the log from a place on; the place behind them -/
noncomputable def LogIs (g : Int) (ss : List Sec) : Nat → List (List Nat) → Nat → Prop
  | u, [], v => u = v ∧ standF g u (ss.drop u) 0 [] = none
  | u, t :: l, v => ∃ m, standF g u (ss.drop u) 0 [] = some (t, m) ∧ LogIs g ss (u + m) l v
theorem standF_le {g : Int} {p : Nat} : ∀ (l : List Sec) (k : Nat) (tx t : List Nat) (m : Nat), standF g p l k tx = some (t, m) → k < m ∧ m ≤ k + l.length ∧ t.length ≤ tx.length + 106 * l.length
  | [], k, tx, t, m, h => by cases h
  | s :: l, k, tx, t, m, h => by
    unfold standF at h
    split at h
    · have h1 := standF_le l (k + 1) _ t m h
      have h2 := tD_len s.l
      simp only [List.length_append, List.length_cons] at h1 ⊢
      omega
    · split at h
      · injection h with h
        injection h with h1 h2
        subst h1 h2
        simp only [List.length_cons]
        omega
      · cases h
theorem flat_drop : ∀ (ss : List Sec) (v : Nat), (ss.flatMap Sec.cs).drop (v * 128) = (ss.drop v).flatMap Sec.cs
  | ss, 0 => by simp
  | [], v + 1 => by simp
  | s :: ss, v + 1 => by
    rw [List.flatMap_cons, List.drop_succ_cons, ← flat_drop ss v, show (v + 1) * 128 = s.cs.length + v * 128 by rw [Sec.cs_len, Nat.add_mul]; omega, List.drop_append]
    simp
/-- transactions as a row of slices -/
def TxRows (w : World) (base : Nat) (vt : Value) (txs : List (List Nat)) (us : List Value) : Prop :=
  w.ownsRow base 34 1 vt txs.length us ∧ us.length = txs.length ∧ ∀ (i : Nat) (tx : List Nat), txs[i]? = some tx → ∃ B c, us[i]? = some (.slice B tx.length c) ∧ Own w base (.slice B tx.length c) tx.length tx
def txBlks (vt : Value) (us : List Value) : List Nat := rowOf vt ++ us.flatMap rowOf
theorem TxRows.of {w w' : World} {base : Nat} {vt : Value} {txs : List (List Nat)} {us : List Value} (h : TxRows w base vt txs us) (hk : ∀ k ∈ txBlks vt us, w'.heap[k]? = w.heap[k]?) : TxRows w' base vt txs us := by
  refine ⟨row_of h.1 (fun k hk' => hk k (List.mem_append_left _ hk')), h.2.1, fun i tx hi => ?_⟩
  obtain ⟨B, c, h1, h2⟩ := h.2.2 i tx hi
  exact ⟨B, c, h1, row_of h2 (fun k hk' => hk k (List.mem_append_right _ (List.mem_flatMap.2 ⟨_, List.mem_of_getElem? h1, hk'⟩)))⟩
theorem TxRows.weaken {w : World} {base base' : Nat} {vt : Value} {txs : List (List Nat)} {us : List Value} (h : TxRows w base vt txs us) (hb : base' ≤ base) : TxRows w base' vt txs us :=
  ⟨row_weaken h.1 hb, h.2.1, fun i tx hi => by
    obtain ⟨B, c, h1, h2⟩ := h.2.2 i tx hi
    exact ⟨B, c, h1, h2.weaken hb⟩⟩
theorem TxRows.item {w : World} {base : Nat} {vt : Value} {txs : List (List Nat)} {us : List Value} (h : TxRows w base vt txs us) {u : Value} (hu : u ∈ us) : ∃ B c tx, u = .slice B (List.length tx) c ∧ tx ∈ txs ∧ Own w base (.slice B tx.length c) tx.length tx := by
  obtain ⟨i, hi, rfl⟩ := List.mem_iff_getElem.1 hu
  have hx : txs[i]? = some (txs[i]'(by have := h.2.1; omega)) := List.getElem?_eq_getElem _
  obtain ⟨B, c, h1, h2⟩ := h.2.2 i _ hx
  rw [List.getElem?_eq_getElem hi] at h1
  injection h1 with h1
  exact ⟨B, c, _, h1, List.getElem_mem _, h2⟩
theorem TxRows.over {w : World} {base : Nat} {vt : Value} {txs : List (List Nat)} {us : List Value} (h : TxRows w base vt txs us) : ∀ k ∈ txBlks vt us, base ≤ k ∧ k < w.heap.size := fun k hk => by
  rcases List.mem_append.1 hk with hk | hk
  · exact World.ownsRow.lt h.1 k (mem_rowOf.1 hk)
  · obtain ⟨u, hu, hk⟩ := List.mem_flatMap.1 hk
    obtain ⟨B, c, tx, rfl, _, ho⟩ := h.item hu
    exact World.ownsRow.lt ho k (mem_rowOf.1 hk)
theorem TxRows.nil (w : World) (base : Nat) : TxRows w base (.slice none 0 0) [] [] := ⟨World.ownsRow_nil w base _ 1, rfl, fun i tx h => by simp at h⟩
/-- rows of unlike types lie apart -/
theorem own_own_ne {w : World} {b1 b2 n1 n2 s1 s2 : Nat} {e1 e2 : TypeId} {v1 v2 : Value} {x1 x2 : List Value} (h1 : w.ownsRow b1 e1 s1 v1 n1 x1) (h2 : w.ownsRow b2 e2 s2 v2 n2 x2) (hne : e1 ≠ e2) : ∀ k ∈ rowOf v1, v2.ownBlock ≠ some k := by
  intro k hk
  rcases h1.2 with ⟨rfl, _⟩ | ⟨g', cap, cur, rfl, _, hh, _⟩
  · have := mem_rowOf.1 hk; simp [Value.ownBlock] at this
  · have hg : k = g' := by have := mem_rowOf.1 hk; simp [Value.ownBlock] at this; exact this.symm
    subst hg
    exact own_blk_ne h2 (show Blk w k e1 cur from hh) (Ne.symm hne)
theorem rowOf_slice (A : Option Addr) (n c : Nat) : rowOf (.slice A n c) ⊆ blkOf A := by
  intro k hk
  have := mem_rowOf.1 hk
  cases A with
  | none => simp [Value.ownBlock] at this
  | some ad =>
    simp only [Value.ownBlock] at this
    simp only [blkOf, List.mem_singleton]
    injection this with this
    exact this.symm
/-- one more is appended to the row -/
theorem TxRows.snoc {w w' : World} {base : Nat} {vt vt' : Value} {txs : List (List Nat)} {us : List Value} (h : TxRows w base vt txs us) {tx : List Nat} {B : Option Addr} {c : Nat} (ho : Own w base (.slice B tx.length c) tx.length tx) (hg : w.grownBy w' vt.ownBlock) (hr : w'.ownsRow base 34 1 vt' (txs.length + 1) (us ++ [.slice B tx.length c])) : TxRows w' base vt' (txs ++ [tx]) (us ++ [.slice B tx.length c]) := by
  have hown : ∀ {v : Value} {n : Nat} {bs : List Nat}, Own w base v n bs → Own w' base v n bs := fun {v n bs} hv => row_of hv fun k hk => hg.block k (World.ownsRow.lt hv k (mem_rowOf.1 hk)).2 (fun e => own_own_ne hv h.1 (by decide) k hk e.symm)
  refine ⟨by rw [List.length_append]; exact hr, by simp [h.2.1], fun i t hi => ?_⟩
  by_cases hlt : i < txs.length
  · rw [List.getElem?_append_left hlt] at hi
    obtain ⟨B', c', h1, h2⟩ := h.2.2 i t hi
    exact ⟨B', c', by rw [List.getElem?_append_left (by have := h.2.1; omega)]; exact h1, hown h2⟩
  · rw [List.getElem?_append_right (by omega)] at hi
    have h0 : i - txs.length = 0 := by
      rcases Nat.eq_zero_or_pos (i - txs.length) with h0 | h0
      · exact h0
      · rw [List.getElem?_eq_none (by simp; omega)] at hi; cases hi
    rw [h0] at hi
    simp at hi
    subst hi
    exact ⟨B, c, by rw [List.getElem?_append_right (by have := h.2.1; omega), h.2.1, h0]; rfl, hown ho⟩
/-- what is sliced off a row of sectors -/
theorem run_cut_secs (A : Option Addr) (m c k : Nat) (hk : k ≤ m) (w : World) : (Instr.slice 69 (.slice A m c) (some (.int .i64 k)) none none).run Tryd.prog w = .ok (.slice (if c = k then A else A.map (·.add (k * 128))) (m - k) (c - k)) w := by
  have hsz : ∀ w, (sizeOf (Tryd.prog.elem 69)).run Tryd.prog w = .ok 128 w := fun w => by kernel_rfl
  rw [run_slice_l w 69 A m c (by kernel_rfl) .i64 k (by omega) (by omega), hsz]
  simp only [Result.andThen, sliced, Int.toNat_natCast]
set_option maxRecDepth 100000 in
set_option maxHeartbeats 8000000 in
theorem readLog_good {w0 w : World} {g gj n gen : Nat} {vs : Value} {d : DM} {X : List Nat} (h : Holds w0 w g d X) (hJ : Blk w gj 67 (jcells n g gen vs (.slice none 0 0) 0 false)) (hgj : gj ∈ X) (hgj0 : w0.heap.size ≤ gj) (hdn : d.n = n) (hn : n ≤ 4096) (hn8 : 8 ≤ n) (hup : d.gone = false) (hwt : d.wait.length ≤ 1000000)
    (hT : Tab w) (hw0 : 0 < w0.heap.size) (txs : List (List Nat)) (u : Nat) (hlog : LogIs gen (readL d (logAt n) (logOf n)) 0 txs u) :
    Calls Tryd.prog 40 #[.pointer (some ⟨gj, 0, none⟩)] w fun e w' => ∃ vt us, e = .returned .nilIface ∧ Holds w0 w' g d (txBlks vt us ++ X) ∧ (∀ k ∈ txBlks vt us, w.heap.size ≤ k) ∧ Blk w' gj 67 (jcells n g gen vs vt u false) ∧ TxRows w' w.heap.size vt txs us ∧ (∀ k, k < w.heap.size → k ≠ gj → w'.heap[k]? = w.heap[k]?) ∧ w.heap.size ≤ w'.heap.size := by
  have hpos : 0 < w.heap.size := Nat.lt_of_lt_of_le hw0 h.size
  have hsa : logAt n + logOf n ≤ d.n := by
    rw [hdn]
    unfold logAt logOf areaOf
    omega
  have hlo : logOf n ≤ 4096 := by unfold logOf; omega
  have hgl := hJ.lt
  have H := Lib.hid h
  have HJ := Lib.hid hJ
  have HT := Lib.hid hT
  have HLOG := Lib.hid hlog
  clear h hJ hT hlog
  have hul := Tryd.underlying64
  go_enter Tryd.func40, Tryd.ntmps40
  go_wp2
  have hS0 : Blk w.drew gj 67 (jcells n g gen vs (.slice none 0 0) 0 false) := HJ.out
  refine any_beginL (fun w' => Blk w' gj 67 (jcells n g gen vs (.slice none 0 0) 0 false)) 99 (by kernel_rfl) ?_
  refine S_take (i := 0) (v := .pointer (some ⟨gj, 0, none⟩)) rfl rfl (by kernel_rfl) (by kernel_rfl) (by kernel_rfl) (fun _ _ _ h => h) (Or.inl ⟨by rfl, fun w hw => by kernel_rfl⟩) hS0 ?_
  simp only [Act.put, List.getElem_toArray, List.getElem_cons_succ, List.getElem_cons_zero, List.setIfInBounds_toArray, List.set_cons_zero, List.set_cons_succ]
  refine S_take (i := 1) (v := .pointer (some ⟨gj, 0, none⟩)) rfl rfl (by kernel_rfl) (by kernel_rfl) (by kernel_rfl) (fun _ _ _ h => h) (Or.inl ⟨by rfl, fun w hw => by go_simp⟩) hS0 ?_
  simp only [Act.put, List.getElem_toArray, List.getElem_cons_succ, List.getElem_cons_zero, List.setIfInBounds_toArray, List.set_cons_zero, List.set_cons_succ]
  refine S_take (i := 2) (v := .pointer (some ⟨gj, 2, none⟩)) rfl rfl (by kernel_rfl) (by kernel_rfl) (by kernel_rfl) (fun _ _ _ h => h) (Or.inl ⟨by rfl, fun w hw => by kernel_rfl⟩) hS0 ?_
  simp only [Act.put, List.getElem_toArray, List.getElem_cons_succ, List.getElem_cons_zero, List.setIfInBounds_toArray, List.set_cons_zero, List.set_cons_succ]
  refine S_take (i := 3) (v := .pointer (some ⟨g, 0, none⟩)) rfl rfl (by kernel_rfl) (by kernel_rfl) (by kernel_rfl) (fun _ _ _ h => h) (Or.inl ⟨by rfl, fun w hw => by have q : w.cell? ⟨_, 2, none⟩ = some (.pointer (some ⟨g, 0, none⟩)) := hw.cell 2; go_simp⟩) hS0 ?_
  simp only [Act.put, List.getElem_toArray, List.getElem_cons_succ, List.getElem_cons_zero, List.setIfInBounds_toArray, List.set_cons_zero, List.set_cons_succ]
  refine S_take (i := 4) (v := .pointer (some ⟨gj, 0, none⟩)) rfl rfl (by kernel_rfl) (by kernel_rfl) (by kernel_rfl) (fun _ _ _ h => h) (Or.inl ⟨by rfl, fun w hw => by kernel_rfl⟩) hS0 ?_
  simp only [Act.put, List.getElem_toArray, List.getElem_cons_succ, List.getElem_cons_zero, List.setIfInBounds_toArray, List.set_cons_zero, List.set_cons_succ]
  refine S_take (i := 5) (v := .pointer (some ⟨gj, 0, none⟩)) rfl rfl (by kernel_rfl) (by kernel_rfl) (by kernel_rfl) (fun _ _ _ h => h) (Or.inl ⟨by rfl, fun w hw => by go_simp⟩) hS0 ?_
  simp only [Act.put, List.getElem_toArray, List.getElem_cons_succ, List.getElem_cons_zero, List.setIfInBounds_toArray, List.set_cons_zero, List.set_cons_succ]
  refine S_take (i := 6) (v := .pointer (some ⟨gj, 0, none⟩)) rfl rfl (by kernel_rfl) (by kernel_rfl) (by kernel_rfl) (fun _ _ _ h => h) (Or.inl ⟨by rfl, fun w hw => by kernel_rfl⟩) hS0 ?_
  simp only [Act.put, List.getElem_toArray, List.getElem_cons_succ, List.getElem_cons_zero, List.setIfInBounds_toArray, List.set_cons_zero, List.set_cons_succ]
  refine S_take (i := 7) (v := .agg [.int .i64 (areaOf n), .int .i64 (logOf n)].toArray) rfl rfl (by kernel_rfl) (by kernel_rfl) (by kernel_rfl) (fun _ _ _ h => h) (Or.inl ⟨by rfl, fun w hw => exec_load_mid1 64 (.tmp 14) rfl gj 0 rfl _ _ (layout_range hw) hul rfl layout_size⟩) hS0 ?_
  simp only [Act.put, List.getElem_toArray, List.getElem_cons_succ, List.getElem_cons_zero, List.setIfInBounds_toArray, List.set_cons_zero, List.set_cons_succ]
  refine S_take (i := 9) (v := .pointer (some ⟨gj, 0, none⟩)) rfl rfl (by kernel_rfl) (by kernel_rfl) (by kernel_rfl) (fun _ _ _ h => h) (Or.inl ⟨by rfl, fun w hw => by kernel_rfl⟩) hS0 ?_
  simp only [Act.put, List.getElem_toArray, List.getElem_cons_succ, List.getElem_cons_zero, List.setIfInBounds_toArray, List.set_cons_zero, List.set_cons_succ]
  refine S_take (i := 10) (v := .pointer (some ⟨gj, 0, none⟩)) rfl rfl (by kernel_rfl) (by kernel_rfl) (by kernel_rfl) (fun _ _ _ h => h) (Or.inl ⟨by rfl, fun w hw => by go_simp⟩) hS0 ?_
  simp only [Act.put, List.getElem_toArray, List.getElem_cons_succ, List.getElem_cons_zero, List.setIfInBounds_toArray, List.set_cons_zero, List.set_cons_succ]
  refine S_take (i := 11) (v := .pointer (some ⟨gj, 0, none⟩)) rfl rfl (by kernel_rfl) (by kernel_rfl) (by kernel_rfl) (fun _ _ _ h => h) (Or.inl ⟨by rfl, fun w hw => by kernel_rfl⟩) hS0 ?_
  simp only [Act.put, List.getElem_toArray, List.getElem_cons_succ, List.getElem_cons_zero, List.setIfInBounds_toArray, List.set_cons_zero, List.set_cons_succ]
  refine S_take (i := 12) (v := .pointer (some ⟨gj, 1, none⟩)) rfl rfl (by kernel_rfl) (by kernel_rfl) (by kernel_rfl) (fun _ _ _ h => h) (Or.inl ⟨by rfl, fun w hw => by kernel_rfl⟩) hS0 ?_
  simp only [Act.put, List.getElem_toArray, List.getElem_cons_succ, List.getElem_cons_zero, List.setIfInBounds_toArray, List.set_cons_zero, List.set_cons_succ]
  refine S_take (i := 13) (v := .int .i64 (logOf n)) rfl rfl (by kernel_rfl) (by kernel_rfl) (by kernel_rfl) (fun _ _ _ h => h) (Or.inl ⟨by rfl, fun w hw => by have q : w.cell? ⟨_, 1, none⟩ = some (.int .i64 (logOf n)) := hw.cell 1; go_simp⟩) hS0 ?_
  simp only [Act.put, List.getElem_toArray, List.getElem_cons_succ, List.getElem_cons_zero, List.setIfInBounds_toArray, List.set_cons_zero, List.set_cons_succ]
  refine L_one (j := 8) (by kernel_rfl) rfl (by rfl) ?_
  simp only [Act.put, List.getElem_toArray, List.getElem_cons_succ, List.getElem_cons_zero, List.setIfInBounds_toArray, List.set_cons_zero, List.set_cons_succ]
  refine wp_called (by kernel_rfl) (logAt_any n w.drew hn) ?_
  rintro e w3 ⟨rfl, b3'⟩
  have b3 := below_drew' b3'
  have hS3 := HJ.out.below b3 HJ.out.lt
  refine ⟨_, rfl, hS3, ?_⟩
  simp only [Act.put, List.getElem_toArray, List.getElem_cons_succ, List.getElem_cons_zero, List.setIfInBounds_toArray, List.set_cons_zero, List.set_cons_succ]
  refine L_one (j := 14) (by kernel_rfl) rfl (by rfl) ?_
  simp only [Act.put, List.getElem_toArray, List.getElem_cons_succ, List.getElem_cons_zero, List.setIfInBounds_toArray, List.set_cons_zero, List.set_cons_succ]
  refine wp_called (by kernel_rfl) (jread_any (H.out.below b3) (logAt n) (logOf n) hup hsa (by omega) hwt) ?_
  rintro e w4 ⟨v, rfl, hrow, b4⟩
  obtain ⟨A4, c4, rfl⟩ := slice_of hrow
  rw [six_row] at hrow
  have hS4 := hS3.below b4 hS3.lt
  refine ⟨_, rfl, hS4, ?_⟩
  simp only [Act.put, List.getElem_toArray, List.getElem_cons_succ, List.getElem_cons_zero, List.setIfInBounds_toArray, List.set_cons_zero, List.set_cons_succ]
  refine S_take (i := 15) (v := .tuple #[.slice A4 (logOf n) c4, .nilIface]) rfl rfl (by kernel_rfl) (by kernel_rfl) (by kernel_rfl) (fun _ _ _ h => h) (Or.inl ⟨by rfl, fun w hw => by kernel_rfl⟩) hS4 ?_
  simp only [Act.put, List.getElem_toArray, List.getElem_cons_succ, List.getElem_cons_zero, List.setIfInBounds_toArray, List.set_cons_zero, List.set_cons_succ]
  refine S_take (i := 16) (v := .slice A4 (logOf n) c4) rfl rfl (by kernel_rfl) (by kernel_rfl) (by kernel_rfl) (fun _ _ _ h => h) (Or.inl ⟨by rfl, fun w hw => by kernel_rfl⟩) hS4 ?_
  simp only [Act.put, List.getElem_toArray, List.getElem_cons_succ, List.getElem_cons_zero, List.setIfInBounds_toArray, List.set_cons_zero, List.set_cons_succ]
  refine S_take (i := 17) (v := .nilIface) rfl rfl (by kernel_rfl) (by kernel_rfl) (by kernel_rfl) (fun _ _ _ h => h) (Or.inl ⟨by rfl, fun w hw => by kernel_rfl⟩) hS4 ?_
  simp only [Act.put, List.getElem_toArray, List.getElem_cons_succ, List.getElem_cons_zero, List.setIfInBounds_toArray, List.set_cons_zero, List.set_cons_succ]
  refine L_one (j := 18) (by kernel_rfl) rfl (by rfl) ?_
  simp only [Act.put, List.getElem_toArray, List.getElem_cons_succ, List.getElem_cons_zero, List.setIfInBounds_toArray, List.set_cons_zero, List.set_cons_succ]
  refine wp_yields (v := .slice A4 (logOf n) c4) (by kernel_rfl) ⟨hS4, ?_⟩
  simp only [Act.put, List.getElem_toArray, List.getElem_cons_succ, List.getElem_cons_zero, List.setIfInBounds_toArray, List.set_cons_zero, List.set_cons_succ]
  refine L_one (j := 19) (by kernel_rfl) rfl (by rfl) ?_
  simp only [Act.put, List.getElem_toArray, List.getElem_cons_succ, List.getElem_cons_zero, List.setIfInBounds_toArray, List.set_cons_zero, List.set_cons_succ]
  refine wp_yields (v := .nilIface) (by kernel_rfl) ⟨hS4, ?_⟩
  simp only [Act.put, List.getElem_toArray, List.getElem_cons_succ, List.getElem_cons_zero, List.setIfInBounds_toArray, List.set_cons_zero, List.set_cons_succ]
  refine L_done (by kernel_rfl) ?_
  refine NoPanic.normal ?_
  have J4 := Lib.hid hS4
  have B4 := Lib.hid (b3.trans (b4.mono b3.size))
  have R4 := Lib.hid (row_weaken hrow b3.size)
  have hlen : (readL d (logAt n) (logOf n)).length = logOf n := readL_len _ _ _
  have hcap : logOf n ≤ c4 := by
    rcases hrow.2 with ⟨hv, h0⟩ | ⟨gw, cap', cur, hv, _, _, hnc, _⟩
    · injection hv with h1 h2 h3; omega
    · injection hv with h1 h2 h3; omega
  clear hS0 hS3 hS4 hrow b3 b3' b4
  go_wp2
  generalize hss : readL d (logAt n) (logOf n) = ss at *
  have hrd : (List.map (readRow d (logAt n) (logOf n)) (List.range (logOf n))) = ss := hss
  rw [hrd] at R4
  clear hrd hss
  have HLEN := Lib.hid hlen
  clear hlen
  go_loopg [5, 6] txs.length (fun gk x y wr => ∃ (done rest : List (List Nat)) (v : Nat) (vt : Value) (us : List Value), gk = rest.length ∧ done ++ rest = txs ∧ LogIs gen ss v rest u ∧ v ≤ logOf n ∧ done.length ≤ v ∧ Holds w0 wr g d (txBlks vt us ++ X) ∧ Blk wr gj 67 (jcells n g gen vs vt v false) ∧ TxRows wr w.heap.size vt done us ∧ (∀ k, k < w.heap.size → k ≠ gj → wr.heap[k]? = w.heap[k]?) ∧ w.heap.size ≤ wr.heap.size ∧ wr.ownsRow w.heap.size 90 128 (.slice A4 (logOf n) c4) (logOf n) (ss.flatMap Sec.cs))
  case atStart => exact ⟨[], txs, 0, _, [], rfl, rfl, HLOG.out, by omega, by simp, (H.out.below B4.out).mono (fun k hk => by simpa [txBlks, rowOf, Value.ownBlock] using hk), J4.out, TxRows.nil _ _, fun k hk _ => B4.out.block k hk, B4.out.size, R4.out⟩
  case round =>
    obtain ⟨done, rest, v, vt, us, rfl, hdone, hlg, hv, hdv, hh, hj, htx, hkeep, hsz, hrow⟩ := hrel
    have hgw0 : 0 ≠ gj := by omega
    have htab : Tab wr := fun i hi => (World.cell?_of_block (hkeep 0 hpos hgw0)).trans (HT.out i hi)
    have hcut := (Reads.of_own hrow).cut (k := v) (cap := c4) hv hcap
    have hfd : (ss.drop v).length = logOf n - v := by rw [List.length_drop, HLEN.out]
    have hcut2 : Reads wr wr.heap.size 128 (if c4 = v then A4 else A4.map (·.add (v * 128))) (ss.drop v).length ((ss.drop v).flatMap Sec.cs) := by
      rw [hfd, show (ss.drop v).flatMap Sec.cs = (ss.flatMap Sec.cs).drop (v * 128) from (flat_drop ss v).symm]
      exact hcut
    have hst := standing_any _ (c4 - v) (ss.drop v) gen v wr.drew hcut2.drew (by rw [hfd]; omega) (by omega) htab (by show 0 < wr.heap.size; omega)
    rw [hfd] at hst
    generalize hAc : (if c4 = v then A4 else A4.map (·.add (v * 128))) = Ac at *
    have hsl : ∀ w, (Instr.slice 69 (.slice A4 (logOf n) c4) (some (.int .i64 v)) none none).run Tryd.prog w = .ok (.slice Ac (logOf n - v) (c4 - v)) w := fun w => by rw [← hAc]; exact run_cut_secs A4 (logOf n) c4 v hv w
    clear hAc hcut hcut2
    have HST := Lib.hid hst
    have HSL := Lib.hid hsl
    have HDONE := Lib.hid hdone
    have HH := Lib.hid hh
    have HJR := Lib.hid hj
    have HTX := Lib.hid htx
    have HKEEP := Lib.hid hkeep
    have HROW := Lib.hid hrow
    have HTAB := Lib.hid htab
    clear hst hsl hdone hh hj htx hkeep hrow htab hfd
    have hls := hlg
    cases rest with
    | nil =>
      have hvu := hlg.1
      subst hvu
      go_wp2
      have hS5 : Blk wr.drew gj 67 (jcells n g gen vs vt v false) := HJR.out
      refine any_beginL (fun w' => Blk w' gj 67 (jcells n g gen vs vt v false)) 99 (by kernel_rfl) ?_
      refine S_take (i := 0) (v := .slice A4 (logOf n) c4) rfl rfl (by kernel_rfl) (by kernel_rfl) (by kernel_rfl) (fun _ _ _ h => h) (Or.inl ⟨by rfl, fun w hw => by kernel_rfl⟩) hS5 ?_
      simp only [Act.put, List.getElem_toArray, List.getElem_cons_succ, List.getElem_cons_zero, List.setIfInBounds_toArray, List.set_cons_zero, List.set_cons_succ]
      refine S_take (i := 1) (v := .pointer (some ⟨gj, 0, none⟩)) rfl rfl (by kernel_rfl) (by kernel_rfl) (by kernel_rfl) (fun _ _ _ h => h) (Or.inl ⟨by rfl, fun w hw => by kernel_rfl⟩) hS5 ?_
      simp only [Act.put, List.getElem_toArray, List.getElem_cons_succ, List.getElem_cons_zero, List.setIfInBounds_toArray, List.set_cons_zero, List.set_cons_succ]
      refine S_take (i := 2) (v := .pointer (some ⟨gj, 0, none⟩)) rfl rfl (by kernel_rfl) (by kernel_rfl) (by kernel_rfl) (fun _ _ _ h => h) (Or.inl ⟨by rfl, fun w hw => by go_simp⟩) hS5 ?_
      simp only [Act.put, List.getElem_toArray, List.getElem_cons_succ, List.getElem_cons_zero, List.setIfInBounds_toArray, List.set_cons_zero, List.set_cons_succ]
      refine S_take (i := 3) (v := .pointer (some ⟨gj, 6, none⟩)) rfl rfl (by kernel_rfl) (by kernel_rfl) (by kernel_rfl) (fun _ _ _ h => h) (Or.inl ⟨by rfl, fun w hw => by kernel_rfl⟩) hS5 ?_
      simp only [Act.put, List.getElem_toArray, List.getElem_cons_succ, List.getElem_cons_zero, List.setIfInBounds_toArray, List.set_cons_zero, List.set_cons_succ]
      refine S_take (i := 4) (v := .int .i64 v) rfl rfl (by kernel_rfl) (by kernel_rfl) (by kernel_rfl) (fun _ _ _ h => h) (Or.inl ⟨by rfl, fun w hw => by have q : w.cell? ⟨_, 6, none⟩ = some (.int .i64 v) := hw.cell 6; go_simp⟩) hS5 ?_
      simp only [Act.put, List.getElem_toArray, List.getElem_cons_succ, List.getElem_cons_zero, List.setIfInBounds_toArray, List.set_cons_zero, List.set_cons_succ]
      refine S_take (i := 5) (v := .slice Ac (logOf n - v) (c4 - v)) rfl rfl (by kernel_rfl) (by kernel_rfl) (by kernel_rfl) (fun _ _ _ h => h) (Or.inl ⟨by rfl, fun w hw => by have q := HSL.out w; go_simp⟩) hS5 ?_
      simp only [Act.put, List.getElem_toArray, List.getElem_cons_succ, List.getElem_cons_zero, List.setIfInBounds_toArray, List.set_cons_zero, List.set_cons_succ]
      refine S_take (i := 6) (v := .pointer (some ⟨gj, 0, none⟩)) rfl rfl (by kernel_rfl) (by kernel_rfl) (by kernel_rfl) (fun _ _ _ h => h) (Or.inl ⟨by rfl, fun w hw => by kernel_rfl⟩) hS5 ?_
      simp only [Act.put, List.getElem_toArray, List.getElem_cons_succ, List.getElem_cons_zero, List.setIfInBounds_toArray, List.set_cons_zero, List.set_cons_succ]
      refine S_take (i := 7) (v := .pointer (some ⟨gj, 0, none⟩)) rfl rfl (by kernel_rfl) (by kernel_rfl) (by kernel_rfl) (fun _ _ _ h => h) (Or.inl ⟨by rfl, fun w hw => by go_simp⟩) hS5 ?_
      simp only [Act.put, List.getElem_toArray, List.getElem_cons_succ, List.getElem_cons_zero, List.setIfInBounds_toArray, List.set_cons_zero, List.set_cons_succ]
      refine S_take (i := 8) (v := .pointer (some ⟨gj, 3, none⟩)) rfl rfl (by kernel_rfl) (by kernel_rfl) (by kernel_rfl) (fun _ _ _ h => h) (Or.inl ⟨by rfl, fun w hw => by kernel_rfl⟩) hS5 ?_
      simp only [Act.put, List.getElem_toArray, List.getElem_cons_succ, List.getElem_cons_zero, List.setIfInBounds_toArray, List.set_cons_zero, List.set_cons_succ]
      refine S_take (i := 9) (v := .int .i64 gen) rfl rfl (by kernel_rfl) (by kernel_rfl) (by kernel_rfl) (fun _ _ _ h => h) (Or.inl ⟨by rfl, fun w hw => by have q : w.cell? ⟨_, 3, none⟩ = some (.int .i64 gen) := hw.cell 3; go_simp⟩) hS5 ?_
      simp only [Act.put, List.getElem_toArray, List.getElem_cons_succ, List.getElem_cons_zero, List.setIfInBounds_toArray, List.set_cons_zero, List.set_cons_succ]
      refine S_take (i := 10) (v := .pointer (some ⟨gj, 0, none⟩)) rfl rfl (by kernel_rfl) (by kernel_rfl) (by kernel_rfl) (fun _ _ _ h => h) (Or.inl ⟨by rfl, fun w hw => by kernel_rfl⟩) hS5 ?_
      simp only [Act.put, List.getElem_toArray, List.getElem_cons_succ, List.getElem_cons_zero, List.setIfInBounds_toArray, List.set_cons_zero, List.set_cons_succ]
      refine S_take (i := 11) (v := .pointer (some ⟨gj, 0, none⟩)) rfl rfl (by kernel_rfl) (by kernel_rfl) (by kernel_rfl) (fun _ _ _ h => h) (Or.inl ⟨by rfl, fun w hw => by go_simp⟩) hS5 ?_
      simp only [Act.put, List.getElem_toArray, List.getElem_cons_succ, List.getElem_cons_zero, List.setIfInBounds_toArray, List.set_cons_zero, List.set_cons_succ]
      refine S_take (i := 12) (v := .pointer (some ⟨gj, 6, none⟩)) rfl rfl (by kernel_rfl) (by kernel_rfl) (by kernel_rfl) (fun _ _ _ h => h) (Or.inl ⟨by rfl, fun w hw => by kernel_rfl⟩) hS5 ?_
      simp only [Act.put, List.getElem_toArray, List.getElem_cons_succ, List.getElem_cons_zero, List.setIfInBounds_toArray, List.set_cons_zero, List.set_cons_succ]
      refine S_take (i := 13) (v := .int .i64 v) rfl rfl (by kernel_rfl) (by kernel_rfl) (by kernel_rfl) (fun _ _ _ h => h) (Or.inl ⟨by rfl, fun w hw => by have q : w.cell? ⟨_, 6, none⟩ = some (.int .i64 v) := hw.cell 6; go_simp⟩) hS5 ?_
      simp only [Act.put, List.getElem_toArray, List.getElem_cons_succ, List.getElem_cons_zero, List.setIfInBounds_toArray, List.set_cons_zero, List.set_cons_succ]
      refine L_one (j := 14) (by kernel_rfl) rfl (by rfl) ?_
      simp only [Act.put, List.getElem_toArray, List.getElem_cons_succ, List.getElem_cons_zero, List.setIfInBounds_toArray, List.set_cons_zero, List.set_cons_succ]
      refine wp_called (by kernel_rfl) HST.out ?_
      rintro e w5 hto
      rw [hlg.2] at hto
      obtain ⟨rfl, b5'⟩ := hto
      have b5 := below_drew' b5'
      have hS6 := HJR.out.below b5 HJR.out.lt
      refine ⟨_, rfl, hS6, ?_⟩
      simp only [Act.put, List.getElem_toArray, List.getElem_cons_succ, List.getElem_cons_zero, List.setIfInBounds_toArray, List.set_cons_zero, List.set_cons_succ]
      refine S_take (i := 15) (v := .tuple #[.slice none 0 0, .int .i64 0]) rfl rfl (by kernel_rfl) (by kernel_rfl) (by kernel_rfl) (fun _ _ _ h => h) (Or.inl ⟨by rfl, fun w hw => by kernel_rfl⟩) hS6 ?_
      simp only [Act.put, List.getElem_toArray, List.getElem_cons_succ, List.getElem_cons_zero, List.setIfInBounds_toArray, List.set_cons_zero, List.set_cons_succ]
      refine S_take (i := 16) (v := .slice none 0 0) rfl rfl (by kernel_rfl) (by kernel_rfl) (by kernel_rfl) (fun _ _ _ h => h) (Or.inl ⟨by rfl, fun w hw => by kernel_rfl⟩) hS6 ?_
      simp only [Act.put, List.getElem_toArray, List.getElem_cons_succ, List.getElem_cons_zero, List.setIfInBounds_toArray, List.set_cons_zero, List.set_cons_succ]
      refine S_take (i := 17) (v := .int .i64 0) rfl rfl (by kernel_rfl) (by kernel_rfl) (by kernel_rfl) (fun _ _ _ h => h) (Or.inl ⟨by rfl, fun w hw => by kernel_rfl⟩) hS6 ?_
      simp only [Act.put, List.getElem_toArray, List.getElem_cons_succ, List.getElem_cons_zero, List.setIfInBounds_toArray, List.set_cons_zero, List.set_cons_succ]
      refine L_one (j := 18) (by kernel_rfl) rfl (by rfl) ?_
      simp only [Act.put, List.getElem_toArray, List.getElem_cons_succ, List.getElem_cons_zero, List.setIfInBounds_toArray, List.set_cons_zero, List.set_cons_succ]
      refine wp_yields (v := .slice none 0 0) (by kernel_rfl) ⟨hS6, ?_⟩
      simp only [Act.put, List.getElem_toArray, List.getElem_cons_succ, List.getElem_cons_zero, List.setIfInBounds_toArray, List.set_cons_zero, List.set_cons_succ]
      refine L_one (j := 19) (by kernel_rfl) rfl (by rfl) ?_
      simp only [Act.put, List.getElem_toArray, List.getElem_cons_succ, List.getElem_cons_zero, List.setIfInBounds_toArray, List.set_cons_zero, List.set_cons_succ]
      refine wp_yields (v := .int .i64 0) (by kernel_rfl) ⟨hS6, ?_⟩
      simp only [Act.put, List.getElem_toArray, List.getElem_cons_succ, List.getElem_cons_zero, List.setIfInBounds_toArray, List.set_cons_zero, List.set_cons_succ]
      refine L_done (by kernel_rfl) ?_
      refine NoPanic.normal ?_
      have HJ6 := Lib.hid hS6
      have B6 := Lib.hid b5
      clear hS5 hS6 b5 b5' hlg hls
      go_wp2
      go_ret
      have hdd := HDONE.out
      rw [List.append_nil] at hdd
      subst hdd
      exact ⟨vt, us, rfl, HH.out.below B6.out, fun k hk => (HTX.out.over k hk).1, HJ6.out, HTX.out.of (fun k hk => B6.out.block k (HTX.out.over k hk).2), fun k hk hne => (B6.out.block k (Nat.lt_of_lt_of_le hk hsz)).trans (HKEEP.out k hk hne), Nat.le_trans hsz B6.out.size⟩
    | cons t rest' =>
      obtain ⟨m, hs1, hs2⟩ := hlg
      have hmb := standF_le _ _ _ _ _ hs1
      rw [List.length_drop, HLEN.out] at hmb
      simp only [List.length_nil] at hmb
      go_wp2
      have hS5 : Blk wr.drew gj 67 (jcells n g gen vs vt v false) := HJR.out
      refine any_beginL (fun w' => Blk w' gj 67 (jcells n g gen vs vt v false)) 99 (by kernel_rfl) ?_
      refine S_take (i := 0) (v := .slice A4 (logOf n) c4) rfl rfl (by kernel_rfl) (by kernel_rfl) (by kernel_rfl) (fun _ _ _ h => h) (Or.inl ⟨by rfl, fun w hw => by kernel_rfl⟩) hS5 ?_
      simp only [Act.put, List.getElem_toArray, List.getElem_cons_succ, List.getElem_cons_zero, List.setIfInBounds_toArray, List.set_cons_zero, List.set_cons_succ]
      refine S_take (i := 1) (v := .pointer (some ⟨gj, 0, none⟩)) rfl rfl (by kernel_rfl) (by kernel_rfl) (by kernel_rfl) (fun _ _ _ h => h) (Or.inl ⟨by rfl, fun w hw => by kernel_rfl⟩) hS5 ?_
      simp only [Act.put, List.getElem_toArray, List.getElem_cons_succ, List.getElem_cons_zero, List.setIfInBounds_toArray, List.set_cons_zero, List.set_cons_succ]
      refine S_take (i := 2) (v := .pointer (some ⟨gj, 0, none⟩)) rfl rfl (by kernel_rfl) (by kernel_rfl) (by kernel_rfl) (fun _ _ _ h => h) (Or.inl ⟨by rfl, fun w hw => by go_simp⟩) hS5 ?_
      simp only [Act.put, List.getElem_toArray, List.getElem_cons_succ, List.getElem_cons_zero, List.setIfInBounds_toArray, List.set_cons_zero, List.set_cons_succ]
      refine S_take (i := 3) (v := .pointer (some ⟨gj, 6, none⟩)) rfl rfl (by kernel_rfl) (by kernel_rfl) (by kernel_rfl) (fun _ _ _ h => h) (Or.inl ⟨by rfl, fun w hw => by kernel_rfl⟩) hS5 ?_
      simp only [Act.put, List.getElem_toArray, List.getElem_cons_succ, List.getElem_cons_zero, List.setIfInBounds_toArray, List.set_cons_zero, List.set_cons_succ]
      refine S_take (i := 4) (v := .int .i64 v) rfl rfl (by kernel_rfl) (by kernel_rfl) (by kernel_rfl) (fun _ _ _ h => h) (Or.inl ⟨by rfl, fun w hw => by have q : w.cell? ⟨_, 6, none⟩ = some (.int .i64 v) := hw.cell 6; go_simp⟩) hS5 ?_
      simp only [Act.put, List.getElem_toArray, List.getElem_cons_succ, List.getElem_cons_zero, List.setIfInBounds_toArray, List.set_cons_zero, List.set_cons_succ]
      refine S_take (i := 5) (v := .slice Ac (logOf n - v) (c4 - v)) rfl rfl (by kernel_rfl) (by kernel_rfl) (by kernel_rfl) (fun _ _ _ h => h) (Or.inl ⟨by rfl, fun w hw => by have q := HSL.out w; go_simp⟩) hS5 ?_
      simp only [Act.put, List.getElem_toArray, List.getElem_cons_succ, List.getElem_cons_zero, List.setIfInBounds_toArray, List.set_cons_zero, List.set_cons_succ]
      refine S_take (i := 6) (v := .pointer (some ⟨gj, 0, none⟩)) rfl rfl (by kernel_rfl) (by kernel_rfl) (by kernel_rfl) (fun _ _ _ h => h) (Or.inl ⟨by rfl, fun w hw => by kernel_rfl⟩) hS5 ?_
      simp only [Act.put, List.getElem_toArray, List.getElem_cons_succ, List.getElem_cons_zero, List.setIfInBounds_toArray, List.set_cons_zero, List.set_cons_succ]
      refine S_take (i := 7) (v := .pointer (some ⟨gj, 0, none⟩)) rfl rfl (by kernel_rfl) (by kernel_rfl) (by kernel_rfl) (fun _ _ _ h => h) (Or.inl ⟨by rfl, fun w hw => by go_simp⟩) hS5 ?_
      simp only [Act.put, List.getElem_toArray, List.getElem_cons_succ, List.getElem_cons_zero, List.setIfInBounds_toArray, List.set_cons_zero, List.set_cons_succ]
      refine S_take (i := 8) (v := .pointer (some ⟨gj, 3, none⟩)) rfl rfl (by kernel_rfl) (by kernel_rfl) (by kernel_rfl) (fun _ _ _ h => h) (Or.inl ⟨by rfl, fun w hw => by kernel_rfl⟩) hS5 ?_
      simp only [Act.put, List.getElem_toArray, List.getElem_cons_succ, List.getElem_cons_zero, List.setIfInBounds_toArray, List.set_cons_zero, List.set_cons_succ]
      refine S_take (i := 9) (v := .int .i64 gen) rfl rfl (by kernel_rfl) (by kernel_rfl) (by kernel_rfl) (fun _ _ _ h => h) (Or.inl ⟨by rfl, fun w hw => by have q : w.cell? ⟨_, 3, none⟩ = some (.int .i64 gen) := hw.cell 3; go_simp⟩) hS5 ?_
      simp only [Act.put, List.getElem_toArray, List.getElem_cons_succ, List.getElem_cons_zero, List.setIfInBounds_toArray, List.set_cons_zero, List.set_cons_succ]
      refine S_take (i := 10) (v := .pointer (some ⟨gj, 0, none⟩)) rfl rfl (by kernel_rfl) (by kernel_rfl) (by kernel_rfl) (fun _ _ _ h => h) (Or.inl ⟨by rfl, fun w hw => by kernel_rfl⟩) hS5 ?_
      simp only [Act.put, List.getElem_toArray, List.getElem_cons_succ, List.getElem_cons_zero, List.setIfInBounds_toArray, List.set_cons_zero, List.set_cons_succ]
      refine S_take (i := 11) (v := .pointer (some ⟨gj, 0, none⟩)) rfl rfl (by kernel_rfl) (by kernel_rfl) (by kernel_rfl) (fun _ _ _ h => h) (Or.inl ⟨by rfl, fun w hw => by go_simp⟩) hS5 ?_
      simp only [Act.put, List.getElem_toArray, List.getElem_cons_succ, List.getElem_cons_zero, List.setIfInBounds_toArray, List.set_cons_zero, List.set_cons_succ]
      refine S_take (i := 12) (v := .pointer (some ⟨gj, 6, none⟩)) rfl rfl (by kernel_rfl) (by kernel_rfl) (by kernel_rfl) (fun _ _ _ h => h) (Or.inl ⟨by rfl, fun w hw => by kernel_rfl⟩) hS5 ?_
      simp only [Act.put, List.getElem_toArray, List.getElem_cons_succ, List.getElem_cons_zero, List.setIfInBounds_toArray, List.set_cons_zero, List.set_cons_succ]
      refine S_take (i := 13) (v := .int .i64 v) rfl rfl (by kernel_rfl) (by kernel_rfl) (by kernel_rfl) (fun _ _ _ h => h) (Or.inl ⟨by rfl, fun w hw => by have q : w.cell? ⟨_, 6, none⟩ = some (.int .i64 v) := hw.cell 6; go_simp⟩) hS5 ?_
      simp only [Act.put, List.getElem_toArray, List.getElem_cons_succ, List.getElem_cons_zero, List.setIfInBounds_toArray, List.set_cons_zero, List.set_cons_succ]
      refine L_one (j := 14) (by kernel_rfl) rfl (by rfl) ?_
      simp only [Act.put, List.getElem_toArray, List.getElem_cons_succ, List.getElem_cons_zero, List.setIfInBounds_toArray, List.set_cons_zero, List.set_cons_succ]
      refine wp_called (by kernel_rfl) HST.out ?_
      rintro e w5 hto
      rw [hs1] at hto
      obtain ⟨v5, rfl, hown, b5'⟩ := hto
      have b5 := below_drew' b5'
      obtain ⟨B5, c5, rfl⟩ := slice_of hown
      have hS6 := HJR.out.below b5 HJR.out.lt
      refine ⟨_, rfl, hS6, ?_⟩
      simp only [Act.put, List.getElem_toArray, List.getElem_cons_succ, List.getElem_cons_zero, List.setIfInBounds_toArray, List.set_cons_zero, List.set_cons_succ]
      refine S_take (i := 15) (v := .tuple #[.slice B5 t.length c5, .int .i64 m]) rfl rfl (by kernel_rfl) (by kernel_rfl) (by kernel_rfl) (fun _ _ _ h => h) (Or.inl ⟨by rfl, fun w hw => by kernel_rfl⟩) hS6 ?_
      simp only [Act.put, List.getElem_toArray, List.getElem_cons_succ, List.getElem_cons_zero, List.setIfInBounds_toArray, List.set_cons_zero, List.set_cons_succ]
      refine S_take (i := 16) (v := .slice B5 t.length c5) rfl rfl (by kernel_rfl) (by kernel_rfl) (by kernel_rfl) (fun _ _ _ h => h) (Or.inl ⟨by rfl, fun w hw => by kernel_rfl⟩) hS6 ?_
      simp only [Act.put, List.getElem_toArray, List.getElem_cons_succ, List.getElem_cons_zero, List.setIfInBounds_toArray, List.set_cons_zero, List.set_cons_succ]
      refine S_take (i := 17) (v := .int .i64 m) rfl rfl (by kernel_rfl) (by kernel_rfl) (by kernel_rfl) (fun _ _ _ h => h) (Or.inl ⟨by rfl, fun w hw => by kernel_rfl⟩) hS6 ?_
      simp only [Act.put, List.getElem_toArray, List.getElem_cons_succ, List.getElem_cons_zero, List.setIfInBounds_toArray, List.set_cons_zero, List.set_cons_succ]
      refine L_one (j := 18) (by kernel_rfl) rfl (by rfl) ?_
      simp only [Act.put, List.getElem_toArray, List.getElem_cons_succ, List.getElem_cons_zero, List.setIfInBounds_toArray, List.set_cons_zero, List.set_cons_succ]
      refine wp_yields (v := .slice B5 t.length c5) (by kernel_rfl) ⟨hS6, ?_⟩
      simp only [Act.put, List.getElem_toArray, List.getElem_cons_succ, List.getElem_cons_zero, List.setIfInBounds_toArray, List.set_cons_zero, List.set_cons_succ]
      refine L_one (j := 19) (by kernel_rfl) rfl (by rfl) ?_
      simp only [Act.put, List.getElem_toArray, List.getElem_cons_succ, List.getElem_cons_zero, List.setIfInBounds_toArray, List.set_cons_zero, List.set_cons_succ]
      refine wp_yields (v := .int .i64 m) (by kernel_rfl) ⟨hS6, ?_⟩
      simp only [Act.put, List.getElem_toArray, List.getElem_cons_succ, List.getElem_cons_zero, List.setIfInBounds_toArray, List.set_cons_zero, List.set_cons_succ]
      refine L_done (by kernel_rfl) ?_
      refine NoPanic.normal ?_
      have hdr : wr.drew.heap.size = wr.heap.size := rfl
      rw [hdr] at hown
      have HJ6 := Lib.hid hS6
      have B6 := Lib.hid b5
      have HO6 := Lib.hid hown
      have HLS := Lib.hid hs2
      have T6 := Lib.hid (HTX.out.of (fun k hk => b5.block k (HTX.out.over k hk).2))
      have R6 := Lib.hid (row_of HROW.out (fun k hk => b5.block k (row_under HROW.out k hk)))
      have H6 := Lib.hid ((HH.out.more b5 (own_blk_in hown)))
      have hm0 : ((m : Int) == 0) = false := by simp; omega
      have hm0' : (m == 0) = false := by simp; omega
      clear hS5 hS6 b5 b5' hown hs1 hs2 hls
      have q5 : w5.cell? ⟨gj, 5, none⟩ = some vt := HJ6.out.cell 5
      have J11 := HJ6.out.alloc (.cells #[.slice B5 t.length c5] 34)
      have hrc := Reads.new w5 [.slice B5 t.length c5] 34 (0, 0)
      have T11 := T6.out.of (w' := w5.alloc (.cells #[.slice B5 t.length c5] 34)) (fun k hk => Below.heap_alloc w5 _ k (T6.out.over k hk).2)
      have O11 := (HO6.out.weaken hsz).alloc (.cells #[.slice B5 t.length c5] 34)
      have R11 := World.ownsRow.alloc R6.out (.cells #[.slice B5 t.length c5] 34)
      have H11 := H6.out.alloc (.cells #[.slice B5 t.length c5] 34)
      have hblk11 : ∀ k, k < w5.heap.size → (w5.alloc (.cells #[.slice B5 t.length c5] 34)).heap[k]? = w5.heap[k]? := fun k hk => Below.heap_alloc w5 _ k hk
      have hsz11 : (w5.alloc (.cells #[.slice B5 t.length c5] 34)).heap.size = w5.heap.size + 1 := by simp
      have hs5' := B6.out.size
      obtain ⟨iy, hiy0, hiy1, hiy2, hiy3⟩ := info_parts bytes_info1
      have HINFO := Lib.hid (And.intro hiy0 (And.intro hiy1 (And.intro hiy2 hiy3)))
      have HT11 := Lib.hid T11
      have HO11 := Lib.hid O11
      have HR11 := Lib.hid R11
      have HH11 := Lib.hid H11
      have HJ11 := Lib.hid J11
      have HB11 := Lib.hid hblk11
      have HRC := Lib.hid hrc
      have HSZ := Lib.hid hsz11
      clear T11 O11 R11 H11 J11 hblk11 hrc hsz11 hiy0 hiy1 hiy2 hiy3
      go_wp2_with (first
        | (at_builtin; (refine wpList_append_any _ rfl (.tmp 52) (.tmp 54) 36 rfl w.heap.size 34 iy _ 1 24 Tryd.underlying36 HINFO.out.1 HINFO.out.2.1 HINFO.out.2.2.1 HINFO.out.2.2.2 rfl (by omega) vt done.length us rfl HT11.out.1 _ (some ⟨w5.heap.size, 0, none⟩) 1 1 [.slice B5 t.length c5] rfl HRC.out (fun u hu => by simp at hu; subst hu; rfl) (by simp only [maxLen]; omega) (by omega) (by rw [HSZ.out]; omega) ?_; intro v2 w11 hU3 hgr hat; obtain ⟨A2, c2, rfl⟩ := slice_of hU3; have T12 := Lib.hid (HT11.out.snoc HO11.out hgr hU3); have R12 := Lib.hid (row_of HR11.out (fun k hk => hgr.block k (row_under HR11.out k hk) (fun e => own_own_ne HR11.out HT11.out.1 (by decide) k hk e.symm))); have J12 := Lib.hid (HJ11.out.grown hgr (Ne.symm (own_blk_ne HT11.out.1 HJ11.out (by decide)))); have H12 := Lib.hid (HH11.out.appended hgr (fun k hk => List.mem_append_right _ (List.mem_append_left _ (List.mem_append_left _ (mem_rowOf.2 hk)))) (fun k hk => by have := (World.ownsRow.lt HT11.out.1 k hk).1; have := H.out.size; omega) hat (fun k hk => (World.ownsRow.lt hU3 k hk).2)); have HG := Lib.hid hgr; clear hU3 hgr hat))
        | ((refine wpList_set_blk1 rfl 36 (.tmp 57) (.tmp 55) rfl gj 5 67 _ (.slice A2 (done.length + 1) c2) rfl rfl J12.out (by simp [jcells]) (by kernel_rfl) rfl ?_; intro w12 hJ12 ho12 hs12; have q6 : w12.cell? ⟨gj, 6, none⟩ = some (.int .i64 v) := (hJ12.cell 6).trans (by simp [jcells]); have hwr3 : IntKind.i64.wrap ((v : Int) + (m : Int)) = (v : Int) + (m : Int) := (by rw [IntKind.wrap_i64]; omega); have HJ12 := Lib.hid hJ12; have HO12 := Lib.hid ho12; clear hJ12 ho12))
        | (refine wpList_set_blk1 rfl 3 (.tmp 65) (.tmp 63) rfl gj 6 67 _ (.int .i64 ((v : Int) + (m : Int))) rfl rfl HJ12.out (by simp [jcells]) (by kernel_rfl) rfl ?_; intro w13 hJ13 ho13 hs13))
      have hon := HO12.out.trans ho13 (Fresh.refl _ _)
      have HVT := Lib.hid (show ∀ k, k < w.heap.size → vt.ownBlock ≠ some k from fun k hk e => by have := (World.ownsRow.lt HT11.out.1 k e).1; omega)
      go_roundg rest'.length
      case measure => simp
      case rel =>
        have hs5 := B6.out.size
        have hs11 := HG.out.size
        rw [HSZ.out] at hs11
        have hkb : ∀ k, k < w11.heap.size → k ≠ gj → w13.heap[k]? = w11.heap[k]? := fun k hk hne => hon.block k hk (by simpa using hne)
        refine ⟨done ++ [t], rest', v + m, .slice A2 (done.length + 1) c2, us ++ [.slice B5 t.length c5], rfl, by rw [← HDONE.out]; simp, HLS.out, by omega, by simp; omega, ?_, ?_, ?_, ?_, ?_, ?_⟩
        · refine (H12.out.kept (j := gj) (by simp [hgj]) hon hgj0).mono (fun k hk => ?_)
          simp only [txBlks, List.mem_append, List.flatMap_append, List.flatMap_cons, List.flatMap_nil, List.append_nil] at hk ⊢
          rcases hk with (hk | hk | hk) | hk
          · exact .inl hk
          · exact .inr (.inr (.inl (.inr hk)))
          · exact .inr (.inl (rowOf_slice _ _ _ hk))
          · exact .inr (.inr (.inr hk))
        · have e : ((v + m : Nat) : Int) = (v : Int) + (m : Int) := by omega
          unfold jcells
          rw [e]
          simpa [jcells] using hJ13
        · refine T12.out.of (fun k hk => hkb k (T12.out.over k hk).2 ?_)
          have := (T12.out.over k hk).1
          omega
        · intro k hk hne
          rw [hkb k (by omega) hne, HG.out.block k (by rw [HSZ.out]; omega) (fun e => HVT.out k hk e.symm), HB11.out k (by omega), B6.out.block k (by omega)]
          exact HKEEP.out k hk hne
        · have := hon.size; omega
        · refine row_of R12.out (fun k hk => hkb k (row_under R12.out k hk) ?_)
          have := row_over R12.out k hk
          omega
end Go.Proofs.YtpklcmocjimcpaaDoor

/-
  A journal is opened on a disk where a state and transactions stand. Conditions: the power is there; they stand; small numbers.
-/
namespace Go.Proofs.YtpklcmocjimcpaaDoor
open Go.RowKit
set_option maxRecDepth 100000
set_option linter.unusedSimpArgs false
set_option linter.unusedVariables false
theorem Holds.between {w0 w w' : World} {g g' : Nat} {d d' : DM} {X X' : List Nat} (h : Holds w0 w g d X) (h' : Holds w0 w' g' d' X') (hs : w.heap.size ≤ w'.heap.size) (hb : ∀ k, k < w.heap.size → w'.heap[k]? = w.heap[k]?) : Below w.heap.size w w' :=
  ⟨h'.since.os.trans h.since.os.symm, h'.since.tape.trans h.since.tape.symm, h'.since.output.trans h.since.output.symm, hs, hb⟩
/-- what is read off a disk: a generation's state and its transactions -/
structure Shows (d : DM) (n gen : Nat) (st : List Nat) (txs : List (List Nat)) (u : Nat) : Prop where
  fit : pn st ≤ areaOf n
  top : newestL (readL d 0 2) 2 = some ((gen : Int), (st.length : Int))
  parts : ∀ k s, k < pn st → (readL d (stateAt n gen) (areaOf n))[k]? = some s → isOf s.l 2 gen k = true ∧ tD s.l = prow st k
  log : LogIs gen (readL d (logAt n) (logOf n)) 0 txs u
set_option maxRecDepth 100000 in
set_option maxHeartbeats 4000000 in
theorem open_journal {w0 w : World} {g n : Nat} {d : DM} {X : List Nat} (h : Holds w0 w g d X) (hdn : d.n = n) (hn : n ≤ 4096) (hn8 : 8 ≤ n) (hup : d.gone = false) (hwt : d.wait.length ≤ 1000000)
    (hT : Tab w) (hw0 : 0 < w0.heap.size) (gen : Nat) (st : List Nat) (hst : st.length ≤ 100000) (txs : List (List Nat)) (u : Nat) (hs : Shows d n gen st txs u) :
    Calls Tryd.prog 16 #[.pointer (some ⟨g, 0, none⟩)] w fun e w' => ∃ gj B cc vt us, e = .returned (.tuple #[.pointer (some ⟨gj, 0, none⟩), .nilIface]) ∧ Holds w0 w' g d (txBlks vt us ++ (blkOf B ++ gj :: X)) ∧
      Blk w' gj 67 (jcells n g gen (.slice B st.length cc) vt u false) ∧ Own w' w.heap.size (.slice B st.length cc) st.length st ∧ TxRows w' w.heap.size vt txs us ∧ Below w.heap.size w w' ∧ w.heap.size ≤ gj := by
  have hpos : 0 < w.heap.size := Nat.lt_of_lt_of_le hw0 h.size
  have H := Lib.hid h
  have HT := Lib.hid hT
  have HS := Lib.hid hs
  have hz := journal_zero
  have hz2 := layout_zero
  clear h hT hs
  go_enter Tryd.func16, Tryd.ntmps16
  go_wp2_with fail
  refine (hold_len H.out).mono ?_
  rintro e w' ⟨rfl, rfl⟩
  rw [hdn]
  have hd8 : decide ((n : Int) < 8) = false := by simp; omega
  have hd8' : decide (n < 8) = false := by simp; omega
  go_wp2_with fail
  refine (hold_len H.out).mono ?_
  rintro e w' ⟨rfl, rfl⟩
  rw [hdn]
  go_wp2_with fail
  refine (layoutOf_any n w (by omega) hn).mono ?_
  rintro e w1 ⟨rfl, b1⟩
  go_wp2_with fail
  have hjb := Blk.new w1 67 (jcells n g 0 (.slice none 0 0) (.slice none 0 0) 0 false)
  have hB2 := b1.alloc b1.size (.cells (jcells n g 0 (.slice none 0 0) (.slice none 0 0) 0 false) 67)
  have hH2 := H.out.more (Y := [w1.heap.size]) hB2 (fun k hk => by simp at hk; subst hk; exact ⟨b1.size, by simp⟩)
  have hgs := b1.size
  have JB := Lib.hid hjb
  have B2 := Lib.hid hB2
  have H2 := Lib.hid hH2
  have hsz2 : (w1.alloc (.cells (jcells n g 0 (.slice none 0 0) (.slice none 0 0) 0 false) 67)).heap.size = w1.heap.size + 1 := by simp
  unfold jcells at *
  generalize hw2 : w1.alloc (.cells #[.int .i64 (areaOf n), .int .i64 (logOf n), .pointer (some ⟨g, 0, none⟩), .int .i64 (0 : Nat), .slice none 0 0, .slice none 0 0, .int .i64 (0 : Nat), .bool false] 67) = w2 at *
  generalize hgj : w1.heap.size = gj at *
  clear hw2 hjb hB2 hH2 b1 hz hgj
  refine (readState_good H2.out JB.out (by simp) (Nat.le_trans H.out.size hgs) hdn hn hn8 hup hwt (tab_below HT.out B2.out hpos) hw0 gen st hst HS.out.fit HS.out.top HS.out.parts).mono ?_
  rintro e w3 ⟨B, cc, rfl, h3, k3, j3, o3, e3, s3⟩
  have H3 := Lib.hid h3
  have J3 := Lib.hid j3
  have O3 := Lib.hid o3
  have K3 := Lib.hid k3
  have hblk3 : ∀ k, k < w.heap.size → w3.heap[k]? = w.heap[k]? := fun k hk => (e3 k (by have := B2.out.size; omega) (by omega)).trans (B2.out.block k hk)
  have E3 := Lib.hid hblk3
  clear h3 k3 j3 o3 e3 hblk3
  go_wp2_with fail
  refine (readLog_good H3.out J3.out (by simp) (Nat.le_trans H.out.size hgs) hdn hn hn8 hup hwt (fun i hi => (World.cell?_of_block (E3.out 0 hpos)).trans (HT.out i hi)) hw0 txs u HS.out.log).mono ?_
  rintro e w4 ⟨vt, us, rfl, h4, k4, j4, t4, e4, s4⟩
  have H4 := Lib.hid h4
  have J4 := Lib.hid j4
  have T4 := Lib.hid t4
  have hszb := B2.out.size
  have O4 := Lib.hid (row_of O3.out (w' := w4) (fun k hk => e4 k (row_under O3.out k hk) (by have := row_over O3.out k hk; omega)))
  have hbl : Below w.heap.size w w4 := H.out.between H4.out (by omega) (fun k hk => (e4 k (by omega) (by omega)).trans (E3.out k hk))
  go_wp2
  go_ret2
  exact ⟨gj, B, cc, vt, us, rfl, H4.out, J4.out, row_weaken O4.out (by omega), T4.out.weaken (by omega), hbl, hgs⟩
end Go.Proofs.YtpklcmocjimcpaaDoor

/-
  What stands on a disk of a journal whose power is there, in numbers: Format, Checkpoint and Append leave what Open reads. Conditions: nothing waits, nothing fails.
-/
namespace Go.Proofs.YtpklcmocjimcpaaDoor
open Go.RowKit
set_option maxRecDepth 100000
set_option linter.unusedSimpArgs false
set_option linter.unusedVariables false
/-- a disk that isn't armed, on which nothing waits -/
def DM.idle (n : Nat) (f : Int → Sec) (s l : Nat) : DM := ⟨n, f, [], s, false, l, false⟩
noncomputable def putF : (Int → Sec) → Nat → List Sec → (Int → Sec)
  | f, _, [] => f
  | f, i, s :: ss => putF (upd f ((i : Int), s)) (i + 1) ss
theorem putF_out : ∀ (ss : List Sec) (f : Int → Sec) (i : Nat) (j : Int), (j < i ∨ (i : Int) + ss.length ≤ j) → putF f i ss j = f j
  | [], f, i, j, h => rfl
  | s :: ss, f, i, j, h => by
    rw [putF, putF_out ss _ (i + 1) j (by simp only [List.length_cons] at h; omega)]
    unfold upd
    rw [if_neg]
    simp only [List.length_cons] at h
    show j ≠ (i : Int)
    omega
theorem putF_in : ∀ (ss : List Sec) (f : Int → Sec) (i k : Nat) (s : Sec), ss[k]? = some s → putF f i ss ((i + k : Nat) : Int) = s
  | [], f, i, k, s, h => by simp at h
  | t :: ss, f, i, 0, s, h => by
    rw [putF, putF_out ss _ (i + 1) _ (by omega)]
    simp at h
    subst h
    unfold upd
    exact if_pos rfl
  | t :: ss, f, i, k + 1, s, h => by
    rw [putF, show i + (k + 1) = i + 1 + k by omega]
    exact putF_in ss _ (i + 1) k s (by simpa using h)
def waitsOf : Nat → List Sec → List (Int × Sec)
  | _, [] => []
  | i, s :: ss => ((i : Int), s) :: waitsOf (i + 1) ss
theorem settled_waits : ∀ (ss : List Sec) (i m : Nat) (f : Int → Sec), settled (fun _ => true) m (waitsOf i ss) f = putF f i ss
  | [], i, m, f => rfl
  | s :: ss, i, m, f => by
    rw [waitsOf, putF]
    show settled _ (m + 1) (waitsOf (i + 1) ss) _ = _
    rw [settled_waits ss (i + 1) (m + 1)]
    rfl
theorem putRow_up : ∀ (ss : List Sec) (n i s l : Nat) (f : Int → Sec) (wt : List (Int × Sec)), i + ss.length ≤ n →
    (⟨n, f, wt, s, false, l, false⟩ : DM).putRow i ss = (⟨n, settled (fun _ => true) 0 (wt ++ waitsOf i ss) f, [], s + ss.length + 1, false, l, false⟩, 0)
  | [], n, i, s, l, f, wt, h => by
    simp only [DM.putRow, DM.flush, DM.stepErr, DM.off, DM.step, DM.settle, waitsOf, List.append_nil, List.length_nil, Nat.add_zero, Bool.false_or, Bool.false_and, Bool.false_eq_true, if_false]
  | x :: ss, n, i, s, l, f, wt, h => by
    simp only [List.length_cons] at h
    have h1 : (⟨n, f, wt, s, false, l, false⟩ : DM).has (i : Int) = true := by simp [DM.has]; omega
    have h2 : (⟨n, f, wt, s, false, l, false⟩ : DM).writeErr (i : Int) = 0 := by
      unfold DM.writeErr
      rw [h1]
      simp [DM.off]
    have h3 : (⟨n, f, wt, s, false, l, false⟩ : DM).write (i : Int) x = ⟨n, f, wt ++ [((i : Int), x)], s + 1, false, l, false⟩ := by
      unfold DM.write
      rw [h1]
      simp [DM.off, DM.step]
    rw [DM.putRow, h2, if_pos rfl, h3, putRow_up ss n (i + 1) (s + 1) l f _ (by omega)]
    simp only [waitsOf, List.append_assoc, List.singleton_append, List.length_cons]
    rw [show s + 1 + ss.length + 1 = s + (ss.length + 1) + 1 by omega]
theorem idle_put (n s l i : Nat) (f : Int → Sec) (ss : List Sec) (h : i + ss.length ≤ n) : (DM.idle n f s l).putRow i ss = (DM.idle n (putF f i ss) (s + ss.length + 1) l, 0) := by
  unfold DM.idle
  rw [putRow_up ss n i s l f [] h, List.nil_append, settled_waits]
noncomputable def ckptF (n : Nat) (f : Int → Sec) (g : Nat) (st : List Nat) : Int → Sec := putF (putF f (stateAt n g) (bodyS 2 g 0 st)) (g % 2) (topS g st)
noncomputable def appF (n : Nat) (f : Int → Sec) (g u : Nat) (tx : List Nat) : Int → Sec := putF (putF f (logAt n + u) (bodyS 3 g u tx)) (logAt n + (u + pn tx)) (endS g (u + pn tx) (pn tx))
noncomputable def fmtF (n : Nat) (f : Int → Sec) (st : List Nat) : Int → Sec := ckptF n (putF f 0 [Sec.zero, Sec.zero]) 1 st
theorem area_in {n g : Nat} (h8 : 8 ≤ n) : stateAt n g + areaOf n ≤ n := by
  unfold stateAt areaOf
  have : g % 2 = 0 ∨ g % 2 = 1 := by omega
  rcases this with h | h <;> rw [h] <;> omega
theorem area_at (n g : Nat) : 2 ≤ stateAt n g ∧ stateAt n g + areaOf n ≤ logAt n := by
  unfold stateAt logAt
  have : g % 2 = 0 ∨ g % 2 = 1 := by omega
  rcases this with h | h <;> rw [h] <;> omega
theorem log_in {n : Nat} (h8 : 8 ≤ n) : logAt n + logOf n = n := by unfold logAt logOf areaOf; omega
theorem idle_ckpt (n s l g : Nat) (f : Int → Sec) (st : List Nat) (h8 : 8 ≤ n) (hf : pn st ≤ areaOf n) : (DM.idle n f s l).ckpt n g st = (DM.idle n (ckptF n f g st) (s + pn st + 3) l, 0) := by
  have h1 := area_in (g := g) h8
  have e := idle_put n s l (stateAt n g) f (bodyS 2 g 0 st) (by rw [body_len]; omega)
  rw [body_len] at e
  unfold DM.ckpt
  rw [e, if_pos rfl]
  show (DM.idle n _ _ l).putRow (g % 2) (topS g st) = _
  rw [idle_put n _ l (g % 2) _ (topS g st) (by simp [topS]; omega)]
  rfl
theorem idle_app (n s l g u : Nat) (f : Int → Sec) (tx : List Nat) (h8 : 8 ≤ n) (hf : u + pn tx + 1 ≤ logOf n) : (DM.idle n f s l).app n g u tx = (DM.idle n (appF n f g u tx) (s + pn tx + 3) l, 0) := by
  have h1 := log_in h8
  have e := idle_put n s l (logAt n + u) f (bodyS 3 g u tx) (by rw [body_len]; omega)
  rw [body_len] at e
  unfold DM.app
  rw [e, if_pos rfl]
  show (DM.idle n _ _ l).putRow _ _ = _
  rw [idle_put n _ l _ _ (endS g (u + pn tx) (pn tx)) (by simp [endS]; omega)]
  rfl
theorem idle_fmt (n s l : Nat) (f : Int → Sec) (st : List Nat) (h8 : 8 ≤ n) (hf : pn st ≤ areaOf n) : (DM.idle n f s l).putRow 0 [Sec.zero, Sec.zero] = (DM.idle n (putF f 0 [Sec.zero, Sec.zero]) (s + 3) l, 0) ∧ ((DM.idle n f s l).putRow 0 [Sec.zero, Sec.zero]).1.ckpt n 1 st = (DM.idle n (fmtF n f st) (s + pn st + 6) l, 0) := by
  have e := idle_put n s l 0 f [Sec.zero, Sec.zero] (by simp; omega)
  refine ⟨e, ?_⟩
  rw [e]
  show (DM.idle n _ _ l).ckpt n 1 st = _
  rw [idle_ckpt n _ l 1 _ st h8 hf]
  simp only [List.length_cons, List.length_nil]
  rw [show s + (0 + 1 + 1) + 1 + pn st + 3 = s + pn st + 6 by omega]
  rfl
theorem idle_crash (n s l : Nat) (f : Int → Sec) (keep : List Bool) : (DM.idle n f s l).crash keep = DM.idle n f s 0 := rfl
theorem idle_read (n s l : Nat) (f : Int → Sec) (i : Nat) (h : i < n) : (DM.idle n f s l).read (i : Int) = f i := by
  have h1 : (DM.idle n f s l).has (i : Int) = true := by simp [DM.idle, DM.has]; omega
  unfold DM.read
  rw [h1]
  simp [DM.idle, lastOf]
theorem idle_new (n : Nat) : DM.new n = DM.idle n (fun _ => Sec.zero) 0 0 := rfl
theorem readL_at {n s l a m k : Nat} {f : Int → Sec} (ha : a + m ≤ n) (hk : k < m) : (readL (DM.idle n f s l) a m)[k]? = some (f ((a + k : Nat) : Int)) := by
  unfold readL
  rw [List.getElem?_map, List.getElem?_range hk]
  show some (readRow _ a m k) = _
  unfold readRow
  rw [if_pos hk, show (a : Int) + (k : Int) = ((a + k : Nat) : Int) by omega, idle_read n s l f (a + k) (by omega)]
/-! ### boxes -/
theorem isOf_seal {k g n : Int} {d : List Nat} (hb : isBoxB k g n = true) (hl : d.length ≤ 106) (h : ∀ b ∈ d, b < 256) (k' g' n' : Int) : isOf (sealRes k g n d).l k' g' n' = decide (k = k' ∧ g = g' ∧ n = n') := by
  obtain ⟨h1, h2, h3, h4, h5⟩ := told_seal k g n d hb hl
  unfold isOf
  rw [sealRes_l hb hl h, isSealed_seal k g n d hb hl, h1, h2, h3, Bool.true_and]
theorem tD_seal {k g n : Int} {d : List Nat} (hb : isBoxB k g n = true) (hl : d.length ≤ 106) (h : ∀ b ∈ d, b < 256) : tD (sealRes k g n d).l = d := by
  rw [sealRes_l hb hl h]
  exact (told_seal k g n d hb hl).2.2.2.2
theorem isNum_numB (z : Int) : isNum (numB z) = true := by simp [isNum, numB_len]
theorem top_seal {g z : Nat} (hg : g ≤ 4611686018427387904) (hz : z ≤ 4611686018427387904) : topOf (sealRes 1 g 0 (numB z)) = some ((g : Int), (z : Int)) := by
  have hb : isBoxB 1 (g : Int) 0 = true := by simp [isBoxB]; omega
  have hl : (numB (z : Int)).length ≤ 106 := by rw [numB_len]; omega
  obtain ⟨h1, h2, h3, h4, h5⟩ := told_seal 1 (g : Int) 0 (numB (z : Int)) hb hl
  unfold topOf
  rw [sealRes_l hb hl (numB_lt _), isSealed_seal 1 _ 0 _ hb hl, h1, h2, h3, h5, isNum_numB, numOf_numB _ (by omega) (by omega), if_pos ⟨rfl, rfl, rfl, rfl, by omega⟩]
theorem zero_tK : tK (List.replicate 128 0) = 0 := by rfl
theorem zero_sealed : isSealed Sec.zero.l = false := by
  show isSealed (List.replicate 128 0) = false
  unfold isSealed
  rw [zero_tK]
  simp [isBoxB]
theorem zero_top : topOf Sec.zero = none := by
  unfold topOf
  rw [zero_sealed]
  simp
theorem zero_is (k g n : Int) : isOf Sec.zero.l k g n = false := by
  unfold isOf
  rw [zero_sealed]
  rfl
theorem body_at {k g first : Nat} {d : List Nat} {i : Nat} (hi : i < pn d) : (bodyS k g first d)[i]? = some (sealRes k g ((first : Int) + (i : Int)) (prow d i)) := by
  unfold bodyS
  rw [List.getElem?_map, List.getElem?_range hi]
  rfl
/-! ### what stands on the disk -/
/-- the transactions' sectors in the log, from a place on -/
noncomputable def LogF (f : Int → Sec) (n gen : Nat) : Nat → List (List Nat) → Nat → Prop
  | v, [], u => v = u
  | v, t :: l, u => t ≠ [] ∧ (∀ b ∈ t, b < 256) ∧ (∀ k, k < pn t → f ((logAt n + (v + k) : Nat) : Int) = sealRes 3 gen ((v : Int) + (k : Int)) (prow t k)) ∧ f ((logAt n + (v + pn t) : Nat) : Int) = sealRes 4 gen ((v + pn t : Nat) : Int) (numB (pn t)) ∧ LogF f n gen (v + pn t + 1) l u
structure JOk (f : Int → Sec) (n gen : Nat) (st : List Nat) (txs : List (List Nat)) (u : Nat) : Prop where
  n8 : 8 ≤ n
  nle : n ≤ 4096
  fit : pn st ≤ areaOf n
  gle : gen ≤ 4611686018427387000
  s256 : ∀ b ∈ st, b < 256
  slen : st.length ≤ 5000
  top : topOf (f ((gen % 2 : Nat) : Int)) = some ((gen : Int), (st.length : Int))
  alt : ∀ g z, topOf (f (((gen + 1) % 2 : Nat) : Int)) = some (g, z) → g < gen
  parts : ∀ k, k < pn st → f ((stateAt n gen + k : Nat) : Int) = sealRes 2 gen (k : Int) (prow st k)
  log : LogF f n gen 0 txs u
  ule : u ≤ logOf n
  old : ∀ p, u ≤ p → p < logOf n → ∀ g : Int, (gen : Int) ≤ g → isOf (f ((logAt n + p : Nat) : Int)).l 3 g (p : Int) = false
theorem LogF.le {f : Int → Sec} {n gen : Nat} : ∀ (l : List (List Nat)) (v u : Nat), LogF f n gen v l u → v + 2 * l.length ≤ u
  | [], v, u, h => Nat.le_of_eq h
  | t :: l, v, u, h => by
    have h1 := LogF.le l _ u h.2.2.2.2
    have h2 : 0 < pn t := by have := List.length_pos_iff.2 h.1; unfold pn; omega
    simp only [List.length_cons]
    omega
theorem LogF.frame {f f' : Int → Sec} {n gen : Nat} : ∀ (l : List (List Nat)) (v u : Nat), LogF f n gen v l u → (∀ p, v ≤ p → p < u → f' ((logAt n + p : Nat) : Int) = f ((logAt n + p : Nat) : Int)) → LogF f' n gen v l u
  | [], v, u, h, _ => h
  | t :: l, v, u, h, hk => by
    have h1 := LogF.le l _ u h.2.2.2.2
    refine ⟨h.1, h.2.1, fun k hkt => ?_, ?_, LogF.frame l _ u h.2.2.2.2 (fun p h1 h2 => hk p (by omega) h2)⟩
    · rw [hk (v + k) (by omega) (by omega)]; exact h.2.2.1 k hkt
    · rw [hk (v + pn t) (by omega) (by omega)]; exact h.2.2.2.1
theorem LogF.snoc {f : Int → Sec} {n gen : Nat} {t : List Nat} : ∀ (l : List (List Nat)) (v u u' : Nat), LogF f n gen v l u → LogF f n gen u [t] u' → LogF f n gen v (l ++ [t]) u'
  | [], v, u, u', h, h' => by obtain rfl : v = u := h; exact h'
  | x :: l, v, u, u', h, h' => ⟨h.1, h.2.1, h.2.2.1, h.2.2.2.1, LogF.snoc l _ u u' h.2.2.2.2 h'⟩
theorem LogF.none {f : Int → Sec} {n gen : Nat} (hg : gen ≤ 4611686018427387000) : ∀ (l : List (List Nat)) (v u : Nat), LogF f n gen v l u → u ≤ 100000 → ∀ p, v ≤ p → p < u → ∀ g : Int, (gen : Int) < g → isOf (f ((logAt n + p : Nat) : Int)).l 3 g (p : Int) = false
  | [], v, u, h, _, p, h1, h2, g, hgg => by have : v = u := h; omega
  | t :: l, v, u, h, hu, p, h1, h2, g, hgg => by
    have hle := LogF.le l _ u h.2.2.2.2
    by_cases hp : p < v + pn t
    · obtain ⟨k, rfl⟩ : ∃ k, p = v + k := ⟨p - v, by omega⟩
      rw [h.2.2.1 k (by omega), isOf_seal (by simp [isBoxB]; omega) (prow_small _ _) (prow_lt h.2.1 _)]
      simp
      omega
    · by_cases hp2 : p = v + pn t
      · subst hp2
        rw [h.2.2.2.1, isOf_seal (by simp [isBoxB]; omega) (by rw [numB_len]; omega) (numB_lt _)]
        simp
      · exact LogF.none hg l _ u h.2.2.2.2 hu p (by omega) h2 g hgg
theorem JOk.format {n : Nat} {st : List Nat} (h8 : 8 ≤ n) (hn : n ≤ 4096) (hf : pn st ≤ areaOf n) (h256 : ∀ b ∈ st, b < 256) (hl : st.length ≤ 5000) : JOk (fmtF n (fun _ => Sec.zero) st) n 1 st [] 0 := by
  have ha := area_at n 1
  have h0 : ∀ j : Int, putF (fun _ => Sec.zero) 0 [Sec.zero, Sec.zero] j = Sec.zero := fun j => by
    simp only [putF, upd]
    split
    · rfl
    · split <;> rfl
  refine ⟨h8, hn, hf, by omega, h256, hl, ?_, ?_, ?_, rfl, by omega, ?_⟩
  · unfold fmtF ckptF
    have := putF_in (topS 1 st) (putF (putF (fun _ => Sec.zero) 0 [Sec.zero, Sec.zero]) (stateAt n 1) (bodyS 2 1 0 st)) (1 % 2) 0 _ rfl
    rw [show (1 % 2 + 0 : Nat) = 1 % 2 from rfl] at this
    rw [this]
    exact top_seal (g := 1) (by omega) (by omega)
  · intro g z hgz
    exfalso
    unfold fmtF ckptF at hgz
    rw [putF_out _ _ _ _ (by simp [topS]), putF_out _ _ _ _ (by left; simp; omega), h0, zero_top] at hgz
    cases hgz
  · intro k hk
    unfold fmtF ckptF
    rw [putF_out _ _ _ _ (by right; simp [topS]; omega), putF_in (bodyS 2 1 0 st) _ (stateAt n 1) k _ (body_at hk)]
    simp
  · intro p _ hp g hg
    unfold fmtF ckptF
    rw [putF_out _ _ _ _ (by right; simp [topS]; omega), putF_out _ _ _ _ (by right; rw [body_len]; omega), h0]
    exact zero_is _ _ _
theorem JOk.ckpt {f : Int → Sec} {n gen u : Nat} {st st' : List Nat} {txs : List (List Nat)} (h : JOk f n gen st txs u) (hf : pn st' ≤ areaOf n) (h256 : ∀ b ∈ st', b < 256) (hl : st'.length ≤ 5000) (hg : gen + 1 ≤ 4611686018427387000) : JOk (ckptF n f (gen + 1) st') n (gen + 1) st' [] 0 := by
  have ha := area_at n (gen + 1)
  have hlo : logOf n ≤ 4096 := by have := h.nle; unfold logOf; omega
  refine ⟨h.n8, h.nle, hf, hg, h256, hl, ?_, ?_, ?_, rfl, by omega, ?_⟩
  · unfold ckptF
    have := putF_in (topS (gen + 1) st') (putF f (stateAt n (gen + 1)) (bodyS 2 (gen + 1) 0 st')) ((gen + 1) % 2) 0 _ rfl
    rw [show ((gen + 1) % 2 + 0 : Nat) = (gen + 1) % 2 from rfl] at this
    rw [this]
    exact top_seal (g := gen + 1) (by omega) (by omega)
  · intro g z hgz
    unfold ckptF at hgz
    rw [putF_out _ _ _ _ (by simp [topS]; omega), putF_out _ _ _ _ (by left; omega), show (gen + 1 + 1) % 2 = gen % 2 by omega, h.top] at hgz
    injection hgz with hgz
    injection hgz with hgz
    omega
  · intro k hk
    unfold ckptF
    rw [putF_out _ _ _ _ (by right; simp [topS]; omega), putF_in (bodyS 2 (gen + 1) 0 st') _ (stateAt n (gen + 1)) k _ (body_at hk)]
    simp
  · intro p _ hp g hgg
    unfold ckptF
    rw [putF_out _ _ _ _ (by right; simp [topS]; omega), putF_out _ _ _ _ (by right; rw [body_len]; omega)]
    by_cases hpu : p < u
    · exact LogF.none h.gle txs 0 u h.log (by have := h.ule; omega) p (by omega) hpu g (by omega)
    · exact h.old p (by omega) hp g (by omega)
theorem JOk.app {f : Int → Sec} {n gen u : Nat} {st tx : List Nat} {txs : List (List Nat)} (h : JOk f n gen st txs u) (hne : tx ≠ []) (h256 : ∀ b ∈ tx, b < 256) (hf : u + pn tx + 1 ≤ logOf n) : JOk (appF n f gen u tx) n gen st (txs ++ [tx]) (u + pn tx + 1) := by
  have ha := area_at n gen
  have hlow : ∀ j : Int, j < (logAt n + u : Nat) → appF n f gen u tx j = f j := fun j hj => by
    unfold appF
    rw [putF_out _ _ _ _ (by left; omega), putF_out _ _ _ _ (by left; omega)]
  have hhigh : ∀ p, u + pn tx + 1 ≤ p → appF n f gen u tx ((logAt n + p : Nat) : Int) = f ((logAt n + p : Nat) : Int) := fun p hp => by
    unfold appF
    rw [putF_out _ _ _ _ (by right; simp [endS]; omega), putF_out _ _ _ _ (by right; rw [body_len]; omega)]
  refine ⟨h.n8, h.nle, h.fit, h.gle, h.s256, h.slen, ?_, ?_, ?_, ?_, hf, ?_⟩
  · rw [hlow _ (by unfold logAt; omega)]; exact h.top
  · rw [hlow _ (by unfold logAt; omega)]; exact h.alt
  · intro k hk
    have := h.fit
    rw [hlow _ (by omega)]; exact h.parts k hk
  · refine LogF.snoc txs 0 u _ (LogF.frame txs 0 u h.log (fun p _ hp => hlow _ (by omega))) ⟨hne, h256, fun k hk => ?_, ?_, rfl⟩
    · unfold appF
      rw [putF_out _ _ _ _ (by left; omega), show logAt n + (u + k) = logAt n + u + k by omega, putF_in (bodyS 3 gen u tx) _ (logAt n + u) k _ (body_at hk)]
      rfl
    · unfold appF
      have := putF_in (endS gen (u + pn tx) (pn tx)) (putF f (logAt n + u) (bodyS 3 gen u tx)) (logAt n + (u + pn tx)) 0 _ rfl
      rw [Nat.add_zero] at this
      exact this
  · intro p hp hpl g hg
    rw [hhigh p hp]
    exact h.old p (by omega) hpl g hg
/-! ### what Open reads -/
theorem stand_body {g : Nat} {v : Nat} {t : List Nat} (hg : g ≤ 4611686018427387000) (hv : v + pn t ≤ 100000) (h256 : ∀ b ∈ t, b < 256) (hne : t ≠ []) (ss : List Sec) (hb : ∀ k, k < pn t → ss[v + k]? = some (sealRes 3 g ((v : Int) + (k : Int)) (prow t k))) (he : ss[v + pn t]? = some (sealRes 4 g ((v + pn t : Nat) : Int) (numB (pn t)))) :
    ∀ m k, k + m = pn t → standF g v (ss.drop (v + k)) k (t.take (106 * k)) = some (t, pn t + 1)
  | 0, k, hk => by
    obtain rfl : k = pn t := by omega
    have hdrop : ss.drop (v + pn t) = sealRes 4 g ((v + pn t : Nat) : Int) (numB (pn t)) :: ss.drop (v + pn t + 1) := by
      obtain ⟨hl, hx⟩ := List.getElem?_eq_some_iff.1 he
      rw [List.drop_eq_getElem_cons hl, hx]
    have hpos : 0 < pn t := by have := List.length_pos_iff.2 hne; unfold pn; omega
    have hbox : isBoxB 4 (g : Int) ((v + pn t : Nat) : Int) = true := by simp [isBoxB]; omega
    have htk : t.take (106 * pn t) = t := List.take_of_length_le (by unfold pn; omega)
    rw [hdrop, htk]
    unfold standF
    have hsum : ((v : Int) + (pn t : Int)) = ((v + pn t : Nat) : Int) := by omega
    rw [hsum, isOf_seal hbox (by rw [numB_len]; omega) (numB_lt _), if_neg (by simp), if_pos]
    refine ⟨hpos, ?_⟩
    unfold endOf
    rw [isOf_seal hbox (by rw [numB_len]; omega) (numB_lt _), tD_seal hbox (by rw [numB_len]; omega) (numB_lt _), isNum_numB, numOf_numB _ (by omega) (by omega)]
    simp
  | m + 1, k, hk => by
    have hx := hb k (by omega)
    have hdrop : ss.drop (v + k) = sealRes 3 g ((v : Int) + (k : Int)) (prow t k) :: ss.drop (v + k + 1) := by
      obtain ⟨hl, hx⟩ := List.getElem?_eq_some_iff.1 hx
      rw [List.drop_eq_getElem_cons hl, hx]
    have hbox : isBoxB 3 (g : Int) ((v : Int) + (k : Int)) = true := by simp [isBoxB]; omega
    rw [hdrop]
    unfold standF
    rw [isOf_seal hbox (prow_small _ _) (prow_lt h256 _), if_pos (by simp), tD_seal hbox (prow_small _ _) (prow_lt h256 _), ← take_part]
    exact stand_body hg hv h256 hne ss hb he m (k + 1) (by omega)
theorem log_is {f : Int → Sec} {n gen s l : Nat} (h8 : 8 ≤ n) (hn : n ≤ 4096) (hg : gen ≤ 4611686018427387000) {u : Nat} (hu : u ≤ logOf n) (hend : u < logOf n → isOf (f ((logAt n + u : Nat) : Int)).l 3 gen (u : Int) = false) : ∀ (txs : List (List Nat)) (v : Nat), LogF f n gen v txs u → LogIs gen (readL (DM.idle n f s l) (logAt n) (logOf n)) v txs u
  | [], v, h => by
    obtain rfl : v = u := h
    refine ⟨rfl, ?_⟩
    have hlen := readL_len (DM.idle n f s l) (logAt n) (logOf n)
    by_cases hlt : v < logOf n
    · have hx := readL_at (s := s) (l := l) (f := f) (n := n) (a := logAt n) (m := logOf n) (k := v) (by rw [log_in h8]; omega) hlt
      obtain ⟨hl, hx⟩ := List.getElem?_eq_some_iff.1 hx
      rw [List.drop_eq_getElem_cons hl, hx]
      unfold standF
      rw [show (v : Int) + ((0 : Nat) : Int) = (v : Int) by omega, hend hlt, if_neg (by simp), if_neg (by omega)]
    · rw [List.drop_of_length_le (by omega)]
      rfl
  | t :: rest, v, h => by
    have hle := LogF.le rest _ u h.2.2.2.2
    have hlo : logOf n ≤ 4096 := by unfold logOf; omega
    have hr : ∀ p, p < u → (readL (DM.idle n f s l) (logAt n) (logOf n))[p]? = some (f ((logAt n + p : Nat) : Int)) := fun p hp => readL_at (by rw [log_in h8]; omega) (by omega)
    refine ⟨pn t + 1, ?_, ?_⟩
    · have := stand_body (g := gen) (v := v) (t := t) hg (by omega) h.2.1 h.1 (readL (DM.idle n f s l) (logAt n) (logOf n)) (fun k hk => by rw [hr (v + k) (by omega), h.2.2.1 k hk]) (by rw [hr (v + pn t) (by omega), h.2.2.2.1]) (pn t) 0 (by omega)
      simpa using this
    · rw [show v + (pn t + 1) = v + pn t + 1 by omega]
      exact log_is h8 hn hg hu hend rest _ h.2.2.2.2
theorem newest_two {a b : Sec} {gen : Nat} {z : Int} (h : (gen % 2 = 0 ∧ topOf a = some ((gen : Int), z) ∧ ∀ g z', topOf b = some (g, z') → g < gen) ∨ (gen % 2 = 1 ∧ topOf b = some ((gen : Int), z) ∧ ∀ g z', topOf a = some (g, z') → g < gen)) : newestL [a, b] 2 = some ((gen : Int), z) := by
  show pickTop (pickTop none 0 a) 1 b = _
  rcases h with ⟨hm, h1, h2⟩ | ⟨hm, h1, h2⟩
  · have e1 : pickTop none 0 a = some ((gen : Int), z) := by
      unfold pickTop
      rw [h1]
      exact if_pos ⟨by omega, fun x hx => by cases hx⟩
    rw [e1]
    unfold pickTop
    cases hb : topOf b with
    | none => rfl
    | some x =>
      obtain ⟨g, z'⟩ := x
      have := h2 g z' hb
      simp only
      rw [if_neg]
      rintro ⟨_, h3⟩
      have := h3 _ rfl
      omega
  · have e1 : ∀ x, pickTop none 0 a = some x → x.1 < gen := by
      intro x hx
      unfold pickTop at hx
      cases ha : topOf a with
      | none => rw [ha] at hx; cases hx
      | some y =>
        obtain ⟨g, z'⟩ := y
        rw [ha] at hx
        simp only at hx
        split at hx
        · injection hx with hx
          subst hx
          exact h2 g z' ha
        · cases hx
    generalize pickTop none 0 a = acc at *
    unfold pickTop
    rw [h1]
    exact if_pos ⟨by omega, e1⟩
theorem JOk.shows {f : Int → Sec} {n gen u s l : Nat} {st : List Nat} {txs : List (List Nat)} (h : JOk f n gen st txs u) : Shows (DM.idle n f s l) n gen st txs u := by
  have hn8 := h.n8
  have hfit := h.fit
  refine ⟨h.fit, ?_, ?_, log_is h.n8 h.nle h.gle h.ule (fun hlt => h.old u (Nat.le_refl _) hlt gen (by omega)) txs 0 h.log⟩
  · have e : readL (DM.idle n f s l) 0 2 = [f 0, f 1] := by
      apply List.ext_getElem?
      intro i
      rcases Nat.lt_or_ge i 2 with hi | hi
      · rw [readL_at (by omega) hi]
        have : i = 0 ∨ i = 1 := by omega
        rcases this with rfl | rfl <;> rfl
      · rw [List.getElem?_eq_none (by rw [readL_len]; omega), List.getElem?_eq_none (by simp; omega)]
    rw [e]
    apply newest_two
    have h1 := h.top
    have h2 := h.alt
    have : gen % 2 = 0 ∨ gen % 2 = 1 := by omega
    rcases this with hm | hm
    · rw [hm] at h1
      rw [show (gen + 1) % 2 = 1 by omega] at h2
      exact .inl ⟨hm, h1, h2⟩
    · rw [hm] at h1
      rw [show (gen + 1) % 2 = 0 by omega] at h2
      exact .inr ⟨hm, h1, h2⟩
  · intro k x hk hx
    rw [readL_at (by have := area_in (g := gen) hn8; omega) (by omega)] at hx
    injection hx with hx
    subst hx
    rw [h.parts k hk]
    have hle := area_small h.nle
    have hg := h.gle
    have hb : isBoxB 2 (gen : Int) (k : Int) = true := by simp [isBoxB]; omega
    rw [isOf_seal hb (prow_small _ _) (prow_lt h.s256 _), tD_seal hb (prow_small _ _) (prow_lt h.s256 _)]
    simp
end Go.Proofs.YtpklcmocjimcpaaDoor
