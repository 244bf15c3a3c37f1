/-
  A transaction is appended. Conditions: no write fails; all lies where it is said to; small numbers.
-/
import Derived.Test.YtpklcmocjimcpaaDoorZg
import Derived.BigQuiet

namespace Go.Proofs.YtpklcmocjimcpaaDoor
open Go.RowKit
set_option maxRecDepth 100000
set_option linter.unusedSimpArgs false
set_option linter.unusedVariables false
/-- a transaction's end -/
noncomputable def endS (g place m : Nat) : List Sec := [sealRes 4 g place (numB m)]
noncomputable def DM.app (n : Nat) (d : DM) (g used : Nat) (tx : List Nat) : DM × Nat :=
  if (d.putRow (logAt n + used) (bodyS 3 g used tx)).2 = 0 then (d.putRow (logAt n + used) (bodyS 3 g used tx)).1.putRow (logAt n + (used + pn tx)) (endS g (used + pn tx) (pn tx)) else d.putRow (logAt n + used) (bodyS 3 g used tx)
theorem jadd_rows {n g used : Nat} {d : DM} {tx : List Nat} (hok : (d.app n g used tx).2 = 0) (A B : Option Addr) (c b : Nat) : (d.putRows [⟨logAt n + used, A, c, bodyS 3 g used tx⟩, ⟨logAt n + (used + pn tx), B, b, endS g (used + pn tx) (pn tx)⟩]).2 = 0 ∧ (d.putRows [⟨logAt n + used, A, c, bodyS 3 g used tx⟩, ⟨logAt n + (used + pn tx), B, b, endS g (used + pn tx) (pn tx)⟩]).1 = (d.app n g used tx).1 := by
  unfold DM.app at *
  by_cases h1 : (d.putRow (logAt n + used) (bodyS 3 g used tx)).2 = 0
  · rw [if_pos h1] at hok ⊢
    simp [DM.putRows, h1, hok]
  · rw [if_neg h1] at hok
    exact absurd hok h1
theorem end_cells (g place m : Nat) : sixCells (sealRow 4 g place (fun _ => numB m) 1) 1 = (endS g place m).flatMap Sec.cs := by
  rw [six_row]
  simp [endS, sealRow]
theorem exec_load_mid1 {P : Program} {op : Oper} {a : Act} {w : World} (ty : TypeId) (x : Operand) (ho : op.op = .load ty x) (b o : Nat) (hx : a.eval x = .pointer (some ⟨b, o, none⟩)) (cs : List Value) (d : TypeDesc) (hc : w.rangeAt b o cs)
    (hu : P.underlying ty = some d) (hd : d.isRow = true) (hi : (P.info? ty).map (·.size) = some cs.length) : (execOp a.eval op).run P w = .ok (.value (.agg cs.toArray)) w := by
  unfold execOp
  simp only [ho, hx, Instr.loadAt, Instr.sureAddr, Sem.run_bind, Sem.run_pure, Result.andThen_ok, run_loadVar_mid w b o ty cs d hc hu hd hi]
theorem bytes_info1 : (Tryd.prog.info? 34).map (fun i => (i.zero, i.size, i.bytes)) = some (some (.slice none 0 0), 1, 24) := by kernel_rfl
theorem wp_set_blk1 {P : Program} {o : Oper} {a : Act} {w : World} {K : Act → World → Prop} {Q : Exit → Act → World → Prop} (ty : TypeId) (x y : Operand) (ho : o.op = .store ty x y)
    (g i : Nat) (t : TypeId) (cs : Array Value) (v : Value) (hx : a.eval x = .pointer (some ⟨g, i, none⟩)) (hy : a.eval y = v) (hB : Blk w g t cs) (hs : i < cs.size) (hi : (P.info? ty).map (·.size) = some 1) (h1 : v.oneCell' = true)
    (h : ∀ w', Blk w' g t (cs.setIfInBounds i v) → Only [g] w w' → w'.heap.size = w.heap.size → K (a.put o.dst undef) w') : o.wp P a w K Q := by
  unfold Oper.wp execOp
  simp only [ho, hx, hy, Instr.storeAt, Instr.sureAddr, Sem.run_bind, Sem.run_pure, Result.andThen_ok, run_storeVar_cell1 w g i ty v (hB.there (by omega)) hi h1]
  exact h _ (hB.set_ i v) ((Only.refl _ _).setCell (.inl (by simp)) _) (by simp [World.setCell])
/-- behind an append onto a row that is none of the disk's -/
theorem Holds.appended {w0 w w' : World} {g : Nat} {d : DM} {X : List Nat} {v v' : Value} (h : Holds w0 w g d X) (hg : w.grownBy w' v.ownBlock) (hv : ∀ k, v.ownBlock = some k → k ∈ X) (hw0 : ∀ k, v.ownBlock = some k → w0.heap.size ≤ k) (hat : v'.ownBlock = v.ownBlock ∨ v'.ownBlock = some w.heap.size) (hlt : ∀ k, v'.ownBlock = some k → k < w'.heap.size) : Holds w0 w' g d (rowOf v' ++ X) := by
  obtain ⟨F, h1, h2, h3⟩ := h
  have hnot : ∀ k ∈ F, v.ownBlock ≠ some k := fun k hk e => (h3 k (hv k e)).1 hk
  refine ⟨F, h1.of (fun k hk => hg.block k (h1.under k hk) (fun e => hnot k hk e.symm)), h2.grown hg h2.size hw0, fun k hk => ?_⟩
  rcases List.mem_append.1 hk with hk | hk
  · have hk' := mem_rowOf.1 hk
    refine ⟨fun hF => ?_, hlt k hk'⟩
    rcases hat with e | e
    · exact hnot k hF (by rw [← e]; exact hk')
    · rw [e] at hk'
      injection hk' with hk'
      have := h1.under k hF
      omega
  · exact ⟨(h3 k hk).1, Nat.lt_of_lt_of_le (h3 k hk).2 hg.size⟩
set_option maxRecDepth 100000 in
set_option maxHeartbeats 8000000 in
theorem add_good {w0 w : World} {g gj n gen used : Nat} {vs vt : Value} {d : DM} {X : List Nat} (h : Holds w0 w g d X) (hJ : Blk w gj 67 (jcells n g gen vs vt used false)) (hgj : gj ∈ X) (hgj0 : w0.heap.size ≤ gj) (hn : n ≤ 4096)
    (hgen : gen ≤ 4611686018427387904) (hused : used ≤ 4096) (A : Option Addr) (c : Nat) (tx : List Nat) (hst : Bytes w w.heap.size A tx.length tx) (hl : tx.length ≤ 5000) (hlc : tx.length ≤ c) (hcm : c ≤ 9223372036854775807)
    (hT : Tab w) (hw0 : 0 < w0.heap.size) (hAx : ∀ k ∈ blkOf A, k ∈ X) (hf : Far d (pn tx + 3)) (hok : (d.app n gen used tx).2 = 0)
    (nt : Nat) (us : List Value) (hus : w.ownsRow w0.heap.size 34 1 vt nt us) (hnt : nt ≤ 100000) (hvt : ∀ k ∈ rowOf vt, k ∈ X) :
    Calls Tryd.prog 34 #[.pointer (some ⟨gj, 0, none⟩), .slice A tx.length c] w fun e w' => ∃ vt' B cc, e = .returned .nilIface ∧ Holds w0 w' g (d.app n gen used tx).1 (blkOf B ++ (rowOf vt' ++ X)) ∧
      Blk w' gj 67 (jcells n g gen vs vt' (used + pn tx + 1) false) ∧ w'.ownsRow w0.heap.size 34 1 vt' (nt + 1) (us ++ [.slice B tx.length cc]) ∧ Own w' w.heap.size (.slice B tx.length cc) tx.length tx ∧
      (∀ k ∈ X, k ≠ gj → k ∉ rowOf vt → w'.heap[k]? = w.heap[k]?) ∧ w.heap.size ≤ w'.heap.size ∧ (∀ k ∈ rowOf vt', k ∈ rowOf vt ∨ w.heap.size ≤ k) := by
  have hpos : 0 < w.heap.size := Nat.lt_of_lt_of_le hw0 h.size
  have hXl : ∀ k ∈ X, k < w.heap.size := by obtain ⟨F, h1, h2, h3⟩ := h; exact fun k hk => (h3 k hk).2
  have h256 := hst.2
  have hgl := hXl gj hgj
  have H := Lib.hid h
  have HJ := Lib.hid hJ
  have HS := Lib.hid hst
  have HT := Lib.hid hT
  have HX := Lib.hid hXl
  have HOK := Lib.hid hok
  have HU := Lib.hid hus
  have hpn : pn tx ≤ 48 := by unfold pn; omega
  clear h hJ hst hT hXl hok hus
  go_enter Tryd.func34, Tryd.ntmps34
  go_wp2
  have hS0 : Blk w.drew gj 67 (jcells n g gen vs vt used false) ∧ Below w.heap.size w w.drew := ⟨HJ.out, (Below.refl _ _).drew⟩
  refine any_beginL (fun w' => Blk w' gj 67 (jcells n g gen vs vt used false) ∧ Below w.heap.size w w') 99 (by kernel_rfl) ?_
  refine S_take (i := 0) (v := .pointer (some ⟨gj, 0, none⟩)) rfl rfl (by kernel_rfl) (by kernel_rfl) (by kernel_rfl) (fun _ _ _ h => h) (Or.inl ⟨by rfl, fun w hw => by kernel_rfl⟩) hS0 ?_
  simp only [Act.put, List.getElem_toArray, List.getElem_cons_succ, List.getElem_cons_zero, List.setIfInBounds_toArray, List.set_cons_zero, List.set_cons_succ]
  refine S_take (i := 1) (v := .pointer (some ⟨gj, 0, none⟩)) rfl rfl (by kernel_rfl) (by kernel_rfl) (by kernel_rfl) (fun _ _ _ h => h) (Or.inl ⟨by rfl, fun w hw => by go_simp⟩) hS0 ?_
  simp only [Act.put, List.getElem_toArray, List.getElem_cons_succ, List.getElem_cons_zero, List.setIfInBounds_toArray, List.set_cons_zero, List.set_cons_succ]
  refine S_take (i := 2) (v := .pointer (some ⟨gj, 3, none⟩)) rfl rfl (by kernel_rfl) (by kernel_rfl) (by kernel_rfl) (fun _ _ _ h => h) (Or.inl ⟨by rfl, fun w hw => by kernel_rfl⟩) hS0 ?_
  simp only [Act.put, List.getElem_toArray, List.getElem_cons_succ, List.getElem_cons_zero, List.setIfInBounds_toArray, List.set_cons_zero, List.set_cons_succ]
  refine S_take (i := 3) (v := .int .i64 gen) rfl rfl (by kernel_rfl) (by kernel_rfl) (by kernel_rfl) (fun _ _ _ h => h) (Or.inl ⟨by rfl, fun w hw => by have q : w.cell? ⟨_, 3, none⟩ = some (.int .i64 gen) := hw.1.cell 3; go_simp⟩) hS0 ?_
  simp only [Act.put, List.getElem_toArray, List.getElem_cons_succ, List.getElem_cons_zero, List.setIfInBounds_toArray, List.set_cons_zero, List.set_cons_succ]
  refine S_take (i := 4) (v := .pointer (some ⟨gj, 0, none⟩)) rfl rfl (by kernel_rfl) (by kernel_rfl) (by kernel_rfl) (fun _ _ _ h => h) (Or.inl ⟨by rfl, fun w hw => by kernel_rfl⟩) hS0 ?_
  simp only [Act.put, List.getElem_toArray, List.getElem_cons_succ, List.getElem_cons_zero, List.setIfInBounds_toArray, List.set_cons_zero, List.set_cons_succ]
  refine S_take (i := 5) (v := .pointer (some ⟨gj, 0, none⟩)) rfl rfl (by kernel_rfl) (by kernel_rfl) (by kernel_rfl) (fun _ _ _ h => h) (Or.inl ⟨by rfl, fun w hw => by go_simp⟩) hS0 ?_
  simp only [Act.put, List.getElem_toArray, List.getElem_cons_succ, List.getElem_cons_zero, List.setIfInBounds_toArray, List.set_cons_zero, List.set_cons_succ]
  refine S_take (i := 6) (v := .pointer (some ⟨gj, 6, none⟩)) rfl rfl (by kernel_rfl) (by kernel_rfl) (by kernel_rfl) (fun _ _ _ h => h) (Or.inl ⟨by rfl, fun w hw => by kernel_rfl⟩) hS0 ?_
  simp only [Act.put, List.getElem_toArray, List.getElem_cons_succ, List.getElem_cons_zero, List.setIfInBounds_toArray, List.set_cons_zero, List.set_cons_succ]
  refine S_take (i := 7) (v := .int .i64 used) rfl rfl (by kernel_rfl) (by kernel_rfl) (by kernel_rfl) (fun _ _ _ h => h) (Or.inl ⟨by rfl, fun w hw => by have q : w.cell? ⟨_, 6, none⟩ = some (.int .i64 used) := hw.1.cell 6; go_simp⟩) hS0 ?_
  simp only [Act.put, List.getElem_toArray, List.getElem_cons_succ, List.getElem_cons_zero, List.setIfInBounds_toArray, List.set_cons_zero, List.set_cons_succ]
  refine S_take (i := 8) (v := .slice A tx.length c) rfl rfl (by kernel_rfl) (by kernel_rfl) (by kernel_rfl) (fun _ _ _ h => h) (Or.inl ⟨by rfl, fun w hw => by kernel_rfl⟩) hS0 ?_
  simp only [Act.put, List.getElem_toArray, List.getElem_cons_succ, List.getElem_cons_zero, List.setIfInBounds_toArray, List.set_cons_zero, List.set_cons_succ]
  refine L_one (j := 9) (by kernel_rfl) rfl (by rfl) ?_
  simp only [Act.put, List.getElem_toArray, List.getElem_cons_succ, List.getElem_cons_zero, List.setIfInBounds_toArray, List.set_cons_zero, List.set_cons_succ]
  refine wp_called (by kernel_rfl) (parts_any A c tx w.drew HS.out hl hlc hcm) ?_
  rintro e w1 ⟨v, rs, rfl, hrow, hown, -, b1'⟩
  have b1 := below_drew' b1'
  obtain ⟨Av, cv, rfl⟩ := slice_of hrow
  have hRB : RowsB w1 w1.heap.size Av (pn tx) rs (prow tx) := ⟨Reads.of_own hrow, fun i hi => by
    obtain ⟨A', c', h1, h2, h3, -⟩ := (hown i hi).form
    refine ⟨A', c', h1, ?_, fun b hb => h256 b (List.mem_of_mem_drop (List.mem_of_mem_take hb))⟩
    have := hown i hi
    rw [h1] at this
    exact Reads.of_own this⟩
  have J1 := HJ.out.below b1 HJ.out.lt
  have hs1 := b1.size
  refine ⟨_, rfl, ⟨J1, b1⟩, ?_⟩
  simp only [Act.put, List.getElem_toArray, List.getElem_cons_succ, List.getElem_cons_zero, List.setIfInBounds_toArray, List.set_cons_zero, List.set_cons_succ]
  refine L_one (j := 10) (by kernel_rfl) rfl (by rfl) ?_
  simp only [Act.put, List.getElem_toArray, List.getElem_cons_succ, List.getElem_cons_zero, List.setIfInBounds_toArray, List.set_cons_zero, List.set_cons_succ]
  refine wp_called (by kernel_rfl) (jsealed_any 3 gen used Av (pn tx) cv rs (prow tx) w1 (by omega) (by omega) hRB (tab_below HT.out b1 hpos) (Nat.lt_of_lt_of_le hpos b1.size) (fun i hi => seal_ok (by simp [isBoxB]; omega) (prow_small _ _))) ?_
  rintro e w2 ⟨v, rfl, hrow2, b2⟩
  obtain ⟨As, cs, rfl⟩ := slice_of hrow2
  rw [show ((3 : Int)) = ((3 : Nat) : Int) from rfl, body_cells] at hrow2
  have B2 := b1.trans (b2.mono b1.size)
  have J2 := J1.below b2 J1.lt
  have hS2 : Blk w2 gj 67 (jcells n g gen vs vt used false) ∧ Below w.heap.size w w2 := ⟨J2, B2⟩
  refine ⟨_, rfl, hS2, ?_⟩
  simp only [Act.put, List.getElem_toArray, List.getElem_cons_succ, List.getElem_cons_zero, List.setIfInBounds_toArray, List.set_cons_zero, List.set_cons_succ]
  refine S_take (i := 11) (v := .tuple #[.slice As (pn tx) cs, .nilIface]) rfl rfl (by kernel_rfl) (by kernel_rfl) (by kernel_rfl) (fun _ _ _ h => h) (Or.inl ⟨by rfl, fun w hw => by kernel_rfl⟩) hS2 ?_
  simp only [Act.put, List.getElem_toArray, List.getElem_cons_succ, List.getElem_cons_zero, List.setIfInBounds_toArray, List.set_cons_zero, List.set_cons_succ]
  refine S_take (i := 12) (v := .slice As (pn tx) cs) rfl rfl (by kernel_rfl) (by kernel_rfl) (by kernel_rfl) (fun _ _ _ h => h) (Or.inl ⟨by rfl, fun w hw => by kernel_rfl⟩) hS2 ?_
  simp only [Act.put, List.getElem_toArray, List.getElem_cons_succ, List.getElem_cons_zero, List.setIfInBounds_toArray, List.set_cons_zero, List.set_cons_succ]
  refine S_take (i := 13) (v := .nilIface) rfl rfl (by kernel_rfl) (by kernel_rfl) (by kernel_rfl) (fun _ _ _ h => h) (Or.inl ⟨by rfl, fun w hw => by kernel_rfl⟩) hS2 ?_
  simp only [Act.put, List.getElem_toArray, List.getElem_cons_succ, List.getElem_cons_zero, List.setIfInBounds_toArray, List.set_cons_zero, List.set_cons_succ]
  refine L_one (j := 14) (by kernel_rfl) rfl (by rfl) ?_
  simp only [Act.put, List.getElem_toArray, List.getElem_cons_succ, List.getElem_cons_zero, List.setIfInBounds_toArray, List.set_cons_zero, List.set_cons_succ]
  refine wp_yields (v := .slice As (pn tx) cs) (by kernel_rfl) ⟨hS2, ?_⟩
  simp only [Act.put, List.getElem_toArray, List.getElem_cons_succ, List.getElem_cons_zero, List.setIfInBounds_toArray, List.set_cons_zero, List.set_cons_succ]
  refine L_one (j := 15) (by kernel_rfl) rfl (by rfl) ?_
  simp only [Act.put, List.getElem_toArray, List.getElem_cons_succ, List.getElem_cons_zero, List.setIfInBounds_toArray, List.set_cons_zero, List.set_cons_succ]
  refine wp_yields (v := .nilIface) (by kernel_rfl) ⟨hS2, ?_⟩
  simp only [Act.put, List.getElem_toArray, List.getElem_cons_succ, List.getElem_cons_zero, List.setIfInBounds_toArray, List.set_cons_zero, List.set_cons_succ]
  refine L_done (by kernel_rfl) ?_
  refine NoPanic.normal ?_
  have J2 := Lib.hid J2
  have B2 := Lib.hid B2
  have RW2 := Lib.hid hrow2
  clear hS2 hS0 hRB hrow hown J1 b1 b1' b2 hrow2
  have q6 : w2.cell? ⟨gj, 6, none⟩ = some (.int .i64 used) := J2.out.cell 6
  go_wp2
  clear q6
  have hS3 : Blk w2.drew gj 67 (jcells n g gen vs vt used false) ∧ Below w.heap.size w w2.drew := ⟨J2.out, B2.out.drew⟩
  refine any_beginL (fun w' => Blk w' gj 67 (jcells n g gen vs vt used false) ∧ Below w.heap.size w w') 99 (by kernel_rfl) ?_
  refine S_take (i := 0) (v := .pointer (some ⟨gj, 0, none⟩)) rfl rfl (by kernel_rfl) (by kernel_rfl) (by kernel_rfl) (fun _ _ _ h => h) (Or.inl ⟨by rfl, fun w hw => by kernel_rfl⟩) hS3 ?_
  simp only [Act.put, List.getElem_toArray, List.getElem_cons_succ, List.getElem_cons_zero, List.setIfInBounds_toArray, List.set_cons_zero, List.set_cons_succ]
  refine S_take (i := 1) (v := .pointer (some ⟨gj, 0, none⟩)) rfl rfl (by kernel_rfl) (by kernel_rfl) (by kernel_rfl) (fun _ _ _ h => h) (Or.inl ⟨by rfl, fun w hw => by go_simp⟩) hS3 ?_
  simp only [Act.put, List.getElem_toArray, List.getElem_cons_succ, List.getElem_cons_zero, List.setIfInBounds_toArray, List.set_cons_zero, List.set_cons_succ]
  refine S_take (i := 2) (v := .pointer (some ⟨gj, 3, none⟩)) rfl rfl (by kernel_rfl) (by kernel_rfl) (by kernel_rfl) (fun _ _ _ h => h) (Or.inl ⟨by rfl, fun w hw => by kernel_rfl⟩) hS3 ?_
  simp only [Act.put, List.getElem_toArray, List.getElem_cons_succ, List.getElem_cons_zero, List.setIfInBounds_toArray, List.set_cons_zero, List.set_cons_succ]
  refine S_take (i := 3) (v := .int .i64 gen) rfl rfl (by kernel_rfl) (by kernel_rfl) (by kernel_rfl) (fun _ _ _ h => h) (Or.inl ⟨by rfl, fun w hw => by have q : w.cell? ⟨_, 3, none⟩ = some (.int .i64 gen) := hw.1.cell 3; go_simp⟩) hS3 ?_
  simp only [Act.put, List.getElem_toArray, List.getElem_cons_succ, List.getElem_cons_zero, List.setIfInBounds_toArray, List.set_cons_zero, List.set_cons_succ]
  refine S_take (i := 4) (v := .int .i64 ((used : Int) + (pn tx : Int))) rfl rfl (by kernel_rfl) (by kernel_rfl) (by kernel_rfl) (fun _ _ _ h => h) (Or.inl ⟨by rfl, fun w hw => by kernel_rfl⟩) hS3 ?_
  simp only [Act.put, List.getElem_toArray, List.getElem_cons_succ, List.getElem_cons_zero, List.setIfInBounds_toArray, List.set_cons_zero, List.set_cons_succ]
  refine S_take (i := 5) (v := .slice As (pn tx) cs) rfl rfl (by kernel_rfl) (by kernel_rfl) (by kernel_rfl) (fun _ _ _ h => h) (Or.inl ⟨by rfl, fun w hw => by kernel_rfl⟩) hS3 ?_
  simp only [Act.put, List.getElem_toArray, List.getElem_cons_succ, List.getElem_cons_zero, List.setIfInBounds_toArray, List.set_cons_zero, List.set_cons_succ]
  refine S_take (i := 6) (v := .int .i64 (pn tx)) rfl rfl (by kernel_rfl) (by kernel_rfl) (by kernel_rfl) (fun _ _ _ h => h) (Or.inl ⟨by rfl, fun w hw => by go_simp⟩) hS3 ?_
  simp only [Act.put, List.getElem_toArray, List.getElem_cons_succ, List.getElem_cons_zero, List.setIfInBounds_toArray, List.set_cons_zero, List.set_cons_succ]
  refine L_one (j := 7) (by kernel_rfl) rfl (by rfl) ?_
  simp only [Act.put, List.getElem_toArray, List.getElem_cons_succ, List.getElem_cons_zero, List.setIfInBounds_toArray, List.set_cons_zero, List.set_cons_succ]
  refine wp_called (by kernel_rfl) (jpacked_any (pn tx) w2.drew) ?_
  rintro e w3 ⟨A3, c3, rfl, hown3, b3'⟩
  have b3 := below_drew' b3'
  have J3 := J2.out.below b3 J2.out.lt
  have B3 := B2.out.trans (b3.mono B2.out.size)
  have RW3 := row_of RW2.out fun x hx => b3.block x (row_under RW2.out x hx)
  refine ⟨_, rfl, ⟨J3, B3⟩, ?_⟩
  simp only [Act.put, List.getElem_toArray, List.getElem_cons_succ, List.getElem_cons_zero, List.setIfInBounds_toArray, List.set_cons_zero, List.set_cons_succ]
  refine L_one (j := 8) (by kernel_rfl) rfl (by rfl) ?_
  simp only [Act.put, List.getElem_toArray, List.getElem_cons_succ, List.getElem_cons_zero, List.setIfInBounds_toArray, List.set_cons_zero, List.set_cons_succ]
  refine wp_ran (v := .slice (some ⟨w3.heap.size, 0, none⟩) 1 1) (w' := w3.alloc (.cells #[.slice A3 8 c3] 34)) (by go_simp) ?_
  have hRB2 : RowsB (w3.alloc (.cells #[.slice A3 8 c3] 34)) (w3.alloc (.cells #[.slice A3 8 c3] 34)).heap.size (some ⟨w3.heap.size, 0, none⟩) 1 (fun _ => .slice A3 8 c3) (fun _ => numB (pn tx)) := by
    refine ⟨?_, fun i _ => ⟨A3, c3, by rw [numB_len], ?_, numB_lt _⟩⟩
    · have := Reads.new w3 [.slice A3 8 c3] 34 (0, 0)
      simpa using this
    · have := (Reads.of_own hown3).alloc (Nat.le_refl _) (.cells #[.slice A3 8 c3] 34)
      rw [numB_len]
      exact this.more (by simp)
  have B4 := B3.alloc B3.size (.cells #[.slice A3 8 c3] 34)
  have RW4 := RW3.alloc (.cells #[.slice A3 8 c3] 34)
  have J4 := J3.alloc (.cells #[.slice A3 8 c3] 34)
  refine ⟨⟨J4, B4⟩, ?_⟩
  generalize hw3s : w3.heap.size = g3 at *
  generalize w3.alloc (.cells #[.slice A3 8 c3] 34) = w4 at *
  clear hw3s
  simp only [Act.put, List.getElem_toArray, List.getElem_cons_succ, List.getElem_cons_zero, List.setIfInBounds_toArray, List.set_cons_zero, List.set_cons_succ]
  refine L_one (j := 9) (by kernel_rfl) rfl (by rfl) ?_
  simp only [Act.put, List.getElem_toArray, List.getElem_cons_succ, List.getElem_cons_zero, List.setIfInBounds_toArray, List.set_cons_zero, List.set_cons_succ]
  refine wp_called (by kernel_rfl) (jsealed_any 4 gen (used + pn tx) _ 1 1 _ _ w4 (by omega) (by omega) hRB2 (tab_below HT.out B4 hpos) (Nat.lt_of_lt_of_le hpos B4.size) (fun i hi => seal_ok (by simp [isBoxB]; omega) (by rw [numB_len]; omega))) ?_
  rintro e w5 ⟨v, rfl, hrow5, b5⟩
  obtain ⟨At, ct, rfl⟩ := slice_of hrow5
  rw [end_cells] at hrow5
  have B5 := B4.trans (b5.mono B4.size)
  have RW5 := row_of RW4 fun x hx => b5.block x (row_under RW4 x hx)
  have J5 := J4.below b5 J4.lt
  have hs4 := B4.size
  have hS5 : Blk w5 gj 67 (jcells n g gen vs vt used false) ∧ Below w.heap.size w w5 := ⟨J5, B5⟩
  refine ⟨_, rfl, hS5, ?_⟩
  simp only [Act.put, List.getElem_toArray, List.getElem_cons_succ, List.getElem_cons_zero, List.setIfInBounds_toArray, List.set_cons_zero, List.set_cons_succ]
  refine S_take (i := 10) (v := .tuple #[.slice At 1 ct, .nilIface]) rfl rfl (by kernel_rfl) (by kernel_rfl) (by kernel_rfl) (fun _ _ _ h => h) (Or.inl ⟨by rfl, fun w hw => by kernel_rfl⟩) hS5 ?_
  simp only [Act.put, List.getElem_toArray, List.getElem_cons_succ, List.getElem_cons_zero, List.setIfInBounds_toArray, List.set_cons_zero, List.set_cons_succ]
  refine S_take (i := 11) (v := .slice At 1 ct) rfl rfl (by kernel_rfl) (by kernel_rfl) (by kernel_rfl) (fun _ _ _ h => h) (Or.inl ⟨by rfl, fun w hw => by kernel_rfl⟩) hS5 ?_
  simp only [Act.put, List.getElem_toArray, List.getElem_cons_succ, List.getElem_cons_zero, List.setIfInBounds_toArray, List.set_cons_zero, List.set_cons_succ]
  refine S_take (i := 12) (v := .nilIface) rfl rfl (by kernel_rfl) (by kernel_rfl) (by kernel_rfl) (fun _ _ _ h => h) (Or.inl ⟨by rfl, fun w hw => by kernel_rfl⟩) hS5 ?_
  simp only [Act.put, List.getElem_toArray, List.getElem_cons_succ, List.getElem_cons_zero, List.setIfInBounds_toArray, List.set_cons_zero, List.set_cons_succ]
  refine L_one (j := 13) (by kernel_rfl) rfl (by rfl) ?_
  simp only [Act.put, List.getElem_toArray, List.getElem_cons_succ, List.getElem_cons_zero, List.setIfInBounds_toArray, List.set_cons_zero, List.set_cons_succ]
  refine wp_yields (v := .slice At 1 ct) (by kernel_rfl) ⟨hS5, ?_⟩
  simp only [Act.put, List.getElem_toArray, List.getElem_cons_succ, List.getElem_cons_zero, List.setIfInBounds_toArray, List.set_cons_zero, List.set_cons_succ]
  refine L_one (j := 14) (by kernel_rfl) rfl (by rfl) ?_
  simp only [Act.put, List.getElem_toArray, List.getElem_cons_succ, List.getElem_cons_zero, List.setIfInBounds_toArray, List.set_cons_zero, List.set_cons_succ]
  refine wp_yields (v := .nilIface) (by kernel_rfl) ⟨hS5, ?_⟩
  simp only [Act.put, List.getElem_toArray, List.getElem_cons_succ, List.getElem_cons_zero, List.setIfInBounds_toArray, List.set_cons_zero, List.set_cons_succ]
  refine L_done (by kernel_rfl) ?_
  refine NoPanic.normal ?_
  have J5 := Lib.hid J5
  have B5 := Lib.hid B5
  have RW5 := Lib.hid RW5
  have RT5 := Lib.hid hrow5
  clear hS5 hS3 hRB2 hown3 J3 J4 B3 B4 RW3 RW4 RW2 J2 B2 b3 b3' b5 hrow5
  go_wp2
  have hlog : logAt n ≤ 2800 := by have := area_small hn; unfold logAt; omega
  have hwr1 : IntKind.i64.wrap ((logAt n : Int) + (used : Int)) = (logAt n : Int) + (used : Int) := by rw [IntKind.wrap_i64]; omega
  have hwr2 : IntKind.i64.wrap ((logAt n : Int) + ((used : Int) + (pn tx : Int))) = (logAt n : Int) + ((used : Int) + (pn tx : Int)) := by rw [IntKind.wrap_i64]; omega
  have hzr := row_zero
  have hul := Tryd.underlying64
  have hS6 : Blk w5.drew gj 67 (jcells n g gen vs vt used false) ∧ True := ⟨J5.out, trivial⟩
  refine any_beginL (fun w' => Blk w' gj 67 (jcells n g gen vs vt used false) ∧ True) 99 (by kernel_rfl) ?_
  refine S_take (i := 0) (v := .pointer (some ⟨gj, 0, none⟩)) rfl rfl (by kernel_rfl) (by kernel_rfl) (by kernel_rfl) (fun _ _ _ h => h) (Or.inl ⟨by rfl, fun w hw => by kernel_rfl⟩) hS6 ?_
  simp only [Act.put, List.getElem_toArray, List.getElem_cons_succ, List.getElem_cons_zero, List.setIfInBounds_toArray, List.set_cons_zero, List.set_cons_succ]
  refine S_take (i := 1) (v := .pointer (some ⟨gj, 0, none⟩)) rfl rfl (by kernel_rfl) (by kernel_rfl) (by kernel_rfl) (fun _ _ _ h => h) (Or.inl ⟨by rfl, fun w hw => by kernel_rfl⟩) hS6 ?_
  simp only [Act.put, List.getElem_toArray, List.getElem_cons_succ, List.getElem_cons_zero, List.setIfInBounds_toArray, List.set_cons_zero, List.set_cons_succ]
  refine S_take (i := 2) (v := .pointer (some ⟨gj, 0, none⟩)) rfl rfl (by kernel_rfl) (by kernel_rfl) (by kernel_rfl) (fun _ _ _ h => h) (Or.inl ⟨by rfl, fun w hw => by go_simp⟩) hS6 ?_
  simp only [Act.put, List.getElem_toArray, List.getElem_cons_succ, List.getElem_cons_zero, List.setIfInBounds_toArray, List.set_cons_zero, List.set_cons_succ]
  refine S_take (i := 3) (v := .pointer (some ⟨gj, 0, none⟩)) rfl rfl (by kernel_rfl) (by kernel_rfl) (by kernel_rfl) (fun _ _ _ h => h) (Or.inl ⟨by rfl, fun w hw => by kernel_rfl⟩) hS6 ?_
  simp only [Act.put, List.getElem_toArray, List.getElem_cons_succ, List.getElem_cons_zero, List.setIfInBounds_toArray, List.set_cons_zero, List.set_cons_succ]
  refine S_take (i := 4) (v := .agg [.int .i64 (areaOf n), .int .i64 (logOf n)].toArray) rfl rfl (by kernel_rfl) (by kernel_rfl) (by kernel_rfl) (fun _ _ _ h => h) (Or.inl ⟨by rfl, fun w hw => exec_load_mid1 64 (.tmp 53) rfl gj 0 rfl _ _ (layout_range hw.1) hul rfl layout_size⟩) hS6 ?_
  simp only [Act.put, List.getElem_toArray, List.getElem_cons_succ, List.getElem_cons_zero, List.setIfInBounds_toArray, List.set_cons_zero, List.set_cons_succ]
  refine S_take (i := 6) (v := .pointer (some ⟨gj, 0, none⟩)) rfl rfl (by kernel_rfl) (by kernel_rfl) (by kernel_rfl) (fun _ _ _ h => h) (Or.inl ⟨by rfl, fun w hw => by kernel_rfl⟩) hS6 ?_
  simp only [Act.put, List.getElem_toArray, List.getElem_cons_succ, List.getElem_cons_zero, List.setIfInBounds_toArray, List.set_cons_zero, List.set_cons_succ]
  refine S_take (i := 7) (v := .pointer (some ⟨gj, 0, none⟩)) rfl rfl (by kernel_rfl) (by kernel_rfl) (by kernel_rfl) (fun _ _ _ h => h) (Or.inl ⟨by rfl, fun w hw => by go_simp⟩) hS6 ?_
  simp only [Act.put, List.getElem_toArray, List.getElem_cons_succ, List.getElem_cons_zero, List.setIfInBounds_toArray, List.set_cons_zero, List.set_cons_succ]
  refine S_take (i := 8) (v := .pointer (some ⟨gj, 6, none⟩)) rfl rfl (by kernel_rfl) (by kernel_rfl) (by kernel_rfl) (fun _ _ _ h => h) (Or.inl ⟨by rfl, fun w hw => by kernel_rfl⟩) hS6 ?_
  simp only [Act.put, List.getElem_toArray, List.getElem_cons_succ, List.getElem_cons_zero, List.setIfInBounds_toArray, List.set_cons_zero, List.set_cons_succ]
  refine S_take (i := 9) (v := .int .i64 used) rfl rfl (by kernel_rfl) (by kernel_rfl) (by kernel_rfl) (fun _ _ _ h => h) (Or.inl ⟨by rfl, fun w hw => by have q : w.cell? ⟨_, 6, none⟩ = some (.int .i64 used) := hw.1.cell 6; go_simp⟩) hS6 ?_
  simp only [Act.put, List.getElem_toArray, List.getElem_cons_succ, List.getElem_cons_zero, List.setIfInBounds_toArray, List.set_cons_zero, List.set_cons_succ]
  refine S_take (i := 11) (v := .slice As (pn tx) cs) rfl rfl (by kernel_rfl) (by kernel_rfl) (by kernel_rfl) (fun _ _ _ h => h) (Or.inl ⟨by rfl, fun w hw => by kernel_rfl⟩) hS6 ?_
  simp only [Act.put, List.getElem_toArray, List.getElem_cons_succ, List.getElem_cons_zero, List.setIfInBounds_toArray, List.set_cons_zero, List.set_cons_succ]
  refine S_take (i := 13) (v := .pointer (some ⟨gj, 0, none⟩)) rfl rfl (by kernel_rfl) (by kernel_rfl) (by kernel_rfl) (fun _ _ _ h => h) (Or.inl ⟨by rfl, fun w hw => by kernel_rfl⟩) hS6 ?_
  simp only [Act.put, List.getElem_toArray, List.getElem_cons_succ, List.getElem_cons_zero, List.setIfInBounds_toArray, List.set_cons_zero, List.set_cons_succ]
  refine S_take (i := 14) (v := .pointer (some ⟨gj, 0, none⟩)) rfl rfl (by kernel_rfl) (by kernel_rfl) (by kernel_rfl) (fun _ _ _ h => h) (Or.inl ⟨by rfl, fun w hw => by go_simp⟩) hS6 ?_
  simp only [Act.put, List.getElem_toArray, List.getElem_cons_succ, List.getElem_cons_zero, List.setIfInBounds_toArray, List.set_cons_zero, List.set_cons_succ]
  refine S_take (i := 15) (v := .pointer (some ⟨gj, 0, none⟩)) rfl rfl (by kernel_rfl) (by kernel_rfl) (by kernel_rfl) (fun _ _ _ h => h) (Or.inl ⟨by rfl, fun w hw => by kernel_rfl⟩) hS6 ?_
  simp only [Act.put, List.getElem_toArray, List.getElem_cons_succ, List.getElem_cons_zero, List.setIfInBounds_toArray, List.set_cons_zero, List.set_cons_succ]
  refine S_take (i := 16) (v := .agg [.int .i64 (areaOf n), .int .i64 (logOf n)].toArray) rfl rfl (by kernel_rfl) (by kernel_rfl) (by kernel_rfl) (fun _ _ _ h => h) (Or.inl ⟨by rfl, fun w hw => exec_load_mid1 64 (.tmp 65) rfl gj 0 rfl _ _ (layout_range hw.1) hul rfl layout_size⟩) hS6 ?_
  simp only [Act.put, List.getElem_toArray, List.getElem_cons_succ, List.getElem_cons_zero, List.setIfInBounds_toArray, List.set_cons_zero, List.set_cons_succ]
  refine S_take (i := 18) (v := .int .i64 ((used : Int) + (pn tx : Int))) rfl rfl (by kernel_rfl) (by kernel_rfl) (by kernel_rfl) (fun _ _ _ h => h) (Or.inl ⟨by rfl, fun w hw => by kernel_rfl⟩) hS6 ?_
  simp only [Act.put, List.getElem_toArray, List.getElem_cons_succ, List.getElem_cons_zero, List.setIfInBounds_toArray, List.set_cons_zero, List.set_cons_succ]
  refine S_take (i := 20) (v := .slice At 1 ct) rfl rfl (by kernel_rfl) (by kernel_rfl) (by kernel_rfl) (fun _ _ _ h => h) (Or.inl ⟨by rfl, fun w hw => by kernel_rfl⟩) hS6 ?_
  simp only [Act.put, List.getElem_toArray, List.getElem_cons_succ, List.getElem_cons_zero, List.setIfInBounds_toArray, List.set_cons_zero, List.set_cons_succ]
  refine L_one (j := 5) (by kernel_rfl) rfl (by rfl) ?_
  simp only [Act.put, List.getElem_toArray, List.getElem_cons_succ, List.getElem_cons_zero, List.setIfInBounds_toArray, List.set_cons_zero, List.set_cons_succ]
  refine wp_called (by kernel_rfl) (logAt_any n w5.drew hn) ?_
  rintro e w6 ⟨rfl, b6'⟩
  have b6 := below_drew' b6'
  have hS7 : Blk w6 gj 67 (jcells n g gen vs vt used false) ∧ Below w.heap.size w w6 := ⟨J5.out.below b6 J5.out.lt, B5.out.trans (b6.mono B5.out.size)⟩
  have hS7' : Blk w6 gj 67 (jcells n g gen vs vt used false) ∧ True := ⟨hS7.1, trivial⟩
  refine ⟨_, rfl, hS7', ?_⟩
  simp only [Act.put, List.getElem_toArray, List.getElem_cons_succ, List.getElem_cons_zero, List.setIfInBounds_toArray, List.set_cons_zero, List.set_cons_succ]
  refine S_take (i := 10) (v := .int .i64 ((logAt n : Int) + (used : Int))) rfl rfl (by kernel_rfl) (by kernel_rfl) (by kernel_rfl) (fun _ _ _ h => h) (Or.inl ⟨by rfl, fun w hw => by go_simp⟩) hS7' ?_
  simp only [Act.put, List.getElem_toArray, List.getElem_cons_succ, List.getElem_cons_zero, List.setIfInBounds_toArray, List.set_cons_zero, List.set_cons_succ]
  refine S_take (i := 12) (v := .agg #[.int .i64 ((logAt n : Int) + (used : Int)), .slice As (pn tx) cs]) rfl rfl (by kernel_rfl) (by kernel_rfl) (by kernel_rfl) (fun _ _ _ h => h) (Or.inl ⟨by rfl, fun w hw => by have q := hzr w; go_simp⟩) hS7' ?_
  simp only [Act.put, List.getElem_toArray, List.getElem_cons_succ, List.getElem_cons_zero, List.setIfInBounds_toArray, List.set_cons_zero, List.set_cons_succ]
  refine L_one (j := 17) (by kernel_rfl) rfl (by rfl) ?_
  simp only [Act.put, List.getElem_toArray, List.getElem_cons_succ, List.getElem_cons_zero, List.setIfInBounds_toArray, List.set_cons_zero, List.set_cons_succ]
  refine wp_called (by kernel_rfl) (logAt_any n w6 hn) ?_
  rintro e w7 ⟨rfl, b7⟩
  have hS8 : Blk w7 gj 67 (jcells n g gen vs vt used false) ∧ Below w.heap.size w w7 := ⟨hS7.1.below b7 hS7.1.lt, hS7.2.trans (b7.mono hS7.2.size)⟩
  have hS8' : Blk w7 gj 67 (jcells n g gen vs vt used false) ∧ True := ⟨hS8.1, trivial⟩
  refine ⟨_, rfl, hS8', ?_⟩
  simp only [Act.put, List.getElem_toArray, List.getElem_cons_succ, List.getElem_cons_zero, List.setIfInBounds_toArray, List.set_cons_zero, List.set_cons_succ]
  refine S_take (i := 19) (v := .int .i64 ((logAt n : Int) + ((used : Int) + (pn tx : Int)))) rfl rfl (by kernel_rfl) (by kernel_rfl) (by kernel_rfl) (fun _ _ _ h => h) (Or.inl ⟨by rfl, fun w hw => by go_simp⟩) hS8' ?_
  simp only [Act.put, List.getElem_toArray, List.getElem_cons_succ, List.getElem_cons_zero, List.setIfInBounds_toArray, List.set_cons_zero, List.set_cons_succ]
  refine S_take (i := 21) (v := .agg #[.int .i64 ((logAt n : Int) + ((used : Int) + (pn tx : Int))), .slice At 1 ct]) rfl rfl (by kernel_rfl) (by kernel_rfl) (by kernel_rfl) (fun _ _ _ h => h) (Or.inl ⟨by rfl, fun w hw => by have q := hzr w; go_simp⟩) hS8' ?_
  simp only [Act.put, List.getElem_toArray, List.getElem_cons_succ, List.getElem_cons_zero, List.setIfInBounds_toArray, List.set_cons_zero, List.set_cons_succ]
  refine L_one (j := 22) (by kernel_rfl) rfl (by rfl) ?_
  simp only [Act.put, List.getElem_toArray, List.getElem_cons_succ, List.getElem_cons_zero, List.setIfInBounds_toArray, List.set_cons_zero, List.set_cons_succ]
  refine wp_ran (v := .slice (some ⟨w7.heap.size, 0, none⟩) 2 2) (w' := w7.alloc (.cells #[.int .i64 ((logAt n : Int) + (used : Int)), .slice As (pn tx) cs, .int .i64 ((logAt n : Int) + ((used : Int) + (pn tx : Int))), .slice At 1 ct] 71)) (by have q := hzr w7; go_simp) ?_
  have hcells : (#[.int .i64 ((logAt n : Int) + (used : Int)), .slice As (pn tx) cs, .int .i64 ((logAt n : Int) + ((used : Int) + (pn tx : Int))), .slice At 1 ct] : Array Value) = (([⟨logAt n + used, As, cs, bodyS 3 gen used tx⟩, ⟨logAt n + (used + pn tx), At, ct, endS gen (used + pn tx) (pn tx)⟩] : List RowV).flatMap RowV.cs).toArray := by
    simp [RowV.cs, body_len, endS]
  rw [hcells]
  have b67 := b6.trans (b7.mono b6.size)
  have RW7 := (row_of RW5.out fun x hx => b67.block x (row_under RW5.out x hx)).alloc (.cells (([⟨logAt n + used, As, cs, bodyS 3 gen used tx⟩, ⟨logAt n + (used + pn tx), At, ct, endS gen (used + pn tx) (pn tx)⟩] : List RowV).flatMap RowV.cs).toArray 71)
  have RT7 := (row_of RT5.out fun x hx => b67.block x (row_under RT5.out x hx)).alloc (.cells (([⟨logAt n + used, As, cs, bodyS 3 gen used tx⟩, ⟨logAt n + (used + pn tx), At, ct, endS gen (used + pn tx) (pn tx)⟩] : List RowV).flatMap RowV.cs).toArray 71)
  have J8 := hS8.1.alloc (.cells (([⟨logAt n + used, As, cs, bodyS 3 gen used tx⟩, ⟨logAt n + (used + pn tx), At, ct, endS gen (used + pn tx) (pn tx)⟩] : List RowV).flatMap RowV.cs).toArray 71)
  have B8 := hS8.2.alloc hS8.2.size (.cells (([⟨logAt n + used, As, cs, bodyS 3 gen used tx⟩, ⟨logAt n + (used + pn tx), At, ct, endS gen (used + pn tx) (pn tx)⟩] : List RowV).flatMap RowV.cs).toArray 71)
  have hrr := Reads.newN w7 (([⟨logAt n + used, As, cs, bodyS 3 gen used tx⟩, ⟨logAt n + (used + pn tx), At, ct, endS gen (used + pn tx) (pn tx)⟩] : List RowV).flatMap RowV.cs) 2 2 71 (0, 0) rfl
  refine ⟨⟨J8, trivial⟩, ?_⟩
  have hs7 := hS8.2.size
  have hw78 : (w7.alloc (.cells (([⟨logAt n + used, As, cs, bodyS 3 gen used tx⟩, ⟨logAt n + (used + pn tx), At, ct, endS gen (used + pn tx) (pn tx)⟩] : List RowV).flatMap RowV.cs).toArray 71)).heap.size = w7.heap.size + 1 := by simp
  generalize hwx : w7.alloc (.cells (([⟨logAt n + used, As, cs, bodyS 3 gen used tx⟩, ⟨logAt n + (used + pn tx), At, ct, endS gen (used + pn tx) (pn tx)⟩] : List RowV).flatMap RowV.cs).toArray 71) = wx at *
  generalize hg7 : w7.heap.size = g7 at *
  simp only [Act.put, List.getElem_toArray, List.getElem_cons_succ, List.getElem_cons_zero, List.setIfInBounds_toArray, List.set_cons_zero, List.set_cons_succ]
  have hX' : ∀ k ∈ g7 :: (blkOf As ++ blkOf At), w.heap.size ≤ k ∧ k < wx.heap.size := fun k hk => by
    simp only [List.mem_cons, List.mem_append] at hk
    rcases hk with rfl | hk | hk
    · omega
    · have := own_blk_in RW7 k hk; omega
    · have := own_blk_in RT7 k hk; omega
  have H7 := H.out.more B8 hX'
  obtain ⟨ho1, ho2⟩ := jadd_rows HOK.out As At cs ct
  have hfar : Far d (stepsOf ([⟨logAt n + used, As, cs, bodyS 3 gen used tx⟩, ⟨logAt n + (used + pn tx), At, ct, endS gen (used + pn tx) (pn tx)⟩] : List RowV)) := hf.less (by simp [stepsOf, body_len, endS])
  have hrows : ∀ r ∈ ([⟨logAt n + used, As, cs, bodyS 3 gen used tx⟩, ⟨logAt n + (used + pn tx), At, ct, endS gen (used + pn tx) (pn tx)⟩] : List RowV), (∀ k ∈ blkOf r.A, k ∈ g7 :: (blkOf As ++ blkOf At) ++ X) ∧ Reads wx wx.heap.size 128 r.A r.ss.length (r.ss.flatMap Sec.cs) ∧ r.at_ + r.ss.length ≤ 1000000 := by
    intro r hr
    simp only [List.mem_cons, List.not_mem_nil, or_false] at hr
    rcases hr with rfl | rfl
    · refine ⟨fun k hk => by simp [show k ∈ blkOf As from hk], ?_, ?_⟩
      · show Reads _ _ 128 As (bodyS 3 gen used tx).length _
        rw [body_len]
        exact Reads.of_own RW7
      · show logAt n + used + (bodyS 3 gen used tx).length ≤ _
        rw [body_len]; omega
    · refine ⟨fun k hk => by simp [show k ∈ blkOf At from hk], Reads.of_own RT7, ?_⟩
      show logAt n + (used + pn tx) + 1 ≤ _
      omega
  refine L_one (j := 23) (by kernel_rfl) rfl (by rfl) ?_
  simp only [Act.put, List.getElem_toArray, List.getElem_cons_succ, List.getElem_cons_zero, List.setIfInBounds_toArray, List.set_cons_zero, List.set_cons_succ]
  refine wp_called (by kernel_rfl) (write_good H7 _ J8 rfl (by simp [hgj]) (some ⟨g7, 0, none⟩) 2 ([⟨logAt n + used, As, cs, bodyS 3 gen used tx⟩, ⟨logAt n + (used + pn tx), At, ct, endS gen (used + pn tx) (pn tx)⟩] : List RowV) (fun k hk => by simp [blkOf] at hk; simp [hk]) (hrr.more (by omega)) hrows hfar (by simp) ho1) ?_
  rintro e w8 ⟨rfl, h8, k8⟩
  rw [ho2] at h8
  have h8x := h8.mono (Y := X) (fun k hk => List.mem_append_right _ hk)
  have hk8 : Keep X wx w8 := Keep.mono k8 (fun k hk => List.mem_append_right _ hk)
  have J9 := hk8.blk hgj J8
  have hkx : ∀ k ∈ X, w8.heap[k]? = w.heap[k]? := fun k hk => (hk8.2 k hk).trans (B8.block k (HX.out k hk))
  have hsz8 : w.heap.size ≤ w8.heap.size := Nat.le_trans B8.size hk8.1
  have hS9 : Blk w8 gj 67 (jcells n g gen vs vt used false) ∧ True := ⟨J9, trivial⟩
  refine ⟨_, rfl, hS9, ?_⟩
  simp only [Act.put, List.getElem_toArray, List.getElem_cons_succ, List.getElem_cons_zero, List.setIfInBounds_toArray, List.set_cons_zero, List.set_cons_succ]
  refine L_one (j := 24) (by kernel_rfl) rfl (by rfl) ?_
  simp only [Act.put, List.getElem_toArray, List.getElem_cons_succ, List.getElem_cons_zero, List.setIfInBounds_toArray, List.set_cons_zero, List.set_cons_succ]
  refine wp_yields (v := .nilIface) (by kernel_rfl) ⟨hS9, ?_⟩
  simp only [Act.put, List.getElem_toArray, List.getElem_cons_succ, List.getElem_cons_zero, List.setIfInBounds_toArray, List.set_cons_zero, List.set_cons_succ]
  refine L_done (by kernel_rfl) ?_
  refine NoPanic.normal ?_
  have H8 := Lib.hid h8x
  have J9 := Lib.hid J9
  have HKX := Lib.hid hkx
  have HSS := Lib.hid (show Bytes w8 w8.heap.size A tx.length tx from ⟨HS.out.1.blk (fun k hk => hkx k (hAx k hk)) hsz8, HS.out.2⟩)
  have HUU := Lib.hid (row_of HU.out (w' := w8) (fun k hk => hkx k (hvt k hk)))
  clear hS6 hS7 hS7' hS8 hS8' hS9 h8 h8x k8 hk8 hkx J8 B8 H7 hrows hrr hX' RW7 RT7 hcells b67 b6 b6' b7 J5 B5 RW5 RT5 ho1 ho2 hfar
  go_wp2
  have hS1 : Blk w8.drew gj 67 (jcells n g gen vs vt used false) ∧ True := ⟨J9.out, trivial⟩
  refine any_beginL (fun w' => Blk w' gj 67 (jcells n g gen vs vt used false) ∧ True) 11 (by kernel_rfl) ?_
  refine L_take (i := 0) (v := .pointer (some ⟨gj, 0, none⟩)) rfl rfl (by kernel_rfl) (by kernel_rfl) (by kernel_rfl) (by kernel_rfl) (fun _ _ _ h => h) (Or.inl ⟨by rfl, fun w hw => by kernel_rfl⟩) hS1 ?_
  simp only [Act.put, List.getElem_toArray, List.getElem_cons_succ, List.getElem_cons_zero, List.setIfInBounds_toArray, List.set_cons_zero, List.set_cons_succ]
  refine L_take (i := 1) (v := .pointer (some ⟨gj, 0, none⟩)) rfl rfl (by kernel_rfl) (by kernel_rfl) (by kernel_rfl) (by kernel_rfl) (fun _ _ _ h => h) (Or.inl ⟨by rfl, fun w hw => by kernel_rfl⟩) hS1 ?_
  simp only [Act.put, List.getElem_toArray, List.getElem_cons_succ, List.getElem_cons_zero, List.setIfInBounds_toArray, List.set_cons_zero, List.set_cons_succ]
  refine L_take (i := 2) (v := .pointer (some ⟨gj, 0, none⟩)) rfl rfl (by kernel_rfl) (by kernel_rfl) (by kernel_rfl) (by kernel_rfl) (fun _ _ _ h => h) (Or.inl ⟨by rfl, fun w hw => by go_simp⟩) hS1 ?_
  simp only [Act.put, List.getElem_toArray, List.getElem_cons_succ, List.getElem_cons_zero, List.setIfInBounds_toArray, List.set_cons_zero, List.set_cons_succ]
  refine L_take (i := 3) (v := .pointer (some ⟨gj, 5, none⟩)) rfl rfl (by kernel_rfl) (by kernel_rfl) (by kernel_rfl) (by kernel_rfl) (fun _ _ _ h => h) (Or.inl ⟨by rfl, fun w hw => by kernel_rfl⟩) hS1 ?_
  simp only [Act.put, List.getElem_toArray, List.getElem_cons_succ, List.getElem_cons_zero, List.setIfInBounds_toArray, List.set_cons_zero, List.set_cons_succ]
  refine L_take (i := 4) (v := vt) rfl rfl (by kernel_rfl) (by kernel_rfl) (by kernel_rfl) (by kernel_rfl) (fun _ _ _ h => h) (Or.inl ⟨by rfl, fun w hw => by have q : w.cell? ⟨_, 5, none⟩ = some vt := hw.1.cell 5; go_simp⟩) hS1 ?_
  simp only [Act.put, List.getElem_toArray, List.getElem_cons_succ, List.getElem_cons_zero, List.setIfInBounds_toArray, List.set_cons_zero, List.set_cons_succ]
  refine L_take (i := 5) (v := .slice A tx.length c) rfl rfl (by kernel_rfl) (by kernel_rfl) (by kernel_rfl) (by kernel_rfl) (fun _ _ _ h => h) (Or.inl ⟨by rfl, fun w hw => by kernel_rfl⟩) hS1 ?_
  simp only [Act.put, List.getElem_toArray, List.getElem_cons_succ, List.getElem_cons_zero, List.setIfInBounds_toArray, List.set_cons_zero, List.set_cons_succ]
  refine L_one (j := 6) (by kernel_rfl) rfl (by rfl) ?_
  simp only [Act.put, List.getElem_toArray, List.getElem_cons_succ, List.getElem_cons_zero, List.setIfInBounds_toArray, List.set_cons_zero, List.set_cons_succ]
  refine wp_called (by kernel_rfl) (clone_any A tx.length c tx w8.drew _ (by omega) HSS.out) ?_
  rintro e w9 ⟨v, rfl, hown, b9'⟩
  have b9 := below_drew' b9'
  obtain ⟨B, cc, rfl⟩ := slice_of hown
  have J10 := J9.out.below b9 J9.out.lt
  refine ⟨_, rfl, ⟨J10, trivial⟩, ?_⟩
  simp only [Act.put, List.getElem_toArray, List.getElem_cons_succ, List.getElem_cons_zero, List.setIfInBounds_toArray, List.set_cons_zero, List.set_cons_succ]
  refine L_one (j := 7) (by kernel_rfl) rfl (by rfl) ?_
  simp only [Act.put, List.getElem_toArray, List.getElem_cons_succ, List.getElem_cons_zero, List.setIfInBounds_toArray, List.set_cons_zero, List.set_cons_succ]
  refine wp_ran (v := .slice (some ⟨w9.heap.size, 0, none⟩) 1 1) (w' := w9.alloc (.cells #[.slice B tx.length cc] 34)) (by go_simp) ?_
  have J11 := J10.alloc (.cells #[.slice B tx.length cc] 34)
  have hrc := Reads.new w9 [.slice B tx.length cc] 34 (0, 0)
  have hown' := hown.alloc (.cells #[.slice B tx.length cc] 34)
  have hU2 := (row_of HUU.out (w' := w9) (fun k hk => b9.block k (row_under HUU.out k hk))).alloc (.cells #[.slice B tx.length cc] 34)
  have H10 := (H8.out.more b9 (own_blk_in hown)).below ((Below.refl _ _).alloc (Nat.le_refl _) (.cells #[.slice B tx.length cc] 34))
  refine ⟨⟨J11, trivial⟩, ?_⟩
  simp only [Act.put, List.getElem_toArray, List.getElem_cons_succ, List.getElem_cons_zero, List.setIfInBounds_toArray, List.set_cons_zero, List.set_cons_succ]
  refine L_one (j := 8) (by kernel_rfl) rfl (by rfl) ?_
  simp only [Act.put, List.getElem_toArray, List.getElem_cons_succ, List.getElem_cons_zero, List.setIfInBounds_toArray, List.set_cons_zero, List.set_cons_succ]
  obtain ⟨iy, hiy0, hiy1, hiy2, hiy3⟩ := info_parts bytes_info1
  refine wp_append_any _ (.tmp 81) (.tmp 84) 36 rfl w0.heap.size 34 iy _ 1 24 Tryd.underlying36 hiy0 hiy1 hiy2 hiy3 rfl (by omega) vt nt us rfl hU2 _ (some ⟨w9.heap.size, 0, none⟩) 1 1 [.slice B tx.length cc] rfl hrc (fun u hu => by simp at hu; subst hu; rfl) (by simp only [maxLen]; omega) (by omega) (by have := H10.size; exact this) ?_
  intro v2 w11 hU3 hgr hat
  obtain ⟨A2, c2, rfl⟩ := slice_of hU3
  have J12 := J11.grown hgr (Ne.symm (own_blk_ne hU2 J11 (by decide)))
  have H11 := H10.appended hgr (fun k hk => List.mem_append_right _ (hvt k (mem_rowOf.2 hk))) (fun k hk => (World.ownsRow.lt hU2 k hk).1) hat (fun k hk => (World.ownsRow.lt hU3 k hk).2)
  have HAT := Lib.hid hat
  clear hat
  refine ⟨⟨J12, trivial⟩, ?_⟩
  simp only [Act.put, List.getElem_toArray, List.getElem_cons_succ, List.getElem_cons_zero, List.setIfInBounds_toArray, List.set_cons_zero, List.set_cons_succ]
  refine L_one (j := 9) (by kernel_rfl) rfl (by rfl) ?_
  simp only [Act.put, List.getElem_toArray, List.getElem_cons_succ, List.getElem_cons_zero, List.setIfInBounds_toArray, List.set_cons_zero, List.set_cons_succ]
  refine wp_ran (v := .pointer (some ⟨gj, 0, none⟩)) (w' := w11) (by go_simp) ⟨⟨J12, trivial⟩, ?_⟩
  simp only [Act.put, List.getElem_toArray, List.getElem_cons_succ, List.getElem_cons_zero, List.setIfInBounds_toArray, List.set_cons_zero, List.set_cons_succ]
  refine L_one (j := 10) (by kernel_rfl) rfl (by rfl) ?_
  simp only [Act.put, List.getElem_toArray, List.getElem_cons_succ, List.getElem_cons_zero, List.setIfInBounds_toArray, List.set_cons_zero, List.set_cons_succ]
  refine wp_ran (v := .pointer (some ⟨gj, 5, none⟩)) (w' := w11) (by kernel_rfl) ⟨⟨J12, trivial⟩, ?_⟩
  simp only [Act.put, List.getElem_toArray, List.getElem_cons_succ, List.getElem_cons_zero, List.setIfInBounds_toArray, List.set_cons_zero, List.set_cons_succ]
  refine L_last (by kernel_rfl) rfl (by rfl) (by kernel_rfl) ?_
  simp only [Act.put, List.getElem_toArray, List.getElem_cons_succ, List.getElem_cons_zero, List.setIfInBounds_toArray, List.set_cons_zero, List.set_cons_succ]
  refine wp_set_blk1 36 (.tmp 87) (.tmp 85) (by rfl) gj 5 67 _ (.slice A2 (nt + 1) c2) (by rfl) (by rfl) J12 (by simp [jcells]) (by kernel_rfl) rfl ?_
  intro w12 hJ12 ho12 hs12
  refine NoPanic.normal ?_
  have hJ12' := Lib.hid hJ12
  have q6 : w12.cell? ⟨gj, 6, none⟩ = some (.int .i64 used) := (hJ12.cell 6).trans (by simp [jcells])
  have hwr3 : IntKind.i64.wrap ((used : Int) + (pn tx : Int) + 1) = (used : Int) + (pn tx : Int) + 1 := by rw [IntKind.wrap_i64]; omega
  have H11 := Lib.hid H11
  have hU3 := Lib.hid hU3
  have HG := Lib.hid hgr
  have HOW := Lib.hid hown'
  have HB9 := Lib.hid b9
  have hlt8 := J9.out.lt
  have hlt12 := J12.lt
  have hne : (Value.slice A2 (nt + 1) c2).ownBlock ≠ some gj := own_blk_ne hU3.out J12 (by decide)
  have hBb := own_blk_in hown
  have hvtb : ∀ k, vt.ownBlock = some k → k ∈ rowOf vt := fun k hk => mem_rowOf.2 hk
  clear hgr hown' b9 b9' J10 J11 J12 hrc hU2 H10 hS1 hiy0 hiy1 hiy2 hiy3 hJ12 q6
  go_wp2_with (first
    | (refine wpList_set_blk1 rfl 3 (.tmp 92) (.tmp 90) rfl gj 6 67 _ (.int .i64 ((used : Int) + (pn tx : Int) + 1)) rfl rfl hJ12'.out (by simp [jcells]) (by kernel_rfl) rfl ?_; intro w13 hJ13 ho13 hs13))
  go_ret
  have hon : Only [gj] w11 w13 := ho12.trans ho13 (Fresh.refl _ _)
  have hdr : w8.drew.heap.size = w8.heap.size := rfl
  have hgA : w9.heap.size + 1 = (w9.alloc (.cells #[.slice B tx.length cc] 34)).heap.size := by simp
  refine ⟨.slice A2 (nt + 1) c2, B, cc, rfl, ?_, ?_, ?_, ?_, ?_, ?_, ?_⟩
  · exact ((H11.out.kept (j := gj) (by simp [hgj]) hon hgj0).mono (fun k hk => by simp only [List.mem_append] at hk ⊢; rcases hk with hk | hk | hk <;> simp [hk]))
  · have e : ((used + pn tx + 1 : Nat) : Int) = (used : Int) + (pn tx : Int) + 1 := by omega
    unfold jcells
    rw [e]
    simpa [jcells] using hJ13
  · exact row_of hU3.out (fun k hk => hon.block k (row_under hU3.out k hk) (by simp; rintro rfl; exact hne (mem_rowOf.1 hk)))
  · have hrb : ∀ k ∈ rowOf (Value.slice B tx.length cc), w13.heap[k]? = (w9.alloc (.cells #[.slice B tx.length cc] 34)).heap[k]? := fun k hk => by
      have h1 := row_over HOW.out k hk
      have h2 := row_under HOW.out k hk
      have h3 : k ∉ rowOf vt := fun hm => by have := HX.out k (hvt k hm); omega
      rw [hon.block k (Nat.lt_of_lt_of_le h2 HG.out.size) (by simp; omega)]
      exact HG.out.block k h2 (fun e => h3 (mem_rowOf.2 e.symm))
    exact row_weaken (row_of HOW.out hrb) hsz8
  · intro k hk hne1 hne2
    have hk1 := HX.out k hk
    have hk8 : k < w8.heap.size := Nat.lt_of_lt_of_le hk1 hsz8
    have hk9 : k < w9.heap.size := Nat.lt_of_lt_of_le hk8 HB9.out.size
    rw [hon.block k (Nat.lt_of_lt_of_le (by omega) HG.out.size) (by simpa using hne1), HG.out.block k (by omega) (fun e => hne2 (mem_rowOf.2 e.symm)), Below.heap_alloc _ _ _ hk9, HB9.out.block k hk8]
    exact HKX.out k hk
  · have h1 := HG.out.size
    have h2 := hon.size
    have h3 := HB9.out.size
    omega
  · intro k hk
    have h1 := HAT.out
    have h2 := mem_rowOf.1 hk
    have h3 := HB9.out.size
    rcases h1 with e | e
    · exact .inl (mem_rowOf.2 (e.symm.trans h2))
    · right
      have e2 := e.symm.trans h2
      injection e2 with e2
      omega
end Go.Proofs.YtpklcmocjimcpaaDoor

/-
  A journal's Append where nothing fails; what it tells of itself. Conditions: all lies where it is said to; small numbers.
-/
namespace Go.Proofs.YtpklcmocjimcpaaDoor
open Go.RowKit
set_option maxRecDepth 100000
set_option linter.unusedSimpArgs false
set_option linter.unusedVariables false
/-- how many parts so many bytes have -/
def pnN (m : Nat) : Nat := (m + 105) / 106
section
variable {w : World} {g gj n gen used : Nat} {vs vt : Value} {stuck : Bool}
theorem ready_good (hJ : Blk w gj 67 (jcells n g gen vs vt used false)) : Calls Tryd.prog 33 #[.pointer (some ⟨gj, 0, none⟩)] w fun e w' => e = .returned .nilIface ∧ w = w' := by
  have q7 : w.cell? ⟨gj, 7, none⟩ = some (.bool false) := hJ.cell 7
  clear hJ
  go_enter Tryd.func33, Tryd.ntmps33
  go_wp2
  go_ret
  exact ⟨rfl, rfl⟩
theorem ready_nil (w : World) : Calls Tryd.prog 33 #[.pointer none] w fun e w' => e = .returned (errV 13) ∧ w = w' := by
  go_enter Tryd.func33, Tryd.ntmps33
  go_wp2
  go_ret
  exact ⟨rfl, rfl⟩
theorem append_nil (v : Value) (w : World) : Calls Tryd.prog 12 #[.pointer none, v] w fun e w' => e = .returned (errV 13) ∧ w = w' := by
  go_enter Tryd.func12, Tryd.ntmps12
  go_wp2_with fail
  refine (ready_nil w).mono ?_
  rintro e w' ⟨rfl, rfl⟩
  simp only [errV]
  go_wp2
  go_ret
  exact ⟨rfl, rfl⟩
theorem checkpoint_nil (v : Value) (w : World) : Calls Tryd.prog 13 #[.pointer none, v] w fun e w' => e = .returned (errV 13) ∧ w = w' := by
  go_enter Tryd.func13, Tryd.ntmps13
  go_wp2_with fail
  refine (ready_nil w).mono ?_
  rintro e w' ⟨rfl, rfl⟩
  simp only [errV]
  go_wp2
  go_ret
  exact ⟨rfl, rfl⟩
theorem jlen_nil (w : World) : Calls Tryd.prog 25 #[.pointer none] w fun e w' => e = .returned (.int .i64 0) ∧ w = w' := by
  go_enter Tryd.func25, Tryd.ntmps25
  go_wp2
  go_ret
  exact ⟨rfl, rfl⟩
theorem jgen_nil (w : World) : Calls Tryd.prog 21 #[.pointer none] w fun e w' => e = .returned (.int .i64 0) ∧ w = w' := by
  go_enter Tryd.func21, Tryd.ntmps21
  go_wp2
  go_ret
  exact ⟨rfl, rfl⟩
theorem jroom_nil (w : World) : Calls Tryd.prog 22 #[.pointer none] w fun e w' => e = .returned (.int .i64 0) ∧ w = w' := by
  go_enter Tryd.func22, Tryd.ntmps22
  go_wp2
  go_ret
  exact ⟨rfl, rfl⟩
theorem jstate_nil (w : World) : Calls Tryd.prog 18 #[.pointer none] w fun e w' => e = .returned (.slice none 0 0) ∧ w = w' := by
  go_enter Tryd.func18, Tryd.ntmps18
  go_wp2
  go_ret
  exact ⟨rfl, rfl⟩
theorem jgen_any (hJ : Blk w gj 67 (jcells n g gen vs vt used stuck)) : Calls Tryd.prog 21 #[.pointer (some ⟨gj, 0, none⟩)] w fun e w' => e = .returned (.int .i64 gen) ∧ w = w' := by
  have q3 : w.cell? ⟨gj, 3, none⟩ = some (.int .i64 gen) := hJ.cell 3
  clear hJ
  go_enter Tryd.func21, Tryd.ntmps21
  go_wp2
  go_ret
  exact ⟨rfl, rfl⟩
theorem jlen_any {A : Option Addr} {m c : Nat} (hJ : Blk w gj 67 (jcells n g gen vs (.slice A m c) used stuck)) : Calls Tryd.prog 25 #[.pointer (some ⟨gj, 0, none⟩)] w fun e w' => e = .returned (.int .i64 m) ∧ w = w' := by
  have q5 : w.cell? ⟨gj, 5, none⟩ = some (.slice A m c) := hJ.cell 5
  clear hJ
  go_enter Tryd.func25, Tryd.ntmps25
  go_wp2
  go_ret
  exact ⟨rfl, rfl⟩
theorem jroom_any (hJ : Blk w gj 67 (jcells n g gen vs vt used stuck)) (hn : n ≤ 4096) (hu : used ≤ logOf n) : Calls Tryd.prog 22 #[.pointer (some ⟨gj, 0, none⟩)] w fun e w' => e = .returned (.int .i64 (logOf n - used : Nat)) ∧ Below w.heap.size w w' := by
  have q1 : w.cell? ⟨gj, 1, none⟩ = some (.int .i64 (logOf n)) := hJ.cell 1
  have q6 : w.cell? ⟨gj, 6, none⟩ = some (.int .i64 used) := hJ.cell 6
  have hl : logOf n ≤ 4096 := by unfold logOf; omega
  clear hJ
  have hu' : (used : Int) ≤ (logOf n : Int) := by omega
  go_enter Tryd.func22, Tryd.ntmps22
  go_wp2
  go_quiet (fail)
  go_wp2
  go_ret
  exact ⟨ret_int (by omega), below_drewN (Below.refl _ _) _⟩
theorem jstate_any {A : Option Addr} {c : Nat} {st : List Nat} (hJ : Blk w gj 67 (jcells n g gen (.slice A st.length c) vt used stuck)) (hs : Bytes w w.heap.size A st.length st) (hl : st.length ≤ 5000) :
    Calls Tryd.prog 18 #[.pointer (some ⟨gj, 0, none⟩)] w fun e w' => ∃ v, e = .returned v ∧ Own w' w.heap.size v st.length st ∧ Below w.heap.size w w' := by
  have q4 : w.cell? ⟨gj, 4, none⟩ = some (.slice A st.length c) := hJ.cell 4
  clear hJ
  go_enter Tryd.func18, Tryd.ntmps18
  go_wp2_with fail
  refine (clone_any A st.length c st w _ (by omega) hs).mono ?_
  rintro e w1 ⟨v, rfl, hown, hb⟩
  obtain ⟨B, cc, rfl⟩ := slice_of hown
  go_wp2
  go_ret
  exact ⟨_, rfl, hown, hb⟩
end
set_option maxHeartbeats 1000000 in
theorem append_good {w0 w : World} {g gj n gen used : Nat} {vs vt : Value} {d : DM} {X : List Nat} (h : Holds w0 w g d X) (hJ : Blk w gj 67 (jcells n g gen vs vt used false)) (hgj : gj ∈ X) (hgj0 : w0.heap.size ≤ gj) (hn : n ≤ 4096)
    (hgen : gen ≤ 4611686018427387904) (hused : used ≤ logOf n) (A : Option Addr) (c : Nat) (tx : List Nat) (hst : Bytes w w.heap.size A tx.length tx) (hl : tx.length ≤ 5000) (hlc : tx.length ≤ c) (hcm : c ≤ 9223372036854775807) (hne : tx ≠ []) (hfit : pn tx + 1 ≤ logOf n - used)
    (hT : Tab w) (hw0 : 0 < w0.heap.size) (hAx : ∀ k ∈ blkOf A, k ∈ X) (hf : Far d (pn tx + 3)) (hok : (d.app n gen used tx).2 = 0)
    (nt : Nat) (us : List Value) (hus : w.ownsRow w0.heap.size 34 1 vt nt us) (hnt : nt ≤ 100000) (hvt : ∀ k ∈ rowOf vt, k ∈ X) :
    Calls Tryd.prog 12 #[.pointer (some ⟨gj, 0, none⟩), .slice A tx.length c] w fun e w' => ∃ vt' B cc, e = .returned .nilIface ∧ Holds w0 w' g (d.app n gen used tx).1 (blkOf B ++ (rowOf vt' ++ X)) ∧
      Blk w' gj 67 (jcells n g gen vs vt' (used + pn tx + 1) false) ∧ w'.ownsRow w0.heap.size 34 1 vt' (nt + 1) (us ++ [.slice B tx.length cc]) ∧ Own w' w.heap.size (.slice B tx.length cc) tx.length tx ∧
      (∀ k ∈ X, k ≠ gj → k ∉ rowOf vt → w'.heap[k]? = w.heap[k]?) ∧ w.heap.size ≤ w'.heap.size ∧ (∀ k ∈ rowOf vt', k ∈ rowOf vt ∨ w.heap.size ≤ k) := by
  have hlog : logOf n ≤ 4096 := by unfold logOf; omega
  have hpos : 0 < tx.length := List.length_pos_iff.2 hne
  have hd0 : ((tx.length : Int) == 0) = false := by simp; omega
  have hd0' : (tx.length == 0) = false := by simp; omega
  have hnd : needOf tx.length = pn tx + 1 := by unfold needOf; rw [if_neg (by omega)]; rfl
  have hd1 : decide (((logOf n - used : Nat) : Int) < (needOf tx.length : Int)) = false := by simp; omega
  have hd1' : decide (logOf n - used < needOf tx.length) = false := by simp; omega
  have hXl : ∀ k ∈ X, k < w.heap.size := by obtain ⟨F, h1, h2, h3⟩ := h; exact fun k hk => (h3 k hk).2
  have hposw : 0 < w.heap.size := Nat.lt_of_lt_of_le hw0 h.size
  have HADD := Lib.hid (fun (w1 : World) (b1 : Below w.heap.size w w1) => add_good (h.below b1) (hJ.below b1 hJ.lt) hgj hgj0 hn hgen (by omega) A c tx ((hst.below b1).more b1.size) hl hlc hcm (tab_below hT b1 hposw) hw0 hAx hf hok nt us (row_of hus fun x hx => b1.block x (row_under hus x hx)) hnt hvt)
  have HJ := Lib.hid hJ
  clear h hJ hst hT hok hus
  go_enter Tryd.func12, Tryd.ntmps12
  go_wp2_with fail
  refine (ready_good HJ.out).mono ?_
  rintro e w' ⟨rfl, rfl⟩
  go_wp2_with fail
  refine (need_any tx.length w (by omega)).mono ?_
  rintro e w' ⟨rfl, rfl⟩
  go_wp2_with fail
  refine (jroom_any HJ.out hn hused).mono ?_
  rintro e w1 ⟨rfl, b1⟩
  go_wp2_with fail
  refine (HADD.out w1 b1).mono ?_
  rintro e w' ⟨vt', B, cc, rfl, r1, r2, r3, r4, r5, r6, r7⟩
  go_wp2
  go_ret
  exact ⟨vt', B, cc, rfl, r1, r2, r3, row_weaken r4 b1.size, fun k hk h1 h2 => (r5 k hk h1 h2).trans (b1.block k (hXl k hk)), Nat.le_trans b1.size r6, fun k hk => (r7 k hk).imp id (fun h => Nat.le_trans b1.size h)⟩
section
variable {w : World} {g gj n gen used : Nat} {vs vt : Value} {stuck : Bool}
theorem append_empty (hJ : Blk w gj 67 (jcells n g gen vs vt used false)) (A : Option Addr) (c : Nat) : Calls Tryd.prog 12 #[.pointer (some ⟨gj, 0, none⟩), .slice A 0 c] w fun e w' => e = .returned (errV 2) ∧ w = w' := by
  have HJ := Lib.hid hJ
  clear hJ
  go_enter Tryd.func12, Tryd.ntmps12
  go_wp2_with fail
  refine (ready_good HJ.out).mono ?_
  rintro e w' ⟨rfl, rfl⟩
  go_wp2
  go_ret
  exact ⟨rfl, rfl⟩
theorem append_full (hJ : Blk w gj 67 (jcells n g gen vs vt used false)) (hn : n ≤ 4096) (hu : used ≤ logOf n) (A : Option Addr) (m c : Nat) (hm0 : 0 < m) (hm : m ≤ 1000000) (hfull : logOf n - used < pnN m + 1) : Calls Tryd.prog 12 #[.pointer (some ⟨gj, 0, none⟩), .slice A m c] w fun e w' => e = .returned (errV 4) ∧ Below w.heap.size w w' := by
  have HJ := Lib.hid hJ
  clear hJ
  have hd0 : ((m : Int) == 0) = false := by simp; omega
  have hd0' : (m == 0) = false := by simp; omega
  have hnd : needOf m = pnN m + 1 := by unfold needOf; rw [if_neg (by omega)]; rfl
  have hd1 : decide (((logOf n - used : Nat) : Int) < (needOf m : Int)) = true := by simp; omega
  have hd1' : decide (logOf n - used < needOf m) = true := by simp; omega
  go_enter Tryd.func12, Tryd.ntmps12
  go_wp2_with fail
  refine (ready_good HJ.out).mono ?_
  rintro e w' ⟨rfl, rfl⟩
  go_wp2_with fail
  refine (need_any m w (by omega)).mono ?_
  rintro e w' ⟨rfl, rfl⟩
  go_wp2_with fail
  refine (jroom_any HJ.out hn hu).mono ?_
  rintro e w1 ⟨rfl, b1⟩
  go_wp2
  go_ret
  exact ⟨rfl, b1⟩
end
end Go.Proofs.YtpklcmocjimcpaaDoor

/-
  Sectors of a disk, read one behind the other. Conditions: the power is there; there are so many.
-/
namespace Go.Proofs.YtpklcmocjimcpaaDoor
open Go.RowKit
set_option maxRecDepth 100000
set_option linter.unusedSimpArgs false
set_option linter.unusedVariables false
theorem hold_read1 {w0 w : World} {g : Nat} {d : DM} {X : List Nat} (h : Holds w0 w g d X) (i : Int) (hw : d.wait.length ≤ 1000000) :
    Calls Tryd.prog 61 #[.pointer (some ⟨g, 0, none⟩), .int .i64 i] w fun e w' => e = .returned (.tuple #[(d.read i).v, errV (d.readErr i)]) ∧ Below w.heap.size w w' := by
  obtain ⟨F, ⟨gm, v, rfl, h1⟩, h2, h3⟩ := h
  exact read_any w _ g gm v d i h1 hw
/-- the sectors, of which so many are read -/
noncomputable def readRow (d : DM) (a : Nat) (j i : Nat) : Sec := if i < j then d.read ((a : Int) + i) else Sec.zero
theorem readRow_put (d : DM) (a j : Nat) : (fun i => if i = j then d.read ((a : Int) + j) else readRow d a j i) = readRow d a (j + 1) := by
  funext i
  unfold readRow
  by_cases h : i = j
  · subst h; simp
  · rw [if_neg h]
    by_cases h2 : i < j
    · rw [if_pos h2, if_pos (by omega)]
    · rw [if_neg h2, if_neg (by omega)]
set_option maxRecDepth 100000 in
set_option maxHeartbeats 2000000 in
theorem jread_any {w0 w : World} {g : Nat} {d : DM} {X : List Nat} (h : Holds w0 w g d X) (a m : Nat) (hup : d.gone = false) (ham : a + m ≤ d.n) (hdn : d.n ≤ 4096) (hwt : d.wait.length ≤ 1000000) :
    Calls Tryd.prog 51 #[.pointer (some ⟨g, 0, none⟩), .int .i64 a, .int .i64 m] w fun e w' => ∃ v, e = .returned (.tuple #[v, .nilIface]) ∧ w'.ownsRow w.heap.size 90 128 v m (sixCells (readRow d a m) m) ∧ Below w.heap.size w w' := by
  have hm : m ≤ 4096 := by omega
  have H := Lib.hid h
  clear h
  obtain ⟨i0, hi0, hz0, hz1, hz2⟩ := info_parts sec_info
  have hmk : ∀ w, (Instr.makeSlice 69 (.int .i64 m) (.int .i64 m)).run Tryd.prog w = .ok (.slice (some ⟨w.heap.size, 0, none⟩) m m) (w.alloc (.cells ((List.replicate m Sec.zero).flatMap Sec.cs).toArray 90)) := by
    intro w
    have := run_make (P := Tryd.prog) w 69 90 i0 Sec.zero.v Tryd.underlying69 hi0 hz0 .i64 .i64 m m (by omega) (by omega) (by rw [hz2]; omega) (by omega)
    rw [hz1] at this
    simp only [Int.toNat_natCast] at this
    rw [made_zeros] at this
    exact this
  have e0 : (List.replicate m Sec.zero).flatMap Sec.cs = sixCells (readRow d a 0) m := by
    rw [six_flat]
    congr 1
    apply List.ext_getElem?
    intro i
    simp only [List.getElem?_replicate, List.getElem?_map, List.getElem?_range]
    by_cases hi : i < m <;> simp [hi, readRow]
  rw [e0] at hmk
  have hb0 := Lib.hid ((Below.refl w.heap.size w).alloc (Nat.le_refl _) (.cells (sixCells (readRow d a 0) m).toArray 90))
  have hrow0 : (w.alloc (.cells (sixCells (readRow d a 0) m).toArray 90)).ownsRow w.heap.size 90 128 (.slice (some ⟨w.heap.size, 0, none⟩) m m) m (sixCells (readRow d a 0) m) :=
    ⟨six_len _ _, .inr ⟨w.heap.size, m, _, rfl, Nat.le_refl _, Blk.new w _ _, Nat.le_refl _, by simp [maxLen]; omega, by rw [List.size_toArray, six_len], List.take_of_length_le (by rw [List.toList_toArray, six_len]; omega)⟩⟩
  have HROW := Lib.hid hrow0
  clear e0 hrow0 hi0 hz0 hz1 hz2
  obtain ⟨Zs, hz6, hzl⟩ : ∃ Zs : List Value, (∀ w, (zeroValue 90).run Tryd.prog w = .ok (.agg Zs.toArray) w) ∧ Zs.length = 128 := ⟨_, sec_zero, Sec.cs_len _⟩
  have hus := Tryd.underlying90
  have hib : ∀ s : Sec, (Tryd.prog.info? 90).map (·.size) = some s.cs.length := fun s => by rw [Sec.cs_len]; exact sec_size
  go_enter Tryd.func51, Tryd.ntmps51
  go_wp2_with fail
  generalize hw1 : w.alloc (.cells (sixCells (readRow d a 0) m).toArray 90) = w1 at *
  go_loopg [16] m (fun gk j wr => ∃ q : Nat, q ≤ m ∧ gk = m - q ∧ j = .int .i64 q ∧ Below w.heap.size w wr ∧ wr.ownsRow w.heap.size 90 128 (.slice (some ⟨w.heap.size, 0, none⟩) m m) m (sixCells (readRow d a q) m))
  case atStart => exact ⟨0, by omega, by omega, rfl, hb0.out, HROW.out⟩
  case round =>
    obtain ⟨q, hq, rfl, rfl, hb, hrow⟩ := hrel
    by_cases hlt : q < m
    · have HRW := Lib.hid hrow
      have HB := Lib.hid hb
      have hk1 : (q : Int) < (m : Int) := by omega
      have hre : d.readErr ((a : Int) + (q : Int)) = 0 := by simp [DM.readErr, hup, DM.has]; omega
      clear hrow hb
      go_wp2_with fail
      refine (hold_read1 (H.out.below HB.out) ((a : Int) + (q : Int)) hwt).mono ?_
      rintro e w5 ⟨rfl, b5⟩
      rw [hre]
      simp only [errV, Sec.v]
      have HS := Lib.hid (readRow_put d a q)
      generalize d.read ((a : Int) + (q : Int)) = s at *
      have R5 := Lib.hid (row_of HRW.out fun x hx => b5.block x (row_under HRW.out x hx))
      have B5 := Lib.hid (HB.out.trans (b5.mono HB.out.size))
      have R6 := Lib.hid (R5.out.alloc (.cells s.cs.toArray 90))
      have B6 := Lib.hid (B5.out.alloc B5.out.size (.cells s.cs.toArray 90))
      have BX := Lib.hid (Blk.new w5 90 s.cs.toArray)
      have hth : (w5.alloc (.cells s.cs.toArray 90)).there w.heap.size (q * 128) s.cs.toArray.size := by
        have h128 : s.cs.toArray.size = 128 := by simp [Sec.cs_len]
        rw [h128]; exact row_there R6.out hlt
      have hib2 : (Tryd.prog.info? 90).map (·.size) = some s.cs.toArray.size := by rw [List.size_toArray]; exact hib s
      have hs5 := B5.out.size
      clear R5 B5 b5 HRW HB
      go_wp2_with (first
        | (refine wpList_store_newN rfl 90 (.tmp 10) (.tmp 25) rfl w5.heap.size rfl s.cs Zs.toArray rfl rfl (hib s) (by simp [Sec.cs_len, hzl]) s.one ?_)
        | (refine wpList_load_mid rfl 90 (.tmp 10) rfl w5.heap.size 0 rfl s.cs _ BX.out.range hus rfl (hib s) ?_)
        | (refine wpList_store_mid rfl 90 (.tmp 33) (.tmp 32) rfl w.heap.size (q * 128) s.cs.toArray rfl rfl hth hib2 (all_oneCell_toArray s.one) ?_))
      go_roundg (m - (q + 1))
      case measure => omega
      case rel =>
        refine ⟨q + 1, by omega, rfl, by go_num, B6.out.grown (setCells_grown w.heap.size _ _ _).1 B6.out.size (fun x hx => by injection hx with hx; omega), ?_⟩
        rw [← HS.out]
        exact row_put s R6.out hlt
    · obtain rfl : q = m := by omega
      go_wp2
      go_ret2
      exact ⟨_, rfl, hrow, hb⟩
end Go.Proofs.YtpklcmocjimcpaaDoor

/-
  The number that a box's data are. Condition: the bytes read as they are said to.
-/
namespace Go.Proofs.YtpklcmocjimcpaaDoor
open Go.RowKit
set_option maxRecDepth 100000
set_option linter.unusedSimpArgs false
set_option linter.unusedVariables false
/-- are these bytes a number? -/
def isNum (bs : List Nat) : Bool := bs.length == 8
theorem isNum_end (bs : List Nat) : (if ((⟨bs, false⟩ : RD).take 8).bad || decide (0 < ((⟨bs, false⟩ : RD).take 8).bs.length) then 2 else 0 : Nat) = if isNum bs then 0 else 2 := by
  unfold isNum RD.take RD.fits RD.spoilt
  by_cases h : 8 ≤ bs.length
  · by_cases h2 : bs.length = 8
    · simp [h2]
    · have h3 : ¬ bs.length ≤ 8 := by omega
      have h4 : (8 : Int) ≤ (bs.length : Int) := by omega
      simp [h4, h2]
      omega
  · have h2 : ¬ bs.length = 8 := by omega
    have h4 : ¬ (8 : Int) ≤ (bs.length : Int) := by omega
    simp [h4, h2]
theorem isNum_num {bs : List Nat} (h : isNum bs = true) : (⟨bs, false⟩ : RD).num = numOf bs := by
  have h' : bs.length = 8 := by simpa [isNum] using h
  unfold RD.num RD.got RD.fits
  simp [h']
  rw [List.take_of_length_le (by omega)]
theorem number_any (A : Option Addr) (c : Nat) (bs : List Nat) (w : World) (hb : Bytes w w.heap.size A bs.length bs) (hl : bs.length ≤ 1000) :
    Calls Tryd.prog 76 #[.slice A bs.length c] w fun e w' => e = .returned (.tuple #[.int .i64 (if isNum bs then numOf bs else 0), .bool (isNum bs)]) ∧ Below w.heap.size w w' := by
  have HB := Lib.hid hb
  clear hb
  go_enter Tryd.func76, Tryd.ntmps76
  go_wp2_with fail
  refine (newr_any A bs.length c bs w _ (by omega) HB.out).mono ?_
  rintro e w1 ⟨gr, F, rfl, h1, b1⟩
  have H1 := Lib.hid h1
  have B1 := Lib.hid b1
  clear h1 b1
  go_wp2_with fail
  refine (rnum_any w1 _ F _ _ H1.out B1.out.size).mono ?_
  rintro e w2 ⟨rfl, F2, h2, ho, hf⟩
  have H2 := Lib.hid h2
  have B2 := Lib.hid (B1.out.trans (ho.below H1.out.over B1.out.size))
  clear h2 ho hf
  go_wp2_with fail
  refine (rend_any w2 _ F2 _ _ H2.out).mono ?_
  rintro e w' ⟨rfl, rfl⟩
  rw [isNum_end]
  by_cases hn : isNum bs = true
  · have e1 := isNum_num hn
    rw [if_pos hn]
    simp only [errV]
    go_wp2
    go_ret2
    exact ⟨rfl, B2.out⟩
  · rw [if_neg hn]
    have e2 : errV 2 = .iface 41 (.int .i64 2) := rfl
    rw [e2]
    go_wp2
    go_ret2
    exact ⟨rfl, B2.out⟩
end Go.Proofs.YtpklcmocjimcpaaDoor

/-
  What a top tells. Condition: the package's table holds its sixteen numbers.
-/
namespace Go.Proofs.YtpklcmocjimcpaaDoor
open Go.RowKit
set_option maxRecDepth 100000
set_option linter.unusedSimpArgs false
set_option linter.unusedVariables false
/-- the generation and the size that a top tells of -/
noncomputable def topOf (s : Sec) : Option (Int × Int) := if isSealed s.l = true ∧ tK s.l = 1 ∧ tN s.l = 0 ∧ isNum (tD s.l) = true ∧ 0 ≤ numOf (tD s.l) then some (tG s.l, numOf (tD s.l)) else none
def toldV : Option (Int × Int) → Value
  | some (g, z) => .tuple #[.int .i64 g, .int .i64 z, .bool true]
  | none => .tuple #[.int .i64 0, .int .i64 0, .bool false]
set_option maxRecDepth 100000 in
set_option maxHeartbeats 2000000 in
theorem jtold_any (s : Sec) (w : World) (hT : Tab w) : Calls Tryd.prog 62 #[s.v] w fun e w' => e = .returned (toldV (topOf s)) ∧ Below w.heap.size w w' := by
  unfold Sec.v
  have B0 := Lib.hid (Blk.new w 90 s.cs.toArray)
  have hb0 : Below w.heap.size w (w.alloc (.cells s.cs.toArray 90)) := (Below.refl _ _).alloc (Nat.le_refl _) _
  have hus := Tryd.underlying90
  have hib : (Tryd.prog.info? 90).map (·.size) = some s.cs.length := by rw [Sec.cs_len]; exact sec_size
  have HT := Lib.hid hT
  clear hT
  go_enter Tryd.func62, Tryd.ntmps62
  go_wp2_with (refine wpList_load_mid rfl 90 (.tmp 1) rfl w.heap.size 0 rfl s.cs _ B0.out.range hus rfl hib ?_)
  have hbz := box_zero
  cases hs : isSealed s.l with
  | false =>
    have htop : topOf s = none := by unfold topOf; rw [if_neg (by rw [hs]; simp)]
    have HTP := Lib.hid htop
    clear htop
    refine (open_bad s _ (HT.out.below hb0) hs).mono ?_
    rintro e w1 ⟨rfl, b1⟩
    have e11 : errV 11 = .iface 41 (.int .i64 11) := rfl
    rw [e11]
    have B1 := hb0.trans (b1.mono hb0.size)
    have hone : ∀ u ∈ boxCs 0 0 0 (.slice none 0 0), u.oneCell' = true := boxCs_one 0 0 0 none 0 0
    have hib2 : (Tryd.prog.info? 104).map (·.size) = some (boxCs 0 0 0 (.slice none 0 0)).length := box_size
    clear hs b1
    go_wp2_with (refine wpList_store_newN rfl 104 (.tmp 5) (.tmp 10) rfl w1.heap.size rfl (boxCs 0 0 0 (.slice none 0 0)) _ rfl rfl hib2 rfl hone ?_)
    go_ret3
    exact ⟨by rw [HTP.out]; rfl, B1.alloc B1.size _⟩
  | true =>
    refine (open_good s _ (HT.out.below hb0) hs).mono ?_
    rintro e w1 ⟨A, c, rfl, hown, b1⟩
    have HS := Lib.hid hs
    have B1 := Lib.hid (hb0.trans (b1.mono hb0.size))
    have hone : ∀ u ∈ boxCs (tK s.l) (tG s.l) (tN s.l) (.slice A (tD s.l).length c), u.oneCell' = true := boxCs_one _ _ _ A _ c
    have hib2 : (Tryd.prog.info? 104).map (·.size) = some (boxCs (tK s.l) (tG s.l) (tN s.l) (.slice A (tD s.l).length c)).length := box_size
    have BX := Blk.new w1 104 (boxCs (tK s.l) (tG s.l) (tN s.l) (.slice A (tD s.l).length c)).toArray
    have HBY := Lib.hid ((hown.bytes (tD_lt s.l s.lt)).since (below_alloc w1 (.cells (boxCs (tK s.l) (tG s.l) (tN s.l) (.slice A (tD s.l).length c)).toArray 104)))
    have BXH := Lib.hid BX
    have BW := Lib.hid (B1.out.alloc B1.out.size (.cells (boxCs (tK s.l) (tG s.l) (tN s.l) (.slice A (tD s.l).length c)).toArray 104))
    have htl := tD_len s.l
    have hq := fun (i : Nat) => BX.cell i
    have q0 : (w1.alloc (.cells (boxCs (tK s.l) (tG s.l) (tN s.l) (.slice A (tD s.l).length c)).toArray 104)).cell? ⟨w1.heap.size, 0, none⟩ = some (.int .i64 (tK s.l)) := hq 0
    have q1 : (w1.alloc (.cells (boxCs (tK s.l) (tG s.l) (tN s.l) (.slice A (tD s.l).length c)).toArray 104)).cell? ⟨w1.heap.size, 1, none⟩ = some (.int .i64 (tG s.l)) := hq 1
    have q2 : (w1.alloc (.cells (boxCs (tK s.l) (tG s.l) (tN s.l) (.slice A (tD s.l).length c)).toArray 104)).cell? ⟨w1.heap.size, 2, none⟩ = some (.int .i64 (tN s.l)) := hq 2
    have q3 : (w1.alloc (.cells (boxCs (tK s.l) (tG s.l) (tN s.l) (.slice A (tD s.l).length c)).toArray 104)).cell? ⟨w1.heap.size, 3, none⟩ = some (.slice A (tD s.l).length c) := hq 3
    clear hs hown b1 BX hq
    generalize hgb : w1.heap.size = gb at *
    by_cases hk : tK s.l = 1
    · have hk1 : (tK s.l != 1) = false := by simp [hk]
      have HKK := Lib.hid hk
      clear hk
      by_cases hn : tN s.l = 0
      · have hn1 : (tN s.l != 0) = false := by simp [hn]
        have HNN := Lib.hid hn
        clear hn
        go_wp2_with (refine wpList_store_newN rfl 104 (.tmp 5) (.tmp 10) rfl gb hgb (boxCs (tK s.l) (tG s.l) (tN s.l) (.slice A (tD s.l).length c)) _ rfl rfl hib2 rfl hone ?_)
        refine (number_any A c (tD s.l) _ (HBY.out.more (by rw [World.size_alloc, hgb]; omega)) (by omega)).mono ?_
        rintro e w2 ⟨rfl, b2⟩
        have q1 : w2.cell? ⟨gb, 1, none⟩ = some (.int .i64 (tG s.l)) := (BXH.out.below b2 BXH.out.lt).cell 1
        have B2 := Lib.hid (BW.out.trans (b2.mono BW.out.size))
        clear b2
        by_cases hnum : isNum (tD s.l) = true
        · rw [if_pos hnum, hnum]
          by_cases hpos : 0 ≤ numOf (tD s.l)
          · have htop : topOf s = some (tG s.l, numOf (tD s.l)) := by unfold topOf; rw [if_pos ⟨HS.out, HKK.out, HNN.out, hnum, hpos⟩]
            have hd : decide (numOf (tD s.l) < 0) = false := by simp; omega
            have HTP := Lib.hid htop
            clear htop
            go_wp2
            go_ret3
            exact ⟨by rw [HTP.out]; rfl, B2.out⟩
          · have htop : topOf s = none := by unfold topOf; rw [if_neg (fun h => hpos h.2.2.2.2)]
            have hd : decide (numOf (tD s.l) < 0) = true := by simp; omega
            have HTP := Lib.hid htop
            clear htop
            go_wp2
            go_ret3
            exact ⟨by rw [HTP.out]; rfl, B2.out⟩
        · have htop : topOf s = none := by unfold topOf; rw [if_neg (fun h => hnum h.2.2.2.1)]
          have hf : isNum (tD s.l) = false := by simpa using hnum
          rw [if_neg hnum, hf]
          have HTP := Lib.hid htop
          clear htop
          go_wp2
          go_ret3
          exact ⟨by rw [HTP.out]; rfl, B2.out⟩
      · have htop : topOf s = none := by unfold topOf; rw [if_neg (fun h => hn h.2.2.1)]
        have hn1 : (tN s.l != 0) = true := by simpa using hn
        have HTP := Lib.hid htop
        clear htop
        go_wp2_with (refine wpList_store_newN rfl 104 (.tmp 5) (.tmp 10) rfl gb hgb (boxCs (tK s.l) (tG s.l) (tN s.l) (.slice A (tD s.l).length c)) _ rfl rfl hib2 rfl hone ?_)
        go_ret3
        exact ⟨by rw [HTP.out]; rfl, BW.out⟩
    · have htop : topOf s = none := by unfold topOf; rw [if_neg (fun h => hk h.2.1)]
      have hk1 : (tK s.l != 1) = true := by simpa using hk
      have HTP := Lib.hid htop
      clear htop hk
      go_wp2_with (refine wpList_store_newN rfl 104 (.tmp 5) (.tmp 10) rfl gb hgb (boxCs (tK s.l) (tG s.l) (tN s.l) (.slice A (tD s.l).length c)) _ rfl rfl hib2 rfl hone ?_)
      go_ret3
      exact ⟨by rw [HTP.out]; rfl, BW.out⟩
end Go.Proofs.YtpklcmocjimcpaaDoor

/-
  Is a sector the end that stands at a place? Condition: the package's table holds its sixteen numbers.
-/
namespace Go.Proofs.YtpklcmocjimcpaaDoor
open Go.RowKit
set_option maxRecDepth 100000
set_option linter.unusedSimpArgs false
set_option linter.unusedVariables false
/-- the end of so many parts -/
noncomputable def endOf (s : Sec) (g p m : Int) : Bool := isOf s.l 4 g p && (isNum (tD s.l) && (numOf (tD s.l) == m))
set_option maxRecDepth 100000 in
set_option maxHeartbeats 2000000 in
theorem jend_any (s : Sec) (g p m : Int) (w : World) (hT : Tab w) : Calls Tryd.prog 64 #[s.v, .int .i64 g, .int .i64 p, .int .i64 m] w fun e w' => e = .returned (.bool (endOf s g p m)) ∧ Below w.heap.size w w' := by
  unfold Sec.v
  have B0 := Lib.hid (Blk.new w 90 s.cs.toArray)
  have hb0 : Below w.heap.size w (w.alloc (.cells s.cs.toArray 90)) := (Below.refl _ _).alloc (Nat.le_refl _) _
  have hus := Tryd.underlying90
  have hib : (Tryd.prog.info? 90).map (·.size) = some s.cs.length := by rw [Sec.cs_len]; exact sec_size
  have htl := tD_len s.l
  have HT := Lib.hid hT
  clear hT
  go_enter Tryd.func64, Tryd.ntmps64
  go_wp2_with (refine wpList_load_mid rfl 90 (.tmp 4) rfl w.heap.size 0 rfl s.cs _ B0.out.range hus rfl hib ?_)
  cases hi : isOf s.l 4 g p with
  | false =>
    have htop : endOf s g p m = false := by unfold endOf; rw [hi]; rfl
    have HTP := Lib.hid htop
    clear htop
    refine (is_no s 4 g p _ (HT.out.below hb0) hi).mono ?_
    rintro e w1 ⟨rfl, b1⟩
    have B1 := hb0.trans (b1.mono hb0.size)
    clear b1
    go_wp2
    go_ret
    exact ⟨by rw [HTP.out]; rfl, B1⟩
  | true =>
    refine (is_yes s 4 g p _ (HT.out.below hb0) hi).mono ?_
    rintro e w1 ⟨A, c, rfl, hown, b1⟩
    have HY := Lib.hid (hown.bytes (tD_lt s.l s.lt))
    have B1 := Lib.hid (hb0.trans (b1.mono hb0.size))
    have HI := Lib.hid hi
    clear hown b1 hi
    go_wp2_with fail
    refine (number_any A c (tD s.l) w1 HY.out (by omega)).mono ?_
    rintro e w2 ⟨rfl, b2⟩
    have B2 := Lib.hid (B1.out.trans (b2.mono B1.out.size))
    clear b2
    cases hn : isNum (tD s.l) with
    | false =>
      have htop : endOf s g p m = false := by unfold endOf; rw [hn]; simp
      have HTP := Lib.hid htop
      clear htop
      simp only [Bool.false_eq_true, if_false]
      clear hn
      go_wp2
      go_ret
      exact ⟨by rw [HTP.out]; rfl, B2.out⟩
    | true =>
      have htop : endOf s g p m = (numOf (tD s.l) == m) := by unfold endOf; rw [hn, HI.out]; simp
      have HTP := Lib.hid htop
      clear htop
      simp only [if_true]
      clear hn
      go_wp2
      go_ret
      exact ⟨by rw [HTP.out]; rfl, B2.out⟩
end Go.Proofs.YtpklcmocjimcpaaDoor

/-
  The greater generation of a disk's tops. Condition: the package's table holds its sixteen numbers.
-/
namespace Go.Proofs.YtpklcmocjimcpaaDoor
open Go.RowKit
set_option maxRecDepth 100000
set_option linter.unusedSimpArgs false
set_option linter.unusedVariables false
/-- what is known behind one top more -/
noncomputable def pickTop (acc : Option (Int × Int)) (i : Nat) (s : Sec) : Option (Int × Int) := match topOf s with
  | some (g, z) => if g % 2 = i ∧ (∀ x, acc = some x → x.1 < g) then some (g, z) else acc
  | none => acc
noncomputable def newestL (ss : List Sec) : Nat → Option (Int × Int)
  | 0 => none
  | k + 1 => pickTop (newestL ss k) k (ss[k]?.getD Sec.zero)
theorem topOf_pos {s : Sec} {g z : Int} (h : topOf s = some (g, z)) : 0 ≤ g := by
  unfold topOf at h
  split at h
  · rename_i hh
    have h1 : isBoxB (tK s.l) (tG s.l) (tN s.l) = true := by
      have := hh.1
      unfold isSealed at this
      simp only [Bool.and_eq_true] at this
      exact this.1
    injection h with h
    injection h with h2 h3
    rw [← h2]
    unfold isBoxB at h1
    have := of_decide_eq_true h1
    exact this.2.2.1
  · cases h
def accG : Option (Int × Int) → Int
  | some (g, _) => g
  | none => 0
def accZ : Option (Int × Int) → Int
  | some (_, z) => z
  | none => 0
theorem toldV_eq (o : Option (Int × Int)) : toldV o = .tuple #[.int .i64 (accG o), .int .i64 (accZ o), .bool o.isSome] := by
  rcases o with _ | ⟨g, z⟩ <;> rfl
set_option maxRecDepth 100000 in
set_option maxHeartbeats 4000000 in
theorem newest_any (A : Option Addr) (c : Nat) (ss : List Sec) (w : World) (hR : Reads w w.heap.size 128 A ss.length (ss.flatMap Sec.cs)) (hl : ss.length ≤ 100) (hT : Tab w) (hpos : 0 < w.heap.size) :
    Calls Tryd.prog 52 #[.slice A ss.length c] w fun e w' => e = .returned (toldV (newestL ss ss.length)) ∧ Below w.heap.size w w' := by
  obtain ⟨Zs, hz6, hzl⟩ : ∃ Zs : List Value, (∀ w, (zeroValue 90).run Tryd.prog w = .ok (.agg Zs.toArray) w) ∧ Zs.length = 128 := ⟨_, sec_zero, Sec.cs_len _⟩
  have hus := Tryd.underlying90
  have hib : ∀ s : Sec, (Tryd.prog.info? 90).map (·.size) = some s.cs.length := fun s => by rw [Sec.cs_len]; exact sec_size
  have HR := Lib.hid hR
  have HT := Lib.hid hT
  clear hR hT
  go_enter Tryd.func52, Tryd.ntmps52
  go_wp2
  go_loopg [2, 3, 4, 12] ss.length (fun gk a b o j wr => ∃ (k : Nat), k ≤ ss.length ∧ gk = ss.length - k ∧ a = .int .i64 (accG (newestL ss k)) ∧ b = .int .i64 (accZ (newestL ss k)) ∧ o = .bool (newestL ss k).isSome ∧ j = .int .i64 k ∧ Below w.heap.size w wr)
  case atStart => exact ⟨0, by omega, by omega, rfl, rfl, rfl, rfl, Below.refl _ _⟩
  case round =>
    obtain ⟨k, hk, rfl, rfl, rfl, rfl, rfl, hb⟩ := hrel
    by_cases hlt : k < ss.length
    · obtain ⟨ad, s, rfl, hadb, hs, hc⟩ := reads_sec (HR.out.below hb) hlt
      have hnx : newestL ss (k + 1) = pickTop (newestL ss k) k s := by show pickTop (newestL ss k) k (ss[k]?.getD Sec.zero) = _; rw [hs]; rfl
      have BX := Lib.hid (Blk.new wr 90 s.cs.toArray)
      have BW := Lib.hid (hb.alloc hb.size (.cells s.cs.toArray 90))
      have HNX := Lib.hid hnx
      clear hb hs hnx
      generalize newestL ss k = acc at *
      go_wp2_with (first
        | (refine wpList_load_at rfl 90 (.tmp 15) rfl _ rfl s.cs _ hc hus rfl (hib s) ?_)
        | (refine wpList_store_newN rfl 90 (.tmp 6) (.tmp 16) rfl wr.heap.size rfl s.cs Zs.toArray rfl rfl (hib s) (by simp [Sec.cs_len, hzl]) s.one ?_)
        | (refine wpList_load_mid rfl 90 (.tmp 6) rfl wr.heap.size 0 rfl s.cs _ BX.out.range hus rfl (hib s) ?_))
      refine (jtold_any s _ (tab_below HT.out BW.out hpos)).mono ?_
      rintro e w5 ⟨rfl, b5⟩
      have B5 := Lib.hid (BW.out.trans (b5.mono BW.out.size))
      clear b5 hc
      cases ht : topOf s with
      | none =>
        have hp : pickTop acc k s = acc := by unfold pickTop; rw [ht]
        have HP := Lib.hid (HNX.out.trans hp)
        simp only [toldV]
        clear hp ht
        go_wp2
        go_roundg (ss.length - (k + 1))
        case measure => omega
        case rel => exact ⟨k + 1, by omega, rfl, by rw [HP.out], by rw [HP.out], by rw [HP.out], by go_num, B5.out⟩
      | some x =>
        obtain ⟨g, z⟩ := x
        have hg0 := topOf_pos ht
        obtain ⟨gn, rfl⟩ := Int.eq_ofNat_of_zero_le hg0
        simp only [toldV]
        by_cases hm : gn % 2 = k
        · have hme : (((gn % 2 : Nat) : Int) == (k : Int)) = true := by simp; omega
          have hme2 : (gn % 2 == k) = true := by simpa using hm
          have hme3 : ((gn : Int) % 2 == (k : Int)) = true := by simp; omega
          rcases acc with _ | ⟨g0, z0⟩
          · have hp : pickTop none k s = some ((gn : Int), z) := by unfold pickTop; rw [ht]; simp; omega
            have HP := Lib.hid (HNX.out.trans hp)
            clear hp ht hm
            simp only [accG, accZ, Option.isSome]
            go_wp2_with (go_at_call 49; refine (topAt_any gn _).mono ?_; rintro e w' ⟨rfl, rfl⟩)
            go_roundg (ss.length - (k + 1))
            case measure => omega
            case rel => exact ⟨k + 1, by omega, rfl, by rw [HP.out]; rfl, by rw [HP.out]; rfl, by rw [HP.out]; rfl, by go_num, B5.out⟩
          · by_cases hlt2 : g0 < (gn : Int)
            · have hp : pickTop (some (g0, z0)) k s = some ((gn : Int), z) := by unfold pickTop; rw [ht]; simp [hlt2]; omega
              have hd : decide (g0 < (gn : Int)) = true := by simpa using hlt2
              have HP := Lib.hid (HNX.out.trans hp)
              clear hp ht hm hlt2
              simp only [accG, accZ, Option.isSome]
              go_wp2_with (go_at_call 49; refine (topAt_any gn _).mono ?_; rintro e w' ⟨rfl, rfl⟩)
              go_roundg (ss.length - (k + 1))
              case measure => omega
              case rel => exact ⟨k + 1, by omega, rfl, by rw [HP.out]; rfl, by rw [HP.out]; rfl, by rw [HP.out]; rfl, by go_num, B5.out⟩
            · have hp : pickTop (some (g0, z0)) k s = some (g0, z0) := by unfold pickTop; rw [ht]; simp [hlt2]
              have hd : decide (g0 < (gn : Int)) = false := by simpa using hlt2
              have HP := Lib.hid (HNX.out.trans hp)
              clear hp ht hm hlt2
              simp only [accG, accZ, Option.isSome]
              go_wp2_with (go_at_call 49; refine (topAt_any gn _).mono ?_; rintro e w' ⟨rfl, rfl⟩)
              go_roundg (ss.length - (k + 1))
              case measure => omega
              case rel => exact ⟨k + 1, by omega, rfl, by rw [HP.out]; rfl, by rw [HP.out]; rfl, by rw [HP.out]; rfl, by go_num, B5.out⟩
        · have hme : (((gn % 2 : Nat) : Int) == (k : Int)) = false := by simp; omega
          have hme2 : (gn % 2 == k) = false := by simpa using hm
          have hme3 : ((gn : Int) % 2 == (k : Int)) = false := by simp; omega
          have hp : pickTop acc k s = acc := by
            unfold pickTop
            rw [ht]
            simp only
            rw [if_neg (fun h => hm (by have := h.1; omega))]
          have HP := Lib.hid (HNX.out.trans hp)
          clear hp ht hm
          go_wp2_with (go_at_call 49; refine (topAt_any gn _).mono ?_; rintro e w' ⟨rfl, rfl⟩)
          go_roundg (ss.length - (k + 1))
          case measure => omega
          case rel => exact ⟨k + 1, by omega, rfl, by rw [HP.out], by rw [HP.out], by rw [HP.out], by go_num, B5.out⟩
    · obtain rfl : k = ss.length := by omega
      go_wp2
      go_ret3
      exact ⟨by rw [toldV_eq]; rfl, hb⟩
end Go.Proofs.YtpklcmocjimcpaaDoor

/-
  A state whose parts all stand in an area is put together. Conditions: they stand; the package's table holds its sixteen numbers.
-/
namespace Go.Proofs.YtpklcmocjimcpaaDoor
open Go.RowKit
set_option maxRecDepth 100000
set_option linter.unusedSimpArgs false
set_option linter.unusedVariables false
theorem take_part (st : List Nat) (k : Nat) : st.take (106 * (k + 1)) = st.take (106 * k) ++ prow st k := by
  unfold prow
  rw [show 106 * (k + 1) = 106 * k + 106 by omega, List.take_add]
set_option maxRecDepth 100000 in
set_option maxHeartbeats 4000000 in
theorem joined_good (A : Option Addr) (c : Nat) (ss : List Sec) (gen : Int) (st : List Nat) (w : World) (hR : Reads w w.heap.size 128 A ss.length (ss.flatMap Sec.cs)) (hl : ss.length ≤ 4096) (hT : Tab w) (hpos : 0 < w.heap.size) (hst : st.length ≤ 100000) (hfit : pn st ≤ ss.length)
    (hin : ∀ k s, k < pn st → ss[k]? = some s → isOf s.l 2 gen k = true ∧ tD s.l = prow st k) :
    Calls Tryd.prog 53 #[.slice A ss.length c, .int .i64 gen, .int .i64 st.length] w fun e w' => ∃ v, e = .returned (.tuple #[v, .bool true]) ∧ Own w' w.heap.size v st.length st ∧ Below w.heap.size w w' := by
  have hpf : decide ((ss.length : Int) < (partsOf st.length : Int)) = false := by have : partsOf st.length = pn st := rfl; simp; omega
  have hpf2 : decide (ss.length < partsOf st.length) = false := by have : partsOf st.length = pn st := rfl; simp; omega
  have hpe : partsOf st.length = pn st := rfl
  have HR := Lib.hid hR
  have HT := Lib.hid hT
  have HIN := Lib.hid hin
  clear hR hT hin
  go_enter Tryd.func53, Tryd.ntmps53
  go_wp2_with fail
  refine (jparts_any st.length w (by omega)).mono ?_
  rintro e w' ⟨rfl, rfl⟩
  go_wp2_with fail
  refine (jparts_any st.length w (by omega)).mono ?_
  rintro e w' ⟨rfl, rfl⟩
  rw [hpe]
  clear hpf hpf2 hpe
  go_wp2
  go_loopg [8, 19] (pn st) (fun gk v j wr => ∃ (k : Nat) (u : Value), k ≤ pn st ∧ gk = pn st - k ∧ u = v ∧ j = .int .i64 k ∧ Below w.heap.size w wr ∧ Own wr w.heap.size u (st.take (106 * k)).length (st.take (106 * k)))
  case atStart => exact ⟨0, _, by omega, by omega, rfl, rfl, Below.refl _ _, by simpa using Own.nil w w.heap.size⟩
  case round =>
    obtain ⟨k, u, hk, rfl, rfl, rfl, hb, hown⟩ := hrel
    by_cases hlt : k < pn st
    · obtain ⟨ad, s, rfl, hadb, hs, hc⟩ := reads_sec (HR.out.below hb) (show k < ss.length by omega)
      obtain ⟨his, htd⟩ := HIN.out k s hlt hs
      obtain ⟨Au, cu, rfl⟩ := slice_of hown
      have hib : (Tryd.prog.info? 90).map (·.size) = some s.cs.length := by rw [Sec.cs_len]; exact sec_size
      have hus := Tryd.underlying90
      have hk1 : (k : Int) < (ss.length : Int) := by omega
      have HO := Lib.hid hown
      have HB := Lib.hid hb
      have hpn : 106 * k < st.length ∧ st.length ≤ 100000 := by have : pn st = (st.length + 105) / 106 := rfl; omega
      have htl : (st.take (106 * k)).length = 106 * k := by rw [List.length_take]; omega
      have hpl : (prow st k).length = min 106 (st.length - 106 * k) := prow_len st k
      have htk := take_part st k
      have HTK := Lib.hid htk
      clear hs hown hb htk
      go_wp2_with (refine wpList_load_at rfl 90 (.tmp 25) rfl _ rfl s.cs _ hc hus rfl hib ?_)
      refine (is_yes s 2 gen k wr (tab_below HT.out HB.out hpos) his).mono ?_
      rintro e w5 ⟨A5, c5, rfl, ho5, b5⟩
      rw [htd] at ho5 ⊢
      have HTD := Lib.hid htd
      have O5 := Lib.hid ho5
      have HO5 := Lib.hid (row_of HO.out (w' := w5) (fun x hx => b5.block x (row_under HO.out x hx)))
      have HB5 := Lib.hid (HB.out.trans (b5.mono HB.out.size))
      have hs5 := b5.size
      clear ho5 b5 his hc htd
      have O6 := HO5.out
      rw [htl] at O6
      have HO6 := Lib.hid O6
      have BY := Lib.hid (O5.out.bytes (fun b hb => by rw [← HTD.out] at hb; exact tD_lt s.l s.lt b hb))
      clear O6
      have HTL := Lib.hid htl
      have HPL := Lib.hid hpl
      clear hpl htl
      generalize hplg : (prow st k).length = pl at *
      have hpl := HPL.out
      by_cases hm : st.length - 106 * k < 106
      · have hne : ((pl : Int) != (st.length : Int) - 106 * (k : Int)) = false := by simp; omega
        have hc1 : ¬ (106 : Int) ≤ (st.length : Int) - (106 * (k : Int)) := by omega
        have hplb : pl ≤ 106 := by omega
        clear hpl
        go_wp2_with (at_builtin; refine app_bytes (.tmp 44) (.tmp 45) rfl rfl w.heap.size (.slice Au (106 * k) cu) (106 * k) (st.take (106 * k)) rfl HO6.out w5.heap.size A5 pl c5 (prow st k) rfl BY.out (by omega) HB5.out.size ?_; intro v6 w6 h6 hg6 ha6)
        go_roundg (pn st - (k + 1))
        case measure => omega
        case rel =>
          refine ⟨k + 1, v6, by omega, rfl, rfl, by go_num, HB5.out.grown hg6 HB5.out.size (fun x hx => (World.ownsRow.lt HO6.out x hx).1), ?_⟩
          rw [HTK.out, List.length_append, HTL.out, hplg]
          exact h6
      · have hne : ((pl : Int) != 106) = false := by simp; omega
        have hc1 : (106 : Int) ≤ (st.length : Int) - (106 * (k : Int)) := by omega
        have hplb : pl ≤ 106 := by omega
        clear hpl
        go_wp2_with (at_builtin; refine app_bytes (.tmp 44) (.tmp 45) rfl rfl w.heap.size (.slice Au (106 * k) cu) (106 * k) (st.take (106 * k)) rfl HO6.out w5.heap.size A5 pl c5 (prow st k) rfl BY.out (by omega) HB5.out.size ?_; intro v6 w6 h6 hg6 ha6)
        go_roundg (pn st - (k + 1))
        case measure => omega
        case rel =>
          refine ⟨k + 1, v6, by omega, rfl, rfl, by go_num, HB5.out.grown hg6 HB5.out.size (fun x hx => (World.ownsRow.lt HO6.out x hx).1), ?_⟩
          rw [HTK.out, List.length_append, HTL.out, hplg]
          exact h6
    · obtain rfl : k = pn st := by omega
      have htl : st.take (106 * pn st) = st := List.take_of_length_le (by unfold pn; omega)
      rw [htl] at hown
      obtain ⟨Au, cu, rfl⟩ := slice_of hown
      go_wp2
      go_ret2
      exact ⟨_, rfl, hown, hb⟩
end Go.Proofs.YtpklcmocjimcpaaDoor
