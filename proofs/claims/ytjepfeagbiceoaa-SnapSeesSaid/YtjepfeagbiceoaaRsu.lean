/-
  snap.Take on a good object's text: that object. Conditions: the numbers are numbers of 64 bits, the text is no more than some millions.
-/
import Derived.Test.YtjepfeagbiceoaaRst
import Derived.WideShapes
import Derived.Laws.Strings
namespace Go.Proofs.Ytjepfeagbiceoaa
open Go.RowKit Go.BigFrame
set_option linter.unusedSimpArgs false
set_option linter.unusedVariables false
set_option maxRecDepth 100000
theorem putV_eq (o : OV) : putV o = (if o.th then 1 else 0) :: ((numB o.dt.length ++ o.dt) ++ (numB o.sq ++ (numB o.cl.length ++ o.cl.flatMap clT))) := by
  unfold putV bytesB
  simp [List.append_assoc]
theorem obj_zero9 (w : World) : (zeroValue 36).run Try.prog w = .ok (.agg #[.bool false, .slice none 0 0, .int .i64 0, .slice none 0 0]) w := by kernel_rfl
theorem clT_eq (c : ClV) (rest : List Nat) : clT c ++ rest = numsB c.sn ++ ((numB c.dt.length ++ c.dt) ++ rest) := by
  unfold clT bytesB
  simp [List.append_assoc]
theorem below_drew9 (w : World) : Below w.heap.size w w.drew := (Below.refl _ w).drew
theorem results_cell_tmp9 {P : Program} {fn : Func} {p q : Tmp} {ty : TypeId} (h : fn.results = #[.cell p ty, .tmp q]) (tmps : Array Value) (w : World) (g : Nat) (t : TypeId) (cs : Array Value) (fr : Nat × Nat) (d : TypeDesc) (v : Value)
    (hp : tmps.getD p undef = .pointer (some ⟨g, 0, none⟩)) (hq : tmps.getD q undef = v) (hg : w.heap[g]? = some (.cells cs t fr))
    (hu : P.underlying ty = some d) (hd : (match d with | .struct _ | .array _ _ => true | _ => false) = true) (hi : (P.info? ty).map (·.size) = some cs.size) :
    (results fn tmps).run P w = .ok (.tuple #[.agg cs, v]) w := by
  have hp' : tmps[p]?.getD undef = .pointer (some ⟨g, 0, none⟩) := by simpa using hp
  have hq' : tmps[q]?.getD undef = v := by simpa using hq
  simp [results, h, hp', hq', asAddr, run_loadVar_row w g t ty cs fr d hg hu hd hi]
theorem u8ofNat_inj {x y : Nat} (hx : x < 256) (hy : y < 256) (h : UInt8.ofNat x = UInt8.ofNat y) : x = y := by
  have := congrArg UInt8.toNat h
  simp at this
  omega
theorem strOf_data (bs : List Nat) : (strOf bs).data.toList = bs.map UInt8.ofNat := by
  simp [strOf, strOfNums]
theorem strOf_inj {a b : List Nat} (ha : ∀ x ∈ a, x < 256) (hb : ∀ x ∈ b, x < 256) (h : strOf a = strOf b) : a = b := by
  have h1 := congrArg (fun s : ByteArray => s.data.toList) h
  simp only [strOf_data] at h1
  have hl : a.length = b.length := by simpa using congrArg List.length h1
  apply List.ext_getElem? 
  intro i
  have h2 := congrArg (fun l => l[i]?) h1
  simp only [List.getElem?_map] at h2
  by_cases hi : i < a.length
  · rw [List.getElem?_eq_getElem hi, List.getElem?_eq_getElem (by omega)] at h2 ⊢
    simp at h2
    rw [u8ofNat_inj (ha _ (List.getElem_mem hi)) (hb _ (List.getElem_mem (by omega))) h2]
  · rw [List.getElem?_eq_none (by omega), List.getElem?_eq_none (by omega)]
theorem equal9 (A A' : Option Addr) (n n' c c' B B' : Nat) (bs bs' : List Nat) (w : World) (h : Bytes w B A n bs) (h' : Bytes w B' A' n' bs') :
    Calls Try.prog 58 #[.slice A n c, .slice A' n' c'] w fun e w' => e = .returned (.bool (bs == bs')) ∧ w = w' := by
  have k1 := str_of (P := Try.prog) h c 22 9 5 Try.underlying22 Try.underlying5 Try.underlying9
  have k2 := str_of (P := Try.prog) h' c' 22 9 5 Try.underlying22 Try.underlying5 Try.underlying9
  have he : ((strOf bs).toList == (strOf bs').toList) = (bs == bs') := by
    rw [Bool.eq_iff_iff, beq_iff_eq, beq_iff_eq, ByteArray.toList_eq, ByteArray.toList_eq]
    exact ⟨fun e => strOf_inj h.2 h'.2 (Go.WideShapes.bytes_inj e), fun e => by rw [e]⟩
  have HE := Lib.hid he
  generalize strOf bs = s1 at *
  generalize strOf bs' = s2 at *
  clear h h' he
  go_enter Try.func58, Try.ntmps58
  go_wp2
  go_ret
  exact ⟨by simp [HE.out], rfl⟩
/-- numbers as a machine holds them -/
structure Wide9 (o : OV) : Prop where
  sq : -9223372036854775808 ≤ o.sq ∧ o.sq ≤ 9223372036854775807
  cl : ∀ c ∈ o.cl, c.sn.length ≤ 10000 ∧ (∀ s ∈ c.sn, -9223372036854775808 ≤ s ∧ s ≤ 9223372036854775807) ∧ ∀ b ∈ c.dt, b < 256
set_option maxHeartbeats 8000000 in
theorem stake_good {w : World} (o : OV) (hg : Good o) (hw : Wide9 o) (A : Option Addr) (n c : Nat) (hb : Bytes w w.heap.size A n (putV o)) (hn : n ≤ 3000000) :
    Calls Try.prog 32 #[.slice A n c] w fun e w' => ∃ q : OA, e = .returned (.tuple #[.agg q.cs, .nilIface]) ∧ q.v = o ∧ q.N w' w.heap.size ∧ Below w.heap.size w w' := by
  have HB := Lib.hid hb
  have HG := Lib.hid hg
  have HW := Lib.hid hw
  have hzo := obj_zero9
  have hd256 := hg.dt
  have hc16 := hg.cn
  obtain ⟨w0, hw0⟩ : ∃ w0, w0 = w.alloc (.cells #[.bool false, .slice none 0 0, .int .i64 0, .slice none 0 0] 36) := ⟨_, rfl⟩
  have hb0 : Below w.heap.size w w0 := by rw [hw0]; exact below_alloc w _
  have hz0 : w0.heap.size = w.heap.size + 1 := by rw [hw0]; simp
  have K0 : Blk w0 w.heap.size 36 #[.bool false, .slice none 0 0, .int .i64 0, .slice none 0 0] := by rw [hw0]; exact Blk.new w _ _
  have H0 := Lib.hid (And.intro hb0 (And.intro hz0 K0))
  have HWE := Lib.hid hw0
  have hlb := hb.len
  clear hb hg hw hb0 hz0 K0 hw0
  go_enter Try.func32, Try.ntmps32
  go_wp2_with fail
  rw [← HWE.out]
  clear HWE
  refine (newr_any A n c (putV o) w0 _ (by omega) ((HB.out.since H0.out.1).more (Nat.le_refl _))).mono ?_
  rintro e w1 ⟨gr, F1, rfl, R1, b1⟩
  rw [H0.out.2.1] at R1
  have hbs : w.heap.size + 1 ≤ w1.heap.size := by have := H0.out.2.1; have := b1.size; omega
  have HR1 := Lib.hid (And.intro R1 b1)
  clear R1 b1
  go_wp2_with fail
  have hpv := putV_eq o
  have hfb := flag_back o.th ((numB o.dt.length ++ o.dt) ++ (numB o.sq ++ (numB o.cl.length ++ o.cl.flatMap clT)))
  rw [← hpv] at hfb
  have HFB := Lib.hid hfb
  clear hpv hfb
  refine (rflag_any w1 (w.heap.size + 1) F1 _ _ HR1.out.1 hbs).mono ?_
  rintro e w2 ⟨rfl, F2, R2, o2, f2⟩
  rw [HFB.out.1] at R2
  rw [HFB.out.2]
  have HR2 := Lib.hid (And.intro R2 (And.intro o2 f2))
  have hbs2 : w.heap.size + 1 ≤ w2.heap.size := Nat.le_trans hbs o2.size
  have hl2 := R2.len
  clear R2 o2 f2 HFB
  have HLR : Hid ((numB o.dt.length ++ o.dt ++ (numB o.sq ++ (numB o.cl.length ++ o.cl.flatMap clT))).length + 1 = n) := Lib.hid (by rw [putV_eq, List.length_cons] at hlb; exact hlb)
  have HLF : Hid ((o.cl.flatMap clT).length ≤ n) := Lib.hid (by have := HLR.out; simp only [List.length_append] at this; omega)
  have hbb := bytes_back o.dt (numB o.sq ++ (numB o.cl.length ++ o.cl.flatMap clT)) (by omega)
  have HBB := Lib.hid hbb
  clear hbb
  go_wp2_with fail
  refine (rbytes_any w2 (w.heap.size + 1) F2 _ _ HR2.out.1 hbs2 (by have := HLR.out; simp only; omega)).mono ?_
  rintro e w3 ⟨v3, F3, rfl, ow3, R3, o3, f3, lt3, ap3⟩
  rw [HBB.out.2] at ow3 lt3
  rw [HBB.out.1] at R3
  obtain ⟨D3, cd3, rfl, -⟩ := ow3.form
  have HR3 := Lib.hid (And.intro ow3 (And.intro R3 (And.intro o3 (And.intro f3 (And.intro lt3 ap3)))))
  have hbs3 : w.heap.size + 1 ≤ w3.heap.size := Nat.le_trans hbs2 o3.size
  clear ow3 R3 o3 f3 lt3 ap3 HBB
  have htn := take_num o.sq (numB o.cl.length ++ o.cl.flatMap clT) HW.out.sq.1 HW.out.sq.2
  have HTN := Lib.hid htn
  clear htn
  go_wp2_with fail
  refine (rnum_any w3 (w.heap.size + 1) F3 _ _ HR3.out.2.1 hbs3).mono ?_
  rintro e w4 ⟨rfl, F4, R4, o4, f4⟩
  rw [HTN.out.1] at R4
  rw [HTN.out.2]
  have HR4 := Lib.hid (And.intro R4 (And.intro o4 f4))
  clear R4 o4 f4 HTN
  have hbs4 : w.heap.size + 1 ≤ w4.heap.size := Nat.le_trans hbs3 HR4.out.2.1.size
  obtain ⟨w5, hw5⟩ : ∃ w5, w5 = w4.alloc (.cells #[.bool o.th, .slice D3 o.dt.length cd3, .int .i64 o.sq, .slice none 0 0] 36) := ⟨_, rfl⟩
  obtain ⟨g, hg⟩ : ∃ g, g = w4.heap.size := ⟨_, rfl⟩
  have HT5 : Hid (Tks w ⟨o.th, o.dt, D3, cd3, o.sq, none, 0, []⟩ g (some ⟨gr, 0, none⟩) F4 (numB o.cl.length ++ o.cl.flatMap clT) w5) := Lib.hid (by
    rw [hw5, hg]
    have hb5 := below_alloc w4 (.cells #[.bool o.th, .slice D3 o.dt.length cd3, .int .i64 o.sq, .slice none 0 0] 36)
    obtain ⟨R1, b1⟩ := HR1.out
    obtain ⟨R2, o2, f2⟩ := HR2.out
    obtain ⟨ow3, R3, o3, f3, lt3, ap3⟩ := HR3.out
    obtain ⟨R4, o4, f4⟩ := HR4.out
    have ow4 : Own w4 w2.heap.size (.slice D3 o.dt.length cd3) o.dt.length o.dt := row_of ow3 fun k hk => o4.block k (row_under ow3 k hk) (ap3 k (mem_rowOf.1 hk))
    have res1 := H0.out.2.2.of (b1.block _ (by have := H0.out.2.1; omega))
    have nF : ∀ {F : List Nat} {wx : World} {s : RD}, Rd wx (w.heap.size + 1) F (some ⟨gr, 0, none⟩) s → w.heap.size ∉ F := fun hr hm => by have := hr.over _ hm; omega
    have res2 := res1.of (o2.block _ res1.lt (nF R1))
    have res3 := res2.of (o3.block _ res2.lt (nF R2))
    have res4 := res3.of (o4.block _ res3.lt (nF R3))
    have bel1 : Below w.heap.size w w1 := H0.out.1.trans (b1.mono H0.out.1.size)
    have ov : ∀ {F : List Nat} {wx : World} {s : RD}, Rd wx (w.heap.size + 1) F (some ⟨gr, 0, none⟩) s → Over w.heap.size F := fun hr k hm => by have := hr.over _ hm; omega
    have bel2 := bel1.trans (o2.below (ov R1) bel1.size)
    have bel3 := bel2.trans (o3.below (ov R2) bel2.size)
    have bel4 := bel3.trans (o4.below (ov R3) bel3.size)
    refine ⟨Blk.new w4 _ _, res4.alloc _, ⟨?_, lt3, OwnC.nil _ _ _, fun c hc => (by cases hc), HW.out.sq.1, HW.out.sq.2, List.pairwise_singleton _ _, List.Pairwise.nil⟩, R4.below hb5, bel4.alloc bel4.size _, hbs4, fun hm => by have := R4.under _ hm; omega, fun k hk hm => ?_, fun k hk => by simp [rowOf, Value.ownBlock] at hk, fun c hc => (by cases hc)⟩
    · exact (ow4.weaken hbs2).alloc _
    · rw [row_slice _ 0 0 o.dt.length cd3] at hk
      rcases f4 k hm with h' | h'
      · exact ap3 k (mem_rowOf.1 hk) h'
      · have := row_under ow3 k hk; omega)
  go_wp2_with fail
  rw [← hw5, ← hg]
  have hbs5 : w.heap.size + 1 ≤ w5.heap.size := by rw [hw5]; simp; omega
  clear hw5 hg HR1 HR2 HR3 HR4 H0 hbs hbs2 hbs3 hbs4 hl2
  obtain ⟨nn, hnn⟩ : ∃ nn, nn = o.cl.length := ⟨_, rfl⟩
  have htn := take_num o.cl.length (o.cl.flatMap clT) (by omega) (by omega)
  have HTN := Lib.hid htn
  clear htn
  refine (rnum_any w5 (w.heap.size + 1) F4 _ _ HT5.out.rd hbs5).mono ?_
  rintro e w6 ⟨rfl, F6, R6, o6, f6⟩
  rw [HTN.out.1] at R6
  rw [HTN.out.2, ← hnn]
  have HT6 := Lib.hid (HT5.out.read R6 o6 f6)
  rw [← hnn] at hc16
  have HNN := Lib.hid hnn
  clear R6 o6 f6 HT5 HTN hnn hbs5
  obtain ⟨N9, hN9⟩ : ∃ N9, N9 = nn := ⟨_, rfl⟩
  have HN9 := Lib.hid hN9
  clear hN9
  rcases (by omega : nn < 16 ∨ nn = 16) with h16 | rfl
  all_goals
    go_wp2
    go_loopw [20] (fun i wr => ∃ (k : Nat) (q : OA) (F : List Nat), k ≤ o.cl.length ∧ i = .int .i64 k ∧ Tks w q g (some ⟨gr, 0, none⟩) F ((o.cl.drop k).flatMap clT) wr ∧ q.th = o.th ∧ q.dt = o.dt ∧ q.sq = o.sq ∧ q.cl.map CA.v = o.cl.take k) (fun i _ => o.cl.length - (intOf i).toNat)
    case atStart => exact ⟨0, _, F6, by omega, rfl, by simpa using HT6.out, rfl, rfl, rfl, by simp⟩
    case round =>
      obtain ⟨k, q, F, hk, rfl, ht, hq1, hq2, hq3, hq4⟩ := hrel
      have HT := Lib.hid (And.intro ht (And.intro hq1 (And.intro hq2 (And.intro hq3 hq4))))
      clear ht hq1 hq2 hq3 hq4 HT6
      by_cases hle : k < N9
      · have hltc : k < o.cl.length := by have := HNN.out; have := HN9.out; omega
        have hk16 : k < 16 := by have := HN9.out; omega
        have hwk : IntKind.i64.wrap ((k : Int) + 1) = (k : Int) + 1 := by rw [IntKind.wrap_i64]; omega
        first
          | have hlt : k < nn := by have := HN9.out; omega
          | have hlt : decide ((k : Int) < 16) = true := decide_eq_true (by have := HN9.out; omega)
        obtain ⟨c, hck⟩ : ∃ c, o.cl[k]? = some c := ⟨_, List.getElem?_eq_getElem hltc⟩
        have hmem := List.mem_of_getElem? hck
        have hwc := HW.out.cl c hmem
        have hgc := HG.out.cl c hmem
        have hdrop : (o.cl.drop k).flatMap clT = numsB c.sn ++ ((numB c.dt.length ++ c.dt) ++ (o.cl.drop (k + 1)).flatMap clT) := by
          rw [List.drop_eq_getElem_cons (List.getElem?_eq_some_iff.1 hck).1, (List.getElem?_eq_some_iff.1 hck).2, List.flatMap_cons, clT_eq]
        have hdl : ((o.cl.drop k).flatMap clT).length ≤ n := by
          have h1 := HLF.out
          have h2 : (o.cl.flatMap clT).length = ((o.cl.take k).flatMap clT).length + ((o.cl.drop k).flatMap clT).length := by
            rw [← List.length_append, ← List.flatMap_append, List.take_append_drop]
          omega
        have hnb := nums_back c.sn ((numB c.dt.length ++ c.dt) ++ (o.cl.drop (k + 1)).flatMap clT) (by omega) hwc.2.1
        have hbb := bytes_back c.dt ((o.cl.drop (k + 1)).flatMap clT) (by have := hgc.dt; omega)
        rw [← hdrop] at hnb
        have hdl2 : ((numB c.dt.length ++ c.dt) ++ (o.cl.drop (k + 1)).flatMap clT).length ≤ n := by
          rw [hdrop, List.length_append] at hdl
          omega
        have HC := Lib.hid (And.intro hck (And.intro hnb (And.intro hbb (And.intro hwc (And.intro hdl hdl2)))))
        clear hck hnb hbb hwc hgc hmem hdrop hdl hdl2
        go_wp2
        have hOB : Blk wr.drew g 36 #[.bool q.th, .slice q.D q.dt.length q.cd, .int .i64 q.sq, .slice q.C q.cl.length q.cc] := HT.out.1.blk.drew
        have hT0 := HT.out.1.next (below_drew9 wr)
        have hsz0 : w.heap.size + 1 ≤ wr.drew.heap.size := by
          have h1 := HT.out.1.blk.lt
          have h2 := HT.out.1.far
          show _ ≤ wr.heap.size
          omega
        have HC8 : Hid (∀ w' : World, Blk w' g 36 #[.bool q.th, .slice q.D q.dt.length q.cd, .int .i64 q.sq, .slice q.C q.cl.length q.cc] → w'.cell? ⟨g, 3, none⟩ = some (.slice q.C q.cl.length q.cc)) := Lib.hid fun w' h => h.cell 3
        obtain ⟨i2, hi2, hv0, hv1, hv2⟩ := info_parts scl_info
        have HT0 := Lib.hid hT0
        clear hT0
        refine any_beginL (fun w' => Blk w' g 36 #[.bool q.th, .slice q.D q.dt.length q.cd, .int .i64 q.sq, .slice q.C q.cl.length q.cc]) 10 (by kernel_rfl) ?_
        refine L_take (i := 0) (v := .pointer (some ⟨g, 3, none⟩)) rfl rfl (by kernel_rfl) (by kernel_rfl) (by kernel_rfl) (by kernel_rfl) (fun _ _ _ h => h) (Or.inl ⟨by rfl, fun w hw => by go_simp⟩) hOB ?_
        simp only [Act.put, List.getElem_toArray, List.getElem_cons_succ, List.getElem_cons_zero, List.setIfInBounds_toArray, List.set_cons_zero, List.set_cons_succ]
        refine L_take (i := 1) (v := .slice q.C q.cl.length q.cc) rfl rfl (by kernel_rfl) (by kernel_rfl) (by kernel_rfl) (by kernel_rfl) (fun _ _ _ h => h) (Or.inl ⟨by rfl, fun w hw => by have q1 := HC8.out w hw; go_simp⟩) hOB ?_
        simp only [Act.put, List.getElem_toArray, List.getElem_cons_succ, List.getElem_cons_zero, List.setIfInBounds_toArray, List.set_cons_zero, List.set_cons_succ]
        refine L_take (i := 2) (v := .pointer (some ⟨gr, 0, none⟩)) rfl rfl (by kernel_rfl) (by kernel_rfl) (by kernel_rfl) (by kernel_rfl) (fun _ _ _ h => h) (Or.inl ⟨by rfl, fun w hw => by kernel_rfl⟩) hOB ?_
        simp only [Act.put, List.getElem_toArray, List.getElem_cons_succ, List.getElem_cons_zero, List.setIfInBounds_toArray, List.set_cons_zero, List.set_cons_succ]
        refine L_take (i := 4) (v := .pointer (some ⟨gr, 0, none⟩)) rfl rfl (by kernel_rfl) (by kernel_rfl) (by kernel_rfl) (by kernel_rfl) (fun _ _ _ h => h) (Or.inl ⟨by rfl, fun w hw => by kernel_rfl⟩) hOB ?_
        simp only [Act.put, List.getElem_toArray, List.getElem_cons_succ, List.getElem_cons_zero, List.setIfInBounds_toArray, List.set_cons_zero, List.set_cons_succ]
        refine L_one (j := 3) (by kernel_rfl) rfl (by rfl) ?_
        simp only [Act.put, List.getElem_toArray, List.getElem_cons_succ, List.getElem_cons_zero, List.setIfInBounds_toArray, List.set_cons_zero, List.set_cons_succ]
        refine wp_called (by go_simp) (rnums_far wr.drew (w.heap.size + 1) F _ _ HT0.out.rd hsz0 (by have := HC.out.2.2.2.2.1; simp only; omega)) ?_
        rintro e W1 ⟨v1, F1', rfl, on1, R1', o1', f1', ap1⟩
        rw [HC.out.2.1.1] at R1'
        rw [HC.out.2.1.2] at on1
        obtain ⟨A5, c5, rfl⟩ := on1.form2
        have hT1 := HT0.out.read R1' o1' f1'
        refine ⟨_, rfl, hT1.blk, ?_⟩
        simp only [Act.put, List.getElem_toArray, List.getElem_cons_succ, List.getElem_cons_zero, List.setIfInBounds_toArray, List.set_cons_zero, List.set_cons_succ]
        have hsz1 : w.heap.size + 1 ≤ W1.heap.size := Nat.le_trans hsz0 o1'.size
        refine L_one (j := 5) (by kernel_rfl) rfl (by rfl) ?_
        simp only [Act.put, List.getElem_toArray, List.getElem_cons_succ, List.getElem_cons_zero, List.setIfInBounds_toArray, List.set_cons_zero, List.set_cons_succ]
        refine wp_called (by go_simp) (rbytes_any W1 (w.heap.size + 1) F1' _ _ R1' hsz1 (by have := HC.out.2.2.2.2.2; simp only; omega)) ?_
        rintro e W2 ⟨v2, F2', rfl, ow2, R2', o2', f2', lt2, ap2⟩
        rw [HC.out.2.2.1.1] at R2'
        rw [HC.out.2.2.1.2] at ow2 lt2
        obtain ⟨A9, c9, rfl, -⟩ := ow2.form
        have hT2 := hT1.read R2' o2' f2'
        refine ⟨_, rfl, hT2.blk, ?_⟩
        simp only [Act.put, List.getElem_toArray, List.getElem_cons_succ, List.getElem_cons_zero, List.setIfInBounds_toArray, List.set_cons_zero, List.set_cons_succ]
        have on2 : OwnI W2 wr.drew.heap.size (.slice A5 c.sn.length c5) c.sn.length c.sn := row_of on1 fun k hk => o2'.block k (row_under on1 k hk) (ap1 k (mem_rowOf.1 hk))
        have hcN : CA.N (CA.mk c.sn c.dt A5 c5 A9 c9) W2 wr.drew.heap.size := ⟨on2, ow2.weaken o1'.size, lt2, HC.out.2.2.2.1.2.1⟩
        have hcF : (∀ k ∈ CA.sR (CA.mk c.sn c.dt A5 c5 A9 c9), k ∉ F2') ∧ ∀ k ∈ CA.dR (CA.mk c.sn c.dt A5 c5 A9 c9), k ∉ F2' := by
          refine ⟨fun k hk hm => ?_, fun k hk => ap2 k ?_⟩
          · have hk' : (Value.slice A5 c.sn.length c5).ownBlock = some k := by
              have := mem_rowOf.1 hk
              rw [← this]
              cases A5 <;> rfl
            rcases f2' k hm with h' | h'
            · exact ap1 k hk' h'
            · have := row_under on1 k (mem_rowOf.2 hk')
              omega
          · have := mem_rowOf.1 hk
            rw [← this]
            cases A9 <;> rfl
        have hfs : ∀ a ∈ q.cl.map CA.sR, ∀ k ∈ a, k ∉ CA.sR (CA.mk c.sn c.dt A5 c5 A9 c9) := fun a ha k hka hk => by
          obtain ⟨c0, hc0, rfl⟩ := List.mem_map.1 ha
          have h1 := ((HT0.out.own.cl c0 hc0).sU k hka).2.1
          have h2 := (hcN.sU k hk).1
          omega
        have hfd : ∀ a ∈ rowOf (.slice q.D 0 0) :: q.cl.map CA.dR, ∀ k ∈ a, k ∉ CA.dR (CA.mk c.sn c.dt A5 c5 A9 c9) := fun a ha k hka hk => by
          have h2 := (hcN.dU k hk).1
          rcases List.mem_cons.1 ha with rfl | ha
          · have h1 := (OA.P.dU HT0.out.own k hka).2.1
            omega
          · obtain ⟨c0, hc0, rfl⟩ := List.mem_map.1 ha
            have h1 := ((HT0.out.own.cl c0 hc0).dU k hka).2.1
            omega
        refine L_one (j := 6) (by kernel_rfl) rfl (by rfl) ?_
        simp only [Act.put, List.getElem_toArray, List.getElem_cons_succ, List.getElem_cons_zero, List.setIfInBounds_toArray, List.set_cons_zero, List.set_cons_succ]
        refine wp_ran (v := .agg #[.slice A5 c.sn.length c5, .slice A9 c.dt.length c9]) (w' := W2) (by kernel_rfl) ⟨hT2.blk, ?_⟩
        simp only [Act.put, List.getElem_toArray, List.getElem_cons_succ, List.getElem_cons_zero, List.setIfInBounds_toArray, List.set_cons_zero, List.set_cons_succ]
        have hbs := build_scl (CA.mk c.sn c.dt A5 c5 A9 c9) W2
        simp only at hbs
        refine L_one (j := 7) (by kernel_rfl) rfl (by rfl) ?_
        simp only [Act.put, List.getElem_toArray, List.getElem_cons_succ, List.getElem_cons_zero, List.setIfInBounds_toArray, List.set_cons_zero, List.set_cons_succ]
        refine wp_ran (v := .slice (some ⟨W2.heap.size, 0, none⟩) 1 1) (w' := W2.alloc (.cells (CA.cells (CA.mk c.sn c.dt A5 c5 A9 c9)).toArray 79)) (by go_simp <;> rfl) ⟨hT2.blk.alloc _, ?_⟩
        simp only [Act.put, List.getElem_toArray, List.getElem_cons_succ, List.getElem_cons_zero, List.setIfInBounds_toArray, List.set_cons_zero, List.set_cons_succ]
        have hrow1 := hT2.own.row
        rw [List.append_nil] at hrow1
        have hrow2 : OwnC 79 (W2.alloc (.cells (CA.cells (CA.mk c.sn c.dt A5 c5 A9 c9)).toArray 79)) (w.heap.size + 1) (.slice q.C q.cl.length q.cc) q.cl := World.ownsRow.alloc hrow1 _
        have hql2 : q.cl.length ≤ 16 := by
          have h1 := congrArg List.length HT.out.2.2.2.2
          rw [List.length_map, List.length_take] at h1
          have := HNN.out
          have := HN9.out
          omega
        have hwsz := hT2.bel.size
        have hwsz2 : w.heap.size + 1 ≤ W2.heap.size := Nat.le_trans hsz1 o2'.size
        refine L_one (j := 8) (by kernel_rfl) rfl (by rfl) ?_
        simp only [Act.put, List.getElem_toArray, List.getElem_cons_succ, List.getElem_cons_zero, List.setIfInBounds_toArray, List.set_cons_zero, List.set_cons_succ]
        refine wp_append_any _ (.tmp 23) (.tmp 29) 34 rfl (w.heap.size + 1) 79 i2 _ 2 48 Try.underlying34 hi2 hv0 hv1 hv2 rfl (by omega) (.slice q.C q.cl.length q.cc) q.cl.length (q.cl.flatMap CA.cells) rfl hrow2 _ (some ⟨W2.heap.size, 0, none⟩) 1 1 ([(CA.mk c.sn c.dt A5 c5 A9 c9)].flatMap CA.cells) rfl (one_cl W2 79 (CA.mk c.sn c.dt A5 c5 A9 c9)) (cells_one _) (by simp only [maxLen]; omega) (by omega) (by simp; omega) ?_
        intro v3 w3' h3 g3' a3
        have h3' : OwnC 79 w3' (w.heap.size + 1) v3 (q.cl ++ [(CA.mk c.sn c.dt A5 c5 A9 c9)]) := by unfold OwnC; rw [List.flatMap_append, List.length_append]; exact h3
        obtain ⟨A4, c4, rfl⟩ := h3'.form
        have S3 : Blk w3' g 36 #[.bool q.th, .slice q.D q.dt.length q.cd, .int .i64 q.sq, .slice q.C q.cl.length q.cc] := (hT2.blk.alloc _).grown g3' (fun e => own_blk_ne hrow2 (hT2.blk.alloc _) (by decide) e.symm)
        refine ⟨S3, ?_⟩
        simp only [Act.put, List.getElem_toArray, List.getElem_cons_succ, List.getElem_cons_zero, List.setIfInBounds_toArray, List.set_cons_zero, List.set_cons_succ]
        refine L_one (j := 9) (by kernel_rfl) rfl (by rfl) ?_
        simp only [Act.put, List.getElem_toArray, List.getElem_cons_succ, List.getElem_cons_zero, List.setIfInBounds_toArray, List.set_cons_zero, List.set_cons_succ]
        refine wp_ran (v := .pointer (some ⟨g, 3, none⟩)) (w' := w3') (by go_simp) ⟨S3, ?_⟩
        simp only [Act.put, List.getElem_toArray, List.getElem_cons_succ, List.getElem_cons_zero, List.setIfInBounds_toArray, List.set_cons_zero, List.set_cons_succ]
        refine L_last (by kernel_rfl) rfl (by rfl) (by kernel_rfl) ?_
        simp only [Act.put, List.getElem_toArray, List.getElem_cons_succ, List.getElem_cons_zero, List.setIfInBounds_toArray, List.set_cons_zero, List.set_cons_succ]
        refine wp_setq 34 (.tmp 31) (.tmp 30) rfl g 3 36 _ (.slice A4 (q.cl ++ [(CA.mk c.sn c.dt A5 c5 A9 c9)]).length c4) rfl rfl S3 (by simp) (by kernel_rfl) rfl ?_
        intro w4' K4 ho4 hs4
        refine NoPanic.normal ?_
        simp only [Act.put, List.getElem_toArray, List.getElem_cons_succ, List.getElem_cons_zero, List.setIfInBounds_toArray, List.set_cons_zero, List.set_cons_succ]
        have HNEW := Lib.hid (hT2.more (hcN.weaken hsz0) hcF hfs hfd h3' g3' a3 ho4 (by simpa using K4))
        have HVS : Hid ((q.cl ++ [(CA.mk c.sn c.dt A5 c5 A9 c9)]).map CA.v = o.cl.take (k + 1)) := Lib.hid (by
          rw [List.map_append, HT.out.2.2.2.2, take_snocI HC.out.1]
          rfl)
        clear K4 ho4 hs4 S3 h3 h3' g3' a3 hrow1 hrow2 hbs hfs hfd hcN hcF hT1 hT2 hi2 hv0 hv1 hv2 on1 on2 ow2 R1' R2' o1' o2' f1' f2' ap1 ap2 lt2
        go_wp2
        go_roundw
        case rel => exact ⟨k + 1, _, _, by omega, by go_num, HNEW.out, HT.out.2.1, HT.out.2.2.1, HT.out.2.2.2.1, HVS.out⟩
        case measure => simp [intOf]; omega
      · have HKL : Hid (k = o.cl.length) := Lib.hid (by have := HNN.out; have := HN9.out; omega)
        first
          | have hlt : ¬ k < nn := by have := HN9.out; omega
          | have hlt : decide ((k : Int) < 16) = false := decide_eq_false (by have := HN9.out; omega)
        have hqv : q.v = o := by
          show OV.mk q.th q.dt q.sq (q.cl.map CA.v) = o
          rw [HT.out.2.1, HT.out.2.2.1, HT.out.2.2.2.1, HT.out.2.2.2.2, HKL.out, List.take_length]
        have hqR := HT.out.1.own.R
        have hqS : q.Sm := by
          have e : q.cl.map CA.v = o.cl := congrArg OV.cl hqv
          refine ⟨by rw [HT.out.2.2.1]; omega, ?_, fun c hc => ?_⟩
          · have h1 := congrArg List.length e
            rw [List.length_map] at h1
            have := HNN.out
            have := HN9.out
            omega
          · have hm : c.v ∈ o.cl := by rw [← e]; exact List.mem_map.2 ⟨c, hc, rfl⟩
            exact ⟨(HW.out.cl c.v hm).1, by have := (HG.out.cl c.v hm).dt; exact Nat.le_trans this (by omega)⟩
        have HQ := Lib.hid (And.intro hqv (And.intro hqR hqS))
        have hsp := sput_any q hqR hqS
        have hcsq : q.cs = #[.bool q.th, .slice q.D q.dt.length q.cd, .int .i64 q.sq, .slice q.C q.cl.length q.cc] := rfl
        rw [hcsq] at hsp
        have HSP := Lib.hid hsp
        have K1 := HT.out.1.blk
        clear hqv hqR hqS hsp hcsq
        go_wp2_with (have _h := K1; refine wpList_loadq rfl 36 (.tmp 5) rfl g [.bool q.th, .slice q.D q.dt.length q.cd, .int .i64 q.sq, .slice q.C q.cl.length q.cc] _ rfl K1 Try.underlying36 rfl (by kernel_rfl) ?_; clear _h K1)
        refine HSP.out.mono ?_
        rintro e W7 ⟨b7, h7⟩
        rw [HQ.out.1] at h7
        rcases h7 with ⟨-, v7, rfl, ho7⟩ | ⟨hbad, -⟩
        · obtain ⟨A7, c7, rfl, -⟩ := ho7.form
          have hpl : ∀ b ∈ putV o, b < 256 := HB.out.2
          rw [hlb] at ho7
          have HT7 := Lib.hid (HT.out.1.next b7)
          have HQ7 := Lib.hid (equal9 A7 A _ n c7 c _ _ (putV o) (putV o) W7 (ho7.bytes hpl) (HB.out.since HT7.out.bel))
          rw [show (putV o == putV o) = true by simp] at HQ7
          have HB7 := Lib.hid b7
          clear ho7 hpl b7
          go_wp2_with fail
          refine HQ7.out.mono ?_
          rintro e W8 ⟨he, hw⟩
          subst he
          subst hw
          have K2 := HT7.out.blk
          have K3 := HT7.out.res
          go_wp2_with (first
            | (have _h := K2; refine wpList_loadq rfl 36 (.tmp 5) rfl g [.bool q.th, .slice q.D q.dt.length q.cd, .int .i64 q.sq, .slice q.C q.cl.length q.cc] _ rfl K2 Try.underlying36 rfl (by kernel_rfl) ?_; clear _h K2)
            | (have _h := K3; refine wpList_storeq rfl 36 (.tmp 2) (.tmp 48) rfl w.heap.size #[.bool false, .slice none 0 0, .int .i64 0, .slice none 0 0] [.bool q.th, .slice q.D q.dt.length q.cd, .int .i64 q.sq, .slice q.C q.cl.length q.cc] rfl rfl K3 rfl (by kernel_rfl) (OA.cs_one q) ?_; clear _h K3; intro W9 K9 ho9 hs9))
          refine bodyPost_ret (results_cell_tmp9 rfl _ _ w.heap.size 36 #[.bool q.th, .slice q.D q.dt.length q.cd, .int .i64 q.sq, .slice q.C q.cl.length q.cc] (0, 0) _ _ rfl rfl K9 Try.underlying36 rfl (by kernel_rfl)) rfl ?_
          have hb9 : Below w.heap.size w W9 := HT7.out.bel.trans (ho9.below (B := w.heap.size) (fun x hx => by simp at hx; omega) HT7.out.bel.size)
          refine ⟨q, rfl, HQ.out.1, ?_, hb9⟩
          exact OA.N.weaken (base := w.heap.size + 1) (OA.P.typed HT7.out.own fun x t cs hb ht => ho9.block x hb.lt (fun hm => by
            simp at hm
            subst hm
            refine hb.ne_ HT7.out.res ?_ rfl
            rcases ht with rfl | rfl | rfl <;> decide)) (by omega)
        · exact absurd (HQ.out.1 ▸ HG.out) (by rw [HQ.out.1]; exact hbad)
end Go.Proofs.Ytjepfeagbiceoaa
