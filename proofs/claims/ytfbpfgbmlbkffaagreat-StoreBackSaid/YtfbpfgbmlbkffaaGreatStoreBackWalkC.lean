/-
  The walk of the law StoreBack. Conditions: the scripts read as they are said to.
-/
import Derived.Test.YtfbpfgbmlbkffaaGreatZi
import Derived.Test.YtfbpfgbmlbkffaaGreatSkhC
namespace Go.Proofs.YtfbpfgbmlbkffaaGreat
open Go.RowKit Go.BigFrame
set_option linter.unusedSimpArgs false
set_option linter.unusedVariables false
set_option maxRecDepth 100000
set_option maxHeartbeats 32000000 in
theorem storeBack_walk {w : World} (x : Int) (hx1 : -9223372036854775808 ≤ x) (hx2 : x ≤ 9223372036854775807) (As : Option Addr) (cs : Nat) (os : List OpV) (hm : os.length ≤ cs ∧ cs ≤ 9223372036854775807) (hR : OpsR w As os) (Bs : Option Addr) (cb : Nat) (ob : List OpV) (hmb : ob.length ≤ cb ∧ cb ≤ 9223372036854775807) (hRb : OpsR w Bs ob) :
    Calls Tryz.prog 4 #[.int .i64 x, .slice As os.length cs, .slice Bs ob.length cb] w fun e w' => e = .returned (.bool true) ∧ Below w.heap.size w w' := by
  have HR := Lib.hid hR
  have HRB := Lib.hid hRb
  clear hR hRb
  obtain ⟨m, hm1, hmx⟩ := modq x 200 (by omega) (by omega)
  have hmx' : IntKind.i64.wrap ((IntKind.u64.wrap x).tmod 200) = (m : Int) := hmx
  clear hmx
  go_enter Tryz.func4, Tryz.ntmps4
  go_wp2_with fail
  refine (alive_any w).mono ?_
  rintro e w1 ⟨rfl, hb1⟩
  have HB1 := Lib.hid hb1
  have HLG := Lib.hid (large_any (c := cs) (HR.out.since hb1) hm.1 (by omega))
  clear hb1
  go_wp2_with fail
  refine HLG.out.mono ?_
  rintro e w2 ⟨rfl | ⟨rfl, hos, hes⟩, hb2⟩
  · have HB2 := Lib.hid (HB1.out.trans (hb2.mono HB1.out.size))
    clear hb2 HLG
    go_wp2
    go_ret
    exact ⟨rfl, HB2.out⟩
  have HB2 := Lib.hid (HB1.out.trans (hb2.mono HB1.out.size))
  have HES := Lib.hid hes
  clear hb2 HLG HB1 hes
  have HLB := Lib.hid (large_any (c := cb) (HRB.out.since HB2.out) hmb.1 (by omega))
  go_wp2_with fail
  refine HLB.out.mono ?_
  rintro e w2b ⟨rfl | ⟨rfl, hosb, hesb⟩, hb2b⟩
  · have HB2b := Lib.hid (HB2.out.trans (hb2b.mono HB2.out.size))
    clear hb2b HLB
    go_wp2
    go_ret
    exact ⟨rfl, HB2b.out⟩
  have HB2b := Lib.hid (HB2.out.trans (hb2b.mono HB2.out.size))
  have HESB := Lib.hid hesb
  clear hb2b HLB HB2 hesb
  have HN := Lib.hid (stnew_any m (by omega) w2b)
  go_wp2_with fail
  refine HN.out.mono ?_
  rintro e w3 ⟨p, rfl, hnew⟩
  obtain ⟨gs, ms, gp, r, c, A, rfl, hS⟩ := Sto.new (by omega) HB2b.out hnew
  have HS3 := Lib.hid hS
  clear hS hnew HN hmx'
  go_wp2_with fail
  go_loopw [38] (fun i wr => ∃ (k : Nat) (M : Mod) (kv : KV), k ≤ os.length ∧ i = .int .i64 k ∧ Sto (16 * k) w wr gs ms gp r c A M kv ∧ InvA (16 * k) M ∧ M.fl.length = m ∧ InvN M ∧ RiseM M) (fun i _ => os.length - (intS i).toNat)
  case atStart => exact ⟨0, _, _, by omega, rfl, HS3.out, invA0 m, by simp [M0], invN0 m, riseM0 m⟩
  case round =>
    obtain ⟨k, M, kv, hk, rfl, hS, hIA, hfl, hIN, hIR⟩ := hrel
    obtain ⟨wo, hwo⟩ : ∃ wo, wo = wr := ⟨_, rfl⟩
    subst hwo
    clear HS3
    have HS := Lib.hid hS
    have HIA := Lib.hid (And.intro hIA (And.intro hfl (And.intro hIN hIR)))
    clear hS hIA hfl hIN hIR
    have hwk : IntKind.i64.wrap ((k : Int) + 1) = (k : Int) + 1 := by rw [IntKind.wrap_i64]; omega
    by_cases hlt : k < os.length
    -- {R
    · obtain ⟨o, ho⟩ : ∃ o, os[k]? = some o := ⟨_, List.getElem?_eq_getElem hlt⟩
      have hRo := HR.out.since HS.out.bel
      obtain ⟨ad, rfl, hl, hc⟩ := hRo.get ho
      have hok := hRo.ok o (List.mem_of_getElem? ho)
      have hob := HES.out o (List.mem_of_getElem? ho)
      obtain ⟨wA, hwA⟩ : ∃ wA, wA = wo.alloc (.cells #[.string (strOf o.nm), .slice o.A o.l.length o.c, .int .i64 o.blk] 49) := ⟨_, rfl⟩
      have hbA : Below wo.heap.size wo wA := by rw [hwA]; exact (Below.refl _ _).alloc (Nat.le_refl _) _
      have hSA := HS.out.below hbA
      have HSA := Lib.hid hSA
      have hsl : o.l.length ≤ o.c := hok.cap
      have HSTP := Lib.hid ((hok.steps.tame hob.2.2).since hbA)
      have HOK := Lib.hid (And.intro hok.nm (And.intro hob.2.1 hob.1))
      have hsA := hbA.size
      have HWA := Lib.hid hwA
      have HSZ := Lib.hid hsA
      clear ho hRo hok hob hbA hwA hsA
      by_cases hz : o.l.length = 0
      · have HBK := Lib.hid (block_any hSA.at_.st o.blk)
        have hz1 : ((o.l.length : Int) == 0) = true := by rw [hz]; rfl
        have hz2 : decide ((o.l.length : Int) = 0) = true := decide_eq_true (by omega)
        have hz3 : (o.l.length : Int) = 0 := by omega
        clear hz hSA
        go_wp2_with (have _h := hc; refine wpList_load_op rfl (.tmp 40) rfl _ rfl o hc ?_; clear _h hc)
        rw [← HWA.out]
        refine HBK.out.mono ?_
        rintro e w6 ⟨rfl, hst6, hon6⟩
        have hS6 := HSA.out.block o.blk hst6 hon6
        have HFIN := Lib.hid (hS6.mono_ (m := 16 * (k + 1)) (by omega))
        clear hst6 hon6 hS6 HBK
        generalize blockE o.blk = eb
        go_wp2_with fail
        go_roundw
        case rel => exact ⟨k + 1, _, kv, by omega, by go_num, HFIN.out, (HIA.out.1.block o.blk).mono (by omega), HIA.out.2.1, HIA.out.2.2.1.block _, HIA.out.2.2.2.block _⟩
        case measure => simp [intS]; omega
      · have HD := Lib.hid (hSA.do_ (by omega) o.nm HOK.out.1 (by have := HOK.out.2.1; omega) (cs := o.c) HSTP.out (by have := HSZ.out; omega) hsl (by have := HOK.out.2.2; omega))
        have hz1 : ((o.l.length : Int) == 0) = false := beq_eq_false_iff_ne.2 (by omega)
        have hz2 : decide ((o.l.length : Int) = 0) = false := decide_eq_false (by omega)
        have hz3 : ¬ (o.l.length : Int) = 0 := by omega
        clear hz hSA
        go_wp2_with (have _h := hc; refine wpList_load_op rfl (.tmp 40) rfl _ rfl o hc ?_; clear _h hc)
        rw [← HWA.out]
        refine HD.out.mono ?_
        rintro e w4 hd
        obtain ⟨M4, k4, told4, v4, kv4, hr4, rfl, ht4, hS4, hf4, hb4, hon4⟩ := HSA.out.did hd
        have HFIN := Lib.hid (And.intro hS4 (And.intro (do_invA HSA.out.inv.keys HIA.out.1 hr4) (And.intro (hf4.trans HIA.out.2.1) (And.intro (do_invN HIA.out.2.2.1 hr4) (do_rise HIA.out.2.2.2 hr4)))))
        clear hd hr4 hS4 hf4 hb4 hon4 ht4 HD
        generalize errV k4 = ev4
        go_wp2_with fail
        go_roundw
        case rel => exact ⟨k + 1, M4, kv4, by omega, by go_num, HFIN.out.1, HFIN.out.2⟩
        case measure => simp [intS]; omega
    -- R}
    · obtain rfl : k = os.length := by omega
      have hpl := putM_len HS.out.inv HIA.out.1
      have hflm := HIA.out.2.1
      have HCP := Lib.hid (stput_any HS.out.at_ HS.out.inv (by omega) (by omega))
      have hln : (putM M).length ≤ 1000000 := by omega
      clear hpl
      go_wp2_with fail
      refine HCP.out.mono ?_
      rintro e w4 ⟨v4, rfl, hov4, hbc4, hsm4⟩
      obtain ⟨A4, c4, rfl⟩ := own_form hov4
      have hS4 := HS.out.below hbc4
      have htm := tkM_put hS4.inv HIA.out.2.2.1 HIA.out.2.2.2 (by omega)
      have HTK := Lib.hid (sttake_any (w := w4) (Z := [ms]) (fun z hz => by simp at hz; subst hz; exact hS4.at_.st.map.lt) (c := c4) (Own.bytes hov4 hsm4) hln (fun M' h' => by
        have h2 : some M' = some M := h'.symm.trans (tkP_put hS4.inv HIA.out.2.2.1 HIA.out.2.2.2 (by omega))
        injection h2 with h2
        subst h2
        exact ⟨_, hS4.inv.p, by omega, by omega⟩))
      have H4 := Lib.hid (And.intro hS4 htm)
      obtain ⟨np, hnp⟩ : ∃ np, np = (putM M).length := ⟨_, rfl⟩
      rw [← hnp] at HTK ⊢
      clear hov4 hbc4 hsm4 hS4 htm HCP hln hnp
      go_wp2_with fail
      refine HTK.out.mono ?_
      rintro e w5 ⟨hb5, ⟨hno, _⟩ | ⟨M', gs2, ms2, gp2, r2, c2, A2, kv2, hsome, rfl, hT, g1, g2, g3, g4⟩⟩
      · rw [H4.out.2] at hno
        cases hno
      obtain rfl : M' = M := by
        have := hsome.symm.trans H4.out.2
        injection this
      have hsat := H4.out.1.at_.st
      have hS5 : StoreAt w5 [ms2, ms] gs ms gp r c A M' kv := H4.out.1.at_.wide hb5 (fun z hz => by
        simp at hz
        rcases hz with rfl | rfl
        · exact .inr g2
        · exact .inl (by simp))
      have hne1 : ms2 ≠ ms := by have := hsat.map.lt; omega
      have hne2 : gp2 ≠ gp := by have := hsat.sp.blk.lt; omega
      have hne3 : M'.fl ≠ [] → r2 ≠ r := fun hf => by
        rcases hsat.sp.row with e | ⟨_, cs, hb, _⟩
        · exact absurd e hf
        · have := hb.lt; have := g4 hf; omega
      have hbw5 : Below w.heap.size w w5 := H4.out.1.bel.trans (hb5.mono H4.out.1.bel.size)
      have hz4 := H4.out.1.bel.size
      have HNE := Lib.hid (And.intro hne1 (And.intro hne2 hne3))
      have HLO : Hid ((∀ q ∈ ms :: foot gp r M'.fl, w.heap.size ≤ q) ∧ (∀ q ∈ ms2 :: foot gp2 r2 M'.fl, w.heap.size ≤ q)) := Lib.hid ⟨H4.out.1.footN, fun q hq => by
        rcases List.mem_cons.1 hq with e | hq
        · omega
        · rcases foot_mem hq with e | ⟨hf, e⟩
          · omega
          · have := g4 hf; omega⟩
      have H5 := Lib.hid (And.intro hS5 (And.intro hT (And.intro hbw5 (And.intro H4.out.1.inv (And.intro HIA.out.1 HIA.out.2.1)))))
      clear hsat hS5 hT hbw5 hne1 hne2 hne3 hb5 g1 g2 g3 g4 hsome HTK hz4 hflm
      go_wp2_with fail
      go_loopw [70] (fun i wr => ∃ (j : Nat) (M : Mod) (kv kv2 : KV), j ≤ ob.length ∧ i = .int .i64 j ∧ StoreAt wr [ms2, ms] gs ms gp r c A M kv ∧ StoreAt wr [ms2, ms] gs2 ms2 gp2 r2 c2 A2 M kv2 ∧ Below w.heap.size w wr ∧ Inv (16 * os.length + 16 * j) M ∧ InvA (16 * os.length + 16 * j) M ∧ M.fl.length = M'.fl.length) (fun i _ => ob.length - (intS i).toNat)
      case atStart => exact ⟨0, M', kv, kv2, by omega, rfl, H5.out.1, H5.out.2.1, H5.out.2.2.1, H5.out.2.2.2.1, H5.out.2.2.2.2.1, rfl⟩
      case round =>
        obtain ⟨j, M, kvj, kvj2, hj, rfl, hA, hB, hbw, hI, hIA, hfl⟩ := hrel
        obtain ⟨wo, hwo⟩ : ∃ wo, wo = wr := ⟨_, rfl⟩
        subst hwo
        have hwj : IntKind.i64.wrap ((j : Int) + 1) = (j : Int) + 1 := by rw [IntKind.wrap_i64]; omega
        by_cases hlt : j < ob.length
        -- {Q
        · obtain ⟨o, ho⟩ : ∃ o, ob[j]? = some o := ⟨_, List.getElem?_eq_getElem hlt⟩
          have hRo := HRB.out.since hbw
          obtain ⟨ad, rfl, hl, hc⟩ := hRo.get ho
          have hok := hRo.ok o (List.mem_of_getElem? ho)
          have hob := HESB.out o (List.mem_of_getElem? ho)
          obtain ⟨cO, hcO⟩ : ∃ cO : Array Value, cO = #[.string (strOf o.nm), .slice o.A o.l.length o.c, .int .i64 o.blk] := ⟨_, rfl⟩
          obtain ⟨wA, hwA⟩ : ∃ wA, wA = wo.alloc (.cells #[.string (strOf o.nm), .slice o.A o.l.length o.c, .int .i64 o.blk] 49) := ⟨_, rfl⟩
          obtain ⟨gO, hgO⟩ : ∃ gO, gO = wo.heap.size := ⟨_, rfl⟩
          have hbA : Below wo.heap.size wo wA := by rw [hwA]; exact (Below.refl _ _).alloc (Nat.le_refl _) _
          have KO : Blk wA gO 49 cO := by rw [hwA, hgO, hcO]; exact Blk.new wo _ _
          have hAA := hA.below hbA
          have hBA := hB.below hbA
          have hbwA : Below w.heap.size w wA := hbw.trans (hbA.mono hbw.size)
          have hsl : o.l.length ≤ o.c := hok.cap
          have hstp := (hok.steps.tame hob.2.2).since hbA
          have HSTW := Lib.hid ((HRB.out.ok o (List.mem_of_getElem? ho)).steps.tame hob.2.2)
          have HOK := Lib.hid (And.intro hok.nm (And.intro hob.2.1 hob.1))
          have hgOA : gO < wA.heap.size := KO.lt
          have hsA := hbA.size
          have HWA := Lib.hid hwA
          have HGO := Lib.hid hgO
          have HCO := Lib.hid hcO
          have hZl : ∀ z ∈ [ms2, ms], z < wA.heap.size := fun z hz => by
            simp at hz
            rcases hz with rfl | rfl
            · exact hBA.st.map.lt
            · exact hAA.st.map.lt
          have HD := Lib.hid (sdo_any hAA (by simp) hZl hI (by omega) o.nm HOK.out.1 (by have := HOK.out.2.1; omega) (cs := o.c) hstp (by omega) hsl (by have := HOK.out.2.2; omega))
          have HA := Lib.hid (And.intro hAA (And.intro hBA (And.intro hbwA (And.intro KO (And.intro hstp (And.intro hI (And.intro hIA hfl)))))))
          clear ho hRo hok hob hbA KO hwA hgO hcO hA hB hbw hI hIA hfl hAA hBA hbwA hstp hZl
          go_wp2_with (have _h := hc; refine wpList_load_op rfl (.tmp 72) rfl _ rfl o hc ?_; clear _h hc)
          rw [← HWA.out, ← HGO.out]
          refine HD.out.mono ?_
          rintro e w6 ⟨hon1, M1, k1, told1, v1, kv1, hr1, hst1, rfl, ht1⟩
          obtain ⟨i1, i2, i3⟩ := do_inv HA.out.2.2.2.2.2.1 hr1
          have hB1 := HA.out.1.aside HA.out.2.1 hon1 HNE.out.1 HNE.out.2.1 (fun hf _ => HNE.out.2.2 (fun e => hf (List.eq_nil_of_length_eq_zero (by rw [HA.out.2.2.2.2.2.2.2, e]; rfl)))) (by simp)
          have hfoot : foot gp r M.fl = foot gp r M'.fl := foot_same HA.out.2.2.2.2.2.2.2
          have hbw1 : Below w.heap.size w w6 := HA.out.2.2.1.trans (hon1.below (fun q hq => HLO.out.1 q (by rw [← hfoot]; exact hq)) HA.out.2.2.1.size)
          have K1 := HA.out.1.keep hon1 HA.out.2.2.2.1 (by decide) (by decide)
          have q0 : w6.cell? ⟨gO, 0, none⟩ = some (.string (strOf o.nm)) := by rw [K1.cell, HCO.out]; rfl
          have q1 : w6.cell? ⟨gO, 1, none⟩ = some (.slice o.A o.l.length o.c) := by rw [K1.cell, HCO.out]; rfl
          have hgO1 : gO < w6.heap.size := K1.lt
          have hZl1 : ∀ z ∈ [ms2, ms], z < w6.heap.size := fun z hz => by
            simp at hz
            rcases hz with rfl | rfl
            · exact hB1.st.map.lt
            · exact hst1.st.map.lt
          have hsz1 := hbw1.size
          have HD2 := Lib.hid (sdo_any hB1 (by simp) hZl1 HA.out.2.2.2.2.2.1 (by omega) o.nm HOK.out.1 (by have := HOK.out.2.1; omega) (cs := o.c) (HSTW.out.since hbw1) hsz1 hsl (by have := HOK.out.2.2; omega))
          obtain ⟨T1, ct1, tv1, rfl, -⟩ := id ht1
          have htl := do_told hr1
          rw [List.length_map] at htl
          have HT1 := Lib.hid (And.intro hst1 (And.intro hB1 (And.intro hbw1 (And.intro K1 (And.intro ht1 (And.intro hr1 (And.intro i1 (And.intro i2 (do_invA HA.out.2.2.2.2.2.1.keys HA.out.2.2.2.2.2.2.1 hr1)))))))))
          clear hst1 hB1 hbw1 K1 ht1 hr1 i1 i2 i3 hon1 hZl1 hfoot HD
          obtain ⟨ev1, hev1⟩ : ∃ ev1, ev1 = errV k1 := ⟨_, rfl⟩
          have HEV1 := Lib.hid hev1
          rw [← hev1]
          clear hev1
          go_wp2_with fail
          refine HD2.out.mono ?_
          rintro e w7 ⟨hon2, M2, k2, told2, v2, kv2', hr2, hst2, rfl, ht2⟩
          obtain ⟨rfl, rfl, rfl⟩ := dor_one HT1.out.2.2.2.2.2.1 hr2
          have hA2 := HT1.out.2.1.aside HT1.out.1 hon2 HNE.out.1.symm HNE.out.2.1.symm (fun hf _ => (HNE.out.2.2 (fun e => hf (List.eq_nil_of_length_eq_zero (by rw [HT1.out.2.2.2.2.2.2.2.1, HA.out.2.2.2.2.2.2.2, e]; rfl)))).symm) (by simp)
          have hfoot : foot gp2 r2 M.fl = foot gp2 r2 M'.fl := foot_same HA.out.2.2.2.2.2.2.2
          have hbw2 : Below w.heap.size w w7 := HT1.out.2.2.1.trans (hon2.below (fun q hq => HLO.out.2 q (by rw [← hfoot]; exact hq)) hsz1)
          have ht1' := HT1.out.2.1.told hon2 HT1.out.2.2.2.2.1
          obtain ⟨T2, ct2, tv2, rfl, -⟩ := id ht2
          have HRW := Lib.hid (rows_told ht1' ht2 (by have := HOK.out.2.2; omega))
          have HN1 := Lib.hid (num_any k1 w7)
          rw [← HEV1.out] at HN1 ⊢
          have H7 := Lib.hid (And.intro hA2 (And.intro hst2 hbw2))
          clear hA2 hst2 hbw2 ht1' ht2 hr2 hon2 hfoot HD2 q0 q1 HEV1
          go_wp2_with fail
          refine HN1.out.mono ?_
          rintro e w' ⟨rfl, rfl⟩
          go_wp2_with fail
          refine HN1.out.mono ?_
          rintro e w' ⟨rfl, rfl⟩
          go_wp2_with fail
          refine HRW.out.mono ?_
          rintro e w8 ⟨rfl, hb8⟩
          have HFIN := Lib.hid (And.intro (H7.out.1.below hb8) (And.intro (H7.out.2.1.below hb8) (H7.out.2.2.trans (hb8.mono H7.out.2.2.size))))
          clear hb8 HRW
          go_wp2_with fail
          go_roundw
          case rel => exact ⟨j + 1, M1, kv1, kv2', by omega, by go_num, HFIN.out.1, HFIN.out.2.1, HFIN.out.2.2, HT1.out.2.2.2.2.2.2.1, HT1.out.2.2.2.2.2.2.2.2, HT1.out.2.2.2.2.2.2.2.1.trans HA.out.2.2.2.2.2.2.2⟩
          case measure => simp [intS]; omega
        -- Q}
        · obtain rfl : j = ob.length := by omega
          have hpl := putM_len hI hIA
          have hflm := H5.out.2.2.2.2.2
          have HP1 := Lib.hid (stput_any hA hI (by omega) (by omega))
          have HK := Lib.hid (And.intro hA (And.intro hB (And.intro hbw hI)))
          have hln : (putM M).length ≤ 3000000 := by omega
          clear hA hB hbw hIA hpl hfl
          clear hI
          obtain ⟨lp, hlp⟩ : ∃ lp, lp = (putM M).length := ⟨_, rfl⟩
          have HLP := Lib.hid hlp
          rw [← hlp] at HP1 hln
          clear hlp
          go_wp2_with fail
          refine HP1.out.mono ?_
          rintro e w6 ⟨v6, rfl, hov6, hb6, hsm6⟩
          obtain ⟨A6, c6, rfl⟩ := own_form hov6
          have HP2 := Lib.hid (stput_any (HK.out.2.1.below hb6) HK.out.2.2.2 (by omega) (by rw [← HLP.out]; exact hln))
          rw [← HLP.out] at HP2
          have H6 := Lib.hid (And.intro hov6 (And.intro hb6 hsm6))
          clear hov6 hb6 hsm6 HP1
          go_wp2_with fail
          refine HP2.out.mono ?_
          rintro e w7 ⟨v7, rfl, hov7, hb7, -⟩
          obtain ⟨A7, c7, rfl⟩ := own_form hov7
          have hov6' := row_of H6.out.1 fun j hj => hb7.block j (row_under H6.out.1 j hj)
          have HSM := Lib.hid (same_by A6 A7 lp lp c6 c7 w7.heap.size w7.heap.size (putM M) (putM M) w7 (Own.bytes hov6' H6.out.2.2) (Own.bytes hov7 H6.out.2.2))
          have HBW := Lib.hid (HK.out.2.2.1.trans ((H6.out.2.1.trans (hb7.mono H6.out.2.1.size)).mono HK.out.2.2.1.size))
          clear hov6' hov7 hb7 HP2
          go_wp2_with fail
          refine HSM.out.mono ?_
          rintro e w8 ⟨b, rfl, hbt, rfl⟩
          obtain rfl := hbt trivial
          clear HSM
          go_wp2
          go_ret
          exact ⟨rfl, HBW.out⟩
end Go.Proofs.YtfbpfgbmlbkffaaGreat
