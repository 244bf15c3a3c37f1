/-
  The walk of the law StoreAlone. Conditions: the script reads as it is said to.
-/
import Derived.Test.YtncpcemcdmolcaaGreatZi
import Derived.Test.YtncpcemcdmolcaaGreatScgC
namespace Go.Proofs.YtncpcemcdmolcaaGreat
open Go.RowKit Go.BigFrame
set_option linter.unusedSimpArgs false
set_option linter.unusedVariables false
set_option maxRecDepth 100000
set_option maxHeartbeats 16000000 in
theorem storeAlone_walk {w : World} (x : Int) (hx1 : -9223372036854775808 ≤ x) (hx2 : x ≤ 9223372036854775807) (As : Option Addr) (cs : Nat) (os : List OpV) (hm : os.length ≤ cs ∧ cs ≤ 9223372036854775807) (hR : OpsR w As os) :
    Calls Tryz.prog 7 #[.int .i64 x, .slice As os.length cs] w fun e w' => e = .returned (.bool true) ∧ Below w.heap.size w w' := by
  have HR := Lib.hid hR
  clear hR
  obtain ⟨m, hm1, hmx⟩ := modq x 200 (by omega) (by omega)
  have hmx' : IntKind.i64.wrap ((IntKind.u64.wrap x).tmod 200) = (m : Int) := hmx
  clear hmx
  go_enter Tryz.func7, Tryz.ntmps7
  go_wp2_with fail
  refine (alive_any w).mono ?_
  rintro e w1 ⟨rfl, hb1⟩
  have HB1 := Lib.hid hb1
  have HLG := Lib.hid (large_any (c := cs) (HR.out.since hb1) hm.1 (by omega))
  clear hb1
  go_wp2_with fail
  refine HLG.out.mono ?_
  rintro e w2 ⟨rfl | ⟨rfl, hos, hes⟩, hb2⟩
  · have HB2 := Lib.hid (HB1.out.trans (hb2.mono HB1.out.size))
    clear hb2 HLG
    go_wp2
    go_ret
    exact ⟨rfl, HB2.out⟩
  have HB2 := Lib.hid (HB1.out.trans (hb2.mono HB1.out.size))
  have HES := Lib.hid hes
  clear hb2 HLG HB1 hes
  have HN := Lib.hid (stnew_any m (by omega) w2)
  go_wp2_with fail
  refine HN.out.mono ?_
  rintro e w3 ⟨p, rfl, hnew⟩
  obtain ⟨gs, ms, gp, r, c, A, rfl, hS⟩ := Sto.new (by omega) HB2.out hnew
  have HS3 := Lib.hid hS
  clear hS hnew HN hmx'
  go_wp2_with fail
  go_loopw [32] (fun i wr => ∃ (k : Nat) (M : Mod) (kv : KV), k ≤ os.length ∧ i = .int .i64 k ∧ Sto (16 * k) w wr gs ms gp r c A M kv) (fun i _ => os.length - (intS i).toNat)
  case atStart => exact ⟨0, _, _, by omega, rfl, HS3.out⟩
  case round =>
    obtain ⟨k, M, kv, hk, rfl, hS⟩ := hrel
    obtain ⟨wo, hwo⟩ : ∃ wo, wo = wr := ⟨_, rfl⟩
    subst hwo
    clear HS3
    have HS := Lib.hid hS
    clear hS
    have hwk : IntKind.i64.wrap ((k : Int) + 1) = (k : Int) + 1 := by rw [IntKind.wrap_i64]; omega
    by_cases hlt : k < os.length
    -- {R
    · obtain ⟨o, ho⟩ : ∃ o, os[k]? = some o := ⟨_, List.getElem?_eq_getElem hlt⟩
      have hRo := HR.out.since HS.out.bel
      obtain ⟨ad, rfl, hl, hc⟩ := hRo.get ho
      have hok := hRo.ok o (List.mem_of_getElem? ho)
      have hob := HES.out o (List.mem_of_getElem? ho)
      obtain ⟨cO, hcO⟩ : ∃ cO : Array Value, cO = #[.string (strOf o.nm), .slice o.A o.l.length o.c, .int .i64 o.blk] := ⟨_, rfl⟩
      obtain ⟨wA, hwA⟩ : ∃ wA, wA = wo.alloc (.cells #[.string (strOf o.nm), .slice o.A o.l.length o.c, .int .i64 o.blk] 49) := ⟨_, rfl⟩
      obtain ⟨gO, hgO⟩ : ∃ gO, gO = wo.heap.size := ⟨_, rfl⟩
      have hbA : Below wo.heap.size wo wA := by rw [hwA]; exact (Below.refl _ _).alloc (Nat.le_refl _) _
      have KO : Blk wA gO 49 cO := by rw [hwA, hgO, hcO]; exact Blk.new wo _ _
      have hSA := HS.out.below hbA
      have HSA := Lib.hid hSA
      have hsl : o.l.length ≤ o.c := hok.cap
      have HSTP := Lib.hid ((hok.steps.tame hob.2.2).since hbA)
      have HOK := Lib.hid (And.intro hok.nm (And.intro hob.2.1 hob.1))
      have hgOA : gO < wA.heap.size := KO.lt
      have hsA := hbA.size
      have HWA := Lib.hid hwA
      have HGO := Lib.hid hgO
      have HKO := Lib.hid KO
      have HCO := Lib.hid hcO
      have HSZ := Lib.hid hsA
      have hcp := stcopy_any hSA.at_.st
      have HCP := Lib.hid hcp
      clear ho hRo hok hob hbA hSA KO hwA hgO hcO hsA hcp
      go_wp2_with (have _h := hc; refine wpList_load_op rfl (.tmp 34) rfl _ rfl o hc ?_; clear _h hc)
      rw [← HWA.out, ← HGO.out]
      refine HCP.out.mono ?_
      rintro e w1 ⟨gs2, ms2, gp2, r2, c2, A2, rfl, hst2, b1, b2, b3, b4, hbc⟩
      have hA1 : StoreAt w1 [ms, ms2] gs ms gp r c A M kv := HSA.out.at_.wide hbc (fun z hz => by
        simp at hz
        rcases hz with rfl | rfl
        · exact .inl (by simp)
        · exact .inr b2)
      have hB1 : StoreAt w1 [ms, ms2] gs2 ms2 gp2 r2 c2 A2 M kv := ⟨hst2, hA1.obs⟩
      have hsat := HSA.out.at_.st
      have hne1 : ms2 ≠ ms := by have := hsat.map.lt; omega
      have hne2 : gp2 ≠ gp := by have := hsat.sp.blk.lt; omega
      have hne3 : M.fl ≠ [] → r2 ≠ r := fun hf => by
        rcases hsat.sp.row with e | ⟨_, cs, hb, _⟩
        · exact absurd e hf
        · have := hb.lt; omega
      have hbw1 : Below w.heap.size w w1 := HSA.out.bel.trans (hbc.mono HSA.out.bel.size)
      have hbAs := HSA.out.bel.size
      have HNE := Lib.hid (And.intro hne1 (And.intro hne2 hne3))
      have HLO : Hid (w.heap.size ≤ ms2 ∧ w.heap.size ≤ gp2 ∧ w.heap.size ≤ r2) := Lib.hid ⟨by omega, by omega, by omega⟩
      have K1 := HKO.out.of (hbc.block _ HKO.out.lt)
      have q0 : w1.cell? ⟨gO, 0, none⟩ = some (.string (strOf o.nm)) := by rw [K1.cell, HCO.out]; rfl
      have q1 : w1.cell? ⟨gO, 1, none⟩ = some (.slice o.A o.l.length o.c) := by rw [K1.cell, HCO.out]; rfl
      have H1 := Lib.hid (And.intro hA1 (And.intro hB1 (And.intro hbw1 K1)))
      have hZl : ∀ z ∈ [ms, ms2], z < w1.heap.size := fun z hz => by
        simp at hz
        rcases hz with rfl | rfl
        · exact hA1.st.map.lt
        · exact hB1.st.map.lt
      have hsc := hbc.size
      have HZL := Lib.hid hZl
      have HD := Lib.hid (sdo_any hA1 (by simp) hZl HSA.out.inv (by omega) o.nm HOK.out.1 (by have := HOK.out.2.1; omega) (cs := o.c) (HSTP.out.since hbc) (by have := HSZ.out; omega) hsl (by have := HOK.out.2.2; omega))
      clear hA1 hB1 hsat hne1 hne2 hne3 hbw1 hbAs K1 hst2 b1 b2 b3 b4 hbc HCP HSTP hZl
      go_wp2_with fail
      refine HD.out.mono ?_
      rintro e w2 ⟨hon, M4, k4, told4, v4, kv4, hr4, hst4, rfl, ht4⟩
      generalize errV k4 = ev4
      obtain ⟨i1, i2, i3⟩ := do_inv HSA.out.inv hr4
      have hB2 := H1.out.1.aside H1.out.2.1 hon HNE.out.1 HNE.out.2.1 (fun _ => HNE.out.2.2) (by simp)
      have hfoot : ∀ q ∈ ms :: foot gp r M.fl, w.heap.size ≤ q := HSA.out.footN
      have hbw2 : Below w.heap.size w w2 := H1.out.2.2.1.trans (hon.below hfoot H1.out.2.2.1.size)
      have K2 := H1.out.1.keep hon H1.out.2.2.2 (by decide) (by decide)
      have HDR := Lib.hid hr4
      have H2 := Lib.hid (And.intro hst4 (And.intro hB2 (And.intro hbw2 (And.intro K2 (And.intro i1 i2)))))
      have hkl : kv.length ≤ 1000000 := by rw [H1.out.1.obs.len]; have := HSA.out.inv.few; omega
      have hkl4 : kv4.length ≤ 1000000 := by rw [hst4.obs.len]; have := i1.few; omega
      have hgO2 : gO < w2.heap.size := K2.lt
      have HN1 := Lib.hid (names_any hB2.st hkl)
      rw [show noS = { data := #[] } from by kernel_rfl] at HN1
      have HKL := Lib.hid (And.intro hkl hkl4)
      clear hr4 hst4 hB2 hbw2 K2 i1 i2 i3 hon ht4 hfoot hkl hkl4 q0 q1 HD
      go_wp2_with fail
      refine HN1.out.mono ?_
      rintro e w4 ⟨vn1, ns1, rfl, hp1, -, hrow1, hb24⟩
      obtain ⟨An1, cn1, rfl, hcn1, -⟩ := hrow1.form
      have HN2 := Lib.hid (names_any (H2.out.1.below hb24).st HKL.out.2)
      rw [show noS = { data := #[] } from by kernel_rfl] at HN2
      have hs24 := hb24.size
      have H4 := Lib.hid (And.intro hp1 (And.intro hrow1 hb24))
      clear hp1 hrow1 hb24 HN1
      go_wp2_with fail
      refine HN2.out.mono ?_
      rintro e w5 ⟨vn2, ns2, rfl, hp2, -, hrow2, hb45⟩
      obtain ⟨An2, cn2, rfl, hcn2, -⟩ := hrow2.form
      have hl1 : ns1.length ≤ 1000000 := by rw [H4.out.1.length_eq, List.length_map]; exact HKL.out.1
      have hl2 : ns2.length ≤ 1000000 := by rw [hp2.length_eq, List.length_map]; exact HKL.out.2
      have hs45 := hb45.size
      have H5 := Lib.hid (And.intro hp2 (And.intro hrow2.reads (And.intro (H4.out.2.1.below hb45) (H4.out.2.2.trans (hb45.mono hs24)))))
      obtain ⟨ns, hns⟩ : ∃ ns, ns = ns1 ++ ns2 := ⟨_, rfl⟩
      have HNS := Lib.hid hns
      have hnl : ns.length ≤ 3000000 := by rw [hns, List.length_append]; omega
      clear hp2 hrow2 hb45 HN2 hns
      go_wp2_with (refine app_names (.tmp 48) (.tmp 50) rfl rfl w2.heap.size An1 cn1 ns1 rfl H5.out.2.2.1 w5.heap.size An2 cn2 ns2 rfl H5.out.2.1 ns HNS.out (by omega) (by omega) ?_; intro A6 c6 w6 hrow6 hb56)
      have hb26 : Below w2.heap.size w2 w6 := H5.out.2.2.2.trans hb56
      have H6 := Lib.hid (And.intro hrow6 hb26)
      clear hrow6 hb56 hb26
      go_loopw [53] (fun iv wr => ∃ (j : Nat) (Ma Mb : Mod) (kva kvb : KV), j ≤ ns.length ∧ iv = .int .i64 j ∧ StoreAt wr [ms, ms2] gs ms gp r c A Ma kva ∧ StoreAt wr [ms, ms2] gs2 ms2 gp2 r2 c2 A2 Mb kvb ∧ Inv (16 * k + 16) Ma ∧ Inv (16 * k) Mb ∧ Ma.fl.length = M.fl.length ∧ Mb.fl = M.fl ∧ (∀ q, gget Ma.ob q = gget M4.ob q) ∧ (∀ q, gget Mb.ob q = gget M.ob q) ∧ Blk wr gO 49 cO ∧ NamR wr w2.heap.size (.slice A6 ns.length c6) ns ∧ Below w.heap.size w wr) (fun iv _ => ns.length - (intS iv).toNat)
      case atStart => exact ⟨0, M4, M, kv4, kv, by omega, rfl, H2.out.1.below H6.out.2, H2.out.2.1.below H6.out.2, H2.out.2.2.2.2.1, HSA.out.inv, H2.out.2.2.2.2.2, rfl, fun _ => rfl, fun _ => rfl, H2.out.2.2.2.1.of (H6.out.2.block _ H2.out.2.2.2.1.lt), H6.out.1, H2.out.2.2.1.trans (H6.out.2.mono H2.out.2.2.1.size)⟩
      case round =>
        obtain ⟨j, Ma, Mb, kva, kvb, hj, rfl, hA, hB, hIa, hIb, hfa, hfb, hsa, hsb, KR, hrow, hbw⟩ := hrel
        obtain ⟨wq, hwq⟩ : ∃ wq, wq = wr := ⟨_, rfl⟩
        subst hwq
        have hwj : IntKind.i64.wrap ((j : Int) + 1) = (j : Int) + 1 := by rw [IntKind.wrap_i64]; omega
        have q0 : wq.cell? ⟨gO, 0, none⟩ = some (.string (strOf o.nm)) := by rw [KR.cell, HCO.out]; rfl
        have hgq : gO < wq.heap.size := KR.lt
        have HQ := Lib.hid (And.intro hA (And.intro hB (And.intro hIa (And.intro hIb (And.intro hfa (And.intro hfb (And.intro hsa (And.intro hsb (And.intro KR (And.intro hrow hbw))))))))))
        clear hA hB hIa hIb hfa hfb hsa hsb KR hrow hbw
        by_cases hltj : j < ns.length
        -- {Q
        · obtain ⟨kq, hkq⟩ : ∃ kq, ns[j]? = some kq := ⟨_, List.getElem?_eq_getElem hltj⟩
          have hmem : kq ∈ ns1 ++ ns2 := by rw [← HNS.out]; exact List.mem_of_getElem? hkq
          obtain ⟨nm, hknm, hname⟩ : ∃ nm, kq = keyB nm ∧ isNameB nm = true := by
            rcases List.mem_append.1 hmem with h | h
            · obtain ⟨_, nm, _, e, hn⟩ := key_there HSA.out.inv H1.out.1.obs H4.out.1 h
              exact ⟨nm, e, hn⟩
            · obtain ⟨_, nm, _, e, hn⟩ := key_there H2.out.2.2.2.2.1 H2.out.1.obs H5.out.1 h
              exact ⟨nm, e, hn⟩
          obtain ⟨ad2, u2, rfl, hab2, hu2, hc2⟩ := (NamR.reads HQ.out.2.2.2.2.2.2.2.2.2.1).at_ hltj
          have hu2' : u2 = .string (strOf nm) := by
            rw [List.getElem?_map, hkq, Option.map_some] at hu2
            injection hu2 with hu2
            rw [← hu2, keyV_nm hknm]
          subst hu2'
          by_cases heq : (strOf nm).toList = (strOf o.nm).toList
          · have hee : ((strOf nm).toList == (strOf o.nm).toList) = true := by rw [heq]; exact beq_self_eq_true _
            clear hkq hmem hknm hname hu2 heq
            go_wp2_with fail
            go_roundw
            case rel => exact ⟨j + 1, Ma, Mb, kva, kvb, by omega, by go_num, HQ.out⟩
            case measure => simp [intS]; omega
          · have hee : ((strOf nm).toList == (strOf o.nm).toList) = false := beq_eq_false_iff_ne.2 heq
            have hkne : keyB nm ≠ keyB o.nm := key_ne (fun e => heq (by rw [e]))
            have hot := do_other HSA.out.inv.keys HDR.out hkne
            obtain ⟨ob, hob⟩ : ∃ ob, gget M.ob (keyB nm) = some ob := by
              rcases List.mem_append.1 hmem with h | h
              · obtain ⟨ob, _, hg, _⟩ := key_there HSA.out.inv H1.out.1.obs H4.out.1 h
                exact ⟨ob, hknm ▸ hg⟩
              · obtain ⟨ob, _, hg, _⟩ := key_there H2.out.2.2.2.2.1 H2.out.1.obs H5.out.1 h
                rw [hknm, hot] at hg
                exact ⟨ob, hg⟩
            have hga : gget Ma.ob (keyB nm) = some ob := by rw [HQ.out.2.2.2.2.2.2.1, hot, hob]
            have hgb : gget Mb.ob (keyB nm) = some ob := by rw [HQ.out.2.2.2.2.2.2.2.1, hob]
            obtain ⟨hsm, hnml⟩ := name_small hname
            have HG := Lib.hid (And.intro hga (And.intro hgb (And.intro hname (And.intro hsm hnml))))
            have hbX : Below wq.heap.size wq (wq.alloc (.cells cellsR 69)) := below_alloc_x _ _
            have hZl : ∀ {W : World}, Below wq.heap.size wq W → ∀ z ∈ [ms, ms2], z < W.heap.size := fun {W} hb z hz => by
              have hs := hb.size
              simp at hz
              rcases hz with rfl | rfl
              · have := HQ.out.1.st.map.lt; omega
              · have := HQ.out.2.1.st.map.lt; omega
            have HD1 := Lib.hid (sdo_any (HQ.out.1.below hbX) (by simp) (hZl hbX) HQ.out.2.2.1 (by omega) nm hsm hnml (cs := 1) (one_read wq) (by simp) (by simp) (by simp))
            have hbs1 : ∀ w, (Instr.buildSlice 47 1 #[(0, .agg #[.int .i64 13, .int .i64 0, .int .i64 65536, .string { data := #[] }, .slice none 0 0])]).run Tryz.prog w = .ok (.slice (some ⟨w.heap.size, 0, none⟩) 1 1) (w.alloc (.cells cellsR 69)) := fun w => by kernel_rfl
            simp only [List.length_singleton] at HD1
            clear hkq hmem hknm hname hu2 heq hkne hot hob hga hgb hsm hnml hbX hZl
            go_wp2_with fail
            refine HD1.out.mono ?_
            rintro e w7 ⟨hon7, M7, k7, told7, v7, kv7, hr7, hst7, rfl, ht7⟩
            obtain ⟨rfl, rfl, hI7, hbl7, hfl7, hs7⟩ := read_same HQ.out.2.2.1 HG.out.2.2.1 HG.out.1 hr7
            obtain ⟨T7, ct7, rfl⟩ : ∃ T7 ct7, v7 = .slice T7 1 ct7 := by
              obtain ⟨T7, ct7, _, e, _⟩ := ht7
              exact ⟨T7, ct7, e⟩
            have hX := below_alloc_x wq (.cells cellsR 69)
            have hA0 := HQ.out.1.below hX
            have hB0 := HQ.out.2.1.below hX
            have hB7 := hA0.aside hB0 hon7 HNE.out.1 HNE.out.2.1 (fun hf _ => HNE.out.2.2 (by rw [← HQ.out.2.2.2.2.2.1]; exact hf)) (by simp)
            have hrow7 : NamR w7 w2.heap.size (.slice (some ad2) ns.length c6) ns := hA0.row hon7 (NamR.below HQ.out.2.2.2.2.2.2.2.2.2.1 hX) (by decide) (by decide)
            have hK7 := hA0.keep hon7 (HQ.out.2.2.2.2.2.2.2.2.1.of (hX.block _ hgq)) (by decide) (by decide)
            have hft : ∀ q ∈ ms :: foot gp r Ma.fl, w.heap.size ≤ q := by rw [foot_len HQ.out.2.2.2.2.1]; exact HS.out.footN
            have hbw7 : Below w.heap.size w w7 := by
              have h1 := HQ.out.2.2.2.2.2.2.2.2.2.2
              have h2 := h1.trans (hX.mono h1.size)
              exact h2.trans (hon7.below hft h2.size)
            have hZl7 : ∀ z ∈ [ms, ms2], z < (w7.alloc (.cells cellsR 69)).heap.size := fun z hz => by
              rw [World.size_alloc]
              simp at hz
              rcases hz with rfl | rfl
              · have := hst7.st.map.lt; omega
              · have := hB7.st.map.lt; omega
            have hY := below_alloc_x w7 (.cells cellsR 69)
            have HD2 := Lib.hid (sdo_any (hB7.below hY) (by simp) hZl7 HQ.out.2.2.2.1 (by omega) nm HG.out.2.2.2.1 HG.out.2.2.2.2 (cs := 1) (one_read w7) (by simp) (by simp) (by simp))
            simp only [List.length_singleton] at HD2
            have H7 := Lib.hid (And.intro hst7 (And.intro hB7 (And.intro hrow7 (And.intro hK7 (And.intro hbw7 (And.intro ht7 (And.intro hI7 (And.intro hfl7 hs7))))))))
            clear hr7 hon7 hst7 ht7 hI7 hbl7 hfl7 hs7 hX hA0 hB0 hB7 hrow7 hK7 hft hbw7 hZl7 hY HD1
            simp only [errV]
            go_wp2_with fail
            refine HD2.out.mono ?_
            rintro e w8 ⟨hon8, M8, k8, told8, v8, kv8, hr8, hst8, rfl, ht8⟩
            obtain ⟨rfl, rfl, hI8, hbl8, hfl8, hs8⟩ := read_same HQ.out.2.2.2.1 HG.out.2.2.1 HG.out.2.1 hr8
            obtain ⟨T8, ct8, rfl⟩ : ∃ T8 ct8, v8 = .slice T8 1 ct8 := by
              obtain ⟨T8, ct8, _, e, _⟩ := ht8
              exact ⟨T8, ct8, e⟩
            have hY := below_alloc_x w7 (.cells cellsR 69)
            have hA0 := H7.out.1.below hY
            have hB0 := H7.out.2.1.below hY
            have hA8 := hB0.aside hA0 hon8 (Ne.symm HNE.out.1) (Ne.symm HNE.out.2.1) (fun _ hf => Ne.symm (HNE.out.2.2 (by rw [← HQ.out.2.2.2.2.2.1]; exact hf))) (by simp)
            have hrow8 : NamR w8 w2.heap.size (.slice (some ad2) ns.length c6) ns := hB0.row hon8 (NamR.below H7.out.2.2.1 hY) (by decide) (by decide)
            have hK8 := hB0.keep hon8 (H7.out.2.2.2.1.of (hY.block _ H7.out.2.2.2.1.lt)) (by decide) (by decide)
            have hft : ∀ q ∈ ms2 :: foot gp2 r2 Mb.fl, w.heap.size ≤ q := fun q hq => by
              rcases List.mem_cons.1 hq with rfl | hq
              · exact HLO.out.1
              · rcases foot_mem hq with rfl | ⟨_, rfl⟩
                · exact HLO.out.2.1
                · exact HLO.out.2.2
            have hbw8 : Below w.heap.size w w8 := by
              have h1 := H7.out.2.2.2.2.1
              have h2 := h1.trans (hY.mono h1.size)
              exact h2.trans (hon8.below hft h2.size)
            have ht7 := hB0.told hon8 (H7.out.2.2.2.2.2.1.below hY)
            have hga7 : gget M7.ob (keyB nm) = some ob := by rw [H7.out.2.2.2.2.2.2.2.2, HG.out.1]
            have hgb8 : gget M8.ob (keyB nm) = some ob := by rw [hs8, HG.out.2.1]
            obtain ⟨ha1, ha2, ha3⟩ := ob_small H7.out.2.2.2.2.2.2.1 hga7 (by omega)
            have HAA := Lib.hid (And.intro ha1 (And.intro ha2 ha3))
            have HRW : Hid (Calls Tryz.prog 22 #[.slice T7 1 ct7, .slice T8 1 ct8] w8 fun e w' => e = .returned (.bool true) ∧ Below w8.heap.size w8 w') := Lib.hid (by
              obtain ⟨T, c0, tv, e, o1, o2⟩ := ht7
              injection e with e1 _ e3
              subst e1 e3
              obtain ⟨T', c0', tv', e', o1', o2'⟩ := ht8
              injection e' with e1 _ e3
              subst e1 e3
              exact rows_same (told := [ob.d]) (Reads.of_own o1) (Reads.of_own o1') o2 o2' (by simp))
            have H8 := Lib.hid (And.intro hA8 (And.intro hst8 (And.intro hrow8 (And.intro hK8 (And.intro hbw8 (And.intro hI8 (And.intro hfl8 (And.intro hs8 (And.intro hga7 hgb8)))))))))
            clear hr8 hon8 hst8 ht8 hI8 hbl8 hfl8 hs8 hY hA0 hB0 hA8 hrow8 hK8 hft hbw8 ht7 hga7 hgb8 ha1 ha2 ha3 HD2 hbs1
            simp only [errV]
            go_wp2_with fail
            refine HRW.out.mono ?_
            rintro e w9 ⟨rfl, hb9⟩
            have HX1 := Lib.hid ((H8.out.1.below hb9).attrs nm HG.out.2.2.2.2 H8.out.2.2.2.2.2.2.2.2.1 HAA.out.1 HAA.out.2.2)
            have HB9 := Lib.hid hb9
            clear hb9 HRW
            go_wp2_with fail
            refine HX1.out.mono ?_
            rintro e w10 ⟨X1, y1, rfl, hb10⟩
            have hb := HB9.out.trans (hb10.mono HB9.out.size)
            have HX2 := Lib.hid ((H8.out.2.1.below hb).attrs nm HG.out.2.2.2.2 H8.out.2.2.2.2.2.2.2.2.2 HAA.out.1 HAA.out.2.2)
            have HB10 := Lib.hid hb
            clear hb hb10 HX1 HB9
            go_wp2_with fail
            refine HX2.out.mono ?_
            rintro e w11 ⟨X2, y2, rfl, hb11⟩
            have hb := HB10.out.trans (hb11.mono HB10.out.size)
            have HX3 := Lib.hid ((H8.out.1.below hb).extents nm HG.out.2.2.2.2 H8.out.2.2.2.2.2.2.2.2.1 HAA.out.2.1)
            have HB11 := Lib.hid hb
            clear hb hb11 HX2 HB10
            go_wp2_with fail
            refine HX3.out.mono ?_
            rintro e w12 ⟨X3, y3, rfl, -, hb12⟩
            have hb := HB11.out.trans (hb12.mono HB11.out.size)
            have HX4 := Lib.hid ((H8.out.2.1.below hb).extents nm HG.out.2.2.2.2 H8.out.2.2.2.2.2.2.2.2.2 HAA.out.2.1)
            have HB12 := Lib.hid hb
            clear hb hb12 HX3 HB11
            go_wp2_with fail
            refine HX4.out.mono ?_
            rintro e w13 ⟨X4, y4, rfl, -, hb13⟩
            have HB13 := Lib.hid (HB12.out.trans (hb13.mono HB12.out.size))
            clear hb13 HX4 HB12
            go_wp2_with fail
            go_roundw
            case rel =>
              refine ⟨j + 1, M7, M8, kv7, kv8, by omega, by go_num, H8.out.1.below HB13.out, H8.out.2.1.below HB13.out, H7.out.2.2.2.2.2.2.1, H8.out.2.2.2.2.2.1, ?_, ?_, fun q => ?_, fun q => ?_, H8.out.2.2.2.1.of (HB13.out.block _ H8.out.2.2.2.1.lt), NamR.below H8.out.2.2.1 HB13.out, H8.out.2.2.2.2.1.trans (HB13.out.mono H8.out.2.2.2.2.1.size)⟩
              · rw [H7.out.2.2.2.2.2.2.2.1]; exact HQ.out.2.2.2.2.1
              · rw [H8.out.2.2.2.2.2.2.1]; exact HQ.out.2.2.2.2.2.1
              · rw [H7.out.2.2.2.2.2.2.2.2]; exact HQ.out.2.2.2.2.2.2.1 q
              · rw [H8.out.2.2.2.2.2.2.2.1]; exact HQ.out.2.2.2.2.2.2.2.1 q
            case measure => simp [intS]; omega
        -- Q}
        · obtain rfl : j = ns.length := by omega
          go_wp2
          go_roundw
          case rel =>
            refine ⟨k + 1, Ma, kva, by omega, by go_num, ?_⟩
            have hq := HQ.out
            exact ⟨hq.1.wide (Below.refl _ _) (fun z hz => .inl (by simp at hz; simp [hz])), hq.2.2.2.2.2.2.2.2.2.2, HS.out.gsN, HS.out.msN, HS.out.gpN, fun hf => HS.out.rN (fun e => hf (List.eq_nil_of_length_eq_zero (by rw [hq.2.2.2.2.1, e]; rfl))), hq.2.2.1⟩
          case measure => simp [intS]; omega
    -- R}
    · obtain rfl : k = os.length := by omega
      go_wp2
      go_ret
      exact ⟨rfl, HS.out.bel⟩
end Go.Proofs.YtncpcemcdmolcaaGreat
