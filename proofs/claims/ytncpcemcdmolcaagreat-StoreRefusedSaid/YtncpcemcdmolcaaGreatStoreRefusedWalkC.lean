/-
  The walk of the law StoreRefused. Conditions: the script reads as it is said to.
-/
import Derived.Test.YtncpcemcdmolcaaGreatZi
import Derived.Test.YtncpcemcdmolcaaGreatScmC
namespace Go.Proofs.YtncpcemcdmolcaaGreat
open Go.RowKit Go.BigFrame
set_option linter.unusedSimpArgs false
set_option linter.unusedVariables false
set_option maxRecDepth 100000
set_option maxHeartbeats 16000000 in
theorem storeRefused_walk {w : World} (x : Int) (hx1 : -9223372036854775808 ≤ x) (hx2 : x ≤ 9223372036854775807) (As : Option Addr) (cs : Nat) (os : List OpV) (hm : os.length ≤ cs ∧ cs ≤ 9223372036854775807) (hR : OpsR w As os) :
    Calls Tryz.prog 5 #[.int .i64 x, .slice As os.length cs] w fun e w' => e = .returned (.bool true) ∧ Below w.heap.size w w' := by
  have HR := Lib.hid hR
  clear hR
  obtain ⟨m, hm1, hmx⟩ := modq x 100 (by omega) (by omega)
  have hmx' : IntKind.i64.wrap ((IntKind.u64.wrap x).tmod 100) = (m : Int) := hmx
  clear hmx
  go_enter Tryz.func5, Tryz.ntmps5
  go_wp2_with fail
  refine (alive_any w).mono ?_
  rintro e w1 ⟨rfl, hb1⟩
  have HB1 := Lib.hid hb1
  have HLG := Lib.hid (large_any (c := cs) (HR.out.since hb1) hm.1 (by omega))
  clear hb1
  go_wp2_with fail
  refine HLG.out.mono ?_
  rintro e w2 ⟨rfl | ⟨rfl, hos, hes⟩, hb2⟩
  · have HB2 := Lib.hid (HB1.out.trans (hb2.mono HB1.out.size))
    clear hb2 HLG
    go_wp2
    go_ret
    exact ⟨rfl, HB2.out⟩
  have HB2 := Lib.hid (HB1.out.trans (hb2.mono HB1.out.size))
  have HES := Lib.hid hes
  clear hb2 HLG HB1 hes
  have HN := Lib.hid (stnew_any m (by omega) w2)
  go_wp2_with fail
  refine HN.out.mono ?_
  rintro e w3 ⟨p, rfl, hnew⟩
  obtain ⟨gs, ms, gp, r, c, A, rfl, hS⟩ := Sto.new (by omega) HB2.out hnew
  have HS3 := Lib.hid hS
  clear hS hnew HN hmx'
  go_wp2_with fail
  go_loopw [28] (fun i wr => ∃ (k : Nat) (M : Mod) (kv : KV), k ≤ os.length ∧ i = .int .i64 k ∧ Sto (16 * k) w wr gs ms gp r c A M kv ∧ InvA (16 * k) M ∧ M.fl.length = m) (fun i _ => os.length - (intS i).toNat)
  case atStart => exact ⟨0, _, _, by omega, rfl, HS3.out, invA0 m, by simp [M0]⟩
  case round =>
    obtain ⟨k, M, kv, hk, rfl, hS, hIA, hfl⟩ := hrel
    obtain ⟨wo, hwo⟩ : ∃ wo, wo = wr := ⟨_, rfl⟩
    subst hwo
    clear HS3
    have HS := Lib.hid hS
    have HIA := Lib.hid (And.intro hIA hfl)
    clear hS hIA hfl
    have hwk : IntKind.i64.wrap ((k : Int) + 1) = (k : Int) + 1 := by rw [IntKind.wrap_i64]; omega
    by_cases hlt : k < os.length
    -- {R
    · obtain ⟨o, ho⟩ : ∃ o, os[k]? = some o := ⟨_, List.getElem?_eq_getElem hlt⟩
      have hRo := HR.out.since HS.out.bel
      obtain ⟨ad, rfl, hl, hc⟩ := hRo.get ho
      have hok := hRo.ok o (List.mem_of_getElem? ho)
      have hob := HES.out o (List.mem_of_getElem? ho)
      obtain ⟨cO, hcO⟩ : ∃ cO : Array Value, cO = #[.string (strOf o.nm), .slice o.A o.l.length o.c, .int .i64 o.blk] := ⟨_, rfl⟩
      obtain ⟨wA, hwA⟩ : ∃ wA, wA = wo.alloc (.cells #[.string (strOf o.nm), .slice o.A o.l.length o.c, .int .i64 o.blk] 49) := ⟨_, rfl⟩
      obtain ⟨gO, hgO⟩ : ∃ gO, gO = wo.heap.size := ⟨_, rfl⟩
      have hbA : Below wo.heap.size wo wA := by rw [hwA]; exact (Below.refl _ _).alloc (Nat.le_refl _) _
      have KO : Blk wA gO 49 cO := by rw [hwA, hgO, hcO]; exact Blk.new wo _ _
      have hSA := HS.out.below hbA
      have HSA := Lib.hid hSA
      have hsl : o.l.length ≤ o.c := hok.cap
      have HSTP := Lib.hid ((hok.steps.tame hob.2.2).since hbA)
      have HOK := Lib.hid (And.intro hok.nm (And.intro hob.2.1 hob.1))
      have hgOA : gO < wA.heap.size := KO.lt
      have hsA := hbA.size
      have HWA := Lib.hid hwA
      have HGO := Lib.hid hgO
      have HKO := Lib.hid KO
      have HCO := Lib.hid hcO
      have HSZ := Lib.hid hsA
      have hpl := putM_len hSA.inv HIA.out.1
      have hflm := HIA.out.2
      have hcp := stput_any hSA.at_ hSA.inv (by omega) (by omega)
      have HCP := Lib.hid hcp
      clear ho hRo hok hob hbA hSA KO hwA hgO hcO hsA hcp hpl hflm
      go_wp2_with (have _h := hc; refine wpList_load_op rfl (.tmp 30) rfl _ rfl o hc ?_; clear _h hc)
      rw [← HWA.out, ← HGO.out]
      refine HCP.out.mono ?_
      rintro e w1 ⟨v1, rfl, hov1, hbc, hsm1⟩
      obtain ⟨A1, c1, rfl⟩ := own_form hov1
      have hS1 := HSA.out.below hbc
      have K1 := HKO.out.of (hbc.block _ HKO.out.lt)
      have q0 : w1.cell? ⟨gO, 0, none⟩ = some (.string (strOf o.nm)) := by rw [K1.cell, HCO.out]; rfl
      have q1 : w1.cell? ⟨gO, 1, none⟩ = some (.slice o.A o.l.length o.c) := by rw [K1.cell, HCO.out]; rfl
      have hgO1 : gO < w1.heap.size := K1.lt
      have H1 := Lib.hid (And.intro hS1 (And.intro K1 (And.intro hov1 hsm1)))
      have HD := Lib.hid (hS1.do_ (by omega) o.nm HOK.out.1 (by have := HOK.out.2.1; omega) (cs := o.c) (HSTP.out.since hbc) (by have := hbc.size; have := HSZ.out; omega) hsl (by have := HOK.out.2.2; omega))
      obtain ⟨lp, hlp⟩ : ∃ lp, lp = (putM M).length := ⟨_, rfl⟩
      have HLP := Lib.hid hlp
      rw [← hlp]
      clear hS1 K1 hov1 hsm1 hbc HCP HSTP hlp
      go_wp2_with fail
      refine HD.out.mono ?_
      rintro e w2 hd
      obtain ⟨M4, k4, told4, v4, kv4, hr4, rfl, ht4, hS4, hf4, hb4, hon4⟩ := H1.out.1.did hd
      have hIA4 := do_invA H1.out.1.inv.keys HIA.out.1 hr4
      have K2 := H1.out.1.at_.keep hon4 H1.out.2.1 (by decide) (by decide)
      have hov2 := H1.out.1.at_.row hon4 H1.out.2.2.1 (by decide) (by decide)
      have hgO2 : gO < w2.heap.size := K2.lt
      have hbad := fun hk => do_bad hr4 (k := k4) hk
      have hfl4 : M4.fl.length = m := hf4.trans HIA.out.2
      obtain ⟨T4, ct4, tv4, rfl, -⟩ := ht4
      have H2 := Lib.hid (And.intro hS4 (And.intro hIA4 (And.intro K2 (And.intro hov2 (And.intro hfl4 hbad)))))
      clear hd hr4 hS4 hf4 hb4 hon4 hIA4 K2 hov2 hbad hfl4 HD q0 q1
      cases hk4 : k4 with
      | zero =>
        subst hk4
        simp only [errV]
        have hSX := H2.out.1
        have K5 := H2.out.2.2.1
        have q1 : w2.cell? ⟨gO, 1, none⟩ = some (.slice o.A o.l.length o.c) := by rw [K5.cell, HCO.out]; rfl
        have q2 : w2.cell? ⟨gO, 2, none⟩ = some (.int .i64 o.blk) := by rw [K5.cell, HCO.out]; rfl
        have hgO5 : gO < w2.heap.size := K5.lt
        have HSX := Lib.hid hSX
        have HBK := Lib.hid (block_any hSX.at_.st o.blk)
        clear hSX K5
        by_cases hz : o.l.length = 0
        · have hz1 : ((o.l.length : Int) == 0) = true := by rw [hz]; rfl
          have hz2 : decide ((o.l.length : Int) = 0) = true := decide_eq_true (by omega)
          have hz3 : (o.l.length : Int) = 0 := by omega
          clear hz
          go_wp2_with fail
          refine HBK.out.mono ?_
          rintro e w6 ⟨rfl, hst6, hon6⟩
          have hS6 := HSX.out.block o.blk hst6 hon6
          have HFIN := Lib.hid hS6
          clear hst6 hon6 hS6 HBK
          generalize blockE o.blk = eb
          go_wp2_with fail
          go_roundw
          case rel => exact ⟨k + 1, _, kv4, by omega, by go_num, HFIN.out, H2.out.2.1.block o.blk, H2.out.2.2.2.2.1⟩
          case measure => simp [intS]; omega
        · have hz1 : ((o.l.length : Int) == 0) = false := beq_eq_false_iff_ne.2 (by omega)
          have hz2 : decide ((o.l.length : Int) = 0) = false := decide_eq_false (by omega)
          have hz3 : ¬ (o.l.length : Int) = 0 := by omega
          clear hz HBK
          go_wp2_with fail
          go_roundw
          case rel => exact ⟨k + 1, _, kv4, by omega, by go_num, HSX.out, H2.out.2.1, H2.out.2.2.2.2.1⟩
          case measure => simp [intS]; omega
      | succ n4 =>
        obtain ⟨hM4, ht0⟩ := H2.out.2.2.2.2.2 (by omega)
        subst hM4 ht0
        have hpl := putM_len H2.out.1.inv H2.out.2.1
        have hflm := H2.out.2.2.2.2.1
        have HP2 := Lib.hid (stput_any H2.out.1.at_ H2.out.1.inv (by omega) (by omega))
        clear hpl hflm
        simp only [errV, List.length_nil]
        go_wp2_with fail
        refine HP2.out.mono ?_
        rintro e w3 ⟨v3, rfl, hov3, hbc3, hsm3⟩
        obtain ⟨A3, c3, rfl⟩ := own_form hov3
        have hov1' := row_of H2.out.2.2.2.1 fun j hj => hbc3.block j (row_under H2.out.2.2.2.1 j hj)
        have HSM := Lib.hid (same_by A1 A3 (putM M4).length (putM M4).length c1 c3 w3.heap.size w3.heap.size (putM M4) (putM M4) w3 (Own.bytes hov1' hsm3) (Own.bytes hov3 hsm3))
        have HB3 := Lib.hid hbc3
        rw [← HLP.out] at HSM ⊢
        clear hov3 hbc3 hsm3 hov1' HP2
        go_wp2_with fail
        refine HSM.out.mono ?_
        rintro e w' ⟨b, rfl, hbt, rfl⟩
        obtain rfl := hbt trivial
        clear HSM
        have hSX := H2.out.1.below HB3.out
        have K5 := H2.out.2.2.1.of (HB3.out.block _ H2.out.2.2.1.lt)
        have q1 : w3.cell? ⟨gO, 1, none⟩ = some (.slice o.A o.l.length o.c) := by rw [K5.cell, HCO.out]; rfl
        have q2 : w3.cell? ⟨gO, 2, none⟩ = some (.int .i64 o.blk) := by rw [K5.cell, HCO.out]; rfl
        have hgO5 : gO < w3.heap.size := K5.lt
        have HSX := Lib.hid hSX
        have HBK := Lib.hid (block_any hSX.at_.st o.blk)
        clear hSX K5
        by_cases hz : o.l.length = 0
        · have hz1 : ((o.l.length : Int) == 0) = true := by rw [hz]; rfl
          have hz2 : decide ((o.l.length : Int) = 0) = true := decide_eq_true (by omega)
          have hz3 : (o.l.length : Int) = 0 := by omega
          clear hz
          go_wp2_with fail
          refine HBK.out.mono ?_
          rintro e w6 ⟨rfl, hst6, hon6⟩
          have hS6 := HSX.out.block o.blk hst6 hon6
          have HFIN := Lib.hid hS6
          clear hst6 hon6 hS6 HBK
          generalize blockE o.blk = eb
          go_wp2_with fail
          go_roundw
          case rel => exact ⟨k + 1, _, kv4, by omega, by go_num, HFIN.out, H2.out.2.1.block o.blk, H2.out.2.2.2.2.1⟩
          case measure => simp [intS]; omega
        · have hz1 : ((o.l.length : Int) == 0) = false := beq_eq_false_iff_ne.2 (by omega)
          have hz2 : decide ((o.l.length : Int) = 0) = false := decide_eq_false (by omega)
          have hz3 : ¬ (o.l.length : Int) = 0 := by omega
          clear hz HBK
          go_wp2_with fail
          go_roundw
          case rel => exact ⟨k + 1, _, kv4, by omega, by go_num, HSX.out, H2.out.2.1, H2.out.2.2.2.2.1⟩
          case measure => simp [intS]; omega
    -- R}
    · obtain rfl : k = os.length := by omega
      go_wp2
      go_ret
      exact ⟨rfl, HS.out.bel⟩
end Go.Proofs.YtncpcemcdmolcaaGreat
