/-
  The walk of the law SnapHistory. Conditions: the script reads as it is said to.
-/
import Derived.Test.YtcbpdalfindmgaaZg
import Derived.Test.YtcbpdalfindmgaaRaC
namespace Go.Proofs.Ytcbpdalfindmgaa
open Go.RowKit Go.BigFrame
set_option linter.unusedSimpArgs false
set_option linter.unusedVariables false
set_option maxRecDepth 100000
theorem modq (x : Int) (q : Nat) (hq : 0 < q) (hq2 : q ≤ 1000000) : ∃ m : Nat, m < q ∧ IntKind.i64.wrap ((IntKind.u64.wrap x).tmod (q : Int)) = (m : Int) := by
  obtain ⟨y, hy, h0⟩ : ∃ y, y = IntKind.u64.wrap x ∧ 0 ≤ y := ⟨_, rfl, by rw [IntKind.wrap_u64]; omega⟩
  rw [← hy]
  have h1 := Int.tmod_lt_of_pos y (b := (q : Int)) (by omega)
  have h2 := Int.tmod_nonneg (q : Int) h0
  refine ⟨(y.tmod (q : Int)).toNat, by omega, ?_⟩
  rw [IntKind.wrap_i64]
  omega
theorem zero_str (w : World) : (zeroValue 9).run Try.prog w = .ok (.string (strOf [])) w := by
  have h : (Try.prog.info? 9).bind (·.zero) = some (.string (strOf [])) := by kernel_rfl
  cases hq : Try.prog.info? 9 with
  | none => simp [hq] at h
  | some i => simp [hq] at h; simp [zeroValue, typeInfo, hq, h]
theorem zero_bool (w : World) : (zeroValue 4).run Try.prog w = .ok (.bool false) w := by
  have h : (Try.prog.info? 4).bind (·.zero) = some (.bool false) := by kernel_rfl
  cases hq : Try.prog.info? 4 with
  | none => simp [hq] at h
  | some i => simp [hq] at h; simp [zeroValue, typeInfo, hq, h]
set_option maxHeartbeats 64000000 in
theorem snapHistory_walk {w : World} (As : Option Addr) (cs : Nat) (os : List PA) (hm : os.length ≤ cs ∧ cs ≤ 9223372036854775807) (hR : PasR w As os) (bk : Int) (hb1 : -9223372036854775808 ≤ bk) (hb2 : bk ≤ 9223372036854775807) :
    Calls Try.prog 7 #[.slice As os.length cs, .int .i64 bk] w fun e w' => e = .returned (.bool true) ∧ Below w.heap.size w w' := by
  have HR := Lib.hid hR
  clear hR
  have hmm := @run_makeMap Try.prog
  go_enter Try.func7, Try.ntmps7
  go_wp2_with fail
  refine (alive_any w).mono ?_
  rintro e w1 ⟨rfl, hb1⟩
  have HB1 := Lib.hid hb1
  clear hb1
  by_cases h60 : (60 : Int) < (os.length : Int)
  · have d1 : decide ((60 : Int) < (os.length : Int)) = true := decide_eq_true h60
    go_wp2
    go_ret
    exact ⟨rfl, HB1.out⟩
  have d1 : decide ((60 : Int) < (os.length : Int)) = false := decide_eq_false h60
  obtain ⟨WF, hWF⟩ : ∃ WF, WF = (w1.alloc (.cells #[.bool false, .slice none 0 0, .int .i64 0, .slice none 0 0] 36)).alloc (.cells #[.int .i64 0, .slice none 0 0] 28) := ⟨_, rfl⟩
  have hFF := Fgt.zero HB1.out hWF
  have hWFs : WF.heap.size = w1.heap.size + 2 := by rw [hWF]; simp
  obtain ⟨W0, hW0⟩ : ∃ W0, W0 = (WF.alloc (.map #[] 0)).alloc (.map #[] 0) := ⟨_, rfl⟩
  have hH0 : Hst w w1.heap.size OA.zero 0 none 0 (fun _ => none) (fun _ => none) W0 := by
    have hbF : Below WF.heap.size WF W0 := by rw [hW0]; exact ((Below.refl _ WF).alloc (Nat.le_refl _) _).alloc (by simp) _
    refine ⟨hFF.next hbF, ?_, ?_, fun s h1 h2 => by omega⟩
    · rw [← hWFs, hW0]
      exact (MapAt.new WF).of (Below.heap_alloc _ _ _ (by simp))
    · have := MapAt.new (WF.alloc (.map #[] 0))
      rw [World.size_alloc, hWFs] at this
      rw [hW0]
      exact this
  have HH0 := Lib.hid hH0
  obtain ⟨g, hg⟩ : ∃ g, g = w1.heap.size := ⟨_, rfl⟩
  have HW0 := Lib.hid (And.intro hWF hW0)
  have HGE := Lib.hid hg
  clear hW0 hg hH0 hFF hWF hWFs
  go_upto_region 8 with (fail)
  rw [← HW0.out.1, ← HW0.out.2]
  rw [← HGE.out] at HH0 ⊢
  clear HW0 HGE hmm
  go_wp2_with fail
  go_loopw [34] (fun i wr => ∃ (k : Nat) (q : OA) (j : Nat) (S : Option Addr) (c : Nat) (f1 f2 : Int → Option Value), k ≤ os.length ∧ i = .int .i64 k ∧ Hst w g q j S c f1 f2 wr) (fun i _ => os.length - (intOf i).toNat)
  case atStart => exact ⟨0, _, _, _, _, _, _, by omega, rfl, HH0.out⟩
  case round =>
    obtain ⟨k, q, j, S, c, f1, f2, hk, rfl, hH⟩ := hrel
    obtain ⟨wo, hwo⟩ : ∃ wo, wo = wr := ⟨_, rfl⟩
    subst hwo
    clear HH0
    have HH := Lib.hid hH
    have hwk : IntKind.i64.wrap ((k : Int) + 1) = (k : Int) + 1 := by rw [IntKind.wrap_i64]; omega
    by_cases hlt : k < os.length
    -- {R
    · obtain ⟨o, ho⟩ : ∃ o, os[k]? = some o := ⟨_, List.getElem?_eq_getElem hlt⟩
      have hRo := HR.out.since hH.f.bel
      obtain ⟨ad, rfl, hl, hc⟩ := hRo.get ho
      have hok := hRo.ok o (List.mem_of_getElem? ho)
      obtain ⟨wA, hwA⟩ : ∃ wA, wA = wo.alloc (.cells #[.int .i64 o.kd, .int .i64 o.at_, .int .i64 o.n, .slice o.D o.dt.length o.cd, .int .i64 o.cx.sq, .slice o.cx.S o.cx.sn.length o.cx.cs] 30) := ⟨_, rfl⟩
      have hbA : Below wo.heap.size wo wA := by rw [hwA]; exact below_alloc wo _
      have K6 : Blk wA wo.heap.size 30 #[.int .i64 o.kd, .int .i64 o.at_, .int .i64 o.n, .slice o.D o.dt.length o.cd, .int .i64 o.cx.sq, .slice o.cx.S o.cx.sn.length o.cx.cs] := by rw [hwA]; exact Blk.new wo _ _
      obtain ⟨g6, hg6⟩ : ∃ g6, g6 = wo.heap.size := ⟨_, rfl⟩
      rw [← hg6] at K6
      have HHA := Lib.hid (hH.next hbA)
      have HOK := Lib.hid hok
      have HBA : Hid (g6 = wo.heap.size ∧ Below wo.heap.size wo wA) := Lib.hid ⟨hg6, hbA⟩
      have HK6 := Lib.hid K6
      have HG6 : Hid (w.heap.size ≤ g6 ∧ g + 3 < g6) := Lib.hid ⟨by have := hH.f.bel.size; omega, by have := hH.m2.lt; omega⟩
      have HWA := Lib.hid hwA
      have HGE := Lib.hid hg6
      have c60 : wA.cell? ⟨g6, 0, none⟩ = some (.int .i64 o.kd) := K6.cell 0
      have c63 : wA.cell? ⟨g6, 3, none⟩ = some (.slice o.D o.dt.length o.cd) := K6.cell 3
      have cc0 : wA.cell? ⟨g + 1, 0, none⟩ = some (.int .i64 (j : Int)) := HHA.out.bc.cell 0
      have hdl := hok.dl
      clear ho hRo hok hbA K6 hwA hg6 hH
      go_upto_region 11 with (have _h := hc; refine wpList_load_pa rfl (.tmp 36) rfl _ rfl o hc ?_; clear _h hc)
      rw [← HWA.out, ← HGE.out]
      clear HWA HGE
      by_cases h2000 : (2000 : Int) < (o.dt.length : Int)
      · have d2 : decide ((2000 : Int) < (o.dt.length : Int)) = true := decide_eq_true h2000
        go_wp2
        go_ret
        exact ⟨rfl, HHA.out.f.bel⟩
      have d2 : decide ((2000 : Int) < (o.dt.length : Int)) = false := decide_eq_false h2000
      by_cases hk0 : o.kd = 0
      · have e0 : (o.kd == 0) = true := beq_iff_eq.2 hk0
        by_cases hj : (j : Int) < 16
        · have d3 : decide ((j : Int) < 16) = true := decide_eq_true hj
          have d3n : decide (j < 16) = true := decide_eq_true (by omega)
          have HJ := Lib.hid hj
          clear hk0 hj
          have K1 := HHA.out.f.bo
          have hq16 := HHA.out.j16
          have HAT := Lib.hid (at1_any q 0 (OA.N.R HHA.out.f.own) HHA.out.f.sm HHA.out.f.good (by omega))
          unfold OA.cs at HAT
          go_wp2_with (have _h := K1; refine wpList_loadq rfl 36 (.tmp 5) rfl g [.bool q.th, .slice q.D q.dt.length q.cd, .int .i64 q.sq, .slice q.C q.cl.length q.cc] _ rfl K1 Try.underlying36 rfl (by kernel_rfl) ?_; clear _h K1)
          refine HAT.out.mono ?_
          rintro e wT ⟨A9, c9, rfl, how, hsm9, hbT⟩
          have HHT := Lib.hid (HHA.out.next hbT)
          obtain ⟨d9, hd9⟩ : ∃ d9, d9 = (atO q.v 0).getD [] := ⟨_, rfl⟩
          obtain ⟨b9, hb9⟩ : ∃ b9, b9 = (atO q.v 0).isSome := ⟨_, rfl⟩
          rw [← hd9] at how hsm9 ⊢
          rw [← hb9]
          have HD9 := Lib.hid (And.intro hd9 hb9)
          have HOW := Lib.hid (And.intro how hsm9)
          have HB0 : Hid (g + 4 ≤ wA.heap.size ∧ wA.heap.size ≤ wT.heap.size) := Lib.hid ⟨by have := HHA.out.m2.lt; omega, hbT.size⟩
          clear how hsm9 hbT hd9 hb9 HAT c60 c63 cc0
          go_upto_region 15 with (fail)
          have hS7 : Blk wT.drew (g + 1) 28 #[.int .i64 (j : Int), .slice S j c] := HHT.out.bc.drew
          have HC : Hid (∀ w' : World, Blk w' (g + 1) 28 #[.int .i64 (j : Int), .slice S j c] → w'.cell? ⟨g + 1, 0, none⟩ = some (.int .i64 (j : Int)) ∧ w'.cell? ⟨g + 1, 1, none⟩ = some (.slice S j c)) := Lib.hid fun w' h => ⟨h.cell 0, h.cell 1⟩
          have hwj : IntKind.i64.wrap ((j : Int) + 1) = (j : Int) + 1 := by rw [IntKind.wrap_i64]; omega
          clear d1 d2 d3 d3n e0
          refine any_beginL (fun w' => Blk w' (g + 1) 28 #[.int .i64 (j : Int), .slice S j c]) 11 (by kernel_rfl) ?_
          refine L_take (i := 0) (v := .pointer (some ⟨g + 1, 0, none⟩)) rfl rfl (by kernel_rfl) (by kernel_rfl) (by kernel_rfl) (by kernel_rfl) (fun _ _ _ h => h) (Or.inl ⟨by rfl, fun w hw => by kernel_rfl⟩) hS7 ?_
          simp only [Act.put, List.getElem_toArray, List.getElem_cons_succ, List.getElem_cons_zero, List.setIfInBounds_toArray, List.set_cons_zero, List.set_cons_succ]
          refine L_take (i := 1) (v := .int .i64 (j : Int)) rfl rfl (by kernel_rfl) (by kernel_rfl) (by kernel_rfl) (by kernel_rfl) (fun _ _ _ h => h) (Or.inl ⟨by rfl, fun w hw => by have q1 := (HC.out w hw).1; go_simp⟩) hS7 ?_
          simp only [Act.put, List.getElem_toArray, List.getElem_cons_succ, List.getElem_cons_zero, List.setIfInBounds_toArray, List.set_cons_zero, List.set_cons_succ]
          refine L_take (i := 2) (v := .int .i64 ((j : Int) + 1)) rfl rfl (by kernel_rfl) (by kernel_rfl) (by kernel_rfl) (by kernel_rfl) (fun _ _ _ h => h) (Or.inl ⟨by rfl, fun w hw => by go_simp⟩) hS7 ?_
          simp only [Act.put, List.getElem_toArray, List.getElem_cons_succ, List.getElem_cons_zero, List.setIfInBounds_toArray, List.set_cons_zero, List.set_cons_succ]
          refine L_take (i := 3) (v := .pointer (some ⟨g + 1, 0, none⟩)) rfl rfl (by kernel_rfl) (by kernel_rfl) (by kernel_rfl) (by kernel_rfl) (fun _ _ _ h => h) (Or.inl ⟨by rfl, fun w hw => by kernel_rfl⟩) hS7 ?_
          simp only [Act.put, List.getElem_toArray, List.getElem_cons_succ, List.getElem_cons_zero, List.setIfInBounds_toArray, List.set_cons_zero, List.set_cons_succ]
          refine L_take (i := 4) (v := .int .i64 (j : Int)) rfl rfl (by kernel_rfl) (by kernel_rfl) (by kernel_rfl) (by kernel_rfl) (fun _ _ _ h => h) (Or.inl ⟨by rfl, fun w hw => by have q1 := (HC.out w hw).1; go_simp⟩) hS7 ?_
          simp only [Act.put, List.getElem_toArray, List.getElem_cons_succ, List.getElem_cons_zero, List.setIfInBounds_toArray, List.set_cons_zero, List.set_cons_succ]
          refine L_take (i := 5) (v := .int .i64 ((j : Int) + 1)) rfl rfl (by kernel_rfl) (by kernel_rfl) (by kernel_rfl) (by kernel_rfl) (fun _ _ _ h => h) (Or.inl ⟨by rfl, fun w hw => by go_simp⟩) hS7 ?_
          simp only [Act.put, List.getElem_toArray, List.getElem_cons_succ, List.getElem_cons_zero, List.setIfInBounds_toArray, List.set_cons_zero, List.set_cons_succ]
          refine L_take (i := 7) (v := .pointer (some ⟨g + 1, 1, none⟩)) rfl rfl (by kernel_rfl) (by kernel_rfl) (by kernel_rfl) (by kernel_rfl) (fun _ _ _ h => h) (Or.inl ⟨by rfl, fun w hw => by go_simp⟩) hS7 ?_
          simp only [Act.put, List.getElem_toArray, List.getElem_cons_succ, List.getElem_cons_zero, List.setIfInBounds_toArray, List.set_cons_zero, List.set_cons_succ]
          refine L_take (i := 8) (v := .slice S j c) rfl rfl (by kernel_rfl) (by kernel_rfl) (by kernel_rfl) (by kernel_rfl) (fun _ _ _ h => h) (Or.inl ⟨by rfl, fun w hw => by have q1 := (HC.out w hw).2; go_simp⟩) hS7 ?_
          simp only [Act.put, List.getElem_toArray, List.getElem_cons_succ, List.getElem_cons_zero, List.setIfInBounds_toArray, List.set_cons_zero, List.set_cons_succ]
          have hbs := run_buildSlice_one (P := Try.prog) (t := 26) (e := 3) (size := 1) (v := .int .i64 ((j : Int) + 1)) Try.underlying26 (by kernel_rfl) (by omega) (by omega) rfl wT.drew
          refine L_one (j := 6) (by kernel_rfl) rfl (by rfl) ?_
          simp only [Act.put, List.getElem_toArray, List.getElem_cons_succ, List.getElem_cons_zero, List.setIfInBounds_toArray, List.set_cons_zero, List.set_cons_succ]
          obtain ⟨wB, hwB⟩ : ∃ wB, wB = wT.drew.alloc (.cells #[.int .i64 ((j : Int) + 1)] 3) := ⟨_, rfl⟩
          have hbTd : Below wT.heap.size wT wT.drew := (Below.refl _ wT).drew
          have hbB : Below wT.drew.heap.size wT.drew wB := by rw [hwB]; exact below_alloc _ _
          have hbTB : Below wT.heap.size wT wB := hbTd.trans hbB
          have hFB := HHT.out.next hbTB
          have hown1 : OwnI wB w.heap.size (.slice (some ⟨wT.drew.heap.size, 0, none⟩) 1 1) 1 [(j : Int) + 1] := by rw [hwB]; exact OwnI.one _ _ _ ((HHT.out.next hbTd).f.bel.size)
          refine wp_ran (v := .slice (some ⟨wT.drew.heap.size, 0, none⟩) 1 1) (w' := wB) (by rw [hwB]; exact (by go_simp <;> rfl)) ⟨hFB.bc, ?_⟩
          simp only [Act.put, List.getElem_toArray, List.getElem_cons_succ, List.getElem_cons_zero, List.setIfInBounds_toArray, List.set_cons_zero, List.set_cons_succ]
          obtain ⟨i0, hi0, hz0, hz1, hz2⟩ := info_parts int_info
          have hj16 := HJ.out
          have hbz := hFB.f.bel.size
          refine L_one (j := 9) (by kernel_rfl) rfl (by rfl) ?_
          simp only [Act.put, List.getElem_toArray, List.getElem_cons_succ, List.getElem_cons_zero, List.setIfInBounds_toArray, List.set_cons_zero, List.set_cons_succ]
          refine wp_append_any _ (.tmp 61) (.tmp 63) 26 rfl w.heap.size 3 i0 _ 1 8 Try.underlying26 hi0 hz0 hz1 hz2 rfl (by omega) (.slice (some ⟨wT.drew.heap.size, 0, none⟩) 1 1) 1 (i64s [(j : Int) + 1]) rfl hown1 _ S j c (i64s (downI j)) rfl (OwnI.ints hFB.ctx) (i64s_one _) (by simp only [maxLen]; omega) (by omega) hbz ?_
          intro v3 wC h3 g3 a3
          have h3' : OwnI wC w.heap.size v3 (1 + j) (downI (j + 1)) := by unfold OwnI; exact h3
          obtain ⟨S', c', rfl⟩ := h3'.form2
          have hbC : Below wT.heap.size wT wC := hbTd.trans (hbB.grown g3 (by have := hbB.size; omega) (fun k e => by simp [Value.ownBlock] at e; subst e; exact Nat.le_refl _))
          have hFC := HHT.out.next hbC
          refine ⟨hFC.bc, ?_⟩
          simp only [Act.put, List.getElem_toArray, List.getElem_cons_succ, List.getElem_cons_zero, List.setIfInBounds_toArray, List.set_cons_zero, List.set_cons_succ]
          refine L_one (j := 10) (by kernel_rfl) rfl (by rfl) ?_
          simp only [Act.put, List.getElem_toArray, List.getElem_cons_succ, List.getElem_cons_zero, List.setIfInBounds_toArray, List.set_cons_zero, List.set_cons_succ]
          refine wp_ran (v := .agg #[.int .i64 ((j : Int) + 1), .slice S' (1 + j) c']) (w' := wC) (by kernel_rfl) ⟨hFC.bc, ?_⟩
          simp only [Act.put, List.getElem_toArray, List.getElem_cons_succ, List.getElem_cons_zero, List.setIfInBounds_toArray, List.set_cons_zero, List.set_cons_succ]
          refine L_last (by kernel_rfl) rfl (by rfl) (by kernel_rfl) ?_
          simp only [Act.put, List.getElem_toArray, List.getElem_cons_succ, List.getElem_cons_zero, List.setIfInBounds_toArray, List.set_cons_zero, List.set_cons_succ]
          refine wp_storeq 28 (.tmp 6) (.tmp 65) rfl (g + 1) #[.int .i64 (j : Int), .slice S j c] [.int .i64 ((j : Int) + 1), .slice S' (1 + j) c'] rfl rfl hFC.bc rfl (by kernel_rfl) (fun v hv => by simp at hv; rcases hv with rfl | rfl <;> rfl) ?_
          intro wD KD hoD hsD
          refine NoPanic.normal ?_
          simp only [Act.put, List.getElem_toArray, List.getElem_cons_succ, List.getElem_cons_zero, List.setIfInBounds_toArray, List.set_cons_zero, List.set_cons_succ]
          have HFD : Hid (Fgt w g q (downI (j + 1)) S' c' wD ∧ MapAt wD (g + 2) f1 ∧ MapAt wD (g + 3) f2 ∧ Own wD wA.heap.size (.slice A9 d9.length c9) d9.length d9) := Lib.hid (by
            have e2 : (((j + 1 : Nat) : Int)) = (j : Int) + 1 := by omega
            refine ⟨hFC.f.cx ?_ (fun s hs => ?_) (by rw [downI_len]; omega) (by rw [downI_len, downI_len]; omega) hoD ?_, hFC.m1.of (hoD.block _ hFC.m1.lt (by simp)), hFC.m2.of (hoD.block _ hFC.m2.lt (by simp)), ?_⟩
            · rw [downI_len]
              rw [Nat.add_comm 1 j] at h3'
              exact h3'
            · have := downI_mem.1 hs; omega
            · rw [downI_len, e2, Nat.add_comm j 1]; exact KD
            · have h0 := HB0.out
              have how := Own.below HOW.out.1 hbC
              exact row_of how fun k hk => hoD.block k (row_under how k hk) (fun hm => by have := row_over how k hk; simp at hm; omega))
          clear KD hoD hsD hFC h3 h3' g3 a3 hown1 hFB hS7 HC hbs hwB hi0 hz0 hz1 hz2 hbTd hbB hbTB hbC
          go_upto_region 16 with (fail)
          have K8 : Blk wD (g + 1) 28 #[.int .i64 ((j : Int) + 1), .slice S' (1 + j) c'] := by
            have := HFD.out.1.bc
            rw [downI_len, Nat.add_comm j 1] at this
            have e2 : (((1 + j : Nat) : Int)) = (j : Int) + 1 := by omega
            rw [e2] at this
            exact this
          have hS8 : Blk wD.drew (g + 1) 28 #[.int .i64 ((j : Int) + 1), .slice S' (1 + j) c'] ∧ Own wD.drew wA.heap.size (.slice A9 d9.length c9) d9.length d9 := ⟨K8.drew, HFD.out.2.2.2⟩
          have HC8 : Hid (∀ w' : World, (Blk w' (g + 1) 28 #[.int .i64 ((j : Int) + 1), .slice S' (1 + j) c'] ∧ Own w' wA.heap.size (.slice A9 d9.length c9) d9.length d9) → w'.cell? ⟨g + 1, 0, none⟩ = some (.int .i64 ((j : Int) + 1)) ∧ (convert 22 9 (.slice A9 d9.length c9)).run Try.prog w' = .ok (.string (strOf d9)) w') := Lib.hid fun w' h => ⟨h.1.cell 0, str_of (Own.bytes h.2 HOW.out.2) c9 22 9 5 Try.underlying22 Try.underlying5 Try.underlying9⟩
          refine any_beginL (fun w' => Blk w' (g + 1) 28 #[.int .i64 ((j : Int) + 1), .slice S' (1 + j) c'] ∧ Own w' wA.heap.size (.slice A9 d9.length c9) d9.length d9) 10 (by kernel_rfl) ?_
          refine L_take (i := 0) (v := .map (some (g + 2))) rfl rfl (by kernel_rfl) (by kernel_rfl) (by kernel_rfl) (by kernel_rfl) (fun _ _ _ h => h) (Or.inl ⟨by rfl, fun w hw => by kernel_rfl⟩) hS8 ?_
          simp only [Act.put, List.getElem_toArray, List.getElem_cons_succ, List.getElem_cons_zero, List.setIfInBounds_toArray, List.set_cons_zero, List.set_cons_succ]
          refine L_take (i := 1) (v := .pointer (some ⟨g + 1, 0, none⟩)) rfl rfl (by kernel_rfl) (by kernel_rfl) (by kernel_rfl) (by kernel_rfl) (fun _ _ _ h => h) (Or.inl ⟨by rfl, fun w hw => by kernel_rfl⟩) hS8 ?_
          simp only [Act.put, List.getElem_toArray, List.getElem_cons_succ, List.getElem_cons_zero, List.setIfInBounds_toArray, List.set_cons_zero, List.set_cons_succ]
          refine L_take (i := 2) (v := .int .i64 ((j : Int) + 1)) rfl rfl (by kernel_rfl) (by kernel_rfl) (by kernel_rfl) (by kernel_rfl) (fun _ _ _ h => h) (Or.inl ⟨by rfl, fun w hw => by have q1 := (HC8.out w hw).1; go_simp⟩) hS8 ?_
          simp only [Act.put, List.getElem_toArray, List.getElem_cons_succ, List.getElem_cons_zero, List.setIfInBounds_toArray, List.set_cons_zero, List.set_cons_succ]
          refine L_take (i := 3) (v := .map (some (g + 3))) rfl rfl (by kernel_rfl) (by kernel_rfl) (by kernel_rfl) (by kernel_rfl) (fun _ _ _ h => h) (Or.inl ⟨by rfl, fun w hw => by kernel_rfl⟩) hS8 ?_
          simp only [Act.put, List.getElem_toArray, List.getElem_cons_succ, List.getElem_cons_zero, List.setIfInBounds_toArray, List.set_cons_zero, List.set_cons_succ]
          refine L_take (i := 4) (v := .pointer (some ⟨g + 1, 0, none⟩)) rfl rfl (by kernel_rfl) (by kernel_rfl) (by kernel_rfl) (by kernel_rfl) (fun _ _ _ h => h) (Or.inl ⟨by rfl, fun w hw => by kernel_rfl⟩) hS8 ?_
          simp only [Act.put, List.getElem_toArray, List.getElem_cons_succ, List.getElem_cons_zero, List.setIfInBounds_toArray, List.set_cons_zero, List.set_cons_succ]
          refine L_take (i := 5) (v := .int .i64 ((j : Int) + 1)) rfl rfl (by kernel_rfl) (by kernel_rfl) (by kernel_rfl) (by kernel_rfl) (fun _ _ _ h => h) (Or.inl ⟨by rfl, fun w hw => by have q1 := (HC8.out w hw).1; go_simp⟩) hS8 ?_
          simp only [Act.put, List.getElem_toArray, List.getElem_cons_succ, List.getElem_cons_zero, List.setIfInBounds_toArray, List.set_cons_zero, List.set_cons_succ]
          refine L_take (i := 6) (v := .slice A9 d9.length c9) rfl rfl (by kernel_rfl) (by kernel_rfl) (by kernel_rfl) (by kernel_rfl) (fun _ _ _ h => h) (Or.inl ⟨by rfl, fun w hw => by kernel_rfl⟩) hS8 ?_
          simp only [Act.put, List.getElem_toArray, List.getElem_cons_succ, List.getElem_cons_zero, List.setIfInBounds_toArray, List.set_cons_zero, List.set_cons_succ]
          refine L_take (i := 7) (v := .string (strOf d9)) rfl rfl (by kernel_rfl) (by kernel_rfl) (by kernel_rfl) (by kernel_rfl) (fun _ _ _ h => h) (Or.inl ⟨by rfl, fun w hw => by have q1 := (HC8.out w hw).2; go_simp⟩) hS8 ?_
          simp only [Act.put, List.getElem_toArray, List.getElem_cons_succ, List.getElem_cons_zero, List.setIfInBounds_toArray, List.set_cons_zero, List.set_cons_succ]
          refine L_take (i := 8) (v := .bool b9) rfl rfl (by kernel_rfl) (by kernel_rfl) (by kernel_rfl) (by kernel_rfl) (fun _ _ _ h => h) (Or.inl ⟨by rfl, fun w hw => by kernel_rfl⟩) hS8 ?_
          simp only [Act.put, List.getElem_toArray, List.getElem_cons_succ, List.getElem_cons_zero, List.setIfInBounds_toArray, List.set_cons_zero, List.set_cons_succ]
          obtain ⟨wE, hrE, hmE, hgE, hsE⟩ := run_mapUpdate_map (P := Try.prog) (w := wD.drew) (t := 68) Try.underlying68 Try.underlying3 (HFD.out.2.1.of rfl) ((j : Int) + 1) (.string (strOf d9))
          have h0 := HB0.out
          have hgl : g + 1 ≠ g + 2 := by omega
          have hS9 : Blk wE (g + 1) 28 #[.int .i64 ((j : Int) + 1), .slice S' (1 + j) c'] ∧ Own wE wA.heap.size (.slice A9 d9.length c9) d9.length d9 := ⟨hS8.1.grown hgE (fun e => by simp at e), row_of hS8.2 fun k hk => hgE.block k (row_under hS8.2 k hk) (fun e => by have := row_over hS8.2 k hk; simp at e; omega)⟩
          have hm2E : MapAt wE (g + 3) f2 := (HFD.out.2.2.1.of (w' := wD.drew) rfl).of (hgE.block _ HFD.out.2.2.1.lt (by simp))
          obtain ⟨wG, hrG, hmG, hgG, hsG⟩ := run_mapUpdate_map (P := Try.prog) (w := wE) (t := 69) Try.underlying69 Try.underlying3 hm2E ((j : Int) + 1) (.bool b9)
          refine L_one (j := 9) (by kernel_rfl) rfl (by rfl) ?_
          simp only [Act.put, List.getElem_toArray, List.getElem_cons_succ, List.getElem_cons_zero, List.setIfInBounds_toArray, List.set_cons_zero, List.set_cons_succ]
          refine wp_update 68 (.tmp 66) (.tmp 68) (.tmp 73) rfl (g + 2) ((j : Int) + 1) (.string (strOf d9)) rfl rfl rfl hrE ⟨hS9, ?_⟩
          simp only [Act.put, List.getElem_toArray, List.getElem_cons_succ, List.getElem_cons_zero, List.setIfInBounds_toArray, List.set_cons_zero, List.set_cons_succ]
          refine L_last (by kernel_rfl) rfl (by rfl) (by kernel_rfl) ?_
          simp only [Act.put, List.getElem_toArray, List.getElem_cons_succ, List.getElem_cons_zero, List.setIfInBounds_toArray, List.set_cons_zero, List.set_cons_succ]
          refine wp_update 69 (.tmp 69) (.tmp 71) (.tmp 74) rfl (g + 3) ((j : Int) + 1) (.bool b9) rfl rfl rfl hrG ?_
          refine NoPanic.normal ?_
          simp only [Act.put, List.getElem_toArray, List.getElem_cons_succ, List.getElem_cons_zero, List.setIfInBounds_toArray, List.set_cons_zero, List.set_cons_succ]
          have HFIN : Hid (∃ f1' f2', Hst w g q (j + 1) S' c' f1' f2' wG) := Lib.hid (by
            have hbl : ∀ x t cs, Blk wD x t cs → wG.heap[x]? = wD.heap[x]? := fun x t cs hb => (hgG.block x (by have := hb.lt; have : wD.drew.heap.size = wD.heap.size := rfl; omega) (fun e => by injection e with e; exact (HFD.out.2.2.1.ne_blk hb) e.symm)).trans (hgE.block x hb.lt (fun e => by injection e with e; exact (HFD.out.2.1.ne_blk hb) e.symm))
            have hF := HFD.out.1
            have hq := HHT.out.sq
            have hfr := hF.far
            have hbG : Below w.heap.size w wG := ((hF.bel.trans (Below.refl _ wD).drew).grown hgE hF.bel.size (fun k e => by injection e with e; omega)).grown hgG (by have : wD.drew.heap.size = wD.heap.size := rfl; have := hF.bel.size; omega) (fun k e => by injection e with e; omega)
            refine ⟨_, _, ⟨⟨hF.bo.of (hbl _ _ _ hF.bo), hF.bc.of (hbl _ _ _ hF.bc), OA.P.typed hF.own fun x t cs hb _ => hbl x t cs hb, row_of hF.ctx fun x hx => by obtain ⟨cs, hb⟩ := own_ty hF.ctx hx; exact hbl x _ cs hb, hF.li, hF.sm, hF.good, hF.sq, hF.l16, hbG, hF.far⟩, hmE.of (hgG.block _ hmE.lt (by simp)), hmG, ?_⟩⟩
            rw [HD9.out.1, HD9.out.2]
            exact HHT.out.told.snap HHT.out.f.good hq)
          clear hrE hmE hgE hsE hS9 hm2E hrG hmG hgG hsG hS8 HC8 K8 h0 hgl
          go_wp2
          go_roundw
          case rel =>
            obtain ⟨f1', f2', hh⟩ := HFIN.out
            exact ⟨k + 1, _, _, _, _, _, _, by omega, by go_num, hh⟩
          case measure => simp [intOf]; omega
        · have d3 : decide ((j : Int) < 16) = false := decide_eq_false hj
          have d3n : decide (j < 16) = false := decide_eq_false (by omega)
          have f1' : decide (o.kd < 1) = true := decide_eq_true (by omega)
          clear hk0 hj
          have HN := Lib.hid HHA.out
          go_wp2_with fail
          go_roundw
          case rel => exact ⟨k + 1, _, _, _, _, _, _, by omega, by go_num, HN.out⟩
          case measure => simp [intOf]; omega
      · have e0 : (o.kd == 0) = false := beq_eq_false_iff_ne.2 hk0
        by_cases h1 : o.kd < 1
        · have f1' : decide (o.kd < 1) = true := decide_eq_true h1
          clear hk0 h1
          have HN := Lib.hid HHA.out
          go_wp2_with fail
          go_roundw
          case rel => exact ⟨k + 1, _, _, _, _, _, _, by omega, by go_num, HN.out⟩
          case measure => simp [intOf]; omega
        · have f1' : decide (o.kd < 1) = false := decide_eq_false h1
          by_cases h4 : (4 : Int) < o.kd
          · have f4 : decide ((4 : Int) < o.kd) = true := decide_eq_true h4
            clear hk0 h1 h4
            have HN := Lib.hid HHA.out
            go_wp2_with fail
            go_roundw
            case rel => exact ⟨k + 1, _, _, _, _, _, _, by omega, by go_num, HN.out⟩
            case measure => simp [intOf]; omega
          · have f4 : decide ((4 : Int) < o.kd) = false := decide_eq_false h4
            have HKD : Hid (1 ≤ o.kd ∧ o.kd ≤ 5) := Lib.hid ⟨by omega, by omega⟩
            clear hk0 h1 h4
            obtain ⟨KC0, KC1⟩ : Blk wA (g + 1) 28 #[.int .i64 (j : Int), .slice S j c] ∧ Blk wA g6 30 #[.int .i64 o.kd, .int .i64 o.at_, .int .i64 o.n, .slice o.D o.dt.length o.cd, .int .i64 o.cx.sq, .slice o.cx.S o.cx.sn.length o.cx.cs] := ⟨HHA.out.bc, HK6.out⟩
            go_upto_region 19 with (first
              | (have _h := KC0; refine wpList_loadq rfl 28 (.tmp 6) rfl (g + 1) [.int .i64 (j : Int), .slice S j c] _ rfl KC0 Try.underlying28 rfl (by kernel_rfl) ?_; clear _h KC0)
              | (have _h := KC1; refine wpList_store_cx rfl 28 (.tmp 84) (.tmp 83) rfl g6 30 _ _ _ _ _ _ (.int .i64 (j : Int)) (.slice S j c) rfl rfl KC1 (by kernel_rfl) rfl rfl ?_; clear _h KC1; intro wB KB hoB hsB))
            have HHB : Hid (Hst w g q j S c f1 f2 wB) := Lib.hid (by
              have h6 := HG6.out
              have hH := HHA.out
              have hF := hH.f
              have hbl : ∀ x t cs, Blk wA x t cs → t ≠ 30 → wB.heap[x]? = wA.heap[x]? := fun x t cs hb ht => hoB.block x hb.lt (fun hm => by
                simp at hm
                subst hm
                exact hb.ne_ HK6.out ht rfl)
              exact ⟨⟨hF.bo.of (hbl _ _ _ hF.bo (by decide)), hF.bc.of (hbl _ _ _ hF.bc (by decide)), OA.P.typed hF.own fun x t cs hb ht => hbl x t cs hb (by rcases ht with rfl | rfl | rfl <;> decide), row_of hF.ctx fun x hx => by obtain ⟨cs, hb⟩ := own_ty hF.ctx hx; exact hbl x _ cs hb (by decide), hF.li, hF.sm, hF.good, hF.sq, hF.l16, hF.bel.trans (hoB.below (B := w.heap.size) (fun x hx => by simp at hx; omega) hF.bel.size), hF.far⟩, hH.m1.of (hoB.block _ hH.m1.lt (by simp; omega)), hH.m2.of (hoB.block _ hH.m2.lt (by simp; omega)), hH.told⟩)
            have hxR : PA.R ⟨o.kd, o.at_, o.n, o.dt, o.D, o.cd, ⟨j, downI j, S, c⟩⟩ wB := by
              have h := HOK.out
              have hg9 := HBA.out.1
              have hbb : Below wo.heap.size wo wB := HBA.out.2.trans (hoB.below (fun x hx => by simp at hx; omega) (by have := HK6.out.lt; omega))
              exact ⟨(h.dt.since hbb).more hbb.size, HHB.out.x, h.k1, h.k2, h.a1, h.a2, h.n1, h.n2, h.dl⟩
            have HDO := Lib.hid (do_any (w := wB) q ⟨o.kd, o.at_, o.n, o.dt, o.D, o.cd, ⟨j, downI j, S, c⟩⟩ (OA.N.R HHB.out.f.own) HHB.out.f.sm hxR (by show o.dt.length ≤ 100000; omega))
            have HKB := Lib.hid KB
            obtain ⟨K1, K2⟩ : Blk wB g 36 #[.bool q.th, .slice q.D q.dt.length q.cd, .int .i64 q.sq, .slice q.C q.cl.length q.cc] ∧ Blk wB g6 30 #[.int .i64 o.kd, .int .i64 o.at_, .int .i64 o.n, .slice o.D o.dt.length o.cd, .int .i64 (j : Int), .slice S j c] := ⟨HHB.out.f.bo, KB⟩
            unfold OA.cs PA.cs at HDO
            simp only [downI_len] at HDO
            clear KB hoB hsB hxR c60 c63 cc0
            go_wp2_with (first
              | (have _h := K1; refine wpList_loadq rfl 36 (.tmp 5) rfl g [.bool q.th, .slice q.D q.dt.length q.cd, .int .i64 q.sq, .slice q.C q.cl.length q.cc] _ rfl K1 Try.underlying36 rfl (by kernel_rfl) ?_; clear _h K1)
              | (have _h := K2; refine wpList_loadq rfl 30 (.tmp 10) rfl g6 [.int .i64 o.kd, .int .i64 o.at_, .int .i64 o.n, .slice o.D o.dt.length o.cd, .int .i64 (j : Int), .slice S j c] _ rfl K2 Try.underlying30 rfl (by kernel_rfl) ?_; clear _h K2))
            refine HDO.out.mono ?_
            rintro e w2 ⟨p, kk, rfl, hr, hN, hS, hb⟩
            have hps : p.cs = #[.bool p.th, .slice p.D p.dt.length p.cd, .int .i64 p.sq, .slice p.C p.cl.length p.cc] := rfl
            rw [hps]
            obtain ⟨w3, hw3⟩ : ∃ w3, w3 = w2.alloc (.cells #[.bool p.th, .slice p.D p.dt.length p.cd, .int .i64 p.sq, .slice p.C p.cl.length p.cc] 36) := ⟨_, rfl⟩
            have hb3 : Below w2.heap.size w2 w3 := by rw [hw3]; exact below_alloc w2 _
            have K7 : Blk w3 w2.heap.size 36 #[.bool p.th, .slice p.D p.dt.length p.cd, .int .i64 p.sq, .slice p.C p.cl.length p.cc] := by rw [hw3]; exact Blk.new w2 _ _
            obtain ⟨g7, hg7⟩ : ∃ g7, g7 = w2.heap.size := ⟨_, rfl⟩
            rw [← hg7] at K7
            have HW3 := Lib.hid hw3
            have HG7 := Lib.hid hg7
            have HF3 := Lib.hid ((HHB.out.next hb).next hb3)
            have HP := Lib.hid (And.intro hr (And.intro (OA.N.weaken (OA.N.below hN hb3) HHB.out.f.bel.size) hS))
            have HK7 := Lib.hid K7
            clear hps hr hN hS hb hb3 K7 hw3 hg7 HDO
            by_cases hkk : kk = 0
            · subst hkk
              unfold errV
              go_upto_region 20 with (fail)
              rw [← HW3.out, ← HG7.out]
              clear HW3 HG7
              have HGD := Lib.hid (opR.good HP.out.1 rfl HKD.out.1 HKD.out.2)
              have K7 := HK7.out
              have K1 := HF3.out.f.bo
              go_upto_region 22 with (first
                | (have _h := K7; refine wpList_loadq rfl 36 (.tmp 13) rfl g7 [.bool p.th, .slice p.D p.dt.length p.cd, .int .i64 p.sq, .slice p.C p.cl.length p.cc] _ rfl K7 Try.underlying36 rfl (by kernel_rfl) ?_; clear _h K7)
                | (have _h := K1; refine wpList_storeq rfl 36 (.tmp 5) (.tmp 93) rfl g #[.bool q.th, .slice q.D q.dt.length q.cd, .int .i64 q.sq, .slice q.C q.cl.length q.cc] [.bool p.th, .slice p.D p.dt.length p.cd, .int .i64 p.sq, .slice p.C p.cl.length p.cc] rfl rfl K1 rfl (by kernel_rfl) (OA.cs_one p) ?_; clear _h K1; intro w9 K9 ho9 hs9))
              have HF9 := Lib.hid (HF3.out.put HP.out.2.1 HP.out.2.2 HGD.out.1 (by have h7 : p.sq = (j : Int) := HGD.out.2; omega) (fun s hs => HP.out.1.at_ rfl HKD.out.1 HKD.out.2 hs) ho9 K9)
              clear K9 ho9 hs9
              go_wp2_with fail
              go_roundw
              case rel => exact ⟨k + 1, _, _, _, _, _, _, by omega, by go_num, HF9.out⟩
              case measure => simp [intOf]; omega
            · rw [errV_some hkk]
              go_upto_region 20 with (fail)
              rw [← HW3.out, ← HG7.out]
              clear HW3 HG7 hkk
              go_wp2_with fail
              go_roundw
              case rel => exact ⟨k + 1, _, _, _, _, _, _, by omega, by go_num, HF3.out⟩
              case measure => simp [intOf]; omega
    -- R}
    -- {E
    · obtain rfl : k = os.length := by omega
      go_upto_region 24 with (fail)
      have hj16 := HH.out.j16
      go_loopw [15] (fun i wr => ∃ (s : Nat), 1 ≤ s ∧ s ≤ j + 1 ∧ i = .int .i64 s ∧ Below wo.heap.size wo wr) (fun i _ => j + 1 - (intOf i).toNat)
      case atStart => exact ⟨1, by omega, by omega, rfl, Below.refl _ _⟩
      case round =>
        obtain ⟨s, hs1, hs2, rfl, hbw⟩ := hrel
        obtain ⟨wv, hwv⟩ : ∃ wv, wv = wr := ⟨_, rfl⟩
        subst hwv
        have hws : IntKind.i64.wrap ((s : Int) + 1) = (s : Int) + 1 := by rw [IntKind.wrap_i64]; omega
        have HBW := Lib.hid hbw
        have HX := Lib.hid (HH.out.next hbw)
        have cc0 : wv.cell? ⟨g + 1, 0, none⟩ = some (.int .i64 (j : Int)) := HX.out.bc.cell 0
        have K1 := HX.out.f.bo
        clear hbw
        by_cases hls : s ≤ j
        · have d5 : decide ((s : Int) ≤ (j : Int)) = true := decide_eq_true (by omega)
          have d5n : decide (s ≤ j) = true := decide_eq_true hls
          have HAT := Lib.hid (at1_any q (s : Int) (OA.N.R HX.out.f.own) HX.out.f.sm HX.out.f.good (by omega))
          unfold OA.cs at HAT
          go_wp2_with (have _h := K1; refine wpList_loadq rfl 36 (.tmp 5) rfl g [.bool q.th, .slice q.D q.dt.length q.cd, .int .i64 q.sq, .slice q.C q.cl.length q.cc] _ rfl K1 Try.underlying36 rfl (by kernel_rfl) ?_; clear _h K1)
          refine HAT.out.mono ?_
          rintro e w5 ⟨A9, c9, rfl, how, hsm9, hb5⟩
          have htl := HX.out.told (s : Int) (by omega) (by omega)
          have hX5 := HX.out.next hb5
          have lk1 := run_lookup_map (P := Try.prog) (w := w5) (t := 68) Try.underlying68 Try.underlying3 zero_str hX5.m1 (s : Int)
          have lk2 := run_lookup_map (P := Try.prog) (w := w5) (t := 69) Try.underlying69 Try.underlying3 zero_bool hX5.m2 (s : Int)
          rw [htl.1, Option.getD_some] at lk1
          rw [htl.2, Option.getD_some] at lk2
          have kcv : ∀ w' : World, w' = w5 → (convert 22 9 (.slice A9 ((atO q.v (s : Int)).getD []).length c9)).run Try.prog w' = .ok (.string (strOf ((atO q.v (s : Int)).getD []))) w' := fun w' h => by subst h; exact str_of (Own.bytes how hsm9) c9 22 9 5 Try.underlying22 Try.underlying5 Try.underlying9
          have kcv5 := kcv w5 rfl
          have HB5 := Lib.hid (HBW.out.trans (hb5.mono HBW.out.size))
          generalize strOf ((atO q.v (s : Int)).getD []) = sb at *
          generalize ((atO q.v (s : Int)).getD []).length = sn at *
          generalize (atO q.v (s : Int)).isSome = bb at *
          clear kcv how hsm9 hb5 htl hX5 HAT cc0 d5 d5n
          have e2 : (bb != bb) = false := by simp
          go_wp2_with (at_lookup; refine wpList_lookup_map rfl 69 (.tmp 108) (.tmp 109) rfl (s : Int) _ rfl rfl lk2 ?_)
          go_roundw
          case rel => exact ⟨s + 1, by omega, by omega, by go_num, HB5.out⟩
          case measure => simp [intOf]; omega
        · have d5 : decide ((s : Int) ≤ (j : Int)) = false := decide_eq_false (by omega)
          have d5n : decide (s ≤ j) = false := decide_eq_false hls
          clear hls
          by_cases hj0 : j = 0
          · subst hj0
            have e9 : ((0 : Int) == 0) = true := rfl
            go_wp2
            go_ret
            exact ⟨rfl, HX.out.f.bel⟩
          · have e9 : ((j : Int) == 0) = false := beq_eq_false_iff_ne.2 (by omega)
            obtain ⟨mm, hmj, hmx⟩ := modq bk j (by omega) (by omega)
            have hwu : IntKind.u64.wrap (j : Int) = (j : Int) := by rw [IntKind.wrap_u64]; omega
            have hw1 : IntKind.i64.wrap (1 + (mm : Int)) = 1 + (mm : Int) := by rw [IntKind.wrap_i64]; omega
            have hj0i : ¬ (j : Int) = 0 := by omega
            have HBK := Lib.hid (snBack q ⟨j, downI j, S, c⟩ (1 + (mm : Int)) (by omega) (by omega) (OA.N.R HX.out.f.own) HX.out.f.sm HX.out.x)
            unfold OA.cs XA.cells at HBK
            simp only [downI_len] at HBK
            have K2 := HX.out.bc
            go_wp2_with (first
              | (have _h := K1; refine wpList_loadq rfl 36 (.tmp 5) rfl g [.bool q.th, .slice q.D q.dt.length q.cd, .int .i64 q.sq, .slice q.C q.cl.length q.cc] _ rfl K1 Try.underlying36 rfl (by kernel_rfl) ?_; clear _h K1)
              | (have _h := K2; refine wpList_loadq rfl 28 (.tmp 6) rfl (g + 1) [.int .i64 (j : Int), .slice S j c] _ rfl K2 Try.underlying28 rfl (by kernel_rfl) ?_; clear _h K2))
            refine HBK.out.mono ?_
            rintro e w2 ⟨p, kk, rfl, hr, hN, hS, hb⟩
            obtain ⟨rfl, hpg, hpa⟩ := back_ok HX.out.f.good hj16 HX.out.sq (by omega) (by omega) hr
            unfold errV
            have hps : p.cs = #[.bool p.th, .slice p.D p.dt.length p.cd, .int .i64 p.sq, .slice p.C p.cl.length p.cc] := rfl
            rw [hps]
            obtain ⟨w3, hw3⟩ : ∃ w3, w3 = w2.alloc (.cells #[.bool p.th, .slice p.D p.dt.length p.cd, .int .i64 p.sq, .slice p.C p.cl.length p.cc] 36) := ⟨_, rfl⟩
            have hb3 : Below w2.heap.size w2 w3 := by rw [hw3]; exact below_alloc w2 _
            have K7 : Blk w3 w2.heap.size 36 #[.bool p.th, .slice p.D p.dt.length p.cd, .int .i64 p.sq, .slice p.C p.cl.length p.cc] := by rw [hw3]; exact Blk.new w2 _ _
            obtain ⟨g7, hg7⟩ : ∃ g7, g7 = w2.heap.size := ⟨_, rfl⟩
            rw [← hg7] at K7
            have HX3 := Lib.hid ((HX.out.next hb).next hb3)
            have HAT := Lib.hid (at1_any p 0 ((OA.N.R hN).since hb3) hS hpg (by omega))
            rw [hpa] at HAT
            unfold OA.cs at HAT
            have HW3 := Lib.hid hw3
            have HG7 := Lib.hid hg7
            clear hps hr hN hS hb hb3 hw3 hg7 HBK cc0 hpa hpg
            go_upto_region 33 with (fail)
            rw [← HW3.out, ← HG7.out]
            clear HW3 HG7
            go_wp2_with (have _h := K7; refine wpList_loadq rfl 36 (.tmp 19) rfl g7 [.bool p.th, .slice p.D p.dt.length p.cd, .int .i64 p.sq, .slice p.C p.cl.length p.cc] _ rfl K7 Try.underlying36 rfl (by kernel_rfl) ?_; clear _h K7)
            refine HAT.out.mono ?_
            rintro e w5 ⟨A9, c9, rfl, how, hsm9, hb5⟩
            have htl := HX3.out.told (1 + (mm : Int)) (by omega) (by omega)
            have hX5 := HX3.out.next hb5
            have lk1 := run_lookup_map (P := Try.prog) (w := w5) (t := 68) Try.underlying68 Try.underlying3 zero_str hX5.m1 (1 + (mm : Int))
            have lk2 := run_lookup_map (P := Try.prog) (w := w5) (t := 69) Try.underlying69 Try.underlying3 zero_bool hX5.m2 (1 + (mm : Int))
            rw [htl.1, Option.getD_some] at lk1
            rw [htl.2, Option.getD_some] at lk2
            have kcv : (convert 22 9 (.slice A9 ((atO q.v (1 + (mm : Int))).getD []).length c9)).run Try.prog w5 = .ok (.string (strOf ((atO q.v (1 + (mm : Int))).getD []))) w5 := str_of (Own.bytes how hsm9) c9 22 9 5 Try.underlying22 Try.underlying5 Try.underlying9
            have HB5 := Lib.hid hX5.f.bel
            generalize strOf ((atO q.v (1 + (mm : Int))).getD []) = sb at *
            generalize ((atO q.v (1 + (mm : Int))).getD []).length = sn at *
            generalize (atO q.v (1 + (mm : Int))).isSome = bb at *
            clear how hsm9 hb5 htl hX5 HAT d5 d5n e9 hwu hmx
            have e2 : (bb == bb) = true := by simp
            go_wp2_with (at_lookup; refine wpList_lookup_map rfl 69 (.tmp 146) (.tmp 147) rfl (1 + (mm : Int)) _ rfl rfl lk2 ?_)
            go_ret
            exact ⟨rfl, HB5.out⟩
    -- E}
end Go.Proofs.Ytcbpdalfindmgaa
