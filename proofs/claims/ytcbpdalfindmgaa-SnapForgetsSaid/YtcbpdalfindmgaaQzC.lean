/-
  The walk of the law SnapForgets. Conditions: the script reads as it is said to.
-/
import Derived.Test.YtcbpdalfindmgaaZg
namespace Go.Proofs.Ytcbpdalfindmgaa
open Go.RowKit Go.BigFrame
set_option linter.unusedSimpArgs false
set_option linter.unusedVariables false
set_option maxRecDepth 100000
/-- memory while the snapshots are forgotten -/
def Till (w : World) (g g7 : Nat) (q : OA) (L : List Int) (S : Option Addr) (c : Nat) (s : Int) (wr : World) : Prop := ∃ x : OA, Blk wr g7 36 #[.bool x.th, .slice x.D x.dt.length x.cd, .int .i64 x.sq, .slice x.C x.cl.length x.cc] ∧ x.N wr w.heap.size ∧ x.Sm ∧ Left q.sq s x.v ∧ Blk wr (g + 1) 28 #[.int .i64 (L.length : Int), .slice S L.length c] ∧ Below w.heap.size w wr
set_option maxHeartbeats 32000000 in
theorem snapForgets_walk {w : World} (As : Option Addr) (cs : Nat) (os : List PA) (hm : os.length ≤ cs ∧ cs ≤ 9223372036854775807) (hR : PasR w As os) :
    Calls Try.prog 8 #[.slice As os.length cs] w fun e w' => e = .returned (.bool true) ∧ Below w.heap.size w w' := by
  have HR := Lib.hid hR
  clear hR
  go_enter Try.func8, Try.ntmps8
  go_wp2_with fail
  refine (alive_any w).mono ?_
  rintro e w1 ⟨rfl, hb1⟩
  have HB1 := Lib.hid hb1
  clear hb1
  by_cases h60 : (60 : Int) < (os.length : Int)
  · have d1 : decide ((60 : Int) < (os.length : Int)) = true := decide_eq_true h60
    go_wp2
    go_ret
    exact ⟨rfl, HB1.out⟩
  have d1 : decide ((60 : Int) < (os.length : Int)) = false := decide_eq_false h60
  obtain ⟨W0, hW0⟩ : ∃ W0, W0 = (w1.alloc (.cells #[.bool false, .slice none 0 0, .int .i64 0, .slice none 0 0] 36)).alloc (.cells #[.int .i64 0, .slice none 0 0] 28) := ⟨_, rfl⟩
  have HF0 := Lib.hid (Fgt.zero HB1.out hW0)
  obtain ⟨g, hg⟩ : ∃ g, g = w1.heap.size := ⟨_, rfl⟩
  have HW0 := Lib.hid hW0
  have HGE := Lib.hid hg
  clear hW0 hg
  go_upto_region 7 with (fail)
  rw [← HW0.out]
  rw [← HGE.out] at HF0 ⊢
  clear HW0 HGE
  go_wp2_with fail
  go_loopw [21] (fun i wr => ∃ (k : Nat) (q : OA) (L : List Int) (S : Option Addr) (c : Nat), k ≤ os.length ∧ i = .int .i64 k ∧ Fgt w g q L S c wr) (fun i _ => os.length - (intOf i).toNat)
  case atStart => exact ⟨0, _, _, _, _, by omega, rfl, HF0.out⟩
  case round =>
    obtain ⟨k, q, L, S, c, hk, rfl, hF⟩ := hrel
    obtain ⟨wo, hwo⟩ : ∃ wo, wo = wr := ⟨_, rfl⟩
    subst hwo
    clear HF0
    have HF := Lib.hid hF
    have hwk : IntKind.i64.wrap ((k : Int) + 1) = (k : Int) + 1 := by rw [IntKind.wrap_i64]; omega
    by_cases hlt : k < os.length
    · obtain ⟨o, ho⟩ : ∃ o, os[k]? = some o := ⟨_, List.getElem?_eq_getElem hlt⟩
      have hRo := HR.out.since hF.bel
      obtain ⟨ad, rfl, hl, hc⟩ := hRo.get ho
      have hok := hRo.ok o (List.mem_of_getElem? ho)
      obtain ⟨wA, hwA⟩ : ∃ wA, wA = wo.alloc (.cells #[.int .i64 o.kd, .int .i64 o.at_, .int .i64 o.n, .slice o.D o.dt.length o.cd, .int .i64 o.cx.sq, .slice o.cx.S o.cx.sn.length o.cx.cs] 30) := ⟨_, rfl⟩
      have hbA : Below wo.heap.size wo wA := by rw [hwA]; exact below_alloc wo _
      have K6 : Blk wA wo.heap.size 30 #[.int .i64 o.kd, .int .i64 o.at_, .int .i64 o.n, .slice o.D o.dt.length o.cd, .int .i64 o.cx.sq, .slice o.cx.S o.cx.sn.length o.cx.cs] := by rw [hwA]; exact Blk.new wo _ _
      obtain ⟨g6, hg6⟩ : ∃ g6, g6 = wo.heap.size := ⟨_, rfl⟩
      rw [← hg6] at K6
      have HFA := Lib.hid (hF.next hbA)
      have HOK := Lib.hid hok
      have HBA : Hid (g6 = wo.heap.size ∧ Below wo.heap.size wo wA) := Lib.hid ⟨hg6, hbA⟩
      have HK6 := Lib.hid K6
      have HG6 : Hid (w.heap.size ≤ g6 ∧ g + 1 < g6) := Lib.hid ⟨by have := hF.bel.size; omega, by have := hF.bc.lt; omega⟩
      have HWA := Lib.hid hwA
      have HGE := Lib.hid hg6
      have c60 : wA.cell? ⟨g6, 0, none⟩ = some (.int .i64 o.kd) := K6.cell 0
      have c63 : wA.cell? ⟨g6, 3, none⟩ = some (.slice o.D o.dt.length o.cd) := K6.cell 3
      have cc0 : wA.cell? ⟨g + 1, 0, none⟩ = some (.int .i64 (L.length : Int)) := HFA.out.bc.cell 0
      have hdl := hok.dl
      clear ho hRo hok hbA K6 hwA hg6 hF
      go_upto_region 10 with (have _h := hc; refine wpList_load_pa rfl (.tmp 23) rfl _ rfl o hc ?_; clear _h hc)
      rw [← HWA.out, ← HGE.out]
      clear HWA HGE
      by_cases h2000 : (2000 : Int) < (o.dt.length : Int)
      · have d2 : decide ((2000 : Int) < (o.dt.length : Int)) = true := decide_eq_true h2000
        go_wp2
        go_ret
        exact ⟨rfl, HFA.out.bel⟩
      have d2 : decide ((2000 : Int) < (o.dt.length : Int)) = false := decide_eq_false h2000
      by_cases hk0 : o.kd = 0
      · have e0 : (o.kd == 0) = true := beq_iff_eq.2 hk0
        by_cases hj : (L.length : Int) < 16
        · have d3 : decide ((L.length : Int) < 16) = true := decide_eq_true hj
          have d3n : decide (L.length < 16) = true := decide_eq_true (by omega)
          have HJ := Lib.hid hj
          clear hk0 hj
          go_upto_region 13 with (fail)
          have hS7 : Blk wA.drew (g + 1) 28 #[.int .i64 (L.length : Int), .slice S L.length c] := HFA.out.bc.drew
          have HC : Hid (∀ w' : World, Blk w' (g + 1) 28 #[.int .i64 (L.length : Int), .slice S L.length c] → w'.cell? ⟨g + 1, 0, none⟩ = some (.int .i64 (L.length : Int)) ∧ w'.cell? ⟨g + 1, 1, none⟩ = some (.slice S L.length c)) := Lib.hid fun w' h => ⟨h.cell 0, h.cell 1⟩
          have hwj : IntKind.i64.wrap ((L.length : Int) + 1) = (L.length : Int) + 1 := by rw [IntKind.wrap_i64]; have := HFA.out.l16; omega
          clear c60 c63 cc0 d1 d2 d3 d3n e0
          refine any_beginL (fun w' => Blk w' (g + 1) 28 #[.int .i64 (L.length : Int), .slice S L.length c]) 11 (by kernel_rfl) ?_
          refine L_take (i := 0) (v := .pointer (some ⟨g + 1, 0, none⟩)) rfl rfl (by kernel_rfl) (by kernel_rfl) (by kernel_rfl) (by kernel_rfl) (fun _ _ _ h => h) (Or.inl ⟨by rfl, fun w hw => by kernel_rfl⟩) hS7 ?_
          simp only [Act.put, List.getElem_toArray, List.getElem_cons_succ, List.getElem_cons_zero, List.setIfInBounds_toArray, List.set_cons_zero, List.set_cons_succ]
          refine L_take (i := 1) (v := .int .i64 (L.length : Int)) rfl rfl (by kernel_rfl) (by kernel_rfl) (by kernel_rfl) (by kernel_rfl) (fun _ _ _ h => h) (Or.inl ⟨by rfl, fun w hw => by have q1 := (HC.out w hw).1; go_simp⟩) hS7 ?_
          simp only [Act.put, List.getElem_toArray, List.getElem_cons_succ, List.getElem_cons_zero, List.setIfInBounds_toArray, List.set_cons_zero, List.set_cons_succ]
          refine L_take (i := 2) (v := .int .i64 ((L.length : Int) + 1)) rfl rfl (by kernel_rfl) (by kernel_rfl) (by kernel_rfl) (by kernel_rfl) (fun _ _ _ h => h) (Or.inl ⟨by rfl, fun w hw => by go_simp⟩) hS7 ?_
          simp only [Act.put, List.getElem_toArray, List.getElem_cons_succ, List.getElem_cons_zero, List.setIfInBounds_toArray, List.set_cons_zero, List.set_cons_succ]
          refine L_take (i := 3) (v := .pointer (some ⟨g + 1, 0, none⟩)) rfl rfl (by kernel_rfl) (by kernel_rfl) (by kernel_rfl) (by kernel_rfl) (fun _ _ _ h => h) (Or.inl ⟨by rfl, fun w hw => by kernel_rfl⟩) hS7 ?_
          simp only [Act.put, List.getElem_toArray, List.getElem_cons_succ, List.getElem_cons_zero, List.setIfInBounds_toArray, List.set_cons_zero, List.set_cons_succ]
          refine L_take (i := 4) (v := .int .i64 (L.length : Int)) rfl rfl (by kernel_rfl) (by kernel_rfl) (by kernel_rfl) (by kernel_rfl) (fun _ _ _ h => h) (Or.inl ⟨by rfl, fun w hw => by have q1 := (HC.out w hw).1; go_simp⟩) hS7 ?_
          simp only [Act.put, List.getElem_toArray, List.getElem_cons_succ, List.getElem_cons_zero, List.setIfInBounds_toArray, List.set_cons_zero, List.set_cons_succ]
          refine L_take (i := 5) (v := .int .i64 ((L.length : Int) + 1)) rfl rfl (by kernel_rfl) (by kernel_rfl) (by kernel_rfl) (by kernel_rfl) (fun _ _ _ h => h) (Or.inl ⟨by rfl, fun w hw => by go_simp⟩) hS7 ?_
          simp only [Act.put, List.getElem_toArray, List.getElem_cons_succ, List.getElem_cons_zero, List.setIfInBounds_toArray, List.set_cons_zero, List.set_cons_succ]
          refine L_take (i := 7) (v := .pointer (some ⟨g + 1, 1, none⟩)) rfl rfl (by kernel_rfl) (by kernel_rfl) (by kernel_rfl) (by kernel_rfl) (fun _ _ _ h => h) (Or.inl ⟨by rfl, fun w hw => by go_simp⟩) hS7 ?_
          simp only [Act.put, List.getElem_toArray, List.getElem_cons_succ, List.getElem_cons_zero, List.setIfInBounds_toArray, List.set_cons_zero, List.set_cons_succ]
          refine L_take (i := 8) (v := .slice S L.length c) rfl rfl (by kernel_rfl) (by kernel_rfl) (by kernel_rfl) (by kernel_rfl) (fun _ _ _ h => h) (Or.inl ⟨by rfl, fun w hw => by have q1 := (HC.out w hw).2; go_simp⟩) hS7 ?_
          simp only [Act.put, List.getElem_toArray, List.getElem_cons_succ, List.getElem_cons_zero, List.setIfInBounds_toArray, List.set_cons_zero, List.set_cons_succ]
          have hbs := run_buildSlice_one (P := Try.prog) (t := 26) (e := 3) (size := 1) (v := .int .i64 ((L.length : Int) + 1)) Try.underlying26 (by kernel_rfl) (by omega) (by omega) rfl wA.drew
          refine L_one (j := 6) (by kernel_rfl) rfl (by rfl) ?_
          simp only [Act.put, List.getElem_toArray, List.getElem_cons_succ, List.getElem_cons_zero, List.setIfInBounds_toArray, List.set_cons_zero, List.set_cons_succ]
          obtain ⟨wB, hwB⟩ : ∃ wB, wB = wA.drew.alloc (.cells #[.int .i64 ((L.length : Int) + 1)] 3) := ⟨_, rfl⟩
          have hFB : Fgt w g q L S c wB := by rw [hwB]; exact HFA.out.drew.next (below_alloc _ _)
          have hown1 : OwnI wB w.heap.size (.slice (some ⟨wA.drew.heap.size, 0, none⟩) 1 1) 1 [(L.length : Int) + 1] := by rw [hwB]; exact OwnI.one _ _ _ (HFA.out.drew.bel.size)
          refine wp_ran (v := .slice (some ⟨wA.drew.heap.size, 0, none⟩) 1 1) (w' := wB) (by rw [hwB]; exact (by go_simp <;> rfl)) ⟨hFB.bc, ?_⟩
          simp only [Act.put, List.getElem_toArray, List.getElem_cons_succ, List.getElem_cons_zero, List.setIfInBounds_toArray, List.set_cons_zero, List.set_cons_succ]
          obtain ⟨i0, hi0, hz0, hz1, hz2⟩ := info_parts int_info
          have hj16 := HJ.out
          have hbz := hFB.bel.size
          refine L_one (j := 9) (by kernel_rfl) rfl (by rfl) ?_
          simp only [Act.put, List.getElem_toArray, List.getElem_cons_succ, List.getElem_cons_zero, List.setIfInBounds_toArray, List.set_cons_zero, List.set_cons_succ]
          refine wp_append_any _ (.tmp 43) (.tmp 45) 26 rfl w.heap.size 3 i0 _ 1 8 Try.underlying26 hi0 hz0 hz1 hz2 rfl (by omega) (.slice (some ⟨wA.drew.heap.size, 0, none⟩) 1 1) 1 (i64s [(L.length : Int) + 1]) rfl hown1 _ S L.length c (i64s L) rfl (OwnI.ints hFB.ctx) (i64s_one _) (by simp only [maxLen]; omega) (by omega) hbz ?_
          intro v3 wC h3 g3 a3
          have h3' : OwnI wC w.heap.size v3 (1 + L.length) (((L.length : Int) + 1) :: L) := by unfold OwnI; exact h3
          obtain ⟨S', c', rfl⟩ := h3'.form2
          have hsz : wA.drew.heap.size < wB.heap.size := by rw [hwB]; simp
          have hFC : Fgt w g q L S c wC := by
            have hbB : Below wA.drew.heap.size wA.drew wB := by rw [hwB]; exact below_alloc _ _
            exact HFA.out.drew.next (hbB.grown g3 (by omega) (fun k e => by simp [Value.ownBlock] at e; subst e; exact Nat.le_refl _))
          refine ⟨hFC.bc, ?_⟩
          simp only [Act.put, List.getElem_toArray, List.getElem_cons_succ, List.getElem_cons_zero, List.setIfInBounds_toArray, List.set_cons_zero, List.set_cons_succ]
          refine L_one (j := 10) (by kernel_rfl) rfl (by rfl) ?_
          simp only [Act.put, List.getElem_toArray, List.getElem_cons_succ, List.getElem_cons_zero, List.setIfInBounds_toArray, List.set_cons_zero, List.set_cons_succ]
          refine wp_ran (v := .agg #[.int .i64 ((L.length : Int) + 1), .slice S' (1 + L.length) c']) (w' := wC) (by kernel_rfl) ⟨hFC.bc, ?_⟩
          simp only [Act.put, List.getElem_toArray, List.getElem_cons_succ, List.getElem_cons_zero, List.setIfInBounds_toArray, List.set_cons_zero, List.set_cons_succ]
          refine L_last (by kernel_rfl) rfl (by rfl) (by kernel_rfl) ?_
          simp only [Act.put, List.getElem_toArray, List.getElem_cons_succ, List.getElem_cons_zero, List.setIfInBounds_toArray, List.set_cons_zero, List.set_cons_succ]
          refine wp_storeq 28 (.tmp 4) (.tmp 47) rfl (g + 1) #[.int .i64 (L.length : Int), .slice S L.length c] [.int .i64 ((L.length : Int) + 1), .slice S' (1 + L.length) c'] rfl rfl hFC.bc rfl (by kernel_rfl) (fun v hv => by simp at hv; rcases hv with rfl | rfl <;> rfl) ?_
          intro wD KD hoD hsD
          refine NoPanic.normal ?_
          simp only [Act.put, List.getElem_toArray, List.getElem_cons_succ, List.getElem_cons_zero, List.setIfInBounds_toArray, List.set_cons_zero, List.set_cons_succ]
          have HFIN : Hid (Fgt w g q (((L.length : Int) + 1) :: L) S' c' wD) := Lib.hid (by
            have e1 : (((L.length : Int) + 1) :: L).length = 1 + L.length := by simp; omega
            have e2 : ((((L.length : Int) + 1) :: L).length : Int) = (L.length : Int) + 1 := by rw [e1]; omega
            refine hFC.cx ?_ (fun s hs => ?_) (by rw [e1]; omega) (by rw [e1]; omega) hoD ?_
            · rw [e1]; exact h3'
            · rcases List.mem_cons.1 hs with rfl | hs
              · omega
              · exact hFC.li s hs
            · rw [e2, e1]; exact KD)
          clear KD hoD hsD hFC h3 h3' g3 a3 hown1 hFB hS7 HC hbs hwB hsz hi0 hz0 hz1 hz2
          go_wp2
          go_roundw
          case rel => exact ⟨k + 1, _, _, _, _, by omega, by go_num, HFIN.out⟩
          case measure => simp [intOf]; omega
        · have d3 : decide ((L.length : Int) < 16) = false := decide_eq_false hj
          have d3n : decide (L.length < 16) = false := decide_eq_false (by omega)
          clear hk0 hj
          obtain ⟨KC0, KC1⟩ : Blk wA (g + 1) 28 #[.int .i64 (L.length : Int), .slice S L.length c] ∧ Blk wA g6 30 #[.int .i64 o.kd, .int .i64 o.at_, .int .i64 o.n, .slice o.D o.dt.length o.cd, .int .i64 o.cx.sq, .slice o.cx.S o.cx.sn.length o.cx.cs] := ⟨HFA.out.bc, HK6.out⟩
          go_upto_region 15 with (first
            | (have _h := KC0; refine wpList_loadq rfl 28 (.tmp 4) rfl (g + 1) [.int .i64 (L.length : Int), .slice S L.length c] _ rfl KC0 Try.underlying28 rfl (by kernel_rfl) ?_; clear _h KC0)
            | (have _h := KC1; refine wpList_store_cx rfl 28 (.tmp 49) (.tmp 48) rfl g6 30 _ _ _ _ _ _ (.int .i64 (L.length : Int)) (.slice S L.length c) rfl rfl KC1 (by kernel_rfl) rfl rfl ?_; clear _h KC1; intro wB KB hoB hsB))
          have HFB : Hid (Fgt w g q L S c wB) := Lib.hid (by
            have h6 := HG6.out
            have hF := HFA.out
            have hbl : ∀ x t cs, Blk wA x t cs → t ≠ 30 → wB.heap[x]? = wA.heap[x]? := fun x t cs hb ht => hoB.block x hb.lt (fun hm => by
              simp at hm
              subst hm
              exact hb.ne_ HK6.out ht rfl)
            exact ⟨hF.bo.of (hbl _ _ _ hF.bo (by decide)), hF.bc.of (hbl _ _ _ hF.bc (by decide)), OA.P.typed hF.own fun x t cs hb ht => hbl x t cs hb (by rcases ht with rfl | rfl | rfl <;> decide), row_of hF.ctx fun x hx => by obtain ⟨cs, hb⟩ := own_ty hF.ctx hx; exact hbl x _ cs hb (by decide), hF.li, hF.sm, hF.good, hF.sq, hF.l16, hF.bel.trans (hoB.below (B := w.heap.size) (fun x hx => by simp at hx; omega) hF.bel.size), hF.far⟩)
          have hxR : PA.R ⟨o.kd, o.at_, o.n, o.dt, o.D, o.cd, ⟨L.length, L, S, c⟩⟩ wB := by
            have h := HOK.out
            have hg9 := HBA.out.1
            have hbb : Below wo.heap.size wo wB := HBA.out.2.trans (hoB.below (fun x hx => by simp at hx; omega) (by have := HK6.out.lt; omega))
            exact ⟨(h.dt.since hbb).more hbb.size, HFB.out.x, h.k1, h.k2, h.a1, h.a2, h.n1, h.n2, h.dl⟩
          have HDO := Lib.hid (do_any (w := wB) q ⟨o.kd, o.at_, o.n, o.dt, o.D, o.cd, ⟨L.length, L, S, c⟩⟩ (OA.N.R HFB.out.own) HFB.out.sm hxR (by show o.dt.length ≤ 100000; omega))
          have HKB := Lib.hid KB
          obtain ⟨K1, K2⟩ : Blk wB g 36 #[.bool q.th, .slice q.D q.dt.length q.cd, .int .i64 q.sq, .slice q.C q.cl.length q.cc] ∧ Blk wB g6 30 #[.int .i64 o.kd, .int .i64 o.at_, .int .i64 o.n, .slice o.D o.dt.length o.cd, .int .i64 (L.length : Int), .slice S L.length c] := ⟨HFB.out.bo, KB⟩
          unfold OA.cs PA.cs at HDO
          simp only at HDO
          clear KB hoB hsB hxR c60 c63 cc0
          go_wp2_with (first
            | (have _h := K1; refine wpList_loadq rfl 36 (.tmp 3) rfl g [.bool q.th, .slice q.D q.dt.length q.cd, .int .i64 q.sq, .slice q.C q.cl.length q.cc] _ rfl K1 Try.underlying36 rfl (by kernel_rfl) ?_; clear _h K1)
            | (have _h := K2; refine wpList_loadq rfl 30 (.tmp 6) rfl g6 [.int .i64 o.kd, .int .i64 o.at_, .int .i64 o.n, .slice o.D o.dt.length o.cd, .int .i64 (L.length : Int), .slice S L.length c] _ rfl K2 Try.underlying30 rfl (by kernel_rfl) ?_; clear _h K2))
          refine HDO.out.mono ?_
          rintro e w2 ⟨p, kk, rfl, hr, hN, hS, hb⟩
          have hps : p.cs = #[.bool p.th, .slice p.D p.dt.length p.cd, .int .i64 p.sq, .slice p.C p.cl.length p.cc] := rfl
          rw [hps]
          obtain ⟨w3, hw3⟩ : ∃ w3, w3 = w2.alloc (.cells #[.bool p.th, .slice p.D p.dt.length p.cd, .int .i64 p.sq, .slice p.C p.cl.length p.cc] 36) := ⟨_, rfl⟩
          have hb3 : Below w2.heap.size w2 w3 := by rw [hw3]; exact below_alloc w2 _
          have K7 : Blk w3 w2.heap.size 36 #[.bool p.th, .slice p.D p.dt.length p.cd, .int .i64 p.sq, .slice p.C p.cl.length p.cc] := by rw [hw3]; exact Blk.new w2 _ _
          obtain ⟨g7, hg7⟩ : ∃ g7, g7 = w2.heap.size := ⟨_, rfl⟩
          rw [← hg7] at K7
          have HW3 := Lib.hid hw3
          have HG7 := Lib.hid hg7
          have HF3 := Lib.hid ((HFB.out.next hb).next hb3)
          have HP := Lib.hid (And.intro hr (And.intro (OA.N.weaken (OA.N.below hN hb3) HFB.out.bel.size) hS))
          have c60 : w3.cell? ⟨g6, 0, none⟩ = some (.int .i64 o.kd) := ((HKB.out.of (hb.block _ HKB.out.lt)).of (hb3.block _ (by have := HKB.out.lt; have := hb.size; omega))).cell 0
          have HK7 := Lib.hid K7
          clear hps hr hN hS hb hb3 K7 hw3 hg7 HDO
          by_cases hkk : kk = 0
          · subst hkk
            unfold errV
            go_upto_region 16 with (fail)
            rw [← HW3.out, ← HG7.out]
            clear HW3 HG7
            by_cases h1 : (1 : Int) ≤ o.kd
            · have f1 : decide ((1 : Int) ≤ o.kd) = true := decide_eq_true h1
              by_cases h5 : o.kd ≤ 5
              · have f5 : decide (o.kd ≤ 5) = true := decide_eq_true h5
                have hgd := opR.good HP.out.1 rfl h1 h5
                have HGD := Lib.hid hgd
                have K7 := HK7.out
                have K1 := HF3.out.bo
                clear h1 h5 hgd
                go_upto_region 18 with (first
                  | (have _h := K7; refine wpList_loadq rfl 36 (.tmp 7) rfl g7 [.bool p.th, .slice p.D p.dt.length p.cd, .int .i64 p.sq, .slice p.C p.cl.length p.cc] _ rfl K7 Try.underlying36 rfl (by kernel_rfl) ?_; clear _h K7)
                  | (have _h := K1; refine wpList_storeq rfl 36 (.tmp 3) (.tmp 68) rfl g #[.bool q.th, .slice q.D q.dt.length q.cd, .int .i64 q.sq, .slice q.C q.cl.length q.cc] [.bool p.th, .slice p.D p.dt.length p.cd, .int .i64 p.sq, .slice p.C p.cl.length p.cc] rfl rfl K1 rfl (by kernel_rfl) (OA.cs_one p) ?_; clear _h K1; intro w9 K9 ho9 hs9))
                have HF9 := Lib.hid (HF3.out.put HP.out.2.1 HP.out.2.2 HGD.out.1 (by have h7 : p.sq = (L.length : Int) := HGD.out.2; omega) ho9 K9)
                clear K9 ho9 hs9
                have cq3 : w9.cell? ⟨g, 3, none⟩ = some (.slice p.C p.cl.length p.cc) := HF9.out.bo.cell 3
                have cl3 : w9.cell? ⟨g + 1, 0, none⟩ = some (.int .i64 (L.length : Int)) := HF9.out.bc.cell 0
                have hfew := HF9.out.few
                have d9 : decide ((L.length : Int) < (p.cl.length : Int)) = false := decide_eq_false (by omega)
                have d9n : decide (L.length < p.cl.length) = false := decide_eq_false (by omega)
                generalize p.cl.length = nq at *
                go_wp2_with fail
                go_roundw
                case rel => exact ⟨k + 1, _, _, _, _, by omega, by go_num, HF9.out⟩
                case measure => simp [intOf]; omega
              · have f5 : decide (o.kd ≤ 5) = false := decide_eq_false h5
                clear h1 h5
                have cq3 : w3.cell? ⟨g, 3, none⟩ = some (.slice q.C q.cl.length q.cc) := HF3.out.bo.cell 3
                have cl3 : w3.cell? ⟨g + 1, 0, none⟩ = some (.int .i64 (L.length : Int)) := HF3.out.bc.cell 0
                have hfew := HF3.out.few
                have d9 : decide ((L.length : Int) < (q.cl.length : Int)) = false := decide_eq_false (by omega)
                have d9n : decide (L.length < q.cl.length) = false := decide_eq_false (by omega)
                generalize q.cl.length = nq at *
                go_wp2_with fail
                go_roundw
                case rel => exact ⟨k + 1, _, _, _, _, by omega, by go_num, HF3.out⟩
                case measure => simp [intOf]; omega
            · have f1 : decide ((1 : Int) ≤ o.kd) = false := decide_eq_false h1
              clear h1
              have cq3 : w3.cell? ⟨g, 3, none⟩ = some (.slice q.C q.cl.length q.cc) := HF3.out.bo.cell 3
              have cl3 : w3.cell? ⟨g + 1, 0, none⟩ = some (.int .i64 (L.length : Int)) := HF3.out.bc.cell 0
              have hfew := HF3.out.few
              have d9 : decide ((L.length : Int) < (q.cl.length : Int)) = false := decide_eq_false (by omega)
              have d9n : decide (L.length < q.cl.length) = false := decide_eq_false (by omega)
              generalize q.cl.length = nq at *
              go_wp2_with fail
              go_roundw
              case rel => exact ⟨k + 1, _, _, _, _, by omega, by go_num, HF3.out⟩
              case measure => simp [intOf]; omega
          · rw [errV_some hkk]
            go_upto_region 16 with (fail)
            rw [← HW3.out, ← HG7.out]
            clear HW3 HG7 hkk
            have cq3 : w3.cell? ⟨g, 3, none⟩ = some (.slice q.C q.cl.length q.cc) := HF3.out.bo.cell 3
            have cl3 : w3.cell? ⟨g + 1, 0, none⟩ = some (.int .i64 (L.length : Int)) := HF3.out.bc.cell 0
            have hfew := HF3.out.few
            have d9 : decide ((L.length : Int) < (q.cl.length : Int)) = false := decide_eq_false (by omega)
            have d9n : decide (L.length < q.cl.length) = false := decide_eq_false (by omega)
            generalize q.cl.length = nq at *
            go_wp2_with fail
            go_roundw
            case rel => exact ⟨k + 1, _, _, _, _, by omega, by go_num, HF3.out⟩
            case measure => simp [intOf]; omega
      · have e0 : (o.kd == 0) = false := beq_eq_false_iff_ne.2 hk0
        clear hk0
        obtain ⟨KC0, KC1⟩ : Blk wA (g + 1) 28 #[.int .i64 (L.length : Int), .slice S L.length c] ∧ Blk wA g6 30 #[.int .i64 o.kd, .int .i64 o.at_, .int .i64 o.n, .slice o.D o.dt.length o.cd, .int .i64 o.cx.sq, .slice o.cx.S o.cx.sn.length o.cx.cs] := ⟨HFA.out.bc, HK6.out⟩
        go_upto_region 15 with (first
          | (have _h := KC0; refine wpList_loadq rfl 28 (.tmp 4) rfl (g + 1) [.int .i64 (L.length : Int), .slice S L.length c] _ rfl KC0 Try.underlying28 rfl (by kernel_rfl) ?_; clear _h KC0)
          | (have _h := KC1; refine wpList_store_cx rfl 28 (.tmp 49) (.tmp 48) rfl g6 30 _ _ _ _ _ _ (.int .i64 (L.length : Int)) (.slice S L.length c) rfl rfl KC1 (by kernel_rfl) rfl rfl ?_; clear _h KC1; intro wB KB hoB hsB))
        have HFB : Hid (Fgt w g q L S c wB) := Lib.hid (by
          have h6 := HG6.out
          have hF := HFA.out
          have hbl : ∀ x t cs, Blk wA x t cs → t ≠ 30 → wB.heap[x]? = wA.heap[x]? := fun x t cs hb ht => hoB.block x hb.lt (fun hm => by
            simp at hm
            subst hm
            exact hb.ne_ HK6.out ht rfl)
          exact ⟨hF.bo.of (hbl _ _ _ hF.bo (by decide)), hF.bc.of (hbl _ _ _ hF.bc (by decide)), OA.P.typed hF.own fun x t cs hb ht => hbl x t cs hb (by rcases ht with rfl | rfl | rfl <;> decide), row_of hF.ctx fun x hx => by obtain ⟨cs, hb⟩ := own_ty hF.ctx hx; exact hbl x _ cs hb (by decide), hF.li, hF.sm, hF.good, hF.sq, hF.l16, hF.bel.trans (hoB.below (B := w.heap.size) (fun x hx => by simp at hx; omega) hF.bel.size), hF.far⟩)
        have hxR : PA.R ⟨o.kd, o.at_, o.n, o.dt, o.D, o.cd, ⟨L.length, L, S, c⟩⟩ wB := by
          have h := HOK.out
          have hg9 := HBA.out.1
          have hbb : Below wo.heap.size wo wB := HBA.out.2.trans (hoB.below (fun x hx => by simp at hx; omega) (by have := HK6.out.lt; omega))
          exact ⟨(h.dt.since hbb).more hbb.size, HFB.out.x, h.k1, h.k2, h.a1, h.a2, h.n1, h.n2, h.dl⟩
        have HDO := Lib.hid (do_any (w := wB) q ⟨o.kd, o.at_, o.n, o.dt, o.D, o.cd, ⟨L.length, L, S, c⟩⟩ (OA.N.R HFB.out.own) HFB.out.sm hxR (by show o.dt.length ≤ 100000; omega))
        have HKB := Lib.hid KB
        obtain ⟨K1, K2⟩ : Blk wB g 36 #[.bool q.th, .slice q.D q.dt.length q.cd, .int .i64 q.sq, .slice q.C q.cl.length q.cc] ∧ Blk wB g6 30 #[.int .i64 o.kd, .int .i64 o.at_, .int .i64 o.n, .slice o.D o.dt.length o.cd, .int .i64 (L.length : Int), .slice S L.length c] := ⟨HFB.out.bo, KB⟩
        unfold OA.cs PA.cs at HDO
        simp only at HDO
        clear KB hoB hsB hxR c60 c63 cc0
        go_wp2_with (first
          | (have _h := K1; refine wpList_loadq rfl 36 (.tmp 3) rfl g [.bool q.th, .slice q.D q.dt.length q.cd, .int .i64 q.sq, .slice q.C q.cl.length q.cc] _ rfl K1 Try.underlying36 rfl (by kernel_rfl) ?_; clear _h K1)
          | (have _h := K2; refine wpList_loadq rfl 30 (.tmp 6) rfl g6 [.int .i64 o.kd, .int .i64 o.at_, .int .i64 o.n, .slice o.D o.dt.length o.cd, .int .i64 (L.length : Int), .slice S L.length c] _ rfl K2 Try.underlying30 rfl (by kernel_rfl) ?_; clear _h K2))
        refine HDO.out.mono ?_
        rintro e w2 ⟨p, kk, rfl, hr, hN, hS, hb⟩
        have hps : p.cs = #[.bool p.th, .slice p.D p.dt.length p.cd, .int .i64 p.sq, .slice p.C p.cl.length p.cc] := rfl
        rw [hps]
        obtain ⟨w3, hw3⟩ : ∃ w3, w3 = w2.alloc (.cells #[.bool p.th, .slice p.D p.dt.length p.cd, .int .i64 p.sq, .slice p.C p.cl.length p.cc] 36) := ⟨_, rfl⟩
        have hb3 : Below w2.heap.size w2 w3 := by rw [hw3]; exact below_alloc w2 _
        have K7 : Blk w3 w2.heap.size 36 #[.bool p.th, .slice p.D p.dt.length p.cd, .int .i64 p.sq, .slice p.C p.cl.length p.cc] := by rw [hw3]; exact Blk.new w2 _ _
        obtain ⟨g7, hg7⟩ : ∃ g7, g7 = w2.heap.size := ⟨_, rfl⟩
        rw [← hg7] at K7
        have HW3 := Lib.hid hw3
        have HG7 := Lib.hid hg7
        have HF3 := Lib.hid ((HFB.out.next hb).next hb3)
        have HP := Lib.hid (And.intro hr (And.intro (OA.N.weaken (OA.N.below hN hb3) HFB.out.bel.size) hS))
        have c60 : w3.cell? ⟨g6, 0, none⟩ = some (.int .i64 o.kd) := ((HKB.out.of (hb.block _ HKB.out.lt)).of (hb3.block _ (by have := HKB.out.lt; have := hb.size; omega))).cell 0
        have HK7 := Lib.hid K7
        clear hps hr hN hS hb hb3 K7 hw3 hg7 HDO
        by_cases hkk : kk = 0
        · subst hkk
          unfold errV
          go_upto_region 16 with (fail)
          rw [← HW3.out, ← HG7.out]
          clear HW3 HG7
          by_cases h1 : (1 : Int) ≤ o.kd
          · have f1 : decide ((1 : Int) ≤ o.kd) = true := decide_eq_true h1
            by_cases h5 : o.kd ≤ 5
            · have f5 : decide (o.kd ≤ 5) = true := decide_eq_true h5
              have hgd := opR.good HP.out.1 rfl h1 h5
              have HGD := Lib.hid hgd
              have K7 := HK7.out
              have K1 := HF3.out.bo
              clear h1 h5 hgd
              go_upto_region 18 with (first
                | (have _h := K7; refine wpList_loadq rfl 36 (.tmp 7) rfl g7 [.bool p.th, .slice p.D p.dt.length p.cd, .int .i64 p.sq, .slice p.C p.cl.length p.cc] _ rfl K7 Try.underlying36 rfl (by kernel_rfl) ?_; clear _h K7)
                | (have _h := K1; refine wpList_storeq rfl 36 (.tmp 3) (.tmp 68) rfl g #[.bool q.th, .slice q.D q.dt.length q.cd, .int .i64 q.sq, .slice q.C q.cl.length q.cc] [.bool p.th, .slice p.D p.dt.length p.cd, .int .i64 p.sq, .slice p.C p.cl.length p.cc] rfl rfl K1 rfl (by kernel_rfl) (OA.cs_one p) ?_; clear _h K1; intro w9 K9 ho9 hs9))
              have HF9 := Lib.hid (HF3.out.put HP.out.2.1 HP.out.2.2 HGD.out.1 (by have h7 : p.sq = (L.length : Int) := HGD.out.2; omega) ho9 K9)
              clear K9 ho9 hs9
              have cq3 : w9.cell? ⟨g, 3, none⟩ = some (.slice p.C p.cl.length p.cc) := HF9.out.bo.cell 3
              have cl3 : w9.cell? ⟨g + 1, 0, none⟩ = some (.int .i64 (L.length : Int)) := HF9.out.bc.cell 0
              have hfew := HF9.out.few
              have d9 : decide ((L.length : Int) < (p.cl.length : Int)) = false := decide_eq_false (by omega)
              have d9n : decide (L.length < p.cl.length) = false := decide_eq_false (by omega)
              generalize p.cl.length = nq at *
              go_wp2_with fail
              go_roundw
              case rel => exact ⟨k + 1, _, _, _, _, by omega, by go_num, HF9.out⟩
              case measure => simp [intOf]; omega
            · have f5 : decide (o.kd ≤ 5) = false := decide_eq_false h5
              clear h1 h5
              have cq3 : w3.cell? ⟨g, 3, none⟩ = some (.slice q.C q.cl.length q.cc) := HF3.out.bo.cell 3
              have cl3 : w3.cell? ⟨g + 1, 0, none⟩ = some (.int .i64 (L.length : Int)) := HF3.out.bc.cell 0
              have hfew := HF3.out.few
              have d9 : decide ((L.length : Int) < (q.cl.length : Int)) = false := decide_eq_false (by omega)
              have d9n : decide (L.length < q.cl.length) = false := decide_eq_false (by omega)
              generalize q.cl.length = nq at *
              go_wp2_with fail
              go_roundw
              case rel => exact ⟨k + 1, _, _, _, _, by omega, by go_num, HF3.out⟩
              case measure => simp [intOf]; omega
          · have f1 : decide ((1 : Int) ≤ o.kd) = false := decide_eq_false h1
            clear h1
            have cq3 : w3.cell? ⟨g, 3, none⟩ = some (.slice q.C q.cl.length q.cc) := HF3.out.bo.cell 3
            have cl3 : w3.cell? ⟨g + 1, 0, none⟩ = some (.int .i64 (L.length : Int)) := HF3.out.bc.cell 0
            have hfew := HF3.out.few
            have d9 : decide ((L.length : Int) < (q.cl.length : Int)) = false := decide_eq_false (by omega)
            have d9n : decide (L.length < q.cl.length) = false := decide_eq_false (by omega)
            generalize q.cl.length = nq at *
            go_wp2_with fail
            go_roundw
            case rel => exact ⟨k + 1, _, _, _, _, by omega, by go_num, HF3.out⟩
            case measure => simp [intOf]; omega
        · rw [errV_some hkk]
          go_upto_region 16 with (fail)
          rw [← HW3.out, ← HG7.out]
          clear HW3 HG7 hkk
          have cq3 : w3.cell? ⟨g, 3, none⟩ = some (.slice q.C q.cl.length q.cc) := HF3.out.bo.cell 3
          have cl3 : w3.cell? ⟨g + 1, 0, none⟩ = some (.int .i64 (L.length : Int)) := HF3.out.bc.cell 0
          have hfew := HF3.out.few
          have d9 : decide ((L.length : Int) < (q.cl.length : Int)) = false := decide_eq_false (by omega)
          have d9n : decide (L.length < q.cl.length) = false := decide_eq_false (by omega)
          generalize q.cl.length = nq at *
          go_wp2_with fail
          go_roundw
          case rel => exact ⟨k + 1, _, _, _, _, by omega, by go_num, HF3.out⟩
          case measure => simp [intOf]; omega
    · obtain rfl : k = os.length := by omega
      have HEND := HF
      have K1 := HF.out.bo
      have cq2 : wo.cell? ⟨g, 2, none⟩ = some (.int .i64 q.sq) := HF.out.bo.cell 2
      have HDR := Lib.hid (snDrop q ⟨q.sq, [], none, 0⟩ (OA.N.R HF.out.own) HF.out.sm ⟨Reads.none_, fun s hs => (by cases hs), HF.out.own.q1, HF.out.own.q2, by simp, by simp⟩)
      unfold OA.cs XA.cells at HDR
      simp only [List.length_nil] at HDR
      go_wp2_with (have _h := K1; refine wpList_loadq rfl 36 (.tmp 3) rfl g [.bool q.th, .slice q.D q.dt.length q.cd, .int .i64 q.sq, .slice q.C q.cl.length q.cc] _ rfl K1 Try.underlying36 rfl (by kernel_rfl) ?_; clear _h K1)
      refine HDR.out.mono ?_
      rintro e w2 ⟨p, kk, rfl, hr, hN, hS, hb⟩
      obtain ⟨rfl, hpv, hpg⟩ := drop_ok HF.out.good hr
      unfold errV
      have hps : p.cs = #[.bool p.th, .slice p.D p.dt.length p.cd, .int .i64 p.sq, .slice p.C p.cl.length p.cc] := rfl
      rw [hps]
      obtain ⟨w3, hw3⟩ : ∃ w3, w3 = w2.alloc (.cells #[.bool p.th, .slice p.D p.dt.length p.cd, .int .i64 p.sq, .slice p.C p.cl.length p.cc] 36) := ⟨_, rfl⟩
      have hb3 : Below w2.heap.size w2 w3 := by rw [hw3]; exact below_alloc w2 _
      have K7 : Blk w3 w2.heap.size 36 #[.bool p.th, .slice p.D p.dt.length p.cd, .int .i64 p.sq, .slice p.C p.cl.length p.cc] := by rw [hw3]; exact Blk.new w2 _ _
      obtain ⟨g7, hg7⟩ : ∃ g7, g7 = w2.heap.size := ⟨_, rfl⟩
      rw [← hg7] at K7
      have hF3 := (HF.out.next hb).next hb3
      have hpl : p.cl.length = q.cl.length := by
        have h1 : p.v.cl = q.v.cl := by rw [hpv]
        rw [← OA.vs_len, ← OA.vs_len]
        exact congrArg List.length h1
      have HG7 : Hid (g + 1 < g7) := Lib.hid (by have := (HF.out.next hb).bc.lt; omega)
      have HLF : Hid (Till w g g7 q L S c 1 w3) := Lib.hid ⟨p, K7, OA.N.weaken (OA.N.below hN hb3) HF.out.bel.size, hS, Left.first hpg hpv, hF3.bc, hF3.bel⟩
      have hpc : w3.cell? ⟨g7, 3, none⟩ = some (.slice p.C q.cl.length p.cc) := by have := K7.cell 3; rw [← hpl]; exact this
      have hqc : w3.cell? ⟨g, 3, none⟩ = some (.slice q.C q.cl.length q.cc) := hF3.bo.cell 3
      have HSQ : Hid (q.sq ≤ L.length ∧ L.length ≤ 16) := Lib.hid ⟨HF.out.sq, HF.out.l16⟩
      have HW3 := Lib.hid hw3
      have HGE := Lib.hid hg7
      clear hps hr hN hS hb hb3 K7 hw3 hg7 hpv hpg hpl hF3 HDR cq2
      go_upto_region 22 with (fail)
      rw [← HW3.out, ← HGE.out]
      clear HW3 HGE
      go_upto_region 25 with (fail)
      clear hpc hqc
      go_loopw [11] (fun i wr => ∃ (s : Nat), 1 ≤ s ∧ s ≤ L.length + 1 ∧ i = .int .i64 s ∧ Till w g g7 q L S c s wr) (fun i _ => L.length + 1 - (intOf i).toNat)
      case atStart => exact ⟨1, by omega, by omega, rfl, HLF.out⟩
      case round =>
        obtain ⟨s, hs1, hs2, rfl, x, K9, hN, hS, hL, hC, hbel⟩ := hrel
        obtain ⟨wv, hwv⟩ : ∃ wv, wv = wr := ⟨_, rfl⟩
        subst hwv
        have hws : IntKind.i64.wrap ((s : Int) + 1) = (s : Int) + 1 := by rw [IntKind.wrap_i64]; have := HSQ.out.2; omega
        have cc0 : wv.cell? ⟨g + 1, 0, none⟩ = some (.int .i64 (L.length : Int)) := hC.cell 0
        have HX := Lib.hid (And.intro K9 (And.intro hN (And.intro hS (And.intro hL (And.intro hC hbel)))))
        clear hN hS hL hC hbel
        by_cases hls : s ≤ L.length
        · have d5 : decide ((s : Int) ≤ (L.length : Int)) = true := decide_eq_true (by omega)
          have d5n : decide (s ≤ L.length) = true := decide_eq_true hls
          have HTR := Lib.hid (snTrim x (s : Int) (OA.N.R HX.out.2.1) HX.out.2.2.1)
          unfold OA.cs at HTR
          go_wp2_with (have _h := K9; refine wpList_loadq rfl 36 (.tmp 9) rfl g7 [.bool x.th, .slice x.D x.dt.length x.cd, .int .i64 x.sq, .slice x.C x.cl.length x.cc] _ rfl K9 Try.underlying36 rfl (by kernel_rfl) ?_; clear _h K9)
          refine HTR.out.mono ?_
          rintro e w5 ⟨y, kk, rfl, hr, hN, hS, hb⟩
          obtain ⟨rfl, hL5⟩ := HX.out.2.2.2.1.next (by omega) hr
          unfold errV
          have hys : y.cs = #[.bool y.th, .slice y.D y.dt.length y.cd, .int .i64 y.sq, .slice y.C y.cl.length y.cc] := rfl
          rw [hys]
          have K9 := HX.out.1.of (hb.block _ HX.out.1.lt)
          have HY := Lib.hid (And.intro (OA.N.weaken hN HX.out.2.2.2.2.2.size) (And.intro hS (And.intro hL5 (And.intro (HX.out.2.2.2.2.1.of (hb.block _ HX.out.2.2.2.2.1.lt)) (HX.out.2.2.2.2.2.trans (hb.mono HX.out.2.2.2.2.2.size))))))
          have HK9 := Lib.hid K9
          clear hys hr hN hS hL5 hb HTR cc0
          go_upto_region 28 with (have _h := K9; refine wpList_storeq rfl 36 (.tmp 9) (.tmp 105) rfl g7 #[.bool x.th, .slice x.D x.dt.length x.cd, .int .i64 x.sq, .slice x.C x.cl.length x.cc] [.bool y.th, .slice y.D y.dt.length y.cd, .int .i64 y.sq, .slice y.C y.cl.length y.cc] rfl rfl K9 rfl (by kernel_rfl) (OA.cs_one y) ?_; clear _h K9; intro w9 K9 ho9 hs9)
          have HFIN : Hid (Till w g g7 q L S c (s + 1) w9) := Lib.hid (by
            have hg9 := HG7.out
            refine ⟨y, K9, OA.P.typed HY.out.1 fun k t cs hb ht => ho9.block k hb.lt (fun hm => ?_), HY.out.2.1, HY.out.2.2.1, HY.out.2.2.2.1.only ho9 (by simp; omega), HY.out.2.2.2.2.trans (ho9.below (B := w.heap.size) (fun k hk => by simp at hk; have := HF.out.far; omega) HY.out.2.2.2.2.size)⟩
            simp at hm
            subst hm
            refine hb.ne_ HK9.out ?_ rfl
            rcases ht with rfl | rfl | rfl <;> decide)
          clear K9 ho9 hs9 HK9 HY
          go_wp2_with fail
          go_roundw
          case rel => exact ⟨s + 1, by omega, by omega, by go_num, HFIN.out⟩
          case measure => simp [intOf]; omega
        · have d5 : decide ((s : Int) ≤ (L.length : Int)) = false := decide_eq_false (by omega)
          have d5n : decide (s ≤ L.length) = false := decide_eq_false hls
          have hcl0 := HX.out.2.2.2.1.last (by have := HSQ.out.1; omega)
          have hcl : x.cl.length = 0 := by rw [← OA.vs_len]; have : x.vs = [] := hcl0; rw [this]; rfl
          have hth : x.th = false := HX.out.2.2.2.1.th
          have HEM := empty_any (w := wv) x (by omega)
          rw [hcl, hth] at HEM
          have HEM := Lib.hid HEM
          unfold OA.cs at HEM
          clear hcl0 hcl hth
          have K9b := K9
          go_wp2_with (have _h := K9; refine wpList_loadq rfl 36 (.tmp 9) rfl g7 [.bool x.th, .slice x.D x.dt.length x.cd, .int .i64 x.sq, .slice x.C x.cl.length x.cc] _ rfl K9 Try.underlying36 rfl (by kernel_rfl) ?_; clear _h K9)
          refine HEM.out.mono ?_
          rintro e w5 ⟨rfl, hb5⟩
          have K9 := HX.out.1.of (hb5.block _ HX.out.1.lt)
          have HGD := Lib.hid (sgood_any x ((OA.N.R HX.out.2.1).since hb5))
          unfold OA.cs at HGD
          have HB5 := Lib.hid (HX.out.2.2.2.2.2.trans (hb5.mono HX.out.2.2.2.2.2.size))
          clear hb5 K9b HEM cc0 d5 d5n
          have q0 : w5.cell? ⟨g7, 0, none⟩ = some (.bool x.th) := K9.cell 0
          have q1 : w5.cell? ⟨g7, 1, none⟩ = some (.slice x.D x.dt.length x.cd) := K9.cell 1
          have q2 : w5.cell? ⟨g7, 2, none⟩ = some (.int .i64 x.sq) := K9.cell 2
          have q3 : w5.cell? ⟨g7, 3, none⟩ = some (.slice x.C x.cl.length x.cc) := K9.cell 3
          clear K9
          go_wp2_with fail
          refine HGD.out.mono ?_
          rintro e w6 ⟨b, rfl, hg, hb6⟩
          obtain rfl : b = true := hg.2 HX.out.2.2.2.1.g
          have HB6 := Lib.hid (HB5.out.trans (hb6.mono HB5.out.size))
          clear hg hb6 HGD
          go_wp2
          go_ret
          exact ⟨rfl, HB6.out⟩
end Go.Proofs.Ytcbpdalfindmgaa
