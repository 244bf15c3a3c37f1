/-
  What may be done with an object's head, and what is done: Drop, Cut, Back. Conditions: the object lies where it is said to.
-/
import Derived.Test.YtjepfeagbiceoaaQk
namespace Go.Proofs.Ytjepfeagbiceoaa
open Go.RowKit Go.BigFrame
set_option linter.unusedSimpArgs false
set_option linter.unusedVariables false
set_option maxRecDepth 100000
theorem changes_any {w : World} {g : Nat} {th : Bool} {x1 x2 x3 : Value} (K : Blk w g 36 #[.bool th, x1, x2, x3]) (b : Bool) : Calls Try.prog 77 #[.pointer (some ⟨g, 0, none⟩), .bool b] w fun e w' => e = .returned (errV (if b = false then 1 else if th = false then 6 else 0)) ∧ w = w' := by
  have c0 : w.cell? ⟨g, 0, none⟩ = some (.bool th) := K.cell 0
  clear K
  cases b with
  | false =>
    go_enter Try.func77, Try.ntmps77
    go_wp2
    go_ret
    exact ⟨rfl, rfl⟩
  | true =>
    cases th with
    | false =>
      go_enter Try.func77, Try.ntmps77
      go_wp2
      go_ret
      exact ⟨rfl, rfl⟩
    | true =>
      go_enter Try.func77, Try.ntmps77
      go_wp2
      go_ret
      exact ⟨rfl, rfl⟩
/-! ### Drop -/
theorem dropMay (w : World) : MayC w 66 #[] 0 := fun w1 _ => by
  go_enter Try.func66, Try.ntmps66
  go_wp2
  go_ret
  exact ⟨rfl, Below.refl _ _⟩
theorem dropDoes (w : World) (q0 : OV) : DoesC w 67 #[] q0 none := fun w1 g q hb hg K hN hS hv => by
  subst hv
  have HK := Lib.hid K
  have HN := Lib.hid hN
  have HS := Lib.hid hS
  have f0 : w1.frozen? ⟨g, 0, none⟩ = false := K.frozen 0
  have f1 : w1.frozen? ⟨g, 1, none⟩ = false := K.frozen 1
  have c0 : w1.cell? ⟨g, 0, none⟩ = some (.bool q.th) := K.cell 0
  have c1 : w1.cell? ⟨g, 1, none⟩ = some (.slice q.D q.dt.length q.cd) := K.cell 1
  clear K hN hS
  show Calls Try.prog 67 #[.pointer (some ⟨g, 0, none⟩)] w1 _
  go_enter Try.func67, Try.ntmps67
  go_wp2
  refine bodyPost_end (results_none rfl _ _ _) rfl ?_
  have ho : Only (g :: rowOf (.slice q.D 0 0)) w1 ((w1.setCell ⟨g, 0, none⟩ (.bool false)).setCell ⟨g, 1, none⟩ (.slice none 0 0)) := ((Only.refl _ _).setCell (.inl (by simp)) _).setCell (.inl (by simp)) _
  refine DoesTo.of (D' := none) (bs := []) (c' := 0) (th := false) HN.out HS.out HK.out ho (Own.nil _ _) (fun b hb => (by cases hb)) (fun k hk => by simp [rowOf, Value.ownBlock] at hk) (by simp) ?_ (by simp) (fun _ => rfl)
  have := (HK.out.set_ 0 (.bool false)).set_ 1 (.slice none 0 0)
  simpa [OA.cs] using this
/-! ### Cut -/
def cutK (o : OV) (n : Int) : Nat := if ¬ (0 ≤ n ∧ n ≤ 256) then 1 else if o.th = false then 6 else 0
theorem cutMay {w : World} {po pn : Nat} (o : OA) (n : Int) (K : Blk w po 36 o.cs) (Kn : Blk w pn 3 #[.int .i64 n]) : MayC w 79 #[.pointer (some ⟨po, 0, none⟩), .pointer (some ⟨pn, 0, none⟩)] (cutK o.v n) := fun w1 hb => by
  have K1 := K.of (hb.block _ K.lt)
  have cn : w1.cell? ⟨pn, 0, none⟩ = some (.int .i64 n) := (Kn.of (hb.block _ Kn.lt)).cell 0
  have HT := Lib.hid (fun b => changes_any (b := b) K1)
  clear K Kn hb K1
  have hv : o.v.th = o.th := rfl
  by_cases h0 : 0 ≤ n
  · have d0 : decide (0 ≤ n) = true := decide_eq_true h0
    by_cases h1 : n ≤ 256
    · have d1 : decide (n ≤ 256) = true := decide_eq_true h1
      have HK : Hid (cutK o.v n = if o.th = false then 6 else 0) := Lib.hid (by unfold cutK; rw [if_neg (by omega), hv])
      have HT2 := Lib.hid (HT.out true)
      clear h0 h1 HT hv
      go_enter Try.func79, Try.ntmps79
      go_wp2_with fail
      refine HT2.out.mono ?_
      rintro e w' ⟨rfl, rfl⟩
      obtain ⟨kk, hkk⟩ : ∃ kk : Nat, kk = (if true = false then 1 else if o.th = false then 6 else 0) := ⟨_, rfl⟩
      rw [← hkk]
      have HKK := Lib.hid hkk
      clear hkk
      generalize hev : errV kk = ev
      have HEV := Lib.hid hev
      clear hev
      go_wp2
      go_ret
      rw [← HEV.out, HKK.out, HK.out]
      exact ⟨rfl, Below.refl _ _⟩
    · have d1 : decide (n ≤ 256) = false := decide_eq_false h1
      have HK : Hid (cutK o.v n = 1) := Lib.hid (by unfold cutK; rw [if_pos (by omega)])
      have HT2 := Lib.hid (HT.out false)
      clear h0 h1 HT hv
      go_enter Try.func79, Try.ntmps79
      go_wp2_with fail
      refine HT2.out.mono ?_
      rintro e w' ⟨rfl, rfl⟩
      go_wp2
      go_ret
      rw [HK.out]
      exact ⟨rfl, Below.refl _ _⟩
  · have d0 : decide (0 ≤ n) = false := decide_eq_false h0
    have HK : Hid (cutK o.v n = 1) := Lib.hid (by unfold cutK; rw [if_pos (by omega)])
    have HT2 := Lib.hid (HT.out false)
    clear h0 HT hv
    go_enter Try.func79, Try.ntmps79
    go_wp2_with fail
    refine HT2.out.mono ?_
    rintro e w' ⟨rfl, rfl⟩
    go_wp2
    go_ret
    rw [HK.out]
    exact ⟨rfl, Below.refl _ _⟩
set_option maxHeartbeats 4000000 in
theorem cutDoes {w : World} {pn : Nat} (q0 : OV) (n : Nat) (hn : n ≤ 256) (hth : q0.th = true) (Kn : Blk w pn 3 #[.int .i64 (n : Int)]) : DoesC w 80 #[.pointer (some ⟨pn, 0, none⟩)] q0 (some (q0.dt.take n)) := fun w1 g q hb hg K hN hS hv => by
  subst hv
  have Kn1 := Kn.of (hb.block _ Kn.lt)
  have hthq : q.th = true := hth
  have HK := Lib.hid K
  have HN := Lib.hid hN
  have HS := Lib.hid hS
  have HTH := Lib.hid hthq
  obtain ⟨-, hl, hmc, hD⟩ := own_len hN.dt
  have HDD := Lib.hid hD
  obtain ⟨k, hk⟩ : ∃ k, k = min n q.dt.length := ⟨_, rfl⟩
  have HKE := Lib.hid hk
  have hsl := run_head_bytes q.D q.dt.length q.cd k (by omega) hD
  have HC : Hid (∀ w' : World, (Blk w' g 36 #[.bool q.th, .slice q.D q.dt.length q.cd, .int .i64 q.sq, .slice q.C q.cl.length q.cc] ∧ Blk w' pn 3 #[.int .i64 (n : Int)]) → w'.cell? ⟨g, 1, none⟩ = some (.slice q.D q.dt.length q.cd) ∧ w'.cell? ⟨pn, 0, none⟩ = some (.int .i64 (n : Int))) := Lib.hid fun w' h => ⟨h.1.cell 1, h.2.cell 0⟩
  have hS7 : Blk w1.drew g 36 #[.bool q.th, .slice q.D q.dt.length q.cd, .int .i64 q.sq, .slice q.C q.cl.length q.cc] ∧ Blk w1.drew pn 3 #[.int .i64 (n : Int)] := ⟨K.drew, Kn1.drew⟩
  have hmin : (Builtin.min_ #[3, 3] 3 #[.int .i64 (n : Int), .int .i64 (q.dt.length : Int)]).run Try.prog w1 = .ok (.int .i64 (k : Int)) w1 ∨ True := .inr trivial
  have hsd := hS.dt
  clear K hN hS hth hthq hb Kn Kn1 hD hmin
  show Calls Try.prog 80 #[.pointer (some ⟨g, 0, none⟩), .pointer (some ⟨pn, 0, none⟩)] w1 _
  go_enter Try.func80, Try.ntmps80
  go_upto_region 0 with (fail)
  refine any_beginL (fun w' => Blk w' g 36 #[.bool q.th, .slice q.D q.dt.length q.cd, .int .i64 q.sq, .slice q.C q.cl.length q.cc] ∧ Blk w' pn 3 #[.int .i64 (n : Int)]) 15 (by kernel_rfl) ?_
  refine L_take (i := 0) (v := .pointer (some ⟨g, 0, none⟩)) rfl rfl (by kernel_rfl) (by kernel_rfl) (by kernel_rfl) (by kernel_rfl) (fun _ _ _ h => h) (Or.inl ⟨by rfl, fun w hw => by kernel_rfl⟩) hS7 ?_
  simp only [Act.put, List.getElem_toArray, List.getElem_cons_succ, List.getElem_cons_zero, List.setIfInBounds_toArray, List.set_cons_zero, List.set_cons_succ]
  refine L_take (i := 1) (v := .pointer (some ⟨g, 0, none⟩)) rfl rfl (by kernel_rfl) (by kernel_rfl) (by kernel_rfl) (by kernel_rfl) (fun _ _ _ h => h) (Or.inl ⟨by rfl, fun w hw => by kernel_rfl⟩) hS7 ?_
  simp only [Act.put, List.getElem_toArray, List.getElem_cons_succ, List.getElem_cons_zero, List.setIfInBounds_toArray, List.set_cons_zero, List.set_cons_succ]
  refine L_take (i := 2) (v := .pointer (some ⟨g, 0, none⟩)) rfl rfl (by kernel_rfl) (by kernel_rfl) (by kernel_rfl) (by kernel_rfl) (fun _ _ _ h => h) (Or.inl ⟨by rfl, fun w hw => by kernel_rfl⟩) hS7 ?_
  simp only [Act.put, List.getElem_toArray, List.getElem_cons_succ, List.getElem_cons_zero, List.setIfInBounds_toArray, List.set_cons_zero, List.set_cons_succ]
  refine L_take (i := 3) (v := .pointer (some ⟨g, 1, none⟩)) rfl rfl (by kernel_rfl) (by kernel_rfl) (by kernel_rfl) (by kernel_rfl) (fun _ _ _ h => h) (Or.inl ⟨by rfl, fun w hw => by go_simp⟩) hS7 ?_
  simp only [Act.put, List.getElem_toArray, List.getElem_cons_succ, List.getElem_cons_zero, List.setIfInBounds_toArray, List.set_cons_zero, List.set_cons_succ]
  refine L_take (i := 4) (v := .slice q.D q.dt.length q.cd) rfl rfl (by kernel_rfl) (by kernel_rfl) (by kernel_rfl) (by kernel_rfl) (fun _ _ _ h => h) (Or.inl ⟨by rfl, fun w hw => by have q1 := (HC.out w hw).1; go_simp⟩) hS7 ?_
  simp only [Act.put, List.getElem_toArray, List.getElem_cons_succ, List.getElem_cons_zero, List.setIfInBounds_toArray, List.set_cons_zero, List.set_cons_succ]
  refine L_take (i := 5) (v := .int .i64 (n : Int)) rfl rfl (by kernel_rfl) (by kernel_rfl) (by kernel_rfl) (by kernel_rfl) (fun _ _ _ h => h) (Or.inl ⟨by rfl, fun w hw => by have q1 := (HC.out w hw).2; go_simp⟩) hS7 ?_
  simp only [Act.put, List.getElem_toArray, List.getElem_cons_succ, List.getElem_cons_zero, List.setIfInBounds_toArray, List.set_cons_zero, List.set_cons_succ]
  refine L_take (i := 6) (v := .pointer (some ⟨g, 0, none⟩)) rfl rfl (by kernel_rfl) (by kernel_rfl) (by kernel_rfl) (by kernel_rfl) (fun _ _ _ h => h) (Or.inl ⟨by rfl, fun w hw => by kernel_rfl⟩) hS7 ?_
  simp only [Act.put, List.getElem_toArray, List.getElem_cons_succ, List.getElem_cons_zero, List.setIfInBounds_toArray, List.set_cons_zero, List.set_cons_succ]
  refine L_take (i := 7) (v := .pointer (some ⟨g, 0, none⟩)) rfl rfl (by kernel_rfl) (by kernel_rfl) (by kernel_rfl) (by kernel_rfl) (fun _ _ _ h => h) (Or.inl ⟨by rfl, fun w hw => by kernel_rfl⟩) hS7 ?_
  simp only [Act.put, List.getElem_toArray, List.getElem_cons_succ, List.getElem_cons_zero, List.setIfInBounds_toArray, List.set_cons_zero, List.set_cons_succ]
  refine L_take (i := 8) (v := .pointer (some ⟨g, 1, none⟩)) rfl rfl (by kernel_rfl) (by kernel_rfl) (by kernel_rfl) (by kernel_rfl) (fun _ _ _ h => h) (Or.inl ⟨by rfl, fun w hw => by go_simp⟩) hS7 ?_
  simp only [Act.put, List.getElem_toArray, List.getElem_cons_succ, List.getElem_cons_zero, List.setIfInBounds_toArray, List.set_cons_zero, List.set_cons_succ]
  refine L_take (i := 9) (v := .slice q.D q.dt.length q.cd) rfl rfl (by kernel_rfl) (by kernel_rfl) (by kernel_rfl) (by kernel_rfl) (fun _ _ _ h => h) (Or.inl ⟨by rfl, fun w hw => by have q1 := (HC.out w hw).1; go_simp⟩) hS7 ?_
  simp only [Act.put, List.getElem_toArray, List.getElem_cons_succ, List.getElem_cons_zero, List.setIfInBounds_toArray, List.set_cons_zero, List.set_cons_succ]
  refine L_take (i := 10) (v := .int .i64 (q.dt.length : Int)) rfl rfl (by kernel_rfl) (by kernel_rfl) (by kernel_rfl) (by kernel_rfl) (fun _ _ _ h => h) (Or.inl ⟨by rfl, fun w hw => by go_simp⟩) hS7 ?_
  simp only [Act.put, List.getElem_toArray, List.getElem_cons_succ, List.getElem_cons_zero, List.setIfInBounds_toArray, List.set_cons_zero, List.set_cons_succ]
  by_cases hle : n ≤ q.dt.length
  · have hkk : k = n := by omega
    have hcmp : decide ((n : Int) ≤ (q.dt.length : Int)) = true := decide_eq_true (by omega)
    have hcmp2 : decide ((q.dt.length : Int) < (n : Int)) = false := decide_eq_false (by omega)
    have hcmp3 : ((n : Int) ≤ (q.dt.length : Int)) = True := by simp; omega
    refine L_take (i := 11) (v := .int .i64 (n : Int)) rfl rfl (by kernel_rfl) (by kernel_rfl) (by kernel_rfl) (by kernel_rfl) (fun _ _ _ h => h) (Or.inl ⟨by rfl, fun w hw => by go_simp <;> omega⟩) hS7 ?_
    simp only [Act.put, List.getElem_toArray, List.getElem_cons_succ, List.getElem_cons_zero, List.setIfInBounds_toArray, List.set_cons_zero, List.set_cons_succ]
    rw [hkk] at hsl
    refine L_one (j := 12) (by kernel_rfl) rfl (by rfl) ?_
    simp only [Act.put, List.getElem_toArray, List.getElem_cons_succ, List.getElem_cons_zero, List.setIfInBounds_toArray, List.set_cons_zero, List.set_cons_succ]
    refine wp_ran (v := .slice q.D n q.cd) (w' := w1.drew) (by go_simp) ⟨hS7, ?_⟩
    simp only [Act.put, List.getElem_toArray, List.getElem_cons_succ, List.getElem_cons_zero, List.setIfInBounds_toArray, List.set_cons_zero, List.set_cons_succ]
    refine L_one (j := 13) (by kernel_rfl) rfl (by rfl) ?_
    simp only [Act.put, List.getElem_toArray, List.getElem_cons_succ, List.getElem_cons_zero, List.setIfInBounds_toArray, List.set_cons_zero, List.set_cons_succ]
    refine wp_ran (v := .pointer (some ⟨g, 0, none⟩)) (w' := w1.drew) (by kernel_rfl) ⟨hS7, ?_⟩
    simp only [Act.put, List.getElem_toArray, List.getElem_cons_succ, List.getElem_cons_zero, List.setIfInBounds_toArray, List.set_cons_zero, List.set_cons_succ]
    refine L_one (j := 14) (by kernel_rfl) rfl (by rfl) ?_
    simp only [Act.put, List.getElem_toArray, List.getElem_cons_succ, List.getElem_cons_zero, List.setIfInBounds_toArray, List.set_cons_zero, List.set_cons_succ]
    refine wp_ran (v := .pointer (some ⟨g, 1, none⟩)) (w' := w1.drew) (by go_simp) ⟨hS7, ?_⟩
    simp only [Act.put, List.getElem_toArray, List.getElem_cons_succ, List.getElem_cons_zero, List.setIfInBounds_toArray, List.set_cons_zero, List.set_cons_succ]
    refine L_last (by kernel_rfl) rfl (by rfl) (by kernel_rfl) ?_
    simp only [Act.put, List.getElem_toArray, List.getElem_cons_succ, List.getElem_cons_zero, List.setIfInBounds_toArray, List.set_cons_zero, List.set_cons_succ]
    refine wp_setq 22 (.tmp 17) (.tmp 15) rfl g 1 36 _ (.slice q.D n q.cd) rfl rfl hS7.1 (by simp) (by kernel_rfl) rfl ?_
    intro w4 K4 ho4 hs4
    refine NoPanic.normal ?_
    simp only [Act.put, List.getElem_toArray, List.getElem_cons_succ, List.getElem_cons_zero, List.setIfInBounds_toArray, List.set_cons_zero, List.set_cons_succ]
    have HFIN : Hid (DoesTo w1 g w.heap.size q (some (q.v.dt.take n)) (.returned (.tuple #[])) w4) := Lib.hid (by
      have e1 : (q.dt.take n).length = n := by simp; omega
      have hown := own_take HN.out.dt (n := n) (by omega)
      have e2 : q.dt.take n = q.dt.take n := by rfl
      rw [e2] at hown
      have ho5 : Only (g :: rowOf (.slice q.D 0 0)) w1 w4 := (show Only [g] w1 w4 from ⟨ho4.os, ho4.tape, ho4.output, ho4.size, ho4.block⟩).mono (fun k hk => by simp at hk; simp [hk])
      refine DoesTo.of (D' := q.D) (bs := q.dt.take n) (c' := q.cd) (th := true) HN.out HS.out HK.out ho5 ?_ (fun b hb => HN.out.ok b (List.mem_of_mem_take hb)) (fun k hk => .inl hk) (by rw [e1]; omega) ?_ rfl (fun h => (by cases h))
      · rw [e1]
        exact row_of hown fun k hk => ho4.block k (row_under hown k hk) (fun hm => by simp at hm; subst hm; obtain ⟨cs, hb⟩ := own_ty hown hk; exact hb.ne_ HK.out (by decide) rfl)
      · rw [e1]
        have h7 := HTH.out
        rw [h7] at K4
        simpa using K4)
    clear K4 ho4 hs4 hS7 hsl HC
    go_wp2
    refine bodyPost_end (results_none rfl _ _ _) rfl ?_
    exact HFIN.out
  · have hkk : k = q.dt.length := by omega
    have hcmp : decide ((n : Int) ≤ (q.dt.length : Int)) = false := decide_eq_false (by omega)
    have hcmp2 : decide ((q.dt.length : Int) < (n : Int)) = true := decide_eq_true (by omega)
    have hcmp3 : ((n : Int) ≤ (q.dt.length : Int)) = False := by simp; omega
    refine L_take (i := 11) (v := .int .i64 (q.dt.length : Int)) rfl rfl (by kernel_rfl) (by kernel_rfl) (by kernel_rfl) (by kernel_rfl) (fun _ _ _ h => h) (Or.inl ⟨by rfl, fun w hw => by go_simp <;> omega⟩) hS7 ?_
    simp only [Act.put, List.getElem_toArray, List.getElem_cons_succ, List.getElem_cons_zero, List.setIfInBounds_toArray, List.set_cons_zero, List.set_cons_succ]
    rw [hkk] at hsl
    refine L_one (j := 12) (by kernel_rfl) rfl (by rfl) ?_
    simp only [Act.put, List.getElem_toArray, List.getElem_cons_succ, List.getElem_cons_zero, List.setIfInBounds_toArray, List.set_cons_zero, List.set_cons_succ]
    refine wp_ran (v := .slice q.D q.dt.length q.cd) (w' := w1.drew) (by go_simp) ⟨hS7, ?_⟩
    simp only [Act.put, List.getElem_toArray, List.getElem_cons_succ, List.getElem_cons_zero, List.setIfInBounds_toArray, List.set_cons_zero, List.set_cons_succ]
    refine L_one (j := 13) (by kernel_rfl) rfl (by rfl) ?_
    simp only [Act.put, List.getElem_toArray, List.getElem_cons_succ, List.getElem_cons_zero, List.setIfInBounds_toArray, List.set_cons_zero, List.set_cons_succ]
    refine wp_ran (v := .pointer (some ⟨g, 0, none⟩)) (w' := w1.drew) (by kernel_rfl) ⟨hS7, ?_⟩
    simp only [Act.put, List.getElem_toArray, List.getElem_cons_succ, List.getElem_cons_zero, List.setIfInBounds_toArray, List.set_cons_zero, List.set_cons_succ]
    refine L_one (j := 14) (by kernel_rfl) rfl (by rfl) ?_
    simp only [Act.put, List.getElem_toArray, List.getElem_cons_succ, List.getElem_cons_zero, List.setIfInBounds_toArray, List.set_cons_zero, List.set_cons_succ]
    refine wp_ran (v := .pointer (some ⟨g, 1, none⟩)) (w' := w1.drew) (by go_simp) ⟨hS7, ?_⟩
    simp only [Act.put, List.getElem_toArray, List.getElem_cons_succ, List.getElem_cons_zero, List.setIfInBounds_toArray, List.set_cons_zero, List.set_cons_succ]
    refine L_last (by kernel_rfl) rfl (by rfl) (by kernel_rfl) ?_
    simp only [Act.put, List.getElem_toArray, List.getElem_cons_succ, List.getElem_cons_zero, List.setIfInBounds_toArray, List.set_cons_zero, List.set_cons_succ]
    refine wp_setq 22 (.tmp 17) (.tmp 15) rfl g 1 36 _ (.slice q.D q.dt.length q.cd) rfl rfl hS7.1 (by simp) (by kernel_rfl) rfl ?_
    intro w4 K4 ho4 hs4
    refine NoPanic.normal ?_
    simp only [Act.put, List.getElem_toArray, List.getElem_cons_succ, List.getElem_cons_zero, List.setIfInBounds_toArray, List.set_cons_zero, List.set_cons_succ]
    have HFIN : Hid (DoesTo w1 g w.heap.size q (some (q.v.dt.take n)) (.returned (.tuple #[])) w4) := Lib.hid (by
      have e1 : (q.dt.take n).length = q.dt.length := by simp; omega
      have hown := own_take HN.out.dt (n := q.dt.length) (by omega)
      have e2 : q.dt.take q.dt.length = q.dt.take n := by rw [List.take_of_length_le (Nat.le_refl _), List.take_of_length_le (by omega)]
      rw [e2] at hown
      have ho5 : Only (g :: rowOf (.slice q.D 0 0)) w1 w4 := (show Only [g] w1 w4 from ⟨ho4.os, ho4.tape, ho4.output, ho4.size, ho4.block⟩).mono (fun k hk => by simp at hk; simp [hk])
      refine DoesTo.of (D' := q.D) (bs := q.dt.take n) (c' := q.cd) (th := true) HN.out HS.out HK.out ho5 ?_ (fun b hb => HN.out.ok b (List.mem_of_mem_take hb)) (fun k hk => .inl hk) (by rw [e1]; omega) ?_ rfl (fun h => (by cases h))
      · rw [e1]
        exact row_of hown fun k hk => ho4.block k (row_under hown k hk) (fun hm => by simp at hm; subst hm; obtain ⟨cs, hb⟩ := own_ty hown hk; exact hb.ne_ HK.out (by decide) rfl)
      · rw [e1]
        have h7 := HTH.out
        rw [h7] at K4
        simpa using K4)
    clear K4 ho4 hs4 hS7 hsl HC
    go_wp2
    refine bodyPost_end (results_none rfl _ _ _) rfl ?_
    exact HFIN.out
end Go.Proofs.Ytjepfeagbiceoaa
