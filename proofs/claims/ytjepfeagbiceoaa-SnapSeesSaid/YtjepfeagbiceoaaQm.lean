/-
  What may be done with an object's head, and what is done: Zero, Back. Conditions: the object lies where it is said to.
-/
import Derived.Test.YtjepfeagbiceoaaQl
namespace Go.Proofs.Ytjepfeagbiceoaa
open Go.RowKit Go.BigFrame
set_option linter.unusedSimpArgs false
set_option linter.unusedVariables false
set_option maxRecDepth 100000
theorem wp_loadq {P : Program} {o : Oper} {a : Act} {w : World} {K : Act → World → Prop} {Q : Exit → Act → World → Prop} (ty : TypeId) (x : Operand) (ho : o.op = .load ty x)
    (g : Nat) (cs : List Value) (d : TypeDesc) (hx : a.eval x = .pointer (some ⟨g, 0, none⟩)) (hB : Blk w g ty cs.toArray) (hu : P.underlying ty = some d) (hd : d.isRow = true) (hi : (P.info? ty).map (·.size) = some cs.length)
    (h : K (a.put o.dst (.agg cs.toArray)) w) : o.wp P a w K Q := by
  unfold Oper.wp execOp
  simp only [ho, hx, Instr.loadAt, Instr.sureAddr, Sem.run_bind, Sem.run_pure, Result.andThen_ok, run_loadVar_mid w g 0 ty cs d hB.range hu hd hi]
  exact h
theorem run_head_anyq (A : Option Addr) (m c n : Nat) (h : n ≤ c) (w : World) : (Instr.slice 22 (.slice A m c) none (some (.int .i64 (n : Int))) none).run Try.prog w = .ok (.slice (if c = 0 then A else A.map (·.add 0)) n c) w := by
  have hsz : ∀ w, (sizeOf (Try.prog.elem 22)).run Try.prog w = .ok 1 w := fun w => by kernel_rfl
  rw [run_slice_h w 22 A m c (by kernel_rfl) .i64 (n : Int) (by omega) (by omega), hsz]
  simp [Result.andThen, sliced]
/-- a part of a row of bytes is cleared -/
theorem clear_part {w : World} {base m c a0 k : Nat} {D : Option Addr} {R : List Nat} (h : Own w base (.slice D m c) m R) (hk : a0 + k ≤ m) : ∃ A1 A2 w', (Instr.slice 22 (.slice D m c) (some (.int .i64 (a0 : Int))) none none).run Try.prog w = .ok (.slice A1 (m - a0) (c - a0)) w ∧
    (Instr.slice 22 (.slice A1 (m - a0) (c - a0)) none (some (.int .i64 (k : Int))) none).run Try.prog w = .ok (.slice A2 k (c - a0)) w ∧
    (∀ ty, (Builtin.clear_ #[22] ty #[.slice A2 k (c - a0)]).run Try.prog w = .ok (.tuple #[]) w') ∧ Own w' base (.slice D m c) m (R.take a0 ++ List.replicate k 0 ++ R.drop (a0 + k)) ∧ Only (rowOf (.slice D 0 0)) w w' := by
  obtain ⟨-, hl, hmc, hD⟩ := own_len h
  have h1 := run_cut_bytes D m c a0 (by omega) w
  have h2 := run_head_anyq (if c = a0 then D else D.map (·.add (a0 * 1))) (m - a0) (c - a0) k (by omega) w
  rcases Nat.eq_zero_or_pos k with hk0 | hk0
  · subst hk0
    refine ⟨_, _, w, h1, h2, fun ty => ?_, ?_, Only.refl _ _⟩
    · generalize (if c - a0 = 0 then (if c = a0 then D else D.map (·.add (a0 * 1))) else (if c = a0 then D else D.map (·.add (a0 * 1))).map (·.add 0)) = A2
      cases A2 <;> simp [Builtin.clear_, run_underlying Try.underlying22]
    · have : R.take a0 ++ List.replicate 0 0 ++ R.drop (a0 + 0) = R := by simp
      rw [this]
      exact h
  · obtain ⟨b, rfl⟩ : ∃ b, D = some ⟨b, 0, none⟩ := by
      rcases hD with rfl | hb
      · rcases h.2 with ⟨_, e0⟩ | ⟨_, _, _, e, _⟩
        · omega
        · cases e
      · exact hb
    obtain ⟨w', h3, h4, h5⟩ := clear_own (at_ := a0) (k := k) h (by omega) hk0
    have e1 : (if c = a0 then some (⟨b, 0, none⟩ : Addr) else (some (⟨b, 0, none⟩ : Addr)).map (·.add (a0 * 1))) = some ⟨b, a0, none⟩ := by
      rw [if_neg (by omega), Option.map_some, Nat.mul_one, add_zero_off]
    rw [e1] at h1 h2
    have e2 : (if c - a0 = 0 then some (⟨b, a0, none⟩ : Addr) else (some (⟨b, a0, none⟩ : Addr)).map (·.add 0)) = some ⟨b, a0, none⟩ := by
      rw [if_neg (by omega)]; simp [Addr.add]
    rw [e2] at h2
    exact ⟨_, _, w', h1, h2, fun ty => h3 ty _, h4, h5.mono (fun k hk => by simp at hk; subst hk; simp [rowOf, Value.ownBlock])⟩
def zeroD (d : List Nat) (a n : Nat) : List Nat := d.take (min a d.length) ++ List.replicate (min n (d.length - min a d.length)) 0 ++ d.drop (min a d.length + min n (d.length - min a d.length))
theorem zeroD_len (d : List Nat) (a n : Nat) : (zeroD d a n).length = d.length := by simp [zeroD]; omega
def zeroK (o : OV) (a n : Int) : Nat := if ¬ (0 ≤ a ∧ 0 ≤ n) then 1 else if o.th = false then 6 else 0
theorem zeroMay {w : World} {po pa pn : Nat} (o : OA) (a n : Int) (K : Blk w po 36 o.cs) (Ka : Blk w pa 3 #[.int .i64 a]) (Kn : Blk w pn 3 #[.int .i64 n]) : MayC w 76 #[.pointer (some ⟨po, 0, none⟩), .pointer (some ⟨pa, 0, none⟩), .pointer (some ⟨pn, 0, none⟩)] (zeroK o.v a n) := fun w1 hb => by
  have K1 := K.of (hb.block _ K.lt)
  have ca : w1.cell? ⟨pa, 0, none⟩ = some (.int .i64 a) := (Ka.of (hb.block _ Ka.lt)).cell 0
  have cn : w1.cell? ⟨pn, 0, none⟩ = some (.int .i64 n) := (Kn.of (hb.block _ Kn.lt)).cell 0
  have HT := Lib.hid (fun b => changes_any (b := b) K1)
  clear K Ka Kn hb K1
  have hv : o.v.th = o.th := rfl
  by_cases h0 : 0 ≤ a
  · have d0 : decide (0 ≤ a) = true := decide_eq_true h0
    by_cases h1 : 0 ≤ n
    · have d1 : decide (0 ≤ n) = true := decide_eq_true h1
      have HK : Hid (zeroK o.v a n = if o.th = false then 6 else 0) := Lib.hid (by unfold zeroK; rw [if_neg (by omega), hv])
      have HT2 := Lib.hid (HT.out true)
      clear h0 h1 HT hv
      go_enter Try.func76, Try.ntmps76
      go_wp2_with fail
      refine HT2.out.mono ?_
      rintro e w' ⟨rfl, rfl⟩
      obtain ⟨kk, hkk⟩ : ∃ kk : Nat, kk = (if true = false then 1 else if o.th = false then 6 else 0) := ⟨_, rfl⟩
      rw [← hkk]
      have HKK := Lib.hid hkk
      clear hkk
      generalize hev : errV kk = ev
      have HEV := Lib.hid hev
      clear hev
      go_wp2
      go_ret
      rw [← HEV.out, HKK.out, HK.out]
      exact ⟨rfl, Below.refl _ _⟩
    · have d1 : decide (0 ≤ n) = false := decide_eq_false h1
      have HK : Hid (zeroK o.v a n = 1) := Lib.hid (by unfold zeroK; rw [if_pos (by omega)])
      have HT2 := Lib.hid (HT.out false)
      clear h0 h1 HT hv
      go_enter Try.func76, Try.ntmps76
      go_wp2_with fail
      refine HT2.out.mono ?_
      rintro e w' ⟨rfl, rfl⟩
      go_wp2
      go_ret
      rw [HK.out]
      exact ⟨rfl, Below.refl _ _⟩
  · have d0 : decide (0 ≤ a) = false := decide_eq_false h0
    have HK : Hid (zeroK o.v a n = 1) := Lib.hid (by unfold zeroK; rw [if_pos (by omega)])
    have HT2 := Lib.hid (HT.out false)
    clear h0 HT hv
    go_enter Try.func76, Try.ntmps76
    go_wp2_with fail
    refine HT2.out.mono ?_
    rintro e w' ⟨rfl, rfl⟩
    go_wp2
    go_ret
    rw [HK.out]
    exact ⟨rfl, Below.refl _ _⟩
set_option maxHeartbeats 4000000 in
theorem zeroDoes {w : World} {pa pn : Nat} (q0 : OV) (a n : Nat) (hth : q0.th = true) (Ka : Blk w pa 3 #[.int .i64 (a : Int)]) (Kn : Blk w pn 3 #[.int .i64 (n : Int)]) : DoesC w 78 #[.pointer (some ⟨pa, 0, none⟩), .pointer (some ⟨pn, 0, none⟩)] q0 (some (zeroD q0.dt a n)) := fun w1 g q hb hg K hN hS hv => by
  subst hv
  have Ka1 := Ka.of (hb.block _ Ka.lt)
  have Kn1 := Kn.of (hb.block _ Kn.lt)
  have hthq : q.th = true := hth
  have HK := Lib.hid K
  have HN := Lib.hid hN
  have HS := Lib.hid hS
  have HTH := Lib.hid hthq
  obtain ⟨a0, ha0⟩ : ∃ a0, a0 = min a q.dt.length := ⟨_, rfl⟩
  obtain ⟨k, hk⟩ : ∃ k, k = min n (q.dt.length - a0) := ⟨_, rfl⟩
  obtain ⟨A1, A2, w5, hsl1, hsl2, hclr, hown5, ho5⟩ := clear_part (w := w1.drew) (a0 := a0) (k := k) hN.dt (by omega)
  have HF := Lib.hid (And.intro hown5 ho5)
  have hC : ∀ w' : World, (Blk w' g 36 #[.bool q.th, .slice q.D q.dt.length q.cd, .int .i64 q.sq, .slice q.C q.cl.length q.cc] ∧ Blk w' pa 3 #[.int .i64 (a : Int)]) → w'.cell? ⟨g, 1, none⟩ = some (.slice q.D q.dt.length q.cd) ∧ w'.cell? ⟨pa, 0, none⟩ = some (.int .i64 (a : Int)) := fun w' h => ⟨h.1.cell 1, h.2.cell 0⟩
  have HC := Lib.hid hC
  have hS7 : Blk w1.drew g 36 #[.bool q.th, .slice q.D q.dt.length q.cd, .int .i64 q.sq, .slice q.C q.cl.length q.cc] ∧ Blk w1.drew pa 3 #[.int .i64 (a : Int)] := ⟨K.drew, Ka1.drew⟩
  have cn : w1.drew.cell? ⟨pn, 0, none⟩ = some (.int .i64 (n : Int)) := Kn1.drew.cell 0
  obtain ⟨-, hl, hmc, hD⟩ := own_len hN.dt
  have hfin : DoesTo w1 g w.heap.size q (some (zeroD q.v.dt a n)) (.returned (.tuple #[])) w5 := by
    have e0 : q.dt.take a0 ++ List.replicate k 0 ++ q.dt.drop (a0 + k) = zeroD q.dt a n := by rw [hk, ha0]; rfl
    have ho6 : Only (rowOf (.slice q.D 0 0)) w1 w5 := ⟨ho5.os, ho5.tape, ho5.output, ho5.size, ho5.block⟩
    rw [e0] at hown5
    have hl5 := zeroD_len q.dt a n
    refine DoesTo.of (D' := q.D) (bs := zeroD q.dt a n) (c' := q.cd) (th := true) hN hS K (ho6.mono (fun k hk => by simp [hk])) (by rw [hl5]; exact hown5) (fun b hb => ?_) (fun k hk => .inl hk) (by rw [hl5]; exact hS.dt) ?_ rfl (fun h => (by cases h))
    · unfold zeroD at hb
      rcases List.mem_append.1 hb with hb | hb
      · rcases List.mem_append.1 hb with hb | hb
        · exact hN.ok b (List.mem_of_mem_take hb)
        · have := (List.mem_replicate.1 hb).2; omega
      · exact hN.ok b (List.mem_of_mem_drop hb)
    · rw [hl5]
      have K5 := K.of (ho6.block g K.lt (fun hm => by obtain ⟨_, _, cs, hb⟩ := OA.P.dU hN g hm; exact hb.ne_ K (by decide) rfl))
      unfold OA.cs at K5
      rw [hthq] at K5
      exact K5
  have HFIN := Lib.hid hfin
  have hsd := hS.dt
  clear K hN hS hth hthq hb Ka Kn Ka1 Kn1 hD hC hown5 ho5 hfin hl
  show Calls Try.prog 78 #[.pointer (some ⟨g, 0, none⟩), .pointer (some ⟨pa, 0, none⟩), .pointer (some ⟨pn, 0, none⟩)] w1 _
  go_enter Try.func78, Try.ntmps78
  go_upto_region 0 with (fail)
  refine any_beginL (fun w' => Blk w' g 36 #[.bool q.th, .slice q.D q.dt.length q.cd, .int .i64 q.sq, .slice q.C q.cl.length q.cc] ∧ Blk w' pa 3 #[.int .i64 (a : Int)]) 12 (by kernel_rfl) ?_
  refine L_take (i := 0) (v := .pointer (some ⟨g, 0, none⟩)) rfl rfl (by kernel_rfl) (by kernel_rfl) (by kernel_rfl) (by kernel_rfl) (fun _ _ _ h => h) (Or.inl ⟨by rfl, fun w hw => by kernel_rfl⟩) hS7 ?_
  simp only [Act.put, List.getElem_toArray, List.getElem_cons_succ, List.getElem_cons_zero, List.setIfInBounds_toArray, List.set_cons_zero, List.set_cons_succ]
  refine L_take (i := 1) (v := .pointer (some ⟨g, 0, none⟩)) rfl rfl (by kernel_rfl) (by kernel_rfl) (by kernel_rfl) (by kernel_rfl) (fun _ _ _ h => h) (Or.inl ⟨by rfl, fun w hw => by kernel_rfl⟩) hS7 ?_
  simp only [Act.put, List.getElem_toArray, List.getElem_cons_succ, List.getElem_cons_zero, List.setIfInBounds_toArray, List.set_cons_zero, List.set_cons_succ]
  refine L_take (i := 2) (v := .pointer (some ⟨g, 1, none⟩)) rfl rfl (by kernel_rfl) (by kernel_rfl) (by kernel_rfl) (by kernel_rfl) (fun _ _ _ h => h) (Or.inl ⟨by rfl, fun w hw => by go_simp⟩) hS7 ?_
  simp only [Act.put, List.getElem_toArray, List.getElem_cons_succ, List.getElem_cons_zero, List.setIfInBounds_toArray, List.set_cons_zero, List.set_cons_succ]
  refine L_take (i := 3) (v := .slice q.D q.dt.length q.cd) rfl rfl (by kernel_rfl) (by kernel_rfl) (by kernel_rfl) (by kernel_rfl) (fun _ _ _ h => h) (Or.inl ⟨by rfl, fun w hw => by have q1 := (HC.out w hw).1; go_simp⟩) hS7 ?_
  simp only [Act.put, List.getElem_toArray, List.getElem_cons_succ, List.getElem_cons_zero, List.setIfInBounds_toArray, List.set_cons_zero, List.set_cons_succ]
  refine L_take (i := 4) (v := .int .i64 (a : Int)) rfl rfl (by kernel_rfl) (by kernel_rfl) (by kernel_rfl) (by kernel_rfl) (fun _ _ _ h => h) (Or.inl ⟨by rfl, fun w hw => by have q1 := (HC.out w hw).2; go_simp⟩) hS7 ?_
  simp only [Act.put, List.getElem_toArray, List.getElem_cons_succ, List.getElem_cons_zero, List.setIfInBounds_toArray, List.set_cons_zero, List.set_cons_succ]
  refine L_take (i := 5) (v := .pointer (some ⟨g, 0, none⟩)) rfl rfl (by kernel_rfl) (by kernel_rfl) (by kernel_rfl) (by kernel_rfl) (fun _ _ _ h => h) (Or.inl ⟨by rfl, fun w hw => by kernel_rfl⟩) hS7 ?_
  simp only [Act.put, List.getElem_toArray, List.getElem_cons_succ, List.getElem_cons_zero, List.setIfInBounds_toArray, List.set_cons_zero, List.set_cons_succ]
  refine L_take (i := 6) (v := .pointer (some ⟨g, 0, none⟩)) rfl rfl (by kernel_rfl) (by kernel_rfl) (by kernel_rfl) (by kernel_rfl) (fun _ _ _ h => h) (Or.inl ⟨by rfl, fun w hw => by kernel_rfl⟩) hS7 ?_
  simp only [Act.put, List.getElem_toArray, List.getElem_cons_succ, List.getElem_cons_zero, List.setIfInBounds_toArray, List.set_cons_zero, List.set_cons_succ]
  refine L_take (i := 7) (v := .pointer (some ⟨g, 1, none⟩)) rfl rfl (by kernel_rfl) (by kernel_rfl) (by kernel_rfl) (by kernel_rfl) (fun _ _ _ h => h) (Or.inl ⟨by rfl, fun w hw => by go_simp⟩) hS7 ?_
  simp only [Act.put, List.getElem_toArray, List.getElem_cons_succ, List.getElem_cons_zero, List.setIfInBounds_toArray, List.set_cons_zero, List.set_cons_succ]
  refine L_take (i := 8) (v := .slice q.D q.dt.length q.cd) rfl rfl (by kernel_rfl) (by kernel_rfl) (by kernel_rfl) (by kernel_rfl) (fun _ _ _ h => h) (Or.inl ⟨by rfl, fun w hw => by have q1 := (HC.out w hw).1; go_simp⟩) hS7 ?_
  simp only [Act.put, List.getElem_toArray, List.getElem_cons_succ, List.getElem_cons_zero, List.setIfInBounds_toArray, List.set_cons_zero, List.set_cons_succ]
  refine L_take (i := 9) (v := .int .i64 (q.dt.length : Int)) rfl rfl (by kernel_rfl) (by kernel_rfl) (by kernel_rfl) (by kernel_rfl) (fun _ _ _ h => h) (Or.inl ⟨by rfl, fun w hw => by go_simp⟩) hS7 ?_
  simp only [Act.put, List.getElem_toArray, List.getElem_cons_succ, List.getElem_cons_zero, List.setIfInBounds_toArray, List.set_cons_zero, List.set_cons_succ]
  have HKE := Lib.hid hk
  clear hk
  by_cases hle : a ≤ q.dt.length
  · have hkk : a0 = a := by omega
    have hcmp : decide ((a : Int) ≤ (q.dt.length : Int)) = true := decide_eq_true (by omega)
    have hcmp2 : decide ((q.dt.length : Int) < (a : Int)) = false := decide_eq_false (by omega)
    have hcmp3 : ((a : Int) ≤ (q.dt.length : Int)) = True := by simp; omega
    refine L_take (i := 10) (v := .int .i64 (a0 : Int)) rfl rfl (by kernel_rfl) (by kernel_rfl) (by kernel_rfl) (by kernel_rfl) (fun _ _ _ h => h) (Or.inl ⟨by rfl, fun w hw => by rw [hkk]; go_simp <;> omega⟩) hS7 ?_
    simp only [Act.put, List.getElem_toArray, List.getElem_cons_succ, List.getElem_cons_zero, List.setIfInBounds_toArray, List.set_cons_zero, List.set_cons_succ]
    clear hkk hcmp hcmp2 hcmp3 hle ha0
    refine L_one (j := 11) (by kernel_rfl) rfl (by rfl) ?_
    simp only [Act.put, List.getElem_toArray, List.getElem_cons_succ, List.getElem_cons_zero, List.setIfInBounds_toArray, List.set_cons_zero, List.set_cons_succ]
    refine wp_ran (v := .slice A1 (q.dt.length - a0) (q.cd - a0)) (w' := w1.drew) (by go_simp) ⟨hS7, ?_⟩
    simp only [Act.put, List.getElem_toArray, List.getElem_cons_succ, List.getElem_cons_zero, List.setIfInBounds_toArray, List.set_cons_zero, List.set_cons_succ]
    refine L_last (by kernel_rfl) rfl (by rfl) (by kernel_rfl) ?_
    simp only [Act.put, List.getElem_toArray, List.getElem_cons_succ, List.getElem_cons_zero, List.setIfInBounds_toArray, List.set_cons_zero, List.set_cons_succ]
    refine wp_ran (v := .slice A1 (q.dt.length - a0) (q.cd - a0)) (w' := w1.drew) (by kernel_rfl) ?_
    refine NoPanic.normal ?_
    simp only [Act.put, List.getElem_toArray, List.getElem_cons_succ, List.getElem_cons_zero, List.setIfInBounds_toArray, List.set_cons_zero, List.set_cons_succ]
    obtain ⟨mm, hmm⟩ : ∃ mm, mm = q.dt.length - a0 := ⟨_, rfl⟩
    have hkm := HKE.out
    rw [← hmm] at hsl1 hsl2 hkm ⊢
    clear hsl1 hS7 HC hmm
    generalize w1.drew = wd at *
    by_cases hle2 : n ≤ mm
    · have hkk : k = n := by omega
      subst hkk
      have hcmp : decide ((k : Int) ≤ (mm : Int)) = true := decide_eq_true (by omega)
      have hcmp2 : decide ((mm : Int) < (k : Int)) = false := decide_eq_false (by omega)
      clear hkm HKE
      go_wp2
      refine bodyPost_end (results_none rfl _ _ _) rfl ?_
      exact HFIN.out
    · have hkk : k = mm := by omega
      subst hkk
      have hcmp : decide ((n : Int) ≤ (k : Int)) = false := decide_eq_false (by omega)
      have hcmp2 : decide ((k : Int) < (n : Int)) = true := decide_eq_true (by omega)
      clear hkm HKE
      go_wp2
      refine bodyPost_end (results_none rfl _ _ _) rfl ?_
      exact HFIN.out
  · have hkk : a0 = q.dt.length := by omega
    have hcmp : decide ((a : Int) ≤ (q.dt.length : Int)) = false := decide_eq_false (by omega)
    have hcmp2 : decide ((q.dt.length : Int) < (a : Int)) = true := decide_eq_true (by omega)
    have hcmp3 : ((a : Int) ≤ (q.dt.length : Int)) = False := by simp; omega
    refine L_take (i := 10) (v := .int .i64 (a0 : Int)) rfl rfl (by kernel_rfl) (by kernel_rfl) (by kernel_rfl) (by kernel_rfl) (fun _ _ _ h => h) (Or.inl ⟨by rfl, fun w hw => by rw [hkk]; go_simp <;> omega⟩) hS7 ?_
    simp only [Act.put, List.getElem_toArray, List.getElem_cons_succ, List.getElem_cons_zero, List.setIfInBounds_toArray, List.set_cons_zero, List.set_cons_succ]
    clear hkk hcmp hcmp2 hcmp3 hle ha0
    refine L_one (j := 11) (by kernel_rfl) rfl (by rfl) ?_
    simp only [Act.put, List.getElem_toArray, List.getElem_cons_succ, List.getElem_cons_zero, List.setIfInBounds_toArray, List.set_cons_zero, List.set_cons_succ]
    refine wp_ran (v := .slice A1 (q.dt.length - a0) (q.cd - a0)) (w' := w1.drew) (by go_simp) ⟨hS7, ?_⟩
    simp only [Act.put, List.getElem_toArray, List.getElem_cons_succ, List.getElem_cons_zero, List.setIfInBounds_toArray, List.set_cons_zero, List.set_cons_succ]
    refine L_last (by kernel_rfl) rfl (by rfl) (by kernel_rfl) ?_
    simp only [Act.put, List.getElem_toArray, List.getElem_cons_succ, List.getElem_cons_zero, List.setIfInBounds_toArray, List.set_cons_zero, List.set_cons_succ]
    refine wp_ran (v := .slice A1 (q.dt.length - a0) (q.cd - a0)) (w' := w1.drew) (by kernel_rfl) ?_
    refine NoPanic.normal ?_
    simp only [Act.put, List.getElem_toArray, List.getElem_cons_succ, List.getElem_cons_zero, List.setIfInBounds_toArray, List.set_cons_zero, List.set_cons_succ]
    obtain ⟨mm, hmm⟩ : ∃ mm, mm = q.dt.length - a0 := ⟨_, rfl⟩
    have hkm := HKE.out
    rw [← hmm] at hsl1 hsl2 hkm ⊢
    clear hsl1 hS7 HC hmm
    generalize w1.drew = wd at *
    by_cases hle2 : n ≤ mm
    · have hkk : k = n := by omega
      subst hkk
      have hcmp : decide ((k : Int) ≤ (mm : Int)) = true := decide_eq_true (by omega)
      have hcmp2 : decide ((mm : Int) < (k : Int)) = false := decide_eq_false (by omega)
      clear hkm HKE
      go_wp2
      refine bodyPost_end (results_none rfl _ _ _) rfl ?_
      exact HFIN.out
    · have hkk : k = mm := by omega
      subst hkk
      have hcmp : decide ((n : Int) ≤ (k : Int)) = false := decide_eq_false (by omega)
      have hcmp2 : decide ((k : Int) < (n : Int)) = true := decide_eq_true (by omega)
      clear hkm HKE
      go_wp2
      refine bodyPost_end (results_none rfl _ _ _) rfl ?_
      exact HFIN.out
/-! ### Back -/
def backK (c : CxV) (s : Int) : Nat := if c.sn.contains s = true then 0 else 1
theorem backMay {w : World} {pc ps : Nat} (c : XA) (s : Int) (hc : c.R w) (K : Blk w pc 28 c.cells) (Ks : Blk w ps 3 #[.int .i64 s]) : MayC w 63 #[.pointer (some ⟨pc, 0, none⟩), .pointer (some ⟨ps, 0, none⟩)] (backK c.v s) := fun w1 hb => by
  have c1 : w1.cell? ⟨pc, 1, none⟩ = some (.slice c.S c.sn.length c.cs) := (K.of (hb.block _ K.lt)).cell 1
  have cs : w1.cell? ⟨ps, 0, none⟩ = some (.int .i64 s) := (Ks.of (hb.block _ Ks.lt)).cell 0
  have HCT := Lib.hid (contains_any (c := c.cs) s (hc.since hb).sn hc.s1)
  have HB : Hid (backK c.v s = if c.sn.contains s = true then 0 else 1) := Lib.hid rfl
  clear K Ks hb hc
  go_enter Try.func63, Try.ntmps63
  go_wp2_with fail
  refine HCT.out.mono ?_
  rintro e w' ⟨rfl, rfl⟩
  clear HCT
  generalize c.sn.contains s = bb at *
  cases bb with
  | true =>
    go_wp2
    go_ret
    rw [HB.out]
    exact ⟨rfl, Below.refl _ _⟩
  | false =>
    go_wp2
    go_ret
    rw [HB.out]
    exact ⟨rfl, Below.refl _ _⟩
set_option maxHeartbeats 4000000 in
theorem backDoes {w : World} {ps : Nat} (q0 : OV) (s : Int) (h0 : 0 ≤ s) (hG : Good q0) (Ks : Blk w ps 3 #[.int .i64 s]) : DoesC w 65 #[.pointer (some ⟨ps, 0, none⟩)] q0 (atO q0 s) := fun w1 g q hb hg K hN hS hv => by
  subst hv
  have Ks1 := Ks.of (hb.block _ Ks.lt)
  have HK := Lib.hid K
  have HN := Lib.hid hN
  have HS := Lib.hid hS
  have HAT := Lib.hid (sat_any q s hN.R.drew hS)
  have hS7 : Blk w1.drew ps 3 #[.int .i64 s] := Ks1.drew
  have hC : ∀ w' : World, Blk w' ps 3 #[.int .i64 s] → w'.cell? ⟨ps, 0, none⟩ = some (.int .i64 s) := fun w' h => h.cell 0
  have HC := Lib.hid hC
  have HKS := Lib.hid Ks1
  have hgs := K.ne_ Ks1 (by decide)
  have HGS := Lib.hid (And.intro h0 hG)
  clear hN hS hb Ks Ks1 hC h0 hG
  show Calls Try.prog 65 #[.pointer (some ⟨g, 0, none⟩), .pointer (some ⟨ps, 0, none⟩)] w1 _
  go_enter Try.func65, Try.ntmps65
  go_upto_region 0 with (fail)
  refine any_beginL (fun w' => Blk w' ps 3 #[.int .i64 s]) 15 (by kernel_rfl) ?_
  refine L_take (i := 0) (v := .pointer (some ⟨g, 0, none⟩)) rfl rfl (by kernel_rfl) (by kernel_rfl) (by kernel_rfl) (by kernel_rfl) (fun _ _ _ h => h) (Or.inl ⟨by rfl, fun w hw => by kernel_rfl⟩) hS7 ?_
  simp only [Act.put, List.getElem_toArray, List.getElem_cons_succ, List.getElem_cons_zero, List.setIfInBounds_toArray, List.set_cons_zero, List.set_cons_succ]
  refine L_take (i := 1) (v := .pointer (some ⟨g, 0, none⟩)) rfl rfl (by kernel_rfl) (by kernel_rfl) (by kernel_rfl) (by kernel_rfl) (fun _ _ _ h => h) (Or.inl ⟨by rfl, fun w hw => by kernel_rfl⟩) hS7 ?_
  simp only [Act.put, List.getElem_toArray, List.getElem_cons_succ, List.getElem_cons_zero, List.setIfInBounds_toArray, List.set_cons_zero, List.set_cons_succ]
  refine L_take (i := 2) (v := .pointer (some ⟨g, 0, none⟩)) rfl rfl (by kernel_rfl) (by kernel_rfl) (by kernel_rfl) (by kernel_rfl) (fun _ _ _ h => h) (Or.inl ⟨by rfl, fun w hw => by kernel_rfl⟩) hS7 ?_
  simp only [Act.put, List.getElem_toArray, List.getElem_cons_succ, List.getElem_cons_zero, List.setIfInBounds_toArray, List.set_cons_zero, List.set_cons_succ]
  refine L_take (i := 3) (v := .pointer (some ⟨g, 0, none⟩)) rfl rfl (by kernel_rfl) (by kernel_rfl) (by kernel_rfl) (by kernel_rfl) (fun _ _ _ h => h) (Or.inl ⟨by rfl, fun w hw => by kernel_rfl⟩) hS7 ?_
  simp only [Act.put, List.getElem_toArray, List.getElem_cons_succ, List.getElem_cons_zero, List.setIfInBounds_toArray, List.set_cons_zero, List.set_cons_succ]
  refine L_take (i := 5) (v := .int .i64 s) rfl rfl (by kernel_rfl) (by kernel_rfl) (by kernel_rfl) (by kernel_rfl) (fun _ _ _ h => h) (Or.inl ⟨by rfl, fun w hw => by have q1 := HC.out w hw; go_simp⟩) hS7 ?_
  simp only [Act.put, List.getElem_toArray, List.getElem_cons_succ, List.getElem_cons_zero, List.setIfInBounds_toArray, List.set_cons_zero, List.set_cons_succ]
  have K4 := HK.out.drew
  have HKd := Lib.hid K4
  refine L_one (j := 4) (by kernel_rfl) rfl (by rfl) ?_
  simp only [Act.put, List.getElem_toArray, List.getElem_cons_succ, List.getElem_cons_zero, List.setIfInBounds_toArray, List.set_cons_zero, List.set_cons_succ]
  refine wp_loadq 36 (.tmp 7) rfl g [.bool q.th, .slice q.D q.dt.length q.cd, .int .i64 q.sq, .slice q.C q.cl.length q.cc] _ rfl K4 Try.underlying36 rfl (by kernel_rfl) ?_
  refine ⟨hS7, ?_⟩
  simp only [Act.put, List.getElem_toArray, List.getElem_cons_succ, List.getElem_cons_zero, List.setIfInBounds_toArray, List.set_cons_zero, List.set_cons_succ]
  refine L_one (j := 6) (by kernel_rfl) rfl (by rfl) ?_
  simp only [Act.put, List.getElem_toArray, List.getElem_cons_succ, List.getElem_cons_zero, List.setIfInBounds_toArray, List.set_cons_zero, List.set_cons_succ]
  refine wp_called (by kernel_rfl) HAT.out ?_
  rintro e w2 ⟨hb2, hcase⟩
  have hb2' : Below w1.heap.size w1 w2 := below_drew' hb2
  obtain ⟨bs, v2, c2, D2, th, rfl, hv2, hok2, hat2, hlen2, hth2⟩ : ∃ (bs : List Nat) (v2 : Value) (c2 : Nat) (D2 : Option Addr) (th : Bool), e = .returned (.tuple #[.slice D2 bs.length c2, .bool th]) ∧ Own w2 w1.heap.size (.slice D2 bs.length c2) bs.length bs ∧ (∀ b ∈ bs, b < 256) ∧ atO q.v s = (if th = true then some bs else none) ∧ bs.length ≤ 10000 ∧ (th = false → bs = []) := by
    rcases hcase with ⟨d, v, h1, h2, h3, rfl, h5, h6⟩ | ⟨h1, rfl⟩
    · obtain ⟨D2, c2, rfl, -⟩ := h5.form
      exact ⟨d, .nilIface, c2, D2, true, rfl, h5, h6, h3, by have := atO_len h3 h1; omega, fun h => (by cases h)⟩
    · exact ⟨[], .nilIface, 0, none, false, rfl, Own.nil _ _, fun b hb => (by cases hb), h1 HGS.out.2 HGS.out.1, by simp, fun _ => rfl⟩
  have K2 := HK.out.of (hb2'.block _ HK.out.lt)
  have S2 : Blk w2 ps 3 #[.int .i64 s] := HKS.out.of (hb2'.block _ HKS.out.lt)
  refine ⟨_, rfl, S2, ?_⟩
  simp only [Act.put, List.getElem_toArray, List.getElem_cons_succ, List.getElem_cons_zero, List.setIfInBounds_toArray, List.set_cons_zero, List.set_cons_succ]
  refine L_one (j := 7) (by kernel_rfl) rfl (by rfl) ?_
  simp only [Act.put, List.getElem_toArray, List.getElem_cons_succ, List.getElem_cons_zero, List.setIfInBounds_toArray, List.set_cons_zero, List.set_cons_succ]
  refine wp_ran (v := .tuple #[.slice D2 bs.length c2, .bool th]) (w' := w2) (by kernel_rfl) ⟨S2, ?_⟩
  simp only [Act.put, List.getElem_toArray, List.getElem_cons_succ, List.getElem_cons_zero, List.setIfInBounds_toArray, List.set_cons_zero, List.set_cons_succ]
  refine L_take (i := 8) (v := .slice D2 bs.length c2) rfl rfl (by kernel_rfl) (by kernel_rfl) (by kernel_rfl) (by kernel_rfl) (fun _ _ _ h => h) (Or.inl ⟨by rfl, fun w hw => by kernel_rfl⟩) S2 ?_
  simp only [Act.put, List.getElem_toArray, List.getElem_cons_succ, List.getElem_cons_zero, List.setIfInBounds_toArray, List.set_cons_zero, List.set_cons_succ]
  refine L_take (i := 9) (v := .bool th) rfl rfl (by kernel_rfl) (by kernel_rfl) (by kernel_rfl) (by kernel_rfl) (fun _ _ _ h => h) (Or.inl ⟨by rfl, fun w hw => by kernel_rfl⟩) S2 ?_
  simp only [Act.put, List.getElem_toArray, List.getElem_cons_succ, List.getElem_cons_zero, List.setIfInBounds_toArray, List.set_cons_zero, List.set_cons_succ]
  refine L_one (j := 10) (by kernel_rfl) rfl (by rfl) ?_
  simp only [Act.put, List.getElem_toArray, List.getElem_cons_succ, List.getElem_cons_zero, List.setIfInBounds_toArray, List.set_cons_zero, List.set_cons_succ]
  refine wp_ran (v := .pointer (some ⟨g, 0, none⟩)) (w' := w2) (by kernel_rfl) ⟨S2, ?_⟩
  simp only [Act.put, List.getElem_toArray, List.getElem_cons_succ, List.getElem_cons_zero, List.setIfInBounds_toArray, List.set_cons_zero, List.set_cons_succ]
  refine L_one (j := 11) (by kernel_rfl) rfl (by rfl) ?_
  simp only [Act.put, List.getElem_toArray, List.getElem_cons_succ, List.getElem_cons_zero, List.setIfInBounds_toArray, List.set_cons_zero, List.set_cons_succ]
  refine wp_ran (v := .pointer (some ⟨g, 1, none⟩)) (w' := w2) (by go_simp) ⟨S2, ?_⟩
  simp only [Act.put, List.getElem_toArray, List.getElem_cons_succ, List.getElem_cons_zero, List.setIfInBounds_toArray, List.set_cons_zero, List.set_cons_succ]
  refine L_one (j := 12) (by kernel_rfl) rfl (by rfl) ?_
  simp only [Act.put, List.getElem_toArray, List.getElem_cons_succ, List.getElem_cons_zero, List.setIfInBounds_toArray, List.set_cons_zero, List.set_cons_succ]
  refine wp_setq 22 (.tmp 14) (.tmp 11) rfl g 1 36 _ (.slice D2 bs.length c2) rfl rfl K2 (by simp [OA.cs]) (by kernel_rfl) rfl ?_
  intro w3 K3 ho3 hs3
  have S3 : Blk w3 ps 3 #[.int .i64 s] := S2.only ho3 (fun hm => by simp at hm; exact hgs hm.symm)
  refine ⟨S3, ?_⟩
  simp only [Act.put, List.getElem_toArray, List.getElem_cons_succ, List.getElem_cons_zero, List.setIfInBounds_toArray, List.set_cons_zero, List.set_cons_succ]
  refine L_one (j := 13) (by kernel_rfl) rfl (by rfl) ?_
  simp only [Act.put, List.getElem_toArray, List.getElem_cons_succ, List.getElem_cons_zero, List.setIfInBounds_toArray, List.set_cons_zero, List.set_cons_succ]
  refine wp_ran (v := .pointer (some ⟨g, 0, none⟩)) (w' := w3) (by kernel_rfl) ⟨S3, ?_⟩
  simp only [Act.put, List.getElem_toArray, List.getElem_cons_succ, List.getElem_cons_zero, List.setIfInBounds_toArray, List.set_cons_zero, List.set_cons_succ]
  refine L_one (j := 14) (by kernel_rfl) rfl (by rfl) ?_
  simp only [Act.put, List.getElem_toArray, List.getElem_cons_succ, List.getElem_cons_zero, List.setIfInBounds_toArray, List.set_cons_zero, List.set_cons_succ]
  refine wp_ran (v := .pointer (some ⟨g, 0, none⟩)) (w' := w3) (by go_simp) ⟨S3, ?_⟩
  simp only [Act.put, List.getElem_toArray, List.getElem_cons_succ, List.getElem_cons_zero, List.setIfInBounds_toArray, List.set_cons_zero, List.set_cons_succ]
  refine L_last (by kernel_rfl) rfl (by rfl) (by kernel_rfl) ?_
  simp only [Act.put, List.getElem_toArray, List.getElem_cons_succ, List.getElem_cons_zero, List.setIfInBounds_toArray, List.set_cons_zero, List.set_cons_succ]
  refine wp_setq 4 (.tmp 16) (.tmp 12) rfl g 0 36 _ (.bool th) rfl rfl K3 (by simp [OA.cs]) (by kernel_rfl) rfl ?_
  intro w4 K4' ho4 hs4
  refine NoPanic.normal ?_
  simp only [Act.put, List.getElem_toArray, List.getElem_cons_succ, List.getElem_cons_zero, List.setIfInBounds_toArray, List.set_cons_zero, List.set_cons_succ]
  have HFIN : Hid (DoesTo w1 g w.heap.size q (atO q.v s) (.returned (.tuple #[])) w4) := Lib.hid (by
    have ho : Only [g] w1 w4 := ((Only.of_below hb2' [g]).trans ho3 (Fresh.refl _ _)).trans ho4 (Fresh.refl _ _)
    have hz2 := hb2'.size
    have hown : Own w4 w1.heap.size (.slice D2 bs.length c2) bs.length bs := by
      have hng : ∀ k ∈ rowOf (.slice D2 bs.length c2), k ≠ g := fun k hk e => by
        subst e
        have := row_over hv2 k hk
        have := HK.out.lt
        omega
      exact row_of (row_of hv2 fun k hk => ho3.block k (row_under hv2 k hk) (fun hm => by simp at hm; exact hng k hk hm)) fun k hk => ho4.block k (by have := row_under hv2 k hk; have := ho3.size; omega) (fun hm => by simp at hm; exact hng k hk hm)
    have hgl := HK.out.lt
    refine DoesTo.of (D' := D2) (bs := bs) (c' := c2) (th := th) HN.out HS.out HK.out (ho.mono (fun k hk => by simp at hk; simp [hk])) (hown.weaken (by omega)) hok2 (fun k hk => .inr (row_over hown k (by rw [row_slice _ bs.length c2 0 0]; exact hk))) hlen2 ?_ hat2 hth2
    simpa [OA.cs] using K4')
  clear K4' ho4 hs4 K3 ho3 hs3 S3 S2 K2 hv2 hok2 hat2 hlen2 hth2 hb2 hb2' K4
  go_wp2
  refine bodyPost_end (results_none rfl _ _ _) rfl ?_
  exact HFIN.out
end Go.Proofs.Ytjepfeagbiceoaa
