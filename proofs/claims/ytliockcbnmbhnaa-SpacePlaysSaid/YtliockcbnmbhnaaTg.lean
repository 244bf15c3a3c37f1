/-
  The laws' comparison of extents. Conditions: both rows read as they are said to.
-/
import Derived.Test.YtliockcbnmbhnaaTf
namespace Go.Proofs.Ytliockcbnmbhnaa
open Go.RowKit Go.BigFrame
set_option linter.unusedSimpArgs false
set_option linter.unusedVariables false
theorem neq_ext (a b : Int × Int) (w : World) : (binOp .neq 45 (.agg #[.int .i64 a.1, .int .i64 a.2]) (.agg #[.int .i64 b.1, .int .i64 b.2])).run Try.prog w = .ok (.bool (decide (a ≠ b))) w := by
  have hu := Try.underlying45
  have hi := Try.underlying3
  have e1 : (Op.equalIn 10000 45 (.agg #[.int .i64 a.1, .int .i64 a.2]) (.agg #[.int .i64 b.1, .int .i64 b.2])).run Try.prog w = .ok (a.1 == b.1 && a.2 == b.2) w := by
    simp [run_equalIn_struct, hu, hi, go_sem]
    by_cases h1 : a.1 = b.1 <;> by_cases h2 : a.2 = b.2 <;> simp [h1, h2]
  rw [run_neq_struct, e1]
  have e2 : (!(a.1 == b.1 && a.2 == b.2)) = decide (a ≠ b) := by
    by_cases h1 : a.1 = b.1 <;> by_cases h2 : a.2 = b.2 <;> simp [h1, h2, Prod.ext_iff]
  show Result.ok (Value.bool (!(a.1 == b.1 && a.2 == b.2))) w = _
  rw [e2]
theorem wpStill_load_ext {ops : Array Oper} {w : World} {Q : Act → Prop} {a : Act} {o : Oper} {rest : List Oper} (hgd : o.guard = none) (x : Operand) (ho : o.op = .load 45 x)
    (p : Addr) (hx : a.eval x = .pointer (some p)) (e : Int × Int) (h0 : w.cell? p = some (.int .i64 e.1)) (h1 : w.cell? (p.add 1) = some (.int .i64 e.2))
    (h : wpStill Try.prog ops w Q rest (a.put o.dst (.agg #[.int .i64 e.1, .int .i64 e.2]))) : wpStill Try.prog ops w Q (o :: rest) a := by
  refine wpStill_step (fun K hK => ?_)
  have hwt : Region.wanted o (yielded ops a.tmps) = true := by simp [Region.wanted, hgd]
  rw [if_pos hwt]
  unfold Oper.still execOp
  simp only [ho, hx, Instr.loadAt, Instr.sureAddr, Sem.run_bind, Sem.run_pure, Result.andThen_ok, run_loadVar_ext w p e h0 h1, Oper.stillUpon_value]
  exact hK _ h
set_option maxRecDepth 100000 in
set_option maxHeartbeats 4000000 in
theorem lsame_any {w : World} {B1 B2 c1 c2 : Nat} {A1 A2 : Option Addr} (l1 l2 : List (Int × Int)) (h1 : ExtR w B1 A1 l1) (h2 : ExtR w B2 A2 l2) (hs1 : l1.length ≤ 1000000) (hs2 : l2.length ≤ 1000000) (hB1 : B1 ≤ w.heap.size) (hB2 : B2 ≤ w.heap.size) :
    Calls Try.prog 17 #[.slice A1 l1.length c1, .slice A2 l2.length c2] w fun e w' => e = .returned (.bool (decide (l1 = l2))) ∧ Below w.heap.size w w' := by
  have H1 := Lib.hid h1
  have H2 := Lib.hid h2
  clear h1 h2
  by_cases hl : l1.length = l2.length
  · have hd : ((l1.length : Int) != (l2.length : Int)) = false := by simp [hl]
    have HL := Lib.hid hl
    clear hl
    go_enter Try.func17, Try.ntmps17
    go_wp2
    go_loopw [13] (fun i wr => ∃ k : Nat, k ≤ l1.length ∧ i = .int .i64 k ∧ (∀ j, j < k → l1[j]? = l2[j]?) ∧ Below w.heap.size w wr) (fun i _ => l1.length - (intS i).toNat)
    case atStart => exact ⟨0, by omega, rfl, fun j hj => by omega, Below.refl _ _⟩
    case round =>
      obtain ⟨k, hk, rfl, hf, hb⟩ := hrel
      obtain ⟨wo, hwo⟩ : ∃ wo, wo = wr := ⟨_, rfl⟩
      subst hwo
      by_cases hlt : k < l1.length
      · obtain ⟨ad1, e1, rfl, hab1, he1, a0, a1⟩ := (ExtR.only H1.out (Only.of_below hb []) hB1 (fun _ _ => by simp)).get hlt
        obtain ⟨ad2, e2, rfl, hab2, he2, b0, b1⟩ := (ExtR.only H2.out (Only.of_below hb []) hB2 (fun _ _ => by simp)).get (k := k) (by rw [← HL.out]; exact hlt)
        have hlt2 : k < l2.length := by rw [← HL.out]; exact hlt
        have HF := Lib.hid hf
        have HB := Lib.hid hb
        have HE := Lib.hid (And.intro he1 he2)
        clear hf hb he1 he2
        go_wp2_with fail
        refine wp_region_still_tail 8 (by kernel_rfl) (by kernel_rfl) ?_
        simp only [List.take_succ_cons, List.take_zero, List.drop_succ_cons, List.drop_zero]
        repeat still_step
        refine wpStill_load_ext rfl (.tmp 18) rfl (ad1.add (k * 2)) rfl e1 a0 a1 ?_
        repeat still_step
        refine wpStill_load_ext rfl (.tmp 22) rfl (ad2.add (k * 2)) rfl e2 b0 b1 ?_
        refine wpStill_nil ?_
        change wpList _ _ _ _ _ wo.drew
        have hq := neq_ext e1 e2 wo.drew
        have HB2 := Lib.hid HB.out.drew
        clear a0 a1 b0 b1 HB
        generalize wo.drew = w2 at *
        have hwk : IntKind.i64.wrap ((k : Int) + 1) = (k : Int) + 1 := by rw [IntKind.wrap_i64]; omega
        clear hq
        by_cases hee : e1 = e2
        · subst hee
          go_wp2
          go_roundw
          case rel => exact ⟨k + 1, by omega, by go_num, fun j hj => by
            by_cases he : j = k
            · subst he; rw [HE.out.1, HE.out.2]
            · exact HF.out j (by omega), HB2.out⟩
          case measure => simp [intS]; omega
        · have hne : l1 ≠ l2 := fun h => by
            have h3 := HE.out.1
            rw [h, HE.out.2] at h3
            injection h3 with h3
            exact hee h3.symm
          have HNE := Lib.hid hne
          clear hne
          by_cases hx : e1.1 = e2.1
          · have hy : e1.2 ≠ e2.2 := fun h => hee (Prod.ext hx h)
            have hd1 : (e1.1 == e2.1) = true := by simpa using hx
            have hd2 : (e1.2 == e2.2) = false := by simpa using hy
            clear hee
            go_wp2
            go_ret
            exact ⟨by rw [decide_eq_false HNE.out]; rfl, HB2.out⟩
          · have hd1 : (e1.1 == e2.1) = false := by simpa using hx
            clear hee
            go_wp2
            go_ret
            exact ⟨by rw [decide_eq_false HNE.out]; rfl, HB2.out⟩
      · obtain rfl : k = l1.length := by omega
        go_wp2
        go_ret
        have he : l1 = l2 := by
          apply List.ext_getElem?
          intro j
          by_cases hj : j < l1.length
          · exact hf j hj
          · rw [List.getElem?_eq_none (by omega), List.getElem?_eq_none (by have := HL.out; omega)]
        exact ⟨by rw [decide_eq_true he]; rfl, hb⟩
  · have hd : ((l1.length : Int) != (l2.length : Int)) = true := by simp; omega
    go_enter Try.func17, Try.ntmps17
    go_wp2
    go_ret
    exact ⟨by rw [decide_eq_false (fun h => hl (by rw [h]))]; rfl, Below.refl _ _⟩
end Go.Proofs.Ytliockcbnmbhnaa
