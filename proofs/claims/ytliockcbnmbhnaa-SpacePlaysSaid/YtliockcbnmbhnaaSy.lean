/-
  The shortest hole that fits: the holes that don't fit are dropped. Conditions: the row reads as it is said to.
-/
import Derived.Test.YtliockcbnmbhnaaSx
import Derived.Lib.SliceRun
namespace Go.Proofs.Ytliockcbnmbhnaa
open Go.RowKit Go.BigFrame
set_option linter.unusedSimpArgs false
set_option linter.unusedVariables false
theorem run_tail_ext (r n c i : Nat) (h : i < n) (hc : n ≤ c) (w : World) : (Instr.slice 36 (.slice (some ⟨r, 0, none⟩) n c) (some (.int .i64 (i : Int))) none none).run Try.prog w = .ok (.slice (some ⟨r, i * 2, none⟩) (n - i) (c - i)) w := by
  have hsz : ∀ w, (sizeOf (Try.prog.elem 36)).run Try.prog w = .ok 2 w := fun w => by kernel_rfl
  rw [run_slice_l w 36 (some ⟨r, 0, none⟩) n c (by kernel_rfl) .i64 (i : Int) (by omega) (by omega), hsz]
  simp only [Result.andThen, sliced, Int.toNat_natCast]
  rw [if_neg (by omega)]
  by_cases hz : i * 2 = 0 <;> simp [Addr.add, hz]
theorem run_clear_ext (w : World) (r o n c : Nat) (hn : 0 < n) (hc : ∀ j, j < n * 2 → (w.cell? ⟨r, o + j, none⟩).isSome = true) (hf : ∀ j, j < n * 2 → w.frozen? ⟨r, o + j, none⟩ = false) :
    ∃ vs : List Value, vs.length = n * 2 ∧ ∀ ty, (Builtin.clear_ #[36] ty #[.slice (some ⟨r, o, none⟩) n c]).run Try.prog w = .ok (.tuple #[]) (w.setCells r o vs) := by
  have hv : ∀ w, (zeroValue 45).run Try.prog w = .ok (.agg #[.int .i64 0, .int .i64 0]) w := fun w => by kernel_rfl
  have ht : Try.prog.underlying 36 = some (.slice 45) := by kernel_rfl
  have hlen : (Builtin.zeroCells #[Value.int .i64 0, .int .i64 0] n).size = n * 2 := by simp [Builtin.zeroCells]; try omega
  have hone : ∀ v ∈ (Builtin.zeroCells #[Value.int .i64 0, .int .i64 0] n).toList, v.oneCell' = true := by
    intro v hv
    simp [Builtin.zeroCells] at hv
    obtain ⟨j, hj, rfl⟩ := hv
    have : j % 2 = 0 ∨ j % 2 = 1 := by omega
    rcases this with h | h <;> simp [h] <;> rfl
  have hst := run_storeCells_cells (P := Try.prog) r o (Builtin.zeroCells #[Value.int .i64 0, .int .i64 0] n).toList 0 w (by simpa [hlen] using hc) (by simpa [hlen] using hf) hone
  simp only [Nat.add_zero] at hst
  refine ⟨(Builtin.zeroCells #[Value.int .i64 0, .int .i64 0] n).toList, by simpa using hlen, fun ty => ?_⟩
  obtain ⟨m, rfl⟩ : ∃ m, n = m + 1 := ⟨n - 1, by omega⟩
  simp [Builtin.clear_, run_underlying ht, hv, hst, Value.cells]
theorem ERow.cleared {w : World} {r : Nat} {xs : List (Nat × Nat)} (h : ERow w r xs) (i : Nat) (vs : List Value) : ERow (w.setCells r (i * 2) vs) r (xs.take i) := by
  obtain ⟨cs, hb, hc⟩ := h
  obtain ⟨cs', hb', -⟩ := hb.setCells_ vs (i * 2)
  refine ⟨cs', hb', fun k e hk => ?_⟩
  rw [List.getElem?_take] at hk
  split at hk
  · rename_i hki
    have h0 := hc k e hk
    have c0 := (hb'.cell (k * 2)).symm.trans (World.cell?_setCells_out r vs (i * 2) w ⟨r, k * 2, none⟩ (fun _ _ => .inl (by show k * 2 < i * 2; omega)))
    have c1 := (hb'.cell (k * 2 + 1)).symm.trans (World.cell?_setCells_out r vs (i * 2) w ⟨r, k * 2 + 1, none⟩ (fun _ _ => .inl (by show k * 2 + 1 < i * 2; omega)))
    exact ⟨c0.trans ((hb.cell _).trans h0.1), c1.trans ((hb.cell _).trans h0.2)⟩
  · cases hk
/-- those that fit -/
def fitL (n : Nat) (xs : List (Nat × Nat)) : List (Nat × Nat) := xs.filter fun e => decide (n ≤ e.2)
set_option maxRecDepth 100000 in
set_option maxHeartbeats 4000000 in
theorem delete_ext {w : World} {r c p q n : Nat} {xs : List (Nat × Nat)} (h : ERow w r xs) (hl : xs.length ≤ 65536) (hcl : xs.length ≤ c) (hC : Cap w p q n) (hpr : p ≠ r) (hqr : q ≠ r) :
    Calls Try.prog 48 #[.slice (some ⟨r, 0, none⟩) xs.length c, notV q] w fun e' w' => e' = .returned (.slice (some ⟨r, 0, none⟩) (fitL n xs).length c) ∧ ERow w' r (fitL n xs) ∧ Only [r] w w' := by
  have H := Lib.hid h
  have HC := Lib.hid hC
  have hrl := h.lt
  have HI := Lib.hid (index_ext (c := c) h hl hC)
  clear h hC
  unfold notV at HI ⊢
  go_enter Try.func48, Try.ntmps48
  go_wp2_with fail
  refine HI.out.mono ?_
  rintro e1 w1 ⟨⟨v, rfl, hv⟩, hb1⟩
  clear HI
  have HB1 := Lib.hid hb1
  clear hb1
  rcases hv with ⟨rfl, hall⟩ | ⟨k, rfl, hkl, hpre, hbad⟩
  · have hfl : fitL n xs = xs := List.filter_eq_self.2 (fun e he => by simpa using hall e he)
    have HF := Lib.hid hfl
    clear hall hfl
    go_wp2
    go_ret
    rw [HF.out]
    exact ⟨rfl, H.out.of (HB1.out.block r hrl), Only.of_below HB1.out _⟩
  · have hd : ((k : Int) == -1) = false := by simp
    have hwk : IntKind.i64.wrap ((k : Int) + 1) = (k : Int) + 1 := by rw [IntKind.wrap_i64]; omega
    have hf0 : fitL n (xs.take (k + 1)) = xs.take k := by
      rw [List.take_add_one, gx_some hkl]
      simp only [fitL, List.filter_append, Option.toList_some]
      rw [show List.filter (fun e : Nat × Nat => decide (n ≤ e.2)) [gx xs k] = [] by simp [hbad], List.append_nil]
      refine List.filter_eq_self.2 (fun e he => ?_)
      obtain ⟨j, hj, rfl⟩ := List.mem_iff_getElem.1 he
      simp only [List.length_take] at hj
      have := hpre j (by omega)
      rw [gx_of (List.getElem?_eq_getElem (by omega))] at this
      simpa using this
    have HF0 := Lib.hid hf0
    clear hpre hbad hf0
    go_wp2_with fail
    go_loopw [5, 6] (fun vi vj wr => ∃ (i j : Nat) (ys : List (Nat × Nat)), i < j ∧ j ≤ xs.length ∧ vi = .int .i64 i ∧ vj = .int .i64 j ∧ ys.length = xs.length ∧ ys.take i = fitL n (xs.take j) ∧ ys.drop j = xs.drop j ∧ ERow wr r ys ∧ Only [r] w wr) (fun _ vj _ => xs.length - (intS vj).toNat)
    case atStart => exact ⟨k, k + 1, xs, by omega, by omega, rfl, by go_num, rfl, HF0.out.symm, rfl, H.out.of (HB1.out.block r hrl), Only.of_below HB1.out _⟩
    case round =>
      obtain ⟨i, j, ys, hij, hj, rfl, rfl, hyl, hyt, hyd, hrow, ho⟩ := hrel
      obtain ⟨wo, hwo⟩ : ∃ wo, wo = wr := ⟨_, rfl⟩
      subst hwo
      have HR := Lib.hid hrow
      have HY := Lib.hid (And.intro hyt hyd)
      have HO := Lib.hid ho
      have hcap : Cap wo p q n := HC.out.of ho.size (ho.block p HC.out.pl (by simpa using hpr)) (ho.block q HC.out.ql (by simpa using hqr))
      have hrl2 := hrow.lt
      clear hrow hyt hyd ho
      by_cases hlt : j < xs.length
      · obtain ⟨c0, c1, -, -⟩ := HR.out.get (gx_some (xs := ys) (i := j) (by omega))
        have HN := Lib.hid (notfit_any (w := wo.alloc (.cells #[.int .i64 ((gx ys j).1 : Int), .int .i64 ((gx ys j).2 : Int)] 45)) (gx ys j) (hcap.of (by rw [World.size_alloc]; omega) (Below.heap_alloc _ _ _ hcap.pl) (Below.heap_alloc _ _ _ hcap.ql)))
        have hbl := (Blk.new wo 45 #[.int .i64 ((gx ys j).1 : Int), .int .i64 ((gx ys j).2 : Int)])
        have HL := Lib.hid hbl
        have HO1 := Lib.hid (HO.out.alloc (.cells #[.int .i64 ((gx ys j).1 : Int), .int .i64 ((gx ys j).2 : Int)] 45))
        have HR1 : Hid (ERow (wo.alloc (.cells #[.int .i64 ((gx ys j).1 : Int), .int .i64 ((gx ys j).2 : Int)] 45)) r ys) := Lib.hid (HR.out.of (Below.heap_alloc _ _ _ hrl2))
        have hgj : gx ys j = gx xs j := by
          have := congrArg (fun l => l[0]?) HY.out.2
          simp only [List.getElem?_drop, Nat.add_zero] at this
          rw [gx_some (by omega), gx_some hlt] at this
          injection this
        have htj : fitL n (xs.take (j + 1)) = fitL n (xs.take j) ++ fitL n [gx ys j] := by
          rw [List.take_add_one, gx_some hlt, hgj]
          simp [fitL]
        have hdj : ys.drop (j + 1) = xs.drop (j + 1) := by
          have := congrArg (fun l => l.drop 1) HY.out.2
          simpa [List.drop_drop] using this
        have HT := Lib.hid (And.intro htj hdj)
        have hwj : IntKind.i64.wrap ((j : Int) + 1) = (j : Int) + 1 := by rw [IntKind.wrap_i64]; omega
        have hwi : IntKind.i64.wrap ((i : Int) + 1) = (i : Int) + 1 := by rw [IntKind.wrap_i64]; omega
        clear hgj htj hdj hbl hcap HR
        unfold exV at HN
        go_wp2_with fail
        refine HN.out.mono ?_
        rintro e2 w2 ⟨rfl, hb2⟩
        clear HN c0 c1
        have hsz : wo.heap.size < (wo.alloc (.cells #[.int .i64 ((gx ys j).1 : Int), .int .i64 ((gx ys j).2 : Int)] 45)).heap.size := by rw [World.size_alloc]; omega
        have hL2 := HL.out.of (hb2.block _ hsz)
        have HL2 := Lib.hid hL2
        have HR2 := Lib.hid (HR1.out.of (hb2.block r HR1.out.lt))
        have HO2 := Lib.hid (HO1.out.trans (Only.of_below hb2 _) (Fresh.refl _ _))
        clear HL HR1 HO1 hb2 HO hsz
        by_cases hfit : n ≤ (gx ys j).2
        · have hd : (!decide (n ≤ (gx ys j).2)) = false := by simp [hfit]
          obtain ⟨a0, a1, f0, f1⟩ := HR2.out.get (gx_some (xs := ys) (i := i) (by omega))
          have b0 := hL2.cell 0
          have b1 := hL2.cell 1
          simp only [List.getElem?_toArray, List.getElem?_cons_zero, List.getElem?_cons_succ] at b0 b1
          clear hL2
          have hset : (ys.set i (gx ys j)).take (i + 1) = ys.take i ++ [gx ys j] := by
            rw [List.take_add_one, List.getElem?_set_self (by omega)]
            rw [List.take_set, List.set_eq_of_length_le (by simp; omega)]
            rfl
          have hds : (ys.set i (gx ys j)).drop (j + 1) = ys.drop (j + 1) := by
            apply List.ext_getElem?
            intro m
            simp only [List.getElem?_drop]
            rw [List.getElem?_set_ne (by omega)]
          have HS := Lib.hid (And.intro hset hds)
          clear hset hds
          go_wp2
          go_roundw
          case rel =>
            refine ⟨i + 1, j + 1, ys.set i (gx ys j), by omega, by omega, by go_num, by go_num, by simpa using hyl, ?_, HS.out.2.trans HT.out.2, (HR2.out.sets (by omega) (gx ys j)), ((HO2.out.setCell (.inl (by simp)) _).setCell (.inl (by simp)) _)⟩
            rw [HS.out.1, HT.out.1, ← HY.out.1]
            simp [fitL, hfit]
          case measure => simp [intS]; omega
        · have hd : (!decide (n ≤ (gx ys j).2)) = true := by simp [hfit]
          clear hL2
          go_wp2
          go_roundw
          case rel => exact ⟨i, j + 1, ys, by omega, by omega, rfl, by go_num, hyl, by rw [HT.out.1, ← HY.out.1]; simp [fitL, hfit], HT.out.2, HR2.out, HO2.out⟩
          case measure => simp [intS]; omega
      · obtain rfl : j = xs.length := by omega
        have hsl := fun w => run_tail_ext r xs.length c i hij hcl w
        have hcells : ∀ m, m < (xs.length - i) * 2 → (wo.cell? ⟨r, i * 2 + m, none⟩).isSome = true ∧ wo.frozen? ⟨r, i * 2 + m, none⟩ = false := by
          intro m hm
          obtain ⟨g0, g1, g2, g3⟩ := HR.out.get (gx_some (xs := ys) (i := i + m / 2) (by omega))
          rcases (by omega : m % 2 = 0 ∨ m % 2 = 1) with h | h
          · rw [show (i + m / 2) * 2 = i * 2 + m by omega] at g0 g2
            exact ⟨by rw [g0]; rfl, g2⟩
          · rw [show (i + m / 2) * 2 + 1 = i * 2 + m by omega] at g1 g3
            exact ⟨by rw [g1]; rfl, g3⟩
        obtain ⟨vs, -, hclr⟩ := run_clear_ext wo r (i * 2) (xs.length - i) (c - i) (by omega) (fun m hm => (hcells m hm).1) (fun m hm => (hcells m hm).2)
        have hhd := fun w => run_head_ext (some ⟨r, 0, none⟩) xs.length c i (by omega) w
        have hadd : (if c = 0 then some (⟨r, 0, none⟩ : Addr) else Option.map (fun x => Addr.add x 0) (some ⟨r, 0, none⟩)) = some ⟨r, 0, none⟩ := by split <;> simp [Addr.add]
        rw [hadd] at hhd
        have hfx : ys.take i = fitL n xs := by have := HY.out.1; rwa [List.take_length] at this
        have hfl : (fitL n xs).length = i := by rw [← hfx]; simp; omega
        have HX := Lib.hid (And.intro hfx hfl)
        have HRC := Lib.hid (HR.out.cleared i vs)
        have HOC := Lib.hid (HO.out.grown (setCells_grown r vs (i * 2) wo).1 (fun g e => by injection e with e; subst e; exact .inl (by simp)))
        clear hadd hcells hfx hfl hcap
        generalize wo.setCells r (i * 2) vs = w3 at *
        go_wp2
        go_ret
        have hr := HRC.out
        rw [HX.out.1] at hr
        rw [HX.out.2]
        exact ⟨rfl, hr, HOC.out⟩
end Go.Proofs.Ytliockcbnmbhnaa
