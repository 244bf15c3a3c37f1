/-
  The shortest hole that fits: the holes that don't fit are dropped. Conditions: the row reads as it is said to.
-/
import Derived.Test.YtfbpfgbmlbkffaaGreatZc
import Derived.Lib.SliceRun
import Derived.WideKeyElems
import Derived.Laws.IdiomMaps
import Derived.Maps.Keyed
import Derived.Maps.Own
import Derived.StringKeys
import Derived.Lib.AppendZerosOnto
import Derived.Deep.CutRange
import Derived.BigQuiet

namespace Go.Proofs.YtfbpfgbmlbkffaaGreat
open Go.RowKit Go.BigFrame
set_option linter.unusedSimpArgs false
set_option linter.unusedVariables false
theorem run_tail_ext (r n c i : Nat) (h : i < n) (hc : n ≤ c) (w : World) : (Instr.slice 74 (.slice (some ⟨r, 0, none⟩) n c) (some (.int .i64 (i : Int))) none none).run Tryz.prog w = .ok (.slice (some ⟨r, i * 2, none⟩) (n - i) (c - i)) w := by
  have hsz : ∀ w, (sizeOf (Tryz.prog.elem 74)).run Tryz.prog w = .ok 2 w := fun w => by kernel_rfl
  rw [run_slice_l w 74 (some ⟨r, 0, none⟩) n c (by kernel_rfl) .i64 (i : Int) (by omega) (by omega), hsz]
  simp only [Result.andThen, sliced, Int.toNat_natCast]
  rw [if_neg (by omega)]
  by_cases hz : i * 2 = 0 <;> simp [Addr.add, hz]
theorem run_clear_ext (w : World) (r o n c : Nat) (hn : 0 < n) (hc : ∀ j, j < n * 2 → (w.cell? ⟨r, o + j, none⟩).isSome = true) (hf : ∀ j, j < n * 2 → w.frozen? ⟨r, o + j, none⟩ = false) :
    ∃ vs : List Value, vs.length = n * 2 ∧ ∀ ty, (Builtin.clear_ #[74] ty #[.slice (some ⟨r, o, none⟩) n c]).run Tryz.prog w = .ok (.tuple #[]) (w.setCells r o vs) := by
  have hv : ∀ w, (zeroValue 81).run Tryz.prog w = .ok (.agg #[.int .i64 0, .int .i64 0]) w := fun w => by kernel_rfl
  have ht : Tryz.prog.underlying 74 = some (.slice 81) := by kernel_rfl
  have hlen : (Builtin.zeroCells #[Value.int .i64 0, .int .i64 0] n).size = n * 2 := by simp [Builtin.zeroCells]; try omega
  have hone : ∀ v ∈ (Builtin.zeroCells #[Value.int .i64 0, .int .i64 0] n).toList, v.oneCell' = true := by
    intro v hv
    simp [Builtin.zeroCells] at hv
    obtain ⟨j, hj, rfl⟩ := hv
    have : j % 2 = 0 ∨ j % 2 = 1 := by omega
    rcases this with h | h <;> simp [h] <;> rfl
  have hst := run_storeCells_cells (P := Tryz.prog) r o (Builtin.zeroCells #[Value.int .i64 0, .int .i64 0] n).toList 0 w (by simpa [hlen] using hc) (by simpa [hlen] using hf) hone
  simp only [Nat.add_zero] at hst
  refine ⟨(Builtin.zeroCells #[Value.int .i64 0, .int .i64 0] n).toList, by simpa using hlen, fun ty => ?_⟩
  obtain ⟨m, rfl⟩ : ∃ m, n = m + 1 := ⟨n - 1, by omega⟩
  simp [Builtin.clear_, run_underlying ht, hv, hst, Value.cells]
theorem ERow.cleared {w : World} {r : Nat} {xs : List (Nat × Nat)} (h : ERow w r xs) (i : Nat) (vs : List Value) : ERow (w.setCells r (i * 2) vs) r (xs.take i) := by
  obtain ⟨cs, hb, hc⟩ := h
  obtain ⟨cs', hb', -⟩ := hb.setCells_ vs (i * 2)
  refine ⟨cs', hb', fun k e hk => ?_⟩
  rw [List.getElem?_take] at hk
  split at hk
  · rename_i hki
    have h0 := hc k e hk
    have c0 := (hb'.cell (k * 2)).symm.trans (World.cell?_setCells_out r vs (i * 2) w ⟨r, k * 2, none⟩ (fun _ _ => .inl (by show k * 2 < i * 2; omega)))
    have c1 := (hb'.cell (k * 2 + 1)).symm.trans (World.cell?_setCells_out r vs (i * 2) w ⟨r, k * 2 + 1, none⟩ (fun _ _ => .inl (by show k * 2 + 1 < i * 2; omega)))
    exact ⟨c0.trans ((hb.cell _).trans h0.1), c1.trans ((hb.cell _).trans h0.2)⟩
  · cases hk
/-- those that fit -/
def fitL (n : Nat) (xs : List (Nat × Nat)) : List (Nat × Nat) := xs.filter fun e => decide (n ≤ e.2)
set_option maxRecDepth 100000 in
set_option maxHeartbeats 4000000 in
theorem delete_ext {w : World} {r c p q n : Nat} {xs : List (Nat × Nat)} (h : ERow w r xs) (hl : xs.length ≤ 65536) (hcl : xs.length ≤ c) (hC : Cap w p q n) (hpr : p ≠ r) (hqr : q ≠ r) :
    Calls Tryz.prog 150 #[.slice (some ⟨r, 0, none⟩) xs.length c, notV q] w fun e' w' => e' = .returned (.slice (some ⟨r, 0, none⟩) (fitL n xs).length c) ∧ ERow w' r (fitL n xs) ∧ Only [r] w w' := by
  have H := Lib.hid h
  have HC := Lib.hid hC
  have hrl := h.lt
  have HI := Lib.hid (index_ext (c := c) h hl hC)
  clear h hC
  unfold notV at HI ⊢
  go_enter Tryz.func150, Tryz.ntmps150
  go_wp2_with fail
  refine HI.out.mono ?_
  rintro e1 w1 ⟨⟨v, rfl, hv⟩, hb1⟩
  clear HI
  have HB1 := Lib.hid hb1
  clear hb1
  rcases hv with ⟨rfl, hall⟩ | ⟨k, rfl, hkl, hpre, hbad⟩
  · have hfl : fitL n xs = xs := List.filter_eq_self.2 (fun e he => by simpa using hall e he)
    have HF := Lib.hid hfl
    clear hall hfl
    go_wp2
    go_ret
    rw [HF.out]
    exact ⟨rfl, H.out.of (HB1.out.block r hrl), Only.of_below HB1.out _⟩
  · have hd : ((k : Int) == -1) = false := by simp
    have hwk : IntKind.i64.wrap ((k : Int) + 1) = (k : Int) + 1 := by rw [IntKind.wrap_i64]; omega
    have hf0 : fitL n (xs.take (k + 1)) = xs.take k := by
      rw [List.take_add_one, gx_some hkl]
      simp only [fitL, List.filter_append, Option.toList_some]
      rw [show List.filter (fun e : Nat × Nat => decide (n ≤ e.2)) [gx xs k] = [] by simp [hbad], List.append_nil]
      refine List.filter_eq_self.2 (fun e he => ?_)
      obtain ⟨j, hj, rfl⟩ := List.mem_iff_getElem.1 he
      simp only [List.length_take] at hj
      have := hpre j (by omega)
      rw [gx_of (List.getElem?_eq_getElem (by omega))] at this
      simpa using this
    have HF0 := Lib.hid hf0
    clear hpre hbad hf0
    go_wp2_with fail
    go_loopw [5, 6] (fun vi vj wr => ∃ (i j : Nat) (ys : List (Nat × Nat)), i < j ∧ j ≤ xs.length ∧ vi = .int .i64 i ∧ vj = .int .i64 j ∧ ys.length = xs.length ∧ ys.take i = fitL n (xs.take j) ∧ ys.drop j = xs.drop j ∧ ERow wr r ys ∧ Only [r] w wr) (fun _ vj _ => xs.length - (intS vj).toNat)
    case atStart => exact ⟨k, k + 1, xs, by omega, by omega, rfl, by go_num, rfl, HF0.out.symm, rfl, H.out.of (HB1.out.block r hrl), Only.of_below HB1.out _⟩
    case round =>
      obtain ⟨i, j, ys, hij, hj, rfl, rfl, hyl, hyt, hyd, hrow, ho⟩ := hrel
      obtain ⟨wo, hwo⟩ : ∃ wo, wo = wr := ⟨_, rfl⟩
      subst hwo
      have HR := Lib.hid hrow
      have HY := Lib.hid (And.intro hyt hyd)
      have HO := Lib.hid ho
      have hcap : Cap wo p q n := HC.out.of ho.size (ho.block p HC.out.pl (by simpa using hpr)) (ho.block q HC.out.ql (by simpa using hqr))
      have hrl2 := hrow.lt
      clear hrow hyt hyd ho
      by_cases hlt : j < xs.length
      · obtain ⟨c0, c1, -, -⟩ := HR.out.get (gx_some (xs := ys) (i := j) (by omega))
        have HN := Lib.hid (notfit_any (w := wo.alloc (.cells #[.int .i64 ((gx ys j).1 : Int), .int .i64 ((gx ys j).2 : Int)] 81)) (gx ys j) (hcap.of (by rw [World.size_alloc]; omega) (Below.heap_alloc _ _ _ hcap.pl) (Below.heap_alloc _ _ _ hcap.ql)))
        have hbl := (Blk.new wo 81 #[.int .i64 ((gx ys j).1 : Int), .int .i64 ((gx ys j).2 : Int)])
        have HL := Lib.hid hbl
        have HO1 := Lib.hid (HO.out.alloc (.cells #[.int .i64 ((gx ys j).1 : Int), .int .i64 ((gx ys j).2 : Int)] 81))
        have HR1 : Hid (ERow (wo.alloc (.cells #[.int .i64 ((gx ys j).1 : Int), .int .i64 ((gx ys j).2 : Int)] 81)) r ys) := Lib.hid (HR.out.of (Below.heap_alloc _ _ _ hrl2))
        have hgj : gx ys j = gx xs j := by
          have := congrArg (fun l => l[0]?) HY.out.2
          simp only [List.getElem?_drop, Nat.add_zero] at this
          rw [gx_some (by omega), gx_some hlt] at this
          injection this
        have htj : fitL n (xs.take (j + 1)) = fitL n (xs.take j) ++ fitL n [gx ys j] := by
          rw [List.take_add_one, gx_some hlt, hgj]
          simp [fitL]
        have hdj : ys.drop (j + 1) = xs.drop (j + 1) := by
          have := congrArg (fun l => l.drop 1) HY.out.2
          simpa [List.drop_drop] using this
        have HT := Lib.hid (And.intro htj hdj)
        have hwj : IntKind.i64.wrap ((j : Int) + 1) = (j : Int) + 1 := by rw [IntKind.wrap_i64]; omega
        have hwi : IntKind.i64.wrap ((i : Int) + 1) = (i : Int) + 1 := by rw [IntKind.wrap_i64]; omega
        clear hgj htj hdj hbl hcap HR
        unfold exV at HN
        go_wp2_with fail
        refine HN.out.mono ?_
        rintro e2 w2 ⟨rfl, hb2⟩
        clear HN c0 c1
        have hsz : wo.heap.size < (wo.alloc (.cells #[.int .i64 ((gx ys j).1 : Int), .int .i64 ((gx ys j).2 : Int)] 81)).heap.size := by rw [World.size_alloc]; omega
        have hL2 := HL.out.of (hb2.block _ hsz)
        have HL2 := Lib.hid hL2
        have HR2 := Lib.hid (HR1.out.of (hb2.block r HR1.out.lt))
        have HO2 := Lib.hid (HO1.out.trans (Only.of_below hb2 _) (Fresh.refl _ _))
        clear HL HR1 HO1 hb2 HO hsz
        by_cases hfit : n ≤ (gx ys j).2
        · have hd : (!decide (n ≤ (gx ys j).2)) = false := by simp [hfit]
          obtain ⟨a0, a1, f0, f1⟩ := HR2.out.get (gx_some (xs := ys) (i := i) (by omega))
          have b0 := hL2.cell 0
          have b1 := hL2.cell 1
          simp only [List.getElem?_toArray, List.getElem?_cons_zero, List.getElem?_cons_succ] at b0 b1
          clear hL2
          have hset : (ys.set i (gx ys j)).take (i + 1) = ys.take i ++ [gx ys j] := by
            rw [List.take_add_one, List.getElem?_set_self (by omega)]
            rw [List.take_set, List.set_eq_of_length_le (by simp; omega)]
            rfl
          have hds : (ys.set i (gx ys j)).drop (j + 1) = ys.drop (j + 1) := by
            apply List.ext_getElem?
            intro m
            simp only [List.getElem?_drop]
            rw [List.getElem?_set_ne (by omega)]
          have HS := Lib.hid (And.intro hset hds)
          clear hset hds
          go_wp2
          go_roundw
          case rel =>
            refine ⟨i + 1, j + 1, ys.set i (gx ys j), by omega, by omega, by go_num, by go_num, by simpa using hyl, ?_, HS.out.2.trans HT.out.2, (HR2.out.sets (by omega) (gx ys j)), ((HO2.out.setCell (.inl (by simp)) _).setCell (.inl (by simp)) _)⟩
            rw [HS.out.1, HT.out.1, ← HY.out.1]
            simp [fitL, hfit]
          case measure => simp [intS]; omega
        · have hd : (!decide (n ≤ (gx ys j).2)) = true := by simp [hfit]
          clear hL2
          go_wp2
          go_roundw
          case rel => exact ⟨i, j + 1, ys, by omega, by omega, rfl, by go_num, hyl, by rw [HT.out.1, ← HY.out.1]; simp [fitL, hfit], HT.out.2, HR2.out, HO2.out⟩
          case measure => simp [intS]; omega
      · obtain rfl : j = xs.length := by omega
        have hsl := fun w => run_tail_ext r xs.length c i hij hcl w
        have hcells : ∀ m, m < (xs.length - i) * 2 → (wo.cell? ⟨r, i * 2 + m, none⟩).isSome = true ∧ wo.frozen? ⟨r, i * 2 + m, none⟩ = false := by
          intro m hm
          obtain ⟨g0, g1, g2, g3⟩ := HR.out.get (gx_some (xs := ys) (i := i + m / 2) (by omega))
          rcases (by omega : m % 2 = 0 ∨ m % 2 = 1) with h | h
          · rw [show (i + m / 2) * 2 = i * 2 + m by omega] at g0 g2
            exact ⟨by rw [g0]; rfl, g2⟩
          · rw [show (i + m / 2) * 2 + 1 = i * 2 + m by omega] at g1 g3
            exact ⟨by rw [g1]; rfl, g3⟩
        obtain ⟨vs, -, hclr⟩ := run_clear_ext wo r (i * 2) (xs.length - i) (c - i) (by omega) (fun m hm => (hcells m hm).1) (fun m hm => (hcells m hm).2)
        have hhd := fun w => run_head_ext (some ⟨r, 0, none⟩) xs.length c i (by omega) w
        have hadd : (if c = 0 then some (⟨r, 0, none⟩ : Addr) else Option.map (fun x => Addr.add x 0) (some ⟨r, 0, none⟩)) = some ⟨r, 0, none⟩ := by split <;> simp [Addr.add]
        rw [hadd] at hhd
        have hfx : ys.take i = fitL n xs := by have := HY.out.1; rwa [List.take_length] at this
        have hfl : (fitL n xs).length = i := by rw [← hfx]; simp; omega
        have HX := Lib.hid (And.intro hfx hfl)
        have HRC := Lib.hid (HR.out.cleared i vs)
        have HOC := Lib.hid (HO.out.grown (setCells_grown r vs (i * 2) wo).1 (fun g e => by injection e with e; subst e; exact .inl (by simp)))
        clear hadd hcells hfx hfl hcap
        generalize wo.setCells r (i * 2) vs = w3 at *
        go_wp2
        go_ret
        have hr := HRC.out
        rw [HX.out.1] at hr
        rw [HX.out.2]
        exact ⟨rfl, hr, HOC.out⟩
end Go.Proofs.YtfbpfgbmlbkffaaGreat

/-
  The shortest hole that fits: the first of the shortest ones. Conditions: the row reads as it is said to and isn't empty.
-/
namespace Go.Proofs.YtfbpfgbmlbkffaaGreat
open Go.RowKit Go.BigFrame
set_option linter.unusedSimpArgs false
set_option linter.unusedVariables false
def Least (zs : List (Nat × Nat)) (k : Nat) (b : Nat × Nat) : Prop := b ∈ zs ∧ ∀ j, j < k → gx zs j = b ∨ Shorter b (gx zs j)
set_option maxRecDepth 100000 in
set_option maxHeartbeats 4000000 in
theorem min_ext {w : World} {r c : Nat} {zs : List (Nat × Nat)} (h : ERow w r zs) (hl : zs.length ≤ 65536) (h0 : 0 < zs.length) :
    Calls Tryz.prog 152 #[.slice (some ⟨r, 0, none⟩) zs.length c, .func (.func 153) #[] #[]] w fun e' w' => (∃ b, e' = .returned (exV b) ∧ Least zs zs.length b) ∧ Below w.heap.size w w' := by
  have H := Lib.hid h
  have hrl := h.lt
  have c0 := (h.get (gx_some h0)).1
  have c1 := (h.get (gx_some h0)).2.1
  simp only [Nat.zero_mul, Nat.zero_add] at c0 c1
  have d0 : (w.alloc (.cells #[.int .i64 0, .int .i64 0] 81)).cell? ⟨r, 0, none⟩ = some (.int .i64 ((gx zs 0).1 : Int)) := (World.cell?_alloc_lt w _ _ hrl).trans c0
  have d1 : (w.alloc (.cells #[.int .i64 0, .int .i64 0] 81)).cell? ⟨r, 1, none⟩ = some (.int .i64 ((gx zs 0).2 : Int)) := (World.cell?_alloc_lt w _ _ hrl).trans c1
  have hg0 : gx zs 0 ∈ zs := List.mem_of_getElem? (gx_some h0)
  clear h c0 c1
  go_enter Tryz.func152, Tryz.ntmps152
  go_wp2_with fail
  go_loopw [6] (fun i wr => ∃ (k : Nat) (b : Nat × Nat), 1 ≤ k ∧ k ≤ zs.length ∧ i = .int .i64 k ∧ Least zs k b ∧ Blk wr w.heap.size 81 #[.int .i64 0, .int .i64 0] ∧ Blk wr (w.heap.size + 1) 81 #[.int .i64 (b.1 : Int), .int .i64 (b.2 : Int)] ∧ Below w.heap.size w wr) (fun i _ => zs.length - (intS i).toNat)
  case atStart =>
    refine ⟨1, gx zs 0, by omega, by omega, by go_num, ⟨hg0, fun j hj => .inl (by rw [show j = 0 by omega])⟩, ?_, ?_, ?_⟩
    · exact ((Blk.new w 81 _).alloc _)
    · have := Blk.new (w.alloc (.cells #[.int .i64 0, .int .i64 0] 81)) 81 #[.int .i64 ((gx zs 0).1 : Int), .int .i64 ((gx zs 0).2 : Int)]
      rw [World.size_alloc] at this
      exact this
    · exact ((Below.refl _ _).alloc (Nat.le_refl _) _).alloc (by rw [World.size_alloc]; omega) _
  case round =>
    obtain ⟨k, b, hk1, hk, rfl, hb, hB0, hB1, hbe⟩ := hrel
    obtain ⟨wo, hwo⟩ : ∃ wo, wo = wr := ⟨_, rfl⟩
    subst hwo
    have hrow : ERow wo r zs := H.out.of (hbe.block r hrl)
    have HL := Lib.hid hb
    have HB := Lib.hid (And.intro hB0 (And.intro hB1 hbe))
    have b0 := hB1.cell 0
    have b1 := hB1.cell 1
    simp only [List.getElem?_toArray, List.getElem?_cons_zero, List.getElem?_cons_succ] at b0 b1
    have HRW := Lib.hid hrow
    clear hb hB0 hB1 hbe d0 d1 hg0
    by_cases hlt : k < zs.length
    · obtain ⟨c0, c1, -, -⟩ := hrow.get (gx_some hlt)
      clear hrow
      have hwk : IntKind.i64.wrap ((k : Int) + 1) = (k : Int) + 1 := by rw [IntKind.wrap_i64]; omega
      have HC := Lib.hid (cmpe_any wo.drew (gx zs k) b)
      unfold exV at HC
      go_wp2_with fail
      refine wp_region_still_tail 6 (by kernel_rfl) (by kernel_rfl) ?_
      simp only [List.take_succ_cons, List.take_zero, List.drop_succ_cons, List.drop_zero]
      repeat still_step
      refine wpStill_nil ?_
      change wpList _ _ _ _ _ wo.drew
      have hb0 : wo.drew.cell? ⟨w.heap.size + 1, 0, none⟩ = some (.int .i64 (b.1 : Int)) := b0
      have hc0 : wo.drew.cell? ⟨r, k * 2, none⟩ = some (.int .i64 ((gx zs k).1 : Int)) := c0
      have hc1 : wo.drew.cell? ⟨r, k * 2 + 1, none⟩ = some (.int .i64 ((gx zs k).2 : Int)) := c1
      have HBd : Hid (Blk wo.drew w.heap.size 81 #[.int .i64 0, .int .i64 0] ∧ Blk wo.drew (w.heap.size + 1) 81 #[.int .i64 (b.1 : Int), .int .i64 (b.2 : Int)] ∧ Below w.heap.size w wo.drew ∧ ERow wo.drew r zs) := Lib.hid ⟨HB.out.1.of rfl, HB.out.2.1.of rfl, HB.out.2.2.drew, HRW.out.of rfl⟩
      clear HB HRW b0 b1 c0 c1 hb0 hc0 hc1
      generalize wo.drew = w2 at *
      go_wp2_with fail
      refine HC.out.mono ?_
      rintro e3 w3 ⟨rfl, hb3⟩
      have HX : Hid (Blk w3 w.heap.size 81 #[.int .i64 0, .int .i64 0] ∧ Blk w3 (w.heap.size + 1) 81 #[.int .i64 (b.1 : Int), .int .i64 (b.2 : Int)] ∧ Below w.heap.size w w3 ∧ ERow w3 r zs) := Lib.hid ⟨HBd.out.1.of (hb3.block _ HBd.out.1.lt), HBd.out.2.1.of (hb3.block _ HBd.out.2.1.lt), HBd.out.2.2.1.trans (hb3.mono HBd.out.2.2.1.size), HBd.out.2.2.2.of (hb3.block _ HBd.out.2.2.2.lt)⟩
      clear HBd HC hb3
      have HQ := Lib.hid (cmpE_iff (gx zs k) b)
      by_cases hs : cmpE (gx zs k) b < 0
      · have hd : decide (cmpE (gx zs k) b < 0) = true := decide_eq_true hs
        have HSh := Lib.hid (HQ.out.1 hs)
        obtain ⟨c0, c1, -, -⟩ := HX.out.2.2.2.get (gx_some hlt)
        have b0 := HX.out.2.1.cell 0
        have b1 := HX.out.2.1.cell 1
        simp only [List.getElem?_toArray, List.getElem?_cons_zero, List.getElem?_cons_succ] at b0 b1
        have f0 := HX.out.2.1.frozen 0
        have f1 := HX.out.2.1.frozen 1
        generalize cmpE (gx zs k) b = cv at *
        clear hs
        go_wp2
        go_roundw
        case rel =>
          refine ⟨k + 1, gx zs k, by omega, by omega, by go_num, ⟨List.mem_of_getElem? (gx_some hlt), fun j hj => ?_⟩, ?_, ?_, ?_⟩
          · by_cases he : j = k
            · subst he; exact .inl rfl
            · right
              have h2 := HSh.out
              rcases HL.out.2 j (by omega) with h1 | h1
              · rw [h1]; exact h2
              · simp only [Shorter] at h1 h2 ⊢; omega
          · exact HX.out.1.of ((Below.heap_setCell _ _ _ _ (by show w.heap.size ≠ w.heap.size + 1; omega)).trans (Below.heap_setCell _ _ _ _ (by show w.heap.size ≠ w.heap.size + 1; omega)))
          · exact (HX.out.2.1.set_ 0 _).set_ 1 _
          · exact (HX.out.2.2.1.setCell (by show w.heap.size ≤ w.heap.size + 1; omega) _).setCell (by show w.heap.size ≤ w.heap.size + 1; omega) _
        case measure => simp [intS]; omega
      · have hd : decide (cmpE (gx zs k) b < 0) = false := decide_eq_false hs
        have HSh : Hid (¬ Shorter (gx zs k) b) := Lib.hid (fun hh => hs (HQ.out.2 hh))
        generalize cmpE (gx zs k) b = cv at *
        clear hs
        go_wp2
        go_roundw
        case rel =>
          refine ⟨k + 1, b, by omega, by omega, by go_num, ⟨HL.out.1, fun j hj => ?_⟩, HX.out.1, HX.out.2.1, HX.out.2.2.1⟩
          by_cases he : j = k
          · subst he
            by_cases h1 : gx zs j = b
            · exact .inl h1
            · right
              have h2 := HSh.out
              have h3 : ¬ ((gx zs j).1 = b.1 ∧ (gx zs j).2 = b.2) := fun h => h1 (Prod.ext h.1 h.2)
              simp only [Shorter] at h2 ⊢; omega
          · exact HL.out.2 j (by omega)
        case measure => simp [intS]; omega
    · obtain rfl : k = zs.length := by omega
      have a0 := HB.out.1.frozen 0
      have a1 := HB.out.1.frozen 1
      have a2 := HB.out.1.cell 0
      have a3 := HB.out.1.cell 1
      simp only [List.getElem?_toArray, List.getElem?_cons_zero, List.getElem?_cons_succ] at a2 a3
      clear hrow
      have hia : (Tryz.prog.info? 81).map (·.size) = some (#[Value.int .i64 (b.1 : Int), .int .i64 (b.2 : Int)]).size := by kernel_rfl
      have hbk : Blk ((wo.setCell ⟨w.heap.size, 0, none⟩ (.int .i64 (b.1 : Int))).setCell ⟨w.heap.size, 1, none⟩ (.int .i64 (b.2 : Int))) w.heap.size 81 #[.int .i64 (b.1 : Int), .int .i64 (b.2 : Int)] := (HB.out.1.set_ 0 _).set_ 1 _
      have HK := Lib.hid hbk
      clear hbk
      go_wp2_with fail
      refine bodyPost_ret (results_cell_row rfl _ _ w.heap.size 81 #[.int .i64 (b.1 : Int), .int .i64 (b.2 : Int)] (0, 0) _ rfl HK.out Tryz.underlying81 rfl hia) rfl ?_
      exact ⟨⟨b, rfl, HL.out⟩, (HB.out.2.2.setCell (Nat.le_refl _) _).setCell (Nat.le_refl _) _⟩
end Go.Proofs.YtfbpfgbmlbkffaaGreat

/-
  The shortest hole that fits. Conditions: the row reads as it is said to, and one fits.
-/
namespace Go.Proofs.YtfbpfgbmlbkffaaGreat
open Go.RowKit Go.BigFrame
set_option linter.unusedSimpArgs false
set_option linter.unusedVariables false
theorem Least.fit {xs : List (Nat × Nat)} {n : Nat} {b : Nat × Nat} (h : Least (fitL n xs) (fitL n xs).length b) : Fit xs n b := by
  have hb := List.mem_filter.1 h.1
  refine ⟨hb.1, by simpa using hb.2, fun q hq hn => ?_⟩
  have hq2 : q ∈ fitL n xs := List.mem_filter.2 ⟨hq, by simpa using hn⟩
  obtain ⟨j, hj, rfl⟩ := List.mem_iff_getElem.1 hq2
  have := h.2 j hj
  rw [gx_of (List.getElem?_eq_getElem hj)] at this
  exact this
set_option maxRecDepth 100000 in
set_option maxHeartbeats 2000000 in
theorem shortest_any {w : World} {r c p n : Nat} {xs : List (Nat × Nat)} (h : ERow w r xs) (hl : xs.length ≤ 65536) (hcl : xs.length ≤ c) (hp : w.cell? ⟨p, 0, none⟩ = some (.int .i64 (n : Int))) (hpl : p < w.heap.size) (hpr : p ≠ r) (hex : ∃ e ∈ xs, n ≤ e.2) :
    Calls Tryz.prog 139 #[.slice (some ⟨r, 0, none⟩) xs.length c, fitsV p] w fun e' w' => (∃ b, e' = .returned (exV b) ∧ Fit xs n b) ∧ Only [r] w w' := by
  have hrl := h.lt
  have hfl : (fitL n xs).length ≤ xs.length := List.length_filter_le _ _
  have hpos : 0 < (fitL n xs).length := by
    obtain ⟨e, he, hn⟩ := hex
    exact List.length_pos_of_mem (a := e) (List.mem_filter.2 ⟨he, by simpa using hn⟩)
  have z1 : ((w.alloc (.cells #[fitsV p] 190))).heap.size = w.heap.size + 1 := World.size_alloc _ _
  have z2 : ((w.alloc (.cells #[fitsV p] 190)).alloc (.cells #[.int .i64 0, .int .i64 0] 81)).heap.size = w.heap.size + 2 := by rw [World.size_alloc, z1]
  have e1 : ERow ((w.alloc (.cells #[fitsV p] 190)).alloc (.cells #[.int .i64 0, .int .i64 0] 81)) r xs := h.of ((Below.heap_alloc _ _ _ (by omega)).trans (Below.heap_alloc _ _ _ hrl))
  have hq : Blk ((w.alloc (.cells #[fitsV p] 190)).alloc (.cells #[.int .i64 0, .int .i64 0] 81)) w.heap.size 190 #[fitsV p] := (Blk.new w _ _).alloc _
  have hb : Blk ((w.alloc (.cells #[fitsV p] 190)).alloc (.cells #[.int .i64 0, .int .i64 0] 81)) (w.heap.size + 1) 81 #[.int .i64 0, .int .i64 0] := by
    have := Blk.new (w.alloc (.cells #[fitsV p] 190)) 81 #[.int .i64 0, .int .i64 0]
    rwa [z1] at this
  have hc : Cap ((w.alloc (.cells #[fitsV p] 190)).alloc (.cells #[.int .i64 0, .int .i64 0] 81)) p w.heap.size n :=
    ⟨((World.cell?_alloc_lt _ _ _ (by rw [z1]; show p < _; omega)).trans (World.cell?_alloc_lt _ _ _ hpl)).trans hp, hq.cell 0, by rw [z2]; omega, by rw [z2]; omega⟩
  have ho : Below w.heap.size w ((w.alloc (.cells #[fitsV p] 190)).alloc (.cells #[.int .i64 0, .int .i64 0] 81)) := ((Below.refl _ _).alloc (Nat.le_refl _) _).alloc (by rw [z1]; omega) _
  have HD := Lib.hid (delete_ext e1 hl hcl hc hpr (by omega))
  have HX := Lib.hid (And.intro hb (And.intro ho hpos))
  clear h hp hex z1 z2 e1 hq hb hc ho hpos
  unfold fitsV notV at HD
  unfold fitsV at HX ⊢
  go_enter Tryz.func139, Tryz.ntmps139
  go_wp2_with fail
  refine HD.out.mono ?_
  rintro e1 w1 ⟨rfl, hr1, ho1⟩
  have HM := Lib.hid (min_ext (c := c) hr1 (by omega) HX.out.2.2)
  have hb1 := HX.out.1.of (ho1.block _ HX.out.1.lt (by simp; omega))
  have HB := Lib.hid (And.intro hb1 ((Only.of_below HX.out.2.1 [r]).trans ho1 (Fresh.refl _ _)))
  clear HD hr1 ho1 hb1 HX
  go_wp2_with fail
  refine HM.out.mono ?_
  rintro e2 w2 ⟨⟨b, rfl, hl2⟩, hbe⟩
  have HF := Lib.hid hl2.fit
  have hb2 := HB.out.1.of (hbe.block _ HB.out.1.lt)
  have HB2 := Lib.hid (And.intro hb2 (HB.out.2.trans (Only.of_below hbe [r]) (Fresh.refl _ _)))
  have a0 := hb2.frozen 0
  have a1 := hb2.frozen 1
  have a2 := hb2.cell 0
  have a3 := hb2.cell 1
  simp only [List.getElem?_toArray, List.getElem?_cons_zero, List.getElem?_cons_succ] at a2 a3
  have hia : (Tryz.prog.info? 81).map (·.size) = some (#[Value.int .i64 (b.1 : Int), .int .i64 (b.2 : Int)]).size := by kernel_rfl
  have HK : Hid (Blk ((w2.setCell ⟨w.heap.size + 1, 0, none⟩ (.int .i64 (b.1 : Int))).setCell ⟨w.heap.size + 1, 1, none⟩ (.int .i64 (b.2 : Int))) (w.heap.size + 1) 81 #[.int .i64 (b.1 : Int), .int .i64 (b.2 : Int)]) := Lib.hid ((hb2.set_ 0 _).set_ 1 _)
  clear HM hl2 hbe hb2 HB
  unfold exV
  go_wp2_with fail
  refine bodyPost_ret (results_cell_row rfl _ _ (w.heap.size + 1) 81 #[.int .i64 (b.1 : Int), .int .i64 (b.2 : Int)] (0, 0) _ rfl HK.out Tryz.underlying81 rfl hia) rfl ?_
  exact ⟨⟨b, rfl, HF.out⟩, (HB2.out.2.setCell (.inr (by show w.heap.size ≤ w.heap.size + 1; omega)) _).setCell (.inr (by show w.heap.size ≤ w.heap.size + 1; omega)) _⟩
end Go.Proofs.YtfbpfgbmlbkffaaGreat

/-
  Which holes are taken for so many blocks. Conditions: the row of holes reads as it is said to, and there are as many.
-/
namespace Go.Proofs.YtfbpfgbmlbkffaaGreat
open Go.RowKit Go.BigFrame
set_option linter.unusedSimpArgs false
set_option linter.unusedVariables false
theorem erow_of_own {w : World} {base : Nat} {v : Value} {xs : List (Nat × Nat)} (h : OwnE w base v (natE xs)) (hne : xs ≠ []) : ∃ r c, v = .slice (some ⟨r, 0, none⟩) xs.length c ∧ base ≤ r ∧ xs.length ≤ c ∧ ERow w r xs := by
  have hl : (natE xs).length = xs.length := by simp [natE]
  rcases h.2 with ⟨rfl, h0⟩ | ⟨g, cap, cur, rfl, hb, hh, hn, hm, hs, ht⟩
  · rw [hl] at h0
    exact absurd (List.eq_nil_of_length_eq_zero h0) hne
  · rw [hl] at hn ⊢
    refine ⟨g, cap, rfl, hb, hn, cur, hh, fun k e hk => ?_⟩
    have hk2 : (natE xs)[k]? = some ((e.1 : Int), (e.2 : Int)) := by simp [natE, hk]
    obtain ⟨h1, h2⟩ := extS_at hk2
    rw [← ht] at h1 h2
    rw [List.getElem?_take] at h1 h2
    constructor
    · split at h1
      · simpa using h1
      · cases h1
    · split at h2
      · simpa using h2
      · cases h2
theorem lens_perm {a b : List (Nat × Nat)} (h : a.Perm b) : lens a = lens b := (h.map _).sum_nat
theorem lens_erase {a : List (Nat × Nat)} {e : Nat × Nat} (h : e ∈ a) : lens a = e.2 + lens (a.erase e) := by
  rw [lens_perm (List.perm_cons_erase h)]
  simp [lens]
theorem lens_pos {a : List (Nat × Nat)} (h : 0 < lens a) : 0 < a.length := by
  cases a with
  | nil => simp [lens] at h
  | cons e a => simp
theorem choose_zero (v : Value) (w : World) : Calls Tryz.prog 122 #[v, .int .i64 0] w fun e' w' => e' = .returned (.slice none 0 0) ∧ Below w.heap.size w w' := by
  go_enter Tryz.func122, Tryz.ntmps122
  go_wp2
  go_ret
  exact ⟨rfl, (Below.refl _ _).alloc (Nat.le_refl _) _⟩
def slLen : Value → Nat
  | .slice _ n _ => n
  | _ => 0
/-- in the midst of it: the memory -/
structure Mid (w wr : World) (r c : Nat) (v : Value) (m : Nat) (l ys : List (Nat × Nat)) : Prop where
  at_ : HAt wr (w.heap.size + 1) r c ys
  num : Blk wr w.heap.size 3 #[.int .i64 (m : Int)]
  own : OwnE wr (w.heap.size + 2) v (natE l)
  only : Only [r] w wr
  size : w.heap.size + 2 ≤ wr.heap.size
theorem OwnE.apart {w w' : World} {base : Nat} {v : Value} {l : List (Int × Int)} (h : OwnE w base v l) (hs : ∀ k, base ≤ k → k < w.heap.size → w'.heap[k]? = w.heap[k]?) : OwnE w' base v l :=
  row_of h fun k hk => hs k (World.ownsRow.lt h k (mem_rowOf.1 hk)).1 (World.ownsRow.lt h k (mem_rowOf.1 hk)).2
theorem Mid.below {w wr wx : World} {r c m : Nat} {v : Value} {l ys : List (Nat × Nat)} (h : Mid w wr r c v m l ys) (b : Below wr.heap.size wr wx) : Mid w wx r c v m l ys :=
  ⟨h.at_.below b, h.num.of (b.block _ h.num.lt), h.own.apart fun k _ hk => b.block k hk, h.only.trans (Only.of_below b _) (Fresh.refl _ _), Nat.le_trans h.size b.size⟩
theorem Mid.drew {w wr : World} {r c m : Nat} {v : Value} {l ys : List (Nat × Nat)} (h : Mid w wr r c v m l ys) : Mid w wr.drew r c v m l ys := h.below (Below.refl _ _).drew
theorem Mid.grown {w wr wx : World} {r c m : Nat} {v v' : Value} {l l' ys : List (Nat × Nat)} (h : Mid w wr r c v m l ys) (hr : r < w.heap.size) (g : wr.grownBy wx v.ownBlock) (o : OwnE wx (w.heap.size + 2) v' (natE l')) : Mid w wx r c v' m l' ys := by
  have hv := World.ownsRow.lt h.own
  have hk : ∀ k, k < w.heap.size + 2 → wx.heap[k]? = wr.heap[k]? := fun k hk => g.block k (Nat.lt_of_lt_of_le hk h.size) (fun e => by have := (hv k e.symm).1; omega)
  exact ⟨h.at_.of (hk _ (by omega)) (hk _ (by omega)), h.num.of (hk _ (by omega)), o, h.only.grown g (fun k e => .inr (by have := (hv k e).1; omega)), Nat.le_trans h.size g.size⟩
theorem Mid.heap {w wr wx : World} {r c m : Nat} {v : Value} {l ys ys' : List (Nat × Nat)} (h : Mid w wr r c v m l ys) (hr : r < w.heap.size) (o : Only [w.heap.size + 1, r] wr wx) (ha : HAt wx (w.heap.size + 1) r c ys') : Mid w wx r c v m l ys' :=
  ⟨ha, h.num.of (o.block _ h.num.lt (by simp; omega)), h.own.apart fun k hk hk2 => o.block k hk2 (by simp; omega), h.only.trans o (fun k hk => by simp at hk ⊢; rcases hk with rfl | rfl <;> omega), Nat.le_trans h.size o.size⟩
theorem Mid.sets {w wr : World} {r c m : Nat} {v : Value} {l ys : List (Nat × Nat)} (h : Mid w wr r c v m l ys) (hr : r < w.heap.size) (m' : Nat) : Mid w (wr.setCell ⟨w.heap.size, 0, none⟩ (.int .i64 (m' : Int))) r c v m' l ys := by
  have hk : ∀ k, k ≠ w.heap.size → (wr.setCell ⟨w.heap.size, 0, none⟩ (.int .i64 (m' : Int))).heap[k]? = wr.heap[k]? := fun k hk => Below.heap_setCell _ _ _ _ hk
  exact ⟨h.at_.of (hk _ (by omega)) (hk _ (by omega)), h.num.set_ 0 _, h.own.apart fun k h1 _ => hk k (by omega), h.only.setCell (.inr (Nat.le_refl _)) _, by rw [show (wr.setCell ⟨w.heap.size, 0, none⟩ (.int .i64 (m' : Int))).heap.size = wr.heap.size by simp [World.setCell]]; exact h.size⟩
/-- in the midst of it: the numbers -/
structure Way (n : Nat) (xs : List (Nat × Nat)) (m : Nat) (l ys : List (Nat × Nat)) : Prop where
  from_ : HFrom ys ys.length 0
  pos : 0 < m
  less : m ≤ n
  room : m ≤ lens ys
  len : l.length + ys.length = xs.length
  inv : ∀ rest, Chosen ys m rest → Chosen xs n (l ++ rest)
theorem Way.step {n m : Nat} {xs l ys ys' : List (Nat × Nat)} (h : Way n xs m l ys) (hlt : (gx ys 0).2 < m) (hp : ys'.Perm (ys.erase (gx ys 0))) (hf : HFrom ys' ys'.length 0) : Way n xs (m - (gx ys 0).2) (l ++ [gx ys 0]) ys' := by
  have hyp : 0 < ys.length := lens_pos (Nat.lt_of_lt_of_le h.pos h.room)
  have ht := h.from_.is_top hyp
  have h1 := lens_erase ht.1
  have h2 := lens_perm hp
  have h3 := hp.length_eq
  have h4 := List.length_erase_of_mem ht.1
  have h5 := h.room
  have h6 := h.len
  have h7 := h.less
  refine ⟨hf, by omega, by omega, by omega, by simp; omega, fun rest hr => ?_⟩
  rw [List.append_assoc]
  exact h.inv _ (.long ht hlt (hr.perm hp))
set_option maxRecDepth 100000 in
set_option maxHeartbeats 8000000 in
theorem choose_any {w : World} {r c n : Nat} {xs : List (Nat × Nat)} (h : ERow w r xs) (hl : xs.length ≤ 65536) (hcl : xs.length ≤ c) (h0 : 0 < n) (hn : n ≤ lens xs) (hn2 : n ≤ 65536) :
    Calls Tryz.prog 122 #[.slice (some ⟨r, 0, none⟩) xs.length c, .int .i64 n] w fun e' w' => ∃ v out, e' = .returned v ∧ OwnE w' w.heap.size v (natE out) ∧ Chosen xs n out ∧ Only [r] w w' := by
  have hrl := h.lt
  have z1 : ((w.alloc (.cells #[.int .i64 (n : Int)] 3))).heap.size = w.heap.size + 1 := World.size_alloc _ _
  have z2 : ((w.alloc (.cells #[.int .i64 (n : Int)] 3)).alloc (.cells #[.slice (some ⟨r, 0, none⟩) xs.length c] 185)).heap.size = w.heap.size + 2 := by rw [World.size_alloc, z1]
  have e1 : ERow ((w.alloc (.cells #[.int .i64 (n : Int)] 3)).alloc (.cells #[.slice (some ⟨r, 0, none⟩) xs.length c] 185)) r xs := h.of ((Below.heap_alloc _ _ _ (by omega)).trans (Below.heap_alloc _ _ _ hrl))
  have hb : Blk ((w.alloc (.cells #[.int .i64 (n : Int)] 3)).alloc (.cells #[.slice (some ⟨r, 0, none⟩) xs.length c] 185)) (w.heap.size + 1) 185 #[.slice (some ⟨r, 0, none⟩) xs.length c] := by
    have := Blk.new (w.alloc (.cells #[.int .i64 (n : Int)] 3)) 185 #[.slice (some ⟨r, 0, none⟩) xs.length c]
    rwa [z1] at this
  have hnb : Blk ((w.alloc (.cells #[.int .i64 (n : Int)] 3)).alloc (.cells #[.slice (some ⟨r, 0, none⟩) xs.length c] 185)) w.heap.size 3 #[.int .i64 (n : Int)] := (Blk.new w _ _).alloc _
  have ho : Below w.heap.size w ((w.alloc (.cells #[.int .i64 (n : Int)] 3)).alloc (.cells #[.slice (some ⟨r, 0, none⟩) xs.length c] 185)) := ((Below.refl _ _).alloc (Nat.le_refl _) _).alloc (by rw [z1]; omega) _
  have hat : HAt ((w.alloc (.cells #[.int .i64 (n : Int)] 3)).alloc (.cells #[.slice (some ⟨r, 0, none⟩) xs.length c] 185)) (w.heap.size + 1) r c xs := ⟨hb, e1, hcl, hl⟩
  have HI := Lib.hid (init_any hat)
  have HX := Lib.hid (And.intro hnb (And.intro ho z2))
  have hd0 : ((n : Int) == 0) = false := by simp; omega
  clear h z1 z2 e1 hb hnb ho hat
  go_enter Tryz.func122, Tryz.ntmps122
  go_wp2_with fail
  refine HI.out.mono ?_
  rintro e1 w1 ⟨rfl, ys1, ha1, hp1, hf1, ho1⟩
  have hnb1 := HX.out.1.of (ho1.block _ HX.out.1.lt (by simp; omega))
  have hw1 : Only [r] w w1 := (Only.of_below HX.out.2.1 [r]).trans ho1 (fun k hk => by simp at hk ⊢; rcases hk with rfl | rfl <;> omega)
  have HS := Lib.hid (And.intro ha1 (And.intro hp1 (And.intro hf1 (And.intro hnb1 hw1))))
  clear HI HX ha1 hp1 hf1 ho1 hnb1 hw1
  go_wp2_with fail
  go_loopw [5] (fun v wr => ∃ (m : Nat) (l ys : List (Nat × Nat)), Mid w wr r c v m l ys ∧ Way n xs m l ys) (fun v _ => xs.length + 1 - slLen v)
  case atStart =>
    have hx := HS.out
    exact ⟨n, [], ys1, ⟨hx.1, hx.2.2.2.1, OwnE.nil _ _, hx.2.2.2.2, by have := hx.1.box.lt; omega⟩, ⟨hx.2.2.1, h0, Nat.le_refl _, by rw [lens_perm hx.2.1]; exact hn, by simp [hx.2.1.length_eq], fun rest hr => hr.perm hx.2.1⟩⟩
  case round =>
    obtain ⟨m, l, ys, hm, hy⟩ := hrel
    obtain ⟨wo, hwo⟩ : ∃ wo, wo = wr := ⟨_, rfl⟩
    subst hwo
    have HM := Lib.hid hm
    have HY := Lib.hid hy
    have hlen := hy.len
    have hm0 := hy.pos
    have hmn := hy.less
    have hyp : 0 < ys.length := lens_pos (Nat.lt_of_lt_of_le hy.pos hy.room)
    obtain ⟨A1, cap, rfl, hA1⟩ := hm.own.form
    have hnl : (natE l).length = l.length := by simp [natE]
    rw [hnl] at HM ⊢
    have q0 := hm.num.cell 0
    have q1 := hm.at_.cell
    obtain ⟨c0, c1, -, -⟩ := hm.at_.row.get (gx_some hyp)
    simp only [List.getElem?_toArray, List.getElem?_cons_zero, Nat.zero_mul, Nat.zero_add] at q0 c0 c1
    clear hm hA1 hnl hy HS
    by_cases hlt : (gx ys 0).2 < m
    · have hd : decide (((gx ys 0).2 : Int) < (m : Int)) = true := decide_eq_true (by omega)
      have HMd := Lib.hid HM.out.drew
      have HP := Lib.hid (pop_any HMd.out.at_ HY.out.from_ hyp)
      have hws : IntKind.i64.wrap ((m : Int) - ((gx ys 0).2 : Int)) = ((m - (gx ys 0).2 : Nat) : Int) := by rw [IntKind.wrap_i64]; omega
      clear HM
      go_wp2_with fail
      go_region
      all_goals
        clear q0 q1 c0 c1
        generalize wo.drew = w1 at *
        go_wp2_with fail
        refine HP.out.mono ?_
        rintro e2 w2 ⟨rfl, ys2, ha2, hp2, hf2, ho2⟩
        have HM2 := Lib.hid (HMd.out.heap hrl ho2 ha2)
        have HW := Lib.hid (HY.out.step hlt hp2 hf2)
        have hsz2 := HM2.out.size
        have HM4 := Lib.hid (HM2.out.below (((Below.refl _ _).alloc (Nat.le_refl _) (.cells #[.int .i64 ((gx ys 0).1 : Int), .int .i64 ((gx ys 0).2 : Int)] 81)).alloc (by rw [World.size_alloc]; omega) (.cells (ext1 (((gx ys 0).1 : Int), ((gx ys 0).2 : Int))).toArray 81)))
        have hex := ext_new (w2.alloc (.cells #[.int .i64 ((gx ys 0).1 : Int), .int .i64 ((gx ys 0).2 : Int)] 81)) (((gx ys 0).1 : Int), ((gx ys 0).2 : Int))
        rw [World.size_alloc] at hex
        have hB7 : Blk ((w2.alloc (.cells #[.int .i64 ((gx ys 0).1 : Int), .int .i64 ((gx ys 0).2 : Int)] 81)).alloc (.cells (ext1 (((gx ys 0).1 : Int), ((gx ys 0).2 : Int))).toArray 81)) w2.heap.size 81 #[.int .i64 ((gx ys 0).1 : Int), .int .i64 ((gx ys 0).2 : Int)] := (Blk.new w2 _ _).alloc _
        have hv2 : ∀ k, (Value.slice A1 l.length cap).ownBlock = some k → k < w2.heap.size := fun k hk => (World.ownsRow.lt HM2.out.own k hk).2
        have HE := Lib.hid (And.intro hex (And.intro hB7 hv2))
        have hta : ∀ w, (Instr.typeAssert (.iface 81 (.agg #[.int .i64 ((gx ys 0).1 : Int), .int .i64 ((gx ys 0).2 : Int)])) 20 81 false).run Tryz.prog w = .ok (.agg #[.int .i64 ((gx ys 0).1 : Int), .int .i64 ((gx ys 0).2 : Int)]) w := fun w => by kernel_rfl
        have hbe := build_ext (((gx ys 0).1 : Int), ((gx ys 0).2 : Int))
        clear HP HMd ha2 hp2 hf2 ho2 hex hB7 hv2
        go_wp2_with (refine app_ext (.tmp 23) (.tmp 25) rfl rfl (w.heap.size + 2) (.slice A1 l.length cap) (natE l) rfl HM4.out.own (w2.heap.size + 1 + 1) _ 1 1 [(((gx ys 0).1 : Int), ((gx ys 0).2 : Int))] rfl rfl HE.out.1 (by simp [natE]; omega) (by rw [World.size_alloc, World.size_alloc]; omega) ?_; intro v5 w5 h5 g5 a5; have hm5 : Mid w w5 r c v5 m (l ++ [gx ys 0]) ys2 := HM4.out.grown hrl g5 (by simpa [natE] using h5); have q5 : w5.cell? ⟨w.heap.size, 0, none⟩ = some (.int .i64 (m : Int)) := hm5.num.cell 0; have f5 : w5.frozen? ⟨w.heap.size, 0, none⟩ = false := hm5.num.frozen 0; have b7 : Blk w5 w2.heap.size 81 #[.int .i64 ((gx ys 0).1 : Int), .int .i64 ((gx ys 0).2 : Int)] := HE.out.2.1.of (g5.block _ (by rw [World.size_alloc, World.size_alloc]; omega) (fun e => by have := HE.out.2.2 _ e.symm; omega)); have q7 : w5.cell? ⟨w2.heap.size, 1, none⟩ = some (.int .i64 ((gx ys 0).2 : Int)) := b7.cell 1; have HM5 := Lib.hid hm5; clear hm5 h5 g5 a5 b7)
        obtain ⟨A6, cap6, rfl, -⟩ := HM5.out.own.form
        have HM6 := Lib.hid (HM5.out.sets hrl (m - (gx ys 0).2))
        go_roundw
        case rel => exact ⟨_, _, _, HM6.out, HW.out⟩
        case measure =>
          simp only [slLen, natE, List.length_map, List.length_append, List.length_singleton]
          omega
    · have hd : decide (((gx ys 0).2 : Int) < (m : Int)) = false := decide_eq_false (by omega)
      have HMd := Lib.hid HM.out.drew
      have HSH := Lib.hid (shortest_any (n := m) HMd.out.at_.row HMd.out.at_.lim HMd.out.at_.cap (HMd.out.num.cell 0) HMd.out.num.lt (by omega) ⟨gx ys 0, (HY.out.from_.is_top hyp).1, by omega⟩)
      unfold fitsV at HSH
      have r1 : wo.drew.cell? ⟨w.heap.size + 1, 0, none⟩ = some (.slice (some ⟨r, 0, none⟩) ys.length c) := q1
      clear HM
      go_wp2_with fail
      go_region
      all_goals
        clear q0 q1 c0 c1
        generalize wo.drew = w1 at *
        go_wp2_with fail
        refine HSH.out.mono ?_
        rintro e2 w2 ⟨⟨b, rfl, hfit⟩, ho2⟩
        have hlim := HMd.out.at_.lim
        have ha2 : HAt w1 (w.heap.size + 1) r c ys := HMd.out.at_
        have HB2 := Lib.hid (HMd.out.num.of (ho2.block _ HMd.out.num.lt (by simp; omega)))
        have HO2 := Lib.hid (HMd.out.own.apart (w' := w2) fun k hk hk2 => ho2.block k hk2 (by simp; omega))
        have HW2 := Lib.hid (HMd.out.only.trans ho2 (Fresh.refl _ _))
        have HF := Lib.hid (HY.out.inv _ (.fit hm0 hfit))
        have hsz2 := Nat.le_trans HMd.out.size ho2.size
        have q2 : w2.cell? ⟨w.heap.size, 0, none⟩ = some (.int .i64 (m : Int)) := HB2.out.cell 0
        unfold exV
        have hbe := build_ext ((b.1 : Int), (m : Int))
        have hq2 : ∀ o, (w2.alloc o).cell? ⟨w.heap.size, 0, none⟩ = some (.int .i64 (m : Int)) := fun o => (World.cell?_alloc_lt _ _ _ HB2.out.lt).trans q2
        have hex := ext_new (w2.alloc (.cells #[.int .i64 (b.1 : Int), .int .i64 (b.2 : Int)] 81)) ((b.1 : Int), (m : Int))
        rw [World.size_alloc] at hex
        have ho4 : OwnE ((w2.alloc (.cells #[.int .i64 (b.1 : Int), .int .i64 (b.2 : Int)] 81)).alloc (.cells (ext1 ((b.1 : Int), (m : Int))).toArray 81)) (w.heap.size + 2) (.slice A1 l.length cap) (natE l) := HO2.out.apart fun k _ hk => (Below.heap_alloc _ _ _ (by rw [World.size_alloc]; omega)).trans (Below.heap_alloc _ _ _ hk)
        have hw4 : Only [r] w ((w2.alloc (.cells #[.int .i64 (b.1 : Int), .int .i64 (b.2 : Int)] 81)).alloc (.cells (ext1 ((b.1 : Int), (m : Int))).toArray 81)) := (HW2.out.alloc _).alloc _
        have HE := Lib.hid (And.intro hex (And.intro ho4 hw4))
        clear HMd HSH r1 hfit ho2 ha2 hex ho4 hw4
        go_wp2_with (refine app_ext (.tmp 34) (.tmp 39) rfl rfl (w.heap.size + 2) (.slice A1 l.length cap) (natE l) rfl HE.out.2.1 (w2.heap.size + 1 + 1) _ 1 1 [((b.1 : Int), (m : Int))] rfl rfl HE.out.1 (by simp [natE]; omega) (by rw [World.size_alloc, World.size_alloc]; omega) ?_; intro v5 w5 h5 g5 a5)
        have ho5 : Only [r] w w5 := HE.out.2.2.grown g5 (fun k e => .inr (by have := (World.ownsRow.lt HO2.out k e).1; omega))
        go_ret
        exact ⟨v5, l ++ [(b.1, m)], rfl, OwnE.weaken (base := w.heap.size + 2) (by simpa [natE] using h5) (by omega), HF.out, ho5⟩
end Go.Proofs.YtfbpfgbmlbkffaaGreat

/-
  Blocks are taken. Conditions: a space stands as it is said to.
-/
namespace Go.Proofs.YtfbpfgbmlbkffaaGreat
open Go.RowKit Go.BigFrame
set_option linter.unusedSimpArgs false
set_option linter.unusedVariables false
theorem len_lens {L : List (Nat × Nat)} (h : ∀ e ∈ L, 1 ≤ e.2) : L.length ≤ lens L := by
  induction L with
  | nil => simp
  | cons e L ih =>
    have h1 := h e (List.mem_cons_self ..)
    have h2 := ih (fun q hq => h q (List.mem_cons_of_mem _ hq))
    simp only [lens, List.map_cons, List.sum_cons, List.length_cons] at h2 ⊢
    omega
theorem hol_few (fl : List Bool) : (hol 0 fl).length ≤ cnt fl := by
  rw [← hol_lens fl 0]
  exact len_lens fun e he => (hol_mem fl 0 e.1 e.2 he).2.1
/-- what a call of Take comes to -/
def TakeTo (w : World) (g r c : Nat) (A : Option Addr) (fl : List Bool) (n : Int) (e : Ending) (w' : World) : Prop :=
  Only [g, r] w w' ∧
  ((n < 0 ∧ e = .returned (.tuple #[.slice none 0 0, errV 1]) ∧ SAt w' g r A c fl (cnt fl)) ∨
   ((cnt fl : Int) < n ∧ e = .returned (.tuple #[.slice none 0 0, errV 4]) ∧ SAt w' g r A c fl (cnt fl)) ∨
   (∃ (k : Nat) (v : Value) (out : List (Nat × Nat)), n = (k : Int) ∧ k ≤ cnt fl ∧ e = .returned (.tuple #[v, .nilIface]) ∧ OwnE w' w.heap.size v (natE out) ∧ Chosen (hol 0 fl) k out ∧ SAt w' g r A c (setA fl out false) (cnt (setA fl out false))))
set_option maxRecDepth 100000 in
set_option maxHeartbeats 4000000 in
theorem stake_any {w : World} {g r c : Nat} {A : Option Addr} {fl : List Bool} (n : Int) (h : SAt w g r A c fl (cnt fl)) (hgr : g ≠ r) :
    Calls Tryz.prog 112 #[.pointer (some ⟨g, 0, none⟩), .int .i64 n] w (TakeTo w g r c A fl n) := by
  have HH := Lib.hid h
  have HFR := Lib.hid (sfree_any h.blk)
  have HHO := Lib.hid (sholes_any h)
  have hlim := h.lim
  have hgl := h.blk.lt
  clear h
  by_cases hneg : n < 0
  · have hd : decide (n < 0) = true := decide_eq_true hneg
    go_enter Tryz.func112, Tryz.ntmps112
    go_wp2
    go_ret2
    exact ⟨Only.refl _ _, .inl ⟨hneg, rfl, HH.out⟩⟩
  · have hd : decide (n < 0) = false := decide_eq_false hneg
    by_cases hbig : (cnt fl : Int) < n
    · have hd2 : decide ((cnt fl : Int) < n) = true := decide_eq_true hbig
      go_enter Tryz.func112, Tryz.ntmps112
      go_wp2_with fail
      refine HFR.out.mono ?_
      rintro e w ⟨rfl, rfl⟩
      go_wp2
      go_ret2
      exact ⟨Only.refl _ _, .inr (.inl ⟨hbig, rfl, HH.out⟩)⟩
    · have hd2 : decide ((cnt fl : Int) < n) = false := decide_eq_false hbig
      obtain ⟨k, rfl⟩ : ∃ k : Nat, n = (k : Int) := ⟨n.toNat, by omega⟩
      have hk : k ≤ cnt fl := by omega
      have hcl := cnt_le fl
      have hfew := hol_few fl
      have hll : lens (hol 0 fl) = cnt fl := hol_lens fl 0
      have HL := Lib.hid hll
      clear hll
      go_enter Tryz.func112, Tryz.ntmps112
      go_wp2_with fail
      refine HFR.out.mono ?_
      rintro e w ⟨rfl, rfl⟩
      go_wp2_with fail
      refine HHO.out.mono ?_
      rintro e1 w1 ⟨v1, rfl, ho1, hb1⟩
      have hs1 := HH.out.of (hb1.block g hgl) (fun _ _ hx => hb1.block r hx.lt)
      have HS1 := Lib.hid hs1
      have HB1 := Lib.hid (And.intro ho1 hb1)
      have hcall : Calls Tryz.prog 122 #[v1, .int .i64 k] w1 fun e' w' => ∃ v out, e' = .returned v ∧ OwnE w' w.heap.size v (natE out) ∧ Chosen (hol 0 fl) k out ∧ Below w.heap.size w w' ∧ (k = 0 → v = .slice none 0 0 ∧ out = []) := by
        by_cases hk0 : k = 0
        · subst hk0
          refine (choose_zero v1 w1).mono ?_
          rintro e' w' ⟨rfl, hb⟩
          exact ⟨_, [], rfl, OwnE.nil _ _, .none _, hb1.trans (hb.mono hb1.size), fun _ => ⟨rfl, rfl⟩⟩
        · have hne : hol 0 fl ≠ [] := fun h => by rw [h] at HL; have := HL.out; simp [lens] at this; omega
          obtain ⟨r1, c1, rfl, hr1, hc1, hrow⟩ := erow_of_own ho1 hne
          refine (choose_any hrow (by omega) hc1 (by omega) (by rw [HL.out]; exact hk) (by omega)).mono ?_
          rintro e' w' ⟨v, out, rfl, ho, hch, hon⟩
          exact ⟨v, out, rfl, ho.weaken hb1.size, hch, hb1.trans (hon.below (fun j hj => by simp at hj; omega) (hb1.size)), fun h => absurd h hk0⟩
      have HC := Lib.hid hcall
      clear hcall hs1 ho1 hb1
      go_wp2_with fail
      refine HC.out.mono ?_
      rintro e2 w2 ⟨v, out, rfl, ho, hch, hb, hz⟩
      have hrr : r < w.heap.size ∨ k = 0 := by
        rcases HH.out.row with h2 | ⟨_, cs, h2, _⟩
        · exact .inr (by have h0 : cnt fl = 0 := by rw [h2]; rfl
                         omega)
        · exact .inl h2.lt
      have hs2 : SAt w2 g r A c fl (cnt fl) := HH.out.of (hb.block g hgl) (fun _ _ hx => hb.block r hx.lt)
      obtain ⟨A2, c2, rfl, hA2⟩ := ho.form
      have hok := (hch.ok (hol_sound fl)).1
      have hol : (natE out).length = out.length := by simp [natE]
      have hfw := hch.few.1
      rw [hol] at ho hz ⊢
      have hExt : ExtR w2 w2.heap.size A2 (natE out) := by
        have := ho
        rw [← hol] at this
        exact OwnE.ext this
      have hfar : ∀ ad, A2 = some ad → ad.block ≠ g ∧ ad.block ≠ r := by
        intro ad e
        subst e
        have h1 := (hA2 ad rfl).1
        refine ⟨by omega, ?_⟩
        rcases hrr with h2 | h2
        · omega
        · have := (hz h2).1
          injection this with h3
          cases h3
      have HSE := Lib.hid (sset_any out false hok hs2 hgr A2 c2 hExt (Nat.le_refl _) hfar (by omega))
      have HX := Lib.hid (And.intro ho (And.intro hch hb))
      clear HC hs2 hA2 hok hfw hol hExt hfar ho hch hb HS1 HB1 HHO HFR
      go_wp2_with fail
      refine HSE.out.mono ?_
      rintro e3 w3 ⟨rfl, ho3, hs3⟩
      have hown : OwnE w3 w.heap.size (.slice A2 out.length c2) (natE out) := by
        rcases hrr with h2 | h2
        · exact HX.out.1.apart fun j hj hj2 => ho3.block j hj2 (by simp; omega)
        · obtain ⟨h3, h4⟩ := hz h2
          rw [h3, h4]
          exact OwnE.nil _ _
      have HY := Lib.hid (And.intro hown (And.intro hs3 ((Only.of_below HX.out.2.2 [g, r]).trans ho3 (Fresh.refl _ _))))
      clear HSE ho3 hs3 hown
      go_wp2
      go_ret2
      exact ⟨HY.out.2.2, .inr (.inr ⟨k, _, out, rfl, hk, rfl, HY.out.1, HX.out.2.1, HY.out.2.1⟩)⟩
end Go.Proofs.YtfbpfgbmlbkffaaGreat

/-
  A map whose keys are strings, as a row of pairs that rises by its keys. No condition; nothing of the program is named.
-/
namespace Go.Proofs.YtfbpfgbmlbkffaaGreat
open Go.RowKit Go.ChangeMaps Go.WideElems Go.MapKept
set_option linter.unusedSimpArgs false
set_option linter.unusedVariables false
abbrev Key := List UInt8
abbrev KV := List (Key × Value)
def heldR (v : Value) : Option (DataW Value × List MemPlace) := some (.held v, [])
def encKV (p : Key × Value) : Lit × DataW Value := (.string p.1, .held p.2)
def keyV (k : Key) : Value := .string ⟨k.toArray⟩
def aget (l : KV) (k : Key) : Option Value := (l.find? fun p => p.1 == k).map (·.2)
def ains (x : Key × Value) : KV → KV
  | [] => [x]
  | y :: r => if bytesBefore x.1 y.1 then x :: y :: r else y :: ains x r
def adel (k : Key) (l : KV) : KV := l.filter fun p => !(p.1 == k)
def aput (k : Key) (v : Value) (l : KV) : KV := ains (k, v) (adel k l)
theorem ains_enc (x : Key × Value) : ∀ l : KV, (ains x l).map encKV = DataW.insert (encKV x) (l.map encKV)
  | [] => rfl
  | y :: r => by
    have ih := ains_enc x r
    simp only [ains, List.map_cons, DataW.insert]
    have e : (encKV x).1.before (encKV y).1 = bytesBefore x.1 y.1 := rfl
    rw [e]
    split
    · rfl
    · rw [List.map_cons, ih]
theorem adel_enc (k : Key) (l : KV) : (adel k l).map encKV = delKey (.string k) (l.map encKV) := by
  unfold adel delKey
  rw [List.filter_map]
  rfl
theorem aput_enc (k : Key) (v : Value) (l : KV) : (aput k v l).map encKV = putKey (.string k) (.held v) (l.map encKV) := by
  unfold aput
  rw [ains_enc, adel_enc]
  rfl
theorem aget_enc (l : KV) (k : Key) (zd : DataW Value) : (DataW.map (l.map encKV)).atKey (.string k) zd = match aget l k with | some v => .held v | none => zd := by
  simp only [DataW.atKey, aget]
  induction l with
  | nil => rfl
  | cons p l ih =>
    simp only [List.map_cons, List.find?_cons]
    have e : (encKV p).1.sameKey (.string k) = (p.1 == k) := rfl
    rw [e]
    cases h : p.1 == k
    · exact ih
    · rfl
/-- block b is a map that holds just these pairs -/
def SMap (P : Program) (kt : TypeId) (w : World) (b : Nat) (l : KV) : Prop := ∃ es clock, w.heap[b]? = some (.map es clock) ∧ Go.WideElems.Fit P kt heldR es clock ∧ (es.toList.map (rg P kt heldR)).foldr DataW.insert [] = l.map encKV
section
variable {P : Program} {kt t et : TypeId} {w w' : World} {b : Nat} {l : KV}
theorem SMap.of (h : SMap P kt w b l) (e : w'.heap[b]? = w.heap[b]?) : SMap P kt w' b l := by
  obtain ⟨es, c, h1, h2⟩ := h
  exact ⟨es, c, e.trans h1, h2⟩
theorem SMap.lt (h : SMap P kt w b l) : b < w.heap.size := by
  obtain ⟨es, c, h1, _⟩ := h
  exact (Array.getElem?_eq_some_iff.1 h1).1
theorem SMap.new (w : World) : SMap P kt (w.alloc (.map #[] 0)) w.heap.size [] := ⟨#[], 0, heap_alloc_new w _, ⟨by simp, stamped_empty 0, by simp⟩, rfl⟩
theorem SMap.size (h : SMap P kt w b l) : ∃ es clock, w.heap[b]? = some (.map es clock) ∧ es.size = l.length := by
  obtain ⟨es, c, h1, h2, h3⟩ := h
  refine ⟨es, c, h1, ?_⟩
  have := congrArg List.length h3
  rw [length_sorted] at this
  simpa using this
theorem SMap.ne_blk {t : TypeId} {cs : Array Value} {g' : Nat} (h : SMap P kt w b l) (hb : Blk w g' t cs) : b ≠ g' := by
  rintro rfl
  obtain ⟨es, c, h1, _⟩ := h
  unfold Blk at hb
  rw [hb] at h1
  cases h1
theorem SMap.owns (h : SMap P kt w b l) : w.ownsMap P kt heldR b l.length (.map (l.map encKV)) := by
  obtain ⟨es, c, h1, h2, h3⟩ := h
  refine ⟨es, c, h1, h2, ?_, by rw [h3]⟩
  have := congrArg List.length h3
  rw [length_sorted] at this
  simp at this
  omega
theorem key_of (hk : P.underlying kt = some .string) (k : Key) (hs : k.length ≤ maxLen) : keyOf P kt (keyV k) = some (.string k) := by
  simp [keyOf, mapKey, hk, keyV, hs]
  exact hs
theorem run_lookup_smap (hk : P.underlying kt = some .string) (ht : P.underlying t = some (.map kt et)) {z : Value} (hz : (zeroValue et).run P w = .ok z w) (h : SMap P kt w b l) (k : Key) (hs : k.length ≤ maxLen) :
    (Instr.lookup t (.map (some b)) (keyV k) false).run P w = .ok ((aget l k).getD z) w := by
  obtain ⟨es, c, h1, h2, h3⟩ := h
  have key := key_of hk k hs
  rcases fit_lookup (WideMaps.string_law hk) ht hz h1 h2 key with ⟨hr, ha⟩ | ⟨v, y, hr, hy, ha, _⟩
  · have := ha (.lit (.bool true))
    rw [h3, aget_enc] at this
    cases hg : aget l k with
    | none => simpa using hr
    | some v => rw [hg] at this; cases this
  · have := ha (.lit (.bool true))
    rw [h3, aget_enc] at this
    cases hg : aget l k with
    | none =>
      rw [hg] at this
      simp [heldR] at hy
      rw [← hy] at this
      cases this
    | some u =>
      rw [hg] at this
      simp [heldR] at hy
      rw [← hy] at this
      injection this with this
      subst this
      simpa using hr
theorem run_lookup_ok_smap (hk : P.underlying kt = some .string) (ht : P.underlying t = some (.map kt et)) {z : Value} (hz : (zeroValue et).run P w = .ok z w) (h : SMap P kt w b l) (k : Key) (hs : k.length ≤ maxLen) :
    (Instr.lookup t (.map (some b)) (keyV k) true).run P w = .ok (.tuple #[(aget l k).getD z, .bool (aget l k).isSome]) w := by
  obtain ⟨es, c, h1, h2, h3⟩ := h
  have key := key_of hk k hs
  rcases fit_lookup_ok (WideMaps.string_law hk) ht hz h1 h2 key with ⟨hr, ha⟩ | ⟨v, y, hr, hy, ha, _⟩
  · have := ha (.lit (.bool true))
    rw [h3, aget_enc] at this
    cases hg : aget l k with
    | none => simpa using hr
    | some v => rw [hg] at this; cases this
  · have := ha (.lit (.bool true))
    rw [h3, aget_enc] at this
    cases hg : aget l k with
    | none =>
      rw [hg] at this
      simp [heldR] at hy
      rw [← hy] at this
      cases this
    | some u =>
      rw [hg] at this
      simp [heldR] at hy
      rw [← hy] at this
      injection this with this
      subst this
      simpa using hr
theorem grown_setBlock {w : World} {b : Nat} {es : Array MapEntry} {c : Nat} {o' : Obj} (h : w.heap[b]? = some (.map es c)) : w.grownBy (setBlock w b o') (some b) ∧ (setBlock w b o').heap.size = w.heap.size :=
  ⟨⟨rfl, rfl, rfl, by simp [setBlock], fun i _ hi => heap_setBlock_other h _ (fun e => hi (by rw [e]))⟩, by simp [setBlock]⟩
theorem run_update_smap (hk : P.underlying kt = some .string) (ht : P.underlying t = some (.map kt et)) (h : SMap P kt w b l) (k : Key) (hs : k.length ≤ maxLen) (hroom : l.length < maxLen) (v : Value) :
    ∃ w', (Instr.mapUpdate t (.map (some b)) (keyV k) v).run P w = .ok () w' ∧ SMap P kt w' b (aput k v l) ∧ w.grownBy w' (some b) ∧ w'.heap.size = w.heap.size := by
  obtain ⟨es0, c0, h10, hsz⟩ := h.size
  obtain ⟨es, c, h1, h2, h3⟩ := h
  rw [h1] at h10
  injection h10 with h10
  injection h10 with h10 _
  subst h10
  obtain ⟨es', c', hr, hf, hl, _⟩ := fit_update (R' := heldR) (WideMaps.string_law hk) ht h1 h2 (by omega) (fun _ _ _ h => h) (key_of hk k hs) (val := v) (yv := (.held v, [])) rfl
  obtain ⟨hg, hz⟩ := grown_setBlock (o' := .map es' c') h1
  refine ⟨_, hr, ⟨es', c', heap_setBlock_same h1 _, hf, ?_⟩, hg, hz⟩
  rw [hl, h3, aput_enc]
theorem run_delete_smap {ty : TypeId} (hk : P.underlying kt = some .string) (ht : P.underlying t = some (.map kt et)) (h : SMap P kt w b l) (k : Key) (hs : k.length ≤ maxLen) :
    ∃ w', (Builtin.delete_ #[t, kt] ty #[.map (some b), keyV k]).run P w = .ok (.tuple #[]) w' ∧ SMap P kt w' b (adel k l) ∧ w.grownBy w' (some b) ∧ w'.heap.size = w.heap.size := by
  obtain ⟨es, c, h1, h2, h3⟩ := h
  obtain ⟨es', hr, hf, hl, _⟩ := fit_delete (R' := heldR) (ty := ty) (WideMaps.string_law hk) ht h1 h2 (fun _ _ _ h => h) (key_of hk k hs)
  obtain ⟨hg, hz⟩ := grown_setBlock (o' := .map es' c) h1
  refine ⟨_, hr, ⟨es', c, heap_setBlock_same h1 _, hf, ?_⟩, hg, hz⟩
  rw [hl, h3, adel_enc]
end
end Go.Proofs.YtfbpfgbmlbkffaaGreat

/-
  Objects: how many blocks they have and need, a part of their bytes. Conditions: an object's cells hold what they are said to.
-/
namespace Go.Proofs.YtfbpfgbmlbkffaaGreat
open Go.RowKit Go.BigFrame
set_option linter.unusedSimpArgs false
set_option linter.unusedVariables false
set_option maxRecDepth 100000
theorem lens_snoc {L : List (Nat × Nat)} {q : Nat} (h : q < L.length) : lens (L.take (q + 1)) = lens (L.take q) + (gx L q).2 := by
  rw [List.take_add_one, gx_some h]
  simp [lens]
theorem lens_take_le (L : List (Nat × Nat)) (q : Nat) : lens (L.take q) ≤ lens L := by
  conv => rhs; rw [← List.take_append_drop q L]
  simp only [lens, List.map_append, List.sum_append]
  omega
set_option maxHeartbeats 2000000 in
theorem has_any {w : World} {g B c : Nat} {E : Option Addr} {es : List (Nat × Nat)} (h2 : w.cell? ⟨g, 2, none⟩ = some (.slice E es.length c)) (hE : ExtR w B E (natE es)) (hB : B ≤ w.heap.size) (hl : lens es ≤ 1000000) (hn : es.length ≤ 1000000) :
    Calls Tryz.prog 90 #[.pointer (some ⟨g, 0, none⟩)] w fun e w' => e = .returned (.int .i64 (lens es)) ∧ Below w.heap.size w w' := by
  have HE := Lib.hid hE
  have HN : Hid ((natE es).length = es.length) := Lib.hid (by simp [natE])
  clear hE
  go_enter Tryz.func90, Tryz.ntmps90
  go_wp2
  go_loopw [3, 11] (fun s i wr => ∃ k : Nat, k ≤ es.length ∧ i = .int .i64 k ∧ s = .int .i64 (lens (es.take k)) ∧ Below w.heap.size w wr) (fun _ i _ => es.length - (intS i).toNat)
  case atStart => exact ⟨0, by omega, rfl, by simp [lens], Below.refl _ _⟩
  case round =>
    obtain ⟨k, hk, rfl, rfl, hb⟩ := hrel
    have HB := Lib.hid hb
    by_cases hlt : k < es.length
    · obtain ⟨ad, e, rfl, hab, he, a0, a1⟩ := (HE.out.only (Only.of_below hb []) hB (fun _ _ => by simp)).get (k := k) (by rw [HN.out]; exact hlt)
      have he2 : e = (((gx es k).1 : Int), ((gx es k).2 : Int)) := by
        simp only [natE, List.getElem?_map, gx_some hlt, Option.map_some] at he
        injection he with he
        exact he.symm
      subst he2
      have hs := lens_snoc hlt
      have hle := lens_take_le es (k + 1)
      have hws : IntKind.i64.wrap ((lens (es.take k) : Int) + ((gx es k).2 : Int)) = ((lens (es.take (k + 1)) : Nat) : Int) := by rw [hs, IntKind.wrap_i64]; omega
      have hwk : IntKind.i64.wrap ((k : Int) + 1) = (k : Int) + 1 := by rw [IntKind.wrap_i64]; omega
      have HS := Lib.hid hs
      clear he hb hs
      generalize lens (es.take (k + 1)) = s1 at *
      go_wp2_with (have _h := a0; refine wpList_load_ext rfl (.tmp 13) rfl _ rfl _ a0 a1 ?_; clear _h a0 a1)
      go_roundw
      case rel => exact ⟨k + 1, by omega, by go_num, by rw [lens_snoc hlt, ← HS.out], HB.out.alloc HB.out.size _⟩
      case measure => simp [intS]; omega
    · obtain rfl : k = es.length := by omega
      clear hb
      go_wp2
      go_ret
      rw [List.take_length]
      exact ⟨rfl, HB.out⟩
theorem needs_any {w : World} {g m c : Nat} {D : Option Addr} (h0 : w.cell? ⟨g, 0, none⟩ = some (.slice D m c)) (hm : m ≤ 1000000) :
    Calls Tryz.prog 91 #[.pointer (some ⟨g, 0, none⟩)] w fun e w' => e = .returned (.int .i64 (((m + 15) / 16 : Nat) : Int)) ∧ w = w' := by
  have hw1 : IntKind.i64.wrap ((m : Int) + 16) = (m : Int) + 16 := by rw [IntKind.wrap_i64]; omega
  have hw2 : IntKind.i64.wrap ((m : Int) + 16 - 1) = (m : Int) + 15 := by rw [IntKind.wrap_i64]; omega
  have hw3 : IntKind.i64.wrap (((m : Int) + 15).tdiv 16) = (((m + 15) / 16 : Nat) : Int) := by
    rw [Int.tdiv_eq_ediv_of_nonneg (by omega), IntKind.wrap_i64]
    omega
  go_enter Tryz.func91, Tryz.ntmps91
  go_wp2
  go_ret
  exact ⟨rfl, rfl⟩
end Go.Proofs.YtfbpfgbmlbkffaaGreat

/-
  Bytes with noughts appended: append(b, make([]byte, k)...). Conditions: the row is the call's own; k is at least one.
-/
namespace Go.Proofs.YtfbpfgbmlbkffaaGreat
open Go.RowKit Go.BigFrame
set_option linter.unusedSimpArgs false
set_option linter.unusedVariables false
set_option maxRecDepth 100000
theorem zero_list (k : Nat) : (Builtin.zeroCells (Value.int .u8 0).cells k).toList = List.replicate k (Value.int .u8 0) := by
  apply List.ext_getElem?
  intro j
  by_cases hj : j < k
  · simp [Builtin.zeroCells, Value.cells, hj, Nat.mod_one]
  · simp [Builtin.zeroCells, Value.cells, hj]
theorem zero_arr (k : Nat) : Builtin.zeroCells (Value.int .u8 0).cells k = (List.replicate k (Value.int .u8 0)).toArray := by
  rw [← zero_list]
theorem run_zeros_own {w : World} {base n k : Nat} {v : Value} {xs : List Value} (hown : w.ownsRow base 5 1 v n xs) (h0 : 0 < k) (hn : n + k ≤ 10000000) (hbase : base ≤ w.heap.size) (ty : TypeId) :
    ∃ v' w', (Builtin.append_ #[22, 3] ty #[v, .int .i64 (k : Int)]).run Tryz.prog w = .ok v' w' ∧ w'.ownsRow base 5 1 v' (n + k) (xs ++ List.replicate k (Value.int .u8 0)) ∧ w.grownBy w' v.ownBlock ∧ (v'.ownBlock = v.ownBlock ∨ v'.ownBlock = some w.heap.size) := by
  obtain ⟨i0, hi0, hz0, hz1, hz2⟩ := info_parts byte_info
  have hlen : (xs ++ List.replicate k (Value.int .u8 0)).length = (n + k) * 1 := by rw [List.length_append, hown.1]; simp
  have grown : ∀ (old : Nat), old < n + k → ∀ (row : Option Nat),
      (w.drew.alloc (.cells (xs.toArray ++ Builtin.zeroCells (Value.int .u8 0).cells k ++ Builtin.zeroCells (Value.int .u8 0).cells (grownCap w (n + k) old 5 - (n + k))) 5)).ownsRow base 5 1
        (.slice (some ⟨w.heap.size, 0, none⟩) (n + k) (grownCap w (n + k) old 5)) (n + k) (xs ++ List.replicate k (Value.int .u8 0)) ∧
      w.grownBy (w.drew.alloc (.cells (xs.toArray ++ Builtin.zeroCells (Value.int .u8 0).cells k ++ Builtin.zeroCells (Value.int .u8 0).cells (grownCap w (n + k) old 5 - (n + k))) 5)) row := by
    intro old ho row
    have hge := grownCap_ge w (n + k) old 5
    have hcm : grownCap w (n + k) old 5 ≤ maxLen := grownCap_le_maxLen w (n + k) old 5 (by simp only [maxLen]; omega)
    refine ⟨⟨hlen, .inr ⟨w.heap.size, _, _, rfl, hbase, heap_alloc_new w.drew _, hge, hcm, ?_, ?_⟩⟩, ⟨rfl, rfl, rfl, by simp, fun j hj _ => heap_alloc_old w.drew _ hj⟩⟩
    · simp only [Array.size_append, List.size_toArray, size_zeroCells, hown.1]
      simp [Value.cells]
      omega
    · rw [zero_arr, zero_arr]
      simp only [Array.toList_append, List.append_assoc]
      rw [← List.append_assoc, ← hlen]
      exact List.take_left
  rcases hown.2 with ⟨rfl, rfl⟩ | ⟨g, cap, cur, rfl, hbg, hg, hnc, hcm, hcs, htake⟩
  · have hx : xs = [] := List.eq_nil_of_length_eq_zero (by simpa using hown.1)
    subst hx
    have hr := Lib.run_append_nil_zeros (P := Tryz.prog) w 22 3 ty 5 i0 (.int .u8 0) .i64 .i64 Tryz.underlying22 Tryz.underlying3 hi0 hz0 k h0 (by omega) (by omega) (by rw [hz2]; omega)
    have hgr := grown 0 (by omega) (Value.ownBlock (.slice none 0 0))
    simp only [Nat.zero_add, List.nil_append, Array.empty_append] at hgr ⊢
    exact ⟨_, _, hr, hgr.1, hgr.2, .inr rfl⟩
  · by_cases hroom : n + k ≤ cap
    · have hst := run_storeCells_at Tryz.prog g n 5 (List.replicate k (Value.int .u8 0)) 0 cur w hg (by simp; omega) (fun u hu => by rw [List.eq_of_mem_replicate hu]; rfl)
      simp only [Nat.add_zero] at hst
      have hkk : k ≠ 0 := by omega
      have hw : IntKind.i64.wrap (k : Int) = k := by rw [IntKind.wrap_i64]; omega
      have hneg : ¬ ((k : Int) < 0) := by omega
      have h48i : ¬ (281474976710656 < (k : Int) * (i0.bytes : Int)) := by rw [hz2]; omega
      have hns : ¬ (k * i0.size = 0) := by rw [hz1]; omega
      have hr : (Builtin.append_ #[22, 3] ty #[.slice (some ⟨g, 0, none⟩) n cap, .int .i64 (k : Int)]).run Tryz.prog w = .ok (.slice (some ⟨g, 0, none⟩) (n + k) cap) (w.setRow g (cur.toList.take n ++ List.replicate k (Value.int .u8 0) ++ cur.toList.drop (n + (List.replicate k (Value.int .u8 0)).length)).toArray) := by
        have hz := zero_list k
        simp [Builtin.append_, run_underlying Tryz.underlying22, run_underlying Tryz.underlying3, sizeOf, typeInfo, zeroValue, hi0, hz0, hz1, asInt, asIntOf, hw, hneg, h48i, hkk, hroom, Addr.add_lit] at hst ⊢
        rw [zero_arr]
        simp [hst]
      refine ⟨_, _, hr, ⟨hlen, .inr ⟨g, cap, _, rfl, hbg, setRow_heap w g cur _ 5 _ hg, hroom, hcm, ?_, ?_⟩⟩, ⟨rfl, rfl, rfl, by simp, fun j _ hj => setRow_other w g j _ (fun e => hj (by simp [Value.ownBlock, e]))⟩, .inl rfl⟩
      · simp only [List.size_toArray, List.length_append, List.length_take, List.length_drop, Array.length_toList, List.length_replicate]
        omega
      · have ht : cur.toList.take n = xs := by simpa using htake
        rw [ht, ← hlen]
        exact List.take_left
    · have holds : ∀ j u, xs[j]? = some u → w.cell? ((⟨g, 0, none⟩ : Addr).add j) = some u := hown.cells (g := g) rfl
      have hold := run_firstCells_some (P := Tryz.prog) w.drew i0.size n ⟨g, 0, none⟩ n cap xs (by rw [hz1]; exact hown.1) holds
      have hr := Lib.run_append_grow_zeros (P := Tryz.prog) w 22 3 ty 5 i0 (.int .u8 0) .i64 .i64 Tryz.underlying22 Tryz.underlying3 hi0 hz0 (some ⟨g, 0, none⟩) n cap xs hold k h0 (by omega) (by omega) (by omega) (by rw [hz2]; omega) (growslice_fits (by omega) (by rw [hz2]; omega))
      have hgr := grown cap (by omega) (Value.ownBlock (.slice (some ⟨g, 0, none⟩) n cap))
      exact ⟨_, _, hr, hgr.1, hgr.2, .inr rfl⟩
end Go.Proofs.YtfbpfgbmlbkffaaGreat

/-
  An object gets so many bytes. Conditions: its cells hold what they are said to; its bytes lie in a row of the call's own.
-/
namespace Go.Proofs.YtfbpfgbmlbkffaaGreat
open Go.RowKit Go.BigFrame
set_option linter.unusedSimpArgs false
set_option linter.unusedVariables false
set_option maxRecDepth 100000
def resizeB (bs : List Nat) (n : Nat) : List Nat := bs.take n ++ List.replicate (n - bs.length) 0
theorem resizeB_len (bs : List Nat) (n : Nat) : (resizeB bs n).length = n := by simp [resizeB]; omega
theorem own_len {w : World} {base n m c : Nat} {D : Option Addr} {bs : List Nat} (h : Own w base (.slice D m c) n bs) : m = n ∧ bs.length = n ∧ n ≤ c ∧ (D = none ∨ ∃ b, D = some ⟨b, 0, none⟩) := by
  have hl : bs.length = n := by have := h.1; rw [u8s_length] at this; omega
  rcases h.2 with ⟨e, h0⟩ | ⟨b, cap, cur, e, hb, hh, h1, _⟩
  · injection e with e1 e2 e3
    exact ⟨by omega, hl, by omega, .inl e1⟩
  · injection e with e1 e2 e3
    exact ⟨e2, hl, by omega, .inr ⟨b, e1⟩⟩
theorem own_take {w : World} {base m c n : Nat} {D : Option Addr} {bs : List Nat} (h : Own w base (.slice D m c) m bs) (hn : n ≤ m) : Own w base (.slice D n c) n (bs.take n) := by
  obtain ⟨-, hl, -, -⟩ := own_len h
  rcases h.2 with ⟨e, h0⟩ | ⟨b, cap, cur, e, hb, hh, h1, h2, h3, h4⟩
  · injection e with e1 e2 e3
    subst e1
    have : n = 0 := by omega
    subst this
    have hc : c = 0 := by omega
    subst hc
    exact Own.nil w base
  · injection e with e1 e2 e3
    subst e1 e3
    refine ⟨by rw [u8s_length]; simp; omega, .inr ⟨b, c, cur, rfl, hb, hh, by omega, h2, h3, ?_⟩⟩
    rw [show u8s (bs.take n) = (u8s bs).take n from by simp [u8s, List.map_take], ← h4, List.take_take]
    congr 1
    omega
theorem run_head_bytes (D : Option Addr) (m c n : Nat) (h : n ≤ c) (hD : D = none ∨ ∃ b, D = some ⟨b, 0, none⟩) (w : World) : (Instr.slice 22 (.slice D m c) none (some (.int .i64 (n : Int))) none).run Tryz.prog w = .ok (.slice D n c) w := by
  have hsz : ∀ w, (sizeOf (Tryz.prog.elem 22)).run Tryz.prog w = .ok 1 w := fun w => by kernel_rfl
  rw [run_slice_h w 22 D m c (by kernel_rfl) .i64 (n : Int) (by omega) (by omega), hsz]
  rcases hD with rfl | ⟨b, rfl⟩
  · simp [Result.andThen, sliced]
  · simp [Result.andThen, sliced, Addr.add]
theorem run_storeVar_cell2 {P : Program} (w : World) (g i : Nat) (ty : TypeId) (v : Value) (ht : w.there g i 1) (hi : (P.info? ty).map (·.size) = some 1) (h1 : v.oneCell' = true) :
    (storeVar ty ⟨g, i, none⟩ v).run P w = .ok () (w.setCell ⟨g, i, none⟩ v) := by
  have := run_storeCells_cells (P := P) g i [v] 0 w (fun j hj => by simpa using (ht j (by simpa using hj)).1) (fun j hj => by simpa using (ht j (by simpa using hj)).2) (fun u hu => by simp at hu; subst hu; exact h1)
  have hc : v.cells = #[v] := by cases v <;> first | rfl | cases h1
  cases hq : P.info? ty with
  | none => simp [hq] at hi
  | some i0 =>
    have hs : i0.size = 1 := by simpa [hq] using hi
    simp only [Nat.add_zero] at this
    simp [storeVar, sizeOf, typeInfo, hq, hc, hs, this, World.setCells]
theorem wp_set_blk2 {P : Program} {o : Oper} {a : Act} {w : World} {K : Act → World → Prop} {Q : Exit → Act → World → Prop} (ty : TypeId) (x y : Operand) (ho : o.op = .store ty x y)
    (g i : Nat) (t : TypeId) (cs : Array Value) (v : Value) (hx : a.eval x = .pointer (some ⟨g, i, none⟩)) (hy : a.eval y = v) (hB : Blk w g t cs) (hs : i < cs.size) (hi : (P.info? ty).map (·.size) = some 1) (h1 : v.oneCell' = true)
    (h : K (a.put o.dst undef) (w.setCell ⟨g, i, none⟩ v)) : o.wp P a w K Q := by
  unfold Oper.wp execOp
  simp only [ho, hx, hy, Instr.storeAt, Instr.sureAddr, Sem.run_bind, Sem.run_pure, Result.andThen_ok, run_storeVar_cell2 w g i ty v (hB.there (by omega)) hi h1]
  exact h
/-- what resize comes to -/
def ResizeTo (w : World) (g : Nat) (t : TypeId) (cs : Array Value) (D : Option Addr) (m c base : Nat) (bs : List Nat) (n : Nat) (e : Ending) (w' : World) : Prop :=
  e = .returned (.tuple #[]) ∧ ∃ D' c', Blk w' g t (cs.setIfInBounds 0 (.slice D' n c')) ∧ Own w' base (.slice D' n c') n (resizeB bs n) ∧ Only (g :: rowOf (.slice D m c)) w w' ∧ (D' = D ∨ ∃ b, D' = some ⟨b, 0, none⟩ ∧ w.heap.size ≤ b)
set_option maxHeartbeats 4000000 in
theorem resize_any {w : World} {g base m c n : Nat} {t : TypeId} {cs : Array Value} {D : Option Addr} {bs : List Nat} (hb : Blk w g t cs) (ht : t ≠ 5) (h0 : cs[0]? = some (.slice D m c)) (ho : Own w base (.slice D m c) m bs) (hbase : base ≤ w.heap.size) (hn : n ≤ 1000000) (hm : m ≤ 1000000) :
    Calls Tryz.prog 108 #[.pointer (some ⟨g, 0, none⟩), .int .i64 (n : Int)] w (ResizeTo w g t cs D m c base bs n) := by
  obtain ⟨-, hl, hmc, hD⟩ := own_len ho
  have q0 : w.cell? ⟨g, 0, none⟩ = some (.slice D m c) := by rw [hb.cell]; exact h0
  have f0 : w.frozen? ⟨g, 0, none⟩ = false := hb.frozen 0
  have HB := Lib.hid hb
  have HO := Lib.hid ho
  have hs0 : cs.size ≠ 0 := fun e => by rw [Array.getElem?_eq_none (by omega)] at h0; cases h0
  have HR : Hid (∀ b, (Value.slice D m c).ownBlock = some b → b ≠ g) := Lib.hid fun b hk => by
    rcases ho.2 with ⟨e, _⟩ | ⟨b', cap, cur, e, _, hh, _⟩
    · rw [e] at hk; simp [Value.ownBlock] at hk
    · rw [e] at hk
      simp [Value.ownBlock] at hk
      subst hk
      intro e'
      subst e'
      exact hb.ne_ (show Blk w b' 5 cur from hh) ht rfl
  by_cases hle : n ≤ m
  · have hd : decide ((m : Int) < (n : Int)) = false := decide_eq_false (by omega)
    have hd' : decide (m < n) = false := decide_eq_false (by omega)
    have hsl := run_head_bytes D m c n (by omega) hD
    have hfin : ResizeTo w g t cs D m c base bs n (.returned (.tuple #[])) (w.setCell ⟨g, 0, none⟩ (.slice D n c)) := by
      refine ⟨rfl, D, c, HB.out.set_ 0 _, ?_, (Only.refl _ _).setCell (.inl (by simp)) _, .inl rfl⟩
      have h1 := own_take HO.out hle
      have h2 : resizeB bs n = bs.take n := by simp [resizeB, show n - bs.length = 0 by omega]
      rw [h2]
      exact row_of h1 fun k hk => Below.heap_setCell _ _ _ _ (HR.out k (by have := mem_rowOf.1 hk; cases D <;> simp [Value.ownBlock] at this ⊢ <;> exact this))
    have HFIN := Lib.hid hfin
    clear hb ho h0 hfin
    go_enter Tryz.func108, Tryz.ntmps108
    go_wp2
    refine bodyPost_end (results_none rfl _ _ _) rfl ?_
    exact HFIN.out
  · have hd : decide ((m : Int) < (n : Int)) = true := decide_eq_true (by omega)
    have hd' : decide (m < n) = true := decide_eq_true (by omega)
    have hwd : IntKind.i64.wrap ((n : Int) - (m : Int)) = ((n - m : Nat) : Int) := by rw [IntKind.wrap_i64]; omega
    obtain ⟨v', w1, hrun, hown1, hg1, hv1⟩ := run_zeros_own (w := w.drew) (k := n - m) HO.out (by omega) (by omega) hbase 22
    rw [show m + (n - m) = n by omega] at hown1
    have hz : u8s bs ++ List.replicate (n - m) (Value.int .u8 0) = u8s (resizeB bs n) := by
      simp [resizeB, u8s, u8, hl, List.take_of_length_le (show bs.length ≤ n by omega)]
    rw [hz] at hown1
    have hb1 : Blk w1 g t cs := HB.out.drew.grown hg1 (fun e => HR.out g e.symm rfl)
    have hO1 : Own w1 base v' n (resizeB bs n) := hown1
    obtain ⟨D1, c1, rfl⟩ : ∃ D1 c1, v' = .slice D1 n c1 := by
      rcases hown1.2 with ⟨e, e0⟩ | ⟨b', cap, cur, e, _⟩
      · exact ⟨none, 0, by rw [e, e0]⟩
      · exact ⟨_, cap, e⟩
    obtain ⟨-, -, hnc1, hD1⟩ := own_len hO1
    have hsl := run_head_bytes D1 n c1 n hnc1 hD1
    have hon : Only (g :: rowOf (.slice D m c)) w w1 := by
      refine (show Only (g :: rowOf (.slice D m c)) w w.drew from ⟨rfl, rfl, rfl, Nat.le_refl _, fun _ _ _ => rfl⟩).grown hg1 (fun j hj => .inl (by simp [mem_rowOf, hj]))
    have hne1 : ∀ b, (Value.slice D1 n c1).ownBlock = some b → b ≠ g := fun b hk => by
      rcases hv1 with e | e
      · exact HR.out b (e ▸ hk)
      · rw [hk] at e
        injection e with e
        have := HB.out.lt
        have e2 : b = w.heap.size := e
        omega
    have hfin : ResizeTo w g t cs D m c base bs n (.returned (.tuple #[])) ((w1.setCell ⟨g, 0, none⟩ (.slice D1 n c1)).setCell ⟨g, 0, none⟩ (.slice D1 n c1)) := by
      have hb2 := (hb1.set_ 0 (.slice D1 n c1)).set_ 0 (.slice D1 n c1)
      refine ⟨rfl, D1, c1, ?_, ?_, (hon.setCell (.inl (by simp)) _).setCell (.inl (by simp)) _, ?_⟩
      · simpa using hb2
      · exact row_of (row_of hO1 fun k hk => Below.heap_setCell _ _ _ _ (hne1 k (mem_rowOf.1 hk))) fun k hk => Below.heap_setCell _ _ _ _ (hne1 k (mem_rowOf.1 hk))
      · rcases hv1 with e | e
        · rcases hD1 with rfl | ⟨b, rfl⟩
          · rcases hD with rfl | ⟨b2, rfl⟩
            · exact .inl rfl
            · simp [Value.ownBlock] at e
          · rcases hD with rfl | ⟨b2, rfl⟩
            · simp [Value.ownBlock] at e
            · simp [Value.ownBlock] at e
              exact .inl (by rw [e])
        · rcases hD1 with rfl | ⟨b, rfl⟩
          · simp [Value.ownBlock] at e
          · simp [Value.ownBlock] at e
            exact .inr ⟨b, rfl, by omega⟩
    have HFIN := Lib.hid hfin
    have HB1 := Lib.hid hb1
    have HRUN := Lib.hid hrun
    have hS : (Blk w.drew g t cs) := HB.out.drew
    have HC0 : Hid (∀ w', Blk w' g t cs → w'.cell? ⟨g, 0, none⟩ = some (.slice D m c)) := Lib.hid fun w' h => by rw [h.cell]; exact h0
    clear hb ho hfin hb1 hrun hown1 hg1 hO1 hon hne1 hv1 hz
    go_enter Tryz.func108, Tryz.ntmps108
    go_upto_region 1 with (fail)
    refine any_beginL (fun w' => Blk w' g t cs) 15 (by kernel_rfl) ?_
    refine L_take (i := 0) (v := .pointer (some ⟨g, 0, none⟩)) rfl rfl (by kernel_rfl) (by kernel_rfl) (by kernel_rfl) (by kernel_rfl) (fun _ _ _ h => h) (Or.inl ⟨by rfl, fun w hw => by kernel_rfl⟩) hS ?_
    simp only [Act.put, List.getElem_toArray, List.getElem_cons_succ, List.getElem_cons_zero, List.setIfInBounds_toArray, List.set_cons_zero, List.set_cons_succ]
    refine L_take (i := 1) (v := .pointer (some ⟨g, 0, none⟩)) rfl rfl (by kernel_rfl) (by kernel_rfl) (by kernel_rfl) (by kernel_rfl) (fun _ _ _ h => h) (Or.inl ⟨by rfl, fun w hw => by kernel_rfl⟩) hS ?_
    simp only [Act.put, List.getElem_toArray, List.getElem_cons_succ, List.getElem_cons_zero, List.setIfInBounds_toArray, List.set_cons_zero, List.set_cons_succ]
    refine L_take (i := 2) (v := .pointer (some ⟨g, 0, none⟩)) rfl rfl (by kernel_rfl) (by kernel_rfl) (by kernel_rfl) (by kernel_rfl) (fun _ _ _ h => h) (Or.inl ⟨by rfl, fun w hw => by go_simp⟩) hS ?_
    simp only [Act.put, List.getElem_toArray, List.getElem_cons_succ, List.getElem_cons_zero, List.setIfInBounds_toArray, List.set_cons_zero, List.set_cons_succ]
    refine L_take (i := 3) (v := .pointer (some ⟨g, 0, none⟩)) rfl rfl (by kernel_rfl) (by kernel_rfl) (by kernel_rfl) (by kernel_rfl) (fun _ _ _ h => h) (Or.inl ⟨by rfl, fun w hw => by kernel_rfl⟩) hS ?_
    simp only [Act.put, List.getElem_toArray, List.getElem_cons_succ, List.getElem_cons_zero, List.setIfInBounds_toArray, List.set_cons_zero, List.set_cons_succ]
    refine L_take (i := 4) (v := .slice D m c) rfl rfl (by kernel_rfl) (by kernel_rfl) (by kernel_rfl) (by kernel_rfl) (fun _ _ _ h => h) (Or.inl ⟨by rfl, fun w hw => by have q := HC0.out w hw; go_simp⟩) hS ?_
    simp only [Act.put, List.getElem_toArray, List.getElem_cons_succ, List.getElem_cons_zero, List.setIfInBounds_toArray, List.set_cons_zero, List.set_cons_succ]
    refine L_take (i := 5) (v := .int .i64 (n : Int)) rfl rfl (by kernel_rfl) (by kernel_rfl) (by kernel_rfl) (by kernel_rfl) (fun _ _ _ h => h) (Or.inl ⟨by rfl, fun w hw => by kernel_rfl⟩) hS ?_
    simp only [Act.put, List.getElem_toArray, List.getElem_cons_succ, List.getElem_cons_zero, List.setIfInBounds_toArray, List.set_cons_zero, List.set_cons_succ]
    refine L_take (i := 6) (v := .pointer (some ⟨g, 0, none⟩)) rfl rfl (by kernel_rfl) (by kernel_rfl) (by kernel_rfl) (by kernel_rfl) (fun _ _ _ h => h) (Or.inl ⟨by rfl, fun w hw => by kernel_rfl⟩) hS ?_
    simp only [Act.put, List.getElem_toArray, List.getElem_cons_succ, List.getElem_cons_zero, List.setIfInBounds_toArray, List.set_cons_zero, List.set_cons_succ]
    refine L_take (i := 7) (v := .pointer (some ⟨g, 0, none⟩)) rfl rfl (by kernel_rfl) (by kernel_rfl) (by kernel_rfl) (by kernel_rfl) (fun _ _ _ h => h) (Or.inl ⟨by rfl, fun w hw => by go_simp⟩) hS ?_
    simp only [Act.put, List.getElem_toArray, List.getElem_cons_succ, List.getElem_cons_zero, List.setIfInBounds_toArray, List.set_cons_zero, List.set_cons_succ]
    refine L_take (i := 8) (v := .pointer (some ⟨g, 0, none⟩)) rfl rfl (by kernel_rfl) (by kernel_rfl) (by kernel_rfl) (by kernel_rfl) (fun _ _ _ h => h) (Or.inl ⟨by rfl, fun w hw => by kernel_rfl⟩) hS ?_
    simp only [Act.put, List.getElem_toArray, List.getElem_cons_succ, List.getElem_cons_zero, List.setIfInBounds_toArray, List.set_cons_zero, List.set_cons_succ]
    refine L_take (i := 9) (v := .slice D m c) rfl rfl (by kernel_rfl) (by kernel_rfl) (by kernel_rfl) (by kernel_rfl) (fun _ _ _ h => h) (Or.inl ⟨by rfl, fun w hw => by have q := HC0.out w hw; go_simp⟩) hS ?_
    simp only [Act.put, List.getElem_toArray, List.getElem_cons_succ, List.getElem_cons_zero, List.setIfInBounds_toArray, List.set_cons_zero, List.set_cons_succ]
    refine L_take (i := 10) (v := .int .i64 (m : Int)) rfl rfl (by kernel_rfl) (by kernel_rfl) (by kernel_rfl) (by kernel_rfl) (fun _ _ _ h => h) (Or.inl ⟨by rfl, fun w hw => by go_simp⟩) hS ?_
    simp only [Act.put, List.getElem_toArray, List.getElem_cons_succ, List.getElem_cons_zero, List.setIfInBounds_toArray, List.set_cons_zero, List.set_cons_succ]
    refine L_take (i := 11) (v := .int .i64 ((n - m : Nat) : Int)) rfl rfl (by kernel_rfl) (by kernel_rfl) (by kernel_rfl) (by kernel_rfl) (fun _ _ _ h => h) (Or.inl ⟨by rfl, fun w hw => by go_simp⟩) hS ?_
    simp only [Act.put, List.getElem_toArray, List.getElem_cons_succ, List.getElem_cons_zero, List.setIfInBounds_toArray, List.set_cons_zero, List.set_cons_succ]
    refine L_one (j := 12) (by kernel_rfl) rfl (by rfl) ?_
    simp only [Act.put, List.getElem_toArray, List.getElem_cons_succ, List.getElem_cons_zero, List.setIfInBounds_toArray, List.set_cons_zero, List.set_cons_succ]
    refine Lib.wp_append_run w.drew (.tmp 15) (.tmp 22) 22 3 rfl (.slice D m c) (.int .i64 ((n - m : Nat) : Int)) rfl rfl (.slice D1 n c1) w1 HRUN.out ?_
    refine ⟨HB1.out, ?_⟩
    simp only [Act.put, List.getElem_toArray, List.getElem_cons_succ, List.getElem_cons_zero, List.setIfInBounds_toArray, List.set_cons_zero, List.set_cons_succ]
    refine L_one (j := 13) (by kernel_rfl) rfl (by rfl) ?_
    simp only [Act.put, List.getElem_toArray, List.getElem_cons_succ, List.getElem_cons_zero, List.setIfInBounds_toArray, List.set_cons_zero, List.set_cons_succ]
    refine wp_ran (v := .pointer (some ⟨g, 0, none⟩)) (w' := w1) (by go_simp) ⟨HB1.out, ?_⟩
    simp only [Act.put, List.getElem_toArray, List.getElem_cons_succ, List.getElem_cons_zero, List.setIfInBounds_toArray, List.set_cons_zero, List.set_cons_succ]
    refine L_one (j := 14) (by kernel_rfl) rfl (by rfl) ?_
    simp only [Act.put, List.getElem_toArray, List.getElem_cons_succ, List.getElem_cons_zero, List.setIfInBounds_toArray, List.set_cons_zero, List.set_cons_succ]
    refine wp_ran (v := .pointer (some ⟨g, 0, none⟩)) (w' := w1) (by kernel_rfl) ⟨HB1.out, ?_⟩
    simp only [Act.put, List.getElem_toArray, List.getElem_cons_succ, List.getElem_cons_zero, List.setIfInBounds_toArray, List.set_cons_zero, List.set_cons_succ]
    refine L_last (by kernel_rfl) rfl (by rfl) (by kernel_rfl) ?_
    simp only [Act.put, List.getElem_toArray, List.getElem_cons_succ, List.getElem_cons_zero, List.setIfInBounds_toArray, List.set_cons_zero, List.set_cons_succ]
    refine wp_set_blk2 22 (.tmp 25) (.tmp 23) (by rfl) g 0 t cs (.slice D1 n c1) (by rfl) (by rfl) HB1.out (by omega) (by kernel_rfl) rfl ?_
    refine NoPanic.normal ?_
    have q1 : (w1.setCell ⟨g, 0, none⟩ (.slice D1 n c1)).cell? ⟨g, 0, none⟩ = some (.slice D1 n c1) := by
      rw [(HB1.out.set_ 0 _).cell, Array.getElem?_setIfInBounds_self_of_lt (by omega)]
    have f1 : (w1.setCell ⟨g, 0, none⟩ (.slice D1 n c1)).frozen? ⟨g, 0, none⟩ = false := (HB1.out.set_ 0 _).frozen 0
    have HW := Lib.hid (show ∃ W, W = w1.setCell ⟨g, 0, none⟩ (.slice D1 n c1) from ⟨_, rfl⟩)
    generalize w1.setCell ⟨g, 0, none⟩ (.slice D1 n c1) = W at *
    go_wp2
    refine bodyPost_end (results_none rfl _ _ _) rfl ?_
    exact HFIN.out
end Go.Proofs.YtfbpfgbmlbkffaaGreat

/-
  A part of an object's bytes. Conditions: its cells hold what they are said to.
-/
namespace Go.Proofs.YtfbpfgbmlbkffaaGreat
open Go.RowKit Go.BigFrame
set_option linter.unusedSimpArgs false
set_option linter.unusedVariables false
set_option maxRecDepth 100000
theorem run_cut_bytes (A : Option Addr) (m c k : Nat) (hk : k ≤ m) (w : World) : (Instr.slice 22 (.slice A m c) (some (.int .i64 k)) none none).run Tryz.prog w = .ok (.slice (if c = k then A else A.map (·.add (k * 1))) (m - k) (c - k)) w := by
  have hsz : ∀ w, (sizeOf (Tryz.prog.elem 22)).run Tryz.prog w = .ok 1 w := fun w => by kernel_rfl
  rw [run_slice_l w 22 A m c (by kernel_rfl) .i64 k (by omega) (by omega), hsz]
  simp only [Result.andThen, sliced, Int.toNat_natCast]
theorem run_head_any (A : Option Addr) (m c n : Nat) (h : n ≤ c) (w : World) : (Instr.slice 22 (.slice A m c) none (some (.int .i64 (n : Int))) none).run Tryz.prog w = .ok (.slice (if c = 0 then A else A.map (·.add 0)) n c) w := by
  have hsz : ∀ w, (sizeOf (Tryz.prog.elem 22)).run Tryz.prog w = .ok 1 w := fun w => by kernel_rfl
  rw [run_slice_h w 22 A m c (by kernel_rfl) .i64 (n : Int) (by omega) (by omega), hsz]
  simp [Result.andThen, sliced]
/-- where a part begins -/
def partA (m at_ : Nat) : Nat := min at_ m
def partK (m at_ n : Nat) : Nat := min n (m - min at_ m)
def partV (D : Option Addr) (m c at_ n : Nat) : Value :=
  .slice (if c - partA m at_ = 0 then (if c = partA m at_ then D else D.map (·.add (partA m at_ * 1))) else (if c = partA m at_ then D else D.map (·.add (partA m at_ * 1))).map (·.add 0)) (partK m at_ n) (c - partA m at_)
set_option maxHeartbeats 4000000 in
theorem part_any {w : World} {g m c : Nat} {D : Option Addr} (h0 : w.cell? ⟨g, 0, none⟩ = some (.slice D m c)) (hmc : m ≤ c) (hm : m ≤ 1000000) (at_ n : Nat) (ha : at_ ≤ 9223372036854775807) (hn : n ≤ 9223372036854775807) :
    Calls Tryz.prog 107 #[.pointer (some ⟨g, 0, none⟩), .int .i64 (at_ : Int), .int .i64 (n : Int)] w fun e w' => e = .returned (partV D m c at_ n) ∧ Below w.heap.size w w' := by
  have key : ∀ (a k : Nat), a = partA m at_ → k = partK m at_ n → a ≤ m → k ≤ m - a → ∃ A1 A2 : Option Addr, partV D m c at_ n = .slice A2 k (c - a) ∧ (∀ w : World, (Instr.slice 22 (.slice D m c) (some (.int .i64 (a : Int))) none none).run Tryz.prog w = .ok (.slice A1 (m - a) (c - a)) w) ∧
      ∀ (w : World), (Instr.slice 22 (.slice A1 (m - a) (c - a)) none (some (.int .i64 (k : Int))) none).run Tryz.prog w = .ok (.slice A2 k (c - a)) w := fun a k ea ek h1 h2 => ⟨_, _, by unfold partV; rw [← ea, ← ek], fun w => run_cut_bytes D m c a h1 w, fun w => by
        rw [run_head_any _ (m - a) (c - a) k (by omega) w]⟩
  by_cases h1 : at_ ≤ m
  · have hc1 : decide ((at_ : Int) ≤ (m : Int)) = true := decide_eq_true (by omega)
    by_cases h2 : n ≤ m - at_
    · obtain ⟨A1, A2, hv, k1, k2⟩ := key at_ n (by unfold partA; omega) (by unfold partK; omega) h1 h2
      rw [hv]
      have hc2 : decide ((n : Int) ≤ ((m - at_ : Nat) : Int)) = true := decide_eq_true (by omega)
      have hlt : n ≤ 1000000 := by omega
      clear key hv
      go_enter Tryz.func107, Tryz.ntmps107
      go_wp2
      go_quiet (fail)
      go_wp2
      go_ret
      exact ⟨rfl, drawn_below (Below.refl _ _) _⟩
    · obtain ⟨A1, A2, hv, k1, k2⟩ := key at_ (m - at_) (by unfold partA; omega) (by unfold partK; omega) h1 (Nat.le_refl _)
      rw [hv]
      have hc2 : decide ((n : Int) ≤ ((m - at_ : Nat) : Int)) = false := decide_eq_false (by omega)
      have hlt : at_ ≤ 1000000 := by omega
      clear key hv
      go_enter Tryz.func107, Tryz.ntmps107
      go_wp2
      go_quiet (fail)
      go_wp2
      go_ret
      exact ⟨rfl, drawn_below (Below.refl _ _) _⟩
  · have hc1 : decide ((at_ : Int) ≤ (m : Int)) = false := decide_eq_false (by omega)
    have hmm : m - m = 0 := by omega
    by_cases h2 : n = 0
    · subst h2
      obtain ⟨A1, A2, hv, k1, k2⟩ := key m 0 (by unfold partA; omega) (by unfold partK; omega) (Nat.le_refl _) (Nat.zero_le _)
      rw [hv]
      rw [hmm] at k1 k2
      have k3 : ∀ w : World, (Instr.slice 22 (.slice A1 0 (c - m)) none (some (.int .i64 0)) none).run Tryz.prog w = .ok (.slice A2 0 (c - m)) w := k2
      have hz : (0 : Int) ≤ 0 := by omega
      clear key hv
      go_enter Tryz.func107, Tryz.ntmps107
      go_wp2
      go_quiet (fail)
      go_wp2
      go_ret
      exact ⟨rfl, drawn_below (Below.refl _ _) _⟩
    · have hpos : 0 < n := by omega
      obtain ⟨A1, A2, hv, k1, k2⟩ := key m 0 (by unfold partA; omega) (by unfold partK; omega) (Nat.le_refl _) (Nat.zero_le _)
      rw [hv]
      rw [hmm] at k1 k2
      have k3 : ∀ w : World, (Instr.slice 22 (.slice A1 0 (c - m)) none (some (.int .i64 0)) none).run Tryz.prog w = .ok (.slice A2 0 (c - m)) w := k2
      have hc2 : decide ((n : Int) ≤ 0) = false := decide_eq_false (by omega)
      clear key hv
      go_enter Tryz.func107, Tryz.ntmps107
      go_wp2
      go_quiet (fail)
      go_wp2
      go_ret
      exact ⟨rfl, drawn_below (Below.refl _ _) _⟩
end Go.Proofs.YtfbpfgbmlbkffaaGreat
