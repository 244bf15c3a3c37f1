/-
  What Open returns. Conditions: the package's table holds its sixteen numbers.
-/
import Derived.Test.YtgdkpmgfholnkaaDoorBoxS
namespace Go.Proofs.YtgdkpmgfholnkaaDoor
open Go.RowKit
set_option linter.unusedSimpArgs false
set_option linter.unusedVariables false
theorem wpList_wanted {P : Program} {ops : Array Oper} {rest : List Oper} {o : Oper} {a : Act} {w : World} {Q : Exit → Act → World → Prop} (hw : Region.wanted o (yielded ops a.tmps) = true)
    (h : ∀ K : Act → World → Prop, (∀ a w, wpList P ops Q rest a w → K a w) → o.wp P a w K Q) : wpList P ops Q (o :: rest) a w :=
  wpList_step fun K hK => by rw [if_pos hw]; exact h K hK
theorem wpListG_load_mid {P : Program} {ops : Array Oper} {rest : List Oper} {op : Oper} {a : Act} {w : World} {Q : Exit → Act → World → Prop} (hw : Region.wanted op (yielded ops a.tmps) = true) (ty : TypeId) (x : Operand) (ho : op.op = .load ty x)
    (b o : Nat) (hx : a.eval x = .pointer (some ⟨b, o, none⟩)) (cs : List Value) (d : TypeDesc) (hc : w.rangeAt b o cs) (hu : P.underlying ty = some d) (hd : d.isRow = true) (hi : (P.info? ty).map (·.size) = some cs.length)
    (h : wpList P ops Q rest (a.put op.dst (.agg cs.toArray)) w) : wpList P ops Q (op :: rest) a w :=
  wpList_wanted hw fun _ hK => wp_load_mid ty x ho b o hx cs d hc hu hd hi (hK _ _ h)
theorem wpListG_sec_neq {ops : Array Oper} {rest : List Oper} {op : Oper} {a : Act} {w : World} {Q : Exit → Act → World → Prop} (hw : Region.wanted op (yielded ops a.tmps) = true) (x y : Operand) (ho : op.op = .binOp .neq 33 x y 33)
    (s t : Sec) (hx : a.eval x = .agg s.cs.toArray) (hy : a.eval y = .agg t.cs.toArray) (r : Bool) (hr : secEq s t = !r)
    (h : wpList Tryd.prog ops Q rest (a.put op.dst (.bool r)) w) : wpList Tryd.prog ops Q (op :: rest) a w :=
  wpList_wanted hw fun _ hK => by
    refine wp_ran (v := .bool r) (w' := w) ?_ (hK _ _ h)
    have := run_sec_neq s t w
    rw [hr, Bool.not_not] at this
    simp [execOp, ho, hx, hy, this, run_sec_guard, Result.andThen]
theorem box_build (w : World) : (Instr.build 38 #[]).run Tryd.prog w = .ok (.agg #[.int .i64 0, .int .i64 0, .int .i64 0, .slice none 0 0]) w := by kernel_rfl
theorem boxCs_one (k g n : Int) (A : Option Addr) (m c : Nat) : ∀ u ∈ boxCs k g n (.slice A m c), u.oneCell' = true := by
  intro u hu
  simp only [boxCs, List.mem_cons, List.not_mem_nil, or_false] at hu
  rcases hu with rfl | rfl | rfl | rfl <;> rfl
theorem box_results2 {fn : Func} {p u : Tmp} (h : fn.results = #[.cell p 38, .tmp u]) (tmps : Array Value) (w : World) (g : Nat) (cs : List Value) (v : Value) (hl : cs.length = 4) (hp : tmps.getD p undef = .pointer (some ⟨g, 0, none⟩)) (hv : tmps.getD u undef = v) (hg : Blk w g 38 cs.toArray) :
    (results fn tmps).run Tryd.prog w = .ok (.tuple #[.agg cs.toArray, v]) w := by
  rw [results_cell_tmp h, hp, hv]
  have := run_loadVar_row (P := Tryd.prog) w g 38 38 cs.toArray (0, 0) _ hg Tryd.underlying38 rfl (by rw [List.size_toArray, hl]; exact box_size)
  simp [asAddr, this, Result.andThen]
/-- what Open has come to behind told: the sector, the answer, the box that was told -/
theorem open_start (s : Sec) (w w3 : World) (v : Value) (b3 : Below (((w.alloc (.cells s.cs.toArray 33)).alloc (.cells #[.int .i64 0, .int .i64 0, .int .i64 0, .slice none 0 0] 38))).heap.size ((w.alloc (.cells s.cs.toArray 33)).alloc (.cells #[.int .i64 0, .int .i64 0, .int .i64 0, .slice none 0 0] 38)) w3) (bc : List Value) :
    Blk (w3.alloc (.cells bc.toArray 38)) w.heap.size 33 s.cs.toArray ∧ Blk (w3.alloc (.cells bc.toArray 38)) (w.heap.size + 1) 38 #[.int .i64 0, .int .i64 0, .int .i64 0, .slice none 0 0] ∧
    Blk (w3.alloc (.cells bc.toArray 38)) w3.heap.size 38 bc.toArray ∧ Below w.heap.size w (w3.alloc (.cells bc.toArray 38)) ∧ w.heap.size + 1 < w3.heap.size := by
  have K0 := (Blk.new w 33 s.cs.toArray).alloc (.cells #[.int .i64 0, .int .i64 0, .int .i64 0, .slice none 0 0] 38)
  have K1 := Blk.new (w.alloc (.cells s.cs.toArray 33)) 38 #[.int .i64 0, .int .i64 0, .int .i64 0, .slice none 0 0]
  rw [World.size_alloc] at K1
  have hs := b3.size
  have hb : Below w.heap.size w w3 := ((below_alloc w (.cells s.cs.toArray 33)).alloc (by simp) (.cells #[.int .i64 0, .int .i64 0, .int .i64 0, .slice none 0 0] 38)).trans (b3.mono (by simp; omega))
  simp at hs
  exact ⟨(K0.below b3 K0.lt).alloc _, (K1.below b3 K1.lt).alloc _, Blk.new _ _ _, hb.alloc hb.size _, by omega⟩
set_option maxRecDepth 100000 in
set_option maxHeartbeats 2000000 in
theorem open_bad (s : Sec) (w : World) (hT : Tab w) (hs : isSealed s.l = false) :
    Calls Tryd.prog 19 #[.agg s.cs.toArray] w fun e w' => e = .returned (.tuple #[.agg (boxCs 0 0 0 (.slice none 0 0)).toArray, errV 11]) ∧ Below w.heap.size w w' := by
  obtain ⟨Zs, hZ, hZs⟩ : ∃ Zs : List Value, (∀ w, (zeroValue 33).run Tryd.prog w = .ok (.agg Zs.toArray) w) ∧ Zs = Sec.zero.cs := ⟨Sec.zero.cs, sec_zero, rfl⟩
  have hzl : Zs.length = 128 := by rw [hZs, Sec.cs_len]
  have hbz := box_zero
  have hbb := box_build
  have HT := Lib.hid hT
  have HSL := Lib.hid hs
  have HZL := Lib.hid hzl
  have hrs : World.rangeAt ((w.alloc (.cells s.cs.toArray 33)).alloc (.cells #[.int .i64 0, .int .i64 0, .int .i64 0, .slice none 0 0] 38)) w.heap.size 0 s.cs := ((Blk.new w 33 s.cs.toArray).alloc (.cells #[.int .i64 0, .int .i64 0, .int .i64 0, .slice none 0 0] 38)).range
  have husec := Tryd.underlying33
  have hubox := Tryd.underlying38
  have hisec := s.info
  clear hT hs hzl hZs
  go_enter Tryd.func19, Tryd.ntmps19
  go_wp2_with (refine wpList_load_mid rfl 33 (.tmp 1) rfl w.heap.size 0 rfl s.cs _ hrs husec rfl hisec ?_)
  refine (told_any s _).mono ?_
  rintro e w3 ⟨v, rfl, ho, b3⟩
  obtain ⟨Av, cv, rfl, -, -, -⟩ := ho.form
  obtain ⟨k0, k1, k2, kb, kl⟩ := open_start s w w3 (.slice Av (tD s.l).length cv) b3 (boxCs (tK s.l) (tG s.l) (tN s.l) (.slice Av (tD s.l).length cv))
  have hd4 := (ho.bytes (tD_lt s.l s.lt)).since (below_alloc w3 (.cells (boxCs (tK s.l) (tG s.l) (tN s.l) (.slice Av (tD s.l).length cv)).toArray 38))
  have hT4 := HT.out.below kb
  have HK := Lib.hid (And.intro k0 (And.intro k1 (And.intro k2 (And.intro kb (And.intro hd4 hT4)))))
  have hib : (Tryd.prog.info? 38).map (·.size) = some (boxCs (tK s.l) (tG s.l) (tN s.l) (.slice Av (tD s.l).length cv)).length := box_size
  have hone := boxCs_one (tK s.l) (tG s.l) (tN s.l) Av (tD s.l).length cv
  have hrb : World.rangeAt (w3.alloc (.cells (boxCs (tK s.l) (tG s.l) (tN s.l) (.slice Av (tD s.l).length cv)).toArray 38)) w3.heap.size 0 (boxCs (tK s.l) (tG s.l) (tN s.l) (.slice Av (tD s.l).length cv)) := k2.range
  clear k0 k1 k2 kb hd4 hT4 ho b3 hrs
  have hDl := tD_len s.l
  go_wp2_with (first
    | (refine wpList_store_newN rfl 38 (.tmp 4) (.tmp 8) rfl w3.heap.size rfl (boxCs (tK s.l) (tG s.l) (tN s.l) (.slice Av (tD s.l).length cv)) _ rfl rfl hib rfl hone ?_)
    | (refine wpList_load_mid rfl 38 (.tmp 4) rfl w3.heap.size 0 rfl (boxCs (tK s.l) (tG s.l) (tN s.l) (.slice Av (tD s.l).length cv)) _ hrb hubox rfl hib ?_))
  cases hbx : isBoxB (tK s.l) (tG s.l) (tN s.l) with
  | false =>
    refine (seal_range _ _ _ Av _ cv _ hbx).mono ?_
    rintro e w5 ⟨rfl, b5⟩
    have k0 := HK.out.1.below b5 HK.out.1.lt
    have k1 := HK.out.2.1.below b5 HK.out.2.1.lt
    have kb5 := HK.out.2.2.2.1.trans (b5.mono HK.out.2.2.2.1.size)
    have KA := Lib.hid (And.intro (k0.alloc (.cells (Sec.zero).cs.toArray 33)) (And.intro (k1.alloc (.cells (Sec.zero).cs.toArray 33)) (kb5.alloc kb5.size (.cells (Sec.zero).cs.toArray 33))))
    have KS := Blk.new w5 33 (Sec.zero).cs.toArray
    have hth := KA.out.2.1.there (o := 0) (n := (boxCs 0 0 0 (.slice none 0 0)).toArray.size) (by simp [boxCs])
    have ha := KA.out.2.1.over (boxCs 0 0 0 (.slice none 0 0)) (by simp [boxCs])
    have hB := KA.out.2.2.grown (setCells_grown (w.heap.size + 1) (boxCs 0 0 0 (.slice none 0 0)) 0 _).1 KA.out.2.2.size (fun j e => by injection e with e; omega)
    have HA := Lib.hid (And.intro ha hB)
    have hone0 := boxCs_one 0 0 0 none 0 0
    have hia0 : (Tryd.prog.info? 38).map (·.size) = some (boxCs 0 0 0 (.slice none 0 0)).toArray.size := box_size
    clear ha hB
    have hlz : Zs.toArray.size = Sec.zero.cs.length := by rw [List.size_toArray, HZL.out, Sec.cs_len]
    have HLZ := Lib.hid hlz
    have hisz := Sec.zero.info
    have honez := Sec.zero.one
    simp only [errV, Sec.v]
    clear hlz k0 k1 kb5 b5 hbx KS hrb
    generalize Sec.zero = S0 at *
    go_wp2_with (first
      | (refine wpList_store_newN rfl 33 (.tmp 5) (.tmp 12) rfl w5.heap.size rfl S0.cs _ rfl rfl hisz HLZ.out honez ?_)
      | (refine wpList_store_mid rfl 38 (.tmp 2) (.tmp 21) rfl (w.heap.size + 1) 0 (boxCs 0 0 0 (.slice none 0 0)).toArray rfl rfl hth hia0 (all_oneCell_toArray hone0) ?_))
    refine bodyPost_ret (box_results2 rfl _ _ (w.heap.size + 1) (boxCs 0 0 0 (.slice none 0 0)) (errV 11) rfl rfl rfl HA.out.1) rfl ?_
    exact ⟨rfl, HA.out.2⟩
  | true =>
    have hEq : secEq (sealSec (tK s.l) (tG s.l) (tN s.l) (tD s.l) hDl (tD_lt s.l s.lt)) s = false := by
      have := HSL.out
      unfold isSealed at this
      rw [hbx, Bool.true_and] at this
      exact this
    refine (seal_good _ _ _ Av cv (tD s.l) _ _ hbx HK.out.2.2.2.2.1 hDl (tD_lt s.l s.lt) HK.out.2.2.2.2.2).mono ?_
    rintro e w5 ⟨rfl, b5⟩
    generalize sealSec (tK s.l) (tG s.l) (tN s.l) (tD s.l) hDl (tD_lt s.l s.lt) = S1 at *
    have k0 := HK.out.1.below b5 HK.out.1.lt
    have k1 := HK.out.2.1.below b5 HK.out.2.1.lt
    have kb5 := HK.out.2.2.2.1.trans (b5.mono HK.out.2.2.2.1.size)
    have KA := Lib.hid (And.intro (k0.alloc (.cells (S1).cs.toArray 33)) (And.intro (k1.alloc (.cells (S1).cs.toArray 33)) (kb5.alloc kb5.size (.cells (S1).cs.toArray 33))))
    have KS := Blk.new w5 33 (S1).cs.toArray
    have hth := KA.out.2.1.there (o := 0) (n := (boxCs 0 0 0 (.slice none 0 0)).toArray.size) (by simp [boxCs])
    have ha := KA.out.2.1.over (boxCs 0 0 0 (.slice none 0 0)) (by simp [boxCs])
    have hB := KA.out.2.2.grown (setCells_grown (w.heap.size + 1) (boxCs 0 0 0 (.slice none 0 0)) 0 _).1 KA.out.2.2.size (fun j e => by injection e with e; omega)
    have HA := Lib.hid (And.intro ha hB)
    have hone0 := boxCs_one 0 0 0 none 0 0
    have hia0 : (Tryd.prog.info? 38).map (·.size) = some (boxCs 0 0 0 (.slice none 0 0)).toArray.size := box_size
    clear ha hB
    have hlz : Zs.toArray.size = S1.cs.length := by rw [List.size_toArray, HZL.out, Sec.cs_len]
    have HLZ := Lib.hid hlz
    have hisz := S1.info
    have honez := S1.one
    have hr5 : World.rangeAt (w5.alloc (.cells S1.cs.toArray 33)) w5.heap.size 0 S1.cs := KS.range
    have hr0 : World.rangeAt (w5.alloc (.cells S1.cs.toArray 33)) w.heap.size 0 s.cs := KA.out.1.range
    have HEQ := Lib.hid hEq
    simp only [Sec.v]
    clear hlz k0 k1 kb5 b5 hbx KS hrb hEq
    go_wp2_with (first
      | (refine wpList_store_newN rfl 33 (.tmp 5) (.tmp 12) rfl w5.heap.size rfl S1.cs _ rfl rfl hisz HLZ.out honez ?_)
      | (refine wpListG_load_mid (by kernel_rfl) 33 (.tmp 5) rfl w5.heap.size 0 rfl S1.cs _ hr5 husec rfl hisz ?_)
      | (refine wpListG_load_mid (by kernel_rfl) 33 (.tmp 1) rfl w.heap.size 0 rfl s.cs _ hr0 husec rfl hisec ?_)
      | (refine wpListG_sec_neq (by kernel_rfl) (.tmp 17) (.tmp 18) rfl S1 s rfl rfl true HEQ.out ?_)
      | (refine wpList_store_mid rfl 38 (.tmp 2) (.tmp 21) rfl (w.heap.size + 1) 0 (boxCs 0 0 0 (.slice none 0 0)).toArray rfl rfl hth hia0 (all_oneCell_toArray hone0) ?_))
    refine bodyPost_ret (box_results2 rfl _ _ (w.heap.size + 1) (boxCs 0 0 0 (.slice none 0 0)) (errV 11) rfl rfl rfl HA.out.1) rfl ?_
    exact ⟨rfl, HA.out.2⟩
set_option maxRecDepth 100000 in
set_option maxHeartbeats 2000000 in
theorem open_good (s : Sec) (w : World) (hT : Tab w) (hs : isSealed s.l = true) :
    Calls Tryd.prog 19 #[.agg s.cs.toArray] w fun e w' => ∃ A c, e = .returned (.tuple #[.agg (boxCs (tK s.l) (tG s.l) (tN s.l) (.slice A (tD s.l).length c)).toArray, .nilIface]) ∧ Own w' w.heap.size (.slice A (tD s.l).length c) (tD s.l).length (tD s.l) ∧ Below w.heap.size w w' := by
  obtain ⟨Zs, hZ, hZs⟩ : ∃ Zs : List Value, (∀ w, (zeroValue 33).run Tryd.prog w = .ok (.agg Zs.toArray) w) ∧ Zs = Sec.zero.cs := ⟨Sec.zero.cs, sec_zero, rfl⟩
  have hzl : Zs.length = 128 := by rw [hZs, Sec.cs_len]
  have hbz := box_zero
  have hbb := box_build
  have HT := Lib.hid hT
  have HSL := Lib.hid hs
  have HZL := Lib.hid hzl
  have hrs : World.rangeAt ((w.alloc (.cells s.cs.toArray 33)).alloc (.cells #[.int .i64 0, .int .i64 0, .int .i64 0, .slice none 0 0] 38)) w.heap.size 0 s.cs := ((Blk.new w 33 s.cs.toArray).alloc (.cells #[.int .i64 0, .int .i64 0, .int .i64 0, .slice none 0 0] 38)).range
  have husec := Tryd.underlying33
  have hubox := Tryd.underlying38
  have hisec := s.info
  clear hT hs hzl hZs
  go_enter Tryd.func19, Tryd.ntmps19
  go_wp2_with (refine wpList_load_mid rfl 33 (.tmp 1) rfl w.heap.size 0 rfl s.cs _ hrs husec rfl hisec ?_)
  refine (told_any s _).mono ?_
  rintro e w3 ⟨v, rfl, ho, b3⟩
  obtain ⟨Av, cv, rfl, -, -, -⟩ := ho.form
  obtain ⟨k0, k1, k2, kb, kl⟩ := open_start s w w3 (.slice Av (tD s.l).length cv) b3 (boxCs (tK s.l) (tG s.l) (tN s.l) (.slice Av (tD s.l).length cv))
  have hd4 := (ho.bytes (tD_lt s.l s.lt)).since (below_alloc w3 (.cells (boxCs (tK s.l) (tG s.l) (tN s.l) (.slice Av (tD s.l).length cv)).toArray 38))
  have hT4 := HT.out.below kb
  have ho4 := ho.alloc (.cells (boxCs (tK s.l) (tG s.l) (tN s.l) (.slice Av (tD s.l).length cv)).toArray 38)
  have HO := Lib.hid ho4
  have hsz2 : ((w.alloc (.cells s.cs.toArray 33)).alloc (.cells #[.int .i64 0, .int .i64 0, .int .i64 0, .slice none 0 0] 38)).heap.size = w.heap.size + 1 + 1 := by simp
  have HK := Lib.hid (And.intro k0 (And.intro k1 (And.intro k2 (And.intro kb (And.intro hd4 hT4)))))
  have hib : (Tryd.prog.info? 38).map (·.size) = some (boxCs (tK s.l) (tG s.l) (tN s.l) (.slice Av (tD s.l).length cv)).length := box_size
  have hone := boxCs_one (tK s.l) (tG s.l) (tN s.l) Av (tD s.l).length cv
  have hrb : World.rangeAt (w3.alloc (.cells (boxCs (tK s.l) (tG s.l) (tN s.l) (.slice Av (tD s.l).length cv)).toArray 38)) w3.heap.size 0 (boxCs (tK s.l) (tG s.l) (tN s.l) (.slice Av (tD s.l).length cv)) := k2.range
  clear k0 k1 k2 kb hd4 hT4 ho ho4 b3 hrs
  have hDl := tD_len s.l
  go_wp2_with (first
    | (refine wpList_store_newN rfl 38 (.tmp 4) (.tmp 8) rfl w3.heap.size rfl (boxCs (tK s.l) (tG s.l) (tN s.l) (.slice Av (tD s.l).length cv)) _ rfl rfl hib rfl hone ?_)
    | (refine wpList_load_mid rfl 38 (.tmp 4) rfl w3.heap.size 0 rfl (boxCs (tK s.l) (tG s.l) (tN s.l) (.slice Av (tD s.l).length cv)) _ hrb hubox rfl hib ?_))
  have hEq : secEq (sealSec (tK s.l) (tG s.l) (tN s.l) (tD s.l) hDl (tD_lt s.l s.lt)) s = true := by
    have := (sealed_eq s.l HSL.out).1
    unfold secEq
    rw [beq_iff_eq]
    exact this
  have hbx := (sealed_eq s.l HSL.out).2
  refine (seal_good _ _ _ Av cv (tD s.l) _ _ hbx HK.out.2.2.2.2.1 hDl (tD_lt s.l s.lt) HK.out.2.2.2.2.2).mono ?_
  rintro e w5 ⟨rfl, b5⟩
  generalize sealSec (tK s.l) (tG s.l) (tN s.l) (tD s.l) hDl (tD_lt s.l s.lt) = S1 at *
  have k0 := HK.out.1.below b5 HK.out.1.lt
  have k1 := HK.out.2.1.below b5 HK.out.2.1.lt
  have kb5 := HK.out.2.2.2.1.trans (b5.mono HK.out.2.2.2.1.size)
  have KA := Lib.hid (And.intro (k0.alloc (.cells (S1).cs.toArray 33)) (And.intro (k1.alloc (.cells (S1).cs.toArray 33)) (kb5.alloc kb5.size (.cells (S1).cs.toArray 33))))
  have KS := Blk.new w5 33 (S1).cs.toArray
  have hth := KA.out.2.1.there (o := 0) (n := (boxCs (tK s.l) (tG s.l) (tN s.l) (.slice Av (tD s.l).length cv)).toArray.size) (by simp [boxCs])
  have ha := KA.out.2.1.over (boxCs (tK s.l) (tG s.l) (tN s.l) (.slice Av (tD s.l).length cv)) (by simp [boxCs])
  have hB := KA.out.2.2.grown (setCells_grown (w.heap.size + 1) (boxCs (tK s.l) (tG s.l) (tN s.l) (.slice Av (tD s.l).length cv)) 0 _).1 KA.out.2.2.size (fun j e => by injection e with e; omega)
  have ho6 := (HO.out.below b5).alloc (.cells (S1).cs.toArray 33)
  have ho7 := (Own.grown ho6 (setCells_grown (w.heap.size + 1) (boxCs (tK s.l) (tG s.l) (tN s.l) (.slice Av (tD s.l).length cv)) 0 _).1 (.inr (fun e => by have := (World.ownsRow.lt ho6 _ e).1; omega))).weaken (base' := w.heap.size) (by omega)
  have k2 := HK.out.2.2.1.below b5 HK.out.2.2.1.lt
  have hr3 : World.rangeAt (w5.alloc (.cells S1.cs.toArray 33)) w3.heap.size 0 (boxCs (tK s.l) (tG s.l) (tN s.l) (.slice Av (tD s.l).length cv)) := (k2.alloc (.cells (S1).cs.toArray 33)).range
  have HA := Lib.hid (And.intro ha (And.intro hB ho7))
  have hone0 := hone
  have hia0 : (Tryd.prog.info? 38).map (·.size) = some (boxCs (tK s.l) (tG s.l) (tN s.l) (.slice Av (tD s.l).length cv)).toArray.size := box_size
  clear ha hB ho6 ho7 k2
  have hlz : Zs.toArray.size = S1.cs.length := by rw [List.size_toArray, HZL.out, Sec.cs_len]
  have HLZ := Lib.hid hlz
  have hisz := S1.info
  have honez := S1.one
  have hr5 : World.rangeAt (w5.alloc (.cells S1.cs.toArray 33)) w5.heap.size 0 S1.cs := KS.range
  have hr0 : World.rangeAt (w5.alloc (.cells S1.cs.toArray 33)) w.heap.size 0 s.cs := KA.out.1.range
  have HEQ := Lib.hid hEq
  simp only [Sec.v]
  clear hlz k0 k1 kb5 b5 hbx KS hrb hEq
  go_wp2_with (first
    | (refine wpList_store_newN rfl 33 (.tmp 5) (.tmp 12) rfl w5.heap.size rfl S1.cs _ rfl rfl hisz HLZ.out honez ?_)
    | (refine wpListG_load_mid (by kernel_rfl) 33 (.tmp 5) rfl w5.heap.size 0 rfl S1.cs _ hr5 husec rfl hisz ?_)
    | (refine wpListG_load_mid (by kernel_rfl) 33 (.tmp 1) rfl w.heap.size 0 rfl s.cs _ hr0 husec rfl hisec ?_)
    | (refine wpListG_sec_neq (by kernel_rfl) (.tmp 17) (.tmp 18) rfl S1 s rfl rfl false HEQ.out ?_)
    | (refine wpList_load_mid rfl 38 (.tmp 4) rfl w3.heap.size 0 rfl (boxCs (tK s.l) (tG s.l) (tN s.l) (.slice Av (tD s.l).length cv)) _ hr3 hubox rfl hib ?_)
    | (refine wpList_store_mid rfl 38 (.tmp 2) (.tmp 23) rfl (w.heap.size + 1) 0 (boxCs (tK s.l) (tG s.l) (tN s.l) (.slice Av (tD s.l).length cv)).toArray rfl rfl hth hia0 (all_oneCell_toArray hone0) ?_))
  refine bodyPost_ret (box_results2 rfl _ _ (w.heap.size + 1) (boxCs (tK s.l) (tG s.l) (tN s.l) (.slice Av (tD s.l).length cv)) .nilIface rfl rfl rfl HA.out.1) rfl ?_
  exact ⟨Av, cv, rfl, HA.out.2.2, HA.out.2.1⟩
end Go.Proofs.YtgdkpmgfholnkaaDoor
