/-
  Does a disk stand as a plain one says: what 'stands' answers. Conditions: small numbers.
-/
import Derived.Test.YtgcghoalepkdfaaBd
import Derived.Deep.LoopGhost
import Derived.Deep.CutRange
import Derived.Deep.DeepCutAuto
import Derived.Deep.CutBlock
namespace Go.Proofs.Ytgcghoalepkdfaa
open Go.RowKit
set_option linter.unusedSimpArgs false
set_option linter.unusedVariables false
section
variable {w0 w w' : World} {g : Nat} {d : DM} {X : List Nat} {AA AW : Option Addr} {c cw l : Nat}
theorem sec_at {w : World} {B n : Nat} {A : Option Addr} {f : Nat → Sec} (h : Reads w B 128 A n (sixCells f n)) {k : Nat} (hk : k < n) :
    ∃ ad, A = some ad ∧ ad.block < B ∧ ∀ j u, (f k).cs[j]? = some u → w.cell? ((ad.add (k * 128)).add j) = some u := by
  obtain ⟨ad, e, hb, hc⟩ := h.2 (by omega)
  refine ⟨ad, e, hb, fun j u hj => ?_⟩
  have hlt : j < 128 := by
    rcases Nat.lt_or_ge j 128 with h' | h'
    · exact h'
    · rw [List.getElem?_eq_none (by rw [Sec.cs_len]; omega)] at hj; cases hj
  rw [add_of_add]
  exact hc _ _ (by rw [six_at f n k j hk hlt]; exact hj)
/-- the last of 'stands': all its numbers -/
def Twin (w0 w : World) (g b : Nat) (d : DM) (AA : Option Addr) (c : Nat) (AW : Option Addr) (cw l : Nat) (X : List Nat) : Prop :=
  Holds w0 w g d (b :: (blkOf AA ++ (blkOf AW ++ X))) ∧ RefAt w w.heap.size AA c AW cw d ∧ Blk w b 36 (rv AA c AW cw l d).toArray
theorem wpListG_sec_neq {ops : Array Oper} {rest : List Oper} {op : Oper} {a : Act} {w : World} {Q : Exit → Act → World → Prop} (hw : Region.wanted op (yielded ops a.tmps) = true) (x y : Operand) (ho : op.op = .binOp .neq 47 x y 47)
    (s t : Sec) (hx : a.eval x = .agg s.cs.toArray) (hy : a.eval y = .agg t.cs.toArray)
    (h : wpList Try.prog ops Q rest (a.put op.dst (.bool (!secEq s t))) w) : wpList Try.prog ops Q (op :: rest) a w :=
  wpList_wanted hw fun _ hK => by
    refine wp_ran (v := .bool (!secEq s t)) (w' := w) ?_ (hK _ _ h)
    have := run_sec_neq s t w
    simp [execOp, ho, hx, hy, this, run_sec_guard, Result.andThen]
theorem wpListG_load_blk {P : Program} {ops : Array Oper} {rest : List Oper} {o : Oper} {a : Act} {w : World} {Q : Exit → Act → World → Prop} (hw : Region.wanted o (yielded ops a.tmps) = true) (ty : TypeId) (x : Operand) (ho : o.op = .load ty x)
    (g : Nat) (cs : List Value) (d : TypeDesc) (hx : a.eval x = .pointer (some ⟨g, 0, none⟩)) (hB : Blk w g ty cs.toArray) (hu : P.underlying ty = some d) (hd : d.isRow = true) (hi : (P.info? ty).map (·.size) = some cs.length)
    (h : wpList P ops Q rest (a.put o.dst (.agg cs.toArray)) w) : wpList P ops Q (o :: rest) a w :=
  wpListG_load_mid hw ty x ho g 0 hx cs d hB.range hu hd hi h
theorem Twin.below {b : Nat} (h : Twin w0 w g b d AA c AW cw l X) (hb : Below w.heap.size w w') : Twin w0 w' g b d AA c AW cw l X := ⟨h.1.below hb, (h.2.1.below hb).more hb.size, h.2.2.below hb h.2.2.lt⟩
set_option maxRecDepth 100000 in
set_option maxHeartbeats 8000000 in
theorem stands_any (h : Two w0 w g d d X AA c AW cw l) {n k : Nat} (hbd : Bd d n k) (hk : k ≤ 1000000) (hn : n ≤ 4096) :
    Calls Try.prog 16 #[.pointer (some ⟨g, 0, none⟩), .agg (rv AA c AW cw l d).toArray] w fun e w' => e = .returned (.bool true) ∧ Below w.heap.size w w' := by
  have hsm := hbd.small hk
  have hu := Try.underlying36
  obtain ⟨Zs, hz6, hbd6, hZs⟩ : ∃ Zs : List Value, (∀ w, (zeroValue 47).run Try.prog w = .ok (.agg Zs.toArray) w) ∧ (∀ w, (Instr.build 47 #[]).run Try.prog w = .ok (.agg Zs.toArray) w) ∧ Zs = Sec.zero.cs := ⟨_, sec_zero, sec_build, rfl⟩
  have hus := Try.underlying47
  have hzl : Zs.length = 128 := by rw [hZs, Sec.cs_len]
  have hib : ∀ s : Sec, (Try.prog.info? 47).map (·.size) = some s.cs.length := fun s => by rw [Sec.cs_len]; exact sec_size
  have T0 : Twin w0 (w.alloc (.cells (rv AA c AW cw l d).toArray 36)) g w.heap.size d AA c AW cw l X :=
    ⟨h.disk.push _, (h.ref.below ((Below.refl _ _).alloc (Nat.le_refl _) _)).more (by simp), Blk.new _ _ _⟩
  have hb0 : Below w.heap.size w (w.alloc (.cells (rv AA c AW cw l d).toArray 36)) := (Below.refl _ _).alloc (Nat.le_refl _) _
  have T0 := Lib.hid T0
  have HB0 := Lib.hid hb0
  have HZ := Lib.hid hZs
  have HBD := Lib.hid hbd
  clear h hb0 hZs hbd
  go_enter Try.func16, Try.ntmps16
  generalize hw1 : w.alloc (.cells (rv AA c AW cw l d).toArray 36) = w1 at *
  have q0 : w1.cell? ⟨w.heap.size, 0, none⟩ = some (.slice AA d.n c) := T0.out.2.2.cell 0
  go_wp2_with fail
  go_loopg [14] d.n (fun gk i wr => ∃ k : Nat, k ≤ d.n ∧ gk = d.n - k ∧ i = .int .i64 k ∧ Below w.heap.size w wr ∧ Twin w0 wr g w.heap.size d AA c AW cw l X)
  case atStart => exact ⟨0, by omega, by omega, rfl, HB0.out, T0.out⟩
  case round =>
    obtain ⟨k, hk, rfl, rfl, hb, ht⟩ := hrel
    have hkb : k ≤ 4096 := by have := HBD.out.n; omega
    by_cases hlt : k < d.n
    · obtain ⟨ad, rfl, hadb, hc⟩ := sec_at ht.2.1.secs hlt
      have hk1 : (k : Int) < (d.n : Int) := by omega
      have BX := Lib.hid (Blk.new wr 47 (d.sure k).cs.toArray)
      have bx : Below wr.heap.size wr (wr.alloc (.cells (d.sure k).cs.toArray 47)) := (Below.refl _ _).alloc (Nat.le_refl _) _
      have TX := Lib.hid (ht.below bx)
      have BW := Lib.hid (hb.trans (bx.mono hb.size))
      have hnq := secEq_same (d.sure k)
      clear hb ht bx
      generalize hs : d.sure k = s at *
      go_wp2_with (first
        | (refine wpList_load_at rfl 47 (.tmp 17) rfl _ rfl s.cs _ hc hus rfl (hib s) ?_)
        | (refine wpList_store_newN rfl 47 (.tmp 6) (.tmp 18) rfl wr.heap.size rfl s.cs Zs.toArray rfl rfl (hib s) (by simp [Sec.cs_len, hzl]) s.one ?_))
      clear hc
      generalize hga : wr.heap.size = ga at *
      generalize wr.alloc (.cells s.cs.toArray 47) = wa at *
      have hSa : Blk wa.drew ga 47 s.cs.toArray := BX.out
      refine any_beginL (fun w' => Blk w' ga 47 s.cs.toArray) 99 (by kernel_rfl) ?_
      refine S_take (i := 0) (v := .pointer (some ⟨g, 0, none⟩)) rfl rfl (by kernel_rfl) (by kernel_rfl) (by kernel_rfl) (fun _ _ _ h => h) (Or.inl ⟨by rfl, fun w _ => by kernel_rfl⟩) hSa ?_
      simp only [Act.put, List.getElem_toArray, List.getElem_cons_succ, List.getElem_cons_zero, List.setIfInBounds_toArray, List.set_cons_zero, List.set_cons_succ]
      refine S_take (i := 1) (v := .int .i64 k) rfl rfl (by kernel_rfl) (by kernel_rfl) (by kernel_rfl) (fun _ _ _ h => h) (Or.inl ⟨by rfl, fun w _ => by kernel_rfl⟩) hSa ?_
      simp only [Act.put, List.getElem_toArray, List.getElem_cons_succ, List.getElem_cons_zero, List.setIfInBounds_toArray, List.set_cons_zero, List.set_cons_succ]
      refine S_take (i := 3) (v := .agg s.cs.toArray) rfl rfl (by kernel_rfl) (by kernel_rfl) (by kernel_rfl) (fun _ _ _ h => h) (Or.inl ⟨by rfl, fun w hw => exec_load_blk 47 (.tmp 6) rfl _ _ _ rfl hw hus rfl (hib s)⟩) hSa ?_
      simp only [Act.put, List.getElem_toArray, List.getElem_cons_succ, List.getElem_cons_zero, List.setIfInBounds_toArray, List.set_cons_zero, List.set_cons_succ]
      refine L_one (j := 2) (by kernel_rfl) rfl (by rfl) ?_
      simp only [Act.put, List.getElem_toArray, List.getElem_cons_succ, List.getElem_cons_zero, List.setIfInBounds_toArray, List.set_cons_zero, List.set_cons_succ]
      refine wp_called (by kernel_rfl) (hold_sure TX.out.1.drew (k : Int)) ?_
      rintro e w5 ⟨rfl, b5'⟩
      rw [hs]
      have b5 := below_drew' b5'
      have hS5 : Blk w5 ga 47 s.cs.toArray := BX.out.below b5 BX.out.lt
      refine ⟨_, rfl, hS5, ?_⟩
      simp only [Sec.v]
      simp only [Act.put, List.getElem_toArray, List.getElem_cons_succ, List.getElem_cons_zero, List.setIfInBounds_toArray, List.set_cons_zero, List.set_cons_succ]
      refine S_take (i := 4) (v := .bool false) rfl rfl (by kernel_rfl) (by kernel_rfl) (by kernel_rfl) (fun _ _ _ h => h) (Or.inl ⟨by rfl, fun w _ => by have q := run_sec_neq s s w; rw [hnq] at q; simp [execOp, Act.eval, q, run_sec_guard, Result.andThen]⟩) hS5 ?_
      simp only [Act.put, List.getElem_toArray, List.getElem_cons_succ, List.getElem_cons_zero, List.setIfInBounds_toArray, List.set_cons_zero, List.set_cons_succ]
      refine L_done (by kernel_rfl) ?_
      refine NoPanic.normal ?_
      have T5 := Lib.hid (TX.out.below b5)
      have B5 := Lib.hid (BW.out.trans (b5.mono BW.out.size))
      clear hSa hS5 b5 b5' TX BW BX
      go_wp2_with fail
      refine (hold_read T5.out.1 (k : Int) hsm.wait).mono ?_
      rintro e w6 ⟨rfl, b6⟩
      simp only [Sec.v]
      have T6 := Lib.hid (T5.out.below (b6.alloc b6.size (.cells (d.read k).cs.toArray 47)))
      have B6 := Lib.hid (B5.out.trans ((b6.alloc b6.size (.cells (d.read k).cs.toArray 47)).mono B5.out.size))
      have BR := Lib.hid (Blk.new w6 47 (d.read k).cs.toArray)
      have q5 : (w6.alloc (.cells (d.read k).cs.toArray 47)).cell? ⟨w.heap.size, 5, none⟩ = some (.bool d.gone) := T6.out.2.2.cell 5
      clear b6 T5 B5
      generalize hx : d.read k = x at *
      cases hg : d.gone with
      | true =>
        rw [hg] at q5
        go_wp2_with (first
          | (refine wpList_store_newN rfl 47 (.tmp 7) (.tmp 28) rfl w6.heap.size rfl x.cs Zs.toArray rfl rfl (hib x) (by simp [Sec.cs_len, hzl]) x.one ?_))
        go_roundg (d.n - (k + 1))
        case measure => omega
        case rel => exact ⟨k + 1, by omega, rfl, by go_num, B6.out, T6.out⟩
      | false =>
        rw [hg] at q5
        have hre : d.readErr k = 0 := by simp [DM.readErr, hg, DM.has]; omega
        rw [hre]
        simp only [errV]
        go_wp2_with (first
          | (refine wpList_store_newN rfl 47 (.tmp 7) (.tmp 28) rfl w6.heap.size rfl x.cs Zs.toArray rfl rfl (hib x) (by simp [Sec.cs_len, hzl]) x.one ?_)
          | (refine wpList_load_blk rfl 36 (.tmp 3) rfl w.heap.size (rv (some ad) c AW cw l d) _ rfl T6.out.2.2 hu rfl rdisk_size ?_))
        refine (rread_any _ _ c AW cw d l (k : Int) T6.out.2.1 hsm.wait).mono ?_
        rintro e w7 ⟨rfl, b7⟩
        simp only [Sec.v]
        rw [hx, hre]
        have T7 := Lib.hid (T6.out.below (b7.alloc b7.size (.cells x.cs.toArray 47)))
        have B7 := Lib.hid (B6.out.trans ((b7.alloc b7.size (.cells x.cs.toArray 47)).mono B6.out.size))
        have BR7 := Lib.hid ((BR.out.below b7 BR.out.lt).alloc (.cells x.cs.toArray 47))
        have BY := Lib.hid (Blk.new w7 47 x.cs.toArray)
        have hxx := secEq_same x
        clear b7 T6 B6 BR q5
        generalize hgr : w6.heap.size = gr at *
        go_wp2_with (first
          | (refine wpList_store_newN rfl 47 (.tmp 9) (.tmp 37) rfl w7.heap.size rfl x.cs Zs.toArray rfl rfl (hib x) (by simp [Sec.cs_len, hzl]) x.one ?_)
          | (refine wpListG_load_blk rfl 47 (.tmp 7) rfl gr x.cs _ rfl BR7.out hus rfl (hib x) ?_)
          | (refine wpListG_load_blk rfl 47 (.tmp 9) rfl w7.heap.size x.cs _ rfl BY.out hus rfl (hib x) ?_)
          | (refine wpListG_sec_neq rfl (.tmp 42) (.tmp 43) rfl x x rfl rfl ?_; rw [hxx]))
        go_roundg (d.n - (k + 1))
        case measure => omega
        case rel => exact ⟨k + 1, by omega, rfl, by go_num, B7.out, T7.out⟩
    · go_wp2_with fail
      have HT := Lib.hid (ht.below (Below.refl _ _).drew)
      have HB := Lib.hid (hb.trans ((Below.refl _ _).drew.mono hb.size))
      have hSz := HT.out.2.2
      have hz1 : d.sure (-1) = Sec.zero := HBD.out.out _ (by simp [DM.has])
      have hz2 : d.sure (d.n : Int) = Sec.zero := HBD.out.out _ (by simp [DM.has])
      clear hb ht
      refine any_beginL (fun w' => Blk w' w.heap.size 36 (rv AA c AW cw l d).toArray) 99 (by kernel_rfl) ?_
      refine S_take (i := 0) (v := .pointer (some ⟨g, 0, none⟩)) rfl rfl (by kernel_rfl) (by kernel_rfl) (by kernel_rfl) (fun _ _ _ h => h) (Or.inl ⟨by rfl, fun w hw => by kernel_rfl⟩) hSz ?_
      simp only [Act.put, List.getElem_toArray, List.getElem_cons_succ, List.getElem_cons_zero, List.setIfInBounds_toArray, List.set_cons_zero, List.set_cons_succ]
      refine S_take (i := 2) (v := .pointer (some ⟨w.heap.size, 0, none⟩)) rfl rfl (by kernel_rfl) (by kernel_rfl) (by kernel_rfl) (fun _ _ _ h => h) (Or.inl ⟨by rfl, fun w hw => by kernel_rfl⟩) hSz ?_
      simp only [Act.put, List.getElem_toArray, List.getElem_cons_succ, List.getElem_cons_zero, List.setIfInBounds_toArray, List.set_cons_zero, List.set_cons_succ]
      refine S_take (i := 3) (v := .slice AA d.n c) rfl rfl (by kernel_rfl) (by kernel_rfl) (by kernel_rfl) (fun _ _ _ h => h) (Or.inl ⟨by rfl, fun w hw => by have q : w.cell? ⟨_, 0, none⟩ = some (.slice AA d.n c) := hw.cell 0; go_simp⟩) hSz ?_
      simp only [Act.put, List.getElem_toArray, List.getElem_cons_succ, List.getElem_cons_zero, List.setIfInBounds_toArray, List.set_cons_zero, List.set_cons_succ]
      refine S_take (i := 4) (v := .int .i64 d.n) rfl rfl (by kernel_rfl) (by kernel_rfl) (by kernel_rfl) (fun _ _ _ h => h) (Or.inl ⟨by rfl, fun w hw => by go_simp⟩) hSz ?_
      simp only [Act.put, List.getElem_toArray, List.getElem_cons_succ, List.getElem_cons_zero, List.setIfInBounds_toArray, List.set_cons_zero, List.set_cons_succ]
      refine L_one (j := 1) (by kernel_rfl) rfl (by rfl) ?_
      simp only [Act.put, List.getElem_toArray, List.getElem_cons_succ, List.getElem_cons_zero, List.setIfInBounds_toArray, List.set_cons_zero, List.set_cons_succ]
      refine wp_called (by kernel_rfl) (hold_len HT.out.1) ?_
      rintro e w' ⟨rfl, hww⟩
      subst hww
      refine ⟨_, rfl, hSz, ?_⟩
      simp only [Act.put, List.getElem_toArray, List.getElem_cons_succ, List.getElem_cons_zero, List.setIfInBounds_toArray, List.set_cons_zero, List.set_cons_succ]
      refine S_take (i := 5) (v := .bool true) rfl rfl (by kernel_rfl) (by kernel_rfl) (by kernel_rfl) (fun _ _ _ h => h) (Or.inl ⟨by rfl, fun w hw => by go_simp⟩) hSz ?_
      simp only [Act.put, List.getElem_toArray, List.getElem_cons_succ, List.getElem_cons_zero, List.setIfInBounds_toArray, List.set_cons_zero, List.set_cons_succ]
      refine S_take (i := 6) (v := .bool true) rfl rfl (by kernel_rfl) (by kernel_rfl) (by kernel_rfl) (fun _ _ _ h => h) (Or.inl ⟨by rfl, fun w hw => by kernel_rfl⟩) hSz ?_
      simp only [Act.put, List.getElem_toArray, List.getElem_cons_succ, List.getElem_cons_zero, List.setIfInBounds_toArray, List.set_cons_zero, List.set_cons_succ]
      refine S_take (i := 7) (v := .pointer (some ⟨g, 0, none⟩)) rfl rfl (by kernel_rfl) (by kernel_rfl) (by kernel_rfl) (fun _ _ _ h => h) (Or.inl ⟨by rfl, fun w hw => by kernel_rfl⟩) hSz ?_
      simp only [Act.put, List.getElem_toArray, List.getElem_cons_succ, List.getElem_cons_zero, List.setIfInBounds_toArray, List.set_cons_zero, List.set_cons_succ]
      refine S_take (i := 9) (v := .pointer (some ⟨w.heap.size, 1, none⟩)) rfl rfl (by kernel_rfl) (by kernel_rfl) (by kernel_rfl) (fun _ _ _ h => h) (Or.inl ⟨by rfl, fun w hw => by kernel_rfl⟩) hSz ?_
      simp only [Act.put, List.getElem_toArray, List.getElem_cons_succ, List.getElem_cons_zero, List.setIfInBounds_toArray, List.set_cons_zero, List.set_cons_succ]
      refine S_take (i := 10) (v := .slice AW d.wait.length cw) rfl rfl (by kernel_rfl) (by kernel_rfl) (by kernel_rfl) (fun _ _ _ h => h) (Or.inl ⟨by rfl, fun w hw => by have q : w.cell? ⟨_, 1, none⟩ = some (.slice AW d.wait.length cw) := hw.cell 1; go_simp⟩) hSz ?_
      simp only [Act.put, List.getElem_toArray, List.getElem_cons_succ, List.getElem_cons_zero, List.setIfInBounds_toArray, List.set_cons_zero, List.set_cons_succ]
      refine S_take (i := 11) (v := .int .i64 d.wait.length) rfl rfl (by kernel_rfl) (by kernel_rfl) (by kernel_rfl) (fun _ _ _ h => h) (Or.inl ⟨by rfl, fun w hw => by go_simp⟩) hSz ?_
      simp only [Act.put, List.getElem_toArray, List.getElem_cons_succ, List.getElem_cons_zero, List.setIfInBounds_toArray, List.set_cons_zero, List.set_cons_succ]
      refine L_one (j := 8) (by kernel_rfl) rfl (by rfl) ?_
      simp only [Act.put, List.getElem_toArray, List.getElem_cons_succ, List.getElem_cons_zero, List.setIfInBounds_toArray, List.set_cons_zero, List.set_cons_succ]
      refine wp_called (by kernel_rfl) (hold_waiting HT.out.1) ?_
      rintro e w' ⟨rfl, hww⟩
      subst hww
      refine ⟨_, rfl, hSz, ?_⟩
      simp only [Act.put, List.getElem_toArray, List.getElem_cons_succ, List.getElem_cons_zero, List.setIfInBounds_toArray, List.set_cons_zero, List.set_cons_succ]
      refine S_take (i := 12) (v := .bool true) rfl rfl (by kernel_rfl) (by kernel_rfl) (by kernel_rfl) (fun _ _ _ h => h) (Or.inl ⟨by rfl, fun w hw => by go_simp⟩) hSz ?_
      simp only [Act.put, List.getElem_toArray, List.getElem_cons_succ, List.getElem_cons_zero, List.setIfInBounds_toArray, List.set_cons_zero, List.set_cons_succ]
      refine S_take (i := 13) (v := .bool true) rfl rfl (by kernel_rfl) (by kernel_rfl) (by kernel_rfl) (fun _ _ _ h => h) (Or.inl ⟨by rfl, fun w hw => by kernel_rfl⟩) hSz ?_
      simp only [Act.put, List.getElem_toArray, List.getElem_cons_succ, List.getElem_cons_zero, List.setIfInBounds_toArray, List.set_cons_zero, List.set_cons_succ]
      refine S_take (i := 14) (v := .bool true) rfl rfl (by kernel_rfl) (by kernel_rfl) (by kernel_rfl) (fun _ _ _ h => h) (Or.inl ⟨by rfl, fun w hw => by kernel_rfl⟩) hSz ?_
      simp only [Act.put, List.getElem_toArray, List.getElem_cons_succ, List.getElem_cons_zero, List.setIfInBounds_toArray, List.set_cons_zero, List.set_cons_succ]
      refine S_take (i := 15) (v := .pointer (some ⟨g, 0, none⟩)) rfl rfl (by kernel_rfl) (by kernel_rfl) (by kernel_rfl) (fun _ _ _ h => h) (Or.inl ⟨by rfl, fun w hw => by kernel_rfl⟩) hSz ?_
      simp only [Act.put, List.getElem_toArray, List.getElem_cons_succ, List.getElem_cons_zero, List.setIfInBounds_toArray, List.set_cons_zero, List.set_cons_succ]
      refine S_take (i := 17) (v := .pointer (some ⟨w.heap.size, 2, none⟩)) rfl rfl (by kernel_rfl) (by kernel_rfl) (by kernel_rfl) (fun _ _ _ h => h) (Or.inl ⟨by rfl, fun w hw => by kernel_rfl⟩) hSz ?_
      simp only [Act.put, List.getElem_toArray, List.getElem_cons_succ, List.getElem_cons_zero, List.setIfInBounds_toArray, List.set_cons_zero, List.set_cons_succ]
      refine S_take (i := 18) (v := .int .i64 d.steps) rfl rfl (by kernel_rfl) (by kernel_rfl) (by kernel_rfl) (fun _ _ _ h => h) (Or.inl ⟨by rfl, fun w hw => by have q : w.cell? ⟨_, 2, none⟩ = some (.int .i64 d.steps) := hw.cell 2; go_simp⟩) hSz ?_
      simp only [Act.put, List.getElem_toArray, List.getElem_cons_succ, List.getElem_cons_zero, List.setIfInBounds_toArray, List.set_cons_zero, List.set_cons_succ]
      refine L_one (j := 16) (by kernel_rfl) rfl (by rfl) ?_
      simp only [Act.put, List.getElem_toArray, List.getElem_cons_succ, List.getElem_cons_zero, List.setIfInBounds_toArray, List.set_cons_zero, List.set_cons_succ]
      refine wp_called (by kernel_rfl) (hold_steps HT.out.1) ?_
      rintro e w' ⟨rfl, hww⟩
      subst hww
      refine ⟨_, rfl, hSz, ?_⟩
      simp only [Act.put, List.getElem_toArray, List.getElem_cons_succ, List.getElem_cons_zero, List.setIfInBounds_toArray, List.set_cons_zero, List.set_cons_succ]
      refine S_take (i := 19) (v := .bool true) rfl rfl (by kernel_rfl) (by kernel_rfl) (by kernel_rfl) (fun _ _ _ h => h) (Or.inl ⟨by rfl, fun w hw => by go_simp⟩) hSz ?_
      simp only [Act.put, List.getElem_toArray, List.getElem_cons_succ, List.getElem_cons_zero, List.setIfInBounds_toArray, List.set_cons_zero, List.set_cons_succ]
      refine S_take (i := 20) (v := .bool true) rfl rfl (by kernel_rfl) (by kernel_rfl) (by kernel_rfl) (fun _ _ _ h => h) (Or.inl ⟨by rfl, fun w hw => by kernel_rfl⟩) hSz ?_
      simp only [Act.put, List.getElem_toArray, List.getElem_cons_succ, List.getElem_cons_zero, List.setIfInBounds_toArray, List.set_cons_zero, List.set_cons_succ]
      refine S_take (i := 21) (v := .bool true) rfl rfl (by kernel_rfl) (by kernel_rfl) (by kernel_rfl) (fun _ _ _ h => h) (Or.inl ⟨by rfl, fun w hw => by kernel_rfl⟩) hSz ?_
      simp only [Act.put, List.getElem_toArray, List.getElem_cons_succ, List.getElem_cons_zero, List.setIfInBounds_toArray, List.set_cons_zero, List.set_cons_succ]
      refine S_take (i := 22) (v := .pointer (some ⟨g, 0, none⟩)) rfl rfl (by kernel_rfl) (by kernel_rfl) (by kernel_rfl) (fun _ _ _ h => h) (Or.inl ⟨by rfl, fun w hw => by kernel_rfl⟩) hSz ?_
      simp only [Act.put, List.getElem_toArray, List.getElem_cons_succ, List.getElem_cons_zero, List.setIfInBounds_toArray, List.set_cons_zero, List.set_cons_succ]
      refine S_take (i := 24) (v := .pointer (some ⟨w.heap.size, 5, none⟩)) rfl rfl (by kernel_rfl) (by kernel_rfl) (by kernel_rfl) (fun _ _ _ h => h) (Or.inl ⟨by rfl, fun w hw => by kernel_rfl⟩) hSz ?_
      simp only [Act.put, List.getElem_toArray, List.getElem_cons_succ, List.getElem_cons_zero, List.setIfInBounds_toArray, List.set_cons_zero, List.set_cons_succ]
      refine S_take (i := 25) (v := .bool d.gone) rfl rfl (by kernel_rfl) (by kernel_rfl) (by kernel_rfl) (fun _ _ _ h => h) (Or.inl ⟨by rfl, fun w hw => by have q : w.cell? ⟨_, 5, none⟩ = some (.bool d.gone) := hw.cell 5; go_simp⟩) hSz ?_
      simp only [Act.put, List.getElem_toArray, List.getElem_cons_succ, List.getElem_cons_zero, List.setIfInBounds_toArray, List.set_cons_zero, List.set_cons_succ]
      refine L_one (j := 23) (by kernel_rfl) rfl (by rfl) ?_
      simp only [Act.put, List.getElem_toArray, List.getElem_cons_succ, List.getElem_cons_zero, List.setIfInBounds_toArray, List.set_cons_zero, List.set_cons_succ]
      refine wp_called (by kernel_rfl) (hold_down HT.out.1) ?_
      rintro e w' ⟨rfl, hww⟩
      subst hww
      refine ⟨_, rfl, hSz, ?_⟩
      simp only [Act.put, List.getElem_toArray, List.getElem_cons_succ, List.getElem_cons_zero, List.setIfInBounds_toArray, List.set_cons_zero, List.set_cons_succ]
      refine S_take (i := 26) (v := .bool true) rfl rfl (by kernel_rfl) (by kernel_rfl) (by kernel_rfl) (fun _ _ _ h => h) (Or.inl ⟨by rfl, fun w hw => by go_simp⟩) hSz ?_
      simp only [Act.put, List.getElem_toArray, List.getElem_cons_succ, List.getElem_cons_zero, List.setIfInBounds_toArray, List.set_cons_zero, List.set_cons_succ]
      refine S_take (i := 27) (v := .bool true) rfl rfl (by kernel_rfl) (by kernel_rfl) (by kernel_rfl) (fun _ _ _ h => h) (Or.inl ⟨by rfl, fun w hw => by kernel_rfl⟩) hSz ?_
      simp only [Act.put, List.getElem_toArray, List.getElem_cons_succ, List.getElem_cons_zero, List.setIfInBounds_toArray, List.set_cons_zero, List.set_cons_succ]
      refine S_take (i := 28) (v := .bool true) rfl rfl (by kernel_rfl) (by kernel_rfl) (by kernel_rfl) (fun _ _ _ h => h) (Or.inl ⟨by rfl, fun w hw => by kernel_rfl⟩) hSz ?_
      simp only [Act.put, List.getElem_toArray, List.getElem_cons_succ, List.getElem_cons_zero, List.setIfInBounds_toArray, List.set_cons_zero, List.set_cons_succ]
      refine S_take (i := 29) (v := .pointer (some ⟨g, 0, none⟩)) rfl rfl (by kernel_rfl) (by kernel_rfl) (by kernel_rfl) (fun _ _ _ h => h) (Or.inl ⟨by rfl, fun w hw => by kernel_rfl⟩) hSz ?_
      simp only [Act.put, List.getElem_toArray, List.getElem_cons_succ, List.getElem_cons_zero, List.setIfInBounds_toArray, List.set_cons_zero, List.set_cons_succ]
      refine S_take (i := 31) (v := .agg Zs.toArray) rfl rfl (by kernel_rfl) (by kernel_rfl) (by kernel_rfl) (fun _ _ _ h => h) (Or.inl ⟨by rfl, fun w hw => by have q := hbd6 w; simp [execOp, Act.eval, q, Result.andThen]⟩) hSz ?_
      simp only [Act.put, List.getElem_toArray, List.getElem_cons_succ, List.getElem_cons_zero, List.setIfInBounds_toArray, List.set_cons_zero, List.set_cons_succ]
      refine L_one (j := 30) (by kernel_rfl) rfl (by rfl) ?_
      simp only [Act.put, List.getElem_toArray, List.getElem_cons_succ, List.getElem_cons_zero, List.setIfInBounds_toArray, List.set_cons_zero, List.set_cons_succ]
      refine wp_called (by kernel_rfl) (hold_sure HT.out.1 (-1)) ?_
      rintro e wS ⟨rfl, bb⟩
      rw [hz1]
      have HT2 := Lib.hid (HT.out.below bb)
      have HB2 := Lib.hid (HB.out.trans (bb.mono HB.out.size))
      clear HT HB hSz bb
      have HT := HT2
      have HB := HB2
      have hSz := HT.out.2.2
      clear HT2 HB2
      refine ⟨_, rfl, hSz, ?_⟩
      simp only [Sec.v]
      rw [← HZ.out]
      simp only [Act.put, List.getElem_toArray, List.getElem_cons_succ, List.getElem_cons_zero, List.setIfInBounds_toArray, List.set_cons_zero, List.set_cons_succ]
      refine S_take (i := 32) (v := .bool true) rfl rfl (by kernel_rfl) (by kernel_rfl) (by kernel_rfl) (fun _ _ _ h => h) (Or.inl ⟨by rfl, fun w hw => by have q := run_sec_eq Sec.zero Sec.zero w; rw [secEq_same, ← HZ.out] at q; simp [execOp, Act.eval, q, run_sec_guard, Result.andThen]⟩) hSz ?_
      simp only [Act.put, List.getElem_toArray, List.getElem_cons_succ, List.getElem_cons_zero, List.setIfInBounds_toArray, List.set_cons_zero, List.set_cons_succ]
      refine S_take (i := 33) (v := .bool true) rfl rfl (by kernel_rfl) (by kernel_rfl) (by kernel_rfl) (fun _ _ _ h => h) (Or.inl ⟨by rfl, fun w hw => by kernel_rfl⟩) hSz ?_
      simp only [Act.put, List.getElem_toArray, List.getElem_cons_succ, List.getElem_cons_zero, List.setIfInBounds_toArray, List.set_cons_zero, List.set_cons_succ]
      refine S_take (i := 34) (v := .bool true) rfl rfl (by kernel_rfl) (by kernel_rfl) (by kernel_rfl) (fun _ _ _ h => h) (Or.inl ⟨by rfl, fun w hw => by kernel_rfl⟩) hSz ?_
      simp only [Act.put, List.getElem_toArray, List.getElem_cons_succ, List.getElem_cons_zero, List.setIfInBounds_toArray, List.set_cons_zero, List.set_cons_succ]
      refine S_take (i := 35) (v := .pointer (some ⟨g, 0, none⟩)) rfl rfl (by kernel_rfl) (by kernel_rfl) (by kernel_rfl) (fun _ _ _ h => h) (Or.inl ⟨by rfl, fun w hw => by kernel_rfl⟩) hSz ?_
      simp only [Act.put, List.getElem_toArray, List.getElem_cons_succ, List.getElem_cons_zero, List.setIfInBounds_toArray, List.set_cons_zero, List.set_cons_succ]
      refine S_take (i := 36) (v := .pointer (some ⟨w.heap.size, 0, none⟩)) rfl rfl (by kernel_rfl) (by kernel_rfl) (by kernel_rfl) (fun _ _ _ h => h) (Or.inl ⟨by rfl, fun w hw => by kernel_rfl⟩) hSz ?_
      simp only [Act.put, List.getElem_toArray, List.getElem_cons_succ, List.getElem_cons_zero, List.setIfInBounds_toArray, List.set_cons_zero, List.set_cons_succ]
      refine S_take (i := 37) (v := .slice AA d.n c) rfl rfl (by kernel_rfl) (by kernel_rfl) (by kernel_rfl) (fun _ _ _ h => h) (Or.inl ⟨by rfl, fun w hw => by have q : w.cell? ⟨_, 0, none⟩ = some (.slice AA d.n c) := hw.cell 0; go_simp⟩) hSz ?_
      simp only [Act.put, List.getElem_toArray, List.getElem_cons_succ, List.getElem_cons_zero, List.setIfInBounds_toArray, List.set_cons_zero, List.set_cons_succ]
      refine S_take (i := 38) (v := .int .i64 d.n) rfl rfl (by kernel_rfl) (by kernel_rfl) (by kernel_rfl) (fun _ _ _ h => h) (Or.inl ⟨by rfl, fun w hw => by go_simp⟩) hSz ?_
      simp only [Act.put, List.getElem_toArray, List.getElem_cons_succ, List.getElem_cons_zero, List.setIfInBounds_toArray, List.set_cons_zero, List.set_cons_succ]
      refine S_take (i := 40) (v := .agg Zs.toArray) rfl rfl (by kernel_rfl) (by kernel_rfl) (by kernel_rfl) (fun _ _ _ h => h) (Or.inl ⟨by rfl, fun w hw => by have q := hbd6 w; simp [execOp, Act.eval, q, Result.andThen]⟩) hSz ?_
      simp only [Act.put, List.getElem_toArray, List.getElem_cons_succ, List.getElem_cons_zero, List.setIfInBounds_toArray, List.set_cons_zero, List.set_cons_succ]
      refine L_one (j := 39) (by kernel_rfl) rfl (by rfl) ?_
      simp only [Act.put, List.getElem_toArray, List.getElem_cons_succ, List.getElem_cons_zero, List.setIfInBounds_toArray, List.set_cons_zero, List.set_cons_succ]
      refine wp_called (by kernel_rfl) (hold_sure HT.out.1 (d.n)) ?_
      rintro e wU ⟨rfl, bb⟩
      rw [hz2]
      have HT2 := Lib.hid (HT.out.below bb)
      have HB2 := Lib.hid (HB.out.trans (bb.mono HB.out.size))
      clear HT HB hSz bb
      have HT := HT2
      have HB := HB2
      have hSz := HT.out.2.2
      clear HT2 HB2
      refine ⟨_, rfl, hSz, ?_⟩
      simp only [Sec.v]
      rw [← HZ.out]
      simp only [Act.put, List.getElem_toArray, List.getElem_cons_succ, List.getElem_cons_zero, List.setIfInBounds_toArray, List.set_cons_zero, List.set_cons_succ]
      refine S_take (i := 41) (v := .bool true) rfl rfl (by kernel_rfl) (by kernel_rfl) (by kernel_rfl) (fun _ _ _ h => h) (Or.inl ⟨by rfl, fun w hw => by have q := run_sec_eq Sec.zero Sec.zero w; rw [secEq_same, ← HZ.out] at q; simp [execOp, Act.eval, q, run_sec_guard, Result.andThen]⟩) hSz ?_
      simp only [Act.put, List.getElem_toArray, List.getElem_cons_succ, List.getElem_cons_zero, List.setIfInBounds_toArray, List.set_cons_zero, List.set_cons_succ]
      refine S_take (i := 42) (v := .bool true) rfl rfl (by kernel_rfl) (by kernel_rfl) (by kernel_rfl) (fun _ _ _ h => h) (Or.inl ⟨by rfl, fun w hw => by kernel_rfl⟩) hSz ?_
      simp only [Act.put, List.getElem_toArray, List.getElem_cons_succ, List.getElem_cons_zero, List.setIfInBounds_toArray, List.set_cons_zero, List.set_cons_succ]
      refine L_one (j := 43) (by kernel_rfl) rfl (by rfl) ?_
      simp only [Act.put, List.getElem_toArray, List.getElem_cons_succ, List.getElem_cons_zero, List.setIfInBounds_toArray, List.set_cons_zero, List.set_cons_succ]
      refine wp_yields (v := .bool true) (by kernel_rfl) ⟨hSz, ?_⟩
      simp only [Act.put, List.getElem_toArray, List.getElem_cons_succ, List.getElem_cons_zero, List.setIfInBounds_toArray, List.set_cons_zero, List.set_cons_succ]
      refine L_done (by kernel_rfl) ?_
      refine NoPanic.normal ?_
      clear hSz
      go_wp2
      go_ret
      exact ⟨rfl, HB.out⟩
end
end Go.Proofs.Ytgcghoalepkdfaa
