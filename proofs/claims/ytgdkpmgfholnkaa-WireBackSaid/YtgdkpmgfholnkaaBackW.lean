/-
  The law's own back: what was written is read. Conditions: the reader has just those bytes.
-/
import Derived.Test.YtgdkpmgfholnkaaBk
import Derived.Deep.LoopGhost
namespace Go.Proofs.Ytgdkpmgfholnkaa
open Go.RowKit
set_option linter.unusedSimpArgs false
set_option linter.unusedVariables false
theorem drop_flat {os : List ValV} {k : Nat} {o : ValV} (h : os[k]? = some o) : (os.drop k).flatMap ValV.bytes = o.bytes ++ (os.drop (k + 1)).flatMap ValV.bytes := by
  have hk : k < os.length := (List.getElem?_eq_some_iff.1 h).1
  rw [List.drop_eq_getElem_cons hk, (List.getElem?_eq_some_iff.1 h).2, List.flatMap_cons]
theorem kind_byte (o : ValV) (rest : List Nat) (h : o.kind = 0) : (⟨o.bytes ++ rest, false⟩ : RD).take 1 = ⟨rest, false⟩ ∧ (((⟨o.bytes ++ rest, false⟩ : RD).byte : Nat) : Int) = o.n % 256 := by
  have e : o.bytes = [(o.n % 256).toNat] := by unfold ValV.bytes; rw [if_pos h]
  rw [e]
  have := take_one (o.n % 256).toNat rest
  exact ⟨this.1, by rw [show (⟨[(o.n % 256).toNat] ++ rest, false⟩ : RD).byte = _ from this.2]; omega⟩
theorem kind_flag (o : ValV) (rest : List Nat) (h : o.kind = 2) : (⟨o.bytes ++ rest, false⟩ : RD).flagTo = ⟨rest, false⟩ ∧ (⟨o.bytes ++ rest, false⟩ : RD).flag = (o.n == 1) := by
  have e : o.bytes = [if (o.n == 1) then 1 else 0] := by unfold ValV.bytes; rw [if_neg (by omega), if_pos h]; simp
  rw [e]
  exact flag_back (o.n == 1) rest
theorem kind_bytes (o : ValV) (rest : List Nat) (hs : o.Small) (h : o.kind = 3 ∨ o.kind = 4) : (⟨o.bytes ++ rest, false⟩ : RD).bytesTo = ⟨rest, false⟩ ∧ (⟨o.bytes ++ rest, false⟩ : RD).bytes = o.b := by
  have e : o.bytes = numB o.b.length ++ o.b := by
    unfold ValV.bytes
    rw [if_neg (by omega), if_neg (by omega)]
    rcases h with h | h
    · rw [if_pos h]
    · rw [if_neg (by omega), if_pos h]
  rw [e]
  exact bytes_back o.b rest (by have := hs.1; omega)
theorem kind_nums (o : ValV) (rest : List Nat) (hs : o.Small) (hw : o.Wide) (h : o.kind = 5) : (⟨o.bytes ++ rest, false⟩ : RD).numsTo = ⟨rest, false⟩ ∧ (⟨o.bytes ++ rest, false⟩ : RD).nums = o.l := by
  have e : o.bytes = numsB o.l := by unfold ValV.bytes; rw [if_neg (by omega), if_neg (by omega), if_neg (by omega), if_neg (by omega), if_pos h]
  rw [e]
  exact nums_back o.l rest (by have := hs.2; omega) hw.2
theorem kind_num (o : ValV) (rest : List Nat) (hw : o.Wide) (h0 : o.kind ≠ 0) (h2 : o.kind ≠ 2) (h3 : o.kind ≠ 3) (h4 : o.kind ≠ 4) (h5 : o.kind ≠ 5) : (⟨o.bytes ++ rest, false⟩ : RD).take 8 = ⟨rest, false⟩ ∧ (⟨o.bytes ++ rest, false⟩ : RD).num = o.n := by
  have e : o.bytes = numB o.n := by unfold ValV.bytes; rw [if_neg h0, if_neg h2, if_neg h3, if_neg h4, if_neg h5]
  rw [e]
  exact take_num o.n rest hw.1.1 hw.1.2
theorem val_cells {w : World} {g : Nat} {o : ValV} (h : Blk w g 46 o.cs.toArray) : w.cell? ⟨g, 0, none⟩ = some (.int .i64 o.kind) ∧ w.cell? ⟨g, 1, none⟩ = some (.int .i64 o.n) ∧ w.cell? ⟨g, 2, none⟩ = some (.slice o.A o.b.length o.c) ∧ w.cell? ⟨g, 3, none⟩ = some (.slice o.A2 o.l.length o.c2) :=
  ⟨by rw [h.cell]; rfl, by rw [h.cell]; rfl, by rw [h.cell]; rfl, by rw [h.cell]; rfl⟩
set_option maxHeartbeats 2000000 in
theorem back_any (w0 w : World) (base : Nat) (hbase : w0.heap.size ≤ base) (hbw : base ≤ w.heap.size) (F : List Nat) (p : Option Addr) (A0 : Option Addr) (n0 c0 : Nat) (os : List ValV) (hV : VCells w0 w0.heap.size A0 n0 os ∧ ∀ o ∈ os, o.At w0 w0.heap.size ∧ o.Small ∧ o.Wide) (hb : Below w0.heap.size w0 w)
    (h : Rd w base F p ⟨os.flatMap ValV.bytes, false⟩) (hn : n0 ≤ 41) (hlen : (os.flatMap ValV.bytes).length ≤ 800000) :
    Calls Try.prog 16 #[.pointer p, .slice A0 n0 c0] w fun e w' => e = .returned (.bool true) ∧ ∃ F', Rd w' base F' p ⟨[], false⟩ ∧ Below base w w' := by
  have HV := Lib.hid hV
  have HR := Lib.hid h
  have HB := Lib.hid hb
  have hzv := val_zero
  clear hV h hb
  go_enter Try.func16, Try.ntmps16
  go_wp2
  go_loopg [10] n0 (fun gk i wr => ∃ (k : Nat) (F : List Nat), k ≤ n0 ∧ gk = n0 - k ∧ i = .int .i64 k ∧ Rd wr base F p ⟨(os.drop k).flatMap ValV.bytes, false⟩ ∧ Below base w wr)
  case atStart => exact ⟨0, F, by omega, by omega, rfl, by simpa using HR.out, Below.refl _ _⟩
  case round =>
    obtain ⟨k, F1, hk, rfl, rfl, hr, hbl⟩ := hrel
    clear HR
    by_cases hlt : k < n0
    · obtain ⟨ad, o, rfl, hox, hc⟩ := (show VCells wr w0.heap.size A0 n0 os from Reads.since HV.out.1 (HB.out.trans (hbl.mono hbase))).get hlt
      have hmem := List.mem_of_getElem? hox
      have hall := HV.out.2 o hmem
      rw [drop_flat hox] at hr
      have hrl : (o.bytes ++ (os.drop (k + 1)).flatMap ValV.bytes).length ≤ 800000 := by
        rw [← drop_flat hox]
        have : (os.flatMap ValV.bytes).length = ((os.take k).flatMap ValV.bytes).length + ((os.drop k).flatMap ValV.bytes).length := by rw [← List.length_append, ← List.flatMap_append, List.take_append_drop]
        omega
      have hu := Try.underlying46
      have hi : (Try.prog.info? 46).map (·.size) = some o.cs.length := val_size
      have K1 := Blk.new wr 46 o.cs.toArray
      have b1 := hbl.alloc (Nat.le_trans hbw hbl.size) (.cells o.cs.toArray 46)
      have q0 := (val_cells K1).1
      have HR1 := Lib.hid (hr.below (below_alloc wr (.cells o.cs.toArray 46)))
      have HS := Lib.hid (And.intro b1 K1)
      have HA := Lib.hid hall
      have hgF : wr.heap.size ∉ F1 := fun hm => by have := hr.under _ hm; omega
      generalize hrest : (os.drop (k + 1)).flatMap ValV.bytes = rest at *
      clear hr hbl hox K1 b1 hall hmem
      by_cases k0 : o.kind = 0
      · have hd0 : (o.kind == 0) = true := by simpa using k0
        have k0 := Lib.hid k0
        -- {byte
        go_wp2_with (first
              | (refine wpList_load_at rfl 46 (.tmp 12) rfl _ rfl o.cs _ hc hu rfl hi ?_)
              | (refine wpList_store_newN rfl 46 (.tmp 6) (.tmp 13) rfl wr.heap.size rfl o.cs _ rfl rfl hi rfl o.one ?_))
        have hsz1 : wr.heap.size < (wr.alloc (.cells o.cs.toArray 46)).heap.size := by simp
        generalize wr.alloc (.cells o.cs.toArray 46) = w5 at *
        generalize wr.heap.size = gv at *
        refine any_beginL (fun w' => Below base w w' ∧ Blk w' gv 46 o.cs.toArray) 99 (by kernel_rfl) ?_
        have hS := HS.out
        have hbS : base ≤ w5.drew.heap.size := Nat.le_trans hbw hS.1.size
        have hS' : Below base w w5.drew ∧ Blk w5.drew gv 46 o.cs.toArray := ⟨hS.1.drew, hS.2⟩
        refine S_take (i := 2) (v := .pointer (some ⟨gv, 1, none⟩)) rfl rfl (by kernel_rfl) (by kernel_rfl) (by kernel_rfl) (fun _ _ _ h => h) (Or.inl ⟨by rfl, fun w _ => by kernel_rfl⟩) hS' ?_
        simp only [Act.put, List.getElem_toArray, List.getElem_cons_succ, List.getElem_cons_zero, List.setIfInBounds_toArray, List.set_cons_zero, List.set_cons_succ]
        refine S_take (i := 3) (v := .int .i64 o.n) rfl rfl (by kernel_rfl) (by kernel_rfl) (by kernel_rfl) (fun _ _ _ h => h) (Or.inl ⟨by rfl, fun w hw => by have q := (val_cells hw.2).2.1; go_simp⟩) hS' ?_
        simp only [Act.put, List.getElem_toArray, List.getElem_cons_succ, List.getElem_cons_zero, List.setIfInBounds_toArray, List.set_cons_zero, List.set_cons_succ]
        refine S_take (i := 0) (v := .pointer p) rfl rfl (by kernel_rfl) (by kernel_rfl) (by kernel_rfl) (fun _ _ _ h => h) (Or.inl ⟨by rfl, fun w _ => by kernel_rfl⟩) hS' ?_
        simp only [Act.put, List.getElem_toArray, List.getElem_cons_succ, List.getElem_cons_zero, List.setIfInBounds_toArray, List.set_cons_zero, List.set_cons_succ]
        refine S_take (i := 4) (v := .int .u8 (o.n % 256)) rfl rfl (by kernel_rfl) (by kernel_rfl) (by kernel_rfl) (fun _ _ _ h => h) (Or.inl ⟨by rfl, fun w hw => by go_simp; exact IntKind.wrap_u8 _⟩) hS' ?_
        simp only [Act.put, List.getElem_toArray, List.getElem_cons_succ, List.getElem_cons_zero, List.setIfInBounds_toArray, List.set_cons_zero, List.set_cons_succ]
        have R5 := HR1.out.below ((Below.refl w5.heap.size w5).drew)
        refine L_one (j := 1) (by kernel_rfl) rfl (by rfl) ?_
        simp only [Act.put, List.getElem_toArray, List.getElem_cons_succ, List.getElem_cons_zero, List.setIfInBounds_toArray, List.set_cons_zero, List.set_cons_succ]
        refine wp_called (by kernel_rfl) (rbyte_any w5.drew base F1 p _ R5 hbS) ?_
        obtain ⟨t1, t2⟩ := kind_byte o rest k0.out
        rw [t1, t2]
        rintro e w6 ⟨rfl, F6, r6, o6, f6⟩
        have b6 : Below base w w6 := hS'.1.trans (o6.below R5.over hbS)
        have K6 : Blk w6 gv 46 o.cs.toArray := hS'.2.of (o6.block gv hS'.2.lt hgF)
        refine ⟨_, rfl, ⟨b6, K6⟩, ?_⟩
        simp only [Act.put, List.getElem_toArray, List.getElem_cons_succ, List.getElem_cons_zero, List.setIfInBounds_toArray, List.set_cons_zero, List.set_cons_succ]
        refine L_one (j := 5) (by kernel_rfl) rfl (by rfl) ?_
        simp only [Act.put, List.getElem_toArray, List.getElem_cons_succ, List.getElem_cons_zero, List.setIfInBounds_toArray, List.set_cons_zero, List.set_cons_succ]
        refine wp_ran (v := .bool true) (w' := w6) (by go_simp) ⟨⟨b6, K6⟩, ?_⟩
        simp only [Act.put, List.getElem_toArray, List.getElem_cons_succ, List.getElem_cons_zero, List.setIfInBounds_toArray, List.set_cons_zero, List.set_cons_succ]
        refine L_one (j := 6) (by kernel_rfl) rfl (by rfl) ?_
        simp only [Act.put, List.getElem_toArray, List.getElem_cons_succ, List.getElem_cons_zero, List.setIfInBounds_toArray, List.set_cons_zero, List.set_cons_succ]
        refine wp_ran (v := .bool true) (w' := w6) (by kernel_rfl) ⟨⟨b6, K6⟩, ?_⟩
        simp only [Act.put, List.getElem_toArray, List.getElem_cons_succ, List.getElem_cons_zero, List.setIfInBounds_toArray, List.set_cons_zero, List.set_cons_succ]
        refine L_done (by kernel_rfl) ?_
        refine NoPanic.normal ?_
        have HE := Lib.hid (And.intro r6 b6)
        clear r6 o6 f6 b6 K6 R5 hS hS' t1 t2 HS HR1 HA
        go_wp2
        go_roundg (n0 - (k + 1))
        case rel => exact ⟨k + 1, F6, by omega, by omega, by go_num, by rw [hrest]; exact HE.out.1, HE.out.2⟩
        case measure => omega
        -- byte}
      have hd0 : (o.kind == 0) = false := by simpa using k0
      by_cases k2 : o.kind = 2
      · have hd2 : (o.kind == 2) = true := by simpa using k2
        have k2 := Lib.hid k2
        -- {flag
        go_wp2_with (first
              | (refine wpList_load_at rfl 46 (.tmp 12) rfl _ rfl o.cs _ hc hu rfl hi ?_)
              | (refine wpList_store_newN rfl 46 (.tmp 6) (.tmp 13) rfl wr.heap.size rfl o.cs _ rfl rfl hi rfl o.one ?_))
        have hsz1 : wr.heap.size < (wr.alloc (.cells o.cs.toArray 46)).heap.size := by simp
        generalize wr.alloc (.cells o.cs.toArray 46) = w5 at *
        generalize wr.heap.size = gv at *
        refine any_beginL (fun w' => Below base w w' ∧ Blk w' gv 46 o.cs.toArray) 99 (by kernel_rfl) ?_
        have hS := HS.out
        have hbS : base ≤ w5.drew.heap.size := Nat.le_trans hbw hS.1.size
        have hS' : Below base w w5.drew ∧ Blk w5.drew gv 46 o.cs.toArray := ⟨hS.1.drew, hS.2⟩
        refine S_take (i := 2) (v := .pointer (some ⟨gv, 1, none⟩)) rfl rfl (by kernel_rfl) (by kernel_rfl) (by kernel_rfl) (fun _ _ _ h => h) (Or.inl ⟨by rfl, fun w _ => by kernel_rfl⟩) hS' ?_
        simp only [Act.put, List.getElem_toArray, List.getElem_cons_succ, List.getElem_cons_zero, List.setIfInBounds_toArray, List.set_cons_zero, List.set_cons_succ]
        refine S_take (i := 3) (v := .int .i64 o.n) rfl rfl (by kernel_rfl) (by kernel_rfl) (by kernel_rfl) (fun _ _ _ h => h) (Or.inl ⟨by rfl, fun w hw => by have q := (val_cells hw.2).2.1; go_simp⟩) hS' ?_
        simp only [Act.put, List.getElem_toArray, List.getElem_cons_succ, List.getElem_cons_zero, List.setIfInBounds_toArray, List.set_cons_zero, List.set_cons_succ]
        refine S_take (i := 0) (v := .pointer p) rfl rfl (by kernel_rfl) (by kernel_rfl) (by kernel_rfl) (fun _ _ _ h => h) (Or.inl ⟨by rfl, fun w _ => by kernel_rfl⟩) hS' ?_
        simp only [Act.put, List.getElem_toArray, List.getElem_cons_succ, List.getElem_cons_zero, List.setIfInBounds_toArray, List.set_cons_zero, List.set_cons_succ]
        refine S_take (i := 4) (v := .bool (o.n == 1)) rfl rfl (by kernel_rfl) (by kernel_rfl) (by kernel_rfl) (fun _ _ _ h => h) (Or.inl ⟨by rfl, fun w hw => by go_simp⟩) hS' ?_
        simp only [Act.put, List.getElem_toArray, List.getElem_cons_succ, List.getElem_cons_zero, List.setIfInBounds_toArray, List.set_cons_zero, List.set_cons_succ]
        have R5 := HR1.out.below ((Below.refl w5.heap.size w5).drew)
        refine L_one (j := 1) (by kernel_rfl) rfl (by rfl) ?_
        simp only [Act.put, List.getElem_toArray, List.getElem_cons_succ, List.getElem_cons_zero, List.setIfInBounds_toArray, List.set_cons_zero, List.set_cons_succ]
        refine wp_called (by kernel_rfl) (rflag_any w5.drew base F1 p _ R5 hbS) ?_
        obtain ⟨t1, t2⟩ := kind_flag o rest k2.out
        rw [t1, t2]
        rintro e w6 ⟨rfl, F6, r6, o6, f6⟩
        have b6 : Below base w w6 := hS'.1.trans (o6.below R5.over hbS)
        have K6 : Blk w6 gv 46 o.cs.toArray := hS'.2.of (o6.block gv hS'.2.lt hgF)
        refine ⟨_, rfl, ⟨b6, K6⟩, ?_⟩
        simp only [Act.put, List.getElem_toArray, List.getElem_cons_succ, List.getElem_cons_zero, List.setIfInBounds_toArray, List.set_cons_zero, List.set_cons_succ]
        refine L_one (j := 5) (by kernel_rfl) rfl (by rfl) ?_
        simp only [Act.put, List.getElem_toArray, List.getElem_cons_succ, List.getElem_cons_zero, List.setIfInBounds_toArray, List.set_cons_zero, List.set_cons_succ]
        refine wp_ran (v := .bool true) (w' := w6) (by go_simp) ⟨⟨b6, K6⟩, ?_⟩
        simp only [Act.put, List.getElem_toArray, List.getElem_cons_succ, List.getElem_cons_zero, List.setIfInBounds_toArray, List.set_cons_zero, List.set_cons_succ]
        refine L_one (j := 6) (by kernel_rfl) rfl (by rfl) ?_
        simp only [Act.put, List.getElem_toArray, List.getElem_cons_succ, List.getElem_cons_zero, List.setIfInBounds_toArray, List.set_cons_zero, List.set_cons_succ]
        refine wp_ran (v := .bool true) (w' := w6) (by kernel_rfl) ⟨⟨b6, K6⟩, ?_⟩
        simp only [Act.put, List.getElem_toArray, List.getElem_cons_succ, List.getElem_cons_zero, List.setIfInBounds_toArray, List.set_cons_zero, List.set_cons_succ]
        refine L_done (by kernel_rfl) ?_
        refine NoPanic.normal ?_
        have HE := Lib.hid (And.intro r6 b6)
        clear r6 o6 f6 b6 K6 R5 hS hS' t1 t2 HS HR1 HA
        go_wp2
        go_roundg (n0 - (k + 1))
        case rel => exact ⟨k + 1, F6, by omega, by omega, by go_num, by rw [hrest]; exact HE.out.1, HE.out.2⟩
        case measure => omega
        -- flag}
      have hd2 : (o.kind == 2) = false := by simpa using k2
      by_cases k3 : o.kind = 3
      · have hd3 : (o.kind == 3) = true := by simpa using k3
        have k3 := Lib.hid k3
        -- {bytes
        go_wp2_with (first
              | (refine wpList_load_at rfl 46 (.tmp 12) rfl _ rfl o.cs _ hc hu rfl hi ?_)
              | (refine wpList_store_newN rfl 46 (.tmp 6) (.tmp 13) rfl wr.heap.size rfl o.cs _ rfl rfl hi rfl o.one ?_))
        have hsz1 : wr.heap.size < (wr.alloc (.cells o.cs.toArray 46)).heap.size := by simp
        generalize wr.alloc (.cells o.cs.toArray 46) = w5 at *
        generalize wr.heap.size = gv at *
        refine any_beginL (fun w' => Below base w w' ∧ Blk w' gv 46 o.cs.toArray) 99 (by kernel_rfl) ?_
        have hS := HS.out
        have hbS : base ≤ w5.drew.heap.size := Nat.le_trans hbw hS.1.size
        have hS' : Below base w w5.drew ∧ Blk w5.drew gv 46 o.cs.toArray := ⟨hS.1.drew, hS.2⟩
        refine S_take (i := 2) (v := .pointer (some ⟨gv, 2, none⟩)) rfl rfl (by kernel_rfl) (by kernel_rfl) (by kernel_rfl) (fun _ _ _ h => h) (Or.inl ⟨by rfl, fun w _ => by kernel_rfl⟩) hS' ?_
        simp only [Act.put, List.getElem_toArray, List.getElem_cons_succ, List.getElem_cons_zero, List.setIfInBounds_toArray, List.set_cons_zero, List.set_cons_succ]
        refine S_take (i := 3) (v := .slice o.A o.b.length o.c) rfl rfl (by kernel_rfl) (by kernel_rfl) (by kernel_rfl) (fun _ _ _ h => h) (Or.inl ⟨by rfl, fun w hw => by have q := (val_cells hw.2).2.2.1; go_simp⟩) hS' ?_
        simp only [Act.put, List.getElem_toArray, List.getElem_cons_succ, List.getElem_cons_zero, List.setIfInBounds_toArray, List.set_cons_zero, List.set_cons_succ]
        refine S_take (i := 0) (v := .pointer p) rfl rfl (by kernel_rfl) (by kernel_rfl) (by kernel_rfl) (fun _ _ _ h => h) (Or.inl ⟨by rfl, fun w _ => by kernel_rfl⟩) hS' ?_
        simp only [Act.put, List.getElem_toArray, List.getElem_cons_succ, List.getElem_cons_zero, List.setIfInBounds_toArray, List.set_cons_zero, List.set_cons_succ]
        have R5 := HR1.out.below ((Below.refl w5.heap.size w5).drew)
        refine L_one (j := 1) (by kernel_rfl) rfl (by rfl) ?_
        simp only [Act.put, List.getElem_toArray, List.getElem_cons_succ, List.getElem_cons_zero, List.setIfInBounds_toArray, List.set_cons_zero, List.set_cons_succ]
        refine wp_called (by kernel_rfl) (rbytes_any w5.drew base F1 p _ R5 hbS (by simp only; omega)) ?_
        obtain ⟨t1, t2⟩ := kind_bytes o rest HA.out.2.1 (.inl k3.out)
        rw [t1, t2]
        rintro e w6 ⟨rv, F6, rfl, hrv, r6, o6, f6, hlt6, -⟩
        have b6 : Below base w w6 := hS'.1.trans (o6.below R5.over hbS)
        have K6 : Blk w6 gv 46 o.cs.toArray := hS'.2.of (o6.block gv hS'.2.lt hgF)
        refine ⟨_, rfl, ⟨b6, K6⟩, ?_⟩
        simp only [Act.put, List.getElem_toArray, List.getElem_cons_succ, List.getElem_cons_zero, List.setIfInBounds_toArray, List.set_cons_zero, List.set_cons_succ]
        obtain ⟨Ar, cr, rfl, -, -, -⟩ := hrv.form
        have hb6 := hrv.bytes hlt6
        refine L_one (j := 4) (by kernel_rfl) rfl (by rfl) ?_
        simp only [Act.put, List.getElem_toArray, List.getElem_cons_succ, List.getElem_cons_zero, List.setIfInBounds_toArray, List.set_cons_zero, List.set_cons_succ]
        refine wp_called (by kernel_rfl) (same_any Ar o.A _ o.b.length cr o.c _ _ _ _ w6 hb6 (HA.out.1.since (HB.out.trans (b6.mono hbase))).b) ?_
        rintro e w7 ⟨b, rfl, hb, hw⟩
        subst hw
        obtain rfl := hb rfl
        refine ⟨_, rfl, ⟨b6, K6⟩, ?_⟩
        simp only [Act.put, List.getElem_toArray, List.getElem_cons_succ, List.getElem_cons_zero, List.setIfInBounds_toArray, List.set_cons_zero, List.set_cons_succ]
        refine L_one (j := 5) (by kernel_rfl) rfl (by rfl) ?_
        simp only [Act.put, List.getElem_toArray, List.getElem_cons_succ, List.getElem_cons_zero, List.setIfInBounds_toArray, List.set_cons_zero, List.set_cons_succ]
        refine wp_ran (v := .bool true) (w' := w6) (by kernel_rfl) ⟨⟨b6, K6⟩, ?_⟩
        simp only [Act.put, List.getElem_toArray, List.getElem_cons_succ, List.getElem_cons_zero, List.setIfInBounds_toArray, List.set_cons_zero, List.set_cons_succ]
        refine L_done (by kernel_rfl) ?_
        refine NoPanic.normal ?_
        have HE := Lib.hid (And.intro r6 b6)
        clear r6 o6 f6 b6 K6 R5 hS hS' t1 t2 HS HR1 HA hrv hb6 hlt6
        go_wp2
        go_roundg (n0 - (k + 1))
        case rel => exact ⟨k + 1, F6, by omega, by omega, by go_num, by rw [hrest]; exact HE.out.1, HE.out.2⟩
        case measure => omega
        -- bytes}
      have hd3 : (o.kind == 3) = false := by simpa using k3
      by_cases k4 : o.kind = 4
      · have hd4 : (o.kind == 4) = true := by simpa using k4
        have k4 := Lib.hid k4
        -- {text
        go_wp2_with (first
              | (refine wpList_load_at rfl 46 (.tmp 12) rfl _ rfl o.cs _ hc hu rfl hi ?_)
              | (refine wpList_store_newN rfl 46 (.tmp 6) (.tmp 13) rfl wr.heap.size rfl o.cs _ rfl rfl hi rfl o.one ?_))
        have hsz1 : wr.heap.size < (wr.alloc (.cells o.cs.toArray 46)).heap.size := by simp
        generalize wr.alloc (.cells o.cs.toArray 46) = w5 at *
        generalize wr.heap.size = gv at *
        refine any_beginL (fun w' => Below base w w' ∧ Blk w' gv 46 o.cs.toArray) 99 (by kernel_rfl) ?_
        have hS := HS.out
        have hbS : base ≤ w5.drew.heap.size := Nat.le_trans hbw hS.1.size
        have hS' : Below base w w5.drew ∧ Blk w5.drew gv 46 o.cs.toArray := ⟨hS.1.drew, hS.2⟩
        refine S_take (i := 2) (v := .pointer (some ⟨gv, 2, none⟩)) rfl rfl (by kernel_rfl) (by kernel_rfl) (by kernel_rfl) (fun _ _ _ h => h) (Or.inl ⟨by rfl, fun w _ => by kernel_rfl⟩) hS' ?_
        simp only [Act.put, List.getElem_toArray, List.getElem_cons_succ, List.getElem_cons_zero, List.setIfInBounds_toArray, List.set_cons_zero, List.set_cons_succ]
        refine S_take (i := 3) (v := .slice o.A o.b.length o.c) rfl rfl (by kernel_rfl) (by kernel_rfl) (by kernel_rfl) (fun _ _ _ h => h) (Or.inl ⟨by rfl, fun w hw => by have q := (val_cells hw.2).2.2.1; go_simp⟩) hS' ?_
        simp only [Act.put, List.getElem_toArray, List.getElem_cons_succ, List.getElem_cons_zero, List.setIfInBounds_toArray, List.set_cons_zero, List.set_cons_succ]
        refine S_take (i := 0) (v := .pointer p) rfl rfl (by kernel_rfl) (by kernel_rfl) (by kernel_rfl) (fun _ _ _ h => h) (Or.inl ⟨by rfl, fun w _ => by kernel_rfl⟩) hS' ?_
        simp only [Act.put, List.getElem_toArray, List.getElem_cons_succ, List.getElem_cons_zero, List.setIfInBounds_toArray, List.set_cons_zero, List.set_cons_succ]
        refine S_take (i := 4) (v := .string (strOf o.b)) rfl rfl (by kernel_rfl) (by kernel_rfl) (by kernel_rfl) (fun _ _ _ h => h) (Or.inl ⟨by rfl, fun w hw => by have q := str_of (P := Try.prog) (HA.out.1.since (HB.out.trans (hw.1.mono hbase))).b o.c 22 9 5 Try.underlying22 Try.underlying5 Try.underlying9; go_simp⟩) hS' ?_
        simp only [Act.put, List.getElem_toArray, List.getElem_cons_succ, List.getElem_cons_zero, List.setIfInBounds_toArray, List.set_cons_zero, List.set_cons_succ]
        have R5 := HR1.out.below ((Below.refl w5.heap.size w5).drew)
        refine L_one (j := 1) (by kernel_rfl) rfl (by rfl) ?_
        simp only [Act.put, List.getElem_toArray, List.getElem_cons_succ, List.getElem_cons_zero, List.setIfInBounds_toArray, List.set_cons_zero, List.set_cons_succ]
        refine wp_called (by kernel_rfl) (rtext_any w5.drew base F1 p _ R5 hbS) ?_
        obtain ⟨t1, t2⟩ := kind_bytes o rest HA.out.2.1 (.inr k4.out)
        rw [t1, t2]
        rintro e w6 ⟨rfl, F6, r6, o6, f6⟩
        have b6 : Below base w w6 := hS'.1.trans (o6.below R5.over hbS)
        have K6 : Blk w6 gv 46 o.cs.toArray := hS'.2.of (o6.block gv hS'.2.lt hgF)
        refine ⟨_, rfl, ⟨b6, K6⟩, ?_⟩
        simp only [Act.put, List.getElem_toArray, List.getElem_cons_succ, List.getElem_cons_zero, List.setIfInBounds_toArray, List.set_cons_zero, List.set_cons_succ]
        refine L_one (j := 5) (by kernel_rfl) rfl (by rfl) ?_
        simp only [Act.put, List.getElem_toArray, List.getElem_cons_succ, List.getElem_cons_zero, List.setIfInBounds_toArray, List.set_cons_zero, List.set_cons_succ]
        refine wp_ran (v := .bool true) (w' := w6) (by go_simp) ⟨⟨b6, K6⟩, ?_⟩
        simp only [Act.put, List.getElem_toArray, List.getElem_cons_succ, List.getElem_cons_zero, List.setIfInBounds_toArray, List.set_cons_zero, List.set_cons_succ]
        refine L_one (j := 6) (by kernel_rfl) rfl (by rfl) ?_
        simp only [Act.put, List.getElem_toArray, List.getElem_cons_succ, List.getElem_cons_zero, List.setIfInBounds_toArray, List.set_cons_zero, List.set_cons_succ]
        refine wp_ran (v := .bool true) (w' := w6) (by kernel_rfl) ⟨⟨b6, K6⟩, ?_⟩
        simp only [Act.put, List.getElem_toArray, List.getElem_cons_succ, List.getElem_cons_zero, List.setIfInBounds_toArray, List.set_cons_zero, List.set_cons_succ]
        refine L_done (by kernel_rfl) ?_
        refine NoPanic.normal ?_
        have HE := Lib.hid (And.intro r6 b6)
        clear r6 o6 f6 b6 K6 R5 hS hS' t1 t2 HS HR1 HA
        go_wp2
        go_roundg (n0 - (k + 1))
        case rel => exact ⟨k + 1, F6, by omega, by omega, by go_num, by rw [hrest]; exact HE.out.1, HE.out.2⟩
        case measure => omega
        -- text}
      have hd4 : (o.kind == 4) = false := by simpa using k4
      by_cases k5 : o.kind = 5
      · have hd5 : (o.kind == 5) = true := by simpa using k5
        have k5 := Lib.hid k5
        -- {nums
        go_wp2_with (first
              | (refine wpList_load_at rfl 46 (.tmp 12) rfl _ rfl o.cs _ hc hu rfl hi ?_)
              | (refine wpList_store_newN rfl 46 (.tmp 6) (.tmp 13) rfl wr.heap.size rfl o.cs _ rfl rfl hi rfl o.one ?_))
        have hsz1 : wr.heap.size < (wr.alloc (.cells o.cs.toArray 46)).heap.size := by simp
        generalize wr.alloc (.cells o.cs.toArray 46) = w5 at *
        generalize wr.heap.size = gv at *
        refine any_beginL (fun w' => Below base w w' ∧ Blk w' gv 46 o.cs.toArray) 99 (by kernel_rfl) ?_
        have hS := HS.out
        have hbS : base ≤ w5.drew.heap.size := Nat.le_trans hbw hS.1.size
        have hS' : Below base w w5.drew ∧ Blk w5.drew gv 46 o.cs.toArray := ⟨hS.1.drew, hS.2⟩
        refine S_take (i := 2) (v := .pointer (some ⟨gv, 3, none⟩)) rfl rfl (by kernel_rfl) (by kernel_rfl) (by kernel_rfl) (fun _ _ _ h => h) (Or.inl ⟨by rfl, fun w _ => by kernel_rfl⟩) hS' ?_
        simp only [Act.put, List.getElem_toArray, List.getElem_cons_succ, List.getElem_cons_zero, List.setIfInBounds_toArray, List.set_cons_zero, List.set_cons_succ]
        refine S_take (i := 3) (v := .slice o.A2 o.l.length o.c2) rfl rfl (by kernel_rfl) (by kernel_rfl) (by kernel_rfl) (fun _ _ _ h => h) (Or.inl ⟨by rfl, fun w hw => by have q := (val_cells hw.2).2.2.2; go_simp⟩) hS' ?_
        simp only [Act.put, List.getElem_toArray, List.getElem_cons_succ, List.getElem_cons_zero, List.setIfInBounds_toArray, List.set_cons_zero, List.set_cons_succ]
        refine S_take (i := 0) (v := .pointer p) rfl rfl (by kernel_rfl) (by kernel_rfl) (by kernel_rfl) (fun _ _ _ h => h) (Or.inl ⟨by rfl, fun w _ => by kernel_rfl⟩) hS' ?_
        simp only [Act.put, List.getElem_toArray, List.getElem_cons_succ, List.getElem_cons_zero, List.setIfInBounds_toArray, List.set_cons_zero, List.set_cons_succ]
        have R5 := HR1.out.below ((Below.refl w5.heap.size w5).drew)
        refine L_one (j := 1) (by kernel_rfl) rfl (by rfl) ?_
        simp only [Act.put, List.getElem_toArray, List.getElem_cons_succ, List.getElem_cons_zero, List.setIfInBounds_toArray, List.set_cons_zero, List.set_cons_succ]
        refine wp_called (by kernel_rfl) (rnums_any w5.drew base F1 p _ R5 hbS (by simp only; omega)) ?_
        obtain ⟨t1, t2⟩ := kind_nums o rest HA.out.2.1 HA.out.2.2 k5.out
        rw [t1, t2]
        rintro e w6 ⟨rv, rfl, hrv, F6, r6, o6, f6⟩
        have b6 : Below base w w6 := hS'.1.trans (o6.below R5.over hbS)
        have K6 : Blk w6 gv 46 o.cs.toArray := hS'.2.of (o6.block gv hS'.2.lt hgF)
        refine ⟨_, rfl, ⟨b6, K6⟩, ?_⟩
        simp only [Act.put, List.getElem_toArray, List.getElem_cons_succ, List.getElem_cons_zero, List.setIfInBounds_toArray, List.set_cons_zero, List.set_cons_succ]
        obtain ⟨Ar, cr, rfl, -⟩ := hrv.form
        have hb6 := hrv.ints
        have hsl := HA.out.2.1.2
        refine L_one (j := 4) (by kernel_rfl) rfl (by rfl) ?_
        simp only [Act.put, List.getElem_toArray, List.getElem_cons_succ, List.getElem_cons_zero, List.setIfInBounds_toArray, List.set_cons_zero, List.set_cons_succ]
        refine wp_called (by kernel_rfl) (ints_any Ar o.A2 _ o.l.length cr o.c2 _ _ _ _ w6 hb6 (HA.out.1.since (HB.out.trans (b6.mono hbase))).l (by omega) (by omega)) ?_
        rintro e w7 ⟨b, rfl, hb, b7⟩
        obtain rfl := hb rfl
        have r7 := r6.below b7
        have b6 := b6.trans (b7.mono (Nat.le_trans hbw b6.size))
        have K6 := K6.below b7 K6.lt
        refine ⟨_, rfl, ⟨b6, K6⟩, ?_⟩
        simp only [Act.put, List.getElem_toArray, List.getElem_cons_succ, List.getElem_cons_zero, List.setIfInBounds_toArray, List.set_cons_zero, List.set_cons_succ]
        refine L_one (j := 5) (by kernel_rfl) rfl (by rfl) ?_
        simp only [Act.put, List.getElem_toArray, List.getElem_cons_succ, List.getElem_cons_zero, List.setIfInBounds_toArray, List.set_cons_zero, List.set_cons_succ]
        refine wp_ran (v := .bool true) (w' := w7) (by kernel_rfl) ⟨⟨b6, K6⟩, ?_⟩
        simp only [Act.put, List.getElem_toArray, List.getElem_cons_succ, List.getElem_cons_zero, List.setIfInBounds_toArray, List.set_cons_zero, List.set_cons_succ]
        refine L_done (by kernel_rfl) ?_
        refine NoPanic.normal ?_
        have HE := Lib.hid (And.intro r7 b6)
        clear r6 o6 f6 b6 K6 R5 hS hS' t1 t2 HS HR1 HA hrv hb6 r7 b7
        go_wp2
        go_roundg (n0 - (k + 1))
        case rel => exact ⟨k + 1, F6, by omega, by omega, by go_num, by rw [hrest]; exact HE.out.1, HE.out.2⟩
        case measure => omega
        -- nums}
      have hd5 : (o.kind == 5) = false := by simpa using k5
      -- {num
      go_wp2_with (first
              | (refine wpList_load_at rfl 46 (.tmp 12) rfl _ rfl o.cs _ hc hu rfl hi ?_)
              | (refine wpList_store_newN rfl 46 (.tmp 6) (.tmp 13) rfl wr.heap.size rfl o.cs _ rfl rfl hi rfl o.one ?_))
      have hsz1 : wr.heap.size < (wr.alloc (.cells o.cs.toArray 46)).heap.size := by simp
      generalize wr.alloc (.cells o.cs.toArray 46) = w5 at *
      generalize wr.heap.size = gv at *
      refine any_beginL (fun w' => Below base w w' ∧ Blk w' gv 46 o.cs.toArray) 99 (by kernel_rfl) ?_
      have hS := HS.out
      have hbS : base ≤ w5.drew.heap.size := Nat.le_trans hbw hS.1.size
      have hS' : Below base w w5.drew ∧ Blk w5.drew gv 46 o.cs.toArray := ⟨hS.1.drew, hS.2⟩
      refine S_take (i := 2) (v := .pointer (some ⟨gv, 1, none⟩)) rfl rfl (by kernel_rfl) (by kernel_rfl) (by kernel_rfl) (fun _ _ _ h => h) (Or.inl ⟨by rfl, fun w _ => by kernel_rfl⟩) hS' ?_
      simp only [Act.put, List.getElem_toArray, List.getElem_cons_succ, List.getElem_cons_zero, List.setIfInBounds_toArray, List.set_cons_zero, List.set_cons_succ]
      refine S_take (i := 3) (v := .int .i64 o.n) rfl rfl (by kernel_rfl) (by kernel_rfl) (by kernel_rfl) (fun _ _ _ h => h) (Or.inl ⟨by rfl, fun w hw => by have q := (val_cells hw.2).2.1; go_simp⟩) hS' ?_
      simp only [Act.put, List.getElem_toArray, List.getElem_cons_succ, List.getElem_cons_zero, List.setIfInBounds_toArray, List.set_cons_zero, List.set_cons_succ]
      refine S_take (i := 0) (v := .pointer p) rfl rfl (by kernel_rfl) (by kernel_rfl) (by kernel_rfl) (fun _ _ _ h => h) (Or.inl ⟨by rfl, fun w _ => by kernel_rfl⟩) hS' ?_
      simp only [Act.put, List.getElem_toArray, List.getElem_cons_succ, List.getElem_cons_zero, List.setIfInBounds_toArray, List.set_cons_zero, List.set_cons_succ]
      have R5 := HR1.out.below ((Below.refl w5.heap.size w5).drew)
      refine L_one (j := 1) (by kernel_rfl) rfl (by rfl) ?_
      simp only [Act.put, List.getElem_toArray, List.getElem_cons_succ, List.getElem_cons_zero, List.setIfInBounds_toArray, List.set_cons_zero, List.set_cons_succ]
      refine wp_called (by kernel_rfl) (rnum_any w5.drew base F1 p _ R5 hbS) ?_
      obtain ⟨t1, t2⟩ := kind_num o rest HA.out.2.2 k0 k2 k3 k4 k5
      rw [t1, t2]
      rintro e w6 ⟨rfl, F6, r6, o6, f6⟩
      have b6 : Below base w w6 := hS'.1.trans (o6.below R5.over hbS)
      have K6 : Blk w6 gv 46 o.cs.toArray := hS'.2.of (o6.block gv hS'.2.lt hgF)
      refine ⟨_, rfl, ⟨b6, K6⟩, ?_⟩
      simp only [Act.put, List.getElem_toArray, List.getElem_cons_succ, List.getElem_cons_zero, List.setIfInBounds_toArray, List.set_cons_zero, List.set_cons_succ]
      refine L_one (j := 4) (by kernel_rfl) rfl (by rfl) ?_
      simp only [Act.put, List.getElem_toArray, List.getElem_cons_succ, List.getElem_cons_zero, List.setIfInBounds_toArray, List.set_cons_zero, List.set_cons_succ]
      refine wp_ran (v := .bool true) (w' := w6) (by go_simp) ⟨⟨b6, K6⟩, ?_⟩
      simp only [Act.put, List.getElem_toArray, List.getElem_cons_succ, List.getElem_cons_zero, List.setIfInBounds_toArray, List.set_cons_zero, List.set_cons_succ]
      refine L_one (j := 5) (by kernel_rfl) rfl (by rfl) ?_
      simp only [Act.put, List.getElem_toArray, List.getElem_cons_succ, List.getElem_cons_zero, List.setIfInBounds_toArray, List.set_cons_zero, List.set_cons_succ]
      refine wp_ran (v := .bool true) (w' := w6) (by kernel_rfl) ⟨⟨b6, K6⟩, ?_⟩
      simp only [Act.put, List.getElem_toArray, List.getElem_cons_succ, List.getElem_cons_zero, List.setIfInBounds_toArray, List.set_cons_zero, List.set_cons_succ]
      refine L_done (by kernel_rfl) ?_
      refine NoPanic.normal ?_
      have HE := Lib.hid (And.intro r6 b6)
      clear r6 o6 f6 b6 K6 R5 hS hS' t1 t2 HS HR1 HA
      go_wp2
      go_roundg (n0 - (k + 1))
      case rel => exact ⟨k + 1, F6, by omega, by omega, by go_num, by rw [hrest]; exact HE.out.1, HE.out.2⟩
      case measure => omega
      -- num}
    · obtain rfl : k = n0 := by omega
      have hl := HV.out.1.len
      rw [List.drop_of_length_le (by omega)] at hr
      have HE := Lib.hid (And.intro hr hbl)
      clear hr hbl
      go_wp2
      go_ret
      exact ⟨rfl, F1, HE.out.1, HE.out.2⟩
end Go.Proofs.Ytgdkpmgfholnkaa
