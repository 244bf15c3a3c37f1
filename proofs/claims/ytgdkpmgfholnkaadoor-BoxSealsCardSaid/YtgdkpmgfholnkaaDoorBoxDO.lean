/-
  What the document's Open returns. Conditions: none.
-/
import Derived.Test.YtgdkpmgfholnkaaDoorBoxDG
import Derived.Test.YtgdkpmgfholnkaaDoorMr2
import Derived.Deep.CutRange
import Derived.Deep.DeepCutAuto
import Derived.Deep.CutBlock
namespace Go.Proofs.YtgdkpmgfholnkaaDoor
open Go.RowKit
set_option linter.unusedSimpArgs false
set_option linter.unusedVariables false
theorem lbox_zero (w : World) : (zeroValue 31).run Tryd.prog w = .ok (.agg #[.int .i64 0, .int .i64 0, .int .i64 0, .slice none 0 0]) w := by kernel_rfl
theorem lbox_size : (Tryd.prog.info? 31).map (·.size) = some 4 := by kernel_rfl
theorem mrd_zero (w : World) : (zeroValue 86).run Tryd.prog w = .ok (.agg #[.slice none 0 0, .bool false]) w := by kernel_rfl
theorem lbox_results2 {fn : Func} {p u : Tmp} (h : fn.results = #[.cell p 31, .tmp u]) (tmps : Array Value) (w : World) (g : Nat) (cs : List Value) (v : Value) (hl : cs.length = 4) (hp : tmps.getD p undef = .pointer (some ⟨g, 0, none⟩)) (hv : tmps.getD u undef = v) (hg : Blk w g 31 cs.toArray) :
    (results fn tmps).run Tryd.prog w = .ok (.tuple #[.agg cs.toArray, v]) w := by
  rw [results_cell_tmp h, hp, hv]
  have := run_loadVar_row (P := Tryd.prog) w g 31 31 cs.toArray (0, 0) _ hg Tryd.underlying31 rfl (by rw [List.size_toArray, hl]; exact lbox_size)
  simp [asAddr, this, Result.andThen]
/-- what the document's Open answers -/
def DOpen (s : Sec) (w : World) (e : Ending) (w' : World) : Prop :=
  (isSealed s.l = true ∧ ∃ A c, e = .returned (.tuple #[.agg (boxCs (tK s.l) (tG s.l) (tN s.l) (.slice A (tD s.l).length c)).toArray, .bool true]) ∧ Own w' w.heap.size (.slice A (tD s.l).length c) (tD s.l).length (tD s.l) ∧ Below w.heap.size w w') ∨
  (isSealed s.l = false ∧ e = .returned (.tuple #[.agg (boxCs 0 0 0 (.slice none 0 0)).toArray, .bool false]) ∧ Below w.heap.size w w')
/-- where Open stands ahead of the box -/
structure DW (w0 w : World) (base g : Nat) (st : RD) (s : Sec) : Prop where
  mr : Mr w base g st
  bel : Below w0.heap.size w0 w
  sec : Blk w w0.heap.size 33 s.cs.toArray
  ans : Blk w (w0.heap.size + 1) 31 #[.int .i64 0, .int .i64 0, .int .i64 0, .slice none 0 0]
  lt : w0.heap.size + 1 < g
section
variable {w0 w w' : World} {base g : Nat} {st st' : RD} {s : Sec}
theorem DW.below (h : DW w0 w base g st s) (hb : Below w.heap.size w w') : DW w0 w' base g st s :=
  ⟨h.mr.below hb, h.bel.trans (hb.mono h.bel.size), h.sec.below hb h.sec.lt, h.ans.below hb h.ans.lt, h.lt⟩
theorem DW.step (h : DW w0 w base g st s) (m : Mr w' base g st') (o : Only [g] w w') : DW w0 w' base g st' s :=
  ⟨m, h.bel.trans (o.below (fun k hk => by simp at hk; have := h.lt; omega) h.bel.size), h.sec.of (o.block _ h.sec.lt (by simp; have := h.lt; omega)), h.ans.of (o.block _ h.ans.lt (by simp; have := h.lt; omega)), h.lt⟩
theorem DW.set (h : DW w0 w base g st s) {p : Addr} (hp : w0.heap.size + 1 < p.block) (hg : g < p.block) (u : Value) : DW w0 (w.setCell p u) base g st s := by
  refine ⟨h.mr.of ?_ (Below.heap_setCell _ _ _ _ (by omega)), h.bel.setCell (by omega) _, h.sec.far (by omega) _, h.ans.far (by omega) _, h.lt⟩
  exact (Below.refl _ w).setCell (by have := h.mr.over; omega) u
end
set_option maxRecDepth 100000 in
set_option maxHeartbeats 4000000 in
theorem dopen_any (s : Sec) (w : World) :
    Calls Tryd.prog 33 #[.agg s.cs.toArray] w (DOpen s w) := by
  obtain ⟨Zs, hZ, hZs⟩ : ∃ Zs : List Value, (∀ w, (zeroValue 33).run Tryd.prog w = .ok (.agg Zs.toArray) w) ∧ Zs = Sec.zero.cs := ⟨Sec.zero.cs, sec_zero, rfl⟩
  have HZL : Hid (Zs.toArray.size = 128) := Lib.hid (by rw [List.size_toArray, hZs, Sec.cs_len])
  clear hZs
  have hbz := lbox_zero
  have hmz := mrd_zero
  have hgood : (told0 s.l).Good := ⟨fun e => (by cases e), fun b hb => s.lt b (List.mem_of_mem_drop hb)⟩
  have hg1 : (told1 s.l).Good := RD.take_good hgood 1
  have hg2 : (told2 s.l).Good := RD.take_good hg1 8
  have hg3 : (told3 s.l).Good := RD.take_good hg2 8
  have hb0 := RD.byte_lt hgood
  have hb3 := RD.byte_lt hg3
  have hr1 := num_range (told1 s.l)
  have hr2 := num_range (told2 s.l)
  have hlen0 : (told0 s.l).bs.length ≤ 124 := by show (s.l.drop 4).length ≤ 124; rw [List.length_drop, s.len]; omega
  have hlen1 : (told1 s.l).bs.length ≤ 124 := Nat.le_trans (RD.take_le _ 1) hlen0
  have hlen2 : (told2 s.l).bs.length ≤ 124 := Nat.le_trans (RD.take_le _ 8) hlen1
  have hlen3 : (told3 s.l).bs.length ≤ 124 := Nat.le_trans (RD.take_le _ 8) hlen2
  have HGood := Lib.hid hgood
  have K0 := ((Blk.new w 33 s.cs.toArray).alloc (.cells #[.int .i64 0, .int .i64 0, .int .i64 0, .slice none 0 0] 31)).alloc (.cells #[] 5)
  have K1 := (Blk.new (w.alloc (.cells s.cs.toArray 33)) 31 #[.int .i64 0, .int .i64 0, .int .i64 0, .slice none 0 0]).alloc (.cells #[] 5)
  have b0 : Below w.heap.size w (((w.alloc (.cells s.cs.toArray 33)).alloc (.cells #[.int .i64 0, .int .i64 0, .int .i64 0, .slice none 0 0] 31)).alloc (.cells #[] 5)) := ((below_alloc w _).alloc (by simp) _).alloc (by simp; omega) _
  have O0 := Own.new ((w.alloc (.cells s.cs.toArray 33)).alloc (.cells #[.int .i64 0, .int .i64 0, .int .i64 0, .slice none 0 0] 31)) (w.heap.size + 1 + 1) (by simp)
  simp only [World.size_alloc] at K1 O0
  have hs0 : (((w.alloc (.cells s.cs.toArray 33)).alloc (.cells #[.int .i64 0, .int .i64 0, .int .i64 0, .slice none 0 0] 31)).alloc (.cells #[] 5)).heap.size = w.heap.size + 1 + 1 + 1 := by simp
  have hby := sec_bytes (off := 4) (n := 124) K0 (by omega)
  rw [List.take_of_length_le (by rw [List.length_drop, s.len]; omega)] at hby
  have HK := Lib.hid (And.intro K0 (And.intro K1 (And.intro b0 (And.intro O0 hby))))
  clear K0 K1 b0 O0 hby hgood hg1 hg2 hg3
  go_enter Tryd.func33, Tryd.ntmps33
  go_wp2_with (refine app_bytes (.tmp 9) (.tmp 10) rfl rfl (w.heap.size + 1 + 1) (.slice (some ⟨w.heap.size + 1 + 1, 0, none⟩) 0 0) 0 [] rfl HK.out.2.2.2.1 _ (some ⟨w.heap.size, 4, none⟩) 124 124 (s.l.drop 4) rfl HK.out.2.2.2.2 (by omega) (by omega) ?_
               intro v4 w4 h4 g4 a4
               have B4 : Below (w.heap.size + 1 + 1) _ w4 := below_own (Below.refl _ _) HK.out.2.2.2.1 (Nat.le_refl _) g4 (by omega)
               have O4 : Own w4 (w.heap.size + 1 + 1) v4 124 (s.l.drop 4) := by simpa using h4
               obtain ⟨A4, c4, rfl, hcl, hcm, hA4⟩ := O4.form
               have D4 : DW w (w4.alloc (.cells #[.slice A4 124 c4, .bool false] 86)) w4.heap.size w4.heap.size (told0 s.l) s := by
                 have e124 : (told0 s.l).bs.length = 124 := by show (s.l.drop 4).length = 124; rw [List.length_drop, s.len]
                 have hy4 := O4.bytes (fun b hb => s.lt b (List.mem_of_mem_drop hb))
                 have hs4 := B4.size
                 refine ⟨⟨A4, c4, by rw [e124]; exact Blk.new _ _ _, by rw [e124]; exact hy4.since (below_alloc _ _), by rw [e124]; exact hcl, hcm, Nat.le_refl _, HGood.out⟩, ?_, ?_, ?_, ?_⟩
                 · have := HK.out.2.2.1.trans (B4.mono (by omega))
                   exact this.alloc this.size _
                 · exact (HK.out.1.below B4 (by omega)).alloc _
                 · exact (HK.out.2.1.below B4 (by omega)).alloc _
                 · omega
               have HD4 := Lib.hid D4
               clear h4 g4 a4 B4 O4 hcl hcm hA4 D4)
  generalize w4.alloc (.cells #[.slice A4 124 c4, .bool false] 86) = w5 at *
  generalize w4.heap.size = g at *
  refine (mbyte_any w5 g g _ HD4.out.mr (by omega)).mono ?_
  rintro e w6 ⟨rfl, m6, o6⟩
  rw [show (told0 s.l).take 1 = told1 s.l from rfl] at m6
  have D6 := (HD4.out.step m6 o6)
  have D7 := D6.below (below_alloc w6 (.cells #[.int .i64 ((told0 s.l).byte : Nat), .int .i64 0, .int .i64 0, .slice none 0 0] 31))
  have K7 := Blk.new w6 31 #[.int .i64 ((told0 s.l).byte : Nat), .int .i64 0, .int .i64 0, .slice none 0 0]
  have hg6 : g < w6.heap.size := D6.mr.lt
  have HD7 := Lib.hid (And.intro D7 K7)
  clear D6 D7 K7 m6 o6 HD4 HK
  have hib : (Tryd.prog.info? 31).map (·.size) = some [Value.int .i64 ((told0 s.l).byte : Nat), .int .i64 0, .int .i64 0, .slice none 0 0].length := lbox_size
  have hone1 : ∀ u ∈ [Value.int .i64 ((told0 s.l).byte : Nat), .int .i64 0, .int .i64 0, .slice none 0 0], u.oneCell' = true := boxCs_one _ 0 0 none 0 0
  go_wp2_with (refine wpList_store_newN rfl 31 (.tmp 5) (.tmp 17) rfl w6.heap.size rfl [Value.int .i64 ((told0 s.l).byte : Nat), .int .i64 0, .int .i64 0, .slice none 0 0] _ rfl rfl hib rfl hone1 ?_)
  generalize w6.alloc (.cells #[.int .i64 ((told0 s.l).byte : Nat), .int .i64 0, .int .i64 0, .slice none 0 0] 31) = w7 at *
  generalize hgb : w6.heap.size = gb at *
  have hgne : gb ∉ [g] := by simp; omega
  clear hib hone1
  refine (mnum_any w7 g g _ HD7.out.1.mr (by omega)).mono ?_
  rintro e w8 ⟨rfl, m8, o8⟩
  rw [show (told1 s.l).take 8 = told2 s.l from rfl] at m8
  have D8 := HD7.out.1.step m8 o8
  have K8 := HD7.out.2.of (o8.block gb HD7.out.2.lt hgne)
  have c8 : w8.cell? ⟨gb, 1, none⟩ = some (.int .i64 0) := by rw [K8.cell]; rfl
  have f8 := K8.frozen 1
  have D9 := D8.set (p := ⟨gb, 1, none⟩) (by show w.heap.size + 1 < gb; have := D8.lt; omega) (by show g < gb; omega) (.int .i64 (told1 s.l).num)
  have K9 := K8.set_ 1 (.int .i64 (told1 s.l).num)
  have HD9 := Lib.hid (And.intro D9 K9)
  clear D8 K8 D9 K9 m8 o8 HD7
  go_wp2_with fail
  generalize w8.setCell ⟨gb, 1, none⟩ (.int .i64 (told1 s.l).num) = w9 at *
  clear c8 f8
  refine (mnum_any w9 g g _ HD9.out.1.mr (by omega)).mono ?_
  rintro e w10 ⟨rfl, m10, o10⟩
  rw [show (told2 s.l).take 8 = told3 s.l from rfl] at m10
  have D10 := HD9.out.1.step m10 o10
  have K10 := HD9.out.2.of (o10.block gb HD9.out.2.lt hgne)
  have c10 : w10.cell? ⟨gb, 2, none⟩ = some (.int .i64 0) := by rw [K10.cell]; rfl
  have f10 := K10.frozen 2
  have D11 := D10.set (p := ⟨gb, 2, none⟩) (by show w.heap.size + 1 < gb; have := D10.lt; omega) (by show g < gb; omega) (.int .i64 (told2 s.l).num)
  have K11 := K10.set_ 2 (.int .i64 (told2 s.l).num)
  have HD11 := Lib.hid (And.intro D11 K11)
  clear D10 K10 D11 K11 m10 o10 HD9
  go_wp2_with fail
  generalize w10.setCell ⟨gb, 2, none⟩ (.int .i64 (told2 s.l).num) = w11 at *
  clear c10 f10
  refine (mbyte_any w11 g g _ HD11.out.1.mr (by omega)).mono ?_
  rintro e w12 ⟨rfl, m12, o12⟩
  have D12 := HD11.out.1.step m12 o12
  have K12 := HD11.out.2.of (o12.block gb HD11.out.2.lt hgne)
  have hgr : w.heap.size + 1 < gb := by have := D12.lt; omega
  have hgs12 : gb < w12.heap.size := K12.lt
  have HD12 := Lib.hid (And.intro D12 K12)
  clear D12 K12 m12 o12 HD11
  by_cases hc : (told3 s.l).byte ≤ 106
  case neg =>
    have hns : isSealed s.l = false := by
      cases h : isSealed s.l with
      | false => rfl
      | true => exact absurd (sealed_count s.l h) hc
    have hd : decide (106 < ((told3 s.l).byte : Int)) = true := decide_eq_true (by omega)
    have hth := HD12.out.1.ans.there (o := 0) (n := (boxCs 0 0 0 (.slice none 0 0)).toArray.size) (by simp [boxCs])
    have ha := HD12.out.1.ans.over (boxCs 0 0 0 (.slice none 0 0)) (by simp [boxCs])
    have hB := HD12.out.1.bel.grown (setCells_grown (w.heap.size + 1) (boxCs 0 0 0 (.slice none 0 0)) 0 _).1 HD12.out.1.bel.size (fun j e => by injection e with e; omega)
    have HA := Lib.hid (And.intro ha (And.intro hB hns))
    have hone0 := boxCs_one 0 0 0 none 0 0
    have hia0 : (Tryd.prog.info? 31).map (·.size) = some (boxCs 0 0 0 (.slice none 0 0)).toArray.size := lbox_size
    clear ha hB hns
    go_wp2_with (refine wpList_store_mid rfl 31 (.tmp 2) (.tmp 29) rfl (w.heap.size + 1) 0 (boxCs 0 0 0 (.slice none 0 0)).toArray rfl rfl hth hia0 (all_oneCell_toArray hone0) ?_)
    refine bodyPost_ret (lbox_results2 rfl _ _ (w.heap.size + 1) (boxCs 0 0 0 (.slice none 0 0)) (.bool false) rfl rfl rfl HA.out.1) rfl ?_
    exact .inr ⟨HA.out.2.2, rfl, HA.out.2.1⟩
  have hd : decide (106 < ((told3 s.l).byte : Int)) = false := decide_eq_false (by omega)
  have hq1 : (22 : Int) ≤ 22 + ((told3 s.l).byte : Int) := by omega
  have hq2 : 22 + ((told3 s.l).byte : Int) ≤ 128 := by omega
  have hcnt : (tD s.l).length = (told3 s.l).byte := by rw [tD_len' s.l s.len]; exact Nat.min_eq_left hc
  have hby := sec_bytes (off := 22) (n := (told3 s.l).byte) (HD12.out.1.sec.alloc (.cells #[] 5)) (by omega)
  have hbe : (s.l.drop 22).take (told3 s.l).byte = tD s.l := by
    have : min (tC s.l) 106 = (told3 s.l).byte := Nat.min_eq_left hc
    unfold tD
    rw [this]
  rw [hbe] at hby
  have h22 : (told3 s.l).byte = 22 + (told3 s.l).byte - 22 := by omega
  rw [h22] at hby
  have H22 := Lib.hid h22
  clear h22
  have HBY := Lib.hid hby
  have ON := Lib.hid (Own.new w12 w12.heap.size (Nat.le_refl _))
  have HC := Lib.hid hcnt
  clear hby hbe hcnt
  go_wp2_with (first
    | (refine app_bytes (.tmp 30) (.tmp 33) rfl rfl w12.heap.size (.slice (some ⟨w12.heap.size, 0, none⟩) 0 0) 0 [] rfl ON.out _ (some ⟨w.heap.size, 22, none⟩) (22 + (told3 s.l).byte - 22) 106 (tD s.l) rfl HBY.out (by omega) (by simp) ?_
       intro v13 w13 h13 g13 a13
       have B13 : Below w12.heap.size w12 w13 := below_own (below_alloc w12 _) ON.out (Nat.le_refl _) g13 (by simp)
       have O13 : Own w13 w12.heap.size v13 (told3 s.l).byte (tD s.l) := by
         rw [← H22.out] at h13
         simpa using h13
       obtain ⟨A13, c13, rfl, -, -, -⟩ := O13.form
       have K13 := HD12.out.2.below B13 hgs12
       have cc13 : w13.cell? ⟨gb, 3, none⟩ = some (.slice none 0 0) := by rw [K13.cell]; rfl
       have ff13 := K13.frozen 3
       have D13 := (HD12.out.1.below B13).set (p := ⟨gb, 3, none⟩) (by show w.heap.size + 1 < gb; exact hgr) (by show g < gb; omega) (.slice A13 (told3 s.l).byte c13)
       have K14 : Blk (w13.setCell ⟨gb, 3, none⟩ (.slice A13 (told3 s.l).byte c13)) gb 31 (boxCs (tK s.l) (tG s.l) (tN s.l) (.slice A13 (told3 s.l).byte c13)).toArray := by
         have := K13.set_ 3 (.slice A13 (told3 s.l).byte c13)
         simpa [boxCs, tK, tG, tN] using this
       have O14 : Own (w13.setCell ⟨gb, 3, none⟩ (.slice A13 (told3 s.l).byte c13)) w12.heap.size (.slice A13 (told3 s.l).byte c13) (told3 s.l).byte (tD s.l) := row_of O13 fun j hj => Below.heap_setCell _ _ _ _ (by have := row_over O13 j hj; show j ≠ gb; omega)
       have HD13 := Lib.hid (And.intro D13 (And.intro K14 O14))
       have hrb : World.rangeAt (w13.setCell ⟨gb, 3, none⟩ (.slice A13 (told3 s.l).byte c13)) gb 0 (boxCs (tK s.l) (tG s.l) (tN s.l) (.slice A13 (told3 s.l).byte c13)) := K14.range
       have hub := Tryd.underlying31
       have hib : (Tryd.prog.info? 31).map (·.size) = some (boxCs (tK s.l) (tG s.l) (tN s.l) (.slice A13 (told3 s.l).byte c13)).length := lbox_size
       have hone := boxCs_one (tK s.l) (tG s.l) (tN s.l) A13 (told3 s.l).byte c13
       clear h13 g13 a13 K13 D13 O13 K14 O14)
    | (refine wpList_load_mid rfl 31 (.tmp 5) rfl gb 0 rfl (boxCs (tK s.l) (tG s.l) (tN s.l) (.slice A13 (told3 s.l).byte c13)) _ hrb hub rfl hib ?_))
  generalize (w13.setCell ⟨gb, 3, none⟩ (.slice A13 (told3 s.l).byte c13)) = w14 at *
  have hlt256 := tD_lt s.l s.lt
  have hDl := tD_len s.l
  have hO14 := HD13.out.2.2
  have hDb := hO14.bytes hlt256
  rw [← HC.out] at hDb
  have HDb := Lib.hid hDb
  clear hO14 hDb cc13 ff13
  have hcnt2 : (tD s.l).length = (told3 s.l).byte := HC.out
  rw [← hcnt2]
  have HD14 : Hid (DW w w14 g g ((told3 s.l).take 1) s ∧ Blk w14 gb 31 (boxCs (tK s.l) (tG s.l) (tN s.l) (.slice A13 (tD s.l).length c13)).toArray ∧ Own w14 w12.heap.size (.slice A13 (tD s.l).length c13) (tD s.l).length (tD s.l)) := by
    rw [hcnt2]; exact HD13
  clear hcnt2 hrb hib hone HD13 hd hq1 hq2
  refine (dseal_any _ _ _ A13 c13 (tD s.l) _ w14 HDb.out).mono ?_
  rintro e w15 ⟨rfl, b15⟩
  have hXl : ∀ (hb : isBoxB (tK s.l) (tG s.l) (tN s.l) = true), (sealRes (tK s.l) (tG s.l) (tN s.l) (tD s.l)).l = sealL (tK s.l) (tG s.l) (tN s.l) (tD s.l) := fun hb => sealRes_l hb hDl hlt256
  have HXl := Lib.hid hXl
  clear hXl
  generalize sealRes (tK s.l) (tG s.l) (tN s.l) (tD s.l) = X at *
  have hEe : sealErr (tK s.l) (tG s.l) (tN s.l) (tD s.l).length = 0 ∨ isBoxB (tK s.l) (tG s.l) (tN s.l) = false := by
    cases hb : isBoxB (tK s.l) (tG s.l) (tN s.l) with
    | false => exact .inr rfl
    | true => left; unfold sealErr; rw [hb, if_pos rfl, if_pos hDl]
  generalize hea : sealErr (tK s.l) (tG s.l) (tN s.l) (tD s.l).length = ea at *
  have HEA := Lib.hid hea
  have HEe := Lib.hid hEe
  clear hea hEe
  have D16 := (HD14.out.1.below b15).below (below_alloc w15 (.cells X.cs.toArray 33))
  have KX := Blk.new w15 33 X.cs.toArray
  have K16 := (HD14.out.2.1.below b15 HD14.out.2.1.lt).alloc (.cells X.cs.toArray 33)
  have O16 := (HD14.out.2.2.below b15).alloc (.cells X.cs.toArray 33)
  have HD16 := Lib.hid (And.intro D16 (And.intro K16 (And.intro O16 KX)))
  have hisx := X.info
  have honx := X.one
  have hiss := s.info
  have husec := Tryd.underlying33
  have hzx : Zs.toArray.size = X.cs.length := by rw [HZL.out, Sec.cs_len]
  have HZX := Lib.hid hzx
  have hrx : World.rangeAt (w15.alloc (.cells X.cs.toArray 33)) w15.heap.size 0 X.cs := KX.range
  have hrs : World.rangeAt (w15.alloc (.cells X.cs.toArray 33)) w.heap.size 0 s.cs := D16.sec.range
  clear D16 KX K16 O16 HD14 hzx b15
  simp only [Sec.v]
  cases ea with
  | succ ea =>
    have hns : isSealed s.l = false := by
      rcases HEe.out with h | h
      · cases h
      · unfold isSealed; rw [h]; rfl
    have hne : (((ea + 1 : Nat) : Int) != 0) = true := by simp; omega
    have hne2 : ((ea : Int) + 1 != 0) = true := by simp; omega
    have hth := (HD16.out.1.ans).there (o := 0) (n := (boxCs 0 0 0 (.slice none 0 0)).toArray.size) (by simp [boxCs])
    have ha := (HD16.out.1.ans).over (boxCs 0 0 0 (.slice none 0 0)) (by simp [boxCs])
    have hB := HD16.out.1.bel.grown (setCells_grown (w.heap.size + 1) (boxCs 0 0 0 (.slice none 0 0)) 0 _).1 HD16.out.1.bel.size (fun j e => by injection e with e; omega)
    have hone0 := boxCs_one 0 0 0 none 0 0
    have hia0 : (Tryd.prog.info? 31).map (·.size) = some (boxCs 0 0 0 (.slice none 0 0)).toArray.size := lbox_size
    have HA := Lib.hid (And.intro ha (And.intro hB hns))
    clear ha hB

    clear hns
    go_wp2_with (first
      | (refine wpList_store_newN rfl 33 (.tmp 7) (.tmp 39) rfl w15.heap.size rfl X.cs _ rfl rfl hisx HZX.out honx ?_)
      | (refine wpList_store_mid rfl 31 (.tmp 2) (.tmp 48) rfl (w.heap.size + 1) 0 (boxCs 0 0 0 (.slice none 0 0)).toArray rfl rfl hth hia0 (all_oneCell_toArray hone0) ?_))
    refine bodyPost_ret (lbox_results2 rfl _ _ (w.heap.size + 1) (boxCs 0 0 0 (.slice none 0 0)) (.bool false) rfl rfl rfl HA.out.1) rfl ?_
    exact .inr ⟨HA.out.2.2, rfl, HA.out.2.1⟩

  | zero =>
    obtain ⟨hbx, -⟩ := sealErr_zero HEA.out
    have hsx : isSealed s.l = secEq X s := by
      unfold isSealed secEq
      rw [hbx, HXl.out hbx, Bool.true_and]
    have HSX := Lib.hid hsx
    clear hsx hbx
    cases hse : secEq X s with
    | false =>
      have hns : isSealed s.l = false := by rw [HSX.out, hse]
      have hth := (HD16.out.1.ans).there (o := 0) (n := (boxCs 0 0 0 (.slice none 0 0)).toArray.size) (by simp [boxCs])
      have ha := (HD16.out.1.ans).over (boxCs 0 0 0 (.slice none 0 0)) (by simp [boxCs])
      have hB := HD16.out.1.bel.grown (setCells_grown (w.heap.size + 1) (boxCs 0 0 0 (.slice none 0 0)) 0 _).1 HD16.out.1.bel.size (fun j e => by injection e with e; omega)
      have hone0 := boxCs_one 0 0 0 none 0 0
      have hia0 : (Tryd.prog.info? 31).map (·.size) = some (boxCs 0 0 0 (.slice none 0 0)).toArray.size := lbox_size
      have HA := Lib.hid (And.intro ha (And.intro hB hns))
      clear ha hB

      have HSE := Lib.hid hse
      clear hns hse
      go_wp2_with (first
        | (refine wpList_store_newN rfl 33 (.tmp 7) (.tmp 39) rfl w15.heap.size rfl X.cs _ rfl rfl hisx HZX.out honx ?_)
        | (refine wpListG_load_mid (by kernel_rfl) 33 (.tmp 7) rfl w15.heap.size 0 rfl X.cs _ hrx husec rfl hisx ?_)
        | (refine wpListG_load_mid (by kernel_rfl) 33 (.tmp 1) rfl w.heap.size 0 rfl s.cs _ hrs husec rfl hiss ?_)
        | (refine wpListG_sec_neq (by kernel_rfl) (.tmp 44) (.tmp 45) rfl X s rfl rfl true HSE.out ?_)
        | (refine wpList_store_mid rfl 31 (.tmp 2) (.tmp 48) rfl (w.heap.size + 1) 0 (boxCs 0 0 0 (.slice none 0 0)).toArray rfl rfl hth hia0 (all_oneCell_toArray hone0) ?_))
      refine bodyPost_ret (lbox_results2 rfl _ _ (w.heap.size + 1) (boxCs 0 0 0 (.slice none 0 0)) (.bool false) rfl rfl rfl HA.out.1) rfl ?_
      exact .inr ⟨HA.out.2.2, rfl, HA.out.2.1⟩

    | true =>
      have hns : isSealed s.l = true := by rw [HSX.out, hse]
      have hth := (HD16.out.1.ans).there (o := 0) (n := (boxCs (tK s.l) (tG s.l) (tN s.l) (.slice A13 (tD s.l).length c13)).toArray.size) (by simp [boxCs])
      have ha := (HD16.out.1.ans).over (boxCs (tK s.l) (tG s.l) (tN s.l) (.slice A13 (tD s.l).length c13)) (by simp [boxCs])
      have hg16 := (setCells_grown (w.heap.size + 1) (boxCs (tK s.l) (tG s.l) (tN s.l) (.slice A13 (tD s.l).length c13)) 0 (w15.alloc (.cells X.cs.toArray 33))).1
      have hB := HD16.out.1.bel.grown hg16 HD16.out.1.bel.size (fun j e => by injection e with e; omega)
      have hO := (Own.grown HD16.out.2.2.1 hg16 (.inr (fun e => by have := (World.ownsRow.lt HD16.out.2.2.1 _ e).1; omega))).weaken (base' := w.heap.size) (by omega)
      have hone0 := boxCs_one (tK s.l) (tG s.l) (tN s.l) A13 (tD s.l).length c13
      have hia0 : (Tryd.prog.info? 31).map (·.size) = some (boxCs (tK s.l) (tG s.l) (tN s.l) (.slice A13 (tD s.l).length c13)).toArray.size := lbox_size
      have hib0 : (Tryd.prog.info? 31).map (·.size) = some (boxCs (tK s.l) (tG s.l) (tN s.l) (.slice A13 (tD s.l).length c13)).length := lbox_size
      have hrb : World.rangeAt (w15.alloc (.cells X.cs.toArray 33)) gb 0 (boxCs (tK s.l) (tG s.l) (tN s.l) (.slice A13 (tD s.l).length c13)) := HD16.out.2.1.range
      have HA := Lib.hid (And.intro ha (And.intro hB (And.intro hO hns)))
      have HSE := Lib.hid hse
      clear ha hB hO hg16 hns hse
      go_wp2_with (first
        | (refine wpList_store_newN rfl 33 (.tmp 7) (.tmp 39) rfl w15.heap.size rfl X.cs _ rfl rfl hisx HZX.out honx ?_)
        | (refine wpListG_load_mid (by kernel_rfl) 33 (.tmp 7) rfl w15.heap.size 0 rfl X.cs _ hrx husec rfl hisx ?_)
        | (refine wpListG_load_mid (by kernel_rfl) 33 (.tmp 1) rfl w.heap.size 0 rfl s.cs _ hrs husec rfl hiss ?_)
        | (refine wpListG_sec_neq (by kernel_rfl) (.tmp 44) (.tmp 45) rfl X s rfl rfl false HSE.out ?_)
        | (refine wpList_load_mid rfl 31 (.tmp 5) rfl gb 0 rfl (boxCs (tK s.l) (tG s.l) (tN s.l) (.slice A13 (tD s.l).length c13)) _ hrb hub rfl hib0 ?_)
        | (refine wpList_store_mid rfl 31 (.tmp 2) (.tmp 49) rfl (w.heap.size + 1) 0 (boxCs (tK s.l) (tG s.l) (tN s.l) (.slice A13 (tD s.l).length c13)).toArray rfl rfl hth hia0 (all_oneCell_toArray hone0) ?_))
      refine bodyPost_ret (lbox_results2 rfl _ _ (w.heap.size + 1) (boxCs (tK s.l) (tG s.l) (tN s.l) (.slice A13 (tD s.l).length c13)) (.bool true) rfl rfl rfl HA.out.1) rfl ?_
      exact .inl ⟨HA.out.2.2.2, A13, c13, rfl, HA.out.2.2.1, HA.out.2.1⟩
end Go.Proofs.YtgdkpmgfholnkaaDoor
