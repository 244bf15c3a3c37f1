/-
  What the program reads of a sector. Conditions: none.
-/
import Derived.Test.YtgdkpmgfholnkaaDoorBoxW
namespace Go.Proofs.YtgdkpmgfholnkaaDoor
open Go.RowKit
set_option linter.unusedSimpArgs false
set_option linter.unusedVariables false
theorem box_zero (w : World) : (zeroValue 38).run Tryd.prog w = .ok (.agg #[.int .i64 0, .int .i64 0, .int .i64 0, .slice none 0 0]) w := by kernel_rfl
theorem box_size : (Tryd.prog.info? 38).map (·.size) = some 4 := by kernel_rfl
def boxCs (k g n : Int) (v : Value) : List Value := [.int .i64 k, .int .i64 g, .int .i64 n, v]
/-- where told stands: the reader's state; the sector's cells, the box's own, the answer's -/
structure TW (w0 w : World) (base : Nat) (F : List Nat) (g : Nat) (st : RD) (gs : Nat) (s : Sec) (gb : Nat) (cs : Array Value) (gr : Nat) (zs : Array Value) : Prop where
  rd : Rd w base F (some ⟨g, 0, none⟩) st
  bel : Below w0.heap.size w0 w
  sec : Blk w gs 33 s.cs.toArray
  box : Blk w gb 38 cs
  ans : Blk w gr 38 zs
  lt : gs < base ∧ gb < base ∧ gr < base ∧ w0.heap.size ≤ gb ∧ base ≤ w.heap.size ∧ w0.heap.size ≤ base ∧ gs ≠ gb ∧ gr ≠ gb
section
variable {w0 w w' : World} {base : Nat} {F : List Nat} {g : Nat} {st st' : RD} {gs : Nat} {s : Sec} {gb : Nat} {cs : Array Value} {gr : Nat} {zs : Array Value}
theorem TW.below (h : TW w0 w base F g st gs s gb cs gr zs) (hb : Below w.heap.size w w') : TW w0 w' base F g st gs s gb cs gr zs := by
  obtain ⟨l1, l2, l3, l4, l5, l6, l7, l8⟩ := h.lt
  exact ⟨h.rd.below hb, h.bel.trans (hb.mono (by omega)), h.sec.below hb h.sec.lt, h.box.below hb h.box.lt, h.ans.below hb h.ans.lt, l1, l2, l3, l4, Nat.le_trans l5 hb.size, l6, l7, l8⟩
theorem TW.step (h : TW w0 w base F g st gs s gb cs gr zs) (r : RTo w base F (some ⟨g, 0, none⟩) st' w') : ∃ F', TW w0 w' base F' g st' gs s gb cs gr zs := by
  obtain ⟨F', h1, h2, h3⟩ := r
  obtain ⟨l1, l2, l3, l4, l5, l6, l7, l8⟩ := h.lt
  have hb : Below base w w' := h2.below h.rd.over l5
  exact ⟨F', h1, h.bel.trans (hb.mono l6), h.sec.below hb l1, h.box.below hb l2, h.ans.below hb l3, l1, l2, l3, l4, Nat.le_trans l5 h2.size, l6, l7, l8⟩
theorem TW.put (h : TW w0 w base F g st gs s gb cs gr zs) (i : Nat) (v : Value) : TW w0 (w.setCell ⟨gb, i, none⟩ v) base F g st gs s gb (cs.setIfInBounds i v) gr zs := by
  obtain ⟨l1, l2, l3, l4, l5, l6, l7, l8⟩ := h.lt
  exact ⟨h.rd.of (by simp [World.setCell]) (fun j hj => Below.heap_setCell _ _ _ _ (by have := h.rd.over j hj; show j ≠ gb; omega)), h.bel.setCell l4 _, h.sec.far l7 _, h.box.set_ i v, h.ans.far l8 _, l1, l2, l3, l4, by simpa [World.setCell] using l5, l6, l7, l8⟩
end
theorem sec_bytes {w : World} {gs off n : Nat} {s : Sec} (h : Blk w gs 33 s.cs.toArray) (hn : off + n ≤ 128) : Bytes w w.heap.size (some ⟨gs, off, none⟩) n ((s.l.drop off).take n) :=
  Blk.bytes h (by rw [s.len]; exact hn) s.lt
set_option maxRecDepth 100000 in
set_option maxHeartbeats 2000000 in
theorem told_any (s : Sec) (w : World) :
    Calls Tryd.prog 32 #[.agg s.cs.toArray] w fun e w' => ∃ v, e = .returned (.agg (boxCs (tK s.l) (tG s.l) (tN s.l) v).toArray) ∧ Own w' w.heap.size v (tD s.l).length (tD s.l) ∧ Below w.heap.size w w' := by
  have hbz := box_zero
  have hgood : (told0 s.l).Good := ⟨fun e => (by cases e), fun b hb => s.lt b (List.mem_of_mem_drop hb)⟩
  have hg1 : (told1 s.l).Good := RD.take_good hgood 1
  have hg2 : (told2 s.l).Good := RD.take_good hg1 8
  have hg3 : (told3 s.l).Good := RD.take_good hg2 8
  have hb0 := RD.byte_lt hgood
  have hb3 := RD.byte_lt hg3
  have hr1 := num_range (told1 s.l)
  have hr2 := num_range (told2 s.l)
  have K0 := ((Blk.new w 33 s.cs.toArray).alloc (.cells #[.int .i64 0, .int .i64 0, .int .i64 0, .slice none 0 0] 38)).alloc (.cells #[.int .i64 0, .int .i64 0, .int .i64 0, .slice none 0 0] 38)
  have K1 := (Blk.new (w.alloc (.cells s.cs.toArray 33)) 38 #[.int .i64 0, .int .i64 0, .int .i64 0, .slice none 0 0]).alloc (.cells #[.int .i64 0, .int .i64 0, .int .i64 0, .slice none 0 0] 38)
  have K2 := Blk.new ((w.alloc (.cells s.cs.toArray 33)).alloc (.cells #[.int .i64 0, .int .i64 0, .int .i64 0, .slice none 0 0] 38)) 38 #[.int .i64 0, .int .i64 0, .int .i64 0, .slice none 0 0]
  have b0 : Below w.heap.size w (((w.alloc (.cells s.cs.toArray 33)).alloc (.cells #[.int .i64 0, .int .i64 0, .int .i64 0, .slice none 0 0] 38)).alloc (.cells #[.int .i64 0, .int .i64 0, .int .i64 0, .slice none 0 0] 38)) := ((below_alloc w _).alloc (by simp) _).alloc (by simp; omega) _
  have hs0 : (((w.alloc (.cells s.cs.toArray 33)).alloc (.cells #[.int .i64 0, .int .i64 0, .int .i64 0, .slice none 0 0] 38)).alloc (.cells #[.int .i64 0, .int .i64 0, .int .i64 0, .slice none 0 0] 38)).heap.size = w.heap.size + 1 + 1 + 1 := by simp
  simp only [World.size_alloc] at K0 K1 K2
  have HK := Lib.hid (And.intro K0 (And.intro K1 (And.intro K2 b0)))
  clear K0 K1 K2 b0 hgood hg1 hg2 hg3
  go_enter Tryd.func32, Tryd.ntmps32
  go_wp2_with fail
  generalize ((w.alloc (.cells s.cs.toArray 33)).alloc (.cells #[.int .i64 0, .int .i64 0, .int .i64 0, .slice none 0 0] 38)).alloc (.cells #[.int .i64 0, .int .i64 0, .int .i64 0, .slice none 0 0] 38) = w3 at *
  have hby := sec_bytes (off := 4) (n := 124) HK.out.1 (by omega)
  rw [List.take_of_length_le (by rw [List.length_drop, s.len]; omega)] at hby
  refine (newr_any (some ⟨w.heap.size, 4, none⟩) 124 124 (s.l.drop 4) w3 _ (by omega) hby).mono ?_
  rintro e w4 ⟨gr, F4, rfl, R4, b4⟩
  have T4 : TW w w4 w3.heap.size F4 gr (told0 s.l) w.heap.size s (w.heap.size + 1 + 1) #[.int .i64 0, .int .i64 0, .int .i64 0, .slice none 0 0] (w.heap.size + 1) #[.int .i64 0, .int .i64 0, .int .i64 0, .slice none 0 0] :=
    ⟨R4, HK.out.2.2.2.trans (b4.mono (by omega)), HK.out.1.below b4 HK.out.1.lt, HK.out.2.2.1.below b4 HK.out.2.2.1.lt, HK.out.2.1.below b4 HK.out.2.1.lt, by omega, by omega, by omega, by omega, b4.size, by omega, by omega, by omega⟩
  have HT4 := Lib.hid T4
  clear T4 R4 b4 hby HK
  go_wp2_with fail
  refine (rbyte_any w4 w3.heap.size F4 _ _ HT4.out.rd HT4.out.lt.2.2.2.2.1).mono ?_
  rintro e w5 ⟨rfl, r5⟩
  rw [show (told0 s.l).take 1 = told1 s.l from rfl] at r5
  obtain ⟨F5, T5⟩ := HT4.out.step r5
  have c5 : w5.cell? ⟨w.heap.size + 1 + 1, 0, none⟩ = some (.int .i64 0) := by rw [T5.box.cell]; rfl
  have f5 := T5.box.frozen 0
  have T6 := T5.put 0 (.int .i64 ((told0 s.l).byte : Nat))
  have HT6 := Lib.hid T6
  clear T5 T6 r5 HT4
  go_wp2_with fail
  generalize w5.setCell ⟨w.heap.size + 1 + 1, 0, none⟩ (.int .i64 ((told0 s.l).byte : Nat)) = w6 at *
  clear c5 f5
  refine (rnum_any w6 w3.heap.size F5 _ _ HT6.out.rd HT6.out.lt.2.2.2.2.1).mono ?_
  rintro e w7 ⟨rfl, r7⟩
  rw [show (told1 s.l).take 8 = told2 s.l from rfl] at r7
  obtain ⟨F7, T7⟩ := HT6.out.step r7
  have c7 : w7.cell? ⟨w.heap.size + 1 + 1, 1, none⟩ = some (.int .i64 0) := by rw [T7.box.cell]; rfl
  have f7 := T7.box.frozen 1
  have T8 := T7.put 1 (.int .i64 (told1 s.l).num)
  have HT8 := Lib.hid T8
  clear T7 T8 r7 HT6
  go_wp2_with fail
  generalize w7.setCell ⟨w.heap.size + 1 + 1, 1, none⟩ (.int .i64 (told1 s.l).num) = w8 at *
  clear c7 f7
  refine (rnum_any w8 w3.heap.size F7 _ _ HT8.out.rd HT8.out.lt.2.2.2.2.1).mono ?_
  rintro e w9 ⟨rfl, r9⟩
  rw [show (told2 s.l).take 8 = told3 s.l from rfl] at r9
  obtain ⟨F9, T9⟩ := HT8.out.step r9
  have c9 : w9.cell? ⟨w.heap.size + 1 + 1, 2, none⟩ = some (.int .i64 0) := by rw [T9.box.cell]; rfl
  have f9 := T9.box.frozen 2
  have T10 := T9.put 2 (.int .i64 (told2 s.l).num)
  have HT10 := Lib.hid T10
  clear T9 T10 r9 HT8
  go_wp2_with fail
  generalize w9.setCell ⟨w.heap.size + 1 + 1, 2, none⟩ (.int .i64 (told2 s.l).num) = w10 at *
  clear c9 f9
  refine (rbyte_any w10 w3.heap.size F9 _ _ HT10.out.rd HT10.out.lt.2.2.2.2.1).mono ?_
  rintro e w11 ⟨rfl, r11⟩
  obtain ⟨F11, T11⟩ := HT10.out.step r11
  have c11 : w11.cell? ⟨w.heap.size + 1 + 1, 3, none⟩ = some (.slice none 0 0) := by rw [T11.box.cell]; rfl
  have hcnt := tD_len' s.l s.len
  by_cases hc : (told3 s.l).byte ≤ 106
  · have hd : ((told3 s.l).byte : Int) ≤ 106 := by omega
    have hq1 : (22 : Int) ≤ 22 + ((told3 s.l).byte : Int) := by omega
    have hq2 : 22 + ((told3 s.l).byte : Int) ≤ 128 := by omega
    have hcntq : (tD s.l).length = (told3 s.l).byte := by rw [hcnt]; exact Nat.min_eq_left hc
    have HL := Lib.hid hcntq
    have hby := sec_bytes (off := 22) (n := (told3 s.l).byte) T11.sec (by omega)
    have hbe : (s.l.drop 22).take (told3 s.l).byte = tD s.l := by rw [← hcntq, hcnt]; rfl
    rw [hbe] at hby
    have HB := Lib.hid hby
    have HT11 := Lib.hid T11
    clear T11 r11 HT10 hby hbe hcnt hcntq
    go_wp2_with fail
    refine (clone_any (some ⟨w.heap.size, 22, none⟩) (told3 s.l).byte 106 (tD s.l) w11 _ (by omega) HB.out).mono ?_
    rintro e w12 ⟨v, rfl, ho, b12⟩
    obtain ⟨Av, cv, rfl, -, -, -⟩ := ho.form
    have T12 := HT11.out.below b12
    have c12 : w12.cell? ⟨w.heap.size + 1 + 1, 3, none⟩ = some (.slice none 0 0) := by rw [T12.box.cell]; rfl
    have f12 := T12.box.frozen 3
    have T13 := T12.put 3 (.slice Av (told3 s.l).byte cv)
    have ho13 : Own (w12.setCell ⟨w.heap.size + 1 + 1, 3, none⟩ (.slice Av (told3 s.l).byte cv)) w11.heap.size (.slice Av (told3 s.l).byte cv) (told3 s.l).byte (tD s.l) := row_of ho fun j hj => Below.heap_setCell _ _ _ _ (by have := row_over ho j hj; have := HT11.out.lt; show j ≠ w.heap.size + 1 + 1; omega)
    have hwl : w.heap.size ≤ w11.heap.size := HT11.out.bel.size
    have hone : ∀ u ∈ boxCs (tK s.l) (tG s.l) (tN s.l) (.slice Av (told3 s.l).byte cv), u.oneCell' = true := by
      intro u hu
      simp only [boxCs, List.mem_cons, List.not_mem_nil, or_false] at hu
      rcases hu with rfl | rfl | rfl | rfl
      · rfl
      · rfl
      · rfl
      · rfl
    have hbc : Blk (w12.setCell ⟨w.heap.size + 1 + 1, 3, none⟩ (.slice Av (told3 s.l).byte cv)) (w.heap.size + 1 + 1) 38 (boxCs (tK s.l) (tG s.l) (tN s.l) (.slice Av (told3 s.l).byte cv)).toArray := by
      have := T13.box
      simpa [boxCs, tK, tG, tN] using this
    have hrg : World.rangeAt (w12.setCell ⟨w.heap.size + 1 + 1, 3, none⟩ (.slice Av (told3 s.l).byte cv)) (w.heap.size + 1 + 1) 0 (boxCs (tK s.l) (tG s.l) (tN s.l) (.slice Av (told3 s.l).byte cv)) := hbc.range
    have hu := Tryd.underlying38
    have hib : (Tryd.prog.info? 38).map (·.size) = some (boxCs (tK s.l) (tG s.l) (tN s.l) (.slice Av (told3 s.l).byte cv)).length := box_size
    have hia : (Tryd.prog.info? 38).map (·.size) = some (boxCs (tK s.l) (tG s.l) (tN s.l) (.slice Av (told3 s.l).byte cv)).toArray.size := box_size
    have hth := T13.ans.there (o := 0) (n := (boxCs (tK s.l) (tG s.l) (tN s.l) (.slice Av (told3 s.l).byte cv)).toArray.size) (by simp [boxCs])
    have hb3' := T13.ans.over (boxCs (tK s.l) (tG s.l) (tN s.l) (.slice Av (told3 s.l).byte cv)) (by simp [boxCs])
    have hsg := setCells_grown (w.heap.size + 1) (boxCs (tK s.l) (tG s.l) (tN s.l) (.slice Av (told3 s.l).byte cv)) 0 (w12.setCell ⟨w.heap.size + 1 + 1, 3, none⟩ (.slice Av (told3 s.l).byte cv))
    have hgrl : w.heap.size + 1 < w11.heap.size := by have := HT11.out.lt; omega
    have ho14 : Own ((w12.setCell ⟨w.heap.size + 1 + 1, 3, none⟩ (.slice Av (told3 s.l).byte cv)).setCells (w.heap.size + 1) 0 (boxCs (tK s.l) (tG s.l) (tN s.l) (.slice Av (told3 s.l).byte cv))) w.heap.size (.slice Av (told3 s.l).byte cv) (told3 s.l).byte (tD s.l) :=
      (Own.grown ho13 hsg.1 (.inr (fun e => by have := (World.ownsRow.lt ho13 _ e).1; omega))).weaken hwl
    have hB14 : Below w.heap.size w ((w12.setCell ⟨w.heap.size + 1 + 1, 3, none⟩ (.slice Av (told3 s.l).byte cv)).setCells (w.heap.size + 1) 0 (boxCs (tK s.l) (tG s.l) (tN s.l) (.slice Av (told3 s.l).byte cv))) :=
      T13.bel.grown hsg.1 T13.bel.size (fun j e => by injection e with e; omega)
    have HE := Lib.hid (And.intro hb3' (And.intro ho14 hB14))
    clear ho T12 T13 ho13 hbc hsg hb3' ho14 hB14 HT11 HB b12
    generalize hbq : boxCs (tK s.l) (tG s.l) (tN s.l) (.slice Av (told3 s.l).byte cv) = bc at *
    have HBQ := Lib.hid hbq
    clear hbq
    go_wp2_with (first
      | (refine wpList_load_mid rfl 38 (.tmp 3) rfl (w.heap.size + 1 + 1) 0 rfl bc _ hrg hu rfl hib ?_)
      | (refine wpList_store_mid rfl 38 (.tmp 2) (.tmp 27) rfl (w.heap.size + 1) 0 bc.toArray rfl rfl hth hia (all_oneCell_toArray hone) ?_))
    refine bodyPost_ret (results_cell_row rfl _ _ (w.heap.size + 1) 38 bc.toArray (0, 0) _ rfl HE.out.1 Tryd.underlying38 rfl hia) rfl ?_
    exact ⟨_, by rw [HBQ.out], by rw [HL.out]; exact HE.out.2.1, HE.out.2.2⟩
  · have hd : ¬ ((told3 s.l).byte : Int) ≤ 106 := by omega
    have hcntq : (tD s.l).length = 106 := by rw [hcnt]; exact Nat.min_eq_right (by show 106 ≤ (told3 s.l).byte; omega)
    have HL := Lib.hid hcntq
    have hby := sec_bytes (off := 22) (n := 106) T11.sec (by omega)
    have hbe : (s.l.drop 22).take 106 = tD s.l := by rw [← hcntq, hcnt]; rfl
    rw [hbe] at hby
    have HB := Lib.hid hby
    have HT11 := Lib.hid T11
    clear T11 r11 HT10 hby hbe hcnt hcntq
    go_wp2_with fail
    refine (clone_any (some ⟨w.heap.size, 22, none⟩) 106 106 (tD s.l) w11 _ (by omega) HB.out).mono ?_
    rintro e w12 ⟨v, rfl, ho, b12⟩
    obtain ⟨Av, cv, rfl, -, -, -⟩ := ho.form
    have T12 := HT11.out.below b12
    have c12 : w12.cell? ⟨w.heap.size + 1 + 1, 3, none⟩ = some (.slice none 0 0) := by rw [T12.box.cell]; rfl
    have f12 := T12.box.frozen 3
    have T13 := T12.put 3 (.slice Av 106 cv)
    have ho13 : Own (w12.setCell ⟨w.heap.size + 1 + 1, 3, none⟩ (.slice Av 106 cv)) w11.heap.size (.slice Av 106 cv) 106 (tD s.l) := row_of ho fun j hj => Below.heap_setCell _ _ _ _ (by have := row_over ho j hj; have := HT11.out.lt; show j ≠ w.heap.size + 1 + 1; omega)
    have hwl : w.heap.size ≤ w11.heap.size := HT11.out.bel.size
    have hone : ∀ u ∈ boxCs (tK s.l) (tG s.l) (tN s.l) (.slice Av 106 cv), u.oneCell' = true := by
      intro u hu
      simp only [boxCs, List.mem_cons, List.not_mem_nil, or_false] at hu
      rcases hu with rfl | rfl | rfl | rfl
      · rfl
      · rfl
      · rfl
      · rfl
    have hbc : Blk (w12.setCell ⟨w.heap.size + 1 + 1, 3, none⟩ (.slice Av 106 cv)) (w.heap.size + 1 + 1) 38 (boxCs (tK s.l) (tG s.l) (tN s.l) (.slice Av 106 cv)).toArray := by
      have := T13.box
      simpa [boxCs, tK, tG, tN] using this
    have hrg : World.rangeAt (w12.setCell ⟨w.heap.size + 1 + 1, 3, none⟩ (.slice Av 106 cv)) (w.heap.size + 1 + 1) 0 (boxCs (tK s.l) (tG s.l) (tN s.l) (.slice Av 106 cv)) := hbc.range
    have hu := Tryd.underlying38
    have hib : (Tryd.prog.info? 38).map (·.size) = some (boxCs (tK s.l) (tG s.l) (tN s.l) (.slice Av 106 cv)).length := box_size
    have hia : (Tryd.prog.info? 38).map (·.size) = some (boxCs (tK s.l) (tG s.l) (tN s.l) (.slice Av 106 cv)).toArray.size := box_size
    have hth := T13.ans.there (o := 0) (n := (boxCs (tK s.l) (tG s.l) (tN s.l) (.slice Av 106 cv)).toArray.size) (by simp [boxCs])
    have hb3' := T13.ans.over (boxCs (tK s.l) (tG s.l) (tN s.l) (.slice Av 106 cv)) (by simp [boxCs])
    have hsg := setCells_grown (w.heap.size + 1) (boxCs (tK s.l) (tG s.l) (tN s.l) (.slice Av 106 cv)) 0 (w12.setCell ⟨w.heap.size + 1 + 1, 3, none⟩ (.slice Av 106 cv))
    have hgrl : w.heap.size + 1 < w11.heap.size := by have := HT11.out.lt; omega
    have ho14 : Own ((w12.setCell ⟨w.heap.size + 1 + 1, 3, none⟩ (.slice Av 106 cv)).setCells (w.heap.size + 1) 0 (boxCs (tK s.l) (tG s.l) (tN s.l) (.slice Av 106 cv))) w.heap.size (.slice Av 106 cv) 106 (tD s.l) :=
      (Own.grown ho13 hsg.1 (.inr (fun e => by have := (World.ownsRow.lt ho13 _ e).1; omega))).weaken hwl
    have hB14 : Below w.heap.size w ((w12.setCell ⟨w.heap.size + 1 + 1, 3, none⟩ (.slice Av 106 cv)).setCells (w.heap.size + 1) 0 (boxCs (tK s.l) (tG s.l) (tN s.l) (.slice Av 106 cv))) :=
      T13.bel.grown hsg.1 T13.bel.size (fun j e => by injection e with e; omega)
    have HE := Lib.hid (And.intro hb3' (And.intro ho14 hB14))
    clear ho T12 T13 ho13 hbc hsg hb3' ho14 hB14 HT11 HB b12
    generalize hbq : boxCs (tK s.l) (tG s.l) (tN s.l) (.slice Av 106 cv) = bc at *
    have HBQ := Lib.hid hbq
    clear hbq
    go_wp2_with (first
      | (refine wpList_load_mid rfl 38 (.tmp 3) rfl (w.heap.size + 1 + 1) 0 rfl bc _ hrg hu rfl hib ?_)
      | (refine wpList_store_mid rfl 38 (.tmp 2) (.tmp 27) rfl (w.heap.size + 1) 0 bc.toArray rfl rfl hth hia (all_oneCell_toArray hone) ?_))
    refine bodyPost_ret (results_cell_row rfl _ _ (w.heap.size + 1) 38 bc.toArray (0, 0) _ rfl HE.out.1 Tryd.underlying38 rfl hia) rfl ?_
    exact ⟨_, by rw [HBQ.out], by rw [HL.out]; exact HE.out.2.1, HE.out.2.2⟩
end Go.Proofs.YtgdkpmgfholnkaaDoor
