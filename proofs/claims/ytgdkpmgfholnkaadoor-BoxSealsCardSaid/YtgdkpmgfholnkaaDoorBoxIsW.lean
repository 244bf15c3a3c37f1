/-
  The law BoxIs, walked: it returns true and changes nothing that was there. Conditions: the package's table holds its sixteen numbers.
-/
import Derived.Test.YtgdkpmgfholnkaaDoorBoxDI
namespace Go.Proofs.YtgdkpmgfholnkaaDoor
open Go.RowKit
set_option linter.unusedSimpArgs false
set_option linter.unusedVariables false
/-- what Is answers -/
def PIs (s : Sec) (k g n : Int) (w : World) (e : Ending) (w' : World) : Prop :=
  (isOf s.l k g n = true ∧ ∃ A c, e = .returned (.tuple #[.slice A (tD s.l).length c, .bool true]) ∧ Own w' w.heap.size (.slice A (tD s.l).length c) (tD s.l).length (tD s.l) ∧ Below w.heap.size w w') ∨
  (isOf s.l k g n = false ∧ e = .returned (.tuple #[.slice none 0 0, .bool false]) ∧ Below w.heap.size w w')
theorem pis_any (s : Sec) (k g n : Int) (w : World) (hT : Tab w) : Calls Tryd.prog 20 #[.agg s.cs.toArray, .int .i64 k, .int .i64 g, .int .i64 n] w (PIs s k g n w) := by
  cases h : isOf s.l k g n with
  | true => exact (is_yes s k g n w hT h).mono fun e w' ⟨A, c, h1, h2⟩ => .inl ⟨h, A, c, h1, h2⟩
  | false => exact (is_no s k g n w hT h).mono fun e w' h1 => .inr ⟨h, h1⟩
set_option maxRecDepth 100000 in
set_option maxHeartbeats 4000000 in
theorem opens_any (s : Sec) (k g n : Int) (w : World) (hT : Tab w) : Calls Tryd.prog 23 #[.agg s.cs.toArray, .int .i64 k, .int .i64 g, .int .i64 n] w fun e w' => e = .returned (.bool true) ∧ Below w.heap.size w w' := by
  have HT := Lib.hid hT
  have husec := Tryd.underlying33
  have hisec := s.info
  have hbz := lbox_zero
  have hbz2 := box_zero
  have K1 := Blk.new w 33 s.cs.toArray
  have HK1 := Lib.hid (And.intro K1 (below_alloc w (.cells s.cs.toArray 33)))
  clear K1 hT
  go_enter Tryd.func23, Tryd.ntmps23
  go_wp2_with fail
  generalize w.alloc (.cells s.cs.toArray 33) = w1 at *
  refine (balive_any w1 (HT.out.below HK1.out.2)).mono ?_
  rintro e w2 ⟨rfl, b2⟩
  have K2 := HK1.out.1.below b2 HK1.out.1.lt
  have B2 := HK1.out.2.trans (b2.mono HK1.out.2.size)
  have hr2 : World.rangeAt w2 w.heap.size 0 s.cs := K2.range
  have HK2 := Lib.hid (And.intro K2 B2)
  clear K2 B2 b2 HK1
  go_wp2_with (refine wpList_load_mid rfl 33 (.tmp 4) rfl w.heap.size 0 rfl s.cs _ hr2 husec rfl hisec ?_)
  cases hs : isSealed s.l with
  | true =>
    refine (open_good s w2 (HT.out.below HK2.out.2) hs).mono ?_
    rintro e w3 ⟨A3, c3, rfl, ho3, b3⟩
    have hone3 := boxCs_one (tK s.l) (tG s.l) (tN s.l) A3 (tD s.l).length c3
    have hib3 : (Tryd.prog.info? 38).map (·.size) = some (boxCs (tK s.l) (tG s.l) (tN s.l) (.slice A3 (tD s.l).length c3)).length := box_size
    have K3 := (HK2.out.1.below b3 HK2.out.1.lt).alloc (.cells (boxCs (tK s.l) (tG s.l) (tN s.l) (.slice A3 (tD s.l).length c3)).toArray 38)
    have B3 := (HK2.out.2.trans (b3.mono HK2.out.2.size))
    have B3' := B3.alloc B3.size (.cells (boxCs (tK s.l) (tG s.l) (tN s.l) (.slice A3 (tD s.l).length c3)).toArray 38)
    have KB3 := Blk.new w3 38 (boxCs (tK s.l) (tG s.l) (tN s.l) (.slice A3 (tD s.l).length c3)).toArray
    have O3 := ho3.alloc (.cells (boxCs (tK s.l) (tG s.l) (tN s.l) (.slice A3 (tD s.l).length c3)).toArray 38)
    have hr3 : World.rangeAt (w3.alloc (.cells (boxCs (tK s.l) (tG s.l) (tN s.l) (.slice A3 (tD s.l).length c3)).toArray 38)) w.heap.size 0 s.cs := K3.range
    have HK3 := Lib.hid (And.intro K3 (And.intro B3' (And.intro KB3 (O3.bytes (tD_lt s.l s.lt)))))
    have HS := Lib.hid hs
    clear K3 B3 B3' KB3 O3 ho3 b3 HK2 hr2 hs
    go_wp2_with (first
      | (refine wpList_store_newN rfl 38 (.tmp 9) (.tmp 22) rfl w3.heap.size rfl (boxCs (tK s.l) (tG s.l) (tN s.l) (.slice A3 (tD s.l).length c3)) _ rfl rfl hib3 rfl hone3 ?_)
      | (refine wpList_load_mid rfl 33 (.tmp 4) rfl w.heap.size 0 rfl s.cs _ hr3 husec rfl hisec ?_))
    generalize w3.alloc (.cells (boxCs (tK s.l) (tG s.l) (tN s.l) (.slice A3 (tD s.l).length c3)).toArray 38) = w4 at *
    generalize w3.heap.size = gb at *
    refine (dopen_any s w4).mono ?_
    rintro e w5 hdo
    obtain ⟨A5, c5, rfl, ho5, b5⟩ : ∃ A5 c5, e = .returned (.tuple #[.agg (boxCs (tK s.l) (tG s.l) (tN s.l) (.slice A5 (tD s.l).length c5)).toArray, .bool true]) ∧ Own w5 w4.heap.size (.slice A5 (tD s.l).length c5) (tD s.l).length (tD s.l) ∧ Below w4.heap.size w4 w5 := by
      rcases hdo with ⟨_, A, c, h⟩ | ⟨h, _⟩
      · exact ⟨A, c, h⟩
      · rw [HS.out] at h; cases h
    clear hdo
    have hone5 := boxCs_one (tK s.l) (tG s.l) (tN s.l) A5 (tD s.l).length c5
    have hib5 : (Tryd.prog.info? 31).map (·.size) = some (boxCs (tK s.l) (tG s.l) (tN s.l) (.slice A5 (tD s.l).length c5)).length := lbox_size
    have K5 := (HK3.out.1.below b5 HK3.out.1.lt).alloc (.cells (boxCs (tK s.l) (tG s.l) (tN s.l) (.slice A5 (tD s.l).length c5)).toArray 31)
    have B5 := (HK3.out.2.1.trans (b5.mono HK3.out.2.1.size))
    have B5' := B5.alloc B5.size (.cells (boxCs (tK s.l) (tG s.l) (tN s.l) (.slice A5 (tD s.l).length c5)).toArray 31)
    have KB5 := (HK3.out.2.2.1.below b5 HK3.out.2.2.1.lt).alloc (.cells (boxCs (tK s.l) (tG s.l) (tN s.l) (.slice A5 (tD s.l).length c5)).toArray 31)
    have KL5 := Blk.new w5 31 (boxCs (tK s.l) (tG s.l) (tN s.l) (.slice A5 (tD s.l).length c5)).toArray
    have Y5 := (HK3.out.2.2.2.since b5).since (below_alloc w5 (.cells (boxCs (tK s.l) (tG s.l) (tN s.l) (.slice A5 (tD s.l).length c5)).toArray 31))
    have Z5 := (ho5.alloc (.cells (boxCs (tK s.l) (tG s.l) (tN s.l) (.slice A5 (tD s.l).length c5)).toArray 31)).bytes (tD_lt s.l s.lt)
    have hr5 : World.rangeAt (w5.alloc (.cells (boxCs (tK s.l) (tG s.l) (tN s.l) (.slice A5 (tD s.l).length c5)).toArray 31)) w.heap.size 0 s.cs := K5.range
    have HK5 := Lib.hid (And.intro K5 (And.intro B5' (And.intro KB5 (And.intro KL5 (And.intro Y5 Z5)))))
    clear K5 B5 B5' KB5 KL5 Y5 Z5 ho5 b5 HK3 hr3
    go_wp2_with (first
      | (refine wpList_store_newN rfl 31 (.tmp 11) (.tmp 27) rfl w5.heap.size rfl (boxCs (tK s.l) (tG s.l) (tN s.l) (.slice A5 (tD s.l).length c5)) _ rfl rfl hib5 rfl hone5 ?_)
      | (refine wpList_load_mid rfl 33 (.tmp 4) rfl w.heap.size 0 rfl s.cs _ hr5 husec rfl hisec ?_))
    generalize w5.alloc (.cells (boxCs (tK s.l) (tG s.l) (tN s.l) (.slice A5 (tD s.l).length c5)).toArray 31) = w6 at *
    generalize w5.heap.size = gl at *
    cases hio' : isOf s.l k g n with
    | true =>
      have hio := Lib.hid hio'
      clear hio'
      -- {one
      refine (is_yes s k g n w6 (HT.out.below HK5.out.2.1) hio.out).mono ?_
      rintro e w7 ⟨A7, c7, rfl, ho7, b7⟩
      have Y7 := ho7.bytes (tD_lt s.l s.lt)
      have K7 := HK5.out.1.below b7 HK5.out.1.lt
      have B7 := HK5.out.2.1.trans (b7.mono HK5.out.2.1.size)
      have KB7 := HK5.out.2.2.1.below b7 HK5.out.2.2.1.lt
      have KL7 := HK5.out.2.2.2.1.below b7 HK5.out.2.2.2.1.lt
      have hr7 : World.rangeAt w7 w.heap.size 0 s.cs := K7.range
      have X7 := HK5.out.2.2.2.2.1.since b7
      have Z7 := HK5.out.2.2.2.2.2.since b7
      have HK7 := Lib.hid (And.intro B7 (And.intro KB7 (And.intro KL7 (And.intro X7 Z7))))
      clear K7 B7 KB7 KL7 b7 HK5 hr5 X7 Z7
      go_wp2_with (refine wpList_load_mid rfl 33 (.tmp 4) rfl w.heap.size 0 rfl s.cs _ hr7 husec rfl hisec ?_)
      refine (dis_any s k g n w7).mono ?_
      rintro e w8 hdi
      obtain ⟨A8, c8, rfl, ho8, b8⟩ : ∃ A8 c8, e = .returned (.tuple #[.slice A8 (tD s.l).length c8, .bool true]) ∧ Own w8 w7.heap.size (.slice A8 (tD s.l).length c8) (tD s.l).length (tD s.l) ∧ Below w7.heap.size w7 w8 := by
        rcases hdi with ⟨_, A, c, h⟩ | ⟨h, _⟩
        · exact ⟨A, c, h⟩
        · rw [hio.out] at h; cases h
      have Y8 := ho8.bytes (tD_lt s.l s.lt)
      have Y7' := Y7.since b8
      have cb := (box_cells (HK7.out.2.1.below b8 HK7.out.2.1.lt))
      have cl := (lbox_cells (HK7.out.2.2.1.below b8 HK7.out.2.2.1.lt))
      have x0 := cb.1
      have x1 := cb.2.1
      have x2 := cb.2.2.1
      have x3 := cb.2.2.2
      have y0 := cl.1
      have y1 := cl.2.1
      have y2 := cl.2.2.1
      have y3 := cl.2.2.2
      have HB8 := Lib.hid (HK7.out.1.trans (b8.mono HK7.out.1.size))
      have X8 := HK7.out.2.2.2.1.since b8
      have Z8 := HK7.out.2.2.2.2.since b8
      have HY := Lib.hid (And.intro Y7' Y8)
      clear cb cl b8 hdi hr7 Y7 ho7 ho8 Y7' Y8 HK7
      have HXZ := Lib.hid (And.intro X8 Z8)
      clear X8 Z8
      go_wp2_with fail
      refine (same_iff _ _ _ _ _ _ _ _ _ _ w8 HXZ.out.1 HXZ.out.2).mono ?_
      rintro e w9 ⟨he, hw⟩
      subst he
      subst hw
      rw [beq_self_eq_true]
      go_wp2_with fail
      refine (same_iff _ _ _ _ _ _ _ _ _ _ w8 HY.out.1 HY.out.2).mono ?_
      rintro e w9 ⟨he, hw⟩
      subst he
      subst hw
      rw [beq_self_eq_true]
      go_wp2
      go_ret
      exact ⟨rfl, HB8.out⟩
      -- one}
    | false =>
      have hio := Lib.hid hio'
      clear hio'
      -- {two
      refine (is_no s k g n w6 (HT.out.below HK5.out.2.1) hio.out).mono ?_
      rintro e w7 ⟨rfl, b7⟩
      have K7 := HK5.out.1.below b7 HK5.out.1.lt
      have B7 := HK5.out.2.1.trans (b7.mono HK5.out.2.1.size)
      have KB7 := HK5.out.2.2.1.below b7 HK5.out.2.2.1.lt
      have KL7 := HK5.out.2.2.2.1.below b7 HK5.out.2.2.2.1.lt
      have hr7 : World.rangeAt w7 w.heap.size 0 s.cs := K7.range
      have X7 := HK5.out.2.2.2.2.1.since b7
      have Z7 := HK5.out.2.2.2.2.2.since b7
      have HK7 := Lib.hid (And.intro B7 (And.intro KB7 (And.intro KL7 (And.intro X7 Z7))))
      clear K7 B7 KB7 KL7 b7 HK5 hr5 X7 Z7
      go_wp2_with (refine wpList_load_mid rfl 33 (.tmp 4) rfl w.heap.size 0 rfl s.cs _ hr7 husec rfl hisec ?_)
      refine (dis_any s k g n w7).mono ?_
      rintro e w8 hdi
      obtain ⟨rfl, b8⟩ : e = .returned (.tuple #[.slice none 0 0, .bool false]) ∧ Below w7.heap.size w7 w8 := by
        rcases hdi with ⟨h, _⟩ | ⟨_, h⟩
        · rw [hio.out] at h; cases h
        · exact h
      have Y8 : Bytes w8 0 none 0 [] := ⟨Reads.none_, fun b hb => by cases hb⟩
      have Y7' : Bytes w8 0 none 0 [] := ⟨Reads.none_, fun b hb => by cases hb⟩
      have cb := (box_cells (HK7.out.2.1.below b8 HK7.out.2.1.lt))
      have cl := (lbox_cells (HK7.out.2.2.1.below b8 HK7.out.2.2.1.lt))
      have x0 := cb.1
      have x1 := cb.2.1
      have x2 := cb.2.2.1
      have x3 := cb.2.2.2
      have y0 := cl.1
      have y1 := cl.2.1
      have y2 := cl.2.2.1
      have y3 := cl.2.2.2
      have HB8 := Lib.hid (HK7.out.1.trans (b8.mono HK7.out.1.size))
      have X8 := HK7.out.2.2.2.1.since b8
      have Z8 := HK7.out.2.2.2.2.since b8
      have HY := Lib.hid (And.intro Y7' Y8)
      clear cb cl b8 hdi hr7  Y7' Y8 HK7
      have HXZ := Lib.hid (And.intro X8 Z8)
      clear X8 Z8
      go_wp2_with fail
      refine (same_iff _ _ _ _ _ _ _ _ _ _ w8 HXZ.out.1 HXZ.out.2).mono ?_
      rintro e w9 ⟨he, hw⟩
      subst he
      subst hw
      rw [beq_self_eq_true]
      go_wp2_with fail
      refine (same_iff _ _ _ _ _ _ _ _ _ _ w8 HY.out.1 HY.out.2).mono ?_
      rintro e w9 ⟨he, hw⟩
      subst he
      subst hw
      rw [beq_self_eq_true]
      go_wp2
      go_ret
      exact ⟨rfl, HB8.out⟩
      -- two}
  | false =>
    have hio : Hid (isOf s.l k g n = false) := Lib.hid (by unfold isOf; rw [hs]; rfl)
    refine (open_bad s w2 (HT.out.below HK2.out.2) hs).mono ?_
    rintro e w3 ⟨rfl, b3⟩
    have hone3 := boxCs_one 0 0 0 none 0 0
    have hib3 : (Tryd.prog.info? 38).map (·.size) = some (boxCs 0 0 0 (.slice none 0 0)).length := box_size
    have K3 := (HK2.out.1.below b3 HK2.out.1.lt).alloc (.cells (boxCs 0 0 0 (.slice none 0 0)).toArray 38)
    have B3 := (HK2.out.2.trans (b3.mono HK2.out.2.size))
    have B3' := B3.alloc B3.size (.cells (boxCs 0 0 0 (.slice none 0 0)).toArray 38)
    have KB3 := Blk.new w3 38 (boxCs 0 0 0 (.slice none 0 0)).toArray
    have hr3 : World.rangeAt (w3.alloc (.cells (boxCs 0 0 0 (.slice none 0 0)).toArray 38)) w.heap.size 0 s.cs := K3.range
    have HK3 := Lib.hid (And.intro K3 (And.intro B3' KB3))
    have HS := Lib.hid hs
    clear K3 B3 B3' KB3 b3 HK2 hr2 hs
    simp only [errV]
    go_wp2_with (first
      | (refine wpList_store_newN rfl 38 (.tmp 9) (.tmp 22) rfl w3.heap.size rfl (boxCs 0 0 0 (.slice none 0 0)) _ rfl rfl hib3 rfl hone3 ?_)
      | (refine wpList_load_mid rfl 33 (.tmp 4) rfl w.heap.size 0 rfl s.cs _ hr3 husec rfl hisec ?_))
    generalize w3.alloc (.cells (boxCs 0 0 0 (.slice none 0 0)).toArray 38) = w4 at *
    generalize w3.heap.size = gb at *
    refine (dopen_any s w4).mono ?_
    rintro e w5 hdo
    obtain ⟨rfl, b5⟩ : e = .returned (.tuple #[.agg (boxCs 0 0 0 (.slice none 0 0)).toArray, .bool false]) ∧ Below w4.heap.size w4 w5 := by
      rcases hdo with ⟨h, _⟩ | ⟨_, h⟩
      · rw [HS.out] at h; cases h
      · exact h
    clear hdo
    have hib5 : (Tryd.prog.info? 31).map (·.size) = some (boxCs 0 0 0 (.slice none 0 0)).length := lbox_size
    have K5 := (HK3.out.1.below b5 HK3.out.1.lt).alloc (.cells (boxCs 0 0 0 (.slice none 0 0)).toArray 31)
    have B5 := (HK3.out.2.1.trans (b5.mono HK3.out.2.1.size))
    have B5' := B5.alloc B5.size (.cells (boxCs 0 0 0 (.slice none 0 0)).toArray 31)
    have KB5 := (HK3.out.2.2.below b5 HK3.out.2.2.lt).alloc (.cells (boxCs 0 0 0 (.slice none 0 0)).toArray 31)
    have KL5 := Blk.new w5 31 (boxCs 0 0 0 (.slice none 0 0)).toArray
    have hr5 : World.rangeAt (w5.alloc (.cells (boxCs 0 0 0 (.slice none 0 0)).toArray 31)) w.heap.size 0 s.cs := K5.range
    have HK5 := Lib.hid (And.intro K5 (And.intro B5' (And.intro KB5 KL5)))
    clear K5 B5 B5' KB5 KL5 b5 HK3 hr3
    go_wp2_with (first
      | (refine wpList_store_newN rfl 31 (.tmp 11) (.tmp 27) rfl w5.heap.size rfl (boxCs 0 0 0 (.slice none 0 0)) _ rfl rfl hib5 rfl hone3 ?_)
      | (refine wpList_load_mid rfl 33 (.tmp 4) rfl w.heap.size 0 rfl s.cs _ hr5 husec rfl hisec ?_))
    generalize w5.alloc (.cells (boxCs 0 0 0 (.slice none 0 0)).toArray 31) = w6 at *
    generalize w5.heap.size = gl at *
    -- {three
    refine (is_no s k g n w6 (HT.out.below HK5.out.2.1) hio.out).mono ?_
    rintro e w7 ⟨rfl, b7⟩
    have K7 := HK5.out.1.below b7 HK5.out.1.lt
    have B7 := HK5.out.2.1.trans (b7.mono HK5.out.2.1.size)
    have KB7 := HK5.out.2.2.1.below b7 HK5.out.2.2.1.lt
    have KL7 := HK5.out.2.2.2.below b7 HK5.out.2.2.2.lt
    have hr7 : World.rangeAt w7 w.heap.size 0 s.cs := K7.range
    have HK7 := Lib.hid (And.intro B7 (And.intro KB7 KL7))
    clear K7 B7 KB7 KL7 b7 HK5 hr5
    go_wp2_with (refine wpList_load_mid rfl 33 (.tmp 4) rfl w.heap.size 0 rfl s.cs _ hr7 husec rfl hisec ?_)
    refine (dis_any s k g n w7).mono ?_
    rintro e w8 hdi
    obtain ⟨rfl, b8⟩ : e = .returned (.tuple #[.slice none 0 0, .bool false]) ∧ Below w7.heap.size w7 w8 := by
      rcases hdi with ⟨h, _⟩ | ⟨_, h⟩
      · rw [hio.out] at h; cases h
      · exact h
    have Y8 : Bytes w8 0 none 0 [] := ⟨Reads.none_, fun b hb => by cases hb⟩
    have Y7' : Bytes w8 0 none 0 [] := ⟨Reads.none_, fun b hb => by cases hb⟩
    have cb := (box_cells (HK7.out.2.1.below b8 HK7.out.2.1.lt))
    have cl := (lbox_cells (HK7.out.2.2.below b8 HK7.out.2.2.lt))
    have x0 := cb.1
    have x1 := cb.2.1
    have x2 := cb.2.2.1
    have x3 := cb.2.2.2
    have y0 := cl.1
    have y1 := cl.2.1
    have y2 := cl.2.2.1
    have y3 := cl.2.2.2
    have HB8 := Lib.hid (HK7.out.1.trans (b8.mono HK7.out.1.size))
    have HY := Lib.hid (And.intro Y7' Y8)
    clear cb cl b8 hdi hr7  Y7' Y8 HK7
    go_wp2_with fail
    refine (is_any 11 11 w8).mono ?_
    rintro e w9 ⟨he, hw⟩
    subst he
    subst hw
    rw [show (11 == 11) = true from rfl]
    go_wp2_with fail
    have HN : Hid (Bytes w8 0 none 0 []) := Lib.hid ⟨Reads.none_, fun b hb => by cases hb⟩
    refine (same_iff _ _ _ _ _ _ _ _ _ _ w8 HN.out HN.out).mono ?_
    rintro e w9 ⟨he, hw⟩
    subst he
    subst hw
    rw [beq_self_eq_true]
    go_wp2_with fail
    refine (same_iff _ _ _ _ _ _ _ _ _ _ w8 HY.out.1 HY.out.2).mono ?_
    rintro e w9 ⟨he, hw⟩
    subst he
    subst hw
    rw [beq_self_eq_true]
    go_wp2
    go_ret
    exact ⟨rfl, HB8.out⟩
    -- three}
end Go.Proofs.YtgdkpmgfholnkaaDoor
