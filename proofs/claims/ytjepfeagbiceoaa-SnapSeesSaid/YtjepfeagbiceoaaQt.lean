/-
  The chapter's example. No condition.
-/
import Derived.Test.YtjepfeagbiceoaaQs
import Derived.Lib.SlBytesConst
namespace Go.Proofs.Ytjepfeagbiceoaa
open Go.RowKit Go.BigFrame
set_option linter.unusedSimpArgs false
set_option linter.unusedVariables false
set_option maxRecDepth 100000
def ex1 : OV := ⟨true, [111, 108, 100], 0, []⟩
def ex2 : OV := ⟨true, [111, 78, 69], 1, [⟨[1], [111, 108, 100]⟩]⟩
theorem good_zero : Good OV.zero := ⟨by decide, by decide, fun _ => rfl, by decide, fun c hc => (by cases hc), List.Pairwise.nil, fun s hs => (by cases hs)⟩
theorem good_ex1 : Good ex1 := ⟨by decide, by decide, fun h => (by cases h), by decide, fun c hc => (by cases hc), List.Pairwise.nil, fun s hs => (by cases hs)⟩
theorem good_ex2 : Good ex2 := by
  rw [good_iff]
  refine ⟨⟨by decide, by decide, fun h => (by cases h), by decide⟩, fun c hc => ?_, rfl, by decide⟩
  simp [ex2] at hc
  subst hc
  exact ⟨by decide, by decide⟩
theorem cx_zero : CxG ⟨0, []⟩ := ⟨by decide, by decide, List.Pairwise.nil, fun s hs => (by cases hs)⟩
theorem cx_one : CxG ⟨1, [1]⟩ := ⟨by decide, by decide, List.pairwise_singleton _ _, fun s hs => (by simp at hs; subst hs; exact ⟨by decide, by decide⟩)⟩
theorem ch_ex1 : ChR OV.zero ⟨0, []⟩ (writeK 0 3) (some (writeD [] (0 : Int).toNat [111, 108, 100])) ex1 0 := by
  have h := ChR.ok (hd := some (writeD [] (0 : Int).toNat [111, 108, 100])) good_zero cx_zero (show OV.zero.sq ≤ (0 : Int) by decide) (show writeK 0 3 = 0 by decide) (by decide)
  exact h
theorem ch_ex2 : ChR ex1 ⟨1, [1]⟩ (writeK 1 2) (some (writeD ex1.dt (1 : Int).toNat [78, 69])) ex2 0 := by
  have h := ChR.ok (hd := some (writeD ex1.dt (1 : Int).toNat [78, 69])) good_ex1 cx_one (show ex1.sq ≤ (1 : Int) by decide) (show writeK 1 2 = 0 by decide) (by decide)
  exact h
theorem at_ex2 : atO ex2 1 = some [111, 108, 100] ∧ atO ex2 0 = some [111, 78, 69] := by decide
theorem strs_lit {bs : List Nat} {s : ByteArray} (h : s = strOf bs) : (strOf bs).toList = s.toList := by rw [h]
set_option maxHeartbeats 8000000 in
theorem alive_any (w : World) : Calls Try.prog 9 #[] w fun e w' => e = .returned (.bool true) ∧ Below w.heap.size w w' := by
  obtain ⟨w0, hw0⟩ : ∃ w0, w0 = w.alloc (.cells #[.int .u8 111, .int .u8 108, .int .u8 100] 5 (3, 4)) := ⟨_, rfl⟩
  have hb0 : Below w.heap.size w w0 := by rw [hw0]; exact below_alloc w _
  have hd0 : Bytes w0 w0.heap.size (some ⟨w.heap.size, 0, none⟩) 3 [111, 108, 100] := by
    rw [hw0]
    exact (Bytes.new w [111, 108, 100] 5 (3, 4) (by decide)).more (by simp)
  have H0 := Lib.hid (And.intro hb0 (And.intro hd0 hw0))
  have hW1 := snWrite (w := w0) OA.zero ⟨0, [], none, 0⟩ 0 (some ⟨w.heap.size, 0, none⟩) 3 3 [111, 108, 100] (by decide) (by decide) (OA.zero_R _) OA.zero_Sm ⟨Reads.none_, fun s hs => (by cases hs), by decide, by decide, by decide, by decide⟩ hd0 (by decide)
  have HW1 := Lib.hid hW1
  clear hb0 hd0 hw0 hW1
  have kc := fun (w : World) (C : Array Value) (n c : Nat) => Lib.run_convert_bytes_const (P := Try.prog) w 22 5 C n c Try.underlying22 Try.underlying5
  go_enter Try.func9, Try.ntmps9
  go_wp2_with fail
  have hw0 := H0.out.2.2
  rw [← hw0]
  clear hw0
  refine HW1.out.mono ?_
  rintro e w1 ⟨q1, k1, rfl, hr1, hN1, hS1, hb1⟩
  obtain ⟨hv1, rfl⟩ := hr1.one ch_ex1
  have HQ1 := Lib.hid (And.intro hv1 (And.intro hN1.R (And.intro hS1 hb1)))
  clear hr1 hN1 hS1 hb1 hv1 HW1
  have hq1 : q1.cs = #[.bool q1.th, .slice q1.D q1.dt.length q1.cd, .int .i64 q1.sq, .slice q1.C q1.cl.length q1.cc] := rfl
  unfold errV
  rw [hq1]
  clear hq1
  go_upto_region 2 with (fail)
  obtain ⟨w2, hw2⟩ : ∃ w2, w2 = w1.alloc (.cells #[.bool q1.th, .slice q1.D q1.dt.length q1.cd, .int .i64 q1.sq, .slice q1.C q1.cl.length q1.cc] 36) := ⟨_, rfl⟩
  rw [← hw2]
  have K2 : Blk w2 w1.heap.size 36 [Value.bool q1.th, .slice q1.D q1.dt.length q1.cd, .int .i64 q1.sq, .slice q1.C q1.cl.length q1.cc].toArray := by rw [hw2]; exact Blk.new w1 _ _
  have hb2 : Below w1.heap.size w1 w2 := by rw [hw2]; exact below_alloc w1 _
  clear hw2
  have HB2 := Lib.hid (And.intro K2 (And.intro hb2 ((H0.out.1.trans (HQ1.out.2.2.2.mono H0.out.1.size)).trans (hb2.mono (by have := H0.out.1.size; have := HQ1.out.2.2.2.size; omega)))))
  have HR2 := Lib.hid (HQ1.out.2.1.since hb2)
  clear hb2 kc
  obtain ⟨g1, hg1⟩ : ∃ g1, g1 = w1.heap.size := ⟨_, rfl⟩
  rw [← hg1] at K2 HB2 ⊢
  clear hg1
  have kc := Lib.run_convert_bytes_const (P := Try.prog) (w2.alloc (.cells #[.int .i64 1] 3)) 22 5 #[.int .u8 78, .int .u8 69] 2 2 Try.underlying22 Try.underlying5
  rw [World.size_alloc] at kc
  obtain ⟨w3, hw3⟩ : ∃ w3, w3 = (w2.alloc (.cells #[.int .i64 1] 3)).alloc (.cells #[.int .u8 78, .int .u8 69] 5 (2, 3)) := ⟨_, rfl⟩
  have hb3 : Below w2.heap.size w2 w3 := by rw [hw3]; exact (below_alloc w2 _).alloc (by simp) _
  have hd3 : Bytes w3 w3.heap.size (some ⟨w2.heap.size + 1, 0, none⟩) 2 [78, 69] := by
    rw [hw3]
    have := (Bytes.new (w2.alloc (.cells #[.int .i64 1] 3)) [78, 69] 5 (2, 3) (by decide)).more (B' := ((w2.alloc (.cells #[.int .i64 1] 3)).alloc (.cells #[.int .u8 78, .int .u8 69] 5 (2, 3))).heap.size) (by simp)
    simp only [World.size_alloc] at this ⊢
    exact this
  have hi3 : Ints w3 w3.heap.size (some ⟨w2.heap.size, 0, none⟩) 1 [1] := by
    rw [hw3]
    have := Reads.new w2 (i64s [1]) 3 (0, 0)
    exact (Reads.alloc (B := w2.heap.size + 1) this (by simp) _).more (by simp)
  have hW3 := snWrite (w := w3) q1 ⟨1, [1], some ⟨w2.heap.size, 0, none⟩, 1⟩ 1 (some ⟨w2.heap.size + 1, 0, none⟩) 2 2 [78, 69] (by decide) (by decide) (HR2.out.since hb3) HQ1.out.2.2.1 ⟨hi3, fun s hs => (by simp at hs; omega), (by show (-9223372036854775808 : Int) ≤ 1; decide), (by show (1 : Int) ≤ 9223372036854775807; decide), (by show (1 : Nat) ≤ 9223372036854775807; decide), Nat.le_refl _⟩ hd3 (by decide)
  have hq1 : q1.cs = #[.bool q1.th, .slice q1.D q1.dt.length q1.cd, .int .i64 q1.sq, .slice q1.C q1.cl.length q1.cc] := rfl
  rw [hq1] at hW3
  have HW3 := Lib.hid (And.intro hW3 (And.intro hw3 hb3))
  clear hq1 hb3 hd3 hi3 hW3 hw3
  go_wp2_with (have _h := K2; refine wpList_loadq rfl 36 (.tmp 1) rfl g1 [.bool q1.th, .slice q1.D q1.dt.length q1.cd, .int .i64 q1.sq, .slice q1.C q1.cl.length q1.cc] _ rfl K2 Try.underlying36 rfl (by kernel_rfl) ?_; clear _h K2)
  rw [← HW3.out.2.1]
  refine HW3.out.1.mono ?_
  rintro e w4 ⟨q2, k2, rfl, hr2, hN2, hS2, hb4⟩
  have hv1 := HQ1.out.1
  have hdt1 : q1.dt = ex1.dt := congrArg OV.dt hv1
  rw [hv1, hdt1] at hr2
  obtain ⟨hv2, rfl⟩ := hr2.one ch_ex2
  have HQ2 := Lib.hid (And.intro hv2 (And.intro hN2.R (And.intro hS2 hb4)))
  clear hr2 hN2 hS2 hb4 hv2 hv1 hdt1 kc
  have hq2 : q2.cs = #[.bool q2.th, .slice q2.D q2.dt.length q2.cd, .int .i64 q2.sq, .slice q2.C q2.cl.length q2.cc] := rfl
  unfold errV
  rw [hq2]
  clear hq2
  go_upto_region 5 with (fail)
  obtain ⟨w5, hw5⟩ : ∃ w5, w5 = w4.alloc (.cells #[.bool q2.th, .slice q2.D q2.dt.length q2.cd, .int .i64 q2.sq, .slice q2.C q2.cl.length q2.cc] 36) := ⟨_, rfl⟩
  rw [← hw5]
  have K5 : Blk w5 w4.heap.size 36 [Value.bool q2.th, .slice q2.D q2.dt.length q2.cd, .int .i64 q2.sq, .slice q2.C q2.cl.length q2.cc].toArray := by rw [hw5]; exact Blk.new w4 _ _
  have hb5 : Below w4.heap.size w4 w5 := by rw [hw5]; exact below_alloc w4 _
  clear hw5
  have hz3 := HW3.out.2.2.size
  have hz2 := HB2.out.2.2.size
  have HB5 : Hid (Below w.heap.size w w5) := Lib.hid (((HB2.out.2.2.trans (HW3.out.2.2.mono hz2)).trans (HQ2.out.2.2.2.mono (by omega))).trans (hb5.mono (by have := HQ2.out.2.2.2.size; omega)))
  have hR5 := HQ2.out.2.1.since hb5
  obtain ⟨g2, hg2⟩ : ∃ g2, g2 = w4.heap.size := ⟨_, rfl⟩
  rw [← hg2] at K5 ⊢
  have HA1 := Lib.hid (sat_any q2 1 hR5 HQ2.out.2.2.1)
  have HK5 := Lib.hid (And.intro K5 hR5)
  have hq2 : q2.cs = #[.bool q2.th, .slice q2.D q2.dt.length q2.cd, .int .i64 q2.sq, .slice q2.C q2.cl.length q2.cc] := rfl
  rw [hq2] at HA1
  clear hg2 hb5 hR5 hz3 hz2
  go_wp2_with (have _h := K5; refine wpList_loadq rfl 36 (.tmp 3) rfl g2 [.bool q2.th, .slice q2.D q2.dt.length q2.cd, .int .i64 q2.sq, .slice q2.C q2.cl.length q2.cc] _ rfl K5 Try.underlying36 rfl (by kernel_rfl) ?_; clear _h K5)
  refine HA1.out.mono ?_
  rintro e w6 ⟨hb6, ⟨d, v, -, -, hat, rfl, hv6, hd6⟩ | ⟨hno, _⟩⟩
  rotate_left
  · rw [HQ2.out.1] at hno
    have := hno good_ex2 (by decide)
    rw [at_ex2.1] at this
    cases this
  rw [HQ2.out.1, at_ex2.1] at hat
  injection hat with hat
  subst hat
  obtain ⟨D6, c6, rfl, -⟩ := hv6.form
  have K6 := HK5.out.1.of (hb6.block _ HK5.out.1.lt)
  have hR6 := HK5.out.2.since hb6
  have HA0 := Lib.hid (sat_any q2 0 hR6 HQ2.out.2.2.1)
  rw [hq2] at HA0
  have HB6 := Lib.hid (And.intro hv6 (And.intro hb6 K6))
  clear hb6 hv6 hd6 hR6 HA1 hq2
  go_wp2_with (have _h := K6; refine wpList_loadq rfl 36 (.tmp 3) rfl g2 [.bool q2.th, .slice q2.D q2.dt.length q2.cd, .int .i64 q2.sq, .slice q2.C q2.cl.length q2.cc] _ rfl K6 Try.underlying36 rfl (by kernel_rfl) ?_; clear _h K6)
  refine HA0.out.mono ?_
  rintro e w7 ⟨hb7, ⟨d, v, -, -, hat, rfl, hv7, hd7⟩ | ⟨hno, _⟩⟩
  rotate_left
  · rw [HQ2.out.1] at hno
    have := hno good_ex2 (by decide)
    rw [at_ex2.2] at this
    cases this
  rw [HQ2.out.1, at_ex2.2] at hat
  injection hat with hat
  subst hat
  obtain ⟨D7, c7, rfl, -⟩ := hv7.form
  have K7 := HB6.out.2.2.of (hb7.block _ HB6.out.2.2.lt)
  have k1 := str_of (P := Try.prog) ((HB6.out.1.below hb7).bytes (by decide)) c6 22 9 5 Try.underlying22 Try.underlying5 Try.underlying9
  have k2 := str_of (P := Try.prog) (hv7.bytes (by decide)) c7 22 9 5 Try.underlying22 Try.underlying5 Try.underlying9
  have c3 : w7.cell? ⟨g2, 3, none⟩ = some (.slice q2.C q2.cl.length q2.cc) := K7.cell 3
  have hcl : q2.cl.length = 1 := by
    have h1 : q2.vs = ex2.cl := congrArg OV.cl HQ2.out.1
    rw [← OA.vs_len, h1]
    rfl
  rw [hcl] at c3
  have s1 : (strOf [111, 108, 100]) = ⟨#[111, 108, 100]⟩ := by decide
  have s2 : (strOf [111, 78, 69]) = ⟨#[111, 78, 69]⟩ := by decide
  simp only [List.length_cons, List.length_nil, Nat.zero_add, Nat.reduceAdd] at k1 k2 ⊢
  rw [s1] at k1
  rw [s2] at k2
  have HB7 : Hid (Below w.heap.size w w7) := Lib.hid ((HB5.out.trans (HB6.out.2.1.mono HB5.out.size)).trans (hb7.mono (by have := HB5.out.size; have := HB6.out.2.1.size; omega)))
  clear hb7 hv7 hd7 K7 hcl s1 s2 HA0
  go_wp2
  go_ret
  exact ⟨rfl, HB7.out⟩
end Go.Proofs.Ytjepfeagbiceoaa
