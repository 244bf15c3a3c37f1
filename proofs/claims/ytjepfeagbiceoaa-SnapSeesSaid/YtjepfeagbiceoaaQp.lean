/-
  The changes of an object: Write, Zero, Cut, Drop, Back. Conditions: the object, the context and the bytes read as they are said to.
-/
import Derived.Test.YtjepfeagbiceoaaQo
namespace Go.Proofs.Ytjepfeagbiceoaa
open Go.RowKit Go.BigFrame
set_option linter.unusedSimpArgs false
set_option linter.unusedVariables false
set_option maxRecDepth 100000
theorem alloc2 (w : World) (a b : Obj) : ((w.alloc a).alloc b).heap.size = w.heap.size + 1 + 1 := by simp
theorem see_self {o : OV} {c : CxV} (hg : Good o) (hc : CxG c) (hq : o.sq ≤ c.sq) (hn : (seeO o c).cl.length ≤ 16) : Good (seeO o c) := by
  have h1 := see_good hg hc hq hn (if o.th = true then some o.dt else none) (fun d hd => by
    split at hd
    · injection hd with hd; subst hd; exact hg.dt
    · cases hd)
  have e : withHead (seeO o c) (if o.th = true then some o.dt else none) = seeO o c := by
    cases ht : o.th with
    | true => simp [withHead, seeO, ht]
    | false =>
      have := hg.th ht
      simp [withHead, seeO, ht, this]
  rw [e] at h1
  exact h1
set_option maxHeartbeats 8000000 in
theorem snDrop {w : World} (o : OA) (c : XA)  (ho : o.R w) (hoS : o.Sm) (hc : c.R w) : Calls Try.prog 35 #[.agg o.cs, .agg c.cells] w (ChTo w (ChR o.v c.v (0) (none))) := by
  obtain ⟨w0, hw0⟩ : ∃ w0, w0 = (((w).alloc (.cells o.cs 36)).alloc (.cells c.cells 28)).alloc (.cells #[.bool false, .slice none 0 0, .int .i64 0, .slice none 0 0] 36) := ⟨_, rfl⟩
  have hbel : Below w.heap.size w w0 := by rw [hw0]; exact (((Below.refl _ w).alloc (Nat.le_refl _) _).alloc (by simp) _).alloc (by simp; omega) _
  have b0 : Blk w0 (w.heap.size) 36 o.cs := by
    have := ((Blk.new (w) 36 o.cs).alloc (.cells c.cells 28)).alloc (.cells #[.bool false, .slice none 0 0, .int .i64 0, .slice none 0 0] 36)
    rw [hw0]
    simpa using this
  have b1 : Blk w0 (w.heap.size + 1) 28 c.cells := by
    have := (Blk.new ((w).alloc (.cells o.cs 36)) 28 c.cells).alloc (.cells #[.bool false, .slice none 0 0, .int .i64 0, .slice none 0 0] 36)
    rw [hw0]
    simpa using this
  have b2 : Blk w0 (w.heap.size + 1 + 1) 36 #[.bool false, .slice none 0 0, .int .i64 0, .slice none 0 0] := by
    have := Blk.new (((w).alloc (.cells o.cs 36)).alloc (.cells c.cells 28)) 36 #[.bool false, .slice none 0 0, .int .i64 0, .slice none 0 0]
    rw [hw0]
    simpa using this
  have hz0 : w0.heap.size = w.heap.size + 3 := by rw [hw0]; simp
  have hres : w.heap.size + 1 + 1 < w0.heap.size := by omega
  have HCH := Lib.hid (change_any (w := w0) o c 66 67 #[] #[] (enters_of Try.func66 (by kernel_rfl) rfl) (enters_of Try.func67 (by kernel_rfl) rfl) (0) (none) (ho.since hbel) hoS (hc.since hbel) (fun hg => dropMay w0) (fun hg hcg hle hk hl => dropDoes w0 _))
  have HB := Lib.hid (And.intro hbel (And.intro b2 hres))
  have hW := hw0
  unfold OA.cs XA.cells at hW
  have HW := Lib.hid hW
  have hcs : o.cs = #[.bool o.th, .slice o.D o.dt.length o.cd, .int .i64 o.sq, .slice o.C o.cl.length o.cc] := rfl
  have hxs : c.cells = #[.int .i64 c.sq, .slice c.S c.sn.length c.cs] := rfl
  rw [hcs, hxs] at HCH
  rw [hcs] at b0
  rw [hxs] at b1
  rw [hcs, hxs]
  clear hcs hxs hw0 hW hbel hres hz0 ho hoS hc b2
  go_enter Try.func35, Try.ntmps35
  go_upto_region 1 with (fail)
  rw [← HW.out]
  go_wp2_with (first
    | (have _h := b0; refine wpList_loadq rfl 36 (.tmp 2) rfl (w.heap.size) [.bool o.th, .slice o.D o.dt.length o.cd, .int .i64 o.sq, .slice o.C o.cl.length o.cc] _ rfl b0 Try.underlying36 rfl (by kernel_rfl) ?_; clear _h b0)
    | (have _h := b1; refine wpList_loadq rfl 28 (.tmp 3) rfl (w.heap.size + 1) [.int .i64 c.sq, .slice c.S c.sn.length c.cs] _ rfl b1 Try.underlying28 rfl (by kernel_rfl) ?_; clear _h b1))
  refine HCH.out.mono ?_
  rintro e w1 ⟨q, k, rfl, hr, hN, hS, hb⟩
  have K1 := HB.out.2.1.of (hb.block _ HB.out.2.2)
  have HR := Lib.hid (And.intro hr (And.intro hN (And.intro hS hb)))
  have hqs : q.cs = #[.bool q.th, .slice q.D q.dt.length q.cd, .int .i64 q.sq, .slice q.C q.cl.length q.cc] := rfl
  rw [hqs]
  obtain ⟨ek, hek⟩ : ∃ ek, ek = errV k := ⟨_, rfl⟩
  have HEK := Lib.hid hek
  rw [← hek]
  clear hqs hr hN hS hb HCH hek
  go_wp2_with (have _h := K1; refine wpList_storeq rfl 36 (.tmp 4) (.tmp 11) rfl (w.heap.size + 1 + 1) #[.bool false, .slice none 0 0, .int .i64 0, .slice none 0 0] [.bool q.th, .slice q.D q.dt.length q.cd, .int .i64 q.sq, .slice q.C q.cl.length q.cc] rfl rfl K1 rfl (by kernel_rfl) (OA.cs_one q) ?_; clear _h; intro w9 K9 ho9 hs9)
  refine bodyPost_ret (res_cell_tmp rfl _ _ (w.heap.size + 1 + 1) [.bool q.th, .slice q.D q.dt.length q.cd, .int .i64 q.sq, .slice q.C q.cl.length q.cc] _ _ rfl rfl K9 Try.underlying36 rfl (by kernel_rfl)) rfl ?_
  refine ⟨q, k, by rw [HEK.out]; rfl, HR.out.1, OA.P.weaken (OA.P.typed HR.out.2.1 fun k t cs hb ht => ho9.block k hb.lt (fun hm => ?_)) HB.out.1.size, HR.out.2.2.1, ?_⟩
  · simp at hm
    subst hm
    refine hb.ne_ K1 ?_ rfl
    rcases ht with rfl | rfl | rfl <;> decide
  · have h1 : Below w.heap.size w w1 := HB.out.1.trans (HR.out.2.2.2.mono HB.out.1.size)
    exact h1.trans (ho9.below (B := w.heap.size) (fun k hk => by simp at hk; omega) h1.size)
set_option maxHeartbeats 8000000 in
theorem snCut {w : World} (o : OA) (c : XA) (n : Int) (i1 : -9223372036854775808 ≤ n) (i2 : n ≤ 9223372036854775807) (ho : o.R w) (hoS : o.Sm) (hc : c.R w) : Calls Try.prog 39 #[.agg o.cs, .agg c.cells, .int .i64 n] w (ChTo w (ChR o.v c.v (cutK o.v n) (some (o.dt.take n.toNat)))) := by
  obtain ⟨w0, hw0⟩ : ∃ w0, w0 = ((((w).alloc (.cells o.cs 36)).alloc (.cells c.cells 28)).alloc (.cells #[.int .i64 n] 3)).alloc (.cells #[.bool false, .slice none 0 0, .int .i64 0, .slice none 0 0] 36) := ⟨_, rfl⟩
  have hbel : Below w.heap.size w w0 := by rw [hw0]; exact ((((Below.refl _ w).alloc (Nat.le_refl _) _).alloc (by simp) _).alloc (by simp; omega) _).alloc (by simp; omega) _
  have b0 : Blk w0 (w.heap.size) 36 o.cs := by
    have := (((Blk.new (w) 36 o.cs).alloc (.cells c.cells 28)).alloc (.cells #[.int .i64 n] 3)).alloc (.cells #[.bool false, .slice none 0 0, .int .i64 0, .slice none 0 0] 36)
    rw [hw0]
    simpa using this
  have b1 : Blk w0 (w.heap.size + 1) 28 c.cells := by
    have := ((Blk.new ((w).alloc (.cells o.cs 36)) 28 c.cells).alloc (.cells #[.int .i64 n] 3)).alloc (.cells #[.bool false, .slice none 0 0, .int .i64 0, .slice none 0 0] 36)
    rw [hw0]
    simpa using this
  have b2 : Blk w0 (w.heap.size + 1 + 1) 3 #[.int .i64 n] := by
    have := (Blk.new (((w).alloc (.cells o.cs 36)).alloc (.cells c.cells 28)) 3 #[.int .i64 n]).alloc (.cells #[.bool false, .slice none 0 0, .int .i64 0, .slice none 0 0] 36)
    rw [hw0]
    simpa using this
  have b3 : Blk w0 (w.heap.size + 1 + 1 + 1) 36 #[.bool false, .slice none 0 0, .int .i64 0, .slice none 0 0] := by
    have := Blk.new ((((w).alloc (.cells o.cs 36)).alloc (.cells c.cells 28)).alloc (.cells #[.int .i64 n] 3)) 36 #[.bool false, .slice none 0 0, .int .i64 0, .slice none 0 0]
    rw [hw0]
    simpa using this
  have hz0 : w0.heap.size = w.heap.size + 4 := by rw [hw0]; simp
  have hres : w.heap.size + 1 + 1 + 1 < w0.heap.size := by omega
  have HCH := Lib.hid (change_any (w := w0) o c 79 80 #[.pointer (some ⟨w.heap.size, 0, none⟩), .pointer (some ⟨w.heap.size + 1 + 1, 0, none⟩)] #[.pointer (some ⟨w.heap.size + 1 + 1, 0, none⟩)] (enters_of Try.func79 (by kernel_rfl) rfl) (enters_of Try.func80 (by kernel_rfl) rfl) (cutK o.v n) (some (o.dt.take n.toNat)) (ho.since hbel) hoS (hc.since hbel) (fun hg => cutMay o n b0 b2) (fun hg hcg hle hk hl => (by
      unfold cutK at hk
      split at hk
      · cases hk
      split at hk
      · cases hk
      rename_i h1 h2
      have h3 : 0 ≤ n ∧ n ≤ 256 := Decidable.not_not.1 h1
      obtain ⟨m, rfl⟩ : ∃ m : Nat, n = m := ⟨n.toNat, by omega⟩
      exact cutDoes (seeO o.v c.v) m (by omega) (by cases h : o.th with | true => exact h | false => exact absurd h h2) b2)))
  have HB := Lib.hid (And.intro hbel (And.intro b3 hres))
  have hW := hw0
  unfold OA.cs XA.cells at hW
  have HW := Lib.hid hW
  have hcs : o.cs = #[.bool o.th, .slice o.D o.dt.length o.cd, .int .i64 o.sq, .slice o.C o.cl.length o.cc] := rfl
  have hxs : c.cells = #[.int .i64 c.sq, .slice c.S c.sn.length c.cs] := rfl
  rw [hcs, hxs] at HCH
  rw [hcs] at b0
  rw [hxs] at b1
  rw [hcs, hxs]
  clear hcs hxs hw0 hW hbel hres hz0 ho hoS hc b2 b3
  go_enter Try.func39, Try.ntmps39
  go_upto_region 1 with (fail)
  rw [← HW.out]
  go_wp2_with (first
    | (have _h := b0; refine wpList_loadq rfl 36 (.tmp 3) rfl (w.heap.size) [.bool o.th, .slice o.D o.dt.length o.cd, .int .i64 o.sq, .slice o.C o.cl.length o.cc] _ rfl b0 Try.underlying36 rfl (by kernel_rfl) ?_; clear _h b0)
    | (have _h := b1; refine wpList_loadq rfl 28 (.tmp 4) rfl (w.heap.size + 1) [.int .i64 c.sq, .slice c.S c.sn.length c.cs] _ rfl b1 Try.underlying28 rfl (by kernel_rfl) ?_; clear _h b1))
  refine HCH.out.mono ?_
  rintro e w1 ⟨q, k, rfl, hr, hN, hS, hb⟩
  have K1 := HB.out.2.1.of (hb.block _ HB.out.2.2)
  have HR := Lib.hid (And.intro hr (And.intro hN (And.intro hS hb)))
  have hqs : q.cs = #[.bool q.th, .slice q.D q.dt.length q.cd, .int .i64 q.sq, .slice q.C q.cl.length q.cc] := rfl
  rw [hqs]
  obtain ⟨ek, hek⟩ : ∃ ek, ek = errV k := ⟨_, rfl⟩
  have HEK := Lib.hid hek
  rw [← hek]
  clear hqs hr hN hS hb HCH hek
  go_wp2_with (have _h := K1; refine wpList_storeq rfl 36 (.tmp 6) (.tmp 15) rfl (w.heap.size + 1 + 1 + 1) #[.bool false, .slice none 0 0, .int .i64 0, .slice none 0 0] [.bool q.th, .slice q.D q.dt.length q.cd, .int .i64 q.sq, .slice q.C q.cl.length q.cc] rfl rfl K1 rfl (by kernel_rfl) (OA.cs_one q) ?_; clear _h; intro w9 K9 ho9 hs9)
  refine bodyPost_ret (res_cell_tmp rfl _ _ (w.heap.size + 1 + 1 + 1) [.bool q.th, .slice q.D q.dt.length q.cd, .int .i64 q.sq, .slice q.C q.cl.length q.cc] _ _ rfl rfl K9 Try.underlying36 rfl (by kernel_rfl)) rfl ?_
  refine ⟨q, k, by rw [HEK.out]; rfl, HR.out.1, OA.P.weaken (OA.P.typed HR.out.2.1 fun k t cs hb ht => ho9.block k hb.lt (fun hm => ?_)) HB.out.1.size, HR.out.2.2.1, ?_⟩
  · simp at hm
    subst hm
    refine hb.ne_ K1 ?_ rfl
    rcases ht with rfl | rfl | rfl <;> decide
  · have h1 : Below w.heap.size w w1 := HB.out.1.trans (HR.out.2.2.2.mono HB.out.1.size)
    exact h1.trans (ho9.below (B := w.heap.size) (fun k hk => by simp at hk; omega) h1.size)
set_option maxHeartbeats 8000000 in
theorem snZero {w : World} (o : OA) (c : XA) (a n : Int) (i1 : -9223372036854775808 ≤ a) (i2 : a ≤ 9223372036854775807) (i3 : -9223372036854775808 ≤ n) (i4 : n ≤ 9223372036854775807) (ho : o.R w) (hoS : o.Sm) (hc : c.R w) : Calls Try.prog 38 #[.agg o.cs, .agg c.cells, .int .i64 a, .int .i64 n] w (ChTo w (ChR o.v c.v (zeroK o.v a n) (some (zeroD o.dt a.toNat n.toNat)))) := by
  obtain ⟨w0, hw0⟩ : ∃ w0, w0 = (((((w).alloc (.cells o.cs 36)).alloc (.cells c.cells 28)).alloc (.cells #[.int .i64 a] 3)).alloc (.cells #[.int .i64 n] 3)).alloc (.cells #[.bool false, .slice none 0 0, .int .i64 0, .slice none 0 0] 36) := ⟨_, rfl⟩
  have hbel : Below w.heap.size w w0 := by rw [hw0]; exact (((((Below.refl _ w).alloc (Nat.le_refl _) _).alloc (by simp) _).alloc (by simp; omega) _).alloc (by simp; omega) _).alloc (by simp; omega) _
  have b0 : Blk w0 (w.heap.size) 36 o.cs := by
    have := ((((Blk.new (w) 36 o.cs).alloc (.cells c.cells 28)).alloc (.cells #[.int .i64 a] 3)).alloc (.cells #[.int .i64 n] 3)).alloc (.cells #[.bool false, .slice none 0 0, .int .i64 0, .slice none 0 0] 36)
    rw [hw0]
    simpa using this
  have b1 : Blk w0 (w.heap.size + 1) 28 c.cells := by
    have := (((Blk.new ((w).alloc (.cells o.cs 36)) 28 c.cells).alloc (.cells #[.int .i64 a] 3)).alloc (.cells #[.int .i64 n] 3)).alloc (.cells #[.bool false, .slice none 0 0, .int .i64 0, .slice none 0 0] 36)
    rw [hw0]
    simpa using this
  have b2 : Blk w0 (w.heap.size + 1 + 1) 3 #[.int .i64 a] := by
    have := ((Blk.new (((w).alloc (.cells o.cs 36)).alloc (.cells c.cells 28)) 3 #[.int .i64 a]).alloc (.cells #[.int .i64 n] 3)).alloc (.cells #[.bool false, .slice none 0 0, .int .i64 0, .slice none 0 0] 36)
    rw [hw0]
    simpa using this
  have b3 : Blk w0 (w.heap.size + 1 + 1 + 1) 3 #[.int .i64 n] := by
    have := (Blk.new ((((w).alloc (.cells o.cs 36)).alloc (.cells c.cells 28)).alloc (.cells #[.int .i64 a] 3)) 3 #[.int .i64 n]).alloc (.cells #[.bool false, .slice none 0 0, .int .i64 0, .slice none 0 0] 36)
    rw [hw0]
    simpa using this
  have b4 : Blk w0 (w.heap.size + 1 + 1 + 1 + 1) 36 #[.bool false, .slice none 0 0, .int .i64 0, .slice none 0 0] := by
    have := Blk.new (((((w).alloc (.cells o.cs 36)).alloc (.cells c.cells 28)).alloc (.cells #[.int .i64 a] 3)).alloc (.cells #[.int .i64 n] 3)) 36 #[.bool false, .slice none 0 0, .int .i64 0, .slice none 0 0]
    rw [hw0]
    simpa using this
  have hz0 : w0.heap.size = w.heap.size + 5 := by rw [hw0]; simp
  have hres : w.heap.size + 1 + 1 + 1 + 1 < w0.heap.size := by omega
  have HCH := Lib.hid (change_any (w := w0) o c 76 78 #[.pointer (some ⟨w.heap.size, 0, none⟩), .pointer (some ⟨w.heap.size + 1 + 1, 0, none⟩), .pointer (some ⟨w.heap.size + 1 + 1 + 1, 0, none⟩)] #[.pointer (some ⟨w.heap.size + 1 + 1, 0, none⟩), .pointer (some ⟨w.heap.size + 1 + 1 + 1, 0, none⟩)] (enters_of Try.func76 (by kernel_rfl) rfl) (enters_of Try.func78 (by kernel_rfl) rfl) (zeroK o.v a n) (some (zeroD o.dt a.toNat n.toNat)) (ho.since hbel) hoS (hc.since hbel) (fun hg => zeroMay o a n b0 b2 b3) (fun hg hcg hle hk hl => (by
      unfold zeroK at hk
      split at hk
      · cases hk
      split at hk
      · cases hk
      rename_i h1 h2
      have h3 : 0 ≤ a ∧ 0 ≤ n := Decidable.not_not.1 h1
      obtain ⟨m, rfl⟩ : ∃ m : Nat, n = m := ⟨n.toNat, by omega⟩
      obtain ⟨p, rfl⟩ : ∃ p : Nat, a = p := ⟨a.toNat, by omega⟩
      exact zeroDoes (seeO o.v c.v) p m (by cases h : o.th with | true => exact h | false => exact absurd h h2) b2 b3)))
  have HB := Lib.hid (And.intro hbel (And.intro b4 hres))
  have hW := hw0
  unfold OA.cs XA.cells at hW
  have HW := Lib.hid hW
  have hcs : o.cs = #[.bool o.th, .slice o.D o.dt.length o.cd, .int .i64 o.sq, .slice o.C o.cl.length o.cc] := rfl
  have hxs : c.cells = #[.int .i64 c.sq, .slice c.S c.sn.length c.cs] := rfl
  rw [hcs, hxs] at HCH
  rw [hcs] at b0
  rw [hxs] at b1
  rw [hcs, hxs]
  clear hcs hxs hw0 hW hbel hres hz0 ho hoS hc b2 b3 b4
  go_enter Try.func38, Try.ntmps38
  go_upto_region 1 with (fail)
  rw [← HW.out]
  go_wp2_with (first
    | (have _h := b0; refine wpList_loadq rfl 36 (.tmp 4) rfl (w.heap.size) [.bool o.th, .slice o.D o.dt.length o.cd, .int .i64 o.sq, .slice o.C o.cl.length o.cc] _ rfl b0 Try.underlying36 rfl (by kernel_rfl) ?_; clear _h b0)
    | (have _h := b1; refine wpList_loadq rfl 28 (.tmp 5) rfl (w.heap.size + 1) [.int .i64 c.sq, .slice c.S c.sn.length c.cs] _ rfl b1 Try.underlying28 rfl (by kernel_rfl) ?_; clear _h b1))
  refine HCH.out.mono ?_
  rintro e w1 ⟨q, k, rfl, hr, hN, hS, hb⟩
  have K1 := HB.out.2.1.of (hb.block _ HB.out.2.2)
  have HR := Lib.hid (And.intro hr (And.intro hN (And.intro hS hb)))
  have hqs : q.cs = #[.bool q.th, .slice q.D q.dt.length q.cd, .int .i64 q.sq, .slice q.C q.cl.length q.cc] := rfl
  rw [hqs]
  obtain ⟨ek, hek⟩ : ∃ ek, ek = errV k := ⟨_, rfl⟩
  have HEK := Lib.hid hek
  rw [← hek]
  clear hqs hr hN hS hb HCH hek
  go_wp2_with (have _h := K1; refine wpList_storeq rfl 36 (.tmp 8) (.tmp 17) rfl (w.heap.size + 1 + 1 + 1 + 1) #[.bool false, .slice none 0 0, .int .i64 0, .slice none 0 0] [.bool q.th, .slice q.D q.dt.length q.cd, .int .i64 q.sq, .slice q.C q.cl.length q.cc] rfl rfl K1 rfl (by kernel_rfl) (OA.cs_one q) ?_; clear _h; intro w9 K9 ho9 hs9)
  refine bodyPost_ret (res_cell_tmp rfl _ _ (w.heap.size + 1 + 1 + 1 + 1) [.bool q.th, .slice q.D q.dt.length q.cd, .int .i64 q.sq, .slice q.C q.cl.length q.cc] _ _ rfl rfl K9 Try.underlying36 rfl (by kernel_rfl)) rfl ?_
  refine ⟨q, k, by rw [HEK.out]; rfl, HR.out.1, OA.P.weaken (OA.P.typed HR.out.2.1 fun k t cs hb ht => ho9.block k hb.lt (fun hm => ?_)) HB.out.1.size, HR.out.2.2.1, ?_⟩
  · simp at hm
    subst hm
    refine hb.ne_ K1 ?_ rfl
    rcases ht with rfl | rfl | rfl <;> decide
  · have h1 : Below w.heap.size w w1 := HB.out.1.trans (HR.out.2.2.2.mono HB.out.1.size)
    exact h1.trans (ho9.below (B := w.heap.size) (fun k hk => by simp at hk; omega) h1.size)
set_option maxHeartbeats 8000000 in
theorem snWrite {w : World} (o : OA) (c : XA) (a : Int) (A : Option Addr) (n c2 : Nat) (nb : List Nat) (i1 : -9223372036854775808 ≤ a) (i2 : a ≤ 9223372036854775807) (ho : o.R w) (hoS : o.Sm) (hc : c.R w) (hd : Bytes w w.heap.size A n nb) (hn : n ≤ 100000) : Calls Try.prog 37 #[.agg o.cs, .agg c.cells, .int .i64 a, .slice A n c2] w (ChTo w (ChR o.v c.v (writeK a n) (some (writeD o.dt a.toNat nb)))) := by
  obtain ⟨w0, hw0⟩ : ∃ w0, w0 = (((((w).alloc (.cells o.cs 36)).alloc (.cells c.cells 28)).alloc (.cells #[.int .i64 a] 3)).alloc (.cells #[.slice A n c2] 22)).alloc (.cells #[.bool false, .slice none 0 0, .int .i64 0, .slice none 0 0] 36) := ⟨_, rfl⟩
  have hbel : Below w.heap.size w w0 := by rw [hw0]; exact (((((Below.refl _ w).alloc (Nat.le_refl _) _).alloc (by simp) _).alloc (by simp; omega) _).alloc (by simp; omega) _).alloc (by simp; omega) _
  have b0 : Blk w0 (w.heap.size) 36 o.cs := by
    have := ((((Blk.new (w) 36 o.cs).alloc (.cells c.cells 28)).alloc (.cells #[.int .i64 a] 3)).alloc (.cells #[.slice A n c2] 22)).alloc (.cells #[.bool false, .slice none 0 0, .int .i64 0, .slice none 0 0] 36)
    rw [hw0]
    simpa using this
  have b1 : Blk w0 (w.heap.size + 1) 28 c.cells := by
    have := (((Blk.new ((w).alloc (.cells o.cs 36)) 28 c.cells).alloc (.cells #[.int .i64 a] 3)).alloc (.cells #[.slice A n c2] 22)).alloc (.cells #[.bool false, .slice none 0 0, .int .i64 0, .slice none 0 0] 36)
    rw [hw0]
    simpa using this
  have b2 : Blk w0 (w.heap.size + 1 + 1) 3 #[.int .i64 a] := by
    have := ((Blk.new (((w).alloc (.cells o.cs 36)).alloc (.cells c.cells 28)) 3 #[.int .i64 a]).alloc (.cells #[.slice A n c2] 22)).alloc (.cells #[.bool false, .slice none 0 0, .int .i64 0, .slice none 0 0] 36)
    rw [hw0]
    simpa using this
  have b3 : Blk w0 (w.heap.size + 1 + 1 + 1) 22 #[.slice A n c2] := by
    have := (Blk.new ((((w).alloc (.cells o.cs 36)).alloc (.cells c.cells 28)).alloc (.cells #[.int .i64 a] 3)) 22 #[.slice A n c2]).alloc (.cells #[.bool false, .slice none 0 0, .int .i64 0, .slice none 0 0] 36)
    rw [hw0]
    simpa using this
  have b4 : Blk w0 (w.heap.size + 1 + 1 + 1 + 1) 36 #[.bool false, .slice none 0 0, .int .i64 0, .slice none 0 0] := by
    have := Blk.new (((((w).alloc (.cells o.cs 36)).alloc (.cells c.cells 28)).alloc (.cells #[.int .i64 a] 3)).alloc (.cells #[.slice A n c2] 22)) 36 #[.bool false, .slice none 0 0, .int .i64 0, .slice none 0 0]
    rw [hw0]
    simpa using this
  have hz0 : w0.heap.size = w.heap.size + 5 := by rw [hw0]; simp
  have hres : w.heap.size + 1 + 1 + 1 + 1 < w0.heap.size := by omega
  have HCH := Lib.hid (change_any (w := w0) o c 73 74 #[.pointer (some ⟨w.heap.size + 1 + 1, 0, none⟩), .pointer (some ⟨w.heap.size + 1 + 1 + 1, 0, none⟩)] #[.pointer (some ⟨w.heap.size + 1 + 1, 0, none⟩), .pointer (some ⟨w.heap.size + 1 + 1 + 1, 0, none⟩)] (enters_of Try.func73 (by kernel_rfl) rfl) (enters_of Try.func74 (by kernel_rfl) rfl) (writeK a n) (some (writeD o.dt a.toNat nb)) (ho.since hbel) hoS (hc.since hbel) (fun hg => writeMay a b2 b3 hn) (fun hg hcg hle hk hl => (by
      unfold writeK at hk
      split at hk
      · cases hk
      rename_i h1
      obtain ⟨p, rfl⟩ : ∃ p : Nat, a = p := ⟨a.toNat, by omega⟩
      exact writeDoes (seeO o.v c.v) p nb (by omega) b2 b3 ((hd.since hbel).more hbel.size))))
  have HB := Lib.hid (And.intro hbel (And.intro b4 hres))
  have hW := hw0
  unfold OA.cs XA.cells at hW
  have HW := Lib.hid hW
  have hcs : o.cs = #[.bool o.th, .slice o.D o.dt.length o.cd, .int .i64 o.sq, .slice o.C o.cl.length o.cc] := rfl
  have hxs : c.cells = #[.int .i64 c.sq, .slice c.S c.sn.length c.cs] := rfl
  rw [hcs, hxs] at HCH
  rw [hcs] at b0
  rw [hxs] at b1
  rw [hcs, hxs]
  clear hcs hxs hw0 hW hbel hres hz0 ho hoS hc b2 b3 b4
  go_enter Try.func37, Try.ntmps37
  go_upto_region 1 with (fail)
  rw [← HW.out]
  go_wp2_with (first
    | (have _h := b0; refine wpList_loadq rfl 36 (.tmp 4) rfl (w.heap.size) [.bool o.th, .slice o.D o.dt.length o.cd, .int .i64 o.sq, .slice o.C o.cl.length o.cc] _ rfl b0 Try.underlying36 rfl (by kernel_rfl) ?_; clear _h b0)
    | (have _h := b1; refine wpList_loadq rfl 28 (.tmp 5) rfl (w.heap.size + 1) [.int .i64 c.sq, .slice c.S c.sn.length c.cs] _ rfl b1 Try.underlying28 rfl (by kernel_rfl) ?_; clear _h b1))
  refine HCH.out.mono ?_
  rintro e w1 ⟨q, k, rfl, hr, hN, hS, hb⟩
  have K1 := HB.out.2.1.of (hb.block _ HB.out.2.2)
  have HR := Lib.hid (And.intro hr (And.intro hN (And.intro hS hb)))
  have hqs : q.cs = #[.bool q.th, .slice q.D q.dt.length q.cd, .int .i64 q.sq, .slice q.C q.cl.length q.cc] := rfl
  rw [hqs]
  obtain ⟨ek, hek⟩ : ∃ ek, ek = errV k := ⟨_, rfl⟩
  have HEK := Lib.hid hek
  rw [← hek]
  clear hqs hr hN hS hb HCH hek
  go_wp2_with (have _h := K1; refine wpList_storeq rfl 36 (.tmp 8) (.tmp 17) rfl (w.heap.size + 1 + 1 + 1 + 1) #[.bool false, .slice none 0 0, .int .i64 0, .slice none 0 0] [.bool q.th, .slice q.D q.dt.length q.cd, .int .i64 q.sq, .slice q.C q.cl.length q.cc] rfl rfl K1 rfl (by kernel_rfl) (OA.cs_one q) ?_; clear _h; intro w9 K9 ho9 hs9)
  refine bodyPost_ret (res_cell_tmp rfl _ _ (w.heap.size + 1 + 1 + 1 + 1) [.bool q.th, .slice q.D q.dt.length q.cd, .int .i64 q.sq, .slice q.C q.cl.length q.cc] _ _ rfl rfl K9 Try.underlying36 rfl (by kernel_rfl)) rfl ?_
  refine ⟨q, k, by rw [HEK.out]; rfl, HR.out.1, OA.P.weaken (OA.P.typed HR.out.2.1 fun k t cs hb ht => ho9.block k hb.lt (fun hm => ?_)) HB.out.1.size, HR.out.2.2.1, ?_⟩
  · simp at hm
    subst hm
    refine hb.ne_ K1 ?_ rfl
    rcases ht with rfl | rfl | rfl <;> decide
  · have h1 : Below w.heap.size w w1 := HB.out.1.trans (HR.out.2.2.2.mono HB.out.1.size)
    exact h1.trans (ho9.below (B := w.heap.size) (fun k hk => by simp at hk; omega) h1.size)
set_option maxHeartbeats 8000000 in
theorem snBack {w : World} (o : OA) (c : XA) (s : Int) (i1 : -9223372036854775808 ≤ s) (i2 : s ≤ 9223372036854775807) (ho : o.R w) (hoS : o.Sm) (hc : c.R w) : Calls Try.prog 34 #[.agg o.cs, .agg c.cells, .int .i64 s] w (ChTo w (ChR o.v c.v (backK c.v s) (atO (seeO o.v c.v) s))) := by
  obtain ⟨w0, hw0⟩ : ∃ w0, w0 = ((((w).alloc (.cells o.cs 36)).alloc (.cells c.cells 28)).alloc (.cells #[.int .i64 s] 3)).alloc (.cells #[.bool false, .slice none 0 0, .int .i64 0, .slice none 0 0] 36) := ⟨_, rfl⟩
  have hbel : Below w.heap.size w w0 := by rw [hw0]; exact ((((Below.refl _ w).alloc (Nat.le_refl _) _).alloc (by simp) _).alloc (by simp; omega) _).alloc (by simp; omega) _
  have b0 : Blk w0 (w.heap.size) 36 o.cs := by
    have := (((Blk.new (w) 36 o.cs).alloc (.cells c.cells 28)).alloc (.cells #[.int .i64 s] 3)).alloc (.cells #[.bool false, .slice none 0 0, .int .i64 0, .slice none 0 0] 36)
    rw [hw0]
    simpa using this
  have b1 : Blk w0 (w.heap.size + 1) 28 c.cells := by
    have := ((Blk.new ((w).alloc (.cells o.cs 36)) 28 c.cells).alloc (.cells #[.int .i64 s] 3)).alloc (.cells #[.bool false, .slice none 0 0, .int .i64 0, .slice none 0 0] 36)
    rw [hw0]
    simpa using this
  have b2 : Blk w0 (w.heap.size + 1 + 1) 3 #[.int .i64 s] := by
    have := (Blk.new (((w).alloc (.cells o.cs 36)).alloc (.cells c.cells 28)) 3 #[.int .i64 s]).alloc (.cells #[.bool false, .slice none 0 0, .int .i64 0, .slice none 0 0] 36)
    rw [hw0]
    simpa using this
  have b3 : Blk w0 (w.heap.size + 1 + 1 + 1) 36 #[.bool false, .slice none 0 0, .int .i64 0, .slice none 0 0] := by
    have := Blk.new ((((w).alloc (.cells o.cs 36)).alloc (.cells c.cells 28)).alloc (.cells #[.int .i64 s] 3)) 36 #[.bool false, .slice none 0 0, .int .i64 0, .slice none 0 0]
    rw [hw0]
    simpa using this
  have hz0 : w0.heap.size = w.heap.size + 4 := by rw [hw0]; simp
  have hres : w.heap.size + 1 + 1 + 1 < w0.heap.size := by omega
  have HCH := Lib.hid (change_any (w := w0) o c 63 65 #[.pointer (some ⟨w.heap.size + 1, 0, none⟩), .pointer (some ⟨w.heap.size + 1 + 1, 0, none⟩)] #[.pointer (some ⟨w.heap.size + 1 + 1, 0, none⟩)] (enters_of Try.func63 (by kernel_rfl) rfl) (enters_of Try.func65 (by kernel_rfl) rfl) (backK c.v s) (atO (seeO o.v c.v) s) (ho.since hbel) hoS (hc.since hbel) (fun hg => backMay c s (hc.since hbel) b1 b2) (fun hg hcg hle hk hl => (by
      unfold backK at hk
      split at hk
      · rename_i h1
        have h2 := hcg.lim s (List.contains_iff_mem.1 h1)
        exact backDoes (seeO o.v c.v) s (by omega) (see_self hg hcg hle hl) b2
      · cases hk)))
  have HB := Lib.hid (And.intro hbel (And.intro b3 hres))
  have hW := hw0
  unfold OA.cs XA.cells at hW
  have HW := Lib.hid hW
  have hcs : o.cs = #[.bool o.th, .slice o.D o.dt.length o.cd, .int .i64 o.sq, .slice o.C o.cl.length o.cc] := rfl
  have hxs : c.cells = #[.int .i64 c.sq, .slice c.S c.sn.length c.cs] := rfl
  rw [hcs, hxs] at HCH
  rw [hcs] at b0
  rw [hxs] at b1
  rw [hcs, hxs]
  clear hcs hxs hw0 hW hbel hres hz0 ho hoS hc b2 b3
  go_enter Try.func34, Try.ntmps34
  go_upto_region 1 with (fail)
  rw [← HW.out]
  go_wp2_with (first
    | (have _h := b0; refine wpList_loadq rfl 36 (.tmp 3) rfl (w.heap.size) [.bool o.th, .slice o.D o.dt.length o.cd, .int .i64 o.sq, .slice o.C o.cl.length o.cc] _ rfl b0 Try.underlying36 rfl (by kernel_rfl) ?_; clear _h b0)
    | (have _h := b1; refine wpList_loadq rfl 28 (.tmp 4) rfl (w.heap.size + 1) [.int .i64 c.sq, .slice c.S c.sn.length c.cs] _ rfl b1 Try.underlying28 rfl (by kernel_rfl) ?_; clear _h b1))
  refine HCH.out.mono ?_
  rintro e w1 ⟨q, k, rfl, hr, hN, hS, hb⟩
  have K1 := HB.out.2.1.of (hb.block _ HB.out.2.2)
  have HR := Lib.hid (And.intro hr (And.intro hN (And.intro hS hb)))
  have hqs : q.cs = #[.bool q.th, .slice q.D q.dt.length q.cd, .int .i64 q.sq, .slice q.C q.cl.length q.cc] := rfl
  rw [hqs]
  obtain ⟨ek, hek⟩ : ∃ ek, ek = errV k := ⟨_, rfl⟩
  have HEK := Lib.hid hek
  rw [← hek]
  clear hqs hr hN hS hb HCH hek
  go_wp2_with (have _h := K1; refine wpList_storeq rfl 36 (.tmp 6) (.tmp 15) rfl (w.heap.size + 1 + 1 + 1) #[.bool false, .slice none 0 0, .int .i64 0, .slice none 0 0] [.bool q.th, .slice q.D q.dt.length q.cd, .int .i64 q.sq, .slice q.C q.cl.length q.cc] rfl rfl K1 rfl (by kernel_rfl) (OA.cs_one q) ?_; clear _h; intro w9 K9 ho9 hs9)
  refine bodyPost_ret (res_cell_tmp rfl _ _ (w.heap.size + 1 + 1 + 1) [.bool q.th, .slice q.D q.dt.length q.cd, .int .i64 q.sq, .slice q.C q.cl.length q.cc] _ _ rfl rfl K9 Try.underlying36 rfl (by kernel_rfl)) rfl ?_
  refine ⟨q, k, by rw [HEK.out]; rfl, HR.out.1, OA.P.weaken (OA.P.typed HR.out.2.1 fun k t cs hb ht => ho9.block k hb.lt (fun hm => ?_)) HB.out.1.size, HR.out.2.2.1, ?_⟩
  · simp at hm
    subst hm
    refine hb.ne_ K1 ?_ rfl
    rcases ht with rfl | rfl | rfl <;> decide
  · have h1 : Below w.heap.size w w1 := HB.out.1.trans (HR.out.2.2.2.mono HB.out.1.size)
    exact h1.trans (ho9.below (B := w.heap.size) (fun k hk => by simp at hk; omega) h1.size)
end Go.Proofs.Ytjepfeagbiceoaa
