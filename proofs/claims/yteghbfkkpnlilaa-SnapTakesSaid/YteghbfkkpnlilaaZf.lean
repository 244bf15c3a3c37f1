/-
  The document's Take of objects on any bytes. Condition: no more than seven thousand bytes.
-/
import Derived.Test.YteghbfkkpnlilaaZe
import Derived.BigQuiet

namespace Go.Proofs.Yteghbfkkpnlilaa
open Go.RowKit Go.BigFrame
set_option linter.unusedSimpArgs false
set_option linter.unusedVariables false
set_option maxRecDepth 100000
def DTake9To (w : World) (b : List Nat) (e : Ending) (w' : World) : Prop :=
  Below w.heap.size w w' ∧ ((DOk9 b ∧ ∃ d : OA, e = .returned (.tuple #[.agg d.cs, .bool true]) ∧ d.v = (⟨b, false⟩ : RD).dov ∧ ∀ W, (∀ k, w.heap.size ≤ k → k < w'.heap.size → W.heap[k]? = w'.heap[k]?) → d.R W) ∨ (¬ DOk9 b ∧ e = .returned (.tuple #[.agg #[.bool false, .slice none 0 0, .int .i64 0, .slice none 0 0], .bool false])))
theorem robj_zero9 (w : World) : (zeroValue 25).run Try.prog w = .ok (.agg #[.bool false, .slice none 0 0, .int .i64 0, .slice none 0 0]) w := by kernel_rfl
theorem rclone_zero9 (w : World) : (zeroValue 78).run Try.prog w = .ok (.agg #[.slice none 0 0, .slice none 0 0]) w := by kernel_rfl
theorem dreader_zero9 (w : World) : (zeroValue 101).run Try.prog w = .ok (.agg #[.slice none 0 0, .bool false]) w := by kernel_rfl
set_option maxHeartbeats 16000000 in
theorem dtake9_any (A0 : Option Addr) (c : Nat) (b : List Nat) (w : World) (hb : Bytes w w.heap.size A0 b.length b) (hn : b.length ≤ 7000) : Calls Try.prog 33 #[.slice A0 b.length c] w (DTake9To w b) := by
  obtain ⟨w1, hw1⟩ : ∃ W, W = w.alloc (.cells #[.bool false, .slice none 0 0, .int .i64 0, .slice none 0 0] 25) := ⟨_, rfl⟩
  have b1 : Below w.heap.size w w1 := by rw [hw1]; exact below_alloc w _
  have hz1 : w1.heap.size = w.heap.size + 1 := by rw [hw1]; simp
  have k1 : Blk w1 w.heap.size 25 #[.bool false, .slice none 0 0, .int .i64 0, .slice none 0 0] := by rw [hw1]; exact Blk.new w _ _
  have HB := Lib.hid hb
  have HNB := Lib.hid hn
  have HK1 := Lib.hid (And.intro b1 (And.intro hz1 k1))
  have HW1 := Lib.hid hw1
  have b2 : Below w1.heap.size w1 (w1.alloc (.cells #[] 5)) := below_alloc w1 _
  have ho2 : Own (w1.alloc (.cells #[] 5)) w1.heap.size (.slice (some ⟨w1.heap.size, 0, none⟩) 0 0) 0 [] := Own.new w1 w1.heap.size (Nat.le_refl _)
  have HB2 : Hid (Bytes (w1.alloc (.cells #[] 5)) (w1.alloc (.cells #[] 5)).heap.size A0 b.length b) := Lib.hid ((((hb.since b1).more b1.size).since b2).more b2.size)
  have HO2 := Lib.hid (And.intro ho2 (And.intro b2 hz1))
  have HSB : Hid (∀ x ∈ b, x < 256) := Lib.hid hb.2
  clear hb b1 hz1 k1 hw1 b2 ho2
  have hz0 := robj_zero9
  have hzr := dreader_zero9
  have hzc := rclone_zero9
  go_enter Try.func33, Try.ntmps33
  go_upto_region 1 with (fail)
  rw [← HW1.out]
  clear HW1
  go_wp2_with (have _h := HB2; refine app_bytes (.tmp 9) (.tmp 10) rfl rfl w1.heap.size (.slice (some ⟨w1.heap.size, 0, none⟩) 0 0) 0 [] rfl HO2.out.1 _ A0 b.length c b rfl HB2.out (by omega) (by simp) ?_; clear _h HB2; intro v3 w3 h3 g3 e3; obtain ⟨A3, c3, rfl, -⟩ := h3.form)
  simp only [Nat.zero_add, List.nil_append] at h3
  obtain ⟨w4, hw4⟩ : ∃ W, W = w3.alloc (.cells #[.slice A3 b.length c3, .bool false] 101) := ⟨_, rfl⟩
  obtain ⟨gr, hgr⟩ : ∃ g, g = w3.heap.size := ⟨_, rfl⟩
  obtain ⟨s0, hs0⟩ : ∃ s : RD, s = ⟨b, false⟩ := ⟨_, rfl⟩
  have hsh := own_shape h3
  have b4 : Below w3.heap.size w3 w4 := by rw [hw4]; exact below_alloc w3 _
  have hm4 : Mr w4 gr gr s0 := by
    rw [hs0, hgr]
    refine ⟨A3, c3, ?_, ((h3.bytes HSB.out).since b4), hsh.2.1, hsh.2.2.1, Nat.le_refl _, ⟨fun h => (by cases h), HSB.out⟩⟩
    rw [hw4]
    exact Blk.new w3 _ _
  have o3 : Only [w1.heap.size] w1 w3 := ((Only.refl [w1.heap.size] w1).alloc (.cells #[] 5)).grown g3 (fun g e => .inl (by injection e with e; subst e; simp))
  have b3 : Below w.heap.size w w3 := HK1.out.1.trans (o3.below (fun x hx => by simp at hx; have := HK1.out.2.1; omega) HK1.out.1.size)
  have b04 : Below w.heap.size w w4 := b3.trans (b4.mono b3.size)
  have hz4 : w.heap.size < gr ∧ gr < w4.heap.size := ⟨by rw [hgr]; have := o3.size; have := HK1.out.2.1; omega, by rw [hgr, hw4, World.size_alloc]; omega⟩
  have kr4 : Blk w4 w.heap.size 25 #[.bool false, .slice none 0 0, .int .i64 0, .slice none 0 0] := (HK1.out.2.2.only o3 (by have := HK1.out.2.1; simp; omega)).of (b4.block _ (by have := hz4.1; omega))
  obtain ⟨u1, hu1⟩ : ∃ s, s = s0.o1 := ⟨_, rfl⟩
  obtain ⟨u2, hu2⟩ : ∃ s, s = s0.o2 := ⟨_, rfl⟩
  obtain ⟨u3, hu3⟩ : ∃ s, s = s0.o3 := ⟨_, rfl⟩
  obtain ⟨u4, hu4⟩ : ∃ s, s = s0.o4 := ⟨_, rfl⟩
  obtain ⟨th, hth⟩ : ∃ x, x = s0.flag := ⟨_, rfl⟩
  obtain ⟨dt, hdt⟩ : ∃ x, x = u1.bytes := ⟨_, rfl⟩
  obtain ⟨sq, hsq⟩ : ∃ x, x = u2.num := ⟨_, rfl⟩
  obtain ⟨n, hnn⟩ : ∃ x, x = u3.num := ⟨_, rfl⟩
  obtain ⟨N, hN⟩ : ∃ M, M = n.toNat := ⟨_, rfl⟩
  have l0 : s0.bs.length ≤ 7000 := by rw [hs0]; exact hn
  have l1 : u1.bs.length ≤ 7000 := by rw [hu1]; exact Nat.le_trans (flagTo_ln9 _) l0
  have l2 : u2.bs.length ≤ 7000 := by rw [hu2]; exact Nat.le_trans (Nat.le_trans (bytesTo_ln9 _) (flagTo_ln9 _)) l0
  have l3 : u3.bs.length ≤ 7000 := by rw [hu3]; exact Nat.le_trans (Nat.le_trans (take_ln9 _ _) (Nat.le_trans (bytesTo_ln9 _) (flagTo_ln9 _))) l0
  have l4 : u4.bs.length ≤ 7000 := by rw [hu4]; exact Nat.le_trans (o4_ln9 _) l0
  have hsqr : -9223372036854775808 ≤ sq ∧ sq ≤ 9223372036854775807 := by rw [hsq]; exact num_range _
  have hnr : -9223372036854775808 ≤ n ∧ n ≤ 9223372036854775807 := by rw [hnn]; exact num_range _
  have HL := Lib.hid (And.intro l1 (And.intro l2 (And.intro l3 l4)))
  have HSQ := Lib.hid hsqr
  have HV : Hid ((⟨b, false⟩ : RD).dov = ⟨th, dt, sq, RD.dcL N u4⟩ ∧ (⟨b, false⟩ : RD).dovT = RD.dcT N u4) := Lib.hid (by rw [hth, hdt, hsq, hN, hnn, hu1, hu2, hu3, hu4, hs0]; exact ⟨rfl, rfl⟩)
  have HU1 : Hid (s0.flagTo = u1 ∧ s0.flag = th) := Lib.hid ⟨hu1.symm, hth.symm⟩
  have HU2 : Hid (u1.bytesTo = u2 ∧ u1.bytes = dt) := Lib.hid ⟨by rw [hu2, hu1]; rfl, hdt.symm⟩
  have HU3 : Hid (u2.take 8 = u3 ∧ u2.num = sq) := Lib.hid ⟨by rw [hu3, hu2]; rfl, hsq.symm⟩
  have HU4 : Hid (u3.take 8 = u4 ∧ u3.num = n) := Lib.hid ⟨by rw [hu4, hu3]; rfl, hnn.symm⟩
  have HNN := Lib.hid hN
  have HM4 := Lib.hid (mflag_any w4 gr gr s0 hm4 (by omega))
  have HE4 := Lib.hid (And.intro b04 (And.intro hz4 kr4))
  have HW4 := Lib.hid (And.intro hw4 hgr)
  clear h3 g3 e3 hw4 hgr hs0 hsh b4 hm4 o3 b3 b04 hz4 kr4 hu1 hu2 hu3 hu4 hth hdt hsq hnn hN l0 l1 l2 l3 l4 hsqr HO2 hn
  rw [← HW4.out.1, ← HW4.out.2]
  clear HW4
  refine HM4.out.mono ?_
  rintro e w5 ⟨rfl, hm5, o5⟩
  rw [HU1.out.1] at hm5
  rw [HU1.out.2]
  obtain ⟨w6, hw6⟩ : ∃ W, W = w5.alloc (.cells #[.bool th, .slice none 0 0, .int .i64 0, .slice none 0 0] 25) := ⟨_, rfl⟩
  obtain ⟨g, hg⟩ : ∃ g, g = w5.heap.size := ⟨_, rfl⟩
  have b6 : Below w5.heap.size w5 w6 := by rw [hw6]; exact below_alloc w5 _
  have D0 : Hid (D9 w gr g ⟨th, [], none, 0, 0, none, 0, []⟩ u1 w6) := Lib.hid (by
    have bw5 : Below w.heap.size w w5 := HE4.out.1.trans (o5.below (fun x hx => by simp at hx; have := HE4.out.2.1.1; omega) HE4.out.1.size)
    have hz5 : gr < w5.heap.size := by have := o5.size; have := HE4.out.2.1.2; omega
    refine ⟨hm5.below b6, HL.out.1, by rw [hw6, hg]; exact Blk.new w5 _ _, (HE4.out.2.2.only o5 (by have := HE4.out.2.1.1; simp; omega)).of (b6.block _ (by have := HE4.out.2.1.1; omega)), Own.nil _ _, fun x hx => (by cases hx), OwnC.nil _ _ _, fun x hx => (by cases hx), ⟨by show _ ≤ (0 : Int); omega, by show (0 : Int) ≤ _; omega⟩, bw5.trans (b6.mono bw5.size), HE4.out.2.1.1, by rw [hg]; exact hz5⟩)
  have HW6 := Lib.hid (And.intro hw6 hg)
  clear hm5 o5 hw6 hg b6 HM4 HE4
  go_upto_region 3 with (fail)
  rw [← HW6.out.1, ← HW6.out.2]
  clear HW6
  go_wp2_with fail
  refine (mbytes_any w6 gr gr u1 D0.out.rd (by have := HL.out.1; omega)).mono ?_
  rintro e w7 ⟨v7, rfl, hv7, hm7, o7⟩
  rw [HU2.out.1] at hm7
  have hlt7 : ∀ x ∈ u1.bytes, x < 256 := got_lt9 (take_lt9 D0.out.rd.good.2 8) _
  rw [HU2.out.2] at hv7 hlt7
  obtain ⟨A7, c7, rfl, -⟩ := hv7.form
  have D1 := Lib.hid (D0.out.call o7 hm7 HL.out.2.1)
  have hv7' : Own w7 gr (.slice A7 dt.length c7) dt.length dt := row_weaken hv7 (by have := D0.out.hd.lt; have := D0.out.c2; omega)
  have HV7 := Lib.hid (And.intro hv7' hlt7)
  have K7 := D1.out.hd
  clear hv7 hm7 o7 hlt7 hv7' D0
  go_wp2_with (have _h := K7; refine wpList_setq rfl 22 (.tmp 19) (.tmp 18) rfl g 1 25 _ (.slice A7 dt.length c7) rfl rfl K7 (by simp) (by kernel_rfl) rfl ?_; clear _h K7; intro w8 K8 o8 q8)
  have D2 : Hid (D9 w gr g ⟨th, dt, A7, c7, 0, none, 0, []⟩ u2 w8) := Lib.hid (D1.out.put o8 (by simpa using K8) HV7.out.1 HV7.out.2 (OwnC.nil _ _ _) (fun x hx => (by cases hx)) (by simp only; omega))
  clear K8 o8 q8 D1 HV7
  go_wp2_with fail
  refine (mnum_any w8 gr gr u2 D2.out.rd (by have := HL.out.2.1; omega)).mono ?_
  rintro e w9 ⟨rfl, hm9, o9⟩
  rw [HU3.out.1] at hm9
  rw [HU3.out.2]
  have D3 := Lib.hid (D2.out.call o9 hm9 HL.out.2.2.1)
  have K9 := D3.out.hd
  clear hm9 o9 D2
  go_wp2_with (have _h := K9; refine wpList_setq rfl 3 (.tmp 22) (.tmp 21) rfl g 2 25 _ (.int .i64 sq) rfl rfl K9 (by simp) (by kernel_rfl) rfl ?_; clear _h K9; intro wa Ka oa qa)
  have D4 : Hid (D9 w gr g ⟨th, dt, A7, c7, sq, none, 0, []⟩ u3 wa) := Lib.hid (D3.out.put oa (by simpa using Ka) D3.out.dt D3.out.ok (OwnC.nil _ _ _) (fun x hx => (by cases hx)) HSQ.out)
  clear Ka oa qa D3
  go_wp2_with fail
  refine (mnum_any wa gr gr u3 D4.out.rd (by have := HL.out.2.2.1; omega)).mono ?_
  rintro e wb ⟨rfl, hmb, obb⟩
  rw [HU4.out.1] at hmb
  rw [HU4.out.2]
  have D5 := Lib.hid (D4.out.call obb hmb HL.out.2.2.2)
  clear hmb obb D4
  go_wp2_with fail
  go_loopw [7] (fun i wr => ∃ (k : Nat) (q : OA) (s : RD), k ≤ N ∧ i = .int .i64 k ∧ D9 w gr g q s wr ∧ q.th = th ∧ q.dt = dt ∧ q.sq = sq ∧ q.cl.length = k ∧ RD.dcL N u4 = q.cl.map CA.v ++ RD.dcL (N - k) s ∧ RD.dcT N u4 = RD.dcT (N - k) s) (fun i _ => N - (intOf i).toNat)
  case atStart => exact ⟨0, _, u4, Nat.zero_le _, rfl, D5.out, rfl, rfl, rfl, rfl, rfl, rfl⟩
  case round =>
    obtain ⟨k, q, s, hk, rfl, hD, hq1, hq2, hq3, hql, hq4, hq5⟩ := hrel
    have hk9 : k ≤ 900 := by
      have h1 := dcL_len N u4
      have h2 := HL.out.2.2.2
      have h3 := congrArg List.length hq4
      rw [List.length_append, List.length_map, hql] at h3
      omega
    have HD := Lib.hid hD
    have HT := Lib.hid (And.intro hq1 (And.intro hq2 (And.intro hq3 (And.intro hql (And.intro hq4 hq5)))))
    have hwk : IntKind.i64.wrap ((k : Int) + 1) = (k : Int) + 1 := by rw [IntKind.wrap_i64]; omega
    have hrb : wr.cell? ⟨gr, 1, none⟩ = some (.bool s.bad) := by
      obtain ⟨A, cc, kr, -⟩ := hD.rd
      exact kr.cell 1
    clear hD hq1 hq2 hq3 hql hq4 hq5 D5
    by_cases hgo : k < N ∧ s.bad = false
    · obtain ⟨hlt, hbd⟩ := hgo
      rw [hbd] at hrb
      have hd : decide ((k : Int) < n) = true := decide_eq_true (by have := HNN.out; omega)
      have HGO := Lib.hid (And.intro hlt hbd)
      obtain ⟨sn, hsn⟩ : ∃ x, x = s.nums := ⟨_, rfl⟩
      obtain ⟨dtc, hdc⟩ : ∃ x, x = s.numsTo.bytes := ⟨_, rfl⟩
      have hsr : ∀ x ∈ sn, -9223372036854775808 ≤ x ∧ x ≤ 9223372036854775807 := by rw [hsn]; exact nums_in9 s
      have e1 : s.scl = ⟨sn, dtc⟩ := by rw [hsn, hdc]; rfl
      have HC := Lib.hid (And.intro hsn (And.intro hdc (And.intro hsr e1)))
      clear hlt hbd hsn hdc hsr e1
      go_wp2_with fail
      refine (mnums_any wr gr gr s HD.out.rd (by have := HD.out.ln; omega)).mono ?_
      rintro e x1 ⟨v1, rfl, hv1, hm1, o1⟩
      rw [← HC.out.1] at hv1
      obtain ⟨S1, cs1, rfl⟩ := hv1.form2
      have E1 := HD.out.call o1 hm1 (Nat.le_trans (numsTo_ln9 s) HD.out.ln)
      have hgz : gr < wr.heap.size := by have := HD.out.hd.lt; have := HD.out.c2; omega
      have hv1' : OwnI x1 gr (.slice S1 sn.length cs1) sn.length sn := row_weaken hv1 (by omega)
      obtain ⟨x2, hx2⟩ : ∃ W, W = x1.alloc (.cells #[.slice S1 sn.length cs1, .slice none 0 0] 78) := ⟨_, rfl⟩
      obtain ⟨gx, hgx⟩ : ∃ j, j = x1.heap.size := ⟨_, rfl⟩
      have bx : Below x1.heap.size x1 x2 := by rw [hx2]; exact below_alloc x1 _
      have E2 := Lib.hid (E1.below bx)
      have KX : Blk x2 gx 78 #[.slice S1 sn.length cs1, .slice none 0 0] := by rw [hx2, hgx]; exact Blk.new x1 _ _
      have HX2 : Hid (OwnI x2 gr (.slice S1 sn.length cs1) sn.length sn ∧ Blk x2 gx 78 #[.slice S1 sn.length cs1, .slice none 0 0] ∧ gr < gx ∧ g < gx ∧ (∀ j ∈ rowOf (.slice q.C q.cl.length q.cc), j < gx)) := Lib.hid ⟨OwnI.below hv1' bx, KX, by rw [hgx]; have := o1.size; omega, by rw [hgx]; exact E1.hd.lt, fun j hj => by rw [hgx]; exact row_under E1.row j hj⟩
      have HWX := Lib.hid (And.intro hx2 hgx)
      clear hv1 hm1 o1 E1 hgz hv1' hx2 hgx bx KX
      go_upto_region 10 with (fail)
      rw [← HWX.out.1, ← HWX.out.2]
      clear HWX
      go_wp2_with fail
      refine (mbytes_any x2 gr gr s.numsTo E2.out.rd (by have := E2.out.ln; omega)).mono ?_
      rintro e x3 ⟨v3, rfl, hv3, hm3, o3⟩
      have hlt3 : ∀ x ∈ s.numsTo.bytes, x < 256 := got_lt9 (take_lt9 E2.out.rd.good.2 8) _
      rw [← HC.out.2.1] at hv3 hlt3
      obtain ⟨D3, cd3, rfl, -⟩ := hv3.form
      have hln3 : s.sclTo.bs.length ≤ 7000 := Nat.le_trans (sclTo_ln9 s) HD.out.ln
      have E3 := Lib.hid (E2.out.call o3 (t := s.sclTo) hm3 hln3)
      have hx2z : gr < x2.heap.size := by have := E2.out.hd.lt; have := E2.out.c2; omega
      have hrd : ∃ cs, Blk x2 gr 101 cs := by
        obtain ⟨A, cc, kr, -⟩ := E2.out.rd
        exact ⟨_, kr⟩
      obtain ⟨crd, hrd⟩ := hrd
      have KX3 : Blk x3 gx 78 #[.slice S1 sn.length cs1, .slice none 0 0] := HX2.out.2.1.only o3 (by have := HX2.out.2.2.1; simp; omega)
      have HX3 : Hid (OwnI x3 gr (.slice S1 sn.length cs1) sn.length sn ∧ Own x3 gr (.slice D3 dtc.length cd3) dtc.length dtc ∧ (∀ x ∈ dtc, x < 256) ∧ Blk x3 gx 78 #[.slice S1 sn.length cs1, .slice none 0 0]) := Lib.hid ⟨row_stay9 HX2.out.1 hrd (by decide) o3, row_weaken hv3 (by omega), hlt3, KX3⟩
      clear hv3 hm3 o3 hlt3 hln3 hx2z hrd E2
      go_upto_region 11 with (have _h := KX3; refine wpList_setq rfl 22 (.tmp 42) (.tmp 41) rfl gx 1 78 _ (.slice D3 dtc.length cd3) rfl rfl KX3 (by simp) (by kernel_rfl) rfl ?_; clear _h KX3; intro x4 K4 o4 q4)
      have KX4 : Blk x4 gx 78 #[.slice S1 sn.length cs1, .slice D3 dtc.length cd3] := by simpa using K4
      obtain ⟨cn, hcn⟩ : ∃ cn : CA, cn = ⟨sn, dtc, S1, cs1, D3, cd3⟩ := ⟨_, rfl⟩
      have E4 := E3.out.aside HX3.out.2.2.2 (by decide) (by decide) HX2.out.2.2.1 (by have := HX2.out.2.2.2.1; omega) (fun j hj => by have := HX2.out.2.2.2.2 j hj; omega) o4
      have hcN : CA.N cn x4 gr := by rw [hcn]; exact ⟨row_stay9 HX3.out.1 HX3.out.2.2.2 (by decide) o4, row_stay9 HX3.out.2.1 HX3.out.2.2.2 (by decide) o4, HX3.out.2.2.1, HC.out.2.2.1⟩
      have x0 : x4.cell? ⟨gx, 0, none⟩ = some (.slice cn.S cn.sn.length cn.cs) := by rw [hcn]; exact KX4.cell 0
      have xx1 : x4.cell? ⟨gx, 1, none⟩ = some (.slice cn.D cn.dt.length cn.cd) := by rw [hcn]; exact KX4.cell 1
      have y3 : x4.cell? ⟨g, 3, none⟩ = some (.slice q.C q.cl.length q.cc) := E4.hd.cell 3
      have hbs := build_rcl cn x4
      have hone := one_cl x4 78 cn
      have b5 : Below x4.heap.size x4 (x4.alloc (.cells cn.cells.toArray 78)) := below_alloc x4 _
      have E5 := Lib.hid (And.intro (E4.below b5) (hcN.below b5))
      have hrow2 : OwnC 78 (x4.alloc (.cells cn.cells.toArray 78)) gr (.slice q.C q.cl.length q.cc) q.cl := E5.out.1.row
      have KG := E5.out.1.hd
      have hql9 : q.cl.length ≤ 900 := by have := HT.out.2.2.2.1; omega
      have hg4 : gr < x4.heap.size := by have := E4.hd.lt; have := E4.c2; omega
      have HCN : Hid (s.scl = cn.v) := Lib.hid (by rw [HC.out.2.2.2, hcn]; rfl)
      clear K4 o4 q4 KX4 hcn E4 hcN b5 E3
      go_wp2_with (first
        | (refine app_rcl (.tmp 44) (.tmp 46) rfl rfl gr (.slice q.C q.cl.length q.cc) q.cl rfl hrow2 _ (some ⟨x4.heap.size, 0, none⟩) 1 1 [cn] rfl rfl hone (by omega) (by rw [World.size_alloc]; omega) ?_; intro v5 x5 h5 g5 a5; obtain ⟨A5, c5, rfl⟩ := h5.form; rw [show (q.cl ++ [cn]).length = q.cl.length + 1 by simp]; have K5 : Blk x5 g 25 #[.bool q.th, .slice q.D q.dt.length q.cd, .int .i64 q.sq, .slice q.C q.cl.length q.cc] := KG.grown g5 (fun e => own_blk_ne hrow2 KG (by decide) e.symm))
        | (refine wpList_setq rfl 23 (.tmp 48) (.tmp 47) rfl g 3 25 _ (.slice A5 (q.cl.length + 1) c5) rfl rfl K5 (by simp) (by kernel_rfl) rfl ?_; intro x6 K6 o6 q6))
      have E6 : Hid (D9 w gr g ⟨q.th, q.dt, q.D, q.cd, q.sq, A5, c5, q.cl ++ [cn]⟩ s.sclTo x6) := Lib.hid (E5.out.1.snoc E5.out.2 h5 g5 o6 (by simpa using K6))
      have HR : Hid ((q.cl ++ [cn]).length = k + 1 ∧ RD.dcL N u4 = (q.cl ++ [cn]).map CA.v ++ RD.dcL (N - (k + 1)) s.sclTo ∧ RD.dcT N u4 = RD.dcT (N - (k + 1)) s.sclTo) := Lib.hid (by
        obtain ⟨f1, f2⟩ := dcL_go (k := N - k) (s := s) (by have := HGO.out.1; omega) HGO.out.2
        refine ⟨by rw [List.length_append, HT.out.2.2.2.1]; rfl, ?_, ?_⟩
        · rw [HT.out.2.2.2.2.1, f1, HCN.out, show N - k - 1 = N - (k + 1) by omega, List.map_append, List.append_assoc]; rfl
        · rw [HT.out.2.2.2.2.2, f2, show N - k - 1 = N - (k + 1) by omega])
      clear K6 o6 q6 h5 g5 a5 K5 hrow2 hone hbs KG x0 xx1 y3
      go_wp2
      go_roundw
      case rel => exact ⟨k + 1, _, _, by have := HGO.out.1; omega, by go_num, E6.out, HT.out.1, HT.out.2.1, HT.out.2.2.1, HR.out.1, HR.out.2.1, HR.out.2.2⟩
      case measure => have := HGO.out.1; simp [intOf]; omega
    · have hst : N - k = 0 ∨ s.bad = true := by
        by_cases h : k < N
        · right
          cases hb : s.bad with
          | true => rfl
          | false => exact absurd ⟨h, hb⟩ hgo
        · left; omega
      obtain ⟨e1, e2⟩ := dcL_stop hst
      have hqv : q.v = (⟨b, false⟩ : RD).dov := by
        rw [HV.out.1, HT.out.2.2.2.2.1, e1, List.append_nil, ← HT.out.1, ← HT.out.2.1, ← HT.out.2.2.1]
        rfl
      have hbv : (⟨b, false⟩ : RD).dovT.bad = s.bad := by rw [HV.out.2, HT.out.2.2.2.2.2, e2]
      have hqS : q.Sm := dov_sm HSB.out HNB.out hqv
      have HQV := Lib.hid (And.intro hqv hbv)
      have HGD : Hid (∀ W, Below wr.heap.size wr W → Calls Try.prog 22 #[.agg #[.bool q.th, .slice q.D q.dt.length q.cd, .int .i64 q.sq, .slice q.C q.cl.length q.cc]] W (GoodTo W q.v)) := Lib.hid fun W hW => rgood_any q (HD.out.reads.since hW) hqS
      have HPT : Hid (∀ W, Below wr.heap.size wr W → Calls Try.prog 30 #[.agg #[.bool q.th, .slice q.D q.dt.length q.cd, .int .i64 q.sq, .slice q.C q.cl.length q.cc]] W fun e w' => ∃ A9 c9, e = .returned (.slice A9 (putV q.v).length c9) ∧ Own w' W.heap.size (.slice A9 (putV q.v).length c9) (putV q.v).length (putV q.v) ∧ Below W.heap.size W w') := Lib.hid fun W hW => (rput_any q (HD.out.reads.since hW) hqS).mono fun e w' ⟨v, h1, h2, h3⟩ => by
        obtain ⟨A9, c9, rfl, -⟩ := h2.form
        exact ⟨A9, c9, h1, h2, h3⟩
      have HLT : Hid (∀ x ∈ putV q.v, x < 256) := Lib.hid (putV_lt9 HD.out.reads)
      have HOB : Hid (∀ W, Below wr.heap.size wr W → Blk W g 25 #[.bool q.th, .slice q.D q.dt.length q.cd, .int .i64 q.sq, .slice q.C q.cl.length q.cc]) := Lib.hid fun W hW => HD.out.hd.of (hW.block _ HD.out.hd.lt)
      have HRS : Hid (∀ W, Below wr.heap.size wr W → Blk W w.heap.size 25 #[.bool false, .slice none 0 0, .int .i64 0, .slice none 0 0]) := Lib.hid fun W hW => HD.out.res.of (hW.block _ HD.out.res.lt)
      obtain ⟨Ar, cr, kr, -⟩ := HD.out.rd
      have HRD : Hid (∀ W, Below wr.heap.size wr W → Blk W gr 101 #[.slice Ar s.bs.length cr, .bool s.bad]) := Lib.hid fun W hW => kr.of (hW.block _ kr.lt)
      have HBY : Hid (∀ W, Below wr.heap.size wr W → Bytes W W.heap.size A0 b.length b) := Lib.hid fun W hW => ((HB.out.since HD.out.bel).since hW).more (Nat.le_trans HD.out.bel.size hW.size)
      clear hst e1 e2 hqv hbv hqS kr
      cases hbad : s.bad with
      | true =>
        rw [hbad] at hrb HRD
        have HBD := Lib.hid hbad
        clear hbad
        have HNO : Hid (¬ DOk9 b) := Lib.hid fun h => by have h1 := h.1; rw [HQV.out.2, HBD.out] at h1; cases h1
        by_cases hlt : k < N
        · have hd : decide ((k : Int) < n) = true := decide_eq_true (by have := HNN.out; omega)
          clear hgo
          go_upto_region 12 with (fail)
          have hS : Below wr.heap.size wr wr.drew := (Below.refl _ wr).drew
          refine any_beginL (fun W' => Below wr.heap.size wr W') 99 (by kernel_rfl) ?_
          refine S_take (i := 0) (v := .pointer (some ⟨gr, 0, none⟩)) rfl rfl (by kernel_rfl) (by kernel_rfl) (by kernel_rfl) (fun _ _ _ h => h) (Or.inl ⟨by rfl, fun W hw => by go_simp⟩) hS ?_
          simp only [Act.put, List.getElem_toArray, List.getElem_cons_succ, List.getElem_cons_zero, List.setIfInBounds_toArray, List.set_cons_zero, List.set_cons_succ]
          refine S_take (i := 1) (v := .pointer (some ⟨gr, 0, none⟩)) rfl rfl (by kernel_rfl) (by kernel_rfl) (by kernel_rfl) (fun _ _ _ h => h) (Or.inl ⟨by rfl, fun W hw => by go_simp⟩) hS ?_
          simp only [Act.put, List.getElem_toArray, List.getElem_cons_succ, List.getElem_cons_zero, List.setIfInBounds_toArray, List.set_cons_zero, List.set_cons_succ]
          refine S_take (i := 2) (v := .pointer (some ⟨gr, 1, none⟩)) rfl rfl (by kernel_rfl) (by kernel_rfl) (by kernel_rfl) (fun _ _ _ h => h) (Or.inl ⟨by rfl, fun W hw => by go_simp⟩) hS ?_
          simp only [Act.put, List.getElem_toArray, List.getElem_cons_succ, List.getElem_cons_zero, List.setIfInBounds_toArray, List.set_cons_zero, List.set_cons_succ]
          refine S_take (i := 3) (v := .bool true) rfl rfl (by kernel_rfl) (by kernel_rfl) (by kernel_rfl) (fun _ _ _ h => h) (Or.inl ⟨by rfl, fun W hw => by have k0 : W.cell? ⟨gr, 1, none⟩ = some (.bool true) := (HRD.out W hw).cell 1; go_simp⟩) hS ?_
          simp only [Act.put, List.getElem_toArray, List.getElem_cons_succ, List.getElem_cons_zero, List.setIfInBounds_toArray, List.set_cons_zero, List.set_cons_succ]
          refine S_take (i := 4) (v := .bool true) rfl rfl (by kernel_rfl) (by kernel_rfl) (by kernel_rfl) (fun _ _ _ h => h) (Or.inl ⟨by rfl, fun W hw => by go_simp⟩) hS ?_
          simp only [Act.put, List.getElem_toArray, List.getElem_cons_succ, List.getElem_cons_zero, List.setIfInBounds_toArray, List.set_cons_zero, List.set_cons_succ]
          refine S_take (i := 5) (v := undef) rfl rfl (by kernel_rfl) (by kernel_rfl) (by kernel_rfl) (fun _ _ _ h => h) (Or.inr ⟨by rfl, rfl⟩) hS ?_
          simp only [Act.put, List.getElem_toArray, List.getElem_cons_succ, List.getElem_cons_zero, List.setIfInBounds_toArray, List.set_cons_zero, List.set_cons_succ]
          refine S_take (i := 6) (v := undef) rfl rfl (by kernel_rfl) (by kernel_rfl) (by kernel_rfl) (fun _ _ _ h => h) (Or.inr ⟨by rfl, rfl⟩) hS ?_
          simp only [Act.put, List.getElem_toArray, List.getElem_cons_succ, List.getElem_cons_zero, List.setIfInBounds_toArray, List.set_cons_zero, List.set_cons_succ]
          refine S_take (i := 7) (v := undef) rfl rfl (by kernel_rfl) (by kernel_rfl) (by kernel_rfl) (fun _ _ _ h => h) (Or.inr ⟨by rfl, rfl⟩) hS ?_
          simp only [Act.put, List.getElem_toArray, List.getElem_cons_succ, List.getElem_cons_zero, List.setIfInBounds_toArray, List.set_cons_zero, List.set_cons_succ]
          refine S_take (i := 8) (v := .bool true) rfl rfl (by kernel_rfl) (by kernel_rfl) (by kernel_rfl) (fun _ _ _ h => h) (Or.inl ⟨by rfl, fun W hw => by go_simp⟩) hS ?_
          simp only [Act.put, List.getElem_toArray, List.getElem_cons_succ, List.getElem_cons_zero, List.setIfInBounds_toArray, List.set_cons_zero, List.set_cons_succ]
          refine S_take (i := 9) (v := .bool true) rfl rfl (by kernel_rfl) (by kernel_rfl) (by kernel_rfl) (fun _ _ _ h => h) (Or.inl ⟨by rfl, fun W hw => by go_simp⟩) hS ?_
          simp only [Act.put, List.getElem_toArray, List.getElem_cons_succ, List.getElem_cons_zero, List.setIfInBounds_toArray, List.set_cons_zero, List.set_cons_succ]
          refine S_take (i := 10) (v := undef) rfl rfl (by kernel_rfl) (by kernel_rfl) (by kernel_rfl) (fun _ _ _ h => h) (Or.inr ⟨by rfl, rfl⟩) hS ?_
          simp only [Act.put, List.getElem_toArray, List.getElem_cons_succ, List.getElem_cons_zero, List.setIfInBounds_toArray, List.set_cons_zero, List.set_cons_succ]
          refine S_take (i := 11) (v := undef) rfl rfl (by kernel_rfl) (by kernel_rfl) (by kernel_rfl) (fun _ _ _ h => h) (Or.inr ⟨by rfl, rfl⟩) hS ?_
          simp only [Act.put, List.getElem_toArray, List.getElem_cons_succ, List.getElem_cons_zero, List.setIfInBounds_toArray, List.set_cons_zero, List.set_cons_succ]
          refine S_take (i := 12) (v := undef) rfl rfl (by kernel_rfl) (by kernel_rfl) (by kernel_rfl) (fun _ _ _ h => h) (Or.inr ⟨by rfl, rfl⟩) hS ?_
          simp only [Act.put, List.getElem_toArray, List.getElem_cons_succ, List.getElem_cons_zero, List.setIfInBounds_toArray, List.set_cons_zero, List.set_cons_succ]
          refine S_take (i := 13) (v := undef) rfl rfl (by kernel_rfl) (by kernel_rfl) (by kernel_rfl) (fun _ _ _ h => h) (Or.inr ⟨by rfl, rfl⟩) hS ?_
          simp only [Act.put, List.getElem_toArray, List.getElem_cons_succ, List.getElem_cons_zero, List.setIfInBounds_toArray, List.set_cons_zero, List.set_cons_succ]
          refine S_take (i := 14) (v := undef) rfl rfl (by kernel_rfl) (by kernel_rfl) (by kernel_rfl) (fun _ _ _ h => h) (Or.inr ⟨by rfl, rfl⟩) hS ?_
          simp only [Act.put, List.getElem_toArray, List.getElem_cons_succ, List.getElem_cons_zero, List.setIfInBounds_toArray, List.set_cons_zero, List.set_cons_succ]
          refine S_take (i := 15) (v := undef) rfl rfl (by kernel_rfl) (by kernel_rfl) (by kernel_rfl) (fun _ _ _ h => h) (Or.inr ⟨by rfl, rfl⟩) hS ?_
          simp only [Act.put, List.getElem_toArray, List.getElem_cons_succ, List.getElem_cons_zero, List.setIfInBounds_toArray, List.set_cons_zero, List.set_cons_succ]
          refine S_take (i := 16) (v := .bool true) rfl rfl (by kernel_rfl) (by kernel_rfl) (by kernel_rfl) (fun _ _ _ h => h) (Or.inl ⟨by rfl, fun W hw => by go_simp⟩) hS ?_
          simp only [Act.put, List.getElem_toArray, List.getElem_cons_succ, List.getElem_cons_zero, List.setIfInBounds_toArray, List.set_cons_zero, List.set_cons_succ]
          refine L_done (by kernel_rfl) ?_
          refine NoPanic.normal ?_
          have KR := HRS.out _ hS
          have HS9 := Lib.hid hS
          clear hS
          go_wp2_with (have _h := KR; refine wpList_storeq rfl 25 (.tmp 2) (.tmp 66) rfl w.heap.size #[.bool false, .slice none 0 0, .int .i64 0, .slice none 0 0] [.bool false, .slice none 0 0, .int .i64 0, .slice none 0 0] rfl rfl KR rfl (by kernel_rfl) (OA.cs_one ⟨false, [], none, 0, 0, none, 0, []⟩) ?_; clear _h KR; intro W99 K99 ho9 hs9)
          refine bodyPost_ret (results_cell_tmp9 rfl _ _ w.heap.size 25 #[.bool false, .slice none 0 0, .int .i64 0, .slice none 0 0] (0, 0) _ _ rfl rfl K99 Try.underlying25 rfl (by kernel_rfl)) rfl ?_
          have hb9 := HD.out.bel.trans (HS9.out.mono HD.out.bel.size)
          exact ⟨hb9.trans (ho9.below (B := w.heap.size) (fun x hx => by simp at hx; omega) hb9.size), .inr ⟨HNO.out, rfl⟩⟩
        · have hd : decide ((k : Int) < n) = false := decide_eq_false (by have := HNN.out; omega)
          clear hgo
          go_upto_region 12 with (fail)
          have hS : Below wr.heap.size wr wr.drew := (Below.refl _ wr).drew
          refine any_beginL (fun W' => Below wr.heap.size wr W') 99 (by kernel_rfl) ?_
          refine S_take (i := 0) (v := .pointer (some ⟨gr, 0, none⟩)) rfl rfl (by kernel_rfl) (by kernel_rfl) (by kernel_rfl) (fun _ _ _ h => h) (Or.inl ⟨by rfl, fun W hw => by go_simp⟩) hS ?_
          simp only [Act.put, List.getElem_toArray, List.getElem_cons_succ, List.getElem_cons_zero, List.setIfInBounds_toArray, List.set_cons_zero, List.set_cons_succ]
          refine S_take (i := 1) (v := .pointer (some ⟨gr, 0, none⟩)) rfl rfl (by kernel_rfl) (by kernel_rfl) (by kernel_rfl) (fun _ _ _ h => h) (Or.inl ⟨by rfl, fun W hw => by go_simp⟩) hS ?_
          simp only [Act.put, List.getElem_toArray, List.getElem_cons_succ, List.getElem_cons_zero, List.setIfInBounds_toArray, List.set_cons_zero, List.set_cons_succ]
          refine S_take (i := 2) (v := .pointer (some ⟨gr, 1, none⟩)) rfl rfl (by kernel_rfl) (by kernel_rfl) (by kernel_rfl) (fun _ _ _ h => h) (Or.inl ⟨by rfl, fun W hw => by go_simp⟩) hS ?_
          simp only [Act.put, List.getElem_toArray, List.getElem_cons_succ, List.getElem_cons_zero, List.setIfInBounds_toArray, List.set_cons_zero, List.set_cons_succ]
          refine S_take (i := 3) (v := .bool true) rfl rfl (by kernel_rfl) (by kernel_rfl) (by kernel_rfl) (fun _ _ _ h => h) (Or.inl ⟨by rfl, fun W hw => by have k0 : W.cell? ⟨gr, 1, none⟩ = some (.bool true) := (HRD.out W hw).cell 1; go_simp⟩) hS ?_
          simp only [Act.put, List.getElem_toArray, List.getElem_cons_succ, List.getElem_cons_zero, List.setIfInBounds_toArray, List.set_cons_zero, List.set_cons_succ]
          refine S_take (i := 4) (v := .bool true) rfl rfl (by kernel_rfl) (by kernel_rfl) (by kernel_rfl) (fun _ _ _ h => h) (Or.inl ⟨by rfl, fun W hw => by go_simp⟩) hS ?_
          simp only [Act.put, List.getElem_toArray, List.getElem_cons_succ, List.getElem_cons_zero, List.setIfInBounds_toArray, List.set_cons_zero, List.set_cons_succ]
          refine S_take (i := 5) (v := undef) rfl rfl (by kernel_rfl) (by kernel_rfl) (by kernel_rfl) (fun _ _ _ h => h) (Or.inr ⟨by rfl, rfl⟩) hS ?_
          simp only [Act.put, List.getElem_toArray, List.getElem_cons_succ, List.getElem_cons_zero, List.setIfInBounds_toArray, List.set_cons_zero, List.set_cons_succ]
          refine S_take (i := 6) (v := undef) rfl rfl (by kernel_rfl) (by kernel_rfl) (by kernel_rfl) (fun _ _ _ h => h) (Or.inr ⟨by rfl, rfl⟩) hS ?_
          simp only [Act.put, List.getElem_toArray, List.getElem_cons_succ, List.getElem_cons_zero, List.setIfInBounds_toArray, List.set_cons_zero, List.set_cons_succ]
          refine S_take (i := 7) (v := undef) rfl rfl (by kernel_rfl) (by kernel_rfl) (by kernel_rfl) (fun _ _ _ h => h) (Or.inr ⟨by rfl, rfl⟩) hS ?_
          simp only [Act.put, List.getElem_toArray, List.getElem_cons_succ, List.getElem_cons_zero, List.setIfInBounds_toArray, List.set_cons_zero, List.set_cons_succ]
          refine S_take (i := 8) (v := .bool true) rfl rfl (by kernel_rfl) (by kernel_rfl) (by kernel_rfl) (fun _ _ _ h => h) (Or.inl ⟨by rfl, fun W hw => by go_simp⟩) hS ?_
          simp only [Act.put, List.getElem_toArray, List.getElem_cons_succ, List.getElem_cons_zero, List.setIfInBounds_toArray, List.set_cons_zero, List.set_cons_succ]
          refine S_take (i := 9) (v := .bool true) rfl rfl (by kernel_rfl) (by kernel_rfl) (by kernel_rfl) (fun _ _ _ h => h) (Or.inl ⟨by rfl, fun W hw => by go_simp⟩) hS ?_
          simp only [Act.put, List.getElem_toArray, List.getElem_cons_succ, List.getElem_cons_zero, List.setIfInBounds_toArray, List.set_cons_zero, List.set_cons_succ]
          refine S_take (i := 10) (v := undef) rfl rfl (by kernel_rfl) (by kernel_rfl) (by kernel_rfl) (fun _ _ _ h => h) (Or.inr ⟨by rfl, rfl⟩) hS ?_
          simp only [Act.put, List.getElem_toArray, List.getElem_cons_succ, List.getElem_cons_zero, List.setIfInBounds_toArray, List.set_cons_zero, List.set_cons_succ]
          refine S_take (i := 11) (v := undef) rfl rfl (by kernel_rfl) (by kernel_rfl) (by kernel_rfl) (fun _ _ _ h => h) (Or.inr ⟨by rfl, rfl⟩) hS ?_
          simp only [Act.put, List.getElem_toArray, List.getElem_cons_succ, List.getElem_cons_zero, List.setIfInBounds_toArray, List.set_cons_zero, List.set_cons_succ]
          refine S_take (i := 12) (v := undef) rfl rfl (by kernel_rfl) (by kernel_rfl) (by kernel_rfl) (fun _ _ _ h => h) (Or.inr ⟨by rfl, rfl⟩) hS ?_
          simp only [Act.put, List.getElem_toArray, List.getElem_cons_succ, List.getElem_cons_zero, List.setIfInBounds_toArray, List.set_cons_zero, List.set_cons_succ]
          refine S_take (i := 13) (v := undef) rfl rfl (by kernel_rfl) (by kernel_rfl) (by kernel_rfl) (fun _ _ _ h => h) (Or.inr ⟨by rfl, rfl⟩) hS ?_
          simp only [Act.put, List.getElem_toArray, List.getElem_cons_succ, List.getElem_cons_zero, List.setIfInBounds_toArray, List.set_cons_zero, List.set_cons_succ]
          refine S_take (i := 14) (v := undef) rfl rfl (by kernel_rfl) (by kernel_rfl) (by kernel_rfl) (fun _ _ _ h => h) (Or.inr ⟨by rfl, rfl⟩) hS ?_
          simp only [Act.put, List.getElem_toArray, List.getElem_cons_succ, List.getElem_cons_zero, List.setIfInBounds_toArray, List.set_cons_zero, List.set_cons_succ]
          refine S_take (i := 15) (v := undef) rfl rfl (by kernel_rfl) (by kernel_rfl) (by kernel_rfl) (fun _ _ _ h => h) (Or.inr ⟨by rfl, rfl⟩) hS ?_
          simp only [Act.put, List.getElem_toArray, List.getElem_cons_succ, List.getElem_cons_zero, List.setIfInBounds_toArray, List.set_cons_zero, List.set_cons_succ]
          refine S_take (i := 16) (v := .bool true) rfl rfl (by kernel_rfl) (by kernel_rfl) (by kernel_rfl) (fun _ _ _ h => h) (Or.inl ⟨by rfl, fun W hw => by go_simp⟩) hS ?_
          simp only [Act.put, List.getElem_toArray, List.getElem_cons_succ, List.getElem_cons_zero, List.setIfInBounds_toArray, List.set_cons_zero, List.set_cons_succ]
          refine L_done (by kernel_rfl) ?_
          refine NoPanic.normal ?_
          have KR := HRS.out _ hS
          have HS9 := Lib.hid hS
          clear hS
          go_wp2_with (have _h := KR; refine wpList_storeq rfl 25 (.tmp 2) (.tmp 66) rfl w.heap.size #[.bool false, .slice none 0 0, .int .i64 0, .slice none 0 0] [.bool false, .slice none 0 0, .int .i64 0, .slice none 0 0] rfl rfl KR rfl (by kernel_rfl) (OA.cs_one ⟨false, [], none, 0, 0, none, 0, []⟩) ?_; clear _h KR; intro W99 K99 ho9 hs9)
          refine bodyPost_ret (results_cell_tmp9 rfl _ _ w.heap.size 25 #[.bool false, .slice none 0 0, .int .i64 0, .slice none 0 0] (0, 0) _ _ rfl rfl K99 Try.underlying25 rfl (by kernel_rfl)) rfl ?_
          have hb9 := HD.out.bel.trans (HS9.out.mono HD.out.bel.size)
          exact ⟨hb9.trans (ho9.below (B := w.heap.size) (fun x hx => by simp at hx; omega) hb9.size), .inr ⟨HNO.out, rfl⟩⟩
      | false =>
        rw [hbad] at hrb HRD
        have HBD := Lib.hid hbad
        have hlt : ¬ k < N := fun h => hgo ⟨h, hbad⟩
        have hd : decide ((k : Int) < n) = false := decide_eq_false (by have := HNN.out; omega)
        clear hbad hgo
        by_cases hpe : putV q.v = b
        · have HPE := Lib.hid hpe
          have HNE : Hid (((strOf (putV q.v)).toList == (strOf b).toList) = true ∧ ((strOf (putV q.v)).toList != (strOf b).toList) = false) := Lib.hid (by rw [hpe]; simp)
          clear hpe
          go_upto_region 12 with (fail)
          have hS : Below wr.heap.size wr wr.drew := (Below.refl _ wr).drew
          refine any_beginL (fun W' => Below wr.heap.size wr W') 99 (by kernel_rfl) ?_
          refine S_take (i := 0) (v := .pointer (some ⟨gr, 0, none⟩)) rfl rfl (by kernel_rfl) (by kernel_rfl) (by kernel_rfl) (fun _ _ _ h => h) (Or.inl ⟨by rfl, fun W hw => by go_simp⟩) hS ?_
          simp only [Act.put, List.getElem_toArray, List.getElem_cons_succ, List.getElem_cons_zero, List.setIfInBounds_toArray, List.set_cons_zero, List.set_cons_succ]
          refine S_take (i := 1) (v := .pointer (some ⟨gr, 0, none⟩)) rfl rfl (by kernel_rfl) (by kernel_rfl) (by kernel_rfl) (fun _ _ _ h => h) (Or.inl ⟨by rfl, fun W hw => by go_simp⟩) hS ?_
          simp only [Act.put, List.getElem_toArray, List.getElem_cons_succ, List.getElem_cons_zero, List.setIfInBounds_toArray, List.set_cons_zero, List.set_cons_succ]
          refine S_take (i := 2) (v := .pointer (some ⟨gr, 1, none⟩)) rfl rfl (by kernel_rfl) (by kernel_rfl) (by kernel_rfl) (fun _ _ _ h => h) (Or.inl ⟨by rfl, fun W hw => by go_simp⟩) hS ?_
          simp only [Act.put, List.getElem_toArray, List.getElem_cons_succ, List.getElem_cons_zero, List.setIfInBounds_toArray, List.set_cons_zero, List.set_cons_succ]
          refine S_take (i := 3) (v := .bool false) rfl rfl (by kernel_rfl) (by kernel_rfl) (by kernel_rfl) (fun _ _ _ h => h) (Or.inl ⟨by rfl, fun W hw => by have k0 : W.cell? ⟨gr, 1, none⟩ = some (.bool false) := (HRD.out W hw).cell 1; go_simp⟩) hS ?_
          simp only [Act.put, List.getElem_toArray, List.getElem_cons_succ, List.getElem_cons_zero, List.setIfInBounds_toArray, List.set_cons_zero, List.set_cons_succ]
          refine S_take (i := 4) (v := .bool false) rfl rfl (by kernel_rfl) (by kernel_rfl) (by kernel_rfl) (fun _ _ _ h => h) (Or.inl ⟨by rfl, fun W hw => by go_simp⟩) hS ?_
          simp only [Act.put, List.getElem_toArray, List.getElem_cons_succ, List.getElem_cons_zero, List.setIfInBounds_toArray, List.set_cons_zero, List.set_cons_succ]
          refine S_take (i := 5) (v := .agg #[.bool q.th, .slice q.D q.dt.length q.cd, .int .i64 q.sq, .slice q.C q.cl.length q.cc]) rfl rfl (by kernel_rfl) (by kernel_rfl) (by kernel_rfl) (fun _ _ _ h => h) (Or.inl ⟨by rfl, fun W hw => by have k0 : W.cell? ⟨g, 0, none⟩ = some (.bool q.th) := (HOB.out W hw).cell 0; have k1 : W.cell? ⟨g, 1, none⟩ = some (.slice q.D q.dt.length q.cd) := (HOB.out W hw).cell 1; have k2 : W.cell? ⟨g, 2, none⟩ = some (.int .i64 q.sq) := (HOB.out W hw).cell 2; have k3 : W.cell? ⟨g, 3, none⟩ = some (.slice q.C q.cl.length q.cc) := (HOB.out W hw).cell 3; go_simp⟩) hS ?_
          simp only [Act.put, List.getElem_toArray, List.getElem_cons_succ, List.getElem_cons_zero, List.setIfInBounds_toArray, List.set_cons_zero, List.set_cons_succ]
          refine L_one (j := 6) (by kernel_rfl) rfl (by rfl) ?_
          simp only [Act.put, List.getElem_toArray, List.getElem_cons_succ, List.getElem_cons_zero, List.setIfInBounds_toArray, List.set_cons_zero, List.set_cons_succ]
          refine wp_called (by go_simp) (HGD.out _ hS) ?_
          rintro e W6 ⟨bg, rfl, hbg, b9⟩
          have hS : Below wr.heap.size wr W6 := hS.trans (b9.mono hS.size)
          clear b9
          have HBG := Lib.hid hbg
          clear hbg
          refine ⟨_, rfl, hS, ?_⟩
          simp only [Act.put, List.getElem_toArray, List.getElem_cons_succ, List.getElem_cons_zero, List.setIfInBounds_toArray, List.set_cons_zero, List.set_cons_succ]
          cases hbgv : bg with
          | true =>
            refine S_take (i := 7) (v := .bool false) rfl rfl (by kernel_rfl) (by kernel_rfl) (by kernel_rfl) (fun _ _ _ h => h) (Or.inl ⟨by rfl, fun W hw => by go_simp⟩) hS ?_
            simp only [Act.put, List.getElem_toArray, List.getElem_cons_succ, List.getElem_cons_zero, List.setIfInBounds_toArray, List.set_cons_zero, List.set_cons_succ]
            refine S_take (i := 8) (v := .bool false) rfl rfl (by kernel_rfl) (by kernel_rfl) (by kernel_rfl) (fun _ _ _ h => h) (Or.inl ⟨by rfl, fun W hw => by go_simp⟩) hS ?_
            simp only [Act.put, List.getElem_toArray, List.getElem_cons_succ, List.getElem_cons_zero, List.setIfInBounds_toArray, List.set_cons_zero, List.set_cons_succ]
            refine S_take (i := 9) (v := .bool false) rfl rfl (by kernel_rfl) (by kernel_rfl) (by kernel_rfl) (fun _ _ _ h => h) (Or.inl ⟨by rfl, fun W hw => by go_simp⟩) hS ?_
            simp only [Act.put, List.getElem_toArray, List.getElem_cons_succ, List.getElem_cons_zero, List.setIfInBounds_toArray, List.set_cons_zero, List.set_cons_succ]
            refine S_take (i := 10) (v := .agg #[.bool q.th, .slice q.D q.dt.length q.cd, .int .i64 q.sq, .slice q.C q.cl.length q.cc]) rfl rfl (by kernel_rfl) (by kernel_rfl) (by kernel_rfl) (fun _ _ _ h => h) (Or.inl ⟨by rfl, fun W hw => by have k0 : W.cell? ⟨g, 0, none⟩ = some (.bool q.th) := (HOB.out W hw).cell 0; have k1 : W.cell? ⟨g, 1, none⟩ = some (.slice q.D q.dt.length q.cd) := (HOB.out W hw).cell 1; have k2 : W.cell? ⟨g, 2, none⟩ = some (.int .i64 q.sq) := (HOB.out W hw).cell 2; have k3 : W.cell? ⟨g, 3, none⟩ = some (.slice q.C q.cl.length q.cc) := (HOB.out W hw).cell 3; go_simp⟩) hS ?_
            simp only [Act.put, List.getElem_toArray, List.getElem_cons_succ, List.getElem_cons_zero, List.setIfInBounds_toArray, List.set_cons_zero, List.set_cons_succ]
            refine S_take (i := 13) (v := .slice A0 b.length c) rfl rfl (by kernel_rfl) (by kernel_rfl) (by kernel_rfl) (fun _ _ _ h => h) (Or.inl ⟨by rfl, fun W hw => by go_simp⟩) hS ?_
            simp only [Act.put, List.getElem_toArray, List.getElem_cons_succ, List.getElem_cons_zero, List.setIfInBounds_toArray, List.set_cons_zero, List.set_cons_succ]
            refine S_take (i := 14) (v := .string (strOf b)) rfl rfl (by kernel_rfl) (by kernel_rfl) (by kernel_rfl) (fun _ _ _ h => h) (Or.inl ⟨by rfl, fun W hw => by have k9 := str_of (P := Try.prog) (HBY.out W hw) c 22 9 5 Try.underlying22 Try.underlying5 Try.underlying9; go_simp⟩) hS ?_
            simp only [Act.put, List.getElem_toArray, List.getElem_cons_succ, List.getElem_cons_zero, List.setIfInBounds_toArray, List.set_cons_zero, List.set_cons_succ]
            refine L_one (j := 11) (by kernel_rfl) rfl (by rfl) ?_
            simp only [Act.put, List.getElem_toArray, List.getElem_cons_succ, List.getElem_cons_zero, List.setIfInBounds_toArray, List.set_cons_zero, List.set_cons_succ]
            refine wp_called (by go_simp) (HPT.out _ hS) ?_
            rintro e W11 ⟨A9, c9, rfl, ho9, b9⟩
            have hS : Below wr.heap.size wr W11 := hS.trans (b9.mono hS.size)
            clear b9
            refine ⟨_, rfl, hS, ?_⟩
            simp only [Act.put, List.getElem_toArray, List.getElem_cons_succ, List.getElem_cons_zero, List.setIfInBounds_toArray, List.set_cons_zero, List.set_cons_succ]
            refine L_one (j := 12) (by kernel_rfl) rfl (by rfl) ?_
            simp only [Act.put, List.getElem_toArray, List.getElem_cons_succ, List.getElem_cons_zero, List.setIfInBounds_toArray, List.set_cons_zero, List.set_cons_succ]
            have k9 := str_of (P := Try.prog) (ho9.bytes HLT.out) c9 22 9 5 Try.underlying22 Try.underlying5 Try.underlying9
            refine wp_ran (v := .string (strOf (putV q.v))) (w' := W11) (by go_simp) ⟨hS, ?_⟩
            simp only [Act.put, List.getElem_toArray, List.getElem_cons_succ, List.getElem_cons_zero, List.setIfInBounds_toArray, List.set_cons_zero, List.set_cons_succ]
            clear k9
            refine S_take (i := 15) (v := .bool false) rfl rfl (by kernel_rfl) (by kernel_rfl) (by kernel_rfl) (fun _ _ _ h => h) (Or.inl ⟨by rfl, fun W hw => by have k9 := HNE.out.1; have k8 := HNE.out.2; go_simp⟩) hS ?_
            simp only [Act.put, List.getElem_toArray, List.getElem_cons_succ, List.getElem_cons_zero, List.setIfInBounds_toArray, List.set_cons_zero, List.set_cons_succ]
            refine S_take (i := 16) (v := .bool false) rfl rfl (by kernel_rfl) (by kernel_rfl) (by kernel_rfl) (fun _ _ _ h => h) (Or.inl ⟨by rfl, fun W hw => by go_simp⟩) hS ?_
            simp only [Act.put, List.getElem_toArray, List.getElem_cons_succ, List.getElem_cons_zero, List.setIfInBounds_toArray, List.set_cons_zero, List.set_cons_succ]
            refine L_done (by kernel_rfl) ?_
            refine NoPanic.normal ?_
            have HOK : Hid (DOk9 b) := Lib.hid ⟨by rw [HQV.out.2]; exact HBD.out, by rw [← HQV.out.1]; exact HBG.out.1 hbgv, by rw [← HQV.out.1]; exact HPE.out⟩
            have KR := HRS.out _ hS
            have KO := HOB.out _ hS
            have HS9 := Lib.hid hS
            clear hS
            go_wp2_with (first | (have _h := KO; refine wpList_loadq rfl 25 (.tmp 5) rfl g [.bool q.th, .slice q.D q.dt.length q.cd, .int .i64 q.sq, .slice q.C q.cl.length q.cc] _ rfl KO Try.underlying25 rfl (by kernel_rfl) ?_; clear _h KO) | (have _h := KR; refine wpList_storeq rfl 25 (.tmp 2) (.tmp 67) rfl w.heap.size #[.bool false, .slice none 0 0, .int .i64 0, .slice none 0 0] [.bool q.th, .slice q.D q.dt.length q.cd, .int .i64 q.sq, .slice q.C q.cl.length q.cc] rfl rfl KR rfl (by kernel_rfl) (OA.cs_one q) ?_; clear _h KR; intro W99 K99 ho9 hs9))
            refine bodyPost_ret (results_cell_tmp9 rfl _ _ w.heap.size 25 #[.bool q.th, .slice q.D q.dt.length q.cd, .int .i64 q.sq, .slice q.C q.cl.length q.cc] (0, 0) _ _ rfl rfl K99 Try.underlying25 rfl (by kernel_rfl)) rfl ?_
            have D9' := HD.out.below HS9.out
            have hb9 := D9'.bel
            have hc1 := HD.out.c1
            refine ⟨hb9.trans (ho9.below (B := w.heap.size) (fun x hx => by simp at hx; omega) hb9.size), .inl ⟨HOK.out, q, rfl, HQV.out.1, fun V hV => D9'.R fun j h1 h2 => (hV j (by omega) (by have := ho9.size; omega)).trans (ho9.block j h2 (by simp; omega))⟩⟩
          | false =>
            refine S_take (i := 7) (v := .bool true) rfl rfl (by kernel_rfl) (by kernel_rfl) (by kernel_rfl) (fun _ _ _ h => h) (Or.inl ⟨by rfl, fun W hw => by go_simp⟩) hS ?_
            simp only [Act.put, List.getElem_toArray, List.getElem_cons_succ, List.getElem_cons_zero, List.setIfInBounds_toArray, List.set_cons_zero, List.set_cons_succ]
            refine S_take (i := 8) (v := .bool true) rfl rfl (by kernel_rfl) (by kernel_rfl) (by kernel_rfl) (fun _ _ _ h => h) (Or.inl ⟨by rfl, fun W hw => by go_simp⟩) hS ?_
            simp only [Act.put, List.getElem_toArray, List.getElem_cons_succ, List.getElem_cons_zero, List.setIfInBounds_toArray, List.set_cons_zero, List.set_cons_succ]
            refine S_take (i := 9) (v := .bool true) rfl rfl (by kernel_rfl) (by kernel_rfl) (by kernel_rfl) (fun _ _ _ h => h) (Or.inl ⟨by rfl, fun W hw => by go_simp⟩) hS ?_
            simp only [Act.put, List.getElem_toArray, List.getElem_cons_succ, List.getElem_cons_zero, List.setIfInBounds_toArray, List.set_cons_zero, List.set_cons_succ]
            refine S_take (i := 10) (v := undef) rfl rfl (by kernel_rfl) (by kernel_rfl) (by kernel_rfl) (fun _ _ _ h => h) (Or.inr ⟨by rfl, rfl⟩) hS ?_
            simp only [Act.put, List.getElem_toArray, List.getElem_cons_succ, List.getElem_cons_zero, List.setIfInBounds_toArray, List.set_cons_zero, List.set_cons_succ]
            refine S_take (i := 11) (v := undef) rfl rfl (by kernel_rfl) (by kernel_rfl) (by kernel_rfl) (fun _ _ _ h => h) (Or.inr ⟨by rfl, rfl⟩) hS ?_
            simp only [Act.put, List.getElem_toArray, List.getElem_cons_succ, List.getElem_cons_zero, List.setIfInBounds_toArray, List.set_cons_zero, List.set_cons_succ]
            refine S_take (i := 12) (v := undef) rfl rfl (by kernel_rfl) (by kernel_rfl) (by kernel_rfl) (fun _ _ _ h => h) (Or.inr ⟨by rfl, rfl⟩) hS ?_
            simp only [Act.put, List.getElem_toArray, List.getElem_cons_succ, List.getElem_cons_zero, List.setIfInBounds_toArray, List.set_cons_zero, List.set_cons_succ]
            refine S_take (i := 13) (v := undef) rfl rfl (by kernel_rfl) (by kernel_rfl) (by kernel_rfl) (fun _ _ _ h => h) (Or.inr ⟨by rfl, rfl⟩) hS ?_
            simp only [Act.put, List.getElem_toArray, List.getElem_cons_succ, List.getElem_cons_zero, List.setIfInBounds_toArray, List.set_cons_zero, List.set_cons_succ]
            refine S_take (i := 14) (v := undef) rfl rfl (by kernel_rfl) (by kernel_rfl) (by kernel_rfl) (fun _ _ _ h => h) (Or.inr ⟨by rfl, rfl⟩) hS ?_
            simp only [Act.put, List.getElem_toArray, List.getElem_cons_succ, List.getElem_cons_zero, List.setIfInBounds_toArray, List.set_cons_zero, List.set_cons_succ]
            refine S_take (i := 15) (v := undef) rfl rfl (by kernel_rfl) (by kernel_rfl) (by kernel_rfl) (fun _ _ _ h => h) (Or.inr ⟨by rfl, rfl⟩) hS ?_
            simp only [Act.put, List.getElem_toArray, List.getElem_cons_succ, List.getElem_cons_zero, List.setIfInBounds_toArray, List.set_cons_zero, List.set_cons_succ]
            refine S_take (i := 16) (v := .bool true) rfl rfl (by kernel_rfl) (by kernel_rfl) (by kernel_rfl) (fun _ _ _ h => h) (Or.inl ⟨by rfl, fun W hw => by go_simp⟩) hS ?_
            simp only [Act.put, List.getElem_toArray, List.getElem_cons_succ, List.getElem_cons_zero, List.setIfInBounds_toArray, List.set_cons_zero, List.set_cons_succ]
            refine L_done (by kernel_rfl) ?_
            refine NoPanic.normal ?_
            have HNO : Hid (¬ DOk9 b) := Lib.hid fun h => by have h1 := HBG.out.2 (by rw [HQV.out.1]; exact h.2.1); rw [hbgv] at h1; cases h1
            have KR := HRS.out _ hS
            have HS9 := Lib.hid hS
            clear hS
            go_wp2_with (have _h := KR; refine wpList_storeq rfl 25 (.tmp 2) (.tmp 66) rfl w.heap.size #[.bool false, .slice none 0 0, .int .i64 0, .slice none 0 0] [.bool false, .slice none 0 0, .int .i64 0, .slice none 0 0] rfl rfl KR rfl (by kernel_rfl) (OA.cs_one ⟨false, [], none, 0, 0, none, 0, []⟩) ?_; clear _h KR; intro W99 K99 ho9 hs9)
            refine bodyPost_ret (results_cell_tmp9 rfl _ _ w.heap.size 25 #[.bool false, .slice none 0 0, .int .i64 0, .slice none 0 0] (0, 0) _ _ rfl rfl K99 Try.underlying25 rfl (by kernel_rfl)) rfl ?_
            have hb9 := HD.out.bel.trans (HS9.out.mono HD.out.bel.size)
            exact ⟨hb9.trans (ho9.below (B := w.heap.size) (fun x hx => by simp at hx; omega) hb9.size), .inr ⟨HNO.out, rfl⟩⟩
        · have HNE : Hid (((strOf (putV q.v)).toList == (strOf b).toList) = false ∧ ((strOf (putV q.v)).toList != (strOf b).toList) = true) := Lib.hid (by
            have h1 : ((strOf (putV q.v)).toList == (strOf b).toList) = false := by
              rw [Bool.eq_false_iff, ne_eq, beq_iff_eq, ByteArray.toList_eq, ByteArray.toList_eq]
              exact fun e => hpe (strOf_inj HLT.out HSB.out (Go.WideShapes.bytes_inj e))
            exact ⟨h1, by unfold bne; rw [h1]; rfl⟩)
          have HNO : Hid (¬ DOk9 b) := Lib.hid fun h => hpe (by rw [HQV.out.1]; exact h.2.2)
          clear hpe
          go_upto_region 12 with (fail)
          have hS : Below wr.heap.size wr wr.drew := (Below.refl _ wr).drew
          refine any_beginL (fun W' => Below wr.heap.size wr W') 99 (by kernel_rfl) ?_
          refine S_take (i := 0) (v := .pointer (some ⟨gr, 0, none⟩)) rfl rfl (by kernel_rfl) (by kernel_rfl) (by kernel_rfl) (fun _ _ _ h => h) (Or.inl ⟨by rfl, fun W hw => by go_simp⟩) hS ?_
          simp only [Act.put, List.getElem_toArray, List.getElem_cons_succ, List.getElem_cons_zero, List.setIfInBounds_toArray, List.set_cons_zero, List.set_cons_succ]
          refine S_take (i := 1) (v := .pointer (some ⟨gr, 0, none⟩)) rfl rfl (by kernel_rfl) (by kernel_rfl) (by kernel_rfl) (fun _ _ _ h => h) (Or.inl ⟨by rfl, fun W hw => by go_simp⟩) hS ?_
          simp only [Act.put, List.getElem_toArray, List.getElem_cons_succ, List.getElem_cons_zero, List.setIfInBounds_toArray, List.set_cons_zero, List.set_cons_succ]
          refine S_take (i := 2) (v := .pointer (some ⟨gr, 1, none⟩)) rfl rfl (by kernel_rfl) (by kernel_rfl) (by kernel_rfl) (fun _ _ _ h => h) (Or.inl ⟨by rfl, fun W hw => by go_simp⟩) hS ?_
          simp only [Act.put, List.getElem_toArray, List.getElem_cons_succ, List.getElem_cons_zero, List.setIfInBounds_toArray, List.set_cons_zero, List.set_cons_succ]
          refine S_take (i := 3) (v := .bool false) rfl rfl (by kernel_rfl) (by kernel_rfl) (by kernel_rfl) (fun _ _ _ h => h) (Or.inl ⟨by rfl, fun W hw => by have k0 : W.cell? ⟨gr, 1, none⟩ = some (.bool false) := (HRD.out W hw).cell 1; go_simp⟩) hS ?_
          simp only [Act.put, List.getElem_toArray, List.getElem_cons_succ, List.getElem_cons_zero, List.setIfInBounds_toArray, List.set_cons_zero, List.set_cons_succ]
          refine S_take (i := 4) (v := .bool false) rfl rfl (by kernel_rfl) (by kernel_rfl) (by kernel_rfl) (fun _ _ _ h => h) (Or.inl ⟨by rfl, fun W hw => by go_simp⟩) hS ?_
          simp only [Act.put, List.getElem_toArray, List.getElem_cons_succ, List.getElem_cons_zero, List.setIfInBounds_toArray, List.set_cons_zero, List.set_cons_succ]
          refine S_take (i := 5) (v := .agg #[.bool q.th, .slice q.D q.dt.length q.cd, .int .i64 q.sq, .slice q.C q.cl.length q.cc]) rfl rfl (by kernel_rfl) (by kernel_rfl) (by kernel_rfl) (fun _ _ _ h => h) (Or.inl ⟨by rfl, fun W hw => by have k0 : W.cell? ⟨g, 0, none⟩ = some (.bool q.th) := (HOB.out W hw).cell 0; have k1 : W.cell? ⟨g, 1, none⟩ = some (.slice q.D q.dt.length q.cd) := (HOB.out W hw).cell 1; have k2 : W.cell? ⟨g, 2, none⟩ = some (.int .i64 q.sq) := (HOB.out W hw).cell 2; have k3 : W.cell? ⟨g, 3, none⟩ = some (.slice q.C q.cl.length q.cc) := (HOB.out W hw).cell 3; go_simp⟩) hS ?_
          simp only [Act.put, List.getElem_toArray, List.getElem_cons_succ, List.getElem_cons_zero, List.setIfInBounds_toArray, List.set_cons_zero, List.set_cons_succ]
          refine L_one (j := 6) (by kernel_rfl) rfl (by rfl) ?_
          simp only [Act.put, List.getElem_toArray, List.getElem_cons_succ, List.getElem_cons_zero, List.setIfInBounds_toArray, List.set_cons_zero, List.set_cons_succ]
          refine wp_called (by go_simp) (HGD.out _ hS) ?_
          rintro e W6 ⟨bg, rfl, hbg, b9⟩
          have hS : Below wr.heap.size wr W6 := hS.trans (b9.mono hS.size)
          clear b9
          have HBG := Lib.hid hbg
          clear hbg
          refine ⟨_, rfl, hS, ?_⟩
          simp only [Act.put, List.getElem_toArray, List.getElem_cons_succ, List.getElem_cons_zero, List.setIfInBounds_toArray, List.set_cons_zero, List.set_cons_succ]
          cases hbgv : bg with
          | true =>
            refine S_take (i := 7) (v := .bool false) rfl rfl (by kernel_rfl) (by kernel_rfl) (by kernel_rfl) (fun _ _ _ h => h) (Or.inl ⟨by rfl, fun W hw => by go_simp⟩) hS ?_
            simp only [Act.put, List.getElem_toArray, List.getElem_cons_succ, List.getElem_cons_zero, List.setIfInBounds_toArray, List.set_cons_zero, List.set_cons_succ]
            refine S_take (i := 8) (v := .bool false) rfl rfl (by kernel_rfl) (by kernel_rfl) (by kernel_rfl) (fun _ _ _ h => h) (Or.inl ⟨by rfl, fun W hw => by go_simp⟩) hS ?_
            simp only [Act.put, List.getElem_toArray, List.getElem_cons_succ, List.getElem_cons_zero, List.setIfInBounds_toArray, List.set_cons_zero, List.set_cons_succ]
            refine S_take (i := 9) (v := .bool false) rfl rfl (by kernel_rfl) (by kernel_rfl) (by kernel_rfl) (fun _ _ _ h => h) (Or.inl ⟨by rfl, fun W hw => by go_simp⟩) hS ?_
            simp only [Act.put, List.getElem_toArray, List.getElem_cons_succ, List.getElem_cons_zero, List.setIfInBounds_toArray, List.set_cons_zero, List.set_cons_succ]
            refine S_take (i := 10) (v := .agg #[.bool q.th, .slice q.D q.dt.length q.cd, .int .i64 q.sq, .slice q.C q.cl.length q.cc]) rfl rfl (by kernel_rfl) (by kernel_rfl) (by kernel_rfl) (fun _ _ _ h => h) (Or.inl ⟨by rfl, fun W hw => by have k0 : W.cell? ⟨g, 0, none⟩ = some (.bool q.th) := (HOB.out W hw).cell 0; have k1 : W.cell? ⟨g, 1, none⟩ = some (.slice q.D q.dt.length q.cd) := (HOB.out W hw).cell 1; have k2 : W.cell? ⟨g, 2, none⟩ = some (.int .i64 q.sq) := (HOB.out W hw).cell 2; have k3 : W.cell? ⟨g, 3, none⟩ = some (.slice q.C q.cl.length q.cc) := (HOB.out W hw).cell 3; go_simp⟩) hS ?_
            simp only [Act.put, List.getElem_toArray, List.getElem_cons_succ, List.getElem_cons_zero, List.setIfInBounds_toArray, List.set_cons_zero, List.set_cons_succ]
            refine S_take (i := 13) (v := .slice A0 b.length c) rfl rfl (by kernel_rfl) (by kernel_rfl) (by kernel_rfl) (fun _ _ _ h => h) (Or.inl ⟨by rfl, fun W hw => by go_simp⟩) hS ?_
            simp only [Act.put, List.getElem_toArray, List.getElem_cons_succ, List.getElem_cons_zero, List.setIfInBounds_toArray, List.set_cons_zero, List.set_cons_succ]
            refine S_take (i := 14) (v := .string (strOf b)) rfl rfl (by kernel_rfl) (by kernel_rfl) (by kernel_rfl) (fun _ _ _ h => h) (Or.inl ⟨by rfl, fun W hw => by have k9 := str_of (P := Try.prog) (HBY.out W hw) c 22 9 5 Try.underlying22 Try.underlying5 Try.underlying9; go_simp⟩) hS ?_
            simp only [Act.put, List.getElem_toArray, List.getElem_cons_succ, List.getElem_cons_zero, List.setIfInBounds_toArray, List.set_cons_zero, List.set_cons_succ]
            refine L_one (j := 11) (by kernel_rfl) rfl (by rfl) ?_
            simp only [Act.put, List.getElem_toArray, List.getElem_cons_succ, List.getElem_cons_zero, List.setIfInBounds_toArray, List.set_cons_zero, List.set_cons_succ]
            refine wp_called (by go_simp) (HPT.out _ hS) ?_
            rintro e W11 ⟨A9, c9, rfl, ho9, b9⟩
            have hS : Below wr.heap.size wr W11 := hS.trans (b9.mono hS.size)
            clear b9
            refine ⟨_, rfl, hS, ?_⟩
            simp only [Act.put, List.getElem_toArray, List.getElem_cons_succ, List.getElem_cons_zero, List.setIfInBounds_toArray, List.set_cons_zero, List.set_cons_succ]
            refine L_one (j := 12) (by kernel_rfl) rfl (by rfl) ?_
            simp only [Act.put, List.getElem_toArray, List.getElem_cons_succ, List.getElem_cons_zero, List.setIfInBounds_toArray, List.set_cons_zero, List.set_cons_succ]
            have k9 := str_of (P := Try.prog) (ho9.bytes HLT.out) c9 22 9 5 Try.underlying22 Try.underlying5 Try.underlying9
            refine wp_ran (v := .string (strOf (putV q.v))) (w' := W11) (by go_simp) ⟨hS, ?_⟩
            simp only [Act.put, List.getElem_toArray, List.getElem_cons_succ, List.getElem_cons_zero, List.setIfInBounds_toArray, List.set_cons_zero, List.set_cons_succ]
            clear k9
            refine S_take (i := 15) (v := .bool true) rfl rfl (by kernel_rfl) (by kernel_rfl) (by kernel_rfl) (fun _ _ _ h => h) (Or.inl ⟨by rfl, fun W hw => by have k9 := HNE.out.1; have k8 := HNE.out.2; go_simp⟩) hS ?_
            simp only [Act.put, List.getElem_toArray, List.getElem_cons_succ, List.getElem_cons_zero, List.setIfInBounds_toArray, List.set_cons_zero, List.set_cons_succ]
            refine S_take (i := 16) (v := .bool true) rfl rfl (by kernel_rfl) (by kernel_rfl) (by kernel_rfl) (fun _ _ _ h => h) (Or.inl ⟨by rfl, fun W hw => by go_simp⟩) hS ?_
            simp only [Act.put, List.getElem_toArray, List.getElem_cons_succ, List.getElem_cons_zero, List.setIfInBounds_toArray, List.set_cons_zero, List.set_cons_succ]
            refine L_done (by kernel_rfl) ?_
            refine NoPanic.normal ?_
            have KR := HRS.out _ hS
            have HS9 := Lib.hid hS
            clear hS
            go_wp2_with (have _h := KR; refine wpList_storeq rfl 25 (.tmp 2) (.tmp 66) rfl w.heap.size #[.bool false, .slice none 0 0, .int .i64 0, .slice none 0 0] [.bool false, .slice none 0 0, .int .i64 0, .slice none 0 0] rfl rfl KR rfl (by kernel_rfl) (OA.cs_one ⟨false, [], none, 0, 0, none, 0, []⟩) ?_; clear _h KR; intro W99 K99 ho9 hs9)
            refine bodyPost_ret (results_cell_tmp9 rfl _ _ w.heap.size 25 #[.bool false, .slice none 0 0, .int .i64 0, .slice none 0 0] (0, 0) _ _ rfl rfl K99 Try.underlying25 rfl (by kernel_rfl)) rfl ?_
            have hb9 := HD.out.bel.trans (HS9.out.mono HD.out.bel.size)
            exact ⟨hb9.trans (ho9.below (B := w.heap.size) (fun x hx => by simp at hx; omega) hb9.size), .inr ⟨HNO.out, rfl⟩⟩
          | false =>
            refine S_take (i := 7) (v := .bool true) rfl rfl (by kernel_rfl) (by kernel_rfl) (by kernel_rfl) (fun _ _ _ h => h) (Or.inl ⟨by rfl, fun W hw => by go_simp⟩) hS ?_
            simp only [Act.put, List.getElem_toArray, List.getElem_cons_succ, List.getElem_cons_zero, List.setIfInBounds_toArray, List.set_cons_zero, List.set_cons_succ]
            refine S_take (i := 8) (v := .bool true) rfl rfl (by kernel_rfl) (by kernel_rfl) (by kernel_rfl) (fun _ _ _ h => h) (Or.inl ⟨by rfl, fun W hw => by go_simp⟩) hS ?_
            simp only [Act.put, List.getElem_toArray, List.getElem_cons_succ, List.getElem_cons_zero, List.setIfInBounds_toArray, List.set_cons_zero, List.set_cons_succ]
            refine S_take (i := 9) (v := .bool true) rfl rfl (by kernel_rfl) (by kernel_rfl) (by kernel_rfl) (fun _ _ _ h => h) (Or.inl ⟨by rfl, fun W hw => by go_simp⟩) hS ?_
            simp only [Act.put, List.getElem_toArray, List.getElem_cons_succ, List.getElem_cons_zero, List.setIfInBounds_toArray, List.set_cons_zero, List.set_cons_succ]
            refine S_take (i := 10) (v := undef) rfl rfl (by kernel_rfl) (by kernel_rfl) (by kernel_rfl) (fun _ _ _ h => h) (Or.inr ⟨by rfl, rfl⟩) hS ?_
            simp only [Act.put, List.getElem_toArray, List.getElem_cons_succ, List.getElem_cons_zero, List.setIfInBounds_toArray, List.set_cons_zero, List.set_cons_succ]
            refine S_take (i := 11) (v := undef) rfl rfl (by kernel_rfl) (by kernel_rfl) (by kernel_rfl) (fun _ _ _ h => h) (Or.inr ⟨by rfl, rfl⟩) hS ?_
            simp only [Act.put, List.getElem_toArray, List.getElem_cons_succ, List.getElem_cons_zero, List.setIfInBounds_toArray, List.set_cons_zero, List.set_cons_succ]
            refine S_take (i := 12) (v := undef) rfl rfl (by kernel_rfl) (by kernel_rfl) (by kernel_rfl) (fun _ _ _ h => h) (Or.inr ⟨by rfl, rfl⟩) hS ?_
            simp only [Act.put, List.getElem_toArray, List.getElem_cons_succ, List.getElem_cons_zero, List.setIfInBounds_toArray, List.set_cons_zero, List.set_cons_succ]
            refine S_take (i := 13) (v := undef) rfl rfl (by kernel_rfl) (by kernel_rfl) (by kernel_rfl) (fun _ _ _ h => h) (Or.inr ⟨by rfl, rfl⟩) hS ?_
            simp only [Act.put, List.getElem_toArray, List.getElem_cons_succ, List.getElem_cons_zero, List.setIfInBounds_toArray, List.set_cons_zero, List.set_cons_succ]
            refine S_take (i := 14) (v := undef) rfl rfl (by kernel_rfl) (by kernel_rfl) (by kernel_rfl) (fun _ _ _ h => h) (Or.inr ⟨by rfl, rfl⟩) hS ?_
            simp only [Act.put, List.getElem_toArray, List.getElem_cons_succ, List.getElem_cons_zero, List.setIfInBounds_toArray, List.set_cons_zero, List.set_cons_succ]
            refine S_take (i := 15) (v := undef) rfl rfl (by kernel_rfl) (by kernel_rfl) (by kernel_rfl) (fun _ _ _ h => h) (Or.inr ⟨by rfl, rfl⟩) hS ?_
            simp only [Act.put, List.getElem_toArray, List.getElem_cons_succ, List.getElem_cons_zero, List.setIfInBounds_toArray, List.set_cons_zero, List.set_cons_succ]
            refine S_take (i := 16) (v := .bool true) rfl rfl (by kernel_rfl) (by kernel_rfl) (by kernel_rfl) (fun _ _ _ h => h) (Or.inl ⟨by rfl, fun W hw => by go_simp⟩) hS ?_
            simp only [Act.put, List.getElem_toArray, List.getElem_cons_succ, List.getElem_cons_zero, List.setIfInBounds_toArray, List.set_cons_zero, List.set_cons_succ]
            refine L_done (by kernel_rfl) ?_
            refine NoPanic.normal ?_
            have KR := HRS.out _ hS
            have HS9 := Lib.hid hS
            clear hS
            go_wp2_with (have _h := KR; refine wpList_storeq rfl 25 (.tmp 2) (.tmp 66) rfl w.heap.size #[.bool false, .slice none 0 0, .int .i64 0, .slice none 0 0] [.bool false, .slice none 0 0, .int .i64 0, .slice none 0 0] rfl rfl KR rfl (by kernel_rfl) (OA.cs_one ⟨false, [], none, 0, 0, none, 0, []⟩) ?_; clear _h KR; intro W99 K99 ho9 hs9)
            refine bodyPost_ret (results_cell_tmp9 rfl _ _ w.heap.size 25 #[.bool false, .slice none 0 0, .int .i64 0, .slice none 0 0] (0, 0) _ _ rfl rfl K99 Try.underlying25 rfl (by kernel_rfl)) rfl ?_
            have hb9 := HD.out.bel.trans (HS9.out.mono HD.out.bel.size)
            exact ⟨hb9.trans (ho9.below (B := w.heap.size) (fun x hx => by simp at hx; omega) hb9.size), .inr ⟨HNO.out, rfl⟩⟩
end Go.Proofs.Yteghbfkkpnlilaa

/-
  snap.Take on any bytes: the object that they are, or an error. Condition: no more than seven thousand bytes.
-/
namespace Go.Proofs.Yteghbfkkpnlilaa
open Go.RowKit Go.BigFrame
set_option linter.unusedSimpArgs false
set_option linter.unusedVariables false
set_option maxRecDepth 100000
def STakeTo (w : World) (b : List Nat) (e : Ending) (w' : World) : Prop :=
  Below w.heap.size w w' ∧ ((SOk b ∧ ∃ q : OA, e = .returned (.tuple #[.agg q.cs, .nilIface]) ∧ q.v = (⟨b, false⟩ : RD).sov ∧ q.N w' w.heap.size) ∨ (¬ SOk b ∧ e = .returned (.tuple #[.agg #[.bool false, .slice none 0 0, .int .i64 0, .slice none 0 0], errV 2])))
theorem scL_go (k : Nat) (s : RD) (h : 0 < k) : RD.scL k s = s.scl :: RD.scL (k - 1) s.sclTo := by
  obtain ⟨j, rfl⟩ : ∃ j, k = j + 1 := ⟨k - 1, by omega⟩
  rfl
set_option maxHeartbeats 16000000 in
theorem stake_any {w : World} (b : List Nat) (A : Option Addr) (c : Nat) (hb : Bytes w w.heap.size A b.length b) (hn : b.length ≤ 7000) :
    Calls Try.prog 32 #[.slice A b.length c] w (STakeTo w b) := by
  have HB := Lib.hid hb
  have hzo := obj_zero9
  obtain ⟨w0, hw0⟩ : ∃ w0, w0 = w.alloc (.cells #[.bool false, .slice none 0 0, .int .i64 0, .slice none 0 0] 36) := ⟨_, rfl⟩
  have hb0 : Below w.heap.size w w0 := by rw [hw0]; exact below_alloc w _
  have hz0 : w0.heap.size = w.heap.size + 1 := by rw [hw0]; simp
  have K0 : Blk w0 w.heap.size 36 #[.bool false, .slice none 0 0, .int .i64 0, .slice none 0 0] := by rw [hw0]; exact Blk.new w _ _
  have H0 := Lib.hid (And.intro hb0 (And.intro hz0 K0))
  have HWE := Lib.hid hw0
  obtain ⟨s0, hs0⟩ : ∃ s : RD, s = ⟨b, false⟩ := ⟨_, rfl⟩
  obtain ⟨u1, hu1⟩ : ∃ s, s = s0.o1 := ⟨_, rfl⟩
  obtain ⟨u2, hu2⟩ : ∃ s, s = s0.o2 := ⟨_, rfl⟩
  obtain ⟨u3, hu3⟩ : ∃ s, s = s0.o3 := ⟨_, rfl⟩
  obtain ⟨u4, hu4⟩ : ∃ s, s = s0.o4 := ⟨_, rfl⟩
  obtain ⟨th, hth⟩ : ∃ x, x = s0.flag := ⟨_, rfl⟩
  obtain ⟨dt, hdt⟩ : ∃ x, x = u1.bytes := ⟨_, rfl⟩
  obtain ⟨sq, hsq⟩ : ∃ x, x = u2.num := ⟨_, rfl⟩
  obtain ⟨N, hN⟩ : ∃ x, x = u3.num := ⟨_, rfl⟩
  obtain ⟨M, hM⟩ : ∃ M, M = (min N 16).toNat := ⟨_, rfl⟩
  have l0 : s0.bs.length ≤ 7000 := by rw [hs0]; exact hn
  have l1 : u1.bs.length ≤ 7000 := by rw [hu1]; exact Nat.le_trans (flagTo_ln9 _) l0
  have l4 : u4.bs.length ≤ 7000 := by rw [hu4]; exact Nat.le_trans (o4_ln9 _) l0
  have hsqr : -9223372036854775808 ≤ sq ∧ sq ≤ 9223372036854775807 := by rw [hsq]; exact num_range _
  have hNr : -9223372036854775808 ≤ N ∧ N ≤ 9223372036854775807 := by rw [hN]; exact num_range _
  have HL := Lib.hid (And.intro l0 (And.intro l1 l4))
  have HSQ := Lib.hid hsqr
  have HV : Hid ((⟨b, false⟩ : RD).sov = ⟨th, dt, sq, RD.scL M u4⟩) := Lib.hid (by rw [hth, hdt, hsq, hM, hN, hu1, hu2, hu3, hu4, hs0]; rfl)
  have HU1 : Hid (s0.flagTo = u1 ∧ s0.flag = th) := Lib.hid ⟨hu1.symm, hth.symm⟩
  have HU2 : Hid (u1.bytesTo = u2 ∧ u1.bytes = dt) := Lib.hid ⟨by rw [hu2, hu1]; rfl, hdt.symm⟩
  have HU3 : Hid (u2.take 8 = u3 ∧ u2.num = sq) := Lib.hid ⟨by rw [hu3, hu2]; rfl, hsq.symm⟩
  have HU4 : Hid (u3.take 8 = u4 ∧ u3.num = N) := Lib.hid ⟨by rw [hu4, hu3]; rfl, hN.symm⟩
  have HS0 := Lib.hid hs0
  have HM := Lib.hid hM
  have HNB := Lib.hid hn
  clear hb hb0 hz0 K0 hw0 hs0 hu1 hu2 hu3 hu4 hth hdt hsq hN hM l0 l1 l4 hsqr hn
  go_enter Try.func32, Try.ntmps32
  go_wp2_with fail
  rw [← HWE.out]
  clear HWE
  refine (newr_any A b.length c b w0 _ (by have := HNB.out; omega) ((HB.out.since H0.out.1).more (Nat.le_refl _))).mono ?_
  rintro e w1 ⟨gr, F1, rfl, R1, b1⟩
  rw [H0.out.2.1, ← HS0.out] at R1
  have hbs : w.heap.size + 1 ≤ w1.heap.size := by have := H0.out.2.1; have := b1.size; omega
  have HR1 := Lib.hid (And.intro R1 b1)
  clear R1 b1
  go_wp2_with fail
  refine (rflag_any w1 (w.heap.size + 1) F1 _ _ HR1.out.1 hbs).mono ?_
  rintro e w2 ⟨rfl, F2, R2, o2, f2⟩
  rw [HU1.out.1] at R2
  rw [HU1.out.2]
  have HR2 := Lib.hid (And.intro R2 (And.intro o2 f2))
  have hbs2 : w.heap.size + 1 ≤ w2.heap.size := Nat.le_trans hbs o2.size
  clear R2 o2 f2
  go_wp2_with fail
  refine (rbytes_any w2 (w.heap.size + 1) F2 _ _ HR2.out.1 hbs2 (by have := HL.out.2.1; omega)).mono ?_
  rintro e w3 ⟨v3, F3, rfl, ow3, R3, o3, f3, lt3, ap3⟩
  rw [HU2.out.2] at ow3 lt3
  rw [HU2.out.1] at R3
  obtain ⟨D3, cd3, rfl, -⟩ := ow3.form
  have HR3 := Lib.hid (And.intro ow3 (And.intro R3 (And.intro o3 (And.intro f3 (And.intro lt3 ap3)))))
  have hbs3 : w.heap.size + 1 ≤ w3.heap.size := Nat.le_trans hbs2 o3.size
  clear ow3 R3 o3 f3 lt3 ap3
  go_wp2_with fail
  refine (rnum_any w3 (w.heap.size + 1) F3 _ _ HR3.out.2.1 hbs3).mono ?_
  rintro e w4 ⟨rfl, F4, R4, o4, f4⟩
  rw [HU3.out.1] at R4
  rw [HU3.out.2]
  have HR4 := Lib.hid (And.intro R4 (And.intro o4 f4))
  clear R4 o4 f4
  have hbs4 : w.heap.size + 1 ≤ w4.heap.size := Nat.le_trans hbs3 HR4.out.2.1.size
  obtain ⟨w5, hw5⟩ : ∃ w5, w5 = w4.alloc (.cells #[.bool th, .slice D3 dt.length cd3, .int .i64 sq, .slice none 0 0] 36) := ⟨_, rfl⟩
  obtain ⟨g, hg⟩ : ∃ g, g = w4.heap.size := ⟨_, rfl⟩
  have HT5 : Hid (Tkr w ⟨th, dt, D3, cd3, sq, none, 0, []⟩ g (some ⟨gr, 0, none⟩) F4 u3 w5) := Lib.hid (by
    rw [hw5, hg]
    have hb5 := below_alloc w4 (.cells #[.bool th, .slice D3 dt.length cd3, .int .i64 sq, .slice none 0 0] 36)
    obtain ⟨R1, b1⟩ := HR1.out
    obtain ⟨R2, o2, f2⟩ := HR2.out
    obtain ⟨ow3, R3, o3, f3, lt3, ap3⟩ := HR3.out
    obtain ⟨R4, o4, f4⟩ := HR4.out
    have ow4 : Own w4 w2.heap.size (.slice D3 dt.length cd3) dt.length dt := row_of ow3 fun k hk => o4.block k (row_under ow3 k hk) (ap3 k (mem_rowOf.1 hk))
    have res1 := H0.out.2.2.of (b1.block _ (by have := H0.out.2.1; omega))
    have nF : ∀ {F : List Nat} {wx : World} {s : RD}, Rd wx (w.heap.size + 1) F (some ⟨gr, 0, none⟩) s → w.heap.size ∉ F := fun hr hm => by have := hr.over _ hm; omega
    have res2 := res1.of (o2.block _ res1.lt (nF R1))
    have res3 := res2.of (o3.block _ res2.lt (nF R2))
    have res4 := res3.of (o4.block _ res3.lt (nF R3))
    have bel1 : Below w.heap.size w w1 := H0.out.1.trans (b1.mono H0.out.1.size)
    have ov : ∀ {F : List Nat} {wx : World} {s : RD}, Rd wx (w.heap.size + 1) F (some ⟨gr, 0, none⟩) s → Over w.heap.size F := fun hr k hm => by have := hr.over _ hm; omega
    have bel2 := bel1.trans (o2.below (ov R1) bel1.size)
    have bel3 := bel2.trans (o3.below (ov R2) bel2.size)
    have bel4 := bel3.trans (o4.below (ov R3) bel3.size)
    refine ⟨Blk.new w4 _ _, res4.alloc _, ⟨?_, lt3, OwnC.nil _ _ _, fun c hc => (by cases hc), HSQ.out.1, HSQ.out.2, List.pairwise_singleton _ _, List.Pairwise.nil⟩, R4.below hb5, bel4.alloc bel4.size _, hbs4, fun hm => by have := R4.under _ hm; omega, fun k hk hm => ?_, fun k hk => by simp [rowOf, Value.ownBlock] at hk, fun c hc => (by cases hc)⟩
    · exact (ow4.weaken hbs2).alloc _
    · rw [row_slice _ 0 0 dt.length cd3] at hk
      rcases f4 k hm with h' | h'
      · exact ap3 k (mem_rowOf.1 hk) h'
      · have := row_under ow3 k hk; omega)
  go_wp2_with fail
  rw [← hw5, ← hg]
  have hbs5 : w.heap.size + 1 ≤ w5.heap.size := by rw [hw5]; simp; omega
  clear hw5 hg HR1 HR2 HR3 HR4 H0 hbs hbs2 hbs3 hbs4
  refine (rnum_any w5 (w.heap.size + 1) F4 _ _ HT5.out.rd hbs5).mono ?_
  rintro e w6 ⟨rfl, F6, R6, o6, f6⟩
  rw [HU4.out.1] at R6
  rw [HU4.out.2]
  have HT6 := Lib.hid (HT5.out.read R6 o6 f6)
  clear R6 o6 f6 HT5 hbs5
  have HMN : Hid ((N ≤ 16 → (M : Int) = max N 0) ∧ (16 < N → M = 16)) := Lib.hid (by have := HM.out; omega)
  rcases (by omega : N ≤ 16 ∨ 16 < N) with h16 | h16
  all_goals
    first
      | have hd16 : decide (16 < N) = false := decide_eq_false (by omega)
      | have hd16 : decide (16 < N) = true := decide_eq_true h16
    go_wp2
    go_loopw [20] (fun i wr => ∃ (k : Nat) (q : OA) (F : List Nat) (s : RD), k ≤ M ∧ i = .int .i64 k ∧ Tkr w q g (some ⟨gr, 0, none⟩) F s wr ∧ q.th = th ∧ q.dt = dt ∧ q.sq = sq ∧ q.cl.length = k ∧ RD.scL M u4 = q.cl.map CA.v ++ RD.scL (M - k) s ∧ s.bs.length ≤ 7000) (fun i _ => M - (intOf i).toNat)
    case atStart => exact ⟨0, _, F6, u4, by omega, rfl, HT6.out, rfl, rfl, rfl, rfl, rfl, HL.out.2.2⟩
    case round =>
      obtain ⟨k, q, F, s, hk, rfl, ht, hq1, hq2, hq3, hql, hq4, hsl⟩ := hrel
      have HT := Lib.hid (And.intro ht (And.intro hq1 (And.intro hq2 (And.intro hq3 (And.intro hql (And.intro hq4 hsl))))))
      clear ht hq1 hq2 hq3 hql hq4 hsl HT6
      by_cases hle : k < M
      · have hk16 : k < 16 := by have := HMN.out; omega
        have hwk : IntKind.i64.wrap ((k : Int) + 1) = (k : Int) + 1 := by rw [IntKind.wrap_i64]; omega
        first
          | have hlt : decide ((k : Int) < N) = true := decide_eq_true (by have := HMN.out.1 h16; omega)
          | have hlt : decide ((k : Int) < 16) = true := decide_eq_true (by omega)
        obtain ⟨sn, hsn⟩ : ∃ x, x = s.nums := ⟨_, rfl⟩
        obtain ⟨dtc, hdc⟩ : ∃ x, x = s.numsTo.bytes := ⟨_, rfl⟩
        have hgo := scL_go (M - k) s (by omega)
        have e1 : s.scl = ⟨sn, dtc⟩ := by rw [hsn, hdc]; rfl
        have hsr : ∀ x ∈ sn, -9223372036854775808 ≤ x ∧ x ≤ 9223372036854775807 := by rw [hsn]; exact nums_in9 s
        have HC := Lib.hid (And.intro hsn (And.intro hdc (And.intro hsr (And.intro HT.out.2.2.2.2.2.2 (And.intro hgo e1)))))
        clear hsn hdc hsr hgo e1
        go_wp2
        have hOB : Blk wr.drew g 36 #[.bool q.th, .slice q.D q.dt.length q.cd, .int .i64 q.sq, .slice q.C q.cl.length q.cc] := HT.out.1.blk.drew
        have hT0 := HT.out.1.next (below_drew9 wr)
        have hsz0 : w.heap.size + 1 ≤ wr.drew.heap.size := by
          have h1 := HT.out.1.blk.lt
          have h2 := HT.out.1.far
          show _ ≤ wr.heap.size
          omega
        have HC8 : Hid (∀ w' : World, Blk w' g 36 #[.bool q.th, .slice q.D q.dt.length q.cd, .int .i64 q.sq, .slice q.C q.cl.length q.cc] → w'.cell? ⟨g, 3, none⟩ = some (.slice q.C q.cl.length q.cc)) := Lib.hid fun w' h => h.cell 3
        obtain ⟨i2, hi2, hv0, hv1, hv2⟩ := info_parts scl_info
        have HT0 := Lib.hid hT0
        clear hT0
        refine any_beginL (fun w' => Blk w' g 36 #[.bool q.th, .slice q.D q.dt.length q.cd, .int .i64 q.sq, .slice q.C q.cl.length q.cc]) 10 (by kernel_rfl) ?_
        refine L_take (i := 0) (v := .pointer (some ⟨g, 3, none⟩)) rfl rfl (by kernel_rfl) (by kernel_rfl) (by kernel_rfl) (by kernel_rfl) (fun _ _ _ h => h) (Or.inl ⟨by rfl, fun w hw => by go_simp⟩) hOB ?_
        simp only [Act.put, List.getElem_toArray, List.getElem_cons_succ, List.getElem_cons_zero, List.setIfInBounds_toArray, List.set_cons_zero, List.set_cons_succ]
        refine L_take (i := 1) (v := .slice q.C q.cl.length q.cc) rfl rfl (by kernel_rfl) (by kernel_rfl) (by kernel_rfl) (by kernel_rfl) (fun _ _ _ h => h) (Or.inl ⟨by rfl, fun w hw => by have q1 := HC8.out w hw; go_simp⟩) hOB ?_
        simp only [Act.put, List.getElem_toArray, List.getElem_cons_succ, List.getElem_cons_zero, List.setIfInBounds_toArray, List.set_cons_zero, List.set_cons_succ]
        refine L_take (i := 2) (v := .pointer (some ⟨gr, 0, none⟩)) rfl rfl (by kernel_rfl) (by kernel_rfl) (by kernel_rfl) (by kernel_rfl) (fun _ _ _ h => h) (Or.inl ⟨by rfl, fun w hw => by kernel_rfl⟩) hOB ?_
        simp only [Act.put, List.getElem_toArray, List.getElem_cons_succ, List.getElem_cons_zero, List.setIfInBounds_toArray, List.set_cons_zero, List.set_cons_succ]
        refine L_take (i := 4) (v := .pointer (some ⟨gr, 0, none⟩)) rfl rfl (by kernel_rfl) (by kernel_rfl) (by kernel_rfl) (by kernel_rfl) (fun _ _ _ h => h) (Or.inl ⟨by rfl, fun w hw => by kernel_rfl⟩) hOB ?_
        simp only [Act.put, List.getElem_toArray, List.getElem_cons_succ, List.getElem_cons_zero, List.setIfInBounds_toArray, List.set_cons_zero, List.set_cons_succ]
        refine L_one (j := 3) (by kernel_rfl) rfl (by rfl) ?_
        simp only [Act.put, List.getElem_toArray, List.getElem_cons_succ, List.getElem_cons_zero, List.setIfInBounds_toArray, List.set_cons_zero, List.set_cons_succ]
        refine wp_called (by go_simp) (rnums_far wr.drew (w.heap.size + 1) F _ _ HT0.out.rd hsz0 (by have := HC.out.2.2.2.1; omega)) ?_
        rintro e W1 ⟨v1, F1', rfl, on1, R1', o1', f1', ap1⟩
        rw [← HC.out.1] at on1
        obtain ⟨A5, c5, rfl⟩ := on1.form2
        have hT1 := HT0.out.read R1' o1' f1'
        refine ⟨_, rfl, hT1.blk, ?_⟩
        simp only [Act.put, List.getElem_toArray, List.getElem_cons_succ, List.getElem_cons_zero, List.setIfInBounds_toArray, List.set_cons_zero, List.set_cons_succ]
        have hsz1 : w.heap.size + 1 ≤ W1.heap.size := Nat.le_trans hsz0 o1'.size
        refine L_one (j := 5) (by kernel_rfl) rfl (by rfl) ?_
        simp only [Act.put, List.getElem_toArray, List.getElem_cons_succ, List.getElem_cons_zero, List.setIfInBounds_toArray, List.set_cons_zero, List.set_cons_succ]
        refine wp_called (by go_simp) (rbytes_any W1 (w.heap.size + 1) F1' _ _ R1' hsz1 (by have := numsTo_ln9 s; have := HC.out.2.2.2.1; omega)) ?_
        rintro e W2 ⟨v2, F2', rfl, ow2, R2', o2', f2', lt2, ap2⟩
        rw [← HC.out.2.1] at ow2 lt2
        obtain ⟨A9, c9, rfl, -⟩ := ow2.form
        have hT2 := hT1.read R2' o2' f2'
        refine ⟨_, rfl, hT2.blk, ?_⟩
        simp only [Act.put, List.getElem_toArray, List.getElem_cons_succ, List.getElem_cons_zero, List.setIfInBounds_toArray, List.set_cons_zero, List.set_cons_succ]
        have on2 : OwnI W2 wr.drew.heap.size (.slice A5 sn.length c5) sn.length sn := row_of on1 fun k hk => o2'.block k (row_under on1 k hk) (ap1 k (mem_rowOf.1 hk))
        have hcN : CA.N (CA.mk sn dtc A5 c5 A9 c9) W2 wr.drew.heap.size := ⟨on2, ow2.weaken o1'.size, lt2, HC.out.2.2.1⟩
        have hcF : (∀ k ∈ CA.sR (CA.mk sn dtc A5 c5 A9 c9), k ∉ F2') ∧ ∀ k ∈ CA.dR (CA.mk sn dtc A5 c5 A9 c9), k ∉ F2' := by
          refine ⟨fun k hk hm => ?_, fun k hk => ap2 k ?_⟩
          · have hk' : (Value.slice A5 sn.length c5).ownBlock = some k := by
              have := mem_rowOf.1 hk
              rw [← this]
              cases A5 <;> rfl
            rcases f2' k hm with h' | h'
            · exact ap1 k hk' h'
            · have := row_under on1 k (mem_rowOf.2 hk')
              omega
          · have := mem_rowOf.1 hk
            rw [← this]
            cases A9 <;> rfl
        have hfs : ∀ a ∈ q.cl.map CA.sR, ∀ k ∈ a, k ∉ CA.sR (CA.mk sn dtc A5 c5 A9 c9) := fun a ha k hka hk => by
          obtain ⟨c0, hc0, rfl⟩ := List.mem_map.1 ha
          have h1 := ((HT0.out.own.cl c0 hc0).sU k hka).2.1
          have h2 := (hcN.sU k hk).1
          omega
        have hfd : ∀ a ∈ rowOf (.slice q.D 0 0) :: q.cl.map CA.dR, ∀ k ∈ a, k ∉ CA.dR (CA.mk sn dtc A5 c5 A9 c9) := fun a ha k hka hk => by
          have h2 := (hcN.dU k hk).1
          rcases List.mem_cons.1 ha with rfl | ha
          · have h1 := (OA.P.dU HT0.out.own k hka).2.1
            omega
          · obtain ⟨c0, hc0, rfl⟩ := List.mem_map.1 ha
            have h1 := ((HT0.out.own.cl c0 hc0).dU k hka).2.1
            omega
        refine L_one (j := 6) (by kernel_rfl) rfl (by rfl) ?_
        simp only [Act.put, List.getElem_toArray, List.getElem_cons_succ, List.getElem_cons_zero, List.setIfInBounds_toArray, List.set_cons_zero, List.set_cons_succ]
        refine wp_ran (v := .agg #[.slice A5 sn.length c5, .slice A9 dtc.length c9]) (w' := W2) (by kernel_rfl) ⟨hT2.blk, ?_⟩
        simp only [Act.put, List.getElem_toArray, List.getElem_cons_succ, List.getElem_cons_zero, List.setIfInBounds_toArray, List.set_cons_zero, List.set_cons_succ]
        have hbs := build_scl (CA.mk sn dtc A5 c5 A9 c9) W2
        simp only at hbs
        refine L_one (j := 7) (by kernel_rfl) rfl (by rfl) ?_
        simp only [Act.put, List.getElem_toArray, List.getElem_cons_succ, List.getElem_cons_zero, List.setIfInBounds_toArray, List.set_cons_zero, List.set_cons_succ]
        refine wp_ran (v := .slice (some ⟨W2.heap.size, 0, none⟩) 1 1) (w' := W2.alloc (.cells (CA.cells (CA.mk sn dtc A5 c5 A9 c9)).toArray 79)) (by go_simp <;> rfl) ⟨hT2.blk.alloc _, ?_⟩
        simp only [Act.put, List.getElem_toArray, List.getElem_cons_succ, List.getElem_cons_zero, List.setIfInBounds_toArray, List.set_cons_zero, List.set_cons_succ]
        have hrow1 := hT2.own.row
        rw [List.append_nil] at hrow1
        have hrow2 : OwnC 79 (W2.alloc (.cells (CA.cells (CA.mk sn dtc A5 c5 A9 c9)).toArray 79)) (w.heap.size + 1) (.slice q.C q.cl.length q.cc) q.cl := World.ownsRow.alloc hrow1 _
        have hql2 : q.cl.length ≤ 16 := by
          have := HT.out.2.2.2.2.1
          omega
        have hwsz := hT2.bel.size
        have hwsz2 : w.heap.size + 1 ≤ W2.heap.size := Nat.le_trans hsz1 o2'.size
        refine L_one (j := 8) (by kernel_rfl) rfl (by rfl) ?_
        simp only [Act.put, List.getElem_toArray, List.getElem_cons_succ, List.getElem_cons_zero, List.setIfInBounds_toArray, List.set_cons_zero, List.set_cons_succ]
        refine wp_append_any _ (.tmp 23) (.tmp 29) 34 rfl (w.heap.size + 1) 79 i2 _ 2 48 Try.underlying34 hi2 hv0 hv1 hv2 rfl (by omega) (.slice q.C q.cl.length q.cc) q.cl.length (q.cl.flatMap CA.cells) rfl hrow2 _ (some ⟨W2.heap.size, 0, none⟩) 1 1 ([(CA.mk sn dtc A5 c5 A9 c9)].flatMap CA.cells) rfl (one_cl W2 79 (CA.mk sn dtc A5 c5 A9 c9)) (cells_one _) (by simp only [maxLen]; omega) (by omega) (by simp; omega) ?_
        intro v3 w3' h3 g3' a3
        have h3' : OwnC 79 w3' (w.heap.size + 1) v3 (q.cl ++ [(CA.mk sn dtc A5 c5 A9 c9)]) := by unfold OwnC; rw [List.flatMap_append, List.length_append]; exact h3
        obtain ⟨A4, c4, rfl⟩ := h3'.form
        have S3 : Blk w3' g 36 #[.bool q.th, .slice q.D q.dt.length q.cd, .int .i64 q.sq, .slice q.C q.cl.length q.cc] := (hT2.blk.alloc _).grown g3' (fun e => own_blk_ne hrow2 (hT2.blk.alloc _) (by decide) e.symm)
        refine ⟨S3, ?_⟩
        simp only [Act.put, List.getElem_toArray, List.getElem_cons_succ, List.getElem_cons_zero, List.setIfInBounds_toArray, List.set_cons_zero, List.set_cons_succ]
        refine L_one (j := 9) (by kernel_rfl) rfl (by rfl) ?_
        simp only [Act.put, List.getElem_toArray, List.getElem_cons_succ, List.getElem_cons_zero, List.setIfInBounds_toArray, List.set_cons_zero, List.set_cons_succ]
        refine wp_ran (v := .pointer (some ⟨g, 3, none⟩)) (w' := w3') (by go_simp) ⟨S3, ?_⟩
        simp only [Act.put, List.getElem_toArray, List.getElem_cons_succ, List.getElem_cons_zero, List.setIfInBounds_toArray, List.set_cons_zero, List.set_cons_succ]
        refine L_last (by kernel_rfl) rfl (by rfl) (by kernel_rfl) ?_
        simp only [Act.put, List.getElem_toArray, List.getElem_cons_succ, List.getElem_cons_zero, List.setIfInBounds_toArray, List.set_cons_zero, List.set_cons_succ]
        refine wp_setq 34 (.tmp 31) (.tmp 30) rfl g 3 36 _ (.slice A4 (q.cl ++ [(CA.mk sn dtc A5 c5 A9 c9)]).length c4) rfl rfl S3 (by simp) (by kernel_rfl) rfl ?_
        intro w4' K4 ho4 hs4
        refine NoPanic.normal ?_
        simp only [Act.put, List.getElem_toArray, List.getElem_cons_succ, List.getElem_cons_zero, List.setIfInBounds_toArray, List.set_cons_zero, List.set_cons_succ]
        have HNEW := Lib.hid (hT2.more (hcN.weaken hsz0) hcF hfs hfd h3' g3' a3 ho4 (by simpa using K4))
        have HVS : Hid (RD.scL M u4 = (q.cl ++ [(CA.mk sn dtc A5 c5 A9 c9)]).map CA.v ++ RD.scL (M - (k + 1)) s.sclTo) := Lib.hid (by
          rw [HT.out.2.2.2.2.2.1, HC.out.2.2.2.2.1, HC.out.2.2.2.2.2, List.map_append, List.append_assoc]
          rfl)
        have HLN : Hid ((q.cl ++ [(CA.mk sn dtc A5 c5 A9 c9)]).length = k + 1 ∧ s.sclTo.bs.length ≤ 7000) := Lib.hid ⟨by rw [List.length_append, HT.out.2.2.2.2.1]; rfl, Nat.le_trans (sclTo_ln9 s) HC.out.2.2.2.1⟩
        clear K4 ho4 hs4 S3 h3 h3' g3' a3 hrow1 hrow2 hbs hfs hfd hcN hcF hT1 hT2 hi2 hv0 hv1 hv2 on1 on2 ow2 R1' R2' o1' o2' f1' f2' ap1 ap2 lt2
        go_wp2
        go_roundw
        case rel => exact ⟨k + 1, _, _, _, by omega, by go_num, HNEW.out, HT.out.2.1, HT.out.2.2.1, HT.out.2.2.2.1, HLN.out.1, HVS.out, HLN.out.2⟩
        case measure => simp [intOf]; omega
      · have HKL : Hid (k = M) := Lib.hid (by omega)
        first
          | have hlt : decide ((k : Int) < N) = false := decide_eq_false (by have := HMN.out.1 h16; omega)
          | have hlt : decide ((k : Int) < 16) = false := decide_eq_false (by have := HMN.out.2 h16; omega)
        have hqv : q.v = (⟨b, false⟩ : RD).sov := by
          rw [HV.out, HT.out.2.2.2.2.2.1, HKL.out, Nat.sub_self, RD.scL, List.append_nil, ← HT.out.2.1, ← HT.out.2.2.1, ← HT.out.2.2.2.1]
          rfl
        have hqR := HT.out.1.own.R
        have hqS : q.Sm := sov_sm HB.out.2 (by have := HNB.out; omega) hqv
        have HQ := Lib.hid (And.intro hqv (And.intro hqR hqS))
        have hsp := sput_any q hqR hqS
        have hcsq : q.cs = #[.bool q.th, .slice q.D q.dt.length q.cd, .int .i64 q.sq, .slice q.C q.cl.length q.cc] := rfl
        rw [hcsq] at hsp
        have HSP := Lib.hid hsp
        have K1 := HT.out.1.blk
        clear hqv hqR hqS hsp hcsq
        go_wp2_with (have _h := K1; refine wpList_loadq rfl 36 (.tmp 5) rfl g [.bool q.th, .slice q.D q.dt.length q.cd, .int .i64 q.sq, .slice q.C q.cl.length q.cc] _ rfl K1 Try.underlying36 rfl (by kernel_rfl) ?_; clear _h K1)
        refine HSP.out.mono ?_
        rintro e W7 ⟨b7, h7⟩
        rw [HQ.out.1] at h7
        rcases h7 with ⟨hgd, v7, rfl, ho7⟩ | ⟨hbad, rfl⟩
        · obtain ⟨A7, c7, rfl, -⟩ := ho7.form
          obtain ⟨tx, htx⟩ : ∃ tx, tx = putV (⟨b, false⟩ : RD).sov := ⟨_, rfl⟩
          rw [← htx] at ho7 ⊢
          have hpl : ∀ x ∈ tx, x < 256 := by rw [htx, ← HQ.out.1]; exact putV_lt9 HQ.out.2.1
          have HT7 := Lib.hid (HT.out.1.next b7)
          have HGD := Lib.hid (And.intro hgd htx)
          have HQ7 := Lib.hid (equal9 A7 A _ b.length c7 c _ _ tx b W7 (ho7.bytes hpl) (HB.out.since HT7.out.bel))
          have HB7 := Lib.hid b7
          clear ho7 hpl b7 hgd htx
          go_wp2_with fail
          refine HQ7.out.mono ?_
          rintro e W8 ⟨he, hw⟩
          subst he
          subst hw
          have K2 := HT7.out.blk
          have K3 := HT7.out.res
          by_cases hbe : tx = b
          · rw [show (tx == b) = true by simp [hbe]]
            have hok : SOk b := ⟨HGD.out.1, by rw [← HGD.out.2]; exact hbe⟩
            have HOK := Lib.hid hok
            clear hbe hok
            go_wp2_with (first
              | (have _h := K2; refine wpList_loadq rfl 36 (.tmp 5) rfl g [.bool q.th, .slice q.D q.dt.length q.cd, .int .i64 q.sq, .slice q.C q.cl.length q.cc] _ rfl K2 Try.underlying36 rfl (by kernel_rfl) ?_; clear _h K2)
              | (have _h := K3; refine wpList_storeq rfl 36 (.tmp 2) (.tmp 48) rfl w.heap.size #[.bool false, .slice none 0 0, .int .i64 0, .slice none 0 0] [.bool q.th, .slice q.D q.dt.length q.cd, .int .i64 q.sq, .slice q.C q.cl.length q.cc] rfl rfl K3 rfl (by kernel_rfl) (OA.cs_one q) ?_; clear _h K3; intro W9 K9 ho9 hs9))
            refine bodyPost_ret (results_cell_tmp9 rfl _ _ w.heap.size 36 #[.bool q.th, .slice q.D q.dt.length q.cd, .int .i64 q.sq, .slice q.C q.cl.length q.cc] (0, 0) _ _ rfl rfl K9 Try.underlying36 rfl (by kernel_rfl)) rfl ?_
            have hb9 : Below w.heap.size w W9 := HT7.out.bel.trans (ho9.below (B := w.heap.size) (fun x hx => by simp at hx; omega) HT7.out.bel.size)
            refine ⟨hb9, .inl ⟨HOK.out, q, rfl, HQ.out.1, ?_⟩⟩
            exact OA.N.weaken (base := w.heap.size + 1) (OA.P.typed HT7.out.own fun x t cs hb ht => ho9.block x hb.lt (fun hm => by
              simp at hm
              subst hm
              refine hb.ne_ HT7.out.res ?_ rfl
              rcases ht with rfl | rfl | rfl <;> decide)) (by omega)
          · rw [show (tx == b) = false by simp [hbe]]
            have hno : ¬ SOk b := fun h => hbe (by rw [HGD.out.2]; exact h.2)
            have HNO := Lib.hid hno
            have HFIN := Lib.hid (And.intro HT7.out.bel HT7.out.res)
            clear hbe hno K2
            go_wp2_with (have _h := K3; refine wpList_storeq rfl 36 (.tmp 2) (.tmp 46) rfl w.heap.size #[.bool false, .slice none 0 0, .int .i64 0, .slice none 0 0] [.bool false, .slice none 0 0, .int .i64 0, .slice none 0 0] rfl rfl K3 rfl (by kernel_rfl) (OA.cs_one ⟨false, [], none, 0, 0, none, 0, []⟩) ?_; clear _h K3; intro W9 K9 ho9 hs9)
            refine bodyPost_ret (results_cell_tmp9 rfl _ _ w.heap.size 36 #[.bool false, .slice none 0 0, .int .i64 0, .slice none 0 0] (0, 0) _ _ rfl rfl K9 Try.underlying36 rfl (by kernel_rfl)) rfl ?_
            exact ⟨HFIN.out.1.trans (ho9.below (B := w.heap.size) (fun x hx => by simp at hx; omega) HFIN.out.1.size), .inr ⟨HNO.out, rfl⟩⟩
        · have hno : ¬ SOk b := fun h => hbad h.1
          have HNO := Lib.hid hno
          have HT7 := Lib.hid (HT.out.1.next b7)
          have K3 := HT7.out.res
          have HFIN := Lib.hid (And.intro HT7.out.bel HT7.out.res)
          clear hbad hno b7
          simp only [errV]
          go_wp2_with (have _h := K3; refine wpList_storeq rfl 36 (.tmp 2) (.tmp 46) rfl w.heap.size #[.bool false, .slice none 0 0, .int .i64 0, .slice none 0 0] [.bool false, .slice none 0 0, .int .i64 0, .slice none 0 0] rfl rfl K3 rfl (by kernel_rfl) (OA.cs_one ⟨false, [], none, 0, 0, none, 0, []⟩) ?_; clear _h K3; intro W9 K9 ho9 hs9)
          refine bodyPost_ret (results_cell_tmp9 rfl _ _ w.heap.size 36 #[.bool false, .slice none 0 0, .int .i64 0, .slice none 0 0] (0, 0) _ _ rfl rfl K9 Try.underlying36 rfl (by kernel_rfl)) rfl ?_
          exact ⟨HFIN.out.1.trans (ho9.below (B := w.heap.size) (fun x hx => by simp at hx; omega) HFIN.out.1.size), .inr ⟨HNO.out, rfl⟩⟩
end Go.Proofs.Yteghbfkkpnlilaa

/-
  An object as the document's: its own memory, but the row of clones. Conditions: the object reads as it is said to, and is small.
-/
namespace Go.Proofs.Yteghbfkkpnlilaa
open Go.RowKit Go.BigFrame
set_option linter.unusedSimpArgs false
set_option linter.unusedVariables false
set_option maxRecDepth 100000
def PlainTo (w : World) (o : OA) (e : Ending) (w' : World) : Prop := ∃ (C' : Option Addr) (c' : Nat), e = .returned (.agg (OA.cs {o with C := C', cc := c'})) ∧ OwnC 78 w' w.heap.size (.slice C' o.cl.length c') o.cl ∧ Below w.heap.size w w'
theorem PlainTo.reads {w w' : World} {o : OA} {C' : Option Addr} {c' : Nat} (h : o.R w) (hc : OwnC 78 w' w.heap.size (.slice C' o.cl.length c') o.cl) (hb : Below w.heap.size w w') : OA.R {o with C := C', cc := c'} w' := by
  obtain ⟨-, c1, c2, -⟩ := own_shape hc
  have h2 := h.since hb
  exact ⟨h2.dt, Reads.of_own hc, h2.cl, h2.q1, h2.q2, h2.d1, h2.c1, h2.d2, c1⟩
structure Pln (w : World) (o : OA) (g3 k : Nat) (C' : Option Addr) (c' : Nat) (wr : World) : Prop where
  blk : Blk wr g3 25 #[.bool o.th, .slice o.D o.dt.length o.cd, .int .i64 o.sq, .slice C' k c']
  res : Blk wr (w.heap.size + 1) 25 #[.bool false, .slice none 0 0, .int .i64 0, .slice none 0 0]
  row : OwnC 78 wr w.heap.size (.slice C' k c') (o.cl.take k)
  bel : Below w.heap.size w wr
  far : w.heap.size + 2 ≤ g3
set_option maxHeartbeats 8000000 in
theorem plain_any {w : World} (o : OA) (h : o.R w) (hS : o.Sm) : Calls Try.prog 18 #[.agg o.cs] w (PlainTo w o) := by
  have H := Lib.hid h
  have hcn := hS.cn
  obtain ⟨w0, hw0⟩ : ∃ w0, w0 = ((w.alloc (.cells o.cs 36)).alloc (.cells #[.bool false, .slice none 0 0, .int .i64 0, .slice none 0 0] 25)).alloc (.cells #[.bool o.th, .slice o.D o.dt.length o.cd, .int .i64 o.sq, .slice none 0 0] 25) := ⟨_, rfl⟩
  have hbel : Below w.heap.size w w0 := by rw [hw0]; exact (((Below.refl _ w).alloc (Nat.le_refl _) _).alloc (by simp) _).alloc (by simp; omega) _
  have b0 : Blk w0 w.heap.size 36 o.cs := by rw [hw0]; exact ((Blk.new w _ _).alloc _).alloc _
  have b1 : Blk w0 (w.heap.size + 1) 25 #[.bool false, .slice none 0 0, .int .i64 0, .slice none 0 0] := by
    have := (Blk.new (w.alloc (.cells o.cs 36)) 25 #[.bool false, .slice none 0 0, .int .i64 0, .slice none 0 0]).alloc (.cells #[.bool o.th, .slice o.D o.dt.length o.cd, .int .i64 o.sq, .slice none 0 0] 25)
    rw [hw0]
    simpa using this
  have b2 : Blk w0 (w.heap.size + 1 + 1) 25 #[.bool o.th, .slice o.D o.dt.length o.cd, .int .i64 o.sq, .slice none 0 0] := by
    have := Blk.new ((w.alloc (.cells o.cs 36)).alloc (.cells #[.bool false, .slice none 0 0, .int .i64 0, .slice none 0 0] 25)) 25 #[.bool o.th, .slice o.D o.dt.length o.cd, .int .i64 o.sq, .slice none 0 0]
    rw [hw0]
    simpa using this
  have HP0 : Hid (Pln w o (w.heap.size + 1 + 1) 0 none 0 w0) := Lib.hid ⟨b2, b1, OwnC.nil _ _ _, hbel, by omega⟩
  have cs3 : w0.cell? ⟨w.heap.size, 3, none⟩ = some (.slice o.C o.cl.length o.cc) := b0.cell 3
  have HWE := Lib.hid hw0
  unfold OA.cs at HWE
  have hcs : o.cs = #[.bool o.th, .slice o.D o.dt.length o.cd, .int .i64 o.sq, .slice o.C o.cl.length o.cc] := rfl
  rw [hcs]
  obtain ⟨g3, hg3⟩ : ∃ g3, g3 = w.heap.size + 1 + 1 := ⟨_, rfl⟩
  rw [← hg3] at HP0
  have HG3 := Lib.hid hg3
  clear h hS hw0 hbel b0 b1 b2 hcs hg3
  go_enter Try.func18, Try.ntmps18
  go_upto_region 2 with (fail)
  rw [← HWE.out, ← HG3.out]
  clear HWE
  go_wp2_with fail
  go_loopw [16] (fun i wr => ∃ (k : Nat) (C' : Option Addr) (c' : Nat), k ≤ o.cl.length ∧ i = .int .i64 k ∧ Pln w o g3 k C' c' wr) (fun i _ => o.cl.length - (intOf i).toNat)
  case atStart => exact ⟨0, _, _, by omega, rfl, HP0.out⟩
  case round =>
    obtain ⟨k, C', c', hk, rfl, hP⟩ := hrel
    obtain ⟨wo, hwo⟩ : ∃ wo, wo = wr := ⟨_, rfl⟩
    subst hwo
    have HP := Lib.hid hP
    have hwk : IntKind.i64.wrap ((k : Int) + 1) = (k : Int) + 1 := by rw [IntKind.wrap_i64]; omega
    by_cases hlt : k < o.cl.length
    · obtain ⟨c, hck⟩ : ∃ c, o.cl[k]? = some c := ⟨_, List.getElem?_eq_getElem hlt⟩
      have hR := H.out.since hP.bel
      obtain ⟨ad, had, hl, hc⟩ := hR.get hck
      obtain ⟨wA, hwA⟩ : ∃ wA, wA = wo.alloc (.cells #[.slice c.S c.sn.length c.cs, .slice c.D c.dt.length c.cd] 79) := ⟨_, rfl⟩
      have hbA : Below wo.heap.size wo wA := by rw [hwA]; exact below_alloc wo _
      obtain ⟨gx, hgx⟩ : ∃ gx, gx = wo.heap.size := ⟨_, rfl⟩
      have KX : Blk wA gx 79 #[.slice c.S c.sn.length c.cs, .slice c.D c.dt.length c.cd] := by rw [hwA, hgx]; exact Blk.new wo _ _
      have KG := hP.blk.of (hbA.block _ hP.blk.lt)
      have hrow1 : OwnC 78 wA w.heap.size (.slice C' k c') (o.cl.take k) := OwnC.below hP.row hbA
      have hrow2 : OwnC 78 (wA.alloc (.cells c.cells.toArray 78)) w.heap.size (.slice C' k c') (o.cl.take k) := World.ownsRow.alloc hrow1 _
      have hone := one_cl wA 78 c
      have hbs := build_rcl c wA
      have x0 : wA.cell? ⟨gx, 0, none⟩ = some (.slice c.S c.sn.length c.cs) := KX.cell 0
      have x1 : wA.cell? ⟨gx, 1, none⟩ = some (.slice c.D c.dt.length c.cd) := KX.cell 1
      have y3 : wA.cell? ⟨g3, 3, none⟩ = some (.slice C' k c') := KG.cell 3
      have HWA := Lib.hid (And.intro hwA hgx)
      have HA : Hid (Below w.heap.size w wA ∧ Blk wA (w.heap.size + 1) 25 #[.bool false, .slice none 0 0, .int .i64 0, .slice none 0 0]) := Lib.hid ⟨hP.bel.trans (hbA.mono hP.bel.size), hP.res.of (hbA.block _ hP.res.lt)⟩
      have HCK := Lib.hid hck
      have hlk : (o.cl.take k).length = k := by simp; omega
      have hwsz := HA.out.1.size
      generalize o.C = oC at *
      subst had
      clear hR hbA KX hwA hgx hck hP hrow1
      go_upto_region 5 with (have _h := hc; refine wpList_load_scl rfl (.tmp 18) rfl _ rfl c hc ?_; clear _h hc)
      rw [← HWA.out.1, ← HWA.out.2]
      clear HWA
      go_upto_region 6 with (first
        | (refine app_rcl (.tmp 21) (.tmp 27) rfl rfl w.heap.size (.slice C' k c') (o.cl.take k) rfl hrow2 _ (some ⟨wA.heap.size, 0, none⟩) 1 1 [c] rfl rfl hone (by omega) (by rw [World.size_alloc]; omega) ?_; intro v3 w3 h3 gr3 a3; obtain ⟨A4, c4, rfl⟩ := h3.form; rw [show (o.cl.take k ++ [c]).length = k + 1 by rw [List.length_append, hlk]; rfl]; have K3 : Blk w3 g3 25 #[.bool o.th, .slice o.D o.dt.length o.cd, .int .i64 o.sq, .slice C' k c'] := (KG.alloc _).grown gr3 (fun e => own_blk_ne hrow2 (KG.alloc _) (by decide) e.symm))
        | (refine wpList_setq rfl 23 (.tmp 29) (.tmp 28) rfl g3 3 25 _ (.slice A4 (k + 1) c4) rfl rfl K3 (by simp) (by kernel_rfl) rfl ?_; intro w4 K4 ho4 hs4))
      have HNEW : Hid (Pln w o g3 (k + 1) A4 c4 w4) := Lib.hid (by
        have e1 : (o.cl.take k ++ [c]).length = k + 1 := by simp; omega
        have e2 : o.cl.take (k + 1) = o.cl.take k ++ [c] := take_snocI HCK.out
        have h0 := HP.out.far
        have hr3 : Blk w3 (w.heap.size + 1) 25 #[.bool false, .slice none 0 0, .int .i64 0, .slice none 0 0] := (HA.out.2.alloc _).grown gr3 (fun e => own_blk_ne hrow2 (HA.out.2.alloc _) (by decide) e.symm)
        refine ⟨?_, hr3.only ho4 (fun hm => by simp at hm; omega), ?_, ?_, h0⟩
        · simpa using K4
        · rw [e2]
          rw [e1] at h3
          exact row_of h3 fun x hx => ho4.block x (row_under h3 x hx) (fun hm => by simp at hm; subst hm; obtain ⟨cs, hb⟩ := own_ty h3 hx; exact hb.ne_ K3 (by decide) rfl)
        · have hb3 : Below w.heap.size w w3 := (HA.out.1.alloc HA.out.1.size _).grown gr3 (by rw [World.size_alloc]; omega) (fun x e => row_over hrow2 x (mem_rowOf.2 e))
          exact hb3.trans (ho4.below (B := w.heap.size) (fun x hx => by simp at hx; omega) hb3.size))
      clear K4 ho4 hs4 K3 h3 gr3 a3 hrow2 hone hbs KG x0 x1 y3
      go_wp2
      go_roundw
      case rel => exact ⟨k + 1, _, _, by omega, by go_num, HNEW.out⟩
      case measure => simp [intOf]; omega
    · obtain rfl : k = o.cl.length := by omega
      have K1 := HP.out.blk
      have K2 := HP.out.res
      go_wp2_with (first
        | (have _h := K1; refine wpList_loadq rfl 25 (.tmp 3) rfl g3 [.bool o.th, .slice o.D o.dt.length o.cd, .int .i64 o.sq, .slice C' o.cl.length c'] _ rfl K1 Try.underlying25 rfl (by kernel_rfl) ?_; clear _h K1)
        | (have _h := K2; refine wpList_storeq rfl 25 (.tmp 2) (.tmp 31) rfl (w.heap.size + 1) #[.bool false, .slice none 0 0, .int .i64 0, .slice none 0 0] [.bool o.th, .slice o.D o.dt.length o.cd, .int .i64 o.sq, .slice C' o.cl.length c'] rfl rfl K2 rfl (by kernel_rfl) (OA.cs_one {o with C := C', cc := c'}) ?_; clear _h K2; intro w9 K9 ho9 hs9))
      refine bodyPost_ret (results_cell_row rfl _ _ (w.heap.size + 1) 25 #[.bool o.th, .slice o.D o.dt.length o.cd, .int .i64 o.sq, .slice C' o.cl.length c'] (0, 0) _ rfl K9 Try.underlying25 rfl (by kernel_rfl)) rfl ?_
      have hrow := HP.out.row
      rw [List.take_of_length_le (Nat.le_refl _)] at hrow
      refine ⟨C', c', rfl, row_of hrow fun x hx => ho9.block x (row_under hrow x hx) (fun hm => by simp at hm; subst hm; obtain ⟨cs, hb⟩ := own_ty hrow hx; exact hb.ne_ HP.out.res (by decide) rfl), HP.out.bel.trans (ho9.below (B := w.heap.size) (fun x hx => by simp at hx; omega) HP.out.bel.size)⟩
end Go.Proofs.Yteghbfkkpnlilaa

/-
  The document's Same on two objects that are the same. Conditions: both read as they are said to, are the same, and small.
-/
namespace Go.Proofs.Yteghbfkkpnlilaa
open Go.RowKit Go.BigFrame
set_option linter.unusedSimpArgs false
set_option linter.unusedVariables false
set_option maxRecDepth 100000
set_option maxHeartbeats 16000000 in
theorem rsame_any {w : World} (a b : OA) (ha : a.R w) (hb : b.R w) (he : a.v = b.v) (hS : a.Sm) : Calls Try.prog 17 #[.agg a.cs, .agg b.cs] w fun e w' => e = .returned (.bool true) ∧ Below w.heap.size w w' := by
  have h1 : b.th = a.th := (congrArg OV.th he).symm
  have h2 : b.dt = a.dt := (congrArg OV.dt he).symm
  have h3 : b.sq = a.sq := (congrArg OV.sq he).symm
  have h4 : b.cl.map CA.v = a.cl.map CA.v := (congrArg OV.cl he).symm
  have h5 : b.cl.length = a.cl.length := by have := congrArg List.length h4; simpa using this
  have HV : Hid (∀ (k : Nat) (x y : CA), a.cl[k]? = some x → b.cl[k]? = some y → y.sn = x.sn ∧ y.dt = x.dt) := Lib.hid fun k x y hx hy => by
    have e1 : (a.cl.map CA.v)[k]? = some x.v := by rw [List.getElem?_map, hx]; rfl
    have e2 : (b.cl.map CA.v)[k]? = some y.v := by rw [List.getElem?_map, hy]; rfl
    rw [h4, e1] at e2
    injection e2 with e2
    exact ⟨(congrArg ClV.sn e2).symm, (congrArg ClV.dt e2).symm⟩
  obtain ⟨w0, hw0⟩ : ∃ w0, w0 = (w.alloc (.cells a.cs 25)).alloc (.cells b.cs 25) := ⟨_, rfl⟩
  have hbel : Below w.heap.size w w0 := by rw [hw0]; exact ((Below.refl _ w).alloc (Nat.le_refl _) _).alloc (by simp) _
  have b0 : Blk w0 w.heap.size 25 #[.bool a.th, .slice a.D a.dt.length a.cd, .int .i64 a.sq, .slice a.C a.cl.length a.cc] := by rw [hw0]; exact (Blk.new w _ _).alloc _
  have b1 : Blk w0 (w.heap.size + 1) 25 #[.bool a.th, .slice b.D a.dt.length b.cd, .int .i64 a.sq, .slice b.C a.cl.length b.cc] := by
    have := Blk.new (w.alloc (.cells a.cs 25)) 25 b.cs
    have e : b.cs = #[.bool a.th, .slice b.D a.dt.length b.cd, .int .i64 a.sq, .slice b.C a.cl.length b.cc] := by unfold OA.cs; rw [h1, h2, h3, h5]
    rw [e] at this
    rw [hw0, e]
    simpa using this
  have HB : Hid (∀ W, Below w0.heap.size w0 W → W.cell? ⟨w.heap.size, 3, none⟩ = some (.slice a.C a.cl.length a.cc) ∧ W.cell? ⟨w.heap.size + 1, 3, none⟩ = some (.slice b.C a.cl.length b.cc) ∧ a.R W ∧ b.R W ∧ Below w.heap.size w W) := Lib.hid fun W hb' => ⟨(b0.of (hb'.block _ b0.lt)).cell 3, (b1.of (hb'.block _ b1.lt)).cell 3, (ha.since hbel).since hb', (hb.since hbel).since hb', hbel.trans (hb'.mono hbel.size)⟩
  have x0 : w0.cell? ⟨w.heap.size, 0, none⟩ = some (.bool a.th) := b0.cell 0
  have x1 : w0.cell? ⟨w.heap.size, 1, none⟩ = some (.slice a.D a.dt.length a.cd) := b0.cell 1
  have x2 : w0.cell? ⟨w.heap.size, 2, none⟩ = some (.int .i64 a.sq) := b0.cell 2
  have x3 : w0.cell? ⟨w.heap.size, 3, none⟩ = some (.slice a.C a.cl.length a.cc) := b0.cell 3
  have y0 : w0.cell? ⟨w.heap.size + 1, 0, none⟩ = some (.bool a.th) := b1.cell 0
  have y1 : w0.cell? ⟨w.heap.size + 1, 1, none⟩ = some (.slice b.D a.dt.length b.cd) := b1.cell 1
  have y2 : w0.cell? ⟨w.heap.size + 1, 2, none⟩ = some (.int .i64 a.sq) := b1.cell 2
  have y3 : w0.cell? ⟨w.heap.size + 1, 3, none⟩ = some (.slice b.C a.cl.length b.cc) := b1.cell 3
  have k1 := str_of (P := Try.prog) (ha.since hbel).dt a.cd 22 9 5 Try.underlying22 Try.underlying5 Try.underlying9
  have hbd := (hb.since hbel).dt
  rw [h2] at hbd
  have k2 := str_of (P := Try.prog) hbd b.cd 22 9 5 Try.underlying22 Try.underlying5 Try.underlying9
  generalize strOf a.dt = sd at k1 k2
  have HWE := Lib.hid hw0
  have HSM := Lib.hid hS
  have hcn := hS.cn
  have HCL := Lib.hid h5
  clear ha hb he h1 h2 h3 h4 h5 hw0 hbel b0 b1 hbd hS
  go_enter Try.func17, Try.ntmps17
  go_upto_region 1 with (fail)
  rw [← HWE.out]
  clear HWE
  go_upto_region 4 with (fail)
  clear x0 x1 x2 x3 y0 y1 y2 y3 k1 k2
  go_loopw [5] (fun i wr => ∃ k : Nat, k ≤ a.cl.length ∧ i = .int .i64 k ∧ Below w0.heap.size w0 wr) (fun i _ => a.cl.length - (intOf i).toNat)
  case atStart => exact ⟨0, by omega, rfl, Below.refl _ _⟩
  case round =>
    obtain ⟨k, hk, rfl, hbw⟩ := hrel
    obtain ⟨wo, hwo⟩ : ∃ wo, wo = wr := ⟨_, rfl⟩
    subst hwo
    have HBW := Lib.hid hbw
    have hwk : IntKind.i64.wrap ((k : Int) + 1) = (k : Int) + 1 := by rw [IntKind.wrap_i64]; omega
    obtain ⟨x3, y3, hRa, hRb, hbel⟩ := HB.out wo hbw
    have HBE := Lib.hid hbel
    by_cases hlt : k < a.cl.length
    · obtain ⟨x, hx⟩ : ∃ x, a.cl[k]? = some x := ⟨_, List.getElem?_eq_getElem hlt⟩
      obtain ⟨y, hy⟩ : ∃ y, b.cl[k]? = some y := ⟨_, List.getElem?_eq_getElem (by rw [HCL.out]; exact hlt)⟩
      obtain ⟨es, ed⟩ := HV.out k x y hx hy
      obtain ⟨ad, had, hl1, hc1⟩ := hRa.get hx
      obtain ⟨bd, hbd, hl2, hc2⟩ := hRb.get hy
      have hxR := hRa.cl x (List.mem_of_getElem? hx)
      have hyR := hRb.cl y (List.mem_of_getElem? hy)
      have hsm := HSM.out.cl x (List.mem_of_getElem? hx)
      obtain ⟨w2, hw2⟩ : ∃ w2, w2 = wo.alloc (.cells #[.slice x.S x.sn.length x.cs, .slice x.D x.dt.length x.cd] 78) := ⟨_, rfl⟩
      have hb2 : Below wo.heap.size wo w2 := by rw [hw2]; exact below_alloc wo _
      obtain ⟨g2, hg2⟩ : ∃ g2, g2 = wo.heap.size := ⟨_, rfl⟩
      have KX : Blk w2 g2 78 #[.slice x.S x.sn.length x.cs, .slice x.D x.dt.length x.cd] := by rw [hw2, hg2]; exact Blk.new wo _ _
      obtain ⟨w3, hw3⟩ : ∃ w3, w3 = w2.alloc (.cells #[.slice y.S x.sn.length y.cs, .slice y.D x.dt.length y.cd] 78) := ⟨_, rfl⟩
      have hb3 : Below w2.heap.size w2 w3 := by rw [hw3]; exact below_alloc w2 _
      obtain ⟨g3, hg3⟩ : ∃ g3, g3 = w2.heap.size := ⟨_, rfl⟩
      have KY : Blk w3 g3 78 #[.slice y.S x.sn.length y.cs, .slice y.D x.dt.length y.cd] := by rw [hw3, hg3]; exact Blk.new w2 _ _
      have KX3 := KX.of (hb3.block _ KX.lt)
      have y32 : w2.cell? ⟨w.heap.size + 1, 3, none⟩ = some (.slice b.C a.cl.length b.cc) := (HB.out w2 (hbw.trans (hb2.mono hbw.size))).2.1
      have hc2' : ∀ j v, y.cells[j]? = some v → w2.cell? ((bd.add (k * 2)).add j) = some v := fun j v hj => by
        have h := (((hRb.since hb2)).get hy)
        obtain ⟨bd', e', _, h⟩ := h
        rw [hbd] at e'
        injection e' with e'
        subst e'
        exact h j v hj
      have hb03 : Below wo.heap.size wo w3 := hb2.trans (hb3.mono hb2.size)
      have HX := Lib.hid (And.intro KX3 (And.intro KY (And.intro (hxR.since hb03) (And.intro (hyR.since hb03) hb03))))
      have HE := Lib.hid (And.intro es ed)
      have HW := Lib.hid (And.intro hw2 (And.intro hg2 (And.intro hw3 hg3)))
      have u0 : w3.cell? ⟨g2, 0, none⟩ = some (.slice x.S x.sn.length x.cs) := KX3.cell 0
      have u1 : w3.cell? ⟨g2, 1, none⟩ = some (.slice x.D x.dt.length x.cd) := KX3.cell 1
      have v0 : w3.cell? ⟨g3, 0, none⟩ = some (.slice y.S x.sn.length y.cs) := KY.cell 0
      have v1 : w3.cell? ⟨g3, 1, none⟩ = some (.slice y.D x.dt.length y.cd) := KY.cell 1
      have k1 := str_of (P := Try.prog) (hxR.since hb03).dt x.cd 22 9 5 Try.underlying22 Try.underlying5 Try.underlying9
      have hyd := (hyR.since hb03).dt
      rw [ed] at hyd
      have k2 := str_of (P := Try.prog) hyd y.cd 22 9 5 Try.underlying22 Try.underlying5 Try.underlying9
      generalize strOf x.dt = sd at k1 k2
      generalize a.C = aC at *
      generalize b.C = bC at *
      subst had hbd
      clear hRa hRb hbel hbw hx hy hxR hyR hb2 hb3 hb03 KX KY KX3 hw2 hg2 hw3 hg3 hyd hc2
      go_upto_region 7 with (have _h := hc1; refine wpList_load_rcl rfl (.tmp 49) rfl _ rfl x hc1 ?_; clear _h hc1)
      rw [← HW.out.1, ← HW.out.2.1]
      clear x3 y3
      go_upto_region 8 with (have _h := hc2'; refine wpList_load_rcl rfl (.tmp 54) rfl _ rfl y hc2' ?_; rw [HE.out.1, HE.out.2]; clear _h hc2')
      rw [← HW.out.2.2.1, ← HW.out.2.2.2]
      clear y32 HW
      go_upto_region 11 with (fail)
      clear u1 v1 k1 k2
      go_loopw [8] (fun i wr => ∃ j : Nat, j ≤ x.sn.length ∧ i = .int .i64 j ∧ wr.heap = w3.heap ∧ Below w3.heap.size w3 wr) (fun i _ => x.sn.length - (intOf i).toNat)
      case atStart => exact ⟨0, by omega, rfl, rfl, Below.refl _ _⟩
      case round =>
        obtain ⟨j, hj, rfl, hh, hbj⟩ := hrel
        obtain ⟨wv, hwv⟩ : ∃ wv, wv = wr := ⟨_, rfl⟩
        subst hwv
        have HBJ := Lib.hid (And.intro hh hbj)
        have hwj : IntKind.i64.wrap ((j : Int) + 1) = (j : Int) + 1 := by rw [IntKind.wrap_i64]; omega
        have u0 : wv.cell? ⟨g2, 0, none⟩ = some (.slice x.S x.sn.length x.cs) := (HX.out.1.of (hbj.block _ HX.out.1.lt)).cell 0
        have v0 : wv.cell? ⟨g3, 0, none⟩ = some (.slice y.S x.sn.length y.cs) := (HX.out.2.1.of (hbj.block _ HX.out.2.1.lt)).cell 0
        have hix := (HX.out.2.2.1.since hbj).sn
        have hiy := (HX.out.2.2.2.1.since hbj).sn
        rw [HE.out.1] at hiy
        clear hh hbj
        by_cases hjl : j < x.sn.length
        · obtain ⟨aS, z, haS, hz, hcz⟩ := hix.at_ hjl
          obtain ⟨bS, z', hbS, hz', hcz'⟩ := hiy.at_ hjl
          obtain rfl : z = z' := by rw [hz] at hz'; injection hz'
          clear hz hz' hix hiy
          generalize x.S = xS at *
          generalize y.S = yS at *
          subst haS hbS
          go_upto_region 13 with (fail)
          go_quiet (fail)
          go_wp2
          go_roundw
          case rel => exact ⟨j + 1, by omega, by go_num, by simpa using HBJ.out.1, by first | exact HBJ.out.2.drewN _ | exact HBJ.out.2 | exact HBJ.out.2.trans ⟨rfl, rfl, rfl, Nat.le_refl _, fun _ _ => rfl⟩ | exact ⟨HBJ.out.2.os, HBJ.out.2.tape, HBJ.out.2.output, HBJ.out.2.size, HBJ.out.2.block⟩⟩
          case measure => simp [intOf]; omega
        · clear hix hiy
          have HBV := Lib.hid ((HBW.out.trans ((HX.out.2.2.2.2.trans (HBJ.out.2.mono HX.out.2.2.2.2.size)).mono HBW.out.size)))
          go_wp2
          go_roundw
          case rel => exact ⟨k + 1, by omega, by go_num, HBV.out⟩
          case measure => simp [intOf]; omega
    · clear hRa hRb hbel hbw
      go_wp2
      go_ret
      exact ⟨rfl, HBE.out⟩
end Go.Proofs.Yteghbfkkpnlilaa
