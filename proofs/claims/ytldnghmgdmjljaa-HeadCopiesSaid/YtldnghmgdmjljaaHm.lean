/-
  What is read of a head that tells of no snapshot. Conditions: the reader lies where it is said to; its bytes are no more than a million.
-/
import Derived.Test.YtldnghmgdmjljaaHl
namespace Go.Proofs.Ytldnghmgdmjljaa
open Go.RowKit Go.BigFrame
set_option linter.unusedSimpArgs false
set_option linter.unusedVariables false
set_option maxRecDepth 100000
theorem head_zero (w : World) : (zeroValue 36).run Try.prog w = .ok (.agg #[.int .i64 0, .int .i64 0, .int .i64 0, .int .i64 0, .slice none 0 0, .bool false, .bool false, .slice none 0 0, .string ⟨#[]⟩, .int .i64 0, .int .i64 0, .int .i64 0, .int .i64 0, .int .i64 0]) w := by kernel_rfl
def THeadTo (w : World) (base : Nat) (F : List Nat) (p : Option Addr) (s : RD) (e : Ending) (w' : World) : Prop :=
  ∃ (a : HA) (F' : List Nat), e = .returned (.agg a.cs) ∧ a.v = s.hdv ∧ a.vw.N w' w.heap.size F' ∧ (∀ x ∈ a.sn, x.N w' w.heap.size F') ∧ w'.ownsRow w.heap.size 62 11 (.slice a.S a.sn.length a.cs') a.sn.length (a.sn.flatMap SA.cells) ∧ (∀ k ∈ rowOf (.slice a.S 0 0), k ∉ F') ∧ Rd w' base F' p s.hdTo ∧ Only F w w' ∧ Fresh w F F'
theorem hdv_of (s : RD) (va : VA) (M : Option Addr) (cm : Nat) (hc : s.four.num = 0) (h : va = ⟨(s.take 8).num, (s.four.take 8).flag, (s.four.take 8).flagTo.flag, marksOf (s.four.take 8).flagTo.flagTo.bytes, M, cm, (s.four.take 8).mkTo.lkv.par, (s.four.take 8).mkTo.lkv.ps, (s.four.take 8).mkTo.lkv.ov⟩) (S : Option Addr) (c : Nat) :
    HA.v ⟨s.num, ((s.take 8).take 8).num, (((s.take 8).take 8).take 8).num, S, c, [], va, (s.four.take 8).mkTo.lkTo.num, ((s.four.take 8).mkTo.lkTo.take 8).num, (((s.four.take 8).mkTo.lkTo.take 8).take 8).num⟩ = s.hdv ∧ s.hdTo = (((s.four.take 8).mkTo.lkTo.take 8).take 8).take 8 := by
  have hcnt : s.cnt = 0 := by unfold RD.cnt; rw [hc]; rfl
  have h1 : s.hd1 = s.four.take 8 := by unfold RD.hd1; rw [hcnt]; rfl
  have h2 : s.hd2 = (s.four.take 8).mkTo.lkTo := by unfold RD.hd2; rw [h1]
  subst h
  unfold RD.hdv RD.hdTo
  rw [hcnt, h2, h1]
  exact ⟨rfl, rfl⟩
theorem one14 (a b c d x y z : Int) (p q : Bool) (M C : Option Addr) (n cm m cc : Nat) (par : ByteArray) (e f : Int) : ∀ u ∈ [Value.int .i64 a, .int .i64 b, .int .i64 c, .int .i64 d, .slice C m cc, .bool p, .bool q, .slice M n cm, .string par, .int .i64 e, .int .i64 f, .int .i64 x, .int .i64 y, .int .i64 z], u.oneCell' = true := by
  intro u hu
  simp at hu
  rcases hu with rfl | rfl | rfl | rfl | rfl | rfl | rfl | rfl | rfl | rfl | rfl | rfl | rfl | rfl <;> rfl
set_option maxHeartbeats 16000000 in
theorem thead0_any (w : World) (base : Nat) (F : List Nat) (p : Option Addr) (s : RD) (h : Rd w base F p s) (hB : base ≤ w.heap.size) (hs : s.bs.length ≤ 1000000) (hc : s.four.num = 0) :
    Calls Try.prog 46 #[.pointer p] w (THeadTo w base F p s) := by
  obtain ⟨w0, hw0⟩ : ∃ w0, w0 = w.alloc (.cells #[.int .i64 0, .int .i64 0, .int .i64 0, .int .i64 0, .slice none 0 0, .bool false, .bool false, .slice none 0 0, .string ⟨#[]⟩, .int .i64 0, .int .i64 0, .int .i64 0, .int .i64 0, .int .i64 0] 36) := ⟨_, rfl⟩
  have hb0 : Below w.heap.size w w0 := by rw [hw0]; exact below_alloc w _
  have k0 : Blk w0 w.heap.size 36 #[.int .i64 0, .int .i64 0, .int .i64 0, .int .i64 0, .slice none 0 0, .bool false, .bool false, .slice none 0 0, .string ⟨#[]⟩, .int .i64 0, .int .i64 0, .int .i64 0, .int .i64 0, .int .i64 0] := by rw [hw0]; exact Blk.new w _ _
  have hn : w.heap.size ∉ F := fun hm => by have := h.under _ hm; omega
  have HR0 := Lib.hid (h.below hb0)
  have HW := Lib.hid hw0
  have HK := Lib.hid (And.intro k0 hn)
  have HB0 := Lib.hid hb0
  have hz := head_zero
  have HHV := Lib.hid (hdv_of s)
  have HC := Lib.hid hc
  obtain ⟨s5, hs5⟩ : ∃ s5, s5 = s.four.take 8 := ⟨_, rfl⟩
  have HL : Hid (s5.bs.length ≤ 1000000) := Lib.hid (by rw [hs5]; exact Nat.le_trans (RD.take_le _ _) (Nat.le_trans (RD.take_le _ _) (Nat.le_trans (RD.take_le _ _) (Nat.le_trans (RD.take_le _ _) (Nat.le_trans (RD.take_le _ _) hs)))))
  have HS5 := Lib.hid hs5
  rw [← hs5] at HHV
  obtain ⟨i1, hi1⟩ : ∃ i1, i1 = s.num := ⟨_, rfl⟩
  obtain ⟨i2, hi2⟩ : ∃ i2, i2 = (s.take 8).num := ⟨_, rfl⟩
  obtain ⟨i3, hi3⟩ : ∃ i3, i3 = ((s.take 8).take 8).num := ⟨_, rfl⟩
  obtain ⟨i4, hi4⟩ : ∃ i4, i4 = (((s.take 8).take 8).take 8).num := ⟨_, rfl⟩
  rw [← hi1, ← hi2, ← hi3, ← hi4] at HHV
  have HI := Lib.hid (And.intro hi1 (And.intro hi2 (And.intro hi3 hi4)))
  have HI2 : Hid (I64 i2) := Lib.hid (by rw [hi2]; exact num_range _)
  clear h hw0 k0 hn hb0 hc hs5 hs hi1 hi2 hi3 hi4
  go_enter Try.func46, Try.ntmps46
  go_upto_region 1 with (fail)
  rw [← HW.out]
  clear HW hz
  go_wp2_with fail
  refine (rnum_any w0 base F p _ HR0.out (Nat.le_trans hB HB0.out.size)).mono ?_
  rintro e w1 ⟨rfl, G1, r, o, f⟩
  rw [← HI.out.1]
  have H1 := Lib.hid (And.intro r (And.intro o f))
  clear r o f
  go_wp2_with fail
  refine (rnum_any w1 base G1 p _ H1.out.1 (Nat.le_trans hB (Nat.le_trans HB0.out.size H1.out.2.1.size))).mono ?_
  rintro e w2 ⟨rfl, G2, r, o, f⟩
  rw [← HI.out.2.1]
  have H2 := Lib.hid (And.intro r (And.intro (H1.out.2.1.trans o H1.out.2.2) (H1.out.2.2.trans f H1.out.2.1.size)))
  clear r o f
  go_wp2_with fail
  refine (rnum_any w2 base G2 p _ H2.out.1 (Nat.le_trans hB (Nat.le_trans HB0.out.size H2.out.2.1.size))).mono ?_
  rintro e w3 ⟨rfl, G3, r, o, f⟩
  rw [← HI.out.2.2.1]
  have H3 := Lib.hid (And.intro r (And.intro (H2.out.2.1.trans o H2.out.2.2) (H2.out.2.2.trans f H2.out.2.1.size)))
  clear r o f
  go_wp2_with fail
  refine (rnum_any w3 base G3 p _ H3.out.1 (Nat.le_trans hB (Nat.le_trans HB0.out.size H3.out.2.1.size))).mono ?_
  rintro e w4 ⟨rfl, G4, r, o, f⟩
  rw [← HI.out.2.2.2]
  have H4 := Lib.hid (And.intro r (And.intro (H3.out.2.1.trans o H3.out.2.2) (H3.out.2.2.trans f H3.out.2.1.size)))
  clear r o f
  obtain ⟨w5, hw5⟩ : ∃ w5, w5 = w4.alloc (.cells #[.int .i64 i1, .int .i64 i2, .int .i64 i3, .int .i64 i4, .slice none 0 0, .bool false, .bool false, .slice none 0 0, .string ⟨#[]⟩, .int .i64 0, .int .i64 0, .int .i64 0, .int .i64 0, .int .i64 0] 36) := ⟨_, rfl⟩
  obtain ⟨g3, hg3⟩ : ∃ g3, g3 = w4.heap.size := ⟨_, rfl⟩
  have hlt03 : w.heap.size < w4.heap.size := Nat.lt_of_lt_of_le HK.out.1.lt H4.out.2.1.size
  have HT5 : Hid (Tb base w w5 F G4 p s.four 36 w.heap.size g3 #[.int .i64 0, .int .i64 0, .int .i64 0, .int .i64 0, .slice none 0 0, .bool false, .bool false, .slice none 0 0, .string ⟨#[]⟩, .int .i64 0, .int .i64 0, .int .i64 0, .int .i64 0, .int .i64 0] #[.int .i64 i1, .int .i64 i2, .int .i64 i3, .int .i64 i4, .slice none 0 0, .bool false, .bool false, .slice none 0 0, .string ⟨#[]⟩, .int .i64 0, .int .i64 0, .int .i64 0, .int .i64 0, .int .i64 0]) := Lib.hid (by
    have hb4 : Below w4.heap.size w4 w5 := by rw [hw5]; exact below_alloc w4 _
    refine ⟨H4.out.1.below hb4, (Only.of_below HB0.out F).trans (H4.out.2.1.trans (Only.of_below hb4 G4) H4.out.2.2) (Fresh.refl _ _), fun x hx => (H4.out.2.2 x hx).imp id (Nat.le_trans HB0.out.size), (HK.out.1.of (H4.out.2.1.block _ HK.out.1.lt HK.out.2)).of (hb4.block _ hlt03), far_of (w' := w4) HK.out.1.lt HK.out.2 H4.out.2.2, ?_, ?_, ?_, ?_⟩
    · rw [hw5, hg3]; exact Blk.new w4 _ _
    · rw [hg3]; exact fun hm => by have := H4.out.1.under _ hm; omega
    · exact Nat.le_refl _
    · omega)
  have HNE : Hid (w.heap.size ≠ g3) := Lib.hid (by rw [hg3]; omega)
  have HW5 := Lib.hid (And.intro hw5 hg3)
  clear hw5 hg3
  go_upto_region 2 with (fail)
  rw [← HW5.out.1, ← HW5.out.2]
  clear HW5
  have hb5 := Nat.le_trans hB HT5.out.only.size
  go_wp2_with fail
  refine (rnum_any w5 base G4 p _ HT5.out.rd hb5).mono ?_
  rintro e w6 ⟨rfl, G6, r, o, f⟩
  rw [← HS5.out] at r
  rw [HC.out]
  have HT6 := Lib.hid (HT5.out.read r o f)
  clear r o f hb5
  go_wp2
  go_loopw [16] (fun i wr => i = .int .i64 0 ∧ wr = w6) (fun _ _ => 0)
  case atStart => exact ⟨rfl, by trivial⟩
  case round =>
  obtain ⟨rfl, rfl⟩ := hrel
  go_upto_region 6 with (fail)
  have hb6 := Nat.le_trans hB HT6.out.only.size
  go_wp2_with fail
  refine (rflag_any wr base G6 p _ HT6.out.rd hb6).mono ?_
  rintro e w7 ⟨rfl, G7, r, o, f⟩
  have HT7 := Lib.hid (HT6.out.read r o f)
  clear r o f hb6
  have hb7 := Nat.le_trans hB HT7.out.only.size
  go_wp2_with fail
  refine (rflag_any w7 base G7 p _ HT7.out.rd hb7).mono ?_
  rintro e w8 ⟨rfl, G8, r, o, f⟩
  have HT8 := Lib.hid (HT7.out.read r o f)
  clear r o f hb7
  have hb8 := Nat.le_trans hB HT8.out.only.size
  have hl8 : s5.flagTo.flagTo.bs.length ≤ 1000000 := Nat.le_trans (flagTo_le _) (Nat.le_trans (flagTo_le _) HL.out)
  go_wp2_with fail
  refine (tmarks_any w8 base G8 p _ HT8.out.rd hb8 hl8).mono ?_
  rintro e w9 ⟨M, cm, G9, rfl, hm, r, o, f, far⟩
  have HT9 := Lib.hid (HT8.out.read r o f)
  have HM9 := Lib.hid (And.intro (Own.weaken (base' := w.heap.size) hm HT8.out.only.size) far)
  clear r o f hb8 hl8 hm far
  have hb9 := Nat.le_trans hB HT9.out.only.size
  go_wp2_with fail
  refine (tlink_any w9 base G9 p _ HT9.out.rd hb9).mono ?_
  rintro e w10 ⟨rfl, G10, r, o, f⟩
  obtain ⟨s7, hs7⟩ : ∃ s7, s7 = s5.mkTo.lkTo := ⟨_, rfl⟩
  have HT10 : Hid (Tb base w w10 F G10 p s7 36 w.heap.size g3 #[.int .i64 0, .int .i64 0, .int .i64 0, .int .i64 0, .slice none 0 0, .bool false, .bool false, .slice none 0 0, .string ⟨#[]⟩, .int .i64 0, .int .i64 0, .int .i64 0, .int .i64 0, .int .i64 0] #[.int .i64 i1, .int .i64 i2, .int .i64 i3, .int .i64 i4, .slice none 0 0, .bool false, .bool false, .slice none 0 0, .string ⟨#[]⟩, .int .i64 0, .int .i64 0, .int .i64 0, .int .i64 0, .int .i64 0]) := Lib.hid (by rw [hs7]; exact HT9.out.read r o f)
  obtain ⟨va, hva⟩ : ∃ va : VA, va = ⟨i2, s5.flag, s5.flagTo.flag, marksOf s5.flagTo.flagTo.bytes, M, cm, s5.mkTo.lkv.par, s5.mkTo.lkv.ps, s5.mkTo.lkv.ov⟩ := ⟨_, rfl⟩
  have HVA10 : Hid (va.N w10 w.heap.size G10) := Lib.hid (by
    have hk : ∀ k ∈ rowOf (.slice M 0 0), k < w9.heap.size := fun k hk => row_under HM9.out.1 k (by rw [row_slice M _ _ 0 0]; exact hk)
    have hg := HT9.out.rd.good
    have hle : s5.mkTo.lkv.par.length ≤ 1000000 := Nat.le_trans (bytes_le _) (Nat.le_trans (mkTo_le _) HL.out)
    subst hva
    exact ⟨row_of HM9.out.1 (fun k h9 => o.block k (row_under HM9.out.1 k h9) (HM9.out.2 k (by rw [row_slice M 0 0 (marksOf s5.flagTo.flagTo.bytes).length cm]; exact h9))), fun k h9 => far_of (w' := w10) (hk k h9) (HM9.out.2 k h9) f, fun b hb => by have := (marksOf_good s5.flagTo.flagTo.bytes).2 b hb; omega, RD.got_lt (RD.take_good hg 8) _, HI2.out, num_range _, num_range _, hle⟩)
  have HVE := Lib.hid hva
  have HHF := Lib.hid (HHV.out va M cm HC.out hva none 0)
  have K10 := HT10.out.k3
  rw [← hs7] at HHF
  have HS7 := Lib.hid hs7
  clear r o f hb9 hva hs7 HHV
  go_wp2_with (first
    | (have _h := K10; refine wpList_setq rfl 4 (.tmp 34) (.tmp 27) rfl g3 5 36 _ (.bool s5.flag) rfl rfl K10 (by simp) (by kernel_rfl) rfl ?_; clear _h K10; intro wA KA oA sA)
    | (have _h := KA; refine wpList_setq rfl 4 (.tmp 35) (.tmp 29) rfl g3 6 36 _ (.bool s5.flagTo.flag) rfl rfl KA (by simp) (by kernel_rfl) rfl ?_; have KA' := KA; clear _h KA; intro wB KB oB sB)
    | (have _h := KB; refine wpList_setq rfl 33 (.tmp 36) (.tmp 31) rfl g3 7 36 _ (.slice M (marksOf s5.flagTo.flagTo.bytes).length cm) rfl rfl KB (by simp) (by kernel_rfl) rfl ?_; have KB' := KB; clear _h KB; intro wC KC oC sC)
    | (have _h := KC; refine wpList_set3 rfl 34 (.tmp 37) (.tmp 33) rfl g3 8 36 _ (.string (strOf s5.mkTo.lkv.par)) (.int .i64 s5.mkTo.lkv.ps) (.int .i64 s5.mkTo.lkv.ov) rfl rfl KC (by simp) (by kernel_rfl) rfl rfl rfl ?_; have KC' := KC; clear _h KC; intro wD KD oD sD; have KD' := KD; clear KD))
  have HTD : Hid (Tb base w wD F G10 p s7 36 w.heap.size g3 #[.int .i64 0, .int .i64 0, .int .i64 0, .int .i64 0, .slice none 0 0, .bool false, .bool false, .slice none 0 0, .string ⟨#[]⟩, .int .i64 0, .int .i64 0, .int .i64 0, .int .i64 0, .int .i64 0] #[.int .i64 i1, .int .i64 va.size, .int .i64 i3, .int .i64 i4, .slice none 0 0, .bool va.on, .bool va.good, .slice va.M va.row.length va.cm, .string (strOf va.par), .int .i64 va.ps, .int .i64 va.ov, .int .i64 0, .int .i64 0, .int .i64 0]) := Lib.hid (by
    have := (((HT10.out.store HNE.out KA' oA sA).store HNE.out KB' oB sB).store HNE.out KC' oC sC).store HNE.out KD' oD sD
    rw [HVE.out]
    simpa using this)
  have HVD : Hid (va.N wD w.heap.size G10) := Lib.hid ((((HVA10.out.stay (stay_only HT10.out.k3 (by decide) (by decide) oA)).stay (stay_only KA' (by decide) (by decide) oB)).stay (stay_only KB' (by decide) (by decide) oC)).stay (stay_only KC' (by decide) (by decide) oD))
  clear KA' KB' KC' KD' oA oB oC oD sA sB sC sD
  obtain ⟨j1, hj1⟩ : ∃ j1, j1 = s7.num := ⟨_, rfl⟩
  obtain ⟨j2, hj2⟩ : ∃ j2, j2 = (s7.take 8).num := ⟨_, rfl⟩
  obtain ⟨j3, hj3⟩ : ∃ j3, j3 = ((s7.take 8).take 8).num := ⟨_, rfl⟩
  rw [← hj1, ← hj2, ← hj3] at HHF
  have HJ := Lib.hid (And.intro hj1 (And.intro hj2 hj3))
  clear hj1 hj2 hj3
  have hbx := Nat.le_trans hB HTD.out.only.size
  go_wp2_with fail
  refine (rnum_any wD base G10 p _ HTD.out.rd hbx).mono ?_
  rintro e y0 ⟨rfl, K0, r, o, f⟩
  rw [← HJ.out.1]
  have HTY0 := Lib.hid (HTD.out.read r o f)
  have HVY0 := Lib.hid (HVD.out.read o f)
  clear r o f hbx
  have hbx := Nat.le_trans hB HTY0.out.only.size
  go_wp2_with fail
  refine (rnum_any y0 base K0 p _ HTY0.out.rd hbx).mono ?_
  rintro e y1 ⟨rfl, K1, r, o, f⟩
  rw [← HJ.out.2.1]
  have HTY1 := Lib.hid (HTY0.out.read r o f)
  have HVY1 := Lib.hid (HVY0.out.read o f)
  clear r o f hbx
  have hbx := Nat.le_trans hB HTY1.out.only.size
  go_wp2_with fail
  refine (rnum_any y1 base K1 p _ HTY1.out.rd hbx).mono ?_
  rintro e y2 ⟨rfl, K2, r, o, f⟩
  rw [← HJ.out.2.2]
  have HTY2 := Lib.hid (HTY1.out.read r o f)
  have HVY2 := Lib.hid (HVY1.out.read o f)
  clear r o f hbx
  have KY := HTY2.out.k3
  go_upto_region 8 with (first
    | (have _h := KY; refine wpList_setq rfl 3 (.tmp 44) (.tmp 39) rfl g3 11 36 _ (.int .i64 j1) rfl rfl KY (by simp) (by kernel_rfl) rfl ?_; clear _h KY; intro wA KA oA sA)
    | (have _h := KA; refine wpList_setq rfl 3 (.tmp 45) (.tmp 41) rfl g3 12 36 _ (.int .i64 j2) rfl rfl KA (by simp) (by kernel_rfl) rfl ?_; have KA' := KA; clear _h KA; intro wB KB oB sB)
    | (have _h := KB; refine wpList_setq rfl 3 (.tmp 46) (.tmp 43) rfl g3 13 36 _ (.int .i64 j3) rfl rfl KB (by simp) (by kernel_rfl) rfl ?_; have KB' := KB; clear _h KB; intro wC KC oC sC; have KC' := KC; clear KC))
  have HTE : Hid (Tb base w wC F K2 p (((s7.take 8).take 8).take 8) 36 w.heap.size g3 #[.int .i64 0, .int .i64 0, .int .i64 0, .int .i64 0, .slice none 0 0, .bool false, .bool false, .slice none 0 0, .string ⟨#[]⟩, .int .i64 0, .int .i64 0, .int .i64 0, .int .i64 0, .int .i64 0] #[.int .i64 i1, .int .i64 va.size, .int .i64 i3, .int .i64 i4, .slice none 0 0, .bool va.on, .bool va.good, .slice va.M va.row.length va.cm, .string (strOf va.par), .int .i64 va.ps, .int .i64 va.ov, .int .i64 j1, .int .i64 j2, .int .i64 j3]) := Lib.hid (by
    have := ((HTY2.out.store HNE.out KA' oA sA).store HNE.out KB' oB sB).store HNE.out KC' oC sC
    simpa using this)
  have HVZ : Hid (va.N wC w.heap.size K2) := Lib.hid (((HVY2.out.stay (stay_only HTY2.out.k3 (by decide) (by decide) oA)).stay (stay_only KA' (by decide) (by decide) oB)).stay (stay_only KB' (by decide) (by decide) oC))
  have K3 := HTE.out.k3
  have Q2 := HTE.out.k2
  clear KA' KB' KC' oA oB oC sA sB sC
  go_wp2_with (first
    | (have _h := K3; refine wpList_loadq rfl 36 (.tmp 3) rfl g3 [.int .i64 i1, .int .i64 va.size, .int .i64 i3, .int .i64 i4, .slice none 0 0, .bool va.on, .bool va.good, .slice va.M va.row.length va.cm, .string (strOf va.par), .int .i64 va.ps, .int .i64 va.ov, .int .i64 j1, .int .i64 j2, .int .i64 j3] _ rfl K3 Try.underlying36 rfl (by kernel_rfl) ?_; clear _h K3)
    | (have _h := Q2; refine wpList_storeq rfl 36 (.tmp 2) (.tmp 47) rfl w.heap.size _ [.int .i64 i1, .int .i64 va.size, .int .i64 i3, .int .i64 i4, .slice none 0 0, .bool va.on, .bool va.good, .slice va.M va.row.length va.cm, .string (strOf va.par), .int .i64 va.ps, .int .i64 va.ov, .int .i64 j1, .int .i64 j2, .int .i64 j3] rfl rfl Q2 (by simp) (by kernel_rfl) (one14 _ _ _ _ _ _ _ _ _ _ _ _ _ _ _ _ _ _) ?_; clear _h Q2; intro w99 K99 o9 s9))
  refine bodyPost_ret (results_cell_row rfl _ _ w.heap.size 36 _ (0, 0) _ rfl K99 Try.underlying36 rfl (by kernel_rfl)) rfl ?_
  have hT := HTE.out
  have st := stay_only hT.k2 (by decide) (by decide) o9
  refine ⟨⟨i1, i3, i4, none, 0, [], va, j1, j2, j3⟩, K2, rfl, HHF.out.1, HVZ.out.stay st, fun x hx => (by cases hx), World.ownsRow_nil _ _ _ 11, fun k hk => (by cases hk), ?_, ?_, hT.fresh⟩
  · rw [HHF.out.2]
    exact hT.rd.of (by omega) (fun j hj => o9.block j (hT.rd.under j hj) (fun hm => by simp at hm; subst hm; exact hT.n2 hj))
  · exact ⟨o9.os.trans hT.only.os, o9.tape.trans hT.only.tape, o9.output.trans hT.only.output, by have := hT.only.size; omega, fun i hi hn => (o9.block i (by have := hT.only.size; omega) (by simp; omega)).trans (hT.only.block i hi hn)⟩
end Go.Proofs.Ytldnghmgdmjljaa
