/-
  What is read of a head that tells of no snapshot. Conditions: the reader lies where it is said to; its bytes are no more than a million.
-/
import Derived.Test.YtgddenhnpjoabaaZf
import Derived.OpenShut
import Derived.ShutString
import Derived.ChangeOld
import Derived.Deep.Matrix
import Derived.Deep.Slices
import Derived.Deep.Grids
import Derived.Deep.Fields
import Derived.ChangeSame
import Derived.Deep.DeepHandedRow
import Derived.Lib.LaidTab
import Derived.Deep.Strs

namespace Go.Proofs.Ytgddenhnpjoabaa
open Go.RowKit Go.BigFrame
set_option linter.unusedSimpArgs false
set_option linter.unusedVariables false
set_option maxRecDepth 100000
theorem head_zero (w : World) : (zeroValue 36).run Try.prog w = .ok (.agg #[.int .i64 0, .int .i64 0, .int .i64 0, .int .i64 0, .slice none 0 0, .bool false, .bool false, .slice none 0 0, .string ⟨#[]⟩, .int .i64 0, .int .i64 0, .int .i64 0, .int .i64 0, .int .i64 0]) w := by kernel_rfl
def THeadTo (w : World) (base : Nat) (F : List Nat) (p : Option Addr) (s : RD) (e : Ending) (w' : World) : Prop :=
  ∃ (a : HA) (F' : List Nat), e = .returned (.agg a.cs) ∧ a.v = s.hdv ∧ a.vw.N w' w.heap.size F' ∧ (∀ x ∈ a.sn, x.N w' w.heap.size F') ∧ w'.ownsRow w.heap.size 66 11 (.slice a.S a.sn.length a.cs') a.sn.length (a.sn.flatMap SA.cells) ∧ (∀ k ∈ rowOf (.slice a.S 0 0), k ∉ F') ∧ Rd w' base F' p s.hdTo ∧ Only F w w' ∧ Fresh w F F'
theorem hdv_of (s : RD) (va : VA) (M : Option Addr) (cm : Nat) (hc : s.four.num = 0) (h : va = ⟨(s.take 8).num, (s.four.take 8).flag, (s.four.take 8).flagTo.flag, marksOf (s.four.take 8).flagTo.flagTo.bytes, M, cm, (s.four.take 8).mkTo.lkv.par, (s.four.take 8).mkTo.lkv.ps, (s.four.take 8).mkTo.lkv.ov⟩) (S : Option Addr) (c : Nat) :
    HA.v ⟨s.num, ((s.take 8).take 8).num, (((s.take 8).take 8).take 8).num, S, c, [], va, (s.four.take 8).mkTo.lkTo.num, ((s.four.take 8).mkTo.lkTo.take 8).num, (((s.four.take 8).mkTo.lkTo.take 8).take 8).num⟩ = s.hdv ∧ s.hdTo = (((s.four.take 8).mkTo.lkTo.take 8).take 8).take 8 := by
  have hcnt : s.cnt = 0 := by unfold RD.cnt; rw [hc]; rfl
  have h1 : s.hd1 = s.four.take 8 := by unfold RD.hd1; rw [hcnt]; rfl
  have h2 : s.hd2 = (s.four.take 8).mkTo.lkTo := by unfold RD.hd2; rw [h1]
  subst h
  unfold RD.hdv RD.hdTo
  rw [hcnt, h2, h1]
  exact ⟨rfl, rfl⟩
theorem one14 (a b c d x y z : Int) (p q : Bool) (M C : Option Addr) (n cm m cc : Nat) (par : ByteArray) (e f : Int) : ∀ u ∈ [Value.int .i64 a, .int .i64 b, .int .i64 c, .int .i64 d, .slice C m cc, .bool p, .bool q, .slice M n cm, .string par, .int .i64 e, .int .i64 f, .int .i64 x, .int .i64 y, .int .i64 z], u.oneCell' = true := by
  intro u hu
  simp at hu
  rcases hu with rfl | rfl | rfl | rfl | rfl | rfl | rfl | rfl | rfl | rfl | rfl | rfl | rfl | rfl <;> rfl
set_option maxHeartbeats 16000000 in
theorem thead0_any (w : World) (base : Nat) (F : List Nat) (p : Option Addr) (s : RD) (h : Rd w base F p s) (hB : base ≤ w.heap.size) (hs : s.bs.length ≤ 1000000) (hc : s.four.num = 0) :
    Calls Try.prog 50 #[.pointer p] w (THeadTo w base F p s) := by
  obtain ⟨w0, hw0⟩ : ∃ w0, w0 = w.alloc (.cells #[.int .i64 0, .int .i64 0, .int .i64 0, .int .i64 0, .slice none 0 0, .bool false, .bool false, .slice none 0 0, .string ⟨#[]⟩, .int .i64 0, .int .i64 0, .int .i64 0, .int .i64 0, .int .i64 0] 36) := ⟨_, rfl⟩
  have hb0 : Below w.heap.size w w0 := by rw [hw0]; exact below_alloc w _
  have k0 : Blk w0 w.heap.size 36 #[.int .i64 0, .int .i64 0, .int .i64 0, .int .i64 0, .slice none 0 0, .bool false, .bool false, .slice none 0 0, .string ⟨#[]⟩, .int .i64 0, .int .i64 0, .int .i64 0, .int .i64 0, .int .i64 0] := by rw [hw0]; exact Blk.new w _ _
  have hn : w.heap.size ∉ F := fun hm => by have := h.under _ hm; omega
  have HR0 := Lib.hid (h.below hb0)
  have HW := Lib.hid hw0
  have HK := Lib.hid (And.intro k0 hn)
  have HB0 := Lib.hid hb0
  have hz := head_zero
  have HHV := Lib.hid (hdv_of s)
  have HC := Lib.hid hc
  obtain ⟨s5, hs5⟩ : ∃ s5, s5 = s.four.take 8 := ⟨_, rfl⟩
  have HL : Hid (s5.bs.length ≤ 1000000) := Lib.hid (by rw [hs5]; exact Nat.le_trans (RD.take_le _ _) (Nat.le_trans (RD.take_le _ _) (Nat.le_trans (RD.take_le _ _) (Nat.le_trans (RD.take_le _ _) (Nat.le_trans (RD.take_le _ _) hs)))))
  have HS5 := Lib.hid hs5
  rw [← hs5] at HHV
  obtain ⟨i1, hi1⟩ : ∃ i1, i1 = s.num := ⟨_, rfl⟩
  obtain ⟨i2, hi2⟩ : ∃ i2, i2 = (s.take 8).num := ⟨_, rfl⟩
  obtain ⟨i3, hi3⟩ : ∃ i3, i3 = ((s.take 8).take 8).num := ⟨_, rfl⟩
  obtain ⟨i4, hi4⟩ : ∃ i4, i4 = (((s.take 8).take 8).take 8).num := ⟨_, rfl⟩
  rw [← hi1, ← hi2, ← hi3, ← hi4] at HHV
  have HI := Lib.hid (And.intro hi1 (And.intro hi2 (And.intro hi3 hi4)))
  have HI2 : Hid (I64 i2) := Lib.hid (by rw [hi2]; exact num_range _)
  clear h hw0 k0 hn hb0 hc hs5 hs hi1 hi2 hi3 hi4
  go_enter Try.func50, Try.ntmps50
  go_upto_region 1 with (fail)
  rw [← HW.out]
  clear HW hz
  go_wp2_with fail
  refine (rnum_any w0 base F p _ HR0.out (Nat.le_trans hB HB0.out.size)).mono ?_
  rintro e w1 ⟨rfl, G1, r, o, f⟩
  rw [← HI.out.1]
  have H1 := Lib.hid (And.intro r (And.intro o f))
  clear r o f
  go_wp2_with fail
  refine (rnum_any w1 base G1 p _ H1.out.1 (Nat.le_trans hB (Nat.le_trans HB0.out.size H1.out.2.1.size))).mono ?_
  rintro e w2 ⟨rfl, G2, r, o, f⟩
  rw [← HI.out.2.1]
  have H2 := Lib.hid (And.intro r (And.intro (H1.out.2.1.trans o H1.out.2.2) (H1.out.2.2.trans f H1.out.2.1.size)))
  clear r o f
  go_wp2_with fail
  refine (rnum_any w2 base G2 p _ H2.out.1 (Nat.le_trans hB (Nat.le_trans HB0.out.size H2.out.2.1.size))).mono ?_
  rintro e w3 ⟨rfl, G3, r, o, f⟩
  rw [← HI.out.2.2.1]
  have H3 := Lib.hid (And.intro r (And.intro (H2.out.2.1.trans o H2.out.2.2) (H2.out.2.2.trans f H2.out.2.1.size)))
  clear r o f
  go_wp2_with fail
  refine (rnum_any w3 base G3 p _ H3.out.1 (Nat.le_trans hB (Nat.le_trans HB0.out.size H3.out.2.1.size))).mono ?_
  rintro e w4 ⟨rfl, G4, r, o, f⟩
  rw [← HI.out.2.2.2]
  have H4 := Lib.hid (And.intro r (And.intro (H3.out.2.1.trans o H3.out.2.2) (H3.out.2.2.trans f H3.out.2.1.size)))
  clear r o f
  obtain ⟨w5, hw5⟩ : ∃ w5, w5 = w4.alloc (.cells #[.int .i64 i1, .int .i64 i2, .int .i64 i3, .int .i64 i4, .slice none 0 0, .bool false, .bool false, .slice none 0 0, .string ⟨#[]⟩, .int .i64 0, .int .i64 0, .int .i64 0, .int .i64 0, .int .i64 0] 36) := ⟨_, rfl⟩
  obtain ⟨g3, hg3⟩ : ∃ g3, g3 = w4.heap.size := ⟨_, rfl⟩
  have hlt03 : w.heap.size < w4.heap.size := Nat.lt_of_lt_of_le HK.out.1.lt H4.out.2.1.size
  have HT5 : Hid (Tb base w w5 F G4 p s.four 36 w.heap.size g3 #[.int .i64 0, .int .i64 0, .int .i64 0, .int .i64 0, .slice none 0 0, .bool false, .bool false, .slice none 0 0, .string ⟨#[]⟩, .int .i64 0, .int .i64 0, .int .i64 0, .int .i64 0, .int .i64 0] #[.int .i64 i1, .int .i64 i2, .int .i64 i3, .int .i64 i4, .slice none 0 0, .bool false, .bool false, .slice none 0 0, .string ⟨#[]⟩, .int .i64 0, .int .i64 0, .int .i64 0, .int .i64 0, .int .i64 0]) := Lib.hid (by
    have hb4 : Below w4.heap.size w4 w5 := by rw [hw5]; exact below_alloc w4 _
    refine ⟨H4.out.1.below hb4, (Only.of_below HB0.out F).trans (H4.out.2.1.trans (Only.of_below hb4 G4) H4.out.2.2) (Fresh.refl _ _), fun x hx => (H4.out.2.2 x hx).imp id (Nat.le_trans HB0.out.size), (HK.out.1.of (H4.out.2.1.block _ HK.out.1.lt HK.out.2)).of (hb4.block _ hlt03), far_of (w' := w4) HK.out.1.lt HK.out.2 H4.out.2.2, ?_, ?_, ?_, ?_⟩
    · rw [hw5, hg3]; exact Blk.new w4 _ _
    · rw [hg3]; exact fun hm => by have := H4.out.1.under _ hm; omega
    · exact Nat.le_refl _
    · omega)
  have HNE : Hid (w.heap.size ≠ g3) := Lib.hid (by rw [hg3]; omega)
  have HW5 := Lib.hid (And.intro hw5 hg3)
  clear hw5 hg3
  go_upto_region 2 with (fail)
  rw [← HW5.out.1, ← HW5.out.2]
  clear HW5
  have hb5 := Nat.le_trans hB HT5.out.only.size
  go_wp2_with fail
  refine (rnum_any w5 base G4 p _ HT5.out.rd hb5).mono ?_
  rintro e w6 ⟨rfl, G6, r, o, f⟩
  rw [← HS5.out] at r
  rw [HC.out]
  have HT6 := Lib.hid (HT5.out.read r o f)
  clear r o f hb5
  go_wp2
  go_loopw [16] (fun i wr => i = .int .i64 0 ∧ wr = w6) (fun _ _ => 0)
  case atStart => exact ⟨rfl, by trivial⟩
  case round =>
  obtain ⟨rfl, rfl⟩ := hrel
  go_upto_region 6 with (fail)
  have hb6 := Nat.le_trans hB HT6.out.only.size
  go_wp2_with fail
  refine (rflag_any wr base G6 p _ HT6.out.rd hb6).mono ?_
  rintro e w7 ⟨rfl, G7, r, o, f⟩
  have HT7 := Lib.hid (HT6.out.read r o f)
  clear r o f hb6
  have hb7 := Nat.le_trans hB HT7.out.only.size
  go_wp2_with fail
  refine (rflag_any w7 base G7 p _ HT7.out.rd hb7).mono ?_
  rintro e w8 ⟨rfl, G8, r, o, f⟩
  have HT8 := Lib.hid (HT7.out.read r o f)
  clear r o f hb7
  have hb8 := Nat.le_trans hB HT8.out.only.size
  have hl8 : s5.flagTo.flagTo.bs.length ≤ 1000000 := Nat.le_trans (flagTo_le _) (Nat.le_trans (flagTo_le _) HL.out)
  go_wp2_with fail
  refine (tmarks_any w8 base G8 p _ HT8.out.rd hb8 hl8).mono ?_
  rintro e w9 ⟨M, cm, G9, rfl, hm, r, o, f, far⟩
  have HT9 := Lib.hid (HT8.out.read r o f)
  have HM9 := Lib.hid (And.intro (Own.weaken (base' := w.heap.size) hm HT8.out.only.size) far)
  clear r o f hb8 hl8 hm far
  have hb9 := Nat.le_trans hB HT9.out.only.size
  go_wp2_with fail
  refine (tlink_any w9 base G9 p _ HT9.out.rd hb9).mono ?_
  rintro e w10 ⟨rfl, G10, r, o, f⟩
  obtain ⟨s7, hs7⟩ : ∃ s7, s7 = s5.mkTo.lkTo := ⟨_, rfl⟩
  have HT10 : Hid (Tb base w w10 F G10 p s7 36 w.heap.size g3 #[.int .i64 0, .int .i64 0, .int .i64 0, .int .i64 0, .slice none 0 0, .bool false, .bool false, .slice none 0 0, .string ⟨#[]⟩, .int .i64 0, .int .i64 0, .int .i64 0, .int .i64 0, .int .i64 0] #[.int .i64 i1, .int .i64 i2, .int .i64 i3, .int .i64 i4, .slice none 0 0, .bool false, .bool false, .slice none 0 0, .string ⟨#[]⟩, .int .i64 0, .int .i64 0, .int .i64 0, .int .i64 0, .int .i64 0]) := Lib.hid (by rw [hs7]; exact HT9.out.read r o f)
  obtain ⟨va, hva⟩ : ∃ va : VA, va = ⟨i2, s5.flag, s5.flagTo.flag, marksOf s5.flagTo.flagTo.bytes, M, cm, s5.mkTo.lkv.par, s5.mkTo.lkv.ps, s5.mkTo.lkv.ov⟩ := ⟨_, rfl⟩
  have HVA10 : Hid (va.N w10 w.heap.size G10) := Lib.hid (by
    have hk : ∀ k ∈ rowOf (.slice M 0 0), k < w9.heap.size := fun k hk => row_under HM9.out.1 k (by rw [row_slice M _ _ 0 0]; exact hk)
    have hg := HT9.out.rd.good
    have hle : s5.mkTo.lkv.par.length ≤ 1000000 := Nat.le_trans (bytes_le _) (Nat.le_trans (mkTo_le _) HL.out)
    subst hva
    exact ⟨row_of HM9.out.1 (fun k h9 => o.block k (row_under HM9.out.1 k h9) (HM9.out.2 k (by rw [row_slice M 0 0 (marksOf s5.flagTo.flagTo.bytes).length cm]; exact h9))), fun k h9 => far_of (w' := w10) (hk k h9) (HM9.out.2 k h9) f, fun b hb => by have := (marksOf_good s5.flagTo.flagTo.bytes).2 b hb; omega, RD.got_lt (RD.take_good hg 8) _, HI2.out, num_range _, num_range _, hle⟩)
  have HVE := Lib.hid hva
  have HHF := Lib.hid (HHV.out va M cm HC.out hva none 0)
  have K10 := HT10.out.k3
  rw [← hs7] at HHF
  have HS7 := Lib.hid hs7
  clear r o f hb9 hva hs7 HHV
  go_wp2_with (first
    | (have _h := K10; refine wpList_setq rfl 4 (.tmp 34) (.tmp 27) rfl g3 5 36 _ (.bool s5.flag) rfl rfl K10 (by simp) (by kernel_rfl) rfl ?_; clear _h K10; intro wA KA oA sA)
    | (have _h := KA; refine wpList_setq rfl 4 (.tmp 35) (.tmp 29) rfl g3 6 36 _ (.bool s5.flagTo.flag) rfl rfl KA (by simp) (by kernel_rfl) rfl ?_; have KA' := KA; clear _h KA; intro wB KB oB sB)
    | (have _h := KB; refine wpList_setq rfl 33 (.tmp 36) (.tmp 31) rfl g3 7 36 _ (.slice M (marksOf s5.flagTo.flagTo.bytes).length cm) rfl rfl KB (by simp) (by kernel_rfl) rfl ?_; have KB' := KB; clear _h KB; intro wC KC oC sC)
    | (have _h := KC; refine wpList_set3 rfl 34 (.tmp 37) (.tmp 33) rfl g3 8 36 _ (.string (strOf s5.mkTo.lkv.par)) (.int .i64 s5.mkTo.lkv.ps) (.int .i64 s5.mkTo.lkv.ov) rfl rfl KC (by simp) (by kernel_rfl) rfl rfl rfl ?_; have KC' := KC; clear _h KC; intro wD KD oD sD; have KD' := KD; clear KD))
  have HTD : Hid (Tb base w wD F G10 p s7 36 w.heap.size g3 #[.int .i64 0, .int .i64 0, .int .i64 0, .int .i64 0, .slice none 0 0, .bool false, .bool false, .slice none 0 0, .string ⟨#[]⟩, .int .i64 0, .int .i64 0, .int .i64 0, .int .i64 0, .int .i64 0] #[.int .i64 i1, .int .i64 va.size, .int .i64 i3, .int .i64 i4, .slice none 0 0, .bool va.on, .bool va.good, .slice va.M va.row.length va.cm, .string (strOf va.par), .int .i64 va.ps, .int .i64 va.ov, .int .i64 0, .int .i64 0, .int .i64 0]) := Lib.hid (by
    have := (((HT10.out.store HNE.out KA' oA sA).store HNE.out KB' oB sB).store HNE.out KC' oC sC).store HNE.out KD' oD sD
    rw [HVE.out]
    simpa using this)
  have HVD : Hid (va.N wD w.heap.size G10) := Lib.hid ((((HVA10.out.stay (stay_only HT10.out.k3 (by decide) (by decide) oA)).stay (stay_only KA' (by decide) (by decide) oB)).stay (stay_only KB' (by decide) (by decide) oC)).stay (stay_only KC' (by decide) (by decide) oD))
  clear KA' KB' KC' KD' oA oB oC oD sA sB sC sD
  obtain ⟨j1, hj1⟩ : ∃ j1, j1 = s7.num := ⟨_, rfl⟩
  obtain ⟨j2, hj2⟩ : ∃ j2, j2 = (s7.take 8).num := ⟨_, rfl⟩
  obtain ⟨j3, hj3⟩ : ∃ j3, j3 = ((s7.take 8).take 8).num := ⟨_, rfl⟩
  rw [← hj1, ← hj2, ← hj3] at HHF
  have HJ := Lib.hid (And.intro hj1 (And.intro hj2 hj3))
  clear hj1 hj2 hj3
  have hbx := Nat.le_trans hB HTD.out.only.size
  go_wp2_with fail
  refine (rnum_any wD base G10 p _ HTD.out.rd hbx).mono ?_
  rintro e y0 ⟨rfl, K0, r, o, f⟩
  rw [← HJ.out.1]
  have HTY0 := Lib.hid (HTD.out.read r o f)
  have HVY0 := Lib.hid (HVD.out.read o f)
  clear r o f hbx
  have hbx := Nat.le_trans hB HTY0.out.only.size
  go_wp2_with fail
  refine (rnum_any y0 base K0 p _ HTY0.out.rd hbx).mono ?_
  rintro e y1 ⟨rfl, K1, r, o, f⟩
  rw [← HJ.out.2.1]
  have HTY1 := Lib.hid (HTY0.out.read r o f)
  have HVY1 := Lib.hid (HVY0.out.read o f)
  clear r o f hbx
  have hbx := Nat.le_trans hB HTY1.out.only.size
  go_wp2_with fail
  refine (rnum_any y1 base K1 p _ HTY1.out.rd hbx).mono ?_
  rintro e y2 ⟨rfl, K2, r, o, f⟩
  rw [← HJ.out.2.2]
  have HTY2 := Lib.hid (HTY1.out.read r o f)
  have HVY2 := Lib.hid (HVY1.out.read o f)
  clear r o f hbx
  have KY := HTY2.out.k3
  go_upto_region 8 with (first
    | (have _h := KY; refine wpList_setq rfl 3 (.tmp 44) (.tmp 39) rfl g3 11 36 _ (.int .i64 j1) rfl rfl KY (by simp) (by kernel_rfl) rfl ?_; clear _h KY; intro wA KA oA sA)
    | (have _h := KA; refine wpList_setq rfl 3 (.tmp 45) (.tmp 41) rfl g3 12 36 _ (.int .i64 j2) rfl rfl KA (by simp) (by kernel_rfl) rfl ?_; have KA' := KA; clear _h KA; intro wB KB oB sB)
    | (have _h := KB; refine wpList_setq rfl 3 (.tmp 46) (.tmp 43) rfl g3 13 36 _ (.int .i64 j3) rfl rfl KB (by simp) (by kernel_rfl) rfl ?_; have KB' := KB; clear _h KB; intro wC KC oC sC; have KC' := KC; clear KC))
  have HTE : Hid (Tb base w wC F K2 p (((s7.take 8).take 8).take 8) 36 w.heap.size g3 #[.int .i64 0, .int .i64 0, .int .i64 0, .int .i64 0, .slice none 0 0, .bool false, .bool false, .slice none 0 0, .string ⟨#[]⟩, .int .i64 0, .int .i64 0, .int .i64 0, .int .i64 0, .int .i64 0] #[.int .i64 i1, .int .i64 va.size, .int .i64 i3, .int .i64 i4, .slice none 0 0, .bool va.on, .bool va.good, .slice va.M va.row.length va.cm, .string (strOf va.par), .int .i64 va.ps, .int .i64 va.ov, .int .i64 j1, .int .i64 j2, .int .i64 j3]) := Lib.hid (by
    have := ((HTY2.out.store HNE.out KA' oA sA).store HNE.out KB' oB sB).store HNE.out KC' oC sC
    simpa using this)
  have HVZ : Hid (va.N wC w.heap.size K2) := Lib.hid (((HVY2.out.stay (stay_only HTY2.out.k3 (by decide) (by decide) oA)).stay (stay_only KA' (by decide) (by decide) oB)).stay (stay_only KB' (by decide) (by decide) oC))
  have K3 := HTE.out.k3
  have Q2 := HTE.out.k2
  clear KA' KB' KC' oA oB oC sA sB sC
  go_wp2_with (first
    | (have _h := K3; refine wpList_loadq rfl 36 (.tmp 3) rfl g3 [.int .i64 i1, .int .i64 va.size, .int .i64 i3, .int .i64 i4, .slice none 0 0, .bool va.on, .bool va.good, .slice va.M va.row.length va.cm, .string (strOf va.par), .int .i64 va.ps, .int .i64 va.ov, .int .i64 j1, .int .i64 j2, .int .i64 j3] _ rfl K3 Try.underlying36 rfl (by kernel_rfl) ?_; clear _h K3)
    | (have _h := Q2; refine wpList_storeq rfl 36 (.tmp 2) (.tmp 47) rfl w.heap.size _ [.int .i64 i1, .int .i64 va.size, .int .i64 i3, .int .i64 i4, .slice none 0 0, .bool va.on, .bool va.good, .slice va.M va.row.length va.cm, .string (strOf va.par), .int .i64 va.ps, .int .i64 va.ov, .int .i64 j1, .int .i64 j2, .int .i64 j3] rfl rfl Q2 (by simp) (by kernel_rfl) (one14 _ _ _ _ _ _ _ _ _ _ _ _ _ _ _ _ _ _) ?_; clear _h Q2; intro w99 K99 o9 s9))
  refine bodyPost_ret (results_cell_row rfl _ _ w.heap.size 36 _ (0, 0) _ rfl K99 Try.underlying36 rfl (by kernel_rfl)) rfl ?_
  have hT := HTE.out
  have st := stay_only hT.k2 (by decide) (by decide) o9
  refine ⟨⟨i1, i3, i4, none, 0, [], va, j1, j2, j3⟩, K2, rfl, HHF.out.1, HVZ.out.stay st, fun x hx => (by cases hx), World.ownsRow_nil _ _ _ 11, fun k hk => (by cases hk), ?_, ?_, hT.fresh⟩
  · rw [HHF.out.2]
    exact hT.rd.of (by omega) (fun j hj => o9.block j (hT.rd.under j hj) (fun hm => by simp at hm; subst hm; exact hT.n2 hj))
  · exact ⟨o9.os.trans hT.only.os, o9.tape.trans hT.only.tape, o9.output.trans hT.only.output, by have := hT.only.size; omega, fun i hi hn => (o9.block i (by have := hT.only.size; omega) (by simp; omega)).trans (hT.only.block i hi hn)⟩
end Go.Proofs.Ytgddenhnpjoabaa

/-
  Take of heads, where takeHead reads as it is said to. Conditions: the bytes are no more than a million; what is read is small.
-/
namespace Go.Proofs.Ytgddenhnpjoabaa
open Go.RowKit Go.BigFrame
set_option linter.unusedSimpArgs false
set_option linter.unusedVariables false
set_option maxRecDepth 100000
theorem results_cell_tmp9 {P : Program} {fn : Func} {p q : Tmp} {ty : TypeId} (h : fn.results = #[.cell p ty, .tmp q]) (tmps : Array Value) (w : World) (g : Nat) (t : TypeId) (cs : Array Value) (fr : Nat × Nat) (d : TypeDesc) (v : Value)
    (hp : tmps.getD p undef = .pointer (some ⟨g, 0, none⟩)) (hq : tmps.getD q undef = v) (hg : w.heap[g]? = some (.cells cs t fr))
    (hu : P.underlying ty = some d) (hd : (match d with | .struct _ | .array _ _ => true | _ => false) = true) (hi : (P.info? ty).map (·.size) = some cs.size) :
    (results fn tmps).run P w = .ok (.tuple #[.agg cs, v]) w := by
  have hp' : tmps[p]?.getD undef = .pointer (some ⟨g, 0, none⟩) := by simpa using hp
  have hq' : tmps[q]?.getD undef = v := by simpa using hq
  simp [results, h, hp', hq', asAddr, run_loadVar_row w g t ty cs fr d hg hu hd hi]
/-- a head of the call's own -/
structure HA.N (a : HA) (w : World) (base : Nat) (F : List Nat) : Prop where
  vw : a.vw.N w base F
  sn : ∀ x ∈ a.sn, x.N w base F
  own : w.ownsRow base 66 11 (.slice a.S a.sn.length a.cs') a.sn.length (a.sn.flatMap SA.cells)
  id : I64 a.id
  obj : I64 a.obj
  seq : I64 a.seq
  ow : I64 a.ow
  it : I64 a.it
  tg : I64 a.tg
theorem HA.N.R {a : HA} {w : World} {base : Nat} {F : List Nat} (h : a.N w base F) : a.R SA.cells w := by
  obtain ⟨-, c1, c2, -⟩ := own_shape h.own
  unfold maxLen at c2
  exact ⟨h.vw.R, Reads.of_own h.own, fun s hs => (h.sn s hs).R, h.id, h.obj, h.seq, h.ow, h.it, h.tg, by omega, c1⟩
theorem hdv_i64 (s : RD) : I64 s.hdv.id ∧ I64 s.hdv.obj ∧ I64 s.hdv.seq ∧ I64 s.hdv.ow ∧ I64 s.hdv.it ∧ I64 s.hdv.tg := ⟨num_range _, num_range _, num_range _, num_range _, num_range _, num_range _⟩
theorem HA.N.below {a : HA} {w w' : World} {base : Nat} {F : List Nat} (h : a.N w base F) (hb : Below w.heap.size w w') : a.N w' base F :=
  ⟨h.vw.below hb, fun x hx => (h.sn x hx).below hb, own_below h.own hb, h.id, h.obj, h.seq, h.ow, h.it, h.tg⟩
theorem HA.N.weaken {a : HA} {w : World} {base base' : Nat} {F : List Nat} (h : a.N w base F) (hb : base' ≤ base) : a.N w base' F :=
  ⟨h.vw.weaken hb, fun x hx => (h.sn x hx).weaken hb, row_weaken h.own hb, h.id, h.obj, h.seq, h.ow, h.it, h.tg⟩
theorem HA.N.alone {a : HA} {w : World} {base : Nat} {F : List Nat} (h : a.N w base F) : a.N w base [] :=
  ⟨⟨h.vw.own, fun _ _ h => (by cases h), h.vw.ok, h.vw.par, h.vw.size, h.vw.ps, h.vw.ov, h.vw.pl⟩, fun x hx => by
    have q := h.sn x hx
    exact ⟨⟨q.vw.own, fun _ _ h => (by cases h), q.vw.ok, q.vw.par, q.vw.size, q.vw.ps, q.vw.ov, q.vw.pl⟩, q.own, fun _ _ h => (by cases h), q.ok, q.name, q.num, q.nl⟩, h.own, h.id, h.obj, h.seq, h.ow, h.it, h.tg⟩
/-- a store to one head's block turns none of it -/
theorem HA.N.stay {a : HA} {w w' : World} {base g : Nat} {F : List Nat} {cs : Array Value} (h : a.N w base F) (hk : Blk w g 36 cs) (o : Only [g] w w') : a.N w' base F := by
  have st := stay_only hk (by decide) (by decide) o
  refine ⟨h.vw.stay st, fun x hx => (h.sn x hx).stay st, row_of h.own fun k hm => o.block k (row_under h.own k hm) (fun hx => ?_), h.id, h.obj, h.seq, h.ow, h.it, h.tg⟩
  simp at hx
  subst hx
  obtain ⟨cs', hb⟩ := own_ty h.own hm
  exact hb.ne_ hk (by decide) rfl
def TakeH (b : List Nat) : Prop := (⟨b, false⟩ : RD).hdv.B = true ∧ (⟨b, false⟩ : RD).hdv.put = b
def HTakeTo (w : World) (b : List Nat) (e : Ending) (w' : World) : Prop :=
  Below w.heap.size w w' ∧ ((TakeH b ∧ ∃ a : HA, e = .returned (.tuple #[.agg a.cs, .nilIface]) ∧ a.v = (⟨b, false⟩ : RD).hdv ∧ a.N w' w.heap.size []) ∨ (¬ TakeH b ∧ e = .returned (.tuple #[.agg #[.int .i64 0, .int .i64 0, .int .i64 0, .int .i64 0, .slice none 0 0, .bool false, .bool false, .slice none 0 0, .string ⟨#[]⟩, .int .i64 0, .int .i64 0, .int .i64 0, .int .i64 0, .int .i64 0], errV 2])))
theorem txt_lt {c : List Nat} (h : ∀ b ∈ c, b < 256) : ∀ b ∈ txt c, b < 256 := by
  intro b hb
  rcases List.mem_append.1 hb with hb | hb
  · exact numB_lt _ b hb
  · exact h b hb
theorem putVw_lt {m : MkV} {l : LkV} (h1 : Good m.row) (h2 : ∀ b ∈ l.par, b < 256) : ∀ b ∈ putVw m l, b < 256 := by
  intro b hb
  simp only [putVw, putMk, putLk, flagB, List.mem_append, List.mem_singleton] at hb
  rcases hb with (rfl | rfl | hb) | (hb | hb | hb)
  · split <;> omega
  · split <;> omega
  · exact txt_lt (putM_lt h1) b hb
  · exact txt_lt h2 b hb
  · exact numB_lt _ b hb
  · exact numB_lt _ b hb
theorem named_lt {c : List Nat} (h : namedB c = true) : ∀ b ∈ c, b < 256 := by
  intro b hb
  unfold namedB at h
  simp only [Bool.and_eq_true, List.all_eq_true] at h
  have := h.2 b hb
  rcases sign_cases b with ⟨-, q⟩ | ⟨q, -⟩
  · omega
  · rw [q] at this; cases this
theorem putSn_lt {s : SnV} (h : SnG s) (hp : ∀ b ∈ s.lk.par, b < 256) : ∀ b ∈ putSn s, b < 256 := by
  intro b hb
  simp only [putSn, flagB, List.mem_append, List.mem_singleton, List.mem_flatMap] at hb
  rcases hb with hb | hb | hb | hb | rfl | hb | ⟨c, hc, hb⟩
  · exact numB_lt _ b hb
  · exact txt_lt (named_lt h.name) b hb
  · exact numB_lt _ b hb
  · exact putVw_lt h.row hp b hb
  · split <;> omega
  · exact numB_lt _ b hb
  · exact txt_lt (named_lt (h.ch c hc)) b hb
theorem hput_lt {h : HdV} (hB : h.B = true) (hp : ∀ b ∈ h.lk.par, b < 256) (hs : ∀ s ∈ h.sn, ∀ b ∈ s.lk.par, b < 256) : ∀ b ∈ h.put, b < 256 := by
  have hg := HdV.B_good hB
  intro b hb
  simp only [HdV.put, List.mem_append, List.mem_flatMap] at hb
  rcases hb with hb | hb | hb | hb | hb | ⟨s, h1, h2⟩ | hb | hb | hb | hb
  · exact numB_lt _ b hb
  · exact numB_lt _ b hb
  · exact numB_lt _ b hb
  · exact numB_lt _ b hb
  · exact numB_lt _ b hb
  · exact putSn_lt (hg.sn s h1) (hs s h1) b h2
  · exact putVw_lt hg.row hp b hb
  · exact numB_lt _ b hb
  · exact numB_lt _ b hb
  · exact numB_lt _ b hb
set_option maxHeartbeats 16000000 in
theorem htake_any (A : Option Addr) (n c : Nat) (b : List Nat) (w : World) (hb : Bytes w w.heap.size A n b) (hn : n ≤ 1000000)
    (HT : ∀ (w1 : World) (base : Nat) (F : List Nat) (p : Option Addr), Rd w1 base F p ⟨b, false⟩ → base ≤ w1.heap.size → Calls Try.prog 50 #[.pointer p] w1 (THeadTo w1 base F p ⟨b, false⟩))
    (hsm : ∀ a : HA, a.v = (⟨b, false⟩ : RD).hdv → a.Sm) : Calls Try.prog 17 #[.slice A n c] w (HTakeTo w b) := by
  obtain ⟨w0, hw0⟩ : ∃ w0, w0 = w.alloc (.cells #[.int .i64 0, .int .i64 0, .int .i64 0, .int .i64 0, .slice none 0 0, .bool false, .bool false, .slice none 0 0, .string ⟨#[]⟩, .int .i64 0, .int .i64 0, .int .i64 0, .int .i64 0, .int .i64 0] 36) := ⟨_, rfl⟩
  have hb0 : Below w.heap.size w w0 := by rw [hw0]; exact below_alloc w _
  have k0 : Blk w0 w.heap.size 36 #[.int .i64 0, .int .i64 0, .int .i64 0, .int .i64 0, .slice none 0 0, .bool false, .bool false, .slice none 0 0, .string ⟨#[]⟩, .int .i64 0, .int .i64 0, .int .i64 0, .int .i64 0, .int .i64 0] := by rw [hw0]; exact Blk.new w _ _
  have HW := Lib.hid hw0
  have HK := Lib.hid k0
  have HB0 := Lib.hid hb0
  have HBY := Lib.hid hb
  have HSM := Lib.hid hsm
  have HTT := Lib.hid HT
  have HNR := Lib.hid (newr_any A n c b w0 w0.heap.size (by omega) ((hb.since hb0).more hb0.size))
  have hz := head_zero
  obtain ⟨s, hs⟩ : ∃ s : RD, s = ⟨b, false⟩ := ⟨_, rfl⟩
  have HS := Lib.hid hs
  have hl0 := hb0.size
  have hl1 := k0.lt
  clear hw0 k0 hb0 hb hsm HT hs
  go_enter Try.func17, Try.ntmps17
  go_upto_region 1 with (fail)
  rw [← HW.out]
  clear HW
  go_wp2_with fail
  refine HNR.out.mono ?_
  rintro e w1 ⟨g, F, rfl, hr, b1⟩
  have HR1 := Lib.hid (And.intro hr b1)
  have HTC := Lib.hid (HTT.out w1 w0.heap.size F (some ⟨g, 0, none⟩) hr b1.size)
  clear hr b1 HNR HTT
  go_wp2_with fail
  refine HTC.out.mono ?_
  rintro e w2 ⟨a, F2, rfl, hav, hvw, hsn, hown, hfar, hrd, o, f⟩
  have hB12 : Below w0.heap.size w1 w2 := o.below HR1.out.1.over HR1.out.2.size
  have hB02 : Below w0.heap.size w0 w2 := HR1.out.2.trans hB12
  have hN : a.N w2 w1.heap.size F2 := by
    have q := hdv_i64 (⟨b, false⟩ : RD)
    rw [← hav] at q
    exact ⟨hvw, hsn, hown, q.1, q.2.1, q.2.2.1, q.2.2.2.1, q.2.2.2.2.1, q.2.2.2.2.2⟩
  obtain ⟨w3, hw3⟩ : ∃ w3, w3 = w2.alloc (.cells a.cs 36) := ⟨_, rfl⟩
  obtain ⟨g4, hg4⟩ : ∃ g4, g4 = w2.heap.size := ⟨_, rfl⟩
  have hb3 : Below w2.heap.size w2 w3 := by rw [hw3]; exact below_alloc w2 _
  have hN3 := (hN.below hb3).alone
  have k4 : Blk w3 g4 36 a.cs := by rw [hw3, hg4]; exact Blk.new w2 _ _
  have HP := Lib.hid (hput_any (w := w3) a hN3.R (HSM.out a hav))
  have HA3 := Lib.hid (And.intro hav (And.intro hN3 k4))
  have HB3 : Hid (Below w0.heap.size w0 w3) := Lib.hid (hB02.trans (hb3.mono hB02.size))
  have HG4 : Hid (w0.heap.size ≤ g4 ∧ w1.heap.size ≤ w2.heap.size ∧ w0.heap.size ≤ w1.heap.size) := Lib.hid (by have := hB02.size; have := o.size; have := HR1.out.2.size; omega)
  have HW3 := Lib.hid (And.intro hw3 hg4)
  clear hav hvw hsn hown hfar hrd o f hB12 hB02 hN hb3 hN3 k4 hw3 hg4 HTC
  unfold HA.cs at *
  go_upto_region 2 with (fail)
  rw [← HW3.out.1, ← HW3.out.2]
  clear HW3
  have K4 := HA3.out.2.2
  go_wp2_with (have _h := K4; refine wpList_loadq rfl 36 (.tmp 4) rfl g4 [.int .i64 a.id, .int .i64 a.vw.size, .int .i64 a.obj, .int .i64 a.seq, .slice a.S a.sn.length a.cs', .bool a.vw.on, .bool a.vw.good, .slice a.vw.M a.vw.row.length a.vw.cm, .string (strOf a.vw.par), .int .i64 a.vw.ps, .int .i64 a.vw.ov, .int .i64 a.ow, .int .i64 a.it, .int .i64 a.tg] _ rfl K4 Try.underlying36 rfl (by kernel_rfl) ?_; clear _h K4)
  refine HP.out.mono ?_
  rintro e w5 ⟨b5, hcase⟩
  have HB5 : Hid (Below w0.heap.size w0 w5) := Lib.hid (HB3.out.trans (b5.mono HB3.out.size))
  have HA5 : Hid (a.v = (⟨b, false⟩ : RD).hdv ∧ a.N w5 w1.heap.size [] ∧ Blk w5 g4 36 #[.int .i64 a.id, .int .i64 a.vw.size, .int .i64 a.obj, .int .i64 a.seq, .slice a.S a.sn.length a.cs', .bool a.vw.on, .bool a.vw.good, .slice a.vw.M a.vw.row.length a.vw.cm, .string (strOf a.vw.par), .int .i64 a.vw.ps, .int .i64 a.vw.ov, .int .i64 a.ow, .int .i64 a.it, .int .i64 a.tg]) := Lib.hid ⟨HA3.out.1, HA3.out.2.1.below b5, HA3.out.2.2.of (b5.block _ HA3.out.2.2.lt)⟩
  have HK5 : Hid (Blk w5 w.heap.size 36 #[.int .i64 0, .int .i64 0, .int .i64 0, .int .i64 0, .slice none 0 0, .bool false, .bool false, .slice none 0 0, .string ⟨#[]⟩, .int .i64 0, .int .i64 0, .int .i64 0, .int .i64 0, .int .i64 0]) := Lib.hid (HK.out.of (HB5.out.block _ hl1))
  have HNE : Hid (w.heap.size ≠ g4) := Lib.hid (by have := HG4.out.1; omega)
  have HBT5 : Hid (Bytes w5 w5.heap.size A n b) := Lib.hid ((HBY.out.since (HB0.out.trans (HB5.out.mono HB0.out.size))).more (HB0.out.trans (HB5.out.mono HB0.out.size)).size)
  clear b5 HP HA3
  rcases hcase with ⟨hB, p, rfl, hp⟩ | ⟨hB, rfl⟩
  · obtain ⟨Ap, cp, rfl⟩ := own_form hp
    rw [HA5.out.1] at hB hp
    have hpb : ∀ x ∈ (⟨b, false⟩ : RD).hdv.put, x < 256 := by
      refine hput_lt hB ?_ ?_
      · have e : a.v.lk.par = (⟨b, false⟩ : RD).hdv.lk.par := by rw [HA5.out.1]
        rw [← e]; exact HA5.out.2.1.vw.par
      · intro s hs
        rw [← HA5.out.1] at hs
        obtain ⟨x, hx, rfl⟩ := List.mem_map.1 hs
        exact (HA5.out.2.1.sn x hx).vw.par
    have HEQ := Lib.hid (equal_any Ap A _ n cp c _ _ _ _ w5 (hp.bytes hpb) HBT5.out)
    have HBB := Lib.hid hB
    rw [HA5.out.1]
    clear hB hp hpb
    by_cases heq : (⟨b, false⟩ : RD).hdv.put = b
    · have he : ((⟨b, false⟩ : RD).hdv.put == b) = true := by simpa using heq
      rw [he] at HEQ
      have HTH : Hid (TakeH b) := Lib.hid ⟨HBB.out, heq⟩
      clear he heq
      have K4 := HA5.out.2.2
      have K2 := HK5.out
      go_wp2_with fail
      refine HEQ.out.mono ?_
      rintro e w6 ⟨rfl, rfl⟩
      go_wp2_with (first
        | (have _h := K4; refine wpList_loadq rfl 36 (.tmp 4) rfl g4 [.int .i64 a.id, .int .i64 a.vw.size, .int .i64 a.obj, .int .i64 a.seq, .slice a.S a.sn.length a.cs', .bool a.vw.on, .bool a.vw.good, .slice a.vw.M a.vw.row.length a.vw.cm, .string (strOf a.vw.par), .int .i64 a.vw.ps, .int .i64 a.vw.ov, .int .i64 a.ow, .int .i64 a.it, .int .i64 a.tg] _ rfl K4 Try.underlying36 rfl (by kernel_rfl) ?_; clear _h K4)
        | (have _h := K2; refine wpList_storeq rfl 36 (.tmp 2) (.tmp 25) rfl w.heap.size _ [.int .i64 a.id, .int .i64 a.vw.size, .int .i64 a.obj, .int .i64 a.seq, .slice a.S a.sn.length a.cs', .bool a.vw.on, .bool a.vw.good, .slice a.vw.M a.vw.row.length a.vw.cm, .string (strOf a.vw.par), .int .i64 a.vw.ps, .int .i64 a.vw.ov, .int .i64 a.ow, .int .i64 a.it, .int .i64 a.tg] rfl rfl K2 (by simp) (by kernel_rfl) (one14 _ _ _ _ _ _ _ _ _ _ _ _ _ _ _ _ _ _) ?_; clear _h K2; intro w9 K9 o9 s9))
      refine bodyPost_ret (results_cell_tmp9 rfl _ _ w.heap.size 36 _ (0, 0) _ _ rfl rfl K9 Try.underlying36 rfl (by kernel_rfl)) rfl ?_
      refine ⟨(HB0.out.trans (HB5.out.mono HB0.out.size)).trans (o9.below (fun x hx => by simp at hx; omega) ((HB0.out.trans (HB5.out.mono HB0.out.size)).size)), .inl ⟨HTH.out, a, rfl, HA5.out.1, ?_⟩⟩
      exact (HA5.out.2.1.stay HK5.out o9).weaken (by have := HG4.out; omega)
    · have he : ((⟨b, false⟩ : RD).hdv.put == b) = false := by simpa using heq
      rw [he] at HEQ
      have HTH : Hid (¬ TakeH b) := Lib.hid fun h => heq h.2
      clear he heq
      have K2 := HK5.out
      go_wp2_with fail
      refine HEQ.out.mono ?_
      rintro e w6 ⟨rfl, rfl⟩
      go_wp2_with (have _h := K2; refine wpList_storeq rfl 36 (.tmp 2) (.tmp 23) rfl w.heap.size _ [.int .i64 0, .int .i64 0, .int .i64 0, .int .i64 0, .slice none 0 0, .bool false, .bool false, .slice none 0 0, .string ⟨#[]⟩, .int .i64 0, .int .i64 0, .int .i64 0, .int .i64 0, .int .i64 0] rfl rfl K2 (by simp) (by kernel_rfl) (one14 _ _ _ _ _ _ _ _ _ _ _ _ _ _ _ _ _ _) ?_; clear _h K2; intro w9 K9 o9 s9)
      refine bodyPost_ret (results_cell_tmp9 rfl _ _ w.heap.size 36 _ (0, 0) _ _ rfl rfl K9 Try.underlying36 rfl (by kernel_rfl)) rfl ?_
      exact ⟨(HB0.out.trans (HB5.out.mono HB0.out.size)).trans (o9.below (fun x hx => by simp at hx; omega) ((HB0.out.trans (HB5.out.mono HB0.out.size)).size)), .inr ⟨HTH.out, rfl⟩⟩
  · rw [HA5.out.1] at hB
    have HTH : Hid (¬ TakeH b) := Lib.hid fun h => by have := h.1; rw [hB] at this; cases this
    have K2 := HK5.out
    simp only [errV]
    clear hB
    go_wp2_with (have _h := K2; refine wpList_storeq rfl 36 (.tmp 2) (.tmp 23) rfl w.heap.size _ [.int .i64 0, .int .i64 0, .int .i64 0, .int .i64 0, .slice none 0 0, .bool false, .bool false, .slice none 0 0, .string ⟨#[]⟩, .int .i64 0, .int .i64 0, .int .i64 0, .int .i64 0, .int .i64 0] rfl rfl K2 (by simp) (by kernel_rfl) (one14 _ _ _ _ _ _ _ _ _ _ _ _ _ _ _ _ _ _) ?_; clear _h K2; intro w9 K9 o9 s9)
    refine bodyPost_ret (results_cell_tmp9 rfl _ _ w.heap.size 36 _ (0, 0) _ _ rfl rfl K9 Try.underlying36 rfl (by kernel_rfl)) rfl ?_
    exact ⟨(HB0.out.trans (HB5.out.mono HB0.out.size)).trans (o9.below (fun x hx => by simp at hx; omega) ((HB0.out.trans (HB5.out.mono HB0.out.size)).size)), .inr ⟨HTH.out, rfl⟩⟩
end Go.Proofs.Ytgddenhnpjoabaa

/-
  The law's fixed fact. No condition.
-/
namespace Go.Proofs.Ytgddenhnpjoabaa
open Go.RowKit Go.BigFrame
set_option linter.unusedSimpArgs false
set_option linter.unusedVariables false
set_option maxRecDepth 100000
theorem four_steps {s0 s1 s2 s3 s4 s5 : RD} {id size obj seq n : Int} (a : s0.take 8 = s1 ∧ s0.num = id) (b : s1.take 8 = s2 ∧ s1.num = size) (c : s2.take 8 = s3 ∧ s2.num = obj) (d : s3.take 8 = s4 ∧ s3.num = seq) (f : s4.take 8 = s5 ∧ s4.num = n) : s0.four.num = n := by
  have q0 : s0.four = s4 := by unfold RD.four; rw [a.1, b.1, c.1, d.1]
  rw [q0, f.2]
theorem four_mid {a b : List Nat} {n : Int} (e : a = b) (h : (⟨b, false⟩ : RD).four.num = n) : (⟨a, false⟩ : RD).four.num = n := by rw [e]; exact h
theorem four_back (h : HdV) (hk : h.Ok) : (⟨h.put, false⟩ : RD).four.num = (h.sn.length : Nat) :=
  four_mid (hd_put h) (four_steps (take_num h.id _ hk.id) (take_num h.size _ hk.size) (take_num h.obj _ hk.obj) (take_num h.seq _ hk.seq) (take_num (h.sn.length : Nat) _ (by have := hk.cn; unfold I64; omega)))
def a0 : HA := ⟨0, 16, 0, none, 0, [], ⟨0, false, false, [], none, 0, [], 0, 0⟩, -1, 0, 0⟩
theorem a0_R (w : World) : a0.R SA.cells w :=
  ⟨⟨⟨Reads.none_, fun b hb => (by cases hb)⟩, fun b hb => (by cases hb), by unfold I64; decide, by unfold I64; decide, by unfold I64; decide, by decide, by decide, by decide⟩, Reads.none_, fun s hs => (by cases hs), by unfold I64; decide, by unfold I64; decide, by unfold I64; decide, by unfold I64; decide, by unfold I64; decide, by unfold I64; decide, by decide, by decide⟩
theorem a0_Sm : a0.Sm := ⟨⟨by decide, by decide⟩, by decide, fun s hs => (by cases hs)⟩
theorem a0_B : a0.v.B = true := by decide
theorem a0_Ok : a0.v.Ok := ⟨by unfold I64; decide, by unfold I64; decide, by unfold I64; decide, by unfold I64; decide, fun s hs => (by cases hs), by decide, ⟨⟨by decide, fun x hx => (by cases hx)⟩⟩, ⟨by decide, by unfold I64; decide, by unfold I64; decide⟩, by unfold I64; decide, by unfold I64; decide, by unfold I64; decide⟩
theorem a0_len : a0.v.put.length = 100 := by
  simp only [HdV.put, putVw, putMk, putLk, txt, flagB, List.length_append, numB_len, List.length_singleton, putM_len]
  rfl
theorem sm_of (a : HA) (h : a.v = a0.v) : a.Sm := by
  have h1 : a.sn.map SA.v = [] := congrArg HdV.sn h
  have h2 : a.sn = [] := by simpa using h1
  have h3 : a.vw.row = [] := congrArg (fun x => x.mx.row) h
  have h4 : a.vw.par = [] := congrArg (fun x => x.lk.par) h
  exact ⟨⟨by rw [h3]; decide, by rw [h4]; decide⟩, by rw [h2]; decide, fun s hs => (by rw [h2] at hs; cases hs)⟩
set_option maxHeartbeats 4000000 in
theorem halive_any (w : World) : Calls Try.prog 8 #[] w fun e w' => e = .returned (.bool true) ∧ Below w.heap.size w w' := by
  have HP := Lib.hid (hput_any (w := w) a0 (a0_R w) a0_Sm)
  have hcs : a0.cs = #[.int .i64 0, .int .i64 0, .int .i64 16, .int .i64 0, .slice none 0 0, .bool false, .bool false, .slice none 0 0, .string ⟨#[]⟩, .int .i64 0, .int .i64 0, .int .i64 (-1), .int .i64 0, .int .i64 0] := rfl
  rw [hcs] at HP
  have HB := Lib.hid a0_B
  have hln := a0_len
  obtain ⟨v0, hv0⟩ : ∃ v0, v0 = a0.v := ⟨_, rfl⟩
  rw [← hv0] at HP HB hln
  have hbk := hd_back a0.v a0_Ok
  have hfb := four_back a0.v a0_Ok
  have hsm := sm_of
  rw [← hv0] at hbk hfb hsm
  have HBK := Lib.hid (And.intro hbk.2 (And.intro hfb hsm))
  have HV0 := Lib.hid hv0
  have hz := head_zero
  clear hv0 hbk hfb hsm hcs
  go_enter Try.func8, Try.ntmps8
  go_wp2_with fail
  refine HP.out.mono ?_
  rintro e w1 ⟨b1, ⟨hB, p, rfl, hp⟩ | ⟨hB, rfl⟩⟩
  · obtain ⟨Ap, cp, rfl⟩ := own_form hp
    rw [hln] at hp ⊢
    have hpb : ∀ x ∈ v0.put, x < 256 := by
      rw [HV0.out]
      exact hput_lt a0_B (fun b hb => (by cases hb)) (fun s hs => (by cases hs))
    have HT := Lib.hid (htake_any Ap 100 cp v0.put w1 (hp.bytes hpb) (by omega) (fun w1 base F p hr hB => thead0_any w1 base F p ⟨v0.put, false⟩ hr hB (by show v0.put.length ≤ 1000000; omega) (by rw [HBK.out.2.1, HV0.out]; rfl)) (fun a ha => HBK.out.2.2 a (by rw [ha, HBK.out.1])))
    have HB1 := Lib.hid b1
    have hT : TakeH v0.put := ⟨by rw [HBK.out.1]; exact HB.out, by rw [HBK.out.1]⟩
    have HTK := Lib.hid hT
    clear b1 hB hp hpb hT HP
    go_wp2_with fail
    refine HT.out.mono ?_
    rintro e w2 ⟨b2, ⟨-, a, rfl, hav, hN⟩ | ⟨hno, rfl⟩⟩
    · have e1 : a.obj = 16 := by have := congrArg HdV.obj hav; rw [HBK.out.1, HV0.out] at this; exact this
      have e2 : a.ow = -1 := by have := congrArg HdV.ow hav; rw [HBK.out.1, HV0.out] at this; exact this
      have HB2 := Lib.hid (HB1.out.trans (b2.mono HB1.out.size))
      have HO := Lib.hid (fun w => objects_any 33 16 (by unfold I64; decide) (by unfold I64; decide) w)
      rw [show objsOf 33 16 = 3 from by decide] at HO
      unfold HA.cs
      rw [e1, e2]
      clear b2 hav hN HT e1 e2
      go_wp2_with fail
      refine (HO.out _).mono ?_
      rintro e w3 ⟨rfl, rfl⟩
      go_wp2
      go_ret
      exact ⟨rfl, HB2.out.alloc HB2.out.size _⟩
    · exact absurd HTK.out hno
  · rw [HB.out] at hB
    cases hB
end Go.Proofs.Ytgddenhnpjoabaa

/-
  How arguments that came in are opened: bytes, numbers, flags. No condition.
-/
namespace Go.Proofs.Ytgddenhnpjoabaa
open Go.ChangeShapes Go.WideShapes Go.ChangeAt Go.RowKit
set_option maxRecDepth 100000
theorem own : ownKnob Try.prog.godebug = none := by kernel_rfl
theorem laidOut : laidOutB Try.prog = true := by kernel_rfl
theorem lt_of_cell {w : World} {a : Addr} {v : Value} (h : w.cell? a = some v) : a.block < w.heap.size := by
  rcases Nat.lt_or_ge a.block w.heap.size with h' | h'
  · exact h'
  · simp [World.cell?, Array.getElem?_eq_none h'] at h
theorem getD_map_toNat (zs : List Int) (i : Nat) (h : i < zs.length) (h0 : ∀ z ∈ zs, 0 ≤ z ∧ z ≤ 255) : ((((zs.map Int.toNat)[i]?).getD 0 : Nat) : Int) = zs.getD i 0 := by
  have := h0 _ (List.getElem_mem h)
  simp [h]
  omega
/-- the bytes of a row of cells that hold numbers of eight bits -/
theorem bytes_of_cells {W : World} {a : Addr} {len cap : Nat} {zs : List Int} (hl : len ≤ cap) (hz : zs.length = cap) (hcell : ∀ i, i < cap → W.cell? (a.add i) = some (.int .u8 (zs.getD i 0)))
    (hw : ∀ n ∈ zs, (Lit.int .u8 n).wf = true) : Bytes W W.heap.size (some a) len ((zs.map Int.toNat).take len) := by
  have hb : ∀ z ∈ zs, 0 ≤ z ∧ z ≤ 255 := fun z hz' => by
    have := hw z hz'
    simp [Lit.wf, IntKind.min, IntKind.max, IntKind.bits, IntKind.signed] at this
    omega
  refine ⟨⟨by simp [u8s]; omega, fun hn => ⟨a, rfl, ?_, fun j u hu => ?_⟩⟩, ?_⟩
  · have := lt_of_cell (hcell 0 (by omega))
    rwa [block_of_add] at this
  · have hj : j < len := by
      rcases Nat.lt_or_ge j len with h | h
      · exact h
      · rw [List.getElem?_eq_none (by simp [u8s]; omega)] at hu
        cases hu
    rw [hcell j (by omega), ← hu]
    have := getD_map_toNat zs j (by omega) hb
    simp [u8s, u8, hj, show j < zs.length by omega] at this ⊢
    omega
  · intro b hb'
    obtain ⟨z, hz', rfl⟩ := List.mem_map.1 (List.mem_of_mem_take hb')
    have := hb z hz'
    omega
theorem ints_of_cells {W : World} {a : Addr} {len cap : Nat} {zs : List Int} (hl : len ≤ cap) (hz : zs.length = cap) (hcell : ∀ i, i < cap → W.cell? (a.add i) = some (.int .i64 (zs.getD i 0))) : Ints W W.heap.size (some a) len (zs.take len) := by
  refine ⟨by simp [i64s]; omega, fun hn => ⟨a, rfl, ?_, fun j u hu => ?_⟩⟩
  · have := lt_of_cell (hcell 0 (by omega))
    rwa [block_of_add] at this
  · have hj : j < len := by
      rcases Nat.lt_or_ge j len with h | h
      · exact h
      · rw [List.getElem?_eq_none (by simp [i64s]; omega)] at hu
        cases hu
    rw [hcell j (by omega), ← hu]
    simp [i64s, hj, show j < zs.length by omega]
theorem bytes_of {H : Type} {enc : TypeId × Value → H} {W : World} {n : Nat} {v : Value} {y : DataW H × List MemPlace} (h : DataW.trod enc Try.prog W 0 (fun _ => true) true n 23 [v] = some y) :
    ∃ (A : Option Addr) (m c : Nat) (l : List Nat), v = .slice A m c ∧ (m ≤ c ∧ c ≤ 9223372036854775807) ∧ Bytes W W.heap.size A m l := by
  rcases open_ints Try.underlying23 Try.underlying5 (by kernel_rfl) h with ⟨hcs, _⟩ | ⟨x, l, c, zs, hcs, _, hl, hm, hz, _, hcell, hwz⟩
  · exact ⟨none, 0, 0, [], by simpa using hcs, ⟨by omega, by omega⟩, Reads.none_, by simp⟩
  · simp only [List.cons.injEq, and_true] at hcs
    simp only [if_true] at hz
    unfold maxLen at hm
    exact ⟨_, _, _, _, hcs, ⟨by omega, by omega⟩, bytes_of_cells hl hz (fun i hi => hcell i (by omega)) hwz⟩
theorem open_bytes {H : Type} {enc : TypeId × Value → H} {W : World} {base : Nat} {v : Value} {d : DataW H} {p : List MemPlace} (hval : Value.okWide Try.prog W .any base 23 v)
    (h : DataW.Trod enc Try.prog W 0 (fun _ => true) true 23 v d p) : ∃ (A : Option Addr) (n c : Nat) (bs : List Nat), v = .slice A n c ∧ (n ≤ c ∧ c ≤ 9223372036854775807) ∧ Bytes W W.heap.size A n bs := by
  obtain ⟨a0, len0, cap0, rfl⟩ := okWide_slice Try.underlying23 hval
  obtain ⟨fuel, hf⟩ := h
  exact bytes_of hf
theorem open_i64 {H : Type} {enc : TypeId × Value → H} {W : World} {base : Nat} {v : Value} {d : DataW H} {p : List MemPlace} (hval : Value.okWide Try.prog W .any base 3 v)
    (h : DataW.Trod enc Try.prog W 0 (fun _ => true) true 3 v d p) : ∃ x : Int, v = .int .i64 x ∧ -9223372036854775808 ≤ x ∧ x ≤ 9223372036854775807 := by
  obtain ⟨x, rfl, _, _, wx⟩ := open_int Try.underlying3 hval h
  simp [Lit.wf, IntKind.min, IntKind.max, IntKind.bits, IntKind.signed] at wx
  exact ⟨x, rfl, by omega, by omega⟩
/-- flags as cells -/
def Flags (w : World) (B : Nat) (A : Option Addr) (n : Nat) (l : List Bool) : Prop := Reads w B 1 A n (l.map Value.bool)
theorem Flags.len {w : World} {B n : Nat} {A : Option Addr} {l : List Bool} (h : Flags w B A n l) : l.length = n := by have := h.1; rw [List.length_map] at this; omega
theorem Flags.below {w w' : World} {B n : Nat} {A : Option Addr} {l : List Bool} (h : Flags w B A n l) (hb : Below B w w') : Flags w' B A n l := Reads.below h hb
theorem Flags.at_ {w : World} {B n k : Nat} {A : Option Addr} {l : List Bool} (h : Flags w B A n l) (hk : k < n) : ∃ ad x, A = some ad ∧ l[k]? = some x ∧ w.cell? (ad.add k) = some (.bool x) := by
  obtain ⟨ad, u, e, hb, hx, hc⟩ := Reads.at_ h hk
  have hl : k < l.length := by have := h.len; omega
  refine ⟨ad, l[k], e, List.getElem?_eq_getElem hl, ?_⟩
  rw [hc, ← hx]
  simp [hl]
theorem flags_of_cells {W : World} {a : Addr} {len cap : Nat} {B : Nat → Bool} (hl : len ≤ cap) (hcell : ∀ i, i < cap → W.cell? (a.add i) = some (.bool (B i))) : Flags W W.heap.size (some a) len ((List.range len).map B) := by
  refine ⟨by simp, fun hn => ⟨a, rfl, ?_, fun j u hu => ?_⟩⟩
  · have := lt_of_cell (hcell 0 (by omega))
    rwa [block_of_add] at this
  · have hj : j < len := by
      rcases Nat.lt_or_ge j len with h | h
      · exact h
      · rw [List.getElem?_eq_none (by simp; omega)] at hu
        cases hu
    rw [hcell j (by omega), ← hu]
    simp [hj]
theorem open_u8 {H : Type} {enc : TypeId × Value → H} {W : World} {base : Nat} {v : Value} {d : DataW H} {p : List MemPlace} (hval : Value.okWide Try.prog W .any base 5 v)
    (h : DataW.Trod enc Try.prog W 0 (fun _ => true) true 5 v d p) : ∃ x : Nat, v = .int .u8 (x : Int) ∧ x < 256 := by
  obtain ⟨x, rfl, _, _, wx⟩ := open_int Try.underlying5 hval h
  simp [Lit.wf, IntKind.min, IntKind.max, IntKind.bits, IntKind.signed] at wx
  obtain ⟨k, rfl⟩ : ∃ k : Nat, x = (k : Int) := ⟨x.toNat, by omega⟩
  exact ⟨k, rfl, by omega⟩
end Go.Proofs.Ytgddenhnpjoabaa

/-
  How a head that came in is opened. No condition.
-/
namespace Go.Proofs.Ytgddenhnpjoabaa
open Go.ChangeShapes Go.WideShapes Go.ChangeAt Go.RowKit Go.Deep
set_option maxRecDepth 100000
set_option linter.unusedSimpArgs false
set_option linter.unusedVariables false
theorem choose_lt_x {α : Type} [Inhabited α] {n : Nat} {P : Nat → α → Prop} (h : ∀ i, i < n → ∃ x, P i x) : ∃ f : Nat → α, ∀ i, i < n → P i (f i) :=
  ⟨fun i => if hi : i < n then (h i hi).choose else default, fun i hi => by simp only [hi, dif_pos]; exact (h i hi).choose_spec⟩
theorem str_form (s : ByteArray) : strOf (s.data.toList.map UInt8.toNat) = s := by
  have := strOf_data (s.data.toList.map UInt8.toNat)
  rw [List.map_map] at this
  have e : (UInt8.ofNat ∘ UInt8.toNat) = id := by funext x; simp
  rw [e, List.map_id] at this
  cases h : strOf (s.data.toList.map UInt8.toNat) with
  | mk d =>
    rw [h] at this
    cases s with
    | mk d' =>
      congr 1
      exact Array.toList_inj.1 this
theorem str_small (s : ByteArray) : ∀ b ∈ s.data.toList.map UInt8.toNat, b < 256 := by
  intro b hb
  obtain ⟨x, _, rfl⟩ := List.mem_map.1 hb
  exact x.toNat_lt
theorem str_len (s : ByteArray) : (s.data.toList.map UInt8.toNat).length = s.size := by rw [List.length_map, Array.length_toList]; rfl
theorem flat_len {α β : Type} {f : α → List β} {size : Nat} (hf : ∀ x, (f x).length = size) : ∀ l : List α, (l.flatMap f).length = l.length * size
  | [] => by simp
  | x :: l => by rw [List.flatMap_cons, List.length_append, hf, flat_len hf l, List.length_cons, Nat.add_mul]; omega
theorem strs_of {H : Type} {enc : TypeId × Value → H} {W : World} {n : Nat} {v : Value} {y : DataW H × List MemPlace} (h : DataW.trod enc Try.prog W 0 (fun _ => true) true n 64 [v] = some y) :
    ∃ (A : Option Addr) (c : Nat) (l : List (List Nat)), v = .slice A l.length c ∧ (l.length ≤ c ∧ c ≤ 9223372036854775807) ∧ Strs W W.heap.size A l.length l := by
  rcases open_strs Try.underlying64 Try.underlying9 (by kernel_rfl) h with ⟨hcs, _⟩ | ⟨a, len, cap, m, Sx, hcs, _, hl, hm, hmm, _, hcell⟩
  · exact ⟨none, 0, [], by simpa using hcs, ⟨by simp, by omega⟩, Reads.none_, fun c hc => by cases hc⟩
  · simp only [List.cons.injEq, and_true] at hcs
    simp only [if_true] at hmm
    unfold maxLen at hm
    refine ⟨some a, cap, (List.range len).map fun i => (Sx i).data.toList.map UInt8.toNat, by rw [hcs]; simp, ⟨by simpa using hl, by omega⟩, ⟨by simp [strs], fun hn => ⟨a, rfl, ?_, fun j u hu => ?_⟩⟩, fun c hc => ?_⟩
    · have := lt_of_cell (hcell 0 (by simp at hn; omega)).1
      rwa [block_of_add] at this
    · have hj : j < len := by
        rcases Nat.lt_or_ge j len with h | h
        · exact h
        · rw [List.getElem?_eq_none (by simp [strs]; omega)] at hu
          cases hu
      rw [(hcell j (by omega)).1, ← hu]
      simp [strs, hj, str_form]
    · obtain ⟨i, _, rfl⟩ := List.mem_map.1 hc
      exact str_small _
theorem take1 {cs : List Value} {j : Nat} (h : j < cs.length) : (cs.drop j).take 1 = [cs[j]'h] := by
  rw [List.drop_eq_getElem_cons h]
  rfl
theorem i64_of {n : Int} (w : (Lit.int .i64 n).wf = true) : I64 n := by
  simp [Lit.wf, IntKind.min, IntKind.max, IntKind.bits, IntKind.signed] at w
  exact ⟨by omega, by omega⟩
set_option maxRecDepth 100000 in
set_option maxHeartbeats 4000000 in
theorem marked_of {H : Type} {enc : TypeId × Value → H} {W : World} {n : Nat} {cs : List Value} {y : DataW H × List MemPlace} (h : DataW.trod enc Try.prog W 0 (fun _ => true) true n 25 cs = some y) (hl : cs.length = 3) :
    ∃ (p q : Bool) (M : Option Addr) (c : Nat) (l : List Nat), cs = [.bool p, .bool q, .slice M l.length c] ∧ (l.length ≤ c ∧ c ≤ 9223372036854775807) ∧ Bytes W W.heap.size M l.length l := by
  obtain ⟨ys, n', _, _, hlen, hyl, hf⟩ := DataW.trod_struct Try.underlying25 h
  have f0 : DataW.trod enc Try.prog W 0 (fun _ => true) true n' 4 (List.take (Try.prog.cellsOf 4) (List.drop 0 cs)) = ys[0]? := hf 0 _ rfl
  have f1 : DataW.trod enc Try.prog W 0 (fun _ => true) true n' 4 (List.take (Try.prog.cellsOf 4) (List.drop 1 cs)) = ys[1]? := hf 1 _ rfl
  have f2 : DataW.trod enc Try.prog W 0 (fun _ => true) true n' 23 (List.take (Try.prog.cellsOf 23) (List.drop 2 cs)) = ys[2]? := hf 2 _ rfl
  have c___uint8 : Try.prog.cellsOf 23 = 1 := by kernel_rfl
  rw [c___uint8] at f2
  have c_bool : Try.prog.cellsOf 4 = 1 := by kernel_rfl
  rw [c_bool] at f0 f1
  have g0 := f0.trans (List.getElem?_eq_getElem (by rw [hyl]; decide))
  have g1 := f1.trans (List.getElem?_eq_getElem (by rw [hyl]; decide))
  have g2 := f2.trans (List.getElem?_eq_getElem (by rw [hyl]; decide))
  rw [take1 (by omega)] at g0 g1 g2
  obtain ⟨p, e0, _⟩ := DataW.trod_bool Try.underlying4 g0
  obtain ⟨q, e1, _⟩ := DataW.trod_bool Try.underlying4 g1
  obtain ⟨M, m, c, l, e2, hc, hb⟩ := bytes_of g2
  have hl2 := hb.len
  subst hl2
  refine ⟨p, q, M, c, l, ?_, hc, hb⟩
  match cs, hl, e0, e1, e2 with
  | [a0, a1, a2], _, e0, e1, e2 =>
    simp at e0 e1 e2
    subst e0 e1 e2
    rfl
set_option maxRecDepth 100000 in
set_option maxHeartbeats 4000000 in
theorem link_of {H : Type} {enc : TypeId × Value → H} {W : World} {n : Nat} {cs : List Value} {y : DataW H × List MemPlace} (h : DataW.trod enc Try.prog W 0 (fun _ => true) true n 27 cs = some y) (hl : cs.length = 3) :
    ∃ (par : List Nat) (ps ov : Int), cs = [.string (strOf par), .int .i64 ps, .int .i64 ov] ∧ (∀ b ∈ par, b < 256) ∧ par.length ≤ 9223372036854775807 ∧ I64 ps ∧ I64 ov := by
  obtain ⟨ys, n', _, _, hlen, hyl, hf⟩ := DataW.trod_struct Try.underlying27 h
  have f0 : DataW.trod enc Try.prog W 0 (fun _ => true) true n' 9 (List.take (Try.prog.cellsOf 9) (List.drop 0 cs)) = ys[0]? := hf 0 _ rfl
  have f1 : DataW.trod enc Try.prog W 0 (fun _ => true) true n' 3 (List.take (Try.prog.cellsOf 3) (List.drop 1 cs)) = ys[1]? := hf 1 _ rfl
  have f2 : DataW.trod enc Try.prog W 0 (fun _ => true) true n' 3 (List.take (Try.prog.cellsOf 3) (List.drop 2 cs)) = ys[2]? := hf 2 _ rfl
  have c_int : Try.prog.cellsOf 3 = 1 := by kernel_rfl
  rw [c_int] at f1 f2
  have c_string : Try.prog.cellsOf 9 = 1 := by kernel_rfl
  rw [c_string] at f0
  have g0 := f0.trans (List.getElem?_eq_getElem (by rw [hyl]; decide))
  have g1 := f1.trans (List.getElem?_eq_getElem (by rw [hyl]; decide))
  have g2 := f2.trans (List.getElem?_eq_getElem (by rw [hyl]; decide))
  rw [take1 (by omega)] at g0 g1 g2
  obtain ⟨s, e0, _, w0⟩ := DataW.trod_string Try.underlying9 g0
  obtain ⟨n1, e1, _, w1⟩ := DataW.trod_int Try.underlying3 g1
  obtain ⟨n2, e2, _, w2⟩ := DataW.trod_int Try.underlying3 g2
  refine ⟨s.data.toList.map UInt8.toNat, n1, n2, ?_, str_small s, by rw [str_len]; unfold maxLen at w0; omega, i64_of w1, i64_of w2⟩
  rw [str_form]
  match cs, hl, e0, e1, e2 with
  | [a0, a1, a2], _, e0, e1, e2 =>
    simp at e0 e1 e2
    subst e0 e1 e2
    rfl
instance : Inhabited SA := ⟨⟨0, [], false, ⟨0, false, false, [], none, 0, [], 0, 0⟩, [], none, 0⟩⟩
set_option maxRecDepth 100000 in
set_option maxHeartbeats 4000000 in
theorem sa_of {H : Type} {enc : TypeId × Value → H} {W : World} {n : Nat} {cs : List Value} {y : DataW H × List MemPlace} (h : DataW.trod enc Try.prog W 0 (fun _ => true) true n 74 cs = some y) (hl : cs.length = 11) : ∃ s : SA, cs = s.dcells ∧ s.R W := by
  obtain ⟨ys, n', _, _, hlen, hyl, hf⟩ := DataW.trod_struct Try.underlying74 h
  have f0 : DataW.trod enc Try.prog W 0 (fun _ => true) true n' 3 (List.take (Try.prog.cellsOf 3) (List.drop 0 cs)) = ys[0]? := hf 0 _ rfl
  have f1 : DataW.trod enc Try.prog W 0 (fun _ => true) true n' 3 (List.take (Try.prog.cellsOf 3) (List.drop 1 cs)) = ys[1]? := hf 1 _ rfl
  have f2 : DataW.trod enc Try.prog W 0 (fun _ => true) true n' 9 (List.take (Try.prog.cellsOf 9) (List.drop 2 cs)) = ys[2]? := hf 2 _ rfl
  have f3 : DataW.trod enc Try.prog W 0 (fun _ => true) true n' 4 (List.take (Try.prog.cellsOf 4) (List.drop 3 cs)) = ys[3]? := hf 3 _ rfl
  have f4 : DataW.trod enc Try.prog W 0 (fun _ => true) true n' 25 (List.take (Try.prog.cellsOf 25) (List.drop 4 cs)) = ys[4]? := hf 4 _ rfl
  have f5 : DataW.trod enc Try.prog W 0 (fun _ => true) true n' 27 (List.take (Try.prog.cellsOf 27) (List.drop 7 cs)) = ys[5]? := hf 5 _ rfl
  have f6 : DataW.trod enc Try.prog W 0 (fun _ => true) true n' 64 (List.take (Try.prog.cellsOf 64) (List.drop 10 cs)) = ys[6]? := hf 6 _ rfl
  have c___string : Try.prog.cellsOf 64 = 1 := by kernel_rfl
  rw [c___string] at f6
  have c_bool : Try.prog.cellsOf 4 = 1 := by kernel_rfl
  rw [c_bool] at f3
  have c_int : Try.prog.cellsOf 3 = 1 := by kernel_rfl
  rw [c_int] at f0 f1
  have c_lamina_laminaref11_Link : Try.prog.cellsOf 27 = 3 := by kernel_rfl
  rw [c_lamina_laminaref11_Link] at f5
  have c_lamina_laminaref11_Marked : Try.prog.cellsOf 25 = 3 := by kernel_rfl
  rw [c_lamina_laminaref11_Marked] at f4
  have c_string : Try.prog.cellsOf 9 = 1 := by kernel_rfl
  rw [c_string] at f2
  have g0 := f0.trans (List.getElem?_eq_getElem (by rw [hyl]; decide))
  have g1 := f1.trans (List.getElem?_eq_getElem (by rw [hyl]; decide))
  have g2 := f2.trans (List.getElem?_eq_getElem (by rw [hyl]; decide))
  have g3 := f3.trans (List.getElem?_eq_getElem (by rw [hyl]; decide))
  have g4 := f4.trans (List.getElem?_eq_getElem (by rw [hyl]; decide))
  have g5 := f5.trans (List.getElem?_eq_getElem (by rw [hyl]; decide))
  have g6 := f6.trans (List.getElem?_eq_getElem (by rw [hyl]; decide))
  rw [take1 (by omega)] at g0 g1 g2 g3 g6
  obtain ⟨n0, e0, _, w0⟩ := DataW.trod_int Try.underlying3 g0
  obtain ⟨n1, e1, _, w1⟩ := DataW.trod_int Try.underlying3 g1
  obtain ⟨s2, e2, _, w2⟩ := DataW.trod_string Try.underlying9 g2
  obtain ⟨b3, e3, _⟩ := DataW.trod_bool Try.underlying4 g3
  obtain ⟨p, q, M, c, l, e4, hc4, hb4⟩ := marked_of g4 (by rw [List.length_take, List.length_drop, hl]; rfl)
  obtain ⟨par, ps, ov, e5, hp1, hp2, hp3, hp4⟩ := link_of g5 (by rw [List.length_take, List.length_drop, hl]; rfl)
  obtain ⟨C, cc, ch, e6, hc6, hb6⟩ := strs_of g6
  refine ⟨⟨n0, s2.data.toList.map UInt8.toNat, b3, ⟨n1, p, q, l, M, c, par, ps, ov⟩, ch, C, cc⟩, ?_, ⟨⟨hb4, hp1, i64_of w1, hp3, hp4, by simp only; omega, hp2, hc4.1⟩, hb6, str_small s2, i64_of w0, by simp only; omega, by simp only; rw [str_len]; unfold maxLen at w2; omega, hc6.1⟩⟩
  unfold SA.dcells
  simp only
  rw [str_form]
  match cs, hl, e0, e1, e2, e3, e4, e5, e6 with
  | [a0, a1, a2, a3, a4, a5, a6, a7, a8, a9, a10], _, e0, e1, e2, e3, e4, e5, e6 =>
    simp at e0 e1 e2 e3 e4 e5 e6
    obtain ⟨rfl, rfl, rfl⟩ := e4
    obtain ⟨rfl, rfl, rfl⟩ := e5
    subst e0 e1 e2 e3 e6
    rfl
set_option maxRecDepth 100000 in
theorem sas_of {H : Type} {enc : TypeId × Value → H} {W : World} {n : Nat} {v : Value} {y : DataW H × List MemPlace} (h : DataW.trod enc Try.prog W 0 (fun _ => true) true n 22 [v] = some y) :
    ∃ (A : Option Addr) (c : Nat) (l : List SA), v = .slice A l.length c ∧ (l.length ≤ c ∧ c ≤ 9223372036854775807) ∧ Reads W W.heap.size 11 A l.length (l.flatMap SA.dcells) ∧ ∀ s ∈ l, s.R W := by
  rcases open_slice Try.underlying22 h with ⟨hcs, _⟩ | ⟨a, len, cap, m, n', D, Pl, hcs, _, hl, hm, hmm, _, hr⟩
  · simp only [List.cons.injEq, and_true] at hcs
    subst hcs
    exact ⟨none, 0, [], rfl, ⟨by simp, by omega⟩, Reads.none_, fun s hs => by cases hs⟩
  · simp only [List.cons.injEq, and_true] at hcs
    subst hcs
    simp only [if_true] at hmm
    unfold maxLen at hm
    have c6 : Try.prog.cellsOf 74 = 11 := by kernel_rfl
    have hex : ∀ i, i < len → ∃ s : SA, (∀ j v, s.dcells[j]? = some v → W.cell? (a.add (i * 11 + j)) = some v) ∧ s.R W := by
      intro i hi
      obtain ⟨cs', hc, ht'⟩ := hr i (by omega)
      rw [c6] at hc
      obtain ⟨_, hcl, hat⟩ := World.cells?_some hc
      obtain ⟨s, rfl, hs⟩ := sa_of ht' (by omega)
      refine ⟨s, fun j v hj => ?_, hs⟩
      have hj6 : j < 11 := by have := (List.getElem?_eq_some_iff.1 hj).1; rwa [SA.dcells_len] at this
      have := hat j hj6
      rw [← Go.Deep.add_add, this, hj]
    obtain ⟨f, hf⟩ := choose_lt_x hex
    have hat : ∀ k, k < len → ((List.range len).map f)[k]? = some (f k) := fun k hk => by rw [List.getElem?_map, List.getElem?_range hk]; rfl
    have hfl : (((List.range len).map f).flatMap SA.dcells).length = len * 11 := by
      rw [flat_len SA.dcells_len]
      simp
    refine ⟨some a, cap, (List.range len).map f, by simp, ⟨by simpa using hl, by omega⟩, ⟨by simpa using hfl, fun hn => ⟨a, rfl, ?_, fun j u hu => ?_⟩⟩, fun s hs => ?_⟩
    · have := lt_of_cell ((hf 0 (by simpa using hn)).1 0 _ rfl)
      rwa [block_of_add] at this
    · have hj : j < len * 11 := by
        rcases Nat.lt_or_ge j (len * 11) with h | h
        · exact h
        · rw [List.getElem?_eq_none (by rw [hfl]; exact h)] at hu; cases hu
      have hk : j / 11 < len := by omega
      have h5 := flat_at SA.dcells 11 SA.dcells_len _ (j / 11) (j % 11) (f (j / 11)) (hat (j / 11) hk) (by omega)
      rw [show j / 11 * 11 + j % 11 = j by omega, hu] at h5
      have := (hf (j / 11) hk).1 (j % 11) u h5.symm
      rwa [show j / 11 * 11 + j % 11 = j by omega] at this
    · obtain ⟨i, hi, rfl⟩ := List.mem_map.1 hs
      exact (hf i (List.mem_range.1 hi)).2
set_option maxRecDepth 100000 in
set_option maxHeartbeats 4000000 in
theorem ha_of {H : Type} {enc : TypeId × Value → H} {W : World} {n : Nat} {cs : List Value} {y : DataW H × List MemPlace} (h : DataW.trod enc Try.prog W 0 (fun _ => true) true n 29 cs = some y) (hl : cs.length = 14) : ∃ a : HA, cs.toArray = a.cs ∧ a.R SA.dcells W := by
  obtain ⟨ys, n', _, _, hlen, hyl, hf⟩ := DataW.trod_struct Try.underlying29 h
  have f0 : DataW.trod enc Try.prog W 0 (fun _ => true) true n' 3 (List.take (Try.prog.cellsOf 3) (List.drop 0 cs)) = ys[0]? := hf 0 _ rfl
  have f1 : DataW.trod enc Try.prog W 0 (fun _ => true) true n' 3 (List.take (Try.prog.cellsOf 3) (List.drop 1 cs)) = ys[1]? := hf 1 _ rfl
  have f2 : DataW.trod enc Try.prog W 0 (fun _ => true) true n' 3 (List.take (Try.prog.cellsOf 3) (List.drop 2 cs)) = ys[2]? := hf 2 _ rfl
  have f3 : DataW.trod enc Try.prog W 0 (fun _ => true) true n' 3 (List.take (Try.prog.cellsOf 3) (List.drop 3 cs)) = ys[3]? := hf 3 _ rfl
  have f4 : DataW.trod enc Try.prog W 0 (fun _ => true) true n' 22 (List.take (Try.prog.cellsOf 22) (List.drop 4 cs)) = ys[4]? := hf 4 _ rfl
  have f5 : DataW.trod enc Try.prog W 0 (fun _ => true) true n' 25 (List.take (Try.prog.cellsOf 25) (List.drop 5 cs)) = ys[5]? := hf 5 _ rfl
  have f6 : DataW.trod enc Try.prog W 0 (fun _ => true) true n' 27 (List.take (Try.prog.cellsOf 27) (List.drop 8 cs)) = ys[6]? := hf 6 _ rfl
  have f7 : DataW.trod enc Try.prog W 0 (fun _ => true) true n' 3 (List.take (Try.prog.cellsOf 3) (List.drop 11 cs)) = ys[7]? := hf 7 _ rfl
  have f8 : DataW.trod enc Try.prog W 0 (fun _ => true) true n' 3 (List.take (Try.prog.cellsOf 3) (List.drop 12 cs)) = ys[8]? := hf 8 _ rfl
  have f9 : DataW.trod enc Try.prog W 0 (fun _ => true) true n' 3 (List.take (Try.prog.cellsOf 3) (List.drop 13 cs)) = ys[9]? := hf 9 _ rfl
  have c___laminaref11_Snap : Try.prog.cellsOf 22 = 1 := by kernel_rfl
  rw [c___laminaref11_Snap] at f4
  have c_int : Try.prog.cellsOf 3 = 1 := by kernel_rfl
  rw [c_int] at f0 f1 f2 f3 f7 f8 f9
  have c_lamina_laminaref11_Link : Try.prog.cellsOf 27 = 3 := by kernel_rfl
  rw [c_lamina_laminaref11_Link] at f6
  have c_lamina_laminaref11_Marked : Try.prog.cellsOf 25 = 3 := by kernel_rfl
  rw [c_lamina_laminaref11_Marked] at f5
  have g0 := f0.trans (List.getElem?_eq_getElem (by rw [hyl]; decide))
  have g1 := f1.trans (List.getElem?_eq_getElem (by rw [hyl]; decide))
  have g2 := f2.trans (List.getElem?_eq_getElem (by rw [hyl]; decide))
  have g3 := f3.trans (List.getElem?_eq_getElem (by rw [hyl]; decide))
  have g4 := f4.trans (List.getElem?_eq_getElem (by rw [hyl]; decide))
  have g5 := f5.trans (List.getElem?_eq_getElem (by rw [hyl]; decide))
  have g6 := f6.trans (List.getElem?_eq_getElem (by rw [hyl]; decide))
  have g7 := f7.trans (List.getElem?_eq_getElem (by rw [hyl]; decide))
  have g8 := f8.trans (List.getElem?_eq_getElem (by rw [hyl]; decide))
  have g9 := f9.trans (List.getElem?_eq_getElem (by rw [hyl]; decide))
  rw [take1 (by omega)] at g0 g1 g2 g3 g4 g7 g8 g9
  obtain ⟨n0, e0, _, w0⟩ := DataW.trod_int Try.underlying3 g0
  obtain ⟨n1, e1, _, w1⟩ := DataW.trod_int Try.underlying3 g1
  obtain ⟨n2, e2, _, w2⟩ := DataW.trod_int Try.underlying3 g2
  obtain ⟨n3, e3, _, w3⟩ := DataW.trod_int Try.underlying3 g3
  obtain ⟨S, sc, sn, e4, hc4, hr4, hs4⟩ := sas_of g4
  obtain ⟨p, q, M, c, l, e5, hc5, hb5⟩ := marked_of g5 (by rw [List.length_take, List.length_drop, hl]; rfl)
  obtain ⟨par, ps, ov, e6, hp1, hp2, hp3, hp4⟩ := link_of g6 (by rw [List.length_take, List.length_drop, hl]; rfl)
  obtain ⟨n7, e7, _, w7⟩ := DataW.trod_int Try.underlying3 g7
  obtain ⟨n8, e8, _, w8⟩ := DataW.trod_int Try.underlying3 g8
  obtain ⟨n9, e9, _, w9⟩ := DataW.trod_int Try.underlying3 g9
  refine ⟨⟨n0, n2, n3, S, sc, sn, ⟨n1, p, q, l, M, c, par, ps, ov⟩, n7, n8, n9⟩, ?_, ⟨⟨hb5, hp1, i64_of w1, hp3, hp4, by simp only; omega, hp2, hc5.1⟩, hr4, hs4, i64_of w0, i64_of w2, i64_of w3, i64_of w7, i64_of w8, i64_of w9, by simp only; omega, hc4.1⟩⟩
  match cs, hl, e0, e1, e2, e3, e4, e5, e6, e7, e8, e9 with
  | [a0, a1, a2, a3, a4, a5, a6, a7, a8, a9, a10, a11, a12, a13], _, e0, e1, e2, e3, e4, e5, e6, e7, e8, e9 =>
    simp at e0 e1 e2 e3 e4 e5 e6 e7 e8 e9
    obtain ⟨rfl, rfl, rfl⟩ := e5
    obtain ⟨rfl, rfl, rfl⟩ := e6
    subst e0 e1 e2 e3 e4 e7 e8 e9
    rfl
set_option maxRecDepth 100000 in
theorem open_ha {H : Type} {enc : TypeId × Value → H} {W : World} {base : Nat} {v : Value} {d : DataW H} {p : List MemPlace} (hval : Value.okWide Try.prog W .any base 29 v)
    (h : DataW.Trod enc Try.prog W 0 (fun _ => true) true 29 v d p) : ∃ x : HA, v = .agg x.cs ∧ x.R SA.dcells W := by
  obtain ⟨cs, rfl, hsz⟩ := okWide_struct Try.underlying29 hval
  obtain ⟨fuel, hf⟩ := h
  have h4 : Try.prog.cellsOf 29 = 14 := by kernel_rfl
  rw [h4] at hsz
  obtain ⟨l, rfl⟩ : ∃ l : List Value, cs = l.toArray := ⟨cs.toList, by simp⟩
  obtain ⟨s, e, hR⟩ := ha_of (cs := l) hf (by simpa using hsz)
  exact ⟨s, by rw [e], hR⟩
end Go.Proofs.Ytgddenhnpjoabaa

/-
  More than is looked at? Conditions: the head reads as it is said to.
-/
namespace Go.Proofs.Ytgddenhnpjoabaa
open Go.RowKit Go.BigFrame
set_option linter.unusedSimpArgs false
set_option linter.unusedVariables false
set_option maxRecDepth 100000
structure SA.Lm (s : SA) : Prop where
  ch : s.ch.length ≤ 50
  row : s.vw.row.length ≤ 500
  name : s.name.length ≤ 100
  par : s.vw.par.length ≤ 100
  cl : ∀ c ∈ s.ch, c.length ≤ 100
structure HA.Lm (a : HA) : Prop where
  cn : a.sn.length ≤ 20
  row : a.vw.row.length ≤ 500
  par : a.vw.par.length ≤ 100
  sn : ∀ s ∈ a.sn, s.Lm
def LargeTo (w : World) (a : HA) (e : Ending) (w' : World) : Prop := ∃ b, e = .returned (.bool b) ∧ Below w.heap.size w w' ∧ (b = false → a.Lm)
set_option maxHeartbeats 8000000 in
theorem hlarge_any (a : HA) (w : World) (hR : a.R SA.dcells w) : Calls Try.prog 9 #[.agg a.cs] w (LargeTo w a) := by
  have B0 := Lib.hid (below_alloc w (.cells a.cs 29))
  have HR := Lib.hid hR
  have hps := strOf_size a.vw.par
  have hl1 := hR.l1
  have hl2 := hR.vw.l1
  have hl3 := hR.vw.l2
  clear hR
  unfold HA.cs at *
  by_cases c1 : a.sn.length ≤ 20
  · have d1 : decide (20 < (a.sn.length : Int)) = false := decide_eq_false (by omega)
    by_cases c2 : a.vw.row.length ≤ 500
    · have d2 : decide (500 < (a.vw.row.length : Int)) = false := decide_eq_false (by omega)
      by_cases c3 : a.vw.par.length ≤ 100
      · have d3 : decide (100 < (a.vw.par.length : Int)) = false := decide_eq_false (by omega)
        go_enter Try.func9, Try.ntmps9
        go_wp2
        generalize hw0 : w.alloc _ = w0 at *
        go_loopw [28] (fun i wr => ∃ k : Nat, k ≤ a.sn.length ∧ i = .int .i64 k ∧ Below w0.heap.size w0 wr ∧ ∀ j s, j < k → a.sn[j]? = some s → s.Lm) (fun i _ => a.sn.length - (intOf i).toNat)
        case atStart => exact ⟨0, by omega, rfl, Below.refl _ _, fun j s h => by omega⟩
        case round =>
          obtain ⟨k, hk, rfl, hb, hall⟩ := hrel
          have HALL := Lib.hid hall
          have HB := Lib.hid (B0.out.trans (hb.mono B0.out.size))
          have hb0 := Lib.hid hb
          have hwk : IntKind.i64.wrap ((k : Int) + 1) = (k : Int) + 1 := by rw [IntKind.wrap_i64]; omega
          clear hall hb
          by_cases hlt : k < a.sn.length
          · obtain ⟨s, hs⟩ : ∃ s, a.sn[k]? = some s := ⟨_, List.getElem?_eq_getElem hlt⟩
            have hR1 := HR.out.since HB.out
            obtain ⟨ad, had, -, hc⟩ := snap_at SA.dcells_len hR1.row hs
            have hsR := hR1.sn s (List.mem_of_getElem? hs)
            have HS := Lib.hid hs
            have HSR := Lib.hid hsR
            have hsn := strOf_size s.name
            have hsp := strOf_size s.vw.par
            have m1 := hsR.l1
            have m2 := hsR.l2
            have m3 := hsR.vw.l1
            have m4 := hsR.vw.l2
            obtain ⟨wB, hwB⟩ : ∃ wB, wB = wr.alloc (.cells #[.int .i64 s.num, .int .i64 s.vw.size, .string (strOf s.name), .bool s.prot, .bool s.vw.on, .bool s.vw.good, .slice s.vw.M s.vw.row.length s.vw.cm, .string (strOf s.vw.par), .int .i64 s.vw.ps, .int .i64 s.vw.ov, .slice s.C s.ch.length s.cc] 74) := ⟨_, rfl⟩
            have hbB : Below wr.heap.size wr wB := by rw [hwB]; exact below_alloc wr _
            have HBB := Lib.hid (And.intro (HB.out.trans (hbB.mono HB.out.size)) (hb0.out.trans (hbB.mono hb0.out.size)))
            have KB : Blk wB wr.heap.size 74 #[.int .i64 s.num, .int .i64 s.vw.size, .string (strOf s.name), .bool s.prot, .bool s.vw.on, .bool s.vw.good, .slice s.vw.M s.vw.row.length s.vw.cm, .string (strOf s.vw.par), .int .i64 s.vw.ps, .int .i64 s.vw.ov, .slice s.C s.ch.length s.cc] := by rw [hwB]; exact Blk.new wr _ _
            have q2 : wB.cell? ⟨wr.heap.size, 2, none⟩ = some (.string (strOf s.name)) := KB.cell 2
            have q6 : wB.cell? ⟨wr.heap.size, 6, none⟩ = some (.slice s.vw.M s.vw.row.length s.vw.cm) := KB.cell 6
            have q7 : wB.cell? ⟨wr.heap.size, 7, none⟩ = some (.string (strOf s.vw.par)) := KB.cell 7
            have q10 : wB.cell? ⟨wr.heap.size, 10, none⟩ = some (.slice s.C s.ch.length s.cc) := KB.cell 10
            have HWB := Lib.hid hwB
            have HCH : Hid (Strs wB wB.heap.size s.C s.ch.length s.ch) := Lib.hid ((hsR.ch.since hbB).more hbB.size)
            have HADS : Hid (a.sn[k]? = some s) := HS
            generalize a.S = sS at *
            subst had
            clear hs hsR hR1 hwB hbB KB
            go_upto_region 6 with (have _h := hc; refine wpList_loadp rfl 74 (.tmp 30) rfl _ [.int .i64 s.num, .int .i64 s.vw.size, .string (strOf s.name), .bool s.prot, .bool s.vw.on, .bool s.vw.good, .slice s.vw.M s.vw.row.length s.vw.cm, .string (strOf s.vw.par), .int .i64 s.vw.ps, .int .i64 s.vw.ov, .slice s.C s.ch.length s.cc] _ rfl hc Try.underlying74 rfl (by kernel_rfl) ?_; clear _h hc)
            rw [← HWB.out]
            clear HWB
            by_cases e1 : s.ch.length ≤ 50
            · have f1 : decide (50 < (s.ch.length : Int)) = false := decide_eq_false (by omega)
              by_cases e2 : s.vw.row.length ≤ 500
              · have f2 : decide (500 < (s.vw.row.length : Int)) = false := decide_eq_false (by omega)
                by_cases e3 : s.name.length ≤ 100
                · have f3 : decide (100 < (s.name.length : Int)) = false := decide_eq_false (by omega)
                  by_cases e4 : s.vw.par.length ≤ 100
                  · have f4 : decide (100 < (s.vw.par.length : Int)) = false := decide_eq_false (by omega)
                    go_wp2
                    go_loopw [59] (fun i wr => ∃ q : Nat, q ≤ s.ch.length ∧ i = .int .i64 q ∧ wr = wB ∧ ∀ j c, j < q → s.ch[j]? = some c → c.length ≤ 100) (fun i _ => s.ch.length - (intOf i).toNat)
                    case atStart => exact ⟨0, by omega, rfl, by trivial, fun j c h => by omega⟩
                    case round =>
                      obtain ⟨q, hq, rfl, rfl, hql⟩ := hrel
                      have HQL := Lib.hid hql
                      have hwq : IntKind.i64.wrap ((q : Int) + 1) = (q : Int) + 1 := by rw [IntKind.wrap_i64]; omega
                      clear hql
                      by_cases hlq : q < s.ch.length
                      · obtain ⟨adc, c, hadc, hck, hc2, hcell⟩ := HCH.out.at_ hlq
                        have HCK := Lib.hid hck
                        have hcs := strOf_size c
                        generalize s.C = sC at *
                        subst hadc
                        clear hck
                        by_cases g1 : c.length ≤ 100
                        · have x1 : decide (100 < (c.length : Int)) = false := decide_eq_false (by omega)
                          go_wp2
                          go_roundw
                          case rel => exact ⟨q + 1, by omega, by go_num, by trivial, fun j c' hj hc' => by
                            rcases Nat.lt_succ_iff_lt_or_eq.1 hj with h | rfl
                            · exact HQL.out j c' h hc'
                            · rw [HCK.out] at hc'; injection hc' with hc'; subst hc'; exact g1⟩
                          case measure => simp [intOf]; omega
                        · have x1 : decide (100 < (c.length : Int)) = true := decide_eq_true (by omega)
                          go_wp2
                          go_ret
                          exact ⟨true, rfl, HBB.out.1, fun h => by cases h⟩
                      · obtain rfl : q = s.ch.length := by omega
                        go_wp2
                        go_roundw
                        case rel => exact ⟨k + 1, by omega, by go_num, HBB.out.2, fun j s' hj hs' => by
                          rcases Nat.lt_succ_iff_lt_or_eq.1 hj with h | rfl
                          · exact HALL.out j s' h hs'
                          · rw [HS.out] at hs'; injection hs' with hs'; subst hs'
                            exact ⟨e1, e2, e3, e4, fun c hc => by obtain ⟨j, hj, rfl⟩ := List.mem_iff_getElem.1 hc; exact HQL.out j _ hj (List.getElem?_eq_getElem hj)⟩⟩
                        case measure => simp [intOf]; omega
                  · have f4 : decide (100 < (s.vw.par.length : Int)) = true := decide_eq_true (by omega)
                    go_wp2
                    go_ret
                    exact ⟨true, rfl, HBB.out.1, fun h => by cases h⟩
                · have f3 : decide (100 < (s.name.length : Int)) = true := decide_eq_true (by omega)
                  go_wp2
                  go_ret
                  exact ⟨true, rfl, HBB.out.1, fun h => by cases h⟩
              · have f2 : decide (500 < (s.vw.row.length : Int)) = true := decide_eq_true (by omega)
                go_wp2
                go_ret
                exact ⟨true, rfl, HBB.out.1, fun h => by cases h⟩
            · have f1 : decide (50 < (s.ch.length : Int)) = true := decide_eq_true (by omega)
              go_wp2
              go_ret
              exact ⟨true, rfl, HBB.out.1, fun h => by cases h⟩
          · obtain rfl : k = a.sn.length := by omega
            go_wp2
            go_ret
            exact ⟨false, rfl, HB.out, fun _ => ⟨c1, c2, c3, fun s hs => by obtain ⟨j, hj, rfl⟩ := List.mem_iff_getElem.1 hs; exact HALL.out j _ hj (List.getElem?_eq_getElem hj)⟩⟩
      · have d3 : decide (100 < (a.vw.par.length : Int)) = true := decide_eq_true (by omega)
        go_enter Try.func9, Try.ntmps9
        go_wp2
        go_ret
        exact ⟨true, rfl, B0.out, fun h => by cases h⟩
    · have d2 : decide (500 < (a.vw.row.length : Int)) = true := decide_eq_true (by omega)
      go_enter Try.func9, Try.ntmps9
      go_wp2
      go_ret
      exact ⟨true, rfl, B0.out, fun h => by cases h⟩
  · have d1 : decide (20 < (a.sn.length : Int)) = true := decide_eq_true (by omega)
    go_enter Try.func9, Try.ntmps9
    go_wp2
    go_ret
    exact ⟨true, rfl, B0.out, fun h => by cases h⟩
end Go.Proofs.Ytgddenhnpjoabaa
