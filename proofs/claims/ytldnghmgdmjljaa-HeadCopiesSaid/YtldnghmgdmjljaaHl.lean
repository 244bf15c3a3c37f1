/-
  What is read of a snapshot. Conditions: the reader lies where it is said to; its bytes are no more than a million.
-/
import Derived.Test.YtldnghmgdmjljaaHk
namespace Go.Proofs.Ytldnghmgdmjljaa
open Go.RowKit Go.BigFrame
set_option linter.unusedSimpArgs false
set_option linter.unusedVariables false
set_option maxRecDepth 100000
theorem snap_zero (w : World) : (zeroValue 62).run Try.prog w = .ok (.agg #[.int .i64 0, .int .i64 0, .string ⟨#[]⟩, .bool false, .bool false, .bool false, .slice none 0 0, .string ⟨#[]⟩, .int .i64 0, .int .i64 0, .slice none 0 0]) w := by kernel_rfl
def TakeSnTo (w : World) (base : Nat) (F : List Nat) (p : Option Addr) (s : RD) (e : Ending) (w' : World) : Prop :=
  ∃ (a : SA) (F' : List Nat), e = .returned (.agg a.cells.toArray) ∧ a.v = s.snv ∧ a.N w' w.heap.size F' ∧ Rd w' base F' p s.snTo ∧ Only F w w' ∧ Fresh w F F'
theorem snv_of (s : RD) (va : VA) (M : Option Addr) (cm : Nat) (l : List (List Nat)) (h : va = ⟨(s.take 8).bytesTo.num, s.sn1.flag, s.sn1.flagTo.flag, marksOf s.sn1.flagTo.flagTo.bytes, M, cm, s.sn1.mkTo.lkv.par, s.sn1.mkTo.lkv.ps, s.sn1.mkTo.lkv.ov⟩) (hc : s.snv.ch = l) (C : Option Addr) (cc : Nat) : SA.v ⟨s.num, (s.take 8).bytes, s.sn1.mkTo.lkTo.flag, va, l, C, cc⟩ = s.snv := by
  subst h
  subst hc
  rfl
theorem one11 (a b : Int) (nm : ByteArray) (p q r : Bool) (M C : Option Addr) (n cm m cc : Nat) (par : ByteArray) (c d : Int) : ∀ u ∈ [Value.int .i64 a, .int .i64 b, .string nm, .bool p, .bool q, .bool r, .slice M n cm, .string par, .int .i64 c, .int .i64 d, .slice C m cc], u.oneCell' = true := by
  intro u hu
  simp at hu
  rcases hu with rfl | rfl | rfl | rfl | rfl | rfl | rfl | rfl | rfl | rfl | rfl <;> rfl
theorem strs_app (a b : List (List Nat)) : strs (a ++ b) = strs a ++ strs b := by simp [strs]
theorem Tb.grow {base : Nat} {w wr w2 : World} {F0 F : List Nat} {p : Option Addr} {s : RD} {t : TypeId} {g2 g3 : Nat} {Z2 cs3 : Array Value} {row : Option Nat} (h : Tb base w wr F0 F p s t g2 g3 Z2 cs3) (g : wr.grownBy w2 row) (hr : ∀ j, row = some j → j ∉ F ∧ j ≠ g2 ∧ j ≠ g3 ∧ w.heap.size ≤ j) : Tb base w w2 F0 F p s t g2 g3 Z2 cs3 :=
  ⟨h.rd.of g.size (fun k hk => g.block k (h.rd.under k hk) (fun e => (hr k e.symm).1 hk)), h.only.grown g (fun j hj => .inr (hr j hj).2.2.2), h.fresh, h.k2.grown g (fun e => (hr _ e.symm).2.1 rfl), h.n2, h.k3.grown g (fun e => (hr _ e.symm).2.2.1 rfl), h.n3, h.b2, h.b3⟩
set_option maxHeartbeats 16000000 in
theorem tsnap_any (w : World) (base : Nat) (F : List Nat) (p : Option Addr) (s : RD) (h : Rd w base F p s) (hB : base ≤ w.heap.size) (hs : s.bs.length ≤ 1000000) :
    Calls Try.prog 83 #[.pointer p] w (TakeSnTo w base F p s) := by
  obtain ⟨w0, hw0⟩ : ∃ w0, w0 = w.alloc (.cells #[.int .i64 0, .int .i64 0, .string ⟨#[]⟩, .bool false, .bool false, .bool false, .slice none 0 0, .string ⟨#[]⟩, .int .i64 0, .int .i64 0, .slice none 0 0] 62) := ⟨_, rfl⟩
  have hb0 : Below w.heap.size w w0 := by rw [hw0]; exact below_alloc w _
  have k0 : Blk w0 w.heap.size 62 #[.int .i64 0, .int .i64 0, .string ⟨#[]⟩, .bool false, .bool false, .bool false, .slice none 0 0, .string ⟨#[]⟩, .int .i64 0, .int .i64 0, .slice none 0 0] := by rw [hw0]; exact Blk.new w _ _
  have hn : w.heap.size ∉ F := fun hm => by have := h.under _ hm; omega
  have HR0 := Lib.hid (h.below hb0)
  have HW := Lib.hid hw0
  have HK := Lib.hid (And.intro k0 hn)
  have HB0 := Lib.hid hb0
  have HGD := Lib.hid h.good
  have hz := snap_zero
  have l1 := RD.take_le s 8
  have l2 := bytesTo_le (s.take 8)
  have l3 := RD.take_le (s.take 8).bytesTo 8
  have l4 : s.sn1.bs.length ≤ 1000000 := by have : s.sn1 = (s.take 8).bytesTo.take 8 := rfl; rw [this]; omega
  have HL := Lib.hid l4
  clear h hw0 k0 hn hb0
  go_enter Try.func83, Try.ntmps83
  go_upto_region 1 with (fail)
  rw [← HW.out]
  clear HW hz
  go_wp2_with fail
  refine (rnum_any w0 base F p s HR0.out (Nat.le_trans hB HB0.out.size)).mono ?_
  rintro e w1 ⟨rfl, F1, r1, o1, f1⟩
  have H1 := Lib.hid (And.intro r1 (And.intro o1 f1))
  clear r1 o1 f1
  go_wp2_with fail
  refine (rtext_any w1 base F1 p _ H1.out.1 (Nat.le_trans hB (Nat.le_trans HB0.out.size H1.out.2.1.size))).mono ?_
  rintro e w2 ⟨rfl, F2, r2, o2, f2⟩
  have H2 := Lib.hid (And.intro r2 (And.intro (H1.out.2.1.trans o2 H1.out.2.2) (H1.out.2.2.trans f2 H1.out.2.1.size)))
  clear r2 o2 f2
  go_wp2_with fail
  refine (rnum_any w2 base F2 p _ H2.out.1 (Nat.le_trans hB (Nat.le_trans HB0.out.size H2.out.2.1.size))).mono ?_
  rintro e w3 ⟨rfl, F3, r3, o3, f3⟩
  have H3 := Lib.hid (And.intro r3 (And.intro (H2.out.2.1.trans o3 H2.out.2.2) (H2.out.2.2.trans f3 H2.out.2.1.size)))
  clear r3 o3 f3
  obtain ⟨w4, hw4⟩ : ∃ w4, w4 = w3.alloc (.cells #[.int .i64 s.num, .int .i64 (s.take 8).bytesTo.num, .string (strOf (s.take 8).bytes), .bool false, .bool false, .bool false, .slice none 0 0, .string ⟨#[]⟩, .int .i64 0, .int .i64 0, .slice none 0 0] 62) := ⟨_, rfl⟩
  obtain ⟨g3, hg3⟩ : ∃ g3, g3 = w3.heap.size := ⟨_, rfl⟩
  have hlt03 : w.heap.size < w3.heap.size := Nat.lt_of_lt_of_le HK.out.1.lt H3.out.2.1.size
  have HT4 : Hid (Tb base w w4 F F3 p s.sn1 62 w.heap.size g3 #[.int .i64 0, .int .i64 0, .string ⟨#[]⟩, .bool false, .bool false, .bool false, .slice none 0 0, .string ⟨#[]⟩, .int .i64 0, .int .i64 0, .slice none 0 0] #[.int .i64 s.num, .int .i64 (s.take 8).bytesTo.num, .string (strOf (s.take 8).bytes), .bool false, .bool false, .bool false, .slice none 0 0, .string ⟨#[]⟩, .int .i64 0, .int .i64 0, .slice none 0 0]) := Lib.hid (by
    have hb4 : Below w3.heap.size w3 w4 := by rw [hw4]; exact below_alloc w3 _
    refine ⟨H3.out.1.below hb4, (Only.of_below HB0.out F).trans (H3.out.2.1.trans (Only.of_below hb4 F3) H3.out.2.2) (Fresh.refl _ _), fun x hx => (H3.out.2.2 x hx).imp id (Nat.le_trans HB0.out.size), (HK.out.1.of (H3.out.2.1.block _ HK.out.1.lt HK.out.2)).of (hb4.block _ hlt03), far_of (w' := w3) HK.out.1.lt HK.out.2 H3.out.2.2, ?_, ?_, ?_, ?_⟩
    · rw [hw4, hg3]; exact Blk.new w3 _ _
    · rw [hg3]; exact fun hm => by have := H3.out.1.under _ hm; omega
    · exact Nat.le_refl _
    · omega)
  have HNE : Hid (w.heap.size ≠ g3) := Lib.hid (by rw [hg3]; omega)
  have HW4 := Lib.hid (And.intro hw4 hg3)
  clear hw4 hg3
  go_upto_region 2 with (fail)
  rw [← HW4.out.1, ← HW4.out.2]
  clear HW4
  have hb4 := Nat.le_trans hB HT4.out.only.size
  go_wp2_with fail
  refine (rflag_any w4 base F3 p _ HT4.out.rd hb4).mono ?_
  rintro e w5 ⟨rfl, F5, r, o, f⟩
  have HT5 := Lib.hid (HT4.out.read r o f)
  clear r o f hb4
  have hb5 := Nat.le_trans hB HT5.out.only.size
  go_wp2_with fail
  refine (rflag_any w5 base F5 p _ HT5.out.rd hb5).mono ?_
  rintro e w6 ⟨rfl, F6, r, o, f⟩
  have HT6 := Lib.hid (HT5.out.read r o f)
  clear r o f hb5
  have hb6 := Nat.le_trans hB HT6.out.only.size
  have hl6 : s.sn1.flagTo.flagTo.bs.length ≤ 1000000 := Nat.le_trans (flagTo_le _) (Nat.le_trans (flagTo_le _) HL.out)
  go_wp2_with fail
  refine (tmarks_any w6 base F6 p _ HT6.out.rd hb6 hl6).mono ?_
  rintro e w7 ⟨M, cm, F7, rfl, hm, r, o, f, far⟩
  have HT7 := Lib.hid (HT6.out.read r o f)
  have HM7 := Lib.hid (And.intro (Own.weaken (base' := w.heap.size) hm HT6.out.only.size) far)
  clear r o f hb6 hl6 hm far
  have hb7 := Nat.le_trans hB HT7.out.only.size
  go_wp2_with fail
  refine (tlink_any w7 base F7 p _ HT7.out.rd hb7).mono ?_
  rintro e w8 ⟨rfl, F8, r, o, f⟩
  have HT8 : Hid (Tb base w w8 F F8 p s.sn1.mkTo.lkTo 62 w.heap.size g3 #[.int .i64 0, .int .i64 0, .string ⟨#[]⟩, .bool false, .bool false, .bool false, .slice none 0 0, .string ⟨#[]⟩, .int .i64 0, .int .i64 0, .slice none 0 0] #[.int .i64 s.num, .int .i64 (s.take 8).bytesTo.num, .string (strOf (s.take 8).bytes), .bool false, .bool false, .bool false, .slice none 0 0, .string ⟨#[]⟩, .int .i64 0, .int .i64 0, .slice none 0 0]) := Lib.hid (HT7.out.read r o f)
  obtain ⟨va, hva⟩ : ∃ va : VA, va = ⟨(s.take 8).bytesTo.num, s.sn1.flag, s.sn1.flagTo.flag, marksOf s.sn1.flagTo.flagTo.bytes, M, cm, s.sn1.mkTo.lkv.par, s.sn1.mkTo.lkv.ps, s.sn1.mkTo.lkv.ov⟩ := ⟨_, rfl⟩
  have HVA8 : Hid (va.N w8 w.heap.size F8) := Lib.hid (by
    have hk : ∀ k ∈ rowOf (.slice M 0 0), k < w7.heap.size := fun k hk => row_under HM7.out.1 k (by rw [row_slice M _ _ 0 0]; exact hk)
    have hg := HT7.out.rd.good
    have hle : s.sn1.mkTo.lkv.par.length ≤ 1000000 := Nat.le_trans (bytes_le _) (Nat.le_trans (mkTo_le _) HL.out)
    subst hva
    exact ⟨row_of HM7.out.1 (fun k h9 => o.block k (row_under HM7.out.1 k h9) (HM7.out.2 k (by rw [row_slice M 0 0 (marksOf s.sn1.flagTo.flagTo.bytes).length cm]; exact h9))), fun k h9 => far_of (w' := w8) (hk k h9) (HM7.out.2 k h9) f, fun b hb => by have := (marksOf_good s.sn1.flagTo.flagTo.bytes).2 b hb; omega, RD.got_lt (RD.take_good hg 8) _, num_range _, num_range _, num_range _, hle⟩)
  have HVE := Lib.hid hva
  have K8 := HT8.out.k3
  clear r o f hb7 hva
  go_wp2_with (first
    | (have _h := K8; refine wpList_setq rfl 4 (.tmp 20) (.tmp 13) rfl g3 3 62 _ (.bool s.sn1.flag) rfl rfl K8 (by simp) (by kernel_rfl) rfl ?_; clear _h K8; intro wA KA oA sA)
    | (have _h := KA; refine wpList_setq rfl 4 (.tmp 21) (.tmp 15) rfl g3 4 62 _ (.bool s.sn1.flagTo.flag) rfl rfl KA (by simp) (by kernel_rfl) rfl ?_; have KA' := KA; clear _h KA; intro wB KB oB sB)
    | (have _h := KB; refine wpList_setq rfl 33 (.tmp 22) (.tmp 17) rfl g3 6 62 _ (.slice M (marksOf s.sn1.flagTo.flagTo.bytes).length cm) rfl rfl KB (by simp) (by kernel_rfl) rfl ?_; have KB' := KB; clear _h KB; intro wC KC oC sC)
    | (have _h := KC; refine wpList_set3 rfl 34 (.tmp 23) (.tmp 19) rfl g3 7 62 _ (.string (strOf s.sn1.mkTo.lkv.par)) (.int .i64 s.sn1.mkTo.lkv.ps) (.int .i64 s.sn1.mkTo.lkv.ov) rfl rfl KC (by simp) (by kernel_rfl) rfl rfl rfl ?_; have KC' := KC; clear _h KC; intro wD KD oD sD; have KD' := KD; clear KD))
  have HTD : Hid (Tb base w wD F F8 p s.sn1.mkTo.lkTo 62 w.heap.size g3 #[.int .i64 0, .int .i64 0, .string ⟨#[]⟩, .bool false, .bool false, .bool false, .slice none 0 0, .string ⟨#[]⟩, .int .i64 0, .int .i64 0, .slice none 0 0] #[.int .i64 s.num, .int .i64 va.size, .string (strOf (s.take 8).bytes), .bool va.on, .bool va.good, .bool false, .slice va.M va.row.length va.cm, .string (strOf va.par), .int .i64 va.ps, .int .i64 va.ov, .slice none 0 0]) := Lib.hid (by
    have := (((HT8.out.store HNE.out KA' oA sA).store HNE.out KB' oB sB).store HNE.out KC' oC sC).store HNE.out KD' oD sD
    rw [HVE.out]
    simpa using this)
  have HVD : Hid (va.N wD w.heap.size F8) := Lib.hid ((((HVA8.out.stay (stay_only HT8.out.k3 (by decide) (by decide) oA)).stay (stay_only KA' (by decide) (by decide) oB)).stay (stay_only KB' (by decide) (by decide) oC)).stay (stay_only KC' (by decide) (by decide) oD))
  clear KA' KB' KC' KD' oA oB oC oD sA sB sC sD
  have hbD := Nat.le_trans hB HTD.out.only.size
  go_wp2_with fail
  refine (rflag_any wD base F8 p _ HTD.out.rd hbD).mono ?_
  rintro e wE ⟨rfl, FE, r, o, f⟩
  have HTE := Lib.hid (HTD.out.read r o f)
  have HVE2 := Lib.hid (HVD.out.read o f)
  have KE := HTE.out.k3
  clear r o f hbD
  go_upto_region 4 with (have _h := KE; refine wpList_setq rfl 4 (.tmp 26) (.tmp 25) rfl g3 5 62 _ (.bool s.sn1.mkTo.lkTo.flag) rfl rfl KE (by simp) (by kernel_rfl) rfl ?_; clear _h KE; intro wG KG oG sG)
  have HTG : Hid (Tb base w wG F FE p s.sn2 62 w.heap.size g3 #[.int .i64 0, .int .i64 0, .string ⟨#[]⟩, .bool false, .bool false, .bool false, .slice none 0 0, .string ⟨#[]⟩, .int .i64 0, .int .i64 0, .slice none 0 0] #[.int .i64 s.num, .int .i64 va.size, .string (strOf (s.take 8).bytes), .bool va.on, .bool va.good, .bool s.sn1.mkTo.lkTo.flag, .slice va.M va.row.length va.cm, .string (strOf va.par), .int .i64 va.ps, .int .i64 va.ov, .slice none 0 0]) := Lib.hid (by
    have := HTE.out.store HNE.out KG oG sG
    have e2 : s.sn2 = s.sn1.mkTo.lkTo.flagTo := rfl
    rw [e2]
    simpa using this)
  have HVG := Lib.hid (HVE2.out.stay (stay_only HTE.out.k3 (by decide) (by decide) oG))
  clear KG oG sG
  have hbG := Nat.le_trans hB HTG.out.only.size
  go_wp2_with fail
  refine (rnum_any wG base FE p _ HTG.out.rd hbG).mono ?_
  rintro e wH ⟨rfl, FH, r, o, f⟩
  obtain ⟨s7, hs7⟩ : ∃ s7, s7 = s.sn2.take 8 := ⟨_, rfl⟩
  rw [← hs7] at r
  have HTH := Lib.hid (HTG.out.read r o f)
  have HVH := Lib.hid (HVG.out.read o f)
  obtain ⟨n, hn⟩ : ∃ n, n = s.sn2.num := ⟨_, rfl⟩
  have hnr := num_range s.sn2
  rw [← hn] at hnr ⊢
  obtain ⟨N, hN⟩ : ∃ N, N = n.toNat := ⟨_, rfl⟩
  have HE7 : Hid (s.snv.ch = RD.chL N s7 ∧ s.snTo = RD.chT N s7) := Lib.hid (by rw [hN, hn, hs7]; exact ⟨rfl, rfl⟩)
  have hl7 : s7.bs.length ≤ 1000000 := by
    rw [hs7]
    have e2 : s.sn2 = s.sn1.mkTo.lkTo.flagTo := rfl
    exact Nat.le_trans (RD.take_le _ _) (by rw [e2]; exact Nat.le_trans (flagTo_le _) (Nat.le_trans (lkTo_le _) (Nat.le_trans (mkTo_le _) HL.out)))
  have hNn : (N : Int) = max n 0 := by omega
  have HS7 := Lib.hid (And.intro hs7 hn)
  clear r o f hbG hs7 hn hN
  go_wp2
  go_loopw [29] (fun i wr => ∃ (k : Nat) (l : List (List Nat)) (C : Option Addr) (cc : Nat) (F' : List Nat) (t : RD), k ≤ N ∧ i = .int .i64 k ∧ Tb base w wr F F' p t 62 w.heap.size g3 #[.int .i64 0, .int .i64 0, .string ⟨#[]⟩, .bool false, .bool false, .bool false, .slice none 0 0, .string ⟨#[]⟩, .int .i64 0, .int .i64 0, .slice none 0 0] #[.int .i64 s.num, .int .i64 va.size, .string (strOf (s.take 8).bytes), .bool va.on, .bool va.good, .bool s.sn1.mkTo.lkTo.flag, .slice va.M va.row.length va.cm, .string (strOf va.par), .int .i64 va.ps, .int .i64 va.ov, .slice C l.length cc] ∧ va.N wr w.heap.size F' ∧ OwnS wr w.heap.size (.slice C l.length cc) l ∧ (∀ j ∈ rowOf (.slice C 0 0), j ∉ F') ∧ (∀ c ∈ l, ∀ b ∈ c, b < 256) ∧ RD.chL N s7 = l ++ RD.chL (N - k) t ∧ RD.chT N s7 = RD.chT (N - k) t ∧ 9 * l.length + t.bs.length ≤ 1000000) (fun i _ => N - (intOf i).toNat)
  case atStart => exact ⟨0, [], none, 0, FH, s7, by omega, rfl, HTH.out, HVH.out, OwnS.nil _ _, fun j hj => (by cases hj), fun c hc => (by cases hc), by simp, by simp, by simpa using hl7⟩
  case round =>
    obtain ⟨k, l, C, cc, F', t, hk, rfl, htb, hva, hos, hof, hob, hcl, hct, hln⟩ := hrel
    have HTB := Lib.hid htb
    have HVA := Lib.hid hva
    have HOS := Lib.hid (And.intro hos (And.intro hof hob))
    have HCL := Lib.hid (And.intro hcl hct)
    clear htb hva hos hof hob hcl hct
    by_cases hlt : (k : Int) < n
    · have d1 : decide ((k : Int) < n) = true := decide_eq_true hlt
      have hwk : IntKind.i64.wrap ((k : Int) + 1) = (k : Int) + 1 := by rw [IntKind.wrap_i64]; omega
      have hNk : N - k = (N - (k + 1)) + 1 := by omega
      rw [hNk, RD.chL, RD.chT] at HCL
      have hbr := Nat.le_trans hB HTB.out.only.size
      go_wp2_with fail
      refine (rtext_any wr base F' p t HTB.out.rd hbr).mono ?_
      rintro e x1 ⟨rfl, G1, r, o, f⟩
      have HT1 := Lib.hid (HTB.out.read r o f)
      have HV1 := Lib.hid (HVA.out.read o f)
      have HO1 : Hid (OwnS x1 w.heap.size (.slice C l.length cc) l ∧ ∀ j ∈ rowOf (.slice C 0 0), j ∉ G1) := Lib.hid (by
        have hu : ∀ j ∈ rowOf (.slice C 0 0), j < wr.heap.size := fun j hj => row_under HOS.out.1 j (by rw [row_slice C _ _ 0 0]; exact hj)
        exact ⟨row_of HOS.out.1 (fun j hj => o.block j (row_under HOS.out.1 j hj) (HOS.out.2.1 j (by rw [row_slice C 0 0 l.length cc]; exact hj))), fun j hj => far_of (w' := x1) (hu j hj) (HOS.out.2.1 j hj) f⟩)
      have hcb : ∀ b ∈ t.bytes, b < 256 := RD.got_lt (RD.take_good HTB.out.rd.good 8) _
      have hcl : t.bytes.length ≤ 1000000 := by have := bytes_le t; omega
      have HNM := Lib.hid (named_any t.bytes hcb hcl x1)
      have HCB := Lib.hid hcb
      have HCO := Lib.hid (bytes_cost t)
      have HBT := Lib.hid (bytesTo_le t)
      clear r o f hbr hcb hcl
      obtain ⟨c, hc⟩ : ∃ c, c = t.bytes := ⟨_, rfl⟩
      rw [← hc] at HNM HCB HCO HCL ⊢
      have HCC := Lib.hid hc
      clear hc
      go_wp2_with fail
      refine HNM.out.mono ?_
      rintro e x2 ⟨rfl, b2⟩
      have HT2 := Lib.hid (HT1.out.next b2)
      have HV2 := Lib.hid (HV1.out.below b2)
      have HO2 : Hid (OwnS x2 w.heap.size (.slice C l.length cc) l) := Lib.hid (own_below HO1.out.1 b2)
      clear b2 HNM
      cases hnm : namedB c with
      | false =>
        rw [hnm] at HCL
        have K3 := HT2.out.k3
        have K2 := HT2.out.k2
        clear hnm
        go_upto_region 10 with (fail)
        go_wp2_with (first
          | (have _h := K3; refine wpList_loadq rfl 62 (.tmp 3) rfl g3 [.int .i64 s.num, .int .i64 va.size, .string (strOf (s.take 8).bytes), .bool va.on, .bool va.good, .bool s.sn1.mkTo.lkTo.flag, .slice va.M va.row.length va.cm, .string (strOf va.par), .int .i64 va.ps, .int .i64 va.ov, .slice C l.length cc] _ rfl K3 Try.underlying62 rfl (by kernel_rfl) ?_; clear _h K3)
          | (have _h := K2; refine wpList_storeq rfl 62 (.tmp 2) (.tmp 43) rfl w.heap.size _ [.int .i64 s.num, .int .i64 va.size, .string (strOf (s.take 8).bytes), .bool va.on, .bool va.good, .bool s.sn1.mkTo.lkTo.flag, .slice va.M va.row.length va.cm, .string (strOf va.par), .int .i64 va.ps, .int .i64 va.ov, .slice C l.length cc] rfl rfl K2 (by simp) (by kernel_rfl) (one11 _ _ _ _ _ _ _ _ _ _ _ _ _ _ _) ?_; clear _h K2; intro w9 K9 o9 s9))
        refine bodyPost_ret (results_cell_row rfl _ _ w.heap.size 62 _ (0, 0) _ rfl K9 Try.underlying62 rfl (by kernel_rfl)) rfl ?_
        have hT := HT2.out
        refine ⟨⟨s.num, (s.take 8).bytes, s.sn1.mkTo.lkTo.flag, va, l, C, cc⟩, G1, rfl, ?_, ?_, ?_, ?_, hT.fresh⟩
        · have e1 := HCL.out.1
          simp only [Bool.false_eq_true, if_false, List.append_nil] at e1
          exact snv_of s va M cm l HVE.out (HE7.out.1.trans e1) C cc
        · have st := stay_only hT.k2 (by decide) (by decide) o9
          exact ⟨HV2.out.stay st, row_of HO2.out (fun j hj => by obtain ⟨cs, hb⟩ := own_ty HO2.out hj; exact st j _ cs hb (.inr rfl)), HO1.out.2, HOS.out.2.2, RD.got_lt (RD.take_good (RD.take_good HGD.out 8) 8) _, num_range _, Nat.le_trans (bytes_le _) (by have := RD.take_le s 8; omega)⟩
        · rw [HE7.out.2, HCL.out.2]
          simp only [Bool.false_eq_true, if_false]
          exact hT.rd.of (by omega) (fun j hj => o9.block j (hT.rd.under j hj) (fun hm => by simp at hm; subst hm; exact hT.n2 hj))
        · exact ⟨o9.os.trans hT.only.os, o9.tape.trans hT.only.tape, o9.output.trans hT.only.output, by have := hT.only.size; omega, fun i hi hn => (o9.block i (by have := hT.only.size; omega) (by simp; omega)).trans (hT.only.block i hi hn)⟩
      | true =>
        have HNL := Lib.hid (named_len hnm)
        rw [hnm, if_pos rfl, if_pos rfl] at HCL
        have HCOST : Hid (9 * (l.length + 1) + t.bytesTo.bs.length ≤ 1000000) := Lib.hid (by
          have h1 := HNL.out
          have h2 := HCO.out (fun e => by rw [e] at h1; simp at h1)
          omega)
        have K3 := HT2.out.k3
        have k10 : x2.cell? ⟨g3, 10, none⟩ = some (.slice C l.length cc) := K3.cell 10
        have HOA : Hid (∀ tt ff, OwnS (x2.alloc (.cells #[.string (strOf c)] tt ff)) w.heap.size (.slice C l.length cc) l) := Lib.hid fun tt ff => World.ownsRow.alloc HO2.out _
        have hwz := HT2.out.only.size
        have K3a : ∀ tt ff, Blk (x2.alloc (.cells #[.string (strOf c)] tt ff)) g3 62 #[.int .i64 s.num, .int .i64 va.size, .string (strOf (s.take 8).bytes), .bool va.on, .bool va.good, .bool s.sn1.mkTo.lkTo.flag, .slice va.M va.row.length va.cm, .string (strOf va.par), .int .i64 va.ps, .int .i64 va.ov, .slice C l.length cc] := fun tt ff => K3.alloc _
        have HK3a := Lib.hid K3a
        have hl6 : l.length ≤ 200000 := by have := HCOST.out; omega
        clear hnm K3 K3a
        go_upto_region 9 with (first
          | (refine app_strs (.tmp 37) (.tmp 39) rfl rfl w.heap.size (.slice C l.length cc) l rfl (HOA.out _ _) _ (some ⟨x2.heap.size, 0, none⟩) 1 1 [c] rfl rfl (Reads.new x2 [.string (strOf c)] _ _) (by omega) (by rw [World.size_alloc]; omega) ?_; intro v5 x5 h5 gr5 a5; obtain ⟨C5, c5, rfl⟩ := own_form h5; rw [show (l ++ [c]).length = l.length + 1 from by simp]; have K5 := (HK3a.out 9 (0, 0)).grown gr5 (fun e => own_blk_ne (HOA.out 9 (0, 0)) (HK3a.out 9 (0, 0)) (by decide) e.symm))
          | (have _h := K5; refine wpList_setq rfl 60 (.tmp 41) (.tmp 40) rfl g3 10 62 _ (.slice C5 (l.length + 1) c5) rfl rfl K5 (by simp) (by kernel_rfl) rfl ?_; have K5' := K5; clear _h K5; intro x6 K6 o6 s6; have K6' := K6; clear K6))
        go_wp2
        go_roundw
        case rel =>
          have hba := below_alloc x2
          refine ⟨k + 1, l ++ [c], C5, c5, G1, t.bytesTo, by omega, by go_num, ?_, ?_, ?_, ?_, ?_, by rw [HCL.out.1]; simp, by rw [HCL.out.2], by simpa using HCOST.out⟩
          · have hA := HT2.out.next (hba (.cells #[.string (strOf c)] 9))
            have hG := hA.grow gr5 (fun j hj => by
              have hjr : j ∈ rowOf (.slice C l.length cc) := mem_rowOf.2 hj
              obtain ⟨cs, hb⟩ := own_ty HO2.out hjr
              have hb2 : Blk (x2.alloc (.cells #[.string (strOf c)] 9)) j 9 cs := hb.alloc _
              exact ⟨HO1.out.2 j (by rw [row_slice C 0 0 l.length cc]; exact hjr), hb2.ne_ hA.k2 (by decide), hb2.ne_ hA.k3 (by decide), (World.ownsRow.lt HO2.out j hj).1⟩)
            have := hG.store HNE.out K6' o6 s6
            simpa using this
          · refine HV2.out.of fun j hj => ?_
            obtain ⟨cs, hb⟩ := HV2.out.ty hj
            have hb2 : Blk (x2.alloc (.cells #[.string (strOf c)] 9)) j 5 cs := hb.alloc _
            have hb3 : Blk x5 j 5 cs := hb2.grown gr5 (fun e => own_blk_ne (HOA.out 9 (0, 0)) hb2 (by decide) e.symm)
            have hb4 : Blk x6 j 5 cs := hb3.only o6 (by simp; exact fun e => by subst e; exact hb3.ne_ K5' (by decide) rfl)
            exact hb4.trans hb.symm
          · exact row_of h5 fun j hj => o6.block j (row_under h5 j hj) (fun hm => by simp at hm; subst hm; obtain ⟨cs, hb⟩ := own_ty h5 hj; exact hb.ne_ K5' (by decide) rfl)
          · intro j hj
            have hj2 : (Value.slice C5 (l ++ [c]).length c5).ownBlock = some j := mem_rowOf.1 (by rw [row_slice C5 _ _ 0 0]; exact hj)
            rcases a5 with a5 | a5
            · rw [a5] at hj2
              exact HO1.out.2 j (by rw [row_slice C 0 0 l.length cc]; exact mem_rowOf.2 hj2)
            · rw [a5] at hj2
              injection hj2 with hj2
              intro hm
              have := HT2.out.rd.under j hm
              rw [World.size_alloc] at hj2
              omega
          · intro x hx
            rcases List.mem_append.1 hx with hx | hx
            · exact HOS.out.2.2 x hx
            · simp at hx; subst hx; exact HCB.out
        case measure => simp [intOf]; omega
    · have d1 : decide ((k : Int) < n) = false := decide_eq_false hlt
      have hNk : N - k = 0 := by omega
      rw [hNk, RD.chL, RD.chT, List.append_nil] at HCL
      have HT2 := HTB
      have HV2 := HVA
      have HO2 : Hid (OwnS wr w.heap.size (.slice C l.length cc) l) := Lib.hid HOS.out.1
      have K3 := HT2.out.k3
      have K2 := HT2.out.k2
      go_upto_region 10 with (fail)
      go_wp2_with (first
        | (have _h := K3; refine wpList_loadq rfl 62 (.tmp 3) rfl g3 [.int .i64 s.num, .int .i64 va.size, .string (strOf (s.take 8).bytes), .bool va.on, .bool va.good, .bool s.sn1.mkTo.lkTo.flag, .slice va.M va.row.length va.cm, .string (strOf va.par), .int .i64 va.ps, .int .i64 va.ov, .slice C l.length cc] _ rfl K3 Try.underlying62 rfl (by kernel_rfl) ?_; clear _h K3)
        | (have _h := K2; refine wpList_storeq rfl 62 (.tmp 2) (.tmp 43) rfl w.heap.size _ [.int .i64 s.num, .int .i64 va.size, .string (strOf (s.take 8).bytes), .bool va.on, .bool va.good, .bool s.sn1.mkTo.lkTo.flag, .slice va.M va.row.length va.cm, .string (strOf va.par), .int .i64 va.ps, .int .i64 va.ov, .slice C l.length cc] rfl rfl K2 (by simp) (by kernel_rfl) (one11 _ _ _ _ _ _ _ _ _ _ _ _ _ _ _) ?_; clear _h K2; intro w9 K9 o9 s9))
      refine bodyPost_ret (results_cell_row rfl _ _ w.heap.size 62 _ (0, 0) _ rfl K9 Try.underlying62 rfl (by kernel_rfl)) rfl ?_
      have hT := HT2.out
      refine ⟨⟨s.num, (s.take 8).bytes, s.sn1.mkTo.lkTo.flag, va, l, C, cc⟩, F', rfl, ?_, ?_, ?_, ?_, hT.fresh⟩
      · have e1 := HCL.out.1
        exact snv_of s va M cm l HVE.out (HE7.out.1.trans e1) C cc
      · have st := stay_only hT.k2 (by decide) (by decide) o9
        exact ⟨HV2.out.stay st, row_of HO2.out (fun j hj => by obtain ⟨cs, hb⟩ := own_ty HO2.out hj; exact st j _ cs hb (.inr rfl)), HOS.out.2.1, HOS.out.2.2, RD.got_lt (RD.take_good (RD.take_good HGD.out 8) 8) _, num_range _, Nat.le_trans (bytes_le _) (by have := RD.take_le s 8; omega)⟩
      · rw [HE7.out.2, HCL.out.2]
        exact hT.rd.of (by omega) (fun j hj => o9.block j (hT.rd.under j hj) (fun hm => by simp at hm; subst hm; exact hT.n2 hj))
      · exact ⟨o9.os.trans hT.only.os, o9.tape.trans hT.only.tape, o9.output.trans hT.only.output, by have := hT.only.size; omega, fun i hi hn => (o9.block i (by have := hT.only.size; omega) (by simp; omega)).trans (hT.only.block i hi hn)⟩
end Go.Proofs.Ytldnghmgdmjljaa
