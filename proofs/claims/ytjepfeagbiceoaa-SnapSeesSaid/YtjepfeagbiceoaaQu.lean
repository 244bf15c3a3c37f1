/-
  What the laws' own functions return: what is too large, a change by the program. Conditions: what came in reads as it is said to.
-/
import Derived.Test.YtjepfeagbiceoaaQt
namespace Go.Proofs.Ytjepfeagbiceoaa
open Go.RowKit Go.BigFrame
set_option linter.unusedSimpArgs false
set_option linter.unusedVariables false
set_option maxRecDepth 100000
/-- a change, and where it lies -/
structure PA where
  kd : Int
  at_ : Int
  n : Int
  dt : List Nat
  D : Option Addr
  cd : Nat
  cx : XA
def PA.cs (x : PA) : Array Value := #[.int .i64 x.kd, .int .i64 x.at_, .int .i64 x.n, .slice x.D x.dt.length x.cd, .int .i64 x.cx.sq, .slice x.cx.S x.cx.sn.length x.cx.cs]
structure PA.R (x : PA) (w : World) : Prop where
  dt : Bytes w w.heap.size x.D x.dt.length x.dt
  cx : x.cx.R w
  k1 : -9223372036854775808 ≤ x.kd
  k2 : x.kd ≤ 9223372036854775807
  a1 : -9223372036854775808 ≤ x.at_
  a2 : x.at_ ≤ 9223372036854775807
  n1 : -9223372036854775808 ≤ x.n
  n2 : x.n ≤ 9223372036854775807
  dl : x.dt.length ≤ 9223372036854775807
theorem PA.R.since {x : PA} {w w' : World} (h : x.R w) (hb : Below w.heap.size w w') : x.R w' := ⟨(h.dt.since hb).more hb.size, h.cx.since hb, h.k1, h.k2, h.a1, h.a2, h.n1, h.n2, h.dl⟩
/-- as large as is looked at -/
structure OA.Lm (o : OA) : Prop where
  dt : o.dt.length ≤ 2000
  cn : o.cl.length ≤ 30
  cl : ∀ c ∈ o.cl, c.dt.length ≤ 2000 ∧ c.sn.length ≤ 50
theorem OA.Lm.Sm {o : OA} (h : o.Lm) : o.Sm := ⟨by have := h.dt; omega, by have := h.cn; omega, fun c hc => by have := h.cl c hc; omega⟩
set_option maxHeartbeats 4000000 in
theorem large_any {w : World} (o : OA) (h : o.R w) : Calls Try.prog 10 #[.agg o.cs] w fun e w' => (e = .returned (.bool true) ∨ (e = .returned (.bool false) ∧ o.Lm)) ∧ Below w.heap.size w w' := by
  have H := Lib.hid h
  have hd1 := h.d1
  have hc1 := h.c1
  have hd2 := h.d2
  have hc2 := h.c2
  have HB0 := Lib.hid (below_alloc w (.cells #[.bool o.th, .slice o.D o.dt.length o.cd, .int .i64 o.sq, .slice o.C o.cl.length o.cc] 25))
  clear h
  unfold OA.cs
  by_cases n1 : (2000 : Int) < (o.dt.length : Int)
  · have e1 : decide ((2000 : Int) < (o.dt.length : Int)) = true := decide_eq_true n1
    go_enter Try.func10, Try.ntmps10
    go_wp2
    go_ret
    exact ⟨.inl rfl, HB0.out⟩
  have e1 : decide ((2000 : Int) < (o.dt.length : Int)) = false := decide_eq_false n1
  by_cases n2 : (30 : Int) < (o.cl.length : Int)
  · have e2 : decide ((30 : Int) < (o.cl.length : Int)) = true := decide_eq_true n2
    go_enter Try.func10, Try.ntmps10
    go_wp2
    go_ret
    exact ⟨.inl rfl, HB0.out⟩
  have e2 : decide ((30 : Int) < (o.cl.length : Int)) = false := decide_eq_false n2
  go_enter Try.func10, Try.ntmps10
  go_wp2
  go_loopw [18] (fun i wr => ∃ k : Nat, k ≤ o.cl.length ∧ i = .int .i64 k ∧ (∀ c ∈ o.cl.take k, c.dt.length ≤ 2000 ∧ c.sn.length ≤ 50) ∧ Below w.heap.size w wr) (fun i _ => o.cl.length - (intOf i).toNat)
  case atStart => exact ⟨0, by omega, rfl, by simp, HB0.out⟩
  case round =>
    obtain ⟨k, hk, rfl, hx, hb⟩ := hrel
    obtain ⟨wo, hwo⟩ : ∃ wo, wo = wr := ⟨_, rfl⟩
    subst hwo
    have HX := Lib.hid (And.intro hx hb)
    clear hx
    by_cases hlt : k < o.cl.length
    · have hwk : IntKind.i64.wrap ((k : Int) + 1) = (k : Int) + 1 := by rw [IntKind.wrap_i64]; omega
      obtain ⟨c, hck⟩ : ∃ c, o.cl[k]? = some c := ⟨_, List.getElem?_eq_getElem hlt⟩
      have hR := H.out.since hb
      obtain ⟨ad, had, hl, hc⟩ := hR.get hck
      have hok := hR.cl c (List.mem_of_getElem? hck)
      have hs1 := hok.s1
      have hs2 := hok.d1
      have hs3 := hok.s2
      have hs4 := hok.d2
      have HBA : Hid (Below w.heap.size w (wo.alloc (.cells #[.slice c.S c.sn.length c.cs, .slice c.D c.dt.length c.cd] 78))) := Lib.hid (hb.alloc hb.size _)
      have HCK := Lib.hid hck
      generalize o.C = oC at *
      subst had
      clear hR hok hck hb
      by_cases m1 : (2000 : Int) < (c.dt.length : Int)
      · have f1 : decide ((2000 : Int) < (c.dt.length : Int)) = true := decide_eq_true m1
        go_wp2_with (have _h := hc; refine wpList_load_rcl rfl (.tmp 20) rfl _ rfl c hc ?_; clear _h hc)
        go_ret
        exact ⟨.inl rfl, HBA.out⟩
      have f1 : decide ((2000 : Int) < (c.dt.length : Int)) = false := decide_eq_false m1
      by_cases m2 : (50 : Int) < (c.sn.length : Int)
      · have f2 : decide ((50 : Int) < (c.sn.length : Int)) = true := decide_eq_true m2
        go_wp2_with (have _h := hc; refine wpList_load_rcl rfl (.tmp 20) rfl _ rfl c hc ?_; clear _h hc)
        go_ret
        exact ⟨.inl rfl, HBA.out⟩
      have f2 : decide ((50 : Int) < (c.sn.length : Int)) = false := decide_eq_false m2
      go_wp2_with (have _h := hc; refine wpList_load_rcl rfl (.tmp 20) rfl _ rfl c hc ?_; clear _h hc)
      go_roundw
      case rel =>
        refine ⟨k + 1, by omega, by go_num, fun y hy => ?_, HBA.out⟩
        rw [take_snocI HCK.out] at hy
        rcases List.mem_append.1 hy with h | h
        · exact HX.out.1 y h
        · simp at h; subst h; omega
      case measure => simp [intOf]; omega
    · obtain rfl : k = o.cl.length := by omega
      clear hb
      go_wp2
      go_ret
      refine ⟨.inr ⟨rfl, by omega, by omega, ?_⟩, HX.out.2⟩
      have := HX.out.1
      rwa [List.take_of_length_le (Nat.le_refl _)] at this
theorem wide_any {w : World} (x : PA) (h : x.R w) : Calls Try.prog 11 #[.agg x.cs] w fun e w' => (e = .returned (.bool true) ∨ (e = .returned (.bool false) ∧ x.dt.length ≤ 2000 ∧ x.cx.sn.length ≤ 50)) ∧ Below w.heap.size w w' := by
  have hd1 := h.dl
  have hc1 := h.cx.s1
  have HB0 := Lib.hid (below_alloc w (.cells #[.int .i64 x.kd, .int .i64 x.at_, .int .i64 x.n, .slice x.D x.dt.length x.cd, .int .i64 x.cx.sq, .slice x.cx.S x.cx.sn.length x.cx.cs] 30))
  clear h
  unfold PA.cs
  by_cases n1 : (2000 : Int) < (x.dt.length : Int)
  · have e1 : decide ((2000 : Int) < (x.dt.length : Int)) = true := decide_eq_true n1
    go_enter Try.func11, Try.ntmps11
    go_wp2
    go_ret
    exact ⟨.inl rfl, HB0.out⟩
  have e1 : decide ((2000 : Int) < (x.dt.length : Int)) = false := decide_eq_false n1
  by_cases n2 : (50 : Int) < (x.cx.sn.length : Int)
  · have e2 : decide ((50 : Int) < (x.cx.sn.length : Int)) = true := decide_eq_true n2
    go_enter Try.func11, Try.ntmps11
    go_wp2
    go_ret
    exact ⟨.inl rfl, HB0.out⟩
  have e2 : decide ((50 : Int) < (x.cx.sn.length : Int)) = false := decide_eq_false n2
  go_enter Try.func11, Try.ntmps11
  go_wp2
  go_ret
  exact ⟨.inr ⟨rfl, by omega, by omega⟩, HB0.out⟩
/-- what a change by the program comes to -/
def opR (o : OV) (kd a n : Int) (dt : List Nat) (c : CxV) : OV → Nat → Prop :=
  if kd = 1 then ChR o c (writeK a dt.length) (some (writeD o.dt a.toNat dt)) else if kd = 2 then ChR o c (zeroK o a n) (some (zeroD o.dt a.toNat n.toNat)) else if kd = 3 then ChR o c (cutK o n) (some (o.dt.take n.toNat)) else
  if kd = 4 then ChR o c 0 none else if kd = 5 then ChR o c (backK c a) (atO (seeO o c) a) else TrR o a
theorem opR.one {o : OV} {kd a n : Int} {dt : List Nat} {c : CxV} {x y : OV} {k j : Nat} (h : opR o kd a n dt c x k) (h' : opR o kd a n dt c y j) : x = y ∧ k = j := by
  unfold opR at h h'
  split at h
  · rename_i e; rw [if_pos e] at h'; exact h.one h'
  rename_i e1; rw [if_neg e1] at h'
  split at h
  · rename_i e; rw [if_pos e] at h'; exact h.one h'
  rename_i e2; rw [if_neg e2] at h'
  split at h
  · rename_i e; rw [if_pos e] at h'; exact h.one h'
  rename_i e3; rw [if_neg e3] at h'
  split at h
  · rename_i e; rw [if_pos e] at h'; exact h.one h'
  rename_i e4; rw [if_neg e4] at h'
  split at h
  · rename_i e; rw [if_pos e] at h'; exact h.one h'
  rename_i e5; rw [if_neg e5] at h'
  exact h.one h'
set_option maxHeartbeats 16000000 in
theorem do_any {w : World} (o : OA) (x : PA) (ho : o.R w) (hoS : o.Sm) (hx : x.R w) (hxl : x.dt.length ≤ 100000) : Calls Try.prog 14 #[.agg o.cs, .agg x.cs] w (ChTo w (opR o.v x.kd x.at_ x.n x.dt x.cx.v)) := by
  have HO := Lib.hid (And.intro ho (And.intro hoS (And.intro hx hxl)))
  obtain ⟨w0, hw0⟩ : ∃ w0, w0 = ((w.alloc (.cells o.cs 36)).alloc (.cells x.cs 30)).alloc (.cells #[.bool false, .slice none 0 0, .int .i64 0, .slice none 0 0] 36) := ⟨_, rfl⟩
  have hbel : Below w.heap.size w w0 := by rw [hw0]; exact (((Below.refl _ w).alloc (Nat.le_refl _) _).alloc (by simp) _).alloc (by simp; omega) _
  have b0 : Blk w0 w.heap.size 36 o.cs := by rw [hw0]; exact ((Blk.new w _ _).alloc _).alloc _
  have b1 : Blk w0 (w.heap.size + 1) 30 x.cs := by
    have := (Blk.new (w.alloc (.cells o.cs 36)) 30 x.cs).alloc (.cells #[.bool false, .slice none 0 0, .int .i64 0, .slice none 0 0] 36)
    rw [hw0]
    simpa using this
  have b2 : Blk w0 (w.heap.size + 1 + 1) 36 #[.bool false, .slice none 0 0, .int .i64 0, .slice none 0 0] := by
    have := Blk.new ((w.alloc (.cells o.cs 36)).alloc (.cells x.cs 30)) 36 #[.bool false, .slice none 0 0, .int .i64 0, .slice none 0 0]
    rw [hw0]
    simpa using this
  have HW := Lib.hid (And.intro hbel (And.intro b0 (And.intro b1 b2)))
  have HWE := Lib.hid hw0
  clear ho hoS hx hxl hbel b0 b1 b2 hw0
  unfold OA.cs PA.cs at HWE
  have HEND : Hid (∀ (q : OA) (k : Nat) (w1 w9 : World), opR o.v x.kd x.at_ x.n x.dt x.cx.v q.v k → q.N w1 w0.heap.size → q.Sm → Below w0.heap.size w0 w1 → Only [w.heap.size + 1 + 1] w1 w9 → ChTo w (opR o.v x.kd x.at_ x.n x.dt x.cx.v) (.returned (.tuple #[.agg #[.bool q.th, .slice q.D q.dt.length q.cd, .int .i64 q.sq, .slice q.C q.cl.length q.cc], errV k])) w9) := Lib.hid fun q k w1 w9 hr hN hS hb ho9 => by
    have hz := HW.out.1.size
    have hb2 := HW.out.2.2.2
    refine ⟨q, k, rfl, hr, OA.P.weaken (OA.P.typed hN fun j t cs hbk ht => ho9.block j hbk.lt (fun hm => ?_)) hz, hS, (HW.out.1.trans (hb.mono hz)).trans (ho9.below (B := w.heap.size) (fun j hj => by simp at hj; omega) (by have := hb.size; omega))⟩
    simp at hm
    subst hm
    refine hbk.ne_ (hb2.of (hb.block _ hb2.lt)) ?_ rfl
    rcases ht with rfl | rfl | rfl <;> decide
  have hcs : o.cs = #[.bool o.th, .slice o.D o.dt.length o.cd, .int .i64 o.sq, .slice o.C o.cl.length o.cc] := rfl
  have hxs : x.cs = #[.int .i64 x.kd, .int .i64 x.at_, .int .i64 x.n, .slice x.D x.dt.length x.cd, .int .i64 x.cx.sq, .slice x.cx.S x.cx.sn.length x.cx.cs] := rfl
  have K0 : Blk w0 w.heap.size 36 #[.bool o.th, .slice o.D o.dt.length o.cd, .int .i64 o.sq, .slice o.C o.cl.length o.cc] := HW.out.2.1
  have K1 : Blk w0 (w.heap.size + 1) 30 #[.int .i64 x.kd, .int .i64 x.at_, .int .i64 x.n, .slice x.D x.dt.length x.cd, .int .i64 x.cx.sq, .slice x.cx.S x.cx.sn.length x.cx.cs] := HW.out.2.2.1
  have hrange : w0.rangeAt (w.heap.size + 1) 4 [.int .i64 x.cx.sq, .slice x.cx.S x.cx.sn.length x.cx.cs] := fun j u hj => by
    rw [K1.cell]
    match j, hj with
    | 0, hj => simpa using hj
    | 1, hj => simpa using hj
  have c0 : w0.cell? ⟨w.heap.size + 1, 0, none⟩ = some (.int .i64 x.kd) := K1.cell 0
  have c1 : w0.cell? ⟨w.heap.size + 1, 1, none⟩ = some (.int .i64 x.at_) := K1.cell 1
  have c2 : w0.cell? ⟨w.heap.size + 1, 2, none⟩ = some (.int .i64 x.n) := K1.cell 2
  have c3 : w0.cell? ⟨w.heap.size + 1, 3, none⟩ = some (.slice x.D x.dt.length x.cd) := K1.cell 3
  have hoR := HO.out.1.since HW.out.1
  have hxR := HO.out.2.2.1.since HW.out.1
  rw [hcs, hxs]
  clear hcs hxs K1
  by_cases h1 : x.kd = 1
  · have e1 : (x.kd == 1) = true := beq_iff_eq.2 h1
    have HCH := Lib.hid (snWrite o x.cx x.at_ x.D x.dt.length x.cd x.dt hxR.a1 hxR.a2 hoR HO.out.2.1 hxR.cx hxR.dt HO.out.2.2.2)
    have HOP : Hid (∀ y k, (ChR o.v x.cx.v (writeK x.at_ x.dt.length) (some (writeD o.dt x.at_.toNat x.dt)) y k) → opR o.v x.kd x.at_ x.n x.dt x.cx.v y k) := Lib.hid fun y k hh => by unfold opR; rw [if_pos h1]; exact hh
    unfold OA.cs XA.cells at HCH
    clear hoR hxR h1
    go_enter Try.func14, Try.ntmps14
    go_upto_region 1 with (fail)
    rw [← HWE.out]
    go_wp2_with (first
      | (have _h := K0; refine wpList_loadq rfl 36 (.tmp 2) rfl w.heap.size [.bool o.th, .slice o.D o.dt.length o.cd, .int .i64 o.sq, .slice o.C o.cl.length o.cc] _ rfl K0 Try.underlying36 rfl (by kernel_rfl) ?_; clear _h K0)
      | (have _h := hrange; refine wpList_load_mid rfl 28 (.tmp 11) rfl (w.heap.size + 1) 4 rfl [.int .i64 x.cx.sq, .slice x.cx.S x.cx.sn.length x.cx.cs] _ hrange Try.underlying28 rfl (by kernel_rfl) ?_; clear _h hrange))
    refine HCH.out.mono ?_
    rintro e w1 ⟨q, k, rfl, hr, hN, hS, hb⟩
    have K2 := HW.out.2.2.2.of (hb.block _ HW.out.2.2.2.lt)
    have HF := Lib.hid (HEND.out q k w1 · (HOP.out _ _ hr) hN hS hb)
    have hqs : q.cs = #[.bool q.th, .slice q.D q.dt.length q.cd, .int .i64 q.sq, .slice q.C q.cl.length q.cc] := rfl
    rw [hqs]
    obtain ⟨ek, hek⟩ : ∃ ek, ek = errV k := ⟨_, rfl⟩
    have HEK := Lib.hid hek
    rw [← hek]
    clear hqs hr hN hS hb HCH hek
    go_wp2_with (have _h := K2; refine wpList_storeq rfl 36 (.tmp 4) (.tmp 18) rfl (w.heap.size + 1 + 1) #[.bool false, .slice none 0 0, .int .i64 0, .slice none 0 0] [.bool q.th, .slice q.D q.dt.length q.cd, .int .i64 q.sq, .slice q.C q.cl.length q.cc] rfl rfl K2 rfl (by kernel_rfl) (OA.cs_one q) ?_; clear _h K2; intro w9 K9 ho9 hs9)
    refine bodyPost_ret (res_cell_tmp rfl _ _ (w.heap.size + 1 + 1) [.bool q.th, .slice q.D q.dt.length q.cd, .int .i64 q.sq, .slice q.C q.cl.length q.cc] _ _ rfl rfl K9 Try.underlying36 rfl (by kernel_rfl)) rfl ?_
    have := HF.out w9 ho9
    rw [← HEK.out] at this
    exact this
  by_cases h2 : x.kd = 2
  · have e1 : (x.kd == 1) = false := beq_eq_false_iff_ne.2 h1
    have e2 : (x.kd == 2) = true := beq_iff_eq.2 h2
    have HCH := Lib.hid (snZero o x.cx x.at_ x.n hxR.a1 hxR.a2 hxR.n1 hxR.n2 hoR HO.out.2.1 hxR.cx)
    have HOP : Hid (∀ y k, (ChR o.v x.cx.v (zeroK o.v x.at_ x.n) (some (zeroD o.dt x.at_.toNat x.n.toNat)) y k) → opR o.v x.kd x.at_ x.n x.dt x.cx.v y k) := Lib.hid fun y k hh => by unfold opR; rw [if_neg h1, if_pos h2]; exact hh
    unfold OA.cs XA.cells at HCH
    clear hoR hxR h1 h2
    go_enter Try.func14, Try.ntmps14
    go_upto_region 1 with (fail)
    rw [← HWE.out]
    go_wp2_with (first
      | (have _h := K0; refine wpList_loadq rfl 36 (.tmp 2) rfl w.heap.size [.bool o.th, .slice o.D o.dt.length o.cd, .int .i64 o.sq, .slice o.C o.cl.length o.cc] _ rfl K0 Try.underlying36 rfl (by kernel_rfl) ?_; clear _h K0)
      | (have _h := hrange; refine wpList_load_mid rfl 28 (.tmp 23) rfl (w.heap.size + 1) 4 rfl [.int .i64 x.cx.sq, .slice x.cx.S x.cx.sn.length x.cx.cs] _ hrange Try.underlying28 rfl (by kernel_rfl) ?_; clear _h hrange))
    refine HCH.out.mono ?_
    rintro e w1 ⟨q, k, rfl, hr, hN, hS, hb⟩
    have K2 := HW.out.2.2.2.of (hb.block _ HW.out.2.2.2.lt)
    have HF := Lib.hid (HEND.out q k w1 · (HOP.out _ _ hr) hN hS hb)
    have hqs : q.cs = #[.bool q.th, .slice q.D q.dt.length q.cd, .int .i64 q.sq, .slice q.C q.cl.length q.cc] := rfl
    rw [hqs]
    obtain ⟨ek, hek⟩ : ∃ ek, ek = errV k := ⟨_, rfl⟩
    have HEK := Lib.hid hek
    rw [← hek]
    clear hqs hr hN hS hb HCH hek
    go_wp2_with (have _h := K2; refine wpList_storeq rfl 36 (.tmp 4) (.tmp 30) rfl (w.heap.size + 1 + 1) #[.bool false, .slice none 0 0, .int .i64 0, .slice none 0 0] [.bool q.th, .slice q.D q.dt.length q.cd, .int .i64 q.sq, .slice q.C q.cl.length q.cc] rfl rfl K2 rfl (by kernel_rfl) (OA.cs_one q) ?_; clear _h K2; intro w9 K9 ho9 hs9)
    refine bodyPost_ret (res_cell_tmp rfl _ _ (w.heap.size + 1 + 1) [.bool q.th, .slice q.D q.dt.length q.cd, .int .i64 q.sq, .slice q.C q.cl.length q.cc] _ _ rfl rfl K9 Try.underlying36 rfl (by kernel_rfl)) rfl ?_
    have := HF.out w9 ho9
    rw [← HEK.out] at this
    exact this
  by_cases h3 : x.kd = 3
  · have e1 : (x.kd == 1) = false := beq_eq_false_iff_ne.2 h1
    have e2 : (x.kd == 2) = false := beq_eq_false_iff_ne.2 h2
    have e3 : (x.kd == 3) = true := beq_iff_eq.2 h3
    have HCH := Lib.hid (snCut o x.cx x.n hxR.n1 hxR.n2 hoR HO.out.2.1 hxR.cx)
    have HOP : Hid (∀ y k, (ChR o.v x.cx.v (cutK o.v x.n) (some (o.dt.take x.n.toNat)) y k) → opR o.v x.kd x.at_ x.n x.dt x.cx.v y k) := Lib.hid fun y k hh => by unfold opR; rw [if_neg h1, if_neg h2, if_pos h3]; exact hh
    unfold OA.cs XA.cells at HCH
    clear hoR hxR h1 h2 h3
    go_enter Try.func14, Try.ntmps14
    go_upto_region 1 with (fail)
    rw [← HWE.out]
    go_wp2_with (first
      | (have _h := K0; refine wpList_loadq rfl 36 (.tmp 2) rfl w.heap.size [.bool o.th, .slice o.D o.dt.length o.cd, .int .i64 o.sq, .slice o.C o.cl.length o.cc] _ rfl K0 Try.underlying36 rfl (by kernel_rfl) ?_; clear _h K0)
      | (have _h := hrange; refine wpList_load_mid rfl 28 (.tmp 35) rfl (w.heap.size + 1) 4 rfl [.int .i64 x.cx.sq, .slice x.cx.S x.cx.sn.length x.cx.cs] _ hrange Try.underlying28 rfl (by kernel_rfl) ?_; clear _h hrange))
    refine HCH.out.mono ?_
    rintro e w1 ⟨q, k, rfl, hr, hN, hS, hb⟩
    have K2 := HW.out.2.2.2.of (hb.block _ HW.out.2.2.2.lt)
    have HF := Lib.hid (HEND.out q k w1 · (HOP.out _ _ hr) hN hS hb)
    have hqs : q.cs = #[.bool q.th, .slice q.D q.dt.length q.cd, .int .i64 q.sq, .slice q.C q.cl.length q.cc] := rfl
    rw [hqs]
    obtain ⟨ek, hek⟩ : ∃ ek, ek = errV k := ⟨_, rfl⟩
    have HEK := Lib.hid hek
    rw [← hek]
    clear hqs hr hN hS hb HCH hek
    go_wp2_with (have _h := K2; refine wpList_storeq rfl 36 (.tmp 4) (.tmp 40) rfl (w.heap.size + 1 + 1) #[.bool false, .slice none 0 0, .int .i64 0, .slice none 0 0] [.bool q.th, .slice q.D q.dt.length q.cd, .int .i64 q.sq, .slice q.C q.cl.length q.cc] rfl rfl K2 rfl (by kernel_rfl) (OA.cs_one q) ?_; clear _h K2; intro w9 K9 ho9 hs9)
    refine bodyPost_ret (res_cell_tmp rfl _ _ (w.heap.size + 1 + 1) [.bool q.th, .slice q.D q.dt.length q.cd, .int .i64 q.sq, .slice q.C q.cl.length q.cc] _ _ rfl rfl K9 Try.underlying36 rfl (by kernel_rfl)) rfl ?_
    have := HF.out w9 ho9
    rw [← HEK.out] at this
    exact this
  by_cases h4 : x.kd = 4
  · have e1 : (x.kd == 1) = false := beq_eq_false_iff_ne.2 h1
    have e2 : (x.kd == 2) = false := beq_eq_false_iff_ne.2 h2
    have e3 : (x.kd == 3) = false := beq_eq_false_iff_ne.2 h3
    have e4 : (x.kd == 4) = true := beq_iff_eq.2 h4
    have HCH := Lib.hid (snDrop o x.cx hoR HO.out.2.1 hxR.cx)
    have HOP : Hid (∀ y k, (ChR o.v x.cx.v 0 none y k) → opR o.v x.kd x.at_ x.n x.dt x.cx.v y k) := Lib.hid fun y k hh => by unfold opR; rw [if_neg h1, if_neg h2, if_neg h3, if_pos h4]; exact hh
    unfold OA.cs XA.cells at HCH
    clear hoR hxR h1 h2 h3 h4
    go_enter Try.func14, Try.ntmps14
    go_upto_region 1 with (fail)
    rw [← HWE.out]
    go_wp2_with (first
      | (have _h := K0; refine wpList_loadq rfl 36 (.tmp 2) rfl w.heap.size [.bool o.th, .slice o.D o.dt.length o.cd, .int .i64 o.sq, .slice o.C o.cl.length o.cc] _ rfl K0 Try.underlying36 rfl (by kernel_rfl) ?_; clear _h K0)
      | (have _h := hrange; refine wpList_load_mid rfl 28 (.tmp 45) rfl (w.heap.size + 1) 4 rfl [.int .i64 x.cx.sq, .slice x.cx.S x.cx.sn.length x.cx.cs] _ hrange Try.underlying28 rfl (by kernel_rfl) ?_; clear _h hrange))
    refine HCH.out.mono ?_
    rintro e w1 ⟨q, k, rfl, hr, hN, hS, hb⟩
    have K2 := HW.out.2.2.2.of (hb.block _ HW.out.2.2.2.lt)
    have HF := Lib.hid (HEND.out q k w1 · (HOP.out _ _ hr) hN hS hb)
    have hqs : q.cs = #[.bool q.th, .slice q.D q.dt.length q.cd, .int .i64 q.sq, .slice q.C q.cl.length q.cc] := rfl
    rw [hqs]
    obtain ⟨ek, hek⟩ : ∃ ek, ek = errV k := ⟨_, rfl⟩
    have HEK := Lib.hid hek
    rw [← hek]
    clear hqs hr hN hS hb HCH hek
    go_wp2_with (have _h := K2; refine wpList_storeq rfl 36 (.tmp 4) (.tmp 48) rfl (w.heap.size + 1 + 1) #[.bool false, .slice none 0 0, .int .i64 0, .slice none 0 0] [.bool q.th, .slice q.D q.dt.length q.cd, .int .i64 q.sq, .slice q.C q.cl.length q.cc] rfl rfl K2 rfl (by kernel_rfl) (OA.cs_one q) ?_; clear _h K2; intro w9 K9 ho9 hs9)
    refine bodyPost_ret (res_cell_tmp rfl _ _ (w.heap.size + 1 + 1) [.bool q.th, .slice q.D q.dt.length q.cd, .int .i64 q.sq, .slice q.C q.cl.length q.cc] _ _ rfl rfl K9 Try.underlying36 rfl (by kernel_rfl)) rfl ?_
    have := HF.out w9 ho9
    rw [← HEK.out] at this
    exact this
  by_cases h5 : x.kd = 5
  · have e1 : (x.kd == 1) = false := beq_eq_false_iff_ne.2 h1
    have e2 : (x.kd == 2) = false := beq_eq_false_iff_ne.2 h2
    have e3 : (x.kd == 3) = false := beq_eq_false_iff_ne.2 h3
    have e4 : (x.kd == 4) = false := beq_eq_false_iff_ne.2 h4
    have e5 : (x.kd == 5) = true := beq_iff_eq.2 h5
    have HCH := Lib.hid (snBack o x.cx x.at_ hxR.a1 hxR.a2 hoR HO.out.2.1 hxR.cx)
    have HOP : Hid (∀ y k, (ChR o.v x.cx.v (backK x.cx.v x.at_) (atO (seeO o.v x.cx.v) x.at_) y k) → opR o.v x.kd x.at_ x.n x.dt x.cx.v y k) := Lib.hid fun y k hh => by unfold opR; rw [if_neg h1, if_neg h2, if_neg h3, if_neg h4, if_pos h5]; exact hh
    unfold OA.cs XA.cells at HCH
    clear hoR hxR h1 h2 h3 h4 h5
    go_enter Try.func14, Try.ntmps14
    go_upto_region 1 with (fail)
    rw [← HWE.out]
    go_wp2_with (first
      | (have _h := K0; refine wpList_loadq rfl 36 (.tmp 2) rfl w.heap.size [.bool o.th, .slice o.D o.dt.length o.cd, .int .i64 o.sq, .slice o.C o.cl.length o.cc] _ rfl K0 Try.underlying36 rfl (by kernel_rfl) ?_; clear _h K0)
      | (have _h := hrange; refine wpList_load_mid rfl 28 (.tmp 53) rfl (w.heap.size + 1) 4 rfl [.int .i64 x.cx.sq, .slice x.cx.S x.cx.sn.length x.cx.cs] _ hrange Try.underlying28 rfl (by kernel_rfl) ?_; clear _h hrange))
    refine HCH.out.mono ?_
    rintro e w1 ⟨q, k, rfl, hr, hN, hS, hb⟩
    have K2 := HW.out.2.2.2.of (hb.block _ HW.out.2.2.2.lt)
    have HF := Lib.hid (HEND.out q k w1 · (HOP.out _ _ hr) hN hS hb)
    have hqs : q.cs = #[.bool q.th, .slice q.D q.dt.length q.cd, .int .i64 q.sq, .slice q.C q.cl.length q.cc] := rfl
    rw [hqs]
    obtain ⟨ek, hek⟩ : ∃ ek, ek = errV k := ⟨_, rfl⟩
    have HEK := Lib.hid hek
    rw [← hek]
    clear hqs hr hN hS hb HCH hek
    go_wp2_with (have _h := K2; refine wpList_storeq rfl 36 (.tmp 4) (.tmp 58) rfl (w.heap.size + 1 + 1) #[.bool false, .slice none 0 0, .int .i64 0, .slice none 0 0] [.bool q.th, .slice q.D q.dt.length q.cd, .int .i64 q.sq, .slice q.C q.cl.length q.cc] rfl rfl K2 rfl (by kernel_rfl) (OA.cs_one q) ?_; clear _h K2; intro w9 K9 ho9 hs9)
    refine bodyPost_ret (res_cell_tmp rfl _ _ (w.heap.size + 1 + 1) [.bool q.th, .slice q.D q.dt.length q.cd, .int .i64 q.sq, .slice q.C q.cl.length q.cc] _ _ rfl rfl K9 Try.underlying36 rfl (by kernel_rfl)) rfl ?_
    have := HF.out w9 ho9
    rw [← HEK.out] at this
    exact this
  have e1 : (x.kd == 1) = false := beq_eq_false_iff_ne.2 h1
  have e2 : (x.kd == 2) = false := beq_eq_false_iff_ne.2 h2
  have e3 : (x.kd == 3) = false := beq_eq_false_iff_ne.2 h3
  have e4 : (x.kd == 4) = false := beq_eq_false_iff_ne.2 h4
  have e5 : (x.kd == 5) = false := beq_eq_false_iff_ne.2 h5
  have HCH := Lib.hid (snTrim o x.at_ hoR HO.out.2.1)
  have HOP : Hid (∀ y k, (TrR o.v x.at_ y k) → opR o.v x.kd x.at_ x.n x.dt x.cx.v y k) := Lib.hid fun y k hh => by unfold opR; rw [if_neg h1, if_neg h2, if_neg h3, if_neg h4, if_neg h5]; exact hh
  unfold OA.cs at HCH
  clear hoR hxR h1 h2 h3 h4 h5
  go_enter Try.func14, Try.ntmps14
  go_upto_region 1 with (fail)
  rw [← HWE.out]
  go_wp2_with (have _h := K0; refine wpList_loadq rfl 36 (.tmp 2) rfl w.heap.size [.bool o.th, .slice o.D o.dt.length o.cd, .int .i64 o.sq, .slice o.C o.cl.length o.cc] _ rfl K0 Try.underlying36 rfl (by kernel_rfl) ?_; clear _h K0)
  refine HCH.out.mono ?_
  rintro e w1 ⟨q, k, rfl, hr, hN, hS, hb⟩
  have K2 := HW.out.2.2.2.of (hb.block _ HW.out.2.2.2.lt)
  have HF := Lib.hid (HEND.out q k w1 · (HOP.out _ _ hr) hN hS hb)
  have hqs : q.cs = #[.bool q.th, .slice q.D q.dt.length q.cd, .int .i64 q.sq, .slice q.C q.cl.length q.cc] := rfl
  rw [hqs]
  obtain ⟨ek, hek⟩ : ∃ ek, ek = errV k := ⟨_, rfl⟩
  have HEK := Lib.hid hek
  rw [← hek]
  clear hqs hr hN hS hb HCH hek
  go_wp2_with (have _h := K2; refine wpList_storeq rfl 36 (.tmp 4) (.tmp 64) rfl (w.heap.size + 1 + 1) #[.bool false, .slice none 0 0, .int .i64 0, .slice none 0 0] [.bool q.th, .slice q.D q.dt.length q.cd, .int .i64 q.sq, .slice q.C q.cl.length q.cc] rfl rfl K2 rfl (by kernel_rfl) (OA.cs_one q) ?_; clear _h K2; intro w9 K9 ho9 hs9)
  refine bodyPost_ret (res_cell_tmp rfl _ _ (w.heap.size + 1 + 1) [.bool q.th, .slice q.D q.dt.length q.cd, .int .i64 q.sq, .slice q.C q.cl.length q.cc] _ _ rfl rfl K9 Try.underlying36 rfl (by kernel_rfl)) rfl ?_
  have := HF.out w9 ho9
  rw [← HEK.out] at this
  exact this
end Go.Proofs.Ytjepfeagbiceoaa
