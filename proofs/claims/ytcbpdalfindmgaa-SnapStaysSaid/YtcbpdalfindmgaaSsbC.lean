/-
  The walk of the law SnapStays. Conditions: the object and the change read as they are said to.
-/
import Derived.Test.YtcbpdalfindmgaaZg
import Derived.Test.YtcbpdalfindmgaaRaC
import Derived.Test.YtcbpdalfindmgaaQvC
namespace Go.Proofs.Ytcbpdalfindmgaa
open Go.RowKit Go.BigFrame
set_option linter.unusedSimpArgs false
set_option linter.unusedVariables false
set_option maxRecDepth 100000
theorem same_any (A A' : Option Addr) (n n' c c' B B' : Nat) (bs bs' : List Nat) (w : World) (h : Bytes w B A n bs) (h' : Bytes w B' A' n' bs') :
    Calls Try.prog 29 #[.slice A n c, .slice A' n' c'] w fun e w' => ∃ b, e = .returned (.bool b) ∧ (bs = bs' → b = true) ∧ w = w' := by
  have k1 := str_of (P := Try.prog) h c 22 9 5 Try.underlying22 Try.underlying5 Try.underlying9
  have k2 := str_of (P := Try.prog) h' c' 22 9 5 Try.underlying22 Try.underlying5 Try.underlying9
  obtain ⟨s1, hs1⟩ : ∃ s, s = strOf bs := ⟨_, rfl⟩
  obtain ⟨s2, hs2⟩ : ∃ s, s = strOf bs' := ⟨_, rfl⟩
  rw [← hs1] at k1
  rw [← hs2] at k2
  have HE : Hid (bs = bs' → s1 = s2) := Lib.hid (fun e => by rw [hs1, hs2, e])
  clear hs1 hs2 h h'
  go_enter Try.func29, Try.ntmps29
  go_wp2
  go_ret
  exact ⟨_, rfl, fun e => by simp [HE.out e], rfl⟩
theorem ChR.was {o x : OV} {c : CxV} {km k : Nat} {hd : Option (List Nat)} (h : ChR o c km hd x k) (hk : k = 0) : Good o ∧ CxG c := by
  cases h with
  | bad _ => cases hk
  | ctx _ _ => cases hk
  | may _ _ _ h => exact absurd hk h
  | many _ _ _ _ _ => cases hk
  | ok h1 h2 h3 h4 h5 => exact ⟨h1, h2⟩
theorem opR.was {o x : OV} {kd a n : Int} {dt : List Nat} {c : CxV} {k : Nat} (h : opR o kd a n dt c x k) (hk : k = 0) (h1 : 1 ≤ kd) (h5 : kd ≤ 5) : Good o ∧ CxG c := by
  unfold opR at h
  split at h
  · exact h.was hk
  split at h
  · exact h.was hk
  split at h
  · exact h.was hk
  split at h
  · exact h.was hk
  split at h
  · exact h.was hk
  · omega
theorem opR.trim {o x : OV} {kd a n : Int} {dt : List Nat} {c : CxV} {k : Nat} (h : opR o kd a n dt c x k) (hk : k = 0) (hn : kd < 1 ∨ 5 < kd) : Good o ∧ Good x ∧ 1 ≤ a ∧ ∀ s : Int, s ≠ a → atO x s = atO o s := by
  have ht : TrR o a x k := by
    unfold opR at h
    rw [if_neg (by omega), if_neg (by omega), if_neg (by omega), if_neg (by omega), if_neg (by omega)] at h
    exact h
  cases ht with
  | bad _ => cases hk
  | rng _ _ => cases hk
  | ok h1 h2 => exact ⟨h1, trim_good h1 a, h2, fun s hs => trim_atO o a s hs⟩
/-- the two objects, before and behind -/
structure Two9 (w : World) (x : PA) (gx gp gq : Nat) (p q : OA) (wr : World) : Prop where
  kp : Blk wr gp 36 #[.bool p.th, .slice p.D p.dt.length p.cd, .int .i64 p.sq, .slice p.C p.cl.length p.cc]
  kq : Blk wr gq 36 #[.bool q.th, .slice q.D q.dt.length q.cd, .int .i64 q.sq, .slice q.C q.cl.length q.cc]
  kx : Blk wr gx 30 #[.int .i64 x.kd, .int .i64 x.at_, .int .i64 x.n, .slice x.D x.dt.length x.cd, .int .i64 x.cx.sq, .slice x.cx.S x.cx.sn.length x.cx.cs]
  rp : p.R wr
  rq : q.R wr
  rx : x.R wr
  bel : Below w.heap.size w wr
theorem Two9.next {w wr wr' : World} {x : PA} {gx gp gq : Nat} {p q : OA} (h : Two9 w x gx gp gq p q wr) (hb : Below wr.heap.size wr wr') : Two9 w x gx gp gq p q wr' :=
  ⟨h.kp.of (hb.block _ h.kp.lt), h.kq.of (hb.block _ h.kq.lt), h.kx.of (hb.block _ h.kx.lt), h.rp.since hb, h.rq.since hb, h.rx.since hb, h.bel.trans (hb.mono h.bel.size)⟩
set_option maxHeartbeats 64000000 in
theorem snapStays_walk {w : World} (o : OA) (x : PA) (ho : o.R w) (hx : x.R w) :
    Calls Try.prog 6 #[.agg o.cs, .agg x.cs] w fun e w' => e = .returned (.bool true) ∧ Below w.heap.size w w' := by
  obtain ⟨w0, hw0⟩ : ∃ w0, w0 = (w.alloc (.cells #[.bool o.th, .slice o.D o.dt.length o.cd, .int .i64 o.sq, .slice o.C o.cl.length o.cc] 25)).alloc (.cells #[.int .i64 x.kd, .int .i64 x.at_, .int .i64 x.n, .slice x.D x.dt.length x.cd, .int .i64 x.cx.sq, .slice x.cx.S x.cx.sn.length x.cx.cs] 30) := ⟨_, rfl⟩
  have hbel : Below w.heap.size w w0 := by rw [hw0]; exact ((Below.refl _ w).alloc (Nat.le_refl _) _).alloc (by simp) _
  have b0 : Blk w0 w.heap.size 25 #[.bool o.th, .slice o.D o.dt.length o.cd, .int .i64 o.sq, .slice o.C o.cl.length o.cc] := by rw [hw0]; exact (Blk.new w _ _).alloc _
  have b1 : Blk w0 (w.heap.size + 1) 30 #[.int .i64 x.kd, .int .i64 x.at_, .int .i64 x.n, .slice x.D x.dt.length x.cd, .int .i64 x.cx.sq, .slice x.cx.S x.cx.sn.length x.cx.cs] := by
    have := Blk.new (w.alloc (.cells #[.bool o.th, .slice o.D o.dt.length o.cd, .int .i64 o.sq, .slice o.C o.cl.length o.cc] 25)) 30 #[.int .i64 x.kd, .int .i64 x.at_, .int .i64 x.n, .slice x.D x.dt.length x.cd, .int .i64 x.cx.sq, .slice x.cx.S x.cx.sn.length x.cx.cs]
    rw [hw0]
    simpa using this
  have HWE := Lib.hid hw0
  have H0 : Hid (∀ W, Below w0.heap.size w0 W → Blk W w.heap.size 25 #[.bool o.th, .slice o.D o.dt.length o.cd, .int .i64 o.sq, .slice o.C o.cl.length o.cc] ∧ Blk W (w.heap.size + 1) 30 #[.int .i64 x.kd, .int .i64 x.at_, .int .i64 x.n, .slice x.D x.dt.length x.cd, .int .i64 x.cx.sq, .slice x.cx.S x.cx.sn.length x.cx.cs] ∧ o.R W ∧ x.R W ∧ Below w.heap.size w W) := Lib.hid fun W hb => ⟨b0.of (hb.block _ b0.lt), b1.of (hb.block _ b1.lt), (ho.since hbel).since hb, (hx.since hbel).since hb, hbel.trans (hb.mono hbel.size)⟩
  have HR : Hid (o.R w ∧ x.R w) := Lib.hid ⟨ho, hx⟩
  have hos : o.cs = #[.bool o.th, .slice o.D o.dt.length o.cd, .int .i64 o.sq, .slice o.C o.cl.length o.cc] := rfl
  have hxs : x.cs = #[.int .i64 x.kd, .int .i64 x.at_, .int .i64 x.n, .slice x.D x.dt.length x.cd, .int .i64 x.cx.sq, .slice x.cx.S x.cx.sn.length x.cx.cs] := rfl
  rw [hos, hxs]
  clear hos hxs hw0 hbel b0 b1 ho hx
  go_enter Try.func6, Try.ntmps6
  go_upto_region 1 with (fail)
  rw [← HWE.out]
  clear HWE
  go_wp2_with fail
  refine (alive_any w0).mono ?_
  rintro e w1 ⟨rfl, hb1⟩
  have HB1 := Lib.hid hb1
  have K0 := (H0.out w1 hb1).1
  have HLG := Lib.hid (large_any o (H0.out w1 hb1).2.2.1)
  unfold OA.cs at HLG
  clear hb1
  go_wp2_with (have _h := K0; refine wpList_loadq rfl 25 (.tmp 2) rfl w.heap.size [.bool o.th, .slice o.D o.dt.length o.cd, .int .i64 o.sq, .slice o.C o.cl.length o.cc] _ rfl K0 Try.underlying25 rfl (by kernel_rfl) ?_; clear _h K0)
  refine HLG.out.mono ?_
  rintro e w2 ⟨rfl | ⟨rfl, hLm⟩, hb2⟩
  · have HE := Lib.hid (H0.out w2 (HB1.out.trans (hb2.mono HB1.out.size))).2.2.2.2
    clear hb2 HLG
    go_wp2
    go_ret
    exact ⟨rfl, HE.out⟩
  have HB2 := Lib.hid (HB1.out.trans (hb2.mono HB1.out.size))
  have HLm := Lib.hid hLm
  have HWD := Lib.hid (wide_any x (H0.out w2 HB2.out).2.2.2.1)
  unfold PA.cs at HWD
  have KX := (H0.out w2 HB2.out).2.1
  have q0 : w2.cell? ⟨w.heap.size + 1, 0, none⟩ = some (.int .i64 x.kd) := KX.cell 0
  have q1 : w2.cell? ⟨w.heap.size + 1, 1, none⟩ = some (.int .i64 x.at_) := KX.cell 1
  have q2 : w2.cell? ⟨w.heap.size + 1, 2, none⟩ = some (.int .i64 x.n) := KX.cell 2
  have q3 : w2.cell? ⟨w.heap.size + 1, 3, none⟩ = some (.slice x.D x.dt.length x.cd) := KX.cell 3
  have q4 : w2.cell? ⟨w.heap.size + 1, 4, none⟩ = some (.int .i64 x.cx.sq) := KX.cell 4
  have q5 : w2.cell? ⟨w.heap.size + 1, 5, none⟩ = some (.slice x.cx.S x.cx.sn.length x.cx.cs) := KX.cell 5
  clear hb2 hLm HLG HB1 KX
  go_wp2_with fail
  refine HWD.out.mono ?_
  rintro e w3 ⟨rfl | ⟨rfl, hxd, hxn⟩, hb3⟩
  · have HE := Lib.hid (H0.out w3 (HB2.out.trans (hb3.mono HB2.out.size))).2.2.2.2
    clear hb3 HWD q0 q1 q2 q3 q4 q5
    go_wp2
    go_ret
    exact ⟨rfl, HE.out⟩
  have HB3 := Lib.hid (HB2.out.trans (hb3.mono HB2.out.size))
  have K0 := (H0.out w3 HB3.out).1
  have HPG := Lib.hid (program_any o (H0.out w3 HB3.out).2.2.1 HLm.out)
  unfold OA.cs at HPG
  clear hb3 HWD HB2 q0 q1 q2 q3 q4 q5
  go_wp2_with (have _h := K0; refine wpList_loadq rfl 25 (.tmp 2) rfl w.heap.size [.bool o.th, .slice o.D o.dt.length o.cd, .int .i64 o.sq, .slice o.C o.cl.length o.cc] _ rfl K0 Try.underlying25 rfl (by kernel_rfl) ?_; clear _h K0)
  refine HPG.out.mono ?_
  rintro e w4 ⟨p, hpv, hpS, hpN, rfl, hb4⟩
  have hps : p.cs = #[.bool p.th, .slice p.D p.dt.length p.cd, .int .i64 p.sq, .slice p.C p.cl.length p.cc] := rfl
  rw [hps]
  obtain ⟨w5, hw5⟩ : ∃ w5, w5 = w4.alloc (.cells #[.bool p.th, .slice p.D p.dt.length p.cd, .int .i64 p.sq, .slice p.C p.cl.length p.cc] 36) := ⟨_, rfl⟩
  have hb45 : Below w4.heap.size w4 w5 := by rw [hw5]; exact below_alloc w4 _
  have KP : Blk w5 w4.heap.size 36 #[.bool p.th, .slice p.D p.dt.length p.cd, .int .i64 p.sq, .slice p.C p.cl.length p.cc] := by rw [hw5]; exact Blk.new w4 _ _
  obtain ⟨gp, hgp⟩ : ∃ gp, gp = w4.heap.size := ⟨_, rfl⟩
  rw [← hgp] at KP
  have HB5 := Lib.hid ((HB3.out.trans (hb4.mono HB3.out.size)).trans (hb45.mono (by have := HB3.out.size; have := hb4.size; omega)))
  have HPP := Lib.hid (And.intro (hpN.R.since hb45) (And.intro hpS KP))
  have HW5 := Lib.hid (And.intro hw5 hgp)
  have KX := (H0.out w5 HB5.out).2.1
  have HDO := Lib.hid (do_any (w := w5) p x (hpN.R.since hb45) hpS (H0.out w5 HB5.out).2.2.2.1 (by omega))
  unfold OA.cs PA.cs at HDO
  clear hps hb45 hw5 hgp hpN hb4 HPG
  go_upto_region 6 with (fail)
  rw [← HW5.out.1, ← HW5.out.2]
  clear HW5
  go_wp2_with (first
    | (have _h := KP; refine wpList_loadq rfl 36 (.tmp 5) rfl gp [.bool p.th, .slice p.D p.dt.length p.cd, .int .i64 p.sq, .slice p.C p.cl.length p.cc] _ rfl KP Try.underlying36 rfl (by kernel_rfl) ?_; clear _h KP)
    | (have _h := KX; refine wpList_loadq rfl 30 (.tmp 3) rfl (w.heap.size + 1) [.int .i64 x.kd, .int .i64 x.at_, .int .i64 x.n, .slice x.D x.dt.length x.cd, .int .i64 x.cx.sq, .slice x.cx.S x.cx.sn.length x.cx.cs] _ rfl KX Try.underlying30 rfl (by kernel_rfl) ?_; clear _h KX))
  refine HDO.out.mono ?_
  rintro e w6 ⟨q, kk, rfl, hr, hqN, hqS, hb6⟩
  have hqs : q.cs = #[.bool q.th, .slice q.D q.dt.length q.cd, .int .i64 q.sq, .slice q.C q.cl.length q.cc] := rfl
  rw [hqs]
  obtain ⟨w7, hw7⟩ : ∃ w7, w7 = w6.alloc (.cells #[.bool q.th, .slice q.D q.dt.length q.cd, .int .i64 q.sq, .slice q.C q.cl.length q.cc] 36) := ⟨_, rfl⟩
  have hb67 : Below w6.heap.size w6 w7 := by rw [hw7]; exact below_alloc w6 _
  have hb57 : Below w5.heap.size w5 w7 := hb6.trans (hb67.mono hb6.size)
  have KQ : Blk w7 w6.heap.size 36 #[.bool q.th, .slice q.D q.dt.length q.cd, .int .i64 q.sq, .slice q.C q.cl.length q.cc] := by rw [hw7]; exact Blk.new w6 _ _
  obtain ⟨gq, hgq⟩ : ∃ gq, gq = w6.heap.size := ⟨_, rfl⟩
  rw [← hgq] at KQ
  have HB7 := HB5.out.trans (hb57.mono HB5.out.size)
  have HT := Lib.hid (show Two9 w x (w.heap.size + 1) gp gq p q w7 from ⟨HPP.out.2.2.of (hb57.block _ HPP.out.2.2.lt), KQ, (H0.out w7 HB7).2.1, HPP.out.1.since hb57, hqN.R.since hb67, (H0.out w7 HB7).2.2.2.1, (H0.out w7 HB7).2.2.2.2⟩)
  have HS := Lib.hid (And.intro HPP.out.2.1 hqS)
  have HRR := Lib.hid hr
  have HW7 := Lib.hid (And.intro hw7 hgq)
  clear hqs hb67 hb57 hw7 hgq hqN hqS hb6 HDO HB7 hr KQ
  by_cases hkk : kk ≠ 0
  · rw [errV_some hkk]
    clear hkk
    go_upto_region 7 with (fail)
    rw [← HW7.out.1, ← HW7.out.2]
    clear HW7
    go_wp2
    go_ret
    exact ⟨rfl, HT.out.bel⟩
  have hk0 : kk = 0 := Decidable.not_not.1 hkk
  subst hk0
  clear hkk
  unfold errV
  go_upto_region 7 with (fail)
  rw [← HW7.out.1, ← HW7.out.2]
  clear HW7
  have c0 : w7.cell? ⟨w.heap.size + 1, 0, none⟩ = some (.int .i64 x.kd) := HT.out.kx.cell 0
  have c5 : w7.cell? ⟨w.heap.size + 1, 5, none⟩ = some (.slice x.cx.S x.cx.sn.length x.cx.cs) := HT.out.kx.cell 5
  by_cases h1 : x.kd < 1
  · have d1 : decide (x.kd < 1) = true := decide_eq_true h1
    have HTR := Lib.hid (HRR.out.trim rfl (.inl h1))
    clear h1
    have HGG : Hid (Good p.v ∧ Good q.v) := Lib.hid ⟨HTR.out.1, HTR.out.2.1⟩
    go_upto_region 13 with (fail)
    obtain ⟨w8, hw8⟩ : ∃ w8, w8 = w7.alloc (.cells #[.int .i64 0] 3) := ⟨_, rfl⟩
    have h78 : Below w7.heap.size w7 w8 := by rw [hw8]; exact below_alloc w7 _
    have hown8 : OwnI w8 w7.heap.size (.slice (some ⟨w7.heap.size, 0, none⟩) 1 1) 1 [0] := by rw [hw8]; exact OwnI.one w7 w7.heap.size 0 (Nat.le_refl _)
    have H8 : Hid (OwnI w8 w7.heap.size (.slice (some ⟨w7.heap.size, 0, none⟩) ([(0 : Int)].length) 1) [(0 : Int)].length [0] ∧ Below w7.heap.size w7 w8) := Lib.hid ⟨hown8, h78⟩
    have HW8 := Lib.hid hw8
    clear hw8 h78 hown8 c0 c5 d1
    rw [← HW8.out]
    clear HW8
    go_loopw [8, 9] (fun v i wr => ∃ (s : Nat) (A : Option Addr) (c : Nat) (L : List Int), 1 ≤ s ∧ s ≤ 40 ∧ i = .int .i64 s ∧ v = .slice A L.length c ∧ OwnI wr w7.heap.size (.slice A L.length c) L.length L ∧ L.length ≤ s ∧ (∀ y ∈ L, 0 ≤ y ∧ y ≤ 39 ∧ y ≠ x.at_) ∧ Below w7.heap.size w7 wr) (fun _ i _ => 40 - (intOf i).toNat)
    case atStart => exact ⟨1, _, _, [0], by omega, by omega, rfl, rfl, H8.out.1, by simp, fun y hy => by simp at hy; subst hy; have := HTR.out.2.2.1; omega, H8.out.2⟩
    case round =>
      obtain ⟨s, A9, c9, L, hs1, hs2, rfl, rfl, hown, hls, hall, hbw⟩ := hrel
      obtain ⟨wo, hwo⟩ : ∃ wo, wo = wr := ⟨_, rfl⟩
      subst hwo
      have hws : IntKind.i64.wrap ((s : Int) + 1) = (s : Int) + 1 := by rw [IntKind.wrap_i64]; omega
      have HO := Lib.hid (And.intro hown (And.intro hall hbw))
      have HT9 := Lib.hid (HT.out.next hbw)
      have c1 : wo.cell? ⟨w.heap.size + 1, 1, none⟩ = some (.int .i64 x.at_) := HT9.out.kx.cell 1
      have hbsz := hbw.size
      by_cases hlt : s < 40
      · have d8 : decide ((s : Int) < 40) = true := decide_eq_true (by omega)
        have d8n : decide (s < 40) = true := decide_eq_true hlt
        by_cases he : (s : Int) = x.at_
        · have e1 : ((s : Int) != x.at_) = false := by simp [he]
          have e2 : ((s : Int) == x.at_) = true := beq_iff_eq.2 he
          clear hown hall hbw he
          go_wp2
          go_roundw
          case rel => exact ⟨s + 1, _, _, L, by omega, by omega, by go_num, rfl, HO.out.1, by omega, HO.out.2.1, HO.out.2.2⟩
          case measure => simp [intOf]; omega
        · have e2 : ((s : Int) == x.at_) = false := beq_eq_false_iff_ne.2 he
          have e1 : ((s : Int) != x.at_) = true := by simp [bne, e2]
          have hn9 : OwnI (wo.alloc (.cells #[.int .i64 s] 3)) w7.heap.size (.slice A9 L.length c9) L.length L := OwnI.below hown (below_alloc wo _)
          have hnew : Ints (wo.alloc (.cells #[.int .i64 s] 3)) (wo.alloc (.cells #[.int .i64 s] 3)).heap.size (some ⟨wo.heap.size, 0, none⟩) 1 [(s : Int)] := OwnI.ints (OwnI.one wo wo.heap.size (s : Int) (Nat.le_refl _))
          have HNE := Lib.hid he
          clear hown hall hbw he
          go_wp2_with (refine app_ints (.tmp 54) (.tmp 56) rfl rfl w7.heap.size (.slice A9 L.length c9) L.length L rfl hn9 _ (some ⟨wo.heap.size, 0, none⟩) 1 1 [(s : Int)] rfl hnew (by omega) (by simp; omega) ?_; intro v2 w2 h2 g2 a2)
          obtain ⟨A2, c2, rfl⟩ := h2.form2
          have HN : Hid (OwnI w2 w7.heap.size (.slice A2 (L ++ [(s : Int)]).length c2) (L ++ [(s : Int)]).length (L ++ [(s : Int)]) ∧ Below w7.heap.size w7 w2) := Lib.hid ⟨by rw [List.length_append]; exact h2, (HO.out.2.2.alloc HO.out.2.2.size _).grown g2 (by simp; omega) (fun k e => row_over hn9 k (mem_rowOf.2 e))⟩
          clear h2 g2 a2 hn9 hnew
          go_roundw
          case rel => exact ⟨s + 1, A2, c2, L ++ [(s : Int)], by omega, by omega, by go_num, by simp, HN.out.1, by simp; omega, fun y hy => by
            rcases List.mem_append.1 hy with h | h
            · exact HO.out.2.1 y h
            · simp at h; subst h; exact ⟨by omega, by omega, HNE.out⟩, HN.out.2⟩
          case measure => simp [intOf]; omega
      · have d8 : decide ((s : Int) < 40) = false := decide_eq_false (by omega)
        have d8n : decide (s < 40) = false := decide_eq_false hlt
        have HAT : Hid (∀ y ∈ L, 0 ≤ y ∧ y ≤ 9223372036854775807 ∧ atO q.v y = atO p.v y) := Lib.hid fun y hy => by
          have h1 := HO.out.2.1 y hy
          exact ⟨h1.1, by omega, HTR.out.2.2.2 y h1.2.2⟩
        have HIN : Hid (Ints wo wo.heap.size A9 L.length L) := Lib.hid (OwnI.ints hown)
        have hnn : L.length ≤ 9223372036854775807 := by omega
        clear hown hall hbw c1 hlt
        go_upto_region 18 with (fail)
        clear d8 d8n
        obtain ⟨nL, hnL⟩ : ∃ nL, nL = L.length := ⟨_, rfl⟩
        have HNL := Lib.hid hnL
        rw [← hnL] at HIN hnn ⊢
        clear hnL
        go_loopw [60] (fun i wr => ∃ k : Nat, k ≤ nL ∧ i = .int .i64 k ∧ Below wo.heap.size wo wr) (fun i _ => nL - (intOf i).toNat)
        case atStart => exact ⟨0, by omega, rfl, Below.refl _ _⟩
        case round =>
          obtain ⟨k, hk, rfl, hbk⟩ := hrel
          obtain ⟨wv, hwv⟩ : ∃ wv, wv = wr := ⟨_, rfl⟩
          subst hwv
          have HBK := Lib.hid hbk
          have HTV := Lib.hid (HT9.out.next hbk)
          have hin := Ints.since HIN.out hbk
          have K5 := HTV.out.kp
          have K6 := HTV.out.kq
          clear hbk
          by_cases hlt : k < nL
          · have hwk : IntKind.i64.wrap ((k : Int) + 1) = (k : Int) + 1 := by rw [IntKind.wrap_i64]; omega
            obtain ⟨ad, y, rfl, hy, hc⟩ := hin.at_ hlt
            have hye := HAT.out y (List.mem_of_getElem? hy)
            have HAP := Lib.hid (at1_any p y HTV.out.rp HS.out.1 HGG.out.1 hye.1)
            unfold OA.cs at HAP
            have HYE := Lib.hid hye
            clear hy hin hye
            go_wp2_with (have _h := K5; refine wpList_loadq rfl 36 (.tmp 5) rfl gp [.bool p.th, .slice p.D p.dt.length p.cd, .int .i64 p.sq, .slice p.C p.cl.length p.cc] _ rfl K5 Try.underlying36 rfl (by kernel_rfl) ?_; clear _h K5)
            refine HAP.out.mono ?_
            rintro e wP ⟨A1, c1, rfl, how1, hsm1, hbP⟩
            have HTP := Lib.hid (HTV.out.next hbP)
            have hAQ := at1_any q y HTP.out.rq HS.out.2 HGG.out.2 HYE.out.1
            rw [HYE.out.2.2] at hAQ
            have HAQ := Lib.hid hAQ
            unfold OA.cs at HAQ
            have K6 := HTP.out.kq
            have HO1 := Lib.hid (And.intro how1 (And.intro hsm1 hbP))
            obtain ⟨h9, hh9⟩ : ∃ h9, h9 = atO p.v y := ⟨_, rfl⟩
            rw [← hh9] at HAQ HO1 ⊢
            clear how1 hsm1 hbP hAQ hc HAP hh9
            go_wp2_with (have _h := K6; refine wpList_loadq rfl 36 (.tmp 6) rfl gq [.bool q.th, .slice q.D q.dt.length q.cd, .int .i64 q.sq, .slice q.C q.cl.length q.cc] _ rfl K6 Try.underlying36 rfl (by kernel_rfl) ?_; clear _h K6)
            refine HAQ.out.mono ?_
            rintro e wQ ⟨A2, c2, rfl, how2, hsm2, hbQ⟩
            have h1b : Bytes wQ wQ.heap.size A1 (h9.getD []).length (h9.getD []) := Own.bytes (Own.below HO1.out.1 hbQ) HO1.out.2.1
            have HSM := Lib.hid (same_any A1 A2 (h9.getD []).length (h9.getD []).length c1 c2 _ _ _ _ wQ h1b (Own.bytes how2 hsm2))
            have HBQ := Lib.hid ((HBK.out.trans (HO1.out.2.2.mono HBK.out.size)).trans (hbQ.mono (by have := HBK.out.size; have := HO1.out.2.2.size; omega)))
            generalize (h9.getD []) = dd at *
            generalize h9.isSome = bb at *
            have e9 : (bb != bb) = false := by simp
            clear how2 hsm2 hbQ h1b HAQ
            go_wp2_with fail
            refine HSM.out.mono ?_
            rintro e wR ⟨b, rfl, hbt, rfl⟩
            obtain rfl : b = true := hbt (by first | trivial | rfl)
            clear hbt HSM
            go_wp2_with fail
            go_roundw
            case rel => exact ⟨k + 1, by omega, by go_num, HBQ.out⟩
            case measure => simp [intOf]; omega
          · have HGD := Lib.hid (sgood_any q HTV.out.rq)
            unfold OA.cs at HGD
            clear hin
            go_wp2_with (have _h := K6; refine wpList_loadq rfl 36 (.tmp 6) rfl gq [.bool q.th, .slice q.D q.dt.length q.cd, .int .i64 q.sq, .slice q.C q.cl.length q.cc] _ rfl K6 Try.underlying36 rfl (by kernel_rfl) ?_; clear _h K6)
            refine HGD.out.mono ?_
            rintro e wE ⟨b, rfl, hg, hbE⟩
            obtain rfl : b = true := hg.2 HGG.out.2
            have HE := Lib.hid (HTV.out.bel.trans (hbE.mono HTV.out.bel.size))
            clear hg hbE HGD
            go_wp2
            go_ret
            exact ⟨rfl, HE.out⟩
  · have d1 : decide (x.kd < 1) = false := decide_eq_false h1
    by_cases h5 : (5 : Int) < x.kd
    · have d5 : decide ((5 : Int) < x.kd) = true := decide_eq_true h5
      have HTR := Lib.hid (HRR.out.trim rfl (.inr h5))
      clear h1 h5
      have HGG : Hid (Good p.v ∧ Good q.v) := Lib.hid ⟨HTR.out.1, HTR.out.2.1⟩
      go_upto_region 13 with (fail)
      obtain ⟨w8, hw8⟩ : ∃ w8, w8 = w7.alloc (.cells #[.int .i64 0] 3) := ⟨_, rfl⟩
      have h78 : Below w7.heap.size w7 w8 := by rw [hw8]; exact below_alloc w7 _
      have hown8 : OwnI w8 w7.heap.size (.slice (some ⟨w7.heap.size, 0, none⟩) 1 1) 1 [0] := by rw [hw8]; exact OwnI.one w7 w7.heap.size 0 (Nat.le_refl _)
      have H8 : Hid (OwnI w8 w7.heap.size (.slice (some ⟨w7.heap.size, 0, none⟩) ([(0 : Int)].length) 1) [(0 : Int)].length [0] ∧ Below w7.heap.size w7 w8) := Lib.hid ⟨hown8, h78⟩
      have HW8 := Lib.hid hw8
      clear hw8 h78 hown8 c0 c5 d1
      rw [← HW8.out]
      clear HW8
      go_loopw [8, 9] (fun v i wr => ∃ (s : Nat) (A : Option Addr) (c : Nat) (L : List Int), 1 ≤ s ∧ s ≤ 40 ∧ i = .int .i64 s ∧ v = .slice A L.length c ∧ OwnI wr w7.heap.size (.slice A L.length c) L.length L ∧ L.length ≤ s ∧ (∀ y ∈ L, 0 ≤ y ∧ y ≤ 39 ∧ y ≠ x.at_) ∧ Below w7.heap.size w7 wr) (fun _ i _ => 40 - (intOf i).toNat)
      case atStart => exact ⟨1, _, _, [0], by omega, by omega, rfl, rfl, H8.out.1, by simp, fun y hy => by simp at hy; subst hy; have := HTR.out.2.2.1; omega, H8.out.2⟩
      case round =>
        obtain ⟨s, A9, c9, L, hs1, hs2, rfl, rfl, hown, hls, hall, hbw⟩ := hrel
        obtain ⟨wo, hwo⟩ : ∃ wo, wo = wr := ⟨_, rfl⟩
        subst hwo
        have hws : IntKind.i64.wrap ((s : Int) + 1) = (s : Int) + 1 := by rw [IntKind.wrap_i64]; omega
        have HO := Lib.hid (And.intro hown (And.intro hall hbw))
        have HT9 := Lib.hid (HT.out.next hbw)
        have c1 : wo.cell? ⟨w.heap.size + 1, 1, none⟩ = some (.int .i64 x.at_) := HT9.out.kx.cell 1
        have hbsz := hbw.size
        by_cases hlt : s < 40
        · have d8 : decide ((s : Int) < 40) = true := decide_eq_true (by omega)
          have d8n : decide (s < 40) = true := decide_eq_true hlt
          by_cases he : (s : Int) = x.at_
          · have e1 : ((s : Int) != x.at_) = false := by simp [he]
            have e2 : ((s : Int) == x.at_) = true := beq_iff_eq.2 he
            clear hown hall hbw he
            go_wp2
            go_roundw
            case rel => exact ⟨s + 1, _, _, L, by omega, by omega, by go_num, rfl, HO.out.1, by omega, HO.out.2.1, HO.out.2.2⟩
            case measure => simp [intOf]; omega
          · have e2 : ((s : Int) == x.at_) = false := beq_eq_false_iff_ne.2 he
            have e1 : ((s : Int) != x.at_) = true := by simp [bne, e2]
            have hn9 : OwnI (wo.alloc (.cells #[.int .i64 s] 3)) w7.heap.size (.slice A9 L.length c9) L.length L := OwnI.below hown (below_alloc wo _)
            have hnew : Ints (wo.alloc (.cells #[.int .i64 s] 3)) (wo.alloc (.cells #[.int .i64 s] 3)).heap.size (some ⟨wo.heap.size, 0, none⟩) 1 [(s : Int)] := OwnI.ints (OwnI.one wo wo.heap.size (s : Int) (Nat.le_refl _))
            have HNE := Lib.hid he
            clear hown hall hbw he
            go_wp2_with (refine app_ints (.tmp 54) (.tmp 56) rfl rfl w7.heap.size (.slice A9 L.length c9) L.length L rfl hn9 _ (some ⟨wo.heap.size, 0, none⟩) 1 1 [(s : Int)] rfl hnew (by omega) (by simp; omega) ?_; intro v2 w2 h2 g2 a2)
            obtain ⟨A2, c2, rfl⟩ := h2.form2
            have HN : Hid (OwnI w2 w7.heap.size (.slice A2 (L ++ [(s : Int)]).length c2) (L ++ [(s : Int)]).length (L ++ [(s : Int)]) ∧ Below w7.heap.size w7 w2) := Lib.hid ⟨by rw [List.length_append]; exact h2, (HO.out.2.2.alloc HO.out.2.2.size _).grown g2 (by simp; omega) (fun k e => row_over hn9 k (mem_rowOf.2 e))⟩
            clear h2 g2 a2 hn9 hnew
            go_roundw
            case rel => exact ⟨s + 1, A2, c2, L ++ [(s : Int)], by omega, by omega, by go_num, by simp, HN.out.1, by simp; omega, fun y hy => by
              rcases List.mem_append.1 hy with h | h
              · exact HO.out.2.1 y h
              · simp at h; subst h; exact ⟨by omega, by omega, HNE.out⟩, HN.out.2⟩
            case measure => simp [intOf]; omega
        · have d8 : decide ((s : Int) < 40) = false := decide_eq_false (by omega)
          have d8n : decide (s < 40) = false := decide_eq_false hlt
          have HAT : Hid (∀ y ∈ L, 0 ≤ y ∧ y ≤ 9223372036854775807 ∧ atO q.v y = atO p.v y) := Lib.hid fun y hy => by
            have h1 := HO.out.2.1 y hy
            exact ⟨h1.1, by omega, HTR.out.2.2.2 y h1.2.2⟩
          have HIN : Hid (Ints wo wo.heap.size A9 L.length L) := Lib.hid (OwnI.ints hown)
          have hnn : L.length ≤ 9223372036854775807 := by omega
          clear hown hall hbw c1 hlt
          go_upto_region 18 with (fail)
          clear d8 d8n
          obtain ⟨nL, hnL⟩ : ∃ nL, nL = L.length := ⟨_, rfl⟩
          have HNL := Lib.hid hnL
          rw [← hnL] at HIN hnn ⊢
          clear hnL
          go_loopw [60] (fun i wr => ∃ k : Nat, k ≤ nL ∧ i = .int .i64 k ∧ Below wo.heap.size wo wr) (fun i _ => nL - (intOf i).toNat)
          case atStart => exact ⟨0, by omega, rfl, Below.refl _ _⟩
          case round =>
            obtain ⟨k, hk, rfl, hbk⟩ := hrel
            obtain ⟨wv, hwv⟩ : ∃ wv, wv = wr := ⟨_, rfl⟩
            subst hwv
            have HBK := Lib.hid hbk
            have HTV := Lib.hid (HT9.out.next hbk)
            have hin := Ints.since HIN.out hbk
            have K5 := HTV.out.kp
            have K6 := HTV.out.kq
            clear hbk
            by_cases hlt : k < nL
            · have hwk : IntKind.i64.wrap ((k : Int) + 1) = (k : Int) + 1 := by rw [IntKind.wrap_i64]; omega
              obtain ⟨ad, y, rfl, hy, hc⟩ := hin.at_ hlt
              have hye := HAT.out y (List.mem_of_getElem? hy)
              have HAP := Lib.hid (at1_any p y HTV.out.rp HS.out.1 HGG.out.1 hye.1)
              unfold OA.cs at HAP
              have HYE := Lib.hid hye
              clear hy hin hye
              go_wp2_with (have _h := K5; refine wpList_loadq rfl 36 (.tmp 5) rfl gp [.bool p.th, .slice p.D p.dt.length p.cd, .int .i64 p.sq, .slice p.C p.cl.length p.cc] _ rfl K5 Try.underlying36 rfl (by kernel_rfl) ?_; clear _h K5)
              refine HAP.out.mono ?_
              rintro e wP ⟨A1, c1, rfl, how1, hsm1, hbP⟩
              have HTP := Lib.hid (HTV.out.next hbP)
              have hAQ := at1_any q y HTP.out.rq HS.out.2 HGG.out.2 HYE.out.1
              rw [HYE.out.2.2] at hAQ
              have HAQ := Lib.hid hAQ
              unfold OA.cs at HAQ
              have K6 := HTP.out.kq
              have HO1 := Lib.hid (And.intro how1 (And.intro hsm1 hbP))
              obtain ⟨h9, hh9⟩ : ∃ h9, h9 = atO p.v y := ⟨_, rfl⟩
              rw [← hh9] at HAQ HO1 ⊢
              clear how1 hsm1 hbP hAQ hc HAP hh9
              go_wp2_with (have _h := K6; refine wpList_loadq rfl 36 (.tmp 6) rfl gq [.bool q.th, .slice q.D q.dt.length q.cd, .int .i64 q.sq, .slice q.C q.cl.length q.cc] _ rfl K6 Try.underlying36 rfl (by kernel_rfl) ?_; clear _h K6)
              refine HAQ.out.mono ?_
              rintro e wQ ⟨A2, c2, rfl, how2, hsm2, hbQ⟩
              have h1b : Bytes wQ wQ.heap.size A1 (h9.getD []).length (h9.getD []) := Own.bytes (Own.below HO1.out.1 hbQ) HO1.out.2.1
              have HSM := Lib.hid (same_any A1 A2 (h9.getD []).length (h9.getD []).length c1 c2 _ _ _ _ wQ h1b (Own.bytes how2 hsm2))
              have HBQ := Lib.hid ((HBK.out.trans (HO1.out.2.2.mono HBK.out.size)).trans (hbQ.mono (by have := HBK.out.size; have := HO1.out.2.2.size; omega)))
              generalize (h9.getD []) = dd at *
              generalize h9.isSome = bb at *
              have e9 : (bb != bb) = false := by simp
              clear how2 hsm2 hbQ h1b HAQ
              go_wp2_with fail
              refine HSM.out.mono ?_
              rintro e wR ⟨b, rfl, hbt, rfl⟩
              obtain rfl : b = true := hbt (by first | trivial | rfl)
              clear hbt HSM
              go_wp2_with fail
              go_roundw
              case rel => exact ⟨k + 1, by omega, by go_num, HBQ.out⟩
              case measure => simp [intOf]; omega
            · have HGD := Lib.hid (sgood_any q HTV.out.rq)
              unfold OA.cs at HGD
              clear hin
              go_wp2_with (have _h := K6; refine wpList_loadq rfl 36 (.tmp 6) rfl gq [.bool q.th, .slice q.D q.dt.length q.cd, .int .i64 q.sq, .slice q.C q.cl.length q.cc] _ rfl K6 Try.underlying36 rfl (by kernel_rfl) ?_; clear _h K6)
              refine HGD.out.mono ?_
              rintro e wE ⟨b, rfl, hg, hbE⟩
              obtain rfl : b = true := hg.2 HGG.out.2
              have HE := Lib.hid (HTV.out.bel.trans (hbE.mono HTV.out.bel.size))
              clear hg hbE HGD
              go_wp2
              go_ret
              exact ⟨rfl, HE.out⟩
    · have d5 : decide ((5 : Int) < x.kd) = false := decide_eq_false h5
      have hwas := HRR.out.was rfl (by omega) (by omega)
      have hgd := (HRR.out.good rfl (by omega) (by omega)).1
      have HGG : Hid (Good p.v ∧ Good q.v) := Lib.hid ⟨hwas.1, hgd⟩
      have HAT : Hid (∀ s ∈ x.cx.sn, 0 ≤ s ∧ s ≤ 9223372036854775807 ∧ atO q.v s = atO p.v s) := Lib.hid fun s hs => ⟨by have := (hwas.2.lim s hs).1; omega, (HT.out.rx.cx.i1 s hs).2, HRR.out.at_ rfl (by omega) (by omega) hs⟩
      have HIN : Hid (Ints w7 w7.heap.size x.cx.S x.cx.sn.length x.cx.sn) := Lib.hid HT.out.rx.cx.sn
      have hnn := HT.out.rx.cx.s1
      clear h1 h5 hwas hgd
      go_upto_region 18 with (fail)
      generalize x.cx.S = AL at *
      generalize x.cx.cs = cL at *
      generalize x.cx.sn = L at *
      clear c0 c5 d1 d5
      obtain ⟨nL, hnL⟩ : ∃ nL, nL = L.length := ⟨_, rfl⟩
      have HNL := Lib.hid hnL
      rw [← hnL] at HIN hnn ⊢
      clear hnL
      go_loopw [60] (fun i wr => ∃ k : Nat, k ≤ nL ∧ i = .int .i64 k ∧ Below w7.heap.size w7 wr) (fun i _ => nL - (intOf i).toNat)
      case atStart => exact ⟨0, by omega, rfl, Below.refl _ _⟩
      case round =>
        obtain ⟨k, hk, rfl, hbk⟩ := hrel
        obtain ⟨wv, hwv⟩ : ∃ wv, wv = wr := ⟨_, rfl⟩
        subst hwv
        have HBK := Lib.hid hbk
        have HTV := Lib.hid (HT.out.next hbk)
        have hin := Ints.since HIN.out hbk
        have K5 := HTV.out.kp
        have K6 := HTV.out.kq
        clear hbk
        by_cases hlt : k < nL
        · have hwk : IntKind.i64.wrap ((k : Int) + 1) = (k : Int) + 1 := by rw [IntKind.wrap_i64]; omega
          obtain ⟨ad, y, rfl, hy, hc⟩ := hin.at_ hlt
          have hye := HAT.out y (List.mem_of_getElem? hy)
          have HAP := Lib.hid (at1_any p y HTV.out.rp HS.out.1 HGG.out.1 hye.1)
          unfold OA.cs at HAP
          have HYE := Lib.hid hye
          clear hy hin hye
          go_wp2_with (have _h := K5; refine wpList_loadq rfl 36 (.tmp 5) rfl gp [.bool p.th, .slice p.D p.dt.length p.cd, .int .i64 p.sq, .slice p.C p.cl.length p.cc] _ rfl K5 Try.underlying36 rfl (by kernel_rfl) ?_; clear _h K5)
          refine HAP.out.mono ?_
          rintro e wP ⟨A1, c1, rfl, how1, hsm1, hbP⟩
          have HTP := Lib.hid (HTV.out.next hbP)
          have hAQ := at1_any q y HTP.out.rq HS.out.2 HGG.out.2 HYE.out.1
          rw [HYE.out.2.2] at hAQ
          have HAQ := Lib.hid hAQ
          unfold OA.cs at HAQ
          have K6 := HTP.out.kq
          have HO1 := Lib.hid (And.intro how1 (And.intro hsm1 hbP))
          obtain ⟨h9, hh9⟩ : ∃ h9, h9 = atO p.v y := ⟨_, rfl⟩
          rw [← hh9] at HAQ HO1 ⊢
          clear how1 hsm1 hbP hAQ hc HAP hh9
          go_wp2_with (have _h := K6; refine wpList_loadq rfl 36 (.tmp 6) rfl gq [.bool q.th, .slice q.D q.dt.length q.cd, .int .i64 q.sq, .slice q.C q.cl.length q.cc] _ rfl K6 Try.underlying36 rfl (by kernel_rfl) ?_; clear _h K6)
          refine HAQ.out.mono ?_
          rintro e wQ ⟨A2, c2, rfl, how2, hsm2, hbQ⟩
          have h1b : Bytes wQ wQ.heap.size A1 (h9.getD []).length (h9.getD []) := Own.bytes (Own.below HO1.out.1 hbQ) HO1.out.2.1
          have HSM := Lib.hid (same_any A1 A2 (h9.getD []).length (h9.getD []).length c1 c2 _ _ _ _ wQ h1b (Own.bytes how2 hsm2))
          have HBQ := Lib.hid ((HBK.out.trans (HO1.out.2.2.mono HBK.out.size)).trans (hbQ.mono (by have := HBK.out.size; have := HO1.out.2.2.size; omega)))
          generalize (h9.getD []) = dd at *
          generalize h9.isSome = bb at *
          have e9 : (bb != bb) = false := by simp
          clear how2 hsm2 hbQ h1b HAQ
          go_wp2_with fail
          refine HSM.out.mono ?_
          rintro e wR ⟨b, rfl, hbt, rfl⟩
          obtain rfl : b = true := hbt (by first | trivial | rfl)
          clear hbt HSM
          go_wp2_with fail
          go_roundw
          case rel => exact ⟨k + 1, by omega, by go_num, HBQ.out⟩
          case measure => simp [intOf]; omega
        · have HGD := Lib.hid (sgood_any q HTV.out.rq)
          unfold OA.cs at HGD
          clear hin
          go_wp2_with (have _h := K6; refine wpList_loadq rfl 36 (.tmp 6) rfl gq [.bool q.th, .slice q.D q.dt.length q.cd, .int .i64 q.sq, .slice q.C q.cl.length q.cc] _ rfl K6 Try.underlying36 rfl (by kernel_rfl) ?_; clear _h K6)
          refine HGD.out.mono ?_
          rintro e wE ⟨b, rfl, hg, hbE⟩
          obtain rfl : b = true := hg.2 HGG.out.2
          have HE := Lib.hid (HTV.out.bel.trans (hbE.mono HTV.out.bel.size))
          clear hg hbE HGD
          go_wp2
          go_ret
          exact ⟨rfl, HE.out⟩
end Go.Proofs.Ytcbpdalfindmgaa
