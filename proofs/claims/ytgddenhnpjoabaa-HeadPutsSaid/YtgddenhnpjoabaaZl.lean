/-
  The document's text of a head. Conditions: the head reads as it is said to, its marks are good ones, its text is no more than a million bytes.
-/
import Derived.Test.YtgddenhnpjoabaaZk

namespace Go.Proofs.Ytgddenhnpjoabaa
open Go.RowKit Go.BigFrame
set_option linter.unusedSimpArgs false
set_option linter.unusedVariables false
set_option maxRecDepth 100000
/-- a text so far, what is still to be put, and blocks that stay -/
structure Pt (w : World) (T : List Nat) (bl : List (Nat × TypeId × Array Value)) (W : World) (v : Value) (rest : List Nat) : Prop where
  pu : ∃ acc, OwnB w W v acc ∧ acc ++ rest = T
  bl : ∀ x ∈ bl, Blk W x.1 x.2.1 x.2.2 ∧ x.2.1 ≠ 5
section
variable {w W W' : World} {T rest piece : List Nat} {bl bl' : List (Nat × TypeId × Array Value)} {v : Value}
theorem Pt.form (h : Pt w T bl W v rest) : ∃ A n c, v = .slice A n c := by
  obtain ⟨acc, h1, -⟩ := h.pu
  obtain ⟨A, c, e, -⟩ := h1.1.form
  exact ⟨A, _, c, e⟩
theorem Pt.below (h : Pt w T bl W v rest) (hb : Below W.heap.size W W') : Pt w T bl W' v rest := by
  obtain ⟨acc, h1, h2⟩ := h.pu
  exact ⟨⟨acc, ⟨Own.below h1.1 hb, h1.2.trans (hb.mono h1.2.size)⟩, h2⟩, fun x hx => ⟨(h.bl x hx).1.of (hb.block _ (h.bl x hx).1.lt), (h.bl x hx).2⟩⟩
theorem Pt.more (h : Pt w T bl W v rest) (hb : ∀ x ∈ bl', Blk W x.1 x.2.1 x.2.2 ∧ x.2.1 ≠ 5) : Pt w T bl' W v rest := ⟨h.pu, hb⟩
theorem Pt.sz (h : Pt w T bl W v rest) : Below w.heap.size w W := by
  obtain ⟨acc, h1, -⟩ := h.pu
  exact h1.2
theorem wpList_put {ops : Array Oper} {rs : List Oper} {o : Oper} {a : Act} {Q : Exit → Act → World → Prop} (s x : Operand) (hgd : o.guard = none) (ho : o.op = .call { callee := .builtin .append, args := #[s, x], argTypes := #[23, 23] })
    (hs : a.eval s = v) (H : Pt w T bl W v (piece ++ rest)) (hT : T.length ≤ 1000000) (B : Nat) (A : Option Addr) (m c : Nat) (hx : a.eval x = .slice A m c) (hr : Bytes W B A m piece)
    (h : ∀ v' W', Pt w T bl W' v' rest → wpList Try.prog ops Q rs (a.put o.dst v') W') : wpList Try.prog ops Q (o :: rs) a W := by
  obtain ⟨acc, h1, h2⟩ := H.pu
  have hm := hr.len
  have hl : acc.length + m ≤ 1000000 := by
    have := congrArg List.length h2
    simp only [List.length_append] at this
    omega
  refine app_bytes s x hgd ho w.heap.size v acc.length acc hs h1.1 B A m c piece hx hr (by omega) h1.2.size ?_
  intro v' W' h5 g5 a5
  refine h v' W' ⟨⟨acc ++ piece, ⟨by rw [List.length_append, hm]; exact h5, below_own h1.2 h1.1 (Nat.le_refl _) g5 h1.2.size⟩, by rw [List.append_assoc]; exact h2⟩, fun y hy => ⟨(H.bl y hy).1.grown g5 (fun e => own_blk_ne h1.1 (H.bl y hy).1 (Ne.symm (H.bl y hy).2) e.symm), (H.bl y hy).2⟩⟩
end
theorem putMk_lt {m : MkV} (h : Good m.row) : ∀ b ∈ putMk m, b < 256 := fun b hb => putVw_lt (l := ⟨[], 0, 0⟩) h (by simp) b (List.mem_append.2 (.inl hb))
theorem putLk_lt {l : LkV} (h : ∀ b ∈ l.par, b < 256) : ∀ b ∈ putLk l, b < 256 := fun b hb => putVw_lt (m := ⟨false, false, []⟩) (by decide) h b (List.mem_append.2 (.inr hb))
theorem putSn_app (s : SnV) (R : List Nat) : putSn s ++ R = numB s.num ++ (txt s.name ++ (numB s.size ++ (putMk s.mx ++ (putLk s.lk ++ (flagB s.prot ++ (numB s.ch.length ++ (s.ch.flatMap txt ++ R))))))) := by
  simp only [putSn, putVw, List.append_assoc]
theorem put_eq (h : HdV) : h.put = numB h.id ++ (numB h.size ++ (numB h.obj ++ (numB h.seq ++ (numB h.sn.length ++ (h.sn.flatMap putSn ++ (putMk h.mx ++ (putLk h.lk ++ (numB h.ow ++ (numB h.it ++ numB h.tg))))))))) := by
  simp only [HdV.put, putVw, List.append_assoc]
set_option maxHeartbeats 32000000 in
theorem dputhead_any (a : HA) (w : World) (hR : a.R SA.dcells w) (hg : Good a.vw.row) (hgs : ∀ s ∈ a.sn, Good s.vw.row) (hT : a.v.put.length ≤ 1000000) (hsm : a.Sm) : Calls Try.prog 19 #[.agg a.cs] w fun e w' => ∃ v, e = .returned v ∧ OwnB w w' v a.v.put := by
  obtain ⟨W1, hW1⟩ : ∃ W, W = w.alloc (.cells #[.int .i64 a.id, .int .i64 a.vw.size, .int .i64 a.obj, .int .i64 a.seq, .slice a.S a.sn.length a.cs', .bool a.vw.on, .bool a.vw.good, .slice a.vw.M a.vw.row.length a.vw.cm, .string (strOf a.vw.par), .int .i64 a.vw.ps, .int .i64 a.vw.ov, .int .i64 a.ow, .int .i64 a.it, .int .i64 a.tg] 29) := ⟨_, rfl⟩
  have b1 : Below w.heap.size w W1 := by rw [hW1]; exact below_alloc w _
  have k1 : Blk W1 w.heap.size 29 #[.int .i64 a.id, .int .i64 a.vw.size, .int .i64 a.obj, .int .i64 a.seq, .slice a.S a.sn.length a.cs', .bool a.vw.on, .bool a.vw.good, .slice a.vw.M a.vw.row.length a.vw.cm, .string (strOf a.vw.par), .int .i64 a.vw.ps, .int .i64 a.vw.ov, .int .i64 a.ow, .int .i64 a.it, .int .i64 a.tg] := by rw [hW1]; exact Blk.new w _ _
  have HW1 := Lib.hid hW1
  have HR := Lib.hid hR
  have HG := Lib.hid (And.intro hg hgs)
  have HSM := Lib.hid hsm
  have hcn := hsm.cn
  obtain ⟨T, hTe⟩ : ∃ T, T = a.v.put := ⟨_, rfl⟩
  rw [← hTe] at hT ⊢
  have hpe : T = numB a.id ++ (numB a.vw.size ++ (numB a.obj ++ (numB a.seq ++ (numB (a.sn.length : Nat) ++ ((a.sn.map SA.v).flatMap putSn ++ (putMk a.vw.mk' ++ (putLk a.vw.lk ++ (numB a.ow ++ (numB a.it ++ numB a.tg))))))))) := by
    rw [hTe, put_eq]
    simp [HA.v]
  have HTE := Lib.hid hpe
  obtain ⟨tl, htl⟩ : ∃ tl, tl = putMk a.vw.mk' ++ (putLk a.vw.lk ++ (numB a.ow ++ (numB a.it ++ numB a.tg))) := ⟨_, rfl⟩
  rw [← htl] at HTE
  have HTL := Lib.hid htl
  have HB1 := Lib.hid b1
  have HK1 := Lib.hid k1
  have q0 : W1.cell? ⟨w.heap.size, 0, none⟩ = some (.int .i64 a.id) := k1.cell 0
  clear hW1 b1 k1 hR hg hgs hTe hpe htl hsm
  unfold HA.cs
  go_enter Try.func19, Try.ntmps19
  go_upto_region 1 with (fail)
  rw [← HW1.out]
  clear HW1
  go_wp2_with fail
  refine (dnum_any a.id W1).mono ?_
  rintro e X0 ⟨v0, rfl, h0, b0⟩
  have P0 : Hid (Pt w T [(w.heap.size, 29, (#[.int .i64 a.id, .int .i64 a.vw.size, .int .i64 a.obj, .int .i64 a.seq, .slice a.S a.sn.length a.cs', .bool a.vw.on, .bool a.vw.good, .slice a.vw.M a.vw.row.length a.vw.cm, .string (strOf a.vw.par), .int .i64 a.vw.ps, .int .i64 a.vw.ov, .int .i64 a.ow, .int .i64 a.it, .int .i64 a.tg] : Array Value))] X0 v0 (numB a.vw.size ++ (numB a.obj ++ (numB a.seq ++ (numB (a.sn.length : Nat) ++ ((a.sn.map SA.v).flatMap putSn ++ tl)))))) := Lib.hid ⟨⟨numB a.id, ⟨by rw [numB_len]; exact Own.weaken h0 HB1.out.size, HB1.out.trans (b0.mono HB1.out.size)⟩, HTE.out.symm⟩, fun x hx => by simp at hx; subst hx; exact ⟨HK1.out.of (b0.block _ HK1.out.lt), by simp⟩⟩
  clear h0 b0 q0
  have q1 : X0.cell? ⟨w.heap.size, 1, none⟩ = some (.int .i64 a.vw.size) := (P0.out.bl (w.heap.size, 29, (#[.int .i64 a.id, .int .i64 a.vw.size, .int .i64 a.obj, .int .i64 a.seq, .slice a.S a.sn.length a.cs', .bool a.vw.on, .bool a.vw.good, .slice a.vw.M a.vw.row.length a.vw.cm, .string (strOf a.vw.par), .int .i64 a.vw.ps, .int .i64 a.vw.ov, .int .i64 a.ow, .int .i64 a.it, .int .i64 a.tg] : Array Value)) (by simp)).1.cell 1
  go_wp2_with fail
  refine (dnum_any (a.vw.size) X0).mono ?_
  rintro e Y1 ⟨u1, rfl, h1, b1⟩
  obtain ⟨D1, d1, rfl, -, -, -⟩ := h1.form
  have Q1 := Lib.hid (P0.out.below b1)
  have r1 := h1.bytes (numB_lt _)
  clear q1 h1 b1
  go_wp2_with (refine wpList_put (.tmp 10) (.tmp 13) rfl rfl rfl Q1.out hT _ D1 8 d1 rfl r1 ?_; clear r1; intro v1 X1 p1; have q2 : X1.cell? ⟨w.heap.size, 2, none⟩ = some (.int .i64 a.obj) := (p1.bl (w.heap.size, 29, (#[.int .i64 a.id, .int .i64 a.vw.size, .int .i64 a.obj, .int .i64 a.seq, .slice a.S a.sn.length a.cs', .bool a.vw.on, .bool a.vw.good, .slice a.vw.M a.vw.row.length a.vw.cm, .string (strOf a.vw.par), .int .i64 a.vw.ps, .int .i64 a.vw.ov, .int .i64 a.ow, .int .i64 a.it, .int .i64 a.tg] : Array Value)) (by simp)).1.cell 2; have P1 := Lib.hid p1; clear p1)
  go_wp2_with fail
  refine (dnum_any (a.obj) X1).mono ?_
  rintro e Y2 ⟨u2, rfl, h2, b2⟩
  obtain ⟨D2, d2, rfl, -, -, -⟩ := h2.form
  have Q2 := Lib.hid (P1.out.below b2)
  have r2 := h2.bytes (numB_lt _)
  clear q2 h2 b2
  go_wp2_with (refine wpList_put (.tmp 15) (.tmp 18) rfl rfl rfl Q2.out hT _ D2 8 d2 rfl r2 ?_; clear r2; intro v2 X2 p2; have q3 : X2.cell? ⟨w.heap.size, 3, none⟩ = some (.int .i64 a.seq) := (p2.bl (w.heap.size, 29, (#[.int .i64 a.id, .int .i64 a.vw.size, .int .i64 a.obj, .int .i64 a.seq, .slice a.S a.sn.length a.cs', .bool a.vw.on, .bool a.vw.good, .slice a.vw.M a.vw.row.length a.vw.cm, .string (strOf a.vw.par), .int .i64 a.vw.ps, .int .i64 a.vw.ov, .int .i64 a.ow, .int .i64 a.it, .int .i64 a.tg] : Array Value)) (by simp)).1.cell 3; have P2 := Lib.hid p2; clear p2)
  go_wp2_with fail
  refine (dnum_any (a.seq) X2).mono ?_
  rintro e Y3 ⟨u3, rfl, h3, b3⟩
  obtain ⟨D3, d3, rfl, -, -, -⟩ := h3.form
  have Q3 := Lib.hid (P2.out.below b3)
  have r3 := h3.bytes (numB_lt _)
  clear q3 h3 b3
  go_wp2_with (refine wpList_put (.tmp 20) (.tmp 23) rfl rfl rfl Q3.out hT _ D3 8 d3 rfl r3 ?_; clear r3; intro v3 X3 p3; have q4 : X3.cell? ⟨w.heap.size, 4, none⟩ = some (.slice a.S a.sn.length a.cs') := (p3.bl (w.heap.size, 29, (#[.int .i64 a.id, .int .i64 a.vw.size, .int .i64 a.obj, .int .i64 a.seq, .slice a.S a.sn.length a.cs', .bool a.vw.on, .bool a.vw.good, .slice a.vw.M a.vw.row.length a.vw.cm, .string (strOf a.vw.par), .int .i64 a.vw.ps, .int .i64 a.vw.ov, .int .i64 a.ow, .int .i64 a.it, .int .i64 a.tg] : Array Value)) (by simp)).1.cell 4; have P3 := Lib.hid p3; clear p3)
  go_wp2_with fail
  refine (dnum_any ((a.sn.length : Nat)) X3).mono ?_
  rintro e Y4 ⟨u4, rfl, h4, b4⟩
  obtain ⟨D4, d4, rfl, -, -, -⟩ := h4.form
  have Q4 := Lib.hid (P3.out.below b4)
  have r4 := h4.bytes (numB_lt _)
  clear q4 h4 b4
  go_wp2_with (refine wpList_put (.tmp 25) (.tmp 29) rfl rfl rfl Q4.out hT _ D4 8 d4 rfl r4 ?_; clear r4; intro v4 X4 p4; skip; have P4 := Lib.hid p4; clear p4)
  go_loopw [3, 4] (fun lv i wr => ∃ k : Nat, k ≤ a.sn.length ∧ i = .int .i64 k ∧ Pt w T [(w.heap.size, 29, (#[.int .i64 a.id, .int .i64 a.vw.size, .int .i64 a.obj, .int .i64 a.seq, .slice a.S a.sn.length a.cs', .bool a.vw.on, .bool a.vw.good, .slice a.vw.M a.vw.row.length a.vw.cm, .string (strOf a.vw.par), .int .i64 a.vw.ps, .int .i64 a.vw.ov, .int .i64 a.ow, .int .i64 a.it, .int .i64 a.tg] : Array Value))] wr lv (((a.sn.drop k).map SA.v).flatMap putSn ++ tl)) (fun _ i _ => a.sn.length - (intOf i).toNat)
  case atStart => exact ⟨0, by omega, rfl, by simpa using P4.out⟩
  case round =>
    obtain ⟨k, hk, rfl, hp⟩ := hrel
    obtain ⟨wo, hwo⟩ : ∃ wo, wo = wr := ⟨_, rfl⟩
    subst hwo
    obtain ⟨A10, n10, c10, rfl⟩ := hp.form
    have PL := Lib.hid hp
    have q4 : wo.cell? ⟨w.heap.size, 4, none⟩ = some (.slice a.S a.sn.length a.cs') := (hp.bl (w.heap.size, 29, (#[.int .i64 a.id, .int .i64 a.vw.size, .int .i64 a.obj, .int .i64 a.seq, .slice a.S a.sn.length a.cs', .bool a.vw.on, .bool a.vw.good, .slice a.vw.M a.vw.row.length a.vw.cm, .string (strOf a.vw.par), .int .i64 a.vw.ps, .int .i64 a.vw.ov, .int .i64 a.ow, .int .i64 a.it, .int .i64 a.tg] : Array Value)) (by simp)).1.cell 4
    by_cases hlt : k < a.sn.length
    · have dl : decide ((k : Int) < (a.sn.length : Int)) = true := decide_eq_true (by omega)
      have hwk : IntKind.i64.wrap ((k : Int) + 1) = (k : Int) + 1 := by rw [IntKind.wrap_i64]; omega
      obtain ⟨s, hs⟩ : ∃ s, a.sn[k]? = some s := ⟨_, List.getElem?_eq_getElem hlt⟩
      have hR1 := HR.out.since hp.sz
      obtain ⟨ad, had, -, hc⟩ := snap_at SA.dcells_len hR1.row hs
      have hd : a.sn.drop k = s :: a.sn.drop (k + 1) := by
        rw [List.drop_eq_getElem_cons hlt]
        congr 1
        rw [List.getElem?_eq_getElem hlt] at hs
        injection hs
      obtain ⟨R, hRe⟩ : ∃ R, R = ((a.sn.drop (k + 1)).map SA.v).flatMap putSn ++ tl := ⟨_, rfl⟩
      have hp2 : Pt w T [(w.heap.size, 29, (#[.int .i64 a.id, .int .i64 a.vw.size, .int .i64 a.obj, .int .i64 a.seq, .slice a.S a.sn.length a.cs', .bool a.vw.on, .bool a.vw.good, .slice a.vw.M a.vw.row.length a.vw.cm, .string (strOf a.vw.par), .int .i64 a.vw.ps, .int .i64 a.vw.ov, .int .i64 a.ow, .int .i64 a.it, .int .i64 a.tg] : Array Value))] wo (.slice A10 n10 c10) (numB s.num ++ (txt s.name ++ (numB s.vw.size ++ (putMk s.vw.mk' ++ (putLk s.vw.lk ++ (flagB s.prot ++ (numB (s.ch.length : Nat) ++ (s.ch.flatMap txt ++ R)))))))) := by
        have h9 := hp
        rw [hd, List.map_cons, List.flatMap_cons, List.append_assoc, ← hRe, putSn_app] at h9
        exact h9
      obtain ⟨W5, hW5⟩ : ∃ W, W = wo.alloc (.cells s.dcells.toArray 74) := ⟨_, rfl⟩
      obtain ⟨g3, hg3⟩ : ∃ g3, g3 = wo.heap.size := ⟨_, rfl⟩
      have hb5 : Below wo.heap.size wo W5 := by rw [hW5]; exact below_alloc wo _
      have hk5 : Blk W5 g3 74 #[.int .i64 s.num, .int .i64 s.vw.size, .string (strOf s.name), .bool s.prot, .bool s.vw.on, .bool s.vw.good, .slice s.vw.M s.vw.row.length s.vw.cm, .string (strOf s.vw.par), .int .i64 s.vw.ps, .int .i64 s.vw.ov, .slice s.C s.ch.length s.cc] := by rw [hW5, hg3]; exact Blk.new wo _ _
      have HP5 : Hid (Pt w T [(w.heap.size, 29, (#[.int .i64 a.id, .int .i64 a.vw.size, .int .i64 a.obj, .int .i64 a.seq, .slice a.S a.sn.length a.cs', .bool a.vw.on, .bool a.vw.good, .slice a.vw.M a.vw.row.length a.vw.cm, .string (strOf a.vw.par), .int .i64 a.vw.ps, .int .i64 a.vw.ov, .int .i64 a.ow, .int .i64 a.it, .int .i64 a.tg] : Array Value)), (g3, 74, (#[.int .i64 s.num, .int .i64 s.vw.size, .string (strOf s.name), .bool s.prot, .bool s.vw.on, .bool s.vw.good, .slice s.vw.M s.vw.row.length s.vw.cm, .string (strOf s.vw.par), .int .i64 s.vw.ps, .int .i64 s.vw.ov, .slice s.C s.ch.length s.cc] : Array Value))] W5 (.slice A10 n10 c10) (numB s.num ++ (txt s.name ++ (numB s.vw.size ++ (putMk s.vw.mk' ++ (putLk s.vw.lk ++ (flagB s.prot ++ (numB (s.ch.length : Nat) ++ (s.ch.flatMap txt ++ R))))))))) := Lib.hid ((hp2.below hb5).more (fun x hx => by
        simp only [List.mem_cons, List.not_mem_nil, or_false] at hx
        rcases hx with rfl | rfl
        · exact (hp2.below hb5).bl _ (by simp)
        · exact ⟨hk5, by simp⟩))
      have HW5 : Hid (W5 = wo.alloc (.cells #[.int .i64 s.num, .int .i64 s.vw.size, .string (strOf s.name), .bool s.prot, .bool s.vw.on, .bool s.vw.good, .slice s.vw.M s.vw.row.length s.vw.cm, .string (strOf s.vw.par), .int .i64 s.vw.ps, .int .i64 s.vw.ov, .slice s.C s.ch.length s.cc] 74) ∧ g3 = wo.heap.size) := Lib.hid ⟨by rw [hW5]; rfl, hg3⟩
      have HSR := Lib.hid (HR.out.sn s (List.mem_of_getElem? hs))
      have HSS := Lib.hid (HSM.out.sn s (List.mem_of_getElem? hs))
      have HSG := Lib.hid (HG.out.2 s (List.mem_of_getElem? hs))
      have HRE := Lib.hid hRe
      have HAD := Lib.hid had
      rw [had] at q4
      clear hs hR1 hd hRe hp hp2 hW5 hg3 hb5 hk5 had
      go_upto_region 10 with (have _h := hc; refine wpList_loadp rfl 74 (.tmp 41) rfl _ [.int .i64 s.num, .int .i64 s.vw.size, .string (strOf s.name), .bool s.prot, .bool s.vw.on, .bool s.vw.good, .slice s.vw.M s.vw.row.length s.vw.cm, .string (strOf s.vw.par), .int .i64 s.vw.ps, .int .i64 s.vw.ov, .slice s.C s.ch.length s.cc] _ rfl hc Try.underlying74 rfl (by kernel_rfl) ?_; clear _h hc)
      rw [← HW5.out.1, ← HW5.out.2]
      clear HW5 q4
      have q5 : W5.cell? ⟨g3, 0, none⟩ = some (.int .i64 s.num) := (HP5.out.bl (g3, 74, (#[.int .i64 s.num, .int .i64 s.vw.size, .string (strOf s.name), .bool s.prot, .bool s.vw.on, .bool s.vw.good, .slice s.vw.M s.vw.row.length s.vw.cm, .string (strOf s.vw.par), .int .i64 s.vw.ps, .int .i64 s.vw.ov, .slice s.C s.ch.length s.cc] : Array Value)) (by simp)).1.cell 0
      go_wp2_with fail
      refine (dnum_any (s.num) W5).mono ?_
      rintro e Y5 ⟨u5, rfl, h5, b5⟩
      obtain ⟨D5, d5, rfl, -, -, -⟩ := h5.form
      have Q5 := Lib.hid (HP5.out.below b5)
      have r5 := h5.bytes (numB_lt _)
      clear q5 h5 b5
      go_wp2_with (refine wpList_put (.tmp 43) (.tmp 46) rfl rfl rfl Q5.out hT _ D5 8 d5 rfl r5 ?_; clear r5; intro v5 X5 p5; have q6 : X5.cell? ⟨g3, 2, none⟩ = some (.string (strOf s.name)) := (p5.bl (g3, 74, (#[.int .i64 s.num, .int .i64 s.vw.size, .string (strOf s.name), .bool s.prot, .bool s.vw.on, .bool s.vw.good, .slice s.vw.M s.vw.row.length s.vw.cm, .string (strOf s.vw.par), .int .i64 s.vw.ps, .int .i64 s.vw.ov, .slice s.C s.ch.length s.cc] : Array Value)) (by simp)).1.cell 2; obtain ⟨k6, Z6, f6, t6, y6⟩ := conv_str X5 s.name (HSR.out.name); have T6 := Lib.hid (And.intro t6 y6); clear t6 y6; have P5 := Lib.hid p5; clear p5)
      go_wp2_with fail
      refine (dbytes_any (some ⟨X5.heap.size, 0, none⟩) s.name.length k6 _ s.name Z6 T6.out.2 (by have := HSS.out.name; omega)).mono ?_
      rintro e Y6 ⟨u6, rfl, h6, b6⟩
      obtain ⟨D6, d6, rfl, -, -, -⟩ := h6.form
      have Q6 := Lib.hid ((P5.out.below T6.out.1).below b6)
      have r6 := h6.bytes (txt_lt (HSR.out.name))
      clear q6 h6 b6 f6
      go_wp2_with (refine wpList_put (.tmp 48) (.tmp 52) rfl rfl rfl Q6.out hT _ D6 (8 + s.name.length) d6 rfl r6 ?_; clear r6; intro v6 X6 p6; have q7 : X6.cell? ⟨g3, 1, none⟩ = some (.int .i64 s.vw.size) := (p6.bl (g3, 74, (#[.int .i64 s.num, .int .i64 s.vw.size, .string (strOf s.name), .bool s.prot, .bool s.vw.on, .bool s.vw.good, .slice s.vw.M s.vw.row.length s.vw.cm, .string (strOf s.vw.par), .int .i64 s.vw.ps, .int .i64 s.vw.ov, .slice s.C s.ch.length s.cc] : Array Value)) (by simp)).1.cell 1; have P6 := Lib.hid p6; clear p6)
      go_wp2_with fail
      refine (dnum_any (s.vw.size) X6).mono ?_
      rintro e Y7 ⟨u7, rfl, h7, b7⟩
      obtain ⟨D7, d7, rfl, -, -, -⟩ := h7.form
      have Q7 := Lib.hid (P6.out.below b7)
      have r7 := h7.bytes (numB_lt _)
      clear q7 h7 b7
      go_wp2_with (refine wpList_put (.tmp 54) (.tmp 57) rfl rfl rfl Q7.out hT _ D7 8 d7 rfl r7 ?_; clear r7; intro v7 X7 p7; have x8_0 : X7.cell? ⟨g3, 4, none⟩ = some (.bool s.vw.on) := (p7.bl (g3, 74, (#[.int .i64 s.num, .int .i64 s.vw.size, .string (strOf s.name), .bool s.prot, .bool s.vw.on, .bool s.vw.good, .slice s.vw.M s.vw.row.length s.vw.cm, .string (strOf s.vw.par), .int .i64 s.vw.ps, .int .i64 s.vw.ov, .slice s.C s.ch.length s.cc] : Array Value)) (by simp)).1.cell 4; have x8_1 : X7.cell? ⟨g3, 5, none⟩ = some (.bool s.vw.good) := (p7.bl (g3, 74, (#[.int .i64 s.num, .int .i64 s.vw.size, .string (strOf s.name), .bool s.prot, .bool s.vw.on, .bool s.vw.good, .slice s.vw.M s.vw.row.length s.vw.cm, .string (strOf s.vw.par), .int .i64 s.vw.ps, .int .i64 s.vw.ov, .slice s.C s.ch.length s.cc] : Array Value)) (by simp)).1.cell 5; have x8_2 : X7.cell? ⟨g3, 6, none⟩ = some (.slice s.vw.M s.vw.row.length s.vw.cm) := (p7.bl (g3, 74, (#[.int .i64 s.num, .int .i64 s.vw.size, .string (strOf s.name), .bool s.prot, .bool s.vw.on, .bool s.vw.good, .slice s.vw.M s.vw.row.length s.vw.cm, .string (strOf s.vw.par), .int .i64 s.vw.ps, .int .i64 s.vw.ov, .slice s.C s.ch.length s.cc] : Array Value)) (by simp)).1.cell 6; have P7 := Lib.hid p7; clear p7)
      go_wp2_with fail
      refine (dputmarks_any s.vw.mk' s.vw.M s.vw.cm X7 ((HSR.out.since P7.out.sz).vw.row) HSG.out).mono ?_
      rintro e Y8 ⟨u8, rfl, h8, b8⟩
      obtain ⟨D8, d8, rfl, -, -, -⟩ := h8.form
      have Q8 := Lib.hid (P7.out.below b8)
      have r8 := h8.bytes (putMk_lt HSG.out)
      clear h8 b8
      go_wp2_with (refine wpList_put (.tmp 59) (.tmp 62) rfl rfl rfl Q8.out hT _ D8 (putMk s.vw.mk').length d8 rfl r8 ?_; clear r8; intro v8 X8 p8; have x9_0 : X8.cell? ⟨g3, 7, none⟩ = some (.string (strOf s.vw.par)) := (p8.bl (g3, 74, (#[.int .i64 s.num, .int .i64 s.vw.size, .string (strOf s.name), .bool s.prot, .bool s.vw.on, .bool s.vw.good, .slice s.vw.M s.vw.row.length s.vw.cm, .string (strOf s.vw.par), .int .i64 s.vw.ps, .int .i64 s.vw.ov, .slice s.C s.ch.length s.cc] : Array Value)) (by simp)).1.cell 7; have x9_1 : X8.cell? ⟨g3, 8, none⟩ = some (.int .i64 s.vw.ps) := (p8.bl (g3, 74, (#[.int .i64 s.num, .int .i64 s.vw.size, .string (strOf s.name), .bool s.prot, .bool s.vw.on, .bool s.vw.good, .slice s.vw.M s.vw.row.length s.vw.cm, .string (strOf s.vw.par), .int .i64 s.vw.ps, .int .i64 s.vw.ov, .slice s.C s.ch.length s.cc] : Array Value)) (by simp)).1.cell 8; have x9_2 : X8.cell? ⟨g3, 9, none⟩ = some (.int .i64 s.vw.ov) := (p8.bl (g3, 74, (#[.int .i64 s.num, .int .i64 s.vw.size, .string (strOf s.name), .bool s.prot, .bool s.vw.on, .bool s.vw.good, .slice s.vw.M s.vw.row.length s.vw.cm, .string (strOf s.vw.par), .int .i64 s.vw.ps, .int .i64 s.vw.ov, .slice s.C s.ch.length s.cc] : Array Value)) (by simp)).1.cell 9; have P8 := Lib.hid p8; clear p8)
      go_wp2_with fail
      refine (dputlink_any s.vw.lk X8 HSR.out.vw.par HSS.out.vw.par).mono ?_
      rintro e Y9 ⟨u9, rfl, h9, b9⟩
      obtain ⟨D9, d9, rfl, -, -, -⟩ := h9.form
      have Q9 := Lib.hid (P8.out.below b9)
      have r9 := h9.bytes (putLk_lt HSR.out.vw.par)
      clear h9 b9
      go_wp2_with (refine wpList_put (.tmp 64) (.tmp 67) rfl rfl rfl Q9.out hT _ D9 (putLk s.vw.lk).length d9 rfl r9 ?_; clear r9; intro v9 X9 p9; have q10 : X9.cell? ⟨g3, 3, none⟩ = some (.bool s.prot) := (p9.bl (g3, 74, (#[.int .i64 s.num, .int .i64 s.vw.size, .string (strOf s.name), .bool s.prot, .bool s.vw.on, .bool s.vw.good, .slice s.vw.M s.vw.row.length s.vw.cm, .string (strOf s.vw.par), .int .i64 s.vw.ps, .int .i64 s.vw.ov, .slice s.C s.ch.length s.cc] : Array Value)) (by simp)).1.cell 3; have P9 := Lib.hid p9; clear p9)
      go_wp2_with fail
      refine (dflagN_any s.prot X9).mono ?_
      rintro e Y10 ⟨rfl, rfl⟩
      have r10 : Bytes (X9.alloc (.cells #[.int .u8 ((fN s.prot : Nat) : Int)] 5)) (X9.heap.size + 1) (some ⟨X9.heap.size, 0, none⟩) 1 (flagB s.prot) := Bytes.new X9 (flagB s.prot) 5 (0, 0) (fun b hb => by simp [flagB] at hb; subst hb; exact fN_lt _)
      have Q10 := Lib.hid (P9.out.below (below_alloc X9 (.cells #[.int .u8 ((fN s.prot : Nat) : Int)] 5)))
      go_wp2_with (refine wpList_put (.tmp 69) (.tmp 73) rfl rfl rfl Q10.out hT _ _ 1 1 rfl r10 ?_; clear r10; intro v10 X10 p10; have q11 : X10.cell? ⟨g3, 10, none⟩ = some (.slice s.C s.ch.length s.cc) := (p10.bl (g3, 74, (#[.int .i64 s.num, .int .i64 s.vw.size, .string (strOf s.name), .bool s.prot, .bool s.vw.on, .bool s.vw.good, .slice s.vw.M s.vw.row.length s.vw.cm, .string (strOf s.vw.par), .int .i64 s.vw.ps, .int .i64 s.vw.ov, .slice s.C s.ch.length s.cc] : Array Value)) (by simp)).1.cell 10; have P10 := Lib.hid p10; clear p10)
      go_wp2_with fail
      refine (dnum_any ((s.ch.length : Nat)) X10).mono ?_
      rintro e Y11 ⟨u11, rfl, h11, b11⟩
      obtain ⟨D11, d11, rfl, -, -, -⟩ := h11.form
      have Q11 := Lib.hid (P10.out.below b11)
      have r11 := h11.bytes (numB_lt _)
      clear q11 h11 b11
      go_wp2_with (refine wpList_put (.tmp 75) (.tmp 79) rfl rfl rfl Q11.out hT _ D11 8 d11 rfl r11 ?_; clear r11; intro v11 X11 p11; skip; have P11 := Lib.hid p11; clear p11)
      have hcl := HSS.out.ch
      go_loopw [3, 6] (fun lv i wr => ∃ j : Nat, j ≤ s.ch.length ∧ i = .int .i64 j ∧ Pt w T [(w.heap.size, 29, (#[.int .i64 a.id, .int .i64 a.vw.size, .int .i64 a.obj, .int .i64 a.seq, .slice a.S a.sn.length a.cs', .bool a.vw.on, .bool a.vw.good, .slice a.vw.M a.vw.row.length a.vw.cm, .string (strOf a.vw.par), .int .i64 a.vw.ps, .int .i64 a.vw.ov, .int .i64 a.ow, .int .i64 a.it, .int .i64 a.tg] : Array Value)), (g3, 74, (#[.int .i64 s.num, .int .i64 s.vw.size, .string (strOf s.name), .bool s.prot, .bool s.vw.on, .bool s.vw.good, .slice s.vw.M s.vw.row.length s.vw.cm, .string (strOf s.vw.par), .int .i64 s.vw.ps, .int .i64 s.vw.ov, .slice s.C s.ch.length s.cc] : Array Value))] wr lv ((s.ch.drop j).flatMap txt ++ R)) (fun _ i _ => s.ch.length - (intOf i).toNat)
      case atStart => exact ⟨0, by omega, rfl, by simpa using P11.out⟩
      case round =>
        obtain ⟨j, hj, rfl, hp⟩ := hrel
        obtain ⟨A11, n11, c11, rfl⟩ := hp.form
        have PJ := Lib.hid hp
        have q10 : wr.cell? ⟨g3, 10, none⟩ = some (.slice s.C s.ch.length s.cc) := (hp.bl (g3, 74, (#[.int .i64 s.num, .int .i64 s.vw.size, .string (strOf s.name), .bool s.prot, .bool s.vw.on, .bool s.vw.good, .slice s.vw.M s.vw.row.length s.vw.cm, .string (strOf s.vw.par), .int .i64 s.vw.ps, .int .i64 s.vw.ov, .slice s.C s.ch.length s.cc] : Array Value)) (by simp)).1.cell 10
        by_cases hjl : j < s.ch.length
        · have djl : decide ((j : Int) < (s.ch.length : Int)) = true := decide_eq_true (by omega)
          have hwj : IntKind.i64.wrap ((j : Int) + 1) = (j : Int) + 1 := by rw [IntKind.wrap_i64]; omega
          obtain ⟨ad2, x, e1, hx, hx2, cx⟩ := Strs.at_ (HSR.out.since hp.sz).ch hjl
          have hd2 : s.ch.drop j = x :: s.ch.drop (j + 1) := by
            rw [List.drop_eq_getElem_cons hjl]
            congr 1
            rw [List.getElem?_eq_getElem hjl] at hx
            injection hx
          have hp2 : Pt w T [(w.heap.size, 29, (#[.int .i64 a.id, .int .i64 a.vw.size, .int .i64 a.obj, .int .i64 a.seq, .slice a.S a.sn.length a.cs', .bool a.vw.on, .bool a.vw.good, .slice a.vw.M a.vw.row.length a.vw.cm, .string (strOf a.vw.par), .int .i64 a.vw.ps, .int .i64 a.vw.ov, .int .i64 a.ow, .int .i64 a.it, .int .i64 a.tg] : Array Value)), (g3, 74, (#[.int .i64 s.num, .int .i64 s.vw.size, .string (strOf s.name), .bool s.prot, .bool s.vw.on, .bool s.vw.good, .slice s.vw.M s.vw.row.length s.vw.cm, .string (strOf s.vw.par), .int .i64 s.vw.ps, .int .i64 s.vw.ov, .slice s.C s.ch.length s.cc] : Array Value))] wr (.slice A11 n11 c11) (txt x ++ ((s.ch.drop (j + 1)).flatMap txt ++ R)) := by
            have h9 := hp
            rw [hd2, List.flatMap_cons, List.append_assoc] at h9
            exact h9
          obtain ⟨k2, Z2, f2, t2, y2⟩ := conv_str wr x hx2
          have T2 := Lib.hid (And.intro t2 y2)
          have HP2 := Lib.hid hp2
          have hxl := HSS.out.cl x (List.mem_of_getElem? hx)
          rw [e1] at q10
          clear t2 y2 hp2 hp hd2 hx e1
          go_wp2_with fail
          refine (dbytes_any (some ⟨wr.heap.size, 0, none⟩) x.length k2 _ x Z2 T2.out.2 (by omega)).mono ?_
          rintro e Y2 ⟨u2, rfl, h2, b2⟩
          obtain ⟨D2, d2, rfl, -, -, -⟩ := h2.form
          have Q2 := Lib.hid ((HP2.out.below T2.out.1).below b2)
          have r2 := h2.bytes (txt_lt hx2)
          clear q10 h2 b2 f2 cx
          go_wp2_with (refine wpList_put (.tmp 88) (.tmp 95) rfl rfl rfl Q2.out hT _ D2 (8 + x.length) d2 rfl r2 ?_; clear r2; intro v2 X2 p2; have P2 := Lib.hid p2; clear p2)
          exact ⟨⟨j + 1, by omega, by go_num, P2.out⟩, by simp only [intOf]; omega⟩
        · obtain rfl : j = s.ch.length := by omega
          have djl : decide ((s.ch.length : Int) < (s.ch.length : Int)) = false := decide_eq_false (by omega)
          have hp3 : Pt w T [(w.heap.size, 29, (#[.int .i64 a.id, .int .i64 a.vw.size, .int .i64 a.obj, .int .i64 a.seq, .slice a.S a.sn.length a.cs', .bool a.vw.on, .bool a.vw.good, .slice a.vw.M a.vw.row.length a.vw.cm, .string (strOf a.vw.par), .int .i64 a.vw.ps, .int .i64 a.vw.ov, .int .i64 a.ow, .int .i64 a.it, .int .i64 a.tg] : Array Value))] wr (.slice A11 n11 c11) R := by
            have h9 := hp
            rw [List.drop_length] at h9
            exact (show Pt w T [(w.heap.size, 29, (#[.int .i64 a.id, .int .i64 a.vw.size, .int .i64 a.obj, .int .i64 a.seq, .slice a.S a.sn.length a.cs', .bool a.vw.on, .bool a.vw.good, .slice a.vw.M a.vw.row.length a.vw.cm, .string (strOf a.vw.par), .int .i64 a.vw.ps, .int .i64 a.vw.ov, .int .i64 a.ow, .int .i64 a.it, .int .i64 a.tg] : Array Value)), (g3, 74, (#[.int .i64 s.num, .int .i64 s.vw.size, .string (strOf s.name), .bool s.prot, .bool s.vw.on, .bool s.vw.good, .slice s.vw.M s.vw.row.length s.vw.cm, .string (strOf s.vw.par), .int .i64 s.vw.ps, .int .i64 s.vw.ov, .slice s.C s.ch.length s.cc] : Array Value))] wr (.slice A11 n11 c11) R from h9).more (fun x hx => h9.bl x (by simp at hx ⊢; exact .inl hx))
          rw [HRE.out] at hp3
          have HP3 := Lib.hid hp3
          clear hp hp3
          go_wp2
          exact ⟨⟨k + 1, by omega, by go_num, HP3.out⟩, by simp only [intOf]; omega⟩
    · obtain rfl : k = a.sn.length := by omega
      have dl : decide ((a.sn.length : Int) < (a.sn.length : Int)) = false := decide_eq_false (by omega)
      have hpe : Pt w T [(w.heap.size, 29, (#[.int .i64 a.id, .int .i64 a.vw.size, .int .i64 a.obj, .int .i64 a.seq, .slice a.S a.sn.length a.cs', .bool a.vw.on, .bool a.vw.good, .slice a.vw.M a.vw.row.length a.vw.cm, .string (strOf a.vw.par), .int .i64 a.vw.ps, .int .i64 a.vw.ov, .int .i64 a.ow, .int .i64 a.it, .int .i64 a.tg] : Array Value))] wo (.slice A10 n10 c10) (putMk a.vw.mk' ++ (putLk a.vw.lk ++ (numB a.ow ++ (numB a.it ++ (numB a.tg ++ []))))) := by
        have h9 := hp
        rw [List.drop_length] at h9
        rw [List.append_nil, ← HTL.out]
        exact h9
      have PE := Lib.hid hpe
      have z5 : wo.cell? ⟨w.heap.size, 5, none⟩ = some (.bool a.vw.on) := (hpe.bl (w.heap.size, 29, (#[.int .i64 a.id, .int .i64 a.vw.size, .int .i64 a.obj, .int .i64 a.seq, .slice a.S a.sn.length a.cs', .bool a.vw.on, .bool a.vw.good, .slice a.vw.M a.vw.row.length a.vw.cm, .string (strOf a.vw.par), .int .i64 a.vw.ps, .int .i64 a.vw.ov, .int .i64 a.ow, .int .i64 a.it, .int .i64 a.tg] : Array Value)) (by simp)).1.cell 5
      have z6 : wo.cell? ⟨w.heap.size, 6, none⟩ = some (.bool a.vw.good) := (hpe.bl (w.heap.size, 29, (#[.int .i64 a.id, .int .i64 a.vw.size, .int .i64 a.obj, .int .i64 a.seq, .slice a.S a.sn.length a.cs', .bool a.vw.on, .bool a.vw.good, .slice a.vw.M a.vw.row.length a.vw.cm, .string (strOf a.vw.par), .int .i64 a.vw.ps, .int .i64 a.vw.ov, .int .i64 a.ow, .int .i64 a.it, .int .i64 a.tg] : Array Value)) (by simp)).1.cell 6
      have z7 : wo.cell? ⟨w.heap.size, 7, none⟩ = some (.slice a.vw.M a.vw.row.length a.vw.cm) := (hpe.bl (w.heap.size, 29, (#[.int .i64 a.id, .int .i64 a.vw.size, .int .i64 a.obj, .int .i64 a.seq, .slice a.S a.sn.length a.cs', .bool a.vw.on, .bool a.vw.good, .slice a.vw.M a.vw.row.length a.vw.cm, .string (strOf a.vw.par), .int .i64 a.vw.ps, .int .i64 a.vw.ov, .int .i64 a.ow, .int .i64 a.it, .int .i64 a.tg] : Array Value)) (by simp)).1.cell 7
      clear hp hpe
      go_wp2_with fail
      refine (dputmarks_any a.vw.mk' a.vw.M a.vw.cm wo ((HR.out.since PE.out.sz).vw.row) HG.out.1).mono ?_
      rintro e Y12 ⟨u12, rfl, h12, b12⟩
      obtain ⟨D12, d12, rfl, -, -, -⟩ := h12.form
      have Q12 := Lib.hid (PE.out.below b12)
      have r12 := h12.bytes (putMk_lt HG.out.1)
      clear h12 b12
      go_wp2_with (refine wpList_put (.tmp 97) (.tmp 100) rfl rfl rfl Q12.out hT _ D12 (putMk a.vw.mk').length d12 rfl r12 ?_; clear r12; intro v12 X12 p12; have x13_0 : X12.cell? ⟨w.heap.size, 8, none⟩ = some (.string (strOf a.vw.par)) := (p12.bl (w.heap.size, 29, (#[.int .i64 a.id, .int .i64 a.vw.size, .int .i64 a.obj, .int .i64 a.seq, .slice a.S a.sn.length a.cs', .bool a.vw.on, .bool a.vw.good, .slice a.vw.M a.vw.row.length a.vw.cm, .string (strOf a.vw.par), .int .i64 a.vw.ps, .int .i64 a.vw.ov, .int .i64 a.ow, .int .i64 a.it, .int .i64 a.tg] : Array Value)) (by simp)).1.cell 8; have x13_1 : X12.cell? ⟨w.heap.size, 9, none⟩ = some (.int .i64 a.vw.ps) := (p12.bl (w.heap.size, 29, (#[.int .i64 a.id, .int .i64 a.vw.size, .int .i64 a.obj, .int .i64 a.seq, .slice a.S a.sn.length a.cs', .bool a.vw.on, .bool a.vw.good, .slice a.vw.M a.vw.row.length a.vw.cm, .string (strOf a.vw.par), .int .i64 a.vw.ps, .int .i64 a.vw.ov, .int .i64 a.ow, .int .i64 a.it, .int .i64 a.tg] : Array Value)) (by simp)).1.cell 9; have x13_2 : X12.cell? ⟨w.heap.size, 10, none⟩ = some (.int .i64 a.vw.ov) := (p12.bl (w.heap.size, 29, (#[.int .i64 a.id, .int .i64 a.vw.size, .int .i64 a.obj, .int .i64 a.seq, .slice a.S a.sn.length a.cs', .bool a.vw.on, .bool a.vw.good, .slice a.vw.M a.vw.row.length a.vw.cm, .string (strOf a.vw.par), .int .i64 a.vw.ps, .int .i64 a.vw.ov, .int .i64 a.ow, .int .i64 a.it, .int .i64 a.tg] : Array Value)) (by simp)).1.cell 10; have P12 := Lib.hid p12; clear p12)
      go_wp2_with fail
      refine (dputlink_any a.vw.lk X12 HR.out.vw.par HSM.out.vw.par).mono ?_
      rintro e Y13 ⟨u13, rfl, h13, b13⟩
      obtain ⟨D13, d13, rfl, -, -, -⟩ := h13.form
      have Q13 := Lib.hid (P12.out.below b13)
      have r13 := h13.bytes (putLk_lt HR.out.vw.par)
      clear h13 b13
      go_wp2_with (refine wpList_put (.tmp 102) (.tmp 105) rfl rfl rfl Q13.out hT _ D13 (putLk a.vw.lk).length d13 rfl r13 ?_; clear r13; intro v13 X13 p13; have q14 : X13.cell? ⟨w.heap.size, 11, none⟩ = some (.int .i64 a.ow) := (p13.bl (w.heap.size, 29, (#[.int .i64 a.id, .int .i64 a.vw.size, .int .i64 a.obj, .int .i64 a.seq, .slice a.S a.sn.length a.cs', .bool a.vw.on, .bool a.vw.good, .slice a.vw.M a.vw.row.length a.vw.cm, .string (strOf a.vw.par), .int .i64 a.vw.ps, .int .i64 a.vw.ov, .int .i64 a.ow, .int .i64 a.it, .int .i64 a.tg] : Array Value)) (by simp)).1.cell 11; have P13 := Lib.hid p13; clear p13)
      go_wp2_with fail
      refine (dnum_any (a.ow) X13).mono ?_
      rintro e Y14 ⟨u14, rfl, h14, b14⟩
      obtain ⟨D14, d14, rfl, -, -, -⟩ := h14.form
      have Q14 := Lib.hid (P13.out.below b14)
      have r14 := h14.bytes (numB_lt _)
      clear q14 h14 b14
      go_wp2_with (refine wpList_put (.tmp 107) (.tmp 110) rfl rfl rfl Q14.out hT _ D14 8 d14 rfl r14 ?_; clear r14; intro v14 X14 p14; have q15 : X14.cell? ⟨w.heap.size, 12, none⟩ = some (.int .i64 a.it) := (p14.bl (w.heap.size, 29, (#[.int .i64 a.id, .int .i64 a.vw.size, .int .i64 a.obj, .int .i64 a.seq, .slice a.S a.sn.length a.cs', .bool a.vw.on, .bool a.vw.good, .slice a.vw.M a.vw.row.length a.vw.cm, .string (strOf a.vw.par), .int .i64 a.vw.ps, .int .i64 a.vw.ov, .int .i64 a.ow, .int .i64 a.it, .int .i64 a.tg] : Array Value)) (by simp)).1.cell 12; have P14 := Lib.hid p14; clear p14)
      go_wp2_with fail
      refine (dnum_any (a.it) X14).mono ?_
      rintro e Y15 ⟨u15, rfl, h15, b15⟩
      obtain ⟨D15, d15, rfl, -, -, -⟩ := h15.form
      have Q15 := Lib.hid (P14.out.below b15)
      have r15 := h15.bytes (numB_lt _)
      clear q15 h15 b15
      go_wp2_with (refine wpList_put (.tmp 112) (.tmp 115) rfl rfl rfl Q15.out hT _ D15 8 d15 rfl r15 ?_; clear r15; intro v15 X15 p15; have q16 : X15.cell? ⟨w.heap.size, 13, none⟩ = some (.int .i64 a.tg) := (p15.bl (w.heap.size, 29, (#[.int .i64 a.id, .int .i64 a.vw.size, .int .i64 a.obj, .int .i64 a.seq, .slice a.S a.sn.length a.cs', .bool a.vw.on, .bool a.vw.good, .slice a.vw.M a.vw.row.length a.vw.cm, .string (strOf a.vw.par), .int .i64 a.vw.ps, .int .i64 a.vw.ov, .int .i64 a.ow, .int .i64 a.it, .int .i64 a.tg] : Array Value)) (by simp)).1.cell 13; have P15 := Lib.hid p15; clear p15)
      go_wp2_with fail
      refine (dnum_any (a.tg) X15).mono ?_
      rintro e Y16 ⟨u16, rfl, h16, b16⟩
      obtain ⟨D16, d16, rfl, -, -, -⟩ := h16.form
      have Q16 := Lib.hid (P15.out.below b16)
      have r16 := h16.bytes (numB_lt _)
      clear q16 h16 b16
      go_wp2_with (refine wpList_put (.tmp 117) (.tmp 120) rfl rfl rfl Q16.out hT _ D16 8 d16 rfl r16 ?_; clear r16; intro v16 X16 p16; skip; have P16 := Lib.hid p16; clear p16)
      go_ret
      obtain ⟨acc, h1, h2⟩ := P16.out.pu
      rw [List.append_nil] at h2
      subst h2
      exact ⟨_, rfl, h1⟩
end Go.Proofs.Ytgddenhnpjoabaa
