/-
  The law HeadPuts' walk: for all heads that read as the document's. No condition beyond that.
-/
import Derived.Test.YtgddenhnpjoabaaZl
import Derived.Test.YtgddenhnpjoabaaIoC
import Derived.Test.YtgddenhnpjoabaaIfC
namespace Go.Proofs.Ytgddenhnpjoabaa
open Go.RowKit Go.BigFrame
set_option linter.unusedSimpArgs false
set_option linter.unusedVariables false
set_option maxRecDepth 100000
/-- what reads as a head that is not large is small -/
theorem lm_sm {q a : HA} (e : q.v = a.v) (h : a.Lm) : q.Sm := by
  have e1 : q.vw.row = a.vw.row := congrArg (fun v => v.mx.row) e
  have e2 : q.vw.par = a.vw.par := congrArg (fun v => v.lk.par) e
  have e3 : q.sn.map SA.v = a.sn.map SA.v := congrArg HdV.sn e
  have e4 : q.sn.length = a.sn.length := by have := congrArg List.length e3; simpa using this
  refine ⟨⟨by rw [e1]; exact Nat.le_trans h.row (by omega), by rw [e2]; exact Nat.le_trans h.par (by omega)⟩, by have := h.cn; omega, fun s hs => ?_⟩
  have hm : s.v ∈ a.sn.map SA.v := e3 ▸ List.mem_map.2 ⟨s, hs, rfl⟩
  obtain ⟨t, ht, et⟩ := List.mem_map.1 hm
  have l := h.sn t ht
  have f1 : t.vw.row = s.vw.row := congrArg (fun v => v.mx.row) et
  have f2 : t.vw.par = s.vw.par := congrArg (fun v => v.lk.par) et
  have f3 : t.name = s.name := congrArg SnV.name et
  have f4 : t.ch = s.ch := congrArg SnV.ch et
  exact ⟨⟨by rw [← f1]; exact Nat.le_trans l.row (by omega), by rw [← f2]; exact Nat.le_trans l.par (by omega)⟩, by rw [← f3]; exact Nat.le_trans l.name (by omega), by rw [← f4]; exact Nat.le_trans l.ch (by omega), fun c hc => Nat.le_trans (l.cl c (by rw [f4]; exact hc)) (by omega)⟩
/-- a good head that is not large can be read back -/
theorem ok_good {a : HA} {cf : SA → List Value} {w : World} (hR : a.R cf w) (hL : a.Lm) (hB : a.v.B = true) : a.v.Ok := by
  have hg := HdV.B_good hB
  refine ⟨hR.id, hR.vw.size, hR.obj, hR.seq, fun s hs => ?_, hg.cn, ⟨hg.row⟩, ⟨Nat.le_trans hg.par (by omega), hR.vw.ps, hR.vw.ov⟩, hR.ow, hR.it, hR.tg⟩
  have gs := hg.sn s hs
  obtain ⟨t, ht, rfl⟩ := List.mem_map.1 hs
  have rt := hR.sn t ht
  have lt := hL.sn t ht
  exact ⟨rt.num, rt.vw.size, Nat.le_trans lt.name (by omega), ⟨gs.row⟩, ⟨Nat.le_trans gs.par (by omega), rt.vw.ps, rt.vw.ov⟩, gs.ch, Nat.le_trans lt.ch (by omega)⟩
theorem putSn_len50 {s : SnV} (h : SnG s) (hc : s.ch.length ≤ 50) : (putSn s).length ≤ 3000 := by
  have h1 := putMk_len h.row
  have h2 : (putLk s.lk).length = 8 + s.lk.par.length + 16 := by simp only [putLk, txt, List.length_append, numB_len]
  have h3 := named_len h.name
  have h4 := flat_txt_len s.ch (fun c hc => (named_len (h.ch c hc)).2)
  have h5 := h.par
  have h6 : (s.ch.flatMap txt).length ≤ 28 * s.ch.length := by omega
  simp only [putSn, putVw, txt, flagB, List.length_append, numB_len, List.length_singleton]
  omega
theorem flat_put_len50 : ∀ l : List SnV, (∀ s ∈ l, SnG s ∧ s.ch.length ≤ 50) → (l.flatMap putSn).length ≤ 3000 * l.length
  | [], _ => by simp
  | s :: l, h => by
    have ih := flat_put_len50 l fun x hx => h x (List.mem_cons_of_mem _ hx)
    have := putSn_len50 (h s (by simp)).1 (h s (by simp)).2
    rw [List.flatMap_cons, List.length_append, List.length_cons]
    omega
theorem text_short {a : HA} (hL : a.Lm) (hB : a.v.B = true) : a.v.put.length ≤ 100000 := by
  have hg := HdV.B_good hB
  have h1 := putMk_len hg.row
  have h2 : (putLk a.v.lk).length = 8 + a.v.lk.par.length + 16 := by simp only [putLk, txt, List.length_append, numB_len]
  have h5 := hg.par
  have h3 := flat_put_len50 a.v.sn fun s hs => ⟨hg.sn s hs, by
    obtain ⟨t, ht, rfl⟩ := List.mem_map.1 hs
    exact (hL.sn t ht).ch⟩
  have h4 := hg.cn
  simp only [HdV.put, putVw, List.length_append, numB_len]
  omega
theorem text_lt {a : HA} {cf : SA → List Value} {w : World} (hR : a.R cf w) (hB : a.v.B = true) : ∀ b ∈ a.v.put, b < 256 :=
  hput_lt hB hR.vw.par fun s hs b hb => by
    obtain ⟨t, ht, rfl⟩ := List.mem_map.1 hs
    exact (hR.sn t ht).vw.par b hb
/-- what reads as good marks has good rows -/
theorem rows_good {a : HA} (hB : a.v.B = true) : Good a.vw.row ∧ ∀ s ∈ a.sn, Good s.vw.row :=
  ⟨(HdV.B_good hB).row, fun s hs => ((HdV.B_good hB).sn s.v (List.mem_map.2 ⟨s, hs, rfl⟩)).row⟩
set_option maxHeartbeats 64000000 in
theorem headPuts_walk (a : HA) (w : World) (hR : a.R SA.dcells w) : Calls Try.prog 3 #[.agg a.cs] w fun e w' => e = .returned (.bool true) ∧ Below w.heap.size w w' := by
  obtain ⟨w0, hw0⟩ : ∃ w0, w0 = w.alloc (.cells #[.int .i64 a.id, .int .i64 a.vw.size, .int .i64 a.obj, .int .i64 a.seq, .slice a.S a.sn.length a.cs', .bool a.vw.on, .bool a.vw.good, .slice a.vw.M a.vw.row.length a.vw.cm, .string (strOf a.vw.par), .int .i64 a.vw.ps, .int .i64 a.vw.ov, .int .i64 a.ow, .int .i64 a.it, .int .i64 a.tg] 29) := ⟨_, rfl⟩
  have b0 : Below w.heap.size w w0 := by rw [hw0]; exact below_alloc w _
  have B0 := Lib.hid b0
  have HB0 : Hid (∀ W, Below w0.heap.size w0 W → Blk W w.heap.size 29 #[.int .i64 a.id, .int .i64 a.vw.size, .int .i64 a.obj, .int .i64 a.seq, .slice a.S a.sn.length a.cs', .bool a.vw.on, .bool a.vw.good, .slice a.vw.M a.vw.row.length a.vw.cm, .string (strOf a.vw.par), .int .i64 a.vw.ps, .int .i64 a.vw.ov, .int .i64 a.ow, .int .i64 a.it, .int .i64 a.tg]) := Lib.hid fun W hW => by
    have k8 : Blk w0 w.heap.size 29 #[.int .i64 a.id, .int .i64 a.vw.size, .int .i64 a.obj, .int .i64 a.seq, .slice a.S a.sn.length a.cs', .bool a.vw.on, .bool a.vw.good, .slice a.vw.M a.vw.row.length a.vw.cm, .string (strOf a.vw.par), .int .i64 a.vw.ps, .int .i64 a.vw.ov, .int .i64 a.ow, .int .i64 a.it, .int .i64 a.tg] := by rw [hw0]; exact Blk.new w _ _
    exact k8.of (hW.block _ k8.lt)
  have HAL : Hid (∀ W, Calls Try.prog 8 #[] W fun e w' => e = .returned (.bool true) ∧ Below W.heap.size W w') := Lib.hid fun W => halive_any W
  have HLG : Hid (∀ W, Below w0.heap.size w0 W → Calls Try.prog 9 #[.agg #[.int .i64 a.id, .int .i64 a.vw.size, .int .i64 a.obj, .int .i64 a.seq, .slice a.S a.sn.length a.cs', .bool a.vw.on, .bool a.vw.good, .slice a.vw.M a.vw.row.length a.vw.cm, .string (strOf a.vw.par), .int .i64 a.vw.ps, .int .i64 a.vw.ov, .int .i64 a.ow, .int .i64 a.it, .int .i64 a.tg]] W (LargeTo W a)) := Lib.hid fun W hW => hlarge_any a W ((hR.since b0).since hW)
  have HPR : Hid (∀ W, Below w0.heap.size w0 W → a.Lm → Calls Try.prog 10 #[.agg #[.int .i64 a.id, .int .i64 a.vw.size, .int .i64 a.obj, .int .i64 a.seq, .slice a.S a.sn.length a.cs', .bool a.vw.on, .bool a.vw.good, .slice a.vw.M a.vw.row.length a.vw.cm, .string (strOf a.vw.par), .int .i64 a.vw.ps, .int .i64 a.vw.ov, .int .i64 a.ow, .int .i64 a.it, .int .i64 a.tg]] W (ProgTo W a)) := Lib.hid fun W hW hl => hprogram_any a W ((hR.since b0).since hW) hl
  have HW0 := Lib.hid hw0
  have HRA := Lib.hid hR
  clear hR b0 hw0
  unfold HA.cs
  go_enter Try.func3, Try.ntmps3
  go_wp2_with fail
  rw [← HW0.out]
  clear HW0
  refine (HAL.out _).mono ?_
  rintro e W1 ⟨rfl, b1⟩
  have K1 := HB0.out _ b1
  have H1 := Lib.hid b1
  clear b1
  go_wp2_with (have _h := K1; refine wpList_loadq rfl 29 (.tmp 1) rfl (w.heap.size) [.int .i64 a.id, .int .i64 a.vw.size, .int .i64 a.obj, .int .i64 a.seq, .slice a.S a.sn.length a.cs', .bool a.vw.on, .bool a.vw.good, .slice a.vw.M a.vw.row.length a.vw.cm, .string (strOf a.vw.par), .int .i64 a.vw.ps, .int .i64 a.vw.ov, .int .i64 a.ow, .int .i64 a.it, .int .i64 a.tg] _ rfl K1 Try.underlying29 rfl (by kernel_rfl) ?_; clear _h K1)
  refine (HLG.out _ H1.out).mono ?_
  rintro e W2 ⟨bl, rfl, b2, hlm⟩
  have H2 := Lib.hid (H1.out.trans (b2.mono H1.out.size))
  have HEND : Hid (Below w.heap.size w W2) := Lib.hid (B0.out.trans (H2.out.mono B0.out.size))
  clear b2 H1
  cases bl with
  | true =>
    clear hlm
    go_wp2
    go_ret
    exact ⟨rfl, HEND.out⟩
  | false =>
  have HLM := Lib.hid (hlm rfl)
  clear hlm
  have K2 := HB0.out _ H2.out
  go_wp2_with (have _h := K2; refine wpList_loadq rfl 29 (.tmp 1) rfl (w.heap.size) [.int .i64 a.id, .int .i64 a.vw.size, .int .i64 a.obj, .int .i64 a.seq, .slice a.S a.sn.length a.cs', .bool a.vw.on, .bool a.vw.good, .slice a.vw.M a.vw.row.length a.vw.cm, .string (strOf a.vw.par), .int .i64 a.vw.ps, .int .i64 a.vw.ov, .int .i64 a.ow, .int .i64 a.it, .int .i64 a.tg] _ rfl K2 Try.underlying29 rfl (by kernel_rfl) ?_; clear _h K2)
  refine (HPR.out _ H2.out HLM.out).mono ?_
  rintro e W3 ⟨q, rfl, hv, hN, b3⟩
  have H3 := Lib.hid (H2.out.trans (b3.mono H2.out.size))
  have hqs := lm_sm hv HLM.out
  have hqR := hN.R
  obtain ⟨w9, hw9⟩ : ∃ w9, w9 = W3.alloc (.cells #[.int .i64 q.id, .int .i64 q.vw.size, .int .i64 q.obj, .int .i64 q.seq, .slice q.S q.sn.length q.cs', .bool q.vw.on, .bool q.vw.good, .slice q.vw.M q.vw.row.length q.vw.cm, .string (strOf q.vw.par), .int .i64 q.vw.ps, .int .i64 q.vw.ov, .int .i64 q.ow, .int .i64 q.it, .int .i64 q.tg] 36) := ⟨_, rfl⟩
  obtain ⟨gp, hgp⟩ : ∃ gp, gp = W3.heap.size := ⟨_, rfl⟩
  have hb9 : Below W3.heap.size W3 w9 := by rw [hw9]; exact below_alloc _ _
  have h09 : Below w0.heap.size w0 w9 := H3.out.trans (hb9.mono H3.out.size)
  have HE9 : Hid (Below w.heap.size w w9) := Lib.hid (B0.out.trans (h09.mono B0.out.size))
  have HP1 : Hid (∀ W, Below w9.heap.size w9 W → Blk W gp 36 #[.int .i64 q.id, .int .i64 q.vw.size, .int .i64 q.obj, .int .i64 q.seq, .slice q.S q.sn.length q.cs', .bool q.vw.on, .bool q.vw.good, .slice q.vw.M q.vw.row.length q.vw.cm, .string (strOf q.vw.par), .int .i64 q.vw.ps, .int .i64 q.vw.ov, .int .i64 q.ow, .int .i64 q.it, .int .i64 q.tg]) := Lib.hid fun W hW => by
    have k8 : Blk w9 gp 36 #[.int .i64 q.id, .int .i64 q.vw.size, .int .i64 q.obj, .int .i64 q.seq, .slice q.S q.sn.length q.cs', .bool q.vw.on, .bool q.vw.good, .slice q.vw.M q.vw.row.length q.vw.cm, .string (strOf q.vw.par), .int .i64 q.vw.ps, .int .i64 q.vw.ov, .int .i64 q.ow, .int .i64 q.it, .int .i64 q.tg] := by rw [hw9, hgp]; exact Blk.new _ _ _
    exact k8.of (hW.block _ k8.lt)
  have HA1 : Hid (∀ W, Below w9.heap.size w9 W → Blk W w.heap.size 29 #[.int .i64 a.id, .int .i64 a.vw.size, .int .i64 a.obj, .int .i64 a.seq, .slice a.S a.sn.length a.cs', .bool a.vw.on, .bool a.vw.good, .slice a.vw.M a.vw.row.length a.vw.cm, .string (strOf a.vw.par), .int .i64 a.vw.ps, .int .i64 a.vw.ov, .int .i64 a.ow, .int .i64 a.it, .int .i64 a.tg]) := Lib.hid fun W hW => HB0.out W (h09.trans (hW.mono h09.size))
  have hqR9 := hqR.since hb9
  have haR9 := (HRA.out.since B0.out).since h09
  have haS := lm_sm rfl HLM.out
  obtain ⟨bb, hbb⟩ : ∃ bb, bb = a.v.B := ⟨_, rfl⟩
  obtain ⟨tx, htx⟩ : ∃ tx, tx = a.v.put := ⟨_, rfl⟩
  obtain ⟨n, hn⟩ : ∃ n, n = tx.length := ⟨_, rfl⟩
  have HPU : Hid (∀ W, Below w9.heap.size w9 W → Calls Try.prog 11 #[.agg #[.int .i64 q.id, .int .i64 q.vw.size, .int .i64 q.obj, .int .i64 q.seq, .slice q.S q.sn.length q.cs', .bool q.vw.on, .bool q.vw.good, .slice q.vw.M q.vw.row.length q.vw.cm, .string (strOf q.vw.par), .int .i64 q.vw.ps, .int .i64 q.vw.ov, .int .i64 q.ow, .int .i64 q.it, .int .i64 q.tg]] W fun e w' => Below W.heap.size W w' ∧ ((bb = true ∧ ∃ A c, e = .returned (.tuple #[.slice A n c, .nilIface]) ∧ Own w' W.heap.size (.slice A n c) n tx) ∨ (bb = false ∧ e = .returned (.tuple #[.slice none 0 0, errV 2])))) := Lib.hid fun W hW => (hput_any (w := W) q (hqR9.since hW) hqs).mono fun e w' h => by
    obtain ⟨b, h⟩ := h
    rw [hv, ← hbb, ← htx, ← hn] at h
    refine ⟨b, ?_⟩
    rcases h with ⟨h1, p, rfl, h2⟩ | h
    · obtain ⟨A, c, rfl⟩ := own_form h2
      exact .inl ⟨h1, A, c, rfl, h2⟩
    · exact .inr h
  have HDG : Hid (∀ W, Below w9.heap.size w9 W → Calls Try.prog 12 #[.agg #[.int .i64 a.id, .int .i64 a.vw.size, .int .i64 a.obj, .int .i64 a.seq, .slice a.S a.sn.length a.cs', .bool a.vw.on, .bool a.vw.good, .slice a.vw.M a.vw.row.length a.vw.cm, .string (strOf a.vw.par), .int .i64 a.vw.ps, .int .i64 a.vw.ov, .int .i64 a.ow, .int .i64 a.it, .int .i64 a.tg]] W fun e w' => e = .returned (.bool bb) ∧ Below W.heap.size W w') := Lib.hid fun W hW => by rw [hbb]; exact dgoodhead_any a W (haR9.since hW) haS
  have HHG : Hid (∀ W, Below w9.heap.size w9 W → Calls Try.prog 13 #[.agg #[.int .i64 q.id, .int .i64 q.vw.size, .int .i64 q.obj, .int .i64 q.seq, .slice q.S q.sn.length q.cs', .bool q.vw.on, .bool q.vw.good, .slice q.vw.M q.vw.row.length q.vw.cm, .string (strOf q.vw.par), .int .i64 q.vw.ps, .int .i64 q.vw.ov, .int .i64 q.ow, .int .i64 q.it, .int .i64 q.tg]] W fun e w' => e = .returned (.bool bb) ∧ Below W.heap.size W w') := Lib.hid fun W hW => by rw [hbb, ← hv]; exact good_head q W (hqR9.since hW) hqs
  have HPL : Hid (∀ W, Below w9.heap.size w9 W → Calls Try.prog 15 #[.agg #[.int .i64 q.id, .int .i64 q.vw.size, .int .i64 q.obj, .int .i64 q.seq, .slice q.S q.sn.length q.cs', .bool q.vw.on, .bool q.vw.good, .slice q.vw.M q.vw.row.length q.vw.cm, .string (strOf q.vw.par), .int .i64 q.vw.ps, .int .i64 q.vw.ov, .int .i64 q.ow, .int .i64 q.it, .int .i64 q.tg]] W fun e w' => ∃ d : HA, e = .returned (.agg d.cs) ∧ d.v = a.v ∧ d.R SA.dcells w' ∧ Below W.heap.size W w') := Lib.hid fun W hW => (hplain_any q W (hqR9.since hW) hqs).mono fun e w' ⟨d, h1, h2, h3, _, _, h6⟩ => ⟨d, h1, h2.trans hv, h3, h6⟩
  have HDS : Hid (∀ (d : HA) W, Below w9.heap.size w9 W → d.v = a.v → d.R SA.dcells W → Calls Try.prog 14 #[.agg d.cs, .agg #[.int .i64 a.id, .int .i64 a.vw.size, .int .i64 a.obj, .int .i64 a.seq, .slice a.S a.sn.length a.cs', .bool a.vw.on, .bool a.vw.good, .slice a.vw.M a.vw.row.length a.vw.cm, .string (strOf a.vw.par), .int .i64 a.vw.ps, .int .i64 a.vw.ov, .int .i64 a.ow, .int .i64 a.it, .int .i64 a.tg]] W fun e w' => e = .returned (.bool true) ∧ Below W.heap.size W w') := Lib.hid fun d W hW e hd => (dsame_any d a W hd (haR9.since hW) (lm_sm e HLM.out) haS).mono fun e' w' ⟨r, h1, h2, h3⟩ => ⟨by rw [h1, h2.2 e], h3⟩
  have HTX : Hid (bb = true → n ≤ 100000 ∧ tx.length = n ∧ TakeH tx ∧ (∀ b ∈ tx, b < 256) ∧ (∀ x : HA, x.v = (⟨tx, false⟩ : RD).hdv → x.v = a.v)) := Lib.hid fun hb => by
    have hB : a.v.B = true := hbb ▸ hb
    have hbk := (hd_back a.v (ok_good HRA.out HLM.out hB)).2
    rw [← htx] at hbk
    exact ⟨by rw [hn, htx]; exact text_short HLM.out hB, hn.symm, ⟨by rw [hbk]; exact hB, by rw [hbk]; exact htx.symm⟩, by rw [htx]; exact text_lt HRA.out hB, fun x hx => hx.trans hbk⟩
  have HDP : Hid (bb = true → ∀ W, Below w9.heap.size w9 W → Calls Try.prog 19 #[.agg #[.int .i64 a.id, .int .i64 a.vw.size, .int .i64 a.obj, .int .i64 a.seq, .slice a.S a.sn.length a.cs', .bool a.vw.on, .bool a.vw.good, .slice a.vw.M a.vw.row.length a.vw.cm, .string (strOf a.vw.par), .int .i64 a.vw.ps, .int .i64 a.vw.ov, .int .i64 a.ow, .int .i64 a.it, .int .i64 a.tg]] W fun e w' => ∃ A c, e = .returned (.slice A n c) ∧ Own w' W.heap.size (.slice A n c) n tx ∧ Below W.heap.size W w') := Lib.hid fun hb W hW => by
    have hB : a.v.B = true := hbb ▸ hb
    refine (dputhead_any a W (haR9.since hW) (rows_good hB).1 (rows_good hB).2 (by have := text_short HLM.out hB; omega) haS).mono fun e w' h => ?_
    obtain ⟨v, rfl, h1, h2⟩ := h
    rw [← htx, ← hn] at h1
    obtain ⟨A, c, rfl⟩ := own_form h1
    exact ⟨A, c, rfl, h1, h2⟩
  have HTA : Hid (bb = true → ∀ A c W, Below w9.heap.size w9 W → Bytes W W.heap.size A n tx → Calls Try.prog 17 #[.slice A n c] W fun e w' => ∃ x : HA, e = .returned (.tuple #[.agg x.cs, .nilIface]) ∧ x.v = a.v ∧ x.N w' W.heap.size [] ∧ Below W.heap.size W w') := Lib.hid fun hb A c W hW hB => by
    obtain ⟨t1, t2, t3, t4, t5⟩ := HTX.out hb
    refine (htake_any A n c tx W hB (by omega) (fun w1 base F p hr hB => thead_any w1 base F p ⟨tx, false⟩ hr hB (by show tx.length ≤ 1000000; omega)) (fun x hx => lm_sm (t5 x hx) HLM.out)).mono fun e w' h => ?_
    obtain ⟨b, ⟨_, x, rfl, hx, hxN⟩ | ⟨hno, _⟩⟩ := h
    · exact ⟨x, rfl, t5 x hx, hxN, b⟩
    · exact absurd t3 hno
  have HXS : Hid (∀ (x : HA) W, Below w9.heap.size w9 W → x.v = a.v → x.R SA.cells W → Calls Try.prog 20 #[.agg #[.int .i64 x.id, .int .i64 x.vw.size, .int .i64 x.obj, .int .i64 x.seq, .slice x.S x.sn.length x.cs', .bool x.vw.on, .bool x.vw.good, .slice x.vw.M x.vw.row.length x.vw.cm, .string (strOf x.vw.par), .int .i64 x.vw.ps, .int .i64 x.vw.ov, .int .i64 x.ow, .int .i64 x.it, .int .i64 x.tg], .agg #[.int .i64 q.id, .int .i64 q.vw.size, .int .i64 q.obj, .int .i64 q.seq, .slice q.S q.sn.length q.cs', .bool q.vw.on, .bool q.vw.good, .slice q.vw.M q.vw.row.length q.vw.cm, .string (strOf q.vw.par), .int .i64 q.vw.ps, .int .i64 q.vw.ov, .int .i64 q.ow, .int .i64 q.it, .int .i64 q.tg]] W fun e w' => e = .returned (.bool true) ∧ Below W.heap.size W w') := Lib.hid fun x W hW e hx => (hsame_any x q W hx (hqR9.since hW) (lm_sm e HLM.out) hqs).mono fun e' w' ⟨r, h1, h2, h3⟩ => ⟨by rw [h1, h2.2 (e.trans hv.symm)], h3⟩
  have HXP : Hid (∀ (x : HA) W, Below w9.heap.size w9 W → x.v = a.v → x.R SA.cells W → Calls Try.prog 15 #[.agg #[.int .i64 x.id, .int .i64 x.vw.size, .int .i64 x.obj, .int .i64 x.seq, .slice x.S x.sn.length x.cs', .bool x.vw.on, .bool x.vw.good, .slice x.vw.M x.vw.row.length x.vw.cm, .string (strOf x.vw.par), .int .i64 x.vw.ps, .int .i64 x.vw.ov, .int .i64 x.ow, .int .i64 x.it, .int .i64 x.tg]] W fun e w' => ∃ d : HA, e = .returned (.agg d.cs) ∧ d.v = a.v ∧ d.R SA.dcells w' ∧ Below W.heap.size W w') := Lib.hid fun x W hW e hx => (hplain_any x W hx (lm_sm e HLM.out)).mono fun e' w' ⟨d, h1, h2, h3, _, _, h6⟩ => ⟨d, h1, h2.trans e, h3, h6⟩
  have HW9 := Lib.hid (And.intro hw9 hgp)
  clear hv hN b3 hqs hqR hb9 h09 hw9 hgp hqR9 haR9 haS hbb htx hn H2 H3 HEND HLM HB0 HAL HLG HPR HRA B0
  unfold HA.cs
  go_wp2_with fail
  rw [← HW9.out.1, ← HW9.out.2]
  clear HW9
  have K3 := HP1.out _ (Below.refl _ _)
  go_wp2_with (have _h := K3; refine wpList_loadq rfl 36 (.tmp 3) rfl (gp) [.int .i64 q.id, .int .i64 q.vw.size, .int .i64 q.obj, .int .i64 q.seq, .slice q.S q.sn.length q.cs', .bool q.vw.on, .bool q.vw.good, .slice q.vw.M q.vw.row.length q.vw.cm, .string (strOf q.vw.par), .int .i64 q.vw.ps, .int .i64 q.vw.ov, .int .i64 q.ow, .int .i64 q.it, .int .i64 q.tg] _ rfl K3 Try.underlying36 rfl (by kernel_rfl) ?_; clear _h K3)
  refine (HPU.out _ (Below.refl _ _)).mono ?_
  rintro e W4 ⟨b4, h4⟩
  have H4 := Lib.hid b4
  rcases h4 with ⟨rfl, A4, c4, rfl, hO4⟩ | ⟨rfl, rfl⟩
  · have K4 := HA1.out _ H4.out
    have HO4 := Lib.hid hO4
    clear hO4
    clear b4
    go_wp2_with (have _h := K4; refine wpList_loadq rfl 29 (.tmp 1) rfl (w.heap.size) [.int .i64 a.id, .int .i64 a.vw.size, .int .i64 a.obj, .int .i64 a.seq, .slice a.S a.sn.length a.cs', .bool a.vw.on, .bool a.vw.good, .slice a.vw.M a.vw.row.length a.vw.cm, .string (strOf a.vw.par), .int .i64 a.vw.ps, .int .i64 a.vw.ov, .int .i64 a.ow, .int .i64 a.it, .int .i64 a.tg] _ rfl K4 Try.underlying29 rfl (by kernel_rfl) ?_; clear _h K4)
    refine (HDG.out _ H4.out).mono ?_
    rintro e W5 ⟨rfl, b5⟩
    have H5 := Lib.hid (H4.out.trans (b5.mono H4.out.size))
    have HO5 := Lib.hid (HO4.out.below b5)
    clear b5
    have HA5 : Hid (∀ W, Below W5.heap.size W5 W → Blk W w.heap.size 29 #[.int .i64 a.id, .int .i64 a.vw.size, .int .i64 a.obj, .int .i64 a.seq, .slice a.S a.sn.length a.cs', .bool a.vw.on, .bool a.vw.good, .slice a.vw.M a.vw.row.length a.vw.cm, .string (strOf a.vw.par), .int .i64 a.vw.ps, .int .i64 a.vw.ov, .int .i64 a.ow, .int .i64 a.it, .int .i64 a.tg]) := Lib.hid fun W hW => HA1.out W (H5.out.trans (hW.mono H5.out.size))
    have HP5 : Hid (∀ W, Below W5.heap.size W5 W → Blk W gp 36 #[.int .i64 q.id, .int .i64 q.vw.size, .int .i64 q.obj, .int .i64 q.seq, .slice q.S q.sn.length q.cs', .bool q.vw.on, .bool q.vw.good, .slice q.vw.M q.vw.row.length q.vw.cm, .string (strOf q.vw.par), .int .i64 q.vw.ps, .int .i64 q.vw.ov, .int .i64 q.ow, .int .i64 q.it, .int .i64 q.tg]) := Lib.hid fun W hW => HP1.out W (H5.out.trans (hW.mono H5.out.size))
    have U5 : Hid (∀ W, Below W5.heap.size W5 W → Below w9.heap.size w9 W) := Lib.hid fun W hW => H5.out.trans (hW.mono H5.out.size)
    go_upto_region 8 with (fail)
    have hS : Below W5.heap.size W5 W5.drew := (Below.refl _ W5).drew
    refine any_beginL (fun W => Below W5.heap.size W5 W) 99 (by kernel_rfl) ?_
    refine S_take (i := 0) (v := .agg #[.int .i64 q.id, .int .i64 q.vw.size, .int .i64 q.obj, .int .i64 q.seq, .slice q.S q.sn.length q.cs', .bool q.vw.on, .bool q.vw.good, .slice q.vw.M q.vw.row.length q.vw.cm, .string (strOf q.vw.par), .int .i64 q.vw.ps, .int .i64 q.vw.ov, .int .i64 q.ow, .int .i64 q.it, .int .i64 q.tg]) rfl rfl (by kernel_rfl) (by kernel_rfl) (by kernel_rfl) (fun _ _ _ h => h) (Or.inl ⟨by rfl, fun W hw => by have k0 : W.cell? ⟨gp, 0, none⟩ = some (.int .i64 q.id) := (HP5.out W hw).cell 0; have k1 : W.cell? ⟨gp, 1, none⟩ = some (.int .i64 q.vw.size) := (HP5.out W hw).cell 1; have k2 : W.cell? ⟨gp, 2, none⟩ = some (.int .i64 q.obj) := (HP5.out W hw).cell 2; have k3 : W.cell? ⟨gp, 3, none⟩ = some (.int .i64 q.seq) := (HP5.out W hw).cell 3; have k4 : W.cell? ⟨gp, 4, none⟩ = some (.slice q.S q.sn.length q.cs') := (HP5.out W hw).cell 4; have k5 : W.cell? ⟨gp, 5, none⟩ = some (.bool q.vw.on) := (HP5.out W hw).cell 5; have k6 : W.cell? ⟨gp, 6, none⟩ = some (.bool q.vw.good) := (HP5.out W hw).cell 6; have k7 : W.cell? ⟨gp, 7, none⟩ = some (.slice q.vw.M q.vw.row.length q.vw.cm) := (HP5.out W hw).cell 7; have k8 : W.cell? ⟨gp, 8, none⟩ = some (.string (strOf q.vw.par)) := (HP5.out W hw).cell 8; have k9 : W.cell? ⟨gp, 9, none⟩ = some (.int .i64 q.vw.ps) := (HP5.out W hw).cell 9; have k10 : W.cell? ⟨gp, 10, none⟩ = some (.int .i64 q.vw.ov) := (HP5.out W hw).cell 10; have k11 : W.cell? ⟨gp, 11, none⟩ = some (.int .i64 q.ow) := (HP5.out W hw).cell 11; have k12 : W.cell? ⟨gp, 12, none⟩ = some (.int .i64 q.it) := (HP5.out W hw).cell 12; have k13 : W.cell? ⟨gp, 13, none⟩ = some (.int .i64 q.tg) := (HP5.out W hw).cell 13; go_simp⟩) hS ?_
    simp only [Act.put, List.getElem_toArray, List.getElem_cons_succ, List.getElem_cons_zero, List.setIfInBounds_toArray, List.set_cons_zero, List.set_cons_succ]
    refine S_take (i := 2) (v := .bool true) rfl rfl (by kernel_rfl) (by kernel_rfl) (by kernel_rfl) (fun _ _ _ h => h) (Or.inl ⟨by rfl, fun W hw => by go_simp⟩) hS ?_
    simp only [Act.put, List.getElem_toArray, List.getElem_cons_succ, List.getElem_cons_zero, List.setIfInBounds_toArray, List.set_cons_zero, List.set_cons_succ]
    refine L_one (j := 1) (by kernel_rfl) rfl (by rfl) ?_
    simp only [Act.put, List.getElem_toArray, List.getElem_cons_succ, List.getElem_cons_zero, List.setIfInBounds_toArray, List.set_cons_zero, List.set_cons_succ]
    refine wp_called (by go_simp) ((fun W h => HHG.out W (U5.out W h)) _ hS) ?_
    rintro e W1 ⟨rfl, b⟩
    have hS : Below W5.heap.size W5 W1 := hS.trans (b.mono hS.size)
    clear b
    refine ⟨_, rfl, hS, ?_⟩
    simp only [Act.put, List.getElem_toArray, List.getElem_cons_succ, List.getElem_cons_zero, List.setIfInBounds_toArray, List.set_cons_zero, List.set_cons_succ]
    refine S_take (i := 3) (v := .bool false) rfl rfl (by kernel_rfl) (by kernel_rfl) (by kernel_rfl) (fun _ _ _ h => h) (Or.inl ⟨by rfl, fun W hw => by go_simp⟩) hS ?_
    simp only [Act.put, List.getElem_toArray, List.getElem_cons_succ, List.getElem_cons_zero, List.setIfInBounds_toArray, List.set_cons_zero, List.set_cons_succ]
    refine S_take (i := 4) (v := .bool false) rfl rfl (by kernel_rfl) (by kernel_rfl) (by kernel_rfl) (fun _ _ _ h => h) (Or.inl ⟨by rfl, fun W hw => by go_simp⟩) hS ?_
    simp only [Act.put, List.getElem_toArray, List.getElem_cons_succ, List.getElem_cons_zero, List.setIfInBounds_toArray, List.set_cons_zero, List.set_cons_succ]
    refine S_take (i := 5) (v := .agg #[.int .i64 q.id, .int .i64 q.vw.size, .int .i64 q.obj, .int .i64 q.seq, .slice q.S q.sn.length q.cs', .bool q.vw.on, .bool q.vw.good, .slice q.vw.M q.vw.row.length q.vw.cm, .string (strOf q.vw.par), .int .i64 q.vw.ps, .int .i64 q.vw.ov, .int .i64 q.ow, .int .i64 q.it, .int .i64 q.tg]) rfl rfl (by kernel_rfl) (by kernel_rfl) (by kernel_rfl) (fun _ _ _ h => h) (Or.inl ⟨by rfl, fun W hw => by have k0 : W.cell? ⟨gp, 0, none⟩ = some (.int .i64 q.id) := (HP5.out W hw).cell 0; have k1 : W.cell? ⟨gp, 1, none⟩ = some (.int .i64 q.vw.size) := (HP5.out W hw).cell 1; have k2 : W.cell? ⟨gp, 2, none⟩ = some (.int .i64 q.obj) := (HP5.out W hw).cell 2; have k3 : W.cell? ⟨gp, 3, none⟩ = some (.int .i64 q.seq) := (HP5.out W hw).cell 3; have k4 : W.cell? ⟨gp, 4, none⟩ = some (.slice q.S q.sn.length q.cs') := (HP5.out W hw).cell 4; have k5 : W.cell? ⟨gp, 5, none⟩ = some (.bool q.vw.on) := (HP5.out W hw).cell 5; have k6 : W.cell? ⟨gp, 6, none⟩ = some (.bool q.vw.good) := (HP5.out W hw).cell 6; have k7 : W.cell? ⟨gp, 7, none⟩ = some (.slice q.vw.M q.vw.row.length q.vw.cm) := (HP5.out W hw).cell 7; have k8 : W.cell? ⟨gp, 8, none⟩ = some (.string (strOf q.vw.par)) := (HP5.out W hw).cell 8; have k9 : W.cell? ⟨gp, 9, none⟩ = some (.int .i64 q.vw.ps) := (HP5.out W hw).cell 9; have k10 : W.cell? ⟨gp, 10, none⟩ = some (.int .i64 q.vw.ov) := (HP5.out W hw).cell 10; have k11 : W.cell? ⟨gp, 11, none⟩ = some (.int .i64 q.ow) := (HP5.out W hw).cell 11; have k12 : W.cell? ⟨gp, 12, none⟩ = some (.int .i64 q.it) := (HP5.out W hw).cell 12; have k13 : W.cell? ⟨gp, 13, none⟩ = some (.int .i64 q.tg) := (HP5.out W hw).cell 13; go_simp⟩) hS ?_
    simp only [Act.put, List.getElem_toArray, List.getElem_cons_succ, List.getElem_cons_zero, List.setIfInBounds_toArray, List.set_cons_zero, List.set_cons_succ]
    refine S_take (i := 7) (v := .agg #[.int .i64 a.id, .int .i64 a.vw.size, .int .i64 a.obj, .int .i64 a.seq, .slice a.S a.sn.length a.cs', .bool a.vw.on, .bool a.vw.good, .slice a.vw.M a.vw.row.length a.vw.cm, .string (strOf a.vw.par), .int .i64 a.vw.ps, .int .i64 a.vw.ov, .int .i64 a.ow, .int .i64 a.it, .int .i64 a.tg]) rfl rfl (by kernel_rfl) (by kernel_rfl) (by kernel_rfl) (fun _ _ _ h => h) (Or.inl ⟨by rfl, fun W hw => by have k0 : W.cell? ⟨w.heap.size, 0, none⟩ = some (.int .i64 a.id) := (HA5.out W hw).cell 0; have k1 : W.cell? ⟨w.heap.size, 1, none⟩ = some (.int .i64 a.vw.size) := (HA5.out W hw).cell 1; have k2 : W.cell? ⟨w.heap.size, 2, none⟩ = some (.int .i64 a.obj) := (HA5.out W hw).cell 2; have k3 : W.cell? ⟨w.heap.size, 3, none⟩ = some (.int .i64 a.seq) := (HA5.out W hw).cell 3; have k4 : W.cell? ⟨w.heap.size, 4, none⟩ = some (.slice a.S a.sn.length a.cs') := (HA5.out W hw).cell 4; have k5 : W.cell? ⟨w.heap.size, 5, none⟩ = some (.bool a.vw.on) := (HA5.out W hw).cell 5; have k6 : W.cell? ⟨w.heap.size, 6, none⟩ = some (.bool a.vw.good) := (HA5.out W hw).cell 6; have k7 : W.cell? ⟨w.heap.size, 7, none⟩ = some (.slice a.vw.M a.vw.row.length a.vw.cm) := (HA5.out W hw).cell 7; have k8 : W.cell? ⟨w.heap.size, 8, none⟩ = some (.string (strOf a.vw.par)) := (HA5.out W hw).cell 8; have k9 : W.cell? ⟨w.heap.size, 9, none⟩ = some (.int .i64 a.vw.ps) := (HA5.out W hw).cell 9; have k10 : W.cell? ⟨w.heap.size, 10, none⟩ = some (.int .i64 a.vw.ov) := (HA5.out W hw).cell 10; have k11 : W.cell? ⟨w.heap.size, 11, none⟩ = some (.int .i64 a.ow) := (HA5.out W hw).cell 11; have k12 : W.cell? ⟨w.heap.size, 12, none⟩ = some (.int .i64 a.it) := (HA5.out W hw).cell 12; have k13 : W.cell? ⟨w.heap.size, 13, none⟩ = some (.int .i64 a.tg) := (HA5.out W hw).cell 13; go_simp⟩) hS ?_
    simp only [Act.put, List.getElem_toArray, List.getElem_cons_succ, List.getElem_cons_zero, List.setIfInBounds_toArray, List.set_cons_zero, List.set_cons_succ]
    refine L_one (j := 6) (by kernel_rfl) rfl (by rfl) ?_
    simp only [Act.put, List.getElem_toArray, List.getElem_cons_succ, List.getElem_cons_zero, List.setIfInBounds_toArray, List.set_cons_zero, List.set_cons_succ]
    refine wp_called (by go_simp) ((fun W h => HPL.out W (U5.out W h)) _ hS) ?_
    rintro e W6 ⟨d, rfl, ed, hd, b⟩
    have hS : Below W5.heap.size W5 W6 := hS.trans (b.mono hS.size)
    clear b
    have HDC := Lib.hid (fun (W : World) (_h : Below W5.heap.size W5 W) => HDS.out d W6 (U5.out _ hS) ed hd)
    clear hd
    refine ⟨_, rfl, hS, ?_⟩
    simp only [Act.put, List.getElem_toArray, List.getElem_cons_succ, List.getElem_cons_zero, List.setIfInBounds_toArray, List.set_cons_zero, List.set_cons_succ]
    refine L_one (j := 8) (by kernel_rfl) rfl (by rfl) ?_
    simp only [Act.put, List.getElem_toArray, List.getElem_cons_succ, List.getElem_cons_zero, List.setIfInBounds_toArray, List.set_cons_zero, List.set_cons_succ]
    refine wp_called (by go_simp) (HDC.out _ hS) ?_
    rintro e W8 ⟨rfl, b⟩
    have hS : Below W5.heap.size W5 W8 := hS.trans (b.mono hS.size)
    clear b
    refine ⟨_, rfl, hS, ?_⟩
    simp only [Act.put, List.getElem_toArray, List.getElem_cons_succ, List.getElem_cons_zero, List.setIfInBounds_toArray, List.set_cons_zero, List.set_cons_succ]
    refine S_take (i := 9) (v := .bool false) rfl rfl (by kernel_rfl) (by kernel_rfl) (by kernel_rfl) (fun _ _ _ h => h) (Or.inl ⟨by rfl, fun W hw => by go_simp⟩) hS ?_
    simp only [Act.put, List.getElem_toArray, List.getElem_cons_succ, List.getElem_cons_zero, List.setIfInBounds_toArray, List.set_cons_zero, List.set_cons_succ]
    refine S_take (i := 10) (v := .bool false) rfl rfl (by kernel_rfl) (by kernel_rfl) (by kernel_rfl) (fun _ _ _ h => h) (Or.inl ⟨by rfl, fun W hw => by go_simp⟩) hS ?_
    simp only [Act.put, List.getElem_toArray, List.getElem_cons_succ, List.getElem_cons_zero, List.setIfInBounds_toArray, List.set_cons_zero, List.set_cons_succ]
    refine L_done (by kernel_rfl) ?_
    refine NoPanic.normal ?_
    have HU8 := Lib.hid (U5.out _ hS)
    have HO8 := Lib.hid (HO5.out.below hS)
    clear hS
    go_wp2_with fail
    refine (HTA.out (by trivial) A4 c4 _ HU8.out (HO8.out.bytes (HTX.out (by trivial)).2.2.2.1)).mono ?_
    rintro e W10 ⟨x, rfl, ex, hxN, b10⟩
    obtain ⟨w11, hw11⟩ : ∃ w11, w11 = W10.alloc (.cells #[.int .i64 x.id, .int .i64 x.vw.size, .int .i64 x.obj, .int .i64 x.seq, .slice x.S x.sn.length x.cs', .bool x.vw.on, .bool x.vw.good, .slice x.vw.M x.vw.row.length x.vw.cm, .string (strOf x.vw.par), .int .i64 x.vw.ps, .int .i64 x.vw.ov, .int .i64 x.ow, .int .i64 x.it, .int .i64 x.tg] 36) := ⟨_, rfl⟩
    obtain ⟨gx, hgx⟩ : ∃ gx, gx = W10.heap.size := ⟨_, rfl⟩
    have hb11 : Below W10.heap.size W10 w11 := by rw [hw11]; exact below_alloc _ _
    have h811 := b10.trans (hb11.mono b10.size)
    have h911 : Below w9.heap.size w9 w11 := HU8.out.trans (h811.mono HU8.out.size)
    have HE11 : Hid (Below w.heap.size w w11) := Lib.hid (HE9.out.trans (h911.mono HE9.out.size))
    have HX11 : Hid (∀ W, Below w11.heap.size w11 W → Blk W gx 36 #[.int .i64 x.id, .int .i64 x.vw.size, .int .i64 x.obj, .int .i64 x.seq, .slice x.S x.sn.length x.cs', .bool x.vw.on, .bool x.vw.good, .slice x.vw.M x.vw.row.length x.vw.cm, .string (strOf x.vw.par), .int .i64 x.vw.ps, .int .i64 x.vw.ov, .int .i64 x.ow, .int .i64 x.it, .int .i64 x.tg]) := Lib.hid fun W hW => by
      have k8 : Blk w11 gx 36 #[.int .i64 x.id, .int .i64 x.vw.size, .int .i64 x.obj, .int .i64 x.seq, .slice x.S x.sn.length x.cs', .bool x.vw.on, .bool x.vw.good, .slice x.vw.M x.vw.row.length x.vw.cm, .string (strOf x.vw.par), .int .i64 x.vw.ps, .int .i64 x.vw.ov, .int .i64 x.ow, .int .i64 x.it, .int .i64 x.tg] := by rw [hw11, hgx]; exact Blk.new _ _ _
      exact k8.of (hW.block _ k8.lt)
    have HA11 : Hid (∀ W, Below w11.heap.size w11 W → Blk W w.heap.size 29 #[.int .i64 a.id, .int .i64 a.vw.size, .int .i64 a.obj, .int .i64 a.seq, .slice a.S a.sn.length a.cs', .bool a.vw.on, .bool a.vw.good, .slice a.vw.M a.vw.row.length a.vw.cm, .string (strOf a.vw.par), .int .i64 a.vw.ps, .int .i64 a.vw.ov, .int .i64 a.ow, .int .i64 a.it, .int .i64 a.tg]) := Lib.hid fun W hW => HA1.out W (h911.trans (hW.mono h911.size))
    have HP11 : Hid (∀ W, Below w11.heap.size w11 W → Blk W gp 36 #[.int .i64 q.id, .int .i64 q.vw.size, .int .i64 q.obj, .int .i64 q.seq, .slice q.S q.sn.length q.cs', .bool q.vw.on, .bool q.vw.good, .slice q.vw.M q.vw.row.length q.vw.cm, .string (strOf q.vw.par), .int .i64 q.vw.ps, .int .i64 q.vw.ov, .int .i64 q.ow, .int .i64 q.it, .int .i64 q.tg]) := Lib.hid fun W hW => HP1.out W (h911.trans (hW.mono h911.size))
    have U11 : Hid (∀ W, Below w11.heap.size w11 W → Below w9.heap.size w9 W) := Lib.hid fun W hW => h911.trans (hW.mono h911.size)
    have HO11 : Hid (∀ W, Below w11.heap.size w11 W → Own W w9.heap.size (.slice A4 n c4) n tx) := Lib.hid fun W hW => (HO8.out.below h811).below hW
    have HXR : Hid (∀ W, Below w11.heap.size w11 W → x.R SA.cells W) := Lib.hid fun W hW => ((hxN.R).since hb11).since hW
    have HEX := Lib.hid ex
    have HW11 := Lib.hid (And.intro hw11 hgx)
    have hl := (HTX.out (by trivial)).2.2.2.1
    have HLT := Lib.hid hl
    clear ex hxN b10 hb11 h811 h911 hw11 hgx hl HO8 HU8 HA5 HP5 U5 HO5 H5 HO4
    unfold HA.cs
    go_upto_region 13 with (fail)
    rw [← HW11.out.1, ← HW11.out.2]
    clear HW11
    have hS : Below w11.heap.size w11 w11.drew := (Below.refl _ w11).drew
    refine any_beginL (fun W => Below w11.heap.size w11 W) 99 (by kernel_rfl) ?_
    refine S_take (i := 0) (v := .nilIface) rfl rfl (by kernel_rfl) (by kernel_rfl) (by kernel_rfl) (fun _ _ _ h => h) (Or.inl ⟨by rfl, fun W hw => by go_simp⟩) hS ?_
    simp only [Act.put, List.getElem_toArray, List.getElem_cons_succ, List.getElem_cons_zero, List.setIfInBounds_toArray, List.set_cons_zero, List.set_cons_succ]
    refine S_take (i := 1) (v := .bool true) rfl rfl (by kernel_rfl) (by kernel_rfl) (by kernel_rfl) (fun _ _ _ h => h) (Or.inl ⟨by rfl, fun W hw => by go_simp⟩) hS ?_
    simp only [Act.put, List.getElem_toArray, List.getElem_cons_succ, List.getElem_cons_zero, List.setIfInBounds_toArray, List.set_cons_zero, List.set_cons_succ]
    refine S_take (i := 2) (v := .bool true) rfl rfl (by kernel_rfl) (by kernel_rfl) (by kernel_rfl) (fun _ _ _ h => h) (Or.inl ⟨by rfl, fun W hw => by go_simp⟩) hS ?_
    simp only [Act.put, List.getElem_toArray, List.getElem_cons_succ, List.getElem_cons_zero, List.setIfInBounds_toArray, List.set_cons_zero, List.set_cons_succ]
    refine S_take (i := 3) (v := .nilIface) rfl rfl (by kernel_rfl) (by kernel_rfl) (by kernel_rfl) (fun _ _ _ h => h) (Or.inl ⟨by rfl, fun W hw => by go_simp⟩) hS ?_
    simp only [Act.put, List.getElem_toArray, List.getElem_cons_succ, List.getElem_cons_zero, List.setIfInBounds_toArray, List.set_cons_zero, List.set_cons_succ]
    refine S_take (i := 4) (v := .bool true) rfl rfl (by kernel_rfl) (by kernel_rfl) (by kernel_rfl) (fun _ _ _ h => h) (Or.inl ⟨by rfl, fun W hw => by go_simp⟩) hS ?_
    simp only [Act.put, List.getElem_toArray, List.getElem_cons_succ, List.getElem_cons_zero, List.setIfInBounds_toArray, List.set_cons_zero, List.set_cons_succ]
    refine S_take (i := 5) (v := .bool true) rfl rfl (by kernel_rfl) (by kernel_rfl) (by kernel_rfl) (fun _ _ _ h => h) (Or.inl ⟨by rfl, fun W hw => by go_simp⟩) hS ?_
    simp only [Act.put, List.getElem_toArray, List.getElem_cons_succ, List.getElem_cons_zero, List.setIfInBounds_toArray, List.set_cons_zero, List.set_cons_succ]
    refine S_take (i := 6) (v := .bool true) rfl rfl (by kernel_rfl) (by kernel_rfl) (by kernel_rfl) (fun _ _ _ h => h) (Or.inl ⟨by rfl, fun W hw => by go_simp⟩) hS ?_
    simp only [Act.put, List.getElem_toArray, List.getElem_cons_succ, List.getElem_cons_zero, List.setIfInBounds_toArray, List.set_cons_zero, List.set_cons_succ]
    refine S_take (i := 7) (v := .slice A4 n c4) rfl rfl (by kernel_rfl) (by kernel_rfl) (by kernel_rfl) (fun _ _ _ h => h) (Or.inl ⟨by rfl, fun W hw => by go_simp⟩) hS ?_
    simp only [Act.put, List.getElem_toArray, List.getElem_cons_succ, List.getElem_cons_zero, List.setIfInBounds_toArray, List.set_cons_zero, List.set_cons_succ]
    refine S_take (i := 8) (v := .agg #[.int .i64 a.id, .int .i64 a.vw.size, .int .i64 a.obj, .int .i64 a.seq, .slice a.S a.sn.length a.cs', .bool a.vw.on, .bool a.vw.good, .slice a.vw.M a.vw.row.length a.vw.cm, .string (strOf a.vw.par), .int .i64 a.vw.ps, .int .i64 a.vw.ov, .int .i64 a.ow, .int .i64 a.it, .int .i64 a.tg]) rfl rfl (by kernel_rfl) (by kernel_rfl) (by kernel_rfl) (fun _ _ _ h => h) (Or.inl ⟨by rfl, fun W hw => by have k0 : W.cell? ⟨w.heap.size, 0, none⟩ = some (.int .i64 a.id) := (HA11.out W hw).cell 0; have k1 : W.cell? ⟨w.heap.size, 1, none⟩ = some (.int .i64 a.vw.size) := (HA11.out W hw).cell 1; have k2 : W.cell? ⟨w.heap.size, 2, none⟩ = some (.int .i64 a.obj) := (HA11.out W hw).cell 2; have k3 : W.cell? ⟨w.heap.size, 3, none⟩ = some (.int .i64 a.seq) := (HA11.out W hw).cell 3; have k4 : W.cell? ⟨w.heap.size, 4, none⟩ = some (.slice a.S a.sn.length a.cs') := (HA11.out W hw).cell 4; have k5 : W.cell? ⟨w.heap.size, 5, none⟩ = some (.bool a.vw.on) := (HA11.out W hw).cell 5; have k6 : W.cell? ⟨w.heap.size, 6, none⟩ = some (.bool a.vw.good) := (HA11.out W hw).cell 6; have k7 : W.cell? ⟨w.heap.size, 7, none⟩ = some (.slice a.vw.M a.vw.row.length a.vw.cm) := (HA11.out W hw).cell 7; have k8 : W.cell? ⟨w.heap.size, 8, none⟩ = some (.string (strOf a.vw.par)) := (HA11.out W hw).cell 8; have k9 : W.cell? ⟨w.heap.size, 9, none⟩ = some (.int .i64 a.vw.ps) := (HA11.out W hw).cell 9; have k10 : W.cell? ⟨w.heap.size, 10, none⟩ = some (.int .i64 a.vw.ov) := (HA11.out W hw).cell 10; have k11 : W.cell? ⟨w.heap.size, 11, none⟩ = some (.int .i64 a.ow) := (HA11.out W hw).cell 11; have k12 : W.cell? ⟨w.heap.size, 12, none⟩ = some (.int .i64 a.it) := (HA11.out W hw).cell 12; have k13 : W.cell? ⟨w.heap.size, 13, none⟩ = some (.int .i64 a.tg) := (HA11.out W hw).cell 13; go_simp⟩) hS ?_
    simp only [Act.put, List.getElem_toArray, List.getElem_cons_succ, List.getElem_cons_zero, List.setIfInBounds_toArray, List.set_cons_zero, List.set_cons_succ]
    refine L_one (j := 9) (by kernel_rfl) rfl (by rfl) ?_
    simp only [Act.put, List.getElem_toArray, List.getElem_cons_succ, List.getElem_cons_zero, List.setIfInBounds_toArray, List.set_cons_zero, List.set_cons_succ]
    refine wp_called (by go_simp) ((fun W h => HDP.out (by trivial) W (U11.out W h)) _ hS) ?_
    rintro e W9 ⟨A6, c6, rfl, ho6, b⟩
    have hS : Below w11.heap.size w11 W9 := hS.trans (b.mono hS.size)
    clear b
    have HSM : Hid (∀ W, Below w11.heap.size w11 W → Calls Try.prog 18 #[.slice A4 n c4, .slice A6 n c6] W9 fun e w' => e = .returned (.bool true) ∧ Below W9.heap.size W9 w') := Lib.hid fun W _ => (same_any A4 A6 n n c4 c6 _ _ tx tx W9 ((HO11.out _ hS).bytes HLT.out) (ho6.bytes HLT.out)).mono fun e w' ⟨r, h1, h2, h3⟩ => ⟨by rw [h1, h2 rfl], h3 ▸ Below.refl _ _⟩
    clear ho6
    refine ⟨_, rfl, hS, ?_⟩
    simp only [Act.put, List.getElem_toArray, List.getElem_cons_succ, List.getElem_cons_zero, List.setIfInBounds_toArray, List.set_cons_zero, List.set_cons_succ]
    refine L_one (j := 10) (by kernel_rfl) rfl (by rfl) ?_
    simp only [Act.put, List.getElem_toArray, List.getElem_cons_succ, List.getElem_cons_zero, List.setIfInBounds_toArray, List.set_cons_zero, List.set_cons_succ]
    refine wp_called (by go_simp) (HSM.out _ hS) ?_
    rintro e W10 ⟨rfl, b⟩
    have hS : Below w11.heap.size w11 W10 := hS.trans (b.mono hS.size)
    clear b
    refine ⟨_, rfl, hS, ?_⟩
    simp only [Act.put, List.getElem_toArray, List.getElem_cons_succ, List.getElem_cons_zero, List.setIfInBounds_toArray, List.set_cons_zero, List.set_cons_succ]
    refine S_take (i := 11) (v := .bool true) rfl rfl (by kernel_rfl) (by kernel_rfl) (by kernel_rfl) (fun _ _ _ h => h) (Or.inl ⟨by rfl, fun W hw => by go_simp⟩) hS ?_
    simp only [Act.put, List.getElem_toArray, List.getElem_cons_succ, List.getElem_cons_zero, List.setIfInBounds_toArray, List.set_cons_zero, List.set_cons_succ]
    refine S_take (i := 12) (v := .bool true) rfl rfl (by kernel_rfl) (by kernel_rfl) (by kernel_rfl) (fun _ _ _ h => h) (Or.inl ⟨by rfl, fun W hw => by go_simp⟩) hS ?_
    simp only [Act.put, List.getElem_toArray, List.getElem_cons_succ, List.getElem_cons_zero, List.setIfInBounds_toArray, List.set_cons_zero, List.set_cons_succ]
    refine S_take (i := 13) (v := .agg #[.int .i64 x.id, .int .i64 x.vw.size, .int .i64 x.obj, .int .i64 x.seq, .slice x.S x.sn.length x.cs', .bool x.vw.on, .bool x.vw.good, .slice x.vw.M x.vw.row.length x.vw.cm, .string (strOf x.vw.par), .int .i64 x.vw.ps, .int .i64 x.vw.ov, .int .i64 x.ow, .int .i64 x.it, .int .i64 x.tg]) rfl rfl (by kernel_rfl) (by kernel_rfl) (by kernel_rfl) (fun _ _ _ h => h) (Or.inl ⟨by rfl, fun W hw => by have k0 : W.cell? ⟨gx, 0, none⟩ = some (.int .i64 x.id) := (HX11.out W hw).cell 0; have k1 : W.cell? ⟨gx, 1, none⟩ = some (.int .i64 x.vw.size) := (HX11.out W hw).cell 1; have k2 : W.cell? ⟨gx, 2, none⟩ = some (.int .i64 x.obj) := (HX11.out W hw).cell 2; have k3 : W.cell? ⟨gx, 3, none⟩ = some (.int .i64 x.seq) := (HX11.out W hw).cell 3; have k4 : W.cell? ⟨gx, 4, none⟩ = some (.slice x.S x.sn.length x.cs') := (HX11.out W hw).cell 4; have k5 : W.cell? ⟨gx, 5, none⟩ = some (.bool x.vw.on) := (HX11.out W hw).cell 5; have k6 : W.cell? ⟨gx, 6, none⟩ = some (.bool x.vw.good) := (HX11.out W hw).cell 6; have k7 : W.cell? ⟨gx, 7, none⟩ = some (.slice x.vw.M x.vw.row.length x.vw.cm) := (HX11.out W hw).cell 7; have k8 : W.cell? ⟨gx, 8, none⟩ = some (.string (strOf x.vw.par)) := (HX11.out W hw).cell 8; have k9 : W.cell? ⟨gx, 9, none⟩ = some (.int .i64 x.vw.ps) := (HX11.out W hw).cell 9; have k10 : W.cell? ⟨gx, 10, none⟩ = some (.int .i64 x.vw.ov) := (HX11.out W hw).cell 10; have k11 : W.cell? ⟨gx, 11, none⟩ = some (.int .i64 x.ow) := (HX11.out W hw).cell 11; have k12 : W.cell? ⟨gx, 12, none⟩ = some (.int .i64 x.it) := (HX11.out W hw).cell 12; have k13 : W.cell? ⟨gx, 13, none⟩ = some (.int .i64 x.tg) := (HX11.out W hw).cell 13; go_simp⟩) hS ?_
    simp only [Act.put, List.getElem_toArray, List.getElem_cons_succ, List.getElem_cons_zero, List.setIfInBounds_toArray, List.set_cons_zero, List.set_cons_succ]
    refine S_take (i := 15) (v := .agg #[.int .i64 a.id, .int .i64 a.vw.size, .int .i64 a.obj, .int .i64 a.seq, .slice a.S a.sn.length a.cs', .bool a.vw.on, .bool a.vw.good, .slice a.vw.M a.vw.row.length a.vw.cm, .string (strOf a.vw.par), .int .i64 a.vw.ps, .int .i64 a.vw.ov, .int .i64 a.ow, .int .i64 a.it, .int .i64 a.tg]) rfl rfl (by kernel_rfl) (by kernel_rfl) (by kernel_rfl) (fun _ _ _ h => h) (Or.inl ⟨by rfl, fun W hw => by have k0 : W.cell? ⟨w.heap.size, 0, none⟩ = some (.int .i64 a.id) := (HA11.out W hw).cell 0; have k1 : W.cell? ⟨w.heap.size, 1, none⟩ = some (.int .i64 a.vw.size) := (HA11.out W hw).cell 1; have k2 : W.cell? ⟨w.heap.size, 2, none⟩ = some (.int .i64 a.obj) := (HA11.out W hw).cell 2; have k3 : W.cell? ⟨w.heap.size, 3, none⟩ = some (.int .i64 a.seq) := (HA11.out W hw).cell 3; have k4 : W.cell? ⟨w.heap.size, 4, none⟩ = some (.slice a.S a.sn.length a.cs') := (HA11.out W hw).cell 4; have k5 : W.cell? ⟨w.heap.size, 5, none⟩ = some (.bool a.vw.on) := (HA11.out W hw).cell 5; have k6 : W.cell? ⟨w.heap.size, 6, none⟩ = some (.bool a.vw.good) := (HA11.out W hw).cell 6; have k7 : W.cell? ⟨w.heap.size, 7, none⟩ = some (.slice a.vw.M a.vw.row.length a.vw.cm) := (HA11.out W hw).cell 7; have k8 : W.cell? ⟨w.heap.size, 8, none⟩ = some (.string (strOf a.vw.par)) := (HA11.out W hw).cell 8; have k9 : W.cell? ⟨w.heap.size, 9, none⟩ = some (.int .i64 a.vw.ps) := (HA11.out W hw).cell 9; have k10 : W.cell? ⟨w.heap.size, 10, none⟩ = some (.int .i64 a.vw.ov) := (HA11.out W hw).cell 10; have k11 : W.cell? ⟨w.heap.size, 11, none⟩ = some (.int .i64 a.ow) := (HA11.out W hw).cell 11; have k12 : W.cell? ⟨w.heap.size, 12, none⟩ = some (.int .i64 a.it) := (HA11.out W hw).cell 12; have k13 : W.cell? ⟨w.heap.size, 13, none⟩ = some (.int .i64 a.tg) := (HA11.out W hw).cell 13; go_simp⟩) hS ?_
    simp only [Act.put, List.getElem_toArray, List.getElem_cons_succ, List.getElem_cons_zero, List.setIfInBounds_toArray, List.set_cons_zero, List.set_cons_succ]
    refine L_one (j := 14) (by kernel_rfl) rfl (by rfl) ?_
    simp only [Act.put, List.getElem_toArray, List.getElem_cons_succ, List.getElem_cons_zero, List.setIfInBounds_toArray, List.set_cons_zero, List.set_cons_succ]
    refine wp_called (by go_simp) ((fun W h => HXP.out x W (U11.out W h) HEX.out (HXR.out W h)) _ hS) ?_
    rintro e W14 ⟨d2, rfl, ed2, hd2, b⟩
    have hS : Below w11.heap.size w11 W14 := hS.trans (b.mono hS.size)
    clear b
    have HDD := Lib.hid (fun (W : World) (_h : Below w11.heap.size w11 W) => HDS.out d2 W14 (U11.out _ hS) ed2 hd2)
    clear hd2
    refine ⟨_, rfl, hS, ?_⟩
    simp only [Act.put, List.getElem_toArray, List.getElem_cons_succ, List.getElem_cons_zero, List.setIfInBounds_toArray, List.set_cons_zero, List.set_cons_succ]
    refine L_one (j := 16) (by kernel_rfl) rfl (by rfl) ?_
    simp only [Act.put, List.getElem_toArray, List.getElem_cons_succ, List.getElem_cons_zero, List.setIfInBounds_toArray, List.set_cons_zero, List.set_cons_succ]
    refine wp_called (by go_simp) (HDD.out _ hS) ?_
    rintro e W16 ⟨rfl, b⟩
    have hS : Below w11.heap.size w11 W16 := hS.trans (b.mono hS.size)
    clear b
    refine ⟨_, rfl, hS, ?_⟩
    simp only [Act.put, List.getElem_toArray, List.getElem_cons_succ, List.getElem_cons_zero, List.setIfInBounds_toArray, List.set_cons_zero, List.set_cons_succ]
    refine S_take (i := 17) (v := .bool true) rfl rfl (by kernel_rfl) (by kernel_rfl) (by kernel_rfl) (fun _ _ _ h => h) (Or.inl ⟨by rfl, fun W hw => by go_simp⟩) hS ?_
    simp only [Act.put, List.getElem_toArray, List.getElem_cons_succ, List.getElem_cons_zero, List.setIfInBounds_toArray, List.set_cons_zero, List.set_cons_succ]
    refine S_take (i := 18) (v := .bool true) rfl rfl (by kernel_rfl) (by kernel_rfl) (by kernel_rfl) (fun _ _ _ h => h) (Or.inl ⟨by rfl, fun W hw => by go_simp⟩) hS ?_
    simp only [Act.put, List.getElem_toArray, List.getElem_cons_succ, List.getElem_cons_zero, List.setIfInBounds_toArray, List.set_cons_zero, List.set_cons_succ]
    refine S_take (i := 19) (v := .agg #[.int .i64 x.id, .int .i64 x.vw.size, .int .i64 x.obj, .int .i64 x.seq, .slice x.S x.sn.length x.cs', .bool x.vw.on, .bool x.vw.good, .slice x.vw.M x.vw.row.length x.vw.cm, .string (strOf x.vw.par), .int .i64 x.vw.ps, .int .i64 x.vw.ov, .int .i64 x.ow, .int .i64 x.it, .int .i64 x.tg]) rfl rfl (by kernel_rfl) (by kernel_rfl) (by kernel_rfl) (fun _ _ _ h => h) (Or.inl ⟨by rfl, fun W hw => by have k0 : W.cell? ⟨gx, 0, none⟩ = some (.int .i64 x.id) := (HX11.out W hw).cell 0; have k1 : W.cell? ⟨gx, 1, none⟩ = some (.int .i64 x.vw.size) := (HX11.out W hw).cell 1; have k2 : W.cell? ⟨gx, 2, none⟩ = some (.int .i64 x.obj) := (HX11.out W hw).cell 2; have k3 : W.cell? ⟨gx, 3, none⟩ = some (.int .i64 x.seq) := (HX11.out W hw).cell 3; have k4 : W.cell? ⟨gx, 4, none⟩ = some (.slice x.S x.sn.length x.cs') := (HX11.out W hw).cell 4; have k5 : W.cell? ⟨gx, 5, none⟩ = some (.bool x.vw.on) := (HX11.out W hw).cell 5; have k6 : W.cell? ⟨gx, 6, none⟩ = some (.bool x.vw.good) := (HX11.out W hw).cell 6; have k7 : W.cell? ⟨gx, 7, none⟩ = some (.slice x.vw.M x.vw.row.length x.vw.cm) := (HX11.out W hw).cell 7; have k8 : W.cell? ⟨gx, 8, none⟩ = some (.string (strOf x.vw.par)) := (HX11.out W hw).cell 8; have k9 : W.cell? ⟨gx, 9, none⟩ = some (.int .i64 x.vw.ps) := (HX11.out W hw).cell 9; have k10 : W.cell? ⟨gx, 10, none⟩ = some (.int .i64 x.vw.ov) := (HX11.out W hw).cell 10; have k11 : W.cell? ⟨gx, 11, none⟩ = some (.int .i64 x.ow) := (HX11.out W hw).cell 11; have k12 : W.cell? ⟨gx, 12, none⟩ = some (.int .i64 x.it) := (HX11.out W hw).cell 12; have k13 : W.cell? ⟨gx, 13, none⟩ = some (.int .i64 x.tg) := (HX11.out W hw).cell 13; go_simp⟩) hS ?_
    simp only [Act.put, List.getElem_toArray, List.getElem_cons_succ, List.getElem_cons_zero, List.setIfInBounds_toArray, List.set_cons_zero, List.set_cons_succ]
    refine S_take (i := 20) (v := .agg #[.int .i64 q.id, .int .i64 q.vw.size, .int .i64 q.obj, .int .i64 q.seq, .slice q.S q.sn.length q.cs', .bool q.vw.on, .bool q.vw.good, .slice q.vw.M q.vw.row.length q.vw.cm, .string (strOf q.vw.par), .int .i64 q.vw.ps, .int .i64 q.vw.ov, .int .i64 q.ow, .int .i64 q.it, .int .i64 q.tg]) rfl rfl (by kernel_rfl) (by kernel_rfl) (by kernel_rfl) (fun _ _ _ h => h) (Or.inl ⟨by rfl, fun W hw => by have k0 : W.cell? ⟨gp, 0, none⟩ = some (.int .i64 q.id) := (HP11.out W hw).cell 0; have k1 : W.cell? ⟨gp, 1, none⟩ = some (.int .i64 q.vw.size) := (HP11.out W hw).cell 1; have k2 : W.cell? ⟨gp, 2, none⟩ = some (.int .i64 q.obj) := (HP11.out W hw).cell 2; have k3 : W.cell? ⟨gp, 3, none⟩ = some (.int .i64 q.seq) := (HP11.out W hw).cell 3; have k4 : W.cell? ⟨gp, 4, none⟩ = some (.slice q.S q.sn.length q.cs') := (HP11.out W hw).cell 4; have k5 : W.cell? ⟨gp, 5, none⟩ = some (.bool q.vw.on) := (HP11.out W hw).cell 5; have k6 : W.cell? ⟨gp, 6, none⟩ = some (.bool q.vw.good) := (HP11.out W hw).cell 6; have k7 : W.cell? ⟨gp, 7, none⟩ = some (.slice q.vw.M q.vw.row.length q.vw.cm) := (HP11.out W hw).cell 7; have k8 : W.cell? ⟨gp, 8, none⟩ = some (.string (strOf q.vw.par)) := (HP11.out W hw).cell 8; have k9 : W.cell? ⟨gp, 9, none⟩ = some (.int .i64 q.vw.ps) := (HP11.out W hw).cell 9; have k10 : W.cell? ⟨gp, 10, none⟩ = some (.int .i64 q.vw.ov) := (HP11.out W hw).cell 10; have k11 : W.cell? ⟨gp, 11, none⟩ = some (.int .i64 q.ow) := (HP11.out W hw).cell 11; have k12 : W.cell? ⟨gp, 12, none⟩ = some (.int .i64 q.it) := (HP11.out W hw).cell 12; have k13 : W.cell? ⟨gp, 13, none⟩ = some (.int .i64 q.tg) := (HP11.out W hw).cell 13; go_simp⟩) hS ?_
    simp only [Act.put, List.getElem_toArray, List.getElem_cons_succ, List.getElem_cons_zero, List.setIfInBounds_toArray, List.set_cons_zero, List.set_cons_succ]
    refine L_one (j := 21) (by kernel_rfl) rfl (by rfl) ?_
    simp only [Act.put, List.getElem_toArray, List.getElem_cons_succ, List.getElem_cons_zero, List.setIfInBounds_toArray, List.set_cons_zero, List.set_cons_succ]
    refine wp_called (by go_simp) ((fun W h => HXS.out x W (U11.out W h) HEX.out (HXR.out W h)) _ hS) ?_
    rintro e W21 ⟨rfl, b⟩
    have hS : Below w11.heap.size w11 W21 := hS.trans (b.mono hS.size)
    clear b
    refine ⟨_, rfl, hS, ?_⟩
    simp only [Act.put, List.getElem_toArray, List.getElem_cons_succ, List.getElem_cons_zero, List.setIfInBounds_toArray, List.set_cons_zero, List.set_cons_succ]
    refine S_take (i := 22) (v := .bool true) rfl rfl (by kernel_rfl) (by kernel_rfl) (by kernel_rfl) (fun _ _ _ h => h) (Or.inl ⟨by rfl, fun W hw => by go_simp⟩) hS ?_
    simp only [Act.put, List.getElem_toArray, List.getElem_cons_succ, List.getElem_cons_zero, List.setIfInBounds_toArray, List.set_cons_zero, List.set_cons_succ]
    refine S_take (i := 23) (v := .bool true) rfl rfl (by kernel_rfl) (by kernel_rfl) (by kernel_rfl) (fun _ _ _ h => h) (Or.inl ⟨by rfl, fun W hw => by go_simp⟩) hS ?_
    simp only [Act.put, List.getElem_toArray, List.getElem_cons_succ, List.getElem_cons_zero, List.setIfInBounds_toArray, List.set_cons_zero, List.set_cons_succ]
    refine L_done (by kernel_rfl) ?_
    refine NoPanic.normal ?_
    have HS13 := Lib.hid (HE11.out.trans (hS.mono HE11.out.size))
    clear hS
    try go_wp2
    go_ret
    exact ⟨rfl, HS13.out⟩
  · have K4 := HA1.out _ H4.out
    clear b4
    go_wp2_with (have _h := K4; refine wpList_loadq rfl 29 (.tmp 1) rfl (w.heap.size) [.int .i64 a.id, .int .i64 a.vw.size, .int .i64 a.obj, .int .i64 a.seq, .slice a.S a.sn.length a.cs', .bool a.vw.on, .bool a.vw.good, .slice a.vw.M a.vw.row.length a.vw.cm, .string (strOf a.vw.par), .int .i64 a.vw.ps, .int .i64 a.vw.ov, .int .i64 a.ow, .int .i64 a.it, .int .i64 a.tg] _ rfl K4 Try.underlying29 rfl (by kernel_rfl) ?_; clear _h K4)
    refine (HDG.out _ H4.out).mono ?_
    rintro e W5 ⟨rfl, b5⟩
    have H5 := Lib.hid (H4.out.trans (b5.mono H4.out.size))
    clear b5
    have HA5 : Hid (∀ W, Below W5.heap.size W5 W → Blk W w.heap.size 29 #[.int .i64 a.id, .int .i64 a.vw.size, .int .i64 a.obj, .int .i64 a.seq, .slice a.S a.sn.length a.cs', .bool a.vw.on, .bool a.vw.good, .slice a.vw.M a.vw.row.length a.vw.cm, .string (strOf a.vw.par), .int .i64 a.vw.ps, .int .i64 a.vw.ov, .int .i64 a.ow, .int .i64 a.it, .int .i64 a.tg]) := Lib.hid fun W hW => HA1.out W (H5.out.trans (hW.mono H5.out.size))
    have HP5 : Hid (∀ W, Below W5.heap.size W5 W → Blk W gp 36 #[.int .i64 q.id, .int .i64 q.vw.size, .int .i64 q.obj, .int .i64 q.seq, .slice q.S q.sn.length q.cs', .bool q.vw.on, .bool q.vw.good, .slice q.vw.M q.vw.row.length q.vw.cm, .string (strOf q.vw.par), .int .i64 q.vw.ps, .int .i64 q.vw.ov, .int .i64 q.ow, .int .i64 q.it, .int .i64 q.tg]) := Lib.hid fun W hW => HP1.out W (H5.out.trans (hW.mono H5.out.size))
    have U5 : Hid (∀ W, Below W5.heap.size W5 W → Below w9.heap.size w9 W) := Lib.hid fun W hW => H5.out.trans (hW.mono H5.out.size)
    go_upto_region 8 with (fail)
    have hS : Below W5.heap.size W5 W5.drew := (Below.refl _ W5).drew
    refine any_beginL (fun W => Below W5.heap.size W5 W) 99 (by kernel_rfl) ?_
    refine S_take (i := 0) (v := .agg #[.int .i64 q.id, .int .i64 q.vw.size, .int .i64 q.obj, .int .i64 q.seq, .slice q.S q.sn.length q.cs', .bool q.vw.on, .bool q.vw.good, .slice q.vw.M q.vw.row.length q.vw.cm, .string (strOf q.vw.par), .int .i64 q.vw.ps, .int .i64 q.vw.ov, .int .i64 q.ow, .int .i64 q.it, .int .i64 q.tg]) rfl rfl (by kernel_rfl) (by kernel_rfl) (by kernel_rfl) (fun _ _ _ h => h) (Or.inl ⟨by rfl, fun W hw => by have k0 : W.cell? ⟨gp, 0, none⟩ = some (.int .i64 q.id) := (HP5.out W hw).cell 0; have k1 : W.cell? ⟨gp, 1, none⟩ = some (.int .i64 q.vw.size) := (HP5.out W hw).cell 1; have k2 : W.cell? ⟨gp, 2, none⟩ = some (.int .i64 q.obj) := (HP5.out W hw).cell 2; have k3 : W.cell? ⟨gp, 3, none⟩ = some (.int .i64 q.seq) := (HP5.out W hw).cell 3; have k4 : W.cell? ⟨gp, 4, none⟩ = some (.slice q.S q.sn.length q.cs') := (HP5.out W hw).cell 4; have k5 : W.cell? ⟨gp, 5, none⟩ = some (.bool q.vw.on) := (HP5.out W hw).cell 5; have k6 : W.cell? ⟨gp, 6, none⟩ = some (.bool q.vw.good) := (HP5.out W hw).cell 6; have k7 : W.cell? ⟨gp, 7, none⟩ = some (.slice q.vw.M q.vw.row.length q.vw.cm) := (HP5.out W hw).cell 7; have k8 : W.cell? ⟨gp, 8, none⟩ = some (.string (strOf q.vw.par)) := (HP5.out W hw).cell 8; have k9 : W.cell? ⟨gp, 9, none⟩ = some (.int .i64 q.vw.ps) := (HP5.out W hw).cell 9; have k10 : W.cell? ⟨gp, 10, none⟩ = some (.int .i64 q.vw.ov) := (HP5.out W hw).cell 10; have k11 : W.cell? ⟨gp, 11, none⟩ = some (.int .i64 q.ow) := (HP5.out W hw).cell 11; have k12 : W.cell? ⟨gp, 12, none⟩ = some (.int .i64 q.it) := (HP5.out W hw).cell 12; have k13 : W.cell? ⟨gp, 13, none⟩ = some (.int .i64 q.tg) := (HP5.out W hw).cell 13; go_simp⟩) hS ?_
    simp only [Act.put, List.getElem_toArray, List.getElem_cons_succ, List.getElem_cons_zero, List.setIfInBounds_toArray, List.set_cons_zero, List.set_cons_succ]
    refine S_take (i := 2) (v := .bool false) rfl rfl (by kernel_rfl) (by kernel_rfl) (by kernel_rfl) (fun _ _ _ h => h) (Or.inl ⟨by rfl, fun W hw => by go_simp⟩) hS ?_
    simp only [Act.put, List.getElem_toArray, List.getElem_cons_succ, List.getElem_cons_zero, List.setIfInBounds_toArray, List.set_cons_zero, List.set_cons_succ]
    refine L_one (j := 1) (by kernel_rfl) rfl (by rfl) ?_
    simp only [Act.put, List.getElem_toArray, List.getElem_cons_succ, List.getElem_cons_zero, List.setIfInBounds_toArray, List.set_cons_zero, List.set_cons_succ]
    refine wp_called (by go_simp) ((fun W h => HHG.out W (U5.out W h)) _ hS) ?_
    rintro e W1 ⟨rfl, b⟩
    have hS : Below W5.heap.size W5 W1 := hS.trans (b.mono hS.size)
    clear b
    refine ⟨_, rfl, hS, ?_⟩
    simp only [Act.put, List.getElem_toArray, List.getElem_cons_succ, List.getElem_cons_zero, List.setIfInBounds_toArray, List.set_cons_zero, List.set_cons_succ]
    refine S_take (i := 3) (v := .bool false) rfl rfl (by kernel_rfl) (by kernel_rfl) (by kernel_rfl) (fun _ _ _ h => h) (Or.inl ⟨by rfl, fun W hw => by go_simp⟩) hS ?_
    simp only [Act.put, List.getElem_toArray, List.getElem_cons_succ, List.getElem_cons_zero, List.setIfInBounds_toArray, List.set_cons_zero, List.set_cons_succ]
    refine S_take (i := 4) (v := .bool false) rfl rfl (by kernel_rfl) (by kernel_rfl) (by kernel_rfl) (fun _ _ _ h => h) (Or.inl ⟨by rfl, fun W hw => by go_simp⟩) hS ?_
    simp only [Act.put, List.getElem_toArray, List.getElem_cons_succ, List.getElem_cons_zero, List.setIfInBounds_toArray, List.set_cons_zero, List.set_cons_succ]
    refine S_take (i := 5) (v := .agg #[.int .i64 q.id, .int .i64 q.vw.size, .int .i64 q.obj, .int .i64 q.seq, .slice q.S q.sn.length q.cs', .bool q.vw.on, .bool q.vw.good, .slice q.vw.M q.vw.row.length q.vw.cm, .string (strOf q.vw.par), .int .i64 q.vw.ps, .int .i64 q.vw.ov, .int .i64 q.ow, .int .i64 q.it, .int .i64 q.tg]) rfl rfl (by kernel_rfl) (by kernel_rfl) (by kernel_rfl) (fun _ _ _ h => h) (Or.inl ⟨by rfl, fun W hw => by have k0 : W.cell? ⟨gp, 0, none⟩ = some (.int .i64 q.id) := (HP5.out W hw).cell 0; have k1 : W.cell? ⟨gp, 1, none⟩ = some (.int .i64 q.vw.size) := (HP5.out W hw).cell 1; have k2 : W.cell? ⟨gp, 2, none⟩ = some (.int .i64 q.obj) := (HP5.out W hw).cell 2; have k3 : W.cell? ⟨gp, 3, none⟩ = some (.int .i64 q.seq) := (HP5.out W hw).cell 3; have k4 : W.cell? ⟨gp, 4, none⟩ = some (.slice q.S q.sn.length q.cs') := (HP5.out W hw).cell 4; have k5 : W.cell? ⟨gp, 5, none⟩ = some (.bool q.vw.on) := (HP5.out W hw).cell 5; have k6 : W.cell? ⟨gp, 6, none⟩ = some (.bool q.vw.good) := (HP5.out W hw).cell 6; have k7 : W.cell? ⟨gp, 7, none⟩ = some (.slice q.vw.M q.vw.row.length q.vw.cm) := (HP5.out W hw).cell 7; have k8 : W.cell? ⟨gp, 8, none⟩ = some (.string (strOf q.vw.par)) := (HP5.out W hw).cell 8; have k9 : W.cell? ⟨gp, 9, none⟩ = some (.int .i64 q.vw.ps) := (HP5.out W hw).cell 9; have k10 : W.cell? ⟨gp, 10, none⟩ = some (.int .i64 q.vw.ov) := (HP5.out W hw).cell 10; have k11 : W.cell? ⟨gp, 11, none⟩ = some (.int .i64 q.ow) := (HP5.out W hw).cell 11; have k12 : W.cell? ⟨gp, 12, none⟩ = some (.int .i64 q.it) := (HP5.out W hw).cell 12; have k13 : W.cell? ⟨gp, 13, none⟩ = some (.int .i64 q.tg) := (HP5.out W hw).cell 13; go_simp⟩) hS ?_
    simp only [Act.put, List.getElem_toArray, List.getElem_cons_succ, List.getElem_cons_zero, List.setIfInBounds_toArray, List.set_cons_zero, List.set_cons_succ]
    refine S_take (i := 7) (v := .agg #[.int .i64 a.id, .int .i64 a.vw.size, .int .i64 a.obj, .int .i64 a.seq, .slice a.S a.sn.length a.cs', .bool a.vw.on, .bool a.vw.good, .slice a.vw.M a.vw.row.length a.vw.cm, .string (strOf a.vw.par), .int .i64 a.vw.ps, .int .i64 a.vw.ov, .int .i64 a.ow, .int .i64 a.it, .int .i64 a.tg]) rfl rfl (by kernel_rfl) (by kernel_rfl) (by kernel_rfl) (fun _ _ _ h => h) (Or.inl ⟨by rfl, fun W hw => by have k0 : W.cell? ⟨w.heap.size, 0, none⟩ = some (.int .i64 a.id) := (HA5.out W hw).cell 0; have k1 : W.cell? ⟨w.heap.size, 1, none⟩ = some (.int .i64 a.vw.size) := (HA5.out W hw).cell 1; have k2 : W.cell? ⟨w.heap.size, 2, none⟩ = some (.int .i64 a.obj) := (HA5.out W hw).cell 2; have k3 : W.cell? ⟨w.heap.size, 3, none⟩ = some (.int .i64 a.seq) := (HA5.out W hw).cell 3; have k4 : W.cell? ⟨w.heap.size, 4, none⟩ = some (.slice a.S a.sn.length a.cs') := (HA5.out W hw).cell 4; have k5 : W.cell? ⟨w.heap.size, 5, none⟩ = some (.bool a.vw.on) := (HA5.out W hw).cell 5; have k6 : W.cell? ⟨w.heap.size, 6, none⟩ = some (.bool a.vw.good) := (HA5.out W hw).cell 6; have k7 : W.cell? ⟨w.heap.size, 7, none⟩ = some (.slice a.vw.M a.vw.row.length a.vw.cm) := (HA5.out W hw).cell 7; have k8 : W.cell? ⟨w.heap.size, 8, none⟩ = some (.string (strOf a.vw.par)) := (HA5.out W hw).cell 8; have k9 : W.cell? ⟨w.heap.size, 9, none⟩ = some (.int .i64 a.vw.ps) := (HA5.out W hw).cell 9; have k10 : W.cell? ⟨w.heap.size, 10, none⟩ = some (.int .i64 a.vw.ov) := (HA5.out W hw).cell 10; have k11 : W.cell? ⟨w.heap.size, 11, none⟩ = some (.int .i64 a.ow) := (HA5.out W hw).cell 11; have k12 : W.cell? ⟨w.heap.size, 12, none⟩ = some (.int .i64 a.it) := (HA5.out W hw).cell 12; have k13 : W.cell? ⟨w.heap.size, 13, none⟩ = some (.int .i64 a.tg) := (HA5.out W hw).cell 13; go_simp⟩) hS ?_
    simp only [Act.put, List.getElem_toArray, List.getElem_cons_succ, List.getElem_cons_zero, List.setIfInBounds_toArray, List.set_cons_zero, List.set_cons_succ]
    refine L_one (j := 6) (by kernel_rfl) rfl (by rfl) ?_
    simp only [Act.put, List.getElem_toArray, List.getElem_cons_succ, List.getElem_cons_zero, List.setIfInBounds_toArray, List.set_cons_zero, List.set_cons_succ]
    refine wp_called (by go_simp) ((fun W h => HPL.out W (U5.out W h)) _ hS) ?_
    rintro e W6 ⟨d, rfl, ed, hd, b⟩
    have hS : Below W5.heap.size W5 W6 := hS.trans (b.mono hS.size)
    clear b
    have HDC := Lib.hid (fun (W : World) (_h : Below W5.heap.size W5 W) => HDS.out d W6 (U5.out _ hS) ed hd)
    clear hd
    refine ⟨_, rfl, hS, ?_⟩
    simp only [Act.put, List.getElem_toArray, List.getElem_cons_succ, List.getElem_cons_zero, List.setIfInBounds_toArray, List.set_cons_zero, List.set_cons_succ]
    refine L_one (j := 8) (by kernel_rfl) rfl (by rfl) ?_
    simp only [Act.put, List.getElem_toArray, List.getElem_cons_succ, List.getElem_cons_zero, List.setIfInBounds_toArray, List.set_cons_zero, List.set_cons_succ]
    refine wp_called (by go_simp) (HDC.out _ hS) ?_
    rintro e W8 ⟨rfl, b⟩
    have hS : Below W5.heap.size W5 W8 := hS.trans (b.mono hS.size)
    clear b
    refine ⟨_, rfl, hS, ?_⟩
    simp only [Act.put, List.getElem_toArray, List.getElem_cons_succ, List.getElem_cons_zero, List.setIfInBounds_toArray, List.set_cons_zero, List.set_cons_succ]
    refine S_take (i := 9) (v := .bool false) rfl rfl (by kernel_rfl) (by kernel_rfl) (by kernel_rfl) (fun _ _ _ h => h) (Or.inl ⟨by rfl, fun W hw => by go_simp⟩) hS ?_
    simp only [Act.put, List.getElem_toArray, List.getElem_cons_succ, List.getElem_cons_zero, List.setIfInBounds_toArray, List.set_cons_zero, List.set_cons_succ]
    refine S_take (i := 10) (v := .bool false) rfl rfl (by kernel_rfl) (by kernel_rfl) (by kernel_rfl) (fun _ _ _ h => h) (Or.inl ⟨by rfl, fun W hw => by go_simp⟩) hS ?_
    simp only [Act.put, List.getElem_toArray, List.getElem_cons_succ, List.getElem_cons_zero, List.setIfInBounds_toArray, List.set_cons_zero, List.set_cons_succ]
    refine L_done (by kernel_rfl) ?_
    refine NoPanic.normal ?_
    have HS8 := Lib.hid (HE9.out.trans ((U5.out _ hS).mono HE9.out.size))
    clear hS
    have HIS := Lib.hid (fun W => is_any 2 2 W)
    go_wp2_with fail
    refine (HIS.out _).mono ?_
    rintro e W9 ⟨rfl, rfl⟩
    go_wp2
    go_ret
    exact ⟨rfl, HS8.out⟩
end Go.Proofs.Ytgddenhnpjoabaa
