/-
  The walk of RulesGuard: for every head and script that read as they are said to. No condition beyond that.
-/
import Derived.Test.YtiimanoloedbeaaYzxC
namespace Go.Proofs.Ytiimanoloedbeaa
open Go.RowKit Go.BigFrame
set_option linter.unusedSimpArgs false
set_option linter.unusedVariables false
set_option maxRecDepth 100000
set_option maxHeartbeats 64000000 in
theorem rulesGuard_walk (a : HA) (w : World) (hR : a.R SA.dcells w) (A0 : Option Addr) (c : Nat) (l : List CA) (hlc : l.length ≤ c) (hcm : c ≤ 9223372036854775807) (hr : Reads w w.heap.size 8 A0 l.length (l.flatMap CA.cells)) (hxs : ∀ x ∈ l, x.R w) :
    Calls Try.prog 6 #[.agg a.cs, .slice A0 l.length c] w fun e w' => e = .returned (.bool true) ∧ Below w.heap.size w w' := by
  obtain ⟨w0, hw0⟩ : ∃ w0, w0 = w.alloc (.cells a.cs 29) := ⟨_, rfl⟩
  have b0 : Below w.heap.size w w0 := by rw [hw0]; exact below_alloc w _
  have B0 := Lib.hid b0
  have HB1 : Hid (∀ W, Below w0.heap.size w0 W → Blk W w.heap.size 29 #[.int .i64 a.id, .int .i64 a.vw.size, .int .i64 a.obj, .int .i64 a.seq, .slice a.S a.sn.length a.cs', .bool a.vw.on, .bool a.vw.good, .slice a.vw.M a.vw.row.length a.vw.cm, .string (strOf a.vw.par), .int .i64 a.vw.ps, .int .i64 a.vw.ov, .int .i64 a.ow, .int .i64 a.it, .int .i64 a.tg]) := Lib.hid fun W hW => by
    have k8 : Blk w0 w.heap.size 29 a.cs := by rw [hw0]; exact Blk.new w _ _
    exact k8.of (hW.block _ k8.lt)
  have HLG : Hid (∀ W, Below w0.heap.size w0 W → Calls Try.prog 26 #[.agg #[.int .i64 a.id, .int .i64 a.vw.size, .int .i64 a.obj, .int .i64 a.seq, .slice a.S a.sn.length a.cs', .bool a.vw.on, .bool a.vw.good, .slice a.vw.M a.vw.row.length a.vw.cm, .string (strOf a.vw.par), .int .i64 a.vw.ps, .int .i64 a.vw.ov, .int .i64 a.ow, .int .i64 a.it, .int .i64 a.tg]] W (LargeTo W a)) := Lib.hid fun W hW => rlarge_any a W ((hR.since b0).since hW)
  have HPR : Hid (∀ W, Below w0.heap.size w0 W → a.Lm → Calls Try.prog 27 #[.agg #[.int .i64 a.id, .int .i64 a.vw.size, .int .i64 a.obj, .int .i64 a.seq, .slice a.S a.sn.length a.cs', .bool a.vw.on, .bool a.vw.good, .slice a.vw.M a.vw.row.length a.vw.cm, .string (strOf a.vw.par), .int .i64 a.vw.ps, .int .i64 a.vw.ov, .int .i64 a.ow, .int .i64 a.it, .int .i64 a.tg]] W (ProgTo W a)) := Lib.hid fun W hW hl => rprogram_any a W ((hR.since b0).since hW) hl
  obtain ⟨n, hn⟩ : ∃ n, n = l.length := ⟨_, rfl⟩
  rw [← hn] at hlc hr ⊢
  have HL : Hid (n = l.length ∧ n ≤ c ∧ c ≤ 9223372036854775807 ∧ Reads w w.heap.size 8 A0 n (l.flatMap CA.cells) ∧ ∀ x ∈ l, x.R w) := Lib.hid ⟨hn, hlc, hcm, hr, hxs⟩
  have HW0 := Lib.hid hw0
  have hz := head_zero
  clear hR b0 hw0 hn hlc hcm hr hxs
  unfold HA.cs at *
  go_enter Try.func6, Try.ntmps6
  go_wp2_with fail
  rw [← HW0.out]
  clear HW0
  refine (ralive_any w0).mono ?_
  rintro e W1 ⟨rfl, b1⟩
  have K1 := HB1.out _ b1
  have H1 := Lib.hid b1
  clear b1
  go_wp2_with (have _h := K1; refine wpList_loadq rfl 29 (.tmp 2) rfl (w.heap.size) [.int .i64 a.id, .int .i64 a.vw.size, .int .i64 a.obj, .int .i64 a.seq, .slice a.S a.sn.length a.cs', .bool a.vw.on, .bool a.vw.good, .slice a.vw.M a.vw.row.length a.vw.cm, .string (strOf a.vw.par), .int .i64 a.vw.ps, .int .i64 a.vw.ov, .int .i64 a.ow, .int .i64 a.it, .int .i64 a.tg] _ rfl K1 Try.underlying29 rfl (by kernel_rfl) ?_; clear _h K1)
  refine (HLG.out _ H1.out).mono ?_
  rintro e W2 ⟨bl, rfl, b2, hlm⟩
  have H2 := Lib.hid (H1.out.trans (b2.mono H1.out.size))
  have HEND : Hid (Below w.heap.size w W2) := Lib.hid (B0.out.trans (H2.out.mono B0.out.size))
  clear b2 H1
  cases bl with
  | true =>
    clear hlm
    go_wp2
    go_ret
    exact ⟨rfl, HEND.out⟩
  | false =>
  have HLM := Lib.hid (hlm rfl)
  clear hlm
  by_cases c1 : 30 < n
  · have d1 : decide (30 < (n : Int)) = true := decide_eq_true (by omega)
    go_wp2
    go_ret
    exact ⟨rfl, HEND.out⟩
  have d1 : decide (30 < (n : Int)) = false := decide_eq_false (by omega)
  have hn30 : n ≤ 30 := by omega
  have K2 := HB1.out _ H2.out
  clear c1
  go_wp2_with (have _h := K2; refine wpList_loadq rfl 29 (.tmp 2) rfl (w.heap.size) [.int .i64 a.id, .int .i64 a.vw.size, .int .i64 a.obj, .int .i64 a.seq, .slice a.S a.sn.length a.cs', .bool a.vw.on, .bool a.vw.good, .slice a.vw.M a.vw.row.length a.vw.cm, .string (strOf a.vw.par), .int .i64 a.vw.ps, .int .i64 a.vw.ov, .int .i64 a.ow, .int .i64 a.it, .int .i64 a.tg] _ rfl K2 Try.underlying29 rfl (by kernel_rfl) ?_; clear _h K2)
  refine (HPR.out _ H2.out HLM.out).mono ?_
  rintro e W3 ⟨p, rfl, hpv, hpN, b3⟩
  have HSp : Hid p.Sm := Lib.hid (rsm_lm hpv HLM.out)
  have HFW : Hid (Few 50 p.v) := Lib.hid (rfew_lm hpv HLM.out)
  have HBW : Hid (Below w.heap.size w W3) := Lib.hid (HEND.out.trans (b3.mono HEND.out.size))
  have HRp := Lib.hid hpN.R
  have HNp := Lib.hid hpN
  have HGP : Hid (w.heap.size ≤ W3.heap.size) := Lib.hid HBW.out.size
  have KN : Blk (W3.alloc (.cells #[.int .i64 0, .int .i64 0, .int .i64 0, .int .i64 0, .slice none 0 0, .bool false, .bool false, .slice none 0 0, .string ⟨#[]⟩, .int .i64 0, .int .i64 0, .int .i64 0, .int .i64 0, .int .i64 0] 36)) W3.heap.size 36 #[.int .i64 0, .int .i64 0, .int .i64 0, .int .i64 0, .slice none 0 0, .bool false, .bool false, .slice none 0 0, .string ⟨#[]⟩, .int .i64 0, .int .i64 0, .int .i64 0, .int .i64 0, .int .i64 0] := Blk.new _ _ _
  clear hpv hpN b3 HEND H2 HB1 HLG HPR B0 HLM d1
  unfold HA.cs
  go_wp2_with (have _h := KN; refine wpList_storeq rfl 36 (.tmp 5) (.tmp 25) rfl (W3.heap.size) _ [.int .i64 p.id, .int .i64 p.vw.size, .int .i64 p.obj, .int .i64 p.seq, .slice p.S p.sn.length p.cs', .bool p.vw.on, .bool p.vw.good, .slice p.vw.M p.vw.row.length p.vw.cm, .string (strOf p.vw.par), .int .i64 p.vw.ps, .int .i64 p.vw.ov, .int .i64 p.ow, .int .i64 p.it, .int .i64 p.tg] rfl rfl KN (by simp) (by kernel_rfl) (one14 _ _ _ _ _ _ _ _ _ _ _ _ _ _ _ _ _ _) ?_; clear _h KN; intro w4 K4 o4 s4; have HB4 := Lib.hid (HBW.out.trans ((new_below o4).mono HBW.out.size)); have HL4 := Lib.hid (new_loc HRp.out o4 K4); have HN4 := Lib.hid (new_below o4); clear o4 s4)
  have HO4 : Hid (Rob w4 (W3.heap.size) p) := Lib.hid (rob_of (HNp.out.below HN4.out) HL4.out.blk)
  go_loopw [28] (fun i wr => ∃ (k : Nat) (q : HA), i = .int .i64 k ∧ k ≤ n ∧ Below w.heap.size w wr ∧ Loc wr (W3.heap.size) q ∧ Rob wr (W3.heap.size) q ∧ q.Sm ∧ Few (50 + k) q.v) (fun i _ => n - (intOf i).toNat)
  case atStart => exact ⟨0, p, rfl, Nat.zero_le _, HB4.out, HL4.out, HO4.out, HSp.out, HFW.out⟩
  case round =>
    obtain ⟨k, q, rfl, hk, hbw, hloc, hrob, hqS, hqF⟩ := hrel
    obtain ⟨wo, hwo⟩ : ∃ wo, wo = wr := ⟨_, rfl⟩
    subst hwo
    have HBR := Lib.hid hbw
    have HLQ := Lib.hid hloc
    have HRB := Lib.hid hrob
    have HQS := Lib.hid hqS
    have HQF := Lib.hid hqF
    clear hbw hloc hrob hqS hqF HL4 HB4 HFW HSp HRp HO4 HNp HN4 K4
    by_cases hlt : k < n
    · have dl : decide ((k : Int) < (n : Int)) = true := decide_eq_true (by omega)
      have hwk : IntKind.i64.wrap ((k : Int) + 1) = (k : Int) + 1 := by rw [IntKind.wrap_i64]; omega
      obtain ⟨x, hx⟩ : ∃ x, l[k]? = some x := ⟨_, List.getElem?_eq_getElem (by have := HL.out.1; omega)⟩
      have hrw : Reads wo w.heap.size 8 A0 l.length (l.flatMap CA.cells) := by have h := HL.out.2.2.2.1; rw [HL.out.1] at h; exact h.below HBR.out
      obtain ⟨ad, had, hadl, hc⟩ := ca_at hrw hx
      have HXR : Hid (x.R w) := Lib.hid (HL.out.2.2.2.2 x (List.mem_of_getElem? hx))
      have hzc : ∀ w, (zeroValue 59).run Try.prog w = .ok (.agg #[.int .i64 0, .int .i64 0, .int .i64 0, .string ⟨#[]⟩, .string ⟨#[]⟩, .slice none 0 0, .bool false, .bool false]) w := fun w => by kernel_rfl
      subst had
      have KX : Blk (wo.alloc (.cells #[.int .i64 0, .int .i64 0, .int .i64 0, .string ⟨#[]⟩, .string ⟨#[]⟩, .slice none 0 0, .bool false, .bool false] 59)) wo.heap.size 59 #[.int .i64 0, .int .i64 0, .int .i64 0, .string ⟨#[]⟩, .string ⟨#[]⟩, .slice none 0 0, .bool false, .bool false] := Blk.new _ _ _
      clear hx hrw
      go_wp2_with (first
        | (have _h := hc; refine wpList_loadp rfl 59 (.tmp 30) rfl _ x.cells _ rfl hc Try.underlying59 rfl (by kernel_rfl) ?_; clear _h hc; unfold CA.cells)
        | (have _h := KX; refine wpList_storeq rfl 59 (.tmp 7) (.tmp 31) rfl (wo.heap.size) _ [.int .i64 x.kind, .int .i64 x.n, .int .i64 x.m, .string (strOf x.name), .string (strOf x.child), .slice x.A x.row.length x.cm, .bool x.on, .bool x.good] rfl rfl KX (by simp) (by kernel_rfl) (by intro u hu; simp at hu; rcases hu with h | h | h | h | h | h | h | h <;> subst h <;> rfl) ?_; clear _h KX; intro w6 K6 o6 s6; have HN6 := Lib.hid (new_below o6); have HK6 := Lib.hid K6; clear o6 s6)
        | (have _h := K6; refine wpList_loadq rfl 59 (.tmp 7) rfl (wo.heap.size) [.int .i64 x.kind, .int .i64 x.n, .int .i64 x.m, .string (strOf x.name), .string (strOf x.child), .slice x.A x.row.length x.cm, .bool x.on, .bool x.good] _ rfl K6 Try.underlying59 rfl (by kernel_rfl) ?_; clear _h K6))
      have HB6 : Hid (Below w.heap.size w w6) := Lib.hid (HBR.out.trans (HN6.out.mono HBR.out.size))
      have HL6 : Hid (Loc w6 (W3.heap.size) q) := Lib.hid (HLQ.out.below HN6.out)
      refine (wide_any x w6 (HXR.out.since HB6.out)).mono ?_
      rintro e w7 ⟨bw, rfl, b7, hsm⟩
      have HB7 : Hid (Below w.heap.size w w7) := Lib.hid (HB6.out.trans (b7.mono HB6.out.size))
      have HL7 : Hid (Loc w7 (W3.heap.size) q) := Lib.hid (HL6.out.below b7)
      have HB67 := Lib.hid b7
      have K7 : Blk w7 wo.heap.size 59 #[.int .i64 x.kind, .int .i64 x.n, .int .i64 x.m, .string (strOf x.name), .string (strOf x.child), .slice x.A x.row.length x.cm, .bool x.on, .bool x.good] := HK6.out.of (b7.block _ HK6.out.lt)
      clear b7
      cases bw with
      | true =>
        clear hsm K7
        go_wp2
        go_ret
        exact ⟨rfl, HB7.out⟩
      | false =>
      have HXS := Lib.hid (hsm rfl)
      clear hsm
      have KQ : Blk w7 (W3.heap.size) 36 #[.int .i64 q.id, .int .i64 q.vw.size, .int .i64 q.obj, .int .i64 q.seq, .slice q.S q.sn.length q.cs', .bool q.vw.on, .bool q.vw.good, .slice q.vw.M q.vw.row.length q.vw.cm, .string (strOf q.vw.par), .int .i64 q.vw.ps, .int .i64 q.vw.ov, .int .i64 q.ow, .int .i64 q.it, .int .i64 q.tg] := HL7.out.blk
      have HK7 := Lib.hid K7
      go_wp2_with (first | (have _h := KQ; refine wpList_loadq rfl 36 (.tmp 5) rfl (W3.heap.size) [.int .i64 q.id, .int .i64 q.vw.size, .int .i64 q.obj, .int .i64 q.seq, .slice q.S q.sn.length q.cs', .bool q.vw.on, .bool q.vw.good, .slice q.vw.M q.vw.row.length q.vw.cm, .string (strOf q.vw.par), .int .i64 q.vw.ps, .int .i64 q.vw.ov, .int .i64 q.ow, .int .i64 q.it, .int .i64 q.tg] _ rfl KQ Try.underlying36 rfl (by kernel_rfl) ?_; clear _h KQ) | (have _h := K7; refine wpList_loadq rfl 59 (.tmp 7) rfl (wo.heap.size) [.int .i64 x.kind, .int .i64 x.n, .int .i64 x.m, .string (strOf x.name), .string (strOf x.child), .slice x.A x.row.length x.cm, .bool x.on, .bool x.good] _ rfl K7 Try.underlying59 rfl (by kernel_rfl) ?_; clear _h K7))
      refine (do_any q x w7 HL7.out.R HQS.out (HXR.out.since HB7.out) HXS.out).mono ?_
      rintro e w8 ⟨b8, ⟨kk, rfl, _⟩ | ⟨nx, who, rfl, hB8, hO8, hR8, hN8, hE8, -⟩⟩
      · have HB8 : Hid (Below w.heap.size w w8) := Lib.hid (HB7.out.trans (b8.mono HB7.out.size))
        have HL8 : Hid (Loc w8 (W3.heap.size) q) := Lib.hid (HL7.out.below b8)
        have HRB8 : Hid (Rob w8 (W3.heap.size) q) := Lib.hid ((((HRB.out.below HN6.out).below HB67.out)).below b8)
        have KN8 : Blk (w8.alloc (.cells #[.int .i64 0, .int .i64 0, .int .i64 0, .int .i64 0, .slice none 0 0, .bool false, .bool false, .slice none 0 0, .string ⟨#[]⟩, .int .i64 0, .int .i64 0, .int .i64 0, .int .i64 0, .int .i64 0] 36)) w8.heap.size 36 #[.int .i64 0, .int .i64 0, .int .i64 0, .int .i64 0, .slice none 0 0, .bool false, .bool false, .slice none 0 0, .string ⟨#[]⟩, .int .i64 0, .int .i64 0, .int .i64 0, .int .i64 0, .int .i64 0] := Blk.new _ _ _
        clear b8
        simp only [errV]
        go_wp2_with (have _h := KN8; refine wpList_storeq rfl 36 (.tmp 8) (.tmp 38) rfl (w8.heap.size) _ [.int .i64 0, .int .i64 0, .int .i64 0, .int .i64 0, .slice none 0 0, .bool false, .bool false, .slice none 0 0, .string ⟨#[]⟩, .int .i64 0, .int .i64 0, .int .i64 0, .int .i64 0, .int .i64 0] rfl rfl KN8 (by simp) (by kernel_rfl) (one14 _ _ _ _ _ _ _ _ _ _ _ _ _ _ _ _ _ _) ?_; clear _h KN8; intro w9 K9 o9 s9; have HN9 := Lib.hid (new_below o9); clear o9 s9 K9)
        exact ⟨⟨k + 1, q, by go_num, by omega, HB8.out.trans (HN9.out.mono HB8.out.size), HL8.out.below HN9.out, HRB8.out.below HN9.out, HQS.out, HQF.out.mono (by omega)⟩, by simp only [intOf]; omega⟩
      · have HB8 : Hid (Below w.heap.size w w8) := Lib.hid (HB7.out.trans (b8.mono HB7.out.size))
        have HL8 : Hid (Loc w8 (W3.heap.size) q) := Lib.hid (HL7.out.below b8)
        have HRB8 : Hid (Rob w8 (W3.heap.size) q) := Lib.hid ((((HRB.out.below HN6.out).below HB67.out)).below b8)
        have HQB := Lib.hid hB8
        have HO8 := Lib.hid hO8
        have HNB : Hid (nx.v.B = true ∧ Few (50 + (k + 1)) nx.v) := Lib.hid ⟨call_B hO8 hB8 HL8.out.R.seq.2, by have := call_few hO8 HQF.out; exact this⟩
        have HNS : Hid nx.Sm := Lib.hid (sm_good HNB.out.1 (HNB.out.2.mono (by omega)))
        have HNR := Lib.hid hR8
        have HNO : Hid (Rob w8 (W3.heap.size) nx) := Lib.hid (by
          by_cases h4 : x.kind = 4
          · rw [hE8 h4]; exact HRB8.out
          · exact rob_of (hN8 h4) HL8.out.blk)
        have KN8 : Blk (w8.alloc (.cells #[.int .i64 0, .int .i64 0, .int .i64 0, .int .i64 0, .slice none 0 0, .bool false, .bool false, .slice none 0 0, .string ⟨#[]⟩, .int .i64 0, .int .i64 0, .int .i64 0, .int .i64 0, .int .i64 0] 36)) w8.heap.size 36 #[.int .i64 0, .int .i64 0, .int .i64 0, .int .i64 0, .slice none 0 0, .bool false, .bool false, .slice none 0 0, .string ⟨#[]⟩, .int .i64 0, .int .i64 0, .int .i64 0, .int .i64 0, .int .i64 0] := Blk.new _ _ _
        have HK8 : Hid (Blk w8 wo.heap.size 59 #[.int .i64 x.kind, .int .i64 x.n, .int .i64 x.m, .string (strOf x.name), .string (strOf x.child), .slice x.A x.row.length x.cm, .bool x.on, .bool x.good]) := Lib.hid (HK7.out.of (b8.block _ HK7.out.lt))
        clear b8 hB8 hO8 hR8 hN8 hE8
        obtain ⟨m, hm⟩ : ∃ m, m = q.sn.length := ⟨_, rfl⟩
        have HM := Lib.hid hm
        clear hm
        try unfold HA.cs at *
        go_wp2_with (have _h := KN8; refine wpList_storeq rfl 36 (.tmp 8) (.tmp 38) rfl (w8.heap.size) _ [.int .i64 nx.id, .int .i64 nx.vw.size, .int .i64 nx.obj, .int .i64 nx.seq, .slice nx.S nx.sn.length nx.cs', .bool nx.vw.on, .bool nx.vw.good, .slice nx.vw.M nx.vw.row.length nx.vw.cm, .string (strOf nx.vw.par), .int .i64 nx.vw.ps, .int .i64 nx.vw.ov, .int .i64 nx.ow, .int .i64 nx.it, .int .i64 nx.tg] rfl rfl KN8 (by simp) (by kernel_rfl) (one14 _ _ _ _ _ _ _ _ _ _ _ _ _ _ _ _ _ _) ?_; clear _h KN8; intro w9 K9 o9 s9; have HN9 := Lib.hid (new_below o9); have HLN := Lib.hid (new_loc HNR.out o9 K9); have p4 : w9.cell? ⟨W3.heap.size, 4, none⟩ = some (.slice q.S m q.cs') := by { have h := (HL8.out.below HN9.out).blk.cell 4; rw [h, HM.out]; rfl }; clear o9 s9 K9)
        have HB9 : Hid (Below w.heap.size w w9) := Lib.hid (HB8.out.trans (HN9.out.mono HB8.out.size))
        have HL9 : Hid (Loc w9 (W3.heap.size) q) := Lib.hid (HL8.out.below HN9.out)
        have HK9 : Hid (Blk w9 wo.heap.size 59 #[.int .i64 x.kind, .int .i64 x.n, .int .i64 x.m, .string (strOf x.name), .string (strOf x.child), .slice x.A x.row.length x.cm, .bool x.on, .bool x.good]) := Lib.hid (HK8.out.of (HN9.out.block _ HK8.out.lt))
        have HRO9 : Hid (Rob w9 (W3.heap.size) nx) := Lib.hid (HNO.out.below HN9.out)
        have HMS : Hid (m ≤ 1000) := Lib.hid (by rw [HM.out]; exact HQS.out.cn)
        clear p4
        go_loopw [46] (fun i wr => ∃ j : Nat, i = .int .i64 j ∧ j ≤ m ∧ Below w9.heap.size w9 wr) (fun i _ => m - (intOf i).toNat)
        case atStart => exact ⟨0, rfl, Nat.zero_le _, Below.refl _ _⟩
        case round =>
          obtain ⟨j, rfl, hj, hbz⟩ := hrel
          have HZ := Lib.hid hbz
          clear hbz
          have HLZ : Hid (Loc wr (W3.heap.size) q) := Lib.hid (HL9.out.below HZ.out)
          have HNZ : Hid (Loc wr (w8.heap.size) nx) := Lib.hid (HLN.out.below HZ.out)
          have HKZ : Hid (Blk wr wo.heap.size 59 #[.int .i64 x.kind, .int .i64 x.n, .int .i64 x.m, .string (strOf x.name), .string (strOf x.child), .slice x.A x.row.length x.cm, .bool x.on, .bool x.good]) := Lib.hid (HK9.out.of (HZ.out.block _ HK9.out.lt))
          by_cases hjm : j < m
          · have dj : decide ((j : Int) < (m : Int)) = true := decide_eq_true (by omega)
            have hmj := HMS.out
            have hwj : IntKind.i64.wrap ((j : Int) + 1) = (j : Int) + 1 := by rw [IntKind.wrap_i64]; omega
            obtain ⟨s, hs⟩ : ∃ s, q.sn[j]? = some s := ⟨_, List.getElem?_eq_getElem (by have := HM.out; omega)⟩
            have hrow : Reads wr wr.heap.size 11 q.S q.sn.length (q.sn.flatMap SA.cells) := HLZ.out.R.row
            obtain ⟨aq, haq, -, hcs⟩ := snap_at SA.cells_len hrow hs
            have HSM : Hid (s.v ∈ q.v.sn) := Lib.hid (List.mem_map.2 ⟨s, List.mem_of_getElem? hs, rfl⟩)
            have HSR : Hid (s.R wr) := Lib.hid (HLZ.out.R.sn s (List.mem_of_getElem? hs))
            have hzs : ∀ w, (zeroValue 66).run Try.prog w = .ok (.agg #[.int .i64 0, .int .i64 0, .string ⟨#[]⟩, .bool false, .bool false, .bool false, .slice none 0 0, .string ⟨#[]⟩, .int .i64 0, .int .i64 0, .slice none 0 0]) w := fun w => by kernel_rfl
            have KS : Blk (wr.alloc (.cells #[.int .i64 0, .int .i64 0, .string ⟨#[]⟩, .bool false, .bool false, .bool false, .slice none 0 0, .string ⟨#[]⟩, .int .i64 0, .int .i64 0, .slice none 0 0] 66)) wr.heap.size 66 #[.int .i64 0, .int .i64 0, .string ⟨#[]⟩, .bool false, .bool false, .bool false, .slice none 0 0, .string ⟨#[]⟩, .int .i64 0, .int .i64 0, .slice none 0 0] := Blk.new _ _ _
            rw [haq]
            clear hrow hs
            go_wp2_with (first
              | (have _h := hcs; refine wpList_loadp rfl 66 (.tmp 48) rfl _ s.cells _ rfl hcs Try.underlying66 rfl (by kernel_rfl) ?_; clear _h hcs; unfold SA.cells)
              | (have _h := KS; refine wpList_storeq rfl 66 (.tmp 12) (.tmp 49) rfl (wr.heap.size) _ [.int .i64 s.num, .int .i64 s.vw.size, .string (strOf s.name), .bool s.vw.on, .bool s.vw.good, .bool s.prot, .slice s.vw.M s.vw.row.length s.vw.cm, .string (strOf s.vw.par), .int .i64 s.vw.ps, .int .i64 s.vw.ov, .slice s.C s.ch.length s.cc] rfl rfl KS (by simp) (by kernel_rfl) (by intro u hu; simp at hu; rcases hu with h | h | h | h | h | h | h | h | h | h | h <;> subst h <;> rfl) ?_; clear _h KS; intro w12 K12 o12 s12; have HN12 := Lib.hid (new_below o12); have HK12 := Lib.hid K12; have s0 : w12.cell? ⟨wr.heap.size, 0, none⟩ = some (.int .i64 s.num) := K12.cell 0; have KN12 : Blk w12 w8.heap.size 36 #[.int .i64 nx.id, .int .i64 nx.vw.size, .int .i64 nx.obj, .int .i64 nx.seq, .slice nx.S nx.sn.length nx.cs', .bool nx.vw.on, .bool nx.vw.good, .slice nx.vw.M nx.vw.row.length nx.vw.cm, .string (strOf nx.vw.par), .int .i64 nx.vw.ps, .int .i64 nx.vw.ov, .int .i64 nx.ow, .int .i64 nx.it, .int .i64 nx.tg] := (HNZ.out.below HN12.out).blk; clear o12 s12 K12)
              | (have _h := KN12; refine wpList_loadq rfl 36 (.tmp 8) rfl (w8.heap.size) [.int .i64 nx.id, .int .i64 nx.vw.size, .int .i64 nx.obj, .int .i64 nx.seq, .slice nx.S nx.sn.length nx.cs', .bool nx.vw.on, .bool nx.vw.good, .slice nx.vw.M nx.vw.row.length nx.vw.cm, .string (strOf nx.vw.par), .int .i64 nx.vw.ps, .int .i64 nx.vw.ov, .int .i64 nx.ow, .int .i64 nx.it, .int .i64 nx.tg] _ rfl KN12 Try.underlying36 rfl (by kernel_rfl) ?_; clear _h KN12))
            have HNM := Lib.hid (number_any nx s.num w12 (HNZ.out.below HN12.out).R (by have := HNS.out.cn; omega))
            refine HNM.out.mono ?_
            rintro e w13 ⟨rfl, b13⟩
            have HZ13 : Hid (Below w9.heap.size w9 w13) := Lib.hid (HZ.out.trans ((HN12.out.trans (b13.mono HN12.out.size)).mono HZ.out.size))
            have kx13 : Blk w13 wo.heap.size 59 #[.int .i64 x.kind, .int .i64 x.n, .int .i64 x.m, .string (strOf x.name), .string (strOf x.child), .slice x.A x.row.length x.cm, .bool x.on, .bool x.good] := (HKZ.out.of (HN12.out.block _ HKZ.out.lt)).of (b13.block _ (Nat.lt_of_lt_of_le HKZ.out.lt HN12.out.size))
            have kp13 : Blk w13 (W3.heap.size) 36 #[.int .i64 q.id, .int .i64 q.vw.size, .int .i64 q.obj, .int .i64 q.seq, .slice q.S q.sn.length q.cs', .bool q.vw.on, .bool q.vw.good, .slice q.vw.M q.vw.row.length q.vw.cm, .string (strOf q.vw.par), .int .i64 q.vw.ps, .int .i64 q.vw.ov, .int .i64 q.ow, .int .i64 q.it, .int .i64 q.tg] := ((HLZ.out.below HN12.out).below b13).blk
            have kn13 : Blk w13 w8.heap.size 36 #[.int .i64 nx.id, .int .i64 nx.vw.size, .int .i64 nx.obj, .int .i64 nx.seq, .slice nx.S nx.sn.length nx.cs', .bool nx.vw.on, .bool nx.vw.good, .slice nx.vw.M nx.vw.row.length nx.vw.cm, .string (strOf nx.vw.par), .int .i64 nx.vw.ps, .int .i64 nx.vw.ov, .int .i64 nx.ow, .int .i64 nx.it, .int .i64 nx.tg] := ((HNZ.out.below HN12.out).below b13).blk
            have ks13 : Blk w13 wr.heap.size 66 #[.int .i64 s.num, .int .i64 s.vw.size, .string (strOf s.name), .bool s.vw.on, .bool s.vw.good, .bool s.prot, .slice s.vw.M s.vw.row.length s.vw.cm, .string (strOf s.vw.par), .int .i64 s.vw.ps, .int .i64 s.vw.ov, .slice s.C s.ch.length s.cc] := HK12.out.of (b13.block _ HK12.out.lt)
            have x0 : w13.cell? ⟨wo.heap.size, 0, none⟩ = some (.int .i64 x.kind) := kx13.cell 0
            have x1 : w13.cell? ⟨wo.heap.size, 1, none⟩ = some (.int .i64 x.n) := kx13.cell 1
            have x2 : w13.cell? ⟨wo.heap.size, 2, none⟩ = some (.int .i64 x.m) := kx13.cell 2
            have p12 : w13.cell? ⟨W3.heap.size, 12, none⟩ = some (.int .i64 q.it) := kp13.cell 12
            have p13 : w13.cell? ⟨W3.heap.size, 13, none⟩ = some (.int .i64 q.tg) := kp13.cell 13
            have n4 : w13.cell? ⟨w8.heap.size, 4, none⟩ = some (.slice nx.S nx.sn.length nx.cs') := kn13.cell 4
            have s0' : w13.cell? ⟨wr.heap.size, 0, none⟩ = some (.int .i64 s.num) := ks13.cell 0
            have s5 : w13.cell? ⟨wr.heap.size, 5, none⟩ = some (.bool s.prot) := ks13.cell 5
            have s10 : w13.cell? ⟨wr.heap.size, 10, none⟩ = some (.slice s.C s.ch.length s.cc) := ks13.cell 10
            have HNR13 : Hid (nx.R SA.cells w13) := Lib.hid ((HNZ.out.below HN12.out).below b13).R
            rw [← idxN_own]
            clear b13 kx13 kp13 kn13 ks13 s0
            by_cases hg : idxN nx.v s.num < 0
            · as_aux_lemma =>
              have dg : decide (idxN nx.v s.num < 0) = true := decide_eq_true hg
              have d18 : decide ((nx.sn.length : Int) ≤ idxN nx.v s.num) = false := decide_eq_false (by omega)
              have HGO : Hid (x.kind = 12 ∧ q.it = 3 ∧ q.tg = s.num) := Lib.hid (call_gone HO8.out HSM.out hg)
              clear hg
              go_upto_region 18 with (fail)
              go_upto_region 20 with (fail)
              go_cut [78] from 61 to 78 (fun v wx => v = .bool false ∧ w13 = wx)
              case first =>
                have e20 : (x.kind != 12) = false := by simpa using HGO.out.1
                have e21 : (q.it != 3) = false := by simpa using HGO.out.2.1
                have e22 : (q.tg != s.num) = false := by simpa using HGO.out.2.2
                go_wp2
                go_meet
                refine ⟨?_, rfl⟩
                first | rfl | (simp; done) | (simp [*]; done)
              obtain ⟨rfl, hwc⟩ := hcut
              obtain rfl := hwc
              go_upto_region 22 with (fail)
              go_cut [103] from 79 to 103 (fun v wx => v = .bool false ∧ w13 = wx)
              case first =>
                have e20 : (x.kind == 11) = false := by rw [HGO.out.1]; rfl
                go_wp2
                go_meet
                refine ⟨?_, rfl⟩
                first | rfl | (simp; done) | (simp [*]; done)
              obtain ⟨rfl, hwc⟩ := hcut
              obtain rfl := hwc
              go_upto_region 24 with (fail)
              go_cut [130] from 104 to 130 (fun v wx => v = .bool false ∧ w13 = wx)
              case first =>
                have e20 : (q.it == 3) = true := by simpa using HGO.out.2.1
                have e21 : (q.tg == s.num) = true := by simpa using HGO.out.2.2
                by_cases hpr : s.prot = true
                · rw [hpr] at s5
                  clear hpr
                  go_wp2
                  go_meet
                  refine ⟨?_, rfl⟩
                  first | rfl | (simp; done) | (simp [*]; done)
                · have hpr2 : s.prot = false := by simpa using hpr
                  rw [hpr2] at s5
                  clear hpr hpr2
                  go_wp2
                  go_meet
                  refine ⟨?_, rfl⟩
                  first | rfl | (simp; done) | (simp [*]; done)
              obtain ⟨rfl, hwc⟩ := hcut
              obtain rfl := hwc
              go_wp2
              go_roundw
              case rel => exact ⟨j + 1, by go_num, by omega, HZ13.out⟩
              case measure => simp [intOf]; omega
            · as_aux_lemma =>
              obtain ⟨kk, y, hky, hys, hyn⟩ := num_at hg
              have HYM : Hid (y ∈ nx.v.sn) := Lib.hid (List.mem_of_getElem? hys)
              have HYN := Lib.hid hyn
              have hkl : kk < nx.sn.length := by have := (List.getElem?_eq_some_iff.1 hys).1; simpa [HA.v] using this
              obtain ⟨t, ht, htv⟩ : ∃ t : SA, nx.sn[kk]? = some t ∧ t.v = y := by
                have h : (nx.sn.map SA.v)[kk]? = some y := hys
                rw [List.getElem?_map] at h
                cases h9 : nx.sn[kk]? with
                | none => rw [h9] at h; cases h
                | some t => rw [h9] at h; injection h with h; exact ⟨t, rfl, h⟩
              obtain ⟨an, han, -, hcn⟩ := snap_at SA.cells_len HNR13.out.row ht
              have y5 : w13.cell? ⟨(an.add (kk * 11)).block, (an.add (kk * 11)).off + 5, none⟩ = some (.bool y.prot) := by
                rw [← htv]
                exact hcn 5 _ rfl
              rw [hky]
              have dg : decide ((kk : Int) < 0) = false := decide_eq_false (by omega)
              have d18 : decide ((nx.sn.length : Int) ≤ (kk : Int)) = false := decide_eq_false (by omega)
              rw [han] at n4
              clear hg hky hys hyn ht htv hcn han
              go_upto_region 18 with (fail)
              go_upto_region 20 with (fail)
              go_cut [78] from 61 to 78 (fun v wx => v = .bool false ∧ w13 = wx)
              case first =>
                go_wp2
                go_meet
                refine ⟨?_, rfl⟩
                first | rfl | (simp; done) | (simp [*]; done)
              obtain ⟨rfl, hwc⟩ := hcut
              obtain rfl := hwc
              go_upto_region 22 with (fail)
              go_cut [103] from 79 to 103 (fun v wx => v = .bool false ∧ w13 = wx)
              case first =>
                by_cases k11 : x.kind = 11
                rotate_left
                · have e20 : (x.kind == 11) = false := beq_eq_false_iff_ne.2 k11
                  go_wp2
                  go_meet
                  refine ⟨?_, rfl⟩
                  first | rfl | (simp; done) | (simp [*]; done)
                have e20 : (x.kind == 11) = true := beq_iff_eq.2 k11
                by_cases n3 : x.n = 3
                rotate_left
                · have e21 : (x.n == 3) = false := beq_eq_false_iff_ne.2 n3
                  go_wp2
                  go_meet
                  refine ⟨?_, rfl⟩
                  first | rfl | (simp; done) | (simp [*]; done)
                have e21 : (x.n == 3) = true := beq_iff_eq.2 n3
                by_cases mm : x.m = s.num
                rotate_left
                · have e22 : (x.m == s.num) = false := beq_eq_false_iff_ne.2 mm
                  go_wp2
                  go_meet
                  refine ⟨?_, rfl⟩
                  first | rfl | (simp; done) | (simp [*]; done)
                have e22 : (x.m == s.num) = true := beq_iff_eq.2 mm
                obtain ⟨hp1, hp2⟩ := call_beg HO8.out HQB.out k11 n3 HSM.out mm
                have hp1 : s.prot = false := hp1
                have hp2 : s.ch.length = 0 := congrArg List.length (show s.ch = [] from hp2)
                rw [hp1] at s5
                rw [hp2] at s10
                clear k11 n3 mm hp1 hp2
                go_wp2
                go_meet
                refine ⟨?_, rfl⟩
                first | rfl | (simp; done) | (simp [*]; done)
              obtain ⟨rfl, hwc⟩ := hcut
              obtain rfl := hwc
              go_upto_region 24 with (fail)
              go_cut [130] from 104 to 130 (fun v wx => v = .bool false ∧ w13 = wx)
              case first =>
                by_cases i3 : q.it = 3
                rotate_left
                · have e20 : (q.it == 3) = false := beq_eq_false_iff_ne.2 i3
                  go_wp2
                  go_meet
                  refine ⟨?_, rfl⟩
                  first | rfl | (simp; done) | (simp [*]; done)
                have e20 : (q.it == 3) = true := beq_iff_eq.2 i3
                by_cases tt : q.tg = s.num
                rotate_left
                · have e21 : (q.tg == s.num) = false := beq_eq_false_iff_ne.2 tt
                  go_wp2
                  go_meet
                  refine ⟨?_, rfl⟩
                  first | rfl | (simp; done) | (simp [*]; done)
                have e21 : (q.tg == s.num) = true := beq_iff_eq.2 tt
                by_cases hpr0 : s.prot = true
                · rw [hpr0] at s5
                  clear hpr0
                  go_wp2
                  go_meet
                  refine ⟨?_, rfl⟩
                  first | rfl | (simp; done) | (simp [*]; done)
                have hpr : s.prot = false := by simpa using hpr0
                clear hpr0
                rw [hpr] at s5
                have hpn : y.prot = false := call_prot HO8.out i3 (fun z hz hzn => by
                  have : z = s.v := num_once HQB.out hz HSM.out (hzn.trans tt)
                  rw [this]; exact hpr) HYM.out (HYN.out.trans tt.symm)
                rw [hpn] at y5
                clear i3 tt hpr hpn
                go_wp2
                go_meet
                refine ⟨?_, rfl⟩
                first | rfl | (simp; done) | (simp [*]; done)
              obtain ⟨rfl, hwc⟩ := hcut
              obtain rfl := hwc
              go_wp2
              go_roundw
              case rel => exact ⟨j + 1, by go_num, by omega, HZ13.out⟩
              case measure => simp [intOf]; omega
          · have dj : decide ((j : Int) < (m : Int)) = false := decide_eq_false (by omega)
            have kxz := HKZ.out
            have kpz : Blk wr (W3.heap.size) 36 #[.int .i64 q.id, .int .i64 q.vw.size, .int .i64 q.obj, .int .i64 q.seq, .slice q.S q.sn.length q.cs', .bool q.vw.on, .bool q.vw.good, .slice q.vw.M q.vw.row.length q.vw.cm, .string (strOf q.vw.par), .int .i64 q.vw.ps, .int .i64 q.vw.ov, .int .i64 q.ow, .int .i64 q.it, .int .i64 q.tg] := HLZ.out.blk
            have knz : Blk wr w8.heap.size 36 #[.int .i64 nx.id, .int .i64 nx.vw.size, .int .i64 nx.obj, .int .i64 nx.seq, .slice nx.S nx.sn.length nx.cs', .bool nx.vw.on, .bool nx.vw.good, .slice nx.vw.M nx.vw.row.length nx.vw.cm, .string (strOf nx.vw.par), .int .i64 nx.vw.ps, .int .i64 nx.vw.ov, .int .i64 nx.ow, .int .i64 nx.it, .int .i64 nx.tg] := HNZ.out.blk
            have x0 : wr.cell? ⟨wo.heap.size, 0, none⟩ = some (.int .i64 x.kind) := kxz.cell 0
            have x1 : wr.cell? ⟨wo.heap.size, 1, none⟩ = some (.int .i64 x.n) := kxz.cell 1
            have p11 : wr.cell? ⟨W3.heap.size, 11, none⟩ = some (.int .i64 q.ow) := kpz.cell 11
            have p12 : wr.cell? ⟨W3.heap.size, 12, none⟩ = some (.int .i64 q.it) := kpz.cell 12
            have n11 : wr.cell? ⟨w8.heap.size, 11, none⟩ = some (.int .i64 nx.ow) := knz.cell 11
            have n12 : wr.cell? ⟨w8.heap.size, 12, none⟩ = some (.int .i64 nx.it) := knz.cell 12
            clear kxz
            have HBZ : Hid (Below w.heap.size w wr) := Lib.hid (HB9.out.trans (HZ.out.mono HB9.out.size))
            have HROZ : Hid (Rob wr (W3.heap.size) nx) := Lib.hid (HRO9.out.below HZ.out)
            go_upto_region 27 with (fail)
            go_cut [158] from 132 to 158 (fun v wx => v = .bool false ∧ wr = wx)
            case first =>
              by_cases o1 : q.ow = -1
              · have e20 : (q.ow != -1) = false := by simpa using o1
                go_wp2
                go_meet
                refine ⟨?_, rfl⟩
                first | rfl | (simp; done) | (simp [*]; done)
              have e20 : (q.ow != -1) = true := by simpa using o1
              by_cases o2 : nx.ow = q.ow
              · have e21 : (nx.ow != q.ow) = false := by simpa using o2
                go_wp2
                go_meet
                refine ⟨?_, rfl⟩
                first | rfl | (simp; done) | (simp [*]; done)
              have e21 : (nx.ow != q.ow) = true := by simpa using o2
              rcases call_own HO8.out o1 o2 with h3 | ⟨h2, h4⟩
              · have e22 : (x.kind != 3) = false := by simpa using h3
                go_wp2
                go_meet
                refine ⟨?_, rfl⟩
                first | rfl | (simp; done) | (simp [*]; done)
              · have e22 : (x.kind != 3) = true := by rw [h2]; rfl
                have e23 : (x.kind != 2) = false := by simpa using h2
                have e24 : (x.n != q.ow) = false := by { have h5 : x.n = q.ow := h4; rw [h5]; simp }
                clear h2 h4
                go_wp2
                go_meet
                refine ⟨?_, rfl⟩
                first | rfl | (simp; done) | (simp [*]; done)
            obtain ⟨rfl, hwc⟩ := hcut
            obtain rfl := hwc
            go_upto_region 29 with (fail)
            go_cut [173] from 159 to 173 (fun v wx => v = .bool false ∧ wr = wx)
            case first =>
              by_cases i1 : q.it = 0
              · have e20 : (q.it != 0) = false := by simpa using i1
                go_wp2
                go_meet
                refine ⟨?_, rfl⟩
                first | rfl | (simp; done) | (simp [*]; done)
              have e20 : (q.it != 0) = true := by simpa using i1
              by_cases i2 : nx.it = q.it
              · have e21 : (nx.it != q.it) = false := by simpa using i2
                go_wp2
                go_meet
                refine ⟨?_, rfl⟩
                first | rfl | (simp; done) | (simp [*]; done)
              have e21 : (nx.it != q.it) = true := by simpa using i2
              have i3 : nx.it = 0 := call_it HO8.out i1 i2
              have e22 : (nx.it != 0) = false := by simpa using i3
              clear i1 i2 i3
              go_wp2
              go_meet
              refine ⟨?_, rfl⟩
              first | rfl | (simp; done) | (simp [*]; done)
            obtain ⟨rfl, hwc⟩ := hcut
            obtain rfl := hwc
            go_wp2_with (first
              | (have _h := knz; refine wpList_loadq rfl 36 (.tmp 8) rfl (w8.heap.size) [.int .i64 nx.id, .int .i64 nx.vw.size, .int .i64 nx.obj, .int .i64 nx.seq, .slice nx.S nx.sn.length nx.cs', .bool nx.vw.on, .bool nx.vw.good, .slice nx.vw.M nx.vw.row.length nx.vw.cm, .string (strOf nx.vw.par), .int .i64 nx.vw.ps, .int .i64 nx.vw.ov, .int .i64 nx.ow, .int .i64 nx.it, .int .i64 nx.tg] _ rfl knz Try.underlying36 rfl (by kernel_rfl) ?_; clear _h knz)
              | (have _h := kpz; refine wpList_storeq rfl 36 (.tmp 5) (.tmp 174) rfl (W3.heap.size) _ [.int .i64 nx.id, .int .i64 nx.vw.size, .int .i64 nx.obj, .int .i64 nx.seq, .slice nx.S nx.sn.length nx.cs', .bool nx.vw.on, .bool nx.vw.good, .slice nx.vw.M nx.vw.row.length nx.vw.cm, .string (strOf nx.vw.par), .int .i64 nx.vw.ps, .int .i64 nx.vw.ov, .int .i64 nx.ow, .int .i64 nx.it, .int .i64 nx.tg] rfl rfl kpz (by simp) (by kernel_rfl) (one14 _ _ _ _ _ _ _ _ _ _ _ _ _ _ _ _ _ _) ?_; clear _h kpz; intro w21 K21 o21 s21))
            exact ⟨⟨k + 1, nx, by go_num, by omega, HBZ.out.trans (o21.below (fun z hz => by simp at hz; have := HGP.out; omega) HBZ.out.size), ⟨K21, HROZ.out w21 o21⟩, HROZ.out.only o21, HNS.out, HNB.out.2⟩, by simp only [intOf]; omega⟩
    · have dl : decide ((k : Int) < (n : Int)) = false := decide_eq_false (by omega)
      go_wp2
      go_ret
      exact ⟨rfl, HBR.out⟩
end Go.Proofs.Ytiimanoloedbeaa
