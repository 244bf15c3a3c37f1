/-
  The law HeadMany's walk: for every head that reads as the document's, and all numbers. No condition beyond that.
-/
import Derived.Test.YtebahllihpokkaaHr
import Derived.Test.YtebahllihpokkaaHs
namespace Go.Proofs.Ytebahllihpokkaa
open Go.RowKit Go.BigFrame
set_option linter.unusedSimpArgs false
set_option linter.unusedVariables false
set_option maxRecDepth 100000
theorem sm_lm {q a : HA} (e : q.v = a.v) (h : a.Lm) : q.Sm := by
  have e1 : q.vw.row = a.vw.row := congrArg (fun v => v.mx.row) e
  have e2 : q.vw.par = a.vw.par := congrArg (fun v => v.lk.par) e
  have e3 : q.sn.map SA.v = a.sn.map SA.v := congrArg HdV.sn e
  have e4 : q.sn.length = a.sn.length := by have := congrArg List.length e3; simpa using this
  refine ⟨⟨by rw [e1]; exact Nat.le_trans h.row (by omega), by rw [e2]; exact Nat.le_trans h.par (by omega)⟩, by have := h.cn; omega, fun s hs => ?_⟩
  have hm : s.v ∈ a.sn.map SA.v := e3 ▸ List.mem_map.2 ⟨s, hs, rfl⟩
  obtain ⟨t, ht, et⟩ := List.mem_map.1 hm
  have l := h.sn t ht
  have f1 : t.vw.row = s.vw.row := congrArg (fun v => v.mx.row) et
  have f2 : t.vw.par = s.vw.par := congrArg (fun v => v.lk.par) et
  have f3 : t.name = s.name := congrArg SnV.name et
  have f4 : t.ch = s.ch := congrArg SnV.ch et
  exact ⟨⟨by rw [← f1]; exact Nat.le_trans l.row (by omega), by rw [← f2]; exact Nat.le_trans l.par (by omega)⟩, by rw [← f3]; exact Nat.le_trans l.name (by omega), by rw [← f4]; exact Nat.le_trans l.ch (by omega), fun c hc => Nat.le_trans (l.cl c (by rw [f4]; exact hc)) (by omega)⟩
set_option maxHeartbeats 32000000 in
theorem headMany_walk (a : HA) (w : World) (hR : a.R SA.dcells w) (x1 : Int) (h1 : I64 x1) (x2 : Int) (h2 : I64 x2) : Calls Try.prog 6 #[.agg a.cs, .int .i64 x1, .int .i64 x2] w fun e w' => e = .returned (.bool true) ∧ Below w.heap.size w w' := by
  obtain ⟨w0, hw0⟩ : ∃ w0, w0 = w.alloc (.cells a.cs 29) := ⟨_, rfl⟩
  have b0 : Below w.heap.size w w0 := by rw [hw0]; exact below_alloc w _
  have B0 := Lib.hid b0
  have HB1 : Hid (∀ W, Below w0.heap.size w0 W → Blk W w.heap.size 29 #[.int .i64 a.id, .int .i64 a.vw.size, .int .i64 a.obj, .int .i64 a.seq, .slice a.S a.sn.length a.cs', .bool a.vw.on, .bool a.vw.good, .slice a.vw.M a.vw.row.length a.vw.cm, .string (strOf a.vw.par), .int .i64 a.vw.ps, .int .i64 a.vw.ov, .int .i64 a.ow, .int .i64 a.it, .int .i64 a.tg]) := Lib.hid fun W hW => by
    have k8 : Blk w0 w.heap.size 29 a.cs := by rw [hw0]; exact Blk.new w _ _
    exact k8.of (hW.block _ k8.lt)
  have HAL : Hid (∀ W, Calls Try.prog 7 #[] W fun e w' => e = .returned (.bool true) ∧ Below W.heap.size W w') := Lib.hid fun W => halive_any W
  have HLG : Hid (∀ W, Below w0.heap.size w0 W → Calls Try.prog 8 #[.agg #[.int .i64 a.id, .int .i64 a.vw.size, .int .i64 a.obj, .int .i64 a.seq, .slice a.S a.sn.length a.cs', .bool a.vw.on, .bool a.vw.good, .slice a.vw.M a.vw.row.length a.vw.cm, .string (strOf a.vw.par), .int .i64 a.vw.ps, .int .i64 a.vw.ov, .int .i64 a.ow, .int .i64 a.it, .int .i64 a.tg]] W (LargeTo W a)) := Lib.hid fun W hW => hlarge_any a W ((hR.since b0).since hW)
  have HPR : Hid (∀ W, Below w0.heap.size w0 W → a.Lm → Calls Try.prog 9 #[.agg #[.int .i64 a.id, .int .i64 a.vw.size, .int .i64 a.obj, .int .i64 a.seq, .slice a.S a.sn.length a.cs', .bool a.vw.on, .bool a.vw.good, .slice a.vw.M a.vw.row.length a.vw.cm, .string (strOf a.vw.par), .int .i64 a.vw.ps, .int .i64 a.vw.ov, .int .i64 a.ow, .int .i64 a.it, .int .i64 a.tg]] W (ProgTo W a)) := Lib.hid fun W hW hl => hprogram_any a W ((hR.since b0).since hW) hl
  obtain ⟨n, hn⟩ : ∃ n, objsOf x1 x2 = n := ⟨_, rfl⟩
  have HOB : Hid (∀ W, Calls Try.prog 26 #[.int .i64 x1, .int .i64 x2] W fun e w' => e = .returned (.int .i64 n) ∧ W = w') := Lib.hid fun W => by rw [← hn]; exact objects_any x1 x2 h1 h2 W
  have HN := Lib.hid hn
  have HX := Lib.hid (And.intro h1 h2)
  have HW0 := Lib.hid hw0
  have HRR := Lib.hid hR
  clear hn h1 h2 hR b0 hw0
  unfold HA.cs at *
  go_enter Try.func6, Try.ntmps6
  go_wp2_with fail
  rw [← HW0.out]
  clear HW0
  refine (HAL.out _).mono ?_
  rintro e W1 ⟨rfl, b1⟩
  have K1 := HB1.out _ b1
  have H1 := Lib.hid b1
  clear b1
  go_wp2_with (have _h := K1; refine wpList_loadq rfl 29 (.tmp 3) rfl w.heap.size [.int .i64 a.id, .int .i64 a.vw.size, .int .i64 a.obj, .int .i64 a.seq, .slice a.S a.sn.length a.cs', .bool a.vw.on, .bool a.vw.good, .slice a.vw.M a.vw.row.length a.vw.cm, .string (strOf a.vw.par), .int .i64 a.vw.ps, .int .i64 a.vw.ov, .int .i64 a.ow, .int .i64 a.it, .int .i64 a.tg] _ rfl K1 Try.underlying29 rfl (by kernel_rfl) ?_; clear _h K1)
  refine (HLG.out _ H1.out).mono ?_
  rintro e W2 ⟨bl, rfl, b2, hlm⟩
  have H2 := Lib.hid (H1.out.trans (b2.mono H1.out.size))
  have HEND : Hid (Below w.heap.size w W2) := Lib.hid (B0.out.trans (H2.out.mono B0.out.size))
  clear b2 H1
  cases bl with
  | true =>
    clear hlm
    go_wp2
    go_ret
    exact ⟨rfl, HEND.out⟩
  | false =>
  have HLM := Lib.hid (hlm rfl)
  clear hlm
  go_wp2_with fail
  refine (HOB.out _).mono ?_
  rintro e W2' ⟨rfl, rfl⟩
  by_cases c1 : 1099511627776 < x1
  · have d1 : decide (1099511627776 < x1) = true := decide_eq_true c1
    have d2 : decide (0 ≤ n) = true := decide_eq_true (by rw [← HN.out]; unfold objsOf; split; · omega
                                                          have := Int.ediv_nonneg (show 0 ≤ x1 - 1 by omega) (show 0 ≤ x2 by omega); omega)
    go_wp2
    go_ret
    exact ⟨rfl, HEND.out⟩
  have d1 : decide (1099511627776 < x1) = false := decide_eq_false c1
  by_cases c2 : 1048576 < x2
  · have d3 : decide (1048576 < x2) = true := decide_eq_true c2
    have d2 : decide (0 ≤ n) = true := decide_eq_true (by rw [← HN.out]; unfold objsOf; split; · omega
                                                          have := Int.ediv_nonneg (show 0 ≤ x1 - 1 by omega) (show 0 ≤ x2 by omega); omega)
    go_wp2
    go_ret
    exact ⟨rfl, HEND.out⟩
  have d2 : decide (1048576 < x2) = false := decide_eq_false c2
  by_cases c3 : x1 < 1
  · have d3 : decide (x1 < 1) = true := decide_eq_true c3
    have d4 : (n == 0) = true := by rw [beq_iff_eq, ← HN.out]; unfold objsOf; rw [if_pos (.inl c3)]
    go_wp2
    go_ret
    exact ⟨by first | rfl | rw [d4], HEND.out⟩
  have d3 : decide (x1 < 1) = false := decide_eq_false c3
  by_cases c4 : x2 < 1
  · have d4 : decide (x2 < 1) = true := decide_eq_true c4
    have d5 : (n == 0) = true := by rw [beq_iff_eq, ← HN.out]; unfold objsOf; rw [if_pos (.inr c4)]
    go_wp2
    go_ret
    exact ⟨by first | rfl | rw [d5], HEND.out⟩
  have d4 : decide (x2 < 1) = false := decide_eq_false c4
  obtain ⟨f1, f2, f3, f4, f5, f6⟩ := objs_fit (show x1 ≤ 1099511627776 by omega) (show x2 ≤ 1048576 by omega) (by omega) (by omega) HN.out
  have w1 : IntKind.i64.wrap (n * x2) = n * x2 := wrap_in (by unfold I64; generalize n * x2 = m at *; clear f3 f4; omega)
  have w2 : IntKind.i64.wrap (n - 1) = n - 1 := wrap_in (by unfold I64; clear f1 f2 f3 f4 w1; omega)
  have w3 : IntKind.i64.wrap ((n - 1) * x2) = (n - 1) * x2 := wrap_in (by unfold I64; clear f1 f2 w1 w2; generalize (n - 1) * x2 = m at *; omega)
  have d5 : decide (n * x2 < x1) = false := decide_eq_false (by clear f3 f4 w1 w2 w3; omega)
  have d6 : decide (x1 ≤ (n - 1) * x2) = false := decide_eq_false (by clear f1 f2 w1 w2 w3; omega)
  have K2 := HB1.out _ H2.out
  clear f1 f2 f3 f4 f5 f6 c1 c2 c3 c4
  go_wp2_with (have _h := K2; refine wpList_loadq rfl 29 (.tmp 3) rfl w.heap.size [.int .i64 a.id, .int .i64 a.vw.size, .int .i64 a.obj, .int .i64 a.seq, .slice a.S a.sn.length a.cs', .bool a.vw.on, .bool a.vw.good, .slice a.vw.M a.vw.row.length a.vw.cm, .string (strOf a.vw.par), .int .i64 a.vw.ps, .int .i64 a.vw.ov, .int .i64 a.ow, .int .i64 a.it, .int .i64 a.tg] _ rfl K2 Try.underlying29 rfl (by kernel_rfl) ?_; clear _h K2)
  clear d1 d2 d3 d4 d5 d6 w1 w2 w3
  refine (HPR.out _ H2.out HLM.out).mono ?_
  rintro e W3 ⟨q, rfl, hv, hN, b3⟩
  have H3 := Lib.hid (H2.out.trans (b3.mono H2.out.size))
  have hqs := sm_lm hv HLM.out
  have hqR := hN.R
  obtain ⟨w9, hw9⟩ : ∃ w9, w9 = W3.alloc (.cells q.cs 36) := ⟨_, rfl⟩
  obtain ⟨gp, hgp⟩ : ∃ gp, gp = W3.heap.size := ⟨_, rfl⟩
  have hb9 : Below W3.heap.size W3 w9 := by rw [hw9]; exact below_alloc _ _
  have HE9 : Hid (Below w.heap.size w w9) := Lib.hid ((B0.out.trans (H3.out.mono B0.out.size)).trans (hb9.mono (B0.out.trans (H3.out.mono B0.out.size)).size))
  have HP9 : Hid (Blk w9 gp 36 #[.int .i64 q.id, .int .i64 q.vw.size, .int .i64 q.obj, .int .i64 q.seq, .slice q.S q.sn.length q.cs', .bool q.vw.on, .bool q.vw.good, .slice q.vw.M q.vw.row.length q.vw.cm, .string (strOf q.vw.par), .int .i64 q.vw.ps, .int .i64 q.vw.ov, .int .i64 q.ow, .int .i64 q.it, .int .i64 q.tg]) := Lib.hid (by rw [hw9, hgp]; exact Blk.new _ _ _)
  have HQR := Lib.hid (hqR.since hb9)
  have HQS := Lib.hid hqs
  have HW9 := Lib.hid (And.intro hw9 hgp)
  have q41 : w9.cell? ⟨gp, 4, none⟩ = some (.slice q.S q.sn.length q.cs') := HP9.out.cell 4
  have hcn := hqs.cn
  clear hv hN b3 hqs hqR hb9 hw9 hgp H2 H3 HEND HLM
  unfold HA.cs at *
  go_wp2_with fail
  rw [← HW9.out.1, ← HW9.out.2]
  clear HW9 q41 HB1 HAL HLG HPR HOB HN HX HRR
  go_loopw [54] (fun i wr => ∃ k : Nat, k ≤ q.sn.length ∧ i = .int .i64 k ∧ Below w9.heap.size w9 wr) (fun i _ => q.sn.length - (intOf i).toNat)
  case atStart => exact ⟨0, by omega, rfl, Below.refl _ _⟩
  case round =>
    obtain ⟨k, hk, rfl, hbr⟩ := hrel
    have HBR := Lib.hid hbr
    have hwk : IntKind.i64.wrap ((k : Int) + 1) = (k : Int) + 1 := by rw [IntKind.wrap_i64]; omega
    clear hbr
    by_cases hlt : k < q.sn.length
    · obtain ⟨s, hs⟩ : ∃ s, q.sn[k]? = some s := ⟨_, List.getElem?_eq_getElem hlt⟩
      have hR1 := HQR.out.since HBR.out
      obtain ⟨ad, had, hadb, hc⟩ := snap_at SA.cells_len hR1.row hs
      have hsR := hR1.sn s (List.mem_of_getElem? hs)
      obtain ⟨j, y, hij, hjk, hyj, hyn⟩ := idx_found (fun t : SA => t.num == s.num) q.sn k s hs (by simp)
      obtain ⟨m, z, him, hmk, hzm, hzn⟩ := idx_found (fun t : SA => decide (t.name = s.name)) q.sn k s hs (by simp)
      have hyn : y.num = s.num := by simpa using hyn
      have hzn : z.name = s.name := by simpa using hzn
      obtain ⟨ad2, had2, -, hcj⟩ := snap_at SA.cells_len hR1.row hyj
      obtain ⟨ad3, had3, -, hcm⟩ := snap_at SA.cells_len hR1.row hzm
      rw [had] at had2 had3
      injection had2 with had2
      injection had3 with had3
      subst had2 had3
      have gj : wr.cell? ((ad.add (j * 11)).add 0) = some (.int .i64 s.num) := by rw [← hyn]; exact hcj 0 _ rfl
      have gm : wr.cell? ((ad.add (m * 11)).add 2) = some (.string (strOf s.name)) := by rw [← hzn]; exact hcm 2 _ rfl
      obtain ⟨w8, hw8⟩ : ∃ w8, w8 = wr.alloc (.cells s.cells.toArray 62) := ⟨_, rfl⟩
      obtain ⟨g6, hg6⟩ : ∃ g6, g6 = wr.heap.size := ⟨_, rfl⟩
      have hb8 : Below wr.heap.size wr w8 := by rw [hw8]; exact below_alloc wr _
      have HB8 := Lib.hid hb8
      have HRWJ : Hid (∀ W, Below w8.heap.size w8 W → W.cell? ((ad.add (j * 11)).add 0) = some (.int .i64 s.num)) := Lib.hid fun W hW => by
        have b := hb8.trans (hW.mono hb8.size)
        exact (b.cell (World.block_lt_of_cell? wr _ gj)).trans gj
      have HRWM : Hid (∀ W, Below w8.heap.size w8 W → W.cell? ((ad.add (m * 11)).add 2) = some (.string (strOf s.name))) := Lib.hid fun W hW => by
        have b := hb8.trans (hW.mono hb8.size)
        exact (b.cell (World.block_lt_of_cell? wr _ gm)).trans gm
      have hkp : Blk wr gp 36 #[.int .i64 q.id, .int .i64 q.vw.size, .int .i64 q.obj, .int .i64 q.seq, .slice q.S q.sn.length q.cs', .bool q.vw.on, .bool q.vw.good, .slice q.vw.M q.vw.row.length q.vw.cm, .string (strOf q.vw.par), .int .i64 q.vw.ps, .int .i64 q.vw.ov, .int .i64 q.ow, .int .i64 q.it, .int .i64 q.tg] := HP9.out.of (HBR.out.block _ HP9.out.lt)
      have HP8 : Hid (∀ W, Below w8.heap.size w8 W → Blk W gp 36 #[.int .i64 q.id, .int .i64 q.vw.size, .int .i64 q.obj, .int .i64 q.seq, .slice q.S q.sn.length q.cs', .bool q.vw.on, .bool q.vw.good, .slice q.vw.M q.vw.row.length q.vw.cm, .string (strOf q.vw.par), .int .i64 q.vw.ps, .int .i64 q.vw.ov, .int .i64 q.ow, .int .i64 q.it, .int .i64 q.tg]) := Lib.hid fun W hW => by
        have b := hb8.trans (hW.mono hb8.size)
        exact hkp.of (b.block _ hkp.lt)
      have HS8 : Hid (∀ W, Below w8.heap.size w8 W → Blk W g6 62 #[.int .i64 s.num, .int .i64 s.vw.size, .string (strOf s.name), .bool s.vw.on, .bool s.vw.good, .bool s.prot, .slice s.vw.M s.vw.row.length s.vw.cm, .string (strOf s.vw.par), .int .i64 s.vw.ps, .int .i64 s.vw.ov, .slice s.C s.ch.length s.cc]) := Lib.hid fun W hW => by
        have k8 : Blk w8 g6 62 s.cells.toArray := by rw [hw8, hg6]; exact Blk.new wr _ _
        exact k8.of (hW.block _ k8.lt)
      obtain ⟨bb, hbb⟩ : ∃ bb, bb = q.v.B := ⟨_, rfl⟩
      have HNM8 : Hid (∀ W, Below w8.heap.size w8 W → Calls Try.prog 27 #[.agg #[.int .i64 q.id, .int .i64 q.vw.size, .int .i64 q.obj, .int .i64 q.seq, .slice q.S q.sn.length q.cs', .bool q.vw.on, .bool q.vw.good, .slice q.vw.M q.vw.row.length q.vw.cm, .string (strOf q.vw.par), .int .i64 q.vw.ps, .int .i64 q.vw.ov, .int .i64 q.ow, .int .i64 q.it, .int .i64 q.tg], .int .i64 s.num] W fun e w' => e = .returned (.int .i64 ((j : Nat) : Int)) ∧ Below W.heap.size W w') := Lib.hid fun W hW => by
        have := number_any q s.num W ((hR1.since hb8).since hW) (by omega)
        rw [hij] at this
        exact this
      have HFD8 : Hid (∀ W, Below w8.heap.size w8 W → Calls Try.prog 28 #[.agg #[.int .i64 q.id, .int .i64 q.vw.size, .int .i64 q.obj, .int .i64 q.seq, .slice q.S q.sn.length q.cs', .bool q.vw.on, .bool q.vw.good, .slice q.vw.M q.vw.row.length q.vw.cm, .string (strOf q.vw.par), .int .i64 q.vw.ps, .int .i64 q.vw.ov, .int .i64 q.ow, .int .i64 q.it, .int .i64 q.tg], .string (strOf s.name)] W fun e w' => e = .returned (.int .i64 ((m : Nat) : Int)) ∧ Below W.heap.size W w') := Lib.hid fun W hW => by
        have := find_any q s.name hsR.name W ((hR1.since hb8).since hW) (by omega)
        rw [him] at this
        exact this
      have HGD8 : Hid (∀ W, Below w8.heap.size w8 W → Calls Try.prog 12 #[.agg #[.int .i64 q.id, .int .i64 q.vw.size, .int .i64 q.obj, .int .i64 q.seq, .slice q.S q.sn.length q.cs', .bool q.vw.on, .bool q.vw.good, .slice q.vw.M q.vw.row.length q.vw.cm, .string (strOf q.vw.par), .int .i64 q.vw.ps, .int .i64 q.vw.ov, .int .i64 q.ow, .int .i64 q.it, .int .i64 q.tg]] W fun e w' => e = .returned (.bool bb) ∧ Below W.heap.size W w') := Lib.hid fun W hW => by
        rw [hbb]
        exact good_head q W ((hR1.since hb8).since hW) HQS.out
      have HONE : Hid (bb = true → j = k ∧ m = k) := Lib.hid fun e => ⟨nums_one (by rw [← hbb, e]) hyj hs hyn, names_one (by rw [← hbb, e]) hzm hs hzn⟩
      have hjl : j < q.sn.length := by omega
      have hml : m < q.sn.length := by omega
      have n1 : decide ((j : Int) < 0) = false := decide_eq_false (by omega)
      have n2 : decide ((k : Int) < (j : Int)) = false := decide_eq_false (by omega)
      have n3 : decide ((m : Int) < 0) = false := decide_eq_false (by omega)
      have n4 : decide ((k : Int) < (m : Int)) = false := decide_eq_false (by omega)
      have hstr := run_str_neq (strOf s.name)
      have KP : Blk (wr.alloc (.cells #[.int .i64 s.num, .int .i64 s.vw.size, .string (strOf s.name), .bool s.vw.on, .bool s.vw.good, .bool s.prot, .slice s.vw.M s.vw.row.length s.vw.cm, .string (strOf s.vw.par), .int .i64 s.vw.ps, .int .i64 s.vw.ov, .slice s.C s.ch.length s.cc] 62)) gp 36 #[.int .i64 q.id, .int .i64 q.vw.size, .int .i64 q.obj, .int .i64 q.seq, .slice (some ad) q.sn.length q.cs', .bool q.vw.on, .bool q.vw.good, .slice q.vw.M q.vw.row.length q.vw.cm, .string (strOf q.vw.par), .int .i64 q.vw.ps, .int .i64 q.vw.ov, .int .i64 q.ow, .int .i64 q.it, .int .i64 q.tg] := by
        have := hkp.alloc (.cells #[.int .i64 s.num, .int .i64 s.vw.size, .string (strOf s.name), .bool s.vw.on, .bool s.vw.good, .bool s.prot, .slice s.vw.M s.vw.row.length s.vw.cm, .string (strOf s.vw.par), .int .i64 s.vw.ps, .int .i64 s.vw.ov, .slice s.C s.ch.length s.cc] 62)
        rw [had] at this
        exact this
      have HW8 := Lib.hid (And.intro hw8 hg6)
      generalize q.S = sS at *
      subst had
      clear hij hyn hyj him hzn hzm gj gm hcj hcm hkp hbb hs hsR hR1 hb8 hw8 hg6 hadb
      go_wp2_with (first | (have _h := hc; refine wpList_loadp rfl 62 (.tmp 57) rfl _ [.int .i64 s.num, .int .i64 s.vw.size, .string (strOf s.name), .bool s.vw.on, .bool s.vw.good, .bool s.prot, .slice s.vw.M s.vw.row.length s.vw.cm, .string (strOf s.vw.par), .int .i64 s.vw.ps, .int .i64 s.vw.ov, .slice s.C s.ch.length s.cc] _ rfl hc Try.underlying62 rfl (by kernel_rfl) ?_; clear _h hc) | (have _h := KP; refine wpList_loadq rfl 36 (.tmp 8) rfl gp [.int .i64 q.id, .int .i64 q.vw.size, .int .i64 q.obj, .int .i64 q.seq, .slice (some ad) q.sn.length q.cs', .bool q.vw.on, .bool q.vw.good, .slice q.vw.M q.vw.row.length q.vw.cm, .string (strOf q.vw.par), .int .i64 q.vw.ps, .int .i64 q.vw.ov, .int .i64 q.ow, .int .i64 q.it, .int .i64 q.tg] _ rfl KP Try.underlying36 rfl (by kernel_rfl) ?_; clear _h KP))
      unfold SA.cells at HW8
      rw [← HW8.out.1]
      refine (HNM8.out _ (Below.refl _ _)).mono ?_
      rintro e W4 ⟨rfl, b4⟩
      have hS : Below w8.heap.size w8 W4.drew := b4.drew
      rw [← HW8.out.2]
      clear b4 HW8
      cases bb with
      | true =>
        obtain ⟨ej, em⟩ := HONE.out rfl
        have V1 : Hid ((j : Int) = (k : Int)) := Lib.hid (by omega)
        have V2 : Hid ((m : Int) = (k : Int)) := Lib.hid (by omega)
        clear ej em
        go_upto_region 17 with (fail)
        refine any_beginL (fun W => Below w8.heap.size w8 W) 99 (by kernel_rfl) ?_
        refine S_take (i := 0) (v := .int .i64 ((j : Nat) : Int)) rfl rfl (by kernel_rfl) (by kernel_rfl) (by kernel_rfl) (fun _ _ _ h => h) (Or.inl ⟨by rfl, fun W hw => by go_simp⟩) hS ?_
        simp only [Act.put, List.getElem_toArray, List.getElem_cons_succ, List.getElem_cons_zero, List.setIfInBounds_toArray, List.set_cons_zero, List.set_cons_succ]
        refine S_take (i := 1) (v := .bool false) rfl rfl (by kernel_rfl) (by kernel_rfl) (by kernel_rfl) (fun _ _ _ h => h) (Or.inl ⟨by rfl, fun W hw => by go_simp⟩) hS ?_
        simp only [Act.put, List.getElem_toArray, List.getElem_cons_succ, List.getElem_cons_zero, List.setIfInBounds_toArray, List.set_cons_zero, List.set_cons_succ]
        refine S_take (i := 2) (v := .bool false) rfl rfl (by kernel_rfl) (by kernel_rfl) (by kernel_rfl) (fun _ _ _ h => h) (Or.inl ⟨by rfl, fun W hw => by go_simp⟩) hS ?_
        simp only [Act.put, List.getElem_toArray, List.getElem_cons_succ, List.getElem_cons_zero, List.setIfInBounds_toArray, List.set_cons_zero, List.set_cons_succ]
        refine S_take (i := 3) (v := .int .i64 ((j : Nat) : Int)) rfl rfl (by kernel_rfl) (by kernel_rfl) (by kernel_rfl) (fun _ _ _ h => h) (Or.inl ⟨by rfl, fun W hw => by go_simp⟩) hS ?_
        simp only [Act.put, List.getElem_toArray, List.getElem_cons_succ, List.getElem_cons_zero, List.setIfInBounds_toArray, List.set_cons_zero, List.set_cons_succ]
        refine S_take (i := 4) (v := .int .i64 ((k : Nat) : Int)) rfl rfl (by kernel_rfl) (by kernel_rfl) (by kernel_rfl) (fun _ _ _ h => h) (Or.inl ⟨by rfl, fun W hw => by go_simp⟩) hS ?_
        simp only [Act.put, List.getElem_toArray, List.getElem_cons_succ, List.getElem_cons_zero, List.setIfInBounds_toArray, List.set_cons_zero, List.set_cons_succ]
        refine S_take (i := 5) (v := .bool false) rfl rfl (by kernel_rfl) (by kernel_rfl) (by kernel_rfl) (fun _ _ _ h => h) (Or.inl ⟨by rfl, fun W hw => by go_simp⟩) hS ?_
        simp only [Act.put, List.getElem_toArray, List.getElem_cons_succ, List.getElem_cons_zero, List.setIfInBounds_toArray, List.set_cons_zero, List.set_cons_succ]
        refine S_take (i := 6) (v := .bool false) rfl rfl (by kernel_rfl) (by kernel_rfl) (by kernel_rfl) (fun _ _ _ h => h) (Or.inl ⟨by rfl, fun W hw => by go_simp⟩) hS ?_
        simp only [Act.put, List.getElem_toArray, List.getElem_cons_succ, List.getElem_cons_zero, List.setIfInBounds_toArray, List.set_cons_zero, List.set_cons_succ]
        refine S_take (i := 7) (v := .bool false) rfl rfl (by kernel_rfl) (by kernel_rfl) (by kernel_rfl) (fun _ _ _ h => h) (Or.inl ⟨by rfl, fun W hw => by go_simp⟩) hS ?_
        simp only [Act.put, List.getElem_toArray, List.getElem_cons_succ, List.getElem_cons_zero, List.setIfInBounds_toArray, List.set_cons_zero, List.set_cons_succ]
        refine S_take (i := 8) (v := .pointer (some ⟨gp, 4, none⟩)) rfl rfl (by kernel_rfl) (by kernel_rfl) (by kernel_rfl) (fun _ _ _ h => h) (Or.inl ⟨by rfl, fun W hw => by go_simp⟩) hS ?_
        simp only [Act.put, List.getElem_toArray, List.getElem_cons_succ, List.getElem_cons_zero, List.setIfInBounds_toArray, List.set_cons_zero, List.set_cons_succ]
        refine S_take (i := 9) (v := .slice (some ad) q.sn.length q.cs') rfl rfl (by kernel_rfl) (by kernel_rfl) (by kernel_rfl) (fun _ _ _ h => h) (Or.inl ⟨by rfl, fun W hw => by have k0 : W.cell? ⟨gp, 4, none⟩ = some (.slice (some ad) q.sn.length q.cs') := (HP8.out W hw).cell 4; go_simp⟩) hS ?_
        simp only [Act.put, List.getElem_toArray, List.getElem_cons_succ, List.getElem_cons_zero, List.setIfInBounds_toArray, List.set_cons_zero, List.set_cons_succ]
        refine S_take (i := 10) (v := .int .i64 ((j : Nat) : Int)) rfl rfl (by kernel_rfl) (by kernel_rfl) (by kernel_rfl) (fun _ _ _ h => h) (Or.inl ⟨by rfl, fun W hw => by go_simp⟩) hS ?_
        simp only [Act.put, List.getElem_toArray, List.getElem_cons_succ, List.getElem_cons_zero, List.setIfInBounds_toArray, List.set_cons_zero, List.set_cons_succ]
        refine S_take (i := 11) (v := .pointer (some (ad.add (j * 11)))) rfl rfl (by kernel_rfl) (by kernel_rfl) (by kernel_rfl) (fun _ _ _ h => h) (Or.inl ⟨by rfl, fun W hw => by go_simp⟩) hS ?_
        simp only [Act.put, List.getElem_toArray, List.getElem_cons_succ, List.getElem_cons_zero, List.setIfInBounds_toArray, List.set_cons_zero, List.set_cons_succ]
        refine S_take (i := 12) (v := .pointer (some ((ad.add (j * 11)).add 0))) rfl rfl (by kernel_rfl) (by kernel_rfl) (by kernel_rfl) (fun _ _ _ h => h) (Or.inl ⟨by rfl, fun W hw => by go_simp⟩) hS ?_
        simp only [Act.put, List.getElem_toArray, List.getElem_cons_succ, List.getElem_cons_zero, List.setIfInBounds_toArray, List.set_cons_zero, List.set_cons_succ]
        refine S_take (i := 13) (v := .int .i64 s.num) rfl rfl (by kernel_rfl) (by kernel_rfl) (by kernel_rfl) (fun _ _ _ h => h) (Or.inl ⟨by rfl, fun W hw => by have k7 : W.cell? (ad.add (j * 11)) = some (.int .i64 s.num) := HRWJ.out W hw; go_simp⟩) hS ?_
        simp only [Act.put, List.getElem_toArray, List.getElem_cons_succ, List.getElem_cons_zero, List.setIfInBounds_toArray, List.set_cons_zero, List.set_cons_succ]
        refine S_take (i := 14) (v := .pointer (some ⟨g6, 0, none⟩)) rfl rfl (by kernel_rfl) (by kernel_rfl) (by kernel_rfl) (fun _ _ _ h => h) (Or.inl ⟨by rfl, fun W hw => by go_simp⟩) hS ?_
        simp only [Act.put, List.getElem_toArray, List.getElem_cons_succ, List.getElem_cons_zero, List.setIfInBounds_toArray, List.set_cons_zero, List.set_cons_succ]
        refine S_take (i := 15) (v := .int .i64 s.num) rfl rfl (by kernel_rfl) (by kernel_rfl) (by kernel_rfl) (fun _ _ _ h => h) (Or.inl ⟨by rfl, fun W hw => by have k0 : W.cell? ⟨g6, 0, none⟩ = some (.int .i64 s.num) := (HS8.out W hw).cell 0; go_simp⟩) hS ?_
        simp only [Act.put, List.getElem_toArray, List.getElem_cons_succ, List.getElem_cons_zero, List.setIfInBounds_toArray, List.set_cons_zero, List.set_cons_succ]
        refine S_take (i := 16) (v := .bool false) rfl rfl (by kernel_rfl) (by kernel_rfl) (by kernel_rfl) (fun _ _ _ h => h) (Or.inl ⟨by rfl, fun W hw => by go_simp⟩) hS ?_
        simp only [Act.put, List.getElem_toArray, List.getElem_cons_succ, List.getElem_cons_zero, List.setIfInBounds_toArray, List.set_cons_zero, List.set_cons_succ]
        refine S_take (i := 17) (v := .bool false) rfl rfl (by kernel_rfl) (by kernel_rfl) (by kernel_rfl) (fun _ _ _ h => h) (Or.inl ⟨by rfl, fun W hw => by go_simp⟩) hS ?_
        simp only [Act.put, List.getElem_toArray, List.getElem_cons_succ, List.getElem_cons_zero, List.setIfInBounds_toArray, List.set_cons_zero, List.set_cons_succ]
        refine S_take (i := 18) (v := .bool false) rfl rfl (by kernel_rfl) (by kernel_rfl) (by kernel_rfl) (fun _ _ _ h => h) (Or.inl ⟨by rfl, fun W hw => by go_simp⟩) hS ?_
        simp only [Act.put, List.getElem_toArray, List.getElem_cons_succ, List.getElem_cons_zero, List.setIfInBounds_toArray, List.set_cons_zero, List.set_cons_succ]
        refine S_take (i := 19) (v := .agg #[.int .i64 q.id, .int .i64 q.vw.size, .int .i64 q.obj, .int .i64 q.seq, .slice (some ad) q.sn.length q.cs', .bool q.vw.on, .bool q.vw.good, .slice q.vw.M q.vw.row.length q.vw.cm, .string (strOf q.vw.par), .int .i64 q.vw.ps, .int .i64 q.vw.ov, .int .i64 q.ow, .int .i64 q.it, .int .i64 q.tg]) rfl rfl (by kernel_rfl) (by kernel_rfl) (by kernel_rfl) (fun _ _ _ h => h) (Or.inl ⟨by rfl, fun W hw => by have k0 : W.cell? ⟨gp, 0, none⟩ = some (.int .i64 q.id) := (HP8.out W hw).cell 0; have k1 : W.cell? ⟨gp, 1, none⟩ = some (.int .i64 q.vw.size) := (HP8.out W hw).cell 1; have k2 : W.cell? ⟨gp, 2, none⟩ = some (.int .i64 q.obj) := (HP8.out W hw).cell 2; have k3 : W.cell? ⟨gp, 3, none⟩ = some (.int .i64 q.seq) := (HP8.out W hw).cell 3; have k4 : W.cell? ⟨gp, 4, none⟩ = some (.slice (some ad) q.sn.length q.cs') := (HP8.out W hw).cell 4; have k5 : W.cell? ⟨gp, 5, none⟩ = some (.bool q.vw.on) := (HP8.out W hw).cell 5; have k6 : W.cell? ⟨gp, 6, none⟩ = some (.bool q.vw.good) := (HP8.out W hw).cell 6; have k7 : W.cell? ⟨gp, 7, none⟩ = some (.slice q.vw.M q.vw.row.length q.vw.cm) := (HP8.out W hw).cell 7; have k8 : W.cell? ⟨gp, 8, none⟩ = some (.string (strOf q.vw.par)) := (HP8.out W hw).cell 8; have k9 : W.cell? ⟨gp, 9, none⟩ = some (.int .i64 q.vw.ps) := (HP8.out W hw).cell 9; have k10 : W.cell? ⟨gp, 10, none⟩ = some (.int .i64 q.vw.ov) := (HP8.out W hw).cell 10; have k11 : W.cell? ⟨gp, 11, none⟩ = some (.int .i64 q.ow) := (HP8.out W hw).cell 11; have k12 : W.cell? ⟨gp, 12, none⟩ = some (.int .i64 q.it) := (HP8.out W hw).cell 12; have k13 : W.cell? ⟨gp, 13, none⟩ = some (.int .i64 q.tg) := (HP8.out W hw).cell 13; go_simp⟩) hS ?_
        simp only [Act.put, List.getElem_toArray, List.getElem_cons_succ, List.getElem_cons_zero, List.setIfInBounds_toArray, List.set_cons_zero, List.set_cons_succ]
        refine L_one (j := 20) (by kernel_rfl) rfl (by rfl) ?_
        simp only [Act.put, List.getElem_toArray, List.getElem_cons_succ, List.getElem_cons_zero, List.setIfInBounds_toArray, List.set_cons_zero, List.set_cons_succ]
        refine wp_called (by go_simp) (HGD8.out _ hS) ?_
        rintro e W20 ⟨rfl, b⟩
        have hS : Below w8.heap.size w8 W20 := hS.trans (b.mono hS.size)
        clear b
        refine ⟨_, rfl, hS, ?_⟩
        simp only [Act.put, List.getElem_toArray, List.getElem_cons_succ, List.getElem_cons_zero, List.setIfInBounds_toArray, List.set_cons_zero, List.set_cons_succ]
        refine S_take (i := 21) (v := .bool true) rfl rfl (by kernel_rfl) (by kernel_rfl) (by kernel_rfl) (fun _ _ _ h => h) (Or.inl ⟨by rfl, fun W hw => by go_simp⟩) hS ?_
        simp only [Act.put, List.getElem_toArray, List.getElem_cons_succ, List.getElem_cons_zero, List.setIfInBounds_toArray, List.set_cons_zero, List.set_cons_succ]
        refine S_take (i := 22) (v := .int .i64 ((j : Nat) : Int)) rfl rfl (by kernel_rfl) (by kernel_rfl) (by kernel_rfl) (fun _ _ _ h => h) (Or.inl ⟨by rfl, fun W hw => by go_simp⟩) hS ?_
        simp only [Act.put, List.getElem_toArray, List.getElem_cons_succ, List.getElem_cons_zero, List.setIfInBounds_toArray, List.set_cons_zero, List.set_cons_succ]
        refine S_take (i := 23) (v := .int .i64 ((k : Nat) : Int)) rfl rfl (by kernel_rfl) (by kernel_rfl) (by kernel_rfl) (fun _ _ _ h => h) (Or.inl ⟨by rfl, fun W hw => by go_simp⟩) hS ?_
        simp only [Act.put, List.getElem_toArray, List.getElem_cons_succ, List.getElem_cons_zero, List.setIfInBounds_toArray, List.set_cons_zero, List.set_cons_succ]
        refine S_take (i := 24) (v := .bool false) rfl rfl (by kernel_rfl) (by kernel_rfl) (by kernel_rfl) (fun _ _ _ h => h) (Or.inl ⟨by rfl, fun W hw => by have k7 := V1.out; first | (go_simp; done) | (go_simp; exact k7)⟩) hS ?_
        simp only [Act.put, List.getElem_toArray, List.getElem_cons_succ, List.getElem_cons_zero, List.setIfInBounds_toArray, List.set_cons_zero, List.set_cons_succ]
        refine S_take (i := 25) (v := .bool false) rfl rfl (by kernel_rfl) (by kernel_rfl) (by kernel_rfl) (fun _ _ _ h => h) (Or.inl ⟨by rfl, fun W hw => by go_simp⟩) hS ?_
        simp only [Act.put, List.getElem_toArray, List.getElem_cons_succ, List.getElem_cons_zero, List.setIfInBounds_toArray, List.set_cons_zero, List.set_cons_succ]
        refine S_take (i := 26) (v := .bool false) rfl rfl (by kernel_rfl) (by kernel_rfl) (by kernel_rfl) (fun _ _ _ h => h) (Or.inl ⟨by rfl, fun W hw => by go_simp⟩) hS ?_
        simp only [Act.put, List.getElem_toArray, List.getElem_cons_succ, List.getElem_cons_zero, List.setIfInBounds_toArray, List.set_cons_zero, List.set_cons_succ]
        refine L_done (by kernel_rfl) ?_
        refine NoPanic.normal ?_
        have HS5 := Lib.hid hS
        have KP5 := HP8.out _ hS
        have k2 := (HS8.out _ hS).cell 2
        clear hS
        go_wp2_with (have _h := KP5; refine wpList_loadq rfl 36 (.tmp 8) rfl gp [.int .i64 q.id, .int .i64 q.vw.size, .int .i64 q.obj, .int .i64 q.seq, .slice (some ad) q.sn.length q.cs', .bool q.vw.on, .bool q.vw.good, .slice q.vw.M q.vw.row.length q.vw.cm, .string (strOf q.vw.par), .int .i64 q.vw.ps, .int .i64 q.vw.ov, .int .i64 q.ow, .int .i64 q.it, .int .i64 q.tg] _ rfl KP5 Try.underlying36 rfl (by kernel_rfl) ?_; clear _h KP5)
        refine (HFD8.out _ HS5.out).mono ?_
        rintro e W6 ⟨rfl, b6⟩
        have hS : Below w8.heap.size w8 W6.drew := (HS5.out.trans (b6.mono HS5.out.size)).drew
        clear b6
        go_upto_region 20 with (fail)
        refine any_beginL (fun W => Below w8.heap.size w8 W) 99 (by kernel_rfl) ?_
        refine S_take (i := 0) (v := .int .i64 ((m : Nat) : Int)) rfl rfl (by kernel_rfl) (by kernel_rfl) (by kernel_rfl) (fun _ _ _ h => h) (Or.inl ⟨by rfl, fun W hw => by go_simp⟩) hS ?_
        simp only [Act.put, List.getElem_toArray, List.getElem_cons_succ, List.getElem_cons_zero, List.setIfInBounds_toArray, List.set_cons_zero, List.set_cons_succ]
        refine S_take (i := 1) (v := .bool false) rfl rfl (by kernel_rfl) (by kernel_rfl) (by kernel_rfl) (fun _ _ _ h => h) (Or.inl ⟨by rfl, fun W hw => by go_simp⟩) hS ?_
        simp only [Act.put, List.getElem_toArray, List.getElem_cons_succ, List.getElem_cons_zero, List.setIfInBounds_toArray, List.set_cons_zero, List.set_cons_succ]
        refine S_take (i := 2) (v := .bool false) rfl rfl (by kernel_rfl) (by kernel_rfl) (by kernel_rfl) (fun _ _ _ h => h) (Or.inl ⟨by rfl, fun W hw => by go_simp⟩) hS ?_
        simp only [Act.put, List.getElem_toArray, List.getElem_cons_succ, List.getElem_cons_zero, List.setIfInBounds_toArray, List.set_cons_zero, List.set_cons_succ]
        refine S_take (i := 3) (v := .int .i64 ((m : Nat) : Int)) rfl rfl (by kernel_rfl) (by kernel_rfl) (by kernel_rfl) (fun _ _ _ h => h) (Or.inl ⟨by rfl, fun W hw => by go_simp⟩) hS ?_
        simp only [Act.put, List.getElem_toArray, List.getElem_cons_succ, List.getElem_cons_zero, List.setIfInBounds_toArray, List.set_cons_zero, List.set_cons_succ]
        refine S_take (i := 4) (v := .int .i64 ((k : Nat) : Int)) rfl rfl (by kernel_rfl) (by kernel_rfl) (by kernel_rfl) (fun _ _ _ h => h) (Or.inl ⟨by rfl, fun W hw => by go_simp⟩) hS ?_
        simp only [Act.put, List.getElem_toArray, List.getElem_cons_succ, List.getElem_cons_zero, List.setIfInBounds_toArray, List.set_cons_zero, List.set_cons_succ]
        refine S_take (i := 5) (v := .bool false) rfl rfl (by kernel_rfl) (by kernel_rfl) (by kernel_rfl) (fun _ _ _ h => h) (Or.inl ⟨by rfl, fun W hw => by go_simp⟩) hS ?_
        simp only [Act.put, List.getElem_toArray, List.getElem_cons_succ, List.getElem_cons_zero, List.setIfInBounds_toArray, List.set_cons_zero, List.set_cons_succ]
        refine S_take (i := 6) (v := .bool false) rfl rfl (by kernel_rfl) (by kernel_rfl) (by kernel_rfl) (fun _ _ _ h => h) (Or.inl ⟨by rfl, fun W hw => by go_simp⟩) hS ?_
        simp only [Act.put, List.getElem_toArray, List.getElem_cons_succ, List.getElem_cons_zero, List.setIfInBounds_toArray, List.set_cons_zero, List.set_cons_succ]
        refine S_take (i := 7) (v := .bool false) rfl rfl (by kernel_rfl) (by kernel_rfl) (by kernel_rfl) (fun _ _ _ h => h) (Or.inl ⟨by rfl, fun W hw => by go_simp⟩) hS ?_
        simp only [Act.put, List.getElem_toArray, List.getElem_cons_succ, List.getElem_cons_zero, List.setIfInBounds_toArray, List.set_cons_zero, List.set_cons_succ]
        refine S_take (i := 8) (v := .pointer (some ⟨gp, 4, none⟩)) rfl rfl (by kernel_rfl) (by kernel_rfl) (by kernel_rfl) (fun _ _ _ h => h) (Or.inl ⟨by rfl, fun W hw => by go_simp⟩) hS ?_
        simp only [Act.put, List.getElem_toArray, List.getElem_cons_succ, List.getElem_cons_zero, List.setIfInBounds_toArray, List.set_cons_zero, List.set_cons_succ]
        refine S_take (i := 9) (v := .slice (some ad) q.sn.length q.cs') rfl rfl (by kernel_rfl) (by kernel_rfl) (by kernel_rfl) (fun _ _ _ h => h) (Or.inl ⟨by rfl, fun W hw => by have k0 : W.cell? ⟨gp, 4, none⟩ = some (.slice (some ad) q.sn.length q.cs') := (HP8.out W hw).cell 4; go_simp⟩) hS ?_
        simp only [Act.put, List.getElem_toArray, List.getElem_cons_succ, List.getElem_cons_zero, List.setIfInBounds_toArray, List.set_cons_zero, List.set_cons_succ]
        refine S_take (i := 10) (v := .int .i64 ((m : Nat) : Int)) rfl rfl (by kernel_rfl) (by kernel_rfl) (by kernel_rfl) (fun _ _ _ h => h) (Or.inl ⟨by rfl, fun W hw => by go_simp⟩) hS ?_
        simp only [Act.put, List.getElem_toArray, List.getElem_cons_succ, List.getElem_cons_zero, List.setIfInBounds_toArray, List.set_cons_zero, List.set_cons_succ]
        refine S_take (i := 11) (v := .pointer (some (ad.add (m * 11)))) rfl rfl (by kernel_rfl) (by kernel_rfl) (by kernel_rfl) (fun _ _ _ h => h) (Or.inl ⟨by rfl, fun W hw => by go_simp⟩) hS ?_
        simp only [Act.put, List.getElem_toArray, List.getElem_cons_succ, List.getElem_cons_zero, List.setIfInBounds_toArray, List.set_cons_zero, List.set_cons_succ]
        refine S_take (i := 12) (v := .pointer (some ((ad.add (m * 11)).add 2))) rfl rfl (by kernel_rfl) (by kernel_rfl) (by kernel_rfl) (fun _ _ _ h => h) (Or.inl ⟨by rfl, fun W hw => by go_simp⟩) hS ?_
        simp only [Act.put, List.getElem_toArray, List.getElem_cons_succ, List.getElem_cons_zero, List.setIfInBounds_toArray, List.set_cons_zero, List.set_cons_succ]
        refine S_take (i := 13) (v := .string (strOf s.name)) rfl rfl (by kernel_rfl) (by kernel_rfl) (by kernel_rfl) (fun _ _ _ h => h) (Or.inl ⟨by rfl, fun W hw => by have k7 : W.cell? ⟨(ad.add (m * 11)).block, (ad.add (m * 11)).off + 2, none⟩ = some (.string (strOf s.name)) := HRWM.out W hw; go_simp⟩) hS ?_
        simp only [Act.put, List.getElem_toArray, List.getElem_cons_succ, List.getElem_cons_zero, List.setIfInBounds_toArray, List.set_cons_zero, List.set_cons_succ]
        refine S_take (i := 14) (v := .pointer (some ⟨g6, 2, none⟩)) rfl rfl (by kernel_rfl) (by kernel_rfl) (by kernel_rfl) (fun _ _ _ h => h) (Or.inl ⟨by rfl, fun W hw => by go_simp⟩) hS ?_
        simp only [Act.put, List.getElem_toArray, List.getElem_cons_succ, List.getElem_cons_zero, List.setIfInBounds_toArray, List.set_cons_zero, List.set_cons_succ]
        refine S_take (i := 15) (v := .string (strOf s.name)) rfl rfl (by kernel_rfl) (by kernel_rfl) (by kernel_rfl) (fun _ _ _ h => h) (Or.inl ⟨by rfl, fun W hw => by have k0 : W.cell? ⟨g6, 2, none⟩ = some (.string (strOf s.name)) := (HS8.out W hw).cell 2; go_simp⟩) hS ?_
        simp only [Act.put, List.getElem_toArray, List.getElem_cons_succ, List.getElem_cons_zero, List.setIfInBounds_toArray, List.set_cons_zero, List.set_cons_succ]
        refine S_take (i := 16) (v := .bool false) rfl rfl (by kernel_rfl) (by kernel_rfl) (by kernel_rfl) (fun _ _ _ h => h) (Or.inl ⟨by rfl, fun W hw => by go_simp⟩) hS ?_
        simp only [Act.put, List.getElem_toArray, List.getElem_cons_succ, List.getElem_cons_zero, List.setIfInBounds_toArray, List.set_cons_zero, List.set_cons_succ]
        refine S_take (i := 17) (v := .bool false) rfl rfl (by kernel_rfl) (by kernel_rfl) (by kernel_rfl) (fun _ _ _ h => h) (Or.inl ⟨by rfl, fun W hw => by go_simp⟩) hS ?_
        simp only [Act.put, List.getElem_toArray, List.getElem_cons_succ, List.getElem_cons_zero, List.setIfInBounds_toArray, List.set_cons_zero, List.set_cons_succ]
        refine S_take (i := 18) (v := .bool false) rfl rfl (by kernel_rfl) (by kernel_rfl) (by kernel_rfl) (fun _ _ _ h => h) (Or.inl ⟨by rfl, fun W hw => by go_simp⟩) hS ?_
        simp only [Act.put, List.getElem_toArray, List.getElem_cons_succ, List.getElem_cons_zero, List.setIfInBounds_toArray, List.set_cons_zero, List.set_cons_succ]
        refine S_take (i := 19) (v := .agg #[.int .i64 q.id, .int .i64 q.vw.size, .int .i64 q.obj, .int .i64 q.seq, .slice (some ad) q.sn.length q.cs', .bool q.vw.on, .bool q.vw.good, .slice q.vw.M q.vw.row.length q.vw.cm, .string (strOf q.vw.par), .int .i64 q.vw.ps, .int .i64 q.vw.ov, .int .i64 q.ow, .int .i64 q.it, .int .i64 q.tg]) rfl rfl (by kernel_rfl) (by kernel_rfl) (by kernel_rfl) (fun _ _ _ h => h) (Or.inl ⟨by rfl, fun W hw => by have k0 : W.cell? ⟨gp, 0, none⟩ = some (.int .i64 q.id) := (HP8.out W hw).cell 0; have k1 : W.cell? ⟨gp, 1, none⟩ = some (.int .i64 q.vw.size) := (HP8.out W hw).cell 1; have k2 : W.cell? ⟨gp, 2, none⟩ = some (.int .i64 q.obj) := (HP8.out W hw).cell 2; have k3 : W.cell? ⟨gp, 3, none⟩ = some (.int .i64 q.seq) := (HP8.out W hw).cell 3; have k4 : W.cell? ⟨gp, 4, none⟩ = some (.slice (some ad) q.sn.length q.cs') := (HP8.out W hw).cell 4; have k5 : W.cell? ⟨gp, 5, none⟩ = some (.bool q.vw.on) := (HP8.out W hw).cell 5; have k6 : W.cell? ⟨gp, 6, none⟩ = some (.bool q.vw.good) := (HP8.out W hw).cell 6; have k7 : W.cell? ⟨gp, 7, none⟩ = some (.slice q.vw.M q.vw.row.length q.vw.cm) := (HP8.out W hw).cell 7; have k8 : W.cell? ⟨gp, 8, none⟩ = some (.string (strOf q.vw.par)) := (HP8.out W hw).cell 8; have k9 : W.cell? ⟨gp, 9, none⟩ = some (.int .i64 q.vw.ps) := (HP8.out W hw).cell 9; have k10 : W.cell? ⟨gp, 10, none⟩ = some (.int .i64 q.vw.ov) := (HP8.out W hw).cell 10; have k11 : W.cell? ⟨gp, 11, none⟩ = some (.int .i64 q.ow) := (HP8.out W hw).cell 11; have k12 : W.cell? ⟨gp, 12, none⟩ = some (.int .i64 q.it) := (HP8.out W hw).cell 12; have k13 : W.cell? ⟨gp, 13, none⟩ = some (.int .i64 q.tg) := (HP8.out W hw).cell 13; go_simp⟩) hS ?_
        simp only [Act.put, List.getElem_toArray, List.getElem_cons_succ, List.getElem_cons_zero, List.setIfInBounds_toArray, List.set_cons_zero, List.set_cons_succ]
        refine L_one (j := 20) (by kernel_rfl) rfl (by rfl) ?_
        simp only [Act.put, List.getElem_toArray, List.getElem_cons_succ, List.getElem_cons_zero, List.setIfInBounds_toArray, List.set_cons_zero, List.set_cons_succ]
        refine wp_called (by go_simp) (HGD8.out _ hS) ?_
        rintro e W20 ⟨rfl, b⟩
        have hS : Below w8.heap.size w8 W20 := hS.trans (b.mono hS.size)
        clear b
        refine ⟨_, rfl, hS, ?_⟩
        simp only [Act.put, List.getElem_toArray, List.getElem_cons_succ, List.getElem_cons_zero, List.setIfInBounds_toArray, List.set_cons_zero, List.set_cons_succ]
        refine S_take (i := 21) (v := .bool true) rfl rfl (by kernel_rfl) (by kernel_rfl) (by kernel_rfl) (fun _ _ _ h => h) (Or.inl ⟨by rfl, fun W hw => by go_simp⟩) hS ?_
        simp only [Act.put, List.getElem_toArray, List.getElem_cons_succ, List.getElem_cons_zero, List.setIfInBounds_toArray, List.set_cons_zero, List.set_cons_succ]
        refine S_take (i := 22) (v := .int .i64 ((m : Nat) : Int)) rfl rfl (by kernel_rfl) (by kernel_rfl) (by kernel_rfl) (fun _ _ _ h => h) (Or.inl ⟨by rfl, fun W hw => by go_simp⟩) hS ?_
        simp only [Act.put, List.getElem_toArray, List.getElem_cons_succ, List.getElem_cons_zero, List.setIfInBounds_toArray, List.set_cons_zero, List.set_cons_succ]
        refine S_take (i := 23) (v := .int .i64 ((k : Nat) : Int)) rfl rfl (by kernel_rfl) (by kernel_rfl) (by kernel_rfl) (fun _ _ _ h => h) (Or.inl ⟨by rfl, fun W hw => by go_simp⟩) hS ?_
        simp only [Act.put, List.getElem_toArray, List.getElem_cons_succ, List.getElem_cons_zero, List.setIfInBounds_toArray, List.set_cons_zero, List.set_cons_succ]
        refine S_take (i := 24) (v := .bool false) rfl rfl (by kernel_rfl) (by kernel_rfl) (by kernel_rfl) (fun _ _ _ h => h) (Or.inl ⟨by rfl, fun W hw => by have k7 := V2.out; first | (go_simp; done) | (go_simp; exact k7)⟩) hS ?_
        simp only [Act.put, List.getElem_toArray, List.getElem_cons_succ, List.getElem_cons_zero, List.setIfInBounds_toArray, List.set_cons_zero, List.set_cons_succ]
        refine S_take (i := 25) (v := .bool false) rfl rfl (by kernel_rfl) (by kernel_rfl) (by kernel_rfl) (fun _ _ _ h => h) (Or.inl ⟨by rfl, fun W hw => by go_simp⟩) hS ?_
        simp only [Act.put, List.getElem_toArray, List.getElem_cons_succ, List.getElem_cons_zero, List.setIfInBounds_toArray, List.set_cons_zero, List.set_cons_succ]
        refine S_take (i := 26) (v := .bool false) rfl rfl (by kernel_rfl) (by kernel_rfl) (by kernel_rfl) (fun _ _ _ h => h) (Or.inl ⟨by rfl, fun W hw => by go_simp⟩) hS ?_
        simp only [Act.put, List.getElem_toArray, List.getElem_cons_succ, List.getElem_cons_zero, List.setIfInBounds_toArray, List.set_cons_zero, List.set_cons_succ]
        refine L_done (by kernel_rfl) ?_
        refine NoPanic.normal ?_
        have HS7 := Lib.hid hS
        clear hS
        go_wp2
        exact ⟨⟨k + 1, by omega, by go_num, HBR.out.trans ((HB8.out.trans (HS7.out.mono HB8.out.size)).mono HBR.out.size)⟩, by simp only [intOf]; omega⟩
      | false =>
        clear HONE
        go_upto_region 17 with (fail)
        refine any_beginL (fun W => Below w8.heap.size w8 W) 99 (by kernel_rfl) ?_
        refine S_take (i := 0) (v := .int .i64 ((j : Nat) : Int)) rfl rfl (by kernel_rfl) (by kernel_rfl) (by kernel_rfl) (fun _ _ _ h => h) (Or.inl ⟨by rfl, fun W hw => by go_simp⟩) hS ?_
        simp only [Act.put, List.getElem_toArray, List.getElem_cons_succ, List.getElem_cons_zero, List.setIfInBounds_toArray, List.set_cons_zero, List.set_cons_succ]
        refine S_take (i := 1) (v := .bool false) rfl rfl (by kernel_rfl) (by kernel_rfl) (by kernel_rfl) (fun _ _ _ h => h) (Or.inl ⟨by rfl, fun W hw => by go_simp⟩) hS ?_
        simp only [Act.put, List.getElem_toArray, List.getElem_cons_succ, List.getElem_cons_zero, List.setIfInBounds_toArray, List.set_cons_zero, List.set_cons_succ]
        refine S_take (i := 2) (v := .bool false) rfl rfl (by kernel_rfl) (by kernel_rfl) (by kernel_rfl) (fun _ _ _ h => h) (Or.inl ⟨by rfl, fun W hw => by go_simp⟩) hS ?_
        simp only [Act.put, List.getElem_toArray, List.getElem_cons_succ, List.getElem_cons_zero, List.setIfInBounds_toArray, List.set_cons_zero, List.set_cons_succ]
        refine S_take (i := 3) (v := .int .i64 ((j : Nat) : Int)) rfl rfl (by kernel_rfl) (by kernel_rfl) (by kernel_rfl) (fun _ _ _ h => h) (Or.inl ⟨by rfl, fun W hw => by go_simp⟩) hS ?_
        simp only [Act.put, List.getElem_toArray, List.getElem_cons_succ, List.getElem_cons_zero, List.setIfInBounds_toArray, List.set_cons_zero, List.set_cons_succ]
        refine S_take (i := 4) (v := .int .i64 ((k : Nat) : Int)) rfl rfl (by kernel_rfl) (by kernel_rfl) (by kernel_rfl) (fun _ _ _ h => h) (Or.inl ⟨by rfl, fun W hw => by go_simp⟩) hS ?_
        simp only [Act.put, List.getElem_toArray, List.getElem_cons_succ, List.getElem_cons_zero, List.setIfInBounds_toArray, List.set_cons_zero, List.set_cons_succ]
        refine S_take (i := 5) (v := .bool false) rfl rfl (by kernel_rfl) (by kernel_rfl) (by kernel_rfl) (fun _ _ _ h => h) (Or.inl ⟨by rfl, fun W hw => by go_simp⟩) hS ?_
        simp only [Act.put, List.getElem_toArray, List.getElem_cons_succ, List.getElem_cons_zero, List.setIfInBounds_toArray, List.set_cons_zero, List.set_cons_succ]
        refine S_take (i := 6) (v := .bool false) rfl rfl (by kernel_rfl) (by kernel_rfl) (by kernel_rfl) (fun _ _ _ h => h) (Or.inl ⟨by rfl, fun W hw => by go_simp⟩) hS ?_
        simp only [Act.put, List.getElem_toArray, List.getElem_cons_succ, List.getElem_cons_zero, List.setIfInBounds_toArray, List.set_cons_zero, List.set_cons_succ]
        refine S_take (i := 7) (v := .bool false) rfl rfl (by kernel_rfl) (by kernel_rfl) (by kernel_rfl) (fun _ _ _ h => h) (Or.inl ⟨by rfl, fun W hw => by go_simp⟩) hS ?_
        simp only [Act.put, List.getElem_toArray, List.getElem_cons_succ, List.getElem_cons_zero, List.setIfInBounds_toArray, List.set_cons_zero, List.set_cons_succ]
        refine S_take (i := 8) (v := .pointer (some ⟨gp, 4, none⟩)) rfl rfl (by kernel_rfl) (by kernel_rfl) (by kernel_rfl) (fun _ _ _ h => h) (Or.inl ⟨by rfl, fun W hw => by go_simp⟩) hS ?_
        simp only [Act.put, List.getElem_toArray, List.getElem_cons_succ, List.getElem_cons_zero, List.setIfInBounds_toArray, List.set_cons_zero, List.set_cons_succ]
        refine S_take (i := 9) (v := .slice (some ad) q.sn.length q.cs') rfl rfl (by kernel_rfl) (by kernel_rfl) (by kernel_rfl) (fun _ _ _ h => h) (Or.inl ⟨by rfl, fun W hw => by have k0 : W.cell? ⟨gp, 4, none⟩ = some (.slice (some ad) q.sn.length q.cs') := (HP8.out W hw).cell 4; go_simp⟩) hS ?_
        simp only [Act.put, List.getElem_toArray, List.getElem_cons_succ, List.getElem_cons_zero, List.setIfInBounds_toArray, List.set_cons_zero, List.set_cons_succ]
        refine S_take (i := 10) (v := .int .i64 ((j : Nat) : Int)) rfl rfl (by kernel_rfl) (by kernel_rfl) (by kernel_rfl) (fun _ _ _ h => h) (Or.inl ⟨by rfl, fun W hw => by go_simp⟩) hS ?_
        simp only [Act.put, List.getElem_toArray, List.getElem_cons_succ, List.getElem_cons_zero, List.setIfInBounds_toArray, List.set_cons_zero, List.set_cons_succ]
        refine S_take (i := 11) (v := .pointer (some (ad.add (j * 11)))) rfl rfl (by kernel_rfl) (by kernel_rfl) (by kernel_rfl) (fun _ _ _ h => h) (Or.inl ⟨by rfl, fun W hw => by go_simp⟩) hS ?_
        simp only [Act.put, List.getElem_toArray, List.getElem_cons_succ, List.getElem_cons_zero, List.setIfInBounds_toArray, List.set_cons_zero, List.set_cons_succ]
        refine S_take (i := 12) (v := .pointer (some ((ad.add (j * 11)).add 0))) rfl rfl (by kernel_rfl) (by kernel_rfl) (by kernel_rfl) (fun _ _ _ h => h) (Or.inl ⟨by rfl, fun W hw => by go_simp⟩) hS ?_
        simp only [Act.put, List.getElem_toArray, List.getElem_cons_succ, List.getElem_cons_zero, List.setIfInBounds_toArray, List.set_cons_zero, List.set_cons_succ]
        refine S_take (i := 13) (v := .int .i64 s.num) rfl rfl (by kernel_rfl) (by kernel_rfl) (by kernel_rfl) (fun _ _ _ h => h) (Or.inl ⟨by rfl, fun W hw => by have k7 : W.cell? (ad.add (j * 11)) = some (.int .i64 s.num) := HRWJ.out W hw; go_simp⟩) hS ?_
        simp only [Act.put, List.getElem_toArray, List.getElem_cons_succ, List.getElem_cons_zero, List.setIfInBounds_toArray, List.set_cons_zero, List.set_cons_succ]
        refine S_take (i := 14) (v := .pointer (some ⟨g6, 0, none⟩)) rfl rfl (by kernel_rfl) (by kernel_rfl) (by kernel_rfl) (fun _ _ _ h => h) (Or.inl ⟨by rfl, fun W hw => by go_simp⟩) hS ?_
        simp only [Act.put, List.getElem_toArray, List.getElem_cons_succ, List.getElem_cons_zero, List.setIfInBounds_toArray, List.set_cons_zero, List.set_cons_succ]
        refine S_take (i := 15) (v := .int .i64 s.num) rfl rfl (by kernel_rfl) (by kernel_rfl) (by kernel_rfl) (fun _ _ _ h => h) (Or.inl ⟨by rfl, fun W hw => by have k0 : W.cell? ⟨g6, 0, none⟩ = some (.int .i64 s.num) := (HS8.out W hw).cell 0; go_simp⟩) hS ?_
        simp only [Act.put, List.getElem_toArray, List.getElem_cons_succ, List.getElem_cons_zero, List.setIfInBounds_toArray, List.set_cons_zero, List.set_cons_succ]
        refine S_take (i := 16) (v := .bool false) rfl rfl (by kernel_rfl) (by kernel_rfl) (by kernel_rfl) (fun _ _ _ h => h) (Or.inl ⟨by rfl, fun W hw => by go_simp⟩) hS ?_
        simp only [Act.put, List.getElem_toArray, List.getElem_cons_succ, List.getElem_cons_zero, List.setIfInBounds_toArray, List.set_cons_zero, List.set_cons_succ]
        refine S_take (i := 17) (v := .bool false) rfl rfl (by kernel_rfl) (by kernel_rfl) (by kernel_rfl) (fun _ _ _ h => h) (Or.inl ⟨by rfl, fun W hw => by go_simp⟩) hS ?_
        simp only [Act.put, List.getElem_toArray, List.getElem_cons_succ, List.getElem_cons_zero, List.setIfInBounds_toArray, List.set_cons_zero, List.set_cons_succ]
        refine S_take (i := 18) (v := .bool false) rfl rfl (by kernel_rfl) (by kernel_rfl) (by kernel_rfl) (fun _ _ _ h => h) (Or.inl ⟨by rfl, fun W hw => by go_simp⟩) hS ?_
        simp only [Act.put, List.getElem_toArray, List.getElem_cons_succ, List.getElem_cons_zero, List.setIfInBounds_toArray, List.set_cons_zero, List.set_cons_succ]
        refine S_take (i := 19) (v := .agg #[.int .i64 q.id, .int .i64 q.vw.size, .int .i64 q.obj, .int .i64 q.seq, .slice (some ad) q.sn.length q.cs', .bool q.vw.on, .bool q.vw.good, .slice q.vw.M q.vw.row.length q.vw.cm, .string (strOf q.vw.par), .int .i64 q.vw.ps, .int .i64 q.vw.ov, .int .i64 q.ow, .int .i64 q.it, .int .i64 q.tg]) rfl rfl (by kernel_rfl) (by kernel_rfl) (by kernel_rfl) (fun _ _ _ h => h) (Or.inl ⟨by rfl, fun W hw => by have k0 : W.cell? ⟨gp, 0, none⟩ = some (.int .i64 q.id) := (HP8.out W hw).cell 0; have k1 : W.cell? ⟨gp, 1, none⟩ = some (.int .i64 q.vw.size) := (HP8.out W hw).cell 1; have k2 : W.cell? ⟨gp, 2, none⟩ = some (.int .i64 q.obj) := (HP8.out W hw).cell 2; have k3 : W.cell? ⟨gp, 3, none⟩ = some (.int .i64 q.seq) := (HP8.out W hw).cell 3; have k4 : W.cell? ⟨gp, 4, none⟩ = some (.slice (some ad) q.sn.length q.cs') := (HP8.out W hw).cell 4; have k5 : W.cell? ⟨gp, 5, none⟩ = some (.bool q.vw.on) := (HP8.out W hw).cell 5; have k6 : W.cell? ⟨gp, 6, none⟩ = some (.bool q.vw.good) := (HP8.out W hw).cell 6; have k7 : W.cell? ⟨gp, 7, none⟩ = some (.slice q.vw.M q.vw.row.length q.vw.cm) := (HP8.out W hw).cell 7; have k8 : W.cell? ⟨gp, 8, none⟩ = some (.string (strOf q.vw.par)) := (HP8.out W hw).cell 8; have k9 : W.cell? ⟨gp, 9, none⟩ = some (.int .i64 q.vw.ps) := (HP8.out W hw).cell 9; have k10 : W.cell? ⟨gp, 10, none⟩ = some (.int .i64 q.vw.ov) := (HP8.out W hw).cell 10; have k11 : W.cell? ⟨gp, 11, none⟩ = some (.int .i64 q.ow) := (HP8.out W hw).cell 11; have k12 : W.cell? ⟨gp, 12, none⟩ = some (.int .i64 q.it) := (HP8.out W hw).cell 12; have k13 : W.cell? ⟨gp, 13, none⟩ = some (.int .i64 q.tg) := (HP8.out W hw).cell 13; go_simp⟩) hS ?_
        simp only [Act.put, List.getElem_toArray, List.getElem_cons_succ, List.getElem_cons_zero, List.setIfInBounds_toArray, List.set_cons_zero, List.set_cons_succ]
        refine L_one (j := 20) (by kernel_rfl) rfl (by rfl) ?_
        simp only [Act.put, List.getElem_toArray, List.getElem_cons_succ, List.getElem_cons_zero, List.setIfInBounds_toArray, List.set_cons_zero, List.set_cons_succ]
        refine wp_called (by go_simp) (HGD8.out _ hS) ?_
        rintro e W20 ⟨rfl, b⟩
        have hS : Below w8.heap.size w8 W20 := hS.trans (b.mono hS.size)
        clear b
        refine ⟨_, rfl, hS, ?_⟩
        simp only [Act.put, List.getElem_toArray, List.getElem_cons_succ, List.getElem_cons_zero, List.setIfInBounds_toArray, List.set_cons_zero, List.set_cons_succ]
        refine S_take (i := 21) (v := .bool false) rfl rfl (by kernel_rfl) (by kernel_rfl) (by kernel_rfl) (fun _ _ _ h => h) (Or.inl ⟨by rfl, fun W hw => by go_simp⟩) hS ?_
        simp only [Act.put, List.getElem_toArray, List.getElem_cons_succ, List.getElem_cons_zero, List.setIfInBounds_toArray, List.set_cons_zero, List.set_cons_succ]
        refine S_take (i := 22) (v := undef) rfl rfl (by kernel_rfl) (by kernel_rfl) (by kernel_rfl) (fun _ _ _ h => h) (Or.inr ⟨by rfl, rfl⟩) hS ?_
        simp only [Act.put, List.getElem_toArray, List.getElem_cons_succ, List.getElem_cons_zero, List.setIfInBounds_toArray, List.set_cons_zero, List.set_cons_succ]
        refine S_take (i := 23) (v := undef) rfl rfl (by kernel_rfl) (by kernel_rfl) (by kernel_rfl) (fun _ _ _ h => h) (Or.inr ⟨by rfl, rfl⟩) hS ?_
        simp only [Act.put, List.getElem_toArray, List.getElem_cons_succ, List.getElem_cons_zero, List.setIfInBounds_toArray, List.set_cons_zero, List.set_cons_succ]
        refine S_take (i := 24) (v := undef) rfl rfl (by kernel_rfl) (by kernel_rfl) (by kernel_rfl) (fun _ _ _ h => h) (Or.inr ⟨by rfl, rfl⟩) hS ?_
        simp only [Act.put, List.getElem_toArray, List.getElem_cons_succ, List.getElem_cons_zero, List.setIfInBounds_toArray, List.set_cons_zero, List.set_cons_succ]
        refine S_take (i := 25) (v := .bool false) rfl rfl (by kernel_rfl) (by kernel_rfl) (by kernel_rfl) (fun _ _ _ h => h) (Or.inl ⟨by rfl, fun W hw => by go_simp⟩) hS ?_
        simp only [Act.put, List.getElem_toArray, List.getElem_cons_succ, List.getElem_cons_zero, List.setIfInBounds_toArray, List.set_cons_zero, List.set_cons_succ]
        refine S_take (i := 26) (v := .bool false) rfl rfl (by kernel_rfl) (by kernel_rfl) (by kernel_rfl) (fun _ _ _ h => h) (Or.inl ⟨by rfl, fun W hw => by go_simp⟩) hS ?_
        simp only [Act.put, List.getElem_toArray, List.getElem_cons_succ, List.getElem_cons_zero, List.setIfInBounds_toArray, List.set_cons_zero, List.set_cons_succ]
        refine L_done (by kernel_rfl) ?_
        refine NoPanic.normal ?_
        have HS5 := Lib.hid hS
        have KP5 := HP8.out _ hS
        have k2 := (HS8.out _ hS).cell 2
        clear hS
        go_wp2_with (have _h := KP5; refine wpList_loadq rfl 36 (.tmp 8) rfl gp [.int .i64 q.id, .int .i64 q.vw.size, .int .i64 q.obj, .int .i64 q.seq, .slice (some ad) q.sn.length q.cs', .bool q.vw.on, .bool q.vw.good, .slice q.vw.M q.vw.row.length q.vw.cm, .string (strOf q.vw.par), .int .i64 q.vw.ps, .int .i64 q.vw.ov, .int .i64 q.ow, .int .i64 q.it, .int .i64 q.tg] _ rfl KP5 Try.underlying36 rfl (by kernel_rfl) ?_; clear _h KP5)
        refine (HFD8.out _ HS5.out).mono ?_
        rintro e W6 ⟨rfl, b6⟩
        have hS : Below w8.heap.size w8 W6.drew := (HS5.out.trans (b6.mono HS5.out.size)).drew
        clear b6
        go_upto_region 20 with (fail)
        refine any_beginL (fun W => Below w8.heap.size w8 W) 99 (by kernel_rfl) ?_
        refine S_take (i := 0) (v := .int .i64 ((m : Nat) : Int)) rfl rfl (by kernel_rfl) (by kernel_rfl) (by kernel_rfl) (fun _ _ _ h => h) (Or.inl ⟨by rfl, fun W hw => by go_simp⟩) hS ?_
        simp only [Act.put, List.getElem_toArray, List.getElem_cons_succ, List.getElem_cons_zero, List.setIfInBounds_toArray, List.set_cons_zero, List.set_cons_succ]
        refine S_take (i := 1) (v := .bool false) rfl rfl (by kernel_rfl) (by kernel_rfl) (by kernel_rfl) (fun _ _ _ h => h) (Or.inl ⟨by rfl, fun W hw => by go_simp⟩) hS ?_
        simp only [Act.put, List.getElem_toArray, List.getElem_cons_succ, List.getElem_cons_zero, List.setIfInBounds_toArray, List.set_cons_zero, List.set_cons_succ]
        refine S_take (i := 2) (v := .bool false) rfl rfl (by kernel_rfl) (by kernel_rfl) (by kernel_rfl) (fun _ _ _ h => h) (Or.inl ⟨by rfl, fun W hw => by go_simp⟩) hS ?_
        simp only [Act.put, List.getElem_toArray, List.getElem_cons_succ, List.getElem_cons_zero, List.setIfInBounds_toArray, List.set_cons_zero, List.set_cons_succ]
        refine S_take (i := 3) (v := .int .i64 ((m : Nat) : Int)) rfl rfl (by kernel_rfl) (by kernel_rfl) (by kernel_rfl) (fun _ _ _ h => h) (Or.inl ⟨by rfl, fun W hw => by go_simp⟩) hS ?_
        simp only [Act.put, List.getElem_toArray, List.getElem_cons_succ, List.getElem_cons_zero, List.setIfInBounds_toArray, List.set_cons_zero, List.set_cons_succ]
        refine S_take (i := 4) (v := .int .i64 ((k : Nat) : Int)) rfl rfl (by kernel_rfl) (by kernel_rfl) (by kernel_rfl) (fun _ _ _ h => h) (Or.inl ⟨by rfl, fun W hw => by go_simp⟩) hS ?_
        simp only [Act.put, List.getElem_toArray, List.getElem_cons_succ, List.getElem_cons_zero, List.setIfInBounds_toArray, List.set_cons_zero, List.set_cons_succ]
        refine S_take (i := 5) (v := .bool false) rfl rfl (by kernel_rfl) (by kernel_rfl) (by kernel_rfl) (fun _ _ _ h => h) (Or.inl ⟨by rfl, fun W hw => by go_simp⟩) hS ?_
        simp only [Act.put, List.getElem_toArray, List.getElem_cons_succ, List.getElem_cons_zero, List.setIfInBounds_toArray, List.set_cons_zero, List.set_cons_succ]
        refine S_take (i := 6) (v := .bool false) rfl rfl (by kernel_rfl) (by kernel_rfl) (by kernel_rfl) (fun _ _ _ h => h) (Or.inl ⟨by rfl, fun W hw => by go_simp⟩) hS ?_
        simp only [Act.put, List.getElem_toArray, List.getElem_cons_succ, List.getElem_cons_zero, List.setIfInBounds_toArray, List.set_cons_zero, List.set_cons_succ]
        refine S_take (i := 7) (v := .bool false) rfl rfl (by kernel_rfl) (by kernel_rfl) (by kernel_rfl) (fun _ _ _ h => h) (Or.inl ⟨by rfl, fun W hw => by go_simp⟩) hS ?_
        simp only [Act.put, List.getElem_toArray, List.getElem_cons_succ, List.getElem_cons_zero, List.setIfInBounds_toArray, List.set_cons_zero, List.set_cons_succ]
        refine S_take (i := 8) (v := .pointer (some ⟨gp, 4, none⟩)) rfl rfl (by kernel_rfl) (by kernel_rfl) (by kernel_rfl) (fun _ _ _ h => h) (Or.inl ⟨by rfl, fun W hw => by go_simp⟩) hS ?_
        simp only [Act.put, List.getElem_toArray, List.getElem_cons_succ, List.getElem_cons_zero, List.setIfInBounds_toArray, List.set_cons_zero, List.set_cons_succ]
        refine S_take (i := 9) (v := .slice (some ad) q.sn.length q.cs') rfl rfl (by kernel_rfl) (by kernel_rfl) (by kernel_rfl) (fun _ _ _ h => h) (Or.inl ⟨by rfl, fun W hw => by have k0 : W.cell? ⟨gp, 4, none⟩ = some (.slice (some ad) q.sn.length q.cs') := (HP8.out W hw).cell 4; go_simp⟩) hS ?_
        simp only [Act.put, List.getElem_toArray, List.getElem_cons_succ, List.getElem_cons_zero, List.setIfInBounds_toArray, List.set_cons_zero, List.set_cons_succ]
        refine S_take (i := 10) (v := .int .i64 ((m : Nat) : Int)) rfl rfl (by kernel_rfl) (by kernel_rfl) (by kernel_rfl) (fun _ _ _ h => h) (Or.inl ⟨by rfl, fun W hw => by go_simp⟩) hS ?_
        simp only [Act.put, List.getElem_toArray, List.getElem_cons_succ, List.getElem_cons_zero, List.setIfInBounds_toArray, List.set_cons_zero, List.set_cons_succ]
        refine S_take (i := 11) (v := .pointer (some (ad.add (m * 11)))) rfl rfl (by kernel_rfl) (by kernel_rfl) (by kernel_rfl) (fun _ _ _ h => h) (Or.inl ⟨by rfl, fun W hw => by go_simp⟩) hS ?_
        simp only [Act.put, List.getElem_toArray, List.getElem_cons_succ, List.getElem_cons_zero, List.setIfInBounds_toArray, List.set_cons_zero, List.set_cons_succ]
        refine S_take (i := 12) (v := .pointer (some ((ad.add (m * 11)).add 2))) rfl rfl (by kernel_rfl) (by kernel_rfl) (by kernel_rfl) (fun _ _ _ h => h) (Or.inl ⟨by rfl, fun W hw => by go_simp⟩) hS ?_
        simp only [Act.put, List.getElem_toArray, List.getElem_cons_succ, List.getElem_cons_zero, List.setIfInBounds_toArray, List.set_cons_zero, List.set_cons_succ]
        refine S_take (i := 13) (v := .string (strOf s.name)) rfl rfl (by kernel_rfl) (by kernel_rfl) (by kernel_rfl) (fun _ _ _ h => h) (Or.inl ⟨by rfl, fun W hw => by have k7 : W.cell? ⟨(ad.add (m * 11)).block, (ad.add (m * 11)).off + 2, none⟩ = some (.string (strOf s.name)) := HRWM.out W hw; go_simp⟩) hS ?_
        simp only [Act.put, List.getElem_toArray, List.getElem_cons_succ, List.getElem_cons_zero, List.setIfInBounds_toArray, List.set_cons_zero, List.set_cons_succ]
        refine S_take (i := 14) (v := .pointer (some ⟨g6, 2, none⟩)) rfl rfl (by kernel_rfl) (by kernel_rfl) (by kernel_rfl) (fun _ _ _ h => h) (Or.inl ⟨by rfl, fun W hw => by go_simp⟩) hS ?_
        simp only [Act.put, List.getElem_toArray, List.getElem_cons_succ, List.getElem_cons_zero, List.setIfInBounds_toArray, List.set_cons_zero, List.set_cons_succ]
        refine S_take (i := 15) (v := .string (strOf s.name)) rfl rfl (by kernel_rfl) (by kernel_rfl) (by kernel_rfl) (fun _ _ _ h => h) (Or.inl ⟨by rfl, fun W hw => by have k0 : W.cell? ⟨g6, 2, none⟩ = some (.string (strOf s.name)) := (HS8.out W hw).cell 2; go_simp⟩) hS ?_
        simp only [Act.put, List.getElem_toArray, List.getElem_cons_succ, List.getElem_cons_zero, List.setIfInBounds_toArray, List.set_cons_zero, List.set_cons_succ]
        refine S_take (i := 16) (v := .bool false) rfl rfl (by kernel_rfl) (by kernel_rfl) (by kernel_rfl) (fun _ _ _ h => h) (Or.inl ⟨by rfl, fun W hw => by go_simp⟩) hS ?_
        simp only [Act.put, List.getElem_toArray, List.getElem_cons_succ, List.getElem_cons_zero, List.setIfInBounds_toArray, List.set_cons_zero, List.set_cons_succ]
        refine S_take (i := 17) (v := .bool false) rfl rfl (by kernel_rfl) (by kernel_rfl) (by kernel_rfl) (fun _ _ _ h => h) (Or.inl ⟨by rfl, fun W hw => by go_simp⟩) hS ?_
        simp only [Act.put, List.getElem_toArray, List.getElem_cons_succ, List.getElem_cons_zero, List.setIfInBounds_toArray, List.set_cons_zero, List.set_cons_succ]
        refine S_take (i := 18) (v := .bool false) rfl rfl (by kernel_rfl) (by kernel_rfl) (by kernel_rfl) (fun _ _ _ h => h) (Or.inl ⟨by rfl, fun W hw => by go_simp⟩) hS ?_
        simp only [Act.put, List.getElem_toArray, List.getElem_cons_succ, List.getElem_cons_zero, List.setIfInBounds_toArray, List.set_cons_zero, List.set_cons_succ]
        refine S_take (i := 19) (v := .agg #[.int .i64 q.id, .int .i64 q.vw.size, .int .i64 q.obj, .int .i64 q.seq, .slice (some ad) q.sn.length q.cs', .bool q.vw.on, .bool q.vw.good, .slice q.vw.M q.vw.row.length q.vw.cm, .string (strOf q.vw.par), .int .i64 q.vw.ps, .int .i64 q.vw.ov, .int .i64 q.ow, .int .i64 q.it, .int .i64 q.tg]) rfl rfl (by kernel_rfl) (by kernel_rfl) (by kernel_rfl) (fun _ _ _ h => h) (Or.inl ⟨by rfl, fun W hw => by have k0 : W.cell? ⟨gp, 0, none⟩ = some (.int .i64 q.id) := (HP8.out W hw).cell 0; have k1 : W.cell? ⟨gp, 1, none⟩ = some (.int .i64 q.vw.size) := (HP8.out W hw).cell 1; have k2 : W.cell? ⟨gp, 2, none⟩ = some (.int .i64 q.obj) := (HP8.out W hw).cell 2; have k3 : W.cell? ⟨gp, 3, none⟩ = some (.int .i64 q.seq) := (HP8.out W hw).cell 3; have k4 : W.cell? ⟨gp, 4, none⟩ = some (.slice (some ad) q.sn.length q.cs') := (HP8.out W hw).cell 4; have k5 : W.cell? ⟨gp, 5, none⟩ = some (.bool q.vw.on) := (HP8.out W hw).cell 5; have k6 : W.cell? ⟨gp, 6, none⟩ = some (.bool q.vw.good) := (HP8.out W hw).cell 6; have k7 : W.cell? ⟨gp, 7, none⟩ = some (.slice q.vw.M q.vw.row.length q.vw.cm) := (HP8.out W hw).cell 7; have k8 : W.cell? ⟨gp, 8, none⟩ = some (.string (strOf q.vw.par)) := (HP8.out W hw).cell 8; have k9 : W.cell? ⟨gp, 9, none⟩ = some (.int .i64 q.vw.ps) := (HP8.out W hw).cell 9; have k10 : W.cell? ⟨gp, 10, none⟩ = some (.int .i64 q.vw.ov) := (HP8.out W hw).cell 10; have k11 : W.cell? ⟨gp, 11, none⟩ = some (.int .i64 q.ow) := (HP8.out W hw).cell 11; have k12 : W.cell? ⟨gp, 12, none⟩ = some (.int .i64 q.it) := (HP8.out W hw).cell 12; have k13 : W.cell? ⟨gp, 13, none⟩ = some (.int .i64 q.tg) := (HP8.out W hw).cell 13; go_simp⟩) hS ?_
        simp only [Act.put, List.getElem_toArray, List.getElem_cons_succ, List.getElem_cons_zero, List.setIfInBounds_toArray, List.set_cons_zero, List.set_cons_succ]
        refine L_one (j := 20) (by kernel_rfl) rfl (by rfl) ?_
        simp only [Act.put, List.getElem_toArray, List.getElem_cons_succ, List.getElem_cons_zero, List.setIfInBounds_toArray, List.set_cons_zero, List.set_cons_succ]
        refine wp_called (by go_simp) (HGD8.out _ hS) ?_
        rintro e W20 ⟨rfl, b⟩
        have hS : Below w8.heap.size w8 W20 := hS.trans (b.mono hS.size)
        clear b
        refine ⟨_, rfl, hS, ?_⟩
        simp only [Act.put, List.getElem_toArray, List.getElem_cons_succ, List.getElem_cons_zero, List.setIfInBounds_toArray, List.set_cons_zero, List.set_cons_succ]
        refine S_take (i := 21) (v := .bool false) rfl rfl (by kernel_rfl) (by kernel_rfl) (by kernel_rfl) (fun _ _ _ h => h) (Or.inl ⟨by rfl, fun W hw => by go_simp⟩) hS ?_
        simp only [Act.put, List.getElem_toArray, List.getElem_cons_succ, List.getElem_cons_zero, List.setIfInBounds_toArray, List.set_cons_zero, List.set_cons_succ]
        refine S_take (i := 22) (v := undef) rfl rfl (by kernel_rfl) (by kernel_rfl) (by kernel_rfl) (fun _ _ _ h => h) (Or.inr ⟨by rfl, rfl⟩) hS ?_
        simp only [Act.put, List.getElem_toArray, List.getElem_cons_succ, List.getElem_cons_zero, List.setIfInBounds_toArray, List.set_cons_zero, List.set_cons_succ]
        refine S_take (i := 23) (v := undef) rfl rfl (by kernel_rfl) (by kernel_rfl) (by kernel_rfl) (fun _ _ _ h => h) (Or.inr ⟨by rfl, rfl⟩) hS ?_
        simp only [Act.put, List.getElem_toArray, List.getElem_cons_succ, List.getElem_cons_zero, List.setIfInBounds_toArray, List.set_cons_zero, List.set_cons_succ]
        refine S_take (i := 24) (v := undef) rfl rfl (by kernel_rfl) (by kernel_rfl) (by kernel_rfl) (fun _ _ _ h => h) (Or.inr ⟨by rfl, rfl⟩) hS ?_
        simp only [Act.put, List.getElem_toArray, List.getElem_cons_succ, List.getElem_cons_zero, List.setIfInBounds_toArray, List.set_cons_zero, List.set_cons_succ]
        refine S_take (i := 25) (v := .bool false) rfl rfl (by kernel_rfl) (by kernel_rfl) (by kernel_rfl) (fun _ _ _ h => h) (Or.inl ⟨by rfl, fun W hw => by go_simp⟩) hS ?_
        simp only [Act.put, List.getElem_toArray, List.getElem_cons_succ, List.getElem_cons_zero, List.setIfInBounds_toArray, List.set_cons_zero, List.set_cons_succ]
        refine S_take (i := 26) (v := .bool false) rfl rfl (by kernel_rfl) (by kernel_rfl) (by kernel_rfl) (fun _ _ _ h => h) (Or.inl ⟨by rfl, fun W hw => by go_simp⟩) hS ?_
        simp only [Act.put, List.getElem_toArray, List.getElem_cons_succ, List.getElem_cons_zero, List.setIfInBounds_toArray, List.set_cons_zero, List.set_cons_succ]
        refine L_done (by kernel_rfl) ?_
        refine NoPanic.normal ?_
        have HS7 := Lib.hid hS
        clear hS
        go_wp2
        exact ⟨⟨k + 1, by omega, by go_num, HBR.out.trans ((HB8.out.trans (HS7.out.mono HB8.out.size)).mono HBR.out.size)⟩, by simp only [intOf]; omega⟩
    · obtain rfl : k = q.sn.length := by omega
      go_wp2
      go_ret
      exact ⟨rfl, HE9.out.trans (HBR.out.mono HE9.out.size)⟩
end Go.Proofs.Ytebahllihpokkaa
