/-
  The law JournalKeeps, walked: it returns true and changes nothing that was there. Condition: the package's table holds its sixteen numbers.
-/
import Derived.Test.YtpklcmocjimcpaaDoorZj
import Derived.Test.YtpklcmocjimcpaaDoorJoutC
import Derived.Test.YtpklcmocjimcpaaDoorJreC
import Derived.Test.YtpklcmocjimcpaaDoorJorC
import Derived.Test.YtpklcmocjimcpaaDoorOpenKC
import Derived.Deep.LoopGhost
import Derived.Deep.CutRange
import Derived.Deep.DeepCutAuto
import Derived.Deep.CutBlock
namespace Go.Proofs.YtpklcmocjimcpaaDoor
open Go.RowKit Go.Shelf Go.BigFrame
set_option maxRecDepth 100000
attribute [local go_sem] Oper.semAt_some
set_option linter.unusedSimpArgs false
set_option linter.unusedVariables false
theorem L_two {P : Program} {ops : Array Oper} {Q : Exit → Act → World → Prop} {md : Region.Mode} {S : World → Prop} {L : Nat} {i j : Nat} {oi oj : Oper} {f : Nat} {l : Array Bool} {a : Act} {w : World} (hr : Region.ready md ops l = [i, j]) (hoi : ops[i]? = some oi) (hoj : ops[j]? = some oj) (hwi : Region.wanted oi (yielded ops a.tmps) = true) (hwj : Region.wanted oj (yielded ops a.tmps) = true)
    (hi : Oper.wp P oi a w (fun a' w' => S w' ∧ wpAnyL P md ops Q S L f (l.setIfInBounds i true) a' w') Q) (hj : Oper.wp P oj a w (fun a' w' => S w' ∧ wpAnyL P md ops Q S L f (l.setIfInBounds j true) a' w') Q) : wpAnyL P md ops Q S L (f + 1) l a w := by
  refine ⟨fun h0 => absurd (hr ▸ h0) (by simp), fun k hk => ?_⟩
  rw [hr] at hk
  simp only [List.mem_cons, List.not_mem_nil, or_false] at hk
  rcases hk with rfl | rfl
  · refine wpOp_step hoi (fun K hK => ?_)
    rw [if_pos hwi]
    exact Oper.wp_mono (fun a' w' h' => hK a' w' ⟨fun _ => h'.1, h'.2⟩) hi
  · refine wpOp_step hoj (fun K hK => ?_)
    rw [if_pos hwj]
    exact Oper.wp_mono (fun a' w' h' => hK a' w' ⟨fun _ => h'.1, h'.2⟩) hj
section
variable {w0 w : World} {g gj n gen u : Nat} {d : DM} {st : List Nat} {txs : List (List Nat)} {X : List Nat}
theorem JAt.arm (h : JAt w0 w g gj d n gen st txs u X) (k : Int) (hk : -9223372036854775808 ≤ k) :
    Calls Tryd.prog 11 #[.pointer (some ⟨g, 0, none⟩), .int .i64 k] w fun e w' => e = .returned (errV (armErr k)) ∧ JAt w0 w' g gj (d.arm k) n gen st txs u X ∧ (∀ q ∈ X, w'.heap[q]? = w.heap[q]?) ∧ w.heap.size ≤ w'.heap.size := by
  obtain ⟨A, c, vt, us, h1, h2, h3, h4, h5, h6⟩ := h
  refine (hold_arm h1 k hk).mono ?_
  rintro e w' ⟨rfl, r1, r2⟩
  refine ⟨rfl, ⟨A, c, vt, us, r1, r2.blk (by simp) h2, row_of h3 (fun q hq => r2.2 q (by simp [rowOf_slice _ _ _ hq])), h4.of (fun q hq => r2.2 q (by simp [hq])), h5, h6⟩, fun q hq => r2.2 q (by simp [hq]), r2.1⟩
end
def firstB : List Nat := [102, 105, 114, 115, 116]
/-- the law's own state and transactions, beside the journal's, on an armed disk -/
def KeepAt (w wr : World) (g gj fb k : Nat) (vS vT : Value) (X : List Nat) : Prop := ∃ (f : Int → Sec) (s l gen : Nat) (st : List Nat) (txs : List (List Nat)) (u : Nat) (AS : Option Addr) (cS : Nat) (AT : Option Addr) (cT : Nat) (usT : List Value),
  vS = .slice AS st.length cS ∧ Bytes wr wr.heap.size AS st.length st ∧ (0 < st.length → ∀ q ∈ blkOf AS, q = fb ∨ q < w.heap.size) ∧ vT = .slice AT txs.length cT ∧ wr.ownsRow w.heap.size 34 1 (.slice AT txs.length cT) txs.length usT ∧
  (∀ (i : Nat) (t : List Nat), txs[i]? = some t → ∃ A' c, usT[i]? = some (.slice A' t.length c) ∧ Bytes w w.heap.size A' t.length t) ∧
  JAt w wr g gj (DM.arms 40 f s l) 40 gen st txs u (X ++ (fb :: rowOf (.slice AT txs.length cT))) ∧ JFine f 40 gen st txs u ∧ s ≤ 60 * k + 100 ∧ l ≤ 9223372036854775807 ∧ gen ≤ k + 1 ∧ txs.length ≤ k ∧ st.length ≤ 600 ∧ ∀ t ∈ txs, t.length ≤ 600 ∧ ∀ b ∈ t, b < 256
/-- behind the script: what the one holds, and what the other -/
def DoneAt (w wr : World) (g : Nat) (vS vT vS' vT' : Value) : Prop := ∃ (d : DM) (st : List Nat) (txs : List (List Nat)) (st' : List Nat) (txs' : List (List Nat)) (AS : Option Addr) (cS : Nat) (AT : Option Addr) (cT : Nat) (usT : List Value) (AS' : Option Addr) (cS' : Nat) (AT' : Option Addr) (cT' : Nat) (usT' : List Value) (X : List Nat),
  Holds w wr g d X ∧ d.n = 40 ∧ Cuts d 40 st txs st' txs' ∧
  vS = .slice AS st.length cS ∧ Bytes wr wr.heap.size AS st.length st ∧ (0 < st.length → ∀ q ∈ blkOf AS, q ∈ X ∨ q < w.heap.size) ∧ vT = .slice AT txs.length cT ∧ wr.ownsRow w.heap.size 34 1 (.slice AT txs.length cT) txs.length usT ∧ (∀ q ∈ rowOf (.slice AT txs.length cT), q ∈ X) ∧
  (∀ (i : Nat) (t : List Nat), txs[i]? = some t → ∃ A' c, usT[i]? = some (.slice A' t.length c) ∧ Bytes w w.heap.size A' t.length t) ∧
  vS' = .slice AS' st'.length cS' ∧ Bytes wr wr.heap.size AS' st'.length st' ∧ (0 < st'.length → ∀ q ∈ blkOf AS', q ∈ X ∨ q < w.heap.size) ∧ vT' = .slice AT' txs'.length cT' ∧ wr.ownsRow w.heap.size 34 1 (.slice AT' txs'.length cT') txs'.length usT' ∧ (∀ q ∈ rowOf (.slice AT' txs'.length cT'), q ∈ X) ∧
  (∀ (i : Nat) (t : List Nat), txs'[i]? = some t → ∃ A' c, usT'[i]? = some (.slice A' t.length c) ∧ Bytes w w.heap.size A' t.length t) ∧
  st.length ≤ 600 ∧ st'.length ≤ 600 ∧ txs.length ≤ 50 ∧ txs'.length ≤ 50 ∧ (∀ t ∈ txs, t.length ≤ 600 ∧ ∀ b ∈ t, b < 256) ∧ (∀ t ∈ txs', t.length ≤ 600 ∧ ∀ b ∈ t, b < 256)
theorem KeepAt.since {w wr : World} {g gj fb k : Nat} {vS vT : Value} {X : List Nat} (h : KeepAt w wr g gj fb k vS vT X) : Below w.heap.size w wr := by
  obtain ⟨f, s, l, gen, st, txs, u, AS, cS, AT, cT, usT, h1, h2, h3, h4, h5, h6, h7, h8⟩ := h
  exact h7.holds.since
theorem KeepAt.push {w wr : World} {g gj fb k : Nat} {vS vT : Value} {X : List Nat} (h : KeepAt w wr g gj fb k vS vT X) (o : Obj) : KeepAt w (wr.alloc o) g gj fb k vS vT (wr.heap.size :: X) := by
  obtain ⟨f, s, l, gen, st, txs, u, AS, cS, AT, cT, usT, h1, h2, h3, h4, h5, h6, h7, h8⟩ := h
  have hb : Below wr.heap.size wr (wr.alloc o) := (Below.refl _ _).alloc (Nat.le_refl _) _
  exact ⟨f, s, l, gen, st, txs, u, AS, cS, AT, cT, usT, h1, h2.up o, h3, h4, World.ownsRow.alloc h5 o, h6, h7.more hb (Y := [wr.heap.size]) (fun q hq => by simp at hq; subst hq; exact .inr (.inr ⟨Nat.le_refl _, by simp⟩)), h8⟩
theorem bytes_stay {w w5 w6 : World} {A : Option Addr} {bs : List Nat} {Y : List Nat} (h : Bytes w5 w5.heap.size A bs.length bs) (hA : 0 < bs.length → ∀ q ∈ blkOf A, q ∈ Y ∨ q < w.heap.size) (hY : ∀ q ∈ Y, w6.heap[q]? = w5.heap[q]?) (h5 : Below w.heap.size w w5) (h6 : Below w.heap.size w w6) (hs : w5.heap.size ≤ w6.heap.size) : Bytes w6 w6.heap.size A bs.length bs := by
  rcases Nat.eq_zero_or_pos bs.length with h0 | h0
  · exact ⟨⟨h.1.1, fun hn => absurd hn (by omega)⟩, h.2⟩
  · refine ⟨h.1.blk (fun q hq => ?_) hs, h.2⟩
    rcases hA h0 q hq with hq | hq
    · exact hY q hq
    · exact (h6.block q hq).trans (h5.block q hq).symm
theorem KeepAt.done {w wr : World} {g gj fb k : Nat} {vS vT : Value} {X : List Nat} (h : KeepAt w wr g gj fb k vS vT X) (hk : k ≤ 41) : DoneAt w wr g vS vT vS vT := by
  obtain ⟨f, s, l, gen, st, txs, u, AS, cS, AT, cT, usT, h1, h2, h3, h4, h5, h6, h7, h8, h9, h10, h11, h12, h13, h14⟩ := h
  have hX : 0 < st.length → ∀ q ∈ blkOf AS, q ∈ X ++ (fb :: rowOf (.slice AT txs.length cT)) ∨ q < w.heap.size := fun h0 q hq => by
    rcases h3 h0 q hq with rfl | h
    · exact .inl (by simp)
    · exact .inr h
  exact ⟨DM.arms 40 f s l, st, txs, st, txs, AS, cS, AT, cT, usT, AS, cS, AT, cT, usT, _, h7.holds, rfl, arms_cuts h8, h1, h2, hX, h4, h5, fun q hq => by simp [hq], h6, h1, h2, hX, h4, h5, fun q hq => by simp [hq], h6, h13, h13, by omega, by omega, h14, h14⟩
theorem wpIn_at {F : Fence} {n : Nat} {P : Program} {c : Code} {Q : Exit → Act → World → Prop} {a : Act} {w : World} (h : ∀ A, A = a → c.wpIn F n P Q A w) : c.wpIn F n P Q a w := h a rfl
theorem hold_crash_x {w0 w : World} {g : Nat} {d : DM} {X : List Nat} (h : Holds w0 w g d X) (hw : d.wait.length ≤ 1000000) (A : Option Addr) (c B : Nat) (keep : List Bool) (hR : Reads w B 1 A keep.length (flags keep)) (hA : ∀ k ∈ blkOf A, k ∈ X) :
    Calls Tryd.prog 15 #[.pointer (some ⟨g, 0, none⟩), .slice A keep.length c] w fun e w' => e = .returned (.tuple #[]) ∧ Holds w0 w' g (d.crash keep) X ∧ Keep X w w' := by
  obtain ⟨F, h1, h2, h3⟩ := h
  exact (crash_any w _ g F d A c B keep h1 hw (fun W' ho => hR.blk (fun k hk => ho.block k (h3 k (hA k hk)).2 (h3 k (hA k hk)).1) (Nat.le_refl _))).mono fun e w' ⟨he, ht⟩ => ⟨he, Holds.to h1 h2 h3 ht⟩
theorem keeps_results (W : World) (tmps : Array Value) (v : Value) (h : tmps.getD 6 undef = v) : (results Tryd.f3 tmps).run Tryd.prog W = .ok v W := by
  have h' : tmps[6]?.getD undef = v := by simpa using h
  unfold results
  rw [Tryd.results3]
  simp [h']
set_option maxRecDepth 100000 in
set_option maxHeartbeats 16000000 in
theorem keeps_in (A0 : Option Addr) (n0 c0 : Nat) (os : List JOpV) (m0 : n0 ≤ 9223372036854775807) (arm : Int) (ma : -9223372036854775808 ≤ arm) (oa : arm ≤ 9223372036854775807) (A2 : Option Addr) (c2 : Nat) (keep : List Bool) (w : World) (hS : JCells w w.heap.size A0 n0 os ∧ ∀ o ∈ os, o.At w w.heap.size ∧ o.Fit ∧ o.Wide) (hK : Reads w w.heap.size 1 A2 keep.length (flags keep)) (mk : keep.length ≤ 9223372036854775807) (hT : Tab w) :
    CallsIn Fence.wide 5 Tryd.prog 3 #[.slice A0 n0 c0, .int .i64 arm, .slice A2 keep.length c2] w fun e w' => e = .returned (.bool true) ∧ Below w.heap.size w w' := by
  have hro : Fence.wide.round = none := rfl
  have h1 : 1 ≤ 5 := by omega
  have hpos := hT.pos
  have HS := Lib.hid hS
  have HT := Lib.hid hT
  have HK := Lib.hid hK
  clear hS hT hK
  refine callsIn_of_wp_marks Tryd.func3 rfl trivial ?_ hro
  simp only [Tryd.ntmps3, List.size_toArray, List.length_cons, List.length_nil, Nat.reduceAdd, Nat.reduceSub, Array.replicate_succ, Array.replicate_zero, List.push_toArray, List.append_toArray, List.nil_append, List.cons_append]
  refine wpIn_wide.2 ?_
  have kc := fun (w : World) (C : Array Value) (n c : Nat) => Lib.run_convert_bytes_const (P := Tryd.prog) w 34 5 C n c Tryd.underlying34 Tryd.underlying5
  go_wp2_with fail
  refine (jalive_any w HT.out hpos).mono ?_
  rintro e w1 ⟨rfl, b1⟩
  have B1 := Lib.hid b1
  clear b1
  go_wp2_with fail
  refine (jlarge_any A0 n0 c0 os w.heap.size w1 (Reads.below HS.out.1 B1.out) B1.out.size m0 (fun o ho => ⟨((HS.out.2 o ho).2.1).1, ((HS.out.2 o ho).2.1).2.1⟩)).mono ?_
  rintro e w1' ⟨r, rfl, bl, hr⟩
  have B2 := Lib.hid (B1.out.trans (bl.mono B1.out.size))
  clear bl
  cases r with
  | true =>
    clear hr
    go_wp2
    exact ⟨_, keeps_results _ _ _ rfl, rfl, B2.out⟩
  | false =>
    obtain ⟨hn41, hsmall⟩ := hr rfl
    have HSM := Lib.hid hsmall
    clear hr hsmall
    by_cases ha0 : arm < 0
    · have hda : decide (arm < 0) = true := by simpa using ha0
      go_wp2
      exact ⟨_, keeps_results _ _ _ rfl, rfl, B2.out⟩
    · by_cases hk200 : 200 < keep.length
      · have hda : decide (arm < 0) = false := by simpa using ha0
        have hdk : decide (200 < (keep.length : Int)) = true := by simp; omega
        go_wp2
        exact ⟨_, keeps_results _ _ _ rfl, rfl, B2.out⟩
      · have hda : decide (arm < 0) = false := by simpa using ha0
        have hdk : decide (200 < (keep.length : Int)) = false := by simp; omega
        obtain ⟨am, rfl⟩ : ∃ am : Nat, arm = (am : Int) := ⟨arm.toNat, by omega⟩
        have hae : armErr (am : Int) = 0 := by unfold armErr; rw [if_neg ha0]
        have HAE := Lib.hid hae
        clear hae
        go_wp2_with fail
        refine (new_good w1' w.heap.size 40 (by omega) (by omega) B2.out.size).mono ?_
        intro e w2 hm
        obtain ⟨g, rfl, h2⟩ := Holds.made B2.out hm
        rw [idle_new] at h2
        have hs2 := h2.size
        have T2 := Lib.hid (tab_below HT.out h2.since hpos)
        have hst : Bytes (w2.alloc (.cells (u8s firstB).toArray 5 (5, 6))) (w2.heap.size + 1) (some ⟨w2.heap.size, 0, none⟩) 5 firstB := Bytes.new w2 firstB 5 (5, 6) (by decide)
        have H2 := Lib.hid (h2.push (.cells (u8s firstB).toArray 5 (5, 6)))
        have T2' := Lib.hid (tab_below T2.out ((Below.refl w2.heap.size w2).alloc (Nat.le_refl _) (.cells (u8s firstB).toArray 5 (5, 6))) (by omega))
        have HST := Lib.hid hst
        have hfit : pn firstB ≤ areaOf 40 := by decide
        obtain ⟨f1, f2⟩ := idle_fmt 40 0 0 (fun _ => Sec.zero) firstB (by omega) hfit
        have F1 := Lib.hid f1
        have F2 := Lib.hid f2
        have OK1 := Lib.hid (JFine.format (n := 40) (st := firstB) (by omega) (by omega) hfit (by decide) (by decide))
        have e0 : (u8s firstB).toArray = #[.int .u8 102, .int .u8 105, .int .u8 114, .int .u8 115, .int .u8 116] := rfl
        rw [e0] at H2 T2' HST
        clear hm h2 hst f1 f2 e0
        go_wp2_with fail
        have hz1 : (w2.alloc (.cells #[.int .u8 102, .int .u8 105, .int .u8 114, .int .u8 115, .int .u8 116] 5 (5, 6))).heap.size = w2.heap.size + 1 := by simp
        have HB1 := Lib.hid (H2.out.since)
        generalize hwa : w2.alloc (.cells #[.int .u8 102, .int .u8 105, .int .u8 114, .int .u8 115, .int .u8 116] 5 (5, 6)) = wa at *
        generalize hga : w2.heap.size = ga at *
        clear hwa hga
        refine (format_good (n := 40) H2.out rfl (by omega) (by omega) (some ⟨ga, 0, none⟩) 5 firstB (HST.out.more (by rw [hz1]; omega)) (by decide) (by decide) (by omega) hfit T2'.out hpos (fun k hk => by simpa [blkOf] using hk) (idle_far (by decide) (by omega) (by decide)) (by rw [F1.out]) (by rw [F2.out])).mono ?_
        rintro e w3 ⟨gj, B, cc, rfl, h3, j3, o3, k3, hg3, hn3⟩
        rw [F2.out] at h3
        have hsa := HB1.out.size
        have J3 := Lib.hid ((JAt.formatted hsa (by simp; omega) h3 j3 o3 hg3).mono (Y := []) (by simp))
        clear h3 j3 o3 k3 hn3
        go_wp2_with fail
        refine (J3.out.arm (am : Int) (by omega)).mono ?_
        rintro e w4 ⟨rfl, j4, k4, s4⟩
        rw [HAE.out, idle_arm] at *
        have J4 := Lib.hid j4
        clear j4 k4 s4
        simp only [errV]
        have e0 : (u8s firstB).toArray = #[.int .u8 102, .int .u8 105, .int .u8 114, .int .u8 115, .int .u8 116] := rfl
        have hby := Bytes.new w4 firstB 5 (5, 6) (by decide)
        rw [e0] at hby
        have hb5 : Below w4.heap.size w4 ((w4.alloc (.cells #[.int .u8 102, .int .u8 105, .int .u8 114, .int .u8 115, .int .u8 116] 5 (5, 6))).alloc (.cells #[] 34)) := ((Below.refl _ _).alloc (Nat.le_refl _) _).alloc (by simp) _
        have hs5 : ((w4.alloc (.cells #[.int .u8 102, .int .u8 105, .int .u8 114, .int .u8 115, .int .u8 116] 5 (5, 6))).alloc (.cells #[] 34)).heap.size = w4.heap.size + 2 := by simp
        have hs5' : (w4.alloc (.cells #[.int .u8 102, .int .u8 105, .int .u8 114, .int .u8 115, .int .u8 116] 5 (5, 6))).heap.size = w4.heap.size + 1 := by simp
        have hle4 := J4.out.holds.since.size
        have hr5 : ((w4.alloc (.cells #[.int .u8 102, .int .u8 105, .int .u8 114, .int .u8 115, .int .u8 116] 5 (5, 6))).alloc (.cells #[] 34)).ownsRow w.heap.size 34 1 (.slice (some ⟨w4.heap.size + 1, 0, none⟩) 0 0) 0 [] :=
          ⟨rfl, .inr ⟨w4.heap.size + 1, 0, #[], rfl, by omega, by have := Blk.new (w4.alloc (.cells #[.int .u8 102, .int .u8 105, .int .u8 114, .int .u8 115, .int .u8 116] 5 (5, 6))) 34 #[]; rw [hs5'] at this; exact this, Nat.le_refl _, by simp [maxLen], rfl, rfl⟩⟩
        have hby5 : Bytes ((w4.alloc (.cells #[.int .u8 102, .int .u8 105, .int .u8 114, .int .u8 115, .int .u8 116] 5 (5, 6))).alloc (.cells #[] 34)) (w4.heap.size + 2) (some ⟨w4.heap.size, 0, none⟩) 5 firstB := (hby.alloc (by rw [hs5']; exact Nat.le_refl _) _).more (by omega)
        have K4 := Lib.hid (show KeepAt w ((w4.alloc (.cells #[.int .u8 102, .int .u8 105, .int .u8 114, .int .u8 115, .int .u8 116] 5 (5, 6))).alloc (.cells #[] 34)) g gj w4.heap.size 0 (.slice (some ⟨w4.heap.size, 0, none⟩) 5 5) (.slice (some ⟨w4.heap.size + 1, 0, none⟩) 0 0) [] from
          ⟨_, _, am, 1, firstB, [], 0, some ⟨w4.heap.size, 0, none⟩, 5, some ⟨w4.heap.size + 1, 0, none⟩, 0, [], rfl, by rw [hs5]; exact hby5, fun _ q hq => by simp [blkOf] at hq; exact .inl hq, rfl, hr5, fun i t h => by simp at h,
            (J4.out.more hb5 (Y := [w4.heap.size, w4.heap.size + 1]) (fun k hk => by simp at hk; exact .inr (.inr (by omega)))).mono (fun k hk => by simpa [rowOf, Value.ownBlock] using hk), OK1.out, by decide, by omega, by omega, by simp, by decide, by simp⟩)
        clear hby hb5 hr5 hby5 J4 OK1 J3 F1 F2 H2 HST T2 T2' HB1 e0
        go_upto_block 0 with (fail)
        generalize hw5 : (w4.alloc (.cells #[.int .u8 102, .int .u8 105, .int .u8 114, .int .u8 115, .int .u8 116] 5 (5, 6))).alloc (.cells #[] 34) = w5 at *
        generalize hfb : w4.heap.size = fb at *
        clear hw5 hs5' hfb
        go_cut [8, 10, 11, 12, 13] from 14 to 101 (fun e a b c d wx => DoneAt w wx g a b c d)
        case first =>
          -- {K1
          go_wp2_with fail
          go_loopg [8, 10, 11, 12, 13, 15, 64] n0 (fun gk e a b c d x i wr => ∃ k : Nat, k ≤ n0 ∧ gk = n0 - k ∧ i = .int .i64 k ∧ c = a ∧ d = b ∧ KeepAt w wr g gj fb k a b [])
          case atStart => exact ⟨0, by omega, by omega, rfl, rfl, rfl, K4.out⟩
          case round =>
            obtain ⟨k, hk, rfl, rfl, rfl, rfl, hord⟩ := hrel
            have hsince := hord.since
            by_cases hlt : k < n0
            · obtain ⟨ad, o, rfl, ho, hc⟩ := (show JCells wr w.heap.size A0 n0 os from Reads.below HS.out.1 hsince).get hlt
              have hmem := List.mem_of_getElem? ho
              obtain ⟨hat, hft, hwd⟩ := HS.out.2 o hmem
              have hsm := (HSM.out o hmem).1
              have hu := Tryd.underlying38
              have hi : (Tryd.prog.info? 38).map (·.size) = some o.cs.length := jop_size
              have hzo := jop_zero
              have B0 := Lib.hid (Blk.new wr 38 o.cs.toArray)
              have OR0 := Lib.hid (hord.push (.cells o.cs.toArray 38))
              have hk0 : (0 : Int) ≤ (k : Int) := by omega
              have hk1 : (k : Int) < (n0 : Int) := by omega
              have HAT := Lib.hid hat
              have HFT := Lib.hid hft
              have hszw := hsince.size
              clear hord ho hmem hat hft hwd hsince
              go_upto_region 17 with (first
                  | (refine wpList_load_at rfl 38 (.tmp 66) rfl _ rfl o.cs _ hc hu rfl hi ?_)
                  | (refine wpList_store_newN rfl 38 (.tmp 15) (.tmp 67) rfl wr.heap.size rfl o.cs _ rfl rfl hi rfl o.one ?_))
              generalize hgb : wr.heap.size = gb at *
              generalize wr.alloc (.cells o.cs.toArray 38) = w5 at *
              clear hc hzo
              obtain ⟨f, s, l, gen, st, txs, u, AS, cS, AT, cT, usT, rfl, x2, x3, rfl, x4, x5, x6, x7, x8, x8', x9, x10, x11, x12⟩ := OR0.out
              have hJB : Blk w5 gb 38 o.cs.toArray := B0.out
              have hule := x7.ok.ule
              have hbt : Bytes w5 w5.heap.size o.A o.b.length o.b := (HAT.out.b.below x6.holds.since).more x6.holds.since.size
              have hAx : 0 < o.b.length → ∀ q ∈ blkOf o.A, q ∈ gb :: (([] : List Nat) ++ (fb :: rowOf (.slice AT txs.length cT))) ∨ q < w.heap.size := fun hl q hq => by
                obtain ⟨ad, e, hB, -⟩ := HAT.out.b.1.2 hl
                rw [e] at hq
                simp only [blkOf, List.mem_singleton] at hq
                subst hq
                exact .inr hB
              have HBT := Lib.hid hbt
              have HAX := Lib.hid hAx
              have HX := Lib.hid (And.intro x2 (And.intro x3 (And.intro x4 (And.intro x5 (And.intro x6 (And.intro x7 x12))))))
              have JB := Lib.hid hJB
              have HTW := Lib.hid (tab_below HT.out x6.holds.since hpos)
              clear hbt hAx x2 x3 x4 x5 x6 x7 x12 hJB
              by_cases hk1' : o.kind = 1
              · have q0 : w5.cell? ⟨gb, 0, none⟩ = some (.int .i64 1) := by rw [JB.out.cell]; show some (Value.int .i64 o.kind) = _; rw [hk1']
                have q2 : w5.cell? ⟨gb, 2, none⟩ = some (.slice o.A o.b.length o.c) := JB.out.cell 2
                clear hk1'
                go_wp2_with fail
                refine (HX.out.2.2.2.2.1.append_out HX.out.2.2.2.2.2.1 o.A o.c o.b HBT.out (by omega) HFT.out.2.2.1 HFT.out.2.2.2 HTW.out hpos HAX.out (by omega) x8' (by omega)).mono ?_
                rintro e w6 ⟨m, rfl, k6, s6, out⟩
                have q2 : w6.cell? ⟨gb, 2, none⟩ = some (.slice o.A o.b.length o.c) := (World.cell?_of_block (k6 gb (by simp))).trans q2
                have hgb6 : gb < w6.heap.size := Nat.lt_of_lt_of_le JB.out.lt s6
                have HK6 := Lib.hid (show ∀ q ∈ gb :: fb :: rowOf (.slice AT txs.length cT), w6.heap[q]? = w5.heap[q]? from k6)
                have HR6 := Lib.hid (row_of HX.out.2.2.1 (w' := w6) (fun q hq => k6 q (by simp [hq])))
                have hul : usT.length = txs.length := by have := HX.out.2.2.1.1; omega
                have HUL := Lib.hid hul
                have HONE := Lib.hid (show ∀ u ∈ usT, u.oneCell' = true from fun x hx => by
                  obtain ⟨i, hi, rfl⟩ := List.mem_iff_getElem.1 hx
                  obtain ⟨A', c', e1, -⟩ := HX.out.2.2.2.1 i (txs[i]'(by omega)) (List.getElem?_eq_getElem _)
                  rw [List.getElem?_eq_getElem hi] at e1
                  injection e1 with e1
                  rw [e1]; rfl)
                have hs6 := s6
                have OUT := Lib.hid out
                clear k6 s6 out q0 hul
                go_wp2
                have hdr6 : w6.drew.heap.size = w6.heap.size := rfl
                have hS0 : Below w6.heap.size w6 w6.drew := (Below.refl _ _).drew
                obtain ⟨iy, hiy0, hiy1, hiy2, hiy3⟩ := info_parts bytes_info1
                refine any_beginL (fun w' => Below w6.heap.size w6 w') 99 (by kernel_rfl) ?_
                refine S_take (i := 1) (v := .slice AT txs.length cT) rfl rfl (by kernel_rfl) (by kernel_rfl) (by kernel_rfl) (fun _ _ _ h => h) (Or.inl ⟨by rfl, fun w hw => by kernel_rfl⟩) hS0 ?_
                simp only [Act.put, List.getElem_toArray, List.getElem_cons_succ, List.getElem_cons_zero, List.setIfInBounds_toArray, List.set_cons_zero, List.set_cons_succ]
                refine S_take (i := 3) (v := .pointer (some ⟨gb, 2, none⟩)) rfl rfl (by kernel_rfl) (by kernel_rfl) (by kernel_rfl) (fun _ _ _ h => h) (Or.inl ⟨by rfl, fun w hw => by kernel_rfl⟩) hS0 ?_
                simp only [Act.put, List.getElem_toArray, List.getElem_cons_succ, List.getElem_cons_zero, List.setIfInBounds_toArray, List.set_cons_zero, List.set_cons_succ]
                refine S_take (i := 4) (v := .slice o.A o.b.length o.c) rfl rfl (by kernel_rfl) (by kernel_rfl) (by kernel_rfl) (fun _ _ _ h => h) (Or.inl ⟨by rfl, fun w hw => by have q : w.cell? ⟨gb, 2, none⟩ = some (.slice o.A o.b.length o.c) := (hw.cell (p := ⟨gb, 2, none⟩) hgb6).trans q2; go_simp⟩) hS0 ?_
                simp only [Act.put, List.getElem_toArray, List.getElem_cons_succ, List.getElem_cons_zero, List.setIfInBounds_toArray, List.set_cons_zero, List.set_cons_succ]
                refine L_two (i := 0) (j := 5) (by kernel_rfl) rfl rfl (by rfl) (by rfl) ?_ ?_
                · simp only [Act.put, List.getElem_toArray, List.getElem_cons_succ, List.getElem_cons_zero, List.setIfInBounds_toArray, List.set_cons_zero, List.set_cons_succ]
                  have o78_1 : (w6.drew.alloc (.cells #[] 34)).ownsRow w6.heap.size 34 1 (.slice (some ⟨w6.drew.heap.size, 0, none⟩) 0 0) 0 [] := ⟨rfl, .inr ⟨w6.drew.heap.size, 0, #[], rfl, hS0.size, Blk.new w6.drew _ _, Nat.le_refl _, by simp [maxLen], rfl, rfl⟩⟩
                  have S_1 : Below w6.heap.size w6 (w6.drew.alloc (.cells #[] 34)) := hS0.alloc hS0.size _
                  refine wp_ran (v := .slice (some ⟨w6.drew.heap.size, 0, none⟩) 0 0) (w' := (w6.drew.alloc (.cells #[] 34))) (by go_simp) ?_
                  refine ⟨S_1, ?_⟩
                  simp only [Act.put, List.getElem_toArray, List.getElem_cons_succ, List.getElem_cons_zero, List.setIfInBounds_toArray, List.set_cons_zero, List.set_cons_succ]
                  refine L_two (i := 2) (j := 5) (by kernel_rfl) rfl rfl (by rfl) (by rfl) ?_ ?_
                  · simp only [Act.put, List.getElem_toArray, List.getElem_cons_succ, List.getElem_cons_zero, List.setIfInBounds_toArray, List.set_cons_zero, List.set_cons_succ]
                    refine wp_append_any _ (.tmp 78) (.tmp 79) 36 rfl w6.heap.size 34 iy _ 1 24 Tryd.underlying36 hiy0 hiy1 hiy2 hiy3 rfl (by omega) (.slice (some ⟨w6.drew.heap.size, 0, none⟩) 0 0) 0 [] rfl o78_1 _ AT txs.length cT usT rfl ((Reads.of_own HR6.out).below S_1) HONE.out (by simp only [maxLen]; omega) (by omega) (by have := S_1.size; omega) ?_
                    intro v80_2 W_2 h80_2 g80_2 a80_2
                    rw [Nat.zero_add, List.nil_append] at h80_2
                    obtain ⟨A80_2, c80_2, rfl⟩ := slice_of h80_2
                    have S_2 : Below w6.heap.size w6 W_2 := S_1.grown g80_2 S_1.size (fun q hq => (World.ownsRow.lt o78_1 q hq).1)
                    refine ⟨S_2, ?_⟩
                    simp only [Act.put, List.getElem_toArray, List.getElem_cons_succ, List.getElem_cons_zero, List.setIfInBounds_toArray, List.set_cons_zero, List.set_cons_succ]
                    refine L_one (j := 5) (by kernel_rfl) rfl (by rfl) ?_
                    simp only [Act.put, List.getElem_toArray, List.getElem_cons_succ, List.getElem_cons_zero, List.setIfInBounds_toArray, List.set_cons_zero, List.set_cons_succ]
                    have r83_3 := Reads.new W_2 [.slice o.A o.b.length o.c] 34 (0, 0)
                    have S_3 : Below w6.heap.size w6 (W_2.alloc (.cells #[.slice o.A o.b.length o.c] 34)) := S_2.alloc S_2.size _
                    have o80_3 := World.ownsRow.alloc h80_2 (.cells #[.slice o.A o.b.length o.c] 34)
                    have hb83 : W_2.heap.size + 1 ≤ (W_2.alloc (.cells #[.slice o.A o.b.length o.c] 34)).heap.size := by simp
                    refine wp_ran (v := .slice (some ⟨W_2.heap.size, 0, none⟩) 1 1) (w' := (W_2.alloc (.cells #[.slice o.A o.b.length o.c] 34))) (by go_simp) ?_
                    refine ⟨S_3, ?_⟩
                    simp only [Act.put, List.getElem_toArray, List.getElem_cons_succ, List.getElem_cons_zero, List.setIfInBounds_toArray, List.set_cons_zero, List.set_cons_succ]
                    refine L_one (j := 6) (by kernel_rfl) rfl (by rfl) ?_
                    simp only [Act.put, List.getElem_toArray, List.getElem_cons_succ, List.getElem_cons_zero, List.setIfInBounds_toArray, List.set_cons_zero, List.set_cons_succ]
                    refine wp_append_any _ (.tmp 80) (.tmp 83) 36 rfl w6.heap.size 34 iy _ 1 24 Tryd.underlying36 hiy0 hiy1 hiy2 hiy3 rfl (by omega) (.slice A80_2 txs.length c80_2) txs.length usT rfl o80_3 _ (some ⟨W_2.heap.size, 0, none⟩) 1 1 [.slice o.A o.b.length o.c] rfl r83_3 (fun u hu => by simp at hu; subst hu; rfl) (by simp only [maxLen]; omega) (by omega) (by have := S_3.size; omega) ?_
                    intro v9 w9 h9 g9 a9
                    obtain ⟨A9, c9, rfl⟩ := slice_of h9
                    have hS9 : Below w6.heap.size w6 w9 := S_3.grown g9 S_3.size (fun q hq => (World.ownsRow.lt o80_3 q hq).1)
                    refine ⟨hS9, ?_⟩
                    simp only [Act.put, List.getElem_toArray, List.getElem_cons_succ, List.getElem_cons_zero, List.setIfInBounds_toArray, List.set_cons_zero, List.set_cons_succ]
                    refine L_one (j := 7) (by kernel_rfl) rfl (by rfl) ?_
                    simp only [Act.put, List.getElem_toArray, List.getElem_cons_succ, List.getElem_cons_zero, List.setIfInBounds_toArray, List.set_cons_zero, List.set_cons_succ]
                    refine wp_yields (v := .slice A9 (txs.length + 1) c9) (by kernel_rfl) ⟨hS9, ?_⟩
                    simp only [Act.put, List.getElem_toArray, List.getElem_cons_succ, List.getElem_cons_zero, List.setIfInBounds_toArray, List.set_cons_zero, List.set_cons_succ]
                    refine L_done (by kernel_rfl) ?_
                    refine NoPanic.normal ?_
                    have HS9 := Lib.hid hS9
                    have HR9 := Lib.hid h9
                    have hs9 := hS9.size
                    clear hS0 hiy0 hiy1 hiy2 hiy3 hS9 h9 g9 a9 q2
                    have hbs : ∀ (h6w : Below w.heap.size w w6), Bytes w9 w9.heap.size AS st.length st := fun h6w => ((bytes_stay HX.out.1 (fun h0 q hq => (HX.out.2.1 h0 q hq).imp (fun e => by subst e; simp) id) HK6.out (HX.out.2.2.2.2.1.holds.since) h6w hs6).below HS9.out).more hs9
                    have HBS := Lib.hid hbs
                    have HRT := Lib.hid (row_of HR6.out (w' := w9) (fun q hq => HS9.out.block q (row_under HR6.out q hq)))
                    have hadd : ∀ (i : Nat) (t : List Nat), (txs ++ [o.b])[i]? = some t → ∃ A' c, (usT ++ [.slice o.A o.b.length o.c])[i]? = some (.slice A' t.length c) ∧ Bytes w w.heap.size A' t.length t := fun i t hi => by
                      have hul := HUL.out
                      by_cases hlt2 : i < txs.length
                      · rw [List.getElem?_append_left hlt2] at hi
                        obtain ⟨A', c', e1, e2⟩ := HX.out.2.2.2.1 i t hi
                        exact ⟨A', c', by rw [List.getElem?_append_left (by omega)]; exact e1, e2⟩
                      · rw [List.getElem?_append_right (by omega)] at hi
                        have h0 : i - txs.length = 0 := by
                          rcases Nat.eq_zero_or_pos (i - txs.length) with h0 | h0
                          · exact h0
                          · rw [List.getElem?_eq_none (by simp; omega)] at hi; cases hi
                        rw [h0] at hi
                        simp at hi
                        subst hi
                        exact ⟨o.A, o.c, by rw [List.getElem?_append_right (by omega), hul, h0]; rfl, HAT.out.b⟩
                    have hadd2 : ∀ t ∈ txs ++ [o.b], t.length ≤ 600 ∧ ∀ b ∈ t, b < 256 := fun t ht => by
                      rcases List.mem_append.1 ht with ht | ht
                      · exact HX.out.2.2.2.2.2.2 t ht
                      · obtain rfl := List.mem_singleton.1 ht
                        exact ⟨hsm, HAT.out.b.2⟩
                    have HADD := Lib.hid (And.intro hadd hadd2)
                    have hv9 : (Value.slice A9 (txs.length + 1) c9) = .slice A9 (txs ++ [o.b]).length c9 := by rw [List.length_append]; rfl
                    have HV9 := Lib.hid hv9
                    have hnew : ∀ q ∈ rowOf (Value.slice A9 (txs.length + 1) c9), w6.heap.size ≤ q ∧ q < w9.heap.size := fun q hq => World.ownsRow.lt HR9.out q (mem_rowOf.1 hq)
                    have HNEW := Lib.hid hnew
                    clear hbs hadd hadd2 hv9 hnew
                    go_wp2_with fail
                    refine (is_any m 3 w9).mono ?_
                    rintro e w' ⟨rfl, rfl⟩
                    rcases OUT.out with ⟨rfl, f', s', l', gen', u', j', fi', hs', hl', hg'⟩ | ⟨hm, j'⟩ | ⟨rfl, d', hh, hdn, hcu⟩
                    · have HJ0 := Lib.hid j'
                      have HJ := Lib.hid (j'.more HS9.out (Y := rowOf (Value.slice A9 (txs.length + 1) c9)) (fun q hq => .inr (.inr (HNEW.out q hq))))
                      have HF := Lib.hid fi'
                      clear j' fi' OUT
                      rw [show ((0 : Nat) == 3) = false from rfl]
                      simp only [errV]
                      go_wp2
                      go_roundg (n0 - (k + 1))
                      case measure => omega
                      case rel =>
                        refine ⟨k + 1, by omega, rfl, by go_num, rfl, rfl, f', s', l', gen', st, txs ++ [o.b], u', AS, cS, A9, c9, usT ++ [.slice o.A o.b.length o.c], rfl, HBS.out HJ0.out.holds.since, HX.out.2.1, HV9.out, ?_, HADD.out.1, ?_, HF.out, by omega, by omega, by omega, by simp; omega, x11, HADD.out.2⟩
                        · have := row_weaken HR9.out HJ0.out.holds.since.size
                          rw [List.length_append]
                          exact this
                        · rw [← HV9.out]
                          exact HJ.out.mono (fun q hq => by simp at hq ⊢; rcases hq with hq | hq <;> simp [hq])
                    · have HJ0 := Lib.hid j'
                      have HJ := Lib.hid (j'.below HS9.out)
                      clear j' OUT
                      rcases hm with rfl | rfl
                      · rw [show ((2 : Nat) == 3) = false from rfl]
                        simp only [errV]
                        go_wp2
                        go_roundg (n0 - (k + 1))
                        case measure => omega
                        case rel => exact ⟨k + 1, by omega, rfl, by go_num, rfl, rfl, f, s, l, gen, st, txs, u, AS, cS, AT, cT, usT, rfl, HBS.out HJ0.out.holds.since, HX.out.2.1, rfl, HRT.out, HX.out.2.2.2.1, HJ.out.mono (fun q hq => List.mem_cons_of_mem _ hq), HX.out.2.2.2.2.2.1, by omega, x8', by omega, by omega, x11, HX.out.2.2.2.2.2.2⟩
                      · rw [show ((4 : Nat) == 3) = false from rfl]
                        simp only [errV]
                        go_wp2
                        go_roundg (n0 - (k + 1))
                        case measure => omega
                        case rel => exact ⟨k + 1, by omega, rfl, by go_num, rfl, rfl, f, s, l, gen, st, txs, u, AS, cS, AT, cT, usT, rfl, HBS.out HJ0.out.holds.since, HX.out.2.1, rfl, HRT.out, HX.out.2.2.2.1, HJ.out.mono (fun q hq => List.mem_cons_of_mem _ hq), HX.out.2.2.2.2.2.1, by omega, x8', by omega, by omega, x11, HX.out.2.2.2.2.2.2⟩
                    · have HH0 := Lib.hid hh
                      have HH := Lib.hid (hh.more HS9.out (Y := rowOf (Value.slice A9 (txs.length + 1) c9)) (fun q hq => HNEW.out q hq))
                      have HCU := Lib.hid hcu
                      clear hh hcu OUT
                      rw [show ((3 : Nat) == 3) = true from rfl]
                      simp only [errV]
                      go_wp2
                      go_meet
                      refine ⟨d', st, txs, st, txs ++ [o.b], AS, cS, AT, cT, usT, AS, cS, A9, c9, usT ++ [.slice o.A o.b.length o.c], _, HH.out, hdn, HCU.out, rfl, HBS.out HH0.out.since, fun h0 q hq => (HX.out.2.1 h0 q hq).imp (fun e => by subst e; simp) id, rfl, HRT.out, fun q hq => by simp [hq], HX.out.2.2.2.1, rfl, HBS.out HH0.out.since, fun h0 q hq => (HX.out.2.1 h0 q hq).imp (fun e => by subst e; simp) id, HV9.out, ?_, fun q hq => ?_, HADD.out.1, x11, x11, by omega, by simp; omega, HX.out.2.2.2.2.2.2, HADD.out.2⟩
                      · have := row_weaken HR9.out HH0.out.since.size
                        rw [List.length_append]
                        exact this
                      · rw [← HV9.out] at hq
                        simp [hq]
                  · simp only [Act.put, List.getElem_toArray, List.getElem_cons_succ, List.getElem_cons_zero, List.setIfInBounds_toArray, List.set_cons_zero, List.set_cons_succ]
                    have r83_4 := Reads.new (w6.drew.alloc (.cells #[] 34)) [.slice o.A o.b.length o.c] 34 (0, 0)
                    have S_4 : Below w6.heap.size w6 ((w6.drew.alloc (.cells #[] 34)).alloc (.cells #[.slice o.A o.b.length o.c] 34)) := S_1.alloc S_1.size _
                    have o78_4 := World.ownsRow.alloc o78_1 (.cells #[.slice o.A o.b.length o.c] 34)
                    have hb83 : (w6.drew.alloc (.cells #[] 34)).heap.size + 1 ≤ ((w6.drew.alloc (.cells #[] 34)).alloc (.cells #[.slice o.A o.b.length o.c] 34)).heap.size := by simp
                    refine wp_ran (v := .slice (some ⟨(w6.drew.alloc (.cells #[] 34)).heap.size, 0, none⟩) 1 1) (w' := ((w6.drew.alloc (.cells #[] 34)).alloc (.cells #[.slice o.A o.b.length o.c] 34))) (by go_simp) ?_
                    refine ⟨S_4, ?_⟩
                    simp only [Act.put, List.getElem_toArray, List.getElem_cons_succ, List.getElem_cons_zero, List.setIfInBounds_toArray, List.set_cons_zero, List.set_cons_succ]
                    refine L_one (j := 2) (by kernel_rfl) rfl (by rfl) ?_
                    simp only [Act.put, List.getElem_toArray, List.getElem_cons_succ, List.getElem_cons_zero, List.setIfInBounds_toArray, List.set_cons_zero, List.set_cons_succ]
                    refine wp_append_any _ (.tmp 78) (.tmp 79) 36 rfl w6.heap.size 34 iy _ 1 24 Tryd.underlying36 hiy0 hiy1 hiy2 hiy3 rfl (by omega) (.slice (some ⟨w6.drew.heap.size, 0, none⟩) 0 0) 0 [] rfl o78_4 _ AT txs.length cT usT rfl ((Reads.of_own HR6.out).below S_4) HONE.out (by simp only [maxLen]; omega) (by omega) (by have := S_4.size; omega) ?_
                    intro v80_5 W_5 h80_5 g80_5 a80_5
                    rw [Nat.zero_add, List.nil_append] at h80_5
                    obtain ⟨A80_5, c80_5, rfl⟩ := slice_of h80_5
                    have S_5 : Below w6.heap.size w6 W_5 := S_4.grown g80_5 S_4.size (fun q hq => (World.ownsRow.lt o78_4 q hq).1)
                    have r83_5 : Reads W_5 ((w6.drew.alloc (.cells #[] 34)).heap.size + 1) 1 (some ⟨(w6.drew.alloc (.cells #[] 34)).heap.size, 0, none⟩) 1 [.slice o.A o.b.length o.c] := ⟨rfl, fun hn => by
                      obtain ⟨ad, e, hB, hcc⟩ := r83_4.2 hn
                      exact ⟨ad, e, hB, fun j u hu => by
                        have := hcc j u hu
                        injection e with e
                        subst e
                        rw [← this]
                        refine World.cell?_of_block (g80_5.block _ ?_ ?_)
                        · rw [block_of_add]; simp only [World.size_alloc]; (first | omega | (simp; omega))
                        · rw [block_of_add]; simp [Value.ownBlock]⟩⟩
                    refine ⟨S_5, ?_⟩
                    simp only [Act.put, List.getElem_toArray, List.getElem_cons_succ, List.getElem_cons_zero, List.setIfInBounds_toArray, List.set_cons_zero, List.set_cons_succ]
                    refine L_one (j := 6) (by kernel_rfl) rfl (by rfl) ?_
                    simp only [Act.put, List.getElem_toArray, List.getElem_cons_succ, List.getElem_cons_zero, List.setIfInBounds_toArray, List.set_cons_zero, List.set_cons_succ]
                    refine wp_append_any _ (.tmp 80) (.tmp 83) 36 rfl w6.heap.size 34 iy _ 1 24 Tryd.underlying36 hiy0 hiy1 hiy2 hiy3 rfl (by omega) (.slice A80_5 txs.length c80_5) txs.length usT rfl h80_5 _ (some ⟨(w6.drew.alloc (.cells #[] 34)).heap.size, 0, none⟩) 1 1 [.slice o.A o.b.length o.c] rfl r83_5 (fun u hu => by simp at hu; subst hu; rfl) (by simp only [maxLen]; omega) (by omega) (by have := S_5.size; omega) ?_
                    intro v9 w9 h9 g9 a9
                    obtain ⟨A9, c9, rfl⟩ := slice_of h9
                    have hS9 : Below w6.heap.size w6 w9 := S_5.grown g9 S_5.size (fun q hq => (World.ownsRow.lt h80_5 q hq).1)
                    refine ⟨hS9, ?_⟩
                    simp only [Act.put, List.getElem_toArray, List.getElem_cons_succ, List.getElem_cons_zero, List.setIfInBounds_toArray, List.set_cons_zero, List.set_cons_succ]
                    refine L_one (j := 7) (by kernel_rfl) rfl (by rfl) ?_
                    simp only [Act.put, List.getElem_toArray, List.getElem_cons_succ, List.getElem_cons_zero, List.setIfInBounds_toArray, List.set_cons_zero, List.set_cons_succ]
                    refine wp_yields (v := .slice A9 (txs.length + 1) c9) (by kernel_rfl) ⟨hS9, ?_⟩
                    simp only [Act.put, List.getElem_toArray, List.getElem_cons_succ, List.getElem_cons_zero, List.setIfInBounds_toArray, List.set_cons_zero, List.set_cons_succ]
                    refine L_done (by kernel_rfl) ?_
                    refine NoPanic.normal ?_
                    have HS9 := Lib.hid hS9
                    have HR9 := Lib.hid h9
                    have hs9 := hS9.size
                    clear hS0 hiy0 hiy1 hiy2 hiy3 hS9 h9 g9 a9 q2
                    have hbs : ∀ (h6w : Below w.heap.size w w6), Bytes w9 w9.heap.size AS st.length st := fun h6w => ((bytes_stay HX.out.1 (fun h0 q hq => (HX.out.2.1 h0 q hq).imp (fun e => by subst e; simp) id) HK6.out (HX.out.2.2.2.2.1.holds.since) h6w hs6).below HS9.out).more hs9
                    have HBS := Lib.hid hbs
                    have HRT := Lib.hid (row_of HR6.out (w' := w9) (fun q hq => HS9.out.block q (row_under HR6.out q hq)))
                    have hadd : ∀ (i : Nat) (t : List Nat), (txs ++ [o.b])[i]? = some t → ∃ A' c, (usT ++ [.slice o.A o.b.length o.c])[i]? = some (.slice A' t.length c) ∧ Bytes w w.heap.size A' t.length t := fun i t hi => by
                      have hul := HUL.out
                      by_cases hlt2 : i < txs.length
                      · rw [List.getElem?_append_left hlt2] at hi
                        obtain ⟨A', c', e1, e2⟩ := HX.out.2.2.2.1 i t hi
                        exact ⟨A', c', by rw [List.getElem?_append_left (by omega)]; exact e1, e2⟩
                      · rw [List.getElem?_append_right (by omega)] at hi
                        have h0 : i - txs.length = 0 := by
                          rcases Nat.eq_zero_or_pos (i - txs.length) with h0 | h0
                          · exact h0
                          · rw [List.getElem?_eq_none (by simp; omega)] at hi; cases hi
                        rw [h0] at hi
                        simp at hi
                        subst hi
                        exact ⟨o.A, o.c, by rw [List.getElem?_append_right (by omega), hul, h0]; rfl, HAT.out.b⟩
                    have hadd2 : ∀ t ∈ txs ++ [o.b], t.length ≤ 600 ∧ ∀ b ∈ t, b < 256 := fun t ht => by
                      rcases List.mem_append.1 ht with ht | ht
                      · exact HX.out.2.2.2.2.2.2 t ht
                      · obtain rfl := List.mem_singleton.1 ht
                        exact ⟨hsm, HAT.out.b.2⟩
                    have HADD := Lib.hid (And.intro hadd hadd2)
                    have hv9 : (Value.slice A9 (txs.length + 1) c9) = .slice A9 (txs ++ [o.b]).length c9 := by rw [List.length_append]; rfl
                    have HV9 := Lib.hid hv9
                    have hnew : ∀ q ∈ rowOf (Value.slice A9 (txs.length + 1) c9), w6.heap.size ≤ q ∧ q < w9.heap.size := fun q hq => World.ownsRow.lt HR9.out q (mem_rowOf.1 hq)
                    have HNEW := Lib.hid hnew
                    clear hbs hadd hadd2 hv9 hnew
                    go_wp2_with fail
                    refine (is_any m 3 w9).mono ?_
                    rintro e w' ⟨rfl, rfl⟩
                    rcases OUT.out with ⟨rfl, f', s', l', gen', u', j', fi', hs', hl', hg'⟩ | ⟨hm, j'⟩ | ⟨rfl, d', hh, hdn, hcu⟩
                    · have HJ0 := Lib.hid j'
                      have HJ := Lib.hid (j'.more HS9.out (Y := rowOf (Value.slice A9 (txs.length + 1) c9)) (fun q hq => .inr (.inr (HNEW.out q hq))))
                      have HF := Lib.hid fi'
                      clear j' fi' OUT
                      rw [show ((0 : Nat) == 3) = false from rfl]
                      simp only [errV]
                      go_wp2
                      go_roundg (n0 - (k + 1))
                      case measure => omega
                      case rel =>
                        refine ⟨k + 1, by omega, rfl, by go_num, rfl, rfl, f', s', l', gen', st, txs ++ [o.b], u', AS, cS, A9, c9, usT ++ [.slice o.A o.b.length o.c], rfl, HBS.out HJ0.out.holds.since, HX.out.2.1, HV9.out, ?_, HADD.out.1, ?_, HF.out, by omega, by omega, by omega, by simp; omega, x11, HADD.out.2⟩
                        · have := row_weaken HR9.out HJ0.out.holds.since.size
                          rw [List.length_append]
                          exact this
                        · rw [← HV9.out]
                          exact HJ.out.mono (fun q hq => by simp at hq ⊢; rcases hq with hq | hq <;> simp [hq])
                    · have HJ0 := Lib.hid j'
                      have HJ := Lib.hid (j'.below HS9.out)
                      clear j' OUT
                      rcases hm with rfl | rfl
                      · rw [show ((2 : Nat) == 3) = false from rfl]
                        simp only [errV]
                        go_wp2
                        go_roundg (n0 - (k + 1))
                        case measure => omega
                        case rel => exact ⟨k + 1, by omega, rfl, by go_num, rfl, rfl, f, s, l, gen, st, txs, u, AS, cS, AT, cT, usT, rfl, HBS.out HJ0.out.holds.since, HX.out.2.1, rfl, HRT.out, HX.out.2.2.2.1, HJ.out.mono (fun q hq => List.mem_cons_of_mem _ hq), HX.out.2.2.2.2.2.1, by omega, x8', by omega, by omega, x11, HX.out.2.2.2.2.2.2⟩
                      · rw [show ((4 : Nat) == 3) = false from rfl]
                        simp only [errV]
                        go_wp2
                        go_roundg (n0 - (k + 1))
                        case measure => omega
                        case rel => exact ⟨k + 1, by omega, rfl, by go_num, rfl, rfl, f, s, l, gen, st, txs, u, AS, cS, AT, cT, usT, rfl, HBS.out HJ0.out.holds.since, HX.out.2.1, rfl, HRT.out, HX.out.2.2.2.1, HJ.out.mono (fun q hq => List.mem_cons_of_mem _ hq), HX.out.2.2.2.2.2.1, by omega, x8', by omega, by omega, x11, HX.out.2.2.2.2.2.2⟩
                    · have HH0 := Lib.hid hh
                      have HH := Lib.hid (hh.more HS9.out (Y := rowOf (Value.slice A9 (txs.length + 1) c9)) (fun q hq => HNEW.out q hq))
                      have HCU := Lib.hid hcu
                      clear hh hcu OUT
                      rw [show ((3 : Nat) == 3) = true from rfl]
                      simp only [errV]
                      go_wp2
                      go_meet
                      refine ⟨d', st, txs, st, txs ++ [o.b], AS, cS, AT, cT, usT, AS, cS, A9, c9, usT ++ [.slice o.A o.b.length o.c], _, HH.out, hdn, HCU.out, rfl, HBS.out HH0.out.since, fun h0 q hq => (HX.out.2.1 h0 q hq).imp (fun e => by subst e; simp) id, rfl, HRT.out, fun q hq => by simp [hq], HX.out.2.2.2.1, rfl, HBS.out HH0.out.since, fun h0 q hq => (HX.out.2.1 h0 q hq).imp (fun e => by subst e; simp) id, HV9.out, ?_, fun q hq => ?_, HADD.out.1, x11, x11, by omega, by simp; omega, HX.out.2.2.2.2.2.2, HADD.out.2⟩
                      · have := row_weaken HR9.out HH0.out.since.size
                        rw [List.length_append]
                        exact this
                      · rw [← HV9.out] at hq
                        simp [hq]
                · simp only [Act.put, List.getElem_toArray, List.getElem_cons_succ, List.getElem_cons_zero, List.setIfInBounds_toArray, List.set_cons_zero, List.set_cons_succ]
                  have r83_6 := Reads.new w6.drew [.slice o.A o.b.length o.c] 34 (0, 0)
                  have S_6 : Below w6.heap.size w6 (w6.drew.alloc (.cells #[.slice o.A o.b.length o.c] 34)) := hS0.alloc hS0.size _
                  have hb83 : w6.drew.heap.size + 1 ≤ (w6.drew.alloc (.cells #[.slice o.A o.b.length o.c] 34)).heap.size := by simp
                  refine wp_ran (v := .slice (some ⟨w6.drew.heap.size, 0, none⟩) 1 1) (w' := (w6.drew.alloc (.cells #[.slice o.A o.b.length o.c] 34))) (by go_simp) ?_
                  refine ⟨S_6, ?_⟩
                  simp only [Act.put, List.getElem_toArray, List.getElem_cons_succ, List.getElem_cons_zero, List.setIfInBounds_toArray, List.set_cons_zero, List.set_cons_succ]
                  refine L_one (j := 0) (by kernel_rfl) rfl (by rfl) ?_
                  simp only [Act.put, List.getElem_toArray, List.getElem_cons_succ, List.getElem_cons_zero, List.setIfInBounds_toArray, List.set_cons_zero, List.set_cons_succ]
                  have o78_7 : ((w6.drew.alloc (.cells #[.slice o.A o.b.length o.c] 34)).alloc (.cells #[] 34)).ownsRow w6.heap.size 34 1 (.slice (some ⟨(w6.drew.alloc (.cells #[.slice o.A o.b.length o.c] 34)).heap.size, 0, none⟩) 0 0) 0 [] := ⟨rfl, .inr ⟨(w6.drew.alloc (.cells #[.slice o.A o.b.length o.c] 34)).heap.size, 0, #[], rfl, S_6.size, Blk.new (w6.drew.alloc (.cells #[.slice o.A o.b.length o.c] 34)) _ _, Nat.le_refl _, by simp [maxLen], rfl, rfl⟩⟩
                  have S_7 : Below w6.heap.size w6 ((w6.drew.alloc (.cells #[.slice o.A o.b.length o.c] 34)).alloc (.cells #[] 34)) := S_6.alloc S_6.size _
                  have r83_7 : Reads ((w6.drew.alloc (.cells #[.slice o.A o.b.length o.c] 34)).alloc (.cells #[] 34)) (w6.drew.heap.size + 1) 1 (some ⟨w6.drew.heap.size, 0, none⟩) 1 [.slice o.A o.b.length o.c] := r83_6.alloc hb83 _
                  have hbz_7 : ((w6.drew.alloc (.cells #[.slice o.A o.b.length o.c] 34)).alloc (.cells #[] 34)).heap.size = (w6.drew.alloc (.cells #[.slice o.A o.b.length o.c] 34)).heap.size + 1 := by simp
                  refine wp_ran (v := .slice (some ⟨(w6.drew.alloc (.cells #[.slice o.A o.b.length o.c] 34)).heap.size, 0, none⟩) 0 0) (w' := ((w6.drew.alloc (.cells #[.slice o.A o.b.length o.c] 34)).alloc (.cells #[] 34))) (by go_simp) ?_
                  refine ⟨S_7, ?_⟩
                  simp only [Act.put, List.getElem_toArray, List.getElem_cons_succ, List.getElem_cons_zero, List.setIfInBounds_toArray, List.set_cons_zero, List.set_cons_succ]
                  refine L_one (j := 2) (by kernel_rfl) rfl (by rfl) ?_
                  simp only [Act.put, List.getElem_toArray, List.getElem_cons_succ, List.getElem_cons_zero, List.setIfInBounds_toArray, List.set_cons_zero, List.set_cons_succ]
                  refine wp_append_any _ (.tmp 78) (.tmp 79) 36 rfl w6.heap.size 34 iy _ 1 24 Tryd.underlying36 hiy0 hiy1 hiy2 hiy3 rfl (by omega) (.slice (some ⟨(w6.drew.alloc (.cells #[.slice o.A o.b.length o.c] 34)).heap.size, 0, none⟩) 0 0) 0 [] rfl o78_7 _ AT txs.length cT usT rfl ((Reads.of_own HR6.out).below S_7) HONE.out (by simp only [maxLen]; omega) (by omega) (by have := S_7.size; omega) ?_
                  intro v80_8 W_8 h80_8 g80_8 a80_8
                  rw [Nat.zero_add, List.nil_append] at h80_8
                  obtain ⟨A80_8, c80_8, rfl⟩ := slice_of h80_8
                  have S_8 : Below w6.heap.size w6 W_8 := S_7.grown g80_8 S_7.size (fun q hq => (World.ownsRow.lt o78_7 q hq).1)
                  have r83_8 : Reads W_8 (w6.drew.heap.size + 1) 1 (some ⟨w6.drew.heap.size, 0, none⟩) 1 [.slice o.A o.b.length o.c] := ⟨rfl, fun hn => by
                    obtain ⟨ad, e, hB, hcc⟩ := r83_7.2 hn
                    exact ⟨ad, e, hB, fun j u hu => by
                      have := hcc j u hu
                      injection e with e
                      subst e
                      rw [← this]
                      refine World.cell?_of_block (g80_8.block _ ?_ ?_)
                      · rw [block_of_add]; simp only [World.size_alloc]; (first | omega | (simp; omega))
                      · rw [block_of_add]; simp [Value.ownBlock]⟩⟩
                  refine ⟨S_8, ?_⟩
                  simp only [Act.put, List.getElem_toArray, List.getElem_cons_succ, List.getElem_cons_zero, List.setIfInBounds_toArray, List.set_cons_zero, List.set_cons_succ]
                  refine L_one (j := 6) (by kernel_rfl) rfl (by rfl) ?_
                  simp only [Act.put, List.getElem_toArray, List.getElem_cons_succ, List.getElem_cons_zero, List.setIfInBounds_toArray, List.set_cons_zero, List.set_cons_succ]
                  refine wp_append_any _ (.tmp 80) (.tmp 83) 36 rfl w6.heap.size 34 iy _ 1 24 Tryd.underlying36 hiy0 hiy1 hiy2 hiy3 rfl (by omega) (.slice A80_8 txs.length c80_8) txs.length usT rfl h80_8 _ (some ⟨w6.drew.heap.size, 0, none⟩) 1 1 [.slice o.A o.b.length o.c] rfl r83_8 (fun u hu => by simp at hu; subst hu; rfl) (by simp only [maxLen]; omega) (by omega) (by have := S_8.size; omega) ?_
                  intro v9 w9 h9 g9 a9
                  obtain ⟨A9, c9, rfl⟩ := slice_of h9
                  have hS9 : Below w6.heap.size w6 w9 := S_8.grown g9 S_8.size (fun q hq => (World.ownsRow.lt h80_8 q hq).1)
                  refine ⟨hS9, ?_⟩
                  simp only [Act.put, List.getElem_toArray, List.getElem_cons_succ, List.getElem_cons_zero, List.setIfInBounds_toArray, List.set_cons_zero, List.set_cons_succ]
                  refine L_one (j := 7) (by kernel_rfl) rfl (by rfl) ?_
                  simp only [Act.put, List.getElem_toArray, List.getElem_cons_succ, List.getElem_cons_zero, List.setIfInBounds_toArray, List.set_cons_zero, List.set_cons_succ]
                  refine wp_yields (v := .slice A9 (txs.length + 1) c9) (by kernel_rfl) ⟨hS9, ?_⟩
                  simp only [Act.put, List.getElem_toArray, List.getElem_cons_succ, List.getElem_cons_zero, List.setIfInBounds_toArray, List.set_cons_zero, List.set_cons_succ]
                  refine L_done (by kernel_rfl) ?_
                  refine NoPanic.normal ?_
                  have HS9 := Lib.hid hS9
                  have HR9 := Lib.hid h9
                  have hs9 := hS9.size
                  clear hS0 hiy0 hiy1 hiy2 hiy3 hS9 h9 g9 a9 q2
                  have hbs : ∀ (h6w : Below w.heap.size w w6), Bytes w9 w9.heap.size AS st.length st := fun h6w => ((bytes_stay HX.out.1 (fun h0 q hq => (HX.out.2.1 h0 q hq).imp (fun e => by subst e; simp) id) HK6.out (HX.out.2.2.2.2.1.holds.since) h6w hs6).below HS9.out).more hs9
                  have HBS := Lib.hid hbs
                  have HRT := Lib.hid (row_of HR6.out (w' := w9) (fun q hq => HS9.out.block q (row_under HR6.out q hq)))
                  have hadd : ∀ (i : Nat) (t : List Nat), (txs ++ [o.b])[i]? = some t → ∃ A' c, (usT ++ [.slice o.A o.b.length o.c])[i]? = some (.slice A' t.length c) ∧ Bytes w w.heap.size A' t.length t := fun i t hi => by
                    have hul := HUL.out
                    by_cases hlt2 : i < txs.length
                    · rw [List.getElem?_append_left hlt2] at hi
                      obtain ⟨A', c', e1, e2⟩ := HX.out.2.2.2.1 i t hi
                      exact ⟨A', c', by rw [List.getElem?_append_left (by omega)]; exact e1, e2⟩
                    · rw [List.getElem?_append_right (by omega)] at hi
                      have h0 : i - txs.length = 0 := by
                        rcases Nat.eq_zero_or_pos (i - txs.length) with h0 | h0
                        · exact h0
                        · rw [List.getElem?_eq_none (by simp; omega)] at hi; cases hi
                      rw [h0] at hi
                      simp at hi
                      subst hi
                      exact ⟨o.A, o.c, by rw [List.getElem?_append_right (by omega), hul, h0]; rfl, HAT.out.b⟩
                  have hadd2 : ∀ t ∈ txs ++ [o.b], t.length ≤ 600 ∧ ∀ b ∈ t, b < 256 := fun t ht => by
                    rcases List.mem_append.1 ht with ht | ht
                    · exact HX.out.2.2.2.2.2.2 t ht
                    · obtain rfl := List.mem_singleton.1 ht
                      exact ⟨hsm, HAT.out.b.2⟩
                  have HADD := Lib.hid (And.intro hadd hadd2)
                  have hv9 : (Value.slice A9 (txs.length + 1) c9) = .slice A9 (txs ++ [o.b]).length c9 := by rw [List.length_append]; rfl
                  have HV9 := Lib.hid hv9
                  have hnew : ∀ q ∈ rowOf (Value.slice A9 (txs.length + 1) c9), w6.heap.size ≤ q ∧ q < w9.heap.size := fun q hq => World.ownsRow.lt HR9.out q (mem_rowOf.1 hq)
                  have HNEW := Lib.hid hnew
                  clear hbs hadd hadd2 hv9 hnew
                  go_wp2_with fail
                  refine (is_any m 3 w9).mono ?_
                  rintro e w' ⟨rfl, rfl⟩
                  rcases OUT.out with ⟨rfl, f', s', l', gen', u', j', fi', hs', hl', hg'⟩ | ⟨hm, j'⟩ | ⟨rfl, d', hh, hdn, hcu⟩
                  · have HJ0 := Lib.hid j'
                    have HJ := Lib.hid (j'.more HS9.out (Y := rowOf (Value.slice A9 (txs.length + 1) c9)) (fun q hq => .inr (.inr (HNEW.out q hq))))
                    have HF := Lib.hid fi'
                    clear j' fi' OUT
                    rw [show ((0 : Nat) == 3) = false from rfl]
                    simp only [errV]
                    go_wp2
                    go_roundg (n0 - (k + 1))
                    case measure => omega
                    case rel =>
                      refine ⟨k + 1, by omega, rfl, by go_num, rfl, rfl, f', s', l', gen', st, txs ++ [o.b], u', AS, cS, A9, c9, usT ++ [.slice o.A o.b.length o.c], rfl, HBS.out HJ0.out.holds.since, HX.out.2.1, HV9.out, ?_, HADD.out.1, ?_, HF.out, by omega, by omega, by omega, by simp; omega, x11, HADD.out.2⟩
                      · have := row_weaken HR9.out HJ0.out.holds.since.size
                        rw [List.length_append]
                        exact this
                      · rw [← HV9.out]
                        exact HJ.out.mono (fun q hq => by simp at hq ⊢; rcases hq with hq | hq <;> simp [hq])
                  · have HJ0 := Lib.hid j'
                    have HJ := Lib.hid (j'.below HS9.out)
                    clear j' OUT
                    rcases hm with rfl | rfl
                    · rw [show ((2 : Nat) == 3) = false from rfl]
                      simp only [errV]
                      go_wp2
                      go_roundg (n0 - (k + 1))
                      case measure => omega
                      case rel => exact ⟨k + 1, by omega, rfl, by go_num, rfl, rfl, f, s, l, gen, st, txs, u, AS, cS, AT, cT, usT, rfl, HBS.out HJ0.out.holds.since, HX.out.2.1, rfl, HRT.out, HX.out.2.2.2.1, HJ.out.mono (fun q hq => List.mem_cons_of_mem _ hq), HX.out.2.2.2.2.2.1, by omega, x8', by omega, by omega, x11, HX.out.2.2.2.2.2.2⟩
                    · rw [show ((4 : Nat) == 3) = false from rfl]
                      simp only [errV]
                      go_wp2
                      go_roundg (n0 - (k + 1))
                      case measure => omega
                      case rel => exact ⟨k + 1, by omega, rfl, by go_num, rfl, rfl, f, s, l, gen, st, txs, u, AS, cS, AT, cT, usT, rfl, HBS.out HJ0.out.holds.since, HX.out.2.1, rfl, HRT.out, HX.out.2.2.2.1, HJ.out.mono (fun q hq => List.mem_cons_of_mem _ hq), HX.out.2.2.2.2.2.1, by omega, x8', by omega, by omega, x11, HX.out.2.2.2.2.2.2⟩
                  · have HH0 := Lib.hid hh
                    have HH := Lib.hid (hh.more HS9.out (Y := rowOf (Value.slice A9 (txs.length + 1) c9)) (fun q hq => HNEW.out q hq))
                    have HCU := Lib.hid hcu
                    clear hh hcu OUT
                    rw [show ((3 : Nat) == 3) = true from rfl]
                    simp only [errV]
                    go_wp2
                    go_meet
                    refine ⟨d', st, txs, st, txs ++ [o.b], AS, cS, AT, cT, usT, AS, cS, A9, c9, usT ++ [.slice o.A o.b.length o.c], _, HH.out, hdn, HCU.out, rfl, HBS.out HH0.out.since, fun h0 q hq => (HX.out.2.1 h0 q hq).imp (fun e => by subst e; simp) id, rfl, HRT.out, fun q hq => by simp [hq], HX.out.2.2.2.1, rfl, HBS.out HH0.out.since, fun h0 q hq => (HX.out.2.1 h0 q hq).imp (fun e => by subst e; simp) id, HV9.out, ?_, fun q hq => ?_, HADD.out.1, x11, x11, by omega, by simp; omega, HX.out.2.2.2.2.2.2, HADD.out.2⟩
                    · have := row_weaken HR9.out HH0.out.since.size
                      rw [List.length_append]
                      exact this
                    · rw [← HV9.out] at hq
                      simp [hq]
              · by_cases hk2 : o.kind = 2
                · have hkd1 : ((2 : Int) == 1) = false := by decide
                  have q0 : w5.cell? ⟨gb, 0, none⟩ = some (.int .i64 2) := by rw [JB.out.cell]; show some (Value.int .i64 o.kind) = _; rw [hk2]
                  have q2 : w5.cell? ⟨gb, 2, none⟩ = some (.slice o.A o.b.length o.c) := JB.out.cell 2
                  clear hk1' hk2
                  go_wp2_with fail
                  refine (HX.out.2.2.2.2.1.ckpt_out HX.out.2.2.2.2.2.1 o.A o.c HBT.out (by omega) HFT.out.2.2.1 HFT.out.2.2.2 HTW.out hpos HAX.out (by omega) x8' (by omega)).mono ?_
                  rintro e w6 ⟨m, rfl, k6, s6, out⟩
                  have q2 : w6.cell? ⟨gb, 2, none⟩ = some (.slice o.A o.b.length o.c) := (World.cell?_of_block (k6 gb (by simp))).trans q2
                  have HK6 := Lib.hid (show ∀ q ∈ gb :: fb :: rowOf (.slice AT txs.length cT), w6.heap[q]? = w5.heap[q]? from k6)
                  have hs6 := s6
                  have OUT := Lib.hid out
                  clear k6 s6 out q0
                  go_wp2_with fail
                  refine (is_any m 3 w6).mono ?_
                  rintro e w' ⟨rfl, rfl⟩
                  rcases OUT.out with ⟨rfl, f', s', l', gen', u', j', fi', hs', hl', hg'⟩ | ⟨hm, j'⟩ | ⟨rfl, d', hh, hdn, hcu⟩
                  · have HJ := Lib.hid j'
                    have HF := Lib.hid fi'
                    clear j' fi' OUT
                    rw [show ((0 : Nat) == 3) = false from rfl]
                    simp only [errV]
                    go_wp2
                    go_roundg (n0 - (k + 1))
                    case measure => omega
                    case rel => exact ⟨k + 1, by omega, rfl, by go_num, rfl, rfl, f', s', l', gen', o.b, [], u', o.A, o.c, none, 0, [], rfl, (HAT.out.b.below HJ.out.holds.since).more HJ.out.holds.since.size, fun h0 q hq => .inr (by obtain ⟨ad, e, hB, -⟩ := HAT.out.b.1.2 h0; rw [e] at hq; simp only [blkOf, List.mem_singleton] at hq; subst hq; exact hB), rfl, World.ownsRow_nil _ _ _ 1, fun i t h => by simp at h, HJ.out.mono (fun q hq => by simp [rowOf, Value.ownBlock] at hq; simp [hq]), HF.out, by omega, by omega, by omega, by simp, hsm, by simp⟩
                  · have HJ := Lib.hid j'
                    clear j' OUT
                    rcases hm with rfl | rfl
                    · rw [show ((2 : Nat) == 3) = false from rfl]
                      simp only [errV]
                      go_wp2
                      go_roundg (n0 - (k + 1))
                      case measure => omega
                      case rel => exact ⟨k + 1, by omega, rfl, by go_num, rfl, rfl, f, s, l, gen, st, txs, u, AS, cS, AT, cT, usT, rfl, bytes_stay HX.out.1 (fun h0 q hq => (HX.out.2.1 h0 q hq).imp (fun e => by subst e; simp) id) HK6.out (HX.out.2.2.2.2.1.holds.since) HJ.out.holds.since hs6, HX.out.2.1, rfl, row_of HX.out.2.2.1 (fun q hq => HK6.out q (by simp [hq])), HX.out.2.2.2.1, HJ.out.mono (fun q hq => List.mem_cons_of_mem _ hq), HX.out.2.2.2.2.2.1, by omega, x8', by omega, by omega, x11, HX.out.2.2.2.2.2.2⟩
                    · rw [show ((4 : Nat) == 3) = false from rfl]
                      simp only [errV]
                      go_wp2
                      go_roundg (n0 - (k + 1))
                      case measure => omega
                      case rel => exact ⟨k + 1, by omega, rfl, by go_num, rfl, rfl, f, s, l, gen, st, txs, u, AS, cS, AT, cT, usT, rfl, bytes_stay HX.out.1 (fun h0 q hq => (HX.out.2.1 h0 q hq).imp (fun e => by subst e; simp) id) HK6.out (HX.out.2.2.2.2.1.holds.since) HJ.out.holds.since hs6, HX.out.2.1, rfl, row_of HX.out.2.2.1 (fun q hq => HK6.out q (by simp [hq])), HX.out.2.2.2.1, HJ.out.mono (fun q hq => List.mem_cons_of_mem _ hq), HX.out.2.2.2.2.2.1, by omega, x8', by omega, by omega, x11, HX.out.2.2.2.2.2.2⟩
                  · have HH := Lib.hid hh
                    have HCU := Lib.hid hcu
                    clear hh hcu OUT
                    rw [show ((3 : Nat) == 3) = true from rfl]
                    simp only [errV]
                    go_wp2
                    go_meet
                    exact ⟨d', st, txs, o.b, [], AS, cS, AT, cT, usT, o.A, o.c, none, 0, [], _, HH.out, hdn, HCU.out, rfl, bytes_stay HX.out.1 (fun h0 q hq => (HX.out.2.1 h0 q hq).imp (fun e => by subst e; simp) id) HK6.out (HX.out.2.2.2.2.1.holds.since) HH.out.since hs6, fun h0 q hq => (HX.out.2.1 h0 q hq).imp (fun e => by subst e; simp) id, rfl, row_of HX.out.2.2.1 (fun q hq => HK6.out q (by simp [hq])), fun q hq => by simp [hq], HX.out.2.2.2.1,
                      rfl, (HAT.out.b.below HH.out.since).more HH.out.since.size, fun h0 q hq => .inr (by obtain ⟨ad, e, hB, -⟩ := HAT.out.b.1.2 h0; rw [e] at hq; simp only [blkOf, List.mem_singleton] at hq; subst hq; exact hB), rfl, World.ownsRow_nil _ _ _ 1, fun q hq => by simp [rowOf, Value.ownBlock] at hq, fun i t h => by simp at h, x11, hsm, by omega, by simp, HX.out.2.2.2.2.2.2, by simp⟩
                · have hkd1 : (o.kind == 1) = false := by simpa using hk1'
                  have hkd2 : (o.kind == 2) = false := by simpa using hk2
                  have q0 : w5.cell? ⟨gb, 0, none⟩ = some (.int .i64 o.kind) := JB.out.cell 0
                  have HJ := Lib.hid HX.out.2.2.2.2.1
                  clear hk1' hk2
                  go_wp2
                  go_roundg (n0 - (k + 1))
                  case measure => omega
                  case rel => exact ⟨k + 1, by omega, rfl, by go_num, rfl, rfl, f, s, l, gen, st, txs, u, AS, cS, AT, cT, usT, rfl, HX.out.1, HX.out.2.1, rfl, HX.out.2.2.1, HX.out.2.2.2.1, HJ.out.mono (fun q hq => List.mem_cons_of_mem _ hq), HX.out.2.2.2.2.2.1, by omega, x8', by omega, by omega, x11, HX.out.2.2.2.2.2.2⟩
            · obtain rfl : k = n0 := by omega
              go_wp2
              go_meet
              exact hord.done (by omega)
          -- K1}
        case rest =>
          obtain ⟨d, st, txs, st', txs', AS, cS, AT, cT, usT, AS', cS', AT', cT', usT', X, hh, hdn, hcu, rfl, bS, xS, rfl, rT, xT, vT, rfl, bS', xS', rfl, rT', xT', vT', ls, ls', lt, lt', at_, at'⟩ := hcut
          have HH := Lib.hid hh
          have HB1 := Lib.hid (show ∀ w', Keep X wc w' → Below w.heap.size w w' → Bytes w' w'.heap.size AS st.length st ∧ RowsAt w' w'.heap.size AT usT txs from fun w' hk hb =>
            ⟨bytes_stay bS xS hk.2 HH.out.since hb hk.1, Reads.of_own (row_of rT (fun q hq => hk.2 q (xT q hq))), fun i t hi => by
              obtain ⟨A', c, y1, y2⟩ := vT i t hi
              exact ⟨A', c, y1, (y2.below hb).more hb.size⟩⟩)
          have HB2 := Lib.hid (show ∀ w', Keep X wc w' → Below w.heap.size w w' → Bytes w' w'.heap.size AS' st'.length st' ∧ RowsAt w' w'.heap.size AT' usT' txs' from fun w' hk hb =>
            ⟨bytes_stay bS' xS' hk.2 HH.out.since hb hk.1, Reads.of_own (row_of rT' (fun q hq => hk.2 q (xT' q hq))), fun i t hi => by
              obtain ⟨A', c, y1, y2⟩ := vT' i t hi
              exact ⟨A', c, y1, (y2.below hb).more hb.size⟩⟩)
          have HCU := Lib.hid hcu
          have HA := Lib.hid at_
          have HA' := Lib.hid at'
          clear hh hcu bS xS rT xT vT bS' xS' rT' xT' vT' at_ at'
          obtain ⟨f, s, gen, S, T, u, ecr, hsh, hST⟩ := HCU.out.2 keep
          have hlS : S.length ≤ 600 := by rcases hST with ⟨rfl, rfl⟩ | ⟨rfl, rfl⟩ <;> assumption
          have hlT : T.length ≤ 50 := by rcases hST with ⟨rfl, rfl⟩ | ⟨rfl, rfl⟩ <;> assumption
          have HAT := Lib.hid (show ∀ t ∈ T, t.length ≤ 600 ∧ ∀ b ∈ t, b < 256 by rcases hST with ⟨rfl, rfl⟩ | ⟨rfl, rfl⟩; exact HA.out; exact HA'.out)
          have HSH := Lib.hid hsh
          have HEC := Lib.hid ecr
          have HST := Lib.hid hST
          clear hsh ecr hST
          go_wp2_with fail
          refine (hold_crash HH.out HCU.out.1 A2 c2 w.heap.size keep (fun F hF W' ho => HK.out.below (HH.out.since.trans (ho.below hF.over HH.out.size)))).mono ?_
          rintro e w1 ⟨rfl, h1c, k1⟩
          rw [HEC.out] at h1c
          have H1C := Lib.hid h1c
          have B1' := Lib.hid h1c.since
          have BA := Lib.hid (HB1.out w1 k1 h1c.since)
          have BA' := Lib.hid (HB2.out w1 k1 h1c.since)
          have T1 := Lib.hid (tab_below HT.out h1c.since hpos)
          have hsw1 := h1c.since.size
          clear h1c k1 HB1 HB2 HH HEC
          go_wp2_with fail
          refine (open_journal (n := 40) H1C.out rfl (by omega) (by omega) rfl (Nat.zero_le _) T1.out hpos gen S (by omega) T u HSH.out.shows).mono ?_
          rintro e w2 ⟨gk, B, cc, vk, usk, rfl, h2c, j2, o2, t2, bl2, hgk⟩
          have H2C := Lib.hid h2c
          have JK := Lib.hid j2
          have OS := Lib.hid (Own.bytes o2 HSH.out.s256)
          obtain ⟨Ak, ck, rfl⟩ := slice_of t2.1
          have TK := Lib.hid t2
          have hsw2 := bl2.size
          have BL2 := Lib.hid bl2
          have BB := Lib.hid (And.intro ((BA.out.1.below bl2).more bl2.size) ((BA.out.2.below bl2).more bl2.size))
          have BB' := Lib.hid (And.intro ((BA'.out.1.below bl2).more bl2.size) ((BA'.out.2.below bl2).more bl2.size))
          clear h2c j2 o2 t2 bl2 BA BA'
          go_upto_region 33 with (fail)
          have BR2 := Lib.hid (Below.refl w2.heap.size w2)
          go_cut [17] from 112 to 120 (fun v wx => ∃ b : Bool, v = .bool b ∧ (b = true ↔ S = st ∧ T = txs) ∧ Below w2.heap.size w2 wx)
          case first =>
            go_wp2_with fail
            refine (jstate_any (JK.out.below BR2.out JK.out.lt) (OS.out.below BR2.out |>.more BR2.out.size) (by omega)).mono ?_
            rintro e w3 ⟨v, rfl, own3, b3⟩
            obtain ⟨B3, c3, rfl⟩ := slice_of own3
            have O3 := Lib.hid (Own.bytes own3 HSH.out.s256)
            have BL3 := Lib.hid (BR2.out.trans (b3.mono BR2.out.size))
            clear own3 b3
            go_wp2_with fail
            refine (same_iff B3 AS S.length st.length c3 cS w3.heap.size w2.heap.size S st w3 O3.out (BB.out.1.below BL3.out)).mono ?_
            rintro e w' ⟨rfl, rfl⟩
            by_cases hs : S = st
            · have hq : (S == st) = true := by simpa using hs
              rw [hq]
              go_wp2_with fail
              refine (rowsEqual_any (JK.out.below BL3.out JK.out.lt) (TK.out.of (fun k hk => BL3.out.block k (TK.out.over k hk).2)) (fun t ht => (HAT.out t ht).2) (by omega) (fun t ht => by have := (HAT.out t ht).1; omega) AT _ usT txs ((BB.out.2.below BL3.out).more BL3.out.size) (by omega)).mono ?_
              rintro e w4 ⟨r, rfl, hr, b4⟩
              have HR4 := Lib.hid (And.intro hr (BL3.out.trans (b4.mono BL3.out.size)))
              clear hr b4
              go_wp2
              go_meet
              exact ⟨r, rfl, ⟨fun h => ⟨hs, HR4.out.1.1 h⟩, fun h => HR4.out.1.2 h.2⟩, HR4.out.2⟩
            · have hq : (S == st) = false := by simpa using hs
              rw [hq]
              go_wp2
              go_meet
              exact ⟨false, rfl, by simp [hs], BL3.out⟩
          obtain ⟨b1, rfl, hb1, bl3⟩ := hcut
          have BL3 := Lib.hid bl3
          have E1 := Lib.hid hb1
          clear bl3 hb1
          generalize wc = w3 at *
          go_upto_region 34 with (fail)
          go_cut [18] from 121 to 129 (fun v wx => ∃ b : Bool, v = .bool b ∧ (b = true ↔ S = st' ∧ T = txs') ∧ Below w2.heap.size w2 wx)
          case first =>
            go_wp2_with fail
            refine (jstate_any (JK.out.below BL3.out JK.out.lt) (OS.out.below BL3.out |>.more BL3.out.size) (by omega)).mono ?_
            rintro e w5 ⟨v, rfl, own3, b3⟩
            obtain ⟨B3, c3, rfl⟩ := slice_of own3
            have O3 := Lib.hid (Own.bytes own3 HSH.out.s256)
            have BL5 := Lib.hid (BL3.out.trans (b3.mono BL3.out.size))
            clear own3 b3
            go_wp2_with fail
            refine (same_iff B3 AS' S.length st'.length c3 cS' w5.heap.size w2.heap.size S st' w5 O3.out (BB'.out.1.below BL5.out)).mono ?_
            rintro e w' ⟨rfl, rfl⟩
            by_cases hs : S = st'
            · have hq : (S == st') = true := by simpa using hs
              rw [hq]
              go_wp2_with fail
              refine (rowsEqual_any (JK.out.below BL5.out JK.out.lt) (TK.out.of (fun k hk => BL5.out.block k (TK.out.over k hk).2)) (fun t ht => (HAT.out t ht).2) (by omega) (fun t ht => by have := (HAT.out t ht).1; omega) AT' _ usT' txs' ((BB'.out.2.below BL5.out).more BL5.out.size) (by omega)).mono ?_
              rintro e w4 ⟨r, rfl, hr, b4⟩
              have HR4 := Lib.hid (And.intro hr (BL5.out.trans (b4.mono BL5.out.size)))
              clear hr b4
              go_wp2
              go_meet
              exact ⟨r, rfl, ⟨fun h => ⟨hs, HR4.out.1.1 h⟩, fun h => HR4.out.1.2 h.2⟩, HR4.out.2⟩
            · have hq : (S == st') = false := by simpa using hs
              rw [hq]
              go_wp2
              go_meet
              exact ⟨false, rfl, by simp [hs], BL5.out⟩
          obtain ⟨b2, rfl, hb2, bl4⟩ := hcut
          have BL4 := Lib.hid bl4
          have hor : b1 = true ∨ b2 = true := HST.out.imp (fun h => E1.out.2 h) (fun h => hb2.2 h)
          clear bl4 hb2
          generalize wc = w4 at *
          go_upto_region 35 with (fail)
          go_cut [135] from 130 to 135 (fun v wx => v = .bool false ∧ wx = w4)
          case first =>
            have hb : b1 = true ∨ (b1 = false ∧ b2 = true) := by cases b1 <;> simp_all
            rcases hb with rfl | ⟨rfl, rfl⟩
            · go_wp2
              go_meet
              exact ⟨rfl, rfl⟩
            · go_wp2
              go_meet
              exact ⟨rfl, rfl⟩
          obtain ⟨rfl, rfl⟩ := hcut
          have H4 := Lib.hid (H2C.out.below BL4.out)
          have HW5 := Lib.hid (H4.out.push (.cells #[.bool true, .bool true] 4))
          have RD5 := Lib.hid (Reads.new wc [Value.bool true, Value.bool true] 4 (0, 0))
          have T4 := Lib.hid (tab_below T1.out (BL2.out.trans (BL4.out.mono hsw2)) (by omega))
          have JK4 := Lib.hid (JK.out.below BL4.out JK.out.lt)
          have TK4 := Lib.hid (TK.out.of (w' := wc) (fun k hk => BL4.out.block k (TK.out.over k hk).2))
          have OS4 := Lib.hid ((OS.out.below BL4.out).more BL4.out.size)
          have hsw4 := BL4.out.size
          clear BL4 BL3 JK TK OS E1 hor BB BB'
          go_wp2_with fail
          refine (hold_crash_x HW5.out (Nat.zero_le _) (some ⟨wc.heap.size, 0, none⟩) 2 (wc.heap.size + 1) [true, true] RD5.out (fun k hk => by simp [blkOf] at hk; subst hk; simp)).mono ?_
          rintro e w6 ⟨rfl, h6, k6⟩
          rw [idle_crash] at h6
          have H6 := Lib.hid h6
          have K6 := Lib.hid (show ∀ k ∈ txBlks (Value.slice Ak T.length ck) usk ++ (blkOf B ++ gk :: X), w6.heap[k]? = wc.heap[k]? from fun k hk => (k6.2 k (List.mem_cons_of_mem _ hk)).trans (Below.heap_alloc wc _ k (H4.out.lt k hk)))
          have hs6 : wc.heap.size + 1 ≤ w6.heap.size := by have := k6.1; simpa using this
          have T6 := Lib.hid (tab_below HT.out h6.since hpos)
          have JK6 := Lib.hid (JK4.out.of (K6.out gk (by simp)))
          have TK6 := Lib.hid (TK4.out.of (fun k hk => K6.out k (by simp [hk])))
          have OS6 := Lib.hid (show Bytes w6 w6.heap.size B S.length S from ⟨OS4.out.1.blk (fun k hk => K6.out k (by simp [hk])) (by omega), OS4.out.2⟩)
          clear h6 k6 H4 HW5 RD5 JK4 TK4 OS4 K6
          go_wp2_with fail
          refine (open_journal (n := 40) H6.out rfl (by omega) (by omega) rfl (Nat.zero_le _) T6.out hpos gen S (by omega) T u HSH.out.shows).mono ?_
          rintro e w7 ⟨gl, Bl, cl, vl, usl, rfl, h7, j7, o7, t7, bl7, hgl⟩
          obtain ⟨Al, cl2, rfl⟩ := slice_of t7.1
          have HB7 := Lib.hid h7.since
          have JL := Lib.hid j7
          have OL := Lib.hid (Own.bytes o7 HSH.out.s256)
          have TL := Lib.hid t7
          have hsw7 := bl7.size
          have JK7 := Lib.hid (JK6.out.below bl7 JK6.out.lt)
          have TK7 := Lib.hid (TK6.out.of (w' := w7) (fun k hk => bl7.block k (TK6.out.over k hk).2))
          have OS7 := Lib.hid ((OS6.out.below bl7).more bl7.size)
          clear h7 j7 o7 t7 bl7 H6 T6 T4 JK6 TK6 OS6 H2C BL2 H1C B1' T1
          have hb2 : Below w7.heap.size w7 ((w7.alloc (.cells #[] 34)).alloc (.cells #[.slice (some ⟨w7.heap.size, 0, none⟩) 0 0] 36)) := ((Below.refl _ w7).alloc (Nat.le_refl _) _).alloc (by simp) _
          have hs2 : ((w7.alloc (.cells #[] 34)).alloc (.cells #[.slice (some ⟨w7.heap.size, 0, none⟩) 0 0] 36)).heap.size = w7.heap.size + 2 := by simp
          have hx2 : Boxed ((w7.alloc (.cells #[] 34)).alloc (.cells #[.slice (some ⟨w7.heap.size, 0, none⟩) 0 0] 36)) (w7.heap.size + 1) 36 (.slice (some ⟨w7.heap.size, 0, none⟩) 0 0) := by
            have := Boxed.new (w7.alloc (.cells #[] 34)) 36 (.slice (some ⟨w7.heap.size, 0, none⟩) 0 0)
            simpa using this
          have hr2 : ((w7.alloc (.cells #[] 34)).alloc (.cells #[.slice (some ⟨w7.heap.size, 0, none⟩) 0 0] 36)).ownsRow w7.heap.size 34 1 (.slice (some ⟨w7.heap.size, 0, none⟩) 0 0) 0 [] :=
            World.ownsRow.alloc (w := w7.alloc (.cells #[] 34)) ⟨rfl, .inr ⟨w7.heap.size, 0, #[], rfl, Nat.le_refl _, Blk.new w7 _ _, Nat.le_refl _, by simp [maxLen], rfl, rfl⟩⟩ _
          have HS2 := Lib.hid (And.intro hb2 (And.intro hs2 (And.intro hx2 hr2)))
          have JK8 := Lib.hid (JK7.out.below hb2 JK7.out.lt)
          clear hb2 hs2 hx2 hr2
          go_wp2_with fail
          refine (txs_any JK8.out).mono ?_
          rintro e w8 ⟨rfl, b3, hx3, s3⟩
          rw [HS2.out.2.1] at hx3 s3 b3
          have hg3 : GotAt w8 w7 (w7.heap.size + 1) (.slice (some ⟨w7.heap.size, 0, none⟩) 0 0) [] := ⟨(b3.block _ (by omega)).trans HS2.out.2.2.1, row_of HS2.out.2.2.2 (fun k hk => b3.block k (by have := row_under HS2.out.2.2.2 k hk; have := HS2.out.2.1; omega)), HS2.out.1.trans (b3.mono (by omega))⟩
          have HG3 := Lib.hid hg3
          have HX3 := Lib.hid hx3
          have HT3 := Lib.hid (TK7.out.of (w' := w8) (fun k hk => hg3.bel.block k (TK7.out.over k hk).2))
          have HKS := Lib.hid (show ∀ k ∈ (w7.heap.size + 2) :: txBlks (.slice Ak T.length ck) usk, k < w8.heap.size from fun k hk => by
            rcases List.mem_cons.1 hk with rfl | hk
            · omega
            · have := (TK7.out.over k hk).2; omega)
          rw [HS2.out.2.1]
          clear JK8 HS2 b3 hx3 hg3
          go_upto_block 3 with (fail)
          refine (wpIn_wide (n := 5)).1 ?_
          refine wpIn_block ?_
          refine wpIn_at (fun A hA => ?_)
          refine range_given hro h1 (gf := 43) (lb := #[.pointer (some ⟨w7.heap.size + 2, 0, none⟩)]) (by subst hA; rfl) trivial (enters_of Tryd.func43 (by kernel_rfl) rfl) (encs := TxV.enc) (fun _ => rfl)
            (txs1_gives w7.heap.size (w7.heap.size + 2) w1.heap.size (.slice Ak T.length ck) T usk w8 (by omega) (by omega) HX3.out HT3.out (fun t ht => (HAT.out t ht).2) (by omega) (fun t ht => by have := (HAT.out t ht).1; omega))
            (fun xs W => ∃ v, GotAt W w7 (w7.heap.size + 1) v xs ∧ Boxed W (w7.heap.size + 2) 36 (.slice Ak T.length ck)) ?own1 ?own2 ?own3 (fun h h' => KeepT.trans h h') (fun W l o o' hl ho hc => KeepT.put (fun k hk => by have := HKS.out k hk; omega) ho hc) ⟨_, HG3.out, HX3.out⟩
            ?a1 ?assign ?body ?done
          case own1 =>
            rintro s W W' row ⟨v, h, h'⟩ hg hr
            exact ⟨v, h.from hg (B := w8.heap.size) (by omega) (by omega) hr, h'.kept hg (fun e => by have := (hr _ e.symm).1; omega)⟩
          case own2 =>
            rintro s W W' row ⟨h1, h2⟩ hg hr
            refine ⟨h1, fun i t hi ht => ?_⟩
            obtain ⟨x, y1, y2, y3, y4⟩ := h2 i t hi ht
            exact ⟨x, y1, y2, y3, own_from (w := w7) y4 hg hr⟩
          case own3 =>
            rintro x s W W' row ⟨t, y1, y2, y3⟩ hg hr
            exact ⟨t, y1, y2, own_from (w := w7) y3 hg hr⟩
          case assign =>
            rintro l x W K hK
            have HK := Lib.hid hK
            clear hK
            unfold TxV.enc
            simp only [List.zip_toArray, List.zip_cons_cons, List.zip_nil_right, List.foldl_toArray', List.foldl_toArray, List.foldl_cons, List.foldl_nil]
            subst hA
            simp only [List.setIfInBounds_toArray, List.set_cons_zero, List.set_cons_succ]
            gi_wp2
            exact HK.out
          case body =>
            rintro l pre x W hlW ⟨rl, hrl⟩ ⟨v, hgot, hbs⟩ hGx hlt
            clear hGx hrl
            obtain ⟨i, Ax, nx, cx⟩ := x
            have hcl := hgot.box.cell
            have hfz := hgot.box.frozen
            obtain ⟨Av, cv, rfl⟩ := row_form hgot.row
            have HG := Lib.hid hgot
            have HBS := Lib.hid hbs
            have hbl := hgot.bel.size
            clear hgot hbs
            clear hA
            dsimp only [TxV.v] at hcl ⊢
            refine wpIn_block ?_
            gi_wp2_with (refine wpListIn_app_row rfl (.tmp 149) (.tmp 151) rfl w7.heap.size (.slice Av pre.length cv) pre.length (pre.map TxV.v) rfl (World.ownsRow.alloc HG.out.row _) _ (some ⟨W.heap.size, 0, none⟩) 1 (.slice Ax nx cx) rfl (Reads.new W [Value.slice Ax nx cx] 34 (0, 0)) rfl (by omega) (by rw [World.size_alloc]; omega) ?_
                         intro v3 W3 h3 g3
                         obtain ⟨A3, c3, rfl⟩ := row_form h3
                         have hb3 : Boxed W3 (w7.heap.size + 1) 36 (.slice Av pre.length cv) := (HG.out.box.alloc (.cells #[.slice Ax nx cx] 34)).kept g3 (fun e => own_blk_ne (World.ownsRow.alloc HG.out.row _) (show Blk _ _ 36 #[_] from HG.out.box.alloc (.cells #[.slice Ax nx cx] 34)) (by decide) e.symm)
                         have hcl4 := hb3.cell
                         have hfz4 := hb3.frozen
                         have HF := Lib.hid (got_step (B := w8.heap.size) (x := ⟨i, Ax, nx, cx⟩) (Ks := txBlks (.slice Ak T.length ck) usk) (Bs := w7.heap.size + 2) HG.out g3 h3 (by omega) (fun k hk => (TK7.out.over k hk).2) (Array.getElem?_eq_some_iff.1 HBS.out).1 (by omega) ⟨_, _, HBS.out⟩)
                         clear h3 g3 hb3)
            have hres := HF.out
            refine ⟨hres.1, hres.2.1, ?_⟩
            obtain ⟨v4, hv4⟩ := hres.2.2
            exact ⟨v4, hv4, (hres.2.1.2.1 _ (by simp)).trans HBS.out⟩
          case done =>
            rintro D xs W hD hS ⟨v, hgot, hbs⟩ hK
            subst hA
            dsimp only
            have hcl := hgot.box.cell
            have hblt : w7.heap.size + 1 < W.heap.size := (Array.getElem?_eq_some_iff.1 hgot.box).1
            obtain ⟨Av, cv, rfl⟩ := row_form hgot.row
            have hrows : RowsAt W W.heap.size Av (xs.map TxV.v) T := by
              have h0 := Reads.of_own hgot.row
              rw [hS.1] at h0
              refine ⟨h0, fun i t hi => ?_⟩
              obtain ⟨x, y1, y2, y3, y4⟩ := hS.2 i t (List.getElem?_eq_some_iff.1 hi).1 hi
              obtain ⟨xi, xA, xn, xc⟩ := x
              simp only at y3
              subst y3
              exact ⟨xA, xc, by rw [List.getElem?_map, y1]; rfl, Own.bytes y4 (HAT.out t (List.mem_of_getElem? hi)).2⟩
            have HROWS := Lib.hid hrows
            have HB := Lib.hid hgot.bel
            have HKD := Lib.hid hK
            have hlen := hS.1
            rw [hlen] at hcl
            have HCL := Lib.hid hcl
            have hsz := hgot.bel.size
            have JLW := Lib.hid (JL.out.below hgot.bel JL.out.lt)
            have JKW := Lib.hid (JK7.out.below hgot.bel JK7.out.lt)
            have OLW := Lib.hid ((OL.out.below hgot.bel).more hgot.bel.size)
            have OSW := Lib.hid ((OS7.out.below hgot.bel).more hgot.bel.size)
            have TLW := Lib.hid (TL.out.of (w' := W) (fun k hk => hgot.bel.block k (TL.out.over k hk).2))
            clear hcl hgot hbs hK hS hrows
            go_wp2_with fail
            refine (jstate_any JLW.out OLW.out (by omega)).mono ?_
            rintro e W1 ⟨x1, rfl, own1, bw1⟩
            obtain ⟨B1, cc1, rfl⟩ := slice_of own1
            have O1 := Lib.hid (Own.bytes own1 HSH.out.s256)
            have BW1 := Lib.hid bw1
            clear own1 bw1
            go_wp2_with fail
            refine (jstate_any (JKW.out.below BW1.out JKW.out.lt) ((OSW.out.below BW1.out).more BW1.out.size) (by omega)).mono ?_
            rintro e W2 ⟨x2, rfl, own2, bw2⟩
            obtain ⟨B2, cc2, rfl⟩ := slice_of own2
            have O2 := Lib.hid (Own.bytes own2 HSH.out.s256)
            have O1' := Lib.hid (O1.out.below bw2)
            have BW2 := Lib.hid (BW1.out.trans (bw2.mono BW1.out.size))
            clear own2 bw2
            go_wp2_with fail
            refine (same_iff B1 B2 S.length S.length cc1 cc2 W1.heap.size W2.heap.size S S W2 O1'.out O2.out).mono ?_
            rintro e w' ⟨rfl, rfl⟩
            rw [show (S == S) = true by simp]
            have hcl2 : W2.cell? ⟨w7.heap.size + 1, 0, none⟩ = some (.slice Av T.length cv) := (World.cell?_of_block (BW2.out.block _ hblt)).trans HCL.out
            have hsw2 := BW2.out.size
            go_wp2_with fail
            refine (rowsEqual_any (JLW.out.below BW2.out JLW.out.lt) (TLW.out.of (fun k hk => BW2.out.block k (TLW.out.over k hk).2)) (fun t ht => (HAT.out t ht).2) (by omega) (fun t ht => by have := (HAT.out t ht).1; omega) Av _ (xs.map TxV.v) T ((HROWS.out.below BW2.out).more BW2.out.size) (by omega)).mono ?_
            rintro e W3 ⟨r, rfl, hr, bw3⟩
            obtain rfl : r = true := hr.2 rfl
            have BW3 := Lib.hid (BW2.out.trans (bw3.mono BW2.out.size))
            clear hr bw3 hcl2
            go_wp2_with fail
            refine (jgen_any (JLW.out.below BW3.out JLW.out.lt)).mono ?_
            rintro e w' ⟨rfl, rfl⟩
            go_wp2_with fail
            refine (jgen_any (JKW.out.below BW3.out JKW.out.lt)).mono ?_
            rintro e w' ⟨rfl, rfl⟩
            go_wp2
            have hk2 := (BW3.out.block D (Array.getElem?_eq_some_iff.1 HKD.out).1).trans HKD.out
            refine ⟨by simp, .inl ⟨_, _, rfl, run_takeDeferred hk2, ?_⟩⟩
            have hkp := grownBy_putObj' W3 D (.deferred none)
            have hs3 := BW3.out.size
            have hs7 := HB7.out.size
            have hall : Below w.heap.size w W3 := HB7.out.trans ((HB.out.trans (BW3.out.mono hsz)).mono hs7)
            exact ⟨_, keeps_results _ _ _ rfl, rfl, hall.grown hkp (by omega) (fun k e => by cases e; omega)⟩
end Go.Proofs.YtpklcmocjimcpaaDoor
