/-
  The law JournalOrder, walked: it returns true and changes nothing that was there. Condition: the package's table holds its sixteen numbers.
-/
import Derived.Test.YtpklcmocjimcpaaDoorZj
import Derived.Test.YtpklcmocjimcpaaDoorJckC
import Derived.Test.YtpklcmocjimcpaaDoorJreC
import Derived.Test.YtpklcmocjimcpaaDoorJopC
import Derived.Test.YtpklcmocjimcpaaDoorOpenKC
import Derived.Deep.LoopGhost
import Derived.Deep.CutRange
import Derived.Deep.DeepCutAuto
import Derived.Deep.CutBlock
namespace Go.Proofs.YtpklcmocjimcpaaDoor
open Go.RowKit
set_option maxRecDepth 100000
set_option linter.unusedSimpArgs false
set_option linter.unusedVariables false
section
variable {w0 w : World} {g gj n gen u : Nat} {d : DM} {st : List Nat} {txs : List (List Nat)} {X : List Nat}
theorem JAt.rowsEq (h : JAt w0 w g gj d n gen st txs u X) (h256 : ∀ t ∈ txs, ∀ b ∈ t, b < 256) (hmany : txs.length ≤ 100000) (hlong : ∀ t ∈ txs, t.length ≤ 5000) (A' : Option Addr) (c' : Nat) (us' : List Value) (L' : List (List Nat)) (hR' : RowsAt w w.heap.size A' us' L') (hm' : L'.length ≤ 100000) :
    Calls Tryd.prog 19 #[.pointer (some ⟨gj, 0, none⟩), .slice A' L'.length c'] w (RowsTo txs L' w) := by
  obtain ⟨A0, c0, vt, us, h1, h2, h3, h4, h5, h6⟩ := h
  exact rowsEqual_any h2 h4 h256 hmany hlong A' c' us' L' hR' hm'
/-- behind an append onto a row of slices that is none of the journal's -/
theorem JAt.appended {w' : World} {v v' : Value} {m : Nat} {xs : List Value} (h : JAt w0 w g gj d n gen st txs u X) (ho : w.ownsRow w0.heap.size 34 1 v m xs) (hv : ∀ k ∈ rowOf v, k ∈ X) (hg : w.grownBy w' v.ownBlock) (hat : v'.ownBlock = v.ownBlock ∨ v'.ownBlock = some w.heap.size) (hlt : ∀ k, v'.ownBlock = some k → k < w'.heap.size) : JAt w0 w' g gj d n gen st txs u (rowOf v' ++ X) := by
  obtain ⟨A0, c0, vt, us, h1, h2, h3, h4, h5, h6⟩ := h
  have hvX : ∀ k, v.ownBlock = some k → k ∈ X := fun k hk => hv k (mem_rowOf.2 hk)
  have hkeep : ∀ {b : Nat} {x : Value} {l : Nat} {bs : List Nat}, Own w b x l bs → Own w' b x l bs := fun {b x l bs} hx => row_of hx (fun k hk => hg.block k (row_under hx k hk) (fun e => own_own_ne hx ho (by decide) k hk e.symm))
  refine ⟨A0, c0, vt, us, ?_, ?_, hkeep h3, ⟨row_of h4.1 (fun k hk => hg.block k (row_under h4.1 k hk) (fun e => (h6 k (hvX k e.symm)).2 hk)), h4.2.1, fun i t hi => ?_⟩, h5, fun k hk => ?_⟩
  · refine (h1.appended hg (fun k hk => by simp [hvX k hk]) (fun k hk => (World.ownsRow.lt ho k hk).1) hat hlt).mono (fun k hk => ?_)
    simp only [List.mem_append, List.mem_cons] at hk ⊢
    rcases hk with hk | hk | hk | hk | hk
    · exact .inr (.inl hk)
    · exact .inr (.inr (.inl hk))
    · exact .inr (.inr (.inr (.inl hk)))
    · exact .inl hk
    · exact .inr (.inr (.inr (.inr hk)))
  · exact h2.grown hg (fun e => (h6 gj (hvX gj e.symm)).1 rfl)
  · obtain ⟨B, c, e1, e2⟩ := h4.2.2 i t hi
    exact ⟨B, c, e1, hkeep e2⟩
  · rcases List.mem_append.1 hk with hk | hk
    · have hk' := mem_rowOf.1 hk
      rcases hat with e | e
      · exact h6 k (hvX k (by rw [← e]; exact hk'))
      · rw [e] at hk'
        injection hk' with hk'
        subst hk'
        exact ⟨fun e => by have := h2.lt; omega, fun hr => by have := (World.ownsRow.lt h4.1 _ (mem_rowOf.1 hr)).2; omega⟩
    · exact h6 k hk
end
/-- the law's own state and transactions, beside the journal's -/
def OrderAt (w wr : World) (g gj k : Nat) (vS vT : Value) (X : List Nat) : Prop := ∃ (f : Int → Sec) (s gen : Nat) (st : List Nat) (txs : List (List Nat)) (u : Nat) (AS : Option Addr) (cS : Nat) (AT : Option Addr) (cT : Nat) (usT : List Value),
  vS = .slice AS st.length cS ∧ Bytes w w.heap.size AS st.length st ∧ vT = .slice AT txs.length cT ∧ wr.ownsRow w.heap.size 34 1 (.slice AT txs.length cT) txs.length usT ∧
  (∀ (i : Nat) (t : List Nat), txs[i]? = some t → ∃ A' c, usT[i]? = some (.slice A' t.length c) ∧ Bytes w w.heap.size A' t.length t) ∧
  JAt w wr g gj (DM.idle 64 f s 0) 64 gen st txs u (X ++ rowOf (.slice AT txs.length cT)) ∧ JOk f 64 gen st txs u ∧ s ≤ 1000 * k + 1000 ∧ gen ≤ k + 1 ∧ txs.length ≤ k ∧ st.length ≤ 600 ∧ ∀ t ∈ txs, t.length ≤ 600 ∧ ∀ b ∈ t, b < 256
section
variable {w wr w' : World} {g gj k : Nat} {vS vT : Value} {X : List Nat}
theorem OrderAt.below (h : OrderAt w wr g gj k vS vT X) (hb : Below wr.heap.size wr w') : OrderAt w w' g gj k vS vT X := by
  obtain ⟨f, s, gen, st, txs, u, AS, cS, AT, cT, usT, h1, h2, h3, h4, h5, h6, h7, h8⟩ := h
  exact ⟨f, s, gen, st, txs, u, AS, cS, AT, cT, usT, h1, h2, h3, row_of h4 (fun k hk => hb.block k (row_under h4 k hk)), h5, h6.below hb, h7, h8⟩
theorem OrderAt.push (h : OrderAt w wr g gj k vS vT X) (o : Obj) : OrderAt w (wr.alloc o) g gj k vS vT (wr.heap.size :: X) := by
  obtain ⟨f, s, gen, st, txs, u, AS, cS, AT, cT, usT, h1, h2, h3, h4, h5, h6, h7, h8⟩ := h
  have hb : Below wr.heap.size wr (wr.alloc o) := (Below.refl _ _).alloc (Nat.le_refl _) _
  exact ⟨f, s, gen, st, txs, u, AS, cS, AT, cT, usT, h1, h2, h3, World.ownsRow.alloc h4 o, h5, h6.more hb (Y := [wr.heap.size]) (fun q hq => by simp at hq; subst hq; exact .inr (.inr ⟨Nat.le_refl _, by simp⟩)), h7, h8⟩
theorem OrderAt.later (h : OrderAt w wr g gj k vS vT X) : OrderAt w wr g gj (k + 1) vS vT [] := by
  obtain ⟨f, s, gen, st, txs, u, AS, cS, AT, cT, usT, h1, h2, h3, h4, h5, h6, h7, h8, h9, h10, h11⟩ := h
  exact ⟨f, s, gen, st, txs, u, AS, cS, AT, cT, usT, h1, h2, h3, h4, h5, h6.mono (fun q hq => List.mem_append_right _ hq), h7, by omega, by omega, by omega, h11⟩
theorem OrderAt.since (h : OrderAt w wr g gj k vS vT X) : Below w.heap.size w wr := by
  obtain ⟨f, s, gen, st, txs, u, AS, cS, AT, cT, usT, h1, h2, h3, h4, h5, h6, h7, h8, h9, h10, h11⟩ := h
  exact h6.holds.since
end
set_option maxRecDepth 100000 in
set_option maxHeartbeats 16000000 in
theorem journalOrder_walk (A0 : Option Addr) (n0 c0 : Nat) (os : List JOpV) (m0 : n0 ≤ 9223372036854775807) {w : World} (hS : JCells w w.heap.size A0 n0 os ∧ ∀ o ∈ os, o.At w w.heap.size ∧ o.Fit ∧ o.Wide) (hT : Tab w) :
    Calls Tryd.prog 6 #[.slice A0 n0 c0] w fun e w' => e = .returned (.bool true) ∧ Below w.heap.size w w' := by
  have hpos := hT.pos
  have HS := Lib.hid hS
  have HT := Lib.hid hT
  clear hS hT
  go_enter Tryd.func6, Tryd.ntmps6
  go_wp2_with fail
  refine (jalive_any w HT.out hpos).mono ?_
  rintro e w1 ⟨rfl, b1⟩
  have B1 := Lib.hid b1
  clear b1
  go_wp2_with fail
  refine (jlarge_any A0 n0 c0 os w.heap.size w1 (Reads.below HS.out.1 B1.out) B1.out.size m0 (fun o ho => ⟨((HS.out.2 o ho).2.1).1, ((HS.out.2 o ho).2.1).2.1⟩)).mono ?_
  rintro e w1' ⟨r, rfl, bl, hr⟩
  have B2 := Lib.hid (B1.out.trans (bl.mono B1.out.size))
  clear bl
  cases r with
  | true =>
    clear hr
    go_wp2
    go_ret
    exact ⟨rfl, B2.out⟩
  | false =>
    obtain ⟨hn41, hsmall⟩ := hr rfl
    have HSM := Lib.hid hsmall
    clear hr hsmall
    go_wp2_with fail
    refine (new_good w1' w.heap.size 64 (by omega) (by omega) B2.out.size).mono ?_
    intro e w2 hm
    obtain ⟨g, rfl, h2⟩ := Holds.made B2.out hm
    rw [idle_new] at h2
    have hs2 := h2.size
    have H2 := Lib.hid h2
    have T2 := Lib.hid (tab_below HT.out h2.since hpos)
    have hfit : pn [] ≤ areaOf 64 := by decide
    obtain ⟨f1, f2⟩ := idle_fmt 64 0 0 (fun _ => Sec.zero) [] (by omega) hfit
    have F1 := Lib.hid f1
    have F2 := Lib.hid f2
    have OK1 := Lib.hid (JOk.format (n := 64) (st := []) (by omega) (by omega) hfit (by decide) (by decide))
    clear hm h2 f1 f2
    go_wp2_with fail
    refine (format_good (n := 64) H2.out rfl (by omega) (by omega) none 0 [] ⟨Reads.none_, by simp⟩ (by decide) (by decide) (by omega) hfit T2.out hpos (fun k hk => by simp [blkOf] at hk) (idle_far (by decide) (by omega) (by decide)) (by rw [F1.out]) (by rw [F2.out])).mono ?_
    rintro e w3 ⟨gj, B, cc, rfl, h3, j3, o3, k3, hg3, hn3⟩
    rw [F2.out] at h3
    have J3 := Lib.hid (JAt.formatted hs2 (by simp) h3 j3 o3 hg3)
    clear h3 j3 o3 k3 hn3
    have hb4 : Below w3.heap.size w3 ((w3.alloc (.cells #[] 5)).alloc (.cells #[] 34)) := ((Below.refl _ _).alloc (Nat.le_refl _) _).alloc (by simp) _
    have hs4 : ((w3.alloc (.cells #[] 5)).alloc (.cells #[] 34)).heap.size = w3.heap.size + 2 := by simp
    have hs3' : (w3.alloc (.cells #[] 5)).heap.size = w3.heap.size + 1 := by simp
    have hle3 := J3.out.holds.since.size
    have hr4 : ((w3.alloc (.cells #[] 5)).alloc (.cells #[] 34)).ownsRow w.heap.size 34 1 (.slice (some ⟨w3.heap.size + 1, 0, none⟩) 0 0) 0 [] :=
      ⟨rfl, .inr ⟨w3.heap.size + 1, 0, #[], rfl, by omega, by have := Blk.new (w3.alloc (.cells #[] 5)) 34 #[]; rw [hs3'] at this; exact this, Nat.le_refl _, by simp [maxLen], rfl, rfl⟩⟩
    have O4 := Lib.hid (show OrderAt w ((w3.alloc (.cells #[] 5)).alloc (.cells #[] 34)) g gj 0 (.slice (some ⟨w3.heap.size, 0, none⟩) 0 0) (.slice (some ⟨w3.heap.size + 1, 0, none⟩) 0 0) [] from
      ⟨_, _, 1, [], [], 0, some ⟨w3.heap.size, 0, none⟩, 0, some ⟨w3.heap.size + 1, 0, none⟩, 0, [], rfl, ⟨⟨rfl, fun h => absurd h (Nat.lt_irrefl _)⟩, by simp⟩, rfl, hr4, fun i t h => by simp at h,
        (J3.out.more hb4 (Y := [w3.heap.size + 1]) (fun k hk => by simp at hk; subst hk; exact .inr (.inr ⟨by omega, by omega⟩))).mono (fun k hk => by simpa [rowOf, Value.ownBlock] using hk), OK1.out, by simp [pn], by omega, by simp, by simp, by simp⟩)
    clear hb4 hr4 J3 OK1 F1 F2 H2
    go_wp2_with fail
    generalize hw4 : (w3.alloc (.cells #[] 5)).alloc (.cells #[] 34) = w4 at *
    clear hw4 hs3'
    go_loopg [6, 7, 9, 10, 11, 33] n0 (fun gk a b x y z i wr => ∃ k : Nat, k ≤ n0 ∧ gk = n0 - k ∧ i = .int .i64 k ∧ OrderAt w wr g gj k a b [])
    case atStart => exact ⟨0, by omega, by omega, rfl, O4.out⟩
    case round =>
      obtain ⟨k, hk, rfl, rfl, hord⟩ := hrel
      have hsince := hord.since
      by_cases hlt : k < n0
      · obtain ⟨ad, o, rfl, ho, hc⟩ := (show JCells wr w.heap.size A0 n0 os from Reads.below HS.out.1 hsince).get hlt
        have hmem := List.mem_of_getElem? ho
        obtain ⟨hat, hft, hwd⟩ := HS.out.2 o hmem
        have hsm := (HSM.out o hmem).1
        have hu := Tryd.underlying38
        have hi : (Tryd.prog.info? 38).map (·.size) = some o.cs.length := jop_size
        have hzo := jop_zero
        have B0 := Lib.hid (Blk.new wr 38 o.cs.toArray)
        have OR0 := Lib.hid (hord.push (.cells o.cs.toArray 38))
        have hk0 : (0 : Int) ≤ (k : Int) := by omega
        have hk1 : (k : Int) < (n0 : Int) := by omega
        have HAT := Lib.hid hat
        have HFT := Lib.hid hft
        have hszw := hsince.size
        clear hord ho hmem hat hft hwd hsince
        go_upto_block 2 with (first
            | (refine wpList_load_at rfl 38 (.tmp 35) rfl _ rfl o.cs _ hc hu rfl hi ?_)
            | (refine wpList_store_newN rfl 38 (.tmp 9) (.tmp 36) rfl wr.heap.size rfl o.cs _ rfl rfl hi rfl o.one ?_))
        generalize hgb : wr.heap.size = gb at *
        generalize wr.alloc (.cells o.cs.toArray 38) = w5 at *
        clear hc hzo
        simp only [Act.put]
        go_cut [6, 7] from 34 to 99 (fun s t wx => OrderAt w wx g gj (k + 1) s t [])
        case first =>
          obtain ⟨f, s, gen, st, txs, u, AS, cS, AT, cT, usT, rfl, x2, rfl, x4, x5, x6, x7, x8, x9, x10, x11, x12⟩ := OR0.out
          have hJB : Blk w5 gb 38 o.cs.toArray := B0.out
          have hule := x7.ule
          have hbt : Bytes w5 w5.heap.size o.A o.b.length o.b := (HAT.out.b.below x6.holds.since).more x6.holds.since.size
          have hAx : 0 < o.b.length → ∀ q ∈ blkOf o.A, q ∈ gb :: (rowOf (.slice AT txs.length cT)) ∨ q < w.heap.size := fun hl q hq => by
            obtain ⟨ad, e, hB, -⟩ := HAT.out.b.1.2 hl
            rw [e] at hq
            simp only [blkOf, List.mem_singleton] at hq
            subst hq
            exact .inr hB
          have HBT := Lib.hid hbt
          have HAX := Lib.hid hAx
          have HX := Lib.hid (And.intro x2 (And.intro x4 (And.intro x5 (And.intro x6 (And.intro x7 x12)))))
          have JB := Lib.hid hJB
          have HTW := Lib.hid (tab_below HT.out x6.holds.since hpos)
          have hlog : logOf 64 ≤ 22 := by decide
          clear hbt hAx x2 x4 x5 x6 x7 x12 hJB
          by_cases hk1 : o.kind = 1
          · have q0 : w5.cell? ⟨gb, 0, none⟩ = some (.int .i64 1) := by rw [JB.out.cell]; show some (Value.int .i64 o.kind) = _; rw [hk1]
            clear hk1
            by_cases hb0 : o.b.length = 0
            · have q2 : w5.cell? ⟨gb, 2, none⟩ = some (.slice o.A 0 o.c) := by rw [JB.out.cell]; show some (Value.slice o.A o.b.length o.c) = _; rw [hb0]
              clear hb0 hsm
              go_wp2_with fail
              refine (HX.out.2.2.2.1.empty _ _).mono ?_
              rintro e w' ⟨rfl, rfl⟩
              simp only [errV]
              go_wp2
              go_meet
              exact OR0.out.later
            · have q2 : w5.cell? ⟨gb, 2, none⟩ = some (.slice o.A o.b.length o.c) := JB.out.cell 2
              by_cases hfull : logOf 64 - u < pnN o.b.length + 1
              · have HB0 := Lib.hid hb0
                clear hb0
                go_wp2_with fail
                refine (HX.out.2.2.2.1.full (by omega) hule _ o.b.length o.c (by have := HB0.out; omega) (by omega) hfull).mono ?_
                rintro e w6 ⟨rfl, b6⟩
                simp only [errV]
                have q0 : w6.cell? ⟨gb, 0, none⟩ = some (.int .i64 1) := (b6.cell (p := ⟨gb, 0, none⟩) JB.out.lt).trans q0
                have O6 := Lib.hid (OR0.out.below b6)
                clear b6
                go_wp2
                go_meet
                exact O6.out.later
              · have hpm : pn o.b = pnN o.b.length := rfl
                have hpl : pnN o.b.length ≤ 6 := by unfold pnN; omega
                have hfit2 : u + pn o.b + 1 ≤ logOf 64 := by rw [hpm]; omega
                have hne : o.b ≠ [] := fun e => hb0 (by rw [e]; rfl)
                have hap := idle_app 64 s 0 gen u f o.b (by omega) hfit2
                have OKN := Lib.hid (HX.out.2.2.2.2.1.app hne HBT.out.2 hfit2)
                have hapc := HX.out.2.2.2.1.append (by omega) (by omega) hule o.A o.c o.b HBT.out (by omega) HFT.out.2.2.1 HFT.out.2.2.2 hne (by omega) HTW.out hpos (HAX.out (by omega)) (idle_far (by omega) (by omega) (by omega)) (by rw [hap]) (by omega)
                rw [hap] at hapc
                have HAPC := Lib.hid hapc
                have HPM := Lib.hid (And.intro hpm (And.intro hpl hb0))
                clear hpm hpl hap hapc hne hb0
                go_wp2_with fail
                refine HAPC.out.mono ?_
                rintro e w6 ⟨rfl, j6, k6, s6⟩
                have J6 := Lib.hid j6
                have hblk6 : w6.heap[gb]? = w5.heap[gb]? := k6 gb (by simp)
                have q2 : w6.cell? ⟨gb, 2, none⟩ = some (.slice o.A o.b.length o.c) := (World.cell?_of_block hblk6).trans q2
                have R6 := Lib.hid (row_of HX.out.2.1 (w' := w6) (fun q hq => k6 q (by simp [hq])))
                have hs6 := s6
                clear j6 k6 s6 hblk6 q0
                obtain ⟨iy, hiy0, hiy1, hiy2, hiy3⟩ := info_parts bytes_info1
                have HINFO := Lib.hid (And.intro hiy0 (And.intro hiy1 (And.intro hiy2 hiy3)))
                have hb7 : Below w6.heap.size w6 (w6.alloc (.cells #[.slice o.A o.b.length o.c] 34)) := (Below.refl _ _).alloc (Nat.le_refl _) _
                have J7 := Lib.hid (J6.out.below hb7)
                have R7 := Lib.hid (World.ownsRow.alloc R6.out (.cells #[.slice o.A o.b.length o.c] 34))
                have HRC := Lib.hid (Reads.new w6 [.slice o.A o.b.length o.c] 34 (0, 0))
                have HSZ := Lib.hid (show (w6.alloc (.cells #[.slice o.A o.b.length o.c] 34)).heap.size = w6.heap.size + 1 by simp)
                have hsw := J6.out.holds.since.size
                clear hiy0 hiy1 hiy2 hiy3 hb7
                go_wp2_with (at_builtin
                             refine wpList_append_any _ rfl (.tmp 48) (.tmp 51) 36 rfl w.heap.size 34 iy _ 1 24 Tryd.underlying36 HINFO.out.1 HINFO.out.2.1 HINFO.out.2.2.1 HINFO.out.2.2.2 rfl (by omega) (.slice AT txs.length cT) txs.length usT rfl R7.out _ (some ⟨w6.heap.size, 0, none⟩) 1 1 [.slice o.A o.b.length o.c] rfl HRC.out (fun u hu => by simp at hu; subst hu; rfl) (by simp only [maxLen]; omega) (by omega) (by rw [HSZ.out]; omega) ?_
                             intro v8 w8 h8 g8 a8
                             obtain ⟨A8, c8, rfl⟩ := slice_of h8
                             have J8 := Lib.hid (J7.out.appended R7.out (fun q hq => List.mem_append_right _ hq) g8 a8 (fun q hq => (World.ownsRow.lt h8 q hq).2))
                             have R8 := Lib.hid h8
                             clear h8 g8 a8)
                go_meet
                have hpp := HPM.out
                refine ⟨appF 64 f gen u o.b, s + pn o.b + 3, gen, st, txs ++ [o.b], u + pn o.b + 1, AS, cS, A8, c8, usT ++ [.slice o.A o.b.length o.c], rfl, HX.out.1, by rw [List.length_append]; rfl, ?_, fun i t hi => ?_, ?_, OKN.out, by rw [hpp.1]; omega, by omega, by simp; omega, x11, fun t ht => ?_⟩
                · rw [List.length_append]; exact R8.out
                · have hul : usT.length = txs.length := by have := HX.out.2.1.1; omega
                  by_cases hlt2 : i < txs.length
                  · rw [List.getElem?_append_left hlt2] at hi
                    obtain ⟨A', c', e1, e2⟩ := HX.out.2.2.1 i t hi
                    exact ⟨A', c', by rw [List.getElem?_append_left (by omega)]; exact e1, e2⟩
                  · rw [List.getElem?_append_right (by omega)] at hi
                    have h0 : i - txs.length = 0 := by
                      rcases Nat.eq_zero_or_pos (i - txs.length) with h0 | h0
                      · exact h0
                      · rw [List.getElem?_eq_none (by simp; omega)] at hi; cases hi
                    rw [h0] at hi
                    simp at hi
                    subst hi
                    exact ⟨o.A, o.c, by rw [List.getElem?_append_right (by omega), hul, h0]; rfl, HAT.out.b⟩
                · rw [List.length_append]
                  exact J8.out.mono (fun q hq => List.mem_append_left _ hq)
                · rcases List.mem_append.1 ht with ht | ht
                  · exact HX.out.2.2.2.2.2 t ht
                  · obtain rfl := List.mem_singleton.1 ht
                    exact ⟨hsm, HAT.out.b.2⟩
          · have hkd1 : (o.kind == 1) = false := by simpa using hk1
            have q0 : w5.cell? ⟨gb, 0, none⟩ = some (.int .i64 o.kind) := JB.out.cell 0
            by_cases hk2 : o.kind = 2
            · rw [hk2] at q0
              have q2 : w5.cell? ⟨gb, 2, none⟩ = some (.slice o.A o.b.length o.c) := JB.out.cell 2
              clear hk1 hk2 hkd1
              by_cases hfull : areaOf 64 < pnN o.b.length
              · go_wp2_with fail
                refine (HX.out.2.2.2.1.cfull o.A o.b.length o.c (by omega) hfull).mono ?_
                rintro e w6 ⟨rfl, b6⟩
                simp only [errV]
                have O6 := Lib.hid (OR0.out.below b6)
                clear b6
                go_wp2
                go_meet
                exact O6.out.later
              · have hpm : pn o.b = pnN o.b.length := rfl
                have hpl : pnN o.b.length ≤ 6 := by unfold pnN; omega
                have hck := idle_ckpt 64 s 0 (gen + 1) f o.b (by omega) (by rw [hpm]; omega)
                have OKN := Lib.hid (HX.out.2.2.2.2.1.ckpt (st' := o.b) (by rw [hpm]; omega) HBT.out.2 (by omega) (by omega))
                have hckc := HX.out.2.2.2.1.checkpoint (st' := o.b) (by omega) (by omega) o.A o.c HBT.out (by omega) HFT.out.2.2.1 HFT.out.2.2.2 (by rw [hpm]; omega) HTW.out hpos HAX.out (idle_far (by omega) (by omega) (by omega)) (by rw [hck])
                rw [hck] at hckc
                have HCKC := Lib.hid hckc
                have HPM := Lib.hid (And.intro hpm hpl)
                clear hpm hpl hck hckc
                go_wp2_with fail
                refine HCKC.out.mono ?_
                rintro e w6 ⟨rfl, j6, k6, s6⟩
                have J6 := Lib.hid j6
                have hblk6 : w6.heap[gb]? = w5.heap[gb]? := k6 gb (by simp)
                have q2 : w6.cell? ⟨gb, 2, none⟩ = some (.slice o.A o.b.length o.c) := (World.cell?_of_block hblk6).trans q2
                clear j6 k6 s6 hblk6 q0
                go_wp2
                go_meet
                have hpp := HPM.out
                exact ⟨ckptF 64 f (gen + 1) o.b, s + pn o.b + 3, gen + 1, o.b, [], 0, o.A, o.c, none, 0, [], rfl, HAT.out.b, rfl, World.ownsRow_nil _ _ _ 1, fun i t h => by simp at h, J6.out.mono (by simp [rowOf, Value.ownBlock]), OKN.out, by rw [hpp.1]; omega, by omega, by simp, hsm, by simp⟩
            · have hkd2 : (o.kind == 2) = false := by simpa using hk2
              clear hk1 hk2
              go_wp2
              go_meet
              exact OR0.out.later
        case rest =>
          obtain ⟨f, s, gen, st, txs, u, AS, cS, AT, cT, usT, rfl, x2, rfl, x4, x5, x6, x7, x8, x9, x10, x11, x12⟩ := hcut
          have hh := x6.holds
          have hbw := hh.since
          have HH := Lib.hid hh
          have HTW := Lib.hid (tab_below HT.out hbw hpos)
          have HOK := Lib.hid x7
          have HX := Lib.hid (And.intro x2 (And.intro x4 (And.intro x5 (And.intro x6 x12))))
          have hszc := hbw.size
          have h256 := x7.s256
          have H256 := Lib.hid h256
          clear hh hbw x2 x4 x5 x6 x7 x12 h256 B0 OR0
          go_wp2_with fail
          refine (open_journal (n := 64) HH.out rfl (by omega) (by omega) rfl (by simp [DM.idle]) HTW.out hpos gen st (by omega) txs u HOK.out.shows).mono ?_
          rintro e w6 ⟨gk, Bk, ck, vk, usk, rfl, hk6, jk6, ok6, tk6, bk6, gek⟩
          have J6 := Lib.hid (HX.out.2.2.2.1.below bk6)
          have K6 := Lib.hid (And.intro jk6 (And.intro (ok6.bytes H256.out) tk6))
          have B6 := Lib.hid bk6
          have hs6 := bk6.size
          clear hk6 jk6 ok6 tk6 bk6
          go_wp2_with fail
          refine (J6.out.state (by omega) H256.out).mono ?_
          rintro e w7 ⟨v7, rfl, o7, b7⟩
          obtain ⟨A7, c7, rfl⟩ := slice_of o7
          have O7 := Lib.hid (o7.bytes H256.out)
          have J7 := Lib.hid (J6.out.below b7)
          have B7 := Lib.hid (B6.out.trans (b7.mono hs6))
          have K7 := Lib.hid (And.intro (K6.out.1.below b7 K6.out.1.lt) (And.intro ((K6.out.2.1.below b7).more b7.size) (K6.out.2.2.of (w' := w7) (fun q hq => b7.block q (K6.out.2.2.over q hq).2))))
          clear o7 b7
          go_wp2_with fail
          refine (same_iff A7 AS _ _ c7 cS _ _ st st w7 O7.out (HX.out.1.below J7.out.holds.since)).mono ?_
          rintro e w' ⟨rfl, rfl⟩
          rw [beq_self_eq_true]
          go_wp2_with fail
          refine (jstate_any K7.out.1 K7.out.2.1 (by omega)).mono ?_
          rintro e w8 ⟨v8, rfl, o8, b8⟩
          obtain ⟨A8, c8, rfl⟩ := slice_of o8
          have O8 := Lib.hid (o8.bytes H256.out)
          have J8 := Lib.hid (J7.out.below b8)
          have hs7 := B7.out.size
          have B8 := Lib.hid (B7.out.trans (b8.mono hs7))
          have K8 := Lib.hid (And.intro (K7.out.1.below b8 K7.out.1.lt) (K7.out.2.2.of (w' := w8) (fun q hq => b8.block q (K7.out.2.2.over q hq).2)))
          clear o8 b8
          go_wp2_with fail
          refine (same_iff A8 AS _ _ c8 cS _ _ st st w8 O8.out (HX.out.1.below J8.out.holds.since)).mono ?_
          rintro e w' ⟨rfl, rfl⟩
          rw [beq_self_eq_true]
          have hrows : ∀ w', Below wc.heap.size wc w' → RowsAt w' w'.heap.size AT usT txs := fun w' hb => by
            have h0 := row_of HX.out.2.1 (w' := w') (fun q hq => hb.block q (row_under HX.out.2.1 q hq))
            refine ⟨Reads.of_own h0, fun i t hi => ?_⟩
            obtain ⟨A', c', e1, e2⟩ := HX.out.2.2.1 i t hi
            have hww := HH.out.since.trans (hb.mono hszc)
            exact ⟨A', c', e1, (e2.below hww).more hww.size⟩
          have HR := Lib.hid hrows
          have HL := Lib.hid (And.intro (fun t ht => (HX.out.2.2.2.2 t ht).2 : ∀ t ∈ txs, ∀ b ∈ t, b < 256) (fun t ht => by have := (HX.out.2.2.2.2 t ht).1; omega : ∀ t ∈ txs, t.length ≤ 5000))
          clear hrows
          go_wp2_with fail
          refine (J8.out.rowsEq HL.out.1 (by omega) HL.out.2 AT cT usT txs (HR.out w8 B8.out) (by omega)).mono ?_
          rintro e w9 ⟨r9, rfl, hr9, b9⟩
          obtain rfl : r9 = true := hr9.2 rfl
          have J9 := Lib.hid (J8.out.below b9)
          have hs8 := B8.out.size
          have B9 := Lib.hid (B8.out.trans (b9.mono hs8))
          have K9 := Lib.hid (And.intro (K8.out.1.below b9 K8.out.1.lt) (K8.out.2.of (w' := w9) (fun q hq => b9.block q (K8.out.2.over q hq).2)))
          clear hr9 b9
          go_wp2_with fail
          refine (rowsEqual_any K9.out.1 K9.out.2 HL.out.1 (by omega) HL.out.2 AT cT usT txs (HR.out w9 B9.out) (by omega)).mono ?_
          rintro e w10 ⟨r10, rfl, hr10, b10⟩
          obtain rfl : r10 = true := hr10.2 rfl
          have J10 := Lib.hid (J9.out.below b10)
          have hs9 := B9.out.size
          have B10 := Lib.hid (B9.out.trans (b10.mono hs9))
          clear hr10 b10
          go_wp2
          go_roundg (n0 - (k + 1))
          case measure => omega
          case rel => exact ⟨k + 1, by omega, rfl, by go_num, f, s, gen, st, txs, u, AS, cS, AT, cT, usT, rfl, HX.out.1, rfl, row_of HX.out.2.1 (fun q hq => B10.out.block q (row_under HX.out.2.1 q hq)), HX.out.2.2.1, J10.out, HOK.out, x8, x9, x10, x11, HX.out.2.2.2.2⟩
      · obtain rfl : k = n0 := by omega
        obtain ⟨f, s, gen, st, txs, u, AS, cS, AT, cT, usT, x1, x2, x3, x4, x5, x6, x7⟩ := hord
        have H6 := Lib.hid x6.holds
        clear x1 x2 x3 x4 x5 x6 x7
        go_wp2_with fail
        refine (hold_waiting H6.out).mono ?_
        rintro e w' ⟨rfl, rfl⟩
        rw [show (DM.idle 64 f s 0).wait.length = 0 from rfl]
        go_wp2
        go_ret
        exact ⟨rfl, hsince⟩
end Go.Proofs.YtpklcmocjimcpaaDoor
