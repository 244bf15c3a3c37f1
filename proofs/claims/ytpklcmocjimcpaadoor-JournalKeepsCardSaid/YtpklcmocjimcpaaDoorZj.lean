/-
  The laws' fixed fact about a journal is true, and changes nothing that was there. Condition: the package's table holds its sixteen numbers.
-/
import Derived.Test.YtpklcmocjimcpaaDoorZi
import Derived.Lib.SlBytesConst

namespace Go.Proofs.YtpklcmocjimcpaaDoor
open Go.RowKit
set_option maxRecDepth 100000
set_option linter.unusedSimpArgs false
set_option linter.unusedVariables false
theorem idle_far {n s l m : Nat} {f : Int → Sec} (h1 : s + m < 4611686018427387904) (h2 : l ≤ 9223372036854775807) (h3 : m ≤ 1000000) : Far (DM.idle n f s l) m := ⟨h1, h2, by simpa [DM.idle] using h3⟩
def stB : List Nat := [115, 116, 97, 116, 101]
def txB : List Nat := [116, 120]
set_option maxRecDepth 100000 in
set_option maxHeartbeats 4000000 in
theorem jalive_any (w : World) (hT : Tab w) (hpos : 0 < w.heap.size) : Calls Tryd.prog 7 #[] w fun e w' => e = .returned (.bool true) ∧ Below w.heap.size w w' := by
  have HT := Lib.hid hT
  clear hT
  go_enter Tryd.func7, Tryd.ntmps7
  go_wp2_with fail
  refine (new_good w w.heap.size 20 (by omega) (by omega) (Nat.le_refl _)).mono ?_
  intro e w1 hm
  obtain ⟨g, rfl, h1⟩ := Holds.made (Below.refl _ _) hm
  rw [idle_new] at h1
  have hs1 := h1.size
  have T1 := Lib.hid (tab_below HT.out h1.since hpos)
  have hst : Bytes (w1.alloc (.cells (u8s stB).toArray 5 (5, 6))) (w1.heap.size + 1) (some ⟨w1.heap.size, 0, none⟩) 5 stB := Bytes.new w1 stB 5 (5, 6) (by decide)
  have H1 := Lib.hid (h1.push (.cells (u8s stB).toArray 5 (5, 6)))
  have T1' := Lib.hid (tab_below T1.out ((Below.refl w1.heap.size w1).alloc (Nat.le_refl _) (.cells (u8s stB).toArray 5 (5, 6))) (by omega))
  have HST := Lib.hid hst
  have hfit : pn stB ≤ areaOf 20 := by decide
  obtain ⟨f1, f2⟩ := idle_fmt 20 0 0 (fun _ => Sec.zero) stB (by omega) hfit
  have F1 := Lib.hid f1
  have F2 := Lib.hid f2
  have OK1 := Lib.hid (JOk.format (n := 20) (st := stB) (by omega) (by omega) hfit (by decide) (by decide))
  clear hm h1 hst f1 f2
  have kc := fun (w : World) (C : Array Value) (n c : Nat) => Lib.run_convert_bytes_const (P := Tryd.prog) w 34 5 C n c Tryd.underlying34 Tryd.underlying5
  have e0 : (u8s stB).toArray = #[.int .u8 115, .int .u8 116, .int .u8 97, .int .u8 116, .int .u8 101] := rfl
  rw [e0] at H1 T1' HST
  clear e0
  go_wp2_with fail
  have hz1 : (w1.alloc (.cells #[.int .u8 115, .int .u8 116, .int .u8 97, .int .u8 116, .int .u8 101] 5 (5, 6))).heap.size = w1.heap.size + 1 := by simp
  have HB1 := Lib.hid (H1.out.since)
  generalize hwa : w1.alloc (.cells #[.int .u8 115, .int .u8 116, .int .u8 97, .int .u8 116, .int .u8 101] 5 (5, 6)) = wa at *
  generalize hga : w1.heap.size = ga at *
  clear hwa hga
  refine (format_good (n := 20) H1.out rfl (by omega) (by omega) (some ⟨ga, 0, none⟩) 5 stB (HST.out.more (by rw [hz1]; omega)) (by decide) (by decide) (by omega) hfit T1'.out hpos (fun k hk => by simpa [blkOf] using hk) (idle_far (by decide) (by omega) (by decide)) (by rw [F1.out]) (by rw [F2.out])).mono ?_
  rintro e w2 ⟨gj, B, cc, rfl, h2, j2, o2, k2, hg2, hn2⟩
  rw [F2.out] at h2
  have H2 := Lib.hid h2
  have J2 := Lib.hid j2
  have O2 := Lib.hid o2
  have T2 := Lib.hid (tab_below HT.out h2.since hpos)
  have hs2 := h2.size
  have hsa := HB1.out.size
  clear h2 j2 o2 k2
  have htx : Bytes (w2.alloc (.cells (u8s txB).toArray 5 (2, 3))) (w2.heap.size + 1) (some ⟨w2.heap.size, 0, none⟩) 2 txB := Bytes.new w2 txB 5 (2, 3) (by decide)
  have H3 := Lib.hid (H2.out.push (.cells (u8s txB).toArray 5 (2, 3)))
  have J3 := Lib.hid (J2.out.alloc (.cells (u8s txB).toArray 5 (2, 3)))
  have HTX := Lib.hid htx
  have e0 : (u8s txB).toArray = #[.int .u8 116, .int .u8 120] := rfl
  rw [e0] at H3 J3 HTX
  clear e0 htx
  go_wp2_with fail
  have hz3 : (w2.alloc (.cells #[.int .u8 116, .int .u8 120] 5 (2, 3))).heap.size = w2.heap.size + 1 := by simp
  have T3 := Lib.hid (tab_below HT.out H3.out.since hpos)
  generalize hwb : w2.alloc (.cells #[.int .u8 116, .int .u8 120] 5 (2, 3)) = wb at *
  generalize hgb : w2.heap.size = gb at *
  clear hwb hgb
  have OK2 := Lib.hid (OK1.out.app (tx := txB) (by decide) (by decide) (by decide))
  have hap := idle_app 20 (0 + pn stB + 6) 0 1 0 (fmtF 20 (fun _ => Sec.zero) stB) txB (by omega) (by decide)
  have HAP := Lib.hid hap
  clear hap
  refine (append_good H3.out J3.out (by simp) (by omega) (by omega) (by omega) (by omega) (some ⟨gb, 0, none⟩) 2 txB (HTX.out.more (by rw [hz3]; omega)) (by decide) (by decide) (by omega) (by decide) (by decide) T3.out hpos (fun k hk => by simp [blkOf] at hk; simp [hk]) (idle_far (by decide) (by omega) (by decide)) (by rw [HAP.out]) 0 [] (World.ownsRow_nil _ _ _ 1) (by omega) (fun k hk => by simp [rowOf, Value.ownBlock] at hk)).mono ?_
  rintro e w3 ⟨vt', B3, cc3, rfl, h3, j3, r3, o3, k3, s3⟩
  rw [HAP.out] at h3
  have H4 := Lib.hid h3
  clear h3 j3 r3 o3 k3
  go_wp2_with fail
  refine (need_any 107 w3 (by omega)).mono ?_
  rintro e w' ⟨rfl, rfl⟩
  rw [show needOf 107 = 3 from by decide]
  go_wp2_with fail
  refine (hold_crash H4.out (by simp [DM.idle]) none 0 0 [] (fun F _ W' _ => Reads.none_)).mono ?_
  rintro e w4 ⟨rfl, h4, k4⟩
  rw [idle_crash] at h4
  have H5 := Lib.hid h4
  have T5 := Lib.hid (tab_below HT.out h4.since hpos)
  clear h4 k4
  go_wp2_with fail
  refine (open_journal (n := 20) H5.out rfl (by omega) (by omega) rfl (by simp [DM.idle]) T5.out hpos 1 stB (by decide) ([] ++ [txB]) (0 + pn txB + 1) OK2.out.shows).mono ?_
  rintro e w5 ⟨gk, B5, cc5, vt5, us5, rfl, h5, j5, o5, t5, b5, hg5⟩
  obtain ⟨A5, c5, rfl⟩ := slice_of t5.1
  have H6 := Lib.hid h5
  have J6 := Lib.hid j5
  have O6 := Lib.hid (o5.bytes (by decide))
  clear h5 j5 o5 t5 b5
  go_wp2_with fail
  refine (jstate_any J6.out O6.out (by decide)).mono ?_
  rintro e w6 ⟨v6, rfl, o6, b6⟩
  obtain ⟨A6, c6, rfl⟩ := slice_of o6
  have hsl := str_of (P := Tryd.prog) (o6.bytes (by decide)) c6 34 9 5 Tryd.underlying34 Tryd.underlying5 Tryd.underlying9
  rw [show strOf stB = { data := #[115, 116, 97, 116, 101] } from rfl] at hsl
  have J7 := Lib.hid (J6.out.below b6 J6.out.lt)
  have B7 := Lib.hid b6
  clear o6 b6
  go_wp2_with fail
  refine (jlen_any J7.out).mono ?_
  rintro e w' ⟨rfl, rfl⟩
  go_wp2_with fail
  refine (jgen_any J7.out).mono ?_
  rintro e w' ⟨rfl, rfl⟩
  go_wp2_with fail
  refine (jroom_any J7.out (by omega) (by decide)).mono ?_
  rintro e w8 ⟨rfl, b8⟩
  go_wp2
  go_ret
  exact ⟨rfl, H6.out.since.trans ((B7.out.trans (b8.mono B7.out.size)).mono H6.out.size)⟩
end Go.Proofs.YtpklcmocjimcpaaDoor

/-
  A journal in memory, with its disk, as one predicate; its calls where nothing fails. Conditions: small numbers.
-/
namespace Go.Proofs.YtpklcmocjimcpaaDoor
open Go.RowKit
set_option maxRecDepth 100000
set_option linter.unusedSimpArgs false
set_option linter.unusedVariables false
/-- journal gj on disk g: its generation, state, transactions, how many sectors they take; the blocks of X are none of its own -/
def JAt (w0 w : World) (g gj : Nat) (d : DM) (n gen : Nat) (st : List Nat) (txs : List (List Nat)) (u : Nat) (X : List Nat) : Prop :=
  ∃ A c vt us, Holds w0 w g d (txBlks vt us ++ (blkOf A ++ gj :: X)) ∧ Blk w gj 67 (jcells n g gen (.slice A st.length c) vt u false) ∧ Own w w0.heap.size (.slice A st.length c) st.length st ∧ TxRows w w0.heap.size vt txs us ∧ w0.heap.size ≤ gj ∧ ∀ k ∈ X, k ≠ gj ∧ k ∉ rowOf vt
theorem Holds.add_old {w0 w : World} {g : Nat} {d : DM} {X Y : List Nat} (h : Holds w0 w g d X) (hY : ∀ k ∈ Y, k ∈ X ∨ k < w0.heap.size) : Holds w0 w g d (Y ++ X) := by
  obtain ⟨F, h1, h2, h3⟩ := h
  refine ⟨F, h1, h2, fun k hk => ?_⟩
  rcases List.mem_append.1 hk with hk | hk
  · rcases hY k hk with hk | hk
    · exact h3 k hk
    · exact ⟨fun hF => by have := h1.over k hF; omega, Nat.lt_of_lt_of_le hk h2.size⟩
  · exact h3 k hk
theorem Holds.lt {w0 w : World} {g : Nat} {d : DM} {X : List Nat} (h : Holds w0 w g d X) : ∀ k ∈ X, k < w.heap.size := by
  obtain ⟨F, h1, h2, h3⟩ := h
  exact fun k hk => (h3 k hk).2
theorem JAt.holds {w0 w : World} {g gj n gen u : Nat} {d : DM} {st : List Nat} {txs : List (List Nat)} {X : List Nat} (h : JAt w0 w g gj d n gen st txs u X) : Holds w0 w g d X := by
  obtain ⟨A, c, vt, us, h1, h2, h3, h4, h5, h6⟩ := h
  exact h1.mono (fun k hk => by simp [hk])
theorem JAt.below {w0 w w' : World} {g gj n gen u : Nat} {d : DM} {st : List Nat} {txs : List (List Nat)} {X : List Nat} (h : JAt w0 w g gj d n gen st txs u X) (hb : Below w.heap.size w w') : JAt w0 w' g gj d n gen st txs u X := by
  obtain ⟨A, c, vt, us, h1, h2, h3, h4, h5, h6⟩ := h
  exact ⟨A, c, vt, us, h1.below hb, h2.below hb h2.lt, h3.below hb, h4.of (fun k hk => hb.block k (h4.over k hk).2), h5, h6⟩
theorem JAt.mono {w0 w : World} {g gj n gen u : Nat} {d : DM} {st : List Nat} {txs : List (List Nat)} {X Y : List Nat} (h : JAt w0 w g gj d n gen st txs u X) (hY : ∀ k ∈ Y, k ∈ X) : JAt w0 w g gj d n gen st txs u Y := by
  obtain ⟨A, c, vt, us, h1, h2, h3, h4, h5, h6⟩ := h
  refine ⟨A, c, vt, us, h1.mono (fun k hk => ?_), h2, h3, h4, h5, fun k hk => h6 k (hY k hk)⟩
  simp only [List.mem_append, List.mem_cons] at hk ⊢
  rcases hk with hk | hk | hk | hk
  · exact .inl hk
  · exact .inr (.inl hk)
  · exact .inr (.inr (.inl hk))
  · exact .inr (.inr (.inr (hY k hk)))
/-- new blocks, and blocks that were there ahead of all, are none of the journal's -/
theorem JAt.more {w0 w w' : World} {g gj n gen u : Nat} {d : DM} {st : List Nat} {txs : List (List Nat)} {X Y : List Nat} (h : JAt w0 w g gj d n gen st txs u X) (hb : Below w.heap.size w w') (hY : ∀ k ∈ Y, k ∈ X ∨ k < w0.heap.size ∨ (w.heap.size ≤ k ∧ k < w'.heap.size)) : JAt w0 w' g gj d n gen st txs u (Y ++ X) := by
  have hb' := h.below hb
  obtain ⟨A, c, vt, us, h1, h2, h3, h4, h5, h6⟩ := h
  have hap : ∀ k ∈ Y, k ∈ X ∨ k < w0.heap.size ∨ w.heap.size ≤ k := fun k hk => (hY k hk).imp id (Or.imp id (·.1))
  have hlt := h1.lt
  refine ⟨A, c, vt, us, ?_, h2.below hb h2.lt, h3.below hb, h4.of (fun k hk => hb.block k (h4.over k hk).2), h5, fun k hk => ?_⟩
  · obtain ⟨F, g1, g2, g3⟩ := h1
    refine ⟨F, g1.of (fun k hk => hb.block k (g1.under k hk)), g2.trans (hb.mono g2.size), fun k hk => ?_⟩
    have hk' : k ∈ Y ∨ k ∈ txBlks vt us ++ (blkOf A ++ gj :: X) := by
      simp only [List.mem_append, List.mem_cons] at hk ⊢
      rcases hk with hk | hk | hk | hk | hk
      · exact .inr (.inl hk)
      · exact .inr (.inr (.inl hk))
      · exact .inr (.inr (.inr (.inl hk)))
      · exact .inl hk
      · exact .inr (.inr (.inr (.inr hk)))
    rcases hk' with hk' | hk'
    · rcases hY k hk' with h | h | h
      · have := g3 k (by simp [h]); exact ⟨this.1, Nat.lt_of_lt_of_le this.2 hb.size⟩
      · refine ⟨fun hF => ?_, ?_⟩
        · have := g1.over k hF; omega
        · have := g2.size; have := hb.size; omega
      · refine ⟨fun hF => ?_, h.2⟩
        have := g1.under k hF; omega
    · have := g3 k hk'; exact ⟨this.1, Nat.lt_of_lt_of_le this.2 hb.size⟩
  · rcases List.mem_append.1 hk with hk | hk
    · rcases hap k hk with h | h | h
      · exact h6 k h
      · refine ⟨by omega, fun hr => ?_⟩
        have := (h4.over k (List.mem_append_left _ hr)).1; omega
      · refine ⟨?_, fun hr => ?_⟩
        · have := h2.lt; omega
        · have := (h4.over k (List.mem_append_left _ hr)).2; omega
    · exact h6 k hk
section
variable {w0 w : World} {g gj n gen u : Nat} {d : DM} {st : List Nat} {txs : List (List Nat)} {X : List Nat}
theorem JAt.append (h : JAt w0 w g gj d n gen st txs u X) (hn : n ≤ 4096) (hgen : gen ≤ 4611686018427387904) (hu : u ≤ logOf n) (A : Option Addr) (c : Nat) (tx : List Nat) (hst : Bytes w w.heap.size A tx.length tx) (hl : tx.length ≤ 5000) (hlc : tx.length ≤ c) (hcm : c ≤ 9223372036854775807) (hne : tx ≠ []) (hfit : pn tx + 1 ≤ logOf n - u)
    (hT : Tab w) (hw0 : 0 < w0.heap.size) (hAx : ∀ k ∈ blkOf A, k ∈ X ∨ k < w0.heap.size) (hf : Far d (pn tx + 3)) (hok : (d.app n gen u tx).2 = 0) (hnt : txs.length ≤ 100000) :
    Calls Tryd.prog 12 #[.pointer (some ⟨gj, 0, none⟩), .slice A tx.length c] w fun e w' => e = .returned .nilIface ∧ JAt w0 w' g gj (d.app n gen u tx).1 n gen st (txs ++ [tx]) (u + pn tx + 1) X ∧ (∀ k ∈ X, w'.heap[k]? = w.heap[k]?) ∧ w.heap.size ≤ w'.heap.size := by
  obtain ⟨A0, c0, vt, us, h1, h2, h3, h4, h5, h6⟩ := h
  have hX : Holds w0 w g d (blkOf A ++ (txBlks vt us ++ (blkOf A0 ++ gj :: X))) := h1.add_old (fun k hk => (hAx k hk).imp (fun h => by simp [h]) id)
  refine (append_good hX h2 (by simp) h5 hn hgen hu A c tx hst hl hlc hcm hne hfit hT hw0 (fun k hk => by simp [hk]) hf hok txs.length us h4.1 hnt (fun k hk => by simp [txBlks, hk])).mono ?_
  rintro e w' ⟨vt', B, cc, rfl, r1, r2, r3, r4, r5, r6, r7⟩
  have hlt := h1.lt
  have hsame : ∀ {v : Value} {m : Nat} {bs : List Nat}, Own w w0.heap.size v m bs → (∀ k ∈ rowOf v, k ∈ txBlks vt us ++ (blkOf A0 ++ gj :: X)) → Own w' w0.heap.size v m bs := fun {v m bs} hv hin =>
    row_of hv (fun k hk => r5 k (List.mem_append_right _ (hin k hk)) (fun e => by
      subst e
      exact own_blk_ne hv h2 (by decide) (mem_rowOf.1 hk)) (fun hk' => own_own_ne hv h4.1 (by decide) k hk (mem_rowOf.1 hk')))
  refine ⟨rfl, ⟨A0, c0, vt', us ++ [.slice B tx.length cc], r1.mono (fun k hk => ?_), r2, hsame h3 (fun k hk => by simp [rowOf_slice _ _ _ hk]), ⟨by rw [List.length_append]; exact r3, by simp [h4.2.1], fun i t hi => ?_⟩, h5, fun k hk => ⟨(h6 k hk).1, fun hr => ?_⟩⟩, fun k hk => r5 k (by simp [hk]) (h6 k hk).1 (h6 k hk).2, r6⟩
  · simp only [txBlks, List.mem_append, List.mem_cons, List.flatMap_append, List.flatMap_cons, List.flatMap_nil, List.append_nil] at hk ⊢
    rcases hk with (hk | hk | hk) | hk
    · exact .inr (.inl hk)
    · exact .inr (.inr (.inr (.inl (.inr hk))))
    · exact .inl (rowOf_slice _ _ _ hk)
    · exact .inr (.inr (.inr (.inr hk)))
  · by_cases hlt : i < txs.length
    · rw [List.getElem?_append_left hlt] at hi
      obtain ⟨B', c', e1, e2⟩ := h4.2.2 i t hi
      exact ⟨B', c', by rw [List.getElem?_append_left (by have := h4.2.1; omega)]; exact e1, hsame e2 (fun k hk => List.mem_append_left _ (List.mem_append_right _ (List.mem_flatMap.2 ⟨_, List.mem_of_getElem? e1, hk⟩)))⟩
    · rw [List.getElem?_append_right (by omega)] at hi
      have h0 : i - txs.length = 0 := by
        rcases Nat.eq_zero_or_pos (i - txs.length) with h0 | h0
        · exact h0
        · rw [List.getElem?_eq_none (by simp; omega)] at hi; cases hi
      rw [h0] at hi
      simp at hi
      subst hi
      exact ⟨B, cc, by rw [List.getElem?_append_right (by have := h4.2.1; omega), h4.2.1, h0]; rfl, r4.weaken h1.size⟩
  · rcases r7 k hr with h | h
    · exact (h6 k hk).2 h
    · have := hlt k (by simp [hk]); omega
theorem JAt.empty (h : JAt w0 w g gj d n gen st txs u X) (A : Option Addr) (c : Nat) : Calls Tryd.prog 12 #[.pointer (some ⟨gj, 0, none⟩), .slice A 0 c] w fun e w' => e = .returned (errV 2) ∧ w = w' := by
  obtain ⟨A0, c0, vt, us, h1, h2, h3, h4, h5, h6⟩ := h
  exact append_empty h2 A c
theorem JAt.full (h : JAt w0 w g gj d n gen st txs u X) (hn : n ≤ 4096) (hu : u ≤ logOf n) (A : Option Addr) (m c : Nat) (hm0 : 0 < m) (hm : m ≤ 1000000) (hfull : logOf n - u < pnN m + 1) : Calls Tryd.prog 12 #[.pointer (some ⟨gj, 0, none⟩), .slice A m c] w fun e w' => e = .returned (errV 4) ∧ Below w.heap.size w w' := by
  obtain ⟨A0, c0, vt, us, h1, h2, h3, h4, h5, h6⟩ := h
  exact append_full h2 hn hu A m c hm0 hm hfull
theorem JAt.room (h : JAt w0 w g gj d n gen st txs u X) (hn : n ≤ 4096) (hu : u ≤ logOf n) : Calls Tryd.prog 22 #[.pointer (some ⟨gj, 0, none⟩)] w fun e w' => e = .returned (.int .i64 (logOf n - u : Nat)) ∧ Below w.heap.size w w' := by
  obtain ⟨A0, c0, vt, us, h1, h2, h3, h4, h5, h6⟩ := h
  exact jroom_any h2 hn hu
theorem JAt.gen_ (h : JAt w0 w g gj d n gen st txs u X) : Calls Tryd.prog 21 #[.pointer (some ⟨gj, 0, none⟩)] w fun e w' => e = .returned (.int .i64 gen) ∧ w = w' := by
  obtain ⟨A0, c0, vt, us, h1, h2, h3, h4, h5, h6⟩ := h
  exact jgen_any h2
theorem JAt.state (h : JAt w0 w g gj d n gen st txs u X) (hl : st.length ≤ 5000) (h256 : ∀ b ∈ st, b < 256) : Calls Tryd.prog 18 #[.pointer (some ⟨gj, 0, none⟩)] w fun e w' => ∃ v, e = .returned v ∧ Own w' w.heap.size v st.length st ∧ Below w.heap.size w w' := by
  obtain ⟨A0, c0, vt, us, h1, h2, h3, h4, h5, h6⟩ := h
  exact jstate_any h2 (h3.bytes h256) hl
theorem JAt.formatted {w' : World} {B : Option Addr} {cc : Nat} {d' : DM} (hsz : w0.heap.size ≤ w.heap.size) (hX : ∀ k ∈ X, k < w.heap.size) (h1 : Holds w0 w' g d' (blkOf B ++ gj :: X)) (h2 : Blk w' gj 67 (jcells n g 1 (.slice B st.length cc) (.slice none 0 0) 0 false)) (h3 : Own w' w.heap.size (.slice B st.length cc) st.length st) (h5 : w.heap.size ≤ gj) : JAt w0 w' g gj d' n 1 st [] 0 X :=
  ⟨B, cc, .slice none 0 0, [], by simpa [txBlks, rowOf, Value.ownBlock] using h1, h2, h3.weaken hsz, TxRows.nil _ _, by omega, fun k hk => ⟨by have := hX k hk; omega, by simp [rowOf, Value.ownBlock]⟩⟩
end
end Go.Proofs.YtpklcmocjimcpaaDoor
