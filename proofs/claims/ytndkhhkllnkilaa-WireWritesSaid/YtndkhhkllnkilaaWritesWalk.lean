/-
  The law WireWrites, walked: it returns true and changes nothing that was there. No condition.
-/
import Derived.Test.YtndkhhkllnkilaaLarge
import Derived.Test.YtndkhhkllnkilaaCopyW
import Derived.Test.YtndkhhkllnkilaaOpenW
import Derived.Deep.LoopGhost
import Derived.Deep.CutRange
import Derived.Deep.DeepCutAuto
import Derived.Deep.CutBlock
namespace Go.Proofs.Ytndkhhkllnkilaa
open Go.RowKit
set_option linter.unusedSimpArgs false
set_option linter.unusedVariables false
theorem Wr.weaken {w : World} {base base' : Nat} {F : List Nat} {p : Option Addr} {bs : List Nat} (h : Wr w base F p bs) (hb : base' ≤ base) : Wr w base' F p bs := by
  rcases h with h | ⟨g, hp, h⟩
  · exact .inl h
  · exact .inr ⟨g, hp, h.weaken hb⟩
theorem row_one {g n c j : Nat} (h : j ∈ rowOf (.slice (some ⟨g, 0, none⟩) n c)) : j = g := by
  have := mem_rowOf.1 h
  simp [Value.ownBlock] at this
  omega
theorem OwnI.new (w : World) (base : Nat) (hb : base ≤ w.heap.size) : OwnI (w.alloc (.cells #[] 3)) base (.slice (some ⟨w.heap.size, 0, none⟩) 0 0) 0 [] := by
  have := World.ownsRow_made (base := base) (e := 3) (size := 1) w #[] 0 hb (by simp [maxLen]) (by simp)
  simpa [OwnI, i64s] using this
set_option maxHeartbeats 2000000 in
theorem wireWrites_walk (A0 : Option Addr) (n0 c0 : Nat) (os : List ValV) (m0 : n0 ≤ 9223372036854775807) {w : World} (h : VCells w w.heap.size A0 n0 os ∧ ∀ o ∈ os, o.At w w.heap.size ∧ o.Fit ∧ o.Wide) :
    Calls Try.prog 3 #[.slice A0 n0 c0] w fun e w' => e = .returned (.bool true) ∧ Below w.heap.size w w' := by
  have HV := Lib.hid h
  have hz := writer_zero
  have hzv := val_zero
  clear h
  go_enter Try.func3, Try.ntmps3
  go_wp2_with fail
  refine (alive_any _).mono ?_
  rintro e w1 ⟨rfl, b1⟩
  have V1 : VCells w1 w.heap.size A0 n0 os := Reads.since HV.out.1 b1
  go_wp2_with fail
  refine (large_any A0 n0 c0 os _ w1 V1 m0 (fun o ho => (HV.out.2 o ho).2.1)).mono ?_
  rintro e w2 ⟨r, rfl, b2, hr⟩
  have B2 := Lib.hid (b1.trans (b2.mono b1.size))
  clear V1 b1 b2
  cases r with
  | true =>
    go_wp2
    go_ret
    exact ⟨rfl, B2.out⟩
  | false =>
    obtain ⟨hn41, hsz⟩ := hr rfl
    clear hr
    have W3 := Lib.hid (((Wr.made w2).weaken B2.out.size).below (below_alloc _ (.cells #[] 5)))
    have B4 := Lib.hid ((B2.out.alloc B2.out.size (.cells #[.slice none 0 0] 28)).alloc (Nat.le_trans B2.out.size (by simp)) (.cells #[] 5))
    have O4 := Lib.hid (Own.new (w2.alloc (.cells #[.slice none 0 0] 28)) w.heap.size (Nat.le_trans B2.out.size (by simp)))
    have hne : w2.heap.size + 1 ∉ [w2.heap.size] := by simp
    clear B2
    go_wp2
    rw [World.size_alloc] at O4
    generalize (w2.alloc (.cells #[.slice none 0 0] 28)).alloc (.cells #[] 5) = w4 at *
    generalize hgw : w2.heap.size = g at *
    go_loopg [4, 18] n0 (fun gk vw i wr => ∃ (k : Nat) (F : List Nat) (bs : List Nat), k ≤ n0 ∧ gk = n0 - k ∧ i = .int .i64 k ∧ Wr wr w.heap.size F (some ⟨g, 0, none⟩) bs ∧ Own wr w.heap.size vw bs.length bs ∧ (∀ j ∈ rowOf vw, j ∉ F) ∧ (∀ b ∈ bs, b < 256) ∧ Below w.heap.size w wr ∧ bs.length ≤ 1000 * k)
    case atStart => exact ⟨0, [g], [], by omega, by omega, rfl, W3.out, O4.out, by simp [rowOf, Value.ownBlock], by simp, B4.out, by simp⟩
    case round =>
      obtain ⟨k, F, bs, hk, rfl, rfl, hw, ho, hap, hb256, hbl, hlen⟩ := hrel
      clear W3 O4 B4
      by_cases hlt : k < n0
      · obtain ⟨ad, o, rfl, hox, hc⟩ := (show VCells wr w.heap.size A0 n0 os from Reads.since HV.out.1 hbl).get hlt
        have hmem := List.mem_of_getElem? hox
        have hoat := (HV.out.2 o hmem).1
        have hso := hsz o hmem
        have hu := Try.underlying31
        have hi : (Try.prog.info? 31).map (·.size) = some o.cs.length := val_size
        have K1 := Lib.hid (Blk.new wr 31 o.cs.toArray)
        have hrg := K1.out.range
        have HW := Lib.hid (And.intro hw (And.intro ho (And.intro hap (And.intro hb256 hbl))))
        have hA := Lib.hid hoat
        clear hw ho hap hb256 hbl hoat hox
        go_upto_region 11 with (first
          | (refine wpList_load_at rfl 31 (.tmp 20) rfl _ rfl o.cs _ hc hu rfl hi ?_)
          | (refine wpList_store_newN rfl 31 (.tmp 6) (.tmp 21) rfl wr.heap.size rfl o.cs _ rfl rfl hi rfl o.one ?_)
          | (refine wpList_load_mid rfl 31 (.tmp 6) rfl wr.heap.size 0 rfl o.cs _ hrg hu rfl hi ?_)
          | (refine wpList_store_newN rfl 31 (.tmp 7) (.tmp 22) rfl (wr.heap.size + 1) (by simp) o.cs _ rfl rfl hi rfl o.one ?_))
        have Kv5 := K1.out.alloc (.cells o.cs.toArray 31)
        have Kc5 := Blk.new (wr.alloc (.cells o.cs.toArray 31)) 31 o.cs.toArray
        rw [World.size_alloc] at Kc5
        have b5 : Below wr.heap.size wr ((wr.alloc (.cells o.cs.toArray 31)).alloc (.cells o.cs.toArray 31)) := (below_alloc wr _).alloc (by simp) _
        have hs5 : wr.heap.size + 1 < ((wr.alloc (.cells o.cs.toArray 31)).alloc (.cells o.cs.toArray 31)).heap.size := by simp
        generalize (wr.alloc (.cells o.cs.toArray 31)).alloc (.cells o.cs.toArray 31) = w5 at *
        have hFu := HW.out.1.under
        have hRu := row_under HW.out.2.1
        have hbw := HW.out.2.2.2.2.size
        have hA5 : o.At w5 w.heap.size := hA.out.since (HW.out.2.2.2.2.trans (b5.mono hbw))
        have hgvF : ∀ j, wr.heap.size ≤ j → j ∉ F := fun j hj hm => by have := hFu j hm; omega
        have hgvR : ∀ j, wr.heap.size ≤ j → j ∉ rowOf u4 := fun j hj hm => by have := hRu j hm; omega
        have HF := Lib.hid (And.intro hgvF hgvR)
        have HW5 := Lib.hid (And.intro (HW.out.1.below b5) (And.intro (HW.out.2.1.below b5) (HW.out.2.2.2.2.trans (b5.mono hbw))))
        have HA5 := Lib.hid hA5
        have HK5 := Lib.hid (And.intro Kv5 Kc5)
        have Hap := Lib.hid (And.intro HW.out.2.2.1 HW.out.2.2.2.1)
        clear hgvF hgvR hA5 Kv5 Kc5 hFu hRu HW hA K1 hrg hc b5
        generalize wr.heap.size = gv at *
        have q2 : w5.cell? ⟨gv, 2, none⟩ = some (.slice o.A o.b.length o.c) := by rw [HK5.out.1.cell]; rfl
        go_wp2_with fail
        refine (copy_any o.A o.b.length o.c o.b w5 (by omega) (HA5.out.b.more HW5.out.2.2.size)).mono ?_
        rintro e w6 ⟨gB, cap, rfl, hcap, hgB, hown, b6⟩
        have Kv6 := HK5.out.1.below b6 HK5.out.1.lt
        have Kc6 := HK5.out.2.below b6 HK5.out.2.lt
        have hgB6 : gB < w6.heap.size := (World.ownsRow.lt hown gB rfl).2
        have hc6 : w6.cell? ⟨gv + 1, 2, none⟩ = some (.slice o.A o.b.length o.c) := by rw [Kc6.cell]; rfl
        have hf6 : w6.frozen? ⟨gv + 1, 2, none⟩ = false := Kc6.frozen _
        have hs6 := b6.size
        go_upto_region 12 with (fail)
        have o7 : Only [gv + 1] w6 (w6.setCell ⟨gv + 1, 2, none⟩ (.slice (some ⟨gB, 0, none⟩) o.b.length cap)) := (Only.refl _ _).setCell (.inl (by simp)) _
        have Kc7 := Kc6.set_ 2 (.slice (some ⟨gB, 0, none⟩) o.b.length cap)
        have Kv7 := Kv6.far (p := ⟨gv + 1, 2, none⟩) (by show gv ≠ gv + 1; omega) (.slice (some ⟨gB, 0, none⟩) o.b.length cap)
        have hs7 : w6.heap.size ≤ (w6.setCell ⟨gv + 1, 2, none⟩ (.slice (some ⟨gB, 0, none⟩) o.b.length cap)).heap.size := o7.size
        have hown7 : Own (w6.setCell ⟨gv + 1, 2, none⟩ (.slice (some ⟨gB, 0, none⟩) o.b.length cap)) w5.heap.size (.slice (some ⟨gB, 0, none⟩) (o.b.length + 2) cap) (o.b.length + 2) (o.b ++ [165, 90]) := row_of hown fun j hj => Below.heap_setCell _ _ _ _ (by rw [row_one hj]; show gB ≠ gv + 1; omega)
        have b7 : Below w5.heap.size w5 w6 := b6
        generalize w6.setCell ⟨gv + 1, 2, none⟩ (.slice (some ⟨gB, 0, none⟩) o.b.length cap) = w7 at *
        have W7 : Wr w7 w.heap.size F (some ⟨g, 0, none⟩) bs := (HW5.out.1.below b6).of fun j hj => o7.block j ((HW5.out.1.below b6).under j hj) (fun hm => by simp at hm; subst hm; exact HF.out.1 _ (by omega) hj)
        have O7 : Own w7 w.heap.size u4 bs.length bs := row_of (HW5.out.2.1.below b6) fun j hj => o7.block j (row_under (HW5.out.2.1.below b6) j hj) (fun hm => by simp at hm; subst hm; exact HF.out.2 _ (by omega) hj)
        have B7 : Below w.heap.size w w7 := (HW5.out.2.2.trans (b6.mono HW5.out.2.2.size)).trans (o7.below (fun j hj => by simp at hj; omega) (by have := HW5.out.2.2.size; omega))
        have A7 : o.At w7 w.heap.size := (HV.out.2 o hmem).1.since B7
        have H7 := Lib.hid (And.intro W7 (And.intro O7 (And.intro B7 (And.intro A7 (And.intro hown7 (And.intro Kv7 Kc7))))))
        clear W7 O7 B7 A7 hown7 Kv7 Kc7 o7 hc6 hf6 Kv6 Kc6 hown b6 b7 HK5 HA5
        have q3 : (w7.alloc (.cells #[] 3)).cell? ⟨gv, 3, none⟩ = some (.slice o.A2 o.l.length o.c2) := by rw [(H7.out.2.2.2.2.2.1.alloc _).cell]; rfl
        have hints := H7.out.2.2.2.1.since (below_alloc w7 (.cells #[] 3))
        have hol : o.l.length ≤ 50 := hso.2
        go_upto_region 13 with (refine app_int (.tmp 27) (.tmp 29) rfl rfl w7.heap.size (.slice (some ⟨w7.heap.size, 0, none⟩) 0 0) 0 [] rfl (OwnI.new w7 w7.heap.size (Nat.le_refl _)) _ o.A2 o.l.length o.c2 o.l rfl hints.l (by omega) (by simp) ?_
                                intro v8 w8 h8 g8 a8
                                have b8 : Below w7.heap.size w7 w8 := (below_alloc w7 _).grown g8 (by simp) (fun j hj => by simp [Value.ownBlock] at hj; omega)
                                have Kc8 := H7.out.2.2.2.2.2.2.below b8 H7.out.2.2.2.2.2.2.lt
                                have hc8 : w8.cell? ⟨gv + 1, 3, none⟩ = some (.slice o.A2 o.l.length o.c2) := by rw [Kc8.cell]; rfl
                                have hf8 : w8.frozen? ⟨gv + 1, 3, none⟩ = false := Kc8.frozen _
                                obtain ⟨A8, c8, rfl, hA8⟩ := h8.form)
        have h8' : OwnI w8 w7.heap.size (.slice A8 o.l.length c8) o.l.length o.l := by simpa using h8
        have o9 : Only [gv + 1] w7 (w8.setCell ⟨gv + 1, 3, none⟩ (.slice A8 o.l.length c8)) := (Only.of_below b8 [gv + 1]).setCell (.inl (by simp)) _
        have Kc9 := Kc8.set_ 3 (.slice A8 o.l.length c8)
        have hi9 : OwnI (w8.setCell ⟨gv + 1, 3, none⟩ (.slice A8 o.l.length c8)) w7.heap.size (.slice A8 o.l.length c8) o.l.length o.l := row_of h8' fun j hj => Below.heap_setCell _ _ _ _ (by have := row_over h8' j hj; show j ≠ gv + 1; omega)
        have hKc : Blk (w8.setCell ⟨gv + 1, 3, none⟩ (.slice A8 o.l.length c8)) (gv + 1) 31 (ValV.cs ⟨o.kind, o.n, some ⟨gB, 0, none⟩, cap, o.b, A8, c8, o.l⟩).toArray := by
          have := Kc9
          simpa [ValV.cs] using this
        clear Kc9 Kc8 hc8 hf8 h8 g8 a8 b8 q3 hints q2
        generalize w8.setCell ⟨gv + 1, 3, none⟩ (.slice A8 o.l.length c8) = w9 at *
        have hge : ∀ j, gv ≤ j → j ∉ F ∧ j ∉ rowOf u4 := fun j hj => ⟨HF.out.1 j hj, HF.out.2 j hj⟩
        have W9 : Wr w9 w.heap.size F (some ⟨g, 0, none⟩) bs := H7.out.1.of fun j hj => o9.block j (H7.out.1.under j hj) (fun hm => by simp at hm; subst hm; exact (hge _ (by omega)).1 hj)
        have O9 : Own w9 w.heap.size u4 bs.length bs := row_of H7.out.2.1 fun j hj => o9.block j (row_under H7.out.2.1 j hj) (fun hm => by simp at hm; subst hm; exact (hge _ (by omega)).2 hj)
        have B9 : Below w.heap.size w w9 := H7.out.2.2.1.trans (o9.below (fun j hj => by simp at hj; omega) H7.out.2.2.1.size)
        have A9 : o.At w9 w.heap.size := (HV.out.2 o hmem).1.since B9
        have C9 : Own w9 w5.heap.size (.slice (some ⟨gB, 0, none⟩) (o.b.length + 2) cap) (o.b.length + 2) (o.b ++ [165, 90]) := row_of H7.out.2.2.2.2.1 fun j hj => o9.block j (row_under H7.out.2.2.2.2.1 j hj) (fun hm => by rw [row_one hj] at hm; simp at hm; omega)
        have Kv9 : Blk w9 gv 31 o.cs.toArray := H7.out.2.2.2.2.2.1.of (o9.block gv H7.out.2.2.2.2.2.1.lt (by simp))
        have hgB9 : gB < w9.heap.size := (World.ownsRow.lt C9 gB rfl).2
        have hs9 := o9.size
        obtain ⟨v', hv'⟩ : ∃ v' : ValV, v' = ⟨o.kind, o.n, some ⟨gB, 0, none⟩, cap, o.b, A8, c8, o.l⟩ := ⟨_, rfl⟩
        have hby : v'.bytes = o.bytes := by rw [hv']; rfl
        have hsz' : v'.size ≤ 800 := by rw [hv']; show 8 + o.b.length + 8 * o.l.length ≤ 800; omega
        have At9 : v'.At w9 w9.heap.size := by
          rw [hv']
          refine ⟨mine_bytes C9 A9.b, hi9.ints, fun a ha => ?_⟩
          rcases ha with ⟨e, _⟩ | ⟨e, hn⟩
          · injection e with e; subst e; exact hgB9
          · obtain ⟨ad', e', hlt', _⟩ := hi9.ints.2 hn
            rw [show A8 = some a from e] at e'
            injection e' with e'
            subst e'
            exact hlt'
        have hap' : ∀ a, (v'.A = some a ∧ 0 < v'.b.length) ∨ (v'.A2 = some a ∧ 0 < v'.l.length) → a.block ∉ F := by
          rw [hv']
          intro a ha
          rcases ha with ⟨e, _⟩ | ⟨e, _⟩
          · injection e with e; subst e; exact (hge _ (by show gv ≤ gB; omega)).1
          · exact (hge _ (by have := hA8 a e; omega)).1
        rw [← hv'] at hKc
        have hrg : w9.rangeAt (gv + 1) 0 v'.cs := hKc.range
        have hiv : (Try.prog.info? 31).map (·.size) = some v'.cs.length := val_size
        have H9 := Lib.hid (And.intro O9 (And.intro B9 (And.intro C9 (And.intro Kv9 (And.intro hKc (And.intro hi9 hv'))))))
        clear O9 C9 Kv9 hKc hi9 hv' A9 o9 H7 h8'
        go_wp2_with (refine wpList_load_mid rfl 31 (.tmp 7) rfl (gv + 1) 0 rfl v'.cs _ hrg hu rfl hiv ?_)
        refine (write_any w9 w.heap.size F _ bs v' _ W9 At9 hap' B9.size (by omega)).mono ?_
        rintro e w10 ⟨rv, rfl, hrv, ⟨F11, W11, o11, f11⟩, hlt256⟩
        rw [hby] at hrv W11 hlt256
        have hplus : plus (some ⟨g, 0, none⟩) bs o.bytes = bs ++ o.bytes := by simp [plus]
        rw [hplus] at W11
        obtain ⟨Ar, cr, rfl, -, -, -⟩ := hrv.form
        have hbyr := hrv.bytes hlt256
        have O11 : Own w10 w.heap.size u4 bs.length bs := row_of H9.out.1 fun j hj => o11.block j (row_under H9.out.1 j hj) (Hap.out.1 j hj)
        have B11 : Below w.heap.size w w10 := B9.trans (o11.below (fun j hj => W9.over j hj) B9.size)
        have hol2 : o.bytes.length ≤ 800 := by have := v'.bytes_len; rw [hby] at this; omega
        have HO11 := Lib.hid (And.intro W11 (And.intro o11 (And.intro f11 hlt256)))
        clear W11 o11 f11 hrv At9 hrg
        go_upto_region 14 with (refine app_bytes (.tmp 32) (.tmp 35) rfl rfl w.heap.size u4 bs.length bs rfl O11 _ Ar o.bytes.length cr o.bytes rfl hbyr (by omega) B11.size ?_
                                intro v12 w12 h12 g12 a12)
        obtain ⟨W11, o11, f11, hlt256⟩ := HO11.out
        have hs11 := o11.size
        have o12 : Only (rowOf u4) w10 w12 := (Only.refl _ _).grown g12 (fun j e => .inl (mem_rowOf.2 e))
        have hru : ∀ j ∈ rowOf u4, j < gv := fun j hj => by
          rcases Nat.lt_or_ge j gv with h | h
          · exact h
          · exact absurd hj (hge j h).2
        have hrF11 : ∀ j ∈ F11, j ∉ rowOf u4 := fun j hj hm => by
          rcases f11 j hj with h | h
          · exact Hap.out.1 j hm h
          · have := hru j hm; omega
        have hgBF : gB ∉ F11 := fun hm => by
          rcases f11 _ hm with h | h
          · exact (hge gB (by omega)).1 h
          · omega
        have W12 : Wr w12 w.heap.size F11 (some ⟨g, 0, none⟩) (bs ++ o.bytes) := W11.of fun j hj => o12.block j (W11.under j hj) (hrF11 j hj)
        have hl12 : (bs ++ o.bytes).length = bs.length + o.bytes.length := List.length_append
        have O12 : Own w12 w.heap.size v12 (bs ++ o.bytes).length (bs ++ o.bytes) := by rw [hl12]; exact h12
        have ap12 : ∀ j ∈ rowOf v12, j ∉ F11 := fun j hj hm => by
          have hj' := mem_rowOf.1 hj
          rcases a12 with e | e
          · exact hrF11 j hm (mem_rowOf.2 (by rw [← e]; exact hj'))
          · rw [e] at hj'; injection hj' with hj'; have := W11.under j hm; omega
        have B12 : Below w.heap.size w w12 := B11.trans (o12.below (fun j hj => row_over O11 j hj) B11.size)
        have hstep : ∀ j, gv ≤ j → j < w9.heap.size → w12.heap[j]? = w9.heap[j]? := fun j hj hl => (o12.block j (by omega) (fun hm => by have := hru j hm; omega)).trans (o11.block j hl (hge j hj).1)
        obtain ⟨-, -, C9, Kv9, Kc9, hi9, hv'⟩ := H9.out
        have Kv12 : Blk w12 gv 31 o.cs.toArray := Kv9.of (hstep gv (Nat.le_refl _) Kv9.lt)
        have Kc12 : Blk w12 (gv + 1) 31 v'.cs.toArray := Kc9.of (hstep _ (by omega) Kc9.lt)
        have C12 : Own w12 w5.heap.size (.slice (some ⟨gB, 0, none⟩) (o.b.length + 2) cap) (o.b.length + 2) (o.b ++ [165, 90]) := row_of C9 fun j hj => by rw [row_one hj]; exact hstep gB (by omega) hgB9
        have I12 : OwnI w12 w7.heap.size (.slice A8 o.l.length c8) o.l.length o.l := row_of hi9 fun j hj => hstep j (by have := row_over hi9 j hj; omega) (row_under hi9 j hj)
        have A12 : o.At w12 w.heap.size := (HV.out.2 o hmem).1.since B12
        have hb12 : ∀ b ∈ bs ++ o.bytes, b < 256 := fun b hb => (List.mem_append.1 hb).elim (Hap.out.2 b) (hlt256 b)
        have r1 : w12.cell? ⟨gv + 1, 2, none⟩ = some (.slice (some ⟨gB, 0, none⟩) o.b.length cap) := by rw [Kc12.cell, hv']; rfl
        have r2 : w12.cell? ⟨gv, 2, none⟩ = some (.slice o.A o.b.length o.c) := by rw [Kv12.cell]; rfl
        have hs12 : w10.heap.size ≤ w12.heap.size := o12.size
        have hgB12 : gB < w12.heap.size := by omega
        have hgBV : ∀ j ∈ rowOf v12, j ≠ gB := fun j hj e => by
          have hj' := mem_rowOf.1 hj
          rcases a12 with h | h
          · have := hru j (mem_rowOf.2 (by rw [← h]; exact hj')); omega
          · rw [h] at hj'; injection hj' with hj'; omega
        generalize hcat : bs ++ o.bytes = bs' at *
        have hbl' : bs'.length ≤ 1000 * (k + 1) := by omega
        have HX := Lib.hid (And.intro W12 (And.intro O12 (And.intro ap12 (And.intro B12 (And.intro Kv12 (And.intro Kc12 (And.intro C12 (And.intro I12 (And.intro A12 (And.intro hb12 hv'))))))))))
        clear W12 O12 ap12 B12 Kv12 Kc12 C12 I12 A12 hb12 hv' C9 Kv9 Kc9 hi9 W11 o11 f11 hlt256 o12 hru hrF11 hstep h12 g12 a12 O11 B11 HO11 H9 hcat hl12 B9 W9 hbyr
        go_wp2_with fail
        refine (kept_any o.A o.b.length o.c gB cap w5.heap.size o.b w12 (by omega) hcap (HX.out.2.2.2.2.2.2.2.2.1.b.more (by omega)) HX.out.2.2.2.2.2.2.1).mono ?_
        rintro e w13 ⟨rfl, b13⟩
        have r3 : w13.cell? ⟨gv + 1, 3, none⟩ = some (.slice A8 o.l.length c8) := by rw [(HX.out.2.2.2.2.2.1.below b13 HX.out.2.2.2.2.2.1.lt).cell, HX.out.2.2.2.2.2.2.2.2.2.2]; rfl
        have r4 : w13.cell? ⟨gv, 3, none⟩ = some (.slice o.A2 o.l.length o.c2) := by rw [(HX.out.2.2.2.2.1.below b13 HX.out.2.2.2.2.1.lt).cell]; rfl
        go_wp2_with fail
        have I13 : OwnI w13 w7.heap.size (.slice A8 o.l.length c8) o.l.length o.l := row_of HX.out.2.2.2.2.2.2.2.1 fun j hj => b13.block j (row_under HX.out.2.2.2.2.2.2.2.1 j hj)
        refine (ints_any A8 o.A2 _ _ c8 o.c2 _ _ o.l o.l w13 I13.ints (HX.out.2.2.2.2.2.2.2.2.1.since b13).l (by omega) (by omega)).mono ?_
        rintro e w14 ⟨b, rfl, hbe, b14⟩
        obtain rfl := hbe rfl
        have b24 : Below w12.heap.size w12 w14 := b13.trans (b14.mono b13.size)
        have r5 : w14.cell? ⟨gv + 1, 2, none⟩ = some (.slice (some ⟨gB, 0, none⟩) o.b.length cap) := by rw [(HX.out.2.2.2.2.2.1.below b24 HX.out.2.2.2.2.2.1.lt).cell, HX.out.2.2.2.2.2.2.2.2.2.2]; rfl
        have C14 := mine_own (HX.out.2.2.2.2.2.2.1.below b24) rfl
        have W14 := HX.out.1.below b24
        have O14 := HX.out.2.1.below b24
        have B14 := HX.out.2.2.2.1.trans (b24.mono HX.out.2.2.2.1.size)
        clear r1 r2 r3 r4 I13 b13 b14
        go_wp2_with fail
        refine (over_any w14 w5.heap.size _ o.b.length o.b C14 HX.out.2.2.2.2.2.2.2.2.1.b.2 (by omega)).mono ?_
        rintro e w15 ⟨rfl, o15⟩
        have hgBR : ∀ j ∈ rowOf (.slice (some ⟨gB, 0, none⟩) o.b.length cap), j = gB := fun j hj => row_one hj
        have W15 := W14.of fun j hj => o15.block j (W14.under j hj) (fun hm => hgBF (by rw [← hgBR j hm]; exact hj))
        have O15 : Own w15 w.heap.size v12 bs'.length bs' := row_of O14 fun j hj => o15.block j (row_under O14 j hj) (fun hm => hgBV j hj (hgBR j hm))
        have B15 := B14.trans (o15.below (fun j hj => by rw [hgBR j hj]; omega) B14.size)
        have hb12 := HX.out.2.2.2.2.2.2.2.2.2.1
        have ap12 := HX.out.2.2.1
        clear HX C14 W14 O14 B14 r5 b24 o15
        go_wp2_with fail
        refine (out_any w15 w.heap.size F11 _ bs' W15 (by omega)).mono ?_
        rintro e w16 ⟨ov, rfl, V16, b16⟩
        have O16 := O15.below b16
        have W16 := W15.below b16
        have B16 := B15.trans (b16.mono B15.size)
        obtain ⟨Ao, co, rfl, -, -, -⟩ := V16.form
        obtain ⟨Av, cv, rfl, -, -, -⟩ := O16.form
        have hby1 := V16.bytes hb12
        have hby2 := O16.bytes hb12
        go_wp2_with fail
        refine (same_any Ao Av _ _ co cv _ _ bs' bs' w16 hby1 hby2).mono ?_
        rintro e w16' ⟨b, rfl, hbe, rfl⟩
        obtain rfl := hbe rfl
        go_wp2_with fail
        refine (over_any w16 w15.heap.size _ bs'.length bs' V16 hb12 (by omega)).mono ?_
        rintro e w17 ⟨rfl, o17⟩
        have W17 := W16.of fun j hj => o17.block j (W16.under j hj) (fun hm => by have := row_over V16 j hm; have := W15.under j hj; omega)
        have O17 : Own w17 w.heap.size _ bs'.length bs' := row_of O16 fun j hj => o17.block j (row_under O16 j hj) (fun hm => by have := row_over V16 j hm; have := row_under O15 j hj; omega)
        have B17 := B16.trans (o17.below (fun j hm => by have := row_over V16 j hm; have := B15.size; omega) B16.size)
        go_wp2
        go_roundg (n0 - (k + 1))
        case measure => omega
        case rel => exact ⟨k + 1, F11, bs', by omega, rfl, by go_num, W17, O17, ap12, hb12, B17, by omega⟩
      · go_wp2_with fail
        refine (out_any wr w.heap.size F _ bs hw (by omega)).mono ?_
        rintro e w5 ⟨ov, rfl, h5, b5⟩
        obtain ⟨A5, c5, rfl, -, -, -⟩ := h5.form
        have hby := h5.bytes hb256
        have ho5 := ho.below b5
        obtain ⟨A6, c6, rfl, -, -, -⟩ := ho5.form
        have hby2 := ho5.bytes hb256
        have HB := Lib.hid (hbl.trans (b5.mono hbl.size))
        clear ho h5 ho5 hw hbl b5
        go_wp2_with fail
        refine (same_any A5 A6 _ _ c5 c6 _ _ bs bs w5 hby hby2).mono ?_
        rintro e w6 ⟨b, rfl, hbe, rfl⟩
        obtain rfl := hbe rfl
        go_wp2
        go_ret
        exact ⟨rfl, HB.out⟩
end Go.Proofs.Ytndkhhkllnkilaa
