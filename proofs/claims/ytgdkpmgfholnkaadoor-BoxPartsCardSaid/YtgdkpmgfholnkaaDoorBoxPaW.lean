/-
  The law BoxParts, walked, where the package's Parts returns the data's rows in blocks of their own: it returns true and changes nothing that was there. Conditions: the data read as bytes; the package's table holds its sixteen numbers.
-/
import Derived.Test.YtgdkpmgfholnkaaDoorBoxPR
import Derived.Test.YtgdkpmgfholnkaaDoorBoxPW
import Derived.Test.YtgdkpmgfholnkaaDoorCopy
namespace Go.Proofs.YtgdkpmgfholnkaaDoor
open Go.RowKit
set_option linter.unusedSimpArgs false
set_option linter.unusedVariables false
/-- what the package's Parts answers -/
def PartsPost (d : List Nat) (w : World) (e : Ending) (w' : World) : Prop :=
  ∃ v rs, e = .returned v ∧ w'.ownsRow w.heap.size 22 1 v (pn d) (hdr rs (pn d)) ∧ (∀ i, i < pn d → Own w' w.heap.size (rs i) (prow d i).length (prow d i)) ∧ (∀ i j, i < pn d → j < pn d → i ≠ j → ∀ b, (rs i).ownBlock = some b → (rs j).ownBlock ≠ some b) ∧ Below w.heap.size w w'
theorem mine_less {w : World} {base g n cap : Nat} {bs m : List Nat} (h : Own w base (.slice (some ⟨g, 0, none⟩) (n + 2) cap) (n + 2) (bs ++ m)) (hl : bs.length = n) : Own w base (.slice (some ⟨g, 0, none⟩) n cap) n bs := by
  refine ⟨by rw [u8s_length]; omega, ?_⟩
  rcases h.2 with ⟨h, _⟩ | ⟨g', cap', cur, hv, h1, h2, h3, h4, h5, h6⟩
  · cases h
  · injection hv with e1 e2 e3
    injection e1 with e1
    injection e1 with e1
    subst e1 e3
    refine .inr ⟨g, cap, cur, rfl, h1, h2, by omega, h4, h5, ?_⟩
    have := congrArg (List.take (n * 1)) h6
    rw [List.take_take, u8s, List.map_append, List.take_left' (by simp; omega)] at this
    rw [show min (n * 1) ((n + 2) * 1) = n * 1 by omega] at this
    exact this
theorem app_rows {w : World} {ops : Array Oper} {rest : List Oper} {o : Oper} {a : Act} {Q : Exit → Act → World → Prop} (s x : Operand)
    (hgd : Region.wanted o (yielded ops a.tmps) = true) (ho : o.op = .call { callee := .builtin .append, args := #[s, x], argTypes := #[47, 47] })
    (base : Nat) (v : Value) (n : Nat) (xs : List Value) (hs : a.eval s = v) (hown : w.ownsRow base 22 1 v n xs)
    (B : Nat) (A : Option Addr) (m c : Nat) (us : List Value) (hx : a.eval x = .slice A m c) (hr : Reads w B 1 A m us) (hu : ∀ u ∈ us, u.oneCell' = true) (hn : n ≤ 1000000) (hm : m ≤ 1000000) (hbase : base ≤ w.heap.size)
    (h : ∀ v' w', w'.ownsRow base 22 1 v' (n + m) (xs ++ us) → w.grownBy w' v.ownBlock → wpList Tryd.prog ops Q rest (a.put o.dst v') w') :
    wpList Tryd.prog ops Q (o :: rest) a w := by
  obtain ⟨i0, hi0, hz0, hz1, hz2⟩ := info_parts slice_info
  refine wpList_wanted hgd fun K hK => ?_
  refine wp_append_any w s x _ ho base 22 i0 _ 1 24 Tryd.underlying47 hi0 hz0 hz1 hz2 rfl (by omega) v n xs hs hown B A m c us hx hr hu (by simp only [maxLen]; omega) (by omega) hbase ?_
  intro v' w' h1 h2 h3
  exact hK _ _ (h v' w' h1 h2)
theorem hdr_cons (v : Value) (rs : Nat → Value) (m : Nat) : [v] ++ hdr rs m = hdr (fun i => if i = 0 then v else rs (i - 1)) (1 + m) := by
  unfold hdr
  rw [Nat.add_comm, List.range_succ_eq_map]
  simp [List.map_map, Function.comp_def]
theorem rowed_cons {w : World} {base b1 m : Nat} {v : Value} {n : Nat} {bs : List Nat} {rs : Nat → Value} {ns : Nat → Nat} {bd : Nat → List Nat} (h0 : Own w base v n bs) (hlt : ∀ b, v.ownBlock = some b → b < b1) (h1 : ∀ i, i < m → Own w b1 (rs i) (ns i) (bd i))
    (hd : ∀ i j, i < m → j < m → i ≠ j → ∀ b, (rs i).ownBlock = some b → (rs j).ownBlock ≠ some b) (hb : base ≤ b1) : Rowed w base (fun i => if i = 0 then v else rs (i - 1)) (fun i => if i = 0 then n else ns (i - 1)) (1 + m) := by
  refine ⟨fun i hi => ?_, fun i j hi hj hne b hv => ?_⟩
  · by_cases h : i = 0
    · rw [if_pos h, if_pos h]; exact ⟨bs, h0⟩
    · rw [if_neg h, if_neg h]; exact ⟨_, (h1 (i - 1) (by omega)).weaken hb⟩
  · change Value.ownBlock (if i = 0 then v else rs (i - 1)) = some b at hv
    change Value.ownBlock (if j = 0 then v else rs (j - 1)) ≠ some b
    by_cases h : i = 0
    · rw [if_pos h] at hv
      rw [if_neg (by omega)]
      intro e
      have := hlt b hv
      have := (World.ownsRow.lt (h1 (j - 1) (by omega)) b e).1
      omega
    · rw [if_neg h] at hv
      by_cases h' : j = 0
      · rw [if_pos h']
        intro e
        have := hlt b e
        have := (World.ownsRow.lt (h1 (i - 1) (by omega)) b hv).1
        omega
      · rw [if_neg h']
        exact hd (i - 1) (j - 1) (by omega) (by omega) (by omega) b hv
set_option maxRecDepth 100000 in
set_option maxHeartbeats 4000000 in
theorem boxParts_of (hP : ∀ (A : Option Addr) (c : Nat) (d : List Nat) (w : World), Bytes w w.heap.size A d.length d → d.length ≤ 5000 → d.length ≤ c → c ≤ 9223372036854775807 → Calls Tryd.prog 25 #[.slice A d.length c] w (PartsPost d w))
    (A : Option Addr) (c : Nat) (d : List Nat) {w : World} (hx : Bytes w w.heap.size A d.length d) (hc : d.length ≤ c) (hcm : c ≤ 9223372036854775807) (hT : Tab w) :
    Calls Tryd.prog 7 #[.slice A d.length c] w fun e w' => e = .returned (.bool true) ∧ Below w.heap.size w w' := by
  have HPP := Lib.hid hP
  have HX := Lib.hid hx
  have HT := Lib.hid hT
  clear hP hx hT
  go_enter Tryd.func7, Tryd.ntmps7
  go_wp2_with fail
  refine (balive_any w HT.out).mono ?_
  rintro e w2 ⟨rfl, b2⟩
  have HK2 := Lib.hid b2
  clear b2
  by_cases la : d.length ≤ 5000
  case neg =>
    have hd : decide (5000 < (d.length : Int)) = true := decide_eq_true (by omega)
    go_wp2
    go_ret
    exact ⟨rfl, HK2.out⟩
  have hda : decide (5000 < (d.length : Int)) = false := decide_eq_false (by omega)
  go_wp2_with fail
  refine (copy_any A d.length c d w2 (by omega) ((HX.out.since HK2.out).more HK2.out.size)).mono ?_
  rintro e w3 ⟨gc, cap, rfl, hcap, hgc, hown, b3⟩
  have hmb := mine_bytes hown HX.out
  have hless := mine_less hown rfl
  have hcx : cap ≤ 9223372036854775807 := by
    obtain ⟨A1, c1, e1, -, h1, -⟩ := hless.form
    injection e1 with _ _ e3
    subst e3
    simpa [maxLen] using h1
  have HK3 := Lib.hid (And.intro (HK2.out.trans (b3.mono HK2.out.size)) (And.intro hown (And.intro hmb hless)))
  have HB2 := Lib.hid HK2.out.size
  have HL3 : Hid (∀ b, (Value.slice (some ⟨gc, 0, none⟩) d.length cap).ownBlock = some b → b < w3.heap.size) := Lib.hid (fun b e => (World.ownsRow.lt hless b e).2)
  have HS3 := Lib.hid b3.size
  clear HK2 b3 hown hmb hless
  go_wp2_with fail
  refine (HPP.out (some ⟨gc, 0, none⟩) cap d w3 HK3.out.2.2.1 la (by omega) hcx).mono ?_
  rintro e w4 ⟨v, rs, rfl, hv, hrs, hds, b4⟩
  obtain ⟨Av, cv, rfl⟩ := row_form hv
  have HV := Lib.hid (And.intro hv (And.intro hrs (And.intro hds b4)))
  have HK4 := Lib.hid (And.intro (HK3.out.1.trans (b4.mono HK3.out.1.size)) (And.intro (HK3.out.2.1.below b4) (HK3.out.2.2.2.below b4)))
  have HB3 := Lib.hid (And.intro HB2.out HK3.out.1.size)
  have hpn : pn d ≤ 48 := by unfold pn; omega
  clear hv hrs hds b4 HK3 HPP HB2
  go_wp2_with fail
  have hO := Own.new w4 w4.heap.size (Nat.le_refl _)
  have hB4 := (Below.refl w4.heap.size w4).alloc (Nat.le_refl _) (.cells #[] 5)
  go_loopw [5, 20] (fun v i wr => ∃ k : Nat, k ≤ pn d ∧ i = .int .i64 k ∧ Own wr w4.heap.size v (d.take (106 * k)).length (d.take (106 * k)) ∧ Below w4.heap.size w4 wr) (fun _ i _ => pn d - (intOf i).toNat)
  case atStart => exact ⟨0, Nat.zero_le _, rfl, by simpa using hO, hB4⟩
  case round =>
    obtain ⟨k, hk, rfl, hOk, hBk⟩ := hrel
    clear hO hB4
    by_cases hlt : k < pn d
    · have hR := (Reads.of_own HV.out.1).since hBk
      obtain ⟨ad, rfl, hcd⟩ := hR.hdr_get hlt
      have hok := HV.out.2.1 k hlt
      obtain ⟨Ak, ck, e1, -, -, -⟩ := hok.form
      rw [e1] at hcd hok
      have hy := (hok.bytes (prow_lt HX.out.2 k)).since hBk
      have hk0 : (0 : Int) ≤ (k : Int) := by omega
      have hk1 : (k : Int) < (pn d : Int) := by omega
      have hs5 : (d.take (106 * k)).length ≤ 5000 := by rw [List.length_take]; omega
      have hs6 : (prow d k).length ≤ 106 := by rw [prow_len]; omega
      have HS := Lib.hid (show d.take (106 * (k + 1)) = d.take (106 * k) ++ prow d k by unfold prow; rw [show 106 * (k + 1) = 106 * k + 106 by omega, List.take_add])
      have HB := Lib.hid (And.intro hBk (And.intro hOk hy))
      have hbs := hBk.size
      clear hR hok e1 hBk hOk hy
      go_wp2_with (refine app_bytes (.tmp 24) (.tmp 25) rfl rfl w4.heap.size u5 (d.take (106 * k)).length (d.take (106 * k)) rfl HB.out.2.1 _ Ak (prow d k).length ck (prow d k) rfl HB.out.2.2 (by omega) hbs ?_
                   intro v9 w9 h9 g9 a9)
      have B9 := below_own HB.out.1 HB.out.2.1 (Nat.le_refl _) g9 hbs
      refine ⟨⟨k + 1, by omega, by go_num, ?_, B9⟩, by simp only [intOf]; omega⟩
      rw [HS.out, List.length_append]
      exact h9
    · obtain rfl : k = pn d := by omega
      have hall : d.take (106 * pn d) = d := by rw [← prow_join, prow_all]
      rw [hall] at hOk
      obtain ⟨A5, c5, rfl, -, -, -⟩ := hOk.form
      have hb5 := hOk.bytes HX.out.2
      have B5 := HK4.out.1.trans (hBk.mono HK4.out.1.size)
      have hRs : Rowy wr w4.heap.size rs d (pn d) := fun i hi => by
        have h := HV.out.2.1 i hi
        obtain ⟨Ai, ci, e1, -, -, -⟩ := h.form
        rw [e1] at h
        exact ⟨Ai, ci, e1, (h.bytes (prow_lt HX.out.2 i)).since hBk⟩
      have hRv : Reads wr w4.heap.size 1 Av (pn d) (hdr rs (pn d)) := Reads.since (Reads.of_own HV.out.1) hBk
      have HZ := Lib.hid (And.intro hb5 (And.intro B5 (And.intro hRs (And.intro hRv hBk))))
      have HQ : Hid ((d == d) = true) := Lib.hid (beq_self_eq_true d)
      clear hb5 B5 hRs hRv hBk hOk hall hlt
      rename World => w5
      go_wp2_with fail
      refine (dparts_any A c d w5 ((HX.out.since HZ.out.2.1).more HZ.out.2.1.size) la hc hcm).mono ?_
      rintro e w6 ⟨vr, rr, rfl, hvr, hrr, b6⟩
      obtain ⟨Ar, cr, rfl⟩ := row_form hvr
      have H6 := Lib.hid (And.intro hvr (And.intro hrr b6))
      clear hvr hrr b6
      go_wp2_with fail
      refine (rows_any Av Ar (pn d) cv cr _ _ _ _ rs rr d w6 (Reads.since HZ.out.2.2.2.1 H6.out.2.2) (Reads.of_own H6.out.1) (HZ.out.2.2.1.since H6.out.2.2) H6.out.2.1 (by omega)).mono ?_
      rintro e w7 ⟨rfl, b7⟩
      have B7 := H6.out.2.2.trans (b7.mono H6.out.2.2.size)
      have H7 := Lib.hid (And.intro B7 (HZ.out.2.1.trans (B7.mono HZ.out.2.1.size)))
      clear b7 B7
      go_wp2_with fail
      refine (same_iff A5 A d.length d.length c5 c w5.heap.size w.heap.size d d w7 (HZ.out.1.since H7.out.1) (HX.out.since H7.out.2)).mono ?_
      rw [HQ.out]
      rintro e w8 ⟨rfl, rfl⟩
      have H8 := Lib.hid (HZ.out.2.2.2.2.trans (H7.out.1.mono HZ.out.2.2.2.2.size))
      go_wp2_with fail
      refine (kept_any A d.length c gc cap w2.heap.size d w7 (by omega) hcap ((HX.out.since H7.out.2).more HB3.out.1) (HK4.out.2.1.below H8.out)).mono ?_
      rintro e w8 ⟨rfl, b8⟩
      have H9 := Lib.hid (And.intro (H7.out.2.trans (b8.mono H7.out.2.size)) (And.intro (H8.out.trans (b8.mono H8.out.size)) b8))
      clear b8
      have hmade : (w8.alloc (.cells #[.slice (some ⟨gc, 0, none⟩) d.length cap] 22)).ownsRow w8.heap.size 22 1 (.slice (some ⟨w8.heap.size, 0, none⟩) 1 1) 1 [.slice (some ⟨gc, 0, none⟩) d.length cap] :=
        ⟨rfl, .inr ⟨w8.heap.size, 1, #[.slice (some ⟨gc, 0, none⟩) d.length cap], rfl, Nat.le_refl _, heap_alloc_new w8 _, Nat.le_refl _, by simp [maxLen], rfl, rfl⟩⟩
      have hRl : Reads (w8.alloc (.cells #[.slice (some ⟨gc, 0, none⟩) d.length cap] 22)) w4.heap.size 1 Av (pn d) (hdr rs (pn d)) :=
        Reads.alloc (Reads.since (Reads.of_own HV.out.1) H9.out.2.1) H9.out.2.1.size _
      have h1c : ∀ u ∈ hdr rs (pn d), u.oneCell' = true := fun u hu => by
        obtain ⟨i, hi, rfl⟩ := List.mem_map.1 hu
        obtain ⟨Ai, ci, e1, -, -, -⟩ := (HV.out.2.1 i (List.mem_range.1 hi)).form
        rw [e1]; rfl
      have hpm : pn d ≤ 1000000 := by omega
      have hnl : w8.heap.size ≤ (w8.alloc (.cells #[.slice (some ⟨gc, 0, none⟩) d.length cap] 22)).heap.size := by rw [World.size_alloc]; omega
      have HG := Lib.hid (And.intro hmade hnl)
      go_wp2_with (refine app_rows (.tmp 44) (.tmp 45) (by kernel_rfl) rfl w8.heap.size (.slice (some ⟨w8.heap.size, 0, none⟩) 1 1) 1 [.slice (some ⟨gc, 0, none⟩) d.length cap] rfl HG.out.1 _ Av (pn d) cv (hdr rs (pn d)) rfl hRl h1c (by omega) hpm HG.out.2 ?_
                   intro v46 w9 h46 g46)
      obtain ⟨A46, c46, rfl⟩ := row_form h46
      have hw48 := H9.out.2.1.size
      have B49 : Below w4.heap.size w4 w9 := below_row (H9.out.2.1.alloc H9.out.2.1.size _) HG.out.1 hw48 g46 (by have := HG.out.2; omega)
      have B0 : Below w.heap.size w w9 := below_row (H9.out.1.alloc H9.out.1.size _) HG.out.1 H9.out.1.size g46 (by have := HG.out.2; have := H9.out.1.size; omega)
      have hw34 := HV.out.2.2.2.size
      have hw23 := HS3.out
      have hw49 := B49.size
      have hRA := Reads.of_own h46
      rw [hdr_cons] at hRA
      refine (apart_any A46 (1 + pn d) c46 w9.heap.size w2.heap.size _ (fun i => if i = 0 then d.length else (prow d (i - 1)).length) w9 (by omega) hRA (fun i _ => by
          show (if i = 0 then d.length else (prow d (i - 1)).length) ≤ 100000
          have := prow_len d (i - 1)
          split <;> omega)
        (rowed_cons (HK4.out.2.2.below B49) HL3.out (fun i hi => (HV.out.2.1 i hi).below B49) HV.out.2.2.1 hw23)
        (fun ad had i hi e => by
          subst had
          have h1 := (World.ownsRow.lt h46 ad.block rfl).1
          change Value.ownBlock (if i = 0 then Value.slice (some ⟨gc, 0, none⟩) d.length cap else rs (i - 1)) = _ at e
          by_cases h0 : i = 0
          · rw [if_pos h0] at e
            have := HL3.out _ e
            omega
          · rw [if_neg h0] at e
            have := (World.ownsRow.lt (HV.out.2.1 (i - 1) (by omega)) _ e).2
            omega)
        (by omega)).mono ?_
      rintro e w10 ⟨rfl, b10⟩
      have BF := Lib.hid (B0.trans (b10.mono HB3.out.1))
      clear B0 b10 B49 hRA h46 g46
      go_wp2
      go_ret
      exact ⟨rfl, BF.out⟩
end Go.Proofs.YtgdkpmgfholnkaaDoor
