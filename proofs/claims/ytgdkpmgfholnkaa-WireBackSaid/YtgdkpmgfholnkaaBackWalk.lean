/-
  The law WireBack, walked: it returns true and changes nothing that was there. No condition.
-/
import Derived.Test.YtgdkpmgfholnkaaBackW
import Derived.Deep.CutRange
import Derived.Deep.DeepCutAuto
import Derived.Deep.CutBlock
namespace Go.Proofs.Ytgdkpmgfholnkaa
open Go.RowKit
set_option linter.unusedSimpArgs false
set_option linter.unusedVariables false
theorem Rd.weaken {w : World} {base base' : Nat} {F : List Nat} {p : Option Addr} {s : RD} (h : Rd w base F p s) (hb : base' ≤ base) : Rd w base' F p s := by
  rcases h with h | ⟨g', hg, A, c, e1, e2, e3, e4, e5, e6, e7, e8⟩
  · exact .inl h
  · exact .inr ⟨g', hg, A, c, e1, e2, e3, e4, e5, Nat.le_trans hb e6, fun a ha => ⟨Nat.le_trans hb (e7 a ha).1, (e7 a ha).2⟩, e8⟩
theorem Wr.weaken' {w : World} {base base' : Nat} {F : List Nat} {p : Option Addr} {bs : List Nat} (h : Wr w base F p bs) (hb : base' ≤ base) : Wr w base' F p bs := by
  rcases h with h | ⟨g, hp, h⟩
  · exact .inl h
  · exact .inr ⟨g, hp, h.weaken hb⟩
theorem back_at (x : Int) (n : Nat) (h0 : 0 < n) (h5 : n ≤ 100000) : ∃ k : Nat, k < n ∧ wrap64 ((IntKind.u64.wrap x).tmod (n : Int)) = (k : Int) := by
  rw [IntKind.wrap_u64]
  have h1 : 0 ≤ x % 18446744073709551616 := by omega
  generalize x % 18446744073709551616 = y at *
  have h2 := Int.tmod_nonneg (n : Int) h1
  have h3 := Int.tmod_lt_of_pos y (show (0 : Int) < n by omega)
  refine ⟨(y.tmod n).toNat, by omega, ?_⟩
  generalize y.tmod n = z at *
  unfold wrap64
  omega
theorem all_le (s : RD) : ∀ os : List ValV, (s.all os).bs.length ≤ s.bs.length
  | [] => Nat.le_refl _
  | o :: os => Nat.le_trans (all_le (s.to o.kind) os) (RD.to_le s o.kind)
theorem flat_snoc {os : List ValV} {k : Nat} {o : ValV} (h : os[k]? = some o) : (os.take (k + 1)).flatMap ValV.bytes = (os.take k).flatMap ValV.bytes ++ o.bytes := by
  rw [List.take_add_one, h]; simp
set_option maxHeartbeats 2000000 in
theorem wireBack_walk (A0 : Option Addr) (n0 c0 : Nat) (os : List ValV) (m0 : n0 ≤ 9223372036854775807) {w : World} (h : VCells w w.heap.size A0 n0 os ∧ ∀ o ∈ os, o.At w w.heap.size ∧ o.Fit ∧ o.Wide) (x : Int) (mx : -9223372036854775808 ≤ x) (ox : x ≤ 9223372036854775807) :
    Calls Try.prog 4 #[.slice A0 n0 c0, .int .i64 x] w fun e w' => e = .returned (.bool true) ∧ Below w.heap.size w w' := by
  have HV := Lib.hid h
  have hz := writer_zero
  have hzr := ref_zero
  have hzv := val_zero
  clear h
  go_enter Try.func4, Try.ntmps4
  go_wp2_with fail
  refine (alive_any _).mono ?_
  rintro e w1 ⟨rfl, b1⟩
  have V1 : VCells w1 w.heap.size A0 n0 os := Reads.since HV.out.1 b1
  go_wp2_with fail
  refine (large_any A0 n0 c0 os _ w1 V1 m0 (fun o ho => (HV.out.2 o ho).2.1)).mono ?_
  rintro e w2 ⟨r, rfl, b2, hr⟩
  have B2 := Lib.hid (b1.trans (b2.mono b1.size))
  clear V1 b1 b2
  cases r with
  | true =>
    go_wp2
    go_ret
    exact ⟨rfl, B2.out⟩
  | false =>
    obtain ⟨hn41, hsz⟩ := hr rfl
    clear hr
    have hall : ∀ o ∈ os, o.At w w.heap.size ∧ o.Small ∧ o.Wide := fun o ho => ⟨(HV.out.2 o ho).1, hsz o ho, (HV.out.2 o ho).2.2⟩
    have Hall := Lib.hid hall
    have hflat := flat_take_len os (fun o ho => (hall o ho).2.1)
    have Hflat := Lib.hid hflat
    have hol := HV.out.1.len
    have htot : (os.flatMap ValV.bytes).length ≤ 30000 := by
      have := hflat n0
      rw [List.take_of_length_le (by omega)] at this
      omega
    have W3 := Lib.hid ((Wr.made w2).weaken' B2.out.size)
    have B4 := Lib.hid (B2.out.alloc B2.out.size (.cells #[.slice none 0 0] 44))
    clear B2 hall hflat hsz
    have Hol := Lib.hid hol
    clear hol
    go_wp2
    generalize w2.alloc (.cells #[.slice none 0 0] 44) = w4 at *
    generalize hgw : w2.heap.size = g at *
    go_loopg [21] n0 (fun gk i wr => ∃ (k : Nat) (F : List Nat), k ≤ n0 ∧ gk = n0 - k ∧ i = .int .i64 k ∧ Wr wr w.heap.size F (some ⟨g, 0, none⟩) ((os.take k).flatMap ValV.bytes) ∧ Below w.heap.size w wr)
    case atStart => exact ⟨0, [g], by omega, by omega, rfl, by simpa using W3.out, B4.out⟩
    case round =>
      obtain ⟨k, F, hk, rfl, rfl, hw, hbl⟩ := hrel
      clear W3 B4
      by_cases hlt : k < n0
      · -- {one
        obtain ⟨ad, o, rfl, hox, hc⟩ := (show VCells wr w.heap.size A0 n0 os from Reads.since HV.out.1 hbl).get hlt
        have ho := Hall.out o (List.mem_of_getElem? hox)
        have hso := ho.2.1
        have Hund := Lib.hid ho.1.under
        have hu := Try.underlying46
        have hi : (Try.prog.info? 46).map (·.size) = some o.cs.length := val_size
        have K1 := Blk.new wr 46 o.cs.toArray
        have hrg := K1.range
        have b5 := below_alloc wr (.cells o.cs.toArray 46)
        have hbsl := Hflat.out k
        have HW := Lib.hid (And.intro (hw.below b5) (hbl.trans (b5.mono hbl.size)))
        have HA := Lib.hid (ho.1.since (hbl.trans (b5.mono hbl.size)))
        have Hsn := Lib.hid (flat_snoc hox)
        generalize (os.take k).flatMap ValV.bytes = bs at *
        clear hw hbl ho hox K1 b5
        go_wp2_with (first
          | (refine wpList_load_at rfl 46 (.tmp 23) rfl _ rfl o.cs _ hc hu rfl hi ?_)
          | (refine wpList_store_newN rfl 46 (.tmp 7) (.tmp 24) rfl wr.heap.size rfl o.cs _ rfl rfl hi rfl o.one ?_)
          | (refine wpList_load_mid rfl 46 (.tmp 7) rfl wr.heap.size 0 rfl o.cs _ hrg hu rfl hi ?_))
        refine (write_any _ w.heap.size F _ bs o w.heap.size HW.out.1 HA.out (fun a ha hm => ?_) HW.out.2.size (by have := hso.1; have := hso.2; unfold ValV.size; omega)).mono ?_
        · have h1 := HW.out.1.over _ hm
          have h2 : a.block < w.heap.size := Hund.out a ha
          omega
        rintro e w10 ⟨rv, rfl, hrv, ⟨F11, W11, o11, f11⟩, hlt256⟩
        have hplus : plus (some ⟨g, 0, none⟩) bs o.bytes = bs ++ o.bytes := by simp [plus]
        rw [hplus] at W11
        have B11 : Below w.heap.size w w10 := HW.out.2.trans (o11.below (fun j hj => HW.out.1.over j hj) HW.out.2.size)
        have HE := Lib.hid (And.intro W11 B11)
        obtain ⟨Ar, cr, rfl, -, -, -⟩ := hrv.form
        clear W11 B11 o11 f11 hrv hplus HW HA
        go_wp2
        go_roundg (n0 - (k + 1))
        case measure => omega
        case rel => exact ⟨k + 1, F11, by omega, rfl, by go_num, by rw [Hsn.out]; exact HE.out.1, HE.out.2⟩
        -- one}
      · obtain rfl : k = n0 := by omega
        have hfl : (os.take k).flatMap ValV.bytes = os.flatMap ValV.bytes := by rw [List.take_of_length_le (by have := Hol.out; omega)]
        rw [hfl] at hw
        have HW := Lib.hid (And.intro hw hbl)
        have hcutall := all_cut os
        clear hw hbl hfl hlt
        generalize htt : os.flatMap ValV.bytes = tot at *
        have Htt := Lib.hid htt
        have HCA := Lib.hid (fun p h1 h2 => hcutall p (fun o ho => (Hall.out o ho).2) h1 h2)
        clear htt hcutall
        go_wp2_with fail
        refine (out_any wr w.heap.size F _ _ HW.out.1 (by omega)).mono ?_
        rintro e w5 ⟨bv, rfl, hbv, b5⟩
        obtain ⟨Ab, cb, rfl, hcb1, hcb2, -⟩ := hbv.form
        have B5 := Lib.hid (HW.out.2.trans (b5.mono HW.out.2.size))
        have hlt256 : ∀ b ∈ tot, b < 256 := by
          rcases HW.out.1 with ⟨h, _⟩ | ⟨g', _, v, _, _, _, _, h⟩
          · cases h
          · exact h
        have hwr := HW.out.2.size
        have HO := Lib.hid hbv
        have HY := Lib.hid (hbv.bytes hlt256)
        have H256 := Lib.hid hlt256
        clear b5 hbv HW hlt256
        go_wp2_with fail
        refine (newr_any Ab _ cb _ w5 _ (by omega) HY.out).mono ?_
        rintro e w6 ⟨gr, Fr, rfl, R6, b6⟩
        have B6 := Lib.hid (B5.out.trans (b6.mono B5.out.size))
        have hF6 := R6.over
        have hs56 := b6.size
        have R6' := Lib.hid R6
        have HO6 := Lib.hid (HO.out.below b6)
        have hs5 := B5.out.size
        clear R6 b6 HY
        go_wp2_with fail
        refine (back_any w w6 w5.heap.size hs5 hs56 Fr _ A0 k c0 os ⟨HV.out.1, Hall.out⟩ B6.out (by rw [Htt.out]; exact R6'.out) hn41 (by rw [Htt.out]; omega)).mono ?_
        rintro e w7 ⟨rfl, F7, R7, b7⟩
        have B7 := Lib.hid (B6.out.trans (b7.mono hs5))
        have HO7' : Own w7 wr.heap.size (.slice Ab tot.length cb) tot.length tot := row_of HO6.out (fun j hj => b7.block j (row_under HO.out j hj))
        have HO7 := HO7'.weaken hwr
        have hby7 := HO7.bytes H256.out
        have HE7 := Lib.hid hby7
        clear hby7 HO7 HO7' b7 HO6 R6' B6 HO
        go_wp2_with fail
        refine (rend_any w7 w5.heap.size F7 _ _ R7).mono ?_
        rintro e w8 ⟨rfl, rfl⟩
        simp only [Bool.false_or, List.length_nil, Nat.lt_irrefl, decide_false, Bool.false_eq_true, if_false, errV]
        by_cases ht0 : tot.length = 0
        · have hd : ((tot.length : Int) == 0) = true := by simpa using ht0
          go_wp2
          go_ret
          exact ⟨rfl, B7.out⟩
        · have hd : ((tot.length : Int) == 0) = false := by simpa using ht0
          obtain ⟨kc, hkc, hkv⟩ := back_at x tot.length (by omega) (by omega)
          have q1 : (0 : Int) ≤ (kc : Int) := by omega
          have q2 : (kc : Int) ≤ (cb : Int) := by omega
          have q3 : (kc : Int) ≤ (tot.length : Int) := by omega
          have hq4 : IntKind.u64.wrap (tot.length : Int) = tot.length := by rw [IntKind.wrap_u64]; omega
          unfold maxLen at hcb2
          clear R7
          go_wp2_with fail
          refine (newr_any Ab kc cb (tot.take kc) w7 _ (by omega) (HE7.out.take (by omega))).mono ?_
          rintro e w9 ⟨g9, F9, rfl, R9, b9⟩
          have B9 := Lib.hid (B7.out.trans (b9.mono B7.out.size))
          have R9' := Lib.hid (R9.weaken B7.out.size)
          have hcut := HCA.out (tot.take kc) (List.take_prefix _ _) (by rw [List.length_take]; omega)
          have htk : (tot.take kc).length ≤ 30000 := by rw [List.length_take]; omega
          have HCut := Lib.hid hcut
          clear R9 b9 hcut hkv hq4 HCA HE7 B7
          generalize tot.take kc = cs at *
          go_wp2
          go_loopg [57] k (fun gk i wr => ∃ (j : Nat) (F : List Nat), j ≤ k ∧ gk = k - j ∧ i = .int .i64 j ∧ Rd wr w.heap.size F (some ⟨g9, 0, none⟩) ((⟨cs, false⟩ : RD).all (os.take j)) ∧ Below w.heap.size w wr)
          case atStart => exact ⟨0, F9, by omega, by omega, rfl, R9'.out, B9.out⟩
          case round =>
            obtain ⟨j, Fj, hj, rfl, rfl, hr, hbl⟩ := hrel
            clear R9' B9
            by_cases hlt : j < k
            · obtain ⟨ad, o, rfl, hox, hc⟩ := (show VCells wr w.heap.size A0 k os from Reads.since HV.out.1 hbl).get hlt
              have hu := Try.underlying46
              have hi : (Try.prog.info? 46).map (·.size) = some o.cs.length := val_size
              have K1 := Blk.new wr 46 o.cs.toArray
              have b5 := below_alloc wr (.cells o.cs.toArray 46)
              have hle := all_le ⟨cs, false⟩ (os.take j)
              have hsn : (⟨cs, false⟩ : RD).all (os.take (j + 1)) = ((⟨cs, false⟩ : RD).all (os.take j)).to o.kind := by rw [take_snoc_any hox, RD.all_snoc]
              have Hsn := Lib.hid hsn
              generalize (⟨cs, false⟩ : RD).all (os.take j) = s at *
              have hsl : s.bs.length ≤ 30000 := Nat.le_trans hle htk
              have HR := Lib.hid (hr.below b5)
              have HB := Lib.hid (hbl.trans (b5.mono hbl.size))
              have hq0 := (val_cells (K1.alloc (.cells #[.slice none 0 0, .bool false] 30))).1
              have HK := Lib.hid K1
              clear hr hbl hox b5 hle hsn K1
              go_wp2_with (first
                | (refine wpList_load_at rfl 46 (.tmp 59) rfl _ rfl o.cs _ hc hu rfl hi ?_)
                | (refine wpList_store_newN rfl 46 (.tmp 12) (.tmp 60) rfl wr.heap.size rfl o.cs _ rfl rfl hi rfl o.one ?_))
              have hsz5 : (wr.alloc (.cells o.cs.toArray 46)).heap.size = wr.heap.size + 1 := by simp
              generalize wr.alloc (.cells o.cs.toArray 46) = w5' at *
              have T5 : Both (w5'.alloc (.cells #[.slice none 0 0, .bool false] 30)) w.heap.size Fj (some ⟨g9, 0, none⟩) s (wr.heap.size + 1) ⟨[], false⟩ := by
                rw [← hsz5]
                exact ⟨HR.out.below (below_alloc _ _), ⟨none, 0, Blk.new _ _ _, ⟨Reads.none_, fun b hb => by cases hb⟩, Nat.le_refl _, by simp [maxLen], HB.out.size, ⟨fun e => (by cases e), fun b hb => (by cases hb)⟩⟩, fun hm => by have := HR.out.under _ hm; omega⟩
              have B5' := HB.out.alloc HB.out.size (.cells #[.slice none 0 0, .bool false] 30)
              refine (read_any _ w.heap.size Fj _ s (wr.heap.size + 1) ⟨[], false⟩ o.kind T5 B5'.size (by omega) (by simp)).mono ?_
              rintro e w7' ⟨rb, rfl, -, t7⟩
              obtain ⟨F7', t7, b7⟩ := BTo.go T5 B5' B5'.size t7
              have HE := Lib.hid (And.intro t7.rd b7)
              clear t7 b7 T5 B5' HR HB HK hq0
              go_wp2
              go_roundg (k - (j + 1))
              case measure => omega
              case rel => exact ⟨j + 1, F7', by omega, rfl, by go_num, by rw [Hsn.out]; exact HE.out.1, HE.out.2⟩
            · obtain rfl : j = k := by omega
              rw [List.take_of_length_le (by have := Hol.out; omega)] at hr
              have hE := HCut.out
              have HB := Lib.hid hbl
              clear hbl HCut
              go_wp2_with fail
              refine (rend_any wr w.heap.size Fj _ _ hr).mono ?_
              rintro e w10 ⟨rfl, rfl⟩
              have hE2 : (((⟨cs, false⟩ : RD).all os).bad || decide (0 < ((⟨cs, false⟩ : RD).all os).bs.length)) = true := by
                rcases hE with h | h
                · rw [h]; rfl
                · rw [decide_eq_true h, Bool.or_true]
              rw [hE2, if_pos rfl]
              clear hE hE2 hr
              simp only [errV]
              go_wp2
              go_ret
              exact ⟨rfl, HB.out⟩
end Go.Proofs.Ytgdkpmgfholnkaa
