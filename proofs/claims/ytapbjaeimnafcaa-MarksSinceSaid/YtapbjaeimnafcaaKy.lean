/-
  The law MarksSince, walked: it returns true and changes nothing that was there. No condition.
-/
import Derived.Test.YtapbjaeimnafcaaKo
import Derived.Test.YtapbjaeimnafcaaKi
import Derived.Test.YtapbjaeimnafcaaKe
namespace Go.Proofs.Ytapbjaeimnafcaa
open Go.RowKit
set_option linter.unusedSimpArgs false
set_option maxRecDepth 100000
set_option linter.unusedVariables false
theorem bool_info : (Try.prog.info? 4).map (fun i => (i.zero, i.size, i.bytes)) = some (some (.bool false), 1, 1) := by kernel_rfl
theorem make_flags (q : Nat) (hq : q ≤ 9000000) (w : World) : (Instr.makeSlice 49 (.int .i64 q) (.int .i64 q)).run Try.prog w = .ok (.slice (some ⟨w.heap.size, 0, none⟩) q q) (w.alloc (.cells ((List.replicate q false).map Value.bool).toArray 4)) := by
  obtain ⟨i0, hi0, hz0, hz1, hz2⟩ := info_parts bool_info
  have := run_make (P := Try.prog) w 49 4 i0 (.bool false) Try.underlying49 hi0 hz0 .i64 .i64 q q (by omega) (by omega) (by rw [hz2]; omega) (by omega)
  rw [hz1] at this
  simp only [Int.toNat_natCast, Nat.mul_one] at this
  rw [this, List.map_replicate]
  have e : (Value.bool false).cells = (List.replicate 1 (Value.bool false)).toArray := rfl
  rw [e, made_same 1 q _ (by omega)]
/-- those of the first k numbers that p picks -/
def pickTo (p : Nat → Bool) (k : Nat) : List Int := ((List.range k).filter p).map fun (i : Nat) => (i : Int)
theorem pickTo_succ (p : Nat → Bool) (k : Nat) : pickTo p (k + 1) = pickTo p k ++ (if p k then [(k : Int)] else []) := by
  unfold pickTo
  rw [List.range_succ, List.filter_append, List.map_append]
  by_cases h : p k = true
  · simp [h]
  · have : p k = false := by simpa using h
    simp [this]
theorem pickTo_len (p : Nat → Bool) : ∀ k, (pickTo p k).length ≤ k
  | 0 => by simp [pickTo]
  | k + 1 => by
    rw [pickTo_succ, List.length_append]
    have := pickTo_len p k
    split <;> simp <;> omega
theorem pickTo_congr {p q : Nat → Bool} {k : Nat} (h : ∀ i, i < k → p i = q i) : pickTo p k = pickTo q k := by
  unfold pickTo
  congr 1
  exact List.filter_congr fun i hi => h i (List.mem_range.1 hi)
/-- frozen marks of which some were set to There -/
def nowM (bs : List Nat) (W : List Bool) : List Nat := (List.range bs.length).map fun i => if fl W i then 1 else frz (mk bs i)
theorem nowM_len (bs : List Nat) (W : List Bool) : (nowM bs W).length = bs.length := by simp [nowM]
theorem nowM_at (bs : List Nat) (W : List Bool) (i : Nat) (h : i < bs.length) : mk (nowM bs W) i = if fl W i then 1 else frz (mk bs i) := mk_at (by simp [nowM, h])
theorem fl_none (n i : Nat) : fl (List.replicate n false) i = false := by
  unfold fl
  rw [List.getElem?_replicate]
  split <;> rfl
theorem nowM_zero (bs : List Nat) : nowM bs (List.replicate bs.length false) = frozenM bs := by
  apply List.ext_getElem?
  intro i
  by_cases hi : i < bs.length
  · rw [nowM, List.getElem?_map, List.getElem?_range hi, frozenM, List.getElem?_map, List.getElem?_eq_getElem hi]
    simp only [Option.map_some, fl_none]
    rw [mk_at (List.getElem?_eq_getElem hi)]
    simp
  · rw [List.getElem?_eq_none (by rw [nowM_len]; omega), List.getElem?_eq_none (by simp [frozenM]; omega)]
theorem fl_set (W : List Bool) (j i : Nat) (hj : j < W.length) : fl (W.set j true) i = if j = i then true else fl W i := by
  unfold fl
  by_cases e : j = i
  · subst e
    simp [hj]
  · simp [e]
theorem nowM_set (bs : List Nat) (W : List Bool) (j : Nat) (hj : j < bs.length) (hl : W.length = bs.length) : (nowM bs W).set j 1 = nowM bs (W.set j true) := by
  apply List.ext_getElem?
  intro i
  rw [List.getElem?_set, nowM_len]
  by_cases hi : i < bs.length
  · rw [nowM, nowM, List.getElem?_map, List.getElem?_map, List.getElem?_range hi, Option.map_some, Option.map_some, fl_set W j i (by omega)]
    by_cases e : j = i
    · subst e
      rw [if_pos rfl, if_pos hj]
      simp
    · rw [if_neg e, if_neg e]
  · rw [if_neg (by omega), List.getElem?_eq_none (by rw [nowM_len]; omega), List.getElem?_eq_none (by rw [nowM_len]; omega)]
theorem nowM_lt (bs : List Nat) (W : List Bool) (h : ∀ x ∈ bs, x < 256) : ∀ x ∈ nowM bs W, x < 256 := by
  intro x hx
  obtain ⟨i, _, rfl⟩ := List.mem_map.1 hx
  have := mk_lt h i
  unfold frz
  split
  · omega
  · split <;> omega
/-- just those that were set, and those that are Going, may have changed -/
theorem since_pick {bs : List Nat} {W : List Bool} (h3 : ∀ x ∈ bs, x ≤ 3) : changedTo (nowM bs W) bs bs.length = pickTo (fun i => fl W i || mk (nowM bs W) i == 2) bs.length := by
  refine pickTo_congr fun i hi => ?_
  rw [nowM_at bs W i hi]
  have hb := mk_le h3 i
  generalize mk bs i = b at *
  cases fl W i with
  | true => rfl
  | false =>
    match b, hb with
    | 0, _ => rfl
    | 1, _ => rfl
    | 2, _ => rfl
    | 3, _ => rfl
/-- memory while some are set -/
structure Snc (w : World) (gw n : Nat) (bs : List Nat) (wr : World) (v : Value) (W : List Bool) : Prop where
  now : ∃ g, v = .slice (some ⟨g, 0, none⟩) n n ∧ w.heap.size ≤ g ∧ Blk wr g 5 (u8s (nowM bs W)).toArray
  want : Blk wr gw 4 (W.map Value.bool).toArray
  len : W.length = n
  bel : Below w.heap.size w wr
  lo : w.heap.size ≤ gw
theorem OwnI.new0 (w : World) (base : Nat) (hb : base ≤ w.heap.size) : OwnI (w.alloc (.cells #[] 3)) base (.slice (some ⟨w.heap.size, 0, none⟩) 0 0) 0 [] := by
  have := World.ownsRow_made (base := base) (e := 3) (size := 1) w #[] 0 hb (by simp [maxLen]) (by simp)
  simpa [OwnI, i64s] using this
set_option maxHeartbeats 1000000 in
theorem marksSince_walk (A : Option Addr) (n c : Nat) (bs : List Nat) (m0 : n ≤ c ∧ c ≤ 9223372036854775807) {w : World} (hb : Bytes w w.heap.size A n bs) (A' : Option Addr) (n' c' : Nat) (ks : List Int) (m1 : n' ≤ c' ∧ c' ≤ 9223372036854775807) (hk : Ints w w.heap.size A' n' ks) :
    Calls Try.prog 8 #[.slice A n c, .slice A' n' c'] w fun e w' => e = .returned (.bool true) ∧ Below w.heap.size w w' := by
  have HB := Lib.hid hb
  have HK := Lib.hid hk
  have hl := hb.len
  clear hb hk
  go_enter Try.func8, Try.ntmps8
  go_wp2_with fail
  refine (alive_any w).mono ?_
  rintro e w1 ⟨rfl, b1⟩
  have B1 := Lib.hid b1
  clear b1
  by_cases hn : n ≤ 256
  case neg =>
    have hd : decide ((256 : Int) < (n : Int)) = true := decide_eq_true (by omega)
    go_wp2
    go_ret
    exact ⟨rfl, B1.out⟩
  have hd : decide ((256 : Int) < (n : Int)) = false := decide_eq_false (by omega)
  by_cases hn' : n' ≤ 100
  case neg =>
    have hd' : decide ((100 : Int) < (n' : Int)) = true := decide_eq_true (by omega)
    go_wp2
    go_ret
    exact ⟨rfl, B1.out⟩
  have hd' : decide ((100 : Int) < (n' : Int)) = false := decide_eq_false (by omega)
  have hdg := dgood_any A n c _ bs w1 (by omega) ((HB.out.since B1.out).more B1.out.size)
  by_cases hg : Good bs
  case neg =>
    rw [show decide (Good bs) = false from decide_eq_false hg] at hdg
    have HDG := Lib.hid hdg
    clear hdg hg
    go_wp2_with fail
    refine HDG.out.mono ?_
    rintro e w2 ⟨he, hw⟩
    subst he
    subst hw
    go_wp2
    go_ret
    exact ⟨rfl, B1.out⟩
  rw [show decide (Good bs) = true from decide_eq_true hg] at hdg
  have HDG := Lib.hid hdg
  have HG := Lib.hid hg
  clear hdg hg
  go_wp2_with fail
  refine HDG.out.mono ?_
  rintro e w2 ⟨he, hw⟩
  subst he
  subst hw
  obtain ⟨Z, hZ⟩ : ∃ Z : Array Value, Z = ((List.replicate n false).map Value.bool).toArray := ⟨_, rfl⟩
  have hmk := make_flags n (by omega)
  rw [← hZ] at hmk
  have HZ := Lib.hid hZ
  clear hZ
  go_wp2_with fail
  refine (frozen_any A n c bs w1 (by omega) ((HB.out.since B1.out).more B1.out.size)).mono ?_
  rintro e w2 ⟨rfl, k2, b2⟩
  have HS2 : Hid (Snc w w2.heap.size n bs (w2.alloc (.cells Z 4)) (.slice (some ⟨w1.heap.size, 0, none⟩) n n) (List.replicate n false)) := Lib.hid
    ⟨⟨w1.heap.size, rfl, B1.out.size, by rw [← hl, nowM_zero]; exact k2.alloc _⟩, by rw [HZ.out]; exact Blk.new _ _ _, by simp, (B1.out.trans (b2.mono B1.out.size)).alloc (Nat.le_trans B1.out.size b2.size) _, Nat.le_trans B1.out.size b2.size⟩
  clear k2 b2
  go_wp2
  generalize w2.alloc (.cells Z 4) = w3 at *
  generalize w2.heap.size = gw at *
  go_loopw [5, 35] (fun v i wr => ∃ (k : Nat) (W : List Bool), k ≤ n' ∧ i = .int .i64 k ∧ Snc w gw n bs wr v W) (fun _ i _ => n' - (intOf i).toNat)
  case atStart => exact ⟨0, _, by omega, rfl, HS2.out⟩
  case round =>
    obtain ⟨k, W, hkn, rfl, hs⟩ := hrel
    have HS := Lib.hid hs
    clear hs HS2
    by_cases hlt : k < n'
    · obtain ⟨ad, x, rfl, hx, hc⟩ := (show Ints wr w.heap.size A' n' ks from ⟨HK.out.1, (Reads.below HK.out HS.out.bel).2⟩).at_ hlt
      clear hx
      by_cases hx0 : x < 0
      · have hdx : decide (x < (0 : Int)) = true := decide_eq_true hx0
        go_wp2
        go_roundw
        case rel => exact ⟨k + 1, W, by omega, by go_num, HS.out⟩
        case measure => simp [intOf]; omega
      · have hdx : decide (x < (0 : Int)) = false := decide_eq_false hx0
        by_cases hxn : (n : Int) ≤ x
        · have hdx2 : decide ((n : Int) ≤ x) = true := decide_eq_true hxn
          go_wp2
          go_roundw
          case rel => exact ⟨k + 1, W, by omega, by go_num, HS.out⟩
          case measure => simp [intOf]; omega
        · obtain ⟨j, rfl⟩ : ∃ j : Nat, x = (j : Int) := ⟨x.toNat, by omega⟩
          have hdx2 : decide ((n : Int) ≤ (j : Int)) = false := decide_eq_false hxn
          have hjn : j < n := by omega
          obtain ⟨ab, b, rfl, hb, hb2, hcb⟩ := (HB.out.below HS.out.bel).at_ hjn
          clear hb
          by_cases hb0 : b = 0
          · subst hb0
            go_wp2
            go_roundw
            case rel => exact ⟨k + 1, W, by omega, by go_num, HS.out⟩
            case measure => simp [intOf]; omega
          · have hdb : ((b : Int) == 0) = false := by simp; omega
            obtain ⟨g, rfl, hglo, hgb⟩ := HS.out.now
            have hnl := nowM_len bs W
            have hset := set_ok (some ⟨g, 0, none⟩) n n j 1 (nowM bs W) wr (by omega) (hgb.bytes (by rw [hnl, hl]) (nowM_lt bs W HB.out.2)) hjn (by omega)
            have HST := Lib.hid hset
            clear hset
            go_wp2_with fail
            refine HST.out.mono ?_
            rintro e w4 ⟨rfl, k4, b4⟩
            rw [nowM_set bs W j (by omega) (by rw [HS.out.len, hl])] at k4
            have kw := HS.out.want.below b4 HS.out.want.lt
            have hcw : w4.cell? ⟨gw, j, none⟩ = some (.bool (W[j]'(by rw [HS.out.len]; exact hjn))) := by
              rw [kw.cell]
              simp [show j < W.length by rw [HS.out.len]; exact hjn]
            have hfw := kw.frozen j
            have hne : wr.heap.size ≠ gw := by have := HS.out.want.lt; omega
            have HN : Hid (Snc w gw n bs (w4.setCell ⟨gw, j, none⟩ (.bool true)) (.slice (some ⟨wr.heap.size, 0, none⟩) n n) (W.set j true)) := Lib.hid
              ⟨⟨wr.heap.size, rfl, HS.out.bel.size, k4.far (p := ⟨gw, j, none⟩) hne _⟩, by
                have := kw.set_ j (.bool true)
                rwa [List.setIfInBounds_toArray, ← List.map_set] at this, by rw [List.length_set]; exact HS.out.len, (HS.out.bel.trans (b4.mono HS.out.bel.size)).setCell (p := ⟨gw, j, none⟩) HS.out.lo _, HS.out.lo⟩
            generalize W[j]'(by rw [HS.out.len]; exact hjn) = ob at *
            clear k4 kw b4 hnl hgb
            go_wp2
            go_roundw
            case rel => exact ⟨k + 1, W.set j true, by omega, by go_num, HN.out⟩
            case measure => simp [intOf]; omega
    · obtain rfl : k = n' := by omega
      obtain ⟨g, rfl, hglo, hgb⟩ := HS.out.now
      have hne2 : ((n : Int) != (n : Int)) = false := by simp
      have HGB := Lib.hid hgb
      clear hgb
      rename World => w0
      have HO0 : Hid (OwnI (w0.alloc (.cells #[] 3)) w0.heap.size (.slice (some ⟨w0.heap.size, 0, none⟩) 0 0) (pickTo (fun i => fl W i || mk (nowM bs W) i == 2) 0).length (pickTo (fun i => fl W i || mk (nowM bs W) i == 2) 0) ∧ Below w0.heap.size w0 (w0.alloc (.cells #[] 3))) := Lib.hid ⟨OwnI.new0 w0 _ (Nat.le_refl _), below_alloc _ _⟩
      go_wp2
      generalize w0.alloc (.cells #[] 3) = w5 at *
      obtain ⟨p, hp⟩ : ∃ p : Nat → Bool, p = fun i => fl W i || mk (nowM bs W) i == 2 := ⟨_, rfl⟩
      rw [← hp] at HO0
      have HPd := Lib.hid hp
      clear hp
      go_loopw [11, 75] (fun v i wq => ∃ k : Nat, k ≤ n ∧ i = .int .i64 k ∧ OwnI wq w0.heap.size v (pickTo p k).length (pickTo p k) ∧ Below w0.heap.size w0 wq) (fun _ i _ => n - (intOf i).toNat)
      case atStart => exact ⟨0, by omega, rfl, HO0.out.1, HO0.out.2⟩
      case round =>
        obtain ⟨k, hkn2, rfl, ho, hbl⟩ := hrel
        have HO := Lib.hid (And.intro ho hbl)
        clear ho hbl HO0
        have HPS := Lib.hid (pickTo_succ p k)
        have HLp := Lib.hid (pickTo_len p k)
        by_cases hlt2 : k < n
        · have hkw : k < W.length := by rw [HS.out.len]; exact hlt2
          have hcw : wr.cell? ⟨gw, k, none⟩ = some (.bool (fl W k)) := by
            rw [(HS.out.want.below HO.out.2 HS.out.want.lt).cell, fl_at (List.getElem?_eq_getElem hkw)]
            simp [hkw]
          have hcg : wr.cell? ⟨g, k, none⟩ = some (.int .u8 ((mk (nowM bs W) k : Nat) : Int)) := by
            have hkl : k < (nowM bs W).length := by rw [nowM_len, hl]; exact hlt2
            rw [mk_at (List.getElem?_eq_getElem hkl)]
            exact (HGB.out.below HO.out.2 HGB.out.lt).cell8 (List.getElem?_eq_getElem hkl)
          by_cases hf : fl W k = true
          · rw [hf] at hcw
            have HCK : Hid (p k = true) := Lib.hid (by rw [HPd.out]; simp only [hf, Bool.true_or])
            have hcw := fun t f => And.intro (World.ownsRow.alloc HO.out.1 (.cells #[.int .i64 (k : Int)] t f)) (HO.out.2.alloc HO.out.2.size (.cells #[.int .i64 (k : Int)] t f))
            have HW := Lib.hid hcw
            clear hcw
            go_wp2_with (refine app_ints (.tmp 89) (.tmp 91) rfl rfl w0.heap.size _ _ _ rfl (HW.out _ _).1 _ _ 1 1 [(k : Int)] rfl (Reads.new wr [.int .i64 (k : Int)] _ _) (by have := HLp.out; omega) (HW.out _ _).2.size ?_
                         intro v5 w5 h5 g5 a5
                         have HV := Lib.hid (And.intro h5 ((HW.out _ _).2.grown g5 (HW.out _ _).2.size (fun b hb => by have := (World.ownsRow.lt HO.out.1 b hb).1; omega)))
                         clear h5 g5 a5)
            go_roundw
            case rel =>
              refine ⟨k + 1, by omega, by go_num, ?_, HV.out.2⟩
              rw [HPS.out, if_pos HCK.out, List.length_append]
              exact HV.out.1
            case measure => simp [intOf]; omega
          · have hf' : fl W k = false := by simpa using hf
            rw [hf'] at hcw
            by_cases h2 : mk (nowM bs W) k = 2
            · rw [h2] at hcg
              have HCK : Hid (p k = true) := Lib.hid (by rw [HPd.out]; simp only [hf', h2]; rfl)
              have hcw := fun t f => And.intro (World.ownsRow.alloc HO.out.1 (.cells #[.int .i64 (k : Int)] t f)) (HO.out.2.alloc HO.out.2.size (.cells #[.int .i64 (k : Int)] t f))
              have HW := Lib.hid hcw
              clear hcw
              go_wp2_with (refine app_ints (.tmp 89) (.tmp 91) rfl rfl w0.heap.size _ _ _ rfl (HW.out _ _).1 _ _ 1 1 [(k : Int)] rfl (Reads.new wr [.int .i64 (k : Int)] _ _) (by have := HLp.out; omega) (HW.out _ _).2.size ?_
                           intro v5 w5 h5 g5 a5
                           have HV := Lib.hid (And.intro h5 ((HW.out _ _).2.grown g5 (HW.out _ _).2.size (fun b hb => by have := (World.ownsRow.lt HO.out.1 b hb).1; omega)))
                           clear h5 g5 a5)
              go_roundw
              case rel =>
                refine ⟨k + 1, by omega, by go_num, ?_, HV.out.2⟩
                rw [HPS.out, if_pos HCK.out, List.length_append]
                exact HV.out.1
              case measure => simp [intOf]; omega
            · have hd2 : (((mk (nowM bs W) k : Nat) : Int) == 2) = false := by simp; omega
              have HCK : Hid (p k = false) := Lib.hid (by rw [HPd.out]; simp only [hf', Bool.false_or]; simpa using h2)
              go_wp2
              go_roundw
              case rel =>
                refine ⟨k + 1, by omega, by go_num, ?_, HO.out.2⟩
                rw [HPS.out, if_neg (by rw [HCK.out]; simp), List.append_nil]
                exact HO.out.1
              case measure => simp [intOf]; omega
        · obtain rfl : k = n := by omega
          have hpe : pickTo p k = changedTo (nowM bs W) bs (max k k) := by rw [Nat.max_self, ← hl, since_pick HG.out.2, HPd.out]
          have HPE := Lib.hid hpe
          have hbn : Bytes wr wr.heap.size (some ⟨g, 0, none⟩) k (nowM bs W) := (HGB.out.below HO.out.2 HGB.out.lt).bytes (by rw [nowM_len, hl]) (nowM_lt bs W HB.out.2)
          have BQ : Below w.heap.size w wr := HS.out.bel.trans (HO.out.2.mono HS.out.bel.size)
          have HCh := Lib.hid (changed_any (some ⟨g, 0, none⟩) A k k k c (nowM bs W) bs wr (by omega) (by omega) hbn ((HB.out.since BQ).more BQ.size))
          have HBQ := Lib.hid BQ
          have hpl := pickTo_len p k
          have HP1 := Lib.hid HO.out.1
          obtain ⟨AL, cL, rfl, -⟩ := HO.out.1.form
          clear hpe hbn BQ HPS HLp
          go_wp2_with fail
          refine HCh.out.mono ?_
          rintro e w6 ⟨v6, rfl, ho6, b6⟩
          obtain ⟨A6, c6, rfl, -⟩ := ho6.form
          rw [← HPE.out] at ho6 ⊢
          have HIN := Lib.hid (ints_any A6 AL _ _ c6 cL _ _ _ _ w6 ho6.ints (OwnI.ints (show OwnI w6 w0.heap.size (.slice AL (pickTo p k).length cL) (pickTo p k).length (pickTo p k) from row_of HP1.out fun q hq => b6.block q (row_under HP1.out q hq))) (by omega) (by omega))
          have HB6 := Lib.hid (HBQ.out.trans (b6.mono HBQ.out.size))
          clear ho6 b6 HCh
          go_wp2_with fail
          refine HIN.out.mono ?_
          rintro e w7 ⟨b, rfl, hbt, b7⟩
          have hbt2 : b = true := hbt (by trivial)
          subst hbt2
          have HB7 := Lib.hid (HB6.out.trans (b7.mono HB6.out.size))
          clear b7 hbt
          go_wp2
          go_ret
          exact ⟨rfl, HB7.out⟩
end Go.Proofs.Ytapbjaeimnafcaa
