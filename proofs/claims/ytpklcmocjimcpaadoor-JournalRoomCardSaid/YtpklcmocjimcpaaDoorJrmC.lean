/-
  The law JournalRoom, walked: it returns true and changes nothing that was there. Condition: the package's table holds its sixteen numbers.
-/
import Derived.Test.YtpklcmocjimcpaaDoorZj
import Derived.Deep.LoopGhost
namespace Go.Proofs.YtpklcmocjimcpaaDoor
open Go.RowKit
set_option maxRecDepth 100000
set_option linter.unusedSimpArgs false
set_option linter.unusedVariables false
theorem made_bytes (q : Nat) (hq : q ≤ 9000000) (w : World) : (Instr.makeSlice 34 (.int .i64 q) (.int .i64 q)).run Tryd.prog w = .ok (.slice (some ⟨w.heap.size, 0, none⟩) q q) (w.alloc (.cells (u8s (List.replicate q 0)).toArray 5)) := by
  obtain ⟨i0, hi0, hz0, hz1, hz2⟩ := info_parts byte_info
  have := run_make (P := Tryd.prog) w 34 5 i0 (.int .u8 0) Tryd.underlying34 hi0 hz0 .i64 .i64 q q (by omega) (by omega) (by rw [hz2]; omega) (by omega)
  rw [hz1] at this
  simp only [Int.toNat_natCast, Nat.mul_one] at this
  rw [this]
  have e : (Value.int .u8 0).cells = (List.replicate 1 (Value.int .u8 0)).toArray := rfl
  rw [e, made_same 1 q _ (by omega)]
  simp [u8s, u8]
theorem rneed_neg (n : Int) (w : World) (hn : n ≤ 0) : Calls Tryd.prog 24 #[.int .i64 n] w fun e w' => e = .returned (.int .i64 0) ∧ w = w' := by
  have hd : decide (n < 1) = true := by simp; omega
  go_enter Tryd.func24, Tryd.ntmps24
  go_wp2
  go_ret
  exact ⟨rfl, rfl⟩
def sizeAt (x : Int) : Nat := (x % 18446744073709551616 % 500).toNat
theorem sizeAt_lt (x : Int) : sizeAt x < 500 := by unfold sizeAt; omega
theorem sizeAt_eq (x : Int) : wrap64 ((IntKind.u64.wrap x).tmod 500) = (sizeAt x : Int) := by
  rw [IntKind.wrap_u64, Int.tmod_eq_emod_of_nonneg (by omega)]
  unfold wrap64 sizeAt
  omega
set_option maxRecDepth 100000 in
set_option maxHeartbeats 8000000 in
theorem jroom_walk (A0 : Option Addr) (n0 c0 : Nat) (l : List Int) (y : Int) {w : World} (hS : Ints w w.heap.size A0 n0 l) (m0 : n0 ≤ 9223372036854775807) (my : -9223372036854775808 ≤ y) (oy : y ≤ 9223372036854775807) (hT : Tab w) :
    Calls Tryd.prog 4 #[.slice A0 n0 c0, .int .i64 y] w fun e w' => e = .returned (.bool true) ∧ Below w.heap.size w w' := by
  have hpos := hT.pos
  have HS := Lib.hid hS
  have HT := Lib.hid hT
  clear hS hT
  go_enter Tryd.func4, Tryd.ntmps4
  go_wp2_with fail
  refine (jalive_any w HT.out hpos).mono ?_
  rintro e w1 ⟨rfl, b1⟩
  have B1 := Lib.hid b1
  clear b1
  by_cases h40 : n0 ≤ 40
  · have hd40 : decide (40 < (n0 : Int)) = false := by simp; omega
    go_wp2_with fail
    refine (new_good w1 w.heap.size 60 (by omega) (by omega) B1.out.size).mono ?_
    intro e w2 hm
    obtain ⟨g, rfl, h2⟩ := Holds.made B1.out hm
    rw [idle_new] at h2
    have hs2 := h2.size
    have H2 := Lib.hid h2
    have T2 := Lib.hid (tab_below HT.out h2.since hpos)
    have hfit : pn [] ≤ areaOf 60 := by decide
    obtain ⟨f1, f2⟩ := idle_fmt 60 0 0 (fun _ => Sec.zero) [] (by omega) hfit
    have F1 := Lib.hid f1
    have F2 := Lib.hid f2
    have OK1 := Lib.hid (JOk.format (n := 60) (st := []) (by omega) (by omega) hfit (by decide) (by decide))
    clear hm h2 f1 f2
    go_wp2_with fail
    refine (format_good (n := 60) H2.out rfl (by omega) (by omega) none 0 [] ⟨Reads.none_, by simp⟩ (by decide) (by decide) (by omega) hfit T2.out hpos (fun k hk => by simp [blkOf] at hk) (idle_far (by decide) (by omega) (by decide)) (by rw [F1.out]) (by rw [F2.out])).mono ?_
    rintro e w3 ⟨gj, B, cc, rfl, h3, j3, o3, k3, hg3, hn3⟩
    rw [F2.out] at h3
    have J3 := Lib.hid (JAt.formatted hs2 (by simp) h3 j3 o3 hg3)
    have HB3 := Lib.hid h3.since
    clear h3 j3 o3 k3 hn3
    go_wp2_with fail
    go_loopg [9, 10, 11, 12, 13, 34] n0 (fun gk a b c d e i wr => ∃ (k : Nat) (f : Int → Sec) (s : Nat) (txs : List (List Nat)) (u : Nat), k ≤ n0 ∧ gk = n0 - k ∧ i = .int .i64 k ∧ s ≤ 1000 * k + 1000 ∧ txs.length ≤ k ∧ JAt w wr g gj (DM.idle 60 f s 0) 60 1 [] txs u [] ∧ JOk f 60 1 [] txs u)
    case atStart => exact ⟨0, _, _, [], 0, by omega, by omega, rfl, by simp [pn], by simp, J3.out, OK1.out⟩
    case round =>
      obtain ⟨k, f, s, txs, u, hk, rfl, rfl, hs, htx, hj, hok⟩ := hrel
      by_cases hlt : k < n0
      · obtain ⟨ad, x, rfl, hx, hc⟩ := Ints.at_ (show Ints wr w.heap.size A0 n0 l from HS.out.below hj.holds.since) hlt
        have hk0 : (k : Int) < (n0 : Int) := by omega
        have hms := sizeAt_lt x
        have hse := sizeAt_eq x
        have HJ := Lib.hid hj
        have HOK := Lib.hid hok
        generalize sizeAt x = m at *
        have hmk := made_bytes m (by omega)
        have hule := hok.ule
        clear hj hok hx
        go_wp2_with fail
        clear hse hmk
        have hba : Below wr.heap.size wr (wr.alloc (.cells (u8s (List.replicate m 0)).toArray 5)) := (Below.refl _ _).alloc (Nat.le_refl _) _
        have hsa : (wr.alloc (.cells (u8s (List.replicate m 0)).toArray 5)).heap.size = wr.heap.size + 1 := by simp
        have JA := Lib.hid (HJ.out.more (Y := [wr.heap.size]) hba (fun k hk => by simp at hk; subst hk; exact .inr (.inr ⟨Nat.le_refl _, by rw [hsa]; omega⟩)))
        have BY := Lib.hid (Bytes.new wr (List.replicate m 0) 5 (0, 0) (by intro b hb; have := (List.mem_replicate.1 hb).2; omega))
        rw [List.length_replicate] at BY
        have HBA := Lib.hid hba
        have HSA := Lib.hid hsa
        clear hba hsa
        generalize hwa : wr.alloc (.cells (u8s (List.replicate m 0)).toArray 5) = wa at *
        generalize hga : wr.heap.size = ga at *
        clear hwa hga
        have hlog : logOf 60 ≤ 20 := by decide
        refine (JA.out.room (by omega) hule).mono ?_
        rintro e wb ⟨rfl, bb⟩
        have JB := Lib.hid (JA.out.below bb)
        have BYB := Lib.hid ((BY.out.more (B' := wa.heap.size) (by rw [HSA.out]; omega)).below bb)
        have hsb := bb.size
        clear bb
        go_wp2_with fail
        refine (need_any m wb (by omega)).mono ?_
        rintro e w' ⟨rfl, rfl⟩
        by_cases hm0 : m = 0
        · subst hm0
          rw [show needOf 0 = 0 from rfl]
          go_wp2_with fail
          refine (JB.out.empty _ _).mono ?_
          rintro e w' ⟨rfl, rfl⟩
          go_wp2_with fail
          refine (is_any 2 2 wb).mono ?_
          rintro e w' ⟨rfl, rfl⟩
          go_wp2
          go_roundg (n0 - (k + 1))
          case measure => omega
          case rel => exact ⟨k + 1, f, s, txs, u, by omega, rfl, by go_num, by omega, by omega, JB.out.mono (by simp), HOK.out⟩
        · have hnd : needOf m = pnN m + 1 := by unfold needOf; rw [if_neg hm0]; rfl
          have hd0 : ((m : Int) == 0) = false := by simp; omega
          have hd0' : (m == 0) = false := by simp; omega
          have hpm : pnN m ≤ 5 := by unfold pnN; omega
          by_cases hfull : logOf 60 - u < pnN m + 1
          · have hd1 : decide (((logOf 60 - u : Nat) : Int) < (needOf m : Int)) = true := by simp; omega
            have hd1' : decide (logOf 60 - u < needOf m) = true := by simp; omega
            have HND := Lib.hid hnd
            clear hnd
            go_wp2_with fail
            refine (JB.out.full (by omega) hule _ m m (by omega) (by omega) hfull).mono ?_
            rintro e wc ⟨rfl, bc⟩
            have JC := Lib.hid (JB.out.below bc)
            clear bc
            go_wp2_with fail
            refine (is_any 4 4 wc).mono ?_
            rintro e w' ⟨rfl, rfl⟩
            go_wp2_with fail
            refine (JC.out.room (by omega) hule).mono ?_
            rintro e wd ⟨rfl, bd⟩
            have JD := Lib.hid (JC.out.below bd)
            clear bd
            go_wp2
            go_roundg (n0 - (k + 1))
            case measure => omega
            case rel => exact ⟨k + 1, f, s, txs, u, by omega, rfl, by go_num, by omega, by omega, JD.out.mono (by simp), HOK.out⟩
          · have hd1 : decide (((logOf 60 - u : Nat) : Int) < (needOf m : Int)) = false := by simp; omega
            have hd1' : decide (logOf 60 - u < needOf m) = false := by simp; omega
            have hpl : pn (List.replicate m 0) = pnN m := by unfold pn pnN; rw [List.length_replicate]
            have hfit : u + pn (List.replicate m 0) + 1 ≤ logOf 60 := by rw [hpl]; omega
            have hap := idle_app 60 s 0 1 u f (List.replicate m 0) (by omega) hfit
            have HAP := Lib.hid hap
            have OKN := Lib.hid (HOK.out.app (tx := List.replicate m 0) (by simp [hm0]) (by intro b hb; have := (List.mem_replicate.1 hb).2; omega) hfit)
            have hapc := JB.out.append (by omega) (by omega) hule (some ⟨ga, 0, none⟩) m (List.replicate m 0) (by rw [List.length_replicate]; exact BYB.out.more hsb) (by rw [List.length_replicate]; omega) (by rw [List.length_replicate]; omega) (by omega) (by simp [hm0]) (by omega) (tab_below HT.out JB.out.holds.since hpos) hpos (fun q hq => by simp [blkOf] at hq; simp [hq]) (idle_far (by rw [hpl]; omega) (by omega) (by rw [hpl]; omega)) (by rw [hap]) (by omega)
            rw [List.length_replicate, hap] at hapc
            have HAPC := Lib.hid hapc
            have HND := Lib.hid hnd
            have hwas : ((logOf 60 - u : Nat) : Int) - (needOf m : Int) = ((logOf 60 - (u + pn (List.replicate m 0) + 1) : Nat) : Int) := by rw [hpl, hnd]; omega
            have hub : u + pn (List.replicate m 0) + 1 ≤ logOf 60 := hfit
            have HWAS := Lib.hid hwas
            have HPL := Lib.hid hpl
            have hlo1 : logOf 60 - u ≤ 20 := by omega
            have hnb : needOf m ≤ 6 := by omega
            clear hap hapc hnd hwas hpl
            go_wp2_with fail
            refine HAPC.out.mono ?_
            rintro e wc ⟨rfl, jc, -, sc⟩
            have JC := Lib.hid jc
            clear jc
            go_wp2_with fail
            refine (JC.out.room (by omega) hub).mono ?_
            rintro e wd ⟨rfl, bd⟩
            have JD := Lib.hid (JC.out.below bd)
            clear bd
            have hw1 := HWAS.out
            go_wp2
            go_roundg (n0 - (k + 1))
            case measure => omega
            case rel => exact ⟨k + 1, _, s + pn (List.replicate m 0) + 3, txs ++ [List.replicate m 0], _, by omega, rfl, by go_num, by rw [HPL.out]; omega, by simp; omega, JD.out.mono (by simp), OKN.out⟩
      · obtain rfl : k = n0 := by omega
        have hb := hj.holds.since
        have HB := Lib.hid hb
        clear hj hok hb
        by_cases hy : 100000 < y
        · have hdy : decide (100000 < y) = true := by simpa using hy
          obtain ⟨q, rfl⟩ : ∃ q : Nat, y = (q : Int) := ⟨y.toNat, by omega⟩
          have hq : 900 < needOf q := by unfold needOf partsOf; rw [if_neg (by omega)]; omega
          have hdq : decide (900 < (needOf q : Int)) = true := by simp; omega
          have hdq' : decide (900 < needOf q) = true := by simpa using hq
          go_wp2_with fail
          refine (need_any q wr (by omega)).mono ?_
          rintro e w' ⟨rfl, rfl⟩
          go_wp2
          go_ret
          exact ⟨rfl, HB.out⟩
        · have hdy : decide (100000 < y) = false := by simp; omega
          by_cases hy0 : y ≤ 0
          · go_wp2_with fail
            refine (need_neg y wr hy0).mono ?_
            rintro e w' ⟨rfl, rfl⟩
            go_wp2_with fail
            refine (rneed_neg y wr hy0).mono ?_
            rintro e w' ⟨rfl, rfl⟩
            go_wp2
            go_ret
            exact ⟨rfl, HB.out⟩
          · obtain ⟨q, rfl⟩ : ∃ q : Nat, y = (q : Int) := ⟨y.toNat, by omega⟩
            go_wp2_with fail
            refine (need_any q wr (by omega)).mono ?_
            rintro e w' ⟨rfl, rfl⟩
            go_wp2_with fail
            refine (rneed_any q wr (by omega)).mono ?_
            rintro e w' ⟨rfl, rfl⟩
            go_wp2
            go_ret
            exact ⟨rfl, HB.out⟩
  · have hd40 : decide (40 < (n0 : Int)) = true := by simp; omega
    go_wp2
    go_ret
    exact ⟨rfl, B1.out⟩
theorem journalRoom_walk (A0 : Option Addr) (n0 c0 : Nat) (l : List Int) {w : World} (m0 : n0 ≤ c0 ∧ c0 ≤ 9223372036854775807) (hS : Ints w w.heap.size A0 n0 l) (y : Int) (my : -9223372036854775808 ≤ y) (oy : y ≤ 9223372036854775807) (hT : Tab w) :
    Calls Tryd.prog 4 #[.slice A0 n0 c0, .int .i64 y] w fun e w' => e = .returned (.bool true) ∧ Below w.heap.size w w' :=
  jroom_walk A0 n0 c0 l y hS (by omega) my oy hT
end Go.Proofs.YtpklcmocjimcpaaDoor
