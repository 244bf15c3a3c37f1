/-
  The laws' fixed example of layer 4 stands. Conditions: the package's table holds its sixteen numbers.
-/
import Derived.Test.YtgdkpmgfholnkaaDoorBoxIs
namespace Go.Proofs.YtgdkpmgfholnkaaDoor
open Go.RowKit
set_option linter.unusedSimpArgs false
set_option linter.unusedVariables false
def hi : List Nat := [104, 105]
theorem hi_len : hi.length ≤ 106 := by decide
theorem hi_lt : ∀ b ∈ hi, b < 256 := by decide
def hiSec : Sec := sealSec 1 2 3 hi hi_len hi_lt
theorem hi_box : isBoxB 1 2 3 = true := by decide
theorem hi_at (j v : Nat) (hj : 4 ≤ j) (h : (bodyOf 1 2 3 hi)[j - 4]? = some v) : hiSec.cs.toArray[j]? = some (.int .u8 v) := by
  refine u8s_at ?_
  show (sealL 1 2 3 hi)[j]? = _
  unfold sealL
  rw [List.getElem?_append_right (by rw [le_len]; exact hj), le_len]
  exact h
theorem hi_4 : hiSec.cs.toArray[4]? = some (.int .u8 1) := hi_at 4 1 (by omega) (by kernel_rfl)
theorem hi_5 : hiSec.cs.toArray[5]? = some (.int .u8 2) := hi_at 5 2 (by omega) (by kernel_rfl)
theorem hi_13 : hiSec.cs.toArray[13]? = some (.int .u8 3) := hi_at 13 3 (by omega) (by kernel_rfl)
theorem hi_21 : hiSec.cs.toArray[21]? = some (.int .u8 2) := hi_at 21 2 (by omega) (by kernel_rfl)
theorem hi_22 : hiSec.cs.toArray[22]? = some (.int .u8 104) := hi_at 22 104 (by omega) (by kernel_rfl)
theorem hi_told : tD hiSec.l = hi ∧ isOf hiSec.l 1 2 3 = true := by
  obtain ⟨h1, h2, h3, h4, h5⟩ := told_seal 1 2 3 hi hi_box hi_len
  have h6 := isSealed_seal 1 2 3 hi hi_box hi_len
  refine ⟨h5, ?_⟩
  show (isSealed (sealL 1 2 3 hi) && decide (tK (sealL 1 2 3 hi) = 1 ∧ tG (sealL 1 2 3 hi) = 2 ∧ tN (sealL 1 2 3 hi) = 3)) = true
  rw [h6, h1, h2, h3]
  rfl
theorem zero_not : isSealed Sec.zero.l = false := by
  have : tK Sec.zero.l = 0 := by kernel_rfl
  unfold isSealed isBoxB
  rw [this]
  rfl
theorem hi_str : strOf hi = ⟨#[104, 105]⟩ := by kernel_rfl
set_option maxRecDepth 100000 in
set_option maxHeartbeats 2000000 in
theorem balive_any (w : World) (hT : Tab w) : Calls Tryd.prog 15 #[] w fun e w' => e = .returned (.bool true) ∧ Below w.heap.size w w' := by
  have HT := Lib.hid hT
  clear hT
  have kc := fun (w : World) (C : Array Value) (n c : Nat) => Lib.run_convert_bytes_const (P := Tryd.prog) w 22 5 C n c Tryd.underlying22 Tryd.underlying5
  have hbz := box_zero
  obtain ⟨Zs, hZ, hZs⟩ : ∃ Zs : List Value, (∀ w, (zeroValue 33).run Tryd.prog w = .ok (.agg Zs.toArray) w) ∧ Zs = Sec.zero.cs := ⟨Sec.zero.cs, sec_zero, rfl⟩
  have hbd : ∀ w, (Instr.build 33 #[]).run Tryd.prog w = .ok (.agg Zs.toArray) w := fun w => by rw [sec_build w, ← hZ w]; exact (sec_zero w).symm
  have HZL : Hid (Zs.toArray.size = hiSec.cs.length) := Lib.hid (by rw [List.size_toArray, hZs, Sec.cs_len, Sec.cs_len])
  have HZs := Lib.hid hZs
  clear hZs
  go_enter Tryd.func15, Tryd.ntmps15
  go_wp2_with fail
  clear kc
  refine (seal_good 1 2 3 (some ⟨w.heap.size, 0, none⟩) 2 hi (w.heap.size + 1) _ hi_box (Bytes.new w hi 5 (2, 3) hi_lt) hi_len hi_lt (HT.out.alloc _)).mono ?_
  rintro e w2 ⟨rfl, b2⟩
  rw [show sealSec 1 2 3 hi hi_len hi_lt = hiSec from rfl]
  have B2 : Below w.heap.size w w2 := (below_alloc w _).trans (b2.mono (by simp))
  have K3 := Blk.new w2 33 hiSec.cs.toArray
  have c4 : (w2.alloc (.cells hiSec.cs.toArray 33)).cell? ⟨w2.heap.size, 4, none⟩ = some (.int .u8 1) := by rw [K3.cell]; exact hi_4
  have c5 : (w2.alloc (.cells hiSec.cs.toArray 33)).cell? ⟨w2.heap.size, 5, none⟩ = some (.int .u8 2) := by rw [K3.cell]; exact hi_5
  have c13 : (w2.alloc (.cells hiSec.cs.toArray 33)).cell? ⟨w2.heap.size, 13, none⟩ = some (.int .u8 3) := by rw [K3.cell]; exact hi_13
  have c21 : (w2.alloc (.cells hiSec.cs.toArray 33)).cell? ⟨w2.heap.size, 21, none⟩ = some (.int .u8 2) := by rw [K3.cell]; exact hi_21
  have c22 : (w2.alloc (.cells hiSec.cs.toArray 33)).cell? ⟨w2.heap.size, 22, none⟩ = some (.int .u8 104) := by rw [K3.cell]; exact hi_22
  have hisec := hiSec.info
  have honez := hiSec.one
  have hs := hi_told
  have HS := Lib.hid hs
  have HT3 := Lib.hid ((HT.out.below B2).alloc (.cells hiSec.cs.toArray 33))
  have HB3 := Lib.hid (And.intro (B2.alloc B2.size (.cells hiSec.cs.toArray 33)) K3)
  simp only [Sec.v]
  clear b2 B2 K3 hs
  generalize hiSec = S at *
  go_wp2_with (refine wpList_store_newN rfl 33 (.tmp 1) (.tmp 12) rfl w2.heap.size rfl S.cs _ rfl rfl hisec HZL.out honez ?_)
  clear c4 c5 c13 c21 c22
  generalize w2.alloc (.cells S.cs.toArray 33) = w3 at *
  have hz0 : isSealed Sec.zero.l = false := zero_not
  rw [HZs.out]
  refine (open_bad Sec.zero w3 HT3.out hz0).mono ?_
  rintro e w4 ⟨rfl, b4⟩
  simp only [errV, boxCs]
  have K5 := ((HB3.out.2.below b4 HB3.out.2.lt).alloc (.cells #[.int .i64 0, .int .i64 0, .int .i64 0, .slice none 0 0] 38))
  have B5 := (HB3.out.1.trans (b4.mono HB3.out.1.size))
  have B5' := B5.alloc B5.size (.cells #[.int .i64 0, .int .i64 0, .int .i64 0, .slice none 0 0] 38)
  have HT5 := Lib.hid (HT.out.below B5')
  have HB5 := Lib.hid B5'
  have hr5 : World.rangeAt (w4.alloc (.cells #[.int .i64 0, .int .i64 0, .int .i64 0, .slice none 0 0] 38)) w2.heap.size 0 S.cs := K5.range
  have husec := Tryd.underlying33
  have hib : (Tryd.prog.info? 38).map (·.size) = some [Value.int .i64 0, .int .i64 0, .int .i64 0, .slice none 0 0].length := box_size
  have hone0 := boxCs_one 0 0 0 none 0 0
  clear b4 K5 B5 B5' HB3 HT3 hz0
  go_wp2_with (first
    | (refine wpList_store_newN rfl 38 (.tmp 3) (.tmp 44) rfl w4.heap.size rfl [Value.int .i64 0, .int .i64 0, .int .i64 0, .slice none 0 0] _ rfl rfl hib rfl hone0 ?_)
    | (refine wpList_load_mid rfl 33 (.tmp 1) rfl w2.heap.size 0 rfl S.cs _ hr5 husec rfl hisec ?_))
  generalize w4.alloc (.cells #[.int .i64 0, .int .i64 0, .int .i64 0, .slice none 0 0] 38) = w5 at *
  refine (is_yes S 1 2 3 w5 HT5.out HS.out.2).mono ?_
  rintro e w6 ⟨A, c, rfl, ho, b6⟩
  rw [HS.out.1] at ho ⊢
  have hby := ho.bytes hi_lt
  have hcv := str_of (P := Tryd.prog) hby c 22 9 5 Tryd.underlying22 Tryd.underlying5 Tryd.underlying9
  rw [hi_str] at hcv
  have HB6 := Lib.hid (HB5.out.trans (b6.mono HB5.out.size))
  clear ho b6 hr5 hby
  go_wp2_with fail
  refine (is_any 11 11 w6).mono ?_
  rintro e w7 ⟨he, hw⟩
  subst he
  subst hw
  go_wp2
  go_ret
  exact ⟨by simp, HB6.out⟩
end Go.Proofs.YtgdkpmgfholnkaaDoor
