/-
  The law BoxTurns, walked: it returns true and changes nothing that was there. Conditions: the data read as bytes; the package's table holds its sixteen numbers.
-/
import Derived.Test.YtgdkpmgfholnkaaDoorBoxApW
namespace Go.Proofs.YtgdkpmgfholnkaaDoor
open Go.RowKit
set_option linter.unusedSimpArgs false
set_option linter.unusedVariables false
theorem u8_turn (a b : Nat) (ha : a < 256) (hb : b < 256) : bits .xor .u8 (a : Int) (b : Int) = ((a ^^^ b : Nat) : Int) ∧ a ^^^ b < 256 :=
  ⟨u8_xor_nat a b ha hb, Nat.xor_lt_two_pow (n := 8) ha hb⟩
theorem turn_at (x : Int) : ∃ i : Nat, i < 128 ∧ IntKind.u64.wrap x % 128 = (i : Int) ∧ x % 128 = (i : Int) ∧ wrap64 ((IntKind.u64.wrap x).tmod 128) = (i : Int) := by
  rw [IntKind.wrap_u64]
  refine ⟨(x % 128).toNat, by omega, by omega, by omega, ?_⟩
  rw [Int.tmod_eq_emod_of_nonneg (by omega)]
  unfold wrap64
  omega
def turnSec (s : Sec) (i c : Nat) (hc : s.l.getD i 0 ^^^ c < 256) : Sec := ⟨s.l.set i (s.l.getD i 0 ^^^ c), by simp [s.len], fun b hb => by
  rcases List.mem_or_eq_of_mem_set hb with h | h
  · exact s.lt b h
  · rw [h]; exact hc⟩
theorem wpListG_sec_eq {ops : Array Oper} {rest : List Oper} {op : Oper} {a : Act} {w : World} {Q : Exit → Act → World → Prop} (hw : Region.wanted op (yielded ops a.tmps) = true) (x y : Operand) (ho : op.op = .binOp .eql 33 x y 33)
    (s t : Sec) (hx : a.eval x = .agg s.cs.toArray) (hy : a.eval y = .agg t.cs.toArray) (r : Bool) (hr : secEq s t = r)
    (h : wpList Tryd.prog ops Q rest (a.put op.dst (.bool r)) w) : wpList Tryd.prog ops Q (op :: rest) a w :=
  wpList_wanted hw fun _ hK => by
    refine wp_ran (v := .bool r) (w' := w) ?_ (hK _ _ h)
    have := run_sec_eq s t w
    rw [hr] at this
    simp [execOp, ho, hx, hy, this, run_sec_guard, Result.andThen]
set_option maxRecDepth 100000 in
set_option maxHeartbeats 4000000 in
theorem boxTurns_walk (x : BoxV) {w : World} (hx : x.At w) (y : Int) (my : -9223372036854775808 ≤ y) (oy : y ≤ 9223372036854775807) (z : Nat) (hz : z < 256) (hT : Tab w) :
    Calls Tryd.prog 6 #[.agg x.cs.toArray, .int .i64 y, .int .u8 z] w fun e w' => e = .returned (.bool true) ∧ Below w.heap.size w w' := by
  obtain ⟨k, g, n, A, c, d⟩ := x
  simp only [BoxV.cs, BoxV.At] at hx ⊢
  obtain ⟨Zs, hZ, hZs⟩ : ∃ Zs : List Value, (∀ w, (zeroValue 33).run Tryd.prog w = .ok (.agg Zs.toArray) w) ∧ Zs = Sec.zero.cs := ⟨Sec.zero.cs, sec_zero, rfl⟩
  have hbd : ∀ w, (Instr.build 33 #[]).run Tryd.prog w = .ok (.agg Zs.toArray) w := fun w => by rw [sec_build w, ← hZ w]; exact (sec_zero w).symm
  have HZL : Hid (Zs.toArray.size = 128) := Lib.hid (by rw [List.size_toArray, hZs, Sec.cs_len])
  have HZs := Lib.hid hZs
  clear hZs
  have hbz := box_zero
  have HX := Lib.hid hx.1
  have HT := Lib.hid hT
  have mx := hx.2
  have K0 := Blk.new w 31 #[.int .i64 k, .int .i64 g, .int .i64 n, .slice A d.length c]
  have HK := Lib.hid (And.intro K0 (below_alloc w (.cells #[.int .i64 k, .int .i64 g, .int .i64 n, .slice A d.length c] 31)))
  clear K0 hx hT
  go_enter Tryd.func6, Tryd.ntmps6
  go_wp2_with fail
  generalize w.alloc (.cells #[.int .i64 k, .int .i64 g, .int .i64 n, .slice A d.length c] 31) = w1 at *
  refine (balive_any w1 (HT.out.below HK.out.2)).mono ?_
  rintro e w2 ⟨rfl, b2⟩
  have K0 := HK.out.1.below b2 HK.out.1.lt
  have B2 := HK.out.2.trans (b2.mono HK.out.2.size)
  have cA := (lbox_cells K0)
  have a0 := cA.1
  have a1 := cA.2.1
  have a2 := cA.2.2.1
  have a3 := cA.2.2.2
  have HK2 := Lib.hid (And.intro K0 B2)
  clear HK K0 B2 b2 cA
  go_wp2_with fail
  refine (seal_any k g n A c d _ w2 (HX.out.since HK2.out.2) (HT.out.below HK2.out.2)).mono ?_
  rintro e w3 ⟨rfl, b3⟩
  have HXl := Lib.hid (fun (hb : isBoxB k g n = true) (hl : d.length ≤ 106) => sealRes_l hb hl HX.out.2)
  have HXb := Lib.hid (fun (h : sealErr k g n d.length ≠ 0) => sealRes_bad (d := d) h)
  generalize sealRes k g n d = X at *
  have hs3 : w.heap.size < w3.heap.size := Nat.lt_of_lt_of_le HK2.out.1.lt b3.size
  have B3 := HK2.out.2.trans (b3.mono HK2.out.2.size)
  have HK03 := Lib.hid (And.intro (HK2.out.1.below b3 HK2.out.1.lt) B3)
  have K0 := (HK2.out.1.below b3 HK2.out.1.lt).alloc (.cells X.cs.toArray 33)
  have KX := Blk.new w3 33 X.cs.toArray
  have hisx := X.info
  have honx := X.one
  have hzx : Zs.toArray.size = X.cs.length := by rw [HZL.out, Sec.cs_len]
  have HZX := Lib.hid hzx
  have husec := Tryd.underlying33
  have hrx : World.rangeAt (w3.alloc (.cells X.cs.toArray 33)) w3.heap.size 0 X.cs := KX.range
  have HK3 := Lib.hid (And.intro K0 (And.intro KX (B3.alloc B3.size (.cells X.cs.toArray 33))))
  clear a0 a1 a2 a3 b3 B3 K0 KX HK2 hzx
  simp only [Sec.v]
  generalize hea : sealErr k g n d.length = ea at *
  have HEA := Lib.hid hea
  clear hea
  cases ea with
  | succ ea =>
    have hX0 : X = Sec.zero := HXb.out (by omega)
    rw [show errV (ea + 1) = .iface 55 (.int .i64 ((ea + 1 : Nat) : Int)) from rfl]
    have hsq : secEq X X = true := secEq_same X
    have hZX : Zs = X.cs := by rw [hX0]; exact HZs.out
    have hqz : ∀ w, (Op.equalIn 10000 33 (.agg X.cs.toArray) (.agg Zs.toArray)).run Tryd.prog w = .ok true w := fun w => by rw [hZX, run_sec_in, hsq]
    clear hX0 hZX hsq
    go_wp2_with (first
      | (refine wpList_store_newN rfl 33 (.tmp 7) (.tmp 24) rfl w3.heap.size rfl X.cs _ rfl rfl hisx HZX.out honx ?_)
      | (refine wpListG_load_mid (by kernel_rfl) 33 (.tmp 7) rfl w3.heap.size 0 rfl X.cs _ hrx husec rfl hisx ?_))
    go_ret
    exact ⟨rfl, HK3.out.2.2⟩
  | zero =>
    simp only [errV]
    obtain ⟨ba, da⟩ := sealErr_zero HEA.out
    by_cases hz0 : z = 0
    · subst hz0
      go_wp2_with (refine wpList_store_newN rfl 33 (.tmp 7) (.tmp 24) rfl w3.heap.size rfl X.cs _ rfl rfl hisx HZX.out honx ?_)
      go_ret
      exact ⟨rfl, HK3.out.2.2⟩
    · have hzd : ((z : Int) == 0) = false := by simp; omega
      obtain ⟨i, hi, hi1, hi2, hi3⟩ := turn_at y
      have hli : X.l[i]? = some (X.l.getD i 0) := by rw [List.getD_eq_getElem?_getD, List.getElem?_eq_getElem (by rw [X.len]; exact hi)]; rfl
      have hlt : X.l.getD i 0 < 256 := X.lt _ (List.mem_of_getElem? hli)
      obtain ⟨hxor, hxlt⟩ := u8_turn (X.l.getD i 0) z hlt hz
      have hcell : (w3.alloc (.cells X.cs.toArray 33)).cell? ⟨w3.heap.size, i, none⟩ = some (.int .u8 (X.l.getD i 0)) := by rw [HK3.out.2.1.cell]; exact u8s_at hli
      have hfz := HK3.out.2.1.frozen i
      have hYc : X.cs.set i (.int .u8 ((X.l.getD i 0 ^^^ z : Nat) : Int)) = (turnSec X i z hxlt).cs := by simp [Sec.cs, turnSec, u8s, u8]
      have hbad : isSealed (turnSec X i z hxlt).l = false := by
        show isSealed (X.l.set i (X.l.getD i 0 ^^^ z)) = false
        rw [HXl.out ba da]
        exact turned k g n d da HX.out.2 i z hi (by omega) hz
      have HBad := Lib.hid hbad
      generalize turnSec X i z hxlt = Y at *
      have hK0 := HK03.out.1.alloc (.cells Y.cs.toArray 33)
      have hK4 := Blk.new w3 33 Y.cs.toArray
      have hB4 := HK03.out.2.alloc HK03.out.2.size (.cells Y.cs.toArray 33)
      have HK4 := Lib.hid (And.intro hK0 (And.intro hK4 hB4))
      have hr4 : World.rangeAt (w3.alloc (.cells Y.cs.toArray 33)) w3.heap.size 0 Y.cs := hK4.range
      have hT4 := HT.out.below hB4
      have HT4 := Lib.hid hT4
      have hisy := Y.info
      have hi0 : (0 : Int) ≤ (i : Int) := by omega
      have hi7 : (i : Int) < 128 := by omega
      generalize X.l.getD i 0 = b at *
      clear hK0 hK4 hB4 hbad hli hT4 ba da hrx
      go_wp2_with (first
        | (refine wpList_store_newN rfl 33 (.tmp 7) (.tmp 24) rfl w3.heap.size rfl X.cs _ rfl rfl hisx HZX.out honx ?_)
        | (refine wpList_load_mid rfl 33 (.tmp 7) rfl w3.heap.size 0 rfl Y.cs _ hr4 husec rfl hisy ?_))
      generalize w3.alloc (.cells Y.cs.toArray 33) = w4 at *
      generalize w3.heap.size = gx at *
      refine (open_bad Y w4 HT4.out HBad.out).mono ?_
      rintro e w5 ⟨rfl, b5⟩
      have K5 := HK4.out.2.1.below b5 HK4.out.2.1.lt
      have K05 := HK4.out.1.below b5 HK4.out.1.lt
      have B5 := HK4.out.2.2.trans (b5.mono HK4.out.2.2.size)
      have hr5 : World.rangeAt w5 gx 0 Y.cs := K5.range
      have cA := (lbox_cells K05)
      have a0 := cA.1
      have a1 := cA.2.1
      have a2 := cA.2.2.1
      have HB5 := Lib.hid B5
      have HT5 := Lib.hid (HT.out.below B5)
      simp only [errV, boxCs]
      clear K5 K05 B5 b5 cA hr4 hcell hfz
      go_wp2_with (refine wpList_load_mid rfl 33 (.tmp 7) rfl gx 0 rfl Y.cs _ hr5 husec rfl hisy ?_)
      refine (is_no Y k g n w5 HT5.out (by unfold isOf; rw [HBad.out]; rfl)).mono ?_
      rintro e w6 ⟨rfl, b6⟩
      have HB6 := Lib.hid (HB5.out.trans (b6.mono HB5.out.size))
      clear b6 a0 a1 a2 hr5
      go_wp2_with fail
      refine (is_any 11 11 w6).mono ?_
      rintro e w7 ⟨he, hw⟩
      subst he
      subst hw
      go_wp2
      go_ret
      exact ⟨by simp, HB6.out⟩
end Go.Proofs.YtgdkpmgfholnkaaDoor
