/-
  What Seal returns. Conditions: a box's data read as bytes; the package's table holds its sixteen numbers.
-/
import Derived.Test.YtgdkpmgfholnkaaDoorBoxR
namespace Go.Proofs.YtgdkpmgfholnkaaDoor
open Go.RowKit
set_option linter.unusedSimpArgs false
set_option linter.unusedVariables false
/-- a box and a new answer lie in memory -/
theorem seal_start (w : World) (k g n : Int) (A : Option Addr) (m c : Nat) (Zs : List Value) (hz : Zs.length = 128) :
    Blk ((w.alloc (.cells #[.int .i64 k, .int .i64 g, .int .i64 n, .slice A m c] 38)).alloc (.cells Zs.toArray 33)) w.heap.size 38 (boxCs k g n (.slice A m c)).toArray ∧
    Blk ((w.alloc (.cells #[.int .i64 k, .int .i64 g, .int .i64 n, .slice A m c] 38)).alloc (.cells Zs.toArray 33)) (w.heap.size + 1) 33 Zs.toArray ∧
    Below w.heap.size w ((w.alloc (.cells #[.int .i64 k, .int .i64 g, .int .i64 n, .slice A m c] 38)).alloc (.cells Zs.toArray 33)) := by
  have K1 := Blk.new (w.alloc (.cells #[.int .i64 k, .int .i64 g, .int .i64 n, .slice A m c] 38)) 33 Zs.toArray
  rw [World.size_alloc] at K1
  exact ⟨(Blk.new w _ _).alloc _, K1, (below_alloc w _).alloc (by simp) _⟩
/-- the answer is stored -/
theorem ans_stored {w w' : World} {gr : Nat} {Zs : List Value} (S : Sec) (h : Blk w' gr 33 Zs.toArray) (hz : Zs.length = 128) (hb : Below w.heap.size w w') (hg : w.heap.size ≤ gr) :
    w'.there gr 0 S.cs.toArray.size ∧ Blk (w'.setCells gr 0 S.cs) gr 33 S.cs.toArray ∧ Below w.heap.size w (w'.setCells gr 0 S.cs) :=
  ⟨h.there (by simp [Sec.cs_len, hz]), h.over S.cs (by simp [Sec.cs_len, hz]), hb.grown (setCells_grown gr S.cs 0 w').1 hb.size (fun j e => by injection e with e; omega)⟩
set_option maxRecDepth 100000 in
set_option maxHeartbeats 1000000 in
theorem seal_range (k g n : Int) (A : Option Addr) (m c : Nat) (w : World) (hb : isBoxB k g n = false) :
    Calls Tryd.prog 16 #[.agg (boxCs k g n (.slice A m c)).toArray] w fun e w' => e = .returned (.tuple #[Sec.zero.v, errV 1]) ∧ Below w.heap.size w w' := by
  obtain ⟨Zs, hZ, hZs⟩ : ∃ Zs : List Value, (∀ w, (zeroValue 33).run Tryd.prog w = .ok (.agg Zs.toArray) w) ∧ Zs = Sec.zero.cs := ⟨Sec.zero.cs, sec_zero, rfl⟩
  have hbd : ∀ w, (Instr.build 33 #[]).run Tryd.prog w = .ok (.agg Zs.toArray) w := fun w => by rw [sec_build w, ← hZ w]; exact (sec_zero w).symm
  have hzl : Zs.length = 128 := by rw [hZs, Sec.cs_len]
  obtain ⟨K0, K1, b0⟩ := seal_start w k g n A m c Zs hzl
  obtain ⟨hth, ha, hB⟩ := ans_stored Sec.zero K1 hzl b0 (by omega)
  have hone := Sec.zero.one
  have hia := Sec.zero.infoA
  rw [← hZs] at hth ha hB hone hia
  have HA := Lib.hid (And.intro ha hB)
  have HZs := Lib.hid hZs
  have HB := Lib.hid hb
  clear hZs hzl K0 K1 b0 ha hB hb
  simp only [boxCs]
  go_enter Tryd.func16, Tryd.ntmps16
  go_wp2_with fail
  refine (isbox_any k g n _).mono ?_
  rintro e w' ⟨rfl, rfl⟩
  rw [HB.out]
  go_wp2_with (refine wpList_store_mid rfl 33 (.tmp 2) (.tmp 12) rfl (w.heap.size + 1) 0 Zs.toArray rfl rfl hth hia (all_oneCell_toArray hone) ?_)
  refine bodyPost_ret (sec_results2 rfl _ _ (w.heap.size + 1) Sec.zero (errV 1) rfl rfl (by rw [← HZs.out]; exact HA.out.1)) rfl ?_
  exact ⟨rfl, HA.out.2⟩
set_option maxRecDepth 100000 in
set_option maxHeartbeats 1000000 in
theorem seal_form (k g n : Int) (A : Option Addr) (m c : Nat) (w : World) (hb : isBoxB k g n = true) (hm : 106 < m) :
    Calls Tryd.prog 16 #[.agg (boxCs k g n (.slice A m c)).toArray] w fun e w' => e = .returned (.tuple #[Sec.zero.v, errV 2]) ∧ Below w.heap.size w w' := by
  obtain ⟨Zs, hZ, hZs⟩ : ∃ Zs : List Value, (∀ w, (zeroValue 33).run Tryd.prog w = .ok (.agg Zs.toArray) w) ∧ Zs = Sec.zero.cs := ⟨Sec.zero.cs, sec_zero, rfl⟩
  have hbd : ∀ w, (Instr.build 33 #[]).run Tryd.prog w = .ok (.agg Zs.toArray) w := fun w => by rw [sec_build w, ← hZ w]; exact (sec_zero w).symm
  have hzl : Zs.length = 128 := by rw [hZs, Sec.cs_len]
  obtain ⟨K0, K1, b0⟩ := seal_start w k g n A m c Zs hzl
  obtain ⟨hth, ha, hB⟩ := ans_stored Sec.zero K1 hzl b0 (by omega)
  have hone := Sec.zero.one
  have hia := Sec.zero.infoA
  rw [← hZs] at hth ha hB hone hia
  have HA := Lib.hid (And.intro ha hB)
  have HZs := Lib.hid hZs
  have HB := Lib.hid hb
  have hd : decide (106 < (m : Int)) = true := decide_eq_true (by omega)
  clear hZs hzl K0 K1 b0 ha hB hb
  simp only [boxCs]
  go_enter Tryd.func16, Tryd.ntmps16
  go_wp2_with fail
  refine (isbox_any k g n _).mono ?_
  rintro e w' ⟨rfl, rfl⟩
  rw [HB.out]
  go_wp2_with (refine wpList_store_mid rfl 33 (.tmp 2) (.tmp 18) rfl (w.heap.size + 1) 0 Zs.toArray rfl rfl hth hia (all_oneCell_toArray hone) ?_)
  refine bodyPost_ret (sec_results2 rfl _ _ (w.heap.size + 1) Sec.zero (errV 2) rfl rfl (by rw [← HZs.out]; exact HA.out.1)) rfl ?_
  exact ⟨rfl, HA.out.2⟩
set_option maxRecDepth 100000 in
set_option maxHeartbeats 1000000 in
theorem seal_good (k g n : Int) (A : Option Addr) (c : Nat) (d : List Nat) (B : Nat) (w : World) (hb : isBoxB k g n = true) (hd : Bytes w B A d.length d) (hl : d.length ≤ 106) (h256 : ∀ b ∈ d, b < 256) (hT : Tab w) :
    Calls Tryd.prog 16 #[.agg (boxCs k g n (.slice A d.length c)).toArray] w fun e w' => e = .returned (.tuple #[(sealSec k g n d hl h256).v, .nilIface]) ∧ Below w.heap.size w w' := by
  obtain ⟨Zs, hZ, hZs⟩ : ∃ Zs : List Value, (∀ w, (zeroValue 33).run Tryd.prog w = .ok (.agg Zs.toArray) w) ∧ Zs = Sec.zero.cs := ⟨Sec.zero.cs, sec_zero, rfl⟩
  have hzl : Zs.length = 128 := by rw [hZs, Sec.cs_len]
  obtain ⟨K0, K1, b0⟩ := seal_start w k g n A d.length c Zs hzl
  have hdc : decide (106 < (d.length : Int)) = false := decide_eq_false (by omega)
  have hrg : World.rangeAt _ w.heap.size 0 (boxCs k g n (.slice A d.length c)) := K0.range
  have hu := Tryd.underlying38
  have hib : (Tryd.prog.info? 38).map (·.size) = some (boxCs k g n (.slice A d.length c)).length := box_size
  have HK := Lib.hid (And.intro K0 (And.intro K1 b0))
  have HB := Lib.hid hb
  have HD := Lib.hid hd
  have HT := Lib.hid (hT.below b0)
  have HZL := Lib.hid hzl
  clear hZs hzl K0 K1 b0 hb hd hT
  simp only [boxCs] at hrg hib ⊢
  go_enter Tryd.func16, Tryd.ntmps16
  go_wp2_with fail
  refine (isbox_any k g n _).mono ?_
  rintro e w' ⟨rfl, rfl⟩
  rw [HB.out]
  go_wp2_with (refine wpList_load_mid rfl 38 (.tmp 1) rfl w.heap.size 0 rfl _ _ hrg hu rfl hib ?_)
  generalize (w.alloc (.cells #[.int .i64 k, .int .i64 g, .int .i64 n, .slice A d.length c] 38)).alloc (.cells Zs.toArray 33) = w2 at *
  refine (sealed_any k g n A c d B w2 (HD.out.since HK.out.2.2) hl h256 HT.out).mono ?_
  rintro e w3 ⟨rfl, b3⟩
  simp only [Sec.v]
  have K3 := HK.out.2.1.below b3 HK.out.2.1.lt
  have B3 : Below w.heap.size w w3 := HK.out.2.2.trans (b3.mono HK.out.2.2.size)
  obtain ⟨hth, ha, hB⟩ := ans_stored (sealSec k g n d hl h256) K3 HZL.out B3 (by omega)
  have hone := (sealSec k g n d hl h256).one
  have hia := (sealSec k g n d hl h256).infoA
  have HA := Lib.hid (And.intro ha hB)
  clear ha hB K3 B3 b3 hrg
  generalize hS : sealSec k g n d hl h256 = S at *
  have HS := Lib.hid hS
  clear hS
  go_wp2_with (refine wpList_store_mid rfl 33 (.tmp 2) (.tmp 21) rfl (w.heap.size + 1) 0 S.cs.toArray rfl rfl hth hia (all_oneCell_toArray hone) ?_)
  refine bodyPost_ret (sec_results2 rfl _ _ (w.heap.size + 1) S .nilIface rfl rfl HA.out.1) rfl ?_
  exact ⟨by simp only [Sec.v, HS.out], HA.out.2⟩
end Go.Proofs.YtgdkpmgfholnkaaDoor
