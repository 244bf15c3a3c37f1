/-
  What the calls of a nil disk return. No condition.
-/
import Derived.Test.YtgcghoalepkdfaaCopyD
import Derived.Test.YtgcghoalepkdfaaNum
import Derived.Test.YtgcghoalepkdfaaEq
namespace Go.Proofs.Ytgcghoalepkdfaa
open Go.RowKit Go.Shelf

theorem len_nil (w : World) : Calls Try.prog 13 #[.pointer none] w fun e w' => e = .returned (.int .i64 0) ∧ w = w' := by
  go_enter Try.func13, Try.ntmps13
  go_wp2
  go_ret
  exact ⟨rfl, rfl⟩
theorem waiting_nil (w : World) : Calls Try.prog 23 #[.pointer none] w fun e w' => e = .returned (.int .i64 0) ∧ w = w' := by
  go_enter Try.func23, Try.ntmps23
  go_wp2
  go_ret
  exact ⟨rfl, rfl⟩
theorem steps_nil (w : World) : Calls Try.prog 26 #[.pointer none] w fun e w' => e = .returned (.int .i64 0) ∧ w = w' := by
  go_enter Try.func26, Try.ntmps26
  go_wp2
  go_ret
  exact ⟨rfl, rfl⟩
theorem down_nil (w : World) : Calls Try.prog 24 #[.pointer none] w fun e w' => e = .returned (.bool true) ∧ w = w' := by
  go_enter Try.func24, Try.ntmps24
  go_wp2
  go_ret
  exact ⟨rfl, rfl⟩
theorem copy_nil (w : World) : Calls Try.prog 27 #[.pointer none] w fun e w' => e = .returned (.pointer none) ∧ w = w' := by
  go_enter Try.func27, Try.ntmps27
  go_wp2
  go_ret
  exact ⟨rfl, rfl⟩
theorem flush_nil (w : World) : Calls Try.prog 19 #[.pointer none] w fun e w' => e = .returned (errV 3) ∧ w = w' := by
  go_enter Try.func19, Try.ntmps19
  go_wp2
  go_ret
  exact ⟨rfl, rfl⟩
theorem arm_nil (w : World) (i : Int) : Calls Try.prog 25 #[.pointer none, .int .i64 i] w fun e w' => e = .returned (errV 3) ∧ w = w' := by
  go_enter Try.func25, Try.ntmps25
  go_wp2
  go_ret
  exact ⟨rfl, rfl⟩
theorem write_nil (w : World) (i : Int) (s : Sec) : Calls Try.prog 17 #[.pointer none, .int .i64 i, .agg s.cs.toArray] w fun e w' => e = .returned (errV 3) ∧ Below w.heap.size w w' := by
  go_enter Try.func17, Try.ntmps17
  go_wp2
  go_ret
  exact ⟨rfl, (Below.refl _ _).alloc (Nat.le_refl _) _⟩
theorem crash_nil (w : World) (A : Option Addr) (n c : Nat) : Calls Try.prog 20 #[.pointer none, .slice A n c] w fun e w' => e = .returned (.tuple #[]) ∧ Below w.heap.size w w' := by
  go_enter Try.func20, Try.ntmps20
  go_wp2
  go_returns
  exact ⟨rfl, (Below.refl _ _).alloc (Nat.le_refl _) _⟩
set_option maxRecDepth 100000 in
theorem sure_nil (w : World) (i : Int) : Calls Try.prog 22 #[.pointer none, .int .i64 i] w fun e w' => e = .returned Sec.zero.v ∧ Below w.heap.size w w' := by
  obtain ⟨Zs, hZ, hZb⟩ : ∃ Zs : List Value, (∀ w, (zeroValue 47).run Try.prog w = .ok (.agg Zs.toArray) w) ∧ Zs = Sec.zero.cs := ⟨_, sec_zero, rfl⟩
  have hbd : ∀ w, (Instr.build 47 #[]).run Try.prog w = .ok (.agg Zs.toArray) w := fun w => by rw [sec_build w, ← hZ w]; exact (sec_zero w).symm
  have hi : (Try.prog.info? 47).map (·.size) = some Zs.length := by rw [hZb, Sec.cs_len]; exact sec_size
  have hone : ∀ v ∈ Zs, v.oneCell' = true := by rw [hZb]; exact Sec.zero.one
  have HZb := Lib.hid hZb
  clear hZb
  go_enter Try.func22, Try.ntmps22
  go_wp2_with (refine wpList_store_newN rfl 47 (.tmp 4) (.tmp 7) rfl w.heap.size rfl Zs Zs.toArray rfl rfl hi (by simp) hone ?_)
  refine bodyPost_ret (results_cell_row rfl _ _ w.heap.size 47 Zs.toArray (0, 0) _ rfl (Blk.new w _ _) Try.underlying47 rfl (by rw [List.size_toArray]; exact hi)) rfl ?_
  exact ⟨by rw [HZb.out]; rfl, (Below.refl _ _).alloc (Nat.le_refl _) _⟩
attribute [local go_sem] Oper.semAt_some
set_option maxRecDepth 100000 in
set_option maxHeartbeats 2000000 in
theorem read_nil_in (w : World) (i : Int) :
    CallsIn Fence.wide 5 Try.prog 21 #[.pointer none, .int .i64 i] w fun e w' => e = .returned (.tuple #[Sec.zero.v, errV 3]) ∧ Below w.heap.size w w' := by
  have hro : Fence.wide.round = none := rfl
  have h1 : 1 ≤ 5 := by omega
  refine callsIn_of_wp_marks Try.func21 rfl trivial ?_ hro
  simp only [Try.ntmps21, List.size_toArray, List.length_cons, List.length_nil, Nat.reduceAdd, Nat.reduceSub, Array.replicate_succ, Array.replicate_zero, List.push_toArray, List.append_toArray, List.nil_append, List.cons_append]
  obtain ⟨Zs, hZ, hZb⟩ : ∃ Zs : List Value, (∀ w, (zeroValue 47).run Try.prog w = .ok (.agg Zs.toArray) w) ∧ Zs = Sec.zero.cs := ⟨_, sec_zero, rfl⟩
  have hbl : Blk (((w.alloc (.cells #[.int .i64 i] 3)).alloc (.cells Zs.toArray 47)).alloc (.cells #[.nilIface] 27)) (w.heap.size + 1) 47 Zs.toArray := by
    have := (Blk.new (w.alloc (.cells #[.int .i64 i] 3)) 47 Zs.toArray).alloc (.cells #[.nilIface] 27)
    simpa using this
  have hbe : Boxed (((w.alloc (.cells #[.int .i64 i] 3)).alloc (.cells Zs.toArray 47)).alloc (.cells #[.nilIface] 27)) (w.heap.size + 1 + 1) 27 .nilIface := by
    have := Boxed.new ((w.alloc (.cells #[.int .i64 i] 3)).alloc (.cells Zs.toArray 47)) 27 .nilIface
    simpa using this
  have hlen : Zs.length = 128 := by rw [hZb, Sec.cs_len]
  have hia : (Try.prog.info? 47).map (·.size) = some Zs.toArray.size := by rw [List.size_toArray, hlen]; exact sec_size
  have hth := hbl.there (o := 0) (n := Zs.toArray.size) (by simp)
  have hone : ∀ u ∈ Zs, u.oneCell' = true := by rw [hZb]; exact Sec.zero.one
  have hsg := setCells_grown (w.heap.size + 1) Zs 0 (((w.alloc (.cells #[.int .i64 i] 3)).alloc (.cells Zs.toArray 47)).alloc (.cells #[.nilIface] 27))
  have hbe2 := hbe.kept hsg.1 (by simp)
  have hbl2 := hbl.over Zs (by simp)
  have hB2 : Below w.heap.size w ((((w.alloc (.cells #[.int .i64 i] 3)).alloc (.cells Zs.toArray 47)).alloc (.cells #[.nilIface] 27)).setCells (w.heap.size + 1) 0 Zs) :=
    ((((Below.refl _ w).alloc (Nat.le_refl _) _).alloc (by simp) _).alloc (by simp; omega) _).grown hsg.1 (by simp; omega) (fun k e => by injection e with e; omega)
  have c3 := hbe2.cell
  have f3 := hbe2.frozen
  have HZb := Lib.hid hZb
  have Hsg := Lib.hid hsg
  have Hbe2 := Lib.hid hbe2
  clear hZb hsg hbe2
  gi_wp2_with (first
    | (refine ⟨trivial, ?_⟩; gi_at_call 24; refine (callsIn_wide.2 (down_nil _)).mono ?_; rintro e w' ⟨rfl, rfl⟩)
    | (refine wpListIn_store_mid rfl 47 (.tmp 4) (.tmp 10) rfl (w.heap.size + 1) 0 Zs.toArray rfl rfl hth hia (all_oneCell_toArray hone) ?_))
  refine ⟨_, read_results _ _ (w.heap.size + 1) (w.heap.size + 1 + 1) Sec.zero (errV 3) rfl rfl ?_ (Hbe2.out.set _), ?_, ?_⟩
  · rw [← HZb.out]; exact hbl2.far (by simp) _
  · rfl
  · exact hB2.setCell (p := ⟨w.heap.size + 1 + 1, 0, none⟩) (by show _ ≤ w.heap.size + 1 + 1; omega) _
theorem read_nil (w : World) (i : Int) : Calls Try.prog 21 #[.pointer none, .int .i64 i] w fun e w' => e = .returned (.tuple #[Sec.zero.v, errV 3]) ∧ Below w.heap.size w w' := callsIn_wide.1 (read_nil_in w i)
end Go.Proofs.Ytgcghoalepkdfaa
