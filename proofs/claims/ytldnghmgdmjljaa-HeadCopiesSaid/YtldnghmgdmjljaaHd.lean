/-
  What views say. Conditions: they read as they are said to.
-/
import Derived.Test.YtldnghmgdmjljaaHc
namespace Go.Proofs.Ytldnghmgdmjljaa
open Go.RowKit Go.BigFrame
set_option linter.unusedSimpArgs false
set_option linter.unusedVariables false
set_option maxRecDepth 100000
theorem blk_two (w : World) (o : Obj) (t : TypeId) (cs : Array Value) : Blk ((w.alloc o).alloc (.cells cs t)) (w.heap.size + 1) t cs := by
  have := Blk.new (w.alloc o) t cs
  rwa [World.size_alloc] at this
def ViewTo (w : World) (v : VA) (e : Ending) (w' : World) : Prop := e = .returned (.agg v.cs) ∧ Below w.heap.size w w'
set_option maxHeartbeats 1000000 in
theorem hview_any (h : HA) (w : World) : Calls Try.prog 31 #[.agg h.cs] w (ViewTo w h.vw) := by
  unfold HA.cs
  go_enter Try.func31, Try.ntmps31
  go_wp2
  refine bodyPost_ret (results_cell_row rfl _ _ (w.heap.size + 1) 75 h.vw.cs (0, 0) _ rfl (blk_two _ _ _ _) Try.underlying75 rfl (by kernel_rfl)) rfl ?_
  exact ⟨rfl, (below_alloc w _).alloc (by simp) _⟩
set_option maxHeartbeats 1000000 in
theorem sview_any (s : SA) (w : World) : Calls Try.prog 72 #[.agg s.cells.toArray] w (ViewTo w s.vw) := by
  unfold SA.cells
  go_enter Try.func72, Try.ntmps72
  go_wp2
  refine bodyPost_ret (results_cell_row rfl _ _ (w.heap.size + 1) 75 s.vw.cs (0, 0) _ rfl (blk_two _ _ _ _) Try.underlying75 rfl (by kernel_rfl)) rfl ?_
  exact ⟨rfl, (below_alloc w _).alloc (by simp) _⟩
theorem run_str_eql (a b : ByteArray) (w : World) : (binOp .eql 9 (.string a) (.string b)).run Try.prog w = .ok (.bool (a.toList == b.toList)) w := by kernel_rfl
theorem run_str_leq (a b : ByteArray) (w : World) : (binOp .leq 9 (.string a) (.string b)).run Try.prog w = .ok (.bool (Op.bytesLess a.toList b.toList || a.toList == b.toList)) w := by kernel_rfl
theorem run_link_eql (a b : ByteArray) (p q r s : Int) (w : World) : (binOp .eql 34 (.agg #[.string a, .int .i64 p, .int .i64 q]) (.agg #[.string b, .int .i64 r, .int .i64 s])).run Try.prog w = .ok (.bool ((a.toList == b.toList) && decide (p = r) && decide (q = s))) w := by
  go_simp
  by_cases h1 : a.toList = b.toList <;> by_cases h2 : p = r <;> by_cases h3 : q = s <;> simp [h1, h2, h3]
theorem empty_str (bs : List Nat) (hb : ∀ b ∈ bs, b < 256) : ((strOf bs).toList == (ByteArray.mk #[]).toList) = bs.isEmpty := by
  have h : strOf [] = ByteArray.mk #[] := rfl
  rw [← h, str_eq hb (by simp), Bool.eq_iff_iff, decide_eq_true_iff, List.isEmpty_iff]
theorem empty_list (bs : List Nat) (hb : ∀ b ∈ bs, b < 256) : (strOf bs).toList.isEmpty = bs.isEmpty := by
  rw [← empty_str bs hb]
  have : (ByteArray.mk #[]).toList = [] := by rw [ByteArray.toList_eq]
  rw [this]
  cases (strOf bs).toList <;> rfl
set_option maxHeartbeats 4000000 in
theorem linked_any (v : VA) (w : World) (h : v.R w) (hS : v.Sm) : Calls Try.prog 79 #[.agg v.cs] w fun e w' => e = .returned (.bool (v.lk.B v.size)) ∧ Below w.heap.size w w' := by
  have he := empty_list v.par h.par
  have B0 := fun (o : Obj) => below_alloc w o
  unfold VA.cs LkV.B
  show Calls _ _ _ _ fun e w' => e = .returned (.bool (if v.par.isEmpty then decide (v.ps = 0) && decide (v.ov = 0) else namedB v.par && decide (1 ≤ v.ps) && decide (0 ≤ v.ov) && decide (v.ov ≤ v.size))) ∧ _
  cases hem : v.par.isEmpty with
  | true =>
    rw [hem] at he
    have he2 : (strOf v.par).toList = [] := List.isEmpty_iff.1 he
    rw [if_pos rfl]
    clear h hem hS
    by_cases c1 : v.ps = 0
    · have d1 : decide (v.ps = 0) = true := decide_eq_true c1
      by_cases c2 : v.ov = 0
      · have d2 : decide (v.ov = 0) = true := decide_eq_true c2
        rw [d1, d2]
        go_enter Try.func79, Try.ntmps79
        go_wp2
        go_ret
        exact ⟨rfl, B0 _⟩
      · have d2 : decide (v.ov = 0) = false := decide_eq_false c2
        rw [d1, d2]
        go_enter Try.func79, Try.ntmps79
        go_wp2
        go_ret
        exact ⟨rfl, B0 _⟩
    · have d1 : decide (v.ps = 0) = false := decide_eq_false c1
      rw [d1, Bool.false_and]
      go_enter Try.func79, Try.ntmps79
      go_wp2
      go_ret
      exact ⟨rfl, B0 _⟩
  | false =>
    rw [hem] at he
    rw [if_neg (by simp)]
    have HN := Lib.hid (named_any v.par h.par hS.par)
    clear h hS hem
    cases hn : namedB v.par with
    | false =>
      rw [hn] at HN
      clear hn
      go_enter Try.func79, Try.ntmps79
      go_wp2_with fail
      refine (HN.out _).mono ?_
      rintro e w1 ⟨rfl, b1⟩
      go_wp2
      go_ret
      exact ⟨rfl, (B0 _).trans (b1.mono (B0 _).size)⟩
    | true =>
      rw [hn] at HN
      clear hn
      rw [Bool.true_and]
      go_enter Try.func79, Try.ntmps79
      go_wp2_with fail
      refine (HN.out _).mono ?_
      rintro e w1 ⟨rfl, b1⟩
      have k : Blk w1 w.heap.size 75 v.cs := (Blk.new w 75 v.cs).of (b1.block _ (by simp))
      unfold VA.cs at k
      have k1 : w1.cell? ⟨w.heap.size, 0, none⟩ = some (.int .i64 v.size) := k.cell 0
      have k5 : w1.cell? ⟨w.heap.size, 5, none⟩ = some (.int .i64 v.ps) := k.cell 5
      have k6 : w1.cell? ⟨w.heap.size, 6, none⟩ = some (.int .i64 v.ov) := k.cell 6
      have HB : Hid (Below w.heap.size w w1) := Lib.hid ((B0 _).trans (b1.mono (B0 _).size))
      clear b1 k HN B0
      by_cases c1 : 1 ≤ v.ps
      · have d1 : decide (1 ≤ v.ps) = true := decide_eq_true c1
        by_cases c2 : 0 ≤ v.ov
        · have d2 : decide (0 ≤ v.ov) = true := decide_eq_true c2
          go_wp2
          go_ret
          exact ⟨by rw [d1, d2]; rfl, HB.out⟩
        · have d2 : decide (0 ≤ v.ov) = false := decide_eq_false c2
          go_wp2
          go_ret
          exact ⟨by rw [d1, d2]; rfl, HB.out⟩
      · have d1 : decide (1 ≤ v.ps) = false := decide_eq_false c1
        go_wp2
        go_ret
        exact ⟨by rw [d1]; rfl, HB.out⟩
theorem put_both (w : World) (A : Option Addr) (n c : Nat) (bs : List Nat) (hn : n ≤ 10000) (hb : Bytes w w.heap.size A n bs) :
    Calls Try.prog 74 #[.slice A n c] w fun e w' => Below w.heap.size w w' ∧ ((Good bs ∧ ∃ v, e = .returned (.tuple #[v, .nilIface]) ∧ Own w' w.heap.size v (putM bs).length (putM bs)) ∨ (¬ Good bs ∧ e = .returned (.tuple #[.slice none 0 0, errV 2]))) := by
  by_cases hg : Good bs
  · refine (put_ok A n c bs w hb hg).mono ?_
    rintro e w' ⟨rfl, k, b⟩
    have hl := hb.len
    have hp : (putM bs).length = 2 + (n + 3) / 4 := by rw [putM_len, hl]
    refine ⟨b, .inl ⟨hg, _, rfl, ?_⟩⟩
    rw [hp]
    refine ⟨by rw [u8s_length, hp]; omega, .inr ⟨w.heap.size, _, _, rfl, Nat.le_refl _, k, Nat.le_refl _, by simp only [maxLen]; omega, ?_, ?_⟩⟩
    · simp [u8s_length, hp]
    · rw [List.take_of_length_le (by simp [u8s_length, hp])]
  · refine (put_bad A n c _ bs w hn hb hg).mono ?_
    rintro e w' ⟨rfl, rfl⟩
    exact ⟨Below.refl _ _, .inr ⟨hg, rfl⟩⟩
set_option maxHeartbeats 4000000 in
theorem marked_any (v : VA) (obj : Int) (ho : I64 obj) (w : World) (h : v.R w) (hS : v.Sm) : Calls Try.prog 78 #[.agg v.cs, .int .i64 obj] w fun e w' => e = .returned (.bool (v.mk'.B (objsOf v.size obj))) ∧ Below w.heap.size w w' := by
  have B0 := fun (o : Obj) => below_alloc w o
  have hsz := h.size
  have hln : ((v.row.length : Int) == 0) = v.row.isEmpty := by rw [Bool.eq_iff_iff, beq_iff_eq, List.isEmpty_iff, ← List.length_eq_zero_iff]; omega
  unfold VA.cs MkV.B
  show Calls _ _ _ _ fun e w' => e = .returned (.bool (if v.on then decide (Good v.row) && decide ((v.row.length : Int) = objsOf v.size obj) else v.row.isEmpty && !v.good)) ∧ _
  cases hon : v.on with
  | false =>
    rw [if_neg (by simp)]
    cases hem : v.row.isEmpty with
    | false =>
      rw [hem] at hln
      clear h
      go_enter Try.func78, Try.ntmps78
      go_wp2
      go_ret
      exact ⟨rfl, B0 _⟩
    | true =>
      rw [hem] at hln
      clear h
      go_enter Try.func78, Try.ntmps78
      go_wp2
      go_ret
      exact ⟨rfl, B0 _⟩
  | true =>
    rw [if_pos rfl]
    have hb : Bytes (w.alloc (.cells v.cs 75)) (w.alloc (.cells v.cs 75)).heap.size v.M v.row.length v.row := (h.row.since (below_alloc w _)).more (by simp)
    have HP := Lib.hid (put_both (w.alloc (.cells v.cs 75)) v.M v.row.length v.cm v.row hS.row hb)
    have hK := Blk.new w 75 v.cs
    have HK := Lib.hid hK
    unfold VA.cs at HP HK
    rw [hon] at HP HK
    clear h hb hK hln
    go_enter Try.func78, Try.ntmps78
    go_wp2_with fail
    refine HP.out.mono ?_
    rintro e w1 ⟨b1, ⟨hg, p, rfl, hp⟩ | ⟨hg, rfl⟩⟩
    · have d1 : decide (Good v.row) = true := decide_eq_true hg
      have k := HK.out.of (b1.block _ HK.out.lt)
      have HB : Hid (Below w.heap.size w w1) := Lib.hid ((B0 _).trans (b1.mono (B0 _).size))
      have k0 : w1.cell? ⟨w.heap.size, 0, none⟩ = some (.int .i64 v.size) := k.cell 0
      have k3 : w1.cell? ⟨w.heap.size, 3, none⟩ = some (.slice v.M v.row.length v.cm) := k.cell 3
      have HO := Lib.hid (objects_any v.size obj hsz ho)
      have hq : ((v.row.length : Int) == objsOf v.size obj) = decide ((v.row.length : Int) = objsOf v.size obj) := by rw [Bool.eq_iff_iff, beq_iff_eq, decide_eq_true_iff]
      obtain ⟨bb, hbb⟩ : ∃ bb, bb = decide ((v.row.length : Int) = objsOf v.size obj) := ⟨_, rfl⟩
      rw [← hbb] at hq
      have HBB := Lib.hid hbb
      clear b1 k hp HP HK B0 hbb
      go_wp2
      go_quiet ((go_at_call 26; exact Calls.quiet_of_same ((HO.out _).mono fun e w' h => ⟨h.1, h.2.symm⟩)))
      go_wp2
      go_ret
      exact ⟨by rw [d1, ← HBB.out]; rfl, below_drewN HB.out _⟩
    · have d1 : decide (Good v.row) = false := decide_eq_false hg
      have HB : Hid (Below w.heap.size w w1) := Lib.hid ((B0 _).trans (b1.mono (B0 _).size))
      clear b1 HP HK B0
      simp only [errV]
      go_wp2
      go_quiet (fail)
      go_wp2
      go_ret
      exact ⟨by rw [d1]; rfl, below_drewN HB.out _⟩
end Go.Proofs.Ytldnghmgdmjljaa
