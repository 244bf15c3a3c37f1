/-
  What the program's reader reads: a byte, a number, a flag, bytes, a text, numbers; its end. Conditions: the reader lies where it is said to.
-/
import Derived.Test.YtldnghmgdmjljaaRd
namespace Go.Proofs.Ytldnghmgdmjljaa
open Go.RowKit
set_option linter.unusedSimpArgs false
set_option maxRecDepth 100000
set_option linter.unusedVariables false
theorem byte_size1 : (Try.prog.info? 5).map (·.size) = some 1 := by kernel_rfl
/-- copy onto a whole block, of as many bytes or of none -/
theorem wp_copy_full {o : Oper} {a : Act} {w : World} {K : Act → World → Prop} {Q : Exit → Act → World → Prop} (x y : Operand) (ho : o.op = .call { callee := .builtin .copy, args := #[x, y], argTypes := #[23, 23] })
    (gb m : Nat) (t : TypeId) (cur : List Value) (hg : Blk w gb t cur.toArray) (hcur : cur.length = m) (hx : a.eval x = .slice (some ⟨gb, 0, none⟩) m m) (A : Option Addr) (k c B : Nat) (bs : List Nat) (hy : a.eval y = .slice A k c) (hb : Bytes w B A k bs) (hk : k = m ∨ k = 0) (hm : 0 < m)
    (h : ∀ w', Blk w' gb t (if k = 0 then cur else u8s bs).toArray → Only [gb] w w' → K (a.put o.dst (goInt k)) w') : o.wp Try.prog a w K Q := by
  rcases hk with rfl | rfl
  · obtain ⟨ad, rfl, hB, hc⟩ := hb.1.2 hm
    have hl : (u8s bs).length = k := by rw [u8s_length, hb.len]
    have hrun := run_copy_row (P := Try.prog) w 23 23 o.type 5 gb 0 k k ad k c cur.toArray t (u8s bs) Try.underlying23 byte_size1 hg (by rw [hl]; exact (Nat.min_self k).symm) hc (by simp [hl, hcur]) (oneCell_u8s _)
    unfold Oper.wp
    simp [execOp, ho, resolve, invoke, builtin, hx, hy, hrun, Result.andThen]
    rw [hl]
    refine h _ ?_ ?_
    · rw [if_neg (by omega)]
      have := setRow_heap w gb cur.toArray (u8s bs).toArray t (0, 0) hg
      have e : (u8s bs ++ List.drop k cur).toArray = (u8s bs).toArray := by rw [List.drop_of_length_le (by omega), List.append_nil]
      unfold Blk
      simpa [e, hl, hcur, List.drop_of_length_le (show cur.length ≤ k by omega)] using this
    · exact ⟨rfl, rfl, rfl, by simp [World.setRow], fun j hj hn => setRow_other w gb j _ (fun e => hn (by simp [e]))⟩
  · have hrun := run_copy_none (P := Try.prog) w 23 23 o.type 5 (some ⟨gb, 0, none⟩) A m m 0 c Try.underlying23 byte_size1 (Nat.zero_min m)
    unfold Oper.wp
    simp [execOp, ho, resolve, invoke, builtin, hx, hy, hrun, Result.andThen]
    exact h w (by simpa using hg) (Only.refl _ _)
theorem got_len (s : RD) (k : Nat) : (s.got k).length = k ∨ (s.got k).length = 0 := by
  unfold RD.got
  split
  · rename_i h
    simp [RD.fits] at h
    left
    rw [List.length_take]
    omega
  · exact .inr rfl
theorem unpacked_list (l : List Nat) (hl : l.length = 8) (hb : ∀ b ∈ l, b < 256) (w : World) :
    Calls Try.prog 98 #[.agg (u8s l).toArray] w fun e w' => e = .returned (.int .i64 (numOf l)) ∧ Below w.heap.size w w' := by
  match l, hl with
  | [b0, b1, b2, b3, b4, b5, b6, b7], _ => exact unpacked_any b0 b1 b2 b3 b4 b5 b6 b7 w (hb _ (by simp)) (hb _ (by simp)) (hb _ (by simp)) (hb _ (by simp)) (hb _ (by simp)) (hb _ (by simp)) (hb _ (by simp)) (hb _ (by simp))
def padded (m : Nat) (l : List Nat) : List Nat := if l.length = 0 then List.replicate m 0 else l
theorem numOf_padded (l : List Nat) : numOf (padded 8 l) = numOf l := by
  unfold padded
  split
  · rename_i h
    obtain rfl := List.eq_nil_of_length_eq_zero h
    simp [numOf, un, List.replicate]
  · rfl
theorem u8s_zeros (m : Nat) : u8s (List.replicate m 0) = List.replicate m (.int .u8 0) := by simp [u8s, u8]
theorem rnum_any (w : World) (base : Nat) (F : List Nat) (p : Option Addr) (s : RD) (h : Rd w base F p s) (hB : base ≤ w.heap.size) :
    Calls Try.prog 82 #[.pointer p] w fun e w' => e = .returned (.int .i64 s.num) ∧ RTo w base F p (s.take 8) w' := by
  obtain ⟨Zs, hz, hZs⟩ : ∃ Zs : List Value, (∀ w, (zeroValue 111).run Try.prog w = .ok (.agg Zs.toArray) w) ∧ Zs = u8s (List.replicate 8 0) := ⟨_, eight_zero, rfl⟩
  have hzl : Zs.length = 8 := by rw [hZs, u8s_length]; rfl
  have HZ := Lib.hid hZs
  clear hZs
  have B0 := Lib.hid (Blk.new w 111 Zs.toArray)
  have b0 := below_alloc w (.cells Zs.toArray 111)
  have H0 := Lib.hid (h.below b0)
  have hgw : w.heap.size ∉ F := fun hm => by have := h.under _ hm; omega
  have b0' := Lib.hid b0
  clear h b0
  go_enter Try.func82, Try.ntmps82
  go_wp2_with fail
  have hBw : base ≤ (w.alloc (.cells Zs.toArray 111)).heap.size := Nat.le_trans hB b0'.out.size
  generalize w.alloc (.cells Zs.toArray 111) = w0 at *
  generalize hgb : w.heap.size = gb at *
  refine any_begin (by kernel_rfl) ?_
  refine wpAny_take (i := 0) (v := .slice (some ⟨gb, 0, none⟩) 8 8) rfl (by kernel_rfl) (by kernel_rfl) (by kernel_rfl) (fun _ _ _ h => h) (Or.inl ⟨by rfl, fun w => by go_simp⟩) ?_
  simp only [Act.put, List.getElem_toArray, List.getElem_cons_succ, List.getElem_cons_zero, List.setIfInBounds_toArray, List.set_cons_zero, List.set_cons_succ]
  refine wpAny_take (i := 1) (v := .pointer p) rfl (by kernel_rfl) (by kernel_rfl) (by kernel_rfl) (fun _ _ _ h => h) (Or.inl ⟨by rfl, fun w => by kernel_rfl⟩) ?_
  simp only [Act.put, List.getElem_toArray, List.getElem_cons_succ, List.getElem_cons_zero, List.setIfInBounds_toArray, List.set_cons_zero, List.set_cons_succ]
  refine do_one (i := 2) (by kernel_rfl) rfl (by rfl) ?_
  simp only [Act.put, List.getElem_toArray, List.getElem_cons_succ, List.getElem_cons_zero, List.setIfInBounds_toArray, List.set_cons_zero, List.set_cons_succ]
  refine wp_called (by kernel_rfl) (take_any w0.drew base F p s 8 (H0.out.of (Nat.le_refl _) (fun _ _ => rfl)) (by omega) (by omega)) ?_
  rintro e w1 ⟨A, c, rfl, ⟨F1, r1, o1, f1⟩, ⟨B, hb⟩, -, -⟩
  refine ⟨_, rfl, ?_⟩
  simp only [Act.put, List.getElem_toArray, List.getElem_cons_succ, List.getElem_cons_zero, List.setIfInBounds_toArray, List.set_cons_zero, List.set_cons_succ]
  have B1 : Blk w1 gb 111 Zs.toArray := B0.out.of (o1.block gb B0.out.lt hgw)
  refine do_one (i := 3) (by kernel_rfl) rfl (by rfl) ?_
  simp only [Act.put, List.getElem_toArray, List.getElem_cons_succ, List.getElem_cons_zero, List.setIfInBounds_toArray, List.set_cons_zero, List.set_cons_succ]
  refine wp_copy_full (.tmp 4) (.tmp 6) rfl gb 8 111 Zs B1 hzl (by rfl) A _ c B _ (by rfl) hb (got_len s 8) (by omega) ?_
  intro w2 B2 o2
  simp only [Act.put, List.getElem_toArray, List.getElem_cons_succ, List.getElem_cons_zero, List.setIfInBounds_toArray, List.set_cons_zero, List.set_cons_succ]
  refine wpAny_done (by kernel_rfl) ?_ _
  refine NoPanic.normal ?_
  have hpad : (if (s.got 8).length = 0 then Zs else u8s (s.got 8)) = u8s (padded 8 (s.got 8)) := by
    unfold padded
    rw [HZ.out]
    split
    · rfl
    · rfl
  rw [hpad] at B2
  have hgood := (H0.out.good)
  have hpl : (padded 8 (s.got 8)).length = 8 := by
    unfold padded
    split
    · simp
    · exact (got_len s 8).resolve_right (by assumption)
  have hpb : ∀ b ∈ padded 8 (s.got 8), b < 256 := by
    unfold padded
    split
    · intro b hb; obtain ⟨_, rfl⟩ := List.mem_replicate.1 hb; omega
    · exact RD.got_lt hgood 8
  have R2 : RTo w base F p (s.take 8) w2 := by
    have hf : Fresh w F F1 := fun k hk => (f1 k hk).imp id (fun h => Nat.le_trans (show w.heap.size ≤ w0.drew.heap.size from b0'.out.size) h)
    refine ⟨F1, r1.of o2.size (fun k hk => o2.block k (r1.under k hk) (fun hm => ?_)), ((Only.of_below (w' := w0.drew) (by rw [hgb]; exact b0'.out.drew) F).trans (F' := F) o1 (Fresh.refl _ _)).trans o2 (fun k hk => .inr (by simp at hk; omega)), hf⟩
    simp at hm
    subst hm
    rcases f1 _ hk with h | h
    · exact hgw h
    · have : k < w0.heap.size := B0.out.lt
      have h' : w0.heap.size ≤ k := h
      omega
  have HR := Lib.hid R2
  have H2 := Lib.hid B2
  have hrg : w2.rangeAt gb 0 (u8s (padded 8 (s.got 8))) := B2.range
  have hi : (Try.prog.info? 111).map (·.size) = some (u8s (padded 8 (s.got 8))).length := by rw [u8s_length, hpl]; exact eight_size
  have hu := Try.underlying111
  have HP := Lib.hid (And.intro hpl hpb)
  clear hpad hpl hpb R2 B2 o2 hb B1 r1 o1 f1 hgood
  go_wp2_with (refine wpList_load_mid rfl 111 (.tmp 3) rfl gb 0 rfl (u8s (padded 8 (s.got 8))) _ hrg hu rfl hi ?_)
  refine (unpacked_list _ HP.out.1 HP.out.2 w2).mono ?_
  rintro e w3 ⟨rfl, b3⟩
  rw [numOf_padded]
  go_wp2
  go_ret
  exact ⟨rfl, HR.out.then_ b3⟩
theorem one_zero (w : World) : (zeroValue 142).run Try.prog w = .ok (.agg (u8s (List.replicate 1 0)).toArray) w := by kernel_rfl
theorem rbyte_any (w : World) (base : Nat) (F : List Nat) (p : Option Addr) (s : RD) (h : Rd w base F p s) (hB : base ≤ w.heap.size) :
    Calls Try.prog 100 #[.pointer p] w fun e w' => e = .returned (.int .u8 s.byte) ∧ RTo w base F p (s.take 1) w' := by
  obtain ⟨Zs, hz, hZs⟩ : ∃ Zs : List Value, (∀ w, (zeroValue 142).run Try.prog w = .ok (.agg Zs.toArray) w) ∧ Zs = u8s (List.replicate 1 0) := ⟨_, one_zero, rfl⟩
  have hzl : Zs.length = 1 := by rw [hZs, u8s_length]; rfl
  have HZ := Lib.hid hZs
  clear hZs
  have B0 := Lib.hid (Blk.new w 142 Zs.toArray)
  have b0 := below_alloc w (.cells Zs.toArray 142)
  have H0 := Lib.hid (h.below b0)
  have hgw : w.heap.size ∉ F := fun hm => by have := h.under _ hm; omega
  have b0' := Lib.hid b0
  clear h b0
  go_enter Try.func100, Try.ntmps100
  go_wp2_with fail
  have hBw : base ≤ (w.alloc (.cells Zs.toArray 142)).heap.size := Nat.le_trans hB b0'.out.size
  generalize w.alloc (.cells Zs.toArray 142) = w0 at *
  generalize hgb : w.heap.size = gb at *
  refine any_begin (by kernel_rfl) ?_
  refine wpAny_take (i := 0) (v := .slice (some ⟨gb, 0, none⟩) 1 1) rfl (by kernel_rfl) (by kernel_rfl) (by kernel_rfl) (fun _ _ _ h => h) (Or.inl ⟨by rfl, fun w => by go_simp⟩) ?_
  simp only [Act.put, List.getElem_toArray, List.getElem_cons_succ, List.getElem_cons_zero, List.setIfInBounds_toArray, List.set_cons_zero, List.set_cons_succ]
  refine wpAny_take (i := 1) (v := .pointer p) rfl (by kernel_rfl) (by kernel_rfl) (by kernel_rfl) (fun _ _ _ h => h) (Or.inl ⟨by rfl, fun w => by kernel_rfl⟩) ?_
  simp only [Act.put, List.getElem_toArray, List.getElem_cons_succ, List.getElem_cons_zero, List.setIfInBounds_toArray, List.set_cons_zero, List.set_cons_succ]
  refine do_one (i := 2) (by kernel_rfl) rfl (by rfl) ?_
  simp only [Act.put, List.getElem_toArray, List.getElem_cons_succ, List.getElem_cons_zero, List.setIfInBounds_toArray, List.set_cons_zero, List.set_cons_succ]
  refine wp_called (by kernel_rfl) (take_any w0.drew base F p s 1 (H0.out.of (Nat.le_refl _) (fun _ _ => rfl)) (by omega) (by omega)) ?_
  rintro e w1 ⟨A, c, rfl, ⟨F1, r1, o1, f1⟩, ⟨B, hb⟩, -, -⟩
  refine ⟨_, rfl, ?_⟩
  simp only [Act.put, List.getElem_toArray, List.getElem_cons_succ, List.getElem_cons_zero, List.setIfInBounds_toArray, List.set_cons_zero, List.set_cons_succ]
  have B1 : Blk w1 gb 142 Zs.toArray := B0.out.of (o1.block gb B0.out.lt hgw)
  refine do_one (i := 3) (by kernel_rfl) rfl (by rfl) ?_
  simp only [Act.put, List.getElem_toArray, List.getElem_cons_succ, List.getElem_cons_zero, List.setIfInBounds_toArray, List.set_cons_zero, List.set_cons_succ]
  refine wp_copy_full (.tmp 4) (.tmp 6) rfl gb 1 142 Zs B1 hzl (by rfl) A _ c B _ (by rfl) hb (got_len s 1) (by omega) ?_
  intro w2 B2 o2
  simp only [Act.put, List.getElem_toArray, List.getElem_cons_succ, List.getElem_cons_zero, List.setIfInBounds_toArray, List.set_cons_zero, List.set_cons_succ]
  refine wpAny_done (by kernel_rfl) ?_ _
  refine NoPanic.normal ?_
  have hpad : (if (s.got 1).length = 0 then Zs else u8s (s.got 1)) = u8s (padded 1 (s.got 1)) := by
    unfold padded
    rw [HZ.out]
    split
    · rfl
    · rfl
  rw [hpad] at B2
  have R2 : RTo w base F p (s.take 1) w2 := by
    have hf : Fresh w F F1 := fun k hk => (f1 k hk).imp id (fun h => Nat.le_trans (show w.heap.size ≤ w0.drew.heap.size from b0'.out.size) h)
    refine ⟨F1, r1.of o2.size (fun k hk => o2.block k (r1.under k hk) (fun hm => ?_)), ((Only.of_below (w' := w0.drew) (by rw [hgb]; exact b0'.out.drew) F).trans (F' := F) o1 (Fresh.refl _ _)).trans o2 (fun k hk => .inr (by simp at hk; omega)), hf⟩
    simp at hm
    subst hm
    rcases f1 _ hk with h | h
    · exact hgw h
    · have : k < w0.heap.size := B0.out.lt
      have h' : w0.heap.size ≤ k := h
      omega
  have hcell : w2.cell? ⟨gb, 0, none⟩ = some (.int .u8 s.byte) := by
    rw [B2.cell]
    unfold RD.byte padded
    cases hg : s.got 1 with
    | nil => rfl
    | cons b l => rfl
  have HR := Lib.hid R2
  clear hpad R2 B2 o2 hb B1 r1 o1 f1
  go_wp2
  go_ret
  exact ⟨rfl, HR.out⟩
theorem rflag_any (w : World) (base : Nat) (F : List Nat) (p : Option Addr) (s : RD) (h : Rd w base F p s) (hB : base ≤ w.heap.size) :
    Calls Try.prog 84 #[.pointer p] w fun e w' => e = .returned (.bool s.flag) ∧ RTo w base F p s.flagTo w' := by
  have hby := RD.byte_lt h.good
  have hfl : ((s.byte : Int) == 1) = s.flag := by unfold RD.flag; rw [Bool.eq_iff_iff, beq_iff_eq, beq_iff_eq]; omega
  by_cases h1 : 1 < s.byte
  · have hd : decide (1 < (s.byte : Int)) = true := by simp; omega
    have hto : s.flagTo = RD.spoilt := by unfold RD.flagTo; rw [if_pos h1]
    rw [hto]
    go_enter Try.func84, Try.ntmps84
    go_wp2_with fail
    refine (rbyte_any w base F p s h hB).mono ?_
    rintro e w1 ⟨rfl, F1, r1, o1, f1⟩
    go_wp2_with fail
    refine (spoil_any w1 base F1 p _ r1).mono ?_
    rintro e w2 ⟨rfl, r2⟩
    go_wp2
    go_ret
    exact ⟨rfl, r2.after o1 f1⟩
  · have hd : decide (1 < (s.byte : Int)) = false := by simp; omega
    have hto : s.flagTo = s.take 1 := by unfold RD.flagTo; rw [if_neg h1]
    rw [hto]
    go_enter Try.func84, Try.ntmps84
    go_wp2_with fail
    refine (rbyte_any w base F p s h hB).mono ?_
    rintro e w1 ⟨rfl, r1⟩
    go_wp2
    go_ret
    exact ⟨rfl, r1⟩
theorem num_range (s : RD) : -9223372036854775808 ≤ s.num ∧ s.num ≤ 9223372036854775807 := numOf_range _
theorem RD.got_le (s : RD) (n : Int) : (s.got n).length ≤ s.bs.length := by
  unfold RD.got
  split
  · rw [List.length_take]; omega
  · simp
theorem RD.take_le (s : RD) (n : Int) : (s.take n).bs.length ≤ s.bs.length := by
  unfold RD.take
  split
  · simp
  · simp [RD.spoilt]
theorem rbytes_any (w : World) (base : Nat) (F : List Nat) (p : Option Addr) (s : RD) (h : Rd w base F p s) (hB : base ≤ w.heap.size) (hs : s.bs.length ≤ 9000000) :
    Calls Try.prog 103 #[.pointer p] w fun e w' => ∃ v F', e = .returned v ∧ Own w' w.heap.size v s.bytes.length s.bytes ∧ Rd w' base F' p s.bytesTo ∧ Only F w w' ∧ Fresh w F F' ∧ (∀ b ∈ s.bytes, b < 256) ∧ (∀ k, v.ownBlock = some k → k ∉ F') := by
  have hgot : s.bytes.length ≤ 10000000 := by have := RD.got_le (s.take 8) s.num; have := RD.take_le s 8; unfold RD.bytes; omega
  have hlt := RD.got_lt (RD.take_good h.good 8) s.num
  have hFu := h.under
  go_enter Try.func103, Try.ntmps103
  go_wp2_with fail
  refine (rnum_any w base F p s h hB).mono ?_
  rintro e w1 ⟨rfl, F1, r1, o1, f1⟩
  go_wp2_with fail
  refine (take_any w1 base F1 p (s.take 8) s.num r1 (num_range s).1 (num_range s).2).mono ?_
  rintro e w2 ⟨A, c, rfl, r2, ⟨B, hb⟩, -, -⟩
  go_wp2_with fail
  refine (clone_any A _ c s.bytes w2 B hgot hb).mono ?_
  rintro e w3 ⟨v, rfl, h3, b3⟩
  go_wp2
  go_ret
  have R2 := r2.after o1 f1
  obtain ⟨F3, q1, q2, q3⟩ := R2
  have hq2 : Only F w w2 := q2
  refine ⟨v, F3, rfl, h3.weaken q2.size, q1.below b3, q2.trans (Only.of_below b3 F3) q3, q3, hlt, fun k hk hm => ?_⟩
  have h4 := (World.ownsRow.lt h3 k hk).1
  have h5 := q1.under k hm
  omega
theorem rtext_any (w : World) (base : Nat) (F : List Nat) (p : Option Addr) (s : RD) (h : Rd w base F p s) (hB : base ≤ w.heap.size) :
    Calls Try.prog 99 #[.pointer p] w fun e w' => e = .returned (.string (strOf s.bytes)) ∧ RTo w base F p s.bytesTo w' := by
  go_enter Try.func99, Try.ntmps99
  go_wp2_with fail
  refine (rnum_any w base F p s h hB).mono ?_
  rintro e w1 ⟨rfl, F1, r1, o1, f1⟩
  go_wp2_with fail
  refine (take_any w1 base F1 p (s.take 8) s.num r1 (num_range s).1 (num_range s).2).mono ?_
  rintro e w2 ⟨A, c, rfl, r2, ⟨B, hb⟩, -, -⟩
  have hcv := str_of (P := Try.prog) hb c 23 9 5 Try.underlying23 Try.underlying5 Try.underlying9
  go_wp2
  go_ret
  exact ⟨rfl, r2.after o1 f1⟩
theorem newr_any (A : Option Addr) (n c : Nat) (bs : List Nat) (w : World) (B : Nat) (hn : n ≤ 9000000) (hb : Bytes w B A n bs) :
    Calls Try.prog 47 #[.slice A n c] w fun e w' => ∃ g F, e = .returned (.pointer (some ⟨g, 0, none⟩)) ∧ Rd w' w.heap.size F (some ⟨g, 0, none⟩) ⟨bs, false⟩ ∧ Below w.heap.size w w' := by
  go_enter Try.func47, Try.ntmps47
  go_wp2_with fail
  refine (clone_any A n c bs w B (by omega) hb).mono ?_
  rintro e w1 ⟨v, rfl, h1, b1⟩
  obtain ⟨A1, c1, rfl, hc1, hc2, hA1⟩ := h1.form
  go_wp2
  go_ret
  have hl := hb.len
  subst hl
  refine ⟨w1.heap.size, w1.heap.size :: (A1.map Addr.block).toList, rfl, .inr ⟨_, rfl, A1, c1, rfl, Blk.new _ _ _, ?_, hc1, hc2, b1.size, fun a ha => ?_, ⟨fun e => (by cases e), hb.2⟩⟩, b1.alloc b1.size _⟩
  · exact ((h1.bytes hb.2).since (below_alloc _ _)).more (by simp)
  · rcases hA1 with ⟨rfl, -⟩ | ⟨g, rfl, hg1, hg2⟩
    · cases ha
    · injection ha with ha
      subst ha
      exact ⟨hg1, Nat.lt_of_lt_of_le hg2 (by simp), Nat.ne_of_lt hg2⟩
end Go.Proofs.Ytldnghmgdmjljaa
