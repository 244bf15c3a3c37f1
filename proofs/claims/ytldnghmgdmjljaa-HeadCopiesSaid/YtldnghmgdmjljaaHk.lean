/-
  What is read of marks, links, children. Conditions: the reader lies where it is said to; its bytes are no more than a million.
-/
import Derived.Test.YtldnghmgdmjljaaHj
namespace Go.Proofs.Ytldnghmgdmjljaa
open Go.RowKit Go.BigFrame
set_option linter.unusedSimpArgs false
set_option linter.unusedVariables false
set_option maxRecDepth 100000
theorem take_len (s : RD) (n : Int) : (s.got n).length + (s.take n).bs.length ≤ s.bs.length := by
  unfold RD.got RD.take
  split
  · simp only [List.length_take, List.length_drop]; omega
  · simp [RD.spoilt]
theorem got_bad {s : RD} {n : Int} (h : s.bad = true) : s.got n = [] := by simp [RD.got, RD.fits, h]
theorem bytes_cost (s : RD) (h : s.bytes ≠ []) : s.bytes.length + 8 + s.bytesTo.bs.length ≤ s.bs.length := by
  have h1 := take_len (s.take 8) s.num
  have h2 := take_len s 8
  have h3 : (s.got 8).length = 8 := by
    have hb : (s.take 8).bad = false := by
      cases hb : (s.take 8).bad with
      | false => rfl
      | true => exact absurd (got_bad hb) h
    rcases got_len s 8 with h' | h'
    · exact_mod_cast h'
    · unfold RD.take at hb
      split at hb
      · rename_i hf
        unfold RD.got at h'
        rw [if_pos (show s.fits ((8 : Nat) : Int) = true from hf)] at h'
        simp [RD.fits] at hf
        rw [List.length_take, show ((8 : Nat) : Int).toNat = 8 from rfl] at h'
        omega
      · cases hb
  show (s.take 8 |>.got s.num).length + 8 + ((s.take 8).take s.num).bs.length ≤ _
  omega
theorem bytesTo_le (s : RD) : s.bytesTo.bs.length ≤ s.bs.length := Nat.le_trans (RD.take_le _ _) (RD.take_le _ _)
theorem bytes_le (s : RD) : s.bytes.length ≤ s.bs.length := Nat.le_trans (RD.got_le _ _) (RD.take_le _ _)
theorem flagTo_le (s : RD) : s.flagTo.bs.length ≤ s.bs.length := by
  unfold RD.flagTo
  split
  · simp [RD.spoilt]
  · exact RD.take_le _ _
theorem mkTo_le (s : RD) : s.mkTo.bs.length ≤ s.bs.length := Nat.le_trans (bytesTo_le _) (Nat.le_trans (flagTo_le _) (flagTo_le _))
theorem lkTo_le (s : RD) : s.lkTo.bs.length ≤ s.bs.length := Nat.le_trans (RD.take_le _ _) (Nat.le_trans (RD.take_le _ _) (bytesTo_le _))
theorem chT_le : ∀ (n : Nat) (s : RD), 9 * (RD.chL n s).length + (RD.chT n s).bs.length ≤ s.bs.length
  | 0, s => by simp [RD.chL, RD.chT]
  | n + 1, s => by
    rw [RD.chL, RD.chT]
    split
    · rename_i h
      have h1 := named_len h
      have h2 := bytes_cost s (fun e => by rw [e] at h1; simp at h1)
      have h3 := chT_le n s.bytesTo
      rw [List.length_cons]
      omega
    · simpa using bytesTo_le s
theorem snTo_le (s : RD) : s.snTo.bs.length ≤ s.bs.length := by
  have h := chT_le s.sn2.num.toNat (s.sn2.take 8)
  have h1 : s.sn1.bs.length ≤ s.bs.length := Nat.le_trans (RD.take_le _ _) (Nat.le_trans (bytesTo_le _) (RD.take_le _ _))
  have h2 : s.sn2.bs.length ≤ s.sn1.bs.length := Nat.le_trans (flagTo_le _) (Nat.le_trans (lkTo_le _) (mkTo_le _))
  have h3 := RD.take_le s.sn2 8
  have h4 : s.snTo.bs.length = (RD.chT s.sn2.num.toNat (s.sn2.take 8)).bs.length := rfl
  omega
theorem marksOf_len (b : List Nat) : (marksOf b).length ≤ 256 := by
  unfold marksOf
  split
  · rename_i h; rw [takeM_len]; exact h.2.1
  · simp
theorem marksOf_good (b : List Nat) : Good (marksOf b) := by
  unfold marksOf
  split
  · rename_i h; exact ⟨by rw [takeM_len]; exact h.2.1, takeM_le _ _⟩
  · exact ⟨by simp, by simp⟩
set_option maxHeartbeats 2000000 in
theorem tmarks_any (w : World) (base : Nat) (F : List Nat) (p : Option Addr) (s : RD) (h : Rd w base F p s) (hB : base ≤ w.heap.size) (hs : s.bs.length ≤ 1000000) :
    Calls Try.prog 85 #[.pointer p] w fun e w' => ∃ A c F', e = .returned (.slice A (marksOf s.bytes).length c) ∧ Own w' w.heap.size (.slice A (marksOf s.bytes).length c) (marksOf s.bytes).length (marksOf s.bytes) ∧ Rd w' base F' p s.bytesTo ∧ Only F w w' ∧ Fresh w F F' ∧ (∀ k ∈ rowOf (.slice A 0 0), k ∉ F') := by
  have hbl := bytes_le s
  have HR := Lib.hid (rbytes_any w base F p s h hB (by omega))
  clear h
  go_enter Try.func85, Try.ntmps85
  go_wp2_with fail
  refine HR.out.mono ?_
  rintro e w1 ⟨v1, F1, rfl, ho, hr, o, f, hlt, hn⟩
  obtain ⟨A1, c1, rfl⟩ := own_form ho
  have HT := Lib.hid (ktake_any A1 s.bytes.length c1 s.bytes w1 (by omega) (ho.bytes hlt))
  have HS := Lib.hid (And.intro hr (And.intro o f))
  clear ho hr o f hn
  go_wp2_with fail
  refine HT.out.mono ?_
  rintro e w2 ⟨b2, ⟨hok, v, rfl, hv⟩ | ⟨hno, rfl⟩⟩
  · have hm : marksOf s.bytes = takeM s.bytes (countOf s.bytes) := by rw [marksOf, if_pos hok]
    have hl : (marksOf s.bytes).length = countOf s.bytes := by rw [hm, takeM_len]
    obtain ⟨A2, c2, rfl⟩ := own_form hv
    have HF : Hid (∃ A c F', Value.slice A2 (countOf s.bytes) c2 = .slice A (marksOf s.bytes).length c ∧ Own w2 w.heap.size (.slice A (marksOf s.bytes).length c) (marksOf s.bytes).length (marksOf s.bytes) ∧ Rd w2 base F' p s.bytesTo ∧ Only F w w2 ∧ Fresh w F F' ∧ (∀ k ∈ rowOf (.slice A 0 0), k ∉ F')) := Lib.hid (by
      refine ⟨A2, c2, F1, by rw [hl], by rw [hl, hm]; exact hv.weaken HS.out.2.1.size, HS.out.1.below b2, HS.out.2.1.trans (Only.of_below b2 F1) HS.out.2.2, HS.out.2.2, fun k hk hf => ?_⟩
      have h1 := HS.out.1.under k hf
      have h2 := (World.ownsRow.lt hv k (mem_rowOf.1 (by rw [row_slice A2 _ _ 0 0]; exact hk))).1
      omega)
    clear hv b2 hok hm hl
    go_wp2
    go_ret
    obtain ⟨A, c, F', e, r⟩ := HF.out
    exact ⟨A, c, F', congrArg Ending.returned e, r⟩
  · have hm : marksOf s.bytes = [] := by rw [marksOf, if_neg hno]
    have HF : Hid (∃ A c F', Value.slice none 0 0 = .slice A (marksOf s.bytes).length c ∧ Own w2 w.heap.size (.slice A (marksOf s.bytes).length c) (marksOf s.bytes).length (marksOf s.bytes) ∧ Rd w2 base F' p s.bytesTo ∧ Only F w w2 ∧ Fresh w F F' ∧ (∀ k ∈ rowOf (.slice A 0 0), k ∉ F')) := Lib.hid (by
      rw [hm]
      exact ⟨none, 0, F1, rfl, Own.nil _ _, HS.out.1.below b2, HS.out.2.1.trans (Only.of_below b2 F1) HS.out.2.2, HS.out.2.2, fun k hk => (by cases hk)⟩)
    clear b2 hno hm
    go_wp2
    go_ret
    obtain ⟨A, c, F', e, r⟩ := HF.out
    exact ⟨A, c, F', congrArg Ending.returned e, r⟩
theorem link_zero (w : World) : (zeroValue 34).run Try.prog w = .ok (.agg #[.string ⟨#[]⟩, .int .i64 0, .int .i64 0]) w := by kernel_rfl
set_option maxHeartbeats 2000000 in
theorem tlink_any (w : World) (base : Nat) (F : List Nat) (p : Option Addr) (s : RD) (h : Rd w base F p s) (hB : base ≤ w.heap.size) :
    Calls Try.prog 86 #[.pointer p] w fun e w' => e = .returned (.agg #[.string (strOf s.lkv.par), .int .i64 s.lkv.ps, .int .i64 s.lkv.ov]) ∧ RTo w base F p s.lkTo w' := by
  obtain ⟨w0, hw0⟩ : ∃ w0, w0 = w.alloc (.cells #[.string ⟨#[]⟩, .int .i64 0, .int .i64 0] 34) := ⟨_, rfl⟩
  have hb0 : Below w.heap.size w w0 := by rw [hw0]; exact below_alloc w _
  have k0 : Blk w0 w.heap.size 34 #[.string ⟨#[]⟩, .int .i64 0, .int .i64 0] := by rw [hw0]; exact Blk.new w _ _
  have hn : w.heap.size ∉ F := fun hm => by have := h.under _ hm; omega
  have hr0 := h.below hb0
  have HR0 := Lib.hid hr0
  have HW := Lib.hid hw0
  have HK := Lib.hid (And.intro k0 hn)
  have HB0 := Lib.hid hb0
  have hz := link_zero
  clear h hw0 k0 hn hr0 hb0
  go_enter Try.func86, Try.ntmps86
  go_upto_region 1 with (fail)
  rw [← HW.out]
  clear HW hz
  go_wp2_with fail
  refine (rtext_any w0 base F p s HR0.out (Nat.le_trans hB HB0.out.size)).mono ?_
  rintro e w1 ⟨rfl, F1, r1, o1, f1⟩
  have H1 := Lib.hid (And.intro r1 (And.intro o1 f1))
  clear r1 o1 f1
  go_wp2_with fail
  refine (rnum_any w1 base F1 p _ H1.out.1 (Nat.le_trans hB (Nat.le_trans HB0.out.size H1.out.2.1.size))).mono ?_
  rintro e w2 ⟨rfl, F2, r2, o2, f2⟩
  have H2 := Lib.hid (And.intro r2 (And.intro (H1.out.2.1.trans o2 H1.out.2.2) (H1.out.2.2.trans f2 H1.out.2.1.size)))
  clear r2 o2 f2
  go_wp2_with fail
  refine (rnum_any w2 base F2 p _ H2.out.1 (Nat.le_trans hB (Nat.le_trans HB0.out.size H2.out.2.1.size))).mono ?_
  rintro e w3 ⟨rfl, F3, r3, o3, f3⟩
  have H3 := Lib.hid (And.intro r3 (And.intro (H2.out.2.1.trans o3 H2.out.2.2) (H2.out.2.2.trans f3 H2.out.2.1.size)))
  have K3 : Blk w3 w.heap.size 34 #[.string ⟨#[]⟩, .int .i64 0, .int .i64 0] := HK.out.1.of (H3.out.2.1.block _ HK.out.1.lt HK.out.2)
  have N3 : w.heap.size ∉ F3 := far_of (w' := w3) HK.out.1.lt HK.out.2 H3.out.2.2
  have HN3 := Lib.hid N3
  clear r3 o3 f3 N3
  go_wp2_with (have _h := K3; refine wpList_storeq rfl 34 (.tmp 2) (.tmp 9) rfl w.heap.size _ [.string (strOf s.bytes), .int .i64 s.bytesTo.num, .int .i64 (s.bytesTo.take 8).num] rfl rfl K3 rfl (by kernel_rfl) (by intro v hv; simp at hv; rcases hv with rfl | rfl | rfl <;> rfl) ?_; clear _h K3; intro w9 K9 ho9 hs9)
  refine bodyPost_ret (results_cell_row rfl _ _ w.heap.size 34 _ (0, 0) _ rfl K9 Try.underlying34 rfl (by kernel_rfl)) rfl ?_
  refine ⟨rfl, F3, H3.out.1.of (by omega) (fun k hk => ho9.block k (H3.out.1.under k hk) (fun hm => by simp at hm; subst hm; exact HN3.out hk)), ?_, fun x hx => (H3.out.2.2 x hx).imp id (Nat.le_trans HB0.out.size)⟩
  have o := H3.out.2.1
  have s1 := HB0.out.size
  have s2 := o.size
  exact ⟨ho9.os.trans (o.os.trans HB0.out.os), ho9.tape.trans (o.tape.trans HB0.out.tape), ho9.output.trans (o.output.trans HB0.out.output), by omega, fun i hi hn => (ho9.block i (by omega) (by simp; omega)).trans ((o.block i (by omega) hn).trans (HB0.out.block i hi))⟩
theorem str_info : (Try.prog.info? 9).map (fun i => (i.zero, i.size, i.bytes)) = some (some (.string ⟨#[]⟩), 1, 16) := by kernel_rfl
/-- names of the call's own -/
def OwnS (w : World) (base : Nat) (v : Value) (l : List (List Nat)) : Prop := w.ownsRow base 9 1 v l.length (strs l)
theorem OwnS.nil (w : World) (base : Nat) : OwnS w base (.slice none 0 0) [] := World.ownsRow_nil w base _ 1
/-- append of names onto names of the call's own -/
theorem app_strs {w : World} {ops : Array Oper} {rest : List Oper} {o : Oper} {a : Act} {Q : Exit → Act → World → Prop} (s x : Operand)
    (hgd : o.guard = none) (ho : o.op = .call { callee := .builtin .append, args := #[s, x], argTypes := #[60, 60] })
    (base : Nat) (v : Value) (l : List (List Nat)) (hs : a.eval s = v) (hown : OwnS w base v l)
    (B : Nat) (A : Option Addr) (m c : Nat) (news : List (List Nat)) (hx : a.eval x = .slice A m c) (hm : m = news.length) (hr : Reads w B 1 A news.length (strs news))
    (hsz : l.length + m ≤ 10000000) (hbase : base ≤ w.heap.size)
    (h : ∀ v' w', OwnS w' base v' (l ++ news) → w.grownBy w' v.ownBlock → (v'.ownBlock = v.ownBlock ∨ v'.ownBlock = some w.heap.size) → wpList Try.prog ops Q rest (a.put o.dst v') w') :
    wpList Try.prog ops Q (o :: rest) a w := by
  subst hm
  obtain ⟨i0, hi0, hz0, hz1, hz2⟩ := info_parts str_info
  refine wpList_append_any w hgd s x _ ho base 9 i0 _ 1 16 Try.underlying60 hi0 hz0 hz1 hz2 rfl (by omega) v l.length (strs l) hs hown B A news.length c (strs news) hx hr (strs_one _) (by simp only [maxLen]; omega) (by omega) hbase ?_
  intro v' w' h1 h2 h3
  exact h v' w' (by unfold OwnS; rw [strs, List.map_append, List.length_append]; exact h1) h2 h3
section
variable {P : Program} {ops : Array Oper} {rest : List Oper} {o : Oper} {a : Act} {w : World} {Q : Exit → Act → World → Prop}
/-- three cells of a block known whole are stored -/
theorem wpList_set3 (hgd : o.guard = none) (ty : TypeId) (x y : Operand) (ho : o.op = .store ty x y)
    (g i : Nat) (t : TypeId) (cs : Array Value) (u v z : Value) (hx : a.eval x = .pointer (some ⟨g, i, none⟩)) (hy : a.eval y = .agg #[u, v, z]) (hB : Blk w g t cs) (hs : i + 2 < cs.size) (hi : (P.info? ty).map (·.size) = some 3) (h1 : u.oneCell' = true) (h2 : v.oneCell' = true) (h3 : z.oneCell' = true)
    (h : ∀ w', Blk w' g t (((cs.setIfInBounds i u).setIfInBounds (i + 1) v).setIfInBounds (i + 2) z) → Only [g] w w' → w'.heap.size = w.heap.size → wpList P ops Q rest (a.put o.dst undef) w') : wpList P ops Q (o :: rest) a w := by
  refine wpList_store_mid hgd ty x y ho g i #[u, v, z] hx hy (hB.there (by simp; omega)) (by simpa using hi) (all_oneCell_toArray (cs := [u, v, z]) (by intro q hq; simp at hq; rcases hq with rfl | rfl | rfl <;> assumption)) (h _ ?_ ((Only.refl _ _).grown (by simpa using (setCells_grown g [u, v, z] i w).1) (fun k e => .inl (by injection e with e; simp [e]))) (by simpa using (setCells_grown g [u, v, z] i w).2))
  have := ((hB.set_ i u).set_ (i + 1) v).set_ (i + 2) z
  simpa [World.setCells] using this
end
end Go.Proofs.Ytldnghmgdmjljaa
