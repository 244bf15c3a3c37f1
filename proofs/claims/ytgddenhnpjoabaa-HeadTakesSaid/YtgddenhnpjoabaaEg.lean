/-
  What is read of a head, with its snapshots. Conditions: the reader lies where it is said to; its bytes are no more than a million.
-/
import Derived.Test.YtgddenhnpjoabaaEf

namespace Go.Proofs.Ytgddenhnpjoabaa
open Go.RowKit Go.BigFrame
set_option linter.unusedSimpArgs false
set_option linter.unusedVariables false
set_option maxRecDepth 100000
theorem itL_snoc {α σ : Type} (f : σ → α) (g : σ → σ) : ∀ (k : Nat) (s : σ), itL f g (k + 1) s = itL f g k s ++ [f (itT g k s)] ∧ itT g (k + 1) s = g (itT g k s)
  | 0, s => ⟨rfl, rfl⟩
  | k + 1, s => by
    obtain ⟨h1, h2⟩ := itL_snoc f g k (g s)
    refine ⟨?_, ?_⟩
    · show f s :: itL f g (k + 1) (g s) = (f s :: itL f g k (g s)) ++ [f (itT g k (g s))]
      rw [h1]
      rfl
    · exact h2
theorem itT_le {σ : Type} (g : σ → σ) (m : σ → Nat) (h : ∀ s, m (g s) ≤ m s) : ∀ (k : Nat) (s : σ), m (itT g k s) ≤ m s
  | 0, s => Nat.le_refl _
  | k + 1, s => Nat.le_trans (itT_le g m h k (g s)) (h s)
theorem snL_snoc (k : Nat) (s : RD) : RD.snL (k + 1) s = RD.snL k s ++ [(RD.snT k s).snv] ∧ RD.snT (k + 1) s = (RD.snT k s).snTo := by
  unfold RD.snL RD.snT
  exact itL_snoc RD.snv RD.snTo k s
theorem snT_le (k : Nat) (s : RD) : (RD.snT k s).bs.length ≤ s.bs.length := by
  unfold RD.snT
  exact itT_le RD.snTo (fun s => s.bs.length) snTo_le k s
theorem hdv_all (s : RD) (va : VA) (M : Option Addr) (cm : Nat) (l : List SA) (hl : l.map SA.v = RD.snL s.cnt (s.four.take 8)) (h : va = ⟨(s.take 8).num, s.hd1.flag, s.hd1.flagTo.flag, marksOf s.hd1.flagTo.flagTo.bytes, M, cm, s.hd1.mkTo.lkv.par, s.hd1.mkTo.lkv.ps, s.hd1.mkTo.lkv.ov⟩) (S : Option Addr) (c : Nat) :
    HA.v ⟨s.num, ((s.take 8).take 8).num, (((s.take 8).take 8).take 8).num, S, c, l, va, s.hd1.mkTo.lkTo.num, (s.hd1.mkTo.lkTo.take 8).num, ((s.hd1.mkTo.lkTo.take 8).take 8).num⟩ = s.hdv ∧ s.hdTo = ((s.hd1.mkTo.lkTo.take 8).take 8).take 8 := by
  subst h
  unfold HA.v RD.hdv RD.hdTo RD.hd2
  rw [← hl]
  exact ⟨rfl, rfl⟩
theorem wpList_min {ops : Array Oper} {rest : List Oper} {w : World} {o : Oper} {a : Act} {Q : Exit → Act → World → Prop} (hgd : o.guard = none) (x y : Operand) (ho : o.op = .call { callee := .builtin .min, args := #[x, y], argTypes := #[3, 3] })
    (m n r : Int) (hx : a.eval x = .int .i64 m) (hy : a.eval y = .int .i64 n) (hr : min m n = r) (h : wpList Try.prog ops Q rest (a.put o.dst (.int .i64 r)) w) : wpList Try.prog ops Q (o :: rest) a w :=
  wpList_plain hgd fun _ hK => by
    have e : (if n < m then n else m) = r := by rw [← hr]; omega
    unfold Oper.wp execOp
    simp only [ho, resolve, invoke, builtin, Sem.run_bind, Sem.run_pure, Result.andThen_ok, List.map_toArray, List.map_cons, List.map_nil, hx, hy, run_min_int2, e]
    exact hK _ _ h
/-- the snapshots read so far: rows of the call's own, out of the way of the reader -/
structure Sr (w : World) (base : Nat) (G : List Nat) (S : Option Addr) (cS : Nat) (l : List SA) : Prop where
  n : ∀ x ∈ l, x.N w base G
  own : w.ownsRow base 66 11 (.slice S l.length cS) l.length (l.flatMap SA.cells)
  far : ∀ k ∈ rowOf (.slice S 0 0), k ∉ G
theorem Sr.read {w w' : World} {base : Nat} {G G' : List Nat} {S : Option Addr} {cS : Nat} {l : List SA} (h : Sr w base G S cS l) (o : Only G w w') (f : Fresh w G G') : Sr w' base G' S cS l :=
  ⟨fun x hx => (h.n x hx).read o f, row_of h.own fun k hk => o.block k (row_under h.own k hk) (h.far k (by rw [row_slice S 0 0 l.length cS]; exact hk)), fun k hk => far_of (w' := w') (row_under h.own k (by rw [row_slice S l.length cS 0 0]; exact hk)) (h.far k hk) f⟩
theorem Sr.head {w w' : World} {base g : Nat} {G : List Nat} {S : Option Addr} {cS : Nat} {l : List SA} {cs : Array Value} (h : Sr w base G S cS l) (hk : Blk w g 36 cs) (o : Only [g] w w') : Sr w' base G S cS l :=
  ⟨fun x hx => (h.n x hx).stay (stay_only hk (by decide) (by decide) o), row_of h.own fun k hm => o.block k (row_under h.own k hm) (fun hx => by
    simp at hx
    subst hx
    obtain ⟨cs', hb⟩ := own_ty h.own hm
    exact hb.ne_ hk (by decide) rfl), h.far⟩
theorem sr_app {w W4 W5 : World} {base : Nat} {F G : List Nat} {p : Option Addr} {s : RD} {g2 g3 : Nat} {Z2 cs3 : Array Value} {S A5 : Option Addr} {cS c5 : Nat} {l : List SA} {a : SA} (h : Tb base w W4 F G p s 36 g2 g3 Z2 cs3) (hr : Sr W4 w.heap.size G S cS l) (ha : a.N W4 w.heap.size G)
    (h5 : W5.ownsRow w.heap.size 66 11 (.slice A5 (l.length + 1) c5) (l.length + 1) (l.flatMap SA.cells ++ a.cells)) (g5 : W4.grownBy W5 (Value.slice S l.length cS).ownBlock) (a5 : (Value.slice A5 (l.length + 1) c5).ownBlock = (Value.slice S l.length cS).ownBlock ∨ (Value.slice A5 (l.length + 1) c5).ownBlock = some W4.heap.size) :
    Tb base w W5 F G p s 36 g2 g3 Z2 cs3 ∧ Sr W5 w.heap.size G A5 c5 (l ++ [a]) := by
  have hty : ∀ j, (Value.slice S l.length cS).ownBlock = some j → ∃ cs, Blk W4 j 66 cs := fun j hj => own_ty hr.own (mem_rowOf.2 hj)
  have hN : ∀ x : SA, x.N W4 w.heap.size G → x.N W5 w.heap.size G := fun x hx => hx.of (fun k hk => g5.block k (hx.vw.under hk) (fun e => by
    obtain ⟨cs, hb⟩ := hty k e.symm
    obtain ⟨cs', hb'⟩ := hx.vw.ty hk
    exact hb.ne_ hb' (by decide) rfl)) (fun k hk => g5.block k (hx.under hk) (fun e => by
    obtain ⟨cs, hb⟩ := hty k e.symm
    obtain ⟨cs', hb'⟩ := hx.ty hk
    exact hb.ne_ hb' (by decide) rfl))
  refine ⟨h.grow g5 (fun j hj => ⟨hr.far j (by rw [row_slice S 0 0 l.length cS]; exact mem_rowOf.2 hj), ?_, ?_, (World.ownsRow.lt hr.own j hj).1⟩), fun x hx => ?_, ?_, fun k hk => ?_⟩
  · obtain ⟨cs, hb⟩ := hty j hj
    exact hb.ne_ h.k2 (by decide)
  · obtain ⟨cs, hb⟩ := hty j hj
    exact hb.ne_ h.k3 (by decide)
  · rcases List.mem_append.1 hx with hx | hx
    · exact hN x (hr.n x hx)
    · simp only [List.mem_singleton] at hx
      subst hx
      exact hN x ha
  · rw [List.flatMap_append, List.length_append]
    simpa using h5
  · rw [row_slice A5 0 0 (l.length + 1) c5, mem_rowOf] at hk
    rcases a5 with e | e
    · rw [e] at hk
      exact hr.far k (by rw [row_slice S 0 0 l.length cS]; exact mem_rowOf.2 hk)
    · rw [e] at hk
      injection hk with hk
      subst hk
      exact fun hm => by have := h.rd.under _ hm; omega
theorem Sr.below {w w' : World} {base : Nat} {G : List Nat} {S : Option Addr} {cS : Nat} {l : List SA} (h : Sr w base G S cS l) (hb : Below w.heap.size w w') : Sr w' base G S cS l :=
  ⟨fun x hx => (h.n x hx).below hb, own_below h.own hb, h.far⟩
set_option maxHeartbeats 16000000 in
theorem thead_any (w : World) (base : Nat) (F : List Nat) (p : Option Addr) (s : RD) (h : Rd w base F p s) (hB : base ≤ w.heap.size) (hs : s.bs.length ≤ 1000000) :
    Calls Try.prog 50 #[.pointer p] w (THeadTo w base F p s) := by
  obtain ⟨w0, hw0⟩ : ∃ w0, w0 = w.alloc (.cells #[.int .i64 0, .int .i64 0, .int .i64 0, .int .i64 0, .slice none 0 0, .bool false, .bool false, .slice none 0 0, .string ⟨#[]⟩, .int .i64 0, .int .i64 0, .int .i64 0, .int .i64 0, .int .i64 0] 36) := ⟨_, rfl⟩
  have hb0 : Below w.heap.size w w0 := by rw [hw0]; exact below_alloc w _
  have k0 : Blk w0 w.heap.size 36 #[.int .i64 0, .int .i64 0, .int .i64 0, .int .i64 0, .slice none 0 0, .bool false, .bool false, .slice none 0 0, .string ⟨#[]⟩, .int .i64 0, .int .i64 0, .int .i64 0, .int .i64 0, .int .i64 0] := by rw [hw0]; exact Blk.new w _ _
  have hn : w.heap.size ∉ F := fun hm => by have := h.under _ hm; omega
  have HR0 := Lib.hid (h.below hb0)
  have HW := Lib.hid hw0
  have HK := Lib.hid (And.intro k0 hn)
  have HB0 := Lib.hid hb0
  have hz := head_zero
  obtain ⟨s5, hs5⟩ : ∃ s5, s5 = s.four.take 8 := ⟨_, rfl⟩
  have HL : Hid (s5.bs.length ≤ 1000000) := Lib.hid (by rw [hs5]; exact Nat.le_trans (RD.take_le _ _) (Nat.le_trans (RD.take_le _ _) (Nat.le_trans (RD.take_le _ _) (Nat.le_trans (RD.take_le _ _) (Nat.le_trans (RD.take_le _ _) hs)))))
  have HS5 := Lib.hid hs5
  obtain ⟨n, hn0⟩ : ∃ n, n = s.cnt := ⟨_, rfl⟩
  have hn16 : n ≤ 16 := by rw [hn0]; unfold RD.cnt; omega
  obtain ⟨vb, hvb⟩ : ∃ vb, vb = min s.four.num 16 := ⟨_, rfl⟩
  have hnv : n = vb.toNat := by rw [hn0, hvb]; rfl
  obtain ⟨s6, hs6⟩ : ∃ s6, s6 = s.hd1 := ⟨_, rfl⟩
  have H56 : Hid (s6 = RD.snT n s5) := Lib.hid (by rw [hs6, hn0, hs5]; rfl)
  have HHV := Lib.hid (hdv_all s)
  rw [← hs6, ← hn0, ← hs5] at HHV
  have HVB := Lib.hid hvb
  have HLK : Hid (∀ k, (RD.snT k s5).bs.length ≤ 1000000) := Lib.hid fun k => Nat.le_trans (snT_le k s5) HL.out
  have HL6 : Hid (s6.bs.length ≤ 1000000) := Lib.hid (by rw [H56.out]; exact HLK.out n)
  obtain ⟨i1, hi1⟩ : ∃ i1, i1 = s.num := ⟨_, rfl⟩
  obtain ⟨i2, hi2⟩ : ∃ i2, i2 = (s.take 8).num := ⟨_, rfl⟩
  obtain ⟨i3, hi3⟩ : ∃ i3, i3 = ((s.take 8).take 8).num := ⟨_, rfl⟩
  obtain ⟨i4, hi4⟩ : ∃ i4, i4 = (((s.take 8).take 8).take 8).num := ⟨_, rfl⟩
  rw [← hi1, ← hi2, ← hi3, ← hi4] at HHV
  have HI := Lib.hid (And.intro hi1 (And.intro hi2 (And.intro hi3 hi4)))
  have HI2 : Hid (I64 i2) := Lib.hid (by rw [hi2]; exact num_range _)
  clear h hw0 k0 hn hb0 hs5 hs hn0 hvb hs6 hi1 hi2 hi3 hi4
  go_enter Try.func50, Try.ntmps50
  go_upto_region 1 with (fail)
  rw [← HW.out]
  clear HW hz
  go_wp2_with fail
  refine (rnum_any w0 base F p _ HR0.out (Nat.le_trans hB HB0.out.size)).mono ?_
  rintro e w1 ⟨rfl, G1, r, o, f⟩
  rw [← HI.out.1]
  have H1 := Lib.hid (And.intro r (And.intro o f))
  clear r o f
  go_wp2_with fail
  refine (rnum_any w1 base G1 p _ H1.out.1 (Nat.le_trans hB (Nat.le_trans HB0.out.size H1.out.2.1.size))).mono ?_
  rintro e w2 ⟨rfl, G2, r, o, f⟩
  rw [← HI.out.2.1]
  have H2 := Lib.hid (And.intro r (And.intro (H1.out.2.1.trans o H1.out.2.2) (H1.out.2.2.trans f H1.out.2.1.size)))
  clear r o f
  go_wp2_with fail
  refine (rnum_any w2 base G2 p _ H2.out.1 (Nat.le_trans hB (Nat.le_trans HB0.out.size H2.out.2.1.size))).mono ?_
  rintro e w3 ⟨rfl, G3, r, o, f⟩
  rw [← HI.out.2.2.1]
  have H3 := Lib.hid (And.intro r (And.intro (H2.out.2.1.trans o H2.out.2.2) (H2.out.2.2.trans f H2.out.2.1.size)))
  clear r o f
  go_wp2_with fail
  refine (rnum_any w3 base G3 p _ H3.out.1 (Nat.le_trans hB (Nat.le_trans HB0.out.size H3.out.2.1.size))).mono ?_
  rintro e w4 ⟨rfl, G4, r, o, f⟩
  rw [← HI.out.2.2.2]
  have H4 := Lib.hid (And.intro r (And.intro (H3.out.2.1.trans o H3.out.2.2) (H3.out.2.2.trans f H3.out.2.1.size)))
  clear r o f
  obtain ⟨w5, hw5⟩ : ∃ w5, w5 = w4.alloc (.cells #[.int .i64 i1, .int .i64 i2, .int .i64 i3, .int .i64 i4, .slice none 0 0, .bool false, .bool false, .slice none 0 0, .string ⟨#[]⟩, .int .i64 0, .int .i64 0, .int .i64 0, .int .i64 0, .int .i64 0] 36) := ⟨_, rfl⟩
  obtain ⟨g3, hg3⟩ : ∃ g3, g3 = w4.heap.size := ⟨_, rfl⟩
  have hlt03 : w.heap.size < w4.heap.size := Nat.lt_of_lt_of_le HK.out.1.lt H4.out.2.1.size
  have HT5 : Hid (Tb base w w5 F G4 p s.four 36 w.heap.size g3 #[.int .i64 0, .int .i64 0, .int .i64 0, .int .i64 0, .slice none 0 0, .bool false, .bool false, .slice none 0 0, .string ⟨#[]⟩, .int .i64 0, .int .i64 0, .int .i64 0, .int .i64 0, .int .i64 0] #[.int .i64 i1, .int .i64 i2, .int .i64 i3, .int .i64 i4, .slice none 0 0, .bool false, .bool false, .slice none 0 0, .string ⟨#[]⟩, .int .i64 0, .int .i64 0, .int .i64 0, .int .i64 0, .int .i64 0]) := Lib.hid (by
    have hb4 : Below w4.heap.size w4 w5 := by rw [hw5]; exact below_alloc w4 _
    refine ⟨H4.out.1.below hb4, (Only.of_below HB0.out F).trans (H4.out.2.1.trans (Only.of_below hb4 G4) H4.out.2.2) (Fresh.refl _ _), fun x hx => (H4.out.2.2 x hx).imp id (Nat.le_trans HB0.out.size), (HK.out.1.of (H4.out.2.1.block _ HK.out.1.lt HK.out.2)).of (hb4.block _ hlt03), far_of (w' := w4) HK.out.1.lt HK.out.2 H4.out.2.2, ?_, ?_, ?_, ?_⟩
    · rw [hw5, hg3]; exact Blk.new w4 _ _
    · rw [hg3]; exact fun hm => by have := H4.out.1.under _ hm; omega
    · exact Nat.le_refl _
    · omega)
  have HNE : Hid (w.heap.size ≠ g3) := Lib.hid (by rw [hg3]; omega)
  have HW5 := Lib.hid (And.intro hw5 hg3)
  clear hw5 hg3
  go_upto_region 2 with (fail)
  rw [← HW5.out.1, ← HW5.out.2]
  clear HW5
  have hb5 := Nat.le_trans hB HT5.out.only.size
  go_wp2_with fail
  refine (rnum_any w5 base G4 p _ HT5.out.rd hb5).mono ?_
  rintro e w6 ⟨rfl, G6, r, o, f⟩
  rw [← HS5.out] at r
  have HT6 := Lib.hid (HT5.out.read r o f)
  clear r o f hb5
  go_wp2_with (refine wpList_min rfl (.tmp 14) (.const (.int .i64 16)) rfl s.four.num 16 vb rfl rfl HVB.out.symm ?_)
  go_loopw [16] (fun i wr => ∃ (k : Nat) (l : List SA) (S : Option Addr) (cS : Nat) (G : List Nat), k ≤ n ∧ i = .int .i64 k ∧ l.length = k ∧ l.map SA.v = RD.snL k s5 ∧ Tb base w wr F G p (RD.snT k s5) 36 w.heap.size g3 #[.int .i64 0, .int .i64 0, .int .i64 0, .int .i64 0, .slice none 0 0, .bool false, .bool false, .slice none 0 0, .string ⟨#[]⟩, .int .i64 0, .int .i64 0, .int .i64 0, .int .i64 0, .int .i64 0] #[.int .i64 i1, .int .i64 i2, .int .i64 i3, .int .i64 i4, .slice S l.length cS, .bool false, .bool false, .slice none 0 0, .string ⟨#[]⟩, .int .i64 0, .int .i64 0, .int .i64 0, .int .i64 0, .int .i64 0] ∧ Sr wr w.heap.size G S cS l) (fun i _ => n - (intOf i).toNat)
  case atStart => exact ⟨0, [], none, 0, _, by omega, rfl, rfl, rfl, HT6.out, ⟨fun x hx => (by cases hx), World.ownsRow_nil _ _ _ 11, fun k hk => (by cases hk)⟩⟩
  case round =>
  obtain ⟨k, l, S, cS, G6, hk, rfl, hll, hlv, hT, hR⟩ := hrel
  have hlv0 := hlv
  by_cases hlt : k < n
  · have dl : decide ((k : Int) < vb) = true := decide_eq_true (by omega)
    have hwk : IntKind.i64.wrap ((k : Int) + 1) = (k : Int) + 1 := by rw [IntKind.wrap_i64]; omega
    have HTK := Lib.hid hT
    have HRK := Lib.hid hR
    have HLV := Lib.hid (And.intro hll hlv)
    clear hll hlv hlv0 hT hR
    go_upto_region 4 with (fail)
    have hS : Blk (World.drew wr) g3 36 #[.int .i64 i1, .int .i64 i2, .int .i64 i3, .int .i64 i4, .slice S l.length cS, .bool false, .bool false, .slice none 0 0, .string ⟨#[]⟩, .int .i64 0, .int .i64 0, .int .i64 0, .int .i64 0, .int .i64 0] := HTK.out.k3
    refine any_beginL (fun W => Blk W g3 36 #[.int .i64 i1, .int .i64 i2, .int .i64 i3, .int .i64 i4, .slice S l.length cS, .bool false, .bool false, .slice none 0 0, .string ⟨#[]⟩, .int .i64 0, .int .i64 0, .int .i64 0, .int .i64 0, .int .i64 0]) 7 (by kernel_rfl) ?_
    refine L_take (i := 0) (v := .pointer (some ⟨g3, 4, none⟩)) rfl rfl (by kernel_rfl) (by kernel_rfl) (by kernel_rfl) (by kernel_rfl) (fun _ _ _ h => h) (Or.inl ⟨by rfl, fun W hw => by go_simp⟩) hS ?_
    simp only [Act.put, List.getElem_toArray, List.getElem_cons_succ, List.getElem_cons_zero, List.setIfInBounds_toArray, List.set_cons_zero, List.set_cons_succ]
    refine L_take (i := 1) (v := .slice S l.length cS) rfl rfl (by kernel_rfl) (by kernel_rfl) (by kernel_rfl) (by kernel_rfl) (fun _ _ _ h => h) (Or.inl ⟨by rfl, fun W hw => by have q : W.cell? ⟨g3, 4, none⟩ = some (.slice S l.length cS) := hw.cell 4; go_simp⟩) hS ?_
    simp only [Act.put, List.getElem_toArray, List.getElem_cons_succ, List.getElem_cons_zero, List.setIfInBounds_toArray, List.set_cons_zero, List.set_cons_succ]
    refine L_take (i := 2) (v := .pointer p) rfl rfl (by kernel_rfl) (by kernel_rfl) (by kernel_rfl) (by kernel_rfl) (fun _ _ _ h => h) (Or.inl ⟨by rfl, fun W hw => by go_simp⟩) hS ?_
    simp only [Act.put, List.getElem_toArray, List.getElem_cons_succ, List.getElem_cons_zero, List.setIfInBounds_toArray, List.set_cons_zero, List.set_cons_succ]
    have hTd : Tb base w (World.drew wr) F G6 p (RD.snT k s5) 36 w.heap.size g3 #[.int .i64 0, .int .i64 0, .int .i64 0, .int .i64 0, .slice none 0 0, .bool false, .bool false, .slice none 0 0, .string ⟨#[]⟩, .int .i64 0, .int .i64 0, .int .i64 0, .int .i64 0, .int .i64 0] #[.int .i64 i1, .int .i64 i2, .int .i64 i3, .int .i64 i4, .slice S l.length cS, .bool false, .bool false, .slice none 0 0, .string ⟨#[]⟩, .int .i64 0, .int .i64 0, .int .i64 0, .int .i64 0, .int .i64 0] := HTK.out.next (Below.refl _ wr).drew
    have hRd : Sr (World.drew wr) w.heap.size G6 S cS l := HRK.out.below (Below.refl _ wr).drew
    have HTd := Lib.hid hTd
    have HRd := Lib.hid hRd
    clear hTd hRd
    refine L_one (j := 3) (by kernel_rfl) rfl (by rfl) ?_
    simp only [Act.put, List.getElem_toArray, List.getElem_cons_succ, List.getElem_cons_zero, List.setIfInBounds_toArray, List.set_cons_zero, List.set_cons_succ]
    refine wp_called (by go_simp) (tsnap_any (World.drew wr) base G6 p (RD.snT k s5) HTd.out.rd (Nat.le_trans hB HTd.out.only.size) (HLK.out k)) ?_
    rintro e W3 ⟨a, G7, rfl, hav, haN, r, o, f⟩
    have HT3 := Lib.hid (HTd.out.read r o f)
    have HR3 := Lib.hid (HRd.out.read o f)
    have HN3 := Lib.hid (haN.weaken (show w.heap.size ≤ _ from HTd.out.only.size))
    have HAV := Lib.hid hav
    clear r o f haN hav
    refine ⟨_, rfl, HT3.out.k3, ?_⟩
    unfold SA.cells
    simp only [Act.put, List.getElem_toArray, List.getElem_cons_succ, List.getElem_cons_zero, List.setIfInBounds_toArray, List.set_cons_zero, List.set_cons_succ]
    refine L_one (j := 4) (by kernel_rfl) rfl (by rfl) ?_
    simp only [Act.put, List.getElem_toArray, List.getElem_cons_succ, List.getElem_cons_zero, List.setIfInBounds_toArray, List.set_cons_zero, List.set_cons_succ]
    obtain ⟨W4, hW4⟩ : ∃ W', W' = World.alloc W3 (.cells a.cells.toArray 66) := ⟨_, rfl⟩
    have hb4 : Below W3.heap.size W3 W4 := by rw [hW4]; exact below_alloc _ _
    have hn4 : Reads W4 (W3.heap.size + 1) 11 (some ⟨W3.heap.size, 0, none⟩) 1 a.cells := by rw [hW4]; exact Reads.newN W3 a.cells 1 11 66 (0, 0) rfl
    refine wp_ran (v := .slice (some ⟨W3.heap.size, 0, none⟩) 1 1) (w' := W4) (by rw [hW4]; unfold SA.cells; go_simp) ⟨(HT3.out.next hb4).k3, ?_⟩
    simp only [Act.put, List.getElem_toArray, List.getElem_cons_succ, List.getElem_cons_zero, List.setIfInBounds_toArray, List.set_cons_zero, List.set_cons_succ]
    have HT4 := Lib.hid (HT3.out.next hb4)
    have HR4 := Lib.hid (HR3.out.below hb4)
    have HN4 := Lib.hid (HN3.out.below hb4)
    have hz4 : W3.heap.size ≤ W4.heap.size := hb4.size
    clear hW4 hb4
    refine L_one (j := 5) (by kernel_rfl) rfl (by rfl) ?_
    simp only [Act.put, List.getElem_toArray, List.getElem_cons_succ, List.getElem_cons_zero, List.setIfInBounds_toArray, List.set_cons_zero, List.set_cons_succ]
    obtain ⟨i0, hi0, hz0, hz1, hz2⟩ := info_parts snap_info
    refine wp_append_any _ (.tmp 19) (.tmp 22) 32 rfl w.heap.size 66 i0 _ 11 120 Try.underlying32 hi0 hz0 hz1 hz2 rfl (by omega) (.slice S l.length cS) l.length (l.flatMap SA.cells) rfl HR4.out.own (W3.heap.size + 1) (some ⟨W3.heap.size, 0, none⟩) 1 1 a.cells rfl hn4 (SA.cells_one a) (by have := HLV.out.1; simp only [maxLen]; omega) (by have := HLV.out.1; omega) HT4.out.only.size ?_
    intro v5 W5 h5 g5 a5
    obtain ⟨A5, c5, rfl⟩ := own_form h5
    have HS5' := Lib.hid (sr_app HT4.out HR4.out HN4.out h5 g5 a5)
    refine ⟨HS5'.out.1.k3, ?_⟩
    simp only [Act.put, List.getElem_toArray, List.getElem_cons_succ, List.getElem_cons_zero, List.setIfInBounds_toArray, List.set_cons_zero, List.set_cons_succ]
    refine L_take (i := 6) (v := .pointer (some ⟨g3, 4, none⟩)) rfl rfl (by kernel_rfl) (by kernel_rfl) (by kernel_rfl) (by kernel_rfl) (fun _ _ _ h => h) (Or.inl ⟨by rfl, fun W hw => by go_simp⟩) HS5'.out.1.k3 ?_
    simp only [Act.put, List.getElem_toArray, List.getElem_cons_succ, List.getElem_cons_zero, List.setIfInBounds_toArray, List.set_cons_zero, List.set_cons_succ]
    refine L_last (by kernel_rfl) rfl (by rfl) (by kernel_rfl) ?_
    simp only [Act.put, List.getElem_toArray, List.getElem_cons_succ, List.getElem_cons_zero, List.setIfInBounds_toArray, List.set_cons_zero, List.set_cons_succ]
    refine wp_setq 32 (.tmp 24) (.tmp 23) rfl g3 4 36 _ (.slice A5 (l.length + 1) c5) rfl rfl HS5'.out.1.k3 (by simp) (by kernel_rfl) rfl ?_
    intro W6 K6 o6 z6
    refine NoPanic.normal ?_
    have HT6 := Lib.hid (HS5'.out.1.store HNE.out K6 o6 z6)
    have HR6 := Lib.hid (HS5'.out.2.head HS5'.out.1.k3 o6)
    clear h5 g5 a5 K6 o6 z6 hn4
    go_wp2
    have e := snL_snoc k s5
    exact ⟨⟨k + 1, l ++ [a], A5, c5, G7, by omega, by go_num, by simp [HLV.out.1], by rw [e.1, List.map_append, HLV.out.2]; simp [HAV.out], by rw [e.2]; simpa using HT6.out, HR6.out⟩, by simp only [intOf]; omega⟩
  · obtain rfl : k = n := by omega
    have dl : decide ((k : Int) < vb) = false := decide_eq_false (by omega)
    have HT6 : Hid (Tb base w wr F G6 p s6 36 w.heap.size g3 #[.int .i64 0, .int .i64 0, .int .i64 0, .int .i64 0, .slice none 0 0, .bool false, .bool false, .slice none 0 0, .string ⟨#[]⟩, .int .i64 0, .int .i64 0, .int .i64 0, .int .i64 0, .int .i64 0] #[.int .i64 i1, .int .i64 i2, .int .i64 i3, .int .i64 i4, .slice S l.length cS, .bool false, .bool false, .slice none 0 0, .string ⟨#[]⟩, .int .i64 0, .int .i64 0, .int .i64 0, .int .i64 0, .int .i64 0]) := Lib.hid (by rw [H56.out]; exact hT)
    have HR6 := Lib.hid hR
    have HLV := Lib.hid (And.intro hll hlv)
    clear hll hlv hlv0 hT hR
    go_upto_region 6 with (fail)
    have hb6 := Nat.le_trans hB HT6.out.only.size
    go_wp2_with fail
    refine (rflag_any wr base G6 p _ HT6.out.rd hb6).mono ?_
    rintro e w7 ⟨rfl, G7, r, o, f⟩
    have HT7 := Lib.hid (HT6.out.read r o f)
    have HR7 := Lib.hid (HR6.out.read o f)
    clear r o f hb6
    have hb7 := Nat.le_trans hB HT7.out.only.size
    go_wp2_with fail
    refine (rflag_any w7 base G7 p _ HT7.out.rd hb7).mono ?_
    rintro e w8 ⟨rfl, G8, r, o, f⟩
    have HT8 := Lib.hid (HT7.out.read r o f)
    have HR8 := Lib.hid (HR7.out.read o f)
    clear r o f hb7
    have hb8 := Nat.le_trans hB HT8.out.only.size
    have hl8 : s6.flagTo.flagTo.bs.length ≤ 1000000 := Nat.le_trans (flagTo_le _) (Nat.le_trans (flagTo_le _) HL6.out)
    go_wp2_with fail
    refine (tmarks_any w8 base G8 p _ HT8.out.rd hb8 hl8).mono ?_
    rintro e w9 ⟨M, cm, G9, rfl, hm, r, o, f, far⟩
    have HT9 := Lib.hid (HT8.out.read r o f)
    have HR9 := Lib.hid (HR8.out.read o f)
    have HM9 := Lib.hid (And.intro (Own.weaken (base' := w.heap.size) hm HT8.out.only.size) far)
    clear r o f hb8 hl8 hm far
    have hb9 := Nat.le_trans hB HT9.out.only.size
    go_wp2_with fail
    refine (tlink_any w9 base G9 p _ HT9.out.rd hb9).mono ?_
    rintro e w10 ⟨rfl, G10, r, o, f⟩
    obtain ⟨s7, hs7⟩ : ∃ s7, s7 = s6.mkTo.lkTo := ⟨_, rfl⟩
    have HT10 : Hid (Tb base w w10 F G10 p s7 36 w.heap.size g3 #[.int .i64 0, .int .i64 0, .int .i64 0, .int .i64 0, .slice none 0 0, .bool false, .bool false, .slice none 0 0, .string ⟨#[]⟩, .int .i64 0, .int .i64 0, .int .i64 0, .int .i64 0, .int .i64 0] #[.int .i64 i1, .int .i64 i2, .int .i64 i3, .int .i64 i4, .slice S l.length cS, .bool false, .bool false, .slice none 0 0, .string ⟨#[]⟩, .int .i64 0, .int .i64 0, .int .i64 0, .int .i64 0, .int .i64 0]) := Lib.hid (by rw [hs7]; exact HT9.out.read r o f)
    obtain ⟨va, hva⟩ : ∃ va : VA, va = ⟨i2, s6.flag, s6.flagTo.flag, marksOf s6.flagTo.flagTo.bytes, M, cm, s6.mkTo.lkv.par, s6.mkTo.lkv.ps, s6.mkTo.lkv.ov⟩ := ⟨_, rfl⟩
    have HVA10 : Hid (va.N w10 w.heap.size G10) := Lib.hid (by
      have hk : ∀ k ∈ rowOf (.slice M 0 0), k < w9.heap.size := fun k hk => row_under HM9.out.1 k (by rw [row_slice M _ _ 0 0]; exact hk)
      have hg := HT9.out.rd.good
      have hle : s6.mkTo.lkv.par.length ≤ 1000000 := Nat.le_trans (bytes_le _) (Nat.le_trans (mkTo_le _) HL6.out)
      subst hva
      exact ⟨row_of HM9.out.1 (fun k h9 => o.block k (row_under HM9.out.1 k h9) (HM9.out.2 k (by rw [row_slice M 0 0 (marksOf s6.flagTo.flagTo.bytes).length cm]; exact h9))), fun k h9 => far_of (w' := w10) (hk k h9) (HM9.out.2 k h9) f, fun b hb => by have := (marksOf_good s6.flagTo.flagTo.bytes).2 b hb; omega, RD.got_lt (RD.take_good hg 8) _, HI2.out, num_range _, num_range _, hle⟩)
    have HVE := Lib.hid hva
    have HHF := Lib.hid (HHV.out va M cm l HLV.out.2 hva S cS)
    have K10 := HT10.out.k3
    rw [← hs7] at HHF
    have HS7 := Lib.hid hs7
    have HR10 := Lib.hid (HR9.out.read o f)
    clear r o f hb9 hva hs7 HHV
    go_wp2_with (first
      | (have _h := K10; refine wpList_setq rfl 4 (.tmp 34) (.tmp 27) rfl g3 5 36 _ (.bool s6.flag) rfl rfl K10 (by simp) (by kernel_rfl) rfl ?_; clear _h K10; intro wA KA oA sA)
      | (have _h := KA; refine wpList_setq rfl 4 (.tmp 35) (.tmp 29) rfl g3 6 36 _ (.bool s6.flagTo.flag) rfl rfl KA (by simp) (by kernel_rfl) rfl ?_; have KA' := KA; clear _h KA; intro wB KB oB sB)
      | (have _h := KB; refine wpList_setq rfl 33 (.tmp 36) (.tmp 31) rfl g3 7 36 _ (.slice M (marksOf s6.flagTo.flagTo.bytes).length cm) rfl rfl KB (by simp) (by kernel_rfl) rfl ?_; have KB' := KB; clear _h KB; intro wC KC oC sC)
      | (have _h := KC; refine wpList_set3 rfl 34 (.tmp 37) (.tmp 33) rfl g3 8 36 _ (.string (strOf s6.mkTo.lkv.par)) (.int .i64 s6.mkTo.lkv.ps) (.int .i64 s6.mkTo.lkv.ov) rfl rfl KC (by simp) (by kernel_rfl) rfl rfl rfl ?_; have KC' := KC; clear _h KC; intro wD KD oD sD; have KD' := KD; clear KD))
    have HTD : Hid (Tb base w wD F G10 p s7 36 w.heap.size g3 #[.int .i64 0, .int .i64 0, .int .i64 0, .int .i64 0, .slice none 0 0, .bool false, .bool false, .slice none 0 0, .string ⟨#[]⟩, .int .i64 0, .int .i64 0, .int .i64 0, .int .i64 0, .int .i64 0] #[.int .i64 i1, .int .i64 va.size, .int .i64 i3, .int .i64 i4, .slice S l.length cS, .bool va.on, .bool va.good, .slice va.M va.row.length va.cm, .string (strOf va.par), .int .i64 va.ps, .int .i64 va.ov, .int .i64 0, .int .i64 0, .int .i64 0]) := Lib.hid (by
      have := (((HT10.out.store HNE.out KA' oA sA).store HNE.out KB' oB sB).store HNE.out KC' oC sC).store HNE.out KD' oD sD
      rw [HVE.out]
      simpa using this)
    have HVD : Hid (va.N wD w.heap.size G10) := Lib.hid ((((HVA10.out.stay (stay_only HT10.out.k3 (by decide) (by decide) oA)).stay (stay_only KA' (by decide) (by decide) oB)).stay (stay_only KB' (by decide) (by decide) oC)).stay (stay_only KC' (by decide) (by decide) oD))
    have HRD := Lib.hid ((((HR10.out.head HT10.out.k3 oA).head KA' oB).head KB' oC).head KC' oD)
    clear KA' KB' KC' KD' oA oB oC oD sA sB sC sD
    obtain ⟨j1, hj1⟩ : ∃ j1, j1 = s7.num := ⟨_, rfl⟩
    obtain ⟨j2, hj2⟩ : ∃ j2, j2 = (s7.take 8).num := ⟨_, rfl⟩
    obtain ⟨j3, hj3⟩ : ∃ j3, j3 = ((s7.take 8).take 8).num := ⟨_, rfl⟩
    rw [← hj1, ← hj2, ← hj3] at HHF
    have HJ := Lib.hid (And.intro hj1 (And.intro hj2 hj3))
    clear hj1 hj2 hj3
    have hbx := Nat.le_trans hB HTD.out.only.size
    go_wp2_with fail
    refine (rnum_any wD base G10 p _ HTD.out.rd hbx).mono ?_
    rintro e y0 ⟨rfl, K0, r, o, f⟩
    rw [← HJ.out.1]
    have HTY0 := Lib.hid (HTD.out.read r o f)
    have HRY0 := Lib.hid (HRD.out.read o f)
    have HVY0 := Lib.hid (HVD.out.read o f)
    clear r o f hbx
    have hbx := Nat.le_trans hB HTY0.out.only.size
    go_wp2_with fail
    refine (rnum_any y0 base K0 p _ HTY0.out.rd hbx).mono ?_
    rintro e y1 ⟨rfl, K1, r, o, f⟩
    rw [← HJ.out.2.1]
    have HTY1 := Lib.hid (HTY0.out.read r o f)
    have HRY1 := Lib.hid (HRY0.out.read o f)
    have HVY1 := Lib.hid (HVY0.out.read o f)
    clear r o f hbx
    have hbx := Nat.le_trans hB HTY1.out.only.size
    go_wp2_with fail
    refine (rnum_any y1 base K1 p _ HTY1.out.rd hbx).mono ?_
    rintro e y2 ⟨rfl, K2, r, o, f⟩
    rw [← HJ.out.2.2]
    have HTY2 := Lib.hid (HTY1.out.read r o f)
    have HRY2 := Lib.hid (HRY1.out.read o f)
    have HVY2 := Lib.hid (HVY1.out.read o f)
    clear r o f hbx
    have KY := HTY2.out.k3
    go_upto_region 8 with (first
      | (have _h := KY; refine wpList_setq rfl 3 (.tmp 44) (.tmp 39) rfl g3 11 36 _ (.int .i64 j1) rfl rfl KY (by simp) (by kernel_rfl) rfl ?_; clear _h KY; intro wA KA oA sA)
      | (have _h := KA; refine wpList_setq rfl 3 (.tmp 45) (.tmp 41) rfl g3 12 36 _ (.int .i64 j2) rfl rfl KA (by simp) (by kernel_rfl) rfl ?_; have KA' := KA; clear _h KA; intro wB KB oB sB)
      | (have _h := KB; refine wpList_setq rfl 3 (.tmp 46) (.tmp 43) rfl g3 13 36 _ (.int .i64 j3) rfl rfl KB (by simp) (by kernel_rfl) rfl ?_; have KB' := KB; clear _h KB; intro wC KC oC sC; have KC' := KC; clear KC))
    have HTE : Hid (Tb base w wC F K2 p (((s7.take 8).take 8).take 8) 36 w.heap.size g3 #[.int .i64 0, .int .i64 0, .int .i64 0, .int .i64 0, .slice none 0 0, .bool false, .bool false, .slice none 0 0, .string ⟨#[]⟩, .int .i64 0, .int .i64 0, .int .i64 0, .int .i64 0, .int .i64 0] #[.int .i64 i1, .int .i64 va.size, .int .i64 i3, .int .i64 i4, .slice S l.length cS, .bool va.on, .bool va.good, .slice va.M va.row.length va.cm, .string (strOf va.par), .int .i64 va.ps, .int .i64 va.ov, .int .i64 j1, .int .i64 j2, .int .i64 j3]) := Lib.hid (by
      have := ((HTY2.out.store HNE.out KA' oA sA).store HNE.out KB' oB sB).store HNE.out KC' oC sC
      simpa using this)
    have HVZ : Hid (va.N wC w.heap.size K2) := Lib.hid (((HVY2.out.stay (stay_only HTY2.out.k3 (by decide) (by decide) oA)).stay (stay_only KA' (by decide) (by decide) oB)).stay (stay_only KB' (by decide) (by decide) oC))
    have HRE := Lib.hid (((HRY2.out.head HTY2.out.k3 oA).head KA' oB).head KB' oC)
    have K3 := HTE.out.k3
    have Q2 := HTE.out.k2
    clear KA' KB' KC' oA oB oC sA sB sC
    go_wp2_with (first
      | (have _h := K3; refine wpList_loadq rfl 36 (.tmp 3) rfl g3 [.int .i64 i1, .int .i64 va.size, .int .i64 i3, .int .i64 i4, .slice S l.length cS, .bool va.on, .bool va.good, .slice va.M va.row.length va.cm, .string (strOf va.par), .int .i64 va.ps, .int .i64 va.ov, .int .i64 j1, .int .i64 j2, .int .i64 j3] _ rfl K3 Try.underlying36 rfl (by kernel_rfl) ?_; clear _h K3)
      | (have _h := Q2; refine wpList_storeq rfl 36 (.tmp 2) (.tmp 47) rfl w.heap.size _ [.int .i64 i1, .int .i64 va.size, .int .i64 i3, .int .i64 i4, .slice S l.length cS, .bool va.on, .bool va.good, .slice va.M va.row.length va.cm, .string (strOf va.par), .int .i64 va.ps, .int .i64 va.ov, .int .i64 j1, .int .i64 j2, .int .i64 j3] rfl rfl Q2 (by simp) (by kernel_rfl) (one14 _ _ _ _ _ _ _ _ _ _ _ _ _ _ _ _ _ _) ?_; clear _h Q2; intro w99 K99 o9 s9))
    refine bodyPost_ret (results_cell_row rfl _ _ w.heap.size 36 _ (0, 0) _ rfl K99 Try.underlying36 rfl (by kernel_rfl)) rfl ?_
    have hT := HTE.out
    have st := stay_only hT.k2 (by decide) (by decide) o9
    have hR9 := HRE.out.head hT.k2 o9
    refine ⟨⟨i1, i3, i4, S, cS, l, va, j1, j2, j3⟩, K2, rfl, HHF.out.1, HVZ.out.stay st, hR9.n, hR9.own, hR9.far, ?_, ?_, hT.fresh⟩
    · rw [HHF.out.2]
      exact hT.rd.of (by omega) (fun j hj => o9.block j (hT.rd.under j hj) (fun hm => by simp at hm; subst hm; exact hT.n2 hj))
    · exact ⟨o9.os.trans hT.only.os, o9.tape.trans hT.only.tape, o9.output.trans hT.only.output, by have := hT.only.size; omega, fun i hi hn => (o9.block i (by have := hT.only.size; omega) (by simp; omega)).trans (hT.only.block i hi hn)⟩
end Go.Proofs.Ytgddenhnpjoabaa

/-
  What a good head's text is made of. Conditions: the head reads as it is said to, and is good.
-/
namespace Go.Proofs.Ytgddenhnpjoabaa
open Go.RowKit
set_option linter.unusedSimpArgs false
set_option linter.unusedVariables false
theorem text_lt {a : HA} {cf : SA → List Value} {w : World} (hR : a.R cf w) (hB : a.v.B = true) : ∀ b ∈ a.v.put, b < 256 :=
  hput_lt hB hR.vw.par fun s hs b hb => by
    obtain ⟨t, ht, rfl⟩ := List.mem_map.1 hs
    exact (hR.sn t ht).vw.par b hb
/-- what reads as good marks has good rows -/
theorem rows_good {a : HA} (hB : a.v.B = true) : Good a.vw.row ∧ ∀ s ∈ a.sn, Good s.vw.row :=
  ⟨(HdV.B_good hB).row, fun s hs => ((HdV.B_good hB).sn s.v (List.mem_map.2 ⟨s, hs, rfl⟩)).row⟩
theorem own_grow_ne9 {W W' : World} {base base2 size size2 n n2 : Nat} {e e2 : TypeId} {v v2 : Value} {xs xs2 : List Value} (h : W.ownsRow base e size v n xs) (h2 : W.ownsRow base2 e2 size2 v2 n2 xs2) (hne : e ≠ e2) (g : W.grownBy W' v2.ownBlock) : W'.ownsRow base e size v n xs :=
  row_of h fun k hk => g.block k (row_under h k hk) (fun eq => by
    obtain ⟨cs, hb⟩ := own_ty h hk
    obtain ⟨cs2, hb2⟩ := own_ty h2 (mem_rowOf.2 eq.symm)
    exact hb.ne_ hb2 hne rfl)
end Go.Proofs.Ytgddenhnpjoabaa

/-
  What the document's Take reads of any bytes, and when it is the same as what the program reads. Nothing of the program is named.
-/
namespace Go.Proofs.Ytgddenhnpjoabaa
open Go.RowKit
set_option linter.unusedSimpArgs false
set_option linter.unusedVariables false
set_option maxRecDepth 100000
/-- one behind the other, till it is bad -/
def itBL {α σ : Type} (bad : σ → Bool) (f : σ → α) (g : σ → σ) : Nat → σ → List α
  | 0, _ => []
  | k + 1, s => if bad s then [] else f s :: itBL bad f g k (g s)
def itBT {σ : Type} (bad : σ → Bool) (g : σ → σ) : Nat → σ → σ
  | 0, s => s
  | k + 1, s => if bad s then s else itBT bad g k (g s)
def RD.dchL (k : Nat) (s : RD) : List (List Nat) := itBL RD.bad RD.bytes RD.bytesTo k s
def RD.dchT (k : Nat) (s : RD) : RD := itBT RD.bad RD.bytesTo k s
def RD.dsnv (s : RD) : SnV := ⟨s.num, (s.take 8).bytesTo.num, (s.take 8).bytes, s.sn1.mkTo.lkTo.flag, s.sn1.mkv, s.sn1.mkTo.lkv, RD.dchL s.sn2.num.toNat (s.sn2.take 8)⟩
def RD.dsnTo (s : RD) : RD := RD.dchT s.sn2.num.toNat (s.sn2.take 8)
def RD.dsnL (k : Nat) (s : RD) : List SnV := itBL RD.bad RD.dsnv RD.dsnTo k s
def RD.dsnT (k : Nat) (s : RD) : RD := itBT RD.bad RD.dsnTo k s
def RD.dh1 (s : RD) : RD := RD.dsnT s.four.num.toNat (s.four.take 8)
def RD.dh2 (s : RD) : RD := s.dh1.mkTo.lkTo
def RD.ddv (s : RD) : HdV := ⟨s.num, (s.take 8).num, ((s.take 8).take 8).num, (((s.take 8).take 8).take 8).num, RD.dsnL s.four.num.toNat (s.four.take 8), s.dh1.mkv, s.dh1.mkTo.lkv, s.dh2.num, (s.dh2.take 8).num, ((s.dh2.take 8).take 8).num⟩
def RD.ddTo (s : RD) : RD := ((s.dh2.take 8).take 8).take 8
/-- what the document's Take answers yes to -/
def DOk (b : List Nat) : Prop := (⟨b, false⟩ : RD).ddTo.bad = false ∧ (⟨b, false⟩ : RD).ddTo.bs = [] ∧ (⟨b, false⟩ : RD).ddv.B = true ∧ (⟨b, false⟩ : RD).ddv.put = b
/-! ### lengths -/
theorem take_ln (s : RD) (n : Int) : (s.take n).bs.length ≤ s.bs.length := by
  unfold RD.take
  split
  · simp
  · simp [RD.spoilt]
theorem got_ln (s : RD) (n : Int) : (s.got n).length ≤ s.bs.length := by
  unfold RD.got
  split
  · simp; omega
  · simp
theorem flagTo_ln (s : RD) : s.flagTo.bs.length ≤ s.bs.length := by
  unfold RD.flagTo
  split
  · simp [RD.spoilt]
  · exact take_ln s 1
theorem bytesTo_ln (s : RD) : s.bytesTo.bs.length ≤ s.bs.length := Nat.le_trans (take_ln _ _) (take_ln _ _)
theorem bytes_ln (s : RD) : s.bytes.length ≤ s.bs.length := Nat.le_trans (got_ln _ _) (take_ln _ _)
theorem mkTo_ln (s : RD) : s.mkTo.bs.length ≤ s.bs.length := Nat.le_trans (bytesTo_ln _) (Nat.le_trans (flagTo_ln _) (flagTo_ln _))
theorem lkTo_ln (s : RD) : s.lkTo.bs.length ≤ s.bs.length := Nat.le_trans (take_ln _ _) (Nat.le_trans (take_ln _ _) (bytesTo_ln _))
theorem marksOf_ln (b : List Nat) : (marksOf b).length ≤ 256 := by
  unfold marksOf
  split
  · rename_i h; rw [takeM_len]; exact h.2.1
  · simp
theorem take8_fit {s : RD} (h : s.take 8 ≠ RD.spoilt) : (s.take 8).bs.length + 8 ≤ s.bs.length ∧ s.bad = false := by
  unfold RD.take at h ⊢
  split at h
  · rename_i hf
    rw [if_pos hf]
    unfold RD.fits at hf
    simp only [Bool.and_eq_true, Bool.not_eq_true', decide_eq_true_eq] at hf
    refine ⟨?_, hf.1.1⟩
    simp only [List.length_drop]
    omega
  · exact absurd rfl h
theorem spoilt_take (n : Int) : RD.spoilt.take n = RD.spoilt := (RD.take_un (.inr (.inr rfl))).1
theorem spoilt_bytesTo : RD.spoilt.bytesTo = RD.spoilt := by unfold RD.bytesTo; rw [spoilt_take, spoilt_take]
theorem spoilt_flagTo : RD.spoilt.flagTo = RD.spoilt := by
  unfold RD.flagTo
  split
  · rfl
  · exact spoilt_take 1
theorem spoilt_mkTo : RD.spoilt.mkTo = RD.spoilt := by unfold RD.mkTo; rw [spoilt_flagTo, spoilt_flagTo, spoilt_bytesTo]
theorem spoilt_lkTo : RD.spoilt.lkTo = RD.spoilt := by unfold RD.lkTo; rw [spoilt_bytesTo, spoilt_take, spoilt_take]
theorem bytesTo_step (s : RD) : s.bytesTo.bs.length + 8 ≤ s.bs.length ∨ s.bytesTo = RD.spoilt := by
  by_cases h : s.take 8 = RD.spoilt
  · right; unfold RD.bytesTo; rw [h, spoilt_take]
  · left
    have := (take8_fit h).1
    have := take_ln (s.take 8) s.num
    unfold RD.bytesTo
    omega
theorem itBT_spoilt (g : RD → RD) : ∀ k, itBT RD.bad g k RD.spoilt = RD.spoilt
  | 0 => rfl
  | k + 1 => by rw [itBT]; exact if_pos rfl
theorem itBL_spoilt {α : Type} (f : RD → α) (g : RD → RD) : ∀ k, itBL RD.bad f g k RD.spoilt = []
  | 0 => rfl
  | k + 1 => by rw [itBL]; exact if_pos rfl
theorem it_len {α : Type} (m : Nat) (f : RD → α) (g : RD → RD) (hg : ∀ s, (g s).bs.length + m ≤ s.bs.length ∨ g s = RD.spoilt) : ∀ (k : Nat) (s : RD), (itBT RD.bad g k s).bs.length + m * (itBL RD.bad f g k s).length ≤ s.bs.length + m
  | 0, s => by simp [itBT, itBL]
  | k + 1, s => by
    rw [itBT, itBL]
    by_cases h : s.bad = true
    · rw [if_pos h, if_pos h]; simp
    · rw [if_neg h, if_neg h, List.length_cons, Nat.mul_add]
      rcases hg s with h1 | h1
      · have := it_len m f g hg k (g s); omega
      · rw [h1, itBT_spoilt, itBL_spoilt]; simp [RD.spoilt]
theorem dch_len (k : Nat) (s : RD) : (RD.dchT k s).bs.length + 8 * (RD.dchL k s).length ≤ s.bs.length + 8 := it_len 8 RD.bytes RD.bytesTo bytesTo_step k s
theorem itBT_ln (g : RD → RD) (hg : ∀ s, (g s).bs.length ≤ s.bs.length) : ∀ (k : Nat) (s : RD), (itBT RD.bad g k s).bs.length ≤ s.bs.length
  | 0, s => Nat.le_refl _
  | k + 1, s => by
    rw [itBT]
    split
    · exact Nat.le_refl _
    · exact Nat.le_trans (itBT_ln g hg k (g s)) (hg s)
theorem sn2_step (s : RD) : (s.sn2.take 8).bs.length + 8 ≤ s.bs.length ∨ s.sn2.take 8 = RD.spoilt := by
  by_cases h : s.take 8 = RD.spoilt
  · right
    unfold RD.sn2 RD.sn1
    rw [h, spoilt_bytesTo, spoilt_take, spoilt_mkTo, spoilt_lkTo, spoilt_flagTo, spoilt_take]
  · left
    have h1 := (take8_fit h).1
    have h2 : s.sn2.bs.length ≤ (s.take 8).bs.length := Nat.le_trans (flagTo_ln _) (Nat.le_trans (lkTo_ln _) (Nat.le_trans (mkTo_ln _) (Nat.le_trans (take_ln _ _) (bytesTo_ln _))))
    have := take_ln s.sn2 8
    omega
theorem sn1_step (s : RD) : s.sn1.bs.length + 24 ≤ s.bs.length ∨ s.sn1 = RD.spoilt := by
  unfold RD.sn1
  by_cases h : s.take 8 = RD.spoilt
  · right; rw [h, spoilt_bytesTo, spoilt_take]
  · have h1 := (take8_fit h).1
    rcases bytesTo_step (s.take 8) with h2 | h2
    · by_cases h3 : (s.take 8).bytesTo.take 8 = RD.spoilt
      · right; exact h3
      · left
        have := (take8_fit h3).1
        omega
    · right; rw [h2, spoilt_take]
theorem dsnTo_step (s : RD) : (s.dsnTo).bs.length + 24 ≤ s.bs.length ∨ s.dsnTo = RD.spoilt := by
  have h0 : (s.sn2.take 8).bs.length ≤ s.sn1.bs.length := Nat.le_trans (take_ln _ _) (Nat.le_trans (flagTo_ln _) (Nat.le_trans (lkTo_ln _) (mkTo_ln _)))
  rcases sn1_step s with h | h
  · left
    have := itBT_ln RD.bytesTo bytesTo_ln s.sn2.num.toNat (s.sn2.take 8)
    unfold RD.dsnTo RD.dchT
    omega
  · right
    unfold RD.dsnTo RD.dchT RD.sn2
    rw [h, spoilt_mkTo, spoilt_lkTo, spoilt_flagTo, spoilt_take, itBT_spoilt]
theorem dsnTo_ln (s : RD) : s.dsnTo.bs.length ≤ s.bs.length := by
  rcases dsnTo_step s with h | h
  · omega
  · rw [h]; simp [RD.spoilt]
theorem dsn_len (k : Nat) (s : RD) : (RD.dsnT k s).bs.length + 24 * (RD.dsnL k s).length ≤ s.bs.length + 24 := it_len 24 RD.dsnv RD.dsnTo dsnTo_step k s
/-- all the names of children that are read -/
def chs (l : List SnV) : Nat := (l.map fun s => s.ch.length).sum
theorem chs_cons (s : SnV) (l : List SnV) : chs (s :: l) = s.ch.length + chs l := by simp [chs]
theorem dsn_chs : ∀ (k : Nat) (s : RD), (RD.dsnT k s).bs.length + 8 * chs (RD.dsnL k s) ≤ s.bs.length + 8 * (RD.dsnL k s).length
  | 0, s => by simp [RD.dsnT, RD.dsnL, itBT, itBL, chs]
  | k + 1, s => by
    have ih := dsn_chs k s.dsnTo
    unfold RD.dsnT RD.dsnL at *
    rw [itBT, itBL]
    by_cases h : s.bad = true
    · rw [if_pos h, if_pos h]; simp [chs]
    · rw [if_neg h, if_neg h, chs_cons, List.length_cons]
      have h1 : s.dsnTo.bs.length + 8 * (s.dsnv).ch.length ≤ s.bs.length + 8 := by
        have h2 := dch_len s.sn2.num.toNat (s.sn2.take 8)
        have h3 : (s.sn2.take 8).bs.length ≤ s.bs.length := by
          rcases sn2_step s with h | h
          · omega
          · rw [h]; simp [RD.spoilt]
        show (RD.dchT s.sn2.num.toNat (s.sn2.take 8)).bs.length + 8 * (RD.dchL s.sn2.num.toNat (s.sn2.take 8)).length ≤ _
        omega
      omega
/-- what is small of a snapshot -/
structure SnS (s : SnV) (n : Nat) : Prop where
  row : s.mx.row.length ≤ 256
  par : s.lk.par.length ≤ n
  name : s.name.length ≤ n
  ch : 8 * s.ch.length ≤ n + 8
  cl : ∀ c ∈ s.ch, c.length ≤ n
theorem itBL_all {α : Type} (f : RD → α) (g : RD → RD) (hg : ∀ s, (g s).bs.length ≤ s.bs.length) (n : Nat) (P : α → Prop) (hf : ∀ s : RD, s.bs.length ≤ n → P (f s)) : ∀ (k : Nat) (s : RD), s.bs.length ≤ n → ∀ x ∈ itBL RD.bad f g k s, P x
  | 0, s, _, x, hx => by cases hx
  | k + 1, s, hs, x, hx => by
    rw [itBL] at hx
    split at hx
    · cases hx
    · rcases List.mem_cons.1 hx with rfl | hx
      · exact hf s hs
      · exact itBL_all f g hg n P hf k (g s) (Nat.le_trans (hg s) hs) x hx
theorem sn1_ln (s : RD) : s.sn1.bs.length ≤ s.bs.length := Nat.le_trans (take_ln _ _) (Nat.le_trans (bytesTo_ln _) (take_ln _ _))
theorem dsnv_small (s : RD) (n : Nat) (h : s.bs.length ≤ n) : SnS s.dsnv n := by
  have h1 := sn1_ln s
  have h2 := mkTo_ln s.sn1
  have h3 : (s.sn2.take 8).bs.length ≤ s.bs.length := by
    rcases sn2_step s with h | h
    · omega
    · rw [h]; simp [RD.spoilt]
  have h4 := dch_len s.sn2.num.toNat (s.sn2.take 8)
  refine ⟨marksOf_ln _, ?_, ?_, ?_, ?_⟩
  · show s.sn1.mkTo.bytes.length ≤ n
    have := bytes_ln s.sn1.mkTo; omega
  · show (s.take 8).bytes.length ≤ n
    have := bytes_ln (s.take 8); have := take_ln s 8; omega
  · show 8 * (RD.dchL s.sn2.num.toNat (s.sn2.take 8)).length ≤ n + 8
    omega
  · exact itBL_all RD.bytes RD.bytesTo bytesTo_ln n (fun c => c.length ≤ n) (fun t ht => Nat.le_trans (bytes_ln t) ht) _ _ (by omega)
/-- what is small of a head -/
structure HdS (v : HdV) (n : Nat) : Prop where
  row : v.mx.row.length ≤ 256
  par : v.lk.par.length ≤ n
  cn : 24 * v.sn.length ≤ n + 24
  sn : ∀ s ∈ v.sn, SnS s n
theorem four_ln (s : RD) : (s.four.take 8).bs.length ≤ s.bs.length := Nat.le_trans (take_ln _ _) (Nat.le_trans (take_ln _ _) (Nat.le_trans (take_ln _ _) (Nat.le_trans (take_ln _ _) (take_ln _ _))))
theorem dh1_ln (s : RD) : s.dh1.bs.length ≤ s.bs.length := Nat.le_trans (itBT_ln RD.dsnTo dsnTo_ln _ _) (four_ln s)
theorem ddv_small (s : RD) (n : Nat) (h : s.bs.length ≤ n) : HdS s.ddv n := by
  have h1 := dh1_ln s
  have h2 := mkTo_ln s.dh1
  have h3 := four_ln s
  have h4 := dsn_len s.four.num.toNat (s.four.take 8)
  refine ⟨marksOf_ln _, ?_, ?_, ?_⟩
  · show s.dh1.mkTo.bytes.length ≤ n
    have := bytes_ln s.dh1.mkTo; omega
  · show 24 * (RD.dsnL s.four.num.toNat (s.four.take 8)).length ≤ n + 24
    omega
  · exact itBL_all RD.dsnv RD.dsnTo dsnTo_ln n (fun x => SnS x n) (fun t ht => dsnv_small t n ht) _ _ (by omega)
theorem small_of {a : HA} {n : Nat} (h : HdS a.v n) (hn : n ≤ 20000) : a.Sm := by
  have hl : a.v.sn.length = a.sn.length := List.length_map ..
  have h3 := h.cn
  refine ⟨⟨Nat.le_trans h.row (by omega), Nat.le_trans h.par (by omega)⟩, by omega, fun s hs => ?_⟩
  have q := h.sn s.v (List.mem_map.2 ⟨s, hs, rfl⟩)
  have := q.ch
  exact ⟨⟨Nat.le_trans q.row (by omega), Nat.le_trans q.par (by omega)⟩, Nat.le_trans q.name (by omega), (by have h8 : s.v.ch = s.ch := rfl; rw [← h8]; omega), fun c hc => Nat.le_trans (q.cl c hc) (by omega)⟩
end Go.Proofs.Ytgddenhnpjoabaa

/-
  What is put is read back by the document's Take; it answers yes just to what the program takes. Nothing of the program is named.
-/
namespace Go.Proofs.Ytgddenhnpjoabaa
open Go.RowKit
set_option linter.unusedSimpArgs false
set_option linter.unusedVariables false
set_option maxRecDepth 100000
theorem it_step {α : Type} {f : RD → α} {g : RD → RD} {s0 s1 s2 : RD} {x : α} {k : Nat} {l : List α} (hb : s0.bad = false) (h : g s0 = s1 ∧ f s0 = x) (ih : itBL RD.bad f g k s1 = l ∧ itBT RD.bad g k s1 = s2) : itBL RD.bad f g (k + 1) s0 = x :: l ∧ itBT RD.bad g (k + 1) s0 = s2 := by
  rw [itBL, itBT, if_neg (by rw [hb]; simp), if_neg (by rw [hb]; simp), h.1, h.2]
  exact ⟨congrArg _ ih.1, ih.2⟩
theorem dch_mid {a b : List Nat} (e : a = b) {k : Nat} {l : List (List Nat)} {s : RD} (h : RD.dchL k ⟨b, false⟩ = l ∧ RD.dchT k ⟨b, false⟩ = s) : RD.dchL k ⟨a, false⟩ = l ∧ RD.dchT k ⟨a, false⟩ = s := by rw [e]; exact h
theorem dchs_back (rest : List Nat) : ∀ (l : List (List Nat)), (∀ c ∈ l, c.length ≤ 1000000) → RD.dchL l.length ⟨l.flatMap txt ++ rest, false⟩ = l ∧ RD.dchT l.length ⟨l.flatMap txt ++ rest, false⟩ = ⟨rest, false⟩
  | [], _ => ⟨rfl, rfl⟩
  | c :: l, h => dch_mid (b := txt c ++ (l.flatMap txt ++ rest)) (by rw [List.flatMap_cons, List.append_assoc]) (it_step rfl (bytes_back c (l.flatMap txt ++ rest) (h c (by simp))) (dchs_back rest l fun x hx => h x (List.mem_cons_of_mem _ hx)))
theorem dsn_steps {s0 s1 s2 s3 s4 s5 s6 s7 s8 : RD} {num size : Int} {name : List Nat} {m : MkV} {l : LkV} {p : Bool} {n : Nat} {ch : List (List Nat)}
    (a : s0.take 8 = s1 ∧ s0.num = num) (b : s1.bytesTo = s2 ∧ s1.bytes = name) (c : s2.take 8 = s3 ∧ s2.num = size) (d : s3.mkTo = s4 ∧ s3.mkv = m) (f : s4.lkTo = s5 ∧ s4.lkv = l) (g : s5.flagTo = s6 ∧ s5.flag = p) (i : s6.take 8 = s7 ∧ s6.num = (n : Int)) (hc : RD.dchL n s7 = ch ∧ RD.dchT n s7 = s8) :
    s0.dsnTo = s8 ∧ s0.dsnv = ⟨num, size, name, p, m, l, ch⟩ := by
  have q1 : s0.sn1 = s3 := by unfold RD.sn1; rw [a.1, b.1, c.1]
  have q2 : s0.sn2 = s6 := by unfold RD.sn2; rw [q1, d.1, f.1, g.1]
  have ht : (n : Int).toNat = n := by omega
  refine ⟨?_, ?_⟩
  · unfold RD.dsnTo; rw [q2, i.1, i.2, ht, hc.2]
  · unfold RD.dsnv; rw [q2, q1, a.1, a.2, b.1, b.2, c.2, d.1, d.2, f.1, f.2, g.2, i.1, i.2, ht, hc.1]
theorem dapp_mid {s : RD} {a b : List Nat} (e : a = b) {s' : RD} {x : SnV} (h : (⟨b, false⟩ : RD).dsnTo = s' ∧ (⟨b, false⟩ : RD).dsnv = x) : (⟨a, false⟩ : RD).dsnTo = s' ∧ (⟨a, false⟩ : RD).dsnv = x := by rw [e]; exact h
theorem dsn_back (s : SnV) (rest : List Nat) (h : s.Ok) (hc : ∀ c ∈ s.ch, c.length ≤ 1000000) : (⟨putSn s ++ rest, false⟩ : RD).dsnTo = ⟨rest, false⟩ ∧ (⟨putSn s ++ rest, false⟩ : RD).dsnv = s :=
  dapp_mid (s := ⟨[], false⟩) (putSn_rest s rest) (dsn_steps (take_num s.num _ h.num) (bytes_back s.name _ h.name) (take_num s.size _ h.size) (mk_back s.mx _ h.mx) (lk_back s.lk _ h.lk) (flag_back s.prot _) (take_num (s.ch.length : Nat) _ (by have := h.cn; unfold I64; omega)) (dchs_back rest s.ch hc))
theorem dsnL_mid {a b : List Nat} (e : a = b) {s : RD} {k : Nat} {l : List SnV} (h : RD.dsnL k ⟨b, false⟩ = l ∧ RD.dsnT k ⟨b, false⟩ = s) : RD.dsnL k ⟨a, false⟩ = l ∧ RD.dsnT k ⟨a, false⟩ = s := by rw [e]; exact h
theorem ok_ch {s : SnV} (h : s.Ok) : ∀ c ∈ s.ch, c.length ≤ 1000000 := fun c hc => by have := named_len (h.ch c hc); omega
theorem dsns_back (rest : List Nat) : ∀ (l : List SnV), (∀ s ∈ l, s.Ok) → RD.dsnL l.length ⟨l.flatMap putSn ++ rest, false⟩ = l ∧ RD.dsnT l.length ⟨l.flatMap putSn ++ rest, false⟩ = ⟨rest, false⟩
  | [], _ => ⟨rfl, rfl⟩
  | s :: l, h => dsnL_mid (b := putSn s ++ (l.flatMap putSn ++ rest)) (by rw [List.flatMap_cons, List.append_assoc]) (it_step rfl (dsn_back s (l.flatMap putSn ++ rest) (h s (by simp)) (ok_ch (h s (by simp)))) (dsns_back rest l fun c hc => h c (List.mem_cons_of_mem _ hc)))
theorem dhd_steps {s0 s1 s2 s3 s4 s5 s6 s7 s8 s9 s10 s11 : RD} {id size obj seq ow it tg : Int} {m : MkV} {l : LkV} {n : Nat} {sn : List SnV}
    (a : s0.take 8 = s1 ∧ s0.num = id) (b : s1.take 8 = s2 ∧ s1.num = size) (c : s2.take 8 = s3 ∧ s2.num = obj) (d : s3.take 8 = s4 ∧ s3.num = seq) (f : s4.take 8 = s5 ∧ s4.num = (n : Int)) (hs : RD.dsnL n s5 = sn ∧ RD.dsnT n s5 = s6)
    (g : s6.mkTo = s7 ∧ s6.mkv = m) (i : s7.lkTo = s8 ∧ s7.lkv = l) (j : s8.take 8 = s9 ∧ s8.num = ow) (k : s9.take 8 = s10 ∧ s9.num = it) (e : s10.take 8 = s11 ∧ s10.num = tg) :
    s0.ddTo = s11 ∧ s0.ddv = ⟨id, size, obj, seq, sn, m, l, ow, it, tg⟩ := by
  have ht : (n : Int).toNat = n := by omega
  have q0 : s0.four = s4 := by unfold RD.four; rw [a.1, b.1, c.1, d.1]
  have q1 : s0.dh1 = s6 := by unfold RD.dh1; rw [q0, f.2, ht, f.1, hs.2]
  have q2 : s0.dh2 = s8 := by unfold RD.dh2; rw [q1, g.1, i.1]
  refine ⟨?_, ?_⟩
  · unfold RD.ddTo; rw [q2, j.1, k.1, e.1]
  · unfold RD.ddv; rw [q0, q1, q2, a.1, a.2, b.1, b.2, c.1, c.2, d.2, f.1, f.2, ht, hs.1, g.1, g.2, i.2, j.1, j.2, k.1, k.2, e.2]
theorem dhd_mid {a b : List Nat} (e : a = b) {s' : RD} {x : HdV} (h : (⟨b, false⟩ : RD).ddTo = s' ∧ (⟨b, false⟩ : RD).ddv = x) : (⟨a, false⟩ : RD).ddTo = s' ∧ (⟨a, false⟩ : RD).ddv = x := by rw [e]; exact h
theorem dhd_back (h : HdV) (hk : h.Ok) : (⟨h.put, false⟩ : RD).ddTo = ⟨[], false⟩ ∧ (⟨h.put, false⟩ : RD).ddv = h :=
  dhd_mid (hd_put h) (dhd_steps (take_num h.id _ hk.id) (take_num h.size _ hk.size) (take_num h.obj _ hk.obj) (take_num h.seq _ hk.seq) (take_num (h.sn.length : Nat) _ (by have := hk.cn; unfold I64; omega)) (dsns_back _ h.sn hk.sn) (mk_back h.mx _ hk.mx) (lk_back h.lk _ hk.lk) (take_num h.ow _ hk.ow) (take_num h.it _ hk.it) (take_num h.tg [] hk.tg))
/-! ### numbers that are read are numbers -/
structure SnI (s : SnV) : Prop where
  num : I64 s.num
  size : I64 s.size
  ps : I64 s.lk.ps
  ov : I64 s.lk.ov
theorem dsnv_i (s : RD) : SnI s.dsnv := ⟨num_range _, num_range _, num_range _, num_range _⟩
theorem snv_i (s : RD) : SnI s.snv := ⟨num_range _, num_range _, num_range _, num_range _⟩
theorem itL_all {α : Type} (f : RD → α) (g : RD → RD) (hg : ∀ s, (g s).bs.length ≤ s.bs.length) (n : Nat) (P : α → Prop) (hf : ∀ s : RD, s.bs.length ≤ n → P (f s)) : ∀ (k : Nat) (s : RD), s.bs.length ≤ n → ∀ x ∈ itL f g k s, P x
  | 0, s, _, x, hx => by cases hx
  | k + 1, s, hs, x, hx => by
    rw [itL] at hx
    rcases List.mem_cons.1 hx with rfl | hx
    · exact hf s hs
    · exact itL_all f g hg n P hf k (g s) (Nat.le_trans (hg s) hs) x hx
theorem chL_len : ∀ (k : Nat) (s : RD), 8 * (RD.chL k s).length ≤ s.bs.length ∧ ∀ c ∈ RD.chL k s, c.length ≤ s.bs.length
  | 0, s => by simp [RD.chL]
  | k + 1, s => by
    rw [RD.chL]
    by_cases h : namedB s.bytes = true
    · rw [if_pos h]
      obtain ⟨ih1, ih2⟩ := chL_len k s.bytesTo
      have hl := (named_len h).1
      have hne : s.take 8 ≠ RD.spoilt := fun e => by
        have : s.bytes = [] := by
          unfold RD.bytes
          rw [e]
          exact (RD.take_un (.inr (.inr rfl))).2
        rw [this] at hl; simp at hl
      have h1 := (take8_fit hne).1
      have h2 := take_ln (s.take 8) s.num
      have h3 : s.bytesTo.bs.length ≤ (s.take 8).bs.length := h2
      refine ⟨by rw [List.length_cons]; omega, fun c hc => ?_⟩
      rcases List.mem_cons.1 hc with rfl | hc
      · exact bytes_ln s
      · exact Nat.le_trans (ih2 c hc) (by omega)
    · rw [if_neg h]
      exact ⟨by simp, fun c hc => by cases hc⟩
theorem snv_small (s : RD) (n : Nat) (h : s.bs.length ≤ n) : SnS s.snv n := by
  have h1 := sn1_ln s
  have h2 := mkTo_ln s.sn1
  have h3 : (s.sn2.take 8).bs.length ≤ s.bs.length := by
    rcases sn2_step s with h | h
    · omega
    · rw [h]; simp [RD.spoilt]
  have h4 := chL_len s.sn2.num.toNat (s.sn2.take 8)
  refine ⟨marksOf_ln _, ?_, ?_, ?_, ?_⟩
  · show s.sn1.mkTo.bytes.length ≤ n
    have := bytes_ln s.sn1.mkTo; omega
  · show (s.take 8).bytes.length ≤ n
    have := bytes_ln (s.take 8); have := take_ln s 8; omega
  · show 8 * (RD.chL s.sn2.num.toNat (s.sn2.take 8)).length ≤ n + 8
    omega
  · exact fun c hc => Nat.le_trans (h4.2 c hc) (by omega)
theorem itL_len {α σ : Type} (f : σ → α) (g : σ → σ) : ∀ (k : Nat) (s : σ), (itL f g k s).length = k
  | 0, s => rfl
  | k + 1, s => by rw [itL, List.length_cons, itL_len f g k]
theorem hdv_small (s : RD) (n : Nat) (h : s.bs.length ≤ n) (hn : 384 ≤ n) : HdS s.hdv n := by
  have h1 : s.hd1.bs.length ≤ s.bs.length := Nat.le_trans (snT_le _ _) (four_ln s)
  have h2 := mkTo_ln s.hd1
  have h3 := four_ln s
  refine ⟨marksOf_ln _, ?_, ?_, ?_⟩
  · show s.hd1.mkTo.bytes.length ≤ n
    have := bytes_ln s.hd1.mkTo; omega
  · show 24 * (RD.snL s.cnt (s.four.take 8)).length ≤ n + 24
    unfold RD.snL
    rw [itL_len]
    have : s.cnt ≤ 16 := by unfold RD.cnt; omega
    omega
  · exact itL_all RD.snv RD.snTo snTo_le n (fun x => SnS x n) (fun t ht => snv_small t n ht) _ _ (by omega)
theorem ok_small {v : HdV} {n : Nat} (hB : v.B = true) (hs : HdS v n) (hn : n ≤ 20000) (h0 : I64 v.id ∧ I64 v.size ∧ I64 v.obj ∧ I64 v.seq ∧ I64 v.ow ∧ I64 v.it ∧ I64 v.tg ∧ I64 v.lk.ps ∧ I64 v.lk.ov) (hi : ∀ s ∈ v.sn, SnI s) : v.Ok := by
  obtain ⟨i1, i2, i3, i4, i5, i6, i7, i8, i9⟩ := h0
  have hg := HdV.B_good hB
  refine ⟨i1, i2, i3, i4, fun s hs' => ?_, hg.cn, ⟨hg.row⟩, ⟨Nat.le_trans hg.par (by omega), i8, i9⟩, i5, i6, i7⟩
  have q := hs.sn s hs'
  have g := hg.sn s hs'
  have i := hi s hs'
  have := q.ch
  exact ⟨i.num, i.size, Nat.le_trans q.name (by omega), ⟨g.row⟩, ⟨Nat.le_trans g.par (by omega), i.ps, i.ov⟩, g.ch, by omega⟩
theorem dok_iff (b : List Nat) (hb : b.length ≤ 20000) : (DOk b → TakeH b ∧ (⟨b, false⟩ : RD).hdv = (⟨b, false⟩ : RD).ddv) ∧ (TakeH b → DOk b) := by
  constructor
  · rintro ⟨_, _, hB, hp⟩
    have hk := ok_small hB (ddv_small ⟨b, false⟩ 20000 hb) (by omega) ⟨num_range _, num_range _, num_range _, num_range _, num_range _, num_range _, num_range _, num_range _, num_range _⟩ (itBL_all RD.dsnv RD.dsnTo dsnTo_ln 20000 SnI (fun t _ => dsnv_i t) _ _ (Nat.le_trans (four_ln _) hb))
    have e := (hd_back _ hk).2
    rw [hp] at e
    exact ⟨⟨by rw [e]; exact hB, by rw [e]; exact hp⟩, e⟩
  · rintro ⟨hB, hp⟩
    have hk := ok_small hB (hdv_small ⟨b, false⟩ 20000 hb (by omega)) (by omega) ⟨num_range _, num_range _, num_range _, num_range _, num_range _, num_range _, num_range _, num_range _, num_range _⟩ (itL_all RD.snv RD.snTo snTo_le 20000 SnI (fun t _ => snv_i t) _ _ (Nat.le_trans (four_ln _) hb))
    have e := dhd_back _ hk
    rw [hp] at e
    exact ⟨by rw [e.1], by rw [e.1], by rw [e.2]; exact hB, by rw [e.2]; exact hp⟩
/-! ### how long a text is -/
theorem putSn_ln {s : SnV} (h : SnG s) : (putSn s).length ≤ 400 + 28 * s.ch.length := by
  have h1 := putMk_len h.row
  have h2 : (putLk s.lk).length = 8 + s.lk.par.length + 16 := by simp only [putLk, txt, List.length_append, numB_len]
  have h3 := named_len h.name
  have h4 := flat_txt_len s.ch (fun c hc => (named_len (h.ch c hc)).2)
  have h5 := h.par
  have h6 : (s.ch.flatMap txt).length ≤ 28 * s.ch.length := by omega
  simp only [putSn, putVw, txt, flagB, List.length_append, numB_len, List.length_singleton]
  omega
theorem flat_put_ln : ∀ l : List SnV, (∀ s ∈ l, SnG s) → (l.flatMap putSn).length ≤ 400 * l.length + 28 * chs l
  | [], _ => by simp [chs]
  | s :: l, h => by
    have ih := flat_put_ln l fun x hx => h x (List.mem_cons_of_mem _ hx)
    have := putSn_ln (h s (by simp))
    rw [List.flatMap_cons, List.length_append, List.length_cons, chs_cons]
    omega
theorem ddv_put_ln (s : RD) (h : s.bs.length ≤ 20000) (hB : s.ddv.B = true) : s.ddv.put.length ≤ 1000000 := by
  have hg := HdV.B_good hB
  have h1 := putMk_len hg.row
  have h2 : (putLk s.ddv.lk).length = 8 + s.ddv.lk.par.length + 16 := by simp only [putLk, txt, List.length_append, numB_len]
  have h5 := hg.par
  have h3 := flat_put_ln s.ddv.sn hg.sn
  have h4 := hg.cn
  have h6 : 8 * chs s.ddv.sn ≤ (s.four.take 8).bs.length + 8 * s.ddv.sn.length := by
    have := dsn_chs s.four.num.toNat (s.four.take 8)
    show 8 * chs (RD.dsnL s.four.num.toNat (s.four.take 8)) ≤ _ + 8 * (RD.dsnL s.four.num.toNat (s.four.take 8)).length
    omega
  have h7 := four_ln s
  simp only [HdV.put, putVw, List.length_append, numB_len]
  omega
end Go.Proofs.Ytgddenhnpjoabaa

/-
  The document's takeLink and takeMarks on any bytes. Conditions: the reader stands as it is said to, on no more than twenty thousand bytes.
-/
namespace Go.Proofs.Ytgddenhnpjoabaa
open Go.RowKit Go.BigFrame
set_option linter.unusedSimpArgs false
set_option linter.unusedVariables false
set_option maxRecDepth 100000
/-- behind a change of other blocks the reader stands -/
theorem Mr.aside {w w' : World} {base g g2 : Nat} {s : RD} (h : Mr w base g s) (o : Only [g2] w w') (h1 : g2 ≠ g) (h2 : base ≤ g2) (hb : base ≤ w.heap.size) : Mr w' base g s :=
  h.of (o.below (fun x hx => by simp at hx; omega) hb) (o.block g h.lt (by simp; omega))
theorem dlink_zero (w : World) : (zeroValue 27).run Try.prog w = .ok (.agg #[.string ⟨#[]⟩, .int .i64 0, .int .i64 0]) w := by kernel_rfl
theorem dmark_zero (w : World) : (zeroValue 25).run Try.prog w = .ok (.agg #[.bool false, .bool false, .slice none 0 0]) w := by kernel_rfl
def DLinkTo (w : World) (base g : Nat) (s : RD) (e : Ending) (w' : World) : Prop :=
  e = .returned (.agg #[.string (strOf s.bytes), .int .i64 s.bytesTo.num, .int .i64 (s.bytesTo.take 8).num]) ∧ Mr w' base g s.lkTo ∧ Only [g] w w'
set_option maxHeartbeats 8000000 in
theorem dtakelink_any (w : World) (base g : Nat) (s : RD) (h : Mr w base g s) (hs : s.bs.length ≤ 20000) (hb : base ≤ w.heap.size) :
    Calls Try.prog 65 #[.pointer (some ⟨g, 0, none⟩)] w (DLinkTo w base g s) := by
  obtain ⟨w1, hw1⟩ : ∃ W, W = w.alloc (.cells #[.string ⟨#[]⟩, .int .i64 0, .int .i64 0] 27) := ⟨_, rfl⟩
  have b1 : Below w.heap.size w w1 := by rw [hw1]; exact below_alloc w _
  have hz1 : w1.heap.size = w.heap.size + 1 := by rw [hw1]; simp
  have HR1 : Hid (Blk w1 w.heap.size 27 #[.string ⟨#[]⟩, .int .i64 0, .int .i64 0]) := Lib.hid (by rw [hw1]; exact Blk.new w _ _)
  have hglt := h.lt
  have HM1 := Lib.hid (mbytes_any w1 base g s (h.below b1) (by omega))
  have HZ := Lib.hid (And.intro hz1 (And.intro hglt (And.intro hb (And.intro b1 hs))))
  have HW1 := Lib.hid hw1
  have hgd := h.good
  have HGD := Lib.hid hgd
  clear hw1 b1 hz1 hglt hb hs h hgd
  have hz0 := dlink_zero
  go_enter Try.func65, Try.ntmps65
  go_upto_region 1 with (fail)
  rw [← HW1.out]
  clear HW1
  go_wp2_with fail
  refine HM1.out.mono ?_
  rintro e w2 ⟨v, rfl, ho, hm2, o2⟩
  obtain ⟨A2, c2, rfl⟩ := own_form ho
  have hby : ∀ b ∈ s.bytes, b < 256 := RD.got_lt (RD.take_good HGD.out 8) _
  have k1 := str_of (P := Try.prog) (ho.bytes hby) c2 23 9 5 Try.underlying23 Try.underlying5 Try.underlying9
  obtain ⟨st, hst⟩ : ∃ st, st = strOf s.bytes := ⟨_, rfl⟩
  rw [← hst] at k1
  obtain ⟨w3, hw3⟩ : ∃ W, W = w2.alloc (.cells #[.string st, .int .i64 0, .int .i64 0] 27) := ⟨_, rfl⟩
  obtain ⟨gl, hgl⟩ : ∃ gl, gl = w2.heap.size := ⟨_, rfl⟩
  have b3 : Below w2.heap.size w2 w3 := by rw [hw3]; exact below_alloc w2 _
  have k3 : Blk w3 gl 27 #[.string st, .int .i64 0, .int .i64 0] := by rw [hw3, hgl]; exact Blk.new w2 _ _
  have hz2 : w.heap.size + 1 ≤ gl := by rw [hgl]; have := HZ.out.1; have := o2.size; omega
  have hz3 : gl < w3.heap.size := k3.lt
  have hm3 := hm2.below b3
  have HM3 := Lib.hid (mnum_any w3 base g s.bytesTo hm3 (by have := bytesTo_ln s; have := HZ.out.2.2.2.2; omega))
  have HR3 : Hid (Blk w3 w.heap.size 27 #[.string ⟨#[]⟩, .int .i64 0, .int .i64 0]) := Lib.hid ((HR1.out.only o2 (by have := HZ.out.2.1; simp; omega)).of (b3.block _ (by have := HZ.out.1; have := o2.size; omega)))
  have HO3 : Hid (Only [g] w w3) := Lib.hid ((Only.of_below HZ.out.2.2.2.1 [g]).trans (o2.trans (Only.of_below b3 [g]) (fun k h => .inl h)) (fun k h => .inl h))
  have HZ3 := Lib.hid (And.intro hz2 (And.intro hz3 hst))
  have HW3 := Lib.hid (And.intro hw3 hgl)
  have HK3 := Lib.hid k3
  clear ho hm2 o2 hby hst hw3 hgl b3 k3 hz2 hz3 hm3
  go_upto_region 2 with (fail)
  rw [← HW3.out.1, ← HW3.out.2]
  clear HW3 k1
  go_wp2_with fail
  refine HM3.out.mono ?_
  rintro e w4 ⟨rfl, hm4, o4⟩
  have K4 := HK3.out.only o4 (by have := HZ.out.2.1; have := HZ3.out.1; simp; omega)
  have HR4 := Lib.hid (HR3.out.only o4 (by have := HZ.out.2.1; simp; omega))
  have HO4 : Hid (Only [g] w w4) := Lib.hid (HO3.out.trans o4 (fun k h => .inl h))
  have HM4 := Lib.hid hm4
  clear hm4 o4 HR3 HO3 HM3
  go_wp2_with (have _h := K4; refine wpList_setq rfl 3 (.tmp 10) (.tmp 9) rfl gl 1 27 _ (.int .i64 s.bytesTo.num) rfl rfl K4 (by simp) (by kernel_rfl) rfl ?_; clear _h K4; intro w5 K5 o5 s5)
  have hgg : gl ≠ g := by have := HZ.out.2.1; have := HZ3.out.1; omega
  have hz5 : w.heap.size ≤ w4.heap.size := HO4.out.size
  have hm5 := HM4.out.aside o5 hgg (by have := HZ.out.2.2.1; have := HZ3.out.1; omega) (by have := HZ.out.2.2.1; omega)
  have HM5 := Lib.hid (mnum_any w5 base g (s.bytesTo.take 8) hm5 (by have := take_ln s.bytesTo 8; have := bytesTo_ln s; have := HZ.out.2.2.2.2; omega))
  have HR5 := Lib.hid (HR4.out.only o5 (by have := HZ3.out.1; simp; omega))
  have HO5 : Hid (Only [g] w w5) := Lib.hid (HO4.out.trans (o5.mono (G := [gl]) (fun k h => h)) (fun k h => by simp at h; subst h; exact .inr (by have := HZ3.out.1; omega)))
  have HK5 : Hid (Blk w5 gl 27 #[.string st, .int .i64 s.bytesTo.num, .int .i64 0]) := Lib.hid K5
  clear K5 o5 s5 hm5 HM4 HR4 HO4 hz5
  refine HM5.out.mono ?_
  rintro e w6 ⟨rfl, hm6, o6⟩
  have K6 := HK5.out.only o6 (by simp; omega)
  have HR6 := Lib.hid (HR5.out.only o6 (by have := HZ.out.2.1; simp; omega))
  have HO6 : Hid (Only [g] w w6) := Lib.hid (HO5.out.trans o6 (fun k h => .inl h))
  have HM6 := Lib.hid hm6
  clear hm6 o6 HR5 HO5 HM5
  go_wp2_with (first
    | (have _h := K6; refine wpList_setq rfl 3 (.tmp 13) (.tmp 12) rfl gl 2 27 _ (.int .i64 (s.bytesTo.take 8).num) rfl rfl K6 (by simp) (by kernel_rfl) rfl ?_; clear _h K6; intro w7 K7 o7 s7; have KR7 := HR6.out.only o7 (by have := HZ3.out.1; simp; omega); have K7' : Blk w7 gl 27 #[.string st, .int .i64 s.bytesTo.num, .int .i64 (s.bytesTo.take 8).num] := K7; clear K7)
    | (have _h := K7'; refine wpList_loadq rfl 27 (.tmp 3) rfl (gl) [.string st, .int .i64 s.bytesTo.num, .int .i64 (s.bytesTo.take 8).num] _ rfl K7' Try.underlying27 rfl (by kernel_rfl) ?_; clear _h K7')
    | (have _h := KR7; refine wpList_storeq rfl 27 (.tmp 2) (.tmp 14) rfl (w.heap.size) _ [.string st, .int .i64 s.bytesTo.num, .int .i64 (s.bytesTo.take 8).num] rfl rfl KR7 (by simp) (by kernel_rfl) (by intro u hu; simp at hu; rcases hu with rfl | rfl | rfl <;> rfl) ?_; clear _h KR7; intro w8 K8 o8 s8))
  refine bodyPost_ret (results_cell_row rfl _ _ w.heap.size 27 _ (0, 0) _ rfl K8 Try.underlying27 rfl (by kernel_rfl)) rfl ?_
  have hz6 := HO6.out.size
  have hb := HZ.out.2.2.1
  have hm7 := HM6.out.aside o7 hgg (by have := HZ3.out.1; omega) (by omega)
  have hm8 := hm7.aside o8 (by have := HZ.out.2.1; omega) hb (by omega)
  have ho7 : Only [g] w w7 := HO6.out.trans o7 (fun k h => by simp at h; subst h; exact .inr (by have := HZ3.out.1; omega))
  have ho8 : Only [g] w w8 := ho7.trans o8 (fun k h => by simp at h; subst h; exact .inr (Nat.le_refl _))
  exact ⟨by rw [HZ3.out.2.2], hm8, ho8⟩
def DMarkTo (w : World) (base g : Nat) (s : RD) (e : Ending) (w' : World) : Prop :=
  ∃ M c, e = .returned (.agg #[.bool s.flag, .bool s.flagTo.flag, .slice M (marksOf s.flagTo.flagTo.bytes).length c]) ∧ Own w' w.heap.size (.slice M (marksOf s.flagTo.flagTo.bytes).length c) (marksOf s.flagTo.flagTo.bytes).length (marksOf s.flagTo.flagTo.bytes) ∧ Mr w' base g s.mkTo ∧ Only [g] w w'
set_option maxHeartbeats 8000000 in
theorem dtakemarks_any (w : World) (base g : Nat) (s : RD) (h : Mr w base g s) (hs : s.bs.length ≤ 20000) (hb : base ≤ w.heap.size) :
    Calls Try.prog 64 #[.pointer (some ⟨g, 0, none⟩)] w (DMarkTo w base g s) := by
  obtain ⟨w1, hw1⟩ : ∃ W, W = w.alloc (.cells #[.bool false, .bool false, .slice none 0 0] 25) := ⟨_, rfl⟩
  have b1 : Below w.heap.size w w1 := by rw [hw1]; exact below_alloc w _
  have hz1 : w1.heap.size = w.heap.size + 1 := by rw [hw1]; simp
  have HR1 : Hid (Blk w1 w.heap.size 25 #[.bool false, .bool false, .slice none 0 0]) := Lib.hid (by rw [hw1]; exact Blk.new w _ _)
  have hglt := h.lt
  have HM1 := Lib.hid (mflag_any w1 base g s (h.below b1) (by omega))
  have HZ := Lib.hid (And.intro hz1 (And.intro hglt (And.intro hb (And.intro b1 hs))))
  have HW1 := Lib.hid hw1
  have HGD := Lib.hid h.good
  obtain ⟨f1, hf1⟩ : ∃ f, f = s.flag := ⟨_, rfl⟩
  obtain ⟨f2, hf2⟩ : ∃ f, f = s.flagTo.flag := ⟨_, rfl⟩
  obtain ⟨bs, hbs⟩ : ∃ b, b = s.flagTo.flagTo.bytes := ⟨_, rfl⟩
  rw [← hf1] at HM1
  have HF := Lib.hid (And.intro hf1 (And.intro hf2 hbs))
  unfold DMarkTo
  rw [← hf1, ← hf2, ← hbs]
  obtain ⟨t, ht1⟩ : ∃ t, t = marksOf bs := ⟨_, rfl⟩
  rw [← ht1]
  have HT1 := Lib.hid ht1
  clear ht1
  clear hw1 b1 hz1 hglt hb hs h hf1 hf2 hbs
  have hz0 := dmark_zero
  go_enter Try.func64, Try.ntmps64
  go_upto_region 1 with (fail)
  rw [← HW1.out]
  clear HW1
  go_wp2_with fail
  refine HM1.out.mono ?_
  rintro e w2 ⟨rfl, hm2, o2⟩
  obtain ⟨w3, hw3⟩ : ∃ W, W = w2.alloc (.cells #[.bool f1, .bool false, .slice none 0 0] 25) := ⟨_, rfl⟩
  obtain ⟨gl, hgl⟩ : ∃ gl, gl = w2.heap.size := ⟨_, rfl⟩
  have b3 : Below w2.heap.size w2 w3 := by rw [hw3]; exact below_alloc w2 _
  have k3 : Blk w3 gl 25 #[.bool f1, .bool false, .slice none 0 0] := by rw [hw3, hgl]; exact Blk.new w2 _ _
  have hz2 : w.heap.size + 1 ≤ gl := by rw [hgl]; have := HZ.out.1; have := o2.size; omega
  have hz3 : gl < w3.heap.size := k3.lt
  have HM3 := Lib.hid (mflag_any w3 base g s.flagTo (hm2.below b3) (by have := flagTo_ln s; have := HZ.out.2.2.2.2; omega))
  have HR3 : Hid (Blk w3 w.heap.size 25 #[.bool false, .bool false, .slice none 0 0]) := Lib.hid ((HR1.out.only o2 (by have := HZ.out.2.1; simp; omega)).of (b3.block _ (by have := HZ.out.1; have := o2.size; omega)))
  have HO3 : Hid (Only [g] w w3) := Lib.hid ((Only.of_below HZ.out.2.2.2.1 [g]).trans (o2.trans (Only.of_below b3 [g]) (fun k h => .inl h)) (fun k h => .inl h))
  have HZ3 := Lib.hid (And.intro hz2 hz3)
  have HW3 := Lib.hid (And.intro hw3 hgl)
  have HK3 := Lib.hid k3
  rw [← HF.out.2.1] at HM3
  clear hm2 o2 hw3 hgl b3 k3 hz2 hz3
  go_upto_region 2 with (fail)
  rw [← HW3.out.1, ← HW3.out.2]
  clear HW3
  go_wp2_with fail
  refine HM3.out.mono ?_
  rintro e w4 ⟨rfl, hm4, o4⟩
  have K4 := HK3.out.only o4 (by have := HZ.out.2.1; have := HZ3.out.1; simp; omega)
  have HR4 := Lib.hid (HR3.out.only o4 (by have := HZ.out.2.1; simp; omega))
  have HO4 : Hid (Only [g] w w4) := Lib.hid (HO3.out.trans o4 (fun k h => .inl h))
  have HM4 := Lib.hid hm4
  clear hm4 o4 HR3 HO3 HM3
  go_wp2_with (have _h := K4; refine wpList_setq rfl 4 (.tmp 9) (.tmp 8) rfl gl 1 25 _ (.bool f2) rfl rfl K4 (by simp) (by kernel_rfl) rfl ?_; clear _h K4; intro w5 K5 o5 s5)
  have hgg : gl ≠ g := by have := HZ.out.2.1; have := HZ3.out.1; omega
  have hz5 : w.heap.size ≤ w4.heap.size := HO4.out.size
  have hm5 := HM4.out.aside o5 hgg (by have := HZ.out.2.2.1; have := HZ3.out.1; omega) (by have := HZ.out.2.2.1; omega)
  have HM5 := Lib.hid (mbytes_any w5 base g s.flagTo.flagTo hm5 (by have := flagTo_ln s.flagTo; have := flagTo_ln s; have := HZ.out.2.2.2.2; omega))
  have HR5 := Lib.hid (HR4.out.only o5 (by have := HZ3.out.1; simp; omega))
  have HO5 : Hid (Only [g] w w5) := Lib.hid (HO4.out.trans (o5.mono (G := [gl]) (fun k h => h)) (fun k h => by simp at h; subst h; exact .inr (by have := HZ3.out.1; omega)))
  have HK5 : Hid (Blk w5 gl 25 #[.bool f1, .bool f2, .slice none 0 0]) := Lib.hid K5
  rw [← HF.out.2.2] at HM5
  clear K5 o5 s5 hm5 HM4 HR4 HO4 hz5
  refine HM5.out.mono ?_
  rintro e w6 ⟨v, rfl, ho, hm6, o6⟩
  obtain ⟨A6, c6, rfl⟩ := own_form ho
  have hbl : bs.length ≤ 20000 := by rw [HF.out.2.2]; have := bytes_ln s.flagTo.flagTo; have := flagTo_ln s.flagTo; have := flagTo_ln s; have := HZ.out.2.2.2.2; omega
  have hby : ∀ b ∈ bs, b < 256 := by rw [HF.out.2.2]; exact RD.got_lt (RD.take_good (RD.flagTo_good (RD.flagTo_good HGD.out)) 8) _
  have HT6 := Lib.hid (dtake_any A6 bs.length c6 bs w6 (by omega) (ho.bytes hby))
  have HK6 := Lib.hid (HK5.out.only o6 (by simp; omega))
  have HR6 := Lib.hid (HR5.out.only o6 (by have := HZ.out.2.1; simp; omega))
  have HO6 : Hid (Only [g] w w6) := Lib.hid (HO5.out.trans o6 (fun k h => .inl h))
  have HM6 := Lib.hid hm6
  clear ho hm6 o6 HR5 HO5 HM5 hbl hby
  go_wp2_with fail
  refine HT6.out.mono ?_
  rintro e w7 ⟨b7, ht⟩
  have HK7 := Lib.hid (HK6.out.of (b7.block _ HK6.out.lt))
  have HR7 := Lib.hid (HR6.out.of (b7.block _ HR6.out.lt))
  have HO7 : Hid (Only [g] w w7) := Lib.hid (HO6.out.trans (Only.of_below b7 [g]) (fun k h => .inl h))
  have HM7 := Lib.hid (HM6.out.below b7)
  have hw67 : w.heap.size ≤ w6.heap.size := HO6.out.size
  clear b7 HT6
  have ht1 := HT1.out
  obtain ⟨M, c, tt, rfl, hO7⟩ : ∃ M c tt, e = .returned (.tuple #[.slice M t.length c, tt]) ∧ Own w7 w6.heap.size (.slice M t.length c) t.length t := by
    rcases ht with ⟨hok, v, rfl, ho⟩ | ⟨hno, rfl⟩
    · have e1 : t = takeM bs (countOf bs) := by rw [ht1, marksOf, if_pos hok]
      rw [← e1, show countOf bs = t.length by rw [e1, takeM_len]] at ho
      obtain ⟨M, c, rfl⟩ := own_form ho
      exact ⟨M, c, _, rfl, ho⟩
    · have e1 : t = [] := by rw [ht1, marksOf, if_neg hno]
      subst e1
      exact ⟨none, 0, _, rfl, Own.nil _ _⟩
  have HO8 := Lib.hid (hO7.weaken hw67)
  clear ht ht1 hO7 hw67
  have K7 := HK7.out
  go_wp2_with (first
    | (have _h := K7; refine wpList_setq rfl 23 (.tmp 16) (.tmp 14) rfl gl 2 25 _ (.slice M t.length c) rfl rfl K7 (by simp) (by kernel_rfl) rfl ?_; clear _h K7; intro w8 K8 o8 s8; have KR8 := HR7.out.only o8 (by have := HZ3.out.1; simp; omega); have K8' : Blk w8 gl 25 #[.bool f1, .bool f2, .slice M t.length c] := K8; clear K8)
    | (have _h := K8'; refine wpList_loadq rfl 25 (.tmp 3) rfl (gl) [.bool f1, .bool f2, .slice M t.length c] _ rfl K8' Try.underlying25 rfl (by kernel_rfl) ?_; clear _h K8')
    | (have _h := KR8; refine wpList_storeq rfl 25 (.tmp 2) (.tmp 17) rfl (w.heap.size) _ [.bool f1, .bool f2, .slice M t.length c] rfl rfl KR8 (by simp) (by kernel_rfl) (by intro u hu; simp at hu; rcases hu with rfl | rfl | rfl <;> rfl) ?_; clear _h KR8; intro w9 K9 o9 s9))
  refine bodyPost_ret (results_cell_row rfl _ _ w.heap.size 25 _ (0, 0) _ rfl K9 Try.underlying25 rfl (by kernel_rfl)) rfl ?_
  have hz7 := HO7.out.size
  have hb := HZ.out.2.2.1
  have hm8 := HM7.out.aside o8 hgg (by have := HZ3.out.1; omega) (by omega)
  have hm9 := hm8.aside o9 (by have := HZ.out.2.1; omega) hb (by omega)
  have ho8 : Only [g] w w8 := HO7.out.trans o8 (fun k h => by simp at h; subst h; exact .inr (by have := HZ3.out.1; omega))
  have ho9 : Only [g] w w9 := ho8.trans o9 (fun k h => by simp at h; subst h; exact .inr (Nat.le_refl _))
  have hown : Own w9 w.heap.size (.slice M t.length c) t.length t := by
    refine row_of HO8.out fun k hk => ?_
    obtain ⟨cs, hbk⟩ := own_ty HO8.out hk
    have h8 : w8.heap[k]? = w7.heap[k]? := o8.block k hbk.lt (fun hx => by simp at hx; subst hx; exact hbk.ne_ HK7.out (by decide) rfl)
    have hk8 := hbk.of h8
    exact (o9.block k hk8.lt (fun hx => by simp at hx; subst hx; exact hbk.ne_ HR7.out (by decide) rfl)).trans h8
  exact ⟨M, c, rfl, hown, hm9, ho9⟩
end Go.Proofs.Ytgddenhnpjoabaa

/-
  Memory while the document's Take reads: the reader, the head so far, the snapshots so far. Conditions: what stands in the structure.
-/
namespace Go.Proofs.Ytgddenhnpjoabaa
open Go.RowKit Go.BigFrame
set_option linter.unusedSimpArgs false
set_option linter.unusedVariables false
set_option maxRecDepth 100000
structure Dk (w : World) (base gr gh : Nat) (H : List Value) (s : RD) (acc : List SA) (S : Option Addr) (cS : Nat) (W : World) : Prop where
  rd : Mr W base gr s
  ln : s.bs.length ≤ 20000
  hd : Blk W gh 29 H.toArray
  res : Blk W w.heap.size 29 #[.int .i64 0, .int .i64 0, .int .i64 0, .int .i64 0, .slice none 0 0, .bool false, .bool false, .slice none 0 0, .string ⟨#[]⟩, .int .i64 0, .int .i64 0, .int .i64 0, .int .i64 0, .int .i64 0]
  sn : ∀ x ∈ acc, x.N W base []
  own : W.ownsRow base 74 11 (.slice S acc.length cS) acc.length (acc.flatMap SA.dcells)
  bel : Below w.heap.size w W
  c1 : w.heap.size < base
  c2 : base ≤ gh
  c3 : gr ≠ gh
  c4 : base ≤ W.heap.size
section
variable {w W W' : World} {base gr gh : Nat} {H H' : List Value} {s t : RD} {acc : List SA} {S : Option Addr} {cS : Nat}
theorem Dk.c0 (D : Dk w base gr gh H s acc S cS W) : base ≤ gr := D.rd.over
/-- a block that none of it lies in has changed -/
theorem Dk.far (D : Dk w base gr gh H s acc S cS W) {g : Nat} (o : Only [g] W W') (h1 : base ≤ g) (h3 : g ≠ gh) (h4 : ∀ x ∈ acc, ∀ k ∈ rowOf (.slice x.vw.M 0 0) ++ rowOf (.slice x.C 0 0), k ≠ g) (h5 : ∀ k ∈ rowOf (.slice S 0 0), k ≠ g) {t : RD} (hm : Mr W' base gr t) (hl : t.bs.length ≤ 20000) : Dk w base gr gh H t acc S cS W' := by
  have c1 := D.c1
  refine ⟨hm, hl, D.hd.only o (by simp; omega), D.res.only o (by simp; omega), fun x hx => ?_, ?_, D.bel.trans (o.below (fun k hk => by simp at hk; omega) D.bel.size), D.c1, D.c2, D.c3, Nat.le_trans D.c4 o.size⟩
  · exact (D.sn x hx).of (fun k hk => o.block k ((D.sn x hx).vw.under hk) (by simp; exact h4 x hx k (by simp [hk]))) (fun k hk => o.block k ((D.sn x hx).under hk) (by simp; exact h4 x hx k (by simp [hk])))
  · refine row_of D.own fun k hk => o.block k (row_under D.own k hk) ?_
    simp
    exact h5 k (by rw [row_slice S 0 0 acc.length cS]; exact hk)
/-- the rows of snapshots are of other types -/
theorem Dk.ne_ty (D : Dk w base gr gh H s acc S cS W) {g : Nat} {ty : TypeId} {cs : Array Value} (k : Blk W g ty cs) (h1 : ty ≠ 5) (h2 : ty ≠ 9) : ∀ x ∈ acc, ∀ j ∈ rowOf (.slice x.vw.M 0 0) ++ rowOf (.slice x.C 0 0), j ≠ g := by
  intro x hx j hj e
  subst e
  rcases List.mem_append.1 hj with hj | hj
  · obtain ⟨cs', hb⟩ := (D.sn x hx).vw.ty hj
    exact hb.ne_ k (Ne.symm h1) rfl
  · obtain ⟨cs', hb⟩ := (D.sn x hx).ty hj
    exact hb.ne_ k (Ne.symm h2) rfl
theorem Dk.ne_row (D : Dk w base gr gh H s acc S cS W) {g : Nat} {ty : TypeId} {cs : Array Value} (k : Blk W g ty cs) (h1 : ty ≠ 74) : ∀ j ∈ rowOf (.slice S 0 0), j ≠ g := by
  intro j hj e
  subst e
  obtain ⟨cs', hb⟩ := own_ty D.own (by rw [row_slice S acc.length cS 0 0]; exact hj)
  exact hb.ne_ k (Ne.symm h1) rfl
theorem Dk.call (D : Dk w base gr gh H s acc S cS W) (o : Only [gr] W W') (hm : Mr W' base gr t) (hl : t.bs.length ≤ 20000) : Dk w base gr gh H t acc S cS W' := by
  obtain ⟨A, c, k, _⟩ := D.rd
  exact D.far o D.c0 D.c3 (D.ne_ty k (by decide) (by decide)) (D.ne_row k (by decide)) hm hl
theorem Dk.below (D : Dk w base gr gh H s acc S cS W) (b : Below W.heap.size W W') : Dk w base gr gh H s acc S cS W' :=
  ⟨D.rd.below b, D.ln, D.hd.of (b.block _ D.hd.lt), D.res.of (b.block _ D.res.lt), fun x hx => (D.sn x hx).below b, own_below D.own b, D.bel.trans (b.mono D.bel.size), D.c1, D.c2, D.c3, Nat.le_trans D.c4 b.size⟩
theorem Dk.seth (D : Dk w base gr gh H s acc S cS W) (o : Only [gh] W W') (k : Blk W' gh 29 H'.toArray) : Dk w base gr gh H' s acc S cS W' := by
  have c1 := D.c1
  have c2 := D.c2
  have hm := D.rd.aside o (Ne.symm D.c3) D.c2 D.c4
  have h4 := D.ne_ty D.hd (by decide) (by decide)
  have h5 := D.ne_row D.hd (by decide)
  refine ⟨hm, D.ln, k, D.res.only o (by simp; omega), fun x hx => ?_, ?_, D.bel.trans (o.below (fun k hk => by simp at hk; omega) D.bel.size), D.c1, D.c2, D.c3, Nat.le_trans D.c4 o.size⟩
  · exact (D.sn x hx).of (fun k hk => o.block k ((D.sn x hx).vw.under hk) (by simp; exact h4 x hx k (by simp [hk]))) (fun k hk => o.block k ((D.sn x hx).under hk) (by simp; exact h4 x hx k (by simp [hk])))
  · refine row_of D.own fun k hk => o.block k (row_under D.own k hk) ?_
    simp
    exact h5 k (by rw [row_slice S 0 0 acc.length cS]; exact hk)
/-- a store to a snapshot's block of its own -/
theorem Dk.sets (D : Dk w base gr gh H s acc S cS W) {g : Nat} {cs : Array Value} (k : Blk W g 74 cs) (o : Only [g] W W') (h1 : base ≤ g) (h2 : g ≠ gr) (h3 : g ≠ gh) (h5 : ∀ k ∈ rowOf (.slice S 0 0), k ≠ g) : Dk w base gr gh H s acc S cS W' :=
  D.far o h1 h3 (D.ne_ty k (by decide) (by decide)) h5 (D.rd.aside o h2 h1 D.c4) D.ln
/-- a row of another type stays -/
theorem row_stay {e : TypeId} {b size n g : Nat} {v : Value} {xs : List Value} {ty : TypeId} {cs : Array Value} (h : W.ownsRow b e size v n xs) (k : Blk W g ty cs) (hne : ty ≠ e) (o : Only [g] W W') : W'.ownsRow b e size v n xs :=
  row_of h fun j hj => o.block j (row_under h j hj) (fun hx => by
    simp at hx
    subst hx
    obtain ⟨cs', hb⟩ := own_ty h hj
    exact hb.ne_ k (Ne.symm hne) rfl)
/-- names are appended to names that are younger than all of it -/
theorem Dk.grow (D : Dk w base gr gh H s acc S cS W) {gs n : Nat} {v : Value} {xs : List Value} (hv : W.ownsRow gs 9 1 v n xs) (g5 : W.grownBy W' v.ownBlock) (h1 : base ≤ gs) (h4 : ∀ x ∈ acc, ∀ k ∈ rowOf (.slice x.vw.M 0 0) ++ rowOf (.slice x.C 0 0), k < gs) : Dk w base gr gh H s acc S cS W' := by
  cases hb : v.ownBlock with
  | none =>
    rw [hb] at g5
    exact D.below ⟨g5.os, g5.tape, g5.output, g5.size, fun k hk => g5.block k hk (by simp)⟩
  | some g =>
    rw [hb] at g5
    obtain ⟨cs, kb⟩ := own_ty hv (mem_rowOf.2 hb)
    have hge := (World.ownsRow.lt hv g hb).1
    have o : Only [g] W W' := ⟨g5.os, g5.tape, g5.output, g5.size, fun k hk hn => g5.block k hk (by intro e; injection e with e; subst e; simp at hn)⟩
    obtain ⟨A, c, kr, _⟩ := D.rd
    have h2 : g ≠ gr := fun e => kb.ne_ kr (by decide) e
    exact D.far o (by omega) (fun e => kb.ne_ D.hd (by decide) e) (fun x hx k hk => by have := h4 x hx k hk; omega) (D.ne_row kb (by decide)) (D.rd.aside o h2 (by omega) D.c4) D.ln
/-- behind the store of what is handed back -/
theorem Dk.ret (D : Dk w base gr gh H s acc S cS W) (o : Only [w.heap.size] W W') : (∀ x ∈ acc, x.N W' base []) ∧ W'.ownsRow base 74 11 (.slice S acc.length cS) acc.length (acc.flatMap SA.dcells) := by
  have h4 := D.ne_ty D.res (by decide) (by decide)
  refine ⟨fun x hx => (D.sn x hx).of (fun k hk => o.block k ((D.sn x hx).vw.under hk) (by simp; exact h4 x hx k (by simp [hk]))) (fun k hk => o.block k ((D.sn x hx).under hk) (by simp; exact h4 x hx k (by simp [hk]))), ?_⟩
  have h5 := D.ne_row D.res (by decide)
  refine row_of D.own fun k hk => o.block k (row_under D.own k hk) ?_
  simp
  exact h5 k (by rw [row_slice S 0 0 acc.length cS]; exact hk)
theorem ddv_of {s0 u1 u2 u3 u4 u5 s x1 x2 x3 x4 x5 : RD} {nid nsz nob nsq many ow it tg : Int} {N : Nat} {L : List SnV} {m : MkV} {l : LkV} (U1 : u1 = s0.take 8) (U2 : u2 = u1.take 8) (U3 : u3 = u2.take 8) (U4 : u4 = u3.take 8) (U5 : u5 = u4.take 8) (N0 : nid = s0.num) (N1 : nsz = u1.num) (N2 : nob = u2.num) (N3 : nsq = u3.num) (N4 : many = u4.num) (hN : N = many.toNat) (hL : RD.dsnL N u5 = L ∧ RD.dsnT N u5 = s)
    (Y1 : x1 = s.mkTo ∧ m = s.mkv) (Y2 : x2 = x1.lkTo ∧ l = x1.lkv) (Y3 : x3 = x2.take 8 ∧ ow = x2.num) (Y4 : x4 = x3.take 8 ∧ it = x3.num) (Y5 : x5 = x4.take 8 ∧ tg = x4.num) :
    s0.ddv = ⟨nid, nsz, nob, nsq, L, m, l, ow, it, tg⟩ ∧ s0.ddTo = x5 := by
  obtain ⟨rfl, rfl⟩ := hL
  obtain ⟨rfl, rfl⟩ := Y1
  obtain ⟨rfl, rfl⟩ := Y2
  obtain ⟨rfl, rfl⟩ := Y3
  obtain ⟨rfl, rfl⟩ := Y4
  obtain ⟨rfl, rfl⟩ := Y5
  subst hN N4 N3 N2 N1 N0 U5 U4 U3 U2 U1
  exact ⟨rfl, rfl⟩
theorem row_move {e : TypeId} {b size n : Nat} {v : Value} {xs : List Value} (h : W.ownsRow b e size v n xs) (hW : ∀ k, b ≤ k → k < W.heap.size → W'.heap[k]? = W.heap[k]?) : W'.ownsRow b e size v n xs :=
  row_of h fun k hk => hW k (World.ownsRow.lt h k (mem_rowOf.1 hk)).1 (row_under h k hk)
theorem SA.N.move {x : SA} {b : Nat} (h : x.N W b []) (hW : ∀ k, b ≤ k → k < W.heap.size → W'.heap[k]? = W.heap[k]?) : x.N W' b [] :=
  h.of (fun k hk => hW k (World.ownsRow.lt h.vw.own k (mem_rowOf.1 (by rw [row_slice x.vw.M x.vw.row.length x.vw.cm 0 0]; exact hk))).1 (h.vw.under hk)) (fun k hk => hW k (World.ownsRow.lt h.own k (mem_rowOf.1 (by rw [row_slice x.C x.ch.length x.cc 0 0]; exact hk))).1 (h.under hk))
theorem VA.N.move {x : VA} {b : Nat} (h : x.N W b []) (hW : ∀ k, b ≤ k → k < W.heap.size → W'.heap[k]? = W.heap[k]?) : x.N W' b [] :=
  h.of (fun k hk => hW k (World.ownsRow.lt h.own k (mem_rowOf.1 (by rw [row_slice x.M x.row.length x.cm 0 0]; exact hk))).1 (h.under hk))
/-- what is wholly of the call's own stands where its blocks stand -/
theorem HA.N.move {x : HA} {b : Nat} (h : x.N W b []) (hW : ∀ k, b ≤ k → k < W.heap.size → W'.heap[k]? = W.heap[k]?) : x.N W' b [] :=
  ⟨h.vw.move hW, fun s hs => (h.sn s hs).move hW, row_move h.own hW, h.id, h.obj, h.seq, h.ow, h.it, h.tg⟩
/-- a snapshot is appended -/
theorem Dk.snoc (D : Dk w base gr gh H s acc S cS W) {x : SA} (hx : x.N W base []) {A6 : Option Addr} {c6 : Nat} (h6 : W'.ownsRow base 74 11 (.slice A6 (acc.length + 1) c6) (acc.length + 1) (acc.flatMap SA.dcells ++ x.dcells)) (g6 : W.grownBy W' (Value.slice S acc.length cS).ownBlock) : Dk w base gr gh H s (acc ++ [x]) A6 c6 W' := by
  have nb : ∀ g ty cs, Blk W g ty cs → ty ≠ 74 → W'.heap[g]? = W.heap[g]? := fun g ty cs k hne => g6.block g k.lt (fun e => own_blk_ne D.own k (Ne.symm hne) e.symm)
  have hb : Below base W W' := ⟨g6.os, g6.tape, g6.output, g6.size, fun k hk => g6.block k (Nat.lt_of_lt_of_le hk D.c4) (fun e => by have := (World.ownsRow.lt D.own k e.symm).1; omega)⟩
  obtain ⟨A, c, kr, _⟩ := D.rd
  have hl : (acc ++ [x]).length = acc.length + 1 := by simp
  refine ⟨D.rd.of hb (nb gr _ _ kr (by decide)), D.ln, D.hd.of (nb gh _ _ D.hd (by decide)), D.res.of (nb _ _ _ D.res (by decide)), fun y hy => ?_, ?_, D.bel.trans (hb.mono (by have := D.c1; omega)), D.c1, D.c2, D.c3, Nat.le_trans D.c4 g6.size⟩
  · have hn : y.N W base [] := by
      rcases List.mem_append.1 hy with hy | hy
      · exact D.sn y hy
      · simp only [List.mem_singleton] at hy; subst hy; exact hx
    exact hn.of (fun k hk => by obtain ⟨cs, kb⟩ := hn.vw.ty hk; exact nb k _ _ kb (by decide)) (fun k hk => by obtain ⟨cs, kb⟩ := hn.ty hk; exact nb k _ _ kb (by decide))
  · rw [hl, List.flatMap_append]
    simpa using h6
theorem dsnv_of {s t1 t2 t3 t4 t5 t6 t7 : RD} {num size cnt : Int} {name : List Nat} {m : MkV} {l : LkV} {pr : Bool} {ch : List (List Nat)} (G1 : t1 = s.take 8 ∧ num = s.num) (G2 : t2 = t1.bytesTo ∧ name = t1.bytes) (G3 : t3 = t2.take 8 ∧ size = t2.num) (G4 : t4 = t3.mkTo ∧ m = t3.mkv) (G5 : t5 = t4.lkTo ∧ l = t4.lkv) (G6 : t6 = t5.flagTo ∧ pr = t5.flag) (G7 : t7 = t6.take 8 ∧ cnt = t6.num) (hc : RD.dchL cnt.toNat t7 = ch) :
    s.dsnv = ⟨num, size, name, pr, m, l, ch⟩ ∧ s.dsnTo = RD.dchT cnt.toNat t7 := by
  obtain ⟨rfl, rfl⟩ := G1
  obtain ⟨rfl, rfl⟩ := G2
  obtain ⟨rfl, rfl⟩ := G3
  obtain ⟨rfl, rfl⟩ := G4
  obtain ⟨rfl, rfl⟩ := G5
  obtain ⟨rfl, rfl⟩ := G6
  obtain ⟨rfl, rfl⟩ := G7
  subst hc
  exact ⟨rfl, rfl⟩
theorem Dk.rdb (D : Dk w base gr gh H s acc S cS W) : ∃ cs, Blk W gr 108 cs := by
  obtain ⟨A, c, k, _⟩ := D.rd
  exact ⟨_, k⟩
theorem Dk.num (D : Dk w base gr gh H s acc S cS W) {n : Int} (ht : t = s.take 8) (hn : n = s.num) : Calls Try.prog 62 #[.pointer (some ⟨gr, 0, none⟩)] W fun e w' => e = .returned (.int .i64 n) ∧ Dk w base gr gh H t acc S cS w' ∧ Only [gr] W w' := by
  subst ht hn
  exact (mnum_any W base gr s D.rd (by have := D.ln; omega)).mono fun e w' q => ⟨q.1, D.call q.2.2 q.2.1 (Nat.le_trans (take_ln _ _) D.ln), q.2.2⟩
theorem Dk.flag (D : Dk w base gr gh H s acc S cS W) {f : Bool} (ht : t = s.flagTo) (hf : f = s.flag) : Calls Try.prog 66 #[.pointer (some ⟨gr, 0, none⟩)] W fun e w' => e = .returned (.bool f) ∧ Dk w base gr gh H t acc S cS w' ∧ Only [gr] W w' := by
  subst ht hf
  exact (mflag_any W base gr s D.rd (by have := D.ln; omega)).mono fun e w' q => ⟨q.1, D.call q.2.2 q.2.1 (Nat.le_trans (flagTo_ln _) D.ln), q.2.2⟩
theorem Dk.bytes (D : Dk w base gr gh H s acc S cS W) {bs : List Nat} (ht : t = s.bytesTo) (hb : bs = s.bytes) : Calls Try.prog 63 #[.pointer (some ⟨gr, 0, none⟩)] W fun e w' => ∃ A2 c2, e = .returned (.slice A2 bs.length c2) ∧ (∀ c, (convert 23 9 (.slice A2 bs.length c)).run Try.prog w' = .ok (.string (strOf bs)) w') ∧ (∀ b ∈ bs, b < 256) ∧ Dk w base gr gh H t acc S cS w' ∧ Only [gr] W w' := by
  subst ht hb
  refine (mbytes_any W base gr s D.rd (by have := D.ln; omega)).mono fun e w' q => ?_
  obtain ⟨v, rfl, ho, hm, o⟩ := q
  obtain ⟨A2, c2, rfl⟩ := own_form ho
  have hby : ∀ b ∈ s.bytes, b < 256 := RD.got_lt (RD.take_good D.rd.good 8) _
  exact ⟨A2, c2, rfl, fun c => str_of (P := Try.prog) (ho.bytes hby) c 23 9 5 Try.underlying23 Try.underlying5 Try.underlying9, hby, D.call o hm (Nat.le_trans (bytesTo_ln _) D.ln), o⟩
theorem Dk.link (D : Dk w base gr gh H s acc S cS W) {l : LkV} (ht : t = s.lkTo) (hl : l = s.lkv) : Calls Try.prog 65 #[.pointer (some ⟨gr, 0, none⟩)] W fun e w' => e = .returned (.agg #[.string (strOf l.par), .int .i64 l.ps, .int .i64 l.ov]) ∧ (∀ b ∈ l.par, b < 256) ∧ Dk w base gr gh H t acc S cS w' ∧ Only [gr] W w' := by
  subst ht hl
  exact (dtakelink_any W base gr s D.rd D.ln D.c4).mono fun e w' q => ⟨q.1, RD.got_lt (RD.take_good D.rd.good 8) _, D.call q.2.2 q.2.1 (Nat.le_trans (lkTo_ln _) D.ln), q.2.2⟩
theorem marksOf_lt (b : List Nat) : ∀ x ∈ marksOf b, x < 256 := by
  unfold marksOf
  split
  · intro x hx
    have := takeM_le b _ x hx
    omega
  · intro x hx; cases hx
theorem Dk.marks (D : Dk w base gr gh H s acc S cS W) {m : MkV} (ht : t = s.mkTo) (hm : m = s.mkv) : Calls Try.prog 64 #[.pointer (some ⟨gr, 0, none⟩)] W fun e w' => ∃ M c, e = .returned (.agg #[.bool m.on, .bool m.good, .slice M m.row.length c]) ∧ Own w' W.heap.size (.slice M m.row.length c) m.row.length m.row ∧ (∀ b ∈ m.row, b < 256) ∧ Dk w base gr gh H t acc S cS w' ∧ Only [gr] W w' := by
  subst ht hm
  refine (dtakemarks_any W base gr s D.rd D.ln D.c4).mono fun e w' q => ?_
  obtain ⟨M, c, rfl, ho, hm, o⟩ := q
  exact ⟨M, c, rfl, ho, marksOf_lt _, D.call o hm (Nat.le_trans (mkTo_ln _) D.ln), o⟩
end
end Go.Proofs.Ytgddenhnpjoabaa

/-
  Are two views the same, are two rows of names? Conditions: they read as they are said to.
-/
namespace Go.Proofs.Ytgddenhnpjoabaa
open Go.RowKit Go.BigFrame
set_option linter.unusedSimpArgs false
set_option linter.unusedVariables false
set_option maxRecDepth 100000
def SameV (a b : VA) : Prop := a.size = b.size ∧ a.mk' = b.mk' ∧ a.lk = b.lk
def SameTo (w : World) (p : Prop) (e : Ending) (w' : World) : Prop := ∃ r, e = .returned (.bool r) ∧ (r = true ↔ p) ∧ Below w.heap.size w w'
set_option maxHeartbeats 4000000 in
theorem vsame_any (a b : VA) (w : World) (ha : a.R w) (hb : b.R w) : Calls Try.prog 59 #[.agg a.cs, .agg b.cs] w (SameTo w (SameV a b)) := by
  have B0 := Lib.hid ((below_alloc w (.cells a.cs 82)).alloc (by simp) (.cells b.cs 82))
  have h1 := ha.row.since B0.out
  have h2 := hb.row.since B0.out
  have HE := Lib.hid (equal_any a.M b.M _ _ a.cm b.cm _ _ a.row b.row _ h1 h2)
  have hlk := run_link_eql (strOf a.par) (strOf b.par) a.ps a.ov b.ps b.ov
  obtain ⟨r5, hr5⟩ : ∃ r, r = (((strOf a.par).toList == (strOf b.par).toList) && decide (a.ps = b.ps) && decide (a.ov = b.ov)) := ⟨_, rfl⟩
  have H5 : Hid (r5 = true ↔ a.lk = b.lk) := Lib.hid (by
    rw [hr5, str_eq ha.par hb.par]
    unfold VA.lk
    simp only [Bool.and_eq_true, decide_eq_true_eq, LkV.mk.injEq, and_assoc])
  simp only [← hr5] at hlk
  clear hr5 h1 h2 ha hb
  unfold VA.cs at *
  by_cases c1 : a.size = b.size
  · have d1 : (a.size == b.size) = true := by simpa using c1
    by_cases c2 : a.on = b.on
    · have d2 : (a.on == b.on) = true := by simpa using c2
      by_cases c3 : a.good = b.good
      · have d3 : (a.good == b.good) = true := by simpa using c3
        have C := Lib.hid (And.intro c1 (And.intro c2 c3))
        clear c1 c2 c3
        go_enter Try.func59, Try.ntmps59
        go_wp2_with fail
        refine HE.out.mono ?_
        rintro e w1 ⟨rfl, rfl⟩
        by_cases c4 : a.row = b.row
        · have d4 : (a.row == b.row) = true := by simpa using c4
          replace c4 := Lib.hid c4
          rw [d4]
          cases r5 with
          | true =>
            go_wp2
            go_ret
            exact ⟨true, rfl, ⟨fun _ => ⟨C.out.1, by unfold VA.mk'; rw [C.out.2.1, C.out.2.2, c4.out], H5.out.1 (by trivial)⟩, fun _ => rfl⟩, B0.out⟩
          | false =>
            go_wp2
            go_ret
            exact ⟨false, rfl, ⟨fun h => (by cases h), fun h => (by have := H5.out.2 h.2.2; first | exact this | exact this.elim | cases this)⟩, B0.out⟩
        · have d4 : (a.row == b.row) = false := by simpa using c4
          replace c4 := Lib.hid c4
          rw [d4]
          go_wp2
          go_ret
          exact ⟨false, rfl, ⟨fun h => (by cases h), fun h => absurd (congrArg MkV.row h.2.1) c4.out⟩, B0.out⟩
      · have d3 : (a.good == b.good) = false := by simpa using c3
        replace c3 := Lib.hid c3
        clear c1 c2
        go_enter Try.func59, Try.ntmps59
        go_wp2
        go_ret
        exact ⟨false, rfl, ⟨fun h => (by cases h), fun h => absurd (congrArg MkV.good h.2.1) c3.out⟩, B0.out⟩
    · have d2 : (a.on == b.on) = false := by simpa using c2
      replace c2 := Lib.hid c2
      clear c1
      go_enter Try.func59, Try.ntmps59
      go_wp2
      go_ret
      exact ⟨false, rfl, ⟨fun h => (by cases h), fun h => absurd (congrArg MkV.on h.2.1) c2.out⟩, B0.out⟩
  · have d1 : (a.size == b.size) = false := by simpa using c1
    replace c1 := Lib.hid c1
    go_enter Try.func59, Try.ntmps59
    go_wp2
    go_ret
    exact ⟨false, rfl, ⟨fun h => (by cases h), fun h => absurd h.1 c1.out⟩, B0.out⟩
set_option maxHeartbeats 4000000 in
theorem eqstrs_any (A1 A2 : Option Addr) (c1 c2 : Nat) (l1 l2 : List (List Nat)) (w : World) (h1 : Strs w w.heap.size A1 l1.length l1) (h2 : Strs w w.heap.size A2 l2.length l2) (hl : l1.length ≤ 1000000) (hl2 : l2.length ≤ 1000000) :
    Calls Try.prog 103 #[.slice A1 l1.length c1, .slice A2 l2.length c2] w (SameTo w (l1 = l2)) := by
  by_cases hne : l1.length = l2.length
  · obtain ⟨n, hn⟩ : ∃ n, l1.length = n := ⟨_, rfl⟩
    rw [hn] at h1 hl ⊢
    rw [hn] at hne
    rw [← hne] at h2 ⊢
    have H1 := Lib.hid h1
    have H2 := Lib.hid h2
    have HN := Lib.hid (And.intro hn hne)
    clear h1 h2 hl2 hn hne
    go_enter Try.func103, Try.ntmps103
    go_wp2
    go_loopw [13] (fun i wr => ∃ k : Nat, k ≤ n ∧ i = .int .i64 k ∧ Below w.heap.size w wr ∧ ∀ j, j < k → l1[j]? = l2[j]?) (fun i _ => n - (intOf i).toNat)
    case atStart => exact ⟨0, by omega, rfl, Below.refl _ _, fun j h => by omega⟩
    case round =>
      obtain ⟨k, hk, rfl, hb, hall⟩ := hrel
      have HA := Lib.hid hall
      have HB := Lib.hid hb
      have hwk : IntKind.i64.wrap ((k : Int) + 1) = (k : Int) + 1 := by rw [IntKind.wrap_i64]; omega
      clear hall hb
      by_cases hlt : k < n
      · obtain ⟨ad, x, hA1, hx, hx2, hc⟩ := (H1.out.since HB.out).at_ hlt
        obtain ⟨ad', x', hA2, hx', hx2', hc'⟩ := (H2.out.since HB.out).at_ hlt
        have hk0 : (0 : Int) ≤ (k : Int) := by omega
        have hk1 : (k : Int) < (n : Int) := by omega
        have HX := Lib.hid (And.intro hx hx')
        have he := str_eq hx2 hx2'
        subst hA1 hA2
        clear hx hx' hx2 hx2'
        go_wp2_with fail
        by_cases hxx : x = x'
        · have hd : ((strOf x).toList == (strOf x').toList) = true := by rw [he]; exact decide_eq_true hxx
          clear he
          go_quiet (fail)
          go_wp2
          exact ⟨⟨k + 1, by omega, by go_num, below_drewN HB.out _, fun j hj => by
            rcases Nat.lt_succ_iff_lt_or_eq.1 hj with h | rfl
            · exact HA.out j h
            · rw [HX.out.1, HX.out.2, hxx]⟩, by simp only [intOf]; omega⟩
        · have hd : ((strOf x).toList == (strOf x').toList) = false := by rw [he]; exact decide_eq_false hxx
          clear he
          go_quiet (fail)
          go_wp2
          go_ret
          exact ⟨false, rfl, ⟨fun h => (by cases h), fun h => absurd (by rw [h] at HX; have := HX.out; rw [this.1] at this; exact Option.some.inj this.2) hxx⟩, below_drewN HB.out _⟩
      · obtain rfl : k = n := by omega
        go_wp2
        go_ret
        exact ⟨true, rfl, ⟨fun _ => List.ext_getElem? fun j => by
          by_cases hj : j < k
          · exact HA.out j hj
          · rw [List.getElem?_eq_none (by have := HN.out.1; omega), List.getElem?_eq_none (by have := HN.out.2; omega)], fun _ => rfl⟩, HB.out⟩
  · have hd : ((l1.length : Int) == (l2.length : Int)) = false := by rw [beq_eq_false_iff_ne]; omega
    have HN := Lib.hid hne
    clear hne
    go_enter Try.func103, Try.ntmps103
    go_wp2
    go_ret
    exact ⟨false, rfl, ⟨fun h => (by cases h), fun h => absurd (congrArg List.length h) HN.out⟩, Below.refl _ _⟩
end Go.Proofs.Ytgddenhnpjoabaa

/-
  The document's: marks the same, how many objects, a flag's byte. Conditions: rows read as they are said to.
-/
namespace Go.Proofs.Ytgddenhnpjoabaa
open Go.RowKit Go.BigFrame
set_option linter.unusedSimpArgs false
set_option linter.unusedVariables false
set_option maxRecDepth 100000
theorem dflag_any (f : Bool) (w : World) : Calls Try.prog 57 #[.bool f] w fun e w' => e = .returned (.int .u8 (if f then 1 else 0)) ∧ w = w' := by
  cases f with
  | true =>
    go_enter Try.func57, Try.ntmps57
    go_wp2
    go_ret
    exact ⟨rfl, rfl⟩
  | false =>
    go_enter Try.func57, Try.ntmps57
    go_wp2
    go_ret
    exact ⟨rfl, rfl⟩
theorem objs_two {size obj : Int} (h1 : 1 ≤ size) (h2 : 1 ≤ obj) : (size % obj = 0 → objsOf size obj = size / obj) ∧ (size % obj ≠ 0 → objsOf size obj = size / obj + 1) := by
  have he : objsOf size obj = (size - 1) / obj + 1 := by unfold objsOf; rw [if_neg (by omega)]
  have a := Int.mul_ediv_add_emod (size - 1) obj
  have b := Int.emod_nonneg (size - 1) (show obj ≠ 0 by omega)
  have c := Int.emod_lt_of_pos (size - 1) (show 0 < obj by omega)
  rw [he]
  by_cases e : (size - 1) % obj + 1 = obj
  · have hu := (Int.ediv_emod_unique (a := size) (b := obj) (r := 0) (q := (size - 1) / obj + 1) (by omega)).2 ⟨by rw [Int.mul_add, Int.mul_one]; omega, by omega, by omega⟩
    exact ⟨fun _ => hu.1.symm, fun h => absurd hu.2 h⟩
  · have hu := (Int.ediv_emod_unique (a := size) (b := obj) (r := (size - 1) % obj + 1) (q := (size - 1) / obj) (by omega)).2 ⟨by omega, by omega, by omega⟩
    exact ⟨fun h => absurd (hu.2.symm.trans h) (by omega), fun _ => by rw [hu.1]⟩
theorem dobjects_any (size obj : Int) (h1 : I64 size) (h2 : I64 obj) (w : World) : Calls Try.prog 39 #[.int .i64 size, .int .i64 obj] w fun e w' => e = .returned (.int .i64 (objsOf size obj)) ∧ w = w' := by
  by_cases a : size < 1
  · have hd1 : decide (size < (1 : Int)) = true := decide_eq_true a
    have he : objsOf size obj = 0 := by unfold objsOf; rw [if_pos (.inl a)]
    rw [he]
    go_enter Try.func39, Try.ntmps39
    go_wp2
    go_ret
    exact ⟨rfl, rfl⟩
  · have hd1 : decide (size < (1 : Int)) = false := decide_eq_false a
    by_cases b : obj < 1
    · have hd2 : decide (obj < (1 : Int)) = true := decide_eq_true b
      have he : objsOf size obj = 0 := by unfold objsOf; rw [if_pos (.inr b)]
      rw [he]
      go_enter Try.func39, Try.ntmps39
      go_wp2
      go_ret
      exact ⟨rfl, rfl⟩
    · have hd2 : decide (obj < (1 : Int)) = false := decide_eq_false b
      have hq : size.tdiv obj = size / obj := Int.tdiv_eq_ediv_of_nonneg (by omega)
      have hm : size.tmod obj = size % obj := Int.tmod_eq_emod_of_nonneg (by omega)
      have hne : obj ≠ 0 := by omega
      have hne2 : (obj == 0) = false := by simpa using hne
      have two := objs_two (show 1 ≤ size by omega) (show 1 ≤ obj by omega)
      have hr := objs_range h1 h2
      have g1 : 0 ≤ size / obj := Int.ediv_nonneg (by omega) (by omega)
      have g2 : size / obj ≤ size := Int.ediv_le_self _ (by omega)
      have g3 : 0 ≤ size % obj := Int.emod_nonneg _ hne
      have g4 : size % obj < obj := Int.emod_lt_of_pos _ (by omega)
      have w1 : IntKind.i64.wrap (size / obj) = size / obj := wrap_in (by unfold I64 at *; clear hq hm two hr; omega)
      have w2 : IntKind.i64.wrap (size % obj) = size % obj := wrap_in (by unfold I64 at *; clear hq hm two hr w1; omega)
      by_cases c : size % obj = 0
      · have he := two.1 c
        have d3 : (size % obj == 0) = true := by simpa using c
        rw [he]
        clear two hr g1 g2 g3 g4 h1 h2 a b he
        go_enter Try.func39, Try.ntmps39
        go_wp2
        go_ret
        exact ⟨rfl, rfl⟩
      · have he := two.2 c
        have d3 : (size % obj == 0) = false := by simpa using c
        rw [he] at hr ⊢
        have w3 : IntKind.i64.wrap (size / obj + 1) = size / obj + 1 := wrap_in hr
        clear two hr g1 g2 g3 g4 h1 h2 a b he
        go_enter Try.func39, Try.ntmps39
        go_wp2
        go_ret
        exact ⟨rfl, rfl⟩
-- {SM
set_option maxHeartbeats 2000000 in
theorem dsamemarks_any (a b : VA) (w : World) (ha : a.R w) (hb : b.R w) : Calls Try.prog 48 #[.agg #[.bool a.on, .bool a.good, .slice a.M a.row.length a.cm], .agg #[.bool b.on, .bool b.good, .slice b.M b.row.length b.cm]] w (SameTo w (a.mk' = b.mk')) := by
  have B0 := Lib.hid ((below_alloc w (.cells #[.bool a.on, .bool a.good, .slice a.M a.row.length a.cm] 25)).alloc (by simp) (.cells #[.bool b.on, .bool b.good, .slice b.M b.row.length b.cm] 25))
  have k1 := str_of (P := Try.prog) (ha.row.since B0.out) a.cm 23 9 5 Try.underlying23 Try.underlying5 Try.underlying9
  have k2 := str_of (P := Try.prog) (hb.row.since B0.out) b.cm 23 9 5 Try.underlying23 Try.underlying5 Try.underlying9
  have he := str_eq ha.row.2 hb.row.2
  obtain ⟨s1, hs1⟩ : ∃ s, s = strOf a.row := ⟨_, rfl⟩
  obtain ⟨s2, hs2⟩ : ∃ s, s = strOf b.row := ⟨_, rfl⟩
  rw [← hs1] at k1 he
  rw [← hs2] at k2 he
  clear hs1 hs2 ha hb
  by_cases c1 : a.on = b.on
  · have d1 : (a.on == b.on) = true := by simpa using c1
    by_cases c2 : a.good = b.good
    · have d2 : (a.good == b.good) = true := by simpa using c2
      have C := Lib.hid (And.intro c1 c2)
      clear c1 c2
      by_cases c3 : a.row = b.row
      · rw [decide_eq_true c3] at he
        replace c3 := Lib.hid c3
        go_enter Try.func48, Try.ntmps48
        go_wp2
        go_ret
        exact ⟨true, by simp [he], ⟨fun _ => by unfold VA.mk'; rw [C.out.1, C.out.2, c3.out], fun _ => rfl⟩, B0.out⟩
      · rw [decide_eq_false c3] at he
        replace c3 := Lib.hid c3
        go_enter Try.func48, Try.ntmps48
        go_wp2
        go_ret
        exact ⟨false, by simp [he], ⟨fun h => (by cases h), fun h => absurd (congrArg MkV.row h) c3.out⟩, B0.out⟩
    · have d2 : (a.good == b.good) = false := by simpa using c2
      replace c2 := Lib.hid c2
      clear c1
      go_enter Try.func48, Try.ntmps48
      go_wp2
      go_ret
      exact ⟨false, rfl, ⟨fun h => (by cases h), fun h => absurd (congrArg MkV.good h) c2.out⟩, B0.out⟩
  · have d1 : (a.on == b.on) = false := by simpa using c1
    replace c1 := Lib.hid c1
    go_enter Try.func48, Try.ntmps48
    go_wp2
    go_ret
    exact ⟨false, rfl, ⟨fun h => (by cases h), fun h => absurd (congrArg MkV.on h) c1.out⟩, B0.out⟩
end Go.Proofs.Ytgddenhnpjoabaa

/-
  The document's: where a snapshot stands. Conditions: the head reads as it is said to, and is not long.
-/
namespace Go.Proofs.Ytgddenhnpjoabaa
open Go.RowKit Go.BigFrame
set_option linter.unusedSimpArgs false
set_option linter.unusedVariables false
set_option maxRecDepth 100000
set_option maxHeartbeats 4000000 in
theorem dnumber_any (a : HA) (n : Int) (w : World) (hR : a.R SA.dcells w) (hl : a.sn.length ≤ 1000000) :
    Calls Try.prog 43 #[.agg a.cs, .int .i64 n] w fun e w' => e = .returned (.int .i64 (idxI (fun s : SA => s.num == n) a.sn)) ∧ Below w.heap.size w w' := by
  have B0 := Lib.hid (below_alloc w (.cells a.cs 29))
  have H := Lib.hid hR.row
  obtain ⟨p, hp⟩ : ∃ p : SA → Bool, p = fun s : SA => s.num == n := ⟨_, rfl⟩
  rw [← hp]
  have HP : Hid (∀ s : SA, p s = (s.num == n)) := Lib.hid fun s => by rw [hp]
  have HK : Hid (Blk (w.alloc (.cells a.cs 29)) w.heap.size 29 a.cs) := Lib.hid (Blk.new w _ _)
  clear hR hp
  unfold HA.cs at *
  go_enter Try.func43, Try.ntmps43
  go_wp2
  generalize hw0 : w.alloc _ = w0 at *
  go_loopw [5] (fun i wr => ∃ k : Nat, k ≤ a.sn.length ∧ i = .int .i64 k ∧ wr = w0 ∧ ∀ j s, j < k → a.sn[j]? = some s → p s = false) (fun i _ => a.sn.length - (intOf i).toNat)
  case atStart => exact ⟨0, by omega, rfl, by trivial, fun j s h => by omega⟩
  case round =>
    obtain ⟨k, hk, rfl, rfl, hall⟩ := hrel
    have HA := Lib.hid hall
    have hwk : IntKind.i64.wrap ((k : Int) + 1) = (k : Int) + 1 := by rw [IntKind.wrap_i64]; omega
    have q4 : wr.cell? ⟨w.heap.size, 4, none⟩ = some (.slice a.S a.sn.length a.cs') := HK.out.cell 4
    clear hall
    by_cases hlt : k < a.sn.length
    · obtain ⟨s, hs⟩ : ∃ s, a.sn[k]? = some s := ⟨_, List.getElem?_eq_getElem hlt⟩
      obtain ⟨ad, had, -, hc⟩ := snap_at SA.dcells_len (H.out.since B0.out) hs
      have k7 : wr.cell? (ad.add (k * 11)) = some (.int .i64 s.num) := hc 0 _ rfl
      have HS := Lib.hid hs
      generalize a.S = sS at *
      subst had
      clear hs hc
      cases hp : p s with
      | true =>
        have HI := Lib.hid (idx_skip p a.sn k hk HA.out s HS.out hp)
        rw [HP.out] at hp
        go_wp2
        go_ret
        exact ⟨by rw [HI.out]; rfl, B0.out⟩
      | false =>
        have HQ := Lib.hid hp
        rw [HP.out] at hp
        go_wp2
        go_roundw
        case rel => exact ⟨k + 1, by omega, by go_num, by trivial, fun j x hj hx => by
          rcases Nat.lt_succ_iff_lt_or_eq.1 hj with h | rfl
          · exact HA.out j x h hx
          · rw [HS.out] at hx; injection hx with hx; subst hx; exact HQ.out⟩
        case measure => simp [intOf]; omega
    · obtain rfl : k = a.sn.length := by omega
      have HI := Lib.hid (idx_none p a.sn fun j x hx => HA.out j x (List.getElem?_eq_some_iff.1 hx).1 hx)
      go_wp2
      go_ret
      exact ⟨by rw [HI.out]; rfl, B0.out⟩
set_option maxHeartbeats 4000000 in
theorem dfind_any (a : HA) (bs : List Nat) (hbs : ∀ b ∈ bs, b < 256) (w : World) (hR : a.R SA.dcells w) (hl : a.sn.length ≤ 1000000) :
    Calls Try.prog 41 #[.agg a.cs, .string (strOf bs)] w fun e w' => e = .returned (.int .i64 (idxI (fun s : SA => decide (s.name = bs)) a.sn)) ∧ Below w.heap.size w w' := by
  have B0 := Lib.hid (below_alloc w (.cells a.cs 29))
  have H := Lib.hid hR.row
  have HSN : Hid (∀ s ∈ a.sn, ((strOf s.name).toList == (strOf bs).toList) = decide (s.name = bs)) := Lib.hid fun s hs => str_eq (hR.sn s hs).name hbs
  obtain ⟨p, hp⟩ : ∃ p : SA → Bool, p = fun s : SA => decide (s.name = bs) := ⟨_, rfl⟩
  rw [← hp]
  have HP : Hid (∀ s : SA, p s = decide (s.name = bs)) := Lib.hid fun s => by rw [hp]
  have HK : Hid (Blk (w.alloc (.cells a.cs 29)) w.heap.size 29 a.cs) := Lib.hid (Blk.new w _ _)
  clear hR hp
  unfold HA.cs at *
  go_enter Try.func41, Try.ntmps41
  go_wp2
  generalize hw0 : w.alloc _ = w0 at *
  go_loopw [5] (fun i wr => ∃ k : Nat, k ≤ a.sn.length ∧ i = .int .i64 k ∧ wr = w0 ∧ ∀ j s, j < k → a.sn[j]? = some s → p s = false) (fun i _ => a.sn.length - (intOf i).toNat)
  case atStart => exact ⟨0, by omega, rfl, by trivial, fun j s h => by omega⟩
  case round =>
    obtain ⟨k, hk, rfl, rfl, hall⟩ := hrel
    have HA := Lib.hid hall
    have hwk : IntKind.i64.wrap ((k : Int) + 1) = (k : Int) + 1 := by rw [IntKind.wrap_i64]; omega
    have q4 : wr.cell? ⟨w.heap.size, 4, none⟩ = some (.slice a.S a.sn.length a.cs') := HK.out.cell 4
    clear hall
    by_cases hlt : k < a.sn.length
    · obtain ⟨s, hs⟩ : ∃ s, a.sn[k]? = some s := ⟨_, List.getElem?_eq_getElem hlt⟩
      obtain ⟨ad, had, -, hc⟩ := snap_at SA.dcells_len (H.out.since B0.out) hs
      have k7 : wr.cell? ⟨(ad.add (k * 11)).block, (ad.add (k * 11)).off + 2, none⟩ = some (.string (strOf s.name)) := hc 2 _ rfl
      have hse := HSN.out s (List.mem_of_getElem? hs)
      have HS := Lib.hid hs
      generalize a.S = sS at *
      subst had
      clear hs hc
      cases hp : p s with
      | true =>
        have HI := Lib.hid (idx_skip p a.sn k hk HA.out s HS.out hp)
        rw [HP.out] at hp
        rw [hp] at hse
        clear hp
        go_wp2
        go_ret
        exact ⟨by rw [HI.out]; rfl, B0.out⟩
      | false =>
        have HQ := Lib.hid hp
        rw [HP.out] at hp
        rw [hp] at hse
        clear hp
        go_wp2
        go_roundw
        case rel => exact ⟨k + 1, by omega, by go_num, by trivial, fun j x hj hx => by
          rcases Nat.lt_succ_iff_lt_or_eq.1 hj with h | rfl
          · exact HA.out j x h hx
          · rw [HS.out] at hx; injection hx with hx; subst hx; exact HQ.out⟩
        case measure => simp [intOf]; omega
    · obtain rfl : k = a.sn.length := by omega
      have HI := Lib.hid (idx_none p a.sn fun j x hx => HA.out j x (List.getElem?_eq_some_iff.1 hx).1 hx)
      go_wp2
      go_ret
      exact ⟨by rw [HI.out]; rfl, B0.out⟩
end Go.Proofs.Ytgddenhnpjoabaa

/-
  The document's: a name. Conditions: bytes, and not long.
-/
namespace Go.Proofs.Ytgddenhnpjoabaa
open Go.RowKit Go.BigFrame
set_option linter.unusedSimpArgs false
set_option linter.unusedVariables false
set_option maxRecDepth 100000
theorem strOf_list (bs : List Nat) : (strOf bs).data.toList = bs.map UInt8.ofNat := by
  have := strOf_data bs
  exact this
theorem run_index_str (bs : List Nat) (hb : ∀ b ∈ bs, b < 256) (k b : Nat) (hk : bs[k]? = some b) (w : World) : (Instr.index 9 (.string (strOf bs)) (.int .i64 k)).run Try.prog w = .ok (.int .u8 b) w := by
  have hlt : k < bs.length := (List.getElem?_eq_some_iff.1 hk).1
  have hsz : (strOf bs).size = bs.length := strOf_size bs
  have hsz2 : (strOf bs).data.size = bs.length := hsz
  have h6 : (k : Int) < ((strOf bs).size : Int) := by omega
  have hq : (strOf bs).data[k]? = some (UInt8.ofNat b) := by
    rw [← Array.getElem?_toList, strOf_list, List.getElem?_map, hk]
    rfl
  have hq2 : (strOf bs).data[k]'(by omega) = UInt8.ofNat b := by
    rw [Array.getElem?_eq_getElem (by omega)] at hq
    exact Option.some.inj hq
  have hb2 : b < 256 := hb b (List.mem_of_getElem? hk)
  have hn : (UInt8.ofNat b).toNat = b := by simp; omega
  simp [Instr.index, run_underlying Try.underlying9, asIntOf, h6, hlt, hsz, hsz2, hq, hq2, hn, Result.andThen, go_sem]
  show ((((strOf bs).data[k]'(by omega)).toNat : Int)) = b
  rw [hq2, hn]
set_option maxHeartbeats 4000000 in
theorem dnamed_any (bs : List Nat) (hb : ∀ b ∈ bs, b < 256) (hl : bs.length ≤ 1000000) (w : World) : Calls Try.prog 42 #[.string (strOf bs)] w fun e w' => e = .returned (.bool (namedB bs)) ∧ w = w' := by
  have hsz := strOf_size bs
  have HX : Hid (∀ (k b : Nat), bs[k]? = some b → ∀ W, (Instr.index 9 (.string (strOf bs)) (.int .i64 k)).run Try.prog W = .ok (.int .u8 b) W) := Lib.hid fun k b h W => run_index_str bs hb k b h W
  clear hb
  generalize strOf bs = st at *
  unfold namedB
  by_cases h1 : 1 ≤ bs.length
  · have hd1 : decide ((bs.length : Int) < 1) = false := decide_eq_false (by omega)
    have hd1' : decide (1 ≤ bs.length) = true := decide_eq_true h1
    by_cases h2 : bs.length ≤ 20
    · have hd2 : decide (20 < (bs.length : Int)) = false := decide_eq_false (by omega)
      have hd2' : decide (bs.length ≤ 20) = true := decide_eq_true h2
      have hr' : ∀ q, (decide (1 ≤ bs.length) && decide (bs.length ≤ 20) && q) = q := fun q => by rw [hd1', hd2']; cases q <;> rfl
      rw [hr']
      clear hr'
      go_enter Try.func42, Try.ntmps42
      go_wp2
      go_loopw [3] (fun i wr => ∃ k : Nat, k ≤ bs.length ∧ i = .int .i64 k ∧ wr = w ∧ (bs.take k).all okSign = true) (fun i _ => bs.length - (intOf i).toNat)
      case atStart => exact ⟨0, by omega, rfl, by trivial, rfl⟩
      case round =>
        obtain ⟨k, hk, rfl, rfl, hall⟩ := hrel
        have HA := Lib.hid hall
        clear hall
        have hwk : IntKind.i64.wrap ((k : Int) + 1) = (k : Int) + 1 := by rw [IntKind.wrap_i64]; omega
        by_cases hlt : k < bs.length
        · obtain ⟨b, hbk⟩ : ∃ b, bs[k]? = some b := ⟨_, List.getElem?_eq_getElem hlt⟩
          have hx := HX.out k b hbk
          have hts : (bs.take (k + 1)).all okSign = okSign b := by
            rw [List.take_add_one, hbk, List.all_append, HA.out]
            simp
          have HBK := Lib.hid hbk
          have HTS := Lib.hid hts
          clear hts hbk
          rcases sign_cases b with ⟨hok, hs⟩ | ⟨hok, hs1, hs2, hs3⟩
          · have HOK := Lib.hid hok
            clear hok
            rcases hs with ⟨ha, hz⟩ | ⟨ha, hz⟩ | rfl
            · have d1 : decide (97 ≤ (b : Int)) = true := decide_eq_true (by omega)
              have d2 : decide ((b : Int) ≤ 122) = true := decide_eq_true (by omega)
              clear ha hz
              go_wp2
              go_roundw
              case rel => exact ⟨k + 1, by omega, by go_num, by trivial, by rw [HTS.out]; exact HOK.out⟩
              case measure => simp [intOf]; omega
            · have d1 : decide (97 ≤ (b : Int)) = false := decide_eq_false (by omega)
              have d3 : decide (48 ≤ (b : Int)) = true := decide_eq_true (by omega)
              have d4 : decide ((b : Int) ≤ 57) = true := decide_eq_true (by omega)
              clear ha hz
              go_wp2
              go_roundw
              case rel => exact ⟨k + 1, by omega, by go_num, by trivial, by rw [HTS.out]; exact HOK.out⟩
              case measure => simp [intOf]; omega
            · have d1 : decide (97 ≤ ((45 : Nat) : Int)) = false := by decide
              have d3 : decide (48 ≤ ((45 : Nat) : Int)) = false := by decide
              have d5 : ((((45 : Nat) : Int)) == 45) = true := by decide
              go_wp2
              go_roundw
              case rel => exact ⟨k + 1, by omega, by go_num, by trivial, by rw [HTS.out]; exact HOK.out⟩
              case measure => simp [intOf]; omega
          · have HNO : Hid (bs.all okSign = false) := Lib.hid (by
              rw [Bool.eq_false_iff]
              intro h
              have := List.all_eq_true.1 h b (List.mem_of_getElem? HBK.out)
              rw [hok] at this
              cases this)
            have d5 : ((b : Int) == 45) = false := by rw [beq_eq_false_iff_ne]; omega
            clear hok
            by_cases e1 : 97 ≤ b
            · have d1 : decide (97 ≤ (b : Int)) = true := decide_eq_true (by omega)
              have d2 : decide ((b : Int) ≤ 122) = false := decide_eq_false (by omega)
              have d3 : decide (48 ≤ (b : Int)) = true := decide_eq_true (by omega)
              have d4 : decide ((b : Int) ≤ 57) = false := decide_eq_false (by omega)
              clear hs1 hs2 hs3 e1
              go_wp2
              go_ret
              exact ⟨by rw [HNO.out]; rfl, by first | rfl | trivial⟩
            · have d1 : decide (97 ≤ (b : Int)) = false := decide_eq_false (by omega)
              by_cases e2 : 48 ≤ b
              · have d3 : decide (48 ≤ (b : Int)) = true := decide_eq_true (by omega)
                have d4 : decide ((b : Int) ≤ 57) = false := decide_eq_false (by omega)
                clear hs1 hs2 hs3 e1 e2
                go_wp2
                go_ret
                exact ⟨by rw [HNO.out]; rfl, by first | rfl | trivial⟩
              · have d3 : decide (48 ≤ (b : Int)) = false := decide_eq_false (by omega)
                clear hs1 hs2 hs3 e1 e2
                go_wp2
                go_ret
                exact ⟨by rw [HNO.out]; rfl, by first | rfl | trivial⟩
        · obtain rfl : k = bs.length := by omega
          have HALL : Hid (bs.all okSign = true) := Lib.hid (by have := HA.out; rwa [List.take_length] at this)
          go_wp2
          go_ret
          exact ⟨by rw [HALL.out]; rfl, by first | rfl | trivial⟩
    · have hd2 : decide (20 < (bs.length : Int)) = true := decide_eq_true (by omega)
      have hd2' : decide (bs.length ≤ 20) = false := decide_eq_false h2
      rw [hd2']
      go_enter Try.func42, Try.ntmps42
      go_wp2
      go_ret
      exact ⟨by simp, rfl⟩
  · have hd1 : decide ((bs.length : Int) < 1) = true := decide_eq_true (by omega)
    have hd1' : decide (1 ≤ bs.length) = false := decide_eq_false h1
    rw [hd1']
    go_enter Try.func42, Try.ntmps42
    go_wp2
    go_ret
    exact ⟨by simp, rfl⟩
end Go.Proofs.Ytgddenhnpjoabaa

/-
  The document's: a good link, good marks. Conditions: the view reads as it is said to.
-/
namespace Go.Proofs.Ytgddenhnpjoabaa
open Go.RowKit Go.BigFrame
set_option linter.unusedSimpArgs false
set_option linter.unusedVariables false
set_option maxRecDepth 100000
set_option maxHeartbeats 4000000 in
theorem dgoodlink_any (v : VA) (w : World) (h : v.R w) (hl : v.par.length ≤ 1000000) : Calls Try.prog 40 #[.agg #[.string (strOf v.par), .int .i64 v.ps, .int .i64 v.ov], .int .i64 v.size] w fun e w' => e = .returned (.bool (v.lk.B v.size)) ∧ Below w.heap.size w w' := by
  obtain ⟨size, on, good, row, M, cm, par, ps, ov⟩ := v
  have hpar := h.par
  have hlk : (VA.lk ⟨size, on, good, row, M, cm, par, ps, ov⟩).B size = if par.isEmpty then decide (ps = 0) && decide (ov = 0) else namedB par && decide (1 ≤ ps) && decide (0 ≤ ov) && decide (ov ≤ size) := rfl
  simp only at hpar hl ⊢
  rw [hlk]
  clear h hlk
  have B0 := Lib.hid (below_alloc w (.cells #[.string (strOf par), .int .i64 ps, .int .i64 ov] 27))
  have hes := empty_list par hpar
  have HN := Lib.hid (fun w => dnamed_any par hpar hl w)
  obtain ⟨R, hR⟩ : ∃ R, R = if par.isEmpty then decide (ps = 0) && decide (ov = 0) else namedB par && decide (1 ≤ ps) && decide (0 ≤ ov) && decide (ov ≤ size) := ⟨_, rfl⟩
  rw [← hR]
  have HB : Hid (R = if par.isEmpty then decide (ps = 0) && decide (ov = 0) else namedB par && decide (1 ≤ ps) && decide (0 ≤ ov) && decide (ov ≤ size)) := Lib.hid hR
  clear hR
  cases hp : par.isEmpty with
  | true =>
    rw [hp] at hes HB
    simp only [if_true] at HB
    clear HN hp
    by_cases c1 : ps = 0
    · subst c1
      rw [decide_eq_true rfl, Bool.true_and] at HB
      by_cases c2 : ov = 0
      · subst c2
        rw [decide_eq_true rfl] at HB
        go_enter Try.func40, Try.ntmps40
        go_wp2
        go_ret
        exact ⟨by rw [HB.out]; rfl, B0.out⟩
      · have d2 : (ov == 0) = false := by simpa using c2
        have e2 : decide (ov = 0) = false := decide_eq_false c2
        rw [e2] at HB
        clear c2 e2
        go_enter Try.func40, Try.ntmps40
        go_wp2
        go_ret
        exact ⟨by rw [HB.out]; rfl, B0.out⟩
    · have d1 : (ps == 0) = false := by simpa using c1
      have e1 : decide (ps = 0) = false := decide_eq_false c1
      rw [e1, Bool.false_and] at HB
      clear c1 e1
      go_enter Try.func40, Try.ntmps40
      go_wp2
      go_ret
      exact ⟨by rw [HB.out]; rfl, B0.out⟩
  | false =>
    rw [hp] at hes HB
    simp only [Bool.false_eq_true, if_false] at HB
    clear hp
    obtain ⟨r, hr⟩ : ∃ r, namedB par = r := ⟨_, rfl⟩
    simp only [hr] at HN
    rw [hr] at HB
    clear hr
    cases r with
    | false =>
      simp only [Bool.false_and] at HB
      go_enter Try.func40, Try.ntmps40
      go_wp2_with fail
      refine (HN.out _).mono ?_
      rintro e w1 ⟨rfl, rfl⟩
      go_wp2
      go_ret
      exact ⟨by rw [HB.out]; rfl, B0.out⟩
    | true =>
      rw [Bool.true_and] at HB
      cases e1 : decide (1 ≤ ps) with
      | false =>
        rw [e1, Bool.false_and, Bool.false_and] at HB
        go_enter Try.func40, Try.ntmps40
        go_wp2_with fail
        refine (HN.out _).mono ?_
        rintro e w1 ⟨rfl, rfl⟩
        go_wp2
        go_ret
        exact ⟨by rw [HB.out]; rfl, B0.out⟩
      | true =>
        rw [e1, Bool.true_and] at HB
        cases e2 : decide (0 ≤ ov) with
        | false =>
          rw [e2, Bool.false_and] at HB
          go_enter Try.func40, Try.ntmps40
          go_wp2_with fail
          refine (HN.out _).mono ?_
          rintro e w1 ⟨rfl, rfl⟩
          go_wp2
          go_ret
          exact ⟨by rw [HB.out]; rfl, B0.out⟩
        | true =>
          rw [e2, Bool.true_and] at HB
          cases e3 : decide (ov ≤ size) with
          | false =>
            rw [e3] at HB
            go_enter Try.func40, Try.ntmps40
            go_wp2_with fail
            refine (HN.out _).mono ?_
            rintro e w1 ⟨rfl, rfl⟩
            go_wp2
            go_ret
            exact ⟨by rw [HB.out]; rfl, B0.out⟩
          | true =>
            rw [e3] at HB
            go_enter Try.func40, Try.ntmps40
            go_wp2_with fail
            refine (HN.out _).mono ?_
            rintro e w1 ⟨rfl, rfl⟩
            go_wp2
            go_ret
            exact ⟨by rw [HB.out]; rfl, B0.out⟩
end Go.Proofs.Ytgddenhnpjoabaa

/-
  The document's: good marks of a view. Conditions: the view reads as it is said to, and is not long.
-/
namespace Go.Proofs.Ytgddenhnpjoabaa
open Go.RowKit Go.BigFrame
set_option linter.unusedSimpArgs false
set_option linter.unusedVariables false
set_option maxRecDepth 100000
set_option maxHeartbeats 4000000 in
theorem dgoodmarks_any (v : VA) (n : Int) (w : World) (h : v.R w) (hl : v.row.length ≤ 1000000) : Calls Try.prog 38 #[.agg #[.bool v.on, .bool v.good, .slice v.M v.row.length v.cm], .int .i64 n] w fun e w' => e = .returned (.bool (v.mk'.B n)) ∧ Below w.heap.size w w' := by
  obtain ⟨size, on, good, row, M, cm, par, ps, ov⟩ := v
  have B0 := Lib.hid (below_alloc w (.cells #[.bool on, .bool good, .slice M row.length cm] 25))
  have hlk : (VA.mk' ⟨size, on, good, row, M, cm, par, ps, ov⟩).B n = if on then decide (Good row) && decide ((row.length : Int) = n) else row.isEmpty && !good := rfl
  have hrow := (h.row.since B0.out)
  simp only at hl hrow ⊢
  rw [hlk]
  have HG := Lib.hid (dgood_any M row.length cm _ row _ hl hrow)
  clear h hlk hrow
  cases on with
  | false =>
    simp only [Bool.false_eq_true, if_false]
    have HE : Hid (row.isEmpty = ((row.length : Int) == 0)) := Lib.hid (by cases row <;> simp; omega)
    rw [HE.out]
    clear HG HE
    cases good with
    | true =>
      go_enter Try.func38, Try.ntmps38
      go_wp2
      go_ret
      exact ⟨by simp, B0.out⟩
    | false =>
      cases d : ((row.length : Int) == 0) with
      | true =>
        go_enter Try.func38, Try.ntmps38
        go_wp2
        go_ret
        exact ⟨by simp, by first | exact B0.out | (have := B0.out; simp_all)⟩
      | false =>
        go_enter Try.func38, Try.ntmps38
        go_wp2
        go_ret
        exact ⟨by simp, B0.out⟩
  | true =>
    simp only [if_true]
    obtain ⟨g, hg⟩ : ∃ g, decide (Good row) = g := ⟨_, rfl⟩
    simp only [hg] at HG ⊢
    clear hg
    have he : decide ((row.length : Int) = n) = ((row.length : Int) == n) := by rw [Bool.eq_iff_iff]; simp
    rw [he]
    obtain ⟨r, hr⟩ : ∃ r, ((row.length : Int) == n) = r := ⟨_, rfl⟩
    rw [hr]
    clear he
    cases g with
    | true =>
      cases r with
      | true =>
        go_enter Try.func38, Try.ntmps38
        go_wp2_with fail
        refine HG.out.mono ?_
        rintro e w1 ⟨rfl, rfl⟩
        go_wp2
        go_ret
        exact ⟨by simp, B0.out⟩
      | false =>
        go_enter Try.func38, Try.ntmps38
        go_wp2_with fail
        refine HG.out.mono ?_
        rintro e w1 ⟨rfl, rfl⟩
        go_wp2
        go_ret
        exact ⟨by simp, B0.out⟩
    | false =>
      go_enter Try.func38, Try.ntmps38
      go_wp2_with fail
      refine HG.out.mono ?_
      rintro e w1 ⟨rfl, rfl⟩
      go_wp2
      go_ret
      exact ⟨by simp, B0.out⟩
end Go.Proofs.Ytgddenhnpjoabaa
