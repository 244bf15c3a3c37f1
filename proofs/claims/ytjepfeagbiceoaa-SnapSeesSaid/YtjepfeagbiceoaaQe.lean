/-
  Objects with clones that are a call's own: their rows, how a row of clones grows, copies of numbers and of rows of clones. No condition but the sizes.
-/
import Derived.Test.YtjepfeagbiceoaaQd
import Derived.Test.YtjepfeagbiceoaaRd3
import Derived.Lib.SliceRun
namespace Go.Proofs.Ytjepfeagbiceoaa
open Go.RowKit
set_option linter.unusedSimpArgs false
set_option linter.unusedVariables false
set_option maxRecDepth 100000
theorem own_ty {W : World} {base size n : Nat} {e : TypeId} {v : Value} {xs : List Value} (h : W.ownsRow base e size v n xs) {k : Nat} (hk : k ∈ rowOf v) : ∃ cs, Blk W k e cs := by
  rcases h.2 with ⟨rfl, _⟩ | ⟨g, c, cur, rfl, hb, hh, _⟩
  · simp [rowOf, Value.ownBlock] at hk
  · simp [rowOf, Value.ownBlock] at hk
    subst hk
    exact ⟨cur, hh⟩
theorem row_slice (A : Option Addr) (n c n' c' : Nat) : rowOf (.slice A n c) = rowOf (.slice A n' c') := by cases A <;> rfl
/-- how long a row of the call's own is, and where it starts -/
theorem own_shape {W : World} {base size n m c : Nat} {e : TypeId} {A : Option Addr} {xs : List Value} (h : W.ownsRow base e size (.slice A m c) n xs) : m = n ∧ n ≤ c ∧ c ≤ maxLen ∧ (A = none ∨ ∃ b, A = some ⟨b, 0, none⟩ ∧ base ≤ b ∧ b < W.heap.size) := by
  rcases h.2 with ⟨e, h0⟩ | ⟨b, cap, cur, e, hb, hh, h1, h2, _⟩
  · injection e with e1 e2 e3
    subst e1 e2 e3 h0
    exact ⟨rfl, Nat.le_refl _, by simp [maxLen], .inl rfl⟩
  · injection e with e1 e2 e3
    subst e1 e2 e3
    exact ⟨rfl, h1, h2, .inr ⟨b, rfl, hb, (show Blk W b e cur from hh).lt⟩⟩
theorem OwnI.below {w w' : World} {base n : Nat} {v : Value} {l : List Int} (h : OwnI w base v n l) (hb : Below w.heap.size w w') : OwnI w' base v n l := row_of h fun k hk => hb.block k (row_under h k hk)
theorem OwnI.form2 {w : World} {base n : Nat} {v : Value} {l : List Int} (h : OwnI w base v n l) : ∃ (A : Option Addr) (cap : Nat), v = .slice A n cap := by
  rcases h.2 with ⟨rfl, h0⟩ | ⟨g, cap, cur, rfl, _⟩
  · exact ⟨none, 0, by rw [h0]⟩
  · exact ⟨_, cap, rfl⟩
theorem i64s_one (l : List Int) : ∀ u ∈ i64s l, u.oneCell' = true := by
  intro u hu
  obtain ⟨b, _, rfl⟩ := List.mem_map.1 hu
  rfl
theorem i64s_app (a b : List Int) : i64s (a ++ b) = i64s a ++ i64s b := by simp [i64s]
/-- append of numbers onto numbers of the call's own -/
theorem app_ints {w : World} {ops : Array Oper} {rest : List Oper} {o : Oper} {a : Act} {Q : Exit → Act → World → Prop} (s x : Operand)
    (hgd : o.guard = none) (ho : o.op = .call { callee := .builtin .append, args := #[s, x], argTypes := #[26, 26] })
    (base : Nat) (v : Value) (n : Nat) (l : List Int) (hs : a.eval s = v) (hown : OwnI w base v n l)
    (B : Nat) (A : Option Addr) (m c : Nat) (news : List Int) (hx : a.eval x = .slice A m c) (hr : Ints w B A m news)
    (hsz : n + m ≤ 10000000) (hbase : base ≤ w.heap.size)
    (h : ∀ v' w', OwnI w' base v' (n + m) (l ++ news) → w.grownBy w' v.ownBlock → (v'.ownBlock = v.ownBlock ∨ v'.ownBlock = some w.heap.size) → wpList Try.prog ops Q rest (a.put o.dst v') w') :
    wpList Try.prog ops Q (o :: rest) a w := by
  obtain ⟨i0, hi0, hz0, hz1, hz2⟩ := info_parts int_info
  refine wpList_append_any w hgd s x _ ho base 3 i0 _ 1 8 Try.underlying26 hi0 hz0 hz1 hz2 rfl (by omega) v n (i64s l) hs hown B A m c (i64s news) hx hr (i64s_one _) (by simp only [maxLen]; omega) (by omega) hbase ?_
  intro v' w' h1 h2 h3
  exact h v' w' (by unfold OwnI; rw [i64s_app]; exact h1) h2 h3
theorem OwnI.new0 (w : World) (base : Nat) (hb : base ≤ w.heap.size) : OwnI (w.alloc (.cells #[] 3)) base (.slice (some ⟨w.heap.size, 0, none⟩) 0 0) 0 [] := by
  have := World.ownsRow_made (base := base) (e := 3) (size := 1) w #[] 0 hb (by simp [maxLen]) (by simp)
  simpa [OwnI, i64s] using this
theorem OwnI.nil (w : World) (base : Nat) : OwnI w base (.slice none 0 0) 0 [] := World.ownsRow_nil w base _ 1
/-- slices.Clone of numbers -/
theorem iclone_any {w : World} {B c : Nat} {A : Option Addr} {l : List Int} (hl : l.length ≤ 1000000) (hR : Ints w B A l.length l) :
    Calls Try.prog 97 #[.slice A l.length c] w fun e w' => ∃ A2 c2, e = .returned (.slice A2 l.length c2) ∧ OwnI w' w.heap.size (.slice A2 l.length c2) l.length l ∧ Below w.heap.size w w' := by
  have qT : ∀ (w : World) (a : Option Addr) (n c n' c' : Nat), (binOp .eql 26 (.slice a n c) (.slice none n' c')).run Try.prog w = .ok (.bool a.isNone) w := fun w a n c n' c' => Lib.run_eql_slice_nil w _ _ a n c n' c' Try.underlying26
  rcases A with _ | ad
  · have h0 : l = [] := by
      rcases Nat.eq_zero_or_pos l.length with h | h
      · exact List.eq_nil_of_length_eq_zero h
      · obtain ⟨ad, e, _⟩ := hR.2 h
        cases e
    subst h0
    have qn := fun (w : World) (n c n' c' : Nat) => qT w none n c n' c'
    simp only [Option.isNone_none] at qn
    clear qT
    go_enter Try.func97, Try.ntmps97
    go_wp2
    go_ret
    exact ⟨none, 0, rfl, OwnI.nil _ _, Below.refl _ _⟩
  · have qn := fun (w : World) (n c n' c' : Nat) => qT w (some ad) n c n' c'
    simp only [Option.isNone_some] at qn
    clear qT
    have h1 : Ints (w.alloc (.cells #[] 3)) B (some ad) l.length l := hR.since (below_alloc w _)
    have h0 := OwnI.new0 w w.heap.size (Nat.le_refl _)
    generalize hn : l.length = n at *
    go_enter Try.func97, Try.ntmps97
    go_wp2_with (refine app_ints (.tmp 5) (.tmp 6) rfl rfl w.heap.size (.slice (some ⟨w.heap.size, 0, none⟩) 0 0) 0 [] rfl h0 B (some ad) n c l rfl h1 (by omega) (by simp) ?_
                 intro v2 w2 h2 g2 a2)
    go_ret
    rw [Nat.zero_add, List.nil_append] at h2
    obtain ⟨A2, c2, rfl⟩ := h2.form2
    exact ⟨A2, c2, rfl, h2, (below_alloc w _).grown g2 (by simp) (fun k hk => by simp [Value.ownBlock] at hk; omega)⟩
/-! ### rows of clones -/
/-- a row of clones of the call's own -/
def OwnC (t : TypeId) (w : World) (base : Nat) (v : Value) (cl : List CA) : Prop := w.ownsRow base t 2 v cl.length (cl.flatMap CA.cells)
theorem cells_one (cl : List CA) : ∀ u ∈ cl.flatMap CA.cells, u.oneCell' = true := by
  intro u hu
  obtain ⟨c, _, hc⟩ := List.mem_flatMap.1 hu
  exact c.cells_one u hc
theorem OwnC.nil (t : TypeId) (w : World) (base : Nat) : OwnC t w base (.slice none 0 0) [] := World.ownsRow_nil w base _ 2
theorem OwnC.new0 (t : TypeId) (w : World) (base : Nat) (hb : base ≤ w.heap.size) : OwnC t (w.alloc (.cells #[] t)) base (.slice (some ⟨w.heap.size, 0, none⟩) 0 0) [] := by
  have := World.ownsRow_made (base := base) (e := t) (size := 2) w #[] 0 hb (by simp [maxLen]) (by simp)
  simpa [OwnC] using this
theorem OwnC.form {t : TypeId} {w : World} {base : Nat} {v : Value} {cl : List CA} (h : OwnC t w base v cl) : ∃ (A : Option Addr) (cap : Nat), v = .slice A cl.length cap := by
  rcases h.2 with ⟨rfl, h0⟩ | ⟨g, cap, cur, rfl, _⟩
  · exact ⟨none, 0, by rw [h0]⟩
  · exact ⟨_, cap, rfl⟩
theorem OwnC.below {t : TypeId} {w w' : World} {base : Nat} {v : Value} {cl : List CA} (h : OwnC t w base v cl) (hb : Below w.heap.size w w') : OwnC t w' base v cl := row_of h fun k hk => hb.block k (row_under h k hk)
theorem flat_set : ∀ (L : List CA) (k : Nat) (c : CA), k < L.length → ((L.flatMap CA.cells).set (k * 2) (.slice c.S c.sn.length c.cs)).set (k * 2 + 1) (.slice c.D c.dt.length c.cd) = (L.set k c).flatMap CA.cells
  | [], k, c, h => by simp at h
  | x :: L, 0, c, h => by simp [CA.cells]
  | x :: L, k + 1, c, h => by
    have ih := flat_set L k c (by simpa using h)
    rw [List.set_cons_succ, List.flatMap_cons, List.flatMap_cons, ← ih]
    have e1 : (k + 1) * 2 = x.cells.length + k * 2 := by rw [CA.cells_len]; omega
    rw [e1, List.set_append_right _ _ (by omega), show x.cells.length + k * 2 - x.cells.length = k * 2 by omega, List.set_append_right _ _ (by omega), show x.cells.length + k * 2 + 1 - x.cells.length = k * 2 + 1 by omega]
/-- a clone is stored into the row -/
theorem OwnC.set {t : TypeId} {w : World} {base r n cap : Nat} {cl : List CA} (h : OwnC t w base (.slice (some ⟨r, 0, none⟩) n cap) cl) {k : Nat} (hk : k < cl.length) (c : CA) :
    OwnC t (w.setCells r (k * 2) c.cells) base (.slice (some ⟨r, 0, none⟩) n cap) (cl.set k c) ∧ w.grownBy (w.setCells r (k * 2) c.cells) (some r) ∧ (w.setCells r (k * 2) c.cells).heap.size = w.heap.size := by
  obtain ⟨rfl, -⟩ := own_shape h
  refine ⟨?_, (setCells_grown r c.cells (k * 2) w).1, (setCells_grown r c.cells (k * 2) w).2⟩
  have h1 := (World.ownsRow.stored h (k * 2) (.slice c.S c.sn.length c.cs)).1
  have h2 := (World.ownsRow.stored h1 (k * 2 + 1) (.slice c.D c.dt.length c.cd)).1
  rw [flat_set cl k c hk] at h2
  simpa [OwnC, CA.cells, World.setCells] using h2
theorem scl_info : (Try.prog.info? 79).map (fun i => (i.zero, i.size, i.bytes)) = some (some (.agg #[.slice none 0 0, .slice none 0 0]), 2, 48) := by kernel_rfl
/-- append of clones onto a row of the call's own -/
theorem app_scl {w : World} {ops : Array Oper} {rest : List Oper} {o : Oper} {a : Act} {Q : Exit → Act → World → Prop} (s x : Operand)
    (hgd : o.guard = none) (ho : o.op = .call { callee := .builtin .append, args := #[s, x], argTypes := #[34, 34] })
    (base : Nat) (v : Value) (cl : List CA) (hs : a.eval s = v) (hown : OwnC 79 w base v cl)
    (B : Nat) (A : Option Addr) (m c : Nat) (news : List CA) (hx : a.eval x = .slice A m c) (hm : m = news.length) (hr : Reads w B 2 A news.length (news.flatMap CA.cells))
    (hsz : cl.length + m ≤ 10000000) (hbase : base ≤ w.heap.size)
    (h : ∀ v' w', OwnC 79 w' base v' (cl ++ news) → w.grownBy w' v.ownBlock → (v'.ownBlock = v.ownBlock ∨ v'.ownBlock = some w.heap.size) → wpList Try.prog ops Q rest (a.put o.dst v') w') :
    wpList Try.prog ops Q (o :: rest) a w := by
  subst hm
  obtain ⟨i0, hi0, hz0, hz1, hz2⟩ := info_parts scl_info
  refine wpList_append_any w hgd s x _ ho base 79 i0 _ 2 48 Try.underlying34 hi0 hz0 hz1 hz2 rfl (by omega) v cl.length (cl.flatMap CA.cells) hs hown B A news.length c (news.flatMap CA.cells) hx hr (cells_one _) (by simp only [maxLen]; omega) (by omega) hbase ?_
  intro v' w' h1 h2 h3
  exact h v' w' (by unfold OwnC; rw [List.flatMap_append, List.length_append]; exact h1) h2 h3
theorem build_scl (c : CA) (w : World) : (Instr.buildSlice 34 1 #[(0, .agg #[.slice c.S c.sn.length c.cs, .slice c.D c.dt.length c.cd])]).run Try.prog w = .ok (.slice (some ⟨w.heap.size, 0, none⟩) 1 1) (w.alloc (.cells c.cells.toArray 79)) :=
  run_buildSlice_one (size := 2) Try.underlying34 (by kernel_rfl) (by omega) (by omega) rfl w
theorem rcl_info : (Try.prog.info? 78).map (fun i => (i.zero, i.size, i.bytes)) = some (some (.agg #[.slice none 0 0, .slice none 0 0]), 2, 48) := by kernel_rfl
/-- append of clones onto a row of the call's own -/
theorem app_rcl {w : World} {ops : Array Oper} {rest : List Oper} {o : Oper} {a : Act} {Q : Exit → Act → World → Prop} (s x : Operand)
    (hgd : o.guard = none) (ho : o.op = .call { callee := .builtin .append, args := #[s, x], argTypes := #[23, 23] })
    (base : Nat) (v : Value) (cl : List CA) (hs : a.eval s = v) (hown : OwnC 78 w base v cl)
    (B : Nat) (A : Option Addr) (m c : Nat) (news : List CA) (hx : a.eval x = .slice A m c) (hm : m = news.length) (hr : Reads w B 2 A news.length (news.flatMap CA.cells))
    (hsz : cl.length + m ≤ 10000000) (hbase : base ≤ w.heap.size)
    (h : ∀ v' w', OwnC 78 w' base v' (cl ++ news) → w.grownBy w' v.ownBlock → (v'.ownBlock = v.ownBlock ∨ v'.ownBlock = some w.heap.size) → wpList Try.prog ops Q rest (a.put o.dst v') w') :
    wpList Try.prog ops Q (o :: rest) a w := by
  subst hm
  obtain ⟨i0, hi0, hz0, hz1, hz2⟩ := info_parts rcl_info
  refine wpList_append_any w hgd s x _ ho base 78 i0 _ 2 48 Try.underlying23 hi0 hz0 hz1 hz2 rfl (by omega) v cl.length (cl.flatMap CA.cells) hs hown B A news.length c (news.flatMap CA.cells) hx hr (cells_one _) (by simp only [maxLen]; omega) (by omega) hbase ?_
  intro v' w' h1 h2 h3
  exact h v' w' (by unfold OwnC; rw [List.flatMap_append, List.length_append]; exact h1) h2 h3
theorem build_rcl (c : CA) (w : World) : (Instr.buildSlice 23 1 #[(0, .agg #[.slice c.S c.sn.length c.cs, .slice c.D c.dt.length c.cd])]).run Try.prog w = .ok (.slice (some ⟨w.heap.size, 0, none⟩) 1 1) (w.alloc (.cells c.cells.toArray 78)) :=
  run_buildSlice_one (size := 2) Try.underlying23 (by kernel_rfl) (by omega) (by omega) rfl w
theorem one_cl (w : World) (t : TypeId) (c : CA) : Reads (w.alloc (.cells c.cells.toArray t)) (w.heap.size + 1) 2 (some ⟨w.heap.size, 0, none⟩) 1 ([c].flatMap CA.cells) := by
  have := Reads.newN w c.cells 1 2 t (0, 0) rfl
  simpa using this
/-- slices.Clone of a row of clones -/
theorem cclone_any {w : World} {B c : Nat} {A : Option Addr} {cl : List CA} (hl : cl.length ≤ 1000000) (hR : Reads w B 2 A cl.length (cl.flatMap CA.cells)) :
    Calls Try.prog 96 #[.slice A cl.length c] w fun e w' => ∃ A2 c2, e = .returned (.slice A2 cl.length c2) ∧ OwnC 79 w' w.heap.size (.slice A2 cl.length c2) cl ∧ Below w.heap.size w w' := by
  have qT : ∀ (w : World) (a : Option Addr) (n c n' c' : Nat), (binOp .eql 34 (.slice a n c) (.slice none n' c')).run Try.prog w = .ok (.bool a.isNone) w := fun w a n c n' c' => Lib.run_eql_slice_nil w _ _ a n c n' c' Try.underlying34
  rcases A with _ | ad
  · have h0 : cl = [] := by
      rcases Nat.eq_zero_or_pos cl.length with h | h
      · exact List.eq_nil_of_length_eq_zero h
      · obtain ⟨ad, e, _⟩ := hR.2 h
        cases e
    subst h0
    have qn := fun (w : World) (n c n' c' : Nat) => qT w none n c n' c'
    simp only [Option.isNone_none] at qn
    clear qT
    go_enter Try.func96, Try.ntmps96
    go_wp2
    go_ret
    exact ⟨none, 0, rfl, OwnC.nil _ _ _, Below.refl _ _⟩
  · have qn := fun (w : World) (n c n' c' : Nat) => qT w (some ad) n c n' c'
    simp only [Option.isNone_some] at qn
    clear qT
    have h1 := hR.since (below_alloc w (.cells #[] 79))
    have h0 := OwnC.new0 79 w w.heap.size (Nat.le_refl _)
    obtain ⟨n, hn⟩ : ∃ n, n = cl.length := ⟨_, rfl⟩
    have HN := Lib.hid hn
    rw [← hn]
    clear hn
    go_enter Try.func96, Try.ntmps96
    go_wp2_with (refine app_scl (.tmp 5) (.tmp 6) rfl rfl w.heap.size (.slice (some ⟨w.heap.size, 0, none⟩) 0 0) [] rfl h0 B (some ad) n c cl rfl HN.out h1 (by have := HN.out; simp; omega) (by simp) ?_
                 intro v2 w2 h2 g2 a2)
    go_ret
    rw [List.nil_append] at h2
    obtain ⟨A2, c2, rfl⟩ := h2.form
    rw [HN.out]
    exact ⟨A2, c2, rfl, h2, (below_alloc w _).grown g2 (by simp) (fun k hk => by simp [Value.ownBlock] at hk; omega)⟩
/-! ### objects -/
/-- a clone of the call's own -/
structure CA.N (c : CA) (w : World) (base : Nat) : Prop where
  sn : OwnI w base (.slice c.S c.sn.length c.cs) c.sn.length c.sn
  dt : Own w base (.slice c.D c.dt.length c.cd) c.dt.length c.dt
  ok : ∀ b ∈ c.dt, b < 256
  i1 : ∀ s ∈ c.sn, -9223372036854775808 ≤ s ∧ s ≤ 9223372036854775807
def CA.sR (c : CA) : List Nat := rowOf (.slice c.S 0 0)
def CA.dR (c : CA) : List Nat := rowOf (.slice c.D 0 0)
def Dis (l : List (List Nat)) : Prop := l.Pairwise fun a b => ∀ k ∈ a, k ∉ b
section
variable {c : CA} {w w' : World} {base base' : Nat}
theorem CA.N.R (h : c.N w base) : c.R w := by
  obtain ⟨-, s1, s2, -⟩ := own_shape h.sn
  obtain ⟨-, d1, d2, -⟩ := own_shape h.dt
  unfold maxLen at s2 d2
  exact ⟨h.sn.ints, h.dt.bytes h.ok, h.i1, by omega, by omega, s1, d1⟩
theorem CA.N.of (h : c.N w base) (hs : ∀ k ∈ c.sR, w'.heap[k]? = w.heap[k]?) (hd : ∀ k ∈ c.dR, w'.heap[k]? = w.heap[k]?) : c.N w' base :=
  ⟨row_of h.sn fun k hk => hs k (by rw [CA.sR, row_slice _ 0 0 c.sn.length c.cs]; exact hk), row_of h.dt fun k hk => hd k (by rw [CA.dR, row_slice _ 0 0 c.dt.length c.cd]; exact hk), h.ok, h.i1⟩
theorem CA.N.sU (h : c.N w base) : ∀ k ∈ c.sR, base ≤ k ∧ k < w.heap.size ∧ ∃ cs, Blk w k 3 cs := fun k hk => by
  rw [CA.sR, row_slice _ 0 0 c.sn.length c.cs] at hk
  exact ⟨row_over h.sn k hk, row_under h.sn k hk, own_ty h.sn hk⟩
theorem CA.N.dU (h : c.N w base) : ∀ k ∈ c.dR, base ≤ k ∧ k < w.heap.size ∧ ∃ cs, Blk w k 5 cs := fun k hk => by
  rw [CA.dR, row_slice _ 0 0 c.dt.length c.cd] at hk
  exact ⟨row_over h.dt k hk, row_under h.dt k hk, own_ty h.dt hk⟩
theorem CA.N.below (h : c.N w base) (hb : Below w.heap.size w w') : c.N w' base := h.of (fun k hk => hb.block k (h.sU k hk).2.1) (fun k hk => hb.block k (h.dU k hk).2.1)
theorem CA.N.weaken (h : c.N w base) (hb : base' ≤ base) : c.N w base' := ⟨h.sn.weaken hb, h.dt.weaken hb, h.ok, h.i1⟩
end
/-- an object of the call's own, whose row of clones has others behind its own -/
structure OA.P (o : OA) (rest : List CA) (w : World) (base : Nat) : Prop where
  dt : Own w base (.slice o.D o.dt.length o.cd) o.dt.length o.dt
  ok : ∀ b ∈ o.dt, b < 256
  row : OwnC 79 w base (.slice o.C (o.cl ++ rest).length o.cc) (o.cl ++ rest)
  cl : ∀ c ∈ o.cl, c.N w base
  q1 : -9223372036854775808 ≤ o.sq
  q2 : o.sq ≤ 9223372036854775807
  dD : Dis (rowOf (.slice o.D 0 0) :: o.cl.map CA.dR)
  dS : Dis (o.cl.map CA.sR)
def OA.N (o : OA) (w : World) (base : Nat) : Prop := o.P [] w base
section
variable {o : OA} {rest : List CA} {w w' : World} {base base' : Nat}
theorem OA.N.R (h : o.N w base) : o.R w := by
  obtain ⟨-, d1, d2, -⟩ := own_shape h.dt
  have hr := h.row
  rw [List.append_nil] at hr
  obtain ⟨-, c1, c2, -⟩ := own_shape hr
  unfold maxLen at d2 c2
  exact ⟨h.dt.bytes h.ok, Reads.of_own hr, fun c hc => (h.cl c hc).R, h.q1, h.q2, by omega, by omega, d1, c1⟩
theorem OA.P.of (h : o.P rest w base) (hd : ∀ k ∈ rowOf (.slice o.D 0 0), w'.heap[k]? = w.heap[k]?) (hc : ∀ k ∈ rowOf (.slice o.C 0 0), w'.heap[k]? = w.heap[k]?) (hcl : ∀ c ∈ o.cl, (∀ k ∈ c.sR, w'.heap[k]? = w.heap[k]?) ∧ ∀ k ∈ c.dR, w'.heap[k]? = w.heap[k]?) : o.P rest w' base :=
  ⟨row_of h.dt fun k hk => hd k (by rw [row_slice _ 0 0 o.dt.length o.cd]; exact hk), h.ok, row_of h.row fun k hk => hc k (by rw [row_slice _ 0 0 (o.cl ++ rest).length o.cc]; exact hk), fun c hm => (h.cl c hm).of (hcl c hm).1 (hcl c hm).2, h.q1, h.q2, h.dD, h.dS⟩
theorem OA.P.dU (h : o.P rest w base) : ∀ k ∈ rowOf (.slice o.D 0 0), base ≤ k ∧ k < w.heap.size ∧ ∃ cs, Blk w k 5 cs := fun k hk => by
  rw [row_slice _ 0 0 o.dt.length o.cd] at hk
  exact ⟨row_over h.dt k hk, row_under h.dt k hk, own_ty h.dt hk⟩
theorem OA.P.cU (h : o.P rest w base) : ∀ k ∈ rowOf (.slice o.C 0 0), base ≤ k ∧ k < w.heap.size ∧ ∃ cs, Blk w k 79 cs := fun k hk => by
  rw [row_slice _ 0 0 (o.cl ++ rest).length o.cc] at hk
  exact ⟨row_over h.row k hk, row_under h.row k hk, own_ty h.row hk⟩
theorem OA.P.below (h : o.P rest w base) (hb : Below w.heap.size w w') : o.P rest w' base :=
  h.of (fun k hk => hb.block k (h.dU k hk).2.1) (fun k hk => hb.block k (h.cU k hk).2.1) fun c hc => ⟨fun k hk => hb.block k ((h.cl c hc).sU k hk).2.1, fun k hk => hb.block k ((h.cl c hc).dU k hk).2.1⟩
theorem OA.P.weaken (h : o.P rest w base) (hb : base' ≤ base) : o.P rest w base' := ⟨h.dt.weaken hb, h.ok, row_weaken h.row hb, fun c hc => (h.cl c hc).weaken hb, h.q1, h.q2, h.dD, h.dS⟩
theorem OA.N.below (h : o.N w base) (hb : Below w.heap.size w w') : o.N w' base := OA.P.below h hb
theorem OA.N.weaken (h : o.N w base) (hb : base' ≤ base) : o.N w base' := OA.P.weaken h hb
/-- where no block of bytes, of numbers or of clones turns -/
theorem OA.P.typed (h : o.P rest w base) (hk : ∀ k t cs, Blk w k t cs → t = 5 ∨ t = 3 ∨ t = 79 → w'.heap[k]? = w.heap[k]?) : o.P rest w' base :=
  h.of (fun k hm => by obtain ⟨_, _, cs, hb⟩ := h.dU k hm; exact hk k _ cs hb (.inl rfl)) (fun k hm => by obtain ⟨_, _, cs, hb⟩ := h.cU k hm; exact hk k _ cs hb (.inr (.inr rfl)))
    fun c hc => ⟨fun k hm => by obtain ⟨_, _, cs, hb⟩ := (h.cl c hc).sU k hm; exact hk k _ cs hb (.inr (.inl rfl)), fun k hm => by obtain ⟨_, _, cs, hb⟩ := (h.cl c hc).dU k hm; exact hk k _ cs hb (.inl rfl)⟩
theorem Dis.snoc {l : List (List Nat)} {x : List Nat} (h : Dis l) (hx : ∀ a ∈ l, ∀ k ∈ a, k ∉ x) : Dis (l ++ [x]) := by
  unfold Dis
  rw [List.pairwise_append]
  exact ⟨h, List.pairwise_singleton _ _, fun a ha b hb k hk => by simp at hb; subst hb; exact hx a ha k hk⟩
/-- a clone is put in the place of another one, in memory that was made since -/
theorem OA.P.step {c0 c : CA} {r : Nat} {w1 : World} (h : o.P (c0 :: rest) w base) (hb : Below w.heap.size w w1) (hc : c.N w1 w.heap.size) (hr : o.C = some ⟨r, 0, none⟩) (hB : base ≤ w.heap.size) :
    OA.P {o with cl := o.cl ++ [c]} rest (w1.setCells r (o.cl.length * 2) c.cells) base := by
  have h1 := h.below hb
  have hrow := h1.row
  rw [hr] at hrow
  have hlen : o.cl.length < (o.cl ++ c0 :: rest).length := by simp
  obtain ⟨hs1, hs2, hs3⟩ := OwnC.set hrow hlen c
  have e1 : (o.cl ++ c0 :: rest).set o.cl.length c = (o.cl ++ [c]) ++ rest := by
    rw [List.set_append_right _ _ (Nat.le_refl _), Nat.sub_self, List.set_cons_zero, List.append_assoc]
    rfl
  rw [e1] at hs1
  have hcr : ∃ cs, Blk w1 r 79 cs := (h1.cU r (by rw [hr]; simp [rowOf, Value.ownBlock])).2.2
  obtain ⟨csr, hcr⟩ := hcr
  have hkeep : ∀ k t cs, Blk w1 k t cs → t = 5 ∨ t = 3 → (w1.setCells r (o.cl.length * 2) c.cells).heap[k]? = w1.heap[k]? := fun k t cs hk ht =>
    hs2.block k hk.lt (fun e => by
      injection e with e
      refine hk.ne_ hcr ?_ e
      rcases ht with rfl | rfl <;> decide)
  have hN : ∀ {c' : CA} {b : Nat}, c'.N w1 b → c'.N (w1.setCells r (o.cl.length * 2) c.cells) b := fun hc' =>
    hc'.of (fun k hm => by obtain ⟨_, _, cs, hb⟩ := hc'.sU k hm; exact hkeep k _ cs hb (.inr rfl)) (fun k hm => by obtain ⟨_, _, cs, hb⟩ := hc'.dU k hm; exact hkeep k _ cs hb (.inl rfl))
  refine ⟨row_of h1.dt fun k hk => by obtain ⟨cs, hb⟩ := own_ty h1.dt hk; exact hkeep k _ cs hb (.inl rfl), h.ok, ?_, fun c' hc' => ?_, h.q1, h.q2, ?_, ?_⟩
  · show OwnC _ _ _ (.slice o.C ((o.cl ++ [c]) ++ rest).length o.cc) _
    rw [hr]
    have : ((o.cl ++ [c]) ++ rest).length = (o.cl ++ c0 :: rest).length := by simp
    rw [this]
    exact hs1
  · rcases List.mem_append.1 hc' with hm | hm
    · exact hN (h1.cl c' hm)
    · simp at hm
      subst hm
      exact (hN hc).weaken hB
  · have := h.dD.snoc (x := c.dR) fun a ha k hk hx => by
      have h3 := (hc.dU k hx).1
      rcases List.mem_cons.1 ha with rfl | ha
      · have := (h.dU k hk).2.1; omega
      · obtain ⟨c', hc', rfl⟩ := List.mem_map.1 ha
        have := ((h.cl c' hc').dU k hk).2.1; omega
    simpa using this
  · have := h.dS.snoc (x := c.sR) fun a ha k hk hx => by
      have h3 := (hc.sU k hx).1
      obtain ⟨c', hc', rfl⟩ := List.mem_map.1 ha
      have := ((h.cl c' hc').sU k hk).2.1; omega
    simpa using this
end
end Go.Proofs.Ytjepfeagbiceoaa
