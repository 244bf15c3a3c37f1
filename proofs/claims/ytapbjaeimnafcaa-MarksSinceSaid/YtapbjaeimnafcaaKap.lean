/-
  Rows of bytes that are marked, then grown, then looked at: what stays. No condition.
-/
import Derived.Test.YtapbjaeimnafcaaKa
import Derived.Laws.AppendOwn
namespace Go.Proofs.Ytapbjaeimnafcaa
open Go.RowKit
set_option linter.unusedSimpArgs false
set_option linter.unusedVariables false
def mark (k j : Nat) : Nat := (31 * k + 3 * j + 1) % 256
def marks (k n : Nat) : List Nat := (List.range n).map (mark k)
theorem marks_len (k n : Nat) : (marks k n).length = n := by simp [marks]
theorem marks_lt (k n : Nat) : ∀ b ∈ marks k n, b < 256 := by
  intro b hb
  obtain ⟨j, _, rfl⟩ := List.mem_map.1 hb
  exact Nat.mod_lt _ (by omega)
theorem marks_snoc (k n : Nat) : marks k (n + 1) = marks k n ++ [mark k n] := by simp [marks, List.range_succ]
theorem marks_at (k n j : Nat) (hj : j < n) : (marks k n)[j]? = some (mark k j) := by simp [marks, hj]
/-- a row whose first j bytes are marked -/
def markTo (k j : Nat) (bs : List Nat) : List Nat := marks k j ++ bs.drop j
theorem markTo_set (k j : Nat) (bs : List Nat) (hj : j < bs.length) : (markTo k j bs).set j (mark k j) = markTo k (j + 1) bs := by
  unfold markTo
  rw [List.set_append_right _ _ (by rw [marks_len]; omega), marks_len, Nat.sub_self, List.drop_eq_getElem_cons hj, List.set_cons_zero, marks_snoc, List.append_assoc]
  rfl
theorem markTo_len (k j : Nat) (bs : List Nat) (hj : j ≤ bs.length) : (markTo k j bs).length = bs.length := by simp [markTo, marks_len]; omega
theorem markTo_all (k : Nat) (bs : List Nat) : markTo k bs.length bs = marks k bs.length := by simp [markTo]
/-- rows of two kinds of cells share no block -/
theorem own_ne {w : World} {base base' : Nat} {e e' : TypeId} {s s' n n' : Nat} {v v' : Value} {xs xs' : List Value} (h : w.ownsRow base e s v n xs) (h' : w.ownsRow base' e' s' v' n' xs') (hne : e ≠ e') : ∀ b, v.ownBlock = some b → v'.ownBlock ≠ some b := by
  intro b hb hb'
  rcases h.2 with ⟨rfl, _⟩ | ⟨g, cap, cur, rfl, _, hh, _⟩
  · simp [Value.ownBlock] at hb
  · rcases h'.2 with ⟨rfl, _⟩ | ⟨g', cap', cur', rfl, _, hh', _⟩
    · simp [Value.ownBlock] at hb'
    · have e1 : g = b := by simpa [Value.ownBlock] using hb
      have e2 : g' = b := by simpa [Value.ownBlock] using hb'
      subst e1 e2
      rw [hh] at hh'
      injection hh' with hh'
      injection hh' with _ ht
      exact hne ht
/-- append of one byte: in the same row, or in a new one -/
theorem run_append_two (w : World) (base : Nat) (ty : TypeId) (v : Value) (n : Nat) (bs : List Nat) (hown : Own w base v n bs) (a : Addr) (c : Nat) (b : Nat) (hb : Bytes w (w.heap.size) (some a) 1 [b]) (hn : n ≤ 1000000) (hbase : base ≤ w.heap.size) :
    ∃ v' w', (Builtin.append_ #[22, 22] ty #[v, .slice (some a) 1 c]).run Try.prog w = .ok v' w' ∧ Own w' base v' (n + 1) (bs ++ [b]) ∧
      ((v'.ownBlock = v.ownBlock ∧ w.grownBy w' v.ownBlock ∧ (∃ g cap, v = .slice (some ⟨g, 0, none⟩) n cap ∧ v' = .slice (some ⟨g, 0, none⟩) (n + 1) cap)) ∨ (v'.ownBlock = some w.heap.size ∧ w.grownBy w' none)) := by
  obtain ⟨i0, hi0, hz0, hz1, hz2⟩ := info_parts byte_info
  have hcells : ∀ j u, (u8s [b])[j]? = some u → w.cell? (a.add j) = some u := by
    obtain ⟨ad, e, _, hc⟩ := hb.1.2 (by omega)
    injection e with e
    subst e
    exact hc
  obtain ⟨v', w', hrun, h2, h3, h4, h5⟩ := run_append_own_at (P := Try.prog) w base 22 ty 5 i0 _ 1 1 Try.underlying22 hi0 hz0 hz1 hz2 rfl (by omega) v n (u8s bs) hown a 1 c (u8s [b]) rfl hcells (oneCell_u8s _) (by simp only [maxLen]; omega) (by omega) hbase
  have h2' : Own w' base v' (n + 1) (bs ++ [b]) := by unfold Own; rw [u8s, List.map_append]; exact h2
  refine ⟨v', w', hrun, h2', ?_⟩
  rcases hown.2 with ⟨rfl, hx⟩ | ⟨g, cap, cur, rfl, hbg, hg, hnc, hcm, hcs, htake⟩
  · right
    rcases h5 with h5 | h5
    · exfalso
      have := h4.1
      rcases h2.2 with ⟨rfl, h0⟩ | ⟨g', _, _, rfl, _⟩
      · omega
      · simp [Value.ownBlock] at h5
    · exact ⟨h5, h3⟩
  · by_cases hroom : n + 1 ≤ cap
    · left
      have hr := run_append_room (P := Try.prog) w 22 ty 5 i0 Try.underlying22 hi0 g n cap cur hg a 1 c (u8s [b]) (by rw [hz1]; rfl) hcells (oneCell_u8s _) hroom (by rw [hz1, hcs, u8s_length]; show n * 1 + 1 ≤ cap * 1; omega)
      rw [hrun] at hr
      injection hr with e1 e2
      subst e1
      exact ⟨rfl, h3, g, cap, rfl, rfl⟩
    · right
      have holds : ∀ j u, (u8s bs)[j]? = some u → w.cell? ((⟨g, 0, none⟩ : Addr).add j) = some u := World.ownsRow.cells hown (g := g) rfl
      have hr := run_append_grow (P := Try.prog) w 22 ty 5 i0 _ Try.underlying22 hi0 hz0 ⟨g, 0, none⟩ n cap (u8s bs) (by rw [hz1]; exact hown.1) holds a 1 c (u8s [b]) (by rw [hz1]; rfl) hcells (by omega) (by omega) (growslice_fits (by omega) (by rw [hz2]; omega))
      rw [hrun] at hr
      injection hr with e1 e2
      subst e1 e2
      exact ⟨rfl, ⟨rfl, rfl, rfl, by simp, fun k hk _ => Below.heap_alloc w.drew _ k hk⟩⟩
/-- the row that was there stands behind an append in its own row -/
theorem own_ahead {w : World} {base g n m cap : Nat} {bs bs' : List Nat} (h : Own w base (.slice (some ⟨g, 0, none⟩) m cap) m (bs ++ bs')) (hn : bs.length = n) : Own w base (.slice (some ⟨g, 0, none⟩) n cap) n bs := by
  have hl := h.len
  rw [List.length_append] at hl
  refine ⟨by rw [u8s_length]; omega, ?_⟩
  rcases h.2 with ⟨h, _⟩ | ⟨g', cap', cur, hv, h1, h2, h3, h4, h5, h6⟩
  · cases h
  · injection hv with e1 e2 e3
    injection e1 with e1
    injection e1 with e1
    subst e1 e3
    refine .inr ⟨g, cap, cur, rfl, h1, h2, by omega, h4, h5, ?_⟩
    have := congrArg (List.take (n * 1)) h6
    rw [List.take_take, u8s, List.map_append, List.take_left' (by simp; omega)] at this
    rw [show min (n * 1) (m * 1) = n * 1 by omega] at this
    exact this
/-- how a row is being grown: the row v, which began as v0 -/
structure Grow (w0 w : World) (base : Nat) (v0 : Value) (n : Nat) (k : Nat) (v : Value) (q : Nat) : Prop where
  cur : Own w base v q (marks k q)
  old : Own w base v0 n (marks k n)
  only : Only (rowOf v0) w0 w
  own : ∀ b, v.ownBlock = some b → v0.ownBlock = some b ∨ w0.heap.size ≤ b
theorem Grow.alloc {w0 w : World} {base : Nat} {v0 v : Value} {n k q : Nat} (h : Grow w0 w base v0 n k v q) (o : Obj) : Grow w0 (w.alloc o) base v0 n k v q :=
  ⟨h.cur.alloc o, h.old.alloc o, h.only.alloc o, h.own⟩
/-- one byte more -/
theorem Grow.step {w0 w w' : World} {base : Nat} {v0 v v' : Value} {n k q : Nat} (h : Grow w0 w base v0 n k v q) (hnq : n ≤ q) (ho : Own w' base v' (q + 1) (marks k q ++ [mark k q]))
    (hc : (v'.ownBlock = v.ownBlock ∧ w.grownBy w' v.ownBlock ∧ (∃ g cap, v = .slice (some ⟨g, 0, none⟩) q cap ∧ v' = .slice (some ⟨g, 0, none⟩) (q + 1) cap)) ∨ (v'.ownBlock = some w.heap.size ∧ w.grownBy w' none)) : Grow w0 w' base v0 n k v' (q + 1) := by
  rw [← marks_snoc] at ho
  rcases hc with ⟨e1, hg, g, cap, rfl, rfl⟩ | ⟨e1, hg⟩
  · refine ⟨ho, ?_, h.only.grown hg (fun b e => ?_), fun b e => h.own b (by rw [← e1]; exact e)⟩
    · by_cases hs : v0.ownBlock = some g
      · rcases h.old.2 with ⟨rfl, _⟩ | ⟨g0, cap0, cur0, rfl, _, hh0, _, _, hsz0, _⟩
        · simp [Value.ownBlock] at hs
        · have : g0 = g := by simpa [Value.ownBlock] using hs
          subst this
          have hcap : cap0 = cap := by
            rcases h.cur.2 with ⟨hh, _⟩ | ⟨g1, cap1, cur1, hv1, _, hh1, _, _, hsz1, _⟩
            · cases hh
            · injection hv1 with a1 a2 a3
              injection a1 with a1
              injection a1 with a1
              subst a1 a3
              rw [hh0] at hh1
              injection hh1 with hh1
              injection hh1 with hh1
              subst hh1
              omega
          subst hcap
          obtain ⟨r, hr⟩ : ∃ r, marks k (q + 1) = marks k n ++ r := by
            obtain ⟨d, hd⟩ : ∃ d, q + 1 = n + d := ⟨q + 1 - n, by omega⟩
            rw [hd]
            exact ⟨(List.range d).map (fun j => mark k (n + j)), by simp [marks, List.range_add, Function.comp_def]⟩
          rw [hr] at ho
          exact own_ahead ho (marks_len k n)
      · exact Own.grown h.old hg (.inr (by simpa [Value.ownBlock] using hs))
    · rcases h.own b e with h' | h'
      · exact .inl (mem_rowOf.2 h')
      · exact .inr h'
  · refine ⟨ho, ?_, h.only.grown hg (fun b e => by cases e), fun b e => ?_⟩
    · by_cases hs : v0.ownBlock = none
      · exact Own.grown h.old hg (.inl hs)
      · exact Own.grown h.old hg (.inr hs)
    · rw [e1] at e
      injection e with e
      exact .inr (by have := h.only.size; omega)
theorem app_two {w : World} {ops : Array Oper} {rest : List Oper} {o : Oper} {a : Act} {Q : Exit → Act → World → Prop} (s x : Operand)
    (hgd : o.guard = none) (ho : o.op = .call { callee := .builtin .append, args := #[s, x], argTypes := #[22, 22] })
    (base : Nat) (v : Value) (n : Nat) (bs : List Nat) (hs : a.eval s = v) (hown : Own w base v n bs)
    (ad : Addr) (c : Nat) (b : Nat) (hx : a.eval x = .slice (some ad) 1 c) (hr : Bytes w w.heap.size (some ad) 1 [b]) (hn : n ≤ 1000000) (hbase : base ≤ w.heap.size)
    (h : ∀ v' w', Own w' base v' (n + 1) (bs ++ [b]) → ((v'.ownBlock = v.ownBlock ∧ w.grownBy w' v.ownBlock ∧ (∃ g cap, v = .slice (some ⟨g, 0, none⟩) n cap ∧ v' = .slice (some ⟨g, 0, none⟩) (n + 1) cap)) ∨ (v'.ownBlock = some w.heap.size ∧ w.grownBy w' none)) → wpList Try.prog ops Q rest (a.put o.dst v') w') :
    wpList Try.prog ops Q (o :: rest) a w := by
  obtain ⟨v', w', hrun, h2, h3⟩ := run_append_two w base o.type v n bs hown ad c b hr hn hbase
  refine wpList_plain hgd fun _ hK => ?_
  unfold Oper.wp execOp
  simp only [ho, resolve, invoke, builtin, Sem.run_bind, Sem.run_pure, Result.andThen_ok, List.map_toArray, List.map_cons, List.map_nil, hs, hx, hrun]
  exact hK _ _ (h v' w' h2 h3)
theorem row_form {w : World} {base : Nat} {e : TypeId} {v : Value} {n : Nat} {xs : List Value} (h : w.ownsRow base e 1 v n xs) : ∃ A c, v = .slice A n c := by
  rcases h.2 with ⟨rfl, hx⟩ | ⟨g, cap, cur, rfl, _⟩
  · subst hx; exact ⟨none, 0, rfl⟩
  · exact ⟨_, _, rfl⟩
theorem slice_info : (Try.prog.info? 22).map (fun i => (i.zero, i.size, i.bytes)) = some (some (.slice none 0 0), 1, 24) := by kernel_rfl
theorem app_row {w : World} {ops : Array Oper} {rest : List Oper} {o : Oper} {a : Act} {Q : Exit → Act → World → Prop} (s x : Operand)
    (hgd : o.guard = none) (ho : o.op = .call { callee := .builtin .append, args := #[s, x], argTypes := #[37, 37] })
    (base : Nat) (v : Value) (n : Nat) (xs : List Value) (hs : a.eval s = v) (hown : w.ownsRow base 22 1 v n xs)
    (B : Nat) (A : Option Addr) (c : Nat) (u : Value) (hx : a.eval x = .slice A 1 c) (hr : Reads w B 1 A 1 [u]) (hu : u.oneCell' = true) (hn : n ≤ 1000000) (hbase : base ≤ w.heap.size)
    (h : ∀ v' w', w'.ownsRow base 22 1 v' (n + 1) (xs ++ [u]) → w.grownBy w' v.ownBlock → wpList Try.prog ops Q rest (a.put o.dst v') w') :
    wpList Try.prog ops Q (o :: rest) a w := by
  obtain ⟨i0, hi0, hz0, hz1, hz2⟩ := info_parts slice_info
  refine wpList_append_any w hgd s x _ ho base 22 i0 _ 1 24 Try.underlying37 hi0 hz0 hz1 hz2 rfl (by omega) v n xs hs hown B A 1 c [u] hx hr (by
    intro u' hu'
    obtain rfl := List.mem_singleton.1 hu'
    exact hu) (by simp only [maxLen]; omega) (by omega) hbase ?_
  intro v' w' h1 h2 h3
  exact h v' w' h1 h2
end Go.Proofs.Ytapbjaeimnafcaa
