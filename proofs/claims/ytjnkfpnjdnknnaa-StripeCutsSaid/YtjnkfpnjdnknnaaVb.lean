/-
  Rows of pieces in memory: how one is read, appended, changed. No condition but the sizes.
-/
import Derived.Test.YtjnkfpnjdnknnaaVf
namespace Go.Proofs.Ytjnkfpnjdnknnaa
open Go.RowKit Go.BigFrame
set_option linter.unusedSimpArgs false
set_option linter.unusedVariables false
set_option maxRecDepth 100000
def Pc.cs (p : Pc) : List Value := [.int .i64 p.ix, .int .i64 p.a, .int .i64 p.ln, .int .i64 p.fr]
def pcsS (l : List Pc) : List Value := l.flatMap Pc.cs
theorem Pc.cs_len (p : Pc) : p.cs.length = 4 := rfl
theorem pcsS_len (l : List Pc) : (pcsS l).length = l.length * 4 := by
  induction l with
  | nil => rfl
  | cons e l ih => simp [pcsS, Pc.cs] at ih ⊢; omega
theorem pcsS_one (l : List Pc) : ∀ u ∈ pcsS l, u.oneCell' = true := by
  intro u hu
  obtain ⟨e, _, he⟩ := List.mem_flatMap.1 hu
  simp [Pc.cs] at he
  rcases he with rfl | rfl | rfl | rfl <;> rfl
/-- a row of pieces of the call's own -/
def OwnP (t : TypeId) (w : World) (base : Nat) (v : Value) (l : List Pc) : Prop := w.ownsRow base t 4 v l.length (pcsS l)
section
variable {t : TypeId} {w w' : World} {base n c : Nat} {A : Option Addr} {v : Value} {l : List Pc}
theorem OwnP.weaken {base' : Nat} (h : OwnP t w base v l) (hb : base' ≤ base) : OwnP t w base' v l := row_weaken h hb
theorem OwnP.form (h : OwnP t w base v l) : ∃ (A : Option Addr) (cap : Nat), v = .slice A l.length cap ∧ (∀ a, A = some a → base ≤ a.block ∧ a.block < w.heap.size ∧ a = ⟨a.block, 0, none⟩) := by
  rcases h.2 with ⟨rfl, h0⟩ | ⟨g, cap, cur, rfl, hb, hh, _⟩
  · exact ⟨none, 0, by rw [h0], fun a e => by cases e⟩
  · refine ⟨_, cap, rfl, fun a e => ?_⟩
    injection e with e
    subst e
    exact ⟨hb, Blk.lt (t := t) hh, rfl⟩
theorem OwnP.below (h : OwnP t w base v l) {B : Nat} (hb : Below B w w') (hB : ∀ k, k ∈ rowOf v → k < B) : OwnP t w' base v l := row_of h fun k hk => hb.block k (hB k hk)
theorem OwnP.since (h : OwnP t w base v l) (hb : Below w.heap.size w w') : OwnP t w' base v l := h.below hb fun k hk => (World.ownsRow.lt h k (mem_rowOf.1 hk)).2
theorem OwnP.nil (t : TypeId) (w : World) (base : Nat) : OwnP t w base (.slice none 0 0) [] := World.ownsRow_nil w base t 4
theorem OwnP.at_ {m : Nat} (h : OwnP t w base (.slice A m c) l) {k : Nat} {p : Pc} (hk : l[k]? = some p) : ∃ ad : Addr, A = some ad ∧ m = l.length ∧ ad.block < w.heap.size ∧ base ≤ ad.block ∧ ∀ j v, p.cs[j]? = some v → w.cell? ((ad.add (k * 4)).add j) = some v := by
  have hl := (List.getElem?_eq_some_iff.1 hk).1
  obtain ⟨A', cap', e, ha⟩ := h.form
  injection e with e1 e2 e3
  subst e2
  obtain ⟨ad, e, hb, hc⟩ := (Reads.of_own h).2 (by omega)
  refine ⟨ad, e, rfl, hb, (ha ad (by rw [← e1]; exact e)).1, fun j v hj => ?_⟩
  rw [add_of_add]
  have hj2 : j < 4 := by have := (List.getElem?_eq_some_iff.1 hj).1; rwa [Pc.cs_len] at this
  exact hc _ v (by rw [pcsS, flat_at Pc.cs 4 Pc.cs_len l k j p hk hj2]; exact hj)
theorem own_set {e : TypeId} {size m c g : Nat} {xs : List Value} (h : w.ownsRow base e size (.slice (some ⟨g, 0, none⟩) m c) m xs) (j : Nat) (u : Value) : (w.setCell ⟨g, j, none⟩ u).ownsRow base e size (.slice (some ⟨g, 0, none⟩) m c) m (xs.set j u) := by
  refine ⟨by rw [List.length_set]; exact h.1, ?_⟩
  rcases h.2 with ⟨e1, -⟩ | ⟨g', cap, cur, hv, hbg, hg, hnc, hcm, hcs, htake⟩
  · injection e1 with e2; cases e2
  · injection hv with e1 e2 e3
    injection e1 with e1
    injection e1 with e1
    subst e1
    subst e3
    refine .inr ⟨g, _, cur.setIfInBounds j u, rfl, hbg, by simp [World.setCell, Array.getElem?_modify, hg], hnc, hcm, by simpa using hcs, ?_⟩
    rw [Array.toList_setIfInBounds, List.take_set, htake]
theorem OwnP.frozen {m : Nat} {ad : Addr} (h : OwnP t w base (.slice (some ad) m c) l) (j : Nat) : w.frozen? (ad.add j) = false := by
  rcases h.2 with ⟨e1, -⟩ | ⟨g', cap, cur, hv, hbg, hg, -⟩
  · injection e1 with e2; cases e2
  · injection hv with e1
    injection e1 with e1
    subst e1
    rw [add_zero_off]
    exact Blk.frozen (t := t) hg j
/-- the last piece grows by one byte -/
theorem OwnP.more {m : Nat} {ad : Addr} {q : Pc} (h : OwnP t w base (.slice (some ad) m c) (l ++ [q])) : OwnP t (w.setCell ((ad.add (l.length * 4)).add 2) (.int .i64 ((q.ln + 1 : Nat) : Int))) base (.slice (some ad) m c) (l ++ [{ q with ln := q.ln + 1 }]) := by
  obtain ⟨A', cap', e, ha⟩ := h.form
  injection e with e1 e2 e3
  have h3 := (ha ad e1.symm).2.2
  obtain ⟨g, hg⟩ : ∃ g, g = ad.block := ⟨_, rfl⟩
  rw [← hg] at h3
  subst h3
  clear hg
  have h2 := h
  unfold OwnP at h2 ⊢
  rw [add_of_add, add_zero_off]
  have hm : m = (l ++ [q]).length := by rw [e2]
  subst hm
  have h4 := own_set h2 (l.length * 4 + 2) (.int .i64 ((q.ln + 1 : Nat) : Int))
  have e5 : (l ++ [{ q with ln := q.ln + 1 }]).length = (l ++ [q]).length := by simp
  rw [e5]
  have e6 : (pcsS (l ++ [q])).set (l.length * 4 + 2) (.int .i64 ((q.ln + 1 : Nat) : Int)) = pcsS (l ++ [{ q with ln := q.ln + 1 }]) := by
    simp only [pcsS, List.flatMap_append, List.flatMap_cons, List.flatMap_nil, List.append_nil]
    have hl : (List.flatMap Pc.cs l).length = l.length * 4 := pcsS_len l
    rw [List.set_append_right _ _ (by omega), hl, show l.length * 4 + 2 - l.length * 4 = 2 by omega]
    rfl
  rw [← e6]
  exact h4
end
theorem pc_info (t : TypeId) (h : t = 37 ∨ t = 38) : (Try.prog.info? t).map (fun i => (i.zero, i.size, i.bytes)) = some (some (.agg #[.int .i64 0, .int .i64 0, .int .i64 0, .int .i64 0]), 4, 32) := by
  rcases h with rfl | rfl <;> kernel_rfl
/-- a slice of one piece, and how it is appended -/
theorem build_pc {ts t : TypeId} (hu : Try.prog.underlying ts = some (.slice t)) (ht : t = 37 ∨ t = 38) (p : Pc) (w : World) : (Instr.buildSlice ts 1 #[(0, .agg p.cs.toArray)]).run Try.prog w = .ok (.slice (some ⟨w.heap.size, 0, none⟩) 1 1) (w.alloc (.cells p.cs.toArray t)) :=
  run_buildSlice_one (size := 4) hu (by rcases ht with rfl | rfl <;> kernel_rfl) (by omega) (by omega) rfl w
theorem pc_new (w : World) (t : TypeId) (p : Pc) : Reads (w.alloc (.cells p.cs.toArray t)) (w.heap.size + 1) 4 (some ⟨w.heap.size, 0, none⟩) 1 p.cs := Reads.newN w p.cs 1 4 t (0, 0) rfl
theorem wp_app_pc {w : World} {o : Oper} {a : Act} {K : Act → World → Prop} {Q : Exit → Act → World → Prop} (s x : Operand) (ts t : TypeId) (hu : Try.prog.underlying ts = some (.slice t)) (ht : t = 37 ∨ t = 38)
    (ho : o.op = .call { callee := .builtin .append, args := #[s, x], argTypes := #[ts, ts] })
    (base : Nat) (v : Value) (l : List Pc) (hs : a.eval s = v) (hown : OwnP t w base v l)
    (B : Nat) (A : Option Addr) (c : Nat) (p : Pc) (hx : a.eval x = .slice A 1 c) (hr : Reads w B 4 A 1 p.cs) (hsz : l.length ≤ 10000000) (hbase : base ≤ w.heap.size)
    (h : ∀ v' w', OwnP t w' base v' (l ++ [p]) → w.grownBy w' v.ownBlock → K (a.put o.dst v') w') : o.wp Try.prog a w K Q := by
  obtain ⟨i0, hi0, hz0, hz1, hz2⟩ := info_parts (pc_info t ht)
  refine wp_append_any w s x ts ho base t i0 _ 4 32 hu hi0 hz0 hz1 hz2 rfl (by omega) v l.length (pcsS l) hs hown B A 1 c p.cs hx hr (fun u hu => pcsS_one [p] u (by simpa [pcsS] using hu)) (by simp only [maxLen]; omega) (by omega) hbase ?_
  intro v' w' h1 h2 h3
  refine h v' w' ?_ h2
  unfold OwnP
  rw [pcsS, List.flatMap_append, List.length_append]
  simpa [pcsS] using h1
theorem wpList_app_pc {ops : Array Oper} {rest : List Oper} {w : World} {o : Oper} {a : Act} {Q : Exit → Act → World → Prop} (hgd : o.guard = none) (s x : Operand) (ts t : TypeId) (hu : Try.prog.underlying ts = some (.slice t)) (ht : t = 37 ∨ t = 38)
    (ho : o.op = .call { callee := .builtin .append, args := #[s, x], argTypes := #[ts, ts] })
    (base : Nat) (v : Value) (l : List Pc) (hs : a.eval s = v) (hown : OwnP t w base v l)
    (B : Nat) (A : Option Addr) (c : Nat) (p : Pc) (hx : a.eval x = .slice A 1 c) (hr : Reads w B 4 A 1 p.cs) (hsz : l.length ≤ 10000000) (hbase : base ≤ w.heap.size)
    (h : ∀ v' w', OwnP t w' base v' (l ++ [p]) → w.grownBy w' v.ownBlock → wpList Try.prog ops Q rest (a.put o.dst v') w') : wpList Try.prog ops Q (o :: rest) a w :=
  wpList_plain hgd fun _ hK => wp_app_pc s x ts t hu ht ho base v l hs hown B A c p hx hr hsz hbase fun v' w' h1 h2 => hK _ _ (h v' w' h1 h2)
theorem run_store_cell {P : Program} (w : World) (g i : Nat) (ty : TypeId) (v : Value) (ht : w.there g i 1) (hi : (P.info? ty).map (·.size) = some 1) (h1 : v.oneCell' = true) :
    (storeVar ty ⟨g, i, none⟩ v).run P w = .ok () (w.setCell ⟨g, i, none⟩ v) := by
  have := run_storeCells_cells (P := P) g i [v] 0 w (fun j hj => by simpa using (ht j (by simpa using hj)).1) (fun j hj => by simpa using (ht j (by simpa using hj)).2) (fun u hu => by simp at hu; subst hu; exact h1)
  have hc : v.cells = #[v] := by cases v <;> first | rfl | cases h1
  cases hq : P.info? ty with
  | none => simp [hq] at hi
  | some i0 =>
    have hs : i0.size = 1 := by simpa [hq] using hi
    simp only [Nat.add_zero] at this
    simp [storeVar, sizeOf, typeInfo, hq, hc, hs, this, World.setCells]
section
variable {P : Program} {ops : Array Oper} {rest : List Oper} {o : Oper} {a : Act} {w : World} {Q : Exit → Act → World → Prop}
theorem wp_setq {K : Act → World → Prop} (ty : TypeId) (x y : Operand) (ho : o.op = .store ty x y)
    (g i : Nat) (t : TypeId) (cs : Array Value) (v : Value) (hx : a.eval x = .pointer (some ⟨g, i, none⟩)) (hy : a.eval y = v) (hB : Blk w g t cs) (hs : i < cs.size) (hi : (P.info? ty).map (·.size) = some 1) (h1 : v.oneCell' = true)
    (h : ∀ w', Blk w' g t (cs.setIfInBounds i v) → Only [g] w w' → w'.heap.size = w.heap.size → K (a.put o.dst undef) w') : o.wp P a w K Q := by
  unfold Oper.wp execOp
  simp only [ho, hx, hy, Instr.storeAt, Instr.sureAddr, Sem.run_bind, Sem.run_pure, Result.andThen_ok, run_store_cell w g i ty v (hB.there (by omega)) hi h1]
  exact h _ (hB.set_ i v) ((Only.refl _ _).setCell (.inl (by simp)) _) (by simp [World.setCell])
/-- one cell of a block known whole is stored -/
theorem wpList_setq (hgd : o.guard = none) (ty : TypeId) (x y : Operand) (ho : o.op = .store ty x y)
    (g i : Nat) (t : TypeId) (cs : Array Value) (v : Value) (hx : a.eval x = .pointer (some ⟨g, i, none⟩)) (hy : a.eval y = v) (hB : Blk w g t cs) (hs : i < cs.size) (hi : (P.info? ty).map (·.size) = some 1) (h1 : v.oneCell' = true)
    (h : ∀ w', Blk w' g t (cs.setIfInBounds i v) → Only [g] w w' → w'.heap.size = w.heap.size → wpList P ops Q rest (a.put o.dst undef) w') : wpList P ops Q (o :: rest) a w :=
  wpList_plain hgd fun _ hK => wp_setq ty x y ho g i t cs v hx hy hB hs hi h1 fun w' h1 h2 h3 => hK _ _ (h w' h1 h2 h3)
/-- a block known whole is stored over -/
theorem wpList_storeq (hgd : o.guard = none) (ty : TypeId) (x y : Operand) (ho : o.op = .store ty x y)
    (g : Nat) (cs : Array Value) (vs : List Value) (hx : a.eval x = .pointer (some ⟨g, 0, none⟩)) (hy : a.eval y = .agg vs.toArray) (hB : Blk w g ty cs) (hs : vs.length = cs.size) (hi : (P.info? ty).map (·.size) = some vs.length) (h1 : ∀ v ∈ vs, v.oneCell' = true)
    (h : ∀ w', Blk w' g ty vs.toArray → Only [g] w w' → w'.heap.size = w.heap.size → wpList P ops Q rest (a.put o.dst undef) w') : wpList P ops Q (o :: rest) a w :=
  wpList_store_mid hgd ty x y ho g 0 vs.toArray hx hy (hB.there (by simp [hs])) (by simpa using hi) (all_oneCell_toArray h1)
    (h _ (by simpa using hB.over vs hs) ((Only.refl _ _).grown (by simpa using (setCells_grown g vs 0 w).1) (fun k e => .inl (by injection e with e; simp [e]))) (by simpa using (setCells_grown g vs 0 w).2))
theorem wpList_loadq (hgd : o.guard = none) (ty : TypeId) (x : Operand) (ho : o.op = .load ty x)
    (g : Nat) (cs : List Value) (d : TypeDesc) (hx : a.eval x = .pointer (some ⟨g, 0, none⟩)) (hB : Blk w g ty cs.toArray) (hu : P.underlying ty = some d) (hd : d.isRow = true) (hi : (P.info? ty).map (·.size) = some cs.length)
    (h : wpList P ops Q rest (a.put o.dst (.agg cs.toArray)) w) : wpList P ops Q (o :: rest) a w :=
  wpList_load_mid hgd ty x ho g 0 hx cs d hB.range hu hd hi h
/-- a struct that lies somewhere is loaded -/
theorem run_loadVar_cells {ty : TypeId} {d : TypeDesc} (hu : P.underlying ty = some d) (hd : d.isRow = true) (w : World) (p : Addr) (cs : List Value) (hi : (P.info? ty).map (·.size) = some cs.length) (hc : ∀ j v, cs[j]? = some v → w.cell? (p.add j) = some v) : (loadVar ty p).run P w = .ok (.agg cs.toArray) w := by
  have hl : (loadCells p cs.length).run P w = .ok cs.toArray w := run_loadCells_list (P := P) w p cs hc
  have hagg : (isAgg ty).run P w = .ok true w := by
    unfold isAgg
    rw [Sem.run_bind, run_underlying hu w]
    cases d <;> first | rfl | cases hd
  cases hq : P.info? ty with
  | none => simp [hq] at hi
  | some i =>
    have hs : i.size = cs.length := by simpa [hq] using hi
    simp [loadVar, Sem.run_bind, hagg, sizeOf, typeInfo, hq, hs, hl]
theorem wpList_loadp (hgd : o.guard = none) (ty : TypeId) (x : Operand) (ho : o.op = .load ty x)
    (p : Addr) (cs : List Value) (d : TypeDesc) (hx : a.eval x = .pointer (some p)) (hc : ∀ j v, cs[j]? = some v → w.cell? (p.add j) = some v) (hu : P.underlying ty = some d) (hd : d.isRow = true) (hi : (P.info? ty).map (·.size) = some cs.length)
    (h : wpList P ops Q rest (a.put o.dst (.agg cs.toArray)) w) : wpList P ops Q (o :: rest) a w :=
  wpList_plain hgd fun _ hK => by
    unfold Oper.wp execOp
    simp only [ho, hx, Instr.loadAt, Instr.sureAddr, Sem.run_bind, Sem.run_pure, Result.andThen_ok, run_loadVar_cells hu hd w p cs hi hc]
    exact hK _ _ h
end
theorem Blk.only {F : List Nat} {w w' : World} {g : Nat} {t : TypeId} {cs : Array Value} (h : Blk w g t cs) (ho : Only F w w') (hn : g ∉ F) : Blk w' g t cs := h.of (ho.block g h.lt hn)
theorem wp_storeq {P : Program} {o : Oper} {a : Act} {w : World} {K : Act → World → Prop} {Q : Exit → Act → World → Prop} (ty : TypeId) (x y : Operand) (ho : o.op = .store ty x y)
    (g : Nat) (cs : Array Value) (vs : List Value) (hx : a.eval x = .pointer (some ⟨g, 0, none⟩)) (hy : a.eval y = .agg vs.toArray) (hB : Blk w g ty cs) (hs : vs.length = cs.size) (hi : (P.info? ty).map (·.size) = some vs.length) (h1 : ∀ v ∈ vs, v.oneCell' = true)
    (h : ∀ w', Blk w' g ty vs.toArray → Only [g] w w' → w'.heap.size = w.heap.size → K (a.put o.dst undef) w') : o.wp P a w K Q :=
  wp_store_mid ty x y ho g 0 vs.toArray hx hy (hB.there (by simp [hs])) (by simpa using hi) (all_oneCell_toArray h1)
    (h _ (by simpa using hB.over vs hs) ((Only.refl _ _).grown (by simpa using (setCells_grown g vs 0 w).1) (fun k e => .inl (by injection e with e; simp [e]))) (by simpa using (setCells_grown g vs 0 w).2))
theorem Pc.one (a b c d : Int) : ∀ v ∈ [Value.int .i64 a, .int .i64 b, .int .i64 c, .int .i64 d], v.oneCell' = true := by
  intro v hv
  simp at hv
  rcases hv with rfl | rfl | rfl | rfl <;> rfl
def intS : Value → Int
  | .int _ n => n
  | _ => 0
theorem wpList_min {ops : Array Oper} {rest : List Oper} {w : World} {o : Oper} {a : Act} {Q : Exit → Act → World → Prop} (hgd : o.guard = none) (x y : Operand) (ho : o.op = .call { callee := .builtin .min, args := #[x, y], argTypes := #[3, 3] })
    (m n r : Int) (hx : a.eval x = .int .i64 m) (hy : a.eval y = .int .i64 n) (hr : min m n = r) (h : wpList Try.prog ops Q rest (a.put o.dst (.int .i64 r)) w) : wpList Try.prog ops Q (o :: rest) a w :=
  wpList_plain hgd fun _ hK => by
    have e : (if n < m then n else m) = r := by rw [← hr]; omega
    unfold Oper.wp execOp
    simp only [ho, resolve, invoke, builtin, Sem.run_bind, Sem.run_pure, Result.andThen_ok, List.map_toArray, List.map_cons, List.map_nil, hx, hy, run_min_int2, e]
    exact hK _ _ h
end Go.Proofs.Ytjnkfpnjdnknnaa
