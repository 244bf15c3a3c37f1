/-
  Spaces: rows of rows of extents beside a space. Conditions: they lie in blocks of their own.
-/
import Derived.Test.YtliockcbnmbhnaaUg
namespace Go.Proofs.Ytliockcbnmbhnaa
open Go.RowKit Go.BigFrame
set_option linter.unusedSimpArgs false
set_option linter.unusedVariables false
/-- blocks that hold neither spaces nor flags are as they were -/
def KeepT (W W' : World) : Prop := ∀ (k : Nat) (cs : Array Value) (t : TypeId), Blk W k t cs → t ≠ 62 → t ≠ 4 → W'.heap[k]? = W.heap[k]?
theorem KeepT.refl (W : World) : KeepT W W := fun _ _ _ _ _ _ => rfl
theorem KeepT.trans {a b c : World} (h : KeepT a b) (k : KeepT b c) : KeepT a c := fun i cs t hb h1 h2 => (k i cs t (hb.of (h i cs t hb h1 h2)) h1 h2).trans (h i cs t hb h1 h2)
theorem KeepT.below {W W' : World} (h : Below W.heap.size W W') : KeepT W W' := fun k cs t hb _ _ => h.block k hb.lt
theorem own_typed {W : World} {base size n : Nat} {e : TypeId} {v : Value} {xs : List Value} (h : W.ownsRow base e size v n xs) {k : Nat} (hk : v.ownBlock = some k) : ∃ cs, Blk W k e cs := by
  rcases h.2 with ⟨rfl, _⟩ | ⟨g, c, cur, rfl, hb, hh, _⟩
  · simp [Value.ownBlock] at hk
  · simp [Value.ownBlock] at hk
    subst hk
    exact ⟨cur, hh⟩
theorem own_keep {W W' : World} {base size n : Nat} {e : TypeId} {v : Value} {xs : List Value} (h : W.ownsRow base e size v n xs) (hk : KeepT W W') (h1 : e ≠ 62) (h2 : e ≠ 4) : W'.ownsRow base e size v n xs :=
  row_of h fun k hm => by
    obtain ⟨cs, hb⟩ := own_typed h (mem_rowOf.1 hm)
    exact hk k cs e hb h1 h2
theorem own_grown {W W' : World} {base size n : Nat} {e e' : TypeId} {v : Value} {xs : List Value} (h : W.ownsRow base e size v n xs) {row : Option Nat} (hg : W.grownBy W' row) (hr : ∀ k, row = some k → ∃ cs, Blk W k e' cs) (hne : e ≠ e') : W'.ownsRow base e size v n xs :=
  row_of h fun k hm => by
    obtain ⟨cs, hb⟩ := own_typed h (mem_rowOf.1 hm)
    exact hg.block k hb.lt (fun he => by
      obtain ⟨cs', hb'⟩ := hr k he.symm
      exact hb.ne_ hb' hne rfl)
theorem Sps.norm {w W : World} {g r c : Nat} {A : Option Addr} {fl : List Bool} (h : Sps w W g r c A fl) : ∃ r', Sps w W g r' c A fl ∧ (∀ W', Only [g, r'] W W' → KeepT W W') ∧ (fl ≠ [] → r' = r) := by
  have hg := h.at_.blk
  by_cases hf : fl = []
  · subst hf
    refine ⟨W.heap.size, ⟨⟨h.at_.blk, h.at_.cap, h.at_.lim, .inl rfl⟩, by have := hg.lt; omega, h.bel, h.gl, h.bel.size⟩, fun W' ho k cs t hb h1 h2 => ?_, fun h => absurd rfl h⟩
    refine ho.block k hb.lt (fun hm => ?_)
    simp at hm
    rcases hm with e | e
    · subst e; exact hb.ne_ hg h1 rfl
    · have := hb.lt; omega
  · refine ⟨r, h, fun W' ho k cs t hb h1 h2 => ?_, fun _ => rfl⟩
    refine ho.block k hb.lt (fun hm => ?_)
    simp at hm
    rcases hm with e | e
    · subst e; exact hb.ne_ hg h1 rfl
    · subst e
      rcases h.at_.row with e | ⟨_, cs', hb', _⟩
      · exact hf e
      · exact hb.ne_ hb' h2 rfl
/-- what a call of Take comes to, the other blocks as they were -/
def TakeT (w W : World) (g c : Nat) (A : Option Addr) (fl : List Bool) (n : Int) (e : Ending) (w' : World) : Prop :=
  KeepT W w' ∧ W.heap.size ≤ w'.heap.size ∧ ∃ r : Nat,
  ((n < 0 ∧ e = .returned (.tuple #[.slice none 0 0, errV 1]) ∧ Sps w w' g r c A fl) ∨
   ((cnt fl : Int) < n ∧ e = .returned (.tuple #[.slice none 0 0, errV 4]) ∧ Sps w w' g r c A fl) ∨
   (∃ (k : Nat) (v : Value) (out : List (Nat × Nat)), n = (k : Int) ∧ k ≤ cnt fl ∧ e = .returned (.tuple #[v, .nilIface]) ∧ OwnE w' W.heap.size v (natE out) ∧ Chosen (hol 0 fl) k out ∧ Sps w w' g r c A (setA fl out false)))
theorem take_T {w W : World} {g r c : Nat} {A : Option Addr} {fl : List Bool} (n : Int) (h : Sps w W g r c A fl) :
    Calls Try.prog 15 #[.pointer (some ⟨g, 0, none⟩), .int .i64 n] W (TakeT w W g c A fl n) := by
  obtain ⟨r', h', hk, -⟩ := h.norm
  refine (stake_any n h'.at_ h'.ne).mono ?_
  rintro e w' ⟨ho, ⟨h1, rfl, hs⟩ | ⟨h1, rfl, hs⟩ | ⟨k, v, out, rfl, hk2, rfl, hv, hc, hs⟩⟩
  · exact ⟨hk _ ho, ho.size, r', .inl ⟨h1, rfl, h'.only ho hs⟩⟩
  · exact ⟨hk _ ho, ho.size, r', .inr (.inl ⟨h1, rfl, h'.only ho hs⟩)⟩
  · exact ⟨hk _ ho, ho.size, r', .inr (.inr ⟨k, v, out, rfl, hk2, rfl, hv, hc, h'.only ho hs⟩)⟩
/-- what a call of Give or Claim comes to, the other blocks as they were -/
def TurnT (w W : World) (g c : Nat) (A : Option Addr) (fl : List Bool) (es : List (Int × Int)) (b : Bool) (e : Ending) (w' : World) : Prop :=
  KeepT W w' ∧ W.heap.size ≤ w'.heap.size ∧ ∃ r : Nat,
  ((∃ ns, TurnOk fl es b ns ∧ e = .returned .nilIface ∧ Sps w w' g r c A (setA fl ns b)) ∨ ((∀ ns, ¬ TurnOk fl es b ns) ∧ e = .returned (errV 1) ∧ Sps w w' g r c A fl))
theorem own_far {W : World} {base n c : Nat} {E : Option Addr} {es : List (Int × Int)} {w : World} {g r c1 : Nat} {A : Option Addr} {fl : List Bool} (h : OwnE W base (.slice E n c) es) (hs : Sps w W g r c1 A fl) : ∀ ad, E = some ad → ad.block ≠ g ∧ (fl ≠ [] → ad.block ≠ r) := by
  rintro ad rfl
  obtain ⟨cs, hb⟩ := own_typed h (k := ad.block) rfl
  refine ⟨hb.ne_ hs.at_.blk (by decide), fun hf => ?_⟩
  rcases hs.at_.row with e | ⟨_, cs', hb', _⟩
  · exact absurd e hf
  · exact hb.ne_ hb' (by decide)
theorem give_T {w W : World} {g r c c' base : Nat} {A E : Option Addr} {fl : List Bool} (es : List (Int × Int)) (hI : ∀ e ∈ es, InI e) (h : Sps w W g r c A fl) (hE : OwnE W base (.slice E es.length c') es) (hle : es.length ≤ 65536) :
    Calls Try.prog 18 #[.pointer (some ⟨g, 0, none⟩), .slice E es.length c'] W (TurnT w W g c A fl es true) := by
  obtain ⟨r', h', hk, -⟩ := h.norm
  have hcap : es.length ≤ c' := by
    rcases hE.2 with ⟨e, h0⟩ | ⟨_, _, _, e, _, _, h1, _⟩
    · omega
    · injection e with _ _ e; omega
  refine (give_at es hI h'.at_ h'.ne E c' hcap hE.ext (Nat.le_refl _) (own_far hE h') hle).mono ?_
  rintro e w' ⟨ho, ⟨ns, h1, rfl, hs⟩ | ⟨h1, rfl, hs⟩⟩
  · exact ⟨hk _ ho, ho.size, r', .inl ⟨ns, h1, rfl, h'.only ho hs⟩⟩
  · exact ⟨hk _ ho, ho.size, r', .inr ⟨h1, rfl, h'.only ho hs⟩⟩
theorem claim_T {w W : World} {g r c c' base : Nat} {A E : Option Addr} {fl : List Bool} (es : List (Int × Int)) (hI : ∀ e ∈ es, InI e) (h : Sps w W g r c A fl) (hE : OwnE W base (.slice E es.length c') es) (hle : es.length ≤ 65536) :
    Calls Try.prog 20 #[.pointer (some ⟨g, 0, none⟩), .slice E es.length c'] W (TurnT w W g c A fl es false) := by
  obtain ⟨r', h', hk, -⟩ := h.norm
  have hcap : es.length ≤ c' := by
    rcases hE.2 with ⟨e, h0⟩ | ⟨_, _, _, e, _, _, h1, _⟩
    · omega
    · injection e with _ _ e; omega
  refine (claim_at es hI h'.at_ h'.ne E c' hcap hE.ext (Nat.le_refl _) (own_far hE h') hle).mono ?_
  rintro e w' ⟨ho, ⟨ns, h1, rfl, hs⟩ | ⟨h1, rfl, hs⟩⟩
  · exact ⟨hk _ ho, ho.size, r', .inl ⟨ns, h1, rfl, h'.only ho hs⟩⟩
  · exact ⟨hk _ ho, ho.size, r', .inr ⟨h1, rfl, h'.only ho hs⟩⟩
/-- a row of rows of extents -/
structure Grid (w W : World) (lv : Value) (ls : List (Value × List (Nat × Nat))) : Prop where
  own : W.ownsRow w.heap.size 36 1 lv ls.length (ls.map (·.1))
  els : ∀ p ∈ ls, OwnE W w.heap.size p.1 (natE p.2)
theorem Grid.keep {w W W' : World} {lv : Value} {ls : List (Value × List (Nat × Nat))} (h : Grid w W lv ls) (hk : KeepT W W') : Grid w W' lv ls :=
  ⟨own_keep h.own hk (by decide) (by decide), fun p hp => own_keep (h.els p hp) hk (by decide) (by decide)⟩
theorem Grid.form {w W : World} {lv : Value} {ls : List (Value × List (Nat × Nat))} (h : Grid w W lv ls) : ∃ A c, lv = .slice A ls.length c := by
  rcases h.own.2 with ⟨e, h0⟩ | ⟨g, c, _, e, _⟩
  · exact ⟨none, 0, by rw [e, h0]⟩
  · exact ⟨_, c, e⟩
theorem Grid.block {w W : World} {lv : Value} {ls : List (Value × List (Nat × Nat))} (h : Grid w W lv ls) (h0 : 0 < ls.length) : ∃ b c, lv = .slice (some ⟨b, 0, none⟩) ls.length c ∧ w.heap.size ≤ b := by
  rcases h.own.2 with ⟨e, h1⟩ | ⟨b, c, cur, e, hb, _⟩
  · omega
  · exact ⟨b, c, e, hb⟩
theorem Grid.get {w W : World} {b c : Nat} {ls : List (Value × List (Nat × Nat))} (h : Grid w W (.slice (some ⟨b, 0, none⟩) ls.length c) ls) {k : Nat} {p : Value × List (Nat × Nat)} (hk : ls[k]? = some p) : W.cell? ⟨b, k, none⟩ = some p.1 ∧ W.frozen? ⟨b, k, none⟩ = false ∧ OwnE W w.heap.size p.1 (natE p.2) := by
  have hl := (List.getElem?_eq_some_iff.1 hk).1
  exact ⟨(World.ownsRow.cellAt h.own k (by omega)).trans (by simp [hk]), World.ownsRow.frozenAt h.own k, h.els p (List.mem_of_getElem? hk)⟩
theorem Grid.app {w W W2 : World} {lv lv2 v : Value} {ls : List (Value × List (Nat × Nat))} {es : List (Nat × Nat)} (h : Grid w W lv ls) (hv : OwnE W w.heap.size v (natE es)) (ho : W2.ownsRow w.heap.size 36 1 lv2 (ls.length + 1) (ls.map (·.1) ++ [v])) (hg : W.grownBy W2 lv.ownBlock) : Grid w W2 lv2 (ls ++ [(v, es)]) := by
  refine ⟨by simpa using ho, fun p hp => ?_⟩
  have hr : ∀ k, lv.ownBlock = some k → ∃ cs, Blk W k 36 cs := fun k hk => own_typed h.own hk
  rcases List.mem_append.1 hp with hp | hp
  · exact own_grown (h.els p hp) hg hr (by decide)
  · simp at hp; subst hp; exact own_grown hv hg hr (by decide)
theorem Grid.reset {w W : World} {b c : Nat} {ls : List (Value × List (Nat × Nat))} (h : Grid w W (.slice (some ⟨b, 0, none⟩) ls.length c) ls) (k : Nat) : Grid w (W.setCell ⟨b, k, none⟩ (.slice none 0 0)) (.slice (some ⟨b, 0, none⟩) (ls.set k (.slice none 0 0, [])).length c) (ls.set k (.slice none 0 0, [])) := by
  obtain ⟨h1, hg⟩ := World.ownsRow.stored h.own k (.slice none 0 0)
  refine ⟨by rw [List.map_set, List.length_set]; exact h1, fun p hp => ?_⟩
  rcases List.mem_or_eq_of_mem_set hp with hp | rfl
  · exact own_grown (h.els p hp) hg (fun k' hk' => by
      injection hk' with hk'
      subst hk'
      exact own_typed h.own rfl) (e' := 36) (by decide)
  · exact OwnE.nil _ _
theorem row_info : (Try.prog.info? 36).map (fun i => (i.zero, i.size, i.bytes)) = some (some (.slice none 0 0), 1, 24) := by kernel_rfl
theorem build_row (A : Option Addr) (n c : Nat) (w : World) : (Instr.buildSlice 35 1 #[(0, .slice A n c)]).run Try.prog w = .ok (.slice (some ⟨w.heap.size, 0, none⟩) 1 1) (w.alloc (.cells #[.slice A n c] 36)) :=
  run_buildSlice_one (size := 1) Try.underlying35 (by kernel_rfl) (by omega) (by omega) rfl w
theorem app_grid {w0 w : World} {ops : Array Oper} {rest : List Oper} {o : Oper} {a : Act} {Q : Exit → Act → World → Prop} (s x : Operand)
    (hgd : o.guard = none) (ho : o.op = .call { callee := .builtin .append, args := #[s, x], argTypes := #[35, 35] })
    (v : Value) (ls : List (Value × List (Nat × Nat))) (hs : a.eval s = v) (hG : Grid w0 w v ls) (u : Value) (es : List (Nat × Nat)) (hu : OwnE w w0.heap.size u (natE es)) (b c : Nat) (hx : a.eval x = .slice (some ⟨b, 0, none⟩) 1 c) (hb : w.cell? ⟨b, 0, none⟩ = some u)
    (hsz : ls.length ≤ 1000000) (hbase : w0.heap.size ≤ w.heap.size)
    (h : ∀ v' w', Grid w0 w' v' (ls ++ [(u, es)]) → w.grownBy w' v.ownBlock → (∀ k, v.ownBlock = some k → ∃ cs, Blk w k 36 cs) → wpList Try.prog ops Q rest (a.put o.dst v') w') :
    wpList Try.prog ops Q (o :: rest) a w := by
  obtain ⟨i0, hi0, hz0, hz1, hz2⟩ := info_parts row_info
  have hr : Reads w w.heap.size 1 (some ⟨b, 0, none⟩) 1 [u] := ⟨rfl, fun _ => ⟨_, rfl, World.block_lt_of_cell? w _ hb, fun j u' hj => by
    match j, hj with
    | 0, hj => simp at hj; subst hj; simpa [Addr.add] using hb⟩⟩
  have hone : u.oneCell' = true := by obtain ⟨A1, c1, rfl, -⟩ := hu.form; rfl
  refine wpList_append_any w hgd s x _ ho w0.heap.size 36 i0 _ 1 24 Try.underlying35 hi0 hz0 hz1 hz2 rfl (by omega) v ls.length (ls.map (·.1)) hs hG.own w.heap.size (some ⟨b, 0, none⟩) 1 c [u] hx hr (by simpa using hone) (by simp only [maxLen]; omega) (by omega) hbase ?_
  intro v' w' h1 h2 h3
  exact h v' w' (hG.app hu h1 h2) h2 (fun k hk => own_typed hG.own hk)
end Go.Proofs.Ytliockcbnmbhnaa
