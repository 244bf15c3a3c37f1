/-
  Spaces: who owns which block. No condition.
-/
import Derived.Test.YtliockcbnmbhnaaUh
namespace Go.Proofs.Ytliockcbnmbhnaa
open Go.RowKit Go.BigFrame
set_option linter.unusedSimpArgs false
set_option linter.unusedVariables false
def flagsOf (ow : List Int) : List Bool := ow.map fun v => decide (v = 0)
theorem flagsOf_at {ow : List Int} {i : Nat} {v : Int} (h : ow[i]? = some v) : (flagsOf ow)[i]? = some (decide (v = 0)) := by simp [flagsOf, h]
theorem flagsOf_len (ow : List Int) : (flagsOf ow).length = ow.length := by simp [flagsOf]
theorem flagsOf_true {ow : List Int} {i : Nat} : (flagsOf ow)[i]? = some true ↔ ow[i]? = some 0 := by
  cases h : ow[i]? with
  | none => simp [flagsOf, h]
  | some v => rw [flagsOf_at h]; simp
/-- extents that were free apart are given back where all their blocks are taken -/
theorem okA_back : ∀ {es : List (Nat × Nat)} {fl0 fl : List Bool}, OkA fl0 es false → fl.length = fl0.length → (∀ i, Cov es i → fl[i]? = some false) → OkA fl es true
  | [], _, _, _, _, _ => trivial
  | e :: es, fl0, fl, h, hl, hc => by
    obtain ⟨ha, ho⟩ := h
    have ha' : AllR fl e.1 e.2 (!true) := ⟨by have := ha.1; omega, fun j h1 h2 => hc j (Cov.cons.2 (.inl ⟨h1, h2⟩))⟩
    refine ⟨ha', okA_back ho (by rw [setR_len ha'.1, setR_len ha.1, hl]) fun i hi => ?_⟩
    have h1 := (ho.at_ i).1 hi
    rw [setR_at ha.1] at h1
    have hni : ¬ (e.1 ≤ i ∧ i < e.1 + e.2) := fun hh => by rw [if_pos hh] at h1; simp at h1
    rw [setR_at ha'.1, if_neg hni]
    exact hc i (Cov.cons.2 (.inr hi))
/-- the blocks of P are marked v -/
def Marked (ow ow' : List Int) (P : Nat → Prop) (v : Int) : Prop := ow'.length = ow.length ∧ ∀ i, i < ow.length → (P i → ow'[i]? = some v) ∧ (¬ P i → ow'[i]? = ow[i]?)
theorem Marked.none (ow : List Int) (v : Int) {P : Nat → Prop} (h : ∀ i, ¬ P i) : Marked ow ow P v := ⟨rfl, fun i hi => ⟨fun hp => absurd hp (h i), fun _ => rfl⟩⟩
theorem Marked.cong {ow ow' : List Int} {P Q : Nat → Prop} {v : Int} (h : Marked ow ow' P v) (hq : ∀ i, P i ↔ Q i) : Marked ow ow' Q v := ⟨h.1, fun i hi => ⟨fun hp => (h.2 i hi).1 ((hq i).2 hp), fun hp => (h.2 i hi).2 (fun hh => hp ((hq i).1 hh))⟩⟩
theorem Marked.step {ow ow' : List Int} {P : Nat → Prop} {v : Int} (h : Marked ow ow' P v) {j : Nat} (hj : j < ow.length) : Marked ow (ow'.set j v) (fun i => P i ∨ i = j) v := by
  refine ⟨by rw [List.length_set]; exact h.1, fun i hi => ⟨fun hp => ?_, fun hp => ?_⟩⟩
  · rw [List.getElem?_set]
    by_cases hij : j = i
    · rw [if_pos hij, if_pos (by rw [h.1]; exact hj)]
    · rw [if_neg hij]
      exact (h.2 i hi).1 (hp.resolve_right (fun e => hij e.symm))
  · rw [List.getElem?_set, if_neg (fun e => hp (.inr e.symm))]
    exact (h.2 i hi).2 (fun hh => hp (.inl hh))
theorem Cov.snoc {es : List (Nat × Nat)} {e : Nat × Nat} {i : Nat} : Cov (es ++ [e]) i ↔ Cov es i ∨ (e.1 ≤ i ∧ i < e.1 + e.2) := by
  constructor
  · rintro ⟨x, hx, h⟩
    rcases List.mem_append.1 hx with hx | hx
    · exact .inl ⟨x, hx, h⟩
    · simp at hx; subst hx; exact .inr h
  · rintro (⟨x, hx, h⟩ | h)
    · exact ⟨x, List.mem_append.2 (.inl hx), h⟩
    · exact ⟨e, by simp, h⟩
theorem marked_flags {ow ow' : List Int} {es : List (Nat × Nat)} {v : Int} (hm : Marked ow ow' (Cov es) v) (hv : v ≠ 0) (ho : OkA (flagsOf ow) es false) : setA (flagsOf ow) es false = flagsOf ow' := by
  apply List.ext_getElem?
  intro i
  by_cases hi : i < ow.length
  · by_cases hc : Cov es i
    · rw [((ho.at_ i).1 hc).1, flagsOf_at ((hm.2 i hi).1 hc), decide_eq_false hv]
    · rw [(ho.at_ i).2 hc]
      have := (hm.2 i hi).2 hc
      simp [flagsOf, this]
  · rw [List.getElem?_eq_none (by rw [ho.len, flagsOf_len]; omega), List.getElem?_eq_none (by rw [flagsOf_len, hm.1]; omega)]
/-- what is known of the owners: each list's blocks are its own -/
structure Hist (ow : List Int) (ls : List (List (Nat × Nat))) : Prop where
  le : ∀ (i : Nat) (v : Int), ow[i]? = some v → 0 ≤ v ∧ v ≤ (ls.length : Int)
  mine : ∀ (j : Nat) (es : List (Nat × Nat)), ls[j]? = some es → ∀ i : Nat, (ow[i]? = some (((j + 1 : Nat) : Int)) ↔ Cov es i)
  good : ∀ (j : Nat) (es : List (Nat × Nat)), ls[j]? = some es → (∃ fl0 : List Bool, fl0.length = ow.length ∧ OkA fl0 es false) ∧ ∀ e ∈ es, 1 ≤ e.2
theorem Hist.app {ow ow' : List Int} {ls : List (List (Nat × Nat))} {es : List (Nat × Nat)} (h : Hist ow ls) (ho : OkA (flagsOf ow) es false) (hp : ∀ e ∈ es, 1 ≤ e.2) (hm : Marked ow ow' (Cov es) ((ls.length + 1 : Nat) : Int)) : Hist ow' (ls ++ [es]) := by
  have hcl : ∀ i, Cov es i → i < ow.length := fun i hc => by
    have := ((ho.at_ i).1 hc).2
    have := (List.getElem?_eq_some_iff.1 this).1
    rwa [flagsOf_len] at this
  have hfree : ∀ i, Cov es i → ow[i]? = some 0 := fun i hc => flagsOf_true.1 ((ho.at_ i).1 hc).2
  refine ⟨fun i v hv => ?_, fun j fs hj i => ?_, fun j fs hj => ?_⟩
  · have hi : i < ow.length := by have := (List.getElem?_eq_some_iff.1 hv).1; rw [hm.1] at this; exact this
    simp only [List.length_append, List.length_singleton]
    by_cases hc : Cov es i
    · rw [(hm.2 i hi).1 hc] at hv
      injection hv with hv
      omega
    · rw [(hm.2 i hi).2 hc] at hv
      have := h.le i v hv
      omega
  · have hjl := (List.getElem?_eq_some_iff.1 hj).1
    simp at hjl
    by_cases hjn : j = ls.length
    · subst hjn
      rw [List.getElem?_append_right (Nat.le_refl _)] at hj
      simp at hj
      subst hj
      constructor
      · intro hv
        have hi : i < ow.length := by have := (List.getElem?_eq_some_iff.1 hv).1; rw [hm.1] at this; exact this
        apply Classical.byContradiction
        intro hc
        rw [(hm.2 i hi).2 hc] at hv
        have := (h.le i _ hv).2
        omega
      · intro hc
        exact (hm.2 i (hcl i hc)).1 hc
    · rw [List.getElem?_append_left (by omega)] at hj
      rw [← h.mine j fs hj i]
      by_cases hi : i < ow.length
      · by_cases hc : Cov es i
        · rw [(hm.2 i hi).1 hc, hfree i hc]
          simp
          omega
        · rw [(hm.2 i hi).2 hc]
      · rw [List.getElem?_eq_none (by rw [hm.1]; omega), List.getElem?_eq_none (by omega)]
  · rw [hm.1]
    have hjl := (List.getElem?_eq_some_iff.1 hj).1
    simp at hjl
    by_cases hjn : j = ls.length
    · subst hjn
      rw [List.getElem?_append_right (Nat.le_refl _)] at hj
      simp at hj
      subst hj
      exact ⟨⟨_, flagsOf_len ow, ho⟩, hp⟩
    · rw [List.getElem?_append_left (by omega)] at hj
      exact h.good j fs hj
/-- an owner's blocks are nobody's then -/
def freed (q : Int) (v : Int) : Int := if v = q then 0 else v
theorem freed_at {ow : List Int} {q : Int} (i : Nat) : (ow.map (freed q))[i]? = (ow[i]?).map (freed q) := by simp
theorem Hist.give {ow : List Int} {ls : List (List (Nat × Nat))} {kk : Nat} {es : List (Nat × Nat)} (h : Hist ow ls) (hk : ls[kk]? = some es) :
    OkA (flagsOf ow) es true ∧ setA (flagsOf ow) es true = flagsOf (ow.map (freed ((kk + 1 : Nat) : Int))) ∧ Hist (ow.map (freed ((kk + 1 : Nat) : Int))) (ls.set kk []) := by
  obtain ⟨⟨fl0, hl0, ho0⟩, hp⟩ := h.good kk es hk
  have hmine := h.mine kk es hk
  have hok : OkA (flagsOf ow) es true := okA_back ho0 (by rw [flagsOf_len, hl0]) fun i hc => by
    rw [flagsOf_at ((hmine i).2 hc), decide_eq_false (by omega)]
  have hkl := (List.getElem?_eq_some_iff.1 hk).1
  refine ⟨hok, ?_, ?_⟩
  · apply List.ext_getElem?
    intro i
    by_cases hc : Cov es i
    · rw [((hok.at_ i).1 hc).1]
      rw [flagsOf_at (v := 0) (by rw [freed_at, (hmine i).2 hc]; simp [freed])]
      simp
    · rw [(hok.at_ i).2 hc]
      have hne : ow[i]? ≠ some (((kk + 1 : Nat) : Int)) := fun e => hc ((hmine i).1 e)
      cases hi : ow[i]? with
      | none => simp [flagsOf, hi]
      | some v =>
        rw [hi] at hne
        have : v ≠ ((kk + 1 : Nat) : Int) := fun e => hne (by rw [e])
        rw [flagsOf_at hi, flagsOf_at (v := v) (by rw [freed_at, hi, Option.map_some, freed, if_neg this])]
  · refine ⟨fun i v hv => ?_, fun j fs hj i => ?_, fun j fs hj => ?_⟩
    · rw [freed_at] at hv
      cases hi : ow[i]? with
      | none => rw [hi] at hv; cases hv
      | some u =>
        rw [hi, Option.map_some] at hv
        injection hv with hv
        have := h.le i u hi
        rw [List.length_set]
        subst hv
        unfold freed
        split <;> omega
    · rw [freed_at]
      by_cases hjk : j = kk
      · subst hjk
        rw [List.getElem?_set_self hkl] at hj
        injection hj with hj
        subst hj
        have hnc : ¬ Cov ([] : List (Nat × Nat)) i := fun ⟨e, he, _⟩ => by cases he
        refine ⟨fun hv => ?_, fun hc => absurd hc hnc⟩
        cases hi : ow[i]? with
        | none => rw [hi] at hv; cases hv
        | some u =>
          rw [hi, Option.map_some] at hv
          injection hv with hv
          unfold freed at hv
          split at hv
          · omega
          · rename_i hne; exact absurd hv hne
      · rw [List.getElem?_set_ne (fun e => hjk e.symm)] at hj
        rw [← h.mine j fs hj i]
        cases hi : ow[i]? with
        | none => simp
        | some u =>
          rw [Option.map_some]
          unfold freed
          split <;> rename_i hu
          · subst hu
            simp
            omega
          · simp
    · rw [List.length_map]
      by_cases hjk : j = kk
      · subst hjk
        rw [List.getElem?_set_self hkl] at hj
        injection hj with hj
        subst hj
        exact ⟨⟨flagsOf ow, flagsOf_len ow, trivial⟩, by simp⟩
      · rw [List.getElem?_set_ne (fun e => hjk e.symm)] at hj
        exact h.good j fs hj
theorem cnt_freed (ow : List Int) (q : Int) (hq : q ≠ 0) : cnt (flagsOf (ow.map (freed q))) = cnt (flagsOf ow) + ow.countP (fun v => decide (v = q)) := by
  induction ow with
  | nil => rfl
  | cons v ow ih =>
    simp only [cnt, flagsOf, List.map_cons, List.countP_cons, id] at ih ⊢
    unfold freed at ih ⊢
    by_cases hv : v = q
    · subst hv
      simp [hq] at ih ⊢
      omega
    · simp [hv] at ih ⊢
      omega
theorem Chosen.pos {L out : List (Nat × Nat)} {n : Nat} (h : Chosen L n out) (hL : ∀ e ∈ L, 1 ≤ e.2) : ∀ e ∈ out, 1 ≤ e.2 := by
  induction h with
  | none => simp
  | fit hn _ => simp; omega
  | long ht _ _ ih =>
    intro e he
    rcases List.mem_cons.1 he with rfl | he
    · exact hL _ ht.1
    · exact ih (fun e he => hL e (List.mem_of_mem_erase he)) e he
/-- blocks that hold a space or flags are as they were -/
def KeepB (W W' : World) : Prop := ∀ (k : Nat) (cs : Array Value) (t : TypeId), Blk W k t cs → (t = 62 ∨ t = 4) → W'.heap[k]? = W.heap[k]?
theorem Sps.keepB {w W W' : World} {g r c : Nat} {A : Option Addr} {fl : List Bool} (h : Sps w W g r c A fl) (hk : KeepB W W') (hb : Below w.heap.size w W') : Sps w W' g r c A fl := by
  refine ⟨⟨h.at_.blk.of (hk _ _ _ h.at_.blk (.inl rfl)), h.at_.cap, h.at_.lim, ?_⟩, h.ne, hb, h.gl, h.rl⟩
  rcases h.at_.row with e | ⟨e, cs, hb', hc⟩
  · exact .inl e
  · exact .inr ⟨e, cs, hb'.of (hk _ _ _ hb' (.inr rfl)), hc⟩
theorem KeepB.grown {W W' : World} {row : Option Nat} {t : TypeId} (hg : W.grownBy W' row) (hr : ∀ k, row = some k → ∃ cs, Blk W k t cs) (h1 : t ≠ 62) (h2 : t ≠ 4) : KeepB W W' := fun k cs t' hb ht =>
  hg.block k hb.lt (fun e => by
    obtain ⟨cs', hb'⟩ := hr k e.symm
    rcases ht with rfl | rfl
    · exact hb.ne_ hb' (fun e => h1 e.symm) rfl
    · exact hb.ne_ hb' (fun e => h2 e.symm) rfl)
theorem KeepB.set {W : World} {b j : Nat} {t : TypeId} {cs : Array Value} (hb : Blk W b t cs) (v : Value) (h1 : t ≠ 62) (h2 : t ≠ 4) : KeepB W (W.setCell ⟨b, j, none⟩ v) := fun k cs' t' hb' ht =>
  Below.heap_setCell _ _ _ _ (fun e => by
    have e' : k = b := e
    subst e'
    rcases ht with rfl | rfl
    · exact hb'.ne_ hb (fun e => h1 e.symm) rfl
    · exact hb'.ne_ hb (fun e => h2 e.symm) rfl)
theorem KeepB.trans {a b c : World} (h : KeepB a b) (k : KeepB b c) : KeepB a c := fun i cs t hb ht => (k i cs t (hb.of (h i cs t hb ht)) ht).trans (h i cs t hb ht)
theorem KeepB.of_only {W W' : World} {o : Nat} {t : TypeId} {cs : Array Value} (hb : Blk W o t cs) (ho : Only [o] W W') (h1 : t ≠ 62) (h2 : t ≠ 4) : KeepB W W' := fun k cs' t' hb' ht =>
  ho.block k hb'.lt (fun hm => by
    simp at hm
    subst hm
    rcases ht with rfl | rfl
    · exact hb'.ne_ hb (fun e => h1 e.symm) rfl
    · exact hb'.ne_ hb (fun e => h2 e.symm) rfl)
theorem Grid.of_only {w W W' : World} {lv : Value} {ls : List (Value × List (Nat × Nat))} (h : Grid w W lv ls) {o : Nat} {cs : Array Value} (hb : Blk W o 3 cs) (ho : Only [o] W W') : Grid w W' lv ls := by
  have key : ∀ {e : TypeId} {base size n : Nat} {v : Value} {xs : List Value}, W.ownsRow base e size v n xs → e ≠ 3 → W'.ownsRow base e size v n xs := fun h1 hne => row_of h1 fun k hm => by
    obtain ⟨cs', hb'⟩ := own_typed h1 (mem_rowOf.1 hm)
    exact ho.block k hb'.lt (fun hm => by simp at hm; subst hm; exact hb'.ne_ hb hne rfl)
  exact ⟨key h.own (by decide), fun p hp => key (h.els p hp) (by decide)⟩
end Go.Proofs.Ytliockcbnmbhnaa
