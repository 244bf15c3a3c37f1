/-
  Spaces, the plain part: what is chosen of holes for so many blocks; a row with many extents turned. No condition; nothing of the program is named.
-/
import Derived.Test.YtliockcbnmbhnaaSp
namespace Go.Proofs.Ytliockcbnmbhnaa
set_option linter.unusedSimpArgs false
set_option linter.unusedVariables false
/-! ### the choice -/
/-- e comes ahead of q where the longest one is asked for -/
def Longer (e q : Nat × Nat) : Prop := q.2 < e.2 ∨ (e.2 = q.2 ∧ e.1 < q.1)
/-- e comes ahead of q where the shortest one is asked for -/
def Shorter (e q : Nat × Nat) : Prop := e.2 < q.2 ∨ (e.2 = q.2 ∧ e.1 < q.1)
def Top (L : List (Nat × Nat)) (e : Nat × Nat) : Prop := e ∈ L ∧ ∀ q, q ∈ L → q = e ∨ Longer e q
def Fit (L : List (Nat × Nat)) (n : Nat) (e : Nat × Nat) : Prop := e ∈ L ∧ n ≤ e.2 ∧ ∀ q, q ∈ L → n ≤ q.2 → q = e ∨ Shorter e q
/-- for n blocks these extents are chosen of these holes -/
inductive Chosen : List (Nat × Nat) → Nat → List (Nat × Nat) → Prop
  | none (L : List (Nat × Nat)) : Chosen L 0 []
  | fit {L : List (Nat × Nat)} {n : Nat} {e : Nat × Nat} : 0 < n → Fit L n e → Chosen L n [(e.1, n)]
  | long {L : List (Nat × Nat)} {n : Nat} {e : Nat × Nat} {r : List (Nat × Nat)} : Top L e → e.2 < n → Chosen (L.erase e) (n - e.2) r → Chosen L n (e :: r)
theorem Top.one {L : List (Nat × Nat)} {e e' : Nat × Nat} (h : Top L e) (h' : Top L e') : e = e' := by
  rcases h.2 _ h'.1 with h1 | h1
  · exact h1.symm
  · rcases h'.2 _ h.1 with h2 | h2
    · exact h2
    · simp only [Longer] at h1 h2; omega
theorem Fit.one {L : List (Nat × Nat)} {n : Nat} {e e' : Nat × Nat} (h : Fit L n e) (h' : Fit L n e') : e = e' := by
  rcases h.2.2 _ h'.1 h'.2.1 with h1 | h1
  · exact h1.symm
  · rcases h'.2.2 _ h.1 h.2.1 with h2 | h2
    · exact h2
    · simp only [Shorter] at h1 h2; omega
theorem Top.no_fit {L : List (Nat × Nat)} {n : Nat} {e q : Nat × Nat} (h : Top L e) (hn : e.2 < n) (hq : Fit L n q) : False := by
  rcases h.2 _ hq.1 with h1 | h1
  · subst h1; have := hq.2.1; omega
  · have := hq.2.1; simp only [Longer] at h1; omega
theorem Chosen.zero {L r : List (Nat × Nat)} (h : Chosen L 0 r) : r = [] := by
  cases h with
  | none => rfl
  | fit h _ => omega
  | long _ h _ => omega
theorem Chosen.one {L a b : List (Nat × Nat)} {n : Nat} (h : Chosen L n a) (h' : Chosen L n b) : a = b := by
  induction h generalizing b with
  | none L => exact h'.zero.symm
  | fit h0 hf =>
    cases h' with
    | none => omega
    | fit _ hf' => rw [hf.one hf']
    | long ht hn _ => exact (ht.no_fit hn hf).elim
  | long ht hn _ ih =>
    cases h' with
    | none => omega
    | fit _ hf' => exact (ht.no_fit hn hf').elim
    | long ht' hn' hr =>
      obtain rfl := ht.one ht'
      rw [ih hr]
theorem Top.perm {L L' : List (Nat × Nat)} {e : Nat × Nat} (hp : L.Perm L') (h : Top L e) : Top L' e := ⟨hp.mem_iff.1 h.1, fun q hq => h.2 q (hp.mem_iff.2 hq)⟩
theorem Fit.perm {L L' : List (Nat × Nat)} {n : Nat} {e : Nat × Nat} (hp : L.Perm L') (h : Fit L n e) : Fit L' n e := ⟨hp.mem_iff.1 h.1, h.2.1, fun q hq => h.2.2 q (hp.mem_iff.2 hq)⟩
theorem Chosen.perm {L L' a : List (Nat × Nat)} {n : Nat} (h : Chosen L n a) (hp : L.Perm L') : Chosen L' n a := by
  induction h generalizing L' with
  | none L => exact .none _
  | fit h0 hf => exact .fit h0 (hf.perm hp)
  | long ht hn _ ih => exact .long (ht.perm hp) hn (ih (hp.erase _))
/-! ### turned: many -/
def setA (l : List Bool) (es : List (Nat × Nat)) (b : Bool) : List Bool := es.foldl (fun l e => setR l e.1 e.2 b) l
/-- each of the extents is there at its turn, and is b's other -/
def OkA : List Bool → List (Nat × Nat) → Bool → Prop
  | _, [], _ => True
  | l, e :: es, b => AllR l e.1 e.2 (!b) ∧ OkA (setR l e.1 e.2 b) es b
theorem setA_cons (l : List Bool) (e : Nat × Nat) (es : List (Nat × Nat)) (b : Bool) : setA l (e :: es) b = setA (setR l e.1 e.2 b) es b := rfl
theorem setA_app (l : List Bool) (es fs : List (Nat × Nat)) (b : Bool) : setA l (es ++ fs) b = setA (setA l es b) fs b := by simp [setA]
theorem OkA.app {es fs : List (Nat × Nat)} {b : Bool} : ∀ {l : List Bool}, OkA l (es ++ fs) b ↔ OkA l es b ∧ OkA (setA l es b) fs b := by
  induction es with
  | nil => intro l; simp [OkA, setA]
  | cons e es ih => intro l; simp only [List.cons_append, OkA, setA_cons, ih, and_assoc]
theorem OkA.len {es : List (Nat × Nat)} {b : Bool} : ∀ {l : List Bool}, OkA l es b → (setA l es b).length = l.length := by
  induction es with
  | nil => intro l _; rfl
  | cons e es ih => intro l h; rw [setA_cons, ih h.2, setR_len h.1.1]
def Cov (es : List (Nat × Nat)) (j : Nat) : Prop := ∃ e ∈ es, e.1 ≤ j ∧ j < e.1 + e.2
theorem Cov.cons {e : Nat × Nat} {es : List (Nat × Nat)} {j : Nat} : Cov (e :: es) j ↔ (e.1 ≤ j ∧ j < e.1 + e.2) ∨ Cov es j := by
  simp [Cov]
theorem OkA.at_ {es : List (Nat × Nat)} {b : Bool} : ∀ {l : List Bool}, OkA l es b → ∀ j, (Cov es j → (setA l es b)[j]? = some b ∧ l[j]? = some (!b)) ∧ (¬ Cov es j → (setA l es b)[j]? = l[j]?) := by
  induction es with
  | nil => intro l _ j; exact ⟨fun h => by simp [Cov] at h, fun _ => rfl⟩
  | cons e es ih =>
    intro l h j
    have h2 := ih h.2 j
    rw [setR_at h.1.1] at h2
    rw [setA_cons, Cov.cons]
    by_cases hc : Cov es j
    · have h3 := h2.1 hc
      by_cases he : e.1 ≤ j ∧ j < e.1 + e.2
      · rw [if_pos he] at h3
        cases b <;> simp at h3
      · rw [if_neg he] at h3
        exact ⟨fun _ => h3, fun hn => absurd (.inr hc) hn⟩
    · have h3 := h2.2 hc
      rw [h3]
      by_cases he : e.1 ≤ j ∧ j < e.1 + e.2
      · rw [if_pos he]
        exact ⟨fun _ => ⟨rfl, h.1.2 j he.1 he.2⟩, fun hn => absurd (.inl he) hn⟩
      · rw [if_neg he]
        exact ⟨fun hh => (hh.elim (fun h => absurd h he) (fun h => absurd h hc)), fun _ => rfl⟩
theorem OkA.within {es : List (Nat × Nat)} {b : Bool} : ∀ {l : List Bool}, OkA l es b → ∀ e ∈ es, e.1 + e.2 ≤ l.length := by
  induction es with
  | nil => intro l _ e he; simp at he
  | cons f es ih =>
    intro l h e he
    rcases List.mem_cons.1 he with rfl | he
    · exact h.1.1
    · have := ih h.2 e he
      rw [setR_len h.1.1] at this
      exact this
theorem OkA.cnt {es : List (Nat × Nat)} {b : Bool} : ∀ {l : List Bool}, OkA l es b → (cnt (setA l es b) : Int) = cnt l + (if b then (lens es : Int) else -(lens es : Int)) := by
  induction es with
  | nil => intro l _; simp [setA, lens]
  | cons e es ih =>
    intro l h
    have h1 := cnt_turn h.1
    have h2 := ih h.2
    rw [setA_cons, h2, h1]
    cases b <;> simp [lens] <;> omega
/-- turned back, it is as it was -/
theorem OkA.back {es : List (Nat × Nat)} {b : Bool} {l : List Bool} (h : OkA l es b) : OkA (setA l es b) es (!b) ∧ setA (setA l es b) es (!b) = l := by
  induction es generalizing l with
  | nil => exact ⟨trivial, rfl⟩
  | cons e es ih =>
    have hall := h.at_
    obtain ⟨i1, i2⟩ := ih h.2
    have hlen := h.2.len
    rw [setR_len h.1.1] at hlen
    have hA : AllR (setA l (e :: es) b) e.1 e.2 (!!b) := by
      refine ⟨by rw [h.len]; exact h.1.1, fun j hj hk => ?_⟩
      rw [((hall j).1 (Cov.cons.2 (.inl ⟨hj, hk⟩))).1, Bool.not_not]
    -- turning e back first is as turning it back last
    have hcom : ∀ j, Cov es j → ¬ (e.1 ≤ j ∧ j < e.1 + e.2) := by
      intro j hc he
      have := ((h.2.at_ j).1 hc).2
      rw [setR_at h.1.1, if_pos he] at this
      cases b <;> simp at this
    have key : ∀ (fs : List (Nat × Nat)) (m : List Bool), (∀ f ∈ fs, ∀ j, f.1 ≤ j → j < f.1 + f.2 → ¬ (e.1 ≤ j ∧ j < e.1 + e.2)) → e.1 + e.2 ≤ m.length → OkA m fs (!b) → OkA (setR m e.1 e.2 (!b)) fs (!b) ∧ setA (setR m e.1 e.2 (!b)) fs (!b) = setR (setA m fs (!b)) e.1 e.2 (!b) := by
      intro fs
      induction fs with
      | nil => intro m _ _ _; exact ⟨trivial, rfl⟩
      | cons f fs ihf =>
        intro m hd hm ho
        have hf := hd f (List.mem_cons_self ..)
        have hc : setR (setR m e.1 e.2 (!b)) f.1 f.2 (!b) = setR (setR m f.1 f.2 (!b)) e.1 e.2 (!b) := by
          apply List.ext_getElem?
          intro j
          rw [setR_at (by rw [setR_len hm]; exact ho.1.1), setR_at hm, setR_at (by rw [setR_len ho.1.1]; exact hm), setR_at ho.1.1]
          by_cases h1 : f.1 ≤ j ∧ j < f.1 + f.2 <;> by_cases h2 : e.1 ≤ j ∧ j < e.1 + e.2 <;> simp [h1, h2]
        obtain ⟨k1, k2⟩ := ihf (setR m f.1 f.2 (!b)) (fun g hg => hd g (List.mem_cons_of_mem _ hg)) (by rw [setR_len ho.1.1]; exact hm) ho.2
        refine ⟨⟨⟨by rw [setR_len hm]; exact ho.1.1, fun j hj hk => ?_⟩, by rw [hc]; exact k1⟩, by rw [setA_cons, setA_cons, hc]; exact k2⟩
        rw [setR_at hm, if_neg (hf j hj hk)]
        exact ho.1.2 j hj hk
    obtain ⟨k1, k2⟩ := key es (setA (setR l e.1 e.2 b) es b) (fun f hf j hj hk => hcom j ⟨f, hf, hj, hk⟩) (by rw [hlen]; exact h.1.1) i1
    refine ⟨⟨hA, k1⟩, ?_⟩
    rw [setA_cons l, setA_cons _ e, k2, i2, setR_setR h.1.1, ← h.1.same]
/-! ### what is chosen may be turned -/
def Sound (l : List Bool) (L : List (Nat × Nat)) : Prop := L.Nodup ∧ (∀ e ∈ L, AllR l e.1 e.2 true) ∧ ∀ p ∈ L, ∀ q ∈ L, p ≠ q → p.1 + p.2 ≤ q.1 ∨ q.1 + q.2 ≤ p.1
theorem hol_sound (l : List Bool) : Sound l (hol 0 l) := by
  have hr := hol_rises l 0
  refine ⟨hr.imp (fun {p q} h e => by subst e; omega), fun e he => ?_, fun p hp q hq hne => ?_⟩
  · obtain ⟨x, y⟩ := e
    obtain ⟨_, _, h3, h4⟩ := hol_mem l 0 x y he
    exact ⟨by omega, fun j hj hk => h4 j hj hk⟩
  · have : ∀ (L : List (Nat × Nat)), L.Pairwise (fun p q => p.1 + p.2 < q.1) → p ∈ L → q ∈ L → p.1 + p.2 ≤ q.1 ∨ q.1 + q.2 ≤ p.1 := by
      intro L hL
      induction hL with
      | nil => intro h; simp at h
      | cons h _ ih =>
        intro h1 h2
        rcases List.mem_cons.1 h1 with e1 | h1 <;> rcases List.mem_cons.1 h2 with e2 | h2
        · exact absurd (e1.trans e2.symm) hne
        · have := h _ h2; rw [← e1] at this; omega
        · have := h _ h1; rw [← e2] at this; omega
        · exact ih h1 h2
    exact this _ hr hp hq
theorem Chosen.ok {L out : List (Nat × Nat)} {n : Nat} (h : Chosen L n out) : ∀ {l : List Bool}, Sound l L → OkA l out false ∧ lens out = n := by
  induction h with
  | none L => intro l _; exact ⟨trivial, rfl⟩
  | @fit L n e h0 hf =>
    intro l hs
    have := hs.2.1 _ hf.1
    have hn := hf.2.1
    exact ⟨⟨⟨by have := this.1; simp; omega, fun j hj hk => this.2 j hj (by simp at hk; omega)⟩, trivial⟩, by simp [lens]⟩
  | @long L n e r ht hn _ ih =>
    intro l hs
    have he := hs.2.1 _ ht.1
    have hs' : Sound (setR l e.1 e.2 false) (L.erase e) := by
      refine ⟨hs.1.erase _, fun q hq => ?_, fun p hp q hq => hs.2.2 p (List.mem_of_mem_erase hp) q (List.mem_of_mem_erase hq)⟩
      have hq1 := List.mem_of_mem_erase hq
      have hne : e ≠ q := fun h => by subst h; exact (List.Nodup.not_mem_erase hs.1) hq
      have hd := hs.2.2 _ ht.1 _ hq1 hne
      refine ⟨by rw [setR_len he.1]; exact (hs.2.1 _ hq1).1, fun j hj hk => ?_⟩
      rw [setR_at he.1, if_neg (by omega)]
      exact (hs.2.1 _ hq1).2 j hj hk
    obtain ⟨h1, h2⟩ := ih hs'
    exact ⟨⟨he, h1⟩, by simp [lens] at h2 ⊢; omega⟩
theorem Chosen.few {L out : List (Nat × Nat)} {n : Nat} (h : Chosen L n out) : out.length ≤ L.length ∧ ((∃ e ∈ L, n ≤ e.2) → out.length ≤ 1) ∧ (0 < n → 0 < out.length) := by
  induction h with
  | none L => simp
  | fit h0 hf =>
    have := List.length_pos_of_mem hf.1
    simp; omega
  | @long L n e r ht hn _ ih =>
    have := List.length_erase_of_mem ht.1
    have := List.length_pos_of_mem ht.1
    refine ⟨by simp; omega, fun ⟨q, hq, hle⟩ => ?_, fun _ => by simp⟩
    rcases ht.2 q hq with rfl | h1
    · omega
    · simp only [Longer] at h1; omega
end Go.Proofs.Ytliockcbnmbhnaa
