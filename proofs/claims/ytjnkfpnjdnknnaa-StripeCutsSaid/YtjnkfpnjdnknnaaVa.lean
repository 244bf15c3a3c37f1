/-
  Pieces of ranges, as data: byte by byte, and each at once; how many bytes a data object has; what is cut off. No condition; nothing of the program is named.
-/
import Derived.Test.YtjnkfpnjdnknnaaMem
namespace Go.Proofs.Ytjnkfpnjdnknnaa
open Go.RowKit
set_option linter.unusedSimpArgs false
set_option linter.unusedVariables false
/-- a piece: which data object, where in it, how many bytes, with which byte of the range it begins -/
structure Pc where
  ix : Nat
  a : Nat
  ln : Nat
  fr : Nat
deriving DecidableEq
def Pc.new (obj s i : Nat) : Pc := ⟨(s + i) / obj, (s + i) % obj, 1, i⟩
def addB (obj s i : Nat) (l : List Pc) : List Pc :=
  match l.getLast? with
  | none => l ++ [Pc.new obj s i]
  | some q => if q.ix = (s + i) / obj then l.dropLast ++ [{ q with ln := q.ln + 1 }] else l ++ [Pc.new obj s i]
/-- the pieces of so many bytes from s on, byte by byte -/
def pcsL (obj s : Nat) : Nat → List Pc
  | 0 => []
  | i + 1 => addB obj s i (pcsL obj s i)
theorem addB_more {obj s i : Nat} {l : List Pc} {q : Pc} (h : q.ix = (s + i) / obj) : addB obj s i (l ++ [q]) = l ++ [{ q with ln := q.ln + 1 }] := by
  unfold addB
  rw [List.getLast?_concat]
  simp only [if_pos h, List.dropLast_concat]
theorem addB_other {obj s i : Nat} {l : List Pc} {q : Pc} (h : q.ix ≠ (s + i) / obj) : addB obj s i (l ++ [q]) = (l ++ [q]) ++ [Pc.new obj s i] := by
  unfold addB
  rw [List.getLast?_concat]
  simp only [if_neg h]
theorem addB_nil {obj s i : Nat} : addB obj s i [] = [Pc.new obj s i] := rfl
theorem pcsL_last {obj s : Nat} : ∀ i, ∃ l q, pcsL obj s (i + 1) = l ++ [q] ∧ q.ix = (s + i) / obj
  | 0 => ⟨[], _, rfl, rfl⟩
  | i + 1 => by
    obtain ⟨l, q, e, hq⟩ := pcsL_last (obj := obj) (s := s) i
    have e2 : pcsL obj s (i + 1 + 1) = addB obj s (i + 1) (l ++ [q]) := congrArg (addB obj s (i + 1)) e
    by_cases h : q.ix = (s + (i + 1)) / obj
    · exact ⟨l, _, e2.trans (addB_more h), h⟩
    · exact ⟨l ++ [q], _, e2.trans (addB_other h), rfl⟩
theorem div_step {obj m : Nat} (h0 : 0 < obj) (h : (m + 1) % obj = 0) : m / obj < (m + 1) / obj := by
  have h1 := Nat.div_add_mod (m + 1) obj
  rw [h, Nat.add_zero] at h1
  rw [Nat.div_lt_iff_lt_mul h0, Nat.mul_comm, h1]
  omega
theorem div_same {obj m k : Nat} (h : m % obj + k < obj) : (m + k) / obj = m / obj := by
  have h0 : 0 < obj := by omega
  have h1 := Nat.div_add_mod m obj
  have e : m + k = obj * (m / obj) + (m % obj + k) := by omega
  rw [e, Nat.mul_add_div h0, Nat.div_eq_of_lt h, Nat.add_zero]
theorem mod_same {obj m k : Nat} (h : m % obj + k < obj) : (m + k) % obj = m % obj + k := by
  have h1 := Nat.div_add_mod m obj
  have e : m + k = obj * (m / obj) + (m % obj + k) := by omega
  rw [e, Nat.mul_add_mod, Nat.mod_eq_of_lt h]
theorem mod_next {obj m : Nat} (h0 : 0 < obj) : (m + (obj - m % obj)) % obj = 0 := by
  have h1 := Nat.div_add_mod m obj
  have h2 := Nat.mod_lt m h0
  have e : m + (obj - m % obj) = obj * (m / obj + 1) := by rw [Nat.mul_add]; omega
  rw [e, Nat.mul_mod_right]
theorem pcsL_grow {obj s f : Nat} (h0 : 0 < obj) (hf : f = 0 ∨ (s + f) % obj = 0) : ∀ k, k + 1 ≤ obj - (s + f) % obj → pcsL obj s (f + (k + 1)) = pcsL obj s f ++ [⟨(s + f) / obj, (s + f) % obj, k + 1, f⟩]
  | 0, hk => by
    show addB obj s f (pcsL obj s f) = _
    match f, hf with
    | 0, _ => rfl
    | j + 1, hf =>
      have hf' : (s + (j + 1)) % obj = 0 := by omega
      obtain ⟨l, q, e, hq⟩ := pcsL_last (obj := obj) (s := s) j
      rw [e, addB_other (by rw [hq]; have := div_step (m := s + j) h0 hf'; rw [← Nat.add_assoc]; omega)]
      rfl
  | k + 1, hk => by
    have ih := pcsL_grow h0 hf k (by omega)
    show addB obj s (f + (k + 1)) (pcsL obj s (f + (k + 1))) = _
    rw [ih, addB_more]
    show (s + f) / obj = (s + (f + (k + 1))) / obj
    rw [← Nat.add_assoc]
    exact (div_same (m := s + f) (k := k + 1) (by omega)).symm
/-- pieces one behind the other, from byte f of the range to byte e -/
def Ch (obj s : Nat) : Nat → List Pc → Nat → Prop
  | f, [], e => f = e
  | f, p :: r, e => p.ix = (s + f) / obj ∧ p.a = (s + f) % obj ∧ p.fr = f ∧ 1 ≤ p.ln ∧ p.a + p.ln ≤ obj ∧ Ch obj s (f + p.ln) r e
theorem Ch.snoc {obj s : Nat} : ∀ {l : List Pc} {f e : Nat} {p : Pc}, Ch obj s f l e → p.ix = (s + e) / obj → p.a = (s + e) % obj → p.fr = e → 1 ≤ p.ln → p.a + p.ln ≤ obj → Ch obj s f (l ++ [p]) (e + p.ln)
  | [], f, e, p, h, h1, h2, h3, h4, h5 => by
    obtain rfl : f = e := h
    exact ⟨h1, h2, h3, h4, h5, rfl⟩
  | q :: r, f, e, p, h, h1, h2, h3, h4, h5 => ⟨h.1, h.2.1, h.2.2.1, h.2.2.2.1, h.2.2.2.2.1, h.2.2.2.2.2.snoc h1 h2 h3 h4 h5⟩
theorem Ch.le {obj s : Nat} : ∀ {l : List Pc} {f e : Nat}, Ch obj s f l e → f ≤ e
  | [], f, e, h => by have : f = e := h; omega
  | q :: r, f, e, h => by have := h.2.2.2.2.2.le; omega
theorem Ch.len {obj s : Nat} : ∀ {l : List Pc} {f e : Nat}, Ch obj s f l e → f + l.length ≤ e
  | [], f, e, h => by have : f = e := h; simp; omega
  | q :: r, f, e, h => by have := h.2.2.2.2.2.len; have := h.2.2.2.1; simp; omega
/-- how many of so many bytes stand in data object ix -/
def cntW (obj ix : Nat) (n : Nat) : Nat := min obj (n - ix * obj)
theorem cnt_step {obj ix n : Nat} (h0 : 0 < obj) : cntW obj ix (n + 1) = cntW obj ix n + if n / obj = ix then 1 else 0 := by
  have h1 := Nat.div_add_mod n obj
  have h2 := Nat.mod_lt n h0
  have h3 : n / obj = ix ↔ ix * obj ≤ n ∧ n < ix * obj + obj := by
    rw [Nat.div_eq_iff h0]
    have : 1 ≤ obj := h0
    constructor <;> rintro ⟨a, b⟩ <;> constructor <;> first | omega | (have := Nat.mul_comm ix obj; omega)
  unfold cntW
  split
  · rename_i h
    have := h3.1 h
    generalize ix * obj = m at *
    omega
  · rename_i h
    have : ¬(ix * obj ≤ n ∧ n < ix * obj + obj) := fun x => h (h3.2 x)
    generalize ix * obj = m at *
    omega
/-- how many data objects -/
def ceilO (obj n : Nat) : Nat := if n = 0 then 0 else (n - 1) / obj + 1
theorem ceil_lt {obj n ix : Nat} (h0 : 0 < obj) : ix < ceilO obj n ↔ ix * obj < n := by
  unfold ceilO
  split
  · rename_i h; subst h; simp
  · rename_i h
    rw [Nat.lt_succ_iff, Nat.le_div_iff_mul_le h0]
    omega
theorem cnt_pos {obj n ix : Nat} (h0 : 0 < obj) : 0 < cntW obj ix n ↔ ix < ceilO obj n := by
  rw [ceil_lt h0]
  unfold cntW
  omega
/-- what is cut off of the data object that is cut in two -/
def edgeP (obj t i : Nat) : Pc := if t % obj = 0 ∨ i = 0 then ⟨0, 0, 0, 0⟩ else ⟨t / obj, t % obj, min (obj - t % obj) i, 0⟩
/-- the data objects that are gone -/
def goneL (obj t i : Nat) : List Nat := (List.range (ceilO obj i - ceilO obj t)).map (ceilO obj t + ·)
theorem ceil_mono {obj a b : Nat} (h0 : 0 < obj) (h : a ≤ b) : ceilO obj a ≤ ceilO obj b := by
  unfold ceilO
  split
  · omega
  · split
    · omega
    · have := Nat.div_le_div_right (c := obj) (show a - 1 ≤ b - 1 by omega); omega
theorem ceil_div {obj n : Nat} (h0 : 0 < obj) : ceilO obj n = if n % obj = 0 then n / obj else n / obj + 1 := by
  have h1 := Nat.div_add_mod n obj
  have h2 := Nat.mod_lt n h0
  unfold ceilO
  split
  · rename_i h; subst h; simp
  · rename_i h
    split
    · rename_i hm
      have : (n - 1) / obj < (n - 1 + 1) / obj := div_step h0 (by rw [show n - 1 + 1 = n by omega]; exact hm)
      have h4 : (n - 1 + 1) / obj ≤ (n - 1) / obj + 1 := by
        rw [← Nat.add_div_right (n - 1) h0]
        exact Nat.div_le_div_right (by omega)
      rw [show n - 1 + 1 = n by omega] at this h4
      omega
    · rename_i hm
      have h3 : (n - 1 + 1) / obj = (n - 1) / obj := by
        refine div_same ?_
        have h4 := Nat.div_add_mod (n - 1) obj
        have h5 := Nat.mod_lt (n - 1) h0
        rcases Nat.lt_or_ge ((n - 1) % obj + 1) obj with h | h
        · exact h
        · exfalso
          apply hm
          have : n = obj * ((n - 1) / obj + 1) := by rw [Nat.mul_add]; omega
          rw [this, Nat.mul_mod_right]
      rw [show n - 1 + 1 = n by omega] at h3
      omega
theorem mul_div_le' (n obj : Nat) : n / obj * obj ≤ n := Nat.div_mul_le_self n obj
theorem mod_eq' (n obj : Nat) : n = n / obj * obj + n % obj := by rw [Nat.mul_comm]; exact (Nat.div_add_mod n obj).symm
theorem mul_lt_step {a b o : Nat} (h : a < b) : a * o + o ≤ b * o := by
  have := Nat.mul_le_mul_right o (show a + 1 ≤ b from h)
  rw [Nat.add_mul, Nat.one_mul] at this
  exact this
theorem edge_in {obj t i : Nat} (h0 : 0 < obj) (ht : t ≤ i) (h : i / obj * obj < t) : i / obj = t / obj ∧ t % obj ≠ 0 ∧ i - t < obj - t % obj ∧ (i = t → i % obj = t % obj) := by
  have a := mod_eq' i obj
  have b := mod_eq' t obj
  have c := Nat.mod_lt i h0
  have d := Nat.mod_lt t h0
  have e : i / obj = t / obj := by
    have e1 := Nat.div_le_div_right (c := obj) ht
    rcases Nat.lt_or_ge (t / obj) (i / obj) with x | x
    · have := mul_lt_step (o := obj) x; omega
    · omega
  refine ⟨e, ?_, ?_, fun h => by rw [h]⟩
  · intro hz; rw [e] at h a; omega
  · rw [e] at h a; omega
theorem edge_step {obj t i : Nat} (h0 : 0 < obj) (ht : t ≤ i) (h : i / obj * obj < t) : edgeP obj t (i + 1 - t) = ⟨i / obj, t % obj, i - t + 1, 0⟩ := by
  obtain ⟨e1, e2, e3, -⟩ := edge_in h0 ht h
  unfold edgeP
  rw [if_neg (by omega), e1, Nat.min_eq_right (by omega), show i + 1 - t = i - t + 1 by omega]
theorem edge_at {obj t i : Nat} (h0 : 0 < obj) (ht : t ≤ i) (h : i / obj * obj < t) : edgeP obj t (i - t) = if i = t then ⟨0, 0, 0, 0⟩ else ⟨i / obj, t % obj, i - t, 0⟩ := by
  obtain ⟨e1, e2, e3, -⟩ := edge_in h0 ht h
  unfold edgeP
  by_cases x : i = t
  · rw [if_pos (by omega), if_pos x]
  · rw [if_neg (by omega), if_neg x, e1, Nat.min_eq_right (by omega)]
theorem edge_stay {obj t i : Nat} (h0 : 0 < obj) (ht : t ≤ i) (h : t ≤ i / obj * obj) : edgeP obj t (i + 1 - t) = edgeP obj t (i - t) := by
  have a := mod_eq' i obj
  have b := mod_eq' t obj
  have d := Nat.mod_lt t h0
  unfold edgeP
  by_cases z : t % obj = 0
  · rw [if_pos (.inl z), if_pos (.inl z)]
  · have e : t / obj < i / obj := by
      rcases Nat.lt_or_ge (t / obj) (i / obj) with x | x
      · exact x
      · have := Nat.mul_le_mul_right obj x; omega
    have := mul_lt_step (o := obj) e
    rw [if_neg (by omega), if_neg (by omega), Nat.min_eq_left (by omega), Nat.min_eq_left (by omega)]
theorem gone_in {obj t i : Nat} (h0 : 0 < obj) (ht : t ≤ i) (h : i / obj * obj < t) : goneL obj t i = goneL obj t (i + 1) := by
  obtain ⟨e1, e2, e3, -⟩ := edge_in h0 ht h
  have c1 : ceilO obj (i + 1) = i / obj + 1 := by unfold ceilO; rw [if_neg (by omega)]; rfl
  have c2 : ceilO obj t = t / obj + 1 := by rw [ceil_div h0, if_neg e2]
  have c3 := ceil_mono h0 (show i ≤ i + 1 by omega)
  unfold goneL
  rw [c1, c2, e1] at *
  rw [show ceilO obj i - (t / obj + 1) = 0 by omega, show t / obj + 1 - (t / obj + 1) = 0 by omega]
theorem gone_last {obj t i : Nat} (h0 : 0 < obj) (h : t ≤ i / obj * obj) (hm : i % obj ≠ 0) : ∃ l, goneL obj t i = l ++ [i / obj] ∧ goneL obj t (i + 1) = goneL obj t i := by
  have c1 : ceilO obj (i + 1) = i / obj + 1 := by unfold ceilO; rw [if_neg (by omega)]; rfl
  have c2 : ceilO obj i = i / obj + 1 := by rw [ceil_div h0, if_neg hm]
  have c3 : ceilO obj t ≤ i / obj := by
    rcases Nat.lt_or_ge (i / obj) (ceilO obj t) with x | x
    · rw [ceil_lt h0] at x; omega
    · exact x
  refine ⟨(List.range (i / obj - ceilO obj t)).map (ceilO obj t + ·), ?_, by unfold goneL; rw [c1, c2]⟩
  unfold goneL
  rw [c2, show i / obj + 1 - ceilO obj t = (i / obj - ceilO obj t) + 1 by omega, List.range_succ, List.map_append]
  simp only [List.map_cons, List.map_nil]
  rw [show ceilO obj t + (i / obj - ceilO obj t) = i / obj by omega]
theorem gone_next {obj t i : Nat} (h0 : 0 < obj) (h : t ≤ i / obj * obj) (hm : i % obj = 0) : goneL obj t (i + 1) = goneL obj t i ++ [i / obj] ∧ ∀ x ∈ goneL obj t i, x ≠ i / obj := by
  have c1 : ceilO obj (i + 1) = i / obj + 1 := by unfold ceilO; rw [if_neg (by omega)]; rfl
  have c2 : ceilO obj i = i / obj := by rw [ceil_div h0, if_pos hm]
  have c3 : ceilO obj t ≤ i / obj := by
    rcases Nat.lt_or_ge (i / obj) (ceilO obj t) with x | x
    · rw [ceil_lt h0] at x; omega
    · exact x
  refine ⟨?_, ?_⟩
  · unfold goneL
    rw [c1, c2, show i / obj + 1 - ceilO obj t = (i / obj - ceilO obj t) + 1 by omega, List.range_succ, List.map_append]
    simp only [List.map_cons, List.map_nil]
    rw [show ceilO obj t + (i / obj - ceilO obj t) = i / obj by omega]
  · intro x hx
    unfold goneL at hx
    rw [c2] at hx
    obtain ⟨y, hy, rfl⟩ := List.mem_map.1 hx
    have := List.mem_range.1 hy
    omega
end Go.Proofs.Ytjnkfpnjdnknnaa
