/-
  What is written is read back, and no beginning of it is all of it: the theory. Conditions: the numbers are of 64 bits.
-/
import Derived.Test.YtgdkpmgfholnkaaLarge
import Derived.Test.YtgdkpmgfholnkaaOpenW
namespace Go.Proofs.Ytgdkpmgfholnkaa
open Go.RowKit
set_option linter.unusedSimpArgs false
set_option linter.unusedVariables false
theorem take_num (n : Int) (rest : List Nat) (h1 : -9223372036854775808 ≤ n) (h2 : n ≤ 9223372036854775807) : (⟨numB n ++ rest, false⟩ : RD).take 8 = ⟨rest, false⟩ ∧ (⟨numB n ++ rest, false⟩ : RD).num = n := by
  obtain ⟨e1, e2⟩ := RD.take_fit (s := ⟨numB n ++ rest, false⟩) (k := 8) rfl (by simp [numB_len])
  refine ⟨e1.trans (by rw [List.drop_left' (numB_len n)]), ?_⟩
  have : (⟨numB n ++ rest, false⟩ : RD).num = numOf ((⟨numB n ++ rest, false⟩ : RD).got 8) := rfl
  rw [this]
  exact (congrArg numOf (e2.trans (List.take_left' (numB_len n)))).trans (numOf_numB n h1 h2)
theorem take_bs (b rest : List Nat) : (⟨b ++ rest, false⟩ : RD).take (b.length : Nat) = ⟨rest, false⟩ ∧ (⟨b ++ rest, false⟩ : RD).got (b.length : Nat) = b := by
  obtain ⟨e1, e2⟩ := RD.take_fit (s := ⟨b ++ rest, false⟩) (k := b.length) rfl (by simp)
  exact ⟨e1.trans (by rw [List.drop_left' rfl]), e2.trans (List.take_left' rfl)⟩
theorem take_one (b : Nat) (rest : List Nat) : (⟨b :: rest, false⟩ : RD).take 1 = ⟨rest, false⟩ ∧ (⟨b :: rest, false⟩ : RD).byte = b := by
  have h := take_bs [b] rest
  refine ⟨h.1, ?_⟩
  have : (⟨b :: rest, false⟩ : RD).byte = ((⟨b :: rest, false⟩ : RD).got 1).headD 0 := rfl
  rw [this, show (⟨b :: rest, false⟩ : RD).got 1 = [b] from h.2]
  rfl
theorem run_nums (l : List Int) (rest : List Nat) (hw : ∀ x ∈ l, -9223372036854775808 ≤ x ∧ x ≤ 9223372036854775807) : ∀ k, k ≤ l.length →
    RD.run k ⟨l.flatMap numB ++ rest, false⟩ = ⟨(l.drop k).flatMap numB ++ rest, false⟩ ∧ RD.rows ⟨l.flatMap numB ++ rest, false⟩ k = l.take k
  | 0, _ => ⟨rfl, rfl⟩
  | k + 1, hk => by
    obtain ⟨h1, h2⟩ := run_nums l rest hw k (by omega)
    have hx := hw _ (List.getElem_mem (show k < l.length by omega))
    have hd : l.drop k = l[k] :: l.drop (k + 1) := List.drop_eq_getElem_cons (by omega)
    have e : (⟨(l.drop k).flatMap numB ++ rest, false⟩ : RD) = ⟨numB l[k] ++ ((l.drop (k + 1)).flatMap numB ++ rest), false⟩ := by rw [hd, List.flatMap_cons, List.append_assoc]
    obtain ⟨t1, t2⟩ := take_num l[k] ((l.drop (k + 1)).flatMap numB ++ rest) hx.1 hx.2
    refine ⟨by rw [RD.run, h1, e, t1], ?_⟩
    rw [RD.rows, h1, h2, e, t2, List.take_add_one, List.getElem?_eq_getElem (by omega)]
    rfl
theorem bytes_back (b rest : List Nat) (hb : b.length ≤ 1000000) : (⟨(numB b.length ++ b) ++ rest, false⟩ : RD).bytesTo = ⟨rest, false⟩ ∧ (⟨(numB b.length ++ b) ++ rest, false⟩ : RD).bytes = b := by
  rw [List.append_assoc]
  obtain ⟨t1, t2⟩ := take_num (b.length : Nat) (b ++ rest) (by omega) (by omega)
  obtain ⟨u1, u2⟩ := take_bs b rest
  exact ⟨by rw [RD.bytesTo, t1, t2, u1], by rw [RD.bytes, t1, t2, u2]⟩
theorem many_len (l : List Int) : (l.flatMap numB).length = 8 * l.length := by
  have := numsB_len l
  unfold numsB at this
  rw [List.length_append, numB_len] at this
  omega
theorem nums_back (l : List Int) (rest : List Nat) (hl : l.length ≤ 1000000) (hw : ∀ x ∈ l, -9223372036854775808 ≤ x ∧ x ≤ 9223372036854775807) : (⟨numsB l ++ rest, false⟩ : RD).numsTo = ⟨rest, false⟩ ∧ (⟨numsB l ++ rest, false⟩ : RD).nums = l := by
  unfold numsB
  rw [List.append_assoc]
  obtain ⟨t1, t2⟩ := take_num (l.length : Nat) (l.flatMap numB ++ rest) (by omega) (by omega)
  obtain ⟨r1, r2⟩ := run_nums l rest hw l.length (Nat.le_refl _)
  have hm : (⟨numB (l.length : Nat) ++ (l.flatMap numB ++ rest), false⟩ : RD).many = true := by
    simp only [RD.many, t1, t2, Bool.and_eq_true, decide_eq_true_eq, Bool.not_false, and_true]
    refine ⟨by omega, ?_⟩
    rw [List.length_append, many_len]
    omega
  have hto : (l.length : Int).toNat = l.length := by omega
  refine ⟨?_, ?_⟩
  · rw [RD.numsTo, if_pos hm, t1, t2, hto, r1]
    simp
  · rw [RD.nums, if_pos hm, t1, t2, hto, r2, List.take_length]
theorem flag_back (f : Bool) (rest : List Nat) : (⟨(if f then 1 else 0) :: rest, false⟩ : RD).flagTo = ⟨rest, false⟩ ∧ (⟨(if f then 1 else 0) :: rest, false⟩ : RD).flag = f := by
  obtain ⟨t1, t2⟩ := take_one (if f then 1 else 0) rest
  refine ⟨?_, ?_⟩
  · rw [RD.flagTo, t1, t2, if_neg (by cases f <;> decide)]
  · rw [RD.flag, t2]
    cases f <;> rfl
def ValV.Small (v : ValV) : Prop := v.b.length ≤ 300 ∧ v.l.length ≤ 50
theorem to_back (v : ValV) (rest : List Nat) (hs : v.Small) (hw : v.Wide) : (⟨v.bytes ++ rest, false⟩ : RD).to v.kind = ⟨rest, false⟩ := by
  unfold ValV.bytes RD.to
  by_cases k0 : v.kind = 0
  · rw [if_pos k0, if_pos k0]; exact (take_one _ rest).1
  rw [if_neg k0, if_neg k0]
  by_cases k2 : v.kind = 2
  · rw [if_pos k2, if_pos k2]
    have := (flag_back (decide (v.n = 1)) rest).1
    simpa using this
  rw [if_neg k2, if_neg k2]
  by_cases k3 : v.kind = 3
  · rw [if_pos k3, if_pos k3]; exact (bytes_back v.b rest (by have := hs.1; omega)).1
  rw [if_neg k3, if_neg k3]
  by_cases k4 : v.kind = 4
  · rw [if_pos k4, if_pos k4]; exact (bytes_back v.b rest (by have := hs.1; omega)).1
  rw [if_neg k4, if_neg k4]
  by_cases k5 : v.kind = 5
  · rw [if_pos k5, if_pos k5]; exact (nums_back v.l rest (by have := hs.2; omega) hw.2).1
  rw [if_neg k5, if_neg k5]
  exact (take_num v.n rest hw.1.1 hw.1.2).1
theorem spoil_take (p : List Nat) (n : Nat) (h : p.length < n) : (⟨p, false⟩ : RD).take n = RD.spoilt := (RD.take_un (.inr (.inl (by simpa using h)))).1
theorem spoilt_take (n : Int) : RD.spoilt.take n = RD.spoilt := (RD.take_un (.inr (.inr rfl))).1
theorem pre_cut {p a b : List Nat} (h : p <+: a ++ b) : (a.length ≤ p.length ∧ ∃ q, p = a ++ q ∧ q <+: b) ∨ (p.length < a.length ∧ p <+: a) := by
  obtain ⟨t, ht⟩ := h
  rcases Nat.lt_or_ge p.length a.length with hl | hl
  · exact .inr ⟨hl, List.prefix_of_prefix_length_le ⟨t, ht⟩ (List.prefix_append a b) (by omega)⟩
  · have ha : a <+: p := List.prefix_of_prefix_length_le (List.prefix_append a b) ⟨t, ht⟩ hl
    obtain ⟨q, rfl⟩ := ha
    rw [List.append_assoc] at ht
    exact .inl ⟨hl, q, rfl, ⟨t, List.append_cancel_left ht⟩⟩
theorem bytes_cut (b p : List Nat) (hb : b.length ≤ 1000000) (h : p <+: numB b.length ++ b) (hl : p.length < 8 + b.length) : (⟨p, false⟩ : RD).bytesTo = RD.spoilt := by
  unfold RD.bytesTo
  rcases pre_cut h with ⟨_, q, rfl, hq⟩ | ⟨hs, _⟩
  · obtain ⟨t1, t2⟩ := take_num (b.length : Nat) q (by omega) (by omega)
    rw [t1, t2]
    exact spoil_take q b.length (by rw [List.length_append, numB_len] at hl; omega)
  · rw [numB_len] at hs
    rw [show (⟨p, false⟩ : RD).take 8 = RD.spoilt from spoil_take p 8 hs, spoilt_take]
theorem nums_cut (l : List Int) (p : List Nat) (hb : l.length ≤ 1000000) (h : p <+: numsB l) (hl : p.length < 8 + 8 * l.length) : (⟨p, false⟩ : RD).numsTo = RD.spoilt := by
  have hm : (⟨p, false⟩ : RD).many = false := by
    unfold numsB at h
    rcases pre_cut h with ⟨_, q, rfl, hq⟩ | ⟨hs, _⟩
    · obtain ⟨t1, t2⟩ := take_num (l.length : Nat) q (by omega) (by omega)
      rw [List.length_append, numB_len] at hl
      simp only [RD.many, t1, t2, Bool.and_eq_false_iff, decide_eq_false_iff_not]
      left; right; omega
    · rw [numB_len] at hs
      have e : (⟨p, false⟩ : RD).take 8 = RD.spoilt := spoil_take p 8 hs
      simp [RD.many, e, RD.spoilt]
  rw [RD.numsTo, if_neg (by simp [hm])]
theorem to_cut (v : ValV) (p : List Nat) (hs : v.Small) (h : p <+: v.bytes) (hl : p.length < v.bytes.length) : (⟨p, false⟩ : RD).to v.kind = RD.spoilt := by
  have nil1 : (⟨[], false⟩ : RD).take 1 = RD.spoilt := spoil_take [] 1 (by simp)
  unfold ValV.bytes at h hl
  unfold RD.to
  by_cases k0 : v.kind = 0
  · rw [if_pos k0] at h hl ⊢
    obtain rfl := List.eq_nil_of_length_eq_zero (show p.length = 0 by simp at hl; exact by simpa using hl)
    exact nil1
  rw [if_neg k0] at h hl ⊢
  by_cases k2 : v.kind = 2
  · rw [if_pos k2] at h hl ⊢
    obtain rfl := List.eq_nil_of_length_eq_zero (show p.length = 0 by simp at hl; exact by simpa using hl)
    exact (by kernel_rfl : (⟨[], false⟩ : RD).flagTo = RD.spoilt)
  rw [if_neg k2] at h hl ⊢
  by_cases k3 : v.kind = 3
  · rw [if_pos k3] at h hl ⊢; exact bytes_cut v.b p (by have := hs.1; omega) h (by rw [List.length_append, numB_len] at hl; omega)
  rw [if_neg k3] at h hl ⊢
  by_cases k4 : v.kind = 4
  · rw [if_pos k4] at h hl ⊢; exact bytes_cut v.b p (by have := hs.1; omega) h (by rw [List.length_append, numB_len] at hl; omega)
  rw [if_neg k4] at h hl ⊢
  by_cases k5 : v.kind = 5
  · rw [if_pos k5] at h hl ⊢; exact nums_cut v.l p (by have := hs.2; omega) h (by rw [numsB_len] at hl; omega)
  rw [if_neg k5] at h hl ⊢
  rw [numB_len] at hl
  exact spoil_take p 8 hl
/-- the state behind all kinds -/
def RD.all (s : RD) (os : List ValV) : RD := os.foldl (fun s o => s.to o.kind) s
theorem RD.all_snoc (s : RD) (os : List ValV) (o : ValV) : s.all (os ++ [o]) = (s.all os).to o.kind := by simp [RD.all]
theorem all_spoilt : ∀ os : List ValV, RD.spoilt.all os = RD.spoilt
  | [] => rfl
  | o :: os => by
    have := all_spoilt os
    unfold RD.all at this ⊢
    rw [List.foldl_cons, spoilt_to, this]
theorem all_cut : ∀ (os : List ValV) (p : List Nat), (∀ o ∈ os, o.Small ∧ o.Wide) → p <+: os.flatMap ValV.bytes → p.length < (os.flatMap ValV.bytes).length → ((⟨p, false⟩ : RD).all os).bad = true ∨ 0 < ((⟨p, false⟩ : RD).all os).bs.length
  | [], p, _, _, hl => by simp at hl
  | o :: os, p, hall, h, hl => by
    have ho := hall o (by simp)
    rw [List.flatMap_cons] at h hl
    have hc : (⟨p, false⟩ : RD).all (o :: os) = ((⟨p, false⟩ : RD).to o.kind).all os := rfl
    rw [hc]
    rcases pre_cut h with ⟨_, q, rfl, hq⟩ | ⟨hs, hp⟩
    · rw [to_back o q ho.1 ho.2]
      exact all_cut os q (fun x hx => hall x (by simp [hx])) hq (by rw [List.length_append, List.length_append] at hl; omega)
    · rw [to_cut o p ho.1 hp hs, all_spoilt]
      exact .inl rfl
theorem flat_take_len (os : List ValV) (hs : ∀ o ∈ os, o.Small) : ∀ k, ((os.take k).flatMap ValV.bytes).length ≤ 708 * k
  | 0 => by simp
  | k + 1 => by
    have ih := flat_take_len os hs k
    rw [List.take_add_one]
    cases h : os[k]? with
    | none => rw [Option.toList_none, List.append_nil]; omega
    | some o =>
      have h1 := hs o (List.mem_of_getElem? h)
      have h2 := o.bytes_len
      unfold ValV.size at h2
      obtain ⟨h3, h4⟩ := h1
      simp only [Option.toList_some, List.flatMap_append, List.flatMap_cons, List.flatMap_nil, List.append_nil, List.length_append]
      omega
end Go.Proofs.Ytgdkpmgfholnkaa
