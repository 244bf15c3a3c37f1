/-
  What was put is read back: numbers, bytes, rows of numbers, flags. No condition but the sizes.
-/
import Derived.Test.YtjepfeagbiceoaaQy
import Derived.Test.YtjepfeagbiceoaaRd3
namespace Go.Proofs.Ytjepfeagbiceoaa
open Go.RowKit
set_option linter.unusedSimpArgs false
set_option linter.unusedVariables false
theorem take_num (n : Int) (rest : List Nat) (h1 : -9223372036854775808 ≤ n) (h2 : n ≤ 9223372036854775807) : (⟨numB n ++ rest, false⟩ : RD).take 8 = ⟨rest, false⟩ ∧ (⟨numB n ++ rest, false⟩ : RD).num = n := by
  obtain ⟨e1, e2⟩ := RD.take_fit (s := ⟨numB n ++ rest, false⟩) (k := 8) rfl (by simp [numB_len])
  refine ⟨e1.trans (by rw [List.drop_left' (numB_len n)]), ?_⟩
  have : (⟨numB n ++ rest, false⟩ : RD).num = numOf ((⟨numB n ++ rest, false⟩ : RD).got 8) := rfl
  rw [this]
  exact (congrArg numOf (e2.trans (List.take_left' (numB_len n)))).trans (numOf_numB n h1 h2)
theorem take_bs (b rest : List Nat) : (⟨b ++ rest, false⟩ : RD).take (b.length : Nat) = ⟨rest, false⟩ ∧ (⟨b ++ rest, false⟩ : RD).got (b.length : Nat) = b := by
  obtain ⟨e1, e2⟩ := RD.take_fit (s := ⟨b ++ rest, false⟩) (k := b.length) rfl (by simp)
  exact ⟨e1.trans (by rw [List.drop_left' rfl]), e2.trans (List.take_left' rfl)⟩
theorem take_one (b : Nat) (rest : List Nat) : (⟨b :: rest, false⟩ : RD).take 1 = ⟨rest, false⟩ ∧ (⟨b :: rest, false⟩ : RD).byte = b := by
  have h := take_bs [b] rest
  refine ⟨h.1, ?_⟩
  have : (⟨b :: rest, false⟩ : RD).byte = ((⟨b :: rest, false⟩ : RD).got 1).headD 0 := rfl
  rw [this, show (⟨b :: rest, false⟩ : RD).got 1 = [b] from h.2]
  rfl
theorem run_nums (l : List Int) (rest : List Nat) (hw : ∀ x ∈ l, -9223372036854775808 ≤ x ∧ x ≤ 9223372036854775807) : ∀ k, k ≤ l.length →
    RD.run k ⟨l.flatMap numB ++ rest, false⟩ = ⟨(l.drop k).flatMap numB ++ rest, false⟩ ∧ RD.rows ⟨l.flatMap numB ++ rest, false⟩ k = l.take k
  | 0, _ => ⟨rfl, rfl⟩
  | k + 1, hk => by
    obtain ⟨h1, h2⟩ := run_nums l rest hw k (by omega)
    have hx := hw _ (List.getElem_mem (show k < l.length by omega))
    have hd : l.drop k = l[k] :: l.drop (k + 1) := List.drop_eq_getElem_cons (by omega)
    have e : (⟨(l.drop k).flatMap numB ++ rest, false⟩ : RD) = ⟨numB l[k] ++ ((l.drop (k + 1)).flatMap numB ++ rest), false⟩ := by rw [hd, List.flatMap_cons, List.append_assoc]
    obtain ⟨t1, t2⟩ := take_num l[k] ((l.drop (k + 1)).flatMap numB ++ rest) hx.1 hx.2
    refine ⟨by rw [RD.run, h1, e, t1], ?_⟩
    rw [RD.rows, h1, h2, e, t2, List.take_add_one, List.getElem?_eq_getElem (by omega)]
    rfl
theorem bytes_back (b rest : List Nat) (hb : b.length ≤ 1000000) : (⟨(numB b.length ++ b) ++ rest, false⟩ : RD).bytesTo = ⟨rest, false⟩ ∧ (⟨(numB b.length ++ b) ++ rest, false⟩ : RD).bytes = b := by
  rw [List.append_assoc]
  obtain ⟨t1, t2⟩ := take_num (b.length : Nat) (b ++ rest) (by omega) (by omega)
  obtain ⟨u1, u2⟩ := take_bs b rest
  exact ⟨by rw [RD.bytesTo, t1, t2, u1], by rw [RD.bytes, t1, t2, u2]⟩
theorem many_len (l : List Int) : (l.flatMap numB).length = 8 * l.length := by
  have := numsB_len l
  unfold numsB at this
  rw [List.length_append, numB_len] at this
  omega
theorem nums_back (l : List Int) (rest : List Nat) (hl : l.length ≤ 1000000) (hw : ∀ x ∈ l, -9223372036854775808 ≤ x ∧ x ≤ 9223372036854775807) : (⟨numsB l ++ rest, false⟩ : RD).numsTo = ⟨rest, false⟩ ∧ (⟨numsB l ++ rest, false⟩ : RD).nums = l := by
  unfold numsB
  rw [List.append_assoc]
  obtain ⟨t1, t2⟩ := take_num (l.length : Nat) (l.flatMap numB ++ rest) (by omega) (by omega)
  obtain ⟨r1, r2⟩ := run_nums l rest hw l.length (Nat.le_refl _)
  have hm : (⟨numB (l.length : Nat) ++ (l.flatMap numB ++ rest), false⟩ : RD).many = true := by
    simp only [RD.many, t1, t2, Bool.and_eq_true, decide_eq_true_eq, Bool.not_false, and_true]
    refine ⟨by omega, ?_⟩
    rw [List.length_append, many_len]
    omega
  have hto : (l.length : Int).toNat = l.length := by omega
  refine ⟨?_, ?_⟩
  · rw [RD.numsTo, if_pos hm, t1, t2, hto, r1]
    simp
  · rw [RD.nums, if_pos hm, t1, t2, hto, r2, List.take_length]
theorem flag_back (f : Bool) (rest : List Nat) : (⟨(if f then 1 else 0) :: rest, false⟩ : RD).flagTo = ⟨rest, false⟩ ∧ (⟨(if f then 1 else 0) :: rest, false⟩ : RD).flag = f := by
  obtain ⟨t1, t2⟩ := take_one (if f then 1 else 0) rest
  refine ⟨?_, ?_⟩
  · rw [RD.flagTo, t1, t2, if_neg (by cases f <;> decide)]
  · rw [RD.flag, t2]
    cases f <;> rfl
end Go.Proofs.Ytjepfeagbiceoaa
