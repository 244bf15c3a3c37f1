/-
  Boxes and their sectors, as the chapter tells them, in plain words of lists. No condition.
-/
import Derived.Test.YtgdkpmgfholnkaaDoorSec
import Derived.Test.YtgdkpmgfholnkaaDoorSum
namespace Go.Proofs.YtgdkpmgfholnkaaDoor
open Go.RowKit
set_option linter.unusedSimpArgs false
set_option linter.unusedVariables false
theorem take_num (n : Int) (rest : List Nat) (h1 : -9223372036854775808 ≤ n) (h2 : n ≤ 9223372036854775807) : (⟨numB n ++ rest, false⟩ : RD).take 8 = ⟨rest, false⟩ ∧ (⟨numB n ++ rest, false⟩ : RD).num = n := by
  obtain ⟨e1, e2⟩ := RD.take_fit (s := ⟨numB n ++ rest, false⟩) (k := 8) rfl (by simp [numB_len])
  refine ⟨e1.trans (by rw [List.drop_left' (numB_len n)]), ?_⟩
  have : (⟨numB n ++ rest, false⟩ : RD).num = numOf ((⟨numB n ++ rest, false⟩ : RD).got 8) := rfl
  rw [this]
  exact (congrArg numOf (e2.trans (List.take_left' (numB_len n)))).trans (numOf_numB n h1 h2)
theorem take_bs (b rest : List Nat) : (⟨b ++ rest, false⟩ : RD).take (b.length : Nat) = ⟨rest, false⟩ ∧ (⟨b ++ rest, false⟩ : RD).got (b.length : Nat) = b := by
  obtain ⟨e1, e2⟩ := RD.take_fit (s := ⟨b ++ rest, false⟩) (k := b.length) rfl (by simp)
  exact ⟨e1.trans (by rw [List.drop_left' rfl]), e2.trans (List.take_left' rfl)⟩
theorem take_one (b : Nat) (rest : List Nat) : (⟨b :: rest, false⟩ : RD).take 1 = ⟨rest, false⟩ ∧ (⟨b :: rest, false⟩ : RD).byte = b := by
  have h := take_bs [b] rest
  refine ⟨h.1, ?_⟩
  have : (⟨b :: rest, false⟩ : RD).byte = ((⟨b :: rest, false⟩ : RD).got 1).headD 0 := rfl
  rw [this, show (⟨b :: rest, false⟩ : RD).got 1 = [b] from h.2]
  rfl
def isBoxB (k g n : Int) : Bool := decide (1 ≤ k ∧ k ≤ 255 ∧ 0 ≤ g ∧ g ≤ 4611686018427387904 ∧ 0 ≤ n ∧ n ≤ 2147483647)
def headOf (k g n : Int) (m : Nat) : List Nat := [(k % 256).toNat] ++ numB g ++ numB n ++ [m]
theorem headOf_len (k g n : Int) (m : Nat) : (headOf k g n m).length = 18 := by simp [headOf, numB_len]
def bodyOf (k g n : Int) (d : List Nat) : List Nat := headOf k g n d.length ++ d ++ List.replicate (106 - d.length) 0
theorem bodyOf_len (k g n : Int) (d : List Nat) (h : d.length ≤ 106) : (bodyOf k g n d).length = 124 := by simp [bodyOf, headOf_len]; omega
theorem headOf_lt (k g n : Int) (m : Nat) (hm : m < 256) : ∀ b ∈ headOf k g n m, b < 256 := by
  intro b hb
  simp only [headOf, List.mem_append, List.mem_singleton] at hb
  rcases hb with ((rfl | hb) | hb) | rfl
  · omega
  · exact numB_lt _ b hb
  · exact numB_lt _ b hb
  · exact hm
theorem bodyOf_lt (k g n : Int) (d : List Nat) (h : d.length ≤ 106) (hd : ∀ b ∈ d, b < 256) : ∀ b ∈ bodyOf k g n d, b < 256 := by
  intro b hb
  simp only [bodyOf, List.mem_append, List.mem_replicate] at hb
  rcases hb with (hb | hb) | ⟨_, rfl⟩
  · exact headOf_lt k g n d.length (by omega) b hb
  · exact hd b hb
  · omega
def sealL (k g n : Int) (d : List Nat) : List Nat := le 4 (Crc.sum (bodyOf k g n d)) ++ bodyOf k g n d
theorem sealL_len (k g n : Int) (d : List Nat) (h : d.length ≤ 106) : (sealL k g n d).length = 128 := by simp [sealL, le_len, bodyOf_len k g n d h]
theorem sealL_lt (k g n : Int) (d : List Nat) (h : d.length ≤ 106) (hd : ∀ b ∈ d, b < 256) : ∀ b ∈ sealL k g n d, b < 256 := by
  intro b hb
  rcases List.mem_append.1 hb with hb | hb
  · exact le_lt _ _ b hb
  · exact bodyOf_lt k g n d h hd b hb
def sealSec (k g n : Int) (d : List Nat) (h : d.length ≤ 106) (hd : ∀ b ∈ d, b < 256) : Sec := ⟨sealL k g n d, sealL_len k g n d h, sealL_lt k g n d h hd⟩
/-- what a sector tells -/
def told0 (l : List Nat) : RD := ⟨l.drop 4, false⟩
def told1 (l : List Nat) : RD := (told0 l).take 1
def told2 (l : List Nat) : RD := (told1 l).take 8
def told3 (l : List Nat) : RD := (told2 l).take 8
def tK (l : List Nat) : Int := ((told0 l).byte : Nat)
def tG (l : List Nat) : Int := (told1 l).num
def tN (l : List Nat) : Int := (told2 l).num
def tC (l : List Nat) : Nat := (told3 l).byte
def tD (l : List Nat) : List Nat := (l.drop 22).take (min (tC l) 106)
theorem tD_len (l : List Nat) : (tD l).length ≤ 106 := by unfold tD; rw [List.length_take]; omega
theorem tD_len' (l : List Nat) (h : l.length = 128) : (tD l).length = min (tC l) 106 := by unfold tD; rw [List.length_take, List.length_drop]; omega
theorem tD_lt (l : List Nat) (h : ∀ b ∈ l, b < 256) : ∀ b ∈ tD l, b < 256 := fun b hb => h b (List.mem_of_mem_drop (List.mem_of_mem_take hb))
def isSealed (l : List Nat) : Bool := isBoxB (tK l) (tG l) (tN l) && (sealL (tK l) (tG l) (tN l) (tD l) == l)
theorem told_seal (k g n : Int) (d : List Nat) (hb : isBoxB k g n = true) (h : d.length ≤ 106) : tK (sealL k g n d) = k ∧ tG (sealL k g n d) = g ∧ tN (sealL k g n d) = n ∧ tC (sealL k g n d) = d.length ∧ tD (sealL k g n d) = d := by
  simp only [isBoxB, decide_eq_true_eq] at hb
  obtain ⟨h1, h2, h3, h4, h5, h6⟩ := hb
  have e0 : told0 (sealL k g n d) = ⟨(k % 256).toNat :: (numB g ++ (numB n ++ (d.length :: (d ++ List.replicate (106 - d.length) 0)))), false⟩ := by
    unfold told0 sealL
    rw [List.drop_left' (le_len 4 _)]
    simp [bodyOf, headOf]
  obtain ⟨a1, a2⟩ := take_one (k % 256).toNat (numB g ++ (numB n ++ (d.length :: (d ++ List.replicate (106 - d.length) 0))))
  obtain ⟨b1, b2⟩ := take_num g (numB n ++ (d.length :: (d ++ List.replicate (106 - d.length) 0))) (by omega) (by omega)
  obtain ⟨c1, c2⟩ := take_num n (d.length :: (d ++ List.replicate (106 - d.length) 0)) (by omega) (by omega)
  obtain ⟨d1, d2⟩ := take_one d.length (d ++ List.replicate (106 - d.length) 0)
  have e1 : told1 (sealL k g n d) = _ := (congrArg (fun s => RD.take s 1) e0).trans a1
  have e2 : told2 (sealL k g n d) = _ := (congrArg (fun s => RD.take s 8) e1).trans b1
  have e3 : told3 (sealL k g n d) = _ := (congrArg (fun s => RD.take s 8) e2).trans c1
  have hC : tC (sealL k g n d) = d.length := (congrArg RD.byte e3).trans d2
  refine ⟨?_, (congrArg RD.num e1).trans b2, (congrArg RD.num e2).trans c2, hC, ?_⟩
  · show (((told0 (sealL k g n d)).byte : Nat) : Int) = k
    rw [e0, a2]
    omega
  · unfold tD
    rw [hC, Nat.min_eq_left h]
    have : (sealL k g n d).drop 22 = d ++ List.replicate (106 - d.length) 0 := by
      unfold sealL bodyOf
      rw [show (22 : Nat) = 4 + 18 from rfl, ← List.drop_drop, List.drop_left' (le_len 4 _), List.append_assoc, List.drop_left' (headOf_len k g n _)]
    rw [this, List.take_left' rfl]
theorem isSealed_seal (k g n : Int) (d : List Nat) (hb : isBoxB k g n = true) (h : d.length ≤ 106) : isSealed (sealL k g n d) = true := by
  obtain ⟨h1, h2, h3, h4, h5⟩ := told_seal k g n d hb h
  unfold isSealed
  rw [h1, h2, h3, h5, hb]
  simp
theorem sealed_eq (l : List Nat) (h : isSealed l = true) : sealL (tK l) (tG l) (tN l) (tD l) = l ∧ isBoxB (tK l) (tG l) (tN l) = true := by
  simp only [isSealed, Bool.and_eq_true, beq_iff_eq] at h
  exact ⟨h.2, h.1⟩
theorem sealed_count (l : List Nat) (h : isSealed l = true) : tC l ≤ 106 := by
  obtain ⟨h1, h2⟩ := sealed_eq l h
  have := (told_seal _ _ _ (tD l) h2 (tD_len l)).2.2.2.1
  rw [h1] at this
  rw [this]
  exact tD_len l
theorem seal_inj (k g n k' g' n' : Int) (d d' : List Nat) (hb : isBoxB k g n = true) (hb' : isBoxB k' g' n' = true) (h : d.length ≤ 106) (h' : d'.length ≤ 106) (he : sealL k g n d = sealL k' g' n' d') : k = k' ∧ g = g' ∧ n = n' ∧ d = d' := by
  obtain ⟨a1, a2, a3, a4, a5⟩ := told_seal k g n d hb h
  obtain ⟨b1, b2, b3, b4, b5⟩ := told_seal k' g' n' d' hb' h'
  rw [he] at a1 a2 a3 a5
  exact ⟨a1.symm.trans b1, a2.symm.trans b2, a3.symm.trans b3, a5.symm.trans b5⟩
theorem xor_zero_of {a b : Nat} (h : a ^^^ b = a) : b = 0 := by
  have : a ^^^ (a ^^^ b) = a ^^^ a := by rw [h]
  rwa [← Nat.xor_assoc, Nat.xor_self, Nat.zero_xor] at this
theorem set_far (t u : List Nat) (j : Nat) (h : u[j]? = t[j]?) : u.set j (t.getD j 0 ^^^ 0) = u := by
  apply List.ext_getElem?
  intro i
  rw [List.getElem?_set]
  by_cases hj : j = i
  · subst hj
    rw [if_pos rfl]
    by_cases hl : j < u.length
    · have hl' : j < t.length := by
        rcases Nat.lt_or_ge j t.length with h' | h'
        · exact h'
        · rw [List.getElem?_eq_none h', List.getElem?_eq_getElem hl] at h; cases h
      rw [if_pos hl, h, List.getD_eq_getElem?_getD, List.getElem?_eq_getElem hl']
      simp
    · rw [if_neg hl, List.getElem?_eq_none (by omega)]
  · rw [if_neg hj]
theorem chg_low (t : List Nat) (k c : Nat) (hc : c < 256) : Crc.chg t k c 4 = t.set k (t.getD k 0 ^^^ c) := by
  have p0 : Crc.part c 0 = c := by simp [Crc.part]; omega
  have p1 : Crc.part c 1 = 0 := by unfold Crc.part; rw [Nat.div_eq_of_lt (by omega)]
  have p2 : Crc.part c 2 = 0 := by unfold Crc.part; rw [Nat.div_eq_of_lt (by omega)]
  have p3 : Crc.part c 3 = 0 := by unfold Crc.part; rw [Nat.div_eq_of_lt (by omega)]
  simp only [Crc.chg, p0, p1, p2, p3, Nat.add_zero]
  rw [set_far t _ (k + 1) (by rw [List.getElem?_set_ne (by omega)]), set_far t _ (k + 2) (by rw [List.getElem?_set_ne (by omega)]), set_far t _ (k + 3) (by rw [List.getElem?_set_ne (by omega)])]
theorem chg_high (t : List Nat) (k m c : Nat) (hc : c < 256) (hm : m = 1 ∨ m = 2 ∨ m = 3) : Crc.chg t k (c * 256 ^ m) 4 = t.set (k + m) (t.getD (k + m) 0 ^^^ c) := by
  rcases hm with rfl | rfl | rfl
  · have p0 : Crc.part (c * 256 ^ 1) 0 = 0 := by simp [Crc.part]
    have p1 : Crc.part (c * 256 ^ 1) 1 = c := by simp [Crc.part]; omega
    have p2 : Crc.part (c * 256 ^ 1) 2 = 0 := by unfold Crc.part; rw [Nat.div_eq_of_lt (by omega)]
    have p3 : Crc.part (c * 256 ^ 1) 3 = 0 := by unfold Crc.part; rw [Nat.div_eq_of_lt (by omega)]
    simp only [Crc.chg, p0, p1, p2, p3, Nat.add_zero]
    rw [set_far t t k rfl, set_far t _ (k + 2) (by rw [List.getElem?_set_ne (by omega)]), set_far t _ (k + 3) (by rw [List.getElem?_set_ne (by omega)])]
  · have p0 : Crc.part (c * 256 ^ 2) 0 = 0 := by unfold Crc.part; omega
    have p1 : Crc.part (c * 256 ^ 2) 1 = 0 := by unfold Crc.part; omega
    have p2 : Crc.part (c * 256 ^ 2) 2 = c := by unfold Crc.part; omega
    have p3 : Crc.part (c * 256 ^ 2) 3 = 0 := by unfold Crc.part; rw [Nat.div_eq_of_lt (by omega)]
    simp only [Crc.chg, p0, p1, p2, p3, Nat.add_zero]
    rw [set_far t t k rfl, set_far t t (k + 1) rfl, set_far t _ (k + 3) (by rw [List.getElem?_set_ne (by omega)])]
  · have p0 : Crc.part (c * 256 ^ 3) 0 = 0 := by unfold Crc.part; omega
    have p1 : Crc.part (c * 256 ^ 3) 1 = 0 := by unfold Crc.part; omega
    have p2 : Crc.part (c * 256 ^ 3) 2 = 0 := by unfold Crc.part; omega
    have p3 : Crc.part (c * 256 ^ 3) 3 = c := by unfold Crc.part; omega
    simp only [Crc.chg, p0, p1, p2, p3, Nat.add_zero]
    rw [set_far t t k rfl, set_far t t (k + 1) rfl, set_far t t (k + 2) rfl]
theorem one_byte (t : List Nat) (j c : Nat) (ht : t.length = 124) (hj : j < 124) (h0 : 0 < c) (hc : c < 256) (hb : ∀ b ∈ t, b < 256) : Crc.sum (t.set j (t.getD j 0 ^^^ c)) ≠ Crc.sum t := by
  by_cases h : j ≤ 120
  · rw [← chg_low t j c hc]
    exact Crc.finds_chg t j c (by omega) h0 (by omega) hb
  · obtain ⟨m, hm, rfl⟩ : ∃ m, (m = 1 ∨ m = 2 ∨ m = 3) ∧ j = 120 + m := ⟨j - 120, by omega, by omega⟩
    rw [← chg_high t 120 m c hc hm]
    refine Crc.finds_chg t 120 _ (by omega) (Nat.mul_pos h0 (Nat.pow_pos (by omega))) ?_ hb
    rcases hm with rfl | rfl | rfl <;> omega
/-- a sector with one byte changed is no box's -/
theorem turned (k g n : Int) (d : List Nat) (h : d.length ≤ 106) (hd : ∀ b ∈ d, b < 256) (i c : Nat) (hi : i < 128) (h0 : 0 < c) (hc : c < 256) : isSealed ((sealL k g n d).set i ((sealL k g n d).getD i 0 ^^^ c)) = false := by
  cases hs : isSealed ((sealL k g n d).set i ((sealL k g n d).getD i 0 ^^^ c)) with
  | false => rfl
  | true =>
    exfalso
    obtain ⟨h1, h2⟩ := sealed_eq _ hs
    generalize hl' : (sealL k g n d).set i ((sealL k g n d).getD i 0 ^^^ c) = l' at *
    have hlen := sealL_len k g n d h
    have hbody := bodyOf_len k g n d h
    have hdl : l'.drop 4 = bodyOf (tK l') (tG l') (tN l') (tD l') := by
      conv => lhs; rw [← h1]
      unfold sealL
      rw [List.drop_left' (le_len 4 _)]
    have htl : l'.take 4 = le 4 (Crc.sum (bodyOf (tK l') (tG l') (tN l') (tD l'))) := by
      conv => lhs; rw [← h1]
      unfold sealL
      rw [List.take_left' (le_len 4 _)]
    rcases Nat.lt_or_ge i 4 with h4 | h4
    · have e : l'.drop 4 = bodyOf k g n d := by
        rw [← hl', List.drop_set_of_lt h4]
        unfold sealL
        rw [List.drop_left' (le_len 4 _)]
      rw [← hdl, e] at htl
      have e2 : l' = sealL k g n d := by
        rw [← List.take_append_drop 4 l', htl, e]
        rfl
      have e3 : l'[i]? = some ((sealL k g n d).getD i 0 ^^^ c) := by
        rw [← hl', List.getElem?_set_self (by omega)]
      rw [e2] at e3
      have e4 : (sealL k g n d)[i]? = some ((sealL k g n d).getD i 0) := by
        rw [List.getD_eq_getElem?_getD, List.getElem?_eq_getElem (by omega)]
        rfl
      rw [e4] at e3
      injection e3 with e3
      have := xor_zero_of e3.symm
      omega
    · have e : l'.drop 4 = (bodyOf k g n d).set (i - 4) ((bodyOf k g n d).getD (i - 4) 0 ^^^ c) := by
        rw [← hl', List.drop_set, if_neg (by omega)]
        have : (sealL k g n d).drop 4 = bodyOf k g n d := by unfold sealL; rw [List.drop_left' (le_len 4 _)]
        rw [this]
        congr 2
        unfold sealL
        rw [List.getD_eq_getElem?_getD, List.getD_eq_getElem?_getD, List.getElem?_append_right (by rw [le_len]; omega), le_len]
      have et : l'.take 4 = le 4 (Crc.sum (bodyOf k g n d)) := by
        rw [← hl', List.take_set_of_le h4]
        unfold sealL
        rw [List.take_left' (le_len 4 _)]
      rw [et, ← hdl, e] at htl
      have hsum := congrArg un htl
      have hs1 : Crc.sum (bodyOf k g n d) < 256 ^ 4 := Crc.go_lt _ _
      have hs2 : Crc.sum ((bodyOf k g n d).set (i - 4) ((bodyOf k g n d).getD (i - 4) 0 ^^^ c)) < 256 ^ 4 := Crc.go_lt _ _
      rw [un_le 4 _ hs1, un_le 4 _ hs2] at hsum
      exact one_byte (bodyOf k g n d) (i - 4) c hbody (by omega) h0 hc (bodyOf_lt k g n d h hd) hsum.symm
end Go.Proofs.YtgdkpmgfholnkaaDoor
