/-
  What a store's text is taken to, as data; what of a reader is used up. No condition; nothing of the program is named.
-/
import Derived.Test.YtfbpfgbmlbkffaaGreatZi
import Derived.Test.YtfbpfgbmlbkffaaGreatRd2sC
namespace Go.Proofs.YtfbpfgbmlbkffaaGreat
open Go.RowKit Go.BigFrame
set_option linter.unusedSimpArgs false
set_option linter.unusedVariables false
set_option maxRecDepth 100000
/-! ### what a reader comes to -/
def tkA : Nat → RD → AL → Option (AL × RD)
  | 0, s, a => some (a, s)
  | k + 1, s, a => if isNameB s.bytes = true ∧ s.bytesTo.bytes.length ≤ 1024 then tkA k s.bytesTo.bytesTo (gput (keyB s.bytes) s.bytesTo.bytes a) else none
def freeB (fl : List Bool) (x y : Int) : Bool := decide (1 ≤ y) && decide (0 ≤ x) && decide (x.toNat + y.toNat ≤ fl.length) && ((fl.drop x.toNat).take y.toNat).all id
def tkE : Nat → RD → List Bool → List (Nat × Nat) → Option (List (Nat × Nat) × List Bool × RD)
  | 0, s, fl, es => some (es, fl, s)
  | k + 1, s, fl, es => if freeB fl s.num (s.take 8).num = true then tkE k ((s.take 8).take 8) (setR fl s.num.toNat (s.take 8).num.toNat false) (es ++ [(s.num.toNat, (s.take 8).num.toNat)]) else none
def tkO (s : RD) (M : Mod) : Option (Mod × RD) :=
  if isNameB s.bytes = true ∧ s.bytesTo.bytes.length ≤ 65536 then
    (tkA s.bytesTo.bytesTo.num.toNat (s.bytesTo.bytesTo.take 8) []).bind fun q =>
      (tkE q.2.num.toNat (q.2.take 8) M.fl []).bind fun t =>
        if lens t.1 = needsB s.bytesTo.bytes then some (⟨M.bl, t.2.1, gput (keyB s.bytes) ⟨s.bytesTo.bytes, q.1, t.1⟩ M.ob⟩, t.2.2) else none
  else none
theorem bind_yes {α β : Type} {x : Option α} {f : α → Option β} {a : α} {r : Option β} (h1 : x = some a) (h2 : f a = r) : x.bind f = r := by
  subst h1
  exact h2
theorem bind_no {α β : Type} {x : Option α} {f : α → Option β} (h1 : x = none) : x.bind f = none := by
  subst h1
  rfl
theorem ite_none {α : Type} {c : Prop} [Decidable c] {x : Option α} (h : x = none) : (if c then x else none) = none := by
  subst h
  split <;> rfl
def tkN : Nat → RD → Mod → Option (Mod × RD)
  | 0, s, M => some (M, s)
  | k + 1, s, M =>
    match tkO s M with
    | none => none
    | some (M', s') => tkN k s' M'
def flS (s : RD) : Nat → RD × List Bool
  | 0 => (s, flags8)
  | k + 1 => ((flS s k).1.flagTo, (flS s k).2.set k (flS s k).1.flag)
/-- what is taken ahead of the last look -/
def tkP (bs : List Nat) : Option Mod :=
  if 0 ≤ (⟨bs, false⟩ : RD).num ∧ (⟨bs, false⟩ : RD).num ≤ 65536 then
    (tkN (flS ((⟨bs, false⟩ : RD).take 8) 8).1.num.toNat ((flS ((⟨bs, false⟩ : RD).take 8) 8).1.take 8) ⟨(flS ((⟨bs, false⟩ : RD).take 8) 8).2, List.replicate (⟨bs, false⟩ : RD).num.toNat true, []⟩).map (·.1)
  else none
theorem tkP_some {bs : List Nat} {M : Mod} {s' : RD} (h1 : 0 ≤ (⟨bs, false⟩ : RD).num ∧ (⟨bs, false⟩ : RD).num ≤ 65536) (h : tkN (flS ((⟨bs, false⟩ : RD).take 8) 8).1.num.toNat ((flS ((⟨bs, false⟩ : RD).take 8) 8).1.take 8) ⟨(flS ((⟨bs, false⟩ : RD).take 8) 8).2, List.replicate (⟨bs, false⟩ : RD).num.toNat true, []⟩ = some (M, s')) : tkP bs = some M := by
  unfold tkP
  rw [if_pos h1, h]
  rfl
theorem tkP_noN {bs : List Nat} (h : tkN (flS ((⟨bs, false⟩ : RD).take 8) 8).1.num.toNat ((flS ((⟨bs, false⟩ : RD).take 8) 8).1.take 8) ⟨(flS ((⟨bs, false⟩ : RD).take 8) 8).2, List.replicate (⟨bs, false⟩ : RD).num.toNat true, []⟩ = none) : tkP bs = none := by
  unfold tkP
  rw [h]
  split <;> rfl
theorem tkP_none {bs : List Nat} (h1 : ¬ (0 ≤ (⟨bs, false⟩ : RD).num ∧ (⟨bs, false⟩ : RD).num ≤ 65536)) : tkP bs = none := by
  unfold tkP
  rw [if_neg h1]
theorem tkO_some {s s3 s4 : RD} {M : Mod} {a : AL} {e : List (Nat × Nat)} {fl : List Bool} (h1 : isNameB s.bytes = true ∧ s.bytesTo.bytes.length ≤ 65536) (hA : tkA s.bytesTo.bytesTo.num.toNat (s.bytesTo.bytesTo.take 8) [] = some (a, s3)) (hE : tkE s3.num.toNat (s3.take 8) M.fl [] = some (e, fl, s4)) (hl : lens e = needsB s.bytesTo.bytes) : tkO s M = some (⟨M.bl, fl, gput (keyB s.bytes) ⟨s.bytesTo.bytes, a, e⟩ M.ob⟩, s4) :=
  (if_pos h1).trans (bind_yes hA (bind_yes hE (if_pos hl)))
theorem tkO_none {s : RD} {M : Mod} (h1 : ¬ (isNameB s.bytes = true ∧ s.bytesTo.bytes.length ≤ 65536)) : tkO s M = none := if_neg h1
theorem tkO_noA {s : RD} {M : Mod} (hA : tkA s.bytesTo.bytesTo.num.toNat (s.bytesTo.bytesTo.take 8) [] = none) : tkO s M = none :=
  ite_none (bind_no hA)
theorem tkO_noE {s s3 : RD} {M : Mod} {a : AL} (hA : tkA s.bytesTo.bytesTo.num.toNat (s.bytesTo.bytesTo.take 8) [] = some (a, s3)) (hE : tkE s3.num.toNat (s3.take 8) M.fl [] = none) : tkO s M = none :=
  ite_none (bind_yes hA (bind_no hE))
theorem tkO_noL {s s3 s4 : RD} {M : Mod} {a : AL} {e : List (Nat × Nat)} {fl : List Bool} (hA : tkA s.bytesTo.bytesTo.num.toNat (s.bytesTo.bytesTo.take 8) [] = some (a, s3)) (hE : tkE s3.num.toNat (s3.take 8) M.fl [] = some (e, fl, s4)) (hl : lens e ≠ needsB s.bytesTo.bytes) : tkO s M = none :=
  ite_none (bind_yes hA (bind_yes hE (if_neg hl)))
theorem tkN_some {k : Nat} {s s' : RD} {M M' : Mod} (h : tkO s M = some (M', s')) : tkN (k + 1) s M = tkN k s' M' := by
  rw [tkN, h]
theorem tkN_none {k : Nat} {s : RD} {M : Mod} (h : tkO s M = none) : tkN (k + 1) s M = none := by
  rw [tkN, h]
theorem freeB_iff {fl : List Bool} {x y : Int} : freeB fl x y = true ↔ ∃ a b : Nat, x = a ∧ y = b ∧ 1 ≤ b ∧ AllR fl a b true := by
  unfold freeB
  simp only [Bool.and_eq_true, decide_eq_true_eq, List.all_eq_true, id]
  constructor
  · rintro ⟨⟨⟨h1, h2⟩, h3⟩, h4⟩
    exact ⟨x.toNat, y.toNat, by omega, by omega, by omega, (allR_iff h3 true).1 h4⟩
  · rintro ⟨a, b, rfl, rfl, h1, h2⟩
    refine ⟨⟨⟨by omega, by omega⟩, by simpa using h2.1⟩, ?_⟩
    simpa using (allR_iff h2.1 true).2 h2
/-! ### what is used up -/
theorem RD.got_used {s : RD} {n : Int} (h : 1 ≤ (s.got n).length) : s.bad = false ∧ (s.take n).bs.length + (s.got n).length = s.bs.length := by
  unfold RD.got RD.take at *
  split at h
  · rename_i hf
    simp only [hf, if_true, List.length_drop, List.length_take]
    simp only [RD.fits, Bool.and_eq_true, Bool.not_eq_true', decide_eq_true_eq] at hf
    refine ⟨hf.1.1, ?_⟩
    omega
  · simp at h
theorem RD.take_ok {s : RD} {n : Int} (h : (s.take n).bad = false) : s.fits n = true := by
  unfold RD.take at h
  split at h
  · assumption
  · simp [RD.spoilt] at h
theorem RD.take8_used {s : RD} (h : (s.take 8).bad = false) : (s.take 8).bs.length + 8 = s.bs.length := by
  have hf := RD.take_ok h
  unfold RD.take
  simp only [hf, if_true, List.length_drop]
  simp only [RD.fits, Bool.and_eq_true, Bool.not_eq_true', decide_eq_true_eq] at hf
  omega
theorem RD.bytes_used {s : RD} (h : 1 ≤ s.bytes.length) : s.bytesTo.bs.length + 9 ≤ s.bs.length := by
  obtain ⟨h1, h2⟩ := RD.got_used h
  have h3 := RD.take8_used h1
  unfold RD.bytesTo
  unfold RD.bytes at h
  omega
theorem RD.num_used {s : RD} (h : s.num ≠ 0) : (s.take 8).bs.length + 8 = s.bs.length := by
  have h1 : 1 ≤ (s.got 8).length := by
    apply Classical.byContradiction
    intro hn
    apply h
    have : s.got 8 = [] := List.eq_nil_of_length_eq_zero (by omega)
    unfold RD.num
    rw [this]
    unfold numOf un wrap64
    omega
  have := RD.got_used h1
  rcases got_len s 8 with h2 | h2
  · have h3 : (s.got ((8 : Nat) : Int)) = s.got 8 := rfl
    rw [h3] at h2
    omega
  · have h3 : (s.got ((8 : Nat) : Int)) = s.got 8 := rfl
    rw [h3] at h2
    omega
theorem RD.bytesTo_le (s : RD) : s.bytesTo.bs.length ≤ s.bs.length := Nat.le_trans (RD.take_le _ _) (RD.take_le _ _)
theorem name_pos {bs : List Nat} (h : isNameB bs = true) : 1 ≤ bs.length ∧ bs.length ≤ 32 := by
  simp only [isNameB, Bool.and_eq_true, decide_eq_true_eq] at h
  exact h.1
end Go.Proofs.YtfbpfgbmlbkffaaGreat
