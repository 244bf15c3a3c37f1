/-
  What the law StoreBack wants besides: how much is told; a block more of a client. No condition; nothing of the program is named.
-/
import Derived.Test.YtfbpfgbmlbkffaaGreatZi
import Derived.Test.YtfbpfgbmlbkffaaGreatSkgC
namespace Go.Proofs.YtfbpfgbmlbkffaaGreat
open Go.RowKit Go.BigFrame
set_option linter.unusedSimpArgs false
set_option linter.unusedVariables false
set_option maxRecDepth 100000
theorem step_told {bl : List Bool} {W : Wk} {x : StepV} : (stepW bl W x).1.told.length ≤ W.told.length + 1 := by
  unfold stepW
  split
  · simp
  split
  · unfold becomeW
    split <;> simp
  split
  · unfold becomeW
    split <;> simp
  split
  · split
    · unfold insideW
      split
      · split <;> simp
      split
      · simp
      split
      · split <;> simp
      split
      · simp
      split
      · simp
      split
      · simp
      split
      · simp
      · simp
    · simp
  · simp
theorem run_told {bl : List Bool} : ∀ {xs : List StepV} {W : Wk}, (runW bl W xs).1.told.length ≤ W.told.length + xs.length
  | [], W => by simp [runW]
  | x :: xs, W => by
    have h1 := step_told (bl := bl) (W := W) (x := x)
    rw [runW_cons, List.length_cons]
    split
    · have h2 := run_told (bl := bl) (xs := xs) (W := (stepW bl W x).1)
      omega
    · omega
theorem do_told {M M' : Mod} {nm : List Nat} {xs : List StepV} {k : Nat} {told : List (List Nat)} (hd : DoR M nm xs M' k told) : told.length ≤ xs.length := by
  cases hd with
  | range => simp
  | step => simp
  | full => simp
  | done _ _ _ _ _ =>
    have h := run_told (bl := M.bl) (xs := xs) (W := startW M (keyB nm))
    have h0 : (startW M (keyB nm)).told = [] := by
      unfold startW
      split <;> rfl
    rw [h0] at h
    simpa using h
theorem InvN.block {M : Mod} (h : InvN M) (b : List Bool) : InvN {M with bl := b} := h
theorem RiseM.block {M : Mod} (h : RiseM M) (b : List Bool) : RiseM {M with bl := b} := h
theorem invN0 (n : Nat) : InvN (M0 n) := fun p hp => by cases hp
theorem riseM0 (n : Nat) : RiseM (M0 n) := ⟨List.Pairwise.nil, fun p hp => by cases hp⟩
theorem Sto.mono_ {n m : Nat} {w W : World} {gs ms gp r c : Nat} {A : Option Addr} {M : Mod} {kv : KV} (h : Sto n w W gs ms gp r c A M kv) (hm : n ≤ m) : Sto m w W gs ms gp r c A M kv := ⟨h.at_, h.bel, h.gsN, h.msN, h.gpN, h.rN, h.inv.mono hm⟩
theorem rows_told {w : World} {B B' ct ct' : Nat} {T T' : Option Addr} {told : List (List Nat)} (h : ToldR w B (.slice T told.length ct) told) (h' : ToldR w B' (.slice T' told.length ct') told) (hm : told.length ≤ 1000) :
    Calls Tryz.prog 19 #[.slice T told.length ct, .slice T' told.length ct'] w fun e w' => e = .returned (.bool true) ∧ Below w.heap.size w w' := by
  obtain ⟨T1, c0, tv, e, o1, o2⟩ := h
  injection e with e1 _ e3
  subst e1 e3
  obtain ⟨T2, c0', tv', e', o1', o2'⟩ := h'
  injection e' with e1 _ e3
  subst e1 e3
  exact rows_same (Reads.of_own o1) (Reads.of_own o1') o2 o2' hm
end Go.Proofs.YtfbpfgbmlbkffaaGreat
