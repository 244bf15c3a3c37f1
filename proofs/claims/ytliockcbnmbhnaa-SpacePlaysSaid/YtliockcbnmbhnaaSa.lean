/-
  Spaces: the numbers, and the search in a row of flags. Conditions: a row reads as it is said to; it is no longer than a space may be.
-/
import Derived.Test.YtliockcbnmbhnaaLe
import Derived.Test.YtliockcbnmbhnaaErr
import Derived.Test.YtliockcbnmbhnaaRegL
namespace Go.Proofs.Ytliockcbnmbhnaa
open Go.RowKit Go.BigFrame
set_option linter.unusedSimpArgs false
set_option linter.unusedVariables false
def intS : Value → Int
  | .int _ i => i
  | _ => 0
/-- a row of flags, as cells -/
def flagsS (l : List Bool) : List Value := l.map Value.bool
/-- the first one like b -/
def FirstAt (l : List Bool) (b : Bool) (r : Int) : Prop := (r = -1 ∧ ∀ j, j < l.length → l[j]? = some (!b)) ∨ ∃ k : Nat, r = (k : Int) ∧ k < l.length ∧ l[k]? = some b ∧ ∀ j, j < k → l[j]? = some (!b)
section
variable {w : World} {g : Nat} {A : Option Addr} {n c : Nat} {left : Int}
theorem slen_any (h : Blk w g 62 #[.slice A n c, .int .i64 left]) : Calls Try.prog 12 #[.pointer (some ⟨g, 0, none⟩)] w fun e w' => e = .returned (.int .i64 (n : Int)) ∧ w = w' := by
  have q0 : w.cell? ⟨g, 0, none⟩ = some (.slice A n c) := h.cell 0
  clear h
  go_enter Try.func12, Try.ntmps12
  go_wp2
  go_ret
  exact ⟨rfl, rfl⟩
theorem sfree_any (h : Blk w g 62 #[.slice A n c, .int .i64 left]) : Calls Try.prog 13 #[.pointer (some ⟨g, 0, none⟩)] w fun e w' => e = .returned (.int .i64 left) ∧ w = w' := by
  have q1 : w.cell? ⟨g, 1, none⟩ = some (.int .i64 left) := h.cell 1
  clear h
  go_enter Try.func13, Try.ntmps13
  go_wp2
  go_ret
  exact ⟨rfl, rfl⟩
end
theorem slen_nil (w : World) : Calls Try.prog 12 #[.pointer none] w fun e w' => e = .returned (.int .i64 0) ∧ w = w' := by
  go_enter Try.func12, Try.ntmps12
  go_wp2
  go_ret
  exact ⟨rfl, rfl⟩
theorem sfree_nil (w : World) : Calls Try.prog 13 #[.pointer none] w fun e w' => e = .returned (.int .i64 0) ∧ w = w' := by
  go_enter Try.func13, Try.ntmps13
  go_wp2
  go_ret
  exact ⟨rfl, rfl⟩
set_option maxHeartbeats 1000000 in
theorem index_any (A : Option Addr) (c B : Nat) (l : List Bool) (b : Bool) (w : World) (hR : Reads w B 1 A l.length (flagsS l)) (hl : l.length ≤ 1000000000) :
    Calls Try.prog 54 #[.slice A l.length c, .bool b] w fun e w' => ∃ r : Int, e = .returned (.int .i64 r) ∧ w = w' ∧ FirstAt l b r := by
  have HR := Lib.hid hR
  clear hR
  go_enter Try.func54, Try.ntmps54
  go_wp2
  go_loopw [8] (fun i wr => ∃ k : Nat, k ≤ l.length ∧ i = .int .i64 k ∧ wr = w ∧ ∀ j, j < k → l[j]? = some (!b)) (fun i _ => l.length - (intS i).toNat)
  case atStart => exact ⟨0, by omega, rfl, rfl, fun j h => by omega⟩
  case round =>
    obtain ⟨k, hk, rfl, rfl, hall⟩ := hrel
    have HALL := Lib.hid hall
    clear hall
    by_cases hlt : k < l.length
    · obtain ⟨ad, u, rfl, -, hu, hc⟩ := HR.out.at_ hlt
      obtain ⟨x, hx, rfl⟩ : ∃ x, l[k]? = some x ∧ u = .bool x := by
        simp only [flagsS, List.getElem?_map, List.getElem?_eq_getElem hlt, Option.map_some, Option.some.injEq] at hu
        exact ⟨_, List.getElem?_eq_getElem hlt, hu.symm⟩
      have HX := Lib.hid hx
      clear hu hx
      by_cases hb : b = x
      · have hq : (b == x) = true := by simp [hb]
        go_wp2
        go_ret
        exact ⟨k, rfl, rfl, .inr ⟨k, rfl, hlt, by rw [HX.out, hb], HALL.out⟩⟩
      · have hq : (b == x) = false := by simpa using hb
        go_wp2
        go_roundw
        case rel =>
          refine ⟨k + 1, by omega, by go_num, by trivial, fun j hj => ?_⟩
          rcases Nat.lt_succ_iff_lt_or_eq.1 hj with h | rfl
          · exact HALL.out j h
          · rw [HX.out]; cases b <;> cases x <;> simp_all
        case measure => simp [intS]; omega
    · obtain rfl : k = l.length := by omega
      go_wp2
      go_ret
      exact ⟨-1, rfl, rfl, .inl ⟨rfl, HALL.out⟩⟩
set_option maxHeartbeats 1000000 in
theorem contains_any (A : Option Addr) (c B : Nat) (l : List Bool) (b : Bool) (w : World) (hR : Reads w B 1 A l.length (flagsS l)) (hl : l.length ≤ 1000000000) :
    Calls Try.prog 55 #[.slice A l.length c, .bool b] w fun e w' => ∃ r : Bool, e = .returned (.bool r) ∧ w = w' ∧ (r = true ↔ b ∈ l) := by
  have HR := Lib.hid hR
  clear hR
  go_enter Try.func55, Try.ntmps55
  go_wp2_with fail
  refine (index_any A c B l b w HR.out hl).mono ?_
  rintro e w' ⟨r, rfl, rfl, hf⟩
  rcases hf with ⟨rfl, hall⟩ | ⟨k, rfl, h1, h2, -⟩
  · have HALL := Lib.hid hall
    clear hall
    go_wp2
    go_ret
    refine ⟨false, rfl, rfl, by simp, fun hm => ?_⟩
    obtain ⟨j, hj, e⟩ := List.mem_iff_getElem.1 hm
    have := HALL.out j hj
    rw [List.getElem?_eq_getElem hj, e] at this
    cases b <;> simp at this
  · have H2 := Lib.hid h2
    clear h2
    have hd : decide ((0 : Int) ≤ (k : Int)) = true := decide_eq_true (by omega)
    go_wp2
    go_ret
    exact ⟨true, rfl, rfl, fun _ => List.mem_of_getElem? H2.out, fun _ => rfl⟩
end Go.Proofs.Ytliockcbnmbhnaa
