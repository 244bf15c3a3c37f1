/-
  Spaces: a nil space; rows of numbers. Conditions: the extents' numbers are int's.
-/
import Derived.Test.YtliockcbnmbhnaaUf
namespace Go.Proofs.Ytliockcbnmbhnaa
open Go.RowKit Go.BigFrame
set_option linter.unusedSimpArgs false
set_option linter.unusedVariables false
def i64s (l : List Int) : List Value := l.map (.int .i64)
theorem i64s_length (l : List Int) : (i64s l).length = l.length := by simp [i64s]
def Ints (w : World) (B : Nat) (A : Option Addr) (l : List Int) : Prop := Reads w B 1 A l.length (i64s l)
theorem Ints.get {w : World} {B : Nat} {A : Option Addr} {l : List Int} (h : Ints w B A l) {k : Nat} (hk : k < l.length) : ∃ ad x, A = some ad ∧ ad.block < B ∧ l[k]? = some x ∧ w.cell? (ad.add k) = some (.int .i64 x) := by
  obtain ⟨ad, u, e, hb, hu, hc⟩ := Reads.at_ h hk
  have h1 := List.getElem?_eq_getElem hk
  have h2 : (i64s l)[k]? = some (.int .i64 l[k]) := by simp [i64s, h1]
  rw [h2] at hu
  injection hu with hu
  subst hu
  exact ⟨ad, _, e, hb, h1, hc⟩
theorem take_nil1 (w : World) : Calls Try.prog 15 #[.pointer none, .int .i64 1] w fun e w' => e = .returned (.tuple #[.slice none 0 0, errV 4]) ∧ w = w' := by
  simp only [errV]
  go_enter Try.func15, Try.ntmps15
  go_wp2_with fail
  refine (sfree_nil w).mono ?_
  rintro e w' ⟨rfl, rfl⟩
  go_wp2
  go_ret2
  exact ⟨rfl, rfl⟩
theorem set_nil (w : World) (b : Bool) (A : Option Addr) (c : Nat) : Calls Try.prog 29 #[.pointer none, .slice A 0 c, .bool b] w fun e w' => e = .returned (.tuple #[]) ∧ w = w' := by
  go_enter Try.func29, Try.ntmps29
  go_wp2
  go_loopw [11] (fun i wr => i = .int .i64 0 ∧ wr = w) (fun i _ => 0)
  case atStart => exact ⟨rfl, by trivial⟩
  case round =>
    obtain ⟨rfl, rfl⟩ := hrel
    go_wp2
    refine bodyPost_end (results_none rfl _ _ _) rfl ?_
    exact ⟨rfl, rfl⟩
theorem take_nil0 (w : World) : Calls Try.prog 15 #[.pointer none, .int .i64 0] w fun e w' => e = .returned (.tuple #[.slice none 0 0, .nilIface]) ∧ Below w.heap.size w w' := by
  go_enter Try.func15, Try.ntmps15
  go_wp2_with fail
  refine (sfree_nil w).mono ?_
  rintro e w' ⟨rfl, rfl⟩
  go_wp2_with fail
  refine (sholes_nil w).mono ?_
  rintro e w1 ⟨v1, rfl, -, hb1⟩
  have HB1 := Lib.hid hb1
  clear hb1
  go_wp2_with fail
  refine (choose_zero v1 w1).mono ?_
  rintro e w2 ⟨rfl, hb2⟩
  have HB2 := Lib.hid (HB1.out.trans (hb2.mono HB1.out.size))
  clear hb2
  go_wp2_with fail
  refine (set_nil w2 false none 0).mono ?_
  rintro e w' ⟨rfl, rfl⟩
  go_wp2
  go_ret2
  exact ⟨rfl, HB2.out⟩
set_option maxHeartbeats 1000000 in
theorem all_nil (w : World) (x y : Int) (b : Bool) (hx1 : -9223372036854775808 ≤ x) (hx2 : x ≤ 9223372036854775807) (hy1 : -9223372036854775808 ≤ y) (hy2 : y ≤ 9223372036854775807) :
    Calls Try.prog 43 #[.pointer none, .agg #[.int .i64 x, .int .i64 y], .bool b] w fun e w' => e = .returned (.bool false) ∧ Below w.heap.size w w' := by
  by_cases h1 : y < 1
  · have hd1 : decide (y < 1) = true := decide_eq_true h1
    go_enter Try.func43, Try.ntmps43
    go_wp2
    go_quiet (fail)
    go_wp2
    go_ret
    exact ⟨rfl, drawn_below ((Below.refl _ _).alloc (Nat.le_refl _) _) _⟩
  · have hd1 : decide (y < 1) = false := decide_eq_false h1
    by_cases h2 : x < 0
    · have hd2 : decide (x < 0) = true := decide_eq_true h2
      go_enter Try.func43, Try.ntmps43
      go_wp2
      go_quiet (fail)
      go_wp2
      go_ret
      exact ⟨rfl, drawn_below ((Below.refl _ _).alloc (Nat.le_refl _) _) _⟩
    · have hd2 : decide (x < 0) = false := decide_eq_false h2
      have hd3 : decide (-y < x) = true := decide_eq_true (by omega)
      have hd4 : decide ((0 : Int) - y < x) = true := decide_eq_true (by omega)
      have hy3 : 1 ≤ y := by omega
      have hx3 : 0 ≤ x := by omega
      have hwr : IntKind.i64.wrap ((0 : Int) - y) = (0 : Int) - y := by rw [IntKind.wrap_i64]; omega
      have hwr2 : IntKind.i64.wrap (-y) = -y := by rw [IntKind.wrap_i64]; omega
      go_enter Try.func43, Try.ntmps43
      go_wp2_with fail
      go_quiet ((go_at_call 12; exact Calls.quiet_of_same ((slen_nil _).mono fun e w' h => ⟨h.1, h.2.symm⟩)))
      go_wp2
      go_ret
      exact ⟨rfl, drawn_below ((Below.refl _ _).alloc (Nat.le_refl _) _) _⟩
/-- what Give and Claim of a nil space come to -/
def NilTurn (w : World) (es : List (Int × Int)) (e : Ending) (w' : World) : Prop := e = .returned (errV (if es = [] then 0 else 1)) ∧ Below w.heap.size w w'
set_option maxHeartbeats 1000000 in
theorem turn_nil {w : World} {B : Nat} (es : List (Int × Int)) (b : Bool) (hI : ∀ e ∈ es, InI e) (E : Option Addr) (c' : Nat) (hc' : es.length ≤ c') (hR : ExtR w B E es) (hB : B ≤ w.heap.size) (hle : es.length ≤ 65536) :
    Calls Try.prog 33 #[.pointer none, .slice E es.length c', .bool b] w (NilTurn w es) := by
  have HR := Lib.hid hR
  have HI := Lib.hid hI
  clear hR hI
  go_enter Try.func33, Try.ntmps33
  go_wp2
  go_loopw [11] (fun i wr => i = .int .i64 0 ∧ wr = w) (fun i _ => 0)
  case atStart => exact ⟨rfl, by trivial⟩
  case round =>
    obtain ⟨rfl, rfl⟩ := hrel
    by_cases hlt : 0 < es.length
    · obtain ⟨ad, e, rfl, hab, he, a0, a1⟩ := HR.out.get hlt
      have hie : InI e := HI.out e (List.mem_of_getElem? he)
      have a0' : wr.cell? ad = some (.int .i64 e.1) := by simpa [Addr.add] using a0
      have a1' : wr.cell? (ad.add 1) = some (.int .i64 e.2) := by simpa [Addr.add] using a1
      have HA := Lib.hid (all_nil (wr.alloc (.cells #[.int .i64 e.1, .int .i64 e.2] 45)) e.1 e.2 (!b) hie.1.1 hie.1.2 hie.2.1 hie.2.2)
      have hne : es ≠ [] := fun h => by rw [h] at hlt; simp at hlt
      have hd : decide ((0 : Int) < (es.length : Int)) = true := decide_eq_true (by omega)
      have hsl := run_head_ext (some ad) es.length c' 0 (by omega)
      have HNE := Lib.hid hne
      clear he a0 a1 hie hne
      have hpos : (0 : Int) < (es.length : Int) := by omega
      go_wp2_with (have _h := a0'; refine wpList_load_ext rfl (.tmp 14) rfl _ rfl e a0' a1' ?_; clear _h a0' a1')
      refine HA.out.mono ?_
      rintro e3 w3 ⟨rfl, hb3⟩
      have HB3 := Lib.hid (((Below.refl wr.heap.size wr).alloc (Nat.le_refl _) _).trans (hb3.mono (by simp)))
      clear hb3 HA
      go_wp2_with fail
      refine (set_nil w3 (!b) _ c').mono ?_
      rintro e w' ⟨rfl, rfl⟩
      go_wp2
      go_ret
      exact ⟨by rw [if_neg HNE.out]; rfl, HB3.out⟩
    · obtain rfl : es = [] := List.eq_nil_of_length_eq_zero (by omega)
      go_wp2
      go_ret
      exact ⟨rfl, Below.refl _ _⟩
theorem give_nil {w : World} {B : Nat} (es : List (Int × Int)) (hI : ∀ e ∈ es, InI e) (E : Option Addr) (c' : Nat) (hc' : es.length ≤ c') (hR : ExtR w B E es) (hB : B ≤ w.heap.size) (hle : es.length ≤ 65536) :
    Calls Try.prog 18 #[.pointer none, .slice E es.length c'] w (NilTurn w es) := by
  have H := Lib.hid (turn_nil es true hI E c' hc' hR hB hle)
  clear hI hR
  go_enter Try.func18, Try.ntmps18
  go_wp2_with fail
  refine H.out.mono ?_
  rintro e w' ⟨rfl, hb⟩
  have HB := Lib.hid hb
  clear hb
  obtain ⟨vv, hvv⟩ : ∃ vv, vv = errV (if es = [] then 0 else 1) := ⟨_, rfl⟩
  rw [← hvv]
  have HV := Lib.hid hvv
  clear hvv
  go_wp2
  go_ret
  exact ⟨congrArg Ending.returned HV.out, HB.out⟩
theorem claim_nil {w : World} {B : Nat} (es : List (Int × Int)) (hI : ∀ e ∈ es, InI e) (E : Option Addr) (c' : Nat) (hc' : es.length ≤ c') (hR : ExtR w B E es) (hB : B ≤ w.heap.size) (hle : es.length ≤ 65536) :
    Calls Try.prog 20 #[.pointer none, .slice E es.length c'] w (NilTurn w es) := by
  have H := Lib.hid (turn_nil es false hI E c' hc' hR hB hle)
  clear hI hR
  go_enter Try.func20, Try.ntmps20
  go_wp2_with fail
  refine H.out.mono ?_
  rintro e w' ⟨rfl, hb⟩
  have HB := Lib.hid hb
  clear hb
  obtain ⟨vv, hvv⟩ : ∃ vv, vv = errV (if es = [] then 0 else 1) := ⟨_, rfl⟩
  rw [← hvv]
  have HV := Lib.hid hvv
  clear hvv
  go_wp2
  go_ret
  exact ⟨congrArg Ending.returned HV.out, HB.out⟩
theorem holes_nil {w : World} : Calls Try.prog 24 #[.pointer none] w fun e w' => ∃ v, e = .returned v ∧ OwnE w' w.heap.size v (natE []) ∧ Below w.heap.size w w' :=
  lholes_any (fun w2 _ => holes_from (sholes_nil w2)) (by simp)
end Go.Proofs.Ytliockcbnmbhnaa
