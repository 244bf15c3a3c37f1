/-
  Spaces: how long a row of free blocks is from one on. Conditions: a space's row reads as it is said to; it is no longer than its room.
-/
import Derived.Test.YtliockcbnmbhnaaSa
namespace Go.Proofs.Ytliockcbnmbhnaa
open Go.RowKit Go.BigFrame
set_option linter.unusedSimpArgs false
set_option linter.unusedVariables false
theorem run_cut_flags (A : Option Addr) (m c k : Nat) (hk : k ≤ m) (w : World) : (Instr.slice 33 (.slice A m c) (some (.int .i64 k)) none none).run Try.prog w = .ok (.slice (if c = k then A else A.map (·.add (k * 1))) (m - k) (c - k)) w := by
  have hsz : ∀ w, (sizeOf (Try.prog.elem 33)).run Try.prog w = .ok 1 w := fun w => by kernel_rfl
  rw [run_slice_l w 33 A m c (by kernel_rfl) .i64 k (by omega) (by omega), hsz]
  simp only [Result.andThen, sliced, Int.toNat_natCast]
/-- how many are free from the first on -/
def runOf (l : List Bool) : Nat := (l.takeWhile id).length
theorem run_all : ∀ {l : List Bool}, (∀ j, j < l.length → l[j]? = some true) → runOf l = l.length
  | [], _ => rfl
  | b :: l, h => by
    have h0 := h 0 (by simp)
    simp at h0
    subst h0
    have := run_all (l := l) (fun j hj => by simpa using h (j + 1) (by simpa using hj))
    simp [runOf] at this ⊢
    exact this
theorem run_at : ∀ {l : List Bool} {k : Nat}, l[k]? = some false → (∀ j, j < k → l[j]? = some true) → runOf l = k
  | [], k, h, _ => by simp at h
  | b :: l, 0, h, _ => by
    simp at h
    subst h
    simp [runOf]
  | b :: l, k + 1, h, h' => by
    have h0 := h' 0 (by omega)
    simp at h0
    subst h0
    have := run_at (l := l) (k := k) (by simpa using h) (fun j hj => by simpa using h' (j + 1) (by omega))
    simp [runOf] at this ⊢
    exact this
theorem run_le (l : List Bool) : runOf l ≤ l.length := by
  induction l with
  | nil => simp [runOf]
  | cons b l ih => cases b <;> simp [runOf] at ih ⊢ <;> omega
set_option maxHeartbeats 300000 in
theorem freeFrom_any {w : World} {g : Nat} {A : Option Addr} {c : Nat} {left : Int} (fl : List Bool) (k : Nat) (hk : k ≤ fl.length) (hc : fl.length ≤ c) (hl : fl.length ≤ 1000000000) (h : Blk w g 62 #[.slice A fl.length c, .int .i64 left]) {B : Nat} (hR : Reads w B 1 A fl.length (flagsS fl)) :
    Calls Try.prog 42 #[.pointer (some ⟨g, 0, none⟩), .int .i64 k] w fun e w' => e = .returned (.int .i64 (runOf (fl.drop k) : Nat)) ∧ w = w' := by
  have q0 : w.cell? ⟨g, 0, none⟩ = some (.slice A fl.length c) := h.cell 0
  have hcut := hR.cut hk hc
  have hd : (fl.drop k).length = fl.length - k := List.length_drop
  rw [show (flagsS fl).drop (k * 1) = flagsS (fl.drop k) from by rw [Nat.mul_one, flagsS, flagsS, List.map_drop], ← hd] at hcut
  have hsl := run_cut_flags A fl.length c k hk
  generalize hAc : (if c = k then A else A.map (·.add (k * 1))) = Ac at *
  generalize fl.drop k = l at *
  have hi := fun w' (e : w' = w) => index_any Ac (c - k) B l false w' (e ▸ hcut) (by omega)
  simp only [hd] at hi
  have HI := Lib.hid hi
  have HL := Lib.hid (slen_any h)
  have HD := Lib.hid hd
  clear hcut h hR hAc hi hd
  have hk' : ((fl.length : Int) - (k : Int)) = ((fl.length - k : Nat) : Int) := by omega
  go_enter Try.func42, Try.ntmps42
  go_wp2_with fail
  refine (HI.out _ rfl).mono ?_
  rintro e w' ⟨r, rfl, rfl, hf⟩
  rcases hf with ⟨rfl, hall⟩ | ⟨j, rfl, h1, h2, h3⟩
  · have HR := Lib.hid (run_all hall)
    clear hall
    go_wp2_with fail
    refine HL.out.mono ?_
    rintro e w' ⟨rfl, rfl⟩
    go_wp2
    go_ret
    rw [HR.out, HD.out]
    exact ⟨by go_num, rfl⟩
  · have HR := Lib.hid (run_at h2 h3)
    have hd0 : decide ((j : Int) < 0) = false := decide_eq_false (by omega)
    clear h2 h3
    go_wp2
    go_ret
    rw [HR.out]
    exact ⟨rfl, rfl⟩
end Go.Proofs.Ytliockcbnmbhnaa
