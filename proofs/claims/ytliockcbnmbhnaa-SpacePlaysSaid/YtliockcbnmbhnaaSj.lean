/-
  A heap of holes: two of them change places; how many there are; the last one goes. Conditions: the row of holes reads as it is said to.
-/
import Derived.Test.YtliockcbnmbhnaaSi
namespace Go.Proofs.Ytliockcbnmbhnaa
open Go.RowKit Go.BigFrame
set_option linter.unusedSimpArgs false
set_option linter.unusedVariables false
/-- two change places -/
def swapL (xs : List (Nat × Nat)) (i j : Nat) : List (Nat × Nat) := (xs.set i (xs.getD j (0, 0))).set j (xs.getD i (0, 0))
theorem ERow.sets {w : World} {r : Nat} {xs : List (Nat × Nat)} (h : ERow w r xs) {i : Nat} (hi : i < xs.length) (e : Nat × Nat) : ERow ((w.setCell ⟨r, i * 2, none⟩ (.int .i64 (e.1 : Int))).setCell ⟨r, i * 2 + 1, none⟩ (.int .i64 (e.2 : Int))) r (xs.set i e) := by
  obtain ⟨cs, hb, hc⟩ := h
  refine ⟨_, (hb.set_ (i * 2) _).set_ (i * 2 + 1) _, fun k q hk => ?_⟩
  have h0 := hc i _ (List.getElem?_eq_getElem hi)
  have l0 := (Array.getElem?_eq_some_iff.1 h0.1).1
  have l1 := (Array.getElem?_eq_some_iff.1 h0.2).1
  rw [List.getElem?_set] at hk
  simp only [Array.getElem?_setIfInBounds, Array.size_setIfInBounds]
  by_cases he : i = k
  · subst he
    rw [if_pos rfl, if_pos hi] at hk
    injection hk with hk
    subst hk
    constructor
    · rw [if_neg (by omega), if_pos rfl, if_pos l0]
    · rw [if_pos rfl, if_pos l1]
  · rw [if_neg he] at hk
    have := hc k q hk
    constructor
    · rw [if_neg (by omega), if_neg (by omega)]; exact this.1
    · rw [if_neg (by omega), if_neg (by omega)]; exact this.2
set_option maxRecDepth 100000 in
set_option maxHeartbeats 2000000 in
theorem swap_any {w : World} {r n c i j : Nat} {xs : List (Nat × Nat)} (h : ERow w r xs) (hij : i ≠ j) (hi : i < xs.length) (hj : j < xs.length) (hn : xs.length ≤ n) (hn2 : n ≤ 1000000) :
    Calls Try.prog 78 #[.slice (some ⟨r, 0, none⟩) n c, .int .i64 i, .int .i64 j] w fun e' w' => e' = .returned (.tuple #[]) ∧ ERow w' r (swapL xs i j) ∧ Only [r] w w' ∧ w'.heap.size = w.heap.size := by
  obtain ⟨e, he⟩ : ∃ e, xs[i]? = some e := ⟨_, List.getElem?_eq_getElem hi⟩
  obtain ⟨q, hq⟩ : ∃ q, xs[j]? = some q := ⟨_, List.getElem?_eq_getElem hj⟩
  obtain ⟨a0, a1, a2, a3⟩ := h.get he
  obtain ⟨b0, b1, b2, b3⟩ := h.get hq
  have H := Lib.hid h
  have HS : Hid (swapL xs i j = (xs.set i q).set j e) := Lib.hid (by simp only [swapL, List.getD_eq_getElem?_getD, he, hq, Option.getD_some])
  clear h he hq
  go_enter Try.func78, Try.ntmps78
  go_wp2
  go_region
  all_goals go_wp2
  all_goals
    refine bodyPost_end (results_none rfl _ _ _) rfl ?_
    rw [HS.out]
    refine ⟨rfl, ?_, ?_, ?_⟩
    · have h1 := H.out.sets hi q
      exact (h1.sets (i := j) (by simpa using hj) e).of rfl
    · exact (((((Only.refl [r] w).setCell (.inl (by simp)) _).setCell (.inl (by simp)) _).setCell (.inl (by simp)) _).setCell (.inl (by simp)) _).drew
    · simp [World.setCell]
set_option maxRecDepth 100000 in
set_option maxHeartbeats 2000000 in
theorem swap_same {w : World} {r n c i : Nat} {xs : List (Nat × Nat)} (h : ERow w r xs) (hi : i < xs.length) (hn : xs.length ≤ n) (hn2 : n ≤ 1000000) :
    Calls Try.prog 78 #[.slice (some ⟨r, 0, none⟩) n c, .int .i64 i, .int .i64 i] w fun e' w' => e' = .returned (.tuple #[]) ∧ ERow w' r xs ∧ Only [r] w w' ∧ w'.heap.size = w.heap.size := by
  obtain ⟨e, he⟩ : ∃ e, xs[i]? = some e := ⟨_, List.getElem?_eq_getElem hi⟩
  obtain ⟨a0, a1, a2, a3⟩ := h.get he
  have H := Lib.hid h
  have HS : Hid (xs = (xs.set i e).set i e) := Lib.hid (by
    rw [List.set_set]
    apply List.ext_getElem?
    intro k
    rw [List.getElem?_set]
    by_cases hk : i = k
    · subst hk; rw [if_pos rfl, if_pos hi, he]
    · rw [if_neg hk])
  clear h he
  go_enter Try.func78, Try.ntmps78
  go_wp2
  go_region
  all_goals go_wp2
  all_goals
    refine bodyPost_end (results_none rfl _ _ _) rfl ?_
    refine ⟨rfl, ?_, ?_, ?_⟩
    · have h1 := H.out.sets hi e
      have h2 := (h1.sets (i := i) (by simpa using hi) e)
      rw [← HS.out] at h2
      exact h2.of rfl
    · exact (((((Only.refl [r] w).setCell (.inl (by simp)) _).setCell (.inl (by simp)) _).setCell (.inl (by simp)) _).setCell (.inl (by simp)) _).drew
    · simp [World.setCell]
/-- a heap of holes: its variable, its row -/
structure HAt (w : World) (hb r c : Nat) (xs : List (Nat × Nat)) : Prop where
  box : Blk w hb 79 #[.slice (some ⟨r, 0, none⟩) xs.length c]
  row : ERow w r xs
  cap : xs.length ≤ c
  lim : xs.length ≤ 65536
theorem HAt.ne {w : World} {hb r c : Nat} {xs : List (Nat × Nat)} (h : HAt w hb r c xs) : hb ≠ r := h.box.ne_ h.row.choose_spec.1 (by decide)
theorem ERow.take {w : World} {r : Nat} {xs : List (Nat × Nat)} (h : ERow w r xs) (k : Nat) : ERow w r (xs.take k) :=
  ⟨h.choose, h.choose_spec.1, fun j e hj => h.choose_spec.2 j e (by
    rw [List.getElem?_take] at hj
    split at hj
    · exact hj
    · cases hj)⟩
theorem hlen_any (n c : Nat) (A : Option Addr) (w : World) : Calls Try.prog 76 #[.slice A n c] w fun e w' => e = .returned (.int .i64 n) ∧ w' = w := by
  go_enter Try.func76, Try.ntmps76
  go_wp2
  go_ret
  exact ⟨rfl, rfl⟩
theorem run_head_long (A : Option Addr) (n c i : Nat) (h : i ≤ c) (w : World) : (Instr.slice 79 (.slice A n c) none (some (.int .i64 (i : Int))) none).run Try.prog w = .ok (.slice (if c = 0 then A else A.map (·.add 0)) i c) w := by
  have hsz : ∀ w, (sizeOf (Try.prog.elem 79)).run Try.prog w = .ok 2 w := fun w => by kernel_rfl
  rw [run_slice_h w 79 A n c (by kernel_rfl) .i64 (i : Int) (by omega) (by omega), hsz]
  simp [Result.andThen, sliced]
set_option maxRecDepth 100000 in
set_option maxHeartbeats 2000000 in
theorem hpop_any {w : World} {hb r c : Nat} {xs : List (Nat × Nat)} {e : Nat × Nat} (h : HAt w hb r c (xs ++ [e])) :
    Calls Try.prog 79 #[.pointer (some ⟨hb, 0, none⟩)] w fun e' w' => e' = .returned (.iface 45 (.agg #[.int .i64 (e.1 : Int), .int .i64 (e.2 : Int)])) ∧ HAt w' hb r c xs ∧ Only [hb] w w' := by
  have H := Lib.hid h
  have hc := h.cap
  have hlim := h.lim
  have hne := h.ne
  have q0 : w.cell? ⟨hb, 0, none⟩ = some (.slice (some ⟨r, 0, none⟩) (xs.length + 1) c) := by have := h.box.cell 0; simpa using this
  have q1 : w.frozen? ⟨hb, 0, none⟩ = false := h.box.frozen 0
  have q2 : ∀ o, (w.alloc o).cell? ⟨hb, 0, none⟩ = some (.slice (some ⟨r, 0, none⟩) (xs.length + 1) c) := fun o => (World.cell?_alloc_lt w o _ h.box.lt).trans q0
  have q3 : ∀ o, (w.alloc o).frozen? ⟨hb, 0, none⟩ = false := fun o => (h.box.alloc o).frozen 0
  have hbl := h.box.lt
  obtain ⟨a0, a1, -, -⟩ := h.row.get (k := xs.length) (e := e) (by simp)
  have hsl := fun (w : World) => run_head_long (some ⟨r, 0, none⟩) (xs.length + 1) c xs.length (by simp at hc; omega) w
  have hadd : (if c = 0 then some (⟨r, 0, none⟩ : Addr) else Option.map (fun x => Addr.add x 0) (some ⟨r, 0, none⟩)) = some ⟨r, 0, none⟩ := by split <;> simp [Addr.add]
  rw [hadd] at hsl
  simp only [List.length_append, List.length_singleton] at hc hlim
  have hnw : hb ≠ w.heap.size := by omega
  clear h hadd
  go_enter Try.func79, Try.ntmps79
  go_wp2
  go_ret
  have h := H.out
  refine ⟨rfl, ⟨(h.box.set_ 0 _).alloc _, ?_, by omega, by omega⟩, ((Only.refl [hb] w).setCell (.inl (by simp)) _).alloc _⟩
  have h1 := (h.row.take xs.length)
  rw [List.take_left' rfl] at h1
  have h2 : ERow (w.setCell ⟨hb, 0, none⟩ (.slice (some ⟨r, 0, none⟩) xs.length c)) r xs := h1.of (Below.heap_setCell _ _ _ _ (by show r ≠ hb; exact fun e => hne e.symm))
  exact h2.of (Below.heap_alloc _ _ _ h2.lt)
end Go.Proofs.Ytliockcbnmbhnaa
