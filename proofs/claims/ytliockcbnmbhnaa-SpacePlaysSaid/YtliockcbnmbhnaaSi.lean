/-
  A heap of holes: which of two comes first. Conditions: the row of holes reads as it is said to.
-/
import Derived.Test.YtliockcbnmbhnaaSh
import Derived.StillTailTactics
namespace Go.Proofs.Ytliockcbnmbhnaa
open Go.RowKit Go.BigFrame
set_option linter.unusedSimpArgs false
set_option linter.unusedVariables false
/-- the holes of a row in block r -/
def ERow (w : World) (r : Nat) (xs : List (Nat × Nat)) : Prop := ∃ cs : Array Value, Blk w r 45 cs ∧ ∀ (k : Nat) (e : Nat × Nat), xs[k]? = some e → cs[k * 2]? = some (.int .i64 (e.1 : Int)) ∧ cs[k * 2 + 1]? = some (.int .i64 (e.2 : Int))
section
variable {w w' : World} {r : Nat} {xs : List (Nat × Nat)}
theorem ERow.get (h : ERow w r xs) {k : Nat} {e : Nat × Nat} (hk : xs[k]? = some e) : w.cell? ⟨r, k * 2, none⟩ = some (.int .i64 (e.1 : Int)) ∧ w.cell? ⟨r, k * 2 + 1, none⟩ = some (.int .i64 (e.2 : Int)) ∧ w.frozen? ⟨r, k * 2, none⟩ = false ∧ w.frozen? ⟨r, k * 2 + 1, none⟩ = false := by
  obtain ⟨cs, hb, hc⟩ := h
  obtain ⟨h1, h2⟩ := hc k e hk
  exact ⟨(hb.cell _).trans h1, (hb.cell _).trans h2, hb.frozen _, hb.frozen _⟩
theorem ERow.of (h : ERow w r xs) (e : w'.heap[r]? = w.heap[r]?) : ERow w' r xs := ⟨h.choose, h.choose_spec.1.of e, h.choose_spec.2⟩
theorem ERow.lt (h : ERow w r xs) : r < w.heap.size := h.choose_spec.1.lt
end
/-- does e come first? -/
def lgB (e q : Nat × Nat) : Bool := decide (orI (cmpI (q.2 : Int) (e.2 : Int)) (cmpI (e.1 : Int) (q.1 : Int)) < 0)
theorem lgB_iff (e q : Nat × Nat) : lgB e q = true ↔ Longer e q := by
  simp only [lgB, decide_eq_true_eq, orI, cmpI, Longer]
  by_cases h1 : (q.2 : Int) < (e.2 : Int)
  · simp only [h1, if_true]; simp; omega
  · by_cases h2 : (e.2 : Int) < (q.2 : Int)
    · simp only [h1, h2, if_true, if_false]; simp; omega
    · simp only [h1, h2, if_false, if_true]
      by_cases h3 : (e.1 : Int) < (q.1 : Int)
      · simp only [h3, if_true]; simp; omega
      · by_cases h4 : (q.1 : Int) < (e.1 : Int)
        · simp only [h3, h4, if_true, if_false]; simp; omega
        · simp only [h3, h4, if_false]; simp; omega
set_option maxRecDepth 100000 in
set_option maxHeartbeats 2000000 in
theorem less_any {w : World} {r n c i j : Nat} {xs : List (Nat × Nat)} (h : ERow w r xs) (e q : Nat × Nat) (hi : xs[i]? = some e) (hj : xs[j]? = some q) (hin : i < n) (hjn : j < n) (hn : n ≤ 1000000) :
    Calls Try.prog 77 #[.slice (some ⟨r, 0, none⟩) n c, .int .i64 i, .int .i64 j] w fun e' w' => e' = .returned (.bool (lgB e q)) ∧ Below w.heap.size w w' := by
  obtain ⟨a0, a1, -, -⟩ := h.get hi
  obtain ⟨b0, b1, -, -⟩ := h.get hj
  clear h hi hj
  go_enter Try.func77, Try.ntmps77
  go_wp2_with fail
  refine wp_region_still_tail 22 (by kernel_rfl) (by kernel_rfl) ?_
  simp only [List.take_succ_cons, List.take_zero, List.drop_succ_cons, List.drop_zero]
  repeat still_step
  still_call (cmp_any _ _ _)
  repeat still_step
  still_call (cmp_any _ _ _)
  repeat still_step
  refine wpStill_nil ?_
  change wpList _ _ _ _ _ w.drew
  have hb : Below w.heap.size w w.drew := (Below.refl _ _).drew
  have HL : Hid (lgB e q = decide (orI (cmpI (q.2 : Int) (e.2 : Int)) (cmpI (e.1 : Int) (q.1 : Int)) < 0)) := Lib.hid rfl
  generalize cmpI (q.2 : Int) (e.2 : Int) = ca at *
  generalize cmpI (e.1 : Int) (q.1 : Int) = cb at *
  generalize w.drew = w2 at *
  clear a0 a1 b0 b1
  have HO := Lib.hid (or_any ca cb w2.heap.size (w2.alloc (.cells #[.int .i64 ca, .int .i64 cb] 3)) ((Blk.new w2 3 #[.int .i64 ca, .int .i64 cb]).cell 0) ((Blk.new w2 3 #[.int .i64 ca, .int .i64 cb]).cell 1))
  have HB := Lib.hid (hb.alloc hb.size (.cells #[.int .i64 ca, .int .i64 cb] 3))
  clear hb
  go_wp2_with fail
  refine HO.out.mono ?_
  rintro e3 w3 ⟨rfl, rfl⟩
  go_wp2
  go_ret
  rw [HL.out]
  exact ⟨rfl, HB.out⟩
end Go.Proofs.Ytliockcbnmbhnaa
