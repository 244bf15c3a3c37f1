/-
  The shortest hole that fits: what its functions' values answer. Conditions: the captured cells read as they are said to.
-/
import Derived.Test.YtliockcbnmbhnaaSv
namespace Go.Proofs.Ytliockcbnmbhnaa
open Go.RowKit Go.BigFrame
set_option linter.unusedSimpArgs false
set_option linter.unusedVariables false
def exV (e : Nat × Nat) : Value := .agg #[.int .i64 (e.1 : Int), .int .i64 (e.2 : Int)]
set_option maxRecDepth 100000 in
theorem fits_any {w : World} {p : Nat} (n : Nat) (e : Nat × Nat) (hp : w.cell? ⟨p, 0, none⟩ = some (.int .i64 (n : Int))) (hpl : p < w.heap.size) :
    Calls Try.prog 41 #[exV e, .pointer (some ⟨p, 0, none⟩)] w fun e' w' => e' = .returned (.bool (decide (n ≤ e.2))) ∧ Below w.heap.size w w' := by
  go_enter Try.func41, Try.ntmps41
  unfold exV
  go_wp2
  go_ret
  exact ⟨rfl, (Below.refl _ _).alloc (Nat.le_refl _) _⟩
def fitsV (p : Nat) : Value := .func (.func 41) #[] #[.pointer (some ⟨p, 0, none⟩)]
def notV (q : Nat) : Value := .func (.func 49) #[] #[.pointer (some ⟨q, 0, none⟩)]
/-- the captured cells: how many blocks, and which function -/
structure Cap (w : World) (p q n : Nat) : Prop where
  num : w.cell? ⟨p, 0, none⟩ = some (.int .i64 (n : Int))
  fn : w.cell? ⟨q, 0, none⟩ = some (fitsV p)
  pl : p < w.heap.size
  ql : q < w.heap.size
theorem Cap.of {w w' : World} {p q n : Nat} (h : Cap w p q n) (hs : w.heap.size ≤ w'.heap.size) (h1 : w'.heap[p]? = w.heap[p]?) (h2 : w'.heap[q]? = w.heap[q]?) : Cap w' p q n :=
  ⟨by rw [← h.num]; simp [World.cell?, h1], by rw [← h.fn]; simp [World.cell?, h2], Nat.lt_of_lt_of_le h.pl hs, Nat.lt_of_lt_of_le h.ql hs⟩
set_option maxRecDepth 100000 in
theorem notfit_any {w : World} {p q n : Nat} (e : Nat × Nat) (h : Cap w p q n) :
    Calls Try.prog 49 #[exV e, .pointer (some ⟨q, 0, none⟩)] w fun e' w' => e' = .returned (.bool (!decide (n ≤ e.2))) ∧ Below w.heap.size w w' := by
  have h1 := h.fn
  have hpl := h.pl
  have hql := h.ql
  have HF := Lib.hid (fits_any (w := w.alloc (.cells #[.int .i64 (e.1 : Int), .int .i64 (e.2 : Int)] 45)) n e ((World.cell?_alloc_lt w _ _ h.pl).trans h.num) (by rw [World.size_alloc]; omega))
  clear h
  unfold fitsV at h1
  go_enter Try.func49, Try.ntmps49
  unfold exV at HF ⊢
  go_wp2_with fail
  refine HF.out.mono ?_
  rintro e2 w2 ⟨rfl, hb2⟩
  have HB := Lib.hid (((Below.refl w.heap.size w).alloc (Nat.le_refl _) (.cells #[.int .i64 (e.1 : Int), .int .i64 (e.2 : Int)] 45)).trans (hb2.mono (by rw [World.size_alloc]; omega)))
  clear hb2 HF
  go_wp2
  go_ret
  exact ⟨rfl, HB.out⟩
/-- does e come first, where the shortest one is asked for? -/
def cmpE (e q : Nat × Nat) : Int := orI (cmpI (e.2 : Int) (q.2 : Int)) (cmpI (e.1 : Int) (q.1 : Int))
theorem cmpE_iff (e q : Nat × Nat) : cmpE e q < 0 ↔ Shorter e q := by
  simp only [cmpE, orI, cmpI, Shorter]
  by_cases h1 : (e.2 : Int) < (q.2 : Int)
  · simp only [h1, if_true]; simp; omega
  · by_cases h2 : (q.2 : Int) < (e.2 : Int)
    · simp only [h1, h2, if_true, if_false]; simp; omega
    · simp only [h1, h2, if_false, if_true]
      by_cases h3 : (e.1 : Int) < (q.1 : Int)
      · simp only [h3, if_true]; simp; omega
      · by_cases h4 : (q.1 : Int) < (e.1 : Int)
        · simp only [h3, h4, if_true, if_false]; simp; omega
        · simp only [h3, h4, if_false]; simp; omega
set_option maxRecDepth 100000 in
set_option maxHeartbeats 2000000 in
theorem cmpe_any (w : World) (e q : Nat × Nat) :
    Calls Try.prog 51 #[exV e, exV q] w fun e' w' => e' = .returned (.int .i64 (cmpE e q)) ∧ Below w.heap.size w w' := by
  go_enter Try.func51, Try.ntmps51
  unfold exV
  go_wp2_with fail
  have b0 : ∀ j u, #[Value.int .i64 (e.1 : Int), .int .i64 (e.2 : Int)][j]? = some u → ((w.alloc (.cells #[.int .i64 (e.1 : Int), .int .i64 (e.2 : Int)] 45)).alloc (.cells #[.int .i64 (q.1 : Int), .int .i64 (q.2 : Int)] 45)).cell? ⟨w.heap.size, j, none⟩ = some u := fun j u hu => (World.cell?_alloc_lt _ _ _ (by rw [World.size_alloc]; show w.heap.size < _; omega)).trans (((Blk.new w 45 _).cell j).trans hu)
  have b1 : ∀ j u, #[Value.int .i64 (q.1 : Int), .int .i64 (q.2 : Int)][j]? = some u → ((w.alloc (.cells #[.int .i64 (e.1 : Int), .int .i64 (e.2 : Int)] 45)).alloc (.cells #[.int .i64 (q.1 : Int), .int .i64 (q.2 : Int)] 45)).cell? ⟨w.heap.size + 1, j, none⟩ = some u := fun j u hu => by
    have := (Blk.new (w.alloc (.cells #[.int .i64 (e.1 : Int), .int .i64 (e.2 : Int)] 45)) 45 #[Value.int .i64 (q.1 : Int), .int .i64 (q.2 : Int)]).cell j
    rw [World.size_alloc] at this
    exact this.trans hu
  have a0 := b0 0 _ rfl
  have a1 := b0 1 _ rfl
  have a2 := b1 0 _ rfl
  have a3 := b1 1 _ rfl
  have hbw : Below w.heap.size w ((w.alloc (.cells #[.int .i64 (e.1 : Int), .int .i64 (e.2 : Int)] 45)).alloc (.cells #[.int .i64 (q.1 : Int), .int .i64 (q.2 : Int)] 45)) := ((Below.refl _ _).alloc (Nat.le_refl _) _).alloc (by rw [World.size_alloc]; omega) _
  have hsz : ((w.alloc (.cells #[.int .i64 (e.1 : Int), .int .i64 (e.2 : Int)] 45)).alloc (.cells #[.int .i64 (q.1 : Int), .int .i64 (q.2 : Int)] 45)).heap.size = w.heap.size + 2 := by rw [World.size_alloc, World.size_alloc]
  generalize hg : w.heap.size = g at *
  have HG := Lib.hid hg
  clear hg
  generalize ((w.alloc (.cells #[.int .i64 (e.1 : Int), .int .i64 (e.2 : Int)] 45)).alloc (.cells #[.int .i64 (q.1 : Int), .int .i64 (q.2 : Int)] 45)) = w1 at *
  have HW := Lib.hid (And.intro hbw hsz)
  clear b0 b1 hbw hsz
  refine wp_region_still_tail 10 (by kernel_rfl) (by kernel_rfl) ?_
  simp only [List.take_succ_cons, List.take_zero, List.drop_succ_cons, List.drop_zero]
  repeat still_step
  still_call (cmp_any _ _ _)
  repeat still_step
  still_call (cmp_any _ _ _)
  repeat still_step
  refine wpStill_nil ?_
  change wpList _ _ _ _ _ w1.drew
  have HL : Hid (cmpE e q = orI (cmpI (e.2 : Int) (q.2 : Int)) (cmpI (e.1 : Int) (q.1 : Int))) := Lib.hid rfl
  generalize cmpI (e.2 : Int) (q.2 : Int) = ca at *
  generalize cmpI (e.1 : Int) (q.1 : Int) = cb at *
  have hb2 : Below g w w1.drew := HW.out.1.drew
  have hs2 : g ≤ w1.drew.heap.size := by show g ≤ w1.heap.size; rw [HW.out.2]; omega
  generalize w1.drew = w2 at *
  clear a0 a1 a2 a3 HW
  have HO := Lib.hid (or_any ca cb w2.heap.size (w2.alloc (.cells #[.int .i64 ca, .int .i64 cb] 3)) ((Blk.new w2 3 #[.int .i64 ca, .int .i64 cb]).cell 0) ((Blk.new w2 3 #[.int .i64 ca, .int .i64 cb]).cell 1))
  have HB := Lib.hid (hb2.alloc hs2 (.cells #[.int .i64 ca, .int .i64 cb] 3))
  clear hb2 hs2
  go_wp2_with fail
  refine HO.out.mono ?_
  rintro e3 w3 ⟨rfl, rfl⟩
  go_wp2
  go_ret
  rw [HL.out, HG.out]
  exact ⟨rfl, HB.out⟩
end Go.Proofs.Ytliockcbnmbhnaa
