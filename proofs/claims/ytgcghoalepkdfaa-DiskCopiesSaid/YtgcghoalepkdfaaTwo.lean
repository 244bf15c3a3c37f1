/-
  A disk and a plain one side by side, each of its own memory: what each call leaves. Conditions: small numbers.
-/
import Derived.Test.YtgcghoalepkdfaaRefX
import Derived.Test.YtgcghoalepkdfaaRefQ
import Derived.Test.YtgcghoalepkdfaaRegE
namespace Go.Proofs.Ytgcghoalepkdfaa
open Go.RowKit
set_option linter.unusedSimpArgs false
set_option linter.unusedVariables false
def blkOf : Option Addr → List Nat
  | some a => [a.block]
  | none => []
structure Small (d : DM) : Prop where
  steps : d.steps < 4611686018427387904
  left : d.left ≤ 9223372036854775807
  wait : d.wait.length ≤ 1000000
/-- a disk of the program's at g, and a plain one -/
structure Two (w0 w : World) (g : Nat) (d r : DM) (X : List Nat) (AA : Option Addr) (c : Nat) (AW : Option Addr) (cw l : Nat) : Prop where
  disk : Holds w0 w g d (blkOf AA ++ (blkOf AW ++ X))
  ref : RefAt w w.heap.size AA c AW cw r
  left : Left r l
/-- the plain one as a value -/
abbrev rv (AA : Option Addr) (c : Nat) (AW : Option Addr) (cw l : Nat) (r : DM) : List Value := rl AA r.n c AW r.wait.length cw r.steps l r.armed r.gone
section
variable {w0 w w' : World} {g : Nat} {d r : DM} {X : List Nat} {AA AW : Option Addr} {c cw l : Nat}
theorem Reads.blk {B B' size n : Nat} {A : Option Addr} {xs : List Value} (h : Reads w B size A n xs) (hk : ∀ k ∈ blkOf A, w'.heap[k]? = w.heap[k]?) (hB : B ≤ B') : Reads w' B' size A n xs :=
  ⟨h.1, fun hn => by
    obtain ⟨ad, rfl, hb, hc⟩ := h.2 hn
    exact ⟨ad, rfl, by omega, fun j u hu => (World.cell?_of_block (by rw [block_of_add]; exact hk _ (by simp [blkOf]))).trans (hc j u hu)⟩⟩
theorem RefAt.kept (h : RefAt w w.heap.size AA c AW cw r) (hk : ∀ k ∈ blkOf AA ++ (blkOf AW ++ X), w'.heap[k]? = w.heap[k]?) (hs : w.heap.size ≤ w'.heap.size) : RefAt w' w'.heap.size AA c AW cw r :=
  ⟨h.1.blk (fun k hm => hk k (by simp [hm])) hs, h.2.blk (fun k hm => hk k (by simp [hm])) hs, h.3, h.4⟩
theorem Two.to {d' : DM} (h : Two w0 w g d r X AA c AW cw l) (h1 : Holds w0 w' g d' (blkOf AA ++ (blkOf AW ++ X))) (h2 : Keep (blkOf AA ++ (blkOf AW ++ X)) w w') : Two w0 w' g d' r X AA c AW cw l ∧ Keep X w w' :=
  ⟨⟨h1, h.ref.kept h2.2 h2.1, h.left⟩, h2.1, fun k hk => h2.2 k (by simp [hk])⟩
theorem Two.below (h : Two w0 w g d r X AA c AW cw l) (hb : Below w.heap.size w w') : Two w0 w' g d r X AA c AW cw l := ⟨h.disk.below hb, (h.ref.below hb).more hb.size, h.left⟩
theorem Two.drew (h : Two w0 w g d r X AA c AW cw l) : Two w0 w.drew g d r X AA c AW cw l := h.below (Below.refl _ _).drew
theorem Two.mono {Y : List Nat} (h : Two w0 w g d r X AA c AW cw l) (hs : ∀ k ∈ Y, k ∈ X) : Two w0 w g d r Y AA c AW cw l :=
  ⟨h.disk.mono (fun k hk => by simp only [List.mem_append] at hk ⊢; rcases hk with h | h | h; exact .inl h; exact .inr (.inl h); exact .inr (.inr (hs k h))), h.ref, h.left⟩
theorem Two.push (h : Two w0 w g d r X AA c AW cw l) (o : Obj) : Two w0 (w.alloc o) g d r (w.heap.size :: X) AA c AW cw l := by
  have h1 := h.below ((Below.refl _ _).alloc (Nat.le_refl _) o)
  exact ⟨(h.disk.push o).mono (fun k hk => by simp only [List.mem_append, List.mem_cons] at hk ⊢; rcases hk with h | h | h | h <;> simp [h]), h1.ref, h1.left⟩
theorem Two.kept {j : Nat} (h : Two w0 w g d r X AA c AW cw l) (hj : j ∈ X) (ho : Only [j] w w') (hB : w0.heap.size ≤ j) (hA : j ∉ blkOf AA ++ blkOf AW) : Two w0 w' g d r X AA c AW cw l := by
  have hne : ∀ k ∈ blkOf AA ++ blkOf AW, k ≠ j := fun k hk e => hA (e ▸ hk)
  refine ⟨h.disk.kept (by simp [hj]) ho hB, ?_, h.left⟩
  refine RefAt.kept (X := []) h.ref (fun k hk => ?_) ho.size
  have hk' : k ∈ blkOf AA ++ (blkOf AW ++ X) := by
    simp only [List.append_nil, List.mem_append] at hk ⊢
    rcases hk with h | h
    · exact .inl h
    · exact .inr (.inl h)
  obtain ⟨F, h1, h2, h3⟩ := h.disk
  exact ho.block k (h3 k hk').2 (by simpa using hne k (by simpa using hk))
/-- the plain one has been answered anew -/
theorem Two.ref_to {r' : DM} {v : Value} (h : Two w0 w g d r X AA c AW cw l) (hr : RTo w AA AW r' v w') : ∃ AA' c' AW' cw' l', v = .agg (rv AA' c' AW' cw' l' r').toArray ∧ Two w0 w' g d r' X AA' c' AW' cw' l' ∧ Below w.heap.size w w' ∧
    (∀ k ∈ blkOf AA' ++ blkOf AW', k ∈ blkOf AA ++ blkOf AW ∨ w.heap.size ≤ k) := by
  obtain ⟨AA', c', AW', cw', l', hv, h1, h2, h3, h4, h5⟩ := hr
  have hmem : ∀ {A A' : Option Addr}, Newer w w' A A' → ∀ k ∈ blkOf A', k ∈ blkOf A ∨ (w.heap.size ≤ k ∧ k < w'.heap.size) := by
    intro A A' hn k hk
    rcases hn with rfl | hn
    · exact .inl hk
    · cases A' with
      | none => cases hk
      | some ad =>
        simp only [blkOf, List.mem_singleton] at hk
        subst hk
        exact .inr (hn ad rfl)
  refine ⟨AA', c', AW', cw', l', hv, ⟨?_, h1, h2⟩, h3, ?_⟩
  · obtain ⟨F, e1, e2, e3⟩ := h.disk
    refine ⟨F, e1.of (below_keeps h3 e1.under), e2.trans (h3.mono e2.size), fun k hk => ?_⟩
    have hnew : w.heap.size ≤ k ∧ k < w'.heap.size → k ∉ F ∧ k < w'.heap.size := fun hh => ⟨fun hF => by have := e1.under _ hF; omega, hh.2⟩
    have hold : k ∈ blkOf AA ++ (blkOf AW ++ X) → k ∉ F ∧ k < w'.heap.size := fun hh => ⟨(e3 k hh).1, Nat.lt_of_lt_of_le (e3 k hh).2 h3.size⟩
    simp only [List.mem_append] at hk
    rcases hk with hk | hk | hk
    · rcases hmem h4 k hk with hk | hk
      · exact hold (by simp [hk])
      · exact hnew hk
    · rcases hmem h5 k hk with hk | hk
      · exact hold (by simp [hk])
      · exact hnew hk
    · exact hold (by simp [hk])
  · intro k hk
    rcases List.mem_append.1 hk with hk | hk
    · rcases hmem h4 k hk with hk | hk
      · exact .inl (by simp [hk])
      · exact .inr hk.1
    · rcases hmem h5 k hk with hk | hk
      · exact .inl (by simp [hk])
      · exact .inr hk.1
/-- its Put -/
theorem two_put (h : Two w0 w g d r X AA c AW cw l) (i : Int) (s : Sec) (hr : Small r) :
    Calls Try.prog 29 #[.agg (rv AA c AW cw l r).toArray, .int .i64 i, s.v] w fun e w' => ∃ AA' c' AW' cw' l', e = .returned (.tuple #[.agg (rv AA' c' AW' cw' l' (r.write i s)).toArray, .int .i64 (r.writeErr i)]) ∧ Two w0 w' g d (r.write i s) X AA' c' AW' cw' l' ∧ Below w.heap.size w w' ∧
      (∀ k ∈ blkOf AA' ++ blkOf AW', k ∈ blkOf AA ++ blkOf AW ∨ w.heap.size ≤ k) := by
  have fin : ∀ {e w'}, (∃ v, e = Ending.returned (.tuple #[v, .int .i64 (r.writeErr i)]) ∧ RTo w AA AW (r.write i s) v w') → ∃ AA' c' AW' cw' l', e = .returned (.tuple #[.agg (rv AA' c' AW' cw' l' (r.write i s)).toArray, .int .i64 (r.writeErr i)]) ∧ Two w0 w' g d (r.write i s) X AA' c' AW' cw' l' ∧ Below w.heap.size w w' ∧
      (∀ k ∈ blkOf AA' ++ blkOf AW', k ∈ blkOf AA ++ blkOf AW ∨ w.heap.size ≤ k) := by
    rintro e w' ⟨v, rfl, hv⟩
    obtain ⟨AA', c', AW', cw', l', rfl, h1, h2⟩ := h.ref_to hv
    exact ⟨AA', c', AW', cw', l', rfl, h1, h2⟩
  cases hh : r.has i with
  | false => exact (rput_bad w AA c AW cw r l i s h.ref h.left hh).mono fun e w' hv => fin hv
  | true =>
    have hi : 0 ≤ i ∧ i < r.n := by simpa [DM.has] using hh
    obtain ⟨k, rfl⟩ := Int.eq_ofNat_of_zero_le hi.1
    cases ho : r.off with
    | true => exact (rput_off w AA c AW cw r l k s h.ref h.left (by omega) ho hr.steps).mono fun e w' hv => fin hv
    | false => exact (rput_in w AA c AW cw r l k s h.ref h.left (by omega) ho hr.steps hr.wait).mono fun e w' hv => fin hv
theorem two_flush (h : Two w0 w g d r X AA c AW cw l) (hr : Small r) :
    Calls Try.prog 30 #[.agg (rv AA c AW cw l r).toArray] w fun e w' => ∃ AA' c' AW' cw' l', e = .returned (.tuple #[.agg (rv AA' c' AW' cw' l' r.flush).toArray, .int .i64 r.stepErr]) ∧ Two w0 w' g d r.flush X AA' c' AW' cw' l' ∧ Below w.heap.size w w' ∧
      (∀ k ∈ blkOf AA' ++ blkOf AW', k ∈ blkOf AA ++ blkOf AW ∨ w.heap.size ≤ k) :=
  (rflush_any w AA c AW cw r l h.ref h.left hr.steps hr.wait).mono fun e w' ⟨v, he, hv⟩ => by
    obtain ⟨AA', c', AW', cw', l', rfl, h1, h2⟩ := h.ref_to hv
    exact ⟨AA', c', AW', cw', l', he, h1, h2⟩
theorem two_crash (h : Two w0 w g d r X AA c AW cw l) (hr : Small r) (AK : Option Addr) (ck : Nat) (keep : List Bool) (hkp : keep.length ≤ 1000000) (hK : Reads w w.heap.size 1 AK keep.length (flags keep)) :
    Calls Try.prog 31 #[.agg (rv AA c AW cw l r).toArray, .slice AK keep.length ck] w fun e w' => ∃ AA' c' AW' cw' l', e = .returned (.agg (rv AA' c' AW' cw' l' (r.crash keep)).toArray) ∧ Two w0 w' g d (r.crash keep) X AA' c' AW' cw' l' ∧ Below w.heap.size w w' ∧
      (∀ k ∈ blkOf AA' ++ blkOf AW', k ∈ blkOf AA ++ blkOf AW ∨ w.heap.size ≤ k) :=
  (rcrash_any w AA c AW cw r l AK ck keep h.ref h.left hr.wait hkp hK).mono fun e w' ⟨v, he, hv⟩ => by
    obtain ⟨AA', c', AW', cw', l', rfl, h1, h2⟩ := h.ref_to hv
    exact ⟨AA', c', AW', cw', l', he, h1, h2⟩
theorem two_rread (h : Two w0 w g d r X AA c AW cw l) (hr : Small r) (i : Int) :
    Calls Try.prog 32 #[.agg (rv AA c AW cw l r).toArray, .int .i64 i] w fun e w' => e = .returned (.tuple #[(r.read i).v, .int .i64 (r.readErr i)]) ∧ Below w.heap.size w w' :=
  rread_any w AA c AW cw r l i h.ref hr.wait
end
end Go.Proofs.Ytgcghoalepkdfaa
