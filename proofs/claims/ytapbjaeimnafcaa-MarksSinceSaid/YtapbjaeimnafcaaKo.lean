/-
  Rows that are laid side by side and asked whether they are apart. Conditions: the rows are the call's own, each in a block of its own.
-/
import Derived.Test.YtapbjaeimnafcaaKn
namespace Go.Proofs.Ytapbjaeimnafcaa
open Go.RowKit
set_option linter.unusedSimpArgs false
set_option maxRecDepth 100000
set_option linter.unusedVariables false
theorem Rowed.alloc {w : World} {base : Nat} {vs : Nat → Value} {ns : Nat → Nat} {m : Nat} (h : Rowed w base vs ns m) (o : Obj) : Rowed (w.alloc o) base vs ns m :=
  ⟨fun i hi => by obtain ⟨bs, hb⟩ := h.own i hi; exact ⟨bs, hb.alloc o⟩, h.dis⟩
theorem apart_list {w : World} {base m : Nat} {vs : Nat → Value} {ns : Nat → Nat} (hV : Rowed w base vs ns m) (hm : m ≤ 1000) (hn : ∀ i, i < m → ns i ≤ 100000) (hbase : base ≤ w.heap.size) (l : List Value) (hl : hdr vs m = l) (t : TypeId) (f : Nat × Nat) :
    Calls Try.prog 18 #[.slice (some ⟨w.heap.size, 0, none⟩) m m] (w.alloc (.cells l.toArray t f)) fun e w' => e = .returned (.bool true) ∧ Below base w w' := by
  have hr : Reads (w.alloc (.cells l.toArray t f)) (w.heap.size + 1) 1 (some ⟨w.heap.size, 0, none⟩) m (hdr vs m) := by
    have := Reads.new w l t f
    rw [← hl] at this ⊢
    rwa [show (hdr vs m).length = m by simp [hdr]] at this
  refine (apart_any _ m m _ base vs ns _ hm hr hn (hV.alloc _) (fun ad e i hi => ?_) (by simp; omega)).mono ?_
  · injection e with e
    subst e
    obtain ⟨bs, hb⟩ := hV.own i hi
    intro h
    have := (World.ownsRow.lt hb _ h).2
    simp at this
  · rintro e w' ⟨rfl, hb⟩
    exact ⟨rfl, ((Below.refl base w).alloc hbase _).trans hb⟩
/-- what two, three, four rows are -/
theorem rowed_two {w : World} {base n0 n1 : Nat} {v0 v1 : Value} {b0 b1 : List Nat} (h0 : Own w base v0 n0 b0) (h1 : Own w base v1 n1 b1) (d01 : ∀ b, v0.ownBlock = some b → v1.ownBlock ≠ some b) :
    Rowed w base (fun i => if i = 0 then v0 else v1) (fun i => if i = 0 then n0 else n1) 2 := by
  refine rowed_of (fun i hi => ?_) (fun i j hij hj => ?_)
  · match i, hi with
    | 0, _ => exact ⟨_, h0⟩
    | 1, _ => exact ⟨_, h1⟩
  · obtain ⟨rfl, rfl⟩ : i = 0 ∧ j = 1 := by omega
    exact d01
theorem rowed_three {w : World} {base n0 n1 n2 : Nat} {v0 v1 v2 : Value} {b0 b1 b2 : List Nat} (h0 : Own w base v0 n0 b0) (h1 : Own w base v1 n1 b1) (h2 : Own w base v2 n2 b2)
    (d01 : ∀ b, v0.ownBlock = some b → v1.ownBlock ≠ some b) (d02 : ∀ b, v0.ownBlock = some b → v2.ownBlock ≠ some b) (d12 : ∀ b, v1.ownBlock = some b → v2.ownBlock ≠ some b) :
    Rowed w base (fun i => if i = 0 then v0 else if i = 1 then v1 else v2) (fun i => if i = 0 then n0 else if i = 1 then n1 else n2) 3 := by
  refine rowed_of (fun i hi => ?_) (fun i j hij hj => ?_)
  · match i, hi with
    | 0, _ => exact ⟨_, h0⟩
    | 1, _ => exact ⟨_, h1⟩
    | 2, _ => exact ⟨_, h2⟩
  · rcases (by omega : (i = 0 ∧ j = 1) ∨ (i = 0 ∧ j = 2) ∨ (i = 1 ∧ j = 2)) with ⟨rfl, rfl⟩ | ⟨rfl, rfl⟩ | ⟨rfl, rfl⟩
    · exact d01
    · exact d02
    · exact d12
theorem rowed_four {w : World} {base n0 n1 n2 n3 : Nat} {v0 v1 v2 v3 : Value} {b0 b1 b2 b3 : List Nat} (h0 : Own w base v0 n0 b0) (h1 : Own w base v1 n1 b1) (h2 : Own w base v2 n2 b2) (h3 : Own w base v3 n3 b3)
    (d01 : ∀ b, v0.ownBlock = some b → v1.ownBlock ≠ some b) (d02 : ∀ b, v0.ownBlock = some b → v2.ownBlock ≠ some b) (d03 : ∀ b, v0.ownBlock = some b → v3.ownBlock ≠ some b) (d12 : ∀ b, v1.ownBlock = some b → v2.ownBlock ≠ some b) (d13 : ∀ b, v1.ownBlock = some b → v3.ownBlock ≠ some b) (d23 : ∀ b, v2.ownBlock = some b → v3.ownBlock ≠ some b) :
    Rowed w base (fun i => if i = 0 then v0 else if i = 1 then v1 else if i = 2 then v2 else v3) (fun i => if i = 0 then n0 else if i = 1 then n1 else if i = 2 then n2 else n3) 4 := by
  refine rowed_of (fun i hi => ?_) (fun i j hij hj => ?_)
  · match i, hi with
    | 0, _ => exact ⟨_, h0⟩
    | 1, _ => exact ⟨_, h1⟩
    | 2, _ => exact ⟨_, h2⟩
    | 3, _ => exact ⟨_, h3⟩
  · rcases (by omega : (i = 0 ∧ j = 1) ∨ (i = 0 ∧ j = 2) ∨ (i = 0 ∧ j = 3) ∨ (i = 1 ∧ j = 2) ∨ (i = 1 ∧ j = 3) ∨ (i = 2 ∧ j = 3)) with ⟨rfl, rfl⟩ | ⟨rfl, rfl⟩ | ⟨rfl, rfl⟩ | ⟨rfl, rfl⟩ | ⟨rfl, rfl⟩ | ⟨rfl, rfl⟩
    · exact d01
    · exact d02
    · exact d03
    · exact d12
    · exact d13
    · exact d23
theorem hdr_two (v0 v1 : Value) : hdr (fun i => if i = 0 then v0 else v1) 2 = [v0, v1] := rfl
theorem hdr_three (v0 v1 v2 : Value) : hdr (fun i => if i = 0 then v0 else if i = 1 then v1 else v2) 3 = [v0, v1, v2] := rfl
theorem hdr_four (v0 v1 v2 v3 : Value) : hdr (fun i => if i = 0 then v0 else if i = 1 then v1 else if i = 2 then v2 else v3) 4 = [v0, v1, v2, v3] := rfl
/-- a row's block that is not another's: by where they begin -/
theorem apart_by {v v' : Value} {k : Nat} (h : ∀ b, v.ownBlock = some b → b < k) (h' : ∀ b, v'.ownBlock = some b → k ≤ b) : ∀ b, v.ownBlock = some b → v'.ownBlock ≠ some b := fun b hb hb' => by
  have := h b hb
  have := h' b hb'
  omega
theorem apart_flip {v v' : Value} (h : ∀ b, v.ownBlock = some b → v'.ownBlock ≠ some b) : ∀ b, v'.ownBlock = some b → v.ownBlock ≠ some b := fun b hb hb' => h b hb' hb
theorem Own.lo {w : World} {base n : Nat} {v : Value} {bs : List Nat} (h : Own w base v n bs) : ∀ b, v.ownBlock = some b → base ≤ b := fun b hb => (World.ownsRow.lt h b hb).1
theorem Own.hi {w : World} {base n : Nat} {v : Value} {bs : List Nat} (h : Own w base v n bs) : ∀ b, v.ownBlock = some b → b < w.heap.size := fun b hb => (World.ownsRow.lt h b hb).2
end Go.Proofs.Ytapbjaeimnafcaa
