/-
  What the disk's Copy returns: another disk like it. Conditions: the disk lies where it is said to; no more than a million writes wait.
-/
import Derived.Test.YtgcghoalepkdfaaMore
namespace Go.Proofs.Ytgcghoalepkdfaa
open Go.RowKit
attribute [local go_sem ↓] Go.wp_at_zero Go.wp_at_succ
def CopyTo (w : World) (base : Nat) (d : DM) (e : Ending) (w' : World) : Prop := ∃ g F, e = .returned (.pointer (some ⟨g, 0, none⟩)) ∧ DiskAt w' base F g d ∧ Below w.heap.size w w' ∧ Over w.heap.size F
theorem copy_any (w : World) (base g gm : Nat) (v : Value) (d : DM) (h : Lies w base g gm v d) (hw : d.wait.length ≤ 1000000) (hB : base ≤ w.heap.size) :
    Calls Try.prog 27 #[.pointer (some ⟨g, 0, none⟩)] w (CopyTo w base d) := by
  have k0 : ∀ w', Lies w' base g gm v d → w'.cell? ⟨g, 0, none⟩ = some (.int .i64 d.steps) := fun w' h => h.cells.1
  have k1 : ∀ w', Lies w' base g gm v d → w'.cell? ⟨g, 1, none⟩ = some (.bool d.armed) := fun w' h => h.cells.2.1
  have k2 : ∀ w', Lies w' base g gm v d → w'.cell? ⟨g, 2, none⟩ = some (.int .i64 d.left) := fun w' h => h.cells.2.2.1
  have k3 : ∀ w', Lies w' base g gm v d → w'.cell? ⟨g, 3, none⟩ = some (.bool d.gone) := fun w' h => h.cells.2.2.2.1
  have k4 : ∀ w', Lies w' base g gm v d → w'.cell? ⟨g, 4, none⟩ = some (.int .i64 d.n) := fun w' h => h.cells.2.2.2.2.1
  have k5 : ∀ w', Lies w' base g gm v d → w'.cell? ⟨g, 5, none⟩ = some (.map (some gm)) := fun w' h => h.cells.2.2.2.2.2.1
  have k6 : ∀ w', Lies w' base g gm v d → w'.cell? ⟨g, 6, none⟩ = some v := fun w' h => h.cells.2.2.2.2.2.2.1
  obtain ⟨f0, hm0, hf0⟩ := h.map
  have HM := Lib.hid hm0
  have HF := Lib.hid hf0
  have hR := Lib.hid (fun w' (h : Lies w' base g gm v d) => h.row)
  clear hm0 hf0
  go_enter Try.func27, Try.ntmps27
  go_wp2
  go_region_held3 (fun w' => Lies w' base g gm v d)
    (first | exact h.drew | exact Lies.below (by assumption) (by assumption) | exact Lies.alloc (by assumption) _)
    (first
      | (go_at_call 41; refine (mclone_any w.drew gm f0 (HM.out.of rfl)).mono ?_; rintro e w1 ⟨rfl, hm1, hb1, hs1⟩)
      | (go_at_call 42; refine (sclone_any _ base v d.wait hw (hR.out _ (by assumption)) (by have : w.drew.heap.size = w.heap.size := rfl; omega)).mono ?_; rintro e w2 ⟨A2, c2, rfl, hr2, hb2, ho2⟩))
  rw [show w.drew.heap.size = w.heap.size from rfl] at hm1 hb1 hs1
  have HB := Lib.hid ((below_drew' hb1).trans (hb2.mono (by omega)))
  have HM1 := Lib.hid (hm1.of (hb2.block _ hm1.lt))
  have HR2 := Lib.hid hr2
  have HO2 := Lib.hid ho2
  have hsz := hb2.size
  clear hm1 hb1 hr2 hb2 ho2 h k0 k1 k2 k3 k4 k5 k6
  go_wp2
  go_ret
  refine ⟨w2.heap.size, _, rfl, ⟨w.heap.size, .slice A2 d.wait.length c2, rfl, ⟨Blk.new w2 _ _, ⟨f0, HM1.out.of (Below.heap_alloc _ _ _ HM1.out.lt), HF.out⟩, HR2.out.alloc _, by omega, hB⟩⟩, HB.out.alloc (by omega) _, ?_⟩
  intro k hk
  simp only [List.mem_cons] at hk
  rcases hk with rfl | rfl | hk
  · omega
  · omega
  · have := HO2.out k hk; omega
end Go.Proofs.Ytgcghoalepkdfaa
