/-
  The shortest hole that fits. Conditions: the row reads as it is said to, and one fits.
-/
import Derived.Test.YtliockcbnmbhnaaSz
namespace Go.Proofs.Ytliockcbnmbhnaa
open Go.RowKit Go.BigFrame
set_option linter.unusedSimpArgs false
set_option linter.unusedVariables false
theorem Least.fit {xs : List (Nat × Nat)} {n : Nat} {b : Nat × Nat} (h : Least (fitL n xs) (fitL n xs).length b) : Fit xs n b := by
  have hb := List.mem_filter.1 h.1
  refine ⟨hb.1, by simpa using hb.2, fun q hq hn => ?_⟩
  have hq2 : q ∈ fitL n xs := List.mem_filter.2 ⟨hq, by simpa using hn⟩
  obtain ⟨j, hj, rfl⟩ := List.mem_iff_getElem.1 hq2
  have := h.2 j hj
  rw [gx_of (List.getElem?_eq_getElem hj)] at this
  exact this
set_option maxRecDepth 100000 in
set_option maxHeartbeats 2000000 in
theorem shortest_any {w : World} {r c p n : Nat} {xs : List (Nat × Nat)} (h : ERow w r xs) (hl : xs.length ≤ 65536) (hcl : xs.length ≤ c) (hp : w.cell? ⟨p, 0, none⟩ = some (.int .i64 (n : Int))) (hpl : p < w.heap.size) (hpr : p ≠ r) (hex : ∃ e ∈ xs, n ≤ e.2) :
    Calls Try.prog 40 #[.slice (some ⟨r, 0, none⟩) xs.length c, fitsV p] w fun e' w' => (∃ b, e' = .returned (exV b) ∧ Fit xs n b) ∧ Only [r] w w' := by
  have hrl := h.lt
  have hfl : (fitL n xs).length ≤ xs.length := List.length_filter_le _ _
  have hpos : 0 < (fitL n xs).length := by
    obtain ⟨e, he, hn⟩ := hex
    exact List.length_pos_of_mem (a := e) (List.mem_filter.2 ⟨he, by simpa using hn⟩)
  have z1 : ((w.alloc (.cells #[fitsV p] 84))).heap.size = w.heap.size + 1 := World.size_alloc _ _
  have z2 : ((w.alloc (.cells #[fitsV p] 84)).alloc (.cells #[.int .i64 0, .int .i64 0] 45)).heap.size = w.heap.size + 2 := by rw [World.size_alloc, z1]
  have e1 : ERow ((w.alloc (.cells #[fitsV p] 84)).alloc (.cells #[.int .i64 0, .int .i64 0] 45)) r xs := h.of ((Below.heap_alloc _ _ _ (by omega)).trans (Below.heap_alloc _ _ _ hrl))
  have hq : Blk ((w.alloc (.cells #[fitsV p] 84)).alloc (.cells #[.int .i64 0, .int .i64 0] 45)) w.heap.size 84 #[fitsV p] := (Blk.new w _ _).alloc _
  have hb : Blk ((w.alloc (.cells #[fitsV p] 84)).alloc (.cells #[.int .i64 0, .int .i64 0] 45)) (w.heap.size + 1) 45 #[.int .i64 0, .int .i64 0] := by
    have := Blk.new (w.alloc (.cells #[fitsV p] 84)) 45 #[.int .i64 0, .int .i64 0]
    rwa [z1] at this
  have hc : Cap ((w.alloc (.cells #[fitsV p] 84)).alloc (.cells #[.int .i64 0, .int .i64 0] 45)) p w.heap.size n :=
    ⟨((World.cell?_alloc_lt _ _ _ (by rw [z1]; show p < _; omega)).trans (World.cell?_alloc_lt _ _ _ hpl)).trans hp, hq.cell 0, by rw [z2]; omega, by rw [z2]; omega⟩
  have ho : Below w.heap.size w ((w.alloc (.cells #[fitsV p] 84)).alloc (.cells #[.int .i64 0, .int .i64 0] 45)) := ((Below.refl _ _).alloc (Nat.le_refl _) _).alloc (by rw [z1]; omega) _
  have HD := Lib.hid (delete_ext e1 hl hcl hc hpr (by omega))
  have HX := Lib.hid (And.intro hb (And.intro ho hpos))
  clear h hp hex z1 z2 e1 hq hb hc ho hpos
  unfold fitsV notV at HD
  unfold fitsV at HX ⊢
  go_enter Try.func40, Try.ntmps40
  go_wp2_with fail
  refine HD.out.mono ?_
  rintro e1 w1 ⟨rfl, hr1, ho1⟩
  have HM := Lib.hid (min_ext (c := c) hr1 (by omega) HX.out.2.2)
  have hb1 := HX.out.1.of (ho1.block _ HX.out.1.lt (by simp; omega))
  have HB := Lib.hid (And.intro hb1 ((Only.of_below HX.out.2.1 [r]).trans ho1 (Fresh.refl _ _)))
  clear HD hr1 ho1 hb1 HX
  go_wp2_with fail
  refine HM.out.mono ?_
  rintro e2 w2 ⟨⟨b, rfl, hl2⟩, hbe⟩
  have HF := Lib.hid hl2.fit
  have hb2 := HB.out.1.of (hbe.block _ HB.out.1.lt)
  have HB2 := Lib.hid (And.intro hb2 (HB.out.2.trans (Only.of_below hbe [r]) (Fresh.refl _ _)))
  have a0 := hb2.frozen 0
  have a1 := hb2.frozen 1
  have a2 := hb2.cell 0
  have a3 := hb2.cell 1
  simp only [List.getElem?_toArray, List.getElem?_cons_zero, List.getElem?_cons_succ] at a2 a3
  have hia : (Try.prog.info? 45).map (·.size) = some (#[Value.int .i64 (b.1 : Int), .int .i64 (b.2 : Int)]).size := by kernel_rfl
  have HK : Hid (Blk ((w2.setCell ⟨w.heap.size + 1, 0, none⟩ (.int .i64 (b.1 : Int))).setCell ⟨w.heap.size + 1, 1, none⟩ (.int .i64 (b.2 : Int))) (w.heap.size + 1) 45 #[.int .i64 (b.1 : Int), .int .i64 (b.2 : Int)]) := Lib.hid ((hb2.set_ 0 _).set_ 1 _)
  clear HM hl2 hbe hb2 HB
  unfold exV
  go_wp2_with fail
  refine bodyPost_ret (results_cell_row rfl _ _ (w.heap.size + 1) 45 #[.int .i64 (b.1 : Int), .int .i64 (b.2 : Int)] (0, 0) _ rfl HK.out Try.underlying45 rfl hia) rfl ?_
  exact ⟨⟨b, rfl, HF.out⟩, (HB2.out.2.setCell (.inr (by show w.heap.size ≤ w.heap.size + 1; omega)) _).setCell (.inr (by show w.heap.size ≤ w.heap.size + 1; omega)) _⟩
end Go.Proofs.Ytliockcbnmbhnaa
