/-
  The shortest hole that fits: the first of the shortest ones. Conditions: the row reads as it is said to and isn't empty.
-/
import Derived.Test.YtliockcbnmbhnaaSy
namespace Go.Proofs.Ytliockcbnmbhnaa
open Go.RowKit Go.BigFrame
set_option linter.unusedSimpArgs false
set_option linter.unusedVariables false
def Least (zs : List (Nat × Nat)) (k : Nat) (b : Nat × Nat) : Prop := b ∈ zs ∧ ∀ j, j < k → gx zs j = b ∨ Shorter b (gx zs j)
set_option maxRecDepth 100000 in
set_option maxHeartbeats 4000000 in
theorem min_ext {w : World} {r c : Nat} {zs : List (Nat × Nat)} (h : ERow w r zs) (hl : zs.length ≤ 65536) (h0 : 0 < zs.length) :
    Calls Try.prog 50 #[.slice (some ⟨r, 0, none⟩) zs.length c, .func (.func 51) #[] #[]] w fun e' w' => (∃ b, e' = .returned (exV b) ∧ Least zs zs.length b) ∧ Below w.heap.size w w' := by
  have H := Lib.hid h
  have hrl := h.lt
  have c0 := (h.get (gx_some h0)).1
  have c1 := (h.get (gx_some h0)).2.1
  simp only [Nat.zero_mul, Nat.zero_add] at c0 c1
  have d0 : (w.alloc (.cells #[.int .i64 0, .int .i64 0] 45)).cell? ⟨r, 0, none⟩ = some (.int .i64 ((gx zs 0).1 : Int)) := (World.cell?_alloc_lt w _ _ hrl).trans c0
  have d1 : (w.alloc (.cells #[.int .i64 0, .int .i64 0] 45)).cell? ⟨r, 1, none⟩ = some (.int .i64 ((gx zs 0).2 : Int)) := (World.cell?_alloc_lt w _ _ hrl).trans c1
  have hg0 : gx zs 0 ∈ zs := List.mem_of_getElem? (gx_some h0)
  clear h c0 c1
  go_enter Try.func50, Try.ntmps50
  go_wp2_with fail
  go_loopw [6] (fun i wr => ∃ (k : Nat) (b : Nat × Nat), 1 ≤ k ∧ k ≤ zs.length ∧ i = .int .i64 k ∧ Least zs k b ∧ Blk wr w.heap.size 45 #[.int .i64 0, .int .i64 0] ∧ Blk wr (w.heap.size + 1) 45 #[.int .i64 (b.1 : Int), .int .i64 (b.2 : Int)] ∧ Below w.heap.size w wr) (fun i _ => zs.length - (intS i).toNat)
  case atStart =>
    refine ⟨1, gx zs 0, by omega, by omega, by go_num, ⟨hg0, fun j hj => .inl (by rw [show j = 0 by omega])⟩, ?_, ?_, ?_⟩
    · exact ((Blk.new w 45 _).alloc _)
    · have := Blk.new (w.alloc (.cells #[.int .i64 0, .int .i64 0] 45)) 45 #[.int .i64 ((gx zs 0).1 : Int), .int .i64 ((gx zs 0).2 : Int)]
      rw [World.size_alloc] at this
      exact this
    · exact ((Below.refl _ _).alloc (Nat.le_refl _) _).alloc (by rw [World.size_alloc]; omega) _
  case round =>
    obtain ⟨k, b, hk1, hk, rfl, hb, hB0, hB1, hbe⟩ := hrel
    obtain ⟨wo, hwo⟩ : ∃ wo, wo = wr := ⟨_, rfl⟩
    subst hwo
    have hrow : ERow wo r zs := H.out.of (hbe.block r hrl)
    have HL := Lib.hid hb
    have HB := Lib.hid (And.intro hB0 (And.intro hB1 hbe))
    have b0 := hB1.cell 0
    have b1 := hB1.cell 1
    simp only [List.getElem?_toArray, List.getElem?_cons_zero, List.getElem?_cons_succ] at b0 b1
    have HRW := Lib.hid hrow
    clear hb hB0 hB1 hbe d0 d1 hg0
    by_cases hlt : k < zs.length
    · obtain ⟨c0, c1, -, -⟩ := hrow.get (gx_some hlt)
      clear hrow
      have hwk : IntKind.i64.wrap ((k : Int) + 1) = (k : Int) + 1 := by rw [IntKind.wrap_i64]; omega
      have HC := Lib.hid (cmpe_any wo.drew (gx zs k) b)
      unfold exV at HC
      go_wp2_with fail
      refine wp_region_still_tail 6 (by kernel_rfl) (by kernel_rfl) ?_
      simp only [List.take_succ_cons, List.take_zero, List.drop_succ_cons, List.drop_zero]
      repeat still_step
      refine wpStill_nil ?_
      change wpList _ _ _ _ _ wo.drew
      have hb0 : wo.drew.cell? ⟨w.heap.size + 1, 0, none⟩ = some (.int .i64 (b.1 : Int)) := b0
      have hc0 : wo.drew.cell? ⟨r, k * 2, none⟩ = some (.int .i64 ((gx zs k).1 : Int)) := c0
      have hc1 : wo.drew.cell? ⟨r, k * 2 + 1, none⟩ = some (.int .i64 ((gx zs k).2 : Int)) := c1
      have HBd : Hid (Blk wo.drew w.heap.size 45 #[.int .i64 0, .int .i64 0] ∧ Blk wo.drew (w.heap.size + 1) 45 #[.int .i64 (b.1 : Int), .int .i64 (b.2 : Int)] ∧ Below w.heap.size w wo.drew ∧ ERow wo.drew r zs) := Lib.hid ⟨HB.out.1.of rfl, HB.out.2.1.of rfl, HB.out.2.2.drew, HRW.out.of rfl⟩
      clear HB HRW b0 b1 c0 c1 hb0 hc0 hc1
      generalize wo.drew = w2 at *
      go_wp2_with fail
      refine HC.out.mono ?_
      rintro e3 w3 ⟨rfl, hb3⟩
      have HX : Hid (Blk w3 w.heap.size 45 #[.int .i64 0, .int .i64 0] ∧ Blk w3 (w.heap.size + 1) 45 #[.int .i64 (b.1 : Int), .int .i64 (b.2 : Int)] ∧ Below w.heap.size w w3 ∧ ERow w3 r zs) := Lib.hid ⟨HBd.out.1.of (hb3.block _ HBd.out.1.lt), HBd.out.2.1.of (hb3.block _ HBd.out.2.1.lt), HBd.out.2.2.1.trans (hb3.mono HBd.out.2.2.1.size), HBd.out.2.2.2.of (hb3.block _ HBd.out.2.2.2.lt)⟩
      clear HBd HC hb3
      have HQ := Lib.hid (cmpE_iff (gx zs k) b)
      by_cases hs : cmpE (gx zs k) b < 0
      · have hd : decide (cmpE (gx zs k) b < 0) = true := decide_eq_true hs
        have HSh := Lib.hid (HQ.out.1 hs)
        obtain ⟨c0, c1, -, -⟩ := HX.out.2.2.2.get (gx_some hlt)
        have b0 := HX.out.2.1.cell 0
        have b1 := HX.out.2.1.cell 1
        simp only [List.getElem?_toArray, List.getElem?_cons_zero, List.getElem?_cons_succ] at b0 b1
        have f0 := HX.out.2.1.frozen 0
        have f1 := HX.out.2.1.frozen 1
        generalize cmpE (gx zs k) b = cv at *
        clear hs
        go_wp2
        go_roundw
        case rel =>
          refine ⟨k + 1, gx zs k, by omega, by omega, by go_num, ⟨List.mem_of_getElem? (gx_some hlt), fun j hj => ?_⟩, ?_, ?_, ?_⟩
          · by_cases he : j = k
            · subst he; exact .inl rfl
            · right
              have h2 := HSh.out
              rcases HL.out.2 j (by omega) with h1 | h1
              · rw [h1]; exact h2
              · simp only [Shorter] at h1 h2 ⊢; omega
          · exact HX.out.1.of ((Below.heap_setCell _ _ _ _ (by show w.heap.size ≠ w.heap.size + 1; omega)).trans (Below.heap_setCell _ _ _ _ (by show w.heap.size ≠ w.heap.size + 1; omega)))
          · exact (HX.out.2.1.set_ 0 _).set_ 1 _
          · exact (HX.out.2.2.1.setCell (by show w.heap.size ≤ w.heap.size + 1; omega) _).setCell (by show w.heap.size ≤ w.heap.size + 1; omega) _
        case measure => simp [intS]; omega
      · have hd : decide (cmpE (gx zs k) b < 0) = false := decide_eq_false hs
        have HSh : Hid (¬ Shorter (gx zs k) b) := Lib.hid (fun hh => hs (HQ.out.2 hh))
        generalize cmpE (gx zs k) b = cv at *
        clear hs
        go_wp2
        go_roundw
        case rel =>
          refine ⟨k + 1, b, by omega, by omega, by go_num, ⟨HL.out.1, fun j hj => ?_⟩, HX.out.1, HX.out.2.1, HX.out.2.2.1⟩
          by_cases he : j = k
          · subst he
            by_cases h1 : gx zs j = b
            · exact .inl h1
            · right
              have h2 := HSh.out
              have h3 : ¬ ((gx zs j).1 = b.1 ∧ (gx zs j).2 = b.2) := fun h => h1 (Prod.ext h.1 h.2)
              simp only [Shorter] at h2 ⊢; omega
          · exact HL.out.2 j (by omega)
        case measure => simp [intS]; omega
    · obtain rfl : k = zs.length := by omega
      have a0 := HB.out.1.frozen 0
      have a1 := HB.out.1.frozen 1
      have a2 := HB.out.1.cell 0
      have a3 := HB.out.1.cell 1
      simp only [List.getElem?_toArray, List.getElem?_cons_zero, List.getElem?_cons_succ] at a2 a3
      clear hrow
      have hia : (Try.prog.info? 45).map (·.size) = some (#[Value.int .i64 (b.1 : Int), .int .i64 (b.2 : Int)]).size := by kernel_rfl
      have hbk : Blk ((wo.setCell ⟨w.heap.size, 0, none⟩ (.int .i64 (b.1 : Int))).setCell ⟨w.heap.size, 1, none⟩ (.int .i64 (b.2 : Int))) w.heap.size 45 #[.int .i64 (b.1 : Int), .int .i64 (b.2 : Int)] := (HB.out.1.set_ 0 _).set_ 1 _
      have HK := Lib.hid hbk
      clear hbk
      go_wp2_with fail
      refine bodyPost_ret (results_cell_row rfl _ _ w.heap.size 45 #[.int .i64 (b.1 : Int), .int .i64 (b.2 : Int)] (0, 0) _ rfl HK.out Try.underlying45 rfl hia) rfl ?_
      exact ⟨⟨b, rfl, HL.out⟩, (HB.out.2.2.setCell (Nat.le_refl _) _).setCell (Nat.le_refl _) _⟩
end Go.Proofs.Ytliockcbnmbhnaa
