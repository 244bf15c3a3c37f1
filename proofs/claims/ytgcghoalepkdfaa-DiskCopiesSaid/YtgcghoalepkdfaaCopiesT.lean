/-
  The law DiskCopies, walked: it returns true and changes nothing that was there. No condition.
-/
import Derived.Test.YtgcghoalepkdfaaDoA
import Derived.Test.YtgcghoalepkdfaaCopyD
import Derived.Test.YtgcghoalepkdfaaDo
namespace Go.Proofs.Ytgcghoalepkdfaa
open Go.RowKit
set_option linter.unusedSimpArgs false
set_option linter.unusedVariables false
/-- a disk and its plain twin that stand still, beside another pair that goes on -/
def Copied (w0 w : World) (g gc b b' k m : Nat) : Prop := ∃ (d dc : DM) (AA : Option Addr) (c : Nat) (AW : Option Addr) (cw l : Nat) (AC : Option Addr) (cc : Nat) (CW : Option Addr) (ccw lc : Nat) (F : List Nat),
  Bd d 5 k ∧ Bd dc 5 m ∧ DiskAt w w0.heap.size F g d ∧ RefAt w w.heap.size AA c AW cw d ∧ Left d l ∧ Blk w b 36 (rv AA c AW cw l d).toArray ∧
  Two w0 w gc dc dc (b' :: b :: (blkOf AA ++ (blkOf AW ++ F))) AC cc CW ccw lc ∧ Blk w b' 36 (rv AC cc CW ccw lc dc).toArray ∧ w0.heap.size ≤ b' ∧ b' ∉ blkOf AC ++ blkOf CW ∧ b' ∉ b :: (blkOf AA ++ (blkOf AW ++ F)) ∧ (∀ k ∈ blkOf AA ++ blkOf AW, k ∉ F)
theorem Copied.since {w0 w : World} {g gc b b' k m : Nat} (h : Copied w0 w g gc b b' k m) : Below w0.heap.size w0 w := by
  obtain ⟨d, dc, AA, c, AW, cw, l, AC, cc, CW, ccw, lc, F, h1, h2, h3, h4, h5, h6, h7, h8⟩ := h
  exact h7.disk.since
/-- the copy is made -/
theorem Plays.copy {w0 w w' : World} {g b n k : Nat} {d : DM} {AA AW : Option Addr} {c cw l gc : Nat} {Fc : List Nat} (hbd : Bd d 5 k) (h : Two w0 w g d d [b] AA c AW cw l) (hbk : Blk w b 36 (rv AA c AW cw l d).toArray) (hb0 : w0.heap.size ≤ b) (hbn : b ∉ blkOf AA ++ blkOf AW)
    (hc : DiskAt w' w0.heap.size Fc gc d) (hbw : Below w.heap.size w w') (ho : Over w.heap.size Fc) {b' : Nat} (hb' : w.heap.size ≤ b') (hbc : b' ∉ Fc) (hbB : Blk w' b' 36 (rv AA c AW cw l d).toArray) : Copied w0 w' g gc b b' k k := by
  obtain ⟨F, e1, e2, e3⟩ := h.disk
  have hun := h.under
  have hX : ∀ k ∈ blkOf AA ++ (blkOf AW ++ [b]), k < w.heap.size := fun k hk => (e3 k hk).2
  have hF := e1.under
  have hbl := hbk.lt
  have hold : ∀ k, k < w.heap.size → k ∉ Fc ∧ k < w'.heap.size := fun k hk => ⟨fun hm => by have := ho k hm; omega, Nat.lt_of_lt_of_le hk hbw.size⟩
  have hA : ∀ k ∈ blkOf AA ++ blkOf AW, k < w.heap.size := hun
  refine ⟨d, d, AA, c, AW, cw, l, AA, c, AW, cw, l, F, hbd, hbd, e1.of (below_keeps hbw e1.under), (h.ref.below hbw).more hbw.size, h.left, hbk.below hbw hbl, ⟨⟨Fc, hc, e2.trans (hbw.mono e2.size), fun k hk => ?_⟩, (h.ref.below hbw).more hbw.size, h.left⟩, hbB, by omega, ?_, ?_, ?_⟩
  · simp only [List.mem_append, List.mem_cons] at hk
    rcases hk with hk | hk | rfl | rfl | hk | hk | hk
    · exact hold k (hA k (by simp [hk]))
    · exact hold k (hA k (by simp [hk]))
    · exact ⟨hbc, hbB.lt⟩
    · exact hold _ hbl
    · exact hold k (hA k (by simp [hk]))
    · exact hold k (hA k (by simp [hk]))
    · exact hold k (hF k hk)
  · intro hm; have := hA _ hm; omega
  · intro hm
    simp only [List.mem_append, List.mem_cons] at hm
    rcases hm with rfl | hm | hm | hm
    · omega
    · have := hA b' (by simp [hm]); omega
    · have := hA b' (by simp [hm]); omega
    · have := hF b' hm; omega
  · intro k hk
    refine (e3 k ?_).1
    simp only [List.mem_append] at hk ⊢
    rcases hk with hk | hk
    · exact .inl hk
    · exact .inr (.inl hk)
/-- the first pair, as it stood -/
theorem Copied.first {w0 w : World} {g gc b b' k m : Nat} (h : Copied w0 w g gc b b' k m) : ∃ (d : DM) (AA : Option Addr) (c : Nat) (AW : Option Addr) (cw l : Nat), Bd d 5 k ∧ Two w0 w g d d [] AA c AW cw l ∧ Blk w b 36 (rv AA c AW cw l d).toArray := by
  obtain ⟨d, dc, AA, c, AW, cw, l, AC, cc, CW, ccw, lc, F, h1, h2, h3, h4, h5, h6, h7, h8, h9, h10, h11, h12⟩ := h
  refine ⟨d, AA, c, AW, cw, l, h1, ⟨⟨F, h3, h7.disk.since, fun k hk => ⟨h12 k (by simpa using hk), ?_⟩⟩, h4, h5⟩, h6⟩
  exact h7.xlt k (by simp at hk ⊢; rcases hk with hk | hk <;> simp [hk])
theorem Copied.second {w0 w : World} {g gc b b' k m : Nat} (h : Copied w0 w g gc b b' k m) : ∃ (d : DM) (AA : Option Addr) (c : Nat) (AW : Option Addr) (cw l : Nat), Bd d 5 m ∧ Two w0 w gc d d [] AA c AW cw l ∧ Blk w b' 36 (rv AA c AW cw l d).toArray := by
  obtain ⟨d, dc, AA, c, AW, cw, l, AC, cc, CW, ccw, lc, F, h1, h2, h3, h4, h5, h6, h7, h8, h9, h10, h11, h12⟩ := h
  exact ⟨dc, AC, cc, CW, ccw, lc, h2, h7.mono (fun k hk => by cases hk), h8⟩
theorem Copied.below {w0 w w' : World} {g gc b b' k m : Nat} (h : Copied w0 w g gc b b' k m) (hb : Below w.heap.size w w') : Copied w0 w' g gc b b' k m := by
  obtain ⟨d, dc, AA, c, AW, cw, l, AC, cc, CW, ccw, lc, F, h1, h2, h3, h4, h5, h6, h7, h8, h9, h10, h11, h12⟩ := h
  exact ⟨d, dc, AA, c, AW, cw, l, AC, cc, CW, ccw, lc, F, h1, h2, h3.of (below_keeps hb h3.under), (h4.below hb).more hb.size, h5, h6.below hb h6.lt, h7.below hb, h8.below hb h8.lt, h9, h10, h11, h12⟩
/-- the second pair has gone on by an act, and its struct is stored -/
theorem Copied.step {w0 w w6 w7 : World} {g gc b b' k m : Nat} {o : OpV} {hob : o.b < 256} (hmax : o.n ≤ 9223372036854775807) {d dc : DM} {AA : Option Addr} {c : Nat} {AW : Option Addr} {cw l : Nat} {AC : Option Addr} {cc : Nat} {CW : Option Addr} {ccw lc : Nat} {F : List Nat}
    (h1 : Bd d 5 k) (h2 : Bd dc 5 m) (h3 : DiskAt w w0.heap.size F g d) (h4 : RefAt w w.heap.size AA c AW cw d) (h5 : Left d l) (h6 : Blk w b 36 (rv AA c AW cw l d).toArray)
    (hX : ∀ k ∈ b' :: b :: (blkOf AA ++ (blkOf AW ++ F)), k < w.heap.size) (h9 : w0.heap.size ≤ b') (h10 : b' ∉ blkOf AC ++ blkOf CW) (h11 : b' ∉ b :: (blkOf AA ++ (blkOf AW ++ F))) (h12 : ∀ k ∈ blkOf AA ++ blkOf AW, k ∉ F)
    {A2 : Option Addr} {c2 : Nat} {W2 : Option Addr} {cw2 l2 gb : Nat} (t : Two w0 w6 gc (act o hob dc) (act o hob dc) (gb :: b' :: b :: (blkOf AA ++ (blkOf AW ++ F))) A2 c2 W2 cw2 l2) (kx : Keep (gb :: b' :: b :: (blkOf AA ++ (blkOf AW ++ F))) w w6)
    (hn : ∀ k ∈ blkOf A2 ++ blkOf W2, k ∈ blkOf AC ++ blkOf CW ∨ w.heap.size ≤ k) (hB : Blk w7 b' 36 (rv A2 c2 W2 cw2 l2 (act o hob dc)).toArray) (ho : Only [b'] w6 w7) : Copied w0 w7 g gc b b' k (m + 1) := by
  have hb2 : b' ∉ blkOf A2 ++ blkOf W2 := fun hm => by
    rcases hn _ hm with h | h
    · exact h10 h
    · have := hX b' (by simp); omega
  have hkeep : ∀ q ∈ b :: (blkOf AA ++ (blkOf AW ++ F)), w7.heap[q]? = w.heap[q]? := fun q hq => by
    have hq1 := hX q (by simp only [List.mem_cons] at hq ⊢; exact .inr hq)
    rw [ho.block q (Nat.lt_of_lt_of_le hq1 kx.1) (by simp; rintro rfl; exact h11 hq)]
    exact kx.2 q (by simp only [List.mem_cons] at hq ⊢; exact .inr (.inr hq))
  have hsz : w.heap.size ≤ w7.heap.size := Nat.le_trans kx.1 ho.size
  refine ⟨d, act o hob dc, AA, c, AW, cw, l, A2, c2, W2, cw2, l2, F, h1, h2.act o hob hmax, h3.of (fun q hq => hkeep q (by simp [hq])), RefAt.kept (X := []) h4 (fun q hq => hkeep q ?_) hsz, h5, h6.of (hkeep b (by simp)), ?_, hB, h9, hb2, h11, h12⟩
  · simp only [List.mem_append, List.mem_cons, List.not_mem_nil, or_false] at hq ⊢
    rcases hq with hq | hq <;> simp [hq]
  · exact (t.kept (j := b') (by simp) ho h9 hb2).mono (fun q hq => List.mem_cons_of_mem _ hq)
end Go.Proofs.Ytgcghoalepkdfaa
