/-
  Where the program's writers and readers lie; bytes.Clone. No condition.
-/
import Derived.Test.YtldnghmgdmjljaaLe
import Derived.Outline
import Derived.Handy
import Derived.Test.YtldnghmgdmjljaaErr
import Derived.Test.YtldnghmgdmjljaaObj
import Derived.Test.YtldnghmgdmjljaaBuf
import Derived.Deep.RegionHeld3
namespace Go.Proofs.Ytldnghmgdmjljaa
open Go.RowKit
set_option linter.unusedSimpArgs false
set_option linter.unusedVariables false
theorem bytes_nil (A : Option Addr) (n c : Nat) (w : World) : (binOp .eql 23 (.slice A n c) (.slice none 0 0)).run Try.prog w = .ok (.bool A.isNone) w := by
  cases A <;> kernel_rfl
theorem Reads.since {w w' : World} {B size n : Nat} {A : Option Addr} {xs : List Value} (h : Reads w B size A n xs) (hb : Below w.heap.size w w') : Reads w' B size A n xs :=
  ⟨h.1, fun hn => by
    obtain ⟨ad, e, hB, hc⟩ := h.2 hn
    exact ⟨ad, e, hB, fun j u hu => (hb.cell (World.block_lt_of_cell? w _ (hc j u hu))).trans (hc j u hu)⟩⟩
theorem Bytes.since {w w' : World} {B n : Nat} {A : Option Addr} {bs : List Nat} (h : Bytes w B A n bs) (hb : Below w.heap.size w w') : Bytes w' B A n bs := ⟨h.1.since hb, h.2⟩
theorem below_alloc (w : World) (o : Obj) : Below w.heap.size w (w.alloc o) := (Below.refl _ _).alloc (Nat.le_refl _) _
/-- what clone hands back -/
theorem clone_any (A : Option Addr) (n c : Nat) (bs : List Nat) (w : World) (B : Nat) (hn : n ≤ 10000000) (hb : Bytes w B A n bs) :
    Calls Try.prog 76 #[.slice A n c] w fun e w' => ∃ v, e = .returned v ∧ Own w' w.heap.size v n bs ∧ Below w.heap.size w w' := by
  have hnil := bytes_nil A n c
  rcases A with _ | ad
  · have hn0 : n = 0 := by
      rcases Nat.eq_zero_or_pos n with h | h
      · exact h
      · obtain ⟨_, h, _⟩ := hb.1.2 h; cases h
    subst hn0
    obtain rfl : bs = [] := List.eq_nil_of_length_eq_zero hb.len
    simp only [Option.isNone_none] at hnil
    go_enter Try.func76, Try.ntmps76
    go_wp2
    go_ret
    exact ⟨_, rfl, Own.nil _ _, Below.refl _ _⟩
  · simp only [Option.isNone_some] at hnil
    have hb1 := hb.since (below_alloc w (.cells #[] 5))
    go_enter Try.func76, Try.ntmps76
    go_wp2_with (refine app_bytes (.tmp 5) (.tmp 6) rfl rfl w.heap.size (.slice (some ⟨w.heap.size, 0, none⟩) 0 0) 0 [] rfl (Own.new w w.heap.size (Nat.le_refl _)) B (some ad) n c bs rfl hb1 (by omega) (by simp) ?_
                 intro v2 w2 h2 g2 a2)
    go_ret
    exact ⟨v2, rfl, by simpa using h2, below_own (below_alloc w _) (Own.new w w.heap.size (Nat.le_refl _)) (Nat.le_refl _) g2 (by simp)⟩

/-! ### a writer -/
/-- a writer of the call's own lies at g, and has the bytes bs -/
def WrAt (w : World) (base : Nat) (F : List Nat) (g : Nat) (bs : List Nat) : Prop :=
  ∃ v, F = g :: rowOf v ∧ Blk w g 70 #[v] ∧ Own w base v bs.length bs ∧ base ≤ g ∧ ∀ b ∈ bs, b < 256
def WrTo (w : World) (base : Nat) (F : List Nat) (g : Nat) (bs : List Nat) (w' : World) : Prop := ∃ F', WrAt w' base F' g bs ∧ Only F w w' ∧ Fresh w F F'
section
variable {w w' : World} {base g : Nat} {F : List Nat} {bs : List Nat}
theorem WrAt.of (h : WrAt w base F g bs) (hk : ∀ k, k ∈ F → w'.heap[k]? = w.heap[k]?) : WrAt w' base F g bs := by
  obtain ⟨v, rfl, h1, h2, h3⟩ := h
  exact ⟨v, rfl, h1.of (hk g (by simp)), row_of h2 (fun k hk' => hk k (by simp [hk'])), h3⟩
theorem WrAt.under (h : WrAt w base F g bs) : Under w F := by
  obtain ⟨v, rfl, h1, h2, h3⟩ := h
  intro k hk
  rcases List.mem_cons.1 hk with rfl | hk
  · exact h1.lt
  · exact row_under h2 k hk
theorem WrAt.over (h : WrAt w base F g bs) : Over base F := by
  obtain ⟨v, rfl, h1, h2, h3, h4⟩ := h
  intro k hk
  rcases List.mem_cons.1 hk with rfl | hk
  · exact h3
  · exact row_over h2 k hk
theorem WrAt.below (h : WrAt w base F g bs) (hb : Below w.heap.size w w') : WrAt w' base F g bs := h.of fun k hk => hb.block k (h.under k hk)
theorem WrAt.weaken {base' : Nat} (h : WrAt w base F g bs) (hb : base' ≤ base) : WrAt w base' F g bs := by
  obtain ⟨v, rfl, h1, h2, h3, h4⟩ := h
  exact ⟨v, rfl, h1, h2.weaken hb, Nat.le_trans hb h3, h4⟩
theorem WrTo.trans {bs' : List Nat} {w1 : World} {F1 : List Nat} (ho : Only F w w1) (hf : Fresh w F F1) (h : WrTo w1 base F1 g bs' w') : WrTo w base F g bs' w' := by
  obtain ⟨F2, h1, h2, h3⟩ := h
  exact ⟨F2, h1, ho.trans h2 hf, hf.trans h3 ho.size⟩
end
theorem ptr_nil (p : Option Addr) (w : World) : (binOp .neq 68 (.pointer p) (.pointer none)).run Try.prog w = .ok (.bool p.isSome) w := by
  cases p <;> kernel_rfl
theorem put_nil (v : Value) (w : World) : Calls Try.prog 70 #[.pointer none, v] w fun e w' => e = .returned (.tuple #[]) ∧ w = w' := by
  go_enter Try.func70, Try.ntmps70
  go_wp2
  refine bodyPost_end (results_none rfl _ _ _) rfl ?_
  exact ⟨rfl, rfl⟩
theorem put_any (w : World) (base g : Nat) (F : List Nat) (bs news : List Nat) (B : Nat) (A : Option Addr) (n c : Nat) (h : WrAt w base F g bs) (hb : Bytes w B A n news) (hl : bs.length + n ≤ 10000000) (hB : base ≤ w.heap.size) :
    Calls Try.prog 70 #[.pointer (some ⟨g, 0, none⟩), .slice A n c] w fun e w' => e = .returned (.tuple #[]) ∧ WrTo w base F g (bs ++ news) w' := by
  obtain ⟨v, rfl, h1, h2, h3, h4⟩ := h
  have hne : v.ownBlock ≠ some g := own_blk_ne h2 h1 (by decide)
  obtain ⟨A1, c1, rfl, -, -, -⟩ := h2.form
  have hc : w.cell? ⟨g, 0, none⟩ = some (.slice A1 bs.length c1) := by rw [h1.cell]; rfl
  have hlt := h1.lt
  go_enter Try.func70, Try.ntmps70
  go_wp2_with (refine app_bytes (.tmp 10) (.tmp 11) rfl rfl base (.slice A1 bs.length c1) bs.length bs rfl h2 B A n c news rfl hb (by omega) hB ?_
               intro v2 w2 k2 g2 a2
               have hc2 : w2.cell? ⟨g, 0, none⟩ = some (.slice A1 bs.length c1) := by rw [(h1.grown g2 (Ne.symm hne)).cell]; rfl
               have hf2 : w2.frozen? ⟨g, 0, none⟩ = false := (h1.grown g2 (Ne.symm hne)).frozen _
               obtain ⟨A2, c2, rfl, -, -, -⟩ := k2.form)
  refine bodyPost_end (results_none rfl _ _ _) rfl ?_
  have hb2 := h1.grown g2 (Ne.symm hne)
  have hne2 : (Value.slice A2 (bs.length + n) c2).ownBlock ≠ some g := own_blk_ne k2 hb2 (by decide)
  have hlen : (bs ++ news).length = bs.length + n := by rw [List.length_append, hb.len]
  refine ⟨rfl, g :: rowOf (.slice A2 (bs.length + n) c2), ⟨_, rfl, hb2.set_ 0 _, ?_, h3, fun b hm => ?_⟩, ?_, fun k hk => ?_⟩
  · rw [hlen]
    exact row_of k2 fun k hk => Below.heap_setCell _ _ _ _ (fun e => hne2 (by subst e; exact mem_rowOf.1 hk))
  · rcases List.mem_append.1 hm with hm | hm
    · exact h4 b hm
    · exact hb.2 b hm
  · exact ((Only.refl _ _).grown g2 (fun k e => .inl (by simp [rowOf, ← e]))).setCell (.inl (by simp)) _
  · rcases List.mem_cons.1 hk with rfl | hk
    · exact .inl (by simp)
    · have hk' := mem_rowOf.1 hk
      rcases a2 with e | e
      · exact .inl (List.mem_cons_of_mem _ (mem_rowOf.2 (by rw [← e]; exact hk')))
      · rw [e] at hk'; injection hk' with hk'; exact .inr (by omega)
/-! ### packed -/
theorem eight_zero (w : World) : (zeroValue 111).run Try.prog w = .ok (.agg #[.int .u8 0, .int .u8 0, .int .u8 0, .int .u8 0, .int .u8 0, .int .u8 0, .int .u8 0, .int .u8 0]) w := by kernel_rfl
theorem numB_eq (n : Int) : (u8s (numB n)).toArray = #[.int .u8 (n % 256), .int .u8 (n / 256 % 256), .int .u8 (n / 65536 % 256), .int .u8 (n / 16777216 % 256), .int .u8 (n / 4294967296 % 256), .int .u8 (n / 1099511627776 % 256), .int .u8 (n / 281474976710656 % 256), .int .u8 (n / 72057594037927936 % 256)] := by
  simp only [numB, le, u8s, u8, nat64, List.map_cons, List.map_nil]
  simp only [List.toArray, Array.mk.injEq, List.cons.injEq, Value.int.injEq, true_and, and_true]
  refine ⟨?_, ?_, ?_, ?_, ?_, ?_, ?_, ?_⟩ <;> omega
theorem packed_any (n : Int) (w : World) : Calls Try.prog 69 #[.int .i64 n] w fun e w' => e = .returned (.agg (u8s (numB n)).toArray) ∧ Below w.heap.size w w' := by
  have hz := eight_zero
  go_enter Try.func69, Try.ntmps69
  go_wp2
  go_rounds 9
  refine bodyPost_ret (results_cell_row rfl _ _ w.heap.size 111 _ (0, 0) _ rfl ((Blk.new w _ _).alloc _) Try.underlying111 rfl (by kernel_rfl)) rfl ?_
  exact ⟨by rw [numB_eq], ((Below.refl _ _).alloc (Nat.le_refl _) _).alloc (by simp) _⟩
theorem unpacked_any (b0 b1 b2 b3 b4 b5 b6 b7 : Nat) (w : World) (h0 : b0 < 256) (h1 : b1 < 256) (h2 : b2 < 256) (h3 : b3 < 256) (h4 : b4 < 256) (h5 : b5 < 256) (h6 : b6 < 256) (h7 : b7 < 256) :
    Calls Try.prog 98 #[.agg (u8s [b0, b1, b2, b3, b4, b5, b6, b7]).toArray] w fun e w' => e = .returned (.int .i64 (numOf [b0, b1, b2, b3, b4, b5, b6, b7])) ∧ Below w.heap.size w w' := by
  simp only [u8s, u8, List.map_cons, List.map_nil]
  have x0 : ∀ w, (Instr.index 111 (.agg #[.int .u8 (b0 : Int), .int .u8 (b1 : Int), .int .u8 (b2 : Int), .int .u8 (b3 : Int), .int .u8 (b4 : Int), .int .u8 (b5 : Int), .int .u8 (b6 : Int), .int .u8 (b7 : Int)]) (.int .i64 0)).run Try.prog w = .ok (.int .u8 b0) w := fun w => by kernel_rfl
  have x1 : ∀ w, (Instr.index 111 (.agg #[.int .u8 (b0 : Int), .int .u8 (b1 : Int), .int .u8 (b2 : Int), .int .u8 (b3 : Int), .int .u8 (b4 : Int), .int .u8 (b5 : Int), .int .u8 (b6 : Int), .int .u8 (b7 : Int)]) (.int .i64 1)).run Try.prog w = .ok (.int .u8 b1) w := fun w => by kernel_rfl
  have x2 : ∀ w, (Instr.index 111 (.agg #[.int .u8 (b0 : Int), .int .u8 (b1 : Int), .int .u8 (b2 : Int), .int .u8 (b3 : Int), .int .u8 (b4 : Int), .int .u8 (b5 : Int), .int .u8 (b6 : Int), .int .u8 (b7 : Int)]) (.int .i64 2)).run Try.prog w = .ok (.int .u8 b2) w := fun w => by kernel_rfl
  have x3 : ∀ w, (Instr.index 111 (.agg #[.int .u8 (b0 : Int), .int .u8 (b1 : Int), .int .u8 (b2 : Int), .int .u8 (b3 : Int), .int .u8 (b4 : Int), .int .u8 (b5 : Int), .int .u8 (b6 : Int), .int .u8 (b7 : Int)]) (.int .i64 3)).run Try.prog w = .ok (.int .u8 b3) w := fun w => by kernel_rfl
  have x4 : ∀ w, (Instr.index 111 (.agg #[.int .u8 (b0 : Int), .int .u8 (b1 : Int), .int .u8 (b2 : Int), .int .u8 (b3 : Int), .int .u8 (b4 : Int), .int .u8 (b5 : Int), .int .u8 (b6 : Int), .int .u8 (b7 : Int)]) (.int .i64 4)).run Try.prog w = .ok (.int .u8 b4) w := fun w => by kernel_rfl
  have x5 : ∀ w, (Instr.index 111 (.agg #[.int .u8 (b0 : Int), .int .u8 (b1 : Int), .int .u8 (b2 : Int), .int .u8 (b3 : Int), .int .u8 (b4 : Int), .int .u8 (b5 : Int), .int .u8 (b6 : Int), .int .u8 (b7 : Int)]) (.int .i64 5)).run Try.prog w = .ok (.int .u8 b5) w := fun w => by kernel_rfl
  have x6 : ∀ w, (Instr.index 111 (.agg #[.int .u8 (b0 : Int), .int .u8 (b1 : Int), .int .u8 (b2 : Int), .int .u8 (b3 : Int), .int .u8 (b4 : Int), .int .u8 (b5 : Int), .int .u8 (b6 : Int), .int .u8 (b7 : Int)]) (.int .i64 6)).run Try.prog w = .ok (.int .u8 b6) w := fun w => by kernel_rfl
  have x7 : ∀ w, (Instr.index 111 (.agg #[.int .u8 (b0 : Int), .int .u8 (b1 : Int), .int .u8 (b2 : Int), .int .u8 (b3 : Int), .int .u8 (b4 : Int), .int .u8 (b5 : Int), .int .u8 (b6 : Int), .int .u8 (b7 : Int)]) (.int .i64 7)).run Try.prog w = .ok (.int .u8 b7) w := fun w => by kernel_rfl
  go_enter Try.func98, Try.ntmps98
  go_wp2
  go_rounds 9
  go_ret
  refine ⟨?_, below_alloc _ _⟩
  exact congrArg (fun q => Ending.returned (.int .i64 q)) (or_eight b0 b1 b2 b3 b4 b5 b6 b7 h0 h1 h2 h3 h4 h5 h6 h7)
end Go.Proofs.Ytldnghmgdmjljaa
