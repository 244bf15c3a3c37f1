/-
  Where the program's writers and readers lie; bytes.Clone. No condition.
-/
import Derived.Test.YtpklcmocjimcpaaDoorZa
import Derived.Outline
import Derived.Handy
import Derived.Deep.RegionHeld3
import Derived.RegionTactic
import Derived.Lib.ConvBytes
import Derived.Laws.CopyOwn
import Derived.Laws.MakeOwn
import Derived.WalkLawsBesides
import Derived.WalkSpells
import Derived.Deep.DeepFit
import Derived.Deep.QuietTactic
import Derived.BigQuiet

namespace Go.Proofs.YtpklcmocjimcpaaDoor
open Go.RowKit
set_option maxRecDepth 100000
set_option linter.unusedSimpArgs false
set_option linter.unusedVariables false
theorem bytes_nil (A : Option Addr) (n c : Nat) (w : World) : (binOp .eql 34 (.slice A n c) (.slice none 0 0)).run Tryd.prog w = .ok (.bool A.isNone) w := by
  cases A <;> kernel_rfl
theorem Reads.since {w w' : World} {B size n : Nat} {A : Option Addr} {xs : List Value} (h : Reads w B size A n xs) (hb : Below w.heap.size w w') : Reads w' B size A n xs :=
  ⟨h.1, fun hn => by
    obtain ⟨ad, e, hB, hc⟩ := h.2 hn
    exact ⟨ad, e, hB, fun j u hu => (hb.cell (World.block_lt_of_cell? w _ (hc j u hu))).trans (hc j u hu)⟩⟩
theorem Bytes.since {w w' : World} {B n : Nat} {A : Option Addr} {bs : List Nat} (h : Bytes w B A n bs) (hb : Below w.heap.size w w') : Bytes w' B A n bs := ⟨h.1.since hb, h.2⟩
theorem below_alloc (w : World) (o : Obj) : Below w.heap.size w (w.alloc o) := (Below.refl _ _).alloc (Nat.le_refl _) _
/-- what clone hands back -/
theorem clone_any (A : Option Addr) (n c : Nat) (bs : List Nat) (w : World) (B : Nat) (hn : n ≤ 10000000) (hb : Bytes w B A n bs) :
    Calls Tryd.prog 41 #[.slice A n c] w fun e w' => ∃ v, e = .returned v ∧ Own w' w.heap.size v n bs ∧ Below w.heap.size w w' := by
  have hnil := bytes_nil A n c
  rcases A with _ | ad
  · have hn0 : n = 0 := by
      rcases Nat.eq_zero_or_pos n with h | h
      · exact h
      · obtain ⟨_, h, _⟩ := hb.1.2 h; cases h
    subst hn0
    obtain rfl : bs = [] := List.eq_nil_of_length_eq_zero hb.len
    simp only [Option.isNone_none] at hnil
    go_enter Tryd.func41, Tryd.ntmps41
    go_wp2
    go_ret
    exact ⟨_, rfl, Own.nil _ _, Below.refl _ _⟩
  · simp only [Option.isNone_some] at hnil
    have hb1 := hb.since (below_alloc w (.cells #[] 5))
    go_enter Tryd.func41, Tryd.ntmps41
    go_wp2_with (refine app_bytes (.tmp 5) (.tmp 6) rfl rfl w.heap.size (.slice (some ⟨w.heap.size, 0, none⟩) 0 0) 0 [] rfl (Own.new w w.heap.size (Nat.le_refl _)) B (some ad) n c bs rfl hb1 (by omega) (by simp) ?_
                 intro v2 w2 h2 g2 a2)
    go_ret
    exact ⟨v2, rfl, by simpa using h2, below_own (below_alloc w _) (Own.new w w.heap.size (Nat.le_refl _)) (Nat.le_refl _) g2 (by simp)⟩

/-! ### a writer -/
/-- a writer of the call's own lies at g, and has the bytes bs -/
def WrAt (w : World) (base : Nat) (F : List Nat) (g : Nat) (bs : List Nat) : Prop :=
  ∃ v, F = g :: rowOf v ∧ Blk w g 110 #[v] ∧ Own w base v bs.length bs ∧ base ≤ g ∧ ∀ b ∈ bs, b < 256
def WrTo (w : World) (base : Nat) (F : List Nat) (g : Nat) (bs : List Nat) (w' : World) : Prop := ∃ F', WrAt w' base F' g bs ∧ Only F w w' ∧ Fresh w F F'
section
variable {w w' : World} {base g : Nat} {F : List Nat} {bs : List Nat}
theorem WrAt.of (h : WrAt w base F g bs) (hk : ∀ k, k ∈ F → w'.heap[k]? = w.heap[k]?) : WrAt w' base F g bs := by
  obtain ⟨v, rfl, h1, h2, h3⟩ := h
  exact ⟨v, rfl, h1.of (hk g (by simp)), row_of h2 (fun k hk' => hk k (by simp [hk'])), h3⟩
theorem WrAt.under (h : WrAt w base F g bs) : Under w F := by
  obtain ⟨v, rfl, h1, h2, h3⟩ := h
  intro k hk
  rcases List.mem_cons.1 hk with rfl | hk
  · exact h1.lt
  · exact row_under h2 k hk
theorem WrAt.over (h : WrAt w base F g bs) : Over base F := by
  obtain ⟨v, rfl, h1, h2, h3, h4⟩ := h
  intro k hk
  rcases List.mem_cons.1 hk with rfl | hk
  · exact h3
  · exact row_over h2 k hk
theorem WrAt.below (h : WrAt w base F g bs) (hb : Below w.heap.size w w') : WrAt w' base F g bs := h.of fun k hk => hb.block k (h.under k hk)
theorem WrAt.weaken {base' : Nat} (h : WrAt w base F g bs) (hb : base' ≤ base) : WrAt w base' F g bs := by
  obtain ⟨v, rfl, h1, h2, h3, h4⟩ := h
  exact ⟨v, rfl, h1, h2.weaken hb, Nat.le_trans hb h3, h4⟩
theorem WrTo.trans {bs' : List Nat} {w1 : World} {F1 : List Nat} (ho : Only F w w1) (hf : Fresh w F F1) (h : WrTo w1 base F1 g bs' w') : WrTo w base F g bs' w' := by
  obtain ⟨F2, h1, h2, h3⟩ := h
  exact ⟨F2, h1, ho.trans h2 hf, hf.trans h3 ho.size⟩
end
theorem ptr_nil (p : Option Addr) (w : World) : (binOp .neq 108 (.pointer p) (.pointer none)).run Tryd.prog w = .ok (.bool p.isSome) w := by
  cases p <;> kernel_rfl
theorem put_nil (v : Value) (w : World) : Calls Tryd.prog 72 #[.pointer none, v] w fun e w' => e = .returned (.tuple #[]) ∧ w = w' := by
  go_enter Tryd.func72, Tryd.ntmps72
  go_wp2
  refine bodyPost_end (results_none rfl _ _ _) rfl ?_
  exact ⟨rfl, rfl⟩
theorem put_any (w : World) (base g : Nat) (F : List Nat) (bs news : List Nat) (B : Nat) (A : Option Addr) (n c : Nat) (h : WrAt w base F g bs) (hb : Bytes w B A n news) (hl : bs.length + n ≤ 10000000) (hB : base ≤ w.heap.size) :
    Calls Tryd.prog 72 #[.pointer (some ⟨g, 0, none⟩), .slice A n c] w fun e w' => e = .returned (.tuple #[]) ∧ WrTo w base F g (bs ++ news) w' := by
  obtain ⟨v, rfl, h1, h2, h3, h4⟩ := h
  have hne : v.ownBlock ≠ some g := own_blk_ne h2 h1 (by decide)
  obtain ⟨A1, c1, rfl, -, -, -⟩ := h2.form
  have hc : w.cell? ⟨g, 0, none⟩ = some (.slice A1 bs.length c1) := by rw [h1.cell]; rfl
  have hlt := h1.lt
  go_enter Tryd.func72, Tryd.ntmps72
  go_wp2_with (refine app_bytes (.tmp 10) (.tmp 11) rfl rfl base (.slice A1 bs.length c1) bs.length bs rfl h2 B A n c news rfl hb (by omega) hB ?_
               intro v2 w2 k2 g2 a2
               have hc2 : w2.cell? ⟨g, 0, none⟩ = some (.slice A1 bs.length c1) := by rw [(h1.grown g2 (Ne.symm hne)).cell]; rfl
               have hf2 : w2.frozen? ⟨g, 0, none⟩ = false := (h1.grown g2 (Ne.symm hne)).frozen _
               obtain ⟨A2, c2, rfl, -, -, -⟩ := k2.form)
  refine bodyPost_end (results_none rfl _ _ _) rfl ?_
  have hb2 := h1.grown g2 (Ne.symm hne)
  have hne2 : (Value.slice A2 (bs.length + n) c2).ownBlock ≠ some g := own_blk_ne k2 hb2 (by decide)
  have hlen : (bs ++ news).length = bs.length + n := by rw [List.length_append, hb.len]
  refine ⟨rfl, g :: rowOf (.slice A2 (bs.length + n) c2), ⟨_, rfl, hb2.set_ 0 _, ?_, h3, fun b hm => ?_⟩, ?_, fun k hk => ?_⟩
  · rw [hlen]
    exact row_of k2 fun k hk => Below.heap_setCell _ _ _ _ (fun e => hne2 (by subst e; exact mem_rowOf.1 hk))
  · rcases List.mem_append.1 hm with hm | hm
    · exact h4 b hm
    · exact hb.2 b hm
  · exact ((Only.refl _ _).grown g2 (fun k e => .inl (by simp [rowOf, ← e]))).setCell (.inl (by simp)) _
  · rcases List.mem_cons.1 hk with rfl | hk
    · exact .inl (by simp)
    · have hk' := mem_rowOf.1 hk
      rcases a2 with e | e
      · exact .inl (List.mem_cons_of_mem _ (mem_rowOf.2 (by rw [← e]; exact hk')))
      · rw [e] at hk'; injection hk' with hk'; exact .inr (by omega)
/-! ### packed -/
theorem eight_zero (w : World) : (zeroValue 117).run Tryd.prog w = .ok (.agg #[.int .u8 0, .int .u8 0, .int .u8 0, .int .u8 0, .int .u8 0, .int .u8 0, .int .u8 0, .int .u8 0]) w := by kernel_rfl
theorem numB_eq (n : Int) : (u8s (numB n)).toArray = #[.int .u8 (n % 256), .int .u8 (n / 256 % 256), .int .u8 (n / 65536 % 256), .int .u8 (n / 16777216 % 256), .int .u8 (n / 4294967296 % 256), .int .u8 (n / 1099511627776 % 256), .int .u8 (n / 281474976710656 % 256), .int .u8 (n / 72057594037927936 % 256)] := by
  simp only [numB, le, u8s, u8, nat64, List.map_cons, List.map_nil]
  simp only [List.toArray, Array.mk.injEq, List.cons.injEq, Value.int.injEq, true_and, and_true]
  refine ⟨?_, ?_, ?_, ?_, ?_, ?_, ?_, ?_⟩ <;> omega
theorem packed_any (n : Int) (w : World) : Calls Tryd.prog 71 #[.int .i64 n] w fun e w' => e = .returned (.agg (u8s (numB n)).toArray) ∧ Below w.heap.size w w' := by
  have hz := eight_zero
  go_enter Tryd.func71, Tryd.ntmps71
  go_wp2
  go_rounds 9
  refine bodyPost_ret (results_cell_row rfl _ _ w.heap.size 117 _ (0, 0) _ rfl ((Blk.new w _ _).alloc _) Tryd.underlying117 rfl (by kernel_rfl)) rfl ?_
  exact ⟨by rw [numB_eq], ((Below.refl _ _).alloc (Nat.le_refl _) _).alloc (by simp) _⟩
theorem unpacked_any (b0 b1 b2 b3 b4 b5 b6 b7 : Nat) (w : World) (h0 : b0 < 256) (h1 : b1 < 256) (h2 : b2 < 256) (h3 : b3 < 256) (h4 : b4 < 256) (h5 : b5 < 256) (h6 : b6 < 256) (h7 : b7 < 256) :
    Calls Tryd.prog 87 #[.agg (u8s [b0, b1, b2, b3, b4, b5, b6, b7]).toArray] w fun e w' => e = .returned (.int .i64 (numOf [b0, b1, b2, b3, b4, b5, b6, b7])) ∧ Below w.heap.size w w' := by
  simp only [u8s, u8, List.map_cons, List.map_nil]
  have x0 : ∀ w, (Instr.index 117 (.agg #[.int .u8 (b0 : Int), .int .u8 (b1 : Int), .int .u8 (b2 : Int), .int .u8 (b3 : Int), .int .u8 (b4 : Int), .int .u8 (b5 : Int), .int .u8 (b6 : Int), .int .u8 (b7 : Int)]) (.int .i64 0)).run Tryd.prog w = .ok (.int .u8 b0) w := fun w => by kernel_rfl
  have x1 : ∀ w, (Instr.index 117 (.agg #[.int .u8 (b0 : Int), .int .u8 (b1 : Int), .int .u8 (b2 : Int), .int .u8 (b3 : Int), .int .u8 (b4 : Int), .int .u8 (b5 : Int), .int .u8 (b6 : Int), .int .u8 (b7 : Int)]) (.int .i64 1)).run Tryd.prog w = .ok (.int .u8 b1) w := fun w => by kernel_rfl
  have x2 : ∀ w, (Instr.index 117 (.agg #[.int .u8 (b0 : Int), .int .u8 (b1 : Int), .int .u8 (b2 : Int), .int .u8 (b3 : Int), .int .u8 (b4 : Int), .int .u8 (b5 : Int), .int .u8 (b6 : Int), .int .u8 (b7 : Int)]) (.int .i64 2)).run Tryd.prog w = .ok (.int .u8 b2) w := fun w => by kernel_rfl
  have x3 : ∀ w, (Instr.index 117 (.agg #[.int .u8 (b0 : Int), .int .u8 (b1 : Int), .int .u8 (b2 : Int), .int .u8 (b3 : Int), .int .u8 (b4 : Int), .int .u8 (b5 : Int), .int .u8 (b6 : Int), .int .u8 (b7 : Int)]) (.int .i64 3)).run Tryd.prog w = .ok (.int .u8 b3) w := fun w => by kernel_rfl
  have x4 : ∀ w, (Instr.index 117 (.agg #[.int .u8 (b0 : Int), .int .u8 (b1 : Int), .int .u8 (b2 : Int), .int .u8 (b3 : Int), .int .u8 (b4 : Int), .int .u8 (b5 : Int), .int .u8 (b6 : Int), .int .u8 (b7 : Int)]) (.int .i64 4)).run Tryd.prog w = .ok (.int .u8 b4) w := fun w => by kernel_rfl
  have x5 : ∀ w, (Instr.index 117 (.agg #[.int .u8 (b0 : Int), .int .u8 (b1 : Int), .int .u8 (b2 : Int), .int .u8 (b3 : Int), .int .u8 (b4 : Int), .int .u8 (b5 : Int), .int .u8 (b6 : Int), .int .u8 (b7 : Int)]) (.int .i64 5)).run Tryd.prog w = .ok (.int .u8 b5) w := fun w => by kernel_rfl
  have x6 : ∀ w, (Instr.index 117 (.agg #[.int .u8 (b0 : Int), .int .u8 (b1 : Int), .int .u8 (b2 : Int), .int .u8 (b3 : Int), .int .u8 (b4 : Int), .int .u8 (b5 : Int), .int .u8 (b6 : Int), .int .u8 (b7 : Int)]) (.int .i64 6)).run Tryd.prog w = .ok (.int .u8 b6) w := fun w => by kernel_rfl
  have x7 : ∀ w, (Instr.index 117 (.agg #[.int .u8 (b0 : Int), .int .u8 (b1 : Int), .int .u8 (b2 : Int), .int .u8 (b3 : Int), .int .u8 (b4 : Int), .int .u8 (b5 : Int), .int .u8 (b6 : Int), .int .u8 (b7 : Int)]) (.int .i64 7)).run Tryd.prog w = .ok (.int .u8 b7) w := fun w => by kernel_rfl
  go_enter Tryd.func87, Tryd.ntmps87
  go_wp2
  go_rounds 9
  go_ret
  refine ⟨?_, below_alloc _ _⟩
  exact congrArg (fun q => Ending.returned (.int .i64 q)) (or_eight b0 b1 b2 b3 b4 b5 b6 b7 h0 h1 h2 h3 h4 h5 h6 h7)
end Go.Proofs.YtpklcmocjimcpaaDoor

/-
  A region that draws its order, taken by hand: one operation that alone may come up; two of which either may come up first; one that yields in whatever world. No condition.
-/
namespace Go.Proofs.YtpklcmocjimcpaaDoor
open Go.RowKit
set_option maxRecDepth 100000
section
variable {P : Program} {ops : Array Oper} {Q : Exit → Act → World → Prop} {md : Region.Mode}
/-- one operation alone may come up -/
theorem do_one {i : Nat} {o : Oper} {fuel : Nat} {listed : Array Bool} {a : Act} {w : World} (hr : Region.ready md ops listed = [i]) (ho : ops[i]? = some o) (hw : Region.wanted o (yielded ops a.tmps) = true)
    (h : Oper.wp P o a w (fun a' w' => wpAny P md ops Q fuel (listed.setIfInBounds i true) a' w') Q) : wpAny P md ops Q (fuel + 1) listed a w :=
  wpAny_ready hr (by simp) (AllReady.cons ho (fun K hK => by rw [if_pos hw]; exact Oper.wp_mono (fun a w h => hK a w h) h) AllReady.nil)
/-- it yields a value and leaves the world -/
theorem wp_yields {o : Oper} {a : Act} {w : World} {K : Act → World → Prop} {v : Value} (hv : (execOp a.eval o).run P w = .ok (.value v) w) (h : K (a.put o.dst v) w) : Oper.wp P o a w K Q := by
  unfold Oper.wp
  rw [hv]
  exact h
/-- it yields a value and leaves another world -/
theorem wp_ran {o : Oper} {a : Act} {w w' : World} {K : Act → World → Prop} {v : Value} (hv : (execOp a.eval o).run P w = .ok (.value v) w') (h : K (a.put o.dst v) w') : Oper.wp P o a w K Q := by
  unfold Oper.wp
  rw [hv]
  exact h
/-- it calls -/
theorem wp_called {o : Oper} {a : Act} {w : World} {K : Act → World → Prop} {f : FuncId} {args : Array Value} {R : Ending → World → Prop} (hv : (execOp a.eval o).run P w = .ok (.enter f args) w) (hc : Calls P f args w R) (h : ∀ e w', R e w' → ∃ v, e = .returned v ∧ K (a.put o.dst v) w') : Oper.wp P o a w K Q := by
  unfold Oper.wp
  rw [hv, Oper.upon_enter]
  refine hc.mono fun e w' hr => ?_
  obtain ⟨v, rfl, hk⟩ := h e w' hr
  exact hk
/-- whichever comes up; till what waits for i comes up, T is shown behind each -/
def wpT (P : Program) (md : Region.Mode) (ops : Array Oper) (Q : Exit → Act → World → Prop) (T : World → Prop) (i : Nat) : Nat → Bool → Array Bool → Act → World → Prop
  | 0, _, l, a, w => Region.ready md ops l = [] ∧ Q .normal a w
  | f + 1, on, l, a, w => (Region.ready md ops l = [] → Q .normal a w) ∧ ∀ j ∈ Region.ready md ops l,
      wpOp P ops Q j (fun a' w' => ((on && (Region.ready md ops (l.setIfInBounds i false)).contains j) = true → T w') ∧
        wpT P md ops Q T i f (on && (Region.ready md ops (l.setIfInBounds i false)).contains j) (l.setIfInBounds j true) a' w') a w
variable {T : World → Prop} {i : Nat}
theorem any_of_T : ∀ (f : Nat) (on : Bool) (l : Array Bool) (a : Act) (w : World), wpT P md ops Q T i f on l a w → wpAny P md ops Q f l a w
  | 0, _, _, _, _, h => h
  | f + 1, _, _, _, _, h => ⟨h.1, fun j hj => wpOp_mono (fun a' w' h' => any_of_T f _ _ a' w' h'.2) (h.2 j hj)⟩
theorem T_of_any : ∀ (f : Nat) (l : Array Bool) (a : Act) (w : World), wpAny P md ops Q f l a w → wpT P md ops Q T i f false l a w
  | 0, _, _, _, h => h
  | f + 1, _, _, _, h => ⟨h.1, fun j hj => wpOp_mono (fun a' w' h' => ⟨fun e => by simp at e, T_of_any f _ a' w' h'⟩) (h.2 j hj)⟩
theorem set_back {l : Array Bool} (h : l.getD i true = false) : (l.setIfInBounds i true).setIfInBounds i false = l := by
  have hlt : i < l.size := by
    rcases Nat.lt_or_ge i l.size with h1 | h1
    · exact h1
    · simp [Array.getElem?_eq_none h1] at h
  apply Array.ext_getElem?
  intro k
  by_cases hk : i = k
  · subst hk
    simp [hlt] at h ⊢
    exact h
  · simp [hk]
/-- a load is taken first; T, which tells what it loads, is shown behind what may come ahead of it, and no longer -/
theorem T_first {oi : Oper} {v : Value} (hi : ops[i]? = some oi) (hsel : ∀ (j : Nat) (o : Oper) cs b, ops[j]? = some o → o.op ≠ .select cs b)
    (hQ : ∀ c a w, Q (.panic c) (a.put oi.dst v) w → Q (.panic c) a w) :
    ∀ (f : Nat) (l : Array Bool) (a : Act) (w : World),
      (∀ j oj, ops[j]? = some oj → j ≠ i → l.getD j true = false → (∀ e ∈ oj.after, Region.binds md e = true → e.on ≠ i) → oi.apart ops oj = true) →
      i ∈ Region.ready md ops l → YieldsIf P ops T oi v a → T w →
      wpT P md ops Q T i f true (l.setIfInBounds i true) (a.put oi.dst v) w → wpAny P md ops Q (f + 1) l a w
  | 0, l, a, w, _, hr, hy, hT, H => by
    refine ⟨fun h => (by rw [h] at hr; cases hr), fun j hj => ?_⟩
    by_cases hji : j = i
    · subst hji
      exact hy.wpOp hi hT H
    · have := ready_mono hj hji
      rw [H.1] at this
      cases this
  | f + 1, l, a, w, hfree, hr, hy, hT, H => by
    refine ⟨fun h => (by rw [h] at hr; cases hr), fun j hj => ?_⟩
    by_cases hji : j = i
    · subst hji
      exact hy.wpOp hi hT (any_of_T _ _ _ _ _ H)
    · obtain ⟨hjun, oj, hoj, hall⟩ := mem_ready.1 hj
      have hiun : l.getD i true = false := (mem_ready.1 hr).1
      have h1 := H.2 j (ready_mono hj hji)
      rw [set_back hiun] at h1
      have hon : (true && (Region.ready md ops l).contains j) = true := by simpa using hj
      rw [hon] at h1
      have hnot : ∀ e ∈ oj.after, Region.binds md e = true → e.on ≠ i := fun e he hb heq => by
        have h2 := hall e he hb
        rw [heq] at h2
        rcases Nat.lt_or_ge i l.size with h' | h'
        · simp [h'] at hiun h2
          rw [hiun] at h2
          cases h2
        · simp [Array.getElem?_eq_none h'] at h2
      have h2 := wpOp_putIf hoj (hfree j oj hoj hji hjun hnot) (fun cs b => hsel i oi cs b hi) (fun cs b => hsel j oj cs b hoj) hQ hy h1
      refine wpOp_mono (fun a' w' h3 => ?_) h2
      obtain ⟨hy', hT', H'⟩ := h3
      rw [Array.setIfInBounds_comm _ _ (Ne.symm hji)] at H'
      refine T_first hi hsel hQ f _ a' w' (fun k ok hk hki hun hno => hfree k ok hk hki ?_ hno) (ready_mono hr (Ne.symm hji)) hy' (hT' rfl) H'
      by_cases hjk : j = k
      · subst hjk; exact hjun
      · rw [getD_set_ne true hjk] at hun; exact hun
theorem T_take {oi : Oper} {v : Value} {f : Nat} {l : Array Bool} {a : Act} {w : World} (hi : ops[i]? = some oi) (hs : Region.noSelect ops = true) (hf : Region.free md ops l i = true) (hr : (Region.ready md ops l).contains i = true)
    (hQ : ∀ c a w, Q (.panic c) (a.put oi.dst v) w → Q (.panic c) a w) (hy : YieldsIf P ops T oi v a) (hT : T w)
    (h : wpT P md ops Q T i f true (l.setIfInBounds i true) (a.put oi.dst v) w) : wpAny P md ops Q (f + 1) l a w :=
  T_first hi (Region.noSelect_spec hs) hQ f l a w (Region.free_spec hi hf) (by simpa using hr) hy hT h
/-- one alone may come up, and T stands behind it -/
theorem T_one {j : Nat} {o : Oper} {f : Nat} {l : Array Bool} {a : Act} {w : World} (hr : Region.ready md ops l = [j]) (ho : ops[j]? = some o) (hw : Region.wanted o (yielded ops a.tmps) = true)
    (hc : (Region.ready md ops (l.setIfInBounds i false)).contains j = true)
    (h : Oper.wp P o a w (fun a' w' => T w' ∧ wpT P md ops Q T i f true (l.setIfInBounds j true) a' w') Q) : wpT P md ops Q T i (f + 1) true l a w := by
  refine ⟨fun h0 => absurd (hr ▸ h0) (by simp), fun k hk => ?_⟩
  rw [hr] at hk
  obtain rfl := List.mem_singleton.1 hk
  refine wpOp_step ho (fun K hK => ?_)
  rw [if_pos hw]
  refine Oper.wp_mono (fun a' w' h' => hK a' w' ?_) h
  rw [Bool.true_and, hc]
  exact ⟨fun _ => h'.1, h'.2⟩
/-- one alone may come up, and it waits for i: T is no longer wanted -/
theorem T_off {j : Nat} {o : Oper} {f : Nat} {l : Array Bool} {a : Act} {w : World} (hr : Region.ready md ops l = [j]) (ho : ops[j]? = some o) (hw : Region.wanted o (yielded ops a.tmps) = true)
    (hc : (Region.ready md ops (l.setIfInBounds i false)).contains j = false)
    (h : Oper.wp P o a w (fun a' w' => wpAny P md ops Q f (l.setIfInBounds j true) a' w') Q) : wpT P md ops Q T i (f + 1) true l a w := by
  refine ⟨fun h0 => absurd (hr ▸ h0) (by simp), fun k hk => ?_⟩
  rw [hr] at hk
  obtain rfl := List.mem_singleton.1 hk
  refine wpOp_step ho (fun K hK => ?_)
  rw [if_pos hw]
  refine Oper.wp_mono (fun a' w' h' => hK a' w' ?_) h
  rw [Bool.true_and, hc]
  exact ⟨fun e => (by cases e), T_of_any _ _ _ _ h'⟩
/-- the region begins -/
theorem any_begin {id : Nat} {a : Act} {w : World} (hm : P.follows .mixedOrders = true) (h : wpAny P .any ops (NoPanic Q) ops.size (Array.replicate ops.size false) a w.drew) : (Code.region id ops true).wp P Q a w :=
  wp_region_noPanic (wp_region_any hm h)
end
end Go.Proofs.YtpklcmocjimcpaaDoor

/-
  A region that draws its order, taken by hand, where one condition on the world holds behind each operation but the last one: what reads under the condition is taken first. No condition.
-/
namespace Go.Proofs.YtpklcmocjimcpaaDoor
open Go.RowKit
set_option maxRecDepth 100000
section
variable {P : Program} {ops : Array Oper} {Q : Exit → Act → World → Prop} {md : Region.Mode} {S : World → Prop} {L : Nat}
/-- S is shown behind each operation but L -/
def wpAnyL (P : Program) (md : Region.Mode) (ops : Array Oper) (Q : Exit → Act → World → Prop) (S : World → Prop) (L : Nat) : Nat → Array Bool → Act → World → Prop
  | 0, l, a, w => Region.ready md ops l = [] ∧ Q .normal a w
  | f + 1, l, a, w => (Region.ready md ops l = [] → Q .normal a w) ∧ ∀ j ∈ Region.ready md ops l, wpOp P ops Q j (fun a' w' => (j ≠ L → S w') ∧ wpAnyL P md ops Q S L f (l.setIfInBounds j true) a' w') a w
theorem any_of_L : ∀ (f : Nat) (l : Array Bool) (a : Act) (w : World), wpAnyL P md ops Q S L f l a w → wpAny P md ops Q f l a w
  | 0, _, _, _, h => h
  | f + 1, _, _, _, h => ⟨h.1, fun j hj => wpOp_mono (fun a' w' h' => any_of_L f _ a' w' h'.2) (h.2 j hj)⟩
theorem L_first {i : Nat} {oi oL : Oper} {v : Value} (hi : ops[i]? = some oi) (hL : ops[L]? = some oL) (hw : oL.after.any (fun e => Region.binds md e && e.on == i) = true) (hsel : ∀ (j : Nat) (o : Oper) cs b, ops[j]? = some o → o.op ≠ .select cs b)
    (hQ : ∀ c a w, Q (.panic c) (a.put oi.dst v) w → Q (.panic c) a w) :
    ∀ (f : Nat) (l : Array Bool) (a : Act) (w : World),
      (∀ j oj, ops[j]? = some oj → j ≠ i → l.getD j true = false → (∀ e ∈ oj.after, Region.binds md e = true → e.on ≠ i) → oi.apart ops oj = true) →
      i ∈ Region.ready md ops l → YieldsIf P ops S oi v a → S w →
      wpAnyL P md ops Q S L f (l.setIfInBounds i true) (a.put oi.dst v) w → wpAnyL P md ops Q S L (f + 1) l a w
  | 0, l, a, w, _, hr, hy, hS, H => by
    refine ⟨fun h => (by rw [h] at hr; cases hr), fun j hj => ?_⟩
    by_cases hji : j = i
    · subst hji
      exact hy.wpOp hi hS ⟨fun _ => hS, H⟩
    · have := ready_mono hj hji
      rw [H.1] at this
      cases this
  | f + 1, l, a, w, hfree, hr, hy, hS, H => by
    refine ⟨fun h => (by rw [h] at hr; cases hr), fun j hj => ?_⟩
    by_cases hji : j = i
    · subst hji
      exact hy.wpOp hi hS ⟨fun _ => hS, H⟩
    · obtain ⟨hjun, oj, hoj, hall⟩ := mem_ready.1 hj
      have hiun : l.getD i true = false := (mem_ready.1 hr).1
      have h1 := H.2 j (ready_mono hj hji)
      have hnot : ∀ e ∈ oj.after, Region.binds md e = true → e.on ≠ i := fun e he hb heq => by
        have h2 := hall e he hb
        rw [heq] at h2
        rcases Nat.lt_or_ge i l.size with h' | h'
        · simp [h'] at hiun h2
          rw [hiun] at h2
          cases h2
        · simp [Array.getElem?_eq_none h'] at h2
      have hjL : j ≠ L := by
        rintro rfl
        rw [hL] at hoj
        injection hoj with hoj
        subst hoj
        obtain ⟨k, hk, he⟩ := Array.any_eq_true.1 hw
        simp only [Bool.and_eq_true, beq_iff_eq] at he
        exact hnot _ (Array.getElem_mem hk) he.1 he.2
      have h2 := wpOp_putIf hoj (hfree j oj hoj hji hjun hnot) (fun cs b => hsel i oi cs b hi) (fun cs b => hsel j oj cs b hoj) hQ hy h1
      refine wpOp_mono (fun a' w' h3 => ?_) h2
      obtain ⟨hy', hS', H'⟩ := h3
      rw [Array.setIfInBounds_comm _ _ (Ne.symm hji)] at H'
      refine ⟨fun _ => hS' hjL, L_first hi hL hw hsel hQ f _ a' w' (fun k ok hk hki hun hno => hfree k ok hk hki ?_ hno) (ready_mono hr (Ne.symm hji)) hy' (hS' hjL) H'⟩
      by_cases hjk : j = k
      · subst hjk; exact hjun
      · rw [getD_set_ne true hjk] at hun; exact hun
/-- what reads under S is taken first -/
theorem L_take {i : Nat} {oi oL : Oper} {v : Value} {f : Nat} {l : Array Bool} {a : Act} {w : World} (hi : ops[i]? = some oi) (hL : ops[L]? = some oL) (hw : oL.after.any (fun e => Region.binds md e && e.on == i) = true) (hs : Region.noSelect ops = true) (hf : Region.free md ops l i = true) (hr : (Region.ready md ops l).contains i = true)
    (hQ : ∀ c a w, Q (.panic c) (a.put oi.dst v) w → Q (.panic c) a w) (hy : YieldsIf P ops S oi v a) (hS : S w)
    (h : wpAnyL P md ops Q S L f (l.setIfInBounds i true) (a.put oi.dst v) w) : wpAnyL P md ops Q S L (f + 1) l a w :=
  L_first hi hL hw (Region.noSelect_spec hs) hQ f l a w (Region.free_spec hi hf) (by simpa using hr) hy hS h
/-- the same where S is shown behind each operation -/
theorem S_first {i : Nat} {oi : Oper} {v : Value} (hi : ops[i]? = some oi) (hL : ops[L]? = none) (hsel : ∀ (j : Nat) (o : Oper) cs b, ops[j]? = some o → o.op ≠ .select cs b)
    (hQ : ∀ c a w, Q (.panic c) (a.put oi.dst v) w → Q (.panic c) a w) :
    ∀ (f : Nat) (l : Array Bool) (a : Act) (w : World),
      (∀ j oj, ops[j]? = some oj → j ≠ i → l.getD j true = false → (∀ e ∈ oj.after, Region.binds md e = true → e.on ≠ i) → oi.apart ops oj = true) →
      i ∈ Region.ready md ops l → YieldsIf P ops S oi v a → S w →
      wpAnyL P md ops Q S L f (l.setIfInBounds i true) (a.put oi.dst v) w → wpAnyL P md ops Q S L (f + 1) l a w
  | 0, l, a, w, _, hr, hy, hS, H => by
    refine ⟨fun h => (by rw [h] at hr; cases hr), fun j hj => ?_⟩
    by_cases hji : j = i
    · subst hji
      exact hy.wpOp hi hS ⟨fun _ => hS, H⟩
    · have := ready_mono hj hji
      rw [H.1] at this
      cases this
  | f + 1, l, a, w, hfree, hr, hy, hS, H => by
    refine ⟨fun h => (by rw [h] at hr; cases hr), fun j hj => ?_⟩
    by_cases hji : j = i
    · subst hji
      exact hy.wpOp hi hS ⟨fun _ => hS, H⟩
    · obtain ⟨hjun, oj, hoj, hall⟩ := mem_ready.1 hj
      have hiun : l.getD i true = false := (mem_ready.1 hr).1
      have h1 := H.2 j (ready_mono hj hji)
      have hnot : ∀ e ∈ oj.after, Region.binds md e = true → e.on ≠ i := fun e he hb heq => by
        have h2 := hall e he hb
        rw [heq] at h2
        rcases Nat.lt_or_ge i l.size with h' | h'
        · simp [h'] at hiun h2
          rw [hiun] at h2
          cases h2
        · simp [Array.getElem?_eq_none h'] at h2
      have hjL : j ≠ L := by
        rintro rfl
        rw [hL] at hoj
        cases hoj
      have h2 := wpOp_putIf hoj (hfree j oj hoj hji hjun hnot) (fun cs b => hsel i oi cs b hi) (fun cs b => hsel j oj cs b hoj) hQ hy h1
      refine wpOp_mono (fun a' w' h3 => ?_) h2
      obtain ⟨hy', hS', H'⟩ := h3
      rw [Array.setIfInBounds_comm _ _ (Ne.symm hji)] at H'
      refine ⟨fun _ => hS' hjL, S_first hi hL hsel hQ f _ a' w' (fun k ok hk hki hun hno => hfree k ok hk hki ?_ hno) (ready_mono hr (Ne.symm hji)) hy' (hS' hjL) H'⟩
      by_cases hjk : j = k
      · subst hjk; exact hjun
      · rw [getD_set_ne true hjk] at hun; exact hun
theorem S_take {i : Nat} {oi : Oper} {v : Value} {f : Nat} {l : Array Bool} {a : Act} {w : World} (hi : ops[i]? = some oi) (hL : ops[L]? = none) (hs : Region.noSelect ops = true) (hf : Region.free md ops l i = true) (hr : (Region.ready md ops l).contains i = true)
    (hQ : ∀ c a w, Q (.panic c) (a.put oi.dst v) w → Q (.panic c) a w) (hy : YieldsIf P ops S oi v a) (hS : S w)
    (h : wpAnyL P md ops Q S L f (l.setIfInBounds i true) (a.put oi.dst v) w) : wpAnyL P md ops Q S L (f + 1) l a w :=
  S_first hi hL (Region.noSelect_spec hs) hQ f l a w (Region.free_spec hi hf) (by simpa using hr) hy hS h
theorem L_done {f : Nat} {l : Array Bool} {a : Act} {w : World} (hr : Region.ready md ops l = []) (h : Q .normal a w) : wpAnyL P md ops Q S L f l a w := by
  cases f with
  | zero => exact ⟨hr, h⟩
  | succ f => exact ⟨fun _ => h, fun j hj => by rw [hr] at hj; cases hj⟩
/-- one alone may come up, S stands behind it -/
theorem L_one {j : Nat} {o : Oper} {f : Nat} {l : Array Bool} {a : Act} {w : World} (hr : Region.ready md ops l = [j]) (ho : ops[j]? = some o) (hw : Region.wanted o (yielded ops a.tmps) = true)
    (h : Oper.wp P o a w (fun a' w' => S w' ∧ wpAnyL P md ops Q S L f (l.setIfInBounds j true) a' w') Q) : wpAnyL P md ops Q S L (f + 1) l a w := by
  refine ⟨fun h0 => absurd (hr ▸ h0) (by simp), fun k hk => ?_⟩
  rw [hr] at hk
  obtain rfl := List.mem_singleton.1 hk
  refine wpOp_step ho (fun K hK => ?_)
  rw [if_pos hw]
  exact Oper.wp_mono (fun a' w' h' => hK a' w' ⟨fun _ => h'.1, h'.2⟩) h
/-- the last one alone may come up -/
theorem L_last {o : Oper} {f : Nat} {l : Array Bool} {a : Act} {w : World} (hr : Region.ready md ops l = [L]) (ho : ops[L]? = some o) (hw : Region.wanted o (yielded ops a.tmps) = true) (hd : Region.ready md ops (l.setIfInBounds L true) = [])
    (h : Oper.wp P o a w (fun a' w' => Q .normal a' w') Q) : wpAnyL P md ops Q S L (f + 1) l a w := by
  refine ⟨fun h0 => absurd (hr ▸ h0) (by simp), fun k hk => ?_⟩
  rw [hr] at hk
  obtain rfl := List.mem_singleton.1 hk
  refine wpOp_step ho (fun K hK => ?_)
  rw [if_pos hw]
  refine Oper.wp_mono (fun a' w' h' => hK a' w' ⟨fun hne => absurd rfl hne, ?_⟩) h
  cases f with
  | zero => exact ⟨hd, h'⟩
  | succ f => exact ⟨fun _ => h', fun j hj => by rw [hd] at hj; cases hj⟩
/-- the region begins -/
theorem any_beginL {id : Nat} {a : Act} {w : World} (S : World → Prop) (L : Nat) (hm : P.follows .mixedOrders = true) (h : wpAnyL P .any ops (NoPanic Q) S L ops.size (Array.replicate ops.size false) a w.drew) : (Code.region id ops true).wp P Q a w :=
  wp_region_noPanic (wp_region_any hm (any_of_L _ _ _ _ h))
end
end Go.Proofs.YtpklcmocjimcpaaDoor

/-
  What the calls of a writer, nil or not, do. Conditions: the sizes.
-/
namespace Go.Proofs.YtpklcmocjimcpaaDoor
open Go.RowKit
set_option maxRecDepth 100000
set_option linter.unusedSimpArgs false
set_option linter.unusedVariables false
/-- a writer, nil or of the call's own -/
def Wr (w : World) (base : Nat) (F : List Nat) (p : Option Addr) (bs : List Nat) : Prop := (p = none ∧ F = [] ∧ bs = []) ∨ ∃ g, p = some ⟨g, 0, none⟩ ∧ WrAt w base F g bs
def plus (p : Option Addr) (bs news : List Nat) : List Nat := if p.isNone then [] else bs ++ news
def WTo (w : World) (base : Nat) (F : List Nat) (p : Option Addr) (bs : List Nat) (w' : World) : Prop := ∃ F', Wr w' base F' p bs ∧ Only F w w' ∧ Fresh w F F'
section
variable {w w' w1 : World} {base : Nat} {F : List Nat} {p : Option Addr} {bs news : List Nat}
theorem plus_plus (p : Option Addr) (bs a b : List Nat) : plus p (plus p bs a) b = plus p bs (a ++ b) := by
  cases p <;> simp [plus]
theorem plus_len (p : Option Addr) (bs a : List Nat) : (plus p bs a).length ≤ bs.length + a.length := by
  cases p <;> simp [plus]
theorem Wr.under (h : Wr w base F p bs) : Under w F := by
  rcases h with ⟨_, rfl, _⟩ | ⟨g, _, h⟩
  · exact fun k hk => by cases hk
  · exact h.under
theorem Wr.over (h : Wr w base F p bs) : Over base F := by
  rcases h with ⟨_, rfl, _⟩ | ⟨g, _, h⟩
  · exact fun k hk => by cases hk
  · exact h.over
theorem Wr.of (h : Wr w base F p bs) (hk : ∀ k, k ∈ F → w'.heap[k]? = w.heap[k]?) : Wr w' base F p bs := by
  rcases h with h | ⟨g, hp, h⟩
  · exact .inl h
  · exact .inr ⟨g, hp, h.of hk⟩
theorem Wr.below (h : Wr w base F p bs) (hb : Below w.heap.size w w') : Wr w' base F p bs := h.of fun k hk => hb.block k (h.under k hk)
theorem Wr.plus_nil (h : Wr w base F p bs) : plus p bs [] = bs := by
  rcases h with ⟨rfl, _, rfl⟩ | ⟨g, rfl, h⟩
  · rfl
  · simp [plus]
theorem WTo.after {F1 : List Nat} (ho : Only F w w1) (hf : Fresh w F F1) (h : WTo w1 base F1 p bs w') : WTo w base F p bs w' := by
  obtain ⟨F2, h1, h2, h3⟩ := h
  exact ⟨F2, h1, ho.trans h2 hf, hf.trans h3 ho.size⟩
theorem WTo.since (hb : Below w.heap.size w w1) (h : WTo w1 base F p bs w') : WTo w base F p bs w' := h.after (Only.of_below hb F) (Fresh.refl _ _)
end
theorem put_w (w : World) (base : Nat) (F : List Nat) (p : Option Addr) (bs news : List Nat) (B : Nat) (A : Option Addr) (n c : Nat) (h : Wr w base F p bs) (hb : Bytes w B A n news) (hl : bs.length + n ≤ 10000000) (hB : base ≤ w.heap.size) :
    Calls Tryd.prog 72 #[.pointer p, .slice A n c] w fun e w' => e = .returned (.tuple #[]) ∧ WTo w base F p (plus p bs news) w' := by
  rcases h with ⟨rfl, rfl, rfl⟩ | ⟨g, rfl, h⟩
  · exact (put_nil _ w).mono fun e w' ⟨he, hw⟩ => ⟨he, [], .inl ⟨rfl, rfl, rfl⟩, by rw [← hw]; exact Only.refl _ _, Fresh.refl _ _⟩
  · exact (put_any w base g F bs news B A n c h hb hl hB).mono fun e w' ⟨he, F', h1, h2, h3⟩ => ⟨he, F', .inr ⟨g, rfl, h1⟩, h2, h3⟩
theorem eight_size : (Tryd.prog.info? 117).map (·.size) = some 8 := by kernel_rfl
theorem wnum_any (w : World) (base : Nat) (F : List Nat) (p : Option Addr) (bs : List Nat) (n : Int) (h : Wr w base F p bs) (hl : bs.length ≤ 9000000) (hB : base ≤ w.heap.size) :
    Calls Tryd.prog 59 #[.pointer p, .int .i64 n] w fun e w' => e = .returned (.tuple #[]) ∧ WTo w base F p (plus p bs (numB n)) w' := by
  have hz := eight_zero
  have hi : (Tryd.prog.info? 117).map (·.size) = some (u8s (numB n)).length := by rw [u8s_length, numB_len]; exact eight_size
  go_enter Tryd.func59, Tryd.ntmps59
  go_wp2_with fail
  refine (packed_any n w).mono ?_
  rintro e w1 ⟨rfl, b1⟩
  go_wp2_with (first | (refine wpList_store_newN rfl 117 (.tmp 4) (.tmp 6) rfl w1.heap.size rfl (u8s (numB n)) _ rfl rfl hi (by rw [u8s_length, numB_len]; rfl) (oneCell_u8s _) ?_))
  have B1 : Below w.heap.size w (w1.alloc (.cells (u8s (numB n)).toArray 117)) := b1.alloc b1.size _
  have hb8 : Bytes (w1.alloc (.cells (u8s (numB n)).toArray 117)) (w1.heap.size + 1) (some ⟨w1.heap.size, 0, none⟩) 8 (numB n) := by
    have := Bytes.new w1 (numB n) 117 (0, 0) (numB_lt n)
    rwa [numB_len] at this
  refine (put_w _ base F p bs (numB n) _ _ 8 8 (h.below B1) hb8 (by omega) (Nat.le_trans hB B1.size)).mono ?_
  rintro e w2 ⟨rfl, h2⟩
  go_wp2
  refine bodyPost_end (results_none rfl _ _ _) rfl ?_
  exact ⟨rfl, h2.since B1⟩
theorem wbyte_any (w : World) (base : Nat) (F : List Nat) (p : Option Addr) (bs : List Nat) (b : Nat) (h : Wr w base F p bs) (hl : bs.length ≤ 9000000) (hB : base ≤ w.heap.size) (hb : b < 256) :
    Calls Tryd.prog 77 #[.pointer p, .int .u8 b] w fun e w' => e = .returned (.tuple #[]) ∧ WTo w base F p (plus p bs [b]) w' := by
  go_enter Tryd.func77, Tryd.ntmps77
  go_wp2_with fail
  have B1 := below_alloc w (.cells (u8s [b]).toArray 5)
  refine (put_w _ base F p bs [b] _ _ 1 1 (h.below B1) (Bytes.new w [b] 5 (0, 0) (by simpa using hb)) (by omega) (Nat.le_trans hB B1.size)).mono ?_
  rintro e w2 ⟨rfl, h2⟩
  go_wp2
  refine bodyPost_end (results_none rfl _ _ _) rfl ?_
  exact ⟨rfl, h2.since B1⟩
theorem Bytes.only {w w' : World} {B n : Nat} {A : Option Addr} {bs F : List Nat} (h : Bytes w B A n bs) (ho : Only F w w') (ha : ∀ a, A = some a → 0 < n → a.block ∉ F) : Bytes w' B A n bs :=
  ⟨⟨h.1.1, fun hn => by
    obtain ⟨ad, e, hB, hc⟩ := h.1.2 hn
    exact ⟨ad, e, hB, fun j u hu => (ho.cell (World.block_lt_of_cell? w _ (hc j u hu)) (by rw [block_of_add]; exact ha ad e hn)).trans (hc j u hu)⟩⟩, h.2⟩
theorem strOf_size (bs : List Nat) : (strOf bs).size = bs.length := by simp [strOf, strOfNums_size]
/-- a string as new bytes -/
theorem conv_str (w : World) (bs : List Nat) (hb : ∀ b ∈ bs, b < 256) : ∃ cap w', (convert 9 34 (.string (strOf bs))).run Tryd.prog w = .ok (.slice (some ⟨w.heap.size, 0, none⟩) bs.length cap) w' ∧ Below w.heap.size w w' ∧ Bytes w' (w.heap.size + 1) (some ⟨w.heap.size, 0, none⟩) bs.length bs := by
  have h := Lib.run_convert_string_bytes (P := Tryd.prog) w 9 34 5 (strOf bs) Tryd.underlying9 Tryd.underlying34 Tryd.underlying5
  rw [strOf_size] at h
  refine ⟨_, _, h, ⟨rfl, rfl, rfl, by rw [Lib.bytesWorld_size]; omega, fun i hi => Lib.bytesWorld_at_old _ _ _ _ hi⟩, ⟨⟨by simp [u8s], fun hn => ⟨_, rfl, Nat.lt_succ_self _, fun j u hu => ?_⟩⟩, hb⟩⟩
  have hj : j < bs.length := by
    rcases Nat.lt_or_ge j bs.length with h' | h'
    · exact h'
    · rw [List.getElem?_eq_none (by rw [u8s_length]; exact h')] at hu; cases hu
  rw [add_zero_off, Lib.bytesWorld_cell _ _ _ _ (by rw [strOf_size]; exact hj), ← hu]
  have hbj := hb _ (List.getElem_mem hj)
  simp [strOf, strOfNums_data, u8s, u8, hj]
  omega
theorem wpList_conv {ops : Array Oper} {rest : List Oper} {o : Oper} {a : Act} {w : World} {Q : Exit → Act → World → Prop} (hg : o.guard = none) (x : Operand) (ho : o.op = .convert 9 34 x) (bs : List Nat) (hx : a.eval x = .string (strOf bs)) (hb : ∀ b ∈ bs, b < 256)
    (h : ∀ cap w', Below w.heap.size w w' → Bytes w' (w.heap.size + 1) (some ⟨w.heap.size, 0, none⟩) bs.length bs → wpList Tryd.prog ops Q rest (a.put o.dst (.slice (some ⟨w.heap.size, 0, none⟩) bs.length cap)) w') : wpList Tryd.prog ops Q (o :: rest) a w := by
  obtain ⟨cap, w', hr, h1, h2⟩ := conv_str w bs hb
  refine wpList_plain hg fun _ hK => wp_ran (w' := w') ?_ (hK _ _ (h cap w' h1 h2))
  simp [execOp, ho, hx, hr, Result.andThen]
/-- numbers as cells -/
def i64s (l : List Int) : List Value := l.map (.int .i64)
theorem i64s_length (l : List Int) : (i64s l).length = l.length := by simp [i64s]
def Ints (w : World) (B : Nat) (A : Option Addr) (n : Nat) (l : List Int) : Prop := Reads w B 1 A n (i64s l)
theorem Ints.len {w : World} {B n : Nat} {A : Option Addr} {l : List Int} (h : Ints w B A n l) : l.length = n := by have := h.1; rw [i64s_length] at this; omega
theorem Ints.only {w w' : World} {B n : Nat} {A : Option Addr} {l : List Int} {F : List Nat} (h : Ints w B A n l) (ho : Only F w w') (ha : ∀ a, A = some a → 0 < n → a.block ∉ F) : Ints w' B A n l :=
  ⟨h.1, fun hn => by
    obtain ⟨ad, e, hB, hc⟩ := h.2 hn
    exact ⟨ad, e, hB, fun j u hu => (ho.cell (World.block_lt_of_cell? w _ (hc j u hu)) (by rw [block_of_add]; exact ha ad e hn)).trans (hc j u hu)⟩⟩
theorem Ints.at_ {w : World} {B n k : Nat} {A : Option Addr} {l : List Int} (h : Ints w B A n l) (hk : k < n) : ∃ ad x, A = some ad ∧ l[k]? = some x ∧ w.cell? (ad.add k) = some (.int .i64 x) := by
  obtain ⟨ad, u, e, hb, hx, hc⟩ := Reads.at_ h hk
  have hl : k < l.length := by have := h.len; omega
  refine ⟨ad, l[k], e, List.getElem?_eq_getElem hl, ?_⟩
  rw [hc, ← hx]
  simp [i64s, hl]
def numsB (l : List Int) : List Nat := numB l.length ++ l.flatMap numB
theorem numsB_len (l : List Int) : (numsB l).length = 8 + 8 * l.length := by
  have : (l.flatMap numB).length = 8 * l.length := by
    induction l with
    | nil => rfl
    | cons x l ih => rw [List.flatMap_cons, List.length_append, ih, numB_len, List.length_cons]; omega
  rw [numsB, List.length_append, numB_len, this]
theorem out_any (w : World) (base : Nat) (F : List Nat) (p : Option Addr) (bs : List Nat) (h : Wr w base F p bs) (hl : bs.length ≤ 9000000) :
    Calls Tryd.prog 60 #[.pointer p] w fun e w' => ∃ v, e = .returned v ∧ Own w' w.heap.size v bs.length bs ∧ Below w.heap.size w w' := by
  rcases h with ⟨rfl, rfl, rfl⟩ | ⟨g, rfl, v, rfl, h1, h2, h3, h4⟩
  · go_enter Tryd.func60, Tryd.ntmps60
    go_wp2
    go_ret
    exact ⟨_, rfl, Own.nil _ _, Below.refl _ _⟩
  · obtain ⟨A1, c1, rfl, -, -, -⟩ := h2.form
    have hc : w.cell? ⟨g, 0, none⟩ = some (.slice A1 bs.length c1) := by rw [h1.cell]; rfl
    go_enter Tryd.func60, Tryd.ntmps60
    go_wp2_with fail
    refine (clone_any A1 bs.length c1 bs w w.heap.size (by omega) (h2.bytes h4)).mono ?_
    rintro e w' ⟨v, rfl, h5, h6⟩
    go_wp2
    go_ret
    exact ⟨v, rfl, h5, h6⟩
end Go.Proofs.YtpklcmocjimcpaaDoor

/-
  What the calls of the program's reader, nil or not, do. Conditions: the reader lies where it is said to.
-/
namespace Go.Proofs.YtpklcmocjimcpaaDoor
open Go.RowKit
set_option maxRecDepth 100000
set_option linter.unusedSimpArgs false
set_option linter.unusedVariables false
/-- a reader of the call's own at g -/
def RdAt (w : World) (base : Nat) (F : List Nat) (g : Nat) (s : RD) : Prop :=
  ∃ A c, F = g :: (A.map Addr.block).toList ∧ Blk w g 137 #[.slice A s.bs.length c, .bool s.bad] ∧ Bytes w w.heap.size A s.bs.length s.bs ∧ s.bs.length ≤ c ∧ c ≤ maxLen ∧ base ≤ g ∧ (∀ a, A = some a → base ≤ a.block ∧ a.block < w.heap.size ∧ a.block ≠ g) ∧ s.Good
/-- a reader, nil or of the call's own -/
def Rd (w : World) (base : Nat) (F : List Nat) (p : Option Addr) (s : RD) : Prop := (p = none ∧ F = [] ∧ s = RD.spoilt) ∨ ∃ g, p = some ⟨g, 0, none⟩ ∧ RdAt w base F g s
def RTo (w : World) (base : Nat) (F : List Nat) (p : Option Addr) (s : RD) (w' : World) : Prop := ∃ F', Rd w' base F' p s ∧ Only F w w' ∧ Fresh w F F'
section
variable {w w' w1 : World} {base g : Nat} {F : List Nat} {p : Option Addr} {s : RD}
theorem RdAt.of (h : RdAt w base F g s) (hs : w.heap.size ≤ w'.heap.size) (hk : ∀ k, k ∈ F → w'.heap[k]? = w.heap[k]?) : RdAt w' base F g s := by
  obtain ⟨A, c, rfl, h1, h2, h3, h4, h5, h6, h7⟩ := h
  refine ⟨A, c, rfl, h1.of (hk g (by simp)), ⟨⟨h2.1.1, fun hn => ?_⟩, h2.2⟩, h3, h4, h5, fun a ha => ⟨(h6 a ha).1, Nat.lt_of_lt_of_le (h6 a ha).2.1 hs, (h6 a ha).2.2⟩, h7⟩
  obtain ⟨ad, e, hB, hc⟩ := h2.1.2 hn
  exact ⟨ad, e, Nat.lt_of_lt_of_le hB hs, fun j u hu => (World.cell?_of_block (hk _ (by rw [block_of_add, e]; simp))).trans (hc j u hu)⟩
theorem RdAt.under (h : RdAt w base F g s) : Under w F := by
  obtain ⟨A, c, rfl, h1, h2, h3, h4, h5, h6, h7⟩ := h
  intro k hk
  rcases List.mem_cons.1 hk with rfl | hk
  · exact h1.lt
  · cases A with
    | none => cases hk
    | some a => simp at hk; subst hk; exact (h6 a rfl).2.1
theorem RdAt.over (h : RdAt w base F g s) : Over base F := by
  obtain ⟨A, c, rfl, h1, h2, h3, h4, h5, h6, h7⟩ := h
  intro k hk
  rcases List.mem_cons.1 hk with rfl | hk
  · exact h5
  · cases A with
    | none => cases hk
    | some a => simp at hk; subst hk; exact (h6 a rfl).1
theorem Rd.under (h : Rd w base F p s) : Under w F := by
  rcases h with ⟨_, rfl, _⟩ | ⟨g, _, h⟩
  · exact fun k hk => by cases hk
  · exact h.under
theorem Rd.over (h : Rd w base F p s) : Over base F := by
  rcases h with ⟨_, rfl, _⟩ | ⟨g, _, h⟩
  · exact fun k hk => by cases hk
  · exact h.over
theorem Rd.of (h : Rd w base F p s) (hs : w.heap.size ≤ w'.heap.size) (hk : ∀ k, k ∈ F → w'.heap[k]? = w.heap[k]?) : Rd w' base F p s := by
  rcases h with h | ⟨g, hp, h⟩
  · exact .inl h
  · exact .inr ⟨g, hp, h.of hs hk⟩
theorem Rd.below (h : Rd w base F p s) (hb : Below w.heap.size w w') : Rd w' base F p s := h.of hb.size fun k hk => hb.block k (h.under k hk)
theorem Rd.good (h : Rd w base F p s) : s.Good := by
  rcases h with ⟨_, _, rfl⟩ | ⟨g, _, A, c, _, _, _, _, _, _, _, h⟩
  · exact RD.spoilt_good
  · exact h
theorem Rd.len (h : Rd w base F p s) : s.bs.length ≤ maxLen := by
  rcases h with ⟨_, _, rfl⟩ | ⟨g, _, A, c, _, _, _, h1, h2, _⟩
  · simp [RD.spoilt, maxLen]
  · omega
theorem RTo.after {F1 : List Nat} (ho : Only F w w1) (hf : Fresh w F F1) (h : RTo w1 base F1 p s w') : RTo w base F p s w' := by
  obtain ⟨F2, h1, h2, h3⟩ := h
  exact ⟨F2, h1, ho.trans h2 hf, hf.trans h3 ho.size⟩
theorem RTo.since (hb : Below w.heap.size w w1) (h : RTo w1 base F p s w') : RTo w base F p s w' := h.after (Only.of_below hb F) (Fresh.refl _ _)
theorem RTo.stay (h : Rd w base F p s) : RTo w base F p s w := ⟨F, h, Only.refl _ _, Fresh.refl _ _⟩
theorem RTo.then_ (h : RTo w base F p s w1) (hb : Below w1.heap.size w1 w') : RTo w base F p s w' := by
  obtain ⟨F2, h1, h2, h3⟩ := h
  exact ⟨F2, h1.below hb, h2.trans (Only.of_below hb F2) h3, h3⟩
end
theorem left_any (w : World) (base : Nat) (F : List Nat) (p : Option Addr) (s : RD) (h : Rd w base F p s) :
    Calls Tryd.prog 88 #[.pointer p] w fun e w' => e = .returned (.int .i64 s.bs.length) ∧ w = w' := by
  rcases h with ⟨rfl, rfl, rfl⟩ | ⟨g, rfl, A, c, rfl, h1, h2, h3, h4, h5, h6, h7⟩
  · go_enter Tryd.func88, Tryd.ntmps88
    go_wp2
    go_ret
    exact ⟨rfl, rfl⟩
  · have hc : w.cell? ⟨g, 0, none⟩ = some (.slice A s.bs.length c) := by rw [h1.cell]; rfl
    go_enter Tryd.func88, Tryd.ntmps88
    go_wp2
    go_ret
    exact ⟨rfl, rfl⟩
theorem reader_zero (w : World) : (zeroValue 137).run Tryd.prog w = .ok (.agg #[.slice none 0 0, .bool false]) w := by kernel_rfl
theorem spoil_any (w : World) (base : Nat) (F : List Nat) (p : Option Addr) (s : RD) (h : Rd w base F p s) :
    Calls Tryd.prog 89 #[.pointer p] w fun e w' => e = .returned (.tuple #[]) ∧ RTo w base F p RD.spoilt w' := by
  rcases h with ⟨rfl, rfl, rfl⟩ | ⟨g, rfl, A, c, rfl, h1, h2, h3, h4, h5, h6, h7⟩
  · go_enter Tryd.func89, Tryd.ntmps89
    go_wp2
    refine bodyPost_end (results_none rfl _ _ _) rfl ?_
    exact ⟨rfl, RTo.stay (.inl ⟨rfl, rfl, rfl⟩)⟩
  · have hc0 : w.cell? ⟨g, 0, none⟩ = some (.slice A s.bs.length c) := by rw [h1.cell]; rfl
    have hc1 : w.cell? ⟨g, 1, none⟩ = some (.bool s.bad) := by rw [h1.cell]; rfl
    have hf0 : w.frozen? ⟨g, 0, none⟩ = false := h1.frozen _
    have hf1 : w.frozen? ⟨g, 1, none⟩ = false := h1.frozen _
    have hz := reader_zero
    go_enter Tryd.func89, Tryd.ntmps89
    go_wp2
    refine bodyPost_end (results_none rfl _ _ _) rfl ?_
    have hb2 : Blk ((w.setCell ⟨g, 0, none⟩ (.slice none 0 0)).setCell ⟨g, 1, none⟩ (.bool true)) g 137 #[.slice none 0 0, .bool true] := (h1.set_ 0 _).set_ 1 _
    exact ⟨rfl, [g], .inr ⟨g, rfl, none, 0, rfl, hb2, ⟨Reads.none_, fun b hb => by cases hb⟩, Nat.le_refl _, by simp [maxLen], h5, fun a ha => (by cases ha), RD.spoilt_good⟩,
      ((Only.refl _ _).setCell (.inl (by simp)) _).setCell (.inl (by simp)) _, fun k hk => .inl (by simp at hk; subst hk; simp)⟩
theorem cut_addr (A : Option Addr) (k cap : Nat) (a : Addr) (h : (if cap = k then A else A.map (·.add k)) = some a) : ∃ a', A = some a' ∧ a'.block = a.block := by
  split at h
  · exact ⟨a, h, rfl⟩
  · cases A with
    | none => cases h
    | some a' => simp at h; exact ⟨a', rfl, by rw [← h, block_of_add]⟩
theorem RD.take_fit {s : RD} {k : Nat} (hb : s.bad = false) (hk : k ≤ s.bs.length) : s.take k = ⟨s.bs.drop k, false⟩ ∧ s.got k = s.bs.take k := by
  have : s.fits k = true := by simp [RD.fits, hb]; omega
  simp [RD.take, RD.got, this]
theorem RD.take_un {s : RD} {n : Int} (h : n < 0 ∨ (s.bs.length : Int) < n ∨ s.bad = true) : s.take n = RD.spoilt ∧ s.got n = [] := by
  have : s.fits n = false := by
    simp only [RD.fits, Bool.and_eq_false_iff, Bool.not_eq_false', decide_eq_false_iff_not]
    rcases h with h | h | h
    · exact .inl (.inr (by omega))
    · exact .inr (by omega)
    · exact .inl (.inl h)
  simp [RD.take, RD.got, this]
theorem RD.eta {s : RD} (h : s.Good) (hb : s.bad = true) : s = RD.spoilt := by
  obtain ⟨bs, bad⟩ := s
  have := h.1 hb
  simp at hb this
  subst hb this
  rfl
theorem take_done (w : World) (base g k : Nat) (A : Option Addr) (c : Nat) (s : RD) (h1 : Blk w g 137 #[.slice A s.bs.length c, .bool s.bad]) (h2 : Bytes w w.heap.size A s.bs.length s.bs) (h3 : s.bs.length ≤ c) (h4 : c ≤ maxLen) (h5 : base ≤ g) (h6 : ∀ a, A = some a → base ≤ a.block ∧ a.block < w.heap.size ∧ a.block ≠ g) (h7 : s.Good) (hk : k ≤ s.bs.length) (hbad : s.bad = false) :
    RTo w base (g :: (A.map Addr.block).toList) (some ⟨g, 0, none⟩) ⟨s.bs.drop k, false⟩ (w.setCell ⟨g, 0, none⟩ (.slice (if c = k then A else A.map (·.add k)) (s.bs.length - k) (c - k))) ∧
    Bytes (w.setCell ⟨g, 0, none⟩ (.slice (if c = k then A else A.map (·.add k)) (s.bs.length - k) (c - k))) w.heap.size A k (s.bs.take k) := by
  have hset : ∀ (B n : Nat) (A' : Option Addr) (bs : List Nat) (v : Value), Bytes w B A' n bs → (∀ a, A' = some a → a.block ≠ g) → Bytes (w.setCell ⟨g, 0, none⟩ v) B A' n bs := fun B n A' bs v h hne =>
    ⟨⟨h.1.1, fun hn => by
      obtain ⟨ad, e, hB, hc⟩ := h.1.2 hn
      exact ⟨ad, e, hB, fun j u hu => (World.cell?_setCell_other _ _ _ _ (fun e' => hne ad e (by have := congrArg Addr.block e'; rw [block_of_add] at this; exact this.symm))).trans (hc j u hu)⟩⟩, h.2⟩
  have hcut : Bytes w w.heap.size (if c = k then A else A.map (·.add k)) (s.bs.length - k) (s.bs.drop k) := by
    have := h2.1.cut hk h3
    rw [Nat.mul_one, u8s, ← List.map_drop] at this
    exact ⟨this, fun b hb => h2.2 b (List.mem_of_mem_drop hb)⟩
  refine ⟨⟨g :: ((if c = k then A else A.map (·.add k)).map Addr.block).toList, .inr ⟨g, rfl, _, c - k, rfl, ?_, ?_, ?_, by omega, h5, fun a ha => ?_, ?_⟩, (Only.refl _ _).setCell (.inl (by simp)) _, fun j hj => .inl ?_⟩, hset _ _ _ _ _ (h2.take hk) (fun a ha => (h6 a ha).2.2)⟩
  · have := h1.set_ 0 (.slice (if c = k then A else A.map (·.add k)) (s.bs.length - k) (c - k))
    rw [hbad] at this
    simpa using this
  · have := hset _ _ _ _ (.slice (if c = k then A else A.map (·.add k)) (s.bs.length - k) (c - k)) hcut (fun a ha => by
      obtain ⟨a', h, hb⟩ := cut_addr A k c a ha
      rw [← hb]
      exact (h6 a' h).2.2)
    simp only [List.length_drop]
    exact this.more (by simp [World.setCell])
  · simp only [List.length_drop]; omega
  · obtain ⟨a', h, hb⟩ := cut_addr A k c a ha
    rw [← hb]
    have := h6 a' h
    exact ⟨this.1, by simpa [World.setCell] using this.2.1, this.2.2⟩
  · exact ⟨fun e => (by cases e), fun b hb => h7.2 b (List.mem_of_mem_drop hb)⟩
  · rcases List.mem_cons.1 hj with rfl | hj
    · simp
    · refine List.mem_cons_of_mem _ ?_
      simp only [Option.mem_toList, Option.mem_def, Option.map_eq_some_iff] at hj ⊢
      obtain ⟨a, ha, rfl⟩ := hj
      obtain ⟨a', h, hb⟩ := cut_addr A k c a ha
      exact ⟨a', h, hb⟩
theorem take_any (w : World) (base : Nat) (F : List Nat) (p : Option Addr) (s : RD) (n : Int) (h : Rd w base F p s) (hn1 : -9223372036854775808 ≤ n) (hn2 : n ≤ 9223372036854775807) :
    Calls Tryd.prog 86 #[.pointer p, .int .i64 n] w fun e w' => ∃ A c, e = .returned (.slice A (s.got n).length c) ∧ RTo w base F p (s.take n) w' ∧ (∃ B, Bytes w' B A (s.got n).length (s.got n)) ∧ (∀ a, A = some a → a.block ∈ F) ∧ (A = none → (s.got n).length = 0) := by
  by_cases h0 : n < 0
  · obtain ⟨e1, e2⟩ := RD.take_un (s := s) (.inl h0)
    rw [e1, e2]
    have hd : decide (n < 0) = true := by simpa using h0
    go_enter Tryd.func86, Tryd.ntmps86
    go_wp2_with fail
    refine (spoil_any w base F p s h).mono ?_
    rintro e w1 ⟨rfl, r1⟩
    go_wp2
    go_ret
    exact ⟨none, 0, rfl, r1, ⟨0, Reads.none_, fun b hb => by cases hb⟩, fun a ha => (by cases ha), by simp⟩
  · have hd : decide (n < 0) = false := by simpa using h0
    by_cases hl : (s.bs.length : Int) < n
    · obtain ⟨e1, e2⟩ := RD.take_un (s := s) (n := n) (.inr (.inl hl))
      rw [e1, e2]
      have hd2 : decide ((s.bs.length : Int) < n) = true := by simpa using hl
      go_enter Tryd.func86, Tryd.ntmps86
      go_wp2_with fail
      refine (left_any w base F p s h).mono ?_
      rintro e w1 ⟨rfl, rfl⟩
      go_wp2_with fail
      refine (spoil_any w base F p s h).mono ?_
      rintro e w1 ⟨rfl, r1⟩
      go_wp2
      go_ret
      exact ⟨none, 0, rfl, r1, ⟨0, Reads.none_, fun b hb => by cases hb⟩, fun a ha => (by cases ha), by simp⟩
    · have hd2 : decide ((s.bs.length : Int) < n) = false := by simpa using hl
      obtain ⟨k, rfl⟩ := Int.eq_ofNat_of_zero_le (show 0 ≤ n by omega)
      by_cases hk0 : k = 0
      · subst hk0
        have hd3 : (((0 : Nat) : Int) == 0) = true := rfl
        have e1 : s.take ((0 : Nat) : Int) = s ∧ s.got ((0 : Nat) : Int) = [] := by
          cases hb : s.bad with
          | true => rw [RD.eta h.good hb]; exact ⟨rfl, rfl⟩
          | false =>
            obtain ⟨e1, e2⟩ := RD.take_fit (k := 0) hb (Nat.zero_le _)
            rw [e1, e2]
            obtain ⟨bs, bad⟩ := s
            simp at hb
            subst hb
            exact ⟨rfl, rfl⟩
        rw [e1.1, e1.2]
        go_enter Tryd.func86, Tryd.ntmps86
        go_wp2_with fail
        refine (left_any w base F p s h).mono ?_
        rintro e w1 ⟨rfl, rfl⟩
        go_wp2
        go_ret
        exact ⟨none, 0, rfl, RTo.stay h, ⟨0, Reads.none_, fun b hb => by cases hb⟩, fun a ha => (by cases ha), by simp⟩
      · have hd3 : ((k : Int) == 0) = false := by simp; omega
        have hkl : k ≤ s.bs.length := by omega
        have hbad : s.bad = false := by
          cases hb : s.bad with
          | false => rfl
          | true => have := h.good.1 hb; rw [this] at hkl; simp at hkl; omega
        obtain ⟨e1, e2⟩ := RD.take_fit hbad hkl
        rw [e1, e2]
        have hlc := left_any w base F p s h
        rcases h with ⟨rfl, rfl, rfl⟩ | ⟨g, rfl, A, c, rfl, h1, h2, h3, h4, h5, h6, h7⟩
        · simp [RD.spoilt] at hkl; omega
        · have hc0 : w.cell? ⟨g, 0, none⟩ = some (.slice A s.bs.length c) := by rw [h1.cell]; rfl
          have hf0 : w.frozen? ⟨g, 0, none⟩ = false := h1.frozen _
          unfold maxLen at h4
          have q1 : (0 : Int) ≤ (k : Int) := by omega
          have q2 : (k : Int) ≤ (c : Int) := by omega
          have q3 : (k : Int) ≤ (s.bs.length : Int) := by omega
          have hkc : k ≤ c := by omega
          go_enter Tryd.func86, Tryd.ntmps86
          go_wp2_with fail
          refine hlc.mono ?_
          rintro e w1 ⟨he, hw⟩
          subst hw
          subst he
          have hdone := take_done w base g k A c s h1 h2 h3 h4 h5 h6 h7 hkl hbad
          have hlen : (s.bs.take k).length = k := by rw [List.length_take]; omega
          have hAF : ∀ a, A = some a → a.block ∈ g :: (A.map Addr.block).toList := fun a ha => by subst ha; simp
          have hAn : A = none → (s.bs.take k).length = 0 := fun ha => by
            subst ha
            obtain ⟨_, h, _⟩ := h2.1.2 (by omega)
            cases h
          have HD := Lib.hid hdone
          have HAF := Lib.hid hAF
          have HAn := Lib.hid hAn
          clear hdone hAF hAn
          by_cases hck : c = k
          · have hHD := HD.out
            rw [if_pos hck] at hHD
            have HD2 := Lib.hid hHD
            clear hHD HD
            subst hck
            go_wp2
            go_ret
            rw [hlen]
            have := HD2.out
            rw [Nat.sub_self, show s.bs.length - c = 0 by omega] at this
            exact ⟨A, _, rfl, this.1, ⟨_, this.2⟩, HAF.out, by rw [← hlen]; exact HAn.out⟩
          · have hHD := HD.out
            rw [if_neg hck] at hHD
            have HD2 := Lib.hid hHD
            clear hHD HD
            go_wp2
            go_ret
            rw [hlen]
            exact ⟨A, _, rfl, HD2.out.1, ⟨_, HD2.out.2⟩, HAF.out, by rw [← hlen]; exact HAn.out⟩
end Go.Proofs.YtpklcmocjimcpaaDoor

/-
  What the program's reader reads: a byte, a number, a flag, bytes, a text, numbers; its end. Conditions: the reader lies where it is said to.
-/
namespace Go.Proofs.YtpklcmocjimcpaaDoor
open Go.RowKit
set_option maxRecDepth 100000
set_option linter.unusedSimpArgs false
set_option linter.unusedVariables false
theorem byte_size1 : (Tryd.prog.info? 5).map (·.size) = some 1 := by kernel_rfl
/-- copy onto a whole block, of as many bytes or of none -/
theorem wp_copy_full {o : Oper} {a : Act} {w : World} {K : Act → World → Prop} {Q : Exit → Act → World → Prop} (x y : Operand) (ho : o.op = .call { callee := .builtin .copy, args := #[x, y], argTypes := #[34, 34] })
    (gb m : Nat) (t : TypeId) (cur : List Value) (hg : Blk w gb t cur.toArray) (hcur : cur.length = m) (hx : a.eval x = .slice (some ⟨gb, 0, none⟩) m m) (A : Option Addr) (k c B : Nat) (bs : List Nat) (hy : a.eval y = .slice A k c) (hb : Bytes w B A k bs) (hk : k = m ∨ k = 0) (hm : 0 < m)
    (h : ∀ w', Blk w' gb t (if k = 0 then cur else u8s bs).toArray → Only [gb] w w' → K (a.put o.dst (goInt k)) w') : o.wp Tryd.prog a w K Q := by
  rcases hk with rfl | rfl
  · obtain ⟨ad, rfl, hB, hc⟩ := hb.1.2 hm
    have hl : (u8s bs).length = k := by rw [u8s_length, hb.len]
    have hrun := run_copy_row (P := Tryd.prog) w 34 34 o.type 5 gb 0 k k ad k c cur.toArray t (u8s bs) Tryd.underlying34 byte_size1 hg (by rw [hl]; exact (Nat.min_self k).symm) hc (by simp [hl, hcur]) (oneCell_u8s _)
    unfold Oper.wp
    simp [execOp, ho, resolve, invoke, builtin, hx, hy, hrun, Result.andThen]
    rw [hl]
    refine h _ ?_ ?_
    · rw [if_neg (by omega)]
      have := setRow_heap w gb cur.toArray (u8s bs).toArray t (0, 0) hg
      have e : (u8s bs ++ List.drop k cur).toArray = (u8s bs).toArray := by rw [List.drop_of_length_le (by omega), List.append_nil]
      unfold Blk
      simpa [e, hl, hcur, List.drop_of_length_le (show cur.length ≤ k by omega)] using this
    · exact ⟨rfl, rfl, rfl, by simp [World.setRow], fun j hj hn => setRow_other w gb j _ (fun e => hn (by simp [e]))⟩
  · have hrun := run_copy_none (P := Tryd.prog) w 34 34 o.type 5 (some ⟨gb, 0, none⟩) A m m 0 c Tryd.underlying34 byte_size1 (Nat.zero_min m)
    unfold Oper.wp
    simp [execOp, ho, resolve, invoke, builtin, hx, hy, hrun, Result.andThen]
    exact h w (by simpa using hg) (Only.refl _ _)
theorem got_len (s : RD) (k : Nat) : (s.got k).length = k ∨ (s.got k).length = 0 := by
  unfold RD.got
  split
  · rename_i h
    simp [RD.fits] at h
    left
    rw [List.length_take]
    omega
  · exact .inr rfl
theorem unpacked_list (l : List Nat) (hl : l.length = 8) (hb : ∀ b ∈ l, b < 256) (w : World) :
    Calls Tryd.prog 87 #[.agg (u8s l).toArray] w fun e w' => e = .returned (.int .i64 (numOf l)) ∧ Below w.heap.size w w' := by
  match l, hl with
  | [b0, b1, b2, b3, b4, b5, b6, b7], _ => exact unpacked_any b0 b1 b2 b3 b4 b5 b6 b7 w (hb _ (by simp)) (hb _ (by simp)) (hb _ (by simp)) (hb _ (by simp)) (hb _ (by simp)) (hb _ (by simp)) (hb _ (by simp)) (hb _ (by simp))
def padded (m : Nat) (l : List Nat) : List Nat := if l.length = 0 then List.replicate m 0 else l
theorem numOf_padded (l : List Nat) : numOf (padded 8 l) = numOf l := by
  unfold padded
  split
  · rename_i h
    obtain rfl := List.eq_nil_of_length_eq_zero h
    simp [numOf, un, List.replicate]
  · rfl
theorem u8s_zeros (m : Nat) : u8s (List.replicate m 0) = List.replicate m (.int .u8 0) := by simp [u8s, u8]
theorem rnum_any (w : World) (base : Nat) (F : List Nat) (p : Option Addr) (s : RD) (h : Rd w base F p s) (hB : base ≤ w.heap.size) :
    Calls Tryd.prog 82 #[.pointer p] w fun e w' => e = .returned (.int .i64 s.num) ∧ RTo w base F p (s.take 8) w' := by
  obtain ⟨Zs, hz, hZs⟩ : ∃ Zs : List Value, (∀ w, (zeroValue 117).run Tryd.prog w = .ok (.agg Zs.toArray) w) ∧ Zs = u8s (List.replicate 8 0) := ⟨_, eight_zero, rfl⟩
  have hzl : Zs.length = 8 := by rw [hZs, u8s_length]; rfl
  have HZ := Lib.hid hZs
  clear hZs
  have B0 := Lib.hid (Blk.new w 117 Zs.toArray)
  have b0 := below_alloc w (.cells Zs.toArray 117)
  have H0 := Lib.hid (h.below b0)
  have hgw : w.heap.size ∉ F := fun hm => by have := h.under _ hm; omega
  have b0' := Lib.hid b0
  clear h b0
  go_enter Tryd.func82, Tryd.ntmps82
  go_wp2_with fail
  have hBw : base ≤ (w.alloc (.cells Zs.toArray 117)).heap.size := Nat.le_trans hB b0'.out.size
  generalize w.alloc (.cells Zs.toArray 117) = w0 at *
  generalize hgb : w.heap.size = gb at *
  refine any_begin (by kernel_rfl) ?_
  refine wpAny_take (i := 0) (v := .slice (some ⟨gb, 0, none⟩) 8 8) rfl (by kernel_rfl) (by kernel_rfl) (by kernel_rfl) (fun _ _ _ h => h) (Or.inl ⟨by rfl, fun w => by go_simp⟩) ?_
  simp only [Act.put, List.getElem_toArray, List.getElem_cons_succ, List.getElem_cons_zero, List.setIfInBounds_toArray, List.set_cons_zero, List.set_cons_succ]
  refine wpAny_take (i := 1) (v := .pointer p) rfl (by kernel_rfl) (by kernel_rfl) (by kernel_rfl) (fun _ _ _ h => h) (Or.inl ⟨by rfl, fun w => by kernel_rfl⟩) ?_
  simp only [Act.put, List.getElem_toArray, List.getElem_cons_succ, List.getElem_cons_zero, List.setIfInBounds_toArray, List.set_cons_zero, List.set_cons_succ]
  refine do_one (i := 2) (by kernel_rfl) rfl (by rfl) ?_
  simp only [Act.put, List.getElem_toArray, List.getElem_cons_succ, List.getElem_cons_zero, List.setIfInBounds_toArray, List.set_cons_zero, List.set_cons_succ]
  refine wp_called (by kernel_rfl) (take_any w0.drew base F p s 8 (H0.out.of (Nat.le_refl _) (fun _ _ => rfl)) (by omega) (by omega)) ?_
  rintro e w1 ⟨A, c, rfl, ⟨F1, r1, o1, f1⟩, ⟨B, hb⟩, -, -⟩
  refine ⟨_, rfl, ?_⟩
  simp only [Act.put, List.getElem_toArray, List.getElem_cons_succ, List.getElem_cons_zero, List.setIfInBounds_toArray, List.set_cons_zero, List.set_cons_succ]
  have B1 : Blk w1 gb 117 Zs.toArray := B0.out.of (o1.block gb B0.out.lt hgw)
  refine do_one (i := 3) (by kernel_rfl) rfl (by rfl) ?_
  simp only [Act.put, List.getElem_toArray, List.getElem_cons_succ, List.getElem_cons_zero, List.setIfInBounds_toArray, List.set_cons_zero, List.set_cons_succ]
  refine wp_copy_full (.tmp 4) (.tmp 6) rfl gb 8 117 Zs B1 hzl (by rfl) A _ c B _ (by rfl) hb (got_len s 8) (by omega) ?_
  intro w2 B2 o2
  simp only [Act.put, List.getElem_toArray, List.getElem_cons_succ, List.getElem_cons_zero, List.setIfInBounds_toArray, List.set_cons_zero, List.set_cons_succ]
  refine wpAny_done (by kernel_rfl) ?_ _
  refine NoPanic.normal ?_
  have hpad : (if (s.got 8).length = 0 then Zs else u8s (s.got 8)) = u8s (padded 8 (s.got 8)) := by
    unfold padded
    rw [HZ.out]
    split
    · rfl
    · rfl
  rw [hpad] at B2
  have hgood := (H0.out.good)
  have hpl : (padded 8 (s.got 8)).length = 8 := by
    unfold padded
    split
    · simp
    · exact (got_len s 8).resolve_right (by assumption)
  have hpb : ∀ b ∈ padded 8 (s.got 8), b < 256 := by
    unfold padded
    split
    · intro b hb; obtain ⟨_, rfl⟩ := List.mem_replicate.1 hb; omega
    · exact RD.got_lt hgood 8
  have R2 : RTo w base F p (s.take 8) w2 := by
    have hf : Fresh w F F1 := fun k hk => (f1 k hk).imp id (fun h => Nat.le_trans (show w.heap.size ≤ w0.drew.heap.size from b0'.out.size) h)
    refine ⟨F1, r1.of o2.size (fun k hk => o2.block k (r1.under k hk) (fun hm => ?_)), ((Only.of_below (w' := w0.drew) (by rw [hgb]; exact b0'.out.drew) F).trans (F' := F) o1 (Fresh.refl _ _)).trans o2 (fun k hk => .inr (by simp at hk; omega)), hf⟩
    simp at hm
    subst hm
    rcases f1 _ hk with h | h
    · exact hgw h
    · have : k < w0.heap.size := B0.out.lt
      have h' : w0.heap.size ≤ k := h
      omega
  have HR := Lib.hid R2
  have H2 := Lib.hid B2
  have hrg : w2.rangeAt gb 0 (u8s (padded 8 (s.got 8))) := B2.range
  have hi : (Tryd.prog.info? 117).map (·.size) = some (u8s (padded 8 (s.got 8))).length := by rw [u8s_length, hpl]; exact eight_size
  have hu := Tryd.underlying117
  have HP := Lib.hid (And.intro hpl hpb)
  clear hpad hpl hpb R2 B2 o2 hb B1 r1 o1 f1 hgood
  go_wp2_with (refine wpList_load_mid rfl 117 (.tmp 3) rfl gb 0 rfl (u8s (padded 8 (s.got 8))) _ hrg hu rfl hi ?_)
  refine (unpacked_list _ HP.out.1 HP.out.2 w2).mono ?_
  rintro e w3 ⟨rfl, b3⟩
  rw [numOf_padded]
  go_wp2
  go_ret
  exact ⟨rfl, HR.out.then_ b3⟩
theorem one_zero (w : World) : (zeroValue 140).run Tryd.prog w = .ok (.agg (u8s (List.replicate 1 0)).toArray) w := by kernel_rfl
theorem rbyte_any (w : World) (base : Nat) (F : List Nat) (p : Option Addr) (s : RD) (h : Rd w base F p s) (hB : base ≤ w.heap.size) :
    Calls Tryd.prog 85 #[.pointer p] w fun e w' => e = .returned (.int .u8 s.byte) ∧ RTo w base F p (s.take 1) w' := by
  obtain ⟨Zs, hz, hZs⟩ : ∃ Zs : List Value, (∀ w, (zeroValue 140).run Tryd.prog w = .ok (.agg Zs.toArray) w) ∧ Zs = u8s (List.replicate 1 0) := ⟨_, one_zero, rfl⟩
  have hzl : Zs.length = 1 := by rw [hZs, u8s_length]; rfl
  have HZ := Lib.hid hZs
  clear hZs
  have B0 := Lib.hid (Blk.new w 140 Zs.toArray)
  have b0 := below_alloc w (.cells Zs.toArray 140)
  have H0 := Lib.hid (h.below b0)
  have hgw : w.heap.size ∉ F := fun hm => by have := h.under _ hm; omega
  have b0' := Lib.hid b0
  clear h b0
  go_enter Tryd.func85, Tryd.ntmps85
  go_wp2_with fail
  have hBw : base ≤ (w.alloc (.cells Zs.toArray 140)).heap.size := Nat.le_trans hB b0'.out.size
  generalize w.alloc (.cells Zs.toArray 140) = w0 at *
  generalize hgb : w.heap.size = gb at *
  refine any_begin (by kernel_rfl) ?_
  refine wpAny_take (i := 0) (v := .slice (some ⟨gb, 0, none⟩) 1 1) rfl (by kernel_rfl) (by kernel_rfl) (by kernel_rfl) (fun _ _ _ h => h) (Or.inl ⟨by rfl, fun w => by go_simp⟩) ?_
  simp only [Act.put, List.getElem_toArray, List.getElem_cons_succ, List.getElem_cons_zero, List.setIfInBounds_toArray, List.set_cons_zero, List.set_cons_succ]
  refine wpAny_take (i := 1) (v := .pointer p) rfl (by kernel_rfl) (by kernel_rfl) (by kernel_rfl) (fun _ _ _ h => h) (Or.inl ⟨by rfl, fun w => by kernel_rfl⟩) ?_
  simp only [Act.put, List.getElem_toArray, List.getElem_cons_succ, List.getElem_cons_zero, List.setIfInBounds_toArray, List.set_cons_zero, List.set_cons_succ]
  refine do_one (i := 2) (by kernel_rfl) rfl (by rfl) ?_
  simp only [Act.put, List.getElem_toArray, List.getElem_cons_succ, List.getElem_cons_zero, List.setIfInBounds_toArray, List.set_cons_zero, List.set_cons_succ]
  refine wp_called (by kernel_rfl) (take_any w0.drew base F p s 1 (H0.out.of (Nat.le_refl _) (fun _ _ => rfl)) (by omega) (by omega)) ?_
  rintro e w1 ⟨A, c, rfl, ⟨F1, r1, o1, f1⟩, ⟨B, hb⟩, -, -⟩
  refine ⟨_, rfl, ?_⟩
  simp only [Act.put, List.getElem_toArray, List.getElem_cons_succ, List.getElem_cons_zero, List.setIfInBounds_toArray, List.set_cons_zero, List.set_cons_succ]
  have B1 : Blk w1 gb 140 Zs.toArray := B0.out.of (o1.block gb B0.out.lt hgw)
  refine do_one (i := 3) (by kernel_rfl) rfl (by rfl) ?_
  simp only [Act.put, List.getElem_toArray, List.getElem_cons_succ, List.getElem_cons_zero, List.setIfInBounds_toArray, List.set_cons_zero, List.set_cons_succ]
  refine wp_copy_full (.tmp 4) (.tmp 6) rfl gb 1 140 Zs B1 hzl (by rfl) A _ c B _ (by rfl) hb (got_len s 1) (by omega) ?_
  intro w2 B2 o2
  simp only [Act.put, List.getElem_toArray, List.getElem_cons_succ, List.getElem_cons_zero, List.setIfInBounds_toArray, List.set_cons_zero, List.set_cons_succ]
  refine wpAny_done (by kernel_rfl) ?_ _
  refine NoPanic.normal ?_
  have hpad : (if (s.got 1).length = 0 then Zs else u8s (s.got 1)) = u8s (padded 1 (s.got 1)) := by
    unfold padded
    rw [HZ.out]
    split
    · rfl
    · rfl
  rw [hpad] at B2
  have R2 : RTo w base F p (s.take 1) w2 := by
    have hf : Fresh w F F1 := fun k hk => (f1 k hk).imp id (fun h => Nat.le_trans (show w.heap.size ≤ w0.drew.heap.size from b0'.out.size) h)
    refine ⟨F1, r1.of o2.size (fun k hk => o2.block k (r1.under k hk) (fun hm => ?_)), ((Only.of_below (w' := w0.drew) (by rw [hgb]; exact b0'.out.drew) F).trans (F' := F) o1 (Fresh.refl _ _)).trans o2 (fun k hk => .inr (by simp at hk; omega)), hf⟩
    simp at hm
    subst hm
    rcases f1 _ hk with h | h
    · exact hgw h
    · have : k < w0.heap.size := B0.out.lt
      have h' : w0.heap.size ≤ k := h
      omega
  have hcell : w2.cell? ⟨gb, 0, none⟩ = some (.int .u8 s.byte) := by
    rw [B2.cell]
    unfold RD.byte padded
    cases hg : s.got 1 with
    | nil => rfl
    | cons b l => rfl
  have HR := Lib.hid R2
  clear hpad R2 B2 o2 hb B1 r1 o1 f1
  go_wp2
  go_ret
  exact ⟨rfl, HR.out⟩
theorem num_range (s : RD) : -9223372036854775808 ≤ s.num ∧ s.num ≤ 9223372036854775807 := numOf_range _
theorem RD.got_le (s : RD) (n : Int) : (s.got n).length ≤ s.bs.length := by
  unfold RD.got
  split
  · rw [List.length_take]; omega
  · simp
theorem RD.take_le (s : RD) (n : Int) : (s.take n).bs.length ≤ s.bs.length := by
  unfold RD.take
  split
  · simp
  · simp [RD.spoilt]
theorem rend_any (w : World) (base : Nat) (F : List Nat) (p : Option Addr) (s : RD) (h : Rd w base F p s) :
    Calls Tryd.prog 83 #[.pointer p] w fun e w' => e = .returned (errV (if s.bad || decide (0 < s.bs.length) then 2 else 0)) ∧ w = w' := by
  rcases h with ⟨rfl, rfl, rfl⟩ | ⟨g, rfl, A, c, rfl, h1, h2, h3, h4, h5, h6, h7⟩
  · go_enter Tryd.func83, Tryd.ntmps83
    go_wp2
    go_ret
    exact ⟨rfl, rfl⟩
  · have hc0 : w.cell? ⟨g, 0, none⟩ = some (.slice A s.bs.length c) := by rw [h1.cell]; rfl
    have hc1 : w.cell? ⟨g, 1, none⟩ = some (.bool s.bad) := by rw [h1.cell]; rfl
    cases hb : s.bad with
    | true =>
      rw [hb] at hc1
      go_enter Tryd.func83, Tryd.ntmps83
      go_wp2
      go_ret
      exact ⟨rfl, rfl⟩
    | false =>
      rw [hb] at hc1
      by_cases hl : 0 < s.bs.length
      · have hd : decide (0 < s.bs.length) = true := by simpa using hl
        have hd2 : decide (0 < (s.bs.length : Int)) = true := decide_eq_true (by omega)
        rw [hd]
        clear hd
        go_enter Tryd.func83, Tryd.ntmps83
        go_wp2
        go_ret
        exact ⟨rfl, rfl⟩
      · have hd : decide (0 < s.bs.length) = false := by simpa using hl
        have hd2 : decide (0 < (s.bs.length : Int)) = false := decide_eq_false (by omega)
        rw [hd]
        clear hd
        go_enter Tryd.func83, Tryd.ntmps83
        go_wp2
        go_ret
        exact ⟨rfl, rfl⟩
theorem newr_any (A : Option Addr) (n c : Nat) (bs : List Nat) (w : World) (B : Nat) (hn : n ≤ 9000000) (hb : Bytes w B A n bs) :
    Calls Tryd.prog 81 #[.slice A n c] w fun e w' => ∃ g F, e = .returned (.pointer (some ⟨g, 0, none⟩)) ∧ Rd w' w.heap.size F (some ⟨g, 0, none⟩) ⟨bs, false⟩ ∧ Below w.heap.size w w' := by
  go_enter Tryd.func81, Tryd.ntmps81
  go_wp2_with fail
  refine (clone_any A n c bs w B (by omega) hb).mono ?_
  rintro e w1 ⟨v, rfl, h1, b1⟩
  obtain ⟨A1, c1, rfl, hc1, hc2, hA1⟩ := h1.form
  go_wp2
  go_ret
  have hl := hb.len
  subst hl
  refine ⟨w1.heap.size, w1.heap.size :: (A1.map Addr.block).toList, rfl, .inr ⟨_, rfl, A1, c1, rfl, Blk.new _ _ _, ?_, hc1, hc2, b1.size, fun a ha => ?_, ⟨fun e => (by cases e), hb.2⟩⟩, b1.alloc b1.size _⟩
  · exact ((h1.bytes hb.2).since (below_alloc _ _)).more (by simp)
  · rcases hA1 with ⟨rfl, -⟩ | ⟨g, rfl, hg1, hg2⟩
    · cases ha
    · injection ha with ha
      subst ha
      exact ⟨hg1, Nat.lt_of_lt_of_le hg2 (by simp), Nat.ne_of_lt hg2⟩
end Go.Proofs.YtpklcmocjimcpaaDoor

/-
  What the program's reader reads as numbers. Conditions: the reader lies where it is said to; it has no more than nine million bytes.
-/
namespace Go.Proofs.YtpklcmocjimcpaaDoor
open Go.RowKit
set_option maxRecDepth 100000
set_option linter.unusedSimpArgs false
set_option linter.unusedVariables false
theorem made_same (m k : Nat) (v : Value) (hm : 0 < m) : madeCells (List.replicate m v).toArray k = (List.replicate k v).toArray := by
  unfold madeCells
  apply Array.ext
  · simp
  · intro i h1 h2
    have h3 : i % m < m := Nat.mod_lt _ hm
    have h4 : i % (List.replicate m v).toArray.size < (List.replicate m v).toArray.size := by simpa using h3
    rw [Array.getElem_map, Array.getElem_range, getElem!_pos (List.replicate m v).toArray (i % (List.replicate m v).toArray.size) h4]
    simp
theorem int_info : (Tryd.prog.info? 3).map (fun i => (i.zero, i.size, i.bytes)) = some (some (.int .i64 0), 1, 8) := by kernel_rfl
theorem make_ints (q : Nat) (hq : q ≤ 9000000) (w : World) : (Instr.makeSlice 52 (.int .i64 q) (.int .i64 q)).run Tryd.prog w = .ok (.slice (some ⟨w.heap.size, 0, none⟩) q q) (w.alloc (.cells (List.replicate q (Value.int .i64 0)).toArray 3)) := by
  obtain ⟨i0, hi0, hz0, hz1, hz2⟩ := info_parts int_info
  have := run_make (P := Tryd.prog) w 52 3 i0 (.int .i64 0) Tryd.underlying52 hi0 hz0 .i64 .i64 q q (by omega) (by omega) (by rw [hz2]; omega) (by omega)
  rw [hz1] at this
  simp only [Int.toNat_natCast, Nat.mul_one] at this
  rw [this]
  have e : (Value.int .i64 0).cells = (List.replicate 1 (Value.int .i64 0)).toArray := rfl
  rw [e, made_same 1 q _ (by omega)]
/-- numbers of the call's own -/
def OwnI (w : World) (base : Nat) (v : Value) (n : Nat) (l : List Int) : Prop := w.ownsRow base 3 1 v n (i64s l)
theorem OwnI.ints {w : World} {base n c : Nat} {A : Option Addr} {l : List Int} (h : OwnI w base (.slice A n c) n l) : Ints w w.heap.size A n l := Reads.of_own h
theorem OwnI.weaken {w : World} {base base' n : Nat} {v : Value} {l : List Int} (h : OwnI w base v n l) (hb : base' ≤ base) : OwnI w base' v n l := row_weaken h hb
theorem OwnI.form {w : World} {base : Nat} {v : Value} {n : Nat} {l : List Int} (h : OwnI w base v n l) : ∃ (A : Option Addr) (cap : Nat), v = .slice A n cap ∧ ∀ a, A = some a → base ≤ a.block := by
  rcases h.2 with ⟨rfl, hx⟩ | ⟨g, cap, cur, rfl, hbg, hg, hnc, hcm, hcs, hpre⟩
  · have : n = 0 := by have := h.1; rw [hx] at this; simp at this; omega
    subst this
    exact ⟨none, 0, rfl, fun a ha => by cases ha⟩
  · exact ⟨some ⟨g, 0, none⟩, cap, rfl, fun a ha => by injection ha with ha; subst ha; exact hbg⟩
theorem OwnI.of_blk {w : World} {base g n : Nat} {l : List Int} (h : Blk w g 3 (i64s l).toArray) (hl : l.length = n) (hb : base ≤ g) (hn : n ≤ 9000000) : OwnI w base (.slice (some ⟨g, 0, none⟩) n n) n l :=
  ⟨by rw [i64s_length]; omega, .inr ⟨g, n, _, rfl, hb, h, Nat.le_refl _, by simp [maxLen]; omega, by simp [i64s_length, hl], by rw [List.take_of_length_le (by simp [i64s_length, hl])]⟩⟩
def filling (l : List Int) (q : Nat) : List Value := i64s l ++ List.replicate (q - l.length) (.int .i64 0)
theorem filling_set (l : List Int) (q : Nat) (x : Int) (h : l.length < q) : (filling l q).toArray.setIfInBounds l.length (.int .i64 x) = (filling (l ++ [x]) q).toArray := by
  unfold filling
  have e : q - l.length = (q - (l ++ [x]).length) + 1 := by simp; omega
  rw [e, List.replicate_succ]
  simp only [List.setIfInBounds_toArray]
  congr 1
  rw [List.set_append_right _ _ (by rw [i64s_length]; exact Nat.le_refl _), i64s_length, Nat.sub_self, List.set_cons_zero]
  simp [i64s]
theorem filling_cell (l : List Int) (q : Nat) (h : l.length < q) : (filling l q).toArray[l.length]? = some (.int .i64 0) := by
  unfold filling
  rw [List.getElem?_toArray, List.getElem?_append_right (by rw [i64s_length]; exact Nat.le_refl _), i64s_length, Nat.sub_self, List.getElem?_replicate, if_pos (by omega)]
end Go.Proofs.YtpklcmocjimcpaaDoor

/-
  What the disk's small calls return and turn: has, step, restore, arm, Down, Len, Waiting, Steps. Conditions: the disk lies where it is said to; its numbers are below 2^62.
-/
namespace Go.Proofs.YtpklcmocjimcpaaDoor
open Go.RowKit
set_option maxRecDepth 100000

theorem has_any (w : World) (base g gm : Nat) (v : Value) (d : DM) (i : Int) (h : Lies w base g gm v d) :
    Calls Tryd.prog 65 #[.pointer (some ⟨g, 0, none⟩), .int .i64 i] w fun e w' => e = .returned (.bool (d.has i)) ∧ w = w' := by
  obtain ⟨-, -, -, -, c4, -, -, -⟩ := h.cells
  by_cases h0 : 0 ≤ i
  · go_enter Tryd.func65, Tryd.ntmps65
    go_wp2
    go_ret
    exact ⟨by simp [DM.has, h0], rfl⟩
  · have h0' : decide (0 ≤ i) = false := by simpa using h0
    go_enter Tryd.func65, Tryd.ntmps65
    go_wp2
    go_ret
    exact ⟨by simp [DM.has, h0'], rfl⟩

theorem down_any (w : World) (base g gm : Nat) (v : Value) (d : DM) (h : Lies w base g gm v d) :
    Calls Tryd.prog 73 #[.pointer (some ⟨g, 0, none⟩)] w fun e w' => e = .returned (.bool d.gone) ∧ w = w' := by
  obtain ⟨-, -, -, c3, -, -, -, -⟩ := h.cells
  go_enter Tryd.func73, Tryd.ntmps73
  go_wp2
  go_ret
  exact ⟨by simp, rfl⟩
theorem len_any (w : World) (base g gm : Nat) (v : Value) (d : DM) (h : Lies w base g gm v d) :
    Calls Tryd.prog 27 #[.pointer (some ⟨g, 0, none⟩)] w fun e w' => e = .returned (.int .i64 d.n) ∧ w = w' := by
  obtain ⟨-, -, -, -, c4, -, -, -⟩ := h.cells
  go_enter Tryd.func27, Tryd.ntmps27
  go_wp2
  go_ret
  exact ⟨by simp, rfl⟩
theorem waiting_any (w : World) (base g gm : Nat) (v : Value) (d : DM) (h : Lies w base g gm v d) :
    Calls Tryd.prog 26 #[.pointer (some ⟨g, 0, none⟩)] w fun e w' => e = .returned (.int .i64 d.wait.length) ∧ w = w' := by
  obtain ⟨-, -, -, -, -, -, c6, -⟩ := h.cells
  obtain ⟨A, n, cap, rfl, hn⟩ : ∃ A n cap, v = .slice A n cap ∧ n = d.wait.length := by
    rcases h.row.2 with ⟨rfl, hn⟩ | ⟨g', cap, cur, rfl, _⟩
    · exact ⟨_, _, _, rfl, hn.symm⟩
    · exact ⟨_, _, _, rfl, rfl⟩
  have HN := Lib.hid hn
  clear hn
  go_enter Tryd.func26, Tryd.ntmps26
  go_wp2
  go_ret
  exact ⟨by rw [HN.out]; rfl, rfl⟩

/-- the first four cells are turned -/
theorem Lies.power {w w' : World} {base g gm : Nat} {v : Value} {d d' : DM} (h : Lies w base g gm v d) (ho : Only [g] w w') (hb : Blk w' g 62 (dcells d' gm v)) (hs : d'.sure = d.sure) (hw : d'.wait = d.wait) : Lies w' base g gm v d' := by
  obtain ⟨f, h1, h2⟩ := h.map
  have hne : gm ≠ g := h1.ne_blk h.blk
  refine ⟨hb, ⟨f, h1.of (ho.block gm h1.lt (by simpa using hne)), by rw [hs]; exact h2⟩, ?_, h.bg, h.bm⟩
  rw [hw]
  refine row_of h.row fun k hk => ho.block k (row_under h.row k hk) ?_
  intro hm
  simp only [List.mem_singleton] at hm
  subst hm
  exact own_blk_ne h.row h.blk (by decide) (mem_rowOf.1 hk)

theorem step_any (w : World) (base g gm : Nat) (v : Value) (d : DM) (h : Lies w base g gm v d) (hs : d.steps < 4611686018427387904) (hl : d.left ≤ 9223372036854775807) :
    Calls Tryd.prog 66 #[.pointer (some ⟨g, 0, none⟩)] w fun e w' => e = .returned (errV d.stepErr) ∧ Lies w' base g gm v d.step ∧ Only [g] w w' := by
  obtain ⟨c0, c1, c2, c3, c4, c5, c6, hf⟩ := h.cells
  have f0 := hf 0; have f2 := hf 2; have f3 := hf 3
  clear hf
  have hb := h.blk
  obtain ⟨n, sure, wait, steps, armed, left, gone⟩ := d
  simp only at c0 c1 c2 c3 c4 hs hl
  have fin : ∀ (d' : DM) (w' : World), Blk w' g 62 (dcells d' gm v) → d'.sure = sure → d'.wait = wait → Only [g] w w' → Lies w' base g gm v d' ∧ Only [g] w w' :=
    fun d' w' h1 h2 h3 h4 => ⟨h.power h4 h1 h2 h3, h4⟩
  have Fin := Lib.hid fin
  clear fin h
  cases gone with
  | true =>
    go_enter Tryd.func66, Tryd.ntmps66
    go_wp2
    go_ret
    exact ⟨rfl, Fin.out _ _ (hb.set_ 3 _) rfl rfl ((Only.refl _ _).setCell (by simp) _)⟩
  | false =>
    cases armed with
    | false =>
      go_enter Tryd.func66, Tryd.ntmps66
      go_wp2
      go_ret
      exact ⟨rfl, Fin.out _ _ (hb.set_ 0 _) rfl rfl ((Only.refl _ _).setCell (by simp) _)⟩
    | true =>
      by_cases h0 : left = 0
      · subst h0
        go_enter Tryd.func66, Tryd.ntmps66
        go_wp2
        go_ret
        exact ⟨rfl, Fin.out _ _ (hb.set_ 3 _) rfl rfl ((Only.refl _ _).setCell (by simp) _)⟩
      · have h1 : ((left : Int) == 0) = false := by simp; omega
        have h2 : DM.off ⟨n, sure, wait, steps, true, left, false⟩ = false := by simp [DM.off, h0]
        have H2 := Lib.hid h2
        clear h2
        go_enter Tryd.func66, Tryd.ntmps66
        go_wp2
        go_ret
        refine ⟨by unfold DM.stepErr; rw [H2.out]; rfl, Fin.out _ _ ?_ ?_ ?_ (((Only.refl _ _).setCell (by simp) _).setCell (by simp) _)⟩
        · have := (hb.set_ 0 (.int .i64 ((steps : Int) + 1))).set_ 2 (.int .i64 ((left : Int) - 1))
          rw [show DM.step ⟨n, sure, wait, steps, true, left, false⟩ = ⟨n, sure, wait, steps + 1, true, left - 1, false⟩ by unfold DM.step; rw [H2.out]; rfl]
          rw [show ((left : Int) - 1) = ((left - 1 : Nat) : Int) by omega] at this ⊢
          exact this
        · unfold DM.step; rw [H2.out]; rfl
        · unfold DM.step; rw [H2.out]; rfl

theorem restore_any (w : World) (base g gm : Nat) (v : Value) (d : DM) (h : Lies w base g gm v d) :
    Calls Tryd.prog 38 #[.pointer (some ⟨g, 0, none⟩)] w fun e w' => e = .returned (.tuple #[]) ∧ Lies w' base g gm v d.restore ∧ Only [g] w w' := by
  obtain ⟨c0, c1, c2, c3, c4, c5, c6, hf⟩ := h.cells
  have f1 := hf 1; have f2 := hf 2; have f3 := hf 3
  clear hf
  have Fin := Lib.hid h
  clear h
  go_enter Tryd.func38, Tryd.ntmps38
  go_wp2
  go_end0
  have h4 : Only [g] w (((w.setCell ⟨g, 1, none⟩ (.bool false)).setCell ⟨g, 2, none⟩ (.int .i64 0)).setCell ⟨g, 3, none⟩ (.bool false)) := (((Only.refl _ _).setCell (by simp) _).setCell (by simp) _).setCell (by simp) _
  exact ⟨rfl, Fin.out.power h4 (((Fin.out.blk.set_ 1 _).set_ 2 _).set_ 3 _) rfl rfl, h4⟩
theorem arm0_any (w : World) (base g gm : Nat) (v : Value) (d : DM) (k : Nat) (h : Lies w base g gm v d) :
    Calls Tryd.prog 32 #[.pointer (some ⟨g, 0, none⟩), .int .i64 k] w fun e w' => e = .returned (.tuple #[]) ∧ Lies w' base g gm v { d with armed := true, left := k } ∧ Only [g] w w' := by
  obtain ⟨c0, c1, c2, c3, c4, c5, c6, hf⟩ := h.cells
  have f1 := hf 1; have f2 := hf 2
  clear hf
  have Fin := Lib.hid h
  clear h
  go_enter Tryd.func32, Tryd.ntmps32
  go_wp2
  go_end0
  have h4 : Only [g] w ((w.setCell ⟨g, 1, none⟩ (.bool true)).setCell ⟨g, 2, none⟩ (.int .i64 k)) := ((Only.refl _ _).setCell (by simp) _).setCell (by simp) _
  exact ⟨rfl, Fin.out.power h4 ((Fin.out.blk.set_ 1 _).set_ 2 _) rfl rfl, h4⟩
theorem arm_any (w : World) (base g gm : Nat) (v : Value) (d : DM) (k : Int) (hk : -9223372036854775808 ≤ k) (h : Lies w base g gm v d) :
    Calls Tryd.prog 11 #[.pointer (some ⟨g, 0, none⟩), .int .i64 k] w fun e w' => e = .returned (errV (armErr k)) ∧ Lies w' base g gm v (d.arm k) ∧ Only [g] w w' := by
  by_cases h0 : k < 0
  · have Fin := Lib.hid h
    clear h
    go_enter Tryd.func11, Tryd.ntmps11
    go_wp2
    go_ret
    exact ⟨by unfold armErr; rw [if_pos h0]; rfl, by unfold DM.arm; rw [if_pos h0]; exact Fin.out, Only.refl _ _⟩
  · obtain ⟨j, rfl⟩ : ∃ j : Nat, k = (j : Int) := ⟨k.toNat, by omega⟩
    clear hk h0
    go_enter Tryd.func11, Tryd.ntmps11
    go_wp2_with fail
    refine (arm0_any _ _ _ _ _ _ _ h).mono ?_
    rintro e w' ⟨rfl, h1, h2⟩
    have Fin := Lib.hid h1
    clear h1
    go_wp2
    go_ret
    exact ⟨by unfold armErr; rw [if_neg (by omega)]; rfl, by unfold DM.arm; rw [if_neg (by omega)]; exact Fin.out, h2⟩
end Go.Proofs.YtpklcmocjimcpaaDoor
