/-
  The holes, gone through: the laws' row of them. Conditions: a space stands as it is said to, or is nil.
-/
import Derived.Test.YtliockcbnmbhnaaTd
namespace Go.Proofs.Ytliockcbnmbhnaa
open Go.RowKit Go.Shelf Go.BigFrame
attribute [local go_sem] Oper.semAt_some
set_option linter.unusedSimpArgs false
set_option linter.unusedVariables false
theorem sholes_nil (w : World) : Calls Try.prog 28 #[.pointer none] w fun e w' => ∃ v, e = .returned v ∧ OwnE w' w.heap.size v (natE []) ∧ Below w.heap.size w w' := by
  go_enter Try.func28, Try.ntmps28
  go_wp2
  go_loopw [3, 4] (fun v i wr => v = .slice none 0 0 ∧ i = .int .i64 0 ∧ wr = w) (fun _ i _ => 0)
  case atStart => exact ⟨rfl, rfl, rfl⟩
  case round =>
    obtain ⟨rfl, rfl, rfl⟩ := hrel
    go_wp2_with fail
    refine (slen_nil _).mono ?_
    rintro e w' ⟨rfl, rfl⟩
    go_wp2
    go_ret
    exact ⟨_, rfl, OwnE.nil _ _, Below.refl _ _⟩
theorem values_any (A : Option Addr) (n c : Nat) (w : World) : Calls Try.prog 44 #[.slice A n c] w fun e w' => e = .returned (.func (.func 56) #[] #[.pointer (some ⟨w.heap.size, 0, none⟩)]) ∧ w' = w.alloc (.cells #[.slice A n c] 36) := by
  go_enter Try.func44, Try.ntmps44
  go_wp2
  go_ret
  exact ⟨rfl, rfl⟩
/-- what a call of Holes comes to -/
def HolesTo (w : World) (L : List (Nat × Nat)) (e : Ending) (w' : World) : Prop :=
  ∃ (Bs r c : Nat) (A : Option Addr), e = .returned (.func (.func 56) #[] #[.pointer (some ⟨Bs, 0, none⟩)]) ∧ w.heap.size ≤ Bs ∧ Bs < w'.heap.size ∧ Boxed w' Bs 36 (.slice A L.length c) ∧ Row? w' A r L ∧ (L ≠ [] → w.heap.size ≤ r) ∧ Below w.heap.size w w'
theorem holes_from {w : World} {p : Value} {L : List (Nat × Nat)} (hH : Calls Try.prog 28 #[p] w fun e w' => ∃ v, e = .returned v ∧ OwnE w' w.heap.size v (natE L) ∧ Below w.heap.size w w') :
    Calls Try.prog 35 #[p] w (HolesTo w L) := by
  have HH := Lib.hid hH
  clear hH
  go_enter Try.func35, Try.ntmps35
  go_wp2_with fail
  refine HH.out.mono ?_
  rintro e1 w1 ⟨v, rfl, ho, hb⟩
  have hnl : (natE L).length = L.length := by simp [natE]
  have hform : ∃ (A : Option Addr) (r c : Nat), v = .slice A L.length c ∧ Row? w1 A r L ∧ (L ≠ [] → w.heap.size ≤ r) := by
    by_cases hne : L = []
    · subst hne
      obtain ⟨A, c, rfl, -⟩ := ho.form
      exact ⟨A, 0, c, rfl, .inl rfl, fun h => absurd rfl h⟩
    · obtain ⟨r, c, rfl, h1, h2, h3⟩ := erow_of_own ho hne
      exact ⟨_, r, c, rfl, .inr ⟨rfl, h3⟩, fun _ => h1⟩
  obtain ⟨A, r, c, rfl, hr, hr0⟩ := hform
  have HX := Lib.hid (And.intro hr (And.intro hr0 hb))
  clear HH ho hb hr hr0 hnl
  go_wp2_with fail
  refine (values_any A L.length c w1).mono ?_
  rintro e2 w2 ⟨rfl, rfl⟩
  go_wp2
  go_ret
  have hz := HX.out.2.2.size
  exact ⟨w1.heap.size, r, c, A, rfl, hz, by rw [World.size_alloc]; omega, Boxed.new _ _ _, HX.out.1.imp id (fun h => ⟨h.1, h.2.of (Below.heap_alloc _ _ _ h.2.lt)⟩), HX.out.2.1, HX.out.2.2.alloc hz _⟩
theorem opIn_app_ext {F : Fence} {nF : Nat} {w : World} {o : Oper} {a : Act} {K : Act → World → Prop} {Q : Exit → Act → World → Prop} (s x : Operand)
    (ho : o.op = .call { callee := .builtin .append, args := #[s, x], argTypes := #[36, 36] })
    (base : Nat) (v : Value) (l : List (Int × Int)) (hs : a.eval s = v) (hown : OwnE w base v l)
    (B : Nat) (A : Option Addr) (m c : Nat) (news : List (Int × Int)) (hx : a.eval x = .slice A m c) (hm : m = news.length) (hr : ExtR w B A news)
    (hsz : l.length + m ≤ 10000000) (hbase : base ≤ w.heap.size)
    (h : ∀ v' w', OwnE w' base v' (l ++ news) → w.grownBy w' v.ownBlock → (v'.ownBlock = v.ownBlock ∨ v'.ownBlock = some w.heap.size) → K (a.put o.dst v') w') : Oper.wpIn F nF Try.prog o a w K Q := by
  subst hm
  obtain ⟨i0, hi0, hz0, hz1, hz2⟩ := info_parts ext_info
  obtain ⟨v', w', hrun, r1, r2, r3⟩ := run_append_any (P := Try.prog) w base 36 o.type 45 i0 _ 2 16 Try.underlying36 hi0 hz0 hz1 hz2 rfl (by omega) v l.length (extS l) hown B A news.length c (extS news) hr (extS_one _) (by simp only [maxLen]; omega) (by omega) hbase
  unfold Oper.wpIn
  refine ⟨?_, ?_⟩
  · simp [Oper.about, ho, resolve, Target.leads, Sem.run_pure]
  · rw [Oper.semAt_plain F _ _ (by rw [ho]; intro c hc'; cases hc')]
    simp [execOp, ho, resolve, invoke, builtin, hs, hx, hrun, Result.andThen]
    exact h v' w' (by unfold OwnE; rw [extS, List.flatMap_append, List.length_append]; exact r1) r2 r3
theorem wpListIn_app_ext {F : Fence} {nF : Nat} {w : World} {ops : Array Oper} {rest : List Oper} {o : Oper} {a : Act} {Q : Exit → Act → World → Prop} (hgd : o.guard = none) (s x : Operand)
    (ho : o.op = .call { callee := .builtin .append, args := #[s, x], argTypes := #[36, 36] })
    (base : Nat) (v : Value) (l : List (Int × Int)) (hs : a.eval s = v) (hown : OwnE w base v l)
    (B : Nat) (A : Option Addr) (m c : Nat) (news : List (Int × Int)) (hx : a.eval x = .slice A m c) (hm : m = news.length) (hr : ExtR w B A news)
    (hsz : l.length + m ≤ 10000000) (hbase : base ≤ w.heap.size)
    (h : ∀ v' w', OwnE w' base v' (l ++ news) → w.grownBy w' v.ownBlock → (v'.ownBlock = v.ownBlock ∨ v'.ownBlock = some w.heap.size) → wpListIn F nF Try.prog ops Q rest (a.put o.dst v') w') : wpListIn F nF Try.prog ops Q (o :: rest) a w :=
  wpListIn_plain hgd fun K' hK' => opIn_app_ext s x ho base v l hs hown B A m c news hx hm hr hsz hbase fun v' w' h1 h2 h3 => hK' _ _ (h v' w' h1 h2 h3)
end Go.Proofs.Ytliockcbnmbhnaa
