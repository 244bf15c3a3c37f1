/-
  What the law StoreAlone wants besides: one read's steps, rows of names appended, a script's operation. No condition.
-/
import Derived.Test.YtfbpfgbmlbkffaaGreatZi
import Derived.Test.YtfbpfgbmlbkffaaGreatScfC
namespace Go.Proofs.YtfbpfgbmlbkffaaGreat
open Go.RowKit Go.BigFrame
set_option linter.unusedSimpArgs false
set_option linter.unusedVariables false
set_option maxRecDepth 100000
def cellsR : Array Value := ([sRead].flatMap SV.cs).toArray
theorem one_read (w : World) : StepsR (w.alloc (.cells cellsR 59)) (w.heap.size + 1) (some ⟨w.heap.size, 0, none⟩) [sRead] := by
  refine ⟨Reads.newN w ([sRead].flatMap SV.cs) 1 5 59 (0, 0) rfl, fun s hs => ?_⟩
  simp at hs
  subst hs
  exact step_in ⟨Reads.none_, fun b hb => by cases hb⟩ rfl rfl ⟨by decide, by decide⟩ (by decide)
theorem ToldR.below {w w' : World} {B : Nat} {v : Value} {told : List (List Nat)} (h : ToldR w B v told) (hb : Below w.heap.size w w') : ToldR w' B v told := by
  obtain ⟨T, ct, tv, e, h1, h2⟩ := h
  exact ⟨T, ct, tv, e, row_of h1 fun k hk => hb.block k (row_under h1 k hk), h2.imp fun a b hx => hx.below hb⟩
theorem name_small {nm : List Nat} (h : isNameB nm = true) : Small nm ∧ nm.length ≤ 1000000 := by
  simp only [isNameB, Bool.and_eq_true, decide_eq_true_eq, List.all_eq_true] at h
  refine ⟨fun b hb => ?_, by omega⟩
  have := h.2 b hb
  simp [okChar] at this
  omega
theorem keyV_nm {k : Key} {nm : List Nat} (h : k = keyB nm) : keyV k = .string (strOf nm) := by rw [h, keyB_val]
theorem key_ne {nm nm' : List Nat} (h : ¬ strOf nm = strOf nm') : keyB nm ≠ keyB nm' := fun e => h (by
  have h1 := keyB_val nm
  rw [e, keyB_val] at h1
  injection h1 with h1
  exact h1.symm)
theorem str_info_ : (Tryz.prog.info? 9).map (fun i => (i.zero, i.size, i.bytes)) = some (some (.string { data := #[] }), 1, 16) := by kernel_rfl
theorem app_names {w : World} {ops : Array Oper} {rest : List Oper} {o : Oper} {a : Act} {Q : Exit → Act → World → Prop} (s x : Operand)
    (hgd : o.guard = none) (ho : o.op = .call { callee := .builtin .append, args := #[s, x], argTypes := #[85, 85] })
    (base : Nat) (A1 : Option Addr) (c1 : Nat) (ns1 : List Key) (hs : a.eval s = .slice A1 ns1.length c1) (hown : NamR w base (.slice A1 ns1.length c1) ns1)
    (B : Nat) (A2 : Option Addr) (c2 : Nat) (ns2 : List Key) (hx : a.eval x = .slice A2 ns2.length c2) (hr : Reads w B 1 A2 ns2.length (ns2.map keyV))
    (ns : List Key) (hns : ns = ns1 ++ ns2) (hsz : ns1.length + ns2.length ≤ 3000000) (hbase : base ≤ w.heap.size)
    (h : ∀ A' c' w', NamR w' base (.slice A' ns.length c') ns → Below base w w' → wpList Tryz.prog ops Q rest (a.put o.dst (.slice A' ns.length c')) w') :
    wpList Tryz.prog ops Q (o :: rest) a w := by
  obtain ⟨i0, hi0, hz0, hz1, hz2⟩ := info_parts str_info_
  refine wpList_append_any w hgd s x _ ho base 9 i0 _ 1 16 Tryz.underlying85 hi0 hz0 hz1 hz2 rfl (by omega) _ ns1.length (ns1.map keyV) hs hown B A2 ns2.length c2 (ns2.map keyV) hx hr (fun u hu => by
    obtain ⟨k, _, rfl⟩ := List.mem_map.1 hu
    rfl) (by simp only [maxLen]; omega) (by omega) hbase ?_
  intro v' w' h1 h2 h3
  have hN : NamR w' base v' ns := by
    unfold NamR
    rw [hns, List.length_append, List.map_append]
    exact h1
  obtain ⟨A', c', rfl, _, _⟩ := hN.form
  exact h A' c' w' hN ((Below.refl base w).grown h2 hbase (fun j hj => (World.ownsRow.lt hown _ hj).1))
/-- what a text may be put of -/
structure InvP (n : Nat) (M : Mod) : Prop where
  keys : Keys1 M.ob
  few : M.ob.length ≤ n
  obs : ∀ p ∈ M.ob, OkO n p.2
  nms : ∀ p ∈ M.ob, ∃ nm, p.1 = keyB nm ∧ isNameB nm = true
  pos : ∀ p ∈ M.ob, ∀ e ∈ p.2.e, 1 ≤ e.2
theorem Inv.p {n : Nat} {M : Mod} (h : Inv n M) : InvP n M := ⟨h.keys, h.few, h.obs, h.nms, fun p hp e he => h.good.pos e (List.mem_flatMap.2 ⟨p, hp, he⟩)⟩
theorem key_there_p {n : Nat} {M : Mod} (h : InvP n M) {kv : KV} {w : World} {Z : List Nat} (ho : Rel2 (ObjR w Z) kv M.ob) {ns : List Key} (hp : ns.Perm (kv.map (·.1))) {k : Key} (hk : k ∈ ns) : ∃ o nm, gget M.ob k = some o ∧ k = keyB nm ∧ isNameB nm = true := by
  have hm : k ∈ M.ob.map (·.1) := by rw [← ho.keys ObjR.key]; exact hp.mem_iff.1 hk
  obtain ⟨p, hp, rfl⟩ := List.mem_map.1 hm
  obtain ⟨nm, e, hn⟩ := h.nms p hp
  exact ⟨p.2, nm, h.keys.get hp, e, hn⟩
theorem key_there {n : Nat} {M : Mod} (h : Inv n M) {kv : KV} {w : World} {Z : List Nat} (ho : Rel2 (ObjR w Z) kv M.ob) {ns : List Key} (hp : ns.Perm (kv.map (·.1))) {k : Key} (hk : k ∈ ns) : ∃ o nm, gget M.ob k = some o ∧ k = keyB nm ∧ isNameB nm = true := key_there_p h.p ho hp hk
theorem ob_small_p {n : Nat} {M : Mod} (h : InvP n M) {k : Key} {o : Ob} (hg : gget M.ob k = some o) (hn : n ≤ 1000000) : o.a.length ≤ 1000000 ∧ o.e.length ≤ 1000000 ∧ (∀ q ∈ o.a, q.2.length ≤ 65536) := by
  have hm := gget_some hg
  have ho := h.obs _ hm
  have hl := len_lens (L := o.e) (fun e he => h.pos _ hm e he)
  have h1 := ho.e
  have h2 := ho.d
  have h3 := ho.a
  unfold needsB at h1
  simp only at h1 h2 h3
  exact ⟨by omega, by omega, ho.v⟩
theorem ob_small {n : Nat} {M : Mod} (h : Inv n M) {k : Key} {o : Ob} (hg : gget M.ob k = some o) (hn : n ≤ 1000000) : o.a.length ≤ 1000000 ∧ o.e.length ≤ 1000000 ∧ (∀ q ∈ o.a, q.2.length ≤ 65536) := ob_small_p h.p hg hn
end Go.Proofs.YtfbpfgbmlbkffaaGreat
