/-
  Objects and an operation under way, as they lie in memory; what a change of some blocks leaves as it was. No condition.
-/
import Derived.Test.YtfbpfgbmlbkffaaGreatZe
import Derived.Shelf.SlMaps.Clone
import Derived.Deep.CutRange
import Derived.BigQuiet
import Derived.Maps.OwnSet

namespace Go.Proofs.YtfbpfgbmlbkffaaGreat
open Go.RowKit Go.BigFrame
set_option linter.unusedSimpArgs false
set_option linter.unusedVariables false
set_option maxRecDepth 100000
def Small (bs : List Nat) : Prop := ∀ b ∈ bs, b < 256
theorem typed_of {W : World} {base size n : Nat} {e : TypeId} {v : Value} {xs : List Value} (h : W.ownsRow base e size v n xs) {k : Nat} (hk : v.ownBlock = some k) : ∃ cs, Blk W k e cs := by
  rcases h.2 with ⟨rfl, _⟩ | ⟨g, c, cur, rfl, hb, hh, _⟩
  · simp [Value.ownBlock] at hk
  · simp [Value.ownBlock] at hk
    subst hk
    exact ⟨cur, hh⟩
/-- a change of the blocks of G leaves a row as it was -/
theorem own_only {w w' : World} {G : List Nat} {base size n : Nat} {e : TypeId} {v : Value} {xs : List Value} (h : w.ownsRow base e size v n xs) (ho : Only G w w') (hG : ∀ k ∈ rowOf v, k ∉ G) : w'.ownsRow base e size v n xs :=
  row_of h fun k hk => ho.block k (row_under h k hk) (hG k hk)
/-- no row of this type lies in block k -/
def Odd (w : World) (e : TypeId) (k : Nat) : Prop := ∀ cs, ¬ Blk w k e cs
theorem Odd.blk {w : World} {e t : TypeId} {k : Nat} {cs : Array Value} (h : Blk w k t cs) (hne : t ≠ e) : Odd w e k := fun cs' h' => h.ne_ h' hne rfl
theorem Odd.map {w : World} {e : TypeId} {k : Nat} {P : Program} {kt : TypeId} {l : KV} (h : SMap P kt w k l) : Odd w e k := fun cs' h' => h.ne_blk h' rfl
theorem own_odd {w w' : World} {G : List Nat} {base size n : Nat} {e : TypeId} {v : Value} {xs : List Value} (h : w.ownsRow base e size v n xs) (ho : Only G w w') (hG : ∀ k ∈ G, Odd w e k) : w'.ownsRow base e size v n xs :=
  own_only h ho fun k hk hm => by
    obtain ⟨cs, hb⟩ := typed_of h (mem_rowOf.1 hk)
    exact hG k hm cs hb
/-- a slice of bytes, in a row of its own apart from the blocks of F -/
def RowR (w : World) (base : Nat) (F : List Nat) (u : Value) (bs : List Nat) : Prop := ∃ A c, u = .slice A bs.length c ∧ Own w base u bs.length bs ∧ Small bs ∧ ∀ k ∈ rowOf u, k ∉ F
theorem RowR.only {w w' : World} {base : Nat} {F G : List Nat} {u : Value} {bs : List Nat} (h : RowR w base F u bs) (ho : Only G w w') (hG : ∀ k ∈ G, k ∈ F ∨ Odd w 5 k) : RowR w' base F u bs := by
  obtain ⟨A, c, rfl, h1, h2, h3⟩ := h
  refine ⟨A, c, rfl, own_only h1 ho fun k hk hm => ?_, h2, h3⟩
  rcases hG k hm with hf | hf
  · exact h3 k hk hf
  · obtain ⟨cs, hb⟩ := typed_of h1 (mem_rowOf.1 hk)
    exact hf cs hb
theorem RowR.below {w w' : World} {base : Nat} {F : List Nat} {u : Value} {bs : List Nat} (h : RowR w base F u bs) (hb : Below w.heap.size w w') : RowR w' base F u bs := by
  obtain ⟨A, c, rfl, h1, h2, h3⟩ := h
  exact ⟨A, c, rfl, h1.below hb, h2, h3⟩
/-- apart from others: F' is F, or lies behind w -/
theorem RowR.far {w : World} {base : Nat} {F F' : List Nat} {u : Value} {bs : List Nat} (h : RowR w base F u bs) (hF : ∀ k ∈ F', k ∈ F ∨ w.heap.size ≤ k) : RowR w base F' u bs := by
  obtain ⟨A, c, rfl, h1, h2, h3⟩ := h
  refine ⟨A, c, rfl, h1, h2, fun k hk hm => ?_⟩
  rcases hF k hm with hf | hf
  · exact h3 k hk hf
  · have := row_under h1 k hk; omega
theorem RowR.weaken {w : World} {base base' : Nat} {F : List Nat} {u : Value} {bs : List Nat} (h : RowR w base F u bs) (hb : base' ≤ base) : RowR w base' F u bs := by
  obtain ⟨A, c, rfl, h1, h2, h3⟩ := h
  exact ⟨A, c, rfl, h1.weaken hb, h2, h3⟩
def AttrR (w : World) (F : List Nat) (p : Key × Value) (q : Key × List Nat) : Prop := p.1 = q.1 ∧ RowR w 0 F p.2 q.2
theorem AttrR.key {w : World} {F : List Nat} (p : Key × Value) (q : Key × List Nat) (h : AttrR w F p q) : p.1 = q.1 := h.1
/-- an object at rest -/
def objC (D : Option Addr) (n c : Nat) (av : Value) (E : Option Addr) (m ce : Nat) : Array Value := #[.slice D n c, av, .slice E m ce]
structure ObAt (w : World) (go mb c ce : Nat) (D E : Option Addr) (kv : KV) (o : Ob) : Prop where
  blk : Blk w go 99 (objC D o.d.length c (.map (some mb)) E o.e.length ce)
  dat : Own w 0 (.slice D o.d.length c) o.d.length o.d
  ok : Small o.d
  map : SMap Tryz.prog 9 w mb kv
  att : Rel2 (AttrR w []) kv o.a
  ext : OwnE w 0 (.slice E o.e.length ce) (natE o.e)
theorem ObAt.below {w w' : World} {go mb c ce : Nat} {D E : Option Addr} {kv : KV} {o : Ob} (h : ObAt w go mb c ce D E kv o) (hb : Below w.heap.size w w') : ObAt w' go mb c ce D E kv o :=
  ⟨h.blk.of (hb.block _ h.blk.lt), h.dat.below hb, h.ok, h.map.of (hb.block _ h.map.lt), h.att.imp fun a b hr => ⟨hr.1, hr.2.below hb⟩, h.ext.below hb (row_under h.ext)⟩
theorem ObAt.only {w w' : World} {G : List Nat} {go mb c ce : Nat} {D E : Option Addr} {kv : KV} {o : Ob} (h : ObAt w go mb c ce D E kv o) (ho : Only G w w') (hG : ∀ k ∈ G, k < w.heap.size → Odd w 99 k ∧ Odd w 5 k ∧ Odd w 81 k) (hm : mb ∉ G) : ObAt w' go mb c ce D E kv o := by
  have hu : ∀ {base size n : Nat} {e : TypeId} {v : Value} {xs : List Value}, w.ownsRow base e size v n xs → (∀ k ∈ G, k < w.heap.size → Odd w e k) → w'.ownsRow base e size v n xs := fun h1 hx => own_only h1 ho fun k hk hm => by
    obtain ⟨cs, hb⟩ := typed_of h1 (mem_rowOf.1 hk)
    exact hx k hm (row_under h1 k hk) cs hb
  refine ⟨h.blk.of (ho.block _ h.blk.lt fun hm => (hG _ hm h.blk.lt).1 _ h.blk), hu h.dat fun k hk hl => (hG k hk hl).2.1, h.ok, h.map.of (ho.block _ h.map.lt hm), h.att.imp fun a b hr => ⟨hr.1, ?_⟩, hu h.ext fun k hk hl => (hG k hk hl).2.2⟩
  obtain ⟨A, c, e, h1, h2, h3⟩ := hr.2
  exact ⟨A, c, e, hu h1 fun k hk hl => (hG k hk hl).2.1, h2, h3⟩
/-- an operation under way -/
def workC (D : Option Addr) (n c : Nat) (av : Value) (E : Option Addr) (m ce : Nat) (th : Bool) (T : Option Addr) (k ct gs : Nat) : Array Value := #[.slice D n c, av, .slice E m ce, .bool th, .slice T k ct, .pointer (some ⟨gs, 0, none⟩)]
structure WkAt (w : World) (B gw gs c ce ct : Nat) (D E T : Option Addr) (av : Value) (kv : KV) (tv : List Value) (W : Wk) : Prop where
  blk : Blk w gw 101 (workC D W.d.length c av E W.e.length ce W.th T W.told.length ct gs)
  gB : B ≤ gw
  dat : Own w B (.slice D W.d.length c) W.d.length W.d
  ok : Small W.d
  map : (av = .map none ∧ kv = [] ∧ W.th = false) ∨ ∃ mb, av = .map (some mb) ∧ B ≤ mb ∧ SMap Tryz.prog 9 w mb kv
  att : Rel2 (AttrR w (rowOf (.slice D W.d.length c))) kv W.a
  ext : OwnE w B (.slice E W.e.length ce) (natE W.e)
  tol : w.ownsRow B 22 1 (.slice T W.told.length ct) W.told.length tv
  els : Rel2 (RowR w B (rowOf (.slice D W.d.length c))) tv W.told
def Wkd (w : World) (B gw gs : Nat) (W : Wk) : Prop := ∃ c ce ct D E T av kv tv, WkAt w B gw gs c ce ct D E T av kv tv W
section
variable {w w' : World} {B gw gs c ce ct : Nat} {D E T : Option Addr} {av : Value} {kv : KV} {tv : List Value} {W : Wk}
theorem WkAt.below (h : WkAt w B gw gs c ce ct D E T av kv tv W) (hb : Below w.heap.size w w') : WkAt w' B gw gs c ce ct D E T av kv tv W :=
  ⟨h.blk.of (hb.block _ h.blk.lt), h.gB, h.dat.below hb, h.ok, by
    rcases h.map with e | ⟨mb, e, h1, h2⟩
    · exact .inl e
    · exact .inr ⟨mb, e, h1, h2.of (hb.block _ h2.lt)⟩, h.att.imp fun a b hr => ⟨hr.1, hr.2.below hb⟩, h.ext.below hb (row_under h.ext), row_of h.tol fun k hk => hb.block k (row_under h.tol k hk), h.els.imp fun a b hr => hr.below hb⟩
theorem rowOf_data {w : World} {B n : Nat} {v : Value} {bs : List Nat} (h : Own w B v n bs) : ∀ k ∈ rowOf v, ∃ cs, Blk w k 5 cs := fun k hk => typed_of h (mem_rowOf.1 hk)
/-- its bytes are others -/
theorem WkAt.data (h : WkAt w B gw gs c ce ct D E T av kv tv W) {D' : Option Addr} {n' c' : Nat} {d' : List Nat} (hb : Blk w' gw 101 ((workC D W.d.length c av E W.e.length ce W.th T W.told.length ct gs).setIfInBounds 0 (.slice D' n' c')))
    (hd : Own w' B (.slice D' n' c') n' d') (ho : Only (gw :: rowOf (.slice D W.d.length c)) w w') (hn : D' = D ∨ ∃ b, D' = some ⟨b, 0, none⟩ ∧ w.heap.size ≤ b) (hs : Small d') : Wkd w' B gw gs {W with d := d'} := by
  have hl : n' = d'.length := by have := hd.len; omega
  subst hl
  have hG : ∀ (e : TypeId), e ≠ 101 → e ≠ 5 → ∀ k ∈ gw :: rowOf (.slice D W.d.length c), Odd w e k := fun e h1 h2 k hk => by
    rcases List.mem_cons.1 hk with rfl | hk
    · exact Odd.blk h.blk h1.symm
    · obtain ⟨cs, hb⟩ := rowOf_data h.dat k hk
      exact Odd.blk hb h2.symm
  have hF : ∀ k ∈ rowOf (.slice D' d'.length c'), k ∈ rowOf (.slice D W.d.length c) ∨ w.heap.size ≤ k := fun k hk => by
    rcases hn with rfl | ⟨b, rfl, hb⟩
    · left
      have hk := mem_rowOf.1 hk
      refine mem_rowOf.2 ?_
      cases D' with
      | none => simp [Value.ownBlock] at hk
      | some a => simpa [Value.ownBlock] using hk
    · right
      have hk := mem_rowOf.1 hk
      simp [Value.ownBlock] at hk
      omega
  have hrow : ∀ {base : Nat} {u : Value} {bs : List Nat}, RowR w base (rowOf (.slice D W.d.length c)) u bs → RowR w' base (rowOf (.slice D' d'.length c')) u bs := fun {base u bs} hr => by
    obtain ⟨A, c, e, h1, h2, h3⟩ := hr.far hF
    obtain ⟨A2, c2, e2, h4, h5, h6⟩ := hr.only ho (fun k hk => by
      rcases List.mem_cons.1 hk with rfl | hk
      · exact .inr (Odd.blk h.blk (by decide))
      · exact .inl hk)
    exact ⟨A, c, e, h4, h2, h3⟩
  refine ⟨c', ce, ct, D', E, T, av, kv, tv, ⟨hb, h.gB, hd, hs, ?_, h.att.imp fun a b hr => ⟨hr.1, hrow hr.2⟩, own_odd h.ext ho (hG _ (by decide) (by decide)), own_odd h.tol ho (hG _ (by decide) (by decide)), h.els.imp fun a b hr => hrow hr⟩⟩
  rcases h.map with e | ⟨mb, e, h1, h2⟩
  · exact .inl e
  · refine .inr ⟨mb, e, h1, h2.of (ho.block mb h2.lt fun hm => ?_)⟩
    rcases List.mem_cons.1 hm with rfl | hm
    · exact h2.ne_blk h.blk rfl
    · obtain ⟨cs, hb⟩ := rowOf_data h.dat mb hm
      exact h2.ne_blk hb rfl
/-- one thing more is told -/
theorem WkAt.tells (h : WkAt w B gw gs c ce ct D E T av kv tv W) {T' : Option Addr} {ct' : Nat} {v : Value} {bs : List Nat} (hb : Blk w' gw 101 ((workC D W.d.length c av E W.e.length ce W.th T W.told.length ct gs).setIfInBounds 4 (.slice T' (W.told.length + 1) ct')))
    (ho : Only (gw :: rowOf (.slice T W.told.length ct)) w w') (hT : w'.ownsRow B 22 1 (.slice T' (W.told.length + 1) ct') (W.told.length + 1) (tv ++ [v])) (hv : RowR w' B (rowOf (.slice D W.d.length c)) v bs) : Wkd w' B gw gs {W with told := W.told ++ [bs]} := by
  have hG : ∀ (e : TypeId), e ≠ 101 → e ≠ 22 → ∀ k ∈ gw :: rowOf (.slice T W.told.length ct), Odd w e k := fun e h1 h2 k hk => by
    rcases List.mem_cons.1 hk with rfl | hk
    · exact Odd.blk h.blk h1.symm
    · obtain ⟨cs, hb⟩ := typed_of h.tol (mem_rowOf.1 hk)
      exact Odd.blk hb h2.symm
  have hrow : ∀ {base : Nat} {u : Value} {bs : List Nat}, RowR w base (rowOf (.slice D W.d.length c)) u bs → RowR w' base (rowOf (.slice D W.d.length c)) u bs := fun {base u bs} hr => hr.only ho fun k hk => .inr (hG _ (by decide) (by decide) k hk)
  have hlen : (W.told ++ [bs]).length = W.told.length + 1 := by simp
  refine ⟨c, ce, ct', D, E, T', av, kv, tv ++ [v], ⟨by simp only [hlen]; exact hb, h.gB, own_odd h.dat ho (hG _ (by decide) (by decide)), h.ok, ?_, h.att.imp fun a b hr => ⟨hr.1, hrow hr.2⟩, own_odd h.ext ho (hG _ (by decide) (by decide)), by simp only [hlen]; exact hT, (h.els.imp fun a b hr => hrow hr).app (.cons hv .nil)⟩⟩
  rcases h.map with e | ⟨mb, e, h1, h2⟩
  · exact .inl e
  · refine .inr ⟨mb, e, h1, h2.of (ho.block mb h2.lt fun hm => ?_)⟩
    rcases List.mem_cons.1 hm with rfl | hm
    · exact h2.ne_blk h.blk rfl
    · obtain ⟨cs, hb⟩ := typed_of h.tol (mem_rowOf.1 hm)
      exact h2.ne_blk hb rfl
/-- its attributes are others -/
theorem WkAt.attrs (h : WkAt w B gw gs c ce ct D E T av kv tv W) {mb : Nat} (hav : av = .map (some mb)) {kv' : KV} {a' : AL} (ho : Only [mb] w w') (hm : SMap Tryz.prog 9 w' mb kv') (ha : Rel2 (AttrR w' (rowOf (.slice D W.d.length c))) kv' a') : Wkd w' B gw gs {W with a := a'} := by
  obtain ⟨hB, h2⟩ : B ≤ mb ∧ SMap Tryz.prog 9 w mb kv := by
    rcases h.map with ⟨e, _⟩ | ⟨mb', e, h1, h2⟩
    · rw [e] at hav; cases hav
    · rw [e] at hav
      injection hav with hav
      injection hav with hav
      subst hav
      exact ⟨h1, h2⟩
  have hG : ∀ (e : TypeId), ∀ k ∈ [mb], Odd w e k := fun e k hk => by
    simp at hk
    subst hk
    exact Odd.map h2
  exact ⟨c, ce, ct, D, E, T, av, kv', tv, ⟨h.blk.of (ho.block _ h.blk.lt fun hk => by simp at hk; exact h2.ne_blk h.blk hk.symm), h.gB, own_odd h.dat ho (hG _), h.ok, .inr ⟨mb, hav, hB, hm⟩, ha, own_odd h.ext ho (hG _), own_odd h.tol ho (hG _), h.els.imp fun a b hr => hr.only ho fun k hk => .inr (hG _ k hk)⟩⟩
end
end Go.Proofs.YtfbpfgbmlbkffaaGreat

/-
  Copies of bytes, extents and maps; stores into a block that is known whole. Conditions: what is copied reads as it is said to.
-/
namespace Go.Proofs.YtfbpfgbmlbkffaaGreat
open Go.RowKit Go.BigFrame Go.Shelf
set_option linter.unusedSimpArgs false
set_option linter.unusedVariables false
set_option maxRecDepth 100000
section
variable {P : Program} {ops : Array Oper} {rest : List Oper} {o : Oper} {a : Act} {w : World} {Q : Exit → Act → World → Prop}
/-- one cell of a block known whole is stored -/
theorem wpList_setb (hgd : o.guard = none) (ty : TypeId) (x y : Operand) (ho : o.op = .store ty x y)
    (g i : Nat) (t : TypeId) (cs : Array Value) (v : Value) (hx : a.eval x = .pointer (some ⟨g, i, none⟩)) (hy : a.eval y = v) (hB : Blk w g t cs) (hs : i < cs.size) (hi : (P.info? ty).map (·.size) = some 1) (h1 : v.oneCell' = true)
    (h : ∀ w', Blk w' g t (cs.setIfInBounds i v) → Only [g] w w' → w'.heap.size = w.heap.size → wpList P ops Q rest (a.put o.dst undef) w') : wpList P ops Q (o :: rest) a w :=
  wpList_plain hgd fun _ hK => wp_set_blk2 ty x y ho g i t cs v hx hy hB hs hi h1 (hK _ _ (h _ (hB.set_ i v) ((Only.refl _ _).setCell (.inl (by simp)) _) (by simp [World.setCell])))
/-- three cells at its head -/
theorem wpList_store3 (hgd : o.guard = none) (ty : TypeId) (x y : Operand) (ho : o.op = .store ty x y)
    (g : Nat) (t : TypeId) (u0 u1 u2 x0 x1 x2 x3 x4 x5 : Value) (hx : a.eval x = .pointer (some ⟨g, 0, none⟩)) (hy : a.eval y = .agg #[u0, u1, u2]) (hB : Blk w g t #[x0, x1, x2, x3, x4, x5]) (hi : (P.info? ty).map (·.size) = some 3) (h1 : u0.oneCell' = true) (h2 : u1.oneCell' = true) (h3 : u2.oneCell' = true)
    (h : ∀ w', Blk w' g t #[u0, u1, u2, x3, x4, x5] → Only [g] w w' → w'.heap.size = w.heap.size → wpList P ops Q rest (a.put o.dst undef) w') : wpList P ops Q (o :: rest) a w :=
  wpList_store_mid hgd ty x y ho g 0 #[u0, u1, u2] hx hy (hB.there (by simp)) (by simpa using hi) (by simp [h1, h2, h3])
    (h _ (by simpa [World.setCells] using ((hB.set_ 0 u0).set_ 1 u1).set_ 2 u2) ((Only.refl _ _).grown (setCells_grown g _ 0 w).1 (fun k e => .inl (by injection e with e; simp [e]))) (setCells_grown g _ 0 w).2)
end
theorem bclone_any (A : Option Addr) (n c : Nat) (bs : List Nat) (w : World) (B : Nat) (hn : n ≤ 10000000) (hb : Bytes w B A n bs) :
    Calls Tryz.prog 101 #[.slice A n c] w fun e w' => ∃ A2 c2, e = .returned (.slice A2 n c2) ∧ Own w' w.heap.size (.slice A2 n c2) n bs ∧ Below w.heap.size w w' := by
  have hnil := bytes_nil A n c
  rcases A with _ | ad
  · have hn0 : n = 0 := by
      rcases Nat.eq_zero_or_pos n with h | h
      · exact h
      · obtain ⟨_, h, _⟩ := hb.1.2 h; cases h
    subst hn0
    obtain rfl : bs = [] := List.eq_nil_of_length_eq_zero hb.len
    simp only [Option.isNone_none] at hnil
    go_enter Tryz.func101, Tryz.ntmps101
    go_wp2
    go_ret
    exact ⟨_, _, rfl, Own.nil _ _, Below.refl _ _⟩
  · simp only [Option.isNone_some] at hnil
    have hb1 := hb.since (below_alloc w (.cells #[] 5))
    go_enter Tryz.func101, Tryz.ntmps101
    go_wp2_with (refine app_bytes (.tmp 5) (.tmp 6) rfl rfl w.heap.size (.slice (some ⟨w.heap.size, 0, none⟩) 0 0) 0 [] rfl (Own.new w w.heap.size (Nat.le_refl _)) B (some ad) n c bs rfl hb1 (by omega) (by simp) ?_
                 intro v2 w2 h2 g2 a2)
    go_ret
    have hb2 := below_own (below_alloc w _) (Own.new w w.heap.size (Nat.le_refl _)) (Nat.le_refl _) g2 (by simp)
    rw [Nat.zero_add, List.nil_append] at h2
    obtain ⟨A2, c2, rfl, -⟩ := h2.form
    exact ⟨A2, c2, rfl, h2, hb2⟩
set_option maxHeartbeats 1000000 in
theorem eclone_any {w : World} {B c : Nat} {A : Option Addr} {es : List (Int × Int)} (hl : es.length ≤ 1000000) (hR : ExtR w B A es) (hB : B ≤ w.heap.size) :
    Calls Tryz.prog 71 #[.slice A es.length c] w fun e w' => ∃ A2 c2, e = .returned (.slice A2 es.length c2) ∧ OwnE w' w.heap.size (.slice A2 es.length c2) es ∧ Below w.heap.size w w' := by
  have qT : ∀ (w : World) (a : Option Addr) (n c n' c' : Nat), (binOp .eql 74 (.slice a n c) (.slice none n' c')).run Tryz.prog w = .ok (.bool a.isNone) w := fun w a n c n' c' => Lib.run_eql_slice_nil w _ _ a n c n' c' Tryz.underlying74
  rcases A with _ | ad
  · have h0 : es = [] := by
      rcases Nat.eq_zero_or_pos es.length with h | h
      · exact List.eq_nil_of_length_eq_zero h
      · obtain ⟨ad, e, _⟩ := hR.2 h
        cases e
    subst h0
    go_enter Tryz.func71, Tryz.ntmps71
    go_wp2
    go_ret
    exact ⟨_, _, rfl, OwnE.nil w _, Below.refl _ _⟩
  · have HR := Lib.hid hR
    have hbs : ∀ w : World, (Instr.buildSlice 74 0 #[]).run Tryz.prog w = .ok (.slice (some ⟨w.heap.size, 0, none⟩) 0 0) (w.alloc (.cells #[] 81)) := fun w => by kernel_rfl
    have hown : (w.alloc (.cells #[] 81)).ownsRow w.heap.size 81 2 (.slice (some ⟨w.heap.size, 0, none⟩) 0 0) 0 [] := by
      have := World.ownsRow_made (base := w.heap.size) (e := 81) (size := 2) w #[] 0 (Nat.le_refl _) (by simp [maxLen]) (by simp)
      simpa using this
    have HO := Lib.hid hown
    have HB := Lib.hid (Below.alloc (Below.refl w.heap.size w) (Nat.le_refl _) (.cells #[] 81))
    obtain ⟨i0, hi0, hz0, hz1, hz2⟩ := info_parts ext_info
    clear hR hown
    go_enter Tryz.func71, Tryz.ntmps71
    go_wp2_with (refine wpList_append_any _ rfl (.tmp 5) (.tmp 6) _ rfl w.heap.size 81 i0 _ 2 16 Tryz.underlying74 hi0 hz0 hz1 hz2 rfl (by omega) (.slice (some ⟨w.heap.size, 0, none⟩) 0 0) 0 [] rfl HO.out B (some ad) es.length c (extS es) rfl (HR.out.alloc hB _) (extS_one _) (by simp [maxLen]; omega) (by omega) (by simp) ?_; intro v2 w2 h2 g2 a2)
    have hb2 : Below w.heap.size w w2 := HB.out.grown g2 (by simp) (fun j hj => by simp [Value.ownBlock] at hj; omega)
    have H2 := Lib.hid (And.intro h2 hb2)
    clear h2 hb2 g2 a2
    go_wp2
    go_ret
    have h3 := H2.out.1
    simp only [Nat.zero_add, List.nil_append] at h3
    obtain ⟨A2, c2, rfl, -⟩ := OwnE.form (show OwnE w2 w.heap.size v2 es from h3)
    exact ⟨A2, c2, rfl, h3, H2.out.2⟩
theorem SMap.cloned {P : Program} {kt : TypeId} {w : World} {b : Nat} {l : KV} (h : SMap P kt w b l) : ∃ es clock, w.heap[b]? = some (.map es clock) ∧ SMap P kt (w.alloc (.map es clock)) w.heap.size l := by
  obtain ⟨es, c, h1, h2, h3⟩ := h
  exact ⟨es, c, h1, ⟨es, c, heap_alloc_new w _, h2, h3⟩⟩
theorem amclone_any {w : World} {b : Nat} {l : KV} (h : SMap Tryz.prog 9 w b l) :
    Calls Tryz.prog 102 #[.map (some b)] w fun e w' => e = .returned (.map (some w.heap.size)) ∧ SMap Tryz.prog 9 w' w.heap.size l ∧ Below w.heap.size w w' := by
  obtain ⟨es, clock, h1, h2⟩ := h.cloned
  have hq := fun w => run_eql_map_nil_sl (P := Tryz.prog) w 97 _ _ (some b) Tryz.underlying97
  have H1 := Lib.hid h1
  have H2 := Lib.hid h2
  clear h1 h2 h
  go_enter Tryz.func102, Tryz.ntmps102
  go_wp2
  rw [run_callFunc_extern Tryz.func121 (by kernel_rfl) (by kernel_rfl) (by kernel_rfl) (e := Extern.MapsClone.clone) (by kernel_rfl), run_maps_clone_sl w 97 H1.out]
  simp only [Result.andThen]
  rw [Oper.upon_value]
  go_wp2
  rw [run_typeAssert_map_sl _ 97 20 _ _ _ Tryz.underlying97]
  simp only [Result.andThen]
  rw [Oper.upon_value]
  go_wp2
  go_ret
  exact ⟨rfl, H2.out, (Below.refl _ _).alloc (Nat.le_refl _) _⟩
end Go.Proofs.YtfbpfgbmlbkffaaGreat

/-
  An object like another one; an operation begins. Conditions: the store lies where it is said to.
-/
namespace Go.Proofs.YtfbpfgbmlbkffaaGreat
open Go.RowKit Go.BigFrame
set_option linter.unusedSimpArgs false
set_option linter.unusedVariables false
set_option maxRecDepth 100000
/-- what like hands back -/
def LikeTo (w : World) (o : Ob) (kv : KV) (e : Ending) (w' : World) : Prop := ∃ D c mb E ce, e = .returned (.agg (objC D o.d.length c (.map (some mb)) E o.e.length ce)) ∧ Own w' w.heap.size (.slice D o.d.length c) o.d.length o.d ∧ SMap Tryz.prog 9 w' mb kv ∧ w.heap.size ≤ mb ∧ OwnE w' w.heap.size (.slice E o.e.length ce) (natE o.e) ∧ Rel2 (AttrR w' (rowOf (.slice D o.d.length c))) kv o.a ∧ Below w.heap.size w w'
theorem ObAt.bytes {w : World} {go mb c ce : Nat} {D E : Option Addr} {kv : KV} {o : Ob} (h : ObAt w go mb c ce D E kv o) : Bytes w w.heap.size D o.d.length o.d := h.dat.bytes h.ok
theorem natE_len (l : List (Nat × Nat)) : (natE l).length = l.length := by simp [natE]
set_option maxHeartbeats 2000000 in
theorem like_any {w : World} {go mb c ce : Nat} {D E : Option Addr} {kv : KV} {o : Ob} (h : ObAt w go mb c ce D E kv o) (hd : o.d.length ≤ 1000000) (he : o.e.length ≤ 1000000) :
    Calls Tryz.prog 79 #[.pointer (some ⟨go, 0, none⟩)] w (LikeTo w o kv) := by
  have HH := Lib.hid h
  have HC : Hid (∀ w', Blk w' go 99 (objC D o.d.length c (.map (some mb)) E o.e.length ce) → w'.cell? ⟨go, 0, none⟩ = some (.slice D o.d.length c) ∧ w'.cell? ⟨go, 1, none⟩ = some (.map (some mb)) ∧ w'.cell? ⟨go, 2, none⟩ = some (.slice E o.e.length ce)) := Lib.hid fun w' h => ⟨h.cell 0, h.cell 1, h.cell 2⟩
  obtain ⟨Zs, hZ, hZs⟩ : ∃ Zs : Array Value, (∀ w, (zeroValue 99).run Tryz.prog w = .ok (.agg Zs) w) ∧ Zs.size = 3 := ⟨#[.slice none 0 0, .map none, .slice none 0 0], fun w => by kernel_rfl, rfl⟩
  clear h
  go_enter Tryz.func79, Tryz.ntmps79
  go_upto_region 1 with (fail)
  obtain ⟨w0, hw0⟩ : ∃ w0, w0 = w.alloc (.cells Zs 99) := ⟨_, rfl⟩
  have hbel : Below w.heap.size w w0 := by rw [hw0]; exact (Below.refl _ _).alloc (Nat.le_refl _) _
  have K0 : Blk w0 w.heap.size 99 Zs := by rw [hw0]; exact Blk.new w _ _
  have hO0 : ObAt w0 go mb c ce D E kv o := HH.out.below hbel
  rw [← hw0]
  have hS : Blk w0.drew go 99 (objC D o.d.length c (.map (some mb)) E o.e.length ce) := hO0.blk.drew
  refine any_beginL (fun w' => Blk w' go 99 (objC D o.d.length c (.map (some mb)) E o.e.length ce)) 16 (by kernel_rfl) ?_
  refine L_take (i := 0) (v := .pointer (some ⟨go, 0, none⟩)) rfl rfl (by kernel_rfl) (by kernel_rfl) (by kernel_rfl) (by kernel_rfl) (fun _ _ _ h => h) (Or.inl ⟨by rfl, fun w hw => by kernel_rfl⟩) hS ?_
  simp only [Act.put, List.getElem_toArray, List.getElem_cons_succ, List.getElem_cons_zero, List.setIfInBounds_toArray, List.set_cons_zero, List.set_cons_succ]
  refine L_take (i := 1) (v := .pointer (some ⟨go, 0, none⟩)) rfl rfl (by kernel_rfl) (by kernel_rfl) (by kernel_rfl) (by kernel_rfl) (fun _ _ _ h => h) (Or.inl ⟨by rfl, fun w hw => by kernel_rfl⟩) hS ?_
  simp only [Act.put, List.getElem_toArray, List.getElem_cons_succ, List.getElem_cons_zero, List.setIfInBounds_toArray, List.set_cons_zero, List.set_cons_succ]
  refine L_take (i := 2) (v := .pointer (some ⟨go, 0, none⟩)) rfl rfl (by kernel_rfl) (by kernel_rfl) (by kernel_rfl) (by kernel_rfl) (fun _ _ _ h => h) (Or.inl ⟨by rfl, fun w hw => by go_simp⟩) hS ?_
  simp only [Act.put, List.getElem_toArray, List.getElem_cons_succ, List.getElem_cons_zero, List.setIfInBounds_toArray, List.set_cons_zero, List.set_cons_succ]
  refine L_take (i := 3) (v := .slice D o.d.length c) rfl rfl (by kernel_rfl) (by kernel_rfl) (by kernel_rfl) (by kernel_rfl) (fun _ _ _ h => h) (Or.inl ⟨by rfl, fun w hw => by have q := (HC.out w hw).1; go_simp⟩) hS ?_
  simp only [Act.put, List.getElem_toArray, List.getElem_cons_succ, List.getElem_cons_zero, List.setIfInBounds_toArray, List.set_cons_zero, List.set_cons_succ]
  refine L_take (i := 5) (v := .pointer (some ⟨go, 0, none⟩)) rfl rfl (by kernel_rfl) (by kernel_rfl) (by kernel_rfl) (by kernel_rfl) (fun _ _ _ h => h) (Or.inl ⟨by rfl, fun w hw => by kernel_rfl⟩) hS ?_
  simp only [Act.put, List.getElem_toArray, List.getElem_cons_succ, List.getElem_cons_zero, List.setIfInBounds_toArray, List.set_cons_zero, List.set_cons_succ]
  refine L_take (i := 6) (v := .pointer (some ⟨go, 0, none⟩)) rfl rfl (by kernel_rfl) (by kernel_rfl) (by kernel_rfl) (by kernel_rfl) (fun _ _ _ h => h) (Or.inl ⟨by rfl, fun w hw => by kernel_rfl⟩) hS ?_
  simp only [Act.put, List.getElem_toArray, List.getElem_cons_succ, List.getElem_cons_zero, List.setIfInBounds_toArray, List.set_cons_zero, List.set_cons_succ]
  refine L_take (i := 7) (v := .pointer (some ⟨go, 1, none⟩)) rfl rfl (by kernel_rfl) (by kernel_rfl) (by kernel_rfl) (by kernel_rfl) (fun _ _ _ h => h) (Or.inl ⟨by rfl, fun w hw => by go_simp⟩) hS ?_
  simp only [Act.put, List.getElem_toArray, List.getElem_cons_succ, List.getElem_cons_zero, List.setIfInBounds_toArray, List.set_cons_zero, List.set_cons_succ]
  refine L_take (i := 8) (v := .map (some mb)) rfl rfl (by kernel_rfl) (by kernel_rfl) (by kernel_rfl) (by kernel_rfl) (fun _ _ _ h => h) (Or.inl ⟨by rfl, fun w hw => by have q := (HC.out w hw).2.1; go_simp⟩) hS ?_
  simp only [Act.put, List.getElem_toArray, List.getElem_cons_succ, List.getElem_cons_zero, List.setIfInBounds_toArray, List.set_cons_zero, List.set_cons_succ]
  refine L_take (i := 10) (v := .pointer (some ⟨go, 0, none⟩)) rfl rfl (by kernel_rfl) (by kernel_rfl) (by kernel_rfl) (by kernel_rfl) (fun _ _ _ h => h) (Or.inl ⟨by rfl, fun w hw => by kernel_rfl⟩) hS ?_
  simp only [Act.put, List.getElem_toArray, List.getElem_cons_succ, List.getElem_cons_zero, List.setIfInBounds_toArray, List.set_cons_zero, List.set_cons_succ]
  refine L_take (i := 11) (v := .pointer (some ⟨go, 0, none⟩)) rfl rfl (by kernel_rfl) (by kernel_rfl) (by kernel_rfl) (by kernel_rfl) (fun _ _ _ h => h) (Or.inl ⟨by rfl, fun w hw => by kernel_rfl⟩) hS ?_
  simp only [Act.put, List.getElem_toArray, List.getElem_cons_succ, List.getElem_cons_zero, List.setIfInBounds_toArray, List.set_cons_zero, List.set_cons_succ]
  refine L_take (i := 12) (v := .pointer (some ⟨go, 2, none⟩)) rfl rfl (by kernel_rfl) (by kernel_rfl) (by kernel_rfl) (by kernel_rfl) (fun _ _ _ h => h) (Or.inl ⟨by rfl, fun w hw => by go_simp⟩) hS ?_
  simp only [Act.put, List.getElem_toArray, List.getElem_cons_succ, List.getElem_cons_zero, List.setIfInBounds_toArray, List.set_cons_zero, List.set_cons_succ]
  refine L_take (i := 13) (v := .slice E o.e.length ce) rfl rfl (by kernel_rfl) (by kernel_rfl) (by kernel_rfl) (by kernel_rfl) (fun _ _ _ h => h) (Or.inl ⟨by rfl, fun w hw => by have q := (HC.out w hw).2.2; go_simp⟩) hS ?_
  simp only [Act.put, List.getElem_toArray, List.getElem_cons_succ, List.getElem_cons_zero, List.setIfInBounds_toArray, List.set_cons_zero, List.set_cons_succ]
  refine L_one (j := 4) (by kernel_rfl) rfl (by rfl) ?_
  simp only [Act.put, List.getElem_toArray, List.getElem_cons_succ, List.getElem_cons_zero, List.setIfInBounds_toArray, List.set_cons_zero, List.set_cons_succ]
  refine wp_called (by kernel_rfl) (bclone_any D o.d.length c o.d w0.drew w0.heap.size (by omega) (hO0.bytes.drew)) ?_
  rintro e w1 ⟨D2, c2, rfl, ho2, hb2⟩
  have hO1 : ObAt w1 go mb c ce D E kv o := (hO0.below (w' := w0.drew) (drawn_below (Below.refl _ _) 1)).below hb2
  refine ⟨_, rfl, hO1.blk, ?_⟩
  simp only [Act.put, List.getElem_toArray, List.getElem_cons_succ, List.getElem_cons_zero, List.setIfInBounds_toArray, List.set_cons_zero, List.set_cons_succ]
  refine L_one (j := 9) (by kernel_rfl) rfl (by rfl) ?_
  simp only [Act.put, List.getElem_toArray, List.getElem_cons_succ, List.getElem_cons_zero, List.setIfInBounds_toArray, List.set_cons_zero, List.set_cons_succ]
  refine wp_called (by kernel_rfl) (amclone_any hO1.map) ?_
  rintro e w2 ⟨rfl, hm2, hb3⟩
  have hO2 : ObAt w2 go mb c ce D E kv o := hO1.below hb3
  refine ⟨_, rfl, hO2.blk, ?_⟩
  simp only [Act.put, List.getElem_toArray, List.getElem_cons_succ, List.getElem_cons_zero, List.setIfInBounds_toArray, List.set_cons_zero, List.set_cons_succ]
  refine L_one (j := 14) (by kernel_rfl) rfl (by rfl) ?_
  simp only [Act.put, List.getElem_toArray, List.getElem_cons_succ, List.getElem_cons_zero, List.setIfInBounds_toArray, List.set_cons_zero, List.set_cons_succ]
  have hcl := eclone_any (c := ce) (es := natE o.e) (by rw [natE_len]; exact he) (OwnE.ext (by rw [natE_len]; exact hO2.ext)) (Nat.le_refl _)
  rw [natE_len] at hcl
  refine wp_called (by kernel_rfl) hcl ?_
  rintro e w3 ⟨E2, ce2, rfl, he2, hb4⟩
  have hO3 : ObAt w3 go mb c ce D E kv o := hO2.below hb4
  refine ⟨_, rfl, hO3.blk, ?_⟩
  simp only [Act.put, List.getElem_toArray, List.getElem_cons_succ, List.getElem_cons_zero, List.setIfInBounds_toArray, List.set_cons_zero, List.set_cons_succ]
  refine L_one (j := 15) (by kernel_rfl) rfl (by rfl) ?_
  simp only [Act.put, List.getElem_toArray, List.getElem_cons_succ, List.getElem_cons_zero, List.setIfInBounds_toArray, List.set_cons_zero, List.set_cons_succ]
  refine wp_ran (v := .agg (objC D2 o.d.length c2 (.map (some w1.heap.size)) E2 o.e.length ce2)) (w' := w3) (by kernel_rfl) ⟨hO3.blk, ?_⟩
  simp only [Act.put, List.getElem_toArray, List.getElem_cons_succ, List.getElem_cons_zero, List.setIfInBounds_toArray, List.set_cons_zero, List.set_cons_succ]
  refine L_last (by kernel_rfl) rfl (by rfl) (by kernel_rfl) ?_
  simp only [Act.put, List.getElem_toArray, List.getElem_cons_succ, List.getElem_cons_zero, List.setIfInBounds_toArray, List.set_cons_zero, List.set_cons_succ]
  have hz1 := hb2.size
  have hz2 := hb3.size
  have hz3 := hb4.size
  have hz0 := hbel.size
  have hk0 := K0.lt
  have e0 : w0.drew.heap.size = w0.heap.size := rfl
  have K3 : Blk w3 w.heap.size 99 Zs := ((K0.drew.of (hb2.block _ (by omega))).of (hb3.block _ (by omega))).of (hb4.block _ (by omega))
  refine wp_store_mid 99 _ _ (by rfl) w.heap.size 0 (objC D2 o.d.length c2 (.map (some w1.heap.size)) E2 o.e.length ce2) (by rfl) (by rfl) (K3.there (by simp [objC, hZs])) (by kernel_rfl) (by simp [objC, Value.oneCell']) ?_
  refine NoPanic.normal ?_
  have hov := K3.over (objC D2 o.d.length c2 (.map (some w1.heap.size)) E2 o.e.length ce2).toList (by simp [objC, hZs])
  obtain ⟨w4, hw4⟩ : ∃ w4, w4 = w3.setCells w.heap.size 0 (objC D2 o.d.length c2 (.map (some w1.heap.size)) E2 o.e.length ce2).toList := ⟨_, rfl⟩
  have hon : Only [w.heap.size] w3 w4 := by rw [hw4]; exact (Only.refl _ _).grown (setCells_grown _ _ 0 w3).1 (fun k e => .inl (by injection e with e; simp [e]))
  have K4 : Blk w4 w.heap.size 99 (objC D2 o.d.length c2 (.map (some w1.heap.size)) E2 o.e.length ce2) := by rw [hw4]; exact hov
  rw [← hw4]
  have hb1 : Below w.heap.size w w1 := below_drew' (w := w) (show Below w.heap.size w.drew w1 from (show Below w.heap.size w.drew w0.drew from ⟨hbel.os, hbel.tape, hbel.output, hbel.size, hbel.block⟩).trans (hb2.mono (by omega)))
  have hfin : LikeTo w o kv (.returned (.agg (objC D2 o.d.length c2 (.map (some w1.heap.size)) E2 o.e.length ce2))) w4 := by
    have ho3 : Own w3 w0.heap.size (.slice D2 o.d.length c2) o.d.length o.d := (ho2.below hb3).below hb4
    have hGb : ∀ (e : TypeId), e ≠ 99 → ∀ k ∈ [w.heap.size], Odd w3 e k := fun e h1 k hk => by
      simp at hk; subst hk; exact Odd.blk K3 h1.symm
    refine ⟨D2, c2, w1.heap.size, E2, ce2, rfl, row_weaken (own_odd ho3 hon (hGb _ (by decide))) (by omega), ?_, by omega, row_weaken (own_odd he2 hon (hGb _ (by decide))) (by omega), ?_, ?_⟩
    · have hm3 := hm2.of (hb4.block _ hm2.lt)
      exact hm3.of (hon.block _ hm3.lt (by simp; omega))
    · refine hO0.att.imp fun a b hr => ⟨hr.1, ?_⟩
      have h1 : RowR w0.drew 0 [] a.2 b.2 := hr.2
      have h2 := h1.far (F' := rowOf (.slice D2 o.d.length c2)) (fun k hk => .inr (row_over ho2 k hk))
      exact (((h2.below hb2).below hb3).below hb4).only hon (fun k hk => .inr (hGb _ (by decide) k hk))
    · have h3 : Below w.heap.size w w3 := (hb1.trans (hb3.mono (by omega))).trans (hb4.mono (by omega))
      exact h3.trans (hon.below (fun k hk => by simp at hk; omega) (by omega))
  have HFIN := Lib.hid hfin
  clear hfin hO0 hO1 hO2 hO3 hm2 hb1 hb2 hb3 hb4 he2 hcl hon hov K0 K3 hS hbel ho2
  go_wp2
  refine bodyPost_ret (results_cell_row rfl _ _ w.heap.size 99 (objC D2 o.d.length c2 (.map (some w1.heap.size)) E2 o.e.length ce2) (0, 0) _ rfl K4 Tryz.underlying99 rfl (by kernel_rfl)) rfl ?_
  exact HFIN.out
/-- a store, its objects too -/
def ObR (w : World) (Z : List Nat) (v : Value) (o : Ob) : Prop := ∃ go mb c ce D E kv, v = .pointer (some ⟨go, 0, none⟩) ∧ mb ∉ Z ∧ ObAt w go mb c ce D E kv o
def ObjR (w : World) (Z : List Nat) (p : Key × Value) (q : Key × Ob) : Prop := p.1 = q.1 ∧ ObR w Z p.2 q.2
theorem ObjR.key {w : World} {Z : List Nat} (p : Key × Value) (q : Key × Ob) (h : ObjR w Z p q) : p.1 = q.1 := h.1
structure StoreAt (w : World) (Z : List Nat) (gs ms gp r c : Nat) (A : Option Addr) (M : Mod) (kv : KV) : Prop where
  st : StAt w gs ms gp r c A M.bl M.fl kv
  obs : Rel2 (ObjR w Z) kv M.ob
theorem StAt.below {w w' : World} {gs ms gp r c : Nat} {A : Option Addr} {bl fl : List Bool} {kv : KV} (h : StAt w gs ms gp r c A bl fl kv) (hb : Below w.heap.size w w') : StAt w' gs ms gp r c A bl fl kv :=
  ⟨h.blk.of (hb.block _ h.blk.lt), h.len, h.map.of (hb.block _ h.map.lt), h.sp.of (hb.block _ h.sp.blk.lt) (fun _ _ hx => hb.block _ hx.lt), h.ne⟩
theorem ObR.below {w w' : World} {Z : List Nat} {v : Value} {o : Ob} (h : ObR w Z v o) (hb : Below w.heap.size w w') : ObR w' Z v o := by
  obtain ⟨go, mb, c, ce, D, E, kv, rfl, h1, h2⟩ := h
  exact ⟨go, mb, c, ce, D, E, kv, rfl, h1, h2.below hb⟩
theorem StoreAt.below {w w' : World} {Z : List Nat} {gs ms gp r c : Nat} {A : Option Addr} {M : Mod} {kv : KV} (h : StoreAt w Z gs ms gp r c A M kv) (hb : Below w.heap.size w w') : StoreAt w' Z gs ms gp r c A M kv :=
  ⟨h.st.below hb, h.obs.imp fun a b hr => ⟨hr.1, hr.2.below hb⟩⟩
/-- what begin hands back -/
def BeginTo (w : World) (gs : Nat) (W : Wk) (e : Ending) (w' : World) : Prop := ∃ gw, e = .returned (.pointer (some ⟨gw, 0, none⟩)) ∧ Wkd w' w.heap.size gw gs W ∧ Below w.heap.size w w'
def Fits (o : Ob) : Prop := o.d.length ≤ 65536 ∧ o.e.length ≤ 65536
theorem begin_any {w : World} {Z : List Nat} {gs ms gp r c : Nat} {A : Option Addr} {M : Mod} {kv : KV} (h : StoreAt w Z gs ms gp r c A M kv) (bs : List Nat) (hl : bs.length ≤ 1000000) (hf : ∀ p ∈ M.ob, Fits p.2) :
    Calls Tryz.prog 43 #[.pointer (some ⟨gs, 0, none⟩), .string (strOf bs)] w (BeginTo w gs (startW M (keyB bs))) := by
  have hbd : ∀ w, (Instr.build 101 #[(3, .pointer (some ⟨gs, 0, none⟩))]).run Tryz.prog w = .ok (.agg (workC none 0 0 (.map none) none 0 0 false none 0 0 gs)) w := fun w => by kernel_rfl
  have hbel : Below w.heap.size w (w.alloc (.cells (workC none 0 0 (.map none) none 0 0 false none 0 0 gs) 101)) := (Below.refl _ _).alloc (Nat.le_refl _) _
  have K0 := Blk.new w 101 (workC none 0 0 (.map none) none 0 0 false none 0 0 gs)
  have h1 := h.below hbel
  obtain ⟨w1, hw1⟩ : ∃ w1, w1 = w.alloc (.cells (workC none 0 0 (.map none) none 0 0 false none 0 0 gs) 101) := ⟨_, rfl⟩
  rw [← hw1] at hbel K0 h1
  have hw1' : w1 = w.alloc (.cells #[.slice none 0 0, .map none, .slice none 0 0, .bool false, .slice none 0 0, .pointer (some ⟨gs, 0, none⟩)] 101) := hw1
  clear hw1
  have HW1 := Lib.hid hw1'
  clear hw1'
  have HO := Lib.hid (object_any h1.st bs hl)
  have HB := Lib.hid hbel
  have HK := Lib.hid K0
  have hW0 : ∀ W : Wk, W = ⟨false, [], [], [], []⟩ → Wkd w1 w.heap.size w.heap.size gs W := by
    rintro W rfl
    exact ⟨0, 0, 0, none, none, none, .map none, [], [], ⟨K0, Nat.le_refl _, Own.nil _ _, (fun b hb => by cases hb), .inl ⟨rfl, rfl, rfl⟩, .nil, OwnE.nil _ _, World.ownsRow_nil _ _ _ _, .nil⟩⟩
  have HW0 := Lib.hid hW0
  have hcase := h1.obs.get ObjR.key (keyB bs)
  have HH1 := Lib.hid h1
  clear h h1 hbel K0 hW0
  rcases hcase with ⟨hn1, hn2⟩ | ⟨v, o, hs1, hs2, -, hob⟩
  · rw [hn1, Option.getD_none] at HO
    go_enter Tryz.func43, Tryz.ntmps43
    go_wp2_with fail
    rw [← HW1.out]
    refine HO.out.mono ?_
    rintro e w' ⟨rfl, rfl⟩
    go_wp2
    go_ret
    refine ⟨_, rfl, HW0.out _ ?_, HB.out⟩
    unfold startW
    rw [hn2]
  · rw [hs1, Option.getD_some] at HO
    obtain ⟨go, mb, c1, ce, D, E, kv1, rfl, hmb, hat⟩ := hob
    have hfo := hf _ (gget_some hs2)
    have HL := Lib.hid (like_any hat (Nat.le_trans hfo.1 (by decide)) (Nat.le_trans hfo.2 (by decide)))
    have HOB := Lib.hid hat
    clear hat hf
    go_enter Tryz.func43, Tryz.ntmps43
    go_wp2_with fail
    rw [← HW1.out]
    refine HO.out.mono ?_
    rintro e w' ⟨rfl, rfl⟩
    go_wp2_with fail
    refine HL.out.mono ?_
    rintro e w2 ⟨D2, c2, mb2, E2, ce2, rfl, x1, x2, x3, x4, x5, x6⟩
    have K2 : Blk w2 w.heap.size 101 (workC none 0 0 (.map none) none 0 0 false none 0 0 gs) := HK.out.of (x6.block _ HK.out.lt)
    have HX := Lib.hid (And.intro x1 (And.intro x2 (And.intro x3 (And.intro x4 (And.intro x5 x6)))))
    clear x1 x2 x3 x4 x5 x6
    go_wp2_with (first
      | (refine wpList_store3 rfl 99 _ _ rfl w.heap.size 101 _ _ _ _ _ _ _ _ _ rfl rfl K2 (by kernel_rfl) rfl rfl rfl ?_; intro w3 K3 o3 s3)
      | (refine wpList_setb rfl 4 _ _ rfl w.heap.size 3 101 _ (.bool true) rfl rfl K3 (by simp) (by kernel_rfl) rfl ?_; intro w4 K4 o4 s4))
    go_ret
    obtain ⟨x1, x2, x3, x4, x5, x6⟩ := HX.out
    have hz1 := HB.out.size
    have hz2 := x6.size
    have hkl := HK.out.lt
    have ho : Only [w.heap.size] w2 w4 := o3.trans o4 (fun k hk => .inl hk)
    have hG : ∀ (e : TypeId), e ≠ 101 → ∀ k ∈ [w.heap.size], Odd w2 e k := fun e h1 k hk => by
      simp at hk; subst hk; exact Odd.blk K2 h1.symm
    refine ⟨_, rfl, ?_, (HB.out.trans (x6.mono (by omega))).trans (ho.below (fun k hk => by simp at hk; omega) (by omega))⟩
    unfold startW
    rw [hs2]
    exact ⟨c2, ce2, 0, D2, E2, none, .map (some mb2), kv1, [], ⟨K4, Nat.le_refl _, row_weaken (own_odd x1 ho (hG _ (by decide))) (by omega), HOB.out.ok, .inr ⟨mb2, rfl, by omega, x2.of (ho.block _ x2.lt (by simp; omega))⟩, x5.imp fun a b hr => ⟨hr.1, hr.2.only ho fun k hk => .inr (hG _ (by decide) k hk)⟩, row_weaken (own_odd x4 ho (hG _ (by decide))) (by omega), World.ownsRow_nil _ _ _ _, .nil⟩⟩
end Go.Proofs.YtfbpfgbmlbkffaaGreat

/-
  An operation under way tells something, becomes an object or none. Conditions: it lies where it is said to.
-/
namespace Go.Proofs.YtfbpfgbmlbkffaaGreat
open Go.RowKit Go.BigFrame
set_option linter.unusedSimpArgs false
set_option linter.unusedVariables false
set_option maxRecDepth 100000
theorem told_info : (Tryz.prog.info? 22).map (fun i => (i.zero, i.size, i.bytes)) = some (some (.slice none 0 0), 1, 24) := by kernel_rfl
theorem build_told (A : Option Addr) (n c : Nat) (w : World) : (Instr.buildSlice 51 1 #[(0, .slice A n c)]).run Tryz.prog w = .ok (.slice (some ⟨w.heap.size, 0, none⟩) 1 1) (w.alloc (.cells #[.slice A n c] 22)) :=
  run_buildSlice_one (size := 1) Tryz.underlying51 (by kernel_rfl) (by omega) (by omega) rfl w
/-- what a step of an operation comes to -/
def StepTo (w : World) (B gw gs : Nat) (W : Wk) (v : Value) (e : Ending) (w' : World) : Prop := e = .returned v ∧ Wkd w' B gw gs W ∧ Below B w w'
set_option maxHeartbeats 2000000 in
theorem tell_any {w : World} {B gw gs c ce ct : Nat} {D E T : Option Addr} {av : Value} {kv : KV} {tv : List Value} {W : Wk} (h : WkAt w B gw gs c ce ct D E T av kv tv W) (hB : B ≤ w.heap.size) (ht : W.told.length ≤ 1000000)
    {Bx nx cx : Nat} {Ax : Option Addr} {bs : List Nat} (hx : Bytes w Bx Ax bs.length bs) (hn : bs.length ≤ 1000000) :
    Calls Tryz.prog 109 #[.pointer (some ⟨gw, 0, none⟩), .slice Ax bs.length cx] w (fun e w' => StepTo w B gw gs {W with told := W.told ++ [bs]} (.tuple #[]) e w' ∧ ∀ k cs, Blk w k 59 cs → w'.heap[k]? = w.heap[k]?) := by
  have HH := Lib.hid h
  have HX := Lib.hid hx
  have HC : Hid (∀ w', Blk w' gw 101 (workC D W.d.length c av E W.e.length ce W.th T W.told.length ct gs) → w'.cell? ⟨gw, 4, none⟩ = some (.slice T W.told.length ct)) := Lib.hid fun w' h => h.cell 4
  have hS : Blk w.drew gw 101 (workC D W.d.length c av E W.e.length ce W.th T W.told.length ct gs) := h.blk.drew
  obtain ⟨i0, hi0, hz0, hz1, hz2⟩ := info_parts told_info
  clear h hx
  go_enter Tryz.func109, Tryz.ntmps109
  go_upto_region 0 with (fail)
  refine any_beginL (fun w' => Blk w' gw 101 (workC D W.d.length c av E W.e.length ce W.th T W.told.length ct gs)) 11 (by kernel_rfl) ?_
  refine L_take (i := 0) (v := .pointer (some ⟨gw, 0, none⟩)) rfl rfl (by kernel_rfl) (by kernel_rfl) (by kernel_rfl) (by kernel_rfl) (fun _ _ _ h => h) (Or.inl ⟨by rfl, fun w hw => by kernel_rfl⟩) hS ?_
  simp only [Act.put, List.getElem_toArray, List.getElem_cons_succ, List.getElem_cons_zero, List.setIfInBounds_toArray, List.set_cons_zero, List.set_cons_succ]
  refine L_take (i := 1) (v := .pointer (some ⟨gw, 0, none⟩)) rfl rfl (by kernel_rfl) (by kernel_rfl) (by kernel_rfl) (by kernel_rfl) (fun _ _ _ h => h) (Or.inl ⟨by rfl, fun w hw => by kernel_rfl⟩) hS ?_
  simp only [Act.put, List.getElem_toArray, List.getElem_cons_succ, List.getElem_cons_zero, List.setIfInBounds_toArray, List.set_cons_zero, List.set_cons_succ]
  refine L_take (i := 2) (v := .pointer (some ⟨gw, 0, none⟩)) rfl rfl (by kernel_rfl) (by kernel_rfl) (by kernel_rfl) (by kernel_rfl) (fun _ _ _ h => h) (Or.inl ⟨by rfl, fun w hw => by kernel_rfl⟩) hS ?_
  simp only [Act.put, List.getElem_toArray, List.getElem_cons_succ, List.getElem_cons_zero, List.setIfInBounds_toArray, List.set_cons_zero, List.set_cons_succ]
  refine L_take (i := 3) (v := .pointer (some ⟨gw, 4, none⟩)) rfl rfl (by kernel_rfl) (by kernel_rfl) (by kernel_rfl) (by kernel_rfl) (fun _ _ _ h => h) (Or.inl ⟨by rfl, fun w hw => by go_simp⟩) hS ?_
  simp only [Act.put, List.getElem_toArray, List.getElem_cons_succ, List.getElem_cons_zero, List.setIfInBounds_toArray, List.set_cons_zero, List.set_cons_succ]
  refine L_take (i := 4) (v := .slice T W.told.length ct) rfl rfl (by kernel_rfl) (by kernel_rfl) (by kernel_rfl) (by kernel_rfl) (fun _ _ _ h => h) (Or.inl ⟨by rfl, fun w hw => by have q := HC.out w hw; go_simp⟩) hS ?_
  simp only [Act.put, List.getElem_toArray, List.getElem_cons_succ, List.getElem_cons_zero, List.setIfInBounds_toArray, List.set_cons_zero, List.set_cons_succ]
  refine L_take (i := 5) (v := .slice Ax bs.length cx) rfl rfl (by kernel_rfl) (by kernel_rfl) (by kernel_rfl) (by kernel_rfl) (fun _ _ _ h => h) (Or.inl ⟨by rfl, fun w hw => by kernel_rfl⟩) hS ?_
  simp only [Act.put, List.getElem_toArray, List.getElem_cons_succ, List.getElem_cons_zero, List.setIfInBounds_toArray, List.set_cons_zero, List.set_cons_succ]
  refine L_one (j := 6) (by kernel_rfl) rfl (by rfl) ?_
  simp only [Act.put, List.getElem_toArray, List.getElem_cons_succ, List.getElem_cons_zero, List.setIfInBounds_toArray, List.set_cons_zero, List.set_cons_succ]
  refine wp_called (by kernel_rfl) (clone_any Ax bs.length cx bs w.drew Bx (by omega) HX.out.drew) ?_
  rintro e w1 ⟨v, rfl, hv, hb1⟩
  have hb1' : Below w.heap.size w w1 := below_drew' hb1
  have h1 := HH.out.below hb1'
  refine ⟨_, rfl, h1.blk, ?_⟩
  simp only [Act.put, List.getElem_toArray, List.getElem_cons_succ, List.getElem_cons_zero, List.setIfInBounds_toArray, List.set_cons_zero, List.set_cons_succ]
  obtain ⟨A1, c1, rfl, -⟩ := hv.form
  have hbt := build_told A1 bs.length c1
  refine L_one (j := 7) (by kernel_rfl) rfl (by rfl) ?_
  simp only [Act.put, List.getElem_toArray, List.getElem_cons_succ, List.getElem_cons_zero, List.setIfInBounds_toArray, List.set_cons_zero, List.set_cons_succ]
  refine wp_ran (v := .slice (some ⟨w1.heap.size, 0, none⟩) 1 1) (w' := w1.alloc (.cells #[.slice A1 bs.length c1] 22)) (by go_simp) ⟨h1.blk.alloc _, ?_⟩
  simp only [Act.put, List.getElem_toArray, List.getElem_cons_succ, List.getElem_cons_zero, List.setIfInBounds_toArray, List.set_cons_zero, List.set_cons_succ]
  have hb2 : Below w1.heap.size w1 (w1.alloc (.cells #[.slice A1 bs.length c1] 22)) := (Below.refl _ _).alloc (Nat.le_refl _) _
  have h2 := h1.below hb2
  refine L_one (j := 8) (by kernel_rfl) rfl (by rfl) ?_
  simp only [Act.put, List.getElem_toArray, List.getElem_cons_succ, List.getElem_cons_zero, List.setIfInBounds_toArray, List.set_cons_zero, List.set_cons_succ]
  have hz1' := hb1'.size
  have hz2' := hb2.size
  refine wp_append_any _ (.tmp 8) (.tmp 11) 51 rfl B 22 i0 _ 1 24 Tryz.underlying51 hi0 hz0 hz1 hz2 rfl (by omega) (.slice T W.told.length ct) W.told.length tv rfl h2.tol _ (some ⟨w1.heap.size, 0, none⟩) 1 1 [.slice A1 bs.length c1] rfl (Reads.new w1 [.slice A1 bs.length c1] 22 (0, 0)) (by intro u hu; simp at hu; subst hu; rfl) (by simp only [maxLen]; omega) (by omega) (by omega) ?_
  intro v' w3 hown hgr hor
  have hg2 : gw ≠ 0 ∨ True := .inr trivial
  have hTg : some gw ≠ (Value.slice T W.told.length ct).ownBlock := fun e => by
    obtain ⟨cs, hb⟩ := typed_of h2.tol e.symm
    exact h2.blk.ne_ hb (by decide) rfl
  have K3 := h2.blk.grown hgr hTg
  refine ⟨K3, ?_⟩
  simp only [Act.put, List.getElem_toArray, List.getElem_cons_succ, List.getElem_cons_zero, List.setIfInBounds_toArray, List.set_cons_zero, List.set_cons_succ]
  refine L_one (j := 9) (by kernel_rfl) rfl (by rfl) ?_
  simp only [Act.put, List.getElem_toArray, List.getElem_cons_succ, List.getElem_cons_zero, List.setIfInBounds_toArray, List.set_cons_zero, List.set_cons_succ]
  refine wp_ran (v := .pointer (some ⟨gw, 0, none⟩)) (w' := w3) (by go_simp) ⟨K3, ?_⟩
  simp only [Act.put, List.getElem_toArray, List.getElem_cons_succ, List.getElem_cons_zero, List.setIfInBounds_toArray, List.set_cons_zero, List.set_cons_succ]
  refine L_one (j := 10) (by kernel_rfl) rfl (by rfl) ?_
  simp only [Act.put, List.getElem_toArray, List.getElem_cons_succ, List.getElem_cons_zero, List.setIfInBounds_toArray, List.set_cons_zero, List.set_cons_succ]
  refine wp_ran (v := .pointer (some ⟨gw, 4, none⟩)) (w' := w3) (by kernel_rfl) ⟨K3, ?_⟩
  simp only [Act.put, List.getElem_toArray, List.getElem_cons_succ, List.getElem_cons_zero, List.setIfInBounds_toArray, List.set_cons_zero, List.set_cons_succ]
  obtain ⟨T2, ct2, rfl⟩ : ∃ T2 ct2, v' = .slice T2 (W.told.length + 1) ct2 := by
    rcases hown.2 with ⟨_, h0⟩ | ⟨g', cap', cur, e, _⟩
    · omega
    · exact ⟨_, _, e⟩
  refine L_last (by kernel_rfl) rfl (by rfl) (by kernel_rfl) ?_
  simp only [Act.put, List.getElem_toArray, List.getElem_cons_succ, List.getElem_cons_zero, List.setIfInBounds_toArray, List.set_cons_zero, List.set_cons_succ]
  refine wp_set_blk2 51 (.tmp 14) (.tmp 12) (by rfl) gw 4 101 _ (.slice T2 (W.told.length + 1) ct2) (by rfl) (by rfl) K3 (by simp [workC]) (by kernel_rfl) rfl ?_
  refine NoPanic.normal ?_
  have hon1 : Only (gw :: rowOf (.slice T W.told.length ct)) w w3 := (((Only.of_below hb1' _).trans (Only.of_below hb2 []) (fun k hk => by cases hk))).grown hgr (fun g hg => .inl (by simp [mem_rowOf, hg]))
  obtain ⟨w4, hw4⟩ : ∃ w4, w4 = w3.setCell ⟨gw, 4, none⟩ (.slice T2 (W.told.length + 1) ct2) := ⟨_, rfl⟩
  have hon4 : Only [gw] w3 w4 := by rw [hw4]; exact (Only.refl _ _).setCell (.inl (by simp)) _
  have hon : Only (gw :: rowOf (.slice T W.told.length ct)) w w4 := by rw [hw4]; exact hon1.setCell (.inl (by simp)) _
  have K4 : Blk w4 gw 101 ((workC D W.d.length c av E W.e.length ce W.th T W.told.length ct gs).setIfInBounds 4 (.slice T2 (W.told.length + 1) ct2)) := by rw [hw4]; exact K3.set_ 4 _
  rw [← hw4]
  have hod : ∀ (e : TypeId), e ≠ 101 → ∀ k ∈ [gw], Odd w3 e k := fun e hq k hk => by simp at hk; subst hk; exact Odd.blk K3 hq.symm
  have hrow : RowR w4 B (rowOf (.slice D W.d.length c)) (.slice A1 bs.length c1) bs := by
    have r1 : RowR w1 B (rowOf (.slice D W.d.length c)) (.slice A1 bs.length c1) bs := ⟨A1, c1, rfl, hv.weaken hB, HX.out.2, fun k hk hm => by
      have a1 := row_over hv k hk
      have a2 := row_under HH.out.dat k hm
      have a3 : w.drew.heap.size = w.heap.size := rfl
      omega⟩
    have r3 : RowR w3 B (rowOf (.slice D W.d.length c)) (.slice A1 bs.length c1) bs := (r1.below hb2).only (G := rowOf (.slice T W.told.length ct)) ((Only.refl _ _).grown hgr (fun g hg => .inl (by simp [mem_rowOf, hg]))) (fun k hk => .inr (by
      obtain ⟨cs, hb⟩ := typed_of h2.tol (mem_rowOf.1 hk)
      exact Odd.blk hb (by decide)))
    exact r3.only hon4 (fun k hk => .inr (hod _ (by decide) k hk))
  have hfin : StepTo w B gw gs {W with told := W.told ++ [bs]} (.tuple #[]) (.returned (.tuple #[])) w4 := by
    refine ⟨rfl, HH.out.tells K4 hon (own_odd hown hon4 (hod _ (by decide))) hrow, hon.below (fun k hk => ?_) hB⟩
    rcases List.mem_cons.1 hk with rfl | hk
    · exact HH.out.gB
    · exact row_over HH.out.tol k hk
  have hkeep : ∀ k cs, Blk w k 59 cs → w4.heap[k]? = w.heap[k]? := fun k cs hk => hon.block k hk.lt fun hm => by
    rcases List.mem_cons.1 hm with e | hm
    · subst e; exact hk.ne_ HH.out.blk (by decide) rfl
    · obtain ⟨cs', hb'⟩ := typed_of HH.out.tol (mem_rowOf.1 hm)
      exact hk.ne_ hb' (by decide) rfl
  have HFIN := Lib.hid (And.intro hfin hkeep)
  clear hfin hkeep hrow hod K4 hon hon4 hon1 K3 hTg h2 h1 hown hb2 hb1 hb1' hv hS hw4
  go_wp2
  refine bodyPost_end (results_none rfl _ _ _) rfl ?_
  exact HFIN.out
set_option maxHeartbeats 2000000 in
theorem become_any {w : World} {B gw gs c ce ct : Nat} {D E T : Option Addr} {av : Value} {kv : KV} {tv : List Value} {W : Wk} (h : WkAt w B gw gs c ce ct D E T av kv tv W) (hB : B ≤ w.heap.size) (b : Bool) :
    Calls Tryz.prog 81 #[.pointer (some ⟨gw, 0, none⟩), .bool b] w (StepTo w B gw gs (becomeW W b) (.tuple #[])) := by
  have HH := Lib.hid h
  have c3 : w.cell? ⟨gw, 3, none⟩ = some (.bool W.th) := h.blk.cell 3
  have hmm := @run_makeMap Tryz.prog
  by_cases hth : W.th = b
  · have hfin : StepTo w B gw gs (becomeW W b) (.tuple #[]) (.returned (.tuple #[])) w := ⟨rfl, by unfold becomeW; rw [if_pos hth]; exact ⟨_, _, _, _, _, _, _, _, _, h⟩, Below.refl _ _⟩
    have HFIN := Lib.hid hfin
    clear h hfin
    generalize W.th = th at *
    subst hth
    go_enter Tryz.func81, Tryz.ntmps81
    go_wp2
    refine bodyPost_end (results_none rfl _ _ _) rfl ?_
    exact HFIN.out
  · have hne : (W.th == b) = false := by simpa using hth
    have ha : Below w.heap.size w (w.alloc (.map #[] 0)) := (Below.refl _ _).alloc (Nat.le_refl _) _
    have h1 := h.below ha
    have K1 : Blk (w.alloc (.map #[] 0)) gw 101 #[.slice D W.d.length c, av, .slice E W.e.length ce, .bool W.th, .slice T W.told.length ct, .pointer (some ⟨gs, 0, none⟩)] := h1.blk
    have M1 : SMap Tryz.prog 9 (w.alloc (.map #[] 0)) w.heap.size [] := SMap.new w
    have c2 : (w.alloc (.map #[] 0)).cell? ⟨gw, 2, none⟩ = some (.slice E W.e.length ce) := K1.cell 2
    have H1 := Lib.hid (And.intro h1 (And.intro M1 ha))
    have hbd : ∀ (m : Nat) (w : World), (Instr.build 99 #[(1, .map (some m)), (2, .slice E W.e.length ce)]).run Tryz.prog w = .ok (.agg #[.slice none 0 0, .map (some m), .slice E W.e.length ce]) w := fun m w => by kernel_rfl
    have HE : Hid (W.th ≠ b) := Lib.hid hth
    have hbw : becomeW W b = {W with th := b, d := [], a := []} := by unfold becomeW; rw [if_neg hth]
    have HBW := Lib.hid hbw
    clear h h1 M1 ha hth hbw
    go_enter Tryz.func81, Tryz.ntmps81
    go_wp2_with (first
      | (refine wpList_store3 rfl 99 _ _ rfl gw 101 _ _ _ _ _ _ _ _ _ rfl rfl K1 (by kernel_rfl) rfl rfl rfl ?_; intro w3 K3 o3 s3)
      | (refine wpList_setb rfl 4 _ _ rfl gw 3 101 _ (.bool b) rfl rfl K3 (by simp) (by kernel_rfl) rfl ?_; intro w4 K4 o4 s4))
    refine bodyPost_end (results_none rfl _ _ _) rfl ?_
    obtain ⟨h1, M1, ha⟩ := H1.out
    have hs1 : (w.alloc (.map #[] 0)).heap.size = w.heap.size + 1 := World.size_alloc _ _
    have hz4 := o3.size
    have ho : Only [gw] (w.alloc (.map #[] 0)) w4 := o3.trans o4 (fun k hk => .inl hk)
    have hod : ∀ (e : TypeId), e ≠ 101 → ∀ k ∈ [gw], Odd (w.alloc (.map #[] 0)) e k := fun e hq k hk => by simp at hk; subst hk; exact Odd.blk K1 hq.symm
    have hgl := HH.out.blk.lt
    refine ⟨rfl, ?_, (ha.mono hB).trans (ho.below (fun k hk => by simp at hk; subst hk; exact HH.out.gB) (by omega))⟩
    rw [HBW.out]
    exact ⟨0, ce, ct, none, E, T, .map (some w.heap.size), [], tv, ⟨K4, HH.out.gB, Own.nil _ _, (fun b hb => by cases hb), .inr ⟨w.heap.size, rfl, hB, M1.of (ho.block _ M1.lt (by simp; omega))⟩, .nil, own_odd h1.ext ho (hod _ (by decide)), own_odd h1.tol ho (hod _ (by decide)), h1.els.imp fun a b hr => (hr.only ho fun k hk => .inr (hod _ (by decide) k hk)).far (fun k hk => by simp [rowOf, Value.ownBlock] at hk)⟩⟩
end Go.Proofs.YtfbpfgbmlbkffaaGreat

/-
  What a step asks for. Conditions: the operation lies where it is said to; the step reads as it is said to.
-/
namespace Go.Proofs.YtfbpfgbmlbkffaaGreat
open Go.RowKit Go.BigFrame Go.Maps Go.WideElems Go.ChangeMaps
set_option linter.unusedSimpArgs false
set_option linter.unusedVariables false
set_option maxRecDepth 100000
theorem ofNat_inj8 {x y : Nat} (hx : x < 256) (hy : y < 256) (h : UInt8.ofNat x = UInt8.ofNat y) : x = y := by
  have := congrArg UInt8.toNat h
  simp at this
  omega
theorem strOf_inj8 {a b : List Nat} (ha : ∀ x ∈ a, x < 256) (hb : ∀ x ∈ b, x < 256) (h : strOf a = strOf b) : a = b := by
  have h1 := congrArg (fun s : ByteArray => s.data.toList) h
  simp only [strOf_data_] at h1
  have hl : a.length = b.length := by simpa using congrArg List.length h1
  apply List.ext_getElem?
  intro i
  have h2 := congrArg (fun l => l[i]?) h1
  simp only [List.getElem?_map] at h2
  by_cases hi : i < a.length
  · rw [List.getElem?_eq_getElem hi, List.getElem?_eq_getElem (by omega)] at h2 ⊢
    simp at h2
    rw [ofNat_inj8 (ha _ (List.getElem_mem hi)) (hb _ (List.getElem_mem (by omega))) h2]
  · rw [List.getElem?_eq_none (by omega), List.getElem?_eq_none (by omega)]
theorem strs_beq {bs bs' : List Nat} (h : Small bs) (h' : Small bs') : ((strOf bs).toList == (strOf bs').toList) = (bs == bs') := by
  rw [Bool.eq_iff_iff, beq_iff_eq, beq_iff_eq, ByteArray.toList_eq, ByteArray.toList_eq]
  exact ⟨fun e => strOf_inj8 h h' (Go.WideShapes.bytes_inj e), fun e => by rw [e]⟩
theorem equal_any (A A' : Option Addr) (n n' c c' B B' : Nat) (bs bs' : List Nat) (w : World) (h : Bytes w B A n bs) (h' : Bytes w B' A' n' bs') :
    Calls Tryz.prog 27 #[.slice A n c, .slice A' n' c'] w fun e w' => e = .returned (.bool (bs == bs')) ∧ w = w' := by
  have k1 := str_of (P := Tryz.prog) h c 22 9 5 Tryz.underlying22 Tryz.underlying5 Tryz.underlying9
  have k2 := str_of (P := Tryz.prog) h' c' 22 9 5 Tryz.underlying22 Tryz.underlying5 Tryz.underlying9
  have HE := Lib.hid (strs_beq h.2 h'.2)
  generalize strOf bs = s1 at *
  generalize strOf bs' = s2 at *
  clear h h'
  go_enter Tryz.func27, Tryz.ntmps27
  go_wp2
  go_ret
  exact ⟨by simp [HE.out], rfl⟩
theorem unless_t (k : Int) (w : World) : Calls Tryz.prog 103 #[.bool true, .int .i64 k] w fun e w' => e = .returned .nilIface ∧ w = w' := by
  go_enter Tryz.func103, Tryz.ntmps103
  go_wp2
  go_ret
  exact ⟨rfl, rfl⟩
theorem unless_f (k : Nat) (w : World) : Calls Tryz.prog 103 #[.bool false, .int .i64 ((k + 1 : Nat) : Int)] w fun e w' => e = .returned (errV (k + 1)) ∧ w = w' := by
  go_enter Tryz.func103, Tryz.ntmps103
  go_wp2
  go_ret
  exact ⟨rfl, rfl⟩
theorem unless_5 (w : World) : Calls Tryz.prog 103 #[.bool false, .int .i64 5] w fun e w' => e = .returned (errV 5) ∧ w = w' := unless_f 4 w
theorem unless_6 (w : World) : Calls Tryz.prog 103 #[.bool false, .int .i64 6] w fun e w' => e = .returned (errV 6) ∧ w = w' := unless_f 5 w
theorem unless_7 (w : World) : Calls Tryz.prog 103 #[.bool false, .int .i64 7] w fun e w' => e = .returned (errV 7) ∧ w = w' := unless_f 6 w
theorem unless_8 (w : World) : Calls Tryz.prog 103 #[.bool false, .int .i64 8] w fun e w' => e = .returned (errV 8) ∧ w = w' := unless_f 7 w
/-- a step as a value -/
def stepVal (x : StepV) (Dx : Option Addr) (cx : Nat) : Value := .agg #[.int .i64 x.kd, .int .i64 x.at_, .int .i64 x.ln, .string (strOf x.nm), .slice Dx x.dt.length cx]
structure StepIn (w : World) (x : StepV) (Bx : Nat) (Dx : Option Addr) : Prop where
  dat : Bytes w Bx Dx x.dt.length x.dt
  nm : Small x.nm
  at1 : -9223372036854775808 ≤ x.at_
  at2 : x.at_ ≤ 9223372036854775807
  ln1 : -9223372036854775808 ≤ x.ln
  ln2 : x.ln ≤ 9223372036854775807
  nl : x.nm.length ≤ 1000000
  dl : x.dt.length ≤ 1000000
theorem StepIn.since {w w' : World} {x : StepV} {Bx : Nat} {Dx : Option Addr} (h : StepIn w x Bx Dx) (hb : Below w.heap.size w w') : StepIn w' x Bx Dx := ⟨h.dat.since hb, h.nm, h.at1, h.at2, h.ln1, h.ln2, h.nl, h.dl⟩
/-- a look-up among the attributes -/
theorem attr_look {w : World} {B gw gs c ce ct : Nat} {D E T : Option Addr} {av : Value} {kv : KV} {tv : List Value} {W : Wk} (h : WkAt w B gw gs c ce ct D E T av kv tv W) (nm : List Nat) (hl : nm.length ≤ 1000000) :
    ∃ v b, (∀ w', Below w.heap.size w w' → (Instr.lookup 97 av (.string (strOf nm)) true).run Tryz.prog w' = .ok (.tuple #[v, .bool b]) w') ∧ ((b = false ∧ gget W.a (keyB nm) = none) ∨ ∃ A1 c1 bs, b = true ∧ gget W.a (keyB nm) = some bs ∧ v = .slice A1 bs.length c1 ∧ RowR w 0 (rowOf (.slice D W.d.length c)) v bs) := by
  have hz : ∀ w, (zeroValue 22).run Tryz.prog w = .ok (.slice none 0 0) w := fun w => by kernel_rfl
  rcases h.map with ⟨rfl, rfl, hth⟩ | ⟨mb, rfl, hB, hm⟩
  · refine ⟨.slice none 0 0, false, fun w' _ => ?_, .inl ⟨rfl, ?_⟩⟩
    · have := Maps.look_nil (P := Tryz.prog) (w := w') (t := 97) (e := 22) true (string_keyed Tryz.underlying9) Tryz.underlying97 (hz w') (key_of Tryz.underlying9 (keyB nm) (by simp [keyB, maxLen]; omega))
      rw [keyB_val] at this
      exact this
    · cases hg : gget W.a (keyB nm) with
      | none => rfl
      | some u =>
        have := h.att
        generalize W.a = l at *
        cases this
        cases hg
  · rcases h.att.get AttrR.key (keyB nm) with ⟨h1, h2⟩ | ⟨v, u, h1, h2, -, hr⟩
    · refine ⟨.slice none 0 0, false, fun w' hb => ?_, .inl ⟨rfl, h2⟩⟩
      have := run_lookup_ok_smap (P := Tryz.prog) (t := 97) (et := 22) Tryz.underlying9 Tryz.underlying97 (hz w') (hm.of (hb.block _ hm.lt)) (keyB nm) (by simp [keyB, maxLen]; omega)
      rw [keyB_val, h1] at this
      exact this
    · obtain ⟨A1, c1, e, hr2⟩ := hr
      refine ⟨v, true, fun w' hb => ?_, .inr ⟨A1, c1, u, rfl, h2, e, ⟨A1, c1, e, hr2⟩⟩⟩
      have := run_lookup_ok_smap (P := Tryz.prog) (t := 97) (et := 22) Tryz.underlying9 Tryz.underlying97 (hz w') (hm.of (hb.block _ hm.lt)) (keyB nm) (by simp [keyB, maxLen]; omega)
      rw [keyB_val, h1] at this
      exact this
set_option maxHeartbeats 4000000 in
/-- what need answers -/
theorem need_any {w : World} {B gw gs c ce ct : Nat} {D E T : Option Addr} {av : Value} {kv : KV} {tv : List Value} {W : Wk} (h : WkAt w B gw gs c ce ct D E T av kv tv W) {x : StepV} {Bx cx : Nat} {Dx : Option Addr} (hx : StepIn w x Bx Dx) (hk1 : 1 ≤ x.kd) (hk5 : x.kd ≤ 5) {bl : List Bool}
    (hbl : ∀ w', Below w.heap.size w w' → Calls Tryz.prog 37 #[.pointer (some ⟨gs, 0, none⟩), .int .i64 x.at_] w' fun e w'' => e = .returned (.bool (isClientB x.at_ && bl.getD x.at_.toNat false)) ∧ w' = w'') :
    Calls Tryz.prog 80 #[.pointer (some ⟨gw, 0, none⟩), stepVal x Dx cx] w fun e w' => e = .returned (errV (needW bl W x)) ∧ Below w.heap.size w w' := by
  obtain ⟨kd, at_, ln, nm, dt⟩ := x
  obtain ⟨v, b, hlk, hlc⟩ := attr_look h nm hx.nl
  have HX := Lib.hid hx
  clear hx
  dsimp only at *
  obtain ⟨w1, hw1⟩ : ∃ w1, w1 = w.alloc (.cells #[.int .i64 kd, .int .i64 at_, .int .i64 ln, .string (strOf nm), .slice Dx dt.length cx] 59) := ⟨_, rfl⟩
  have hb1 : Below w.heap.size w w1 := by rw [hw1]; exact (Below.refl _ _).alloc (Nat.le_refl _) _
  have h1 := h.below hb1
  have K1 : Blk w1 w.heap.size 59 #[.int .i64 kd, .int .i64 at_, .int .i64 ln, .string (strOf nm), .slice Dx dt.length cx] := by rw [hw1]; exact Blk.new w _ _
  have HW1 := Lib.hid hw1
  have HB1 := Lib.hid hb1
  have HBL := Lib.hid hbl
  have HLC := Lib.hid hlc
  have hlk1 : ∀ q, (Instr.lookup 97 av (.string (strOf nm)) true).run Tryz.prog (w1.drewN q) = .ok (.tuple #[v, .bool b]) (w1.drewN q) := fun q => hlk _ (drawn_below hb1 q)
  have ck : ∀ q, (w1.drewN q).cell? ⟨w.heap.size, 0, none⟩ = some (.int .i64 kd) ∧ (w1.drewN q).cell? ⟨w.heap.size, 1, none⟩ = some (.int .i64 at_) ∧ (w1.drewN q).cell? ⟨w.heap.size, 3, none⟩ = some (.string (strOf nm)) ∧ (w1.drewN q).cell? ⟨w.heap.size, 4, none⟩ = some (.slice Dx dt.length cx) := fun q => ⟨K1.cell 0, K1.cell 1, K1.cell 3, K1.cell 4⟩
  have cw : ∀ q, (w1.drewN q).cell? ⟨gw, 1, none⟩ = some av ∧ (w1.drewN q).cell? ⟨gw, 3, none⟩ = some (.bool W.th) ∧ (w1.drewN q).cell? ⟨gw, 5, none⟩ = some (.pointer (some ⟨gs, 0, none⟩)) := fun q => ⟨h1.blk.cell 1, h1.blk.cell 3, h1.blk.cell 5⟩
  have q1 := ck 0
  have q2 := cw 0
  unfold stepVal
  dsimp only
  clear hlk hb1 hbl hlc hw1 K1
  go_enter Tryz.func80, Tryz.ntmps80
  go_wp2_with fail
  rw [← HW1.out]
  go_quiet (fail)
  obtain ⟨w2, hw2⟩ : ∃ w2, w2 = w1.drewN nq := ⟨_, rfl⟩
  have ck2 : ∀ q, (w2.drewN q).cell? ⟨w.heap.size, 0, none⟩ = some (.int .i64 kd) ∧ (w2.drewN q).cell? ⟨w.heap.size, 1, none⟩ = some (.int .i64 at_) ∧ (w2.drewN q).cell? ⟨w.heap.size, 3, none⟩ = some (.string (strOf nm)) ∧ (w2.drewN q).cell? ⟨w.heap.size, 4, none⟩ = some (.slice Dx dt.length cx) := by rw [hw2]; intro q; exact ck q
  have cw2 : ∀ q, (w2.drewN q).cell? ⟨gw, 1, none⟩ = some av ∧ (w2.drewN q).cell? ⟨gw, 3, none⟩ = some (.bool W.th) ∧ (w2.drewN q).cell? ⟨gw, 5, none⟩ = some (.pointer (some ⟨gs, 0, none⟩)) := by rw [hw2]; intro q; exact cw q
  have HB2 : Hid (Below w.heap.size w w2) := Lib.hid (by rw [hw2]; exact below_drewN HB1.out _)
  have q1 : w2.cell? ⟨w.heap.size, 0, none⟩ = some (.int .i64 kd) ∧ w2.cell? ⟨w.heap.size, 1, none⟩ = some (.int .i64 at_) ∧ w2.cell? ⟨w.heap.size, 3, none⟩ = some (.string (strOf nm)) ∧ w2.cell? ⟨w.heap.size, 4, none⟩ = some (.slice Dx dt.length cx) := ck2 0
  have q2 : w2.cell? ⟨gw, 1, none⟩ = some av ∧ w2.cell? ⟨gw, 3, none⟩ = some (.bool W.th) ∧ w2.cell? ⟨gw, 5, none⟩ = some (.pointer (some ⟨gs, 0, none⟩)) := cw2 0
  rw [← hw2]
  clear hw2 ck cw hlk1 HW1
  have hkd : kd = 1 ∨ kd = 2 ∨ kd = 3 ∨ kd = 4 ∨ kd = 5 := by omega
  rcases hkd with rfl | rfl | rfl | rfl | rfl
  · cases hth : W.th
    · have HT := Lib.hid hth
      simp only [hth] at q2 cw2
      go_wp2_with (first | (refine (unless_6 _).mono ?_; rintro e w' ⟨rfl, rfl⟩))
      go_ret
      exact ⟨by simp [needW, HT.out], HB2.out⟩
    · have HT := Lib.hid hth
      simp only [hth] at q2 cw2
      go_wp2_with (first | (refine (unless_t 6 _).mono ?_; rintro e w' ⟨rfl, rfl⟩))
      go_ret
      exact ⟨by simp [needW, HT.out, errV], HB2.out⟩
  · cases hth : W.th
    · have HT := Lib.hid hth
      simp only [hth] at q2 cw2
      go_wp2_with (first | (refine (unless_t 5 _).mono ?_; rintro e w' ⟨rfl, rfl⟩))
      go_ret
      exact ⟨by simp [needW, HT.out, errV], HB2.out⟩
    · have HT := Lib.hid hth
      simp only [hth] at q2 cw2
      go_wp2_with (first | (refine (unless_5 _).mono ?_; rintro e w' ⟨rfl, rfl⟩))
      go_ret
      exact ⟨by simp [needW, HT.out], HB2.out⟩
  · rcases HLC.out with ⟨rfl, hg⟩ | ⟨A1, c1, bs, rfl, hg, rfl, A2, c2, e2, hown, hsm, -⟩
    · have HG := Lib.hid hg
      clear hg
      go_wp2_with (first | (refine (unless_7 _).mono ?_; rintro e w' ⟨rfl, rfl⟩))
      go_ret
      exact ⟨by simp [needW, HG.out], HB2.out⟩
    · have HG := Lib.hid hg
      have HEQ := Lib.hid (equal_any A1 Dx bs.length dt.length c1 cx w.heap.size Bx bs dt w2 ((hown.bytes hsm).since HB2.out) (HX.out.dat.since HB2.out))
      have hH := HB2
      clear hg e2 hown hsm
      cases hbd : (bs == dt)
      · have hne : bs ≠ dt := by simpa using hbd
        rw [hbd] at HEQ
        have HN := Lib.hid hne
        clear hne
        go_wp2_with (first | (refine HEQ.out.mono ?_; rintro e w' ⟨rfl, rfl⟩) | (refine (unless_7 _).mono ?_; rintro e w' ⟨rfl, rfl⟩))
        go_ret
        exact ⟨by simp [needW, HG.out, HN.out], HB2.out⟩
      · have hne : bs = dt := by simpa using hbd
        rw [hbd] at HEQ
        have HN := Lib.hid hne
        clear hne
        go_wp2_with (first | (refine HEQ.out.mono ?_; rintro e w' ⟨rfl, rfl⟩) | (refine (unless_t 7 _).mono ?_; rintro e w' ⟨rfl, rfl⟩))
        go_ret
        exact ⟨by simp [needW, HG.out, HN.out, errV], HB2.out⟩
  · rcases HLC.out with ⟨rfl, hg⟩ | ⟨A1, c1, bs, rfl, hg, rfl, -⟩
    · have HG := Lib.hid hg
      clear hg
      go_wp2_with (first | (refine (unless_t 7 _).mono ?_; rintro e w' ⟨rfl, rfl⟩))
      go_ret
      exact ⟨by simp [needW, HG.out, errV], HB2.out⟩
    · have HG := Lib.hid hg
      clear hg
      go_wp2_with (first | (refine (unless_7 _).mono ?_; rintro e w' ⟨rfl, rfl⟩))
      go_ret
      exact ⟨by simp [needW, HG.out], HB2.out⟩
  · have HI := Lib.hid (isClient_any at_)
    cases hc : isClientB at_
    · have HC := Lib.hid hc
      go_wp2_with fail
      refine (HI.out _).mono ?_
      rintro e w' ⟨rfl, rfl⟩
      rw [HC.out]
      clear hc HI HBL
      go_wp2
      go_ret
      exact ⟨by simp [needW, HC.out, errV], HB2.out⟩
    · have HC := Lib.hid hc
      have hbq : ∀ q, Calls Tryz.prog 37 #[.pointer (some ⟨gs, 0, none⟩), .int .i64 at_] (w2.drewN q) fun e w'' => e = .returned (.bool (bl.getD at_.toNat false)) ∧ w2.drewN q = w'' := fun q => by
        have := HBL.out (w2.drewN q) (drawn_below HB2.out q)
        rw [HC.out, Bool.true_and] at this
        exact this
      clear HBL
      go_wp2_with fail
      refine (HI.out _).mono ?_
      rintro e w' ⟨rfl, rfl⟩
      rw [HC.out]
      clear hc HI
      cases hbv : bl.getD at_.toNat false
      · rw [hbv] at hbq
        have HBQ := Lib.hid hbq
        have HV := Lib.hid hbv
        clear hbq hbv
        go_wp2_with fail
        go_quiet (first
          | (go_at_call 37; exact Calls.quiet_of_same ((HBQ.out _).mono fun e w' h => ⟨h.1, h.2.symm⟩))
          | (go_at_call 103; exact Calls.quiet_of_same ((unless_t 8 _).mono fun e w' h => ⟨h.1, h.2.symm⟩)))
        go_wp2
        go_ret
        exact ⟨by simp only [needW]; rw [HC.out, HV.out]; rfl, below_drewN HB2.out _⟩
      · rw [hbv] at hbq
        have HBQ := Lib.hid hbq
        have HV := Lib.hid hbv
        clear hbq hbv
        go_wp2_with fail
        go_quiet (first
          | (go_at_call 37; exact Calls.quiet_of_same ((HBQ.out _).mono fun e w' h => ⟨h.1, h.2.symm⟩))
          | (go_at_call 103; exact Calls.quiet_of_same ((unless_8 _).mono fun e w' h => ⟨h.1, h.2.symm⟩)))
        go_wp2
        go_ret
        exact ⟨by simp only [needW]; rw [HC.out, HV.out]; rfl, below_drewN HB2.out _⟩
end Go.Proofs.YtfbpfgbmlbkffaaGreat

/-
  A step on an attribute. Conditions: the operation lies where it is said to; the step reads as it is said to.
-/
namespace Go.Proofs.YtfbpfgbmlbkffaaGreat
open Go.RowKit Go.BigFrame
set_option linter.unusedSimpArgs false
set_option linter.unusedVariables false
set_option maxRecDepth 100000
/-- the cells of a step in a block -/
def stepC (x : StepV) (Dx : Option Addr) (cx : Nat) : Array Value := #[.int .i64 x.kd, .int .i64 x.at_, .int .i64 x.ln, .string (strOf x.nm), .slice Dx x.dt.length cx]
/-- the operation and a step's block -/
def Two2 (gw g3 : Nat) (wc sc : Array Value) (w : World) : Prop := Blk w gw 101 wc ∧ Blk w g3 59 sc
/-- it leaves another world, and no value -/
theorem wp_skipped {P : Program} {Q : Exit → Act → World → Prop} {o : Oper} {a : Act} {w w' : World} {K : Act → World → Prop} (hv : (execOp a.eval o).run P w = .ok .skip w') (h : K (a.put o.dst undef) w') : Oper.wp P o a w K Q := by
  unfold Oper.wp
  rw [hv]
  exact h
theorem errV_zero : errV 0 = .nilIface := rfl
/-- the region that sets an attribute -/
theorem wkd_set {w w3 w4 : World} {B gw gs c ce ct : Nat} {D E T : Option Addr} {av : Value} {kv : KV} {tv : List Value} {W : Wk} (h : WkAt w B gw gs c ce ct D E T av kv tv W) (hB : B ≤ w.heap.size) {mb : Nat} (hav : av = .map (some mb)) (hmB : B ≤ mb) (hb : Below w.heap.size w w3) {k : Key} {v : Value} {bs : List Nat} (hv : RowR w3 0 (rowOf (.slice D W.d.length c)) v bs)
    (hm : SMap Tryz.prog 9 w4 mb (aput k v kv)) (hg : w3.grownBy w4 (some mb)) : Wkd w4 B gw gs {W with a := gput k bs W.a} ∧ Below B w w4 := by
  have h3 := h.below hb
  have hs := hb.size
  have ho : Only [mb] w3 w4 := (Only.refl _ _).grown hg (fun g e => .inl (by injection e with e; simp [e]))
  have hmap : SMap Tryz.prog 9 w3 mb kv := by
    rcases h3.map with ⟨e, _⟩ | ⟨mb', e, h1, h2⟩
    · rw [e] at hav; cases hav
    · rw [e] at hav
      injection hav with hav
      injection hav with hav
      subst hav
      exact h2
  have hod : ∀ (e : TypeId), ∀ k ∈ [mb], Odd w3 e k := fun e k hk => by simp at hk; subst hk; exact Odd.map hmap
  refine ⟨h3.attrs hav ho hm ?_, (hb.mono hB).trans (ho.below (fun k hk => by simp at hk; omega) (by omega))⟩
  have hr : Rel2 (AttrR w4 (rowOf (.slice D W.d.length c))) kv W.a := h3.att.imp fun a b hr => ⟨hr.1, hr.2.only ho fun k hk => .inr (hod _ k hk)⟩
  exact hr.put AttrR.key ⟨rfl, hv.only ho fun k hk => .inr (hod _ k hk)⟩
theorem wkd_del {w w3 w4 : World} {B gw gs c ce ct : Nat} {D E T : Option Addr} {av : Value} {kv : KV} {tv : List Value} {W : Wk} (h : WkAt w B gw gs c ce ct D E T av kv tv W) (hB : B ≤ w.heap.size) {mb : Nat} (hav : av = .map (some mb)) (hmB : B ≤ mb) (hb : Below w.heap.size w w3) {k : Key}
    (hm : SMap Tryz.prog 9 w4 mb (adel k kv)) (hg : w3.grownBy w4 (some mb)) : Wkd w4 B gw gs {W with a := gdel k W.a} ∧ Below B w w4 := by
  have h3 := h.below hb
  have hs := hb.size
  have ho : Only [mb] w3 w4 := (Only.refl _ _).grown hg (fun g e => .inl (by injection e with e; simp [e]))
  have hmap : SMap Tryz.prog 9 w3 mb kv := by
    rcases h3.map with ⟨e, _⟩ | ⟨mb', e, h1, h2⟩
    · rw [e] at hav; cases hav
    · rw [e] at hav
      injection hav with hav
      injection hav with hav
      subst hav
      exact h2
  have hod : ∀ (e : TypeId), ∀ k ∈ [mb], Odd w3 e k := fun e k hk => by simp at hk; subst hk; exact Odd.map hmap
  refine ⟨h3.attrs hav ho hm ?_, (hb.mono hB).trans (ho.below (fun k hk => by simp at hk; omega) (by omega))⟩
  have hr : Rel2 (AttrR w4 (rowOf (.slice D W.d.length c))) kv W.a := h3.att.imp fun a b hr => ⟨hr.1, hr.2.only ho fun k hk => .inr (hod _ k hk)⟩
  exact hr.del AttrR.key k
set_option maxHeartbeats 8000000 in
theorem attr_any {w : World} {B gw gs c ce ct : Nat} {D E T : Option Addr} {av : Value} {kv : KV} {tv : List Value} {W : Wk} (h : WkAt w B gw gs c ce ct D E T av kv tv W) (hB : B ≤ w.heap.size) (hth : W.th = true) (ha : W.a.length ≤ 1000000) (ht : W.told.length ≤ 1000000) (hsm : ∀ k bs, gget W.a k = some bs → bs.length ≤ 1000000)
    {x : StepV} {Bx cx : Nat} {Dx : Option Addr} (hx : StepIn w x Bx Dx) (hk : x.kd = 11 ∨ x.kd = 12 ∨ x.kd = 14) :
    Calls Tryz.prog 104 #[.pointer (some ⟨gw, 0, none⟩), stepVal x Dx cx] w (StepTo w B gw gs (insideW W x).1 (errV (insideW W x).2)) := by
  obtain ⟨mb, rfl, hmB, hmm⟩ : ∃ mb, av = .map (some mb) ∧ B ≤ mb ∧ SMap Tryz.prog 9 w mb kv := by
    rcases h.map with ⟨_, _, e⟩ | hh
    · rw [hth] at e; cases e
    · exact hh
  obtain ⟨kd, at_, ln, nm, dt⟩ := x
  dsimp only at *
  obtain ⟨w1, hw1⟩ : ∃ w1, w1 = w.alloc (.cells #[.int .i64 kd, .int .i64 at_, .int .i64 ln, .string (strOf nm), .slice Dx dt.length cx] 59) := ⟨_, rfl⟩
  obtain ⟨g3, hg3⟩ : ∃ g3, g3 = w.heap.size := ⟨_, rfl⟩
  have hb1 : Below w.heap.size w w1 := by rw [hw1]; exact (Below.refl _ _).alloc (Nat.le_refl _) _
  have h1 := h.below hb1
  have K1 : Blk w1 g3 59 (stepC ⟨kd, at_, ln, nm, dt⟩ Dx cx) := by rw [hw1, hg3]; exact Blk.new w _ _
  have HH := Lib.hid h
  have HX := Lib.hid hx
  have HKV : Hid (kv.length = W.a.length) := Lib.hid h.att.len
  have HW1 := Lib.hid (And.intro hw1 hg3)
  have HB1 := Lib.hid hb1
  have HTH := Lib.hid hth
  have HLK := Lib.hid (attr_look h nm hx.nl)
  have HC : Hid (∀ w', Two2 gw g3 (workC D W.d.length c (.map (some mb)) E W.e.length ce W.th T W.told.length ct gs) (stepC ⟨kd, at_, ln, nm, dt⟩ Dx cx) w' → w'.cell? ⟨gw, 1, none⟩ = some (.map (some mb)) ∧ w'.cell? ⟨g3, 3, none⟩ = some (.string (strOf nm)) ∧ w'.cell? ⟨g3, 4, none⟩ = some (.slice Dx dt.length cx)) := Lib.hid fun w' h => ⟨h.1.cell 1, h.2.cell 3, h.2.cell 4⟩
  have HMM := Lib.hid hmm
  have q0 : w1.cell? ⟨g3, 0, none⟩ = some (.int .i64 kd) := K1.cell 0
  have q3 : w1.cell? ⟨g3, 3, none⟩ = some (.string (strOf nm)) := K1.cell 3
  have HNM := Lib.hid (isName_any nm hx.nm hx.nl w1)
  unfold stepVal
  dsimp only
  clear h hx hb1 hw1 hth hmm hg3
  go_enter Tryz.func104, Tryz.ntmps104
  rcases hk with rfl | rfl | rfl
  -- {A
  · go_wp2_with (first | rw [← HW1.out.1, ← HW1.out.2])
    refine HNM.out.mono ?_
    rintro e w2 ⟨rfl, hb2⟩
    have hb02 : Below w.heap.size w w2 := HB1.out.trans (hb2.mono HB1.out.size)
    have h2 := h1.below hb2
    have K2 := K1.of (hb2.block _ K1.lt)
    have q4 : w2.cell? ⟨g3, 4, none⟩ = some (.slice Dx dt.length cx) := K2.cell 4
    have H2 := Lib.hid (And.intro h2 hb02)
    have HK2 := Lib.hid K2
    clear h1 h2 hb2 hb02 K1 K2 q0 q3 HW1 HNM
    cases hnm : isNameB nm
    · have HN := Lib.hid hnm
      clear hnm
      go_wp2
      go_ret
      have hin : insideW W ⟨11, at_, ln, nm, dt⟩ = (W, 1) := by simp [insideW, HN.out]
      rw [hin]
      exact ⟨rfl, ⟨_, _, _, _, _, _, _, _, _, H2.out.1⟩, H2.out.2.mono hB⟩
    · have HN := Lib.hid hnm
      clear hnm
      by_cases hlen : dt.length ≤ 1024
      · have hd : decide ((1024 : Int) < (dt.length : Int)) = false := decide_eq_false (by omega)
        have hin : insideW W ⟨11, at_, ln, nm, dt⟩ = ({W with a := gput (keyB nm) dt W.a}, 0) := by simp [insideW, HN.out, hlen]
        have HIN := Lib.hid hin
        clear hin
        go_wp2_with fail
        have hS : Two2 gw g3 (workC D W.d.length c (.map (some mb)) E W.e.length ce W.th T W.told.length ct gs) (stepC ⟨11, at_, ln, nm, dt⟩ Dx cx) w2.drew := ⟨H2.out.1.blk.drew, HK2.out.drew⟩
        refine any_beginL (Two2 gw g3 (workC D W.d.length c (.map (some mb)) E W.e.length ce W.th T W.told.length ct gs) (stepC ⟨11, at_, ln, nm, dt⟩ Dx cx)) 10 (by kernel_rfl) ?_
        refine L_take (i := 0) (v := .pointer (some ⟨gw, 0, none⟩)) rfl rfl (by kernel_rfl) (by kernel_rfl) (by kernel_rfl) (by kernel_rfl) (fun _ _ _ h => h) (Or.inl ⟨by rfl, fun w hw => by kernel_rfl⟩) hS ?_
        simp only [Act.put, List.getElem_toArray, List.getElem_cons_succ, List.getElem_cons_zero, List.setIfInBounds_toArray, List.set_cons_zero, List.set_cons_succ]
        refine L_take (i := 1) (v := .pointer (some ⟨gw, 0, none⟩)) rfl rfl (by kernel_rfl) (by kernel_rfl) (by kernel_rfl) (by kernel_rfl) (fun _ _ _ h => h) (Or.inl ⟨by rfl, fun w hw => by kernel_rfl⟩) hS ?_
        simp only [Act.put, List.getElem_toArray, List.getElem_cons_succ, List.getElem_cons_zero, List.setIfInBounds_toArray, List.set_cons_zero, List.set_cons_succ]
        refine L_take (i := 2) (v := .pointer (some ⟨gw, 0, none⟩)) rfl rfl (by kernel_rfl) (by kernel_rfl) (by kernel_rfl) (by kernel_rfl) (fun _ _ _ h => h) (Or.inl ⟨by rfl, fun w hw => by go_simp⟩) hS ?_
        simp only [Act.put, List.getElem_toArray, List.getElem_cons_succ, List.getElem_cons_zero, List.setIfInBounds_toArray, List.set_cons_zero, List.set_cons_succ]
        refine L_take (i := 3) (v := .pointer (some ⟨gw, 1, none⟩)) rfl rfl (by kernel_rfl) (by kernel_rfl) (by kernel_rfl) (by kernel_rfl) (fun _ _ _ h => h) (Or.inl ⟨by rfl, fun w hw => by go_simp⟩) hS ?_
        simp only [Act.put, List.getElem_toArray, List.getElem_cons_succ, List.getElem_cons_zero, List.setIfInBounds_toArray, List.set_cons_zero, List.set_cons_succ]
        refine L_take (i := 4) (v := .map (some mb)) rfl rfl (by kernel_rfl) (by kernel_rfl) (by kernel_rfl) (by kernel_rfl) (fun _ _ _ h => h) (Or.inl ⟨by rfl, fun w hw => by have q := (HC.out w hw).1; go_simp⟩) hS ?_
        simp only [Act.put, List.getElem_toArray, List.getElem_cons_succ, List.getElem_cons_zero, List.setIfInBounds_toArray, List.set_cons_zero, List.set_cons_succ]
        refine L_take (i := 5) (v := .pointer (some ⟨g3, 3, none⟩)) rfl rfl (by kernel_rfl) (by kernel_rfl) (by kernel_rfl) (by kernel_rfl) (fun _ _ _ h => h) (Or.inl ⟨by rfl, fun w hw => by go_simp⟩) hS ?_
        simp only [Act.put, List.getElem_toArray, List.getElem_cons_succ, List.getElem_cons_zero, List.setIfInBounds_toArray, List.set_cons_zero, List.set_cons_succ]
        refine L_take (i := 6) (v := .string (strOf nm)) rfl rfl (by kernel_rfl) (by kernel_rfl) (by kernel_rfl) (by kernel_rfl) (fun _ _ _ h => h) (Or.inl ⟨by rfl, fun w hw => by have q := (HC.out w hw).2.1; go_simp⟩) hS ?_
        simp only [Act.put, List.getElem_toArray, List.getElem_cons_succ, List.getElem_cons_zero, List.setIfInBounds_toArray, List.set_cons_zero, List.set_cons_succ]
        refine L_take (i := 7) (v := .pointer (some ⟨g3, 4, none⟩)) rfl rfl (by kernel_rfl) (by kernel_rfl) (by kernel_rfl) (by kernel_rfl) (fun _ _ _ h => h) (Or.inl ⟨by rfl, fun w hw => by go_simp⟩) hS ?_
        simp only [Act.put, List.getElem_toArray, List.getElem_cons_succ, List.getElem_cons_zero, List.setIfInBounds_toArray, List.set_cons_zero, List.set_cons_succ]
        refine L_take (i := 8) (v := .slice Dx dt.length cx) rfl rfl (by kernel_rfl) (by kernel_rfl) (by kernel_rfl) (by kernel_rfl) (fun _ _ _ h => h) (Or.inl ⟨by rfl, fun w hw => by have q := (HC.out w hw).2.2; go_simp⟩) hS ?_
        simp only [Act.put, List.getElem_toArray, List.getElem_cons_succ, List.getElem_cons_zero, List.setIfInBounds_toArray, List.set_cons_zero, List.set_cons_succ]
        refine L_one (j := 9) (by kernel_rfl) rfl (by rfl) ?_
        simp only [Act.put, List.getElem_toArray, List.getElem_cons_succ, List.getElem_cons_zero, List.setIfInBounds_toArray, List.set_cons_zero, List.set_cons_succ]
        refine wp_called (by kernel_rfl) (clone_any Dx dt.length cx dt w2.drew Bx (by have := HX.out.dl; simp at this; omega) (HX.out.dat.since H2.out.2).drew) ?_
        rintro e w3 ⟨v, rfl, hv, hb3⟩
        have hb3' : Below w2.heap.size w2 w3 := below_drew' hb3
        have hb03 : Below w.heap.size w w3 := H2.out.2.trans (hb3'.mono H2.out.2.size)
        refine ⟨_, rfl, ⟨H2.out.1.blk.of (hb3'.block _ H2.out.1.blk.lt), HK2.out.of (hb3'.block _ HK2.out.lt)⟩, ?_⟩
        simp only [Act.put, List.getElem_toArray, List.getElem_cons_succ, List.getElem_cons_zero, List.setIfInBounds_toArray, List.set_cons_zero, List.set_cons_succ]
        have hm3 : SMap Tryz.prog 9 w3 mb kv := HMM.out.of (hb03.block _ HMM.out.lt)
        obtain ⟨w4, hrun, hm4, hg4, -⟩ := run_update_smap (P := Tryz.prog) Tryz.underlying9 Tryz.underlying97 hm3 (keyB nm) (by have := HX.out.nl; simp [keyB, maxLen] at this ⊢; omega) (by rw [HKV.out]; simp only [maxLen]; omega) v
        rw [keyB_val] at hrun
        have hfin : StepTo w B gw gs (insideW W ⟨11, at_, ln, nm, dt⟩).1 (errV (insideW W ⟨11, at_, ln, nm, dt⟩).2) (.returned .nilIface) w4 := by
          rw [HIN.out]
          obtain ⟨x1, x2⟩ := wkd_set HH.out hB rfl hmB hb03 (v := v) (bs := dt) (by
            obtain ⟨A1, c1, rfl, -⟩ := hv.form
            exact ⟨A1, c1, rfl, hv.weaken (Nat.zero_le _), HX.out.dat.2, fun k hk hm => by
              have a1 := row_over hv k hk
              have a2 := row_under HH.out.dat k hm
              have a3 := H2.out.2.size
              have a4 : w2.drew.heap.size = w2.heap.size := rfl
              omega⟩) hm4 hg4
          exact ⟨rfl, x1, x2⟩
        have HFIN := Lib.hid hfin
        have HRUN := Lib.hid hrun
        clear hfin hm4 hg4 hm3 hb03 hb3' hb3 hv hS hrun
        refine L_last (by kernel_rfl) rfl (by rfl) (by kernel_rfl) ?_
        simp only [Act.put, List.getElem_toArray, List.getElem_cons_succ, List.getElem_cons_zero, List.setIfInBounds_toArray, List.set_cons_zero, List.set_cons_succ]
        refine wp_skipped (w' := w4) (by have q := HRUN.out; go_simp) ?_
        refine NoPanic.normal ?_
        simp only [Act.put, List.getElem_toArray, List.getElem_cons_succ, List.getElem_cons_zero, List.setIfInBounds_toArray, List.set_cons_zero, List.set_cons_succ]
        go_wp2
        go_ret
        exact HFIN.out
      · have hd : decide ((1024 : Int) < (dt.length : Int)) = true := decide_eq_true (by omega)
        have hin : insideW W ⟨11, at_, ln, nm, dt⟩ = (W, 1) := by simp [insideW, HN.out, hlen]
        have HIN := Lib.hid hin
        clear hin
        go_wp2
        go_ret
        rw [HIN.out]
        exact ⟨rfl, ⟨_, _, _, _, _, _, _, _, _, H2.out.1⟩, H2.out.2.mono hB⟩
  -- A}
  -- {Bq
  · go_wp2_with fail
    rw [← HW1.out.1, ← HW1.out.2]
    have hin : insideW W ⟨12, at_, ln, nm, dt⟩ = ({W with a := gdel (keyB nm) W.a}, 0) := by simp [insideW]
    have HIN := Lib.hid hin
    have hS : Two2 gw g3 (workC D W.d.length c (.map (some mb)) E W.e.length ce W.th T W.told.length ct gs) (stepC ⟨12, at_, ln, nm, dt⟩ Dx cx) w1.drew := ⟨h1.blk.drew, K1.drew⟩
    refine any_beginL (Two2 gw g3 (workC D W.d.length c (.map (some mb)) E W.e.length ce W.th T W.told.length ct gs) (stepC ⟨12, at_, ln, nm, dt⟩ Dx cx)) 99 (by kernel_rfl) ?_
    refine S_take (i := 0) (v := .pointer (some ⟨gw, 0, none⟩)) rfl rfl (by kernel_rfl) (by kernel_rfl) (by kernel_rfl) (fun _ _ _ h => h) (Or.inl ⟨by rfl, fun w hw => by kernel_rfl⟩) hS ?_
    simp only [Act.put, List.getElem_toArray, List.getElem_cons_succ, List.getElem_cons_zero, List.setIfInBounds_toArray, List.set_cons_zero, List.set_cons_succ]
    refine S_take (i := 1) (v := .pointer (some ⟨gw, 0, none⟩)) rfl rfl (by kernel_rfl) (by kernel_rfl) (by kernel_rfl) (fun _ _ _ h => h) (Or.inl ⟨by rfl, fun w hw => by kernel_rfl⟩) hS ?_
    simp only [Act.put, List.getElem_toArray, List.getElem_cons_succ, List.getElem_cons_zero, List.setIfInBounds_toArray, List.set_cons_zero, List.set_cons_succ]
    refine S_take (i := 2) (v := .pointer (some ⟨gw, 0, none⟩)) rfl rfl (by kernel_rfl) (by kernel_rfl) (by kernel_rfl) (fun _ _ _ h => h) (Or.inl ⟨by rfl, fun w hw => by go_simp⟩) hS ?_
    simp only [Act.put, List.getElem_toArray, List.getElem_cons_succ, List.getElem_cons_zero, List.setIfInBounds_toArray, List.set_cons_zero, List.set_cons_succ]
    refine S_take (i := 3) (v := .pointer (some ⟨gw, 1, none⟩)) rfl rfl (by kernel_rfl) (by kernel_rfl) (by kernel_rfl) (fun _ _ _ h => h) (Or.inl ⟨by rfl, fun w hw => by go_simp⟩) hS ?_
    simp only [Act.put, List.getElem_toArray, List.getElem_cons_succ, List.getElem_cons_zero, List.setIfInBounds_toArray, List.set_cons_zero, List.set_cons_succ]
    refine S_take (i := 4) (v := .map (some mb)) rfl rfl (by kernel_rfl) (by kernel_rfl) (by kernel_rfl) (fun _ _ _ h => h) (Or.inl ⟨by rfl, fun w hw => by have q := (HC.out w hw).1; go_simp⟩) hS ?_
    simp only [Act.put, List.getElem_toArray, List.getElem_cons_succ, List.getElem_cons_zero, List.setIfInBounds_toArray, List.set_cons_zero, List.set_cons_succ]
    refine S_take (i := 5) (v := .pointer (some ⟨g3, 3, none⟩)) rfl rfl (by kernel_rfl) (by kernel_rfl) (by kernel_rfl) (fun _ _ _ h => h) (Or.inl ⟨by rfl, fun w hw => by go_simp⟩) hS ?_
    simp only [Act.put, List.getElem_toArray, List.getElem_cons_succ, List.getElem_cons_zero, List.setIfInBounds_toArray, List.set_cons_zero, List.set_cons_succ]
    refine S_take (i := 6) (v := .string (strOf nm)) rfl rfl (by kernel_rfl) (by kernel_rfl) (by kernel_rfl) (fun _ _ _ h => h) (Or.inl ⟨by rfl, fun w hw => by have q := (HC.out w hw).2.1; go_simp⟩) hS ?_
    simp only [Act.put, List.getElem_toArray, List.getElem_cons_succ, List.getElem_cons_zero, List.setIfInBounds_toArray, List.set_cons_zero, List.set_cons_succ]
    have hm3 : SMap Tryz.prog 9 w1.drew mb kv := HMM.out.of (HB1.out.block _ HMM.out.lt)
    obtain ⟨w4, hrun, hm4, hg4, -⟩ := run_delete_smap (P := Tryz.prog) (ty := 0) Tryz.underlying9 Tryz.underlying97 hm3 (keyB nm) (by have := HX.out.nl; simp [keyB, maxLen] at this ⊢; omega)
    rw [keyB_val] at hrun
    have hfin : StepTo w B gw gs (insideW W ⟨12, at_, ln, nm, dt⟩).1 (errV (insideW W ⟨12, at_, ln, nm, dt⟩).2) (.returned .nilIface) w4 := by
      rw [HIN.out]
      obtain ⟨x1, x2⟩ := wkd_del HH.out hB rfl hmB (drawn_below HB1.out 1) hm4 hg4
      exact ⟨rfl, x1, x2⟩
    have hS4 : Two2 gw g3 (workC D W.d.length c (.map (some mb)) E W.e.length ce W.th T W.told.length ct gs) (stepC ⟨12, at_, ln, nm, dt⟩ Dx cx) w4 := ⟨hS.1.grown hg4 (fun e => by injection e with e; exact hm3.ne_blk hS.1 e.symm), hS.2.grown hg4 (fun e => by injection e with e; exact hm3.ne_blk hS.2 e.symm)⟩
    have HFIN := Lib.hid hfin
    have HRUN := Lib.hid hrun
    clear hfin hm4 hg4 hm3 hS hrun hin
    refine L_one (j := 7) (by kernel_rfl) rfl (by rfl) ?_
    simp only [Act.put, List.getElem_toArray, List.getElem_cons_succ, List.getElem_cons_zero, List.setIfInBounds_toArray, List.set_cons_zero, List.set_cons_succ]
    refine wp_ran (v := .tuple #[]) (w' := w4) (by have q := HRUN.out; go_simp) ⟨hS4, ?_⟩
    simp only [Act.put, List.getElem_toArray, List.getElem_cons_succ, List.getElem_cons_zero, List.setIfInBounds_toArray, List.set_cons_zero, List.set_cons_succ]
    refine L_done (by kernel_rfl) ?_
    refine NoPanic.normal ?_
    go_wp2
    go_ret
    exact HFIN.out
  -- Bq}
  -- {Cq
  · obtain ⟨v, b, hlk, hlc⟩ := HLK.out
    have HLC := Lib.hid hlc
    have hlk1 : ∀ q, (Instr.lookup 97 (.map (some mb)) (.string (strOf nm)) true).run Tryz.prog (w1.drewN q) = .ok (.tuple #[v, .bool b]) (w1.drewN q) := fun q => hlk _ (drawn_below HB1.out q)
    have ck : ∀ q, (w1.drewN q).cell? ⟨g3, 3, none⟩ = some (.string (strOf nm)) := fun q => K1.cell 3
    have cw : ∀ q, (w1.drewN q).cell? ⟨gw, 1, none⟩ = some (.map (some mb)) := fun q => h1.blk.cell 1
    clear hlk hlc HLK
    go_wp2_with fail
    rw [← HW1.out.1, ← HW1.out.2]
    go_quiet (fail)
    obtain ⟨w2, hw2⟩ : ∃ w2, w2 = w1.drewN nq := ⟨_, rfl⟩
    have h2 : WkAt w2 B gw gs c ce ct D E T (.map (some mb)) kv tv W := by rw [hw2]; exact h1.below (drawn_below (Below.refl _ _) _)
    have hb02 : Below w.heap.size w w2 := by rw [hw2]; exact drawn_below HB1.out _
    rw [← hw2]
    have H2 := Lib.hid (And.intro h2 hb02)
    clear hw2 ck cw hlk1 HW1 h1 h2 hb02 K1 q0 q3 HNM
    rcases HLC.out with ⟨rfl, hg⟩ | ⟨A1, c1, bs, rfl, hg, rfl, A2, c2, e2, hown, hsm2, -⟩
    · have hin : insideW W ⟨14, at_, ln, nm, dt⟩ = (W, 6) := by simp [insideW, hg]
      have HIN := Lib.hid hin
      clear hin hg
      go_wp2
      go_ret
      rw [HIN.out]
      exact ⟨rfl, ⟨_, _, _, _, _, _, _, _, _, H2.out.1⟩, H2.out.2.mono hB⟩
    · have hin : insideW W ⟨14, at_, ln, nm, dt⟩ = ({W with told := W.told ++ [bs]}, 0) := by simp [insideW, hg]
      have HIN := Lib.hid hin
      have HT := Lib.hid (tell_any (nx := 0) (cx := c1) H2.out.1 (by have := H2.out.2.size; omega) ht ((hown.bytes hsm2).since H2.out.2) (hsm _ _ hg))
      clear hin hg e2 hown hsm2
      go_wp2_with (first | (refine HT.out.mono ?_; rintro e w' ⟨⟨rfl, hw, hb⟩, -⟩))
      go_ret
      rw [HIN.out]
      exact ⟨rfl, hw, (H2.out.2.mono hB).trans hb⟩
  -- Cq}
end Go.Proofs.YtfbpfgbmlbkffaaGreat
