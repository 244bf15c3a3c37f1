/-
  An object's extents are taken. Conditions: the object, the store and the reader lie where they are said to.
-/
import Derived.Test.YtfbpfgbmlbkffaaGreatZi
import Derived.Test.YtfbpfgbmlbkffaaGreatSkbC
namespace Go.Proofs.YtfbpfgbmlbkffaaGreat
open Go.RowKit Go.BigFrame
set_option linter.unusedSimpArgs false
set_option linter.unusedVariables false
set_option maxRecDepth 100000
theorem turnOk_free {fl : List Bool} {e : Int × Int} {ns : List (Nat × Nat)} (h : TurnOk fl [e] false ns) : freeB fl e.1 e.2 = true ∧ setA fl ns false = setR fl e.1.toNat e.2.toNat false := by
  obtain ⟨h1, h2, h3⟩ := h
  match ns, h1, h2, h3 with
  | [], h1, _, _ => simp [natE] at h1
  | [q], h1, h2, h3 =>
    simp only [natE, List.map_cons, List.map_nil, List.cons.injEq, and_true] at h1
    subst h1
    exact ⟨freeB_iff.2 ⟨q.1, q.2, rfl, rfl, h2 q (by simp), h3.1⟩, rfl⟩
  | _ :: _ :: _, h1, _, _ => simp [natE] at h1
theorem free_turnOk {fl : List Bool} {e : Int × Int} (h : freeB fl e.1 e.2 = true) : ∃ ns, TurnOk fl [e] false ns := by
  obtain ⟨a, b, h1, h2, h3, h4⟩ := freeB_iff.1 h
  refine ⟨[(a, b)], ?_, fun q hq => ?_, h4, trivial⟩
  · simp [natE, ← h1, ← h2]
  · simp at hq; subst hq; exact h3
/-- Claim, of one extent -/
theorem claim_foot {w : World} {g r c B : Nat} {A : Option Addr} {fl : List Bool} (x : Int × Int) (hI : InI x) (h : SAt w g r A c fl (cnt fl)) (hgr : g ≠ r) (E : Option Addr) (c' : Nat) (hc' : 1 ≤ c') (hR : ExtR w B E [x]) (hB : B ≤ w.heap.size)
    (hfar : ∀ ad, E = some ad → ad.block ∉ foot g r fl) :
    Calls Tryz.prog 89 #[.pointer (some ⟨g, 0, none⟩), .slice E 1 c'] w fun e w' => Only (foot g r fl) w w' ∧ ((freeB fl x.1 x.2 = true ∧ e = .returned .nilIface ∧ SAt w' g r A c (setR fl x.1.toNat x.2.toNat false) (cnt (setR fl x.1.toNat x.2.toNat false))) ∨ (freeB fl x.1 x.2 = false ∧ e = .returned (errV 1) ∧ SAt w' g r A c fl (cnt fl))) := by
  have post : ∀ (r' : Nat), (fl = [] ∨ r' = r) → ∀ e w', TurnTo w g r' c A fl [x] false e w' → Only (foot g r fl) w w' → Only (foot g r fl) w w' ∧ ((freeB fl x.1 x.2 = true ∧ e = .returned .nilIface ∧ SAt w' g r A c (setR fl x.1.toNat x.2.toNat false) (cnt (setR fl x.1.toNat x.2.toNat false))) ∨ (freeB fl x.1 x.2 = false ∧ e = .returned (errV 1) ∧ SAt w' g r A c fl (cnt fl))) := by
    rintro r' hr' e w' ⟨ho, ⟨ns, hns, rfl, hs⟩ | ⟨hno, rfl, hs⟩⟩ hof
    · obtain ⟨h1, h2⟩ := turnOk_free hns
      have hlen := hns.2.2.len
      rw [h2] at hs hlen
      refine ⟨hof, .inl ⟨h1, rfl, ?_⟩⟩
      rcases hr' with e | e
      · exact hs.rest (List.eq_nil_of_length_eq_zero (by rw [hlen, e]; rfl))
      · subst e; exact hs
    · refine ⟨hof, .inr ⟨?_, rfl, ?_⟩⟩
      · cases hf : freeB fl x.1 x.2
        · rfl
        · obtain ⟨ns, h1⟩ := free_turnOk hf
          exact absurd h1 (hno ns)
      · rcases hr' with e | e
        · exact hs.rest e
        · subst e; exact hs
  have hI2 : ∀ e ∈ [x], InI e := fun e he => by simp at he; subst he; exact hI
  by_cases hf : fl = []
  · obtain ⟨eb, heb⟩ : ∃ eb, ∀ ad, E = some ad → ad.block = eb := by
      cases E with
      | none => exact ⟨0, fun ad e => by cases e⟩
      | some a => exact ⟨a.block, fun ad e => by injection e with e; rw [e]⟩
    have := sclaim_any (r := w.heap.size + g + eb + 1) [x] hI2 (h.rest hf) (by omega) E c' hc' hR hB (fun ad e => ⟨by have := hfar ad e; simp [foot, hf] at this; exact this, by have := heb ad e; omega⟩) (by simp)
    refine this.mono fun e w' ht => post _ (.inl hf) e w' ht ?_
    subst hf
    exact ⟨ht.1.os, ht.1.tape, ht.1.output, ht.1.size, fun i hi hn => ht.1.block i hi (by simp [foot] at hn ⊢; omega)⟩
  · have := sclaim_any [x] hI2 h hgr E c' hc' hR hB (fun ad e => by have := hfar ad e; simp [foot, hf] at this; exact this) (by simp)
    exact this.mono fun e w' ht => post _ (.inr rfl) e w' ht (only_foot2 hf ht.1)
/-- an extent more -/
theorem ObAt.more {w w' : World} {go mb c ce ce' : Nat} {D E E' : Option Addr} {kv : KV} {o : Ob} (h : ObAt w go mb c ce D E kv o) {es : List (Nat × Nat)} (hb : Blk w' go 99 (objC D o.d.length c (.map (some mb)) E' es.length ce')) (he : OwnE w' 0 (.slice E' es.length ce') (natE es)) (ho : Only (go :: rowOf (.slice E o.e.length ce)) w w') : ObAt w' go mb c ce' D E' kv {o with e := es} := by
  have hod : ∀ (e : TypeId), e ≠ 99 → e ≠ 81 → ∀ k ∈ go :: rowOf (.slice E o.e.length ce), Odd w e k := fun e h1 h2 k hk => by
    rcases List.mem_cons.1 hk with rfl | hk
    · exact Odd.blk h.blk h1.symm
    · obtain ⟨cs, hb⟩ := typed_of h.ext (mem_rowOf.1 hk)
      exact Odd.blk hb h2.symm
  refine ⟨hb, own_odd h.dat ho (hod _ (by decide) (by decide)), h.ok, h.map.of (ho.block _ h.map.lt fun hm => ?_), h.att.imp fun a b hr => ⟨hr.1, hr.2.only ho fun k hk => .inr (hod _ (by decide) (by decide) k hk)⟩, he⟩
  rcases List.mem_cons.1 hm with e | hm
  · exact h.map.ne_blk h.blk e
  · obtain ⟨cs, hb⟩ := typed_of h.ext (mem_rowOf.1 hm)
    exact h.map.ne_blk hb rfl
/-- a space's own blocks change -/
theorem ObAt.foot {w w' : World} {gp r c0 : Nat} {A : Option Addr} {fl : List Bool} {left : Int} {go mb c ce : Nat} {D E : Option Addr} {kv : KV} {o : Ob} (h : ObAt w go mb c ce D E kv o) (hs : SAt w gp r A c0 fl left) (ho : Only (foot gp r fl) w w') : ObAt w' go mb c ce D E kv o :=
  h.only ho (fun k hk _ => ⟨hs.foot_odd (by decide) (by decide) hk, hs.foot_odd (by decide) (by decide) hk, hs.foot_odd (by decide) (by decide) hk⟩) (fun hm => by
    obtain ⟨t, cs, hb, _⟩ := hs.foot_typed hm
    exact h.map.ne_blk hb rfl)
theorem StAt.c9_of {w w' : World} {gs ms gp r c : Nat} {A : Option Addr} {bl fl : List Bool} {kv : KV} (h : StAt w gs ms gp r c A bl fl kv) (hb : Blk w' gs 67 (stC ms bl gp)) : w'.cell? ⟨gs, 9, none⟩ = some (.pointer (some ⟨gp, 0, none⟩)) := by
  have h9 := h.c9
  rw [h.blk.cell] at h9
  rw [hb.cell]
  exact h9
theorem StAt.typed {w w' : World} {G : List Nat} {gs ms gp r c : Nat} {A : Option Addr} {bl fl : List Bool} {kv : KV} (h : StAt w gs ms gp r c A bl fl kv) (ho : Only G w w') (hG : ∀ k ∈ G, ∃ t cs, Blk w k t cs ∧ t ≠ 67 ∧ t ≠ 134 ∧ t ≠ 4) : StAt w' gs ms gp r c A bl fl kv := by
  refine ⟨h.blk.of (ho.block _ h.blk.lt fun hm => ?_), h.len, h.map.of (ho.block _ h.map.lt fun hm => ?_), ⟨h.sp.blk.of (ho.block _ h.sp.blk.lt fun hm => ?_), h.sp.cap, h.sp.lim, ?_⟩, h.ne⟩
  · obtain ⟨t, cs, hb, h1, h2, h3⟩ := hG _ hm
    exact h.blk.ne_ hb h1.symm rfl
  · obtain ⟨t, cs, hb, h1, h2, h3⟩ := hG _ hm
    exact h.map.ne_blk hb rfl
  · obtain ⟨t, cs, hb, h1, h2, h3⟩ := hG _ hm
    exact h.sp.blk.ne_ hb h2.symm rfl
  · rcases h.sp.row with e | ⟨e, cs, hb, hc⟩
    · exact .inl e
    · refine .inr ⟨e, cs, hb.of (ho.block _ hb.lt fun hm => ?_), hc⟩
      obtain ⟨t, cs', hb', h1, h2, h3⟩ := hG _ hm
      exact hb.ne_ hb' h3.symm rfl
/-- what takeExtents comes to -/
def TkETo (w0 : World) (base g go mb c gs ms gp r c1 : Nat) (D A : Option Addr) (bl fl : List Bool) (kvs kv : KV) (o : Ob) (F : List Nat) (s : RD) (e : Ending) (w' : World) : Prop :=
  Only (g :: foot gp r fl) w0 w' ∧ ((tkE s.num.toNat (s.take 8) fl [] = none ∧ e = .returned (.bool false)) ∨ ∃ es fl' s' ce' E' F', tkE s.num.toNat (s.take 8) fl [] = some (es, fl', s') ∧ e = .returned (.bool (decide (lens es = needsB o.d))) ∧ StAt w' gs ms gp r c1 A bl fl' kvs ∧ fl'.length = fl.length ∧ ObAt w' go mb c ce' D E' kv {o with e := es} ∧ Rd w' base F' (some ⟨g, 0, none⟩) s' ∧ (∀ k ∈ F', k ∈ F) ∧ s'.bs.length ≤ s.bs.length)
/-- the store's block and an extent's -/
def TwoE (g1 g2 : Nat) (t : TypeId) (cs : Array Value) (x : Int × Int) (w : World) : Prop := Blk w g1 t cs ∧ Blk w g2 81 #[.int .i64 x.1, .int .i64 x.2]
theorem run_load_ext {w : World} {g : Nat} {x : Int × Int} (h : Blk w g 81 #[.int .i64 x.1, .int .i64 x.2]) : (loadVar 81 ⟨g, 0, none⟩).run Tryz.prog w = .ok (.agg #[.int .i64 x.1, .int .i64 x.2]) w :=
  run_loadVar_ext w ⟨g, 0, none⟩ x (h.cell 0) (h.cell 1)
end Go.Proofs.YtfbpfgbmlbkffaaGreat
