/-
  An operation ends: its object is put in its place. Conditions: it and the store lie where they are said to.
-/
import Derived.Test.YtfbpfgbmlbkffaaGreatZg
import Derived.Shelf.SlIter.Nil
import Derived.Shelf.SortM.Plain
import Derived.Shelf.SortM.SortNone
import Derived.Test.YtfbpfgbmlbkffaaGreatProg
import Derived.Deep.CutRange

namespace Go.Proofs.YtfbpfgbmlbkffaaGreat
open Go.RowKit Go.BigFrame
set_option linter.unusedSimpArgs false
set_option linter.unusedVariables false
set_option maxRecDepth 100000
/-- objects at rest stay where the store's own blocks change -/
theorem obs_step {w w' : World} {Z : List Nat} {gs ms gp r c : Nat} {A : Option Addr} {M : Mod} {kv : KV} (h : StoreAt w Z gs ms gp r c A M kv) (hZ : ms ∈ Z) (ho : Only (ms :: foot gp r M.fl) w w') : Rel2 (ObjR w' Z) kv M.ob :=
  h.obs.imp fun a b hr => ⟨hr.1, by
    obtain ⟨go, mb, c1, ce, D, E, kv1, e, hmb, hat⟩ := hr.2
    refine ⟨go, mb, c1, ce, D, E, kv1, e, hmb, hat.only ho (fun k hk hl => ?_) (fun hm => ?_)⟩
    · rcases List.mem_cons.1 hk with rfl | hk
      · exact ⟨Odd.map h.st.map, Odd.map h.st.map, Odd.map h.st.map⟩
      · exact ⟨h.st.sp.foot_odd (by decide) (by decide) hk, h.st.sp.foot_odd (by decide) (by decide) hk, h.st.sp.foot_odd (by decide) (by decide) hk⟩
    · rcases List.mem_cons.1 hm with rfl | hm
      · exact hmb hZ
      · obtain ⟨t, cs, hb, _⟩ := h.st.sp.foot_typed hm
        exact hat.map.ne_blk hb rfl⟩
/-- what end comes to -/
def EndTo (w0 : World) (Z : List Nat) (gw gs ms gp r c : Nat) (A : Option Addr) (M : Mod) (kv : KV) (k : Key) (W : Wk) (e : Ending) (w' : World) : Prop :=
  Only (ms :: foot gp r M.fl) w0 w' ∧ ∃ es fl' n, FitR M.fl W es fl' n ∧ e = .returned (errV n) ∧ ((n = 4 ∧ StoreAt w' Z gs ms gp r c A M kv) ∨ (n = 0 ∧ (∃ kv', StoreAt w' Z gs ms gp r c A (endM M k W es fl') kv') ∧ ∃ T ct tv, w'.cell? ⟨gw, 4, none⟩ = some (.slice T W.told.length ct) ∧ w'.ownsRow w0.heap.size 22 1 (.slice T W.told.length ct) W.told.length tv ∧ Rel2 (RowR w' w0.heap.size []) tv W.told))
theorem FitR.err {fl fl' : List Bool} {W : Wk} {es : List (Nat × Nat)} {n : Nat} (h : FitR fl W es fl' n) : (n = 0) ∨ (n = 4 ∧ es = W.e ∧ fl' = fl) := by
  cases h with
  | give => exact .inl rfl
  | full => exact .inr ⟨rfl, rfl, rfl⟩
  | take => exact .inl rfl
set_option maxHeartbeats 8000000 in
theorem end_any {w0 w : World} {Z : List Nat} {gw gs ms gp r c1 : Nat} {A1 : Option Addr} {M : Mod} {kvs : KV} {c ce ct : Nat} {D E T : Option Addr} {av : Value} {kv : KV} {tv : List Value} {W : Wk} (h : WkAt w w0.heap.size gw gs c ce ct D E T av kv tv W) (hb0 : Below w0.heap.size w0 w)
    (hst0 : StoreAt w0 Z gs ms gp r c1 A1 M kvs) (hZ : ms ∈ Z) (hZl : ∀ z ∈ Z, z < w0.heap.size) (hkn : kvs.length ≤ 1000000) (nm : List Nat) (hnm : nm.length ≤ 1000000) (hd : W.d.length ≤ 65536) (hpos : ∀ e ∈ W.e, 1 ≤ e.2 ∧ e.1 ≤ 65536 ∧ e.2 ≤ 65536) (hle : lens W.e ≤ 65536) (hel : W.e.length ≤ 65536) (hgv : needsB W.d < lens W.e → OkA M.fl (shedR W.e.reverse (lens W.e - needsB W.d)).2 true ∧ (∀ e ∈ (shedR W.e.reverse (lens W.e - needsB W.d)).2, 1 ≤ e.2 ∧ e.1 ≤ 65536 ∧ e.2 ≤ 65536) ∧ (shedR W.e.reverse (lens W.e - needsB W.d)).2.length ≤ 65536) :
    Calls Tryz.prog 45 #[.pointer (some ⟨gs, 0, none⟩), .string (strOf nm), .pointer (some ⟨gw, 0, none⟩)] w (EndTo w0 Z gw gs ms gp r c1 A1 M kvs (keyB nm) W) := by
  have HF := Lib.hid (fit_any h hb0 hst0.st hd hpos hle hel hgv)
  have H0 := Lib.hid (And.intro h (And.intro hb0 (And.intro hst0 hZ)))
  have HZL := Lib.hid hZl
  clear h hb0 hst0 hpos hgv
  go_enter Tryz.func45, Tryz.ntmps45
  go_wp2_with fail
  refine HF.out.mono ?_
  rintro e w3 ⟨hon3, hsz3, es, fl', n, hfit, rfl, hst3, hwk3⟩
  have hkeep : Only (ms :: foot gp r M.fl) w0 w3 := hon3.mono fun k hk => List.mem_cons_of_mem _ hk
  rcases hfit.err with rfl | ⟨rfl, rfl, rfl⟩
  -- {A
  · obtain ⟨c, ce, ct, D, E, T, av, kv, tv, h3⟩ := hwk3
    have q3 : w3.cell? ⟨gw, 3, none⟩ = some (.bool W.th) := h3.blk.cell 3
    have q0 : w3.cell? ⟨gs, 0, none⟩ = some (.map (some ms)) := hst3.c0
    have hgsl := hst3.blk.lt
    have hgwB := h3.gB
    have hmsl : ms < w0.heap.size := H0.out.2.2.1.st.map.lt
    have hz0 : w0.heap.size ≤ w3.heap.size := hon3.size
    have hold : Rel2 (ObjR w3 Z) kvs M.ob := obs_step H0.out.2.2.1 H0.out.2.2.2 hkeep
    have hkb : (keyB nm).length ≤ maxLen := by simp [keyB, maxLen]; omega
    have hT4 : ∀ w', Only [ms] w3 w' → w'.cell? ⟨gw, 4, none⟩ = some (.slice T W.told.length ct) ∧ w'.ownsRow w0.heap.size 22 1 (.slice T W.told.length ct) W.told.length tv ∧ Rel2 (RowR w' w0.heap.size []) tv W.told := fun w' ho => by
      have hod : ∀ (e : TypeId), ∀ k ∈ [ms], Odd w3 e k := fun e k hk => by simp at hk; subst hk; exact Odd.map hst3.map
      refine ⟨?_, own_odd h3.tol ho (hod _), h3.els.imp fun a b hr => (hr.only ho fun k hk => .inr (hod _ k hk)).far (fun k hk => by cases hk)⟩
      exact (h3.blk.of (ho.block _ h3.blk.lt (by simp; have := hst3.map.ne_blk h3.blk; omega))).cell 4
    have hstT : ∀ w' kv', Only [ms] w3 w' → SMap Tryz.prog 9 w' ms kv' → StAt w' gs ms gp r c1 A1 M.bl fl' kv' := fun w' kv' ho hm => by
      refine ⟨hst3.blk.of (ho.block _ hst3.blk.lt (by simp; have := hst3.map.ne_blk hst3.blk; omega)), hst3.len, hm, hst3.sp.of (ho.block _ hst3.sp.blk.lt (by simp; have := hst3.map.ne_blk hst3.sp.blk; omega)) (fun t cs hb => ho.block _ hb.lt (by simp; have := hst3.map.ne_blk hb; omega)), hst3.ne⟩
    have hobT : ∀ w', Only [ms] w3 w' → Rel2 (ObjR w' Z) kvs M.ob := fun w' ho => hold.imp fun a b hr => ⟨hr.1, by
      obtain ⟨go, mb, c1, ce, D, E, kv1, e, hmb, hat⟩ := hr.2
      refine ⟨go, mb, c1, ce, D, E, kv1, e, hmb, hat.only ho (fun k hk hl => ?_) (fun hm => ?_)⟩
      · simp at hk; subst hk; exact ⟨Odd.map hst3.map, Odd.map hst3.map, Odd.map hst3.map⟩
      · simp at hm; subst hm; exact hmb H0.out.2.2.2⟩
    cases hth : W.th
    · obtain ⟨w5, hrun, hm5, hg5, -⟩ := run_delete_smap (P := Tryz.prog) (ty := 0) Tryz.underlying9 Tryz.underlying64 hst3.map (keyB nm) hkb
      rw [keyB_val] at hrun
      have ho5 : Only [ms] w3 w5 := (Only.refl _ _).grown hg5 (fun g hg => .inl (by injection hg with hg; simp [hg]))
      have hfin : EndTo w0 Z gw gs ms gp r c1 A1 M kvs (keyB nm) W (.returned .nilIface) w5 := by
        refine ⟨hkeep.trans ho5 (fun k hk => by simp at hk; subst hk; simp), es, fl', 0, hfit, rfl, .inr ⟨rfl, ⟨_, hstT w5 _ ho5 hm5, ?_⟩, T, ct, tv, hT4 w5 ho5⟩⟩
        have : (endM M (keyB nm) W es fl').ob = gdel (keyB nm) M.ob := by simp [endM, hth]
        rw [this]
        exact (hobT w5 ho5).del ObjR.key (keyB nm)
      have HFIN := Lib.hid hfin
      rw [hth] at q3
      clear hfin hobT hstT hT4 hold hst3 h3 ho5 hm5 hg5 hfit hkeep hon3 hth
      simp only [errV]
      go_wp2
      go_ret
      exact HFIN.out
    · obtain ⟨mb, rfl, hmB, hmm⟩ : ∃ mb, av = .map (some mb) ∧ w0.heap.size ≤ mb ∧ SMap Tryz.prog 9 w3 mb kv := by
        rcases h3.map with ⟨_, _, e⟩ | hh
        · rw [show ({W with e := es} : Wk).th = W.th from rfl, hth] at e; cases e
        · exact hh
      have hbA : Below w3.heap.size w3 (w3.alloc (.cells (objC D W.d.length c (.map (some mb)) E es.length ce) 99)) := (Below.refl _ _).alloc (Nat.le_refl _) _
      have KA := Blk.new w3 99 (objC D W.d.length c (.map (some mb)) E es.length ce)
      obtain ⟨wA, hwA⟩ : ∃ wA, wA = w3.alloc (.cells (objC D W.d.length c (.map (some mb)) E es.length ce) 99) := ⟨_, rfl⟩
      rw [← hwA] at hbA KA
      have hmA : SMap Tryz.prog 9 wA ms kvs := hst3.map.of (hbA.block _ hst3.map.lt)
      obtain ⟨w5, hrun, hm5, hg5, -⟩ := run_update_smap (P := Tryz.prog) Tryz.underlying9 Tryz.underlying64 hmA (keyB nm) hkb (by simp only [maxLen]; omega) (.pointer (some ⟨w3.heap.size, 0, none⟩))
      rw [keyB_val, hwA] at hrun
      have hoA : Only [ms] wA w5 := (Only.refl _ _).grown hg5 (fun g hg => .inl (by injection hg with hg; simp [hg]))
      have ho5 : Only [ms] w3 w5 := (Only.of_below hbA _).trans hoA (Fresh.refl _ _)
      have hodA : ∀ (e : TypeId), ∀ k ∈ [ms], Odd wA e k := fun e k hk => by simp at hk; subst hk; exact Odd.map hmA
      have hob : ObR w5 Z (.pointer (some ⟨w3.heap.size, 0, none⟩)) ⟨W.d, W.a, es⟩ := by
        have h3A := h3.below hbA
        refine ⟨w3.heap.size, mb, c, ce, D, E, kv, rfl, fun hm => by have := HZL.out mb hm; omega, ⟨KA.of (hoA.block _ KA.lt (by simp; omega)), row_weaken (own_odd h3A.dat hoA (hodA _)) (Nat.zero_le _), h3.ok, ?_, h3A.att.imp fun a b hr => ⟨hr.1, (hr.2.only hoA fun k hk => .inr (hodA _ k hk)).far (fun k hk => by cases hk)⟩, row_weaken (own_odd h3A.ext hoA (hodA _)) (Nat.zero_le _)⟩⟩
        have hmmA := hmm.of (hbA.block _ hmm.lt)
        exact hmmA.of (hoA.block _ hmmA.lt (by simp; omega))
      have hfin : EndTo w0 Z gw gs ms gp r c1 A1 M kvs (keyB nm) W (.returned .nilIface) w5 := by
        refine ⟨hkeep.trans ho5 (fun k hk => by simp at hk; subst hk; simp), es, fl', 0, hfit, rfl, .inr ⟨rfl, ⟨_, hstT w5 _ ho5 hm5, ?_⟩, T, ct, tv, hT4 w5 ho5⟩⟩
        have : (endM M (keyB nm) W es fl').ob = gput (keyB nm) ⟨W.d, W.a, es⟩ M.ob := by simp [endM, hth]
        rw [this]
        exact (hobT w5 ho5).put ObjR.key ⟨rfl, hob⟩
      have HFIN := Lib.hid hfin
      have hrg : w3.rangeAt gw 0 [.slice D W.d.length c, .map (some mb), .slice E es.length ce] := fun j v hj => by
        match j, hj with
        | 0, hj => simp at hj; subst hj; exact h3.blk.cell 0
        | 1, hj => simp at hj; subst hj; exact h3.blk.cell 1
        | 2, hj => simp at hj; subst hj; exact h3.blk.cell 2
      rw [hth] at q3
      simp only [objC] at hrun
      clear hfin hobT hstT hT4 hold hst3 h3 ho5 hm5 hg5 hfit hkeep hon3 hth hob hodA hoA hmA hbA KA hmm hwA
      simp only [errV]
      go_wp2_with (have _h := hrg; refine wpList_load_mid rfl 99 (.tmp 20) rfl gw 0 rfl _ _ hrg Tryz.underlying99 (by rfl) (by kernel_rfl) ?_; clear _h hrg)
      go_ret
      exact HFIN.out
  -- A}
  · have hfin : EndTo w0 Z gw gs ms gp r c1 A1 M kvs (keyB nm) W (.returned (errV 4)) w3 := ⟨hkeep, W.e, M.fl, 4, hfit, rfl, .inl ⟨rfl, hst3, obs_step H0.out.2.2.1 H0.out.2.2.2 hkeep⟩⟩
    have HFIN := Lib.hid hfin
    clear hfin hkeep hfit hst3 hwk3 hon3
    simp only [errV] at HFIN ⊢
    go_wp2
    go_ret
    exact HFIN.out
end Go.Proofs.YtfbpfgbmlbkffaaGreat

/-
  What operations keep of a store as data: whose blocks are whose, how much there is. No condition; nothing of the program is named.
-/
namespace Go.Proofs.YtfbpfgbmlbkffaaGreat
open Go.RowKit Go.BigFrame
set_option linter.unusedSimpArgs false
set_option linter.unusedVariables false
/-! ### rows of blocks -/
def Dis (p q : Nat × Nat) : Prop := p.1 + p.2 ≤ q.1 ∨ q.1 + q.2 ≤ p.1
theorem Dis.symm {p q : Nat × Nat} (h : Dis p q) : Dis q p := Or.symm h
def Sub (p q : Nat × Nat) : Prop := q.1 ≤ p.1 ∧ p.1 + p.2 ≤ q.1 + q.2
theorem Sub.refl (p : Nat × Nat) : Sub p p := ⟨Nat.le_refl _, Nat.le_refl _⟩
theorem Sub.dis {p q e : Nat × Nat} (h : Sub p e) (hd : Dis e q) : Dis p q := by
  unfold Dis Sub at *
  omega
theorem pw_perm {l m : List (Nat × Nat)} (h : l.Perm m) : l.Pairwise Dis ↔ m.Pairwise Dis := h.pairwise_iff (fun {a b} hd => Dis.symm hd)
theorem okA_iff : ∀ (L : List (Nat × Nat)) (l : List Bool) (b : Bool), (∀ e ∈ L, 1 ≤ e.2) → (OkA l L b ↔ (∀ e ∈ L, AllR l e.1 e.2 (!b)) ∧ L.Pairwise Dis)
  | [], l, b, _ => by simp [OkA]
  | e :: L, l, b, hp => by
    have ih := okA_iff L (setR l e.1 e.2 b) b (fun q hq => hp q (by simp [hq]))
    have hpe := hp e (by simp)
    constructor
    · rintro ⟨h1, h2⟩
      obtain ⟨h3, h4⟩ := ih.1 h2
      have hd : ∀ q ∈ L, Dis e q ∧ AllR l q.1 q.2 (!b) := fun q hq => by
        have hq3 := h3 q hq
        have hpq := hp q (by simp [hq])
        have hlen := hq3.1
        rw [setR_len h1.1] at hlen
        have hdis : Dis e q := by
          apply Classical.byContradiction
          intro hn
          unfold Dis at hn
          have hj := hq3.2 (max e.1 q.1) (by omega) (by omega)
          rw [setR_at h1.1, if_pos (by omega)] at hj
          cases b <;> simp at hj
        refine ⟨hdis, hlen, fun j hj1 hj2 => ?_⟩
        have := hq3.2 j hj1 hj2
        rw [setR_at h1.1, if_neg (by unfold Dis at hdis; omega)] at this
        exact this
      refine ⟨fun q hq => ?_, List.pairwise_cons.2 ⟨fun q hq => (hd q hq).1, h4⟩⟩
      rcases List.mem_cons.1 hq with rfl | hq
      · exact h1
      · exact (hd q hq).2
    · rintro ⟨h1, h2⟩
      obtain ⟨h3, h4⟩ := List.pairwise_cons.1 h2
      have he := h1 e (by simp)
      refine ⟨he, ih.2 ⟨fun q hq => ?_, h4⟩⟩
      have hq1 := h1 q (by simp [hq])
      have hdis := h3 q hq
      refine ⟨by rw [setR_len he.1]; exact hq1.1, fun j hj1 hj2 => ?_⟩
      rw [setR_at he.1, if_neg (by unfold Dis at hdis; omega)]
      exact hq1.2 j hj1 hj2
theorem Cov.app {a b : List (Nat × Nat)} {j : Nat} : Cov (a ++ b) j ↔ Cov a j ∨ Cov b j := by
  unfold Cov
  constructor
  · rintro ⟨e, he, h⟩
    rcases List.mem_append.1 he with he | he
    · exact .inl ⟨e, he, h⟩
    · exact .inr ⟨e, he, h⟩
  · rintro (⟨e, he, h⟩ | ⟨e, he, h⟩)
    · exact ⟨e, List.mem_append.2 (.inl he), h⟩
    · exact ⟨e, List.mem_append.2 (.inr he), h⟩
theorem Cov.perm {a b : List (Nat × Nat)} (h : a.Perm b) {j : Nat} : Cov a j ↔ Cov b j := by
  unfold Cov
  exact ⟨fun ⟨e, he, hh⟩ => ⟨e, h.mem_iff.1 he, hh⟩, fun ⟨e, he, hh⟩ => ⟨e, h.mem_iff.2 he, hh⟩⟩
theorem Cov.nil {j : Nat} : ¬ Cov [] j := fun ⟨e, he, _⟩ => by cases he
theorem lens_app (a b : List (Nat × Nat)) : lens (a ++ b) = lens a + lens b := by simp [lens]
theorem lens_perm_ {a b : List (Nat × Nat)} (h : a.Perm b) : lens a = lens b := by
  unfold lens
  exact (h.map _).sum_nat
theorem lens_zero {l : List (Nat × Nat)} (hp : ∀ e ∈ l, 1 ≤ e.2) (h : lens l = 0) : l = [] := by
  cases l with
  | nil => rfl
  | cons e l =>
    have := hp e (by simp)
    simp [lens] at h
    omega
/-- what is shed, and what is left -/
theorem shed_parts : ∀ (r : List (Nat × Nat)) (n : Nat), (∀ e ∈ r, 1 ≤ e.2) → n ≤ lens r →
    (∀ j, Cov r j ↔ Cov (shedR r n).1 j ∨ Cov (shedR r n).2 j) ∧ (∀ q ∈ (shedR r n).1 ++ (shedR r n).2, 1 ≤ q.2 ∧ ∃ e ∈ r, Sub q e) ∧ lens (shedR r n).1 + n = lens r ∧ (r.Pairwise Dis → ((shedR r n).1 ++ (shedR r n).2).Pairwise Dis) ∧ (shedR r n).1.length ≤ r.length ∧ (shedR r n).2.length ≤ r.length
  | r, 0, hp, _ => by
    rw [shedR_zero]
    refine ⟨fun j => ⟨fun h => .inl h, fun h => h.resolve_right Cov.nil⟩, fun q hq => ?_, rfl, fun h => by simpa using h, Nat.le_refl _, Nat.zero_le _⟩
    have hq' : q ∈ r := by simpa using hq
    exact ⟨hp q hq', q, hq', Sub.refl q⟩
  | [], n + 1, _, h => by simp [lens] at h
  | (x, y) :: r, n + 1, hp, h => by
    have hpr : ∀ e ∈ r, 1 ≤ e.2 := fun e he => hp e (by simp [he])
    have hy := hp (x, y) (by simp)
    by_cases hlt : n + 1 < y
    · rw [shedR_part (by omega) hlt]
      refine ⟨fun j => ?_, fun q hq => ?_, ?_, fun hpw => ?_, by simp, by simp⟩
      · rw [Cov.cons, Cov.cons]
        simp only [Cov, List.mem_singleton, exists_eq_left]
        constructor
        · rintro (hh | hh)
          · by_cases hj : j < x + (y - (n + 1))
            · exact .inl (.inl ⟨hh.1, hj⟩)
            · exact .inr ⟨by omega, by omega⟩
          · exact .inl (.inr hh)
        · rintro ((hh | hh) | hh)
          · exact .inl ⟨hh.1, by have := hh.2; omega⟩
          · exact .inr hh
          · exact .inl ⟨by have := hh.1; omega, by have := hh.2; omega⟩
      · simp at hq
        rcases hq with rfl | hq | rfl
        · exact ⟨by simp; omega, (x, y), by simp, by simp only [Sub]; omega⟩
        · exact ⟨hpr q hq, q, by simp [hq], Sub.refl q⟩
        · exact ⟨by simp, (x, y), by simp, by simp only [Sub]; omega⟩
      · simp [lens]; omega
      · obtain ⟨h1, h2⟩ := List.pairwise_cons.1 hpw
        rw [List.cons_append, List.pairwise_cons]
        refine ⟨fun q hq => ?_, ?_⟩
        · rcases List.mem_append.1 hq with hq | hq
          · exact Sub.dis (e := (x, y)) (by simp only [Sub]; omega) (h1 q hq)
          · simp at hq; subst hq; simp only [Dis]; omega
        · rw [List.pairwise_append]
          refine ⟨h2, by simp, fun a ha b hb => ?_⟩
          simp at hb
          subst hb
          exact (Sub.dis (e := (x, y)) (by simp only [Sub]; omega) (h1 a ha)).symm
    · rw [shedR_whole (by omega) (by omega)]
      obtain ⟨i1, i2, i3, i4, i5, i6⟩ := shed_parts r (n + 1 - y) hpr (by simp [lens] at h ⊢; omega)
      have hmv : ∀ (l g : List (Nat × Nat)), (l ++ (x, y) :: g).Perm ((x, y) :: (l ++ g)) := fun l g => List.perm_middle
      refine ⟨fun j => ?_, fun q hq => ?_, ?_, fun hpw => ?_, by simp; omega, by simp; omega⟩
      · rw [Cov.cons, Cov.cons, i1 j]
        constructor
        · rintro (hh | hh | hh)
          · exact .inr (.inl hh)
          · exact .inl hh
          · exact .inr (.inr hh)
        · rintro (hh | hh | hh)
          · exact .inr (.inl hh)
          · exact .inl hh
          · exact .inr (.inr hh)
      · rcases List.mem_cons.1 ((hmv _ _).mem_iff.1 hq) with rfl | hq
        · exact ⟨hy, (x, y), by simp, Sub.refl _⟩
        · obtain ⟨h1, e, he, hs⟩ := i2 q hq
          exact ⟨h1, e, by simp [he], hs⟩
      · simp [lens] at i3 ⊢; omega
      · obtain ⟨h1, h2⟩ := List.pairwise_cons.1 hpw
        rw [pw_perm (hmv _ _), List.pairwise_cons]
        refine ⟨fun q hq => ?_, i4 h2⟩
        obtain ⟨_, e, he, hs⟩ := i2 q hq
        exact (Sub.dis hs (h1 e he).symm).symm
/-- the blocks that are taken are these extents' -/
structure Good (fl : List Bool) (L : List (Nat × Nat)) : Prop where
  pos : ∀ e ∈ L, 1 ≤ e.2
  dis : L.Pairwise Dis
  inn : ∀ e ∈ L, e.1 + e.2 ≤ fl.length
  cov : ∀ j, j < fl.length → (Cov L j ↔ fl[j]? = some false)
theorem Good.perm {fl : List Bool} {L L' : List (Nat × Nat)} (h : Good fl L) (hp : L.Perm L') : Good fl L' :=
  ⟨fun e he => h.pos e (hp.mem_iff.2 he), (pw_perm hp).1 h.dis, fun e he => h.inn e (hp.mem_iff.2 he), fun j hj => (Cov.perm hp).symm.trans (h.cov j hj)⟩
theorem Good.all {fl : List Bool} {L : List (Nat × Nat)} (h : Good fl L) : ∀ e ∈ L, AllR fl e.1 e.2 false := fun e he => ⟨h.inn e he, fun j h1 h2 => (h.cov j (by have := h.inn e he; omega)).1 ⟨e, he, h1, h2⟩⟩
/-- extents are given back: S of those of e is kept, g goes -/
theorem Good.shed {fl : List Bool} {e R : List (Nat × Nat)} (h : Good fl (e ++ R)) {n : Nat} (hn : n ≤ lens e) : OkA fl (shedR e.reverse n).2 true ∧ Good (setA fl (shedR e.reverse n).2 true) ((shedR e.reverse n).1.reverse ++ R) ∧ lens (shedR e.reverse n).1.reverse + n = lens e ∧ (∀ q ∈ (shedR e.reverse n).2, 1 ≤ q.2 ∧ q.1 + q.2 ≤ fl.length) ∧ (shedR e.reverse n).2.length ≤ e.length := by
  have hre : e.reverse.Perm e := e.reverse_perm
  have hpe : ∀ q ∈ e.reverse, 1 ≤ q.2 := fun q hq => h.pos q (List.mem_append.2 (.inl (List.mem_reverse.1 hq)))
  obtain ⟨i1, i2, i3, i4, i5, i6⟩ := shed_parts e.reverse n hpe (by rw [lens_perm_ hre]; exact hn)
  obtain ⟨d1, d2, d3⟩ := List.pairwise_append.1 h.dis
  have i4' := i4 ((pw_perm hre).2 d1)
  generalize (shedR e.reverse n).1 = l at *
  generalize (shedR e.reverse n).2 = g at *
  have hsub : ∀ q ∈ l ++ g, q.1 + q.2 ≤ fl.length := fun q hq => by
    obtain ⟨_, f, hf, hs⟩ := i2 q hq
    have := h.inn f (List.mem_append.2 (.inl (List.mem_reverse.1 hf)))
    unfold Sub at hs
    omega
  have hallg : ∀ q ∈ g, AllR fl q.1 q.2 false := fun q hq => ⟨hsub q (List.mem_append.2 (.inr hq)), fun j h1 h2 => (h.cov j (by have := hsub q (List.mem_append.2 (.inr hq)); omega)).1 (Cov.app.2 (.inl ((Cov.perm hre).1 ((i1 j).2 (.inr ⟨q, hq, h1, h2⟩)))))⟩
  obtain ⟨p1, p2, p3⟩ := List.pairwise_append.1 i4'
  have hok : OkA fl g true := (okA_iff g fl true (fun q hq => (i2 q (List.mem_append.2 (.inr hq))).1)).2 ⟨hallg, p2⟩
  have hdg : ∀ a ∈ l ++ g, ∀ b ∈ R, Dis a b := fun a ha b hb => by
    obtain ⟨_, f, hf, hs⟩ := i2 a ha
    exact Sub.dis hs (d3 f (List.mem_reverse.1 hf) b hb)
  refine ⟨hok, ⟨fun q hq => ?_, ?_, fun q hq => ?_, fun j hj => ?_⟩, ?_, fun q hq => ⟨(i2 q (List.mem_append.2 (.inr hq))).1, hsub q (List.mem_append.2 (.inr hq))⟩, by simpa using i6⟩
  · rcases List.mem_append.1 hq with hq | hq
    · exact (i2 q (List.mem_append.2 (.inl (List.mem_reverse.1 hq)))).1
    · exact h.pos q (List.mem_append.2 (.inr hq))
  · rw [List.pairwise_append]
    exact ⟨(pw_perm l.reverse_perm).2 p1, d2, fun a ha b hb => hdg a (List.mem_append.2 (.inl (List.mem_reverse.1 ha))) b hb⟩
  · rw [hok.len]
    rcases List.mem_append.1 hq with hq | hq
    · exact hsub q (List.mem_append.2 (.inl (List.mem_reverse.1 hq)))
    · exact h.inn q (List.mem_append.2 (.inr hq))
  · rw [hok.len] at hj
    have hat := hok.at_ j
    have hc := h.cov j hj
    by_cases hg : Cov g j
    · rw [(hat.1 hg).1]
      constructor
      · intro hcv
        exfalso
        obtain ⟨q, hq, q1, q2⟩ := hg
        rcases Cov.app.1 hcv with ⟨a, ha, a1, a2⟩ | ⟨a, ha, a1, a2⟩
        · have := p3 a (List.mem_reverse.1 ha) q hq; unfold Dis at this; omega
        · have := hdg q (List.mem_append.2 (.inr hq)) a ha; unfold Dis at this; omega
      · intro hf; simp at hf
    · rw [hat.2 hg, ← hc, Cov.app, Cov.app, Cov.perm l.reverse_perm, ← Cov.perm hre, i1 j]
      constructor
      · rintro (hh | hh)
        · exact .inl (.inl hh)
        · exact .inr hh
      · rintro ((hh | hh) | hh)
        · exact .inl hh
        · exact absurd hh hg
        · exact .inr hh
  · rw [lens_perm_ l.reverse_perm, i3, lens_perm_ hre]
/-- extents are taken -/
theorem Chosen.pos_ {L out : List (Nat × Nat)} {n : Nat} (h : Chosen L n out) (hL : ∀ e ∈ L, 1 ≤ e.2) : ∀ e ∈ out, 1 ≤ e.2 := by
  induction h with
  | none => simp
  | fit hn _ => simp; omega
  | long ht _ _ ih =>
    intro e he
    rcases List.mem_cons.1 he with rfl | he
    · exact hL _ ht.1
    · exact ih (fun e he => hL e (List.mem_of_mem_erase he)) e he
theorem Good.take {fl : List Bool} {e R out : List (Nat × Nat)} (h : Good fl (e ++ R)) {n : Nat} (hc : Chosen (hol 0 fl) n out) : Good (setA fl out false) ((e ++ out) ++ R) ∧ lens out = n := by
  obtain ⟨hok, hl⟩ := hc.ok (hol_sound fl)
  have hpos : ∀ q ∈ out, 1 ≤ q.2 := hc.pos_ (fun q hq => (hol_mem fl 0 q.1 q.2 hq).2.1)
  obtain ⟨hall, hdis⟩ := (okA_iff out fl false hpos).1 hok
  have hfar : ∀ a ∈ out, ∀ b ∈ e ++ R, Dis a b := fun a ha b hb => by
    apply Classical.byContradiction
    intro hn
    unfold Dis at hn
    have ha1 := hall a ha
    have hb1 := h.pos b hb
    have ha2 := hpos a ha
    have h1 := ha1.2 (max a.1 b.1) (by omega) (by omega)
    have hb2 := h.inn b hb
    have h2 := (h.cov (max a.1 b.1) (by omega)).1 ⟨b, hb, by omega, by omega⟩
    rw [h1] at h2
    simp at h2
  have hperm : ((e ++ out) ++ R).Perm (out ++ (e ++ R)) := by
    rw [← List.append_assoc]
    exact (List.perm_append_comm).append_right R
  refine ⟨Good.perm (L := out ++ (e ++ R)) ⟨fun q hq => ?_, ?_, fun q hq => ?_, fun j hj => ?_⟩ hperm.symm, hl⟩
  · rcases List.mem_append.1 hq with hq | hq
    · exact hpos q hq
    · exact h.pos q hq
  · rw [List.pairwise_append]
    exact ⟨hdis, h.dis, hfar⟩
  · rw [hok.len]
    rcases List.mem_append.1 hq with hq | hq
    · exact (hall q hq).1
    · exact h.inn q hq
  · rw [hok.len] at hj
    have hat := hok.at_ j
    rw [Cov.app]
    by_cases ho : Cov out j
    · rw [(hat.1 ho).1]
      exact ⟨fun _ => rfl, fun _ => .inl ho⟩
    · rw [hat.2 ho, ← h.cov j hj]
      exact ⟨fun hh => hh.resolve_left ho, fun hh => .inr hh⟩
theorem good_cnt {fl : List Bool} {L : List (Nat × Nat)} (h : Good fl L) : cnt fl + lens L = fl.length := by
  have hok : OkA (List.replicate fl.length true) L false := (okA_iff L _ false h.pos).2 ⟨fun e he => ⟨by simpa using h.inn e he, fun j h1 h2 => by have := h.inn e he; rw [List.getElem?_replicate, if_pos (by omega)]; rfl⟩, h.dis⟩
  have hset : setA (List.replicate fl.length true) L false = fl := by
    apply List.ext_getElem?
    intro j
    have hat := hok.at_ j
    by_cases hj : j < fl.length
    · by_cases hc : Cov L j
      · rw [(hat.1 hc).1, (h.cov j hj).1 hc]
      · rw [hat.2 hc]
        have : fl[j]? ≠ some false := fun e => hc ((h.cov j hj).2 e)
        rw [List.getElem?_eq_getElem hj] at this ⊢
        simp [hj] at this ⊢
        exact this
    · rw [List.getElem?_eq_none (by rw [hok.len]; simpa using hj), List.getElem?_eq_none (by omega)]
  have hcn := hok.cnt
  rw [hset] at hcn
  have hr : cnt (List.replicate fl.length true) = fl.length := by simp [cnt, List.countP_replicate]
  rw [hr] at hcn
  simp at hcn
  omega
end Go.Proofs.YtfbpfgbmlbkffaaGreat

/-
  What operations keep of a store as data: each object's bounds, its blocks. No condition; nothing of the program is named.
-/
namespace Go.Proofs.YtfbpfgbmlbkffaaGreat
open Go.RowKit Go.BigFrame
set_option linter.unusedSimpArgs false
set_option linter.unusedVariables false
def exts (ob : List (Key × Ob)) : List (Nat × Nat) := ob.flatMap fun p => p.2.e
theorem exts_perm {a b : List (Key × Ob)} (h : a.Perm b) : (exts a).Perm (exts b) := h.flatMap_right _
def obE (M : Mod) (k : Key) : List (Nat × Nat) := (startW M k).e
/-- an object's own blocks, and the others' -/
theorem exts_split {M : Mod} (h : Keys1 M.ob) (k : Key) : (exts M.ob).Perm ((startW M k).e ++ exts (gdel k M.ob)) := by
  unfold startW
  cases hg : gget M.ob k with
  | none => rw [gdel_same hg]; exact List.Perm.refl _
  | some o => exact exts_perm (gdel_perm h hg)
theorem exts_put {ob : List (Key × Ob)} (k : Key) (o : Ob) : (exts (gput k o ob)).Perm (o.e ++ exts (gdel k ob)) := exts_perm (gput_perm k o ob)
structure OkO (n : Nat) (o : Ob) : Prop where
  d : o.d.length ≤ 65536
  e : lens o.e = needsB o.d
  a : o.a.length ≤ n
  v : ∀ q ∈ o.a, q.2.length ≤ 65536
structure Inv (n : Nat) (M : Mod) : Prop where
  keys : Keys1 M.ob
  few : M.ob.length ≤ n
  len : M.fl.length ≤ 65536
  bl : M.bl.length = 8
  good : Good M.fl (exts M.ob)
  obs : ∀ p ∈ M.ob, OkO n p.2
  nms : ∀ p ∈ M.ob, ∃ nm, p.1 = keyB nm ∧ isNameB nm = true
structure WB (n : Nat) (W : Wk) : Prop where
  d : W.d.length ≤ 65536
  a : W.a.length ≤ n
  t : W.told.length ≤ n
  v : ∀ q ∈ W.a, q.2.length ≤ 65536
  z : W.th = false → W.d = []
theorem writeB_len {d nb : List Nat} {at_ : Nat} (h : d.length ≤ 65536) (h' : at_ + nb.length ≤ 65536) : (writeB d at_ nb).length ≤ 65536 := by
  unfold writeB
  split
  · exact h
  · simp [resizeB_len]
    omega
theorem zeroB_len (d : List Nat) (at_ n : Nat) : (zeroB d at_ n).length = d.length := by
  unfold zeroB
  simp
  omega
theorem gdel_sub {V : Type} (k : Key) (l : List (Key × V)) : ∀ q ∈ gdel k l, q ∈ l := fun q hq => (gdel_none k l q hq).2
theorem gput_mem {V : Type} {k : Key} {v : V} {l : List (Key × V)} {q : Key × V} (h : q ∈ gput k v l) : q = (k, v) ∨ q ∈ l := by
  rcases List.mem_cons.1 ((gput_perm k v l).mem_iff.1 h) with h | h
  · exact .inl h
  · exact .inr (gdel_sub k l q h)
theorem step_wb {n : Nat} {bl : List Bool} {W : Wk} {x : StepV} (h : WB n W) : WB (n + 1) (stepW bl W x).1 ∧ (stepW bl W x).1.e = W.e := by
  have h0 : WB (n + 1) W := ⟨h.d, Nat.le_succ_of_le h.a, Nat.le_succ_of_le h.t, h.v, h.z⟩
  unfold stepW
  split
  · exact ⟨h0, rfl⟩
  split
  · unfold becomeW
    split
    · exact ⟨h0, rfl⟩
    · exact ⟨⟨by simp, by simp, h0.t, by simp, fun _ => rfl⟩, rfl⟩
  split
  · unfold becomeW
    split
    · exact ⟨h0, rfl⟩
    · exact ⟨⟨by simp, by simp, h0.t, by simp, fun _ => rfl⟩, rfl⟩
  split
  · split
    · rename_i hth
      have hz : ∀ (W' : Wk), W'.th = W.th → (W'.th = false → W'.d = []) := fun W' e e' => by rw [e, hth] at e'; cases e'
      unfold insideW
      split
      · split
        · rename_i hn
          simp at hn
          exact ⟨⟨h.d, by have := gput_len (keyB x.nm) x.dt W.a; have := h.a; simp only; omega, h0.t, fun q hq => by
            rcases gput_mem hq with rfl | hq
            · simp; omega
            · exact h.v q hq, hz _ rfl⟩, rfl⟩
        · exact ⟨h0, rfl⟩
      split
      · exact ⟨⟨h.d, by have := gdel_len (keyB x.nm) W.a; have := h.a; simp only; omega, h0.t, fun q hq => h.v q (gdel_sub _ _ q hq), hz _ rfl⟩, rfl⟩
      split
      · split
        · exact ⟨⟨h.d, h0.a, by have := h.t; simp; omega, h.v, hz _ rfl⟩, rfl⟩
        · exact ⟨h0, rfl⟩
      split
      · exact ⟨h0, rfl⟩
      rename_i hr
      split
      · rename_i h8
        rw [h8] at hr
        simp [reachesB] at hr
        exact ⟨⟨writeB_len h.d (by omega), h0.a, h0.t, h.v, hz _ rfl⟩, rfl⟩
      split
      · exact ⟨⟨by rw [zeroB_len]; exact h.d, h0.a, h0.t, h.v, hz _ rfl⟩, rfl⟩
      split
      · rename_i h10
        rw [h10] at hr
        simp [reachesB] at hr
        exact ⟨⟨by rw [resizeB_len]; omega, h0.a, h0.t, h.v, hz _ rfl⟩, rfl⟩
      · exact ⟨⟨h.d, h0.a, by have := h.t; simp; omega, h.v, hz _ rfl⟩, rfl⟩
    · exact ⟨h0, rfl⟩
  · exact ⟨h0, rfl⟩
theorem run_wb {bl : List Bool} : ∀ {xs : List StepV} {n : Nat} {W : Wk}, WB n W → WB (n + xs.length) (runW bl W xs).1 ∧ (runW bl W xs).1.e = W.e
  | [], n, W, h => ⟨h, rfl⟩
  | x :: xs, n, W, h => by
    obtain ⟨h1, h2⟩ := step_wb (bl := bl) (x := x) h
    rw [runW]
    split
    · obtain ⟨h3, h4⟩ := run_wb (bl := bl) (xs := xs) h1
      exact ⟨⟨h3.d, by have := h3.a; simp; omega, by have := h3.t; simp; omega, h3.v, h3.z⟩, h4.trans h2⟩
    · exact ⟨⟨h1.d, by have := h1.a; simp; omega, by have := h1.t; simp; omega, h1.v, h1.z⟩, h2⟩
theorem start_wb {n : Nat} {M : Mod} (h : Inv n M) (k : Key) : WB n (startW M k) := by
  unfold startW
  cases hg : gget M.ob k with
  | none => exact ⟨by simp, by simp, by simp, by simp, fun _ => rfl⟩
  | some o =>
    have := h.obs _ (gget_some hg)
    exact ⟨this.d, this.a, by simp, this.v, fun e => by cases e⟩
theorem len_lens_ {L : List (Nat × Nat)} (h : ∀ e ∈ L, 1 ≤ e.2) : L.length ≤ lens L := len_lens h
/-- an object's blocks, within bounds -/
theorem start_ext {n : Nat} {M : Mod} (h : Inv n M) (k : Key) : (∀ e ∈ (startW M k).e, 1 ≤ e.2 ∧ e.1 ≤ 65536 ∧ e.2 ≤ 65536) ∧ lens (startW M k).e ≤ 65536 ∧ (startW M k).e.length ≤ 65536 ∧ Good M.fl ((startW M k).e ++ exts (gdel k M.ob)) := by
  have hg := h.good.perm (exts_split h.keys k)
  have hc := good_cnt hg
  have hl := h.len
  rw [lens_app] at hc
  have hpos : ∀ e ∈ (startW M k).e, 1 ≤ e.2 := fun e he => hg.pos e (List.mem_append.2 (.inl he))
  have := len_lens hpos
  refine ⟨fun e he => ?_, by omega, by omega, hg⟩
  have := hg.inn e (List.mem_append.2 (.inl he))
  have := hpos e he
  omega
theorem shed_ok {n : Nat} {M : Mod} (h : Inv n M) (k : Key) {m : Nat} (hm : m ≤ lens (startW M k).e) : OkA M.fl (shedR (startW M k).e.reverse m).2 true ∧ (∀ e ∈ (shedR (startW M k).e.reverse m).2, 1 ≤ e.2 ∧ e.1 ≤ 65536 ∧ e.2 ≤ 65536) ∧ (shedR (startW M k).e.reverse m).2.length ≤ 65536 := by
  obtain ⟨h1, h2, h3, h4⟩ := start_ext h k
  obtain ⟨g1, g2, g3, g4, g5⟩ := h4.shed hm
  refine ⟨g1, fun e he => ?_, by omega⟩
  have := g4 e he
  have := h.len
  omega
/-- which blocks an operation's end leaves -/
theorem fit_good {fl fl' : List Bool} {W : Wk} {R es : List (Nat × Nat)} (h : Good fl (W.e ++ R)) (hf : FitR fl W es fl' 0) : Good fl' (es ++ R) ∧ lens es = needsB W.d ∧ fl'.length = fl.length := by
  cases hf with
  | give hlt =>
    obtain ⟨g1, g2, g3, g4, g5⟩ := h.shed (n := lens W.e - needsB W.d) (by omega)
    exact ⟨g2, by omega, g1.len⟩
  | take h1 h2 hc =>
    obtain ⟨g1, g2⟩ := h.take hc
    exact ⟨g1, by rw [lens_app, g2]; omega, (hc.ok (hol_sound fl)).1.len⟩
theorem Inv.mono {n m : Nat} {M : Mod} (h : Inv n M) (hm : n ≤ m) : Inv m M := ⟨h.keys, Nat.le_trans h.few hm, h.len, h.bl, h.good, fun p hp => ⟨(h.obs p hp).d, (h.obs p hp).e, Nat.le_trans (h.obs p hp).a hm, (h.obs p hp).v⟩, h.nms⟩
theorem do_inv {n k : Nat} {M M' : Mod} {nm : List Nat} {xs : List StepV} {told : List (List Nat)} (h : Inv n M) (hd : DoR M nm xs M' k told) : Inv (n + 16) M' ∧ M'.fl.length = M.fl.length ∧ M'.bl = M.bl := by
  cases hd with
  | range => exact ⟨h.mono (by omega), rfl, rfl⟩
  | step => exact ⟨h.mono (by omega), rfl, rfl⟩
  | full => exact ⟨h.mono (by omega), rfl, rfl⟩
  | @done es fl hn h1 h16 hr hf =>
    obtain ⟨hw, he⟩ := run_wb (bl := M.bl) (xs := xs) (start_wb h (keyB nm))
    generalize (runW M.bl (startW M (keyB nm)) xs).1 = W at *
    obtain ⟨-, -, -, hg⟩ := start_ext h (keyB nm)
    rw [← he] at hg
    obtain ⟨g1, g2, g3⟩ := fit_good hg hf
    have hdl : ∀ p ∈ gdel (keyB nm) M.ob, p ∈ M.ob := gdel_sub _ _
    unfold endM
    cases hth : W.th
    · simp only [Bool.false_eq_true, if_false]
      have hes : es = [] := by
        have : needsB W.d = 0 := by rw [hw.z hth]; rfl
        exact lens_zero (fun e he => g1.pos e (List.mem_append.2 (.inl he))) (by omega)
      subst hes
      refine ⟨⟨h.keys.del _, by have := gdel_len (keyB nm) M.ob; have := h.few; simp only; omega, by simp only; rw [g3]; exact h.len, h.bl, by simpa using g1, fun p hp => ?_, fun p hp => h.nms p (hdl p hp)⟩, g3, trivial⟩
      have := h.obs p (hdl p hp)
      exact ⟨this.d, this.e, by have := this.a; omega, this.v⟩
    · simp only [if_true]
      refine ⟨⟨h.keys.put _ _, by have := gput_len (keyB nm) (⟨W.d, W.a, es⟩ : Ob) M.ob; have := h.few; simp only; omega, by simp only; rw [g3]; exact h.len, h.bl, g1.perm (exts_put (keyB nm) (⟨W.d, W.a, es⟩ : Ob)).symm, fun p hp => ?_, fun p hp => ?_⟩, g3, trivial⟩
      · rcases gput_mem hp with rfl | hp
        · exact ⟨hw.d, g2, by have := hw.a; simp only; omega, hw.v⟩
        · have := h.obs p hp
          exact ⟨this.d, this.e, by have := this.a; omega, this.v⟩
      · rcases gput_mem hp with rfl | hp
        · exact ⟨nm, rfl, hn⟩
        · exact h.nms p hp
end Go.Proofs.YtfbpfgbmlbkffaaGreat

/-
  An operation on a store. Conditions: the store lies where it is said to; the steps read as they are said to.
-/
namespace Go.Proofs.YtfbpfgbmlbkffaaGreat
open Go.RowKit Go.BigFrame
set_option linter.unusedSimpArgs false
set_option linter.unusedVariables false
set_option maxRecDepth 100000
/-- a step, and where its data lie -/
structure SV where
  x : StepV
  D : Option Addr
  c : Nat
def SV.cs (s : SV) : List Value := [.int .i64 s.x.kd, .int .i64 s.x.at_, .int .i64 s.x.ln, .string (strOf s.x.nm), .slice s.D s.x.dt.length s.c]
theorem SV.cs_len (s : SV) : s.cs.length = 5 := rfl
/-- steps, read from memory -/
structure StepsR (w : World) (B : Nat) (A : Option Addr) (l : List SV) : Prop where
  row : Reads w B 5 A l.length (l.flatMap SV.cs)
  els : ∀ s ∈ l, StepIn w s.x B s.D
theorem StepsR.since {w w' : World} {B : Nat} {A : Option Addr} {l : List SV} (h : StepsR w B A l) (hb : Below w.heap.size w w') : StepsR w' B A l := ⟨h.row.since hb, fun s hs => (h.els s hs).since hb⟩
theorem StepsR.more {w : World} {B B' : Nat} {A : Option Addr} {l : List SV} (h : StepsR w B A l) (hb : B ≤ B') : StepsR w B' A l := ⟨h.row.more hb, fun s hs => by
  have := h.els s hs
  exact ⟨this.dat.more hb, this.nm, this.at1, this.at2, this.ln1, this.ln2, this.nl, this.dl⟩⟩
theorem StepsR.get {w : World} {B : Nat} {A : Option Addr} {l : List SV} (h : StepsR w B A l) {k : Nat} {s : SV} (hk : l[k]? = some s) : ∃ ad, A = some ad ∧ ad.block < B ∧ ∀ j v, s.cs[j]? = some v → w.cell? ((ad.add (k * 5)).add j) = some v := by
  have hl := (List.getElem?_eq_some_iff.1 hk).1
  obtain ⟨ad, e, hb, hc⟩ := h.row.2 (by omega)
  refine ⟨ad, e, hb, fun j v hj => ?_⟩
  rw [add_of_add]
  have hj5 : j < 5 := by have := (List.getElem?_eq_some_iff.1 hj).1; rwa [SV.cs_len] at this
  exact hc _ v (by rw [flat_at SV.cs 5 SV.cs_len l k j s hk hj5]; exact hj)
theorem run_loadVar_step (w : World) (p : Addr) (s : SV) (hc : ∀ j v, s.cs[j]? = some v → w.cell? (p.add j) = some v) : (loadVar 59 p).run Tryz.prog w = .ok (.agg s.cs.toArray) w := by
  have hl : (loadCells p 5).run Tryz.prog w = .ok s.cs.toArray w := run_loadCells_list (P := Tryz.prog) w p s.cs hc
  have hagg : (isAgg 59).run Tryz.prog w = .ok true w := by
    unfold isAgg
    rw [Sem.run_bind, run_underlying Tryz.underlying59 w]
    rfl
  have hi : (Tryz.prog.info? 59).map (·.size) = some 5 := by kernel_rfl
  cases hq : Tryz.prog.info? 59 with
  | none => simp [hq] at hi
  | some i =>
    have hs : i.size = 5 := by simpa [hq] using hi
    simp [loadVar, Sem.run_bind, hagg, sizeOf, typeInfo, hq, hs, hl]
theorem wpList_load_step {ops : Array Oper} {rest : List Oper} {op : Oper} {a : Act} {w : World} {Q : Exit → Act → World → Prop} (hgd : op.guard = none) (x : Operand) (ho : op.op = .load 59 x)
    (p : Addr) (hx : a.eval x = .pointer (some p)) (s : SV) (hc : ∀ j v, s.cs[j]? = some v → w.cell? (p.add j) = some v)
    (h : wpList Tryz.prog ops Q rest (a.put op.dst (.agg #[.int .i64 s.x.kd, .int .i64 s.x.at_, .int .i64 s.x.ln, .string (strOf s.x.nm), .slice s.D s.x.dt.length s.c])) w) : wpList Tryz.prog ops Q (op :: rest) a w :=
  wpList_plain hgd fun _ hK => by
    unfold Oper.wp execOp
    simp only [ho, hx, Instr.loadAt, Instr.sureAddr, Sem.run_bind, Sem.run_pure, Result.andThen_ok, run_loadVar_step w p s hc]
    exact hK _ _ h
/-- what was told, in memory -/
def ToldR (w : World) (B : Nat) (v : Value) (told : List (List Nat)) : Prop := ∃ T ct tv, v = .slice T told.length ct ∧ w.ownsRow B 22 1 v told.length tv ∧ Rel2 (RowR w B []) tv told
/-- what an operation comes to -/
def DoTo (w0 : World) (Z : List Nat) (gs ms gp r c : Nat) (A : Option Addr) (M : Mod) (nm : List Nat) (xs : List StepV) (e : Ending) (w' : World) : Prop :=
  Only (ms :: foot gp r M.fl) w0 w' ∧ ∃ M' n told v kv', DoR M nm xs M' n told ∧ StoreAt w' Z gs ms gp r c A M' kv' ∧ e = .returned (.tuple #[v, errV n]) ∧ ToldR w' w0.heap.size v told
theorem ToldR.nil (w : World) (B : Nat) : ToldR w B (.slice none 0 0) [] := ⟨none, 0, [], rfl, World.ownsRow_nil _ _ _ _, .nil⟩
theorem runW_cons {bl : List Bool} {W : Wk} {x : StepV} {xs : List StepV} : runW bl W (x :: xs) = if (stepW bl W x).2 = 0 then runW bl (stepW bl W x).1 xs else stepW bl W x := rfl
set_option maxHeartbeats 8000000 in
theorem sdo_any {w0 : World} {Z : List Nat} {gs ms gp r c1 n0 B cs : Nat} {A1 As : Option Addr} {M : Mod} {kvs : KV} (h : StoreAt w0 Z gs ms gp r c1 A1 M kvs) (hZ : ms ∈ Z) (hZl : ∀ z ∈ Z, z < w0.heap.size) (hI : Inv n0 M) (hn0 : n0 ≤ 900000) (nm : List Nat) (hsm : Small nm) (hnm : nm.length ≤ 1000000)
    {l : List SV} (hl : StepsR w0 B As l) (hB : B ≤ w0.heap.size) (hll : l.length ≤ cs) (hl6 : l.length ≤ 1000000) :
    Calls Tryz.prog 16 #[.pointer (some ⟨gs, 0, none⟩), .string (strOf nm), .slice As l.length cs] w0 (DoTo w0 Z gs ms gp r c1 A1 M nm (l.map SV.x)) := by
  have HH := Lib.hid (And.intro h (And.intro hZ (And.intro hZl hI)))
  have HL := Lib.hid hl
  have HNM := Lib.hid (isName_any nm hsm hnm w0)
  have hkn : kvs.length ≤ 1000000 := by rw [h.obs.len]; have := hI.few; omega
  have HKN := Lib.hid hkn
  clear h hZ hZl hI hl hkn
  go_enter Tryz.func16, Tryz.ntmps16
  go_wp2_with fail
  refine HNM.out.mono ?_
  rintro e w1 ⟨rfl, hb1⟩
  have h1 := HH.out.1.below hb1
  have HB1 := Lib.hid hb1
  have H1 := Lib.hid h1
  clear h1 hb1 HNM
  have hrange : ∀ w', Below w0.heap.size w0 w' → (isNameB nm = false ∨ (l.map SV.x).length < 1 ∨ 16 < (l.map SV.x).length) → DoTo w0 Z gs ms gp r c1 A1 M nm (l.map SV.x) (.returned (.tuple #[.slice none 0 0, errV 1])) w' := fun w' hb hr => ⟨Only.of_below hb _, M, 1, [], _, kvs, .range hr, HH.out.1.below hb, rfl, ToldR.nil _ _⟩
  have HRG := Lib.hid hrange
  clear hrange
  simp only [errV] at HRG
  cases hnb : isNameB nm
  · have HN := Lib.hid hnb
    clear hnb
    go_wp2
    go_ret2
    exact HRG.out _ HB1.out (.inl HN.out)
  by_cases hlo : l.length < 1
  · have hd : decide ((l.length : Int) < 1) = true := decide_eq_true (by omega)
    have HN := Lib.hid hnb
    clear hnb
    go_wp2
    go_ret2
    exact HRG.out _ HB1.out (.inr (.inl (by simpa using hlo)))
  by_cases hhi : 16 < l.length
  · have hd : decide ((l.length : Int) < 1) = false := decide_eq_false (by omega)
    have hd2 : decide ((16 : Int) < (l.length : Int)) = true := decide_eq_true (by omega)
    have HN := Lib.hid hnb
    clear hnb
    go_wp2
    go_ret2
    exact HRG.out _ HB1.out (.inr (.inr (by simpa using hhi)))
  have hd : decide ((l.length : Int) < 1) = false := decide_eq_false (by omega)
  have hd2 : decide ((16 : Int) < (l.length : Int)) = false := decide_eq_false (by omega)
  have HN := Lib.hid hnb
  clear hnb HRG
  have HBG := Lib.hid (begin_any H1.out nm hnm (fun p hp => by
    have ho := HH.out.2.2.2.obs p hp
    have hg := HH.out.2.2.2.good
    have hcn := good_cnt hg
    have hsub : ∀ e ∈ p.2.e, e ∈ exts M.ob := fun e he => List.mem_flatMap.2 ⟨p, hp, he⟩
    have hpe := len_lens (L := p.2.e) (fun e he => hg.pos e (hsub e he))
    have := ho.e
    have := ho.d
    unfold needsB at this
    exact ⟨ho.d, by have := ho.e; have := ho.d; unfold needsB at *; omega⟩))
  go_wp2_with fail
  refine HBG.out.mono ?_
  rintro e w2 ⟨gw, rfl, hwk2, hb2⟩
  have hb02 : Below w0.heap.size w0 w2 := HB1.out.trans (hb2.mono HB1.out.size)
  have HW2 : Hid (Wkd w2 w0.heap.size gw gs (startW M (keyB nm))) := Lib.hid (by
    obtain ⟨c, ce, ct, D, E, T, av, kv, tv, hw⟩ := hwk2
    have hs := HB1.out.size
    exact ⟨c, ce, ct, D, E, T, av, kv, tv, ⟨hw.blk, by have := hw.gB; omega, row_weaken hw.dat hs, hw.ok, by
      rcases hw.map with e | ⟨mb, e, h1, h2⟩
      · exact .inl e
      · exact .inr ⟨mb, e, by omega, h2⟩, hw.att, row_weaken hw.ext hs, row_weaken hw.tol hs, hw.els.imp fun a b hr => hr.weaken hs⟩⟩)
  have HB2 := Lib.hid hb02
  clear hb02 hb2 hwk2 HBG
  go_wp2
  go_loopw [35] (fun i wr => ∃ (k : Nat) (Wk : Wk), k ≤ l.length ∧ i = .int .i64 k ∧ Wkd wr w0.heap.size gw gs Wk ∧ Below w0.heap.size w0 wr ∧ WB (n0 + k) Wk ∧ Wk.e = (startW M (keyB nm)).e ∧ runW M.bl (startW M (keyB nm)) (l.map SV.x) = runW M.bl Wk ((l.map SV.x).drop k)) (fun i _ => l.length - (intS i).toNat)
  case atStart => exact ⟨0, _, Nat.zero_le _, rfl, HW2.out, HB2.out, start_wb HH.out.2.2.2 _, rfl, by simp⟩
  case round =>
    obtain ⟨k, Wk, hk, rfl, hwk, hb, hwb, hwe, hrun⟩ := hrel
    obtain ⟨c, ce, ct, D, E, T, av, kv, tv, hw⟩ := hwk
    obtain ⟨wo, hwo⟩ : ∃ wo, wo = wr := ⟨_, rfl⟩
    subst hwo
    have HW := Lib.hid (And.intro hw (And.intro hb (And.intro hwb (And.intro hwe hrun))))
    have hgwl := hw.blk.lt
    clear hw hb hwb hwe hrun HW2
    have hwk1 : IntKind.i64.wrap ((k : Int) + 1) = (k : Int) + 1 := by rw [IntKind.wrap_i64]; omega
    by_cases hlt : k < l.length
    -- {R
    · obtain ⟨s, hs⟩ : ∃ s, l[k]? = some s := ⟨_, List.getElem?_eq_getElem hlt⟩
      obtain ⟨ad, rfl, hab, hc⟩ := (HL.out.since HW.out.2.1).get hs
      have HS := Lib.hid hs
      clear hs
      have hx := HL.out.els s (List.mem_of_getElem? HS.out)
      have hdr : (l.map SV.x).drop k = s.x :: (l.map SV.x).drop (k + 1) := by
        have hkl : k < (l.map SV.x).length := by simpa using hlt
        rw [List.drop_eq_getElem_cons hkl]
        congr 1
        have := HS.out
        rw [List.getElem?_eq_getElem hlt] at this
        injection this with this
        simp [this]
      have HDR := Lib.hid hdr
      have HD : Hid (∀ w3, Below wo.heap.size wo w3 → Calls Tryz.prog 44 #[.pointer (some ⟨gw, 0, none⟩), .agg #[.int .i64 s.x.kd, .int .i64 s.x.at_, .int .i64 s.x.ln, .string (strOf s.x.nm), .slice s.D s.x.dt.length s.c]] w3 (StepTo w3 w0.heap.size gw gs (stepW M.bl Wk s.x).1 (errV (stepW M.bl Wk s.x).2))) := Lib.hid fun w3 hb3 => by
        have hb03 : Below w0.heap.size w0 w3 := HW.out.2.1.trans (hb3.mono HW.out.2.1.size)
        have hbw := HW.out.2.2.1
        exact wdo_any (cx := s.c) (HW.out.1.below hb3) hb03.size ⟨hbw.d, by have := hbw.a; omega, by have := hbw.t; omega, fun k bs hg => by have := hbw.v _ (gget_some hg); simp only at this; omega⟩ (hx.since hb03) hB (fun w' hb' => blocked_any (HH.out.1.st.below (hb03.trans (hb'.mono hb03.size))) _)
      clear hx hdr
      go_wp2_with (have _h := hc; refine wpList_load_step rfl (.tmp 37) rfl _ rfl s hc ?_; clear _h hc)
      refine (HD.out _ (below_alloc_x _ _)).mono ?_
      rintro e w4 ⟨rfl, hwk4, hb4⟩
      have hb04 : Below w0.heap.size w0 w4 := (HW.out.2.1.alloc HW.out.2.1.size _).trans hb4
      have HW4 := Lib.hid (And.intro hwk4 hb04)
      clear hwk4 hb4 hb04 HD
      obtain ⟨hwb1, hwe1⟩ := step_wb (bl := M.bl) (x := s.x) HW.out.2.2.1
      have HWB := Lib.hid (And.intro hwb1 (hwe1.trans HW.out.2.2.2.1))
      have hrn := HW.out.2.2.2.2
      rw [HDR.out, runW_cons] at hrn
      clear hwb1 hwe1
      cases hz : (stepW M.bl Wk s.x).2 with
      | zero =>
        rw [if_pos hz] at hrn
        have HRN := Lib.hid hrn
        clear hrn hz
        simp only [errV]
        go_wp2
        go_roundw
        case rel => exact ⟨k + 1, _, by omega, by go_num, HW4.out.1, HW4.out.2, by have := HWB.out.1; rwa [Nat.add_assoc] at this, HWB.out.2, HRN.out⟩
        case measure => simp [intS]; omega
      | succ n =>
        have hne : ¬ ((stepW M.bl Wk s.x).2 = 0) := by rw [hz]; omega
        rw [if_neg hne] at hrn
        have hfin : DoTo w0 Z gs ms gp r c1 A1 M nm (l.map SV.x) (.returned (.tuple #[.slice none 0 0, errV (n + 1)])) w4 := by
          refine ⟨Only.of_below HW4.out.2 _, M, n + 1, [], _, kvs, ?_, HH.out.1.below HW4.out.2, rfl, ToldR.nil _ _⟩
          have he : (runW M.bl (startW M (keyB nm)) (l.map SV.x)).2 = n + 1 := by rw [hrn, hz]
          rw [← he]
          exact .step HN.out (by simp; omega) (by simp; omega) (by rw [he]; omega)
        have HFIN := Lib.hid hfin
        clear hfin hrn hz hne
        simp only [errV] at HFIN ⊢
        go_wp2
        go_ret2
        exact HFIN.out
    -- R}
    · obtain rfl : k = l.length := by omega
      have hrn := HW.out.2.2.2.2
      rw [List.drop_eq_nil_of_le (by simp)] at hrn
      have hrn' : runW M.bl (startW M (keyB nm)) (l.map SV.x) = (Wk, 0) := hrn
      obtain ⟨e1, e2, e3, e4⟩ := start_ext HH.out.2.2.2 (keyB nm)
      rw [← HW.out.2.2.2.1] at e1 e2 e3
      have HE := Lib.hid (end_any HW.out.1 HW.out.2.1 HH.out.1 HH.out.2.1 HH.out.2.2.1 HKN.out nm hnm HW.out.2.2.1.d e1 e2 e3 (fun hlt => by
        have := shed_ok HH.out.2.2.2 (keyB nm) (m := lens Wk.e - needsB Wk.d) (by rw [← HW.out.2.2.2.1]; omega)
        rw [← HW.out.2.2.2.1] at this
        exact this))
      have HRN := Lib.hid hrn'
      clear hrn hrn' e1 e2 e3 e4 hlt
      go_wp2_with fail
      refine HE.out.mono ?_
      rintro e w5 ⟨hon, es, fl', n, hfit, rfl, ⟨rfl, hst⟩ | ⟨rfl, ⟨kv', hst⟩, T5, ct5, tv5, c4, hown5, hels5⟩⟩
      · have hfin : DoTo w0 Z gs ms gp r c1 A1 M nm (l.map SV.x) (.returned (.tuple #[.slice none 0 0, errV 4])) w5 := by
          refine ⟨hon, M, 4, [], _, kvs, .full (es := es) (fl := fl') HN.out (by simp; omega) (by simp; omega) (by rw [HRN.out]) (by rw [HRN.out]; exact hfit), hst, rfl, ToldR.nil _ _⟩
        have HFIN := Lib.hid hfin
        clear hfin hon hfit hst
        simp only [errV] at HFIN ⊢
        go_wp2
        go_ret2
        exact HFIN.out
      · have hfin : DoTo w0 Z gs ms gp r c1 A1 M nm (l.map SV.x) (.returned (.tuple #[.slice T5 Wk.told.length ct5, errV 0])) w5 := by
          refine ⟨hon, endM M (keyB nm) Wk es fl', 0, Wk.told, _, kv', ?_, hst, rfl, T5, ct5, tv5, rfl, hown5, hels5⟩
          have hdn := DoR.done (M := M) (nm := nm) (xs := l.map SV.x) (es := es) (fl := fl') HN.out (by simp; omega) (by simp; omega) (by rw [HRN.out]) (by rw [HRN.out]; exact hfit)
          rw [HRN.out] at hdn
          exact hdn
        have HFIN := Lib.hid hfin
        clear hfin hon hfit hst hown5 hels5
        simp only [errV] at HFIN ⊢
        go_wp2
        go_ret2
        exact HFIN.out
end Go.Proofs.YtfbpfgbmlbkffaaGreat

/-
  slices.Sorted(maps.Keys(m)) at this program: contracts laid in plain words. Conditions: the map holds what it is said to.
-/
namespace Go.Proofs.YtfbpfgbmlbkffaaGreat
open Go.Shelf Go.RowKit Go.Maps Go.Sort Go.Shelf

def Lay.keys70_ren : Go.Shelf.Ren := ⟨fun | 7 => 70 | 10 => 95 | n => n, fun | 23 => 97 | 26 => 9 | 3 => 22 | 28 => 126 | 0 => 0 | 27 => 125 | 33 => 79 | 4 => 4 | n => n, fun | n => n⟩
theorem Lay.keys70 : Go.Proofs.SlLaysZ.n7 Tryz.prog Lay.keys70_ren := {
  mixed := by kernel_rfl
  f7 := ⟨Tryz.f70.name, by decide, Tryz.func70.trans (congrArg some (by kernel_rfl))⟩
  f10 := ⟨Tryz.f95.name, by decide, Tryz.func95.trans (congrArg some (by kernel_rfl))⟩
  t0 := Tryz.underlying0
  a0 := Tryz.isAgg0
  z0 := Tryz.sizeOf0
  v0 := Tryz.zeroValue0
  t4 := Tryz.underlying4
  a4 := Tryz.isAgg4
  z4 := Tryz.sizeOf4
  v4 := Tryz.zeroValue4
  t23 := Tryz.underlying97
  a23 := Tryz.isAgg97
  z23 := Tryz.sizeOf97
  v23 := Tryz.zeroValue97
  t26 := Tryz.underlying9
  a26 := Tryz.isAgg9
  z26 := Tryz.sizeOf9
  v26 := Tryz.zeroValue9
  t27 := Tryz.underlying125
  a27 := Tryz.isAgg125
  z27 := Tryz.sizeOf125
  v27 := Tryz.zeroValue125
  t28 := Tryz.underlying126
  a28 := Tryz.isAgg126
  z28 := Tryz.sizeOf126
  v28 := Tryz.zeroValue126
  t33 := Tryz.underlying79
  a33 := Tryz.isAgg79
  z33 := Tryz.sizeOf79
  v33 := Tryz.zeroValue79 }
def Lay.sorted69_ren : Go.Shelf.Ren := ⟨fun | 6 => 69 | 8 => 93 | 9 => 94 | 11 => 116 | 13 => 118 | 12 => 117 | 23 => 135 | 24 => 136 | 14 => 126 | 15 => 127 | 16 => 128 | 17 => 129 | 18 => 130 | 19 => 131 | 20 => 132 | 21 => 133 | 22 => 134 | 25 => 143 | 26 => 144 | 27 => 145 | 28 => 146 | 29 => 147 | 30 => 148 | 31 => 157 | n => n, fun | 26 => 9 | 28 => 126 | 24 => 85 | 0 => 0 | 3 => 3 | 37 => 46 | 48 => 164 | 50 => 119 | 4 => 4 | 40 => 177 | 39 => 176 | 45 => 181 | 5 => 5 | 9 => 9 | 51 => 193 | 55 => 197 | 57 => 210 | 58 => 211 | 33 => 79 | n => n, fun | n => n⟩
theorem Lay.sorted69 : Go.Proofs.SlLaysZ.n6 Tryz.prog Lay.sorted69_ren := {
  mixed := by kernel_rfl
  f6 := ⟨Tryz.f69.name, by decide, Tryz.func69.trans (congrArg some (by kernel_rfl))⟩
  f8 := ⟨Tryz.f93.name, by decide, Tryz.func93.trans (congrArg some (by kernel_rfl))⟩
  f11 := ⟨Tryz.f116.name, by decide, Tryz.func116.trans (congrArg some (by kernel_rfl))⟩
  t0 := Tryz.underlying0
  a0 := Tryz.isAgg0
  z0 := Tryz.sizeOf0
  v0 := Tryz.zeroValue0
  t24 := Tryz.underlying85
  a24 := Tryz.isAgg85
  z24 := Tryz.sizeOf85
  v24 := Tryz.zeroValue85
  t26 := Tryz.underlying9
  a26 := Tryz.isAgg9
  z26 := Tryz.sizeOf9
  v26 := Tryz.zeroValue9
  t28 := Tryz.underlying126
  a28 := Tryz.isAgg126
  z28 := Tryz.sizeOf126
  v28 := Tryz.zeroValue126
  i26 := by kernel_rfl }
def Lay.sort94_ren : Go.Shelf.Ren := ⟨fun | 6 => 94 | 8 => 118 | 9 => 117 | 19 => 135 | 20 => 136 | 21 => 126 | 22 => 127 | 23 => 128 | 24 => 129 | 25 => 130 | 26 => 131 | 27 => 132 | 28 => 133 | 29 => 134 | 36 => 143 | 31 => 144 | 32 => 145 | 37 => 146 | 38 => 147 | 39 => 148 | 41 => 157 | n => n, fun | 27 => 85 | 29 => 9 | 3 => 3 | 32 => 46 | 26 => 85 | 0 => 0 | 44 => 164 | 46 => 119 | 4 => 4 | 36 => 177 | 35 => 176 | 41 => 181 | 5 => 5 | 9 => 9 | 53 => 193 | 57 => 197 | 63 => 210 | 64 => 211 | n => n, fun | n => n⟩
theorem Lay.sort94 : Go.Proofs.SlLaysM.n6 Tryz.prog Lay.sort94_ren := {
  mixed := by kernel_rfl
  f6 := ⟨Tryz.f94.name, by decide, Tryz.func94.trans (congrArg some (by kernel_rfl))⟩
  f8 := Tryz.func118.trans (congrArg some (by kernel_rfl))
  f9 := ⟨Tryz.f117.name, by decide, Tryz.func117.trans (congrArg some (by kernel_rfl))⟩
  f19 := Tryz.func135.trans (congrArg some (by kernel_rfl))
  f20 := Tryz.func136.trans (congrArg some (by kernel_rfl))
  f21 := ⟨Tryz.f126.name, by decide, Tryz.func126.trans (congrArg some (by kernel_rfl))⟩
  f22 := ⟨Tryz.f127.name, by decide, Tryz.func127.trans (congrArg some (by kernel_rfl))⟩
  f23 := ⟨Tryz.f128.name, by decide, Tryz.func128.trans (congrArg some (by kernel_rfl))⟩
  f24 := ⟨Tryz.f129.name, by decide, Tryz.func129.trans (congrArg some (by kernel_rfl))⟩
  f25 := ⟨Tryz.f130.name, by decide, Tryz.func130.trans (congrArg some (by kernel_rfl))⟩
  f26 := ⟨Tryz.f131.name, by decide, Tryz.func131.trans (congrArg some (by kernel_rfl))⟩
  f27 := ⟨Tryz.f132.name, by decide, Tryz.func132.trans (congrArg some (by kernel_rfl))⟩
  f28 := ⟨Tryz.f133.name, by decide, Tryz.func133.trans (congrArg some (by kernel_rfl))⟩
  f29 := ⟨Tryz.f134.name, by decide, Tryz.func134.trans (congrArg some (by kernel_rfl))⟩
  f31 := Tryz.func144.trans (congrArg some (by kernel_rfl))
  f32 := Tryz.func145.trans (congrArg some (by kernel_rfl))
  f36 := ⟨Tryz.f143.name, by decide, Tryz.func143.trans (congrArg some (by kernel_rfl))⟩
  f37 := ⟨Tryz.f146.name, by decide, Tryz.func146.trans (congrArg some (by kernel_rfl))⟩
  f38 := ⟨Tryz.f147.name, by decide, Tryz.func147.trans (congrArg some (by kernel_rfl))⟩
  f39 := ⟨Tryz.f148.name, by decide, Tryz.func148.trans (congrArg some (by kernel_rfl))⟩
  f41 := ⟨Tryz.f157.name, by decide, Tryz.func157.trans (congrArg some (by kernel_rfl))⟩
  t0 := Tryz.underlying0
  a0 := Tryz.isAgg0
  z0 := Tryz.sizeOf0
  v0 := Tryz.zeroValue0
  t3 := Tryz.underlying3
  a3 := Tryz.isAgg3
  z3 := Tryz.sizeOf3
  v3 := Tryz.zeroValue3
  t4 := Tryz.underlying4
  a4 := Tryz.isAgg4
  z4 := Tryz.sizeOf4
  v4 := Tryz.zeroValue4
  t5 := Tryz.underlying5
  a5 := Tryz.isAgg5
  z5 := Tryz.sizeOf5
  v5 := Tryz.zeroValue5
  t9 := Tryz.underlying9
  a9 := Tryz.isAgg9
  z9 := Tryz.sizeOf9
  v9 := Tryz.zeroValue9
  t26 := Tryz.underlying85
  a26 := Tryz.isAgg85
  z26 := Tryz.sizeOf85
  v26 := Tryz.zeroValue85
  t27 := Tryz.underlying85
  a27 := Tryz.isAgg85
  z27 := Tryz.sizeOf85
  v27 := Tryz.zeroValue85
  t29 := Tryz.underlying9
  a29 := Tryz.isAgg9
  z29 := Tryz.sizeOf9
  v29 := Tryz.zeroValue9
  t32 := Tryz.underlying46
  a32 := Tryz.isAgg46
  z32 := Tryz.sizeOf46
  v32 := Tryz.zeroValue46
  t35 := Tryz.underlying176
  a35 := Tryz.isAgg176
  z35 := Tryz.sizeOf176
  v35 := Tryz.zeroValue176
  t36 := Tryz.underlying177
  a36 := Tryz.isAgg177
  z36 := Tryz.sizeOf177
  v36 := Tryz.zeroValue177
  t41 := Tryz.underlying181
  a41 := Tryz.isAgg181
  z41 := Tryz.sizeOf181
  v41 := Tryz.zeroValue181
  t44 := Tryz.underlying164
  a44 := Tryz.isAgg164
  z44 := Tryz.sizeOf164
  v44 := Tryz.zeroValue164
  t46 := Tryz.underlying119
  a46 := Tryz.isAgg119
  z46 := Tryz.sizeOf119
  v46 := Tryz.zeroValue119
  t53 := Tryz.underlying193
  a53 := Tryz.isAgg193
  z53 := Tryz.sizeOf193
  v53 := Tryz.zeroValue193
  t57 := Tryz.underlying197
  a57 := Tryz.isAgg197
  z57 := Tryz.sizeOf197
  v57 := Tryz.zeroValue197
  t63 := Tryz.underlying210
  a63 := Tryz.isAgg210
  z63 := Tryz.sizeOf210
  v63 := Tryz.zeroValue210
  t64 := Tryz.underlying211
  a64 := Tryz.isAgg211
  z64 := Tryz.sizeOf211
  v64 := Tryz.zeroValue211 }
/-- slices.Sort's two contracts at this dump, at the fence that asks nothing. -/
theorem Lay.sorts69 (m : Nat) : AnyZ.SortsIn Tryz.prog Lay.sorted69_ren Fence.wide m :=
  ⟨fun blk off cap ss W hH hblk hsz => callsIn_wide.2 (AnyM.slices_Sort_string Lay.sort94 blk off cap ss W hH hblk hsz),
   fun p cap W => callsIn_wide.2 (AnyM.slices_Sort_string_none Lay.sort94 p cap W)⟩

/-- **maps.Keys[map[string][]byte,string,[]byte], at whatever map, the nil one too:** a function value over ONE NEW BLOCK, which holds the map. -/
theorem Lay.maps_Keys_70 (mb : Option Nat) (W : World) : CallsIn Fence.wide 5 Tryz.prog 70 #[.map mb] W fun e w' => e = .returned (.func (.func 95) #[] #[.pointer (some ⟨W.heap.size, 0, none⟩)]) ∧ w' = W.alloc (.cells #[.map mb] 97) :=
  AnyZ.keys_in Lay.keys70 Fence.wide 5 trivial rfl mb W

set_option maxHeartbeats 1000000 in
/-- **slices.Sorted[string] AT WHAT maps.Keys[map[string][]byte,string,[]byte] HANDED BACK FOR A MAP THAT IS NOT nil** ('w': the world AHEAD of maps.Keys' call): A NEW SLICE THAT HOLDS THE MAP's KEYS, SORTED; nil just where it has none; nothing that lay before has turned. -/
theorem Lay.slices_Sorted_keys_69_70 {H : Type} (b nn : Nat) (D0 : DataW H) (R : Value → Option (DataW H × List MemPlace)) (w : World) (hown : w.ownsMap Tryz.prog 9 R b nn D0) (hmax : Maps.size D0 ≤ maxLen) (hbytes : Maps.size D0 * 16 ≤ 140737488355328) :
    CallsIn Fence.wide 5 Tryz.prog 69 #[.func (.func 95) #[] #[.pointer (some ⟨w.heap.size, 0, none⟩)]] (w.alloc (.cells #[.map (some b)] 97)) fun e w' => ∃ (v : Value) (ss : List (List UInt8)), e = .returned v ∧ ss.Perm (strKeys D0) ∧
      w'.ownsRow (w.alloc (.cells #[.map (some b)] 97)).heap.size 9 1 v ss.length ((ss.mergeSort (fun x y => decide (x ≤ y))).map encStr) ∧ (v = .slice none 0 0 ↔ ss = []) ∧ Below (w.alloc (.cells #[.map (some b)] 97)).heap.size (w.alloc (.cells #[.map (some b)] 97)) w' := by
  have hbl := hown.lt
  have hseq : SeqGives Fence.wide 2 Tryz.prog 95 #[.pointer (some ⟨w.heap.size, 0, none⟩)] encStr (fun ss => ss.Perm (strKeys D0)) (Maps.size D0) (w.alloc (.cells #[.map (some b)] 97)) :=
    AnyZ.keys_gives (ρ := Lay.keys70_ren) { Lay.keys70 with } Fence.wide _ trivial rfl (by omega) w.heap.size b nn D0 _ (by simp) (by simp) (by
      obtain ⟨es, clock, hb, Ft, hs, hD⟩ := hown
      exact ⟨es, clock, (Below.heap_alloc _ _ b hbl).trans hb, Ft, hs, hD⟩)
  exact AnyZ.sorted_in Lay.sorted69 Fence.wide 5 trivial trivial trivial trivial rfl (by omega) (Lay.sorts69 _) (enters_of Tryz.func94 (by kernel_rfl) rfl) 95 #[.pointer (some ⟨w.heap.size, 0, none⟩)] trivial (enters_of Tryz.func95 (by kernel_rfl) rfl) _ _ hmax hbytes _ hseq

set_option maxHeartbeats 1000000 in
/-- **.. AND FOR THE nil MAP: nil.** -/
theorem Lay.slices_Sorted_keys_nil_69_70 (w : World) :
    CallsIn Fence.wide 5 Tryz.prog 69 #[.func (.func 95) #[] #[.pointer (some ⟨w.heap.size, 0, none⟩)]] (w.alloc (.cells #[.map none] 97)) fun e w' => ∃ (v : Value) (ss : List (List UInt8)), e = .returned v ∧ ss = [] ∧
      w'.ownsRow (w.alloc (.cells #[.map none] 97)).heap.size 9 1 v ss.length ((ss.mergeSort (fun x y => decide (x ≤ y))).map encStr) ∧ (v = .slice none 0 0 ↔ ss = []) ∧ Below (w.alloc (.cells #[.map none] 97)).heap.size (w.alloc (.cells #[.map none] 97)) w' := by
  have hseq : SeqGives Fence.wide 2 Tryz.prog 95 #[.pointer (some ⟨w.heap.size, 0, none⟩)] encStr (fun ss : List (List UInt8) => ss = []) 0 (w.alloc (.cells #[.map none] 97)) :=
    AnyZ.keys_gives_nil (ρ := Lay.keys70_ren) { Lay.keys70 with } Fence.wide _ trivial rfl w.heap.size _ (by simp) (by simp)
  exact AnyZ.sorted_in Lay.sorted69 Fence.wide 5 trivial trivial trivial trivial rfl (by omega) (Lay.sorts69 _) (enters_of Tryz.func94 (by kernel_rfl) rfl) 95 #[.pointer (some ⟨w.heap.size, 0, none⟩)] trivial (enters_of Tryz.func95 (by kernel_rfl) rfl) _ 0 (Nat.zero_le _) (by omega) _ hseq


def Lay.keys72_ren : Go.Shelf.Ren := ⟨fun | 7 => 72 | 10 => 96 | n => n, fun | 23 => 64 | 26 => 9 | 3 => 109 | 28 => 126 | 0 => 0 | 27 => 125 | 33 => 79 | 4 => 4 | n => n, fun | n => n⟩
theorem Lay.keys72 : Go.Proofs.SlLaysZ.n7 Tryz.prog Lay.keys72_ren := {
  mixed := by kernel_rfl
  f7 := ⟨Tryz.f72.name, by decide, Tryz.func72.trans (congrArg some (by kernel_rfl))⟩
  f10 := ⟨Tryz.f96.name, by decide, Tryz.func96.trans (congrArg some (by kernel_rfl))⟩
  t0 := Tryz.underlying0
  a0 := Tryz.isAgg0
  z0 := Tryz.sizeOf0
  v0 := Tryz.zeroValue0
  t4 := Tryz.underlying4
  a4 := Tryz.isAgg4
  z4 := Tryz.sizeOf4
  v4 := Tryz.zeroValue4
  t23 := Tryz.underlying64
  a23 := Tryz.isAgg64
  z23 := Tryz.sizeOf64
  v23 := Tryz.zeroValue64
  t26 := Tryz.underlying9
  a26 := Tryz.isAgg9
  z26 := Tryz.sizeOf9
  v26 := Tryz.zeroValue9
  t27 := Tryz.underlying125
  a27 := Tryz.isAgg125
  z27 := Tryz.sizeOf125
  v27 := Tryz.zeroValue125
  t28 := Tryz.underlying126
  a28 := Tryz.isAgg126
  z28 := Tryz.sizeOf126
  v28 := Tryz.zeroValue126
  t33 := Tryz.underlying79
  a33 := Tryz.isAgg79
  z33 := Tryz.sizeOf79
  v33 := Tryz.zeroValue79 }
/-- **maps.Keys[map[string]*lamina/store.object,string,*lamina/store.object], at whatever map, the nil one too:** a function value over ONE NEW BLOCK, which holds the map. -/
theorem Lay.maps_Keys_72 (mb : Option Nat) (W : World) : CallsIn Fence.wide 5 Tryz.prog 72 #[.map mb] W fun e w' => e = .returned (.func (.func 96) #[] #[.pointer (some ⟨W.heap.size, 0, none⟩)]) ∧ w' = W.alloc (.cells #[.map mb] 64) :=
  AnyZ.keys_in Lay.keys72 Fence.wide 5 trivial rfl mb W

set_option maxHeartbeats 1000000 in
/-- **slices.Sorted[string] AT WHAT maps.Keys[map[string]*lamina/store.object,string,*lamina/store.object] HANDED BACK FOR A MAP THAT IS NOT nil** ('w': the world AHEAD of maps.Keys' call): A NEW SLICE THAT HOLDS THE MAP's KEYS, SORTED; nil just where it has none; nothing that lay before has turned. -/
theorem Lay.slices_Sorted_keys_69_72 {H : Type} (b nn : Nat) (D0 : DataW H) (R : Value → Option (DataW H × List MemPlace)) (w : World) (hown : w.ownsMap Tryz.prog 9 R b nn D0) (hmax : Maps.size D0 ≤ maxLen) (hbytes : Maps.size D0 * 16 ≤ 140737488355328) :
    CallsIn Fence.wide 5 Tryz.prog 69 #[.func (.func 96) #[] #[.pointer (some ⟨w.heap.size, 0, none⟩)]] (w.alloc (.cells #[.map (some b)] 64)) fun e w' => ∃ (v : Value) (ss : List (List UInt8)), e = .returned v ∧ ss.Perm (strKeys D0) ∧
      w'.ownsRow (w.alloc (.cells #[.map (some b)] 64)).heap.size 9 1 v ss.length ((ss.mergeSort (fun x y => decide (x ≤ y))).map encStr) ∧ (v = .slice none 0 0 ↔ ss = []) ∧ Below (w.alloc (.cells #[.map (some b)] 64)).heap.size (w.alloc (.cells #[.map (some b)] 64)) w' := by
  have hbl := hown.lt
  have hseq : SeqGives Fence.wide 2 Tryz.prog 96 #[.pointer (some ⟨w.heap.size, 0, none⟩)] encStr (fun ss => ss.Perm (strKeys D0)) (Maps.size D0) (w.alloc (.cells #[.map (some b)] 64)) :=
    AnyZ.keys_gives (ρ := Lay.keys72_ren) { Lay.keys72 with } Fence.wide _ trivial rfl (by omega) w.heap.size b nn D0 _ (by simp) (by simp) (by
      obtain ⟨es, clock, hb, Ft, hs, hD⟩ := hown
      exact ⟨es, clock, (Below.heap_alloc _ _ b hbl).trans hb, Ft, hs, hD⟩)
  exact AnyZ.sorted_in Lay.sorted69 Fence.wide 5 trivial trivial trivial trivial rfl (by omega) (Lay.sorts69 _) (enters_of Tryz.func94 (by kernel_rfl) rfl) 96 #[.pointer (some ⟨w.heap.size, 0, none⟩)] trivial (enters_of Tryz.func96 (by kernel_rfl) rfl) _ _ hmax hbytes _ hseq

set_option maxHeartbeats 1000000 in
/-- **.. AND FOR THE nil MAP: nil.** -/
theorem Lay.slices_Sorted_keys_nil_69_72 (w : World) :
    CallsIn Fence.wide 5 Tryz.prog 69 #[.func (.func 96) #[] #[.pointer (some ⟨w.heap.size, 0, none⟩)]] (w.alloc (.cells #[.map none] 64)) fun e w' => ∃ (v : Value) (ss : List (List UInt8)), e = .returned v ∧ ss = [] ∧
      w'.ownsRow (w.alloc (.cells #[.map none] 64)).heap.size 9 1 v ss.length ((ss.mergeSort (fun x y => decide (x ≤ y))).map encStr) ∧ (v = .slice none 0 0 ↔ ss = []) ∧ Below (w.alloc (.cells #[.map none] 64)).heap.size (w.alloc (.cells #[.map none] 64)) w' := by
  have hseq : SeqGives Fence.wide 2 Tryz.prog 96 #[.pointer (some ⟨w.heap.size, 0, none⟩)] encStr (fun ss : List (List UInt8) => ss = []) 0 (w.alloc (.cells #[.map none] 64)) :=
    AnyZ.keys_gives_nil (ρ := Lay.keys72_ren) { Lay.keys72 with } Fence.wide _ trivial rfl w.heap.size _ (by simp) (by simp)
  exact AnyZ.sorted_in Lay.sorted69 Fence.wide 5 trivial trivial trivial trivial rfl (by omega) (Lay.sorts69 _) (enters_of Tryz.func94 (by kernel_rfl) rfl) 96 #[.pointer (some ⟨w.heap.size, 0, none⟩)] trivial (enters_of Tryz.func96 (by kernel_rfl) rfl) _ 0 (Nat.zero_le _) (by omega) _ hseq



end Go.Proofs.YtfbpfgbmlbkffaaGreat

/-
  The names of a store's objects. Conditions: the store lies where it is said to; the prefix is empty.
-/
namespace Go.Proofs.YtfbpfgbmlbkffaaGreat
open Go.RowKit Go.BigFrame Go.Shelf Go.Sort Go.Maps
set_option linter.unusedSimpArgs false
set_option linter.unusedVariables false
set_option maxRecDepth 100000
def noS : ByteArray := strOf []
theorem noS_size : noS.size = 0 := rfl
theorem noS_empty : noS.toList.isEmpty = true := by
  have : noS = ByteArray.empty := rfl
  rw [this]
  decide +kernel
theorem prefix_nil (s : ByteArray) (w : World) : Calls Tryz.prog 98 #[.string s, .string noS] w fun e w' => e = .returned (.bool true) ∧ w = w' := by
  have h0 := noS_size
  have h1 := noS_empty
  have hd : decide ((0 : Int) ≤ (s.size : Int)) = true := decide_eq_true (by omega)
  go_enter Tryz.func98, Tryz.ntmps98
  go_wp2
  go_ret
  exact ⟨rfl, rfl⟩
theorem hasPrefix_nil (s : ByteArray) (w : World) : Calls Tryz.prog 75 #[.string s, .string noS] w fun e w' => e = .returned (.bool true) ∧ w = w' := by
  have hp := prefix_nil s
  have HP := Lib.hid hp
  clear hp
  go_enter Tryz.func75, Tryz.ntmps75
  go_wp2_with fail
  refine (HP.out w).mono ?_
  rintro e w' ⟨rfl, rfl⟩
  go_wp2
  go_ret
  exact ⟨rfl, rfl⟩
/-- the function that Names asks -/
def preV (g : Nat) : Value := .func (.func 74) #[] #[.pointer (some ⟨g, 0, none⟩)]
theorem pre_any (s : ByteArray) {g : Nat} {w : World} (hg : w.cell? ⟨g, 0, none⟩ = some (.string noS)) : Calls Tryz.prog 74 #[.string s, .pointer (some ⟨g, 0, none⟩)] w fun e w' => e = .returned (.bool false) ∧ w = w' := by
  have HP := Lib.hid (hasPrefix_nil s)
  go_enter Tryz.func74, Tryz.ntmps74
  go_wp2_with fail
  refine (HP.out w).mono ?_
  rintro e w' ⟨rfl, rfl⟩
  go_wp2
  go_ret
  exact ⟨rfl, rfl⟩
/-- a row of names -/
def NamR (w : World) (base : Nat) (v : Value) (ns : List Key) : Prop := w.ownsRow base 9 1 v ns.length (ns.map keyV)
theorem NamR.reads {w : World} {base c : Nat} {A : Option Addr} {ns : List Key} (h : NamR w base (.slice A ns.length c) ns) : Reads w w.heap.size 1 A ns.length (ns.map keyV) := Reads.of_own h
theorem NamR.form {w : World} {base : Nat} {v : Value} {ns : List Key} (h : NamR w base v ns) : ∃ A c, v = .slice A ns.length c ∧ ns.length ≤ c ∧ ∀ k ∈ rowOf v, base ≤ k := by
  rcases h.2 with ⟨e, h0⟩ | ⟨g, c, cur, e, hb, _, hx, _⟩
  · exact ⟨none, 0, by rw [e, h0], by omega, fun k hk => by rw [e] at hk; simp [rowOf, Value.ownBlock] at hk⟩
  · exact ⟨_, c, e, hx, fun k hk => by rw [e] at hk; simp [rowOf, Value.ownBlock] at hk; omega⟩
theorem NamR.below {w w' : World} {base : Nat} {v : Value} {ns : List Key} (h : NamR w base v ns) (hb : Below w.heap.size w w') : NamR w' base v ns := row_of h fun k hk => hb.block k (row_under h k hk)
theorem index_nil {w : World} {B c g : Nat} {A : Option Addr} {ns : List Key} (h : Reads w B 1 A ns.length (ns.map keyV)) (hl : ns.length ≤ 1000000) (hg : w.cell? ⟨g, 0, none⟩ = some (.string noS)) :
    Calls Tryz.prog 97 #[.slice A ns.length c, preV g] w fun e w' => e = .returned (.int .i64 (-1)) ∧ w = w' := by
  have HR := Lib.hid h
  have HG := Lib.hid hg
  clear h hg
  unfold preV
  go_enter Tryz.func97, Tryz.ntmps97
  go_wp2
  go_loopw [8] (fun i wr => ∃ k : Nat, k ≤ ns.length ∧ i = .int .i64 k ∧ wr = w) (fun i _ => ns.length - (intS i).toNat)
  case atStart => exact ⟨0, by omega, rfl, rfl⟩
  case round =>
    obtain ⟨k, hk, rfl, rfl⟩ := hrel
    by_cases hlt : k < ns.length
    · obtain ⟨ad, u, rfl, hab, hu, hc⟩ := HR.out.at_ hlt
      obtain ⟨s, rfl⟩ : ∃ s, u = .string s := by
        simp only [List.getElem?_map] at hu
        cases hx : ns[k]? with
        | none => rw [hx] at hu; cases hu
        | some x => rw [hx] at hu; simp at hu; exact ⟨_, hu.symm⟩
      have HP := Lib.hid (pre_any s HG.out)
      have hwk : IntKind.i64.wrap ((k : Int) + 1) = (k : Int) + 1 := by rw [IntKind.wrap_i64]; omega
      clear hu
      go_wp2_with fail
      refine HP.out.mono ?_
      rintro e w' ⟨rfl, rfl⟩
      go_wp2
      go_roundw
      case rel => exact ⟨k + 1, by omega, by go_num, trivial⟩
      case measure => simp [intS]; omega
    · obtain rfl : k = ns.length := by omega
      go_wp2
      go_ret
      exact ⟨rfl, rfl⟩
theorem delete_nil {w : World} {B c g : Nat} {A : Option Addr} {ns : List Key} (h : Reads w B 1 A ns.length (ns.map keyV)) (hl : ns.length ≤ 1000000) (hg : w.cell? ⟨g, 0, none⟩ = some (.string noS)) :
    Calls Tryz.prog 73 #[.slice A ns.length c, preV g] w fun e w' => e = .returned (.slice A ns.length c) ∧ w = w' := by
  have HI := Lib.hid (index_nil (c := c) h hl hg)
  clear h hg
  unfold preV at HI ⊢
  go_enter Tryz.func73, Tryz.ntmps73
  go_wp2_with fail
  refine HI.out.mono ?_
  rintro e w' ⟨rfl, rfl⟩
  go_wp2
  go_ret
  exact ⟨rfl, rfl⟩
theorem strKeys_enc (l : KV) : strKeys (.map (l.map encKV)) = l.map (·.1) := by
  simp only [strKeys, List.map_map]
  congr 1
theorem size_enc (l : KV) : Maps.size (DataW.map (l.map encKV)) = l.length := by
  simp [Maps.size]
theorem sorted_keys {b : Nat} {l : KV} (w : World) (h : SMap Tryz.prog 9 w b l) (hl : l.length ≤ 1000000) :
    Calls Tryz.prog 69 #[.func (.func 96) #[] #[.pointer (some ⟨w.heap.size, 0, none⟩)]] (w.alloc (.cells #[.map (some b)] 64)) fun e w' => ∃ v ns, e = .returned v ∧ ns.Perm (l.map (·.1)) ∧ ns.Pairwise (fun x y => leB x y = true) ∧ NamR w' w.heap.size v ns ∧ Below w.heap.size w w' := by
  refine (callsIn_wide.1 (Lay.slices_Sorted_keys_69_72 b l.length (.map (l.map encKV)) heldR w h.owns (by rw [size_enc]; simp only [maxLen]; omega) (by rw [size_enc]; omega))).mono ?_
  rintro e w' ⟨v, ss, rfl, hS, hrow, hnil, hb⟩
  have ha : Below w.heap.size w (w.alloc (.cells #[.map (some b)] 64)) := (Below.refl _ _).alloc (Nat.le_refl _) _
  refine ⟨v, ss.mergeSort leB, rfl, ?_, ?_, ?_, ha.trans (hb.mono (by simp))⟩
  · rw [strKeys_enc] at hS
    exact (List.mergeSort_perm _ _).trans hS
  · exact List.pairwise_mergeSort (fun a b c h1 h2 => by simp only [leB, decide_eq_true_eq] at *; exact List.le_trans h1 h2) (fun a b => by simp only [leB, Bool.or_eq_true, decide_eq_true_eq]; exact List.le_total a b) _
  · refine row_weaken ?_ (show w.heap.size ≤ (w.alloc (.cells #[.map (some b)] 64)).heap.size by simp)
    rw [List.length_mergeSort]
    exact hrow
theorem keys_call (mb : Option Nat) (w : World) : Calls Tryz.prog 72 #[.map mb] w fun e w' => e = .returned (.func (.func 96) #[] #[.pointer (some ⟨w.heap.size, 0, none⟩)]) ∧ w' = w.alloc (.cells #[.map mb] 64) :=
  callsIn_wide.1 (Lay.maps_Keys_72 mb w)
theorem names_any {w : World} {gs ms gp r c : Nat} {A : Option Addr} {bl fl : List Bool} {kv : KV} (h : StAt w gs ms gp r c A bl fl kv) (hl : kv.length ≤ 1000000) :
    Calls Tryz.prog 39 #[.pointer (some ⟨gs, 0, none⟩), .string noS] w fun e w' => ∃ v ns, e = .returned v ∧ ns.Perm (kv.map (·.1)) ∧ ns.Pairwise (fun x y => leB x y = true) ∧ NamR w' w.heap.size v ns ∧ Below w.heap.size w w' := by
  have hb1 : Below w.heap.size w (w.alloc (.cells #[.string noS] 9)) := (Below.refl _ _).alloc (Nat.le_refl _) _
  have h1 := h.below hb1
  have c0 := h1.c0
  have q0 : (w.alloc (.cells #[.string noS] 9)).cell? ⟨w.heap.size, 0, none⟩ = some (.string noS) := (Blk.new w 9 #[.string noS]).cell 0
  obtain ⟨w1, hw1⟩ : ∃ w1, w1 = w.alloc (.cells #[.string noS] 9) := ⟨_, rfl⟩
  rw [← hw1] at hb1 h1 c0 q0
  have HW1 := Lib.hid hw1
  have HB1 := Lib.hid (And.intro hb1 q0)
  have HK := Lib.hid (keys_call (some ms) w1)
  have HS := Lib.hid (sorted_keys w1 h1.map hl)
  have hwl : w.heap.size < w1.heap.size := by rw [hw1]; simp
  clear hw1 hb1 h1 h q0
  go_enter Tryz.func39, Tryz.ntmps39
  go_wp2_with (first | rw [← HW1.out])
  refine HK.out.mono ?_
  rintro e w2 ⟨rfl, rfl⟩
  go_wp2_with fail
  refine HS.out.mono ?_
  rintro e w3 ⟨v, ns, rfl, hp, hs, hrow, hb⟩
  obtain ⟨A3, c3, rfl, hc3, hov⟩ := hrow.form
  have q3 : w3.cell? ⟨w.heap.size, 0, none⟩ = some (.string noS) := (hb.cell (p := ⟨w.heap.size, 0, none⟩) hwl).trans HB1.out.2
  have hnl : ns.length ≤ 1000000 := by rw [hp.length_eq, List.length_map]; exact hl
  have HD := Lib.hid (delete_nil (c := c3) hrow.reads hnl q3)
  have HX := Lib.hid (And.intro hp (And.intro hs (And.intro hrow hb)))
  clear hp hs hrow hb hov q3
  unfold preV at HD
  go_wp2_with fail
  refine HD.out.mono ?_
  rintro e w4 ⟨rfl, rfl⟩
  go_wp2
  go_ret
  obtain ⟨hp, hs, hrow, hb⟩ := HX.out
  exact ⟨_, ns, rfl, hp, hs, row_weaken hrow (by omega), HB1.out.1.trans (hb.mono (by omega))⟩
end Go.Proofs.YtfbpfgbmlbkffaaGreat

/-
  A script of operations, read from memory; what is too large. Conditions: the script reads as it is said to.
-/
namespace Go.Proofs.YtfbpfgbmlbkffaaGreat
open Go.RowKit Go.BigFrame
set_option linter.unusedSimpArgs false
set_option linter.unusedVariables false
set_option maxRecDepth 100000
/-- a step, as it came in -/
structure SRaw (w : World) (s : SV) : Prop where
  dat : Bytes w w.heap.size s.D s.x.dt.length s.x.dt
  nm : Small s.x.nm
  at1 : -9223372036854775808 ≤ s.x.at_
  at2 : s.x.at_ ≤ 9223372036854775807
  ln1 : -9223372036854775808 ≤ s.x.ln
  ln2 : s.x.ln ≤ 9223372036854775807
  nl : s.x.nm.length ≤ 9223372036854775807
  dl : s.x.dt.length ≤ 9223372036854775807
theorem SRaw.since {w w' : World} {s : SV} (h : SRaw w s) (hb : Below w.heap.size w w') : SRaw w' s := ⟨(h.dat.since hb).more hb.size, h.nm, h.at1, h.at2, h.ln1, h.ln2, h.nl, h.dl⟩
structure StepsW (w : World) (A : Option Addr) (l : List SV) : Prop where
  row : Reads w w.heap.size 5 A l.length (l.flatMap SV.cs)
  els : ∀ s ∈ l, SRaw w s
theorem StepsW.since {w w' : World} {A : Option Addr} {l : List SV} (h : StepsW w A l) (hb : Below w.heap.size w w') : StepsW w' A l := ⟨(h.row.since hb).more hb.size, fun s hs => (h.els s hs).since hb⟩
/-- small enough -/
def StepB (s : SV) : Prop := s.x.dt.length ≤ 2000 ∧ s.x.nm.length ≤ 100
theorem StepsW.tame {w : World} {A : Option Addr} {l : List SV} (h : StepsW w A l) (hb : ∀ s ∈ l, StepB s) : StepsR w w.heap.size A l := ⟨h.row, fun s hs => by
  have h1 := h.els s hs
  have h2 := hb s hs
  exact ⟨h1.dat, h1.nm, h1.at1, h1.at2, h1.ln1, h1.ln2, by have := h2.2; omega, by have := h2.1; omega⟩⟩
theorem flat5 {w : World} {A : Option Addr} {l : List SV} (h : Reads w w.heap.size 5 A l.length (l.flatMap SV.cs)) {k : Nat} {s : SV} (hk : l[k]? = some s) : ∃ ad, A = some ad ∧ ad.block < w.heap.size ∧ ∀ j v, s.cs[j]? = some v → w.cell? ((ad.add (k * 5)).add j) = some v := by
  have hl := (List.getElem?_eq_some_iff.1 hk).1
  obtain ⟨ad, e, hb, hc⟩ := h.2 (by omega)
  refine ⟨ad, e, hb, fun j v hj => ?_⟩
  rw [add_of_add]
  have hj5 : j < 5 := by have := (List.getElem?_eq_some_iff.1 hj).1; rwa [SV.cs_len] at this
  exact hc _ v (by rw [flat_at SV.cs 5 SV.cs_len l k j s hk hj5]; exact hj)
structure OpV where
  nm : List Nat
  A : Option Addr
  c : Nat
  l : List SV
  blk : Int
def OpV.cs (o : OpV) : List Value := [.string (strOf o.nm), .slice o.A o.l.length o.c, .int .i64 o.blk]
theorem OpV.cs_len (o : OpV) : o.cs.length = 3 := rfl
structure OpV.Ok (o : OpV) (W : World) : Prop where
  cap : o.l.length ≤ o.c
  capm : o.c ≤ 9223372036854775807
  steps : StepsW W o.A o.l
  nm : Small o.nm
  nml : o.nm.length ≤ 9223372036854775807
theorem OpV.Ok.since {W W' : World} {o : OpV} (h : o.Ok W) (hb : Below W.heap.size W W') : o.Ok W' := ⟨h.cap, h.capm, h.steps.since hb, h.nm, h.nml⟩
structure OpsR (W : World) (A : Option Addr) (os : List OpV) : Prop where
  row : Reads W W.heap.size 3 A os.length (os.flatMap OpV.cs)
  ok : ∀ o ∈ os, o.Ok W
theorem OpsR.since {W W' : World} {A : Option Addr} {os : List OpV} (h : OpsR W A os) (hb : Below W.heap.size W W') : OpsR W' A os := ⟨(h.row.since hb).more hb.size, fun o ho => (h.ok o ho).since hb⟩
theorem OpsR.get {W : World} {A : Option Addr} {os : List OpV} (h : OpsR W A os) {k : Nat} {o : OpV} (hk : os[k]? = some o) : ∃ ad, A = some ad ∧ ad.block < W.heap.size ∧ ∀ j v, o.cs[j]? = some v → W.cell? ((ad.add (k * 3)).add j) = some v := by
  have hl := (List.getElem?_eq_some_iff.1 hk).1
  obtain ⟨ad, e, hb, hc⟩ := h.row.2 (by omega)
  refine ⟨ad, e, hb, fun j v hj => ?_⟩
  rw [add_of_add]
  have hj5 : j < 3 := by have := (List.getElem?_eq_some_iff.1 hj).1; rwa [OpV.cs_len] at this
  exact hc _ v (by rw [flat_at OpV.cs 3 OpV.cs_len os k j o hk hj5]; exact hj)
theorem run_loadVar_op (w : World) (p : Addr) (s : OpV) (hc : ∀ j v, s.cs[j]? = some v → w.cell? (p.add j) = some v) : (loadVar 49 p).run Tryz.prog w = .ok (.agg s.cs.toArray) w := by
  have hl : (loadCells p 3).run Tryz.prog w = .ok s.cs.toArray w := run_loadCells_list (P := Tryz.prog) w p s.cs hc
  have hagg : (isAgg 49).run Tryz.prog w = .ok true w := by
    unfold isAgg
    rw [Sem.run_bind, run_underlying Tryz.underlying49 w]
    rfl
  have hi : (Tryz.prog.info? 49).map (·.size) = some 3 := by kernel_rfl
  cases hq : Tryz.prog.info? 49 with
  | none => simp [hq] at hi
  | some i =>
    have hs : i.size = 3 := by simpa [hq] using hi
    simp [loadVar, Sem.run_bind, hagg, sizeOf, typeInfo, hq, hs, hl]
theorem wpList_load_op {ops : Array Oper} {rest : List Oper} {op : Oper} {a : Act} {w : World} {Q : Exit → Act → World → Prop} (hgd : op.guard = none) (x : Operand) (ho : op.op = .load 49 x)
    (p : Addr) (hx : a.eval x = .pointer (some p)) (s : OpV) (hc : ∀ j v, s.cs[j]? = some v → w.cell? (p.add j) = some v)
    (h : wpList Tryz.prog ops Q rest (a.put op.dst (.agg #[.string (strOf s.nm), .slice s.A s.l.length s.c, .int .i64 s.blk])) w) : wpList Tryz.prog ops Q (op :: rest) a w :=
  wpList_plain hgd fun _ hK => by
    unfold Oper.wp execOp
    simp only [ho, hx, Instr.loadAt, Instr.sureAddr, Sem.run_bind, Sem.run_pure, Result.andThen_ok, run_loadVar_op w p s hc]
    exact hK _ _ h
def OpB (o : OpV) : Prop := o.l.length ≤ 20 ∧ o.nm.length ≤ 100 ∧ ∀ s ∈ o.l, StepB s
set_option maxHeartbeats 8000000 in
theorem large_any {w : World} {A : Option Addr} {c : Nat} {os : List OpV} (hR : OpsR w A os) (hcp : os.length ≤ c) (hn : os.length ≤ 9223372036854775807) :
    Calls Tryz.prog 13 #[.slice A os.length c] w fun e w' => (e = .returned (.bool true) ∨ (e = .returned (.bool false) ∧ os.length ≤ 41 ∧ ∀ o ∈ os, OpB o)) ∧ Below w.heap.size w w' := by
  have HR := Lib.hid hR
  clear hR
  go_enter Tryz.func13, Tryz.ntmps13
  go_wp2
  go_loopw [9] (fun i wr => ∃ k : Nat, k ≤ os.length ∧ k ≤ 41 ∧ i = .int .i64 k ∧ Below w.heap.size w wr ∧ ∀ (j : Nat) (o : OpV), j < k → os[j]? = some o → OpB o) (fun i _ => os.length - (intS i).toNat)
  case atStart => exact ⟨0, by omega, by omega, rfl, Below.refl _ _, fun j o h => by omega⟩
  case round =>
    obtain ⟨k, hk, hk61, rfl, hb, hall⟩ := hrel
    have HB := Lib.hid (And.intro hb hall)
    have hwk : IntKind.i64.wrap ((k : Int) + 1) = (k : Int) + 1 := by rw [IntKind.wrap_i64]; omega
    by_cases hlt : k < os.length
    · obtain ⟨o, ho⟩ : ∃ o, os[k]? = some o := ⟨_, List.getElem?_eq_getElem hlt⟩
      obtain ⟨ad, rfl, hl, hc⟩ := (HR.out.since hb).get ho
      have hok := (HR.out.since hb).ok o (List.mem_of_getElem? ho)
      have HO := Lib.hid (And.intro ho hok)
      have hss := strOf_size o.nm
      have hc1 := hok.cap
      have hc2 := hok.capm
      have hc3 := hok.nml
      clear hb hall ho hok
      by_cases h60 : (40 : Int) < (k : Int)
      · have hd : decide ((40 : Int) < (k : Int)) = true := decide_eq_true h60
        go_wp2_with (have _h := hc; refine wpList_load_op rfl (.tmp 12) rfl _ rfl o hc ?_; clear _h hc)
        go_ret
        exact ⟨.inl rfl, HB.out.1.alloc HB.out.1.size _⟩
      · have hd : decide ((40 : Int) < (k : Int)) = false := decide_eq_false h60
        by_cases h20 : (20 : Int) < (o.l.length : Int)
        · have hd2 : decide ((20 : Int) < (o.l.length : Int)) = true := decide_eq_true h20
          go_wp2_with (have _h := hc; refine wpList_load_op rfl (.tmp 12) rfl _ rfl o hc ?_; clear _h hc)
          go_ret
          exact ⟨.inl rfl, HB.out.1.alloc HB.out.1.size _⟩
        · have hd2 : decide ((20 : Int) < (o.l.length : Int)) = false := decide_eq_false h20
          by_cases h100 : (100 : Int) < (o.nm.length : Int)
          · have hd3 : decide ((100 : Int) < (o.nm.length : Int)) = true := decide_eq_true h100
            go_wp2_with (have _h := hc; refine wpList_load_op rfl (.tmp 12) rfl _ rfl o hc ?_; clear _h hc)
            go_ret
            exact ⟨.inl rfl, HB.out.1.alloc HB.out.1.size _⟩
          · have hd3 : decide ((100 : Int) < (o.nm.length : Int)) = false := decide_eq_false h100
            have HB1 : Hid (∀ cs t, Below w.heap.size w (wr.alloc (.cells cs t))) := Lib.hid fun cs t => HB.out.1.alloc HB.out.1.size _
            obtain ⟨wo, hwo⟩ : ∃ wo, wo = wr := ⟨_, rfl⟩
            subst hwo
            go_wp2_with (have _h := hc; refine wpList_load_op rfl (.tmp 12) rfl _ rfl o hc ?_; clear _h hc)
            go_loopw [31] (fun i wr => ∃ q : Nat, q ≤ o.l.length ∧ i = .int .i64 q ∧ Below w.heap.size w wr ∧ ∀ (j : Nat) (s : SV), j < q → o.l[j]? = some s → StepB s) (fun i _ => o.l.length - (intS i).toNat)
            case atStart => exact ⟨0, by omega, rfl, HB1.out _ _, fun j s h => by omega⟩
            case round =>
              obtain ⟨q, hq, rfl, hb, hall⟩ := hrel
              have HBI := Lib.hid (And.intro hb hall)
              have hwq : IntKind.i64.wrap ((q : Int) + 1) = (q : Int) + 1 := by rw [IntKind.wrap_i64]; omega
              by_cases hlq : q < o.l.length
              · obtain ⟨s, hs⟩ : ∃ s, o.l[q]? = some s := ⟨_, List.getElem?_eq_getElem hlq⟩
                have hstp : StepsW wr o.A o.l := ((HR.out.since hb).ok o (List.mem_of_getElem? HO.out.1)).steps
                have hsr := hstp.els s (List.mem_of_getElem? hs)
                obtain ⟨ad2, hA2, hl2, hc5⟩ := flat5 hstp.row hs
                have HS := Lib.hid hs
                have hsz := strOf_size s.x.nm
                have hx1 := hsr.dl
                have hx2 := hsr.nl
                generalize o.A = oA at *
                subst hA2
                clear hb hall hs hstp hsr
                by_cases hbd : (2000 : Int) < (s.x.dt.length : Int)
                · have hd4 : decide ((2000 : Int) < (s.x.dt.length : Int)) = true := decide_eq_true hbd
                  go_wp2_with (have _h := hc5; refine wpList_load_step rfl (.tmp 33) rfl _ rfl s hc5 ?_; clear _h hc5)
                  go_ret
                  exact ⟨.inl rfl, HBI.out.1.alloc HBI.out.1.size _⟩
                · have hd4 : decide ((2000 : Int) < (s.x.dt.length : Int)) = false := decide_eq_false hbd
                  by_cases hbn : (100 : Int) < (s.x.nm.length : Int)
                  · have hd5 : decide ((100 : Int) < (s.x.nm.length : Int)) = true := decide_eq_true hbn
                    go_wp2_with (have _h := hc5; refine wpList_load_step rfl (.tmp 33) rfl _ rfl s hc5 ?_; clear _h hc5)
                    go_ret
                    exact ⟨.inl rfl, HBI.out.1.alloc HBI.out.1.size _⟩
                  · have hd5 : decide ((100 : Int) < (s.x.nm.length : Int)) = false := decide_eq_false hbn
                    by_cases hba : (2000 : Int) < s.x.at_
                    · have hd6 : decide ((2000 : Int) < s.x.at_) = true := decide_eq_true hba
                      by_cases hbb : s.x.at_ ≤ 65536
                      · have hd7 : decide (s.x.at_ ≤ 65536) = true := decide_eq_true hbb
                        go_wp2_with (have _h := hc5; refine wpList_load_step rfl (.tmp 33) rfl _ rfl s hc5 ?_; clear _h hc5)
                        go_ret
                        exact ⟨.inl rfl, HBI.out.1.alloc HBI.out.1.size _⟩
                      · have hd7 : decide (s.x.at_ ≤ 65536) = false := decide_eq_false hbb
                        go_wp2_with (have _h := hc5; refine wpList_load_step rfl (.tmp 33) rfl _ rfl s hc5 ?_; clear _h hc5)
                        go_roundw
                        case rel =>
                          refine ⟨q + 1, by omega, by go_num, HBI.out.1.alloc HBI.out.1.size _, fun j s' hj hs' => ?_⟩
                          by_cases hjq : j = q
                          · subst hjq
                            rw [HS.out] at hs'
                            injection hs' with hs'
                            subst hs'
                            exact ⟨by omega, by omega⟩
                          · exact HBI.out.2 j s' (by omega) hs'
                        case measure => simp [intS]; omega
                    · have hd6 : decide ((2000 : Int) < s.x.at_) = false := decide_eq_false hba
                      go_wp2_with (have _h := hc5; refine wpList_load_step rfl (.tmp 33) rfl _ rfl s hc5 ?_; clear _h hc5)
                      go_roundw
                      case rel =>
                        refine ⟨q + 1, by omega, by go_num, HBI.out.1.alloc HBI.out.1.size _, fun j s' hj hs' => ?_⟩
                        by_cases hjq : j = q
                        · subst hjq
                          rw [HS.out] at hs'
                          injection hs' with hs'
                          subst hs'
                          exact ⟨by omega, by omega⟩
                        · exact HBI.out.2 j s' (by omega) hs'
                      case measure => simp [intS]; omega
              · obtain rfl : q = o.l.length := by omega
                clear hb hall
                go_wp2
                go_roundw
                case rel =>
                  refine ⟨k + 1, by omega, by omega, by go_num, HBI.out.1, fun j o' hj ho' => ?_⟩
                  by_cases hjk : j = k
                  · subst hjk
                    rw [HO.out.1] at ho'
                    injection ho' with ho'
                    subst ho'
                    exact ⟨by omega, by omega, fun s hs => by
                      obtain ⟨j, hj⟩ := List.mem_iff_getElem?.1 hs
                      exact HBI.out.2 j s (List.getElem?_eq_some_iff.1 hj).1 hj⟩
                  · exact HB.out.2 j o' (by omega) ho'
                case measure => simp [intS]; omega
    · obtain rfl : k = os.length := by omega
      go_wp2
      go_ret
      exact ⟨.inr ⟨rfl, hk61, fun o ho => by
        obtain ⟨j, hj⟩ := List.mem_iff_getElem?.1 ho
        exact HB.out.2 j o (List.getElem?_eq_some_iff.1 hj).1 hj⟩, HB.out.1⟩
end Go.Proofs.YtfbpfgbmlbkffaaGreat
